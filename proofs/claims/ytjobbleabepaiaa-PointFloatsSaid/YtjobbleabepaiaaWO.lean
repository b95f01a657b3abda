/- Shift. -/
import Derived.Test.YtjobbleabepaiaaWN
namespace Go.Proofs.Ytjobbleabepaiaa
open Go.RowKit Go.Shelf

/-- check of one design, behind two boxes -/
theorem check_res (h : Int) (p : Option Addr) (c : Nat) (xs : List Int) (w : World) (o o2 : Obj) (hr : Reads w (.slice p xs.length c) xs) (e : Int) (he : checkE h xs = e) :
    Calls Try.prog 66 #[.slice (some ⟨w.heap.size + 1 + 1, 0, none⟩) 1 1] (((w.alloc o).alloc o2).alloc (.cells #[.int .i64 h, .slice p xs.length c] 24)) fun e' w' => e' = .returned (.int .i64 e) ∧ Below (w.heap.size + 1 + 1) ((w.alloc o).alloc o2) w' := by
  have := check_one ⟨h, p, c, xs⟩ ((w.alloc o).alloc o2) (hr.below (((Below.refl _ _).alloc (Nat.le_refl _) o).alloc (by simp) o2))
  simp only [World.size_alloc] at this
  refine this.mono ?_
  rintro e' w' ⟨rfl, hb⟩
  exact ⟨by rw [show (⟨h, p, c, xs⟩ : Dsg).e = checkE h xs from rfl, he], hb⟩
/-- an error with an empty design -/
def ErrD (r : Int) (w : World) (e : Ending) (w' : World) : Prop := e = .returned (.tuple #[.agg #[.int .i64 0, .slice none 0 0], .int .i64 r]) ∧ Below w.heap.size w w'
/-- a new design, and no error -/
def OkD (n : Nat) (ys : List Nat) (w : World) (e : Ending) (w' : World) : Prop :=
  ∃ R, e = .returned (.tuple #[.agg #[.int .i64 (n : Int), .slice (some ⟨R, 0, none⟩) ys.length ys.length], .int .i64 0]) ∧ w.heap.size ≤ R ∧ NatBlk w' R ys ∧ Below w.heap.size w w'

set_option maxHeartbeats 1000000 in
theorem Shift_err (h : Int) (p : Option Addr) (c : Nat) (xs : List Int) (P H : Int) (w : World) (hr : Reads w (.slice p xs.length c) xs) (r : Int) (he : checkE h xs = r) (hne : r ≠ 0) :
    Calls Try.prog 38 #[.agg #[.int .i64 h, .slice p xs.length c], .int .i64 P, .int .i64 H] w (ErrD r w) := by
  have Hc := fun o o2 => check_res h p c xs w o o2 hr r he
  have hne' : (r != 0) = true := by simpa using hne
  clear he hr hne
  go_enter Try.func38, Try.ntmps38
  go_wp2_with fail
  refine (Hc _ _).mono ?_
  rintro e w1 ⟨rfl, hb1⟩
  have q : ResBox w1 (w.heap.size + 1) := ((ResBox.new (w.alloc (.cells #[.int .i64 h, .slice p xs.length c] 24))).below hb1 (by simp)) |> (fun h => by simpa using h)
  have k0 := q.c0
  have k1 := q.c1
  have k2 := q.f 0
  have k3 := q.f 1
  have Hb := Lib.hid hb1
  clear hb1 q
  go_wp2_with fail
  refine bodyPost_ret (v := .tuple #[.agg #[.int .i64 0, .slice none 0 0], .int .i64 r]) ?_ rfl ⟨rfl, ?_⟩
  · simp [results, Try.results38, go_sem, k0, k1]
  · exact ((((Below.refl w.heap.size w).alloc (Nat.le_refl _) _).alloc (by simp) _).trans (Hb.out.mono (by omega))).setCell (by simp) _ |>.setCell (by simp) _
set_option maxHeartbeats 1000000 in
theorem Shift_rng (n b off c : Nat) (xs : List Nat) (P H : Int) (w : World) (hv : VAt w b off c n xs) (hb : P < 0 ∨ (xs.length : Int) ≤ P ∨ H < 0 ∨ (n : Int) ≤ H) :
    Calls Try.prog 38 #[.agg #[.int .i64 (n : Int), .slice (some ⟨b, off, none⟩) xs.length c], .int .i64 P, .int .i64 H] w (ErrD 3 w) := by
  have Hc := fun o o2 => check_res n (some ⟨b, off, none⟩) c (ints xs) w o o2 (by rw [ints_len]; exact hv.reads) 0 hv.ok.check
  simp only [ints_len] at Hc
  go_enter Try.func38, Try.ntmps38
  go_wp2_with fail
  refine (Hc _ _).mono ?_
  rintro e w1 ⟨rfl, hb1⟩
  have q : ResBox w1 (w.heap.size + 1) := ((ResBox.new (w.alloc (.cells #[.int .i64 (n : Int), .slice (some ⟨b, off, none⟩) xs.length c] 24))).below hb1 (by simp)) |> (fun h => by simpa using h)
  have d0 : w1.cell? ⟨w.heap.size, 0, none⟩ = some (.int .i64 (n : Int)) := (hb1.cell (p := ⟨w.heap.size, 0, none⟩) (by show w.heap.size < w.heap.size + 1 + 1; omega)).trans (by simp)
  have d1 : w1.cell? ⟨w.heap.size, 1, none⟩ = some (.slice (some ⟨b, off, none⟩) xs.length c) := (hb1.cell (p := ⟨w.heap.size, 1, none⟩) (by show w.heap.size < w.heap.size + 1 + 1; omega)).trans (by simp)
  have k0 := q.c0
  have k1 := q.c1
  have k2 := q.f 0
  have k3 := q.f 1
  have Hb := Lib.hid hb1
  clear hb1 q
  have Hbad := Lib.hid hb
  clear hb
  by_cases c1 : P < 0
  · go_wp2_with fail
    refine bodyPost_ret (v := .tuple #[.agg #[.int .i64 0, .slice none 0 0], .int .i64 3]) ?_ rfl ⟨rfl, ?_⟩
    · simp [results, Try.results38, go_sem, k0, k1]
    · exact ((((Below.refl w.heap.size w).alloc (Nat.le_refl _) _).alloc (by simp) _).trans (Hb.out.mono (by omega))).setCell (by simp) _ |>.setCell (by simp) _
  by_cases c2 : (xs.length : Int) ≤ P
  · go_wp2_with fail
    refine bodyPost_ret (v := .tuple #[.agg #[.int .i64 0, .slice none 0 0], .int .i64 3]) ?_ rfl ⟨rfl, ?_⟩
    · simp [results, Try.results38, go_sem, k0, k1]
    · exact ((((Below.refl w.heap.size w).alloc (Nat.le_refl _) _).alloc (by simp) _).trans (Hb.out.mono (by omega))).setCell (by simp) _ |>.setCell (by simp) _
  by_cases c3 : H < 0
  · go_wp2_with fail
    refine bodyPost_ret (v := .tuple #[.agg #[.int .i64 0, .slice none 0 0], .int .i64 3]) ?_ rfl ⟨rfl, ?_⟩
    · simp [results, Try.results38, go_sem, k0, k1]
    · exact ((((Below.refl w.heap.size w).alloc (Nat.le_refl _) _).alloc (by simp) _).trans (Hb.out.mono (by omega))).setCell (by simp) _ |>.setCell (by simp) _
  have c4 : (n : Int) ≤ H := by have := Hbad.out; omega
  go_wp2_with fail
  refine bodyPost_ret (v := .tuple #[.agg #[.int .i64 0, .slice none 0 0], .int .i64 3]) ?_ rfl ⟨rfl, ?_⟩
  · simp [results, Try.results38, go_sem, k0, k1]
  · exact ((((Below.refl w.heap.size w).alloc (Nat.le_refl _) _).alloc (by simp) _).trans (Hb.out.mono (by omega))).setCell (by simp) _ |>.setCell (by simp) _
set_option maxHeartbeats 1000000 in
theorem Shift_ok (n b off c P H : Nat) (xs : List Nat) (w : World) (hv : VAt w b off c n xs) (hP : P < xs.length) (hH : H < n) :
    Calls Try.prog 38 #[.agg #[.int .i64 (n : Int), .slice (some ⟨b, off, none⟩) xs.length c], .int .i64 (P : Int), .int .i64 (H : Int)] w (OkD n (painted (shG xs n P H) xs.length n) w) := by
  have Hc := fun o o2 => check_res n (some ⟨b, off, none⟩) c (ints xs) w o o2 (by rw [ints_len]; exact hv.reads) 0 hv.ok.check
  simp only [ints_len] at Hc
  have HV := Lib.hid hv
  have l1 := hv.ok.l1
  have n1 := hv.ok.n1
  clear hv
  have g1 : ¬ (P : Int) < 0 := by omega
  have g2 : ¬ (xs.length : Int) ≤ (P : Int) := by omega
  have g3 : ¬ (H : Int) < 0 := by omega
  have g4 : ¬ (n : Int) ≤ (H : Int) := by omega
  go_enter Try.func38, Try.ntmps38
  go_wp2_with fail
  refine (Hc _ _).mono ?_
  rintro e w1 ⟨rfl, hb1⟩
  have q : ResBox w1 (w.heap.size + 1) := ((ResBox.new (w.alloc (.cells #[.int .i64 (n : Int), .slice (some ⟨b, off, none⟩) xs.length c] 24))).below hb1 (by simp)) |> (fun h => by simpa using h)
  have d0 : w1.cell? ⟨w.heap.size, 0, none⟩ = some (.int .i64 (n : Int)) := (hb1.cell (p := ⟨w.heap.size, 0, none⟩) (by show w.heap.size < w.heap.size + 1 + 1; omega)).trans (by simp)
  have d1 : w1.cell? ⟨w.heap.size, 1, none⟩ = some (.slice (some ⟨b, off, none⟩) xs.length c) := (hb1.cell (p := ⟨w.heap.size, 1, none⟩) (by show w.heap.size < w.heap.size + 1 + 1; omega)).trans (by simp)
  have hB : Below w.heap.size w w1 := (((Below.refl w.heap.size w).alloc (Nat.le_refl _) _).alloc (by simp) _).trans (hb1.mono (by omega))
  have Hq := Lib.hid q
  have Hb := Lib.hid hB
  clear hb1 q hB
  go_wp2_with fail
  refine (shifted_any n b off c P H xs w1 (HV.out.below Hb.out) hP hH).mono ?_
  rintro e w3 ⟨R, rfl, hR0, hR1, hR2⟩
  rw [painted_len]
  have q6 := Hq.out.below hR2 Hq.out.lt
  have k0 := q6.c0
  have k1 := q6.c1
  have k2 := q6.f 0
  have k3 := q6.f 1
  have hql := Hq.out.lt
  have HR0 := Lib.hid hR0
  have HR1 := Lib.hid hR1
  have HR2 := Lib.hid hR2
  clear hR0 hR1 hR2 q6
  go_wp2_with fail
  refine bodyPost_ret (v := .tuple #[.agg #[.int .i64 (n : Int), .slice (some ⟨R, 0, none⟩) xs.length xs.length], .int .i64 0]) ?_ rfl ⟨R, by rw [painted_len], ?_, ?_, ?_⟩
  · simp [results, Try.results38, go_sem, k0, k1]
  · exact Nat.le_trans Hb.out.size HR0.out
  · have hz := HR0.out
    exact (Below.heap_setCell _ _ _ _ (by simp; omega)).trans ((Below.heap_setCell _ _ _ _ (by simp; omega)).trans HR1.out)
  · exact ((Hb.out.trans (HR2.out.mono Hb.out.size)).setCell (by simp) _).setCell (by simp) _
end Go.Proofs.Ytjobbleabepaiaa
