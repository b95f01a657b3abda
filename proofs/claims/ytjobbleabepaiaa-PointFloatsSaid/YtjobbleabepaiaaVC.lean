/- Bind's errors: the design, the form of the fixed rows, a fixed row that is none, the bound. -/
import Derived.Test.YtjobbleabepaiaaVB
namespace Go.Proofs.Ytjobbleabepaiaa
open Go.RowKit

def ErrB (r : Int) (w : World) (e : Ending) (w' : World) : Prop := e = .returned (.tuple #[.agg #[.int .i64 0, .slice none 0 0], .int .i64 0, .int .i64 r]) ∧ Below w.heap.size w w'

set_option maxHeartbeats 1000000 in
theorem Bind_err (h : Int) (p : Option Addr) (c : Nat) (xs : List Int) (fx : Value) (m : Int) (w : World) (hr : Reads w (.slice p xs.length c) xs) (r : Int) (he : checkE h xs = r) (hne : r ≠ 0) :
    Calls Try.prog 29 #[.agg #[.int .i64 h, .slice p xs.length c], fx, .int .i64 m] w (ErrB r w) := by
  have Hc := fun o o2 => check_res h p c xs w o o2 hr r he
  have hne' : (r != 0) = true := by simpa using hne
  clear he hr hne
  go_enter Try.func29, Try.ntmps29
  go_wp2_with fail
  refine (Hc _ _).mono ?_
  rintro e w1 ⟨rfl, hb1⟩
  have q : ResBox w1 (w.heap.size + 1) := ((ResBox.new (w.alloc (.cells #[.int .i64 h, .slice p xs.length c] 24))).below hb1 (by simp)) |> (fun h => by simpa using h)
  have k0 := q.c0
  have k1 := q.c1
  have k2 := q.f 0
  have k3 := q.f 1
  have Hb := Lib.hid hb1
  clear hb1 q
  go_wp2_with fail
  refine bodyPost_ret (v := .tuple #[.agg #[.int .i64 0, .slice none 0 0], .int .i64 0, .int .i64 r]) ?_ rfl ⟨rfl, ?_⟩
  · simp [results, Try.results29, go_sem, k0, k1]
  · exact ((((Below.refl w.heap.size w).alloc (Nat.le_refl _) _).alloc (by simp) _).trans (Hb.out.mono (by omega))).setCell (by simp) _ |>.setCell (by simp) _

set_option maxHeartbeats 1000000 in
theorem Bind_form (n b off c fl fc : Nat) (fp : Option Addr) (m : Int) (xs : List Nat) (w : World) (hv : VAt w b off c n xs) (hfl : fl ≠ xs.length) :
    Calls Try.prog 29 #[.agg #[.int .i64 (n : Int), .slice (some ⟨b, off, none⟩) xs.length c], .slice fp fl fc, .int .i64 m] w (ErrB 4 w) := by
  have Hc := fun o o2 => check_res n (some ⟨b, off, none⟩) c (ints xs) w o o2 (by rw [ints_len]; exact hv.reads) 0 hv.ok.check
  simp only [ints_len] at Hc
  have hne : ((fl : Int) != (xs.length : Int)) = true := by simp; omega
  have hne1 : ¬ (fl : Int) = (xs.length : Int) := by omega
  clear hv
  go_enter Try.func29, Try.ntmps29
  go_wp2_with fail
  refine (Hc _ _).mono ?_
  rintro e w1 ⟨rfl, hb1⟩
  obtain ⟨q, hD, hB⟩ := res_facts hb1
  have d0 := hD.c0
  have d1 := hD.c1
  have k0 := q.c0
  have k1 := q.c1
  have k2 := q.f 0
  have k3 := q.f 1
  have Hb := Lib.hid hB
  clear hb1 q hB hD
  go_wp2_with fail
  refine bodyPost_ret (v := .tuple #[.agg #[.int .i64 0, .slice none 0 0], .int .i64 0, .int .i64 4]) ?_ rfl ⟨rfl, ?_⟩
  · simp [results, Try.results29, go_sem, k0, k1]
  · exact (Hb.out.setCell (by simp) _).setCell (by simp) _

set_option maxHeartbeats 1000000 in
theorem Bind_arg (n b off c fb fo fc : Nat) (m : Int) (xs : List Nat) (fs : List Int) (w : World) (hv : VAt w b off c n xs) (hfl : fs.length = xs.length) (hfat : Reads w (.slice (some ⟨fb, fo, none⟩) fs.length fc) fs)
    (hbad : ∀ W, Below w.heap.size w W → Calls Try.prog 65 #[.int .i64 (n : Int), .slice (some ⟨fb, fo, none⟩) xs.length fc] W fun e w' => e = .returned (.bool false) ∧ W = w') :
    Calls Try.prog 29 #[.agg #[.int .i64 (n : Int), .slice (some ⟨b, off, none⟩) xs.length c], .slice (some ⟨fb, fo, none⟩) xs.length fc, .int .i64 m] w (ErrB 2 w) := by
  have Hc := fun o o2 => check_res n (some ⟨b, off, none⟩) c (ints xs) w o o2 (by rw [ints_len]; exact hv.reads) 0 hv.ok.check
  simp only [ints_len] at Hc
  clear hv hfl hfat
  go_enter Try.func29, Try.ntmps29
  go_wp2_with fail
  refine (Hc _ _).mono ?_
  rintro e w1 ⟨rfl, hb1⟩
  obtain ⟨q, hD, hB⟩ := res_facts hb1
  have d0 := hD.c0
  have d1 := hD.c1
  have k0 := q.c0
  have k1 := q.c1
  have k2 := q.f 0
  have k3 := q.f 1
  have Hb := Lib.hid hB
  clear hb1 q hB hD
  go_wp2_with fail
  refine (hbad _ Hb.out).mono ?_
  rintro e w2 ⟨rfl, rfl⟩
  go_wp2_with fail
  refine bodyPost_ret (v := .tuple #[.agg #[.int .i64 0, .slice none 0 0], .int .i64 0, .int .i64 2]) ?_ rfl ⟨rfl, ?_⟩
  · simp [results, Try.results29, go_sem, k0, k1]
  · exact (Hb.out.setCell (by simp) _).setCell (by simp) _

set_option maxHeartbeats 1000000 in
theorem Bind_rng (n b off c fb fo fc : Nat) (m : Int) (xs : List Nat) (w : World) (hv : VAt w b off c n xs)
    (hgood : ∀ W, Below w.heap.size w W → Calls Try.prog 65 #[.int .i64 (n : Int), .slice (some ⟨fb, fo, none⟩) xs.length fc] W fun e w' => e = .returned (.bool true) ∧ W = w')
    (hm : m < 1 ∨ 24 < m) :
    Calls Try.prog 29 #[.agg #[.int .i64 (n : Int), .slice (some ⟨b, off, none⟩) xs.length c], .slice (some ⟨fb, fo, none⟩) xs.length fc, .int .i64 m] w (ErrB 3 w) := by
  have Hc := fun o o2 => check_res n (some ⟨b, off, none⟩) c (ints xs) w o o2 (by rw [ints_len]; exact hv.reads) 0 hv.ok.check
  simp only [ints_len] at Hc
  have Hib := fun W => isBound_any m W
  have hbd : (decide (1 ≤ m) && decide (m ≤ 24)) = false := by simp; omega
  rw [hbd] at Hib
  clear hv hbd
  go_enter Try.func29, Try.ntmps29
  go_wp2_with fail
  refine (Hc _ _).mono ?_
  rintro e w1 ⟨rfl, hb1⟩
  obtain ⟨q, hD, hB⟩ := res_facts hb1
  have d0 := hD.c0
  have d1 := hD.c1
  have k0 := q.c0
  have k1 := q.c1
  have k2 := q.f 0
  have k3 := q.f 1
  have Hb := Lib.hid hB
  clear hb1 q hB hD
  go_wp2_with fail
  refine (hgood _ Hb.out).mono ?_
  rintro e w2 ⟨rfl, rfl⟩
  go_wp2_with fail
  refine (Hib _).mono ?_
  rintro e w2 ⟨rfl, rfl⟩
  go_wp2_with fail
  refine bodyPost_ret (v := .tuple #[.agg #[.int .i64 0, .slice none 0 0], .int .i64 0, .int .i64 3]) ?_ rfl ⟨rfl, ?_⟩
  · simp [results, Try.results29, go_sem, k0, k1]
  · exact (Hb.out.setCell (by simp) _).setCell (by simp) _
end Go.Proofs.Ytjobbleabepaiaa
