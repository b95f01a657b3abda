/- shifted, Shift. · shifted, Shift. · Shift. -/
import Derived.Test.YtdmgffoikebgkaaWL
import Derived.Test.YtdmgffoikebgkaaWJ
namespace Go.Proofs.Ytdmgffoikebgkaa
section
open Go.RowKit Go.Shelf

theorem paperLifted_int (n : Int) (b off c : Nat) (xs : List Nat) (z y : Int) (w : World) (hb : b < w.heap.size) (hl : xs.length ≤ 1000) (hx : NatsAt w b off xs) (h0 : 0 ≤ z) (hi : z < (xs.length : Int)) (hp : ∀ i, nthN xs i < 16777216) (h2 : 0 ≤ y) (hk : y < 64) :
    Calls Try.prog 148 #[.agg #[.int .i64 n, .slice (some ⟨b, off, none⟩) xs.length c], .int .i64 z, .int .i64 y] w fun e w' => e = .returned (.bool (bitN (nthN xs z.toNat) y.toNat)) ∧ Below w.heap.size w w' := by
  obtain ⟨i, rfl⟩ := Int.eq_ofNat_of_zero_le h0
  obtain ⟨k, rfl⟩ := Int.eq_ofNat_of_zero_le h2
  exact paperLifted_any n b off c xs i k w hb hl hx (by omega) (by have := hp i; omega) (by omega)
/-- a design in a box -/
structure DBox (W : World) (B n b off c : Nat) (xs : List Nat) : Prop where
  c0 : W.cell? ⟨B, 0, none⟩ = some (.int .i64 (n : Int))
  c1 : W.cell? ⟨B, 1, none⟩ = some (.slice (some ⟨b, off, none⟩) xs.length c)
theorem DBox.lt {W : World} {B n b off c : Nat} {xs : List Nat} (h : DBox W B n b off c xs) : B < W.heap.size := World.block_lt_of_cell? W ⟨B, 0, none⟩ h.c0
theorem DBox.below {W W' : World} {k B n b off c : Nat} {xs : List Nat} (h : DBox W B n b off c xs) (hb : Below k W W') (hk : B < k) : DBox W' B n b off c xs :=
  ⟨(hb.cell (p := ⟨B, 0, none⟩) hk).trans h.c0, (hb.cell (p := ⟨B, 1, none⟩) hk).trans h.c1⟩
theorem tmod_bd (x y : Int) (hx : 0 ≤ x) (hy : 0 < y) : 0 ≤ x.tmod y ∧ x.tmod y < y := by
  rw [Int.tmod_eq_emod_of_nonneg hx]; exact ⟨Int.emod_nonneg _ (by omega), Int.emod_lt_of_pos _ hy⟩
theorem tmod_nat (x y : Nat) : ((x : Int).tmod y).toNat = x % y := by
  rw [Int.tmod_eq_emod_of_nonneg (by omega), ← Int.natCast_emod, Int.toNat_natCast]

set_option maxRecDepth 100000 in
set_option maxHeartbeats 2000000 in
theorem shifted1_any (n b off c B0 B1 B2 B3 P H : Nat) (xs : List Nat) (i j : Nat) (w : World) (hv : VAt w b off c n xs) (hD : DBox w B0 n b off c xs) (hr : w.cell? ⟨B3, 0, none⟩ = some (.int .i64 (xs.length : Int)))
    (hp : w.cell? ⟨B1, 0, none⟩ = some (.int .i64 (P : Int))) (hh : w.cell? ⟨B2, 0, none⟩ = some (.int .i64 (H : Int))) (hP : P < xs.length) (hH : H < n) (hi : i < xs.length) (hj : j < n) :
    Calls Try.prog 199 #[.int .i64 (i : Int), .int .i64 (j : Int), .pointer (some ⟨B0, 0, none⟩), .pointer (some ⟨B3, 0, none⟩), .pointer (some ⟨B1, 0, none⟩), .pointer (some ⟨B2, 0, none⟩)] w
      fun e w' => e = .returned (.bool (bitN (nthN xs ((i + xs.length - P) % xs.length)) ((j + n - H) % n))) ∧ Below w.heap.size w w' := by
  have h0 := hD.c0
  have h1 := hD.c1
  have l0 := hv.ok.l0
  have l1 := hv.ok.l1
  have n0 := hv.ok.n0
  have n1 := hv.ok.n1
  obtain ⟨a1, a2⟩ := tmod_bd ((i : Int) + xs.length - P) xs.length (by omega) (by omega)
  obtain ⟨b1, b2⟩ := tmod_bd ((j : Int) + n - H) n (by omega) (by omega)
  have b3 : ((j : Int) + n - H).tmod n < 64 := by omega
  have e1 : (((i : Int) + xs.length - P).tmod xs.length).toNat = (i + xs.length - P) % xs.length := by rw [← tmod_nat]; congr 2; omega
  have e2 : (((j : Int) + n - H).tmod n).toNat = (j + n - H) % n := by rw [← tmod_nat]; congr 2; omega
  have hs0 : ¬ xs.length = 0 := by omega
  have hs1 : ¬ n = 0 := by omega
  have hw1 : IntKind.i64.wrap ((i : Int) + xs.length) = (i : Int) + xs.length := IntWalk.i64_in _ (by omega)
  have hw2 : IntKind.i64.wrap ((i : Int) + xs.length - P) = (i : Int) + xs.length - P := IntWalk.i64_in _ (by omega)
  have hw3 : IntKind.i64.wrap ((j : Int) + n) = (j : Int) + n := IntWalk.i64_in _ (by omega)
  have hw4 : IntKind.i64.wrap ((j : Int) + n - H) = (j : Int) + n - H := IntWalk.i64_in _ (by omega)
  have HV := Lib.hid (hv.below (below_drew1 w))
  have HL := fun W (hb : b < W.heap.size) (hx : NatsAt W b off xs) z y => paperLifted_int n b off c xs z y W hb (by omega) hx
  have He1 := Lib.hid e1
  have He2 := Lib.hid e2
  clear hv hD e1 e2
  go_enter Try.func199, Try.ntmps199
  go_wp2
  go_region_held3 (fun w' => w'.cell? ⟨B0, 0, none⟩ = some (.int .i64 (n : Int)) ∧ w'.cell? ⟨B0, 1, none⟩ = some (.slice (some ⟨b, off, none⟩) xs.length c) ∧ w'.cell? ⟨B3, 0, none⟩ = some (.int .i64 (xs.length : Int)) ∧ w'.cell? ⟨B1, 0, none⟩ = some (.int .i64 (P : Int)) ∧ w'.cell? ⟨B2, 0, none⟩ = some (.int .i64 (H : Int)))
    (first | exact ⟨h0, h1, hr, hp, hh⟩ | (have hb := ‹Below _ _ _›; exact ⟨(hb.cell (p := ⟨B0, 0, none⟩) (World.block_lt_of_cell? w ⟨B0, 0, none⟩ h0)).trans h0, (hb.cell (p := ⟨B0, 1, none⟩) (World.block_lt_of_cell? w ⟨B0, 1, none⟩ h1)).trans h1, (hb.cell (p := ⟨B3, 0, none⟩) (World.block_lt_of_cell? w ⟨B3, 0, none⟩ hr)).trans hr, (hb.cell (p := ⟨B1, 0, none⟩) (World.block_lt_of_cell? w ⟨B1, 0, none⟩ hp)).trans hp, (hb.cell (p := ⟨B2, 0, none⟩) (World.block_lt_of_cell? w ⟨B2, 0, none⟩ hh)).trans hh⟩))
    (first
      | (go_at_call 148; refine (HL _ HV.out.lt HV.out.at' _ _ ?_ ?_ HV.out.ok.lt' ?_ ?_).mono ?_; rotate_left 4; rintro e w' ⟨rfl, hb1⟩; rotate_left 1; (first | assumption | omega); (first | assumption | omega); (first | assumption | omega); (first | assumption | omega)))
  all_goals go_wp2
  all_goals go_ret
  all_goals exact ⟨ret_bool (by rw [He1.out, He2.out]), (below_drew1 _).trans hb1⟩
end
end Go.Proofs.Ytdmgffoikebgkaa
namespace Go.Proofs.Ytdmgffoikebgkaa
section
open Go.RowKit Go.Shelf

/-- what a call leaves that returns a new design -/
def NewD (n : Nat) (ys : List Nat) (w : World) (e : Ending) (w' : World) : Prop :=
  ∃ R, e = .returned (.agg #[.int .i64 (n : Int), .slice (some ⟨R, 0, none⟩) ys.length ys.length]) ∧ w.heap.size ≤ R ∧ NatBlk w' R ys ∧ Below w.heap.size w w'
theorem paint_new (f : FuncId) (lb : Array Value) (eg : Enters Try.prog f) (np nh : Nat) (g : Nat → Nat → Bool) (w : World) (hp : np ≤ 60) (hn : nh ≤ 24) (hg : Cond f lb np nh g w) :
    Calls Try.prog 146 #[.int .i64 (np : Int), .int .i64 (nh : Int), .func (.func f) #[] lb] w fun e w' => ∃ R, e = .returned (.agg #[.int .i64 (nh : Int), .slice (some ⟨R, 0, none⟩) np np]) ∧ w.heap.size ≤ R ∧ NatBlk w' R (painted g np nh) ∧ Below w.heap.size w w' :=
  paint_any f lb eg np nh g w hp hn hg
theorem cell_box1 (w : World) (v : Value) (t : TypeId) : (w.alloc (.cells #[v] t)).cell? ⟨w.heap.size, 0, none⟩ = some v := (Boxed.new w t v).cell
theorem cell_lift {k : Nat} {w w' : World} {p : Addr} {v : Value} (hb : Below k w w') (hk : p.block < k) (h : w.cell? p = some v) : w'.cell? p = some v := (hb.cell hk).trans h
theorem cell_lift' {k : Nat} {w w' : World} {p : Addr} {v : Value} (h : w.cell? p = some v) (hb : Below k w w') (hk : w.heap.size ≤ k) : w'.cell? p = some v :=
  (hb.cell (Nat.lt_of_lt_of_le (World.block_lt_of_cell? w p h) hk)).trans h

/-- the point of a design that was shifted -/
def shG (xs : List Nat) (n P H : Nat) (i j : Nat) : Bool := bitN (nthN xs ((i + xs.length - P) % xs.length)) ((j + n - H) % n)

set_option maxRecDepth 100000 in
set_option maxHeartbeats 2000000 in
theorem shifted_any (n b off c P H : Nat) (xs : List Nat) (w : World) (hv : VAt w b off c n xs) (hP : P < xs.length) (hH : H < n) :
    Calls Try.prog 166 #[.agg #[.int .i64 (n : Int), .slice (some ⟨b, off, none⟩) xs.length c], .int .i64 (P : Int), .int .i64 (H : Int)] w (NewD n (painted (shG xs n P H) xs.length n) w) := by
  obtain ⟨W1, hW1⟩ : ∃ W1, w.alloc (.cells #[.int .i64 (n : Int), .slice (some ⟨b, off, none⟩) xs.length c] 191) = W1 := ⟨_, rfl⟩
  obtain ⟨W2, hW2⟩ : ∃ W2, W1.alloc (.cells #[.int .i64 (P : Int)] 3) = W2 := ⟨_, rfl⟩
  obtain ⟨W3, hW3⟩ : ∃ W3, W2.alloc (.cells #[.int .i64 (H : Int)] 3) = W3 := ⟨_, rfl⟩
  obtain ⟨W4, hW4⟩ : ∃ W4, W3.alloc (.cells #[.int .i64 0, .slice none 0 0] 37) = W4 := ⟨_, rfl⟩
  obtain ⟨W5, hW5⟩ : ∃ W5, W4.alloc (.cells #[.int .i64 (xs.length : Int)] 3) = W5 := ⟨_, rfl⟩
  have s1 : W1.heap.size = w.heap.size + 1 := by rw [← hW1]; simp
  have s2 : W2.heap.size = w.heap.size + 1 + 1 := by rw [← hW2]; simp [s1]
  have s3 : W3.heap.size = w.heap.size + 1 + 1 + 1 := by rw [← hW3]; simp [s2]
  have s4 : W4.heap.size = w.heap.size + 1 + 1 + 1 + 1 := by rw [← hW4]; simp [s3]
  have s5 : W5.heap.size = w.heap.size + 1 + 1 + 1 + 1 + 1 := by rw [← hW5]; simp [s4]
  have b1 : Below w.heap.size w W1 := by rw [← hW1]; exact (Below.refl _ _).alloc (Nat.le_refl _) _
  have b2 : Below W1.heap.size W1 W2 := by rw [← hW2]; exact (Below.refl _ _).alloc (Nat.le_refl _) _
  have b3 : Below W2.heap.size W2 W3 := by rw [← hW3]; exact (Below.refl _ _).alloc (Nat.le_refl _) _
  have b4 : Below W3.heap.size W3 W4 := by rw [← hW4]; exact (Below.refl _ _).alloc (Nat.le_refl _) _
  have b5 : Below W4.heap.size W4 W5 := by rw [← hW5]; exact (Below.refl _ _).alloc (Nat.le_refl _) _
  have b15 : Below W1.heap.size W1 W5 := b2.trans ((b3.mono b2.size).trans ((b4.mono (Nat.le_trans b2.size b3.size)).trans (b5.mono (by omega))))
  have b05 : Below w.heap.size w W5 := b1.trans (b15.mono b1.size)
  have D1 : DBox W1 w.heap.size n b off c xs := by rw [← hW1]; exact ⟨by simp, by simp⟩
  have D5 : DBox W5 w.heap.size n b off c xs := D1.below b15 D1.lt
  have p5 : W5.cell? ⟨w.heap.size + 1, 0, none⟩ = some (.int .i64 (P : Int)) := by
    have h : W2.cell? ⟨w.heap.size + 1, 0, none⟩ = some (.int .i64 (P : Int)) := by rw [← hW2, ← s1]; exact cell_box1 _ _ _
    exact cell_lift' (cell_lift' (cell_lift' h b3 (Nat.le_refl _)) b4 (Nat.le_refl _)) b5 (Nat.le_refl _)
  have h5 : W5.cell? ⟨w.heap.size + 1 + 1, 0, none⟩ = some (.int .i64 (H : Int)) := by
    have h : W3.cell? ⟨w.heap.size + 1 + 1, 0, none⟩ = some (.int .i64 (H : Int)) := by rw [← hW3, ← s2]; exact cell_box1 _ _ _
    exact cell_lift' (cell_lift' h b4 (Nat.le_refl _)) b5 (Nat.le_refl _)
  have r5 : W5.cell? ⟨w.heap.size + 1 + 1 + 1 + 1, 0, none⟩ = some (.int .i64 (xs.length : Int)) := by rw [← hW5, ← s4]; exact cell_box1 _ _ _
  have q5 : ResBox W5 (w.heap.size + 1 + 1 + 1) := by
    have h : ResBox W4 (w.heap.size + 1 + 1 + 1) := by rw [← hW4, ← s3]; exact ResBox.new _
    exact h.below b5 h.lt
  have v5 := hv.below b05
  have l1 := hv.ok.l1
  have n1 := hv.ok.n1
  have HC : Cond 199 #[.pointer (some ⟨w.heap.size, 0, none⟩), .pointer (some ⟨w.heap.size + 1 + 1 + 1 + 1, 0, none⟩), .pointer (some ⟨w.heap.size + 1, 0, none⟩), .pointer (some ⟨w.heap.size + 1 + 1, 0, none⟩)] xs.length n (shG xs n P H) W5 := by
    intro W i j hB hi hj
    exact shifted1_any n b off c _ _ _ _ P H xs i j W (v5.below hB) (D5.below hB D5.lt) (cell_lift' r5 hB (Nat.le_refl _)) (cell_lift' p5 hB (Nat.le_refl _)) (cell_lift' h5 hB (Nat.le_refl _)) hP hH hi hj
  have HP := Lib.hid (paint_any 199 _ (enters_of Try.func199 (by kernel_rfl) rfl) xs.length n (shG xs n P H) W5 l1 n1 HC)
  have HQ := Lib.hid q5
  have Hb := Lib.hid b05
  have d0 := D5.c0
  have d1 := D5.c1
  have HS := Lib.hid s5
  clear HC v5 q5 b05 b15 b1 b2 b3 b4 b5 D1 D5 h5 hv s1 s2 s3 s4 s5
  subst hW5 hW4 hW3 hW2 hW1
  go_enter Try.func166, Try.ntmps166
  go_wp2_with fail
  refine HP.out.mono ?_
  rintro e w3 ⟨R, rfl, hR0, hR1, hR2⟩
  have q6 := HQ.out.below hR2 HQ.out.lt
  have k0 := q6.c0
  have k1 := q6.c1
  have k2 := q6.f 0
  have k3 := q6.f 1
  have hsz := HS.out
  have hq := q6.lt
  have HR0 := Lib.hid hR0
  have HR1 := Lib.hid hR1
  have HR2 := Lib.hid hR2
  have HSz := Lib.hid hsz
  clear hR0 hR1 hR2 hsz q6
  go_wp2_with fail
  refine bodyPost_ret (v := .agg #[.int .i64 (n : Int), .slice (some ⟨R, 0, none⟩) xs.length xs.length]) ?_ rfl ?_
  · simp [results, Try.results166, go_sem, k0, k1]
  · have hz := HR0.out
    rw [HSz.out] at hz
    refine ⟨R, by rw [painted_len], by omega, ?_, ?_⟩
    · exact (Below.heap_setCell _ _ _ _ (by simp; omega)).trans ((Below.heap_setCell _ _ _ _ (by simp; omega)).trans HR1.out)
    · exact ((Hb.out.trans (HR2.out.mono Hb.out.size)).setCell (by simp; omega) _).setCell (by simp; omega) _
end
end Go.Proofs.Ytdmgffoikebgkaa
namespace Go.Proofs.Ytdmgffoikebgkaa
section
open Go.RowKit Go.Shelf

/-- check of one design, behind two boxes -/
theorem check_res (h : Int) (p : Option Addr) (c : Nat) (xs : List Int) (w : World) (o o2 : Obj) (hr : Reads w (.slice p xs.length c) xs) (e : Int) (he : checkE h xs = e) :
    Calls Try.prog 137 #[.slice (some ⟨w.heap.size + 1 + 1, 0, none⟩) 1 1] (((w.alloc o).alloc o2).alloc (.cells #[.int .i64 h, .slice p xs.length c] 37)) fun e' w' => e' = .returned (.int .i64 e) ∧ Below (w.heap.size + 1 + 1) ((w.alloc o).alloc o2) w' := by
  have := check_one ⟨h, p, c, xs⟩ ((w.alloc o).alloc o2) (hr.below (((Below.refl _ _).alloc (Nat.le_refl _) o).alloc (by simp) o2))
  simp only [World.size_alloc] at this
  refine this.mono ?_
  rintro e' w' ⟨rfl, hb⟩
  exact ⟨by rw [show (⟨h, p, c, xs⟩ : Dsg).e = checkE h xs from rfl, he], hb⟩
/-- an error with an empty design -/
def ErrD (r : Int) (w : World) (e : Ending) (w' : World) : Prop := e = .returned (.tuple #[.agg #[.int .i64 0, .slice none 0 0], .int .i64 r]) ∧ Below w.heap.size w w'
/-- a new design, and no error -/
def OkD (n : Nat) (ys : List Nat) (w : World) (e : Ending) (w' : World) : Prop :=
  ∃ R, e = .returned (.tuple #[.agg #[.int .i64 (n : Int), .slice (some ⟨R, 0, none⟩) ys.length ys.length], .int .i64 0]) ∧ w.heap.size ≤ R ∧ NatBlk w' R ys ∧ Below w.heap.size w w'

set_option maxHeartbeats 1000000 in
theorem Shift_err (h : Int) (p : Option Addr) (c : Nat) (xs : List Int) (P H : Int) (w : World) (hr : Reads w (.slice p xs.length c) xs) (r : Int) (he : checkE h xs = r) (hne : r ≠ 0) :
    Calls Try.prog 150 #[.agg #[.int .i64 h, .slice p xs.length c], .int .i64 P, .int .i64 H] w (ErrD r w) := by
  have Hc := fun o o2 => check_res h p c xs w o o2 hr r he
  have hne' : (r != 0) = true := by simpa using hne
  clear he hr hne
  go_enter Try.func150, Try.ntmps150
  go_wp2_with fail
  refine (Hc _ _).mono ?_
  rintro e w1 ⟨rfl, hb1⟩
  have q : ResBox w1 (w.heap.size + 1) := ((ResBox.new (w.alloc (.cells #[.int .i64 h, .slice p xs.length c] 37))).below hb1 (by simp)) |> (fun h => by simpa using h)
  have k0 := q.c0
  have k1 := q.c1
  have k2 := q.f 0
  have k3 := q.f 1
  have Hb := Lib.hid hb1
  clear hb1 q
  go_wp2_with fail
  refine bodyPost_ret (v := .tuple #[.agg #[.int .i64 0, .slice none 0 0], .int .i64 r]) ?_ rfl ⟨rfl, ?_⟩
  · simp [results, Try.results150, go_sem, k0, k1]
  · exact ((((Below.refl w.heap.size w).alloc (Nat.le_refl _) _).alloc (by simp) _).trans (Hb.out.mono (by omega))).setCell (by simp) _ |>.setCell (by simp) _
set_option maxHeartbeats 1000000 in
theorem Shift_rng (n b off c : Nat) (xs : List Nat) (P H : Int) (w : World) (hv : VAt w b off c n xs) (hb : P < 0 ∨ (xs.length : Int) ≤ P ∨ H < 0 ∨ (n : Int) ≤ H) :
    Calls Try.prog 150 #[.agg #[.int .i64 (n : Int), .slice (some ⟨b, off, none⟩) xs.length c], .int .i64 P, .int .i64 H] w (ErrD 3 w) := by
  have Hc := fun o o2 => check_res n (some ⟨b, off, none⟩) c (ints xs) w o o2 (by rw [ints_len]; exact hv.reads) 0 hv.ok.check
  simp only [ints_len] at Hc
  go_enter Try.func150, Try.ntmps150
  go_wp2_with fail
  refine (Hc _ _).mono ?_
  rintro e w1 ⟨rfl, hb1⟩
  have q : ResBox w1 (w.heap.size + 1) := ((ResBox.new (w.alloc (.cells #[.int .i64 (n : Int), .slice (some ⟨b, off, none⟩) xs.length c] 37))).below hb1 (by simp)) |> (fun h => by simpa using h)
  have d0 : w1.cell? ⟨w.heap.size, 0, none⟩ = some (.int .i64 (n : Int)) := (hb1.cell (p := ⟨w.heap.size, 0, none⟩) (by show w.heap.size < w.heap.size + 1 + 1; omega)).trans (by simp)
  have d1 : w1.cell? ⟨w.heap.size, 1, none⟩ = some (.slice (some ⟨b, off, none⟩) xs.length c) := (hb1.cell (p := ⟨w.heap.size, 1, none⟩) (by show w.heap.size < w.heap.size + 1 + 1; omega)).trans (by simp)
  have k0 := q.c0
  have k1 := q.c1
  have k2 := q.f 0
  have k3 := q.f 1
  have Hb := Lib.hid hb1
  clear hb1 q
  have Hbad := Lib.hid hb
  clear hb
  by_cases c1 : P < 0
  · go_wp2_with fail
    refine bodyPost_ret (v := .tuple #[.agg #[.int .i64 0, .slice none 0 0], .int .i64 3]) ?_ rfl ⟨rfl, ?_⟩
    · simp [results, Try.results150, go_sem, k0, k1]
    · exact ((((Below.refl w.heap.size w).alloc (Nat.le_refl _) _).alloc (by simp) _).trans (Hb.out.mono (by omega))).setCell (by simp) _ |>.setCell (by simp) _
  by_cases c2 : (xs.length : Int) ≤ P
  · go_wp2_with fail
    refine bodyPost_ret (v := .tuple #[.agg #[.int .i64 0, .slice none 0 0], .int .i64 3]) ?_ rfl ⟨rfl, ?_⟩
    · simp [results, Try.results150, go_sem, k0, k1]
    · exact ((((Below.refl w.heap.size w).alloc (Nat.le_refl _) _).alloc (by simp) _).trans (Hb.out.mono (by omega))).setCell (by simp) _ |>.setCell (by simp) _
  by_cases c3 : H < 0
  · go_wp2_with fail
    refine bodyPost_ret (v := .tuple #[.agg #[.int .i64 0, .slice none 0 0], .int .i64 3]) ?_ rfl ⟨rfl, ?_⟩
    · simp [results, Try.results150, go_sem, k0, k1]
    · exact ((((Below.refl w.heap.size w).alloc (Nat.le_refl _) _).alloc (by simp) _).trans (Hb.out.mono (by omega))).setCell (by simp) _ |>.setCell (by simp) _
  have c4 : (n : Int) ≤ H := by have := Hbad.out; omega
  go_wp2_with fail
  refine bodyPost_ret (v := .tuple #[.agg #[.int .i64 0, .slice none 0 0], .int .i64 3]) ?_ rfl ⟨rfl, ?_⟩
  · simp [results, Try.results150, go_sem, k0, k1]
  · exact ((((Below.refl w.heap.size w).alloc (Nat.le_refl _) _).alloc (by simp) _).trans (Hb.out.mono (by omega))).setCell (by simp) _ |>.setCell (by simp) _
set_option maxHeartbeats 1000000 in
theorem Shift_ok (n b off c P H : Nat) (xs : List Nat) (w : World) (hv : VAt w b off c n xs) (hP : P < xs.length) (hH : H < n) :
    Calls Try.prog 150 #[.agg #[.int .i64 (n : Int), .slice (some ⟨b, off, none⟩) xs.length c], .int .i64 (P : Int), .int .i64 (H : Int)] w (OkD n (painted (shG xs n P H) xs.length n) w) := by
  have Hc := fun o o2 => check_res n (some ⟨b, off, none⟩) c (ints xs) w o o2 (by rw [ints_len]; exact hv.reads) 0 hv.ok.check
  simp only [ints_len] at Hc
  have HV := Lib.hid hv
  have l1 := hv.ok.l1
  have n1 := hv.ok.n1
  clear hv
  have g1 : ¬ (P : Int) < 0 := by omega
  have g2 : ¬ (xs.length : Int) ≤ (P : Int) := by omega
  have g3 : ¬ (H : Int) < 0 := by omega
  have g4 : ¬ (n : Int) ≤ (H : Int) := by omega
  go_enter Try.func150, Try.ntmps150
  go_wp2_with fail
  refine (Hc _ _).mono ?_
  rintro e w1 ⟨rfl, hb1⟩
  have q : ResBox w1 (w.heap.size + 1) := ((ResBox.new (w.alloc (.cells #[.int .i64 (n : Int), .slice (some ⟨b, off, none⟩) xs.length c] 37))).below hb1 (by simp)) |> (fun h => by simpa using h)
  have d0 : w1.cell? ⟨w.heap.size, 0, none⟩ = some (.int .i64 (n : Int)) := (hb1.cell (p := ⟨w.heap.size, 0, none⟩) (by show w.heap.size < w.heap.size + 1 + 1; omega)).trans (by simp)
  have d1 : w1.cell? ⟨w.heap.size, 1, none⟩ = some (.slice (some ⟨b, off, none⟩) xs.length c) := (hb1.cell (p := ⟨w.heap.size, 1, none⟩) (by show w.heap.size < w.heap.size + 1 + 1; omega)).trans (by simp)
  have hB : Below w.heap.size w w1 := (((Below.refl w.heap.size w).alloc (Nat.le_refl _) _).alloc (by simp) _).trans (hb1.mono (by omega))
  have Hq := Lib.hid q
  have Hb := Lib.hid hB
  clear hb1 q hB
  go_wp2_with fail
  refine (shifted_any n b off c P H xs w1 (HV.out.below Hb.out) hP hH).mono ?_
  rintro e w3 ⟨R, rfl, hR0, hR1, hR2⟩
  rw [painted_len]
  have q6 := Hq.out.below hR2 Hq.out.lt
  have k0 := q6.c0
  have k1 := q6.c1
  have k2 := q6.f 0
  have k3 := q6.f 1
  have hql := Hq.out.lt
  have HR0 := Lib.hid hR0
  have HR1 := Lib.hid hR1
  have HR2 := Lib.hid hR2
  clear hR0 hR1 hR2 q6
  go_wp2_with fail
  refine bodyPost_ret (v := .tuple #[.agg #[.int .i64 (n : Int), .slice (some ⟨R, 0, none⟩) xs.length xs.length], .int .i64 0]) ?_ rfl ⟨R, by rw [painted_len], ?_, ?_, ?_⟩
  · simp [results, Try.results150, go_sem, k0, k1]
  · exact Nat.le_trans Hb.out.size HR0.out
  · have hz := HR0.out
    exact (Below.heap_setCell _ _ _ _ (by simp; omega)).trans ((Below.heap_setCell _ _ _ _ (by simp; omega)).trans HR1.out)
  · exact ((Hb.out.trans (HR2.out.mono Hb.out.size)).setCell (by simp) _).setCell (by simp) _
end
end Go.Proofs.Ytdmgffoikebgkaa
