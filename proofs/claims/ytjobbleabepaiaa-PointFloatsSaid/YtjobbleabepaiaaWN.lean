/- shifted, Shift. -/
import Derived.Test.YtjobbleabepaiaaWM
namespace Go.Proofs.Ytjobbleabepaiaa
open Go.RowKit Go.Shelf

/-- what a call leaves that returns a new design -/
def NewD (n : Nat) (ys : List Nat) (w : World) (e : Ending) (w' : World) : Prop :=
  ∃ R, e = .returned (.agg #[.int .i64 (n : Int), .slice (some ⟨R, 0, none⟩) ys.length ys.length]) ∧ w.heap.size ≤ R ∧ NatBlk w' R ys ∧ Below w.heap.size w w'
theorem paint_new (f : FuncId) (lb : Array Value) (eg : Enters Try.prog f) (np nh : Nat) (g : Nat → Nat → Bool) (w : World) (hp : np ≤ 60) (hn : nh ≤ 24) (hg : Cond f lb np nh g w) :
    Calls Try.prog 77 #[.int .i64 (np : Int), .int .i64 (nh : Int), .func (.func f) #[] lb] w fun e w' => ∃ R, e = .returned (.agg #[.int .i64 (nh : Int), .slice (some ⟨R, 0, none⟩) np np]) ∧ w.heap.size ≤ R ∧ NatBlk w' R (painted g np nh) ∧ Below w.heap.size w w' :=
  paint_any f lb eg np nh g w hp hn hg
theorem cell_box1 (w : World) (v : Value) (t : TypeId) : (w.alloc (.cells #[v] t)).cell? ⟨w.heap.size, 0, none⟩ = some v := (Boxed.new w t v).cell
theorem cell_lift {k : Nat} {w w' : World} {p : Addr} {v : Value} (hb : Below k w w') (hk : p.block < k) (h : w.cell? p = some v) : w'.cell? p = some v := (hb.cell hk).trans h
theorem cell_lift' {k : Nat} {w w' : World} {p : Addr} {v : Value} (h : w.cell? p = some v) (hb : Below k w w') (hk : w.heap.size ≤ k) : w'.cell? p = some v :=
  (hb.cell (Nat.lt_of_lt_of_le (World.block_lt_of_cell? w p h) hk)).trans h

/-- the point of a design that was shifted -/
def shG (xs : List Nat) (n P H : Nat) (i j : Nat) : Bool := bitN (nthN xs ((i + xs.length - P) % xs.length)) ((j + n - H) % n)

set_option maxRecDepth 100000 in
set_option maxHeartbeats 2000000 in
theorem shifted_any (n b off c P H : Nat) (xs : List Nat) (w : World) (hv : VAt w b off c n xs) (hP : P < xs.length) (hH : H < n) :
    Calls Try.prog 82 #[.agg #[.int .i64 (n : Int), .slice (some ⟨b, off, none⟩) xs.length c], .int .i64 (P : Int), .int .i64 (H : Int)] w (NewD n (painted (shG xs n P H) xs.length n) w) := by
  obtain ⟨W1, hW1⟩ : ∃ W1, w.alloc (.cells #[.int .i64 (n : Int), .slice (some ⟨b, off, none⟩) xs.length c] 100) = W1 := ⟨_, rfl⟩
  obtain ⟨W2, hW2⟩ : ∃ W2, W1.alloc (.cells #[.int .i64 (P : Int)] 3) = W2 := ⟨_, rfl⟩
  obtain ⟨W3, hW3⟩ : ∃ W3, W2.alloc (.cells #[.int .i64 (H : Int)] 3) = W3 := ⟨_, rfl⟩
  obtain ⟨W4, hW4⟩ : ∃ W4, W3.alloc (.cells #[.int .i64 0, .slice none 0 0] 24) = W4 := ⟨_, rfl⟩
  obtain ⟨W5, hW5⟩ : ∃ W5, W4.alloc (.cells #[.int .i64 (xs.length : Int)] 3) = W5 := ⟨_, rfl⟩
  have s1 : W1.heap.size = w.heap.size + 1 := by rw [← hW1]; simp
  have s2 : W2.heap.size = w.heap.size + 1 + 1 := by rw [← hW2]; simp [s1]
  have s3 : W3.heap.size = w.heap.size + 1 + 1 + 1 := by rw [← hW3]; simp [s2]
  have s4 : W4.heap.size = w.heap.size + 1 + 1 + 1 + 1 := by rw [← hW4]; simp [s3]
  have s5 : W5.heap.size = w.heap.size + 1 + 1 + 1 + 1 + 1 := by rw [← hW5]; simp [s4]
  have b1 : Below w.heap.size w W1 := by rw [← hW1]; exact (Below.refl _ _).alloc (Nat.le_refl _) _
  have b2 : Below W1.heap.size W1 W2 := by rw [← hW2]; exact (Below.refl _ _).alloc (Nat.le_refl _) _
  have b3 : Below W2.heap.size W2 W3 := by rw [← hW3]; exact (Below.refl _ _).alloc (Nat.le_refl _) _
  have b4 : Below W3.heap.size W3 W4 := by rw [← hW4]; exact (Below.refl _ _).alloc (Nat.le_refl _) _
  have b5 : Below W4.heap.size W4 W5 := by rw [← hW5]; exact (Below.refl _ _).alloc (Nat.le_refl _) _
  have b15 : Below W1.heap.size W1 W5 := b2.trans ((b3.mono b2.size).trans ((b4.mono (Nat.le_trans b2.size b3.size)).trans (b5.mono (by omega))))
  have b05 : Below w.heap.size w W5 := b1.trans (b15.mono b1.size)
  have D1 : DBox W1 w.heap.size n b off c xs := by rw [← hW1]; exact ⟨by simp, by simp⟩
  have D5 : DBox W5 w.heap.size n b off c xs := D1.below b15 D1.lt
  have p5 : W5.cell? ⟨w.heap.size + 1, 0, none⟩ = some (.int .i64 (P : Int)) := by
    have h : W2.cell? ⟨w.heap.size + 1, 0, none⟩ = some (.int .i64 (P : Int)) := by rw [← hW2, ← s1]; exact cell_box1 _ _ _
    exact cell_lift' (cell_lift' (cell_lift' h b3 (Nat.le_refl _)) b4 (Nat.le_refl _)) b5 (Nat.le_refl _)
  have h5 : W5.cell? ⟨w.heap.size + 1 + 1, 0, none⟩ = some (.int .i64 (H : Int)) := by
    have h : W3.cell? ⟨w.heap.size + 1 + 1, 0, none⟩ = some (.int .i64 (H : Int)) := by rw [← hW3, ← s2]; exact cell_box1 _ _ _
    exact cell_lift' (cell_lift' h b4 (Nat.le_refl _)) b5 (Nat.le_refl _)
  have r5 : W5.cell? ⟨w.heap.size + 1 + 1 + 1 + 1, 0, none⟩ = some (.int .i64 (xs.length : Int)) := by rw [← hW5, ← s4]; exact cell_box1 _ _ _
  have q5 : ResBox W5 (w.heap.size + 1 + 1 + 1) := by
    have h : ResBox W4 (w.heap.size + 1 + 1 + 1) := by rw [← hW4, ← s3]; exact ResBox.new _
    exact h.below b5 h.lt
  have v5 := hv.below b05
  have l1 := hv.ok.l1
  have n1 := hv.ok.n1
  have HC : Cond 104 #[.pointer (some ⟨w.heap.size, 0, none⟩), .pointer (some ⟨w.heap.size + 1 + 1 + 1 + 1, 0, none⟩), .pointer (some ⟨w.heap.size + 1, 0, none⟩), .pointer (some ⟨w.heap.size + 1 + 1, 0, none⟩)] xs.length n (shG xs n P H) W5 := by
    intro W i j hB hi hj
    exact shifted1_any n b off c _ _ _ _ P H xs i j W (v5.below hB) (D5.below hB D5.lt) (cell_lift' r5 hB (Nat.le_refl _)) (cell_lift' p5 hB (Nat.le_refl _)) (cell_lift' h5 hB (Nat.le_refl _)) hP hH hi hj
  have HP := Lib.hid (paint_any 104 _ (enters_of Try.func104 (by kernel_rfl) rfl) xs.length n (shG xs n P H) W5 l1 n1 HC)
  have HQ := Lib.hid q5
  have Hb := Lib.hid b05
  have d0 := D5.c0
  have d1 := D5.c1
  have HS := Lib.hid s5
  clear HC v5 q5 b05 b15 b1 b2 b3 b4 b5 D1 D5 h5 hv s1 s2 s3 s4 s5
  subst hW5 hW4 hW3 hW2 hW1
  go_enter Try.func82, Try.ntmps82
  go_wp2_with fail
  refine HP.out.mono ?_
  rintro e w3 ⟨R, rfl, hR0, hR1, hR2⟩
  have q6 := HQ.out.below hR2 HQ.out.lt
  have k0 := q6.c0
  have k1 := q6.c1
  have k2 := q6.f 0
  have k3 := q6.f 1
  have hsz := HS.out
  have hq := q6.lt
  have HR0 := Lib.hid hR0
  have HR1 := Lib.hid hR1
  have HR2 := Lib.hid hR2
  have HSz := Lib.hid hsz
  clear hR0 hR1 hR2 hsz q6
  go_wp2_with fail
  refine bodyPost_ret (v := .agg #[.int .i64 (n : Int), .slice (some ⟨R, 0, none⟩) xs.length xs.length]) ?_ rfl ?_
  · simp [results, Try.results82, go_sem, k0, k1]
  · have hz := HR0.out
    rw [HSz.out] at hz
    refine ⟨R, by rw [painted_len], by omega, ?_, ?_⟩
    · exact (Below.heap_setCell _ _ _ _ (by simp; omega)).trans ((Below.heap_setCell _ _ _ _ (by simp; omega)).trans HR1.out)
    · exact ((Hb.out.trans (HR2.out.mono Hb.out.size)).setCell (by simp; omega) _).setCell (by simp; omega) _
end Go.Proofs.Ytjobbleabepaiaa
