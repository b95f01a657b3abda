/- known, up to its second call of Bind. -/
import Derived.Test.YtjobbleabepaiaaVO
import Derived.Deep.RegionHeld3
import Derived.Deep.DeepCutAuto
namespace Go.Proofs.Ytjobbleabepaiaa
open Go.RowKit Go.Shelf

/-- the design of known, in its box -/
structure K1 (w0 : World) (B b : Nat) (W : World) : Prop where
  d0 : W.cell? ⟨B, 0, none⟩ = some (.int .i64 6)
  d1 : W.cell? ⟨B, 1, none⟩ = some (.slice (some ⟨b, 0, none⟩) 4 4)
  rows : RowsAt W b [7, 56, 0, 21]
  below : Below w0.heap.size w0 W
theorem K1.lt {w0 W : World} {B b : Nat} (h : K1 w0 B b W) : B < W.heap.size := World.block_lt_of_cell? W ⟨B, 0, none⟩ h.d0
theorem K1.next {w0 W W' : World} {B b : Nat} (h : K1 w0 B b W) (hb : Below W.heap.size W W') : K1 w0 B b W' :=
  ⟨cell_lift hb h.lt h.d0, cell_lift hb h.lt h.d1, h.rows.below hb, h.below.trans (hb.mono h.below.size)⟩

/-- the design, its floats, its longest floats -/
structure K3 (w0 : World) (N B b g2 B4 : Nat) (W : World) : Prop where
  k : K1 w0 B b W
  fl : FlsAt W g2 kFloats
  q0 : W.cell? ⟨B4, 0, none⟩ = some (.int .i64 1000)
  q1 : W.cell? ⟨B4, 1, none⟩ = some (.int .i64 3)
  q2 : W.cell? ⟨B4, 2, none⟩ = some (.int .i64 2)
  q3 : W.cell? ⟨B4, 3, none⟩ = some (.int .i64 3)
  lt : B < N ∧ b < N ∧ g2 < N ∧ B4 < N ∧ N ≤ W.heap.size ∧ w0.heap.size ≤ N
theorem K1.nextN {w0 W W' : World} {B b N : Nat} (h : K1 w0 B b W) (hb : Below N W W') (h1 : B < N) (h2 : b < N) (h3 : w0.heap.size ≤ N) : K1 w0 B b W' :=
  ⟨cell_lift hb h1 h.d0, cell_lift hb h1 h.d1, ⟨h.rows.at'.below hb h2, Nat.lt_of_lt_of_le h.rows.lt hb.size⟩, h.below.trans (hb.mono h3)⟩
theorem K3.next {w0 W W' : World} {N B b g2 B4 : Nat} (h : K3 w0 N B b g2 B4 W) (hb : Below N W W') : K3 w0 N B b g2 B4 W' := by
  obtain ⟨h1, h2, h3, h4, h5, h6⟩ := h.lt
  exact ⟨h.k.nextN hb h1 h2 h6, h.fl.below hb h3, cell_lift hb h4 h.q0, cell_lift hb h4 h.q1, cell_lift hb h4 h.q2, cell_lift hb h4 h.q3, h1, h2, h3, h4, Nat.le_trans h5 hb.size, h6⟩
theorem K3.up {w0 W : World} {N N' B b g2 B4 : Nat} (h : K3 w0 N B b g2 B4 W) (h1 : N ≤ N') (h2 : N' ≤ W.heap.size) : K3 w0 N' B b g2 B4 W := by
  obtain ⟨a1, a2, a3, a4, a5, a6⟩ := h.lt
  exact ⟨h.k, h.fl, h.q0, h.q1, h.q2, h.q3, by omega, by omega, by omega, by omega, h2, by omega⟩
/-- .. and a design in a box -/
structure DRows (W : World) (D : Nat) (h : Int) (xs : List Nat) : Prop where
  ex : ∃ g c, W.cell? ⟨D, 0, none⟩ = some (.int .i64 h) ∧ W.cell? ⟨D, 1, none⟩ = some (.slice (some ⟨g, 0, none⟩) xs.length c) ∧ RowsAt W g xs
theorem DRows.next {W W' : World} {D : Nat} {h : Int} {xs : List Nat} (hd : DRows W D h xs) (hb : Below W.heap.size W W') : DRows W' D h xs := by
  obtain ⟨g, c, h1, h2, h3⟩ := hd.ex
  have hl := World.block_lt_of_cell? W ⟨D, 0, none⟩ h1
  exact ⟨⟨g, c, cell_lift hb hl h1, cell_lift hb hl h2, h3.below hb⟩⟩

/-- .. what is known behind Proof -/
structure K5 (w0 : World) (N B b g2 B4 B6 g9 : Nat) (W : World) : Prop where
  k : K3 w0 N B b g2 B4 W
  d6 : DRows W B6 6 [11, 25, 9, 21]
  fl : FlsAt W g9 kProof
theorem K3.next1 {w0 W W' : World} {N B b g2 B4 : Nat} (h : K3 w0 N B b g2 B4 W) (hb : Below W.heap.size W W') : K3 w0 N B b g2 B4 W' := h.next (hb.mono h.lt.2.2.2.2.1)
theorem K5.next {w0 W W' : World} {N B b g2 B4 B6 g9 : Nat} (h : K5 w0 N B b g2 B4 B6 g9 W) (hb : Below W.heap.size W W') : K5 w0 N B b g2 B4 B6 g9 W' :=
  ⟨h.k.next1 hb, h.d6.next hb, h.fl.below hb h.fl.lt⟩
theorem below1 (W : World) (o : Obj) : Below W.heap.size W (W.alloc o) := (Below.refl _ _).alloc (Nat.le_refl _) o
theorem below2 (W : World) (o o' : Obj) : Below W.heap.size W ((W.alloc o).alloc o') := ((Below.refl _ _).alloc (Nat.le_refl _) o).alloc (by simp) o'
theorem below_thru {W X W' : World} (h1 : Below W.heap.size W X) (h2 : Below X.heap.size X W') : Below W.heap.size W W' := h1.trans (h2.mono h1.size)
theorem natBlk_lit1 (W : World) (o : Obj) (xs : List Nat) : NatBlk ((W.alloc o).alloc (.cells (xs.map natV).toArray 3)) (W.heap.size + 1) xs := by
  have := heap_alloc_new (W.alloc o) (.cells (xs.map natV).toArray 3)
  rw [World.size_alloc] at this
  exact this
theorem RowsAt.lit1 (W : World) (o : Obj) (xs : List Nat) : RowsAt ((W.alloc o).alloc (.cells (xs.map natV).toArray 3)) (W.heap.size + 1) xs := RowsAt.of_blk (natBlk_lit1 W o xs)
theorem RowsAt.set {W : World} {g : Nat} {xs : List Nat} (h : RowsAt W g xs) (a : Addr) (v : Value) (hne : g ≠ a.block) : RowsAt (W.setCell a v) g xs := by
  refine ⟨fun i hi => (World.cell?_of_block (w := W) (Below.heap_setCell _ _ _ _ hne)).trans (h.at' i hi), ?_⟩
  have := h.lt
  simpa [World.setCell] using this
theorem DRows.boxed (W : World) (h : Nat) (g c : Nat) (xs : List Nat) (hR : RowsAt W g xs) : DRows (W.alloc (.cells #[.int .i64 (h : Int), .slice (some ⟨g, 0, none⟩) xs.length c] 24)) W.heap.size h xs :=
  ⟨⟨g, c, by simp, by simp, hR.below ((Below.refl _ _).alloc (Nat.le_refl _) _)⟩⟩
theorem DRows.stored {W w5 : World} {E : Nat} (h g c : Nat) {xs : List Nat} (hq : ResBox W E) (hb : Below W.heap.size W w5) (hR : RowsAt w5 g xs) (hg : W.heap.size ≤ g) :
    DRows ((w5.setCell ⟨E, 0, none⟩ (.int .i64 (h : Int))).setCell ⟨E, 1, none⟩ (.slice (some ⟨g, 0, none⟩) xs.length c)) E h xs := by
  have hlt := hq.lt
  have q := (RBox.of_res (hq.below hb hlt) h).set1 (.slice (some ⟨g, 0, none⟩) xs.length c)
  exact ⟨⟨g, c, q.c0, q.c1, (hR.set _ _ (by simp; omega)).set _ _ (by simp; omega)⟩⟩
theorem bcell {W w1 : World} (hb : Below W.heap.size W w1) : (∀ b o, b < W.heap.size → w1.cell? ⟨b, o, none⟩ = W.cell? ⟨b, o, none⟩) ∧ (∀ b o, b < W.heap.size → w1.frozen? ⟨b, o, none⟩ = W.frozen? ⟨b, o, none⟩) :=
  ⟨fun b o h => hb.cell (p := ⟨b, o, none⟩) h, fun b o h => hb.frozen (p := ⟨b, o, none⟩) h⟩
theorem RowsAt.lit (W : World) (xs : List Nat) : RowsAt (W.alloc (.cells (xs.map natV).toArray 3)) W.heap.size xs := RowsAt.of_blk (heap_alloc_new W _)

theorem RowsAt.litd (W : World) (xs : List Nat) : RowsAt (W.alloc (.cells (xs.map natV).toArray 3)).drew W.heap.size xs := ⟨(RowsAt.lit W xs).at', (RowsAt.lit W xs).lt⟩
theorem same6 (b1 c1 b2 c2 : Nat) (w : World) (h1 : RowsAt w b1 [11, 25, 9, 21]) (h2 : RowsAt w b2 [11, 25, 9, 21]) :
    Calls Try.prog 23 #[.agg #[.int .i64 6, .slice (some ⟨b1, 0, none⟩) 4 c1], .agg #[.int .i64 6, .slice (some ⟨b2, 0, none⟩) 4 c2]] w fun e w' => e = .returned (.bool true) ∧ Below w.heap.size w w' := k_same 6 b1 c1 b2 c2 4 _ w rfl (by decide) h1 h2
theorem same17 (b1 c1 b2 c2 : Nat) (w : World) (h1 : RowsAt w b1 [42, 21]) (h2 : RowsAt w b2 [42, 21]) :
    Calls Try.prog 23 #[.agg #[.int .i64 6, .slice (some ⟨b1, 0, none⟩) 2 c1], .agg #[.int .i64 6, .slice (some ⟨b2, 0, none⟩) 2 c2]] w fun e w' => e = .returned (.bool true) ∧ Below w.heap.size w w' := k_same 6 b1 c1 b2 c2 2 _ w rfl (by decide) h1 h2
theorem same19 (b1 c1 b2 c2 : Nat) (w : World) (h1 : RowsAt w b1 [35]) (h2 : RowsAt w b2 [35]) :
    Calls Try.prog 23 #[.agg #[.int .i64 6, .slice (some ⟨b1, 0, none⟩) 1 c1], .agg #[.int .i64 6, .slice (some ⟨b2, 0, none⟩) 1 c2]] w fun e w' => e = .returned (.bool true) ∧ Below w.heap.size w w' := k_same 6 b1 c1 b2 c2 1 _ w rfl (by decide) h1 h2
theorem same21 (b1 c1 b2 c2 : Nat) (w : World) (h1 : RowsAt w b1 [7, 14]) (h2 : RowsAt w b2 [7, 14]) :
    Calls Try.prog 23 #[.agg #[.int .i64 4, .slice (some ⟨b1, 0, none⟩) 2 c1], .agg #[.int .i64 4, .slice (some ⟨b2, 0, none⟩) 2 c2]] w fun e w' => e = .returned (.bool true) ∧ Below w.heap.size w w' := k_same 4 b1 c1 b2 c2 2 _ w rfl (by decide) h1 h2
/-- a design in a box, and where its rows lie -/
structure DAt (W : World) (D : Nat) (h : Int) (g c n : Nat) (xs : List Nat) : Prop where
  c0 : W.cell? ⟨D, 0, none⟩ = some (.int .i64 h)
  c1 : W.cell? ⟨D, 1, none⟩ = some (.slice (some ⟨g, 0, none⟩) n c)
  rows : RowsAt W g xs
theorem DAt.next {W W' : World} {D : Nat} {h : Int} {g c n : Nat} {xs : List Nat} (hd : DAt W D h g c n xs) (hb : Below W.heap.size W W') : DAt W' D h g c n xs :=
  have hl := World.block_lt_of_cell? W ⟨D, 0, none⟩ hd.c0
  ⟨cell_lift hb hl hd.c0, cell_lift hb hl hd.c1, hd.rows.below hb⟩
theorem DRows.at' {W : World} {D : Nat} {h : Int} {xs : List Nat} (n : Nat) (hn : n = xs.length) (hd : DRows W D h xs) : ∃ g c, DAt W D h g c n xs := by
  obtain ⟨g, c, h1, h2, h3⟩ := hd.ex
  exact ⟨g, c, h1, by rw [hn]; exact h2, h3⟩
/-- all that known looks at in the end -/
structure KZ (w0 : World) (g2 B4 g9 D6 g6 c6 D17 g17 c17 D19 g19 c19 D21 g21 c21 : Nat) (W : World) : Prop where
  f2 : FlsAt W g2 kFloats
  q0 : W.cell? ⟨B4, 0, none⟩ = some (.int .i64 1000)
  q1 : W.cell? ⟨B4, 1, none⟩ = some (.int .i64 3)
  q2 : W.cell? ⟨B4, 2, none⟩ = some (.int .i64 2)
  q3 : W.cell? ⟨B4, 3, none⟩ = some (.int .i64 3)
  f9 : FlsAt W g9 kProof
  a6 : DAt W D6 6 g6 c6 4 [11, 25, 9, 21]
  a17 : DAt W D17 6 g17 c17 2 [42, 21]
  a19 : DAt W D19 6 g19 c19 1 [35]
  a21 : DAt W D21 4 g21 c21 2 [7, 14]
  below : Below w0.heap.size w0 W
theorem KZ.next {w0 : World} {g2 B4 g9 D6 g6 c6 D17 g17 c17 D19 g19 c19 D21 g21 c21 : Nat} {W W' : World} (h : KZ w0 g2 B4 g9 D6 g6 c6 D17 g17 c17 D19 g19 c19 D21 g21 c21 W) (hb : Below W.heap.size W W') : KZ w0 g2 B4 g9 D6 g6 c6 D17 g17 c17 D19 g19 c19 D21 g21 c21 W' :=
  have hl := World.block_lt_of_cell? W ⟨B4, 0, none⟩ h.q0
  ⟨h.f2.below hb h.f2.lt, cell_lift hb hl h.q0, cell_lift hb hl h.q1, cell_lift hb hl h.q2, cell_lift hb hl h.q3, h.f9.below hb h.f9.lt, h.a6.next hb, h.a17.next hb, h.a19.next hb, h.a21.next hb, h.below.trans (hb.mono h.below.size)⟩
/-- .. cell by cell -/
def Cells (g2 B4 g9 D6 g6 c6 D17 g17 c17 D19 g19 c19 D21 g21 c21 : Nat) (W : World) : Prop :=
  (W.cell? ⟨g2, 4, none⟩ = some (.int .i64 0) ∧ W.cell? ⟨g2, 5, none⟩ = some (.int .i64 3) ∧ W.cell? ⟨g2, 6, none⟩ = some (.int .i64 3) ∧ W.cell? ⟨g2, 7, none⟩ = some (.bool false)) ∧
  (W.cell? ⟨g2, 16, none⟩ = some (.int .i64 2) ∧ W.cell? ⟨g2, 17, none⟩ = some (.int .i64 0) ∧ W.cell? ⟨g2, 18, none⟩ = some (.int .i64 1000) ∧ W.cell? ⟨g2, 19, none⟩ = some (.bool false)) ∧
  (W.cell? ⟨B4, 0, none⟩ = some (.int .i64 1000) ∧ W.cell? ⟨B4, 1, none⟩ = some (.int .i64 3) ∧ W.cell? ⟨B4, 2, none⟩ = some (.int .i64 2) ∧ W.cell? ⟨B4, 3, none⟩ = some (.int .i64 3)) ∧
  (W.cell? ⟨g9, 20, none⟩ = some (.int .i64 2) ∧ W.cell? ⟨g9, 21, none⟩ = some (.int .i64 3) ∧ W.cell? ⟨g9, 22, none⟩ = some (.int .i64 3) ∧ W.cell? ⟨g9, 23, none⟩ = some (.bool false)) ∧
  (W.cell? ⟨D6, 0, none⟩ = some (.int .i64 6) ∧ W.cell? ⟨D6, 1, none⟩ = some (.slice (some ⟨g6, 0, none⟩) 4 c6)) ∧
  (W.cell? ⟨D17, 0, none⟩ = some (.int .i64 6) ∧ W.cell? ⟨D17, 1, none⟩ = some (.slice (some ⟨g17, 0, none⟩) 2 c17)) ∧
  (W.cell? ⟨D19, 0, none⟩ = some (.int .i64 6) ∧ W.cell? ⟨D19, 1, none⟩ = some (.slice (some ⟨g19, 0, none⟩) 1 c19)) ∧
  (W.cell? ⟨D21, 0, none⟩ = some (.int .i64 4) ∧ W.cell? ⟨D21, 1, none⟩ = some (.slice (some ⟨g21, 0, none⟩) 2 c21))
theorem KZ.cells {w0 : World} {g2 B4 g9 D6 g6 c6 D17 g17 c17 D19 g19 c19 D21 g21 c21 : Nat} {W : World} (h : KZ w0 g2 B4 g9 D6 g6 c6 D17 g17 c17 D19 g19 c19 D21 g21 c21 W) : Cells g2 B4 g9 D6 g6 c6 D17 g17 c17 D19 g19 c19 D21 g21 c21 W := by
  have h2 := h.f2
  have h9 := h.f9
  rw [kFloats_eq] at h2
  rw [kProof_eq] at h9
  exact ⟨⟨h2.c0 1 (by decide), h2.c1 1 (by decide), h2.c2 1 (by decide), h2.c3 1 (by decide)⟩, ⟨h2.c0 4 (by decide), h2.c1 4 (by decide), h2.c2 4 (by decide), h2.c3 4 (by decide)⟩, ⟨h.q0, h.q1, h.q2, h.q3⟩, ⟨h9.c0 5 (by decide), h9.c1 5 (by decide), h9.c2 5 (by decide), h9.c3 5 (by decide)⟩, ⟨h.a6.c0, h.a6.c1⟩, ⟨h.a17.c0, h.a17.c1⟩, ⟨h.a19.c0, h.a19.c1⟩, ⟨h.a21.c0, h.a21.c1⟩⟩

set_option maxRecDepth 100000 in
set_option maxHeartbeats 4000000 in
theorem known_any (w : World) : Calls Try.prog 17 #[] w fun e w' => e = .returned (.bool true) ∧ Below w.heap.size w w' := by
  go_enter Try.func17, Try.ntmps17
  go_wp2_with fail
  refine (design_any _ _ _ _ _).mono ?_
  rintro e w1 ⟨rfl, hb1⟩
  have hR : RowsAt w1 w.heap.size [7, 56, 0, 21] := (RowsAt.lit w [7, 56, 0, 21]).below hb1
  have hB0 : Below w.heap.size w w1 := ((Below.refl _ _).alloc (Nat.le_refl _) _).trans (hb1.mono (by simp))
  have HR := Lib.hid hR
  have HB0 := Lib.hid hB0
  clear hb1 hR hB0
  go_wp2_with fail
  have ha1 : Below w1.heap.size w1 (w1.alloc (.cells #[.int .i64 6, .slice (some ⟨w.heap.size, 0, none⟩) 4 4] 24)) := (Below.refl _ _).alloc (Nat.le_refl _) _
  have hK : K1 w w1.heap.size w.heap.size (w1.alloc (.cells #[.int .i64 6, .slice (some ⟨w.heap.size, 0, none⟩) 4 4] 24)) := ⟨by simp, by simp, HR.out.below ha1, HB0.out.trans (ha1.mono HB0.out.size)⟩
  obtain ⟨W1, hW1⟩ : ∃ W1, w1.alloc (.cells #[.int .i64 6, .slice (some ⟨w.heap.size, 0, none⟩) 4 4] 24) = W1 := ⟨_, rfl⟩
  obtain ⟨B, hB⟩ : ∃ B, w1.heap.size = B := ⟨_, rfl⟩
  rw [hW1, hB] at hK
  rw [hW1, hB]
  clear ha1 HR HB0 hW1 hB
  refine (k_floats _ _ _ hK.rows).mono ?_
  rintro e w2 ⟨g2, c2, rfl, hF2, hb2⟩
  have hK2 := hK.next hb2
  have d0 := hK2.d0
  have d1 := hK2.d1
  have HF2 := Lib.hid hF2
  have HK2 := Lib.hid hK2
  clear hF2 hb2 hK2 hK
  go_wp2_with fail
  refine (k_longest _ _ _ HK2.out.rows).mono ?_
  rintro e w3 ⟨rfl, hb3⟩
  have hK3 := HK2.out.next hb3
  have HF3 := Lib.hid (HF2.out.below hb3 HF2.out.lt)
  have d03 := hK3.d0
  have d13 := hK3.d1
  have hz3 := hK3.lt
  have HK3 := Lib.hid hK3
  clear HF2 hb3 hK3 HK2 d0 d1
  go_wp2_with fail
  have ha3 : Below w3.heap.size w3 (w3.alloc (.cells #[.int .i64 1000, .int .i64 3, .int .i64 2, .int .i64 3] 35)) := (Below.refl _ _).alloc (Nat.le_refl _) _
  have hK4 : K3 w (w3.heap.size + 1) B w.heap.size g2 w3.heap.size (w3.alloc (.cells #[.int .i64 1000, .int .i64 3, .int .i64 2, .int .i64 3] 35)) := by
    have h1 := HK3.out.rows.lt
    have h2 := HF3.out.lt
    have h3 := HK3.out.below.size
    exact ⟨HK3.out.next ha3, HF3.out.below ha3 HF3.out.lt, by simp, by simp, by simp, by simp, by omega, by omega, by omega, by omega, by simp, by omega⟩
  obtain ⟨W4, hW4⟩ : ∃ W4, w3.alloc (.cells #[.int .i64 1000, .int .i64 3, .int .i64 2, .int .i64 3] 35) = W4 := ⟨_, rfl⟩
  obtain ⟨B4, hB4⟩ : ∃ B4, w3.heap.size = B4 := ⟨_, rfl⟩
  rw [hW4, hB4] at hK4
  rw [hW4, hB4]
  obtain ⟨N, hN⟩ : ∃ N, B4 + 1 = N := ⟨_, rfl⟩
  rw [hN] at hK4
  have HK4 := Lib.hid hK4
  clear ha3 hW4 hB4 HK3 HF3 d03 d13 hz3 hK4 hN
  have hmk : ∀ W, (Instr.makeSlice 22 (.int .i64 4) (.int .i64 4)).run Try.prog W = .ok (.slice (some ⟨W.heap.size, 0, none⟩) 4 4) (W.alloc (.cells (madeCells #[.int .i64 0] 4) 3)) := run_make_row' (P := Try.prog) 22 3 (.int .i64 0) 8 Try.underlying22 Try.info3 rfl .i64 .i64 4 (by omega) (by omega)
  have HKK : Hid (∀ W', K3 w N B w.heap.size g2 B4 W' → W'.cell? ⟨B, 0, none⟩ = some (.int .i64 6) ∧ W'.cell? ⟨B, 1, none⟩ = some (.slice (some ⟨w.heap.size, 0, none⟩) 4 4) ∧ K3 w N B w.heap.size g2 B4 W') := Lib.hid fun W' h => ⟨h.k.d0, h.k.d1, h⟩
  go_cut [6, 7, 8] (fun s6 s7 s8 wx => ∃ B6 : Nat, s6 = .pointer (some ⟨B6, 0, none⟩) ∧ s7 = .int .i64 6 ∧ s8 = .int .i64 0 ∧ K3 w N B w.heap.size g2 B4 wx ∧ DRows wx B6 6 [11, 25, 9, 21])
  case first =>
    have h4 : N ≤ W4.heap.size := HK4.out.lt.2.2.2.2.1
    have h4' : ∀ o, Below N W4 (W4.alloc o).drew := fun o => ((Below.refl N W4).alloc h4 o).drew
    have h4'' : ∀ o o', Below N W4 ((W4.alloc o).alloc o').drew := fun o o' => (((Below.refl N W4).alloc h4 o).alloc (by simp; omega) o').drew
    have HR5 : ∀ W w5, Below N W4 W → Below W.heap.size W w5 → Below N W4 w5 := fun W w5 h1 h2 => h1.trans (h2.mono (Nat.le_trans h4 h1.size))
    have HR6 : ∀ w5 o, Below N W4 w5 → Below N W4 (w5.alloc o) := fun w5 o h1 => h1.alloc (Nat.le_trans h4 h1.size) o
    have RB0 : RowsAt (W4.alloc (.cells (madeCells #[.int .i64 0] 4) 3)).drew W4.heap.size [0, 0, 0, 0] := RowsAt.of_blk (NatBlk.made W4 4)
    have RB1 : ∀ o, RowsAt ((W4.alloc (.cells (madeCells #[.int .i64 0] 4) 3)).alloc o).drew W4.heap.size [0, 0, 0, 0] := fun o => RowsAt.below (W := W4.alloc (.cells (madeCells #[.int .i64 0] 4) 3)) ⟨RB0.at', RB0.lt⟩ ((Below.refl _ _).alloc (Nat.le_refl _) o).drew
    have RB2 : ∀ o, RowsAt ((W4.alloc o).alloc (.cells (madeCells #[.int .i64 0] 4) 3)).drew (W4.heap.size + 1) [0, 0, 0, 0] := fun o => by
      have := RowsAt.of_blk (NatBlk.made (W4.alloc o) 4)
      rw [World.size_alloc] at this
      exact ⟨this.at', this.lt⟩
    have Q1 : ∀ o, ResBox ((W4.alloc (.cells #[.int .i64 0, .slice none 0 0] 24)).alloc o).drew W4.heap.size := fun o => (ResBox.new W4).below ((Below.refl (W4.heap.size + 1) _).alloc (by simp) o).drew (by omega)
    have Q2 : ∀ o, ResBox ((W4.alloc o).alloc (.cells #[.int .i64 0, .slice none 0 0] 24)).drew (W4.heap.size + 1) := fun o => by
      have := ResBox.new (W4.alloc o)
      rw [World.size_alloc] at this
      exact this
    have RB0h := Lib.hid RB0
    have RB1h := Lib.hid RB1
    have RB2h := Lib.hid RB2
    have Q1h := Lib.hid Q1
    have Q2h := Lib.hid Q2
    clear RB0 RB1 RB2 Q1 Q2
    have H4 := Lib.hid h4
    have H4' := Lib.hid h4'
    have H4'' := Lib.hid h4''
    have HR5h := Lib.hid HR5
    have HR6h := Lib.hid HR6
    clear h4 h4' h4'' HR5 HR6
    go_region_held3 (fun w' => w'.cell? ⟨B, 0, none⟩ = some (.int .i64 6) ∧ w'.cell? ⟨B, 1, none⟩ = some (.slice (some ⟨w.heap.size, 0, none⟩) 4 4) ∧ K3 w N B w.heap.size g2 B4 w')
      ((refine HKK.out _ ?_; (first
        | exact HK4.out.next (Below.refl N W4).drew
        | exact HK4.out.next (H4'.out _)
        | exact HK4.out.next (H4''.out _ _)
        | exact HK4.out.next hB5
        | exact HK4.out.next (HR6h.out _ _ hB5)
        | exact HK4.out.next ((hB5.setCell (by have := H4.out; simp; omega) _).setCell (by have := H4.out; simp; omega) _)
        | exact HK4.out.next ((hB5.setCell (H4.out) _).setCell (H4.out) _))))
      ((go_at_call 29; (with_reducible refine (k_bind _ _ _ _ _ ?_ ?_).mono ?_); rotate_left 2; (rintro e w5 ⟨g6, c6, rfl, hg6, hR6, hb5⟩; have hB5 : Below N W4 w5 := (by first | exact HR5h.out _ _ (H4'.out _) hb5 | exact HR5h.out _ _ (H4''.out _ _) hb5); obtain ⟨hc5, hf5⟩ := bcell hb5); rotate_left 1; (first | exact (HK4.out.next (H4'.out _)).k.rows | exact (HK4.out.next (H4''.out _ _)).k.rows); (first | exact RB0h.out | exact RB1h.out _ | exact RB2h.out _)))
    all_goals (go_wp2_with fail; go_meet)
    all_goals refine ⟨_, rfl, rfl, rfl, ?_, ?_⟩
    all_goals first
      | exact (by go_split_ands; assumption)
      | exact HK4.out.next (HR6h.out _ _ hB5)
      | exact HK4.out.next ((hB5.setCell (by have := H4.out; simp; omega) _).setCell (by have := H4.out; simp; omega) _)
      | exact HK4.out.next ((hB5.setCell (H4.out) _).setCell (H4.out) _)
      | exact DRows.boxed w5 6 g6 c6 [11, 25, 9, 21] hR6
      | exact DRows.stored 6 g6 c6 (Q1h.out _) hb5 hR6 hg6
      | exact DRows.stored 6 g6 c6 (Q2h.out _) hb5 hR6 hg6
      | trace_state
  case rest =>
    obtain ⟨B6, rfl, rfl, rfl, hK, hD6⟩ := hcut
    have d0 := hK.k.d0
    have d1 := hK.k.d1
    have HK := Lib.hid hK
    have HD6 := Lib.hid hD6
    clear hK hD6 HK4 HKK hmk
    go_wp2_with fail
    refine (k_proof _ _ _ HK.out.k.rows).mono ?_
    rintro e w5 ⟨g9, c9, rfl, hF9, hb5⟩
    have hK5 : K5 w N B w.heap.size g2 B4 B6 g9 w5 := ⟨HK.out.next1 hb5, HD6.out.next hb5, hF9⟩
    have d05 := hK5.k.k.d0
    have d15 := hK5.k.k.d1
    have hz5 := hK5.k.k.lt
    have HK5 := Lib.hid hK5
    clear hK5 hF9 hb5 HK HD6 d0 d1
    go_wp2_with fail
    have H1 := Lib.hid (HK5.out.next (below1 w5 (.cells #[.int .i64 0, .int .i64 0, .int .i64 63, .int .i64 0] 3)))
    refine (k_bind_no _ _ _ _ _ H1.out.k.k.rows (RowsAt.lit w5 [0, 0, 63, 0])).mono ?_
    rintro e w6 ⟨rfl, hb6⟩
    have HK6 := Lib.hid (H1.out.next hb6)
    clear hb6 H1 HK5 d05 d15 hz5
    go_wp2_with fail
    refine (design_any _ _ _ _ _).mono ?_
    rintro e w7 ⟨rfl, hb7⟩
    have hR7 : RowsAt w7 (w6.heap.size + 1) [21, 42] := (RowsAt.lit1 w6 _ [21, 42]).below hb7
    have HK7 := Lib.hid (HK6.out.next (below_thru (below2 w6 _ _) hb7))
    have HR7 := Lib.hid hR7
    clear hR7 hb7 HK6
    go_wp2_with fail
    refine (k_least _ _ _ HR7.out).mono ?_
    rintro e w8 ⟨rfl, hb8⟩
    have HK8 := Lib.hid (HK7.out.next hb8)
    clear hb8 HK7 HR7
    go_wp2_with fail
    refine (design_any _ _ _ _ _).mono ?_
    rintro e w9 ⟨rfl, hb9⟩
    have hR9 : RowsAt w9 w8.heap.size [21, 42] := (RowsAt.lit w8 [21, 42]).below hb9
    have HK9 := Lib.hid (HK8.out.next (below_thru (below1 w8 _) hb9))
    have HR9 := Lib.hid hR9
    clear hR9 hb9 HK8
    go_wp2_with fail
    refine (k_shift _ _ _ HR9.out).mono ?_
    rintro e w10 ⟨g17, rfl, hR17, hb10⟩
    have HK10 := Lib.hid (HK9.out.next hb10)
    have HR17 := Lib.hid hR17
    clear hb10 HK9 HR9 hR17
    go_wp2_with fail
    refine (design_any _ _ _ _ _).mono ?_
    rintro e w11 ⟨rfl, hb11⟩
    have hR11 : RowsAt w11 (w10.heap.size + 1) [3] := (RowsAt.lit1 w10 _ [3]).below hb11
    have hD17 : DRows w11 w10.heap.size 6 [42, 21] := ((DRows.boxed w10 6 g17 2 [42, 21] HR17.out).next (below1 _ _)).next hb11
    have HK11 := Lib.hid (HK10.out.next (below_thru (below2 w10 _ _) hb11))
    have HR11 := Lib.hid hR11
    have HD17 := Lib.hid hD17
    clear hR11 hb11 HK10 HR17 hD17
    go_wp2_with fail
    refine (k_reflect _ _ _ HR11.out).mono ?_
    rintro e w12 ⟨g19, rfl, hR19, hb12⟩
    have HK12 := Lib.hid (HK11.out.next hb12)
    have HD17b := Lib.hid (HD17.out.next hb12)
    have HR19 := Lib.hid hR19
    clear hb12 HK11 HR11 hR19 HD17
    go_wp2_with fail
    refine (design_any _ _ _ _ _).mono ?_
    rintro e w13 ⟨rfl, hb13⟩
    have hR13 : RowsAt w13 (w12.heap.size + 1) [1, 2] := (RowsAt.lit1 w12 _ [1, 2]).below hb13
    have hD19 : DRows w13 w12.heap.size 6 [35] := ((DRows.boxed w12 6 g19 1 [35] HR19.out).next (below1 _ _)).next hb13
    have HK13 := Lib.hid (HK12.out.next (below_thru (below2 w12 _ _) hb13))
    have HD17c := Lib.hid (HD17b.out.next (below_thru (below2 w12 _ _) hb13))
    have HR13 := Lib.hid hR13
    have HD19 := Lib.hid hD19
    clear hR13 hb13 HK12 HR19 hD19 HD17b
    go_wp2_with fail
    refine (design_any _ _ _ _ _).mono ?_
    rintro e w14 ⟨rfl, hb14⟩
    have hB14 := below_thru (below1 w13 _) hb14
    have hR14 : RowsAt w14 w13.heap.size [15, 15] := (RowsAt.lit w13 [15, 15]).below hb14
    have HR13b := Lib.hid (HR13.out.below hB14)
    have HK14 := Lib.hid (HK13.out.next hB14)
    have HD17d := Lib.hid (HD17c.out.next hB14)
    have HD19b := Lib.hid (HD19.out.next hB14)
    have HR14 := Lib.hid hR14
    clear hR14 hb14 HK13 HD19 HD17c HR13 hB14
    go_wp2_with fail
    refine (design_any _ _ _ _ _).mono ?_
    rintro e w15 ⟨rfl, hb15⟩
    have hB15 := below_thru (below1 w14 _) hb15
    have hR15 : RowsAt w15 w14.heap.size [6, 6] := (RowsAt.lit w14 [6, 6]).below hb15
    have HR13c := Lib.hid (HR13b.out.below hB15)
    have HR14b := Lib.hid (HR14.out.below hB15)
    have HK15 := Lib.hid (HK14.out.next hB15)
    have HD17e := Lib.hid (HD17d.out.next hB15)
    have HD19c := Lib.hid (HD19b.out.next hB15)
    have HR15 := Lib.hid hR15
    clear hR15 hb15 HK14 HD19b HD17d HR13b HR14 hB15
    go_wp2_with fail
    refine (k_lay _ _ _ _ _ _ _ HR13c.out HR14b.out HR15.out).mono ?_
    rintro e w16 ⟨g21, rfl, hR21, hb16⟩
    have ha16 := below_thru hb16 (below1 w16 (.cells #[.int .i64 4, .slice (some ⟨g21, 0, none⟩) 2 2] 24))
    have HK16 := Lib.hid (HK15.out.next ha16)
    have HD17 := Lib.hid (HD17e.out.next ha16)
    have HD19 := Lib.hid (HD19c.out.next ha16)
    have HD21 := Lib.hid (DRows.boxed w16 4 g21 2 [7, 14] hR21)
    clear HK15 HD17e HD19c HR13c HR14b HR15 hR21 ha16 hb16
    go_wp2_with fail
    obtain ⟨g6, c6, a6⟩ := HK16.out.d6.at' 4 rfl
    obtain ⟨h17, c17, a17⟩ := HD17.out.at' 2 rfl
    obtain ⟨h19, c19, a19⟩ := HD19.out.at' 1 rfl
    obtain ⟨h21, c21, a21⟩ := HD21.out.at' 2 rfl
    have hZ : KZ w g2 B4 g9 B6 g6 c6 w10.heap.size h17 c17 w12.heap.size h19 c19 w16.heap.size h21 c21 (w16.alloc (.cells #[.int .i64 4, .slice (some ⟨g21, 0, none⟩) 2 2] 24)) :=
      ⟨HK16.out.k.fl, HK16.out.k.q0, HK16.out.k.q1, HK16.out.k.q2, HK16.out.k.q3, HK16.out.fl, a6, a17, a19, a21, HK16.out.k.k.below⟩
    obtain ⟨WZ, hWZ⟩ : ∃ WZ, w16.alloc (.cells #[.int .i64 4, .slice (some ⟨g21, 0, none⟩) 2 2] 24) = WZ := ⟨_, rfl⟩
    rw [hWZ] at hZ
    rw [hWZ]
    obtain ⟨D17, hE17⟩ : ∃ D17, w10.heap.size = D17 := ⟨_, rfl⟩
    obtain ⟨D19, hE19⟩ : ∃ D19, w12.heap.size = D19 := ⟨_, rfl⟩
    obtain ⟨D21, hE21⟩ : ∃ D21, w16.heap.size = D21 := ⟨_, rfl⟩
    rw [hE17, hE19, hE21] at hZ
    rw [hE17, hE19, hE21]
    have HZ0 := Lib.hid hZ
    clear HK16 HD17 HD19 HD21 a6 a17 a19 a21 hZ hWZ hE17 hE19 hE21
    have HZ : Hid (∀ W', KZ w g2 B4 g9 B6 g6 c6 D17 h17 c17 D19 h19 c19 D21 h21 c21 W' → Cells g2 B4 g9 B6 g6 c6 D17 h17 c17 D19 h19 c19 D21 h21 c21 W' ∧ KZ w g2 B4 g9 B6 g6 c6 D17 h17 c17 D19 h19 c19 D21 h21 c21 W') := Lib.hid fun W' h => ⟨h.cells, h⟩
    unfold Cells at HZ
    go_region_held3 (fun W => ((W.cell? ⟨g2, 4, none⟩ = some (.int .i64 0) ∧ W.cell? ⟨g2, 5, none⟩ = some (.int .i64 3) ∧ W.cell? ⟨g2, 6, none⟩ = some (.int .i64 3) ∧ W.cell? ⟨g2, 7, none⟩ = some (.bool false)) ∧
  (W.cell? ⟨g2, 16, none⟩ = some (.int .i64 2) ∧ W.cell? ⟨g2, 17, none⟩ = some (.int .i64 0) ∧ W.cell? ⟨g2, 18, none⟩ = some (.int .i64 1000) ∧ W.cell? ⟨g2, 19, none⟩ = some (.bool false)) ∧
  (W.cell? ⟨B4, 0, none⟩ = some (.int .i64 1000) ∧ W.cell? ⟨B4, 1, none⟩ = some (.int .i64 3) ∧ W.cell? ⟨B4, 2, none⟩ = some (.int .i64 2) ∧ W.cell? ⟨B4, 3, none⟩ = some (.int .i64 3)) ∧
  (W.cell? ⟨g9, 20, none⟩ = some (.int .i64 2) ∧ W.cell? ⟨g9, 21, none⟩ = some (.int .i64 3) ∧ W.cell? ⟨g9, 22, none⟩ = some (.int .i64 3) ∧ W.cell? ⟨g9, 23, none⟩ = some (.bool false)) ∧
  (W.cell? ⟨B6, 0, none⟩ = some (.int .i64 6) ∧ W.cell? ⟨B6, 1, none⟩ = some (.slice (some ⟨g6, 0, none⟩) 4 c6)) ∧
  (W.cell? ⟨D17, 0, none⟩ = some (.int .i64 6) ∧ W.cell? ⟨D17, 1, none⟩ = some (.slice (some ⟨h17, 0, none⟩) 2 c17)) ∧
  (W.cell? ⟨D19, 0, none⟩ = some (.int .i64 6) ∧ W.cell? ⟨D19, 1, none⟩ = some (.slice (some ⟨h19, 0, none⟩) 1 c19)) ∧
  (W.cell? ⟨D21, 0, none⟩ = some (.int .i64 4) ∧ W.cell? ⟨D21, 1, none⟩ = some (.slice (some ⟨h21, 0, none⟩) 2 c21))) ∧ KZ w g2 B4 g9 B6 g6 c6 D17 h17 c17 D19 h19 c19 D21 h21 c21 W)
      ((first
        | exact HZ.out _ (HZ0.out.next (Below.refl _ _).drew)
        | exact HZ.out _ (HZ0.out.next (below1 _ _).drew)
        | (refine HZ.out _ (KZ.next ?_ (by assumption)); go_split_ands; assumption)
        | (refine HZ.out _ (KZ.next ?_ (below1 _ _)); go_split_ands; assumption)))
      ((first
        | (go_at_call 30; (with_reducible refine (design_any _ _ _ _ _).mono ?_); rintro e wd ⟨rfl, hbd⟩; (first
            | have r6 : RowsAt wd _ [11, 25, 9, 21] := (RowsAt.litd _ [11, 25, 9, 21]).below hbd
            | have r17 : RowsAt wd _ [42, 21] := (RowsAt.lit _ [42, 21]).below hbd
            | have r19 : RowsAt wd _ [35] := (RowsAt.lit _ [35]).below hbd
            | have r21 : RowsAt wd _ [7, 14] := (RowsAt.lit _ [7, 14]).below hbd))
        | (go_at_call 23; (with_reducible refine (same6 _ _ _ _ _ ?_ r6).mono ?_); rotate_left 1; (rintro e ws ⟨rfl, hbs⟩; clear r6); rotate_left 1; (go_split_ands; exact (KZ.a6 (by assumption)).rows))
        | (go_at_call 23; (with_reducible refine (same17 _ _ _ _ _ ?_ r17).mono ?_); rotate_left 1; (rintro e ws ⟨rfl, hbs⟩; clear r17); rotate_left 1; (go_split_ands; exact (KZ.a17 (by assumption)).rows))
        | (go_at_call 23; (with_reducible refine (same19 _ _ _ _ _ ?_ r19).mono ?_); rotate_left 1; (rintro e ws ⟨rfl, hbs⟩; clear r19); rotate_left 1; (go_split_ands; exact (KZ.a19 (by assumption)).rows))
        | (go_at_call 23; (with_reducible refine (same21 _ _ _ _ _ ?_ r21).mono ?_); rotate_left 1; (rintro e ws ⟨rfl, hbs⟩; clear r21); rotate_left 1; (go_split_ands; exact (KZ.a21 (by assumption)).rows))))
    all_goals go_wp2_with fail
    all_goals go_ret
    all_goals (go_split_ands; exact ⟨ret_bool rfl, KZ.below (by assumption)⟩)
end Go.Proofs.Ytjobbleabepaiaa
