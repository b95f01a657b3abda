/- The statements' helpers: the document's example of package point. -/
import Derived.Test.YtdmgffoikebgkaaHC
import Derived.Test.YtdmgffoikebgkaaVD
import Derived.Test.YtdmgffoikebgkaaTC
import Derived.Test.YtdmgffoikebgkaaHG
import Derived.Test.YtdmgffoikebgkaaCI
namespace Go.Proofs.Ytdmgffoikebgkaa
open Go.RowKit Go.Shelf
attribute [local go_sem] Oper.semAt_some

theorem exBind : bindRows 6 2 [7, 56, 0, 21] [0, 0, 0, 0] 4 = [11, 25, 9, 21] ∧ bindSum 6 2 [7, 56, 0, 21] [0, 0, 0, 0] 4 = 6 := by decide +kernel
theorem exNever : ∀ i, i < 4 → bindN 6 (nthN [7, 56, 0, 21] i) (nthN [0, 0, 0, 0] i) 2 < never := by decide +kernel
theorem exValid : Valid 6 [7, 56, 0, 21] := by
  refine ⟨by decide, by decide, by decide, by decide, fun i => ?_⟩
  by_cases h : i < 4
  · have : i = 0 ∨ i = 1 ∨ i = 2 ∨ i = 3 := by omega
    rcases this with rfl | rfl | rfl | rfl <;> decide
  · have : nthN [7, 56, 0, 21] i = 0 := by unfold nthN; rw [List.getElem?_eq_none (by simpa using h)]; rfl
    rw [this]; decide
theorem exZero (i : Nat) : nthN [0, 0, 0, 0] i < 2 ^ 6 := by
  by_cases h : i < 4
  · have : i = 0 ∨ i = 1 ∨ i = 2 ∨ i = 3 := by omega
    rcases this with rfl | rfl | rfl | rfl <;> decide
  · have : nthN [0, 0, 0, 0] i = 0 := by unfold nthN; rw [List.getElem?_eq_none (by simpa using h)]; rfl
    rw [this]; decide
theorem nats4 {W : World} {B : Nat} {a b c d : Nat} {t : TypeId} (h : BoxAt W B #[.int .i64 (a : Int), .int .i64 (b : Int), .int .i64 (c : Int), .int .i64 (d : Int)] t) : NatsAt W B 0 [a, b, c, d] := by
  intro i hi
  rw [Nat.zero_add]
  have : i = 0 ∨ i = 1 ∨ i = 2 ∨ i = 3 := by simp at hi; omega
  rcases this with rfl | rfl | rfl | rfl
  · exact h.cell' 0 rfl
  · exact h.cell' 1 rfl
  · exact h.cell' 2 rfl
  · exact h.cell' 3 rfl
theorem nats2 {W : World} {B : Nat} {a b : Nat} {t : TypeId} (h : BoxAt W B #[.int .i64 (a : Int), .int .i64 (b : Int)] t) : NatsAt W B 0 [a, b] := by
  intro i hi
  rw [Nat.zero_add]
  have : i = 0 ∨ i = 1 := by simp at hi; omega
  rcases this with rfl | rfl
  · exact h.cell' 0 rfl
  · exact h.cell' 1 rfl
set_option maxHeartbeats 1000000 in
set_option maxRecDepth 100000 in
theorem armPoint_any (w : World) : Calls Try.prog 104 #[] w fun e w' => e = .returned (.bool true) ∧ Below w.heap.size w w' := by
  have hmk : ∀ W : World, (Instr.makeSlice 24 (.int .i64 4) (.int .i64 4)).run Try.prog W = .ok (.slice (some ⟨W.heap.size, 0, none⟩) 4 4) (W.alloc (.cells #[.int .i64 0, .int .i64 0, .int .i64 0, .int .i64 0] 3)) := fun W => by
    have h := run_make_row' (P := Try.prog) 24 3 (.int .i64 0) 8 Try.underlying24 Try.info3 rfl .i64 .i64 4 (by omega) (by omega) W
    have e : madeCells #[.int .i64 0] 4 = #[.int .i64 0, .int .i64 0, .int .i64 0, .int .i64 0] := by
      apply Array.ext'
      simp [madeCells, List.range, List.range.loop]
    rw [e] at h
    exact h
  obtain ⟨W0, hW0⟩ : ∃ W0, W0 = (w.alloc (.cells #[.int .i64 7, .int .i64 56, .int .i64 0, .int .i64 21] 3)).alloc (.cells #[.int .i64 0, .int .i64 0, .int .i64 0, .int .i64 0] 3) := ⟨_, rfl⟩
  have hA : BoxAt W0 w.heap.size #[.int .i64 7, .int .i64 56, .int .i64 0, .int .i64 21] 3 := by
    rw [hW0]; exact (BoxAt.new _ _ _).below ((Below.refl (w.heap.size + 1) _).alloc (by simp) _) (by omega)
  have hB : BoxAt W0 (w.heap.size + 1) #[.int .i64 0, .int .i64 0, .int .i64 0, .int .i64 0] 3 := by
    have := BoxAt.new (w.alloc (.cells #[.int .i64 7, .int .i64 56, .int .i64 0, .int .i64 21] 3)) #[.int .i64 0, .int .i64 0, .int .i64 0, .int .i64 0] 3
    rw [World.size_alloc] at this
    rw [hW0]; exact this
  have hbb : Below w.heap.size w W0 := by rw [hW0]; exact ((Below.refl _ _).alloc (Nat.le_refl _) _).alloc (by simp) _
  have H := Bind_ok 6 w.heap.size 0 4 (w.heap.size + 1) 0 4 2 [7, 56, 0, 21] [0, 0, 0, 0] W0 ⟨nats4 (a := 7) (b := 56) (c := 0) (d := 21) hA, hA.lt, exValid⟩ rfl (nats4 (a := 0) (b := 0) (c := 0) (d := 0) hB) hB.lt exZero (by omega) (by omega) exNever
  have e1 : bindRows 6 2 [7, 56, 0, 21] [0, 0, 0, 0] [7, 56, 0, 21].length = [11, 25, 9, 21] := exBind.1
  have e2 : bindSum 6 2 [7, 56, 0, 21] [0, 0, 0, 0] [7, 56, 0, 21].length = 6 := exBind.2
  rw [e1, e2] at H
  have HB := Lib.hid H
  have HW0 := Lib.hid hW0
  have Hbb := Lib.hid hbb
  clear H e1 e2 hA hB hW0 hbb
  go_enter Try.func104, Try.ntmps104
  go_wp2_with fail
  rw [← HW0.out]
  refine HB.out.mono ?_
  rintro e w1 ⟨v, rfl, hr, hb⟩
  obtain ⟨g, cap, rfl⟩ := row_slice hr (by decide)
  have hl4 : ([7, 56, 0, 21] : List Nat).length = 4 := rfl
  simp only [hl4] at hr ⊢
  obtain ⟨hn, hg, hgb⟩ := nats_of_row hr (by decide)
  have hbw := Hbb.out.trans (hb.mono Hbb.out.size)
  have HN := Lib.hid hn
  have Hbw := Lib.hid hbw
  clear hr hb hn hbw HB Hbb
  obtain ⟨W2, hW2⟩ : ∃ W2, W2 = (w1.alloc (.cells #[.int .i64 6, .slice (some ⟨g, 0, none⟩) 4 cap] 37)).alloc (.cells #[.int .i64 11, .int .i64 25, .int .i64 9, .int .i64 21] 3) := ⟨_, rfl⟩
  have hC : BoxAt W2 (w1.heap.size + 1) #[.int .i64 11, .int .i64 25, .int .i64 9, .int .i64 21] 3 := by
    have := BoxAt.new (w1.alloc (.cells #[.int .i64 6, .slice (some ⟨g, 0, none⟩) 4 cap] 37)) #[.int .i64 11, .int .i64 25, .int .i64 9, .int .i64 21] 3
    rw [World.size_alloc] at this
    rw [hW2]; exact this
  have hb2 : Below w1.heap.size w1 W2 := by rw [hW2]; exact ((Below.refl _ _).alloc (Nat.le_refl _) _).alloc (by simp) _
  have HS := Lib.hid (armSame_any g 0 cap (w1.heap.size + 1) 0 4 [11, 25, 9, 21] [11, 25, 9, 21] W2 (by decide) (by decide) (HN.out.below hb2 hg) (nats4 (a := 11) (b := 25) (c := 9) (d := 21) hC) (Nat.lt_of_lt_of_le hg hb2.size) hC.lt)
  have Hb2 := Lib.hid (Hbw.out.trans (hb2.mono Hbw.out.size))
  have HW2 := Lib.hid hW2
  clear hC hb2 hW2
  go_wp2_with fail
  rw [← HW2.out]
  refine HS.out.mono ?_
  rintro e w3 ⟨rfl, hb3⟩
  have Hb3 := Lib.hid (Hb2.out.trans (hb3.mono Hb2.out.size))
  clear hb3
  go_wp2_with fail
  go_ret
  exact ⟨ret_bool (by decide), Hb3.out⟩
end Go.Proofs.Ytdmgffoikebgkaa
/- The statements' helpers: the document's example of package tie. -/
namespace Go.Proofs.Ytdmgffoikebgkaa
open Go.RowKit Go.Shelf
attribute [local go_sem] Oper.semAt_some

def exHs : List Nat := [0, 1, 2, 3, 2, 1]
theorem exHs_nth (i : Nat) (h : i < 6) : nthN exHs i < 4 := by
  have : i = 0 ∨ i = 1 ∨ i = 2 ∨ i = 3 ∨ i = 4 ∨ i = 5 := by omega
  rcases this with rfl | rfl | rfl | rfl | rfl | rfl <;> decide
theorem exValid2 : Valid 4 [1, 6] := by
  refine ⟨by decide, by decide, by decide, by decide, fun i => ?_⟩
  by_cases h : i < 2
  · have : i = 0 ∨ i = 1 := by omega
    rcases this with rfl | rfl <;> decide
  · have : nthN [1, 6] i = 0 := by unfold nthN; rw [List.getElem?_eq_none (by simpa using h)]; rfl
    rw [this]; decide
def exCloth : List ByteArray := [⟨#[120, 46, 46, 46, 46, 46]⟩, ⟨#[46, 120, 120, 46, 120, 120]⟩]
theorem exCloth_eq : clothV exHs [1, 6] 2 = exCloth.map Value.string := by
  have h1 : pickS exHs 1 = ⟨#[120, 46, 46, 46, 46, 46]⟩ := by unfold pickS strOfNums; congr 1
  have h2 : pickS exHs 6 = ⟨#[46, 120, 120, 46, 120, 120]⟩ := by unfold pickS strOfNums; congr 1
  show [Value.string (pickS exHs 1), Value.string (pickS exHs 6)] = _
  rw [h1, h2]; rfl
theorem strs2 {W : World} {B : Nat} {a b : ByteArray} {t : TypeId} (h : BoxAt W B #[.string a, .string b] t) : StrsAt W B 0 [a, b] := by
  intro i hi
  rw [Nat.zero_add]
  have : i = 0 ∨ i = 1 := by simp at hi; omega
  rcases this with rfl | rfl
  · exact h.cell' 0 rfl
  · exact h.cell' 1 rfl
set_option maxHeartbeats 1000000 in
set_option maxRecDepth 100000 in
theorem armTie_any (w : World) : Calls Try.prog 106 #[] w fun e w' => e = .returned (.bool true) ∧ Below w.heap.size w w' := by
  have HM := Lib.hid (exMake w.heap.size (w.alloc (.cells exGrp 32)) (BoxAt.new _ _ _))
  unfold exGrp at HM
  have Hb0 := Lib.hid (show Below w.heap.size w (w.alloc (.cells exGrp 32)) from (Below.refl _ _).alloc (Nat.le_refl _) _)
  unfold exGrp at Hb0
  go_enter Try.func106, Try.ntmps106
  go_wp2_with fail
  refine HM.out.mono ?_
  rintro e w1 ⟨v, rfl, hr, hb⟩
  obtain ⟨g, cap, rfl⟩ := row_slice hr (by decide)
  obtain ⟨hn, hg, hgb⟩ := nats_of_row (xs := exHs) hr (by decide)
  have hbw := Hb0.out.trans (hb.mono (by simp))
  have HN := Lib.hid hn
  have Hbw := Lib.hid hbw
  clear hr hb hn hbw HM Hb0 hgb
  obtain ⟨W2, hW2⟩ : ∃ W2, W2 = (w1.alloc (.cells #[.int .i64 4, .slice (some ⟨g, 0, none⟩) 6 cap] 26)).alloc (.cells #[.int .i64 1, .int .i64 6] 3) := ⟨_, rfl⟩
  have hC : BoxAt W2 (w1.heap.size + 1) #[.int .i64 1, .int .i64 6] 3 := by
    have := BoxAt.new (w1.alloc (.cells #[.int .i64 4, .slice (some ⟨g, 0, none⟩) 6 cap] 26)) #[.int .i64 1, .int .i64 6] 3
    rw [World.size_alloc] at this
    rw [hW2]; exact this
  have hb2 : Below w1.heap.size w1 W2 := by rw [hW2]; exact ((Below.refl _ _).alloc (Nat.le_refl _) _).alloc (by simp) _
  have HWv := Lib.hid (tieWeave_ok 4 g 0 cap (w1.heap.size + 1) 0 2 exHs [1, 6] W2 ⟨HN.out.below hb2 hg, Nat.lt_of_lt_of_le hg hb2.size, by decide, by decide, by decide, by decide, exHs_nth⟩ ⟨nats2 (a := 1) (b := 6) hC, hC.lt, exValid2⟩)
  have Hb2 := Lib.hid (Hbw.out.trans (hb2.mono Hbw.out.size))
  have HW2 := Lib.hid hW2
  clear hC hb2 hW2 HN
  go_wp2_with fail
  rw [← HW2.out]
  refine HWv.out.mono ?_
  rintro e w3 ⟨v, rfl, hr, hb3⟩
  obtain ⟨g3, cap3, rfl⟩ := row_slice hr (by decide)
  have hl2 : ([1, 6] : List Nat).length = 2 := rfl
  simp only [hl2] at hr ⊢
  rw [exCloth_eq] at hr
  obtain ⟨hs3, hg3, _⟩ := strs_of_row hr (by decide)
  obtain ⟨W4, hW4⟩ : ∃ W4, W4 = w3.alloc (.cells #[.string ⟨#[120, 46, 46, 46, 46, 46]⟩, .string ⟨#[46, 120, 120, 46, 120, 120]⟩] 9) := ⟨_, rfl⟩
  have hD : BoxAt W4 w3.heap.size #[.string ⟨#[120, 46, 46, 46, 46, 46]⟩, .string ⟨#[46, 120, 120, 46, 120, 120]⟩] 9 := by rw [hW4]; exact BoxAt.new _ _ _
  have hb4 : Below w3.heap.size w3 W4 := by rw [hW4]; exact (Below.refl _ _).alloc (Nat.le_refl _) _
  have hst := strs2 hD
  have HL := Lib.hid (armLike_eq g3 0 cap3 w3.heap.size 0 2 exCloth W4 (by decide) (hs3.below hb4 hg3) hst (Nat.lt_of_lt_of_le hg3 hb4.size) hD.lt)
  have Hb3 := Lib.hid (Hb2.out.trans (hb3.mono Hb2.out.size))
  have Hb4 := Lib.hid (Hb3.out.trans (hb4.mono Hb3.out.size))
  have HW4 := Lib.hid hW4
  clear hr hs3 hD hb4 hst hW4 hb3
  go_wp2_with fail
  rw [← HW4.out]
  refine HL.out.mono ?_
  rintro e w5 ⟨rfl, hb5⟩
  have Hb5 := Lib.hid (Hb4.out.trans (hb5.mono Hb4.out.size))
  clear hb5
  go_wp2_with fail
  go_ret
  exact ⟨rfl, Hb5.out⟩
end Go.Proofs.Ytdmgffoikebgkaa
/- The statements' helpers: the document's example of package chain. -/
namespace Go.Proofs.Ytdmgffoikebgkaa
open Go.RowKit Go.Shelf
attribute [local go_sem] Oper.semAt_some

theorem armSame_eq (b1 o1 c1 b2 o2 c2 : Nat) (xs : List Nat) (w : World) (hl1 : xs.length ≤ 1000) (hx : NatsAt w b1 o1 xs) (hy : NatsAt w b2 o2 xs) (hb1 : b1 < w.heap.size) (hb2 : b2 < w.heap.size) :
    Calls Try.prog 102 #[.slice (some ⟨b1, o1, none⟩) xs.length c1, .slice (some ⟨b2, o2, none⟩) xs.length c2] w fun e w' => e = .returned (.bool true) ∧ Below w.heap.size w w' :=
  (armSame_any b1 o1 c1 b2 o2 c2 xs xs w hl1 hl1 hx hy hb1 hb2).mono fun e w' h => ⟨by rw [h.1]; simp, h.2⟩
def exCards : List Card := [⟨0, 1, false⟩, ⟨3, 8, false⟩, ⟨1, 2, false⟩, ⟨2, 4, false⟩, ⟨4, 15, false⟩]
theorem five {i : Nat} (h : i < 5) : i = 0 ∨ i = 1 ∨ i = 2 ∨ i = 3 ∨ i = 4 := by omega
theorem exCards_ok : ChainOk 4 exCards := by
  have hd : ∀ i, ¬ i < 5 → nthC exCards i = ⟨0, 0, false⟩ := fun i hi => by unfold nthC; rw [List.getElem?_eq_none (by simp [exCards]; omega)]; rfl
  refine ⟨by decide, by decide, by decide, by decide, fun i => ?_, fun i => ?_⟩
  all_goals by_cases h : i < 5
  · rcases five h with rfl | rfl | rfl | rfl | rfl <;> decide
  · rw [hd i h]; decide
  · rcases five h with rfl | rfl | rfl | rfl | rfl <;> decide
  · rw [hd i h]; decide
theorem exCards_apart : Apart exCards := by
  intro i j hi hj e
  rcases five hi with rfl | rfl | rfl | rfl | rfl <;> rcases five hj with rfl | rfl | rfl | rfl | rfl <;> first | rfl | (exfalso; revert e; decide)
theorem exMoved : movedN exCards = [1] := by decide +kernel
theorem exWoven : wovenTo 4 exCards [1, 1, 0, 2] 0 4 = [1, 8, 2, 2] ∧ cylTo 5 [1, 1, 0, 2] 0 4 = 4 := by decide +kernel
theorem exSteps (i : Nat) : nthN [1, 1, 0, 2] i < 3 := by
  by_cases h : i < 4
  · have : i = 0 ∨ i = 1 ∨ i = 2 ∨ i = 3 := by omega
    rcases this with rfl | rfl | rfl | rfl <;> decide
  · have : nthN [1, 1, 0, 2] i = 0 := by unfold nthN; rw [List.getElem?_eq_none (by simpa using h)]; rfl
    rw [this]; decide
def exCells : Array Value := #[.int .i64 0, .int .i64 1, .bool false, .int .i64 3, .int .i64 8, .bool false, .int .i64 1, .int .i64 2, .bool false, .int .i64 2, .int .i64 4, .bool false, .int .i64 4, .int .i64 15, .bool false]
theorem exCards_at {W : World} {B : Nat} (h : BoxAt W B exCells 128) : CardsAt W B exCards := by
  refine ⟨fun i hi => ?_, fun i hi => ?_, fun i hi => ?_, h.lt⟩
  all_goals rcases five hi with rfl | rfl | rfl | rfl | rfl <;> exact h.cell' _ rfl
set_option maxHeartbeats 2000000 in
set_option maxRecDepth 100000 in
theorem armChain_any (w : World) : Calls Try.prog 105 #[] w fun e w' => e = .returned (.bool true) ∧ Below w.heap.size w w' := by
  obtain ⟨W0, hW0⟩ : ∃ W0, W0 = (w.alloc (.cells exCells 128)).alloc (.cells #[.int .i64 4, .slice (some ⟨w.heap.size, 0, none⟩) 5 5] 114) := ⟨_, rfl⟩
  have hb0 : Below w.heap.size w W0 := by rw [hW0]; exact ((Below.refl _ _).alloc (Nat.le_refl _) _).alloc (by simp) _
  have hA : BoxAt W0 w.heap.size exCells 128 := by rw [hW0]; exact (BoxAt.new _ _ _).below ((Below.refl (w.heap.size + 1) _).alloc (by simp) _) (by omega)
  have hB : BoxAt W0 (w.heap.size + 1) #[.int .i64 4, .slice (some ⟨w.heap.size, 0, none⟩) 5 5] 114 := by
    have := BoxAt.new (w.alloc (.cells exCells 128)) #[.int .i64 4, .slice (some ⟨w.heap.size, 0, none⟩) 5 5] 114
    rw [World.size_alloc] at this
    rw [hW0]; exact this
  have HM := Lib.hid (Moved_ok 4 w.heap.size 5 exCards W0 ⟨exCards_at hA, exCards_ok⟩ exCards_apart)
  have HA := Lib.hid hA
  have HB := Lib.hid hB
  have Hb0 := Lib.hid hb0
  have HW0 := Lib.hid hW0
  unfold exCells at HW0
  clear hA hB hb0 hW0
  go_enter Try.func105, Try.ntmps105
  go_wp2_with fail
  rw [← HW0.out]
  refine HM.out.mono ?_
  rintro e w1 ⟨v, rfl, hr, hb⟩
  rw [exMoved] at hr
  obtain ⟨g, cap, rfl⟩ := row_slice hr (by decide)
  have hl1 : ([1] : List Nat).length = 1 := rfl
  simp only [hl1] at hr ⊢
  obtain ⟨hn, hg, _⟩ := nats_of_row hr (by decide)
  have hA1 := HA.out.next hb
  have hB1 := HB.out.next hb
  have c0 : w1.cell? ⟨w.heap.size + 1, 0, none⟩ = some (.int .i64 4) := hB1.cell' 0 rfl
  have c1 : w1.cell? ⟨w.heap.size + 1, 1, none⟩ = some (.slice (some ⟨w.heap.size, 0, none⟩) 5 5) := hB1.cell' 1 rfl
  obtain ⟨W2, hW2⟩ : ∃ W2, W2 = w1.alloc (.cells #[.int .i64 1, .int .i64 1, .int .i64 0, .int .i64 2] 3) := ⟨_, rfl⟩
  have hb2 : Below w1.heap.size w1 W2 := by rw [hW2]; exact (Below.refl _ _).alloc (Nat.le_refl _) _
  have hC : BoxAt W2 w1.heap.size #[.int .i64 1, .int .i64 1, .int .i64 0, .int .i64 2] 3 := by rw [hW2]; exact BoxAt.new _ _ _
  have HWv := Lib.hid (chainWeave_ok 4 w.heap.size 5 0 w1.heap.size 0 4 exCards [1, 1, 0, 2] W2 ⟨exCards_at (hA1.next hb2), exCards_ok⟩ (by decide) (nats4 (a := 1) (b := 1) (c := 0) (d := 2) hC) hC.lt (by decide) (by decide) exSteps)
  have HN := Lib.hid (hn.below hb2 hg)
  have hg2 := Nat.lt_of_lt_of_le hg hb2.size
  have Hb2 := Lib.hid ((Hb0.out.trans (hb.mono Hb0.out.size)).trans (hb2.mono (Nat.le_trans Hb0.out.size hb.size)))
  have HW2 := Lib.hid hW2
  clear hr hb hn hA1 hB1 hC hb2 hW2 HM HB HA
  go_wp2_with fail
  rw [← HW2.out]
  refine HWv.out.mono ?_
  rintro e w3 ⟨v, rfl, hr, hb3⟩
  have hl4 : ([1, 1, 0, 2] : List Nat).length = 4 := rfl
  have hl5 : exCards.length = 5 := rfl
  simp only [hl4, hl5] at hr ⊢
  rw [exWoven.1] at hr
  rw [exWoven.2]
  obtain ⟨g3, cap3, rfl⟩ := row_slice hr (by decide)
  obtain ⟨hn3, hg3, _⟩ := nats_of_row hr (by decide)
  obtain ⟨W4, hW4⟩ : ∃ W4, W4 = w3.alloc (.cells #[.int .i64 1] 3) := ⟨_, rfl⟩
  have hb4 : Below w3.heap.size w3 W4 := by rw [hW4]; exact (Below.refl _ _).alloc (Nat.le_refl _) _
  have hD : BoxAt W4 w3.heap.size #[.int .i64 1] 3 := by rw [hW4]; exact BoxAt.new _ _ _
  have hg4 := Nat.lt_of_lt_of_le hg2 hb3.size
  have hS1 := armSame_eq g 0 cap w3.heap.size 0 1 [1] W4 (by decide) ((HN.out.below hb3 hg2).below hb4 hg4) (fun i hi => by
    obtain rfl : i = 0 := by simpa using hi
    exact hD.cell' 0 rfl) (Nat.lt_of_lt_of_le hg4 hb4.size) hD.lt
  have HS1 := Lib.hid hS1
  have Hb4 := Lib.hid ((Hb2.out.trans (hb3.mono Hb2.out.size)).trans (hb4.mono (Nat.le_trans Hb2.out.size hb3.size)))
  have HW4 := Lib.hid hW4
  have HN3 := Lib.hid (hn3.below hb4 hg3)
  have hg5 := Nat.lt_of_lt_of_le hg3 hb4.size
  clear hr hn3 hb3 hb4 hD hS1 hW4 HWv HN hl1 hl4 hl5
  go_wp2_with fail
  rw [← HW4.out]
  refine HS1.out.mono ?_
  rintro e w5 ⟨rfl, hb5⟩
  obtain ⟨W6, hW6⟩ : ∃ W6, W6 = w5.alloc (.cells #[.int .i64 1, .int .i64 8, .int .i64 2, .int .i64 2] 3) := ⟨_, rfl⟩
  have hb6 : Below w5.heap.size w5 W6 := by rw [hW6]; exact (Below.refl _ _).alloc (Nat.le_refl _) _
  have hE : BoxAt W6 w5.heap.size #[.int .i64 1, .int .i64 8, .int .i64 2, .int .i64 2] 3 := by rw [hW6]; exact BoxAt.new _ _ _
  have hg6 := Nat.lt_of_lt_of_le hg5 hb5.size
  have HS2 := Lib.hid (armSame_eq g3 0 cap3 w5.heap.size 0 4 [1, 8, 2, 2] W6 (by decide) ((HN3.out.below hb5 hg5).below hb6 hg6) (nats4 (a := 1) (b := 8) (c := 2) (d := 2) hE) (Nat.lt_of_lt_of_le hg6 hb6.size) hE.lt)
  have Hb6 := Lib.hid ((Hb4.out.trans (hb5.mono Hb4.out.size)).trans (hb6.mono (Nat.le_trans Hb4.out.size hb5.size)))
  have HW6 := Lib.hid hW6
  clear hb5 hb6 hE hW6 HN3
  go_wp2_with fail
  rw [← HW6.out]
  refine HS2.out.mono ?_
  rintro e w7 ⟨rfl, hb7⟩
  have Hb7 := Lib.hid (Hb6.out.trans (hb7.mono Hb6.out.size))
  clear hb7
  go_wp2_with fail
  go_ret
  exact ⟨rfl, Hb7.out⟩
end Go.Proofs.Ytdmgffoikebgkaa
