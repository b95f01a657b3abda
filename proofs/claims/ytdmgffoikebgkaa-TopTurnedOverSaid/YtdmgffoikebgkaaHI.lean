/- The statements' helpers: the document's example of package tie. -/
import Derived.Test.YtdmgffoikebgkaaHH
import Derived.Test.YtdmgffoikebgkaaTC
namespace Go.Proofs.Ytdmgffoikebgkaa
open Go.RowKit Go.Shelf
attribute [local go_sem] Oper.semAt_some

def exHs : List Nat := [0, 1, 2, 3, 2, 1]
theorem exHs_nth (i : Nat) (h : i < 6) : nthN exHs i < 4 := by
  have : i = 0 ∨ i = 1 ∨ i = 2 ∨ i = 3 ∨ i = 4 ∨ i = 5 := by omega
  rcases this with rfl | rfl | rfl | rfl | rfl | rfl <;> decide
theorem exValid2 : Valid 4 [1, 6] := by
  refine ⟨by decide, by decide, by decide, by decide, fun i => ?_⟩
  by_cases h : i < 2
  · have : i = 0 ∨ i = 1 := by omega
    rcases this with rfl | rfl <;> decide
  · have : nthN [1, 6] i = 0 := by unfold nthN; rw [List.getElem?_eq_none (by simpa using h)]; rfl
    rw [this]; decide
def exCloth : List ByteArray := [⟨#[120, 46, 46, 46, 46, 46]⟩, ⟨#[46, 120, 120, 46, 120, 120]⟩]
theorem exCloth_eq : clothV exHs [1, 6] 2 = exCloth.map Value.string := by
  have h1 : pickS exHs 1 = ⟨#[120, 46, 46, 46, 46, 46]⟩ := by unfold pickS strOfNums; congr 1
  have h2 : pickS exHs 6 = ⟨#[46, 120, 120, 46, 120, 120]⟩ := by unfold pickS strOfNums; congr 1
  show [Value.string (pickS exHs 1), Value.string (pickS exHs 6)] = _
  rw [h1, h2]; rfl
theorem strs2 {W : World} {B : Nat} {a b : ByteArray} {t : TypeId} (h : BoxAt W B #[.string a, .string b] t) : StrsAt W B 0 [a, b] := by
  intro i hi
  rw [Nat.zero_add]
  have : i = 0 ∨ i = 1 := by simp at hi; omega
  rcases this with rfl | rfl
  · exact h.cell' 0 rfl
  · exact h.cell' 1 rfl
set_option maxHeartbeats 1000000 in
set_option maxRecDepth 100000 in
theorem armTie_any (w : World) : Calls Try.prog 106 #[] w fun e w' => e = .returned (.bool true) ∧ Below w.heap.size w w' := by
  have HM := Lib.hid (exMake w.heap.size (w.alloc (.cells exGrp 32)) (BoxAt.new _ _ _))
  unfold exGrp at HM
  have Hb0 := Lib.hid (show Below w.heap.size w (w.alloc (.cells exGrp 32)) from (Below.refl _ _).alloc (Nat.le_refl _) _)
  unfold exGrp at Hb0
  go_enter Try.func106, Try.ntmps106
  go_wp2_with fail
  refine HM.out.mono ?_
  rintro e w1 ⟨v, rfl, hr, hb⟩
  obtain ⟨g, cap, rfl⟩ := row_slice hr (by decide)
  obtain ⟨hn, hg, hgb⟩ := nats_of_row (xs := exHs) hr (by decide)
  have hbw := Hb0.out.trans (hb.mono (by simp))
  have HN := Lib.hid hn
  have Hbw := Lib.hid hbw
  clear hr hb hn hbw HM Hb0 hgb
  obtain ⟨W2, hW2⟩ : ∃ W2, W2 = (w1.alloc (.cells #[.int .i64 4, .slice (some ⟨g, 0, none⟩) 6 cap] 26)).alloc (.cells #[.int .i64 1, .int .i64 6] 3) := ⟨_, rfl⟩
  have hC : BoxAt W2 (w1.heap.size + 1) #[.int .i64 1, .int .i64 6] 3 := by
    have := BoxAt.new (w1.alloc (.cells #[.int .i64 4, .slice (some ⟨g, 0, none⟩) 6 cap] 26)) #[.int .i64 1, .int .i64 6] 3
    rw [World.size_alloc] at this
    rw [hW2]; exact this
  have hb2 : Below w1.heap.size w1 W2 := by rw [hW2]; exact ((Below.refl _ _).alloc (Nat.le_refl _) _).alloc (by simp) _
  have HWv := Lib.hid (tieWeave_ok 4 g 0 cap (w1.heap.size + 1) 0 2 exHs [1, 6] W2 ⟨HN.out.below hb2 hg, Nat.lt_of_lt_of_le hg hb2.size, by decide, by decide, by decide, by decide, exHs_nth⟩ ⟨nats2 (a := 1) (b := 6) hC, hC.lt, exValid2⟩)
  have Hb2 := Lib.hid (Hbw.out.trans (hb2.mono Hbw.out.size))
  have HW2 := Lib.hid hW2
  clear hC hb2 hW2 HN
  go_wp2_with fail
  rw [← HW2.out]
  refine HWv.out.mono ?_
  rintro e w3 ⟨v, rfl, hr, hb3⟩
  obtain ⟨g3, cap3, rfl⟩ := row_slice hr (by decide)
  have hl2 : ([1, 6] : List Nat).length = 2 := rfl
  simp only [hl2] at hr ⊢
  rw [exCloth_eq] at hr
  obtain ⟨hs3, hg3, _⟩ := strs_of_row hr (by decide)
  obtain ⟨W4, hW4⟩ : ∃ W4, W4 = w3.alloc (.cells #[.string ⟨#[120, 46, 46, 46, 46, 46]⟩, .string ⟨#[46, 120, 120, 46, 120, 120]⟩] 9) := ⟨_, rfl⟩
  have hD : BoxAt W4 w3.heap.size #[.string ⟨#[120, 46, 46, 46, 46, 46]⟩, .string ⟨#[46, 120, 120, 46, 120, 120]⟩] 9 := by rw [hW4]; exact BoxAt.new _ _ _
  have hb4 : Below w3.heap.size w3 W4 := by rw [hW4]; exact (Below.refl _ _).alloc (Nat.le_refl _) _
  have hst := strs2 hD
  have HL := Lib.hid (armLike_eq g3 0 cap3 w3.heap.size 0 2 exCloth W4 (by decide) (hs3.below hb4 hg3) hst (Nat.lt_of_lt_of_le hg3 hb4.size) hD.lt)
  have Hb3 := Lib.hid (Hb2.out.trans (hb3.mono Hb2.out.size))
  have Hb4 := Lib.hid (Hb3.out.trans (hb4.mono Hb3.out.size))
  have HW4 := Lib.hid hW4
  clear hr hs3 hD hb4 hst hW4 hb3
  go_wp2_with fail
  rw [← HW4.out]
  refine HL.out.mono ?_
  rintro e w5 ⟨rfl, hb5⟩
  have Hb5 := Lib.hid (Hb4.out.trans (hb5.mono Hb4.out.size))
  clear hb5
  go_wp2_with fail
  go_ret
  exact ⟨rfl, Hb5.out⟩
end Go.Proofs.Ytdmgffoikebgkaa
