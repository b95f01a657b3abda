/- The statements' helpers: the document's example of package point. -/
import Derived.Test.YtdmgffoikebgkaaHC
import Derived.Test.YtdmgffoikebgkaaVD
namespace Go.Proofs.Ytdmgffoikebgkaa
open Go.RowKit Go.Shelf
attribute [local go_sem] Oper.semAt_some

theorem exBind : bindRows 6 2 [7, 56, 0, 21] [0, 0, 0, 0] 4 = [11, 25, 9, 21] ∧ bindSum 6 2 [7, 56, 0, 21] [0, 0, 0, 0] 4 = 6 := by decide +kernel
theorem exNever : ∀ i, i < 4 → bindN 6 (nthN [7, 56, 0, 21] i) (nthN [0, 0, 0, 0] i) 2 < never := by decide +kernel
theorem exValid : Valid 6 [7, 56, 0, 21] := by
  refine ⟨by decide, by decide, by decide, by decide, fun i => ?_⟩
  by_cases h : i < 4
  · have : i = 0 ∨ i = 1 ∨ i = 2 ∨ i = 3 := by omega
    rcases this with rfl | rfl | rfl | rfl <;> decide
  · have : nthN [7, 56, 0, 21] i = 0 := by unfold nthN; rw [List.getElem?_eq_none (by simpa using h)]; rfl
    rw [this]; decide
theorem exZero (i : Nat) : nthN [0, 0, 0, 0] i < 2 ^ 6 := by
  by_cases h : i < 4
  · have : i = 0 ∨ i = 1 ∨ i = 2 ∨ i = 3 := by omega
    rcases this with rfl | rfl | rfl | rfl <;> decide
  · have : nthN [0, 0, 0, 0] i = 0 := by unfold nthN; rw [List.getElem?_eq_none (by simpa using h)]; rfl
    rw [this]; decide
theorem nats4 {W : World} {B : Nat} {a b c d : Nat} {t : TypeId} (h : BoxAt W B #[.int .i64 (a : Int), .int .i64 (b : Int), .int .i64 (c : Int), .int .i64 (d : Int)] t) : NatsAt W B 0 [a, b, c, d] := by
  intro i hi
  rw [Nat.zero_add]
  have : i = 0 ∨ i = 1 ∨ i = 2 ∨ i = 3 := by simp at hi; omega
  rcases this with rfl | rfl | rfl | rfl
  · exact h.cell' 0 rfl
  · exact h.cell' 1 rfl
  · exact h.cell' 2 rfl
  · exact h.cell' 3 rfl
theorem nats2 {W : World} {B : Nat} {a b : Nat} {t : TypeId} (h : BoxAt W B #[.int .i64 (a : Int), .int .i64 (b : Int)] t) : NatsAt W B 0 [a, b] := by
  intro i hi
  rw [Nat.zero_add]
  have : i = 0 ∨ i = 1 := by simp at hi; omega
  rcases this with rfl | rfl
  · exact h.cell' 0 rfl
  · exact h.cell' 1 rfl
set_option maxHeartbeats 1000000 in
set_option maxRecDepth 100000 in
theorem armPoint_any (w : World) : Calls Try.prog 104 #[] w fun e w' => e = .returned (.bool true) ∧ Below w.heap.size w w' := by
  have hmk : ∀ W : World, (Instr.makeSlice 24 (.int .i64 4) (.int .i64 4)).run Try.prog W = .ok (.slice (some ⟨W.heap.size, 0, none⟩) 4 4) (W.alloc (.cells #[.int .i64 0, .int .i64 0, .int .i64 0, .int .i64 0] 3)) := fun W => by
    have h := run_make_row' (P := Try.prog) 24 3 (.int .i64 0) 8 Try.underlying24 Try.info3 rfl .i64 .i64 4 (by omega) (by omega) W
    have e : madeCells #[.int .i64 0] 4 = #[.int .i64 0, .int .i64 0, .int .i64 0, .int .i64 0] := by
      apply Array.ext'
      simp [madeCells, List.range, List.range.loop]
    rw [e] at h
    exact h
  obtain ⟨W0, hW0⟩ : ∃ W0, W0 = (w.alloc (.cells #[.int .i64 7, .int .i64 56, .int .i64 0, .int .i64 21] 3)).alloc (.cells #[.int .i64 0, .int .i64 0, .int .i64 0, .int .i64 0] 3) := ⟨_, rfl⟩
  have hA : BoxAt W0 w.heap.size #[.int .i64 7, .int .i64 56, .int .i64 0, .int .i64 21] 3 := by
    rw [hW0]; exact (BoxAt.new _ _ _).below ((Below.refl (w.heap.size + 1) _).alloc (by simp) _) (by omega)
  have hB : BoxAt W0 (w.heap.size + 1) #[.int .i64 0, .int .i64 0, .int .i64 0, .int .i64 0] 3 := by
    have := BoxAt.new (w.alloc (.cells #[.int .i64 7, .int .i64 56, .int .i64 0, .int .i64 21] 3)) #[.int .i64 0, .int .i64 0, .int .i64 0, .int .i64 0] 3
    rw [World.size_alloc] at this
    rw [hW0]; exact this
  have hbb : Below w.heap.size w W0 := by rw [hW0]; exact ((Below.refl _ _).alloc (Nat.le_refl _) _).alloc (by simp) _
  have H := Bind_ok 6 w.heap.size 0 4 (w.heap.size + 1) 0 4 2 [7, 56, 0, 21] [0, 0, 0, 0] W0 ⟨nats4 (a := 7) (b := 56) (c := 0) (d := 21) hA, hA.lt, exValid⟩ rfl (nats4 (a := 0) (b := 0) (c := 0) (d := 0) hB) hB.lt exZero (by omega) (by omega) exNever
  have e1 : bindRows 6 2 [7, 56, 0, 21] [0, 0, 0, 0] [7, 56, 0, 21].length = [11, 25, 9, 21] := exBind.1
  have e2 : bindSum 6 2 [7, 56, 0, 21] [0, 0, 0, 0] [7, 56, 0, 21].length = 6 := exBind.2
  rw [e1, e2] at H
  have HB := Lib.hid H
  have HW0 := Lib.hid hW0
  have Hbb := Lib.hid hbb
  clear H e1 e2 hA hB hW0 hbb
  go_enter Try.func104, Try.ntmps104
  go_wp2_with fail
  rw [← HW0.out]
  refine HB.out.mono ?_
  rintro e w1 ⟨v, rfl, hr, hb⟩
  obtain ⟨g, cap, rfl⟩ := row_slice hr (by decide)
  have hl4 : ([7, 56, 0, 21] : List Nat).length = 4 := rfl
  simp only [hl4] at hr ⊢
  obtain ⟨hn, hg, hgb⟩ := nats_of_row hr (by decide)
  have hbw := Hbb.out.trans (hb.mono Hbb.out.size)
  have HN := Lib.hid hn
  have Hbw := Lib.hid hbw
  clear hr hb hn hbw HB Hbb
  obtain ⟨W2, hW2⟩ : ∃ W2, W2 = (w1.alloc (.cells #[.int .i64 6, .slice (some ⟨g, 0, none⟩) 4 cap] 37)).alloc (.cells #[.int .i64 11, .int .i64 25, .int .i64 9, .int .i64 21] 3) := ⟨_, rfl⟩
  have hC : BoxAt W2 (w1.heap.size + 1) #[.int .i64 11, .int .i64 25, .int .i64 9, .int .i64 21] 3 := by
    have := BoxAt.new (w1.alloc (.cells #[.int .i64 6, .slice (some ⟨g, 0, none⟩) 4 cap] 37)) #[.int .i64 11, .int .i64 25, .int .i64 9, .int .i64 21] 3
    rw [World.size_alloc] at this
    rw [hW2]; exact this
  have hb2 : Below w1.heap.size w1 W2 := by rw [hW2]; exact ((Below.refl _ _).alloc (Nat.le_refl _) _).alloc (by simp) _
  have HS := Lib.hid (armSame_any g 0 cap (w1.heap.size + 1) 0 4 [11, 25, 9, 21] [11, 25, 9, 21] W2 (by decide) (by decide) (HN.out.below hb2 hg) (nats4 (a := 11) (b := 25) (c := 9) (d := 21) hC) (Nat.lt_of_lt_of_le hg hb2.size) hC.lt)
  have Hb2 := Lib.hid (Hbw.out.trans (hb2.mono Hbw.out.size))
  have HW2 := Lib.hid hW2
  clear hC hb2 hW2
  go_wp2_with fail
  rw [← HW2.out]
  refine HS.out.mono ?_
  rintro e w3 ⟨rfl, hb3⟩
  have Hb3 := Lib.hid (Hb2.out.trans (hb3.mono Hb2.out.size))
  clear hb3
  go_wp2_with fail
  go_ret
  exact ⟨ret_bool (by decide), Hb3.out⟩
end Go.Proofs.Ytdmgffoikebgkaa
