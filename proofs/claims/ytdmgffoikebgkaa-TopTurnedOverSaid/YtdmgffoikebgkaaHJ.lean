/- The statements' helpers: the document's example of package chain. -/
import Derived.Test.YtdmgffoikebgkaaHH
import Derived.Test.YtdmgffoikebgkaaHF
import Derived.Test.YtdmgffoikebgkaaCI
namespace Go.Proofs.Ytdmgffoikebgkaa
open Go.RowKit Go.Shelf
attribute [local go_sem] Oper.semAt_some

theorem armSame_eq (b1 o1 c1 b2 o2 c2 : Nat) (xs : List Nat) (w : World) (hl1 : xs.length ≤ 1000) (hx : NatsAt w b1 o1 xs) (hy : NatsAt w b2 o2 xs) (hb1 : b1 < w.heap.size) (hb2 : b2 < w.heap.size) :
    Calls Try.prog 102 #[.slice (some ⟨b1, o1, none⟩) xs.length c1, .slice (some ⟨b2, o2, none⟩) xs.length c2] w fun e w' => e = .returned (.bool true) ∧ Below w.heap.size w w' :=
  (armSame_any b1 o1 c1 b2 o2 c2 xs xs w hl1 hl1 hx hy hb1 hb2).mono fun e w' h => ⟨by rw [h.1]; simp, h.2⟩
def exCards : List Card := [⟨0, 1, false⟩, ⟨3, 8, false⟩, ⟨1, 2, false⟩, ⟨2, 4, false⟩, ⟨4, 15, false⟩]
theorem five {i : Nat} (h : i < 5) : i = 0 ∨ i = 1 ∨ i = 2 ∨ i = 3 ∨ i = 4 := by omega
theorem exCards_ok : ChainOk 4 exCards := by
  have hd : ∀ i, ¬ i < 5 → nthC exCards i = ⟨0, 0, false⟩ := fun i hi => by unfold nthC; rw [List.getElem?_eq_none (by simp [exCards]; omega)]; rfl
  refine ⟨by decide, by decide, by decide, by decide, fun i => ?_, fun i => ?_⟩
  all_goals by_cases h : i < 5
  · rcases five h with rfl | rfl | rfl | rfl | rfl <;> decide
  · rw [hd i h]; decide
  · rcases five h with rfl | rfl | rfl | rfl | rfl <;> decide
  · rw [hd i h]; decide
theorem exCards_apart : Apart exCards := by
  intro i j hi hj e
  rcases five hi with rfl | rfl | rfl | rfl | rfl <;> rcases five hj with rfl | rfl | rfl | rfl | rfl <;> first | rfl | (exfalso; revert e; decide)
theorem exMoved : movedN exCards = [1] := by decide +kernel
theorem exWoven : wovenTo 4 exCards [1, 1, 0, 2] 0 4 = [1, 8, 2, 2] ∧ cylTo 5 [1, 1, 0, 2] 0 4 = 4 := by decide +kernel
theorem exSteps (i : Nat) : nthN [1, 1, 0, 2] i < 3 := by
  by_cases h : i < 4
  · have : i = 0 ∨ i = 1 ∨ i = 2 ∨ i = 3 := by omega
    rcases this with rfl | rfl | rfl | rfl <;> decide
  · have : nthN [1, 1, 0, 2] i = 0 := by unfold nthN; rw [List.getElem?_eq_none (by simpa using h)]; rfl
    rw [this]; decide
def exCells : Array Value := #[.int .i64 0, .int .i64 1, .bool false, .int .i64 3, .int .i64 8, .bool false, .int .i64 1, .int .i64 2, .bool false, .int .i64 2, .int .i64 4, .bool false, .int .i64 4, .int .i64 15, .bool false]
theorem exCards_at {W : World} {B : Nat} (h : BoxAt W B exCells 128) : CardsAt W B exCards := by
  refine ⟨fun i hi => ?_, fun i hi => ?_, fun i hi => ?_, h.lt⟩
  all_goals rcases five hi with rfl | rfl | rfl | rfl | rfl <;> exact h.cell' _ rfl
set_option maxHeartbeats 2000000 in
set_option maxRecDepth 100000 in
theorem armChain_any (w : World) : Calls Try.prog 105 #[] w fun e w' => e = .returned (.bool true) ∧ Below w.heap.size w w' := by
  obtain ⟨W0, hW0⟩ : ∃ W0, W0 = (w.alloc (.cells exCells 128)).alloc (.cells #[.int .i64 4, .slice (some ⟨w.heap.size, 0, none⟩) 5 5] 114) := ⟨_, rfl⟩
  have hb0 : Below w.heap.size w W0 := by rw [hW0]; exact ((Below.refl _ _).alloc (Nat.le_refl _) _).alloc (by simp) _
  have hA : BoxAt W0 w.heap.size exCells 128 := by rw [hW0]; exact (BoxAt.new _ _ _).below ((Below.refl (w.heap.size + 1) _).alloc (by simp) _) (by omega)
  have hB : BoxAt W0 (w.heap.size + 1) #[.int .i64 4, .slice (some ⟨w.heap.size, 0, none⟩) 5 5] 114 := by
    have := BoxAt.new (w.alloc (.cells exCells 128)) #[.int .i64 4, .slice (some ⟨w.heap.size, 0, none⟩) 5 5] 114
    rw [World.size_alloc] at this
    rw [hW0]; exact this
  have HM := Lib.hid (Moved_ok 4 w.heap.size 5 exCards W0 ⟨exCards_at hA, exCards_ok⟩ exCards_apart)
  have HA := Lib.hid hA
  have HB := Lib.hid hB
  have Hb0 := Lib.hid hb0
  have HW0 := Lib.hid hW0
  unfold exCells at HW0
  clear hA hB hb0 hW0
  go_enter Try.func105, Try.ntmps105
  go_wp2_with fail
  rw [← HW0.out]
  refine HM.out.mono ?_
  rintro e w1 ⟨v, rfl, hr, hb⟩
  rw [exMoved] at hr
  obtain ⟨g, cap, rfl⟩ := row_slice hr (by decide)
  have hl1 : ([1] : List Nat).length = 1 := rfl
  simp only [hl1] at hr ⊢
  obtain ⟨hn, hg, _⟩ := nats_of_row hr (by decide)
  have hA1 := HA.out.next hb
  have hB1 := HB.out.next hb
  have c0 : w1.cell? ⟨w.heap.size + 1, 0, none⟩ = some (.int .i64 4) := hB1.cell' 0 rfl
  have c1 : w1.cell? ⟨w.heap.size + 1, 1, none⟩ = some (.slice (some ⟨w.heap.size, 0, none⟩) 5 5) := hB1.cell' 1 rfl
  obtain ⟨W2, hW2⟩ : ∃ W2, W2 = w1.alloc (.cells #[.int .i64 1, .int .i64 1, .int .i64 0, .int .i64 2] 3) := ⟨_, rfl⟩
  have hb2 : Below w1.heap.size w1 W2 := by rw [hW2]; exact (Below.refl _ _).alloc (Nat.le_refl _) _
  have hC : BoxAt W2 w1.heap.size #[.int .i64 1, .int .i64 1, .int .i64 0, .int .i64 2] 3 := by rw [hW2]; exact BoxAt.new _ _ _
  have HWv := Lib.hid (chainWeave_ok 4 w.heap.size 5 0 w1.heap.size 0 4 exCards [1, 1, 0, 2] W2 ⟨exCards_at (hA1.next hb2), exCards_ok⟩ (by decide) (nats4 (a := 1) (b := 1) (c := 0) (d := 2) hC) hC.lt (by decide) (by decide) exSteps)
  have HN := Lib.hid (hn.below hb2 hg)
  have hg2 := Nat.lt_of_lt_of_le hg hb2.size
  have Hb2 := Lib.hid ((Hb0.out.trans (hb.mono Hb0.out.size)).trans (hb2.mono (Nat.le_trans Hb0.out.size hb.size)))
  have HW2 := Lib.hid hW2
  clear hr hb hn hA1 hB1 hC hb2 hW2 HM HB HA
  go_wp2_with fail
  rw [← HW2.out]
  refine HWv.out.mono ?_
  rintro e w3 ⟨v, rfl, hr, hb3⟩
  have hl4 : ([1, 1, 0, 2] : List Nat).length = 4 := rfl
  have hl5 : exCards.length = 5 := rfl
  simp only [hl4, hl5] at hr ⊢
  rw [exWoven.1] at hr
  rw [exWoven.2]
  obtain ⟨g3, cap3, rfl⟩ := row_slice hr (by decide)
  obtain ⟨hn3, hg3, _⟩ := nats_of_row hr (by decide)
  obtain ⟨W4, hW4⟩ : ∃ W4, W4 = w3.alloc (.cells #[.int .i64 1] 3) := ⟨_, rfl⟩
  have hb4 : Below w3.heap.size w3 W4 := by rw [hW4]; exact (Below.refl _ _).alloc (Nat.le_refl _) _
  have hD : BoxAt W4 w3.heap.size #[.int .i64 1] 3 := by rw [hW4]; exact BoxAt.new _ _ _
  have hg4 := Nat.lt_of_lt_of_le hg2 hb3.size
  have hS1 := armSame_eq g 0 cap w3.heap.size 0 1 [1] W4 (by decide) ((HN.out.below hb3 hg2).below hb4 hg4) (fun i hi => by
    obtain rfl : i = 0 := by simpa using hi
    exact hD.cell' 0 rfl) (Nat.lt_of_lt_of_le hg4 hb4.size) hD.lt
  have HS1 := Lib.hid hS1
  have Hb4 := Lib.hid ((Hb2.out.trans (hb3.mono Hb2.out.size)).trans (hb4.mono (Nat.le_trans Hb2.out.size hb3.size)))
  have HW4 := Lib.hid hW4
  have HN3 := Lib.hid (hn3.below hb4 hg3)
  have hg5 := Nat.lt_of_lt_of_le hg3 hb4.size
  clear hr hn3 hb3 hb4 hD hS1 hW4 HWv HN hl1 hl4 hl5
  go_wp2_with fail
  rw [← HW4.out]
  refine HS1.out.mono ?_
  rintro e w5 ⟨rfl, hb5⟩
  obtain ⟨W6, hW6⟩ : ∃ W6, W6 = w5.alloc (.cells #[.int .i64 1, .int .i64 8, .int .i64 2, .int .i64 2] 3) := ⟨_, rfl⟩
  have hb6 : Below w5.heap.size w5 W6 := by rw [hW6]; exact (Below.refl _ _).alloc (Nat.le_refl _) _
  have hE : BoxAt W6 w5.heap.size #[.int .i64 1, .int .i64 8, .int .i64 2, .int .i64 2] 3 := by rw [hW6]; exact BoxAt.new _ _ _
  have hg6 := Nat.lt_of_lt_of_le hg5 hb5.size
  have HS2 := Lib.hid (armSame_eq g3 0 cap3 w5.heap.size 0 4 [1, 8, 2, 2] W6 (by decide) ((HN3.out.below hb5 hg5).below hb6 hg6) (nats4 (a := 1) (b := 8) (c := 2) (d := 2) hE) (Nat.lt_of_lt_of_le hg6 hb6.size) hE.lt)
  have Hb6 := Lib.hid ((Hb4.out.trans (hb5.mono Hb4.out.size)).trans (hb6.mono (Nat.le_trans Hb4.out.size hb5.size)))
  have HW6 := Lib.hid hW6
  clear hb5 hb6 hE hW6 HN3
  go_wp2_with fail
  rw [← HW6.out]
  refine HS2.out.mono ?_
  rintro e w7 ⟨rfl, hb7⟩
  have Hb7 := Lib.hid (Hb6.out.trans (hb7.mono Hb6.out.size))
  clear hb7
  go_wp2_with fail
  go_ret
  exact ⟨rfl, Hb7.out⟩
end Go.Proofs.Ytdmgffoikebgkaa
