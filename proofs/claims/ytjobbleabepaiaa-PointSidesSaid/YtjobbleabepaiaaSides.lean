/- PointSides: whatever the paper, the shift and the bound: the floats of the face are those of the back of Back, along picks and along hooks; Mirror, Flip and a shift leave the longest floats as they are. No condition. -/
import Derived.Test.YtjobbleabepaiaaLeasts
import Derived.Test.YtjobbleabepaiaaSD
import Derived.Test.YtjobbleabepaiaaYP
import Derived.WideKeyPair
namespace Go.Proofs.Ytjobbleabepaiaa
open Go.ChangeShapes Go.WideShapes Go.ChangeAt Go.RowKit Go.Joins

theorem sk92 : Go.WideMaps.ArrKey Try.prog 92 5 2 := ⟨Try.underlying92, by kernel_rfl, by kernel_rfl, by kernel_rfl⟩
set_option maxRecDepth 100000 in
theorem PointSides_lifted (os : Os) (started : os.Started) (H : Type) (enc : TypeId × Value → H) :
    ReturnsInHanded {} Try.checked os 12 .any (Rows.pointSidesSpec.pre6 enc Try.prog Try.f12 Rows.pointSidesRow.domain false) (Rows.pointSidesSpec.post enc Try.prog Try.f12 false true false false) := by
  refine returnsInHanded_of_change (C := Try.checked) Try.own' started (by kernel_rfl) Try.func12
    (ChangeSpec.witness6 (enc := enc) (C := Try.checked) false ⟨#[], #[.agg #[.int .u8 0, .slice none 0 0], .agg #[.int .u8 0, .int .u8 0], .int .u8 0], []⟩ 8 (by kernel_rfl) (by kernel_rfl) (by kernel_rfl) (by kernel_rfl)) ?_
  intro W base args ds gs before hval0 hW hcnd _
  have hval : ∀ (j : Nat) t v, Try.f12.params[j]? = some t → args[j]? = some v → Value.okWide Try.prog W .any base t v := hval0
  have hW' := hW
  obtain ⟨p, q, hA0, hV, rfl, hfz, hnd⟩ := hW
  have hA : DataW.TrodAll enc Try.prog W 0 (fun _ => true) true Try.f12.params.toList args.toList ds p := hA0
  rw [Try.params12] at hA hval
  obtain ⟨v0, v1, v2, d0, d1, d2, p0, p1, p2, rfl, rfl, rfl, h0, h1, h2⟩ := trodAll_three hA
  obtain ⟨rfl, rfl⟩ := trodVars_none hV
  have h0k := h0
  obtain ⟨c0, c1, y0, y1, m, rfl, rfl, rfl, hy0, hy1⟩ := open_agg2 Try.underlying81 (by kernel_rfl) cells81' (hval 0 81 v0 rfl rfl) h0
  obtain ⟨a, e0, rfl, wa⟩ := DataW.trod_int Try.underlying5 hy0
  simp at e0
  subst e0
  obtain ⟨hk, rfl, hk2⟩ := u8_of wa
  obtain ⟨b0, b1, rfl, rfl, rfl, wb0, wb1⟩ := Go.WideMaps.open_pair sk92 Try.underlying5 (hval 1 92 v1 rfl rfl) h1
  obtain ⟨bd, rfl, rfl, rfl, wb⟩ := open_int Try.underlying5 (hval 2 5 v2 rfl rfl) h2
  obtain ⟨B0, rfl, hB0⟩ := u8_of wb0
  obtain ⟨B1, rfl, hB1⟩ := u8_of wb1
  obtain ⟨M0, rfl, hM0⟩ := u8_of wb
  obtain ⟨pp, l, c, us, rfl, hx⟩ := u16_of_trod hy1
  clear hA0 hval0
  have hlt : ∀ x ∈ (([] : List MemPlace) ++ y1.2), x.block < W.heap.size := fun x hx => hW'.lt x (by simpa using hx)
  refine (PointSides_any hk l c B0 B1 M0 pp us W hk2 hB0 hB1 hM0 hx).mono fun e W' ⟨he, hB⟩ => ?_
  subst he
  refine ⟨_, rfl, _, _, _, [], ([] ++ y1.2) ++ ([] ++ []), [], hW', ?_, ?_, rfl, hB.frame _, fun h => by cases h⟩
  · exact trodAll_mk1 (shut_bool Try.underlying4 true)
  · exact trodAll_mk3 (Below.trod Try.laidOut' (by kernel_rfl) (of_decide_eq_true (by kernel_rfl)) h0k hB hlt) (Go.WideMaps.shut_pair sk92 Try.underlying5 wb0 wb1) (shut_int Try.underlying5 wb)

theorem PointSides_holds : Rows.PointSidesSaid :=
  OpenClaim.holds_of_wide 12 Try.f12 rfl rfl rfl rfl rfl rfl rfl ⟨rfl, rfl, rfl, rfl, rfl⟩ rfl rfl rfl rfl rfl (by kernel_rfl) Try.func12 (by kernel_rfl)
    (of_decide_eq_true (by kernel_rfl)) (by unfold Func.isWrapper; first | (rw [if_pos (by decide +kernel)]; kernel_rfl) | (rw [if_neg (by decide +kernel)]; exact ⟨rfl, rfl⟩))
    (fun os started H enc _ => PointSides_lifted os started H enc)
end Go.Proofs.Ytjobbleabepaiaa
