/- PointEdges: whatever the paper: a design that was reflected begins with the design and is its own mirror, shifted by one hook; what is beside itself, or above itself, has the same Least and the same longest floats; the design is its least part repeated. No condition. -/
import Derived.Test.YtjobbleabepaiaaLeasts
import Derived.Test.YtjobbleabepaiaaEC
import Derived.Test.YtjobbleabepaiaaYP
namespace Go.Proofs.Ytjobbleabepaiaa
open Go.ChangeShapes Go.WideShapes Go.ChangeAt Go.RowKit Go.Joins

set_option maxRecDepth 100000 in
theorem PointEdges_lifted (os : Os) (started : os.Started) (H : Type) (enc : TypeId × Value → H) :
    ReturnsInHanded {} Try.checked os 14 .any (Rows.pointEdgesSpec.pre6 enc Try.prog Try.f14 Rows.pointEdgesRow.domain false) (Rows.pointEdgesSpec.post enc Try.prog Try.f14 false true false false) := by
  refine returnsInHanded_of_change (C := Try.checked) Try.own' started (by kernel_rfl) Try.func14
    (ChangeSpec.witness6 (enc := enc) (C := Try.checked) false ⟨#[], #[.agg #[.int .u8 0, .slice none 0 0]], []⟩ 8 (by kernel_rfl) (by kernel_rfl) (by kernel_rfl) (by kernel_rfl)) ?_
  intro W base args ds gs before hval0 hW hcnd _
  have hval : ∀ (j : Nat) t v, Try.f14.params[j]? = some t → args[j]? = some v → Value.okWide Try.prog W .any base t v := hval0
  have hW' := hW
  obtain ⟨p, q, hA0, hV, rfl, hfz, hnd⟩ := hW
  have hA : DataW.TrodAll enc Try.prog W 0 (fun _ => true) true Try.f14.params.toList args.toList ds p := hA0
  rw [Try.params14] at hA hval
  obtain ⟨v0, d0, rfl, rfl, h0⟩ := trodAll_one hA
  obtain ⟨rfl, rfl⟩ := trodVars_none hV
  have h0k := h0
  obtain ⟨c0, c1, y0, y1, m, rfl, rfl, rfl, hy0, hy1⟩ := open_agg2 Try.underlying81 (by kernel_rfl) cells81' (hval 0 81 v0 rfl rfl) h0
  obtain ⟨a, e0, rfl, wa⟩ := DataW.trod_int Try.underlying5 hy0
  simp at e0
  subst e0
  obtain ⟨hk, rfl, hk2⟩ := u8_of wa
  obtain ⟨pp, l, c, us, rfl, hx⟩ := u16_of_trod hy1
  clear hA0 hval0
  have hlt : ∀ x ∈ (([] : List MemPlace) ++ y1.2), x.block < W.heap.size := fun x hx => hW'.lt x (by simpa using hx)
  refine (PointEdges_any hk l c pp us W hk2 hx).mono fun e W' ⟨he, hB⟩ => ?_
  subst he
  refine ⟨_, rfl, _, _, _, [], [] ++ y1.2, [], hW', ?_, ?_, rfl, hB.frame _, fun h => by cases h⟩
  · exact trodAll_mk1 (shut_bool Try.underlying4 true)
  · exact trodAll_mk1 (Below.trod Try.laidOut' (by kernel_rfl) (of_decide_eq_true (by kernel_rfl)) h0k hB hlt)

theorem PointEdges_holds : Rows.PointEdgesSaid :=
  OpenClaim.holds_of_wide 14 Try.f14 rfl rfl rfl rfl rfl rfl rfl ⟨rfl, rfl, rfl, rfl, rfl⟩ rfl rfl rfl rfl rfl (by kernel_rfl) Try.func14 (by kernel_rfl)
    (of_decide_eq_true (by kernel_rfl)) (by unfold Func.isWrapper; first | (rw [if_pos (by decide +kernel)]; kernel_rfl) | (rw [if_neg (by decide +kernel)]; exact ⟨rfl, rfl⟩))
    (fun os started H enc _ => PointEdges_lifted os started H enc)
end Go.Proofs.Ytjobbleabepaiaa
