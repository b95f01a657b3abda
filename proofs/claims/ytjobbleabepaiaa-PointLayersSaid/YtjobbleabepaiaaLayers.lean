/- PointLayers: for every ground, every figure and every mask the design of Lay is the figure where the mask is lifted and the ground elsewhere; laid on the figure with the mask the other way round, or once more with this mask, it stays the same; a figure on itself is itself. No condition. -/
import Derived.Test.YtjobbleabepaiaaYP
import Derived.Test.YtjobbleabepaiaaYB
namespace Go.Proofs.Ytjobbleabepaiaa
open Go.ChangeShapes Go.WideShapes Go.ChangeAt Go.RowKit Go.Joins

set_option maxRecDepth 100000 in
theorem PointLayers_lifted (os : Os) (started : os.Started) (H : Type) (enc : TypeId × Value → H) :
    ReturnsInHanded {} Try.checked os 15 .any (Rows.pointLayersSpec.pre6 enc Try.prog Try.f15 Rows.pointLayersRow.domain false) (Rows.pointLayersSpec.post enc Try.prog Try.f15 false true false false) := by
  refine returnsInHanded_of_change (C := Try.checked) Try.own' started (by kernel_rfl) Try.func15
    (ChangeSpec.witness6 (enc := enc) (C := Try.checked) false ⟨#[], #[.agg #[.int .u8 0, .slice none 0 0], .agg #[.int .u8 0, .slice none 0 0], .slice none 0 0], []⟩ 8 (by kernel_rfl) (by kernel_rfl) (by kernel_rfl) (by kernel_rfl)) ?_
  intro W base args ds gs before hval0 hW hcnd _
  have hval : ∀ (j : Nat) t v, Try.f15.params[j]? = some t → args[j]? = some v → Value.okWide Try.prog W .any base t v := hval0
  have hW' := hW
  obtain ⟨p, q, hA0, hV, rfl, hfz, hnd⟩ := hW
  have hA : DataW.TrodAll enc Try.prog W 0 (fun _ => true) true Try.f15.params.toList args.toList ds p := hA0
  rw [Try.params15] at hA hval
  obtain ⟨v0, v1, v2, d0, d1, d2, p0, p1, p2, rfl, rfl, rfl, h0, h1, h2⟩ := trodAll_three hA
  obtain ⟨rfl, rfl⟩ := trodVars_none hV
  have h0k := h0
  have h1k := h1
  have h2k := h2
  obtain ⟨c0, c1, y0, y1, m, rfl, rfl, rfl, hy0, hy1⟩ := open_agg2 Try.underlying81 (by kernel_rfl) cells81' (hval 0 81 v0 rfl rfl) h0
  obtain ⟨a, e0, rfl, wa⟩ := DataW.trod_int Try.underlying5 hy0
  simp at e0
  subst e0
  obtain ⟨hk, rfl, hk2⟩ := u8_of wa
  obtain ⟨pp, l, c, us, rfl, hx⟩ := u16_of_trod hy1
  obtain ⟨c0', c1', y0', y1', m', rfl, rfl, rfl, hy0', hy1'⟩ := open_agg2 Try.underlying81 (by kernel_rfl) cells81' (hval 1 81 v1 rfl rfl) h1
  obtain ⟨a', e0', rfl, wa'⟩ := DataW.trod_int Try.underlying5 hy0'
  simp at e0'
  subst e0'
  obtain ⟨hkb, rfl, hkb2⟩ := u8_of wa'
  obtain ⟨ppb, lb, cb, usb, rfl, hxb⟩ := u16_of_trod hy1'
  obtain ⟨q0, l1, c1, rfl⟩ := okWide_slice Try.underlying79 (hval 2 79 v2 rfl rfl)
  obtain ⟨fuel, hf⟩ := h2
  obtain ⟨q0', l1', c1', usc, e1, hxc⟩ := u16_of_trod (y := (d2, p2)) hf
  obtain ⟨rfl, rfl, rfl⟩ : q0 = q0' ∧ l1 = l1' ∧ c1 = c1' := by simpa using e1
  clear hA0 hval0
  have hlt0 : ∀ x ∈ (([] : List MemPlace) ++ y1.2), x.block < W.heap.size := fun x hx => hW'.lt x (by simp at hx; simp [hx])
  have hlt1 : ∀ x ∈ (([] : List MemPlace) ++ y1'.2), x.block < W.heap.size := fun x hx => hW'.lt x (by simp at hx; simp [hx])
  have hlt2 : ∀ x ∈ p2, x.block < W.heap.size := fun x hx => hW'.lt x (by simp [hx])
  refine (PointLayers_any hk l c hkb lb cb l1 c1 pp ppb q0 us usb usc W hk2 hkb2 hx hxb hxc).mono fun e W' ⟨he, hB⟩ => ?_
  subst he
  refine ⟨_, rfl, _, _, _, [], ([] ++ y1.2) ++ (([] ++ y1'.2) ++ p2), [], hW', ?_, ?_, rfl, hB.frame _, fun h => by cases h⟩
  · exact trodAll_mk1 (shut_bool Try.underlying4 true)
  · exact trodAll_mk3 (Below.trod Try.laidOut' (by kernel_rfl) (of_decide_eq_true (by kernel_rfl)) h0k hB hlt0) (Below.trod Try.laidOut' (by kernel_rfl) (of_decide_eq_true (by kernel_rfl)) h1k hB hlt1) (Below.trod Try.laidOut' (by kernel_rfl) (of_decide_eq_true (by kernel_rfl)) h2k hB hlt2)

theorem PointLayers_holds : Rows.PointLayersSaid :=
  OpenClaim.holds_of_wide 15 Try.f15 rfl rfl rfl rfl rfl rfl rfl ⟨rfl, rfl, rfl, rfl, rfl⟩ rfl rfl rfl rfl rfl (by kernel_rfl) Try.func15 (by kernel_rfl)
    (of_decide_eq_true (by kernel_rfl)) (by unfold Func.isWrapper; first | (rw [if_pos (by decide +kernel)]; kernel_rfl) | (rw [if_neg (by decide +kernel)]; exact ⟨rfl, rfl⟩))
    (fun os started H enc _ => PointLayers_lifted os started H enc)
end Go.Proofs.Ytjobbleabepaiaa
