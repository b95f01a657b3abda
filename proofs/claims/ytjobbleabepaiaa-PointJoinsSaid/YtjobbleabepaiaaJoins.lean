/- PointJoins: for any two designs with at most 70 rows what Beside, Above and Reflect return, or their errors, are what the reference says, and the designs are not changed; for larger designs the law's fixed examples come out. No condition: whatever the designs. -/
import Derived.Test.YtjobbleabepaiaaLeasts
import Derived.Test.YtjobbleabepaiaaJH
namespace Go.Proofs.Ytjobbleabepaiaa
open Go.ChangeShapes Go.WideShapes Go.ChangeAt Go.RowKit Go.Joins

set_option maxRecDepth 100000 in
theorem PointJoins_lifted (os : Os) (started : os.Started) (H : Type) (enc : TypeId × Value → H) :
    ReturnsInHanded {} Try.checked os 7 .any (Rows.pointJoinsSpec.pre6 enc Try.prog Try.f7 Rows.pointJoinsRow.domain false) (Rows.pointJoinsSpec.post enc Try.prog Try.f7 false true false false) := by
  refine returnsInHanded_of_change (C := Try.checked) Try.own' started (by kernel_rfl) Try.func7
    (ChangeSpec.witness6 (enc := enc) (C := Try.checked) false ⟨#[], #[.agg #[.int .i64 0, .slice none 0 0], .agg #[.int .i64 0, .slice none 0 0]], []⟩ 8 (by kernel_rfl) (by kernel_rfl) (by kernel_rfl) (by kernel_rfl)) ?_
  intro W base args ds gs before hval0 hW hcnd _
  have hval : ∀ (j : Nat) t v, Try.f7.params[j]? = some t → args[j]? = some v → Value.okWide Try.prog W .any base t v := hval0
  have hW' := hW
  obtain ⟨p, q, hA0, hV, rfl, hfz, hnd⟩ := hW
  have hA : DataW.TrodAll enc Try.prog W 0 (fun _ => true) true Try.f7.params.toList args.toList ds p := hA0
  rw [Try.params7] at hA hval
  obtain ⟨v0, v1, d0, d1, p0, p1, rfl, rfl, rfl, h0, h1⟩ := trodAll_two hA
  obtain ⟨rfl, rfl⟩ := trodVars_none hV
  have h0k := h0
  have h1k := h1
  obtain ⟨c0, c1, y0, y1, m, rfl, rfl, rfl, hy0, hy1⟩ := open_agg2 Try.underlying24 (by kernel_rfl) cells24' (hval 0 24 v0 rfl rfl) h0
  obtain ⟨a, e0, rfl, wa⟩ := DataW.trod_int Try.underlying3 hy0
  simp at e0
  subst e0
  obtain ⟨pp, l, c, rfl, hx⟩ := reads_of_trod hy1
  obtain ⟨c0', c1', y0', y1', m', rfl, rfl, rfl, hy0', hy1'⟩ := open_agg2 Try.underlying24 (by kernel_rfl) cells24' (hval 1 24 v1 rfl rfl) h1
  obtain ⟨a', e0', rfl, wa'⟩ := DataW.trod_int Try.underlying3 hy0'
  simp at e0'
  subst e0'
  obtain ⟨pp', l', c', rfl, hx'⟩ := reads_of_trod hy1'
  clear hA0 hval0
  have hlt0 : ∀ x ∈ (([] : List MemPlace) ++ y1.2), x.block < W.heap.size := fun x hx => hW'.lt x (by simp at hx; simp [hx])
  have hlt1 : ∀ x ∈ (([] : List MemPlace) ++ y1'.2), x.block < W.heap.size := fun x hx => hW'.lt x (by simp at hx; simp [hx])
  have walk : Calls Try.prog 7 #[.agg #[.int .i64 a, .slice pp l c], .agg #[.int .i64 a', .slice pp' l' c']] W fun e w' => e = .returned (.bool true) ∧ Below W.heap.size W w' := by
    by_cases hl : 70 < l ∨ 70 < l'
    · exact PointJoins_large a a' pp pp' c c' l l' W hl
    · obtain ⟨xs, rfl, hr⟩ := hx (by omega)
      obtain ⟨xs', rfl, hr'⟩ := hx' (by omega)
      exact PointJoins_any a a' pp pp' c c' xs xs' W (by omega) (by omega) hr hr'
  refine walk.mono fun e W' ⟨he, hB⟩ => ?_
  subst he
  refine ⟨_, rfl, _, _, _, [], ([] ++ y1.2) ++ ([] ++ y1'.2), [], hW', ?_, ?_, rfl, hB.frame _, fun h => by cases h⟩
  · exact trodAll_mk1 (shut_bool Try.underlying4 true)
  · exact trodAll_mk2 (Below.trod Try.laidOut' (by kernel_rfl) (of_decide_eq_true (by kernel_rfl)) h0k hB hlt0) (Below.trod Try.laidOut' (by kernel_rfl) (of_decide_eq_true (by kernel_rfl)) h1k hB hlt1)

theorem PointJoins_holds : Rows.PointJoinsSaid :=
  OpenClaim.holds_of_wide 7 Try.f7 rfl rfl rfl rfl rfl rfl rfl ⟨rfl, rfl, rfl, rfl, rfl⟩ rfl rfl rfl rfl rfl (by kernel_rfl) Try.func7 (by kernel_rfl)
    (of_decide_eq_true (by kernel_rfl)) (by unfold Func.isWrapper; first | (rw [if_pos (by decide +kernel)]; kernel_rfl) | (rw [if_neg (by decide +kernel)]; exact ⟨rfl, rfl⟩))
    (fun os started H enc _ => PointJoins_lifted os started H enc)
end Go.Proofs.Ytjobbleabepaiaa
