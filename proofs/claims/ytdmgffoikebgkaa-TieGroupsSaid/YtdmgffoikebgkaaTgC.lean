/- TieGroups: for every loom (whatever its hooks, threads and rows) and every count, the examples of the tie hold: a straight tie's cloth shows the design as often as it is repeated, a point tie's the reflected design. No condition. -/
import Derived.Test.YtdmgffoikebgkaaTb17
import Derived.Test.YtdmgffoikebgkaaTb18
import Derived.Test.YtdmgffoikebgkaaTb19
import Derived.Test.YtdmgffoikebgkaaTb20
import Derived.Test.YtdmgffoikebgkaaTb23
namespace Go.Proofs.Ytdmgffoikebgkaa
open Go.ChangeShapes Go.WideShapes Go.ChangeAt Go.RowKit Go.Joins

set_option maxRecDepth 100000 in
/-- a loom of chapter 3 that came in -/
theorem lom_open {Ty : Type} {enc : TypeId × Value → Ty} {W : World} {v : Value} {d : DataW Ty} {p : List MemPlace} (hv : Value.okWide Try.prog W .any 0 92 v) (h : DataW.Trod enc Try.prog W 0 (fun _ => true) true 92 v d p) :
    ∃ (H : Nat) (p1 p2 : Option Addr) (c1 c2 : Nat) (ws rs : List Nat), v = .agg (lomA H p1 p2 ws.length c1 rs.length c2) ∧ H < 256 ∧ ByteRow W p1 ws ∧ WordRow W p2 rs ∧
      ws.length ≤ 9223372036854775807 ∧ rs.length ≤ 9223372036854775807 := by
  obtain ⟨k0, k1, k2, y0, y1, y2, m, rfl, rfl, rfl, h0, h1, h2⟩ := open_agg3 Try.underlying92 (by kernel_rfl) (by kernel_rfl) hv h
  obtain ⟨a, e0, rfl, wa⟩ := DataW.trod_int Try.underlying5 h0
  simp at e0
  subst e0
  obtain ⟨H, rfl, hH⟩ := u8_of wa
  obtain ⟨p1, c1, ws, rfl, hw1, hl1⟩ := u8s_of_trod h1
  obtain ⟨p2, c2, rs, rfl, hw2, hl2⟩ := u16s_of_trod h2
  exact ⟨H, p1, p2, c1, c2, ws, rs, rfl, hH, hw1, hw2, hl1, hl2⟩

set_option maxRecDepth 100000 in
theorem TieGroups_lifted (os : Os) (started : os.Started) (H : Type) (enc : TypeId × Value → H) :
    ReturnsInHanded {} Try.checked os 13 .any (Rows.tieGroupsSpec.pre6 enc Try.prog Try.f13 Rows.tieGroupsRow.domain false) (Rows.tieGroupsSpec.post enc Try.prog Try.f13 false true false false) := by
  refine returnsInHanded_of_change (C := Try.checked) Try.own' started (by kernel_rfl) Try.func13
    (ChangeSpec.witness6 (enc := enc) (C := Try.checked) false ⟨#[], #[.agg #[.int .u8 0, .slice none 0 0, .slice none 0 0], .int .u8 0], []⟩ 8 (by kernel_rfl) (by kernel_rfl) (by kernel_rfl) (by kernel_rfl)) ?_
  intro W base args ds gs before hval0 hW hcnd _
  have hval : ∀ (j : Nat) t v, Try.f13.params[j]? = some t → args[j]? = some v → Value.okWide Try.prog W .any base t v := hval0
  have hW' := hW
  obtain ⟨p, q, hA0, hV, rfl, hfz, hnd⟩ := hW
  have hA : DataW.TrodAll enc Try.prog W 0 (fun _ => true) true Try.f13.params.toList args.toList ds p := hA0
  rw [Try.params13] at hA hval
  obtain ⟨v0, v1, d0, d1, p0, p1, rfl, rfl, rfl, h0, h1⟩ := trodAll_two hA
  obtain ⟨rfl, rfl⟩ := trodVars_none hV
  obtain ⟨hk, a1, a2, c1, c2, ws, rs, rfl, hH, hw1, hw2, hl1, hl2⟩ := lom_open (hval 0 92 v0 rfl rfl) h0
  obtain ⟨k1, rfl, rfl, rfl, wa⟩ := open_int Try.underlying5 (hval 1 5 v1 rfl rfl) h1
  obtain ⟨H2, rfl, hH2⟩ := u8_of wa
  clear hA0 hval0
  have hlt0 : ∀ x ∈ p0, x.block < W.heap.size := fun x hx => hW'.lt x (by simp [hx])
  refine (TieGroups_any hk H2 a1 a2 ws.length c1 c2 rs W hH hH2 hw2 hl2).mono fun e W' ⟨he, hB⟩ => ?_
  subst he
  refine ⟨_, rfl, _, _, _, [], p0 ++ [], [], hW', ?_, ?_, rfl, hB.frame _, fun h => by cases h⟩
  · exact trodAll_mk1 (shut_bool Try.underlying4 true)
  · exact trodAll_mk2 (Below.trod Try.laidOut' (by kernel_rfl) (of_decide_eq_true (by kernel_rfl)) h0 hB hlt0) (shut_int Try.underlying5 wa)

theorem TieGroups_joined : joinedFacts Try.prog 13 Try.f13 Rows.tieGroupsSpec Rows.tieGroupsRow = true := by
  unfold joinedFacts
  rw [Try.enters', Try.lifts', Try.made']
  kernel_rfl
theorem TieGroups_holds : Rows.TieGroupsSaid :=
  OpenClaim.holds_of_wide 13 Try.f13 rfl rfl rfl rfl rfl rfl rfl ⟨rfl, rfl, rfl, rfl, rfl⟩ rfl rfl rfl rfl rfl (by kernel_rfl) Try.func13 TieGroups_joined
    (of_decide_eq_true (by kernel_rfl)) (by unfold Func.isWrapper; first | (rw [if_pos (by decide +kernel)]; kernel_rfl) | (rw [if_neg (by decide +kernel)]; exact ⟨rfl, rfl⟩))
    (fun os started H enc _ => TieGroups_lifted os started H enc)
end Go.Proofs.Ytdmgffoikebgkaa
