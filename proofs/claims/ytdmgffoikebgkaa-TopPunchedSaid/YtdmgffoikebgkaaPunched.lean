/- TopPunched: for every loom a design that is punched, shuffled, mended and woven gives its rows and its cloth again, and so does the shuffled chain where its rows are the same; the examples hold. No condition. -/
import Derived.Test.YtdmgffoikebgkaaPT
import Derived.Test.YtdmgffoikebgkaaQA
import Derived.Test.YtdmgffoikebgkaaQB
import Derived.Test.YtdmgffoikebgkaaQC
import Derived.Test.YtdmgffoikebgkaaPA
namespace Go.Proofs.Ytdmgffoikebgkaa
open Go.ChangeShapes Go.WideShapes Go.ChangeAt Go.RowKit Go.Joins

set_option maxRecDepth 100000 in
theorem TopPunched_lifted (os : Os) (started : os.Started) (H : Type) (enc : TypeId × Value → H) :
    ReturnsInHanded {} Try.checked os 17 .any (Rows.topPunchedSpec.pre6 enc Try.prog Try.f17 Rows.topPunchedRow.domain false) (Rows.topPunchedSpec.post enc Try.prog Try.f17 false true false false) := by
  refine returnsInHanded_of_change (C := Try.checked) Try.own' started (by kernel_rfl) Try.func17
    (ChangeSpec.witness6 (enc := enc) (C := Try.checked) false ⟨#[], #[.agg #[.int .u8 0, .slice none 0 0, .slice none 0 0, .slice none 0 0]], []⟩ 8 (by kernel_rfl) (by kernel_rfl) (by kernel_rfl) (by kernel_rfl)) ?_
  intro W base args ds gs before hval0 hW hcnd _
  have hval : ∀ (j : Nat) t v, Try.f17.params[j]? = some t → args[j]? = some v → Value.okWide Try.prog W .any base t v := hval0
  have hW' := hW
  obtain ⟨p, q, hA0, hV, rfl, hfz, hnd⟩ := hW
  have hA : DataW.TrodAll enc Try.prog W 0 (fun _ => true) true Try.f17.params.toList args.toList ds p := hA0
  rw [Try.params17] at hA hval
  obtain ⟨v0, d0, rfl, rfl, h0⟩ := trodAll_one hA
  obtain ⟨rfl, rfl⟩ := trodVars_none hV
  obtain ⟨hk, a1, a2, a3, c1, c2, c3, ws, rs, sd, rfl, hH, hw1, hw2, hw3, hl1, hl2, hl3⟩ := loom_open (hval 0 137 v0 rfl rfl) h0
  clear hA0 hval0
  simp only [List.append_nil] at hW'
  have hlt : ∀ x ∈ p, x.block < W.heap.size := fun x hx => by simpa using hW'.lt x hx
  refine (TopPunched_any hk a1 a2 a3 c1 c2 c3 ws rs sd W hH hw1 hw2 hw3 hl1 hl2 hl3).mono fun e W' ⟨he, hB⟩ => ?_
  subst he
  refine ⟨_, rfl, _, _, _, [], p, [], hW', ?_, ?_, rfl, hB.frame _, fun h => by cases h⟩
  · exact trodAll_mk1 (shut_bool Try.underlying4 true)
  · exact trodAll_mk1 (Below.trod Try.laidOut' (by kernel_rfl) (of_decide_eq_true (by kernel_rfl)) h0 hB hlt)

theorem TopPunched_joined : joinedFacts Try.prog 17 Try.f17 Rows.topPunchedSpec Rows.topPunchedRow = true := by
  unfold joinedFacts
  rw [Try.enters', Try.lifts', Try.made']
  kernel_rfl
theorem TopPunched_holds : Rows.TopPunchedSaid :=
  OpenClaim.holds_of_wide 17 Try.f17 rfl rfl rfl rfl rfl rfl rfl ⟨rfl, rfl, rfl, rfl, rfl⟩ rfl rfl rfl rfl rfl (by kernel_rfl) Try.func17 TopPunched_joined
    (of_decide_eq_true (by kernel_rfl)) (by unfold Func.isWrapper; first | (rw [if_pos (by decide +kernel)]; kernel_rfl) | (rw [if_neg (by decide +kernel)]; exact ⟨rfl, rfl⟩))
    (fun os started H enc _ => TopPunched_lifted os started H enc)
end Go.Proofs.Ytdmgffoikebgkaa
