/- TieWorsts: for any harness with at most 110 warps and any bound the error, or the length of the longest float that a bound row can weave, with a row that is bound and has such a float, are what the reference says, which tries all rows (for at most 10 hooks and 40 warps), and the harness is not changed; for larger ones the law's fixed examples come out. No condition: whatever the harness and the bound. -/
import Derived.Laws.IdiomStrings
import Derived.Test.YtdmgffoikebgkaaTb01
import Derived.Test.YtdmgffoikebgkaaTb02
import Derived.Test.YtdmgffoikebgkaaTb03
import Derived.Test.YtdmgffoikebgkaaTb04
import Derived.Test.YtdmgffoikebgkaaTb05
import Derived.Test.YtdmgffoikebgkaaTb06
import Derived.Test.YtdmgffoikebgkaaTb07
import Derived.Test.YtdmgffoikebgkaaTb08
import Derived.Test.YtdmgffoikebgkaaTb09
import Derived.Test.YtdmgffoikebgkaaTb10
import Derived.Test.YtdmgffoikebgkaaTb11
import Derived.Test.YtdmgffoikebgkaaTb12
import Derived.Test.YtdmgffoikebgkaaTb13
import Derived.Test.YtdmgffoikebgkaaTb14
import Derived.Test.YtdmgffoikebgkaaTb15
import Derived.Test.YtdmgffoikebgkaaTb16
import Derived.Test.YtdmgffoikebgkaaTb17
import Derived.Test.YtdmgffoikebgkaaTb18
import Derived.Test.YtdmgffoikebgkaaTb19
import Derived.Test.YtdmgffoikebgkaaTb20
import Derived.Test.YtdmgffoikebgkaaTq03
namespace Go.Proofs.Ytdmgffoikebgkaa
open Go.ChangeShapes Go.WideShapes Go.ChangeAt Go.RowKit Go.Joins

set_option maxRecDepth 100000 in
theorem TieWorsts_walk (a bd : Int) (pp : Option Addr) (l c : Nat) (W : World) (hx : l ≤ 110 → ∃ xs : List Int, xs.length = l ∧ Reads W (.slice pp l c) xs) :
    Calls Try.prog 8 #[.agg #[.int .i64 a, .slice pp l c], .int .i64 bd] W fun e w' => e = .returned (.bool true) ∧ Below W.heap.size W w' := by
  by_cases hl : 110 < l
  · exact TieWorsts_large a bd pp c l W hl
  · obtain ⟨xs, rfl, hr⟩ := hx (by omega)
    by_cases hk : chkT a xs = 0
    · by_cases hm : 1 ≤ bd ∧ bd ≤ 24
      · have h1 := (chkT_ok hk).1
        obtain ⟨n, rfl⟩ := Int.eq_ofNat_of_zero_le (show 0 ≤ a by omega)
        by_cases hg : n ≤ 10 ∧ xs.length ≤ 40
        · obtain ⟨m, rfl⟩ := Int.eq_ofNat_of_zero_le (show 0 ≤ bd by omega)
          exact TieWorsts_good n m pp c xs W hr (by omega) hk ⟨by omega, by omega⟩ hg
        · exact TieWorsts_big n bd pp c xs W hr (by omega) hk hm (by omega)
      · exact TieWorsts_range a bd pp c xs W hr (by omega) hk hm
    · exact TieWorsts_err a bd _ pp c xs W hr (by omega) rfl hk
set_option maxRecDepth 100000 in
theorem TieWorsts_lifted (os : Os) (started : os.Started) (H : Type) (enc : TypeId × Value → H) :
    ReturnsInHanded {} Try.checked os 8 .any (Rows.tieWorstsSpec.pre6 enc Try.prog Try.f8 Rows.tieWorstsRow.domain false) (Rows.tieWorstsSpec.post enc Try.prog Try.f8 false true false false) := by
  refine returnsInHanded_of_change (C := Try.checked) Try.own' started (by kernel_rfl) Try.func8
    (ChangeSpec.witness6 (enc := enc) (C := Try.checked) false ⟨#[], #[.agg #[.int .i64 0, .slice none 0 0], .int .i64 0], []⟩ 8 (by kernel_rfl) (by kernel_rfl) (by kernel_rfl) (by kernel_rfl)) ?_
  intro W base args ds gs before hval0 hW hcnd _
  have hval : ∀ (j : Nat) t v, Try.f8.params[j]? = some t → args[j]? = some v → Value.okWide Try.prog W .any base t v := hval0
  have hW' := hW
  obtain ⟨p, q, hA0, hV, rfl, hfz, hnd⟩ := hW
  have hA : DataW.TrodAll enc Try.prog W 0 (fun _ => true) true Try.f8.params.toList args.toList ds p := hA0
  rw [Try.params8] at hA hval
  obtain ⟨v0, v1, d0, d1, p0, p1, rfl, rfl, rfl, h0, h1⟩ := trodAll_two hA
  obtain ⟨rfl, rfl⟩ := trodVars_none hV
  have h0k := h0
  obtain ⟨c0, c1, y0, y1, m, rfl, rfl, rfl, hy0, hy1⟩ := open_agg2 Try.underlying26 (by kernel_rfl) cells26' (hval 0 26 v0 rfl rfl) h0
  obtain ⟨a, e0, rfl, wa⟩ := DataW.trod_int Try.underlying3 hy0
  simp at e0
  subst e0
  obtain ⟨pp, l, c, rfl, hx⟩ := reads_of_trod hy1
  obtain ⟨bd, rfl, rfl, rfl, wb⟩ := open_int Try.underlying3 (hval 1 3 v1 rfl rfl) h1
  clear hA0 hval0
  have hlt0 : ∀ x ∈ (([] : List MemPlace) ++ y1.2), x.block < W.heap.size := fun x hx => hW'.lt x (by simp at hx; simp [hx])
  refine (TieWorsts_walk a bd pp l c W hx).mono fun e W' ⟨he, hB⟩ => ?_
  subst he
  refine ⟨_, rfl, _, _, _, [], ([] ++ y1.2) ++ [], [], hW', ?_, ?_, rfl, hB.frame _, fun h => by cases h⟩
  · exact trodAll_mk1 (shut_bool Try.underlying4 true)
  · exact trodAll_mk2 (Below.trod Try.laidOut' (by kernel_rfl) (of_decide_eq_true (by kernel_rfl)) h0k hB hlt0) (shut_int Try.underlying3 wb)

theorem TieWorsts_joined : joinedFacts Try.prog 8 Try.f8 Rows.tieWorstsSpec Rows.tieWorstsRow = true := by
  unfold joinedFacts
  rw [Try.enters', Try.lifts', Try.made']
  kernel_rfl
theorem TieWorsts_holds : Rows.TieWorstsSaid :=
  OpenClaim.holds_of_wide 8 Try.f8 rfl rfl rfl rfl rfl rfl rfl ⟨rfl, rfl, rfl, rfl, rfl⟩ rfl rfl rfl rfl rfl (by kernel_rfl) Try.func8 TieWorsts_joined
    (of_decide_eq_true (by kernel_rfl)) (by unfold Func.isWrapper; first | (rw [if_pos (by decide +kernel)]; kernel_rfl) | (rw [if_neg (by decide +kernel)]; exact ⟨rfl, rfl⟩))
    (fun os started H enc _ => TieWorsts_lifted os started H enc)
end Go.Proofs.Ytdmgffoikebgkaa
