/- TieWeaves: for any harness with at most 110 warps, any design with at most 70 rows and any bound, the cloth that is woven, and its floats that are longer than the bound, or the errors, are what the reference says, and the harness and the design are not changed; for larger ones the law's fixed examples come out. No condition: whatever the harness, the design and the bound. -/
import Derived.Laws.IdiomStrings
import Derived.Test.YtdmgffoikebgkaaTb01
import Derived.Test.YtdmgffoikebgkaaTb02
import Derived.Test.YtdmgffoikebgkaaTb03
import Derived.Test.YtdmgffoikebgkaaTb04
import Derived.Test.YtdmgffoikebgkaaTb05
import Derived.Test.YtdmgffoikebgkaaTb06
import Derived.Test.YtdmgffoikebgkaaTb07
import Derived.Test.YtdmgffoikebgkaaTb08
import Derived.Test.YtdmgffoikebgkaaTb09
import Derived.Test.YtdmgffoikebgkaaTb10
import Derived.Test.YtdmgffoikebgkaaTb11
import Derived.Test.YtdmgffoikebgkaaTb12
import Derived.Test.YtdmgffoikebgkaaTb13
import Derived.Test.YtdmgffoikebgkaaTb14
import Derived.Test.YtdmgffoikebgkaaTb15
import Derived.Test.YtdmgffoikebgkaaTb16
import Derived.Test.YtdmgffoikebgkaaTb17
import Derived.Test.YtdmgffoikebgkaaTb18
import Derived.Test.YtdmgffoikebgkaaTb19
import Derived.Test.YtdmgffoikebgkaaTb20
import Derived.Test.YtdmgffoikebgkaaTp03
namespace Go.Proofs.Ytdmgffoikebgkaa
open Go.ChangeShapes Go.WideShapes Go.ChangeAt Go.RowKit Go.Joins

theorem cells37w : Try.prog.cellsOf 37 = 2 := by kernel_rfl
set_option maxRecDepth 100000 in
theorem TieWeaves_walk (a a' bd : Int) (pp pp' : Option Addr) (l l' c c' : Nat) (W : World) (hx : l ≤ 110 → ∃ xs : List Int, xs.length = l ∧ Reads W (.slice pp l c) xs) (hx' : l' ≤ 110 → ∃ xs : List Int, xs.length = l' ∧ Reads W (.slice pp' l' c') xs) :
    Calls Try.prog 5 #[.agg #[.int .i64 a, .slice pp l c], .agg #[.int .i64 a', .slice pp' l' c'], .int .i64 bd] W fun e w' => e = .returned (.bool true) ∧ Below W.heap.size W w' := by
  by_cases hl : 110 < l ∨ 70 < l'
  · exact TieWeaves_large a a' bd pp pp' c c' l l' W hl
  · obtain ⟨xs, rfl, hr⟩ := hx (by omega)
    obtain ⟨ys, rfl, hr'⟩ := hx' (by omega)
    by_cases hk : wovE a a' xs ys = 0
    · by_cases hm : 0 ≤ bd ∧ bd ≤ 1000
      · obtain ⟨m, rfl⟩ := Int.eq_ofNat_of_zero_le hm.1
        exact TieWeaves_good a a' m pp pp' c c' xs ys W hr hr' ⟨by omega, by omega⟩ hk (by omega)
      · exact TieWeaves_range a a' bd pp pp' c c' xs ys W hr hr' ⟨by omega, by omega⟩ hk hm
    · exact TieWeaves_err a a' bd _ pp pp' c c' xs ys W hr hr' ⟨by omega, by omega⟩ rfl hk
set_option maxRecDepth 100000 in
theorem TieWeaves_lifted (os : Os) (started : os.Started) (H : Type) (enc : TypeId × Value → H) :
    ReturnsInHanded {} Try.checked os 5 .any (Rows.tieWeavesSpec.pre6 enc Try.prog Try.f5 Rows.tieWeavesRow.domain false) (Rows.tieWeavesSpec.post enc Try.prog Try.f5 false true false false) := by
  refine returnsInHanded_of_change (C := Try.checked) Try.own' started (by kernel_rfl) Try.func5
    (ChangeSpec.witness6 (enc := enc) (C := Try.checked) false ⟨#[], #[.agg #[.int .i64 0, .slice none 0 0], .agg #[.int .i64 0, .slice none 0 0], .int .i64 0], []⟩ 8 (by kernel_rfl) (by kernel_rfl) (by kernel_rfl) (by kernel_rfl)) ?_
  intro W base args ds gs before hval0 hW hcnd _
  have hval : ∀ (j : Nat) t v, Try.f5.params[j]? = some t → args[j]? = some v → Value.okWide Try.prog W .any base t v := hval0
  have hW' := hW
  obtain ⟨p, q, hA0, hV, rfl, hfz, hnd⟩ := hW
  have hA : DataW.TrodAll enc Try.prog W 0 (fun _ => true) true Try.f5.params.toList args.toList ds p := hA0
  rw [Try.params5] at hA hval
  obtain ⟨v0, v1, v2, d0, d1, d2, p0, p1, p2, rfl, rfl, rfl, h0, h1, h2⟩ := trodAll_three hA
  obtain ⟨rfl, rfl⟩ := trodVars_none hV
  have h0k := h0
  have h1k := h1
  obtain ⟨c0, c1, y0, y1, m, rfl, rfl, rfl, hy0, hy1⟩ := open_agg2 Try.underlying26 (by kernel_rfl) cells26' (hval 0 26 v0 rfl rfl) h0
  obtain ⟨a, e0, rfl, wa⟩ := DataW.trod_int Try.underlying3 hy0
  simp at e0
  subst e0
  obtain ⟨pp, l, c, rfl, hx⟩ := reads_of_trod hy1
  obtain ⟨c0', c1', y0', y1', m', rfl, rfl, rfl, hy0', hy1'⟩ := open_agg2 Try.underlying37 (by kernel_rfl) cells37w (hval 1 37 v1 rfl rfl) h1
  obtain ⟨a', e0', rfl, wa'⟩ := DataW.trod_int Try.underlying3 hy0'
  simp at e0'
  subst e0'
  obtain ⟨pp', l', c', rfl, hx'⟩ := reads_of_trod hy1'
  obtain ⟨bd, rfl, rfl, rfl, wb⟩ := open_int Try.underlying3 (hval 2 3 v2 rfl rfl) h2
  clear hA0 hval0
  have hlt0 : ∀ x ∈ (([] : List MemPlace) ++ y1.2), x.block < W.heap.size := fun x hx => hW'.lt x (by simp at hx; simp [hx])
  have hlt1 : ∀ x ∈ (([] : List MemPlace) ++ y1'.2), x.block < W.heap.size := fun x hx => hW'.lt x (by simp at hx; simp [hx])
  refine (TieWeaves_walk a a' bd pp pp' l l' c c' W hx hx').mono fun e W' ⟨he, hB⟩ => ?_
  subst he
  refine ⟨_, rfl, _, _, _, [], ([] ++ y1.2) ++ ([] ++ y1'.2) ++ [], [], hW', ?_, ?_, rfl, hB.frame _, fun h => by cases h⟩
  · exact trodAll_mk1 (shut_bool Try.underlying4 true)
  · have h := trodAll_mk3 (Below.trod Try.laidOut' (by kernel_rfl) (of_decide_eq_true (by kernel_rfl)) h0k hB hlt0) (Below.trod Try.laidOut' (by kernel_rfl) (of_decide_eq_true (by kernel_rfl)) h1k hB hlt1) (shut_int Try.underlying3 wb)
    rw [← List.append_assoc ([] ++ y1.2) ([] ++ y1'.2) []] at h
    exact h

theorem TieWeaves_joined : joinedFacts Try.prog 5 Try.f5 Rows.tieWeavesSpec Rows.tieWeavesRow = true := by
  unfold joinedFacts
  rw [Try.enters', Try.lifts', Try.made']
  kernel_rfl
theorem TieWeaves_holds : Rows.TieWeavesSaid :=
  OpenClaim.holds_of_wide 5 Try.f5 rfl rfl rfl rfl rfl rfl rfl ⟨rfl, rfl, rfl, rfl, rfl⟩ rfl rfl rfl rfl rfl (by kernel_rfl) Try.func5 TieWeaves_joined
    (of_decide_eq_true (by kernel_rfl)) (by unfold Func.isWrapper; first | (rw [if_pos (by decide +kernel)]; kernel_rfl) | (rw [if_neg (by decide +kernel)]; exact ⟨rfl, rfl⟩))
    (fun os started H enc _ => TieWeaves_lifted os started H enc)
end Go.Proofs.Ytdmgffoikebgkaa
