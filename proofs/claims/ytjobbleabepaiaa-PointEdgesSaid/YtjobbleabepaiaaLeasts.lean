/- PointLeasts: for every design with at most 70 rows the least repeat that the program returns, or its error, is what the reference says, and the design is not changed; for a larger design the law's fixed examples come out. No condition: whatever the design. -/
import Derived.Test.YtjobbleabepaiaaRows
import Derived.Test.YtjobbleabepaiaaChecked
import Derived.Test.YtjobbleabepaiaaVX
import Derived.ProofKit
import Derived.Lib.SmallJoins
namespace Go.Proofs.Ytjobbleabepaiaa
open Go.ChangeShapes Go.WideShapes Go.ChangeAt Go.RowKit Go.Joins

theorem cells3' : Try.prog.cellsOf 3 = 1 := by kernel_rfl
theorem cells24' : Try.prog.cellsOf 24 = 2 := by kernel_rfl
theorem Try.own' : ownKnob Try.prog.godebug = none := by kernel_rfl
theorem Try.laidOut' : laidOutB Try.prog = true := by kernel_rfl
theorem spot_none {W : World} {a : Addr} {v : Value} (h : W.cell? a = some v) : a.spot = none := by
  unfold World.cell? at h
  split at h
  · split at h
    · cases h
    · rename_i hs
      cases hsp : a.spot with
      | none => rfl
      | some x => simp [hsp] at hs
  · cases h
/-- what a slice of integers that came in holds -/
theorem reads_of_trod {H : Type} {enc : TypeId × Value → H} {W : World} {n : Nat} {v : Value} {y : DataW H × List MemPlace} (h : DataW.trod enc Try.prog W 0 (fun _ => true) true n 22 [v] = some y) :
    ∃ p l c, v = .slice p l c ∧ (l ≤ 70 → ∃ xs : List Int, xs.length = l ∧ Reads W (.slice p l c) xs) := by
  rcases open_ints Try.underlying22 Try.underlying3 cells3' h with ⟨hv, _⟩ | ⟨a, len, cap, zs, hv, _, hlc, _, hz, _, hc, _⟩
  · obtain rfl : v = .slice none 0 0 := by simpa using hv
    exact ⟨none, 0, 0, rfl, fun _ => ⟨[], rfl, none, 0, rfl, by simp, fun h => by simp at h⟩⟩
  · obtain rfl : v = .slice (some a) len cap := by simpa using hv
    have hz' : zs.length = cap := by simpa using hz
    refine ⟨some a, len, cap, rfl, fun hl => ⟨zs.take len, by simp; omega, some a, cap, by simp; omega, by simp; omega, fun h0 => ?_⟩⟩
    have hl0 : 0 < len := by simp at h0; omega
    have hc0 := hc 0 (by omega)
    have he0 : a.add 0 = a := by simp [Addr.add]
    rw [he0] at hc0
    have hsp := spot_none hc0
    obtain ⟨b, off, sp⟩ := a
    simp only at hsp
    subst hsp
    refine ⟨b, off, rfl, World.block_lt_of_cell? W ⟨b, off, none⟩ hc0, fun i hi => ?_⟩
    have hil : i < len := by simp at hi; omega
    have := hc i (by omega)
    rw [addr_add] at this
    rw [this, nthI_get _ _ hi]
    simp [List.getElem?_eq_getElem (show i < zs.length by omega)]

set_option maxRecDepth 100000 in
theorem PointLeasts_lifted (os : Os) (started : os.Started) (H : Type) (enc : TypeId × Value → H) :
    ReturnsInHanded {} Try.checked os 8 .any (Rows.pointLeastsSpec.pre6 enc Try.prog Try.f8 Rows.pointLeastsRow.domain false) (Rows.pointLeastsSpec.post enc Try.prog Try.f8 false true false false) := by
  refine returnsInHanded_of_change (C := Try.checked) Try.own' started (by kernel_rfl) Try.func8
    (ChangeSpec.witness6 (enc := enc) (C := Try.checked) false ⟨#[], #[.agg #[.int .i64 0, .slice none 0 0]], []⟩ 8 (by kernel_rfl) (by kernel_rfl) (by kernel_rfl) (by kernel_rfl)) ?_
  intro W base args ds gs before hval0 hW hcnd _
  have hval : ∀ (j : Nat) t v, Try.f8.params[j]? = some t → args[j]? = some v → Value.okWide Try.prog W .any base t v := hval0
  have hW' := hW
  obtain ⟨p, q, hA0, hV, rfl, hfz, hnd⟩ := hW
  have hA : DataW.TrodAll enc Try.prog W 0 (fun _ => true) true Try.f8.params.toList args.toList ds p := hA0
  rw [Try.params8] at hA hval
  obtain ⟨v0, d0, rfl, rfl, h0⟩ := trodAll_one hA
  obtain ⟨rfl, rfl⟩ := trodVars_none hV
  have h0k := h0
  obtain ⟨c0, c1, y0, y1, m, rfl, rfl, rfl, hy0, hy1⟩ := open_agg2 Try.underlying24 (by kernel_rfl) cells24' (hval 0 24 v0 rfl rfl) h0
  obtain ⟨a, e0, rfl, wa⟩ := DataW.trod_int Try.underlying3 hy0
  simp at e0
  subst e0
  obtain ⟨pp, l, c, rfl, hx⟩ := reads_of_trod hy1
  clear hA0 hval0
  simp only [List.append_nil] at hW'
  have hlt : ∀ x ∈ (([] : List MemPlace) ++ y1.2), x.block < W.heap.size := fun x hx => by simpa using hW'.lt x hx
  have walk : Calls Try.prog 8 #[.agg #[.int .i64 a, .slice pp l c]] W fun e w' => e = .returned (.bool true) ∧ Below W.heap.size W w' := by
    by_cases hl : 70 < l
    · exact PointLeasts_large a pp l c W hl
    · obtain ⟨xs, rfl, hr⟩ := hx (by omega)
      exact PointLeasts_any a pp c xs W hr
  refine walk.mono fun e W' ⟨he, hB⟩ => ?_
  subst he
  refine ⟨_, rfl, _, _, _, [], [] ++ y1.2, [], hW', ?_, ?_, rfl, hB.frame _, fun h => by cases h⟩
  · exact trodAll_mk1 (shut_bool Try.underlying4 true)
  · exact trodAll_mk1 (Below.trod Try.laidOut' (by kernel_rfl) (of_decide_eq_true (by kernel_rfl)) h0k hB hlt)

theorem PointLeasts_holds : Rows.PointLeastsSaid :=
  OpenClaim.holds_of_wide 8 Try.f8 rfl rfl rfl rfl rfl rfl rfl ⟨rfl, rfl, rfl, rfl, rfl⟩ rfl rfl rfl rfl rfl (by kernel_rfl) Try.func8 (by kernel_rfl)
    (of_decide_eq_true (by kernel_rfl)) (by unfold Func.isWrapper; first | (rw [if_pos (by decide +kernel)]; kernel_rfl) | (rw [if_neg (by decide +kernel)]; exact ⟨rfl, rfl⟩))
    (fun os started H enc _ => PointLeasts_lifted os started H enc)
end Go.Proofs.Ytjobbleabepaiaa
