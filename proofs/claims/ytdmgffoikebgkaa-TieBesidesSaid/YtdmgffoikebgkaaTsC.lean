/- TieBesides: for any two harnesses with at most 110 warps the error of the first, the two side by side, after how many warps the first repeats, and where it is its own mirror, or their errors, are what the reference says, and the harnesses are not changed; for larger ones the law's fixed examples come out. No condition: whatever the harnesses. -/
import Derived.DeepKeys4
import Derived.Laws.IdiomStrings
import Derived.Test.YtdmgffoikebgkaaTb01
import Derived.Test.YtdmgffoikebgkaaTb02
import Derived.Test.YtdmgffoikebgkaaTb03
import Derived.Test.YtdmgffoikebgkaaTb04
import Derived.Test.YtdmgffoikebgkaaTb05
import Derived.Test.YtdmgffoikebgkaaTb06
import Derived.Test.YtdmgffoikebgkaaTb07
import Derived.Test.YtdmgffoikebgkaaTb08
import Derived.Test.YtdmgffoikebgkaaTb09
import Derived.Test.YtdmgffoikebgkaaTb10
import Derived.Test.YtdmgffoikebgkaaTb11
import Derived.Test.YtdmgffoikebgkaaTb12
import Derived.Test.YtdmgffoikebgkaaTb13
import Derived.Test.YtdmgffoikebgkaaTb14
import Derived.Test.YtdmgffoikebgkaaTb15
import Derived.Test.YtdmgffoikebgkaaTb16
import Derived.Test.YtdmgffoikebgkaaTb17
import Derived.Test.YtdmgffoikebgkaaTb18
import Derived.Test.YtdmgffoikebgkaaTb19
import Derived.Test.YtdmgffoikebgkaaTb20
import Derived.Test.YtdmgffoikebgkaaTo03
namespace Go.Proofs.Ytdmgffoikebgkaa
open Go.ChangeShapes Go.WideShapes Go.ChangeAt Go.RowKit Go.Joins

theorem cells3' : Try.prog.cellsOf 3 = 1 := by kernel_rfl
theorem cells26' : Try.prog.cellsOf 26 = 2 := by kernel_rfl
/-- what a slice of integers that came in holds -/
theorem reads_of_trod {H : Type} {enc : TypeId × Value → H} {W : World} {n : Nat} {v : Value} {y : DataW H × List MemPlace} (h : DataW.trod enc Try.prog W 0 (fun _ => true) true n 24 [v] = some y) :
    ∃ p l c, v = .slice p l c ∧ (l ≤ 110 → ∃ xs : List Int, xs.length = l ∧ Reads W (.slice p l c) xs) := by
  rcases open_ints Try.underlying24 Try.underlying3 cells3' h with ⟨hv, _⟩ | ⟨a, len, cap, zs, hv, _, hlc, _, hz, _, hc, _⟩
  · obtain rfl : v = .slice none 0 0 := by simpa using hv
    exact ⟨none, 0, 0, rfl, fun _ => ⟨[], rfl, none, 0, rfl, by simp, fun h => by simp at h⟩⟩
  · obtain rfl : v = .slice (some a) len cap := by simpa using hv
    have hz' : zs.length = cap := by simpa using hz
    refine ⟨some a, len, cap, rfl, fun hl => ⟨zs.take len, by simp; omega, some a, cap, by simp; omega, by simp; omega, fun h0 => ?_⟩⟩
    have hl0 : 0 < len := by simp at h0; omega
    have hc0 := hc 0 (by omega)
    have he0 : a.add 0 = a := by simp [Addr.add]
    rw [he0] at hc0
    have hsp := spot_none hc0
    obtain ⟨b, off, sp⟩ := a
    simp only at hsp
    subst hsp
    refine ⟨b, off, rfl, World.block_lt_of_cell? W ⟨b, off, none⟩ hc0, fun i hi => ?_⟩
    have hil : i < len := by simp at hi; omega
    have := hc i (by omega)
    rw [addr_add] at this
    rw [this, nthI_get _ _ hi]
    simp [List.getElem?_eq_getElem (show i < zs.length by omega)]
set_option maxRecDepth 100000 in
theorem TieBesides_lifted (os : Os) (started : os.Started) (H : Type) (enc : TypeId × Value → H) :
    ReturnsInHanded {} Try.checked os 4 .any (Rows.tieBesidesSpec.pre6 enc Try.prog Try.f4 Rows.tieBesidesRow.domain false) (Rows.tieBesidesSpec.post enc Try.prog Try.f4 false true false false) := by
  refine returnsInHanded_of_change (C := Try.checked) Try.own' started (by kernel_rfl) Try.func4
    (ChangeSpec.witness6 (enc := enc) (C := Try.checked) false ⟨#[], #[.agg #[.int .i64 0, .slice none 0 0], .agg #[.int .i64 0, .slice none 0 0]], []⟩ 8 (by kernel_rfl) (by kernel_rfl) (by kernel_rfl) (by kernel_rfl)) ?_
  intro W base args ds gs before hval0 hW hcnd _
  have hval : ∀ (j : Nat) t v, Try.f4.params[j]? = some t → args[j]? = some v → Value.okWide Try.prog W .any base t v := hval0
  have hW' := hW
  obtain ⟨p, q, hA0, hV, rfl, hfz, hnd⟩ := hW
  have hA : DataW.TrodAll enc Try.prog W 0 (fun _ => true) true Try.f4.params.toList args.toList ds p := hA0
  rw [Try.params4] at hA hval
  obtain ⟨v0, v1, d0, d1, p0, p1, rfl, rfl, rfl, h0, h1⟩ := trodAll_two hA
  obtain ⟨rfl, rfl⟩ := trodVars_none hV
  have h0k := h0
  have h1k := h1
  obtain ⟨c0, c1, y0, y1, m, rfl, rfl, rfl, hy0, hy1⟩ := open_agg2 Try.underlying26 (by kernel_rfl) cells26' (hval 0 26 v0 rfl rfl) h0
  obtain ⟨a, e0, rfl, wa⟩ := DataW.trod_int Try.underlying3 hy0
  simp at e0
  subst e0
  obtain ⟨pp, l, c, rfl, hx⟩ := reads_of_trod hy1
  obtain ⟨c0', c1', y0', y1', m', rfl, rfl, rfl, hy0', hy1'⟩ := open_agg2 Try.underlying26 (by kernel_rfl) cells26' (hval 1 26 v1 rfl rfl) h1
  obtain ⟨a', e0', rfl, wa'⟩ := DataW.trod_int Try.underlying3 hy0'
  simp at e0'
  subst e0'
  obtain ⟨pp', l', c', rfl, hx'⟩ := reads_of_trod hy1'
  clear hA0 hval0
  have hlt0 : ∀ x ∈ (([] : List MemPlace) ++ y1.2), x.block < W.heap.size := fun x hx => hW'.lt x (by simp at hx; simp [hx])
  have hlt1 : ∀ x ∈ (([] : List MemPlace) ++ y1'.2), x.block < W.heap.size := fun x hx => hW'.lt x (by simp at hx; simp [hx])
  have walk : Calls Try.prog 4 #[.agg #[.int .i64 a, .slice pp l c], .agg #[.int .i64 a', .slice pp' l' c']] W fun e w' => e = .returned (.bool true) ∧ Below W.heap.size W w' := by
    by_cases hl : 110 < l ∨ 110 < l'
    · exact TieBesides_large a a' pp pp' c c' l l' W hl
    · obtain ⟨xs, rfl, hr⟩ := hx (by omega)
      obtain ⟨xs', rfl, hr'⟩ := hx' (by omega)
      exact TieBesides_any a a' pp pp' c c' xs xs' W hr hr'
  refine walk.mono fun e W' ⟨he, hB⟩ => ?_
  subst he
  refine ⟨_, rfl, _, _, _, [], ([] ++ y1.2) ++ ([] ++ y1'.2), [], hW', ?_, ?_, rfl, hB.frame _, fun h => by cases h⟩
  · exact trodAll_mk1 (shut_bool Try.underlying4 true)
  · exact trodAll_mk2 (Below.trod Try.laidOut' (by kernel_rfl) (of_decide_eq_true (by kernel_rfl)) h0k hB hlt0) (Below.trod Try.laidOut' (by kernel_rfl) (of_decide_eq_true (by kernel_rfl)) h1k hB hlt1)

theorem TieBesides_joined : joinedFacts Try.prog 4 Try.f4 Rows.tieBesidesSpec Rows.tieBesidesRow = true := by
  unfold joinedFacts
  rw [Try.enters', Try.lifts', Try.made']
  kernel_rfl
theorem TieBesides_holds : Rows.TieBesidesSaid :=
  OpenClaim.holds_of_wide 4 Try.f4 rfl rfl rfl rfl rfl rfl rfl ⟨rfl, rfl, rfl, rfl, rfl⟩ rfl rfl rfl rfl rfl (by kernel_rfl) Try.func4 TieBesides_joined
    (of_decide_eq_true (by kernel_rfl)) (by unfold Func.isWrapper; first | (rw [if_pos (by decide +kernel)]; kernel_rfl) | (rw [if_neg (by decide +kernel)]; exact ⟨rfl, rfl⟩))
    (fun os started H enc _ => TieBesides_lifted os started H enc)
end Go.Proofs.Ytdmgffoikebgkaa
