/- TopRounds: what a chain weaves round after round, from any card on, repeats as soon as the design and has the same longest floats, whatever the bytes and words: true, and the input reads as it did. No condition. -/
import Derived.Test.YtdmgffoikebgkaaPT
import Derived.Test.YtdmgffoikebgkaaQA
import Derived.Test.YtdmgffoikebgkaaQB
import Derived.Test.YtdmgffoikebgkaaQC
import Derived.Test.YtdmgffoikebgkaaOD
import Derived.OpenShut
namespace Go.Proofs.Ytdmgffoikebgkaa
open Go.ChangeShapes Go.WideShapes Go.ChangeAt Go.RowKit Go.Joins

set_option maxRecDepth 100000 in
/-- two bytes that came in as an array -/
theorem pair_open {Ty : Type} {enc : TypeId × Value → Ty} {W : World} {b0 : Nat} {v : Value} {d : DataW Ty} {p : List MemPlace} (hv : Value.okWide Try.prog W .any b0 93 v) (h : DataW.Trod enc Try.prog W 0 (fun _ => true) true 93 v d p) :
    ∃ x y : Nat, v = .agg #[.int .u8 (x : Int), .int .u8 (y : Int)] ∧ x < 256 ∧ y < 256 := by
  have hu : Try.prog.underlying 93 = some (.array 2 5) := by kernel_rfl
  have hc : Try.prog.cellsOf 93 = 2 := by kernel_rfl
  have h5 : Try.prog.cellsOf 5 = 1 := by kernel_rfl
  simp only [Value.okWide, hu] at hv
  obtain ⟨cs, rfl, h2, _⟩ := hv
  rw [hc] at h2
  obtain ⟨a, b, rfl⟩ : ∃ a b, cs = #[a, b] := by
    match cs, h2 with
    | ⟨[a, b]⟩, _ => exact ⟨a, b, rfl⟩
  obtain ⟨fuel, hf⟩ := h
  obtain ⟨xs, m, rfl, _, _, hn, he⟩ := DataW.trod_array hu hf
  have e0 := he 0 (by omega)
  have e1 := he 1 (by omega)
  rw [h5, List.getElem?_eq_getElem (by omega)] at e0 e1
  obtain ⟨x, ex, _, wx⟩ := DataW.trod_int Try.underlying5 e0
  obtain ⟨y, ey, _, wy⟩ := DataW.trod_int Try.underlying5 e1
  simp [Value.cells] at ex ey
  subst ex ey
  obtain ⟨x', rfl, hx⟩ := u8_of wx
  obtain ⟨y', rfl, hy⟩ := u8_of wy
  exact ⟨x', y', rfl, hx, hy⟩
set_option maxRecDepth 100000 in
set_option maxHeartbeats 1000000 in
theorem TopRounds_lifted (os : Os) (started : os.Started) (H : Type) (enc : TypeId × Value → H) :
    ReturnsInHanded {} Try.checked os 16 .any (Rows.topRoundsSpec.pre6 enc Try.prog Try.f16 Rows.topRoundsRow.domain false) (Rows.topRoundsSpec.post enc Try.prog Try.f16 false true false false) := by
  refine returnsInHanded_of_change (C := Try.checked) Try.own' started (by kernel_rfl) Try.func16
    (ChangeSpec.witness6 (enc := enc) (C := Try.checked) false ⟨#[], #[.int .u8 0, .slice none 0 0, .agg #[.int .u8 0, .int .u8 0]], []⟩ 8 (by kernel_rfl) (by kernel_rfl) (by kernel_rfl) (by kernel_rfl)) ?_
  intro W base args ds gs before hval0 hW hcnd _
  have hval : ∀ (j : Nat) t v, Try.f16.params[j]? = some t → args[j]? = some v → Value.okWide Try.prog W .any base t v := hval0
  have hW' := hW
  obtain ⟨p, q, hA0, hV, rfl, hfz, hnd⟩ := hW
  have hA : DataW.TrodAll enc Try.prog W 0 (fun _ => true) true Try.f16.params.toList args.toList ds p := hA0
  rw [Try.params16] at hA hval
  obtain ⟨v0, v1, v2, d0, d1, d2, p0, p1, p2, rfl, rfl, rfl, h0, h1, h2⟩ := trodAll_three hA
  obtain ⟨rfl, rfl⟩ := trodVars_none hV
  have h1k := h1
  obtain ⟨a, rfl, rfl, rfl, wa⟩ := open_int Try.underlying5 (hval 0 5 v0 rfl rfl) h0
  obtain ⟨k, rfl, hk⟩ := u8_of wa
  obtain ⟨a0, len, cap, rfl⟩ := okWide_slice Try.underlying90 (hval 1 90 v1 rfl rfl)
  obtain ⟨fuel, hf⟩ := h1
  obtain ⟨pp, c, us, hv, hw, hl⟩ := u16s_of_trod hf
  simp only [Value.slice.injEq] at hv
  obtain ⟨rfl, rfl, rfl⟩ := hv
  obtain ⟨x, y, rfl, hx, hy⟩ := pair_open (hval 2 93 v2 rfl rfl) h2
  clear hA0 hval0
  have hlt1 : ∀ x ∈ p1, x.block < W.heap.size := fun x hx => hW'.lt x (by simp [hx])
  have hlt2 : ∀ x ∈ p2, x.block < W.heap.size := fun x hx => hW'.lt x (by simp [hx])
  refine (TopRounds_any k a0 cap us x y W hk hx hy hw hl).mono fun e W' ⟨he, hB⟩ => ?_
  subst he
  refine ⟨_, rfl, _, _, _, [], [] ++ (p1 ++ p2), [], hW', ?_, ?_, rfl, hB.frame _, fun h => by cases h⟩
  · exact trodAll_mk1 (shut_bool Try.underlying4 true)
  · exact trodAll_mk3 (shut_int Try.underlying5 wa) (Below.trod Try.laidOut' (by kernel_rfl) (of_decide_eq_true (by kernel_rfl)) h1k hB hlt1) (Below.trod Try.laidOut' (by kernel_rfl) (of_decide_eq_true (by kernel_rfl)) h2 hB hlt2)

theorem TopRounds_joined : joinedFacts Try.prog 16 Try.f16 Rows.topRoundsSpec Rows.topRoundsRow = true := by
  unfold joinedFacts
  rw [Try.enters', Try.lifts', Try.made']
  kernel_rfl
theorem TopRounds_holds : Rows.TopRoundsSaid :=
  OpenClaim.holds_of_wide 16 Try.f16 rfl rfl rfl rfl rfl rfl rfl ⟨rfl, rfl, rfl, rfl, rfl⟩ rfl rfl rfl rfl rfl (by kernel_rfl) Try.func16 TopRounds_joined
    (of_decide_eq_true (by kernel_rfl)) (by unfold Func.isWrapper; first | (rw [if_pos (by decide +kernel)]; kernel_rfl) | (rw [if_neg (by decide +kernel)]; exact ⟨rfl, rfl⟩))
    (fun os started H enc _ => TopRounds_lifted os started H enc)
end Go.Proofs.Ytdmgffoikebgkaa
