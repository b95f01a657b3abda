/- PointBound: for every paper, every list of fixed points and all three bytes the design that Bind returns is bound, keeps the points that are fixed, and has as many points changed as it says, in each pick at least as many as there are windows of Proof; no other design that is tried, with fewer changes, is bound; and if Bind says that there is none, none that is tried is bound. No condition. -/
import Derived.Test.YtjobbleabepaiaaLeasts
import Derived.Test.YtjobbleabepaiaaYP
import Derived.Test.YtjobbleabepaiaaBM
import Derived.WideKeyArr2
namespace Go.Proofs.Ytjobbleabepaiaa
open Go.ChangeShapes Go.WideShapes Go.ChangeAt Go.RowKit Go.Joins

theorem ak82 : Go.WideMaps.ArrKey Try.prog 82 5 3 := ⟨Try.underlying82, by kernel_rfl, by kernel_rfl, by kernel_rfl⟩
theorem open_tri {H : Type} {enc : TypeId × Value → H} {P : Program} {k e : TypeId} {q : IntKind} {W : World} {b0 : Nat} {v : Value} {d : DataW H} {ps : List MemPlace} (A : Go.WideMaps.ArrKey P k e 3) (he : P.underlying e = some (.int q))
    (hval : Value.okWide P W .any b0 k v) (hd : DataW.Trod enc P W 0 (fun _ => true) true k v d ps) :
    ∃ a b c : Int, v = .agg #[.int q a, .int q b, .int q c] ∧ (Lit.int q a).wf = true ∧ (Lit.int q b).wf = true ∧ (Lit.int q c).wf = true := by
  obtain ⟨xs, rfl, hn⟩ := Go.WideMaps.okWide_arr A hval
  obtain ⟨l⟩ := xs
  obtain ⟨fuel, hf⟩ := hd
  match l, hn with
  | [x0, x1, x2], _ =>
    cases fuel with
    | zero => simp [DataW.trod] at hf
    | succ m =>
      rw [DataW.trod_step] at hf
      unfold DataW.trodStep at hf
      simp only [A.hu, Value.cells] at hf
      rw [if_pos (by rw [A.size]; rfl)] at hf
      obtain ⟨ys, hy, _⟩ := Option.map_eq_some_iff.1 hf
      rw [show List.range 3 = [0, 1, 2] from rfl] at hy
      simp only [List.mapM_cons, List.mapM_nil, bind, Option.bind_eq_some_iff, pure, A.one] at hy
      obtain ⟨y0, g0, _, ⟨y1, g1, _, ⟨y2, g2, _⟩, _⟩, _⟩ := hy
      obtain ⟨a, ea, _, wa⟩ := DataW.trod_int he g0
      obtain ⟨b, eb, _, wb⟩ := DataW.trod_int he g1
      obtain ⟨c, ec, _, wc⟩ := DataW.trod_int he g2
      simp at ea eb ec
      subst ea
      subst eb
      subst ec
      exact ⟨a, b, c, rfl, wa, wb, wc⟩

set_option maxRecDepth 100000 in
theorem PointBound_lifted (os : Os) (started : os.Started) (H : Type) (enc : TypeId × Value → H) :
    ReturnsInHanded {} Try.checked os 10 .any (Rows.pointBoundSpec.pre6 enc Try.prog Try.f10 Rows.pointBoundRow.domain false) (Rows.pointBoundSpec.post enc Try.prog Try.f10 false true false false) := by
  refine returnsInHanded_of_change (C := Try.checked) Try.own' started (by kernel_rfl) Try.func10
    (ChangeSpec.witness6 (enc := enc) (C := Try.checked) false ⟨#[], #[.agg #[.int .u8 0, .slice none 0 0], .slice none 0 0, .agg #[.int .u8 0, .int .u8 0, .int .u8 0]], []⟩ 8 (by kernel_rfl) (by kernel_rfl) (by kernel_rfl) (by kernel_rfl)) ?_
  intro W base args ds gs before hval0 hW hcnd _
  have hval : ∀ (j : Nat) t v, Try.f10.params[j]? = some t → args[j]? = some v → Value.okWide Try.prog W .any base t v := hval0
  have hW' := hW
  obtain ⟨p, q, hA0, hV, rfl, hfz, hnd⟩ := hW
  have hA : DataW.TrodAll enc Try.prog W 0 (fun _ => true) true Try.f10.params.toList args.toList ds p := hA0
  rw [Try.params10] at hA hval
  obtain ⟨v0, v1, v2, d0, d1, d2, p0, p1, p2, rfl, rfl, rfl, h0, h1, h2⟩ := trodAll_three hA
  obtain ⟨rfl, rfl⟩ := trodVars_none hV
  have h0k := h0
  have h1k := h1
  have h2k := h2
  obtain ⟨c0, c1, y0, y1, m, rfl, rfl, rfl, hy0, hy1⟩ := open_agg2 Try.underlying81 (by kernel_rfl) cells81' (hval 0 81 v0 rfl rfl) h0
  obtain ⟨a, e0, rfl, wa⟩ := DataW.trod_int Try.underlying5 hy0
  simp at e0
  subst e0
  obtain ⟨hk, rfl, hk2⟩ := u8_of wa
  obtain ⟨pp, l, c, us, rfl, hx⟩ := u16_of_trod hy1
  obtain ⟨q0, l1, c1, rfl⟩ := okWide_slice Try.underlying79 (hval 1 79 v1 rfl rfl)
  obtain ⟨fuel, hf⟩ := h1
  obtain ⟨q0', l1', c1', usc, e1, hxc⟩ := u16_of_trod (y := (d1, p1)) hf
  obtain ⟨rfl, rfl, rfl⟩ : q0 = q0' ∧ l1 = l1' ∧ c1 = c1' := by simpa using e1
  obtain ⟨t0, t1, t2, rfl, w0, w1, w2⟩ := open_tri ak82 Try.underlying5 (hval 2 82 v2 rfl rfl) h2
  obtain ⟨T0, rfl, hT0⟩ := u8_of w0
  obtain ⟨T1, rfl, hT1⟩ := u8_of w1
  obtain ⟨T2, rfl, hT2⟩ := u8_of w2
  clear hA0 hval0
  have hlt0 : ∀ x ∈ (([] : List MemPlace) ++ y1.2), x.block < W.heap.size := fun x hx => hW'.lt x (by simp at hx; simp [hx])
  have hlt1 : ∀ x ∈ p1, x.block < W.heap.size := fun x hx => hW'.lt x (by simp [hx])
  have hlt2 : ∀ x ∈ p2, x.block < W.heap.size := fun x hx => hW'.lt x (by simp [hx])
  refine (PointBound_any hk l c pp us l1 c1 q0 usc T0 T1 T2 W hk2 hT0 hT1 hT2 hx hxc).mono fun e W' ⟨he, hB⟩ => ?_
  subst he
  refine ⟨_, rfl, _, _, _, [], ([] ++ y1.2) ++ (p1 ++ p2), [], hW', ?_, ?_, rfl, hB.frame _, fun h => by cases h⟩
  · exact trodAll_mk1 (shut_bool Try.underlying4 true)
  · exact trodAll_mk3 (Below.trod Try.laidOut' (by kernel_rfl) (of_decide_eq_true (by kernel_rfl)) h0k hB hlt0) (Below.trod Try.laidOut' (by kernel_rfl) (of_decide_eq_true (by kernel_rfl)) h1k hB hlt1) (Below.trod Try.laidOut' (by kernel_rfl) (of_decide_eq_true (by kernel_rfl)) h2k hB hlt2)

theorem PointBound_holds : Rows.PointBoundSaid :=
  OpenClaim.holds_of_wide 10 Try.f10 rfl rfl rfl rfl rfl rfl rfl ⟨rfl, rfl, rfl, rfl, rfl⟩ rfl rfl rfl rfl rfl (by kernel_rfl) Try.func10 (by kernel_rfl)
    (of_decide_eq_true (by kernel_rfl)) (by unfold Func.isWrapper; first | (rw [if_pos (by decide +kernel)]; kernel_rfl) | (rw [if_neg (by decide +kernel)]; exact ⟨rfl, rfl⟩))
    (fun os started H enc _ => PointBound_lifted os started H enc)
end Go.Proofs.Ytjobbleabepaiaa
