/- PointBinds: for every design, every list of fixed points and every bound, what Bind returns, or its error, is what the document says: all rows are tried for a design of at most 9 hooks and 6 rows; nothing is changed in the arguments; elsewhere the law's fixed examples come out. No condition. -/
import Derived.Test.YtjobbleabepaiaaLeasts
import Derived.Test.YtjobbleabepaiaaZF
namespace Go.Proofs.Ytjobbleabepaiaa
open Go.ChangeShapes Go.WideShapes Go.ChangeAt Go.RowKit Go.Joins

theorem says_err (h : Int) (xs fs : List Int) (m : Int) (he : checkE h xs ≠ 0) : BindSays h xs fs m (checkE h xs) :=
  fun W p c q fc hx _ => Bind_err h p c xs (.slice q fs.length fc) m W hx _ rfl he
theorem says_form {n : Nat} {ys : List Nat} (hv : Valid n ys) (fs : List Int) (m : Int) (hl : fs.length ≠ ys.length) : BindSays n (ints ys) fs m 4 := by
  intro W p c q fc hx _
  rw [ints_len] at hx ⊢
  obtain ⟨b, off, rfl, hva⟩ := vat_of_reads hx hv
  exact Bind_form n b off c fs.length fc q m ys W hva hl
theorem reads_at {W : World} {q : Option Addr} {fc : Nat} {fs : List Int} (h : Reads W (.slice q fs.length fc) fs) (h0 : 0 < fs.length) : ∃ fb fo, q = some ⟨fb, fo, none⟩ ∧ fb < W.heap.size ∧ IntsAt W fb fo fs := by
  obtain ⟨p, c, e, _, hx⟩ := h
  obtain ⟨b, off, rfl, hb, hi⟩ := hx h0
  simp at e
  exact ⟨b, off, e.1, hb, hi⟩
theorem says_arg {n : Nat} {ys : List Nat} (hv : Valid n ys) (fs : List Int) (m : Int) (hl : fs.length = ys.length) (hro : rowsOk n fs = false) : BindSays n (ints ys) fs m 2 := by
  intro W p c q fc hx hf
  rw [ints_len] at hx ⊢
  obtain ⟨b, off, rfl, hva⟩ := vat_of_reads hx hv
  obtain ⟨fb, fo, rfl, hfb, hfi⟩ := reads_at hf (by have := hv.l0; omega)
  have := Bind_arg n b off c fb fo fc m ys fs W hva hl hf (fun W' hB => by
    have := areRows_any n fb fo fc fs W' hv.n1 (by have := hv.l1; omega) (hfi.below hB hfb)
    rw [hro, hl] at this
    exact this)
  rw [hl]
  exact this
theorem says_range {n : Nat} {ys : List Nat} (hv : Valid n ys) (fs : List Int) (m : Int) (hl : fs.length = ys.length) (hro : rowsOk n fs = true) (hm : m < 1 ∨ 24 < m) : BindSays n (ints ys) fs m 3 := by
  intro W p c q fc hx hf
  rw [ints_len] at hx ⊢
  obtain ⟨b, off, rfl, hva⟩ := vat_of_reads hx hv
  obtain ⟨fb, fo, rfl, hfb, hfi⟩ := reads_at hf (by have := hv.l0; omega)
  have := Bind_rng n b off c fb fo fc m ys W hva (fun W' hB => by
    have := areRows_any n fb fo fc fs W' hv.n1 (by have := hv.l1; omega) (hfi.below hB hfb)
    rw [hro, hl] at this
    exact this) hm
  rw [hl]
  exact this
theorem nats_of {n : Nat} {fs : List Int} (h : rowsOk n fs = true) : ∃ gs : List Nat, fs = ints gs ∧ ∀ i, nthN gs i < 2 ^ n := by
  refine ⟨fs.map Int.toNat, ?_, fun i => ?_⟩
  · unfold ints
    rw [List.map_map]
    conv => lhs; rw [← List.map_id fs]
    apply List.map_congr_left
    intro x hx
    unfold rowsOk at h
    rw [List.all_eq_true] at h
    have := h x hx
    simp at this
    simp; omega
  · unfold nthN
    by_cases hi : i < fs.length
    · have := rowsOk_all h i hi
      rw [nthI_get fs i hi] at this
      simp [hi]
      have e : (2 : Int) ^ n = ((2 ^ n : Nat) : Int) := (Int.natCast_pow 2 n).symm
      rw [e] at this
      omega
    · rw [List.getElem?_eq_none (by simp; omega)]; exact Nat.pow_pos (by decide)
theorem nats_at {W : World} {b off : Nat} {gs : List Nat} (h : IntsAt W b off (ints gs)) : NatsAt W b off gs := by
  intro i hi
  have := h i (by rw [ints_len]; exact hi)
  rw [this, nthI_get _ _ (by rw [ints_len]; exact hi), nthN_get _ _ hi]
  simp [ints]
theorem says_nev {n : Nat} {ys gs : List Nat} (hv : Valid n ys) (m : Nat) (hl : gs.length = ys.length) (hg : ∀ i, nthN gs i < 2 ^ n) (hm1 : 1 ≤ m) (hm : m ≤ 24) (k0 : Nat) (hk0 : k0 < ys.length) (hall : ∀ i, i < k0 → bindN n (nthN ys i) (nthN gs i) m < never) (hnev : ¬ bindN n (nthN ys k0) (nthN gs k0) m < never) : BindSays n (ints ys) (ints gs) m 9 := by
  intro W p c q fc hx hf
  rw [ints_len] at hx hf ⊢
  rw [ints_len]
  obtain ⟨b, off, rfl, hva⟩ := vat_of_reads hx hv
  obtain ⟨fb, fo, rfl, hfb, hfi⟩ := reads_at (fs := ints gs) (by rw [ints_len]; exact hf) (by rw [ints_len]; have := hv.l0; omega)
  have hle := bindN_le n (nthN ys k0) (nthN gs k0) m
  have := Bind_nev k0 n b off c fb fo fc m ys gs W hva hl (nats_at hfi) hfb hg hm1 hm hk0 hall (by omega)
  rw [hl]
  exact this
theorem gives_good {n : Nat} {ys gs : List Nat} (hv : Valid n ys) (m : Nat) (hl : gs.length = ys.length) (hg : ∀ i, nthN gs i < 2 ^ n) (hm1 : 1 ≤ m) (hm : m ≤ 24) (hall : ∀ i, i < ys.length → bindN n (nthN ys i) (nthN gs i) m < never) :
    BindGives n (ints ys) (ints gs) m (ints (bindRows n m ys gs (ints ys).length)) (bindSum n m ys gs (ints ys).length) := by
  intro W p c q fc hx hf
  rw [ints_len] at hx hf ⊢
  rw [ints_len]
  obtain ⟨b, off, rfl, hva⟩ := vat_of_reads hx hv
  obtain ⟨fb, fo, rfl, hfb, hfi⟩ := reads_at (fs := ints gs) (by rw [ints_len]; exact hf) (by rw [ints_len]; have := hv.l0; omega)
  rw [hl]
  refine (Bind_ok n b off c fb fo fc m ys gs W hva hl (nats_at hfi) hfb hg hm1 hm hall).mono ?_
  rintro e w' ⟨v, rfl, hrow, hb⟩
  have hlen : (ints (bindRows n m ys gs ys.length)).length = ys.length := by rw [ints_len, bindRows_len]
  have hmap : (bindRows n m ys gs ys.length).map natV = (ints (bindRows n m ys gs ys.length)).map (Value.int .i64) := by simp [ints, natV]
  rw [hmap] at hrow
  obtain ⟨p2, c2, rfl, hrd, _⟩ := CopyOf.form (xs := ints (bindRows n m ys gs ys.length)) (by rw [hlen]; have := hv.l1; omega) (by rw [hlen]; exact hrow)
  rw [hlen] at hrd
  refine ⟨p2, c2, ?_, hrd, hb⟩
  rw [hlen]
theorem least_bad {P : Nat → Prop} {N : Nat} (h : ¬ ∀ i, i < N → P i) : ∃ k, k < N ∧ (∀ i, i < k → P i) ∧ ¬ P k := by
  induction N with
  | zero => exact absurd (fun i hi => by omega) h
  | succ N ih =>
    by_cases h2 : ∀ i, i < N → P i
    · refine ⟨N, by omega, h2, fun hP => h fun i hi => ?_⟩
      by_cases e : i = N
      · rw [e]; exact hP
      · exact h2 i (by omega)
    · obtain ⟨k, hk, a, b⟩ := ih h2
      exact ⟨k, by omega, a, b⟩
/-- PointBinds, whatever its arguments -/
theorem PointBinds_any (h : Int) (p : Option Addr) (c : Nat) (q : Option Addr) (fc : Nat) (xs fs : List Int) (m : Int) (w : World) (hx : xs.length ≤ 70) (hf : fs.length ≤ 70) (hr : Reads w (.slice p xs.length c) xs) (hfr : Reads w (.slice q fs.length fc) fs) : pbCalls h p xs.length c q fs.length fc m w := by
  by_cases hck : checkE h xs = 0
  · obtain ⟨n, ys, rfl, rfl, hv⟩ := valid_of_check hck
    have l0 := hv.l0
    have l1 := hv.l1
    have hil := ints_len ys
    by_cases hl : fs.length = ys.length
    · obtain ⟨fb, fo, rfl, hfb, hfi⟩ := reads_at hfr (by omega)
      cases hro : rowsOk n fs with
      | false => exact PointBinds_arg n p c fb fo fc (ints ys) fs m w hv.n1 hx hf (by omega) hck hr hfb hfi hro (says_arg hv fs m hl hro)
      | true =>
        by_cases hm : m < 1 ∨ 24 < m
        · exact PointBinds_range n p c fb fo fc (ints ys) fs m w hv.n1 hx hf (by omega) hck hr hfb hfi hro hm (says_range hv fs m hl hro hm)
        · by_cases hbig : 9 < n ∨ 6 < (ints ys).length
          · exact PointBinds_big n p c fb fo fc (ints ys) fs m w hv.n1 hx hf (by omega) hck hr hfb hfi hro (by omega) hbig
          · obtain ⟨gs, rfl, hg⟩ := nats_of hro
            have hgl := ints_len gs
            obtain ⟨mn, rfl⟩ := Int.eq_ofNat_of_zero_le (show 0 ≤ m by omega)
            obtain ⟨pb, po, rfl, hva⟩ := vat_of_reads (by rw [← hil]; exact hr) hv
            by_cases hall : ∀ i, i < ys.length → bindN n (nthN ys i) (nthN gs i) mn < never
            · exact PointBinds_good n pb po c fb fo fc (ints ys) (ints gs) ys gs mn w rfl rfl hv hg hv.n1 hx hf (by omega) hck hr hva.lt hva.at' hfb hfi (nats_at hfi) hro (by omega) (by omega) (by omega) (by omega) _ _ rfl rfl hall (gives_good hv mn (by omega) hg (by omega) (by omega) hall)
            · obtain ⟨k0, hk0, ha, hb⟩ := least_bad hall
              exact PointBinds_nev n pb po c fb fo fc (ints ys) (ints gs) ys gs mn w rfl rfl hv hg hv.n1 hx hf (by omega) hck hr hva.lt hva.at' hfb hfi (nats_at hfi) hro (by omega) (by omega) (by omega) (by omega) k0 (by omega) ha hb (says_nev hv mn (by omega) hg (by omega) (by omega) k0 hk0 ha hb)
    · exact PointBinds_form n p c q fc (ints ys) fs m 4 w hx hf hr hfr hck (by omega) rfl (by decide) (says_form hv fs m hl)
  · exact PointBinds_check h p c q fc xs fs m _ w hx hf hr hfr rfl hck (says_err h xs fs m hck)

set_option maxRecDepth 100000 in
theorem PointBinds_lifted (os : Os) (started : os.Started) (H : Type) (enc : TypeId × Value → H) :
    ReturnsInHanded {} Try.checked os 4 .any (Rows.pointBindsSpec.pre6 enc Try.prog Try.f4 Rows.pointBindsRow.domain false) (Rows.pointBindsSpec.post enc Try.prog Try.f4 false true false false) := by
  refine returnsInHanded_of_change (C := Try.checked) Try.own' started (by kernel_rfl) Try.func4
    (ChangeSpec.witness6 (enc := enc) (C := Try.checked) false ⟨#[], #[.agg #[.int .i64 0, .slice none 0 0], .slice none 0 0, .int .i64 0], []⟩ 8 (by kernel_rfl) (by kernel_rfl) (by kernel_rfl) (by kernel_rfl)) ?_
  intro W base args ds gs before hval0 hW hcnd _
  have hval : ∀ (j : Nat) t v, Try.f4.params[j]? = some t → args[j]? = some v → Value.okWide Try.prog W .any base t v := hval0
  have hW' := hW
  obtain ⟨p, q, hA0, hV, rfl, hfz, hnd⟩ := hW
  have hA : DataW.TrodAll enc Try.prog W 0 (fun _ => true) true Try.f4.params.toList args.toList ds p := hA0
  rw [Try.params4] at hA hval
  obtain ⟨v0, v1, v2, d0, d1, d2, p0, p1, p2, rfl, rfl, rfl, h0, h1, h2⟩ := trodAll_three hA
  obtain ⟨rfl, rfl⟩ := trodVars_none hV
  have h0k := h0
  have h1k := h1
  obtain ⟨c0, c1, y0, y1, m, rfl, rfl, rfl, hy0, hy1⟩ := open_agg2 Try.underlying24 (by kernel_rfl) cells24' (hval 0 24 v0 rfl rfl) h0
  obtain ⟨a, e0, rfl, wa⟩ := DataW.trod_int Try.underlying3 hy0
  simp at e0
  subst e0
  obtain ⟨bd, rfl, rfl, rfl, wb⟩ := open_int Try.underlying3 (hval 2 3 v2 rfl rfl) h2
  obtain ⟨pp, l, c, rfl, hx⟩ := reads_of_trod hy1
  obtain ⟨q0, l1, c1, rfl⟩ := okWide_slice Try.underlying22 (hval 1 22 v1 rfl rfl)
  obtain ⟨fuel, hf⟩ := h1
  obtain ⟨q0', l1', c1', e1, hxf⟩ := reads_of_trod (y := (d1, p1)) hf
  obtain ⟨rfl, rfl, rfl⟩ : q0 = q0' ∧ l1 = l1' ∧ c1 = c1' := by simpa using e1
  clear hA0 hval0
  have hlt0 : ∀ x ∈ (([] : List MemPlace) ++ y1.2), x.block < W.heap.size := fun x hx => hW'.lt x (by simp at hx; simp [hx])
  have hlt1 : ∀ x ∈ p1, x.block < W.heap.size := fun x hx => hW'.lt x (by simp [hx])
  have walk : Calls Try.prog 4 #[.agg #[.int .i64 a, .slice pp l c], .slice q0 l1 c1, .int .i64 bd] W fun e w' => e = .returned (.bool true) ∧ Below W.heap.size W w' := by
    by_cases hl : 70 < l
    · exact PointBinds_large a pp l c q0 l1 c1 bd W hl
    · by_cases hl1 : 70 < l1
      · exact PointBinds_fixed a pp l c q0 l1 c1 bd W (by omega) hl1
      · obtain ⟨xs, rfl, hr⟩ := hx (by omega)
        obtain ⟨fs, rfl, hr1⟩ := hxf (by omega)
        exact PointBinds_any a pp c q0 c1 xs fs bd W (by omega) (by omega) hr hr1
  refine walk.mono fun e W' ⟨he, hB⟩ => ?_
  subst he
  refine ⟨_, rfl, _, _, _, [], ([] ++ y1.2) ++ (p1 ++ []), [], hW', ?_, ?_, rfl, hB.frame _, fun h => by cases h⟩
  · exact trodAll_mk1 (shut_bool Try.underlying4 true)
  · exact trodAll_mk3 (Below.trod Try.laidOut' (by kernel_rfl) (of_decide_eq_true (by kernel_rfl)) h0k hB hlt0) (Below.trod Try.laidOut' (by kernel_rfl) (of_decide_eq_true (by kernel_rfl)) h1k hB hlt1) (shut_int Try.underlying3 wb)

theorem PointBinds_holds : Rows.PointBindsSaid :=
  OpenClaim.holds_of_wide 4 Try.f4 rfl rfl rfl rfl rfl rfl rfl ⟨rfl, rfl, rfl, rfl, rfl⟩ rfl rfl rfl rfl rfl (by kernel_rfl) Try.func4 (by kernel_rfl)
    (of_decide_eq_true (by kernel_rfl)) (by unfold Func.isWrapper; first | (rw [if_pos (by decide +kernel)]; kernel_rfl) | (rw [if_neg (by decide +kernel)]; exact ⟨rfl, rfl⟩))
    (fun os started H enc _ => PointBinds_lifted os started H enc)
end Go.Proofs.Ytjobbleabepaiaa
