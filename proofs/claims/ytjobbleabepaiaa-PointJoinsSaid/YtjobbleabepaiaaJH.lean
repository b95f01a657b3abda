/- PointJoins, whatever the designs. -/
import Derived.Test.YtjobbleabepaiaaJC
import Derived.Test.YtjobbleabepaiaaJD
import Derived.Test.YtjobbleabepaiaaJG
namespace Go.Proofs.Ytjobbleabepaiaa
open Go.RowKit Go.Shelf

set_option maxHeartbeats 1000000 in
theorem Reflect_err (h : Int) (p : Option Addr) (c : Nat) (xs : List Int) (w : World) (hr : Reads w (.slice p xs.length c) xs) (r : Int) (he : checkE h xs = r) (hne : r ≠ 0) :
    Calls Try.prog 46 #[.agg #[.int .i64 h, .slice p xs.length c]] w (ErrD r w) := by
  have Hc := fun o o2 => check_res h p c xs w o o2 hr r he
  have hne' : (r != 0) = true := by simpa using hne
  clear he hr hne
  go_enter Try.func46, Try.ntmps46
  go_wp2_with fail
  refine (Hc _ _).mono ?_
  rintro e w1 ⟨rfl, hb1⟩
  have q : ResBox w1 (w.heap.size + 1) := ((ResBox.new (w.alloc (.cells #[.int .i64 h, .slice p xs.length c] 24))).below hb1 (by simp)) |> (fun h => by simpa using h)
  have k0 := q.c0
  have k1 := q.c1
  have k2 := q.f 0
  have k3 := q.f 1
  have Hb := Lib.hid hb1
  clear hb1 q
  go_wp2_with fail
  refine bodyPost_ret (v := .tuple #[.agg #[.int .i64 0, .slice none 0 0], .int .i64 r]) ?_ rfl ⟨rfl, ?_⟩
  · simp [results, Try.results46, go_sem, k0, k1]
  · exact ((((Below.refl w.heap.size w).alloc (Nat.le_refl _) _).alloc (by simp) _).trans (Hb.out.mono (by omega))).setCell (by simp) _ |>.setCell (by simp) _
set_option maxHeartbeats 1000000 in
theorem Reflect_bad (n b off c : Nat) (xs : List Nat) (w : World) (hv : VAt w b off c n xs) (hK : 24 < reflHooks n) :
    Calls Try.prog 46 #[.agg #[.int .i64 (n : Int), .slice (some ⟨b, off, none⟩) xs.length c]] w (ErrD 8 w) := by
  have Hc := fun o o2 => check_res n (some ⟨b, off, none⟩) c (ints xs) w o o2 (by rw [ints_len]; exact hv.reads) 0 hv.ok.check
  simp only [ints_len] at Hc
  have n1 := hv.ok.n1
  have h2 : 2 < n := by
    unfold reflHooks at hK
    split at hK <;> omega
  have h24 : (24 : Int) < 2 * (n : Int) - 2 := by
    unfold reflHooks at hK
    rw [if_pos h2] at hK
    omega
  clear hv hK
  go_enter Try.func46, Try.ntmps46
  go_wp2_with fail
  refine (Hc _ _).mono ?_
  rintro e w1 ⟨rfl, hb1⟩
  obtain ⟨q, hD, hB⟩ := res_facts hb1
  have d0 := hD.c0
  have d1 := hD.c1
  have k0 := q.c0
  have k1 := q.c1
  have k2 := q.f 0
  have k3 := q.f 1
  have hql := q.lt
  have hdl := hD.lt
  have Hb := Lib.hid hB
  clear hb1 q hB hD
  go_wp2_with fail
  refine bodyPost_ret (v := .tuple #[.agg #[.int .i64 0, .slice none 0 0], .int .i64 8]) ?_ rfl ⟨rfl, ?_⟩
  · simp [results, Try.results46, go_sem, k0, k1, hql]
  · exact ((Hb.out.setCell (by simp) _).setCell (by simp) _).alloc (by simpa using Hb.out.size) _
theorem two_valid {gh fh : Int} {gp fp : Option Addr} {gc fc : Nat} {gx fx : List Int} (h : firstE [⟨gh, gp, gc, gx⟩, ⟨fh, fp, fc, fx⟩] = 0) : checkE gh gx = 0 ∧ checkE fh fx = 0 := by
  have e : firstE [⟨gh, gp, gc, gx⟩, ⟨fh, fp, fc, fx⟩] = if checkE gh gx = 0 then (if checkE fh fx = 0 then 0 else checkE fh fx) else checkE gh gx := rfl
  rw [e] at h
  by_cases h1 : checkE gh gx = 0
  · rw [if_pos h1] at h
    by_cases h2 : checkE fh fx = 0
    · exact ⟨h1, h2⟩
    · rw [if_neg h2] at h; exact absurd h h2
  · rw [if_neg h1] at h; exact absurd h h1
theorem joinB (gh fh : Int) (gp fp : Option Addr) (gc fc : Nat) (gx fx : List Int) (e0 x0 r0 : Int) (he0 : firstE [⟨gh, gp, gc, gx⟩, ⟨fh, fp, fc, fx⟩] = e0)
    (hx0 : x0 = if e0 = 0 ∧ gx.length ≠ fx.length then 4 else e0) (hr0 : r0 = if x0 = 0 ∧ 24 < gh + fh then 8 else x0) :
    ∃ (h : Int) (z : List Int), (r0 ≠ 0 → h = 0 ∧ z = []) ∧
      (∀ (W : World) (a1 : Option Addr) (k1 : Nat) (a2 : Option Addr) (k2 : Nat), Reads W (.slice a1 gx.length k1) gx → Reads W (.slice a2 fx.length k2) fx → Calls Try.prog 44 #[.agg #[.int .i64 gh, .slice a1 gx.length k1], .agg #[.int .i64 fh, .slice a2 fx.length k2]] W (Res h z r0 W)) ∧
      (r0 = 0 → ∀ (W : World) (a1 : Option Addr) (k1 : Nat) (a2 : Option Addr) (k2 : Nat), Reads W (.slice a1 gx.length k1) gx → Reads W (.slice a2 fx.length k2) fx → Calls Try.prog 48 #[.agg #[.int .i64 gh, .slice a1 gx.length k1], .agg #[.int .i64 fh, .slice a2 fx.length k2]] W (CopyN h z W)) := by
  by_cases h0 : e0 = 0
  · subst h0
    obtain ⟨c1, c2⟩ := two_valid he0
    obtain ⟨n, ys, rfl, rfl, yv⟩ := valid_of_check c1
    obtain ⟨m, zs, rfl, rfl, zv⟩ := valid_of_check c2
    simp only [ints_len] at hx0 ⊢
    by_cases hl : ys.length = zs.length
    · rw [if_neg (fun h => h.2 hl)] at hx0
      subst hx0
      by_cases hs : 24 < n + m
      · rw [if_pos ⟨rfl, by omega⟩] at hr0
        subst hr0
        refine ⟨0, [], fun _ => ⟨rfl, rfl⟩, fun W a1 k1 a2 k2 r1 r2 => ?_, fun h => by omega⟩
        obtain ⟨b1, o1, rfl, v1⟩ := vat_of_reads r1 yv
        obtain ⟨b2, o2, rfl, v2⟩ := vat_of_reads r2 zv
        exact (Beside_bad n b1 o1 k1 m b2 o2 k2 ys zs W v1 v2 8 (.inr ⟨hl, hs, rfl⟩)).mono fun _ _ h => Res.of_err h
      · rw [if_neg (fun h => by have := h.2; omega)] at hr0
        subst hr0
        refine ⟨((n + m : Nat) : Int), ints (painted (beG n ys zs) ys.length (n + m)), fun h => absurd rfl h, fun W a1 k1 a2 k2 r1 r2 => ?_, fun _ W a1 k1 a2 k2 r1 r2 => ?_⟩
        · obtain ⟨b1, o1, rfl, v1⟩ := vat_of_reads r1 yv
          obtain ⟨b2, o2, rfl, v2⟩ := vat_of_reads r2 zv
          exact (Beside_ok n b1 o1 k1 m b2 o2 k2 ys zs W v1 v2 hl.symm (by omega)).mono fun _ _ h => Res.of_ok (by rw [painted_len]; have := yv.l1; omega) h
        · obtain ⟨b1, o1, rfl, v1⟩ := vat_of_reads r1 yv
          obtain ⟨b2, o2, rfl, v2⟩ := vat_of_reads r2 zv
          exact refBeside_any n b1 o1 k1 m b2 o2 k2 ys zs W v1 v2 hl.symm (by omega)
    · rw [if_pos ⟨trivial, hl⟩] at hx0
      subst hx0
      rw [if_neg (fun h => by have := h.1; omega)] at hr0
      subst hr0
      refine ⟨0, [], fun _ => ⟨rfl, rfl⟩, fun W a1 k1 a2 k2 r1 r2 => ?_, fun h => by omega⟩
      obtain ⟨b1, o1, rfl, v1⟩ := vat_of_reads r1 yv
      obtain ⟨b2, o2, rfl, v2⟩ := vat_of_reads r2 zv
      exact (Beside_bad n b1 o1 k1 m b2 o2 k2 ys zs W v1 v2 4 (.inl ⟨hl, rfl⟩)).mono fun _ _ h => Res.of_err h
  · rw [if_neg (fun h => h0 h.1)] at hx0
    subst hx0
    rw [if_neg (fun h => h0 h.1)] at hr0
    subst hr0
    refine ⟨0, [], fun _ => ⟨rfl, rfl⟩, fun W a1 k1 a2 k2 r1 r2 => ?_, fun h => absurd h h0⟩
    exact (Beside_err ⟨gh, a1, k1, gx⟩ ⟨fh, a2, k2, fx⟩ W r1 r2 _ he0 h0).mono fun _ _ h => Res.of_err h
theorem Res.of_okc {n : Nat} {ys : List Nat} {w w' : World} {e : Ending} (h : OkC n ys w e w') : Res n (ints ys) 0 w e w' := by
  obtain ⟨p, c, rfl, hr, _, hb⟩ := h
  exact ⟨p, c, by rw [ints_len], by rw [ints_len]; exact hr, hb⟩
theorem joinA (gh fh : Int) (gp fp : Option Addr) (gc fc : Nat) (gx fx : List Int) (e0 x1 r1 : Int) (he0 : firstE [⟨gh, gp, gc, gx⟩, ⟨fh, fp, fc, fx⟩] = e0)
    (hx1 : x1 = if e0 = 0 ∧ gh ≠ fh then 4 else e0) (hr1 : r1 = if x1 = 0 ∧ 60 < gx.length + fx.length then 8 else x1) :
    ∃ (h : Int) (z : List Int), (r1 ≠ 0 → h = 0 ∧ z = []) ∧
      (∀ (W : World) (a1 : Option Addr) (k1 : Nat) (a2 : Option Addr) (k2 : Nat), Reads W (.slice a1 gx.length k1) gx → Reads W (.slice a2 fx.length k2) fx → Calls Try.prog 45 #[.agg #[.int .i64 gh, .slice a1 gx.length k1], .agg #[.int .i64 fh, .slice a2 fx.length k2]] W (Res h z r1 W)) ∧
      (r1 = 0 → ∀ (W : World) (a1 : Option Addr) (k1 : Nat) (a2 : Option Addr) (k2 : Nat), Reads W (.slice a1 gx.length k1) gx → Reads W (.slice a2 fx.length k2) fx → Calls Try.prog 49 #[.agg #[.int .i64 gh, .slice a1 gx.length k1], .agg #[.int .i64 fh, .slice a2 fx.length k2]] W (CopyN h z W)) := by
  by_cases h0 : e0 = 0
  · subst h0
    obtain ⟨c1, c2⟩ := two_valid he0
    obtain ⟨n, ys, rfl, rfl, yv⟩ := valid_of_check c1
    obtain ⟨m, zs, rfl, rfl, zv⟩ := valid_of_check c2
    simp only [ints_len] at hr1 ⊢
    by_cases hl : n = m
    · subst hl
      rw [if_neg (fun h => h.2 rfl)] at hx1
      subst hx1
      by_cases hs : 60 < ys.length + zs.length
      · rw [if_pos ⟨rfl, hs⟩] at hr1
        subst hr1
        refine ⟨0, [], fun _ => ⟨rfl, rfl⟩, fun W a1 k1 a2 k2 r1 r2 => ?_, fun h => by omega⟩
        obtain ⟨b1, o1, rfl, v1⟩ := vat_of_reads r1 yv
        obtain ⟨b2, o2, rfl, v2⟩ := vat_of_reads r2 zv
        exact (Above_bad n b1 o1 k1 n b2 o2 k2 ys zs W v1 v2 8 (.inr ⟨rfl, hs, rfl⟩)).mono fun _ _ h => Res.of_err h
      · rw [if_neg (fun h => hs h.2)] at hr1
        subst hr1
        refine ⟨(n : Int), ints (ys ++ zs), fun h => absurd rfl h, fun W a1 k1 a2 k2 r1 r2 => ?_, fun _ W a1 k1 a2 k2 r1 r2 => ?_⟩
        · obtain ⟨b1, o1, rfl, v1⟩ := vat_of_reads r1 yv
          obtain ⟨b2, o2, rfl, v2⟩ := vat_of_reads r2 zv
          exact (Above_ok n b1 o1 k1 b2 o2 k2 ys zs W v1 v2 (by omega)).mono fun _ _ h => Res.of_okc h
        · obtain ⟨b1, o1, rfl, v1⟩ := vat_of_reads r1 yv
          obtain ⟨b2, o2, rfl, v2⟩ := vat_of_reads r2 zv
          exact refAbove_any n b1 o1 k1 b2 o2 k2 ys zs W v1 v2 (by omega)
    · rw [if_pos ⟨rfl, by omega⟩] at hx1
      subst hx1
      rw [if_neg (fun h => by have := h.1; omega)] at hr1
      subst hr1
      refine ⟨0, [], fun _ => ⟨rfl, rfl⟩, fun W a1 k1 a2 k2 r1 r2 => ?_, fun h => by omega⟩
      obtain ⟨b1, o1, rfl, v1⟩ := vat_of_reads r1 yv
      obtain ⟨b2, o2, rfl, v2⟩ := vat_of_reads r2 zv
      exact (Above_bad n b1 o1 k1 m b2 o2 k2 ys zs W v1 v2 4 (.inl ⟨hl, rfl⟩)).mono fun _ _ h => Res.of_err h
  · rw [if_neg (fun h => h0 h.1)] at hx1
    subst hx1
    rw [if_neg (fun h => h0 h.1)] at hr1
    subst hr1
    refine ⟨0, [], fun _ => ⟨rfl, rfl⟩, fun W a1 k1 a2 k2 r1 r2 => ?_, fun h => absurd h h0⟩
    exact (Above_err ⟨gh, a1, k1, gx⟩ ⟨fh, a2, k2, fx⟩ W r1 r2 _ he0 h0).mono fun _ _ h => Res.of_err h
theorem refl_max (n : Nat) (hn : n ≤ 24) (n0 : 1 ≤ n) : (24 < (n : Int) + max 0 ((n : Int) - 2)) ↔ 24 < reflHooks n := by
  unfold reflHooks
  by_cases h : 2 < n
  · rw [if_pos h, Int.max_eq_right (by omega)]; omega
  · rw [if_neg h, Int.max_eq_left (by omega)]; omega
theorem joinR (gh : Int) (gx : List Int) (e2 r2 : Int) (he2 : checkE gh gx = e2) (hr2 : r2 = if e2 = 0 ∧ 24 < gh + max 0 (gh - 2) then 8 else e2) :
    ∃ (h : Int) (z : List Int), (r2 ≠ 0 → h = 0 ∧ z = []) ∧
      (∀ (W : World) (a1 : Option Addr) (k1 : Nat), Reads W (.slice a1 gx.length k1) gx → Calls Try.prog 46 #[.agg #[.int .i64 gh, .slice a1 gx.length k1]] W (Res h z r2 W)) ∧
      (r2 = 0 → ∀ (W : World) (a1 : Option Addr) (k1 : Nat), Reads W (.slice a1 gx.length k1) gx → Calls Try.prog 50 #[.agg #[.int .i64 gh, .slice a1 gx.length k1]] W (CopyN h z W)) := by
  by_cases h0 : e2 = 0
  · subst h0
    obtain ⟨n, ys, rfl, rfl, yv⟩ := valid_of_check he2
    simp only [ints_len]
    have hm := refl_max n yv.n1 yv.n0
    by_cases hs : 24 < reflHooks n
    · rw [if_pos ⟨rfl, hm.2 hs⟩] at hr2
      subst hr2
      refine ⟨0, [], fun _ => ⟨rfl, rfl⟩, fun W a1 k1 r1 => ?_, fun h => by omega⟩
      obtain ⟨b1, o1, rfl, v1⟩ := vat_of_reads r1 yv
      exact (Reflect_bad n b1 o1 k1 ys W v1 hs).mono fun _ _ h => Res.of_err h
    · rw [if_neg (fun h => hs (hm.1 h.2))] at hr2
      subst hr2
      refine ⟨((reflHooks n : Nat) : Int), ints (painted (reflG ys n) ys.length (reflHooks n)), fun h => absurd rfl h, fun W a1 k1 r1 => ?_, fun _ W a1 k1 r1 => ?_⟩
      · obtain ⟨b1, o1, rfl, v1⟩ := vat_of_reads r1 yv
        exact (Reflect_ok n b1 o1 k1 ys W v1 (by omega)).mono fun _ _ h => Res.of_ok (by rw [painted_len]; have := yv.l1; omega) h
      · obtain ⟨b1, o1, rfl, v1⟩ := vat_of_reads r1 yv
        exact refReflect_any n b1 o1 k1 ys W v1 (by omega)
  · rw [if_neg (fun h => h0 h.1)] at hr2
    subst hr2
    refine ⟨0, [], fun _ => ⟨rfl, rfl⟩, fun W a1 k1 r1 => ?_, fun h => absurd h h0⟩
    exact (Reflect_err gh a1 k1 gx W r1 _ he2 h0).mono fun _ _ h => Res.of_err h
theorem bounds_of {gh : Int} {gx : List Int} (h : checkE gh gx = 0) : 1 ≤ gh ∧ gh ≤ 24 := by
  obtain ⟨n, ys, rfl, _, yv⟩ := valid_of_check h
  have := yv.n0
  have := yv.n1
  omega
theorem PointJoins_any (gh fh : Int) (gp fp : Option Addr) (gc fc : Nat) (gx fx : List Int) (w : World)
    (lg : gx.length ≤ 70) (lf : fx.length ≤ 70) (hrg : Reads w (.slice gp gx.length gc) gx) (hrf : Reads w (.slice fp fx.length fc) fx) :
    Calls Try.prog 7 #[.agg #[.int .i64 gh, .slice gp gx.length gc], .agg #[.int .i64 fh, .slice fp fx.length fc]] w fun e w' => e = .returned (.bool true) ∧ Below w.heap.size w w' := by
  obtain ⟨e0, he0⟩ : ∃ e0, firstE [⟨gh, gp, gc, gx⟩, ⟨fh, fp, fc, fx⟩] = e0 := ⟨_, rfl⟩
  obtain ⟨e2, he2⟩ : ∃ e2, checkE gh gx = e2 := ⟨_, rfl⟩
  have he2' : firstE [⟨gh, gp, gc, gx⟩] = e2 := by
    show (if checkE gh gx = 0 then (0 : Int) else checkE gh gx) = e2
    rw [he2]
    by_cases h : e2 = 0
    · rw [if_pos h, h]
    · rw [if_neg h]
  obtain ⟨h0, z0, u0, cB, gB⟩ := joinB gh fh gp fp gc fc gx fx e0 _ _ he0 rfl rfl
  obtain ⟨h1, z1, u1, cA, gA⟩ := joinA gh fh gp fp gc fc gx fx e0 _ _ he0 rfl rfl
  obtain ⟨h2, z2, u2, cR, gR⟩ := joinR gh gx e2 _ he2 rfl
  exact PointJoins_walk gh fh gp fp gc fc gx fx w lg lf hrg hrf e0 e2 he0 he2' (fun h => by
      subst h
      obtain ⟨q1, q2⟩ := two_valid he0
      obtain ⟨s1, s2⟩ := bounds_of q1
      obtain ⟨s3, s4⟩ := bounds_of q2
      exact ⟨s1, s2, s3, s4⟩) (fun h => by subst h; exact bounds_of he2) _ _ _ _ _ rfl rfl rfl rfl rfl h0 h1 h2 z0 z1 z2 u0 u1 u2 cB cA cR gB gA gR
set_option maxRecDepth 100000 in
set_option maxHeartbeats 4000000 in
theorem PointJoins_large (gh fh : Int) (gp fp : Option Addr) (gc fc gl fl : Nat) (w : World) (hlg : 70 < gl ∨ 70 < fl) :
    Calls Try.prog 7 #[.agg #[.int .i64 gh, .slice gp gl gc], .agg #[.int .i64 fh, .slice fp fl fc]] w fun e w' => e = .returned (.bool true) ∧ Below w.heap.size w w' := by
  have HLs := Lib.hid (joins_ls gh fh gp fp gc fc gl fl w)
  have hj : ∃ j, j < [gl, fl].length ∧ 70 < nthN [gl, fl] j ∧ ∀ i, i < j → nthN [gl, fl] i ≤ 70 := by
    by_cases h1 : 70 < gl
    · exact ⟨0, by simp, h1, fun i hi => by omega⟩
    · exact ⟨1, by simp, show 70 < fl by omega, fun i hi => by obtain rfl : i = 0 := by omega
                                                               show gl ≤ 70; omega⟩
  have HJ := Lib.hid hj
  have HB := Lib.hid (show Below w.heap.size w (joins_w gh fh gp fp gc fc gl fl w) from by unfold joins_w; exact ((((Below.refl _ w).alloc (Nat.le_refl _) _).alloc (by simp) _).alloc (by simp; omega) _))
  clear hlg hj
  go_enter Try.func7, Try.ntmps7
  go_wp2_with fail
  obtain ⟨j, h1, h2, h3⟩ := HJ.out
  refine (large_yes (w.heap.size + 1 + 1) 2 j [gl, fl] _ (by simp) HLs.out h1 h2 h3).mono ?_
  rintro e w1 ⟨rfl, rfl⟩
  clear HJ HLs h1 h2 h3
  obtain ⟨W1, hW1⟩ : ∃ W1, joins_w gh fh gp fp gc fc gl fl w = W1 := ⟨_, rfl⟩
  rw [hW1] at HB ⊢
  clear hW1
  go_wp2_with fail
  refine (known_any _).mono ?_
  rintro e wz ⟨rfl, hbz⟩
  have HZ := Lib.hid (HB.out.trans (hbz.mono HB.out.size))
  clear hbz
  go_wp2_with fail
  go_ret
  exact ⟨rfl, HZ.out⟩
end Go.Proofs.Ytjobbleabepaiaa
