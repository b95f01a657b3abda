/- PointSides: the walk. -/
import Derived.Test.YtjobbleabepaiaaSC
import Derived.Deep.QuietTactic
import Derived.BigQuiet
namespace Go.Proofs.Ytjobbleabepaiaa
open Go.RowKit Go.Shelf

set_option maxRecDepth 100000 in
set_option maxHeartbeats 8000000 in
theorem PointSides_any (hk l c B0 B1 M0 : Nat) (p : Option Addr) (us : List Nat) (w : World) (hk2 : hk < 256) (hb0 : B0 < 256) (hb1 : B1 < 256) (hm0 : M0 < 256) (hu : U16At w (.slice p l c) us) :
    Calls Try.prog 12 #[.agg #[.int .u8 (hk : Int), .slice p l c], .agg #[.int .u8 (B0 : Int), .int .u8 (B1 : Int)], .int .u8 (M0 : Int)] w fun e w' => e = .returned (.bool true) ∧ Below w.heap.size w w' := by
  obtain ⟨n, W1, hW1, hD⟩ := sides_boxes w hk l c B0 B1 p us hk2 hu
  have HW1 := Lib.hid hW1
  have HD := Lib.hid hD
  clear hW1 hD hu
  go_enter Try.func12, Try.ntmps12
  go_wp2_with fail
  rw [HW1.out]
  refine HD.out.mono ?_
  rintro e w2 ⟨b, off, cd, ys, rfl, HS, HV, ⟨l0, l1, n0, n1⟩, hz2, q1, q2⟩
  clear HD HW1
  obtain ⟨P, hPe⟩ : ∃ P, P = B0 % ys.length := ⟨_, rfl⟩
  obtain ⟨Q, hQe⟩ : ∃ Q, Q = B1 % n := ⟨_, rfl⟩
  obtain ⟨M, hMe⟩ : ∃ M, M = M0 % 30 := ⟨_, rfl⟩
  have hP : P < ys.length := by rw [hPe]; exact Nat.mod_lt _ l0
  have hQ : Q < n := by rw [hQe]; exact Nat.mod_lt _ n0
  have hM : M < 30 := by rw [hMe]; exact Nat.mod_lt _ (by omega)
  have e1 : (B0 : Int).tmod (ys.length : Int) = (P : Int) := by rw [hPe, tmod_eq _ _ (by omega), Int.toNat_natCast]
  have e2 : (B1 : Int).tmod (n : Int) = (Q : Int) := by rw [hQe, tmod_eq _ _ (by omega), Int.toNat_natCast]
  have e3 : (M0 : Int) % 30 = (M : Int) := by rw [hMe]; omega
  have E1 := Lib.hid (And.intro e1 (And.intro e2 e3))
  obtain ⟨bs, ms, fs, ss, g0, g1, g2, g3, L, hF⟩ := SdF.of HV.out hP hQ (show M ≤ 1000 by omega)
  have HF := Lib.hid hF
  clear hF hPe hQe hMe e1 e2 e3
  have a0 := HS.out.get (x := ⟨w2.heap.size, n, some ⟨b, off, none⟩, ys.length, cd, ints ys⟩) (by simp)
  obtain ⟨W3, hW3⟩ : ∃ W3, w2.alloc (.cells #[.int .i64 (n : Int), .slice (some ⟨b, off, none⟩) ys.length cd] 24) = W3 := ⟨_, rfl⟩
  have hB3 : Below w2.heap.size w2 W3 := by rw [← hW3]; exact below1 _ _
  have q1' := (hB3.cell (p := ⟨w.heap.size + 1, 0, none⟩) hz2).trans q1
  have q2' := (hB3.cell (p := ⟨w.heap.size + 1, 1, none⟩) hz2).trans q2
  have hz3 : w.heap.size + 1 < W3.heap.size := Nat.lt_of_lt_of_le hz2 hB3.size
  obtain ⟨BD, hBD⟩ : ∃ BD, w2.heap.size = BD := ⟨_, rfl⟩
  rw [hW3, hBD] at HS
  rw [hW3, hBD] at a0
  have HC := Lib.hid (fun (W : World) (h : Below W3.heap.size W3 W) => (⟨(h.cell (p := ⟨w.heap.size + 1, 0, none⟩) hz3).trans q1', (h.cell (p := ⟨w.heap.size + 1, 1, none⟩) hz3).trans q2'⟩ : W.cell? ⟨w.heap.size + 1, 0, none⟩ = some (.int .u8 (B0 : Int)) ∧ W.cell? ⟨w.heap.size + 1, 1, none⟩ = some (.int .u8 (B1 : Int))))
  have HS1 := Lib.hid (SdS.mk HS.out (Below.refl W3.heap.size W3))
  clear q1 q2 q1' q2' hB3 hz2
  go_wp2_with fail
  clear hW3 hBD
  refine (HS1.out.own (B := BD) (by simp) HF.out.v).mono ?_
  rintro e w4 ⟨bo, oo, co, rfl, vo, So⟩
  have HSo := Lib.hid So
  clear a0 So HS1
  go_wp2_with fail
  refine (HSo.out.okd (HF.out.K _ _ _ _ vo) (by have := HF.out.lb; omega)).mono ?_
  rintro e W4 ⟨Rb, rfl, _, S5⟩
  obtain ⟨BB, hBB⟩ : ∃ x, W4.heap.size = x := ⟨_, rfl⟩
  obtain ⟨W4b, hW4b⟩ : ∃ x, W4.alloc (.cells #[.int .i64 (n : Int), .slice (some ⟨Rb, 0, none⟩) bs.length bs.length] 24) = x := ⟨_, rfl⟩
  rw [hBB, hW4b] at S5
  have a0 := S5.s.get (x := ⟨BD, n, some ⟨b, off, none⟩, ys.length, cd, ints ys⟩) (by simp)
  have HBB := Lib.hid S5
  clear S5 HSo vo
  go_wp2_with fail
  clear hBB hW4b
  refine (HBB.out.own (B := BD) (by simp) HF.out.v).mono ?_
  rintro e w5 ⟨bo, oo, co, rfl, vo, So⟩
  have HSo := Lib.hid So
  clear a0 So HBB
  go_wp2_with fail
  refine (HSo.out.okd (HF.out.Mi _ _ _ _ vo) (by have := HF.out.lm; omega)).mono ?_
  rintro e W5 ⟨Rm, rfl, _, S5⟩
  obtain ⟨BM, hBM⟩ : ∃ x, W5.heap.size = x := ⟨_, rfl⟩
  obtain ⟨W5b, hW5b⟩ : ∃ x, W5.alloc (.cells #[.int .i64 (n : Int), .slice (some ⟨Rm, 0, none⟩) ms.length ms.length] 24) = x := ⟨_, rfl⟩
  rw [hBM, hW5b] at S5
  have a0 := S5.s.get (x := ⟨BD, n, some ⟨b, off, none⟩, ys.length, cd, ints ys⟩) (by simp)
  have HBM := Lib.hid S5
  clear S5 HSo vo
  go_wp2_with fail
  clear hBM hW5b
  refine (HBM.out.own (B := BD) (by simp) HF.out.v).mono ?_
  rintro e w6 ⟨bo, oo, co, rfl, vo, So⟩
  have HSo := Lib.hid So
  clear a0 So HBM
  go_wp2_with fail
  refine (HSo.out.okd (HF.out.F _ _ _ _ vo) (by have := HF.out.lf; omega)).mono ?_
  rintro e W6 ⟨Rf, rfl, _, S5⟩
  obtain ⟨BF, hBF⟩ : ∃ x, W6.heap.size = x := ⟨_, rfl⟩
  obtain ⟨W6b, hW6b⟩ : ∃ x, W6.alloc (.cells #[.int .i64 (n : Int), .slice (some ⟨Rf, 0, none⟩) fs.length fs.length] 24) = x := ⟨_, rfl⟩
  rw [hBF, hW6b] at S5
  have HBF := Lib.hid S5
  clear S5 HSo vo
  go_upto_region 5 with fail
  clear hBF hW6b
  have HK := Lib.hid (fun (W : World) (h : SdS w W3 [⟨BF, n, some ⟨Rf, 0, none⟩, fs.length, fs.length, ints fs⟩, ⟨BM, n, some ⟨Rm, 0, none⟩, ms.length, ms.length, ints ms⟩, ⟨BB, n, some ⟨Rb, 0, none⟩, bs.length, bs.length, ints bs⟩, ⟨BD, n, some ⟨b, off, none⟩, ys.length, cd, ints ys⟩] W) => (⟨(HC.out W h.b).1, (HC.out W h.b).2, (h.s.get (x := ⟨BD, n, some ⟨b, off, none⟩, ys.length, cd, ints ys⟩) (by simp)).1, (h.s.get (x := ⟨BD, n, some ⟨b, off, none⟩, ys.length, cd, ints ys⟩) (by simp)).2.1, h⟩ : W.cell? ⟨w.heap.size + 1, 0, none⟩ = some (.int .u8 (B0 : Int)) ∧ W.cell? ⟨w.heap.size + 1, 1, none⟩ = some (.int .u8 (B1 : Int)) ∧ W.cell? ⟨BD, 0, none⟩ = some (.int .i64 (n : Int)) ∧ W.cell? ⟨BD, 1, none⟩ = some (.slice (some ⟨b, off, none⟩) ys.length cd) ∧ SdS w W3 [⟨BF, n, some ⟨Rf, 0, none⟩, fs.length, fs.length, ints fs⟩, ⟨BM, n, some ⟨Rm, 0, none⟩, ms.length, ms.length, ints ms⟩, ⟨BB, n, some ⟨Rb, 0, none⟩, bs.length, bs.length, ints bs⟩, ⟨BD, n, some ⟨b, off, none⟩, ys.length, cd, ints ys⟩] W))
  have H0 := Lib.hid (HBF.out.next (below_drew1 W6b))
  have e1 := E1.out.1
  have e2 := E1.out.2.1
  have hs0 : ¬ ys.length = 0 := by omega
  have hs1 : ¬ n = 0 := by omega
  have Hown := Lib.hid (fun (W : World) (h : SdS w W3 [⟨BF, n, some ⟨Rf, 0, none⟩, fs.length, fs.length, ints fs⟩, ⟨BM, n, some ⟨Rm, 0, none⟩, ms.length, ms.length, ints ms⟩, ⟨BB, n, some ⟨Rb, 0, none⟩, bs.length, bs.length, ints bs⟩, ⟨BD, n, some ⟨b, off, none⟩, ys.length, cd, ints ys⟩] W) => h.own2 (B := BD) (b := b) (off := off) (c := cd) (n := n) (ys := ys) (by simp) HV.out)
  have e1' : (IntKind.i64.wrap (B0 : Int)).tmod (ys.length : Int) = (P : Int) := by rw [IntWalk.i64_in _ (by omega)]; exact e1
  have e2' : (IntKind.i64.wrap (B1 : Int)).tmod (n : Int) = (Q : Int) := by rw [IntWalk.i64_in _ (by omega)]; exact e2
  have Hsh := Lib.hid (fun (W : World) (b2 o2 c2 : Nat) (h : VAt W b2 o2 c2 n ys) => (show Calls Try.prog 38 #[.agg #[.int .i64 (n : Int), .slice (some ⟨b2, o2, none⟩) ys.length c2], .int .i64 ((IntKind.i64.wrap (B0 : Int)).tmod (ys.length : Int)), .int .i64 ((IntKind.i64.wrap (B1 : Int)).tmod (n : Int))] W (OkD n ss W) by rw [e1', e2']; exact HF.out.T W b2 o2 c2 h))
  clear e1 e2 e1' e2'
  go_cut [14, 15] (fun s14 s15 wx => ∃ BS Rs, s14 = .pointer (some ⟨BS, 0, none⟩) ∧ s15 = .int .i64 0 ∧ SdS w W3 (⟨BS, n, some ⟨Rs, 0, none⟩, ss.length, ss.length, ints ss⟩ :: [⟨BF, n, some ⟨Rf, 0, none⟩, fs.length, fs.length, ints fs⟩, ⟨BM, n, some ⟨Rm, 0, none⟩, ms.length, ms.length, ints ms⟩, ⟨BB, n, some ⟨Rb, 0, none⟩, bs.length, bs.length, ints bs⟩, ⟨BD, n, some ⟨b, off, none⟩, ys.length, cd, ints ys⟩]) wx)
  case first => as_aux_lemma =>
    go_region_held3 (fun W => W.cell? ⟨w.heap.size + 1, 0, none⟩ = some (.int .u8 (B0 : Int)) ∧ W.cell? ⟨w.heap.size + 1, 1, none⟩ = some (.int .u8 (B1 : Int)) ∧ W.cell? ⟨BD, 0, none⟩ = some (.int .i64 (n : Int)) ∧ W.cell? ⟨BD, 1, none⟩ = some (.slice (some ⟨b, off, none⟩) ys.length cd) ∧ SdS w W3 [⟨BF, n, some ⟨Rf, 0, none⟩, fs.length, fs.length, ints fs⟩, ⟨BM, n, some ⟨Rm, 0, none⟩, ms.length, ms.length, ints ms⟩, ⟨BB, n, some ⟨Rb, 0, none⟩, bs.length, bs.length, ints bs⟩, ⟨BD, n, some ⟨b, off, none⟩, ys.length, cd, ints ys⟩] W)
      ((first
        | exact HK.out _ H0.out
        | exact HK.out _ (H0.out.next (below_new1 _ _))
        | exact HK.out _ So
        | exact HK.out _ (So.next (below_new1 _ _))
        | exact HK.out _ (So.next hbs)
        | exact HK.out _ ((So.next (below_new1 _ _)).next hbs)
        | exact HK.out _ ((So.next hbs).next (below_new1 _ _))
        | exact HK.out _ (So.next (below_set2 ((below_new1 _ _).trans (hbs.mono (by simp))) (Nat.le_refl _) _ _))
        | exact HK.out _ (H0.out.next (below_set2 (((below_new1 _ _).trans (hbo.mono (by simp))).trans (hbs.mono (Nat.le_trans (by simp) hbo.size))) (Nat.le_refl _) _ _))))
      ((first
        | (go_at_call 18; (with_reducible refine (Hown.out _ ?_).mono ?_); rotate_left 1; rintro e wo ⟨bo, oo, co, rfl, vo, So, hbo⟩; rotate_left 1; (first | exact H0.out | exact H0.out.next (below_new1 _ _)); (first | (have rb := res_at hbo; have y0 := rb.c0; have y1 := rb.c1; have y2 := rb.f 0; have y3 := rb.f 1) | (have rb := res_atd hbo; have y0 := rb.c0; have y1 := rb.c1; have y2 := rb.f 0; have y3 := rb.f 1) | skip))
        | (go_at_call 38; (with_reducible refine (Hsh.out _ _ _ _ ?_).mono ?_); rotate_left 1; rintro e ws ⟨Rs, rfl, hRs, hns, hbs⟩; rotate_left 1; (first | exact vo | exact vo.below (below_new1 _ _)); (first | (have rb2 := res_at hbs; have z0 := rb2.c0; have z1 := rb2.c1; have z2 := rb2.f 0; have z3 := rb2.f 1) | (have rb2 := rb.below hbs rb.lt; have z0 := rb2.c0; have z1 := rb2.c1; have z2 := rb2.f 0; have z3 := rb2.f 1) | skip))))
    all_goals (go_wp2_with fail; go_meet)
    all_goals first
      | exact ⟨_, _, rfl, rfl, (So.next hbs).push hns (by have := HF.out.ls; omega)⟩
      | exact ⟨_, _, rfl, rfl, So.fill (by have := HF.out.ls; omega) rb2 (Nat.le_refl _) ((below_new1 _ _).trans (hbs.mono (by simp))) hns (by simp at hRs; omega)⟩
      | exact ⟨_, _, rfl, rfl, H0.out.fill (by have := HF.out.ls; omega) rb2 (Nat.le_refl _) (((below_new1 _ _).trans (hbo.mono (by simp))).trans (hbs.mono (Nat.le_trans (by simp) hbo.size))) hns (far_box hbo hRs)⟩
  case rest =>
    obtain ⟨BS, Rs, rfl, rfl, hS⟩ := hcut
    clear HK H0 Hown Hsh HBF HC
    have HS5 := Lib.hid hS.s
    clear hS
    have d0 := HS5.out.get (x := ⟨BD, n, some ⟨b, off, none⟩, ys.length, cd, ints ys⟩) (by simp)
    have d1 := HS5.out.get (x := ⟨BB, n, some ⟨Rb, 0, none⟩, bs.length, bs.length, ints bs⟩) (by simp)
    have e3 := E1.out.2.2
    have e4 : (M0 : Int).tmod 30 = (M : Int) := by rw [Int.tmod_eq_emod_of_nonneg (by omega)]; exact e3
    go_wp2_with fail
    clear d0 d1
    go_loopw [16, 17, 18, 19, 20, 21, 22] (fun al _ _ _ _ _ _ wr => ∃ k : Nat, 1 ≤ k ∧ k ≤ 3 ∧ al = .int .i64 k ∧ Boxes w [⟨BS, n, some ⟨Rs, 0, none⟩, ss.length, ss.length, ints ss⟩, ⟨BF, n, some ⟨Rf, 0, none⟩, fs.length, fs.length, ints fs⟩, ⟨BM, n, some ⟨Rm, 0, none⟩, ms.length, ms.length, ints ms⟩, ⟨BB, n, some ⟨Rb, 0, none⟩, bs.length, bs.length, ints bs⟩, ⟨BD, n, some ⟨b, off, none⟩, ys.length, cd, ints ys⟩] wr) (fun al _ _ _ _ _ _ _ => 3 - (intOf al).toNat)
    case atStart => exact ⟨1, by omega, by omega, rfl, HS5.out⟩
    case round =>
      obtain ⟨k, hk1, hk3, rfl, hS⟩ := hrel
      have HSr := Lib.hid hS
      clear hS HS5
      by_cases hlt : k < 3
      · have hal : k = 1 ∨ k = 2 := by omega
        have HAl := Lib.hid hal
        have hki : (k : Int) < 3 := by omega
        have d0 := HSr.out.get (x := ⟨BD, n, some ⟨b, off, none⟩, ys.length, cd, ints ys⟩) (by simp)
        clear hal
        go_wp2_with fail
        refine (HSr.out.own (B := BD) (by simp) HV.out).mono ?_
        rintro e wo ⟨bo, oo, co, rfl, vo, So⟩
        clear d0 HSr
        go_wp2_with fail
        refine (HF.out.Wd k HAl.out _ _ _ _ vo).mono ?_
        rintro e w4 ⟨p1, k1, rfl, hf1, hb1⟩
        have HSo := Lib.hid (So.next hb1)
        have HF1 := Lib.hid hf1
        clear vo So hb1 hf1
        have d1 := HSo.out.get (x := ⟨BB, n, some ⟨Rb, 0, none⟩, bs.length, bs.length, ints bs⟩) (by simp)
        go_wp2_with fail
        refine (own_reads n (some ⟨Rb, 0, none⟩) bs.length bs.length (ints bs) _ (by have := HF.out.vb.l1; omega) (HSo.out.all ⟨BB, n, some ⟨Rb, 0, none⟩, bs.length, bs.length, ints bs⟩ (by simp)).r).mono ?_
        rintro e w5 ⟨pb, cb, rfl, hrb, hb5⟩
        obtain ⟨bo2, oo2, rfl, vo2⟩ := vat_of_reads hrb HF.out.vb
        have HS5 := Lib.hid (HSo.out.next hb5)
        have HF5 := Lib.hid (HF1.out.next hb5)
        clear d1 HSo HF1 hrb hb5
        go_wp2_with fail
        refine (HF.out.Wb k HAl.out _ _ _ _ vo2).mono ?_
        rintro e w6 ⟨p2, k2, rfl, hf2, hb6⟩
        have HS6 := Lib.hid (HS5.out.next hb6)
        have HF6 := Lib.hid (HF5.out.next hb6)
        have HG6 := Lib.hid hf2
        clear vo2 HS5 HF5 hf2 hb6
        have hN : (L k).length ≤ 3600 := HF.out.Ll k
        obtain ⟨fs0, hfs0⟩ : ∃ f, L k = f := ⟨_, rfl⟩
        rw [hfs0] at hN HF6 HG6
        rw [hfs0]
        clear hfs0
        have hne : ((fs0.length : Int) != (fs0.length : Int)) = false := by simp
        go_wp2_with fail
        go_loopw [21, 22] (fun i _ wi => ∃ j : Nat, j ≤ fs0.length ∧ i = .int .i64 j ∧ Boxes w [⟨BS, n, some ⟨Rs, 0, none⟩, ss.length, ss.length, ints ss⟩, ⟨BF, n, some ⟨Rf, 0, none⟩, fs.length, fs.length, ints fs⟩, ⟨BM, n, some ⟨Rm, 0, none⟩, ms.length, ms.length, ints ms⟩, ⟨BB, n, some ⟨Rb, 0, none⟩, bs.length, bs.length, ints bs⟩, ⟨BD, n, some ⟨b, off, none⟩, ys.length, cd, ints ys⟩] wi ∧ FlsR wi p1 fs0 ∧ FlsR wi p2 (fs0.map Fl.other)) (fun i _ _ => fs0.length - (intOf i).toNat)
        case atStart => exact ⟨0, Nat.zero_le _, rfl, HS6.out, HF6.out, HG6.out⟩
        case round =>
          obtain ⟨j, hj, rfl, hS, h1, h2⟩ := hrel
          have HS7 := Lib.hid hS
          have HF7 := Lib.hid h1
          have HG7 := Lib.hid h2
          clear hS h1 h2 HS6 HF6 HG6 hne
          by_cases hjl : j < fs0.length
          · obtain ⟨ga, hga, A1⟩ := HF7.out (by omega)
            obtain ⟨gb, hgb, A2⟩ := HG7.out (by simp; omega)
            have HA1 := Lib.hid A1
            have HA2 := Lib.hid A2
            have ha0 := A1.c0 j hjl
            have ha1 := A1.c1 j hjl
            have ha2 := A1.c2 j hjl
            have ha3 := A1.c3 j hjl
            have hl2 : j < (fs0.map Fl.other).length := by simp; exact hjl
            have hb0 := A2.c0 j hl2
            have hb1 := A2.c1 j hl2
            have hb2 := A2.c2 j hl2
            have hb3 := A2.c3 j hl2
            rw [nthF_map fs0 j hjl] at hb0 hb1 hb2 hb3
            have hal := A1.lt
            have hbl := A2.lt
            obtain ⟨⟨fp, fh, fl, fv⟩, hf⟩ : ∃ f, f = nthF fs0 j := ⟨_, rfl⟩
            rw [← hf] at ha0 ha1 ha2 ha3 hb0 hb1 hb2 hb3
            simp only [Fl.other] at hb0 hb1 hb2 hb3
            clear hf A1 A2 hl2
            subst hga hgb
            have hj0 : (0 : Int) ≤ (j : Int) := by omega
            have hj1 : (j : Int) < (fs0.length : Int) := by omega
            go_upto_region 20 with fail
            have HX := Lib.hid ((below_new1 wr (.cells #[.int .i64 (fp : Int), .int .i64 (fh : Int), .int .i64 (fl : Int), .bool fv] 87)).drew)
            go_region
            all_goals go_wp2_with fail
            all_goals go_roundw
            all_goals first
              | (simp [intOf]; omega)
              | exact ⟨j + 1, by omega, by go_num, HS7.out.next HX.out, HF7.out.next HX.out, HG7.out.next HX.out⟩
          · obtain rfl : j = fs0.length := by omega
            go_wp2_with fail
            go_roundw
            case rel => exact ⟨k + 1, by omega, by omega, by go_num, HS7.out⟩
            case measure => simp [intOf]; omega
      · obtain rfl : k = 3 := by omega
        have d0 := HSr.out.get (x := ⟨BD, n, some ⟨b, off, none⟩, ys.length, cd, ints ys⟩) (by simp)
        go_wp2_with fail
        refine (HSr.out.own (B := BD) (by simp) HV.out).mono ?_
        rintro e wo ⟨bo, oo, co, rfl, vo, So⟩
        clear d0 HSr
        go_wp2_with fail
        refine (HF.out.Ld _ _ _ _ vo).mono ?_
        rintro e w4 ⟨rfl, hb1⟩
        have HS4 := Lib.hid (So.next hb1)
        clear So vo hb1
        go_upto_region 23 with fail
        have hS5 := HS4.out.next (below_new1 w4 (.cells #[.int .i64 (g0 : Int), .int .i64 (g1 : Int), .int .i64 (g2 : Int), .int .i64 (g3 : Int)] 35))
        have hG5 := LgAt.new w4 g0 g1 g2 g3
        obtain ⟨BL, hBL⟩ : ∃ x, w4.heap.size = x := ⟨_, rfl⟩
        obtain ⟨W5, hW5⟩ : ∃ x, w4.alloc (.cells #[.int .i64 (g0 : Int), .int .i64 (g1 : Int), .int .i64 (g2 : Int), .int .i64 (g3 : Int)] 35) = x := ⟨_, rfl⟩
        rw [hW5] at hS5 hG5 ⊢
        rw [hBL] at hG5 ⊢
        have HS5 := Lib.hid hS5
        have HG5 := Lib.hid hG5
        clear hS5 hG5 hBL hW5 HS4
        have d1 := HS5.out.get (x := ⟨BB, n, some ⟨Rb, 0, none⟩, bs.length, bs.length, ints bs⟩) (by simp)
        go_wp2_with fail
        refine (HF.out.Lb _ _ _ _ (HS5.out.vat (B := BB) (by simp) HF.out.vb)).mono ?_
        rintro e w6 ⟨rfl, hb6⟩
        have hS6 := HS5.out.next (hb6.trans ((below_new1 w6 (.cells #[.int .i64 (g1 : Int), .int .i64 (g0 : Int), .int .i64 (g3 : Int), .int .i64 (g2 : Int)] 35)).mono hb6.size))
        have hG6 := HG5.out.next (hb6.trans ((below_new1 w6 (.cells #[.int .i64 (g1 : Int), .int .i64 (g0 : Int), .int .i64 (g3 : Int), .int .i64 (g2 : Int)] 35)).mono hb6.size))
        have HS6 := Lib.hid hS6
        have HG6 := Lib.hid hG6
        have hc := (HG5.out.next hb6).cells
        have hlt6 := (HG5.out.next hb6).lt
        have x0 : ((g0 : Int) != (g0 : Int)) = false := by simp
        have x1 : ((g1 : Int) != (g1 : Int)) = false := by simp
        have x2 : ((g2 : Int) != (g2 : Int)) = false := by simp
        have x3 : ((g3 : Int) != (g3 : Int)) = false := by simp
        clear d1 HS5 HG5 hb6 hS6 hG6
        go_wp2_with fail
        clear hc hlt6 x0 x1 x2 x3
        go_loopw [27, 28, 29] (fun i _ _ wr => (i = .int .i64 0 ∨ i = .int .i64 1 ∨ i = .int .i64 2 ∨ i = .int .i64 3) ∧ Boxes w [⟨BS, n, some ⟨Rs, 0, none⟩, ss.length, ss.length, ints ss⟩, ⟨BF, n, some ⟨Rf, 0, none⟩, fs.length, fs.length, ints fs⟩, ⟨BM, n, some ⟨Rm, 0, none⟩, ms.length, ms.length, ints ms⟩, ⟨BB, n, some ⟨Rb, 0, none⟩, bs.length, bs.length, ints bs⟩, ⟨BD, n, some ⟨b, off, none⟩, ys.length, cd, ints ys⟩] wr ∧ LgAt wr BL g0 g1 g2 g3) (fun i _ _ _ => 3 - (intOf i).toNat)
        case atStart => exact ⟨.inl rfl, HS6.out, HG6.out⟩
        case round =>
          obtain ⟨hi, hS, hG⟩ := hrel
          have HS7 := Lib.hid hS
          have HG7 := Lib.hid hG
          have m0 := hS.get (x := ⟨BM, n, some ⟨Rm, 0, none⟩, ms.length, ms.length, ints ms⟩) (by simp)
          have f0 := hS.get (x := ⟨BF, n, some ⟨Rf, 0, none⟩, fs.length, fs.length, ints fs⟩) (by simp)
          have s0 := hS.get (x := ⟨BS, n, some ⟨Rs, 0, none⟩, ss.length, ss.length, ints ss⟩) (by simp)
          clear hS hG HS6 HG6
          rcases hi with rfl | rfl | rfl | rfl
          · have ix := fun W => idx65_0 (.int .i64 (n : Int)) (.slice (some ⟨Rm, 0, none⟩) ms.length ms.length) (.int .i64 (n : Int)) (.slice (some ⟨Rf, 0, none⟩) fs.length fs.length) (.int .i64 (n : Int)) (.slice (some ⟨Rs, 0, none⟩) ss.length ss.length) W
            go_wp2_with fail
            refine (HF.out.Lm _ _ _ _ (HS7.out.vat (B := BM) (b := Rm) (off := 0) (c := ms.length) (by simp) HF.out.vm)).mono ?_
            rintro e w8 ⟨rfl, hb8⟩
            have hS8 := HS7.out.next (hb8.trans ((below_new1 w8 (.cells #[.int .i64 (g0 : Int), .int .i64 (g1 : Int), .int .i64 (g2 : Int), .int .i64 (g3 : Int)] 35)).mono hb8.size))
            have hG8 := HG7.out.next (hb8.trans ((below_new1 w8 (.cells #[.int .i64 (g0 : Int), .int .i64 (g1 : Int), .int .i64 (g2 : Int), .int .i64 (g3 : Int)] 35)).mono hb8.size))
            have hc := (HG7.out.next hb8).cells
            have hlt8 := (HG7.out.next hb8).lt
            have HS8 := Lib.hid hS8
            have HG8 := Lib.hid hG8
            clear m0 f0 s0 hb8 hS8 hG8
            go_wp2_with fail
            go_roundw
            case rel => exact ⟨.inr (.inl rfl), HS8.out, HG8.out⟩
            case measure => simp [intOf]
          · have ix := fun W => idx65_1 (.int .i64 (n : Int)) (.slice (some ⟨Rm, 0, none⟩) ms.length ms.length) (.int .i64 (n : Int)) (.slice (some ⟨Rf, 0, none⟩) fs.length fs.length) (.int .i64 (n : Int)) (.slice (some ⟨Rs, 0, none⟩) ss.length ss.length) W
            go_wp2_with fail
            refine (HF.out.Lf _ _ _ _ (HS7.out.vat (B := BF) (b := Rf) (off := 0) (c := fs.length) (by simp) HF.out.vf)).mono ?_
            rintro e w8 ⟨rfl, hb8⟩
            have hS8 := HS7.out.next (hb8.trans ((below_new1 w8 (.cells #[.int .i64 (g0 : Int), .int .i64 (g1 : Int), .int .i64 (g2 : Int), .int .i64 (g3 : Int)] 35)).mono hb8.size))
            have hG8 := HG7.out.next (hb8.trans ((below_new1 w8 (.cells #[.int .i64 (g0 : Int), .int .i64 (g1 : Int), .int .i64 (g2 : Int), .int .i64 (g3 : Int)] 35)).mono hb8.size))
            have hc := (HG7.out.next hb8).cells
            have hlt8 := (HG7.out.next hb8).lt
            have HS8 := Lib.hid hS8
            have HG8 := Lib.hid hG8
            clear m0 f0 s0 hb8 hS8 hG8
            go_wp2_with fail
            go_roundw
            case rel => exact ⟨.inr (.inr (.inl rfl)), HS8.out, HG8.out⟩
            case measure => simp [intOf]
          · have ix := fun W => idx65_2 (.int .i64 (n : Int)) (.slice (some ⟨Rm, 0, none⟩) ms.length ms.length) (.int .i64 (n : Int)) (.slice (some ⟨Rf, 0, none⟩) fs.length fs.length) (.int .i64 (n : Int)) (.slice (some ⟨Rs, 0, none⟩) ss.length ss.length) W
            go_wp2_with fail
            refine (HF.out.Ls _ _ _ _ (HS7.out.vat (B := BS) (b := Rs) (off := 0) (c := ss.length) (by simp) HF.out.vs)).mono ?_
            rintro e w8 ⟨rfl, hb8⟩
            have hS8 := HS7.out.next (hb8.trans ((below_new1 w8 (.cells #[.int .i64 (g0 : Int), .int .i64 (g1 : Int), .int .i64 (g2 : Int), .int .i64 (g3 : Int)] 35)).mono hb8.size))
            have hG8 := HG7.out.next (hb8.trans ((below_new1 w8 (.cells #[.int .i64 (g0 : Int), .int .i64 (g1 : Int), .int .i64 (g2 : Int), .int .i64 (g3 : Int)] 35)).mono hb8.size))
            have hc := (HG7.out.next hb8).cells
            have hlt8 := (HG7.out.next hb8).lt
            have HS8 := Lib.hid hS8
            have HG8 := Lib.hid hG8
            clear m0 f0 s0 hb8 hS8 hG8
            go_wp2_with fail
            go_roundw
            case rel => exact ⟨.inr (.inr (.inr rfl)), HS8.out, HG8.out⟩
            case measure => simp [intOf]
          · clear m0 f0 s0
            go_wp2_with fail
            refine (known_any _).mono ?_
            rintro e wz ⟨rfl, hbz⟩
            have HZ := Lib.hid (HS7.out.next hbz).below
            clear hbz HS7 HG7
            go_wp2_with fail
            go_ret
            exact ⟨rfl, HZ.out⟩
end Go.Proofs.Ytjobbleabepaiaa
