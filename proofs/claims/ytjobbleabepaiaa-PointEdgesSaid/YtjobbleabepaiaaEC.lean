/- PointEdges: the walk. -/
import Derived.Test.YtjobbleabepaiaaEB
import Derived.Deep.QuietTactic
import Derived.BigQuiet
namespace Go.Proofs.Ytjobbleabepaiaa
open Go.RowKit Go.Shelf

set_option maxRecDepth 100000 in
set_option maxHeartbeats 8000000 in
theorem PointEdges_any (hk l c : Nat) (p0 : Option Addr) (us : List Nat) (w : World) (hk2 : hk < 256) (hu : U16At w (.slice p0 l c) us) :
    Calls Try.prog 14 #[.agg #[.int .u8 (hk : Int), .slice p0 l c]] w fun e w' => e = .returned (.bool true) ∧ Below w.heap.size w w' := by
  obtain ⟨n, hD⟩ := edges_boxes w hk l c p0 us hk2 hu
  have HD := Lib.hid hD
  clear hD hu
  go_enter Try.func14, Try.ntmps14
  go_wp2_with fail
  refine HD.out.mono ?_
  rintro e w2 ⟨b, off, cd, ys, rfl, HS, HV, ⟨l0, l1, n0, n1⟩⟩
  clear HD
  obtain ⟨K, rs, ms, zs, ts, p, h, g0, g1, g2, g3, hF⟩ := EdF.of HV.out n1 l1
  have HF := Lib.hid hF
  clear hF
  have a0 := HS.out.get (x := ⟨w2.heap.size, n, some ⟨b, off, none⟩, ys.length, cd, ints ys⟩) (by simp)
  obtain ⟨W3, hW3⟩ : ∃ W3, w2.alloc (.cells #[.int .i64 (n : Int), .slice (some ⟨b, off, none⟩) ys.length cd] 24) = W3 := ⟨_, rfl⟩
  obtain ⟨BD, hBD⟩ : ∃ BD, w2.heap.size = BD := ⟨_, rfl⟩
  rw [hW3, hBD] at HS
  rw [hW3, hBD] at a0
  have HS1 := Lib.hid (SdS.mk HS.out (Below.refl W3.heap.size W3))
  clear HS
  go_wp2_with fail
  clear hW3 hBD
  refine (HS1.out.own (B := BD) (by simp) HV.out).mono ?_
  rintro e wo ⟨bo, oo, co, rfl, vo, So⟩
  have HSo := Lib.hid So
  clear a0 So HS1
  go_wp2_with fail
  refine (HSo.out.okd (HF.out.R _ _ _ _ vo) (by have := HF.out.lr; omega)).mono ?_
  rintro e W4 ⟨Rr, rfl, _, S5⟩
  obtain ⟨BR, hBR⟩ : ∃ x, W4.heap.size = x := ⟨_, rfl⟩
  obtain ⟨W4b, hW4b⟩ : ∃ x, W4.alloc (.cells #[.int .i64 (K : Int), .slice (some ⟨Rr, 0, none⟩) rs.length rs.length] 24) = x := ⟨_, rfl⟩
  rw [hBR, hW4b] at S5
  have HS2 := Lib.hid S5
  clear S5 HSo vo
  go_upto_region 3 with fail
  clear hBR hW4b
  go_cut [6] (fun s6 wx => s6 = .int .i64 (K : Int) ∧ SdS w W3 [⟨BR, K, some ⟨Rr, 0, none⟩, rs.length, rs.length, ints rs⟩, ⟨BD, n, some ⟨b, off, none⟩, ys.length, cd, ints ys⟩] wx)
  case first => as_aux_lemma =>
    have a0 := HS2.out.s.get (x := ⟨BD, n, some ⟨b, off, none⟩, ys.length, cd, ints ys⟩) (by simp)
    have hkn := HF.out.kn
    by_cases hq : 0 < (n : Int) - 2
    · go_wp2_with fail
      all_goals go_meet
      all_goals exact ⟨congrArg (Value.int .i64) (by omega), HS2.out⟩
    · go_wp2_with fail
      all_goals go_meet
      all_goals exact ⟨congrArg (Value.int .i64) (by omega), HS2.out⟩
  case rest =>
    obtain ⟨rfl, hS⟩ := hcut
    have HS3 := Lib.hid hS
    clear hS HS2
    have d0 := HS3.out.s.get (x := ⟨BD, n, some ⟨b, off, none⟩, ys.length, cd, ints ys⟩) (by simp)
    have d1 := HS3.out.s.get (x := ⟨BR, K, some ⟨Rr, 0, none⟩, rs.length, rs.length, ints rs⟩) (by simp)
    go_wp2_with fail
    refine (HS3.out.plain (right_len K Rr 0 rs.length ys.length rs _ (HS3.out.s.vat (B := BR) (b := Rr) (off := 0) (c := rs.length) (by simp) HF.out.vr) HF.out.lr)).mono ?_
    rintro e w5 ⟨rfl, S5⟩
    have HS5 := Lib.hid S5
    clear S5 HS3 d0 d1
    have d0 := HS5.out.s.get (x := ⟨BD, n, some ⟨b, off, none⟩, ys.length, cd, ints ys⟩) (by simp)
    have d1 := HS5.out.s.get (x := ⟨BR, K, some ⟨Rr, 0, none⟩, rs.length, rs.length, ints rs⟩) (by simp)
    go_wp2_with fail
    clear d0 d1
    go_loopw [7] (fun i wr => ∃ k : Nat, k ≤ ys.length ∧ i = .int .i64 k ∧ SdS w W3 [⟨BR, K, some ⟨Rr, 0, none⟩, rs.length, rs.length, ints rs⟩, ⟨BD, n, some ⟨b, off, none⟩, ys.length, cd, ints ys⟩] wr) (fun i _ => ys.length - (intOf i).toNat)
    case atStart => exact ⟨0, Nat.zero_le _, rfl, HS5.out⟩
    case round =>
      obtain ⟨k, hk1, rfl, hS⟩ := hrel
      have HS6 := Lib.hid hS
      clear hS HS5
      have d0 := HS6.out.s.get (x := ⟨BD, n, some ⟨b, off, none⟩, ys.length, cd, ints ys⟩) (by simp)
      have d1 := HS6.out.s.get (x := ⟨BR, K, some ⟨Rr, 0, none⟩, rs.length, rs.length, ints rs⟩) (by simp)
      by_cases hlt : k < ys.length
      · have hva := HS6.out.s.vat (B := BD) (b := b) (off := off) (c := cd) (by simp) HV.out
        have hvr := HS6.out.s.vat (B := BR) (b := Rr) (off := 0) (c := rs.length) (by simp) HF.out.vr
        have hlr := HF.out.lr
        have c1 := hva.at' k hlt
        have c2 := hvr.at' k (by omega)
        rw [Nat.zero_add] at c2
        have hrow := HF.out.row k hlt
        have hk0 : (0 : Int) ≤ (k : Int) := by omega
        have hk2' : (k : Int) < (ys.length : Int) := by omega
        have hk3 : (k : Int) < (rs.length : Int) := by omega
        clear hva hvr
        go_upto_region 9 with fail
        have hX := HF.out.vr.lt' k
        obtain ⟨X, hXe⟩ : ∃ X, X = nthN rs k := ⟨_, rfl⟩
        obtain ⟨Y, hYe⟩ : ∃ Y, Y = nthN ys k := ⟨_, rfl⟩
        rw [← hXe] at c2 hX hrow
        rw [← hYe] at c1 hrow
        have hmn : min n 64 = n := by omega
        have hun : IntKind.u64.wrap (n : Int) = (n : Int) := IntWalk.u64_in _ (by omega)
        have hp24 := Nat.pow_le_pow_right (show 0 < 2 by decide) (show n ≤ 24 by omega)
        have hp0 := Nat.pow_pos (n := n) (show 0 < 2 by decide)
        have ep : (2 : Int) ^ n = ((2 ^ n : Nat) : Int) := (Int.natCast_pow 2 n).symm
        have hwp : IntKind.i64.wrap ((2 : Int) ^ n) = (2 : Int) ^ n := IntWalk.i64_in _ (by rw [ep]; omega)
        have hwp1 : IntKind.i64.wrap ((2 : Int) ^ n - 1) = (2 : Int) ^ n - 1 := IntWalk.i64_in _ (by rw [ep]; omega)
        have hw1 : IntKind.i64.wrap 1 = 1 := by decide
        have hval : bits .and .i64 (X : Int) ((2 : Int) ^ n - 1) = (Y : Int) := by
          have h2 : (2 : Int) ^ n - 1 = ((2 ^ n - 1 : Nat) : Int) := by rw [ep]; omega
          rw [h2, i64_and_nat _ _ (by omega) (by omega), hrow]
        have hne : ((Y : Int) != (Y : Int)) = false := by simp
        clear hXe hYe hrow hp24 hp0 ep hX hlr
        go_quiet (fail)
        have HS7 := Lib.hid (fun a => HS6.out.next (below_drewN wr wr.heap.size a))
        clear hmn hun hwp hwp1 hw1 hval c1 c2
        go_wp2_with fail
        go_roundw
        case rel => exact ⟨k + 1, by omega, by go_num, HS7.out _⟩
        case measure => simp [intOf]; omega
      · obtain rfl : k = ys.length := by omega
        go_upto_if 85 with fail
        clear d0 d1
        go_cut [8, 9, 10, 11] (fun _ _ _ _ wx => SdS w W3 [⟨BR, K, some ⟨Rr, 0, none⟩, rs.length, rs.length, ints rs⟩, ⟨BD, n, some ⟨b, off, none⟩, ys.length, cd, ints ys⟩] wx)
        case first => as_aux_lemma =>
          have d0 := HS6.out.s.get (x := ⟨BD, n, some ⟨b, off, none⟩, ys.length, cd, ints ys⟩) (by simp)
          have d1 := HS6.out.s.get (x := ⟨BR, K, some ⟨Rr, 0, none⟩, rs.length, rs.length, ints rs⟩) (by simp)
          by_cases hn1 : 1 < n
          · have hn1' : decide ((1 : Int) < (n : Int)) = true := by simp; omega
            go_wp2_with fail
            refine (HS6.out.own (B := BR) (by simp) HF.out.vr).mono ?_
            rintro e wo ⟨bo, oo, co, rfl, vo, So⟩
            have HSo := Lib.hid So
            clear d0 d1 So
            go_wp2_with fail
            refine (HSo.out.okd (HF.out.Mi hn1 _ _ _ _ vo) (by have := HF.out.lm; omega)).mono ?_
            rintro e w8 ⟨Rm, rfl, _, S8⟩
            have HS8 := Lib.hid S8
            clear S8 HSo vo
            have d2 := HS8.out.s.get (x := ⟨w8.heap.size, K, some ⟨Rm, 0, none⟩, ms.length, ms.length, ints ms⟩) (by simp)
            go_wp2_with fail
            refine (HS8.out.okd (HF.out.Sh hn1 _ _ _ _ (HS8.out.s.vat (B := w8.heap.size) (b := Rm) (off := 0) (c := ms.length) (by simp) (HF.out.vm hn1))) (by have := HF.out.lr; omega)).mono ?_
            rintro e w9 ⟨Rs, rfl, _, S9⟩
            have HS9 := Lib.hid S9
            clear S9 HS8 d2
            have d3 := HS9.out.s.get (x := ⟨w9.heap.size, K, some ⟨Rs, 0, none⟩, rs.length, rs.length, ints rs⟩) (by simp)
            have d4 := HS9.out.s.get (x := ⟨BR, K, some ⟨Rr, 0, none⟩, rs.length, rs.length, ints rs⟩) (by simp)
            go_wp2_with fail
            refine (is_reads (K : Int) (some ⟨Rs, 0, none⟩) (some ⟨Rr, 0, none⟩) rs.length rs.length rs.length rs.length (ints rs) _ (HS9.out.s.all ⟨w9.heap.size, K, some ⟨Rs, 0, none⟩, rs.length, rs.length, ints rs⟩ (by simp)).r (HS9.out.s.all ⟨BR, K, some ⟨Rr, 0, none⟩, rs.length, rs.length, ints rs⟩ (by simp)).r).mono ?_
            rintro e w10 ⟨rfl, hb⟩
            have HS10 := Lib.hid (HS9.out.next hb)
            clear hb HS9 d3 d4
            go_wp2_with fail
            go_meet
            exact ⟨HS10.out.s.of_all (fun x hx => by simp at hx ⊢; rcases hx with rfl | rfl <;> simp), HS10.out.b⟩
          · have hn1' : decide ((1 : Int) < (n : Int)) = false := by simp; omega
            go_wp2_with fail
            go_meet
            exact HS6.out
        case rest =>
          have HS7 := Lib.hid hcut
          clear hcut HS6
          go_upto_region 16 with fail
          have HX := Lib.hid (SdS.mk HS7.out.s (Below.refl wc.heap.size wc))
          have HK := Lib.hid (fun (W : World) (h : SdS w wc [⟨BR, K, some ⟨Rr, 0, none⟩, rs.length, rs.length, ints rs⟩, ⟨BD, n, some ⟨b, off, none⟩, ys.length, cd, ints ys⟩] W) => (⟨(h.s.get (x := ⟨BD, n, some ⟨b, off, none⟩, ys.length, cd, ints ys⟩) (by simp)).1, (h.s.get (x := ⟨BD, n, some ⟨b, off, none⟩, ys.length, cd, ints ys⟩) (by simp)).2.1, h⟩ : W.cell? ⟨BD, 0, none⟩ = some (.int .i64 (n : Int)) ∧ W.cell? ⟨BD, 1, none⟩ = some (.slice (some ⟨b, off, none⟩) ys.length cd) ∧ SdS w wc [⟨BR, K, some ⟨Rr, 0, none⟩, rs.length, rs.length, ints rs⟩, ⟨BD, n, some ⟨b, off, none⟩, ys.length, cd, ints ys⟩] W))
          have H0 := Lib.hid (HX.out.next (below_drew1 wc))
          have Hown := Lib.hid (fun (W : World) (h : SdS w wc [⟨BR, K, some ⟨Rr, 0, none⟩, rs.length, rs.length, ints rs⟩, ⟨BD, n, some ⟨b, off, none⟩, ys.length, cd, ints ys⟩] W) => h.own2 (B := BD) (b := b) (off := off) (c := cd) (n := n) (ys := ys) (by simp) HV.out)
          have Hcl := Lib.hid (fun (W : World) (b1 o1 c1 b2 o2 c2 : Nat) (h : VAt W b1 o1 c1 n ys) (h2 : VAt W b2 o2 c2 n ys) => HF.out.B W b1 o1 c1 b2 o2 c2 h h2)
          go_cut [12, 13] (fun sa sb wx => ∃ BZ Rz, sa = .pointer (some ⟨BZ, 0, none⟩) ∧ sb = .int .i64 0 ∧ SdS w W3 (⟨BZ, ((n + n : Nat) : Int), some ⟨Rz, 0, none⟩, zs.length, zs.length, ints zs⟩ :: [⟨BR, K, some ⟨Rr, 0, none⟩, rs.length, rs.length, ints rs⟩, ⟨BD, n, some ⟨b, off, none⟩, ys.length, cd, ints ys⟩]) wx)
          case first => as_aux_lemma =>
            go_region_held3 (fun W => W.cell? ⟨BD, 0, none⟩ = some (.int .i64 (n : Int)) ∧ W.cell? ⟨BD, 1, none⟩ = some (.slice (some ⟨b, off, none⟩) ys.length cd) ∧ SdS w wc [⟨BR, K, some ⟨Rr, 0, none⟩, rs.length, rs.length, ints rs⟩, ⟨BD, n, some ⟨b, off, none⟩, ys.length, cd, ints ys⟩] W)
              ((first
                | exact HK.out _ H0.out
                | exact HK.out _ (H0.out.next (below_new1 _ _))
                | exact HK.out _ (by assumption)
                | (refine HK.out _ (SdS.next ?_ (by assumption)); go_split_ands; assumption)
                | (refine HK.out _ (SdS.next ?_ (below_new1 _ _)); go_split_ands; assumption)
                | exact HK.out _ (So.next hbs)
                | exact HK.out _ ((So.next (below_new1 _ _)).next hbs)
                | exact HK.out _ ((So.next hbs).next (below_new1 _ _))
                | exact HK.out _ (HX.out.next (below_set2 hbw (by omega) _ _))))
              ((first
                | (go_at_call 18; (with_reducible refine (Hown.out _ ?_).mono ?_); rotate_left 1; rintro e wo ⟨bo, oo, co, rfl, vo, So, hbo⟩; rotate_left 1; (first | exact H0.out | assumption | exact H0.out.next (below_new1 _ _) | exact SdS.next (by assumption) (below_new1 _ _)); have hsz := So.b.size; (first | (have rb := res_at hbo; have y0 := rb.c0; have y1 := rb.c1; have y2 := rb.f 0; have y3 := rb.f 1; have y4 := rb.lt) | (have rb := res_atd hbo; have y0 := rb.c0; have y1 := rb.c1; have y2 := rb.f 0; have y3 := rb.f 1; have y4 := rb.lt) | (have rb := rb.below hbo rb.lt; have y0 := rb.c0; have y1 := rb.c1; have y2 := rb.f 0; have y3 := rb.f 1; have y4 := rb.lt) | skip))
                | (go_at_call 44; (with_reducible refine (Hcl.out _ _ _ _ _ _ _ ?_ ?_).mono ?_); rotate_left 2; rintro e ws ⟨Rz, rfl, hRz, hnz, hbs⟩; rotate_left 1; (first | assumption | exact VAt.below (by assumption) (by assumption) | exact VAt.below (by assumption) (below_new1 _ _) | exact VAt.below (VAt.below (by assumption) (below_new1 _ _)) (by assumption) | exact VAt.below (VAt.below (by assumption) (by assumption)) (below_new1 _ _)); (first | assumption | exact VAt.below (by assumption) (by assumption) | exact VAt.below (by assumption) (below_new1 _ _) | exact VAt.below (VAt.below (by assumption) (below_new1 _ _)) (by assumption) | exact VAt.below (VAt.below (by assumption) (by assumption)) (below_new1 _ _)); (first | (have hbw := So.b.trans (hbs.mono So.b.size)) | (have hbw := (So.b.trans ((below_new1 _ _).mono So.b.size)).trans (hbs.mono (Nat.le_trans So.b.size (by simp))))); (first | (have rb2 := res_at hbs; have z0 := rb2.c0; have z1 := rb2.c1; have z2 := rb2.f 0; have z3 := rb2.f 1) | (have rb2 := rb.below hbs rb.lt; have z0 := rb2.c0; have z1 := rb2.c1; have z2 := rb2.f 0; have z3 := rb2.f 1) | skip))))
            all_goals (go_wp2_with fail; go_meet)
            all_goals first
              | exact ⟨_, _, rfl, rfl, SdS.mk ((So.next hbs).push hnz (by have := HF.out.lz; omega)).s (by have h9 := HS7.out.b; exact h9.trans (((hbw.trans ((below_new1 _ _).mono (by have := hbw.size; omega))).mono h9.size)))⟩
              | exact ⟨_, _, rfl, rfl, HS7.out.fill (by have := HF.out.lz; omega) rb2 (by omega) hbw hnz (by first | omega | (simp at hRz; omega))⟩
          case rest =>
            obtain ⟨BZ, Rz, rfl, rfl, hS⟩ := hcut
            clear HK H0 Hown Hcl HX HS7
            have HS7 := Lib.hid hS
            clear hS
            go_upto_region 17 with fail
            have HX := Lib.hid (SdS.mk HS7.out.s (Below.refl wc.heap.size wc))
            have HK := Lib.hid (fun (W : World) (h : SdS w wc [⟨BZ, ((n + n : Nat) : Int), some ⟨Rz, 0, none⟩, zs.length, zs.length, ints zs⟩, ⟨BR, K, some ⟨Rr, 0, none⟩, rs.length, rs.length, ints rs⟩, ⟨BD, n, some ⟨b, off, none⟩, ys.length, cd, ints ys⟩] W) => (⟨(h.s.get (x := ⟨BD, n, some ⟨b, off, none⟩, ys.length, cd, ints ys⟩) (by simp)).1, (h.s.get (x := ⟨BD, n, some ⟨b, off, none⟩, ys.length, cd, ints ys⟩) (by simp)).2.1, h⟩ : W.cell? ⟨BD, 0, none⟩ = some (.int .i64 (n : Int)) ∧ W.cell? ⟨BD, 1, none⟩ = some (.slice (some ⟨b, off, none⟩) ys.length cd) ∧ SdS w wc [⟨BZ, ((n + n : Nat) : Int), some ⟨Rz, 0, none⟩, zs.length, zs.length, ints zs⟩, ⟨BR, K, some ⟨Rr, 0, none⟩, rs.length, rs.length, ints rs⟩, ⟨BD, n, some ⟨b, off, none⟩, ys.length, cd, ints ys⟩] W))
            have H0 := Lib.hid (HX.out.next (below_drew1 wc))
            have Hown := Lib.hid (fun (W : World) (h : SdS w wc [⟨BZ, ((n + n : Nat) : Int), some ⟨Rz, 0, none⟩, zs.length, zs.length, ints zs⟩, ⟨BR, K, some ⟨Rr, 0, none⟩, rs.length, rs.length, ints rs⟩, ⟨BD, n, some ⟨b, off, none⟩, ys.length, cd, ints ys⟩] W) => h.own2 (B := BD) (b := b) (off := off) (c := cd) (n := n) (ys := ys) (by simp) HV.out)
            have Hcl := Lib.hid (fun (W : World) (b1 o1 c1 b2 o2 c2 : Nat) (h : VAt W b1 o1 c1 n ys) (h2 : VAt W b2 o2 c2 n ys) => HF.out.A W b1 o1 c1 b2 o2 c2 h h2)
            go_cut [14, 15] (fun sa sb wx => ∃ BT pa ca, sa = .pointer (some ⟨BT, 0, none⟩) ∧ sb = .int .i64 0 ∧ SdS w W3 (⟨BT, n, pa, ts.length, ca, ints ts⟩ :: [⟨BZ, ((n + n : Nat) : Int), some ⟨Rz, 0, none⟩, zs.length, zs.length, ints zs⟩, ⟨BR, K, some ⟨Rr, 0, none⟩, rs.length, rs.length, ints rs⟩, ⟨BD, n, some ⟨b, off, none⟩, ys.length, cd, ints ys⟩]) wx)
            case first => as_aux_lemma =>
              go_region_held3 (fun W => W.cell? ⟨BD, 0, none⟩ = some (.int .i64 (n : Int)) ∧ W.cell? ⟨BD, 1, none⟩ = some (.slice (some ⟨b, off, none⟩) ys.length cd) ∧ SdS w wc [⟨BZ, ((n + n : Nat) : Int), some ⟨Rz, 0, none⟩, zs.length, zs.length, ints zs⟩, ⟨BR, K, some ⟨Rr, 0, none⟩, rs.length, rs.length, ints rs⟩, ⟨BD, n, some ⟨b, off, none⟩, ys.length, cd, ints ys⟩] W)
                ((first
                  | exact HK.out _ H0.out
                  | exact HK.out _ (H0.out.next (below_new1 _ _))
                  | exact HK.out _ (by assumption)
                  | (refine HK.out _ (SdS.next ?_ (by assumption)); go_split_ands; assumption)
                  | (refine HK.out _ (SdS.next ?_ (below_new1 _ _)); go_split_ands; assumption)
                  | exact HK.out _ (So.next hbs)
                  | exact HK.out _ ((So.next (below_new1 _ _)).next hbs)
                  | exact HK.out _ ((So.next hbs).next (below_new1 _ _))
                  | exact HK.out _ (HX.out.next (below_set2 hbw (by omega) _ _))))
                ((first
                  | (go_at_call 18; (with_reducible refine (Hown.out _ ?_).mono ?_); rotate_left 1; rintro e wo ⟨bo, oo, co, rfl, vo, So, hbo⟩; rotate_left 1; (first | exact H0.out | assumption | exact H0.out.next (below_new1 _ _) | exact SdS.next (by assumption) (below_new1 _ _)); have hsz := So.b.size; (first | (have rb := res_at hbo; have y0 := rb.c0; have y1 := rb.c1; have y2 := rb.f 0; have y3 := rb.f 1; have y4 := rb.lt) | (have rb := res_atd hbo; have y0 := rb.c0; have y1 := rb.c1; have y2 := rb.f 0; have y3 := rb.f 1; have y4 := rb.lt) | (have rb := rb.below hbo rb.lt; have y0 := rb.c0; have y1 := rb.c1; have y2 := rb.f 0; have y3 := rb.f 1; have y4 := rb.lt) | skip))
                  | (go_at_call 45; (with_reducible refine (Hcl.out _ _ _ _ _ _ _ ?_ ?_).mono ?_); rotate_left 2; rintro e ws ⟨pa, ca, rfl, hra, hfa, hbs⟩; rotate_left 1; (first | assumption | exact VAt.below (by assumption) (by assumption) | exact VAt.below (by assumption) (below_new1 _ _) | exact VAt.below (VAt.below (by assumption) (below_new1 _ _)) (by assumption) | exact VAt.below (VAt.below (by assumption) (by assumption)) (below_new1 _ _)); (first | assumption | exact VAt.below (by assumption) (by assumption) | exact VAt.below (by assumption) (below_new1 _ _) | exact VAt.below (VAt.below (by assumption) (below_new1 _ _)) (by assumption) | exact VAt.below (VAt.below (by assumption) (by assumption)) (below_new1 _ _)); (first | (have hbw := So.b.trans (hbs.mono So.b.size)) | (have hbw := (So.b.trans ((below_new1 _ _).mono So.b.size)).trans (hbs.mono (Nat.le_trans So.b.size (by simp))))); (first | (have rb2 := res_at hbs; have z0 := rb2.c0; have z1 := rb2.c1; have z2 := rb2.f 0; have z3 := rb2.f 1) | (have rb2 := rb.below hbs rb.lt; have z0 := rb2.c0; have z1 := rb2.c1; have z2 := rb2.f 0; have z3 := rb2.f 1) | skip))))
              all_goals (go_wp2_with fail; go_meet)
              all_goals first
                | exact ⟨_, _, _, rfl, rfl, SdS.mk ((So.next hbs).pushR (n := n) hra).s (by have h9 := HS7.out.b; exact h9.trans (((hbw.trans ((below_new1 _ _).mono (by have := hbw.size; omega))).mono h9.size)))⟩
                | exact ⟨_, _, _, rfl, rfl, HS7.out.fillR (n := n) rb2 (by omega) hbw hra (fun a q => by have := hfa a q; first | omega | (simp at this; omega))⟩
            case rest =>
              obtain ⟨BT, pa, ca, rfl, rfl, hS⟩ := hcut
              clear HK H0 Hown Hcl HX HS7
              have HS7 := Lib.hid hS
              clear hS
              have d0 := HS7.out.s.get (x := ⟨BD, n, some ⟨b, off, none⟩, ys.length, cd, ints ys⟩) (by simp)
              go_wp2_with fail
              refine (HS7.out.own (B := BD) (by simp) HV.out).mono ?_
              rintro e wo ⟨bo, oo, co, rfl, vo, So⟩
              have HSo := Lib.hid So
              clear d0 So HS7
              go_wp2_with fail
              refine (HSo.out.plain (HF.out.Ld _ _ _ _ vo)).mono ?_
              rintro e w18 ⟨rfl, S8⟩
              have HS8 := Lib.hid S8
              clear HSo vo S8
              have d0 := HS8.out.s.get (x := ⟨BZ, ((n + n : Nat) : Int), some ⟨Rz, 0, none⟩, zs.length, zs.length, ints zs⟩) (by simp)
              go_wp2_with fail
              refine (HS8.out.own (B := BZ) (by simp) HF.out.vz).mono ?_
              rintro e wo ⟨bo, oo, co, rfl, vo, So⟩
              have HSo := Lib.hid So
              clear d0 So HS8
              go_wp2_with fail
              refine (HSo.out.plain (HF.out.Lz _ _ _ _ vo)).mono ?_
              rintro e w19 ⟨rfl, S8⟩
              have HS9 := Lib.hid S8
              clear HSo vo S8
              obtain ⟨ab, ao, rfl, hat⟩ := vat_of_reads (HS9.out.s.all ⟨BT, n, pa, ts.length, ca, ints ts⟩ (by simp)).r HF.out.va
              clear hat
              have d0 := HS9.out.s.get (x := ⟨BT, n, some ⟨ab, ao, none⟩, ts.length, ca, ints ts⟩) (by simp)
              go_wp2_with fail
              refine (HS9.out.own (B := BT) (by simp) HF.out.va).mono ?_
              rintro e wo ⟨bo, oo, co, rfl, vo, So⟩
              have HSo := Lib.hid So
              clear d0 So HS9
              go_wp2_with fail
              refine (HSo.out.plain (HF.out.La _ _ _ _ vo)).mono ?_
              rintro e w20 ⟨rfl, S8⟩
              have HS10 := Lib.hid S8
              clear HSo vo S8
              obtain ⟨⟨p1, p2⟩, ⟨h1, h2⟩⟩ := And.intro HF.out.p1 HF.out.h1
              have d0 := HS10.out.s.get (x := ⟨BD, n, some ⟨b, off, none⟩, ys.length, cd, ints ys⟩) (by simp)
              have x0 : ((p : Int) != (p : Int)) = false := by simp
              have x1 : ((h : Int) != (h : Int)) = false := by simp
              have x2 : decide ((p : Int) < 1) = false := by simp; omega
              have x3 : decide ((h : Int) < 1) = false := by simp; omega
              have x4 : ¬ p = 0 := by omega
              have x5 : ¬ h = 0 := by omega
              have x6 : (ys.length : Int).tmod (p : Int) = 0 := by rw [tmod_eq _ _ (by omega), Int.toNat_natCast, HF.out.pd]; rfl
              have x7 : (n : Int).tmod (h : Int) = 0 := by rw [tmod_eq _ _ (by omega), Int.toNat_natCast, HF.out.hd]; rfl
              go_wp2_with fail
              clear x0 x1 x2 x3 x4 x5 x6 x7
              refine (HS10.out.own (B := BD) (by simp) HV.out).mono ?_
              rintro e wo ⟨bo, oo, co, rfl, vo, So⟩
              have HSo := Lib.hid So
              clear d0 So HS10
              go_wp2_with fail
              refine (HSo.out.plain (HF.out.Gd _ _ _ _ vo)).mono ?_
              rintro e w21 ⟨rfl, S8⟩
              have hS5 := S8.next (below_new1 w21 (.cells #[.int .i64 (g0 : Int), .int .i64 (g1 : Int), .int .i64 (g2 : Int), .int .i64 (g3 : Int)] 35))
              have hG5 := LgAt.new w21 g0 g1 g2 g3
              clear HSo vo S8
              go_upto_region 24 with fail
              obtain ⟨BL, hBL⟩ : ∃ x, w21.heap.size = x := ⟨_, rfl⟩
              obtain ⟨W5, hW5⟩ : ∃ x, w21.alloc (.cells #[.int .i64 (g0 : Int), .int .i64 (g1 : Int), .int .i64 (g2 : Int), .int .i64 (g3 : Int)] 35) = x := ⟨_, rfl⟩
              rw [hW5] at hS5 hG5 ⊢
              rw [hBL] at hG5 ⊢
              have HS5 := Lib.hid hS5
              have HG5 := Lib.hid hG5
              clear hS5 hG5 hBL hW5
              have d1 := HS5.out.s.get (x := ⟨BZ, ((n + n : Nat) : Int), some ⟨Rz, 0, none⟩, zs.length, zs.length, ints zs⟩) (by simp)
              go_wp2_with fail
              refine (HF.out.Gz _ _ _ _ (HS5.out.s.vat (B := BZ) (b := Rz) (off := 0) (c := zs.length) (by simp) HF.out.vz)).mono ?_
              rintro e w6 ⟨rfl, hb6⟩
              have hb6b := hb6.trans ((below_new1 w6 (.cells #[.int .i64 (g0 : Int), .int .i64 (g1 : Int), .int .i64 (g2 : Int), .int .i64 (g3 : Int)] 35)).mono hb6.size)
              have hS6 := HS5.out.next hb6b
              have hG6 := HG5.out.next hb6b
              have hL6 := LgAt.new w6 g0 g1 g2 g3
              clear d1 HS5 HG5 hb6 hb6b
              go_upto_region 25 with fail
              obtain ⟨BL2, hBL⟩ : ∃ x, w6.heap.size = x := ⟨_, rfl⟩
              obtain ⟨W6, hW6⟩ : ∃ x, w6.alloc (.cells #[.int .i64 (g0 : Int), .int .i64 (g1 : Int), .int .i64 (g2 : Int), .int .i64 (g3 : Int)] 35) = x := ⟨_, rfl⟩
              rw [hW6] at hS6 hG6 hL6 ⊢
              rw [hBL] at hL6 ⊢
              have HS6 := Lib.hid hS6
              have HG6 := Lib.hid hG6
              have HL6 := Lib.hid hL6
              clear hS6 hG6 hL6 hBL hW6
              have d1 := HS6.out.s.get (x := ⟨BT, n, some ⟨ab, ao, none⟩, ts.length, ca, ints ts⟩) (by simp)
              go_wp2_with fail
              refine (HF.out.Ga _ _ _ _ (HS6.out.s.vat (B := BT) (b := ab) (off := ao) (c := ca) (by simp) HF.out.va)).mono ?_
              rintro e w7 ⟨rfl, hb7⟩
              have hb7b := hb7.trans ((below_new1 w7 (.cells #[.int .i64 (g0 : Int), .int .i64 (g1 : Int), .int .i64 (g2 : Int), .int .i64 (g3 : Int)] 35)).mono hb7.size)
              have HS7 := Lib.hid (HS6.out.next hb7b)
              have hc1 := (HG6.out.next hb7).cells
              have hc2 := (HL6.out.next hb7).cells
              have hl1 := (HG6.out.next hb7).lt
              have hl2 := (HL6.out.next hb7).lt
              have d0 := HS7.out.s.get (x := ⟨BD, n, some ⟨b, off, none⟩, ys.length, cd, ints ys⟩) (by simp)
              clear d1 HS6 HG6 HL6 hb7 hb7b
              go_wp2_with fail
              clear hc1 hc2 hl1 hl2 d0
              go_loopw [31, 32] (fun i _ wr => ∃ k : Nat, k ≤ ys.length ∧ i = .int .i64 k ∧ SdS w W3 [⟨BT, n, some ⟨ab, ao, none⟩, ts.length, ca, ints ts⟩, ⟨BZ, ((n + n : Nat) : Int), some ⟨Rz, 0, none⟩, zs.length, zs.length, ints zs⟩, ⟨BR, K, some ⟨Rr, 0, none⟩, rs.length, rs.length, ints rs⟩, ⟨BD, n, some ⟨b, off, none⟩, ys.length, cd, ints ys⟩] wr) (fun i _ _ => ys.length - (intOf i).toNat)
              case atStart => exact ⟨0, Nat.zero_le _, rfl, HS7.out⟩
              case round =>
                obtain ⟨k, hk1, rfl, hS⟩ := hrel
                have HS8 := Lib.hid hS
                clear hS HS7
                have d0 := HS8.out.s.get (x := ⟨BD, n, some ⟨b, off, none⟩, ys.length, cd, ints ys⟩) (by simp)
                by_cases hlt : k < ys.length
                · obtain ⟨wo, rfl⟩ : ∃ wo : World, wo = wr := ⟨_, rfl⟩
                  go_wp2_with fail
                  clear d0
                  go_loopw [32] (fun j wi => ∃ l : Nat, l ≤ n ∧ j = .int .i64 l ∧ SdS w W3 [⟨BT, n, some ⟨ab, ao, none⟩, ts.length, ca, ints ts⟩, ⟨BZ, ((n + n : Nat) : Int), some ⟨Rz, 0, none⟩, zs.length, zs.length, ints zs⟩, ⟨BR, K, some ⟨Rr, 0, none⟩, rs.length, rs.length, ints rs⟩, ⟨BD, n, some ⟨b, off, none⟩, ys.length, cd, ints ys⟩] wi) (fun j _ => n - (intOf j).toNat)
                  case atStart => exact ⟨0, Nat.zero_le _, rfl, HS8.out⟩
                  case round =>
                    obtain ⟨l, hl1, rfl, hS⟩ := hrel
                    have HS9 := Lib.hid hS
                    clear hS HS8
                    have d0 := HS9.out.s.get (x := ⟨BD, n, some ⟨b, off, none⟩, ys.length, cd, ints ys⟩) (by simp)
                    by_cases hll : l < n
                    · obtain ⟨A, hA⟩ : ∃ A, A = pt n ys k l := ⟨_, rfl⟩
                      have hA2 : (A != A) = false := by cases A <;> rfl
                      have hper := HF.out.per k l
                      have x4 : ¬ p = 0 := by omega
                      have x5 : ¬ h = 0 := by omega
                      have Hl1 := Lib.hid (fun (W : World) (s : SdS w W3 [⟨BT, n, some ⟨ab, ao, none⟩, ts.length, ca, ints ts⟩, ⟨BZ, ((n + n : Nat) : Int), some ⟨Rz, 0, none⟩, zs.length, zs.length, ints zs⟩, ⟨BR, K, some ⟨Rr, 0, none⟩, rs.length, rs.length, ints rs⟩, ⟨BD, n, some ⟨b, off, none⟩, ys.length, cd, ints ys⟩] W) => (show Calls Try.prog 63 #[.agg #[.int .i64 (n : Int), .slice (some ⟨b, off, none⟩) ys.length cd], .int .i64 (k : Int), .int .i64 (l : Int)] W (fun e w' => e = .returned (.bool A) ∧ Below W.heap.size W w') by
                        have := lifted_any n b off cd ys (k : Int) (l : Int) W (s.s.vat (B := BD) (b := b) (off := off) (c := cd) (by simp) HV.out) (by omega) (by omega)
                        rw [Int.toNat_natCast, Int.toNat_natCast, ← hA] at this
                        exact this))
                      have Hl2 := Lib.hid (fun (W : World) (s : SdS w W3 [⟨BT, n, some ⟨ab, ao, none⟩, ts.length, ca, ints ts⟩, ⟨BZ, ((n + n : Nat) : Int), some ⟨Rz, 0, none⟩, zs.length, zs.length, ints zs⟩, ⟨BR, K, some ⟨Rr, 0, none⟩, rs.length, rs.length, ints rs⟩, ⟨BD, n, some ⟨b, off, none⟩, ys.length, cd, ints ys⟩] W) => (show Calls Try.prog 63 #[.agg #[.int .i64 (n : Int), .slice (some ⟨b, off, none⟩) ys.length cd], .int .i64 ((k : Int).tmod (p : Int)), .int .i64 ((l : Int).tmod (h : Int))] W (fun e w' => e = .returned (.bool A) ∧ Below W.heap.size W w') by
                        have e1 := tmod_eq (k : Int) p (by omega)
                        have e2 := tmod_eq (l : Int) h (by omega)
                        rw [Int.toNat_natCast] at e1 e2
                        rw [e1, e2]
                        have := lifted_any n b off cd ys ((k % p : Nat) : Int) ((l % h : Nat) : Int) W (s.s.vat (B := BD) (b := b) (off := off) (c := cd) (by simp) HV.out) (by omega) (by omega)
                        rw [Int.toNat_natCast, Int.toNat_natCast, ← hper, ← hA] at this
                        exact this))
                      have HK := Lib.hid (fun (W : World) (h : SdS w W3 [⟨BT, n, some ⟨ab, ao, none⟩, ts.length, ca, ints ts⟩, ⟨BZ, ((n + n : Nat) : Int), some ⟨Rz, 0, none⟩, zs.length, zs.length, ints zs⟩, ⟨BR, K, some ⟨Rr, 0, none⟩, rs.length, rs.length, ints rs⟩, ⟨BD, n, some ⟨b, off, none⟩, ys.length, cd, ints ys⟩] W) => (⟨(h.s.get (x := ⟨BD, n, some ⟨b, off, none⟩, ys.length, cd, ints ys⟩) (by simp)).1, (h.s.get (x := ⟨BD, n, some ⟨b, off, none⟩, ys.length, cd, ints ys⟩) (by simp)).2.1, h⟩ : W.cell? ⟨BD, 0, none⟩ = some (.int .i64 (n : Int)) ∧ W.cell? ⟨BD, 1, none⟩ = some (.slice (some ⟨b, off, none⟩) ys.length cd) ∧ SdS w W3 [⟨BT, n, some ⟨ab, ao, none⟩, ts.length, ca, ints ts⟩, ⟨BZ, ((n + n : Nat) : Int), some ⟨Rz, 0, none⟩, zs.length, zs.length, ints zs⟩, ⟨BR, K, some ⟨Rr, 0, none⟩, rs.length, rs.length, ints rs⟩, ⟨BD, n, some ⟨b, off, none⟩, ys.length, cd, ints ys⟩] W))
                      clear hA hper
                      go_upto_region 34 with fail
                      have H0 := Lib.hid (HS9.out.next (below_drew1 wr))
                      go_region_held3 (fun W => W.cell? ⟨BD, 0, none⟩ = some (.int .i64 (n : Int)) ∧ W.cell? ⟨BD, 1, none⟩ = some (.slice (some ⟨b, off, none⟩) ys.length cd) ∧ SdS w W3 [⟨BT, n, some ⟨ab, ao, none⟩, ts.length, ca, ints ts⟩, ⟨BZ, ((n + n : Nat) : Int), some ⟨Rz, 0, none⟩, zs.length, zs.length, ints zs⟩, ⟨BR, K, some ⟨Rr, 0, none⟩, rs.length, rs.length, ints rs⟩, ⟨BD, n, some ⟨b, off, none⟩, ys.length, cd, ints ys⟩] W)
                        ((first
                          | exact HK.out _ H0.out
                          | (refine HK.out _ (SdS.next ?_ (by assumption)); go_split_ands; assumption)))
                        ((first
                          | (go_at_call 63; (with_reducible refine (Hl1.out _ ?_).mono ?_); rotate_left 1; rintro e wa ⟨rfl, hba⟩; rotate_left 1; (first | exact H0.out | (go_split_ands; assumption)))
                          | (go_at_call 63; (with_reducible refine (Hl2.out _ ?_).mono ?_); rotate_left 1; rintro e wb ⟨rfl, hbb⟩; rotate_left 1; (first | exact H0.out | (go_split_ands; assumption)))))
                      all_goals clear d0 HS9 HK Hl1 Hl2 x4 x5
                      all_goals go_wp2_with fail
                      all_goals go_roundw
                      all_goals first
                        | (simp [intOf]; omega)
                        | exact ⟨l + 1, by omega, by go_num, by go_split_ands; assumption⟩
                        | exact ⟨l + 1, by omega, by go_num, (H0.out.next hba).next hbb⟩
                        | exact ⟨l + 1, by omega, by go_num, (H0.out.next hbb).next hba⟩
                    · obtain rfl : l = n := by omega
                      go_wp2_with fail
                      go_roundw
                      case rel => exact ⟨k + 1, by omega, by go_num, HS9.out⟩
                      case measure => simp [intOf]; omega
                · obtain rfl : k = ys.length := by omega
                  go_wp2_with fail
                  refine (known_any _).mono ?_
                  rintro e wz ⟨rfl, hbz⟩
                  have HZ := Lib.hid (HS8.out.next hbz).s.below
                  clear hbz HS8 d0
                  go_wp2_with fail
                  go_ret
                  exact ⟨rfl, HZ.out⟩
end Go.Proofs.Ytjobbleabepaiaa
