/- TieFew: the walk. -/
import Derived.Deep.DeepCutAuto
import Derived.Deep.QuietTactic
import Derived.BigQuiet
import Derived.Test.YtdmgffoikebgkaaTb01
import Derived.Test.YtdmgffoikebgkaaTb02
import Derived.Test.YtdmgffoikebgkaaTb03
import Derived.Test.YtdmgffoikebgkaaTb04
import Derived.Test.YtdmgffoikebgkaaTb05
import Derived.Test.YtdmgffoikebgkaaTb06
import Derived.Test.YtdmgffoikebgkaaTb07
import Derived.Test.YtdmgffoikebgkaaTb08
import Derived.Test.YtdmgffoikebgkaaTb09
import Derived.Test.YtdmgffoikebgkaaTb10
import Derived.Test.YtdmgffoikebgkaaTb11
import Derived.Test.YtdmgffoikebgkaaTb12
import Derived.Test.YtdmgffoikebgkaaTb13
import Derived.Test.YtdmgffoikebgkaaTb14
import Derived.Test.YtdmgffoikebgkaaTb15
import Derived.Test.YtdmgffoikebgkaaTb16
import Derived.Test.YtdmgffoikebgkaaTb17
import Derived.Test.YtdmgffoikebgkaaTb18
import Derived.Test.YtdmgffoikebgkaaTb19
import Derived.Test.YtdmgffoikebgkaaTb20
import Derived.Test.YtdmgffoikebgkaaTj03
namespace Go.Proofs.Ytdmgffoikebgkaa
open Go.RowKit Go.Shelf
attribute [local go_sem] Oper.semAt_some

set_option maxRecDepth 100000 in
set_option maxHeartbeats 8000000 in
theorem TieFew_any (H A0 A1 : Nat) (p1 p2 : Option Addr) (c1 c2 : Nat) (ws rs : List Nat) (w : World) (hH : H < 256) (hA0 : A0 < 256) (hA1 : A1 < 256) (hw : ByteRow w p1 ws) (hr : WordRow w p2 rs) (hwl : ws.length ≤ 9223372036854775807) (hrl : rs.length ≤ 9223372036854775807) :
    Calls Try.prog 10 #[.agg (lomA H p1 p2 ws.length c1 rs.length c2), .agg #[.int .u8 (A0 : Int), .int .u8 (A1 : Int)]] w fun e w' => e = .returned (.bool true) ∧ Below w.heap.size w w' := by
  obtain ⟨w0, hw0⟩ : ∃ w0, w0 = (w.alloc (.cells (lomA H p1 p2 ws.length c1 rs.length c2) 92)).alloc (.cells #[.int .u8 (A0 : Int), .int .u8 (A1 : Int)] 93) := ⟨_, rfl⟩
  have hb0 : Below w.heap.size w w0 := by rw [hw0]; exact ((Below.refl _ _).alloc (Nat.le_refl _) _).alloc (by simp) _
  have hA : BoxAt w0 w.heap.size (lomA H p1 p2 ws.length c1 rs.length c2) 92 := by rw [hw0]; exact (BoxAt.new w _ _).next ((Below.refl _ _).alloc (Nat.le_refl _) _)
  have hP : BoxAt w0 (w.heap.size + 1) #[.int .u8 (A0 : Int), .int .u8 (A1 : Int)] 93 := by
    rw [hw0]; have := BoxAt.new (w.alloc (.cells (lomA H p1 p2 ws.length c1 rs.length c2) 92)) #[.int .u8 (A0 : Int), .int .u8 (A1 : Int)] 93; rw [World.size_alloc] at this; exact this
  obtain ⟨hk1, hk2⟩ := loomL_bdM 48 ws.length (by omega)
  obtain ⟨hk3, hk4⟩ := loomL_bdM 12 rs.length (by omega)
  have H63 : ∀ W, Below w0.heap.size w0 W → Calls Try.prog 63 #[.agg (lomA H p1 p2 ws.length c1 rs.length c2)] W (MadeL (lomN H) (loomL 48 ws.length) (hsTo (lomN H) ws (loomL 48 ws.length)) W) := fun W hb =>
    (lomHarness_any H p1 p2 c1 rs.length c2 ws W hH (ByteRow.next hw (hb0.trans (hb.mono hb0.size))) hwl).mono (by
      rintro e w' ⟨v, rfl, h1, h2⟩
      obtain ⟨g, c, rfl⟩ := row_slice h1 (by omega)
      obtain ⟨h3, h4, h5⟩ := nats_of_row h1 (by omega)
      exact ⟨g, c, rfl, h3, h5, h4, h2⟩)
  have H64 : ∀ W, Below w0.heap.size w0 W → Calls Try.prog 64 #[.agg (lomA H p1 p2 ws.length c1 rs.length c2)] W (MadeL (lomN H) (loomL 12 rs.length) (dsTo (lomN H) rs (loomL 12 rs.length)) W) := fun W hb =>
    (lomDesign_any H p1 p2 ws.length c1 c2 rs W hH (WordRow.next hr (hb0.trans (hb.mono hb0.size))) hrl).mono (by
      rintro e w' ⟨v, rfl, h1, h2⟩
      obtain ⟨g, c, rfl⟩ := row_slice h1 (by omega)
      obtain ⟨h3, h4, h5⟩ := nats_of_row h1 (by omega)
      exact ⟨g, c, rfl, h3, h5, h4, h2⟩)
  obtain ⟨hN1, hN2⟩ := lomN_bd H
  have hVd := dsTo_validM (lomN H) rs (loomL 12 rs.length) hN1 (by omega) hk3 (by omega)
  have hDl := dsTo_len (lomN H) rs (loomL 12 rs.length)
  have hHk := fun i (hi : i < loomL 48 ws.length) => hsTo_nthT (lomN H) ws (loomL 48 ws.length) i hN1 hi
  have hHl := hsTo_len (lomN H) ws (loomL 48 ws.length)
  obtain ⟨L, hL⟩ : ∃ L, loomL 12 rs.length = L := ⟨_, rfl⟩
  obtain ⟨T, hT⟩ : ∃ T, loomL 48 ws.length = T := ⟨_, rfl⟩
  obtain ⟨N, hN⟩ : ∃ N, lomN H = N := ⟨_, rfl⟩
  rw [hL] at hk3 hk4
  rw [hT] at hk1 hk2
  rw [hN, hL] at hVd hDl
  simp only [hN, hL] at H64
  simp only [hN, hT] at H63 hHk hHl
  rw [hN] at hN1 hN2
  obtain ⟨DS, hDS⟩ : ∃ DS, dsTo N rs L = DS := ⟨_, rfl⟩
  obtain ⟨HS, hHS⟩ : ∃ HS, hsTo N ws T = HS := ⟨_, rfl⟩
  rw [hDS] at hVd hDl
  simp only [hDS] at H64
  simp only [hHS] at H63 hHk hHl
  clear hN hDS hL hT hHS
  have HVd := Lib.hid hVd
  have HDl := Lib.hid hDl
  have HHk := Lib.hid hHk
  have HHl := Lib.hid hHl
  have HW0 := Lib.hid hw0
  have Hb0 := Lib.hid hb0
  have HA := Lib.hid hA
  have HP := Lib.hid hP
  unfold lomA at HW0 H63 H64 HA ⊢
  have H63' := Lib.hid H63
  have H64' := Lib.hid H64
  clear hw0 hb0 hA hP hw hr hVd hDl H63 H64 hHl hHk
  go_enter Try.func10, Try.ntmps10
  go_upto_region 1 with fail
  rw [← HW0.out]
  refine region_tf1 w.heap.size N T L (.int .u8 (H : Int)) (.slice p1 ws.length c1) (.slice p2 rs.length c2) HS DS H63'.out H64'.out HA.out rfl ?hops (by kernel_rfl) (by kernel_rfl) (by kernel_rfl) (by kernel_rfl) ?hsz ?hout ?hend
  case hops => exact ⟨⟨_, _, _, rfl, by kernel_rfl⟩, ⟨_, _, _, rfl, by kernel_rfl⟩, ⟨_, _, _, rfl, by kernel_rfl⟩, ⟨_, _, _, rfl, by kernel_rfl⟩, ⟨_, _, _, rfl, by kernel_rfl⟩, ⟨_, _, _, rfl, by kernel_rfl⟩, ⟨_, _, _, rfl, by kernel_rfl⟩, ⟨_, _, _, rfl, by kernel_rfl⟩⟩
  case hsz => intro d hd; simp only [List.mem_cons, List.not_mem_nil, or_false] at hd; show d < 274; omega
  case hout => exact rfl
  case hend =>
    intro g31 q31 G31 Q31 g33 q33 G33 Q33 g5 q5 G5 Q5 g6 q6 G6 Q6 P31 P33 P5 P6 u30 u31 u32 u33 W1 hb1 hm31 hB31 hm33 hB33 hl5 hu5 hl6 hu6 hs5 hs6
    simp only [putL, List.foldl, Act.put, List.setIfInBounds_toArray, List.set_cons_succ, List.set_cons_zero]
    have HS1 := Lib.hid (show TtS w (w.heap.size + 1) g6 g33 q33 g5 g31 q31 N L T A0 A1 DS HS W1 from ⟨HP.out.next hb1, hs6, hs5, hm33.1, hm33.2, hm31.1, hm31.2, Hb0.out.trans (hb1.mono Hb0.out.size)⟩)
    clear HW0 H63' H64' Hb0 HA HP hb1 hm31 hB31 hm33 hB33 hl5 hu5 hl6 hu6 hs5 hs6
    go_upto_region 2 with fail
    refine region_tf2 N L g33 q33 g6 g31 q31 g5 T DS HS HDl.out HVd.out HS1.out.nd HS1.out.l2 HHl.out hk1 (by omega) HS1.out.nh HS1.out.lh HHk.out HS1.out.d HS1.out.e rfl ?hops (by kernel_rfl) (by kernel_rfl) (by kernel_rfl) (by kernel_rfl) ?hsz ?hout ?hend
    case hops => exact ⟨⟨_, _, _, rfl, by kernel_rfl⟩, ⟨_, _, _, rfl, by kernel_rfl⟩, ⟨_, _, _, rfl, by kernel_rfl⟩, ⟨_, _, _, rfl, by kernel_rfl⟩, ⟨_, _, _, rfl, by kernel_rfl⟩, ⟨_, _, _, rfl, by kernel_rfl⟩, ⟨_, _, _, rfl, by kernel_rfl⟩, ⟨_, _, _, rfl, by kernel_rfl⟩, ⟨_, _, _, rfl, by kernel_rfl⟩, ⟨_, _, _, rfl, by kernel_rfl⟩⟩
    case hsz => intro d hd; simp only [List.mem_cons, List.not_mem_nil, or_false] at hd; show d < 274; omega
    case hout => exact ⟨rfl, rfl⟩
    case hend =>
      intro g36 q36 G36 Q36 g38 q38 G38 Q38 g39 q39 G39 Q39 P36 P38 P39 u35 u36 u37 u38 u39 u34 u40 u41 W2 hb2 hm36 hB36 hm38 hB38 hm39 hB39
      simp only [putL, List.foldl, Act.put, List.setIfInBounds_toArray, List.set_cons_succ, List.set_cons_zero]
      have HS2 := Lib.hid (HS1.out.next hb2)
      have HC := Lib.hid (show StrsAt W2 g39 0 (clothS HS DS) ∧ g39 < W2.heap.size from ⟨hm39.1, hm39.2⟩)
      clear hb2 hm36 hB36 hm38 hB38 hm39 hB39 HS1
      have HP0 := Lib.hid (show ClS (clothS HS DS) T (pks HS DS) from by have := cloth_ClS HS DS (by rw [HHl.out]; exact hk1) (by rw [HHl.out]; omega); rw [HHl.out] at this; exact this)
      have HPl := Lib.hid (show (pks HS DS).length = L from by rw [pks_len]; exact HDl.out)
      have H65 := Lib.hid (tieRight g39 q39 T L (pks HS DS) W2 (HP0.out.at HC.out.1 HC.out.2) HPl.out (by omega))
      obtain ⟨M, hM⟩ : ∃ M, cntF (colL (pks HS DS)) T = M := ⟨_, rfl⟩
      have hM0 : 1 ≤ M := by rw [← hM]; exact cntF_pos hk1
      have hMN : M ≤ N := by rw [← hM]; have := few_le (hs := HS) (xs := DS) (N := N) (by rw [HHl.out]; exact HHk.out); rw [HHl.out] at this; exact this
      have HM := Lib.hid hM
      clear hM
      have d1 := HS2.out.d.cell' 1 rfl
      have e1 := HS2.out.e.cell' 1 rfl
      go_upto_region 3 with fail
      go_wp2_with fail
      refine H65.out.mono ?_
      rintro e W3 ⟨rfl, rfl⟩
      clear H65
      go_upto_region 5 with fail
      clear d1 e1
      have H47 := Lib.hid (call47 L g39 q39 (clothS HS DS) W3 (by rw [clothS_len]; exact HDl.out) (by omega) (by omega) HC.out.1 HC.out.2)
      go_wp2_with fail
      refine H47.out.mono ?_
      rintro e X1 ⟨gx, qx, rfl, hna, hla, hga, hbc⟩
      have HS3 := Lib.hid (HS2.out.next hbc)
      have HC3 := Lib.hid (show StrsAt X1 g39 0 (clothS HS DS) ∧ g39 < X1.heap.size from ⟨HC.out.1.below hbc HC.out.2, Nat.lt_of_lt_of_le HC.out.2 hbc.size⟩)
      have H54 := Lib.hid (call54 N T L M gx qx HS DS X1 HHl.out HDl.out hk1 (by omega) (by omega) (by omega) (by omega) HHk.out HM.out hna hga)
      clear hna hla hga hbc HS2 HC H47
      go_wp2_with fail
      refine H54.out.mono ?_
      rintro e X2 ⟨g9, q9, g10, q10, rfl, hn9, hn10, hl9, hu9, hl10, hu10, hbc⟩
      have HS4 := Lib.hid (HS3.out.next hbc)
      have HC4 := Lib.hid (show StrsAt X2 g39 0 (clothS HS DS) ∧ g39 < X2.heap.size from ⟨HC3.out.1.below hbc HC3.out.2, Nat.lt_of_lt_of_le HC3.out.2 hbc.size⟩)
      have N9 := Lib.hid (show NatL X2 g9 (fewL (pks HS DS) T) from ⟨hn9, hu9⟩)
      have N10 := Lib.hid (show NatL X2 g10 (dsnL (fewL (pks HS DS) T) (pks HS DS)) from ⟨hn10, hu10⟩)
      clear hn9 hn10 hl9 hu9 hl10 hu10 hbc HS3 HC3 H54
      go_upto_region 6 with fail
      obtain ⟨W6, hW⟩ : ∃ W6, W6 = (X2.alloc (.cells #[.int .i64 (M : Int), .slice (some ⟨g9, 0, none⟩) T q9] 26)).alloc (.cells #[.int .i64 (M : Int), .slice (some ⟨g10, 0, none⟩) L q10] 37) := ⟨_, rfl⟩
      obtain ⟨g9b, hg9b⟩ : ∃ g9b, g9b = X2.heap.size := ⟨_, rfl⟩
      obtain ⟨g10b, hg10b⟩ : ∃ g10b, g10b = X2.heap.size + 1 := ⟨_, rfl⟩
      rw [← hW, ← hg10b, ← hg9b]
      have hbW : Below X2.heap.size X2 W6 := by rw [hW]; exact ((Below.refl _ _).alloc (Nat.le_refl _) _).alloc (by simp) _
      have hx9 : BoxAt W6 g9b #[.int .i64 (M : Int), .slice (some ⟨g9, 0, none⟩) T q9] 26 := by rw [hW, hg9b]; exact (BoxAt.new X2 _ _).next ((Below.refl _ _).alloc (Nat.le_refl _) _)
      have hx10 : BoxAt W6 g10b #[.int .i64 (M : Int), .slice (some ⟨g10, 0, none⟩) L q10] 37 := by rw [hW, hg10b]; have := BoxAt.new (X2.alloc (.cells #[.int .i64 (M : Int), .slice (some ⟨g9, 0, none⟩) T q9] 26)) #[.int .i64 (M : Int), .slice (some ⟨g10, 0, none⟩) L q10] 37; rw [World.size_alloc] at this; exact this
      clear hW hg9b hg10b
      have HS5 := Lib.hid (HS4.out.next hbW)
      have HC5 := Lib.hid (show StrsAt W6 g39 0 (clothS HS DS) ∧ g39 < W6.heap.size from ⟨HC4.out.1.below hbW HC4.out.2, Nat.lt_of_lt_of_le HC4.out.2 hbW.size⟩)
      have N9b := Lib.hid (N9.out.next hbW)
      have N10b := Lib.hid (N10.out.next hbW)
      have X9 := Lib.hid hx9
      have X10 := Lib.hid hx10
      clear hbW hx9 hx10 HS4 HC4 N9 N10
      have H47 := Lib.hid (call47 L g39 q39 (clothS HS DS) W6 (by rw [clothS_len]; exact HDl.out) (by omega) (by omega) HC5.out.1 HC5.out.2)
      go_wp2_with fail
      refine H47.out.mono ?_
      rintro e X3 ⟨gx2, qx2, rfl, hna, hla, hga, hbc⟩
      have HS6 := Lib.hid (HS5.out.next hbc)
      have HC6 := Lib.hid (show StrsAt X3 g39 0 (clothS HS DS) ∧ g39 < X3.heap.size from ⟨HC5.out.1.below hbc HC5.out.2, Nat.lt_of_lt_of_le HC5.out.2 hbc.size⟩)
      have N9 := Lib.hid (N9b.out.next hbc)
      have N10 := Lib.hid (N10b.out.next hbc)
      have X9b := Lib.hid (X9.out.next hbc)
      have X10b := Lib.hid (X10.out.next hbc)
      have H55 := Lib.hid (call55 T L M gx2 qx2 (pks HS DS) (clothS HS DS) X3 HPl.out (by rw [clothS_len]; exact HDl.out) hk1 (by omega) (by omega) (by omega) HM.out (by omega) HP0.out hna hga)
      clear hna hla hga hbc HS5 HC5 H47 N9b N10b X9 X10
      go_wp2_with fail
      refine H55.out.mono ?_
      rintro e X4 ⟨gp, qp, rfl, hna, hla, hga, hbc⟩
      have HF := Lib.hid (show FwS w (w.heap.size + 1) g6 g33 q33 g5 g31 q31 N L T A0 A1 DS HS g39 (clothS HS DS) gp (apL (fewL (pks HS DS) T) M) g9b g9 q9 g10b g10 q10 M (fewL (pks HS DS) T) (dsnL (fewL (pks HS DS) T) (pks HS DS)) X4 from ⟨HS6.out.next hbc, HC6.out.1.below hbc HC6.out.2, Nat.lt_of_lt_of_le HC6.out.2 hbc.size, ⟨hna, hga⟩, X9b.out.next hbc, N9.out.next hbc, X10b.out.next hbc, N10.out.next hbc⟩)
      clear hna hla hga hbc HS6 HC6 H55 N9 N10 X9b X10b
      have e0 := HF.out.s.e.cell' 0 rfl
      have e1 := HF.out.s.e.cell' 1 rfl
      have x0 := HF.out.e9.cell' 0 rfl
      have x1 := HF.out.e9.cell' 1 rfl
      go_upto_region 9 with fail
      clear e0 e1 x0 x1
      have HWl := Lib.hid (show (fewL (pks HS DS) T).length = T from fewL_len _ _)
      have HDWl := Lib.hid (show (dsnL (fewL (pks HS DS) T) (pks HS DS)).length = L from by rw [dsnL_len]; exact HPl.out)
      have HWk := Lib.hid (show ∀ i, i < T → nthN (fewL (pks HS DS) T) i < M from fun i hi => by rw [fewL_nth _ hi, ← HM.out]; exact fewH_lt hi)
      have HWv := Lib.hid (show Valid M (dsnL (fewL (pks HS DS) T) (pks HS DS)) from by have := few_valid (hs := HS) (xs := DS) (N := N) (by rw [HHl.out]; exact HHk.out) (by omega) (by rw [HHl.out]; exact hk1) (by rw [HDl.out]; exact hk3) (by rw [HDl.out]; omega); rw [HHl.out, HM.out] at this; exact this)
      refine region_tf9 M L g10 q10 g10b g9 q9 g9b T (dsnL (fewL (pks HS DS) T) (pks HS DS)) (fewL (pks HS DS) T) HDWl.out HWv.out HF.out.n10.at' HF.out.n10.lt HWl.out hk1 (by omega) HF.out.n9.at' HF.out.n9.lt HWk.out HF.out.e9 HF.out.e10 rfl ?hops (by kernel_rfl) (by kernel_rfl) (by kernel_rfl) (by kernel_rfl) ?hsz ?hout ?hend
      case hops => exact ⟨⟨_, _, _, rfl, by kernel_rfl⟩, ⟨_, _, _, rfl, by kernel_rfl⟩, ⟨_, _, _, rfl, by kernel_rfl⟩, ⟨_, _, _, rfl, by kernel_rfl⟩, ⟨_, _, _, rfl, by kernel_rfl⟩, ⟨_, _, _, rfl, by kernel_rfl⟩, ⟨_, _, _, rfl, by kernel_rfl⟩, ⟨_, _, _, rfl, by kernel_rfl⟩, ⟨_, _, _, rfl, by kernel_rfl⟩⟩
      case hsz => intro d hd; simp only [List.mem_cons, List.not_mem_nil, or_false] at hd; show d < 274; omega
      case hout => exact ⟨rfl, rfl⟩
      case hend =>
        intro g104 q104 G104 Q104 g106 q106 G106 Q106 P104 P106 u103 u104 u105 u106 u102 u107 u108 X5 hb5 hm104 hB104 hm106 hB106
        simp only [putL, List.foldl, Act.put, List.setIfInBounds_toArray, List.set_cons_succ, List.set_cons_zero]
        have HF2 := Lib.hid (HF.out.next hb5)
        have hcl : clothS (fewL (pks HS DS) T) (dsnL (fewL (pks HS DS) T) (pks HS DS)) = clothS HS DS := by have := few_cloth HS DS; rw [HHl.out] at this; exact this
        rw [hcl] at hm106
        have H68 := Lib.hid (tieSame_ok L g106 q106 g39 q39 (clothS HS DS) X5 (by rw [clothS_len]; exact HDl.out) (by omega) hm106.1 HF2.out.c)
        clear hcl hb5 hm104 hB104 hm106 hB106 HF HWv HDWl
        go_upto_region 10 with fail
        go_wp2_with fail
        refine H68.out.mono ?_
        rintro e X6 ⟨rfl, hb6⟩
        have HF3 := Lib.hid (HF2.out.next hb6)
        clear hb6 HF2 H68
        
        go_wp2_with fail
        go_loopw [16] (fun i wr => ∃ k : Nat, k ≤ M ∧ i = .int .i64 (k : Int) ∧ (FwS w (w.heap.size + 1) g6 g33 q33 g5 g31 q31 N L T A0 A1 DS HS g39 (clothS HS DS) gp (apL (fewL (pks HS DS) T) M) g9b g9 q9 g10b g10 q10 M (fewL (pks HS DS) T) (dsnL (fewL (pks HS DS) T) (pks HS DS))) wr) (fun i _ => M - (intOf i).toNat)
        case atStart => exact ⟨0, Nat.zero_le _, rfl, HF3.out⟩
        case round =>
          obtain ⟨k, hk, rfl, hS⟩ := hrel
          have HG := Lib.hid hS
          clear hS HF3
          by_cases hkM : k < M
          · have hxT := (ap_nth HM.out hkM).1
            have hcx := HG.out.p.cell k (by rw [apL_len]; exact hkM)
            have e1 := HG.out.s.e.cell' 1 rfl
            obtain ⟨x, hx⟩ : ∃ x, nthN (apL (fewL (pks HS DS) T) M) k = x := ⟨_, rfl⟩
            rw [hx] at hxT hcx
            have Hx := Lib.hid hx
            clear hx
            go_upto_region 15 with fail
            go_cut [153] from 123 to 152 (fun c wx => ∃ W1, wx = W1 ∧ c = .bool false ∧ (FwS w (w.heap.size + 1) g6 g33 q33 g5 g31 q31 N L T A0 A1 DS HS g39 (clothS HS DS) gp (apL (fewL (pks HS DS) T) M) g9b g9 q9 g10b g10 q10 M (fewL (pks HS DS) T) (dsnL (fewL (pks HS DS) T) (pks HS DS))) W1)
            case first =>
              by_cases hk0 : k < 1
              · skip
                refine region_tf15a N M T gp qp g31 q31 g5 k x (apL (fewL (pks HS DS) T) M) (by rw [apL_len]) hkM (by omega) HG.out.p.at' HG.out.p.lt Hx.out hxT hk0 HG.out.s.e rfl ?hops (by kernel_rfl) (by kernel_rfl) (by kernel_rfl) (by kernel_rfl) ?hsz ?hout ?hend
                case hops => exact ⟨⟨_, _, _, rfl, by kernel_rfl⟩, ⟨_, _, _, rfl, by kernel_rfl⟩, ⟨_, _, _, rfl, by kernel_rfl⟩, ⟨_, _, _, rfl, by kernel_rfl⟩, ⟨_, _, _, rfl, by kernel_rfl⟩, ⟨_, _, _, rfl, by kernel_rfl⟩, ⟨_, _, _, rfl, by kernel_rfl⟩, ⟨_, _, _, rfl, by kernel_rfl⟩, ⟨_, _, _, rfl, by kernel_rfl⟩, ⟨_, _, _, rfl, by kernel_rfl⟩, ⟨_, _, _, rfl, by kernel_rfl⟩, ⟨_, _, _, rfl, by kernel_rfl⟩, ⟨_, _, rfl, by kernel_rfl⟩, ⟨_, _, _, rfl, by kernel_rfl⟩, ⟨_, _, _, rfl, by kernel_rfl⟩, ⟨_, _, _, rfl, by kernel_rfl⟩, ⟨_, _, _, rfl, by kernel_rfl⟩, ⟨_, _, _, rfl, by kernel_rfl⟩, ⟨_, _, _, rfl, by kernel_rfl⟩, ⟨_, _, _, rfl, by kernel_rfl⟩, ⟨_, _, _, rfl, by kernel_rfl⟩, ⟨_, _, _, rfl, by kernel_rfl⟩, ⟨_, _, _, rfl, by kernel_rfl⟩, ⟨_, _, _, rfl, by kernel_rfl⟩, ⟨_, _, _, rfl, by kernel_rfl⟩, ⟨_, _, _, rfl, by kernel_rfl⟩, ⟨_, _, _, rfl, by kernel_rfl⟩, ⟨_, _, _, rfl, by kernel_rfl⟩, ⟨_, _, _, rfl, by kernel_rfl⟩, ⟨_, _, _, rfl, by kernel_rfl⟩, ⟨_, _, _, rfl, by kernel_rfl⟩⟩
                case hsz => intro d hd; simp only [List.mem_cons, List.not_mem_nil, or_false] at hd; show d < 274; omega
                case hout => exact ⟨rfl, rfl, rfl⟩
                case hend =>
                  intro   u123 u124 u125 u126 u127 u128 u129 u130 u131 u132 u133 u134 u135 u136 u137 u138 u139 u140 u141 u142 u143 u144 u145 u146 u147 u148 u149 u150 u151 u152 X7 hb7 
                  simp only [putL, List.foldl, Act.put, List.setIfInBounds_toArray, List.set_cons_succ, List.set_cons_zero]
                  have hfin := Lib.hid (HG.out.next hb7)
                  clear hb7
                  go_wp2_with fail
                  go_meet
                  exact ⟨_, rfl, rfl, hfin.out⟩
              · obtain ⟨j, hj1, hj2⟩ : ∃ j, k ≤ j + 1 ∧ j + 1 ≤ k := ⟨k - 1, by omega, by omega⟩
                have hyx := ap_asc HM.out (show j < k by omega) hkM
                rw [Hx.out] at hyx
                refine region_tf15b N M T gp qp g31 q31 g5 k x j _ (apL (fewL (pks HS DS) T) M) (by rw [apL_len]) hkM (by omega) HG.out.p.at' HG.out.p.lt Hx.out hxT hj1 hj2 rfl hyx HG.out.s.e rfl ?hops (by kernel_rfl) (by kernel_rfl) (by kernel_rfl) (by kernel_rfl) ?hsz ?hout ?hend
                case hops => exact ⟨⟨_, _, _, rfl, by kernel_rfl⟩, ⟨_, _, _, rfl, by kernel_rfl⟩, ⟨_, _, _, rfl, by kernel_rfl⟩, ⟨_, _, _, rfl, by kernel_rfl⟩, ⟨_, _, _, rfl, by kernel_rfl⟩, ⟨_, _, _, rfl, by kernel_rfl⟩, ⟨_, _, _, rfl, by kernel_rfl⟩, ⟨_, _, _, rfl, by kernel_rfl⟩, ⟨_, _, _, rfl, by kernel_rfl⟩, ⟨_, _, _, rfl, by kernel_rfl⟩, ⟨_, _, _, rfl, by kernel_rfl⟩, ⟨_, _, _, rfl, by kernel_rfl⟩, ⟨_, _, rfl, by kernel_rfl⟩, ⟨_, _, _, rfl, by kernel_rfl⟩, ⟨_, _, _, rfl, by kernel_rfl⟩, ⟨_, _, _, rfl, by kernel_rfl⟩, ⟨_, _, _, rfl, by kernel_rfl⟩, ⟨_, _, _, rfl, by kernel_rfl⟩, ⟨_, _, _, rfl, by kernel_rfl⟩, ⟨_, _, _, rfl, by kernel_rfl⟩, ⟨_, _, _, rfl, by kernel_rfl⟩, ⟨_, _, _, rfl, by kernel_rfl⟩, ⟨_, _, _, rfl, by kernel_rfl⟩, ⟨_, _, _, rfl, by kernel_rfl⟩, ⟨_, _, _, rfl, by kernel_rfl⟩, ⟨_, _, _, rfl, by kernel_rfl⟩, ⟨_, _, _, rfl, by kernel_rfl⟩, ⟨_, _, _, rfl, by kernel_rfl⟩, ⟨_, _, _, rfl, by kernel_rfl⟩, ⟨_, _, _, rfl, by kernel_rfl⟩, ⟨_, _, _, rfl, by kernel_rfl⟩⟩
                case hsz => intro d hd; simp only [List.mem_cons, List.not_mem_nil, or_false] at hd; show d < 274; omega
                case hout => exact ⟨rfl, rfl, rfl⟩
                case hend =>
                  intro   u123 u124 u125 u126 u127 u128 u129 u130 u131 u132 u133 u134 u135 u136 u137 u138 u139 u140 u141 u142 u143 u144 u145 u146 u147 u148 u149 u150 u151 u152 X7 hb7 
                  simp only [putL, List.foldl, Act.put, List.setIfInBounds_toArray, List.set_cons_succ, List.set_cons_zero]
                  have hfin := Lib.hid (HG.out.next hb7)
                  clear hb7
                  go_wp2_with fail
                  go_meet
                  exact ⟨_, rfl, rfl, hfin.out⟩
            case rest =>
              obtain ⟨W1, hW1, rfl, hS1⟩ := hcut
              rw [hW1]
              clear hW1
              have HG1 := Lib.hid hS1
              clear hS1 HG hcx e1
              go_wp2_with fail
              go_loopw [17] (fun i wz => ∃ m : Nat, m ≤ k ∧ i = .int .i64 (m : Int) ∧ (FwS w (w.heap.size + 1) g6 g33 q33 g5 g31 q31 N L T A0 A1 DS HS g39 (clothS HS DS) gp (apL (fewL (pks HS DS) T) M) g9b g9 q9 g10b g10 q10 M (fewL (pks HS DS) T) (dsnL (fewL (pks HS DS) T) (pks HS DS))) wz) (fun i _ => k - (intOf i).toNat)
              case atStart => exact ⟨0, Nat.zero_le _, rfl, HG1.out⟩
              case round =>
                obtain ⟨m, hm, rfl, hS⟩ := hrel
                have HG2 := Lib.hid hS
                clear hS HG1
                by_cases hmk : m < k
                · have hyT := (ap_nth HM.out (show m < M by omega)).1
                  have hcy := HG2.out.p.cell m (by rw [apL_len]; omega)
                  have hcol := ap_col HM.out hkM (show m < M by omega) (by omega)
                  obtain ⟨y, hy⟩ : ∃ y, nthN (apL (fewL (pks HS DS) T) M) m = y := ⟨_, rfl⟩
                  rw [hy] at hyT hcy hcol
                  rw [Hx.out] at hcol
                  have Hy := Lib.hid hy
                  have Hdif := Lib.hid (difB_col hcol)
                  clear hy hcol hcy
                  go_wp2_with fail
                  go_loopw [18, 19] (fun d i wy => ∃ p : Nat, p ≤ L ∧ i = .int .i64 (p : Int) ∧ d = .bool (difB (pks HS DS) x y p) ∧ (FwS w (w.heap.size + 1) g6 g33 q33 g5 g31 q31 N L T A0 A1 DS HS g39 (clothS HS DS) gp (apL (fewL (pks HS DS) T) M) g9b g9 q9 g10b g10 q10 M (fewL (pks HS DS) T) (dsnL (fewL (pks HS DS) T) (pks HS DS))) wy) (fun _ i _ => L - (intOf i).toNat)
                  case atStart => exact ⟨0, Nat.zero_le _, rfl, rfl, HG2.out⟩
                  case round =>
                    obtain ⟨p, hp, rfl, rfl, hS⟩ := hrel
                    have HG3 := Lib.hid hS
                    clear hS HG2
                    by_cases hpL : p < L
                    · have hcs := HG3.out.c p (by rw [clothS_len, HDl.out]; exact hpL)
                      have hcx := HG3.out.p.cell k (by rw [apL_len]; exact hkM)
                      have hcy := HG3.out.p.cell m (by rw [apL_len]; omega)
                      have hsb := HP0.out.str p (by rw [HPl.out]; exact hpL)
                      rw [Nat.zero_add] at hcs
                      rw [Hx.out] at hcx
                      rw [Hy.out] at hcy
                      obtain ⟨s, hs⟩ : ∃ s, nthB (clothS HS DS) p = s := ⟨_, rfl⟩
                      obtain ⟨pk, hpk⟩ : ∃ pk, nthN (pks HS DS) p = pk := ⟨_, rfl⟩
                      have Hds := Lib.hid (show difB (pks HS DS) x y (p + 1) = (difB (pks HS DS) x y p || (bitN pk x != bitN pk y)) from by rw [← hpk]; rfl)
                      rw [hs] at hcs hsb
                      rw [hpk] at hsb
                      have hi1 := fun W => hsb.idx hxT W
                      have hi2 := fun W => hsb.idx hyT W
                      clear hs hpk hsb
                      cases hdb : difB (pks HS DS) x y p with
                      | true =>
                        rw [hdb] at Hds
                        clear hdb hi1 hi2
                        go_upto_region 24 with fail
                        go_quiet (fail)
                        all_goals go_wp2_with fail
                        all_goals exact ⟨⟨p + 1, by omega, by go_num, by rw [Hds.out]; rfl, HG3.out.next (below_drewN _ _ _)⟩, by simp [intOf]; omega⟩
                      | false =>
                        rw [hdb] at Hds
                        clear hdb
                        cases hb1 : bitN pk x with
                        | true =>
                          have hv1 : byteP pk x = 120 := by unfold byteP; rw [hb1]; rfl
                          rw [hv1] at hi1
                          cases hb2 : bitN pk y with
                          | true =>
                            have hv2 : byteP pk y = 120 := by unfold byteP; rw [hb2]; rfl
                            rw [hv2] at hi2
                            rw [hb1, hb2] at Hds
                            clear hb1 hb2 hv1 hv2
                            go_upto_region 24 with fail
                            go_quiet (fail)
                            all_goals go_wp2_with fail
                            all_goals exact ⟨⟨p + 1, by omega, by go_num, by rw [Hds.out]; rfl, HG3.out.next (below_drewN _ _ _)⟩, by simp [intOf]; omega⟩
                          | false =>
                            have hv2 : byteP pk y = 46 := by unfold byteP; rw [hb2]; rfl
                            rw [hv2] at hi2
                            rw [hb1, hb2] at Hds
                            clear hb1 hb2 hv1 hv2
                            go_upto_region 24 with fail
                            go_quiet (fail)
                            all_goals go_wp2_with fail
                            all_goals exact ⟨⟨p + 1, by omega, by go_num, by rw [Hds.out]; rfl, HG3.out.next (below_drewN _ _ _)⟩, by simp [intOf]; omega⟩
                        | false =>
                          have hv1 : byteP pk x = 46 := by unfold byteP; rw [hb1]; rfl
                          rw [hv1] at hi1
                          cases hb2 : bitN pk y with
                          | true =>
                            have hv2 : byteP pk y = 120 := by unfold byteP; rw [hb2]; rfl
                            rw [hv2] at hi2
                            rw [hb1, hb2] at Hds
                            clear hb1 hb2 hv1 hv2
                            go_upto_region 24 with fail
                            go_quiet (fail)
                            all_goals go_wp2_with fail
                            all_goals exact ⟨⟨p + 1, by omega, by go_num, by rw [Hds.out]; rfl, HG3.out.next (below_drewN _ _ _)⟩, by simp [intOf]; omega⟩
                          | false =>
                            have hv2 : byteP pk y = 46 := by unfold byteP; rw [hb2]; rfl
                            rw [hv2] at hi2
                            rw [hb1, hb2] at Hds
                            clear hb1 hb2 hv1 hv2
                            go_upto_region 24 with fail
                            go_quiet (fail)
                            all_goals go_wp2_with fail
                            all_goals exact ⟨⟨p + 1, by omega, by go_num, by rw [Hds.out]; rfl, HG3.out.next (below_drewN _ _ _)⟩, by simp [intOf]; omega⟩
                    · have hpe : p = L := by omega
                      have hdl : difB (pks HS DS) x y p = true := by rw [hpe, ← HPl.out]; exact Hdif.out
                      rw [hdl]
                      clear hdl
                      have hpl2 : decide ((p : Int) < (L : Int)) = false := decide_eq_false (by omega)
                      clear hpe
                      go_wp2_with fail
                      all_goals exact ⟨⟨m + 1, by omega, by go_num, HG3.out⟩, by simp [intOf]; omega⟩
                · obtain rfl : m = k := by omega
                  go_wp2_with fail
                  all_goals exact ⟨⟨m + 1, by omega, by go_num, HG2.out⟩, by simp [intOf]; omega⟩
          · have hkd : decide ((k : Int) < (M : Int)) = false := decide_eq_false (by omega)
            have x0 := HG.out.e9.cell' 0 rfl
            by_cases hM2 : M < 2
            · have hd2 : decide ((M : Int) < 2) = true := decide_eq_true (by omega)
              have hd3 : decide (M < 2) = true := decide_eq_true hM2
              go_upto_region 28 with fail
              go_wp2_with fail
              refine (tieKnown _).mono ?_
              rintro e X9 ⟨rfl, hb9⟩
              have Hend := Lib.hid (show Below w.heap.size w X9 from HG.out.s.b.trans (hb9.mono HG.out.s.b.size))
              clear hb9
              go_wp2_with fail
              go_ret
              exact ⟨rfl, Hend.out⟩
            · have hd2 : decide ((M : Int) < 2) = false := decide_eq_false (by omega)
              have hd3 : decide (M < 2) = false := decide_eq_false hM2
              obtain ⟨ya, hya⟩ : ∃ ya, A0 % M = ya := ⟨_, rfl⟩
              have hyaM : ya < M := by rw [← hya]; exact Nat.mod_lt _ (by omega)
              have hr0 := tmod_nn A0 M
              rw [hya] at hr0
              have hr1 : (A0 : Int) % (M : Int) = (ya : Int) := by rw [← hya]; rfl
              have hMz : ¬ M = 0 := by omega
              have hwr : IntKind.i64.wrap (A0 : Int) = (A0 : Int) := IntWalk.i64_in _ (by omega)
              have p0 := HG.out.s.p.cell' 0 rfl
              clear hya
              go_upto_region 30 with fail
              clear x0 p0 hr0 hr1 hMz hwr hkd hd2 hd3
              obtain ⟨yb, hyb1, hyb2⟩ : ∃ yb, ya + 1 ≤ yb ∧ yb ≤ ya + 1 := ⟨ya + 1, Nat.le_refl _, Nat.le_refl _⟩
              obtain ⟨N1, hN3, hN4⟩ : ∃ N1, N1 + 1 ≤ M ∧ M ≤ N1 + 1 := ⟨M - 1, by omega, by omega⟩
              obtain ⟨yr, hyr⟩ : ∃ yr, A1 % N1 = yr := ⟨_, rfl⟩
              obtain ⟨ys, hys1, hys2⟩ : ∃ ys, yb + yr ≤ ys ∧ ys ≤ yb + yr := ⟨yb + yr, Nat.le_refl _, Nat.le_refl _⟩
              obtain ⟨yc, hyc⟩ : ∃ yc, ys % M = yc := ⟨_, rfl⟩
              have hycM : yc < M := by rw [← hyc]; exact Nat.mod_lt _ (by omega)
              have hyrl : yr < N1 := by rw [← hyr]; exact Nat.mod_lt _ (by omega)
              have hyne : ya ≠ yc := fun e => by
                rw [← e] at hyc
                by_cases c : ys < M
                · rw [Nat.mod_eq_of_lt c] at hyc; omega
                · rw [Nat.mod_eq_sub_mod (by omega), Nat.mod_eq_of_lt (by omega)] at hyc; omega
              have Hyr := Lib.hid hyr
              have Hyc := Lib.hid hyc
              clear hyr hyc
              refine region_tf30 M T g9 q9 g9b (w.heap.size + 1) A0 A1 ya yb N1 yr ys yc hA1 (by omega) (by omega) hyaM hyb1 hyb2 hN3 hN4 Hyr.out hys1 hys2 Hyc.out HG.out.e9 HG.out.s.p rfl ?hops (by kernel_rfl) (by kernel_rfl) (by kernel_rfl) (by kernel_rfl) ?hsz ?hout ?hend
              case hops => exact ⟨⟨_, _, _, rfl, by kernel_rfl⟩, ⟨_, _, _, rfl, by kernel_rfl⟩, ⟨_, _, _, rfl, by kernel_rfl⟩, ⟨_, _, _, rfl, by kernel_rfl⟩, ⟨_, _, _, rfl, by kernel_rfl⟩, ⟨_, _, _, rfl, by kernel_rfl⟩, ⟨_, _, _, rfl, by kernel_rfl⟩, ⟨_, _, _, rfl, by kernel_rfl⟩, ⟨_, _, _, rfl, by kernel_rfl⟩, ⟨_, _, _, rfl, by kernel_rfl⟩, ⟨_, _, _, rfl, by kernel_rfl⟩, ⟨_, _, _, rfl, by kernel_rfl⟩, ⟨_, _, _, rfl, by kernel_rfl⟩, ⟨_, _, _, rfl, by kernel_rfl⟩⟩
              case hsz => intro d hd; simp only [List.mem_cons, List.not_mem_nil, or_false] at hd; show d < 274; omega
              case hout => exact ⟨rfl, rfl, rfl⟩
              case hend =>
                intro   u199 u200 u201 u202 u203 u204 u205 u206 u207 u208 u209 u210 u211 Y1 hb1 
                simp only [putL, List.foldl, Act.put, List.setIfInBounds_toArray, List.set_cons_succ, List.set_cons_zero]
                have HH := Lib.hid (HG.out.next hb1)
                clear hb1 HG hyb1 hyb2 hN3 hN4 Hyr hys1 hys2 Hyc hyrl
                have x0 := HH.out.e9.cell' 0 rfl
                have x1 := HH.out.e9.cell' 1 rfl
                have H28 := Lib.hid (call28w M T g9 q9 (fewL (pks HS DS) T) Y1 HWl.out hk1 (by omega) HH.out.n9.at' HH.out.n9.lt)
                go_wp2_with fail
                refine H28.out.mono ?_
                rintro e Y2 ⟨gl, ql, rfl, hnl, hla, hga, hbc⟩
                have HH2 := Lib.hid (HH.out.next hbc)
                have hor := HH.out.ord hla
                have Hor := Lib.hid hor
                have HL := Lib.hid hnl
                clear hnl hla hga hbc HH H28 x0 x1 hor
                go_upto_region 32 with fail
                obtain ⟨Y3, hW⟩ : ∃ Y3, Y3 = Y2.alloc (.cells #[.int .i64 (M : Int), .slice (some ⟨gl, 0, none⟩) T ql] 26) := ⟨_, rfl⟩
                obtain ⟨B22, hB⟩ : ∃ B22, B22 = Y2.heap.size := ⟨_, rfl⟩
                rw [← hW, ← hB]
                have hbW : Below Y2.heap.size Y2 Y3 := by rw [hW]; exact (Below.refl _ _).alloc (Nat.le_refl _) _
                have hxB : BoxAt Y3 B22 #[.int .i64 (M : Int), .slice (some ⟨gl, 0, none⟩) T ql] 26 := by rw [hW, hB]; exact BoxAt.new _ _ _
                have hglB : gl ≠ B22 := by rw [hB]; exact Nat.ne_of_lt HL.out.lt
                clear hW hB
                have HH3 := Lib.hid (HH2.out.next hbW)
                have HL3 := Lib.hid (show NatRow Y3 gl (mrgL (fewL (pks HS DS) T) ya yc 0) from by rw [mrgL_zero]; exact HL.out.next hbW)
                have X22 := Lib.hid hxB
                clear hbW hxB HH2 HL
                go_wp2_with fail
                go_loopw [23] (fun i wr => ∃ k : Nat, k ≤ T ∧ i = .int .i64 (k : Int) ∧ (FwS w (w.heap.size + 1) g6 g33 q33 g5 g31 q31 N L T A0 A1 DS HS g39 (clothS HS DS) gp (apL (fewL (pks HS DS) T) M) g9b g9 q9 g10b g10 q10 M (fewL (pks HS DS) T) (dsnL (fewL (pks HS DS) T) (pks HS DS))) wr ∧ NatRow wr gl (mrgL (fewL (pks HS DS) T) ya yc k) ∧ BoxAt wr B22 #[.int .i64 (M : Int), .slice (some ⟨gl, 0, none⟩) T ql] 26) (fun i _ => T - (intOf i).toNat)
                case atStart => exact ⟨0, Nat.zero_le _, rfl, HH3.out, HL3.out, X22.out⟩
                case round =>
                  obtain ⟨q, hq, rfl, hS, hR, hX⟩ := hrel
                  have x0 := hS.e9.cell' 0 rfl
                  have z1 := hX.cell' 1 rfl
                  have HSx := Lib.hid hS
                  have HR := Lib.hid hR
                  have HX := Lib.hid hX
                  clear hS hR hX HH3 HL3 X22
                  by_cases hqT : q < T
                  · have hcq := HR.out.nats q (by rw [mrgL_len, HWl.out]; exact hqT)
                    rw [Nat.zero_add, mrgL_nth _ _ _ _ (by rw [HWl.out]; exact hqT), if_neg (fun h => Nat.lt_irrefl q h.1)] at hcq
                    have hxM := HWk.out q hqT
                    have hfr := HR.out.frozen q
                    have Hsame := Lib.hid (mrgL_same (fewL (pks HS DS) T) (a := ya) (b := yc) (k := q))
                    have Hset := Lib.hid (mrgL_set (fewL (pks HS DS) T) (a := ya) (b := yc) (k := q) (by rw [HWl.out]; exact hqT))
                    have Hrl := Lib.hid (show q < (mrgL (fewL (pks HS DS) T) ya yc q).length from by rw [mrgL_len, HWl.out]; exact hqT)
                    obtain ⟨x, hx⟩ : ∃ x, nthN (fewL (pks HS DS) T) q = x := ⟨_, rfl⟩
                    rw [hx] at hcq hxM Hsame Hset
                    clear hx
                    have hd0 : decide ((x : Int) < 0) = false := decide_eq_false (by omega)
                    have hdM : decide ((M : Int) ≤ (x : Int)) = false := decide_eq_false (by omega)
                    have hdN : decide (M ≤ x) = false := decide_eq_false (by omega)
                    by_cases hxy : x = yc
                    · have hm := Hset.out hxy
                      have Hm := Lib.hid hm
                      have hde : ((x : Int) == (yc : Int)) = true := by rw [hxy]; simp
                      have hde2 : (x == yc) = true := by rw [hxy]; simp
                      clear hm hxy Hset Hsame
                      go_upto_region 35 with fail
                      go_quiet (fail)
                      all_goals go_wp2_with fail
                      all_goals exact ⟨⟨q + 1, by omega, by go_num, (HSx.out.next (below_drewN _ _ _)).at _ Hor.out, by rw [← Hm.out]; exact (HR.out.next (below_drewN _ _ _)).set q ya Hrl.out, (HX.out.next (below_drewN _ _ _)).other _ _ (by show B22 ≠ gl; exact fun e => hglB e.symm)⟩, by simp [intOf]; omega⟩
                    · have hm := Hsame.out hxy
                      have Hm := Lib.hid hm
                      have hde : ((x : Int) == (yc : Int)) = false := by simp; omega
                      have hde2 : (x == yc) = false := by simp; omega
                      clear hm hxy Hset Hsame
                      go_upto_region 35 with fail
                      go_quiet (fail)
                      all_goals go_wp2_with fail
                      all_goals exact ⟨⟨q + 1, by omega, by go_num, HSx.out.next (below_drewN _ _ _), by rw [← Hm.out]; exact HR.out.next (below_drewN _ _ _), HX.out.next (below_drewN _ _ _)⟩, by simp [intOf]; omega⟩
                  · have hqd : decide ((q : Int) < (T : Int)) = false := decide_eq_false (by omega)
                    have hqe : q = T := by omega
                    rw [hqe] at HR
                    clear hqe
                    have HXl := Lib.hid (show (mrgL (fewL (pks HS DS) T) ya yc T).length = T from by rw [mrgL_len]; exact HWl.out)
                    have HXk := Lib.hid (show ∀ i, i < T → nthN (mrgL (fewL (pks HS DS) T) ya yc T) i < M from fun i hi => mrg_lt HM.out hyaM hi)
                    have HNP := Lib.hid (mrg_part HM.out hyaM hycM hyne)
                    have z0 := HX.out.cell' 0 rfl
                    have H28 := Lib.hid (call28 M T gl ql (mrgL (fewL (pks HS DS) T) ya yc T) wr HXl.out hk1 (by omega) HR.out.nats HR.out.lt)
                    clear x0 Hor hyne hycM hyaM
                    go_upto_region 39 with fail
                    go_wp2_with fail
                    refine H28.out.mono ?_
                    rintro e Z1 ⟨g251, q251, rfl, hna, hla, hga, hbc⟩
                    have HS2 := Lib.hid (HSx.out.next hbc)
                    have HR2 := Lib.hid (HR.out.next hbc)
                    have HX2 := Lib.hid (HX.out.next hbc)
                    have NL := Lib.hid (show NatL Z1 g251 (mrgL (fewL (pks HS DS) T) ya yc T) from ⟨hna, hga⟩)
                    clear hna hla hga hbc HSx HR HX H28 z0 z1 hqd
                    have H47 := Lib.hid (call47 L g39 q39 (clothS HS DS) Z1 (by rw [clothS_len]; exact HDl.out) (by omega) (by omega) HS2.out.c HS2.out.lc)
                    go_wp2_with fail
                    refine H47.out.mono ?_
                    rintro e Z2 ⟨g253, q253, rfl, hna, hla, hga, hbc⟩
                    have HS3 := Lib.hid (HS2.out.next hbc)
                    have HR3 := Lib.hid (HR2.out.next hbc)
                    have HX3 := Lib.hid (HX2.out.next hbc)
                    have H48 := Lib.hid (call48m M T L g251 q251 g253 q253 (mrgL (fewL (pks HS DS) T) ya yc T) (pks HS DS) (clothS HS DS) Z2 HXl.out HPl.out hk1 (by omega) (by omega) (by omega) hM0 (by omega) HXk.out HP0.out HNP.out (NL.out.next hbc).at' (NL.out.next hbc).lt hna hga)
                    clear hna hla hga hbc HS2 HR2 HX2 NL H47
                    go_wp2_with fail
                    refine H48.out.mono ?_
                    rintro e Z3 ⟨rfl, hbc⟩
                    have HS4 := Lib.hid (HS3.out.next hbc)
                    have HR4 := Lib.hid (HR3.out.next hbc)
                    have HX4 := Lib.hid (HX3.out.next hbc)
                    clear hbc HS3 HR3 HX3 H48
                    go_upto_region 40 with fail
                    obtain ⟨Z4, hW⟩ : ∃ Z4, Z4 = Z3.alloc (.cells #[.int .i64 0, .slice none 0 0] 37) := ⟨_, rfl⟩
                    rw [← hW]
                    have hbW : Below Z3.heap.size Z3 Z4 := by rw [hW]; exact (Below.refl _ _).alloc (Nat.le_refl _) _
                    clear hW
                    have HS5 := Lib.hid (HS4.out.next hbW)
                    have HR5 := Lib.hid (HR4.out.next hbW)
                    have HX5 := Lib.hid (HX4.out.next hbW)
                    clear hbW HS4 HR4 HX4
                    have z0 := HX5.out.cell' 0 rfl
                    have z1 := HX5.out.cell' 1 rfl
                    have H49 := Lib.hid (call49m M T L gl ql g39 q39 (mrgL (fewL (pks HS DS) T) ya yc T) (pks HS DS) (clothS HS DS) Z4 HXl.out HPl.out hk1 (by omega) (by omega) (by omega) hM0 (by omega) HXk.out HP0.out HNP.out HR5.out.nats HR5.out.lt HS5.out.c HS5.out.lc)
                    go_wp2_with fail
                    refine H49.out.mono ?_
                    rintro e Z5 ⟨p9, w9, o9, rfl, hbc⟩
                    have HBw := Lib.hid (HS5.out.s.b.trans (hbc.mono HS5.out.s.b.size))
                    clear hbc HS5 HR5 HX5 z0 z1 H49
                    go_upto_region 41 with fail
                    go_wp2_with fail
                    refine (tieKnown _).mono ?_
                    rintro e Z6 ⟨rfl, hbc⟩
                    have Hend := Lib.hid (show Below w.heap.size w Z6 from HBw.out.trans (hbc.mono HBw.out.size))
                    clear hbc
                    go_wp2_with fail
                    go_ret
                    exact ⟨rfl, Hend.out⟩
end Go.Proofs.Ytdmgffoikebgkaa
