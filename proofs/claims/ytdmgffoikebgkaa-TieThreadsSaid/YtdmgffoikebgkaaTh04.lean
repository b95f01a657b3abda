/- TieThreads: the walk. -/
import Derived.Deep.DeepCutAuto
import Derived.Deep.QuietTactic
import Derived.BigQuiet
import Derived.Test.YtdmgffoikebgkaaTb01
import Derived.Test.YtdmgffoikebgkaaTb02
import Derived.Test.YtdmgffoikebgkaaTb03
import Derived.Test.YtdmgffoikebgkaaTb04
import Derived.Test.YtdmgffoikebgkaaTb05
import Derived.Test.YtdmgffoikebgkaaTb06
import Derived.Test.YtdmgffoikebgkaaTb07
import Derived.Test.YtdmgffoikebgkaaTb08
import Derived.Test.YtdmgffoikebgkaaTb09
import Derived.Test.YtdmgffoikebgkaaTb10
import Derived.Test.YtdmgffoikebgkaaTb11
import Derived.Test.YtdmgffoikebgkaaTb12
import Derived.Test.YtdmgffoikebgkaaTb13
import Derived.Test.YtdmgffoikebgkaaTb14
import Derived.Test.YtdmgffoikebgkaaTb15
import Derived.Test.YtdmgffoikebgkaaTb16
import Derived.Test.YtdmgffoikebgkaaTb17
import Derived.Test.YtdmgffoikebgkaaTb18
import Derived.Test.YtdmgffoikebgkaaTb19
import Derived.Test.YtdmgffoikebgkaaTb20
import Derived.Test.YtdmgffoikebgkaaTh03
namespace Go.Proofs.Ytdmgffoikebgkaa
open Go.RowKit Go.Shelf
attribute [local go_sem] Oper.semAt_some

theorem dsn_valid {hs ps : List Nat} {N : Nat} (hk : ∀ i, i < hs.length → nthN hs i < N) (hN0 : 1 ≤ N) (hN1 : N ≤ 24) (h0 : 1 ≤ ps.length) (h1 : ps.length ≤ 60) : Valid N (dsnL hs ps) := by
  refine ⟨hN0, hN1, by rw [dsnL_len]; exact h0, by rw [dsnL_len]; exact h1, fun i => ?_⟩
  by_cases hi : i < ps.length
  · rw [dsnL_nth _ _ hi]
    exact drowN_lt _ _ hk _ (Nat.le_refl _)
  · have : nthN (dsnL hs ps) i = 0 := by
      unfold nthN
      rw [List.getElem?_eq_none (by rw [dsnL_len]; omega)]; rfl
    rw [this]; exact Nat.pow_pos (by decide)
set_option maxRecDepth 100000 in
set_option maxHeartbeats 8000000 in
theorem TieThreads_any (H A0 A1 : Nat) (p1 p2 : Option Addr) (c1 c2 : Nat) (ws rs : List Nat) (w : World) (hH : H < 256) (hA0 : A0 < 256) (hA1 : A1 < 256) (hw : ByteRow w p1 ws) (hr : WordRow w p2 rs) (hwl : ws.length ≤ 9223372036854775807) (hrl : rs.length ≤ 9223372036854775807) :
    Calls Try.prog 9 #[.agg (lomA H p1 p2 ws.length c1 rs.length c2), .agg #[.int .u8 (A0 : Int), .int .u8 (A1 : Int)]] w fun e w' => e = .returned (.bool true) ∧ Below w.heap.size w w' := by
  obtain ⟨w0, hw0⟩ : ∃ w0, w0 = (w.alloc (.cells (lomA H p1 p2 ws.length c1 rs.length c2) 92)).alloc (.cells #[.int .u8 (A0 : Int), .int .u8 (A1 : Int)] 93) := ⟨_, rfl⟩
  have hb0 : Below w.heap.size w w0 := by rw [hw0]; exact ((Below.refl _ _).alloc (Nat.le_refl _) _).alloc (by simp) _
  have hA : BoxAt w0 w.heap.size (lomA H p1 p2 ws.length c1 rs.length c2) 92 := by rw [hw0]; exact (BoxAt.new w _ _).next ((Below.refl _ _).alloc (Nat.le_refl _) _)
  have hP : BoxAt w0 (w.heap.size + 1) #[.int .u8 (A0 : Int), .int .u8 (A1 : Int)] 93 := by
    rw [hw0]; have := BoxAt.new (w.alloc (.cells (lomA H p1 p2 ws.length c1 rs.length c2) 92)) #[.int .u8 (A0 : Int), .int .u8 (A1 : Int)] 93; rw [World.size_alloc] at this; exact this
  obtain ⟨hk1, hk2⟩ := loomL_bdM 48 ws.length (by omega)
  obtain ⟨hk3, hk4⟩ := loomL_bdM 12 rs.length (by omega)
  have H63 : ∀ W, Below w0.heap.size w0 W → Calls Try.prog 63 #[.agg (lomA H p1 p2 ws.length c1 rs.length c2)] W (MadeL (lomN H) (loomL 48 ws.length) (hsTo (lomN H) ws (loomL 48 ws.length)) W) := fun W hb =>
    (lomHarness_any H p1 p2 c1 rs.length c2 ws W hH (ByteRow.next hw (hb0.trans (hb.mono hb0.size))) hwl).mono (by
      rintro e w' ⟨v, rfl, h1, h2⟩
      obtain ⟨g, c, rfl⟩ := row_slice h1 (by omega)
      obtain ⟨h3, h4, h5⟩ := nats_of_row h1 (by omega)
      exact ⟨g, c, rfl, h3, h5, h4, h2⟩)
  have H64 : ∀ W, Below w0.heap.size w0 W → Calls Try.prog 64 #[.agg (lomA H p1 p2 ws.length c1 rs.length c2)] W (MadeL (lomN H) (loomL 12 rs.length) (dsTo (lomN H) rs (loomL 12 rs.length)) W) := fun W hb =>
    (lomDesign_any H p1 p2 ws.length c1 c2 rs W hH (WordRow.next hr (hb0.trans (hb.mono hb0.size))) hrl).mono (by
      rintro e w' ⟨v, rfl, h1, h2⟩
      obtain ⟨g, c, rfl⟩ := row_slice h1 (by omega)
      obtain ⟨h3, h4, h5⟩ := nats_of_row h1 (by omega)
      exact ⟨g, c, rfl, h3, h5, h4, h2⟩)
  obtain ⟨hN1, hN2⟩ := lomN_bd H
  have hVd := dsTo_validM (lomN H) rs (loomL 12 rs.length) hN1 (by omega) hk3 (by omega)
  have hDl := dsTo_len (lomN H) rs (loomL 12 rs.length)
  have hHk := fun i (hi : i < loomL 48 ws.length) => hsTo_nthT (lomN H) ws (loomL 48 ws.length) i hN1 hi
  have hHl := hsTo_len (lomN H) ws (loomL 48 ws.length)
  obtain ⟨L, hL⟩ : ∃ L, loomL 12 rs.length = L := ⟨_, rfl⟩
  obtain ⟨T, hT⟩ : ∃ T, loomL 48 ws.length = T := ⟨_, rfl⟩
  obtain ⟨N, hN⟩ : ∃ N, lomN H = N := ⟨_, rfl⟩
  rw [hL] at hk3 hk4
  rw [hT] at hk1 hk2
  rw [hN, hL] at hVd hDl
  simp only [hN, hL] at H64
  simp only [hN, hT] at H63 hHk hHl
  rw [hN] at hN1 hN2
  obtain ⟨DS, hDS⟩ : ∃ DS, dsTo N rs L = DS := ⟨_, rfl⟩
  obtain ⟨HS, hHS⟩ : ∃ HS, hsTo N ws T = HS := ⟨_, rfl⟩
  rw [hDS] at hVd hDl
  simp only [hDS] at H64
  simp only [hHS] at H63 hHk hHl
  clear hN hDS hL hT hHS
  have HVd := Lib.hid hVd
  have HDl := Lib.hid hDl
  have HHk := Lib.hid hHk
  have HHl := Lib.hid hHl
  have HW0 := Lib.hid hw0
  have Hb0 := Lib.hid hb0
  have HA := Lib.hid hA
  have HP := Lib.hid hP
  unfold lomA at HW0 H63 H64 HA ⊢
  have H63' := Lib.hid H63
  have H64' := Lib.hid H64
  clear hw0 hb0 hA hP hw hr hVd hDl H63 H64 hHl hHk
  go_enter Try.func9, Try.ntmps9
  go_upto_region 1 with fail
  rw [← HW0.out]
  refine region_tt1 w.heap.size N T L (.int .u8 (H : Int)) (.slice p1 ws.length c1) (.slice p2 rs.length c2) HS DS H63'.out H64'.out HA.out rfl ?hops (by kernel_rfl) (by kernel_rfl) (by kernel_rfl) (by kernel_rfl) ?hsz ?hout ?hend
  case hops => exact ⟨⟨_, _, _, rfl, by kernel_rfl⟩, ⟨_, _, _, rfl, by kernel_rfl⟩, ⟨_, _, _, rfl, by kernel_rfl⟩, ⟨_, _, _, rfl, by kernel_rfl⟩, ⟨_, _, _, rfl, by kernel_rfl⟩, ⟨_, _, _, rfl, by kernel_rfl⟩, ⟨_, _, _, rfl, by kernel_rfl⟩, ⟨_, _, _, rfl, by kernel_rfl⟩⟩
  case hsz => intro d hd; simp only [List.mem_cons, List.not_mem_nil, or_false] at hd; show d < 326; omega
  case hout => exact rfl
  case hend =>
    intro g29 q29 G29 Q29 g31 q31 G31 Q31 g5 q5 G5 Q5 g6 q6 G6 Q6 P29 P31 P5 P6 u28 u29 u30 u31 W1 hb1 hm29 hB29 hm31 hB31 hl5 hu5 hl6 hu6 hs5 hs6
    simp only [putL, List.foldl, Act.put, List.setIfInBounds_toArray, List.set_cons_succ, List.set_cons_zero]
    have hS1 : TtS w (w.heap.size + 1) g6 g31 q31 g5 g29 q29 N L T A0 A1 DS HS W1 := ⟨HP.out.next hb1, hs6, hs5, hm31.1, hm31.2, hm29.1, hm29.2, Hb0.out.trans (hb1.mono Hb0.out.size)⟩
    have HS1 := Lib.hid hS1
    clear HW0 H63' H64' Hb0 HA HP hb1 hm29 hB29 hm31 hB31 hl5 hu5 hl6 hu6 hs5 hs6 hS1
    go_upto_region 2 with fail
    refine region_tt2w N L g31 q31 g6 g29 q29 g5 T DS HS HDl.out HVd.out HS1.out.nd HS1.out.l2 HHl.out hk1 (by omega) HS1.out.nh HS1.out.lh HHk.out HS1.out.d HS1.out.e rfl ?hops (by kernel_rfl) (by kernel_rfl) (by kernel_rfl) (by kernel_rfl) ?hsz ?hout ?hend
    case hops => exact ⟨⟨_, _, _, rfl, by kernel_rfl⟩, ⟨_, _, _, rfl, by kernel_rfl⟩, ⟨_, _, _, rfl, by kernel_rfl⟩, ⟨_, _, _, rfl, by kernel_rfl⟩, ⟨_, _, _, rfl, by kernel_rfl⟩, ⟨_, _, _, rfl, by kernel_rfl⟩, ⟨_, _, _, rfl, by kernel_rfl⟩, ⟨_, _, _, rfl, by kernel_rfl⟩, ⟨_, _, _, rfl, by kernel_rfl⟩, ⟨_, _, _, rfl, by kernel_rfl⟩⟩
    case hsz => intro d hd; simp only [List.mem_cons, List.not_mem_nil, or_false] at hd; show d < 326; omega
    case hout => exact ⟨rfl, rfl⟩
    case hend =>
      intro g34 q34 G34 Q34 g36 q36 G36 Q36 g37 q37 G37 Q37 P34 P36 P37 u33 u34 u35 u36 u37 u32 u38 u39 W2 hb2 hm34 hB34 hm36 hB36 hm37 hB37
      simp only [putL, List.foldl, Act.put, List.setIfInBounds_toArray, List.set_cons_succ, List.set_cons_zero]
      have hgB : W1.heap.size ≤ g37 := (hB37 g37 (List.mem_singleton.2 rfl)).1
      have HS2 := Lib.hid (HS1.out.next hb2)
      have HC := Lib.hid hm37.1
      have hord : w.heap.size + 1 < W1.heap.size ∧ g6 < W1.heap.size ∧ g5 < W1.heap.size ∧ g31 < W1.heap.size ∧ g29 < W1.heap.size := ⟨HS1.out.p.lt, HS1.out.d.lt, HS1.out.e.lt, HS1.out.l2, HS1.out.lh⟩
      have Hord := Lib.hid (show w.heap.size + 1 < g37 ∧ g6 < g37 ∧ g5 < g37 ∧ g31 < g37 ∧ g29 < g37 from ⟨by omega, by omega, by omega, by omega, by omega⟩)
      clear hb2 hm34 hB34 hm36 hB36 hm37 hB37 HS1 hgB hord
      have HP0 := Lib.hid (show ClS (clothS HS DS) T (pks HS DS) from by have := cloth_ClS HS DS (by rw [HHl.out]; exact hk1) (by rw [HHl.out]; omega); rw [HHl.out] at this; exact this)
      have HPl := Lib.hid (show (pks HS DS).length = L from by rw [pks_len]; exact HDl.out)
      have H65 := Lib.hid (tieRight g37 q37 T L (pks HS DS) W2 (HP0.out.at HC.out.strs HC.out.lt) HPl.out (by omega))
      have d1 := HS2.out.d.cell' 1 rfl
      have e1 := HS2.out.e.cell' 1 rfl
      go_upto_region 3 with fail
      go_wp2_with fail
      refine H65.out.mono ?_
      rintro e W3 ⟨rfl, rfl⟩
      clear H65
      go_upto_region 5 with fail
      clear d1 e1
      have d0 := HS2.out.d.cell' 0 rfl
      have d1 := HS2.out.d.cell' 1 rfl
      have H37 := Lib.hid (call37w N L g31 q31 DS W3 HDl.out HVd.out HS2.out.nd HS2.out.l2)
      go_wp2_with fail
      refine H37.out.mono ?_
      rintro e W4 ⟨ga, qa, rfl, hna, hla, hga, hbc⟩
      have HS4 := Lib.hid (HS2.out.next hbc)
      have HC4 := Lib.hid (HC.out.next hbc)
      have Hord2 := Lib.hid (show g37 < ga from Nat.lt_of_lt_of_le HC.out.lt hla)
      have Hna := Lib.hid hna
      clear H37 hna hla hga hbc d0 d1 HS2 HC
      go_upto_region 6 with fail
      obtain ⟨W5, hW⟩ : ∃ W5, W5 = W4.alloc (.cells #[.int .i64 (N : Int), .slice (some ⟨ga, 0, none⟩) L qa] 37) := ⟨_, rfl⟩
      obtain ⟨B, hB⟩ : ∃ B, B = W4.heap.size := ⟨_, rfl⟩
      rw [← hW, ← hB]
      have hbW : Below W4.heap.size W4 W5 := by rw [hW]; exact (Below.refl _ _).alloc (Nat.le_refl _) _
      have hxB : BoxAt W5 B #[.int .i64 (N : Int), .slice (some ⟨ga, 0, none⟩) L qa] 37 := by rw [hW, hB]; exact BoxAt.new _ _ _
      have hgB : ga < B := by rw [hB]; exact Hna.out.lt
      clear hW hB
      have HS5 := Lib.hid (HS4.out.next hbW)
      have HC5 := Lib.hid (HC4.out.next hbW)
      have Hna5 := Lib.hid (Hna.out.next hbW)
      have HB5 := Lib.hid hxB
      have HgB := Lib.hid hgB
      clear hbW hxB HS4 HC4 Hna hgB
      have Hlt2 := Lib.hid (show w.heap.size ≤ g37 ∧ w.heap.size + 1 < g37 ∧ g6 < g37 ∧ g5 < g37 ∧ g31 < g37 ∧ g29 < g37 from ⟨by have := Hord.out; omega, Hord.out⟩)
      have hl5 := Hord.out
      have hl6 := Hord2.out
      have HT5 := Lib.hid (show T2S w (w.heap.size + 1) g6 g31 q31 g5 g29 q29 N L T A0 A1 DS HS g37 ga qa B (clothS HS DS) (andL (useL HS T) DS 0) W5 from ⟨HS5.out, HC5.out, by rw [andL_zero]; exact Hna5.out, HB5.out⟩)
      have Hlt := Lib.hid (show w.heap.size ≤ ga ∧ w.heap.size + 1 < ga ∧ g6 < ga ∧ g5 < ga ∧ g31 < ga ∧ g29 < ga ∧ g37 < ga ∧ ga < B from ⟨by omega, by omega, by omega, by omega, by omega, by omega, by omega, HgB.out⟩)
      clear HS5 HC5 Hna5 HB5 HgB hl5 hl6 Hord Hord2
      go_wp2_with fail
      go_loopw [10] (fun i wr => ∃ k : Nat, k ≤ L ∧ i = .int .i64 (k : Int) ∧ T2S w (w.heap.size + 1) g6 g31 q31 g5 g29 q29 N L T A0 A1 DS HS g37 ga qa B (clothS HS DS) (andL (useL HS T) DS k) wr) (fun i _ => L - (intOf i).toNat)
      case atStart => exact ⟨0, Nat.zero_le _, rfl, HT5.out⟩
      case round =>
        obtain ⟨k, hk, rfl, hS⟩ := hrel
        have d1 := hS.s.d.cell' 1 rfl
        have HS6 := Lib.hid hS
        clear hS HT5
        by_cases hkl : k < L
        · have hkD : k < DS.length := by rw [HDl.out]; exact hkl
          go_upto_region 9 with fail
          clear d1
          go_wp2_with fail
          go_loopw [11] (fun i wz => ∃ j : Nat, j ≤ T ∧ i = .int .i64 (j : Int) ∧ T2S w (w.heap.size + 1) g6 g31 q31 g5 g29 q29 N L T A0 A1 DS HS g37 ga qa B (clothS HS DS) (andL (useL HS T) DS k) wz) (fun i _ => T - (intOf i).toNat)
          case atStart => exact ⟨0, Nat.zero_le _, rfl, HS6.out⟩
          case round =>
            obtain ⟨j, hj, rfl, hS⟩ := hrel
            have e1 := hS.s.e.cell' 1 rfl
            have HS7 := Lib.hid hS
            by_cases hjT : j < T
            · have hjH : j < HS.length := by rw [HHl.out]; exact hjT
              have d1 := hS.s.d.cell' 1 rfl
              have hyc := hS.s.nd k hkD
              have hhc := hS.s.nh j hjH
              have hsc := hS.c.strs k (by rw [clothS_len]; exact hkD)
              rw [Nat.zero_add] at hyc hhc hsc
              have hsb := HP0.out.str k (by rw [pks_len]; exact hkD)
              have hidx := fun W => hsb.idx hjT W
              have hbb := pks_bit (hs := HS) (xs := DS) hkD hjH
              have hyl := HVd.out.lt' k
              have hhl := HHk.out j hjT
              clear hsb hS
              obtain ⟨y, hy⟩ : ∃ y, nthN DS k = y := ⟨_, rfl⟩
              obtain ⟨x, hx⟩ : ∃ x, nthN HS j = x := ⟨_, rfl⟩
              obtain ⟨s, hs⟩ : ∃ s, nthB (clothS HS DS) k = s := ⟨_, rfl⟩
              obtain ⟨pk, hpk⟩ : ∃ pk, nthN (pks HS DS) k = pk := ⟨_, rfl⟩
              rw [hy] at hyc hyl hbb
              rw [hx] at hhc hhl hbb
              rw [hs] at hsc hidx
              rw [hpk] at hidx hbb
              have hsh := shr_bit y x (by omega)
              have hun : IntKind.u64.wrap (x : Int) = (x : Int) := IntWalk.u64_in _ (by omega)
              have hm64 : min x 64 = x := by omega
              clear hy hx hs hpk
              cases hbt : bitN pk j with
              | true =>
                have hv : byteP pk j = 120 := by unfold byteP; rw [hbt]; rfl
                rw [hv] at hidx
                rw [← hbb, hbt] at hsh
                clear hbb hv hbt
                go_wp2_with fail
                go_region
                all_goals
                  (go_wp2_with fail
                   exact ⟨⟨j + 1, by omega, by go_num, HS7.out.drew⟩, by simp [intOf]; omega⟩)
              | false =>
                have hv : byteP pk j = 46 := by unfold byteP; rw [hbt]; rfl
                rw [hv] at hidx
                rw [← hbb, hbt] at hsh
                clear hbb hv hbt
                go_wp2_with fail
                go_region
                all_goals
                  (go_wp2_with fail
                   exact ⟨⟨j + 1, by omega, by go_num, HS7.out.drew⟩, by simp [intOf]; omega⟩)
            · obtain rfl : j = T := by omega
              clear hS
              go_upto_region 14 with fail
              have hS7 := HS7.out
              have b1 := hS7.x.cell' 1 rfl
              have e0 := hS7.s.e.cell' 0 rfl
              have hrc := hS7.a.nats k (by rw [andL_len]; exact hkD)
              rw [Nat.zero_add, andL_nth _ _ _ _ hkD, if_neg (Nat.lt_irrefl k)] at hrc
              have fr := hS7.a.frozen k
              have HU := Lib.hid (used_ok N g29 q29 j HS wr.drew HHl.out (by omega) (by omega) HHk.out hS7.s.nh hS7.s.lh)
              have hst := fun W (hb : Below wr.drew.heap.size wr.drew W) => (hS7.drew.next hb).step hkD Hlt.out.1 Hlt.out.2.1 Hlt.out.2.2.1 Hlt.out.2.2.2.1 Hlt.out.2.2.2.2.1 Hlt.out.2.2.2.2.2.1 Hlt.out.2.2.2.2.2.2.1 Hlt.out.2.2.2.2.2.2.2
              have hyl := HVd.out.lt' k
              have hul := useL_lt HS N (by rw [HHl.out]; exact HHk.out) j (by rw [HHl.out]; omega)
              have hul2 : useL HS j < 16777216 := Nat.lt_of_lt_of_le hul (Nat.le_trans (Nat.pow_le_pow_right (by decide) (show N ≤ 24 by omega)) (by decide))
              have Hnx := Lib.hid (fun W (hb : Below wr.drew.heap.size wr.drew W) => hS7.drew.next hb)
              clear hul hS7
              obtain ⟨y, hy⟩ : ∃ y, nthN DS k = y := ⟨_, rfl⟩
              rw [hy] at hrc hyl hst
              obtain ⟨U, hU⟩ : ∃ U, useL HS j = U := ⟨_, rfl⟩
              rw [hU] at HU hul2 Hnx
              have hq := i64_and_nat y U (by omega) (by omega)
              simp only [hU] at hst ⊢
              obtain ⟨z, hz⟩ : ∃ z, y &&& U = z := ⟨_, rfl⟩
              rw [hz] at hq hst
              have Hst := Lib.hid hst
              have Hy := Lib.hid hy
              have HUe := Lib.hid hU
              clear hst hy hz hU HS7 HS6
              go_region_law
                (go_simp; go_at_call 66; (with_reducible refine HU.out.mono ?_); rintro e w3 ⟨rfl, hb3⟩
                 have hS3 := Hnx.out w3 hb3
                 have y1 := hS3.x.cell' 1 rfl
                 have y2 := hS3.s.e.cell' 0 rfl
                 have y3 := hS3.s.e.cell' 1 rfl
                 have y4 : w3.cell? ⟨ga, k, none⟩ = some (.int .i64 (y : Int)) := by
                   have h := hS3.a.nats k (by rw [andL_len]; exact hkD)
                   rw [Nat.zero_add, andL_nth _ _ _ _ hkD, if_neg (Nat.lt_irrefl k), Hy.out] at h
                   exact h
                 have y5 := hS3.a.frozen k
                 have Hend := Lib.hid (Hst.out w3 hb3)
                 clear hS3 hb3)
              all_goals go_wp2_with fail
              all_goals exact ⟨⟨k + 1, by omega, by go_num, by rw [HUe.out]; exact Hend.out⟩, by simp [intOf]; omega⟩
        · obtain rfl : k = L := by omega
          have hwant : andL (useL HS T) DS k = dsnL HS (pks HS DS) := by rw [want_eq, HHl.out, HDl.out]
          rw [hwant] at HS6
          have Hlt := Hlt
          clear hwant
          go_upto_region 15 with fail
          clear d1
          have hS := HS6.out
          have e0 := hS.s.e.cell' 0 rfl
          have e1 := hS.s.e.cell' 1 rfl
          have H28 := Lib.hid (call28 N T g29 q29 HS _ HHl.out hk1 (by omega) hS.s.nh hS.s.lh)
          clear hS
          go_wp2_with fail
          refine H28.out.mono ?_
          rintro e X1 ⟨g120, q120, rfl, hna, hla, hga, hbc⟩
          have HS7 := Lib.hid (HS6.out.next hbc)
          have NH := Lib.hid (show NatL X1 g120 HS from ⟨hna, hga⟩)
          clear hna hla hga hbc HS6 H28 e0 e1
          have H47 := Lib.hid (call47 k g37 q37 (clothS HS DS) X1 (by rw [clothS_len]; exact HDl.out) (by omega) (by omega) HS7.out.c.strs HS7.out.c.lt)
          go_wp2_with fail
          refine H47.out.mono ?_
          rintro e X2 ⟨g122, q122, rfl, hna, hla, hga, hbc⟩
          have HS8 := Lib.hid (HS7.out.next hbc)
          have H48 := Lib.hid (call48n N T k g120 q120 g122 q122 HS (pks HS DS) (clothS HS DS) X2 HHl.out HPl.out (by rw [clothS_len]; exact HDl.out) hk1 (by omega) (by omega) (by omega) hN1 (by omega) HHk.out HP0.out (pks_no HS DS) (NH.out.next hbc).at' (NH.out.next hbc).lt hna hga)
          clear hna hla hga hbc HS7 H47 NH
          go_wp2_with fail
          refine H48.out.mono ?_
          rintro e X3 ⟨g123, q123, rfl, hna, hla, hga, hbc⟩
          have HS7 := Lib.hid (HS8.out.next hbc)
          have N12 := Lib.hid (show NatL X3 g123 (dsnL HS (pks HS DS)) from ⟨hna, hga⟩)
          clear hna hla hga hbc HS8 H48
          go_upto_region 16 with fail
          obtain ⟨W8, hW⟩ : ∃ W8, W8 = X3.alloc (.cells #[.int .i64 (N : Int), .slice (some ⟨g123, 0, none⟩) k q123] 37) := ⟨_, rfl⟩
          obtain ⟨B12, hB⟩ : ∃ B12, B12 = X3.heap.size := ⟨_, rfl⟩
          rw [← hW, ← hB]
          have hbW : Below X3.heap.size X3 W8 := by rw [hW]; exact (Below.refl _ _).alloc (Nat.le_refl _) _
          have hxB : BoxAt W8 B12 #[.int .i64 (N : Int), .slice (some ⟨g123, 0, none⟩) k q123] 37 := by rw [hW, hB]; exact BoxAt.new _ _ _
          clear hW hB
          have HS8 := Lib.hid (HS7.out.next hbW)
          replace N12 := Lib.hid (N12.out.next hbW)
          have X12 := Lib.hid hxB
          clear hbW hxB HS7
          have x0 := X12.out.cell' 0 rfl
          have x1 := X12.out.cell' 1 rfl
          have y0 := HS8.out.x.cell' 0 rfl
          have y1 := HS8.out.x.cell' 1 rfl
          have H67 := Lib.hid (tieIs_ok N k g123 q123 ga qa (dsnL HS (pks HS DS)) W8 (by rw [dsnL_len]; exact HPl.out) (by omega) N12.out.at' N12.out.lt HS8.out.a.nats HS8.out.a.lt)
          go_upto_region 16 with fail
          go_wp2_with fail
          refine H67.out.mono ?_
          rintro e W9 ⟨rfl, hb9⟩
          have HS9 := Lib.hid (HS8.out.s.next hb9)
          have HC9 := Lib.hid (HS8.out.c.next hb9)
          clear x0 x1 y0 y1 H67 X12 N12 hb9 HS8
          go_upto_region 18 with fail
          obtain ⟨p, hp⟩ : ∃ p, A0 % k = p := ⟨_, rfl⟩
          obtain ⟨v, hv⟩ : ∃ v, A1 % T = v := ⟨_, rfl⟩
          have hpl : p < k := by rw [← hp]; exact Nat.mod_lt _ (by omega)
          have hvl : v < T := by rw [← hv]; exact Nat.mod_lt _ (by omega)
          have Hp := Lib.hid hp
          have Hv := Lib.hid hv
          clear hp hv
          refine region_tt18 N k g31 q31 g6 g29 q29 g5 T (w.heap.size + 1) A0 A1 p v hA0 hA1 (by omega) (by omega) (by omega) (by omega) Hp.out Hv.out HS9.out.d HS9.out.e HS9.out.p rfl ?hops (by kernel_rfl) (by kernel_rfl) (by kernel_rfl) (by kernel_rfl) ?hsz ?hout ?hend
          case hops => exact ⟨⟨_, _, _, rfl, by kernel_rfl⟩, ⟨_, _, _, rfl, by kernel_rfl⟩, ⟨_, _, _, rfl, by kernel_rfl⟩, ⟨_, _, _, rfl, by kernel_rfl⟩, ⟨_, _, _, rfl, by kernel_rfl⟩, ⟨_, _, rfl, by kernel_rfl⟩, ⟨_, _, _, rfl, by kernel_rfl⟩, ⟨_, _, _, rfl, by kernel_rfl⟩, ⟨_, _, _, rfl, by kernel_rfl⟩, ⟨_, _, _, rfl, by kernel_rfl⟩, ⟨_, _, _, rfl, by kernel_rfl⟩, ⟨_, _, _, rfl, by kernel_rfl⟩, ⟨_, _, rfl, by kernel_rfl⟩, ⟨_, _, _, rfl, by kernel_rfl⟩, ⟨_, _, _, rfl, by kernel_rfl⟩, ⟨_, _, _, rfl, by kernel_rfl⟩⟩
          case hsz => intro d hd; simp only [List.mem_cons, List.not_mem_nil, or_false] at hd; show d < 326; omega
          case hout => exact ⟨rfl, rfl, rfl⟩
          case hend =>
            intro   u134 u135 u136 u137 u138 u139 u140 u141 u142 u143 u144 u145 u146 u147 W10 hb10 
            simp only [putL, List.foldl, Act.put, List.setIfInBounds_toArray, List.set_cons_succ, List.set_cons_zero]
            have HS10 := Lib.hid (HS9.out.next hb10)
            have HC10 := Lib.hid (HC9.out.next hb10)
            clear hb10 HS9 HC9 Hp Hv
            have hpD : p < DS.length := by rw [HDl.out]; exact hpl
            have hsc := HC10.out.strs p (by rw [clothS_len]; exact hpD)
            rw [Nat.zero_add] at hsc
            have hsb := HP0.out.str p (by rw [pks_len]; exact hpD)
            obtain ⟨s, hs⟩ : ∃ s, nthB (clothS HS DS) p = s := ⟨_, rfl⟩
            obtain ⟨pk, hpk⟩ : ∃ pk, nthN (pks HS DS) p = pk := ⟨_, rfl⟩
            rw [hs] at hsc hsb
            rw [hpk] at hsb
            have kc := fun (W : World) => run_bytes_of_string (P := Try.prog) W 9 89 5 s Try.underlying9 Try.underlying89 Try.underlying5
            have Hsb := Lib.hid hsb
            have Hs := Lib.hid hs
            have Hpk := Lib.hid hpk
            have Hn47 : g37 + 1 < g37 + 2 := by omega
            clear hs hpk hsb
            go_upto_region 19 with fail
            go_upto_region 20 with fail
            obtain ⟨cp, hcp⟩ : ∃ cp, grownCap W10 s.size 0 5 = cp := ⟨_, rfl⟩
            rw [hcp]
            have hY0 := ByB.new W10 s cp
            have hYb : Below W10.heap.size W10 (W10.alloc (.cells (bytesRow s cp) 5 ((bytesRow s cp).size, (bytesRow s cp).size + 1))).drew := ((Below.refl _ _).alloc (Nat.le_refl _) _).drew
            have hG37 := HC10.out.lt
            have hGd := HS10.out.d.lt
            have hGe := HS10.out.e.lt
            have hGp := HS10.out.p.lt
            have hG2 := HS10.out.l2
            have hGh := HS10.out.lh
            have hGw := HS10.out.b.size
            generalize (W10.alloc (.cells (bytesRow s cp) 5 ((bytesRow s cp).size, (bytesRow s cp).size + 1))).drew = Y0 at *
            have HS11 := Lib.hid (HS10.out.next hYb)
            have HC11 := Lib.hid (HC10.out.next hYb)
            obtain ⟨G, hG⟩ : ∃ G, G = W10.heap.size := ⟨_, rfl⟩
            rw [← hG] at hY0 hG37 hGd hGe hGp hG2 hGh hGw ⊢
            rw [Hsb.out.size]
            have hsl : s.data.toList.length = T := by rw [Array.length_toList]; exact Hsb.out.size
            clear hG hYb hcp kc HS10 HC10 hsc Hn47
            have HY := Lib.hid hY0
            have Hsl := Lib.hid hsl
            clear hY0 hsl
            have hvs : v < s.data.toList.length := by rw [Hsl.out]; exact hvl
            have yc := HY.out.cell v hvs
            have yf := HY.out.frozen v hvs
            have n1 : g37 ≠ G := by omega
            have HY1 := Lib.hid (HY.out.set v 120 hvs 120 rfl)
            have HS12 := Lib.hid (HS11.out.set (B := G) (j := v) (.int .u8 120) (by omega) (by omega) (by omega) (by omega) (by omega) (by omega))
            have HC12 := Lib.hid (HC11.out.at (B := G) (j := v) (.int .u8 120) n1)
            clear HY HS11 HC11
            have Hord3 := Lib.hid (show g37 < G ∧ g6 < G ∧ g5 < G ∧ w.heap.size + 1 < G ∧ g31 < G ∧ g29 < G ∧ w.heap.size ≤ G from ⟨hG37, hGd, hGe, hGp, hG2, hGh, hGw⟩)
            clear hG37 hGd hGe hGp hG2 hGh hGw n1
            go_upto_region 21 with fail
            clear yc yf hvs
            generalize Y0.setCell ⟨G, v, none⟩ (.int .u8 120) = Y1 at *
            have c10 := HC12.out.strs p (by rw [clothS_len]; exact hpD)
            rw [Nat.zero_add, Hs.out] at c10
            have hidx := fun W => Hsb.out.idx hvl W
            go_upto_if 162 with fail
            go_cut [] from 161 to 165 (fun wx => ∃ (Wc : World) (l : List UInt8), wx = Wc ∧ l.length = T ∧ ByB Wc G l ∧ StrB ⟨l.toArray⟩ T (pk ^^^ 2 ^ v) ∧ TtS w (w.heap.size + 1) g6 g31 q31 g5 g29 q29 N k T A0 A1 DS HS Wc ∧ StrRw Wc g37 (clothS HS DS))
            case first =>
              clear c10 hidx
              have hvs : v < (s.data.toList.set v 120).length := by rw [List.length_set, Hsl.out]; exact hvl
              cases hbt : bitN pk v with
              | true =>
                have hv : byteP pk v = 120 := by unfold byteP; rw [hbt]; rfl
                rw [hv]
                have yc := HY1.out.cell v hvs
                have yf := HY1.out.frozen v hvs
                have hB2 := HY1.out.set v 46 hvs 46 rfl
                rw [List.set_set] at hB2
                have hx : (46 : UInt8) = UInt8.ofNat (byteP (pk ^^^ 2 ^ v) v).toNat := by
                  have : bitN (pk ^^^ 2 ^ v) v = false := by
                    unfold bitN at hbt ⊢
                    rw [Nat.testBit_xor, Nat.testBit_two_pow, hbt]; simp
                  unfold byteP; rw [this]; rfl
                have hfl := Hsb.out.flip hvl 46 hx
                have Hfin := Lib.hid (show _ ∧ _ from ⟨hB2, hfl⟩)
                have Hn := Lib.hid (show g37 ≠ G from by have := Hord3.out; omega)
                have HS13 := Lib.hid (HS12.out.set (B := G) (j := v) (.int .u8 46) (by have := Hord3.out; omega) (by have := Hord3.out; omega) (by have := Hord3.out; omega) (by have := Hord3.out; omega) (by have := Hord3.out; omega) (by have := Hord3.out; omega))
                clear hv hB2 hx hfl
                go_wp2_with fail
                go_meet
                exact ⟨_, _, rfl, by rw [List.length_set]; exact Hsl.out, Hfin.out.1, Hfin.out.2, HS13.out, HC12.out.at _ Hn.out⟩
              | false =>
                have hv : byteP pk v = 46 := by unfold byteP; rw [hbt]; rfl
                rw [hv]
                have hx : (120 : UInt8) = UInt8.ofNat (byteP (pk ^^^ 2 ^ v) v).toNat := by
                  have : bitN (pk ^^^ 2 ^ v) v = true := by
                    unfold bitN at hbt ⊢
                    rw [Nat.testBit_xor, Nat.testBit_two_pow, hbt]; simp
                  unfold byteP; rw [this]; rfl
                have Hfin := Lib.hid (Hsb.out.flip hvl 120 hx)
                clear hv hx hvs
                go_wp2_with fail
                go_meet
                exact ⟨_, _, rfl, by rw [List.length_set]; exact Hsl.out, HY1.out, Hfin.out, HS12.out, HC12.out⟩
            case rest =>
              obtain ⟨Wc, l, hWc, hll, hB, hSB, hT1, hR1⟩ := hcut
              rw [hWc]
              clear hWc
              have kb := hB.back cp T hll
              have cf := hR1.frozen p
              have c10 := hR1.strs p (by rw [clothS_len]; exact hpD)
              rw [Nat.zero_add] at c10
              have HT1 := Lib.hid (hT1.set (B := g37) (j := p) (.string ⟨l.toArray⟩) (by have := Hlt2.out; omega) (by have := Hlt2.out; omega) (by have := Hlt2.out; omega) (by have := Hlt2.out; omega) (by have := Hlt2.out; omega) (by have := Hlt2.out; omega))
              have HR1 := Lib.hid (hR1.set p ⟨l.toArray⟩ (by rw [clothS_len]; exact hpD))
              have HQ := Lib.hid (show ClS ((clothS HS DS).set p ⟨l.toArray⟩) T (chgL (pks HS DS) p v) from by
                refine ⟨by rw [List.length_set, chgL_len]; exact HP0.out.len, fun i hi => ?_⟩
                rw [chgL_len] at hi
                rw [nthB_set _ _ _ _ (by rw [clothS_len]; exact hpD), chgL_nth _ _ _ _ (by rw [pks_len]; exact hpD)]
                by_cases e : i = p
                · rw [if_pos e, if_pos e, Hpk.out]; exact hSB
                · rw [if_neg e, if_neg e]; exact HP0.out.str i hi)
              clear hll hB hSB hT1 hR1
              go_upto_region 24 with fail
              clear kb cf c10
              generalize hY : Wc.setCell ⟨g37, p, none⟩ (.string ⟨l.toArray⟩) = Y2 at *
              obtain ⟨SS, hSS⟩ : ∃ SS, (clothS HS DS).set p ⟨l.toArray⟩ = SS := ⟨_, rfl⟩
              rw [hSS] at HR1 HQ
              clear hSS hY
              go_wp2_with fail
              go_loopw [17, 18, 19] (fun a f i wr => ∃ q : Nat, q ≤ T ∧ i = .int .i64 (q : Int) ∧ a = .bool (alB HS v q) ∧ f = .int .i64 (fsB HS v q : Int) ∧ TtS w (w.heap.size + 1) g6 g31 q31 g5 g29 q29 N k T A0 A1 DS HS wr ∧ StrRw wr g37 SS) (fun _ _ i _ => T - (intOf i).toNat)
              case atStart => exact ⟨0, Nat.zero_le _, rfl, rfl, by rw [fsB_zero], HT1.out, HR1.out⟩
              case round =>
                obtain ⟨q, hq, rfl, rfl, rfl, hT, hR⟩ := hrel
                have e1 := hT.e.cell' 1 rfl
                have HT := Lib.hid hT
                have HR := Lib.hid hR
                clear hT hR HT1 HR1
                by_cases hqT : q < T
                · have hcq := HT.out.nh q (by rw [HHl.out]; exact hqT)
                  have hcv := HT.out.nh v (by rw [HHl.out]; exact hvl)
                  rw [Nat.zero_add] at hcq hcv
                  obtain ⟨f0, hf0⟩ : ∃ f0, fsB HS v q = f0 := ⟨_, rfl⟩
                  obtain ⟨a0, ha0⟩ : ∃ a0, alB HS v q = a0 := ⟨_, rfl⟩
                  obtain ⟨x, hx⟩ : ∃ x, nthN HS q = x := ⟨_, rfl⟩
                  obtain ⟨y, hy⟩ : ∃ y, nthN HS v = y := ⟨_, rfl⟩
                  have Hmiss := Lib.hid (fs_miss (hs := HS) (v := v) (k := q))
                  have Hamiss := Lib.hid (al_miss (hs := HS) (v := v) (k := q))
                  rw [hf0, hx, hy] at Hmiss
                  rw [ha0, hx, hy] at Hamiss
                  have Hf0 := Lib.hid hf0
                  rw [hf0, ha0]
                  rw [hx] at hcq
                  rw [hy] at hcv
                  have Hal := Lib.hid (al_hit (hs := HS) (v := v) (k := q))
                  have Hfs := Lib.hid (fs_hit (hs := HS) (v := v) (k := q))
                  rw [hx, hy] at Hal Hfs
                  rw [hf0] at Hfs
                  clear hx hy hf0 ha0
                  by_cases hqv : q = v
                  · have h1 := Hmiss.out (fun h => h.1 hqv)
                    have h2 := Hamiss.out (fun h => h.1 hqv)
                    have Hend := Lib.hid (show _ ∧ _ from ⟨h1, h2⟩)
                    have hd : ((q : Int) != (v : Int)) = false := by rw [hqv]; simp
                    clear h1 h2 hqv Hmiss Hamiss Hal Hfs
                    go_upto_region 28 with fail
                    clear e1
                    go_quiet (fail)
                    all_goals go_wp2_with fail
                    all_goals exact ⟨⟨q + 1, by omega, by go_num, by rw [Hend.out.2], by rw [Hend.out.1], HT.out.next (below_drewN _ _ _), HR.out.next (below_drewN _ _ _)⟩, by simp [intOf]; omega⟩
                  · have hd : ((q : Int) != (v : Int)) = true := by simp; omega
                    by_cases hxy : x = y
                    · have hd2 : ((x : Int) == (y : Int)) = true := by rw [hxy]; simp
                      have h1 := Hal.out hqv hxy
                      rcases Hfs.out hqv hxy with ⟨h2, h3⟩ | ⟨h2, h3⟩
                      · have Hend := Lib.hid (show _ ∧ _ from ⟨h2, h1⟩)
                        clear h1 h2 Hmiss Hamiss Hal Hfs hxy hqv
                        go_upto_region 28 with fail
                        go_quiet (fail)
                        all_goals go_wp2_with fail
                        all_goals exact ⟨⟨q + 1, by omega, by go_num, by rw [Hend.out.2], by rw [Hend.out.1], HT.out.next (below_drewN _ _ _), HR.out.next (below_drewN _ _ _)⟩, by simp [intOf]; omega⟩
                      · have Hend := Lib.hid (show _ ∧ _ from ⟨h2, h1⟩)
                        clear h1 h2 Hmiss Hamiss Hal Hfs hxy hqv
                        go_upto_region 28 with fail
                        go_quiet (fail)
                        all_goals go_wp2_with fail
                        all_goals exact ⟨⟨q + 1, by omega, by go_num, by rw [Hend.out.2], by rw [Hend.out.1], HT.out.next (below_drewN _ _ _), HR.out.next (below_drewN _ _ _)⟩, by simp [intOf]; omega⟩
                    · have hd2 : ((x : Int) == (y : Int)) = false := by simp; omega
                      have h1 := Hmiss.out (fun h => hxy h.2)
                      have h2 := Hamiss.out (fun h => hxy h.2)
                      have Hend := Lib.hid (show _ ∧ _ from ⟨h1, h2⟩)
                      clear h1 h2 hqv hxy Hmiss Hamiss Hal Hfs
                      go_upto_region 28 with fail
                      go_quiet (fail)
                      all_goals go_wp2_with fail
                      all_goals exact ⟨⟨q + 1, by omega, by go_num, by rw [Hend.out.2], by rw [Hend.out.1], HT.out.next (below_drewN _ _ _), HR.out.next (below_drewN _ _ _)⟩, by simp [intOf]; omega⟩
                · obtain rfl : q = T := by omega
                  rw [fsB_all hvl]
                  obtain ⟨CP, hCP⟩ : ∃ CP, chgL (pks HS DS) p v = CP := ⟨_, rfl⟩
                  have HCl := Lib.hid (show CP.length = k from by rw [← hCP, chgL_len]; exact HPl.out)
                  rw [hCP] at HQ
                  have HSl := Lib.hid (show SS.length = k from by rw [HQ.out.len]; exact HCl.out)
                  have e0 := HT.out.e.cell' 0 rfl
                  have H28 := Lib.hid (call28 N q g29 q29 HS _ HHl.out hk1 (by omega) HT.out.nh HT.out.lh)
                  go_upto_region 30 with fail
                  go_wp2_with fail
                  refine H28.out.mono ?_
                  rintro e X1 ⟨g200, q200, rfl, hna, hla, hga, hbc⟩
                  have HT3 := Lib.hid (HT.out.next hbc)
                  have HR3 := Lib.hid (HR.out.next hbc)
                  have NH := Lib.hid (show NatL X1 g200 HS from ⟨hna, hga⟩)
                  clear hna hla hga hbc HT HR H28 e0 e1
                  have H47 := Lib.hid (call47 k g37 q37 SS X1 HSl.out (by omega) (by omega) HR3.out.strs HR3.out.lt)
                  go_wp2_with fail
                  refine H47.out.mono ?_
                  rintro e X2 ⟨g202, q202, rfl, hna, hla, hga, hbc⟩
                  have HT4 := Lib.hid (HT3.out.next hbc)
                  have HR4 := Lib.hid (HR3.out.next hbc)
                  have NH2 := Lib.hid (NH.out.next hbc)
                  have NS := Lib.hid (show StrsAt X2 g202 0 SS ∧ g202 < X2.heap.size from ⟨hna, hga⟩)
                  clear hna hla hga hbc HT3 HR3 H47 NH
                  cases hal : alB HS v q with
                  | true =>
                    have ha : Alone HS v := fun i hi hne => (al_iff HS v q).1 hal i (by rw [← HHl.out]; exact hi) hne
                    have HN := Lib.hid (show NoPart HS CP from by rw [← hCP]; exact alone_no (by rw [pks_len]; exact hpD) (pks_no HS DS) ha)
                    have H48 := Lib.hid (call48n N q k g200 q200 g202 q202 HS CP SS X2 HHl.out HCl.out HSl.out hk1 (by omega) (by omega) (by omega) hN1 (by omega) HHk.out HQ.out HN.out NH2.out.at' NH2.out.lt NS.out.1 NS.out.2)
                    clear ha hal hCP NH2 NS
                    go_wp2_with fail
                    refine H48.out.mono ?_
                    rintro e X3 ⟨g203, q203, rfl, hna, hla, hga, hbc⟩
                    have HT5 := Lib.hid (HT4.out.next hbc)
                    have HR5 := Lib.hid (HR4.out.next hbc)
                    have N20 := Lib.hid (show NatL X3 g203 (dsnL HS CP) from ⟨hna, hga⟩)
                    clear hna hla hga hbc HT4 HR4 H48
                    go_upto_region 31 with fail
                    obtain ⟨X4, hW⟩ : ∃ X4, X4 = X3.alloc (.cells #[.int .i64 (N : Int), .slice (some ⟨g203, 0, none⟩) k q203] 37) := ⟨_, rfl⟩
                    obtain ⟨B20, hB⟩ : ∃ B20, B20 = X3.heap.size := ⟨_, rfl⟩
                    rw [← hW, ← hB]
                    have hbW : Below X3.heap.size X3 X4 := by rw [hW]; exact (Below.refl _ _).alloc (Nat.le_refl _) _
                    have hxB : BoxAt X4 B20 #[.int .i64 (N : Int), .slice (some ⟨g203, 0, none⟩) k q203] 37 := by rw [hW, hB]; exact BoxAt.new _ _ _
                    clear hW hB
                    have HT6 := Lib.hid (HT5.out.next hbW)
                    have HR6 := Lib.hid (HR5.out.next hbW)
                    have N21 := Lib.hid (N20.out.next hbW)
                    have X20 := Lib.hid hxB
                    clear hbW hxB HT5 HR5 N20
                    have e0 := HT6.out.e.cell' 0 rfl
                    have e1 := HT6.out.e.cell' 1 rfl
                    have H28 := Lib.hid (call28 N q g29 q29 HS _ HHl.out hk1 (by omega) HT6.out.nh HT6.out.lh)
                    go_wp2_with fail
                    refine H28.out.mono ?_
                    rintro e X5 ⟨g208, q208, rfl, hna, hla, hga, hbc⟩
                    have HT7 := Lib.hid (HT6.out.next hbc)
                    have HR7 := Lib.hid (HR6.out.next hbc)
                    have N22 := Lib.hid (N21.out.next hbc)
                    have X21 := Lib.hid (X20.out.next hbc)
                    have NH := Lib.hid (show NatL X5 g208 HS from ⟨hna, hga⟩)
                    clear hna hla hga hbc HT6 HR6 H28 e0 e1 N21 X20
                    have H47 := Lib.hid (call47 k g37 q37 SS X5 HSl.out (by omega) (by omega) HR7.out.strs HR7.out.lt)
                    go_wp2_with fail
                    refine H47.out.mono ?_
                    rintro e X6 ⟨g210, q210, rfl, hna, hla, hga, hbc⟩
                    have HT8 := Lib.hid (HT7.out.next hbc)
                    have HR8 := Lib.hid (HR7.out.next hbc)
                    have N23 := Lib.hid (N22.out.next hbc)
                    have X22 := Lib.hid (X21.out.next hbc)
                    have H49 := Lib.hid (call49n N q k g208 q208 g210 q210 HS CP SS X6 HHl.out HCl.out HSl.out hk1 (by omega) (by omega) (by omega) hN1 (by omega) HHk.out HQ.out HN.out (NH.out.next hbc).at' (NH.out.next hbc).lt hna hga)
                    clear hna hla hga hbc HT7 HR7 H47 NH N22 X21
                    go_wp2_with fail
                    refine H49.out.mono ?_
                    rintro e X7 ⟨rfl, hbc⟩
                    have HT9 := Lib.hid (HT8.out.next hbc)
                    have HR9 := Lib.hid (HR8.out.next hbc)
                    have N24 := Lib.hid (N23.out.next hbc)
                    have X23 := Lib.hid (X22.out.next hbc)
                    clear hbc HT8 HR8 H49 N23 X22
                    go_upto_region 33 with fail
                    have HVv := Lib.hid (dsn_valid (hs := HS) (ps := CP) (N := N) (by rw [HHl.out]; exact HHk.out) hN1 (by omega) (by rw [HCl.out]; exact hk3) (by rw [HCl.out]; omega))
            
                    refine region_tt33 N k g203 q203 B20 g29 q29 g5 q (dsnL HS CP) HS (by rw [dsnL_len]; exact HCl.out) HVv.out N24.out.at' N24.out.lt HHl.out hk1 (by omega) HT9.out.nh HT9.out.lh HHk.out HT9.out.e X23.out rfl ?hops (by kernel_rfl) (by kernel_rfl) (by kernel_rfl) (by kernel_rfl) ?hsz ?hout ?hend
                    case hops => exact ⟨⟨_, _, _, rfl, by kernel_rfl⟩, ⟨_, _, _, rfl, by kernel_rfl⟩, ⟨_, _, _, rfl, by kernel_rfl⟩, ⟨_, _, _, rfl, by kernel_rfl⟩, ⟨_, _, _, rfl, by kernel_rfl⟩, ⟨_, _, _, rfl, by kernel_rfl⟩, ⟨_, _, _, rfl, by kernel_rfl⟩, ⟨_, _, _, rfl, by kernel_rfl⟩, ⟨_, _, _, rfl, by kernel_rfl⟩⟩
                    case hsz => intro d hd; simp only [List.mem_cons, List.not_mem_nil, or_false] at hd; show d < 326; omega
                    case hout => exact ⟨rfl, rfl⟩
                    case hend =>
                      intro g219 q219 G219 Q219 g221 q221 G221 Q221 P219 P221 u218 u219 u220 u221 u217 u222 u223 X8 hb8 hm219 hB219 hm221 hB221
                      simp only [putL, List.foldl, Act.put, List.setIfInBounds_toArray, List.set_cons_succ, List.set_cons_zero]
                      have hag : clothS HS (dsnL HS CP) = SS := again_eq (hs := HS) (ps := CP) (by rw [HHl.out]; exact hk1) (by rw [HHl.out]; omega) HN.out (fun i hi => by rw [HHl.out]; exact (HQ.out.str i hi).lt) (by rw [HHl.out]; exact HQ.out)
                      rw [hag] at hm221
                      have HR10 := Lib.hid (HR9.out.next hb8)
                      have HBw := Lib.hid (HT9.out.next hb8).b
                      have H68 := Lib.hid (tieSame_ok k g221 q221 g37 q37 SS X8 HSl.out (by omega) hm221.1 HR10.out.strs)
                      clear hag hb8 hm219 hB219 hm221 hB221 HVv HT9 HR9 N24 X23
                      go_upto_region 34 with fail
                      go_wp2_with fail
                      refine H68.out.mono ?_
                      rintro e X9 ⟨rfl, hb9⟩
                      go_wp2_with fail
                      refine (tieKnown _).mono ?_
                      rintro e X10 ⟨rfl, hb10⟩
                      have Hend := Lib.hid (show Below w.heap.size w X10 from (HBw.out.trans (hb9.mono HBw.out.size)).trans (hb10.mono (Nat.le_trans HBw.out.size hb9.size)))
                      clear hb9 hb10
                      go_wp2_with fail
                      go_ret
                      exact ⟨rfl, Hend.out⟩
                  | false =>
                    have hna2 : ¬ Alone HS v := fun ha => by
                      have := (al_iff HS v q).2 (fun i hi hne => ha i (by rw [HHl.out]; exact hi) hne)
                      rw [hal] at this; cases this
                    obtain ⟨z, hPA, hzl, hzk, hzf, hfz, hbne, hor⟩ := part_chg (hs := HS) (ps := pks HS DS) (p := p) (w := v) (by rw [pks_len]; exact hpD) (by rw [HHl.out]; exact hvl) (pks_no HS DS) hna2
                    rw [hCP] at hPA hbne
                    rw [HHl.out] at hzl
                    obtain ⟨f, hf⟩ : ∃ f, fstI (nthN HS) v = f := ⟨_, rfl⟩
                    rw [hf] at hzf hfz hbne hor ⊢
                    have hkf : nthN HS f = nthN HS v := by rw [← hf]; exact fstI_key v
                    have HPA := Lib.hid hPA
                    have Hzf := Lib.hid hzf
                    have Hzk := Lib.hid hzk
                    have Hkf := Lib.hid hkf
                    have Hbne := Lib.hid hbne
                    have Hor := Lib.hid hor
                    have H48 := Lib.hid (call48p N q k p z g200 q200 g202 q202 HS CP SS X2 HHl.out HCl.out HSl.out hk1 (by omega) (by omega) (by omega) hN1 (by omega) HHk.out HQ.out HPA.out NH2.out.at' NH2.out.lt NS.out.1 NS.out.2)
                    clear hf hna2 hal hCP hPA hzf hzk hkf hbne hor NH2 NS
                    go_wp2_with fail
                    refine H48.out.mono ?_
                    rintro e X3 ⟨rfl, hbc⟩
                    have HT5 := Lib.hid (HT4.out.next hbc)
                    have HR5 := Lib.hid (HR4.out.next hbc)
                    clear hbc HT4 HR4 H48
                    go_upto_region 31 with fail
                    obtain ⟨X4, hW⟩ : ∃ X4, X4 = X3.alloc (.cells #[.int .i64 0, .slice none 0 0] 37) := ⟨_, rfl⟩
                    rw [← hW]
                    have hbW : Below X3.heap.size X3 X4 := by rw [hW]; exact (Below.refl _ _).alloc (Nat.le_refl _) _
                    clear hW
                    have HT6 := Lib.hid (HT5.out.next hbW)
                    have HR6 := Lib.hid (HR5.out.next hbW)
                    clear hbW HT5 HR5
                    have e0 := HT6.out.e.cell' 0 rfl
                    have e1 := HT6.out.e.cell' 1 rfl
                    have H28 := Lib.hid (call28 N q g29 q29 HS _ HHl.out hk1 (by omega) HT6.out.nh HT6.out.lh)
                    go_wp2_with fail
                    refine H28.out.mono ?_
                    rintro e X5 ⟨g208, q208, rfl, hna, hla, hga, hbc⟩
                    have HT7 := Lib.hid (HT6.out.next hbc)
                    have HR7 := Lib.hid (HR6.out.next hbc)
                    have NH := Lib.hid (show NatL X5 g208 HS from ⟨hna, hga⟩)
                    clear hna hla hga hbc HT6 HR6 H28 e0 e1
                    have H47 := Lib.hid (call47 k g37 q37 SS X5 HSl.out (by omega) (by omega) HR7.out.strs HR7.out.lt)
                    go_wp2_with fail
                    refine H47.out.mono ?_
                    rintro e X6 ⟨g210, q210, rfl, hna, hla, hga, hbc⟩
                    have HT8 := Lib.hid (HT7.out.next hbc)
                    have HR8 := Lib.hid (HR7.out.next hbc)
                    have H49 := Lib.hid (call49p N q k p z f g208 q208 g210 q210 HS CP SS X6 HHl.out HCl.out HSl.out hk1 (by omega) (by omega) (by omega) hN1 (by omega) HHk.out HQ.out HPA.out Hzf.out (NH.out.next hbc).at' (NH.out.next hbc).lt hna hga)
                    clear hna hla hga hbc HT7 HR7 H47 NH
                    go_wp2_with fail
                    refine H49.out.mono ?_
                    rintro e X7 ⟨rfl, hbc⟩
                    have HT9 := Lib.hid (HT8.out.next hbc)
                    have HR9 := Lib.hid (HR8.out.next hbc)
                    clear hbc HT8 HR8 H49
                    obtain ⟨y, hy⟩ : ∃ y, nthN HS v = y := ⟨_, rfl⟩
                    have Hy1 := Lib.hid (Hzk.out.trans hy)
                    have Hy2 := Lib.hid (Hkf.out.trans hy)
                    have Hy3 := Lib.hid hy
                    clear hy
                    go_upto_region 35 with fail
                    refine region_tt35 N q g29 q29 g5 p z f v y HS HHl.out (by omega) HT9.out.nh HT9.out.lh (by omega) (by omega) (by omega) (by omega) Hy1.out Hy2.out Hy3.out HT9.out.e rfl ?hops (by kernel_rfl) (by kernel_rfl) (by kernel_rfl) (by kernel_rfl) ?hsz ?hout ?hend
                    case hops => exact ⟨⟨_, _, _, rfl, by kernel_rfl⟩, ⟨_, _, _, rfl, by kernel_rfl⟩, ⟨_, _, _, rfl, by kernel_rfl⟩, ⟨_, _, _, rfl, by kernel_rfl⟩, ⟨_, _, _, rfl, by kernel_rfl⟩, ⟨_, _, _, rfl, by kernel_rfl⟩, ⟨_, _, _, rfl, by kernel_rfl⟩, ⟨_, _, _, rfl, by kernel_rfl⟩, ⟨_, _, _, rfl, by kernel_rfl⟩, ⟨_, _, _, rfl, by kernel_rfl⟩, ⟨_, _, _, rfl, by kernel_rfl⟩, ⟨_, _, _, rfl, by kernel_rfl⟩, ⟨_, _, _, rfl, by kernel_rfl⟩, ⟨_, _, _, rfl, by kernel_rfl⟩, ⟨_, _, _, rfl, by kernel_rfl⟩, ⟨_, _, _, rfl, by kernel_rfl⟩, ⟨_, _, _, rfl, by kernel_rfl⟩, ⟨_, _, _, rfl, by kernel_rfl⟩, ⟨_, _, _, rfl, by kernel_rfl⟩, ⟨_, _, _, rfl, by kernel_rfl⟩, ⟨_, _, rfl, by kernel_rfl⟩, ⟨_, _, _, rfl, by kernel_rfl⟩, ⟨_, _, _, rfl, by kernel_rfl⟩, ⟨_, _, _, rfl, by kernel_rfl⟩, ⟨_, _, _, rfl, by kernel_rfl⟩, ⟨_, _, _, rfl, by kernel_rfl⟩, ⟨_, _, _, rfl, by kernel_rfl⟩, ⟨_, _, _, rfl, by kernel_rfl⟩, ⟨_, _, _, rfl, by kernel_rfl⟩, ⟨_, _, _, rfl, by kernel_rfl⟩, ⟨_, _, _, rfl, by kernel_rfl⟩, ⟨_, _, _, rfl, by kernel_rfl⟩, ⟨_, _, _, rfl, by kernel_rfl⟩, ⟨_, _, _, rfl, by kernel_rfl⟩, ⟨_, _, _, rfl, by kernel_rfl⟩, ⟨_, _, _, rfl, by kernel_rfl⟩, ⟨_, _, _, rfl, by kernel_rfl⟩, ⟨_, _, _, rfl, by kernel_rfl⟩, ⟨_, _, _, rfl, by kernel_rfl⟩, ⟨_, _, _, rfl, by kernel_rfl⟩, ⟨_, _, _, rfl, by kernel_rfl⟩, ⟨_, _, _, rfl, by kernel_rfl⟩, ⟨_, _, _, rfl, by kernel_rfl⟩, ⟨_, _, _, rfl, by kernel_rfl⟩, ⟨_, _, _, rfl, by kernel_rfl⟩, ⟨_, _, _, rfl, by kernel_rfl⟩, ⟨_, _, _, rfl, by kernel_rfl⟩, ⟨_, _, _, rfl, by kernel_rfl⟩, ⟨_, _, _, rfl, by kernel_rfl⟩, ⟨_, _, _, rfl, by kernel_rfl⟩, ⟨_, _, _, rfl, by kernel_rfl⟩, ⟨_, _, _, rfl, by kernel_rfl⟩, ⟨_, _, _, rfl, by kernel_rfl⟩⟩
                    case hsz => intro d hd; simp only [List.mem_cons, List.not_mem_nil, or_false] at hd; show d < 326; omega
                    case hout => exact ⟨rfl, rfl, rfl, rfl, rfl, rfl, rfl, rfl⟩
                    case hend =>
                      intro   u242 u243 u244 u245 u246 u247 u248 u249 u250 u251 u252 u253 u254 u255 u256 u257 u258 u259 u260 u261 u262 u263 u264 u265 u266 u267 u268 u269 u270 u271 u272 u273 u274 u275 u276 u277 u278 u279 u280 u281 u282 u283 u284 u285 u286 u287 u288 u289 u290 u291 u292 u293 X8 hb8 
                      simp only [putL, List.foldl, Act.put, List.setIfInBounds_toArray, List.set_cons_succ, List.set_cons_zero]
                      have HR10 := Lib.hid (HR9.out.next hb8)
                      have HBw := Lib.hid (HT9.out.next hb8).b
                      have hpk2 : p < SS.length := by rw [HSl.out]; exact hpl
                      have hsb2 := HQ.out.str p (by rw [HCl.out]; exact hpl)
                      obtain ⟨s2, hs2⟩ : ∃ s2, nthB SS p = s2 := ⟨_, rfl⟩
                      obtain ⟨pc, hpc⟩ : ∃ pc, nthN CP p = pc := ⟨_, rfl⟩
                      rw [hs2, hpc] at hsb2
                      have Hs2 := Lib.hid hs2
                      have Hi1 := Lib.hid (fun W => hsb2.idx hzl W)
                      have Hi2 := Lib.hid (fun W => hsb2.idx (show f < q by omega) W)
                      have HX := Lib.hid (show (byteP pc z != byteP pc f) = true from by
                        have h := Hbne.out
                        rw [hpc] at h
                        unfold byteP
                        cases h1 : bitN pc z <;> cases h2 : bitN pc f
                        · rw [h1, h2] at h; exact absurd rfl h
                        · rfl
                        · rfl
                        · rw [h1, h2] at h; exact absurd rfl h)
                      clear hb8 hs2 hpc hsb2 hpk2 Hy1 Hy2 Hy3 HT9 HR9
                      go_upto_region 37 with fail
                      by_cases hvf : v = f
                      · have Hv := Lib.hid (show ((v : Int) == (f : Int)) = true from by rw [hvf]; simp)
                        clear hvf
                        refine region_tt37a k g37 q37 p z f v SS s2 _ _ HSl.out hpl HR10.out.strs HR10.out.lt Hs2.out Hi1.out Hi2.out HX.out Hv.out rfl ?hops (by kernel_rfl) (by kernel_rfl) (by kernel_rfl) (by kernel_rfl) ?hsz ?hout ?hend
                        case hops => exact ⟨⟨_, _, _, rfl, by kernel_rfl⟩, ⟨_, _, _, rfl, by kernel_rfl⟩, ⟨_, _, _, rfl, by kernel_rfl⟩, ⟨_, _, _, rfl, by kernel_rfl⟩, ⟨_, _, _, rfl, by kernel_rfl⟩, ⟨_, _, _, rfl, by kernel_rfl⟩, ⟨_, _, _, rfl, by kernel_rfl⟩, ⟨_, _, _, rfl, by kernel_rfl⟩, ⟨_, _, _, rfl, by kernel_rfl⟩, ⟨_, _, _, rfl, by kernel_rfl⟩, ⟨_, _, _, rfl, by kernel_rfl⟩, ⟨_, _, _, rfl, by kernel_rfl⟩, ⟨_, _, _, rfl, by kernel_rfl⟩, ⟨_, _, _, rfl, by kernel_rfl⟩, ⟨_, _, _, rfl, by kernel_rfl⟩, ⟨_, _, _, rfl, by kernel_rfl⟩, ⟨_, _, _, rfl, by kernel_rfl⟩, ⟨_, _, _, rfl, by kernel_rfl⟩, ⟨_, _, _, rfl, by kernel_rfl⟩, ⟨_, _, _, rfl, by kernel_rfl⟩, ⟨_, _, _, rfl, by kernel_rfl⟩, ⟨_, _, _, rfl, by kernel_rfl⟩, ⟨_, _, _, rfl, by kernel_rfl⟩, ⟨_, _, _, rfl, by kernel_rfl⟩, ⟨_, _, _, rfl, by kernel_rfl⟩, ⟨_, _, _, rfl, by kernel_rfl⟩, ⟨_, _, _, rfl, by kernel_rfl⟩, ⟨_, _, _, rfl, by kernel_rfl⟩, ⟨_, _, _, rfl, by kernel_rfl⟩, ⟨_, _, _, rfl, by kernel_rfl⟩, ⟨_, _, _, rfl, by kernel_rfl⟩, ⟨_, _, _, rfl, by kernel_rfl⟩⟩
                        case hsz => intro d hd; simp only [List.mem_cons, List.not_mem_nil, or_false] at hd; show d < 326; omega
                        case hout => exact ⟨rfl, rfl, rfl, rfl, rfl, rfl⟩
                        case hend =>
                          intro   u295 u296 u297 u298 u299 u300 u301 u302 u303 u304 u305 u306 u307 u308 u309 u310 u311 u312 u313 u314 u315 u316 u317 u318 u319 u320 u321 u322 u323 u324 u325 X9 hb9 
                          simp only [putL, List.foldl, Act.put, List.setIfInBounds_toArray, List.set_cons_succ, List.set_cons_zero]
                          have Hend := Lib.hid (show Below w.heap.size w X9 from HBw.out.trans (hb9.mono HBw.out.size))
                          clear hb9
                          go_wp2_with fail
                          go_ret
                          exact ⟨rfl, Hend.out⟩
                      · have Hv := Lib.hid (show ((v : Int) == (f : Int)) = false from by simp; omega)
                        have Hz := Lib.hid (show ((z : Int) == (v : Int)) = true from by
                          rcases Hor.out with h | h
                          · exact absurd h hvf
                          · rw [h]; simp)
                        clear hvf
                        refine region_tt37b k g37 q37 p z f v SS s2 _ _ HSl.out hpl HR10.out.strs HR10.out.lt Hs2.out Hi1.out Hi2.out HX.out Hv.out Hz.out rfl ?hops (by kernel_rfl) (by kernel_rfl) (by kernel_rfl) (by kernel_rfl) ?hsz ?hout ?hend
                        case hops => exact ⟨⟨_, _, _, rfl, by kernel_rfl⟩, ⟨_, _, _, rfl, by kernel_rfl⟩, ⟨_, _, _, rfl, by kernel_rfl⟩, ⟨_, _, _, rfl, by kernel_rfl⟩, ⟨_, _, _, rfl, by kernel_rfl⟩, ⟨_, _, _, rfl, by kernel_rfl⟩, ⟨_, _, _, rfl, by kernel_rfl⟩, ⟨_, _, _, rfl, by kernel_rfl⟩, ⟨_, _, _, rfl, by kernel_rfl⟩, ⟨_, _, _, rfl, by kernel_rfl⟩, ⟨_, _, _, rfl, by kernel_rfl⟩, ⟨_, _, _, rfl, by kernel_rfl⟩, ⟨_, _, _, rfl, by kernel_rfl⟩, ⟨_, _, _, rfl, by kernel_rfl⟩, ⟨_, _, _, rfl, by kernel_rfl⟩, ⟨_, _, _, rfl, by kernel_rfl⟩, ⟨_, _, _, rfl, by kernel_rfl⟩, ⟨_, _, _, rfl, by kernel_rfl⟩, ⟨_, _, _, rfl, by kernel_rfl⟩, ⟨_, _, _, rfl, by kernel_rfl⟩, ⟨_, _, _, rfl, by kernel_rfl⟩, ⟨_, _, _, rfl, by kernel_rfl⟩, ⟨_, _, _, rfl, by kernel_rfl⟩, ⟨_, _, _, rfl, by kernel_rfl⟩, ⟨_, _, _, rfl, by kernel_rfl⟩, ⟨_, _, _, rfl, by kernel_rfl⟩, ⟨_, _, _, rfl, by kernel_rfl⟩, ⟨_, _, _, rfl, by kernel_rfl⟩, ⟨_, _, _, rfl, by kernel_rfl⟩, ⟨_, _, _, rfl, by kernel_rfl⟩, ⟨_, _, _, rfl, by kernel_rfl⟩, ⟨_, _, _, rfl, by kernel_rfl⟩⟩
                        case hsz => intro d hd; simp only [List.mem_cons, List.not_mem_nil, or_false] at hd; show d < 326; omega
                        case hout => exact ⟨rfl, rfl, rfl, rfl, rfl, rfl⟩
                        case hend =>
                          intro   u295 u296 u297 u298 u299 u300 u301 u302 u303 u304 u305 u306 u307 u308 u309 u310 u311 u312 u313 u314 u315 u316 u317 u318 u319 u320 u321 u322 u323 u324 u325 X9 hb9 
                          simp only [putL, List.foldl, Act.put, List.setIfInBounds_toArray, List.set_cons_succ, List.set_cons_zero]
                          have Hend := Lib.hid (show Below w.heap.size w X9 from HBw.out.trans (hb9.mono HBw.out.size))
                          clear hb9
                          go_wp2_with fail
                          go_ret
                          exact ⟨rfl, Hend.out⟩
end Go.Proofs.Ytdmgffoikebgkaa
