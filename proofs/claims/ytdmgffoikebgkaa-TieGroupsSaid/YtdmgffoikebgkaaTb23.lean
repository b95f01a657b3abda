/- TieGroups: the walk. -/
import Derived.Test.YtdmgffoikebgkaaTb22
import Derived.Deep.DeepCutAuto
import Derived.Deep.QuietTactic
import Derived.BigQuiet
namespace Go.Proofs.Ytdmgffoikebgkaa
open Go.RowKit Go.Shelf
attribute [local go_sem] Oper.semAt_some

/-- the masked rows and their box -/
structure TgS (w : World) (D g q N L : Nat) (xs : List Nat) (W : World) : Prop where
  d : BoxAt W D #[.int .i64 (N : Int), .slice (some ⟨g, 0, none⟩) L q] 37
  r : NatRow W g xs
  b : Below w.heap.size w W
theorem TgS.next {w W W' : World} {D g q N L : Nat} {xs : List Nat} (h : TgS w D g q N L xs W) (hb : Below W.heap.size W W') : TgS w D g q N L xs W' :=
  ⟨h.d.next hb, h.r.next hb, h.b.trans (hb.mono h.b.size)⟩
theorem TgS.drew {w W : World} {D g q N L : Nat} {xs : List Nat} (h : TgS w D g q N L xs W) : TgS w D g q N L xs W.drew := ⟨h.d, h.r, h.b.drew⟩
theorem TgS.step {w W : World} {D g q N L k : Nat} {ys : List Nat} (h : TgS w D g q N L (mskL N ys k) W) (hk : k < ys.length) (hgD : g ≠ D) (hwg : w.heap.size ≤ g) :
    TgS w D g q N L (mskL N ys (k + 1)) (W.setCell ⟨g, k, none⟩ (.int .i64 ((nthN ys k &&& (2 ^ N - 1) : Nat) : Int))) := by
  refine ⟨h.d.other _ _ (fun e => hgD e.symm), ?_, h.b.setCell hwg _⟩
  rw [← mskL_set N ys k hk]
  exact h.r.set k _ (by rw [mskL_len]; exact hk)
theorem NatL.far {W : World} {g B : Nat} {xs : List Nat} (h : NatL W g xs) (hne : g ≠ B) (j : Nat) (v : Value) : NatL (W.setCell ⟨B, j, none⟩ v) g xs :=
  ⟨fun i hi => (World.cell?_of_block (w := W) (Below.heap_setCell W ⟨B, j, none⟩ v g hne)).trans (h.at' i hi), by simpa using h.lt⟩
theorem StrM.far {W : World} {g B : Nat} {ss : List ByteArray} (h : StrM W g ss) (hne : g ≠ B) (j : Nat) (v : Value) : StrM (W.setCell ⟨B, j, none⟩ v) g ss :=
  ⟨fun i hi => (World.cell?_of_block (w := W) (Below.heap_setCell W ⟨B, j, none⟩ v g hne)).trans (h.at' i hi), by simpa using h.lt⟩
set_option maxRecDepth 100000 in
set_option maxHeartbeats 8000000 in
theorem TieGroups_any (H H2 : Nat) (p1 p2 : Option Addr) (l1 c1 c2 : Nat) (rs : List Nat) (w : World) (hH : H < 256) (hH2 : H2 < 256) (hr : WordRow w p2 rs) (hrl : rs.length ≤ 9223372036854775807) :
    Calls Try.prog 13 #[.agg (lomA H p1 p2 l1 c1 rs.length c2), .int .u8 (H2 : Int)] w fun e w' => e = .returned (.bool true) ∧ Below w.heap.size w w' := by
  obtain ⟨w0, hw0⟩ : ∃ w0, w0 = w.alloc (.cells (lomA H p1 p2 l1 c1 rs.length c2) 92) := ⟨_, rfl⟩
  have hb0 : Below w.heap.size w w0 := by rw [hw0]; exact (Below.refl _ _).alloc (Nat.le_refl _) _
  have hA : BoxAt w0 w.heap.size (lomA H p1 p2 l1 c1 rs.length c2) 92 := by rw [hw0]; exact BoxAt.new _ _ _
  obtain ⟨hk1, hk2⟩ := loomL_bdM 12 rs.length (by omega)
  have H64 := Lib.hid (lomDesign_any H p1 p2 l1 c1 c2 rs w0 hH (WordRow.next hr hb0) hrl)
  obtain ⟨hN1, hN2⟩ := lomN_bd H
  have hVd := dsTo_validM (lomN H) rs (loomL 12 rs.length) hN1 (by omega) hk1 (by omega)
  have hDl := dsTo_len (lomN H) rs (loomL 12 rs.length)
  obtain ⟨L, hL⟩ : ∃ L, loomL 12 rs.length = L := ⟨_, rfl⟩
  obtain ⟨n, hn⟩ : ∃ n, lomN H = n := ⟨_, rfl⟩
  rw [hL] at hk1 hk2
  rw [hn, hL] at hVd hDl
  simp only [hn, hL] at H64
  rw [hn] at hN1 hN2
  obtain ⟨YS, hYS⟩ : ∃ YS, dsTo n rs L = YS := ⟨_, rfl⟩
  rw [hYS] at hVd hDl
  simp only [hYS] at H64
  clear hn hYS hL
  obtain ⟨N, hN⟩ : ∃ N, N = min 12 n := ⟨_, rfl⟩
  have hNa : 1 ≤ N := by omega
  have hNb : N ≤ 12 := by omega
  have HN := Lib.hid hN
  have HVd := Lib.hid hVd
  have HDl := Lib.hid hDl
  have HW0 := Lib.hid hw0
  have Hb0 := Lib.hid hb0
  have HA := Lib.hid hA
  unfold lomA at HW0 H64 HA ⊢
  obtain ⟨m, hm1, hm2⟩ : ∃ m : Nat, (H2 : Int) % 2 = (m : Int) ∧ m < 2 := ⟨H2 % 2, (Int.natCast_emod H2 2).symm, Nat.mod_lt _ (by decide)⟩
  have Hm1 := Lib.hid hm1
  clear hw0 hb0 hA hr hVd hDl hN hm1
  go_enter Try.func13, Try.ntmps13
  go_upto_region 1 with fail
  rw [← HW0.out]
  have x0 := HA.out.cell' 0 rfl
  have x1 := HA.out.cell' 1 rfl
  have x2 := HA.out.cell' 2 rfl
  go_wp2_with fail
  refine H64.out.mono ?_
  rintro e W1 ⟨v, rfl, h1, hb1⟩
  have h0 : 0 < L := hk1
  obtain ⟨g, q, rfl⟩ := row_slice h1 h0
  obtain ⟨_, hg, hwg⟩ := nats_of_row h1 h0
  have hrow := NatRow.of_row h1 h0
  clear h1 x0 x1 x2 H64
  go_upto_region 2 with fail
  obtain ⟨W2, hW2⟩ : ∃ W2, W2 = W1.alloc (.cells #[.int .i64 (n : Int), .slice (some ⟨g, 0, none⟩) L q] 37) := ⟨_, rfl⟩
  obtain ⟨D, hD⟩ : ∃ D, D = W1.heap.size := ⟨_, rfl⟩
  rw [← hW2, ← hD]
  have hb2 : Below W1.heap.size W1 W2 := by rw [hW2]; exact (Below.refl _ _).alloc (Nat.le_refl _) _
  have hxD : BoxAt W2 D #[.int .i64 (n : Int), .slice (some ⟨g, 0, none⟩) L q] 37 := by rw [hW2, hD]; exact BoxAt.new _ _ _
  have hwg : w.heap.size ≤ g := Nat.le_trans Hb0.out.size hwg
  have hBD : w.heap.size ≤ D := by rw [hD]; exact Nat.le_trans Hb0.out.size hb1.size
  have hgD : g ≠ D := by rw [hD]; omega
  have hMk : TgS w D g q n L YS W2 := ⟨hxD, hrow.next hb2, Hb0.out.trans ((hb1.trans (hb2.mono hb1.size)).mono Hb0.out.size)⟩
  have HMk := Lib.hid hMk
  have HgD := Lib.hid hgD
  have Hwg := Lib.hid hwg
  have HBD := Lib.hid hBD
  clear hW2 hD hb2 hxD hwg hBD hgD hMk hg hrow hb1 HW0 HA Hb0
  have x0 := HMk.out.d.cell' 0 rfl
  have x1 := HMk.out.d.cell' 1 rfl
  have xf := HMk.out.d.frozen 0
  go_upto_region 2 with fail
  go_cut [] from 25 to 28 (fun wx => wx = W2.setCell ⟨D, 0, none⟩ (.int .i64 (N : Int)))
  case first =>
    by_cases hc : 12 ≤ n
    · have e : N = 12 := by have := HN.out; omega
      go_wp2_with fail
      all_goals
        first
          | (exfalso; omega)
          | (go_meet; rw [e]; rfl)
    · have e : N = n := by have := HN.out; omega
      go_wp2_with fail
      all_goals
        first
          | (exfalso; omega)
          | (go_meet; rw [e])
  case rest =>
    obtain ⟨W3, rfl⟩ : ∃ W3, W3 = wc := ⟨_, rfl⟩
    have hM3 : TgS w D g q N L (mskL N YS 0) W3 := by
      rw [mskL_zero, hcut]
      refine ⟨HMk.out.d.set 0 _, ?_, HMk.out.b.setCell HBD.out _⟩
      obtain ⟨cur, h1, h2⟩ := HMk.out.r
      exact ⟨cur, (Below.heap_setCell W2 ⟨D, 0, none⟩ _ g HgD.out).trans h1, h2⟩
    have HM3 := Lib.hid hM3
    clear hcut hM3 HMk HN x0 x1 xf
    go_upto_region 3 with fail
    go_wp2_with fail
    go_loopw [6] (fun i wr => ∃ k : Nat, k ≤ L ∧ i = .int .i64 (k : Int) ∧ TgS w D g q N L (mskL N YS k) wr) (fun i _ => L - (intOf i).toNat)
    case atStart => exact ⟨0, Nat.zero_le _, rfl, HM3.out⟩
    case round =>
      obtain ⟨k, hk, rfl, hM⟩ := hrel
      have HM := Lib.hid hM
      have x0 := hM.d.cell' 0 rfl
      have x1 := hM.d.cell' 1 rfl
      clear hM HM3
      by_cases hkl : k < L
      · have hkY : k < YS.length := by rw [HDl.out]; exact hkl
        have hcell := HM.out.r.nats k (by rw [mskL_len]; exact hkY)
        rw [Nat.zero_add, mskL_nth _ _ _ _ hkY, if_neg (Nat.lt_irrefl k)] at hcell
        have hfz := HM.out.r.frozen k
        have hst := HM.out.step hkY HgD.out Hwg.out
        have hy2 : nthN YS k < 65536 := Nat.lt_of_lt_of_le (HVd.out.lt k) (Nat.le_trans (Nat.pow_le_pow_right (by decide) hN2) (by decide))
        obtain ⟨x, hx⟩ : ∃ x, nthN YS k = x := ⟨_, rfl⟩
        rw [hx] at hcell hst hy2
        have hq := and_mask N x (by omega) hy2
        obtain ⟨y, hy⟩ : ∃ y, x &&& (2 ^ N - 1) = y := ⟨_, rfl⟩
        rw [hy] at hq hst
        obtain ⟨hp1, hp2⟩ := pow_bds N (by omega)
        have hun : IntKind.u64.wrap (N : Int) = (N : Int) := IntWalk.u64_in _ (by omega)
        have hm64 : min N 64 = N := by omega
        have Hst := Lib.hid hst
        clear hst hx hy hkY
        go_wp2_with fail
        go_region
        go_wp2_with fail
        go_roundw
        case rel => exact ⟨k + 1, by omega, by go_num, Hst.out.drew⟩
        case measure => simp [intOf]; omega
      · obtain rfl : k = L := by omega
        obtain ⟨DS, hDS⟩ : ∃ DS, DS = mskL N YS k := ⟨_, rfl⟩
        have hVd : Valid N DS := by rw [hDS, ← HDl.out]; exact mskL_valid HVd.out hNa (by omega)
        have hDl : DS.length = k := by rw [hDS, mskL_len]; exact HDl.out
        have XD := Lib.hid HM.out.d
        have ND := Lib.hid (show NatL wr g DS from ⟨by rw [hDS]; exact HM.out.r.nats, HM.out.r.lt⟩)
        have Bw := Lib.hid HM.out.b
        clear HVd HDl
        have HVd := Lib.hid hVd
        have HDl := Lib.hid hDl
        clear hVd hDl hDS HM h0
        obtain ⟨M, hMa, hMb⟩ : ∃ M, N ≤ M + 1 ∧ M + 1 ≤ N := ⟨N - 1, by omega, by omega⟩
        obtain ⟨nn, hnn⟩ : ∃ nn : Nat, (1 : Int) + (m : Int) = (nn : Int) := ⟨m + 1, by omega⟩
        have hn1 : 1 ≤ nn := by omega
        have hn2 : nn ≤ 2 := by omega
        obtain ⟨T, hT⟩ : ∃ T, onceT M 1 * nn = T := ⟨_, rfl⟩
        obtain ⟨R, hR⟩ : ∃ R, onceT M 2 * 1 = R := ⟨_, rfl⟩
        have hT3 : N * nn = T := by rw [← hT, once_one, Nat.le_antisymm hMa hMb]
        have hT2 : T ≤ 24 ∧ 1 ≤ T := by
          rcases (show nn = 1 ∨ nn = 2 by omega) with e | e
          · rw [e] at hT3; omega
          · rw [e] at hT3; omega
        have hR1 : reflHooks N = R := by rw [Nat.le_antisymm hMa hMb, ← once_refl, ← hR, Nat.mul_one]
        have hR2 : R ≤ 24 ∧ 1 ≤ R := by
          rw [← hR1]
          unfold reflHooks
          split <;> omega
        obtain ⟨HS, hHS⟩ : ∃ HS, HS = grpL M 1 nn := ⟨_, rfl⟩
        obtain ⟨KS, hKS⟩ : ∃ KS, KS = grpL M 2 1 := ⟨_, rfl⟩
        have hHl : HS.length = T := by rw [hHS, grpL_len]; exact hT
        have hKl : KS.length = R := by rw [hKS, grpL_len]; exact hR
        have hHk : ∀ i, i < T → nthN HS i < N := fun i hi => by rw [hHS]; exact Nat.lt_of_lt_of_le (grpL_lt M 1 nn i (by rw [hT]; exact hi)) hMb
        have hKk : ∀ i, i < R → nthN KS i < N := fun i hi => by rw [hKS]; exact Nat.lt_of_lt_of_le (grpL_lt M 2 1 i (by rw [hR]; exact hi)) hMb
        obtain ⟨hT2, hT1⟩ := hT2
        obtain ⟨hR2, hR3⟩ := hR2
        have hm1 := Hm1.out
        have hSh3 : ∀ i j, i < k → j < R → bitN (nthN (pks KS DS) i) j = bitN (nthN (painted (reflG DS N) k R) i) j := fun i j hi hj => by
          have e : N = M + 1 := Nat.le_antisymm hMa hMb
          rw [hKS, e, ← HDl.out]
          exact show_refl M R DS i j (by rw [HDl.out]; exact hi) (by rw [← e]; exact hR1) hj
        have hSh1 : nn = 1 → ∀ i j, i < k → j < N → bitN (nthN (pks HS DS) i) j = bitN (nthN DS i) j := fun e1 i j hi hj => by
          have e : N = M + 1 := Nat.le_antisymm hMa hMb
          rw [hHS, e1]
          exact show_one M DS i j (by rw [HDl.out]; exact hi) (by omega)
        have hSh2 : nn = 2 → ∀ N2, N + N = N2 → ∀ i j, i < k → j < N2 → bitN (nthN (pks HS DS) i) j = bitN (nthN (painted (beG N DS DS) k N2) i) j := fun e1 N2 h2 i j hi hj => by
          have e : N = M + 1 := Nat.le_antisymm hMa hMb
          rw [hHS, e1, e, ← HDl.out]
          exact show_two M N2 DS i j (by rw [HDl.out]; exact hi) (by omega) hj
        have HSh1 := Lib.hid hSh1
        have HSh2 := Lib.hid hSh2
        have HSh3 := Lib.hid hSh3
        have HHl := Lib.hid hHl
        have HKl := Lib.hid hKl
        have HHk := Lib.hid hHk
        have HKk := Lib.hid hKk
        have HT := Lib.hid hT
        have HT3 := Lib.hid hT3
        have HR := Lib.hid hR
        have HR1 := Lib.hid hR1
        have HHS := Lib.hid hHS
        have HKS := Lib.hid hKS
        clear hSh1 hSh2 hSh3 hHl hKl hHk hKk hT hT3 hR hR1 hHS hKS Hm1
        go_upto_region 7 with fail
        go_upto_region 8 with fail
        clear hnn hm1 x0 x1
        refine region_tg8 N M nn T k g q D hMa hMb (by omega) HT.out (by omega) hn1 hn2 XD.out rfl ?hops (by kernel_rfl) (by kernel_rfl) (by kernel_rfl) (by kernel_rfl) ?hsz ?hout ?hend
        case hops => exact ⟨⟨_, _, _, rfl, by kernel_rfl⟩, ⟨_, _, _, rfl, by kernel_rfl⟩, ⟨_, _, _, rfl, by kernel_rfl⟩, ⟨_, _, _, rfl, by kernel_rfl⟩, ⟨_, _, _, rfl, by kernel_rfl⟩, ⟨_, _, _, rfl, by kernel_rfl⟩, ⟨_, _, _, rfl, by kernel_rfl⟩, ⟨_, _, _, rfl, by kernel_rfl⟩, ⟨_, _, _, rfl, by kernel_rfl⟩, ⟨_, _, _, rfl, by kernel_rfl⟩, ⟨_, _, _, rfl, by kernel_rfl⟩, ⟨_, _, _, rfl, by kernel_rfl⟩, ⟨_, _, _, rfl, by kernel_rfl⟩, ⟨_, _, _, rfl, by kernel_rfl⟩, ⟨_, _, _, rfl, by kernel_rfl⟩, ⟨_, _, _, rfl, by kernel_rfl⟩, ⟨_, _, _, rfl, by kernel_rfl⟩⟩
        case hsz => intro d hd; simp only [List.mem_cons, List.not_mem_nil, or_false] at hd; show d < 143; omega
        case hout => exact ⟨rfl, rfl⟩
        case hend =>
          intro g60 q60 G60 Q60 g61 q61 G61 Q61 g8 q8 G8 Q8 P60 P61 P8 u53 u54 u55 u56 u57 u58 u59 u60 u61 u52 u62 u63 u64 W4 hb4 hm60 hB60 hm61 hB61 hl8 hu8 hs8
          simp only [putL, List.foldl, Act.put, List.setIfInBounds_toArray, List.set_cons_succ, List.set_cons_zero]
          replace XD := Lib.hid (XD.out.next hb4)
          replace ND := Lib.hid (ND.out.next hb4)
          replace Bw := Lib.hid (Bw.out.trans (hb4.mono Bw.out.size))
          have XE := Lib.hid hs8
          have NH := Lib.hid (show NatL W4 g61 HS from by rw [HHS.out]; exact ⟨hm61.1, hm61.2⟩)
          clear hb4 hm60 hB60 hm61 hB61 hl8 hu8 hs8
          go_upto_region 9 with fail
          refine region_tg9 N M R k g q D hMa hMb (by omega) HR.out (by omega) XD.out rfl ?hops (by kernel_rfl) (by kernel_rfl) (by kernel_rfl) (by kernel_rfl) ?hsz ?hout ?hend
          case hops => exact ⟨⟨_, _, _, rfl, by kernel_rfl⟩, ⟨_, _, _, rfl, by kernel_rfl⟩, ⟨_, _, _, rfl, by kernel_rfl⟩, ⟨_, _, _, rfl, by kernel_rfl⟩, ⟨_, _, _, rfl, by kernel_rfl⟩, ⟨_, _, _, rfl, by kernel_rfl⟩, ⟨_, _, _, rfl, by kernel_rfl⟩, ⟨_, _, _, rfl, by kernel_rfl⟩, ⟨_, _, _, rfl, by kernel_rfl⟩, ⟨_, _, _, rfl, by kernel_rfl⟩, ⟨_, _, _, rfl, by kernel_rfl⟩, ⟨_, _, _, rfl, by kernel_rfl⟩, ⟨_, _, _, rfl, by kernel_rfl⟩, ⟨_, _, _, rfl, by kernel_rfl⟩, ⟨_, _, _, rfl, by kernel_rfl⟩, ⟨_, _, _, rfl, by kernel_rfl⟩⟩
          case hsz => intro d hd; simp only [List.mem_cons, List.not_mem_nil, or_false] at hd; show d < 143; omega
          case hout => exact rfl
          case hend =>
            intro g72 q72 G72 Q72 g73 q73 G73 Q73 g11 q11 G11 Q11 P72 P73 P11 u66 u67 u68 u69 u70 u71 u72 u73 u65 u74 u75 u76 W5 hb5 hm72 hB72 hm73 hB73 hl11 hu11 hs11
            simp only [putL, List.foldl, Act.put, List.setIfInBounds_toArray, List.set_cons_succ, List.set_cons_zero]
            replace XD := Lib.hid (XD.out.next hb5)
            replace ND := Lib.hid (ND.out.next hb5)
            replace XE := Lib.hid (XE.out.next hb5)
            replace NH := Lib.hid (NH.out.next hb5)
            replace Bw := Lib.hid (Bw.out.trans (hb5.mono Bw.out.size))
            have XF := Lib.hid hs11
            have NK := Lib.hid (show NatL W5 g73 KS from by rw [HKS.out]; exact ⟨hm73.1, hm73.2⟩)
            clear hb5 hm72 hB72 hm73 hB73 hl11 hu11 hs11
            go_upto_region 10 with fail
            refine region_tg10 N k g q D g61 q61 g8 T DS HS HDl.out HVd.out ND.out.at' ND.out.lt HHl.out hT1 (by omega) HHk.out NH.out.at' NH.out.lt XD.out XE.out rfl ?hops (by kernel_rfl) (by kernel_rfl) (by kernel_rfl) (by kernel_rfl) ?hsz ?hout ?hend
            case hops => exact ⟨⟨_, _, _, rfl, by kernel_rfl⟩, ⟨_, _, _, rfl, by kernel_rfl⟩, ⟨_, _, _, rfl, by kernel_rfl⟩, ⟨_, _, _, rfl, by kernel_rfl⟩, ⟨_, _, _, rfl, by kernel_rfl⟩, ⟨_, _, _, rfl, by kernel_rfl⟩, ⟨_, _, _, rfl, by kernel_rfl⟩, ⟨_, _, _, rfl, by kernel_rfl⟩, ⟨_, _, _, rfl, by kernel_rfl⟩⟩
            case hsz => intro d hd; simp only [List.mem_cons, List.not_mem_nil, or_false] at hd; show d < 143; omega
            case hout => exact ⟨rfl, rfl⟩
            case hend =>
              intro g80 q80 G80 Q80 g81 q81 G81 Q81 P80 P81 u78 u79 u80 u81 u77 u82 u83 W6 hb6 hm80 hB80 hm81 hB81
              simp only [putL, List.foldl, Act.put, List.setIfInBounds_toArray, List.set_cons_succ, List.set_cons_zero]
              replace XD := Lib.hid (XD.out.next hb6)
              replace ND := Lib.hid (ND.out.next hb6)
              replace XE := Lib.hid (XE.out.next hb6)
              replace NH := Lib.hid (NH.out.next hb6)
              replace XF := Lib.hid (XF.out.next hb6)
              replace NK := Lib.hid (NK.out.next hb6)
              replace Bw := Lib.hid (Bw.out.trans (hb6.mono Bw.out.size))
              have S1 := Lib.hid (show StrM W6 g81 (clothS HS DS) from ⟨hm81.1, hm81.2⟩)
              clear hb6 hm80 hB80 hm81 hB81 XE NH
              go_upto_region 11 with fail
              refine region_tg11 N k g q D g73 q73 g11 R DS KS HDl.out HVd.out ND.out.at' ND.out.lt HKl.out hR3 (by omega) HKk.out NK.out.at' NK.out.lt XD.out XF.out rfl ?hops (by kernel_rfl) (by kernel_rfl) (by kernel_rfl) (by kernel_rfl) ?hsz ?hout ?hend
              case hops => exact ⟨⟨_, _, _, rfl, by kernel_rfl⟩, ⟨_, _, _, rfl, by kernel_rfl⟩, ⟨_, _, _, rfl, by kernel_rfl⟩, ⟨_, _, _, rfl, by kernel_rfl⟩, ⟨_, _, _, rfl, by kernel_rfl⟩, ⟨_, _, _, rfl, by kernel_rfl⟩, ⟨_, _, _, rfl, by kernel_rfl⟩, ⟨_, _, _, rfl, by kernel_rfl⟩, ⟨_, _, _, rfl, by kernel_rfl⟩⟩
              case hsz => intro d hd; simp only [List.mem_cons, List.not_mem_nil, or_false] at hd; show d < 143; omega
              case hout => exact ⟨rfl, rfl⟩
              case hend =>
                intro g87 q87 G87 Q87 g88 q88 G88 Q88 P87 P88 u85 u86 u87 u88 u84 u89 u90 W7 hb7 hm87 hB87 hm88 hB88
                simp only [putL, List.foldl, Act.put, List.setIfInBounds_toArray, List.set_cons_succ, List.set_cons_zero]
                replace XD := Lib.hid (XD.out.next hb7)
                replace ND := Lib.hid (ND.out.next hb7)
                replace XF := Lib.hid (XF.out.next hb7)
                replace NK := Lib.hid (NK.out.next hb7)
                replace S1 := Lib.hid (S1.out.next hb7)
                replace Bw := Lib.hid (Bw.out.trans (hb7.mono Bw.out.size))
                have S2 := Lib.hid (show StrM W7 g88 (clothS KS DS) from ⟨hm88.1, hm88.2⟩)
                clear hb7 hm87 hB87 hm88 hB88 XF NK
                go_upto_region 12 with fail
                have x0 := XD.out.cell' 0 rfl
                have x1 := XD.out.cell' 1 rfl
                have HC := Lib.hid (call37 N k g q DS W7 HDl.out HVd.out ND.out.at' ND.out.lt)
                go_wp2_with fail
                refine HC.out.mono ?_
                rintro e W8 ⟨ga, qa, rfl, hna, hla, hga, hbc⟩
                replace XD := Lib.hid (XD.out.next hbc)
                replace ND := Lib.hid (ND.out.next hbc)
                replace S1 := Lib.hid (S1.out.next hbc)
                replace S2 := Lib.hid (S2.out.next hbc)
                replace Bw := Lib.hid (Bw.out.trans (hbc.mono Bw.out.size))
                have Na := Lib.hid (show NatL W8 ga DS from ⟨hna, hga⟩)
                clear HC hna hla hga hbc x0 x1
                go_upto_region 13 with fail
                obtain ⟨W9, hW⟩ : ∃ W9, W9 = W8.alloc (.cells #[.int .i64 (N : Int), .slice (some ⟨ga, 0, none⟩) k qa] 37) := ⟨_, rfl⟩
                obtain ⟨B, hB⟩ : ∃ B, B = W8.heap.size := ⟨_, rfl⟩
                rw [← hW, ← hB]
                have hbW : Below W8.heap.size W8 W9 := by rw [hW]; exact (Below.refl _ _).alloc (Nat.le_refl _) _
                have hxB : BoxAt W9 B #[.int .i64 (N : Int), .slice (some ⟨ga, 0, none⟩) k qa] 37 := by rw [hW, hB]; exact BoxAt.new _ _ _
                have hgB : g < B := by rw [hB]; exact ND.out.lt
                have hDB : D < B := by rw [hB]; exact XD.out.lt
                have h81B : g81 < B := by rw [hB]; exact S1.out.lt
                have h88B : g88 < B := by rw [hB]; exact S2.out.lt
                clear hW hB
                replace XD := Lib.hid (XD.out.next hbW)
                replace ND := Lib.hid (ND.out.next hbW)
                replace S1 := Lib.hid (S1.out.next hbW)
                replace S2 := Lib.hid (S2.out.next hbW)
                replace Na := Lib.hid (Na.out.next hbW)
                replace Bw := Lib.hid (Bw.out.trans (hbW.mono Bw.out.size))
                have XB := Lib.hid hxB
                clear hbW hxB
                by_cases hnn : nn = 1
                · have hd : ((nn : Int) == 2) = false := by rw [hnn]; rfl
                  have HTT := Lib.hid (show T = N by rw [← HT3.out, hnn, Nat.mul_one])
                  have HSl := HDl
                  have HSlt := Lib.hid (show ∀ i, nthN DS i < 16777216 from HVd.out.lt')
                  have HSb := Lib.hid (HSh1.out hnn)
                  clear hnn
                  go_upto_region 18 with fail
                  have x0 := XD.out.cell' 0 rfl
                  have x1 := XD.out.cell' 1 rfl
                  have HC := Lib.hid (call37 N k g q DS W9 HDl.out HVd.out ND.out.at' ND.out.lt)
                  go_wp2_with fail
                  refine HC.out.mono ?_
                  rintro e X1 ⟨gb, qb, rfl, hna, hla, hga, hbc⟩
                  replace XD := Lib.hid (XD.out.next hbc)
                  replace ND := Lib.hid (ND.out.next hbc)
                  replace S1 := Lib.hid (S1.out.next hbc)
                  replace S2 := Lib.hid (S2.out.next hbc)
                  replace Na := Lib.hid (Na.out.next hbc)
                  replace XB := Lib.hid (XB.out.next hbc)
                  replace Bw := Lib.hid (Bw.out.trans (hbc.mono Bw.out.size))
                  have Nb := Lib.hid (show NatL X1 gb DS from ⟨hna, hga⟩)
                  clear HC hna hla hga hbc x0 x1
                  have HC := Lib.hid (call74 N k gb qb R DS X1 HDl.out HVd.out HR1.out hR2 Nb.out.at' Nb.out.lt)
                  go_wp2_with fail
                  refine HC.out.mono ?_
                  rintro e X2 ⟨gr, qr, rfl, hna, hla, hga, hbc⟩
                  replace XD := Lib.hid (XD.out.next hbc)
                  replace ND := Lib.hid (ND.out.next hbc)
                  replace S1 := Lib.hid (S1.out.next hbc)
                  replace S2 := Lib.hid (S2.out.next hbc)
                  replace Na := Lib.hid (Na.out.next hbc)
                  replace XB := Lib.hid (XB.out.next hbc)
                  replace Bw := Lib.hid (Bw.out.trans (hbc.mono Bw.out.size))
                  have Nr := Lib.hid (show NatL X2 gr (painted (reflG DS N) k R) from ⟨hna, hga⟩)
                  clear HC hna hla hga hbc Nb XD ND
                  go_upto_region 19 with fail
                  obtain ⟨X3, hW⟩ : ∃ X3, X3 = X2.alloc (.cells #[.int .i64 (R : Int), .slice (some ⟨gr, 0, none⟩) k qr] 37) := ⟨_, rfl⟩
                  obtain ⟨C, hB⟩ : ∃ C, C = X2.heap.size := ⟨_, rfl⟩
                  rw [← hW, ← hB]
                  have hbW : Below X2.heap.size X2 X3 := by rw [hW]; exact (Below.refl _ _).alloc (Nat.le_refl _) _
                  have hxB : BoxAt X3 C #[.int .i64 (R : Int), .slice (some ⟨gr, 0, none⟩) k qr] 37 := by rw [hW, hB]; exact BoxAt.new _ _ _
                  clear hW hB
                  replace S1 := Lib.hid (S1.out.next hbW)
                  replace S2 := Lib.hid (S2.out.next hbW)
                  replace Na := Lib.hid (Na.out.next hbW)
                  replace XB := Lib.hid (XB.out.next hbW)
                  replace Nr := Lib.hid (Nr.out.next hbW)
                  replace Bw := Lib.hid (Bw.out.trans (hbW.mono Bw.out.size))
                  have XC := Lib.hid hxB
                  clear hbW hxB
                  have b0 := XB.out.cell' 0 rfl
                  have b1 := XB.out.cell' 1 rfl
                  have c0 := XC.out.cell' 0 rfl
                  have c1 := XC.out.cell' 1 rfl
                  have HC := Lib.hid (tieShows g81 q81 ga qa N k (pks HS DS) DS X3 (by have h := cloth_cl S1.out.at' S1.out.lt (by rw [HHl.out]; exact hT1) (by rw [HHl.out]; omega); rw [HHl.out, HTT.out] at h; exact h) (by rw [pks_len]; exact HDl.out) (by omega) HSl.out (by omega) Na.out.at' Na.out.lt HSlt.out HSb.out)
                  go_wp2_with fail
                  refine HC.out.mono ?_
                  rintro e X4 ⟨rfl, hbc⟩
                  clear b0 b1 c0 c1 HC
                  replace S1 := Lib.hid (S1.out.next hbc)
                  replace S2 := Lib.hid (S2.out.next hbc)
                  replace Na := Lib.hid (Na.out.next hbc)
                  replace XB := Lib.hid (XB.out.next hbc)
                  replace Nr := Lib.hid (Nr.out.next hbc)
                  replace XC := Lib.hid (XC.out.next hbc)
                  replace Bw := Lib.hid (Bw.out.trans (hbc.mono Bw.out.size))
                  clear hbc
                  have c0 := XC.out.cell' 0 rfl
                  have c1 := XC.out.cell' 1 rfl
                  have HC := Lib.hid (tieShows g88 q88 gr qr R k (pks KS DS) (painted (reflG DS N) k R) X4 (by have h := cloth_cl S2.out.at' S2.out.lt (by rw [HKl.out]; exact hR3) (by rw [HKl.out]; omega); rw [HKl.out] at h; exact h) (by rw [pks_len]; exact HDl.out) (by omega) (painted_len _ _ _) (by omega) Nr.out.at' Nr.out.lt (painted_lt _ _ _ hR2) HSh3.out)
                  go_wp2_with fail
                  refine HC.out.mono ?_
                  rintro e X5 ⟨rfl, hbc⟩
                  clear c0 c1 HC
                  replace Bw := Lib.hid (Bw.out.trans (hbc.mono Bw.out.size))
                  clear hbc
                  go_wp2_with fail
                  refine (tieKnown _).mono ?_
                  rintro e X6 ⟨rfl, hbc⟩
                  replace Bw := Lib.hid (Bw.out.trans (hbc.mono Bw.out.size))
                  clear hbc
                  go_wp2_with fail
                  go_ret
                  exact ⟨rfl, Bw.out⟩
                · have hd : ((nn : Int) == 2) = true := by rw [show nn = 2 by omega]; rfl
                  obtain ⟨N2, hN2⟩ : ∃ N2, N + N = N2 := ⟨_, rfl⟩
                  have HTT := Lib.hid (show T = N2 by rw [← HT3.out, show nn = 2 by omega]; omega)
                  have HSb := Lib.hid (HSh2.out (by omega) N2 hN2)
                  have HSl := Lib.hid (painted_len (beG N DS DS) k N2)
                  have HSlt := Lib.hid (painted_lt (beG N DS DS) k N2 (by omega))
                  have HN2 := Lib.hid hN2
                  have hN3 : N2 ≤ 24 := by omega
                  clear hnn hN2
                  go_upto_region 14 with fail
                  refine region_tg14 N N2 k g q D DS HDl.out HVd.out ND.out.at' ND.out.lt HN2.out hN3 XD.out rfl ?hops (by kernel_rfl) (by kernel_rfl) (by kernel_rfl) (by kernel_rfl) ?hsz ?hout ?hend
                  case hops => exact ⟨⟨_, _, _, rfl, by kernel_rfl⟩, ⟨_, _, _, rfl, by kernel_rfl⟩, ⟨_, _, _, rfl, by kernel_rfl⟩, ⟨_, _, _, rfl, by kernel_rfl⟩, ⟨_, _, _, rfl, by kernel_rfl⟩, ⟨_, _, _, rfl, by kernel_rfl⟩, ⟨_, _, _, rfl, by kernel_rfl⟩, ⟨_, _, _, rfl, by kernel_rfl⟩, ⟨_, _, _, rfl, by kernel_rfl⟩, ⟨_, _, _, rfl, by kernel_rfl⟩, ⟨_, _, _, rfl, by kernel_rfl⟩⟩
                  case hsz => intro d hd; simp only [List.mem_cons, List.not_mem_nil, or_false] at hd; show d < 143; omega
                  case hout => exact rfl
                  case hend =>
                    have hBn : B < W9.heap.size := XB.out.lt
                    intro g97 q97 G97 Q97 g99 q99 G99 Q99 g100 q100 G100 Q100 g19 q19 G19 Q19 P97 P99 P100 P19 u96 u97 u98 u99 u100 u95 u101 u102 Y1 hb10 hm97 hB97 hm99 hB99 hm100 hB100 hl19 hu19 hs19
                    simp only [putL, List.foldl, Act.put, List.setIfInBounds_toArray, List.set_cons_succ, List.set_cons_zero]
                    replace XD := Lib.hid (XD.out.next hb10)
                    replace ND := Lib.hid (ND.out.next hb10)
                    replace S1 := Lib.hid (S1.out.next hb10)
                    replace S2 := Lib.hid (S2.out.next hb10)
                    replace XB := Lib.hid (XB.out.next hb10)
                    replace Bw := Lib.hid (Bw.out.trans (hb10.mono Bw.out.size))
                    have XG := Lib.hid hs19
                    have NS := Lib.hid (show NatL Y1 g100 (painted (beG N DS DS) k N2) from ⟨hm100.1, hm100.2⟩)
                    have h100B : B < g100 := Nat.lt_of_lt_of_le hBn (hB100 g100 (List.mem_singleton.2 rfl)).1
                    have h19B : B < g19 := Nat.lt_of_lt_of_le hBn hl19
                    clear hb10 hm97 hB97 hm99 hB99 hm100 hB100 hl19 hu19 hs19 Na
                    have x0 := XG.out.cell' 0 rfl
                    have x1 := XG.out.cell' 1 rfl
                    have y0 := XB.out.cell' 0 rfl
                    have y1 := XB.out.cell' 1 rfl
                    have f0 := XB.out.frozen 0
                    have f1 := XB.out.frozen 1
                    go_upto_region 18 with fail
                    clear x0 x1 y0 y1 f0 f1
                    have hnB := HBD.out
                    have XB2 := Lib.hid ((XB.out.set 0 (.int .i64 (N2 : Int))).set 1 (.slice (some ⟨g100, 0, none⟩) k q100))
                    have XD2 := Lib.hid ((XD.out.other ⟨B, 0, none⟩ (.int .i64 (N2 : Int)) (by show D ≠ B; omega)).other ⟨B, 1, none⟩ (.slice (some ⟨g100, 0, none⟩) k q100) (by show D ≠ B; omega))
                    have ND2 := Lib.hid ((ND.out.far (show g ≠ B by omega) 0 (.int .i64 (N2 : Int))).far (show g ≠ B by omega) 1 (.slice (some ⟨g100, 0, none⟩) k q100))
                    have NS2 := Lib.hid ((NS.out.far (show g100 ≠ B by omega) 0 (.int .i64 (N2 : Int))).far (show g100 ≠ B by omega) 1 (.slice (some ⟨g100, 0, none⟩) k q100))
                    have S12 := Lib.hid ((S1.out.far (show g81 ≠ B by omega) 0 (.int .i64 (N2 : Int))).far (show g81 ≠ B by omega) 1 (.slice (some ⟨g100, 0, none⟩) k q100))
                    have S22 := Lib.hid ((S2.out.far (show g88 ≠ B by omega) 0 (.int .i64 (N2 : Int))).far (show g88 ≠ B by omega) 1 (.slice (some ⟨g100, 0, none⟩) k q100))
                    have Bw2 := Lib.hid (show Below w.heap.size w ((Y1.setCell ⟨B, 0, none⟩ (.int .i64 (N2 : Int))).setCell ⟨B, 1, none⟩ (.slice (some ⟨g100, 0, none⟩) k q100)) from (Bw.out.setCell (by show w.heap.size ≤ B; omega) _).setCell (by show w.heap.size ≤ B; omega) _)
                    clear XB XD ND NS S1 S2 Bw XG hnB hBn h100B h19B
                    generalize (Y1.setCell ⟨B, 0, none⟩ (.int .i64 (N2 : Int))).setCell ⟨B, 1, none⟩ (.slice (some ⟨g100, 0, none⟩) k q100) = Z1 at *
                    have XB := XB2
                    have XD := XD2
                    have ND := ND2
                    have NS := NS2
                    have S1 := S12
                    have S2 := S22
                    have Bw := Bw2
                    clear XB2 XD2 ND2 NS2 S12 S22 Bw2
                    go_upto_region 18 with fail
                    have x0 := XD.out.cell' 0 rfl
                    have x1 := XD.out.cell' 1 rfl
                    have HC := Lib.hid (call37 N k g q DS Z1 HDl.out HVd.out ND.out.at' ND.out.lt)
                    go_wp2_with fail
                    refine HC.out.mono ?_
                    rintro e X1 ⟨gb, qb, rfl, hna, hla, hga, hbc⟩
                    replace XD := Lib.hid (XD.out.next hbc)
                    replace ND := Lib.hid (ND.out.next hbc)
                    replace S1 := Lib.hid (S1.out.next hbc)
                    replace S2 := Lib.hid (S2.out.next hbc)
                    replace NS := Lib.hid (NS.out.next hbc)
                    replace XB := Lib.hid (XB.out.next hbc)
                    replace Bw := Lib.hid (Bw.out.trans (hbc.mono Bw.out.size))
                    have Nb := Lib.hid (show NatL X1 gb DS from ⟨hna, hga⟩)
                    clear HC hna hla hga hbc x0 x1
                    have HC := Lib.hid (call74 N k gb qb R DS X1 HDl.out HVd.out HR1.out hR2 Nb.out.at' Nb.out.lt)
                    go_wp2_with fail
                    refine HC.out.mono ?_
                    rintro e X2 ⟨gr, qr, rfl, hna, hla, hga, hbc⟩
                    replace XD := Lib.hid (XD.out.next hbc)
                    replace ND := Lib.hid (ND.out.next hbc)
                    replace S1 := Lib.hid (S1.out.next hbc)
                    replace S2 := Lib.hid (S2.out.next hbc)
                    replace NS := Lib.hid (NS.out.next hbc)
                    replace XB := Lib.hid (XB.out.next hbc)
                    replace Bw := Lib.hid (Bw.out.trans (hbc.mono Bw.out.size))
                    have Nr := Lib.hid (show NatL X2 gr (painted (reflG DS N) k R) from ⟨hna, hga⟩)
                    clear HC hna hla hga hbc Nb XD ND
                    go_upto_region 19 with fail
                    obtain ⟨X3, hW⟩ : ∃ X3, X3 = X2.alloc (.cells #[.int .i64 (R : Int), .slice (some ⟨gr, 0, none⟩) k qr] 37) := ⟨_, rfl⟩
                    obtain ⟨C, hB⟩ : ∃ C, C = X2.heap.size := ⟨_, rfl⟩
                    rw [← hW, ← hB]
                    have hbW : Below X2.heap.size X2 X3 := by rw [hW]; exact (Below.refl _ _).alloc (Nat.le_refl _) _
                    have hxB : BoxAt X3 C #[.int .i64 (R : Int), .slice (some ⟨gr, 0, none⟩) k qr] 37 := by rw [hW, hB]; exact BoxAt.new _ _ _
                    clear hW hB
                    replace S1 := Lib.hid (S1.out.next hbW)
                    replace S2 := Lib.hid (S2.out.next hbW)
                    replace NS := Lib.hid (NS.out.next hbW)
                    replace XB := Lib.hid (XB.out.next hbW)
                    replace Nr := Lib.hid (Nr.out.next hbW)
                    replace Bw := Lib.hid (Bw.out.trans (hbW.mono Bw.out.size))
                    have XC := Lib.hid hxB
                    clear hbW hxB
                    have b0 := XB.out.cell' 0 rfl
                    have b1 := XB.out.cell' 1 rfl
                    have c0 := XC.out.cell' 0 rfl
                    have c1 := XC.out.cell' 1 rfl
                    have HC := Lib.hid (tieShows g81 q81 g100 q100 N2 k (pks HS DS) (painted (beG N DS DS) k N2) X3 (by have h := cloth_cl S1.out.at' S1.out.lt (by rw [HHl.out]; exact hT1) (by rw [HHl.out]; omega); rw [HHl.out, HTT.out] at h; exact h) (by rw [pks_len]; exact HDl.out) (by omega) HSl.out (by omega) NS.out.at' NS.out.lt HSlt.out HSb.out)
                    go_wp2_with fail
                    refine HC.out.mono ?_
                    rintro e X4 ⟨rfl, hbc⟩
                    clear b0 b1 c0 c1 HC
                    replace S1 := Lib.hid (S1.out.next hbc)
                    replace S2 := Lib.hid (S2.out.next hbc)
                    replace NS := Lib.hid (NS.out.next hbc)
                    replace XB := Lib.hid (XB.out.next hbc)
                    replace Nr := Lib.hid (Nr.out.next hbc)
                    replace XC := Lib.hid (XC.out.next hbc)
                    replace Bw := Lib.hid (Bw.out.trans (hbc.mono Bw.out.size))
                    clear hbc
                    have c0 := XC.out.cell' 0 rfl
                    have c1 := XC.out.cell' 1 rfl
                    have HC := Lib.hid (tieShows g88 q88 gr qr R k (pks KS DS) (painted (reflG DS N) k R) X4 (by have h := cloth_cl S2.out.at' S2.out.lt (by rw [HKl.out]; exact hR3) (by rw [HKl.out]; omega); rw [HKl.out] at h; exact h) (by rw [pks_len]; exact HDl.out) (by omega) (painted_len _ _ _) (by omega) Nr.out.at' Nr.out.lt (painted_lt _ _ _ hR2) HSh3.out)
                    go_wp2_with fail
                    refine HC.out.mono ?_
                    rintro e X5 ⟨rfl, hbc⟩
                    clear c0 c1 HC
                    replace Bw := Lib.hid (Bw.out.trans (hbc.mono Bw.out.size))
                    clear hbc
                    go_wp2_with fail
                    refine (tieKnown _).mono ?_
                    rintro e X6 ⟨rfl, hbc⟩
                    replace Bw := Lib.hid (Bw.out.trans (hbc.mono Bw.out.size))
                    clear hbc
                    go_wp2_with fail
                    go_ret
                    exact ⟨rfl, Bw.out⟩
end Go.Proofs.Ytdmgffoikebgkaa
