/- TieBound: the walk. -/
import Derived.Deep.DeepCutAuto
import Derived.Deep.QuietTactic
import Derived.BigQuiet
import Derived.Test.YtdmgffoikebgkaaTb01
import Derived.Test.YtdmgffoikebgkaaTb02
import Derived.Test.YtdmgffoikebgkaaTb03
import Derived.Test.YtdmgffoikebgkaaTb04
import Derived.Test.YtdmgffoikebgkaaTb05
import Derived.Test.YtdmgffoikebgkaaTb06
import Derived.Test.YtdmgffoikebgkaaTb07
import Derived.Test.YtdmgffoikebgkaaTb08
import Derived.Test.YtdmgffoikebgkaaTb09
import Derived.Test.YtdmgffoikebgkaaTb10
import Derived.Test.YtdmgffoikebgkaaTb11
import Derived.Test.YtdmgffoikebgkaaTb12
import Derived.Test.YtdmgffoikebgkaaTb13
import Derived.Test.YtdmgffoikebgkaaTb14
import Derived.Test.YtdmgffoikebgkaaTb15
import Derived.Test.YtdmgffoikebgkaaTb16
import Derived.Test.YtdmgffoikebgkaaTb17
import Derived.Test.YtdmgffoikebgkaaTb18
import Derived.Test.YtdmgffoikebgkaaTb19
import Derived.Test.YtdmgffoikebgkaaTb20
import Derived.Test.YtdmgffoikebgkaaTi03
namespace Go.Proofs.Ytdmgffoikebgkaa
open Go.RowKit Go.Shelf
attribute [local go_sem] Oper.semAt_some

/-- the loom and the harness in memory -/
structure BdS (w : World) (Z : Nat) (A : Array Value) (E gh qh N T : Nat) (HS : List Nat) (W : World) : Prop where
  z : BoxAt W Z A 92
  e : BoxAt W E #[.int .i64 (N : Int), .slice (some ⟨gh, 0, none⟩) T qh] 26
  nh : NatsAt W gh 0 HS
  lh : gh < W.heap.size
  b : Below w.heap.size w W
theorem BdS.next {w W W' : World} {Z : Nat} {A : Array Value} {E gh qh N T : Nat} {HS : List Nat} (h : BdS w Z A E gh qh N T HS W) (hb : Below W.heap.size W W') : BdS w Z A E gh qh N T HS W' :=
  ⟨h.z.next hb, h.e.next hb, h.nh.below hb h.lh, Nat.lt_of_lt_of_le h.lh hb.size, h.b.trans (hb.mono h.b.size)⟩
theorem call58b (n T b c m : Nat) (hs : List Nat) (W : World) (hT : hs.length = T) (hT0 : 1 ≤ T) (hT1 : T ≤ 96) (hN0 : 1 ≤ n) (hN1 : n ≤ 24) (hk : ∀ i, i < T → nthN hs i < n) (h1 : NatsAt W b 0 hs) (h2 : b < W.heap.size) (hm1 : 1 ≤ m) (hm2 : m ≤ 24) :
    Calls Try.prog 58 #[.agg #[.int .i64 (n : Int), .slice (some ⟨b, 0, none⟩) T c], .int .i64 (m : Int)] W fun e w' => WorstR hs n m e ∧ Below W.heap.size W w' := by
  subst hT
  exact Worst_ok n b 0 c m hs W (tat_of rfl hT0 hT1 hN0 hN1 hk h1 h2) hm1 hm2
theorem tieRightB (b c n L : Nat) (ps : List Nat) (w : World) (h : ClAt w b 0 n ps) (hL : ps.length = L) (hl : L ≤ 60) :
    Calls Try.prog 65 #[.slice (some ⟨b, 0, none⟩) L c, .int .i64 (L : Int), .int .i64 (n : Int)] w fun e w' => e = .returned (.bool true) ∧ Below w.heap.size w w' :=
  (tieRight b c n L ps w h hL hl).mono fun e w' h => ⟨h.1, by rw [h.2]; exact Below.refl _ _⟩
set_option maxRecDepth 100000 in
set_option maxHeartbeats 8000000 in
theorem TieBound_any (H B0 : Nat) (p1 p2 : Option Addr) (c1 c2 : Nat) (ws rs : List Nat) (w : World) (hH : H < 256) (hB0 : B0 < 256) (hw : ByteRow w p1 ws) (hr : WordRow w p2 rs) (hwl : ws.length ≤ 9223372036854775807) (hrl : rs.length ≤ 9223372036854775807) :
    Calls Try.prog 11 #[.agg (lomA H p1 p2 ws.length c1 rs.length c2), .int .u8 (B0 : Int)] w fun e w' => e = .returned (.bool true) ∧ Below w.heap.size w w' := by
  obtain ⟨w0, hw0⟩ : ∃ w0, w0 = w.alloc (.cells (lomA H p1 p2 ws.length c1 rs.length c2) 92) := ⟨_, rfl⟩
  have hb0 : Below w.heap.size w w0 := by rw [hw0]; exact (Below.refl _ _).alloc (Nat.le_refl _) _
  have hA : BoxAt w0 w.heap.size (lomA H p1 p2 ws.length c1 rs.length c2) 92 := by rw [hw0]; exact BoxAt.new w _ _
  obtain ⟨hk1, hk2⟩ := loomL_bdM 48 ws.length (by omega)
  obtain ⟨hk3, hk4⟩ := loomL_bdM 12 rs.length (by omega)
  have H63 : ∀ W, Below w0.heap.size w0 W → Calls Try.prog 63 #[.agg (lomA H p1 p2 ws.length c1 rs.length c2)] W (MadeL (lomN H) (loomL 48 ws.length) (hsTo (lomN H) ws (loomL 48 ws.length)) W) := fun W hb =>
    (lomHarness_any H p1 p2 c1 rs.length c2 ws W hH (ByteRow.next hw (hb0.trans (hb.mono hb0.size))) hwl).mono (by
      rintro e w' ⟨v, rfl, h1, h2⟩
      obtain ⟨g, c, rfl⟩ := row_slice h1 (by omega)
      obtain ⟨h3, h4, h5⟩ := nats_of_row h1 (by omega)
      exact ⟨g, c, rfl, h3, h5, h4, h2⟩)
  have H64 : ∀ W, Below w0.heap.size w0 W → Calls Try.prog 64 #[.agg (lomA H p1 p2 ws.length c1 rs.length c2)] W (MadeL (lomN H) (loomL 12 rs.length) (dsTo (lomN H) rs (loomL 12 rs.length)) W) := fun W hb =>
    (lomDesign_any H p1 p2 ws.length c1 c2 rs W hH (WordRow.next hr (hb0.trans (hb.mono hb0.size))) hrl).mono (by
      rintro e w' ⟨v, rfl, h1, h2⟩
      obtain ⟨g, c, rfl⟩ := row_slice h1 (by omega)
      obtain ⟨h3, h4, h5⟩ := nats_of_row h1 (by omega)
      exact ⟨g, c, rfl, h3, h5, h4, h2⟩)
  obtain ⟨hN1, hN2⟩ := lomN_bd H
  have hVd := dsTo_validM (lomN H) rs (loomL 12 rs.length) hN1 (by omega) hk3 (by omega)
  have hDl := dsTo_len (lomN H) rs (loomL 12 rs.length)
  have hHk := fun i (hi : i < loomL 48 ws.length) => hsTo_nthT (lomN H) ws (loomL 48 ws.length) i hN1 hi
  have hHl := hsTo_len (lomN H) ws (loomL 48 ws.length)
  obtain ⟨L, hL⟩ : ∃ L, loomL 12 rs.length = L := ⟨_, rfl⟩
  obtain ⟨T, hT⟩ : ∃ T, loomL 48 ws.length = T := ⟨_, rfl⟩
  obtain ⟨N, hN⟩ : ∃ N, lomN H = N := ⟨_, rfl⟩
  rw [hL] at hk3 hk4
  rw [hT] at hk1 hk2
  rw [hN, hL] at hVd hDl
  simp only [hN, hL] at H64
  simp only [hN, hT] at H63 hHk hHl
  rw [hN] at hN1 hN2
  obtain ⟨DS, hDS⟩ : ∃ DS, dsTo N rs L = DS := ⟨_, rfl⟩
  obtain ⟨HS, hHS⟩ : ∃ HS, hsTo N ws T = HS := ⟨_, rfl⟩
  rw [hDS] at hVd hDl
  simp only [hDS] at H64
  simp only [hHS] at H63 hHk hHl
  clear hN hDS hL hT hHS
  have HVd := Lib.hid hVd
  have HDl := Lib.hid hDl
  have HHk := Lib.hid hHk
  have HHl := Lib.hid hHl
  have HW0 := Lib.hid hw0
  have Hb0 := Lib.hid hb0
  have HA := Lib.hid hA
  unfold lomA at HW0 H63 H64 HA ⊢
  have H63' := Lib.hid H63
  have H64' := Lib.hid H64
  clear hw0 hb0 hA hw hr hVd hDl H63 H64 hHl hHk
  obtain ⟨m, hm⟩ : ∃ m, m = 1 + B0 % 6 := ⟨_, rfl⟩
  have Hme := Lib.hid (show 1 + (B0 : Int) % 6 = (m : Int) from by omega)
  have hmm : 1 ≤ m ∧ m ≤ 6 := by omega
  clear hm
  go_enter Try.func11, Try.ntmps11
  go_upto_region 1 with fail
  rw [← HW0.out]
  have c0 := HA.out.cell' 0 rfl
  have c1' := HA.out.cell' 1 rfl
  have c2' := HA.out.cell' 2 rfl
  go_wp2_with fail
  refine (H63'.out _ (Below.refl _ _)).mono ?_
  rintro e W1 ⟨g25, q25, rfl, hna, hla, hga, hbc⟩
  have HN1 := Lib.hid (show NatL W1 g25 HS from ⟨hna, hga⟩)
  have HA1 := Lib.hid (HA.out.next hbc)
  have Hb1 := Lib.hid (Hb0.out.trans (hbc.mono Hb0.out.size))
  have HH64 := Lib.hid (fun W (hb : Below W1.heap.size W1 W) => H64'.out W (hbc.trans (hb.mono hbc.size)))
  clear hna hla hga hbc c0 c1' c2' HA Hb0 H63' H64'
  go_upto_region 2 with fail
  rw [Hme.out]
  clear Hme
  obtain ⟨W2, hW⟩ : ∃ W2, W2 = W1.alloc (.cells #[.int .i64 (N : Int), .slice (some ⟨g25, 0, none⟩) T q25] 26) := ⟨_, rfl⟩
  obtain ⟨g5, hB⟩ : ∃ g5, g5 = W1.heap.size := ⟨_, rfl⟩
  rw [← hW, ← hB]
  have hbW : Below W1.heap.size W1 W2 := by rw [hW]; exact (Below.refl _ _).alloc (Nat.le_refl _) _
  have hxB : BoxAt W2 g5 #[.int .i64 (N : Int), .slice (some ⟨g25, 0, none⟩) T q25] 26 := by rw [hW, hB]; exact BoxAt.new _ _ _
  clear hW hB
  have HB2 := Lib.hid (show BdS w w.heap.size #[.int .u8 (H : Int), .slice p1 ws.length c1, .slice p2 rs.length c2] g5 g25 q25 N T HS W2 from ⟨HA1.out.next hbW, hxB, (HN1.out.next hbW).at', (HN1.out.next hbW).lt, Hb1.out.trans (hbW.mono Hb1.out.size)⟩)
  have H64b := Lib.hid (fun W (hb : Below W2.heap.size W2 W) => HH64.out W (hbW.trans (hb.mono hbW.size)))
  clear hbW hxB HA1 HN1 Hb1 HH64
  have e0 := HB2.out.e.cell' 0 rfl
  have e1 := HB2.out.e.cell' 1 rfl
  have H28 := Lib.hid (call28 N T g25 q25 HS W2 HHl.out hk1 (by omega) HB2.out.nh HB2.out.lh)
  go_wp2_with fail
  refine H28.out.mono ?_
  rintro e W3 ⟨g32, q32, rfl, hna, hla, hga, hbc⟩
  have HB3 := Lib.hid (HB2.out.next hbc)
  have H64c := Lib.hid (fun W (hb : Below W3.heap.size W3 W) => H64b.out W (hbc.trans (hb.mono hbc.size)))
  have H58 := Lib.hid (call58b N T g32 q32 m HS W3 HHl.out hk1 (by omega) hN1 (by omega) HHk.out hna hga hmm.1 (by omega))
  clear hna hla hga hbc HB2 H64b H28 e0 e1
  go_wp2_with fail
  refine H58.out.mono ?_
  rintro e W4 ⟨⟨lo, row, hR, hlo⟩, hbc⟩
  have HB4 := Lib.hid (HB3.out.next hbc)
  have H64d := Lib.hid (fun W (hb : Below W4.heap.size W4 W) => H64c.out W (hbc.trans (hb.mono hbc.size)))
  have HR := Lib.hid hR
  clear hbc HB3 H64c H58 hR
  rcases hlo with ⟨hlo, rfl⟩ | ⟨hlo, rfl⟩
  · have hnb := wor_zero HR.out (by rw [HHl.out]; exact hk1) (by rw [HHl.out]; exact HHk.out) hlo
    have Hnv := Lib.hid (fun p => bind_none (n := N) (m := m) (p := p) (by omega) hnb)
    have Hm1 := hmm.1
    clear hnb hlo HR
    go_upto_region 3 with fail
    refine region_tb3n w.heap.size N L m (.int .u8 (H : Int)) (.slice p1 ws.length c1) (.slice p2 rs.length c2) DS H64d.out (by omega) (fun b c f W a1 a2 a3 a4 => call69v N L b c f m DS W HDl.out HVd.out Hm1 (by omega) Hnv.out a1 a2 a3 a4) HB4.out.z rfl ?hops (by kernel_rfl) (by kernel_rfl) (by kernel_rfl) (by kernel_rfl) ?hsz ?hout ?hend
    case hops => exact ⟨⟨_, _, _, rfl, by kernel_rfl⟩, ⟨_, _, _, rfl, by kernel_rfl⟩, ⟨_, _, _, rfl, by kernel_rfl⟩, ⟨_, _, _, rfl, by kernel_rfl⟩, ⟨_, _, _, rfl, by kernel_rfl⟩, ⟨_, _, rfl, by kernel_rfl⟩, ⟨_, _, _, rfl, by kernel_rfl⟩, ⟨_, _, _, rfl, by kernel_rfl⟩, ⟨_, _, _, rfl, by kernel_rfl⟩, ⟨_, _, _, rfl, by kernel_rfl⟩, ⟨_, _, _, rfl, by kernel_rfl⟩, ⟨_, _, _, rfl, by kernel_rfl⟩, ⟨_, _, _, rfl, by kernel_rfl⟩, ⟨_, _, _, rfl, by kernel_rfl⟩, ⟨_, _, _, rfl, by kernel_rfl⟩, ⟨_, _, _, rfl, by kernel_rfl⟩, ⟨_, _, _, rfl, by kernel_rfl⟩⟩
    case hsz => intro d hd; simp only [List.mem_cons, List.not_mem_nil, or_false] at hd; show d < 185; omega
    case hout => exact ⟨rfl, rfl⟩
    case hend =>
      intro g40 q40 G40 Q40 g42 q42 G42 Q42 g45 q45 G45 Q45 g10 q10 G10 Q10 P40 P42 P45 P10 u39 u40 u41 u42 u43 u44 u45 u46 u47 u38 u48 u49 u50 W5 hb5 hm40 hB40 hm42 hB42 hm45 hB45 hl10 hu10 hs10
      simp only [putL, List.foldl, Act.put, List.setIfInBounds_toArray, List.set_cons_succ, List.set_cons_zero]
      have HBw := Lib.hid (HB4.out.next hb5).b
      clear hb5 hm40 hB40 hm42 hB42 hm45 hB45 hl10 hu10 hs10 HB4 H64d
      go_upto_region 5 with fail
      go_wp2_with fail
      refine (tieKnown _).mono ?_
      rintro e W6 ⟨rfl, hb6⟩
      have Hend := Lib.hid (show Below w.heap.size w W6 from HBw.out.trans (hb6.mono HBw.out.size))
      clear hb6
      go_wp2_with fail
      go_ret
      exact ⟨rfl, Hend.out⟩
  · have hwr2 := wor_row HR.out (by omega) (by rw [HHl.out]; exact HHk.out) hlo
    have Hrow := Lib.hid hwr2
    have Hbs := Lib.hid (fun p => bind_some (n := N) (m := m) (p := p) hN1 (by omega) hwr2.1 hwr2.2.1)
    have Hm1 := hmm.1
    have Hlo := Lib.hid hlo
    obtain ⟨V, hV⟩ : ∃ V, (if lo = HS.length then 1000 else lo : Nat) = V := ⟨_, rfl⟩
    have HV := Lib.hid (show worV HS.length lo = V from hV)
    have hV1 : 1 ≤ V := by rw [← hV]; split <;> omega
    have hV2 : V ≤ 1000 := by rw [← hV]; have := HR.out.le; rw [HHl.out] at this; split <;> omega
    rw [hV]
    clear hV hwr2 hlo
    go_upto_region 3 with fail
    refine region_tb3 w.heap.size N L m (smOf N m DS) (.int .u8 (H : Int)) (.slice p1 ws.length c1) (.slice p2 rs.length c2) DS (zsOf N m DS) H64d.out (by omega) (fun b c f W a1 a2 a3 a4 => call69b N L b c f m DS W HDl.out HVd.out Hm1 (by omega) Hbs.out a1 a2 a3 a4) HB4.out.z rfl ?hops (by kernel_rfl) (by kernel_rfl) (by kernel_rfl) (by kernel_rfl) ?hsz ?hout ?hend
    case hops => exact ⟨⟨_, _, _, rfl, by kernel_rfl⟩, ⟨_, _, _, rfl, by kernel_rfl⟩, ⟨_, _, _, rfl, by kernel_rfl⟩, ⟨_, _, _, rfl, by kernel_rfl⟩, ⟨_, _, _, rfl, by kernel_rfl⟩, ⟨_, _, rfl, by kernel_rfl⟩, ⟨_, _, _, rfl, by kernel_rfl⟩, ⟨_, _, _, rfl, by kernel_rfl⟩, ⟨_, _, _, rfl, by kernel_rfl⟩, ⟨_, _, _, rfl, by kernel_rfl⟩, ⟨_, _, _, rfl, by kernel_rfl⟩, ⟨_, _, _, rfl, by kernel_rfl⟩, ⟨_, _, _, rfl, by kernel_rfl⟩, ⟨_, _, _, rfl, by kernel_rfl⟩, ⟨_, _, _, rfl, by kernel_rfl⟩, ⟨_, _, _, rfl, by kernel_rfl⟩, ⟨_, _, _, rfl, by kernel_rfl⟩⟩
    case hsz => intro d hd; simp only [List.mem_cons, List.not_mem_nil, or_false] at hd; show d < 185; omega
    case hout => exact ⟨rfl, rfl⟩
    case hend =>
      intro g40 q40 G40 Q40 g42 q42 G42 Q42 g45 q45 G45 Q45 g47 q47 G47 Q47 g10 q10 G10 Q10 P40 P42 P45 P47 P10 u39 u40 u41 u42 u43 u44 u45 u46 u47 u38 u48 u49 u50 W5 hb5 hm40 hB40 hm42 hB42 hm45 hB45 hm47 hB47 hl10 hu10 hs10
      simp only [putL, List.foldl, Act.put, List.setIfInBounds_toArray, List.set_cons_succ, List.set_cons_zero]
      have HB5 := Lib.hid (HB4.out.next hb5)
      have H64e := Lib.hid (fun W (hb : Below W5.heap.size W5 W) => H64d.out W (hb5.trans (hb.mono hb5.size)))
      have NZ := Lib.hid (show NatL W5 g47 (zsOf N m DS) from ⟨hm47.1, hm47.2⟩)
      have XZ := Lib.hid hs10
      have HZ := Lib.hid (zs_bound HVd.out Hbs.out)
      have HZl := Lib.hid (show (zsOf N m DS).length = L from (zs_len N m DS).trans HDl.out)
      clear hb5 hm40 hB40 hm42 hB42 hm45 hB45 hm47 hB47 hl10 hu10 hs10 HB4 H64d
      go_upto_region 6 with fail
      refine region_tb6 N L g47 q47 g10 g25 q25 g5 T (zsOf N m DS) HS HZl.out HZ.out.1 NZ.out.at' NZ.out.lt HHl.out hk1 (by omega) HB5.out.nh HB5.out.lh HHk.out XZ.out HB5.out.e rfl ?hops (by kernel_rfl) (by kernel_rfl) (by kernel_rfl) (by kernel_rfl) ?hsz ?hout ?hend
      case hops => exact ⟨⟨_, _, _, rfl, by kernel_rfl⟩, ⟨_, _, _, rfl, by kernel_rfl⟩, ⟨_, _, _, rfl, by kernel_rfl⟩, ⟨_, _, _, rfl, by kernel_rfl⟩, ⟨_, _, _, rfl, by kernel_rfl⟩, ⟨_, _, _, rfl, by kernel_rfl⟩, ⟨_, _, _, rfl, by kernel_rfl⟩, ⟨_, _, _, rfl, by kernel_rfl⟩, ⟨_, _, _, rfl, by kernel_rfl⟩, ⟨_, _, _, rfl, by kernel_rfl⟩⟩
      case hsz => intro d hd; simp only [List.mem_cons, List.not_mem_nil, or_false] at hd; show d < 185; omega
      case hout => exact ⟨rfl, rfl⟩
      case hend =>
        intro g77 q77 G77 Q77 g79 q79 G79 Q79 g80 q80 G80 Q80 P77 P79 P80 u76 u77 u78 u79 u80 u75 u81 u82 W6 hb6 hm77 hB77 hm79 hB79 hm80 hB80
        simp only [putL, List.foldl, Act.put, List.setIfInBounds_toArray, List.set_cons_succ, List.set_cons_zero]
        have HB6 := Lib.hid (HB5.out.next hb6)
        have H64f := Lib.hid (fun W (hb : Below W6.heap.size W6 W) => H64e.out W (hb6.trans (hb.mono hb6.size)))
        have NZ2 := Lib.hid (NZ.out.next hb6)
        have XZ2 := Lib.hid (XZ.out.next hb6)
        have HC := Lib.hid (show StrsAt W6 g80 0 (clothS HS (zsOf N m DS)) ∧ g80 < W6.heap.size from ⟨hm80.1, hm80.2⟩)
        clear hb6 hm77 hB77 hm79 hB79 hm80 hB80 HB5 H64e NZ XZ
        have Hfl := Lib.hid (show upTo (flO HS (zsOf N m DS) V) L = [] from by
          have := worst_bound (xs := zsOf N m DS) (L := L) HR.out hN1 (by rw [HHl.out]; exact HHk.out) (by rw [HHl.out]; exact hk1) (by rw [HHl.out]; omega) (fun i hi => HZ.out.2 i (by rw [HDl.out]; exact hi))
          have e : (if lo = HS.length then 1000 else lo : Nat) = V := HV.out
          rwa [e] at this)
        go_upto_region 7 with fail
        refine region_tb7 N L g47 q47 g10 g25 q25 g5 T V (zsOf N m DS) HS HZl.out HZ.out.1 NZ2.out.at' NZ2.out.lt HHl.out hk1 (by omega) HB6.out.nh HB6.out.lh HHk.out hN1 (by omega) hV2 Hfl.out XZ2.out HB6.out.e rfl ?hops (by kernel_rfl) (by kernel_rfl) (by kernel_rfl) (by kernel_rfl) ?hsz ?hout ?hend
        case hops => exact ⟨⟨_, _, _, rfl, by kernel_rfl⟩, ⟨_, _, _, rfl, by kernel_rfl⟩, ⟨_, _, _, rfl, by kernel_rfl⟩, ⟨_, _, _, rfl, by kernel_rfl⟩, ⟨_, _, _, rfl, by kernel_rfl⟩, ⟨_, _, _, rfl, by kernel_rfl⟩, ⟨_, _, _, rfl, by kernel_rfl⟩, ⟨_, _, _, rfl, by kernel_rfl⟩, ⟨_, _, _, rfl, by kernel_rfl⟩, ⟨_, _, _, rfl, by kernel_rfl⟩, ⟨_, _, _, rfl, by kernel_rfl⟩⟩
        case hsz => intro d hd; simp only [List.mem_cons, List.not_mem_nil, or_false] at hd; show d < 185; omega
        case hout => exact ⟨rfl, rfl, rfl⟩
        case hend =>
          intro g85 q85 G85 Q85 g87 q87 G87 Q87 g89 q89 G89 Q89 P85 P87 P89 u84 u85 u86 u87 u88 u89 u83 u90 u91 W7 hb7 hm85 hB85 hm87 hB87 hm89 hB89
          simp only [putL, List.foldl, Act.put, List.setIfInBounds_toArray, List.set_cons_succ, List.set_cons_zero]
          have HB7 := Lib.hid (HB6.out.next hb7)
          have H64g := Lib.hid (fun W (hb : Below W7.heap.size W7 W) => H64f.out W (hb7.trans (hb.mono hb7.size)))
          have HC7 := Lib.hid (show StrsAt W7 g80 0 (clothS HS (zsOf N m DS)) ∧ g80 < W7.heap.size from ⟨HC.out.1.below hb7 HC.out.2, Nat.lt_of_lt_of_le HC.out.2 hb7.size⟩)
          clear hb7 hm85 hB85 hm87 hB87 hm89 hB89 HB6 H64f NZ2 XZ2 HC Hfl
          have HZC := Lib.hid (show ClS (clothS HS (zsOf N m DS)) T (pks HS (zsOf N m DS)) from by have := cloth_ClS HS (zsOf N m DS) (by rw [HHl.out]; exact hk1) (by rw [HHl.out]; omega); rw [HHl.out] at this; exact this)
          have HZp := Lib.hid (show (pks HS (zsOf N m DS)).length = L from by rw [pks_len]; exact HZl.out)
          have HSs := Lib.hid (fun W (hb : Below W7.heap.size W7 W) => (show StrsAt W g80 0 (clothS HS (zsOf N m DS)) ∧ g80 < W.heap.size from ⟨HC7.out.1.below hb HC7.out.2, Nat.lt_of_lt_of_le HC7.out.2 hb.size⟩))
          have H65 := Lib.hid (fun W (hb : Below W7.heap.size W7 W) => tieRightB g80 q80 T L (pks HS (zsOf N m DS)) W (HZC.out.at (HSs.out W hb).1 (HSs.out W hb).2) HZp.out (by omega))
          have H70 := Lib.hid (fun W (hb : Below W7.heap.size W7 W) => tieLongest_ok T L g80 q80 (clothS HS (zsOf N m DS)) (pks HS (zsOf N m DS)) W hk1 (by omega) (by omega) HZC.out HZp.out (HSs.out W hb).1 (HSs.out W hb).2)
          have HLV := Lib.hid (show longL (pks HS (zsOf N m DS)) T L ≤ V from by
            have := long_le (xs := zsOf N m DS) (L := L) HR.out (by rw [HHl.out]; omega) HZl.out (fun i hi => HZ.out.2 i (by rw [HDl.out]; exact hi))
            rw [HV.out, HHl.out] at this
            exact this)
          clear HC7
          go_upto_region 8 with fail
          refine region_tb8 w.heap.size N L T g25 q25 g5 g80 q80 q89 (longL (pks HS (zsOf N m DS)) T L) V P89 (.int .u8 (H : Int)) (.slice p1 ws.length c1) (.slice p2 rs.length c2) DS H64g.out HLV.out H65.out H70.out HB7.out.z HB7.out.e rfl ?hops (by kernel_rfl) (by kernel_rfl) (by kernel_rfl) (by kernel_rfl) ?hsz ?hout ?hend
          case hops => exact ⟨⟨_, _, _, rfl, by kernel_rfl⟩, ⟨_, _, _, rfl, by kernel_rfl⟩, ⟨_, _, _, rfl, by kernel_rfl⟩, ⟨_, _, _, rfl, by kernel_rfl⟩, ⟨_, _, _, rfl, by kernel_rfl⟩, ⟨_, _, _, rfl, by kernel_rfl⟩, ⟨_, _, _, rfl, by kernel_rfl⟩, ⟨_, _, _, rfl, by kernel_rfl⟩, ⟨_, _, rfl, by kernel_rfl⟩, ⟨_, _, _, rfl, by kernel_rfl⟩, ⟨_, _, _, rfl, by kernel_rfl⟩, ⟨_, _, _, rfl, by kernel_rfl⟩, ⟨_, _, _, rfl, by kernel_rfl⟩, ⟨_, _, _, rfl, by kernel_rfl⟩, ⟨_, _, _, rfl, by kernel_rfl⟩, ⟨_, _, _, rfl, by kernel_rfl⟩, ⟨_, _, rfl, by kernel_rfl⟩, ⟨_, _, _, rfl, by kernel_rfl⟩, ⟨_, _, _, rfl, by kernel_rfl⟩, ⟨_, _, rfl, by kernel_rfl⟩, ⟨_, _, _, rfl, by kernel_rfl⟩, ⟨_, _, _, rfl, by kernel_rfl⟩, ⟨_, _, _, rfl, by kernel_rfl⟩, ⟨_, _, _, rfl, by kernel_rfl⟩, ⟨_, _, _, rfl, by kernel_rfl⟩, ⟨_, _, _, rfl, by kernel_rfl⟩, ⟨_, _, _, rfl, by kernel_rfl⟩, ⟨_, _, _, rfl, by kernel_rfl⟩, ⟨_, _, _, rfl, by kernel_rfl⟩⟩
          case hsz => intro d hd; simp only [List.mem_cons, List.not_mem_nil, or_false] at hd; show d < 185; omega
          case hout => exact ⟨rfl, rfl, rfl, rfl, rfl, rfl, rfl⟩
          case hend =>
            intro g106 q106 G106 Q106 P106 u92 u93 u94 u95 u96 u97 u98 u99 u100 u101 u102 u103 u104 u105 u106 u107 u108 u109 u110 u111 u112 u113 u114 u115 u116 u117 u118 u119 W8 hb8 hm106 hB106
            simp only [putL, List.foldl, Act.put, List.setIfInBounds_toArray, List.set_cons_succ, List.set_cons_zero]
            have HB8 := Lib.hid (HB7.out.next hb8)
            clear hb8 hm106 hB106 HB7 H64g H65 H70 HSs HLV HZC HZp HZ HZl
            have e0 := HB8.out.e.cell' 0 rfl
            have e1 := HB8.out.e.cell' 1 rfl
            go_upto_region 11 with fail
            obtain ⟨W9, hW⟩ : ∃ W9, W9 = (W8.alloc (.cells #[.int .i64 (row : Int)] 3)).alloc (.cells #[.int .i64 (N : Int), .slice (some ⟨W8.heap.size, 0, none⟩) 1 1] 37) := ⟨_, rfl⟩
            rw [← hW]
            have hbW : Below W8.heap.size W8 W9 := by rw [hW]; exact ((Below.refl _ _).alloc (Nat.le_refl _) _).alloc (by simp) _
            have hxO : BoxAt W9 (W8.heap.size + 1) #[.int .i64 (N : Int), .slice (some ⟨W8.heap.size, 0, none⟩) 1 1] 37 := by
              rw [hW]; have := BoxAt.new (W8.alloc (.cells #[.int .i64 (row : Int)] 3)) #[.int .i64 (N : Int), .slice (some ⟨W8.heap.size, 0, none⟩) 1 1] 37; rw [World.size_alloc] at this; exact this
            have hxr : BoxAt W9 W8.heap.size #[.int .i64 (row : Int)] 3 := by rw [hW]; exact (BoxAt.new W8 _ _).next ((Below.refl _ _).alloc (Nat.le_refl _) _)
            have NO := Lib.hid (show NatL W9 W8.heap.size [row] from ⟨fun i hi => by
              obtain rfl : i = 0 := by simpa using hi
              exact hxr.cell' 0 rfl, hxr.lt⟩)
            obtain ⟨go, hgo⟩ : ∃ go, go = W8.heap.size := ⟨_, rfl⟩
            rw [← hgo] at NO hxO ⊢
            have XO := Lib.hid hxO
            have HB9 := Lib.hid (HB8.out.next hbW)
            clear hW hbW hxO hxr hgo HB8 e0 e1
            have HOv := Lib.hid (show Valid N [row] from ⟨hN1, by omega, by simp, by simp, fun i => by
              cases i with
              | zero => exact Hrow.out.1
              | succ i => simp [nthN]; exact Nat.pow_pos (by decide)⟩)
            have x0 := XO.out.cell' 0 rfl
            have x1 := XO.out.cell' 1 rfl
            have H37 := Lib.hid (call37 N 1 go 1 [row] W9 rfl HOv.out NO.out.at' NO.out.lt)
            go_wp2_with fail
            refine H37.out.mono ?_
            rintro e W10 ⟨g128, q128, rfl, hna, hla, hga, hbc⟩
            have HBa := Lib.hid (HB9.out.next hbc)
            have NO2 := Lib.hid (NO.out.next hbc)
            have XO2 := Lib.hid (XO.out.next hbc)
            have H71 := Lib.hid (call71 N 1 g128 q128 m [row] W10 rfl HOv.out (by omega) (fun i hi => by
              obtain rfl : i = 0 := by omega
              exact Hrow.out.2.1) hna hga)
            clear hna hla hga hbc HB9 NO XO x0 x1 H37
            go_wp2_with fail
            refine H71.out.mono ?_
            rintro e W11 ⟨p18, c18, rfl, hbc⟩
            have HBb := Lib.hid (HBa.out.next hbc)
            have NO3 := Lib.hid (NO2.out.next hbc)
            have XO3 := Lib.hid (XO2.out.next hbc)
            clear hbc HBa NO2 XO2 H71
            go_upto_region 12 with fail
            refine region_tb12 N 1 go 1 (go + 1) g25 q25 g5 T [row] HS rfl HOv.out NO3.out.at' NO3.out.lt HHl.out hk1 (by omega) HBb.out.nh HBb.out.lh HHk.out HBb.out.e XO3.out rfl ?hops (by kernel_rfl) (by kernel_rfl) (by kernel_rfl) (by kernel_rfl) ?hsz ?hout ?hend
            case hops => exact ⟨⟨_, _, _, rfl, by kernel_rfl⟩, ⟨_, _, _, rfl, by kernel_rfl⟩, ⟨_, _, _, rfl, by kernel_rfl⟩, ⟨_, _, _, rfl, by kernel_rfl⟩, ⟨_, _, _, rfl, by kernel_rfl⟩, ⟨_, _, _, rfl, by kernel_rfl⟩, ⟨_, _, _, rfl, by kernel_rfl⟩, ⟨_, _, _, rfl, by kernel_rfl⟩, ⟨_, _, _, rfl, by kernel_rfl⟩⟩
            case hsz => intro d hd; simp only [List.mem_cons, List.not_mem_nil, or_false] at hd; show d < 185; omega
            case hout => exact ⟨rfl, rfl⟩
            case hend =>
              intro g135 q135 G135 Q135 g137 q137 G137 Q137 P135 P137 u134 u135 u136 u137 u133 u138 u139 W12 hb12 hm135 hB135 hm137 hB137
              simp only [putL, List.foldl, Act.put, List.setIfInBounds_toArray, List.set_cons_succ, List.set_cons_zero]
              have HBc := Lib.hid (HBb.out.next hb12)
              have HOc := Lib.hid (show ClS (clothS HS [row]) T (pks HS [row]) from by have := cloth_ClS HS [row] (by rw [HHl.out]; exact hk1) (by rw [HHl.out]; omega); rw [HHl.out] at this; exact this)
              have NC := Lib.hid (show StrsAt W12 g137 0 (clothS HS [row]) ∧ g137 < W12.heap.size from ⟨hm137.1, hm137.2⟩)
              clear hb12 hm135 hB135 hm137 hB137 HBb NO3 XO3
              have e0 := HBc.out.e.cell' 0 rfl
              have e1 := HBc.out.e.cell' 1 rfl
              obtain ⟨m1, hm1⟩ : ∃ m1, m1 = m + 1 := ⟨_, rfl⟩
              have Hm1e := Lib.hid (show (m : Int) + 1 = (m1 : Int) from by omega)
              have hm1b : m1 ≤ 24 := by omega
              have hm1c : 1 ≤ m1 := by omega
              have HM1 := Lib.hid hm1
              clear hm1
              have H28 := Lib.hid (call28 N T g25 q25 HS W12 HHl.out hk1 (by omega) HBc.out.nh HBc.out.lh)
              go_wp2_with fail
              refine H28.out.mono ?_
              rintro e W13 ⟨g142, q142, rfl, hna, hla, hga, hbc⟩
              have HBd := Lib.hid (HBc.out.next hbc)
              have NC2 := Lib.hid (show StrsAt W13 g137 0 (clothS HS [row]) ∧ g137 < W13.heap.size from ⟨NC.out.1.below hbc NC.out.2, Nat.lt_of_lt_of_le NC.out.2 hbc.size⟩)
              have H58 := Lib.hid (call58b N T g142 q142 m1 HS W13 HHl.out hk1 (by omega) hN1 (by omega) HHk.out hna hga hm1c hm1b)
              clear hna hla hga hbc HBc H28 NC
              go_wp2_with fail
              rw [Hm1e.out]
              refine H58.out.mono ?_
              rintro e W14 ⟨⟨lo2, row2, hR2, hlo2⟩, hbc⟩
              have HBe := Lib.hid (HBd.out.next hbc)
              have NC3 := Lib.hid (show StrsAt W14 g137 0 (clothS HS [row]) ∧ g137 < W14.heap.size from ⟨NC2.out.1.below hbc NC2.out.2, Nat.lt_of_lt_of_le NC2.out.2 hbc.size⟩)
              rw [HM1.out] at hR2
              have hwm := wor_more HR.out hR2 hN1 (by omega) (by rw [HHl.out]; omega)
              rw [HV.out] at hwm
              clear hbc HBd NC2 H58 hR2 e0 e1
              rcases hlo2 with ⟨hlo2, rfl⟩ | ⟨hlo2, rfl⟩
              · exfalso
                rw [hlo2] at hwm
                unfold worV at hwm
                rw [HHl.out, if_neg (by omega)] at hwm
                omega
              obtain ⟨V2, hV2'⟩ : ∃ V2, (if lo2 = HS.length then 1000 else lo2 : Nat) = V2 := ⟨_, rfl⟩
              have hVV : V ≤ V2 := by
                have e : worV HS.length lo2 = V2 := hV2'
                rw [e] at hwm
                exact hwm
              rw [hV2']
              clear hV2' hlo2 hwm
              have H65 := Lib.hid (tieRightB g137 q137 T 1 (pks HS [row]) W14 (HOc.out.at NC3.out.1 NC3.out.2) (by rw [pks_len]; rfl) (by omega))
              have e1 := HBe.out.e.cell' 1 rfl
              go_upto_region 14 with fail
              go_wp2_with fail
              refine H65.out.mono ?_
              rintro e W15 ⟨rfl, hbc⟩
              have HBf := Lib.hid (HBe.out.b.trans (hbc.mono HBe.out.b.size))
              have H70 := Lib.hid (tieLongest_ok T 1 g137 q137 (clothS HS [row]) (pks HS [row]) W15 hk1 (by omega) (by omega) HOc.out (by rw [pks_len]; rfl) (NC3.out.1.below hbc NC3.out.2) (Nat.lt_of_lt_of_le NC3.out.2 hbc.size))
              have hLR := long_row HR.out (by omega) (by rw [HHl.out]; omega) (by rw [HHl.out]; exact HHk.out) Hlo.out
              rw [HV.out, HHl.out] at hLR
              rw [hLR] at H70
              clear hbc HBe H65 NC3 hLR e1
              go_wp2_with fail
              refine H70.out.mono ?_
              rintro e W16 ⟨rfl, hbc⟩
              have HBg := Lib.hid (HBf.out.trans (hbc.mono HBf.out.size))
              clear hbc HBf H70
              go_wp2_with fail
              refine (tieKnown _).mono ?_
              rintro e W17 ⟨rfl, hbc⟩
              have Hend := Lib.hid (show Below w.heap.size w W17 from HBg.out.trans (hbc.mono HBg.out.size))
              clear hbc HBg
              go_wp2_with fail
              go_ret
              exact ⟨rfl, Hend.out⟩
end Go.Proofs.Ytdmgffoikebgkaa
