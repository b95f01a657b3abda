/- TopTurnedOver: for every loom a chain whose cards all lie turned weaves the mirrored design, by a straight tie the cloth from the other edge, and the design of the back the other side of the cloth; the examples hold. No condition. -/
import Derived.Test.YtdmgffoikebgkaaPT
import Derived.Test.YtdmgffoikebgkaaQA
import Derived.Test.YtdmgffoikebgkaaQB
import Derived.Test.YtdmgffoikebgkaaQC
import Derived.Test.YtdmgffoikebgkaaPN
import Derived.Deep.QuietTactic
import Derived.BigQuiet
namespace Go.Proofs.Ytdmgffoikebgkaa
open Go.RowKit Go.Shelf
attribute [local go_sem] Oper.semAt_some

theorem loomL_bd (m l : Nat) (hm : 1 ≤ m) : 1 ≤ loomL m l ∧ loomL m l ≤ m := by unfold loomL; split <;> omega
theorem dsTo_valid (n : Nat) (rs : List Nat) (k : Nat) (hn : 1 ≤ n) (hn2 : n ≤ 24) (hk : 1 ≤ k) (hk2 : k ≤ 60) : Valid n (dsTo n rs k) := by
  refine ⟨hn, hn2, by rw [dsTo_len]; exact hk, by rw [dsTo_len]; exact hk2, fun i => ?_⟩
  by_cases hi : i < k
  · rw [nthN_get _ _ (by rw [dsTo_len]; exact hi)]
    simp only [dsTo, List.getElem_map, List.getElem_range, dsG]
    have h2 : 0 < (2 : Nat) ^ n := Nat.pow_pos (by decide)
    exact Nat.lt_of_le_of_lt Nat.and_le_right (by omega)
  · have : nthN (dsTo n rs k) i = 0 := by unfold nthN; rw [List.getElem?_eq_none (by rw [dsTo_len]; omega)]; rfl
    rw [this]; exact Nat.pow_pos (by decide)
set_option maxRecDepth 100000 in
set_option maxHeartbeats 4000000 in
theorem TopTurnedOver_any (H : Nat) (p1 p2 p3 : Option Addr) (c1 c2 c3 : Nat) (ws rs sd : List Nat) (w : World) (hH : H < 256) (hr : WordRow w p2 rs) (hrl : rs.length ≤ 9223372036854775807) :
    Calls Try.prog 18 #[.agg (loomA H p1 p2 p3 ws.length c1 rs.length c2 sd.length c3)] w fun e w' => e = .returned (.bool true) ∧ Below w.heap.size w w' := by
  obtain ⟨w0, hw0⟩ : ∃ w0, w0 = w.alloc (.cells (loomA H p1 p2 p3 ws.length c1 rs.length c2 sd.length c3) 137) := ⟨_, rfl⟩
  have hb0 : Below w.heap.size w w0 := by rw [hw0]; exact (Below.refl _ _).alloc (Nat.le_refl _) _
  have hA : BoxAt w0 w.heap.size (loomA H p1 p2 p3 ws.length c1 rs.length c2 sd.length c3) 137 := by rw [hw0]; exact BoxAt.new _ _ _
  obtain ⟨hk3, hk4⟩ := loomL_bd 10 rs.length (by omega)
  have H95 : Calls Try.prog 95 #[.agg (loomA H p1 p2 p3 ws.length c1 rs.length c2 sd.length c3)] w0 (MadeL (loomN H) (loomL 10 rs.length) (dsTo (loomN H) rs (loomL 10 rs.length)) w0) :=
    (armDesign_any H p1 p2 p3 ws.length c1 c2 sd.length c3 rs w0 hH (WordRow.next hr hb0) hrl).mono (by
      rintro e w' ⟨v, rfl, h1, h2⟩
      obtain ⟨g, c, rfl⟩ := row_slice h1 (by omega)
      obtain ⟨h3, h4, h5⟩ := nats_of_row h1 (by omega)
      exact ⟨g, c, rfl, h3, h5, h4, h2⟩)
  obtain ⟨hN1, hN2⟩ := loomN_bd H
  have hVd := dsTo_valid (loomN H) rs (loomL 10 rs.length) hN1 (by omega) hk3 (by omega)
  have hDl := dsTo_len (loomN H) rs (loomL 10 rs.length)
  obtain ⟨L, hL⟩ : ∃ L, loomL 10 rs.length = L := ⟨_, rfl⟩
  obtain ⟨N, hN⟩ : ∃ N, loomN H = N := ⟨_, rfl⟩
  rw [hL] at hk3 hk4
  rw [hN, hL] at H95 hVd hDl
  rw [hN] at hN1 hN2
  obtain ⟨DS, hDS⟩ : ∃ DS, dsTo N rs L = DS := ⟨_, rfl⟩
  rw [hDS] at H95 hVd hDl
  clear hN hDS hL
  obtain ⟨M, hM⟩ : ∃ M, N = M + 1 := ⟨N - 1, by omega⟩
  have hMi : (N : Int) - 1 = (M : Int) := by omega
  have hM3 : M ≤ 23 := by omega
  have HM := Lib.hid hM
  have HMi := Lib.hid hMi
  have HW0 := Lib.hid hw0
  have Hb0 := Lib.hid hb0
  have a0 := hA.cell' 0 rfl
  have a1 := hA.cell' 1 rfl
  have a2 := hA.cell' 2 rfl
  have a3 := hA.cell' 3 rfl
  unfold loomA at HW0 H95 a0 a1 a2 a3 ⊢
  have HVd := Lib.hid hVd
  have HDl := Lib.hid hDl
  have H95' := Lib.hid H95
  clear hw0 hb0 hA hr hVd hDl H95 hM hMi
  go_enter Try.func18, Try.ntmps18
  go_wp2_with fail
  rw [← HW0.out]
  go_wp2_with fail
  refine H95'.out.mono ?_
  rintro e W1 ⟨g2, q2, rfl, hn2, hl2, hg2, hb1⟩
  clear HW0 H95' a0 a1 a2 a3
  go_upto_region 2 with fail
  obtain ⟨W2, hW2⟩ : ∃ W2, W2 = W1.alloc (.cells #[.int .i64 (N : Int), .slice (some ⟨g2, 0, none⟩) L q2] 37) := ⟨_, rfl⟩
  obtain ⟨Z, hZ⟩ : ∃ Z, Z = W1.heap.size := ⟨_, rfl⟩
  rw [← hW2, ← hZ]
  have hbW2 : Below W1.heap.size W1 W2 := by rw [hW2]; exact (Below.refl _ _).alloc (Nat.le_refl _) _
  have hxZ : BoxAt W2 Z #[.int .i64 (N : Int), .slice (some ⟨g2, 0, none⟩) L q2] 37 := by rw [hW2, hZ]; exact BoxAt.new _ _ _
  have hsZ : Z < W2.heap.size := hxZ.lt
  have hloZ : W1.heap.size ≤ Z := Nat.le_of_eq hZ.symm
  have hupZ : Z ≤ W1.heap.size := Nat.le_of_eq hZ
  clear hZ
  have hn22 := hn2.below hbW2 hg2
  have hg22 : g2 < W2.heap.size := Nat.lt_of_lt_of_le hg2 hbW2.size
  have z0 := hxZ.cell' 0 rfl
  have z1 := hxZ.cell' 1 rfl
  have H96 := Lib.hid (call96 N L g2 q2 DS W2 HDl.out HVd.out hn22 hg22)
  have Hb2 := Lib.hid (Hb0.out.trans ((hb1.trans (hbW2.mono hb1.size)).mono Hb0.out.size))
  have HZ2 := Lib.hid hxZ
  have Hn2 := Lib.hid hn22
  have hle1 : w.heap.size ≤ Z := Nat.le_trans (Nat.le_trans Hb0.out.size hb1.size) hloZ
  clear hn2 hl2 hb1 hbW2 hn22 hxZ Hb0 hW2
  go_wp2_with fail
  refine H96.out.mono ?_
  rintro e W3 ⟨g3, q3, rfl, hn3, hl3, hg3, hb3⟩
  have H81 := Lib.hid (call81 N L g3 q3 DS W3 HDl.out HVd.out hn3 hg3)
  have Hb3 := Lib.hid hb3
  have hs3 := hb3.size
  clear hn3 hl3 hg3 hb3 z0 z1 H96
  go_wp2_with fail
  refine H81.out.mono ?_
  rintro e W4 ⟨g4, q4, rfl, hP, hl4, hb4⟩
  have HP := Lib.hid hP
  have Hb4 := Lib.hid hb4
  have hs4 := hb4.size
  have hg4 := hP.lt
  clear hP hb4 H81
  go_upto_region 4 with fail
  obtain ⟨W5, hW5⟩ : ∃ W5, W5 = W4.alloc (.cells #[.int .i64 (N : Int), .slice (some ⟨g4, 0, none⟩) L q4] 114) := ⟨_, rfl⟩
  obtain ⟨D, hD⟩ : ∃ D, D = W4.heap.size := ⟨_, rfl⟩
  rw [← hW5, ← hD]
  have hbW5 : Below W4.heap.size W4 W5 := by rw [hW5]; exact (Below.refl _ _).alloc (Nat.le_refl _) _
  have hxD : BoxAt W5 D #[.int .i64 (N : Int), .slice (some ⟨g4, 0, none⟩) L q4] 114 := by rw [hW5, hD]; exact BoxAt.new _ _ _
  have hsD : D < W5.heap.size := hxD.lt
  have hloD : W4.heap.size ≤ D := Nat.le_of_eq hD.symm
  have hupD : D ≤ W4.heap.size := Nat.le_of_eq hD
  clear hD
  have hb25 : Below W2.heap.size W2 W5 := (Hb3.out.trans (Hb4.out.mono Hb3.out.size)).trans (hbW5.mono (by omega))
  have HZ5 := Lib.hid (HZ2.out.next hb25)
  have Hn25 := Lib.hid (Hn2.out.below hb25 hg22)
  have Hb5 := Lib.hid (Hb2.out.trans (hb25.mono Hb2.out.size))
  have HD5 := Lib.hid hxD
  have HP5 := Lib.hid (HP.out.next hbW5)
  have hs5 := hbW5.size
  have z0 := HZ5.out.cell' 0 rfl
  have hMi := HMi.out
  have hb6' : Below W5.heap.size W5 (W5.alloc (.cells #[.int .i64 0, .int .i64 (M : Int), .int .i64 1, .int .i64 1] 32)) := (Below.refl _ _).alloc (Nat.le_refl _) _
  have h24 := call24 N M 1 N W5.heap.size (W5.alloc (.cells #[.int .i64 0, .int .i64 (M : Int), .int .i64 1, .int .i64 1] 32)) hN1 (by omega) HM.out (by omega) (by omega) (by omega) (by omega) (BoxAt.new _ _ _)
  have H24 := Lib.hid h24
  have Hb6' := Lib.hid hb6'
  clear hb25 hbW5 hxD Hb2 HZ2 Hn2 Hb3 Hb4 HP h24 hb6' hW5
  go_wp2_with fail
  refine H24.out.mono ?_
  rintro e W6 ⟨g6, q6, rfl, hn6, hl6, hg6, hb6⟩
  have hb56 := Hb6'.out.trans (hb6.mono Hb6'.out.size)
  have hs6 := hb56.size
  have hl6' : W5.heap.size ≤ g6 := by have := hl6; simp at this; omega
  have Hb56 := Lib.hid hb56
  have Hn6 := Lib.hid hn6
  clear hb6 hb56 hn6 hl6 Hb6' H24 z0 hMi
  go_upto_region 5 with fail
  obtain ⟨W7, hW7⟩ : ∃ W7, W7 = W6.alloc (.cells #[.int .i64 (N : Int), .slice (some ⟨g6, 0, none⟩) N q6] 26) := ⟨_, rfl⟩
  obtain ⟨Y, hY⟩ : ∃ Y, Y = W6.heap.size := ⟨_, rfl⟩
  rw [← hW7, ← hY]
  have hbW7 : Below W6.heap.size W6 W7 := by rw [hW7]; exact (Below.refl _ _).alloc (Nat.le_refl _) _
  have hxY : BoxAt W7 Y #[.int .i64 (N : Int), .slice (some ⟨g6, 0, none⟩) N q6] 26 := by rw [hW7, hY]; exact BoxAt.new _ _ _
  have hsY : Y < W7.heap.size := hxY.lt
  have hloY : W6.heap.size ≤ Y := Nat.le_of_eq hY.symm
  have hupY : Y ≤ W6.heap.size := Nat.le_of_eq hY
  clear hY
  have hb57 : Below W5.heap.size W5 W7 := Hb56.out.trans (hbW7.mono Hb56.out.size)
  have HZ7 := Lib.hid (HZ5.out.next hb57)
  have Hn27 := Lib.hid (Hn25.out.below hb57 (by omega))
  have Hb7 := Lib.hid (Hb5.out.trans (hb57.mono Hb5.out.size))
  have HD7 := Lib.hid (HD5.out.next hb57)
  have HP7 := Lib.hid (HP5.out.next hb57)
  have HY7 := Lib.hid hxY
  have Hn67 := Lib.hid (Hn6.out.below hbW7 hg6)
  have hs7 := hbW7.size
  have z0 := HZ7.out.cell' 0 rfl
  have z1 := HZ7.out.cell' 1 rfl
  have H96 := Lib.hid (call96 N L g2 q2 DS W7 HDl.out HVd.out Hn27.out (by omega))
  clear hb57 hbW7 hxY HZ5 Hn25 Hb5 HD5 HP5 Hb56 Hn6 hW7
  go_wp2_with fail
  refine H96.out.mono ?_
  rintro e W8 ⟨g8, q8, rfl, hn8, hl8, hg8, hb8⟩
  have H90 := Lib.hid (call90 N L g8 q8 DS W8 HDl.out HVd.out hn8 hg8)
  have Hb8 := Lib.hid hb8
  have hs8 := hb8.size
  clear hn8 hl8 hg8 hb8 z0 z1 H96
  go_wp2_with fail
  refine H90.out.mono ?_
  rintro e W9 ⟨g9, q9, rfl, hn9, hl9, hg9, hb9⟩
  have Hn9 := Lib.hid hn9
  have Hb9 := Lib.hid hb9
  have hs9 := hb9.size
  clear hn9 hb9 H90
  go_upto_region 6 with fail
  obtain ⟨W10, hW10⟩ : ∃ W10, W10 = W9.alloc (.cells #[.int .i64 (N : Int), .slice (some ⟨g9, 0, none⟩) L q9] 37) := ⟨_, rfl⟩
  obtain ⟨P, hP⟩ : ∃ P, P = W9.heap.size := ⟨_, rfl⟩
  rw [← hW10, ← hP]
  have hbW10 : Below W9.heap.size W9 W10 := by rw [hW10]; exact (Below.refl _ _).alloc (Nat.le_refl _) _
  have hxP : BoxAt W10 P #[.int .i64 (N : Int), .slice (some ⟨g9, 0, none⟩) L q9] 37 := by rw [hW10, hP]; exact BoxAt.new _ _ _
  have hsP : P < W10.heap.size := hxP.lt
  have hloP : W9.heap.size ≤ P := Nat.le_of_eq hP.symm
  have hupP : P ≤ W9.heap.size := Nat.le_of_eq hP
  clear hP
  have hb710 : Below W7.heap.size W7 W10 := (Hb8.out.trans (Hb9.out.mono Hb8.out.size)).trans (hbW10.mono (by omega))
  have HZ10 := Lib.hid (HZ7.out.next hb710)
  have Hn210 := Lib.hid (Hn27.out.below hb710 (by omega))
  have Hb10 := Lib.hid (Hb7.out.trans (hb710.mono Hb7.out.size))
  have HD10 := Lib.hid (HD7.out.next hb710)
  have HP10 := Lib.hid (HP7.out.next hb710)
  have HY10 := Lib.hid (HY7.out.next hb710)
  have Hn610 := Lib.hid (Hn67.out.below hb710 (by omega))
  have HR10 := Lib.hid hxP
  have Hn910 := Lib.hid (Hn9.out.below hbW10 hg9)
  have hs10 := hbW10.size
  have z0 := HZ10.out.cell' 0 rfl
  have z1 := HZ10.out.cell' 1 rfl
  have H96 := Lib.hid (call96 N L g2 q2 DS W10 HDl.out HVd.out Hn210.out (by omega))
  clear hb710 hbW10 hxP HZ7 Hn27 Hb7 HD7 HP7 HY7 Hn67 Hb8 Hb9 Hn9 hW10
  go_wp2_with fail
  refine H96.out.mono ?_
  rintro e W11 ⟨g11, q11, rfl, hn11, hl11, hg11, hb11⟩
  have H107 := Lib.hid (call107 N L g11 q11 DS W11 HDl.out HVd.out hn11 hg11)
  have Hb11 := Lib.hid hb11
  have hs11 := hb11.size
  clear hn11 hl11 hg11 hb11 z0 z1 H96
  go_wp2_with fail
  refine H107.out.mono ?_
  rintro e W12 ⟨g12, q12, rfl, hn12, hl12, hg12, hb12⟩
  have Hn12 := Lib.hid hn12
  have Hb12 := Lib.hid hb12
  have hs12 := hb12.size
  clear hn12 hb12 H107
  go_upto_region 7 with fail
  obtain ⟨W13, hW13⟩ : ∃ W13, W13 = W12.alloc (.cells #[.int .i64 (N : Int), .slice (some ⟨g12, 0, none⟩) L q12] 37) := ⟨_, rfl⟩
  obtain ⟨O, hO⟩ : ∃ O, O = W12.heap.size := ⟨_, rfl⟩
  rw [← hW13, ← hO]
  have hbW13 : Below W12.heap.size W12 W13 := by rw [hW13]; exact (Below.refl _ _).alloc (Nat.le_refl _) _
  have hxO : BoxAt W13 O #[.int .i64 (N : Int), .slice (some ⟨g12, 0, none⟩) L q12] 37 := by rw [hW13, hO]; exact BoxAt.new _ _ _
  have hsO : O < W13.heap.size := hxO.lt
  have hloO : W12.heap.size ≤ O := Nat.le_of_eq hO.symm
  have hupO : O ≤ W12.heap.size := Nat.le_of_eq hO
  clear hO
  have hb1013 : Below W10.heap.size W10 W13 := (Hb11.out.trans (Hb12.out.mono Hb11.out.size)).trans (hbW13.mono (by omega))
  have hS13 : SitT w Y Z D P O g2 g4 g6 g9 g12 q2 q4 q6 q9 q12 N L DS 0 W13 :=
    ⟨HY10.out.next hb1013, HZ10.out.next hb1013, HD10.out.next hb1013, HR10.out.next hb1013, hxO, Hn210.out.below hb1013 (by omega), Hn610.out.below hb1013 (by omega), Hn910.out.below hb1013 (by omega), Hn12.out.below hbW13 hg12,
      by have := hb1013.size; omega, by have := hb1013.size; omega, by have := hb1013.size; omega, by have := hbW13.size; omega, by rw [turnT_zero]; exact HP10.out.next hb1013, Hb10.out.trans (hb1013.mono Hb10.out.size),
      by omega, by omega, by omega, by omega, by omega, by omega, by omega, by omega, by omega, by omega⟩
  have HS13 := Lib.hid hS13
  have d1 := hS13.d.cell' 1 rfl
  clear hb1013 hbW13 hxO hS13 HZ10 Hn210 Hb10 HD10 HP10 HY10 Hn610 HR10 Hn910 Hb11 Hb12 Hn12 hW13
  clear hloZ hupZ hloD hupD hloY hupY hloP hupP hloO hupO hs3 hs4 hs5 hs6 hs7 hs8 hs9 hs10 hs11 hs12 hg4 hg6 hg9 hg12 hl4 hl6' hl9 hl12 hle1 hsZ hsD hsY hsP hsO hg2 hg22
  go_wp2_with fail
  clear d1
  go_loopw [14] (fun i wr => ∃ k : Nat, k ≤ L ∧ i = .int .i64 k ∧ SitT w Y Z D P O g2 g4 g6 g9 g12 q2 q4 q6 q9 q12 N L DS k wr) (fun i _ => L - (intOf i).toNat)
  case atStart => exact ⟨0, Nat.zero_le _, rfl, HS13.out⟩
  case round =>
    obtain ⟨k, hk, rfl, hS⟩ := hrel
    clear HS13
    by_cases hlt : k < L
    · have d1 : wr.cell? ⟨D, 1, none⟩ = some (.slice (some ⟨g4, 0, none⟩) L q4) := hS.d.cell' 1 rfl
      have hgf : wr.frozen? ⟨g4, k * 3 + 2, none⟩ = false := hS.c.frozen _
      have hgc := hS.c.at'.c2 k (by rw [turnT_len]; exact hlt)
      have hgl : g4 < wr.heap.size := hS.c.lt
      have hk0 : (0 : Int) ≤ (k : Int) := by omega
      have hk1 : (k : Int) < (L : Int) := by omega
      have HT := Lib.hid (hS.turn hlt)
      clear hS
      go_wp2
      go_roundw
      case rel => exact ⟨k + 1, by omega, by go_num, HT.out⟩
      case measure => simp [intOf]; omega
    · have hkL : k = L := by omega
      have HS := Lib.hid (show SitT w Y Z D P O g2 g4 g6 g9 g12 q2 q4 q6 q9 q12 N L DS L wr by rw [hkL] at hS; exact hS)
      clear hkL hS
      obtain ⟨X, hX⟩ : ∃ X, X = wr := ⟨_, rfl⟩
      subst hX
      have hhl : (strN N N).length = N := strN_len _ _
      have hhk : ∀ i, i < N → nthN (strN N N) i < N := fun i hi => by rw [strN_nth _ _ _ hi]; exact Nat.mod_lt _ (by omega)
      have hmv : Valid N (mirL N DS) := painted_valid HVd.out _
      have hbv : Valid N (bacL N DS) := painted_valid HVd.out _
      have hml : (mirL N DS).length = L := by rw [mirL_len]; exact HDl.out
      have hbl : (bacL N DS).length = L := by rw [bacL_len]; exact HDl.out
      have Hhl := Lib.hid hhl
      have Hhk := Lib.hid hhk
      have Hmv := Lib.hid hmv
      have Hbv := Lib.hid hbv
      have Hml := Lib.hid hml
      have Hbl := Lib.hid hbl
      clear hhl hhk hmv hbv hml hbl
      go_wp2_with fail
      refine region_weave [93, 94, 95, 96, 92, 97, 98, 99, 15, 16, 17] 5 4 N L g4 q4 D (turnT DS L L) (mirL N DS) rfl ?hops rfl (by kernel_rfl) (by kernel_rfl) (by decide) ?hsz ?hout HS.out.d HS.out.c.at' (turnT_len _ _ _) (turnT_ok HVd.out _ _ HDl.out) (woven_turned _ _ _ HDl.out) ?hend
      case hops => exact ⟨⟨_, _, _, rfl, by kernel_rfl⟩, ⟨_, _, _, rfl, by kernel_rfl⟩, ⟨_, _, _, rfl, by kernel_rfl⟩, ⟨_, _, _, rfl, by kernel_rfl⟩, ⟨_, _, _, rfl, by kernel_rfl⟩, ⟨_, _, _, rfl, by kernel_rfl⟩, ⟨_, _, _, rfl, by kernel_rfl⟩, ⟨_, _, _, rfl, by kernel_rfl⟩, ⟨_, _, _, rfl, by kernel_rfl⟩, ⟨_, _, _, rfl, by kernel_rfl⟩, ⟨_, _, _, rfl, by kernel_rfl⟩⟩
      case hsz => intro d hd; simp only [List.mem_cons, List.not_mem_nil, or_false] at hd; show d < 242; omega
      case hout => exact ⟨rfl, by decide, rfl, by decide⟩
      case hend =>
        intro v X14 hv
        obtain ⟨gr, cr, e1, e2, hrr, hgr, hb14⟩ := hv
        change v 15 = _ at e1
        change v 17 = _ at e2
        simp only [laid, List.foldl, Act.put, List.setIfInBounds_toArray, List.set_cons_succ, List.set_cons_zero, e1, e2]
        generalize v 93 = vu93
        generalize v 94 = vu94
        generalize v 95 = vu95
        generalize v 96 = vu96
        generalize v 92 = vu92
        generalize v 97 = vu97
        generalize v 98 = vu98
        generalize v 99 = vu99
        generalize v 16 = vu16
        clear e1 e2 v
        have HSa := Lib.hid (HS.out.next hb14)
        have Hrr := Lib.hid hrr
        have Hgr := Lib.hid hgr
        clear hrr hgr hb14 HS
        go_wp2_with fail
        refine region_cloth [101, 102, 103, 104, 105, 100, 106, 107, 18, 19] 7 3 Y Z N N L g6 q6 g2 q2 (strN N N) DS rfl ?hops rfl (by kernel_rfl) (by kernel_rfl) (by decide) ?hsz ?hout HSa.out.y HSa.out.n6 HSa.out.l6 Hhl.out (by omega) (by omega) Hhk.out HDl.out HVd.out HSa.out.z HSa.out.n2 HSa.out.l2 ?hend
        case hops => exact ⟨⟨_, _, _, rfl, by kernel_rfl⟩, ⟨_, _, _, rfl, by kernel_rfl⟩, ⟨_, _, _, rfl, by kernel_rfl⟩, ⟨_, _, _, rfl, by kernel_rfl⟩, ⟨_, _, _, rfl, by kernel_rfl⟩, ⟨_, _, _, rfl, by kernel_rfl⟩, ⟨_, _, _, rfl, by kernel_rfl⟩, ⟨_, _, _, rfl, by kernel_rfl⟩, ⟨_, _, _, rfl, by kernel_rfl⟩, ⟨_, _, _, rfl, by kernel_rfl⟩⟩
        case hsz => intro d hd; simp only [List.mem_cons, List.not_mem_nil, or_false] at hd; show d < 242; omega
        case hout => exact ⟨rfl, by decide, rfl, by decide⟩
        case hend =>
          intro v X15 hv
          obtain ⟨gc, cc, e1, e2, hsc, hgc, hb15⟩ := hv
          change v 18 = _ at e1
          change v 19 = _ at e2
          simp only [laid, List.foldl, Act.put, List.setIfInBounds_toArray, List.set_cons_succ, List.set_cons_zero, e1, e2]
          generalize v 101 = vu101
          generalize v 102 = vu102
          generalize v 103 = vu103
          generalize v 104 = vu104
          generalize v 105 = vu105
          generalize v 100 = vu100
          generalize v 106 = vu106
          generalize v 107 = vu107
          clear e1 e2 v
          have HSb := Lib.hid (HSa.out.next hb15)
          have Hrr2 := Lib.hid (Hrr.out.below hb15 Hgr.out)
          have Hgr2 := Lib.hid (Nat.lt_of_lt_of_le Hgr.out hb15.size)
          have Hsc := Lib.hid hsc
          have Hgc := Lib.hid hgc
          clear hsc hgc hb15 HSa Hrr Hgr
          go_wp2_with fail
          refine region_ints [109, 110, 111, 112, 113, 114, 115, 116, 108, 117, 118, 20, 21] 7 3 15 Y Z N N L g6 q6 gr cr (strN N N) (mirL N DS) rfl ?hops rfl (by kernel_rfl) (by kernel_rfl) (by decide) ?hsz ?hout HSb.out.y HSb.out.n6 HSb.out.l6 Hhl.out (by omega) (by omega) Hhk.out Hml.out Hmv.out HSb.out.z Hrr2.out Hgr2.out ?hend
          case hops => exact ⟨⟨_, _, _, rfl, by kernel_rfl⟩, ⟨_, _, _, rfl, by kernel_rfl⟩, ⟨_, _, _, rfl, by kernel_rfl⟩, ⟨_, _, _, rfl, by kernel_rfl⟩, ⟨_, _, _, rfl, by kernel_rfl⟩, ⟨_, _, _, rfl, by kernel_rfl⟩, ⟨_, _, _, rfl, by kernel_rfl⟩, ⟨_, _, _, rfl, by kernel_rfl⟩, ⟨_, _, _, rfl, by kernel_rfl⟩, ⟨_, _, _, rfl, by kernel_rfl⟩, ⟨_, _, _, rfl, by kernel_rfl⟩, ⟨_, _, _, rfl, by kernel_rfl⟩, ⟨_, _, _, rfl, by kernel_rfl⟩⟩
          case hsz => intro d hd; simp only [List.mem_cons, List.not_mem_nil, or_false] at hd; show d < 242; omega
          case hout => exact ⟨rfl, by decide, rfl, by decide, rfl, by decide⟩
          case hend =>
            intro v X16 hv
            obtain ⟨gt, ct, e1, e2, hst, hgt, hb16⟩ := hv
            change v 20 = _ at e1
            change v 21 = _ at e2
            simp only [laid, List.foldl, Act.put, List.setIfInBounds_toArray, List.set_cons_succ, List.set_cons_zero, e1, e2]
            generalize v 109 = vu109
            generalize v 110 = vu110
            generalize v 111 = vu111
            generalize v 112 = vu112
            generalize v 113 = vu113
            generalize v 114 = vu114
            generalize v 115 = vu115
            generalize v 116 = vu116
            generalize v 108 = vu108
            generalize v 117 = vu117
            generalize v 118 = vu118
            clear e1 e2 v
            have HSc := Lib.hid (HSb.out.next hb16)
            have Hrr3 := Lib.hid (Hrr2.out.below hb16 Hgr2.out)
            have Hgr3 := Lib.hid (Nat.lt_of_lt_of_le Hgr2.out hb16.size)
            have Hsc2 := Lib.hid (Hsc.out.below hb16 Hgc.out)
            have Hgc2 := Lib.hid (Nat.lt_of_lt_of_le Hgc.out hb16.size)
            have Hst := Lib.hid hst
            have Hgt := Lib.hid hgt
            have y0 := HSc.out.y.cell' 0 rfl
            have y1 := HSc.out.y.cell' 1 rfl
            have o0 := HSc.out.o.cell' 0 rfl
            have o1 := HSc.out.o.cell' 1 rfl
            have H38 := Lib.hid (call38 N N L g6 q6 g12 q12 (strN N N) (bacL N DS) X16 Hhl.out Hbl.out (by omega) (by omega) Hhk.out Hbv.out HSc.out.n6 HSc.out.l6 HSc.out.n12 HSc.out.l12)
            clear hst hgt hb16 HSb Hrr2 Hgr2 Hsc Hgc
            go_wp2_with fail
            refine H38.out.mono ?_
            rintro e X17 ⟨gb, cb, rfl, hsb, _, hgb, hb17⟩
            have HSd := Lib.hid (HSc.out.next hb17)
            have Hsc3 := Lib.hid (Hsc2.out.below hb17 Hgc2.out)
            have Hgc3 := Lib.hid (Nat.lt_of_lt_of_le Hgc2.out hb17.size)
            have Hst2 := Lib.hid (Hst.out.below hb17 Hgt.out)
            have Hgt2 := Lib.hid (Nat.lt_of_lt_of_le Hgt.out hb17.size)
            have H102 := Lib.hid (call102 L gr cr g9 q9 (mirL N DS) (mirL N DS) X17 Hml.out Hml.out (by omega) (Hrr3.out.below hb17 Hgr3.out) HSd.out.n9 (Nat.lt_of_lt_of_le Hgr3.out hb17.size) HSd.out.l9)
            have Hsb := Lib.hid hsb
            have Hgb := Lib.hid hgb
            have r1 := HSd.out.p.cell' 1 rfl
            clear y0 y1 o0 o1 hsb hgb hb17 HSc Hrr3 Hgr3 Hsc2 Hgc2 Hst Hgt H38
            go_wp2_with fail
            refine H102.out.mono ?_
            rintro e X18 ⟨rfl, hb18⟩
            have HSe := Lib.hid (HSd.out.next hb18)
            have Hsc4 := Lib.hid (Hsc3.out.below hb18 Hgc3.out)
            have Hgc4 := Lib.hid (Nat.lt_of_lt_of_le Hgc3.out hb18.size)
            have Hst3 := Lib.hid (Hst2.out.below hb18 Hgt2.out)
            have Hgt3 := Lib.hid (Nat.lt_of_lt_of_le Hgt2.out hb18.size)
            have Hsb2 := Lib.hid (Hsb.out.below hb18 Hgb.out)
            have Hgb2 := Lib.hid (Nat.lt_of_lt_of_le Hgb.out hb18.size)
            clear r1 hb18 HSd Hsc3 Hgc3 Hst2 Hgt2 Hsb Hgb H102
            go_wp2_with fail
            go_loopw [24] (fun i wr => ∃ k : Nat, k ≤ L ∧ i = .int .i64 k ∧ Below X18.heap.size X18 wr) (fun i _ => L - (intOf i).toNat)
            case atStart => exact ⟨0, Nat.zero_le _, rfl, Below.refl _ _⟩
            case round =>
              obtain ⟨p, hp, rfl, hb⟩ := hrel
              by_cases hlt2 : p < L
              · have cR := cloth_cell Hsc4.out Hgc4.out hb HDl.out hlt2
                have cT := cloth_cell Hst3.out Hgt3.out hb Hml.out hlt2
                have cB := cloth_cell Hsb2.out Hgb2.out hb Hbl.out hlt2
                have hpD : p < DS.length := by rw [HDl.out]; exact hlt2
                have zR : (pickS (strN N N) (nthN DS p)).size = N := by rw [pickS_size, Hhl.out]
                have zT : (pickS (strN N N) (nthN (mirL N DS) p)).size = N := by rw [pickS_size, Hhl.out]
                have zB : (pickS (strN N N) (nthN (bacL N DS) p)).size = N := by rw [pickS_size, Hhl.out]
                have iR := fun j (hj : j < N) => idx_pick (strN N N) (nthN DS p) j (by rw [Hhl.out]; exact hj)
                have iT : ∀ j, j < N → ∀ W, (Instr.index 9 (.string (pickS (strN N N) (nthN (mirL N DS) p))) (.int .i64 ((N - 1 - j : Nat) : Int))).run Try.prog W = .ok (.int .u8 (clothB (strN N N) (nthN DS p) j)) W := fun j hj W => by
                  rw [idx_pick (strN N N) (nthN (mirL N DS) p) (N - 1 - j) (by rw [Hhl.out]; omega) W, mirL_nth _ _ _ hpD, turned_byte _ _ _ hj]
                have iB := fun j (hj : j < N) => idx_pick (strN N N) (nthN (bacL N DS) p) j (by rw [Hhl.out]; exact hj)
                have iN := fun j (hj : j < N) => back_byte N DS p j hpD hj
                obtain ⟨sR, hsR⟩ : ∃ s, pickS (strN N N) (nthN DS p) = s := ⟨_, rfl⟩
                obtain ⟨sT, hsT⟩ : ∃ s, pickS (strN N N) (nthN (mirL N DS) p) = s := ⟨_, rfl⟩
                obtain ⟨sB, hsB⟩ : ∃ s, pickS (strN N N) (nthN (bacL N DS) p) = s := ⟨_, rfl⟩
                rw [hsR] at cR zR iR
                rw [hsT] at cT zT iT
                rw [hsB] at cB zB iB
                have z0 : wr.cell? ⟨Z, 0, none⟩ = some (.int .i64 (N : Int)) := (HSe.out.z.next hb).cell' 0 rfl
                have hp0 : (0 : Int) ≤ (p : Int) := by omega
                have hp1 : (p : Int) < (L : Int) := by omega
                have IR := Lib.hid iR
                have IT := Lib.hid iT
                have IB := Lib.hid iB
                have IN := Lib.hid iN
                have Hb := Lib.hid hb
                have HsR := Lib.hid hsR
                have HsT := Lib.hid hsT
                have HsB := Lib.hid hsB
                clear hb hsR hsT hsB iR iT iB iN hpD
                go_wp2_with fail
                go_quiet (fail)
                clear cR cT cB zR zT zB z0
                go_wp2_with fail
                go_loopw [25] (fun i wr' => ∃ j : Nat, j ≤ N ∧ i = .int .i64 j ∧ Below X18.heap.size X18 wr') (fun i _ => N - (intOf i).toNat)
                case atStart => exact ⟨0, Nat.zero_le _, rfl, Hb.out.trans (below_drewN _ _ _)⟩
                case round =>
                  obtain ⟨j, hj, rfl, hbj⟩ := hrel
                  clear Hb
                  have z0 := (HSe.out.z.next hbj).cell' (v := .int .i64 (N : Int)) 0 rfl
                  by_cases hlt3 : j < N
                  · have cR := cloth_cell Hsc4.out Hgc4.out hbj HDl.out hlt2
                    have cT := cloth_cell Hst3.out Hgt3.out hbj Hml.out hlt2
                    have cB := cloth_cell Hsb2.out Hgb2.out hbj Hbl.out hlt2
                    rw [HsR.out] at cR
                    rw [HsT.out] at cT
                    rw [HsB.out] at cB
                    have iR := IR.out j hlt3
                    have iT := IT.out j hlt3
                    have iB := IB.out j hlt3
                    have iN := IN.out j hlt3
                    obtain ⟨x, hx⟩ : ∃ x, clothB (strN N N) (nthN DS p) j = x := ⟨_, rfl⟩
                    obtain ⟨y, hy⟩ : ∃ y, clothB (strN N N) (nthN (bacL N DS) p) j = y := ⟨_, rfl⟩
                    obtain ⟨q, hq⟩ : ∃ q, N - 1 - j = q := ⟨_, rfl⟩
                    rw [hx] at iR iT iN
                    rw [hy] at iB iN
                    rw [hq] at iT
                    have hw1 : IntKind.i64.wrap ((N : Int) - 1) = (M : Int) := by rw [HMi.out]; exact IntWalk.i64_in _ (by omega)
                    have hw2 : IntKind.i64.wrap ((M : Int) - (j : Int)) = (q : Int) := by rw [show (M : Int) - (j : Int) = (q : Int) by have := HM.out; omega]; exact IntWalk.i64_in _ (by omega)
                    have hxx : (x != x) = false := by simp
                    have Hbj := Lib.hid hbj
                    clear hx hy hq hbj
                    go_wp2_with fail
                    go_quiet (fail)
                    all_goals go_wp2
                    all_goals exact ⟨⟨j + 1, by omega, by go_num, Hbj.out.trans ((below_drewN _ _ _).mono Hbj.out.size)⟩, by simp [intOf]; omega⟩
                  · have Hbj := Lib.hid hbj
                    clear hbj
                    go_wp2
                    go_roundw
                    case rel => exact ⟨p + 1, by omega, by go_num, Hbj.out⟩
                    case measure => simp [intOf]; omega
              · have Hb := Lib.hid (HSe.out.b.trans (hb.mono HSe.out.b.size))
                clear hb
                go_wp2_with fail
                refine (armPoint_any _).mono ?_
                rintro e X23 ⟨rfl, hb23⟩
                have Hb3 := Lib.hid (Hb.out.trans (hb23.mono Hb.out.size))
                clear hb23
                go_wp2_with fail
                refine (armChain_any X23).mono ?_
                rintro e X24 ⟨rfl, hb24⟩
                have Hb4 := Lib.hid (Hb3.out.trans (hb24.mono Hb3.out.size))
                clear hb24
                go_wp2_with fail
                refine (armTie_any X24).mono ?_
                rintro e X25 ⟨rfl, hb25⟩
                have Hb5 := Lib.hid (Hb4.out.trans (hb25.mono Hb4.out.size))
                clear hb25
                go_wp2_with fail
                go_ret
                exact ⟨rfl, Hb5.out⟩
end Go.Proofs.Ytdmgffoikebgkaa
namespace Go.Proofs.Ytdmgffoikebgkaa
open Go.ChangeShapes Go.WideShapes Go.ChangeAt Go.RowKit Go.Joins

set_option maxRecDepth 100000 in
theorem TopTurnedOver_lifted (os : Os) (started : os.Started) (H : Type) (enc : TypeId × Value → H) :
    ReturnsInHanded {} Try.checked os 18 .any (Rows.topTurnedOverSpec.pre6 enc Try.prog Try.f18 Rows.topTurnedOverRow.domain false) (Rows.topTurnedOverSpec.post enc Try.prog Try.f18 false true false false) := by
  refine returnsInHanded_of_change (C := Try.checked) Try.own' started (by kernel_rfl) Try.func18
    (ChangeSpec.witness6 (enc := enc) (C := Try.checked) false ⟨#[], #[.agg #[.int .u8 0, .slice none 0 0, .slice none 0 0, .slice none 0 0]], []⟩ 8 (by kernel_rfl) (by kernel_rfl) (by kernel_rfl) (by kernel_rfl)) ?_
  intro W base args ds gs before hval0 hW hcnd _
  have hval : ∀ (j : Nat) t v, Try.f18.params[j]? = some t → args[j]? = some v → Value.okWide Try.prog W .any base t v := hval0
  have hW' := hW
  obtain ⟨p, q, hA0, hV, rfl, hfz, hnd⟩ := hW
  have hA : DataW.TrodAll enc Try.prog W 0 (fun _ => true) true Try.f18.params.toList args.toList ds p := hA0
  rw [Try.params18] at hA hval
  obtain ⟨v0, d0, rfl, rfl, h0⟩ := trodAll_one hA
  obtain ⟨rfl, rfl⟩ := trodVars_none hV
  obtain ⟨hk, a1, a2, a3, c1, c2, c3, ws, rs, sd, rfl, hH, _, hw2, _, _, hl2, _⟩ := loom_open (hval 0 137 v0 rfl rfl) h0
  clear hA0 hval0
  simp only [List.append_nil] at hW'
  have hlt : ∀ x ∈ p, x.block < W.heap.size := fun x hx => by simpa using hW'.lt x hx
  refine (TopTurnedOver_any hk a1 a2 a3 c1 c2 c3 ws rs sd W hH hw2 hl2).mono fun e W' ⟨he, hB⟩ => ?_
  subst he
  refine ⟨_, rfl, _, _, _, [], p, [], hW', ?_, ?_, rfl, hB.frame _, fun h => by cases h⟩
  · exact trodAll_mk1 (shut_bool Try.underlying4 true)
  · exact trodAll_mk1 (Below.trod Try.laidOut' (by kernel_rfl) (of_decide_eq_true (by kernel_rfl)) h0 hB hlt)

theorem TopTurnedOver_joined : joinedFacts Try.prog 18 Try.f18 Rows.topTurnedOverSpec Rows.topTurnedOverRow = true := by
  unfold joinedFacts
  rw [Try.enters', Try.lifts', Try.made']
  kernel_rfl
theorem TopTurnedOver_holds : Rows.TopTurnedOverSaid :=
  OpenClaim.holds_of_wide 18 Try.f18 rfl rfl rfl rfl rfl rfl rfl ⟨rfl, rfl, rfl, rfl, rfl⟩ rfl rfl rfl rfl rfl (by kernel_rfl) Try.func18 TopTurnedOver_joined
    (of_decide_eq_true (by kernel_rfl)) (by unfold Func.isWrapper; first | (rw [if_pos (by decide +kernel)]; kernel_rfl) | (rw [if_neg (by decide +kernel)]; exact ⟨rfl, rfl⟩))
    (fun os started H enc _ => TopTurnedOver_lifted os started H enc)
end Go.Proofs.Ytdmgffoikebgkaa
