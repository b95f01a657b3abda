/- TieBesides: the walk. -/
import Derived.Deep.DeepCutAuto
import Derived.Deep.QuietTactic
import Derived.BigQuiet
import Derived.Deep.RegionHeld3
import Derived.Test.YtdmgffoikebgkaaTb01
import Derived.Test.YtdmgffoikebgkaaTb02
import Derived.Test.YtdmgffoikebgkaaTb03
import Derived.Test.YtdmgffoikebgkaaTb04
import Derived.Test.YtdmgffoikebgkaaTb05
import Derived.Test.YtdmgffoikebgkaaTb06
import Derived.Test.YtdmgffoikebgkaaTb07
import Derived.Test.YtdmgffoikebgkaaTb08
import Derived.Test.YtdmgffoikebgkaaTb09
import Derived.Test.YtdmgffoikebgkaaTb10
import Derived.Test.YtdmgffoikebgkaaTb11
import Derived.Test.YtdmgffoikebgkaaTb12
import Derived.Test.YtdmgffoikebgkaaTb13
import Derived.Test.YtdmgffoikebgkaaTb14
import Derived.Test.YtdmgffoikebgkaaTb15
import Derived.Test.YtdmgffoikebgkaaTb16
import Derived.Test.YtdmgffoikebgkaaTb17
import Derived.Test.YtdmgffoikebgkaaTb18
import Derived.Test.YtdmgffoikebgkaaTb19
import Derived.Test.YtdmgffoikebgkaaTb20
import Derived.Test.YtdmgffoikebgkaaTo02
namespace Go.Proofs.Ytdmgffoikebgkaa
open Go.RowKit Go.Shelf
attribute [local go_sem] Oper.semAt_some

/-- both harnesses and their copies in memory -/
structure BbS (w : World) (n1 n2 : Int) (p1 p2 : Option Addr) (c1 c2 : Nat) (xs ys : List Int) (X ga qa Y gb qb : Nat) (W : World) : Prop where
  za : BoxAt W w.heap.size #[.int .i64 n1, .slice p1 xs.length c1] 26
  zb : BoxAt W (w.heap.size + 1) #[.int .i64 n2, .slice p2 ys.length c2] 26
  ra : Reads W (.slice p1 xs.length c1) xs
  rb : Reads W (.slice p2 ys.length c2) ys
  x : BoxAt W X #[.int .i64 n1, .slice (some ⟨ga, 0, none⟩) xs.length qa] 26
  y : BoxAt W Y #[.int .i64 n2, .slice (some ⟨gb, 0, none⟩) ys.length qb] 26
  rx : Reads W (.slice (some ⟨ga, 0, none⟩) xs.length qa) xs
  ry : Reads W (.slice (some ⟨gb, 0, none⟩) ys.length qb) ys
  b : Below w.heap.size w W
theorem BbS.next {w W W' : World} {n1 n2 : Int} {p1 p2 : Option Addr} {c1 c2 : Nat} {xs ys : List Int} {X ga qa Y gb qb : Nat} (h : BbS w n1 n2 p1 p2 c1 c2 xs ys X ga qa Y gb qb W) (hb : Below W.heap.size W W') : BbS w n1 n2 p1 p2 c1 c2 xs ys X ga qa Y gb qb W' :=
  ⟨h.za.next hb, h.zb.next hb, h.ra.next hb, h.rb.next hb, h.x.next hb, h.y.next hb, h.rx.next hb, h.ry.next hb, h.b.trans (hb.mono h.b.size)⟩
/-- Beside's answer in one form -/
def BesU (n1 n2 : Int) (xs ys : List Int) (h8 : Int) (p8 : Option Addr) (l8 c8 : Nat) (W : World) : Prop :=
  (dueB n1 n2 xs ys ≠ 0 ∧ h8 = 0 ∧ p8 = none ∧ l8 = 0 ∧ c8 = 0) ∨ (dueB n1 n2 xs ys = 0 ∧ chkT n1 xs = 0 ∧ chkT n2 ys = 0 ∧ n1 = n2 ∧ h8 = n1 ∧ l8 = xs.length + ys.length ∧ l8 ≤ 96 ∧ Reads W (.slice p8 l8 c8) (xs ++ ys))
theorem BesU.next {n1 n2 : Int} {xs ys : List Int} {h8 : Int} {p8 : Option Addr} {l8 c8 : Nat} {W W' : World} (h : BesU n1 n2 xs ys h8 p8 l8 c8 W) (hb : Below W.heap.size W W') : BesU n1 n2 xs ys h8 p8 l8 c8 W' := by
  rcases h with h | ⟨a, b, c, d, e, f, g, k⟩
  · exact .inl h
  · exact .inr ⟨a, b, c, d, e, f, g, k.next hb⟩
theorem call30u (n1 n2 : Int) (p1 p2 : Option Addr) (c1 c2 : Nat) (xs ys : List Int) (w : World) (hr1 : Reads w (.slice p1 xs.length c1) xs) (hr2 : Reads w (.slice p2 ys.length c2) ys) :
    Calls Try.prog 30 #[.agg #[.int .i64 n1, .slice p1 xs.length c1], .agg #[.int .i64 n2, .slice p2 ys.length c2]] w fun e w' =>
      (∃ h8 p8 l8 c8, e = .returned (.tuple #[.agg #[.int .i64 h8, .slice p8 l8 c8], .int .i64 (dueB n1 n2 xs ys)]) ∧ BesU n1 n2 xs ys h8 p8 l8 c8 w') ∧ Below w.heap.size w w' := by
  refine (Beside_any n1 n2 p1 p2 c1 c2 xs ys w hr1 hr2).mono ?_
  rintro e w' ⟨h, hb⟩
  refine ⟨?_, hb⟩
  rcases bes_due h with ⟨a, b⟩ | ⟨a, b, c, d, f, v, rfl, hv⟩
  · exact ⟨0, none, 0, 0, b, .inl ⟨a, rfl, rfl, rfl, rfl⟩⟩
  · obtain ⟨p, c', rfl, h1, h2⟩ := hv
    rw [a]
    exact ⟨n1, p, _, c', rfl, .inr ⟨a, b, c, d, rfl, by rw [List.length_append], by rw [List.length_append]; exact f, p, c', by rw [List.length_append], h1, h2⟩⟩
theorem call31u (n1 : Int) (p1 : Option Addr) (c1 : Nat) (xs : List Int) (w : World) (hr1 : Reads w (.slice p1 xs.length c1) xs) :
    Calls Try.prog 31 #[.agg #[.int .i64 n1, .slice p1 xs.length c1]] w fun e w' =>
      (∃ rn : Nat, e = .returned (.tuple #[.int .i64 (rn : Int), .int .i64 (chkT n1 xs)]) ∧ ((chkT n1 xs ≠ 0 ∧ rn = 0) ∨ (chkT n1 xs = 0 ∧ RepP (hkN xs) rn))) ∧ Below w.heap.size w w' := by
  refine (Repeat_any n1 p1 c1 xs w hr1).mono ?_
  rintro e w' ⟨h, hb⟩
  refine ⟨?_, hb⟩
  rcases h with ⟨a, rfl⟩ | ⟨a, p, h, rfl⟩
  · exact ⟨0, rfl, .inl ⟨a, rfl⟩⟩
  · rw [a]; exact ⟨p, rfl, .inr ⟨rfl, h⟩⟩
theorem call32u (n1 : Int) (p1 : Option Addr) (c1 : Nat) (xs : List Int) (w : World) (hr1 : Reads w (.slice p1 xs.length c1) xs) :
    Calls Try.prog 32 #[.agg #[.int .i64 n1, .slice p1 xs.length c1]] w fun e w' =>
      (∃ (sn : Nat) (se : Int), e = .returned (.tuple #[.int .i64 (sn : Int), .int .i64 se]) ∧ ((chkT n1 xs ≠ 0 ∧ sn = 0 ∧ se = chkT n1 xs) ∨ (chkT n1 xs = 0 ∧ MirR (hkN xs) (.returned (.tuple #[.int .i64 (sn : Int), .int .i64 se]))))) ∧ Below w.heap.size w w' := by
  refine (Mirrors_any n1 p1 c1 xs w hr1).mono ?_
  rintro e w' ⟨h, hb⟩
  refine ⟨?_, hb⟩
  rcases h with ⟨a, rfl⟩ | ⟨a, h⟩
  · exact ⟨0, _, rfl, .inl ⟨a, rfl, rfl⟩⟩
  · rcases h with ⟨s, h1, h2, h3, rfl⟩ | ⟨h1, rfl⟩
    · exact ⟨s, 0, rfl, .inr ⟨a, .inl ⟨s, h1, h2, h3, rfl⟩⟩⟩
    · exact ⟨0, 7, rfl, .inr ⟨a, .inr ⟨h1, rfl⟩⟩⟩
set_option maxRecDepth 100000 in
set_option maxHeartbeats 8000000 in
theorem TieBesides_any (n1 n2 : Int) (p1 p2 : Option Addr) (c1 c2 : Nat) (xs ys : List Int) (w : World) (hr1 : Reads w (.slice p1 xs.length c1) xs) (hr2 : Reads w (.slice p2 ys.length c2) ys) :
    Calls Try.prog 4 #[.agg #[.int .i64 n1, .slice p1 xs.length c1], .agg #[.int .i64 n2, .slice p2 ys.length c2]] w fun e w' => e = .returned (.bool true) ∧ Below w.heap.size w w' := by
  obtain ⟨w0, hw0⟩ : ∃ w0, w0 = (w.alloc (.cells #[.int .i64 n1, .slice p1 xs.length c1] 26)).alloc (.cells #[.int .i64 n2, .slice p2 ys.length c2] 26) := ⟨_, rfl⟩
  have hb0 : Below w.heap.size w w0 := by rw [hw0]; exact ((Below.refl _ _).alloc (Nat.le_refl _) _).alloc (by simp) _
  have hA : BoxAt w0 w.heap.size #[.int .i64 n1, .slice p1 xs.length c1] 26 := by rw [hw0]; exact (BoxAt.new w _ _).next ((Below.refl _ _).alloc (Nat.le_refl _) _)
  have hP : BoxAt w0 (w.heap.size + 1) #[.int .i64 n2, .slice p2 ys.length c2] 26 := by
    rw [hw0]; have := BoxAt.new (w.alloc (.cells #[.int .i64 n1, .slice p1 xs.length c1] 26)) #[.int .i64 n2, .slice p2 ys.length c2] 26; rw [World.size_alloc] at this; exact this
  have HW0 := Lib.hid hw0
  have Hb0 := Lib.hid hb0
  have HA := Lib.hid hA
  have HP := Lib.hid hP
  have HRa := Lib.hid (hr1.next hb0)
  have HRb := Lib.hid (hr2.next hb0)
  clear hw0 hb0 hA hP hr1 hr2
  go_enter Try.func4, Try.ntmps4
  go_upto_region 1 with fail
  rw [← HW0.out]
  have a0 := HA.out.cell' 0 rfl
  have a1 := HA.out.cell' 1 rfl
  have H27 := tieLarge_any n1 p1 c1 xs.length w0
  by_cases la : 110 < xs.length
  · rw [decide_eq_true la] at H27
    go_wp2_with fail
    refine H27.mono ?_
    rintro e W1 ⟨rfl, hb1⟩
    have Hb1 := Lib.hid (Hb0.out.trans (hb1.mono Hb0.out.size))
    clear hb1
    go_wp2_with fail
    refine (tieKnown _).mono ?_
    rintro e WK ⟨rfl, hbk⟩
    have Hend := Lib.hid (show Below w.heap.size w WK from Hb1.out.trans (hbk.mono (Hb1.out).size))
    clear hbk
    go_wp2_with fail
    go_ret
    exact ⟨rfl, Hend.out⟩
  rw [decide_eq_false la] at H27
  go_wp2_with fail
  refine H27.mono ?_
  rintro e W1 ⟨rfl, hb1⟩
  have Hb1 := Lib.hid (Hb0.out.trans (hb1.mono Hb0.out.size))
  have HA1 := Lib.hid (HA.out.next hb1)
  have HP1 := Lib.hid (HP.out.next hb1)
  have HRa1 := Lib.hid (HRa.out.next hb1)
  have HRb1 := Lib.hid (HRb.out.next hb1)
  clear hb1 a0 a1 HA HP HRa HRb Hb0 HW0 H27
  have b0 := HP1.out.cell' 0 rfl
  have b1 := HP1.out.cell' 1 rfl
  have H27 := tieLarge_any n2 p2 c2 ys.length W1
  by_cases lb : 110 < ys.length
  · rw [decide_eq_true lb] at H27
    go_wp2_with fail
    refine H27.mono ?_
    rintro e W2 ⟨rfl, hb2⟩
    have Hb2 := Lib.hid (Hb1.out.trans (hb2.mono Hb1.out.size))
    clear hb2
    go_wp2_with fail
    refine (tieKnown _).mono ?_
    rintro e WK ⟨rfl, hbk⟩
    have Hend := Lib.hid (show Below w.heap.size w WK from Hb2.out.trans (hbk.mono (Hb2.out).size))
    clear hbk
    go_wp2_with fail
    go_ret
    exact ⟨rfl, Hend.out⟩
  rw [decide_eq_false lb] at H27
  go_wp2_with fail
  refine H27.mono ?_
  rintro e W2 ⟨rfl, hb2⟩
  have Hb2 := Lib.hid (Hb1.out.trans (hb2.mono Hb1.out.size))
  have HA2 := Lib.hid (HA1.out.next hb2)
  have HP2 := Lib.hid (HP1.out.next hb2)
  have HRa2 := Lib.hid (HRa1.out.next hb2)
  have HRb2 := Lib.hid (HRb1.out.next hb2)
  clear hb2 b0 b1 HA1 HP1 HRa1 HRb1 Hb1 H27
  go_upto_region 3 with fail
  refine region_bs3 w.heap.size (w.heap.size + 1) xs.length ys.length c1 c2 n1 n2 p1 p2 xs ys (fun W hb => tieOwn_any n1 p1 c1 xs W (by omega) (HRa2.out.next hb)) (fun W hb => tieOwn_any n2 p2 c2 ys W (by omega) (HRb2.out.next hb)) HA2.out HP2.out rfl ?hops (by kernel_rfl) (by kernel_rfl) (by kernel_rfl) (by kernel_rfl) ?hsz ?hout ?hend
  case hops => exact ⟨⟨_, _, _, rfl, by kernel_rfl⟩, ⟨_, _, _, rfl, by kernel_rfl⟩, ⟨_, _, _, rfl, by kernel_rfl⟩, ⟨_, _, _, rfl, by kernel_rfl⟩, ⟨_, _, _, rfl, by kernel_rfl⟩, ⟨_, _, _, rfl, by kernel_rfl⟩, ⟨_, _, _, rfl, by kernel_rfl⟩, ⟨_, _, _, rfl, by kernel_rfl⟩⟩
  case hsz => intro d hd; simp only [List.mem_cons, List.not_mem_nil, or_false] at hd; show d < 189; omega
  case hout => exact ⟨rfl, rfl⟩
  case hend =>
    intro g28 q28 G28 Q28 g30 q30 G30 Q30 g5 q5 G5 Q5 g6 q6 G6 Q6 P28 P30 P5 P6 u27 u28 u29 u30 W3 hb3 hm28 hB28 hm30 hB30 hl5 hu5 hl6 hu6 hs5 hs6
    simp only [putL, List.foldl, Act.put, List.setIfInBounds_toArray, List.set_cons_succ, List.set_cons_zero]
    have HS := Lib.hid (show BbS w n1 n2 p1 p2 c1 c2 xs ys g5 g28 q28 g6 g30 q30 W3 from ⟨HA2.out.next hb3, HP2.out.next hb3, HRa2.out.next hb3, HRb2.out.next hb3, hs5, hs6, hm28, hm30, Hb2.out.trans (hb3.mono Hb2.out.size)⟩)
    clear hb3 hm28 hB28 hm30 hB30 hl5 hu5 hl6 hu6 hs5 hs6 HA2 HP2 HRa2 HRb2 Hb2
    obtain ⟨k1, hk1⟩ : ∃ k1, chkT n1 xs = k1 := ⟨_, rfl⟩
    have Hk1 := Lib.hid hk1
    have x0 := HS.out.x.cell' 0 rfl
    have x1 := HS.out.x.cell' 1 rfl
    have H29 := tieCheck_any n1 _ xs W3 HS.out.rx
    rw [hk1] at H29
    clear hk1
    go_upto_region 4 with fail
    go_wp2_with fail
    refine H29.mono ?_
    rintro e W4 ⟨rfl, hbc⟩
    have HS4 := Lib.hid (HS.out.next hbc)
    clear hbc HS x0 x1 H29
    have x0 := HS4.out.x.cell' 0 rfl
    have x1 := HS4.out.x.cell' 1 rfl
    have y0 := HS4.out.y.cell' 0 rfl
    have y1 := HS4.out.y.cell' 1 rfl
    go_upto_region 5 with fail
    go_wp2_with fail
    refine (call30u n1 n2 _ _ _ _ xs ys W4 HS4.out.rx HS4.out.ry).mono ?_
    rintro e W5 ⟨⟨h8, p8, l8, c8, rfl, hU⟩, hbc⟩
    have HS5 := Lib.hid (HS4.out.next hbc)
    have HU := Lib.hid hU
    obtain ⟨du, hdu⟩ : ∃ du, dueB n1 n2 xs ys = du := ⟨_, rfl⟩
    have Hdu := Lib.hid hdu
    rw [hdu]
    clear hbc HS4 hU hdu x0 x1 y0 y1
    go_upto_region 6 with fail
    obtain ⟨W6, hW⟩ : ∃ W6, W6 = W5.alloc (.cells #[.int .i64 h8, .slice p8 l8 c8] 26) := ⟨_, rfl⟩
    obtain ⟨g8, hB⟩ : ∃ g8, g8 = W5.heap.size := ⟨_, rfl⟩
    rw [← hW, ← hB]
    have hbW : Below W5.heap.size W5 W6 := by rw [hW]; exact (Below.refl _ _).alloc (Nat.le_refl _) _
    have hxB : BoxAt W6 g8 #[.int .i64 h8, .slice p8 l8 c8] 26 := by rw [hW, hB]; exact BoxAt.new _ _ _
    clear hW hB
    have HS6 := Lib.hid (HS5.out.next hbW)
    have HU6 := Lib.hid (HU.out.next hbW)
    have X8 := Lib.hid hxB
    clear hbW hxB HS5 HU
    have x0 := HS6.out.x.cell' 0 rfl
    have x1 := HS6.out.x.cell' 1 rfl
    go_wp2_with fail
    refine (call31u n1 _ _ xs W6 HS6.out.rx).mono ?_
    rintro e W7 ⟨⟨rn, rfl, hrn⟩, hbc⟩
    have HS7 := Lib.hid (HS6.out.next hbc)
    have HU7 := Lib.hid (HU6.out.next hbc)
    have X8b := Lib.hid (X8.out.next hbc)
    have Hrn := Lib.hid hrn
    rw [Hk1.out]
    clear hbc hrn HS6 HU6 X8 x0 x1
    have x0 := HS7.out.x.cell' 0 rfl
    have x1 := HS7.out.x.cell' 1 rfl
    go_upto_region 7 with fail
    go_wp2_with fail
    refine (call32u n1 _ _ xs W7 HS7.out.rx).mono ?_
    rintro e W8 ⟨⟨sn, se, rfl, hsn⟩, hbc⟩
    have HS8 := Lib.hid (HS7.out.next hbc)
    have HU8 := Lib.hid (HU7.out.next hbc)
    have X8c := Lib.hid (X8b.out.next hbc)
    have Hsn := Lib.hid hsn
    clear hbc hsn HS7 HU7 X8b x0 x1
    have a0 := HS8.out.za.cell' 0 rfl
    have a1 := HS8.out.za.cell' 1 rfl
    have H33 := refCheck3_any n1 _ xs W8 HS8.out.ra
    rw [Hk1.out] at H33
    go_upto_region 8 with fail
    go_wp2_with fail
    refine H33.mono ?_
    rintro e W9 ⟨rfl, hbc⟩
    have HS9 := Lib.hid (HS8.out.next hbc)
    have HU9 := Lib.hid (HU8.out.next hbc)
    have X8d := Lib.hid (X8c.out.next hbc)
    clear hbc HS8 HU8 X8c a0 a1 H33
    have a0 := HS9.out.za.cell' 0 rfl
    have a1 := HS9.out.za.cell' 1 rfl
    have x0 := HS9.out.x.cell' 0 rfl
    have x1 := HS9.out.x.cell' 1 rfl
    go_upto_region 9 with fail
    go_wp2_with fail
    refine (refSame3_eq n1 _ _ _ _ xs W9 (by omega) HS9.out.rx HS9.out.ra).mono ?_
    rintro e W10 ⟨rfl, hbc⟩
    have HS10 := Lib.hid (HS9.out.next hbc)
    have HU10 := Lib.hid (HU9.out.next hbc)
    have X8e := Lib.hid (X8d.out.next hbc)
    clear hbc HS9 HU9 X8d a0 a1 x0 x1
    have b0 := HS10.out.zb.cell' 0 rfl
    have b1 := HS10.out.zb.cell' 1 rfl
    have y0 := HS10.out.y.cell' 0 rfl
    have y1 := HS10.out.y.cell' 1 rfl
    go_wp2_with fail
    refine (refSame3_eq n2 _ _ _ _ ys W10 (by omega) HS10.out.ry HS10.out.rb).mono ?_
    rintro e W11 ⟨rfl, hbc⟩
    have HS11 := Lib.hid (HS10.out.next hbc)
    have HU11 := Lib.hid (HU10.out.next hbc)
    have X8f := Lib.hid (X8e.out.next hbc)
    clear hbc HS10 HU10 X8e b0 b1 y0 y1
    go_upto_region 12 with fail
    obtain ⟨k2, hk2⟩ : ∃ k2, chkT n2 ys = k2 := ⟨_, rfl⟩
    have Hk2 := Lib.hid hk2
    clear hk2
    obtain ⟨e1, he1⟩ : ∃ e1, e1 = (if k1 ≠ 0 then k1 else k2) := ⟨_, rfl⟩
    have He1 := Lib.hid he1
    clear he1
    go_upto_if 68 with fail
    go_cut [15] (fun s wx => ∃ W1, wx = W1 ∧ s = .int .i64 e1 ∧ BbS w n1 n2 p1 p2 c1 c2 xs ys g5 g28 q28 g6 g30 q30 W1 ∧ BesU n1 n2 xs ys h8 p8 l8 c8 W1 ∧ BoxAt W1 g8 #[.int .i64 h8, .slice p8 l8 c8] 26)
    case first =>
      by_cases hk : k1 = 0
      · have e : e1 = k2 := by rw [He1.out, if_neg (by simp [hk])]
        have b0 := HS11.out.zb.cell' 0 rfl
        have b1 := HS11.out.zb.cell' 1 rfl
        have H33 := refCheck3_any n2 _ ys W11 HS11.out.rb
        rw [Hk2.out] at H33
        have hb : (k1 == 0) = true := by simp [hk]
        clear hk
        go_wp2_with fail
        refine H33.mono ?_
        rintro e W12 ⟨rfl, hbc⟩
        have HS12 := Lib.hid (HS11.out.next hbc)
        have HU12 := Lib.hid (HU11.out.next hbc)
        have X8g := Lib.hid (X8f.out.next hbc)
        clear hbc b0 b1 H33
        go_wp2_with fail
        go_meet
        exact ⟨_, rfl, by rw [e], HS12.out, HU12.out, X8g.out⟩
      · have e : e1 = k1 := by rw [He1.out, if_pos hk]
        have hb : (k1 == 0) = false := by simp [hk]
        clear hk
        go_wp2_with fail
        go_meet
        exact ⟨_, rfl, by rw [e], HS11.out, HU11.out, X8f.out⟩
    case rest =>
      obtain ⟨W12, hW, rfl, hS, hU, hX⟩ := hcut
      rw [hW]
      clear hW
      have HS12 := Lib.hid hS
      have HU12 := Lib.hid hU
      have X8g := Lib.hid hX
      clear hS hU hX HS11 HU11 X8f
      obtain ⟨e2, he2⟩ : ∃ e2, e2 = (if e1 = 0 ∧ n1 ≠ n2 then 4 else e1) := ⟨_, rfl⟩
      have He2 := Lib.hid he2
      clear he2
      go_upto_region 14 with fail
      go_cut [79] (fun s wx => wx = W12 ∧ s = .bool (decide (e1 = 0 ∧ n1 ≠ n2)))
      case first =>
        have a0 := HS12.out.za.cell' 0 rfl
        have b0 := HS12.out.zb.cell' 0 rfl
        by_cases hk : e1 = 0
        · have hb : (e1 == 0) = true := by simp [hk]
          have Hk := Lib.hid hk
          clear hk
          go_wp2_with fail
          all_goals (go_meet; exact ⟨rfl, by by_cases q : n1 = n2 <;> simp [Hk.out, q]⟩)
        · have hb : (e1 == 0) = false := by simp [hk]
          have Hk := Lib.hid hk
          clear hk
          go_wp2_with fail
          all_goals (go_meet; exact ⟨rfl, by by_cases q : n1 = n2 <;> simp [Hk.out, q]⟩)
      case rest =>
        obtain ⟨hW, rfl⟩ := hcut
        rw [hW]
        clear hW
        go_upto_if 79 with fail
        go_cut [15] (fun s wx => wx = W12 ∧ s = .int .i64 e2)
        case first =>
          by_cases hk : e1 = 0 ∧ n1 ≠ n2
          · go_wp2_with fail
            go_meet
            exact ⟨rfl, by rw [He2.out, if_pos hk]⟩
          · go_wp2_with fail
            go_meet
            exact ⟨rfl, by rw [He2.out, if_neg hk]⟩
        case rest =>
          obtain ⟨hW, rfl⟩ := hcut
          rw [hW]
          clear hW
          go_upto_region 16 with fail
          go_cut [91] (fun s wx => wx = W12 ∧ s = .bool (decide (e2 = 0 ∧ 96 < xs.length + ys.length)))
          case first =>
            have a1 := HS12.out.za.cell' 1 rfl
            have b1 := HS12.out.zb.cell' 1 rfl
            have hlt : decide ((96 : Int) < (xs.length : Int) + (ys.length : Int)) = decide (96 < xs.length + ys.length) := by rw [decide_eq_decide]; omega
            by_cases hk : e2 = 0
            · have hb : (e2 == 0) = true := by simp [hk]
              have Hk := Lib.hid hk
              clear hk
              go_wp2_with fail
              all_goals (go_meet; exact ⟨rfl, by by_cases q : 96 < xs.length + ys.length <;> simp [Hk.out, q] <;> omega⟩)
            · have hb : (e2 == 0) = false := by simp [hk]
              have Hk := Lib.hid hk
              clear hk
              go_wp2_with fail
              all_goals (go_meet; exact ⟨rfl, by simp [Hk.out]⟩)
          case rest =>
            obtain ⟨hW, rfl⟩ := hcut
            rw [hW]
            clear hW
            go_upto_if 91 with fail
            go_cut [15] (fun s wx => wx = W12 ∧ s = .int .i64 du)
            case first =>
              have hdu' : du = if e2 = 0 ∧ 96 < xs.length + ys.length then 8 else e2 := by
                rw [← Hdu.out, He2.out, He1.out]; unfold dueB; rw [Hk1.out, Hk2.out]
                by_cases q1 : k1 = 0 <;> by_cases q2 : k2 = 0 <;> by_cases q3 : n1 = n2 <;> by_cases q4 : 96 < xs.length + ys.length <;> simp [q1, q2, q3, q4]
              by_cases hk : e2 = 0 ∧ 96 < xs.length + ys.length
              · go_wp2_with fail
                go_meet
                exact ⟨rfl, by rw [hdu', if_pos hk]⟩
              · go_wp2_with fail
                go_meet
                exact ⟨rfl, by rw [hdu', if_neg hk]⟩
            case rest =>
              obtain ⟨hW, rfl⟩ := hcut
              rw [hW]
              clear hW He1 He2
              go_upto_if 93 with fail
              go_cut [] (fun wx => ∃ W1, wx = W1 ∧ BbS w n1 n2 p1 p2 c1 c2 xs ys g5 g28 q28 g6 g30 q30 W1)
              case first =>
                by_cases hd0 : du = 0
                · subst hd0
                  obtain ⟨hz1, hz2, hz3, hz4, hz5, hz6, hz7⟩ : chkT n1 xs = 0 ∧ chkT n2 ys = 0 ∧ n1 = n2 ∧ h8 = n1 ∧ l8 = xs.length + ys.length ∧ l8 ≤ 96 ∧ Reads W12 (.slice p8 l8 c8) (xs ++ ys) := by
                    rcases HU12.out with ⟨q, _⟩ | ⟨_, a, b, c, d, f, g, h⟩
                    · exact absurd Hdu.out q
                    · exact ⟨a, b, c, d, f, g, h⟩
                  obtain ⟨_, _, hxl, _, _⟩ := chkT_ok hz1
                  obtain ⟨_, _, hyl, _, _⟩ := chkT_ok hz2
                  have HR8 := Lib.hid hz7
                  have Hz3 := Lib.hid hz3
                  subst hz4
                  subst hz5
                  clear hz1 hz2 hz3 hz7 HU12
                  obtain ⟨b1, o1, rfl, hbl1, hx1⟩ : ∃ b off, p1 = some ⟨b, off, none⟩ ∧ b < W12.heap.size ∧ IntsAt W12 b off xs := by
                    obtain ⟨p', c', hv, _, hx⟩ := HS12.out.ra
                    simp only [Value.slice.injEq, true_and] at hv
                    obtain ⟨rfl, rfl⟩ := hv
                    exact hx (by omega)
                  obtain ⟨bb, ob, rfl, hbl2, hx2⟩ : ∃ b off, p2 = some ⟨b, off, none⟩ ∧ b < W12.heap.size ∧ IntsAt W12 b off ys := by
                    obtain ⟨p', c', hv, _, hx⟩ := HS12.out.rb
                    simp only [Value.slice.injEq, true_and] at hv
                    obtain ⟨rfl, rfl⟩ := hv
                    exact hx (by omega)
                  have HX1 := Lib.hid (hx1.below ((Below.refl W12.heap.size W12).alloc (Nat.le_refl _) (.cells #[] 3)) hbl1)
                  have HX2 := Lib.hid hx2
                  have z0 := X8g.out.cell' 0 rfl
                  have z1 := X8g.out.cell' 1 rfl
                  have a0 := HS12.out.za.cell' 0 rfl
                  have a1 := HS12.out.za.cell' 1 rfl
                  have b1' := HS12.out.zb.cell' 1 rfl
                  have l1 := X8g.out.lt
                  have l2 := HS12.out.za.lt
                  have l3 := HS12.out.zb.lt
                  have Hbl2 := Lib.hid hbl2
                  clear hx1 hx2
                  go_upto_region 21 with fail
                  have HbA := Lib.hid ((Below.refl W12.heap.size W12).alloc (Nat.le_refl _) (.cells #[] 3))
                  have HbR := Lib.hid (Below.refl W12.heap.size W12)
                  go_region_held3 (fun w' => w'.cell? ⟨g8, 0, none⟩ = some (.int .i64 h8) ∧ w'.cell? ⟨g8, 1, none⟩ = some (.slice p8 (xs.length + ys.length) c8) ∧ w'.cell? ⟨w.heap.size, 0, none⟩ = some (.int .i64 h8) ∧ w'.cell? ⟨w.heap.size, 1, none⟩ = some (.slice (some ⟨b1, o1, none⟩) xs.length c1) ∧ w'.cell? ⟨w.heap.size + 1, 1, none⟩ = some (.slice (some ⟨bb, ob, none⟩) ys.length c2))
                    (first
                    | exact ⟨(X8g.out.next HbR.out).cell' 0 rfl, (X8g.out.next HbR.out).cell' 1 rfl, (HS12.out.za.next HbR.out).cell' 0 rfl, (HS12.out.za.next HbR.out).cell' 1 rfl, (HS12.out.zb.next HbR.out).cell' 1 rfl⟩
                    | exact ⟨(X8g.out.next HbA.out).cell' 0 rfl, (X8g.out.next HbA.out).cell' 1 rfl, (HS12.out.za.next HbA.out).cell' 0 rfl, (HS12.out.za.next HbA.out).cell' 1 rfl, (HS12.out.zb.next HbA.out).cell' 1 rfl⟩
                    | exact ⟨(X8g.out.next Hb5.out).cell' 0 rfl, (X8g.out.next Hb5.out).cell' 1 rfl, (HS12.out.za.next Hb5.out).cell' 0 rfl, (HS12.out.za.next Hb5.out).cell' 1 rfl, (HS12.out.zb.next Hb5.out).cell' 1 rfl⟩
                    | exact ⟨(X8g.out.next Hb6.out).cell' 0 rfl, (X8g.out.next Hb6.out).cell' 1 rfl, (HS12.out.za.next Hb6.out).cell' 0 rfl, (HS12.out.za.next Hb6.out).cell' 1 rfl, (HS12.out.zb.next Hb6.out).cell' 1 rfl⟩
                    | exact ⟨(X8g.out.next Hb7.out).cell' 0 rfl, (X8g.out.next Hb7.out).cell' 1 rfl, (HS12.out.za.next Hb7.out).cell' 0 rfl, (HS12.out.za.next Hb7.out).cell' 1 rfl, (HS12.out.zb.next Hb7.out).cell' 1 rfl⟩
                    | go_keep)
                    (first
                    | (go_at_call 26
                       refine (call26u _ p8 c8 g6' cap6 _ xs ys w6 hxl (by omega) (HR8.out.next Hb6.out) Hr6.out).mono ?_
                       rintro e w7 ⟨rfl, hb7⟩
                       have Hb7 := Lib.hid (Hb6.out.trans (hb7.mono Hb6.out.size))
                       clear hb7)
                    | (refine step_copyW elemInt (by rfl) _ _ (by rfl) (by rfl) ⟨b1, o1, none⟩ xs.length c1 (xs.map intV) (by rfl) (by simp) (by simp [intV, Value.oneCell']) hxl (by omega) (by decide) (ints_news HX1.out) ?_
                       intro g5' cap5 w5 hr5 hb5
                       have Hr5 := Lib.hid hr5
                       have Hb5 := Lib.hid hb5
                       have HX3 := Lib.hid (HX2.out.below hb5 Hbl2.out)
                       clear hr5 hb5)
                    | (refine step_appW elemInt (by rfl) _ _ (by rfl) g5' xs.length cap5 (xs.map intV) (by rfl) Hr5.out Hb5.out ⟨bb, ob, none⟩ ys.length c2 (ys.map intV) (by rfl) (by simp) (by simp [intV, Value.oneCell']) hyl (by omega) (by decide) (ints_news HX3.out) ?_
                       intro g6' cap6 w6 hr6 hb6
                       have Hr6 := Lib.hid hr6
                       have Hb6 := Lib.hid hb6
                       clear hr6 hb6))
                  go_wp2_with fail
                  go_meet
                  exact ⟨_, rfl, HS12.out.next Hb7.out⟩
                · have hz : h8 = 0 ∧ p8 = none ∧ l8 = 0 ∧ c8 = 0 := by
                    rcases HU12.out with ⟨_, a⟩ | ⟨q, _⟩
                    · exact a
                    · exact absurd (Hdu.out.symm.trans q) hd0
                  have hb : (du != 0) = true := by simp [hd0]
                  have hb2 : (du != du) = false := by simp
                  have z0 := X8g.out.cell' 0 rfl
                  have z1 := X8g.out.cell' 1 rfl
                  rw [hz.1] at z0
                  rw [hz.2.1, hz.2.2.1, hz.2.2.2] at z1
                  clear hz hd0
                  go_wp2_with fail
                  refine (tieNone_ok _).mono ?_
                  rintro e WN ⟨rfl, hbn⟩
                  have HSn := Lib.hid (HS12.out.next hbn)
                  clear hbn
                  go_wp2_with fail
                  go_meet
                  exact ⟨_, rfl, HSn.out⟩
              case rest =>
                obtain ⟨W13, hW, hS⟩ := hcut
                rw [hW]
                clear hW
                have HS13 := Lib.hid hS
                clear hS HS12 HU12 X8g Hdu Hk2
                by_cases hk : k1 = 0
                · subst hk
                  obtain ⟨_, _, hxl, hxm, _⟩ := chkT_ok Hk1.out
                  obtain ⟨b1, o1, hp, hbl1, hx1⟩ : ∃ b off, p1 = some ⟨b, off, none⟩ ∧ b < W13.heap.size ∧ NatsAt W13 b off (hkN xs) := by
                    obtain ⟨p', c', hv, _, hx⟩ := HS13.out.ra
                    simp only [Value.slice.injEq, true_and] at hv
                    obtain ⟨rfl, rfl⟩ := hv
                    obtain ⟨b, off, h1, h2, h3⟩ := hx (by omega)
                    exact ⟨b, off, h1, h2, (hkN_tat Hk1.out h3 h2).at'⟩
                  subst hp
                  have a1 := HS13.out.za.cell' 1 rfl
                  have HB1 := Lib.hid hbl1
                  have HN := Lib.hid hx1
                  have hLn : (hkN xs).length = xs.length := hkN_len xs
                  have HLn := Lib.hid hLn
                  clear hbl1 hx1 hLn
                  go_upto_region 25 with fail
                  go_wp2_with fail
                  refine (refMirrors3_ok b1 o1 c1 xs.length (hkN xs) W13 HLn.out hxl (by omega) HN.out HB1.out).mono ?_
                  rintro e W14 ⟨hm, hbc⟩
                  have HS14 := Lib.hid (HS13.out.next hbc)
                  have HN14 := Lib.hid (HN.out.below hbc HB1.out)
                  have HB14 := Lib.hid (Nat.lt_of_lt_of_le HB1.out hbc.size)
                  have hRR : RepP (hkN xs) rn := by
                    rcases Hrn.out with ⟨q, _⟩ | ⟨_, h⟩
                    · exact absurd Hk1.out q
                    · exact h
                  have HRR := Lib.hid hRR
                  have hMM : MirR (hkN xs) (.returned (.tuple #[.int .i64 (sn : Int), .int .i64 se])) := by
                    rcases Hsn.out with ⟨q, _⟩ | ⟨_, h⟩
                    · exact absurd Hk1.out q
                    · exact h
                  have a1 := HS14.out.za.cell' 1 rfl
                  have H36 := refRepeat3_ok b1 o1 c1 xs.length (hkN xs) W14 HLn.out hxl (by omega) HN14.out HB14.out
                  rcases mir_one hMM hm with ⟨s, e1, rfl⟩ | ⟨e1, rfl⟩
                  · simp only [Ending.returned.injEq, Value.tuple.injEq, Array.mk.injEq, List.cons.injEq, Value.int.injEq, true_and, and_true] at e1
                    obtain ⟨hsn', rfl⟩ := e1
                    obtain rfl : sn = s := by omega
                    clear hbc hm hRR hMM hsn' HS13 HN HB1 Hrn Hsn
                    go_wp2_with fail
                    refine H36.mono ?_
                    rintro e W15 ⟨⟨p, hp, rfl⟩, hbc⟩
                    obtain rfl := rep_one HRR.out hp
                    have HS15 := Lib.hid (HS14.out.next hbc)
                    clear hbc hp HS14 a1 H36
                    go_wp2_with fail
                    refine (tieKnown _).mono ?_
                    rintro e WK ⟨rfl, hbk⟩
                    have Hend := Lib.hid (show Below w.heap.size w WK from HS15.out.b.trans (hbk.mono HS15.out.b.size))
                    clear hbk
                    go_wp2_with fail
                    go_ret
                    exact ⟨rfl, Hend.out⟩
                  · simp only [Ending.returned.injEq, Value.tuple.injEq, Array.mk.injEq, List.cons.injEq, Value.int.injEq, true_and, and_true] at e1
                    obtain ⟨hsn', rfl⟩ := e1
                    obtain rfl : sn = 0 := by omega
                    clear hbc hm hRR hMM hsn' HS13 HN HB1 Hrn Hsn
                    go_wp2_with fail
                    refine H36.mono ?_
                    rintro e W15 ⟨⟨p, hp, rfl⟩, hbc⟩
                    obtain rfl := rep_one HRR.out hp
                    have HS15 := Lib.hid (HS14.out.next hbc)
                    clear hbc hp HS14 a1 H36
                    go_wp2_with fail
                    refine (tieKnown _).mono ?_
                    rintro e WK ⟨rfl, hbk⟩
                    have Hend := Lib.hid (show Below w.heap.size w WK from HS15.out.b.trans (hbk.mono HS15.out.b.size))
                    clear hbk
                    go_wp2_with fail
                    go_ret
                    exact ⟨rfl, Hend.out⟩
                · have hb : (k1 != 0) = true := by simp [hk]
                  obtain ⟨hr0, hs0, hse⟩ : rn = 0 ∧ sn = 0 ∧ se = k1 := by
                    rcases Hrn.out with ⟨_, a⟩ | ⟨q, _⟩
                    · rcases Hsn.out with ⟨_, b, c⟩ | ⟨q, _⟩
                      · exact ⟨a, b, c.trans Hk1.out⟩
                      · exact absurd (Hk1.out.symm.trans q) hk
                    · exact absurd (Hk1.out.symm.trans q) hk
                  subst hr0
                  subst hs0
                  subst hse
                  clear hk
                  go_wp2_with fail
                  refine (tieKnown _).mono ?_
                  rintro e WK ⟨rfl, hbk⟩
                  have Hend := Lib.hid (show Below w.heap.size w WK from HS13.out.b.trans (hbk.mono HS13.out.b.size))
                  clear hbk
                  go_wp2_with fail
                  go_ret
                  exact ⟨rfl, Hend.out⟩
end Go.Proofs.Ytdmgffoikebgkaa
