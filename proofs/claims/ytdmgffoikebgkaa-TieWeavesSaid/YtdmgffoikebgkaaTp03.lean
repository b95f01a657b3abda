/- TieWeaves: its walks. -/
import Derived.Deep.DeepCutAuto
import Derived.Deep.QuietTactic
import Derived.BigQuiet
import Derived.Deep.RegionHeld3
import Derived.Test.YtdmgffoikebgkaaTb01
import Derived.Test.YtdmgffoikebgkaaTb02
import Derived.Test.YtdmgffoikebgkaaTb03
import Derived.Test.YtdmgffoikebgkaaTb04
import Derived.Test.YtdmgffoikebgkaaTb05
import Derived.Test.YtdmgffoikebgkaaTb06
import Derived.Test.YtdmgffoikebgkaaTb07
import Derived.Test.YtdmgffoikebgkaaTb08
import Derived.Test.YtdmgffoikebgkaaTb09
import Derived.Test.YtdmgffoikebgkaaTb10
import Derived.Test.YtdmgffoikebgkaaTb11
import Derived.Test.YtdmgffoikebgkaaTb12
import Derived.Test.YtdmgffoikebgkaaTb13
import Derived.Test.YtdmgffoikebgkaaTb14
import Derived.Test.YtdmgffoikebgkaaTb15
import Derived.Test.YtdmgffoikebgkaaTb16
import Derived.Test.YtdmgffoikebgkaaTb17
import Derived.Test.YtdmgffoikebgkaaTb18
import Derived.Test.YtdmgffoikebgkaaTb19
import Derived.Test.YtdmgffoikebgkaaTb20
import Derived.Test.YtdmgffoikebgkaaTp02
namespace Go.Proofs.Ytdmgffoikebgkaa
open Go.RowKit Go.Shelf
attribute [local go_sem] Oper.semAt_some

/-- a harness, a design and their copies in memory -/
structure WvS (w : World) (n1 n2 : Int) (p1 p2 : Option Addr) (c1 c2 : Nat) (xs ys : List Int) (X ga qa Y gb qb : Nat) (W : World) : Prop where
  za : BoxAt W w.heap.size #[.int .i64 n1, .slice p1 xs.length c1] 26
  zb : BoxAt W (w.heap.size + 1) #[.int .i64 n2, .slice p2 ys.length c2] 37
  ra : Reads W (.slice p1 xs.length c1) xs
  rb : Reads W (.slice p2 ys.length c2) ys
  x : BoxAt W X #[.int .i64 n1, .slice (some ⟨ga, 0, none⟩) xs.length qa] 26
  y : BoxAt W Y #[.int .i64 n2, .slice (some ⟨gb, 0, none⟩) ys.length qb] 37
  rx : Reads W (.slice (some ⟨ga, 0, none⟩) xs.length qa) xs
  ry : Reads W (.slice (some ⟨gb, 0, none⟩) ys.length qb) ys
  b : Below w.heap.size w W
theorem WvS.next {w W W' : World} {n1 n2 : Int} {p1 p2 : Option Addr} {c1 c2 : Nat} {xs ys : List Int} {X ga qa Y gb qb : Nat} (h : WvS w n1 n2 p1 p2 c1 c2 xs ys X ga qa Y gb qb W) (hb : Below W.heap.size W W') : WvS w n1 n2 p1 p2 c1 c2 xs ys X ga qa Y gb qb W' :=
  ⟨h.za.next hb, h.zb.next hb, h.ra.next hb, h.rb.next hb, h.x.next hb, h.y.next hb, h.rx.next hb, h.ry.next hb, h.b.trans (hb.mono h.b.size)⟩
/-- a cloth in memory -/
structure ClW (xs ys : List Int) (g : Nat) (W : World) : Prop where
  s : StrsAt W g 0 (clothS (hkN xs) (hkN ys))
  l : g < W.heap.size
theorem ClW.next {xs ys : List Int} {g : Nat} {W W' : World} (h : ClW xs ys g W) (hb : Below W.heap.size W W') : ClW xs ys g W' := ⟨h.s.below hb h.l, Nat.lt_of_lt_of_le h.l hb.size⟩
/-- the floats of a cloth in memory -/
def FlW (xs ys : List Int) (m : Nat) (p : Option Addr) (W : World) : Prop := 0 < (flA xs ys m).length → ∃ g, p = some ⟨g, 0, none⟩ ∧ FlsAt W g (flA xs ys m)
theorem FlW.next {xs ys : List Int} {m : Nat} {p : Option Addr} {W W' : World} (h : FlW xs ys m p W) (hb : Below W.heap.size W W') : FlW xs ys m p W' := fun h0 => by
  obtain ⟨g, e, hf⟩ := h h0
  exact ⟨g, e, hf.below hb hf.lt⟩
theorem flA_len (xs ys : List Int) (m : Nat) (h0 : 1 ≤ xs.length) (h1 : xs.length ≤ 96) (h2 : ys.length ≤ 60) : (flA xs ys m).length ≤ 5760 := by
  have h := flO_len (hkN xs) (hkN ys) m (by rw [hkN_len]; exact h0) ys.length
  rw [hkN_len] at h
  have h3 : xs.length * ys.length ≤ 96 * 60 := Nat.mul_le_mul h1 h2
  exact Nat.le_trans h h3
theorem call46g (n1 n2 : Int) (m : Nat) (p1 p2 : Option Addr) (c1 c2 g c : Nat) (xs ys : List Int) (w : World) (hr1 : Reads w (.slice p1 xs.length c1) xs) (hr2 : Reads w (.slice p2 ys.length c2) ys) (hk : wovE n1 n2 xs ys = 0) (hm : m ≤ 1000) (hc : ClW xs ys g w) :
    Calls Try.prog 46 #[.slice (some ⟨g, 0, none⟩) ys.length c, .int .i64 (m : Int)] w fun e w' =>
      (∃ p cap, e = .returned (.slice p (flA xs ys m).length cap) ∧ FlW xs ys m p w') ∧ Below w.heap.size w w' := by
  obtain ⟨n, b, off, b2, off2, rfl, rfl, rfl, rfl, hT, hV, l0, l1, m0, m1⟩ := wov_open hr1 hr2 hk
  have hC := cloth_ClS (hkN xs) (hkN ys) (by rw [hkN_len]; exact l0) (by rw [hkN_len]; exact l1)
  have H := refFloats3_ok ys.length (hkN xs).length m g c _ _ w (by rw [hkN_len]; exact l0) (by rw [hkN_len]; exact l1) m1 hm hC (by rw [pks_len, hkN_len]) (fun i hi => pks_lt _ _ i (by rw [hkN_len]; exact hi)) hc.s hc.l
  have e : upTo (flP (hkN xs).length (pks (hkN xs) (hkN ys)) m) ys.length = flA xs ys m := upTo_same fun i hi => flP_eq _ _ _ _ (by rw [hkN_len]; exact hi)
  rw [e] at H
  refine H.mono ?_
  rintro e w' ⟨v, rfl, hr, hb⟩
  obtain ⟨p, cap, rfl, hp⟩ := Fls.of_row hr
  exact ⟨⟨p, cap, rfl, hp⟩, hb⟩
set_option maxRecDepth 100000 in
set_option maxHeartbeats 2000000 in
theorem TieWeaves_large (n1 n2 bd : Int) (p1 p2 : Option Addr) (c1 c2 l1 l2 : Nat) (w : World) (hl : 110 < l1 ∨ 70 < l2) :
    Calls Try.prog 5 #[.agg #[.int .i64 n1, .slice p1 l1 c1], .agg #[.int .i64 n2, .slice p2 l2 c2], .int .i64 bd] w fun e w' => e = .returned (.bool true) ∧ Below w.heap.size w w' := by
  have la : (decide (110 < l1) || decide (70 < l2)) = true := by simpa using hl
  obtain ⟨w0, hw0⟩ : ∃ w0, w0 = (w.alloc (.cells #[.int .i64 n1, .slice p1 l1 c1] 26)).alloc (.cells #[.int .i64 n2, .slice p2 l2 c2] 37) := ⟨_, rfl⟩
  have hb0 : Below w.heap.size w w0 := by rw [hw0]; exact ((Below.refl _ _).alloc (Nat.le_refl _) _).alloc (by simp) _
  have hA : BoxAt w0 w.heap.size #[.int .i64 n1, .slice p1 l1 c1] 26 := by rw [hw0]; exact (BoxAt.new w _ _).next ((Below.refl _ _).alloc (Nat.le_refl _) _)
  have hP : BoxAt w0 (w.heap.size + 1) #[.int .i64 n2, .slice p2 l2 c2] 37 := by
    rw [hw0]; have := BoxAt.new (w.alloc (.cells #[.int .i64 n1, .slice p1 l1 c1] 26)) #[.int .i64 n2, .slice p2 l2 c2] 37; rw [World.size_alloc] at this; exact this
  have HW0 := Lib.hid hw0
  have Hb0 := Lib.hid hb0
  have HA := Lib.hid hA
  have HP := Lib.hid hP
  clear hw0 hb0 hA hP
  go_enter Try.func5, Try.ntmps5
  go_upto_region 1 with fail
  rw [← HW0.out]
  have a0 := HA.out.cell' 0 rfl
  have a1 := HA.out.cell' 1 rfl
  have b0 := HP.out.cell' 0 rfl
  have b1 := HP.out.cell' 1 rfl
  have H27 := tieLarge2_any n1 n2 p1 p2 c1 l1 c2 l2 w0
  rw [la] at H27
  go_wp2_with fail
  refine H27.mono ?_
  rintro e W1 ⟨rfl, hb1⟩
  have Hb1 := Lib.hid (Hb0.out.trans (hb1.mono Hb0.out.size))
  clear hb1
  go_wp2_with fail
  refine (tieKnown _).mono ?_
  rintro e WK ⟨rfl, hbk⟩
  have Hend := Lib.hid (show Below w.heap.size w WK from Hb1.out.trans (hbk.mono (Hb1.out).size))
  clear hbk
  go_wp2_with fail
  go_ret
  exact ⟨rfl, Hend.out⟩
set_option maxRecDepth 100000 in
set_option maxHeartbeats 3000000 in
theorem TieWeaves_err (n1 n2 : Int) (bd k : Int) (p1 p2 : Option Addr) (c1 c2 : Nat) (xs ys : List Int) (w : World) (hr1 : Reads w (.slice p1 xs.length c1) xs) (hr2 : Reads w (.slice p2 ys.length c2) ys) (hl : xs.length ≤ 110 ∧ ys.length ≤ 70) (hk : wovE n1 n2 xs ys = k) (h0 : k ≠ 0) :
    Calls Try.prog 5 #[.agg #[.int .i64 n1, .slice p1 xs.length c1], .agg #[.int .i64 n2, .slice p2 ys.length c2], .int .i64 bd] w fun e w' => e = .returned (.bool true) ∧ Below w.heap.size w w' := by
  have HK := Lib.hid hk
  have H0 := Lib.hid h0
  clear hk h0
  obtain ⟨w0, hw0⟩ : ∃ w0, w0 = (w.alloc (.cells #[.int .i64 n1, .slice p1 xs.length c1] 26)).alloc (.cells #[.int .i64 n2, .slice p2 ys.length c2] 37) := ⟨_, rfl⟩
  have hb0 : Below w.heap.size w w0 := by rw [hw0]; exact ((Below.refl _ _).alloc (Nat.le_refl _) _).alloc (by simp) _
  have hA : BoxAt w0 w.heap.size #[.int .i64 n1, .slice p1 xs.length c1] 26 := by rw [hw0]; exact (BoxAt.new w _ _).next ((Below.refl _ _).alloc (Nat.le_refl _) _)
  have hP : BoxAt w0 (w.heap.size + 1) #[.int .i64 n2, .slice p2 ys.length c2] 37 := by
    rw [hw0]; have := BoxAt.new (w.alloc (.cells #[.int .i64 n1, .slice p1 xs.length c1] 26)) #[.int .i64 n2, .slice p2 ys.length c2] 37; rw [World.size_alloc] at this; exact this
  have HW0 := Lib.hid hw0
  have Hb0 := Lib.hid hb0
  have HA := Lib.hid hA
  have HP := Lib.hid hP
  have HRa := Lib.hid (hr1.next hb0)
  have HRb := Lib.hid (hr2.next hb0)
  clear hw0 hb0 hA hP hr1 hr2
  go_enter Try.func5, Try.ntmps5
  go_upto_region 1 with fail
  rw [← HW0.out]
  have a0 := HA.out.cell' 0 rfl
  have a1 := HA.out.cell' 1 rfl
  have b0 := HP.out.cell' 0 rfl
  have b1 := HP.out.cell' 1 rfl
  have H27 := tieLarge2_any n1 n2 p1 p2 c1 xs.length c2 ys.length w0
  have la : (decide (110 < xs.length) || decide (70 < ys.length)) = false := by simp; omega
  rw [la] at H27
  go_wp2_with fail
  refine H27.mono ?_
  rintro e W2 ⟨rfl, hb2⟩
  have Hb2 := Lib.hid (Hb0.out.trans (hb2.mono Hb0.out.size))
  have HA2 := Lib.hid (HA.out.next hb2)
  have HP2 := Lib.hid (HP.out.next hb2)
  have HRa2 := Lib.hid (HRa.out.next hb2)
  have HRb2 := Lib.hid (HRb.out.next hb2)
  clear hb2 a0 a1 b0 b1 HA HP HRa HRb Hb0 HW0 H27 la
  go_upto_region 3 with fail
  refine region_wv3 w.heap.size (w.heap.size + 1) xs.length ys.length c1 c2 n1 n2 p1 p2 xs ys (fun W hb => tieOwn_any n1 p1 c1 xs W (by omega) (HRa2.out.next hb)) (fun W hb => dsOwn_any n2 p2 c2 ys W (by omega) (HRb2.out.next hb)) HA2.out HP2.out rfl ?hops (by kernel_rfl) (by kernel_rfl) (by kernel_rfl) (by kernel_rfl) ?hsz ?hout ?hend
  case hops => exact ⟨⟨_, _, _, rfl, by kernel_rfl⟩, ⟨_, _, _, rfl, by kernel_rfl⟩, ⟨_, _, _, rfl, by kernel_rfl⟩, ⟨_, _, _, rfl, by kernel_rfl⟩, ⟨_, _, _, rfl, by kernel_rfl⟩, ⟨_, _, _, rfl, by kernel_rfl⟩, ⟨_, _, _, rfl, by kernel_rfl⟩, ⟨_, _, _, rfl, by kernel_rfl⟩⟩
  case hsz => intro d hd; simp only [List.mem_cons, List.not_mem_nil, or_false] at hd; show d < 106; omega
  case hout => exact ⟨rfl, rfl⟩
  case hend =>
    intro g20 q20 G20 Q20 g22 q22 G22 Q22 g7 q7 G7 Q7 g8 q8 G8 Q8 P20 P22 P7 P8 u19 u20 u21 u22 W3 hb3 hm20 hB20 hm22 hB22 hl7 hu7 hl8 hu8 hs7 hs8
    simp only [putL, List.foldl, Act.put, List.setIfInBounds_toArray, List.set_cons_succ, List.set_cons_zero]
    have HS3 := Lib.hid (show WvS w n1 n2 p1 p2 c1 c2 xs ys g7 g20 q20 g8 g22 q22 W3 from ⟨HA2.out.next hb3, HP2.out.next hb3, HRa2.out.next hb3, HRb2.out.next hb3, hs7, hs8, hm20, hm22, Hb2.out.trans (hb3.mono Hb2.out.size)⟩)
    clear hb3 hm20 hB20 hm22 hB22 hl7 hu7 hl8 hu8 hs7 hs8 HA2 HP2 HRa2 HRb2 Hb2
    have x0 := HS3.out.x.cell' 0 rfl
    have x1 := HS3.out.x.cell' 1 rfl
    have y0 := HS3.out.y.cell' 0 rfl
    have y1 := HS3.out.y.cell' 1 rfl
    have H38 := tieWeave_err n1 n2 k _ _ _ _ xs ys W3 HS3.out.rx HS3.out.ry HK.out H0.out
    go_wp2_with fail
    refine H38.mono ?_
    rintro e W4 ⟨rfl, hbc⟩
    have HS4 := Lib.hid (HS3.out.next hbc)
    clear hbc HS3 x0 x1 y0 y1 H38
    have x0 := HS4.out.x.cell' 0 rfl
    have x1 := HS4.out.x.cell' 1 rfl
    have y0 := HS4.out.y.cell' 0 rfl
    have y1 := HS4.out.y.cell' 1 rfl
    have H39 := tieFloats_err n1 n2 bd k _ _ _ _ xs ys W4 HS4.out.rx HS4.out.ry HK.out H0.out
    go_wp2_with fail
    refine H39.mono ?_
    rintro e W5 ⟨rfl, hbc⟩
    have HS5 := Lib.hid (HS4.out.next hbc)
    clear hbc HS4 x0 x1 y0 y1 H39
    have x0 := HS5.out.x.cell' 0 rfl
    have x1 := HS5.out.x.cell' 1 rfl
    have y0 := HS5.out.y.cell' 0 rfl
    have y1 := HS5.out.y.cell' 1 rfl
    have a0 := HS5.out.za.cell' 0 rfl
    have a1 := HS5.out.za.cell' 1 rfl
    have b0 := HS5.out.zb.cell' 0 rfl
    have b1 := HS5.out.zb.cell' 1 rfl
    go_wp2_with fail
    refine (refSame3_eq n1 _ _ _ _ xs W5 (by omega) HS5.out.rx HS5.out.ra).mono ?_
    rintro e W6 ⟨rfl, hbc⟩
    have HS6 := Lib.hid (HS5.out.next hbc)
    clear hbc HS5 x0 x1 y0 y1 a0 a1 b0 b1
    have H40 := Same_any n2 n2 _ _ _ _ ys ys W6 HS6.out.ry HS6.out.rb
    rw [decide_eq_true (show n2 = n2 ∧ ys = ys from ⟨rfl, rfl⟩)] at H40
    have x0 := HS6.out.x.cell' 0 rfl
    have x1 := HS6.out.x.cell' 1 rfl
    have y0 := HS6.out.y.cell' 0 rfl
    have y1 := HS6.out.y.cell' 1 rfl
    have a0 := HS6.out.za.cell' 0 rfl
    have a1 := HS6.out.za.cell' 1 rfl
    have b0 := HS6.out.zb.cell' 0 rfl
    have b1 := HS6.out.zb.cell' 1 rfl
    go_wp2_with fail
    refine (H40).mono ?_
    rintro e W7 ⟨rfl, hbc⟩
    have HS7 := Lib.hid (HS6.out.next hbc)
    clear hbc HS6 x0 x1 y0 y1 a0 a1 b0 b1 H40
    have H41 := woven_any n1 n2 _ _ _ _ xs ys W7 HS7.out.ra HS7.out.rb
    rw [HK.out] at H41
    have a0 := HS7.out.za.cell' 0 rfl
    have a1 := HS7.out.za.cell' 1 rfl
    have b0 := HS7.out.zb.cell' 0 rfl
    have b1 := HS7.out.zb.cell' 1 rfl
    go_wp2_with fail
    refine (H41).mono ?_
    rintro e W8 ⟨rfl, hbc⟩
    have HS8 := Lib.hid (HS7.out.next hbc)
    clear hbc HS7 a0 a1 b0 b1 H41
    have hb : (k != 0) = true := by simp [H0.out]
    go_wp2_with fail
    refine (tieKnown _).mono ?_
    rintro e WK ⟨rfl, hbk⟩
    have Hend := Lib.hid (show Below w.heap.size w WK from HS8.out.b.trans (hbk.mono (HS8.out.b).size))
    clear hbk
    go_wp2_with fail
    go_ret
    exact ⟨rfl, Hend.out⟩
set_option maxRecDepth 100000 in
set_option maxHeartbeats 3000000 in
theorem TieWeaves_range (n1 n2 : Int) (bd : Int) (p1 p2 : Option Addr) (c1 c2 : Nat) (xs ys : List Int) (w : World) (hr1 : Reads w (.slice p1 xs.length c1) xs) (hr2 : Reads w (.slice p2 ys.length c2) ys) (hl : xs.length ≤ 110 ∧ ys.length ≤ 70) (hk : wovE n1 n2 xs ys = 0) (hm : ¬ (0 ≤ bd ∧ bd ≤ 1000)) :
    Calls Try.prog 5 #[.agg #[.int .i64 n1, .slice p1 xs.length c1], .agg #[.int .i64 n2, .slice p2 ys.length c2], .int .i64 bd] w fun e w' => e = .returned (.bool true) ∧ Below w.heap.size w w' := by
  have HK := Lib.hid hk
  have HM := Lib.hid hm
  clear hk hm
  obtain ⟨w0, hw0⟩ : ∃ w0, w0 = (w.alloc (.cells #[.int .i64 n1, .slice p1 xs.length c1] 26)).alloc (.cells #[.int .i64 n2, .slice p2 ys.length c2] 37) := ⟨_, rfl⟩
  have hb0 : Below w.heap.size w w0 := by rw [hw0]; exact ((Below.refl _ _).alloc (Nat.le_refl _) _).alloc (by simp) _
  have hA : BoxAt w0 w.heap.size #[.int .i64 n1, .slice p1 xs.length c1] 26 := by rw [hw0]; exact (BoxAt.new w _ _).next ((Below.refl _ _).alloc (Nat.le_refl _) _)
  have hP : BoxAt w0 (w.heap.size + 1) #[.int .i64 n2, .slice p2 ys.length c2] 37 := by
    rw [hw0]; have := BoxAt.new (w.alloc (.cells #[.int .i64 n1, .slice p1 xs.length c1] 26)) #[.int .i64 n2, .slice p2 ys.length c2] 37; rw [World.size_alloc] at this; exact this
  have HW0 := Lib.hid hw0
  have Hb0 := Lib.hid hb0
  have HA := Lib.hid hA
  have HP := Lib.hid hP
  have HRa := Lib.hid (hr1.next hb0)
  have HRb := Lib.hid (hr2.next hb0)
  clear hw0 hb0 hA hP hr1 hr2
  go_enter Try.func5, Try.ntmps5
  go_upto_region 1 with fail
  rw [← HW0.out]
  have a0 := HA.out.cell' 0 rfl
  have a1 := HA.out.cell' 1 rfl
  have b0 := HP.out.cell' 0 rfl
  have b1 := HP.out.cell' 1 rfl
  have H27 := tieLarge2_any n1 n2 p1 p2 c1 xs.length c2 ys.length w0
  have la : (decide (110 < xs.length) || decide (70 < ys.length)) = false := by simp; omega
  rw [la] at H27
  go_wp2_with fail
  refine H27.mono ?_
  rintro e W2 ⟨rfl, hb2⟩
  have Hb2 := Lib.hid (Hb0.out.trans (hb2.mono Hb0.out.size))
  have HA2 := Lib.hid (HA.out.next hb2)
  have HP2 := Lib.hid (HP.out.next hb2)
  have HRa2 := Lib.hid (HRa.out.next hb2)
  have HRb2 := Lib.hid (HRb.out.next hb2)
  clear hb2 a0 a1 b0 b1 HA HP HRa HRb Hb0 HW0 H27 la
  go_upto_region 3 with fail
  refine region_wv3 w.heap.size (w.heap.size + 1) xs.length ys.length c1 c2 n1 n2 p1 p2 xs ys (fun W hb => tieOwn_any n1 p1 c1 xs W (by omega) (HRa2.out.next hb)) (fun W hb => dsOwn_any n2 p2 c2 ys W (by omega) (HRb2.out.next hb)) HA2.out HP2.out rfl ?hops (by kernel_rfl) (by kernel_rfl) (by kernel_rfl) (by kernel_rfl) ?hsz ?hout ?hend
  case hops => exact ⟨⟨_, _, _, rfl, by kernel_rfl⟩, ⟨_, _, _, rfl, by kernel_rfl⟩, ⟨_, _, _, rfl, by kernel_rfl⟩, ⟨_, _, _, rfl, by kernel_rfl⟩, ⟨_, _, _, rfl, by kernel_rfl⟩, ⟨_, _, _, rfl, by kernel_rfl⟩, ⟨_, _, _, rfl, by kernel_rfl⟩, ⟨_, _, _, rfl, by kernel_rfl⟩⟩
  case hsz => intro d hd; simp only [List.mem_cons, List.not_mem_nil, or_false] at hd; show d < 106; omega
  case hout => exact ⟨rfl, rfl⟩
  case hend =>
    intro g20 q20 G20 Q20 g22 q22 G22 Q22 g7 q7 G7 Q7 g8 q8 G8 Q8 P20 P22 P7 P8 u19 u20 u21 u22 W3 hb3 hm20 hB20 hm22 hB22 hl7 hu7 hl8 hu8 hs7 hs8
    simp only [putL, List.foldl, Act.put, List.setIfInBounds_toArray, List.set_cons_succ, List.set_cons_zero]
    have HS3 := Lib.hid (show WvS w n1 n2 p1 p2 c1 c2 xs ys g7 g20 q20 g8 g22 q22 W3 from ⟨HA2.out.next hb3, HP2.out.next hb3, HRa2.out.next hb3, HRb2.out.next hb3, hs7, hs8, hm20, hm22, Hb2.out.trans (hb3.mono Hb2.out.size)⟩)
    clear hb3 hm20 hB20 hm22 hB22 hl7 hu7 hl8 hu8 hs7 hs8 HA2 HP2 HRa2 HRb2 Hb2
    have x0 := HS3.out.x.cell' 0 rfl
    have x1 := HS3.out.x.cell' 1 rfl
    have y0 := HS3.out.y.cell' 0 rfl
    have y1 := HS3.out.y.cell' 1 rfl
    have H38 := call38g n1 n2 _ _ _ _ xs ys W3 HS3.out.rx HS3.out.ry HK.out
    go_wp2_with fail
    refine H38.mono ?_
    rintro e W4 ⟨⟨g38, q38, rfl, hc1, hc2⟩, hbc⟩
    have HC4 := Lib.hid (show ClW xs ys g38 W4 from ⟨hc1, hc2⟩)
    have HS4 := Lib.hid (HS3.out.next hbc)
    clear hbc HS3 x0 x1 y0 y1 H38 hc1 hc2
    have x0 := HS4.out.x.cell' 0 rfl
    have x1 := HS4.out.x.cell' 1 rfl
    have y0 := HS4.out.y.cell' 0 rfl
    have y1 := HS4.out.y.cell' 1 rfl
    have H39 := tieFloats_range n1 n2 bd _ _ _ _ xs ys W4 HS4.out.rx HS4.out.ry HK.out HM.out
    go_wp2_with fail
    refine H39.mono ?_
    rintro e W5 ⟨rfl, hbc⟩
    have HS5 := Lib.hid (HS4.out.next hbc)
    have HC5 := Lib.hid (HC4.out.next hbc)
    clear hbc HS4 x0 x1 y0 y1 H39 HC4
    have x0 := HS5.out.x.cell' 0 rfl
    have x1 := HS5.out.x.cell' 1 rfl
    have y0 := HS5.out.y.cell' 0 rfl
    have y1 := HS5.out.y.cell' 1 rfl
    have a0 := HS5.out.za.cell' 0 rfl
    have a1 := HS5.out.za.cell' 1 rfl
    have b0 := HS5.out.zb.cell' 0 rfl
    have b1 := HS5.out.zb.cell' 1 rfl
    go_wp2_with fail
    refine (refSame3_eq n1 _ _ _ _ xs W5 (by omega) HS5.out.rx HS5.out.ra).mono ?_
    rintro e W6 ⟨rfl, hbc⟩
    have HS6 := Lib.hid (HS5.out.next hbc)
    have HC6 := Lib.hid (HC5.out.next hbc)
    clear hbc HS5 x0 x1 y0 y1 a0 a1 b0 b1 HC5
    have H40 := Same_any n2 n2 _ _ _ _ ys ys W6 HS6.out.ry HS6.out.rb
    rw [decide_eq_true (show n2 = n2 ∧ ys = ys from ⟨rfl, rfl⟩)] at H40
    have x0 := HS6.out.x.cell' 0 rfl
    have x1 := HS6.out.x.cell' 1 rfl
    have y0 := HS6.out.y.cell' 0 rfl
    have y1 := HS6.out.y.cell' 1 rfl
    have a0 := HS6.out.za.cell' 0 rfl
    have a1 := HS6.out.za.cell' 1 rfl
    have b0 := HS6.out.zb.cell' 0 rfl
    have b1 := HS6.out.zb.cell' 1 rfl
    go_wp2_with fail
    refine (H40).mono ?_
    rintro e W7 ⟨rfl, hbc⟩
    have HS7 := Lib.hid (HS6.out.next hbc)
    have HC7 := Lib.hid (HC6.out.next hbc)
    clear hbc HS6 x0 x1 y0 y1 a0 a1 b0 b1 H40 HC6
    have H41 := woven_any n1 n2 _ _ _ _ xs ys W7 HS7.out.ra HS7.out.rb
    rw [HK.out] at H41
    have a0 := HS7.out.za.cell' 0 rfl
    have a1 := HS7.out.za.cell' 1 rfl
    have b0 := HS7.out.zb.cell' 0 rfl
    have b1 := HS7.out.zb.cell' 1 rfl
    go_wp2_with fail
    refine (H41).mono ?_
    rintro e W8 ⟨rfl, hbc⟩
    have HS8 := Lib.hid (HS7.out.next hbc)
    have HC8 := Lib.hid (HC7.out.next hbc)
    clear hbc HS7 a0 a1 b0 b1 H41 HC7
    have a0 := HS8.out.za.cell' 0 rfl
    have a1 := HS8.out.za.cell' 1 rfl
    have b0 := HS8.out.zb.cell' 0 rfl
    have b1 := HS8.out.zb.cell' 1 rfl
    go_wp2_with fail
    refine (call42g n1 n2 _ _ _ _ xs ys W8 HS8.out.ra HS8.out.rb HK.out).mono ?_
    rintro e W9 ⟨⟨g42, q42, rfl, hc1, hc2⟩, hbc⟩
    have HD9 := Lib.hid (show ClW xs ys g42 W9 from ⟨hc1, hc2⟩)
    have HS9 := Lib.hid (HS8.out.next hbc)
    have HC9 := Lib.hid (HC8.out.next hbc)
    clear hbc hc1 hc2 HS8 HC8 a0 a1 b0 b1
    have hyl : ys.length ≤ 1000 := by omega
    go_wp2_with fail
    refine (refAlike3_ok ys.length g38 q38 g42 q42 _ W9 (by rw [clothS_len, hkN_len]) hyl HC9.out.s HD9.out.s).mono ?_
    rintro e W10 ⟨rfl, hbc⟩
    have HS10 := Lib.hid (HS9.out.next hbc)
    have HD10 := Lib.hid (HD9.out.next hbc)
    clear hbc HS9 HC9 HD9
    have H44 := refIn3_any bd 0 1000 W10
    rw [show (decide (0 ≤ bd) && decide (bd ≤ 1000)) = false by have := HM.out; simp; omega] at H44
    go_wp2_with fail
    refine H44.mono ?_
    rintro e W11 ⟨rfl, rfl⟩
    go_wp2_with fail
    refine (tieKnown _).mono ?_
    rintro e WK ⟨rfl, hbk⟩
    have Hend := Lib.hid (show Below w.heap.size w WK from HS10.out.b.trans (hbk.mono (HS10.out.b).size))
    clear hbk
    go_wp2_with fail
    go_ret
    exact ⟨rfl, Hend.out⟩
set_option maxRecDepth 100000 in
set_option maxHeartbeats 3000000 in
theorem TieWeaves_good (n1 n2 : Int) (m : Nat) (p1 p2 : Option Addr) (c1 c2 : Nat) (xs ys : List Int) (w : World) (hr1 : Reads w (.slice p1 xs.length c1) xs) (hr2 : Reads w (.slice p2 ys.length c2) ys) (hl : xs.length ≤ 110 ∧ ys.length ≤ 70) (hk : wovE n1 n2 xs ys = 0) (hm : m ≤ 1000) :
    Calls Try.prog 5 #[.agg #[.int .i64 n1, .slice p1 xs.length c1], .agg #[.int .i64 n2, .slice p2 ys.length c2], .int .i64 (m : Int)] w fun e w' => e = .returned (.bool true) ∧ Below w.heap.size w w' := by
  have HL0 := Lib.hid (show 1 ≤ xs.length ∧ xs.length ≤ 96 ∧ ys.length ≤ 60 by obtain ⟨_, _, _, _, _, _, _, _, _, _, _, a, b, _, c⟩ := wov_open hr1 hr2 hk; exact ⟨a, b, c⟩)
  have HK := Lib.hid hk
  have HM := Lib.hid hm
  clear hk hm
  obtain ⟨w0, hw0⟩ : ∃ w0, w0 = (w.alloc (.cells #[.int .i64 n1, .slice p1 xs.length c1] 26)).alloc (.cells #[.int .i64 n2, .slice p2 ys.length c2] 37) := ⟨_, rfl⟩
  have hb0 : Below w.heap.size w w0 := by rw [hw0]; exact ((Below.refl _ _).alloc (Nat.le_refl _) _).alloc (by simp) _
  have hA : BoxAt w0 w.heap.size #[.int .i64 n1, .slice p1 xs.length c1] 26 := by rw [hw0]; exact (BoxAt.new w _ _).next ((Below.refl _ _).alloc (Nat.le_refl _) _)
  have hP : BoxAt w0 (w.heap.size + 1) #[.int .i64 n2, .slice p2 ys.length c2] 37 := by
    rw [hw0]; have := BoxAt.new (w.alloc (.cells #[.int .i64 n1, .slice p1 xs.length c1] 26)) #[.int .i64 n2, .slice p2 ys.length c2] 37; rw [World.size_alloc] at this; exact this
  have HW0 := Lib.hid hw0
  have Hb0 := Lib.hid hb0
  have HA := Lib.hid hA
  have HP := Lib.hid hP
  have HRa := Lib.hid (hr1.next hb0)
  have HRb := Lib.hid (hr2.next hb0)
  clear hw0 hb0 hA hP hr1 hr2
  go_enter Try.func5, Try.ntmps5
  go_upto_region 1 with fail
  rw [← HW0.out]
  have a0 := HA.out.cell' 0 rfl
  have a1 := HA.out.cell' 1 rfl
  have b0 := HP.out.cell' 0 rfl
  have b1 := HP.out.cell' 1 rfl
  have H27 := tieLarge2_any n1 n2 p1 p2 c1 xs.length c2 ys.length w0
  have la : (decide (110 < xs.length) || decide (70 < ys.length)) = false := by simp; omega
  rw [la] at H27
  go_wp2_with fail
  refine H27.mono ?_
  rintro e W2 ⟨rfl, hb2⟩
  have Hb2 := Lib.hid (Hb0.out.trans (hb2.mono Hb0.out.size))
  have HA2 := Lib.hid (HA.out.next hb2)
  have HP2 := Lib.hid (HP.out.next hb2)
  have HRa2 := Lib.hid (HRa.out.next hb2)
  have HRb2 := Lib.hid (HRb.out.next hb2)
  clear hb2 a0 a1 b0 b1 HA HP HRa HRb Hb0 HW0 H27 la
  go_upto_region 3 with fail
  refine region_wv3 w.heap.size (w.heap.size + 1) xs.length ys.length c1 c2 n1 n2 p1 p2 xs ys (fun W hb => tieOwn_any n1 p1 c1 xs W (by omega) (HRa2.out.next hb)) (fun W hb => dsOwn_any n2 p2 c2 ys W (by omega) (HRb2.out.next hb)) HA2.out HP2.out rfl ?hops (by kernel_rfl) (by kernel_rfl) (by kernel_rfl) (by kernel_rfl) ?hsz ?hout ?hend
  case hops => exact ⟨⟨_, _, _, rfl, by kernel_rfl⟩, ⟨_, _, _, rfl, by kernel_rfl⟩, ⟨_, _, _, rfl, by kernel_rfl⟩, ⟨_, _, _, rfl, by kernel_rfl⟩, ⟨_, _, _, rfl, by kernel_rfl⟩, ⟨_, _, _, rfl, by kernel_rfl⟩, ⟨_, _, _, rfl, by kernel_rfl⟩, ⟨_, _, _, rfl, by kernel_rfl⟩⟩
  case hsz => intro d hd; simp only [List.mem_cons, List.not_mem_nil, or_false] at hd; show d < 106; omega
  case hout => exact ⟨rfl, rfl⟩
  case hend =>
    intro g20 q20 G20 Q20 g22 q22 G22 Q22 g7 q7 G7 Q7 g8 q8 G8 Q8 P20 P22 P7 P8 u19 u20 u21 u22 W3 hb3 hm20 hB20 hm22 hB22 hl7 hu7 hl8 hu8 hs7 hs8
    simp only [putL, List.foldl, Act.put, List.setIfInBounds_toArray, List.set_cons_succ, List.set_cons_zero]
    have HS3 := Lib.hid (show WvS w n1 n2 p1 p2 c1 c2 xs ys g7 g20 q20 g8 g22 q22 W3 from ⟨HA2.out.next hb3, HP2.out.next hb3, HRa2.out.next hb3, HRb2.out.next hb3, hs7, hs8, hm20, hm22, Hb2.out.trans (hb3.mono Hb2.out.size)⟩)
    clear hb3 hm20 hB20 hm22 hB22 hl7 hu7 hl8 hu8 hs7 hs8 HA2 HP2 HRa2 HRb2 Hb2
    have x0 := HS3.out.x.cell' 0 rfl
    have x1 := HS3.out.x.cell' 1 rfl
    have y0 := HS3.out.y.cell' 0 rfl
    have y1 := HS3.out.y.cell' 1 rfl
    have H38 := call38g n1 n2 _ _ _ _ xs ys W3 HS3.out.rx HS3.out.ry HK.out
    go_wp2_with fail
    refine H38.mono ?_
    rintro e W4 ⟨⟨g38, q38, rfl, hc1, hc2⟩, hbc⟩
    have HC4 := Lib.hid (show ClW xs ys g38 W4 from ⟨hc1, hc2⟩)
    have HS4 := Lib.hid (HS3.out.next hbc)
    clear hbc HS3 x0 x1 y0 y1 H38 hc1 hc2
    have x0 := HS4.out.x.cell' 0 rfl
    have x1 := HS4.out.x.cell' 1 rfl
    have y0 := HS4.out.y.cell' 0 rfl
    have y1 := HS4.out.y.cell' 1 rfl
    have H39 := call39g n1 n2 m _ _ _ _ xs ys W4 HS4.out.rx HS4.out.ry HK.out HM.out
    go_wp2_with fail
    refine H39.mono ?_
    rintro e W5 ⟨⟨pf, qf, rfl, hf⟩, hbc⟩
    have HF5 := Lib.hid (show FlW xs ys m pf W5 from hf)
    have HS5 := Lib.hid (HS4.out.next hbc)
    have HC5 := Lib.hid (HC4.out.next hbc)
    clear hbc HS4 x0 x1 y0 y1 H39 HC4 hf
    have x0 := HS5.out.x.cell' 0 rfl
    have x1 := HS5.out.x.cell' 1 rfl
    have y0 := HS5.out.y.cell' 0 rfl
    have y1 := HS5.out.y.cell' 1 rfl
    have a0 := HS5.out.za.cell' 0 rfl
    have a1 := HS5.out.za.cell' 1 rfl
    have b0 := HS5.out.zb.cell' 0 rfl
    have b1 := HS5.out.zb.cell' 1 rfl
    go_wp2_with fail
    refine (refSame3_eq n1 _ _ _ _ xs W5 (by omega) HS5.out.rx HS5.out.ra).mono ?_
    rintro e W6 ⟨rfl, hbc⟩
    have HS6 := Lib.hid (HS5.out.next hbc)
    have HC6 := Lib.hid (HC5.out.next hbc)
    have HF6 := Lib.hid (HF5.out.next hbc)
    clear hbc HS5 x0 x1 y0 y1 a0 a1 b0 b1 HC5 HF5
    have H40 := Same_any n2 n2 _ _ _ _ ys ys W6 HS6.out.ry HS6.out.rb
    rw [decide_eq_true (show n2 = n2 ∧ ys = ys from ⟨rfl, rfl⟩)] at H40
    have x0 := HS6.out.x.cell' 0 rfl
    have x1 := HS6.out.x.cell' 1 rfl
    have y0 := HS6.out.y.cell' 0 rfl
    have y1 := HS6.out.y.cell' 1 rfl
    have a0 := HS6.out.za.cell' 0 rfl
    have a1 := HS6.out.za.cell' 1 rfl
    have b0 := HS6.out.zb.cell' 0 rfl
    have b1 := HS6.out.zb.cell' 1 rfl
    go_wp2_with fail
    refine (H40).mono ?_
    rintro e W7 ⟨rfl, hbc⟩
    have HS7 := Lib.hid (HS6.out.next hbc)
    have HC7 := Lib.hid (HC6.out.next hbc)
    have HF7 := Lib.hid (HF6.out.next hbc)
    clear hbc HS6 x0 x1 y0 y1 a0 a1 b0 b1 H40 HC6 HF6
    have H41 := woven_any n1 n2 _ _ _ _ xs ys W7 HS7.out.ra HS7.out.rb
    rw [HK.out] at H41
    have a0 := HS7.out.za.cell' 0 rfl
    have a1 := HS7.out.za.cell' 1 rfl
    have b0 := HS7.out.zb.cell' 0 rfl
    have b1 := HS7.out.zb.cell' 1 rfl
    go_wp2_with fail
    refine (H41).mono ?_
    rintro e W8 ⟨rfl, hbc⟩
    have HS8 := Lib.hid (HS7.out.next hbc)
    have HC8 := Lib.hid (HC7.out.next hbc)
    have HF8 := Lib.hid (HF7.out.next hbc)
    clear hbc HS7 a0 a1 b0 b1 H41 HC7 HF7
    have a0 := HS8.out.za.cell' 0 rfl
    have a1 := HS8.out.za.cell' 1 rfl
    have b0 := HS8.out.zb.cell' 0 rfl
    have b1 := HS8.out.zb.cell' 1 rfl
    go_wp2_with fail
    refine (call42g n1 n2 _ _ _ _ xs ys W8 HS8.out.ra HS8.out.rb HK.out).mono ?_
    rintro e W9 ⟨⟨g42, q42, rfl, hc1, hc2⟩, hbc⟩
    have HD9 := Lib.hid (show ClW xs ys g42 W9 from ⟨hc1, hc2⟩)
    have HS9 := Lib.hid (HS8.out.next hbc)
    have HC9 := Lib.hid (HC8.out.next hbc)
    have HF9 := Lib.hid (HF8.out.next hbc)
    clear hbc hc1 hc2 HS8 HC8 a0 a1 b0 b1 HF8
    have hyl : ys.length ≤ 1000 := by omega
    go_wp2_with fail
    refine (refAlike3_ok ys.length g38 q38 g42 q42 _ W9 (by rw [clothS_len, hkN_len]) hyl HC9.out.s HD9.out.s).mono ?_
    rintro e W10 ⟨rfl, hbc⟩
    have HS10 := Lib.hid (HS9.out.next hbc)
    have HD10 := Lib.hid (HD9.out.next hbc)
    have HF10 := Lib.hid (HF9.out.next hbc)
    clear hbc HS9 HC9 HD9 HF9
    have H44 := refIn3_any (m : Int) 0 1000 W10
    rw [show (decide (0 ≤ (m : Int)) && decide ((m : Int) ≤ 1000)) = true by have := HM.out; simp; omega] at H44
    go_wp2_with fail
    refine H44.mono ?_
    rintro e W11 ⟨rfl, rfl⟩
    go_wp2_with fail
    refine (call46g n1 n2 m _ _ _ _ g42 q42 xs ys _ HS10.out.ra HS10.out.rb HK.out HM.out HD10.out).mono ?_
    rintro e W12 ⟨⟨pr, qr, rfl, hf⟩, hbc⟩
    have HS12 := Lib.hid (HS10.out.next hbc)
    have HF12 := Lib.hid (HF10.out.next hbc)
    have HG12 := Lib.hid hf
    have hfl := flA_len xs ys m HL0.out.1 HL0.out.2.1 HL0.out.2.2
    clear hbc hf HS10 HF10 HD10
    go_wp2_with fail
    refine (refAlikeF_ok _ _ _ _ (flA xs ys m) W12 (by omega) HF12.out HG12.out).mono ?_
    rintro e W13 ⟨rfl, hbc⟩
    have HS13 := Lib.hid (HS12.out.next hbc)
    clear hbc HS12 HF12 HG12 hfl
    go_wp2_with fail
    refine (tieKnown _).mono ?_
    rintro e WK ⟨rfl, hbk⟩
    have Hend := Lib.hid (show Below w.heap.size w WK from HS13.out.b.trans (hbk.mono (HS13.out.b).size))
    clear hbk
    go_wp2_with fail
    go_ret
    exact ⟨rfl, Hend.out⟩
end Go.Proofs.Ytdmgffoikebgkaa
