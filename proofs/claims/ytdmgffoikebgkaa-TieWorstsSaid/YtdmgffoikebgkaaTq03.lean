/- TieWorsts: its walks. -/
import Derived.Deep.DeepCutAuto
import Derived.Deep.QuietTactic
import Derived.BigQuiet
import Derived.Deep.RegionHeld3
import Derived.Test.YtdmgffoikebgkaaTb01
import Derived.Test.YtdmgffoikebgkaaTb02
import Derived.Test.YtdmgffoikebgkaaTb03
import Derived.Test.YtdmgffoikebgkaaTb04
import Derived.Test.YtdmgffoikebgkaaTb05
import Derived.Test.YtdmgffoikebgkaaTb06
import Derived.Test.YtdmgffoikebgkaaTb07
import Derived.Test.YtdmgffoikebgkaaTb08
import Derived.Test.YtdmgffoikebgkaaTb09
import Derived.Test.YtdmgffoikebgkaaTb10
import Derived.Test.YtdmgffoikebgkaaTb11
import Derived.Test.YtdmgffoikebgkaaTb12
import Derived.Test.YtdmgffoikebgkaaTb13
import Derived.Test.YtdmgffoikebgkaaTb14
import Derived.Test.YtdmgffoikebgkaaTb15
import Derived.Test.YtdmgffoikebgkaaTb16
import Derived.Test.YtdmgffoikebgkaaTb17
import Derived.Test.YtdmgffoikebgkaaTb18
import Derived.Test.YtdmgffoikebgkaaTb19
import Derived.Test.YtdmgffoikebgkaaTb20
import Derived.Test.YtdmgffoikebgkaaTq02
namespace Go.Proofs.Ytdmgffoikebgkaa
open Go.RowKit Go.Shelf
attribute [local go_sem] Oper.semAt_some

/-- a harness and its copy in memory -/
structure WoS (w : World) (n1 : Int) (p1 : Option Addr) (c1 : Nat) (xs : List Int) (X g q : Nat) (W : World) : Prop where
  za : BoxAt W w.heap.size #[.int .i64 n1, .slice p1 xs.length c1] 26
  ra : Reads W (.slice p1 xs.length c1) xs
  x : BoxAt W X #[.int .i64 n1, .slice (some ⟨g, 0, none⟩) xs.length q] 26
  rx : Reads W (.slice (some ⟨g, 0, none⟩) xs.length q) xs
  b : Below w.heap.size w W
theorem WoS.next {w W W' : World} {n1 : Int} {p1 : Option Addr} {c1 : Nat} {xs : List Int} {X g q : Nat} (h : WoS w n1 p1 c1 xs X g q W) (hb : Below W.heap.size W W') : WoS w n1 p1 c1 xs X g q W' :=
  ⟨h.za.next hb, h.ra.next hb, h.x.next hb, h.rx.next hb, h.b.trans (hb.mono h.b.size)⟩
/-- a harness in memory -/
structure WoZ (w : World) (n1 : Int) (p1 : Option Addr) (c1 : Nat) (xs : List Int) (W : World) : Prop where
  za : BoxAt W w.heap.size #[.int .i64 n1, .slice p1 xs.length c1] 26
  ra : Reads W (.slice p1 xs.length c1) xs
  b : Below w.heap.size w W
theorem WoZ.next {w W W' : World} {n1 : Int} {p1 : Option Addr} {c1 : Nat} {xs : List Int} (h : WoZ w n1 p1 c1 xs W) (hb : Below W.heap.size W W') : WoZ w n1 p1 c1 xs W' :=
  ⟨h.za.next hb, h.ra.next hb, h.b.trans (hb.mono h.b.size)⟩
theorem WoZ.large {w W : World} {n1 : Int} {p1 : Option Addr} {c1 : Nat} {xs : List Int} (_h : WoZ w n1 p1 c1 xs W) (hl : xs.length ≤ 110) :
    Calls Try.prog 27 #[.agg #[.int .i64 n1, .slice p1 xs.length c1], .agg #[.int .i64 0, .slice none 0 0], .slice none 0 0] W fun e w' => e = .returned (.bool false) ∧ Below W.heap.size W w' := by
  have H := tieLarge_any n1 p1 c1 xs.length W
  rwa [decide_eq_false (show ¬ 110 < xs.length by omega)] at H
set_option maxRecDepth 100000 in
set_option maxHeartbeats 2000000 in
theorem TieWorsts_large (n1 bd : Int) (p1 : Option Addr) (c1 l1 : Nat) (w : World) (hl : 110 < l1) :
    Calls Try.prog 8 #[.agg #[.int .i64 n1, .slice p1 l1 c1], .int .i64 bd] w fun e w' => e = .returned (.bool true) ∧ Below w.heap.size w w' := by
  obtain ⟨w0, hw0⟩ : ∃ w0, w0 = w.alloc (.cells #[.int .i64 n1, .slice p1 l1 c1] 26) := ⟨_, rfl⟩
  have hb0 : Below w.heap.size w w0 := by rw [hw0]; exact (Below.refl _ _).alloc (Nat.le_refl _) _
  have hA : BoxAt w0 w.heap.size #[.int .i64 n1, .slice p1 l1 c1] 26 := by rw [hw0]; exact BoxAt.new w _ _
  have HW0 := Lib.hid hw0
  have Hb0 := Lib.hid hb0
  have HA := Lib.hid hA
  clear hw0 hb0 hA
  go_enter Try.func8, Try.ntmps8
  go_upto_region 1 with fail
  rw [← HW0.out]
  have a0 := HA.out.cell' 0 rfl
  have a1 := HA.out.cell' 1 rfl
  go_wp2_with fail
  refine (refCheck3_big n1 p1 c1 l1 w0 (by omega)).mono ?_
  rintro e W1 ⟨⟨k, rfl, hk⟩, hb1⟩
  have HA1 := Lib.hid (HA.out.next hb1)
  have Hb1 := Lib.hid (Hb0.out.trans (hb1.mono Hb0.out.size))
  have hb : (k == 0) = false := by simp [hk]
  clear hb1 a0 a1 HA Hb0 HW0 hk
  have a0 := HA1.out.cell' 0 rfl
  have a1 := HA1.out.cell' 1 rfl
  have H27 := tieLarge_any n1 p1 c1 l1 W1
  rw [decide_eq_true hl] at H27
  go_wp2_with fail
  refine H27.mono ?_
  rintro e W2 ⟨rfl, hb2⟩
  have Hb2 := Lib.hid (Hb1.out.trans (hb2.mono Hb1.out.size))
  clear hb2 H27 a0 a1
  go_wp2_with fail
  refine (tieKnown _).mono ?_
  rintro e WK ⟨rfl, hbk⟩
  have Hend := Lib.hid (show Below w.heap.size w WK from Hb2.out.trans (hbk.mono (Hb2.out).size))
  clear hbk
  go_wp2_with fail
  go_ret
  exact ⟨rfl, Hend.out⟩
set_option maxRecDepth 100000 in
set_option maxHeartbeats 8000000 in
theorem TieWorsts_err (n1 bd k : Int) (p1 : Option Addr) (c1 : Nat) (xs : List Int) (w : World) (hr1 : Reads w (.slice p1 xs.length c1) xs) (hl : xs.length ≤ 110) (hk : chkT n1 xs = k) (h0 : k ≠ 0) :
    Calls Try.prog 8 #[.agg #[.int .i64 n1, .slice p1 xs.length c1], .int .i64 bd] w fun e w' => e = .returned (.bool true) ∧ Below w.heap.size w w' := by
  have HK := Lib.hid hk
  have H0 := Lib.hid h0
  clear hk h0
  obtain ⟨w0, hw0⟩ : ∃ w0, w0 = w.alloc (.cells #[.int .i64 n1, .slice p1 xs.length c1] 26) := ⟨_, rfl⟩
  have hb0 : Below w.heap.size w w0 := by rw [hw0]; exact (Below.refl _ _).alloc (Nat.le_refl _) _
  have HZ0 := Lib.hid (show WoZ w n1 p1 c1 xs w0 from ⟨by rw [hw0]; exact BoxAt.new w _ _, hr1.next hb0, hb0⟩)
  have HW0 := Lib.hid hw0
  have H33 := refCheck3_any n1 _ xs w0 HZ0.out.ra
  rw [HK.out] at H33
  have a0 := HZ0.out.za.cell' 0 rfl
  have a1 := HZ0.out.za.cell' 1 rfl
  clear hw0 hb0 hr1
  go_enter Try.func8, Try.ntmps8
  go_upto_region 1 with fail
  rw [← HW0.out]
  go_wp2_with fail
  refine H33.mono ?_
  rintro e W1 ⟨rfl, hbc⟩
  have HZ1 := Lib.hid (HZ0.out.next hbc)
  clear hbc HZ0 HW0 a0 a1 H33
  have hb : (k == 0) = false := by simp [H0.out]
  have a0 := HZ1.out.za.cell' 0 rfl
  have a1 := HZ1.out.za.cell' 1 rfl
  have H27 := HZ1.out.large hl
  go_wp2_with fail
  refine H27.mono ?_
  rintro e W3 ⟨rfl, hbc⟩
  have HZ3 := Lib.hid (HZ1.out.next hbc)
  clear hbc HZ1 a0 a1 H27
  have a0 := HZ3.out.za.cell' 0 rfl
  have a1 := HZ3.out.za.cell' 1 rfl
  go_upto_region 6 with fail
  go_wp2_with fail
  refine (tieOwn_any n1 _ c1 xs W3 (by omega) HZ3.out.ra).mono ?_
  rintro e W4 ⟨g4, q4, rfl, hr4, hg4, hg5, hbc⟩
  have HZ4 := Lib.hid (HZ3.out.next hbc)
  have HR4 := Lib.hid hr4
  clear hbc HZ3 a0 a1 hr4 hg4 hg5
  go_upto_region 7 with fail
  obtain ⟨W5, hW5⟩ : ∃ W5, W5 = W4.alloc (.cells #[.int .i64 n1, .slice (some ⟨g4, 0, none⟩) xs.length q4] 26) := ⟨_, rfl⟩
  have hb5 : Below W4.heap.size W4 W5 := by rw [hW5]; exact (Below.refl _ _).alloc (Nat.le_refl _) _
  have HS5 := Lib.hid (show WoS w n1 p1 c1 xs W4.heap.size g4 q4 W5 from ⟨HZ4.out.za.next hb5, HZ4.out.ra.next hb5, by rw [hW5]; exact BoxAt.new _ _ _, HR4.out.next hb5, (HZ4.out.next hb5).b⟩)
  obtain ⟨X, hX⟩ : ∃ X, W4.heap.size = X := ⟨_, rfl⟩
  rw [← hW5]
  rw [hX] at HS5 ⊢
  clear hb5 hW5 hX HZ4 HR4
  have x0 := HS5.out.x.cell' 0 rfl
  have x1 := HS5.out.x.cell' 1 rfl
  have H58 := tieWorst_err n1 bd k _ _ xs W5 HS5.out.rx HK.out H0.out
  go_wp2_with fail
  refine H58.mono ?_
  rintro e W6 ⟨rfl, hbc⟩
  have HS6 := Lib.hid (HS5.out.next hbc)
  clear hbc HS5 x0 x1 H58
  have x0 := HS6.out.x.cell' 0 rfl
  have x1 := HS6.out.x.cell' 1 rfl
  have a0 := HS6.out.za.cell' 0 rfl
  have a1 := HS6.out.za.cell' 1 rfl
  go_wp2_with fail
  refine (refSame3_eq n1 _ _ _ _ xs W6 (by omega) HS6.out.rx HS6.out.ra).mono ?_
  rintro e W7 ⟨rfl, hbc⟩
  have HS7 := Lib.hid (HS6.out.next hbc)
  clear hbc HS6 x0 x1 a0 a1
  have hb2 : (k != 0) = true := by simp [H0.out]
  go_wp2_with fail
  refine (tieKnown _).mono ?_
  rintro e WK ⟨rfl, hbk⟩
  have Hend := Lib.hid (show Below w.heap.size w WK from HS7.out.b.trans (hbk.mono (HS7.out.b).size))
  clear hbk
  go_wp2_with fail
  go_ret
  exact ⟨rfl, Hend.out⟩
set_option maxRecDepth 100000 in
set_option maxHeartbeats 8000000 in
theorem TieWorsts_range (n1 bd : Int) (p1 : Option Addr) (c1 : Nat) (xs : List Int) (w : World) (hr1 : Reads w (.slice p1 xs.length c1) xs) (hl : xs.length ≤ 110) (hk : chkT n1 xs = 0) (hm : ¬ (1 ≤ bd ∧ bd ≤ 24)) :
    Calls Try.prog 8 #[.agg #[.int .i64 n1, .slice p1 xs.length c1], .int .i64 bd] w fun e w' => e = .returned (.bool true) ∧ Below w.heap.size w w' := by
  have HK := Lib.hid hk
  have HM := Lib.hid hm
  clear hk hm
  obtain ⟨w0, hw0⟩ : ∃ w0, w0 = w.alloc (.cells #[.int .i64 n1, .slice p1 xs.length c1] 26) := ⟨_, rfl⟩
  have hb0 : Below w.heap.size w w0 := by rw [hw0]; exact (Below.refl _ _).alloc (Nat.le_refl _) _
  have HZ0 := Lib.hid (show WoZ w n1 p1 c1 xs w0 from ⟨by rw [hw0]; exact BoxAt.new w _ _, hr1.next hb0, hb0⟩)
  have HW0 := Lib.hid hw0
  have H33 := refCheck3_any n1 _ xs w0 HZ0.out.ra
  rw [HK.out] at H33
  have a0 := HZ0.out.za.cell' 0 rfl
  have a1 := HZ0.out.za.cell' 1 rfl
  clear hw0 hb0 hr1
  go_enter Try.func8, Try.ntmps8
  go_upto_region 1 with fail
  rw [← HW0.out]
  go_wp2_with fail
  refine H33.mono ?_
  rintro e W1 ⟨rfl, hbc⟩
  have HZ1 := Lib.hid (HZ0.out.next hbc)
  clear hbc HZ0 HW0 a0 a1 H33
  have H44 := refIn3_any bd 1 24 W1
  rw [show (decide (1 ≤ bd) && decide (bd ≤ 24)) = false by have := HM.out; simp; omega] at H44
  go_wp2_with fail
  refine H44.mono ?_
  rintro e W2 ⟨rfl, rfl⟩
  clear H44
  have a0 := HZ1.out.za.cell' 0 rfl
  have a1 := HZ1.out.za.cell' 1 rfl
  have H27 := HZ1.out.large hl
  go_wp2_with fail
  refine H27.mono ?_
  rintro e W3 ⟨rfl, hbc⟩
  have HZ3 := Lib.hid (HZ1.out.next hbc)
  clear hbc HZ1 a0 a1 H27
  have a0 := HZ3.out.za.cell' 0 rfl
  have a1 := HZ3.out.za.cell' 1 rfl
  go_upto_region 6 with fail
  go_wp2_with fail
  refine (tieOwn_any n1 _ c1 xs W3 (by omega) HZ3.out.ra).mono ?_
  rintro e W4 ⟨g4, q4, rfl, hr4, hg4, hg5, hbc⟩
  have HZ4 := Lib.hid (HZ3.out.next hbc)
  have HR4 := Lib.hid hr4
  clear hbc HZ3 a0 a1 hr4 hg4 hg5
  go_upto_region 7 with fail
  obtain ⟨W5, hW5⟩ : ∃ W5, W5 = W4.alloc (.cells #[.int .i64 n1, .slice (some ⟨g4, 0, none⟩) xs.length q4] 26) := ⟨_, rfl⟩
  have hb5 : Below W4.heap.size W4 W5 := by rw [hW5]; exact (Below.refl _ _).alloc (Nat.le_refl _) _
  have HS5 := Lib.hid (show WoS w n1 p1 c1 xs W4.heap.size g4 q4 W5 from ⟨HZ4.out.za.next hb5, HZ4.out.ra.next hb5, by rw [hW5]; exact BoxAt.new _ _ _, HR4.out.next hb5, (HZ4.out.next hb5).b⟩)
  obtain ⟨X, hX⟩ : ∃ X, W4.heap.size = X := ⟨_, rfl⟩
  rw [← hW5]
  rw [hX] at HS5 ⊢
  clear hb5 hW5 hX HZ4 HR4
  have x0 := HS5.out.x.cell' 0 rfl
  have x1 := HS5.out.x.cell' 1 rfl
  have H58 := tieWorst_range n1 bd _ _ xs W5 HS5.out.rx HK.out HM.out
  go_wp2_with fail
  refine H58.mono ?_
  rintro e W6 ⟨rfl, hbc⟩
  have HS6 := Lib.hid (HS5.out.next hbc)
  clear hbc HS5 x0 x1 H58
  have x0 := HS6.out.x.cell' 0 rfl
  have x1 := HS6.out.x.cell' 1 rfl
  have a0 := HS6.out.za.cell' 0 rfl
  have a1 := HS6.out.za.cell' 1 rfl
  go_wp2_with fail
  refine (refSame3_eq n1 _ _ _ _ xs W6 (by omega) HS6.out.rx HS6.out.ra).mono ?_
  rintro e W7 ⟨rfl, hbc⟩
  have HS7 := Lib.hid (HS6.out.next hbc)
  clear hbc HS6 x0 x1 a0 a1
  go_wp2_with fail
  refine (tieKnown _).mono ?_
  rintro e WK ⟨rfl, hbk⟩
  have Hend := Lib.hid (show Below w.heap.size w WK from HS7.out.b.trans (hbk.mono (HS7.out.b).size))
  clear hbk
  go_wp2_with fail
  go_ret
  exact ⟨rfl, Hend.out⟩
set_option maxRecDepth 100000 in
set_option maxHeartbeats 8000000 in
theorem TieWorsts_big (n : Nat) (bd : Int) (p1 : Option Addr) (c1 : Nat) (xs : List Int) (w : World) (hr1 : Reads w (.slice p1 xs.length c1) xs) (hl : xs.length ≤ 110) (hk : chkT (n : Int) xs = 0) (hm : 1 ≤ bd ∧ bd ≤ 24) (hg : 10 < n ∨ 40 < xs.length) :
    Calls Try.prog 8 #[.agg #[.int .i64 (n : Int), .slice p1 xs.length c1], .int .i64 bd] w fun e w' => e = .returned (.bool true) ∧ Below w.heap.size w w' := by
  have HK := Lib.hid hk
  have HM := Lib.hid hm
  have HG := Lib.hid hg
  clear hk hm hg
  obtain ⟨w0, hw0⟩ : ∃ w0, w0 = w.alloc (.cells #[.int .i64 (n : Int), .slice p1 xs.length c1] 26) := ⟨_, rfl⟩
  have hb0 : Below w.heap.size w w0 := by rw [hw0]; exact (Below.refl _ _).alloc (Nat.le_refl _) _
  have HZ0 := Lib.hid (show WoZ w (n : Int) p1 c1 xs w0 from ⟨by rw [hw0]; exact BoxAt.new w _ _, hr1.next hb0, hb0⟩)
  have HW0 := Lib.hid hw0
  have H33 := refCheck3_any (n : Int) _ xs w0 HZ0.out.ra
  rw [HK.out] at H33
  have a0 := HZ0.out.za.cell' 0 rfl
  have a1 := HZ0.out.za.cell' 1 rfl
  clear hw0 hb0 hr1
  go_enter Try.func8, Try.ntmps8
  go_upto_region 1 with fail
  rw [← HW0.out]
  go_wp2_with fail
  refine H33.mono ?_
  rintro e W1 ⟨rfl, hbc⟩
  have HZ1 := Lib.hid (HZ0.out.next hbc)
  clear hbc HZ0 HW0 a0 a1 H33
  have H44 := refIn3_any bd 1 24 W1
  rw [show (decide (1 ≤ bd) && decide (bd ≤ 24)) = true by have := HM.out; simp; omega] at H44
  go_wp2_with fail
  refine H44.mono ?_
  rintro e W2 ⟨rfl, rfl⟩
  clear H44
  have a0 := HZ1.out.za.cell' 0 rfl
  have a1 := HZ1.out.za.cell' 1 rfl
  have H27 := HZ1.out.large hl
  
  go_wp2_with fail
  refine H27.mono ?_
  rintro e W3 ⟨rfl, hbc⟩
  have HZ3 := Lib.hid (HZ1.out.next hbc)
  clear hbc HZ1 a0 a1 H27
  have a0 := HZ3.out.za.cell' 0 rfl
  have a1 := HZ3.out.za.cell' 1 rfl
  by_cases h10 : 10 < n
  · have hd : decide ((10 : Int) < (n : Int)) = true := decide_eq_true (by omega)
    have hd2 : decide (10 < n) = true := decide_eq_true h10
    clear h10
    go_wp2_with fail
    refine (tieKnown _).mono ?_
    rintro e WK ⟨rfl, hbk⟩
    have Hend := Lib.hid (show Below w.heap.size w WK from HZ3.out.b.trans (hbk.mono (HZ3.out.b).size))
    clear hbk
    go_wp2_with fail
    go_ret
    exact ⟨rfl, Hend.out⟩
  · have hd : decide ((10 : Int) < (n : Int)) = false := decide_eq_false (by omega)
    have hd2 : decide (10 < n) = false := decide_eq_false h10
    have h40 : 40 < xs.length := by rcases HG.out with h | h <;> omega
    have hd3 : decide ((40 : Int) < (xs.length : Int)) = true := decide_eq_true (by omega)
    have hd4 : decide (40 < xs.length) = true := decide_eq_true h40
    clear h10 h40
    go_wp2_with fail
    refine (tieKnown _).mono ?_
    rintro e WK ⟨rfl, hbk⟩
    have Hend := Lib.hid (show Below w.heap.size w WK from HZ3.out.b.trans (hbk.mono (HZ3.out.b).size))
    clear hbk
    go_wp2_with fail
    go_ret
    exact ⟨rfl, Hend.out⟩
set_option maxRecDepth 100000 in
set_option maxHeartbeats 8000000 in
theorem TieWorsts_good (n m : Nat) (p1 : Option Addr) (c1 : Nat) (xs : List Int) (w : World) (hr1 : Reads w (.slice p1 xs.length c1) xs) (hl : xs.length ≤ 110) (hk : chkT (n : Int) xs = 0) (hm : 1 ≤ m ∧ m ≤ 24) (hg : n ≤ 10 ∧ xs.length ≤ 40) :
    Calls Try.prog 8 #[.agg #[.int .i64 (n : Int), .slice p1 xs.length c1], .int .i64 (m : Int)] w fun e w' => e = .returned (.bool true) ∧ Below w.heap.size w w' := by
  have HK := Lib.hid hk
  have HM := Lib.hid hm
  have HG := Lib.hid hg
  clear hk hm hg
  obtain ⟨w0, hw0⟩ : ∃ w0, w0 = w.alloc (.cells #[.int .i64 (n : Int), .slice p1 xs.length c1] 26) := ⟨_, rfl⟩
  have hb0 : Below w.heap.size w w0 := by rw [hw0]; exact (Below.refl _ _).alloc (Nat.le_refl _) _
  have HZ0 := Lib.hid (show WoZ w (n : Int) p1 c1 xs w0 from ⟨by rw [hw0]; exact BoxAt.new w _ _, hr1.next hb0, hb0⟩)
  have HW0 := Lib.hid hw0
  have H33 := refCheck3_any (n : Int) _ xs w0 HZ0.out.ra
  rw [HK.out] at H33
  have a0 := HZ0.out.za.cell' 0 rfl
  have a1 := HZ0.out.za.cell' 1 rfl
  clear hw0 hb0 hr1
  go_enter Try.func8, Try.ntmps8
  go_upto_region 1 with fail
  rw [← HW0.out]
  go_wp2_with fail
  refine H33.mono ?_
  rintro e W1 ⟨rfl, hbc⟩
  have HZ1 := Lib.hid (HZ0.out.next hbc)
  clear hbc HZ0 HW0 a0 a1 H33
  have H44 := refIn3_any (m : Int) 1 24 W1
  rw [show (decide (1 ≤ (m : Int)) && decide ((m : Int) ≤ 24)) = true by have := HM.out; simp; omega] at H44
  go_wp2_with fail
  refine H44.mono ?_
  rintro e W2 ⟨rfl, rfl⟩
  clear H44
  have a0 := HZ1.out.za.cell' 0 rfl
  have a1 := HZ1.out.za.cell' 1 rfl
  have H27 := HZ1.out.large hl
  
  go_wp2_with fail
  refine H27.mono ?_
  rintro e W3 ⟨rfl, hbc⟩
  have HZ3 := Lib.hid (HZ1.out.next hbc)
  clear hbc HZ1 a0 a1 H27
  have a0 := HZ3.out.za.cell' 0 rfl
  have a1 := HZ3.out.za.cell' 1 rfl
  have hd : decide ((10 : Int) < (n : Int)) = false := decide_eq_false (by have := HG.out; omega)
  have hd2 : decide (10 < n) = false := decide_eq_false (by have := HG.out; omega)
  have hd3 : decide ((40 : Int) < (xs.length : Int)) = false := decide_eq_false (by have := HG.out; omega)
  have hd4 : decide (40 < xs.length) = false := decide_eq_false (by have := HG.out; omega)
  go_upto_region 6 with fail
  go_wp2_with fail
  refine (tieOwn_any (n : Int) _ c1 xs W3 (by omega) HZ3.out.ra).mono ?_
  rintro e W4 ⟨g4, q4, rfl, hr4, hg4, hg5, hbc⟩
  have HZ4 := Lib.hid (HZ3.out.next hbc)
  have HR4 := Lib.hid hr4
  clear hbc HZ3 a0 a1 hr4 hg4 hg5
  go_upto_region 7 with fail
  obtain ⟨W5, hW5⟩ : ∃ W5, W5 = W4.alloc (.cells #[.int .i64 (n : Int), .slice (some ⟨g4, 0, none⟩) xs.length q4] 26) := ⟨_, rfl⟩
  have hb5 : Below W4.heap.size W4 W5 := by rw [hW5]; exact (Below.refl _ _).alloc (Nat.le_refl _) _
  have HS5 := Lib.hid (show WoS w (n : Int) p1 c1 xs W4.heap.size g4 q4 W5 from ⟨HZ4.out.za.next hb5, HZ4.out.ra.next hb5, by rw [hW5]; exact BoxAt.new _ _ _, HR4.out.next hb5, (HZ4.out.next hb5).b⟩)
  obtain ⟨X, hX⟩ : ∃ X, W4.heap.size = X := ⟨_, rfl⟩
  rw [← hW5]
  rw [hX] at HS5 ⊢
  clear hb5 hW5 hX HZ4 HR4
  have x0 := HS5.out.x.cell' 0 rfl
  have x1 := HS5.out.x.cell' 1 rfl
  have H58 := call58g (n : Int) m _ _ xs W5 HS5.out.rx HK.out HM.out.1 HM.out.2
  go_wp2_with fail
  refine H58.mono ?_
  rintro e W6 ⟨⟨lo, row, hR, hW⟩, hbc⟩
  rw [Int.toNat_natCast] at hR
  have HR := Lib.hid hR
  have HS6 := Lib.hid (HS5.out.next hbc)
  clear hbc HS5 x0 x1 H58 hR
  have HE := Lib.hid (show ∀ V, WsT (hkN xs) n m (2 ^ n) V → V = if lo = 0 then 0 else worV xs.length lo from fun V h => by
    have hR := HR.out
    have e : (hkN xs).length = xs.length := hkN_len xs
    rw [← e] at hR ⊢
    exact h.end hR (by have := HG.out; omega) (by have := HG.out; omega) (by rw [e]; exact (chkT_ok HK.out).2.2.1) (fun i hi => by have := (hkN_nth HK.out (by rw [← e]; exact hi)).2; omega))
  rcases hW with ⟨hlo, rfl⟩ | ⟨hlo, rfl⟩
  · have HE0 := Lib.hid (show ∀ V, WsT (hkN xs) n m (2 ^ n) V → V = 0 from fun V h => by rw [HE.out V h, if_pos hlo])
    clear HE
    have x0 := HS6.out.x.cell' 0 rfl
    have x1 := HS6.out.x.cell' 1 rfl
    have a0 := HS6.out.za.cell' 0 rfl
    have a1 := HS6.out.za.cell' 1 rfl
    go_wp2_with fail
    refine (refSame3_eq (n : Int) _ _ _ _ xs W6 (by omega) HS6.out.rx HS6.out.ra).mono ?_
    rintro e W7 ⟨rfl, hbc⟩
    have HS7 := Lib.hid (HS6.out.next hbc)
    clear hbc HS6 x0 x1 a0 a1
    have a0 := HS7.out.za.cell' 0 rfl
    have a1 := HS7.out.za.cell' 1 rfl
    go_wp2_with fail
    refine (refWorst3_ok n m _ _ xs W7 HS7.out.ra HK.out HG.out.1 (by have := HM.out; omega)).mono ?_
    rintro e W8 ⟨⟨V, rfl, hV⟩, hbc⟩
    have HS8 := Lib.hid (HS7.out.next hbc)
    obtain rfl := HE0.out V hV
    clear hbc hV HS7 a0 a1 HE0
    go_wp2_with fail
    refine (tieKnown _).mono ?_
    rintro e WK ⟨rfl, hbk⟩
    have Hend := Lib.hid (show Below w.heap.size w WK from HS8.out.b.trans (hbk.mono (HS8.out.b).size))
    clear hbk
    go_wp2_with fail
    go_ret
    exact ⟨rfl, Hend.out⟩
  · obtain ⟨z, hz⟩ : ∃ z, worV xs.length lo = z := ⟨_, rfl⟩
    have HE0 := Lib.hid (show ∀ V, WsT (hkN xs) n m (2 ^ n) V → V = z from fun V h => by rw [HE.out V h, if_neg hlo, hz])
    have hz0 : ((z : Int) == 0) = false := by
      rw [beq_eq_false_iff_ne]
      have : z ≠ 0 := by rw [← hz]; unfold worV; split <;> omega
      omega
    have hRl : WoR (hkN xs) n m (hkN xs).length lo row := by rw [hkN_len]; exact HR.out
    have hkk : ∀ i, i < (hkN xs).length → nthN (hkN xs) i < n := fun i hi => by have := (hkN_nth HK.out (by rw [← hkN_len xs]; exact hi)).2; omega
    have hn24 : n ≤ 24 := by have := HG.out; omega
    obtain ⟨hrw, hbd, _⟩ := wor_row hRl hn24 hkk hlo
    have hlr := long_row hRl hn24 (by rw [hkN_len]; omega) hkk hlo
    rw [hkN_len, hz] at hlr
    rw [hz]
    have HLr := Lib.hid hlr
    have Hrw := Lib.hid hrw
    have Hbd := Lib.hid hbd
    clear HE hz hlo hRl hkk hrw hbd hlr
    have x0 := HS6.out.x.cell' 0 rfl
    have x1 := HS6.out.x.cell' 1 rfl
    have a0 := HS6.out.za.cell' 0 rfl
    have a1 := HS6.out.za.cell' 1 rfl
    go_wp2_with fail
    refine (refSame3_eq (n : Int) _ _ _ _ xs W6 (by omega) HS6.out.rx HS6.out.ra).mono ?_
    rintro e W7 ⟨rfl, hbc⟩
    have HS7 := Lib.hid (HS6.out.next hbc)
    clear hbc HS6 x0 x1 a0 a1
    have a0 := HS7.out.za.cell' 0 rfl
    have a1 := HS7.out.za.cell' 1 rfl
    go_wp2_with fail
    refine (refWorst3_ok n m _ _ xs W7 HS7.out.ra HK.out HG.out.1 (by have := HM.out; omega)).mono ?_
    rintro e W8 ⟨⟨V, rfl, hV⟩, hbc⟩
    have HS8 := Lib.hid (HS7.out.next hbc)
    rw [HE0.out V hV]
    clear hbc hV HS7 a0 a1 HE0
    obtain ⟨P, hP⟩ : ∃ P, 2 ^ n = P := ⟨_, rfl⟩
    have hPl : P ≤ 1024 := by rw [← hP]; exact Nat.pow_le_pow_right (by decide : 2 > 0) HG.out.1
    have hPi : (2 : Int) ^ n = (P : Int) := by rw [← hP]; exact (Int.natCast_pow 2 n).symm
    have hrP : row < P := by rw [← hP]; exact Hrw.out
    have hw1 : IntKind.i64.wrap ((2 : Int) ^ n) = (P : Int) := by rw [hPi]; exact IntWalk.i64_in _ (by omega)
    have hw2 : IntKind.i64.wrap ((P : Int) - 1) = (P : Int) - 1 := IntWalk.i64_in _ (by omega)
    have hu : IntKind.u64.wrap (n : Int) = (n : Int) := IntWalk.u64_in _ (by omega)
    have hmn : min n 64 = n := by omega
    have H44 := refIn3_any (row : Int) 0 ((P : Int) - 1) W8
    rw [show (decide (0 ≤ (row : Int)) && decide ((row : Int) ≤ (P : Int) - 1)) = true by simp; omega] at H44
    have hn0 : 1 ≤ n := by have := (chkT_ok HK.out).1; omega
    have a0 := HS8.out.za.cell' 0 rfl
    have a1 := HS8.out.za.cell' 1 rfl
    clear hP hPi hPl hrP
    go_wp2_with fail
    refine H44.mono ?_
    rintro e W9 ⟨rfl, rfl⟩
    clear hw1 hw2 hu hmn H44
    go_wp2_with fail
    refine (refBound_any n row m _ hn0 hn24 Hrw.out (by have := HM.out; omega)).mono ?_
    rintro e W10 ⟨bb, rfl, hbb, hbc⟩
    have HS10 := Lib.hid (HS8.out.next hbc)
    obtain rfl : bb = true := hbb.2 Hbd.out
    clear hbc hbb HS8 a0 a1
    go_upto_region 19 with fail
    refine region_wr19 w.heap.size xs.length c1 row z (n : Int) p1 (clothS (hkN xs) [row]) (fun g c W hb hc => call42r (n : Int) row p1 c1 g c xs W (HS10.out.ra.next hb) HK.out (by rw [Int.toNat_natCast]; exact Hrw.out) hc) (fun g c W hs hg => by have H := call61r (n : Int) row g c xs W HK.out hs hg; rw [HLr.out] at H; exact H) HS10.out.za rfl ?hops (by kernel_rfl) (by kernel_rfl) (by kernel_rfl) (by kernel_rfl) ?hsz ?hout ?hend
    case hops => exact ⟨⟨_, _, _, rfl, by kernel_rfl⟩, ⟨_, _, _, rfl, by kernel_rfl⟩, ⟨_, _, _, rfl, by kernel_rfl⟩, ⟨_, _, _, rfl, by kernel_rfl⟩, ⟨_, _, _, rfl, by kernel_rfl⟩, ⟨_, _, _, rfl, by kernel_rfl⟩, ⟨_, _, _, rfl, by kernel_rfl⟩, ⟨_, _, _, rfl, by kernel_rfl⟩, ⟨_, _, _, rfl, by kernel_rfl⟩, ⟨_, _, _, rfl, by kernel_rfl⟩, ⟨_, _, _, rfl, by kernel_rfl⟩, ⟨_, _, _, rfl, by kernel_rfl⟩, ⟨_, _, _, rfl, by kernel_rfl⟩, ⟨_, _, _, rfl, by kernel_rfl⟩⟩
    case hsz => intro d hd; simp only [List.mem_cons, List.not_mem_nil, or_false] at hd; show d < 113; omega
    case hout => exact ⟨rfl, rfl, rfl⟩
    case hend =>
      intro g104 q104 G104 Q104 g106 q106 G106 Q106 P104 P106 u100 u101 u102 u103 u104 u105 u106 u107 u108 u109 u110 u111 u112 W11 hb11 hm104 hB104 hm106 hB106
      simp only [putL, List.foldl, Act.put, List.setIfInBounds_toArray, List.set_cons_succ, List.set_cons_zero]
      have HS11 := Lib.hid (HS10.out.next hb11)
      clear hb11 hm104 hB104 hm106 hB106 HS10
      go_wp2_with fail
      go_ret
      exact ⟨rfl, HS11.out.b⟩
end Go.Proofs.Ytdmgffoikebgkaa
