/- Chapter 3: Weave and Floats, their errors. -/
import Derived.Test.YtdmgffoikebgkaaTb01
import Derived.Test.YtdmgffoikebgkaaTb02
import Derived.Test.YtdmgffoikebgkaaTb03
import Derived.Test.YtdmgffoikebgkaaTb04
import Derived.Test.YtdmgffoikebgkaaTb05
import Derived.Test.YtdmgffoikebgkaaTb06
import Derived.Test.YtdmgffoikebgkaaTb07
import Derived.Test.YtdmgffoikebgkaaTb08
import Derived.Test.YtdmgffoikebgkaaTb09
import Derived.Test.YtdmgffoikebgkaaTb10
import Derived.Test.YtdmgffoikebgkaaTb11
import Derived.Test.YtdmgffoikebgkaaTb12
import Derived.Test.YtdmgffoikebgkaaTb13
import Derived.Test.YtdmgffoikebgkaaTb14
import Derived.Test.YtdmgffoikebgkaaTb15
import Derived.Test.YtdmgffoikebgkaaTb16
import Derived.Test.YtdmgffoikebgkaaTb17
import Derived.Test.YtdmgffoikebgkaaTb18
import Derived.Test.YtdmgffoikebgkaaTb19
import Derived.Test.YtdmgffoikebgkaaTb20
import Derived.Test.YtdmgffoikebgkaaTp01
import Derived.Deep.RegionLaw
import Derived.Deep.DeepCutAuto
namespace Go.Proofs.Ytdmgffoikebgkaa
open Go.RowKit Go.Shelf
attribute [local go_sem] Oper.semAt_some

set_option maxRecDepth 100000 in
set_option maxHeartbeats 1000000 in
theorem tieWeave_err (n1 n2 : Int) (k : Int) (p1 p2 : Option Addr) (c1 c2 : Nat) (xs ys : List Int) (w : World) (hr1 : Reads w (.slice p1 xs.length c1) xs) (hr2 : Reads w (.slice p2 ys.length c2) ys) (hk : wovE n1 n2 xs ys = k) (h0 : k ≠ 0) :
    Calls Try.prog 38 #[.agg #[.int .i64 n1, .slice p1 xs.length c1], .agg #[.int .i64 n2, .slice p2 ys.length c2]] w fun e w' => e = .returned (.tuple #[.slice none 0 0, .int .i64 k]) ∧ Below w.heap.size w w' := by
  obtain ⟨w0, hw0⟩ : ∃ w0, w0 = (w.alloc (.cells #[.int .i64 n1, .slice p1 xs.length c1] 26)).alloc (.cells #[.int .i64 n2, .slice p2 ys.length c2] 37) := ⟨_, rfl⟩
  have hb0 : Below w.heap.size w w0 := by rw [hw0]; exact ((Below.refl _ _).alloc (Nat.le_refl _) _).alloc (by simp) _
  have hA : BoxAt w0 w.heap.size #[.int .i64 n1, .slice p1 xs.length c1] 26 := by rw [hw0]; exact (BoxAt.new w _ _).next ((Below.refl _ _).alloc (Nat.le_refl _) _)
  have hP : BoxAt w0 (w.heap.size + 1) #[.int .i64 n2, .slice p2 ys.length c2] 37 := by
    have := BoxAt.new (w.alloc (.cells #[.int .i64 n1, .slice p1 xs.length c1] 26)) #[.int .i64 n2, .slice p2 ys.length c2] 37
    rw [World.size_alloc] at this
    rw [hw0]; exact this
  have HW0 := Lib.hid hw0
  have Hb0 := Lib.hid hb0
  have H1 := checkDesign_any n1 n2 p1 p2 c1 c2 xs ys w0 (hr1.next hb0) (hr2.next hb0)
  rw [hk] at H1
  have a0 := hA.cell' 0 rfl
  have a1 := hA.cell' 1 rfl
  have b0 := hP.cell' 0 rfl
  have b1 := hP.cell' 1 rfl
  have hb : (k != 0) = true := by simp [h0]
  clear hw0 hb0 hA hP hr1 hr2 hk h0
  go_enter Try.func38, Try.ntmps38
  go_upto_region 1 with fail
  rw [← HW0.out]
  go_wp2_with fail
  refine H1.mono ?_
  rintro e W1 ⟨rfl, hb1⟩
  have Hb1 := Lib.hid (Hb0.out.trans (hb1.mono Hb0.out.size))
  clear hb1 a0 a1 b0 b1 H1 Hb0 HW0
  go_wp2_with fail
  go_ret2
  exact ⟨rfl, Hb1.out⟩
set_option maxRecDepth 100000 in
set_option maxHeartbeats 1000000 in
theorem tieFloats_err (n1 n2 m : Int) (k : Int) (p1 p2 : Option Addr) (c1 c2 : Nat) (xs ys : List Int) (w : World) (hr1 : Reads w (.slice p1 xs.length c1) xs) (hr2 : Reads w (.slice p2 ys.length c2) ys) (hk : wovE n1 n2 xs ys = k) (h0 : k ≠ 0) :
    Calls Try.prog 39 #[.agg #[.int .i64 n1, .slice p1 xs.length c1], .agg #[.int .i64 n2, .slice p2 ys.length c2], .int .i64 m] w fun e w' => e = .returned (.tuple #[.slice none 0 0, .int .i64 k]) ∧ Below w.heap.size w w' := by
  obtain ⟨w0, hw0⟩ : ∃ w0, w0 = ((w.alloc (.cells #[.int .i64 n1, .slice p1 xs.length c1] 26)).alloc (.cells #[.int .i64 n2, .slice p2 ys.length c2] 37)).alloc (.cells #[.int .i64 m] 3) := ⟨_, rfl⟩
  have hb0 : Below w.heap.size w w0 := by rw [hw0]; exact (((Below.refl _ _).alloc (Nat.le_refl _) _).alloc (by simp) _).alloc (by simp; omega) _
  have hA : BoxAt w0 w.heap.size #[.int .i64 n1, .slice p1 xs.length c1] 26 := by rw [hw0]; exact ((BoxAt.new w _ _).next ((Below.refl _ _).alloc (Nat.le_refl _) _)).next ((Below.refl _ _).alloc (Nat.le_refl _) _)
  have hP : BoxAt w0 (w.heap.size + 1) #[.int .i64 n2, .slice p2 ys.length c2] 37 := by
    have := BoxAt.new (w.alloc (.cells #[.int .i64 n1, .slice p1 xs.length c1] 26)) #[.int .i64 n2, .slice p2 ys.length c2] 37
    rw [World.size_alloc] at this
    rw [hw0]; exact this.next ((Below.refl _ _).alloc (Nat.le_refl _) _)
  have HW0 := Lib.hid hw0
  have Hb0 := Lib.hid hb0
  have H1 := checkDesign_any n1 n2 p1 p2 c1 c2 xs ys w0 (hr1.next hb0) (hr2.next hb0)
  rw [hk] at H1
  have a0 := hA.cell' 0 rfl
  have a1 := hA.cell' 1 rfl
  have b0 := hP.cell' 0 rfl
  have b1 := hP.cell' 1 rfl
  have hb : (k != 0) = true := by simp [h0]
  clear hw0 hb0 hA hP hr1 hr2 hk h0
  go_enter Try.func39, Try.ntmps39
  go_upto_region 1 with fail
  rw [← HW0.out]
  go_wp2_with fail
  refine H1.mono ?_
  rintro e W1 ⟨rfl, hb1⟩
  have Hb1 := Lib.hid (Hb0.out.trans (hb1.mono Hb0.out.size))
  clear hb1 a0 a1 b0 b1 H1 Hb0 HW0
  go_wp2_with fail
  go_ret2
  exact ⟨rfl, Hb1.out⟩
set_option maxRecDepth 100000 in
set_option maxHeartbeats 1000000 in
theorem tieFloats_range (n1 n2 m : Int) (p1 p2 : Option Addr) (c1 c2 : Nat) (xs ys : List Int) (w : World) (hr1 : Reads w (.slice p1 xs.length c1) xs) (hr2 : Reads w (.slice p2 ys.length c2) ys) (hk : wovE n1 n2 xs ys = 0) (hm : ¬ (0 ≤ m ∧ m ≤ 1000)) :
    Calls Try.prog 39 #[.agg #[.int .i64 n1, .slice p1 xs.length c1], .agg #[.int .i64 n2, .slice p2 ys.length c2], .int .i64 m] w fun e w' => e = .returned (.tuple #[.slice none 0 0, .int .i64 3]) ∧ Below w.heap.size w w' := by
  obtain ⟨w0, hw0⟩ : ∃ w0, w0 = ((w.alloc (.cells #[.int .i64 n1, .slice p1 xs.length c1] 26)).alloc (.cells #[.int .i64 n2, .slice p2 ys.length c2] 37)).alloc (.cells #[.int .i64 m] 3) := ⟨_, rfl⟩
  have hb0 : Below w.heap.size w w0 := by rw [hw0]; exact (((Below.refl _ _).alloc (Nat.le_refl _) _).alloc (by simp) _).alloc (by simp; omega) _
  have hA : BoxAt w0 w.heap.size #[.int .i64 n1, .slice p1 xs.length c1] 26 := by rw [hw0]; exact ((BoxAt.new w _ _).next ((Below.refl _ _).alloc (Nat.le_refl _) _)).next ((Below.refl _ _).alloc (Nat.le_refl _) _)
  have hP : BoxAt w0 (w.heap.size + 1) #[.int .i64 n2, .slice p2 ys.length c2] 37 := by
    have := BoxAt.new (w.alloc (.cells #[.int .i64 n1, .slice p1 xs.length c1] 26)) #[.int .i64 n2, .slice p2 ys.length c2] 37
    rw [World.size_alloc] at this
    rw [hw0]; exact this.next ((Below.refl _ _).alloc (Nat.le_refl _) _)
  have hM : BoxAt w0 (w.heap.size + 2) #[.int .i64 m] 3 := by
    have := BoxAt.new ((w.alloc (.cells #[.int .i64 n1, .slice p1 xs.length c1] 26)).alloc (.cells #[.int .i64 n2, .slice p2 ys.length c2] 37)) #[.int .i64 m] 3
    rw [World.size_alloc, World.size_alloc] at this
    rw [hw0]; exact this
  have HW0 := Lib.hid hw0
  have Hb0 := Lib.hid hb0
  have H1 := checkDesign_any n1 n2 p1 p2 c1 c2 xs ys w0 (hr1.next hb0) (hr2.next hb0)
  rw [hk] at H1
  have a0 := hA.cell' 0 rfl
  have a1 := hA.cell' 1 rfl
  have b0 := hP.cell' 0 rfl
  have b1 := hP.cell' 1 rfl
  have HM := Lib.hid hM
  have Hfr := Lib.hid (show frB 0 1000 [m] = false by simp [frB]; omega)
  clear hw0 hb0 hA hP hM hr1 hr2 hk hm
  go_enter Try.func39, Try.ntmps39
  go_upto_region 1 with fail
  rw [← HW0.out]
  go_wp2_with fail
  refine H1.mono ?_
  rintro e W1 ⟨rfl, hb1⟩
  have Hb1 := Lib.hid (Hb0.out.trans (hb1.mono Hb0.out.size))
  have m0 := (HM.out.next hb1).cell' 0 rfl
  clear hb1 a0 a1 b0 b1 H1 Hb0 HW0 HM
  go_upto_region 4 with fail
  obtain ⟨W2, hW2⟩ : ∃ W2, W2 = W1.alloc (.cells #[.int .i64 m] 3) := ⟨_, rfl⟩
  have hb2 : Below W1.heap.size W1 W2 := by rw [hW2]; exact (Below.refl _ _).alloc (Nat.le_refl _) _
  have H4 := areFrom_any 0 1000 W1.heap.size 0 1 [m] W2 (by simp) (by
    intro i hi
    obtain rfl : i = 0 := by simp at hi; omega
    rw [hW2]; exact (BoxAt.new W1 #[.int .i64 m] 3).cell' 0 rfl)
  rw [Hfr.out] at H4
  have HW2 := Lib.hid hW2
  have Hb2 := Lib.hid (Hb1.out.trans (hb2.mono Hb1.out.size))
  clear hW2 hb2
  go_wp2_with fail
  rw [← HW2.out]
  refine H4.mono ?_
  rintro e W3 ⟨rfl, rfl⟩
  go_wp2_with fail
  go_ret2
  exact ⟨rfl, Hb2.out⟩
end Go.Proofs.Ytdmgffoikebgkaa
/- Chapter 3: the reference compares cloths. -/
namespace Go.Proofs.Ytdmgffoikebgkaa
open Go.RowKit Go.Shelf
attribute [local go_sem] Oper.semAt_some

set_option maxRecDepth 100000 in
set_option maxHeartbeats 1000000 in
theorem refAlike3_ok (L b c b2 c2 : Nat) (ss : List ByteArray) (w : World) (hL : ss.length = L) (hl : L ≤ 1000) (h1 : StrsAt w b 0 ss) (h3 : StrsAt w b2 0 ss) :
    Calls Try.prog 43 #[.slice (some ⟨b, 0, none⟩) L c, .slice (some ⟨b2, 0, none⟩) L c2] w fun e w' => e = .returned (.bool true) ∧ Below w.heap.size w w' := by
  have H1 := Lib.hid h1
  have H3 := Lib.hid h3
  have HL := Lib.hid hL
  clear h1 h3 hL
  go_enter Try.func43, Try.ntmps43
  go_wp2_with fail
  go_loopw [5] (fun i wr => ∃ k : Nat, k ≤ L ∧ i = .int .i64 (k : Int) ∧ Below w.heap.size w wr ∧ StrsAt wr b 0 ss ∧ StrsAt wr b2 0 ss) (fun i _ => L - (intOf i).toNat)
  case atStart => exact ⟨0, Nat.zero_le _, rfl, Below.refl _ _, H1.out, H3.out⟩
  case round =>
    obtain ⟨k, hk, rfl, hb, h1, h3⟩ := hrel
    by_cases hlt : k < L
    · have hc1 := h1 k (by rw [HL.out]; exact hlt)
      have hc3 := h3 k (by rw [HL.out]; exact hlt)
      rw [Nat.zero_add] at hc1 hc3
      have Hr := Lib.hid (And.intro hb (And.intro h1 h3))
      obtain ⟨s, hs⟩ : ∃ s, nthB ss k = s := ⟨_, rfl⟩
      rw [hs] at hc1 hc3
      clear hb h1 h3 hs
      go_wp2_with fail
      go_region
      all_goals
        (go_wp2_with fail
         exact ⟨⟨k + 1, by omega, by go_num, Hr.out.1.drew, Hr.out.2⟩, by simp [intOf]; omega⟩)
    · obtain rfl : k = L := by omega
      have Hb := Lib.hid hb
      go_wp2_with fail
      go_ret
      exact ⟨rfl, Hb.out⟩
end Go.Proofs.Ytdmgffoikebgkaa
/- Chapter 3: the reference's cloth. -/
namespace Go.Proofs.Ytdmgffoikebgkaa
open Go.RowKit Go.Shelf
attribute [local go_sem] Oper.semAt_some

/-- what the reference's Cloth keeps between two rows -/
structure RcS (w : World) (n b off c : Nat) (hs xs : List Nat) (g : Nat) (v : Value) (k : Nat) (W : World) : Prop where
  box : BoxAt W w.heap.size #[.int .i64 (n : Int), .slice (some ⟨b, off, none⟩) hs.length c] 26
  tg : some g ≠ v.ownBlock
  tl : g < W.heap.size
  tab : ∀ i, i < xs.length → ∃ r c', W.cell? ⟨g, i, none⟩ = some (.slice (some ⟨r, 0, none⟩) n c') ∧ some r ≠ v.ownBlock ∧ BoolsAt W r n (fun j => bitN (nthN xs i) j)
  ns : NatsAt W b off hs
  row : W.ownsRow (w.heap.size + 2) 9 1 v k (clothV hs xs k)
  b : Below w.heap.size w W
  sz : w.heap.size + 2 ≤ W.heap.size
theorem RcS.next {w W W' : World} {n b off c : Nat} {hs xs : List Nat} {g : Nat} {v : Value} {k : Nat} (h : RcS w n b off c hs xs g v k W) (hbl : b < w.heap.size) (hb : Below W.heap.size W W') : RcS w n b off c hs xs g v k W' := by
  have h1 := h.b.size
  refine ⟨h.box.next hb, h.tg, Nat.lt_of_lt_of_le h.tl hb.size, fun i hi => ?_, h.ns.below hb (by omega), ownsRow_next h.row hb, h.b.trans (hb.mono h1), Nat.le_trans h.sz hb.size⟩
  obtain ⟨r, c', e1, e2, e3⟩ := h.tab i hi
  exact ⟨r, c', (hb.cell (p := ⟨g, i, none⟩) h.tl).trans e1, e2, e3.below hb e3.lt⟩
theorem RcS.grew {w W W' : World} {n b off c : Nat} {hs xs : List Nat} {g : Nat} {v : Value} {k g5 cap : Nat} (h : RcS w n b off c hs xs g v k W) (hbl : b < w.heap.size)
    (hg : Grew (w.heap.size + 2) 9 1 W W' v g5 cap (k + 1) (clothV hs xs (k + 1))) : RcS w n b off c hs xs g (.slice (some ⟨g5, 0, none⟩) (k + 1) cap) (k + 1) W' := by
  have h1 := h.b.size
  have hbx := h.box.lt
  have hne : ∀ x, x < W.heap.size → some x ≠ v.ownBlock → some x ≠ (Value.slice (some ⟨g5, 0, none⟩) (k + 1) cap).ownBlock := fun x hx hxv => by
    rcases hg.at' with e | e
    · rw [show (Value.slice (some ⟨g5, 0, none⟩) (k + 1) cap).ownBlock = some g5 from rfl, ← e]; exact hxv
    · rw [show (Value.slice (some ⟨g5, 0, none⟩) (k + 1) cap).ownBlock = some g5 from rfl]; simp; omega
  refine ⟨h.box.kept hg.grow (own_far h.row (by omega)), hne g h.tl h.tg, Nat.lt_of_lt_of_le h.tl hg.grow.size, fun i hi => ?_, fun i hi => ?_, hg.row, h.b.grown hg.grow h1 (fun j hj => by have := (ownBlock_ge h.row hj).1; omega), Nat.le_trans h.sz hg.grow.size⟩
  · obtain ⟨r, c', e1, e2, e3⟩ := h.tab i hi
    exact ⟨r, c', (hg.grow.cell_far ⟨g, i, none⟩ h.tl h.tg).trans e1, hne r e3.lt e2, e3.kept hg.grow e2⟩
  · exact (hg.grow.cell_far ⟨b, off + i, none⟩ (show b < W.heap.size by omega) (show some b ≠ v.ownBlock from own_far h.row (by omega))).trans (h.ns i hi)
/-- the beginning of a pick, as long as j warps -/
def pickPre (hs : List Nat) (row j : Nat) : ByteArray := strOfNums ((clothL hs row).take j)
theorem pickPre_zero (hs : List Nat) (row : Nat) : pickPre hs row 0 = ⟨#[]⟩ := by simp [pickPre, strOfNums]
theorem pickPre_all (hs : List Nat) (row : Nat) : pickPre hs row hs.length = pickS hs row := by
  unfold pickPre pickS; rw [List.take_of_length_le (by simp [clothL])]
theorem pickPre_succ (hs : List Nat) (row j : Nat) (h : j < hs.length) : pickPre hs row (j + 1) = pickPre hs row j ++ ⟨#[UInt8.ofNat (clothB hs row j).toNat]⟩ := by
  have e : (clothL hs row).take (j + 1) = (clothL hs row).take j ++ [clothB hs row j] := by
    rw [List.take_add_one]; simp [clothL, h]
  unfold pickPre
  rw [e]
  apply ByteArray.ext
  simp [strOfNums]
theorem pickPre_size (hs : List Nat) (row : Nat) : ∀ j, j ≤ hs.length → (pickPre hs row j).size = j
  | 0, _ => by rw [pickPre_zero]; rfl
  | j + 1, h => by rw [pickPre_succ _ _ _ (by omega), ByteArray.size_append, pickPre_size hs row j (by omega)]; rfl
set_option maxRecDepth 100000 in
set_option maxHeartbeats 2000000 in
theorem refCloth3_ok (n b off c b2 off2 c2 : Nat) (hs xs : List Nat) (w : World) (hv : TAt w b off n hs) (hx : VAt w b2 off2 c2 n xs) :
    Calls Try.prog 42 #[.agg #[.int .i64 (n : Int), .slice (some ⟨b, off, none⟩) hs.length c], .agg #[.int .i64 (n : Int), .slice (some ⟨b2, off2, none⟩) xs.length c2]] w fun e w' =>
      ∃ v, e = .returned v ∧ w'.ownsRow w.heap.size 9 1 v xs.length (clothV hs xs xs.length) ∧ Below w.heap.size w w' := by
  obtain ⟨w0, hw0⟩ : ∃ w0, w0 = (w.alloc (.cells #[.int .i64 (n : Int), .slice (some ⟨b, off, none⟩) hs.length c] 26)).alloc (.cells #[.int .i64 (n : Int), .slice (some ⟨b2, off2, none⟩) xs.length c2] 37) := ⟨_, rfl⟩
  have hb0 : Below w.heap.size w w0 := by rw [hw0]; exact ((Below.refl _ _).alloc (Nat.le_refl _) _).alloc (by simp) _
  have hs0 : w0.heap.size = w.heap.size + 2 := by rw [hw0]; simp
  have hA : BoxAt w0 w.heap.size #[.int .i64 (n : Int), .slice (some ⟨b, off, none⟩) hs.length c] 26 := by rw [hw0]; exact (BoxAt.new w _ _).next ((Below.refl _ _).alloc (Nat.le_refl _) _)
  have hP : BoxAt w0 (w.heap.size + 1) #[.int .i64 (n : Int), .slice (some ⟨b2, off2, none⟩) xs.length c2] 37 := by
    have := BoxAt.new (w.alloc (.cells #[.int .i64 (n : Int), .slice (some ⟨b, off, none⟩) hs.length c] 26)) #[.int .i64 (n : Int), .slice (some ⟨b2, off2, none⟩) xs.length c2] 37
    rw [World.size_alloc] at this
    rw [hw0]; exact this
  obtain ⟨w1, hw1⟩ : ∃ w1, w1 = w0.alloc (.cells #[] 9) := ⟨_, rfl⟩
  have hb1 : Below w0.heap.size w0 w1 := by rw [hw1]; exact (Below.refl _ _).alloc (Nat.le_refl _) _
  have hr1 : w1.ownsRow (w.heap.size + 2) 9 1 (.slice (some ⟨w.heap.size + 2, 0, none⟩) 0 0) 0 (clothV hs xs 0) := by
    rw [hw1, ← hs0]
    exact ⟨by simp [clothV], .inr ⟨_, 0, #[], rfl, Nat.le_refl _, World.alloc_heap_new w0 _, Nat.le_refl _, by decide, by simp, by simp [clothV]⟩⟩
  have hno : w1.cell? ⟨w.heap.size + 2, 0, none⟩ = none := by
    have h := World.alloc_heap_new w0 (.cells #[] 9)
    rw [← hw1, hs0] at h
    exact (cell_of_row w1 (w.heap.size + 2) 0 #[] 9 _ h).trans (by simp)
  have hs1 : w1.heap.size = w.heap.size + 3 := by rw [hw1]; simp; omega
  have hbw : b < w.heap.size := hv.lt
  have hbx : b2 < w.heap.size := hx.lt
  have hn := hv.n1
  have hT1 := hv.l1
  have hxl := hx.ok.l1
  have hxl0 := hx.ok.l0
  have hH := Table_any n b2 off2 c2 xs w1 (by omega) (by omega) ((hx.at'.below hb0 hbx).below hb1 (by omega)) (by omega) hx.ok.lt'
  have HN := Lib.hid (((hv.at'.below hb0 hbw).below hb1 (by omega)))
  have HX := Lib.hid hv
  have HA := Lib.hid (hA.next hb1)
  have HR1 := Lib.hid hr1
  have HS0 := Lib.hid hs0
  have HS1 := Lib.hid hs1
  have HW0 := Lib.hid hw0
  have HW1 := Lib.hid hw1
  have Hno := Lib.hid hno
  have Hn := Lib.hid hv.n0
  have Hb1 := Lib.hid (hb0.trans (hb1.mono (by omega)))
  have p0 := hP.cell' 0 rfl
  have p1 := hP.cell' 1 rfl
  clear hb0 hA hP hb1 hr1 hw1 hw0 hv hx hno
  go_enter Try.func42, Try.ntmps42
  go_upto_region 1 with fail
  rw [← HW0.out]
  go_wp2_with fail
  rw [← HW1.out]
  refine hH.mono ?_
  rintro e w2 ⟨g, cg, rfl, hT, hb2⟩
  have hn2 : w2.cell? ⟨w.heap.size + 2, 0, none⟩ = none := (hb2.cell (p := ⟨w.heap.size + 2, 0, none⟩) (by have := HS1.out; simp; omega)).trans Hno.out
  have hRc : RcS w n b off c hs xs g (.slice (some ⟨w.heap.size + 2, 0, none⟩) 0 0) 0 w2 := by
    refine ⟨HA.out.next hb2, ?_, hT.lt, fun i hi => ?_, HN.out.below hb2 (by have := HS1.out; omega), ownsRow_next HR1.out hb2, Hb1.out.trans (hb2.mono (by have := HS1.out; omega)), by have := HS1.out; have := hb2.size; omega⟩
    · intro e
      have e2 : g = w.heap.size + 2 := by simpa [Value.ownBlock] using e
      by_cases h0 : 0 < xs.length
      · obtain ⟨r, c', h1, _⟩ := hT.r 0 h0
        rw [e2, hn2] at h1; cases h1
      · exact absurd hxl0 h0
    · obtain ⟨r, c', h1, h2⟩ := hT.r i hi
      refine ⟨r, c', h1, fun e => ?_, h2⟩
      have e2 : r = w.heap.size + 2 := by simpa [Value.ownBlock] using e
      have h3 := h2.c 0 Hn.out
      rw [e2, hn2] at h3; cases h3
  have HRc := Lib.hid hRc
  clear hRc hn2 hT hb2 hH p0 p1 HA HN HR1 Hb1 HW0 HW1 Hno HS0 HS1
  go_wp2_with fail
  go_loopw [5, 7] (fun v i wr => ∃ k : Nat, k ≤ xs.length ∧ i = .int .i64 (k : Int) ∧ RcS w n b off c hs xs g v k wr) (fun _ i _ => xs.length - (intOf i).toNat)
  case atStart => exact ⟨0, Nat.zero_le _, rfl, HRc.out⟩
  case round =>
    obtain ⟨k, hk, rfl, hS⟩ := hrel
    have HS := Lib.hid hS
    clear hS HRc
    by_cases hlk : k < xs.length
    · obtain ⟨row, hrow⟩ : ∃ row, nthN xs k = row := ⟨_, rfl⟩
      have Hrow := Lib.hid hrow
      clear hrow
      go_wp2_with fail
      go_loopw [8, 9] (fun s i wz => ∃ j : Nat, j ≤ hs.length ∧ i = .int .i64 (j : Int) ∧ s = .string (pickPre hs row j) ∧ RcS w n b off c hs xs g u5 k wz) (fun _ i _ => hs.length - (intOf i).toNat)
      case atStart => exact ⟨0, Nat.zero_le _, rfl, by rw [pickPre_zero], HS.out⟩
      case round =>
        obtain ⟨j, hj, rfl, rfl, hSz⟩ := hrel
        have HZ := Lib.hid hSz
        clear hSz HS
        have a1 := HZ.out.box.cell' (v := .slice (some ⟨b, off, none⟩) hs.length c) 1 rfl
        by_cases hjl : j < hs.length
        · have hk1 := HZ.out.ns j hjl
          have hk2 := HX.out.hk j hjl
          obtain ⟨r, c', ht1, _, ht3⟩ := HZ.out.tab k hlk
          have hps := pickPre_succ hs row j hjl
          have hcb : clothB hs row j = if bitN row (nthN hs j) then 120 else 46 := rfl
          rw [Hrow.out] at ht3
          obtain ⟨h, hh⟩ : ∃ h, nthN hs j = h := ⟨_, rfl⟩
          rw [hh] at hk1 hk2 hcb
          have ht4 := ht3.c h hk2
          have hj0 : (0 : Int) ≤ (j : Int) := by omega
          have hj1 : (j : Int) < (hs.length : Int) := by omega
          have hk3 : (0 : Int) ≤ (k : Int) := by omega
          have hk4 : (k : Int) < (xs.length : Int) := by omega
          have hh0 : (0 : Int) ≤ (h : Int) := by omega
          have hh1 : (h : Int) < (n : Int) := by omega
          have hpz := pickPre_size hs row j (by omega)
          obtain ⟨pre, hpre⟩ : ∃ pre, pickPre hs row j = pre := ⟨_, rfl⟩
          rw [hpre] at hps hpz ⊢
          clear ht3 hh hpre
          cases hbt : bitN row h with
          | true =>
            rw [hbt] at ht4 hcb
            rw [hcb] at hps
            have Hps := Lib.hid hps
            clear hps hcb hbt
            go_wp2_with fail
            go_region
            all_goals go_wp2_with fail
            all_goals first
              | (exfalso; omega)
              | exact ⟨⟨j + 1, by omega, by go_num, by rw [Hps.out]; rfl, HZ.out.next hbw (Below.refl _ _).drew⟩, by simp [intOf]; omega⟩
          | false =>
            rw [hbt] at ht4 hcb
            rw [hcb] at hps
            have Hps := Lib.hid hps
            clear hps hcb hbt
            go_wp2_with fail
            go_region
            all_goals go_wp2_with fail
            all_goals first
              | (exfalso; omega)
              | exact ⟨⟨j + 1, by omega, by go_num, by rw [Hps.out]; rfl, HZ.out.next hbw (Below.refl _ _).drew⟩, by simp [intOf]; omega⟩
        · obtain rfl : j = hs.length := by omega
          rw [pickPre_all]
          have hsc := clothV_succ hs xs k
          rw [Hrow.out] at hsc
          have Hsc := Lib.hid hsc
          clear hsc
          go_wp2_with (at_builtin; refine Shut.out ?_)
          unfold Shut
          refine app_one elemStr rfl _ _ rfl (w.heap.size + 2) u5 k (clothV hs xs k) #[.string (pickS hs row)] rfl HZ.out.row rfl rfl (by simp [Value.oneCell']) (by omega) (by decide) HZ.out.sz ?_
          intro g5 cap w5 hg
          have HT5 := Lib.hid (HZ.out.grew hbw (by rw [Hsc.out]; exact hg))
          clear hg
          go_wp2_with fail
          go_roundw
          case rel => exact ⟨k + 1, by omega, by go_num, HT5.out⟩
          case measure => simp [intOf]; omega
    · obtain rfl : k = xs.length := by omega
      go_wp2_with fail
      go_ret
      exact ⟨_, rfl, own_base HS.out.row (by omega), HS.out.b⟩
end Go.Proofs.Ytdmgffoikebgkaa
/- Chapter 3: the length of a float that begins at a warp, as the reference counts it, for up to 96 warps. -/
namespace Go.Proofs.Ytdmgffoikebgkaa
open Go.RowKit

set_option maxRecDepth 100000 in
set_option maxHeartbeats 4000000 in
theorem Lng_no (b c m p k : Nat) (w : World) (hm1 : 1 ≤ m) (hm : m ≤ 96) (hp : p < 2 ^ m) (hk : k < m) (hB : BoolsAt w b m (bitN p)) (hbg : begins m p k = false) :
    Calls Try.prog 125 #[.slice (some ⟨b, 0, none⟩) m c, .int .i64 (k : Int)] w fun e w' => e = .returned (.int .i64 (lenAt m p k : Int)) ∧ Below w.heap.size w w' := by
  have hq : (k + m - 1) % m < m := Nat.mod_lt _ (by omega)
  have x1 := hB.c _ hq
  have x2 := hB.c k hk
  have hqe : bitN p ((k + m - 1) % m) = bitN p k := by simpa [begins] using hbg
  rw [hqe] at x1
  have hmod : ((k : Int) + (m : Int) - 1).tmod (m : Int) = (((k + m - 1) % m : Nat) : Int) := by
    rw [show (k : Int) + (m : Int) - 1 = ((k + m - 1 : Nat) : Int) by omega]; exact tmod_cast' _ _
  obtain ⟨q, hqq⟩ : ∃ q, (k + m - 1) % m = q := ⟨_, rfl⟩
  rw [hqq] at x1 hmod hq
  have hle : lenAt m p k = if alikeB m p = true ∧ k = 0 then 1000 else 0 := by unfold lenAt; rw [if_neg (by simp [hbg])]
  obtain ⟨L, hL⟩ : ∃ L, lenAt m p k = L := ⟨_, rfl⟩
  rw [hL]
  rw [hL] at hle
  have hw1 : IntKind.i64.wrap ((k : Int) + (m : Int)) = (k : Int) + (m : Int) := IntWalk.i64_in _ (by omega)
  have hw2 : IntKind.i64.wrap ((k : Int) + (m : Int) - 1) = (k : Int) + (m : Int) - 1 := IntWalk.i64_in _ (by omega)
  have hq0 : (0 : Int) ≤ (q : Int) := by omega
  have hq1 : (q : Int) < (m : Int) := by omega
  have hk0 : (0 : Int) ≤ (k : Int) := by omega
  have hk1 : (k : Int) < (m : Int) := by omega
  have hm0 : ¬ (m : Int) = 0 := by omega
  have hm0' : ¬ m = 0 := by omega
  have HB := Lib.hid hB
  have HLE := Lib.hid hle
  cases ha : alikeB m p with
  | true =>
    have hal := alike_to hm1 hp hk ha
    obtain ⟨bt, hbt⟩ : ∃ bt, bitN p k = bt := ⟨_, rfl⟩
    rw [hbt] at x1 x2 hal
    have HAL := Lib.hid hal
    have HA := Lib.hid ha
    clear hB hbg hqe hqq hL hle hal ha hbt
    by_cases hkz : k = 0
    · have hkz' : ((k : Int) == 0) = true := by simp [hkz]
      have HZ := Lib.hid hkz
      clear hkz
      go_enter Try.func125, Try.ntmps125
      go_wp2_with fail
      go_region
      all_goals clear hw1 hw2 hmod
      all_goals go_wp2_with fail
      all_goals
        (go_loopw [6] (fun i wr => ∃ i' : Nat, i' ≤ m ∧ i = .int .i64 i' ∧ Below w.heap.size w wr) (fun i _ => m - (intOf i).toNat)
         case atStart => exact ⟨0, Nat.zero_le _, rfl, (Below.refl _ _).drew⟩
         case round =>
           obtain ⟨i, hi, rfl, hBe⟩ := hrel
           have HBe := Lib.hid hBe
           have hBr := HB.out.below hBe HB.out.lt
           clear hBe
           by_cases hil : i < m
           · have y1 := hBr.c i hil
             have y2 := hBr.c k hk
             rw [HAL.out i hil] at y1
             rw [HAL.out k hk] at y2
             have hi0 : (0 : Int) ≤ (i : Int) := by omega
             have hi1 : (i : Int) < (m : Int) := by omega
             clear hBr
             go_wp2_with fail
             go_region
             all_goals go_wp2
             all_goals go_roundw
             all_goals first | (simp [intOf]; omega) | exact ⟨i + 1, by omega, by go_num, HBe.out.drew⟩
           · clear hBr
             go_wp2
             go_ret
             exact ⟨ret_int (by rw [HLE.out, if_pos ⟨HA.out, HZ.out⟩]; rfl), HBe.out⟩)
    · have hkz' : ((k : Int) == 0) = false := by rw [beq_eq_false_iff_ne]; omega
      have HZ := Lib.hid hkz
      clear hkz
      go_enter Try.func125, Try.ntmps125
      go_wp2_with fail
      go_region
      all_goals clear hw1 hw2 hmod
      all_goals go_wp2_with fail
      all_goals
        (go_loopw [6] (fun i wr => ∃ i' : Nat, i' ≤ m ∧ i = .int .i64 i' ∧ Below w.heap.size w wr) (fun i _ => m - (intOf i).toNat)
         case atStart => exact ⟨0, Nat.zero_le _, rfl, (Below.refl _ _).drew⟩
         case round =>
           obtain ⟨i, hi, rfl, hBe⟩ := hrel
           have HBe := Lib.hid hBe
           have hBr := HB.out.below hBe HB.out.lt
           clear hBe
           by_cases hil : i < m
           · have y1 := hBr.c i hil
             have y2 := hBr.c k hk
             rw [HAL.out i hil] at y1
             rw [HAL.out k hk] at y2
             have hi0 : (0 : Int) ≤ (i : Int) := by omega
             have hi1 : (i : Int) < (m : Int) := by omega
             clear hBr
             go_wp2_with fail
             go_region
             all_goals go_wp2
             all_goals go_roundw
             all_goals first | (simp [intOf]; omega) | exact ⟨i + 1, by omega, by go_num, HBe.out.drew⟩
           · clear hBr
             go_wp2
             go_ret
             exact ⟨ret_int (by rw [HLE.out, if_neg (fun h => HZ.out h.2)]; rfl), HBe.out⟩)
  | false =>
    obtain ⟨bt, hbt⟩ : ∃ bt, bitN p k = bt := ⟨_, rfl⟩
    have hno : ¬ ∀ j, j < m → bitN p j = bt := fun h => by
      have := alike_from (k := k) hm1 hp (fun j hj => by rw [hbt]; exact h j hj)
      rw [ha] at this; cases this
    rw [hbt] at x1 x2
    have HNO := Lib.hid hno
    have HBT := Lib.hid hbt
    have HA := Lib.hid ha
    clear hB hbg hqe hqq hL hle hno ha hbt
    go_enter Try.func125, Try.ntmps125
    go_wp2_with fail
    go_region
    all_goals clear hw1 hw2 hmod
    all_goals go_wp2_with fail
    all_goals
      (go_loopw [6] (fun i wr => ∃ i' : Nat, i' ≤ m ∧ i = .int .i64 i' ∧ (∀ j, j < i' → bitN p j = bt) ∧ Below w.heap.size w wr) (fun i _ => m - (intOf i).toNat)
       case atStart => exact ⟨0, Nat.zero_le _, rfl, fun j hj => by omega, (Below.refl _ _).drew⟩
       case round =>
         obtain ⟨i, hi, rfl, hok, hBe⟩ := hrel
         have HBe := Lib.hid hBe
         have HOK := Lib.hid hok
         have hBr := HB.out.below hBe HB.out.lt
         clear hBe hok
         by_cases hil : i < m
         · have y1 := hBr.c i hil
           have y2 := hBr.c k hk
           rw [HBT.out] at y2
           have hi0 : (0 : Int) ≤ (i : Int) := by omega
           have hi1 : (i : Int) < (m : Int) := by omega
           obtain ⟨bu, hbu⟩ : ∃ bu, bitN p i = bu := ⟨_, rfl⟩
           rw [hbu] at y1
           have HBU := Lib.hid hbu
           clear hBr hbu
           by_cases hbb : bu = bt
           · subst hbb
             go_wp2_with fail
             go_region
             all_goals go_wp2
             all_goals go_roundw
             all_goals first
               | (simp [intOf]; omega)
               | (refine ⟨i + 1, by omega, by go_num, fun j hj => ?_, HBe.out.drew⟩
                  by_cases e : j = i
                  · rw [e]; exact HBU.out
                  · exact HOK.out j (by omega))
           · have hbu2 : bu = !bt := by
               revert hbb
               cases bt <;> cases bu <;> simp
             subst hbu2
             clear hbb
             cases bt
             all_goals go_wp2_with fail
             all_goals go_region
             all_goals go_wp2
             all_goals go_ret
             all_goals exact ⟨ret_int (by rw [HLE.out, if_neg (fun h => by rw [HA.out] at h; simp at h)]; rfl), HBe.out.drew⟩
         · obtain rfl : i = m := by omega
           exact absurd HOK.out HNO.out)

set_option maxRecDepth 100000 in
set_option maxHeartbeats 4000000 in
theorem Lng_yes (b c m p k : Nat) (w : World) (hm1 : 1 ≤ m) (hm : m ≤ 96) (_hp : p < 2 ^ m) (hk : k < m) (hB : BoolsAt w b m (bitN p)) (hbg : begins m p k = true) :
    Calls Try.prog 125 #[.slice (some ⟨b, 0, none⟩) m c, .int .i64 (k : Int)] w fun e w' => e = .returned (.int .i64 (lenAt m p k : Int)) ∧ Below w.heap.size w w' := by
  have hq : (k + m - 1) % m < m := Nat.mod_lt _ (by omega)
  have x1 := hB.c _ hq
  have x2 := hB.c k hk
  obtain ⟨⟨hl1, hl2⟩, hl3, hl4⟩ := lenF_spec (by omega) hbg hk
  have hle : lenAt m p k = lenF m p k := by unfold lenAt; rw [if_pos hbg]
  obtain ⟨L, hL⟩ : ∃ L, lenF m p k = L := ⟨_, rfl⟩
  rw [hle, hL]
  rw [hL] at hl1 hl2 hl3 hl4
  obtain ⟨bt, hbt⟩ : ∃ bt, bitN p k = bt := ⟨_, rfl⟩
  have hqe : bitN p ((k + m - 1) % m) = !bt := by
    have : (bitN p ((k + m - 1) % m) != bitN p k) = true := hbg
    rw [hbt] at this
    revert this
    cases bitN p ((k + m - 1) % m) <;> cases bt <;> simp
  have hl4' : bitN p ((k + L) % m) = !bt := by
    rw [hbt] at hl4
    revert hl4
    cases bitN p ((k + L) % m) <;> cases bt <;> simp
  rw [hqe] at x1
  rw [hbt] at x2
  have hmod : ((k : Int) + (m : Int) - 1).tmod (m : Int) = (((k + m - 1) % m : Nat) : Int) := by
    rw [show (k : Int) + (m : Int) - 1 = ((k + m - 1 : Nat) : Int) by omega]; exact tmod_cast' _ _
  obtain ⟨q, hqq⟩ : ∃ q, (k + m - 1) % m = q := ⟨_, rfl⟩
  rw [hqq] at x1 hmod hq
  have hw1 : IntKind.i64.wrap ((k : Int) + (m : Int)) = (k : Int) + (m : Int) := IntWalk.i64_in _ (by omega)
  have hw2 : IntKind.i64.wrap ((k : Int) + (m : Int) - 1) = (k : Int) + (m : Int) - 1 := IntWalk.i64_in _ (by omega)
  have hq0 : (0 : Int) ≤ (q : Int) := by omega
  have hq1 : (q : Int) < (m : Int) := by omega
  have hk0 : (0 : Int) ≤ (k : Int) := by omega
  have hk1 : (k : Int) < (m : Int) := by omega
  have hm0 : ¬ (m : Int) = 0 := by omega
  have hm0' : ¬ m = 0 := by omega
  have HB := Lib.hid hB
  have H3 := Lib.hid hl3
  have H4 := Lib.hid hl4'
  have HBT := Lib.hid hbt
  clear hB hbg hqe hqq hL hle hl3 hl4 hl4' hbt
  cases bt
  all_goals go_enter Try.func125, Try.ntmps125
  all_goals go_wp2_with fail
  all_goals go_region
  all_goals clear hw1 hw2 hmod
  all_goals go_wp2_with fail
  all_goals
    (go_loopw [7] (fun i wr => ∃ l : Nat, 1 ≤ l ∧ l ≤ L ∧ i = .int .i64 l ∧ Below w.heap.size w wr) (fun i _ => L - (intOf i).toNat)
     case atStart => exact ⟨1, Nat.le_refl _, hl1, rfl, (Below.refl _ _).drew⟩
     case round =>
       obtain ⟨l, h1, h2, rfl, hBe⟩ := hrel
       have HBe := Lib.hid hBe
       have hBr := HB.out.below hBe HB.out.lt
       clear hBe
       have hz : (k + l) % m < m := Nat.mod_lt _ (by omega)
       have y1 := hBr.c _ hz
       have y2 := hBr.c k hk
       rw [HBT.out] at y2
       have hmod : ((k : Int) + (l : Int)).tmod (m : Int) = (((k + l) % m : Nat) : Int) := by
         rw [show (k : Int) + (l : Int) = ((k + l : Nat) : Int) by omega]; exact tmod_cast' _ _
       have hw1 : IntKind.i64.wrap ((k : Int) + (l : Int)) = (k : Int) + (l : Int) := IntWalk.i64_in _ (by omega)
       by_cases hlt : l < L
       · have e := H3.out l h1 hlt
         rw [HBT.out] at e
         rw [e] at y1
         obtain ⟨z, hze⟩ : ∃ z, (k + l) % m = z := ⟨_, rfl⟩
         rw [hze] at y1 hmod hz
         have hz0 : (0 : Int) ≤ (z : Int) := by omega
         have hz1 : (z : Int) < (m : Int) := by omega
         clear e hze hBr
         go_wp2_with fail
         go_region
         all_goals clear hw1 hmod
         all_goals go_wp2
         all_goals go_roundw
         all_goals first | (simp [intOf]; omega) | exact ⟨l + 1, by omega, by omega, by go_num, HBe.out.drew⟩
       · obtain rfl : l = L := by omega
         rw [H4.out] at y1
         obtain ⟨z, hze⟩ : ∃ z, (k + l) % m = z := ⟨_, rfl⟩
         rw [hze] at y1 hmod hz
         have hz0 : (0 : Int) ≤ (z : Int) := by omega
         have hz1 : (z : Int) < (m : Int) := by omega
         clear hze hBr
         go_wp2_with fail
         go_region
         all_goals clear hw1 hmod
         all_goals go_wp2
         all_goals go_ret
         all_goals exact ⟨rfl, HBe.out.drew⟩)
theorem Lng_any (b c m p k : Nat) (f : Nat → Bool) (w : World) (hm1 : 1 ≤ m) (hm : m ≤ 96) (hp : p < 2 ^ m) (hk : k < m) (hB : BoolsAt w b m f) (hf : ∀ j, j < m → f j = bitN p j) :
    Calls Try.prog 125 #[.slice (some ⟨b, 0, none⟩) m c, .int .i64 (k : Int)] w fun e w' => e = .returned (.int .i64 (lenAt m p k : Int)) ∧ Below w.heap.size w w' := by
  have hB' : BoolsAt w b m (bitN p) := ⟨fun j hj => by rw [← hf j hj]; exact hB.c j hj, hB.lt⟩
  cases hbg : begins m p k with
  | true => exact Lng_yes b c m p k w hm1 hm hp hk hB' hbg
  | false => exact Lng_no b c m p k w hm1 hm hp hk hB' hbg
end Go.Proofs.Ytdmgffoikebgkaa
/- Chapter 3: what Weave, Floats and the reference say of a harness and a design that are valid, in one form. -/
namespace Go.Proofs.Ytdmgffoikebgkaa
open Go.RowKit Go.Shelf
attribute [local go_sem] Oper.semAt_some

theorem wov_zero {n1 n2 : Int} {xs ys : List Int} (h : wovE n1 n2 xs ys = 0) : chkT n1 xs = 0 ∧ checkE n2 ys = 0 ∧ n2 = n1 := by
  unfold wovE at h
  by_cases q : chkT n1 xs = 0
  · rw [if_neg (by simp [q])] at h
    by_cases r : checkE n2 ys = 0
    · rw [if_neg (by simp [r])] at h
      by_cases s : n2 = n1
      · exact ⟨q, r, s⟩
      · rw [if_pos s] at h; cases h
    · rw [if_pos r] at h; exact absurd h r
  · rw [if_pos q] at h; exact absurd h q
theorem hkN_ints (xs : List Nat) : hkN (ints xs) = xs := by simp [hkN, ints, Function.comp_def]
theorem vat_of {n2 : Int} {ys : List Int} {b off : Nat} {W : World} (hc : checkE n2 ys = 0) (hx : IntsAt W b off ys) (hb : b < W.heap.size) (c : Nat) : VAt W b off c n2.toNat (hkN ys) := by
  obtain ⟨n, zs, rfl, rfl, hV⟩ := valid_of_check hc
  rw [hkN_ints, Int.toNat_natCast]
  refine ⟨fun i hi => ?_, hb, hV⟩
  rw [hx i (by rw [ints_len]; exact hi)]
  simp [nthI, nthN, ints, hi]
theorem wov_open {n1 n2 : Int} {p1 p2 : Option Addr} {c1 c2 : Nat} {xs ys : List Int} {w : World} (hr1 : Reads w (.slice p1 xs.length c1) xs) (hr2 : Reads w (.slice p2 ys.length c2) ys) (hk : wovE n1 n2 xs ys = 0) :
    ∃ n b off b2 off2 : Nat, n1 = (n : Int) ∧ n2 = (n : Int) ∧ p1 = some ⟨b, off, none⟩ ∧ p2 = some ⟨b2, off2, none⟩ ∧ TAt w b off n (hkN xs) ∧ (∀ c, VAt w b2 off2 c n (hkN ys)) ∧ 0 < xs.length ∧ xs.length ≤ 96 ∧ 0 < ys.length ∧ ys.length ≤ 60 := by
  obtain ⟨h1, h2, h3⟩ := wov_zero hk
  have hok := chkT_ok h1
  obtain ⟨hy0, hy1, hn⟩ : 0 < ys.length ∧ ys.length ≤ 60 ∧ n2 = (n2.toNat : Int) := by
    obtain ⟨n, zs, rfl, rfl, hV⟩ := valid_of_check h2
    rw [ints_len]
    exact ⟨hV.l0, hV.l1, rfl⟩
  obtain ⟨p', c', hv, _, hx⟩ := hr1
  simp only [Value.slice.injEq, true_and] at hv
  obtain ⟨rfl, rfl⟩ := hv
  obtain ⟨b, off, rfl, hb, hx⟩ := hx hok.2.2.1
  obtain ⟨p'', c'', hv, _, hy⟩ := hr2
  simp only [Value.slice.injEq, true_and] at hv
  obtain ⟨rfl, rfl⟩ := hv
  obtain ⟨b2, off2, rfl, hb2, hy⟩ := hy hy0
  have hT := hkN_tat h1 hx hb
  rw [← h3] at hT
  exact ⟨n2.toNat, b, off, b2, off2, by rw [← h3]; exact hn, hn, rfl, rfl, hT, vat_of h2 hy hb2, hok.2.2.1, hok.2.2.2.1, hy0, hy1⟩
theorem cloth_row {W : World} {B : Nat} {v : Value} {xs ys : List Int} (h : W.ownsRow B 9 1 v ys.length (clothV (hkN xs) (hkN ys) ys.length)) (h0 : 0 < ys.length) :
    ∃ g cap, v = .slice (some ⟨g, 0, none⟩) ys.length cap ∧ StrsAt W g 0 (clothS (hkN xs) (hkN ys)) ∧ g < W.heap.size := by
  obtain ⟨g, cap, rfl⟩ := row_slice h h0
  have e : clothV (hkN xs) (hkN ys) ys.length = (clothS (hkN xs) (hkN ys)).map Value.string := by rw [clothS_map, hkN_len]
  rw [e] at h
  obtain ⟨a, b, _⟩ := strs_of_row h h0
  exact ⟨g, cap, rfl, a, b⟩
theorem call38g (n1 n2 : Int) (p1 p2 : Option Addr) (c1 c2 : Nat) (xs ys : List Int) (w : World) (hr1 : Reads w (.slice p1 xs.length c1) xs) (hr2 : Reads w (.slice p2 ys.length c2) ys) (hk : wovE n1 n2 xs ys = 0) :
    Calls Try.prog 38 #[.agg #[.int .i64 n1, .slice p1 xs.length c1], .agg #[.int .i64 n2, .slice p2 ys.length c2]] w fun e w' =>
      (∃ g cap, e = .returned (.tuple #[.slice (some ⟨g, 0, none⟩) ys.length cap, .int .i64 0]) ∧ StrsAt w' g 0 (clothS (hkN xs) (hkN ys)) ∧ g < w'.heap.size) ∧ Below w.heap.size w w' := by
  obtain ⟨n, b, off, b2, off2, rfl, rfl, rfl, rfl, hT, hV, l0, l1, m0, m1⟩ := wov_open hr1 hr2 hk
  have H := tieWeave_ok n b off c1 b2 off2 c2 (hkN xs) (hkN ys) w hT (hV c2)
  rw [hkN_len, hkN_len] at H
  refine H.mono ?_
  rintro e w' ⟨v, rfl, hr, hb⟩
  obtain ⟨g, cap, rfl, a, d⟩ := cloth_row hr m0
  exact ⟨⟨g, cap, rfl, a, d⟩, hb⟩
theorem call42g (n1 n2 : Int) (p1 p2 : Option Addr) (c1 c2 : Nat) (xs ys : List Int) (w : World) (hr1 : Reads w (.slice p1 xs.length c1) xs) (hr2 : Reads w (.slice p2 ys.length c2) ys) (hk : wovE n1 n2 xs ys = 0) :
    Calls Try.prog 42 #[.agg #[.int .i64 n1, .slice p1 xs.length c1], .agg #[.int .i64 n2, .slice p2 ys.length c2]] w fun e w' =>
      (∃ g cap, e = .returned (.slice (some ⟨g, 0, none⟩) ys.length cap) ∧ StrsAt w' g 0 (clothS (hkN xs) (hkN ys)) ∧ g < w'.heap.size) ∧ Below w.heap.size w w' := by
  obtain ⟨n, b, off, b2, off2, rfl, rfl, rfl, rfl, hT, hV, l0, l1, m0, m1⟩ := wov_open hr1 hr2 hk
  have H := refCloth3_ok n b off c1 b2 off2 c2 (hkN xs) (hkN ys) w hT (hV c2)
  rw [hkN_len, hkN_len] at H
  refine H.mono ?_
  rintro e w' ⟨v, rfl, hr, hb⟩
  obtain ⟨g, cap, rfl, a, d⟩ := cloth_row hr m0
  exact ⟨⟨g, cap, rfl, a, d⟩, hb⟩
/-- the floats of the cloth of a harness and a design that are longer than a bound -/
def flA (xs ys : List Int) (m : Nat) : List Fl := upTo (flO (hkN xs) (hkN ys) m) ys.length
theorem call39g (n1 n2 : Int) (m : Nat) (p1 p2 : Option Addr) (c1 c2 : Nat) (xs ys : List Int) (w : World) (hr1 : Reads w (.slice p1 xs.length c1) xs) (hr2 : Reads w (.slice p2 ys.length c2) ys) (hk : wovE n1 n2 xs ys = 0) (hm : m ≤ 1000) :
    Calls Try.prog 39 #[.agg #[.int .i64 n1, .slice p1 xs.length c1], .agg #[.int .i64 n2, .slice p2 ys.length c2], .int .i64 (m : Int)] w fun e w' =>
      (∃ p cap, e = .returned (.tuple #[.slice p (flA xs ys m).length cap, .int .i64 0]) ∧ (0 < (flA xs ys m).length → ∃ g, p = some ⟨g, 0, none⟩ ∧ FlsAt w' g (flA xs ys m))) ∧ Below w.heap.size w w' := by
  obtain ⟨n, b, off, b2, off2, rfl, rfl, rfl, rfl, hT, hV, l0, l1, m0, m1⟩ := wov_open hr1 hr2 hk
  have H := tieFloats_ok n b off c1 b2 off2 c2 m (hkN xs) (hkN ys) w hT (hV c2) hm
  rw [hkN_len, hkN_len] at H
  refine H.mono ?_
  rintro e w' ⟨v, rfl, hr, hb⟩
  obtain ⟨p, cap, rfl, hp⟩ := Fls.of_row hr
  exact ⟨⟨p, cap, rfl, hp⟩, hb⟩
set_option maxHeartbeats 1000000 in
/-- whether a harness, a design and no cloth are too large -/
theorem tieLarge2_any (h h2 : Int) (p p2 : Option Addr) (c L c2 L2 : Nat) (w : World) :
    Calls Try.prog 27 #[.agg #[.int .i64 h, .slice p L c], .agg #[.int .i64 h2, .slice p2 L2 c2], .slice none 0 0] w fun e w' => e = .returned (.bool (decide (110 < L) || decide (70 < L2))) ∧ Below w.heap.size w w' := by
  have hb0 : Below w.heap.size w ((w.alloc (.cells #[.int .i64 h, .slice p L c] 26)).alloc (.cells #[.int .i64 h2, .slice p2 L2 c2] 37)) := ((Below.refl _ _).alloc (Nat.le_refl _) _).alloc (by simp) _
  have Hb0 := Lib.hid hb0
  clear hb0
  by_cases hl : 110 < L
  · have hd : decide ((110 : Int) < (L : Int)) = true := decide_eq_true (by omega)
    have Hd := Lib.hid (show (decide (110 < L) || decide (70 < L2)) = true by simp [hl])
    clear hl
    go_enter Try.func27, Try.ntmps27
    go_wp2_with fail
    go_loopw [7] (fun i wr => i = .int .i64 0 ∧ wr = (w.alloc (.cells #[.int .i64 h, .slice p L c] 26)).alloc (.cells #[.int .i64 h2, .slice p2 L2 c2] 37)) (fun _ _ => 1)
    case atStart => exact ⟨rfl, rfl⟩
    case round =>
      obtain ⟨rfl, rfl⟩ := hrel
      go_wp2_with fail
      go_ret
      exact ⟨ret_bool (by rw [Hd.out]), Hb0.out⟩
  · have hd : decide ((110 : Int) < (L : Int)) = false := decide_eq_false (by omega)
    by_cases hl2 : 70 < L2
    · have hd2 : decide ((70 : Int) < (L2 : Int)) = true := decide_eq_true (by omega)
      have Hd := Lib.hid (show (decide (110 < L) || decide (70 < L2)) = true by simp [hl2])
      clear hl hl2
      go_enter Try.func27, Try.ntmps27
      go_wp2_with fail
      go_loopw [7] (fun i wr => i = .int .i64 0 ∧ wr = (w.alloc (.cells #[.int .i64 h, .slice p L c] 26)).alloc (.cells #[.int .i64 h2, .slice p2 L2 c2] 37)) (fun _ _ => 1)
      case atStart => exact ⟨rfl, rfl⟩
      case round =>
        obtain ⟨rfl, rfl⟩ := hrel
        go_wp2_with fail
        go_ret
        exact ⟨ret_bool (by rw [Hd.out]), Hb0.out⟩
    · have hd2 : decide ((70 : Int) < (L2 : Int)) = false := decide_eq_false (by omega)
      have Hd := Lib.hid (show (decide (110 < L) || decide (70 < L2)) = false by simp [hl, hl2])
      clear hl hl2
      go_enter Try.func27, Try.ntmps27
      go_wp2_with fail
      go_loopw [7] (fun i wr => i = .int .i64 0 ∧ wr = (w.alloc (.cells #[.int .i64 h, .slice p L c] 26)).alloc (.cells #[.int .i64 h2, .slice p2 L2 c2] 37)) (fun _ _ => 1)
      case atStart => exact ⟨rfl, rfl⟩
      case round =>
        obtain ⟨rfl, rfl⟩ := hrel
        go_wp2_with fail
        go_ret
        exact ⟨ret_bool (by rw [Hd.out]), Hb0.out⟩
set_option maxRecDepth 100000 in
set_option maxHeartbeats 4000000 in
/-- lists of floats that are alike -/
theorem refAlikeF_ok (p1 p2 : Option Addr) (c1 c2 : Nat) (fs : List Fl) (w : World) (hl : fs.length ≤ 100000) (h1 : 0 < fs.length → ∃ g, p1 = some ⟨g, 0, none⟩ ∧ FlsAt w g fs) (h2 : 0 < fs.length → ∃ g, p2 = some ⟨g, 0, none⟩ ∧ FlsAt w g fs) :
    Calls Try.prog 45 #[.slice p1 fs.length c1, .slice p2 fs.length c2] w fun e w' => e = .returned (.bool true) ∧ Below w.heap.size w w' := by
  have H1 := Lib.hid h1
  have H2 := Lib.hid h2
  clear h1 h2
  go_enter Try.func45, Try.ntmps45
  go_wp2
  go_loopw [5] (fun i wr => ∃ k : Nat, k ≤ fs.length ∧ i = .int .i64 k ∧ Below w.heap.size w wr) (fun i _ => fs.length - (intOf i).toNat)
  case atStart => exact ⟨0, Nat.zero_le _, rfl, Below.refl _ _⟩
  case round =>
    obtain ⟨k, hk, rfl, hB⟩ := hrel
    have HB := Lib.hid hB
    clear hB
    by_cases hlt : k < fs.length
    · obtain ⟨g1, rfl, f1⟩ := H1.out (by omega)
      obtain ⟨g2, rfl, f2⟩ := H2.out (by omega)
      have f1' := f1.below HB.out f1.lt
      have f2' := f2.below HB.out f2.lt
      have x0 := f1'.c0 k hlt
      have x1 := f1'.c1 k hlt
      have x2 := f1'.c2 k hlt
      have x3 := f1'.c3 k hlt
      have y0 := f2'.c0 k hlt
      have y1 := f2'.c1 k hlt
      have y2 := f2'.c2 k hlt
      have y3 := f2'.c3 k hlt
      obtain ⟨f, hf⟩ : ∃ f, nthF fs k = f := ⟨_, rfl⟩
      rw [hf] at x0 x1 x2 x3 y0 y1 y2 y3
      have hk0 : (0 : Int) ≤ (k : Int) := by omega
      have hk1 : (k : Int) < (fs.length : Int) := by omega
      clear f1 f2 f1' f2' hf
      go_wp2_with fail
      go_region
      all_goals go_wp2
      all_goals go_roundw
      all_goals first | (simp [intOf]; omega) | exact ⟨k + 1, by omega, by go_num, HB.out.drew⟩
    · go_wp2
      go_ret
      exact ⟨rfl, HB.out⟩
end Go.Proofs.Ytdmgffoikebgkaa
/- Chapter 3: the reference's floats of a cloth. -/
namespace Go.Proofs.Ytdmgffoikebgkaa
open Go.RowKit Go.Shelf
attribute [local go_sem] Oper.semAt_some

/-- the floats of one ring, up to a place -/
def ringTo (mk : Nat → Nat → Bool → Fl) (bd : Int) (m p : Nat) : Nat → List Fl
  | 0 => []
  | k + 1 => ringTo mk bd m p k ++ (if lenAt m p k = 0 ∨ (lenAt m p k : Int) ≤ bd then [] else [mk k (lenAt m p k) (bitN p k)])
theorem ringTo_len (mk : Nat → Nat → Bool → Fl) (bd : Int) (m p : Nat) : ∀ k, (ringTo mk bd m p k).length ≤ k
  | 0 => by simp [ringTo]
  | k + 1 => by
    have := ringTo_len mk bd m p k
    simp only [ringTo, List.length_append]
    split <;> simp <;> omega
theorem ringTo_eq (mk : Nat → Nat → Bool → Fl) (bd : Int) (m p : Nat) (hm : 1 ≤ m) (hp : p < 2 ^ m) : ringTo mk bd m p m = ringFl (fun r => mk r.first r.length r.lifted) bd (runsOf m p) := by
  cases ha : alikeB m p with
  | true =>
    have hb : ∀ k, k < m → begins m p k = false := fun k hk => by
      cases hbk : begins m p k with
      | false => rfl
      | true => have := begins_not_alike hm hp hk hbk; rw [ha] at this; cases this
    have h : ∀ k, 1 ≤ k → k ≤ m → ringTo mk bd m p k = if (1000 : Int) ≤ bd then [] else [mk 0 1000 (bitN p 0)] := by
      intro k hk hkm
      induction k with
      | zero => omega
      | succ k ih =>
        by_cases hk0 : k = 0
        · subst hk0
          have e : lenAt m p 0 = 1000 := by unfold lenAt; rw [if_neg (by simp [hb 0 (by omega)]), if_pos ⟨ha, rfl⟩]
          simp [ringTo, e]
        · have e : lenAt m p k = 0 := by unfold lenAt; rw [if_neg (by simp [hb k (by omega)]), if_neg (fun h => hk0 h.2)]
          rw [ringTo, if_pos (.inl e), List.append_nil]
          exact ih (by omega) (by omega)
    rw [h m hm (Nat.le_refl _)]
    unfold runsOf ringFl
    rw [if_pos ha]
    by_cases hbd : (1000 : Int) ≤ bd
    · rw [if_pos hbd]
      have hd : decide (bd < ((1000 : Nat) : Int)) = false := by rw [decide_eq_false_iff_not]; omega
      simp only [List.filter_cons, List.filter_nil, hd]; rfl
    · rw [if_neg hbd]
      have hd : decide (bd < ((1000 : Nat) : Int)) = true := by rw [decide_eq_true_iff]; omega
      simp only [List.filter_cons, List.filter_nil, hd]; rfl
  | false =>
    have h : ∀ k, k ≤ m → ringTo mk bd m p k = ringFl (fun r => mk r.first r.length r.lifted) bd (runsTo m p k) := by
      intro k
      induction k with
      | zero => intro _; simp [ringTo, runsTo, ringFl]
      | succ k ih =>
        intro hkm
        rw [ringTo, ih (by omega)]
        cases hbk : begins m p k with
        | false =>
          have e : lenAt m p k = 0 := by unfold lenAt; rw [if_neg (by simp [hbk]), if_neg (fun h => by rw [ha] at h; simp at h)]
          rw [if_pos (.inl e), List.append_nil, runsTo_no hbk]
        | true =>
          have e : lenAt m p k = lenF m p k := by unfold lenAt; rw [if_pos hbk]
          obtain ⟨⟨h1, _⟩, _⟩ := lenF_spec (by omega) hbk (show k < m by omega)
          rw [runsTo_yes hbk, ringFl_step, e]
          by_cases hlt : bd < ((lenF m p k : Nat) : Int)
          · rw [if_neg (by omega), if_pos hlt]
          · rw [if_pos (.inr (by omega)), if_neg hlt]
    rw [h m (Nat.le_refl _)]
    unfold runsOf
    rw [if_neg (by simp [ha])]
theorem upTo_same {f g : Nat → List Fl} : ∀ {k : Nat}, (∀ i, i < k → f i = g i) → upTo f k = upTo g k
  | 0, _ => by simp [upTo]
  | k + 1, h => by rw [upTo_succ, upTo_succ, upTo_same (fun i hi => h i (by omega)), h k (by omega)]
/-- the floats of a pick of a cloth -/
def flP (T : Nat) (ps : List Nat) (m : Nat) (i : Nat) : List Fl := ringFl (fun r => ⟨i, r.first, r.length, r.lifted⟩) (m : Int) (runsOf T (nthN ps i))
theorem flP_eq (hs xs : List Nat) (m i : Nat) (h : i < xs.length) : flP hs.length (pks hs xs) m i = flO hs xs m i := by
  have e : (fun r : Run => decide ((m : Int) < (r.length : Int))) = ((fun f : Fl => decide (m < f.length)) ∘ flR i) := by
    funext r
    show decide ((m : Int) < (r.length : Int)) = decide (m < (flR i r).length)
    exact decide_eq_decide.2 Int.ofNat_lt
  unfold flP flO flT ringFl
  rw [pks_nth _ _ h, List.filter_map, e]
  rfl
theorem pks_lt (hs xs : List Nat) (i : Nat) (h : i < xs.length) : nthN (pks hs xs) i < 2 ^ hs.length := by
  rw [pks_nth _ _ h]; exact rowTo_lt _ _
theorem elemBool : ElemT 168 4 1 1 := by
  obtain ⟨i, hi, hz0, hz1, hz2⟩ := info_parts tInfo4
  exact ⟨i, _, by kernel_rfl, hi, hz0, hz1, hz2, rfl, by decide⟩
set_option maxRecDepth 100000 in
set_option maxHeartbeats 1000000 in
theorem refPts3_ok (s : ByteArray) (n p : Nat) (w : World) (hn : n ≤ 96) (h : StrB s n p) :
    Calls Try.prog 124 #[.string s] w fun e w' => ∃ b c, e = .returned (.slice (some ⟨b, 0, none⟩) n c) ∧ w.heap.size ≤ b ∧ BoolsAt w' b n (bitN p) ∧ Below w.heap.size w w' := by
  have Hsb := Lib.hid h
  clear h
  go_enter Try.func124, Try.ntmps124
  go_wp2_with fail
  go_loopw [3, 4] (fun v i wr => ∃ k g c : Nat, k ≤ n ∧ i = .int .i64 k ∧ v = .slice (some ⟨g, 0, none⟩) k c ∧ wr.ownsRow w.heap.size 4 1 (.slice (some ⟨g, 0, none⟩) k c) k (boolCells (bitN p) k) ∧ Below w.heap.size w wr) (fun _ i _ => n - (intOf i).toNat)
  case atStart => exact ⟨0, w.heap.size, 0, Nat.zero_le _, rfl, rfl, World.ownsRow_made w #[] 0 (Nat.le_refl _) (Nat.zero_le _) rfl, (Below.refl _ _).alloc (Nat.le_refl _) _⟩
  case round =>
    obtain ⟨k, g, c, hk, rfl, rfl, hrow, hB⟩ := hrel
    have HRow := Lib.hid hrow
    have HB := Lib.hid hB
    clear hrow hB
    have hsz := Hsb.out.size
    by_cases hlt : k < n
    · have hi := fun W => Hsb.out.idx hlt W
      cases hbt : bitN p k with
      | true =>
        have hv : byteP p k = 120 := by unfold byteP; rw [hbt]; rfl
        rw [hv] at hi
        have Hbt := Lib.hid hbt
        clear hv hbt
        go_wp2_with (at_builtin; refine Shut.out ?_)
        unfold Shut
        refine app_one elemBool rfl _ _ rfl w.heap.size (.slice (some ⟨g, 0, none⟩) k c) k (boolCells (bitN p) k) #[.bool true] rfl HRow.out rfl rfl (by simp [Value.oneCell']) (by omega) (by decide) HB.out.size ?_
        intro g5 cap w5 hg
        have hrow5 : w5.ownsRow w.heap.size 4 1 (.slice (some ⟨g5, 0, none⟩) (k + 1) cap) (k + 1) (boolCells (bitN p) (k + 1)) := by
          rw [boolCells_succ, Hbt.out]; exact hg.row
        have HR5 := Lib.hid hrow5
        have HB5 := Lib.hid (hg.below HRow.out (Nat.le_refl _) HB.out.size HB.out)
        clear hrow5 hg
        go_wp2
        go_roundw
        case rel => exact ⟨k + 1, g5, cap, by omega, by go_num, rfl, HR5.out, HB5.out⟩
        case measure => simp [intOf]; omega
      | false =>
        have hv : byteP p k = 46 := by unfold byteP; rw [hbt]; rfl
        rw [hv] at hi
        have Hbt := Lib.hid hbt
        clear hv hbt
        go_wp2_with (at_builtin; refine Shut.out ?_)
        unfold Shut
        refine app_one elemBool rfl _ _ rfl w.heap.size (.slice (some ⟨g, 0, none⟩) k c) k (boolCells (bitN p) k) #[.bool false] rfl HRow.out rfl rfl (by simp [Value.oneCell']) (by omega) (by decide) HB.out.size ?_
        intro g5 cap w5 hg
        have hrow5 : w5.ownsRow w.heap.size 4 1 (.slice (some ⟨g5, 0, none⟩) (k + 1) cap) (k + 1) (boolCells (bitN p) (k + 1)) := by
          rw [boolCells_succ, Hbt.out]; exact hg.row
        have HR5 := Lib.hid hrow5
        have HB5 := Lib.hid (hg.below HRow.out (Nat.le_refl _) HB.out.size HB.out)
        clear hrow5 hg
        go_wp2
        go_roundw
        case rel => exact ⟨k + 1, g5, cap, by omega, by go_num, rfl, HR5.out, HB5.out⟩
        case measure => simp [intOf]; omega
    · obtain rfl : k = n := by omega
      go_wp2
      go_ret
      exact ⟨g, c, rfl, (HRow.out.lt g rfl).1, BoolsAt.of_row HRow.out, HB.out⟩
/-- what the reference's Floats keeps between two rounds -/
structure RfS (w : World) (b : Nat) (ss : List ByteArray) (v : Value) (fs : List Fl) (W : World) : Prop where
  s : StrsAt W b 0 ss
  hl : b < w.heap.size
  row : W.ownsRow w.heap.size 149 4 v fs.length (flCells fs)
  bel : Below w.heap.size w W
theorem RfS.next {w W W' : World} {b : Nat} {ss : List ByteArray} {v : Value} {fs : List Fl} (h : RfS w b ss v fs W) (hb : Below W.heap.size W W') : RfS w b ss v fs W' :=
  ⟨h.s.below hb (Nat.lt_of_lt_of_le h.hl h.bel.size), h.hl, ownsRow_next h.row hb, h.bel.trans (hb.mono h.bel.size)⟩
theorem RfS.grew {w W W' : World} {b g5 cap : Nat} {ss : List ByteArray} {v : Value} {fs : List Fl} {f : Fl} (h : RfS w b ss v fs W) (hg : Grew w.heap.size 149 4 W W' v g5 cap (fs.length + 1) (flCells fs ++ f.cells)) :
    RfS w b ss (.slice (some ⟨g5, 0, none⟩) (fs.length + 1) cap) (fs ++ [f]) W' := by
  refine ⟨fun i hi => (hg.grow.cell_far ⟨b, 0 + i, none⟩ (Nat.lt_of_lt_of_le h.hl h.bel.size) (own_far h.row h.hl)).trans (h.s i hi), h.hl, ?_, hg.below h.row (Nat.le_refl _) h.bel.size h.bel⟩
  rw [List.length_append, List.length_singleton, flCells_snoc]
  exact hg.row
theorem RfS.ne {w W : World} {b q : Nat} {ss : List ByteArray} {v : Value} {fs : List Fl} (h : RfS w b ss v fs W) (hq : W.heap.size ≤ q) : some q ≠ v.ownBlock := fun e => by
  have := (ownBlock_ge h.row e.symm).2; omega
set_option maxRecDepth 100000 in
set_option maxHeartbeats 2000000 in
theorem refFloats3_ok (L T m b c : Nat) (ss : List ByteArray) (ps : List Nat) (w : World) (hT0 : 1 ≤ T) (hT1 : T ≤ 96) (hl : L ≤ 60) (hm : m ≤ 1000) (hC : ClS ss T ps) (hL : ps.length = L) (hlt : ∀ i, i < L → nthN ps i < 2 ^ T) (h1 : StrsAt w b 0 ss) (h2 : b < w.heap.size) :
    Calls Try.prog 46 #[.slice (some ⟨b, 0, none⟩) L c, .int .i64 (m : Int)] w fun e w' =>
      ∃ v, e = .returned v ∧ w'.ownsRow w.heap.size 149 4 v (upTo (flP T ps m) L).length (flCells (upTo (flP T ps m) L)) ∧ Below w.heap.size w w' := by
  obtain ⟨w1, hw1⟩ : ∃ w1, w1 = w.alloc (.cells #[] 149) := ⟨_, rfl⟩
  have hb1 : Below w.heap.size w w1 := by rw [hw1]; exact (Below.refl _ _).alloc (Nat.le_refl _) _
  have hr1 : w1.ownsRow w.heap.size 149 4 (.slice (some ⟨w.heap.size, 0, none⟩) 0 0) 0 [] := by
    rw [hw1]; exact World.ownsRow_made w #[] 0 (Nat.le_refl _) (Nat.zero_le _) rfl
  have H := Lib.hid (show RfS w b ss (.slice (some ⟨w.heap.size, 0, none⟩) 0 0) [] w1 from ⟨h1.below hb1 h2, h2, hr1, hb1⟩)
  have HLt := Lib.hid hlt
  have HC := Lib.hid hC
  have HL := Lib.hid hL
  have HW := Lib.hid hw1
  have hlen : ∀ i, (upTo (flP T ps m) i).length ≤ 96 * i := fun i => by
    induction i with
    | zero => simp [upTo]
    | succ i ih =>
      rw [upTo_succ, List.length_append]
      have h3 : (flP T ps m i).length ≤ T := Nat.le_trans (ringFl_len _ _ _) (runsOf_le T _ hT0)
      omega
  have HLen := Lib.hid hlen
  clear h1 h2 hr1 hb1 hw1 hlen hlt hC hL
  go_enter Try.func46, Try.ntmps46
  go_wp2_with fail
  rw [← HW.out]
  go_loopw [5, 6] (fun v i wr => ∃ k : Nat, k ≤ L ∧ i = .int .i64 (k : Int) ∧ RfS w b ss v (upTo (flP T ps m) k) wr) (fun _ i _ => L - (intOf i).toNat)
  case atStart => exact ⟨0, Nat.zero_le _, rfl, by simpa [upTo] using H.out⟩
  case round =>
    obtain ⟨k, hk, rfl, hS⟩ := hrel
    have HS := Lib.hid hS
    clear hS
    by_cases hlt : k < L
    · have hc := HS.out.s k (by rw [HC.out.len, HL.out]; exact hlt)
      rw [Nat.zero_add] at hc
      have hsb := HC.out.str k (by rw [HL.out]; exact hlt)
      have hp2 := HLt.out k hlt
      have hul := HLen.out k
      have hstep : upTo (flP T ps m) (k + 1) = upTo (flP T ps m) k ++ ringTo (fun f l t => ⟨k, f, l, t⟩) (m : Int) T (nthN ps k) T := by
        rw [upTo_succ, ringTo_eq _ _ _ _ hT0 hp2]; rfl
      obtain ⟨s, hs⟩ : ∃ s, nthB ss k = s := ⟨_, rfl⟩
      obtain ⟨p, hp⟩ : ∃ p, nthN ps k = p := ⟨_, rfl⟩
      rw [hs] at hc hsb
      rw [hp] at hsb hp2 hstep
      obtain ⟨us, hus⟩ : ∃ us, upTo (flP T ps m) k = us := ⟨_, rfl⟩
      rw [hus] at HS hul hstep
      have Hp2 := Lib.hid hp2
      have Hstep := Lib.hid hstep
      have Hsb := Lib.hid hsb
      have Hul := Lib.hid hul
      have hk0 : (0 : Int) ≤ (k : Int) := by omega
      have hk1 : (k : Int) < (L : Int) := by omega
      clear hs hp hus hstep hp2 hsb hul
      go_wp2_with fail
      refine (refPts3_ok s T p _ hT1 Hsb.out).mono ?_
      rintro e w2 ⟨q, cq, rfl, hq, hB2, hb2⟩
      have HQ := Lib.hid (show RfS w b ss u5 us w2 ∧ BoolsAt w2 q T (bitN p) ∧ some q ≠ Value.ownBlock u5 from ⟨HS.out.next hb2, hB2, HS.out.ne hq⟩)
      clear hb2 hB2 hq hc HS
      go_wp2_with fail
      go_loopw [5, 8] (fun v i wz => ∃ j : Nat, j ≤ T ∧ i = .int .i64 (j : Int) ∧ RfS w b ss v (us ++ ringTo (fun f l t => ⟨k, f, l, t⟩) (m : Int) T p j) wz ∧ BoolsAt wz q T (bitN p) ∧ some q ≠ v.ownBlock) (fun _ i _ => T - (intOf i).toNat)
      case atStart => exact ⟨0, Nat.zero_le _, rfl, by simpa [ringTo] using HQ.out.1, HQ.out.2⟩
      case round =>
        obtain ⟨j, hj, rfl, hS, hBj, hne⟩ := hrel
        by_cases hjl : j < T
        · have HL1 := Lng_any q cq T p j _ wr hT0 hT1 Hp2.out hjl hBj (fun _ _ => rfl)
          have e3 := hBj.c j hjl
          have hst : us ++ ringTo (fun f l t => (⟨k, f, l, t⟩ : Fl)) (m : Int) T p (j + 1) = us ++ ringTo (fun f l t => ⟨k, f, l, t⟩) (m : Int) T p j ++ (if lenAt T p j = 0 ∨ (lenAt T p j : Int) ≤ (m : Int) then [] else [⟨k, j, lenAt T p j, bitN p j⟩]) := by
            rw [List.append_assoc]; rfl
          have hrl := ringTo_len (fun f l t => (⟨k, f, l, t⟩ : Fl)) (m : Int) T p j
          obtain ⟨R, hR⟩ : ∃ R, lenAt T p j = R := ⟨_, rfl⟩
          obtain ⟨bt, hbt⟩ : ∃ bt, bitN p j = bt := ⟨_, rfl⟩
          obtain ⟨rs, hrs⟩ : ∃ rs, us ++ ringTo (fun f l t => (⟨k, f, l, t⟩ : Fl)) (m : Int) T p j = rs := ⟨_, rfl⟩
          have hrsl : rs.length ≤ 10000 := by rw [← hrs, List.length_append]; have := Hul.out; omega
          rw [hR] at HL1
          rw [hR, hbt, hrs] at hst
          rw [hbt] at e3
          rw [hrs] at hS
          have HS := Lib.hid hS
          have HBj := Lib.hid hBj
          have Hne := Lib.hid hne
          have Hst := Lib.hid hst
          have hj0 : (0 : Int) ≤ (j : Int) := by omega
          have hj1 : (j : Int) < (T : Int) := by omega
          clear hS hBj hne hst hrl hR hbt hrs HQ
          go_wp2_with fail
          refine HL1.mono ?_
          rintro e w3 ⟨rfl, hb3⟩
          have e3' := (hb3.cell (p := ⟨q, j, none⟩) HBj.out.lt).trans e3
          have HS3 := Lib.hid (HS.out.next hb3)
          have HB3 := Lib.hid (HBj.out.below hb3 HBj.out.lt)
          clear hb3 e3 HS HBj HL1
          by_cases hskip : R = 0 ∨ (R : Int) ≤ (m : Int)
          · have hfin : us ++ ringTo (fun f l t => (⟨k, f, l, t⟩ : Fl)) (m : Int) T p (j + 1) = rs := by rw [Hst.out, if_pos hskip, List.append_nil]
            have HFin := Lib.hid hfin
            have Hsk := Lib.hid hskip
            clear hskip hfin e3'
            rcases Nat.eq_zero_or_pos R with hR0 | hR0
            · have hd : decide ((0 : Int) < (R : Int)) = false := decide_eq_false (by omega)
              have hd1 : decide (0 < R) = false := decide_eq_false (by omega)
              clear hR0
              go_wp2_with fail
              exact ⟨⟨j + 1, by omega, by go_num, by rw [HFin.out]; exact HS3.out, HB3.out, Hne.out⟩, by simp [intOf]; omega⟩
            · have hd : decide ((0 : Int) < (R : Int)) = true := decide_eq_true (by omega)
              have hd2 : decide ((m : Int) < (R : Int)) = false := decide_eq_false (by have := Hsk.out; omega)
              have hd1 : decide (0 < R) = true := decide_eq_true (by omega)
              have hd3 : decide (m < R) = false := decide_eq_false (by have := Hsk.out; omega)
              go_wp2_with fail
              exact ⟨⟨j + 1, by omega, by go_num, by rw [HFin.out]; exact HS3.out, HB3.out, Hne.out⟩, by simp [intOf]; omega⟩
          · have hfin : us ++ ringTo (fun f l t => (⟨k, f, l, t⟩ : Fl)) (m : Int) T p (j + 1) = rs ++ [⟨k, j, R, bt⟩] := by rw [Hst.out, if_neg hskip]
            have HFin := Lib.hid hfin
            have hd : decide ((0 : Int) < (R : Int)) = true := decide_eq_true (by omega)
            have hd2 : decide ((m : Int) < (R : Int)) = true := decide_eq_true (by omega)
            have hd1 : decide (0 < R) = true := decide_eq_true (by omega)
            have hd3 : decide (m < R) = true := decide_eq_true (by omega)
            clear hskip hfin
            go_wp2_with (at_builtin; refine Shut.out ?_)
            unfold Shut
            refine app_one elemFl rfl _ _ rfl w.heap.size u5 rs.length (flCells rs) #[.int .i64 (k : Int), .int .i64 (j : Int), .int .i64 (R : Int), .bool bt] rfl HS3.out.row rfl rfl (by simp [Value.oneCell']) (by omega) (by decide) HS3.out.bel.size ?_
            intro g5 cap w5 hg
            have hg' := Lib.hid (show Grew w.heap.size 149 4 _ w5 u5 g5 cap (rs.length + 1) (flCells rs ++ (⟨k, j, R, bt⟩ : Fl).cells) from hg)
            have HS5 := Lib.hid (HS3.out.grew hg'.out)
            have HB5 := Lib.hid (HB3.out.kept hg'.out.grow Hne.out)
            have Hne5 := Lib.hid (show some q ≠ (Value.slice (some ⟨g5, 0, none⟩) (rs.length + 1) cap).ownBlock from fun e => by
              have e' : q = g5 := by simpa [Value.ownBlock] using e
              rcases hg'.out.at' with h | h
              · exact Hne.out (by rw [h, e'])
              · have := HB3.out.lt; omega)
            clear hg hg' e3'
            go_wp2
            go_roundw
            case rel => exact ⟨j + 1, by omega, by go_num, by rw [HFin.out]; exact HS5.out, HB5.out, Hne5.out⟩
            case measure => simp [intOf]; omega
        · obtain rfl : j = T := by omega
          have HS := Lib.hid hS
          clear hS hBj hne HQ
          go_wp2
          go_roundw
          case rel => exact ⟨k + 1, by omega, by go_num, by rw [Hstep.out]; exact HS.out⟩
          case measure => simp [intOf]; omega
    · obtain rfl : k = L := by omega
      go_wp2
      go_ret
      exact ⟨_, rfl, HS.out.row, HS.out.bel⟩
end Go.Proofs.Ytdmgffoikebgkaa
/- TieWeaves: its region of copies. -/
namespace Go.Proofs.Ytdmgffoikebgkaa
open Go.RowKit Go.Shelf
attribute [local go_sem] Oper.semAt_some

def region_wv3U : List (List Nat) := [[], [1], [], [3], [4], [5], [1, 4], [3, 5]]
def region_wv3X (_Za _Zb La Lb c1 c2 : Nat) (n1 n2 : Int) (p1 p2 : Option Addr) (_xs _ys : List Int) : Nat → (Nat → Hd) → Value
  | 0, _ => .agg #[.int .i64 n1, .slice p1 La c1]
  | 1, hds => .agg #[.int .i64 n1, .slice (some ⟨(hds 1).b, 0, none⟩) La (hds 1).c]
  | 2, _ => .agg #[.int .i64 n2, .slice p2 Lb c2]
  | 3, hds => .agg #[.int .i64 n2, .slice (some ⟨(hds 3).b, 0, none⟩) Lb (hds 3).c]
  | 4, hds => .pointer (some ⟨(hds 4).b, 0, none⟩)
  | 5, hds => .pointer (some ⟨(hds 5).b, 0, none⟩)
  | 6, _ => undef
  | 7, _ => undef
  | _ + 8, _ => undef
theorem region_wv3X.congr (Za Zb La Lb c1 c2 : Nat) (n1 n2 : Int) (p1 p2 : Option Addr) (xs ys : List Int) : ∀ i hds hds', (∀ r ∈ uOf region_wv3U i, hds r = hds' r) → region_wv3X Za Zb La Lb c1 c2 n1 n2 p1 p2 xs ys i hds = region_wv3X Za Zb La Lb c1 c2 n1 n2 p1 p2 xs ys i hds'
  | 0, _, _, _ => rfl
  | 1, hds, hds', h => by simp only [region_wv3X, h 1 (show 1 ∈ uOf region_wv3U 1 by decide)]
  | 2, _, _, _ => rfl
  | 3, hds, hds', h => by simp only [region_wv3X, h 3 (show 3 ∈ uOf region_wv3U 3 by decide)]
  | 4, hds, hds', h => by simp only [region_wv3X, h 4 (show 4 ∈ uOf region_wv3U 4 by decide)]
  | 5, hds, hds', h => by simp only [region_wv3X, h 5 (show 5 ∈ uOf region_wv3U 5 by decide)]
  | 6, _, _, _ => rfl
  | 7, _, _, _ => rfl
  | _ + 8, _, _, _ => rfl
def region_wv3M (_Za _Zb La Lb _c1 _c2 : Nat) (_n1 _n2 : Int) (_p1 _p2 : Option Addr) (xs ys : List Int) : Nat → Mem
  | 1 => memRd La xs
  | 3 => memRd Lb ys
  | 4 => memBox 2 26
  | 5 => memBox 2 37
  | _ => memNone
def region_wv3S (_Za _Zb La Lb _c1 _c2 : Nat) (n1 n2 : Int) (_p1 _p2 : Option Addr) (_xs _ys : List Int) : Nat → Option Sto
  | 6 => some ⟨4, 26, fun hds => #[.int .i64 n1, .slice (some ⟨(hds 1).b, 0, none⟩) La (hds 1).c]⟩
  | 7 => some ⟨5, 37, fun hds => #[.int .i64 n2, .slice (some ⟨(hds 3).b, 0, none⟩) Lb (hds 3).c]⟩
  | _ => none
set_option maxRecDepth 8000 in
set_option maxHeartbeats 2000000 in
theorem region_wv3 {id : Nat} {ops : Array Oper} {Q : Exit → Act → World → Prop} {a : Act} {w : World} (Za Zb La Lb c1 c2 : Nat) (n1 n2 : Int) (p1 p2 : Option Addr) (xs ys : List Int) (Ha : ∀ W, Below w.heap.size w W → Calls Try.prog 28 #[.agg #[.int .i64 n1, .slice p1 La c1]] W fun e w' => ∃ g cap, e = .returned (.agg #[.int .i64 n1, .slice (some ⟨g, 0, none⟩) La cap]) ∧ Reads w' (.slice (some ⟨g, 0, none⟩) La cap) xs ∧ W.heap.size ≤ g ∧ g < w'.heap.size ∧ Below W.heap.size W w') (Hb : ∀ W, Below w.heap.size w W → Calls Try.prog 37 #[.agg #[.int .i64 n2, .slice p2 Lb c2]] W fun e w' => ∃ g cap, e = .returned (.agg #[.int .i64 n2, .slice (some ⟨g, 0, none⟩) Lb cap]) ∧ Reads w' (.slice (some ⟨g, 0, none⟩) Lb cap) ys ∧ W.heap.size ≤ g ∧ g < w'.heap.size ∧ Below W.heap.size W w') (hZa : BoxAt w Za #[.int .i64 n1, .slice p1 La c1] 26) (hZb : BoxAt w Zb #[.int .i64 n2, .slice p2 Lb c2] 37)
    (gsize : ops.size = 8)
    (gops : IsOp ops 0 (some 19) (.load 26 (.tmp 3)) none [] ∧ IsOp ops 1 (some 20) (.call { callee := .value (.func 28), args := #[.tmp 19], argTypes := #[26] }) none [0] ∧ IsOp ops 2 (some 21) (.load 37 (.tmp 4)) none [] ∧ IsOp ops 3 (some 22) (.call { callee := .value (.func 37), args := #[.tmp 21], argTypes := #[37] }) none [2] ∧ IsOp ops 4 (some 7) (.alloc 26) none [] ∧ IsOp ops 5 (some 8) (.alloc 37) none [] ∧ IsOp ops 6 none (.store 26 (.tmp 7) (.tmp 20)) none [1, 4] ∧ IsOp ops 7 none (.store 37 (.tmp 8) (.tmp 22)) none [3, 5])
    (gbk : backB ops = true) (gds : dstsB ops (dOf [some 19, some 20, some 21, some 22, some 7, some 8, none, none]) = true) (gus : useB ops (uOf region_wv3U) (kOf [0, 1, 0, 1, 1, 1, 6, 7]) = true) (ggd : plainB ops = true) (gsz : ∀ e ∈ [19, 20, 21, 22, 7, 8], e < a.tmps.size)
    (gout : a.eval (.tmp 3) = .pointer (some ⟨Za, 0, none⟩) ∧ a.eval (.tmp 4) = .pointer (some ⟨Zb, 0, none⟩))
    (gend : ∀ (g20 q20 G20 Q20 g22 q22 G22 Q22 g7 q7 G7 Q7 g8 q8 G8 Q8 : Nat) (P20 P22 P7 P8 : Option Addr) (u19 u20 u21 u22 : Value) (W : World), Below w.heap.size w W → (memRd La xs).P ⟨g20, q20, G20, Q20, P20⟩ W → (∀ b ∈ (memRd La xs).bl ⟨g20, q20, G20, Q20, P20⟩, w.heap.size ≤ b ∧ b < W.heap.size) → (memRd Lb ys).P ⟨g22, q22, G22, Q22, P22⟩ W → (∀ b ∈ (memRd Lb ys).bl ⟨g22, q22, G22, Q22, P22⟩, w.heap.size ≤ b ∧ b < W.heap.size) → w.heap.size ≤ g7 → g7 < W.heap.size → w.heap.size ≤ g8 → g8 < W.heap.size → BoxAt W g7 #[.int .i64 n1, .slice (some ⟨g20, 0, none⟩) La q20] 26 → BoxAt W g8 #[.int .i64 n2, .slice (some ⟨g22, 0, none⟩) Lb q22] 37 → Q .normal (putL a [(19, u19), (20, u20), (21, u21), (22, u22), (7, .pointer (some ⟨g7, 0, none⟩)), (8, .pointer (some ⟨g8, 0, none⟩))]) W) :
    (Code.region id ops true).wp Try.prog Q a w := by
  obtain ⟨iop0, iop1, iop2, iop3, iop4, iop5, iop6, iop7⟩ := gops
  obtain ⟨o3, o4⟩ := gout
  refine region_all (RSp.of 8 [some 19, some 20, some 21, some 22, some 7, some 8, none, none] (fun _ => true) (region_wv3X Za Zb La Lb c1 c2 n1 n2 p1 p2 xs ys) region_wv3U [0, 1, 0, 1, 1, 1, 6, 7] (region_wv3M Za Zb La Lb c1 c2 n1 n2 p1 p2 xs ys) (region_wv3S Za Zb La Lb c1 c2 n1 n2 p1 p2 xs ys)) [(3, .pointer (some ⟨Za, 0, none⟩)), (4, .pointer (some ⟨Zb, 0, none⟩))] [19, 20, 21, 22, 7, 8] (RSp.of_fit gsize.symm gbk gds gus ggd (by decide) ?_) (RSp.of_ok _ (region_wv3X.congr Za Zb La Lb c1 c2 n1 n2 p1 p2 xs ys) ?_) gsz ?_ ?_ ?_
  · intro p hp
    have hp2 : p ∈ [(6, 4), (7, 5)] := hp
    simp only [List.mem_cons, List.not_mem_nil, or_false] at hp2
    rcases hp2 with rfl | rfl
    · refine ⟨rfl, (show 4 ∈ uOf region_wv3U 6 by decide), fun _ => rfl, fun j hj hm => ?_⟩
      match j, hj, hm with
      | 0, _, _ => rfl
      | 1, _, _ => rfl
      | 2, _, _ => rfl
      | 3, _, _ => rfl
      | 4, _, _ => rfl
      | 5, _, _ => rfl
      | 6, hj, _ => exact absurd rfl hj
      | 7, _, hm => exact absurd hm (by decide)
      | _ + 8, _, _ => rfl
    · refine ⟨rfl, (show 5 ∈ uOf region_wv3U 7 by decide), fun _ => rfl, fun j hj hm => ?_⟩
      match j, hj, hm with
      | 0, _, _ => rfl
      | 1, _, _ => rfl
      | 2, _, _ => rfl
      | 3, _, _ => rfl
      | 4, _, _ => rfl
      | 5, _, _ => rfl
      | 6, _, hm => exact absurd hm (by decide)
      | 7, hj, _ => exact absurd rfl hj
      | _ + 8, _, _ => rfl
  · intro i s hds
    match i, hds with
    | 0, hds => cases hds
    | 1, hds => cases hds
    | 2, hds => cases hds
    | 3, hds => cases hds
    | 4, hds => cases hds
    | 5, hds => cases hds
    | 6, hds =>
      obtain rfl := Option.some.inj hds
      refine ⟨(show 4 ∈ uOf region_wv3U 6 by decide), fun _ => rfl, fun hds hds' h => ?_⟩
      simp only [h 1 (show 1 ∈ uOf region_wv3U 6 by decide)]
    | 7, hds =>
      obtain rfl := Option.some.inj hds
      refine ⟨(show 5 ∈ uOf region_wv3U 7 by decide), fun _ => rfl, fun hds hds' h => ?_⟩
      simp only [h 3 (show 3 ∈ uOf region_wv3U 7 by decide)]
    | _ + 8, hds => cases hds
  · intro q hq
    simp only [List.mem_cons, List.not_mem_nil, or_false] at hq
    rcases hq with rfl | rfl
    · exact ⟨o3, by simp⟩
    · exact ⟨o4, by simp⟩
  · intro i o ho hw
    have hi : i < 8 := by rw [← gsize]; exact (Array.getElem?_eq_some_iff.1 ho).1
    match i, hi with
    | 0, _ =>
      obtain ⟨ty, pos, aft, e, hdp⟩ := iop0
      rw [e] at ho
      obtain rfl := Option.some.inj ho
      intro a' hds W K hB lq ld hmem hK
      have e3 : a'.eval (.tmp 3) = .pointer (some ⟨Za, 0, none⟩) := by rw [eval_tmp]; exact lq (3, .pointer (some ⟨Za, 0, none⟩)) (by simp)
      have t3 := (eval_tmp a' 3).symm.trans e3
      have HK := Lib.hid (show K (a'.put (some 19) (.agg #[.int .i64 n1, .slice p1 La c1])) W from hK W (Below.refl _ _) trivial)
      clear hK ld lq hmem
      have c0 := (hZa.next hB).cell' 0 rfl
      have c1 := (hZa.next hB).cell' 1 rfl
      unfold Oper.wp
      simp only [execOp, e3]
      go_simp
      exact HK.out
    | 1, _ =>
      obtain ⟨ty, pos, aft, e, hdp⟩ := iop1
      rw [e] at ho
      obtain rfl := Option.some.inj ho
      intro a' hds W K hB lq ld hmem hK
      have e19 : a'.eval (.tmp 19) = .agg #[.int .i64 n1, .slice p1 La c1] := by rw [eval_tmp]; exact ld 0 19 (List.all_eq_true.1 hdp 0 (by decide)) rfl
      have t19 := (eval_tmp a' 19).symm.trans e19
      have HK := Lib.hid (show ∀ hh W', Below W.heap.size W W' → (memRd La xs).P hh W' → (∀ b ∈ (memRd La xs).bl hh, W.heap.size ≤ b ∧ b < W'.heap.size) → K (a'.put (some 20) (.agg #[.int .i64 n1, .slice (some ⟨hh.b, 0, none⟩) La hh.c])) W' from fun hh W' h1 h2 h3 => by
        have h4 : K (a'.put (some 20) (region_wv3X Za Zb La Lb c1 c2 n1 n2 p1 p2 xs ys 1 (updH hds 1 hh))) W' := hK hh W' h1 h2 h3 trivial
        simp only [region_wv3X, updH_same] at h4
        exact h4)
      clear hK ld lq hmem
      refine step_call (vals := #[.agg #[.int .i64 n1, .slice p1 La c1]]) (by exact ⟨_, _, Try.func28, by kernel_rfl, rfl⟩) (by simp only [List.map_toArray, List.map_cons, List.map_nil, e19]) (Ha W hB) ?_
      rintro e w' ⟨g, cap, rfl, hn, hl, hg, hb'⟩
      exact ⟨_, rfl, HK.out ⟨g, cap, 0, 0, none⟩ _ hb' hn (bd_one hl hg)⟩
    | 2, _ =>
      obtain ⟨ty, pos, aft, e, hdp⟩ := iop2
      rw [e] at ho
      obtain rfl := Option.some.inj ho
      intro a' hds W K hB lq ld hmem hK
      have e4 : a'.eval (.tmp 4) = .pointer (some ⟨Zb, 0, none⟩) := by rw [eval_tmp]; exact lq (4, .pointer (some ⟨Zb, 0, none⟩)) (by simp)
      have t4 := (eval_tmp a' 4).symm.trans e4
      have HK := Lib.hid (show K (a'.put (some 21) (.agg #[.int .i64 n2, .slice p2 Lb c2])) W from hK W (Below.refl _ _) trivial)
      clear hK ld lq hmem
      have c0 := (hZb.next hB).cell' 0 rfl
      have c1 := (hZb.next hB).cell' 1 rfl
      unfold Oper.wp
      simp only [execOp, e4]
      go_simp
      exact HK.out
    | 3, _ =>
      obtain ⟨ty, pos, aft, e, hdp⟩ := iop3
      rw [e] at ho
      obtain rfl := Option.some.inj ho
      intro a' hds W K hB lq ld hmem hK
      have e21 : a'.eval (.tmp 21) = .agg #[.int .i64 n2, .slice p2 Lb c2] := by rw [eval_tmp]; exact ld 2 21 (List.all_eq_true.1 hdp 2 (by decide)) rfl
      have t21 := (eval_tmp a' 21).symm.trans e21
      have HK := Lib.hid (show ∀ hh W', Below W.heap.size W W' → (memRd Lb ys).P hh W' → (∀ b ∈ (memRd Lb ys).bl hh, W.heap.size ≤ b ∧ b < W'.heap.size) → K (a'.put (some 22) (.agg #[.int .i64 n2, .slice (some ⟨hh.b, 0, none⟩) Lb hh.c])) W' from fun hh W' h1 h2 h3 => by
        have h4 : K (a'.put (some 22) (region_wv3X Za Zb La Lb c1 c2 n1 n2 p1 p2 xs ys 3 (updH hds 3 hh))) W' := hK hh W' h1 h2 h3 trivial
        simp only [region_wv3X, updH_same] at h4
        exact h4)
      clear hK ld lq hmem
      refine step_call (vals := #[.agg #[.int .i64 n2, .slice p2 Lb c2]]) (by exact ⟨_, _, Try.func37, by kernel_rfl, rfl⟩) (by simp only [List.map_toArray, List.map_cons, List.map_nil, e21]) (Hb W hB) ?_
      rintro e w' ⟨g, cap, rfl, hn, hl, hg, hb'⟩
      exact ⟨_, rfl, HK.out ⟨g, cap, 0, 0, none⟩ _ hb' hn (bd_one hl hg)⟩
    | 4, _ =>
      obtain ⟨ty, pos, aft, e, hdp⟩ := iop4
      rw [e] at ho
      obtain rfl := Option.some.inj ho
      intro a' hds W K hB lq ld hmem hK
      have HK := Lib.hid (show ∀ hh W', Below W.heap.size W W' → (memBox 2 26).P hh W' → (∀ b ∈ (memBox 2 26).bl hh, W.heap.size ≤ b ∧ b < W'.heap.size) → K (a'.put (some 7) (.pointer (some ⟨hh.b, 0, none⟩))) W' from fun hh W' h1 h2 h3 => by
        have h4 : K (a'.put (some 7) (region_wv3X Za Zb La Lb c1 c2 n1 n2 p1 p2 xs ys 4 (updH hds 4 hh))) W' := hK hh W' h1 h2 h3 trivial
        simp only [region_wv3X, updH_same] at h4
        exact h4)
      clear hK ld lq hmem
      have hfin := Lib.hid (HK.out ⟨W.heap.size, 0, 0, 0, none⟩ _ ((Below.refl _ _).alloc (Nat.le_refl _) (.cells #[.int .i64 0, .slice none 0 0] 26)) ⟨_, rfl, BoxAt.new W #[.int .i64 0, .slice none 0 0] 26⟩ (bd_one (Nat.le_refl _) (by simp)))
      clear HK
      unfold Oper.wp
      simp only [execOp]
      go_simp
      exact hfin.out
    | 5, _ =>
      obtain ⟨ty, pos, aft, e, hdp⟩ := iop5
      rw [e] at ho
      obtain rfl := Option.some.inj ho
      intro a' hds W K hB lq ld hmem hK
      have HK := Lib.hid (show ∀ hh W', Below W.heap.size W W' → (memBox 2 37).P hh W' → (∀ b ∈ (memBox 2 37).bl hh, W.heap.size ≤ b ∧ b < W'.heap.size) → K (a'.put (some 8) (.pointer (some ⟨hh.b, 0, none⟩))) W' from fun hh W' h1 h2 h3 => by
        have h4 : K (a'.put (some 8) (region_wv3X Za Zb La Lb c1 c2 n1 n2 p1 p2 xs ys 5 (updH hds 5 hh))) W' := hK hh W' h1 h2 h3 trivial
        simp only [region_wv3X, updH_same] at h4
        exact h4)
      clear hK ld lq hmem
      have hfin := Lib.hid (HK.out ⟨W.heap.size, 0, 0, 0, none⟩ _ ((Below.refl _ _).alloc (Nat.le_refl _) (.cells #[.int .i64 0, .slice none 0 0] 37)) ⟨_, rfl, BoxAt.new W #[.int .i64 0, .slice none 0 0] 37⟩ (bd_one (Nat.le_refl _) (by simp)))
      clear HK
      unfold Oper.wp
      simp only [execOp]
      go_simp
      exact hfin.out
    | 6, _ =>
      obtain ⟨ty, pos, aft, e, hdp⟩ := iop6
      rw [e] at ho
      obtain rfl := Option.some.inj ho
      intro a' hds W K hB lq ld hmem hK
      have e7 : a'.eval (.tmp 7) = .pointer (some ⟨(hds 4).b, 0, none⟩) := by rw [eval_tmp]; exact ld 4 7 (List.all_eq_true.1 hdp 4 (by decide)) rfl
      have t7 := (eval_tmp a' 7).symm.trans e7
      have e20 : a'.eval (.tmp 20) = .agg #[.int .i64 n1, .slice (some ⟨(hds 1).b, 0, none⟩) La (hds 1).c] := by rw [eval_tmp]; exact ld 1 20 (List.all_eq_true.1 hdp 1 (by decide)) rfl
      have t20 := (eval_tmp a' 20).symm.trans e20
      obtain ⟨⟨vs, hvs, hbx⟩, _⟩ := hmem 4 (show 4 ∈ uOf region_wv3U 6 by decide) (by decide)
      have hvl : vs.toList.length = 2 := by simpa using hvs
      obtain ⟨v0, v1, rfl⟩ : ∃ v0 v1, vs = #[v0, v1] := by
        cases vs with
        | mk l =>
          match l, hvl with
          | [v0, v1], _ => exact ⟨_, _, rfl⟩
      have HK := Lib.hid (show ∀ W', SetAt (hds 4).b W W' → (memBox 2 26).P (hds 4) W' → BoxAt W' (hds 4).b #[.int .i64 n1, .slice (some ⟨(hds 1).b, 0, none⟩) La (hds 1).c] 26 → K a' W' from hK)
      clear hK ld lq hmem
      have hfin := Lib.hid (HK.out _ (((SetAt.refl (hds 4).b W).cell 0 (.int .i64 n1)).cell 1 (.slice (some ⟨(hds 1).b, 0, none⟩) La (hds 1).c)) ⟨_, rfl, ((hbx).set 0 (.int .i64 n1)).set 1 (.slice (some ⟨(hds 1).b, 0, none⟩) La (hds 1).c)⟩ (((hbx).set 0 (.int .i64 n1)).set 1 (.slice (some ⟨(hds 1).b, 0, none⟩) La (hds 1).c)))
      have c0 := hbx.cell' 0 rfl
      have f0 := hbx.frozen 0
      have c1 := hbx.cell' 1 rfl
      have f1 := hbx.frozen 1
      have hlt := hbx.lt
      clear hbx hvl hvs HK
      generalize (hds 4).b = B at *
      unfold Oper.wp
      simp only [execOp, e7, e20]
      clear e7 e20
      go_simp
      exact hfin.out
    | 7, _ =>
      obtain ⟨ty, pos, aft, e, hdp⟩ := iop7
      rw [e] at ho
      obtain rfl := Option.some.inj ho
      intro a' hds W K hB lq ld hmem hK
      have e8 : a'.eval (.tmp 8) = .pointer (some ⟨(hds 5).b, 0, none⟩) := by rw [eval_tmp]; exact ld 5 8 (List.all_eq_true.1 hdp 5 (by decide)) rfl
      have t8 := (eval_tmp a' 8).symm.trans e8
      have e22 : a'.eval (.tmp 22) = .agg #[.int .i64 n2, .slice (some ⟨(hds 3).b, 0, none⟩) Lb (hds 3).c] := by rw [eval_tmp]; exact ld 3 22 (List.all_eq_true.1 hdp 3 (by decide)) rfl
      have t22 := (eval_tmp a' 22).symm.trans e22
      obtain ⟨⟨vs, hvs, hbx⟩, _⟩ := hmem 5 (show 5 ∈ uOf region_wv3U 7 by decide) (by decide)
      have hvl : vs.toList.length = 2 := by simpa using hvs
      obtain ⟨v0, v1, rfl⟩ : ∃ v0 v1, vs = #[v0, v1] := by
        cases vs with
        | mk l =>
          match l, hvl with
          | [v0, v1], _ => exact ⟨_, _, rfl⟩
      have HK := Lib.hid (show ∀ W', SetAt (hds 5).b W W' → (memBox 2 37).P (hds 5) W' → BoxAt W' (hds 5).b #[.int .i64 n2, .slice (some ⟨(hds 3).b, 0, none⟩) Lb (hds 3).c] 37 → K a' W' from hK)
      clear hK ld lq hmem
      have hfin := Lib.hid (HK.out _ (((SetAt.refl (hds 5).b W).cell 0 (.int .i64 n2)).cell 1 (.slice (some ⟨(hds 3).b, 0, none⟩) Lb (hds 3).c)) ⟨_, rfl, ((hbx).set 0 (.int .i64 n2)).set 1 (.slice (some ⟨(hds 3).b, 0, none⟩) Lb (hds 3).c)⟩ (((hbx).set 0 (.int .i64 n2)).set 1 (.slice (some ⟨(hds 3).b, 0, none⟩) Lb (hds 3).c)))
      have c0 := hbx.cell' 0 rfl
      have f0 := hbx.frozen 0
      have c1 := hbx.cell' 1 rfl
      have f1 := hbx.frozen 1
      have hlt := hbx.lt
      clear hbx hvl hvs HK
      generalize (hds 5).b = B at *
      unfold Oper.wp
      simp only [execOp, e8, e22]
      clear e8 e22
      go_simp
      exact hfin.out
    | i + 8, h => omega
  · intro hds v W hO
    have hfin := gend (hds 1).b (hds 1).c (hds 1).b2 (hds 1).c2 (hds 3).b (hds 3).c (hds 3).b2 (hds 3).c2 (hds 4).b (hds 4).c (hds 4).b2 (hds 4).c2 (hds 5).b (hds 5).c (hds 5).b2 (hds 5).c2 (hds 1).p (hds 3).p (hds 4).p (hds 5).p (v 19) (v 20) (v 21) (v 22) W hO.b (hO.m 1 (by show 1 < 8; decide) rfl).1 (hO.m 1 (by show 1 < 8; decide) rfl).2 (hO.m 3 (by show 3 < 8; decide) rfl).1 (hO.m 3 (by show 3 < 8; decide) rfl).2 ((hO.m 4 (by show 4 < 8; decide) rfl).2 _ (by show _ ∈ [_]; simp)).1 ((hO.m 4 (by show 4 < 8; decide) rfl).2 _ (by show _ ∈ [_]; simp)).2 ((hO.m 5 (by show 5 < 8; decide) rfl).2 _ (by show _ ∈ [_]; simp)).1 ((hO.m 5 (by show 5 < 8; decide) rfl).2 _ (by show _ ∈ [_]; simp)).2 (hO.s 6 (by show 6 < 8; decide) rfl) (hO.s 7 (by show 7 < 8; decide) rfl)
    rw [← laid_putL _ a v ?_] at hfin
    · exact hfin
    · intro p hp
      simp only [List.mem_cons, List.not_mem_nil, or_false] at hp
      rcases hp with rfl | rfl | rfl | rfl | rfl | rfl
      · rfl
      · rfl
      · rfl
      · rfl
      · exact hO.x 4 (show 4 < 8 by decide) 7 rfl
      · exact hO.x 5 (show 5 < 8 by decide) 8 rfl
end Go.Proofs.Ytdmgffoikebgkaa
