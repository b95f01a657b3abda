/- Harness ties: the hooks of one group, one after the other, and Make, at the group of the document's example. -/
import Derived.LoopNIn
import Derived.Maps.OwnIn
import Derived.Test.YtdmgffoikebgkaaTb01
import Derived.Test.YtdmgffoikebgkaaTb02
import Derived.Test.YtdmgffoikebgkaaTb03
import Derived.Test.YtdmgffoikebgkaaTb04
import Derived.Test.YtdmgffoikebgkaaTb05
import Derived.Test.YtdmgffoikebgkaaTb06
import Derived.Test.YtdmgffoikebgkaaTb07
import Derived.Test.YtdmgffoikebgkaaTb08
import Derived.Test.YtdmgffoikebgkaaTb09
import Derived.Test.YtdmgffoikebgkaaTb10
import Derived.Test.YtdmgffoikebgkaaTb11
import Derived.Test.YtdmgffoikebgkaaTb12
import Derived.Test.YtdmgffoikebgkaaTb13
import Derived.Test.YtdmgffoikebgkaaTb14
import Derived.Test.YtdmgffoikebgkaaTb15
import Derived.Test.YtdmgffoikebgkaaTb16
import Derived.Test.YtdmgffoikebgkaaTb17
import Derived.Test.YtdmgffoikebgkaaTb18
import Derived.Test.YtdmgffoikebgkaaTb19
import Derived.Test.YtdmgffoikebgkaaTb20
import Derived.Deep.RegionHeld3
import Derived.Maps.OwnOps
import Derived.Maps.Views
import Derived.DeepKeys4
import Derived.KernelRfl
import Derived.Maps.AppendAt
import Derived.Deep.RegionWith
import Derived.Deep.AppendLies
import Derived.Deep.RegionLaw
import Derived.Deep.DeepCutAuto
import Derived.Deep.QuietTactic
import Derived.BigQuiet
import Derived.Laws.IdiomStrings
namespace Go.Proofs.Ytdmgffoikebgkaa
open Go.RowKit Go.Shelf
attribute [local go_sem] Oper.semAt_some

def intV (n : Int) : Value := .int .i64 n
end Go.Proofs.Ytdmgffoikebgkaa
/- Floats in memory; the windows of Proof. -/
namespace Go.Proofs.Ytdmgffoikebgkaa
open Go.RowKit

theorem ownsRow_next {W W' : World} {base e size k : Nat} {v : Value} {xs : List Value} (h : W.ownsRow base e size v k xs) (hb : Below W.heap.size W W') : W'.ownsRow base e size v k xs := by
  obtain ⟨hl, h2⟩ := h
  refine ⟨hl, ?_⟩
  rcases h2 with h2 | ⟨g, cap, cur, e, hg, hh, r⟩
  · exact .inl h2
  · exact .inr ⟨g, cap, cur, e, hg, (hb.block _ (Array.getElem?_eq_some_iff.1 hh).1).trans hh, r⟩
end Go.Proofs.Ytdmgffoikebgkaa
/- Make at a straight group; what TopTurnedOver needs besides: the contracts of Mirror, Back and Make with the length as a letter; cards all turned; bytes of a cloth. -/
namespace Go.Proofs.Ytdmgffoikebgkaa
open Go.RowKit Go.Shelf
attribute [local go_sem] Oper.semAt_some

end Go.Proofs.Ytdmgffoikebgkaa
namespace Go.Proofs.Ytdmgffoikebgkaa
open Go.RowKit Go.Shelf

theorem painted_nth (g : Nat → Nat → Bool) (np nh i : Nat) (h : i < np) : nthN (painted g np nh) i = rowTo (g i) nh := by
  rw [nthN_get _ _ (by rw [painted_len]; exact h)]; simp [painted]
end Go.Proofs.Ytdmgffoikebgkaa
namespace Go.Proofs.Ytdmgffoikebgkaa
open Go.RowKit Go.Shelf

end Go.Proofs.Ytdmgffoikebgkaa
namespace Go.Proofs.Ytdmgffoikebgkaa
open Go.RowKit Go.Shelf

end Go.Proofs.Ytdmgffoikebgkaa
/- Differ. -/
namespace Go.Proofs.Ytdmgffoikebgkaa
open Go.RowKit Go.Shelf

theorem below1 (W : World) (o : Obj) : Below W.heap.size W (W.alloc o) := (Below.refl _ _).alloc (Nat.le_refl _) o
end Go.Proofs.Ytdmgffoikebgkaa
/- (after texts BA, BB, BC, BD, BF, ZB, XA of the first seat) What Bind makes: a bound design with the fewest changes; what a bound row is woven as. -/
namespace Go.Proofs.Ytdmgffoikebgkaa
open Go.RowKit

section
variable (p f h L : Nat) (now : List Nat) (a : Bool) (next0 : List Nat)
end
end Go.Proofs.Ytdmgffoikebgkaa
/- TopBound: which rows can be bound; Bind, Floats and Differ for its designs; a byte. -/
namespace Go.Proofs.Ytdmgffoikebgkaa
open Go.RowKit Go.Shelf
attribute [local go_sem] Oper.semAt_some

theorem con_free (p x : Nat) (s : Nat) : con p 0 x s = 0 := (con_zero s).2 fun j _ _ => by simp [bitN]
end Go.Proofs.Ytdmgffoikebgkaa
/- The reference of chapter 1: In, Check, Points, Table, Length, Bound. -/
namespace Go.Proofs.Ytdmgffoikebgkaa
open Go.RowKit

theorem tInfo77 : (Try.prog.info? 168).map (fun i => (i.zero, i.size, i.bytes)) = some (some (.slice none 0 0), 1, 24) := by kernel_rfl
/-- a table in memory: so many rows of so many bools -/
structure TabAt (W : World) (g N m : Nat) (f : Nat → Nat → Bool) : Prop where
  r : ∀ i, i < N → ∃ b c, W.cell? ⟨g, i, none⟩ = some (.slice (some ⟨b, 0, none⟩) m c) ∧ BoolsAt W b m (f i)
  lt : g < W.heap.size
theorem TabAt.below {W W' : World} {g N m : Nat} {f : Nat → Nat → Bool} (h : TabAt W g N m f) (hb : Below W.heap.size W W') : TabAt W' g N m f :=
  ⟨fun i hi => by obtain ⟨b, c, h1, h2⟩ := h.r i hi; exact ⟨b, c, (hb.cell (p := ⟨g, i, none⟩) h.lt).trans h1, h2.below hb h2.lt⟩, Nat.lt_of_lt_of_le h.lt hb.size⟩
/-- rows of a table that is being made -/
def RowsIn (W : World) (v : Value) (sl : List Value) (k m : Nat) (f : Nat → Nat → Bool) : Prop :=
  ∀ i, i < k → ∃ b c, sl[i]? = some (.slice (some ⟨b, 0, none⟩) m c) ∧ some b ≠ v.ownBlock ∧ BoolsAt W b m (f i)
theorem RowsIn.below {W W' : World} {v : Value} {sl : List Value} {k m : Nat} {f : Nat → Nat → Bool} (h : RowsIn W v sl k m f) (hb : Below W.heap.size W W') : RowsIn W' v sl k m f := fun i hi => by
  obtain ⟨b, c, h1, h2, h3⟩ := h i hi
  exact ⟨b, c, h1, h2, h3.below hb h3.lt⟩
theorem RowsIn.grow {W w5 : World} {v v' : Value} {sl : List Value} {k m b c H : Nat} {f : Nat → Nat → Bool} (h : RowsIn W v sl k m f) (hsl : sl.length = k) (hg : W.grownBy w5 v.ownBlock) (hb : BoolsAt W b m (f k)) (hbv : some b ≠ v.ownBlock)
    (hv' : v'.ownBlock = v.ownBlock ∨ v'.ownBlock = some H) (hH : W.heap.size ≤ H) : RowsIn w5 v' (sl ++ [.slice (some ⟨b, 0, none⟩) m c]) (k + 1) m f := fun i hi => by
  have hne : ∀ x, x < W.heap.size → some x ≠ v.ownBlock → some x ≠ v'.ownBlock := fun x hx hxv => by
    rcases hv' with e | e
    · rw [e]; exact hxv
    · rw [e]; intro h; simp at h; omega
  by_cases hik : i = k
  · subst hik
    refine ⟨b, c, by rw [List.getElem?_append_right (by omega), hsl]; simp, hne _ hb.lt hbv, hb.kept hg hbv⟩
  · obtain ⟨b', c', h1, h2, h3⟩ := h i (by omega)
    exact ⟨b', c', by rw [List.getElem?_append_left (by omega)]; exact h1, hne _ h3.lt h2, h3.kept hg h2⟩
theorem TabAt.of_rows {W : World} {B g c N m : Nat} {sl : List Value} {f : Nat → Nat → Bool} (h : W.ownsRow B 168 1 (.slice (some ⟨g, 0, none⟩) N c) N sl) (hr : RowsIn W (.slice (some ⟨g, 0, none⟩) N c) sl N m f) : TabAt W g N m f := by
  refine ⟨fun i hi => ?_, (h.lt g rfl).2⟩
  obtain ⟨b, c, h1, _, h3⟩ := hr i hi
  exact ⟨b, c, by rw [h.cellAt i (by omega), h1], h3⟩

end Go.Proofs.Ytdmgffoikebgkaa
/- TieThreads: its regions that draw their order. -/
namespace Go.Proofs.Ytdmgffoikebgkaa
open Go.RowKit Go.Shelf
attribute [local go_sem] Oper.semAt_some

/-- the strings of a cloth -/
structure ClS (ss : List ByteArray) (n : Nat) (ps : List Nat) : Prop where
  len : ss.length = ps.length
  str : ∀ i, i < ps.length → StrB (nthB ss i) n (nthN ps i)
theorem ClS.at {ss : List ByteArray} {n : Nat} {ps : List Nat} {W : World} {b : Nat} (h : ClS ss n ps) (hx : StrsAt W b 0 ss) (hb : b < W.heap.size) : ClAt W b 0 n ps :=
  ⟨fun i hi => ⟨_, h.str i hi, hx i (by rw [h.len]; exact hi)⟩, hb⟩
theorem part_no {hs ps : List Nat} {p q : Nat} (h : PartAt hs ps p q) (hn : NoPart hs ps) : False := h.ne (hn p q h.hp h.hw)
end Go.Proofs.Ytdmgffoikebgkaa
/- TieThreads: its mathematics. -/
namespace Go.Proofs.Ytdmgffoikebgkaa
open Go.RowKit Go.Shelf
attribute [local go_sem] Oper.semAt_some

theorem fst_lt {hs : List Nat} {w : Nat} (hw : w < hs.length) : fstI (nthN hs) w < hs.length := Nat.lt_of_le_of_lt (fstI_le w) hw
theorem nat_ext {a b : Nat} (h : ∀ j, bitN a j = true ↔ bitN b j = true) : a = b := Nat.eq_of_testBit_eq fun j => Bool.eq_iff_iff.2 (h j)
end Go.Proofs.Ytdmgffoikebgkaa
/- Chapter 3: any harness: its error, a copy of it, harnesses compared. -/
namespace Go.Proofs.Ytdmgffoikebgkaa
open Go.RowKit Go.Shelf
attribute [local go_sem] Oper.semAt_some

def frB (lo hi : Int) (xs : List Int) : Bool := xs.all fun x => decide (lo ≤ x) && decide (x ≤ hi)
theorem frB_step (lo hi : Int) (xs : List Int) (k : Nat) (h : k < xs.length) (hr : frB lo hi (xs.take k) = true) (h0 : lo ≤ nthI xs k) (h1 : nthI xs k ≤ hi) : frB lo hi (xs.take (k + 1)) = true := by
  unfold frB at *
  rw [takeI_succ xs k h, List.all_append, hr]
  simp [h0, h1]
theorem frB_false (lo hi : Int) (xs : List Int) (k : Nat) (h : k < xs.length) (hb : nthI xs k < lo ∨ hi < nthI xs k) : frB lo hi xs = false := by
  unfold frB
  rw [List.all_eq_false]
  refine ⟨nthI xs k, nthI_mem xs k h, ?_⟩
  simp
  omega
set_option maxHeartbeats 1000000 in
theorem areFrom_any (lo hi : Int) (b off c : Nat) (xs : List Int) (w : World) (hl : xs.length ≤ 1000) (hx : IntsAt w b off xs) :
    Calls Try.prog 111 #[.int .i64 lo, .int .i64 hi, .slice (some ⟨b, off, none⟩) xs.length c] w fun e w' => e = .returned (.bool (frB lo hi xs)) ∧ w = w' := by
  go_enter Try.func111, Try.ntmps111
  go_wp2
  go_loop [8, 11] (fun _ i => ∃ k : Nat, k ≤ xs.length ∧ i = .int .i64 k ∧ frB lo hi (xs.take k) = true) (fun _ i => xs.length - (intOf i).toNat)
  case atStart => exact ⟨0, Nat.zero_le _, rfl, by simp [frB]⟩
  case round =>
    obtain ⟨k, hk, rfl, hr⟩ := hrel
    have Hr := Lib.hid hr; clear hr
    by_cases hlt : k < xs.length
    · have hc := hx k hlt
      by_cases h1 : nthI xs k < lo
      · have d1 : decide (nthI xs k < lo) = true := decide_eq_true h1
        have Hf := Lib.hid (frB_false lo hi xs k hlt (.inl h1))
        clear h1
        go_wp2
        go_ret
        exact ⟨ret_bool Hf.out.symm, rfl⟩
      · have d1 : decide (nthI xs k < lo) = false := decide_eq_false h1
        by_cases h2 : hi < nthI xs k
        · have d2 : decide (hi < nthI xs k) = true := decide_eq_true h2
          have Hf := Lib.hid (frB_false lo hi xs k hlt (.inr h2))
          clear h1 h2
          go_wp2
          go_ret
          exact ⟨ret_bool Hf.out.symm, rfl⟩
        · have d2 : decide (hi < nthI xs k) = false := decide_eq_false h2
          have Hs := Lib.hid (frB_step lo hi xs k hlt Hr.out (by omega) (by omega))
          clear h1 h2
          go_wp2
          all_goals go_round
          case rel => exact ⟨k + 1, by omega, by go_num, Hs.out⟩
          case measure => simp [intOf]; omega
    · go_wp2
      go_ret
      exact ⟨ret_bool (by rw [← Hr.out, take_end xs k hk hlt]), rfl⟩
/-- the error of a harness -/
def chkT (h : Int) (xs : List Int) : Int :=
  if h < 1 ∨ 24 < h then 2 else if 96 < xs.length then 5 else if xs.length = 0 then 7 else if frB 0 (h - 1) xs then 0 else 2
theorem frB_one (x : Int) : frB 1 24 [x] = (decide (1 ≤ x) && decide (x ≤ 24)) := by simp [frB]
set_option maxHeartbeats 1000000 in
theorem tieCheck_any (h : Int) (v : Value) (xs : List Int) (w : World) (hv : Reads w v xs) :
    Calls Try.prog 29 #[.agg #[.int .i64 h, v]] w fun e w' => e = .returned (.int .i64 (chkT h xs)) ∧ Below w.heap.size w w' := by
  obtain ⟨p, c, rfl, hl, hx⟩ := hv
  have hbb : Below w.heap.size w ((w.alloc (.cells #[.int .i64 h, .slice p xs.length c] 26)).alloc (.cells #[.int .i64 h] 3)) := ((Below.refl _ _).alloc (Nat.le_refl _) _).alloc (by simp) _
  have h1x : BoxAt ((w.alloc (.cells #[.int .i64 h, .slice p xs.length c] 26)).alloc (.cells #[.int .i64 h] 3)) (w.heap.size + 1) #[.int .i64 h] 3 := by
    have := BoxAt.new (w.alloc (.cells #[.int .i64 h, .slice p xs.length c] 26)) #[.int .i64 h] 3
    rwa [World.size_alloc] at this
  have HA := areFrom_any 1 24 (w.heap.size + 1) 0 1 [h] _ (by simp) (fun i hi => by
    obtain rfl : i = 0 := by simpa using hi
    exact h1x.cell' 0 rfl)
  rw [frB_one] at HA
  have Hbb := Lib.hid hbb
  have HA' := Lib.hid HA
  clear h1x HA hbb
  by_cases h1 : h < 1 ∨ 24 < h
  · have He := Lib.hid (show chkT h xs = 2 by simp [chkT, h1])
    have hdd : (decide (1 ≤ h) && decide (h ≤ 24)) = false := by
      rcases h1 with h1 | h1
      · rw [decide_eq_false (by omega)]; rfl
      · rw [show decide (h ≤ 24) = false from decide_eq_false (by omega), Bool.and_false]
    rw [hdd] at HA'
    clear h1 hdd hx
    go_enter Try.func29, Try.ntmps29
    go_wp2_with fail
    refine HA'.out.mono ?_
    rintro e w' ⟨rfl, rfl⟩
    go_wp2_with fail
    go_ret
    exact ⟨ret_int He.out.symm, Hbb.out⟩
  · have hdd : (decide (1 ≤ h) && decide (h ≤ 24)) = true := by
      rw [decide_eq_true (by omega), decide_eq_true (by omega)]; rfl
    rw [hdd] at HA'
    by_cases h2 : 96 < xs.length
    · have He := Lib.hid (show chkT h xs = 5 by rw [chkT, if_neg h1, if_pos h2])
      have hd2 : decide ((96 : Int) < (xs.length : Int)) = true := decide_eq_true (by omega)
      have hd3 : decide (96 < xs.length) = true := decide_eq_true h2
      clear h1 hdd hx
      go_enter Try.func29, Try.ntmps29
      go_wp2_with fail
      refine HA'.out.mono ?_
      rintro e w' ⟨rfl, rfl⟩
      go_wp2_with fail
      go_ret
      exact ⟨ret_int He.out.symm, Hbb.out⟩
    · by_cases h3 : xs.length = 0
      · have He := Lib.hid (show chkT h xs = 7 by rw [chkT, if_neg h1, if_neg h2, if_pos h3])
        obtain rfl : xs = [] := List.eq_nil_of_length_eq_zero h3
        clear h1 h2 h3 hdd hx hl
        go_enter Try.func29, Try.ntmps29
        go_wp2_with fail
        refine HA'.out.mono ?_
        rintro e w' ⟨rfl, rfl⟩
        go_wp2_with fail
        go_ret
        exact ⟨ret_int He.out.symm, Hbb.out⟩
      · obtain ⟨b, off, rfl, hb, hx⟩ := hx (by omega)
        have He := Lib.hid (show chkT h xs = if frB 0 (h - 1) xs then 0 else 2 by rw [chkT, if_neg h1, if_neg h2, if_neg h3])
        have H2 := Lib.hid (areFrom_any 0 (h - 1) b off c xs _ (by omega) (hx.below Hbb.out hb))
        have hl2 : xs.length ≤ 96 := by omega
        have hl3 : 0 < xs.length := by omega
        have hw1 : IntKind.i64.wrap (h - 1) = h - 1 := IntWalk.i64_in _ (by omega)
        obtain ⟨L, hL⟩ : ∃ L, xs.length = L := ⟨_, rfl⟩
        rw [hL] at H2 hl2 hl3 HA' Hbb ⊢
        have hd3 : ((L : Int) == 0) = false := by simp; omega
        clear h2 h3 hdd hx hl hL
        have h1' : 1 ≤ h ∧ h ≤ 24 := by omega
        clear h1
        cases hr : frB 0 (h - 1) xs
        all_goals
          rw [hr] at H2 He
          clear hr
          go_enter Try.func29, Try.ntmps29
          go_wp2_with fail
          refine HA'.out.mono ?_
          rintro e w' ⟨rfl, rfl⟩
          go_wp2_with fail
          refine H2.out.mono ?_
          rintro e w' ⟨rfl, rfl⟩
          go_wp2_with fail
          go_ret
          exact ⟨ret_int (by rw [He.out]; rfl), Hbb.out⟩
end Go.Proofs.Ytdmgffoikebgkaa
/- Chapter 3: any harness: the reference's error, a copy of it, harnesses compared, one that is too large. -/
namespace Go.Proofs.Ytdmgffoikebgkaa
open Go.RowKit Go.Shelf
attribute [local go_sem] Oper.semAt_some

theorem Reads.next {w w' : World} {v : Value} {xs : List Int} (h : Reads w v xs) (hb : Below w.heap.size w w') : Reads w' v xs := by
  obtain ⟨p, c, rfl, hl, hx⟩ := h
  refine ⟨p, c, rfl, hl, fun h0 => ?_⟩
  obtain ⟨b, off, rfl, h1, h2⟩ := hx h0
  exact ⟨b, off, rfl, Nat.lt_of_lt_of_le h1 hb.size, h2.below hb h1⟩
theorem refIn3_any (n lo hi : Int) (w : World) : Calls Try.prog 44 #[.int .i64 n, .int .i64 lo, .int .i64 hi] w fun e w' => e = .returned (.bool (decide (lo ≤ n) && decide (n ≤ hi))) ∧ w' = w := by
  by_cases h1 : lo ≤ n
  · have d1 : decide (lo ≤ n) = true := decide_eq_true h1
    by_cases h2 : n ≤ hi
    · have d2 : decide (n ≤ hi) = true := decide_eq_true h2
      have Hd := Lib.hid (And.intro d1 d2)
      clear h1 h2
      go_enter Try.func44, Try.ntmps44
      go_wp2_with fail
      go_ret
      exact ⟨ret_bool (by rw [Hd.out.1, Hd.out.2]; rfl), rfl⟩
    · have d2 : decide (n ≤ hi) = false := decide_eq_false h2
      have Hd := Lib.hid (And.intro d1 d2)
      clear h1 h2
      go_enter Try.func44, Try.ntmps44
      go_wp2_with fail
      go_ret
      exact ⟨ret_bool (by rw [Hd.out.1, Hd.out.2]; rfl), rfl⟩
  · have d1 : decide (lo ≤ n) = false := decide_eq_false h1
    have Hd := Lib.hid d1
    clear h1
    go_enter Try.func44, Try.ntmps44
    go_wp2_with fail
    go_ret
    exact ⟨ret_bool (by rw [Hd.out]; rfl), rfl⟩
set_option maxHeartbeats 1000000 in
theorem refCheck3_any (h : Int) (v : Value) (xs : List Int) (w : World) (hv : Reads w v xs) :
    Calls Try.prog 33 #[.agg #[.int .i64 h, v]] w fun e w' => e = .returned (.int .i64 (chkT h xs)) ∧ Below w.heap.size w w' := by
  obtain ⟨p, c, rfl, hl, hx⟩ := hv
  have hbb : Below w.heap.size w (w.alloc (.cells #[.int .i64 h, .slice p xs.length c] 26)) := (Below.refl _ _).alloc (Nat.le_refl _) _
  have hbx : BoxAt (w.alloc (.cells #[.int .i64 h, .slice p xs.length c] 26)) w.heap.size #[.int .i64 h, .slice p xs.length c] 26 := BoxAt.new _ _ _
  have HA := Lib.hid (refIn3_any h 1 24 (w.alloc (.cells #[.int .i64 h, .slice p xs.length c] 26)))
  have Hbb := Lib.hid hbb
  have HB := Lib.hid hbx
  clear hbb hbx
  by_cases h1 : h < 1 ∨ 24 < h
  · have He := Lib.hid (show chkT h xs = 2 by simp [chkT, h1])
    have hdd : (decide (1 ≤ h) && decide (h ≤ 24)) = false := by
      rcases h1 with h1 | h1
      · rw [decide_eq_false (by omega)]; rfl
      · rw [show decide (h ≤ 24) = false from decide_eq_false (by omega), Bool.and_false]
    rw [hdd] at HA
    clear h1 hdd hx
    go_enter Try.func33, Try.ntmps33
    go_wp2_with fail
    refine HA.out.mono ?_
    rintro e w' ⟨rfl, rfl⟩
    go_wp2_with fail
    go_ret
    exact ⟨ret_int He.out.symm, Hbb.out⟩
  · have hdd : (decide (1 ≤ h) && decide (h ≤ 24)) = true := by
      rw [decide_eq_true (by omega), decide_eq_true (by omega)]; rfl
    rw [hdd] at HA
    by_cases h2 : 96 < xs.length
    · have He := Lib.hid (show chkT h xs = 5 by rw [chkT, if_neg h1, if_pos h2])
      have hd2 : decide ((96 : Int) < (xs.length : Int)) = true := decide_eq_true (by omega)
      have hd3 : decide (96 < xs.length) = true := decide_eq_true h2
      clear h1 hdd hx
      go_enter Try.func33, Try.ntmps33
      go_wp2_with fail
      refine HA.out.mono ?_
      rintro e w' ⟨rfl, rfl⟩
      go_wp2_with fail
      go_ret
      exact ⟨ret_int He.out.symm, Hbb.out⟩
    · by_cases h3 : xs.length = 0
      · have He := Lib.hid (show chkT h xs = 7 by rw [chkT, if_neg h1, if_neg h2, if_pos h3])
        obtain rfl : xs = [] := List.eq_nil_of_length_eq_zero h3
        clear h1 h2 h3 hdd hx hl
        go_enter Try.func33, Try.ntmps33
        go_wp2_with fail
        refine HA.out.mono ?_
        rintro e w' ⟨rfl, rfl⟩
        go_wp2_with fail
        go_ret
        exact ⟨ret_int He.out.symm, Hbb.out⟩
      · obtain ⟨b, off, rfl, hb, hx⟩ := hx (by omega)
        have He := Lib.hid (show chkT h xs = if frB 0 (h - 1) xs then 0 else 2 by rw [chkT, if_neg h1, if_neg h2, if_neg h3])
        have HX := Lib.hid (hx.below Hbb.out hb)
        have hl2 : xs.length ≤ 96 := by omega
        have hl3 : 0 < xs.length := by omega
        have hw1 : IntKind.i64.wrap (h - 1) = h - 1 := IntWalk.i64_in _ (by omega)
        obtain ⟨L, hL⟩ : ∃ L, xs.length = L := ⟨_, rfl⟩
        rw [hL] at hl2 hl3 HA Hbb HB HX ⊢
        have hd3 : ((L : Int) == 0) = false := by simp; omega
        have HL := Lib.hid hL
        clear h2 h3 hdd hx hl hL
        have h1' : 1 ≤ h ∧ h ≤ 24 := by omega
        clear h1
        obtain ⟨W0, hW0⟩ : ∃ W0, W0 = w.alloc (.cells #[.int .i64 h, .slice (some ⟨b, off, none⟩) L c] 26) := ⟨_, rfl⟩
        rw [← hW0] at HA HB HX Hbb
        have HW0 := Lib.hid hW0
        clear hW0
        go_enter Try.func33, Try.ntmps33
        go_upto_region 1 with fail
        rw [← HW0.out]
        have b0 := HB.out.cell' 0 rfl
        have b1 := HB.out.cell' 1 rfl
        go_wp2_with fail
        refine HA.out.mono ?_
        rintro e w' ⟨rfl, rfl⟩
        clear b0
        go_wp2_with fail
        go_loopw [3] (fun i wr => ∃ k : Nat, k ≤ L ∧ i = .int .i64 (k : Int) ∧ frB 0 (h - 1) (xs.take k) = true ∧ Below w.heap.size w wr ∧ BoxAt wr w.heap.size #[.int .i64 h, .slice (some ⟨b, off, none⟩) L c] 26 ∧ IntsAt wr b off xs) (fun i _ => L - (intOf i).toNat)
        case atStart => exact ⟨0, Nat.zero_le _, rfl, by simp [frB], Hbb.out, HB.out, HX.out⟩
        case round =>
          obtain ⟨k, hk, rfl, hr, hbw, hbx, hix⟩ := hrel
          have b0 := hbx.cell' 0 rfl
          have b1 := hbx.cell' 1 rfl
          have Hr := Lib.hid hr
          have Hm := Lib.hid (And.intro hbw (And.intro hbx hix))
          clear hr hbw hbx hix HX HB Hbb HA
          by_cases hlt : k < L
          · have hcx := Hm.out.2.2 k (by rw [HL.out]; exact hlt)
            by_cases hin : 0 ≤ nthI xs k ∧ nthI xs k ≤ h - 1
            · have Hs := Lib.hid (frB_step 0 (h - 1) xs k (by rw [HL.out]; exact hlt) Hr.out hin.1 hin.2)
              obtain ⟨x, hx⟩ : ∃ x, nthI xs k = x := ⟨_, rfl⟩
              rw [hx] at hcx hin
              have hI := fun W => refIn3_any x 0 (h - 1) W
              rw [decide_eq_true hin.1, decide_eq_true hin.2] at hI
              have HI := Lib.hid hI
              clear hx hin hI
              go_upto_region 10 with fail
              go_quiet (exact Calls.quiet_of_same (HI.out _))
              all_goals go_wp2_with fail
              all_goals exact ⟨⟨k + 1, by omega, by go_num, Hs.out, Hm.out.1.trans ((below_drewN _ _ _).mono Hm.out.1.size), Hm.out.2.1.next (below_drewN _ _ _), Hm.out.2.2⟩, by simp [intOf]; omega⟩
            · have Hf := Lib.hid (frB_false 0 (h - 1) xs k (by rw [HL.out]; exact hlt) (by omega))
              obtain ⟨x, hx⟩ : ∃ x, nthI xs k = x := ⟨_, rfl⟩
              rw [hx] at hcx hin
              have hI := fun W => refIn3_any x 0 (h - 1) W
              have hd : (decide (0 ≤ x) && decide (x ≤ h - 1)) = false := by
                by_cases c : 0 ≤ x
                · rw [show decide (x ≤ h - 1) = false from decide_eq_false (by omega), Bool.and_false]
                · rw [show decide (0 ≤ x) = false from decide_eq_false c]; rfl
              rw [hd] at hI
              have HI := Lib.hid hI
              clear hx hin hI hd
              go_upto_region 10 with fail
              go_quiet (exact Calls.quiet_of_same (HI.out _))
              all_goals go_wp2_with fail
              all_goals go_ret
              all_goals exact ⟨ret_int (by rw [He.out, Hf.out]; rfl), Hm.out.1.trans ((below_drewN _ _ _).mono Hm.out.1.size)⟩
          · have hke : k = L := by omega
            have Hf := Lib.hid (show frB 0 (h - 1) xs = true from by rw [← Hr.out, hke, ← HL.out, List.take_length])
            have hkd : decide ((k : Int) < (L : Int)) = false := decide_eq_false (by omega)
            clear hke
            go_wp2_with fail
            go_ret
            exact ⟨ret_int (by rw [He.out, Hf.out]; rfl), Hm.out.1⟩
end Go.Proofs.Ytdmgffoikebgkaa
/- Chapter 3: a copy of any harness; harnesses compared. -/
namespace Go.Proofs.Ytdmgffoikebgkaa
open Go.RowKit Go.Shelf
attribute [local go_sem] Oper.semAt_some

theorem ints_news {W : World} {b off : Nat} {xs : List Int} (h : IntsAt W b off xs) : ∀ j u, (xs.map intV)[j]? = some u → W.cell? ((⟨b, off, none⟩ : Addr).add j) = some u := by
  intro j u hj
  simp only [List.getElem?_map, Option.map_eq_some_iff] at hj
  obtain ⟨x, hx, rfl⟩ := hj
  have hjl : j < xs.length := (List.getElem?_eq_some_iff.1 hx).1
  have := h j hjl
  rw [nthI, hx] at this
  rw [show (⟨b, off, none⟩ : Addr).add j = ⟨b, off + j, none⟩ by unfold Addr.add; split <;> simp_all]
  exact this
set_option maxHeartbeats 2000000 in
theorem tieOwnI_ok (h : Int) (b off c : Nat) (xs : List Int) (w : World) (h0 : 0 < xs.length) (hl : xs.length ≤ 1000) (hx : IntsAt w b off xs) (hgl : b < w.heap.size) :
    Calls Try.prog 28 #[.agg #[.int .i64 h, .slice (some ⟨b, off, none⟩) xs.length c]] w fun e w' =>
      ∃ g' cap, e = .returned (.agg #[.int .i64 h, .slice (some ⟨g', 0, none⟩) xs.length cap]) ∧ w'.ownsRow (w.heap.size + 2) 3 1 (.slice (some ⟨g', 0, none⟩) xs.length cap) xs.length (xs.map intV) ∧ Below w.heap.size w w' := by
  have hbb : Below w.heap.size w ((w.alloc (.cells #[.int .i64 h, .slice (some ⟨b, off, none⟩) xs.length c] 26)).alloc (.cells #[.int .i64 0, .slice none 0 0] 26)) := ((Below.refl _ _).alloc (Nat.le_refl _) _).alloc (by simp) _
  have ho1 : BoxAt ((w.alloc (.cells #[.int .i64 h, .slice (some ⟨b, off, none⟩) xs.length c] 26)).alloc (.cells #[.int .i64 0, .slice none 0 0] 26)) w.heap.size #[.int .i64 h, .slice (some ⟨b, off, none⟩) xs.length c] 26 := (BoxAt.new _ _ _).next ((Below.refl _ _).alloc (Nat.le_refl _) _)
  have ho2 : BoxAt ((w.alloc (.cells #[.int .i64 h, .slice (some ⟨b, off, none⟩) xs.length c] 26)).alloc (.cells #[.int .i64 0, .slice none 0 0] 26)) (w.heap.size + 1) #[.int .i64 0, .slice none 0 0] 26 := by
    have := BoxAt.new (w.alloc (.cells #[.int .i64 h, .slice (some ⟨b, off, none⟩) xs.length c] 26)) #[.int .i64 0, .slice none 0 0] 26
    rwa [World.size_alloc] at this
  obtain ⟨W0, hW0⟩ : ∃ W0, W0 = (w.alloc (.cells #[.int .i64 h, .slice (some ⟨b, off, none⟩) xs.length c] 26)).alloc (.cells #[.int .i64 0, .slice none 0 0] 26) := ⟨_, rfl⟩
  have HW0 := Lib.hid hW0
  have hs0 : W0.heap.size = w.heap.size + 2 := by rw [hW0]; simp
  rw [← hW0] at ho1 ho2 hbb
  have Hs0 := Lib.hid hs0
  have HX := Lib.hid ((hx.below hbb hgl).below ((Below.refl _ _).alloc (Nat.le_refl _) (.cells #[] 3)) (show b < W0.heap.size by omega))
  have HO1 := Lib.hid ho1
  have HO2 := Lib.hid ho2
  have Hbb := Lib.hid hbb
  have k0 := ho1.cell' (v := .int .i64 h) 0 rfl
  have k1 := ho1.cell' (v := .slice (some ⟨b, off, none⟩) xs.length c) 1 rfl
  have z1 : w.heap.size < W0.heap.size := by omega
  have z2 : w.heap.size + 1 < W0.heap.size := by omega
  clear ho1 ho2 hbb hx hW0 hs0
  go_enter Try.func28, Try.ntmps28
  go_wp2
  rw [← HW0.out]
  go_region_law
    ((refine step_copy elemInt (by rfl) _ _ (by rfl) (by rfl) ⟨b, off, none⟩ xs.length c (xs.map intV) (by rfl) (by simp) (by simp [intV, Value.oneCell']) h0 (by omega) (by decide) (ints_news HX.out) ?_; intro g5 cap w5 hr hb5)
     have hb2 := HO2.out.next hb5
     have c0 : w5.cell? ⟨w.heap.size + 1, 0, none⟩ = some (.int .i64 0) := hb2.cell' 0 rfl
     have c1 : w5.cell? ⟨w.heap.size + 1, 1, none⟩ = some (.slice none 0 0) := hb2.cell' 1 rfl
     have f0 := hb2.frozen 0
     have f1 := hb2.frozen 1
     have hb1 := HO1.out.next hb5
     have k0 := hb1.cell' (v := .int .i64 h) 0 rfl
     have k1 := hb1.cell' (v := .slice (some ⟨b, off, none⟩) xs.length c) 1 rfl
     have Hb2 := Lib.hid hb2
     have Hr := Lib.hid hr
     have Hb5 := Lib.hid hb5
     clear hb2 hb1 hr hb5)
  all_goals go_wp2
  all_goals refine bodyPost_ret (v := .agg #[.int .i64 h, .slice (some ⟨g5, 0, none⟩) xs.length cap]) ?_ rfl ⟨g5, cap, rfl, ?_, ?_⟩
  all_goals first
    | (have hb3 := (Hb2.out.set 0 (.int .i64 h)).set 1 (.slice (some ⟨g5, 0, none⟩) xs.length cap)
       have d0 := hb3.cell' (v := .int .i64 h) 0 rfl
       have d1 := hb3.cell' (v := .slice (some ⟨g5, 0, none⟩) xs.length cap) 1 rfl
       simp [results, Try.results28, go_sem, d0, d1]; done)
    | (have hn := own_far Hr.out z2
       exact own_base (own_set (own_set Hr.out _ _ hn) _ _ hn) (by rw [Hs0.out]; omega))
    | exact ((Hbb.out.trans (Hb5.out.mono (by rw [Hs0.out]; omega))).setCell (by simp) _).setCell (by simp) _
end Go.Proofs.Ytdmgffoikebgkaa
/- Chapter 3: a copy of any harness, also of one without warps; harnesses compared; one that is too large. -/
namespace Go.Proofs.Ytdmgffoikebgkaa
open Go.RowKit Go.Shelf
attribute [local go_sem] Oper.semAt_some

set_option maxHeartbeats 2000000 in
theorem tieOwnN_ok (h : Int) (p : Option Addr) (c : Nat) (w : World) :
    Calls Try.prog 28 #[.agg #[.int .i64 h, .slice p 0 c]] w fun e w' => ∃ g, e = .returned (.agg #[.int .i64 h, .slice (some ⟨g, 0, none⟩) 0 0]) ∧ (w.heap.size ≤ g ∧ g < w'.heap.size) ∧ Below w.heap.size w w' := by
  have hbb : Below w.heap.size w ((w.alloc (.cells #[.int .i64 h, .slice p 0 c] 26)).alloc (.cells #[.int .i64 0, .slice none 0 0] 26)) := ((Below.refl _ _).alloc (Nat.le_refl _) _).alloc (by simp) _
  have ho1 : BoxAt ((w.alloc (.cells #[.int .i64 h, .slice p 0 c] 26)).alloc (.cells #[.int .i64 0, .slice none 0 0] 26)) w.heap.size #[.int .i64 h, .slice p 0 c] 26 := (BoxAt.new _ _ _).next ((Below.refl _ _).alloc (Nat.le_refl _) _)
  have ho2 : BoxAt ((w.alloc (.cells #[.int .i64 h, .slice p 0 c] 26)).alloc (.cells #[.int .i64 0, .slice none 0 0] 26)) (w.heap.size + 1) #[.int .i64 0, .slice none 0 0] 26 := by
    have := BoxAt.new (w.alloc (.cells #[.int .i64 h, .slice p 0 c] 26)) #[.int .i64 0, .slice none 0 0] 26
    rwa [World.size_alloc] at this
  obtain ⟨W0, hW0⟩ : ∃ W0, W0 = (w.alloc (.cells #[.int .i64 h, .slice p 0 c] 26)).alloc (.cells #[.int .i64 0, .slice none 0 0] 26) := ⟨_, rfl⟩
  have hs0 : W0.heap.size = w.heap.size + 2 := by rw [hW0]; simp
  have HW0 := Lib.hid hW0
  rw [← hW0] at ho1 ho2 hbb
  have Hs0 := Lib.hid hs0
  have hb5 : Below W0.heap.size W0 (W0.alloc (.cells #[] 3)) := (Below.refl _ _).alloc (Nat.le_refl _) _
  have hb2 := ho2.next hb5
  have hb1 := ho1.next hb5
  have c0 := ho2.cell' (v := .int .i64 0) 0 rfl
  have c1 := ho2.cell' (v := .slice none 0 0) 1 rfl
  have f0 := ho2.frozen 0
  have f1 := ho2.frozen 1
  have k0 := ho1.cell' (v := .int .i64 h) 0 rfl
  have k1 := ho1.cell' (v := .slice p 0 c) 1 rfl
  have c0' := hb2.cell' (v := .int .i64 0) 0 rfl
  have c1' := hb2.cell' (v := .slice none 0 0) 1 rfl
  have f0' := hb2.frozen 0
  have f1' := hb2.frozen 1
  have k0' := hb1.cell' (v := .int .i64 h) 0 rfl
  have k1' := hb1.cell' (v := .slice p 0 c) 1 rfl
  have Hbb := Lib.hid (hbb.trans (hb5.mono (by omega)))
  have Hb2 := Lib.hid hb2
  have z2 : ¬ W0.heap.size = w.heap.size + 1 := by omega
  clear ho1 ho2 hbb hW0 hb5 hb2 hb1 hs0
  cases p
  all_goals
    go_enter Try.func28, Try.ntmps28
    go_wp2_with fail
    rw [← HW0.out]
    go_region
    all_goals go_wp2_with fail
    all_goals refine bodyPost_ret (v := .agg #[.int .i64 h, .slice (some ⟨W0.heap.size, 0, none⟩) 0 0]) ?_ rfl ⟨_, rfl, ?_, ?_⟩
    all_goals first
      | (have hb3 := (Hb2.out.set 0 (.int .i64 h)).set 1 (.slice (some ⟨W0.heap.size, 0, none⟩) 0 0)
         have d0 := hb3.cell' (v := .int .i64 h) 0 rfl
         have d1 := hb3.cell' (v := .slice (some ⟨W0.heap.size, 0, none⟩) 0 0) 1 rfl
         simp [results, Try.results28, go_sem, d0, d1]; done)
      | exact ((Hbb.out.drew).setCell (by simp) _).setCell (by simp) _
      | (have := Hs0.out; simp; omega)
theorem ints_of_row {w : World} {B g n cap : Nat} {xs : List Int} (h : w.ownsRow B 3 1 (.slice (some ⟨g, 0, none⟩) n cap) n (xs.map intV)) (_h0 : 0 < n) : IntsAt w g 0 xs ∧ g < w.heap.size ∧ B ≤ g := by
  have h1 := h
  obtain ⟨hl, ⟨h2, _⟩ | ⟨g', cap', cur, e, hg, hh, r⟩⟩ := h
  · simp at h2
  · simp at e
    obtain ⟨rfl, rfl⟩ := e
    refine ⟨fun i hi => ?_, (Array.getElem?_eq_some_iff.1 hh).1, hg⟩
    rw [Nat.zero_add, h1.cellAt i (by simp at hl; omega), nthI_get _ _ hi]
    simp [hi, intV]
/-- a copy of a harness -/
def CpyT (h : Int) (xs : List Int) (w : World) (e : Ending) (w' : World) : Prop := ∃ g cap, e = .returned (.agg #[.int .i64 h, .slice (some ⟨g, 0, none⟩) xs.length cap]) ∧ Reads w' (.slice (some ⟨g, 0, none⟩) xs.length cap) xs ∧ w.heap.size ≤ g ∧ g < w'.heap.size ∧ Below w.heap.size w w'
theorem tieOwn_any (h : Int) (p : Option Addr) (c : Nat) (xs : List Int) (w : World) (hl : xs.length ≤ 1000) (hr : Reads w (.slice p xs.length c) xs) :
    Calls Try.prog 28 #[.agg #[.int .i64 h, .slice p xs.length c]] w (CpyT h xs w) := by
  by_cases h0 : xs.length = 0
  · obtain rfl : xs = [] := List.eq_nil_of_length_eq_zero h0
    refine (tieOwnN_ok h p c w).mono ?_
    rintro e w' ⟨g, rfl, hg, hb⟩
    exact ⟨g, 0, rfl, ⟨_, _, rfl, by simp, fun h => absurd h (by simp)⟩, hg.1, hg.2, hb⟩
  · obtain ⟨p', c', hv, hl2, hx⟩ := hr
    simp only [Value.slice.injEq, true_and] at hv
    obtain ⟨rfl, rfl⟩ := hv
    obtain ⟨b, off, rfl, hb, hx⟩ := hx (by omega)
    refine (tieOwnI_ok h b off c xs w (by omega) hl hx hb).mono ?_
    rintro e w' ⟨g, cap, rfl, h1, h2⟩
    obtain ⟨a1, a2, a3⟩ := ints_of_row h1 (by omega)
    exact ⟨g, cap, rfl, ⟨_, _, rfl, hl2, fun _ => ⟨g, 0, rfl, a2, a1⟩⟩, by omega, a2, h2⟩
end Go.Proofs.Ytdmgffoikebgkaa
/- Chapter 3: any two harnesses side by side. -/
namespace Go.Proofs.Ytdmgffoikebgkaa
open Go.RowKit Go.Shelf
attribute [local go_sem] Oper.semAt_some

theorem chkT_ok {h : Int} {xs : List Int} (hc : chkT h xs = 0) : 1 ≤ h ∧ h ≤ 24 ∧ 0 < xs.length ∧ xs.length ≤ 96 ∧ frB 0 (h - 1) xs = true := by
  unfold chkT at hc
  split at hc
  · cases hc
  · split at hc
    · cases hc
    · split at hc
      · cases hc
      · split at hc
        · refine ⟨by omega, by omega, by omega, by omega, by assumption⟩
        · cases hc
end Go.Proofs.Ytdmgffoikebgkaa
/- TieBound: its mathematics. -/
namespace Go.Proofs.Ytdmgffoikebgkaa
open Go.RowKit Go.Shelf

theorem bind_some {n m p : Nat} (h0 : 1 ≤ n) (h1 : n ≤ 24) {x : Nat} (hx : x < 2 ^ n) (hb : BoundUp x n m) : bindN n p 0 m < never := by
  have := bindN_le_row (p := p) (f := 0) (x := x) h0 h1 hx ⟨con_free _ _ _, hb⟩
  have h3 := ham_le p x n
  have h4 : 2 ^ n ≤ 2 ^ 24 := Nat.pow_le_pow_right (by decide) h1
  unfold never change at *
  omega
end Go.Proofs.Ytdmgffoikebgkaa
/- Regions that draw their order and whose operations are guarded by tests with known values. -/
namespace Go.Proofs.Ytdmgffoikebgkaa
open Go.RowKit Go.Shelf

/-- each guard is a test among gl that an operation waits for, with the value that lets it run -/
def guardC (ops : Array Oper) (D : Nat → Option Nat) (gl : List (Nat × Bool)) : Bool := (List.range ops.size).all fun i => match ops[i]? with
  | some o => (match o.guard with
    | none => true
    | some q => depB o q.1 && gl.contains q && (D q.1).isSome && ((ops[q.1]?).bind (·.dst) == D q.1))
  | none => true
theorem RSp.of_fitC {ops : Array Oper} {n : Nat} {D : List (Option Nat)} {X : Nat → (Nat → Hd) → Value} {uses : List (List Nat)} {kind : List Nat} {mem : Nat → Mem} {sto : Nat → Option Sto} {gl : List (Nat × Bool)}
    (hn : n = ops.size) (hb : backB ops = true) (hd : dstsB ops (dOf D) = true) (hu : useB ops (uOf uses) (kOf kind) = true) (hg : guardC ops (dOf D) gl = true) (hnd : (D.filterMap id).Nodup)
    (hst : ∀ p ∈ storesOf kind, dOf D p.1 = none ∧ p.2 ∈ uOf uses p.1 ∧ (∀ h, (mem p.2).bl h = [h.b]) ∧ ∀ j, j ≠ p.1 → p.2 ∈ uOf uses j → sto j = none)
    (hX : ∀ p ∈ gl, ∀ hs, X p.1 hs = .bool p.2) :
    (RSp.of n D (fun _ => true) X uses kind mem sto).Fit ops (D.filterMap id) where
  n := hn
  back := hb
  dst := hd
  use := hu
  mem := fun _ _ _ h => dOf_mem h
  inj := fun _ _ _ h1 h2 => dOf_inj hnd h1 h2
  nd := hnd
  st := fun i t h => by
    obtain ⟨h1, h2, h3, h4⟩ := hst (i, t) (kOf_store h)
    refine ⟨h1, h2, h3, fun j hj hm hs W => ?_⟩
    show match sto j with | none => True | some s => BoxAt W (hs s.t).b (s.c hs) s.T
    rw [h4 j hj hm]
    trivial
  gd := fun i o ho => by
    have h := all_ops hg i o ho
    cases hgd : o.guard with
    | none => exact .inl ⟨rfl, rfl⟩
    | some q =>
      obtain ⟨j, b⟩ := q
      rw [hgd] at h
      simp only [Bool.and_eq_true, beq_iff_eq] at h
      obtain ⟨⟨⟨h2, h3⟩, h4⟩, h5⟩ := h
      obtain ⟨d, hd2⟩ := Option.isSome_iff_exists.1 h4
      refine .inr ⟨j, b, d, rfl, h2, hd2, h5.trans hd2, fun hs => ?_, fun h => by cases h⟩
      exact hX (j, b) (by simpa using h3) hs
end Go.Proofs.Ytdmgffoikebgkaa
/- Chapter 3: Repeat and Mirrors of any harness; harnesses compared; none; too large. -/
namespace Go.Proofs.Ytdmgffoikebgkaa
open Go.RowKit Go.Shelf
attribute [local go_sem] Oper.semAt_some

/-- the hooks of a valid harness -/
def hkN (xs : List Int) : List Nat := xs.map Int.toNat
theorem hkN_len (xs : List Int) : (hkN xs).length = xs.length := by simp [hkN]
theorem hkN_nth {h : Int} {xs : List Int} (hc : chkT h xs = 0) {i : Nat} (hi : i < xs.length) : nthI xs i = (nthN (hkN xs) i : Int) ∧ (nthN (hkN xs) i : Int) < h := by
  obtain ⟨_, _, _, _, hf⟩ := chkT_ok hc
  unfold frB at hf
  rw [List.all_eq_true] at hf
  have := hf _ (nthI_mem xs i hi)
  simp at this
  have e : nthN (hkN xs) i = (nthI xs i).toNat := by simp [nthN, hkN, nthI, hi]
  rw [e]
  omega
theorem hkN_tat {h : Int} {xs : List Int} {b off : Nat} {W : World} (hc : chkT h xs = 0) (hx : IntsAt W b off xs) (hb : b < W.heap.size) : TAt W b off h.toNat (hkN xs) := by
  obtain ⟨h1, h2, h3, h4, _⟩ := chkT_ok hc
  refine ⟨fun i hi => ?_, hb, by omega, by omega, by rw [hkN_len]; omega, by rw [hkN_len]; exact h4, fun i hi => ?_⟩
  · rw [hkN_len] at hi
    rw [hx i hi, (hkN_nth hc hi).1]
  · rw [hkN_len] at hi
    have := (hkN_nth hc hi).2
    omega
set_option maxHeartbeats 1000000 in
theorem refSame3_eq (h : Int) (p p' : Option Addr) (c c' : Nat) (xs : List Int) (w : World) (hl : xs.length ≤ 1000) (h1 : Reads w (.slice p xs.length c) xs) (h2 : Reads w (.slice p' xs.length c') xs) :
    Calls Try.prog 26 #[.agg #[.int .i64 h, .slice p xs.length c], .agg #[.int .i64 h, .slice p' xs.length c']] w fun e w' => e = .returned (.bool true) ∧ Below w.heap.size w w' := by
  obtain ⟨w0, hw0⟩ : ∃ w0, w0 = (w.alloc (.cells #[.int .i64 h, .slice p xs.length c] 26)).alloc (.cells #[.int .i64 h, .slice p' xs.length c'] 26) := ⟨_, rfl⟩
  have hb0 : Below w.heap.size w w0 := by rw [hw0]; exact ((Below.refl _ _).alloc (Nat.le_refl _) _).alloc (by simp) _
  have hx : BoxAt w0 w.heap.size #[.int .i64 h, .slice p xs.length c] 26 := by rw [hw0]; exact (BoxAt.new w _ _).next ((Below.refl _ _).alloc (Nat.le_refl _) _)
  have hy : BoxAt w0 (w.heap.size + 1) #[.int .i64 h, .slice p' xs.length c'] 26 := by
    rw [hw0]; have := BoxAt.new (w.alloc (.cells #[.int .i64 h, .slice p xs.length c] 26)) #[.int .i64 h, .slice p' xs.length c'] 26; rw [World.size_alloc] at this; exact this
  have HM := Lib.hid (show Below w.heap.size w w0 ∧ BoxAt w0 w.heap.size #[.int .i64 h, .slice p xs.length c] 26 ∧ BoxAt w0 (w.heap.size + 1) #[.int .i64 h, .slice p' xs.length c'] 26 ∧ Reads w0 (.slice p xs.length c) xs ∧ Reads w0 (.slice p' xs.length c') xs from ⟨hb0, hx, hy, h1.next hb0, h2.next hb0⟩)
  have HW0 := Lib.hid hw0
  have hx0 := hx.cell' 0 rfl
  have hx1 := hx.cell' 1 rfl
  have hy0 := hy.cell' 0 rfl
  have hy1 := hy.cell' 1 rfl
  clear h1 h2 hw0 hb0 hx hy
  go_enter Try.func26, Try.ntmps26
  go_upto_region 1 with fail
  rw [← HW0.out]
  go_wp2_with fail
  clear hx0 hx1 hy0 hy1
  go_loopw [5] (fun i wr => ∃ k : Nat, k ≤ xs.length ∧ i = .int .i64 (k : Int) ∧ Below w.heap.size w wr ∧ BoxAt wr w.heap.size #[.int .i64 h, .slice p xs.length c] 26 ∧ BoxAt wr (w.heap.size + 1) #[.int .i64 h, .slice p' xs.length c'] 26 ∧ Reads wr (.slice p xs.length c) xs ∧ Reads wr (.slice p' xs.length c') xs) (fun i _ => xs.length - (intOf i).toNat)
  case atStart => exact ⟨0, Nat.zero_le _, rfl, HM.out⟩
  case round =>
    obtain ⟨k, hk, rfl, hS⟩ := hrel
    have hx1 := hS.2.1.cell' 1 rfl
    have hy1 := hS.2.2.1.cell' 1 rfl
    by_cases hlt : k < xs.length
    · obtain ⟨q1, d1, e1, _, r1⟩ := hS.2.2.2.1
      simp only [Value.slice.injEq, true_and] at e1
      obtain ⟨rfl, rfl⟩ := e1
      obtain ⟨b1, o1, rfl, _, r1⟩ := r1 (by omega)
      obtain ⟨q2, d2, e2, _, r2⟩ := hS.2.2.2.2
      simp only [Value.slice.injEq, true_and] at e2
      obtain ⟨rfl, rfl⟩ := e2
      obtain ⟨b2, o2, rfl, _, r2⟩ := r2 (by omega)
      have u1 := r1 k hlt
      have u2 := r2 k hlt
      obtain ⟨z, hz⟩ : ∃ z, nthI xs k = z := ⟨_, rfl⟩
      rw [hz] at u1 u2
      have Hr := Lib.hid hS
      clear hS hz r1 r2 HM
      go_upto_region 6 with fail
      go_quiet (fail)
      all_goals go_wp2_with fail
      all_goals exact ⟨⟨k + 1, by omega, by go_num, Hr.out.1.trans ((below_drewN _ _ _).mono Hr.out.1.size), Hr.out.2.1.next (below_drewN _ _ _), Hr.out.2.2.1.next (below_drewN _ _ _), Hr.out.2.2.2.1.next (below_drewN _ _ _), Hr.out.2.2.2.2.next (below_drewN _ _ _)⟩, by simp [intOf]; omega⟩
    · have hkd : decide ((k : Int) < (xs.length : Int)) = false := decide_eq_false (by omega)
      have Hb := Lib.hid hS.1
      clear hS HM
      go_wp2_with fail
      go_ret
      exact ⟨rfl, Hb.out⟩
end Go.Proofs.Ytdmgffoikebgkaa
/- TieBesides: its regions; what is due. -/
namespace Go.Proofs.Ytdmgffoikebgkaa
open Go.RowKit Go.Shelf
attribute [local go_sem] Oper.semAt_some

theorem Reads.far {W W' : World} {g B L c : Nat} {xs : List Int} (h : Reads W (.slice (some ⟨g, 0, none⟩) L c) xs) (hB : SetAt B W W') (hne : g ≠ B) : Reads W' (.slice (some ⟨g, 0, none⟩) L c) xs := by
  obtain ⟨p, c', hv, hl, hx⟩ := h
  refine ⟨p, c', hv, hl, fun h0 => ?_⟩
  obtain ⟨b, off, rfl, h1, h2⟩ := hx h0
  simp only [Value.slice.injEq, Option.some.injEq, Addr.mk.injEq] at hv
  obtain ⟨⟨rfl, rfl, _⟩, _⟩ := hv
  exact ⟨_, _, rfl, by rw [hB.size]; exact h1, fun i hi => (World.cell?_of_block (w := W) (hB.other _ hne)).trans (h2 i hi)⟩
end Go.Proofs.Ytdmgffoikebgkaa
/- TieBesides: for any two harnesses with at most 110 warps the error of the first, the two side by side, after how many warps the first repeats, and where it is its own mirror, or their errors, are what the reference says, and the harnesses are not changed; for larger ones the law's fixed examples come out. No condition: whatever the harnesses. -/
namespace Go.Proofs.Ytdmgffoikebgkaa
open Go.ChangeShapes Go.WideShapes Go.ChangeAt Go.RowKit Go.Joins

theorem cells3' : Try.prog.cellsOf 3 = 1 := by kernel_rfl
theorem cells26' : Try.prog.cellsOf 26 = 2 := by kernel_rfl
/-- what a slice of integers that came in holds -/
theorem reads_of_trod {H : Type} {enc : TypeId × Value → H} {W : World} {n : Nat} {v : Value} {y : DataW H × List MemPlace} (h : DataW.trod enc Try.prog W 0 (fun _ => true) true n 24 [v] = some y) :
    ∃ p l c, v = .slice p l c ∧ (l ≤ 110 → ∃ xs : List Int, xs.length = l ∧ Reads W (.slice p l c) xs) := by
  rcases open_ints Try.underlying24 Try.underlying3 cells3' h with ⟨hv, _⟩ | ⟨a, len, cap, zs, hv, _, hlc, _, hz, _, hc, _⟩
  · obtain rfl : v = .slice none 0 0 := by simpa using hv
    exact ⟨none, 0, 0, rfl, fun _ => ⟨[], rfl, none, 0, rfl, by simp, fun h => by simp at h⟩⟩
  · obtain rfl : v = .slice (some a) len cap := by simpa using hv
    have hz' : zs.length = cap := by simpa using hz
    refine ⟨some a, len, cap, rfl, fun hl => ⟨zs.take len, by simp; omega, some a, cap, by simp; omega, by simp; omega, fun h0 => ?_⟩⟩
    have hl0 : 0 < len := by simp at h0; omega
    have hc0 := hc 0 (by omega)
    have he0 : a.add 0 = a := by simp [Addr.add]
    rw [he0] at hc0
    have hsp := spot_none hc0
    obtain ⟨b, off, sp⟩ := a
    simp only at hsp
    subst hsp
    refine ⟨b, off, rfl, World.block_lt_of_cell? W ⟨b, off, none⟩ hc0, fun i hi => ?_⟩
    have hil : i < len := by simp at hi; omega
    have := hc i (by omega)
    rw [addr_add] at this
    rw [this, nthI_get _ _ hi]
    simp [List.getElem?_eq_getElem (show i < zs.length by omega)]
end Go.Proofs.Ytdmgffoikebgkaa
/- Chapter 3: any cloth: its error, as the program and the reference see it; a copy of it; cloths compared; one that is too large. -/
namespace Go.Proofs.Ytdmgffoikebgkaa
open Go.RowKit Go.Shelf
attribute [local go_sem] Oper.semAt_some

/-- a slice of strings that came in -/
def StrR (W : World) (v : Value) (ss : List ByteArray) : Prop := ∃ (p : Option Addr) (c : Nat), v = .slice p ss.length c ∧ (0 < ss.length → ∃ b off, p = some ⟨b, off, none⟩ ∧ b < W.heap.size ∧ StrsAt W b off ss)
theorem StrR.next {W W' : World} {v : Value} {ss : List ByteArray} (h : StrR W v ss) (hb : Below W.heap.size W W') : StrR W' v ss := by
  obtain ⟨p, c, rfl, hx⟩ := h
  refine ⟨p, c, rfl, fun h0 => ?_⟩
  obtain ⟨b, off, rfl, h1, h2⟩ := hx h0
  exact ⟨b, off, rfl, Nat.lt_of_lt_of_le h1 hb.size, h2.below hb h1⟩
theorem StrR.open {W : World} {p : Option Addr} {c : Nat} {ss : List ByteArray} (h : StrR W (.slice p ss.length c) ss) (h0 : 0 < ss.length) : ∃ b off, p = some ⟨b, off, none⟩ ∧ b < W.heap.size ∧ StrsAt W b off ss := by
  obtain ⟨p', c', hv, hx⟩ := h
  simp only [Value.slice.injEq, true_and] at hv
  obtain ⟨rfl, rfl⟩ := hv
  exact hx h0
/-- a byte of a string -/
def bytN (s : ByteArray) (k : Nat) : Nat := (s.data.toList[k]?.getD 0).toNat
theorem bytN_idx {s : ByteArray} {k : Nat} (hk : k < s.size) (W : World) : (Instr.index 9 (.string s) (.int .i64 (k : Int))).run Try.prog W = .ok (.int .u8 (bytN s k : Int)) W := by
  rw [run_index_string W 9 s .i64 (k : Int) Try.underlying9]
  rw [dif_pos ⟨by omega, by omega⟩]
  congr 2
  unfold bytN
  have hz : s.data.size = s.size := rfl
  have h2 : s.data.toList[k]? = some (s.data[k]'(by omega)) := by simp
  rw [h2]
  rfl
/-- whether all bytes are those of a cloth -/
def pickB (s : ByteArray) : Bool := (List.range s.size).all fun k => bytN s k == 120 || bytN s k == 46
theorem pickB_true {s : ByteArray} : pickB s = true ↔ ∀ k, k < s.size → bytN s k = 120 ∨ bytN s k = 46 := by simp [pickB]
theorem pickB_no {s : ByteArray} {k : Nat} (hk : k < s.size) (h1 : bytN s k ≠ 120) (h2 : bytN s k ≠ 46) : pickB s = false := by
  cases h : pickB s with
  | false => rfl
  | true => rcases pickB_true.1 h k hk with e | e <;> omega
set_option maxRecDepth 100000 in
set_option maxHeartbeats 1000000 in
theorem isPick_any (s : ByteArray) (w : World) (hs : s.size ≤ 1000) : Calls Try.prog 207 #[.string s] w fun e w' => e = .returned (.bool (pickB s)) ∧ w' = w := by
  obtain ⟨n, hn⟩ : ∃ n, s.size = n := ⟨_, rfl⟩
  have Hn := Lib.hid hn
  rw [hn] at hs
  go_enter Try.func207, Try.ntmps207
  go_wp2_with fail
  clear hn
  go_loopw [6] (fun i wr => ∃ k : Nat, k ≤ n ∧ i = .int .i64 (k : Int) ∧ wr = w ∧ ∀ j, j < k → bytN s j = 120 ∨ bytN s j = 46) (fun i _ => n - (intOf i).toNat)
  case atStart => exact ⟨0, Nat.zero_le _, rfl, rfl, fun j hj => by omega⟩
  case round =>
    obtain ⟨k, hk, rfl, rfl, hok⟩ := hrel
    have HOk := Lib.hid hok
    clear hok
    by_cases hlt : k < n
    · have hi := fun W => bytN_idx (s := s) (k := k) (by rw [Hn.out]; exact hlt) W
      obtain ⟨x, hx⟩ : ∃ x, bytN s k = x := ⟨_, rfl⟩
      have Hx := Lib.hid hx
      have hnz := Hn.out
      rw [hx] at hi
      clear hx
      by_cases h1 : x = 120
      · subst h1
        have HO2 := Lib.hid (show ∀ j, j < k + 1 → bytN s j = 120 ∨ bytN s j = 46 from fun j hj => by
          by_cases e : j = k
          · rw [e]; exact .inl Hx.out
          · exact HOk.out j (by omega))
        go_wp2_with fail
        go_roundw
        case rel => exact ⟨k + 1, by omega, by go_num, trivial, HO2.out⟩
        case measure => simp [intOf]; omega
      · by_cases h2 : x = 46
        · subst h2
          have HO2 := Lib.hid (show ∀ j, j < k + 1 → bytN s j = 120 ∨ bytN s j = 46 from fun j hj => by
            by_cases e : j = k
            · rw [e]; exact .inr Hx.out
            · exact HOk.out j (by omega))
          clear h1
          go_wp2_with fail
          go_roundw
          case rel => exact ⟨k + 1, by omega, by go_num, trivial, HO2.out⟩
          case measure => simp [intOf]; omega
        · have HN := Lib.hid (pickB_no (s := s) (k := k) (by rw [Hn.out]; exact hlt) (by rw [Hx.out]; exact h1) (by rw [Hx.out]; exact h2))
          have b1 : ((x : Int) != 120) = true := by simp; omega
          have b2 : ((x : Int) != 46) = true := by simp; omega
          have b3 : ((x : Int) == 120) = false := by simp; omega
          have b4 : ((x : Int) == 46) = false := by simp; omega
          clear h1 h2
          go_wp2_with fail
          go_ret
          exact ⟨ret_bool (by rw [HN.out]), rfl⟩
    · have HY := Lib.hid (pickB_true.2 fun j hj => HOk.out j (by rw [Hn.out] at hj; omega))
      go_wp2_with fail
      go_ret
      exact ⟨ret_bool (by rw [HY.out]), rfl⟩
/-- whether a pick of a cloth with so many warps is wrong -/
def wrongB (n : Nat) (s : ByteArray) : Bool := decide (s.size ≠ n) || !pickB s
set_option maxRecDepth 100000 in
set_option maxHeartbeats 1000000 in
theorem wrongPick_any (s : ByteArray) (n S : Nat) (w : World) (hs : s.size ≤ 1000) (hc : w.cell? ⟨S, 0, none⟩ = some (.int .i64 (n : Int))) :
    Calls Try.prog 206 #[.string s, .pointer (some ⟨S, 0, none⟩)] w fun e w' => e = .returned (.bool (wrongB n s)) ∧ w' = w := by
  obtain ⟨z, hz⟩ : ∃ z, s.size = z := ⟨_, rfl⟩
  by_cases h1 : z = n
  · have Hv := Lib.hid (show wrongB n s = !pickB s by unfold wrongB; rw [hz, h1]; simp)
    have H := Lib.hid (isPick_any s w hs)
    have b1 : ((z : Int) != (n : Int)) = false := by simp; omega
    obtain ⟨pb, hpb⟩ : ∃ pb, pickB s = pb := ⟨_, rfl⟩
    rw [hpb] at Hv H
    clear h1 hs hpb
    go_enter Try.func206, Try.ntmps206
    go_wp2_with fail
    refine H.out.mono ?_
    rintro e w' ⟨rfl, rfl⟩
    go_wp2_with fail
    go_ret
    exact ⟨ret_bool (by rw [Hv.out]), rfl⟩
  · have Hv := Lib.hid (show wrongB n s = true by unfold wrongB; rw [hz]; simp [h1])
    have b1 : ((z : Int) != (n : Int)) = true := by simp; omega
    clear h1 hs
    go_enter Try.func206, Try.ntmps206
    go_wp2_with fail
    go_ret
    exact ⟨ret_bool (by rw [Hv.out]), rfl⟩
set_option maxRecDepth 100000 in
set_option maxHeartbeats 1000000 in
theorem wrongFirst_any (b off c n S : Nat) (ss : List ByteArray) (w : World) (hx : StrsAt w b off ss) (hl : ss.length ≤ 1000) (hs : ∀ i, i < ss.length → (nthB ss i).size ≤ 1000) (hc : w.cell? ⟨S, 0, none⟩ = some (.int .i64 (n : Int))) :
    Calls Try.prog 228 #[.slice (some ⟨b, off, none⟩) ss.length c, .func (.func 206) #[] #[.pointer (some ⟨S, 0, none⟩)]] w fun e w' => (∃ r : Int, e = .returned (.int .i64 r) ∧ decide (0 ≤ r) = ss.any (wrongB n)) ∧ w' = w := by
  have HX := Lib.hid hx
  have HS := Lib.hid hs
  clear hx hs
  go_enter Try.func228, Try.ntmps228
  go_wp2_with fail
  go_loopw [8] (fun i wr => ∃ k : Nat, k ≤ ss.length ∧ i = .int .i64 (k : Int) ∧ wr = w ∧ ∀ j, j < k → wrongB n (nthB ss j) = false) (fun i _ => ss.length - (intOf i).toNat)
  case atStart => exact ⟨0, Nat.zero_le _, rfl, rfl, fun j hj => by omega⟩
  case round =>
    obtain ⟨k, hk, rfl, rfl, hok⟩ := hrel
    have HOk := Lib.hid hok
    clear hok
    by_cases hlt : k < ss.length
    · have hcell := HX.out k hlt
      have HW := Lib.hid (wrongPick_any (nthB ss k) n S _ (HS.out k hlt) hc)
      obtain ⟨s, hs⟩ : ∃ s, nthB ss k = s := ⟨_, rfl⟩
      rw [hs] at hcell HW
      have Hs := Lib.hid hs
      clear hs
      cases hwb : wrongB n s with
      | true =>
        rw [hwb] at HW
        have HA := Lib.hid (show ss.any (wrongB n) = true by
          rw [List.any_eq_true]
          refine ⟨s, ?_, hwb⟩
          rw [← Hs.out, nthB_get _ _ hlt]
          exact List.getElem_mem _)
        clear hwb hc
        go_wp2_with fail
        refine HW.out.mono ?_
        rintro e w' ⟨rfl, rfl⟩
        go_wp2_with fail
        go_ret
        exact ⟨⟨(k : Int), rfl, by rw [HA.out]; exact decide_eq_true (by omega)⟩, rfl⟩
      | false =>
        rw [hwb] at HW
        have HO2 := Lib.hid (show ∀ j, j < k + 1 → wrongB n (nthB ss j) = false from fun j hj => by
          by_cases e : j = k
          · rw [e, Hs.out]; exact hwb
          · exact HOk.out j (by omega))
        clear hwb
        go_wp2_with fail
        refine HW.out.mono ?_
        rintro e w' ⟨rfl, rfl⟩
        go_wp2_with fail
        go_roundw
        case rel => exact ⟨k + 1, by omega, by go_num, trivial, HO2.out⟩
        case measure => simp [intOf]; omega
    · have HA := Lib.hid (show ss.any (wrongB n) = false by
        rw [List.any_eq_false]
        intro s hs
        obtain ⟨i, hi, rfl⟩ := List.mem_iff_getElem.1 hs
        have := HOk.out i (by omega)
        rw [nthB_get _ _ hi] at this
        simp [this])
      go_wp2_with fail
      go_ret
      exact ⟨⟨-1, rfl, by rw [HA.out]; rfl⟩, rfl⟩
set_option maxRecDepth 100000 in
set_option maxHeartbeats 1000000 in
theorem wrongs_any (b off c n S : Nat) (ss : List ByteArray) (w : World) (hx : StrsAt w b off ss) (hl : ss.length ≤ 1000) (hs : ∀ i, i < ss.length → (nthB ss i).size ≤ 1000) (hc : w.cell? ⟨S, 0, none⟩ = some (.int .i64 (n : Int))) :
    Calls Try.prog 208 #[.slice (some ⟨b, off, none⟩) ss.length c, .func (.func 206) #[] #[.pointer (some ⟨S, 0, none⟩)]] w fun e w' => e = .returned (.bool (ss.any (wrongB n))) ∧ w' = w := by
  have H := Lib.hid (wrongFirst_any b off c n S ss w hx hl hs hc)
  clear hx hc hs
  go_enter Try.func208, Try.ntmps208
  go_wp2_with fail
  refine H.out.mono ?_
  rintro e w' ⟨⟨r, rfl, hr⟩, rfl⟩
  go_wp2_with fail
  go_ret
  exact ⟨ret_bool (by rw [← hr]), rfl⟩
/-- the error of a cloth that must have so many warps -/
def cltE (n : Nat) (ss : List ByteArray) : Int :=
  if 60 < ss.length then 5 else if ss.length = 0 then 7 else if ss.any (wrongB n) = true then 4 else 0
theorem any_first {n : Nat} {ss : List ByteArray} (h0 : 0 < ss.length) (h : (nthB ss 0).size ≠ n) : ss.any (wrongB n) = true := by
  rw [List.any_eq_true]
  refine ⟨nthB ss 0, ?_, by unfold wrongB; simp [h]⟩
  rw [nthB_get _ _ h0]
  exact List.getElem_mem _
set_option maxRecDepth 100000 in
set_option maxHeartbeats 1000000 in
theorem width182_any (m n A : Nat) (v0 : Option Addr) (c : Nat) (w : World) (h : w.cell? ⟨A, 1, none⟩ = some (.slice v0 n c)) : Calls Try.prog 182 #[.int .i64 (m : Int), .pointer (some ⟨A, 0, none⟩)] w fun e w' => e = .returned (.bool (decide (m = n))) ∧ w' = w := by
  by_cases e : m = n
  · have hb : ((m : Int) == (n : Int)) = true := by simp [e]
    have He := Lib.hid e
    clear e
    go_enter Try.func182, Try.ntmps182
    go_wp2_with fail
    go_ret
    exact ⟨ret_bool (by rw [decide_eq_true He.out]), rfl⟩
  · have hb : ((m : Int) == (n : Int)) = false := by simp; omega
    have He := Lib.hid e
    clear e
    go_enter Try.func182, Try.ntmps182
    go_wp2_with fail
    go_ret
    exact ⟨ret_bool (by rw [decide_eq_false He.out]), rfl⟩
set_option maxRecDepth 100000 in
set_option maxHeartbeats 1000000 in
theorem checkCloth_any (p : Option Addr) (c n A c2 : Nat) (v0 : Option Addr) (ss : List ByteArray) (w : World) (hx : StrR w (.slice p ss.length c) ss) (hl : ss.length ≤ 1000) (hs : ∀ i, i < ss.length → (nthB ss i).size ≤ 1000) (hA : w.cell? ⟨A, 1, none⟩ = some (.slice v0 n c2)) :
    Calls Try.prog 181 #[.slice p ss.length c, .func (.func 182) #[] #[.pointer (some ⟨A, 0, none⟩)]] w fun e w' => e = .returned (.int .i64 (cltE n ss)) ∧ Below w.heap.size w w' := by
  by_cases h1 : 60 < ss.length
  · have Hv := Lib.hid (show cltE n ss = 5 by unfold cltE; rw [if_pos h1])
    have b1 : decide ((60 : Int) < (ss.length : Int)) = true := decide_eq_true (by omega)
    have b2 : decide (60 < ss.length) = true := decide_eq_true h1
    clear hx hA hs h1
    go_enter Try.func181, Try.ntmps181
    go_wp2_with fail
    go_ret
    exact ⟨ret_int (by rw [Hv.out]), Below.refl _ _⟩
  · have b1 : decide ((60 : Int) < (ss.length : Int)) = false := decide_eq_false (by omega)
    have b2 : decide (60 < ss.length) = false := decide_eq_false h1
    by_cases h0 : ss.length = 0
    · have Hv := Lib.hid (show cltE n ss = 7 by unfold cltE; rw [if_neg h1, if_pos h0])
      have b3 : ((ss.length : Int) == 0) = true := by simp [h0]
      clear hx hA hs
      go_enter Try.func181, Try.ntmps181
      go_wp2_with fail
      go_ret
      exact ⟨ret_int (by rw [Hv.out]), Below.refl _ _⟩
    · obtain ⟨b, off, rfl, hb, hx⟩ := hx.open (by omega)
      have b3 : ((ss.length : Int) == 0) = false := by rw [beq_eq_false_iff_ne]; omega
      have hl0 : 0 < ss.length := by omega
      have hcell := hx 0 (by omega)
      rw [Nat.add_zero] at hcell
      have hany := fun h => any_first (n := n) (ss := ss) (by omega) h
      obtain ⟨s, hs0⟩ : ∃ s, nthB ss 0 = s := ⟨_, rfl⟩
      rw [hs0] at hcell hany
      obtain ⟨m, hm⟩ : ∃ m, s.size = m := ⟨_, rfl⟩
      have hb1 : Below w.heap.size w (w.alloc (.cells #[.int .i64 (m : Int)] 3)) := (Below.refl _ _).alloc (Nat.le_refl _) _
      have HW := Lib.hid (width182_any m n A v0 c2 (w.alloc (.cells #[.int .i64 (m : Int)] 3)) (cell_next hb1 hA))
      have HB := Lib.hid (wrongs_any b off c m w.heap.size ss (w.alloc (.cells #[.int .i64 (m : Int)] 3)) (hx.below hb1 hb) hl hs ((BoxAt.new w #[.int .i64 (m : Int)] 3).cell' 0 rfl))
      have Hb1 := Lib.hid hb1
      by_cases hmn : m = n
      · rw [decide_eq_true hmn] at HW
        have Hv := Lib.hid (show cltE n ss = if ss.any (wrongB n) = true then 4 else 0 by unfold cltE; rw [if_neg h1, if_neg h0])
        subst hmn
        cases ha : ss.any (wrongB m) with
        | true =>
          rw [ha] at HB Hv
          clear hx hA hs h0 h1 hs0 hany ha hb1
          go_enter Try.func181, Try.ntmps181
          go_wp2_with fail
          refine HW.out.mono ?_
          rintro e w2 ⟨rfl, rfl⟩
          go_wp2_with fail
          refine HB.out.mono ?_
          rintro e w3 ⟨rfl, rfl⟩
          go_wp2_with fail
          go_ret
          exact ⟨ret_int (by rw [Hv.out]; rfl), Hb1.out⟩
        | false =>
          rw [ha] at HB Hv
          clear hx hA hs h0 h1 hs0 hany ha hb1
          go_enter Try.func181, Try.ntmps181
          go_wp2_with fail
          refine HW.out.mono ?_
          rintro e w2 ⟨rfl, rfl⟩
          go_wp2_with fail
          refine HB.out.mono ?_
          rintro e w3 ⟨rfl, rfl⟩
          go_wp2_with fail
          go_ret
          exact ⟨ret_int (by rw [Hv.out]; rfl), Hb1.out⟩
      · rw [decide_eq_false hmn] at HW
        have Hv := Lib.hid (show cltE n ss = 4 by unfold cltE; rw [if_neg h1, if_neg h0, if_pos (hany (by rw [hm]; exact hmn))])
        clear hx hA hs h0 h1 hs0 hany hmn HB hb1
        go_enter Try.func181, Try.ntmps181
        go_wp2_with fail
        refine HW.out.mono ?_
        rintro e w2 ⟨rfl, rfl⟩
        go_wp2_with fail
        go_ret
        exact ⟨ret_int (by rw [Hv.out]), Hb1.out⟩
/-- the error of a harness, or of a cloth with as many warps -/
def unwE (h : Int) (xs : List Int) (ss : List ByteArray) : Int := if chkT h xs ≠ 0 then chkT h xs else cltE xs.length ss
set_option maxRecDepth 100000 in
set_option maxHeartbeats 1000000 in
theorem checkWoven_any (h : Int) (p1 p2 : Option Addr) (c1 c2 : Nat) (xs : List Int) (ss : List ByteArray) (w : World) (hr : Reads w (.slice p1 xs.length c1) xs) (hx : StrR w (.slice p2 ss.length c2) ss) (hl : ss.length ≤ 1000) (hs : ∀ i, i < ss.length → (nthB ss i).size ≤ 1000) :
    Calls Try.prog 126 #[.agg #[.int .i64 h, .slice p1 xs.length c1], .slice p2 ss.length c2] w fun e w' => e = .returned (.int .i64 (unwE h xs ss)) ∧ Below w.heap.size w w' := by
  obtain ⟨w0, hw0⟩ : ∃ w0, w0 = w.alloc (.cells #[.int .i64 h, .slice p1 xs.length c1] 26) := ⟨_, rfl⟩
  have hb0 : Below w.heap.size w w0 := by rw [hw0]; exact (Below.refl _ _).alloc (Nat.le_refl _) _
  have hA : BoxAt w0 w.heap.size #[.int .i64 h, .slice p1 xs.length c1] 26 := by rw [hw0]; exact BoxAt.new w _ _
  have HW0 := Lib.hid hw0
  have Hb0 := Lib.hid hb0
  have HA := Lib.hid hA
  have HX := Lib.hid (hx.next hb0)
  have HS := Lib.hid hs
  have H1 := tieCheck_any h _ xs w0 (hr.next hb0)
  obtain ⟨k, hk⟩ : ∃ k, chkT h xs = k := ⟨_, rfl⟩
  have Hv := Lib.hid (show unwE h xs ss = if k ≠ 0 then k else cltE xs.length ss by unfold unwE; rw [hk])
  rw [hk] at H1
  have a0 := hA.cell' 0 rfl
  have a1 := hA.cell' 1 rfl
  clear hw0 hb0 hA hr hx hk hs
  go_enter Try.func126, Try.ntmps126
  go_upto_region 1 with fail
  rw [← HW0.out]
  go_wp2_with fail
  refine H1.mono ?_
  rintro e W1 ⟨rfl, hb1⟩
  have Hb1 := Lib.hid (Hb0.out.trans (hb1.mono Hb0.out.size))
  have HX1 := Lib.hid (HX.out.next hb1)
  have a1' := (HA.out.next hb1).cell' 1 rfl
  clear hb1 a0 a1 H1 HA HX Hb0 HW0
  by_cases hk : k = 0
  · subst hk
    have H2 := checkCloth_any p2 c2 xs.length w.heap.size c1 p1 ss W1 HX1.out hl HS.out a1'
    obtain ⟨q, hq⟩ : ∃ q, cltE xs.length ss = q := ⟨_, rfl⟩
    rw [hq] at H2 Hv
    clear a1' hq
    go_wp2_with fail
    refine H2.mono ?_
    rintro e W2 ⟨rfl, hb2⟩
    have Hb2 := Lib.hid (Hb1.out.trans (hb2.mono Hb1.out.size))
    clear hb2 H2
    go_wp2_with fail
    go_ret
    exact ⟨ret_int (by rw [Hv.out]; rfl), Hb2.out⟩
  · have hb : (k != 0) = true := by simp [hk]
    have He := Lib.hid (show unwE h xs ss = k by rw [Hv.out, if_pos hk])
    clear hk a1'
    go_wp2_with fail
    go_ret
    exact ⟨ret_int (by rw [He.out]), Hb1.out⟩
end Go.Proofs.Ytdmgffoikebgkaa
