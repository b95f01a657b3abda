/- Chains: cards in memory; Check of a chain that is valid; what lies on a row of cards. -/
import Derived.Test.YtdmgffoikebgkaaTb01
import Derived.Test.YtdmgffoikebgkaaTb02
import Derived.Test.YtdmgffoikebgkaaTb03
import Derived.Test.YtdmgffoikebgkaaTb04
import Derived.Test.YtdmgffoikebgkaaTb05
import Derived.Test.YtdmgffoikebgkaaTb06
import Derived.Test.YtdmgffoikebgkaaTb07
import Derived.Test.YtdmgffoikebgkaaTb08
import Derived.Test.YtdmgffoikebgkaaTb09
import Derived.Test.YtdmgffoikebgkaaTb10
import Derived.Test.YtdmgffoikebgkaaTb11
import Derived.Test.YtdmgffoikebgkaaTb12
import Derived.Test.YtdmgffoikebgkaaTb13
import Derived.Test.YtdmgffoikebgkaaTb14
import Derived.Test.YtdmgffoikebgkaaTb15
import Derived.Test.YtdmgffoikebgkaaTb16
import Derived.Test.YtdmgffoikebgkaaTb17
import Derived.Test.YtdmgffoikebgkaaTb18
import Derived.Test.YtdmgffoikebgkaaTb19
import Derived.Test.YtdmgffoikebgkaaTb20
import Derived.Deep.RegionHeld3
import Derived.Maps.OwnOps
import Derived.Maps.Views
import Derived.DeepKeys4
import Derived.KernelRfl
import Derived.Maps.AppendAt
import Derived.Deep.RegionWith
import Derived.Deep.AppendLies
import Derived.Deep.RegionLaw
import Derived.Deep.DeepCutAuto
import Derived.Deep.QuietTactic
import Derived.BigQuiet
import Derived.Laws.IdiomStrings
namespace Go.Proofs.Ytdmgffoikebgkaa
open Go.RowKit

/-- a card -/
structure Card where
  num : Nat
  row : Nat
  turned : Bool
deriving DecidableEq, Repr
def Card.cells (c : Card) : List Value := [.int .i64 (c.num : Int), .int .i64 (c.row : Int), .bool c.turned]
def Card.enc (c : Card) : Value := .agg #[.int .i64 (c.num : Int), .int .i64 (c.row : Int), .bool c.turned]
def nthC (cs : List Card) (i : Nat) : Card := cs[i]?.getD ⟨0, 0, false⟩
end Go.Proofs.Ytdmgffoikebgkaa
/- numbered, of a chain that has a number of its own for each card. -/
namespace Go.Proofs.Ytdmgffoikebgkaa
open Go.RowKit Go.Shelf

/-- each card has a number of its own -/
def Apart (cs : List Card) : Prop := ∀ i j, i < cs.length → j < cs.length → (nthC cs i).num = (nthC cs j).num → i = j
end Go.Proofs.Ytdmgffoikebgkaa
/- Floats in memory; the windows of Proof. -/
namespace Go.Proofs.Ytdmgffoikebgkaa
open Go.RowKit

theorem ownsRow_next {W W' : World} {base e size k : Nat} {v : Value} {xs : List Value} (h : W.ownsRow base e size v k xs) (hb : Below W.heap.size W W') : W'.ownsRow base e size v k xs := by
  obtain ⟨hl, h2⟩ := h
  refine ⟨hl, ?_⟩
  rcases h2 with h2 | ⟨g, cap, cur, e, hg, hh, r⟩
  · exact .inl h2
  · exact .inr ⟨g, cap, cur, e, hg, (hb.block _ (Array.getElem?_eq_some_iff.1 hh).1).trans hh, r⟩
end Go.Proofs.Ytdmgffoikebgkaa
/- Regions that draw their order, read, make boxes, call what only adds to memory, and store into the boxes that they made: each operation once, whatever was done before. -/
namespace Go.Proofs.Ytdmgffoikebgkaa
open Go.RowKit Go.Shelf

section
variable {R : RSp} {w : World} {ops : Array Oper} {L : Array Bool} {v : Nat → Value} {hs : Nat → Hd} {W W' : World} {i r : Nat} {o : Oper}
end
/-- the same for 'len' -/
def IsOpL (ops : Array Oper) (i : Nat) (dst : Option Nat) (op : Op) (g : Option (Nat × Bool)) (deps : List Nat) : Prop :=
  ∃ pos aft, ops[i]? = some ⟨dst, op, 3, pos, aft, g⟩ ∧ deps.all (depB ⟨dst, op, 3, pos, aft, g⟩) = true
end Go.Proofs.Ytdmgffoikebgkaa
/- Make at a straight group; what TopTurnedOver needs besides: the contracts of Mirror, Back and Make with the length as a letter; cards all turned; bytes of a cloth. -/
namespace Go.Proofs.Ytdmgffoikebgkaa
open Go.RowKit Go.Shelf
attribute [local go_sem] Oper.semAt_some

end Go.Proofs.Ytdmgffoikebgkaa
namespace Go.Proofs.Ytdmgffoikebgkaa
open Go.RowKit Go.Shelf

theorem painted_nth (g : Nat → Nat → Bool) (np nh i : Nat) (h : i < np) : nthN (painted g np nh) i = rowTo (g i) nh := by
  rw [nthN_get _ _ (by rw [painted_len]; exact h)]; simp [painted]
end Go.Proofs.Ytdmgffoikebgkaa
namespace Go.Proofs.Ytdmgffoikebgkaa
open Go.RowKit Go.Shelf

end Go.Proofs.Ytdmgffoikebgkaa
namespace Go.Proofs.Ytdmgffoikebgkaa
open Go.RowKit Go.Shelf

end Go.Proofs.Ytdmgffoikebgkaa
/- Differ. -/
namespace Go.Proofs.Ytdmgffoikebgkaa
open Go.RowKit Go.Shelf

theorem below1 (W : World) (o : Obj) : Below W.heap.size W (W.alloc o) := (Below.refl _ _).alloc (Nat.le_refl _) o
end Go.Proofs.Ytdmgffoikebgkaa
/- (after texts BA, BB, BC, BD, BF, ZB, XA of the first seat) What Bind makes: a bound design with the fewest changes; what a bound row is woven as. -/
namespace Go.Proofs.Ytdmgffoikebgkaa
open Go.RowKit

section
variable (p f h L : Nat) (now : List Nat) (a : Bool) (next0 : List Nat)
end
end Go.Proofs.Ytdmgffoikebgkaa
/- TopBound: which rows can be bound; Bind, Floats and Differ for its designs; a byte. -/
namespace Go.Proofs.Ytdmgffoikebgkaa
open Go.RowKit Go.Shelf
attribute [local go_sem] Oper.semAt_some

theorem con_free (p x : Nat) (s : Nat) : con p 0 x s = 0 := (con_zero s).2 fun j _ _ => by simp [bitN]
end Go.Proofs.Ytdmgffoikebgkaa
/- The reference of chapter 1: In, Check, Points, Table, Length, Bound. -/
namespace Go.Proofs.Ytdmgffoikebgkaa
open Go.RowKit

theorem tInfo77 : (Try.prog.info? 168).map (fun i => (i.zero, i.size, i.bytes)) = some (some (.slice none 0 0), 1, 24) := by kernel_rfl
/-- a table in memory: so many rows of so many bools -/
structure TabAt (W : World) (g N m : Nat) (f : Nat → Nat → Bool) : Prop where
  r : ∀ i, i < N → ∃ b c, W.cell? ⟨g, i, none⟩ = some (.slice (some ⟨b, 0, none⟩) m c) ∧ BoolsAt W b m (f i)
  lt : g < W.heap.size
theorem TabAt.below {W W' : World} {g N m : Nat} {f : Nat → Nat → Bool} (h : TabAt W g N m f) (hb : Below W.heap.size W W') : TabAt W' g N m f :=
  ⟨fun i hi => by obtain ⟨b, c, h1, h2⟩ := h.r i hi; exact ⟨b, c, (hb.cell (p := ⟨g, i, none⟩) h.lt).trans h1, h2.below hb h2.lt⟩, Nat.lt_of_lt_of_le h.lt hb.size⟩
/-- rows of a table that is being made -/
def RowsIn (W : World) (v : Value) (sl : List Value) (k m : Nat) (f : Nat → Nat → Bool) : Prop :=
  ∀ i, i < k → ∃ b c, sl[i]? = some (.slice (some ⟨b, 0, none⟩) m c) ∧ some b ≠ v.ownBlock ∧ BoolsAt W b m (f i)
theorem RowsIn.below {W W' : World} {v : Value} {sl : List Value} {k m : Nat} {f : Nat → Nat → Bool} (h : RowsIn W v sl k m f) (hb : Below W.heap.size W W') : RowsIn W' v sl k m f := fun i hi => by
  obtain ⟨b, c, h1, h2, h3⟩ := h i hi
  exact ⟨b, c, h1, h2, h3.below hb h3.lt⟩
theorem RowsIn.grow {W w5 : World} {v v' : Value} {sl : List Value} {k m b c H : Nat} {f : Nat → Nat → Bool} (h : RowsIn W v sl k m f) (hsl : sl.length = k) (hg : W.grownBy w5 v.ownBlock) (hb : BoolsAt W b m (f k)) (hbv : some b ≠ v.ownBlock)
    (hv' : v'.ownBlock = v.ownBlock ∨ v'.ownBlock = some H) (hH : W.heap.size ≤ H) : RowsIn w5 v' (sl ++ [.slice (some ⟨b, 0, none⟩) m c]) (k + 1) m f := fun i hi => by
  have hne : ∀ x, x < W.heap.size → some x ≠ v.ownBlock → some x ≠ v'.ownBlock := fun x hx hxv => by
    rcases hv' with e | e
    · rw [e]; exact hxv
    · rw [e]; intro h; simp at h; omega
  by_cases hik : i = k
  · subst hik
    refine ⟨b, c, by rw [List.getElem?_append_right (by omega), hsl]; simp, hne _ hb.lt hbv, hb.kept hg hbv⟩
  · obtain ⟨b', c', h1, h2, h3⟩ := h i (by omega)
    exact ⟨b', c', by rw [List.getElem?_append_left (by omega)]; exact h1, hne _ h3.lt h2, h3.kept hg h2⟩
theorem TabAt.of_rows {W : World} {B g c N m : Nat} {sl : List Value} {f : Nat → Nat → Bool} (h : W.ownsRow B 168 1 (.slice (some ⟨g, 0, none⟩) N c) N sl) (hr : RowsIn W (.slice (some ⟨g, 0, none⟩) N c) sl N m f) : TabAt W g N m f := by
  refine ⟨fun i hi => ?_, (h.lt g rfl).2⟩
  obtain ⟨b, c, h1, _, h3⟩ := hr i hi
  exact ⟨b, c, by rw [h.cellAt i (by omega), h1], h3⟩

end Go.Proofs.Ytdmgffoikebgkaa
/- TieThreads: its regions that draw their order. -/
namespace Go.Proofs.Ytdmgffoikebgkaa
open Go.RowKit Go.Shelf
attribute [local go_sem] Oper.semAt_some

/-- the strings of a cloth -/
structure ClS (ss : List ByteArray) (n : Nat) (ps : List Nat) : Prop where
  len : ss.length = ps.length
  str : ∀ i, i < ps.length → StrB (nthB ss i) n (nthN ps i)
theorem ClS.at {ss : List ByteArray} {n : Nat} {ps : List Nat} {W : World} {b : Nat} (h : ClS ss n ps) (hx : StrsAt W b 0 ss) (hb : b < W.heap.size) : ClAt W b 0 n ps :=
  ⟨fun i hi => ⟨_, h.str i hi, hx i (by rw [h.len]; exact hi)⟩, hb⟩
end Go.Proofs.Ytdmgffoikebgkaa
/- TieThreads: its mathematics. -/
namespace Go.Proofs.Ytdmgffoikebgkaa
open Go.RowKit Go.Shelf
attribute [local go_sem] Oper.semAt_some

theorem nat_ext {a b : Nat} (h : ∀ j, bitN a j = true ↔ bitN b j = true) : a = b := Nat.eq_of_testBit_eq fun j => Bool.eq_iff_iff.2 (h j)
end Go.Proofs.Ytdmgffoikebgkaa
/- Chapter 3: any harness: its error, a copy of it, harnesses compared. -/
namespace Go.Proofs.Ytdmgffoikebgkaa
open Go.RowKit Go.Shelf
attribute [local go_sem] Oper.semAt_some

def frB (lo hi : Int) (xs : List Int) : Bool := xs.all fun x => decide (lo ≤ x) && decide (x ≤ hi)
theorem frB_step (lo hi : Int) (xs : List Int) (k : Nat) (h : k < xs.length) (hr : frB lo hi (xs.take k) = true) (h0 : lo ≤ nthI xs k) (h1 : nthI xs k ≤ hi) : frB lo hi (xs.take (k + 1)) = true := by
  unfold frB at *
  rw [takeI_succ xs k h, List.all_append, hr]
  simp [h0, h1]
theorem frB_false (lo hi : Int) (xs : List Int) (k : Nat) (h : k < xs.length) (hb : nthI xs k < lo ∨ hi < nthI xs k) : frB lo hi xs = false := by
  unfold frB
  rw [List.all_eq_false]
  refine ⟨nthI xs k, nthI_mem xs k h, ?_⟩
  simp
  omega
set_option maxHeartbeats 1000000 in
theorem areFrom_any (lo hi : Int) (b off c : Nat) (xs : List Int) (w : World) (hl : xs.length ≤ 1000) (hx : IntsAt w b off xs) :
    Calls Try.prog 111 #[.int .i64 lo, .int .i64 hi, .slice (some ⟨b, off, none⟩) xs.length c] w fun e w' => e = .returned (.bool (frB lo hi xs)) ∧ w = w' := by
  go_enter Try.func111, Try.ntmps111
  go_wp2
  go_loop [8, 11] (fun _ i => ∃ k : Nat, k ≤ xs.length ∧ i = .int .i64 k ∧ frB lo hi (xs.take k) = true) (fun _ i => xs.length - (intOf i).toNat)
  case atStart => exact ⟨0, Nat.zero_le _, rfl, by simp [frB]⟩
  case round =>
    obtain ⟨k, hk, rfl, hr⟩ := hrel
    have Hr := Lib.hid hr; clear hr
    by_cases hlt : k < xs.length
    · have hc := hx k hlt
      by_cases h1 : nthI xs k < lo
      · have d1 : decide (nthI xs k < lo) = true := decide_eq_true h1
        have Hf := Lib.hid (frB_false lo hi xs k hlt (.inl h1))
        clear h1
        go_wp2
        go_ret
        exact ⟨ret_bool Hf.out.symm, rfl⟩
      · have d1 : decide (nthI xs k < lo) = false := decide_eq_false h1
        by_cases h2 : hi < nthI xs k
        · have d2 : decide (hi < nthI xs k) = true := decide_eq_true h2
          have Hf := Lib.hid (frB_false lo hi xs k hlt (.inr h2))
          clear h1 h2
          go_wp2
          go_ret
          exact ⟨ret_bool Hf.out.symm, rfl⟩
        · have d2 : decide (hi < nthI xs k) = false := decide_eq_false h2
          have Hs := Lib.hid (frB_step lo hi xs k hlt Hr.out (by omega) (by omega))
          clear h1 h2
          go_wp2
          all_goals go_round
          case rel => exact ⟨k + 1, by omega, by go_num, Hs.out⟩
          case measure => simp [intOf]; omega
    · go_wp2
      go_ret
      exact ⟨ret_bool (by rw [← Hr.out, take_end xs k hk hlt]), rfl⟩
end Go.Proofs.Ytdmgffoikebgkaa
/- Chapter 3: any harness: the reference's error, a copy of it, harnesses compared, one that is too large. -/
namespace Go.Proofs.Ytdmgffoikebgkaa
open Go.RowKit Go.Shelf
attribute [local go_sem] Oper.semAt_some

theorem Reads.next {w w' : World} {v : Value} {xs : List Int} (h : Reads w v xs) (hb : Below w.heap.size w w') : Reads w' v xs := by
  obtain ⟨p, c, rfl, hl, hx⟩ := h
  refine ⟨p, c, rfl, hl, fun h0 => ?_⟩
  obtain ⟨b, off, rfl, h1, h2⟩ := hx h0
  exact ⟨b, off, rfl, Nat.lt_of_lt_of_le h1 hb.size, h2.below hb h1⟩
theorem refIn3_any (n lo hi : Int) (w : World) : Calls Try.prog 44 #[.int .i64 n, .int .i64 lo, .int .i64 hi] w fun e w' => e = .returned (.bool (decide (lo ≤ n) && decide (n ≤ hi))) ∧ w' = w := by
  by_cases h1 : lo ≤ n
  · have d1 : decide (lo ≤ n) = true := decide_eq_true h1
    by_cases h2 : n ≤ hi
    · have d2 : decide (n ≤ hi) = true := decide_eq_true h2
      have Hd := Lib.hid (And.intro d1 d2)
      clear h1 h2
      go_enter Try.func44, Try.ntmps44
      go_wp2_with fail
      go_ret
      exact ⟨ret_bool (by rw [Hd.out.1, Hd.out.2]; rfl), rfl⟩
    · have d2 : decide (n ≤ hi) = false := decide_eq_false h2
      have Hd := Lib.hid (And.intro d1 d2)
      clear h1 h2
      go_enter Try.func44, Try.ntmps44
      go_wp2_with fail
      go_ret
      exact ⟨ret_bool (by rw [Hd.out.1, Hd.out.2]; rfl), rfl⟩
  · have d1 : decide (lo ≤ n) = false := decide_eq_false h1
    have Hd := Lib.hid d1
    clear h1
    go_enter Try.func44, Try.ntmps44
    go_wp2_with fail
    go_ret
    exact ⟨ret_bool (by rw [Hd.out]; rfl), rfl⟩
end Go.Proofs.Ytdmgffoikebgkaa
/- TieBound: its mathematics. -/
namespace Go.Proofs.Ytdmgffoikebgkaa
open Go.RowKit Go.Shelf

theorem bind_some {n m p : Nat} (h0 : 1 ≤ n) (h1 : n ≤ 24) {x : Nat} (hx : x < 2 ^ n) (hb : BoundUp x n m) : bindN n p 0 m < never := by
  have := bindN_le_row (p := p) (f := 0) (x := x) h0 h1 hx ⟨con_free _ _ _, hb⟩
  have h3 := ham_le p x n
  have h4 : 2 ^ n ≤ 2 ^ 24 := Nat.pow_le_pow_right (by decide) h1
  unfold never change at *
  omega
end Go.Proofs.Ytdmgffoikebgkaa
/- Regions that draw their order and whose operations are guarded by tests with known values. -/
namespace Go.Proofs.Ytdmgffoikebgkaa
open Go.RowKit Go.Shelf

/-- each guard is a test among gl that an operation waits for, with the value that lets it run -/
def guardC (ops : Array Oper) (D : Nat → Option Nat) (gl : List (Nat × Bool)) : Bool := (List.range ops.size).all fun i => match ops[i]? with
  | some o => (match o.guard with
    | none => true
    | some q => depB o q.1 && gl.contains q && (D q.1).isSome && ((ops[q.1]?).bind (·.dst) == D q.1))
  | none => true
theorem RSp.of_fitC {ops : Array Oper} {n : Nat} {D : List (Option Nat)} {X : Nat → (Nat → Hd) → Value} {uses : List (List Nat)} {kind : List Nat} {mem : Nat → Mem} {sto : Nat → Option Sto} {gl : List (Nat × Bool)}
    (hn : n = ops.size) (hb : backB ops = true) (hd : dstsB ops (dOf D) = true) (hu : useB ops (uOf uses) (kOf kind) = true) (hg : guardC ops (dOf D) gl = true) (hnd : (D.filterMap id).Nodup)
    (hst : ∀ p ∈ storesOf kind, dOf D p.1 = none ∧ p.2 ∈ uOf uses p.1 ∧ (∀ h, (mem p.2).bl h = [h.b]) ∧ ∀ j, j ≠ p.1 → p.2 ∈ uOf uses j → sto j = none)
    (hX : ∀ p ∈ gl, ∀ hs, X p.1 hs = .bool p.2) :
    (RSp.of n D (fun _ => true) X uses kind mem sto).Fit ops (D.filterMap id) where
  n := hn
  back := hb
  dst := hd
  use := hu
  mem := fun _ _ _ h => dOf_mem h
  inj := fun _ _ _ h1 h2 => dOf_inj hnd h1 h2
  nd := hnd
  st := fun i t h => by
    obtain ⟨h1, h2, h3, h4⟩ := hst (i, t) (kOf_store h)
    refine ⟨h1, h2, h3, fun j hj hm hs W => ?_⟩
    show match sto j with | none => True | some s => BoxAt W (hs s.t).b (s.c hs) s.T
    rw [h4 j hj hm]
    trivial
  gd := fun i o ho => by
    have h := all_ops hg i o ho
    cases hgd : o.guard with
    | none => exact .inl ⟨rfl, rfl⟩
    | some q =>
      obtain ⟨j, b⟩ := q
      rw [hgd] at h
      simp only [Bool.and_eq_true, beq_iff_eq] at h
      obtain ⟨⟨⟨h2, h3⟩, h4⟩, h5⟩ := h
      obtain ⟨d, hd2⟩ := Option.isSome_iff_exists.1 h4
      refine .inr ⟨j, b, d, rfl, h2, hd2, h5.trans hd2, fun hs => ?_, fun h => by cases h⟩
      exact hX (j, b) (by simpa using h3) hs
end Go.Proofs.Ytdmgffoikebgkaa
/- Chapter 3: Repeat and Mirrors of any harness; harnesses compared; none; too large. -/
namespace Go.Proofs.Ytdmgffoikebgkaa
open Go.RowKit Go.Shelf
attribute [local go_sem] Oper.semAt_some

set_option maxHeartbeats 1000000 in
theorem refSame3_eq (h : Int) (p p' : Option Addr) (c c' : Nat) (xs : List Int) (w : World) (hl : xs.length ≤ 1000) (h1 : Reads w (.slice p xs.length c) xs) (h2 : Reads w (.slice p' xs.length c') xs) :
    Calls Try.prog 26 #[.agg #[.int .i64 h, .slice p xs.length c], .agg #[.int .i64 h, .slice p' xs.length c']] w fun e w' => e = .returned (.bool true) ∧ Below w.heap.size w w' := by
  obtain ⟨w0, hw0⟩ : ∃ w0, w0 = (w.alloc (.cells #[.int .i64 h, .slice p xs.length c] 26)).alloc (.cells #[.int .i64 h, .slice p' xs.length c'] 26) := ⟨_, rfl⟩
  have hb0 : Below w.heap.size w w0 := by rw [hw0]; exact ((Below.refl _ _).alloc (Nat.le_refl _) _).alloc (by simp) _
  have hx : BoxAt w0 w.heap.size #[.int .i64 h, .slice p xs.length c] 26 := by rw [hw0]; exact (BoxAt.new w _ _).next ((Below.refl _ _).alloc (Nat.le_refl _) _)
  have hy : BoxAt w0 (w.heap.size + 1) #[.int .i64 h, .slice p' xs.length c'] 26 := by
    rw [hw0]; have := BoxAt.new (w.alloc (.cells #[.int .i64 h, .slice p xs.length c] 26)) #[.int .i64 h, .slice p' xs.length c'] 26; rw [World.size_alloc] at this; exact this
  have HM := Lib.hid (show Below w.heap.size w w0 ∧ BoxAt w0 w.heap.size #[.int .i64 h, .slice p xs.length c] 26 ∧ BoxAt w0 (w.heap.size + 1) #[.int .i64 h, .slice p' xs.length c'] 26 ∧ Reads w0 (.slice p xs.length c) xs ∧ Reads w0 (.slice p' xs.length c') xs from ⟨hb0, hx, hy, h1.next hb0, h2.next hb0⟩)
  have HW0 := Lib.hid hw0
  have hx0 := hx.cell' 0 rfl
  have hx1 := hx.cell' 1 rfl
  have hy0 := hy.cell' 0 rfl
  have hy1 := hy.cell' 1 rfl
  clear h1 h2 hw0 hb0 hx hy
  go_enter Try.func26, Try.ntmps26
  go_upto_region 1 with fail
  rw [← HW0.out]
  go_wp2_with fail
  clear hx0 hx1 hy0 hy1
  go_loopw [5] (fun i wr => ∃ k : Nat, k ≤ xs.length ∧ i = .int .i64 (k : Int) ∧ Below w.heap.size w wr ∧ BoxAt wr w.heap.size #[.int .i64 h, .slice p xs.length c] 26 ∧ BoxAt wr (w.heap.size + 1) #[.int .i64 h, .slice p' xs.length c'] 26 ∧ Reads wr (.slice p xs.length c) xs ∧ Reads wr (.slice p' xs.length c') xs) (fun i _ => xs.length - (intOf i).toNat)
  case atStart => exact ⟨0, Nat.zero_le _, rfl, HM.out⟩
  case round =>
    obtain ⟨k, hk, rfl, hS⟩ := hrel
    have hx1 := hS.2.1.cell' 1 rfl
    have hy1 := hS.2.2.1.cell' 1 rfl
    by_cases hlt : k < xs.length
    · obtain ⟨q1, d1, e1, _, r1⟩ := hS.2.2.2.1
      simp only [Value.slice.injEq, true_and] at e1
      obtain ⟨rfl, rfl⟩ := e1
      obtain ⟨b1, o1, rfl, _, r1⟩ := r1 (by omega)
      obtain ⟨q2, d2, e2, _, r2⟩ := hS.2.2.2.2
      simp only [Value.slice.injEq, true_and] at e2
      obtain ⟨rfl, rfl⟩ := e2
      obtain ⟨b2, o2, rfl, _, r2⟩ := r2 (by omega)
      have u1 := r1 k hlt
      have u2 := r2 k hlt
      obtain ⟨z, hz⟩ : ∃ z, nthI xs k = z := ⟨_, rfl⟩
      rw [hz] at u1 u2
      have Hr := Lib.hid hS
      clear hS hz r1 r2 HM
      go_upto_region 6 with fail
      go_quiet (fail)
      all_goals go_wp2_with fail
      all_goals exact ⟨⟨k + 1, by omega, by go_num, Hr.out.1.trans ((below_drewN _ _ _).mono Hr.out.1.size), Hr.out.2.1.next (below_drewN _ _ _), Hr.out.2.2.1.next (below_drewN _ _ _), Hr.out.2.2.2.1.next (below_drewN _ _ _), Hr.out.2.2.2.2.next (below_drewN _ _ _)⟩, by simp [intOf]; omega⟩
    · have hkd : decide ((k : Int) < (xs.length : Int)) = false := decide_eq_false (by omega)
      have Hb := Lib.hid hS.1
      clear hS HM
      go_wp2_with fail
      go_ret
      exact ⟨rfl, Hb.out⟩
theorem tieNone_ok (w : World) : Calls Try.prog 34 #[.agg #[.int .i64 0, .slice none 0 0]] w fun e w' => e = .returned (.bool true) ∧ Below w.heap.size w w' := by
  have Hb0 := Lib.hid (show Below w.heap.size w (w.alloc (.cells #[.int .i64 0, .slice none 0 0] 26)) from (Below.refl _ _).alloc (Nat.le_refl _) _)
  go_enter Try.func34, Try.ntmps34
  go_wp2_with fail
  go_ret
  exact ⟨rfl, Hb0.out⟩
end Go.Proofs.Ytdmgffoikebgkaa
/- TieBesides: its regions; what is due. -/
namespace Go.Proofs.Ytdmgffoikebgkaa
open Go.RowKit Go.Shelf
attribute [local go_sem] Oper.semAt_some

theorem Reads.far {W W' : World} {g B L c : Nat} {xs : List Int} (h : Reads W (.slice (some ⟨g, 0, none⟩) L c) xs) (hB : SetAt B W W') (hne : g ≠ B) : Reads W' (.slice (some ⟨g, 0, none⟩) L c) xs := by
  obtain ⟨p, c', hv, hl, hx⟩ := h
  refine ⟨p, c', hv, hl, fun h0 => ?_⟩
  obtain ⟨b, off, rfl, h1, h2⟩ := hx h0
  simp only [Value.slice.injEq, Option.some.injEq, Addr.mk.injEq] at hv
  obtain ⟨⟨rfl, rfl, _⟩, _⟩ := hv
  exact ⟨_, _, rfl, by rw [hB.size]; exact h1, fun i hi => (World.cell?_of_block (w := W) (hB.other _ hne)).trans (h2 i hi)⟩
end Go.Proofs.Ytdmgffoikebgkaa
/- Chapter 3: any cloth: its error, as the program and the reference see it; a copy of it; cloths compared; one that is too large. -/
namespace Go.Proofs.Ytdmgffoikebgkaa
open Go.RowKit Go.Shelf
attribute [local go_sem] Oper.semAt_some

/-- a slice of strings that came in -/
def StrR (W : World) (v : Value) (ss : List ByteArray) : Prop := ∃ (p : Option Addr) (c : Nat), v = .slice p ss.length c ∧ (0 < ss.length → ∃ b off, p = some ⟨b, off, none⟩ ∧ b < W.heap.size ∧ StrsAt W b off ss)
theorem StrR.next {W W' : World} {v : Value} {ss : List ByteArray} (h : StrR W v ss) (hb : Below W.heap.size W W') : StrR W' v ss := by
  obtain ⟨p, c, rfl, hx⟩ := h
  refine ⟨p, c, rfl, fun h0 => ?_⟩
  obtain ⟨b, off, rfl, h1, h2⟩ := hx h0
  exact ⟨b, off, rfl, Nat.lt_of_lt_of_le h1 hb.size, h2.below hb h1⟩
theorem StrR.open {W : World} {p : Option Addr} {c : Nat} {ss : List ByteArray} (h : StrR W (.slice p ss.length c) ss) (h0 : 0 < ss.length) : ∃ b off, p = some ⟨b, off, none⟩ ∧ b < W.heap.size ∧ StrsAt W b off ss := by
  obtain ⟨p', c', hv, hx⟩ := h
  simp only [Value.slice.injEq, true_and] at hv
  obtain ⟨rfl, rfl⟩ := hv
  exact hx h0
/-- a byte of a string -/
def bytN (s : ByteArray) (k : Nat) : Nat := (s.data.toList[k]?.getD 0).toNat
theorem bytN_idx {s : ByteArray} {k : Nat} (hk : k < s.size) (W : World) : (Instr.index 9 (.string s) (.int .i64 (k : Int))).run Try.prog W = .ok (.int .u8 (bytN s k : Int)) W := by
  rw [run_index_string W 9 s .i64 (k : Int) Try.underlying9]
  rw [dif_pos ⟨by omega, by omega⟩]
  congr 2
  unfold bytN
  have hz : s.data.size = s.size := rfl
  have h2 : s.data.toList[k]? = some (s.data[k]'(by omega)) := by simp
  rw [h2]
  rfl
/-- whether all bytes are those of a cloth -/
def pickB (s : ByteArray) : Bool := (List.range s.size).all fun k => bytN s k == 120 || bytN s k == 46
theorem pickB_true {s : ByteArray} : pickB s = true ↔ ∀ k, k < s.size → bytN s k = 120 ∨ bytN s k = 46 := by simp [pickB]
theorem pickB_no {s : ByteArray} {k : Nat} (hk : k < s.size) (h1 : bytN s k ≠ 120) (h2 : bytN s k ≠ 46) : pickB s = false := by
  cases h : pickB s with
  | false => rfl
  | true => rcases pickB_true.1 h k hk with e | e <;> omega
set_option maxRecDepth 100000 in
set_option maxHeartbeats 1000000 in
theorem isPick_any (s : ByteArray) (w : World) (hs : s.size ≤ 1000) : Calls Try.prog 207 #[.string s] w fun e w' => e = .returned (.bool (pickB s)) ∧ w' = w := by
  obtain ⟨n, hn⟩ : ∃ n, s.size = n := ⟨_, rfl⟩
  have Hn := Lib.hid hn
  rw [hn] at hs
  go_enter Try.func207, Try.ntmps207
  go_wp2_with fail
  clear hn
  go_loopw [6] (fun i wr => ∃ k : Nat, k ≤ n ∧ i = .int .i64 (k : Int) ∧ wr = w ∧ ∀ j, j < k → bytN s j = 120 ∨ bytN s j = 46) (fun i _ => n - (intOf i).toNat)
  case atStart => exact ⟨0, Nat.zero_le _, rfl, rfl, fun j hj => by omega⟩
  case round =>
    obtain ⟨k, hk, rfl, rfl, hok⟩ := hrel
    have HOk := Lib.hid hok
    clear hok
    by_cases hlt : k < n
    · have hi := fun W => bytN_idx (s := s) (k := k) (by rw [Hn.out]; exact hlt) W
      obtain ⟨x, hx⟩ : ∃ x, bytN s k = x := ⟨_, rfl⟩
      have Hx := Lib.hid hx
      have hnz := Hn.out
      rw [hx] at hi
      clear hx
      by_cases h1 : x = 120
      · subst h1
        have HO2 := Lib.hid (show ∀ j, j < k + 1 → bytN s j = 120 ∨ bytN s j = 46 from fun j hj => by
          by_cases e : j = k
          · rw [e]; exact .inl Hx.out
          · exact HOk.out j (by omega))
        go_wp2_with fail
        go_roundw
        case rel => exact ⟨k + 1, by omega, by go_num, trivial, HO2.out⟩
        case measure => simp [intOf]; omega
      · by_cases h2 : x = 46
        · subst h2
          have HO2 := Lib.hid (show ∀ j, j < k + 1 → bytN s j = 120 ∨ bytN s j = 46 from fun j hj => by
            by_cases e : j = k
            · rw [e]; exact .inr Hx.out
            · exact HOk.out j (by omega))
          clear h1
          go_wp2_with fail
          go_roundw
          case rel => exact ⟨k + 1, by omega, by go_num, trivial, HO2.out⟩
          case measure => simp [intOf]; omega
        · have HN := Lib.hid (pickB_no (s := s) (k := k) (by rw [Hn.out]; exact hlt) (by rw [Hx.out]; exact h1) (by rw [Hx.out]; exact h2))
          have b1 : ((x : Int) != 120) = true := by simp; omega
          have b2 : ((x : Int) != 46) = true := by simp; omega
          have b3 : ((x : Int) == 120) = false := by simp; omega
          have b4 : ((x : Int) == 46) = false := by simp; omega
          clear h1 h2
          go_wp2_with fail
          go_ret
          exact ⟨ret_bool (by rw [HN.out]), rfl⟩
    · have HY := Lib.hid (pickB_true.2 fun j hj => HOk.out j (by rw [Hn.out] at hj; omega))
      go_wp2_with fail
      go_ret
      exact ⟨ret_bool (by rw [HY.out]), rfl⟩
/-- whether a pick of a cloth with so many warps is wrong -/
def wrongB (n : Nat) (s : ByteArray) : Bool := decide (s.size ≠ n) || !pickB s
set_option maxRecDepth 100000 in
set_option maxHeartbeats 1000000 in
theorem wrongPick_any (s : ByteArray) (n S : Nat) (w : World) (hs : s.size ≤ 1000) (hc : w.cell? ⟨S, 0, none⟩ = some (.int .i64 (n : Int))) :
    Calls Try.prog 206 #[.string s, .pointer (some ⟨S, 0, none⟩)] w fun e w' => e = .returned (.bool (wrongB n s)) ∧ w' = w := by
  obtain ⟨z, hz⟩ : ∃ z, s.size = z := ⟨_, rfl⟩
  by_cases h1 : z = n
  · have Hv := Lib.hid (show wrongB n s = !pickB s by unfold wrongB; rw [hz, h1]; simp)
    have H := Lib.hid (isPick_any s w hs)
    have b1 : ((z : Int) != (n : Int)) = false := by simp; omega
    obtain ⟨pb, hpb⟩ : ∃ pb, pickB s = pb := ⟨_, rfl⟩
    rw [hpb] at Hv H
    clear h1 hs hpb
    go_enter Try.func206, Try.ntmps206
    go_wp2_with fail
    refine H.out.mono ?_
    rintro e w' ⟨rfl, rfl⟩
    go_wp2_with fail
    go_ret
    exact ⟨ret_bool (by rw [Hv.out]), rfl⟩
  · have Hv := Lib.hid (show wrongB n s = true by unfold wrongB; rw [hz]; simp [h1])
    have b1 : ((z : Int) != (n : Int)) = true := by simp; omega
    clear h1 hs
    go_enter Try.func206, Try.ntmps206
    go_wp2_with fail
    go_ret
    exact ⟨ret_bool (by rw [Hv.out]), rfl⟩
set_option maxRecDepth 100000 in
set_option maxHeartbeats 1000000 in
theorem wrongFirst_any (b off c n S : Nat) (ss : List ByteArray) (w : World) (hx : StrsAt w b off ss) (hl : ss.length ≤ 1000) (hs : ∀ i, i < ss.length → (nthB ss i).size ≤ 1000) (hc : w.cell? ⟨S, 0, none⟩ = some (.int .i64 (n : Int))) :
    Calls Try.prog 228 #[.slice (some ⟨b, off, none⟩) ss.length c, .func (.func 206) #[] #[.pointer (some ⟨S, 0, none⟩)]] w fun e w' => (∃ r : Int, e = .returned (.int .i64 r) ∧ decide (0 ≤ r) = ss.any (wrongB n)) ∧ w' = w := by
  have HX := Lib.hid hx
  have HS := Lib.hid hs
  clear hx hs
  go_enter Try.func228, Try.ntmps228
  go_wp2_with fail
  go_loopw [8] (fun i wr => ∃ k : Nat, k ≤ ss.length ∧ i = .int .i64 (k : Int) ∧ wr = w ∧ ∀ j, j < k → wrongB n (nthB ss j) = false) (fun i _ => ss.length - (intOf i).toNat)
  case atStart => exact ⟨0, Nat.zero_le _, rfl, rfl, fun j hj => by omega⟩
  case round =>
    obtain ⟨k, hk, rfl, rfl, hok⟩ := hrel
    have HOk := Lib.hid hok
    clear hok
    by_cases hlt : k < ss.length
    · have hcell := HX.out k hlt
      have HW := Lib.hid (wrongPick_any (nthB ss k) n S _ (HS.out k hlt) hc)
      obtain ⟨s, hs⟩ : ∃ s, nthB ss k = s := ⟨_, rfl⟩
      rw [hs] at hcell HW
      have Hs := Lib.hid hs
      clear hs
      cases hwb : wrongB n s with
      | true =>
        rw [hwb] at HW
        have HA := Lib.hid (show ss.any (wrongB n) = true by
          rw [List.any_eq_true]
          refine ⟨s, ?_, hwb⟩
          rw [← Hs.out, nthB_get _ _ hlt]
          exact List.getElem_mem _)
        clear hwb hc
        go_wp2_with fail
        refine HW.out.mono ?_
        rintro e w' ⟨rfl, rfl⟩
        go_wp2_with fail
        go_ret
        exact ⟨⟨(k : Int), rfl, by rw [HA.out]; exact decide_eq_true (by omega)⟩, rfl⟩
      | false =>
        rw [hwb] at HW
        have HO2 := Lib.hid (show ∀ j, j < k + 1 → wrongB n (nthB ss j) = false from fun j hj => by
          by_cases e : j = k
          · rw [e, Hs.out]; exact hwb
          · exact HOk.out j (by omega))
        clear hwb
        go_wp2_with fail
        refine HW.out.mono ?_
        rintro e w' ⟨rfl, rfl⟩
        go_wp2_with fail
        go_roundw
        case rel => exact ⟨k + 1, by omega, by go_num, trivial, HO2.out⟩
        case measure => simp [intOf]; omega
    · have HA := Lib.hid (show ss.any (wrongB n) = false by
        rw [List.any_eq_false]
        intro s hs
        obtain ⟨i, hi, rfl⟩ := List.mem_iff_getElem.1 hs
        have := HOk.out i (by omega)
        rw [nthB_get _ _ hi] at this
        simp [this])
      go_wp2_with fail
      go_ret
      exact ⟨⟨-1, rfl, by rw [HA.out]; rfl⟩, rfl⟩
set_option maxRecDepth 100000 in
set_option maxHeartbeats 1000000 in
theorem wrongs_any (b off c n S : Nat) (ss : List ByteArray) (w : World) (hx : StrsAt w b off ss) (hl : ss.length ≤ 1000) (hs : ∀ i, i < ss.length → (nthB ss i).size ≤ 1000) (hc : w.cell? ⟨S, 0, none⟩ = some (.int .i64 (n : Int))) :
    Calls Try.prog 208 #[.slice (some ⟨b, off, none⟩) ss.length c, .func (.func 206) #[] #[.pointer (some ⟨S, 0, none⟩)]] w fun e w' => e = .returned (.bool (ss.any (wrongB n))) ∧ w' = w := by
  have H := Lib.hid (wrongFirst_any b off c n S ss w hx hl hs hc)
  clear hx hc hs
  go_enter Try.func208, Try.ntmps208
  go_wp2_with fail
  refine H.out.mono ?_
  rintro e w' ⟨⟨r, rfl, hr⟩, rfl⟩
  go_wp2_with fail
  go_ret
  exact ⟨ret_bool (by rw [← hr]), rfl⟩
/-- the error of a cloth that must have so many warps -/
def cltE (n : Nat) (ss : List ByteArray) : Int :=
  if 60 < ss.length then 5 else if ss.length = 0 then 7 else if ss.any (wrongB n) = true then 4 else 0
end Go.Proofs.Ytdmgffoikebgkaa
/- Chapter 3: Unweave and Part, their errors; a copy of any cloth; cloths compared; Fits, First and bare. -/
namespace Go.Proofs.Ytdmgffoikebgkaa
open Go.RowKit Go.Shelf
attribute [local go_sem] Oper.semAt_some

set_option maxHeartbeats 1000000 in
/-- a copy of any cloth -/
theorem cloths_any (p : Option Addr) (c : Nat) (ss : List ByteArray) (w : World) (hl : ss.length ≤ 1000) (hx : StrR w (.slice p ss.length c) ss) :
    Calls Try.prog 47 #[.slice p ss.length c] w fun e w' =>
      ∃ g cap, e = .returned (.slice (some ⟨g, 0, none⟩) ss.length cap) ∧ StrsAt w' g 0 ss ∧ w.heap.size ≤ g ∧ g < w'.heap.size ∧ Below w.heap.size w w' := by
  by_cases h0 : ss.length = 0
  · have Hb := Lib.hid (show Below w.heap.size w (w.alloc (.cells #[] 9)) from (Below.refl _ _).alloc (Nat.le_refl _) _)
    obtain rfl : ss = [] := List.eq_nil_of_length_eq_zero h0
    clear hx h0
    cases p
    all_goals
      go_enter Try.func47, Try.ntmps47
      go_wp2_with fail
      go_ret
      exact ⟨_, 0, rfl, fun i hi => by simp at hi, Nat.le_refl _, by simp, Hb.out⟩
  · obtain ⟨b, off, rfl, hb, hx⟩ := hx.open (by omega)
    have h0' : 0 < ss.length := by omega
    have HX := Lib.hid (hx.below ((Below.refl _ _).alloc (Nat.le_refl _) (.cells #[] 9)) hb)
    clear hx
    go_enter Try.func47, Try.ntmps47
    go_wp2_with (at_builtin; refine Shut.out ?_)
    unfold Shut
    refine app_copy elemStr rfl _ _ rfl rfl ⟨b, off, none⟩ ss.length c (ss.map Value.string) rfl (by simp) (by simp [Value.oneCell']) h0' (by omega) (by decide) ?_ ?_
    · intro j u hj
      simp only [List.getElem?_map, Option.map_eq_some_iff] at hj
      obtain ⟨x, hx, rfl⟩ := hj
      have hjl : j < ss.length := (List.getElem?_eq_some_iff.1 hx).1
      have := HX.out j hjl
      rw [nthB, hx] at this
      rw [show (⟨b, off, none⟩ : Addr).add j = ⟨b, off + j, none⟩ by unfold Addr.add; split <;> simp_all]
      exact this
    intro g cap w1 hr hb1
    have Hr := Lib.hid hr
    have Hb1 := Lib.hid hb1
    clear hr hb1
    go_wp2_with fail
    go_ret
    obtain ⟨a, b, d⟩ := strs_of_row Hr.out h0'
    exact ⟨g, cap, rfl, a, d, b, Hb1.out⟩
set_option maxRecDepth 100000 in
set_option maxHeartbeats 1000000 in
theorem refAlike3_any (p1 p2 : Option Addr) (c1 c2 : Nat) (ss : List ByteArray) (w : World) (hl : ss.length ≤ 1000) (h1 : StrR w (.slice p1 ss.length c1) ss) (h2 : StrR w (.slice p2 ss.length c2) ss) :
    Calls Try.prog 43 #[.slice p1 ss.length c1, .slice p2 ss.length c2] w fun e w' => e = .returned (.bool true) ∧ Below w.heap.size w w' := by
  have H1 := Lib.hid h1
  have H2 := Lib.hid h2
  clear h1 h2
  go_enter Try.func43, Try.ntmps43
  go_wp2_with fail
  go_loopw [5] (fun i wr => ∃ k : Nat, k ≤ ss.length ∧ i = .int .i64 (k : Int) ∧ Below w.heap.size w wr) (fun i _ => ss.length - (intOf i).toNat)
  case atStart => exact ⟨0, Nat.zero_le _, rfl, Below.refl _ _⟩
  case round =>
    obtain ⟨k, hk, rfl, hb⟩ := hrel
    by_cases hlt : k < ss.length
    · obtain ⟨b1, o1, rfl, hl1, hx1⟩ := H1.out.open (by omega)
      obtain ⟨b2, o2, rfl, hl2, hx2⟩ := H2.out.open (by omega)
      have hc1 := hx1.below hb hl1 k hlt
      have hc2 := hx2.below hb hl2 k hlt
      have Hr := Lib.hid hb
      obtain ⟨s, hs⟩ : ∃ s, nthB ss k = s := ⟨_, rfl⟩
      rw [hs] at hc1 hc2
      have hk0 : (0 : Int) ≤ (k : Int) := by omega
      have hk1 : (k : Int) < (ss.length : Int) := by omega
      clear hb hx1 hx2 hs
      go_wp2_with fail
      go_region
      all_goals
        (go_wp2_with fail
         exact ⟨⟨k + 1, by omega, by go_num, Hr.out.drew⟩, by simp [intOf]; omega⟩)
    · obtain rfl : k = ss.length := by omega
      have Hb := Lib.hid hb
      clear hb
      go_wp2_with fail
      go_ret
      exact ⟨rfl, Hb.out⟩
theorem cltE_wrong {n : Nat} {ss : List ByteArray} {k : Nat} (h1 : ¬ 60 < ss.length) (hk : k < ss.length) (h : wrongB n (nthB ss k) = true) : cltE n ss = 4 := by
  unfold cltE
  rw [if_neg h1, if_neg (by omega), if_pos]
  rw [List.any_eq_true]
  exact ⟨nthB ss k, by rw [nthB_get _ _ hk]; exact List.getElem_mem _, h⟩
theorem cltE_right {n : Nat} {ss : List ByteArray} (h1 : ¬ 60 < ss.length) (h0 : ¬ ss.length = 0) (h : ∀ j, j < ss.length → wrongB n (nthB ss j) = false) : cltE n ss = 0 := by
  unfold cltE
  rw [if_neg h1, if_neg h0, if_neg]
  rw [List.any_eq_true]
  rintro ⟨s, hs, hw⟩
  obtain ⟨i, hi, rfl⟩ := List.mem_iff_getElem.1 hs
  have := h i hi
  rw [nthB_get _ _ hi, hw] at this
  cases this
set_option maxRecDepth 100000 in
set_option maxHeartbeats 2000000 in
/-- the reference's error of a cloth that must have so many warps -/
theorem refFits_any (p : Option Addr) (c T : Nat) (ss : List ByteArray) (w : World) (hT0 : 1 ≤ T) (hT1 : T ≤ 96) (hx : StrR w (.slice p ss.length c) ss) (hl : ss.length ≤ 1000) :
    Calls Try.prog 50 #[.slice p ss.length c, .int .i64 (T : Int)] w fun e w' => e = .returned (.int .i64 (cltE T ss)) ∧ Below w.heap.size w w' := by
  by_cases h1 : 60 < ss.length
  · have Hv := Lib.hid (show cltE T ss = 5 by unfold cltE; rw [if_pos h1])
    have b1 : decide ((60 : Int) < (ss.length : Int)) = true := decide_eq_true (by omega)
    have b2 : decide (60 < ss.length) = true := decide_eq_true h1
    clear hx h1
    go_enter Try.func50, Try.ntmps50
    go_wp2_with fail
    go_ret
    exact ⟨ret_int (by rw [Hv.out]), Below.refl _ _⟩
  · have b1 : decide ((60 : Int) < (ss.length : Int)) = false := decide_eq_false (by omega)
    have b2 : decide (60 < ss.length) = false := decide_eq_false h1
    by_cases h0 : ss.length = 0
    · have Hv := Lib.hid (show cltE T ss = 7 by unfold cltE; rw [if_neg h1, if_pos h0])
      have b3 : ((ss.length : Int) == 0) = true := by simp [h0]
      clear hx
      go_enter Try.func50, Try.ntmps50
      go_wp2_with fail
      go_ret
      exact ⟨ret_int (by rw [Hv.out]), Below.refl _ _⟩
    · obtain ⟨b, off, rfl, hb, hx⟩ := hx.open (by omega)
      have b3 : ((ss.length : Int) == 0) = false := by rw [beq_eq_false_iff_ne]; omega
      have hl0 : 0 < ss.length := by omega
      have HX := Lib.hid hx
      have HW := Lib.hid (fun k hk h => cltE_wrong (n := T) (ss := ss) (k := k) h1 hk h)
      have HRt := Lib.hid (fun h => cltE_right (n := T) (ss := ss) h1 h0 h)
      have H44 := refIn3_any (T : Int) 1 96
      simp only [show (decide (1 ≤ (T : Int)) && decide ((T : Int) ≤ 96)) = true by simp; omega] at H44
      clear hx h0
      go_enter Try.func50, Try.ntmps50
      go_wp2_with fail
      go_loopw [5] (fun i wr => ∃ k : Nat, k ≤ ss.length ∧ i = .int .i64 (k : Int) ∧ Below w.heap.size w wr ∧ ∀ j, j < k → wrongB T (nthB ss j) = false) (fun i _ => ss.length - (intOf i).toNat)
      case atStart => exact ⟨0, Nat.zero_le _, rfl, Below.refl _ _, fun j hj => by omega⟩
      case round =>
        obtain ⟨k, hk, rfl, hB, hok⟩ := hrel
        have HOk := Lib.hid hok
        have HB := Lib.hid hB
        clear hok hB
        by_cases hlt : k < ss.length
        · have hcell := HX.out.below HB.out hb k hlt
          have hWr := HW.out k hlt
          obtain ⟨s, hs⟩ : ∃ s, nthB ss k = s := ⟨_, rfl⟩
          rw [hs] at hcell hWr
          have Hs := Lib.hid hs
          obtain ⟨z, hz⟩ : ∃ z, s.size = z := ⟨_, rfl⟩
          have hk0 : (0 : Int) ≤ (k : Int) := by omega
          have hk1 : (k : Int) < (ss.length : Int) := by omega
          by_cases hzT : z = T
          · have b4 : ((z : Int) != (T : Int)) = false := by simp; omega
            have Hz := Lib.hid (hz.trans hzT)
            have HWr := Lib.hid hWr
            have HZ := Lib.hid hz
            clear hs hWr hzT
            go_wp2_with fail
            refine (H44 _).mono ?_
            rintro e w2 ⟨rfl, hww⟩
            have HB2 := Lib.hid (show Below w.heap.size w w2 from by rw [hww]; exact HB.out)
            clear hww hcell hz
            go_wp2_with fail
            go_loopw [6] (fun i wz => ∃ t : Nat, t ≤ T ∧ i = .int .i64 (t : Int) ∧ Below w.heap.size w wz ∧ ∀ j, j < t → bytN s j = 120 ∨ bytN s j = 46) (fun i _ => T - (intOf i).toNat)
            case atStart => exact ⟨0, Nat.zero_le _, rfl, HB2.out, fun j hj => by omega⟩
            case round =>
              obtain ⟨t, ht, rfl, hB, hok⟩ := hrel
              have HPk := Lib.hid hok
              have HB3 := Lib.hid hB
              clear hok hB
              by_cases htl : t < T
              · have hcell := HX.out.below HB3.out hb k hlt
                rw [Hs.out] at hcell
                have hi := fun W => bytN_idx (s := s) (k := t) (by rw [Hz.out]; exact htl) W
                obtain ⟨x, hx⟩ : ∃ x, bytN s t = x := ⟨_, rfl⟩
                have Hx := Lib.hid hx
                rw [hx] at hi
                have ht0 : (0 : Int) ≤ (t : Int) := by omega
                have ht1 : (t : Int) < (T : Int) := by omega
                clear hx
                by_cases h1 : x = 120
                · subst h1
                  have HO2 := Lib.hid (show ∀ j, j < t + 1 → bytN s j = 120 ∨ bytN s j = 46 from fun j hj => by
                    by_cases e : j = t
                    · rw [e]; exact .inl Hx.out
                    · exact HPk.out j (by omega))
                  go_wp2_with fail
                  go_roundw
                  case rel => exact ⟨t + 1, by omega, by go_num, HB3.out, HO2.out⟩
                  case measure => simp [intOf]; omega
                · by_cases h2 : x = 46
                  · subst h2
                    have HO2 := Lib.hid (show ∀ j, j < t + 1 → bytN s j = 120 ∨ bytN s j = 46 from fun j hj => by
                      by_cases e : j = t
                      · rw [e]; exact .inr Hx.out
                      · exact HPk.out j (by omega))
                    clear h1
                    go_wp2_with fail
                    go_roundw
                    case rel => exact ⟨t + 1, by omega, by go_num, HB3.out, HO2.out⟩
                    case measure => simp [intOf]; omega
                  · have HN := Lib.hid (HWr.out (by unfold wrongB; rw [pickB_no (s := s) (k := t) (by rw [Hz.out]; exact htl) (by rw [Hx.out]; exact h1) (by rw [Hx.out]; exact h2)]; simp))
                    have d1 : ((x : Int) != 120) = true := by simp; omega
                    have d2 : ((x : Int) != 46) = true := by simp; omega
                    have d3 : ((x : Int) == 120) = false := by simp; omega
                    have d4 : ((x : Int) == 46) = false := by simp; omega
                    clear h1 h2
                    go_wp2_with fail
                    go_ret
                    exact ⟨ret_int (by rw [HN.out]), HB3.out⟩
              · have HY := Lib.hid (pickB_true.2 fun j hj => HPk.out j (by rw [Hz.out] at hj; omega))
                have HO2 := Lib.hid (show ∀ j, j < k + 1 → wrongB T (nthB ss j) = false from fun j hj => by
                  by_cases e : j = k
                  · rw [e, Hs.out]; unfold wrongB; rw [HY.out, Hz.out]; simp
                  · exact HOk.out j (by omega))
                go_wp2_with fail
                go_roundw
                case rel => exact ⟨k + 1, by omega, by go_num, HB3.out, HO2.out⟩
                case measure => simp [intOf]; omega
          · have b4 : ((z : Int) != (T : Int)) = true := by simp; omega
            have HN := Lib.hid (hWr (by unfold wrongB; rw [hz]; simp [hzT]))
            clear hs hWr hzT
            go_wp2_with fail
            go_ret
            exact ⟨ret_int (by rw [HN.out]), HB.out⟩
        · have HN := Lib.hid (HRt.out fun j hj => HOk.out j (by omega))
          go_wp2_with fail
          go_ret
          exact ⟨ret_int (by rw [HN.out]), HB.out⟩
theorem bare_ok (w : World) : Calls Try.prog 51 #[.agg #[.int .i64 0, .slice none 0 0]] w fun e w' => e = .returned (.bool true) ∧ Below w.heap.size w w' := by
  have Hb0 := Lib.hid (show Below w.heap.size w (w.alloc (.cells #[.int .i64 0, .slice none 0 0] 37)) from (Below.refl _ _).alloc (Nat.le_refl _) _)
  go_enter Try.func51, Try.ntmps51
  go_wp2_with fail
  go_ret
  exact ⟨rfl, Hb0.out⟩
/-- the first warp of a hook -/
def FirR (hs : List Nat) (h : Nat) (r : Int) : Prop := (∃ k : Nat, k < hs.length ∧ nthN hs k = h ∧ (∀ j, j < k → nthN hs j ≠ h) ∧ r = (k : Int)) ∨ ((∀ j, j < hs.length → nthN hs j ≠ h) ∧ r = -1)
set_option maxRecDepth 100000 in
set_option maxHeartbeats 1000000 in
theorem refFirst_any (n b off c h : Nat) (hs : List Nat) (w : World) (hv : TAt w b off n hs) (_ : h < 1000) :
    Calls Try.prog 129 #[.agg #[.int .i64 (n : Int), .slice (some ⟨b, off, none⟩) hs.length c], .int .i64 (h : Int)] w fun e w' => (∃ r : Int, e = .returned (.int .i64 r) ∧ FirR hs h r) ∧ Below w.heap.size w w' := by
  obtain ⟨w0, hw0⟩ : ∃ w0, w0 = w.alloc (.cells #[.int .i64 (n : Int), .slice (some ⟨b, off, none⟩) hs.length c] 26) := ⟨_, rfl⟩
  have hb0 : Below w.heap.size w w0 := by rw [hw0]; exact (Below.refl _ _).alloc (Nat.le_refl _) _
  have hA : BoxAt w0 w.heap.size #[.int .i64 (n : Int), .slice (some ⟨b, off, none⟩) hs.length c] 26 := by rw [hw0]; exact BoxAt.new w _ _
  have HV := Lib.hid (hv.next hb0)
  have HW0 := Lib.hid hw0
  have Hb0 := Lib.hid hb0
  have a1 := hA.cell' 1 rfl
  have hT1 := hv.l1
  have hn1 := hv.n1
  clear hw0 hb0 hA hv
  go_enter Try.func129, Try.ntmps129
  go_wp2_with fail
  rw [← HW0.out]
  go_loopw [5] (fun i wr => ∃ k : Nat, k ≤ hs.length ∧ i = .int .i64 (k : Int) ∧ wr = w0 ∧ ∀ j, j < k → nthN hs j ≠ h) (fun i _ => hs.length - (intOf i).toNat)
  case atStart => exact ⟨0, Nat.zero_le _, rfl, rfl, fun j hj => by omega⟩
  case round =>
    obtain ⟨k, hk, rfl, rfl, hno⟩ := hrel
    have HNo := Lib.hid hno
    clear hno
    by_cases hlt : k < hs.length
    · have hc := HV.out.at' k hlt
      have hkn := HV.out.hk k hlt
      have hk0 : (0 : Int) ≤ (k : Int) := by omega
      have hk1 : (k : Int) < (hs.length : Int) := by omega
      obtain ⟨x, hx⟩ : ∃ x, nthN hs k = x := ⟨_, rfl⟩
      have Hx := Lib.hid hx
      rw [hx] at hc hkn
      clear hx
      by_cases e : x = h
      · have hb : ((x : Int) == (h : Int)) = true := by simp [e]
        have HF := Lib.hid (show FirR hs h (k : Int) from .inl ⟨k, hlt, Hx.out.trans e, HNo.out, rfl⟩)
        clear e
        go_wp2_with fail
        go_ret
        exact ⟨⟨_, rfl, HF.out⟩, Hb0.out⟩
      · have hb : ((x : Int) == (h : Int)) = false := by simp; omega
        have HN2 := Lib.hid (show ∀ j, j < k + 1 → nthN hs j ≠ h from fun j hj => by
          by_cases e2 : j = k
          · rw [e2, Hx.out]; exact e
          · exact HNo.out j (by omega))
        clear e
        go_wp2_with fail
        go_roundw
        case rel => exact ⟨k + 1, by omega, by go_num, trivial, HN2.out⟩
        case measure => simp [intOf]; omega
    · have HF := Lib.hid (show FirR hs h (-1) from .inr ⟨fun j hj => HNo.out j (by omega), rfl⟩)
      go_wp2_with fail
      go_ret
      exact ⟨⟨_, rfl, HF.out⟩, Hb0.out⟩
/-- whether a harness or a cloth is too large -/
def lrgB (L : Nat) (ss : List ByteArray) : Bool := ss.any (fun s => decide (110 < s.size)) || decide (110 < L) || decide (70 < ss.length)
set_option maxRecDepth 100000 in
set_option maxHeartbeats 1000000 in
theorem tieLarge3_any (h : Int) (p p2 : Option Addr) (c c2 L : Nat) (ss : List ByteArray) (w : World) (hx : StrR w (.slice p2 ss.length c2) ss) (hl : ss.length ≤ 9223372036854775807) :
    Calls Try.prog 27 #[.agg #[.int .i64 h, .slice p L c], .agg #[.int .i64 0, .slice none 0 0], .slice p2 ss.length c2] w fun e w' => e = .returned (.bool (lrgB L ss)) ∧ Below w.heap.size w w' := by
  obtain ⟨w0, hw0⟩ : ∃ w0, w0 = (w.alloc (.cells #[.int .i64 h, .slice p L c] 26)).alloc (.cells #[.int .i64 0, .slice none 0 0] 37) := ⟨_, rfl⟩
  have hb0 : Below w.heap.size w w0 := by rw [hw0]; exact ((Below.refl _ _).alloc (Nat.le_refl _) _).alloc (by simp) _
  have hA : BoxAt w0 w.heap.size #[.int .i64 h, .slice p L c] 26 := by rw [hw0]; exact (BoxAt.new w _ _).next ((Below.refl _ _).alloc (Nat.le_refl _) _)
  have hP : BoxAt w0 (w.heap.size + 1) #[.int .i64 0, .slice none 0 0] 37 := by
    rw [hw0]; have := BoxAt.new (w.alloc (.cells #[.int .i64 h, .slice p L c] 26)) #[.int .i64 0, .slice none 0 0] 37; rw [World.size_alloc] at this; exact this
  have HX := Lib.hid (hx.next hb0)
  have HW0 := Lib.hid hw0
  have Hb0 := Lib.hid hb0
  have a1 := hA.cell' 1 rfl
  have b1 := hP.cell' 1 rfl
  clear hw0 hb0 hA hP hx
  go_enter Try.func27, Try.ntmps27
  go_wp2_with fail
  rw [← HW0.out]
  go_loopw [7] (fun i wr => ∃ k : Nat, k ≤ ss.length ∧ i = .int .i64 (k : Int) ∧ wr = w0 ∧ ∀ j, j < k → ¬ 110 < (nthB ss j).size) (fun i _ => ss.length - (intOf i).toNat)
  case atStart => exact ⟨0, Nat.zero_le _, rfl, rfl, fun j hj => by omega⟩
  case round =>
    obtain ⟨k, hk, rfl, rfl, hno⟩ := hrel
    have HNo := Lib.hid hno
    clear hno
    by_cases hlt : k < ss.length
    · obtain ⟨b, off, rfl, hb, hx⟩ := HX.out.open (by omega)
      have hc := hx k hlt
      have hk0 : (0 : Int) ≤ (k : Int) := by omega
      have hk1 : (k : Int) < (ss.length : Int) := by omega
      obtain ⟨s, hs⟩ : ∃ s, nthB ss k = s := ⟨_, rfl⟩
      have Hs := Lib.hid hs
      rw [hs] at hc
      obtain ⟨z, hz⟩ : ∃ z, s.size = z := ⟨_, rfl⟩
      clear hx
      by_cases e : 110 < z
      · have d1 : decide ((110 : Int) < (z : Int)) = true := decide_eq_true (by omega)
        have d2 : decide (110 < z) = true := decide_eq_true e
        have HA := Lib.hid (show lrgB L ss = true by
          unfold lrgB
          rw [show ss.any (fun s => decide (110 < s.size)) = true from ?_]
          · rfl
          rw [List.any_eq_true]
          exact ⟨s, by rw [← hs, nthB_get _ _ hlt]; exact List.getElem_mem _, by rw [hz]; exact d2⟩)
        clear e hs
        go_wp2_with fail
        go_ret
        exact ⟨ret_bool (by rw [HA.out]), Hb0.out⟩
      · have d1 : decide ((110 : Int) < (z : Int)) = false := decide_eq_false (by omega)
        have d2 : decide (110 < z) = false := decide_eq_false e
        have HN2 := Lib.hid (show ∀ j, j < k + 1 → ¬ 110 < (nthB ss j).size from fun j hj => by
          by_cases e2 : j = k
          · rw [e2, hs, hz]; exact e
          · exact HNo.out j (by omega))
        clear e hs
        go_wp2_with fail
        go_roundw
        case rel => exact ⟨k + 1, by omega, by go_num, trivial, HN2.out⟩
        case measure => simp [intOf]; omega
    · have hA : ss.any (fun s => decide (110 < s.size)) = false := by
        rw [List.any_eq_false]
        intro s hs
        obtain ⟨i, hi, rfl⟩ := List.mem_iff_getElem.1 hs
        have := HNo.out i (by omega)
        rw [nthB_get _ _ hi] at this
        simp; omega
      have Hv := Lib.hid (show lrgB L ss = (decide (110 < L) || decide (70 < ss.length)) by unfold lrgB; rw [hA]; rfl)
      clear hA
      by_cases e : 110 < L
      · have d1 : decide ((110 : Int) < (L : Int)) = true := decide_eq_true (by omega)
        have d2 : decide (110 < L) = true := decide_eq_true e
        clear e
        go_wp2_with fail
        go_ret
        exact ⟨ret_bool (by rw [Hv.out, d2]; rfl), Hb0.out⟩
      · have d1 : decide ((110 : Int) < (L : Int)) = false := decide_eq_false (by omega)
        have d2 : decide (110 < L) = false := decide_eq_false e
        clear e
        by_cases e : 70 < ss.length
        · have d3 : decide ((70 : Int) < (ss.length : Int)) = true := decide_eq_true (by omega)
          have d4 : decide (70 < ss.length) = true := decide_eq_true e
          clear e
          go_wp2_with fail
          go_ret
          exact ⟨ret_bool (by rw [Hv.out, d2, d4]; rfl), Hb0.out⟩
        · have d3 : decide ((70 : Int) < (ss.length : Int)) = false := decide_eq_false (by omega)
          have d4 : decide (70 < ss.length) = false := decide_eq_false e
          clear e
          go_wp2_with fail
          go_ret
          exact ⟨ret_bool (by rw [Hv.out, d2, d4]; rfl), Hb0.out⟩
end Go.Proofs.Ytdmgffoikebgkaa
/- Chapter 3: the reference's rows and designs out of points. -/
namespace Go.Proofs.Ytdmgffoikebgkaa
open Go.RowKit

theorem row_step (f : Nat → Bool) (m k : Nat) (hk : k < m) : rowTo f m / 2 ^ k = 2 * (rowTo f m / 2 ^ (k + 1)) + (f k).toNat := by
  have h1 : rowTo f m / 2 ^ (k + 1) = rowTo f m / 2 ^ k / 2 := by rw [Nat.pow_succ, Nat.div_div_eq_div_mul]
  have h2 : rowTo f m / 2 ^ k % 2 = (f k).toNat := by
    rw [← Nat.toNat_testBit, rowTo_bit]; simp [hk]
  omega
theorem rowTo_lt24 (f : Nat → Bool) (m : Nat) (hm : m ≤ 24) : rowTo f m < 16777216 :=
  Nat.lt_of_lt_of_le (rowTo_lt f m) (Nat.le_trans (Nat.pow_le_pow_right (by decide) hm) (by decide))

set_option maxHeartbeats 1000000 in
theorem refRow_any (b c m : Nat) (f : Nat → Bool) (w : World) (hm : m ≤ 24) (hB : BoolsAt w b m f) :
    Calls Try.prog 183 #[.slice (some ⟨b, 0, none⟩) m c] w fun e w' => e = .returned (.int .i64 (rowTo f m : Nat)) ∧ w = w' := by
  have hlt0 := rowTo_lt24 f m hm
  have hend := Lib.hid (Nat.div_eq_of_lt (rowTo_lt f m))
  have HS := Lib.hid (fun k hk => row_step f m k hk)
  obtain ⟨X, hX⟩ : ∃ X, X = rowTo f m := ⟨_, rfl⟩
  rw [← hX] at hend HS hlt0 ⊢
  have HC := Lib.hid hB.c
  clear hX hB
  go_enter Try.func183, Try.ntmps183
  go_wp2
  go_loop [3, 4] (fun r i => ∃ k : Nat, k ≤ m ∧ i = .int .i64 ((k : Int) - 1) ∧ r = .int .i64 ((X / 2 ^ k : Nat) : Int)) (fun _ i => (intOf i + 1).toNat)
  case atStart => exact ⟨m, Nat.le_refl _, rfl, by rw [hend.out]; rfl⟩
  case round =>
    obtain ⟨k, hk, rfl, rfl⟩ := hrel
    rcases k with _ | j
    · go_wp2
      go_ret
      exact ⟨ret_int (by simp), rfl⟩
    · have hst := HS.out j (by omega)
      have hc := HC.out j (by omega)
      have hle : X / 2 ^ j ≤ X := Nat.div_le_self _ _
      have hk0 : (0 : Int) ≤ (j : Int) := by omega
      have hk1 : (j : Int) < (m : Int) := by omega
      rw [show ((j + 1 : Nat) : Int) - 1 = (j : Int) by omega]
      obtain ⟨y, hy⟩ : ∃ y, y = X / 2 ^ (j + 1) := ⟨_, rfl⟩
      obtain ⟨z, hz⟩ : ∃ z, z = X / 2 ^ j := ⟨_, rfl⟩
      rw [← hy, ← hz] at hst
      rw [← hz] at hle
      rw [← hy]
      have HZ := Lib.hid hz
      clear hy hz
      cases hf : f j with
      | true =>
        rw [hf] at hst hc
        have Hst := Lib.hid hst
        have hyl : 2 * y + 1 ≤ 16777216 := by simp at hst; omega
        clear hst hf
        go_wp2
        go_round
        case rel => exact ⟨j, by omega, rfl, by rw [← HZ.out, Hst.out]; simp; omega⟩
        case measure => simp [intOf]
      | false =>
        rw [hf] at hst hc
        have Hst := Lib.hid hst
        have hyl : 2 * y ≤ 16777216 := by simp at hst; omega
        clear hst hf
        go_wp2
        go_round
        case rel => exact ⟨j, by omega, rfl, by rw [← HZ.out, Hst.out]; simp; omega⟩
        case measure => simp [intOf]

theorem copyOf_form {W : World} {B : Nat} {v : Value} {xs : List Int} (hlx : xs.length ≤ 17592186044416) (h : W.ownsRow B 3 1 v xs.length (xs.map (Value.int .i64))) : ∃ p c, v = .slice p xs.length c ∧ Reads W (.slice p xs.length c) xs ∧ (∀ a, p = some a → B ≤ a.block) := by
  have h0 := h
  obtain ⟨hl, ⟨rfl, hz⟩ | ⟨g, cap, cur, rfl, hg, hh, h1, h2, r⟩⟩ := h
  · obtain rfl : xs = [] := List.eq_nil_of_length_eq_zero hz
    exact ⟨_, _, rfl, ⟨_, _, rfl, by simp, fun h => by simp at h⟩, fun a h => by simp at h⟩
  · refine ⟨_, _, rfl, ⟨_, _, rfl, hlx, fun _ => ⟨g, 0, rfl, (Array.getElem?_eq_some_iff.1 hh).1, fun i hi => ?_⟩⟩, fun a h => by obtain rfl := Option.some.inj h; exact hg⟩
    have := h0.cellAt (0 + i) (by omega)
    rw [this, Nat.zero_add, List.getElem?_map, List.getElem?_eq_getElem hi, nthI_get xs i hi]
    rfl
theorem Reads.set {W : World} {p : Option Addr} {n c : Nat} {xs : List Int} (h : Reads W (.slice p n c) xs) (q : Addr) (u : Value) (hne : ∀ a, p = some a → a.block ≠ q.block) : Reads (W.setCell q u) (.slice p n c) xs := by
  obtain ⟨p', c', e, hl, hx⟩ := h
  refine ⟨p', c', e, hl, fun h0 => ?_⟩
  obtain ⟨b, off, rfl, hb, hi⟩ := hx h0
  have hpe : p = some ⟨b, off, none⟩ := by
    simp at e; exact e.1
  have hbq := hne _ hpe
  refine ⟨b, off, rfl, ?_, fun i hi' => (World.cell?_of_block (w := W) (a := ⟨b, off + i, none⟩) (Below.heap_setCell W q u b hbq)).trans (hi i hi')⟩
  simpa [World.setCell] using hb
/-- a design that is filled row by row, in a box of its own behind W1 -/
structure Mk (W1 : World) (D n : Nat) (rows : List Nat) (v : Value) (W : World) : Prop where
  r : RBox W D n v
  row : W.ownsRow (D + 1) 3 1 v rows.length (rows.map natV)
  below : Below D W1 W
theorem Mk.new (W : World) (n : Nat) : Mk W W.heap.size n [] (.slice none 0 0) (W.alloc (.cells #[.int .i64 (n : Int), .slice none 0 0] 37)) :=
  ⟨World.alloc_heap_new W _, World.ownsRow_nil _ _ _ _, (Below.refl _ _).alloc (Nat.le_refl _) _⟩
section
variable {W1 W W' : World} {D n : Nat} {rows rows' : List Nat} {v v' : Value}
theorem Mk.next (h : Mk W1 D n rows v W) (hb : Below W.heap.size W W') : Mk W1 D n rows v W' :=
  ⟨(hb.block _ h.r.lt).trans h.r, ownsRow_next h.row hb, h.below.trans (hb.mono (by have := h.r.lt; omega))⟩
theorem Mk.far (h : Mk W1 D n rows v W) {j : Nat} (hj : j ≤ D) : some j ≠ v.ownBlock := ownsRow_far h.row (by omega)
theorem Mk.grew (h : Mk W1 D n rows v W) (hg : W.grownBy W' v.ownBlock) (hown : W'.ownsRow (D + 1) 3 1 v' rows'.length (rows'.map natV)) : Mk W1 D n rows' v' (W'.setCell ⟨D, 1, none⟩ v') := by
  have hr := (hg.block D h.r.lt (h.far (Nat.le_refl _))).trans h.r
  refine ⟨RBox.set1 hr v', own_set hown _ _ (ownsRow_far hown (by simp)), ?_⟩
  exact (h.below.grown hg (by have := h.r.lt; omega) (fun k hk => by have := (h.row.lt k hk).1; omega)).setCell (Nat.le_refl _) _
theorem Mk.slice (h : Mk W1 D n rows v W) : ∃ p a c, v = .slice p a c := by
  obtain ⟨_, ⟨h, _⟩ | ⟨g, cap, cur, h, _⟩⟩ := h.row
  · exact ⟨_, _, _, h⟩
  · exact ⟨_, _, _, h⟩
/-- what was filled, as a list -/
theorem Mk.reads (h : Mk W1 D n rows v W) (hl : rows.length ≤ 1000) : ∃ p c, v = .slice p rows.length c ∧ Reads W (.slice p rows.length c) (ints rows) ∧ (∀ a, p = some a → D < a.block) := by
  have hm : rows.map natV = (ints rows).map (Value.int .i64) := by simp [ints, natV]
  have h2 : W.ownsRow (D + 1) 3 1 v (ints rows).length ((ints rows).map (Value.int .i64)) := by
    rw [ints_len, ← hm]; exact h.row
  obtain ⟨p, c, h3, h4, h5⟩ := copyOf_form (by rw [ints_len]; omega) h2
  rw [ints_len] at h3 h4
  exact ⟨p, c, h3, h4, fun a ha => by have := h5 a ha; omega⟩
end
/-- a new design -/
def CopyN (h : Int) (xs : List Int) (w : World) (e : Ending) (w' : World) : Prop := ∃ p c, e = .returned (.agg #[.int .i64 h, .slice p xs.length c]) ∧ Reads w' (.slice p xs.length c) xs ∧ (∀ a, p = some a → w.heap.size ≤ a.block) ∧ Below w.heap.size w w'
theorem painted_succ (f : Nat → Nat → Bool) (k m : Nat) : painted f (k + 1) m = painted f k m ++ [rowTo (f k) m] := by simp [painted, List.range_succ]

set_option maxRecDepth 100000 in
set_option maxHeartbeats 4000000 in
theorem Design_any (g N m c : Nat) (f : Nat → Nat → Bool) (w : World) (hN1 : 1 ≤ N) (hN : N ≤ 60) (hm : m ≤ 24) (hT : TabAt w g N m f) :
    Calls Try.prog 130 #[.slice (some ⟨g, 0, none⟩) N c] w (CopyN (m : Int) (ints (painted f N m)) w) := by
  obtain ⟨i0, hi, hz0, hz1, hz2⟩ := info_parts Try.info3
  have hT1 := hT.below (below1 w (.cells #[.int .i64 0, .slice none 0 0] 37))
  obtain ⟨b0, c0, h0, _⟩ := hT1.r 0 (by omega)
  have hN0 : (0 : Int) < (N : Int) := by omega
  have HT := Lib.hid hT
  clear hT hT1
  go_enter Try.func130, Try.ntmps130
  go_wp2_with fail
  have hMk := Mk.new (w.alloc (.cells #[.int .i64 0, .slice none 0 0] 37)) m
  rw [World.size_alloc] at hMk
  have hW1 : Below w.heap.size w (w.alloc (.cells #[.int .i64 0, .slice none 0 0] 37)) := below1 _ _
  have hQ := ResBox.new w
  obtain ⟨W1, hW1e⟩ : ∃ W1, W1 = w.alloc (.cells #[.int .i64 0, .slice none 0 0] 37) := ⟨_, rfl⟩
  rw [← hW1e] at hMk hW1 hQ h0 ⊢
  have HMk := Lib.hid hMk
  have HW1 := Lib.hid hW1
  have HQ := Lib.hid hQ
  clear hW1e hMk hW1 hQ h0
  go_loopw [4] (fun i wr => ∃ k : Nat, k ≤ N ∧ i = .int .i64 k ∧ ∃ v, Mk W1 (w.heap.size + 1) m (painted f k m) v wr) (fun i _ => N - (intOf i).toNat)
  case atStart => exact ⟨0, Nat.zero_le _, rfl, _, HMk.out⟩
  case round =>
    obtain ⟨k, hk, rfl, v, hM⟩ := hrel
    have hlen : (painted f k m).length = k := painted_len _ _ _
    have Hlen := Lib.hid hlen
    clear hlen
    by_cases hlt : k < N
    · have hBw : Below w.heap.size w wr := HW1.out.trans (hM.below.mono (by omega))
      have hTr := (HT.out.below hBw).r k hlt
      obtain ⟨bk, ck, hck, hbk⟩ := hTr
      have Hr := refRow_any bk ck m (f k) wr.drew hm (hbk.below (Below.refl _ _).drew hbk.lt)
      have hk0 : (0 : Int) ≤ (k : Int) := by omega
      have hk1 : (k : Int) < (N : Int) := by omega
      have g0 := hM.r.c1
      have g1 := hM.r.f 1
      have hz : w.heap.size + 1 < wr.heap.size := hM.r.lt
      have HM := Lib.hid hM
      have HRow := Lib.hid hM.row
      have hnr := hM.far (Nat.le_refl _)
      have hn25 : k + 1 ≤ maxLen := by unfold maxLen; omega
      obtain ⟨X, hX⟩ : ∃ X, X = rowTo (f k) m := ⟨_, rfl⟩
      rw [← hX] at Hr
      have HX := Lib.hid hX
      clear hM hBw hX hbk
      go_wp2_with fail
      go_region_law
        (first
          | (go_simp; go_at_call 183; (with_reducible refine Hr.mono ?_); rintro e w5 ⟨rfl, rfl⟩)
          | ((refine step_append_lies _ (by rfl) _ _ _ (by rfl) (w.heap.size + 1 + 1) 3 i0 _ 1 8 Try.underlying24 hi hz0 hz1 hz2 rfl (by omega) v (painted f k m).length ((painted f k m).map natV) (by rfl) ((HRow.out.alloc _).drew)
                  ⟨wr.heap.size, 0, none⟩ 1 1 [.int .i64 (X : Int)] (by rfl) (by rfl) (World.news_of_block (cs := #[.int .i64 (X : Int)]) (t := 3) (fr := (0, 0)) (heap_alloc_new wr _)) (by simp [Value.oneCell'])
                  (by omega) (by rw [Hlen.out]; exact hn25) (by rw [Hlen.out]; omega) (by simp; omega) (wr.heap.size + 1) (by simp) ?_; intro g5 cap w5 hown1 hgrow hat hglt)
             have hBA := (HM.out.next (((Below.refl wr.heap.size wr).alloc (Nat.le_refl _) (.cells #[.int .i64 (X : Int)] 3)).drew)).grew (rows' := painted f k m ++ [X]) hgrow (by rw [List.length_append, List.length_singleton, List.map_append]; exact hown1)
             have hr5 : RBox w5 (w.heap.size + 1) m v := (hgrow.block _ (by simp; omega) hnr).trans ((Below.heap_alloc _ _ _ hz).trans HM.out.r)
             have f5 := hr5.f 1
             have c5 := hr5.c1
             have HBA := Lib.hid hBA
             clear hBA hr5 hown1 hgrow hat))
      all_goals
        (obtain ⟨W5, hW5⟩ : ∃ W5, W5 = w5.setCell ⟨w.heap.size + 1, 1, none⟩ (.slice (some ⟨g5, 0, none⟩) ((painted f k m).length + 1) cap) := ⟨_, rfl⟩
         rw [← hW5] at HBA ⊢
         clear hW5 f5 c5
         go_wp2_with fail
         go_roundw)
      all_goals first
        | (simp [intOf]; omega)
        | exact ⟨k + 1, by omega, by go_num, _, by rw [painted_succ, ← HX.out]; exact HBA.out⟩
    · obtain rfl : k = N := by omega
      have h5 := hM.reads (by rw [Hlen.out]; omega)
      rw [Hlen.out] at h5
      obtain ⟨p, cc, rfl, hRd, hfar⟩ := h5
      have f0 := hM.r.c0
      have f1 := hM.r.c1
      have q := HQ.out.below hM.below (by omega)
      have k0 := q.c0
      have k1 := q.c1
      have k2 := q.f 0
      have k3 := q.f 1
      have HBw := Lib.hid (HW1.out.trans (hM.below.mono (by omega)))
      have HRd := Lib.hid hRd
      have Hfar := Lib.hid hfar
      clear hM q hRd hfar
      go_wp2_with fail
      refine bodyPost_ret (v := .agg #[.int .i64 (m : Int), .slice p k cc]) ?_ rfl ⟨p, cc, by rw [ints_len, painted_len], ?_, fun a e => by have := Hfar.out a e; omega, (HBw.out.setCell (by simp) _).setCell (by simp) _⟩
      · simp [results, Try.results130, go_sem, k0, k1]
      · rw [ints_len, painted_len]
        exact (HRd.out.set _ _ (fun a e => by have := Hfar.out a e; simp; omega)).set _ _ (fun a e => by have := Hfar.out a e; simp; omega)
end Go.Proofs.Ytdmgffoikebgkaa
/- Chapter 3: the reference's floats of a cloth. -/
namespace Go.Proofs.Ytdmgffoikebgkaa
open Go.RowKit Go.Shelf
attribute [local go_sem] Oper.semAt_some

theorem elemBool : ElemT 168 4 1 1 := by
  obtain ⟨i, hi, hz0, hz1, hz2⟩ := info_parts tInfo4
  exact ⟨i, _, by kernel_rfl, hi, hz0, hz1, hz2, rfl, by decide⟩
end Go.Proofs.Ytdmgffoikebgkaa
/- Chapter 3: where two warps of one hook are not alike, and the design of a cloth, as the reference finds them. -/
namespace Go.Proofs.Ytdmgffoikebgkaa
open Go.RowKit Go.Shelf
attribute [local go_sem] Oper.semAt_some

theorem fir_first {hs : List Nat} {h : Nat} {r : Int} (hr : FirR hs h r) : (∃ k : Nat, k < hs.length ∧ firstH hs h = some k ∧ r = (k : Int)) ∨ (firstH hs h = none ∧ r = -1) := by
  rcases hr with ⟨k, hk, e, hmin, rfl⟩ | ⟨hno, rfl⟩
  · refine .inl ⟨k, hk, ?_, rfl⟩
    unfold firstH
    rw [List.find?_range_eq_some]
    exact ⟨by simpa using e, by simpa using hk, fun j hj => by simpa using hmin j hj⟩
  · refine .inr ⟨?_, rfl⟩
    unfold firstH
    rw [List.find?_eq_none]
    intro j hj
    simpa using hno j (by simpa using hj)
end Go.Proofs.Ytdmgffoikebgkaa
