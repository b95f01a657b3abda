/- floats: all floats of a design along picks, or along hooks. · floats along hooks. -/
import Derived.Laws.EntriesVeiled
import Derived.Test.YtdmgffoikebgkaaTb01
import Derived.Test.YtdmgffoikebgkaaTb02
import Derived.Test.YtdmgffoikebgkaaTb03
import Derived.Test.YtdmgffoikebgkaaTb04
import Derived.Test.YtdmgffoikebgkaaTb05
import Derived.Test.YtdmgffoikebgkaaTb06
import Derived.Test.YtdmgffoikebgkaaTb07
import Derived.Test.YtdmgffoikebgkaaTb08
import Derived.Test.YtdmgffoikebgkaaTb09
import Derived.Test.YtdmgffoikebgkaaTb10
import Derived.Test.YtdmgffoikebgkaaTb11
import Derived.Test.YtdmgffoikebgkaaTb12
import Derived.Test.YtdmgffoikebgkaaTb13
import Derived.Test.YtdmgffoikebgkaaTb14
import Derived.Test.YtdmgffoikebgkaaTb15
import Derived.Test.YtdmgffoikebgkaaTb16
import Derived.Test.YtdmgffoikebgkaaTb17
import Derived.Test.YtdmgffoikebgkaaTb18
import Derived.Test.YtdmgffoikebgkaaTb19
import Derived.Test.YtdmgffoikebgkaaTb20
import Derived.LoopNIn
import Derived.Maps.OwnIn
import Derived.Deep.RegionHeld3
import Derived.Maps.OwnOps
import Derived.Maps.Views
import Derived.DeepKeys4
import Derived.KernelRfl
import Derived.Maps.AppendAt
import Derived.Deep.RegionWith
import Derived.Deep.AppendLies
import Derived.Deep.RegionLaw
import Derived.Deep.DeepCutAuto
import Derived.Deep.QuietTactic
import Derived.BigQuiet
import Derived.Laws.IdiomStrings
namespace Go.Proofs.Ytdmgffoikebgkaa
section
open Go.RowKit Go.Shelf
attribute [local go_sem] Oper.semAt_some

/-- the floats of one ring -/
def ringFl (mk : Run → Fl) (m : Int) (rs : List Run) : List Fl := (rs.filter fun r => decide (m < (r.length : Int))).map mk
theorem ringFl_len (mk : Run → Fl) (m : Int) (rs : List Run) : (ringFl mk m rs).length ≤ rs.length := by
  unfold ringFl; rw [List.length_map]; exact List.length_filter_le _ _
theorem ringFl_yes (mk : Run → Fl) (m : Int) (rs : List Run) (r : Run) (h : m < (r.length : Int)) : ringFl mk m (rs ++ [r]) = ringFl mk m rs ++ [mk r] := by
  simp [ringFl, List.filter_append, h]
theorem ringFl_no (mk : Run → Fl) (m : Int) (rs : List Run) (r : Run) (h : ¬ m < (r.length : Int)) : ringFl mk m (rs ++ [r]) = ringFl mk m rs := by
  simp [ringFl, List.filter_append, h]
theorem ringFl_step (mk : Run → Fl) (m : Int) (rs : List Run) (r : Run) : ringFl mk m (rs ++ [r]) = ringFl mk m rs ++ (if m < (r.length : Int) then [mk r] else []) := by
  by_cases h : m < (r.length : Int)
  · rw [ringFl_yes mk m rs r h, if_pos h]
  · rw [ringFl_no mk m rs r h, if_neg h, List.append_nil]
end
end Go.Proofs.Ytdmgffoikebgkaa
namespace Go.Proofs.Ytdmgffoikebgkaa
section
open Go.RowKit Go.Shelf
attribute [local go_sem] Oper.semAt_some
end
end Go.Proofs.Ytdmgffoikebgkaa
/- Harness ties: the hooks of one group, one after the other, and Make, at the group of the document's example. -/
namespace Go.Proofs.Ytdmgffoikebgkaa
open Go.RowKit Go.Shelf
attribute [local go_sem] Oper.semAt_some

def intV (n : Int) : Value := .int .i64 n
end Go.Proofs.Ytdmgffoikebgkaa
/- Floats in memory; the windows of Proof. -/
namespace Go.Proofs.Ytdmgffoikebgkaa
open Go.RowKit

theorem nthF_get (fs : List Fl) (i : Nat) (h : i < fs.length) : nthF fs i = fs[i] := by simp [nthF, h]
theorem nthF_mem (fs : List Fl) (i : Nat) (h : i < fs.length) : nthF fs i ∈ fs := by rw [nthF_get fs i h]; exact List.getElem_mem _
theorem upTo_mem {f : Nat → List Fl} {k : Nat} {x : Fl} (h : x ∈ upTo f k) : ∃ i, i < k ∧ x ∈ f i := by
  simpa [upTo] using h
theorem ownsRow_next {W W' : World} {base e size k : Nat} {v : Value} {xs : List Value} (h : W.ownsRow base e size v k xs) (hb : Below W.heap.size W W') : W'.ownsRow base e size v k xs := by
  obtain ⟨hl, h2⟩ := h
  refine ⟨hl, ?_⟩
  rcases h2 with h2 | ⟨g, cap, cur, e, hg, hh, r⟩
  · exact .inl h2
  · exact .inr ⟨g, cap, cur, e, hg, (hb.block _ (Array.getElem?_eq_some_iff.1 hh).1).trans hh, r⟩
end Go.Proofs.Ytdmgffoikebgkaa
/- Differ. -/
namespace Go.Proofs.Ytdmgffoikebgkaa
open Go.RowKit Go.Shelf

end Go.Proofs.Ytdmgffoikebgkaa
/- (after texts BA, BB, BC, BD, BF, ZB, XA of the first seat) What Bind makes: a bound design with the fewest changes; what a bound row is woven as. -/
namespace Go.Proofs.Ytdmgffoikebgkaa
open Go.RowKit

section
variable (p f h L : Nat) (now : List Nat) (a : Bool) (next0 : List Nat)
end
end Go.Proofs.Ytdmgffoikebgkaa
/- TopBound: which rows can be bound; Bind, Floats and Differ for its designs; a byte. -/
namespace Go.Proofs.Ytdmgffoikebgkaa
open Go.RowKit Go.Shelf
attribute [local go_sem] Oper.semAt_some

theorem con_free (p x : Nat) (s : Nat) : con p 0 x s = 0 := (con_zero s).2 fun j _ _ => by simp [bitN]
end Go.Proofs.Ytdmgffoikebgkaa
/- The reference of chapter 1: In, Check, Points, Table, Length, Bound. -/
namespace Go.Proofs.Ytdmgffoikebgkaa
open Go.RowKit

theorem tInfo77 : (Try.prog.info? 168).map (fun i => (i.zero, i.size, i.bytes)) = some (some (.slice none 0 0), 1, 24) := by kernel_rfl
/-- a table in memory: so many rows of so many bools -/
structure TabAt (W : World) (g N m : Nat) (f : Nat → Nat → Bool) : Prop where
  r : ∀ i, i < N → ∃ b c, W.cell? ⟨g, i, none⟩ = some (.slice (some ⟨b, 0, none⟩) m c) ∧ BoolsAt W b m (f i)
  lt : g < W.heap.size
theorem TabAt.below {W W' : World} {g N m : Nat} {f : Nat → Nat → Bool} (h : TabAt W g N m f) (hb : Below W.heap.size W W') : TabAt W' g N m f :=
  ⟨fun i hi => by obtain ⟨b, c, h1, h2⟩ := h.r i hi; exact ⟨b, c, (hb.cell (p := ⟨g, i, none⟩) h.lt).trans h1, h2.below hb h2.lt⟩, Nat.lt_of_lt_of_le h.lt hb.size⟩
/-- rows of a table that is being made -/
def RowsIn (W : World) (v : Value) (sl : List Value) (k m : Nat) (f : Nat → Nat → Bool) : Prop :=
  ∀ i, i < k → ∃ b c, sl[i]? = some (.slice (some ⟨b, 0, none⟩) m c) ∧ some b ≠ v.ownBlock ∧ BoolsAt W b m (f i)
theorem RowsIn.below {W W' : World} {v : Value} {sl : List Value} {k m : Nat} {f : Nat → Nat → Bool} (h : RowsIn W v sl k m f) (hb : Below W.heap.size W W') : RowsIn W' v sl k m f := fun i hi => by
  obtain ⟨b, c, h1, h2, h3⟩ := h i hi
  exact ⟨b, c, h1, h2, h3.below hb h3.lt⟩
theorem RowsIn.grow {W w5 : World} {v v' : Value} {sl : List Value} {k m b c H : Nat} {f : Nat → Nat → Bool} (h : RowsIn W v sl k m f) (hsl : sl.length = k) (hg : W.grownBy w5 v.ownBlock) (hb : BoolsAt W b m (f k)) (hbv : some b ≠ v.ownBlock)
    (hv' : v'.ownBlock = v.ownBlock ∨ v'.ownBlock = some H) (hH : W.heap.size ≤ H) : RowsIn w5 v' (sl ++ [.slice (some ⟨b, 0, none⟩) m c]) (k + 1) m f := fun i hi => by
  have hne : ∀ x, x < W.heap.size → some x ≠ v.ownBlock → some x ≠ v'.ownBlock := fun x hx hxv => by
    rcases hv' with e | e
    · rw [e]; exact hxv
    · rw [e]; intro h; simp at h; omega
  by_cases hik : i = k
  · subst hik
    refine ⟨b, c, by rw [List.getElem?_append_right (by omega), hsl]; simp, hne _ hb.lt hbv, hb.kept hg hbv⟩
  · obtain ⟨b', c', h1, h2, h3⟩ := h i (by omega)
    exact ⟨b', c', by rw [List.getElem?_append_left (by omega)]; exact h1, hne _ h3.lt h2, h3.kept hg h2⟩
theorem TabAt.of_rows {W : World} {B g c N m : Nat} {sl : List Value} {f : Nat → Nat → Bool} (h : W.ownsRow B 168 1 (.slice (some ⟨g, 0, none⟩) N c) N sl) (hr : RowsIn W (.slice (some ⟨g, 0, none⟩) N c) sl N m f) : TabAt W g N m f := by
  refine ⟨fun i hi => ?_, (h.lt g rfl).2⟩
  obtain ⟨b, c, h1, _, h3⟩ := hr i hi
  exact ⟨b, c, by rw [h.cellAt i (by omega), h1], h3⟩

theorem below_new1 (W : World) (o : Obj) : Below W.heap.size W (W.alloc o) := (Below.refl _ _).alloc (Nat.le_refl _) o
set_option maxRecDepth 100000 in
set_option maxHeartbeats 4000000 in
theorem Table_any (n b off c : Nat) (xs : List Nat) (w : World) (hn : n ≤ 60) (hl : xs.length ≤ 1000) (hx : NatsAt w b off xs) (hb : b < w.heap.size) (hv : ∀ i, nthN xs i < 16777216) :
    Calls Try.prog 123 #[.agg #[.int .i64 (n : Int), .slice (some ⟨b, off, none⟩) xs.length c]] w
      fun e w' => ∃ g c, e = .returned (.slice (some ⟨g, 0, none⟩) xs.length c) ∧ TabAt w' g xs.length n (fun i j => bitN (nthN xs i) j) ∧ Below w.heap.size w w' := by
  obtain ⟨i0, hi, hz0, hz1, hz2⟩ := info_parts tInfo77
  have HX := Lib.hid hx
  have HVl := Lib.hid hv
  clear hx hv
  go_enter Try.func123, Try.ntmps123
  go_wp2
  go_loopw [3, 4] (fun v i wr => ∃ (k g c2 : Nat) (sl : List Value), k ≤ xs.length ∧ i = .int .i64 k ∧ v = .slice (some ⟨g, 0, none⟩) k c2 ∧ wr.ownsRow (w.heap.size + 1) 168 1 (.slice (some ⟨g, 0, none⟩) k c2) k sl ∧ RowsIn wr (.slice (some ⟨g, 0, none⟩) k c2) sl k n (fun i j => bitN (nthN xs i) j) ∧
      wr.cell? ⟨w.heap.size, 0, none⟩ = some (.int .i64 (n : Int)) ∧ wr.cell? ⟨w.heap.size, 1, none⟩ = some (.slice (some ⟨b, off, none⟩) xs.length c) ∧ Below w.heap.size w wr) (fun _ i _ => xs.length - (intOf i).toNat)
  case atStart =>
    have h1 := World.ownsRow_made (base := w.heap.size + 1) (e := 168) (size := 1) (w.alloc (.cells #[.int .i64 (n : Int), .slice (some ⟨b, off, none⟩) xs.length c] 37)) #[] 0 (by simp) (Nat.zero_le _) rfl
    rw [World.size_alloc] at h1
    refine ⟨0, w.heap.size + 1, 0, [], Nat.zero_le _, rfl, rfl, h1, fun i hi => by omega, ?_, ?_, ((Below.refl _ _).alloc (Nat.le_refl _) _).alloc (by simp) _⟩
    · exact (((Below.refl (w.heap.size + 1) (w.alloc (.cells #[.int .i64 (n : Int), .slice (some ⟨b, off, none⟩) xs.length c] 37))).alloc (by simp) _).cell (p := ⟨w.heap.size, 0, none⟩) (by simp)).trans (by simp)
    · exact (((Below.refl (w.heap.size + 1) (w.alloc (.cells #[.int .i64 (n : Int), .slice (some ⟨b, off, none⟩) xs.length c] 37))).alloc (by simp) _).cell (p := ⟨w.heap.size, 1, none⟩) (by simp)).trans (by simp)
  case round =>
    obtain ⟨k, g, c2, sl, hk, rfl, rfl, hrow, hin, d0, d1, hB⟩ := hrel
    by_cases hlt : k < xs.length
    · have hc := (HX.out.below hB hb) k hlt
      have hk0 : (0 : Int) ≤ (k : Int) := by omega
      have hk1 : (k : Int) < (xs.length : Int) := by omega
      have Hp := fun W => Points_any (nthN xs k) n W (HVl.out k) hn
      have hz : w.heap.size < wr.heap.size := World.block_lt_of_cell? wr ⟨w.heap.size, 0, none⟩ d0
      have hgl := (hrow.lt g rfl).2
      have HRow := Lib.hid hrow
      have HIn := Lib.hid hin
      have HB := Lib.hid hB
      have hsll : sl.length = k := by have := hrow.1; omega
      have HSl := Lib.hid hsll
      have HD := Lib.hid (And.intro d0 d1)
      clear hrow hin hB hsll
      go_wp2_with fail
      go_region_law
        (first
          | (go_simp; go_at_call 136; (with_reducible refine (Hp _).mono ?_); rintro e w3 ⟨b3, c3, rfl, hb3, hbo3, hbl3⟩; have hs3 : wr.heap.size ≤ w3.heap.size := hbl3.size; have hb3' : wr.heap.size ≤ b3 := hb3; have HB3 := Lib.hid hbl3; have HBO := Lib.hid hbo3; clear hbl3 hbo3)
          | ((refine step_append_lies _ (by rfl) _ _ _ (by rfl) (w.heap.size + 1) 168 i0 _ 1 24 Try.underlying166 hi hz0 hz1 hz2 rfl (by omega) (.slice (some ⟨g, 0, none⟩) k c2) k sl (by rfl) ((ownsRow_next HRow.out ((Below.refl _ _).drew.trans HB3.out)).alloc _)
                  ⟨w3.heap.size, 0, none⟩ 1 1 [.slice (some ⟨b3, 0, none⟩) n c3] (by rfl) (by rfl) (World.news_of_block (cs := #[.slice (some ⟨b3, 0, none⟩) n c3]) (t := 168) (fr := (0, 0)) (heap_alloc_new w3 _)) (by simp [Value.oneCell'])
                  (by omega) (by unfold maxLen; omega) (by omega) (by simp; omega) (w3.heap.size + 1) (by simp) ?_; intro g5 cap w5 hown1 hgrow hat hglt)))
      all_goals
        (have hX : Below wr.heap.size wr (w3.alloc (.cells #[.slice (some ⟨b3, 0, none⟩) n c3] 168)) := (((Below.refl _ wr).drew).trans HB3.out).alloc hs3 _
         have hin5 : RowsIn w5 (.slice (some ⟨g5, 0, none⟩) (k + 1) cap) (sl ++ [.slice (some ⟨b3, 0, none⟩) n c3]) (k + 1) n (fun i j => bitN (nthN xs i) j) :=
           (HIn.out.below hX).grow (H := w3.heap.size + 1) HSl.out hgrow (HBO.out.below (below_new1 w3 _) HBO.out.lt) (by simp [Value.ownBlock]; omega) (hat.imp (fun h => by simpa [Value.ownBlock] using h.symm) (fun h => by simp [Value.ownBlock, h])) (by simp)
         have hB5 : Below (w.heap.size + 1) wr w5 := (hX.mono (by omega)).grown hgrow (by simp; omega) (fun j hj => (HRow.out.lt j hj).1)
         have e0 := (hB5.cell (p := ⟨w.heap.size, 0, none⟩) (by simp)).trans HD.out.1
         have e1 := (hB5.cell (p := ⟨w.heap.size, 1, none⟩) (by simp)).trans HD.out.2
         have HR5 := Lib.hid hown1
         have HI5 := Lib.hid hin5
         have HBB := Lib.hid (HB.out.trans (hB5.mono (by omega)))
         have HE := Lib.hid (And.intro e0 e1)
         clear hX hin5 hB5 e0 e1 hown1 hgrow hat)
      all_goals go_wp2
      all_goals go_roundw
      all_goals first
        | (simp [intOf]; omega)
        | exact ⟨k + 1, g5, cap, _, by omega, by go_num, rfl, HR5.out, HI5.out, HE.out.1, HE.out.2, HBB.out⟩
    · obtain rfl : k = xs.length := by omega
      have HT := Lib.hid (TabAt.of_rows hrow hin)
      have HB := Lib.hid hB
      clear hrow hin hB
      go_wp2
      go_ret
      exact ⟨g, c2, rfl, HT.out, HB.out⟩
end Go.Proofs.Ytdmgffoikebgkaa
/- TopBoundCloth: bound rows weave bound picks by a straight tie, and none above Worst by any. -/
namespace Go.Proofs.Ytdmgffoikebgkaa
open Go.RowKit Go.Shelf
attribute [local go_sem] Oper.semAt_some

/-- the other way round -/
def cmpN (n x : Nat) : Nat := rowTo (fun i => !bitN x i) n
theorem cmpN_bit (n x i : Nat) (h : i < n) : bitN (cmpN n x) i = !bitN x i := by unfold cmpN; rw [bit_rowTo, decide_eq_true h, Bool.true_and]
theorem cmp_bound {n x m : Nat} (h : BoundUp x n m) : BoundUp (cmpN n x) n m := fun k hk => by
  obtain ⟨j, hj, hne⟩ := h k hk
  refine ⟨j, hj, ?_⟩
  rw [cmpN_bit n x _ (Nat.mod_lt _ (by omega)), cmpN_bit n x _ hk]
  intro e
  exact hne (Bool.not_inj e)
/-- the hooks of a window -/
theorem winN_bit (hs : List Nat) (f j : Nat) : ∀ l, bitN (winN hs f l) j = true → ∃ t, t < l ∧ aroundN hs ((f : Int) + (t : Int)) = j
  | 0, h => by simp [winN, bitN] at h
  | l + 1, h => by
    unfold bitN at h
    rw [winN, Nat.testBit_or, Bool.or_eq_true] at h
    rcases h with h | h
    · obtain ⟨t, ht, e⟩ := winN_bit hs f j l h
      exact ⟨t, by omega, e⟩
    · rw [Nat.testBit_two_pow] at h
      exact ⟨l, by omega, by simpa using h⟩
end Go.Proofs.Ytdmgffoikebgkaa
/- TieThreads: its regions that draw their order. -/
namespace Go.Proofs.Ytdmgffoikebgkaa
open Go.RowKit Go.Shelf
attribute [local go_sem] Oper.semAt_some

/-- the strings of a cloth -/
structure ClS (ss : List ByteArray) (n : Nat) (ps : List Nat) : Prop where
  len : ss.length = ps.length
  str : ∀ i, i < ps.length → StrB (nthB ss i) n (nthN ps i)
theorem ClS.at {ss : List ByteArray} {n : Nat} {ps : List Nat} {W : World} {b : Nat} (h : ClS ss n ps) (hx : StrsAt W b 0 ss) (hb : b < W.heap.size) : ClAt W b 0 n ps :=
  ⟨fun i hi => ⟨_, h.str i hi, hx i (by rw [h.len]; exact hi)⟩, hb⟩
end Go.Proofs.Ytdmgffoikebgkaa
/- TieThreads: its mathematics. -/
namespace Go.Proofs.Ytdmgffoikebgkaa
open Go.RowKit Go.Shelf
attribute [local go_sem] Oper.semAt_some

theorem cloth_ClS (hs xs : List Nat) (h0 : 1 ≤ hs.length) (h1 : hs.length ≤ 96) : ClS (clothS hs xs) hs.length (pks hs xs) := by
  refine ⟨by rw [clothS_len, pks_len], fun i hi => ?_⟩
  rw [pks_len] at hi
  rw [clothS_nth _ _ _ hi, pks_nth _ _ hi]
  exact pick_strB hs _ h0 h1
end Go.Proofs.Ytdmgffoikebgkaa
/- Chapter 3: any harness: its error, a copy of it, harnesses compared. -/
namespace Go.Proofs.Ytdmgffoikebgkaa
open Go.RowKit Go.Shelf
attribute [local go_sem] Oper.semAt_some

def frB (lo hi : Int) (xs : List Int) : Bool := xs.all fun x => decide (lo ≤ x) && decide (x ≤ hi)
theorem frB_step (lo hi : Int) (xs : List Int) (k : Nat) (h : k < xs.length) (hr : frB lo hi (xs.take k) = true) (h0 : lo ≤ nthI xs k) (h1 : nthI xs k ≤ hi) : frB lo hi (xs.take (k + 1)) = true := by
  unfold frB at *
  rw [takeI_succ xs k h, List.all_append, hr]
  simp [h0, h1]
theorem frB_false (lo hi : Int) (xs : List Int) (k : Nat) (h : k < xs.length) (hb : nthI xs k < lo ∨ hi < nthI xs k) : frB lo hi xs = false := by
  unfold frB
  rw [List.all_eq_false]
  refine ⟨nthI xs k, nthI_mem xs k h, ?_⟩
  simp
  omega
set_option maxHeartbeats 1000000 in
theorem areFrom_any (lo hi : Int) (b off c : Nat) (xs : List Int) (w : World) (hl : xs.length ≤ 1000) (hx : IntsAt w b off xs) :
    Calls Try.prog 111 #[.int .i64 lo, .int .i64 hi, .slice (some ⟨b, off, none⟩) xs.length c] w fun e w' => e = .returned (.bool (frB lo hi xs)) ∧ w = w' := by
  go_enter Try.func111, Try.ntmps111
  go_wp2
  go_loop [8, 11] (fun _ i => ∃ k : Nat, k ≤ xs.length ∧ i = .int .i64 k ∧ frB lo hi (xs.take k) = true) (fun _ i => xs.length - (intOf i).toNat)
  case atStart => exact ⟨0, Nat.zero_le _, rfl, by simp [frB]⟩
  case round =>
    obtain ⟨k, hk, rfl, hr⟩ := hrel
    have Hr := Lib.hid hr; clear hr
    by_cases hlt : k < xs.length
    · have hc := hx k hlt
      by_cases h1 : nthI xs k < lo
      · have d1 : decide (nthI xs k < lo) = true := decide_eq_true h1
        have Hf := Lib.hid (frB_false lo hi xs k hlt (.inl h1))
        clear h1
        go_wp2
        go_ret
        exact ⟨ret_bool Hf.out.symm, rfl⟩
      · have d1 : decide (nthI xs k < lo) = false := decide_eq_false h1
        by_cases h2 : hi < nthI xs k
        · have d2 : decide (hi < nthI xs k) = true := decide_eq_true h2
          have Hf := Lib.hid (frB_false lo hi xs k hlt (.inr h2))
          clear h1 h2
          go_wp2
          go_ret
          exact ⟨ret_bool Hf.out.symm, rfl⟩
        · have d2 : decide (hi < nthI xs k) = false := decide_eq_false h2
          have Hs := Lib.hid (frB_step lo hi xs k hlt Hr.out (by omega) (by omega))
          clear h1 h2
          go_wp2
          all_goals go_round
          case rel => exact ⟨k + 1, by omega, by go_num, Hs.out⟩
          case measure => simp [intOf]; omega
    · go_wp2
      go_ret
      exact ⟨ret_bool (by rw [← Hr.out, take_end xs k hk hlt]), rfl⟩
/-- the error of a harness -/
def chkT (h : Int) (xs : List Int) : Int :=
  if h < 1 ∨ 24 < h then 2 else if 96 < xs.length then 5 else if xs.length = 0 then 7 else if frB 0 (h - 1) xs then 0 else 2
theorem frB_one (x : Int) : frB 1 24 [x] = (decide (1 ≤ x) && decide (x ≤ 24)) := by simp [frB]
set_option maxHeartbeats 1000000 in
theorem tieCheck_any (h : Int) (v : Value) (xs : List Int) (w : World) (hv : Reads w v xs) :
    Calls Try.prog 29 #[.agg #[.int .i64 h, v]] w fun e w' => e = .returned (.int .i64 (chkT h xs)) ∧ Below w.heap.size w w' := by
  obtain ⟨p, c, rfl, hl, hx⟩ := hv
  have hbb : Below w.heap.size w ((w.alloc (.cells #[.int .i64 h, .slice p xs.length c] 26)).alloc (.cells #[.int .i64 h] 3)) := ((Below.refl _ _).alloc (Nat.le_refl _) _).alloc (by simp) _
  have h1x : BoxAt ((w.alloc (.cells #[.int .i64 h, .slice p xs.length c] 26)).alloc (.cells #[.int .i64 h] 3)) (w.heap.size + 1) #[.int .i64 h] 3 := by
    have := BoxAt.new (w.alloc (.cells #[.int .i64 h, .slice p xs.length c] 26)) #[.int .i64 h] 3
    rwa [World.size_alloc] at this
  have HA := areFrom_any 1 24 (w.heap.size + 1) 0 1 [h] _ (by simp) (fun i hi => by
    obtain rfl : i = 0 := by simpa using hi
    exact h1x.cell' 0 rfl)
  rw [frB_one] at HA
  have Hbb := Lib.hid hbb
  have HA' := Lib.hid HA
  clear h1x HA hbb
  by_cases h1 : h < 1 ∨ 24 < h
  · have He := Lib.hid (show chkT h xs = 2 by simp [chkT, h1])
    have hdd : (decide (1 ≤ h) && decide (h ≤ 24)) = false := by
      rcases h1 with h1 | h1
      · rw [decide_eq_false (by omega)]; rfl
      · rw [show decide (h ≤ 24) = false from decide_eq_false (by omega), Bool.and_false]
    rw [hdd] at HA'
    clear h1 hdd hx
    go_enter Try.func29, Try.ntmps29
    go_wp2_with fail
    refine HA'.out.mono ?_
    rintro e w' ⟨rfl, rfl⟩
    go_wp2_with fail
    go_ret
    exact ⟨ret_int He.out.symm, Hbb.out⟩
  · have hdd : (decide (1 ≤ h) && decide (h ≤ 24)) = true := by
      rw [decide_eq_true (by omega), decide_eq_true (by omega)]; rfl
    rw [hdd] at HA'
    by_cases h2 : 96 < xs.length
    · have He := Lib.hid (show chkT h xs = 5 by rw [chkT, if_neg h1, if_pos h2])
      have hd2 : decide ((96 : Int) < (xs.length : Int)) = true := decide_eq_true (by omega)
      have hd3 : decide (96 < xs.length) = true := decide_eq_true h2
      clear h1 hdd hx
      go_enter Try.func29, Try.ntmps29
      go_wp2_with fail
      refine HA'.out.mono ?_
      rintro e w' ⟨rfl, rfl⟩
      go_wp2_with fail
      go_ret
      exact ⟨ret_int He.out.symm, Hbb.out⟩
    · by_cases h3 : xs.length = 0
      · have He := Lib.hid (show chkT h xs = 7 by rw [chkT, if_neg h1, if_neg h2, if_pos h3])
        obtain rfl : xs = [] := List.eq_nil_of_length_eq_zero h3
        clear h1 h2 h3 hdd hx hl
        go_enter Try.func29, Try.ntmps29
        go_wp2_with fail
        refine HA'.out.mono ?_
        rintro e w' ⟨rfl, rfl⟩
        go_wp2_with fail
        go_ret
        exact ⟨ret_int He.out.symm, Hbb.out⟩
      · obtain ⟨b, off, rfl, hb, hx⟩ := hx (by omega)
        have He := Lib.hid (show chkT h xs = if frB 0 (h - 1) xs then 0 else 2 by rw [chkT, if_neg h1, if_neg h2, if_neg h3])
        have H2 := Lib.hid (areFrom_any 0 (h - 1) b off c xs _ (by omega) (hx.below Hbb.out hb))
        have hl2 : xs.length ≤ 96 := by omega
        have hl3 : 0 < xs.length := by omega
        have hw1 : IntKind.i64.wrap (h - 1) = h - 1 := IntWalk.i64_in _ (by omega)
        obtain ⟨L, hL⟩ : ∃ L, xs.length = L := ⟨_, rfl⟩
        rw [hL] at H2 hl2 hl3 HA' Hbb ⊢
        have hd3 : ((L : Int) == 0) = false := by simp; omega
        clear h2 h3 hdd hx hl hL
        have h1' : 1 ≤ h ∧ h ≤ 24 := by omega
        clear h1
        cases hr : frB 0 (h - 1) xs
        all_goals
          rw [hr] at H2 He
          clear hr
          go_enter Try.func29, Try.ntmps29
          go_wp2_with fail
          refine HA'.out.mono ?_
          rintro e w' ⟨rfl, rfl⟩
          go_wp2_with fail
          refine H2.out.mono ?_
          rintro e w' ⟨rfl, rfl⟩
          go_wp2_with fail
          go_ret
          exact ⟨ret_int (by rw [He.out]; rfl), Hbb.out⟩
end Go.Proofs.Ytdmgffoikebgkaa
/- Chapter 3: any harness: the reference's error, a copy of it, harnesses compared, one that is too large. -/
namespace Go.Proofs.Ytdmgffoikebgkaa
open Go.RowKit Go.Shelf
attribute [local go_sem] Oper.semAt_some

theorem Reads.next {w w' : World} {v : Value} {xs : List Int} (h : Reads w v xs) (hb : Below w.heap.size w w') : Reads w' v xs := by
  obtain ⟨p, c, rfl, hl, hx⟩ := h
  refine ⟨p, c, rfl, hl, fun h0 => ?_⟩
  obtain ⟨b, off, rfl, h1, h2⟩ := hx h0
  exact ⟨b, off, rfl, Nat.lt_of_lt_of_le h1 hb.size, h2.below hb h1⟩
theorem refIn3_any (n lo hi : Int) (w : World) : Calls Try.prog 44 #[.int .i64 n, .int .i64 lo, .int .i64 hi] w fun e w' => e = .returned (.bool (decide (lo ≤ n) && decide (n ≤ hi))) ∧ w' = w := by
  by_cases h1 : lo ≤ n
  · have d1 : decide (lo ≤ n) = true := decide_eq_true h1
    by_cases h2 : n ≤ hi
    · have d2 : decide (n ≤ hi) = true := decide_eq_true h2
      have Hd := Lib.hid (And.intro d1 d2)
      clear h1 h2
      go_enter Try.func44, Try.ntmps44
      go_wp2_with fail
      go_ret
      exact ⟨ret_bool (by rw [Hd.out.1, Hd.out.2]; rfl), rfl⟩
    · have d2 : decide (n ≤ hi) = false := decide_eq_false h2
      have Hd := Lib.hid (And.intro d1 d2)
      clear h1 h2
      go_enter Try.func44, Try.ntmps44
      go_wp2_with fail
      go_ret
      exact ⟨ret_bool (by rw [Hd.out.1, Hd.out.2]; rfl), rfl⟩
  · have d1 : decide (lo ≤ n) = false := decide_eq_false h1
    have Hd := Lib.hid d1
    clear h1
    go_enter Try.func44, Try.ntmps44
    go_wp2_with fail
    go_ret
    exact ⟨ret_bool (by rw [Hd.out]; rfl), rfl⟩
set_option maxHeartbeats 1000000 in
theorem refCheck3_any (h : Int) (v : Value) (xs : List Int) (w : World) (hv : Reads w v xs) :
    Calls Try.prog 33 #[.agg #[.int .i64 h, v]] w fun e w' => e = .returned (.int .i64 (chkT h xs)) ∧ Below w.heap.size w w' := by
  obtain ⟨p, c, rfl, hl, hx⟩ := hv
  have hbb : Below w.heap.size w (w.alloc (.cells #[.int .i64 h, .slice p xs.length c] 26)) := (Below.refl _ _).alloc (Nat.le_refl _) _
  have hbx : BoxAt (w.alloc (.cells #[.int .i64 h, .slice p xs.length c] 26)) w.heap.size #[.int .i64 h, .slice p xs.length c] 26 := BoxAt.new _ _ _
  have HA := Lib.hid (refIn3_any h 1 24 (w.alloc (.cells #[.int .i64 h, .slice p xs.length c] 26)))
  have Hbb := Lib.hid hbb
  have HB := Lib.hid hbx
  clear hbb hbx
  by_cases h1 : h < 1 ∨ 24 < h
  · have He := Lib.hid (show chkT h xs = 2 by simp [chkT, h1])
    have hdd : (decide (1 ≤ h) && decide (h ≤ 24)) = false := by
      rcases h1 with h1 | h1
      · rw [decide_eq_false (by omega)]; rfl
      · rw [show decide (h ≤ 24) = false from decide_eq_false (by omega), Bool.and_false]
    rw [hdd] at HA
    clear h1 hdd hx
    go_enter Try.func33, Try.ntmps33
    go_wp2_with fail
    refine HA.out.mono ?_
    rintro e w' ⟨rfl, rfl⟩
    go_wp2_with fail
    go_ret
    exact ⟨ret_int He.out.symm, Hbb.out⟩
  · have hdd : (decide (1 ≤ h) && decide (h ≤ 24)) = true := by
      rw [decide_eq_true (by omega), decide_eq_true (by omega)]; rfl
    rw [hdd] at HA
    by_cases h2 : 96 < xs.length
    · have He := Lib.hid (show chkT h xs = 5 by rw [chkT, if_neg h1, if_pos h2])
      have hd2 : decide ((96 : Int) < (xs.length : Int)) = true := decide_eq_true (by omega)
      have hd3 : decide (96 < xs.length) = true := decide_eq_true h2
      clear h1 hdd hx
      go_enter Try.func33, Try.ntmps33
      go_wp2_with fail
      refine HA.out.mono ?_
      rintro e w' ⟨rfl, rfl⟩
      go_wp2_with fail
      go_ret
      exact ⟨ret_int He.out.symm, Hbb.out⟩
    · by_cases h3 : xs.length = 0
      · have He := Lib.hid (show chkT h xs = 7 by rw [chkT, if_neg h1, if_neg h2, if_pos h3])
        obtain rfl : xs = [] := List.eq_nil_of_length_eq_zero h3
        clear h1 h2 h3 hdd hx hl
        go_enter Try.func33, Try.ntmps33
        go_wp2_with fail
        refine HA.out.mono ?_
        rintro e w' ⟨rfl, rfl⟩
        go_wp2_with fail
        go_ret
        exact ⟨ret_int He.out.symm, Hbb.out⟩
      · obtain ⟨b, off, rfl, hb, hx⟩ := hx (by omega)
        have He := Lib.hid (show chkT h xs = if frB 0 (h - 1) xs then 0 else 2 by rw [chkT, if_neg h1, if_neg h2, if_neg h3])
        have HX := Lib.hid (hx.below Hbb.out hb)
        have hl2 : xs.length ≤ 96 := by omega
        have hl3 : 0 < xs.length := by omega
        have hw1 : IntKind.i64.wrap (h - 1) = h - 1 := IntWalk.i64_in _ (by omega)
        obtain ⟨L, hL⟩ : ∃ L, xs.length = L := ⟨_, rfl⟩
        rw [hL] at hl2 hl3 HA Hbb HB HX ⊢
        have hd3 : ((L : Int) == 0) = false := by simp; omega
        have HL := Lib.hid hL
        clear h2 h3 hdd hx hl hL
        have h1' : 1 ≤ h ∧ h ≤ 24 := by omega
        clear h1
        obtain ⟨W0, hW0⟩ : ∃ W0, W0 = w.alloc (.cells #[.int .i64 h, .slice (some ⟨b, off, none⟩) L c] 26) := ⟨_, rfl⟩
        rw [← hW0] at HA HB HX Hbb
        have HW0 := Lib.hid hW0
        clear hW0
        go_enter Try.func33, Try.ntmps33
        go_upto_region 1 with fail
        rw [← HW0.out]
        have b0 := HB.out.cell' 0 rfl
        have b1 := HB.out.cell' 1 rfl
        go_wp2_with fail
        refine HA.out.mono ?_
        rintro e w' ⟨rfl, rfl⟩
        clear b0
        go_wp2_with fail
        go_loopw [3] (fun i wr => ∃ k : Nat, k ≤ L ∧ i = .int .i64 (k : Int) ∧ frB 0 (h - 1) (xs.take k) = true ∧ Below w.heap.size w wr ∧ BoxAt wr w.heap.size #[.int .i64 h, .slice (some ⟨b, off, none⟩) L c] 26 ∧ IntsAt wr b off xs) (fun i _ => L - (intOf i).toNat)
        case atStart => exact ⟨0, Nat.zero_le _, rfl, by simp [frB], Hbb.out, HB.out, HX.out⟩
        case round =>
          obtain ⟨k, hk, rfl, hr, hbw, hbx, hix⟩ := hrel
          have b0 := hbx.cell' 0 rfl
          have b1 := hbx.cell' 1 rfl
          have Hr := Lib.hid hr
          have Hm := Lib.hid (And.intro hbw (And.intro hbx hix))
          clear hr hbw hbx hix HX HB Hbb HA
          by_cases hlt : k < L
          · have hcx := Hm.out.2.2 k (by rw [HL.out]; exact hlt)
            by_cases hin : 0 ≤ nthI xs k ∧ nthI xs k ≤ h - 1
            · have Hs := Lib.hid (frB_step 0 (h - 1) xs k (by rw [HL.out]; exact hlt) Hr.out hin.1 hin.2)
              obtain ⟨x, hx⟩ : ∃ x, nthI xs k = x := ⟨_, rfl⟩
              rw [hx] at hcx hin
              have hI := fun W => refIn3_any x 0 (h - 1) W
              rw [decide_eq_true hin.1, decide_eq_true hin.2] at hI
              have HI := Lib.hid hI
              clear hx hin hI
              go_upto_region 10 with fail
              go_quiet (exact Calls.quiet_of_same (HI.out _))
              all_goals go_wp2_with fail
              all_goals exact ⟨⟨k + 1, by omega, by go_num, Hs.out, Hm.out.1.trans ((below_drewN _ _ _).mono Hm.out.1.size), Hm.out.2.1.next (below_drewN _ _ _), Hm.out.2.2⟩, by simp [intOf]; omega⟩
            · have Hf := Lib.hid (frB_false 0 (h - 1) xs k (by rw [HL.out]; exact hlt) (by omega))
              obtain ⟨x, hx⟩ : ∃ x, nthI xs k = x := ⟨_, rfl⟩
              rw [hx] at hcx hin
              have hI := fun W => refIn3_any x 0 (h - 1) W
              have hd : (decide (0 ≤ x) && decide (x ≤ h - 1)) = false := by
                by_cases c : 0 ≤ x
                · rw [show decide (x ≤ h - 1) = false from decide_eq_false (by omega), Bool.and_false]
                · rw [show decide (0 ≤ x) = false from decide_eq_false c]; rfl
              rw [hd] at hI
              have HI := Lib.hid hI
              clear hx hin hI hd
              go_upto_region 10 with fail
              go_quiet (exact Calls.quiet_of_same (HI.out _))
              all_goals go_wp2_with fail
              all_goals go_ret
              all_goals exact ⟨ret_int (by rw [He.out, Hf.out]; rfl), Hm.out.1.trans ((below_drewN _ _ _).mono Hm.out.1.size)⟩
          · have hke : k = L := by omega
            have Hf := Lib.hid (show frB 0 (h - 1) xs = true from by rw [← Hr.out, hke, ← HL.out, List.take_length])
            have hkd : decide ((k : Int) < (L : Int)) = false := decide_eq_false (by omega)
            clear hke
            go_wp2_with fail
            go_ret
            exact ⟨ret_int (by rw [He.out, Hf.out]; rfl), Hm.out.1⟩
end Go.Proofs.Ytdmgffoikebgkaa
/- Chapter 3: a copy of any harness; harnesses compared. -/
namespace Go.Proofs.Ytdmgffoikebgkaa
open Go.RowKit Go.Shelf
attribute [local go_sem] Oper.semAt_some

theorem ints_news {W : World} {b off : Nat} {xs : List Int} (h : IntsAt W b off xs) : ∀ j u, (xs.map intV)[j]? = some u → W.cell? ((⟨b, off, none⟩ : Addr).add j) = some u := by
  intro j u hj
  simp only [List.getElem?_map, Option.map_eq_some_iff] at hj
  obtain ⟨x, hx, rfl⟩ := hj
  have hjl : j < xs.length := (List.getElem?_eq_some_iff.1 hx).1
  have := h j hjl
  rw [nthI, hx] at this
  rw [show (⟨b, off, none⟩ : Addr).add j = ⟨b, off + j, none⟩ by unfold Addr.add; split <;> simp_all]
  exact this
set_option maxHeartbeats 2000000 in
theorem tieOwnI_ok (h : Int) (b off c : Nat) (xs : List Int) (w : World) (h0 : 0 < xs.length) (hl : xs.length ≤ 1000) (hx : IntsAt w b off xs) (hgl : b < w.heap.size) :
    Calls Try.prog 28 #[.agg #[.int .i64 h, .slice (some ⟨b, off, none⟩) xs.length c]] w fun e w' =>
      ∃ g' cap, e = .returned (.agg #[.int .i64 h, .slice (some ⟨g', 0, none⟩) xs.length cap]) ∧ w'.ownsRow (w.heap.size + 2) 3 1 (.slice (some ⟨g', 0, none⟩) xs.length cap) xs.length (xs.map intV) ∧ Below w.heap.size w w' := by
  have hbb : Below w.heap.size w ((w.alloc (.cells #[.int .i64 h, .slice (some ⟨b, off, none⟩) xs.length c] 26)).alloc (.cells #[.int .i64 0, .slice none 0 0] 26)) := ((Below.refl _ _).alloc (Nat.le_refl _) _).alloc (by simp) _
  have ho1 : BoxAt ((w.alloc (.cells #[.int .i64 h, .slice (some ⟨b, off, none⟩) xs.length c] 26)).alloc (.cells #[.int .i64 0, .slice none 0 0] 26)) w.heap.size #[.int .i64 h, .slice (some ⟨b, off, none⟩) xs.length c] 26 := (BoxAt.new _ _ _).next ((Below.refl _ _).alloc (Nat.le_refl _) _)
  have ho2 : BoxAt ((w.alloc (.cells #[.int .i64 h, .slice (some ⟨b, off, none⟩) xs.length c] 26)).alloc (.cells #[.int .i64 0, .slice none 0 0] 26)) (w.heap.size + 1) #[.int .i64 0, .slice none 0 0] 26 := by
    have := BoxAt.new (w.alloc (.cells #[.int .i64 h, .slice (some ⟨b, off, none⟩) xs.length c] 26)) #[.int .i64 0, .slice none 0 0] 26
    rwa [World.size_alloc] at this
  obtain ⟨W0, hW0⟩ : ∃ W0, W0 = (w.alloc (.cells #[.int .i64 h, .slice (some ⟨b, off, none⟩) xs.length c] 26)).alloc (.cells #[.int .i64 0, .slice none 0 0] 26) := ⟨_, rfl⟩
  have HW0 := Lib.hid hW0
  have hs0 : W0.heap.size = w.heap.size + 2 := by rw [hW0]; simp
  rw [← hW0] at ho1 ho2 hbb
  have Hs0 := Lib.hid hs0
  have HX := Lib.hid ((hx.below hbb hgl).below ((Below.refl _ _).alloc (Nat.le_refl _) (.cells #[] 3)) (show b < W0.heap.size by omega))
  have HO1 := Lib.hid ho1
  have HO2 := Lib.hid ho2
  have Hbb := Lib.hid hbb
  have k0 := ho1.cell' (v := .int .i64 h) 0 rfl
  have k1 := ho1.cell' (v := .slice (some ⟨b, off, none⟩) xs.length c) 1 rfl
  have z1 : w.heap.size < W0.heap.size := by omega
  have z2 : w.heap.size + 1 < W0.heap.size := by omega
  clear ho1 ho2 hbb hx hW0 hs0
  go_enter Try.func28, Try.ntmps28
  go_wp2
  rw [← HW0.out]
  go_region_law
    ((refine step_copy elemInt (by rfl) _ _ (by rfl) (by rfl) ⟨b, off, none⟩ xs.length c (xs.map intV) (by rfl) (by simp) (by simp [intV, Value.oneCell']) h0 (by omega) (by decide) (ints_news HX.out) ?_; intro g5 cap w5 hr hb5)
     have hb2 := HO2.out.next hb5
     have c0 : w5.cell? ⟨w.heap.size + 1, 0, none⟩ = some (.int .i64 0) := hb2.cell' 0 rfl
     have c1 : w5.cell? ⟨w.heap.size + 1, 1, none⟩ = some (.slice none 0 0) := hb2.cell' 1 rfl
     have f0 := hb2.frozen 0
     have f1 := hb2.frozen 1
     have hb1 := HO1.out.next hb5
     have k0 := hb1.cell' (v := .int .i64 h) 0 rfl
     have k1 := hb1.cell' (v := .slice (some ⟨b, off, none⟩) xs.length c) 1 rfl
     have Hb2 := Lib.hid hb2
     have Hr := Lib.hid hr
     have Hb5 := Lib.hid hb5
     clear hb2 hb1 hr hb5)
  all_goals go_wp2
  all_goals refine bodyPost_ret (v := .agg #[.int .i64 h, .slice (some ⟨g5, 0, none⟩) xs.length cap]) ?_ rfl ⟨g5, cap, rfl, ?_, ?_⟩
  all_goals first
    | (have hb3 := (Hb2.out.set 0 (.int .i64 h)).set 1 (.slice (some ⟨g5, 0, none⟩) xs.length cap)
       have d0 := hb3.cell' (v := .int .i64 h) 0 rfl
       have d1 := hb3.cell' (v := .slice (some ⟨g5, 0, none⟩) xs.length cap) 1 rfl
       simp [results, Try.results28, go_sem, d0, d1]; done)
    | (have hn := own_far Hr.out z2
       exact own_base (own_set (own_set Hr.out _ _ hn) _ _ hn) (by rw [Hs0.out]; omega))
    | exact ((Hbb.out.trans (Hb5.out.mono (by rw [Hs0.out]; omega))).setCell (by simp) _).setCell (by simp) _
end Go.Proofs.Ytdmgffoikebgkaa
/- Chapter 3: a copy of any harness, also of one without warps; harnesses compared; one that is too large. -/
namespace Go.Proofs.Ytdmgffoikebgkaa
open Go.RowKit Go.Shelf
attribute [local go_sem] Oper.semAt_some

set_option maxHeartbeats 2000000 in
theorem tieOwnN_ok (h : Int) (p : Option Addr) (c : Nat) (w : World) :
    Calls Try.prog 28 #[.agg #[.int .i64 h, .slice p 0 c]] w fun e w' => ∃ g, e = .returned (.agg #[.int .i64 h, .slice (some ⟨g, 0, none⟩) 0 0]) ∧ (w.heap.size ≤ g ∧ g < w'.heap.size) ∧ Below w.heap.size w w' := by
  have hbb : Below w.heap.size w ((w.alloc (.cells #[.int .i64 h, .slice p 0 c] 26)).alloc (.cells #[.int .i64 0, .slice none 0 0] 26)) := ((Below.refl _ _).alloc (Nat.le_refl _) _).alloc (by simp) _
  have ho1 : BoxAt ((w.alloc (.cells #[.int .i64 h, .slice p 0 c] 26)).alloc (.cells #[.int .i64 0, .slice none 0 0] 26)) w.heap.size #[.int .i64 h, .slice p 0 c] 26 := (BoxAt.new _ _ _).next ((Below.refl _ _).alloc (Nat.le_refl _) _)
  have ho2 : BoxAt ((w.alloc (.cells #[.int .i64 h, .slice p 0 c] 26)).alloc (.cells #[.int .i64 0, .slice none 0 0] 26)) (w.heap.size + 1) #[.int .i64 0, .slice none 0 0] 26 := by
    have := BoxAt.new (w.alloc (.cells #[.int .i64 h, .slice p 0 c] 26)) #[.int .i64 0, .slice none 0 0] 26
    rwa [World.size_alloc] at this
  obtain ⟨W0, hW0⟩ : ∃ W0, W0 = (w.alloc (.cells #[.int .i64 h, .slice p 0 c] 26)).alloc (.cells #[.int .i64 0, .slice none 0 0] 26) := ⟨_, rfl⟩
  have hs0 : W0.heap.size = w.heap.size + 2 := by rw [hW0]; simp
  have HW0 := Lib.hid hW0
  rw [← hW0] at ho1 ho2 hbb
  have Hs0 := Lib.hid hs0
  have hb5 : Below W0.heap.size W0 (W0.alloc (.cells #[] 3)) := (Below.refl _ _).alloc (Nat.le_refl _) _
  have hb2 := ho2.next hb5
  have hb1 := ho1.next hb5
  have c0 := ho2.cell' (v := .int .i64 0) 0 rfl
  have c1 := ho2.cell' (v := .slice none 0 0) 1 rfl
  have f0 := ho2.frozen 0
  have f1 := ho2.frozen 1
  have k0 := ho1.cell' (v := .int .i64 h) 0 rfl
  have k1 := ho1.cell' (v := .slice p 0 c) 1 rfl
  have c0' := hb2.cell' (v := .int .i64 0) 0 rfl
  have c1' := hb2.cell' (v := .slice none 0 0) 1 rfl
  have f0' := hb2.frozen 0
  have f1' := hb2.frozen 1
  have k0' := hb1.cell' (v := .int .i64 h) 0 rfl
  have k1' := hb1.cell' (v := .slice p 0 c) 1 rfl
  have Hbb := Lib.hid (hbb.trans (hb5.mono (by omega)))
  have Hb2 := Lib.hid hb2
  have z2 : ¬ W0.heap.size = w.heap.size + 1 := by omega
  clear ho1 ho2 hbb hW0 hb5 hb2 hb1 hs0
  cases p
  all_goals
    go_enter Try.func28, Try.ntmps28
    go_wp2_with fail
    rw [← HW0.out]
    go_region
    all_goals go_wp2_with fail
    all_goals refine bodyPost_ret (v := .agg #[.int .i64 h, .slice (some ⟨W0.heap.size, 0, none⟩) 0 0]) ?_ rfl ⟨_, rfl, ?_, ?_⟩
    all_goals first
      | (have hb3 := (Hb2.out.set 0 (.int .i64 h)).set 1 (.slice (some ⟨W0.heap.size, 0, none⟩) 0 0)
         have d0 := hb3.cell' (v := .int .i64 h) 0 rfl
         have d1 := hb3.cell' (v := .slice (some ⟨W0.heap.size, 0, none⟩) 0 0) 1 rfl
         simp [results, Try.results28, go_sem, d0, d1]; done)
      | exact ((Hbb.out.drew).setCell (by simp) _).setCell (by simp) _
      | (have := Hs0.out; simp; omega)
theorem ints_of_row {w : World} {B g n cap : Nat} {xs : List Int} (h : w.ownsRow B 3 1 (.slice (some ⟨g, 0, none⟩) n cap) n (xs.map intV)) (_h0 : 0 < n) : IntsAt w g 0 xs ∧ g < w.heap.size ∧ B ≤ g := by
  have h1 := h
  obtain ⟨hl, ⟨h2, _⟩ | ⟨g', cap', cur, e, hg, hh, r⟩⟩ := h
  · simp at h2
  · simp at e
    obtain ⟨rfl, rfl⟩ := e
    refine ⟨fun i hi => ?_, (Array.getElem?_eq_some_iff.1 hh).1, hg⟩
    rw [Nat.zero_add, h1.cellAt i (by simp at hl; omega), nthI_get _ _ hi]
    simp [hi, intV]
/-- a copy of a harness -/
def CpyT (h : Int) (xs : List Int) (w : World) (e : Ending) (w' : World) : Prop := ∃ g cap, e = .returned (.agg #[.int .i64 h, .slice (some ⟨g, 0, none⟩) xs.length cap]) ∧ Reads w' (.slice (some ⟨g, 0, none⟩) xs.length cap) xs ∧ w.heap.size ≤ g ∧ g < w'.heap.size ∧ Below w.heap.size w w'
theorem tieOwn_any (h : Int) (p : Option Addr) (c : Nat) (xs : List Int) (w : World) (hl : xs.length ≤ 1000) (hr : Reads w (.slice p xs.length c) xs) :
    Calls Try.prog 28 #[.agg #[.int .i64 h, .slice p xs.length c]] w (CpyT h xs w) := by
  by_cases h0 : xs.length = 0
  · obtain rfl : xs = [] := List.eq_nil_of_length_eq_zero h0
    refine (tieOwnN_ok h p c w).mono ?_
    rintro e w' ⟨g, rfl, hg, hb⟩
    exact ⟨g, 0, rfl, ⟨_, _, rfl, by simp, fun h => absurd h (by simp)⟩, hg.1, hg.2, hb⟩
  · obtain ⟨p', c', hv, hl2, hx⟩ := hr
    simp only [Value.slice.injEq, true_and] at hv
    obtain ⟨rfl, rfl⟩ := hv
    obtain ⟨b, off, rfl, hb, hx⟩ := hx (by omega)
    refine (tieOwnI_ok h b off c xs w (by omega) hl hx hb).mono ?_
    rintro e w' ⟨g, cap, rfl, h1, h2⟩
    obtain ⟨a1, a2, a3⟩ := ints_of_row h1 (by omega)
    exact ⟨g, cap, rfl, ⟨_, _, rfl, hl2, fun _ => ⟨g, 0, rfl, a2, a1⟩⟩, by omega, a2, h2⟩
end Go.Proofs.Ytdmgffoikebgkaa
/- Chapter 3: any two harnesses side by side. -/
namespace Go.Proofs.Ytdmgffoikebgkaa
open Go.RowKit Go.Shelf
attribute [local go_sem] Oper.semAt_some

theorem chkT_ok {h : Int} {xs : List Int} (hc : chkT h xs = 0) : 1 ≤ h ∧ h ≤ 24 ∧ 0 < xs.length ∧ xs.length ≤ 96 ∧ frB 0 (h - 1) xs = true := by
  unfold chkT at hc
  split at hc
  · cases hc
  · split at hc
    · cases hc
    · split at hc
      · cases hc
      · split at hc
        · refine ⟨by omega, by omega, by omega, by omega, by assumption⟩
        · cases hc
end Go.Proofs.Ytdmgffoikebgkaa
/- TieBound: its mathematics. -/
namespace Go.Proofs.Ytdmgffoikebgkaa
open Go.RowKit Go.Shelf

/-- the greatest of some numbers -/
def mxL (f : Nat → Nat) : Nat → Nat
  | 0 => 0
  | k + 1 => max (mxL f k) (f k)
theorem mxL_le {f : Nat → Nat} {v : Nat} : ∀ {k : Nat}, (∀ i, i < k → f i ≤ v) → mxL f k ≤ v
  | 0, _ => Nat.zero_le _
  | k + 1, h => Nat.max_le.2 ⟨mxL_le fun i hi => h i (by omega), h k (by omega)⟩
theorem le_mxL {f : Nat → Nat} {i : Nat} : ∀ {k : Nat}, i < k → f i ≤ mxL f k
  | 0, h => by omega
  | k + 1, h => by
    rw [mxL]
    by_cases e : i = k
    · subst e; exact Nat.le_max_right _ _
    · exact Nat.le_trans (le_mxL (show i < k by omega)) (Nat.le_max_left _ _)
/-- how far the points are alike, round the ring -/
def lenR (T x w : Nat) : Nat := ((List.range (T + 1)).find? fun k => bitN x ((w + k) % T) != bitN x w).getD 1000
theorem lenR_cases (T x w : Nat) : (lenR T x w = 1000 ∧ ∀ j, j ≤ T → bitN x ((w + j) % T) = bitN x w) ∨ (lenR T x w ≤ T ∧ (∀ j, j < lenR T x w → bitN x ((w + j) % T) = bitN x w) ∧ bitN x ((w + lenR T x w) % T) ≠ bitN x w) := by
  unfold lenR
  cases h : (List.range (T + 1)).find? fun k => bitN x ((w + k) % T) != bitN x w with
  | none =>
    refine .inl ⟨rfl, fun j hj => ?_⟩
    rw [List.find?_eq_none] at h
    have := h j (by simpa using Nat.lt_succ_of_le hj)
    simpa using this
  | some k =>
    refine .inr ?_
    have h1 := List.mem_of_find?_eq_some h
    have h2 := List.find?_some h
    simp only [List.mem_range] at h1
    refine ⟨Nat.le_of_lt_succ h1, fun j hj => ?_, by simpa using h2⟩
    rw [List.find?_range_eq_some] at h
    have := h.2.2 j hj
    simpa using this
def longL (ps : List Nat) (T L : Nat) : Nat := mxL (fun i => mxL (lenR T (nthN ps i)) T) L
theorem around_nat (hs : List Nat) (w j : Nat) : aroundN hs ((w : Int) + (j : Int)) = nthN hs ((w + j) % hs.length) := by
  unfold aroundN
  have e : ((w : Int) + (j : Int) + (hs.length : Int)).toNat = w + j + hs.length := by omega
  rw [e, Nat.add_mod_right]
theorem lif_le {hs : List Nat} {n m i l : Nat} : ∀ d, Lifts n m (winN hs i (l + d)) → Lifts n m (winN hs i l)
  | 0, h => h
  | d + 1, h => lif_le d (lif_less h)
theorem len_lifts {hs : List Nat} {n m x w k : Nat} (hx : x < 2 ^ n) (hbd : BoundUp x n m) (h0 : 0 < hs.length) (hw : w < hs.length) (h : ∀ j, j < k → bitN (pickP hs x) ((w + j) % hs.length) = bitN (pickP hs x) w) : Lifts n m (winN hs w k) := by
  have hb : ∀ t, t < k → bitN x (aroundN hs ((w : Int) + (t : Int))) = bitN (pickP hs x) w := fun t ht => by
    rw [around_nat, ← pickP_bit hs x _ (Nat.mod_lt _ h0)]
    exact h t ht
  cases hv : bitN (pickP hs x) w with
  | true =>
    refine ⟨_, hx, hbd, fun j hj hq => ?_⟩
    obtain ⟨t, ht, e⟩ := winN_bit _ _ _ _ hq
    rw [← e, hb t ht, hv]
  | false =>
    refine ⟨cmpN n x, rowTo_lt _ n, cmp_bound hbd, fun j hj hq => ?_⟩
    obtain ⟨t, ht, e⟩ := winN_bit _ _ _ _ hq
    rw [cmpN_bit n _ _ hj, ← e, hb t ht, hv]; rfl
def worV (T lo : Nat) : Nat := if lo = T then 1000 else lo
theorem len_le {hs : List Nat} {n m lo row x w : Nat} (hR : WoR hs n m hs.length lo row) (hx : x < 2 ^ n) (hbd : BoundUp x n m) (h1 : hs.length ≤ 1000) (hw : w < hs.length) : lenR hs.length (pickP hs x) w ≤ worV hs.length lo := by
  have hle := hR.le
  unfold worV
  rcases lenR_cases hs.length (pickP hs x) w with ⟨e, h⟩ | ⟨e, h, _⟩
  · by_cases hl : lo = hs.length
    · rw [if_pos hl, e]; exact Nat.le_refl _
    · obtain ⟨d, hd⟩ : ∃ d, hs.length = lo + 1 + d := ⟨hs.length - (lo + 1), by omega⟩
      have := len_lifts (k := hs.length) hx hbd (by omega) hw (fun j hj => h j (by omega))
      have h2 : Lifts n m (winN hs w (lo + 1 + d)) := by rw [← hd]; exact this
      exact (hR.no w hw (by omega) (lif_le d h2)).elim
  · by_cases hl : lo = hs.length
    · rw [if_pos hl]; omega
    · rw [if_neg hl]
      refine Classical.byContradiction fun hc => ?_
      obtain ⟨d, hd⟩ : ∃ d, lenR hs.length (pickP hs x) w = lo + 1 + d := ⟨lenR hs.length (pickP hs x) w - (lo + 1), by omega⟩
      have h2 := len_lifts (k := lenR hs.length (pickP hs x) w) hx hbd (by omega) hw h
      rw [hd] at h2
      exact hR.no w hw (by omega) (lif_le d h2)
theorem long_le {hs xs : List Nat} {n m lo row L : Nat} (hR : WoR hs n m hs.length lo row) (h1 : hs.length ≤ 1000) (hl : xs.length = L) (h : ∀ i, i < L → nthN xs i < 2 ^ n ∧ BoundUp (nthN xs i) n m) : longL (pks hs xs) hs.length L ≤ worV hs.length lo :=
  mxL_le fun i hi => mxL_le fun w hw => by
    rw [pks_nth _ _ (by omega)]
    exact len_le hR (h i hi).1 (h i hi).2 h1 hw
theorem winN_has (hs : List Nat) (f t : Nat) : ∀ l, t < l → bitN (winN hs f l) (aroundN hs ((f : Int) + (t : Int))) = true
  | 0, h => by omega
  | l + 1, h => by
    unfold bitN
    rw [winN, Nat.testBit_or, Bool.or_eq_true]
    by_cases e : t = l
    · subst e; right; rw [Nat.testBit_two_pow]; simp
    · left; exact winN_has hs f t l (by omega)
theorem wor_row {hs : List Nat} {n m lo row : Nat} (hR : WoR hs n m hs.length lo row) (h1 : n ≤ 24) (hk : ∀ i, i < hs.length → nthN hs i < n) (hlo : lo ≠ 0) :
    row < 2 ^ n ∧ BoundUp row n m ∧ ∃ i, i < hs.length ∧ ∀ t, t < lo → bitN row (nthN hs ((i + t) % hs.length)) = true := by
  obtain ⟨i, hi, hlt, hrow⟩ := hR.got hlo
  unfold lifN at hlt hrow
  obtain ⟨x, hx, ⟨hc, hb⟩, he⟩ := bindN_is_row h1 hlt
  have h4 : 2 ^ n ≤ 2 ^ 24 := Nat.pow_le_pow_right (by decide) h1
  have hxr : row = x := by
    rw [hrow, he]
    unfold change
    omega
  rw [hxr]
  refine ⟨hx, hb, i, hi, fun t ht => ?_⟩
  have hq := winN_has hs i t lo ht
  rw [around_nat] at hq
  have hj : nthN hs ((i + t) % hs.length) < n := hk _ (Nat.mod_lt _ (by omega))
  refine Classical.byContradiction fun hne => ?_
  have := (con_zero n).1 hc _ hj (by rw [hq]; exact fun e => hne e.symm)
  rw [hq] at this
  cases this
theorem long_row {hs : List Nat} {n m lo row : Nat} (hR : WoR hs n m hs.length lo row) (h1 : n ≤ 24) (hT : hs.length ≤ 1000) (hk : ∀ i, i < hs.length → nthN hs i < n) (hlo : lo ≠ 0) : longL (pks hs [row]) hs.length 1 = worV hs.length lo := by
  obtain ⟨hx, hb, i, hi, hl⟩ := wor_row hR h1 hk hlo
  refine Nat.le_antisymm (long_le hR hT rfl fun j hj => ?_) ?_
  · obtain rfl : j = 0 := by omega
    exact ⟨hx, hb⟩
  · have e : nthN (pks hs [row]) 0 = pickP hs row := pks_nth _ _ (by simp)
    have hm : lenR hs.length (pickP hs row) i ≤ longL (pks hs [row]) hs.length 1 := by
      refine Nat.le_trans ?_ (le_mxL (f := fun i => mxL (lenR hs.length (nthN (pks hs [row]) i)) hs.length) (show 0 < 1 by decide))
      rw [e]
      exact le_mxL hi
    refine Nat.le_trans ?_ hm
    have hle := hR.le
    have hp : ∀ t, t < lo → bitN (pickP hs row) ((i + t) % hs.length) = true := fun t ht => by
      rw [pickP_bit _ _ _ (Nat.mod_lt _ (by omega))]; exact hl t ht
    have h0 := hp 0 (by omega)
    rw [Nat.add_zero, Nat.mod_eq_of_lt hi] at h0
    unfold worV
    rcases lenR_cases hs.length (pickP hs row) i with ⟨e, _⟩ | ⟨e, h, hne⟩
    · rw [e]; split <;> omega
    · have hge : lo ≤ lenR hs.length (pickP hs row) i := Classical.byContradiction fun hc => hne (by rw [hp _ (by omega), h0])
      by_cases c : lo = hs.length
      · have : lenR hs.length (pickP hs row) i = hs.length := by omega
        rw [this, Nat.add_mod_right, Nat.mod_eq_of_lt hi] at hne
        exact (hne rfl).elim
      · rw [if_neg c]; exact hge
theorem wor_zero {hs : List Nat} {n m lo row : Nat} (hR : WoR hs n m hs.length lo row) (h0 : 0 < hs.length) (hk : ∀ i, i < hs.length → nthN hs i < n) (hlo : lo = 0) (x : Nat) (hx : x < 2 ^ n) : ¬ BoundUp x n m := fun hb => by
  subst hlo
  refine hR.no 0 h0 h0 ?_
  refine len_lifts (x := x) hx hb h0 h0 fun j hj => ?_
  obtain rfl : j = 0 := by omega
  rw [Nat.zero_add, Nat.zero_mod]
theorem bind_some {n m p : Nat} (h0 : 1 ≤ n) (h1 : n ≤ 24) {x : Nat} (hx : x < 2 ^ n) (hb : BoundUp x n m) : bindN n p 0 m < never := by
  have := bindN_le_row (p := p) (f := 0) (x := x) h0 h1 hx ⟨con_free _ _ _, hb⟩
  have h3 := ham_le p x n
  have h4 : 2 ^ n ≤ 2 ^ 24 := Nat.pow_le_pow_right (by decide) h1
  unfold never change at *
  omega
end Go.Proofs.Ytdmgffoikebgkaa
/- Regions that draw their order and whose operations are guarded by tests with known values. -/
namespace Go.Proofs.Ytdmgffoikebgkaa
open Go.RowKit Go.Shelf

/-- each guard is a test among gl that an operation waits for, with the value that lets it run -/
def guardC (ops : Array Oper) (D : Nat → Option Nat) (gl : List (Nat × Bool)) : Bool := (List.range ops.size).all fun i => match ops[i]? with
  | some o => (match o.guard with
    | none => true
    | some q => depB o q.1 && gl.contains q && (D q.1).isSome && ((ops[q.1]?).bind (·.dst) == D q.1))
  | none => true
theorem RSp.of_fitC {ops : Array Oper} {n : Nat} {D : List (Option Nat)} {X : Nat → (Nat → Hd) → Value} {uses : List (List Nat)} {kind : List Nat} {mem : Nat → Mem} {sto : Nat → Option Sto} {gl : List (Nat × Bool)}
    (hn : n = ops.size) (hb : backB ops = true) (hd : dstsB ops (dOf D) = true) (hu : useB ops (uOf uses) (kOf kind) = true) (hg : guardC ops (dOf D) gl = true) (hnd : (D.filterMap id).Nodup)
    (hst : ∀ p ∈ storesOf kind, dOf D p.1 = none ∧ p.2 ∈ uOf uses p.1 ∧ (∀ h, (mem p.2).bl h = [h.b]) ∧ ∀ j, j ≠ p.1 → p.2 ∈ uOf uses j → sto j = none)
    (hX : ∀ p ∈ gl, ∀ hs, X p.1 hs = .bool p.2) :
    (RSp.of n D (fun _ => true) X uses kind mem sto).Fit ops (D.filterMap id) where
  n := hn
  back := hb
  dst := hd
  use := hu
  mem := fun _ _ _ h => dOf_mem h
  inj := fun _ _ _ h1 h2 => dOf_inj hnd h1 h2
  nd := hnd
  st := fun i t h => by
    obtain ⟨h1, h2, h3, h4⟩ := hst (i, t) (kOf_store h)
    refine ⟨h1, h2, h3, fun j hj hm hs W => ?_⟩
    show match sto j with | none => True | some s => BoxAt W (hs s.t).b (s.c hs) s.T
    rw [h4 j hj hm]
    trivial
  gd := fun i o ho => by
    have h := all_ops hg i o ho
    cases hgd : o.guard with
    | none => exact .inl ⟨rfl, rfl⟩
    | some q =>
      obtain ⟨j, b⟩ := q
      rw [hgd] at h
      simp only [Bool.and_eq_true, beq_iff_eq] at h
      obtain ⟨⟨⟨h2, h3⟩, h4⟩, h5⟩ := h
      obtain ⟨d, hd2⟩ := Option.isSome_iff_exists.1 h4
      refine .inr ⟨j, b, d, rfl, h2, hd2, h5.trans hd2, fun hs => ?_, fun h => by cases h⟩
      exact hX (j, b) (by simpa using h3) hs
end Go.Proofs.Ytdmgffoikebgkaa
/- TieGroups: its regions that draw their order. -/
namespace Go.Proofs.Ytdmgffoikebgkaa
open Go.RowKit Go.Shelf
attribute [local go_sem] Oper.semAt_some

/-- a box of the region's own that is known whole -/
def memBx (vs : Array Value) (T : Nat) : Mem := ⟨fun h W => BoxAt W h.b vs T, fun h => [h.b], fun _ _ _ h hb => h.next hb, fun _ _ _ _ h hn hB => hB.box h (fun e => hn (by simp [e]))⟩
end Go.Proofs.Ytdmgffoikebgkaa
/- Chapter 3: Repeat and Mirrors of any harness; harnesses compared; none; too large. -/
namespace Go.Proofs.Ytdmgffoikebgkaa
open Go.RowKit Go.Shelf
attribute [local go_sem] Oper.semAt_some

/-- the hooks of a valid harness -/
def hkN (xs : List Int) : List Nat := xs.map Int.toNat
theorem hkN_len (xs : List Int) : (hkN xs).length = xs.length := by simp [hkN]
theorem hkN_nth {h : Int} {xs : List Int} (hc : chkT h xs = 0) {i : Nat} (hi : i < xs.length) : nthI xs i = (nthN (hkN xs) i : Int) ∧ (nthN (hkN xs) i : Int) < h := by
  obtain ⟨_, _, _, _, hf⟩ := chkT_ok hc
  unfold frB at hf
  rw [List.all_eq_true] at hf
  have := hf _ (nthI_mem xs i hi)
  simp at this
  have e : nthN (hkN xs) i = (nthI xs i).toNat := by simp [nthN, hkN, nthI, hi]
  rw [e]
  omega
theorem hkN_tat {h : Int} {xs : List Int} {b off : Nat} {W : World} (hc : chkT h xs = 0) (hx : IntsAt W b off xs) (hb : b < W.heap.size) : TAt W b off h.toNat (hkN xs) := by
  obtain ⟨h1, h2, h3, h4, _⟩ := chkT_ok hc
  refine ⟨fun i hi => ?_, hb, by omega, by omega, by rw [hkN_len]; omega, by rw [hkN_len]; exact h4, fun i hi => ?_⟩
  · rw [hkN_len] at hi
    rw [hx i hi, (hkN_nth hc hi).1]
  · rw [hkN_len] at hi
    have := (hkN_nth hc hi).2
    omega
set_option maxHeartbeats 1000000 in
theorem refSame3_eq (h : Int) (p p' : Option Addr) (c c' : Nat) (xs : List Int) (w : World) (hl : xs.length ≤ 1000) (h1 : Reads w (.slice p xs.length c) xs) (h2 : Reads w (.slice p' xs.length c') xs) :
    Calls Try.prog 26 #[.agg #[.int .i64 h, .slice p xs.length c], .agg #[.int .i64 h, .slice p' xs.length c']] w fun e w' => e = .returned (.bool true) ∧ Below w.heap.size w w' := by
  obtain ⟨w0, hw0⟩ : ∃ w0, w0 = (w.alloc (.cells #[.int .i64 h, .slice p xs.length c] 26)).alloc (.cells #[.int .i64 h, .slice p' xs.length c'] 26) := ⟨_, rfl⟩
  have hb0 : Below w.heap.size w w0 := by rw [hw0]; exact ((Below.refl _ _).alloc (Nat.le_refl _) _).alloc (by simp) _
  have hx : BoxAt w0 w.heap.size #[.int .i64 h, .slice p xs.length c] 26 := by rw [hw0]; exact (BoxAt.new w _ _).next ((Below.refl _ _).alloc (Nat.le_refl _) _)
  have hy : BoxAt w0 (w.heap.size + 1) #[.int .i64 h, .slice p' xs.length c'] 26 := by
    rw [hw0]; have := BoxAt.new (w.alloc (.cells #[.int .i64 h, .slice p xs.length c] 26)) #[.int .i64 h, .slice p' xs.length c'] 26; rw [World.size_alloc] at this; exact this
  have HM := Lib.hid (show Below w.heap.size w w0 ∧ BoxAt w0 w.heap.size #[.int .i64 h, .slice p xs.length c] 26 ∧ BoxAt w0 (w.heap.size + 1) #[.int .i64 h, .slice p' xs.length c'] 26 ∧ Reads w0 (.slice p xs.length c) xs ∧ Reads w0 (.slice p' xs.length c') xs from ⟨hb0, hx, hy, h1.next hb0, h2.next hb0⟩)
  have HW0 := Lib.hid hw0
  have hx0 := hx.cell' 0 rfl
  have hx1 := hx.cell' 1 rfl
  have hy0 := hy.cell' 0 rfl
  have hy1 := hy.cell' 1 rfl
  clear h1 h2 hw0 hb0 hx hy
  go_enter Try.func26, Try.ntmps26
  go_upto_region 1 with fail
  rw [← HW0.out]
  go_wp2_with fail
  clear hx0 hx1 hy0 hy1
  go_loopw [5] (fun i wr => ∃ k : Nat, k ≤ xs.length ∧ i = .int .i64 (k : Int) ∧ Below w.heap.size w wr ∧ BoxAt wr w.heap.size #[.int .i64 h, .slice p xs.length c] 26 ∧ BoxAt wr (w.heap.size + 1) #[.int .i64 h, .slice p' xs.length c'] 26 ∧ Reads wr (.slice p xs.length c) xs ∧ Reads wr (.slice p' xs.length c') xs) (fun i _ => xs.length - (intOf i).toNat)
  case atStart => exact ⟨0, Nat.zero_le _, rfl, HM.out⟩
  case round =>
    obtain ⟨k, hk, rfl, hS⟩ := hrel
    have hx1 := hS.2.1.cell' 1 rfl
    have hy1 := hS.2.2.1.cell' 1 rfl
    by_cases hlt : k < xs.length
    · obtain ⟨q1, d1, e1, _, r1⟩ := hS.2.2.2.1
      simp only [Value.slice.injEq, true_and] at e1
      obtain ⟨rfl, rfl⟩ := e1
      obtain ⟨b1, o1, rfl, _, r1⟩ := r1 (by omega)
      obtain ⟨q2, d2, e2, _, r2⟩ := hS.2.2.2.2
      simp only [Value.slice.injEq, true_and] at e2
      obtain ⟨rfl, rfl⟩ := e2
      obtain ⟨b2, o2, rfl, _, r2⟩ := r2 (by omega)
      have u1 := r1 k hlt
      have u2 := r2 k hlt
      obtain ⟨z, hz⟩ : ∃ z, nthI xs k = z := ⟨_, rfl⟩
      rw [hz] at u1 u2
      have Hr := Lib.hid hS
      clear hS hz r1 r2 HM
      go_upto_region 6 with fail
      go_quiet (fail)
      all_goals go_wp2_with fail
      all_goals exact ⟨⟨k + 1, by omega, by go_num, Hr.out.1.trans ((below_drewN _ _ _).mono Hr.out.1.size), Hr.out.2.1.next (below_drewN _ _ _), Hr.out.2.2.1.next (below_drewN _ _ _), Hr.out.2.2.2.1.next (below_drewN _ _ _), Hr.out.2.2.2.2.next (below_drewN _ _ _)⟩, by simp [intOf]; omega⟩
    · have hkd : decide ((k : Int) < (xs.length : Int)) = false := decide_eq_false (by omega)
      have Hb := Lib.hid hS.1
      clear hS HM
      go_wp2_with fail
      go_ret
      exact ⟨rfl, Hb.out⟩
set_option maxHeartbeats 1000000 in
theorem tieLarge_any (h : Int) (p : Option Addr) (c L : Nat) (w : World) :
    Calls Try.prog 27 #[.agg #[.int .i64 h, .slice p L c], .agg #[.int .i64 0, .slice none 0 0], .slice none 0 0] w fun e w' => e = .returned (.bool (decide (110 < L))) ∧ Below w.heap.size w w' := by
  have hb0 : Below w.heap.size w ((w.alloc (.cells #[.int .i64 h, .slice p L c] 26)).alloc (.cells #[.int .i64 0, .slice none 0 0] 37)) := ((Below.refl _ _).alloc (Nat.le_refl _) _).alloc (by simp) _
  have Hb0 := Lib.hid hb0
  clear hb0
  by_cases hl : 110 < L
  · have hd : decide ((110 : Int) < (L : Int)) = true := decide_eq_true (by omega)
    have hd2 : decide (110 < L) = true := decide_eq_true hl
    have Hd := Lib.hid hd2
    go_enter Try.func27, Try.ntmps27
    go_wp2_with fail
    go_loopw [7] (fun i wr => i = .int .i64 0 ∧ wr = (w.alloc (.cells #[.int .i64 h, .slice p L c] 26)).alloc (.cells #[.int .i64 0, .slice none 0 0] 37)) (fun _ _ => 1)
    case atStart => exact ⟨rfl, rfl⟩
    case round =>
      obtain ⟨rfl, rfl⟩ := hrel
      go_wp2_with fail
      go_ret
      exact ⟨ret_bool (by rw [Hd.out]), Hb0.out⟩
  · have hd : decide ((110 : Int) < (L : Int)) = false := decide_eq_false (by omega)
    have hd2 : decide (110 < L) = false := decide_eq_false hl
    have Hd := Lib.hid hd2
    go_enter Try.func27, Try.ntmps27
    go_wp2_with fail
    go_loopw [7] (fun i wr => i = .int .i64 0 ∧ wr = (w.alloc (.cells #[.int .i64 h, .slice p L c] 26)).alloc (.cells #[.int .i64 0, .slice none 0 0] 37)) (fun _ _ => 1)
    case atStart => exact ⟨rfl, rfl⟩
    case round =>
      obtain ⟨rfl, rfl⟩ := hrel
      go_wp2_with fail
      go_ret
      exact ⟨ret_bool (by rw [Hd.out]), Hb0.out⟩
end Go.Proofs.Ytdmgffoikebgkaa
/- TieBesides: its regions; what is due. -/
namespace Go.Proofs.Ytdmgffoikebgkaa
open Go.RowKit Go.Shelf
attribute [local go_sem] Oper.semAt_some

theorem Reads.far {W W' : World} {g B L c : Nat} {xs : List Int} (h : Reads W (.slice (some ⟨g, 0, none⟩) L c) xs) (hB : SetAt B W W') (hne : g ≠ B) : Reads W' (.slice (some ⟨g, 0, none⟩) L c) xs := by
  obtain ⟨p, c', hv, hl, hx⟩ := h
  refine ⟨p, c', hv, hl, fun h0 => ?_⟩
  obtain ⟨b, off, rfl, h1, h2⟩ := hx h0
  simp only [Value.slice.injEq, Option.some.injEq, Addr.mk.injEq] at hv
  obtain ⟨⟨rfl, rfl, _⟩, _⟩ := hv
  exact ⟨_, _, rfl, by rw [hB.size]; exact h1, fun i hi => (World.cell?_of_block (w := W) (hB.other _ hne)).trans (h2 i hi)⟩
end Go.Proofs.Ytdmgffoikebgkaa
/- TieBesides: for any two harnesses with at most 110 warps the error of the first, the two side by side, after how many warps the first repeats, and where it is its own mirror, or their errors, are what the reference says, and the harnesses are not changed; for larger ones the law's fixed examples come out. No condition: whatever the harnesses. -/
namespace Go.Proofs.Ytdmgffoikebgkaa
open Go.ChangeShapes Go.WideShapes Go.ChangeAt Go.RowKit Go.Joins

theorem cells3' : Try.prog.cellsOf 3 = 1 := by kernel_rfl
theorem cells26' : Try.prog.cellsOf 26 = 2 := by kernel_rfl
/-- what a slice of integers that came in holds -/
theorem reads_of_trod {H : Type} {enc : TypeId × Value → H} {W : World} {n : Nat} {v : Value} {y : DataW H × List MemPlace} (h : DataW.trod enc Try.prog W 0 (fun _ => true) true n 24 [v] = some y) :
    ∃ p l c, v = .slice p l c ∧ (l ≤ 110 → ∃ xs : List Int, xs.length = l ∧ Reads W (.slice p l c) xs) := by
  rcases open_ints Try.underlying24 Try.underlying3 cells3' h with ⟨hv, _⟩ | ⟨a, len, cap, zs, hv, _, hlc, _, hz, _, hc, _⟩
  · obtain rfl : v = .slice none 0 0 := by simpa using hv
    exact ⟨none, 0, 0, rfl, fun _ => ⟨[], rfl, none, 0, rfl, by simp, fun h => by simp at h⟩⟩
  · obtain rfl : v = .slice (some a) len cap := by simpa using hv
    have hz' : zs.length = cap := by simpa using hz
    refine ⟨some a, len, cap, rfl, fun hl => ⟨zs.take len, by simp; omega, some a, cap, by simp; omega, by simp; omega, fun h0 => ?_⟩⟩
    have hl0 : 0 < len := by simp at h0; omega
    have hc0 := hc 0 (by omega)
    have he0 : a.add 0 = a := by simp [Addr.add]
    rw [he0] at hc0
    have hsp := spot_none hc0
    obtain ⟨b, off, sp⟩ := a
    simp only at hsp
    subst hsp
    refine ⟨b, off, rfl, World.block_lt_of_cell? W ⟨b, off, none⟩ hc0, fun i hi => ?_⟩
    have hil : i < len := by simp at hi; omega
    have := hc i (by omega)
    rw [addr_add] at this
    rw [this, nthI_get _ _ hi]
    simp [List.getElem?_eq_getElem (show i < zs.length by omega)]
end Go.Proofs.Ytdmgffoikebgkaa
/- Chapter 3: the reference's cloth. -/
namespace Go.Proofs.Ytdmgffoikebgkaa
open Go.RowKit Go.Shelf
attribute [local go_sem] Oper.semAt_some

/-- what the reference's Cloth keeps between two rows -/
structure RcS (w : World) (n b off c : Nat) (hs xs : List Nat) (g : Nat) (v : Value) (k : Nat) (W : World) : Prop where
  box : BoxAt W w.heap.size #[.int .i64 (n : Int), .slice (some ⟨b, off, none⟩) hs.length c] 26
  tg : some g ≠ v.ownBlock
  tl : g < W.heap.size
  tab : ∀ i, i < xs.length → ∃ r c', W.cell? ⟨g, i, none⟩ = some (.slice (some ⟨r, 0, none⟩) n c') ∧ some r ≠ v.ownBlock ∧ BoolsAt W r n (fun j => bitN (nthN xs i) j)
  ns : NatsAt W b off hs
  row : W.ownsRow (w.heap.size + 2) 9 1 v k (clothV hs xs k)
  b : Below w.heap.size w W
  sz : w.heap.size + 2 ≤ W.heap.size
theorem RcS.next {w W W' : World} {n b off c : Nat} {hs xs : List Nat} {g : Nat} {v : Value} {k : Nat} (h : RcS w n b off c hs xs g v k W) (hbl : b < w.heap.size) (hb : Below W.heap.size W W') : RcS w n b off c hs xs g v k W' := by
  have h1 := h.b.size
  refine ⟨h.box.next hb, h.tg, Nat.lt_of_lt_of_le h.tl hb.size, fun i hi => ?_, h.ns.below hb (by omega), ownsRow_next h.row hb, h.b.trans (hb.mono h1), Nat.le_trans h.sz hb.size⟩
  obtain ⟨r, c', e1, e2, e3⟩ := h.tab i hi
  exact ⟨r, c', (hb.cell (p := ⟨g, i, none⟩) h.tl).trans e1, e2, e3.below hb e3.lt⟩
theorem RcS.grew {w W W' : World} {n b off c : Nat} {hs xs : List Nat} {g : Nat} {v : Value} {k g5 cap : Nat} (h : RcS w n b off c hs xs g v k W) (hbl : b < w.heap.size)
    (hg : Grew (w.heap.size + 2) 9 1 W W' v g5 cap (k + 1) (clothV hs xs (k + 1))) : RcS w n b off c hs xs g (.slice (some ⟨g5, 0, none⟩) (k + 1) cap) (k + 1) W' := by
  have h1 := h.b.size
  have hbx := h.box.lt
  have hne : ∀ x, x < W.heap.size → some x ≠ v.ownBlock → some x ≠ (Value.slice (some ⟨g5, 0, none⟩) (k + 1) cap).ownBlock := fun x hx hxv => by
    rcases hg.at' with e | e
    · rw [show (Value.slice (some ⟨g5, 0, none⟩) (k + 1) cap).ownBlock = some g5 from rfl, ← e]; exact hxv
    · rw [show (Value.slice (some ⟨g5, 0, none⟩) (k + 1) cap).ownBlock = some g5 from rfl]; simp; omega
  refine ⟨h.box.kept hg.grow (own_far h.row (by omega)), hne g h.tl h.tg, Nat.lt_of_lt_of_le h.tl hg.grow.size, fun i hi => ?_, fun i hi => ?_, hg.row, h.b.grown hg.grow h1 (fun j hj => by have := (ownBlock_ge h.row hj).1; omega), Nat.le_trans h.sz hg.grow.size⟩
  · obtain ⟨r, c', e1, e2, e3⟩ := h.tab i hi
    exact ⟨r, c', (hg.grow.cell_far ⟨g, i, none⟩ h.tl h.tg).trans e1, hne r e3.lt e2, e3.kept hg.grow e2⟩
  · exact (hg.grow.cell_far ⟨b, off + i, none⟩ (show b < W.heap.size by omega) (show some b ≠ v.ownBlock from own_far h.row (by omega))).trans (h.ns i hi)
/-- the beginning of a pick, as long as j warps -/
def pickPre (hs : List Nat) (row j : Nat) : ByteArray := strOfNums ((clothL hs row).take j)
theorem pickPre_zero (hs : List Nat) (row : Nat) : pickPre hs row 0 = ⟨#[]⟩ := by simp [pickPre, strOfNums]
theorem pickPre_all (hs : List Nat) (row : Nat) : pickPre hs row hs.length = pickS hs row := by
  unfold pickPre pickS; rw [List.take_of_length_le (by simp [clothL])]
theorem pickPre_succ (hs : List Nat) (row j : Nat) (h : j < hs.length) : pickPre hs row (j + 1) = pickPre hs row j ++ ⟨#[UInt8.ofNat (clothB hs row j).toNat]⟩ := by
  have e : (clothL hs row).take (j + 1) = (clothL hs row).take j ++ [clothB hs row j] := by
    rw [List.take_add_one]; simp [clothL, h]
  unfold pickPre
  rw [e]
  apply ByteArray.ext
  simp [strOfNums]
theorem pickPre_size (hs : List Nat) (row : Nat) : ∀ j, j ≤ hs.length → (pickPre hs row j).size = j
  | 0, _ => by rw [pickPre_zero]; rfl
  | j + 1, h => by rw [pickPre_succ _ _ _ (by omega), ByteArray.size_append, pickPre_size hs row j (by omega)]; rfl
set_option maxRecDepth 100000 in
set_option maxHeartbeats 2000000 in
theorem refCloth3_ok (n b off c b2 off2 c2 : Nat) (hs xs : List Nat) (w : World) (hv : TAt w b off n hs) (hx : VAt w b2 off2 c2 n xs) :
    Calls Try.prog 42 #[.agg #[.int .i64 (n : Int), .slice (some ⟨b, off, none⟩) hs.length c], .agg #[.int .i64 (n : Int), .slice (some ⟨b2, off2, none⟩) xs.length c2]] w fun e w' =>
      ∃ v, e = .returned v ∧ w'.ownsRow w.heap.size 9 1 v xs.length (clothV hs xs xs.length) ∧ Below w.heap.size w w' := by
  obtain ⟨w0, hw0⟩ : ∃ w0, w0 = (w.alloc (.cells #[.int .i64 (n : Int), .slice (some ⟨b, off, none⟩) hs.length c] 26)).alloc (.cells #[.int .i64 (n : Int), .slice (some ⟨b2, off2, none⟩) xs.length c2] 37) := ⟨_, rfl⟩
  have hb0 : Below w.heap.size w w0 := by rw [hw0]; exact ((Below.refl _ _).alloc (Nat.le_refl _) _).alloc (by simp) _
  have hs0 : w0.heap.size = w.heap.size + 2 := by rw [hw0]; simp
  have hA : BoxAt w0 w.heap.size #[.int .i64 (n : Int), .slice (some ⟨b, off, none⟩) hs.length c] 26 := by rw [hw0]; exact (BoxAt.new w _ _).next ((Below.refl _ _).alloc (Nat.le_refl _) _)
  have hP : BoxAt w0 (w.heap.size + 1) #[.int .i64 (n : Int), .slice (some ⟨b2, off2, none⟩) xs.length c2] 37 := by
    have := BoxAt.new (w.alloc (.cells #[.int .i64 (n : Int), .slice (some ⟨b, off, none⟩) hs.length c] 26)) #[.int .i64 (n : Int), .slice (some ⟨b2, off2, none⟩) xs.length c2] 37
    rw [World.size_alloc] at this
    rw [hw0]; exact this
  obtain ⟨w1, hw1⟩ : ∃ w1, w1 = w0.alloc (.cells #[] 9) := ⟨_, rfl⟩
  have hb1 : Below w0.heap.size w0 w1 := by rw [hw1]; exact (Below.refl _ _).alloc (Nat.le_refl _) _
  have hr1 : w1.ownsRow (w.heap.size + 2) 9 1 (.slice (some ⟨w.heap.size + 2, 0, none⟩) 0 0) 0 (clothV hs xs 0) := by
    rw [hw1, ← hs0]
    exact ⟨by simp [clothV], .inr ⟨_, 0, #[], rfl, Nat.le_refl _, World.alloc_heap_new w0 _, Nat.le_refl _, by decide, by simp, by simp [clothV]⟩⟩
  have hno : w1.cell? ⟨w.heap.size + 2, 0, none⟩ = none := by
    have h := World.alloc_heap_new w0 (.cells #[] 9)
    rw [← hw1, hs0] at h
    exact (cell_of_row w1 (w.heap.size + 2) 0 #[] 9 _ h).trans (by simp)
  have hs1 : w1.heap.size = w.heap.size + 3 := by rw [hw1]; simp; omega
  have hbw : b < w.heap.size := hv.lt
  have hbx : b2 < w.heap.size := hx.lt
  have hn := hv.n1
  have hT1 := hv.l1
  have hxl := hx.ok.l1
  have hxl0 := hx.ok.l0
  have hH := Table_any n b2 off2 c2 xs w1 (by omega) (by omega) ((hx.at'.below hb0 hbx).below hb1 (by omega)) (by omega) hx.ok.lt'
  have HN := Lib.hid (((hv.at'.below hb0 hbw).below hb1 (by omega)))
  have HX := Lib.hid hv
  have HA := Lib.hid (hA.next hb1)
  have HR1 := Lib.hid hr1
  have HS0 := Lib.hid hs0
  have HS1 := Lib.hid hs1
  have HW0 := Lib.hid hw0
  have HW1 := Lib.hid hw1
  have Hno := Lib.hid hno
  have Hn := Lib.hid hv.n0
  have Hb1 := Lib.hid (hb0.trans (hb1.mono (by omega)))
  have p0 := hP.cell' 0 rfl
  have p1 := hP.cell' 1 rfl
  clear hb0 hA hP hb1 hr1 hw1 hw0 hv hx hno
  go_enter Try.func42, Try.ntmps42
  go_upto_region 1 with fail
  rw [← HW0.out]
  go_wp2_with fail
  rw [← HW1.out]
  refine hH.mono ?_
  rintro e w2 ⟨g, cg, rfl, hT, hb2⟩
  have hn2 : w2.cell? ⟨w.heap.size + 2, 0, none⟩ = none := (hb2.cell (p := ⟨w.heap.size + 2, 0, none⟩) (by have := HS1.out; simp; omega)).trans Hno.out
  have hRc : RcS w n b off c hs xs g (.slice (some ⟨w.heap.size + 2, 0, none⟩) 0 0) 0 w2 := by
    refine ⟨HA.out.next hb2, ?_, hT.lt, fun i hi => ?_, HN.out.below hb2 (by have := HS1.out; omega), ownsRow_next HR1.out hb2, Hb1.out.trans (hb2.mono (by have := HS1.out; omega)), by have := HS1.out; have := hb2.size; omega⟩
    · intro e
      have e2 : g = w.heap.size + 2 := by simpa [Value.ownBlock] using e
      by_cases h0 : 0 < xs.length
      · obtain ⟨r, c', h1, _⟩ := hT.r 0 h0
        rw [e2, hn2] at h1; cases h1
      · exact absurd hxl0 h0
    · obtain ⟨r, c', h1, h2⟩ := hT.r i hi
      refine ⟨r, c', h1, fun e => ?_, h2⟩
      have e2 : r = w.heap.size + 2 := by simpa [Value.ownBlock] using e
      have h3 := h2.c 0 Hn.out
      rw [e2, hn2] at h3; cases h3
  have HRc := Lib.hid hRc
  clear hRc hn2 hT hb2 hH p0 p1 HA HN HR1 Hb1 HW0 HW1 Hno HS0 HS1
  go_wp2_with fail
  go_loopw [5, 7] (fun v i wr => ∃ k : Nat, k ≤ xs.length ∧ i = .int .i64 (k : Int) ∧ RcS w n b off c hs xs g v k wr) (fun _ i _ => xs.length - (intOf i).toNat)
  case atStart => exact ⟨0, Nat.zero_le _, rfl, HRc.out⟩
  case round =>
    obtain ⟨k, hk, rfl, hS⟩ := hrel
    have HS := Lib.hid hS
    clear hS HRc
    by_cases hlk : k < xs.length
    · obtain ⟨row, hrow⟩ : ∃ row, nthN xs k = row := ⟨_, rfl⟩
      have Hrow := Lib.hid hrow
      clear hrow
      go_wp2_with fail
      go_loopw [8, 9] (fun s i wz => ∃ j : Nat, j ≤ hs.length ∧ i = .int .i64 (j : Int) ∧ s = .string (pickPre hs row j) ∧ RcS w n b off c hs xs g u5 k wz) (fun _ i _ => hs.length - (intOf i).toNat)
      case atStart => exact ⟨0, Nat.zero_le _, rfl, by rw [pickPre_zero], HS.out⟩
      case round =>
        obtain ⟨j, hj, rfl, rfl, hSz⟩ := hrel
        have HZ := Lib.hid hSz
        clear hSz HS
        have a1 := HZ.out.box.cell' (v := .slice (some ⟨b, off, none⟩) hs.length c) 1 rfl
        by_cases hjl : j < hs.length
        · have hk1 := HZ.out.ns j hjl
          have hk2 := HX.out.hk j hjl
          obtain ⟨r, c', ht1, _, ht3⟩ := HZ.out.tab k hlk
          have hps := pickPre_succ hs row j hjl
          have hcb : clothB hs row j = if bitN row (nthN hs j) then 120 else 46 := rfl
          rw [Hrow.out] at ht3
          obtain ⟨h, hh⟩ : ∃ h, nthN hs j = h := ⟨_, rfl⟩
          rw [hh] at hk1 hk2 hcb
          have ht4 := ht3.c h hk2
          have hj0 : (0 : Int) ≤ (j : Int) := by omega
          have hj1 : (j : Int) < (hs.length : Int) := by omega
          have hk3 : (0 : Int) ≤ (k : Int) := by omega
          have hk4 : (k : Int) < (xs.length : Int) := by omega
          have hh0 : (0 : Int) ≤ (h : Int) := by omega
          have hh1 : (h : Int) < (n : Int) := by omega
          have hpz := pickPre_size hs row j (by omega)
          obtain ⟨pre, hpre⟩ : ∃ pre, pickPre hs row j = pre := ⟨_, rfl⟩
          rw [hpre] at hps hpz ⊢
          clear ht3 hh hpre
          cases hbt : bitN row h with
          | true =>
            rw [hbt] at ht4 hcb
            rw [hcb] at hps
            have Hps := Lib.hid hps
            clear hps hcb hbt
            go_wp2_with fail
            go_region
            all_goals go_wp2_with fail
            all_goals first
              | (exfalso; omega)
              | exact ⟨⟨j + 1, by omega, by go_num, by rw [Hps.out]; rfl, HZ.out.next hbw (Below.refl _ _).drew⟩, by simp [intOf]; omega⟩
          | false =>
            rw [hbt] at ht4 hcb
            rw [hcb] at hps
            have Hps := Lib.hid hps
            clear hps hcb hbt
            go_wp2_with fail
            go_region
            all_goals go_wp2_with fail
            all_goals first
              | (exfalso; omega)
              | exact ⟨⟨j + 1, by omega, by go_num, by rw [Hps.out]; rfl, HZ.out.next hbw (Below.refl _ _).drew⟩, by simp [intOf]; omega⟩
        · obtain rfl : j = hs.length := by omega
          rw [pickPre_all]
          have hsc := clothV_succ hs xs k
          rw [Hrow.out] at hsc
          have Hsc := Lib.hid hsc
          clear hsc
          go_wp2_with (at_builtin; refine Shut.out ?_)
          unfold Shut
          refine app_one elemStr rfl _ _ rfl (w.heap.size + 2) u5 k (clothV hs xs k) #[.string (pickS hs row)] rfl HZ.out.row rfl rfl (by simp [Value.oneCell']) (by omega) (by decide) HZ.out.sz ?_
          intro g5 cap w5 hg
          have HT5 := Lib.hid (HZ.out.grew hbw (by rw [Hsc.out]; exact hg))
          clear hg
          go_wp2_with fail
          go_roundw
          case rel => exact ⟨k + 1, by omega, by go_num, HT5.out⟩
          case measure => simp [intOf]; omega
    · obtain rfl : k = xs.length := by omega
      go_wp2_with fail
      go_ret
      exact ⟨_, rfl, own_base HS.out.row (by omega), HS.out.b⟩
end Go.Proofs.Ytdmgffoikebgkaa
