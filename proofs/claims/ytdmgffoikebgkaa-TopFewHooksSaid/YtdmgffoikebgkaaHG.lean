/- The statements' helpers: cards that are shuffled and turned. -/
import Derived.Test.YtdmgffoikebgkaaHB
import Derived.Test.YtdmgffoikebgkaaHC
import Derived.Test.YtdmgffoikebgkaaCE
import Derived.Deep.DeepCutAuto
import Derived.Sort.QuietIn
import Derived.Sort.CutIn
namespace Go.Proofs.Ytdmgffoikebgkaa
open Go.RowKit Go.Shelf
attribute [local go_sem] Oper.semAt_some

theorem nthC_set (cs : List Card) (i j : Nat) (c : Card) (h : i < cs.length) : nthC (cs.set i c) j = if j = i then c else nthC cs j := by
  unfold nthC
  by_cases e : j = i
  · subst e; simp [h]
  · rw [if_neg e, List.getElem?_set_ne (Ne.symm e)]
def swapC (cs : List Card) (a b : Nat) : List Card := (cs.set a (nthC cs b)).set b (nthC cs a)
theorem swapC_len (cs : List Card) (a b : Nat) : (swapC cs a b).length = cs.length := by simp [swapC]
def sw (a b i : Nat) : Nat := if i = b then a else if i = a then b else i
theorem swapC_nth (cs : List Card) (a b i : Nat) (ha : a < cs.length) (hb : b < cs.length) : nthC (swapC cs a b) i = nthC cs (sw a b i) := by
  unfold swapC sw
  rw [nthC_set _ _ _ _ (by simpa using hb), nthC_set _ _ _ _ ha]
  split
  · rfl
  · split <;> rfl
theorem sw_sw (a b i : Nat) : sw a b (sw a b i) = i := by
  unfold sw
  by_cases h1 : i = b
  · subst h1
    by_cases h2 : a = i
    · simp [h2]
    · simp [h2]
  · by_cases h2 : i = a
    · subst h2; simp [h1]
    · simp [h1, h2]
theorem sw_lt {a b i l : Nat} (ha : a < l) (hb : b < l) (hi : i < l) : sw a b i < l := by unfold sw; split <;> (try split) <;> assumption
/-- the cards of the rows, in some order, turned or not -/
structure Shuf (xs : List Nat) (cs : List Card) : Prop where
  len : cs.length = xs.length
  num : ∀ i, i < cs.length → (nthC cs i).num < cs.length
  row : ∀ i, i < cs.length → (nthC cs i).row = nthN xs (nthC cs i).num
  apart : Apart cs
  all : ∀ k, k < cs.length → ∃ i, i < cs.length ∧ (nthC cs i).num = k
theorem Shuf.punched (xs : List Nat) : Shuf xs (Proofs.Ytdmgffoikebgkaa.punched xs xs.length) := by
  have hl := punched_len xs xs.length
  refine ⟨hl, fun i hi => ?_, fun i hi => ?_, fun i j hi hj e => ?_, fun k hk => ⟨k, hk, ?_⟩⟩
  · rw [hl] at hi ⊢; rw [punched_nth _ _ _ hi]; exact hi
  · rw [hl] at hi; rw [punched_nth _ _ _ hi]
  · rw [hl] at hi hj; rwa [punched_nth _ _ _ hi, punched_nth _ _ _ hj] at e
  · rw [hl] at hk; rw [punched_nth _ _ _ hk]
theorem Shuf.swap {xs : List Nat} {cs : List Card} (h : Shuf xs cs) {a b : Nat} (ha : a < cs.length) (hb : b < cs.length) : Shuf xs (swapC cs a b) := by
  have hl := swapC_len cs a b
  refine ⟨hl.trans h.len, fun i hi => ?_, fun i hi => ?_, fun i j hi hj e => ?_, fun k hk => ?_⟩
  · rw [hl] at hi ⊢; rw [swapC_nth _ _ _ _ ha hb]; exact h.num _ (sw_lt ha hb hi)
  · rw [hl] at hi; rw [swapC_nth _ _ _ _ ha hb]; exact h.row _ (sw_lt ha hb hi)
  · rw [hl] at hi hj
    rw [swapC_nth _ _ _ _ ha hb, swapC_nth _ _ _ _ ha hb] at e
    have := h.apart _ _ (sw_lt ha hb hi) (sw_lt ha hb hj) e
    rw [← sw_sw a b i, this, sw_sw]
  · rw [hl] at hk
    obtain ⟨i, hi, e⟩ := h.all k hk
    exact ⟨sw a b i, by rw [hl]; exact sw_lt ha hb hi, by rw [swapC_nth _ _ _ _ ha hb, sw_sw]; exact e⟩
def turnC (cs : List Card) (i : Nat) (t : Bool) : List Card := cs.set i ⟨(nthC cs i).num, (nthC cs i).row, t⟩
theorem turnC_len (cs : List Card) (i : Nat) (t : Bool) : (turnC cs i t).length = cs.length := by simp [turnC]
theorem turnC_num (cs : List Card) (i j : Nat) (t : Bool) (hi : i < cs.length) : (nthC (turnC cs i t) j).num = (nthC cs j).num ∧ (nthC (turnC cs i t) j).row = (nthC cs j).row := by
  unfold turnC
  rw [nthC_set _ _ _ _ hi]
  split
  · rename_i e; subst e; exact ⟨rfl, rfl⟩
  · exact ⟨rfl, rfl⟩
theorem Shuf.turn {xs : List Nat} {cs : List Card} (h : Shuf xs cs) {i : Nat} (hi : i < cs.length) (t : Bool) : Shuf xs (turnC cs i t) := by
  have hl := turnC_len cs i t
  have hn := fun j => turnC_num cs i j t hi
  refine ⟨hl.trans h.len, fun j hj => ?_, fun j hj => ?_, fun j k hj hk e => ?_, fun k hk => ?_⟩
  · rw [hl] at hj ⊢; rw [(hn j).1]; exact h.num j hj
  · rw [hl] at hj; rw [(hn j).1, (hn j).2]; exact h.row j hj
  · rw [hl] at hj hk; rw [(hn j).1, (hn k).1] at e; exact h.apart j k hj hk e
  · rw [hl] at hk; obtain ⟨j, hj, e⟩ := h.all k hk; exact ⟨j, by rw [hl]; exact hj, by rw [(hn j).1]; exact e⟩
theorem Shuf.ok {n : Nat} {xs : List Nat} {cs : List Card} (h : Shuf xs cs) (hv : Valid n xs) : ChainOk n cs := by
  have hd : ∀ i, ¬ i < cs.length → nthC cs i = ⟨0, 0, false⟩ := fun i hi => by unfold nthC; rw [List.getElem?_eq_none (by omega)]; rfl
  refine ⟨hv.n0, hv.n1, by rw [h.len]; exact hv.l0, by rw [h.len]; exact hv.l1, fun i => ?_, fun i => ?_⟩
  all_goals by_cases hi : i < cs.length
  · rw [h.row i hi]; exact hv.lt _
  · rw [hd i hi]; exact Nat.pow_pos (by decide)
  · have := h.num i hi; have := h.len; have := hv.l1; omega
  · rw [hd i hi]; decide
theorem Shuf.mend {xs : List Nat} {cs : List Card} (h : Shuf xs cs) {f : Int → Option Nat} (hf : PlaceOf cs cs.length f) : ∀ k, mendTo cs f k = Proofs.Ytdmgffoikebgkaa.punched xs (min k xs.length)
  | 0 => by simp [mendTo, Proofs.Ytdmgffoikebgkaa.punched]
  | k + 1 => by
    rw [mendTo_succ, h.mend hf k]
    by_cases hk : k < xs.length
    · obtain ⟨i, hi, e⟩ := h.all k (by rw [h.len]; exact hk)
      have hfk : f (k : Int) = some i := (hf _ _).2 ⟨hi, by rw [e]⟩
      rw [show min k xs.length = k by omega, show min (k + 1) xs.length = k + 1 by omega, punched_succ]
      simp [mendOne, hfk, h.row i hi, e]
    · have hfk : f (k : Int) = none := by
        cases hfk : f (k : Int) with
        | none => rfl
        | some y =>
          obtain ⟨h1, h2⟩ := (hf _ _).1 hfk
          have := h.num y h1
          have := h.len
          omega
      rw [show min k xs.length = xs.length by omega, show min (k + 1) xs.length = xs.length by omega]
      simp [mendOne, hfk]
theorem cardCells_set : ∀ (cs : List Card) (i : Nat) (c : Card), cardCells (cs.set i c) = (((cardCells cs).set (i * 3) (.int .i64 (c.num : Int))).set (i * 3 + 1) (.int .i64 (c.row : Int))).set (i * 3 + 2) (.bool c.turned)
  | [], i, c => by simp [cardCells]
  | x :: cs, 0, c => by simp [cardCells, Card.cells]
  | x :: cs, i + 1, c => by
    have e : ∀ (x : Card) cs, cardCells (x :: cs) = .int .i64 (x.num : Int) :: .int .i64 (x.row : Int) :: .bool x.turned :: cardCells cs := fun x cs => by simp [cardCells, Card.cells]
    rw [List.set_cons_succ, e, e, cardCells_set cs i c, show (i + 1) * 3 = i * 3 + 1 + 1 + 1 by omega, show i * 3 + 1 + 1 + 1 + 1 = (i * 3 + 1) + 1 + 1 + 1 by omega, show i * 3 + 1 + 1 + 1 + 2 = (i * 3 + 2) + 1 + 1 + 1 by omega]
    simp [List.set_cons_succ]
/-- cards in a block of their own -/
def CardBlk (W : World) (g : Nat) (cs : List Card) : Prop := ∃ cur : Array Value, BoxAt W g cur 128 ∧ cur.toList.take (cs.length * 3) = cardCells cs ∧ cs.length * 3 ≤ cur.size
theorem CardBlk.of_row {W : World} {B g cap : Nat} {cs : List Card} (h : W.ownsRow B 128 3 (.slice (some ⟨g, 0, none⟩) cs.length cap) cs.length (cardCells cs)) (_h0 : 0 < cs.length) : CardBlk W g cs ∧ B ≤ g := by
  obtain ⟨hl, ⟨h2, _⟩ | ⟨g', cap', cur, e, hg, hh, hle, _, hs, ht⟩⟩ := h
  · simp at h2
  · simp at e
    obtain ⟨rfl, rfl⟩ := e
    exact ⟨⟨cur, hh, ht, by rw [hs]; exact Nat.mul_le_mul_right 3 hle⟩, hg⟩
theorem CardBlk.lt {W : World} {g : Nat} {cs : List Card} (h : CardBlk W g cs) : g < W.heap.size := by obtain ⟨_, h, _⟩ := h; exact h.lt
theorem CardBlk.frozen {W : World} {g : Nat} {cs : List Card} (h : CardBlk W g cs) (j : Nat) : W.frozen? ⟨g, j, none⟩ = false := by obtain ⟨_, h, _⟩ := h; exact h.frozen j
theorem CardBlk.next {W W' : World} {g : Nat} {cs : List Card} (h : CardBlk W g cs) (hb : Below W.heap.size W W') : CardBlk W' g cs := by
  obtain ⟨cur, h1, h2, h3⟩ := h; exact ⟨cur, h1.next hb, h2, h3⟩
theorem CardBlk.other {W : World} {g : Nat} {cs : List Card} (h : CardBlk W g cs) (a : Addr) (v : Value) (ha : g ≠ a.block) : CardBlk (W.setCell a v) g cs := by
  obtain ⟨cur, h1, h2, h3⟩ := h; exact ⟨cur, h1.other a v ha, h2, h3⟩
theorem CardBlk.at' {W : World} {g : Nat} {cs : List Card} (h : CardBlk W g cs) : CardsAt W g cs := by
  have hlt := h.lt
  obtain ⟨cur, h1, h2, h3⟩ := h
  have hc : ∀ i j, i < cs.length → j < 3 → W.cell? ⟨g, i * 3 + j, none⟩ = (nthC cs i).cells[j]? := fun i j hi hj => by
    rw [h1.cell, ← cardCells_get cs i j hi hj, ← h2, List.getElem?_take_of_lt (by omega)]
    simp
  exact ⟨fun i hi => hc i 0 hi (by omega), fun i hi => hc i 1 hi (by omega), fun i hi => hc i 2 hi (by omega), hlt⟩
theorem CardBlk.set {W : World} {g : Nat} {cs : List Card} (h : CardBlk W g cs) (i : Nat) (c : Card) :
    CardBlk (((W.setCell ⟨g, i * 3, none⟩ (.int .i64 (c.num : Int))).setCell ⟨g, i * 3 + 1, none⟩ (.int .i64 (c.row : Int))).setCell ⟨g, i * 3 + 2, none⟩ (.bool c.turned)) g (cs.set i c) := by
  obtain ⟨cur, h1, h2, h3⟩ := h
  refine ⟨_, ((h1.set (i * 3) _).set (i * 3 + 1) _).set (i * 3 + 2) _, ?_, by simpa using h3⟩
  rw [List.length_set, cardCells_set, ← h2]
  simp [List.take_set]
theorem CardBlk.turn {W : World} {g : Nat} {cs : List Card} (h : CardBlk W g cs) (i : Nat) (t : Bool) (hi : i < cs.length) : CardBlk (W.setCell ⟨g, i * 3 + 2, none⟩ (.bool t)) g (turnC cs i t) := by
  have hat := h.at'
  obtain ⟨cur, h1, h2, h3⟩ := h
  refine ⟨_, h1.set (i * 3 + 2) _, ?_, by simpa [turnC] using h3⟩
  unfold turnC
  rw [List.length_set, cardCells_set, ← h2]
  have e0 := hat.c0 i hi
  have e1 := hat.c1 i hi
  rw [h1.cell] at e0 e1
  have s0 : (cur.toList.take (cs.length * 3)).set (i * 3) (.int .i64 ((nthC cs i).num : Int)) = cur.toList.take (cs.length * 3) := by
    apply List.ext_getElem?
    intro j
    rw [List.getElem?_set]
    split
    · rename_i e; subst e
      split
      · rw [List.getElem?_take_of_lt (by omega)]; simpa using e0.symm
      · rename_i hj; rw [List.getElem?_eq_none (by simpa using hj)]
    · rfl
  have s1 : (cur.toList.take (cs.length * 3)).set (i * 3 + 1) (.int .i64 ((nthC cs i).row : Int)) = cur.toList.take (cs.length * 3) := by
    apply List.ext_getElem?
    intro j
    rw [List.getElem?_set]
    split
    · rename_i e; subst e
      split
      · rw [List.getElem?_take_of_lt (by omega)]; simpa using e1.symm
      · rename_i hj; rw [List.getElem?_eq_none (by simpa using hj)]
    · rfl
  rw [s0, s1]
  simp [List.take_set]
end Go.Proofs.Ytdmgffoikebgkaa
/- The statements' helpers: the cards shuffled. -/
namespace Go.Proofs.Ytdmgffoikebgkaa
open Go.RowKit Go.Shelf
attribute [local go_sem] Oper.semAt_some

/-- what the shuffle keeps -/
structure ShAt (w0 : World) (n g l cap : Nat) (cs : List Card) (W : World) : Prop where
  box : BoxAt W w0.heap.size #[.int .i64 (n : Int), .slice (some ⟨g, 0, none⟩) l cap] 114
  res : BoxAt W (w0.heap.size + 1) #[.int .i64 0, .slice none 0 0] 114
  blk : CardBlk W g cs
  b : Below w0.heap.size w0 W
  far : w0.heap.size + 1 < g
theorem ShAt.next {w0 W W' : World} {n g l cap : Nat} {cs : List Card} (h : ShAt w0 n g l cap cs W) (hb : Below W.heap.size W W') : ShAt w0 n g l cap cs W' :=
  ⟨h.box.next hb, h.res.next hb, h.blk.next hb, h.b.trans (hb.mono h.b.size), h.far⟩
theorem ShAt.set {w0 W : World} {n g l cap : Nat} {cs : List Card} (h : ShAt w0 n g l cap cs W) (i : Nat) (c : Card) :
    ShAt w0 n g l cap (cs.set i c) (((W.setCell ⟨g, i * 3, none⟩ (.int .i64 (c.num : Int))).setCell ⟨g, i * 3 + 1, none⟩ (.int .i64 (c.row : Int))).setCell ⟨g, i * 3 + 2, none⟩ (.bool c.turned)) := by
  have hf := h.far
  refine ⟨((h.box.other _ _ (by simp; omega)).other _ _ (by simp; omega)).other _ _ (by simp; omega), ((h.res.other _ _ (by simp; omega)).other _ _ (by simp; omega)).other _ _ (by simp; omega), h.blk.set i c, ?_, hf⟩
  exact ((h.b.setCell (by simp; omega) _).setCell (by simp; omega) _).setCell (by simp; omega) _
/-- two cards in boxes of their own -/
def Two (X : World) (c d : Card) (s t : Value) (wx : World) : Prop := ∃ Y Z, s = .pointer (some ⟨Y, 0, none⟩) ∧ t = .pointer (some ⟨Z, 0, none⟩) ∧ X.heap.size ≤ Y ∧ X.heap.size ≤ Z ∧ BoxAt wx Y c.cells.toArray 128 ∧ BoxAt wx Z d.cells.toArray 128 ∧ Below X.heap.size X wx
theorem two_boxes (X : World) (vs us : Array Value) (t : TypeId) : BoxAt ((X.alloc (.cells vs t)).alloc (.cells us t)).drew X.heap.size vs t ∧ BoxAt ((X.alloc (.cells vs t)).alloc (.cells us t)).drew (X.heap.size + 1) us t ∧ Below X.heap.size X ((X.alloc (.cells vs t)).alloc (.cells us t)).drew := by
  have h2 := BoxAt.new (X.alloc (.cells vs t)) us t
  rw [World.size_alloc] at h2
  exact ⟨((BoxAt.new X vs t).below ((Below.refl (X.heap.size + 1) _).alloc (by simp) _) (by omega)).next (below_drew1 _), h2.next (below_drew1 _), (((Below.refl _ _).alloc (Nat.le_refl _) _).alloc (by simp) _).drew⟩
theorem two_a (X : World) (c d : Card) : Two X c d (.pointer (some ⟨X.heap.size, 0, none⟩)) (.pointer (some ⟨X.heap.size + 1, 0, none⟩)) ((X.alloc (.cells c.cells.toArray 128)).alloc (.cells d.cells.toArray 128)).drew := by
  obtain ⟨h1, h2, h3⟩ := two_boxes X c.cells.toArray d.cells.toArray 128
  exact ⟨_, _, rfl, rfl, Nat.le_refl _, by omega, h1, h2, h3⟩
theorem two_b (X : World) (c d : Card) : Two X c d (.pointer (some ⟨X.heap.size + 1, 0, none⟩)) (.pointer (some ⟨X.heap.size, 0, none⟩)) ((X.alloc (.cells d.cells.toArray 128)).alloc (.cells c.cells.toArray 128)).drew := by
  obtain ⟨h1, h2, h3⟩ := two_boxes X d.cells.toArray c.cells.toArray 128
  exact ⟨_, _, rfl, rfl, by omega, Nat.le_refl _, h2, h1, h3⟩
set_option maxRecDepth 100000 in
set_option maxHeartbeats 2000000 in
theorem armShuffled_any (n g c : Nat) (p : Option Addr) (cp : Nat) (sd xs : List Nat) (cs : List Card) (w : World) (h0 : 0 < cs.length) (hl : cs.length ≤ 60) (hx : CardsAt w g cs) (hs : Shuf xs cs) (hsd : ByteRow w p sd) (hsl : sd.length ≤ 9223372036854775807) :
    Calls Try.prog 97 #[.agg #[.int .i64 (n : Int), .slice (some ⟨g, 0, none⟩) cs.length c], .slice p sd.length cp] w fun e w' =>
      ∃ g' cap cs', e = .returned (.agg #[.int .i64 (n : Int), .slice (some ⟨g', 0, none⟩) cs.length cap]) ∧ Shuf xs cs' ∧ CardBlk w' g' cs' ∧ w.heap.size ≤ g' ∧ Below w.heap.size w w' := by
  obtain ⟨w0, hw0⟩ : ∃ w0, w0 = (w.alloc (.cells #[.int .i64 (n : Int), .slice (some ⟨g, 0, none⟩) cs.length c] 114)).alloc (.cells #[.int .i64 0, .slice none 0 0] 114) := ⟨_, rfl⟩
  have hO := OwnRow.new w n g 0 cs.length c 114
  have hbb : Below w.heap.size w w0 := by rw [hw0]; exact ((Below.refl _ _).alloc (Nat.le_refl _) _).alloc (by simp) _
  have hs0 : w0.heap.size = w.heap.size + 2 := by rw [hw0]; simp
  rw [← hw0] at hO
  have HA := Lib.hid (armBelt_ok n g c cs w0 h0 hl (hx.next hbb))
  have HO := Lib.hid hO
  have Hbb := Lib.hid hbb
  have HW0 := Lib.hid hw0
  have Hs0 := Lib.hid hs0
  have Hsh := Lib.hid hs
  have Hsd := Lib.hid hsd
  clear hO hbb hw0 hs0 hs hx hsd
  go_enter Try.func97, Try.ntmps97
  go_wp2_with fail
  rw [← HW0.out]
  refine HA.out.mono ?_
  rintro e w1 ⟨g', cap, rfl, hr, hb⟩
  have hO1 := HO.out.next hb
  obtain ⟨hblk, hgl⟩ := CardBlk.of_row hr h0
  rw [Hs0.out] at hgl
  have d0 := hO1.b1.cell' (v := .int .i64 (n : Int)) 0 rfl
  have d1 := hO1.b1.cell' (v := .slice (some ⟨g, 0, none⟩) cs.length c) 1 rfl
  have f0 := hO1.b1.frozen 0
  have f1 := hO1.b1.frozen 1
  have hS0 : ShAt w n g' cs.length cap cs ((w1.setCell ⟨w.heap.size, 0, none⟩ (.int .i64 (n : Int))).setCell ⟨w.heap.size, 1, none⟩ (.slice (some ⟨g', 0, none⟩) cs.length cap)) :=
    ⟨(hO1.b1.set 0 (.int .i64 (n : Int))).set 1 (.slice (some ⟨g', 0, none⟩) cs.length cap), (hO1.b2.other _ _ (by simp)).other _ _ (by simp), (hblk.other _ _ (by simp; omega)).other _ _ (by simp; omega),
      ((Hbb.out.trans (hb.mono (by rw [Hs0.out]; omega))).setCell (by simp) _).setCell (by simp) _, by omega⟩
  have HS0 := Lib.hid hS0
  have hz : w.heap.size < w1.heap.size := hO1.b1.lt
  clear hr hb hO1 hblk hgl hS0 HA HO HW0
  go_wp2_with fail
  have hl1 : (cs.length : Int) - 1 = ((cs.length - 1 : Nat) : Int) := by omega
  go_loopw [5] (fun i wr => ∃ (k : Nat) (cs' : List Card), k < cs.length ∧ i = .int .i64 k ∧ Shuf xs cs' ∧ cs'.length = cs.length ∧ ShAt w n g' cs.length cap cs' wr) (fun i _ => (intOf i).toNat)
  case atStart => exact ⟨cs.length - 1, cs, by omega, by rw [hl1], Hsh.out, rfl, HS0.out⟩
  case round =>
    obtain ⟨k, cs', hk, rfl, hsh, hlen, hT⟩ := hrel
    clear HS0 d0 d1 f0 f1
    have b1 : wr.cell? ⟨w.heap.size, 1, none⟩ = some (.slice (some ⟨g', 0, none⟩) cs.length cap) := hT.box.cell' 1 rfl
    have Hsh' := Lib.hid hsh
    have Hlen := Lib.hid hlen
    have HT := Lib.hid hT
    clear hsh hlen hT
    by_cases hlt : 0 < k
    · have HB := fun W (hb : Below wr.heap.size wr W) => armByte_any p cp k sd W (ByteRow.next Hsd.out (HT.out.next hb).b) hsl (by omega)
      obtain ⟨B, hB⟩ : ∃ B, byteN sd k = B := ⟨_, rfl⟩
      rw [hB] at HB
      have HB1 := Lib.hid (HB wr (Below.refl _ _))
      obtain ⟨o, ho⟩ : ∃ o, B % (k + 1) = o := ⟨_, rfl⟩
      have ho2 : o < k + 1 := by rw [← ho]; exact Nat.mod_lt _ (by omega)
      have hq : (B : Int) % ((k : Int) + 1) = (o : Int) := by rw [← ho]; exact (Int.natCast_emod B (k + 1)).symm
      have hn0 : ¬ ((k : Int) + 1) = 0 := by omega
      clear HB hB ho
      go_wp2_with fail
      refine HB1.out.mono ?_
      rintro e w' ⟨rfl, rfl⟩
      have hol : o < cs.length := by omega
      have hat := HT.out.blk.at'
      have hka : k < cs'.length := by rw [Hlen.out]; exact hk
      have hoa : o < cs'.length := by rw [Hlen.out]; exact hol
      have ek0 := hat.c0 k hka
      have ek1 := hat.c1 k hka
      have ek2 := hat.c2 k hka
      have eo0 := hat.c0 o hoa
      have eo1 := hat.c1 o hoa
      have eo2 := hat.c2 o hoa
      have hgz : g' < wr.heap.size := HT.out.blk.lt
      have hwz : w.heap.size < wr.heap.size := HT.out.box.lt
      have Hca := Lib.hid hka
      have Hoa := Lib.hid hoa
      obtain ⟨ca, hca⟩ : ∃ ca, nthC cs' k = ca := ⟨_, rfl⟩
      obtain ⟨cb, hcb⟩ : ∃ cb, nthC cs' o = cb := ⟨_, rfl⟩
      rw [hca] at ek0 ek1 ek2
      rw [hcb] at eo0 eo1 eo2
      have Hka := Lib.hid hca
      have Hkb := Lib.hid hcb
      obtain ⟨na, ra, ta⟩ := ca
      obtain ⟨nb, rb, tb⟩ := cb
      simp only at ek0 ek1 ek2 eo0 eo1 eo2
      have hk0 : (0 : Int) ≤ (k : Int) := by omega
      have hk1 : (k : Int) < (cs.length : Int) := by omega
      have ho0 : (0 : Int) ≤ (o : Int) := by omega
      have ho1 : (o : Int) < (cs.length : Int) := by omega
      clear hat hka hoa hca hcb
      go_upto_region 6 with fail
      go_cut [7, 8] from 25 to 34 (fun s7 s8 wx => Two wr ⟨na, ra, ta⟩ ⟨nb, rb, tb⟩ s7 s8 wx)
      case first =>
        rename_i J6 K6 hJ6 hK6
        go_region
        all_goals refine hK6 _ _ (Met.intro (hJ6 _ _ ?_))
        all_goals (repeat apply Exists.intro)
        all_goals first | exact ⟨two_a wr ⟨na, ra, ta⟩ ⟨nb, rb, tb⟩, rfl⟩ | exact ⟨two_b wr ⟨na, ra, ta⟩ ⟨nb, rb, tb⟩, rfl⟩
      case rest =>
        obtain ⟨Y, Z, rfl, rfl, hY, hZ, hBY, hBZ, hbc⟩ := hcut
        have hTc := HT.out.next hbc
        have b1 : wc.cell? ⟨w.heap.size, 1, none⟩ = some (.slice (some ⟨g', 0, none⟩) cs.length cap) := hTc.box.cell' 1 rfl
        have y0 : wc.cell? ⟨Y, 0, none⟩ = some (.int .i64 (na : Int)) := hBY.cell' 0 rfl
        have y1 : wc.cell? ⟨Y, 1, none⟩ = some (.int .i64 (ra : Int)) := hBY.cell' 1 rfl
        have y2 : wc.cell? ⟨Y, 2, none⟩ = some (.bool ta) := hBY.cell' 2 rfl
        have z0 : wc.cell? ⟨Z, 0, none⟩ = some (.int .i64 (nb : Int)) := hBZ.cell' 0 rfl
        have z1 : wc.cell? ⟨Z, 1, none⟩ = some (.int .i64 (rb : Int)) := hBZ.cell' 1 rfl
        have z2 : wc.cell? ⟨Z, 2, none⟩ = some (.bool tb) := hBZ.cell' 2 rfl
        have hat := hTc.blk.at'
        have ek0 := hat.c0 k Hca.out
        have ek1 := hat.c1 k Hca.out
        have ek2 := hat.c2 k Hca.out
        have eo0 := hat.c0 o Hoa.out
        have eo1 := hat.c1 o Hoa.out
        have eo2 := hat.c2 o Hoa.out
        rw [Hka.out] at ek0 ek1 ek2
        rw [Hkb.out] at eo0 eo1 eo2
        simp only at ek0 ek1 ek2 eo0 eo1 eo2
        have q0 := hTc.blk.frozen (k * 3)
        have q1 := hTc.blk.frozen (k * 3 + 1)
        have q2 := hTc.blk.frozen (k * 3 + 2)
        have q3 := hTc.blk.frozen (o * 3)
        have q4 := hTc.blk.frozen (o * 3 + 1)
        have q5 := hTc.blk.frozen (o * 3 + 2)
        have hfar := hTc.far
        have n1 : ¬ Y = g' := by omega
        have n2 : ¬ Z = g' := by omega
        have n3 : ¬ w.heap.size = g' := by omega
        have hS2 := (hTc.set k ⟨nb, rb, tb⟩).set o ⟨na, ra, ta⟩
        have hsw : (cs'.set k ⟨nb, rb, tb⟩).set o ⟨na, ra, ta⟩ = swapC cs' k o := by unfold swapC; rw [Hka.out, Hkb.out]
        rw [hsw] at hS2
        have HS2 := Lib.hid hS2
        have HsS := Lib.hid (Hsh'.out.swap Hca.out Hoa.out)
        have HlS := Lib.hid ((swapC_len cs' k o).trans Hlen.out)
        clear hTc hBY hBZ hbc hat hS2 hsw hfar hY hZ
        by_cases hok : o = k
        · subst hok
          go_wp2_with fail
          go_roundw
          case rel => exact ⟨o - 1, by omega, by omega, _, HsS.out, HlS.out, HS2.out⟩
          case measure => simp only [intOf]; omega
        · have m1 : ¬ o * 3 = k * 3 := by omega
          have m2 : ¬ o * 3 = k * 3 + 1 := by omega
          have m3 : ¬ o * 3 = k * 3 + 2 := by omega
          have m4 : ¬ o * 3 + 1 = k * 3 := by omega
          have m5 : ¬ o * 3 + 1 = k * 3 + 1 := by omega
          have m6 : ¬ o * 3 + 1 = k * 3 + 2 := by omega
          have m7 : ¬ o * 3 + 2 = k * 3 := by omega
          have m8 : ¬ o * 3 + 2 = k * 3 + 1 := by omega
          have m9 : ¬ o * 3 + 2 = k * 3 + 2 := by omega
          go_wp2_with fail
          go_roundw
          case rel => exact ⟨k - 1, by omega, by omega, _, HsS.out, HlS.out, HS2.out⟩
          case measure => simp only [intOf]; omega
    · obtain rfl : k = 0 := by omega
      have b0 : wr.cell? ⟨w.heap.size, 0, none⟩ = some (.int .i64 (n : Int)) := HT.out.box.cell' 0 rfl
      have r0 : wr.cell? ⟨w.heap.size + 1, 0, none⟩ = some (.int .i64 0) := HT.out.res.cell' 0 rfl
      have r1 : wr.cell? ⟨w.heap.size + 1, 1, none⟩ = some (.slice none 0 0) := HT.out.res.cell' 1 rfl
      have f0 := HT.out.res.frozen 0
      have f1 := HT.out.res.frozen 1
      go_wp2_with fail
      refine bodyPost_ret (v := .agg #[.int .i64 (n : Int), .slice (some ⟨g', 0, none⟩) cs.length cap]) ?_ rfl ⟨g', cap, cs', rfl, Hsh'.out, ?_, ?_, ?_⟩
      · have hb3 := (HT.out.res.set 0 (.int .i64 (n : Int))).set 1 (.slice (some ⟨g', 0, none⟩) cs.length cap)
        have d0 := hb3.cell' (v := .int .i64 (n : Int)) 0 rfl
        have d1 := hb3.cell' (v := .slice (some ⟨g', 0, none⟩) cs.length cap) 1 rfl
        simp [results, Try.results97, go_sem, d0, d1]
      · have hf := HT.out.far
        exact (HT.out.blk.other _ _ (by simp; omega)).other _ _ (by simp; omega)
      · have hf := HT.out.far; omega
      · exact (HT.out.b.setCell (by simp) _).setCell (by simp) _
end Go.Proofs.Ytdmgffoikebgkaa
