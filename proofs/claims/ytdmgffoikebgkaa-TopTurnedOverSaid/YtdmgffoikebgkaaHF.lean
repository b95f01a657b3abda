/- The statements' helpers: cards that are shuffled and turned. -/
import Derived.Test.YtdmgffoikebgkaaHB
import Derived.Test.YtdmgffoikebgkaaHC
import Derived.Test.YtdmgffoikebgkaaCE
namespace Go.Proofs.Ytdmgffoikebgkaa
open Go.RowKit Go.Shelf
attribute [local go_sem] Oper.semAt_some

theorem nthC_set (cs : List Card) (i j : Nat) (c : Card) (h : i < cs.length) : nthC (cs.set i c) j = if j = i then c else nthC cs j := by
  unfold nthC
  by_cases e : j = i
  · subst e; simp [h]
  · rw [if_neg e, List.getElem?_set_ne (Ne.symm e)]
def swapC (cs : List Card) (a b : Nat) : List Card := (cs.set a (nthC cs b)).set b (nthC cs a)
theorem swapC_len (cs : List Card) (a b : Nat) : (swapC cs a b).length = cs.length := by simp [swapC]
def sw (a b i : Nat) : Nat := if i = b then a else if i = a then b else i
theorem swapC_nth (cs : List Card) (a b i : Nat) (ha : a < cs.length) (hb : b < cs.length) : nthC (swapC cs a b) i = nthC cs (sw a b i) := by
  unfold swapC sw
  rw [nthC_set _ _ _ _ (by simpa using hb), nthC_set _ _ _ _ ha]
  split
  · rfl
  · split <;> rfl
theorem sw_sw (a b i : Nat) : sw a b (sw a b i) = i := by
  unfold sw
  by_cases h1 : i = b
  · subst h1
    by_cases h2 : a = i
    · simp [h2]
    · simp [h2]
  · by_cases h2 : i = a
    · subst h2; simp [h1]
    · simp [h1, h2]
theorem sw_lt {a b i l : Nat} (ha : a < l) (hb : b < l) (hi : i < l) : sw a b i < l := by unfold sw; split <;> (try split) <;> assumption
/-- the cards of the rows, in some order, turned or not -/
structure Shuf (xs : List Nat) (cs : List Card) : Prop where
  len : cs.length = xs.length
  num : ∀ i, i < cs.length → (nthC cs i).num < cs.length
  row : ∀ i, i < cs.length → (nthC cs i).row = nthN xs (nthC cs i).num
  apart : Apart cs
  all : ∀ k, k < cs.length → ∃ i, i < cs.length ∧ (nthC cs i).num = k
theorem Shuf.punched (xs : List Nat) : Shuf xs (Proofs.Ytdmgffoikebgkaa.punched xs xs.length) := by
  have hl := punched_len xs xs.length
  refine ⟨hl, fun i hi => ?_, fun i hi => ?_, fun i j hi hj e => ?_, fun k hk => ⟨k, hk, ?_⟩⟩
  · rw [hl] at hi ⊢; rw [punched_nth _ _ _ hi]; exact hi
  · rw [hl] at hi; rw [punched_nth _ _ _ hi]
  · rw [hl] at hi hj; rwa [punched_nth _ _ _ hi, punched_nth _ _ _ hj] at e
  · rw [hl] at hk; rw [punched_nth _ _ _ hk]
theorem Shuf.swap {xs : List Nat} {cs : List Card} (h : Shuf xs cs) {a b : Nat} (ha : a < cs.length) (hb : b < cs.length) : Shuf xs (swapC cs a b) := by
  have hl := swapC_len cs a b
  refine ⟨hl.trans h.len, fun i hi => ?_, fun i hi => ?_, fun i j hi hj e => ?_, fun k hk => ?_⟩
  · rw [hl] at hi ⊢; rw [swapC_nth _ _ _ _ ha hb]; exact h.num _ (sw_lt ha hb hi)
  · rw [hl] at hi; rw [swapC_nth _ _ _ _ ha hb]; exact h.row _ (sw_lt ha hb hi)
  · rw [hl] at hi hj
    rw [swapC_nth _ _ _ _ ha hb, swapC_nth _ _ _ _ ha hb] at e
    have := h.apart _ _ (sw_lt ha hb hi) (sw_lt ha hb hj) e
    rw [← sw_sw a b i, this, sw_sw]
  · rw [hl] at hk
    obtain ⟨i, hi, e⟩ := h.all k hk
    exact ⟨sw a b i, by rw [hl]; exact sw_lt ha hb hi, by rw [swapC_nth _ _ _ _ ha hb, sw_sw]; exact e⟩
def turnC (cs : List Card) (i : Nat) (t : Bool) : List Card := cs.set i ⟨(nthC cs i).num, (nthC cs i).row, t⟩
theorem turnC_len (cs : List Card) (i : Nat) (t : Bool) : (turnC cs i t).length = cs.length := by simp [turnC]
theorem turnC_num (cs : List Card) (i j : Nat) (t : Bool) (hi : i < cs.length) : (nthC (turnC cs i t) j).num = (nthC cs j).num ∧ (nthC (turnC cs i t) j).row = (nthC cs j).row := by
  unfold turnC
  rw [nthC_set _ _ _ _ hi]
  split
  · rename_i e; subst e; exact ⟨rfl, rfl⟩
  · exact ⟨rfl, rfl⟩
theorem Shuf.turn {xs : List Nat} {cs : List Card} (h : Shuf xs cs) {i : Nat} (hi : i < cs.length) (t : Bool) : Shuf xs (turnC cs i t) := by
  have hl := turnC_len cs i t
  have hn := fun j => turnC_num cs i j t hi
  refine ⟨hl.trans h.len, fun j hj => ?_, fun j hj => ?_, fun j k hj hk e => ?_, fun k hk => ?_⟩
  · rw [hl] at hj ⊢; rw [(hn j).1]; exact h.num j hj
  · rw [hl] at hj; rw [(hn j).1, (hn j).2]; exact h.row j hj
  · rw [hl] at hj hk; rw [(hn j).1, (hn k).1] at e; exact h.apart j k hj hk e
  · rw [hl] at hk; obtain ⟨j, hj, e⟩ := h.all k hk; exact ⟨j, by rw [hl]; exact hj, by rw [(hn j).1]; exact e⟩
theorem Shuf.ok {n : Nat} {xs : List Nat} {cs : List Card} (h : Shuf xs cs) (hv : Valid n xs) : ChainOk n cs := by
  have hd : ∀ i, ¬ i < cs.length → nthC cs i = ⟨0, 0, false⟩ := fun i hi => by unfold nthC; rw [List.getElem?_eq_none (by omega)]; rfl
  refine ⟨hv.n0, hv.n1, by rw [h.len]; exact hv.l0, by rw [h.len]; exact hv.l1, fun i => ?_, fun i => ?_⟩
  all_goals by_cases hi : i < cs.length
  · rw [h.row i hi]; exact hv.lt _
  · rw [hd i hi]; exact Nat.pow_pos (by decide)
  · have := h.num i hi; have := h.len; have := hv.l1; omega
  · rw [hd i hi]; decide
theorem Shuf.mend {xs : List Nat} {cs : List Card} (h : Shuf xs cs) {f : Int → Option Nat} (hf : PlaceOf cs cs.length f) : ∀ k, mendTo cs f k = Proofs.Ytdmgffoikebgkaa.punched xs (min k xs.length)
  | 0 => by simp [mendTo, Proofs.Ytdmgffoikebgkaa.punched]
  | k + 1 => by
    rw [mendTo_succ, h.mend hf k]
    by_cases hk : k < xs.length
    · obtain ⟨i, hi, e⟩ := h.all k (by rw [h.len]; exact hk)
      have hfk : f (k : Int) = some i := (hf _ _).2 ⟨hi, by rw [e]⟩
      rw [show min k xs.length = k by omega, show min (k + 1) xs.length = k + 1 by omega, punched_succ]
      simp [mendOne, hfk, h.row i hi, e]
    · have hfk : f (k : Int) = none := by
        cases hfk : f (k : Int) with
        | none => rfl
        | some y =>
          obtain ⟨h1, h2⟩ := (hf _ _).1 hfk
          have := h.num y h1
          have := h.len
          omega
      rw [show min k xs.length = xs.length by omega, show min (k + 1) xs.length = xs.length by omega]
      simp [mendOne, hfk]
theorem cardCells_set : ∀ (cs : List Card) (i : Nat) (c : Card), cardCells (cs.set i c) = (((cardCells cs).set (i * 3) (.int .i64 (c.num : Int))).set (i * 3 + 1) (.int .i64 (c.row : Int))).set (i * 3 + 2) (.bool c.turned)
  | [], i, c => by simp [cardCells]
  | x :: cs, 0, c => by simp [cardCells, Card.cells]
  | x :: cs, i + 1, c => by
    have e : ∀ (x : Card) cs, cardCells (x :: cs) = .int .i64 (x.num : Int) :: .int .i64 (x.row : Int) :: .bool x.turned :: cardCells cs := fun x cs => by simp [cardCells, Card.cells]
    rw [List.set_cons_succ, e, e, cardCells_set cs i c, show (i + 1) * 3 = i * 3 + 1 + 1 + 1 by omega, show i * 3 + 1 + 1 + 1 + 1 = (i * 3 + 1) + 1 + 1 + 1 by omega, show i * 3 + 1 + 1 + 1 + 2 = (i * 3 + 2) + 1 + 1 + 1 by omega]
    simp [List.set_cons_succ]
/-- cards in a block of their own -/
def CardBlk (W : World) (g : Nat) (cs : List Card) : Prop := ∃ cur : Array Value, BoxAt W g cur 128 ∧ cur.toList.take (cs.length * 3) = cardCells cs ∧ cs.length * 3 ≤ cur.size
theorem CardBlk.of_row {W : World} {B g cap : Nat} {cs : List Card} (h : W.ownsRow B 128 3 (.slice (some ⟨g, 0, none⟩) cs.length cap) cs.length (cardCells cs)) (_h0 : 0 < cs.length) : CardBlk W g cs ∧ B ≤ g := by
  obtain ⟨hl, ⟨h2, _⟩ | ⟨g', cap', cur, e, hg, hh, hle, _, hs, ht⟩⟩ := h
  · simp at h2
  · simp at e
    obtain ⟨rfl, rfl⟩ := e
    exact ⟨⟨cur, hh, ht, by rw [hs]; exact Nat.mul_le_mul_right 3 hle⟩, hg⟩
theorem CardBlk.lt {W : World} {g : Nat} {cs : List Card} (h : CardBlk W g cs) : g < W.heap.size := by obtain ⟨_, h, _⟩ := h; exact h.lt
theorem CardBlk.frozen {W : World} {g : Nat} {cs : List Card} (h : CardBlk W g cs) (j : Nat) : W.frozen? ⟨g, j, none⟩ = false := by obtain ⟨_, h, _⟩ := h; exact h.frozen j
theorem CardBlk.next {W W' : World} {g : Nat} {cs : List Card} (h : CardBlk W g cs) (hb : Below W.heap.size W W') : CardBlk W' g cs := by
  obtain ⟨cur, h1, h2, h3⟩ := h; exact ⟨cur, h1.next hb, h2, h3⟩
theorem CardBlk.other {W : World} {g : Nat} {cs : List Card} (h : CardBlk W g cs) (a : Addr) (v : Value) (ha : g ≠ a.block) : CardBlk (W.setCell a v) g cs := by
  obtain ⟨cur, h1, h2, h3⟩ := h; exact ⟨cur, h1.other a v ha, h2, h3⟩
theorem CardBlk.at' {W : World} {g : Nat} {cs : List Card} (h : CardBlk W g cs) : CardsAt W g cs := by
  have hlt := h.lt
  obtain ⟨cur, h1, h2, h3⟩ := h
  have hc : ∀ i j, i < cs.length → j < 3 → W.cell? ⟨g, i * 3 + j, none⟩ = (nthC cs i).cells[j]? := fun i j hi hj => by
    rw [h1.cell, ← cardCells_get cs i j hi hj, ← h2, List.getElem?_take_of_lt (by omega)]
    simp
  exact ⟨fun i hi => hc i 0 hi (by omega), fun i hi => hc i 1 hi (by omega), fun i hi => hc i 2 hi (by omega), hlt⟩
theorem CardBlk.set {W : World} {g : Nat} {cs : List Card} (h : CardBlk W g cs) (i : Nat) (c : Card) :
    CardBlk (((W.setCell ⟨g, i * 3, none⟩ (.int .i64 (c.num : Int))).setCell ⟨g, i * 3 + 1, none⟩ (.int .i64 (c.row : Int))).setCell ⟨g, i * 3 + 2, none⟩ (.bool c.turned)) g (cs.set i c) := by
  obtain ⟨cur, h1, h2, h3⟩ := h
  refine ⟨_, ((h1.set (i * 3) _).set (i * 3 + 1) _).set (i * 3 + 2) _, ?_, by simpa using h3⟩
  rw [List.length_set, cardCells_set, ← h2]
  simp [List.take_set]
theorem CardBlk.turn {W : World} {g : Nat} {cs : List Card} (h : CardBlk W g cs) (i : Nat) (t : Bool) (hi : i < cs.length) : CardBlk (W.setCell ⟨g, i * 3 + 2, none⟩ (.bool t)) g (turnC cs i t) := by
  have hat := h.at'
  obtain ⟨cur, h1, h2, h3⟩ := h
  refine ⟨_, h1.set (i * 3 + 2) _, ?_, by simpa [turnC] using h3⟩
  unfold turnC
  rw [List.length_set, cardCells_set, ← h2]
  have e0 := hat.c0 i hi
  have e1 := hat.c1 i hi
  rw [h1.cell] at e0 e1
  have s0 : (cur.toList.take (cs.length * 3)).set (i * 3) (.int .i64 ((nthC cs i).num : Int)) = cur.toList.take (cs.length * 3) := by
    apply List.ext_getElem?
    intro j
    rw [List.getElem?_set]
    split
    · rename_i e; subst e
      split
      · rw [List.getElem?_take_of_lt (by omega)]; simpa using e0.symm
      · rename_i hj; rw [List.getElem?_eq_none (by simpa using hj)]
    · rfl
  have s1 : (cur.toList.take (cs.length * 3)).set (i * 3 + 1) (.int .i64 ((nthC cs i).row : Int)) = cur.toList.take (cs.length * 3) := by
    apply List.ext_getElem?
    intro j
    rw [List.getElem?_set]
    split
    · rename_i e; subst e
      split
      · rw [List.getElem?_take_of_lt (by omega)]; simpa using e1.symm
      · rename_i hj; rw [List.getElem?_eq_none (by simpa using hj)]
    · rfl
  rw [s0, s1]
  simp [List.take_set]
end Go.Proofs.Ytdmgffoikebgkaa
