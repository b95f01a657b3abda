/- paint: a design out of a condition. -/
import Derived.Test.YtjobbleabepaiaaWI
import Derived.Deep.OwnRows
import Derived.Shelf.Abstract
namespace Go.Proofs.Ytjobbleabepaiaa
open Go.RowKit Go.Shelf

theorem Try.info3 : (Try.prog.info? 3).map (fun i => (i.zero, i.size, i.bytes)) = some (some (.int .i64 0), 1, 8) := by kernel_rfl
def natV (n : Nat) : Value := .int .i64 (n : Int)
/-- a block of its own that holds a row of numbers -/
def NatBlk (W : World) (R : Nat) (ys : List Nat) : Prop := W.heap[R]? = some (.cells (ys.map natV).toArray 3 (0, 0))
theorem NatBlk.lt {W : World} {R : Nat} {ys : List Nat} (h : NatBlk W R ys) : R < W.heap.size := (Array.getElem?_eq_some_iff.1 h).1
theorem NatBlk.cell {W : World} {R : Nat} {ys : List Nat} (h : NatBlk W R ys) {i : Nat} (hi : i < ys.length) : W.cell? ⟨R, i, none⟩ = some (.int .i64 (nthN ys i : Int)) := by
  simp [World.cell?, show W.heap[R]? = _ from h, nthN_get ys i hi, hi, natV]
theorem NatBlk.frozen {W : World} {R : Nat} {ys : List Nat} (h : NatBlk W R ys) (i : Nat) : W.frozen? ⟨R, i, none⟩ = false := by
  simp [World.frozen?, show W.heap[R]? = _ from h]
theorem NatBlk.nats {W : World} {R : Nat} {ys : List Nat} (h : NatBlk W R ys) : NatsAt W R 0 ys := fun i hi => by rw [Nat.zero_add]; exact h.cell hi
theorem NatBlk.below {W W' : World} {B R : Nat} {ys : List Nat} (h : NatBlk W R ys) (hb : Below B W W') (hR : R < B) : NatBlk W' R ys := (hb.block R hR).trans h
theorem NatBlk.set {W : World} {R : Nat} {ys : List Nat} (h : NatBlk W R ys) (i v : Nat) (hi : i < ys.length) : NatBlk (W.setCell ⟨R, i, none⟩ (.int .i64 (v : Int))) R (ys.set i v) := by
  have e : (W.setCell ⟨R, i, none⟩ (.int .i64 (v : Int))).heap[R]? = some (.cells ((ys.map natV).toArray.setIfInBounds i (natV v)) 3 (0, 0)) := by
    have hl := h.lt
    unfold NatBlk at h
    simp [World.setCell, Array.getElem?_modify, h, natV]
  unfold NatBlk
  rw [e]
  simp [List.map_set, List.setIfInBounds_toArray]
theorem NatBlk.made (W : World) (n : Nat) : NatBlk (W.alloc (.cells (madeCells #[.int .i64 0] n) 3)) W.heap.size (List.replicate n 0) := by
  unfold NatBlk
  rw [World.alloc_heap_new]
  congr 2
  simp only [madeCells]
  apply Array.ext'
  simp [natV, List.map_replicate]
  apply List.ext_getElem
  · simp
  · intro i h1 h2
    simp [Nat.mod_one]
/-- a row out of its points -/
def rowTo (f : Nat → Bool) : Nat → Nat
  | 0 => 0
  | j + 1 => rowTo f j ||| (if f j then 2 ^ j else 0)
theorem rowTo_lt (f : Nat → Bool) : ∀ k, rowTo f k < 2 ^ k
  | 0 => by simp [rowTo]
  | k + 1 => by
    have := rowTo_lt f k
    refine Nat.or_lt_two_pow ?_ ?_
    · rw [Nat.pow_succ]; omega
    · rw [Nat.pow_succ]
      have := Nat.pow_pos (n := k) (show 0 < 2 by decide)
      split <;> omega
theorem rowTo_bit (f : Nat → Bool) : ∀ k j, (rowTo f k).testBit j = (decide (j < k) && f j)
  | 0, j => by simp [rowTo]
  | k + 1, j => by
    simp only [rowTo, Nat.testBit_or, rowTo_bit f k j]
    by_cases hj : j = k
    · subst hj
      cases f j <;> simp
    · have e : (if f k then 2 ^ k else 0).testBit j = false := by
        split
        · rw [Nat.testBit_two_pow]; simp; omega
        · simp
      rw [e, Bool.or_false]
      congr 1
      simp; omega
/-- the rows of paint, row i painted up to the hook j -/
def paintAt (g : Nat → Nat → Bool) (np nh i j : Nat) : List Nat := (List.range np).map fun r => if r < i then rowTo (g r) nh else if r = i then rowTo (g r) j else 0
def painted (g : Nat → Nat → Bool) (np nh : Nat) : List Nat := (List.range np).map fun r => rowTo (g r) nh
theorem paintAt_len (g : Nat → Nat → Bool) (np nh i j : Nat) : (paintAt g np nh i j).length = np := by simp [paintAt]
theorem painted_len (g : Nat → Nat → Bool) (np nh : Nat) : (painted g np nh).length = np := by simp [painted]
theorem paintAt_nth (g : Nat → Nat → Bool) (np nh i j : Nat) (h : i < np) : nthN (paintAt g np nh i j) i = rowTo (g i) j := by
  rw [nthN_get _ _ (by rw [paintAt_len]; exact h)]
  simp [paintAt]
theorem paintAt_zero (g : Nat → Nat → Bool) (np nh : Nat) : paintAt g np nh 0 0 = List.replicate np 0 := by
  apply List.ext_getElem
  · simp [paintAt]
  · intro i h1 h2
    simp [paintAt]
    intro h; subst h; rfl
theorem paintAt_end (g : Nat → Nat → Bool) (np nh : Nat) : paintAt g np nh np 0 = painted g np nh := by
  apply List.ext_getElem
  · simp [paintAt, painted]
  · intro i h1 h2
    have : i < np := by simpa [paintAt] using h1
    simp [paintAt, painted, this]
theorem paintAt_next (g : Nat → Nat → Bool) (np nh i : Nat) : paintAt g np nh (i + 1) 0 = paintAt g np nh i nh := by
  apply List.ext_getElem
  · simp [paintAt]
  · intro r h1 h2
    simp only [paintAt, List.getElem_map, List.getElem_range]
    by_cases h : r < i
    · rw [if_pos (by omega), if_pos h]
    · rw [if_neg h]
      by_cases h' : r = i
      · rw [if_pos (by omega), if_pos h']
      · rw [if_neg (by omega), if_neg h']
        split <;> simp [rowTo]
theorem paintAt_skip (g : Nat → Nat → Bool) (np nh i j : Nat) (h : g i j = false) : paintAt g np nh i (j + 1) = paintAt g np nh i j := by
  apply List.ext_getElem
  · simp [paintAt]
  · intro r h1 h2
    simp only [paintAt, List.getElem_map, List.getElem_range]
    by_cases hr : r = i
    · subst hr; simp [rowTo, h]
    · simp [hr]
theorem paintAt_set (g : Nat → Nat → Bool) (np nh i j : Nat) (h : g i j = true) : (paintAt g np nh i j).set i (rowTo (g i) j ||| 2 ^ j) = paintAt g np nh i (j + 1) := by
  apply List.ext_getElem
  · simp [paintAt]
  · intro r h1 h2
    rw [List.getElem_set]
    simp only [paintAt, List.getElem_map, List.getElem_range]
    by_cases hr : i = r
    · subst hr; simp [rowTo, h]
    · rw [if_neg hr]
      have : ¬ r = i := fun e => hr e.symm
      simp [this]
end Go.Proofs.Ytjobbleabepaiaa
