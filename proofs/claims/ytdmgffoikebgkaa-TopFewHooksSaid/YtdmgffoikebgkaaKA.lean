/- Boxes that are known whole; a row that one element is appended to. -/
import Derived.Test.YtdmgffoikebgkaaWL
import Derived.Deep.RegionHeld3
import Derived.Deep.RegionLaw
import Derived.Deep.AppendLies
import Derived.Maps.AppendAt
namespace Go.Proofs.Ytdmgffoikebgkaa
open Go.RowKit Go.Shelf

theorem cell_next {W W' : World} {p : Addr} {v : Value} (hb : Below W.heap.size W W') (h : W.cell? p = some v) : W'.cell? p = some v :=
  (hb.cell (World.block_lt_of_cell? W p h)).trans h
theorem box_cell {w w1 : World} {cs : Array Value} {t : TypeId} {v : Value} (hb : Below (w.alloc (.cells cs t)).heap.size (w.alloc (.cells cs t)) w1) (j : Nat) (hj : cs[j]? = some v) : w1.cell? ⟨w.heap.size, j, none⟩ = some v := by
  refine cell_next hb ?_
  rw [World.cell?_alloc_new]; exact hj
/-- a block that is known whole -/
def BoxAt (W : World) (B : Nat) (vs : Array Value) (t : TypeId) : Prop := W.heap[B]? = some (.cells vs t (0, 0))
theorem BoxAt.lt {W : World} {B : Nat} {vs : Array Value} {t : TypeId} (h : BoxAt W B vs t) : B < W.heap.size := (Array.getElem?_eq_some_iff.1 h).1
theorem BoxAt.cell {W : World} {B : Nat} {vs : Array Value} {t : TypeId} (h : BoxAt W B vs t) (j : Nat) : W.cell? ⟨B, j, none⟩ = vs[j]? := by
  simp [World.cell?, show W.heap[B]? = _ from h]
theorem BoxAt.cell' {W : World} {B : Nat} {vs : Array Value} {t : TypeId} (h : BoxAt W B vs t) (j : Nat) {v : Value} (hj : vs[j]? = some v) : W.cell? ⟨B, j, none⟩ = some v := (h.cell j).trans hj
theorem BoxAt.frozen {W : World} {B : Nat} {vs : Array Value} {t : TypeId} (h : BoxAt W B vs t) (j : Nat) : W.frozen? ⟨B, j, none⟩ = false := by
  simp [World.frozen?, show W.heap[B]? = _ from h]
theorem BoxAt.new (W : World) (vs : Array Value) (t : TypeId) : BoxAt (W.alloc (.cells vs t)) W.heap.size vs t := World.alloc_heap_new W _
theorem BoxAt.below {W W' : World} {k B : Nat} {vs : Array Value} {t : TypeId} (h : BoxAt W B vs t) (hb : Below k W W') (hk : B < k) : BoxAt W' B vs t := (hb.block B hk).trans h
theorem BoxAt.next {W W' : World} {B : Nat} {vs : Array Value} {t : TypeId} (h : BoxAt W B vs t) (hb : Below W.heap.size W W') : BoxAt W' B vs t := h.below hb h.lt
theorem BoxAt.kept {W W' : World} {B : Nat} {vs : Array Value} {t : TypeId} {row : Option Nat} (h : BoxAt W B vs t) (hg : W.grownBy W' row) (hne : some B ≠ row) : BoxAt W' B vs t := (hg.block B h.lt hne).trans h
theorem BoxAt.set {W : World} {B : Nat} {vs : Array Value} {t : TypeId} (h : BoxAt W B vs t) (j : Nat) (v : Value) : BoxAt (W.setCell ⟨B, j, none⟩ v) B (vs.setIfInBounds j v) t := by
  have hl := h.lt
  unfold BoxAt at h ⊢
  simp [World.setCell, Array.getElem?_modify, h]
theorem BoxAt.other {W : World} {B : Nat} {vs : Array Value} {t : TypeId} (h : BoxAt W B vs t) (a : Addr) (v : Value) (ha : B ≠ a.block) : BoxAt (W.setCell a v) B vs t := (Below.heap_setCell W a v B ha).trans h
theorem BoxAt.not_row {W : World} {B : Nat} {vs : Array Value} {t : TypeId} (h : BoxAt W B vs t) {base size k e : Nat} {v : Value} {xs : List Value} (he : t ≠ e) (hr : W.ownsRow base e size v k xs) : some B ≠ v.ownBlock := by
  obtain ⟨_, ⟨rfl, _⟩ | ⟨g, cap, cur, rfl, hb, hh, _⟩⟩ := hr
  · simp [Value.ownBlock]
  · simp [Value.ownBlock]
    rintro rfl
    rw [show W.heap[B]? = _ from h] at hh
    simp at hh
    exact he hh.2
theorem own_next {W W' : World} {base e size k : Nat} {v : Value} {xs : List Value} (h : W.ownsRow base e size v k xs) (hb : Below W.heap.size W W') : W'.ownsRow base e size v k xs := by
  obtain ⟨hl, h2⟩ := h
  refine ⟨hl, ?_⟩
  rcases h2 with h2 | ⟨g, cap, cur, e, hg, hh, r⟩
  · exact .inl h2
  · exact .inr ⟨g, cap, cur, e, hg, (hb.block _ (Array.getElem?_eq_some_iff.1 hh).1).trans hh, r⟩
theorem own_far {W : World} {base e size k : Nat} {v : Value} {xs : List Value} (h : W.ownsRow base e size v k xs) {j : Nat} (hj : j < base) : some j ≠ v.ownBlock := by
  intro e
  have := ownBlock_ge h e.symm
  omega
theorem own_set {W : World} {base e size k : Nat} {v : Value} {xs : List Value} (h : W.ownsRow base e size v k xs) (a : Addr) (u : Value) (hne : some a.block ≠ v.ownBlock) : (W.setCell a u).ownsRow base e size v k xs := by
  obtain ⟨hl, h2⟩ := h
  refine ⟨hl, ?_⟩
  rcases h2 with h2 | ⟨q, cap, cur, e, hq, hh, r⟩
  · exact .inl h2
  · refine .inr ⟨q, cap, cur, e, hq, (Below.heap_setCell _ _ _ _ ?_).trans hh, r⟩
    rintro rfl
    exact hne (by rw [e]; rfl)
theorem own_base {W : World} {base b2 e size k : Nat} {v : Value} {xs : List Value} (h : W.ownsRow base e size v k xs) (hb : b2 ≤ base) : W.ownsRow b2 e size v k xs := by
  obtain ⟨hl, h2⟩ := h
  refine ⟨hl, ?_⟩
  rcases h2 with h2 | ⟨q, cap, cur, e, hq, r⟩
  · exact .inl h2
  · exact .inr ⟨q, cap, cur, e, by omega, r⟩
/-- a slice's element type -/
structure ElemT (t e size bytes : Nat) : Prop where
  ex : ∃ (i : TypeInfo) (z : Value), Try.prog.underlying t = some (.slice e) ∧ Try.prog.info? e = some i ∧ i.zero = some z ∧ i.size = size ∧ i.bytes = bytes ∧ z.cells.size = size ∧ 0 < size
theorem elemInt : ElemT 24 3 1 8 := by
  obtain ⟨i, hi, hz0, hz1, hz2⟩ := info_parts Try.info3
  exact ⟨i, _, Try.underlying24, hi, hz0, hz1, hz2, rfl, by decide⟩
/-- what appending one element leaves -/
structure Grew (base e size : Nat) (W W' : World) (v : Value) (g cap n : Nat) (xs : List Value) : Prop where
  row : W'.ownsRow base e size (.slice (some ⟨g, 0, none⟩) n cap) n xs
  grow : W.grownBy W' v.ownBlock
  lt : g < W'.heap.size
  at' : v.ownBlock = some g ∨ W.heap.size ≤ g
  ge : base ≤ g
theorem Grew.below {base e size : Nat} {W W' : World} {v : Value} {g cap n : Nat} {xs : List Value} (h : Grew base e size W W' v g cap n xs) {k m : Nat} {ys : List Value} (hr : W.ownsRow base e size v m ys) (hk : k ≤ base) (hb : base ≤ W.heap.size) {W0 : World} (h0 : Below k W0 W) : Below k W0 W' :=
  h0.grown h.grow (by omega) (fun j hj => by have := (ownBlock_ge hr hj).1; omega)
theorem app_one {t e size bytes : Nat} (E : ElemT t e size bytes) {ops : Array Oper} {rest : List Oper} {o : Oper} {a : Act} {Q : Exit → Act → World → Prop} {W : World} (hgd : o.guard = none) (s x : Operand)
    (ho : o.op = .call { callee := .builtin .append, args := #[s, x], argTypes := #[t, t] }) (base : Nat) (v : Value) (n : Nat) (xs : List Value) (cs : Array Value)
    (hs : a.eval s = v) (hown : W.ownsRow base e size v n xs) (hx : a.eval x = .slice (some ⟨W.heap.size, 0, none⟩) 1 1) (hcs : cs.size = size) (h1 : ∀ u ∈ cs.toList, u.oneCell' = true)
    (hlen : n ≤ 1000000) (hby : bytes ≤ 1000) (hbase : base ≤ W.heap.size)
    (h : ∀ g cap W', Grew base e size W W' v g cap (n + 1) (xs ++ cs.toList) → wpList Try.prog ops Q rest (a.put o.dst (.slice (some ⟨g, 0, none⟩) (n + 1) cap)) W') :
    wpList Try.prog ops Q (o :: rest) a (W.alloc (.cells cs e)) := by
  obtain ⟨i, z, hu, hi, hz0, hz1, hz2, hz3, hz4⟩ := E.ex
  refine wpList_append_lies _ hgd s x t ho base e i z size bytes hu hi hz0 hz1 hz2 hz3 hz4 v n xs hs (hown.alloc _) ⟨W.heap.size, 0, none⟩ 1 1 cs.toList hx (by simp [hcs])
    (World.news_of_block (t := e) (fr := (0, 0)) (World.alloc_heap_new W _)) h1 (by omega) (by unfold maxLen; omega) ?_ (by simp; omega) (W.heap.size + 1) (by simp) ?_
  · exact Nat.le_trans (Nat.mul_le_mul (show n + 1 ≤ 1000001 by omega) hby) (by decide)
  · intro g cap w' hr hg hat hlt
    refine h g cap w' ⟨hr, ⟨hg.os, hg.tape, hg.output, ?_, fun k hk hne => (hg.block k (by simp; omega) hne).trans (Below.heap_alloc _ _ _ hk)⟩, hlt, ?_, ?_⟩
    · have := hg.size; simp at this; omega
    · rcases hat with h | h
      · exact .inl h
      · exact .inr (by omega)
    · exact (ownBlock_ge hr (by simp [Value.ownBlock])).1
/-- the same at a step of a region that draws its order -/
theorem step_one {t e size bytes : Nat} (E : ElemT t e size bytes) {ops : Array Oper} {o : Oper} {a : Act} {K : Act → World → Prop} {Q : Exit → Act → World → Prop} {F : Prop} {W : World} (hgd : o.guard = none) (s x : Operand)
    (ho : o.op = .call { callee := .builtin .append, args := #[s, x], argTypes := #[t, t] }) (base : Nat) (v : Value) (n : Nat) (xs : List Value) (cs : Array Value)
    (hs : a.eval s = v) (hown : W.ownsRow base e size v n xs) (hx : a.eval x = .slice (some ⟨W.heap.size, 0, none⟩) 1 1) (hcs : cs.size = size) (h1 : ∀ u ∈ cs.toList, u.oneCell' = true)
    (hlen : n ≤ 1000000) (hby : bytes ≤ 1000) (hbase : base ≤ W.heap.size)
    (h : ∀ g cap W', Grew base e size W W' v g cap (n + 1) (xs ++ cs.toList) → K (a.put o.dst (.slice (some ⟨g, 0, none⟩) (n + 1) cap)) W') :
    if Region.wanted o (yielded ops a.tmps) = true then Oper.wp Try.prog o a (W.alloc (.cells cs e)).drew K Q else F := by
  obtain ⟨i, z, hu, hi, hz0, hz1, hz2, hz3, hz4⟩ := E.ex
  refine step_append_lies _ hgd s x t ho base e i z size bytes hu hi hz0 hz1 hz2 hz3 hz4 v n xs hs ((hown.alloc _).drew) ⟨W.heap.size, 0, none⟩ 1 1 cs.toList hx (by simp [hcs])
    (World.news_of_block (t := e) (fr := (0, 0)) (World.alloc_heap_new W _)) h1 (by omega) (by unfold maxLen; omega) ?_ (by simp; omega) (W.heap.size + 1) (by simp) ?_
  · exact Nat.le_trans (Nat.mul_le_mul (show n + 1 ≤ 1000001 by omega) hby) (by decide)
  · intro g cap w' hr hg hat hlt
    refine h g cap w' ⟨hr, ⟨hg.os, hg.tape, hg.output, ?_, fun k hk hne => (hg.block k (by simp; omega) hne).trans (Below.heap_alloc _ _ _ hk)⟩, hlt, ?_, ?_⟩
    · have := hg.size; simp at this; omega
    · rcases hat with h | h
      · exact .inl h
      · exact .inr (by omega)
    · exact (ownBlock_ge hr (by simp [Value.ownBlock])).1
end Go.Proofs.Ytdmgffoikebgkaa
