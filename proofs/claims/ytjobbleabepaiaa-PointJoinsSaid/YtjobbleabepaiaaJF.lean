/- PointJoins: what its walk wants. -/
import Derived.Test.YtjobbleabepaiaaJE
import Derived.Test.YtjobbleabepaiaaXT
namespace Go.Proofs.Ytjobbleabepaiaa
open Go.RowKit Go.Shelf

theorem Boxes.addJ {w0 W : World} {L : List BX} (s : Boxes w0 L W) {B : Nat} {h : Int} {p : Option Addr} {l c : Nat} {xs : List Int} (a : ArgBox W B h p l c) (r : Reads W (.slice p l c) xs) : Boxes w0 (⟨B, h, p, l, c, xs⟩ :: L) W := by
  refine ⟨fun x hx => ?_, s.below⟩
  rcases List.mem_cons.1 hx with rfl | hx
  · exact ⟨a, r⟩
  · exact s.all x hx
theorem cell_rowJ (W : World) (cs : Array Value) (t : TypeId) (B i : Nat) (v : Value) (hB : B = W.heap.size) (h : cs[i]? = some v) : (W.alloc (.cells cs t)).cell? ⟨B, i, none⟩ = some v := by
  subst hB
  have := heap_alloc_new W (.cells cs t)
  unfold World.cell?
  simp only [this]
  simpa using h
/-- the world in which PointJoins asks whether its designs are large -/
def joins_w (gh fh : Int) (gp fp : Option Addr) (gc fc gl fl : Nat) (w : World) : World :=
  ((w.alloc (.cells #[.int .i64 gh, .slice gp gl gc] 24)).alloc (.cells #[.int .i64 fh, .slice fp fl fc] 24)).alloc (.cells #[.int .i64 gh, .slice gp gl gc, .int .i64 fh, .slice fp fl fc] 24)
theorem joins_ls (gh fh : Int) (gp fp : Option Addr) (gc fc gl fl : Nat) (w : World) : LsAt (joins_w gh fh gp fp gc fc gl fl w) (w.heap.size + 1 + 1) [gl, fl] := by
  intro i hi
  unfold joins_w
  match i, hi with
  | 0, _ => exact ⟨gp, gc, cell_rowJ _ _ _ _ _ _ (by simp) rfl⟩
  | 1, _ => exact ⟨fp, fc, cell_rowJ _ _ _ _ _ _ (by simp) rfl⟩
  | j + 2, h => exact absurd (show j + 2 < 2 from h) (by omega)
theorem len2_le {a b : Nat} (ha : a ≤ 70) (hb : b ≤ 70) : ∀ i, i < [a, b].length → nthN [a, b] i ≤ 70 := by
  intro i hi
  match i, hi with
  | 0, _ => exact ha
  | 1, _ => exact hb
  | j + 2, h => exact absurd (show j + 2 < 2 from h) (by omega)
theorem joins_start (gh fh : Int) (gp fp : Option Addr) (gc fc : Nat) (gx fx : List Int) (w : World) (hrg : Reads w (.slice gp gx.length gc) gx) (hrf : Reads w (.slice fp fx.length fc) fx) :
    Boxes w [⟨w.heap.size + 1, fh, fp, fx.length, fc, fx⟩, ⟨w.heap.size, gh, gp, gx.length, gc, gx⟩] (joins_w gh fh gp fp gc fc gx.length fx.length w) := by
  have s0 : Boxes w [] w := ⟨fun x hx => by simp at hx, Below.refl _ _⟩
  have s1 := s0.push gh gp gx.length gc gx hrg
  have s2 := s1.push fh fp fx.length fc fx (hrf.below (below1 _ _))
  have s4 := s2.next (below_new1 _ (.cells #[.int .i64 gh, .slice gp gx.length gc, .int .i64 fh, .slice fp fx.length fc] 24))
  simp only [World.size_alloc] at s4
  exact s4

/-- a design and an error -/
def Res (h : Int) (zs : List Int) (r : Int) (w : World) (e : Ending) (w' : World) : Prop :=
  ∃ p c, e = .returned (.tuple #[.agg #[.int .i64 h, .slice p zs.length c], .int .i64 r]) ∧ Reads w' (.slice p zs.length c) zs ∧ Below w.heap.size w w'
theorem Res.of_err {r : Int} {w w' : World} {e : Ending} (h : ErrD r w e w') : Res 0 [] r w e w' := by
  obtain ⟨rfl, hb⟩ := h
  exact ⟨none, 0, rfl, reads_nil _ _ _, hb⟩
theorem Res.of_ok {n : Nat} {ys : List Nat} {w w' : World} {e : Ending} (hl : ys.length ≤ 1000) (h : OkD n ys w e w') : Res n (ints ys) 0 w e w' := by
  obtain ⟨R, rfl, _, hn, hb⟩ := h
  exact ⟨some ⟨R, 0, none⟩, ys.length, by rw [ints_len], by rw [ints_len]; exact blk_reads hn hl _, hb⟩

theorem gets_any (h r h2 : Int) (p p2 : Option Addr) (l l2 c c2 : Nat) (xs ys : List Int) (w : World) (hx : Reads w (.slice p l c) xs) (hy : Reads w (.slice p2 l2 c2) ys) (hz : r ≠ 0 → h = 0 ∧ xs = []) (hg : r = 0 → h2 = h ∧ ys = xs) :
    Calls Try.prog 39 #[.agg #[.int .i64 h, .slice p l c], .int .i64 r, .agg #[.int .i64 h2, .slice p2 l2 c2], .int .i64 r] w fun e w' => e = .returned (.bool true) ∧ Below w.heap.size w w' := by
  by_cases hr : r = 0
  · subst hr
    obtain ⟨rfl, rfl⟩ := hg rfl
    exact gets_reads _ _ _ _ _ _ _ _ _ hx hy
  · obtain ⟨rfl, rfl⟩ := hz hr
    obtain rfl := reads_len hx
    exact gets_none p c r hr _ w h2 p2 l2 c2 rfl

/-- what is due and what is wanted, in two arrays -/
structure JW (W6 : World) (D E : Nat) (d0 d1 d2 : Int) (u0 u1 u2 : BX) (W : World) : Prop where
  b : Below W6.heap.size W6 W
  due : W.heap[D]? = some (errs d0 d1 d2)
  want : W.heap[E]? = some (.cells #[.int .i64 u0.h, .slice u0.p u0.l u0.c, .int .i64 u1.h, .slice u1.p u1.l u1.c, .int .i64 u2.h, .slice u2.p u2.l u2.c] 65)
  r0 : Reads W (.slice u0.p u0.l u0.c) u0.xs
  r1 : Reads W (.slice u1.p u1.l u1.c) u1.xs
  r2 : Reads W (.slice u2.p u2.l u2.c) u2.xs
  f0 : ∀ a, u0.p = some a → E < a.block
  f1 : ∀ a, u1.p = some a → E < a.block
  f2 : ∀ a, u2.p = some a → E < a.block
  lo : W6.heap.size ≤ D
  de : D < E
section
variable {W6 W W' : World} {D E : Nat} {d0 d1 d2 : Int} {u0 u1 u2 : BX}
theorem JW.lt (h : JW W6 D E d0 d1 d2 u0 u1 u2 W) : D < W.heap.size ∧ E < W.heap.size := ⟨(Array.getElem?_eq_some_iff.1 h.due).1, (Array.getElem?_eq_some_iff.1 h.want).1⟩
theorem JW.next (h : JW W6 D E d0 d1 d2 u0 u1 u2 W) (hb : Below W.heap.size W W') : JW W6 D E d0 d1 d2 u0 u1 u2 W' :=
  ⟨h.b.trans (hb.mono h.b.size), (hb.block D h.lt.1).trans h.due, (hb.block E h.lt.2).trans h.want, h.r0.below hb, h.r1.below hb, h.r2.below hb, h.f0, h.f1, h.f2, h.lo, h.de⟩
theorem JW.cells (h : JW W6 D E d0 d1 d2 u0 u1 u2 W) : (W.cell? ⟨D, 0, none⟩ = some (.int .i64 d0) ∧ W.cell? ⟨D, 1, none⟩ = some (.int .i64 d1) ∧ W.cell? ⟨D, 2, none⟩ = some (.int .i64 d2)) ∧ (W.frozen? ⟨D, 0, none⟩ = false ∧ W.frozen? ⟨D, 1, none⟩ = false ∧ W.frozen? ⟨D, 2, none⟩ = false) := by
  have hd := h.due
  unfold errs at hd
  refine ⟨⟨?_, ?_, ?_⟩, ?_, ?_, ?_⟩ <;> simp [World.cell?, World.frozen?, hd]
theorem JW.wants (h : JW W6 D E d0 d1 d2 u0 u1 u2 W) : (W.cell? ⟨E, 0, none⟩ = some (.int .i64 u0.h) ∧ W.cell? ⟨E, 1, none⟩ = some (.slice u0.p u0.l u0.c)) ∧ (W.cell? ⟨E, 2, none⟩ = some (.int .i64 u1.h) ∧ W.cell? ⟨E, 3, none⟩ = some (.slice u1.p u1.l u1.c)) ∧ (W.cell? ⟨E, 4, none⟩ = some (.int .i64 u2.h) ∧ W.cell? ⟨E, 5, none⟩ = some (.slice u2.p u2.l u2.c)) := by
  have hd := h.want
  refine ⟨⟨?_, ?_⟩, ⟨?_, ?_⟩, ?_, ?_⟩ <;> simp [World.cell?, hd]
theorem JW.thaw (h : JW W6 D E d0 d1 d2 u0 u1 u2 W) (i : Nat) : W.frozen? ⟨E, i, none⟩ = false := by simp [World.frozen?, h.want]
theorem JW.set0 (h : JW W6 D E d0 d1 d2 u0 u1 u2 W) (e : Int) : JW W6 D E e d1 d2 u0 u1 u2 (W.setCell ⟨D, 0, none⟩ (.int .i64 e)) := by
  have hd := h.due
  have hw := h.want
  have hl := h.lo
  have hde := h.de
  unfold errs at hd
  refine ⟨h.b.setCell (by simpa using hl) _, ?_, ?_, h.r0.set _ _ (fun a q => by have := h.f0 a q; simp; omega), h.r1.set _ _ (fun a q => by have := h.f1 a q; simp; omega), h.r2.set _ _ (fun a q => by have := h.f2 a q; simp; omega), h.f0, h.f1, h.f2, hl, hde⟩
  · unfold errs; simp [World.setCell, Array.getElem?_modify, hd]
  · rw [Below.heap_setCell _ _ _ _ (by simp; omega)]; exact hw
theorem JW.set1 (h : JW W6 D E d0 d1 d2 u0 u1 u2 W) (e : Int) : JW W6 D E d0 e d2 u0 u1 u2 (W.setCell ⟨D, 1, none⟩ (.int .i64 e)) := by
  have hd := h.due
  have hw := h.want
  have hl := h.lo
  have hde := h.de
  unfold errs at hd
  refine ⟨h.b.setCell (by simpa using hl) _, ?_, ?_, h.r0.set _ _ (fun a q => by have := h.f0 a q; simp; omega), h.r1.set _ _ (fun a q => by have := h.f1 a q; simp; omega), h.r2.set _ _ (fun a q => by have := h.f2 a q; simp; omega), h.f0, h.f1, h.f2, hl, hde⟩
  · unfold errs; simp [World.setCell, Array.getElem?_modify, hd]
  · rw [Below.heap_setCell _ _ _ _ (by simp; omega)]; exact hw
theorem JW.set2 (h : JW W6 D E d0 d1 d2 u0 u1 u2 W) (e : Int) : JW W6 D E d0 d1 e u0 u1 u2 (W.setCell ⟨D, 2, none⟩ (.int .i64 e)) := by
  have hd := h.due
  have hw := h.want
  have hl := h.lo
  have hde := h.de
  unfold errs at hd
  refine ⟨h.b.setCell (by simpa using hl) _, ?_, ?_, h.r0.set _ _ (fun a q => by have := h.f0 a q; simp; omega), h.r1.set _ _ (fun a q => by have := h.f1 a q; simp; omega), h.r2.set _ _ (fun a q => by have := h.f2 a q; simp; omega), h.f0, h.f1, h.f2, hl, hde⟩
  · unfold errs; simp [World.setCell, Array.getElem?_modify, hd]
  · rw [Below.heap_setCell _ _ _ _ (by simp; omega)]; exact hw
theorem reads_set2 {W : World} {p : Option Addr} {l c i j : Nat} {xs : List Int} {u v : Value} (h : Reads W (.slice p l c) xs) (hf : ∀ a, p = some a → E < a.block) : Reads ((W.setCell ⟨E, i, none⟩ u).setCell ⟨E, j, none⟩ v) (.slice p l c) xs :=
  (h.set ⟨E, i, none⟩ u (fun a e => by have := hf a e; simp; omega)).set ⟨E, j, none⟩ v (fun a e => by have := hf a e; simp; omega)
theorem JW.put0 (h : JW W6 D E d0 d1 d2 u0 u1 u2 W) (u : BX) (hr : Reads W (.slice u.p u.l u.c) u.xs) (hf : ∀ a, u.p = some a → E < a.block) : JW W6 D E d0 d1 d2 u u1 u2 ((W.setCell ⟨E, 0, none⟩ (.int .i64 u.h)).setCell ⟨E, 1, none⟩ (.slice u.p u.l u.c)) := by
  have hd := h.due
  have hw := h.want
  have hl := h.lo
  have hde := h.de
  refine ⟨(h.b.setCell (by simp; omega) _).setCell (by simp; omega) _, ?_, ?_, reads_set2 hr hf, reads_set2 h.r1 h.f1, reads_set2 h.r2 h.f2, hf, h.f1, h.f2, hl, hde⟩
  · rw [Below.heap_setCell _ _ _ _ (by simp; omega), Below.heap_setCell _ _ _ _ (by simp; omega)]; exact hd
  · simp [World.setCell, Array.getElem?_modify, hw]
theorem JW.put1 (h : JW W6 D E d0 d1 d2 u0 u1 u2 W) (u : BX) (hr : Reads W (.slice u.p u.l u.c) u.xs) (hf : ∀ a, u.p = some a → E < a.block) : JW W6 D E d0 d1 d2 u0 u u2 ((W.setCell ⟨E, 2, none⟩ (.int .i64 u.h)).setCell ⟨E, 3, none⟩ (.slice u.p u.l u.c)) := by
  have hd := h.due
  have hw := h.want
  have hl := h.lo
  have hde := h.de
  refine ⟨(h.b.setCell (by simp; omega) _).setCell (by simp; omega) _, ?_, ?_, reads_set2 h.r0 h.f0, reads_set2 hr hf, reads_set2 h.r2 h.f2, h.f0, hf, h.f2, hl, hde⟩
  · rw [Below.heap_setCell _ _ _ _ (by simp; omega), Below.heap_setCell _ _ _ _ (by simp; omega)]; exact hd
  · simp [World.setCell, Array.getElem?_modify, hw]
theorem JW.put2 (h : JW W6 D E d0 d1 d2 u0 u1 u2 W) (u : BX) (hr : Reads W (.slice u.p u.l u.c) u.xs) (hf : ∀ a, u.p = some a → E < a.block) : JW W6 D E d0 d1 d2 u0 u1 u ((W.setCell ⟨E, 4, none⟩ (.int .i64 u.h)).setCell ⟨E, 5, none⟩ (.slice u.p u.l u.c)) := by
  have hd := h.due
  have hw := h.want
  have hl := h.lo
  have hde := h.de
  refine ⟨(h.b.setCell (by simp; omega) _).setCell (by simp; omega) _, ?_, ?_, reads_set2 h.r0 h.f0, reads_set2 h.r1 h.f1, reads_set2 hr hf, h.f0, h.f1, hf, hl, hde⟩
  · rw [Below.heap_setCell _ _ _ _ (by simp; omega), Below.heap_setCell _ _ _ _ (by simp; omega)]; exact hd
  · simp [World.setCell, Array.getElem?_modify, hw]
end
end Go.Proofs.Ytjobbleabepaiaa
