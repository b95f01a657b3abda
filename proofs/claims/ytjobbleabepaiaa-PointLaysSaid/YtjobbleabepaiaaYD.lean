/- PointLays: what its walk wants. -/
import Derived.Test.YtjobbleabepaiaaYC
import Derived.Test.YtjobbleabepaiaaXU
import Derived.Test.YtjobbleabepaiaaXR
import Derived.Deep.RegionHeld3
import Derived.KernelRfl
namespace Go.Proofs.Ytjobbleabepaiaa
open Go.RowKit Go.Shelf

/-- the world in which PointLays asks whether its designs are large -/
def lays_w (gh fh mh : Int) (gp fp mp : Option Addr) (gc fc mc gl fl ml : Nat) (w : World) : World :=
  (((w.alloc (.cells #[.int .i64 gh, .slice gp gl gc] 24)).alloc (.cells #[.int .i64 fh, .slice fp fl fc] 24)).alloc (.cells #[.int .i64 mh, .slice mp ml mc] 24)).alloc (.cells #[.int .i64 gh, .slice gp gl gc, .int .i64 fh, .slice fp fl fc, .int .i64 mh, .slice mp ml mc] 24)
theorem Boxes.add {w0 W : World} {L : List BX} (s : Boxes w0 L W) {B : Nat} {h : Int} {p : Option Addr} {l c : Nat} {xs : List Int} (a : ArgBox W B h p l c) (r : Reads W (.slice p l c) xs) : Boxes w0 (⟨B, h, p, l, c, xs⟩ :: L) W := by
  refine ⟨fun x hx => ?_, s.below⟩
  rcases List.mem_cons.1 hx with rfl | hx
  · exact ⟨a, r⟩
  · exact s.all x hx
theorem cell_row (W : World) (cs : Array Value) (t : TypeId) (B i : Nat) (v : Value) (hB : B = W.heap.size) (h : cs[i]? = some v) : (W.alloc (.cells cs t)).cell? ⟨B, i, none⟩ = some v := by
  subst hB
  have := heap_alloc_new W (.cells cs t)
  unfold World.cell?
  simp only [this]
  simpa using h
theorem len3_le {a b c : Nat} (ha : a ≤ 70) (hb : b ≤ 70) (hc : c ≤ 70) : ∀ i, i < [a, b, c].length → nthN [a, b, c] i ≤ 70 := by
  intro i hi
  match i, hi with
  | 0, _ => exact ha
  | 1, _ => exact hb
  | 2, _ => exact hc
  | j + 3, h => exact absurd (show j + 3 < 3 from h) (by omega)
theorem lays_ls (gh fh mh : Int) (gp fp mp : Option Addr) (gc fc mc gl fl ml : Nat) (w : World) : LsAt (lays_w gh fh mh gp fp mp gc fc mc gl fl ml w) (w.heap.size + 1 + 1 + 1) [gl, fl, ml] := by
  intro i hi
  unfold lays_w
  match i, hi with
  | 0, _ => exact ⟨gp, gc, cell_row _ _ _ _ _ _ (by simp) rfl⟩
  | 1, _ => exact ⟨fp, fc, cell_row _ _ _ _ _ _ (by simp) rfl⟩
  | 2, _ => exact ⟨mp, mc, cell_row _ _ _ _ _ _ (by simp) rfl⟩
  | j + 3, h => exact absurd (show j + 3 < 3 from h) (by omega)
theorem lays_start (gh fh mh : Int) (gp fp mp : Option Addr) (gc fc mc : Nat) (gx fx mx : List Int) (w : World) (hrg : Reads w (.slice gp gx.length gc) gx) (hrf : Reads w (.slice fp fx.length fc) fx) (hrm : Reads w (.slice mp mx.length mc) mx) :
    Boxes w [⟨w.heap.size + 1 + 1, mh, mp, mx.length, mc, mx⟩, ⟨w.heap.size + 1, fh, fp, fx.length, fc, fx⟩, ⟨w.heap.size, gh, gp, gx.length, gc, gx⟩] (lays_w gh fh mh gp fp mp gc fc mc gx.length fx.length mx.length w)
      ∧ LsAt (lays_w gh fh mh gp fp mp gc fc mc gx.length fx.length mx.length w) (w.heap.size + 1 + 1 + 1) [gx.length, fx.length, mx.length] := by
  have s0 : Boxes w [] w := ⟨fun x hx => by simp at hx, Below.refl _ _⟩
  have s1 := s0.push gh gp gx.length gc gx hrg
  have s2 := s1.push fh fp fx.length fc fx (hrf.below (below1 _ _))
  have s3 := s2.push mh mp mx.length mc mx ((hrm.below (below1 _ _)).below (below1 _ _))
  have s4 := s3.next (below_new1 _ (.cells #[.int .i64 gh, .slice gp gx.length gc, .int .i64 fh, .slice fp fx.length fc, .int .i64 mh, .slice mp mx.length mc] 24))
  simp only [World.size_alloc] at s4
  refine ⟨s4, ?_⟩
  intro i hi
  unfold lays_w
  match i, hi with
  | 0, _ => exact ⟨gp, gc, cell_row _ _ _ _ _ _ (by simp) rfl⟩
  | 1, _ => exact ⟨fp, fc, cell_row _ _ _ _ _ _ (by simp) rfl⟩
  | 2, _ => exact ⟨mp, mc, cell_row _ _ _ _ _ _ (by simp) rfl⟩
  | j + 3, h => exact absurd (show j + 3 < 3 from h) (by omega)
/-- a box whose design is another one -/
theorem filled_again {W : World} {D : Nat} {p : Option Addr} {c : Nat} {n : Int} {v : Value} (h : W.heap[D]? = some (.cells #[.int .i64 0, .slice p 0 c] 24 (0, 0))) :
    ((W.setCell ⟨D, 0, none⟩ (.int .i64 n)).setCell ⟨D, 1, none⟩ v).heap[D]? = some (.cells #[.int .i64 n, v] 24 (0, 0)) := by
  simp [World.setCell, Array.getElem?_modify, h]
theorem filled_reads {W : World} {D : Nat} {pr : Option Addr} {l cr : Nat} {xs : List Int} {u v : Value} (h : Reads W (.slice pr l cr) xs) (hne : ∀ a, pr = some a → D < a.block) :
    Reads ((W.setCell ⟨D, 0, none⟩ u).setCell ⟨D, 1, none⟩ v) (.slice pr l cr) xs :=
  (h.set ⟨D, 0, none⟩ u (fun a e => by have := hne a e; simp; omega)).set ⟨D, 1, none⟩ v (fun a e => by have := hne a e; simp; omega)
/-- two tables, and the boxes -/
structure TwoT (w0 : World) (L : List BX) (g1 g2 N1 N2 m : Nat) (F M : Nat → Nat → Bool) (W : World) : Prop where
  s : Boxes w0 L W
  f : TabAt W g1 N1 m F
  t : TabAt W g2 N2 m M
theorem TwoT.next {w0 W W' : World} {L : List BX} {g1 g2 N1 N2 m : Nat} {F M : Nat → Nat → Bool} (h : TwoT w0 L g1 g2 N1 N2 m F M W) (hb : Below W.heap.size W W') : TwoT w0 L g1 g2 N1 N2 m F M W' :=
  ⟨h.s.next hb, h.f.below hb, h.t.below hb⟩
end Go.Proofs.Ytjobbleabepaiaa
