/- none, gets; designs in boxes. -/
import Derived.Test.YtjobbleabepaiaaXK
import Derived.Test.YtjobbleabepaiaaVX
namespace Go.Proofs.Ytjobbleabepaiaa
open Go.RowKit

set_option maxHeartbeats 1000000 in
theorem none_any (p : Option Addr) (c : Nat) (w : World) :
    Calls Try.prog 32 #[.agg #[.int .i64 0, .slice p 0 c]] w fun e w' => e = .returned (.bool true) ∧ Below w.heap.size w w' := by
  go_enter Try.func32, Try.ntmps32
  go_wp2
  go_ret
  exact ⟨rfl, (Below.refl _ _).alloc (Nat.le_refl _) _⟩

set_option maxHeartbeats 1000000 in
theorem gets_same (h : Int) (p p2 : Option Addr) (c c2 : Nat) (xs : List Int) (w : World) (hx : Reads w (.slice p xs.length c) xs) (hy : Reads w (.slice p2 xs.length c2) xs) :
    Calls Try.prog 39 #[.agg #[.int .i64 h, .slice p xs.length c], .int .i64 0, .agg #[.int .i64 h, .slice p2 xs.length c2], .int .i64 0] w fun e w' => e = .returned (.bool true) ∧ Below w.heap.size w w' := by
  have HB2 := Lib.hid (below2 w (.cells #[.int .i64 h, .slice p xs.length c] 24) (.cells #[.int .i64 h, .slice p2 xs.length c2] 24))
  have Hs := Same_any h h p p2 c c2 xs xs _ (hx.below HB2.out) (hy.below HB2.out)
  rw [show decide (h = h ∧ xs = xs) = true by simp] at Hs
  have HS := Lib.hid Hs
  clear Hs hx hy
  go_enter Try.func39, Try.ntmps39
  go_wp2_with fail
  refine HS.out.mono ?_
  rintro e w1 ⟨rfl, hb1⟩
  have HB1 := Lib.hid (below_thru HB2.out hb1)
  clear hb1
  go_wp2
  go_ret
  exact ⟨rfl, HB1.out⟩

set_option maxHeartbeats 1000000 in
theorem gets_none (p : Option Addr) (c : Nat) (r : Int) (hr : r ≠ 0) (v : Value) (w : World) (hh : Int) (p2 : Option Addr) (l2 c2 : Nat) (hv : v = .agg #[.int .i64 hh, .slice p2 l2 c2]) :
    Calls Try.prog 39 #[.agg #[.int .i64 0, .slice p 0 c], .int .i64 r, v, .int .i64 r] w fun e w' => e = .returned (.bool true) ∧ Below w.heap.size w w' := by
  subst hv
  have hne : (r != 0) = true := by simpa using hr
  clear hr
  go_enter Try.func39, Try.ntmps39
  go_wp2_with fail
  refine (none_any p c _).mono ?_
  rintro e w1 ⟨rfl, hb1⟩
  have HB1 := Lib.hid (below_thru (below2 w _ _) hb1)
  clear hb1
  go_wp2
  go_ret
  exact ⟨rfl, HB1.out⟩

/-- a design in a box -/
structure BX where
  B : Nat
  h : Int
  p : Option Addr
  l : Nat
  c : Nat
  xs : List Int
structure BX.Ok (x : BX) (W : World) : Prop where
  a : ArgBox W x.B x.h x.p x.l x.c
  r : Reads W (.slice x.p x.l x.c) x.xs
structure Boxes (w0 : World) (L : List BX) (W : World) : Prop where
  all : ∀ x, x ∈ L → x.Ok W
  below : Below w0.heap.size w0 W
section
variable {w0 W W' : World} {L : List BX}
theorem Boxes.next (s : Boxes w0 L W) (hb : Below W.heap.size W W') : Boxes w0 L W' :=
  ⟨fun x hx => ⟨(s.all x hx).a.below hb, (s.all x hx).r.below hb⟩, s.below.trans (hb.mono s.below.size)⟩
theorem Boxes.push (s : Boxes w0 L W) (h : Int) (p : Option Addr) (l c : Nat) (xs : List Int) (hr : Reads W (.slice p l c) xs) : Boxes w0 (⟨W.heap.size, h, p, l, c, xs⟩ :: L) (W.alloc (.cells #[.int .i64 h, .slice p l c] 24)) := by
  refine ⟨fun x hx => ?_, s.below.trans ((below1 W _).mono s.below.size)⟩
  rcases List.mem_cons.1 hx with rfl | hx
  · exact ⟨ArgBox.new _ _ _ _ _, hr.below (below1 _ _)⟩
  · exact ⟨(s.all x hx).a.below (below1 _ _), (s.all x hx).r.below (below1 _ _)⟩
theorem LS.boxes {w0 : World} {B2 : Nat} {h : Int} {p p2 : Option Addr} {c c2 l : Nat} {xs : List Int} (s : LS w0 B2 h p p2 c c2 l xs W) : Boxes w0 [⟨B2, h, p2, l, c2, xs⟩, ⟨w0.heap.size, h, p, l, c, xs⟩] W := by
  refine ⟨fun x hx => ?_, s.below⟩
  simp at hx
  rcases hx with rfl | rfl
  · exact ⟨s.b, s.r2⟩
  · exact ⟨s.a, s.r⟩
theorem Boxes.of_all (s : Boxes w0 L W) {L' : List BX} (h : ∀ x, x ∈ L' → x ∈ L) : Boxes w0 L' W := ⟨fun x hx => s.all x (h x hx), s.below⟩
end
theorem reads_nil (W : World) (p : Option Addr) (c : Nat) : Reads W (.slice p 0 c) [] := ⟨p, c, rfl, by simp, fun h => by simp at h⟩
end Go.Proofs.Ytjobbleabepaiaa
namespace Go.Proofs.Ytjobbleabepaiaa
open Go.RowKit
theorem reads_len {W : World} {p : Option Addr} {l c : Nat} {xs : List Int} (h : Reads W (.slice p l c) xs) : l = xs.length := by
  obtain ⟨p', c', e, _⟩ := h
  simp at e; omega
theorem gets_reads (h : Int) (p p2 : Option Addr) (l l2 c c2 : Nat) (xs : List Int) (w : World) (hx : Reads w (.slice p l c) xs) (hy : Reads w (.slice p2 l2 c2) xs) :
    Calls Try.prog 39 #[.agg #[.int .i64 h, .slice p l c], .int .i64 0, .agg #[.int .i64 h, .slice p2 l2 c2], .int .i64 0] w fun e w' => e = .returned (.bool true) ∧ Below w.heap.size w w' := by
  obtain rfl := reads_len hx
  obtain rfl := reads_len hy
  exact gets_same h p p2 c c2 xs w hx hy
theorem blk_reads {W : World} {R : Nat} {ys : List Nat} (h : NatBlk W R ys) (hl : ys.length ≤ 1000) (c : Nat) : Reads W (.slice (some ⟨R, 0, none⟩) ys.length c) (ints ys) :=
  ⟨_, c, by rw [ints_len], by rw [ints_len]; omega, fun _ => ⟨R, 0, rfl, h.lt, h.nats.ints⟩⟩
theorem Same_reads (h : Int) (p p2 : Option Addr) (l l2 c c2 : Nat) (xs : List Int) (w : World) (hx : Reads w (.slice p l c) xs) (hy : Reads w (.slice p2 l2 c2) xs) :
    Calls Try.prog 23 #[.agg #[.int .i64 h, .slice p l c], .agg #[.int .i64 h, .slice p2 l2 c2]] w fun e w' => e = .returned (.bool true) ∧ Below w.heap.size w w' := by
  obtain rfl := reads_len hx
  obtain rfl := reads_len hy
  have := Same_any h h p p2 c c2 xs xs w hx hy
  rwa [show decide (h = h ∧ xs = xs) = true by simp] at this
theorem own_reads (h : Int) (p : Option Addr) (l c : Nat) (xs : List Int) (w : World) (hl : l ≤ 100000) (hr : Reads w (.slice p l c) xs) :
    Calls Try.prog 18 #[.agg #[.int .i64 h, .slice p l c]] w fun e w' => ∃ p2 c2, e = .returned (.agg #[.int .i64 h, .slice p2 l c2]) ∧ Reads w' (.slice p2 l c2) xs ∧ Below w.heap.size w w' := by
  obtain rfl := reads_len hr
  exact own_any h p c xs w hl hr
end Go.Proofs.Ytjobbleabepaiaa
namespace Go.Proofs.Ytjobbleabepaiaa
open Go.RowKit
theorem vat_of {W : World} {b off c n : Nat} {ys : List Nat} (h : Reads W (.slice (some ⟨b, off, none⟩) ys.length c) (ints ys)) (hv : Valid n ys) : VAt W b off c n ys := by
  obtain ⟨b', o', e, hx⟩ := vat_of_reads h hv
  simp at e
  obtain ⟨rfl, rfl⟩ := e
  exact hx
end Go.Proofs.Ytjobbleabepaiaa
