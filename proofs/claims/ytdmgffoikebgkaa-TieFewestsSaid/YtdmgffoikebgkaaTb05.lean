/- bind. · Bind, where the design, the fixed points and the bound are valid. · Bind's errors: the design, the form of the fixed rows, a fixed row that is none, the bound. · Bind, where a pick cannot be bound. -/
import Derived.Test.YtdmgffoikebgkaaTb04
import Derived.Test.YtdmgffoikebgkaaTb01
import Derived.Deep.AppendLies
import Derived.Maps.AppendAt
import Derived.Deep.RegionLaw
import Derived.KernelRfl
import Derived.Test.YtdmgffoikebgkaaTb02
import Derived.LoopNIn
import Derived.Maps.OwnIn
import Derived.Sort.QuietIn
import Derived.Sort.CutIn
import Derived.Deep.DeepCutAuto
import Derived.RegionTactic
import Derived.Outline
namespace Go.Proofs.Ytdmgffoikebgkaa
section
open Go.RowKit

def bindTo (s p f m : Nat) : Nat → Nat
  | 0 => never
  | k + 1 => min (min (bindTo s p f m k) (withLeadN s p f m 0 (k + 1))) (withLeadN s p f m 1 (k + 1))
def bindN (s p f m : Nat) : Nat := bindTo s p f m (longestN s m)
/-- the best after some lifts of one lead -/
def bindMid (s p f m lead best : Nat) : Nat → Nat
  | 0 => best
  | j + 1 => min (bindMid s p f m lead best j) (withLeadN s p f m j lead)
theorem bindMid_two (s p f m k : Nat) : bindMid s p f m (k + 1) (bindTo s p f m k) 2 = bindTo s p f m (k + 1) := rfl
theorem bindTo_le (s p f m : Nat) : ∀ k, bindTo s p f m k ≤ never
  | 0 => Nat.le_refl _
  | k + 1 => by have := bindTo_le s p f m k; simp only [bindTo]; omega

set_option maxRecDepth 100000 in
set_option maxHeartbeats 2000000 in
theorem bind_any (s p f m : Nat) (w : World) (hs : 1 ≤ s) (hs2 : s ≤ 24) (hm1 : 1 ≤ m) (hm : m ≤ 24) (hp : p < 16777216) (hf : f < 16777216) :
    Calls Try.prog 141 #[bnd s p f m] w fun e w' => e = .returned (.int .i64 (bindN s p f m : Int)) ∧ Below w.heap.size w w' := by
  have hLL : longestN s m ≤ s - 1 := by unfold longestN; omega
  have HL := fun w => longest_any s p f m w hs hs2 hm
  have HW0 := fun lead w h1 h2 h3 => withLead0_any s p f m lead w h1 hs2 hm1 hm hp hf h2 h3
  have HW1 := fun lead w h1 h2 h3 => withLead1_any s p f m lead w h1 hs2 hm1 hm hp hf h2 h3
  unfold bnd at HL HW0 HW1 ⊢
  obtain ⟨W0, hW0⟩ : ∃ W0, w.alloc (.cells #[.int .i64 (s : Int), .int .i64 (p : Int), .int .i64 (f : Int), .int .i64 (m : Int)] 194) = W0 := ⟨_, rfl⟩
  have k0 : W0.cell? ⟨w.heap.size, 0, none⟩ = some (.int .i64 (s : Int)) := by rw [← hW0]; exact (cell_of_row _ _ 0 _ _ _ (World.alloc_heap_new w _)).trans rfl
  have k1 : W0.cell? ⟨w.heap.size, 1, none⟩ = some (.int .i64 (p : Int)) := by rw [← hW0]; exact (cell_of_row _ _ 1 _ _ _ (World.alloc_heap_new w _)).trans rfl
  have k2 : W0.cell? ⟨w.heap.size, 2, none⟩ = some (.int .i64 (f : Int)) := by rw [← hW0]; exact (cell_of_row _ _ 2 _ _ _ (World.alloc_heap_new w _)).trans rfl
  have k3 : W0.cell? ⟨w.heap.size, 3, none⟩ = some (.int .i64 (m : Int)) := by rw [← hW0]; exact (cell_of_row _ _ 3 _ _ _ (World.alloc_heap_new w _)).trans rfl
  have z0 : W0.heap.size = w.heap.size + 1 := by rw [← hW0]; simp
  have hB0 : Below w.heap.size w W0 := by rw [← hW0]; exact (Below.refl _ _).alloc (Nat.le_refl _) _
  have HC : Hid (∀ W, Below W0.heap.size W0 W → W.cell? ⟨w.heap.size, 0, none⟩ = some (.int .i64 (s : Int)) ∧ W.cell? ⟨w.heap.size, 1, none⟩ = some (.int .i64 (p : Int)) ∧ W.cell? ⟨w.heap.size, 2, none⟩ = some (.int .i64 (f : Int)) ∧ W.cell? ⟨w.heap.size, 3, none⟩ = some (.int .i64 (m : Int))) := Lib.hid (fun W hB => by
    have e : ∀ j, W.cell? ⟨w.heap.size, j, none⟩ = W0.cell? ⟨w.heap.size, j, none⟩ := fun j => hB.cell (p := ⟨w.heap.size, j, none⟩) (by rw [z0]; show w.heap.size < _; omega)
    exact ⟨(e 0).trans k0, (e 1).trans k1, (e 2).trans k2, (e 3).trans k3⟩)
  have HB0 := Lib.hid hB0
  clear z0 hB0 k0 k1 k2 k3
  go_enter Try.func141, Try.ntmps141
  go_wp2_with fail
  clear hW0
  go_loopw [3, 4] (fun bv lv wr => ∃ k : Nat, k ≤ longestN s m ∧ lv = .int .i64 ((k + 1 : Nat) : Int) ∧ bv = .int .i64 (bindTo s p f m k : Int) ∧ Below W0.heap.size W0 wr) (fun _ lv _ => longestN s m + 1 - (intOf lv).toNat)
  case atStart => exact ⟨0, Nat.zero_le _, rfl, rfl, Below.refl _ _⟩
  case round =>
    obtain ⟨k, hk, rfl, rfl, hB⟩ := hrel
    obtain ⟨c0, c1, c2, c3⟩ := HC.out _ hB
    have HB := Lib.hid hB
    clear hB
    obtain ⟨lead, hld⟩ : ∃ lead, lead = k + 1 := ⟨_, rfl⟩
    rw [← hld]
    have Hld := Lib.hid hld
    have hl1 : 1 ≤ lead := by omega
    have hl2 : lead ≤ longestN s m + 1 := by omega
    clear hld
    go_wp2_with fail
    refine (HL _).mono ?_
    rintro e w1 ⟨rfl, hb1⟩
    have HB1 := Lib.hid (HB.out.trans (hb1.mono HB.out.size))
    clear hb1 c0 c1 c2 c3
    by_cases hle : lead ≤ longestN s m
    · go_wp2_with fail
      go_loopw [3, 5, 12] (fun bv _ i wr => ∃ j : Nat, j ≤ 2 ∧ i = .int .i64 j ∧ bv = .int .i64 (bindMid s p f m lead (bindTo s p f m k) j : Int) ∧ Below W0.heap.size W0 wr) (fun _ _ i _ => 2 - (intOf i).toNat)
      case atStart => exact ⟨0, by omega, rfl, rfl, HB1.out⟩
      case round =>
        obtain ⟨j, hj, rfl, rfl, hB⟩ := hrel
        obtain ⟨c0, c1, c2, c3⟩ := HC.out _ hB
        have HB := Lib.hid hB
        clear hB
        rcases (show j = 0 ∨ j = 1 ∨ j = 2 by omega) with rfl | rfl | rfl
        · obtain ⟨A, hA⟩ : ∃ A, A = bindMid s p f m lead (bindTo s p f m k) 0 := ⟨_, rfl⟩
          rw [← hA]
          have HA := Lib.hid hA
          clear hA
          go_wp2_with fail
          refine (HW0 lead _ (by omega) hl1 hle).mono ?_
          rintro e w2 ⟨rfl, hb2⟩
          have HB2 := Lib.hid (HB.out.trans (hb2.mono HB.out.size))
          clear hb2
          obtain ⟨X, hX⟩ : ∃ X, X = withLeadN s p f m 0 lead := ⟨_, rfl⟩
          rw [← hX]
          have HX := Lib.hid hX
          clear hX
          go_wp2
          refine ⟨⟨1, by omega, rfl, ?_, HB2.out⟩, by simp [intOf]⟩
          rw [bindMid, ← HA.out, ← HX.out]
          congr 1
          split <;> omega
        · obtain ⟨A, hA⟩ : ∃ A, A = bindMid s p f m lead (bindTo s p f m k) 1 := ⟨_, rfl⟩
          rw [← hA]
          have HA := Lib.hid hA
          clear hA
          go_wp2_with fail
          refine (HW1 lead _ (by omega) hl1 hle).mono ?_
          rintro e w2 ⟨rfl, hb2⟩
          have HB2 := Lib.hid (HB.out.trans (hb2.mono HB.out.size))
          clear hb2
          obtain ⟨X, hX⟩ : ∃ X, X = withLeadN s p f m 1 lead := ⟨_, rfl⟩
          rw [← hX]
          have HX := Lib.hid hX
          clear hX
          go_wp2
          refine ⟨⟨2, by omega, rfl, ?_, HB2.out⟩, by simp [intOf]⟩
          rw [bindMid, ← HA.out, ← HX.out]
          congr 1
          split <;> omega
        · go_wp2
          go_roundw
          case rel => exact ⟨k + 1, by have := Hld.out; omega, by rw [show ((k + 1 + 1 : Nat) : Int) = (lead : Int) + 1 by have := Hld.out; omega], by rw [Hld.out, bindMid_two], HB.out⟩
          case measure => simp [intOf]; omega
    · have hke : k = longestN s m := by have := Hld.out; omega
      have Hke := Lib.hid hke
      clear hke
      go_wp2
      go_ret
      exact ⟨ret_int (by unfold bindN; rw [Hke.out]), HB0.out.trans (HB1.out.mono HB0.out.size)⟩
end
end Go.Proofs.Ytdmgffoikebgkaa
namespace Go.Proofs.Ytdmgffoikebgkaa
section
open Go.RowKit

/-- a result of a design that is filled: its hooks, and a slice -/
def RBox (W : World) (B n : Nat) (v : Value) : Prop := W.heap[B]? = some (.cells #[.int .i64 (n : Int), v] 37 (0, 0))
theorem RBox.lt {W : World} {B n : Nat} {v : Value} (h : RBox W B n v) : B < W.heap.size := (Array.getElem?_eq_some_iff.1 h).1
theorem RBox.c0 {W : World} {B n : Nat} {v : Value} (h : RBox W B n v) : W.cell? ⟨B, 0, none⟩ = some (.int .i64 (n : Int)) := by simp [World.cell?, show W.heap[B]? = _ from h]
theorem RBox.c1 {W : World} {B n : Nat} {v : Value} (h : RBox W B n v) : W.cell? ⟨B, 1, none⟩ = some v := by simp [World.cell?, show W.heap[B]? = _ from h]
theorem RBox.f {W : World} {B n : Nat} {v : Value} (h : RBox W B n v) (j : Nat) : W.frozen? ⟨B, j, none⟩ = false := by simp [World.frozen?, show W.heap[B]? = _ from h]
theorem RBox.set1 {W : World} {B n : Nat} {v : Value} (h : RBox W B n v) (v' : Value) : RBox (W.setCell ⟨B, 1, none⟩ v') B n v' := by
  have hl := h.lt
  unfold RBox at h ⊢
  simp [World.setCell, Array.getElem?_modify, h]
theorem RBox.of_res {W : World} {B : Nat} (h : ResBox W B) (n : Nat) : RBox (W.setCell ⟨B, 0, none⟩ (.int .i64 (n : Int))) B n (.slice none 0 0) := by
  have hl := h.lt
  unfold ResBox at h
  unfold RBox
  simp [World.setCell, Array.getElem?_modify, h]
theorem RBox.not_row {W : World} {B n : Nat} {u : Value} (h : RBox W B n u) {base size k e : Nat} {v : Value} {xs : List Value} (he : (37 : Nat) ≠ e) (hr : W.ownsRow base e size v k xs) : some B ≠ v.ownBlock := by
  intro hb
  obtain ⟨_, ⟨rfl, _⟩ | ⟨g, cap, cur, rfl, _, hg, _⟩⟩ := hr
  · simp [Value.ownBlock] at hb
  · simp [Value.ownBlock] at hb
    subst hb
    rw [h] at hg
    simp at hg
    exact he hg.2

/-- the rows that Bind has so far -/
def bindRows (n m : Nat) (xs fs : List Nat) (k : Nat) : List Nat := (List.range k).map fun i => bindN n (nthN xs i) (nthN fs i) m % 16777216
def bindSum (n m : Nat) (xs fs : List Nat) : Nat → Nat
  | 0 => 0
  | k + 1 => bindSum n m xs fs k + bindN n (nthN xs k) (nthN fs k) m / 16777216
theorem bindRows_succ (n m : Nat) (xs fs : List Nat) (k : Nat) : bindRows n m xs fs (k + 1) = bindRows n m xs fs k ++ [bindN n (nthN xs k) (nthN fs k) m % 16777216] := by
  simp [bindRows, List.range_succ]
theorem bindRows_len (n m : Nat) (xs fs : List Nat) (k : Nat) : (bindRows n m xs fs k).length = k := by simp [bindRows]
theorem bindN_le (s p f m : Nat) : bindN s p f m ≤ never := bindTo_le s p f m _
theorem bindSum_le (n m : Nat) (xs fs : List Nat) : ∀ k, bindSum n m xs fs k ≤ k * 25
  | 0 => by simp [bindSum]
  | k + 1 => by
    have h1 := bindSum_le n m xs fs k
    have h2 := bindN_le n (nthN xs k) (nthN fs k) m
    have h3 : bindN n (nthN xs k) (nthN fs k) m / 16777216 ≤ 25 := by unfold never at h2; omega
    simp only [bindSum]; omega

theorem bindSum_cast (n m : Nat) (xs fs : List Nat) (k C : Nat) (hC : C = bindN n (nthN xs k) (nthN fs k) m) : (bindSum n m xs fs k : Int) + (C : Int) / 16777216 = (bindSum n m xs fs (k + 1) : Int) := by
  subst hC
  simp only [bindSum]
  omega

/-- what Bind keeps between two picks -/
structure BindAt (w0 : World) (n b off c : Nat) (xs rows : List Nat) (v : Value) (W : World) : Prop where
  d : DBox W w0.heap.size n b off c xs
  r : RBox W (w0.heap.size + 1) n v
  row : W.ownsRow (w0.heap.size + 1 + 1) 3 1 v rows.length (rows.map natV)
  below : Below w0.heap.size w0 W
theorem BindAt.next {w0 : World} {n b off c : Nat} {xs rows : List Nat} {v : Value} {W W' : World} (h : BindAt w0 n b off c xs rows v W) (hb : Below W.heap.size W W') : BindAt w0 n b off c xs rows v W' := by
  refine ⟨h.d.below hb h.d.lt, (hb.block _ h.r.lt).trans h.r, ?_, h.below.trans (hb.mono h.below.size)⟩
  obtain ⟨hl, h2⟩ := h.row
  refine ⟨hl, ?_⟩
  rcases h2 with h2 | ⟨g, cap, cur, e, hg, hh, r⟩
  · exact .inl h2
  · exact .inr ⟨g, cap, cur, e, hg, (hb.block _ (Array.getElem?_eq_some_iff.1 hh).1).trans hh, r⟩
theorem BindAt.drew {w0 : World} {n b off c : Nat} {xs rows : List Nat} {v : Value} {W : World} (h : BindAt w0 n b off c xs rows v W) : BindAt w0 n b off c xs rows v W.drew := h.next (below_drew1 W)

theorem ownsRow_far {W : World} {base e size k : Nat} {v : Value} {xs : List Value} (h : W.ownsRow base e size v k xs) {j : Nat} (hj : j < base) : some j ≠ v.ownBlock := by
  obtain ⟨_, ⟨rfl, _⟩ | ⟨g, cap, cur, rfl, hg, _⟩⟩ := h
  · simp [Value.ownBlock]
  · intro hb
    simp [Value.ownBlock] at hb
    omega
theorem BindAt.grew {w0 : World} {n b off c : Nat} {xs rows rows' : List Nat} {v v' : Value} {W w5 : World} (h : BindAt w0 n b off c xs rows v W) (hg : W.grownBy w5 v.ownBlock)
    (hown : w5.ownsRow (w0.heap.size + 1 + 1) 3 1 v' rows'.length (rows'.map natV)) : BindAt w0 n b off c xs rows' v' (w5.setCell ⟨w0.heap.size + 1, 1, none⟩ v') := by
  have hl := h.r.lt
  have hd := hg.block w0.heap.size (by omega) (ownsRow_far h.row (by omega))
  have hr := hg.block (w0.heap.size + 1) (by omega) (ownsRow_far h.row (by omega))
  have e : ∀ j, (w5.setCell ⟨w0.heap.size + 1, 1, none⟩ v').cell? ⟨w0.heap.size, j, none⟩ = W.cell? ⟨w0.heap.size, j, none⟩ := fun j =>
    (World.cell?_of_block (w := w5) (Below.heap_setCell _ _ _ _ (by simp))).trans (World.cell?_of_block (w := W) hd)
  have hr5 : RBox w5 (w0.heap.size + 1) n v := hr.trans h.r
  refine ⟨⟨(e 0).trans h.d.c0, (e 1).trans h.d.c1⟩, hr5.set1 v', ?_, ?_⟩
  · obtain ⟨hl, h2⟩ := hown
    refine ⟨hl, ?_⟩
    rcases h2 with h2 | ⟨g, cap, cur, e, hg, hh, r⟩
    · exact .inl h2
    · exact .inr ⟨g, cap, cur, e, hg, (Below.heap_setCell _ _ _ _ (by simp; omega)).trans hh, r⟩
  · exact (h.below.grown hg (by omega) (fun k hk => by
      by_cases hlt : k < w0.heap.size + 1 + 1
      · exact absurd hk.symm (ownsRow_far h.row hlt)
      · omega)).setCell (by simp) _

theorem RBox.set0 {W : World} {B n : Nat} {v : Value} (h : RBox W B n v) : RBox (W.setCell ⟨B, 0, none⟩ (.int .i64 (n : Int))) B n v := by
  have hl := h.lt
  unfold RBox at h ⊢
  simp [World.setCell, Array.getElem?_modify, h]
theorem BindAt.put {w0 : World} {n b off c : Nat} {xs rows : List Nat} {v : Value} {W : World} (h : BindAt w0 n b off c xs rows v W) {j : Nat} {u : Value} (hr : RBox (W.setCell ⟨w0.heap.size + 1, j, none⟩ u) (w0.heap.size + 1) n v) :
    BindAt w0 n b off c xs rows v (W.setCell ⟨w0.heap.size + 1, j, none⟩ u) := by
  have e : ∀ i, (W.setCell ⟨w0.heap.size + 1, j, none⟩ u).cell? ⟨w0.heap.size, i, none⟩ = W.cell? ⟨w0.heap.size, i, none⟩ := fun i => World.cell?_of_block (w := W) (Below.heap_setCell _ _ _ _ (by simp))
  refine ⟨⟨(e 0).trans h.d.c0, (e 1).trans h.d.c1⟩, hr, ?_, h.below.setCell (by simp) _⟩
  obtain ⟨hl, h2⟩ := h.row
  refine ⟨hl, ?_⟩
  rcases h2 with h2 | ⟨g, cap, cur, e, hg, hh, r⟩
  · exact .inl h2
  · exact .inr ⟨g, cap, cur, e, hg, (Below.heap_setCell _ _ _ _ (by simp; omega)).trans hh, r⟩
theorem BindAt.set0 {w0 : World} {n b off c : Nat} {xs rows : List Nat} {v : Value} {W : World} (h : BindAt w0 n b off c xs rows v W) : BindAt w0 n b off c xs rows v (W.setCell ⟨w0.heap.size + 1, 0, none⟩ (.int .i64 (n : Int))) := h.put h.r.set0
theorem BindAt.set1 {w0 : World} {n b off c : Nat} {xs rows : List Nat} {v : Value} {W : World} (h : BindAt w0 n b off c xs rows v W) : BindAt w0 n b off c xs rows v (W.setCell ⟨w0.heap.size + 1, 1, none⟩ v) := h.put (h.r.set1 v)

set_option maxRecDepth 100000 in
set_option maxHeartbeats 4000000 in
theorem Bind_ok (n b off c fb fo fc m : Nat) (xs fs : List Nat) (w : World) (hv : VAt w b off c n xs) (hfl : fs.length = xs.length) (hfat : NatsAt w fb fo fs) (hfb : fb < w.heap.size) (hff : ∀ i, nthN fs i < 2 ^ n) (hm1 : 1 ≤ m) (hm : m ≤ 24)
    (hall : ∀ i, i < xs.length → bindN n (nthN xs i) (nthN fs i) m < never) :
    Calls Try.prog 69 #[.agg #[.int .i64 (n : Int), .slice (some ⟨b, off, none⟩) xs.length c], .slice (some ⟨fb, fo, none⟩) xs.length fc, .int .i64 (m : Int)] w
      fun e w' => ∃ v, e = .returned (.tuple #[.agg #[.int .i64 (n : Int), v], .int .i64 (bindSum n m xs fs xs.length : Int), .int .i64 0]) ∧ w'.ownsRow w.heap.size 3 1 v xs.length ((bindRows n m xs fs xs.length).map natV) ∧ Below w.heap.size w w' := by
  have Hc := fun o o2 => check_res n (some ⟨b, off, none⟩) c (ints xs) w o o2 (by rw [ints_len]; exact hv.reads) 0 hv.ok.check
  simp only [ints_len] at Hc
  have n0 := hv.ok.n0
  have n1 := hv.ok.n1
  have l0 := hv.ok.l0
  have l1 := hv.ok.l1
  have Har : ∀ W, Below w.heap.size w W → Calls Try.prog 138 #[.int .i64 (n : Int), .slice (some ⟨fb, fo, none⟩) xs.length fc] W fun e w' => e = .returned (.bool true) ∧ W = w' := fun W hB => by
    have h1 := areRows_any n fb fo fc (ints fs) W n1 (by rw [ints_len]; omega) ((hfat.below hB hfb).ints)
    rw [ints_len, hfl] at h1
    have h2 : rowsOk n (ints fs) = true := by
      unfold rowsOk ints
      rw [List.all_eq_true]
      intro x hx
      obtain ⟨y, hy, rfl⟩ := List.mem_map.1 hx
      obtain ⟨i, hi, rfl⟩ := List.mem_iff_getElem.1 hy
      have := hff i
      rw [nthN_get _ _ hi] at this
      have e : (2 : Int) ^ n = ((2 ^ n : Nat) : Int) := (Int.natCast_pow 2 n).symm
      rw [e]
      simp
      exact_mod_cast this
    rw [h2] at h1
    exact h1
  have Hib := fun W => isBound_any (m : Int) W
  have hbd : (decide (1 ≤ (m : Int)) && decide ((m : Int) ≤ 24)) = true := by simp; omega
  rw [hbd] at Hib
  have HV := Lib.hid hv
  have HA := Lib.hid hall
  have HF := Lib.hid hfat
  have Hfl := Lib.hid hfl
  have HFF := Lib.hid hff
  clear hv hall hfat hfl hff hbd
  go_enter Try.func69, Try.ntmps69
  go_wp2_with fail
  refine (Hc _ _).mono ?_
  rintro e w1 ⟨rfl, hb1⟩
  obtain ⟨q, hD, hB⟩ := res_facts hb1
  have d0 := hD.c0
  have d1 := hD.c1
  have k0 := q.c0
  have k2 := q.f 0
  have Hq := Lib.hid q
  have Hd := Lib.hid hD
  have Hb := Lib.hid hB
  clear hb1 q hB hD
  go_wp2_with fail
  refine (Har _ Hb.out).mono ?_
  rintro e w2 ⟨rfl, rfl⟩
  go_wp2_with fail
  refine (Hib _).mono ?_
  rintro e w2 ⟨rfl, rfl⟩
  go_wp2_with fail
  have hS : BindAt w n b off c xs (bindRows n m xs fs 0) (.slice none 0 0) (w1.setCell ⟨w.heap.size + 1, 0, none⟩ (.int .i64 (n : Int))) := by
    have e : ∀ j, (w1.setCell ⟨w.heap.size + 1, 0, none⟩ (.int .i64 (n : Int))).cell? ⟨w.heap.size, j, none⟩ = w1.cell? ⟨w.heap.size, j, none⟩ := fun j => World.cell?_of_block (w := w1) (Below.heap_setCell _ _ _ _ (by simp))
    exact ⟨⟨(e 0).trans d0, (e 1).trans d1⟩, RBox.of_res Hq.out n, World.ownsRow_nil _ _ _ _, Hb.out.setCell (by simp) _⟩
  obtain ⟨W2, hW2⟩ : ∃ W2, W2 = w1.setCell ⟨w.heap.size + 1, 0, none⟩ (.int .i64 (n : Int)) := ⟨_, rfl⟩
  rw [← hW2] at hS ⊢
  have HS := Lib.hid hS
  clear hW2 hS d0 d1 k0 k2 Hq Hd Hb
  go_loopw [7, 42] (fun cv i wr => ∃ k : Nat, k ≤ xs.length ∧ i = .int .i64 k ∧ cv = .int .i64 (bindSum n m xs fs k : Int) ∧ ∃ v, BindAt w n b off c xs (bindRows n m xs fs k) v wr) (fun _ i _ => xs.length - (intOf i).toNat)
  case atStart => exact ⟨0, Nat.zero_le _, rfl, rfl, _, HS.out⟩
  case round =>
    obtain ⟨k, hk, rfl, rfl, v, hT⟩ := hrel
    have d0 := hT.d.c0
    have d1 := hT.d.c1
    have HT := Lib.hid hT
    clear hT
    by_cases hlt : k < xs.length
    · have hf := (HF.out.below HT.out.below hfb) k (by have := Hfl.out; omega)
      have hk0 : (0 : Int) ≤ (k : Int) := by omega
      have hk1 : (k : Int) < (xs.length : Int) := by omega
      have Hpk := fun W (h : Below w.heap.size w W) => pick_any n b off c xs k W (HV.out.below h).lt (by omega) (HV.out.below h).at' hlt
      have hfk : nthN fs k < 16777216 := Nat.lt_of_lt_of_le (HFF.out k) (Nat.le_trans (Nat.pow_le_pow_right (by decide) n1) (by decide))
      have Hbn := fun W => bind_any n (nthN xs k) (nthN fs k) m W n0 n1 hm1 hm (HV.out.ok.lt' k) hfk
      unfold bnd at Hbn
      have hlf : fb < w.heap.size := hfb
      have HK : Hid (∀ W, BindAt w n b off c xs (bindRows n m xs fs k) v W → W.cell? ⟨w.heap.size, 0, none⟩ = some (.int .i64 (n : Int)) ∧ W.cell? ⟨w.heap.size, 1, none⟩ = some (.slice (some ⟨b, off, none⟩) xs.length c) ∧ W.cell? ⟨fb, fo + k, none⟩ = some (.int .i64 (nthN fs k : Int)) ∧ BindAt w n b off c xs (bindRows n m xs fs k) v W) :=
        Lib.hid (fun W h => ⟨h.d.c0, h.d.c1, (HF.out.below h.below hfb) k (by have := Hfl.out; omega), h⟩)
      have HTd := Lib.hid HT.out.drew
      clear hfk
      go_wp2_with fail
      go_region_held3 (fun w' => w'.cell? ⟨w.heap.size, 0, none⟩ = some (.int .i64 (n : Int)) ∧ w'.cell? ⟨w.heap.size, 1, none⟩ = some (.slice (some ⟨b, off, none⟩) xs.length c) ∧ w'.cell? ⟨fb, fo + k, none⟩ = some (.int .i64 (nthN fs k : Int)) ∧ BindAt w n b off c xs (bindRows n m xs fs k) v w')
        (first | exact HK.out _ HTd.out | (refine HK.out _ (BindAt.next ?_ (by assumption)); go_split_ands; assumption))
        (first | (go_at_call 140; (with_reducible refine (Hpk _ ?_).mono ?_); rotate_left 1; rintro e w3 ⟨rfl, hb3⟩; rotate_left 1; (first | exact HTd.out.below | (go_split_ands; exact BindAt.below (by assumption)))) | (go_at_call 141; (with_reducible refine (Hbn _).mono ?_); rintro e w4 ⟨rfl, hb4⟩))
      have hT4 : BindAt w n b off c xs (bindRows n m xs fs k) v w4 := by go_split_ands; assumption
      obtain ⟨C, hC⟩ : ∃ C, C = bindN n (nthN xs k) (nthN fs k) m := ⟨_, rfl⟩
      rw [← hC]
      have hCn : (C : Int) < 419430400 := by have := HA.out k hlt; rw [← hC] at this; unfold never at this; omega
      have hCge : decide ((419430400 : Int) ≤ (C : Int)) = false := by simp; omega
      have hCb : C < 9223372036854775808 := by omega
      have HC' := Lib.hid hC
      have HT4 := Lib.hid hT4
      have Hcr := fun W => choiceRow_any C W hCb
      have Hcc := fun W => choiceChanges_any C W hCb
      have f0 := hT4.r.c1
      have f1 := hT4.r.f 1
      have hzz : w.heap.size + 1 < w4.heap.size := hT4.r.lt
      obtain ⟨i0, hi, hz0, hz1, hz2⟩ := info_parts Try.info3
      have hrl : (bindRows n m xs fs k).length = k := bindRows_len n m xs fs k
      have HRow := Lib.hid hT4.row
      have Hrl := Lib.hid hrl
      clear hC hT4 hf d0 d1 hrl hb3 hb4
      have hsz4 : w.heap.size + 1 + 1 ≤ w4.heap.size := hzz
      have hnr : some (w.heap.size + 1) ≠ v.ownBlock := HT4.out.r.not_row (by decide) HRow.out
      have hn25 : k + 1 ≤ maxLen := by unfold maxLen; omega
      have hCmod : C % 16777216 < 16777216 := Nat.mod_lt _ (by decide)
      go_wp2_with fail
      go_region_law
        (first
          | (go_simp; go_at_call 142; (with_reducible refine (Hcr _).mono ?_); rintro e w5 ⟨rfl, rfl⟩)
          | ((refine step_append_lies _ (by rfl) _ _ _ (by rfl) (w.heap.size + 1 + 1) 3 i0 _ 1 8 Try.underlying24 hi hz0 hz1 hz2 rfl (by omega) v (bindRows n m xs fs k).length ((bindRows n m xs fs k).map natV) (by rfl) ((HRow.out.alloc _).drew)
                  ⟨w4.heap.size, 0, none⟩ 1 1 [.int .i64 ((C % 16777216 : Nat) : Int)] (by rfl) (by rfl) (World.news_of_block (cs := #[.int .i64 ((C % 16777216 : Nat) : Int)]) (t := 3) (fr := (0, 0)) (heap_alloc_new w4 _)) (by simp [Value.oneCell'])
                  (by omega) (by rw [Hrl.out]; exact hn25) (by rw [Hrl.out]; omega) (by simp; omega) (w4.heap.size + 1) (by simp) ?_; intro g cap w5 hown1 hgrow hat hglt)
             have hBA := (HT4.out.next (((Below.refl w4.heap.size w4).alloc (Nat.le_refl _) (.cells #[.int .i64 ((C % 16777216 : Nat) : Int)] 3)).drew)).grew (rows' := bindRows n m xs fs k ++ [C % 16777216]) hgrow (by rw [List.length_append, List.length_singleton, List.map_append]; exact hown1)
             have hr5 : RBox w5 (w.heap.size + 1) n v := (hgrow.block _ (by simp; omega) hnr).trans ((Below.heap_alloc _ _ _ hzz).trans HT4.out.r)
             have f5 := hr5.f 1
             have c5 := hr5.c1
             have HBA := Lib.hid hBA
             clear hBA hr5 hown1 hgrow hat))
      all_goals
        (obtain ⟨W5, hW5⟩ : ∃ W5, W5 = w5.setCell ⟨w.heap.size + 1, 1, none⟩ (.slice (some ⟨g, 0, none⟩) ((bindRows n m xs fs k).length + 1) cap) := ⟨_, rfl⟩
         rw [← hW5] at HBA ⊢
         clear hW5 f5 c5
         have hS1 := bindSum_le n m xs fs k
         have hS2 : k * 25 ≤ 1500 := by omega
         have hS3 : C / 16777216 ≤ 25 := by omega
         go_wp2_with fail
         refine (Hcc _).mono ?_
         rintro e w6 ⟨rfl, rfl⟩
         go_wp2_with fail)
      all_goals
        (refine ⟨⟨k + 1, by omega, by go_num, ?_, _, by rw [bindRows_succ, ← HC'.out]; exact HBA.out⟩, ?_⟩
         · exact congrArg (Value.int .i64) (bindSum_cast n m xs fs k C HC'.out)
         · simp [intOf]; omega)
    · obtain rfl : k = xs.length := by omega
      obtain ⟨p, a0, c0, rfl⟩ : ∃ p a c, v = .slice p a c := by
        obtain ⟨_, ⟨h, _⟩ | ⟨g, cap, cur, h, _⟩⟩ := HT.out.row
        · exact ⟨_, _, _, h⟩
        · exact ⟨_, _, _, h⟩
      have f0 := HT.out.r.c0
      have f1 := HT.out.r.c1
      have g0 := HT.out.r.f 0
      have g1 := HT.out.r.f 1
      have HT1 := Lib.hid HT.out.set0
      have g2 := HT1.out.r.f 1
      have g3 := HT1.out.r.c1
      have HT2 := Lib.hid HT1.out.set1
      go_wp2_with fail
      have z0 := HT2.out.r.c0
      have z1 := HT2.out.r.c1
      refine bodyPost_ret (v := .tuple #[.agg #[.int .i64 (n : Int), .slice p a0 c0], .int .i64 (bindSum n m xs fs xs.length : Int), .int .i64 0]) ?_ rfl ⟨_, rfl, ?_, HT2.out.below⟩
      · simp [results, Try.results69, go_sem, z0, z1]
      have hrow := HT2.out.row
      rw [bindRows_len] at hrow
      obtain ⟨hl, h2⟩ := hrow
      refine ⟨hl, ?_⟩
      rcases h2 with h2 | ⟨g, cap, cur, e, hg, hh, r⟩
      · exact .inl h2
      · exact .inr ⟨g, cap, cur, e, by omega, hh, r⟩
end
end Go.Proofs.Ytdmgffoikebgkaa
namespace Go.Proofs.Ytdmgffoikebgkaa
section
open Go.RowKit

def ErrB (r : Int) (w : World) (e : Ending) (w' : World) : Prop := e = .returned (.tuple #[.agg #[.int .i64 0, .slice none 0 0], .int .i64 0, .int .i64 r]) ∧ Below w.heap.size w w'

end
end Go.Proofs.Ytdmgffoikebgkaa
namespace Go.Proofs.Ytdmgffoikebgkaa
section
open Go.RowKit

set_option maxRecDepth 100000 in
set_option maxHeartbeats 4000000 in
theorem Bind_nev (k0 n b off c fb fo fc m : Nat) (xs fs : List Nat) (w : World) (hv : VAt w b off c n xs) (hfl : fs.length = xs.length) (hfat : NatsAt w fb fo fs) (hfb : fb < w.heap.size) (hff : ∀ i, nthN fs i < 2 ^ n) (hm1 : 1 ≤ m) (hm : m ≤ 24)
    (hk0l : k0 < xs.length) (hall : ∀ i, i < k0 → bindN n (nthN xs i) (nthN fs i) m < never) (hnev : bindN n (nthN xs k0) (nthN fs k0) m = never) :
    Calls Try.prog 69 #[.agg #[.int .i64 (n : Int), .slice (some ⟨b, off, none⟩) xs.length c], .slice (some ⟨fb, fo, none⟩) xs.length fc, .int .i64 (m : Int)] w (ErrB 9 w) := by
  have Hc := fun o o2 => check_res n (some ⟨b, off, none⟩) c (ints xs) w o o2 (by rw [ints_len]; exact hv.reads) 0 hv.ok.check
  simp only [ints_len] at Hc
  have n0 := hv.ok.n0
  have n1 := hv.ok.n1
  have l0 := hv.ok.l0
  have l1 := hv.ok.l1
  have Har : ∀ W, Below w.heap.size w W → Calls Try.prog 138 #[.int .i64 (n : Int), .slice (some ⟨fb, fo, none⟩) xs.length fc] W fun e w' => e = .returned (.bool true) ∧ W = w' := fun W hB => by
    have h1 := areRows_any n fb fo fc (ints fs) W n1 (by rw [ints_len]; omega) ((hfat.below hB hfb).ints)
    rw [ints_len, hfl] at h1
    have h2 : rowsOk n (ints fs) = true := by
      unfold rowsOk ints
      rw [List.all_eq_true]
      intro x hx
      obtain ⟨y, hy, rfl⟩ := List.mem_map.1 hx
      obtain ⟨i, hi, rfl⟩ := List.mem_iff_getElem.1 hy
      have := hff i
      rw [nthN_get _ _ hi] at this
      have e : (2 : Int) ^ n = ((2 ^ n : Nat) : Int) := (Int.natCast_pow 2 n).symm
      rw [e]
      simp
      exact_mod_cast this
    rw [h2] at h1
    exact h1
  have Hib := fun W => isBound_any (m : Int) W
  have hbd : (decide (1 ≤ (m : Int)) && decide ((m : Int) ≤ 24)) = true := by simp; omega
  rw [hbd] at Hib
  have HV := Lib.hid hv
  have HA := Lib.hid hall
  have HF := Lib.hid hfat
  have Hfl := Lib.hid hfl
  have HFF := Lib.hid hff
  clear hv hall hfat hfl hff hbd
  go_enter Try.func69, Try.ntmps69
  go_wp2_with fail
  refine (Hc _ _).mono ?_
  rintro e w1 ⟨rfl, hb1⟩
  obtain ⟨q, hD, hB⟩ := res_facts hb1
  have d0 := hD.c0
  have d1 := hD.c1
  have k0 := q.c0
  have k2 := q.f 0
  have Hq := Lib.hid q
  have Hd := Lib.hid hD
  have Hb := Lib.hid hB
  clear hb1 q hB hD
  go_wp2_with fail
  refine (Har _ Hb.out).mono ?_
  rintro e w2 ⟨rfl, rfl⟩
  go_wp2_with fail
  refine (Hib _).mono ?_
  rintro e w2 ⟨rfl, rfl⟩
  go_wp2_with fail
  have hS : BindAt w n b off c xs (bindRows n m xs fs 0) (.slice none 0 0) (w1.setCell ⟨w.heap.size + 1, 0, none⟩ (.int .i64 (n : Int))) := by
    have e : ∀ j, (w1.setCell ⟨w.heap.size + 1, 0, none⟩ (.int .i64 (n : Int))).cell? ⟨w.heap.size, j, none⟩ = w1.cell? ⟨w.heap.size, j, none⟩ := fun j => World.cell?_of_block (w := w1) (Below.heap_setCell _ _ _ _ (by simp))
    exact ⟨⟨(e 0).trans d0, (e 1).trans d1⟩, RBox.of_res Hq.out n, World.ownsRow_nil _ _ _ _, Hb.out.setCell (by simp) _⟩
  obtain ⟨W2, hW2⟩ : ∃ W2, W2 = w1.setCell ⟨w.heap.size + 1, 0, none⟩ (.int .i64 (n : Int)) := ⟨_, rfl⟩
  rw [← hW2] at hS ⊢
  have HS := Lib.hid hS
  clear hW2 hS d0 d1 k0 k2 Hq Hd Hb
  go_loopw [7, 42] (fun cv i wr => ∃ k : Nat, k ≤ k0 ∧ i = .int .i64 k ∧ cv = .int .i64 (bindSum n m xs fs k : Int) ∧ ∃ v, BindAt w n b off c xs (bindRows n m xs fs k) v wr) (fun _ i _ => xs.length - (intOf i).toNat)
  case atStart => exact ⟨0, Nat.zero_le _, rfl, rfl, _, HS.out⟩
  case round =>
    obtain ⟨k, hk, rfl, rfl, v, hT⟩ := hrel
    have d0 := hT.d.c0
    have d1 := hT.d.c1
    have HT := Lib.hid hT
    clear hT
    have hkx : k < xs.length := by omega
    have hf := (HF.out.below HT.out.below hfb) k (by have := Hfl.out; omega)
    have hk0 : (0 : Int) ≤ (k : Int) := by omega
    have hk1 : (k : Int) < (xs.length : Int) := by omega
    have Hpk := fun W (h : Below w.heap.size w W) => pick_any n b off c xs k W (HV.out.below h).lt (by omega) (HV.out.below h).at' hkx
    have hfk : nthN fs k < 16777216 := Nat.lt_of_lt_of_le (HFF.out k) (Nat.le_trans (Nat.pow_le_pow_right (by decide) n1) (by decide))
    have Hbn := fun W => bind_any n (nthN xs k) (nthN fs k) m W n0 n1 hm1 hm (HV.out.ok.lt' k) hfk
    unfold bnd at Hbn
    have hlf : fb < w.heap.size := hfb
    have HK : Hid (∀ W, BindAt w n b off c xs (bindRows n m xs fs k) v W → W.cell? ⟨w.heap.size, 0, none⟩ = some (.int .i64 (n : Int)) ∧ W.cell? ⟨w.heap.size, 1, none⟩ = some (.slice (some ⟨b, off, none⟩) xs.length c) ∧ W.cell? ⟨fb, fo + k, none⟩ = some (.int .i64 (nthN fs k : Int)) ∧ BindAt w n b off c xs (bindRows n m xs fs k) v W) :=
      Lib.hid (fun W h => ⟨h.d.c0, h.d.c1, (HF.out.below h.below hfb) k (by have := Hfl.out; omega), h⟩)
    have HTd := Lib.hid HT.out.drew
    clear hfk
    go_wp2_with fail
    go_region_held3 (fun w' => w'.cell? ⟨w.heap.size, 0, none⟩ = some (.int .i64 (n : Int)) ∧ w'.cell? ⟨w.heap.size, 1, none⟩ = some (.slice (some ⟨b, off, none⟩) xs.length c) ∧ w'.cell? ⟨fb, fo + k, none⟩ = some (.int .i64 (nthN fs k : Int)) ∧ BindAt w n b off c xs (bindRows n m xs fs k) v w')
      (first | exact HK.out _ HTd.out | (refine HK.out _ (BindAt.next ?_ (by assumption)); go_split_ands; assumption))
      (first | (go_at_call 140; (with_reducible refine (Hpk _ ?_).mono ?_); rotate_left 1; rintro e w3 ⟨rfl, hb3⟩; rotate_left 1; (first | exact HTd.out.below | (go_split_ands; exact BindAt.below (by assumption)))) | (go_at_call 141; (with_reducible refine (Hbn _).mono ?_); rintro e w4 ⟨rfl, hb4⟩))
    have hT4 : BindAt w n b off c xs (bindRows n m xs fs k) v w4 := by go_split_ands; assumption
    obtain ⟨C, hC⟩ : ∃ C, C = bindN n (nthN xs k) (nthN fs k) m := ⟨_, rfl⟩
    rw [← hC]
    by_cases hlt : k < k0
    · have hCn : (C : Int) < 419430400 := by have := HA.out k hlt; rw [← hC] at this; unfold never at this; omega
      have hCge : decide ((419430400 : Int) ≤ (C : Int)) = false := by simp; omega
      have hCb : C < 9223372036854775808 := by omega
      have HC' := Lib.hid hC
      have HT4 := Lib.hid hT4
      have Hcr := fun W => choiceRow_any C W hCb
      have Hcc := fun W => choiceChanges_any C W hCb
      have f0 := hT4.r.c1
      have f1 := hT4.r.f 1
      have hzz : w.heap.size + 1 < w4.heap.size := hT4.r.lt
      obtain ⟨i0, hi, hz0, hz1, hz2⟩ := info_parts Try.info3
      have hrl : (bindRows n m xs fs k).length = k := bindRows_len n m xs fs k
      have HRow := Lib.hid hT4.row
      have Hrl := Lib.hid hrl
      clear hC hT4 hf d0 d1 hrl hb3 hb4
      have hsz4 : w.heap.size + 1 + 1 ≤ w4.heap.size := hzz
      have hnr : some (w.heap.size + 1) ≠ v.ownBlock := HT4.out.r.not_row (by decide) HRow.out
      have hn25 : k + 1 ≤ maxLen := by unfold maxLen; omega
      have hCmod : C % 16777216 < 16777216 := Nat.mod_lt _ (by decide)
      go_wp2_with fail
      go_region_law
        (first
          | (go_simp; go_at_call 142; (with_reducible refine (Hcr _).mono ?_); rintro e w5 ⟨rfl, rfl⟩)
          | ((refine step_append_lies _ (by rfl) _ _ _ (by rfl) (w.heap.size + 1 + 1) 3 i0 _ 1 8 Try.underlying24 hi hz0 hz1 hz2 rfl (by omega) v (bindRows n m xs fs k).length ((bindRows n m xs fs k).map natV) (by rfl) ((HRow.out.alloc _).drew)
                  ⟨w4.heap.size, 0, none⟩ 1 1 [.int .i64 ((C % 16777216 : Nat) : Int)] (by rfl) (by rfl) (World.news_of_block (cs := #[.int .i64 ((C % 16777216 : Nat) : Int)]) (t := 3) (fr := (0, 0)) (heap_alloc_new w4 _)) (by simp [Value.oneCell'])
                  (by omega) (by rw [Hrl.out]; exact hn25) (by rw [Hrl.out]; omega) (by simp; omega) (w4.heap.size + 1) (by simp) ?_; intro g cap w5 hown1 hgrow hat hglt)
             have hBA := (HT4.out.next (((Below.refl w4.heap.size w4).alloc (Nat.le_refl _) (.cells #[.int .i64 ((C % 16777216 : Nat) : Int)] 3)).drew)).grew (rows' := bindRows n m xs fs k ++ [C % 16777216]) hgrow (by rw [List.length_append, List.length_singleton, List.map_append]; exact hown1)
             have hr5 : RBox w5 (w.heap.size + 1) n v := (hgrow.block _ (by simp; omega) hnr).trans ((Below.heap_alloc _ _ _ hzz).trans HT4.out.r)
             have f5 := hr5.f 1
             have c5 := hr5.c1
             have HBA := Lib.hid hBA
             clear hBA hr5 hown1 hgrow hat))
      all_goals
        (obtain ⟨W5, hW5⟩ : ∃ W5, W5 = w5.setCell ⟨w.heap.size + 1, 1, none⟩ (.slice (some ⟨g, 0, none⟩) ((bindRows n m xs fs k).length + 1) cap) := ⟨_, rfl⟩
         rw [← hW5] at HBA ⊢
         clear hW5 f5 c5
         have hS1 := bindSum_le n m xs fs k
         have hS2 : k * 25 ≤ 1500 := by omega
         have hS3 : C / 16777216 ≤ 25 := by omega
         go_wp2_with fail
         refine (Hcc _).mono ?_
         rintro e w6 ⟨rfl, rfl⟩
         go_wp2_with fail)
      all_goals
        (refine ⟨⟨k + 1, by omega, by go_num, ?_, _, by rw [bindRows_succ, ← HC'.out]; exact HBA.out⟩, ?_⟩
         · exact congrArg (Value.int .i64) (bindSum_cast n m xs fs k C HC'.out)
         · simp [intOf]; omega)
    · obtain rfl : k = k0 := by omega
      rw [hnev] at hC
      unfold never at hC
      subst hC
      have k0' := hT4.r.c0
      have k1' := hT4.r.c1
      have f0 := hT4.r.f 0
      have f1 := hT4.r.f 1
      have HT4 := Lib.hid hT4
      clear hT4 hf d0 d1 hb3 hb4
      go_wp2_with fail
      refine bodyPost_ret (v := .tuple #[.agg #[.int .i64 0, .slice none 0 0], .int .i64 0, .int .i64 9]) ?_ rfl ⟨rfl, ?_⟩
      · simp [results, Try.results69, go_sem, k0', k1']
      · exact (HT4.out.below.setCell (by simp) _).setCell (by simp) _
end
end Go.Proofs.Ytdmgffoikebgkaa
/- Harness ties: the hooks of one group, one after the other, and Make, at the group of the document's example. -/
namespace Go.Proofs.Ytdmgffoikebgkaa
open Go.RowKit Go.Shelf
attribute [local go_sem] Oper.semAt_some

theorem app_oneIn {t e size bytes : Nat} (E : ElemT t e size bytes) {F : Fence} {nF : Nat} {ops : Array Oper} {rest : List Oper} {o : Oper} {a : Act} {Q : Exit → Act → World → Prop} {W : World} (hgd : o.guard = none) (s x : Operand)
    (ho : o.op = .call { callee := .builtin .append, args := #[s, x], argTypes := #[t, t] }) (base : Nat) (v : Value) (n : Nat) (xs : List Value) (cs : Array Value)
    (hs : a.eval s = v) (hown : W.ownsRow base e size v n xs) (hx : a.eval x = .slice (some ⟨W.heap.size, 0, none⟩) 1 1) (hcs : cs.size = size) (h1 : ∀ u ∈ cs.toList, u.oneCell' = true)
    (hlen : n ≤ 1000000) (hby : bytes ≤ 1000) (hbase : base ≤ W.heap.size)
    (h : ∀ g cap W', Grew base e size W W' v g cap (n + 1) (xs ++ cs.toList) → wpListIn F nF Try.prog ops Q rest (a.put o.dst (.slice (some ⟨g, 0, none⟩) (n + 1) cap)) W') :
    wpListIn F nF Try.prog ops Q (o :: rest) a (W.alloc (.cells cs e)) := by
  obtain ⟨i, z, hu, hi, hz0, hz1, hz2, hz3, hz4⟩ := E.ex
  refine wpListIn_append_own_at _ hgd s x t ho base e i z size bytes hu hi hz0 hz1 hz2 hz3 hz4 v n xs hs (hown.alloc _) ⟨W.heap.size, 0, none⟩ 1 1 cs.toList hx (by simp [hcs])
    (World.news_of_block (t := e) (fr := (0, 0)) (World.alloc_heap_new W _)) h1 (by unfold maxLen; omega) ?_ (by simp; omega) ?_
  · exact Nat.le_trans (Nat.mul_le_mul (show n + 1 ≤ 1000001 by omega) hby) (by decide)
  · intro v' w' hr hg _ hat
    have hr0 := hr
    obtain ⟨hl, h2 | ⟨g, cap, cur, rfl, hq, hh, r⟩⟩ := hr
    · have := h2.2; omega
    · refine h g cap w' ⟨hr0, ⟨hg.os, hg.tape, hg.output, ?_, fun k hk hne => (hg.block k (by simp; omega) hne).trans (Below.heap_alloc _ _ _ hk)⟩, (Array.getElem?_eq_some_iff.1 hh).1, ?_, hq⟩
      · have := hg.size; simp at this; omega
      · rcases hat with e1 | e1
        · exact .inl e1.symm
        · simp [Value.ownBlock] at e1; exact .inr (by omega)
theorem BoxAt.calm {W W' : World} {B n : Nat} {vs : Array Value} {t : TypeId} (h : BoxAt W B vs t) (hc : Calm n W W') : BoxAt W' B vs t := hc.same _ _ h (.inl rfl)
theorem own_calm {W W' : World} {base e size k n : Nat} {v : Value} {xs : List Value} (h : W.ownsRow base e size v k xs) (hc : Calm n W W') : W'.ownsRow base e size v k xs := by
  obtain ⟨hl, h2⟩ := h
  refine ⟨hl, ?_⟩
  rcases h2 with h2 | ⟨g, cap, cur, e, hg, hh, r⟩
  · exact .inl h2
  · exact .inr ⟨g, cap, cur, e, hg, hc.same _ _ hh (.inl rfl), r⟩
theorem own_others {W W' : World} {base e size k : Nat} {v : Value} {xs : List Value} (h : W.ownsRow base e size v k xs) (hg : W.grownBy W' v.ownBlock) : KeepsOthers W W' := by
  refine KeepsOthers.of_grownBy hg fun j o ej hj => ?_
  obtain ⟨hl, h2⟩ := h
  rcases h2 with h2 | ⟨g, cap, cur, e, hq, hh, r⟩
  · rw [h2.1] at ej; cases ej
  · rw [e] at ej; cases ej; rw [hh] at hj; cases hj; rfl
end Go.Proofs.Ytdmgffoikebgkaa
/- stay. -/
namespace Go.Proofs.Ytdmgffoikebgkaa
open Go.RowKit Go.Shelf
attribute [local go_sem] Oper.semAt_some

def vals {l : Nat} (xs : List { x : Nat // x < l }) : List Nat := xs.map (·.1)
theorem BoxAt.own {W W' : World} {B : Nat} {vs : Array Value} {t : TypeId} {row : Option Nat} (h : BoxAt W B vs t) (hg : W.grownBy W' row) (hr : ∀ r, row = some r → ∃ o : Obj, W.heap[r]? = some o ∧ o.isCells = false) : BoxAt W' B vs t :=
  h.kept hg (fun e => by obtain ⟨o, ho, hc⟩ := hr B e.symm; rw [show W.heap[B]? = _ from h] at ho; cases ho; cases hc)
theorem KeepsFrom.of_below {B : Nat} {W W' : World} (h : Below W.heap.size W W') : KeepsFrom B W W' := KeepsFrom.of_grownBy (below_grown h none) (fun _ e => by cases e)
end Go.Proofs.Ytdmgffoikebgkaa
/- The statements' helpers: the document's example of package point. -/
namespace Go.Proofs.Ytdmgffoikebgkaa
open Go.RowKit Go.Shelf
attribute [local go_sem] Oper.semAt_some

theorem nats2 {W : World} {B : Nat} {a b : Nat} {t : TypeId} (h : BoxAt W B #[.int .i64 (a : Int), .int .i64 (b : Int)] t) : NatsAt W B 0 [a, b] := by
  intro i hi
  rw [Nat.zero_add]
  have : i = 0 ∨ i = 1 := by simp at hi; omega
  rcases this with rfl | rfl
  · exact h.cell' 0 rfl
  · exact h.cell' 1 rfl
end Go.Proofs.Ytdmgffoikebgkaa
/- The statements' helpers: the document's example of package tie. -/
namespace Go.Proofs.Ytdmgffoikebgkaa
open Go.RowKit Go.Shelf
attribute [local go_sem] Oper.semAt_some

def exHs : List Nat := [0, 1, 2, 3, 2, 1]
theorem exHs_nth (i : Nat) (h : i < 6) : nthN exHs i < 4 := by
  have : i = 0 ∨ i = 1 ∨ i = 2 ∨ i = 3 ∨ i = 4 ∨ i = 5 := by omega
  rcases this with rfl | rfl | rfl | rfl | rfl | rfl <;> decide
theorem exValid2 : Valid 4 [1, 6] := by
  refine ⟨by decide, by decide, by decide, by decide, fun i => ?_⟩
  by_cases h : i < 2
  · have : i = 0 ∨ i = 1 := by omega
    rcases this with rfl | rfl <;> decide
  · have : nthN [1, 6] i = 0 := by unfold nthN; rw [List.getElem?_eq_none (by simpa using h)]; rfl
    rw [this]; decide
def exCloth : List ByteArray := [⟨#[120, 46, 46, 46, 46, 46]⟩, ⟨#[46, 120, 120, 46, 120, 120]⟩]
end Go.Proofs.Ytdmgffoikebgkaa
/- The statements' helpers: the document's example of package chain. -/
namespace Go.Proofs.Ytdmgffoikebgkaa
open Go.RowKit Go.Shelf
attribute [local go_sem] Oper.semAt_some

end Go.Proofs.Ytdmgffoikebgkaa
/- (after text RA of the first seat) Regions whose order is left open: an invariant of what has been done, and of the slots that are written; single operations. -/
namespace Go.Proofs.Ytdmgffoikebgkaa
open Go.RowKit

/-- every operation waits for earlier ones alone -/
def Back (ops : Array Oper) : Prop := ∀ (i : Nat) (o : Oper), ops[i]? = some o → ∀ e ∈ o.after, Region.binds .any e = true → e.on < i
theorem ready_least {ops : Array Oper} {L : Array Bool} (hb : Back ops) (hr : Region.ready .any ops L = []) : ∀ i, i < ops.size → L.getD i true = true := by
  intro i
  induction i using Nat.strongRecOn with
  | ind i ih =>
    intro hi
    cases hL : L.getD i true with
    | true => rfl
    | false =>
      exfalso
      have ho : ops[i]? = some ops[i] := by simp [hi]
      have : i ∈ Region.ready .any ops L := mem_ready.2 ⟨hL, ops[i], ho, fun e he hbd => by
        have hlt := hb i _ ho e he hbd
        have h1 := ih e.on hlt (by omega)
        have hsz : e.on < L.size := by
          rcases Nat.lt_or_ge i L.size with h | h
          · omega
          · have : L.getD i true = true := by simp [Array.getD, Nat.not_lt.2 h]
            rw [this] at hL; simp at hL
        simp [Array.getD, hsz] at h1 ⊢
        exact h1⟩
      rw [hr] at this
      cases this
/-- how many operations are left -/
def undone (L : Array Bool) : Nat := L.toList.countP fun b => !b
theorem undone_set {L : Array Bool} {i : Nat} (h : L.getD i true = false) : undone (L.setIfInBounds i true) + 1 = undone L := by
  have hi : i < L.size := by
    rcases Nat.lt_or_ge i L.size with h2 | h2
    · exact h2
    · have : L.getD i true = true := by simp [Array.getD, Nat.not_lt.2 h2]
      rw [this] at h; simp at h
  have hv : L[i] = false := by simpa [Array.getD, hi] using h
  unfold undone
  rw [Array.toList_setIfInBounds, List.countP_set (by simpa using hi)]
  have hp : 0 < List.countP (fun b => !b) L.toList := by
    rw [List.countP_pos_iff]
    exact ⟨L[i], by simp, by simp [hv]⟩
  simp only [Array.getElem_toList, hv, Bool.not_false, if_true, Bool.not_true, Bool.false_eq_true, if_false]
  omega
theorem undone_none {L : Array Bool} (h : undone L = 0) (i : Nat) : L.getD i true = true := by
  unfold undone at h
  rw [List.countP_eq_zero] at h
  rcases Nat.lt_or_ge i L.size with h2 | h2
  · have := h L[i] (by simp)
    simp [Array.getD, h2]
    simpa using this
  · simp [Array.getD, Nat.not_lt.2 h2]
/-- what one operation has to do, whatever has been done -/
def StepOk (P : Program) (ops : Array Oper) (Q : Exit → Act → World → Prop) (I : Array Bool → Act → World → Prop) (i : Nat) (o : Oper) : Prop :=
  ∀ L a w, I L a w → L.getD i true = false → (∀ e ∈ o.after, Region.binds .any e = true → L.getD e.on false = true) →
    ∀ K : Act → World → Prop, (∀ a' w', I (L.setIfInBounds i true) a' w' → K a' w') → if Region.wanted o (yielded ops a.tmps) = true then Oper.wp P o a w K Q else K (a.put o.dst undef) w
theorem wpAny_inv {P : Program} {ops : Array Oper} {Q : Exit → Act → World → Prop} (I : Array Bool → Act → World → Prop)
    (hb : Back ops)
    (hstep : ∀ (i : Nat) (o : Oper), ops[i]? = some o → StepOk P ops Q I i o)
    (hend : ∀ L a w, I L a w → (∀ i, i < ops.size → L.getD i true = true) → Q .normal a w) :
    ∀ fuel L a w, undone L ≤ fuel → I L a w → wpAny P .any ops Q fuel L a w
  | 0, L, a, w, hf, hI => by
    have h0 := undone_none (show undone L = 0 by omega)
    refine ⟨?_, hend L a w hI fun i _ => h0 i⟩
    rw [List.eq_nil_iff_forall_not_mem]
    intro i hi
    have := (mem_ready.1 hi).1
    rw [h0 i] at this
    simp at this
  | fuel + 1, L, a, w, hf, hI => by
    refine ⟨fun hr => hend L a w hI (ready_least hb hr), fun i hi => ?_⟩
    obtain ⟨hn, o, ho, hd⟩ := mem_ready.1 hi
    refine wpOp_step ho fun K hK => ?_
    refine hstep i o ho L a w hI hn hd K fun a' w' hI' => hK a' w' ?_
    exact wpAny_inv I hb hstep hend fuel _ a' w' (by have := undone_set hn; omega) hI'
theorem wp_region_inv {P : Program} {id : Nat} {ops : Array Oper} {Q : Exit → Act → World → Prop} {a : Act} {w : World} (hm : P.follows .mixedOrders = true) (I : Array Bool → Act → World → Prop)
    (hb : Back ops)
    (h0 : I (Array.replicate ops.size false) a w.drew)
    (hstep : ∀ (i : Nat) (o : Oper), ops[i]? = some o → StepOk P ops Q I i o)
    (hend : ∀ L a w, I L a w → (∀ i, i < ops.size → L.getD i true = true) → Q .normal a w) : (Code.region id ops true).wp P Q a w := by
  refine wp_region_any hm ?_
  change wpAny _ _ _ _ _ _ _ (World.drew _)
  exact wpAny_inv I hb hstep hend _ _ _ _ (by unfold undone; simp [List.countP_replicate]) h0
end Go.Proofs.Ytdmgffoikebgkaa
namespace Go.Proofs.Ytdmgffoikebgkaa
open Go.RowKit

/-- a frame with new values in some slots -/
def laid (a : Act) (ds : List Nat) (v : Nat → Value) : Act := ds.foldl (fun a d => a.put (some d) (v d)) a
theorem laid_cons (a : Act) (d : Nat) (ds : List Nat) (v : Nat → Value) : laid a (d :: ds) v = laid (a.put (some d) (v d)) ds v := rfl
theorem put_size (a : Act) (d : Option Tmp) (x : Value) : (a.put d x).tmps.size = a.tmps.size := by cases d <;> simp [Act.put]
theorem put_eval_same (a : Act) (d : Nat) (x : Value) (h : d < a.tmps.size) : (a.put (some d) x).eval (.tmp d) = x := by
  simp [Act.put, Act.eval, h]
theorem put_eval_ne (a : Act) (d s : Nat) (x : Value) (h : s ≠ d) : (a.put (some d) x).eval (.tmp s) = a.eval (.tmp s) := by
  simp only [Act.put, Act.eval, Array.getD_eq_getD_getElem?]
  rw [Array.getElem?_setIfInBounds_ne (Ne.symm h)]
theorem put_twice (a : Act) (d : Nat) (x y : Value) : (a.put (some d) x).put (some d) y = a.put (some d) y := by
  simp [Act.put]
theorem put_comm' (a : Act) (d s : Nat) (x y : Value) (h : d ≠ s) : (a.put (some d) x).put (some s) y = (a.put (some s) y).put (some d) x := by
  simp only [Act.put]
  rw [Array.setIfInBounds_comm _ _ h]
theorem laid_out (ds : List Nat) (v : Nat → Value) (s : Nat) (h : s ∉ ds) : ∀ a : Act, (laid a ds v).eval (.tmp s) = a.eval (.tmp s) := by
  induction ds with
  | nil => intro a; rfl
  | cons d ds ih =>
    intro a
    simp at h
    rw [laid_cons, ih h.2, put_eval_ne _ _ _ _ h.1]
theorem laid_in (ds : List Nat) (v : Nat → Value) (s : Nat) (h : s ∈ ds) : ∀ a : Act, (∀ d ∈ ds, d < a.tmps.size) → (laid a ds v).eval (.tmp s) = v s := by
  induction ds with
  | nil => simp at h
  | cons d ds ih =>
    intro a hsz
    rw [laid_cons]
    by_cases hs : s ∈ ds
    · exact ih hs _ (fun e he => by rw [put_size]; exact hsz e (List.mem_cons_of_mem _ he))
    · obtain rfl : s = d := by simpa [hs] using h
      rw [laid_out _ _ _ hs, put_eval_same _ _ _ (hsz s (List.mem_cons_self ..))]
/-- new values, one of them changed -/
def updO (v : Nat → Value) (d : Option Tmp) (x : Value) : Nat → Value := match d with
  | some d => fun s => if s = d then x else v s
  | none => v
theorem laid_congr (ds : List Nat) (v u : Nat → Value) (h : ∀ d ∈ ds, v d = u d) : ∀ a : Act, laid a ds v = laid a ds u := by
  induction ds with
  | nil => intro a; rfl
  | cons d ds ih =>
    intro a
    rw [laid_cons, laid_cons, h d (List.mem_cons_self ..)]
    exact ih (fun e he => h e (List.mem_cons_of_mem _ he)) _
theorem laid_put_front (ds : List Nat) (v : Nat → Value) (s : Nat) (x : Value) (h : s ∉ ds) : ∀ a : Act, (laid a ds v).put (some s) x = laid (a.put (some s) x) ds v := by
  induction ds with
  | nil => intro a; rfl
  | cons d ds ih =>
    intro a
    simp at h
    rw [laid_cons, laid_cons, ih h.2, put_comm' _ _ _ _ _ (Ne.symm h.1)]
theorem laid_put (ds : List Nat) (v : Nat → Value) (s : Nat) (x : Value) (hnd : ds.Nodup) (h : s ∈ ds) : ∀ a : Act, (laid a ds v).put (some s) x = laid a ds (updO v (some s) x) := by
  induction ds with
  | nil => simp at h
  | cons d ds ih =>
    intro a
    rw [List.nodup_cons] at hnd
    rw [laid_cons, laid_cons]
    by_cases hs : s ∈ ds
    · have hne : d ≠ s := fun e => hnd.1 (e ▸ hs)
      rw [ih hnd.2 hs]
      have : updO v (some s) x d = v d := by simp [updO, hne]
      rw [this]
    · obtain rfl : s = d := by simpa [hs] using h
      rw [laid_put_front _ _ _ _ hs, put_twice]
      have e1 : updO v (some s) x s = x := by simp [updO]
      rw [e1]
      refine laid_congr _ _ _ (fun e he => ?_) _
      have : e ≠ s := fun h => hs (h ▸ he)
      simp [updO, this]
theorem laid_self (ds : List Nat) : ∀ a : Act, laid a ds (fun d => a.eval (.tmp d)) = a := by
  intro a
  have key : ∀ ds : List Nat, laid a ds (fun d => a.eval (.tmp d)) = a := by
    intro ds
    induction ds with
    | nil => rfl
    | cons d ds ih =>
      rw [laid_cons]
      have : a.put (some d) (a.eval (.tmp d)) = a := by
        simp only [Act.put, Act.eval]
        congr 1
        apply Array.ext_getElem?
        intro i
        by_cases hi : i = d
        · subst hi
          rw [Array.getElem?_setIfInBounds]
          by_cases hlt : i < a.tmps.size <;> simp [hlt, Array.getD]
        · rw [Array.getElem?_setIfInBounds_ne (Ne.symm hi)]
      rw [this]; exact ih
  exact key ds

/-- what one operation has to do, whatever has been done, in whatever frame that has the slots' values -/
def StepAt (P : Program) (ops : Array Oper) (Q : Exit → Act → World → Prop) (ds : List Nat) (outs : List (Nat × Value)) (J : Array Bool → (Nat → Value) → World → Prop) (i : Nat) (o : Oper) : Prop :=
  ∀ L v W (a : Act), J L v W → (∀ d ∈ ds, a.tmps[d]?.getD undef = v d) → (∀ q ∈ outs, a.tmps[q.1]?.getD undef = q.2) → L.getD i true = false → (∀ e ∈ o.after, Region.binds .any e = true → L.getD e.on false = true) →
    ∀ K : Act → World → Prop, (∀ x W', J (L.setIfInBounds i true) (updO v o.dst x) W' → K (a.put o.dst x) W') → if Region.wanted o (yielded ops a.tmps) = true then Oper.wp P o a W K Q else K (a.put o.dst undef) W
theorem eval_tmp (a : Act) (d : Nat) : a.eval (.tmp d) = a.tmps[d]?.getD undef := by simp only [Act.eval, Array.getD_eq_getD_getElem?]
theorem wp_region_laid {P : Program} {id : Nat} {ops : Array Oper} {Q : Exit → Act → World → Prop} {a : Act} {w : World} (ds : List Nat) (outs : List (Nat × Value)) (J : Array Bool → (Nat → Value) → World → Prop)
    (hm : P.follows .mixedOrders = true) (hb : Back ops) (hnd : ds.Nodup) (hsz : ∀ d ∈ ds, d < a.tmps.size) (hout : ∀ q ∈ outs, a.eval (.tmp q.1) = q.2 ∧ q.1 ∉ ds)
    (hdst : ∀ (i : Nat) (o : Oper), ops[i]? = some o → ∀ d, o.dst = some d → d ∈ ds)
    (h0 : J (Array.replicate ops.size false) (fun d => a.eval (.tmp d)) w.drew)
    (hstep : ∀ (i : Nat) (o : Oper), ops[i]? = some o → StepAt P ops Q ds outs J i o)
    (hend : ∀ L v W, J L v W → (∀ i, i < ops.size → L.getD i true = true) → Q .normal (laid a ds v) W) : (Code.region id ops true).wp P Q a w := by
  refine wp_region_inv hm (fun L a' W => ∃ v, a' = laid a ds v ∧ J L v W) hb ⟨_, (laid_self ds a).symm, h0⟩ ?_ ?_
  · rintro i o ho L a' W ⟨v, rfl, hJ⟩ hL hd K hK
    refine hstep i o ho L v W _ hJ (fun d hd => by rw [← eval_tmp]; exact laid_in ds v d hd a hsz) (fun q hq => by rw [← eval_tmp, laid_out _ _ _ (hout q hq).2]; exact (hout q hq).1) hL hd K fun x W' hJ' => hK _ _ ⟨updO v o.dst x, ?_, hJ'⟩
    cases hdst' : o.dst with
    | none => rfl
    | some d => exact laid_put ds v d x hnd (hdst i o ho d hdst') a
  · rintro L a' W ⟨v, rfl, hJ⟩ hall
    exact hend L v W hJ hall
end Go.Proofs.Ytdmgffoikebgkaa
namespace Go.Proofs.Ytdmgffoikebgkaa
open Go.RowKit

theorem nats_setB {W : World} {g : Nat} {xs : List Nat} (h : NatsAt W g 0 xs) (b k : Nat) (u : Value) (hne : g ≠ b) : NatsAt (W.setCell ⟨b, k, none⟩ u) g 0 xs := fun i hi =>
  (World.cell?_of_block (w := W) (Below.heap_setCell W ⟨b, k, none⟩ u g hne)).trans (h i hi)
theorem heap_setCell_ne {W : World} {b b' k : Nat} {u : Value} (h : b' ≠ b) : (W.setCell ⟨b, k, none⟩ u).heap[b']? = W.heap[b']? := Below.heap_setCell _ _ _ _ (fun e => h e)
theorem setCell_size (W : World) (a : Addr) (u : Value) : (W.setCell a u).heap.size = W.heap.size := by simp [World.setCell]
theorem set_getD (L : Array Bool) (i m : Nat) : (L.setIfInBounds i true).getD m true = (decide (m = i) || L.getD m true) := by
  simp only [Array.getD_eq_getD_getElem?]
  by_cases e : m = i
  · subst e
    rw [Array.getElem?_setIfInBounds]
    by_cases h : m < L.size <;> simp [h]
  · rw [Array.getElem?_setIfInBounds_ne (Ne.symm e)]; simp [e]
section
variable {k : Nat} {x : Nat → Value} {E : Nat → Nat} {xs : Nat → List Nat} {T : Nat → TypeId} {ld cs ps : Nat → Nat} {Wb : World} {L : Array Bool} {v : Nat → Value} {W W' : World}
theorem upd_some (v : Nat → Value) (d s : Nat) (u : Value) : updO v (some d) u s = if s = d then u else v s := rfl
end
end Go.Proofs.Ytdmgffoikebgkaa
namespace Go.Proofs.Ytdmgffoikebgkaa
open Go.RowKit

def backB (ops : Array Oper) : Bool := (List.range ops.size).all fun i => match ops[i]? with
  | some o => o.after.all fun e => !(Region.binds .any e) || decide (e.on < i)
  | none => true
theorem back_of {ops : Array Oper} (h : backB ops = true) : Back ops := by
  intro i o ho e he hbd
  have hi : i < ops.size := (Array.getElem?_eq_some_iff.1 ho).1
  unfold backB at h
  rw [List.all_eq_true] at h
  have := h i (by simpa using hi)
  rw [ho] at this
  simp only [Array.all_eq_true_iff_forall_mem] at this
  have h2 := this e he
  rw [hbd] at h2
  simpa using h2
/-- an operation waits for another one -/
def depB (o : Oper) (i : Nat) : Bool := o.after.any fun e => Region.binds .any e && e.on == i
theorem dep_of {o : Oper} {L : Array Bool} (hdep : ∀ e ∈ o.after, Region.binds .any e = true → L.getD e.on false = true) (i : Nat) (h : depB o i = true) : L.getD i true = true := by
  unfold depB at h
  rw [Array.any_eq_true'] at h
  obtain ⟨e, he, h2⟩ := h
  rw [Bool.and_eq_true, beq_iff_eq] at h2
  have := hdep e he h2.1
  rw [h2.2] at this
  simp only [Array.getD_eq_getD_getElem?] at this ⊢
  by_cases hi : i < L.size
  · simp [hi] at this ⊢; exact this
  · simp [hi]
end Go.Proofs.Ytdmgffoikebgkaa
namespace Go.Proofs.Ytdmgffoikebgkaa
open Go.RowKit

end Go.Proofs.Ytdmgffoikebgkaa
/- Floats in memory; the windows of Proof. -/
namespace Go.Proofs.Ytdmgffoikebgkaa
open Go.RowKit

def nthF (fs : List Fl) (i : Nat) : Fl := fs[i]?.getD ⟨0, 0, 0, false⟩
theorem flCells_get : ∀ (fs : List Fl) (i j : Nat), i < fs.length → j < 4 → (flCells fs)[i * 4 + j]? = (nthF fs i).cells[j]?
  | [], i, j, h, _ => by simp at h
  | f :: fs, 0, j, _, hj => by
    have e : flCells (f :: fs) = f.cells ++ flCells fs := by simp [flCells]
    rw [e, Nat.zero_mul, Nat.zero_add, List.getElem?_append_left (by simpa [Fl.cells] using hj)]
    rfl
  | f :: fs, i + 1, j, h, hj => by
    have e : flCells (f :: fs) = f.cells ++ flCells fs := by simp [flCells]
    have hl : f.cells.length = 4 := rfl
    rw [e, List.getElem?_append_right (by omega), hl, show (i + 1) * 4 + j - 4 = i * 4 + j by omega]
    exact flCells_get fs i j (by simpa using h) hj
/-- the cells of a row of floats -/
structure FlsAt (w : World) (g : Nat) (fs : List Fl) : Prop where
  c0 : ∀ i, i < fs.length → w.cell? ⟨g, i * 4, none⟩ = some (.int .i64 ((nthF fs i).pick : Int))
  c1 : ∀ i, i < fs.length → w.cell? ⟨g, i * 4 + 1, none⟩ = some (.int .i64 ((nthF fs i).hook : Int))
  c2 : ∀ i, i < fs.length → w.cell? ⟨g, i * 4 + 2, none⟩ = some (.int .i64 ((nthF fs i).length : Int))
  c3 : ∀ i, i < fs.length → w.cell? ⟨g, i * 4 + 3, none⟩ = some (.bool (nthF fs i).lifted)
  lt : g < w.heap.size
theorem FlsAt.below {k : Nat} {w w' : World} {g : Nat} {fs : List Fl} (h : FlsAt w g fs) (hb : Below k w w') (hk : g < k) : FlsAt w' g fs :=
  ⟨fun i hi => (hb.cell (p := ⟨g, i * 4, none⟩) hk).trans (h.c0 i hi), fun i hi => (hb.cell (p := ⟨g, i * 4 + 1, none⟩) hk).trans (h.c1 i hi), fun i hi => (hb.cell (p := ⟨g, i * 4 + 2, none⟩) hk).trans (h.c2 i hi), fun i hi => (hb.cell (p := ⟨g, i * 4 + 3, none⟩) hk).trans (h.c3 i hi), Nat.lt_of_lt_of_le h.lt hb.size⟩
/-- a slice of floats that is read -/
def Fls (w : World) (v : Value) (fs : List Fl) : Prop := ∃ p cap, v = .slice p fs.length cap ∧ (0 < fs.length → ∃ g, p = some ⟨g, 0, none⟩ ∧ FlsAt w g fs)
theorem Fls.of_row {w : World} {B : Nat} {v : Value} {fs : List Fl} (h : w.ownsRow B 149 4 v fs.length (flCells fs)) : Fls w v fs := by
  have h0 := h
  obtain ⟨hl, ⟨rfl, hz⟩ | ⟨g, cap, cur, rfl, hg, hh, r⟩⟩ := h
  · exact ⟨none, 0, by rw [hz], fun hp => by omega⟩
  · refine ⟨_, cap, rfl, fun _ => ⟨g, rfl, ?_⟩⟩
    have hc : ∀ i j, i < fs.length → j < 4 → w.cell? ⟨g, i * 4 + j, none⟩ = (nthF fs i).cells[j]? := fun i j hi hj => by
      rw [h0.cellAt (i * 4 + j) (by omega), flCells_get fs i j hi hj]
    refine ⟨fun i hi => hc i 0 hi (by omega), fun i hi => hc i 1 hi (by omega), fun i hi => hc i 2 hi (by omega), fun i hi => hc i 3 hi (by omega), (Array.getElem?_eq_some_iff.1 hh).1⟩

end Go.Proofs.Ytdmgffoikebgkaa
