/- bind. · Bind, where the design, the fixed points and the bound are valid. · Bind's errors: the design, the form of the fixed rows, a fixed row that is none, the bound. · Bind, where a pick cannot be bound. -/
import Derived.Test.YtdmgffoikebgkaaWZ
import Derived.Test.YtdmgffoikebgkaaWD
import Derived.Test.YtdmgffoikebgkaaWV
import Derived.Deep.AppendLies
import Derived.Maps.AppendAt
import Derived.Deep.RegionLaw
import Derived.KernelRfl
namespace Go.Proofs.Ytdmgffoikebgkaa
section
open Go.RowKit

def bindTo (s p f m : Nat) : Nat → Nat
  | 0 => never
  | k + 1 => min (min (bindTo s p f m k) (withLeadN s p f m 0 (k + 1))) (withLeadN s p f m 1 (k + 1))
def bindN (s p f m : Nat) : Nat := bindTo s p f m (longestN s m)
/-- the best after some lifts of one lead -/
def bindMid (s p f m lead best : Nat) : Nat → Nat
  | 0 => best
  | j + 1 => min (bindMid s p f m lead best j) (withLeadN s p f m j lead)
theorem bindMid_two (s p f m k : Nat) : bindMid s p f m (k + 1) (bindTo s p f m k) 2 = bindTo s p f m (k + 1) := rfl
theorem bindTo_le (s p f m : Nat) : ∀ k, bindTo s p f m k ≤ never
  | 0 => Nat.le_refl _
  | k + 1 => by have := bindTo_le s p f m k; simp only [bindTo]; omega

set_option maxRecDepth 100000 in
set_option maxHeartbeats 2000000 in
theorem bind_any (s p f m : Nat) (w : World) (hs : 1 ≤ s) (hs2 : s ≤ 24) (hm1 : 1 ≤ m) (hm : m ≤ 24) (hp : p < 16777216) (hf : f < 16777216) :
    Calls Try.prog 141 #[bnd s p f m] w fun e w' => e = .returned (.int .i64 (bindN s p f m : Int)) ∧ Below w.heap.size w w' := by
  have hLL : longestN s m ≤ s - 1 := by unfold longestN; omega
  have HL := fun w => longest_any s p f m w hs hs2 hm
  have HW0 := fun lead w h1 h2 h3 => withLead0_any s p f m lead w h1 hs2 hm1 hm hp hf h2 h3
  have HW1 := fun lead w h1 h2 h3 => withLead1_any s p f m lead w h1 hs2 hm1 hm hp hf h2 h3
  unfold bnd at HL HW0 HW1 ⊢
  obtain ⟨W0, hW0⟩ : ∃ W0, w.alloc (.cells #[.int .i64 (s : Int), .int .i64 (p : Int), .int .i64 (f : Int), .int .i64 (m : Int)] 194) = W0 := ⟨_, rfl⟩
  have k0 : W0.cell? ⟨w.heap.size, 0, none⟩ = some (.int .i64 (s : Int)) := by rw [← hW0]; exact (cell_of_row _ _ 0 _ _ _ (World.alloc_heap_new w _)).trans rfl
  have k1 : W0.cell? ⟨w.heap.size, 1, none⟩ = some (.int .i64 (p : Int)) := by rw [← hW0]; exact (cell_of_row _ _ 1 _ _ _ (World.alloc_heap_new w _)).trans rfl
  have k2 : W0.cell? ⟨w.heap.size, 2, none⟩ = some (.int .i64 (f : Int)) := by rw [← hW0]; exact (cell_of_row _ _ 2 _ _ _ (World.alloc_heap_new w _)).trans rfl
  have k3 : W0.cell? ⟨w.heap.size, 3, none⟩ = some (.int .i64 (m : Int)) := by rw [← hW0]; exact (cell_of_row _ _ 3 _ _ _ (World.alloc_heap_new w _)).trans rfl
  have z0 : W0.heap.size = w.heap.size + 1 := by rw [← hW0]; simp
  have hB0 : Below w.heap.size w W0 := by rw [← hW0]; exact (Below.refl _ _).alloc (Nat.le_refl _) _
  have HC : Hid (∀ W, Below W0.heap.size W0 W → W.cell? ⟨w.heap.size, 0, none⟩ = some (.int .i64 (s : Int)) ∧ W.cell? ⟨w.heap.size, 1, none⟩ = some (.int .i64 (p : Int)) ∧ W.cell? ⟨w.heap.size, 2, none⟩ = some (.int .i64 (f : Int)) ∧ W.cell? ⟨w.heap.size, 3, none⟩ = some (.int .i64 (m : Int))) := Lib.hid (fun W hB => by
    have e : ∀ j, W.cell? ⟨w.heap.size, j, none⟩ = W0.cell? ⟨w.heap.size, j, none⟩ := fun j => hB.cell (p := ⟨w.heap.size, j, none⟩) (by rw [z0]; show w.heap.size < _; omega)
    exact ⟨(e 0).trans k0, (e 1).trans k1, (e 2).trans k2, (e 3).trans k3⟩)
  have HB0 := Lib.hid hB0
  clear z0 hB0 k0 k1 k2 k3
  go_enter Try.func141, Try.ntmps141
  go_wp2_with fail
  clear hW0
  go_loopw [3, 4] (fun bv lv wr => ∃ k : Nat, k ≤ longestN s m ∧ lv = .int .i64 ((k + 1 : Nat) : Int) ∧ bv = .int .i64 (bindTo s p f m k : Int) ∧ Below W0.heap.size W0 wr) (fun _ lv _ => longestN s m + 1 - (intOf lv).toNat)
  case atStart => exact ⟨0, Nat.zero_le _, rfl, rfl, Below.refl _ _⟩
  case round =>
    obtain ⟨k, hk, rfl, rfl, hB⟩ := hrel
    obtain ⟨c0, c1, c2, c3⟩ := HC.out _ hB
    have HB := Lib.hid hB
    clear hB
    obtain ⟨lead, hld⟩ : ∃ lead, lead = k + 1 := ⟨_, rfl⟩
    rw [← hld]
    have Hld := Lib.hid hld
    have hl1 : 1 ≤ lead := by omega
    have hl2 : lead ≤ longestN s m + 1 := by omega
    clear hld
    go_wp2_with fail
    refine (HL _).mono ?_
    rintro e w1 ⟨rfl, hb1⟩
    have HB1 := Lib.hid (HB.out.trans (hb1.mono HB.out.size))
    clear hb1 c0 c1 c2 c3
    by_cases hle : lead ≤ longestN s m
    · go_wp2_with fail
      go_loopw [3, 5, 12] (fun bv _ i wr => ∃ j : Nat, j ≤ 2 ∧ i = .int .i64 j ∧ bv = .int .i64 (bindMid s p f m lead (bindTo s p f m k) j : Int) ∧ Below W0.heap.size W0 wr) (fun _ _ i _ => 2 - (intOf i).toNat)
      case atStart => exact ⟨0, by omega, rfl, rfl, HB1.out⟩
      case round =>
        obtain ⟨j, hj, rfl, rfl, hB⟩ := hrel
        obtain ⟨c0, c1, c2, c3⟩ := HC.out _ hB
        have HB := Lib.hid hB
        clear hB
        rcases (show j = 0 ∨ j = 1 ∨ j = 2 by omega) with rfl | rfl | rfl
        · obtain ⟨A, hA⟩ : ∃ A, A = bindMid s p f m lead (bindTo s p f m k) 0 := ⟨_, rfl⟩
          rw [← hA]
          have HA := Lib.hid hA
          clear hA
          go_wp2_with fail
          refine (HW0 lead _ (by omega) hl1 hle).mono ?_
          rintro e w2 ⟨rfl, hb2⟩
          have HB2 := Lib.hid (HB.out.trans (hb2.mono HB.out.size))
          clear hb2
          obtain ⟨X, hX⟩ : ∃ X, X = withLeadN s p f m 0 lead := ⟨_, rfl⟩
          rw [← hX]
          have HX := Lib.hid hX
          clear hX
          go_wp2
          refine ⟨⟨1, by omega, rfl, ?_, HB2.out⟩, by simp [intOf]⟩
          rw [bindMid, ← HA.out, ← HX.out]
          congr 1
          split <;> omega
        · obtain ⟨A, hA⟩ : ∃ A, A = bindMid s p f m lead (bindTo s p f m k) 1 := ⟨_, rfl⟩
          rw [← hA]
          have HA := Lib.hid hA
          clear hA
          go_wp2_with fail
          refine (HW1 lead _ (by omega) hl1 hle).mono ?_
          rintro e w2 ⟨rfl, hb2⟩
          have HB2 := Lib.hid (HB.out.trans (hb2.mono HB.out.size))
          clear hb2
          obtain ⟨X, hX⟩ : ∃ X, X = withLeadN s p f m 1 lead := ⟨_, rfl⟩
          rw [← hX]
          have HX := Lib.hid hX
          clear hX
          go_wp2
          refine ⟨⟨2, by omega, rfl, ?_, HB2.out⟩, by simp [intOf]⟩
          rw [bindMid, ← HA.out, ← HX.out]
          congr 1
          split <;> omega
        · go_wp2
          go_roundw
          case rel => exact ⟨k + 1, by have := Hld.out; omega, by rw [show ((k + 1 + 1 : Nat) : Int) = (lead : Int) + 1 by have := Hld.out; omega], by rw [Hld.out, bindMid_two], HB.out⟩
          case measure => simp [intOf]; omega
    · have hke : k = longestN s m := by have := Hld.out; omega
      have Hke := Lib.hid hke
      clear hke
      go_wp2
      go_ret
      exact ⟨ret_int (by unfold bindN; rw [Hke.out]), HB0.out.trans (HB1.out.mono HB0.out.size)⟩
end
end Go.Proofs.Ytdmgffoikebgkaa
namespace Go.Proofs.Ytdmgffoikebgkaa
section
open Go.RowKit

/-- a result of a design that is filled: its hooks, and a slice -/
def RBox (W : World) (B n : Nat) (v : Value) : Prop := W.heap[B]? = some (.cells #[.int .i64 (n : Int), v] 37 (0, 0))
theorem RBox.lt {W : World} {B n : Nat} {v : Value} (h : RBox W B n v) : B < W.heap.size := (Array.getElem?_eq_some_iff.1 h).1
theorem RBox.c0 {W : World} {B n : Nat} {v : Value} (h : RBox W B n v) : W.cell? ⟨B, 0, none⟩ = some (.int .i64 (n : Int)) := by simp [World.cell?, show W.heap[B]? = _ from h]
theorem RBox.c1 {W : World} {B n : Nat} {v : Value} (h : RBox W B n v) : W.cell? ⟨B, 1, none⟩ = some v := by simp [World.cell?, show W.heap[B]? = _ from h]
theorem RBox.f {W : World} {B n : Nat} {v : Value} (h : RBox W B n v) (j : Nat) : W.frozen? ⟨B, j, none⟩ = false := by simp [World.frozen?, show W.heap[B]? = _ from h]
theorem RBox.set1 {W : World} {B n : Nat} {v : Value} (h : RBox W B n v) (v' : Value) : RBox (W.setCell ⟨B, 1, none⟩ v') B n v' := by
  have hl := h.lt
  unfold RBox at h ⊢
  simp [World.setCell, Array.getElem?_modify, h]
theorem RBox.of_res {W : World} {B : Nat} (h : ResBox W B) (n : Nat) : RBox (W.setCell ⟨B, 0, none⟩ (.int .i64 (n : Int))) B n (.slice none 0 0) := by
  have hl := h.lt
  unfold ResBox at h
  unfold RBox
  simp [World.setCell, Array.getElem?_modify, h]
theorem RBox.not_row {W : World} {B n : Nat} {u : Value} (h : RBox W B n u) {base size k e : Nat} {v : Value} {xs : List Value} (he : (37 : Nat) ≠ e) (hr : W.ownsRow base e size v k xs) : some B ≠ v.ownBlock := by
  intro hb
  obtain ⟨_, ⟨rfl, _⟩ | ⟨g, cap, cur, rfl, _, hg, _⟩⟩ := hr
  · simp [Value.ownBlock] at hb
  · simp [Value.ownBlock] at hb
    subst hb
    rw [h] at hg
    simp at hg
    exact he hg.2

/-- the rows that Bind has so far -/
def bindRows (n m : Nat) (xs fs : List Nat) (k : Nat) : List Nat := (List.range k).map fun i => bindN n (nthN xs i) (nthN fs i) m % 16777216
def bindSum (n m : Nat) (xs fs : List Nat) : Nat → Nat
  | 0 => 0
  | k + 1 => bindSum n m xs fs k + bindN n (nthN xs k) (nthN fs k) m / 16777216
theorem bindRows_succ (n m : Nat) (xs fs : List Nat) (k : Nat) : bindRows n m xs fs (k + 1) = bindRows n m xs fs k ++ [bindN n (nthN xs k) (nthN fs k) m % 16777216] := by
  simp [bindRows, List.range_succ]
theorem bindRows_len (n m : Nat) (xs fs : List Nat) (k : Nat) : (bindRows n m xs fs k).length = k := by simp [bindRows]
theorem bindN_le (s p f m : Nat) : bindN s p f m ≤ never := bindTo_le s p f m _
theorem bindSum_le (n m : Nat) (xs fs : List Nat) : ∀ k, bindSum n m xs fs k ≤ k * 25
  | 0 => by simp [bindSum]
  | k + 1 => by
    have h1 := bindSum_le n m xs fs k
    have h2 := bindN_le n (nthN xs k) (nthN fs k) m
    have h3 : bindN n (nthN xs k) (nthN fs k) m / 16777216 ≤ 25 := by unfold never at h2; omega
    simp only [bindSum]; omega

theorem bindSum_cast (n m : Nat) (xs fs : List Nat) (k C : Nat) (hC : C = bindN n (nthN xs k) (nthN fs k) m) : (bindSum n m xs fs k : Int) + (C : Int) / 16777216 = (bindSum n m xs fs (k + 1) : Int) := by
  subst hC
  simp only [bindSum]
  omega

/-- what Bind keeps between two picks -/
structure BindAt (w0 : World) (n b off c : Nat) (xs rows : List Nat) (v : Value) (W : World) : Prop where
  d : DBox W w0.heap.size n b off c xs
  r : RBox W (w0.heap.size + 1) n v
  row : W.ownsRow (w0.heap.size + 1 + 1) 3 1 v rows.length (rows.map natV)
  below : Below w0.heap.size w0 W
theorem BindAt.next {w0 : World} {n b off c : Nat} {xs rows : List Nat} {v : Value} {W W' : World} (h : BindAt w0 n b off c xs rows v W) (hb : Below W.heap.size W W') : BindAt w0 n b off c xs rows v W' := by
  refine ⟨h.d.below hb h.d.lt, (hb.block _ h.r.lt).trans h.r, ?_, h.below.trans (hb.mono h.below.size)⟩
  obtain ⟨hl, h2⟩ := h.row
  refine ⟨hl, ?_⟩
  rcases h2 with h2 | ⟨g, cap, cur, e, hg, hh, r⟩
  · exact .inl h2
  · exact .inr ⟨g, cap, cur, e, hg, (hb.block _ (Array.getElem?_eq_some_iff.1 hh).1).trans hh, r⟩
theorem BindAt.drew {w0 : World} {n b off c : Nat} {xs rows : List Nat} {v : Value} {W : World} (h : BindAt w0 n b off c xs rows v W) : BindAt w0 n b off c xs rows v W.drew := h.next (below_drew1 W)

theorem ownsRow_far {W : World} {base e size k : Nat} {v : Value} {xs : List Value} (h : W.ownsRow base e size v k xs) {j : Nat} (hj : j < base) : some j ≠ v.ownBlock := by
  obtain ⟨_, ⟨rfl, _⟩ | ⟨g, cap, cur, rfl, hg, _⟩⟩ := h
  · simp [Value.ownBlock]
  · intro hb
    simp [Value.ownBlock] at hb
    omega
theorem BindAt.grew {w0 : World} {n b off c : Nat} {xs rows rows' : List Nat} {v v' : Value} {W w5 : World} (h : BindAt w0 n b off c xs rows v W) (hg : W.grownBy w5 v.ownBlock)
    (hown : w5.ownsRow (w0.heap.size + 1 + 1) 3 1 v' rows'.length (rows'.map natV)) : BindAt w0 n b off c xs rows' v' (w5.setCell ⟨w0.heap.size + 1, 1, none⟩ v') := by
  have hl := h.r.lt
  have hd := hg.block w0.heap.size (by omega) (ownsRow_far h.row (by omega))
  have hr := hg.block (w0.heap.size + 1) (by omega) (ownsRow_far h.row (by omega))
  have e : ∀ j, (w5.setCell ⟨w0.heap.size + 1, 1, none⟩ v').cell? ⟨w0.heap.size, j, none⟩ = W.cell? ⟨w0.heap.size, j, none⟩ := fun j =>
    (World.cell?_of_block (w := w5) (Below.heap_setCell _ _ _ _ (by simp))).trans (World.cell?_of_block (w := W) hd)
  have hr5 : RBox w5 (w0.heap.size + 1) n v := hr.trans h.r
  refine ⟨⟨(e 0).trans h.d.c0, (e 1).trans h.d.c1⟩, hr5.set1 v', ?_, ?_⟩
  · obtain ⟨hl, h2⟩ := hown
    refine ⟨hl, ?_⟩
    rcases h2 with h2 | ⟨g, cap, cur, e, hg, hh, r⟩
    · exact .inl h2
    · exact .inr ⟨g, cap, cur, e, hg, (Below.heap_setCell _ _ _ _ (by simp; omega)).trans hh, r⟩
  · exact (h.below.grown hg (by omega) (fun k hk => by
      by_cases hlt : k < w0.heap.size + 1 + 1
      · exact absurd hk.symm (ownsRow_far h.row hlt)
      · omega)).setCell (by simp) _

theorem RBox.set0 {W : World} {B n : Nat} {v : Value} (h : RBox W B n v) : RBox (W.setCell ⟨B, 0, none⟩ (.int .i64 (n : Int))) B n v := by
  have hl := h.lt
  unfold RBox at h ⊢
  simp [World.setCell, Array.getElem?_modify, h]
theorem BindAt.put {w0 : World} {n b off c : Nat} {xs rows : List Nat} {v : Value} {W : World} (h : BindAt w0 n b off c xs rows v W) {j : Nat} {u : Value} (hr : RBox (W.setCell ⟨w0.heap.size + 1, j, none⟩ u) (w0.heap.size + 1) n v) :
    BindAt w0 n b off c xs rows v (W.setCell ⟨w0.heap.size + 1, j, none⟩ u) := by
  have e : ∀ i, (W.setCell ⟨w0.heap.size + 1, j, none⟩ u).cell? ⟨w0.heap.size, i, none⟩ = W.cell? ⟨w0.heap.size, i, none⟩ := fun i => World.cell?_of_block (w := W) (Below.heap_setCell _ _ _ _ (by simp))
  refine ⟨⟨(e 0).trans h.d.c0, (e 1).trans h.d.c1⟩, hr, ?_, h.below.setCell (by simp) _⟩
  obtain ⟨hl, h2⟩ := h.row
  refine ⟨hl, ?_⟩
  rcases h2 with h2 | ⟨g, cap, cur, e, hg, hh, r⟩
  · exact .inl h2
  · exact .inr ⟨g, cap, cur, e, hg, (Below.heap_setCell _ _ _ _ (by simp; omega)).trans hh, r⟩
theorem BindAt.set0 {w0 : World} {n b off c : Nat} {xs rows : List Nat} {v : Value} {W : World} (h : BindAt w0 n b off c xs rows v W) : BindAt w0 n b off c xs rows v (W.setCell ⟨w0.heap.size + 1, 0, none⟩ (.int .i64 (n : Int))) := h.put h.r.set0
theorem BindAt.set1 {w0 : World} {n b off c : Nat} {xs rows : List Nat} {v : Value} {W : World} (h : BindAt w0 n b off c xs rows v W) : BindAt w0 n b off c xs rows v (W.setCell ⟨w0.heap.size + 1, 1, none⟩ v) := h.put (h.r.set1 v)

set_option maxRecDepth 100000 in
set_option maxHeartbeats 4000000 in
theorem Bind_ok (n b off c fb fo fc m : Nat) (xs fs : List Nat) (w : World) (hv : VAt w b off c n xs) (hfl : fs.length = xs.length) (hfat : NatsAt w fb fo fs) (hfb : fb < w.heap.size) (hff : ∀ i, nthN fs i < 2 ^ n) (hm1 : 1 ≤ m) (hm : m ≤ 24)
    (hall : ∀ i, i < xs.length → bindN n (nthN xs i) (nthN fs i) m < never) :
    Calls Try.prog 69 #[.agg #[.int .i64 (n : Int), .slice (some ⟨b, off, none⟩) xs.length c], .slice (some ⟨fb, fo, none⟩) xs.length fc, .int .i64 (m : Int)] w
      fun e w' => ∃ v, e = .returned (.tuple #[.agg #[.int .i64 (n : Int), v], .int .i64 (bindSum n m xs fs xs.length : Int), .int .i64 0]) ∧ w'.ownsRow w.heap.size 3 1 v xs.length ((bindRows n m xs fs xs.length).map natV) ∧ Below w.heap.size w w' := by
  have Hc := fun o o2 => check_res n (some ⟨b, off, none⟩) c (ints xs) w o o2 (by rw [ints_len]; exact hv.reads) 0 hv.ok.check
  simp only [ints_len] at Hc
  have n0 := hv.ok.n0
  have n1 := hv.ok.n1
  have l0 := hv.ok.l0
  have l1 := hv.ok.l1
  have Har : ∀ W, Below w.heap.size w W → Calls Try.prog 138 #[.int .i64 (n : Int), .slice (some ⟨fb, fo, none⟩) xs.length fc] W fun e w' => e = .returned (.bool true) ∧ W = w' := fun W hB => by
    have h1 := areRows_any n fb fo fc (ints fs) W n1 (by rw [ints_len]; omega) ((hfat.below hB hfb).ints)
    rw [ints_len, hfl] at h1
    have h2 : rowsOk n (ints fs) = true := by
      unfold rowsOk ints
      rw [List.all_eq_true]
      intro x hx
      obtain ⟨y, hy, rfl⟩ := List.mem_map.1 hx
      obtain ⟨i, hi, rfl⟩ := List.mem_iff_getElem.1 hy
      have := hff i
      rw [nthN_get _ _ hi] at this
      have e : (2 : Int) ^ n = ((2 ^ n : Nat) : Int) := (Int.natCast_pow 2 n).symm
      rw [e]
      simp
      exact_mod_cast this
    rw [h2] at h1
    exact h1
  have Hib := fun W => isBound_any (m : Int) W
  have hbd : (decide (1 ≤ (m : Int)) && decide ((m : Int) ≤ 24)) = true := by simp; omega
  rw [hbd] at Hib
  have HV := Lib.hid hv
  have HA := Lib.hid hall
  have HF := Lib.hid hfat
  have Hfl := Lib.hid hfl
  have HFF := Lib.hid hff
  clear hv hall hfat hfl hff hbd
  go_enter Try.func69, Try.ntmps69
  go_wp2_with fail
  refine (Hc _ _).mono ?_
  rintro e w1 ⟨rfl, hb1⟩
  obtain ⟨q, hD, hB⟩ := res_facts hb1
  have d0 := hD.c0
  have d1 := hD.c1
  have k0 := q.c0
  have k2 := q.f 0
  have Hq := Lib.hid q
  have Hd := Lib.hid hD
  have Hb := Lib.hid hB
  clear hb1 q hB hD
  go_wp2_with fail
  refine (Har _ Hb.out).mono ?_
  rintro e w2 ⟨rfl, rfl⟩
  go_wp2_with fail
  refine (Hib _).mono ?_
  rintro e w2 ⟨rfl, rfl⟩
  go_wp2_with fail
  have hS : BindAt w n b off c xs (bindRows n m xs fs 0) (.slice none 0 0) (w1.setCell ⟨w.heap.size + 1, 0, none⟩ (.int .i64 (n : Int))) := by
    have e : ∀ j, (w1.setCell ⟨w.heap.size + 1, 0, none⟩ (.int .i64 (n : Int))).cell? ⟨w.heap.size, j, none⟩ = w1.cell? ⟨w.heap.size, j, none⟩ := fun j => World.cell?_of_block (w := w1) (Below.heap_setCell _ _ _ _ (by simp))
    exact ⟨⟨(e 0).trans d0, (e 1).trans d1⟩, RBox.of_res Hq.out n, World.ownsRow_nil _ _ _ _, Hb.out.setCell (by simp) _⟩
  obtain ⟨W2, hW2⟩ : ∃ W2, W2 = w1.setCell ⟨w.heap.size + 1, 0, none⟩ (.int .i64 (n : Int)) := ⟨_, rfl⟩
  rw [← hW2] at hS ⊢
  have HS := Lib.hid hS
  clear hW2 hS d0 d1 k0 k2 Hq Hd Hb
  go_loopw [7, 42] (fun cv i wr => ∃ k : Nat, k ≤ xs.length ∧ i = .int .i64 k ∧ cv = .int .i64 (bindSum n m xs fs k : Int) ∧ ∃ v, BindAt w n b off c xs (bindRows n m xs fs k) v wr) (fun _ i _ => xs.length - (intOf i).toNat)
  case atStart => exact ⟨0, Nat.zero_le _, rfl, rfl, _, HS.out⟩
  case round =>
    obtain ⟨k, hk, rfl, rfl, v, hT⟩ := hrel
    have d0 := hT.d.c0
    have d1 := hT.d.c1
    have HT := Lib.hid hT
    clear hT
    by_cases hlt : k < xs.length
    · have hf := (HF.out.below HT.out.below hfb) k (by have := Hfl.out; omega)
      have hk0 : (0 : Int) ≤ (k : Int) := by omega
      have hk1 : (k : Int) < (xs.length : Int) := by omega
      have Hpk := fun W (h : Below w.heap.size w W) => pick_any n b off c xs k W (HV.out.below h).lt (by omega) (HV.out.below h).at' hlt
      have hfk : nthN fs k < 16777216 := Nat.lt_of_lt_of_le (HFF.out k) (Nat.le_trans (Nat.pow_le_pow_right (by decide) n1) (by decide))
      have Hbn := fun W => bind_any n (nthN xs k) (nthN fs k) m W n0 n1 hm1 hm (HV.out.ok.lt' k) hfk
      unfold bnd at Hbn
      have hlf : fb < w.heap.size := hfb
      have HK : Hid (∀ W, BindAt w n b off c xs (bindRows n m xs fs k) v W → W.cell? ⟨w.heap.size, 0, none⟩ = some (.int .i64 (n : Int)) ∧ W.cell? ⟨w.heap.size, 1, none⟩ = some (.slice (some ⟨b, off, none⟩) xs.length c) ∧ W.cell? ⟨fb, fo + k, none⟩ = some (.int .i64 (nthN fs k : Int)) ∧ BindAt w n b off c xs (bindRows n m xs fs k) v W) :=
        Lib.hid (fun W h => ⟨h.d.c0, h.d.c1, (HF.out.below h.below hfb) k (by have := Hfl.out; omega), h⟩)
      have HTd := Lib.hid HT.out.drew
      clear hfk
      go_wp2_with fail
      go_region_held3 (fun w' => w'.cell? ⟨w.heap.size, 0, none⟩ = some (.int .i64 (n : Int)) ∧ w'.cell? ⟨w.heap.size, 1, none⟩ = some (.slice (some ⟨b, off, none⟩) xs.length c) ∧ w'.cell? ⟨fb, fo + k, none⟩ = some (.int .i64 (nthN fs k : Int)) ∧ BindAt w n b off c xs (bindRows n m xs fs k) v w')
        (first | exact HK.out _ HTd.out | (refine HK.out _ (BindAt.next ?_ (by assumption)); go_split_ands; assumption))
        (first | (go_at_call 140; (with_reducible refine (Hpk _ ?_).mono ?_); rotate_left 1; rintro e w3 ⟨rfl, hb3⟩; rotate_left 1; (first | exact HTd.out.below | (go_split_ands; exact BindAt.below (by assumption)))) | (go_at_call 141; (with_reducible refine (Hbn _).mono ?_); rintro e w4 ⟨rfl, hb4⟩))
      have hT4 : BindAt w n b off c xs (bindRows n m xs fs k) v w4 := by go_split_ands; assumption
      obtain ⟨C, hC⟩ : ∃ C, C = bindN n (nthN xs k) (nthN fs k) m := ⟨_, rfl⟩
      rw [← hC]
      have hCn : (C : Int) < 419430400 := by have := HA.out k hlt; rw [← hC] at this; unfold never at this; omega
      have hCge : decide ((419430400 : Int) ≤ (C : Int)) = false := by simp; omega
      have hCb : C < 9223372036854775808 := by omega
      have HC' := Lib.hid hC
      have HT4 := Lib.hid hT4
      have Hcr := fun W => choiceRow_any C W hCb
      have Hcc := fun W => choiceChanges_any C W hCb
      have f0 := hT4.r.c1
      have f1 := hT4.r.f 1
      have hzz : w.heap.size + 1 < w4.heap.size := hT4.r.lt
      obtain ⟨i0, hi, hz0, hz1, hz2⟩ := info_parts Try.info3
      have hrl : (bindRows n m xs fs k).length = k := bindRows_len n m xs fs k
      have HRow := Lib.hid hT4.row
      have Hrl := Lib.hid hrl
      clear hC hT4 hf d0 d1 hrl hb3 hb4
      have hsz4 : w.heap.size + 1 + 1 ≤ w4.heap.size := hzz
      have hnr : some (w.heap.size + 1) ≠ v.ownBlock := HT4.out.r.not_row (by decide) HRow.out
      have hn25 : k + 1 ≤ maxLen := by unfold maxLen; omega
      have hCmod : C % 16777216 < 16777216 := Nat.mod_lt _ (by decide)
      go_wp2_with fail
      go_region_law
        (first
          | (go_simp; go_at_call 142; (with_reducible refine (Hcr _).mono ?_); rintro e w5 ⟨rfl, rfl⟩)
          | ((refine step_append_lies _ (by rfl) _ _ _ (by rfl) (w.heap.size + 1 + 1) 3 i0 _ 1 8 Try.underlying24 hi hz0 hz1 hz2 rfl (by omega) v (bindRows n m xs fs k).length ((bindRows n m xs fs k).map natV) (by rfl) ((HRow.out.alloc _).drew)
                  ⟨w4.heap.size, 0, none⟩ 1 1 [.int .i64 ((C % 16777216 : Nat) : Int)] (by rfl) (by rfl) (World.news_of_block (cs := #[.int .i64 ((C % 16777216 : Nat) : Int)]) (t := 3) (fr := (0, 0)) (heap_alloc_new w4 _)) (by simp [Value.oneCell'])
                  (by omega) (by rw [Hrl.out]; exact hn25) (by rw [Hrl.out]; omega) (by simp; omega) (w4.heap.size + 1) (by simp) ?_; intro g cap w5 hown1 hgrow hat hglt)
             have hBA := (HT4.out.next (((Below.refl w4.heap.size w4).alloc (Nat.le_refl _) (.cells #[.int .i64 ((C % 16777216 : Nat) : Int)] 3)).drew)).grew (rows' := bindRows n m xs fs k ++ [C % 16777216]) hgrow (by rw [List.length_append, List.length_singleton, List.map_append]; exact hown1)
             have hr5 : RBox w5 (w.heap.size + 1) n v := (hgrow.block _ (by simp; omega) hnr).trans ((Below.heap_alloc _ _ _ hzz).trans HT4.out.r)
             have f5 := hr5.f 1
             have c5 := hr5.c1
             have HBA := Lib.hid hBA
             clear hBA hr5 hown1 hgrow hat))
      all_goals
        (obtain ⟨W5, hW5⟩ : ∃ W5, W5 = w5.setCell ⟨w.heap.size + 1, 1, none⟩ (.slice (some ⟨g, 0, none⟩) ((bindRows n m xs fs k).length + 1) cap) := ⟨_, rfl⟩
         rw [← hW5] at HBA ⊢
         clear hW5 f5 c5
         have hS1 := bindSum_le n m xs fs k
         have hS2 : k * 25 ≤ 1500 := by omega
         have hS3 : C / 16777216 ≤ 25 := by omega
         go_wp2_with fail
         refine (Hcc _).mono ?_
         rintro e w6 ⟨rfl, rfl⟩
         go_wp2_with fail)
      all_goals
        (refine ⟨⟨k + 1, by omega, by go_num, ?_, _, by rw [bindRows_succ, ← HC'.out]; exact HBA.out⟩, ?_⟩
         · exact congrArg (Value.int .i64) (bindSum_cast n m xs fs k C HC'.out)
         · simp [intOf]; omega)
    · obtain rfl : k = xs.length := by omega
      obtain ⟨p, a0, c0, rfl⟩ : ∃ p a c, v = .slice p a c := by
        obtain ⟨_, ⟨h, _⟩ | ⟨g, cap, cur, h, _⟩⟩ := HT.out.row
        · exact ⟨_, _, _, h⟩
        · exact ⟨_, _, _, h⟩
      have f0 := HT.out.r.c0
      have f1 := HT.out.r.c1
      have g0 := HT.out.r.f 0
      have g1 := HT.out.r.f 1
      have HT1 := Lib.hid HT.out.set0
      have g2 := HT1.out.r.f 1
      have g3 := HT1.out.r.c1
      have HT2 := Lib.hid HT1.out.set1
      go_wp2_with fail
      have z0 := HT2.out.r.c0
      have z1 := HT2.out.r.c1
      refine bodyPost_ret (v := .tuple #[.agg #[.int .i64 (n : Int), .slice p a0 c0], .int .i64 (bindSum n m xs fs xs.length : Int), .int .i64 0]) ?_ rfl ⟨_, rfl, ?_, HT2.out.below⟩
      · simp [results, Try.results69, go_sem, z0, z1]
      have hrow := HT2.out.row
      rw [bindRows_len] at hrow
      obtain ⟨hl, h2⟩ := hrow
      refine ⟨hl, ?_⟩
      rcases h2 with h2 | ⟨g, cap, cur, e, hg, hh, r⟩
      · exact .inl h2
      · exact .inr ⟨g, cap, cur, e, by omega, hh, r⟩
end
end Go.Proofs.Ytdmgffoikebgkaa
namespace Go.Proofs.Ytdmgffoikebgkaa
section
open Go.RowKit

def ErrB (r : Int) (w : World) (e : Ending) (w' : World) : Prop := e = .returned (.tuple #[.agg #[.int .i64 0, .slice none 0 0], .int .i64 0, .int .i64 r]) ∧ Below w.heap.size w w'

set_option maxHeartbeats 1000000 in
theorem Bind_err (h : Int) (p : Option Addr) (c : Nat) (xs : List Int) (fx : Value) (m : Int) (w : World) (hr : Reads w (.slice p xs.length c) xs) (r : Int) (he : checkE h xs = r) (hne : r ≠ 0) :
    Calls Try.prog 69 #[.agg #[.int .i64 h, .slice p xs.length c], fx, .int .i64 m] w (ErrB r w) := by
  have Hc := fun o o2 => check_res h p c xs w o o2 hr r he
  have hne' : (r != 0) = true := by simpa using hne
  clear he hr hne
  go_enter Try.func69, Try.ntmps69
  go_wp2_with fail
  refine (Hc _ _).mono ?_
  rintro e w1 ⟨rfl, hb1⟩
  have q : ResBox w1 (w.heap.size + 1) := ((ResBox.new (w.alloc (.cells #[.int .i64 h, .slice p xs.length c] 37))).below hb1 (by simp)) |> (fun h => by simpa using h)
  have k0 := q.c0
  have k1 := q.c1
  have k2 := q.f 0
  have k3 := q.f 1
  have Hb := Lib.hid hb1
  clear hb1 q
  go_wp2_with fail
  refine bodyPost_ret (v := .tuple #[.agg #[.int .i64 0, .slice none 0 0], .int .i64 0, .int .i64 r]) ?_ rfl ⟨rfl, ?_⟩
  · simp [results, Try.results69, go_sem, k0, k1]
  · exact ((((Below.refl w.heap.size w).alloc (Nat.le_refl _) _).alloc (by simp) _).trans (Hb.out.mono (by omega))).setCell (by simp) _ |>.setCell (by simp) _

set_option maxHeartbeats 1000000 in
theorem Bind_form (n b off c fl fc : Nat) (fp : Option Addr) (m : Int) (xs : List Nat) (w : World) (hv : VAt w b off c n xs) (hfl : fl ≠ xs.length) :
    Calls Try.prog 69 #[.agg #[.int .i64 (n : Int), .slice (some ⟨b, off, none⟩) xs.length c], .slice fp fl fc, .int .i64 m] w (ErrB 4 w) := by
  have Hc := fun o o2 => check_res n (some ⟨b, off, none⟩) c (ints xs) w o o2 (by rw [ints_len]; exact hv.reads) 0 hv.ok.check
  simp only [ints_len] at Hc
  have hne : ((fl : Int) != (xs.length : Int)) = true := by simp; omega
  have hne1 : ¬ (fl : Int) = (xs.length : Int) := by omega
  clear hv
  go_enter Try.func69, Try.ntmps69
  go_wp2_with fail
  refine (Hc _ _).mono ?_
  rintro e w1 ⟨rfl, hb1⟩
  obtain ⟨q, hD, hB⟩ := res_facts hb1
  have d0 := hD.c0
  have d1 := hD.c1
  have k0 := q.c0
  have k1 := q.c1
  have k2 := q.f 0
  have k3 := q.f 1
  have Hb := Lib.hid hB
  clear hb1 q hB hD
  go_wp2_with fail
  refine bodyPost_ret (v := .tuple #[.agg #[.int .i64 0, .slice none 0 0], .int .i64 0, .int .i64 4]) ?_ rfl ⟨rfl, ?_⟩
  · simp [results, Try.results69, go_sem, k0, k1]
  · exact (Hb.out.setCell (by simp) _).setCell (by simp) _

set_option maxHeartbeats 1000000 in
theorem Bind_arg (n b off c fb fo fc : Nat) (m : Int) (xs : List Nat) (fs : List Int) (w : World) (hv : VAt w b off c n xs) (_hfl : fs.length = xs.length) (_hfat : Reads w (.slice (some ⟨fb, fo, none⟩) fs.length fc) fs)
    (hbad : ∀ W, Below w.heap.size w W → Calls Try.prog 138 #[.int .i64 (n : Int), .slice (some ⟨fb, fo, none⟩) xs.length fc] W fun e w' => e = .returned (.bool false) ∧ W = w') :
    Calls Try.prog 69 #[.agg #[.int .i64 (n : Int), .slice (some ⟨b, off, none⟩) xs.length c], .slice (some ⟨fb, fo, none⟩) xs.length fc, .int .i64 m] w (ErrB 2 w) := by
  have Hc := fun o o2 => check_res n (some ⟨b, off, none⟩) c (ints xs) w o o2 (by rw [ints_len]; exact hv.reads) 0 hv.ok.check
  simp only [ints_len] at Hc
  clear hv _hfl _hfat
  go_enter Try.func69, Try.ntmps69
  go_wp2_with fail
  refine (Hc _ _).mono ?_
  rintro e w1 ⟨rfl, hb1⟩
  obtain ⟨q, hD, hB⟩ := res_facts hb1
  have d0 := hD.c0
  have d1 := hD.c1
  have k0 := q.c0
  have k1 := q.c1
  have k2 := q.f 0
  have k3 := q.f 1
  have Hb := Lib.hid hB
  clear hb1 q hB hD
  go_wp2_with fail
  refine (hbad _ Hb.out).mono ?_
  rintro e w2 ⟨rfl, rfl⟩
  go_wp2_with fail
  refine bodyPost_ret (v := .tuple #[.agg #[.int .i64 0, .slice none 0 0], .int .i64 0, .int .i64 2]) ?_ rfl ⟨rfl, ?_⟩
  · simp [results, Try.results69, go_sem, k0, k1]
  · exact (Hb.out.setCell (by simp) _).setCell (by simp) _

set_option maxHeartbeats 1000000 in
theorem Bind_rng (n b off c fb fo fc : Nat) (m : Int) (xs : List Nat) (w : World) (hv : VAt w b off c n xs)
    (hgood : ∀ W, Below w.heap.size w W → Calls Try.prog 138 #[.int .i64 (n : Int), .slice (some ⟨fb, fo, none⟩) xs.length fc] W fun e w' => e = .returned (.bool true) ∧ W = w')
    (hm : m < 1 ∨ 24 < m) :
    Calls Try.prog 69 #[.agg #[.int .i64 (n : Int), .slice (some ⟨b, off, none⟩) xs.length c], .slice (some ⟨fb, fo, none⟩) xs.length fc, .int .i64 m] w (ErrB 3 w) := by
  have Hc := fun o o2 => check_res n (some ⟨b, off, none⟩) c (ints xs) w o o2 (by rw [ints_len]; exact hv.reads) 0 hv.ok.check
  simp only [ints_len] at Hc
  have Hib := fun W => isBound_any m W
  have hbd : (decide (1 ≤ m) && decide (m ≤ 24)) = false := by simp; omega
  rw [hbd] at Hib
  clear hv hbd
  go_enter Try.func69, Try.ntmps69
  go_wp2_with fail
  refine (Hc _ _).mono ?_
  rintro e w1 ⟨rfl, hb1⟩
  obtain ⟨q, hD, hB⟩ := res_facts hb1
  have d0 := hD.c0
  have d1 := hD.c1
  have k0 := q.c0
  have k1 := q.c1
  have k2 := q.f 0
  have k3 := q.f 1
  have Hb := Lib.hid hB
  clear hb1 q hB hD
  go_wp2_with fail
  refine (hgood _ Hb.out).mono ?_
  rintro e w2 ⟨rfl, rfl⟩
  go_wp2_with fail
  refine (Hib _).mono ?_
  rintro e w2 ⟨rfl, rfl⟩
  go_wp2_with fail
  refine bodyPost_ret (v := .tuple #[.agg #[.int .i64 0, .slice none 0 0], .int .i64 0, .int .i64 3]) ?_ rfl ⟨rfl, ?_⟩
  · simp [results, Try.results69, go_sem, k0, k1]
  · exact (Hb.out.setCell (by simp) _).setCell (by simp) _
end
end Go.Proofs.Ytdmgffoikebgkaa
namespace Go.Proofs.Ytdmgffoikebgkaa
section
open Go.RowKit

set_option maxRecDepth 100000 in
set_option maxHeartbeats 4000000 in
theorem Bind_nev (k0 n b off c fb fo fc m : Nat) (xs fs : List Nat) (w : World) (hv : VAt w b off c n xs) (hfl : fs.length = xs.length) (hfat : NatsAt w fb fo fs) (hfb : fb < w.heap.size) (hff : ∀ i, nthN fs i < 2 ^ n) (hm1 : 1 ≤ m) (hm : m ≤ 24)
    (hk0l : k0 < xs.length) (hall : ∀ i, i < k0 → bindN n (nthN xs i) (nthN fs i) m < never) (hnev : bindN n (nthN xs k0) (nthN fs k0) m = never) :
    Calls Try.prog 69 #[.agg #[.int .i64 (n : Int), .slice (some ⟨b, off, none⟩) xs.length c], .slice (some ⟨fb, fo, none⟩) xs.length fc, .int .i64 (m : Int)] w (ErrB 9 w) := by
  have Hc := fun o o2 => check_res n (some ⟨b, off, none⟩) c (ints xs) w o o2 (by rw [ints_len]; exact hv.reads) 0 hv.ok.check
  simp only [ints_len] at Hc
  have n0 := hv.ok.n0
  have n1 := hv.ok.n1
  have l0 := hv.ok.l0
  have l1 := hv.ok.l1
  have Har : ∀ W, Below w.heap.size w W → Calls Try.prog 138 #[.int .i64 (n : Int), .slice (some ⟨fb, fo, none⟩) xs.length fc] W fun e w' => e = .returned (.bool true) ∧ W = w' := fun W hB => by
    have h1 := areRows_any n fb fo fc (ints fs) W n1 (by rw [ints_len]; omega) ((hfat.below hB hfb).ints)
    rw [ints_len, hfl] at h1
    have h2 : rowsOk n (ints fs) = true := by
      unfold rowsOk ints
      rw [List.all_eq_true]
      intro x hx
      obtain ⟨y, hy, rfl⟩ := List.mem_map.1 hx
      obtain ⟨i, hi, rfl⟩ := List.mem_iff_getElem.1 hy
      have := hff i
      rw [nthN_get _ _ hi] at this
      have e : (2 : Int) ^ n = ((2 ^ n : Nat) : Int) := (Int.natCast_pow 2 n).symm
      rw [e]
      simp
      exact_mod_cast this
    rw [h2] at h1
    exact h1
  have Hib := fun W => isBound_any (m : Int) W
  have hbd : (decide (1 ≤ (m : Int)) && decide ((m : Int) ≤ 24)) = true := by simp; omega
  rw [hbd] at Hib
  have HV := Lib.hid hv
  have HA := Lib.hid hall
  have HF := Lib.hid hfat
  have Hfl := Lib.hid hfl
  have HFF := Lib.hid hff
  clear hv hall hfat hfl hff hbd
  go_enter Try.func69, Try.ntmps69
  go_wp2_with fail
  refine (Hc _ _).mono ?_
  rintro e w1 ⟨rfl, hb1⟩
  obtain ⟨q, hD, hB⟩ := res_facts hb1
  have d0 := hD.c0
  have d1 := hD.c1
  have k0 := q.c0
  have k2 := q.f 0
  have Hq := Lib.hid q
  have Hd := Lib.hid hD
  have Hb := Lib.hid hB
  clear hb1 q hB hD
  go_wp2_with fail
  refine (Har _ Hb.out).mono ?_
  rintro e w2 ⟨rfl, rfl⟩
  go_wp2_with fail
  refine (Hib _).mono ?_
  rintro e w2 ⟨rfl, rfl⟩
  go_wp2_with fail
  have hS : BindAt w n b off c xs (bindRows n m xs fs 0) (.slice none 0 0) (w1.setCell ⟨w.heap.size + 1, 0, none⟩ (.int .i64 (n : Int))) := by
    have e : ∀ j, (w1.setCell ⟨w.heap.size + 1, 0, none⟩ (.int .i64 (n : Int))).cell? ⟨w.heap.size, j, none⟩ = w1.cell? ⟨w.heap.size, j, none⟩ := fun j => World.cell?_of_block (w := w1) (Below.heap_setCell _ _ _ _ (by simp))
    exact ⟨⟨(e 0).trans d0, (e 1).trans d1⟩, RBox.of_res Hq.out n, World.ownsRow_nil _ _ _ _, Hb.out.setCell (by simp) _⟩
  obtain ⟨W2, hW2⟩ : ∃ W2, W2 = w1.setCell ⟨w.heap.size + 1, 0, none⟩ (.int .i64 (n : Int)) := ⟨_, rfl⟩
  rw [← hW2] at hS ⊢
  have HS := Lib.hid hS
  clear hW2 hS d0 d1 k0 k2 Hq Hd Hb
  go_loopw [7, 42] (fun cv i wr => ∃ k : Nat, k ≤ k0 ∧ i = .int .i64 k ∧ cv = .int .i64 (bindSum n m xs fs k : Int) ∧ ∃ v, BindAt w n b off c xs (bindRows n m xs fs k) v wr) (fun _ i _ => xs.length - (intOf i).toNat)
  case atStart => exact ⟨0, Nat.zero_le _, rfl, rfl, _, HS.out⟩
  case round =>
    obtain ⟨k, hk, rfl, rfl, v, hT⟩ := hrel
    have d0 := hT.d.c0
    have d1 := hT.d.c1
    have HT := Lib.hid hT
    clear hT
    have hkx : k < xs.length := by omega
    have hf := (HF.out.below HT.out.below hfb) k (by have := Hfl.out; omega)
    have hk0 : (0 : Int) ≤ (k : Int) := by omega
    have hk1 : (k : Int) < (xs.length : Int) := by omega
    have Hpk := fun W (h : Below w.heap.size w W) => pick_any n b off c xs k W (HV.out.below h).lt (by omega) (HV.out.below h).at' hkx
    have hfk : nthN fs k < 16777216 := Nat.lt_of_lt_of_le (HFF.out k) (Nat.le_trans (Nat.pow_le_pow_right (by decide) n1) (by decide))
    have Hbn := fun W => bind_any n (nthN xs k) (nthN fs k) m W n0 n1 hm1 hm (HV.out.ok.lt' k) hfk
    unfold bnd at Hbn
    have hlf : fb < w.heap.size := hfb
    have HK : Hid (∀ W, BindAt w n b off c xs (bindRows n m xs fs k) v W → W.cell? ⟨w.heap.size, 0, none⟩ = some (.int .i64 (n : Int)) ∧ W.cell? ⟨w.heap.size, 1, none⟩ = some (.slice (some ⟨b, off, none⟩) xs.length c) ∧ W.cell? ⟨fb, fo + k, none⟩ = some (.int .i64 (nthN fs k : Int)) ∧ BindAt w n b off c xs (bindRows n m xs fs k) v W) :=
      Lib.hid (fun W h => ⟨h.d.c0, h.d.c1, (HF.out.below h.below hfb) k (by have := Hfl.out; omega), h⟩)
    have HTd := Lib.hid HT.out.drew
    clear hfk
    go_wp2_with fail
    go_region_held3 (fun w' => w'.cell? ⟨w.heap.size, 0, none⟩ = some (.int .i64 (n : Int)) ∧ w'.cell? ⟨w.heap.size, 1, none⟩ = some (.slice (some ⟨b, off, none⟩) xs.length c) ∧ w'.cell? ⟨fb, fo + k, none⟩ = some (.int .i64 (nthN fs k : Int)) ∧ BindAt w n b off c xs (bindRows n m xs fs k) v w')
      (first | exact HK.out _ HTd.out | (refine HK.out _ (BindAt.next ?_ (by assumption)); go_split_ands; assumption))
      (first | (go_at_call 140; (with_reducible refine (Hpk _ ?_).mono ?_); rotate_left 1; rintro e w3 ⟨rfl, hb3⟩; rotate_left 1; (first | exact HTd.out.below | (go_split_ands; exact BindAt.below (by assumption)))) | (go_at_call 141; (with_reducible refine (Hbn _).mono ?_); rintro e w4 ⟨rfl, hb4⟩))
    have hT4 : BindAt w n b off c xs (bindRows n m xs fs k) v w4 := by go_split_ands; assumption
    obtain ⟨C, hC⟩ : ∃ C, C = bindN n (nthN xs k) (nthN fs k) m := ⟨_, rfl⟩
    rw [← hC]
    by_cases hlt : k < k0
    · have hCn : (C : Int) < 419430400 := by have := HA.out k hlt; rw [← hC] at this; unfold never at this; omega
      have hCge : decide ((419430400 : Int) ≤ (C : Int)) = false := by simp; omega
      have hCb : C < 9223372036854775808 := by omega
      have HC' := Lib.hid hC
      have HT4 := Lib.hid hT4
      have Hcr := fun W => choiceRow_any C W hCb
      have Hcc := fun W => choiceChanges_any C W hCb
      have f0 := hT4.r.c1
      have f1 := hT4.r.f 1
      have hzz : w.heap.size + 1 < w4.heap.size := hT4.r.lt
      obtain ⟨i0, hi, hz0, hz1, hz2⟩ := info_parts Try.info3
      have hrl : (bindRows n m xs fs k).length = k := bindRows_len n m xs fs k
      have HRow := Lib.hid hT4.row
      have Hrl := Lib.hid hrl
      clear hC hT4 hf d0 d1 hrl hb3 hb4
      have hsz4 : w.heap.size + 1 + 1 ≤ w4.heap.size := hzz
      have hnr : some (w.heap.size + 1) ≠ v.ownBlock := HT4.out.r.not_row (by decide) HRow.out
      have hn25 : k + 1 ≤ maxLen := by unfold maxLen; omega
      have hCmod : C % 16777216 < 16777216 := Nat.mod_lt _ (by decide)
      go_wp2_with fail
      go_region_law
        (first
          | (go_simp; go_at_call 142; (with_reducible refine (Hcr _).mono ?_); rintro e w5 ⟨rfl, rfl⟩)
          | ((refine step_append_lies _ (by rfl) _ _ _ (by rfl) (w.heap.size + 1 + 1) 3 i0 _ 1 8 Try.underlying24 hi hz0 hz1 hz2 rfl (by omega) v (bindRows n m xs fs k).length ((bindRows n m xs fs k).map natV) (by rfl) ((HRow.out.alloc _).drew)
                  ⟨w4.heap.size, 0, none⟩ 1 1 [.int .i64 ((C % 16777216 : Nat) : Int)] (by rfl) (by rfl) (World.news_of_block (cs := #[.int .i64 ((C % 16777216 : Nat) : Int)]) (t := 3) (fr := (0, 0)) (heap_alloc_new w4 _)) (by simp [Value.oneCell'])
                  (by omega) (by rw [Hrl.out]; exact hn25) (by rw [Hrl.out]; omega) (by simp; omega) (w4.heap.size + 1) (by simp) ?_; intro g cap w5 hown1 hgrow hat hglt)
             have hBA := (HT4.out.next (((Below.refl w4.heap.size w4).alloc (Nat.le_refl _) (.cells #[.int .i64 ((C % 16777216 : Nat) : Int)] 3)).drew)).grew (rows' := bindRows n m xs fs k ++ [C % 16777216]) hgrow (by rw [List.length_append, List.length_singleton, List.map_append]; exact hown1)
             have hr5 : RBox w5 (w.heap.size + 1) n v := (hgrow.block _ (by simp; omega) hnr).trans ((Below.heap_alloc _ _ _ hzz).trans HT4.out.r)
             have f5 := hr5.f 1
             have c5 := hr5.c1
             have HBA := Lib.hid hBA
             clear hBA hr5 hown1 hgrow hat))
      all_goals
        (obtain ⟨W5, hW5⟩ : ∃ W5, W5 = w5.setCell ⟨w.heap.size + 1, 1, none⟩ (.slice (some ⟨g, 0, none⟩) ((bindRows n m xs fs k).length + 1) cap) := ⟨_, rfl⟩
         rw [← hW5] at HBA ⊢
         clear hW5 f5 c5
         have hS1 := bindSum_le n m xs fs k
         have hS2 : k * 25 ≤ 1500 := by omega
         have hS3 : C / 16777216 ≤ 25 := by omega
         go_wp2_with fail
         refine (Hcc _).mono ?_
         rintro e w6 ⟨rfl, rfl⟩
         go_wp2_with fail)
      all_goals
        (refine ⟨⟨k + 1, by omega, by go_num, ?_, _, by rw [bindRows_succ, ← HC'.out]; exact HBA.out⟩, ?_⟩
         · exact congrArg (Value.int .i64) (bindSum_cast n m xs fs k C HC'.out)
         · simp [intOf]; omega)
    · obtain rfl : k = k0 := by omega
      rw [hnev] at hC
      unfold never at hC
      subst hC
      have k0' := hT4.r.c0
      have k1' := hT4.r.c1
      have f0 := hT4.r.f 0
      have f1 := hT4.r.f 1
      have HT4 := Lib.hid hT4
      clear hT4 hf d0 d1 hb3 hb4
      go_wp2_with fail
      refine bodyPost_ret (v := .tuple #[.agg #[.int .i64 0, .slice none 0 0], .int .i64 0, .int .i64 9]) ?_ rfl ⟨rfl, ?_⟩
      · simp [results, Try.results69, go_sem, k0', k1']
      · exact (HT4.out.below.setCell (by simp) _).setCell (by simp) _
end
end Go.Proofs.Ytdmgffoikebgkaa
