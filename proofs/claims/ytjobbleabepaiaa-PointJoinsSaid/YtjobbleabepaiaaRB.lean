/- Lanes: designs that come out of calls, and the boxes of these, in whatever order they are made; a region of copies. -/
import Derived.Test.YtjobbleabepaiaaRA
import Derived.Test.YtjobbleabepaiaaXT
import Derived.Deep.RegionWith
import Derived.KernelRfl
namespace Go.Proofs.Ytjobbleabepaiaa
open Go.RowKit

/-- the block of a copy that has rows -/
def qk (l : Nat) (p : Option Addr) : Option Nat := if l = 0 then none else p.map (·.block)
structure Lane (lv : Value) (E : Int → List Int → Prop) (d0 d1 d2 d3 : Bool) (uL uC uP : Value) (q D : Option Nat) (W : World) : Prop where
  ld : d0 = true → uL = lv
  cl : d1 = true → ∃ h p2 l c2 xs, uC = .agg #[.int .i64 h, .slice p2 l c2] ∧ E h xs ∧ Reads W (.slice p2 l c2) xs ∧ q = qk l p2
  al : d2 = true → ∃ b, D = some b ∧ uP = .pointer (some ⟨b, 0, none⟩) ∧ ∃ v0 v1, W.heap[b]? = some (.cells #[v0, v1] 24 (0, 0))
  st : d3 = true → ∃ b h p2 l c2 xs, D = some b ∧ uP = .pointer (some ⟨b, 0, none⟩) ∧ W.heap[b]? = some (.cells #[.int .i64 h, .slice p2 l c2] 24 (0, 0)) ∧ E h xs ∧ Reads W (.slice p2 l c2) xs ∧ q = qk l p2
  n1 : d1 = false → q = none
  n2 : d2 = false → D = none
  dd : d3 = true → d1 = true ∧ d2 = true
/-- the blocks that were made lie apart -/
structure Sep (lo : Nat) (q D : Nat → Option Nat) (W : World) : Prop where
  ql : ∀ i b, q i = some b → lo ≤ b ∧ b < W.heap.size
  Dl : ∀ i b, D i = some b → lo ≤ b ∧ b < W.heap.size
  DD : ∀ i j b, D i = some b → D j = some b → i = j
  Dq : ∀ i j b, D i = some b → q j = some b → False
theorem reads_setCell {W : World} {p : Option Addr} {l c : Nat} {xs : List Int} (h : Reads W (.slice p l c) xs) (b k : Nat) (u : Value) (hne : qk l p ≠ some b) : Reads (W.setCell ⟨b, k, none⟩ u) (.slice p l c) xs := by
  obtain ⟨p', c', e, hl, hx⟩ := h
  refine ⟨p', c', e, hl, fun h0 => ?_⟩
  obtain ⟨b', off, rfl, hb, hi⟩ := hx h0
  simp at e
  have hp : b' ≠ b := fun h => hne (by rw [e.1, ← h]; unfold qk; rw [if_neg (by omega)]; rfl)
  refine ⟨b', off, rfl, by simpa [World.setCell] using hb, fun i hi' => ?_⟩
  refine Eq.trans ?_ (hi i hi')
  exact World.cell?_of_block (w := W) (a := ⟨b', off + i, none⟩) (Below.heap_setCell _ _ _ _ (fun h => hp h))
theorem heap_setCell_ne {W : World} {b b' k : Nat} {u : Value} (h : b' ≠ b) : (W.setCell ⟨b, k, none⟩ u).heap[b']? = W.heap[b']? := Below.heap_setCell _ _ _ _ (fun e => h e)
theorem setCell_size (W : World) (a : Addr) (u : Value) : (W.setCell a u).heap.size = W.heap.size := by simp [World.setCell]
theorem Lane.below {lv : Value} {E : Int → List Int → Prop} {d0 d1 d2 d3 : Bool} {uL uC uP : Value} {q D : Option Nat} {W W' : World} (h : Lane lv E d0 d1 d2 d3 uL uC uP q D W) (hb : Below W.heap.size W W') : Lane lv E d0 d1 d2 d3 uL uC uP q D W' := by
  have hblk : ∀ b o, W.heap[b]? = some o → W'.heap[b]? = some o := fun b o ho => (hb.block b (Array.getElem?_eq_some_iff.1 ho).1).trans ho
  refine ⟨h.ld, fun e => ?_, fun e => ?_, fun e => ?_, h.n1, h.n2, h.dd⟩
  · obtain ⟨h, p2, l, c2, xs, a, hE, b, c⟩ := h.cl e
    exact ⟨h, p2, l, c2, xs, a, hE, b.below hb, c⟩
  · obtain ⟨b, a, c, v0, v1, d⟩ := h.al e
    exact ⟨b, a, c, v0, v1, hblk _ _ d⟩
  · obtain ⟨b, h, p2, l, c2, xs, a, c, d, hE, r, s⟩ := h.st e
    exact ⟨b, h, p2, l, c2, xs, a, c, hblk _ _ d, hE, r.below hb, s⟩
theorem Lane.other {lv : Value} {E : Int → List Int → Prop} {d0 d1 d2 d3 : Bool} {uL uC uP : Value} {q D : Option Nat} {W : World} (h : Lane lv E d0 d1 d2 d3 uL uC uP q D W) (b k : Nat) (u : Value) (hq : q ≠ some b) (hD : D ≠ some b) : Lane lv E d0 d1 d2 d3 uL uC uP q D (W.setCell ⟨b, k, none⟩ u) := by
  refine ⟨h.ld, fun e => ?_, fun e => ?_, fun e => ?_, h.n1, h.n2, h.dd⟩
  · obtain ⟨h, p2, l, c2, xs, a, hE, r, c⟩ := h.cl e
    exact ⟨h, p2, l, c2, xs, a, hE, reads_setCell r _ _ _ (by rw [← c]; exact hq), c⟩
  · obtain ⟨b', a, c, v0, v1, d⟩ := h.al e
    exact ⟨b', a, c, v0, v1, (heap_setCell_ne (fun e => hD (by rw [a, e]))).trans d⟩
  · obtain ⟨b', h, p2, l, c2, xs, a, c, d, hE, r, s⟩ := h.st e
    exact ⟨b', h, p2, l, c2, xs, a, c, (heap_setCell_ne (fun e => hD (by rw [a, e]))).trans d, hE, reads_setCell r _ _ _ (by rw [← s]; exact hq), s⟩
theorem set_getD (L : Array Bool) (i m : Nat) : (L.setIfInBounds i true).getD m true = (decide (m = i) || L.getD m true) := by
  simp only [Array.getD_eq_getD_getElem?]
  by_cases e : m = i
  · subst e
    rw [Array.getElem?_setIfInBounds]
    by_cases h : m < L.size <;> simp [h]
  · rw [Array.getElem?_setIfInBounds_ne (Ne.symm e)]; simp [e]
/-- the slots of the lanes -/
structure Slots (k : Nat) (ld cs ps : Nat → Nat) : Prop where
  lc : ∀ i j, i < k → j < k → ld i ≠ cs j
  lp : ∀ i j, i < k → j < k → ld i ≠ ps j
  cp : ∀ i j, i < k → j < k → cs i ≠ ps j
  ll : ∀ i j, i < k → j < k → ld i = ld j → i = j
  cc : ∀ i j, i < k → j < k → cs i = cs j → i = j
  pp : ∀ i j, i < k → j < k → ps i = ps j → i = j
def JL (k : Nat) (x : Nat → Value) (E : Nat → Int → List Int → Prop) (ld cs ps : Nat → Nat) (Wb : World) (L : Array Bool) (v : Nat → Value) (W : World) : Prop :=
  ∃ q D : Nat → Option Nat, Below Wb.heap.size Wb W ∧ Sep Wb.heap.size q D W ∧ ∀ j, j < k → Lane (x j) (E j) (L.getD (2 * j) true) (L.getD (2 * j + 1) true) (L.getD (2 * k + j) true) (L.getD (3 * k + j) true) (v (ld j)) (v (cs j)) (v (ps j)) (q j) (D j) W
section
variable {k : Nat} {x : Nat → Value} {E : Nat → Int → List Int → Prop} {ld cs ps : Nat → Nat} {Wb : World} {L : Array Bool} {v : Nat → Value} {W W' : World}
theorem JL.start (Wb : World) (hL : ∀ i, i < 4 * k → L.getD i true = false) : JL k x E ld cs ps Wb L v Wb := by
  refine ⟨fun _ => none, fun _ => none, Below.refl _ _, ⟨by simp, by simp, by simp, by simp⟩, fun j hj => ?_⟩
  rw [hL _ (by omega), hL _ (by omega), hL _ (by omega), hL _ (by omega)]
  exact ⟨by simp, by simp, by simp, by simp, by simp, by simp, by simp⟩
theorem upd_some (v : Nat → Value) (d s : Nat) (u : Value) : updO v (some d) u s = if s = d then u else v s := rfl
theorem JL.load (h : JL k x E ld cs ps Wb L v W) (S : Slots k ld cs ps) {j : Nat} (hj : j < k) : JL k x E ld cs ps Wb (L.setIfInBounds (2 * j) true) (updO v (some (ld j)) (x j)) W := by
  obtain ⟨q, D, hb, hs, hl⟩ := h
  refine ⟨q, D, hb, hs, fun i hi => ?_⟩
  have g := hl i hi
  simp only [set_getD, upd_some]
  rw [if_neg (Ne.symm (S.lc j i hj hi)), if_neg (Ne.symm (S.lp j i hj hi))]
  have e1 : decide (2 * i + 1 = 2 * j) = false := by simp; omega
  have e2 : decide (2 * k + i = 2 * j) = false := by simp; omega
  have e3 : decide (3 * k + i = 2 * j) = false := by simp; omega
  rw [e1, e2, e3, Bool.false_or, Bool.false_or, Bool.false_or]
  by_cases e : i = j
  · subst e
    rw [if_pos rfl]
    exact ⟨fun _ => rfl, g.cl, g.al, g.st, g.n1, g.n2, g.dd⟩
  · rw [if_neg (fun h => e (S.ll i j hi hj h))]
    have e0 : decide (2 * i = 2 * j) = false := by simp; omega
    rw [e0, Bool.false_or]
    exact g
theorem JL.call (h : JL k x E ld cs ps Wb L v W) (S : Slots k ld cs ps) {j : Nat} (hj : j < k) (hn : L.getD (2 * j + 1) true = false) {h0 : Int} {p2 : Option Addr} {l c2 : Nat} {xs : List Int} (hE : E j h0 xs) (hr : Reads W' (.slice p2 l c2) xs)
    (hf : ∀ a, p2 = some a → W.heap.size ≤ a.block) (hB : Below W.heap.size W W') :
    JL k x E ld cs ps Wb (L.setIfInBounds (2 * j + 1) true) (updO v (some (cs j)) (.agg #[.int .i64 h0, .slice p2 l c2])) W' := by
  obtain ⟨q, D, hb, hs, hl⟩ := h
  have hsz := hB.size
  have hkey : ∀ b, qk l p2 = some b → W.heap.size ≤ b ∧ b < W'.heap.size := fun b hq => by
    unfold qk at hq
    split at hq
    · simp at hq
    · rename_i hl0
      obtain ⟨a, ha, rfl⟩ := Option.map_eq_some_iff.1 hq
      refine ⟨hf a ha, ?_⟩
      have hlen := reads_len hr
      obtain ⟨p', c', e, _, hx⟩ := hr
      obtain ⟨b', off, rfl, hb', _⟩ := hx (by omega)
      simp at e
      rw [ha] at e
      have := e.1
      simp at this
      rw [this]; exact hb'
  refine ⟨fun i => if i = j then qk l p2 else q i, D, hb.trans (hB.mono hb.size), ⟨fun i b => ?_, fun i b hi => ?_, hs.DD, fun i i' b h1 h2 => ?_⟩, fun i hi => ?_⟩
  · intro hi
    by_cases e : i = j
    · rw [if_pos e] at hi
      have := hkey b hi
      have := hb.size
      omega
    · rw [if_neg e] at hi
      have := hs.ql i b hi
      omega
  · have := hs.Dl i b hi
    omega
  · by_cases e : i' = j
    · rw [if_pos e] at h2
      have := hkey b h2
      have := hs.Dl i _ h1
      omega
    · rw [if_neg e] at h2
      exact hs.Dq i i' b h1 h2
  · have g := (hl i hi).below hB
    simp only [set_getD, upd_some]
    rw [if_neg (S.lc i j hi hj), if_neg (Ne.symm (S.cp j i hj hi))]
    have e1 : decide (2 * i = 2 * j + 1) = false := by simp; omega
    have e2 : decide (2 * k + i = 2 * j + 1) = false := by simp; omega
    have e3 : decide (3 * k + i = 2 * j + 1) = false := by simp; omega
    rw [e1, e2, e3, Bool.false_or, Bool.false_or, Bool.false_or]
    by_cases e : i = j
    · subst e
      rw [if_pos rfl, if_pos rfl]
      exact ⟨g.ld, fun _ => ⟨h0, p2, l, c2, xs, rfl, hE, hr, rfl⟩, g.al, fun e => (by have := (g.dd e).1; rw [hn] at this; simp at this), by simp, g.n2, fun e => ⟨by simp, (g.dd e).2⟩⟩
    · rw [if_neg (fun h => e (S.cc i j hi hj h)), if_neg e]
      have e0 : decide (2 * i + 1 = 2 * j + 1) = false := by simp; omega
      rw [e0, Bool.false_or]
      exact g
theorem JL.alloc (h : JL k x E ld cs ps Wb L v W) (S : Slots k ld cs ps) {j : Nat} (hj : j < k) (hn : L.getD (2 * k + j) true = false) (v0 v1 : Value) :
    JL k x E ld cs ps Wb (L.setIfInBounds (2 * k + j) true) (updO v (some (ps j)) (.pointer (some ⟨W.heap.size, 0, none⟩))) (W.alloc (.cells #[v0, v1] 24)) := by
  obtain ⟨q, D, hb, hs, hl⟩ := h
  have hB := below1 W (.cells #[v0, v1] 24)
  have hsz : (W.alloc (.cells #[v0, v1] 24)).heap.size = W.heap.size + 1 := by simp
  have hbs := hb.size
  refine ⟨q, fun i => if i = j then some W.heap.size else D i, hb.trans (hB.mono hb.size), ⟨fun i b hi => ?_, fun i b hi => ?_, fun i i' b h1 h2 => ?_, fun i i' b h1 h2 => ?_⟩, fun i hi => ?_⟩
  · have := hs.ql i b hi
    omega
  · by_cases e : i = j
    · rw [if_pos e] at hi
      simp at hi; omega
    · rw [if_neg e] at hi
      have := hs.Dl i b hi
      omega
  · by_cases e : i = j
    · by_cases e' : i' = j
      · omega
      · rw [if_pos e] at h1
        rw [if_neg e'] at h2
        simp at h1
        have := hs.Dl i' b h2
        omega
    · by_cases e' : i' = j
      · rw [if_neg e] at h1
        rw [if_pos e'] at h2
        simp at h2
        have := hs.Dl i b h1
        omega
      · rw [if_neg e] at h1
        rw [if_neg e'] at h2
        exact hs.DD i i' b h1 h2
  · by_cases e : i = j
    · rw [if_pos e] at h1
      simp at h1
      have := hs.ql i' b h2
      omega
    · rw [if_neg e] at h1
      exact hs.Dq i i' b h1 h2
  · have g := (hl i hi).below hB
    simp only [set_getD, upd_some]
    rw [if_neg (S.lp i j hi hj), if_neg (S.cp i j hi hj)]
    have e1 : decide (2 * i = 2 * k + j) = false := by simp; omega
    have e2 : decide (2 * i + 1 = 2 * k + j) = false := by simp; omega
    have e3 : decide (3 * k + i = 2 * k + j) = false := by simp; omega
    rw [e1, e2, e3, Bool.false_or, Bool.false_or, Bool.false_or]
    by_cases e : i = j
    · subst e
      rw [if_pos rfl, if_pos rfl]
      exact ⟨g.ld, g.cl, fun _ => ⟨W.heap.size, rfl, rfl, v0, v1, World.alloc_heap_new W _⟩, fun e => (by have := (g.dd e).2; rw [hn] at this; simp at this), g.n1, by simp, fun e => ⟨(g.dd e).1, by simp⟩⟩
    · rw [if_neg (fun h => e (S.pp i j hi hj h)), if_neg e]
      have e0 : decide (2 * k + i = 2 * k + j) = false := by simp; omega
      rw [e0, Bool.false_or]
      exact g
/-- what a store finds -/
theorem JL.ready (h : JL k x E ld cs ps Wb L v W) {j : Nat} (hj : j < k) (h1 : L.getD (2 * j + 1) true = true) (h2 : L.getD (2 * k + j) true = true) :
    ∃ b h0 p2 l c2, v (ps j) = .pointer (some ⟨b, 0, none⟩) ∧ v (cs j) = .agg #[.int .i64 h0, .slice p2 l c2] ∧ Wb.heap.size ≤ b ∧ b < W.heap.size ∧ (∃ v0 v1, W.heap[b]? = some (.cells #[v0, v1] 24 (0, 0))) ∧
      (L.getD (3 * k + j) true = false → JL k x E ld cs ps Wb (L.setIfInBounds (3 * k + j) true) v ((W.setCell ⟨b, 0, none⟩ (.int .i64 h0)).setCell ⟨b, 1, none⟩ (.slice p2 l c2))) := by
  obtain ⟨q, D, hb, hs, hl⟩ := h
  have g := hl j hj
  obtain ⟨h0, p2, l, c2, xs, hc1, hcE, hc2, hc3⟩ := g.cl h1
  obtain ⟨b, ha1, ha2, v0, v1, ha3⟩ := g.al h2
  have hbl := hs.Dl j b ha1
  refine ⟨b, h0, p2, l, c2, ha2, hc1, hbl.1, hbl.2, ⟨v0, v1, ha3⟩, fun hn => ⟨q, D, (hb.setCell hbl.1 _).setCell hbl.1 _, ⟨fun i b' hi => ?_, fun i b' hi => ?_, hs.DD, hs.Dq⟩, fun i hi => ?_⟩⟩
  · rw [setCell_size, setCell_size]; exact hs.ql i b' hi
  · rw [setCell_size, setCell_size]; exact hs.Dl i b' hi
  · simp only [set_getD]
    have e1 : decide (2 * i = 3 * k + j) = false := by simp; omega
    have e2 : decide (2 * i + 1 = 3 * k + j) = false := by simp; omega
    have e3 : decide (2 * k + i = 3 * k + j) = false := by simp; omega
    rw [e1, e2, e3, Bool.false_or, Bool.false_or, Bool.false_or]
    have hqi : q i ≠ some b := fun h => hs.Dq j i b ha1 h
    by_cases e : i = j
    · subst e
      have hqp : qk l p2 ≠ some b := by rw [← hc3]; exact hqi
      have hh : ((W.setCell ⟨b, 0, none⟩ (.int .i64 h0)).setCell ⟨b, 1, none⟩ (.slice p2 l c2)).heap[b]? = some (.cells #[.int .i64 h0, .slice p2 l c2] 24 (0, 0)) := by
        simp [World.setCell, Array.getElem?_modify, ha3]
      have hr := reads_setCell (reads_setCell hc2 b 0 (.int .i64 h0) hqp) b 1 (.slice p2 l c2) hqp
      exact ⟨g.ld, fun _ => ⟨h0, p2, l, c2, xs, hc1, hcE, hr, hc3⟩, fun _ => ⟨b, ha1, ha2, _, _, hh⟩, fun _ => ⟨b, h0, p2, l, c2, xs, ha1, ha2, hh, hcE, hr, hc3⟩, g.n1, g.n2, fun _ => ⟨h1, h2⟩⟩
    · have hDi : D i ≠ some b := fun h => e (hs.DD i j b h ha1)
      have e0 : decide (3 * k + i = 3 * k + j) = false := by simp; omega
      rw [e0, Bool.false_or]
      exact ((hl i hi).other b 0 _ hqi hDi).other b 1 _ hqi hDi
/-- when all is done -/
theorem JL.done (h : JL k x E ld cs ps Wb L v W) (hL : ∀ i, i < 4 * k → L.getD i true = true) : Below Wb.heap.size Wb W ∧ ∀ j, j < k → ∃ b h0 p2 l c2 xs, v (ps j) = .pointer (some ⟨b, 0, none⟩) ∧ E j h0 xs ∧ ArgBox W b h0 p2 l c2 ∧ Reads W (.slice p2 l c2) xs := by
  obtain ⟨q, D, hb, hs, hl⟩ := h
  refine ⟨hb, fun j hj => ?_⟩
  obtain ⟨b, h0, p2, l, c2, xs, _, h2, h3, hE, h4, _⟩ := (hl j hj).st (hL _ (by omega))
  exact ⟨b, h0, p2, l, c2, xs, h2, hE, ⟨by simp [World.cell?, h3], by simp [World.cell?, h3]⟩, h4⟩
theorem JL.lt (h : JL k x E ld cs ps Wb L v W) : Below Wb.heap.size Wb W := by obtain ⟨q, D, hb, _⟩ := h; exact hb
theorem JL.loaded (h : JL k x E ld cs ps Wb L v W) {j : Nat} (hj : j < k) (h0 : L.getD (2 * j) true = true) : v (ld j) = x j := by
  obtain ⟨q, D, hb, hs, hl⟩ := h
  exact (hl j hj).ld h0
end
end Go.Proofs.Ytjobbleabepaiaa
namespace Go.Proofs.Ytjobbleabepaiaa
open Go.RowKit

def CopyF (h : Int) (l : Nat) (xs : List Int) (w : World) (e : Ending) (w' : World) : Prop := ∃ p c, e = .returned (.agg #[.int .i64 h, .slice p l c]) ∧ Reads w' (.slice p l c) xs ∧ (∀ a, p = some a → w.heap.size ≤ a.block) ∧ Below w.heap.size w w'
set_option maxHeartbeats 1000000 in
theorem own_fresh0 (h : Int) (p : Option Addr) (c : Nat) (xs : List Int) (w : World) (hl : xs.length ≤ 100000) (hr : Reads w (.slice p xs.length c) xs) :
    Calls Try.prog 18 #[.agg #[.int .i64 h, .slice p xs.length c]] w (CopyF h xs.length xs w) := by
  have hB : Below w.heap.size w ((w.alloc (.cells #[.int .i64 h, .slice p xs.length c] 24)).alloc (.cells #[.int .i64 0, .slice none 0 0] 24)).drew := (((Below.refl _ _).alloc (Nat.le_refl _) _).alloc (by simp) _).drew
  have hi := ints_any p c xs _ hl (hr.below hB)
  have HI := Lib.hid hi
  have HB := Lib.hid hB
  have Q : Hid (ResBox ((w.alloc (.cells #[.int .i64 h, .slice p xs.length c] 24)).alloc (.cells #[.int .i64 0, .slice none 0 0] 24)).drew (w.heap.size + 1)) := Lib.hid (by
    have := ResBox.new (w.alloc (.cells #[.int .i64 h, .slice p xs.length c] 24))
    rw [World.size_alloc] at this
    exact this)
  have D0 : Hid (((w.alloc (.cells #[.int .i64 h, .slice p xs.length c] 24)).alloc (.cells #[.int .i64 0, .slice none 0 0] 24)).drew.cell? ⟨w.heap.size, 0, none⟩ = some (.int .i64 h)) := Lib.hid (by
    refine (((Below.refl (w.heap.size + 1) (w.alloc (.cells #[.int .i64 h, .slice p xs.length c] 24))).alloc (by simp) _).drew.cell (p := ⟨w.heap.size, 0, none⟩) (by simp)).trans (by simp))
  clear hi hB hr
  go_enter Try.func18, Try.ntmps18
  go_wp2_with fail
  go_region_with (go_at_call 28; (with_reducible refine HI.out.mono ?_); rintro e w3 ⟨p3, c3, rfl, hr3, hp3, hb3⟩; have q := ResBox.below Q.out hb3 (by simp); have d03 := cell_lift hb3 (by simp; omega) D0.out; have k0 := q.c0; have k1 := q.c1; have k2 := q.f 0; have k3 := q.f 1; have HR3 := Lib.hid hr3; have HB3 := Lib.hid hb3; have HP3 := Lib.hid hp3; clear q hr3 hb3 hp3)
  all_goals go_wp2
  all_goals refine bodyPost_ret (v := .agg #[.int .i64 h, .slice p3 xs.length c3]) ?_ rfl ⟨p3, c3, rfl, ?_, ?_, ?_⟩
  all_goals first
    | exact (((HB.out.trans (HB3.out.mono HB.out.size)).setCell (by simp) _).setCell (by simp) _)
    | exact (HR3.out.set _ _ (fun a e => by have := HP3.out a e; simp at this ⊢; omega)).set _ _ (fun a e => by have := HP3.out a e; simp at this ⊢; omega)
    | exact (fun a e => by have := HP3.out a e; simp at this ⊢; omega)
    | simp [results, Try.results18, go_sem, k0, k1]
theorem own_fresh (h : Int) (p : Option Addr) (l c : Nat) (xs : List Int) (w : World) (hl : l ≤ 100000) (hr : Reads w (.slice p l c) xs) :
    Calls Try.prog 18 #[.agg #[.int .i64 h, .slice p l c]] w (CopyF h l xs w) := by
  obtain rfl := reads_len hr
  exact own_fresh0 h p c xs w hl hr
def backB (ops : Array Oper) : Bool := (List.range ops.size).all fun i => match ops[i]? with
  | some o => o.after.all fun e => !(Region.binds .any e) || decide (e.on < i)
  | none => true
theorem back_of {ops : Array Oper} (h : backB ops = true) : Back ops := by
  intro i o ho e he hbd
  have hi : i < ops.size := (Array.getElem?_eq_some_iff.1 ho).1
  unfold backB at h
  rw [List.all_eq_true] at h
  have := h i (by simpa using hi)
  rw [ho] at this
  simp only [Array.all_eq_true_iff_forall_mem] at this
  have h2 := this e he
  rw [hbd] at h2
  simpa using h2
def dstB (ops : Array Oper) (ds : List Nat) : Bool := ops.all fun o => match o.dst with
  | some d => ds.contains d
  | none => true
theorem dst_of {ops : Array Oper} {ds : List Nat} (h : dstB ops ds = true) : ∀ (i : Nat) (o : Oper), ops[i]? = some o → ∀ d, o.dst = some d → d ∈ ds := by
  intro i o ho d hd
  unfold dstB at h
  rw [Array.all_eq_true_iff_forall_mem] at h
  have := h o (Array.mem_of_getElem? ho)
  rw [hd] at this
  simpa using this
/-- an operation waits for another one -/
def depB (o : Oper) (i : Nat) : Bool := o.after.any fun e => Region.binds .any e && e.on == i
theorem dep_of {o : Oper} {L : Array Bool} (hdep : ∀ e ∈ o.after, Region.binds .any e = true → L.getD e.on false = true) (i : Nat) (h : depB o i = true) : L.getD i true = true := by
  unfold depB at h
  rw [Array.any_eq_true'] at h
  obtain ⟨e, he, h2⟩ := h
  rw [Bool.and_eq_true, beq_iff_eq] at h2
  have := hdep e he h2.1
  rw [h2.2] at this
  simp only [Array.getD_eq_getD_getElem?] at this ⊢
  by_cases hi : i < L.size
  · simp [hi] at this ⊢; exact this
  · simp [hi]
theorem block_cells {W : World} {b : Nat} {v0 v1 : Value} (h : W.heap[b]? = some (.cells #[v0, v1] 24 (0, 0))) : W.cell? ⟨b, 0, none⟩ = some v0 ∧ W.cell? ⟨b, 1, none⟩ = some v1 ∧ W.frozen? ⟨b, 0, none⟩ = false ∧ W.frozen? ⟨b, 1, none⟩ = false := by
  simp [World.cell?, World.frozen?, h]
/-- by number -/
def tri {α : Type} (a b c : α) : Nat → α
  | 0 => a
  | 1 => b
  | _ => c
theorem wanted_free {d : Option Tmp} {op : Op} {ty : TypeId} {pos : String} {aft : Array Edge} (y : Nat → Option Bool) : Region.wanted ⟨d, op, ty, pos, aft, none⟩ y = true := rfl
/-- one lane's four operations -/
structure LaneOps (ops : Array Oper) (k : Nat) (ld cs ps : Nat → Nat) (Lop Cop : Nat → Op) (j : Nat) : Prop where
  l : ∃ ty pos aft, ops[2 * j]? = some ⟨some (ld j), Lop j, ty, pos, aft, none⟩
  c : ∃ ty pos aft, ops[2 * j + 1]? = some ⟨some (cs j), Cop j, ty, pos, aft, none⟩ ∧ depB ⟨some (cs j), Cop j, ty, pos, aft, none⟩ (2 * j) = true
  a : ∃ ty pos aft, ops[2 * k + j]? = some ⟨some (ps j), .alloc 24, ty, pos, aft, none⟩
  s : ∃ ty pos aft, ops[3 * k + j]? = some ⟨none, .store 24 (.tmp (ps j)) (.tmp (cs j)), ty, pos, aft, none⟩ ∧ depB ⟨none, .store 24 (.tmp (ps j)) (.tmp (cs j)), ty, pos, aft, none⟩ (2 * j + 1) = true ∧ depB ⟨none, .store 24 (.tmp (ps j)) (.tmp (cs j)), ty, pos, aft, none⟩ (2 * k + j) = true
theorem region_lanes {id : Nat} {ops : Array Oper} {Q : Exit → Act → World → Prop} {a : Act} {w : World} (k : Nat) (x : Nat → Value) (E : Nat → Int → List Int → Prop) (ld cs ps : Nat → Nat) (Lop Cop : Nat → Op) (ds : List Nat) (outs : List (Nat × Value))
    (hsize : ops.size = 4 * k) (hops : ∀ j, j < k → LaneOps ops k ld cs ps Lop Cop j) (S : Slots k ld cs ps) (hin : ∀ j, j < k → ld j ∈ ds ∧ cs j ∈ ds ∧ ps j ∈ ds)
    (hb : backB ops = true) (hnd : ds.Nodup) (hsz : ∀ d ∈ ds, d < a.tmps.size) (hout : ∀ q ∈ outs, a.eval (.tmp q.1) = q.2 ∧ q.1 ∉ ds) (hdst : dstB ops ds = true)
    (hload : ∀ j, j < k → ∀ (a' : Act) (W : World) (K : Act → World → Prop) ty pos aft, (∀ q ∈ outs, a'.tmps[q.1]?.getD undef = q.2) → Below w.heap.size w W → K (a'.put (some (ld j)) (x j)) W → Oper.wp Try.prog ⟨some (ld j), Lop j, ty, pos, aft, none⟩ a' W K Q)
    (hcall : ∀ j, j < k → ∀ (a' : Act) (W : World) (K : Act → World → Prop) ty pos aft, a'.tmps[ld j]?.getD undef = x j → Below w.heap.size w W →
      (∀ h p l c xs W', E j h xs → Reads W' (.slice p l c) xs → (∀ y, p = some y → W.heap.size ≤ y.block) → Below W.heap.size W W' → K (a'.put (some (cs j)) (.agg #[.int .i64 h, .slice p l c])) W') → Oper.wp Try.prog ⟨some (cs j), Cop j, ty, pos, aft, none⟩ a' W K Q)
    (hend : ∀ v W, (∀ j, j < k → ∃ b h p l c xs, v (ps j) = .pointer (some ⟨b, 0, none⟩) ∧ E j h xs ∧ ArgBox W b h p l c ∧ Reads W (.slice p l c) xs) → Below w.heap.size w W → Q .normal (laid a ds v) W) :
    (Code.region id ops true).wp Try.prog Q a w := by
  have hwd : Below w.heap.size w w.drew := below_drew1 w
  have hsd : w.drew.heap.size = w.heap.size := rfl
  have hlo : ∀ {W : World}, Below w.drew.heap.size w.drew W → Below w.heap.size w W := fun h => hwd.trans h
  refine wp_region_laid ds outs (fun L v W => JL k x E ld cs ps w.drew L v W) (by kernel_rfl) (back_of hb) hnd hsz hout (dst_of hdst) (JL.start _ fun i hi => by simp [hsize, hi]) ?_ (fun L v W hJ hall => ?_)
  · intro i o ho
    have hi : i < 4 * k := by have := (Array.getElem?_eq_some_iff.1 ho).1; omega
    have hcase : (∃ j, j < k ∧ i = 2 * j) ∨ (∃ j, j < k ∧ i = 2 * j + 1) ∨ (∃ j, j < k ∧ i = 2 * k + j) ∨ (∃ j, j < k ∧ i = 3 * k + j) := by
      by_cases h2 : i < 2 * k
      · by_cases he : i % 2 = 0
        · exact .inl ⟨i / 2, by omega, by omega⟩
        · exact .inr (.inl ⟨i / 2, by omega, by omega⟩)
      · by_cases h3 : i < 3 * k
        · exact .inr (.inr (.inl ⟨i - 2 * k, by omega, by omega⟩))
        · exact .inr (.inr (.inr ⟨i - 3 * k, by omega, by omega⟩))
    rcases hcase with ⟨j, hj, rfl⟩ | ⟨j, hj, rfl⟩ | ⟨j, hj, rfl⟩ | ⟨j, hj, rfl⟩
    · obtain ⟨ty, pos, aft, e⟩ := (hops j hj).l
      rw [e] at ho
      obtain rfl := Option.some.inj ho
      intro L v W a' hJ hv hq hL hd K hK
      rw [if_pos (wanted_free _)]
      exact hload j hj a' W K ty pos aft hq (hlo hJ.lt) (hK _ _ (hJ.load S hj))
    · obtain ⟨ty, pos, aft, e, hdep⟩ := (hops j hj).c
      rw [e] at ho
      obtain rfl := Option.some.inj ho
      intro L v W a' hJ hv hq hL hd K hK
      rw [if_pos (wanted_free _)]
      have hx := hJ.loaded hj (dep_of hd _ hdep)
      refine hcall j hj a' W K ty pos aft (by rw [hv _ (hin j hj).1]; exact hx) (hlo hJ.lt) ?_
      intro h p l c xs W' hE hr hf hB
      exact hK _ _ (hJ.call S hj hL hE hr hf hB)
    · obtain ⟨ty, pos, aft, e⟩ := (hops j hj).a
      rw [e] at ho
      obtain rfl := Option.some.inj ho
      intro L v W a' hJ hv hq hL hd K hK
      rw [if_pos (wanted_free _)]
      have hA := hJ.alloc S hj hL (.int .i64 0) (.slice none 0 0)
      have hA2 := hK _ _ hA
      have hA3 : K (a'.put (some (ps j)) (.pointer (some ⟨W.heap.size, 0, none⟩))) (W.alloc (.cells #[.int .i64 0, .slice none 0 0] 24)) := hA2
      clear hA2 hA
      revert hA3
      exact @step_alloc24 Q K a' W (ps j) ty pos aft
    · obtain ⟨ty, pos, aft, e, hd1, hd2⟩ := (hops j hj).s
      rw [e] at ho
      obtain rfl := Option.some.inj ho
      intro L v W a' hJ hv hq hL hd K hK
      rw [if_pos (wanted_free _)]
      obtain ⟨b, h0, p2, l, c2, e1, e2, _, _, ⟨v0, v1, e3⟩, e4⟩ := hJ.ready hj (dep_of hd _ hd1) (dep_of hd _ hd2)
      exact step_store24 _ _ _ _ _ (by rw [hv _ (hin j hj).2.2]; exact e1) (by rw [hv _ (hin j hj).2.1]; exact e2) e3 (hK undef _ (e4 hL))
  · obtain ⟨hB, hl⟩ := hJ.done (fun i hi => hall i (by omega))
    exact hend v W hl (hlo hB)
end Go.Proofs.Ytjobbleabepaiaa
namespace Go.Proofs.Ytjobbleabepaiaa
open Go.RowKit

theorem slots_of {k : Nat} {ld cs ps : Nat → Nat} (h : ∀ i, i < k → ∀ j, j < k → ld i ≠ cs j ∧ ld i ≠ ps j ∧ cs i ≠ ps j ∧ (ld i = ld j → i = j) ∧ (cs i = cs j → i = j) ∧ (ps i = ps j → i = j)) : Slots k ld cs ps :=
  ⟨fun i j hi hj => (h i hi j hj).1, fun i j hi hj => (h i hi j hj).2.1, fun i j hi hj => (h i hi j hj).2.2.1, fun i j hi hj => (h i hi j hj).2.2.2.1, fun i j hi hj => (h i hi j hj).2.2.2.2.1, fun i j hi hj => (h i hi j hj).2.2.2.2.2⟩
def ownLop (src : Nat → Nat) (j : Nat) : Op := .load 24 (.tmp (src j))
def ownCop (ld : Nat → Nat) (j : Nat) : Op := .call { callee := .value (.func 18), args := #[.tmp (ld j)], argTypes := #[24] }
theorem region_own {id : Nat} {ops : Array Oper} {Q : Exit → Act → World → Prop} {a : Act} {w : World} (k : Nat) (y : Nat → BX) (src ld cs ps : Nat → Nat) (ds : List Nat)
    (hsize : ops.size = 4 * k) (hops : ∀ j, j < k → LaneOps ops k ld cs ps (ownLop src) (ownCop ld) j) (S : Slots k ld cs ps) (hin : ∀ j, j < k → ld j ∈ ds ∧ cs j ∈ ds ∧ ps j ∈ ds)
    (hb : backB ops = true) (hnd : ds.Nodup) (hsz : ∀ d ∈ ds, d < a.tmps.size) (hout : ∀ j, j < k → a.eval (.tmp (src j)) = .pointer (some ⟨(y j).B, 0, none⟩) ∧ src j ∉ ds) (hdst : dstB ops ds = true)
    (hbox : ∀ j, j < k → (y j).Ok w) (hlen : ∀ j, j < k → (y j).l ≤ 100000)
    (hend : ∀ v W, (∀ j, j < k → ∃ b p c, v (ps j) = .pointer (some ⟨b, 0, none⟩) ∧ ArgBox W b (y j).h p (y j).l c ∧ Reads W (.slice p (y j).l c) (y j).xs) → Below w.heap.size w W → Q .normal (laid a ds v) W) :
    (Code.region id ops true).wp Try.prog Q a w := by
  refine region_lanes k (fun j => .agg #[.int .i64 (y j).h, .slice (y j).p (y j).l (y j).c]) (fun j h xs => h = (y j).h ∧ xs = (y j).xs) ld cs ps (ownLop src) (ownCop ld) ds ((List.range k).map fun j => (src j, .pointer (some ⟨(y j).B, 0, none⟩)))
    hsize hops S hin hb hnd hsz ?_ hdst ?_ ?_ ?_
  · intro q hq
    obtain ⟨j, hj, rfl⟩ := List.mem_map.1 hq
    exact hout j (by simpa using hj)
  · intro j hj a' W K ty pos aft hq hB hK
    have hs := hq (src j, .pointer (some ⟨(y j).B, 0, none⟩)) (List.mem_map.2 ⟨j, by simpa using hj, rfl⟩)
    have ha := (hbox j hj).a.below hB
    exact step_load24 _ _ _ _ _ hs ha.c0 ha.c1 hK
  · intro j hj a' W K ty pos aft hs hB hK
    have hc := own_fresh (y j).h (y j).p (y j).l (y j).c (y j).xs W (hlen j hj) ((hbox j hj).r.below hB)
    have hK2 : ∀ e w', CopyF (y j).h (y j).l (y j).xs W e w' → ∃ v, e = .returned v ∧ K (a'.put (some (cs j)) v) w' := by
      rintro e w' ⟨p, c, rfl, hr, hf, hB'⟩
      exact ⟨_, rfl, hK _ _ _ _ _ _ ⟨rfl, rfl⟩ hr hf hB'⟩
    revert hs hc hK2
    exact @step_call18 Q K a' W (cs j) (ld j) #[24] ty pos aft _ _
  · intro v W hl hB
    refine hend v W (fun j hj => ?_) hB
    obtain ⟨b, h, p, l, c, xs, e1, ⟨rfl, rfl⟩, e3, e4⟩ := hl j hj
    obtain rfl : l = (y j).l := by rw [reads_len e4, reads_len (hbox j hj).r]
    exact ⟨b, p, c, e1, e3, e4⟩
end Go.Proofs.Ytjobbleabepaiaa
