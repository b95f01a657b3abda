/- paint: a design out of a condition. · the walk of paint. -/
import Derived.Test.YtdmgffoikebgkaaWJ
import Derived.Deep.OwnRows
import Derived.Shelf.Abstract
namespace Go.Proofs.Ytdmgffoikebgkaa
section
open Go.RowKit Go.Shelf

theorem Try.info3 : (Try.prog.info? 3).map (fun i => (i.zero, i.size, i.bytes)) = some (some (.int .i64 0), 1, 8) := by kernel_rfl
def natV (n : Nat) : Value := .int .i64 (n : Int)
/-- a block of its own that holds a row of numbers -/
def NatBlk (W : World) (R : Nat) (ys : List Nat) : Prop := W.heap[R]? = some (.cells (ys.map natV).toArray 3 (0, 0))
theorem NatBlk.lt {W : World} {R : Nat} {ys : List Nat} (h : NatBlk W R ys) : R < W.heap.size := (Array.getElem?_eq_some_iff.1 h).1
theorem NatBlk.cell {W : World} {R : Nat} {ys : List Nat} (h : NatBlk W R ys) {i : Nat} (hi : i < ys.length) : W.cell? ⟨R, i, none⟩ = some (.int .i64 (nthN ys i : Int)) := by
  simp [World.cell?, show W.heap[R]? = _ from h, nthN_get ys i hi, hi, natV]
theorem NatBlk.frozen {W : World} {R : Nat} {ys : List Nat} (h : NatBlk W R ys) (i : Nat) : W.frozen? ⟨R, i, none⟩ = false := by
  simp [World.frozen?, show W.heap[R]? = _ from h]
theorem NatBlk.nats {W : World} {R : Nat} {ys : List Nat} (h : NatBlk W R ys) : NatsAt W R 0 ys := fun i hi => by rw [Nat.zero_add]; exact h.cell hi
theorem NatBlk.below {W W' : World} {B R : Nat} {ys : List Nat} (h : NatBlk W R ys) (hb : Below B W W') (hR : R < B) : NatBlk W' R ys := (hb.block R hR).trans h
theorem NatBlk.set {W : World} {R : Nat} {ys : List Nat} (h : NatBlk W R ys) (i v : Nat) (_hi : i < ys.length) : NatBlk (W.setCell ⟨R, i, none⟩ (.int .i64 (v : Int))) R (ys.set i v) := by
  have e : (W.setCell ⟨R, i, none⟩ (.int .i64 (v : Int))).heap[R]? = some (.cells ((ys.map natV).toArray.setIfInBounds i (natV v)) 3 (0, 0)) := by
    have hl := h.lt
    unfold NatBlk at h
    simp [World.setCell, Array.getElem?_modify, h, natV]
  unfold NatBlk
  rw [e]
  simp [List.map_set, List.setIfInBounds_toArray]
theorem NatBlk.made (W : World) (n : Nat) : NatBlk (W.alloc (.cells (madeCells #[.int .i64 0] n) 3)) W.heap.size (List.replicate n 0) := by
  unfold NatBlk
  rw [World.alloc_heap_new]
  congr 2
  simp only [madeCells]
  apply Array.ext'
  simp [natV, List.map_replicate]
  apply List.ext_getElem
  · simp
  · intro i h1 h2
    simp [Nat.mod_one]
/-- a row out of its points -/
def rowTo (f : Nat → Bool) : Nat → Nat
  | 0 => 0
  | j + 1 => rowTo f j ||| (if f j then 2 ^ j else 0)
theorem rowTo_lt (f : Nat → Bool) : ∀ k, rowTo f k < 2 ^ k
  | 0 => by simp [rowTo]
  | k + 1 => by
    have := rowTo_lt f k
    refine Nat.or_lt_two_pow ?_ ?_
    · rw [Nat.pow_succ]; omega
    · rw [Nat.pow_succ]
      have := Nat.pow_pos (n := k) (show 0 < 2 by decide)
      split <;> omega
theorem rowTo_bit (f : Nat → Bool) : ∀ k j, (rowTo f k).testBit j = (decide (j < k) && f j)
  | 0, j => by simp [rowTo]
  | k + 1, j => by
    simp only [rowTo, Nat.testBit_or, rowTo_bit f k j]
    by_cases hj : j = k
    · subst hj
      cases f j <;> simp
    · have e : (if f k then 2 ^ k else 0).testBit j = false := by
        split
        · rw [Nat.testBit_two_pow]; simp; omega
        · simp
      rw [e, Bool.or_false]
      congr 1
      simp; omega
/-- the rows of paint, row i painted up to the hook j -/
def paintAt (g : Nat → Nat → Bool) (np nh i j : Nat) : List Nat := (List.range np).map fun r => if r < i then rowTo (g r) nh else if r = i then rowTo (g r) j else 0
def painted (g : Nat → Nat → Bool) (np nh : Nat) : List Nat := (List.range np).map fun r => rowTo (g r) nh
theorem paintAt_len (g : Nat → Nat → Bool) (np nh i j : Nat) : (paintAt g np nh i j).length = np := by simp [paintAt]
theorem painted_len (g : Nat → Nat → Bool) (np nh : Nat) : (painted g np nh).length = np := by simp [painted]
theorem paintAt_nth (g : Nat → Nat → Bool) (np nh i j : Nat) (h : i < np) : nthN (paintAt g np nh i j) i = rowTo (g i) j := by
  rw [nthN_get _ _ (by rw [paintAt_len]; exact h)]
  simp [paintAt]
theorem paintAt_zero (g : Nat → Nat → Bool) (np nh : Nat) : paintAt g np nh 0 0 = List.replicate np 0 := by
  apply List.ext_getElem
  · simp [paintAt]
  · intro i h1 h2
    simp [paintAt]
    intro h; subst h; rfl
theorem paintAt_end (g : Nat → Nat → Bool) (np nh : Nat) : paintAt g np nh np 0 = painted g np nh := by
  apply List.ext_getElem
  · simp [paintAt, painted]
  · intro i h1 h2
    have : i < np := by simpa [paintAt] using h1
    simp [paintAt, painted, this]
theorem paintAt_next (g : Nat → Nat → Bool) (np nh i : Nat) : paintAt g np nh (i + 1) 0 = paintAt g np nh i nh := by
  apply List.ext_getElem
  · simp [paintAt]
  · intro r h1 h2
    simp only [paintAt, List.getElem_map, List.getElem_range]
    by_cases h : r < i
    · rw [if_pos (by omega), if_pos h]
    · rw [if_neg h]
      by_cases h' : r = i
      · rw [if_pos (by omega), if_pos h']
      · rw [if_neg (by omega), if_neg h']
        split <;> simp [rowTo]
theorem paintAt_skip (g : Nat → Nat → Bool) (np nh i j : Nat) (h : g i j = false) : paintAt g np nh i (j + 1) = paintAt g np nh i j := by
  apply List.ext_getElem
  · simp [paintAt]
  · intro r h1 h2
    simp only [paintAt, List.getElem_map, List.getElem_range]
    by_cases hr : r = i
    · subst hr; simp [rowTo, h]
    · simp [hr]
theorem paintAt_set (g : Nat → Nat → Bool) (np nh i j : Nat) (h : g i j = true) : (paintAt g np nh i j).set i (rowTo (g i) j ||| 2 ^ j) = paintAt g np nh i (j + 1) := by
  apply List.ext_getElem
  · simp [paintAt]
  · intro r h1 h2
    rw [List.getElem_set]
    simp only [paintAt, List.getElem_map, List.getElem_range]
    by_cases hr : i = r
    · subst hr; simp [rowTo, h]
    · rw [if_neg hr]
      have : ¬ r = i := fun e => hr e.symm
      simp [this]
end
end Go.Proofs.Ytdmgffoikebgkaa
namespace Go.Proofs.Ytdmgffoikebgkaa
section
open Go.RowKit Go.Shelf

/-- what a condition on points owes -/
def Cond (f : FuncId) (lb : Array Value) (np nh : Nat) (g : Nat → Nat → Bool) (w : World) : Prop :=
  ∀ (W : World) (i j : Nat), Below w.heap.size w W → i < np → j < nh →
    Calls Try.prog f (#[.int .i64 (i : Int), .int .i64 (j : Int)] ++ lb) W fun e W' => e = .returned (.bool (g i j)) ∧ Below W.heap.size W W'
/-- an unwritten result of a design -/
def ResBox (W : World) (B : Nat) : Prop := W.heap[B]? = some (.cells #[.int .i64 0, .slice none 0 0] 37 (0, 0))
theorem ResBox.lt {W : World} {B : Nat} (h : ResBox W B) : B < W.heap.size := (Array.getElem?_eq_some_iff.1 h).1
theorem ResBox.c0 {W : World} {B : Nat} (h : ResBox W B) : W.cell? ⟨B, 0, none⟩ = some (.int .i64 0) := by simp [World.cell?, show W.heap[B]? = _ from h]
theorem ResBox.c1 {W : World} {B : Nat} (h : ResBox W B) : W.cell? ⟨B, 1, none⟩ = some (.slice none 0 0) := by simp [World.cell?, show W.heap[B]? = _ from h]
theorem ResBox.f {W : World} {B : Nat} (h : ResBox W B) (j : Nat) : W.frozen? ⟨B, j, none⟩ = false := by simp [World.frozen?, show W.heap[B]? = _ from h]
theorem ResBox.new (W : World) : ResBox (W.alloc (.cells #[.int .i64 0, .slice none 0 0] 37)) W.heap.size := World.alloc_heap_new W _
theorem ResBox.below {W W' : World} {B n : Nat} (h : ResBox W B) (hb : Below n W W') (hn : B < n) : ResBox W' B := (hb.block B hn).trans h
theorem ResBox.set {W : World} {B : Nat} (h : ResBox W B) (a : Addr) (v : Value) (ha : B ≠ a.block) : ResBox (W.setCell a v) B := (Below.heap_setCell W a v B ha).trans h
theorem or_step (x j : Nat) (hx : x < 16777216) (hj : j < 24) : bits .or .i64 (x : Int) (2 ^ j) = ((x ||| 2 ^ j : Nat) : Int) := by
  have h2 : (2 : Nat) ^ j ≤ 16777216 := Nat.le_trans (Nat.pow_le_pow_right (by decide) (show j ≤ 24 by omega)) (by decide)
  rw [← i64_or_nat x (2 ^ j) (by omega) (by omega), Int.natCast_pow]
  rfl

set_option maxRecDepth 100000 in
set_option maxHeartbeats 2000000 in
theorem paint_any (f : FuncId) (lb : Array Value) (eg : Enters Try.prog f) (np nh : Nat) (g : Nat → Nat → Bool) (w : World) (hp : np ≤ 60) (hn : nh ≤ 24) (hg : Cond f lb np nh g w) :
    Calls Try.prog 146 #[.int .i64 (np : Int), .int .i64 (nh : Int), .func (.func f) #[] lb] w
      fun e w' => ∃ R, e = .returned (.agg #[.int .i64 (nh : Int), .slice (some ⟨R, 0, none⟩) np np]) ∧ w.heap.size ≤ R ∧ NatBlk w' R (painted g np nh) ∧ Below w.heap.size w w' := by
  have hmk := run_make_row' (P := Try.prog) 24 3 (.int .i64 0) 8 Try.underlying24 Try.info3 rfl .i64 .i64 np (by omega) (by omega)
  have Hg := Lib.hid hg
  clear hg
  unfold Enters at eg
  go_enter Try.func146, Try.ntmps146
  go_wp2
  go_loopw [13] (fun i wr => ∃ k : Nat, k ≤ np ∧ i = .int .i64 k ∧ ResBox wr w.heap.size ∧ NatBlk wr (w.heap.size + 1) (paintAt g np nh k 0) ∧ Below w.heap.size w wr) (fun i _ => np - (intOf i).toNat)
  case atStart =>
    refine ⟨0, Nat.zero_le _, rfl, (ResBox.new w).below ((Below.refl (w.heap.size + 1) _).alloc (by simp) _) (by omega), ?_, ((Below.refl _ _).alloc (Nat.le_refl _) _).alloc (by simp) _⟩
    rw [paintAt_zero]
    have := NatBlk.made (w.alloc (.cells #[.int .i64 0, .slice none 0 0] 37)) np
    rwa [World.size_alloc] at this
  case round =>
    obtain ⟨k, hk, rfl, hQ, hR, hB⟩ := hrel
    by_cases hlt : k < np
    · obtain ⟨wo, rfl⟩ : ∃ wo : World, wo = wr := ⟨_, rfl⟩
      have HQ := Lib.hid hQ
      have HR := Lib.hid hR
      have HB := Lib.hid hB
      clear hQ hR hB
      go_wp2
      go_loopw [17] (fun j wr => ∃ l : Nat, l ≤ nh ∧ j = .int .i64 l ∧ ResBox wr w.heap.size ∧ NatBlk wr (w.heap.size + 1) (paintAt g np nh k l) ∧ Below w.heap.size w wr) (fun j _ => nh - (intOf j).toNat)
      case atStart => exact ⟨0, Nat.zero_le _, rfl, HQ.out, HR.out, HB.out⟩
      case round =>
        obtain ⟨l, hl, rfl, hQ, hR, hB⟩ := hrel
        have HQ2 := Lib.hid hQ
        have HR2 := Lib.hid hR
        have HB2 := Lib.hid hB
        clear hQ hR hB
        by_cases hlt2 : l < nh
        · have hgc := Hg.out wr k l HB2.out hlt hlt2
          cases hgv : g k l with
          | false =>
            rw [hgv] at hgc
            have Hst := Lib.hid (paintAt_skip g np nh k l hgv)
            have Hgc := Lib.hid hgc
            clear hgc hgv
            go_wp2_with fail
            refine Hgc.out.mono ?_
            rintro e w3 ⟨rfl, hb3⟩
            go_wp2
            go_roundw
            case rel => exact ⟨l + 1, by omega, by go_num, HQ2.out.below hb3 HQ2.out.lt, by rw [Hst.out]; exact HR2.out.below hb3 HR2.out.lt, HB2.out.trans (hb3.mono HB2.out.size)⟩
            case measure => simp [intOf]; omega
          | true =>
            rw [hgv] at hgc
            have Hst := Lib.hid (paintAt_set g np nh k l hgv)
            have Hgc := Lib.hid hgc
            have hlo := rowTo_lt (g k) l
            have hlo2 : rowTo (g k) l < 16777216 := Nat.lt_of_lt_of_le hlo (Nat.le_trans (Nat.pow_le_pow_right (by decide) (show l ≤ 24 by omega)) (by decide))
            have Hor := Lib.hid (or_step (rowTo (g k) l) l hlo2 (by omega))
            have hnt := paintAt_nth g np nh k l hlt
            clear hgc hgv hlo
            go_wp2_with fail
            refine Hgc.out.mono ?_
            rintro e w3 ⟨rfl, hb3⟩
            have HR3 := Lib.hid (HR2.out.below hb3 HR2.out.lt)
            have HQ3 := Lib.hid (HQ2.out.below hb3 HQ2.out.lt)
            have hc3 := HR3.out.cell (i := k) (by rw [paintAt_len]; exact hlt)
            have hf3 := HR3.out.frozen k
            rw [hnt] at hc3
            clear hnt
            have hk0 : (0 : Int) ≤ (k : Int) := by omega
            have hk1 : (k : Int) < (np : Int) := by omega
            obtain ⟨hp1, hp2⟩ := pow_bds l (by omega)
            have hw : IntKind.i64.wrap (2 ^ l) = 2 ^ l := IntWalk.i64_in _ (by omega)
            go_wp2
            go_region
            go_wp2
            go_roundw
            case rel =>
              refine ⟨l + 1, by omega, by go_num, ?_, ?_, ?_⟩
              · exact HQ3.out.set _ _ (by simp)
              · rw [Hor.out, ← Hst.out]
                exact HR3.out.set k _ (by rw [paintAt_len]; exact hlt)
              · exact ((HB2.out.trans (hb3.mono HB2.out.size)).setCell (by simp) _).drew
            case measure => simp [intOf]; omega
        · obtain rfl : l = nh := by omega
          go_wp2
          go_roundw
          case rel => exact ⟨k + 1, by omega, by go_num, HQ2.out, by rw [paintAt_next]; exact HR2.out, HB2.out⟩
          case measure => simp [intOf]; omega
    · obtain rfl : k = np := by omega
      have h0 := hQ.c0
      have h1 := hQ.c1
      have h2 := hQ.f 0
      have h3 := hQ.f 1
      have HQ := Lib.hid hQ
      have HR := Lib.hid hR
      have HB := Lib.hid hB
      clear hQ hR hB
      go_wp2
      refine bodyPost_ret (v := .agg #[.int .i64 (nh : Int), .slice (some ⟨w.heap.size + 1, 0, none⟩) k k]) ?_ rfl ⟨_, rfl, by omega, ?_, ?_⟩
      · simp [results, Try.results146, go_sem, h0, h1]
      · rw [← paintAt_end]
        exact (Below.heap_setCell _ _ _ _ (by simp)).trans ((Below.heap_setCell _ _ _ _ (by simp)).trans HR.out)
      · exact (HB.out.setCell (by simp) _).setCell (by simp) _
end
end Go.Proofs.Ytdmgffoikebgkaa
