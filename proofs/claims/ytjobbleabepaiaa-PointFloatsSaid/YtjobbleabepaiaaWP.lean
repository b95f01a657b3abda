/- Walks of bindings: choices. -/
import Derived.Test.YtjobbleabepaiaaWK
import Derived.Laws.Rows
import Derived.Laws.Tables
import Derived.Deep.RegionHeld3
namespace Go.Proofs.Ytjobbleabepaiaa
open Go.RowKit

set_option maxHeartbeats 1000000 in
theorem choiceRow_any (c : Nat) (w : World) (h : c < 9223372036854775808) :
    Calls Try.prog 73 #[.int .i64 (c : Int)] w fun e w' => e = .returned (.int .i64 ((c % 16777216 : Nat) : Int)) ∧ w = w' := by
  go_enter Try.func73, Try.ntmps73
  go_wp2
  go_ret
  exact ⟨ret_int (by simp), rfl⟩
set_option maxHeartbeats 1000000 in
theorem choiceChanges_any (c : Nat) (w : World) (h : c < 9223372036854775808) :
    Calls Try.prog 74 #[.int .i64 (c : Int)] w fun e w' => e = .returned (.int .i64 ((c / 16777216 : Nat) : Int)) ∧ w = w' := by
  go_enter Try.func74, Try.ntmps74
  go_wp2
  go_ret
  exact ⟨ret_int (by simp), rfl⟩
/-- a binding as a value -/
def bnd (s p f m : Nat) : Value := .agg #[.int .i64 (s : Int), .int .i64 (p : Int), .int .i64 (f : Int), .int .i64 (m : Int)]
def longestN (s m : Nat) : Nat := min m (s - 1)
set_option maxHeartbeats 1000000 in
theorem longest_any (s p f m : Nat) (w : World) (hs : 1 ≤ s) (hs2 : s ≤ 24) (hm : m ≤ 24) :
    Calls Try.prog 102 #[bnd s p f m] w fun e w' => e = .returned (.int .i64 (longestN s m : Int)) ∧ Below w.heap.size w w' := by
  unfold bnd
  go_enter Try.func102, Try.ntmps102
  go_wp2
  all_goals go_ret
  all_goals exact ⟨ret_int (by unfold longestN; omega), (Below.refl _ _).alloc (Nat.le_refl _) _⟩
/-- stops of the walk, at a load and a store of a whole table -/
theorem stopLoad {P : Program} {ops rest : _} {Q : Exit → Act → World → Prop} {a : Act} {w : World} {dst : Option Tmp} {x : Operand} {ty : TypeId} {pos : String} {after : _} {guard : _}
    (h : Shut (wpList P ops Q ({ dst := dst, op := Op.load 141 x, type := ty, pos := pos, after := after, guard := guard } :: rest) a w)) : wpList P ops Q ({ dst := dst, op := Op.load 141 x, type := ty, pos := pos, after := after, guard := guard } :: rest) a w := h
theorem stopStore {P : Program} {ops rest : _} {Q : Exit → Act → World → Prop} {a : Act} {w : World} {dst : Option Tmp} {x y : Operand} {ty : TypeId} {pos : String} {after : _} {guard : _}
    (h : Shut (wpList P ops Q ({ dst := dst, op := Op.store 141 x y, type := ty, pos := pos, after := after, guard := guard } :: rest) a w)) : wpList P ops Q ({ dst := dst, op := Op.store 141 x y, type := ty, pos := pos, after := after, guard := guard } :: rest) a w := h
/-- a block that holds a table of choices -/
def Tab (W : World) (B : Nat) (ys : List Nat) : Prop := W.heap[B]? = some (.cells (ys.map natV).toArray 141 (0, 0))
theorem Tab.lt {W : World} {R : Nat} {ys : List Nat} (h : Tab W R ys) : R < W.heap.size := (Array.getElem?_eq_some_iff.1 h).1
theorem Tab.cell {W : World} {R : Nat} {ys : List Nat} (h : Tab W R ys) {i : Nat} (hi : i < ys.length) : W.cell? ⟨R, i, none⟩ = some (.int .i64 (nthN ys i : Int)) := by
  simp [World.cell?, show W.heap[R]? = _ from h, nthN_get ys i hi, hi, natV]
theorem Tab.frozen {W : World} {R : Nat} {ys : List Nat} (h : Tab W R ys) (i : Nat) : W.frozen? ⟨R, i, none⟩ = false := by
  simp [World.frozen?, show W.heap[R]? = _ from h]
theorem Tab.below {W W' : World} {B R : Nat} {ys : List Nat} (h : Tab W R ys) (hb : Below B W W') (hR : R < B) : Tab W' R ys := (hb.block R hR).trans h
theorem Tab.other {W : World} {R : Nat} {ys : List Nat} (h : Tab W R ys) (a : Addr) (v : Value) (ha : R ≠ a.block) : Tab (W.setCell a v) R ys := (Below.heap_setCell W a v R ha).trans h
theorem Tab.set {W : World} {R : Nat} {ys : List Nat} (h : Tab W R ys) (i v : Nat) (hi : i < ys.length) : Tab (W.setCell ⟨R, i, none⟩ (.int .i64 (v : Int))) R (ys.set i v) := by
  have e : (W.setCell ⟨R, i, none⟩ (.int .i64 (v : Int))).heap[R]? = some (.cells ((ys.map natV).toArray.setIfInBounds i (natV v)) 141 (0, 0)) := by
    have hl := h.lt
    unfold Tab at h
    simp [World.setCell, Array.getElem?_modify, h, natV]
  unfold Tab
  rw [e]
  simp [List.map_set, List.setIfInBounds_toArray]
theorem Tab.row {W : World} {R : Nat} {ys zs : List Nat} (h : Tab W R ys) : Tab (W.setRow R (zs.map natV).toArray) R zs := by
  have hl := h.lt
  unfold Tab at h ⊢
  simp [World.setRow, Array.getElem?_modify, h]
theorem info141 : (Try.prog.info? 141).map (·.size) = some 48 := by kernel_rfl
theorem tab_all (ys : List Nat) : (ys.map natV).toArray.all (·.oneCell') = true := by
  rw [Array.all_eq_true_iff_forall_mem]
  intro v hv
  simp only [List.mem_toArray, List.mem_map] at hv
  obtain ⟨n, _, rfl⟩ := hv
  rfl
def never : Nat := 419430400
def fillTo (m : Nat) : List Nat := (List.range 48).map fun i => if i < m then never else 0
theorem fillTo_len (m : Nat) : (fillTo m).length = 48 := by simp [fillTo]
theorem fillTo_set (m : Nat) : (fillTo m).set m never = fillTo (m + 1) := by
  apply List.ext_getElem
  · simp [fillTo]
  · intro i h1 h2
    rw [List.getElem_set]
    simp only [fillTo, List.getElem_map, List.getElem_range]
    by_cases h : m = i
    · subst h; simp
    · rw [if_neg h]
      by_cases h' : i < m
      · rw [if_pos h', if_pos (by omega)]
      · rw [if_neg h', if_neg (by omega)]
def noTab : List Nat := List.replicate 48 never
theorem fillTo_all : fillTo 48 = noTab := by decide
theorem below_setRow {B g : Nat} {a w : World} (h : Below B a w) (cs : Array Value) (hg : B ≤ g) : Below B a (w.setRow g cs) :=
  ⟨h.os, h.tape, h.output, by simpa using h.size, fun k hk => by
    have e : (w.setRow g cs).heap[k]? = w.heap[k]? := by
      simp only [World.setRow, Array.getElem?_modify]
      rw [if_neg (by omega)]
    rw [e]; exact h.block k hk⟩

set_option maxRecDepth 100000 in
set_option maxHeartbeats 2000000 in
theorem impossible_any (w : World) :
    Calls Try.prog 111 #[] w fun e w' => e = .returned (.agg (noTab.map natV).toArray) ∧ Below w.heap.size w w' := by
  go_enter Try.func111, Try.ntmps111
  go_wp2
  go_loopw [4] (fun i wr => ∃ k : Nat, k ≤ 2 ∧ i = .int .i64 k ∧ Tab wr w.heap.size (fillTo 0) ∧ Tab wr (w.heap.size + 1) (fillTo (k * 24)) ∧ Below w.heap.size w wr) (fun i _ => 2 - (intOf i).toNat)
  case atStart =>
    refine ⟨0, by omega, rfl, ?_, ?_, ((Below.refl _ _).alloc (Nat.le_refl _) _).alloc (by simp) _⟩
    · exact (Below.heap_alloc _ _ _ (by simp)).trans (World.alloc_heap_new w _)
    · have := World.alloc_heap_new (w.alloc (.cells ((fillTo 0).map natV).toArray 141)) (.cells ((fillTo 0).map natV).toArray 141)
      rw [World.size_alloc] at this
      exact this
  case round =>
    obtain ⟨k, hk, rfl, hQ, hR, hB⟩ := hrel
    by_cases hlt : k < 2
    · obtain ⟨wo, rfl⟩ : ∃ wo : World, wo = wr := ⟨_, rfl⟩
      have HQ := Lib.hid hQ
      have HR := Lib.hid hR
      have HB := Lib.hid hB
      clear hQ hR hB
      go_wp2
      go_loopw [7] (fun i wr => ∃ l : Nat, l ≤ 24 ∧ i = .int .i64 l ∧ Tab wr w.heap.size (fillTo 0) ∧ Tab wr (w.heap.size + 1) (fillTo (k * 24 + l)) ∧ Below w.heap.size w wr) (fun i _ => 24 - (intOf i).toNat)
      case atStart => exact ⟨0, by omega, rfl, HQ.out, HR.out, HB.out⟩
      case round =>
        obtain ⟨l, hl, rfl, hQ, hR, hB⟩ := hrel
        have HQ := Lib.hid hQ
        have HR := Lib.hid hR
        have HB := Lib.hid hB
        clear hQ hR hB
        by_cases hlt2 : l < 24
        · have hc := HR.out.cell (i := k * 24 + l) (by rw [fillTo_len]; omega)
          have hf := HR.out.frozen (k * 24 + l)
          go_wp2
          go_roundw
          case rel =>
            refine ⟨l + 1, by omega, by go_num, HQ.out.other _ _ (by simp), ?_, HB.out.setCell (by simp) _⟩
            have h := HR.out.set (k * 24 + l) never (by rw [fillTo_len]; omega)
            rw [fillTo_set] at h
            exact h
          case measure => simp [intOf]; omega
        · obtain rfl : l = 24 := by omega
          go_wp2
          go_roundw
          case rel => exact ⟨k + 1, by omega, by go_num, HQ.out, by rw [show (k + 1) * 24 = k * 24 + 24 by omega]; exact HR.out, HB.out⟩
          case measure => simp [intOf]; omega
    · obtain rfl : k = 2 := by omega
      have HQ := Lib.hid hQ
      have HR := Lib.hid hR
      have HB := Lib.hid hB
      clear hQ hR hB
      go_wp2_with (first | (with_reducible refine stopLoad ?_) | (with_reducible refine stopStore ?_))
      unfold Shut
      refine wpList_load_row rfl 141 _ rfl (w.heap.size + 1) rfl 141 _ (0, 0) _ HR.out Try.underlying141 rfl (by rw [info141]; simp [fillTo_len]) ?_
      go_wp2_with (first | (with_reducible refine stopLoad ?_) | (with_reducible refine stopStore ?_))
      unfold Shut
      refine wpList_store_row rfl 141 _ _ rfl w.heap.size _ rfl rfl 141 _ HQ.out (by rw [info141]; simp [fillTo_len]) (by simp [fillTo_len]) (tab_all _) ?_
      go_wp2
      refine bodyPost_ret (v := .agg ((fillTo 48).map natV).toArray) ?_ rfl ⟨?_, ?_⟩
      · exact results_cell_row rfl _ _ w.heap.size 141 _ (0, 0) _ rfl (HQ.out.row) Try.underlying141 rfl (by rw [info141]; simp [fillTo_len])
      · rw [fillTo_all]
      · exact below_setRow HB.out _ (Nat.le_refl _)
end Go.Proofs.Ytjobbleabepaiaa
