/- Walks of bindings: choices. · put, further. · further. -/
import Derived.Test.YtdmgffoikebgkaaWL
import Derived.Laws.Rows
import Derived.Laws.Tables
import Derived.Deep.RegionHeld3
import Derived.Deep.RegionWith
namespace Go.Proofs.Ytdmgffoikebgkaa
section
open Go.RowKit

set_option maxHeartbeats 1000000 in
theorem choiceRow_any (c : Nat) (w : World) (h : c < 9223372036854775808) :
    Calls Try.prog 142 #[.int .i64 (c : Int)] w fun e w' => e = .returned (.int .i64 ((c % 16777216 : Nat) : Int)) ∧ w = w' := by
  go_enter Try.func142, Try.ntmps142
  go_wp2
  go_ret
  exact ⟨ret_int (by simp), rfl⟩
set_option maxHeartbeats 1000000 in
theorem choiceChanges_any (c : Nat) (w : World) (h : c < 9223372036854775808) :
    Calls Try.prog 143 #[.int .i64 (c : Int)] w fun e w' => e = .returned (.int .i64 ((c / 16777216 : Nat) : Int)) ∧ w = w' := by
  go_enter Try.func143, Try.ntmps143
  go_wp2
  go_ret
  exact ⟨ret_int (by simp), rfl⟩
/-- a binding as a value -/
def bnd (s p f m : Nat) : Value := .agg #[.int .i64 (s : Int), .int .i64 (p : Int), .int .i64 (f : Int), .int .i64 (m : Int)]
def longestN (s m : Nat) : Nat := min m (s - 1)
set_option maxHeartbeats 1000000 in
theorem longest_any (s p f m : Nat) (w : World) (hs : 1 ≤ s) (hs2 : s ≤ 24) (_hm : m ≤ 24) :
    Calls Try.prog 188 #[bnd s p f m] w fun e w' => e = .returned (.int .i64 (longestN s m : Int)) ∧ Below w.heap.size w w' := by
  unfold bnd
  go_enter Try.func188, Try.ntmps188
  go_wp2
  all_goals go_ret
  all_goals exact ⟨ret_int (by unfold longestN; omega), (Below.refl _ _).alloc (Nat.le_refl _) _⟩
/-- stops of the walk, at a load and a store of a whole table -/
theorem stopLoad {P : Program} {ops rest : _} {Q : Exit → Act → World → Prop} {a : Act} {w : World} {dst : Option Tmp} {x : Operand} {ty : TypeId} {pos : String} {after : _} {guard : _}
    (h : Shut (wpList P ops Q ({ dst := dst, op := Op.load 270 x, type := ty, pos := pos, after := after, guard := guard } :: rest) a w)) : wpList P ops Q ({ dst := dst, op := Op.load 270 x, type := ty, pos := pos, after := after, guard := guard } :: rest) a w := h
theorem stopStore {P : Program} {ops rest : _} {Q : Exit → Act → World → Prop} {a : Act} {w : World} {dst : Option Tmp} {x y : Operand} {ty : TypeId} {pos : String} {after : _} {guard : _}
    (h : Shut (wpList P ops Q ({ dst := dst, op := Op.store 270 x y, type := ty, pos := pos, after := after, guard := guard } :: rest) a w)) : wpList P ops Q ({ dst := dst, op := Op.store 270 x y, type := ty, pos := pos, after := after, guard := guard } :: rest) a w := h
/-- a block that holds a table of choices -/
def Tab (W : World) (B : Nat) (ys : List Nat) : Prop := W.heap[B]? = some (.cells (ys.map natV).toArray 270 (0, 0))
theorem Tab.lt {W : World} {R : Nat} {ys : List Nat} (h : Tab W R ys) : R < W.heap.size := (Array.getElem?_eq_some_iff.1 h).1
theorem Tab.cell {W : World} {R : Nat} {ys : List Nat} (h : Tab W R ys) {i : Nat} (hi : i < ys.length) : W.cell? ⟨R, i, none⟩ = some (.int .i64 (nthN ys i : Int)) := by
  simp [World.cell?, show W.heap[R]? = _ from h, nthN_get ys i hi, hi, natV]
theorem Tab.frozen {W : World} {R : Nat} {ys : List Nat} (h : Tab W R ys) (i : Nat) : W.frozen? ⟨R, i, none⟩ = false := by
  simp [World.frozen?, show W.heap[R]? = _ from h]
theorem Tab.below {W W' : World} {B R : Nat} {ys : List Nat} (h : Tab W R ys) (hb : Below B W W') (hR : R < B) : Tab W' R ys := (hb.block R hR).trans h
theorem Tab.other {W : World} {R : Nat} {ys : List Nat} (h : Tab W R ys) (a : Addr) (v : Value) (ha : R ≠ a.block) : Tab (W.setCell a v) R ys := (Below.heap_setCell W a v R ha).trans h
theorem Tab.set {W : World} {R : Nat} {ys : List Nat} (h : Tab W R ys) (i v : Nat) (_hi : i < ys.length) : Tab (W.setCell ⟨R, i, none⟩ (.int .i64 (v : Int))) R (ys.set i v) := by
  have e : (W.setCell ⟨R, i, none⟩ (.int .i64 (v : Int))).heap[R]? = some (.cells ((ys.map natV).toArray.setIfInBounds i (natV v)) 270 (0, 0)) := by
    have hl := h.lt
    unfold Tab at h
    simp [World.setCell, Array.getElem?_modify, h, natV]
  unfold Tab
  rw [e]
  simp [List.map_set, List.setIfInBounds_toArray]
theorem Tab.row {W : World} {R : Nat} {ys zs : List Nat} (h : Tab W R ys) : Tab (W.setRow R (zs.map natV).toArray) R zs := by
  have hl := h.lt
  unfold Tab at h ⊢
  simp [World.setRow, Array.getElem?_modify, h]
theorem info141 : (Try.prog.info? 270).map (·.size) = some 48 := by kernel_rfl
theorem tab_all (ys : List Nat) : (ys.map natV).toArray.all (·.oneCell') = true := by
  rw [Array.all_eq_true_iff_forall_mem]
  intro v hv
  simp only [List.mem_toArray, List.mem_map] at hv
  obtain ⟨n, _, rfl⟩ := hv
  rfl
def never : Nat := 419430400
def fillTo (m : Nat) : List Nat := (List.range 48).map fun i => if i < m then never else 0
theorem fillTo_len (m : Nat) : (fillTo m).length = 48 := by simp [fillTo]
theorem fillTo_set (m : Nat) : (fillTo m).set m never = fillTo (m + 1) := by
  apply List.ext_getElem
  · simp [fillTo]
  · intro i h1 h2
    rw [List.getElem_set]
    simp only [fillTo, List.getElem_map, List.getElem_range]
    by_cases h : m = i
    · subst h; simp
    · rw [if_neg h]
      by_cases h' : i < m
      · rw [if_pos h', if_pos (by omega)]
      · rw [if_neg h', if_neg (by omega)]
def noTab : List Nat := List.replicate 48 never
theorem fillTo_all : fillTo 48 = noTab := by decide
theorem below_setRow {B g : Nat} {a w : World} (h : Below B a w) (cs : Array Value) (hg : B ≤ g) : Below B a (w.setRow g cs) :=
  ⟨h.os, h.tape, h.output, by simpa using h.size, fun k hk => by
    have e : (w.setRow g cs).heap[k]? = w.heap[k]? := by
      simp only [World.setRow, Array.getElem?_modify]
      rw [if_neg (by omega)]
    rw [e]; exact h.block k hk⟩

set_option maxRecDepth 100000 in
set_option maxHeartbeats 2000000 in
theorem impossible_any (w : World) :
    Calls Try.prog 213 #[] w fun e w' => e = .returned (.agg (noTab.map natV).toArray) ∧ Below w.heap.size w w' := by
  go_enter Try.func213, Try.ntmps213
  go_wp2
  go_loopw [4] (fun i wr => ∃ k : Nat, k ≤ 2 ∧ i = .int .i64 k ∧ Tab wr w.heap.size (fillTo 0) ∧ Tab wr (w.heap.size + 1) (fillTo (k * 24)) ∧ Below w.heap.size w wr) (fun i _ => 2 - (intOf i).toNat)
  case atStart =>
    refine ⟨0, by omega, rfl, ?_, ?_, ((Below.refl _ _).alloc (Nat.le_refl _) _).alloc (by simp) _⟩
    · exact (Below.heap_alloc _ _ _ (by simp)).trans (World.alloc_heap_new w _)
    · have := World.alloc_heap_new (w.alloc (.cells ((fillTo 0).map natV).toArray 270)) (.cells ((fillTo 0).map natV).toArray 270)
      rw [World.size_alloc] at this
      exact this
  case round =>
    obtain ⟨k, hk, rfl, hQ, hR, hB⟩ := hrel
    by_cases hlt : k < 2
    · obtain ⟨wo, rfl⟩ : ∃ wo : World, wo = wr := ⟨_, rfl⟩
      have HQ := Lib.hid hQ
      have HR := Lib.hid hR
      have HB := Lib.hid hB
      clear hQ hR hB
      go_wp2
      go_loopw [7] (fun i wr => ∃ l : Nat, l ≤ 24 ∧ i = .int .i64 l ∧ Tab wr w.heap.size (fillTo 0) ∧ Tab wr (w.heap.size + 1) (fillTo (k * 24 + l)) ∧ Below w.heap.size w wr) (fun i _ => 24 - (intOf i).toNat)
      case atStart => exact ⟨0, by omega, rfl, HQ.out, HR.out, HB.out⟩
      case round =>
        obtain ⟨l, hl, rfl, hQ, hR, hB⟩ := hrel
        have HQ := Lib.hid hQ
        have HR := Lib.hid hR
        have HB := Lib.hid hB
        clear hQ hR hB
        by_cases hlt2 : l < 24
        · have hc := HR.out.cell (i := k * 24 + l) (by rw [fillTo_len]; omega)
          have hf := HR.out.frozen (k * 24 + l)
          go_wp2
          go_roundw
          case rel =>
            refine ⟨l + 1, by omega, by go_num, HQ.out.other _ _ (by simp), ?_, HB.out.setCell (by simp) _⟩
            have h := HR.out.set (k * 24 + l) never (by rw [fillTo_len]; omega)
            rw [fillTo_set] at h
            exact h
          case measure => simp [intOf]; omega
        · obtain rfl : l = 24 := by omega
          go_wp2
          go_roundw
          case rel => exact ⟨k + 1, by omega, by go_num, HQ.out, by rw [show (k + 1) * 24 = k * 24 + 24 by omega]; exact HR.out, HB.out⟩
          case measure => simp [intOf]; omega
    · obtain rfl : k = 2 := by omega
      have HQ := Lib.hid hQ
      have HR := Lib.hid hR
      have HB := Lib.hid hB
      clear hQ hR hB
      go_wp2_with (first | (with_reducible refine stopLoad ?_) | (with_reducible refine stopStore ?_))
      unfold Shut
      refine wpList_load_row rfl 270 _ rfl (w.heap.size + 1) rfl 270 _ (0, 0) _ HR.out Try.underlying270 rfl (by rw [info141]; simp [fillTo_len]) ?_
      go_wp2_with (first | (with_reducible refine stopLoad ?_) | (with_reducible refine stopStore ?_))
      unfold Shut
      refine wpList_store_row rfl 270 _ _ rfl w.heap.size _ rfl rfl 270 _ HQ.out (by rw [info141]; simp [fillTo_len]) (by simp [fillTo_len]) (tab_all _) ?_
      go_wp2
      refine bodyPost_ret (v := .agg ((fillTo 48).map natV).toArray) ?_ rfl ⟨?_, ?_⟩
      · exact results_cell_row rfl _ _ w.heap.size 270 _ (0, 0) _ rfl (HQ.out.row) Try.underlying270 rfl (by rw [info141]; simp [fillTo_len])
      · rw [fillTo_all]
      · exact below_setRow HB.out _ (Nat.le_refl _)
end
end Go.Proofs.Ytdmgffoikebgkaa
namespace Go.Proofs.Ytdmgffoikebgkaa
section
open Go.RowKit

def change : Nat := 16777216
/-- a choice with one more point -/
def putN (p f c h l : Nat) : Nat := c + (if (bitN p h).toNat = l then 0 else change + if bitN f h then never else 0) + l * 2 ^ h
theorem and_bit (x k : Nat) (hx : x < 9223372036854775808) (b : Bool) (hb : bitN x k = b) : bits .and .i64 ((x : Int) / 2 ^ k) 1 = (b.toNat : Int) := by
  rw [shr_bit' x k hx, hb]
theorem pow24 (k : Nat) (hk : k ≤ 24) : (2 : Nat) ^ k ≤ 16777216 := Nat.le_trans (Nat.pow_le_pow_right (by decide) hk) (by decide)
theorem putN_le (p f c h l : Nat) (hl : l ≤ 1) (hh : h < 24) : putN p f c h l ≤ c + 452984832 := by
  have := pow24 h (by omega)
  unfold putN change never
  have : l * 2 ^ h ≤ 2 ^ h := by
    rcases (show l = 0 ∨ l = 1 by omega) with rfl | rfl <;> simp
  split
  · omega
  · split <;> omega
set_option maxHeartbeats 2000000 in
theorem put_any (s p f m c h l : Nat) (w : World) (hp : p < 16777216) (hf : f < 16777216) (hc : c < 1099511627776) (hh : h < 24) (hl : l ≤ 1) :
    Calls Try.prog 212 #[bnd s p f m, .int .i64 (c : Int), .int .i64 (h : Int), .int .i64 (l : Int)] w fun e w' => e = .returned (.int .i64 (putN p f c h l : Int)) ∧ Below w.heap.size w w' := by
  obtain ⟨g1, g2⟩ := pow_bds h (by omega)
  have hpe : (2 : Int) ^ h = ((2 ^ h : Nat) : Int) := (Int.natCast_pow 2 h).symm
  have hw : IntKind.i64.wrap (2 ^ h) = 2 ^ h := IntWalk.i64_in _ (by omega)
  unfold bnd
  cases hb : bitN p h
  all_goals cases hfx : bitN f h
  all_goals have hA := and_bit p h (by omega) _ hb
  all_goals have hF := and_bit f h (by omega) _ hfx
  all_goals simp only [Bool.toNat_true, Bool.toNat_false, Int.natCast_zero, Int.natCast_one] at hA hF
  all_goals rcases (show l = 0 ∨ l = 1 by omega) with rfl | rfl
  all_goals have Hb := Lib.hid hb
  all_goals have Hf := Lib.hid hfx
  all_goals have Hpe := Lib.hid hpe
  all_goals clear hb hfx hpe
  all_goals go_enter Try.func212, Try.ntmps212
  all_goals go_wp2
  all_goals go_ret
  all_goals refine ⟨ret_int ?_, (Below.refl _ _).alloc (Nat.le_refl _) _⟩
  all_goals simp only [putN, Hb.out, Hf.out, change, never]
  all_goals (try rw [Hpe.out])
  all_goals simp
  all_goals (try omega)
end
end Go.Proofs.Ytdmgffoikebgkaa
namespace Go.Proofs.Ytdmgffoikebgkaa
section
open Go.RowKit

/-- one step of the choices with one more hook -/
def furStep (p f h L : Nat) (now : List Nat) (lift len : Nat) (next : List Nat) : List Nat :=
  let c := nthN now (lift * 24 + len)
  let n1 := if len < L then next.set (lift * 24 + (len + 1)) (putN p f c h lift) else next
  n1.set ((1 - lift) * 24 + 1) (min (nthN n1 ((1 - lift) * 24 + 1)) (putN p f c h (1 - lift)))
def furIn (p f h L : Nat) (now : List Nat) (lift : Nat) (next0 : List Nat) : Nat → List Nat
  | 0 => next0
  | k + 1 => furStep p f h L now lift (k + 1) (furIn p f h L now lift next0 k)
def furOut (p f h L : Nat) (now : List Nat) : Nat → List Nat
  | 0 => noTab
  | k + 1 => furIn p f h L now k (furOut p f h L now k) L
def furN (p f h L : Nat) (now : List Nat) : List Nat := furOut p f h L now 2
theorem furStep_len (p f h L : Nat) (now : List Nat) (lift len : Nat) (next : List Nat) : (furStep p f h L now lift len next).length = next.length := by
  unfold furStep
  simp only [List.length_set]
  split <;> simp
theorem furIn_len (p f h L : Nat) (now : List Nat) (lift : Nat) (next0 : List Nat) : ∀ k, (furIn p f h L now lift next0 k).length = next0.length
  | 0 => rfl
  | k + 1 => by rw [furIn, furStep_len, furIn_len]
theorem furOut_len (p f h L : Nat) (now : List Nat) : ∀ k, (furOut p f h L now k).length = 48
  | 0 => by simp [furOut, noTab]
  | k + 1 => by rw [furOut, furIn_len, furOut_len]
/-- all choices are at most M -/
def AllLe (M : Nat) (ys : List Nat) : Prop := ∀ i, nthN ys i ≤ M
theorem AllLe.set {M v i : Nat} {ys : List Nat} (h : AllLe M ys) (hv : v ≤ M) : AllLe M (ys.set i v) := fun j => by
  have := h j
  unfold nthN at *
  rw [List.getElem?_set]
  split
  · split
    · exact hv
    · simp
  · exact this
theorem furStep_le (p f h L : Nat) (now : List Nat) (lift len : Nat) (next : List Nat) (M M' : Nat) (hn : AllLe M now) (hx : AllLe M' next) (hM : M + 452984832 ≤ M') (hl : lift ≤ 1) (hh : h < 24) : AllLe M' (furStep p f h L now lift len next) := by
  unfold furStep
  have h1 := putN_le p f (nthN now (lift * 24 + len)) h lift hl hh
  have h3 := hn (lift * 24 + len)
  have hy : AllLe M' (if len < L then next.set (lift * 24 + (len + 1)) (putN p f (nthN now (lift * 24 + len)) h lift) else next) := by
    split
    · exact hx.set (by omega)
    · exact hx
  refine AllLe.set hy ?_
  have := hy ((1 - lift) * 24 + 1)
  omega
theorem furIn_le (p f h L : Nat) (now : List Nat) (lift : Nat) (next0 : List Nat) (M M' : Nat) (hn : AllLe M now) (hx : AllLe M' next0) (hM : M + 452984832 ≤ M') (hl : lift ≤ 1) (hh : h < 24) : ∀ k, AllLe M' (furIn p f h L now lift next0 k)
  | 0 => hx
  | k + 1 => furStep_le p f h L now lift (k + 1) _ M M' hn (furIn_le p f h L now lift next0 M M' hn hx hM hl hh k) hM hl hh
theorem noTab_le (M : Nat) (hM : never ≤ M) : AllLe M noTab := fun i => by
  unfold nthN noTab
  rw [List.getElem?_replicate]
  split <;> simp <;> omega
theorem furOut_le (p f h L : Nat) (now : List Nat) (M M' : Nat) (hn : AllLe M now) (hM : M + 452984832 ≤ M') (hh : h < 24) : ∀ k, k ≤ 2 → AllLe M' (furOut p f h L now k)
  | 0, _ => noTab_le M' (by unfold never; omega)
  | k + 1, hk => furIn_le p f h L now k _ M M' hn (furOut_le p f h L now M M' hn hM hh k (by omega)) hM (by omega) hh L

/-- what 'further' keeps -/
structure FurAt (B s p f m NB : Nat) (now next : List Nat) (W : World) : Prop where
  c0 : W.cell? ⟨B, 0, none⟩ = some (.int .i64 (s : Int))
  c1 : W.cell? ⟨B, 1, none⟩ = some (.int .i64 (p : Int))
  c2 : W.cell? ⟨B, 2, none⟩ = some (.int .i64 (f : Int))
  c3 : W.cell? ⟨B, 3, none⟩ = some (.int .i64 (m : Int))
  now' : Tab W (B + 1) now
  res : Tab W (B + 1 + 1) (fillTo 0)
  next' : Tab W NB next
  lt : B + 1 + 1 < NB
theorem FurAt.below {B s p f m NB : Nat} {now next : List Nat} {W W' : World} (h : FurAt B s p f m NB now next W) (hb : Below W.heap.size W W') : FurAt B s p f m NB now next W' := by
  have h1 := h.next'.lt
  have h2 := h.lt
  exact ⟨(hb.cell (p := ⟨B, 0, none⟩) (by show B < _; omega)).trans h.c0, (hb.cell (p := ⟨B, 1, none⟩) (by show B < _; omega)).trans h.c1, (hb.cell (p := ⟨B, 2, none⟩) (by show B < _; omega)).trans h.c2, (hb.cell (p := ⟨B, 3, none⟩) (by show B < _; omega)).trans h.c3,
    h.now'.below hb h.now'.lt, h.res.below hb h.res.lt, h.next'.below hb h1, h2⟩
theorem FurAt.set {B s p f m NB : Nat} {now next : List Nat} {W : World} (h : FurAt B s p f m NB now next W) (i v : Nat) (hi : i < next.length) : FurAt B s p f m NB now (next.set i v) (W.setCell ⟨NB, i, none⟩ (.int .i64 (v : Int))) := by
  have h2 := h.lt
  have e : ∀ k j, k ≠ NB → (W.setCell ⟨NB, i, none⟩ (.int .i64 (v : Int))).cell? ⟨k, j, none⟩ = W.cell? ⟨k, j, none⟩ := fun k j hk => World.cell?_of_block (w := W) (Below.heap_setCell _ _ _ _ hk)
  exact ⟨(e _ _ (by omega)).trans h.c0, (e _ _ (by omega)).trans h.c1, (e _ _ (by omega)).trans h.c2, (e _ _ (by omega)).trans h.c3, h.now'.other _ _ (by simp; omega), h.res.other _ _ (by simp; omega), h.next'.set i v hi, h2⟩
theorem FurAt.drew {B s p f m NB : Nat} {now next : List Nat} {W : World} (h : FurAt B s p f m NB now next W) : FurAt B s p f m NB now next W.drew :=
  ⟨h.c0, h.c1, h.c2, h.c3, h.now', h.res, h.next', h.lt⟩
theorem furIn_A (p f h L : Nat) (now : List Nat) (lift : Nat) (next0 : List Nat) (len : Nat) (h1 : 1 ≤ len) (hl : len < L) :
    furIn p f h L now lift next0 len = ((furIn p f h L now lift next0 (len - 1)).set (lift * 24 + (len + 1)) (putN p f (nthN now (lift * 24 + len)) h lift)).set ((1 - lift) * 24 + 1)
      (min (nthN ((furIn p f h L now lift next0 (len - 1)).set (lift * 24 + (len + 1)) (putN p f (nthN now (lift * 24 + len)) h lift)) ((1 - lift) * 24 + 1)) (putN p f (nthN now (lift * 24 + len)) h (1 - lift))) := by
  obtain ⟨k, rfl⟩ : ∃ k, len = k + 1 := ⟨len - 1, by omega⟩
  simp only [furIn, furStep, Nat.add_sub_cancel, if_pos hl]
theorem furIn_B (p f h L : Nat) (now : List Nat) (lift : Nat) (next0 : List Nat) (len : Nat) (h1 : 1 ≤ len) (hl : ¬ len < L) :
    furIn p f h L now lift next0 len = (furIn p f h L now lift next0 (len - 1)).set ((1 - lift) * 24 + 1)
      (min (nthN (furIn p f h L now lift next0 (len - 1)) ((1 - lift) * 24 + 1)) (putN p f (nthN now (lift * 24 + len)) h (1 - lift))) := by
  obtain ⟨k, rfl⟩ : ∃ k, len = k + 1 := ⟨len - 1, by omega⟩
  simp only [furIn, furStep, Nat.add_sub_cancel, if_neg hl]
-- furIn_A0
theorem FurAt.four {B s p f m NB : Nat} {now next : List Nat} {W : World} (h : FurAt B s p f m NB now next W) :
    W.cell? ⟨B, 0, none⟩ = some (.int .i64 (s : Int)) ∧ W.cell? ⟨B, 1, none⟩ = some (.int .i64 (p : Int)) ∧ W.cell? ⟨B, 2, none⟩ = some (.int .i64 (f : Int)) ∧ W.cell? ⟨B, 3, none⟩ = some (.int .i64 (m : Int)) := ⟨h.c0, h.c1, h.c2, h.c3⟩
theorem FurAt.far {B s p f m NB : Nat} {now next : List Nat} {W : World} (h : FurAt B s p f m NB now next W) (i : Nat) (v : Value) :
    (W.setCell ⟨NB, i, none⟩ v).cell? ⟨B, 0, none⟩ = some (.int .i64 (s : Int)) ∧ (W.setCell ⟨NB, i, none⟩ v).cell? ⟨B, 1, none⟩ = some (.int .i64 (p : Int)) ∧ (W.setCell ⟨NB, i, none⟩ v).cell? ⟨B, 2, none⟩ = some (.int .i64 (f : Int)) ∧ (W.setCell ⟨NB, i, none⟩ v).cell? ⟨B, 3, none⟩ = some (.int .i64 (m : Int)) := by
  have h2 := h.lt
  have e : ∀ k j, k ≠ NB → (W.setCell ⟨NB, i, none⟩ v).cell? ⟨k, j, none⟩ = W.cell? ⟨k, j, none⟩ := fun k j hk => World.cell?_of_block (w := W) (Below.heap_setCell _ _ _ _ hk)
  exact ⟨(e _ _ (by omega)).trans h.c0, (e _ _ (by omega)).trans h.c1, (e _ _ (by omega)).trans h.c2, (e _ _ (by omega)).trans h.c3⟩
theorem FurAt.setI {B s p f m NB : Nat} {now next : List Nat} {W : World} (h : FurAt B s p f m NB now next W) (i k : Nat) (v : Int) (hi : i < next.length) (hv : v = (k : Int)) : FurAt B s p f m NB now (next.set i k) (W.setCell ⟨NB, i, none⟩ (.int .i64 v)) := by
  subst hv; exact h.set i k hi
end
end Go.Proofs.Ytdmgffoikebgkaa
