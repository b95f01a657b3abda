/- Walks of bindings: choices. · put, further. · further. -/
import Derived.Test.YtdmgffoikebgkaaTb01
import Derived.Laws.Rows
import Derived.Laws.Tables
import Derived.Deep.RegionHeld3
import Derived.Deep.RegionWith
namespace Go.Proofs.Ytdmgffoikebgkaa
section
open Go.RowKit

set_option maxHeartbeats 1000000 in
theorem choiceRow_any (c : Nat) (w : World) (h : c < 9223372036854775808) :
    Calls Try.prog 142 #[.int .i64 (c : Int)] w fun e w' => e = .returned (.int .i64 ((c % 16777216 : Nat) : Int)) ∧ w = w' := by
  go_enter Try.func142, Try.ntmps142
  go_wp2
  go_ret
  exact ⟨ret_int (by simp), rfl⟩
set_option maxHeartbeats 1000000 in
theorem choiceChanges_any (c : Nat) (w : World) (h : c < 9223372036854775808) :
    Calls Try.prog 143 #[.int .i64 (c : Int)] w fun e w' => e = .returned (.int .i64 ((c / 16777216 : Nat) : Int)) ∧ w = w' := by
  go_enter Try.func143, Try.ntmps143
  go_wp2
  go_ret
  exact ⟨ret_int (by simp), rfl⟩
/-- a binding as a value -/
def bnd (s p f m : Nat) : Value := .agg #[.int .i64 (s : Int), .int .i64 (p : Int), .int .i64 (f : Int), .int .i64 (m : Int)]
def longestN (s m : Nat) : Nat := min m (s - 1)
set_option maxHeartbeats 1000000 in
theorem longest_any (s p f m : Nat) (w : World) (hs : 1 ≤ s) (hs2 : s ≤ 24) (_hm : m ≤ 24) :
    Calls Try.prog 188 #[bnd s p f m] w fun e w' => e = .returned (.int .i64 (longestN s m : Int)) ∧ Below w.heap.size w w' := by
  unfold bnd
  go_enter Try.func188, Try.ntmps188
  go_wp2
  all_goals go_ret
  all_goals exact ⟨ret_int (by unfold longestN; omega), (Below.refl _ _).alloc (Nat.le_refl _) _⟩
/-- stops of the walk, at a load and a store of a whole table -/
theorem stopLoad {P : Program} {ops rest : _} {Q : Exit → Act → World → Prop} {a : Act} {w : World} {dst : Option Tmp} {x : Operand} {ty : TypeId} {pos : String} {after : _} {guard : _}
    (h : Shut (wpList P ops Q ({ dst := dst, op := Op.load 270 x, type := ty, pos := pos, after := after, guard := guard } :: rest) a w)) : wpList P ops Q ({ dst := dst, op := Op.load 270 x, type := ty, pos := pos, after := after, guard := guard } :: rest) a w := h
theorem stopStore {P : Program} {ops rest : _} {Q : Exit → Act → World → Prop} {a : Act} {w : World} {dst : Option Tmp} {x y : Operand} {ty : TypeId} {pos : String} {after : _} {guard : _}
    (h : Shut (wpList P ops Q ({ dst := dst, op := Op.store 270 x y, type := ty, pos := pos, after := after, guard := guard } :: rest) a w)) : wpList P ops Q ({ dst := dst, op := Op.store 270 x y, type := ty, pos := pos, after := after, guard := guard } :: rest) a w := h
/-- a block that holds a table of choices -/
def Tab (W : World) (B : Nat) (ys : List Nat) : Prop := W.heap[B]? = some (.cells (ys.map natV).toArray 270 (0, 0))
theorem Tab.lt {W : World} {R : Nat} {ys : List Nat} (h : Tab W R ys) : R < W.heap.size := (Array.getElem?_eq_some_iff.1 h).1
theorem Tab.cell {W : World} {R : Nat} {ys : List Nat} (h : Tab W R ys) {i : Nat} (hi : i < ys.length) : W.cell? ⟨R, i, none⟩ = some (.int .i64 (nthN ys i : Int)) := by
  simp [World.cell?, show W.heap[R]? = _ from h, nthN_get ys i hi, hi, natV]
theorem Tab.frozen {W : World} {R : Nat} {ys : List Nat} (h : Tab W R ys) (i : Nat) : W.frozen? ⟨R, i, none⟩ = false := by
  simp [World.frozen?, show W.heap[R]? = _ from h]
theorem Tab.below {W W' : World} {B R : Nat} {ys : List Nat} (h : Tab W R ys) (hb : Below B W W') (hR : R < B) : Tab W' R ys := (hb.block R hR).trans h
theorem Tab.other {W : World} {R : Nat} {ys : List Nat} (h : Tab W R ys) (a : Addr) (v : Value) (ha : R ≠ a.block) : Tab (W.setCell a v) R ys := (Below.heap_setCell W a v R ha).trans h
theorem Tab.set {W : World} {R : Nat} {ys : List Nat} (h : Tab W R ys) (i v : Nat) (_hi : i < ys.length) : Tab (W.setCell ⟨R, i, none⟩ (.int .i64 (v : Int))) R (ys.set i v) := by
  have e : (W.setCell ⟨R, i, none⟩ (.int .i64 (v : Int))).heap[R]? = some (.cells ((ys.map natV).toArray.setIfInBounds i (natV v)) 270 (0, 0)) := by
    have hl := h.lt
    unfold Tab at h
    simp [World.setCell, Array.getElem?_modify, h, natV]
  unfold Tab
  rw [e]
  simp [List.map_set, List.setIfInBounds_toArray]
theorem Tab.row {W : World} {R : Nat} {ys zs : List Nat} (h : Tab W R ys) : Tab (W.setRow R (zs.map natV).toArray) R zs := by
  have hl := h.lt
  unfold Tab at h ⊢
  simp [World.setRow, Array.getElem?_modify, h]
theorem info141 : (Try.prog.info? 270).map (·.size) = some 48 := by kernel_rfl
theorem tab_all (ys : List Nat) : (ys.map natV).toArray.all (·.oneCell') = true := by
  rw [Array.all_eq_true_iff_forall_mem]
  intro v hv
  simp only [List.mem_toArray, List.mem_map] at hv
  obtain ⟨n, _, rfl⟩ := hv
  rfl
def never : Nat := 419430400
def fillTo (m : Nat) : List Nat := (List.range 48).map fun i => if i < m then never else 0
theorem fillTo_len (m : Nat) : (fillTo m).length = 48 := by simp [fillTo]
theorem fillTo_set (m : Nat) : (fillTo m).set m never = fillTo (m + 1) := by
  apply List.ext_getElem
  · simp [fillTo]
  · intro i h1 h2
    rw [List.getElem_set]
    simp only [fillTo, List.getElem_map, List.getElem_range]
    by_cases h : m = i
    · subst h; simp
    · rw [if_neg h]
      by_cases h' : i < m
      · rw [if_pos h', if_pos (by omega)]
      · rw [if_neg h', if_neg (by omega)]
def noTab : List Nat := List.replicate 48 never
theorem fillTo_all : fillTo 48 = noTab := by decide
theorem below_setRow {B g : Nat} {a w : World} (h : Below B a w) (cs : Array Value) (hg : B ≤ g) : Below B a (w.setRow g cs) :=
  ⟨h.os, h.tape, h.output, by simpa using h.size, fun k hk => by
    have e : (w.setRow g cs).heap[k]? = w.heap[k]? := by
      simp only [World.setRow, Array.getElem?_modify]
      rw [if_neg (by omega)]
    rw [e]; exact h.block k hk⟩

set_option maxRecDepth 100000 in
set_option maxHeartbeats 2000000 in
theorem impossible_any (w : World) :
    Calls Try.prog 213 #[] w fun e w' => e = .returned (.agg (noTab.map natV).toArray) ∧ Below w.heap.size w w' := by
  go_enter Try.func213, Try.ntmps213
  go_wp2
  go_loopw [4] (fun i wr => ∃ k : Nat, k ≤ 2 ∧ i = .int .i64 k ∧ Tab wr w.heap.size (fillTo 0) ∧ Tab wr (w.heap.size + 1) (fillTo (k * 24)) ∧ Below w.heap.size w wr) (fun i _ => 2 - (intOf i).toNat)
  case atStart =>
    refine ⟨0, by omega, rfl, ?_, ?_, ((Below.refl _ _).alloc (Nat.le_refl _) _).alloc (by simp) _⟩
    · exact (Below.heap_alloc _ _ _ (by simp)).trans (World.alloc_heap_new w _)
    · have := World.alloc_heap_new (w.alloc (.cells ((fillTo 0).map natV).toArray 270)) (.cells ((fillTo 0).map natV).toArray 270)
      rw [World.size_alloc] at this
      exact this
  case round =>
    obtain ⟨k, hk, rfl, hQ, hR, hB⟩ := hrel
    by_cases hlt : k < 2
    · obtain ⟨wo, rfl⟩ : ∃ wo : World, wo = wr := ⟨_, rfl⟩
      have HQ := Lib.hid hQ
      have HR := Lib.hid hR
      have HB := Lib.hid hB
      clear hQ hR hB
      go_wp2
      go_loopw [7] (fun i wr => ∃ l : Nat, l ≤ 24 ∧ i = .int .i64 l ∧ Tab wr w.heap.size (fillTo 0) ∧ Tab wr (w.heap.size + 1) (fillTo (k * 24 + l)) ∧ Below w.heap.size w wr) (fun i _ => 24 - (intOf i).toNat)
      case atStart => exact ⟨0, by omega, rfl, HQ.out, HR.out, HB.out⟩
      case round =>
        obtain ⟨l, hl, rfl, hQ, hR, hB⟩ := hrel
        have HQ := Lib.hid hQ
        have HR := Lib.hid hR
        have HB := Lib.hid hB
        clear hQ hR hB
        by_cases hlt2 : l < 24
        · have hc := HR.out.cell (i := k * 24 + l) (by rw [fillTo_len]; omega)
          have hf := HR.out.frozen (k * 24 + l)
          go_wp2
          go_roundw
          case rel =>
            refine ⟨l + 1, by omega, by go_num, HQ.out.other _ _ (by simp), ?_, HB.out.setCell (by simp) _⟩
            have h := HR.out.set (k * 24 + l) never (by rw [fillTo_len]; omega)
            rw [fillTo_set] at h
            exact h
          case measure => simp [intOf]; omega
        · obtain rfl : l = 24 := by omega
          go_wp2
          go_roundw
          case rel => exact ⟨k + 1, by omega, by go_num, HQ.out, by rw [show (k + 1) * 24 = k * 24 + 24 by omega]; exact HR.out, HB.out⟩
          case measure => simp [intOf]; omega
    · obtain rfl : k = 2 := by omega
      have HQ := Lib.hid hQ
      have HR := Lib.hid hR
      have HB := Lib.hid hB
      clear hQ hR hB
      go_wp2_with (first | (with_reducible refine stopLoad ?_) | (with_reducible refine stopStore ?_))
      unfold Shut
      refine wpList_load_row rfl 270 _ rfl (w.heap.size + 1) rfl 270 _ (0, 0) _ HR.out Try.underlying270 rfl (by rw [info141]; simp [fillTo_len]) ?_
      go_wp2_with (first | (with_reducible refine stopLoad ?_) | (with_reducible refine stopStore ?_))
      unfold Shut
      refine wpList_store_row rfl 270 _ _ rfl w.heap.size _ rfl rfl 270 _ HQ.out (by rw [info141]; simp [fillTo_len]) (by simp [fillTo_len]) (tab_all _) ?_
      go_wp2
      refine bodyPost_ret (v := .agg ((fillTo 48).map natV).toArray) ?_ rfl ⟨?_, ?_⟩
      · exact results_cell_row rfl _ _ w.heap.size 270 _ (0, 0) _ rfl (HQ.out.row) Try.underlying270 rfl (by rw [info141]; simp [fillTo_len])
      · rw [fillTo_all]
      · exact below_setRow HB.out _ (Nat.le_refl _)
end
end Go.Proofs.Ytdmgffoikebgkaa
namespace Go.Proofs.Ytdmgffoikebgkaa
section
open Go.RowKit

def change : Nat := 16777216
/-- a choice with one more point -/
def putN (p f c h l : Nat) : Nat := c + (if (bitN p h).toNat = l then 0 else change + if bitN f h then never else 0) + l * 2 ^ h
theorem and_bit (x k : Nat) (hx : x < 9223372036854775808) (b : Bool) (hb : bitN x k = b) : bits .and .i64 ((x : Int) / 2 ^ k) 1 = (b.toNat : Int) := by
  rw [shr_bit' x k hx, hb]
theorem pow24 (k : Nat) (hk : k ≤ 24) : (2 : Nat) ^ k ≤ 16777216 := Nat.le_trans (Nat.pow_le_pow_right (by decide) hk) (by decide)
theorem putN_le (p f c h l : Nat) (hl : l ≤ 1) (hh : h < 24) : putN p f c h l ≤ c + 452984832 := by
  have := pow24 h (by omega)
  unfold putN change never
  have : l * 2 ^ h ≤ 2 ^ h := by
    rcases (show l = 0 ∨ l = 1 by omega) with rfl | rfl <;> simp
  split
  · omega
  · split <;> omega
set_option maxHeartbeats 2000000 in
theorem put_any (s p f m c h l : Nat) (w : World) (hp : p < 16777216) (hf : f < 16777216) (hc : c < 1099511627776) (hh : h < 24) (hl : l ≤ 1) :
    Calls Try.prog 212 #[bnd s p f m, .int .i64 (c : Int), .int .i64 (h : Int), .int .i64 (l : Int)] w fun e w' => e = .returned (.int .i64 (putN p f c h l : Int)) ∧ Below w.heap.size w w' := by
  obtain ⟨g1, g2⟩ := pow_bds h (by omega)
  have hpe : (2 : Int) ^ h = ((2 ^ h : Nat) : Int) := (Int.natCast_pow 2 h).symm
  have hw : IntKind.i64.wrap (2 ^ h) = 2 ^ h := IntWalk.i64_in _ (by omega)
  unfold bnd
  cases hb : bitN p h
  all_goals cases hfx : bitN f h
  all_goals have hA := and_bit p h (by omega) _ hb
  all_goals have hF := and_bit f h (by omega) _ hfx
  all_goals simp only [Bool.toNat_true, Bool.toNat_false, Int.natCast_zero, Int.natCast_one] at hA hF
  all_goals rcases (show l = 0 ∨ l = 1 by omega) with rfl | rfl
  all_goals have Hb := Lib.hid hb
  all_goals have Hf := Lib.hid hfx
  all_goals have Hpe := Lib.hid hpe
  all_goals clear hb hfx hpe
  all_goals go_enter Try.func212, Try.ntmps212
  all_goals go_wp2
  all_goals go_ret
  all_goals refine ⟨ret_int ?_, (Below.refl _ _).alloc (Nat.le_refl _) _⟩
  all_goals simp only [putN, Hb.out, Hf.out, change, never]
  all_goals (try rw [Hpe.out])
  all_goals simp
  all_goals (try omega)
end
end Go.Proofs.Ytdmgffoikebgkaa
namespace Go.Proofs.Ytdmgffoikebgkaa
section
open Go.RowKit

/-- one step of the choices with one more hook -/
def furStep (p f h L : Nat) (now : List Nat) (lift len : Nat) (next : List Nat) : List Nat :=
  let c := nthN now (lift * 24 + len)
  let n1 := if len < L then next.set (lift * 24 + (len + 1)) (putN p f c h lift) else next
  n1.set ((1 - lift) * 24 + 1) (min (nthN n1 ((1 - lift) * 24 + 1)) (putN p f c h (1 - lift)))
def furIn (p f h L : Nat) (now : List Nat) (lift : Nat) (next0 : List Nat) : Nat → List Nat
  | 0 => next0
  | k + 1 => furStep p f h L now lift (k + 1) (furIn p f h L now lift next0 k)
def furOut (p f h L : Nat) (now : List Nat) : Nat → List Nat
  | 0 => noTab
  | k + 1 => furIn p f h L now k (furOut p f h L now k) L
def furN (p f h L : Nat) (now : List Nat) : List Nat := furOut p f h L now 2
theorem furStep_len (p f h L : Nat) (now : List Nat) (lift len : Nat) (next : List Nat) : (furStep p f h L now lift len next).length = next.length := by
  unfold furStep
  simp only [List.length_set]
  split <;> simp
theorem furIn_len (p f h L : Nat) (now : List Nat) (lift : Nat) (next0 : List Nat) : ∀ k, (furIn p f h L now lift next0 k).length = next0.length
  | 0 => rfl
  | k + 1 => by rw [furIn, furStep_len, furIn_len]
theorem furOut_len (p f h L : Nat) (now : List Nat) : ∀ k, (furOut p f h L now k).length = 48
  | 0 => by simp [furOut, noTab]
  | k + 1 => by rw [furOut, furIn_len, furOut_len]
/-- all choices are at most M -/
def AllLe (M : Nat) (ys : List Nat) : Prop := ∀ i, nthN ys i ≤ M
theorem AllLe.set {M v i : Nat} {ys : List Nat} (h : AllLe M ys) (hv : v ≤ M) : AllLe M (ys.set i v) := fun j => by
  have := h j
  unfold nthN at *
  rw [List.getElem?_set]
  split
  · split
    · exact hv
    · simp
  · exact this
theorem furStep_le (p f h L : Nat) (now : List Nat) (lift len : Nat) (next : List Nat) (M M' : Nat) (hn : AllLe M now) (hx : AllLe M' next) (hM : M + 452984832 ≤ M') (hl : lift ≤ 1) (hh : h < 24) : AllLe M' (furStep p f h L now lift len next) := by
  unfold furStep
  have h1 := putN_le p f (nthN now (lift * 24 + len)) h lift hl hh
  have h3 := hn (lift * 24 + len)
  have hy : AllLe M' (if len < L then next.set (lift * 24 + (len + 1)) (putN p f (nthN now (lift * 24 + len)) h lift) else next) := by
    split
    · exact hx.set (by omega)
    · exact hx
  refine AllLe.set hy ?_
  have := hy ((1 - lift) * 24 + 1)
  omega
theorem furIn_le (p f h L : Nat) (now : List Nat) (lift : Nat) (next0 : List Nat) (M M' : Nat) (hn : AllLe M now) (hx : AllLe M' next0) (hM : M + 452984832 ≤ M') (hl : lift ≤ 1) (hh : h < 24) : ∀ k, AllLe M' (furIn p f h L now lift next0 k)
  | 0 => hx
  | k + 1 => furStep_le p f h L now lift (k + 1) _ M M' hn (furIn_le p f h L now lift next0 M M' hn hx hM hl hh k) hM hl hh
theorem noTab_le (M : Nat) (hM : never ≤ M) : AllLe M noTab := fun i => by
  unfold nthN noTab
  rw [List.getElem?_replicate]
  split <;> simp <;> omega
theorem furOut_le (p f h L : Nat) (now : List Nat) (M M' : Nat) (hn : AllLe M now) (hM : M + 452984832 ≤ M') (hh : h < 24) : ∀ k, k ≤ 2 → AllLe M' (furOut p f h L now k)
  | 0, _ => noTab_le M' (by unfold never; omega)
  | k + 1, hk => furIn_le p f h L now k _ M M' hn (furOut_le p f h L now M M' hn hM hh k (by omega)) hM (by omega) hh L

/-- what 'further' keeps -/
structure FurAt (B s p f m NB : Nat) (now next : List Nat) (W : World) : Prop where
  c0 : W.cell? ⟨B, 0, none⟩ = some (.int .i64 (s : Int))
  c1 : W.cell? ⟨B, 1, none⟩ = some (.int .i64 (p : Int))
  c2 : W.cell? ⟨B, 2, none⟩ = some (.int .i64 (f : Int))
  c3 : W.cell? ⟨B, 3, none⟩ = some (.int .i64 (m : Int))
  now' : Tab W (B + 1) now
  res : Tab W (B + 1 + 1) (fillTo 0)
  next' : Tab W NB next
  lt : B + 1 + 1 < NB
theorem FurAt.below {B s p f m NB : Nat} {now next : List Nat} {W W' : World} (h : FurAt B s p f m NB now next W) (hb : Below W.heap.size W W') : FurAt B s p f m NB now next W' := by
  have h1 := h.next'.lt
  have h2 := h.lt
  exact ⟨(hb.cell (p := ⟨B, 0, none⟩) (by show B < _; omega)).trans h.c0, (hb.cell (p := ⟨B, 1, none⟩) (by show B < _; omega)).trans h.c1, (hb.cell (p := ⟨B, 2, none⟩) (by show B < _; omega)).trans h.c2, (hb.cell (p := ⟨B, 3, none⟩) (by show B < _; omega)).trans h.c3,
    h.now'.below hb h.now'.lt, h.res.below hb h.res.lt, h.next'.below hb h1, h2⟩
theorem FurAt.set {B s p f m NB : Nat} {now next : List Nat} {W : World} (h : FurAt B s p f m NB now next W) (i v : Nat) (hi : i < next.length) : FurAt B s p f m NB now (next.set i v) (W.setCell ⟨NB, i, none⟩ (.int .i64 (v : Int))) := by
  have h2 := h.lt
  have e : ∀ k j, k ≠ NB → (W.setCell ⟨NB, i, none⟩ (.int .i64 (v : Int))).cell? ⟨k, j, none⟩ = W.cell? ⟨k, j, none⟩ := fun k j hk => World.cell?_of_block (w := W) (Below.heap_setCell _ _ _ _ hk)
  exact ⟨(e _ _ (by omega)).trans h.c0, (e _ _ (by omega)).trans h.c1, (e _ _ (by omega)).trans h.c2, (e _ _ (by omega)).trans h.c3, h.now'.other _ _ (by simp; omega), h.res.other _ _ (by simp; omega), h.next'.set i v hi, h2⟩
theorem FurAt.drew {B s p f m NB : Nat} {now next : List Nat} {W : World} (h : FurAt B s p f m NB now next W) : FurAt B s p f m NB now next W.drew :=
  ⟨h.c0, h.c1, h.c2, h.c3, h.now', h.res, h.next', h.lt⟩
theorem furIn_A (p f h L : Nat) (now : List Nat) (lift : Nat) (next0 : List Nat) (len : Nat) (h1 : 1 ≤ len) (hl : len < L) :
    furIn p f h L now lift next0 len = ((furIn p f h L now lift next0 (len - 1)).set (lift * 24 + (len + 1)) (putN p f (nthN now (lift * 24 + len)) h lift)).set ((1 - lift) * 24 + 1)
      (min (nthN ((furIn p f h L now lift next0 (len - 1)).set (lift * 24 + (len + 1)) (putN p f (nthN now (lift * 24 + len)) h lift)) ((1 - lift) * 24 + 1)) (putN p f (nthN now (lift * 24 + len)) h (1 - lift))) := by
  obtain ⟨k, rfl⟩ : ∃ k, len = k + 1 := ⟨len - 1, by omega⟩
  simp only [furIn, furStep, Nat.add_sub_cancel, if_pos hl]
theorem furIn_B (p f h L : Nat) (now : List Nat) (lift : Nat) (next0 : List Nat) (len : Nat) (h1 : 1 ≤ len) (hl : ¬ len < L) :
    furIn p f h L now lift next0 len = (furIn p f h L now lift next0 (len - 1)).set ((1 - lift) * 24 + 1)
      (min (nthN (furIn p f h L now lift next0 (len - 1)) ((1 - lift) * 24 + 1)) (putN p f (nthN now (lift * 24 + len)) h (1 - lift))) := by
  obtain ⟨k, rfl⟩ : ∃ k, len = k + 1 := ⟨len - 1, by omega⟩
  simp only [furIn, furStep, Nat.add_sub_cancel, if_neg hl]
-- furIn_A0
theorem FurAt.far {B s p f m NB : Nat} {now next : List Nat} {W : World} (h : FurAt B s p f m NB now next W) (i : Nat) (v : Value) :
    (W.setCell ⟨NB, i, none⟩ v).cell? ⟨B, 0, none⟩ = some (.int .i64 (s : Int)) ∧ (W.setCell ⟨NB, i, none⟩ v).cell? ⟨B, 1, none⟩ = some (.int .i64 (p : Int)) ∧ (W.setCell ⟨NB, i, none⟩ v).cell? ⟨B, 2, none⟩ = some (.int .i64 (f : Int)) ∧ (W.setCell ⟨NB, i, none⟩ v).cell? ⟨B, 3, none⟩ = some (.int .i64 (m : Int)) := by
  have h2 := h.lt
  have e : ∀ k j, k ≠ NB → (W.setCell ⟨NB, i, none⟩ v).cell? ⟨k, j, none⟩ = W.cell? ⟨k, j, none⟩ := fun k j hk => World.cell?_of_block (w := W) (Below.heap_setCell _ _ _ _ hk)
  exact ⟨(e _ _ (by omega)).trans h.c0, (e _ _ (by omega)).trans h.c1, (e _ _ (by omega)).trans h.c2, (e _ _ (by omega)).trans h.c3⟩
theorem FurAt.setI {B s p f m NB : Nat} {now next : List Nat} {W : World} (h : FurAt B s p f m NB now next W) (i k : Nat) (v : Int) (hi : i < next.length) (hv : v = (k : Int)) : FurAt B s p f m NB now (next.set i k) (W.setCell ⟨NB, i, none⟩ (.int .i64 v)) := by
  subst hv; exact h.set i k hi
end
end Go.Proofs.Ytdmgffoikebgkaa
/- the walk of further. -/
namespace Go.Proofs.Ytdmgffoikebgkaa
open Go.RowKit

set_option maxRecDepth 100000 in
set_option maxHeartbeats 4000000 in
theorem further_any (s p f m h M : Nat) (now : List Nat) (w : World) (hs : 2 ≤ s) (hs2 : s ≤ 24) (hm1 : 1 ≤ m) (hm : m ≤ 24) (hp : p < 16777216) (hf : f < 16777216) (hh : h < 24) (hnl : now.length = 48) (hM : M < 549755813888) (hnM : AllLe M now) :
    Calls Try.prog 214 #[bnd s p f m, .agg (now.map natV).toArray, .int .i64 (h : Int)] w fun e w' => e = .returned (.agg ((furN p f h (longestN s m) now).map natV).toArray) ∧ Below w.heap.size w w' := by
  unfold bnd
  have HL := fun w => longest_any s p f m w (by omega) hs2 hm
  have HP := fun c l w hc hl => put_any s p f m c h l w hp hf hc hh hl
  unfold bnd at HL HP
  have HP0 : ∀ (c : Nat) (w : World), c < 1099511627776 → Calls Try.prog 212 #[.agg #[.int .i64 (s : Int), .int .i64 (p : Int), .int .i64 (f : Int), .int .i64 (m : Int)], .int .i64 (c : Int), .int .i64 (h : Int), .int .i64 0] w fun e w' => e = .returned (.int .i64 (putN p f c h 0 : Int)) ∧ Below w.heap.size w w' := fun c w hc => HP c 0 w hc (Nat.zero_le _)
  have HP1 : ∀ (c : Nat) (w : World), c < 1099511627776 → Calls Try.prog 212 #[.agg #[.int .i64 (s : Int), .int .i64 (p : Int), .int .i64 (f : Int), .int .i64 (m : Int)], .int .i64 (c : Int), .int .i64 (h : Int), .int .i64 1] w fun e w' => e = .returned (.int .i64 (putN p f c h 1 : Int)) ∧ Below w.heap.size w w' := fun c w hc => HP c 1 w hc (Nat.le_refl _)
  go_enter Try.func214, Try.ntmps214
  go_wp2_with fail
  refine (impossible_any _).mono ?_
  rintro e w1 ⟨rfl, hb1⟩
  go_wp2_with (first | (with_reducible refine stopLoad ?_) | (with_reducible refine stopStore ?_))
  unfold Shut
  obtain ⟨W0, hW0⟩ : ∃ W0, W0 = ((w.alloc (.cells #[.int .i64 (s : Int), .int .i64 (p : Int), .int .i64 (f : Int), .int .i64 (m : Int)] 194)).alloc (.cells (now.map natV).toArray 270)).alloc (.cells ((fillTo 0).map natV).toArray 270) := ⟨_, rfl⟩
  have hb1' : Below W0.heap.size W0 w1 := by rw [hW0]; exact hb1
  have hz0 : W0.heap.size = w.heap.size + 1 + 1 + 1 := by rw [hW0]; simp
  have hB00 : Below w.heap.size w W0 := by rw [hW0]; exact (((Below.refl _ _).alloc (Nat.le_refl _) _).alloc (by simp) _).alloc (by simp; omega) _
  have e0 : ∀ j, W0.cell? ⟨w.heap.size, j, none⟩ = (w.alloc (.cells #[.int .i64 (s : Int), .int .i64 (p : Int), .int .i64 (f : Int), .int .i64 (m : Int)] 194)).cell? ⟨w.heap.size, j, none⟩ := fun j => by
    rw [hW0]
    exact (((Below.refl (w.heap.size + 1) (w.alloc (.cells #[.int .i64 (s : Int), .int .i64 (p : Int), .int .i64 (f : Int), .int .i64 (m : Int)] 194))).alloc (by simp) _).alloc (by simp) _).cell (p := ⟨w.heap.size, j, none⟩) (by simp)
  have t1 : Tab W0 (w.heap.size + 1) now := by
    rw [hW0]
    have := World.alloc_heap_new (w.alloc (.cells #[.int .i64 (s : Int), .int .i64 (p : Int), .int .i64 (f : Int), .int .i64 (m : Int)] 194)) (.cells (now.map natV).toArray 270)
    rw [World.size_alloc] at this
    exact (Below.heap_alloc _ _ _ (by simp)).trans this
  have t2 : Tab W0 (w.heap.size + 1 + 1) (fillTo 0) := by
    rw [hW0]
    have := World.alloc_heap_new ((w.alloc (.cells #[.int .i64 (s : Int), .int .i64 (p : Int), .int .i64 (f : Int), .int .i64 (m : Int)] 194)).alloc (.cells (now.map natV).toArray 270)) (.cells ((fillTo 0).map natV).toArray 270)
    simp only [World.size_alloc] at this
    exact this
  obtain ⟨W1, hW1⟩ : ∃ W1, W1 = w1.alloc (.cells ((fillTo 0).map natV).toArray 270) := ⟨_, rfl⟩
  have t3 : Tab W1 w1.heap.size (fillTo 0) := by rw [hW1]; exact World.alloc_heap_new _ _
  obtain ⟨W2, hW2⟩ : ∃ W2, W2 = W1.setRow w1.heap.size (noTab.map natV).toArray := ⟨_, rfl⟩
  have t4 : Tab W2 w1.heap.size noTab := by rw [hW2]; exact t3.row
  have hs1 : w.heap.size + 1 + 1 < w1.heap.size := by have := hb1'.size; omega
  have hB12 : Below w1.heap.size w1 W2 := by rw [hW2]; refine below_setRow ?_ _ (Nat.le_refl _); rw [hW1]; exact (Below.refl _ _).alloc (Nat.le_refl _) _
  have hB02 : Below W0.heap.size W0 W2 := hb1'.trans (hB12.mono hb1'.size)
  have hB2 : Below w.heap.size w W2 := hB00.trans (hB02.mono hB00.size)
  have hF2 : FurAt w.heap.size s p f m w1.heap.size now noTab W2 := by
    have ec : ∀ j, W2.cell? ⟨w.heap.size, j, none⟩ = (w.alloc (.cells #[.int .i64 (s : Int), .int .i64 (p : Int), .int .i64 (f : Int), .int .i64 (m : Int)] 194)).cell? ⟨w.heap.size, j, none⟩ := fun j => (hB02.cell (p := ⟨w.heap.size, j, none⟩) (by show w.heap.size < _; omega)).trans (e0 j)
    exact ⟨(ec 0).trans ((cell_of_row _ _ 0 _ _ _ (World.alloc_heap_new w _)).trans rfl), (ec 1).trans ((cell_of_row _ _ 1 _ _ _ (World.alloc_heap_new w _)).trans rfl), (ec 2).trans ((cell_of_row _ _ 2 _ _ _ (World.alloc_heap_new w _)).trans rfl), (ec 3).trans ((cell_of_row _ _ 3 _ _ _ (World.alloc_heap_new w _)).trans rfl), t1.below hB02 t1.lt, t2.below hB02 t2.lt, t4, hs1⟩
  rw [hW1] at t3
  refine wpList_store_row (w := w1.alloc (.cells ((fillTo 0).map natV).toArray 270)) rfl 270 _ _ rfl w1.heap.size (noTab.map natV).toArray rfl rfl 270 _ t3 (by rw [info141]; simp [noTab]) (by simp [fillTo_len, noTab]) (tab_all _) ?_
  rw [← hW1, ← hW2]
  clear t1 t2 t3 t4 e0 hB12 hB02 hB00 hb1' hb1 hz0
  clear hW0 hW1 hW2
  obtain ⟨NB, hNB⟩ : ∃ NB, NB = w1.heap.size := ⟨_, rfl⟩
  rw [← hNB] at hF2 hs1 ⊢
  clear hNB
  have HF := Lib.hid hF2
  have HB := Lib.hid hB2
  clear hF2 hB2
  have hLL : longestN s m ≤ 23 := by unfold longestN; omega
  have hL1 : 1 ≤ longestN s m := by unfold longestN; omega
  go_wp2
  go_loopw [12] (fun i wr => ∃ k : Nat, k ≤ 2 ∧ i = .int .i64 k ∧ FurAt w.heap.size s p f m NB now (furOut p f h (longestN s m) now k) wr ∧ Below w.heap.size w wr) (fun i _ => 2 - (intOf i).toNat)
  case atStart => exact ⟨0, by omega, rfl, HF.out, HB.out⟩
  case round =>
    obtain ⟨k, hk, rfl, hF, hB⟩ := hrel
    obtain ⟨wo, rfl⟩ : ∃ wo : World, wo = wr := ⟨_, rfl⟩
    have HF := Lib.hid hF
    have HB := Lib.hid hB
    clear hF hB
    rcases (show k = 0 ∨ k = 1 ∨ k = 2 by omega) with rfl | rfl | rfl
    ·
      go_wp2
      go_loopw [9, 10] (fun i _ wr => ∃ len : Nat, 1 ≤ len ∧ len ≤ longestN s m + 1 ∧ i = .int .i64 len ∧ FurAt w.heap.size s p f m NB now (furIn p f h (longestN s m) now 0 (furOut p f h (longestN s m) now 0) (len - 1)) wr ∧ Below w.heap.size w wr) (fun i _ _ => longestN s m + 1 - (intOf i).toNat)
      case atStart => exact ⟨1, by omega, by omega, rfl, HF.out, HB.out⟩
      case round =>
        obtain ⟨len, hl1, hl2, rfl, hF, hB⟩ := hrel
        have HF := Lib.hid hF
        have HB := Lib.hid hB
        clear hF hB
        have c0 := HF.out.c0
        have c1 := HF.out.c1
        have c2 := HF.out.c2
        have c3 := HF.out.c3
        have hlen : (furIn p f h (longestN s m) now 0 (furOut p f h (longestN s m) now 0) (len - 1)).length = 48 := by rw [furIn_len, furOut_len]
        have hcl := hnM (len)
        have hcl2 : nthN now (len) < 1099511627776 := by omega
        clear hcl
        by_cases hle : len ≤ longestN s m
        · by_cases hlt : len < longestN s m
          · go_wp2_with fail
            refine (HL _).mono ?_
            rintro e w2 ⟨rfl, hb2⟩
            have HF2 := Lib.hid (HF.out.below hb2)
            have HB2 := Lib.hid (HB.out.trans (hb2.mono HB.out.size))
            have d0 := HF2.out.c0
            have d1 := HF2.out.c1
            have d2 := HF2.out.c2
            have d3 := HF2.out.c3
            have dn := HF2.out.now'.cell (i := len) (by rw [hnl]; omega)
            clear hb2
            go_wp2_with fail
            refine (HL _).mono ?_
            rintro e w3 ⟨rfl, hb3⟩
            have HF3 := Lib.hid (HF2.out.below hb3).drew
            have HB3 := Lib.hid (HB2.out.trans (hb3.mono HB2.out.size)).drew
            have f0 : w3.cell? _ = _ := HF3.out.c0
            have f1 : w3.cell? _ = _ := HF3.out.c1
            have f2 : w3.cell? _ = _ := HF3.out.c2
            have f3 : w3.cell? _ = _ := HF3.out.c3
            clear hb3 d0 d1 d2 d3 dn c0 c1 c2 c3
            have hw1 : IntKind.i64.wrap ((len : Int) + 1) = (len : Int) + 1 := IntWalk.i64_in _ (by omega)
            have hi0 : (0 : Int) ≤ (len : Int) + 1 := by omega
            have hi1 : (len : Int) + 1 < 24 := by omega
            have hi2 : ((len : Int) + 1).toNat = len + 1 := by omega
            go_wp2_with fail
            go_region_with (first | ((with_reducible refine (HP0 (nthN now (len)) _ hcl2).mono ?_); rintro e w4 ⟨rfl, hb4⟩; have HF4 := Lib.hid (HF3.out.below hb4); have HB4 := Lib.hid (HB3.out.trans (hb4.mono HB3.out.size)); have g1 := HF4.out.next'.cell (i := len + 1) (by rw [hlen]; omega); have g2 := HF4.out.next'.frozen (len + 1)))
            obtain ⟨n1, hn1⟩ : ∃ n1, n1 = (furIn p f h (longestN s m) now 0 (furOut p f h (longestN s m) now 0) (len - 1)).set (len + 1) (putN p f (nthN now (len)) h 0) := ⟨_, rfl⟩
            obtain ⟨w5, hw5⟩ : ∃ w5, w5 = w4.setCell ⟨NB, len + 1, none⟩ (.int .i64 (putN p f (nthN now (len)) h 0 : Int)) := ⟨_, rfl⟩
            have HF5 : Hid (FurAt w.heap.size s p f m NB now n1 w5.drew) := Lib.hid (by rw [hn1, hw5]; exact (HF4.out.set (len + 1) _ (by rw [hlen]; omega)).drew)
            have HB5 : Hid (Below w.heap.size w w5.drew) := Lib.hid (by rw [hw5]; exact (HB4.out.setCell (by show w.heap.size ≤ NB; omega) _).drew)
            have hl1' : n1.length = 48 := by rw [hn1, List.length_set, hlen]
            rw [← hw5]
            have Hn1 := Lib.hid hn1
            clear hw5 hn1 g1 g2 hb4 f0 f1 f2 f3 HF4 HB4
            have e0 : w5.cell? _ = _ := HF5.out.c0
            have e1 : w5.cell? _ = _ := HF5.out.c1
            have e2 : w5.cell? _ = _ := HF5.out.c2
            have e3 : w5.cell? _ = _ := HF5.out.c3
            have e4 : w5.cell? _ = _ := HF5.out.next'.cell (i := 25) (by omega)
            obtain ⟨Bv, hBv⟩ : ∃ Bv, Bv = putN p f (nthN now (len)) h 1 := ⟨_, rfl⟩
            have HPB := fun w => HP1 (nthN now (len)) w hcl2
            rw [← hBv] at HPB
            have hwr : IntKind.i64.wrap 1 = 1 := IntWalk.i64_in _ (by omega)
            have hwr0 : IntKind.i64.wrap 0 = 0 := IntWalk.i64_in _ (by omega)
            have Hfin : Hid (furIn p f h (longestN s m) now 0 (furOut p f h (longestN s m) now 0) len = n1.set (25) (min (nthN n1 (25)) Bv)) := Lib.hid (by rw [Hn1.out, hBv]; simpa using furIn_A p f h (longestN s m) now 0 (furOut p f h (longestN s m) now 0) len hl1 hlt)
            go_wp2_with fail
            go_region_with (first | ((with_reducible refine (HPB _).mono ?_); rintro e w6 ⟨rfl, hb6⟩; have HF6 := Lib.hid (HF5.out.below hb6); have HB6 := Lib.hid (HB5.out.trans (hb6.mono HB5.out.size)); have g1 := HF6.out.next'.cell (i := 25) (by omega); have g2 := HF6.out.next'.frozen (25)))
            all_goals go_wp2
            all_goals go_roundw
            all_goals first | (simp [intOf]; omega) | exact ⟨len + 1, by omega, by omega, by go_num, by rw [Nat.add_sub_cancel, Hfin.out]; exact HF6.out.setI _ _ _ (by omega) (by omega), HB6.out.setCell (by show w.heap.size ≤ NB; omega) _⟩
          · go_wp2_with fail
            refine (HL _).mono ?_
            rintro e w2 ⟨rfl, hb2⟩
            have HF2 := Lib.hid (HF.out.below hb2)
            have HB2 := Lib.hid (HB.out.trans (hb2.mono HB.out.size))
            have d0 := HF2.out.c0
            have d1 := HF2.out.c1
            have d2 := HF2.out.c2
            have d3 := HF2.out.c3
            have dn := HF2.out.now'.cell (i := len) (by rw [hnl]; omega)
            clear hb2
            go_wp2_with fail
            refine (HL _).mono ?_
            rintro e w3 ⟨rfl, hb3⟩
            have HF3 := Lib.hid (HF2.out.below hb3).drew
            have HB3 := Lib.hid (HB2.out.trans (hb3.mono HB2.out.size)).drew
            have f0 : w3.cell? _ = _ := HF3.out.c0
            have f1 : w3.cell? _ = _ := HF3.out.c1
            have f2 : w3.cell? _ = _ := HF3.out.c2
            have f3 : w3.cell? _ = _ := HF3.out.c3
            clear d0 d1 d2 d3 dn c0 c1 c2 c3
            obtain ⟨n1, hn1⟩ : ∃ n1, n1 = furIn p f h (longestN s m) now 0 (furOut p f h (longestN s m) now 0) (len - 1) := ⟨_, rfl⟩
            have Hn1 := Lib.hid hn1
            have hl1' : n1.length = 48 := by rw [hn1, hlen]
            rw [← hn1] at HF3
            have HF5 := HF3
            have HB5 := HB3
            have e4 : w3.cell? _ = _ := HF5.out.next'.cell (i := 25) (by omega)
            clear hn1
            obtain ⟨Bv, hBv⟩ : ∃ Bv, Bv = putN p f (nthN now (len)) h 1 := ⟨_, rfl⟩
            have HPB := fun w => HP1 (nthN now (len)) w hcl2
            rw [← hBv] at HPB
            have hwr : IntKind.i64.wrap 1 = 1 := IntWalk.i64_in _ (by omega)
            have hwr0 : IntKind.i64.wrap 0 = 0 := IntWalk.i64_in _ (by omega)
            have Hfin : Hid (furIn p f h (longestN s m) now 0 (furOut p f h (longestN s m) now 0) len = n1.set (25) (min (nthN n1 (25)) Bv)) := Lib.hid (by rw [Hn1.out, hBv]; simpa using furIn_B p f h (longestN s m) now 0 (furOut p f h (longestN s m) now 0) len hl1 hlt)
            go_wp2_with fail
            go_region_with (first | ((with_reducible refine (HPB _).mono ?_); rintro e w6 ⟨rfl, hb6⟩; have HF6 := Lib.hid (HF5.out.below hb6); have HB6 := Lib.hid (HB5.out.trans (hb6.mono HB5.out.size)); have g1 := HF6.out.next'.cell (i := 25) (by omega); have g2 := HF6.out.next'.frozen (25)))
            all_goals go_wp2
            all_goals go_roundw
            all_goals first | (simp [intOf]; omega) | exact ⟨len + 1, by omega, by omega, by go_num, by rw [Nat.add_sub_cancel, Hfin.out]; exact HF6.out.setI _ _ _ (by omega) (by omega), HB6.out.setCell (by show w.heap.size ≤ NB; omega) _⟩
        · obtain rfl : len = longestN s m + 1 := by omega
          go_wp2_with fail
          refine (HL _).mono ?_
          rintro e w2 ⟨rfl, hb2⟩
          have HF2 := Lib.hid (HF.out.below hb2)
          have HB2 := Lib.hid (HB.out.trans (hb2.mono HB.out.size))
          clear hb2
          go_wp2
          go_roundw
          case rel => exact ⟨1, by omega, by go_num, HF2.out, HB2.out⟩
          case measure => simp [intOf]
    ·
      go_wp2
      go_loopw [9, 10] (fun i _ wr => ∃ len : Nat, 1 ≤ len ∧ len ≤ longestN s m + 1 ∧ i = .int .i64 len ∧ FurAt w.heap.size s p f m NB now (furIn p f h (longestN s m) now 1 (furOut p f h (longestN s m) now 1) (len - 1)) wr ∧ Below w.heap.size w wr) (fun i _ _ => longestN s m + 1 - (intOf i).toNat)
      case atStart => exact ⟨1, by omega, by omega, rfl, HF.out, HB.out⟩
      case round =>
        obtain ⟨len, hl1, hl2, rfl, hF, hB⟩ := hrel
        have HF := Lib.hid hF
        have HB := Lib.hid hB
        clear hF hB
        have c0 := HF.out.c0
        have c1 := HF.out.c1
        have c2 := HF.out.c2
        have c3 := HF.out.c3
        have hlen : (furIn p f h (longestN s m) now 1 (furOut p f h (longestN s m) now 1) (len - 1)).length = 48 := by rw [furIn_len, furOut_len]
        have hcl := hnM (24 + len)
        have hcl2 : nthN now (24 + len) < 1099511627776 := by omega
        clear hcl
        by_cases hle : len ≤ longestN s m
        · by_cases hlt : len < longestN s m
          · go_wp2_with fail
            refine (HL _).mono ?_
            rintro e w2 ⟨rfl, hb2⟩
            have HF2 := Lib.hid (HF.out.below hb2)
            have HB2 := Lib.hid (HB.out.trans (hb2.mono HB.out.size))
            have d0 := HF2.out.c0
            have d1 := HF2.out.c1
            have d2 := HF2.out.c2
            have d3 := HF2.out.c3
            have dn := HF2.out.now'.cell (i := 24 + len) (by rw [hnl]; omega)
            clear hb2
            go_wp2_with fail
            refine (HL _).mono ?_
            rintro e w3 ⟨rfl, hb3⟩
            have HF3 := Lib.hid (HF2.out.below hb3).drew
            have HB3 := Lib.hid (HB2.out.trans (hb3.mono HB2.out.size)).drew
            have f0 : w3.cell? _ = _ := HF3.out.c0
            have f1 : w3.cell? _ = _ := HF3.out.c1
            have f2 : w3.cell? _ = _ := HF3.out.c2
            have f3 : w3.cell? _ = _ := HF3.out.c3
            clear hb3 d0 d1 d2 d3 dn c0 c1 c2 c3
            have hw1 : IntKind.i64.wrap ((len : Int) + 1) = (len : Int) + 1 := IntWalk.i64_in _ (by omega)
            have hi0 : (0 : Int) ≤ (len : Int) + 1 := by omega
            have hi1 : (len : Int) + 1 < 24 := by omega
            have hi2 : ((len : Int) + 1).toNat = len + 1 := by omega
            go_wp2_with fail
            go_region_with (first | ((with_reducible refine (HP1 (nthN now (24 + len)) _ hcl2).mono ?_); rintro e w4 ⟨rfl, hb4⟩; have HF4 := Lib.hid (HF3.out.below hb4); have HB4 := Lib.hid (HB3.out.trans (hb4.mono HB3.out.size)); have g1 := HF4.out.next'.cell (i := 24 + (len + 1)) (by rw [hlen]; omega); have g2 := HF4.out.next'.frozen (24 + (len + 1))))
            obtain ⟨n1, hn1⟩ : ∃ n1, n1 = (furIn p f h (longestN s m) now 1 (furOut p f h (longestN s m) now 1) (len - 1)).set (24 + (len + 1)) (putN p f (nthN now (24 + len)) h 1) := ⟨_, rfl⟩
            obtain ⟨w5, hw5⟩ : ∃ w5, w5 = w4.setCell ⟨NB, 24 + (len + 1), none⟩ (.int .i64 (putN p f (nthN now (24 + len)) h 1 : Int)) := ⟨_, rfl⟩
            have HF5 : Hid (FurAt w.heap.size s p f m NB now n1 w5.drew) := Lib.hid (by rw [hn1, hw5]; exact (HF4.out.set (24 + (len + 1)) _ (by rw [hlen]; omega)).drew)
            have HB5 : Hid (Below w.heap.size w w5.drew) := Lib.hid (by rw [hw5]; exact (HB4.out.setCell (by show w.heap.size ≤ NB; omega) _).drew)
            have hl1' : n1.length = 48 := by rw [hn1, List.length_set, hlen]
            rw [← hw5]
            have Hn1 := Lib.hid hn1
            clear hw5 hn1 g1 g2 hb4 f0 f1 f2 f3 HF4 HB4
            have e0 : w5.cell? _ = _ := HF5.out.c0
            have e1 : w5.cell? _ = _ := HF5.out.c1
            have e2 : w5.cell? _ = _ := HF5.out.c2
            have e3 : w5.cell? _ = _ := HF5.out.c3
            have e4 : w5.cell? _ = _ := HF5.out.next'.cell (i := 1) (by omega)
            obtain ⟨Bv, hBv⟩ : ∃ Bv, Bv = putN p f (nthN now (24 + len)) h 0 := ⟨_, rfl⟩
            have HPB := fun w => HP0 (nthN now (24 + len)) w hcl2
            rw [← hBv] at HPB
            have hwr : IntKind.i64.wrap 1 = 1 := IntWalk.i64_in _ (by omega)
            have hwr0 : IntKind.i64.wrap 0 = 0 := IntWalk.i64_in _ (by omega)
            have Hfin : Hid (furIn p f h (longestN s m) now 1 (furOut p f h (longestN s m) now 1) len = n1.set (1) (min (nthN n1 (1)) Bv)) := Lib.hid (by rw [Hn1.out, hBv]; simpa using furIn_A p f h (longestN s m) now 1 (furOut p f h (longestN s m) now 1) len hl1 hlt)
            go_wp2_with fail
            go_region_with (first | ((with_reducible refine (HPB _).mono ?_); rintro e w6 ⟨rfl, hb6⟩; have HF6 := Lib.hid (HF5.out.below hb6); have HB6 := Lib.hid (HB5.out.trans (hb6.mono HB5.out.size)); have g1 := HF6.out.next'.cell (i := 1) (by omega); have g2 := HF6.out.next'.frozen (1)))
            all_goals go_wp2
            all_goals go_roundw
            all_goals first | (simp [intOf]; omega) | exact ⟨len + 1, by omega, by omega, by go_num, by rw [Nat.add_sub_cancel, Hfin.out]; exact HF6.out.setI _ _ _ (by omega) (by omega), HB6.out.setCell (by show w.heap.size ≤ NB; omega) _⟩
          · go_wp2_with fail
            refine (HL _).mono ?_
            rintro e w2 ⟨rfl, hb2⟩
            have HF2 := Lib.hid (HF.out.below hb2)
            have HB2 := Lib.hid (HB.out.trans (hb2.mono HB.out.size))
            have d0 := HF2.out.c0
            have d1 := HF2.out.c1
            have d2 := HF2.out.c2
            have d3 := HF2.out.c3
            have dn := HF2.out.now'.cell (i := 24 + len) (by rw [hnl]; omega)
            clear hb2
            go_wp2_with fail
            refine (HL _).mono ?_
            rintro e w3 ⟨rfl, hb3⟩
            have HF3 := Lib.hid (HF2.out.below hb3).drew
            have HB3 := Lib.hid (HB2.out.trans (hb3.mono HB2.out.size)).drew
            have f0 : w3.cell? _ = _ := HF3.out.c0
            have f1 : w3.cell? _ = _ := HF3.out.c1
            have f2 : w3.cell? _ = _ := HF3.out.c2
            have f3 : w3.cell? _ = _ := HF3.out.c3
            clear d0 d1 d2 d3 dn c0 c1 c2 c3
            obtain ⟨n1, hn1⟩ : ∃ n1, n1 = furIn p f h (longestN s m) now 1 (furOut p f h (longestN s m) now 1) (len - 1) := ⟨_, rfl⟩
            have Hn1 := Lib.hid hn1
            have hl1' : n1.length = 48 := by rw [hn1, hlen]
            rw [← hn1] at HF3
            have HF5 := HF3
            have HB5 := HB3
            have e4 : w3.cell? _ = _ := HF5.out.next'.cell (i := 1) (by omega)
            clear hn1
            obtain ⟨Bv, hBv⟩ : ∃ Bv, Bv = putN p f (nthN now (24 + len)) h 0 := ⟨_, rfl⟩
            have HPB := fun w => HP0 (nthN now (24 + len)) w hcl2
            rw [← hBv] at HPB
            have hwr : IntKind.i64.wrap 1 = 1 := IntWalk.i64_in _ (by omega)
            have hwr0 : IntKind.i64.wrap 0 = 0 := IntWalk.i64_in _ (by omega)
            have Hfin : Hid (furIn p f h (longestN s m) now 1 (furOut p f h (longestN s m) now 1) len = n1.set (1) (min (nthN n1 (1)) Bv)) := Lib.hid (by rw [Hn1.out, hBv]; simpa using furIn_B p f h (longestN s m) now 1 (furOut p f h (longestN s m) now 1) len hl1 hlt)
            go_wp2_with fail
            go_region_with (first | ((with_reducible refine (HPB _).mono ?_); rintro e w6 ⟨rfl, hb6⟩; have HF6 := Lib.hid (HF5.out.below hb6); have HB6 := Lib.hid (HB5.out.trans (hb6.mono HB5.out.size)); have g1 := HF6.out.next'.cell (i := 1) (by omega); have g2 := HF6.out.next'.frozen (1)))
            all_goals go_wp2
            all_goals go_roundw
            all_goals first | (simp [intOf]; omega) | exact ⟨len + 1, by omega, by omega, by go_num, by rw [Nat.add_sub_cancel, Hfin.out]; exact HF6.out.setI _ _ _ (by omega) (by omega), HB6.out.setCell (by show w.heap.size ≤ NB; omega) _⟩
        · obtain rfl : len = longestN s m + 1 := by omega
          go_wp2_with fail
          refine (HL _).mono ?_
          rintro e w2 ⟨rfl, hb2⟩
          have HF2 := Lib.hid (HF.out.below hb2)
          have HB2 := Lib.hid (HB.out.trans (hb2.mono HB.out.size))
          clear hb2
          go_wp2
          go_roundw
          case rel => exact ⟨2, by omega, by go_num, HF2.out, HB2.out⟩
          case measure => simp [intOf]
    · have r3 := HF.out.res
      have r4 := HF.out.next'
      have HR3 := Lib.hid r3
      have HR4 := Lib.hid r4
      clear r3 r4
      go_wp2_with (first | (with_reducible refine stopLoad ?_) | (with_reducible refine stopStore ?_))
      unfold Shut
      refine wpList_load_row rfl 270 _ rfl NB rfl 270 _ (0, 0) _ HR4.out Try.underlying270 rfl (by rw [info141]; simp [furOut_len]) ?_
      go_wp2_with (first | (with_reducible refine stopLoad ?_) | (with_reducible refine stopStore ?_))
      unfold Shut
      refine wpList_store_row rfl 270 _ _ rfl (w.heap.size + 1 + 1) ((furOut p f h (longestN s m) now 2).map natV).toArray rfl rfl 270 _ HR3.out (by rw [info141]; simp [furOut_len]) (by simp [fillTo_len, furOut_len]) (tab_all _) ?_
      go_wp2
      refine bodyPost_ret (v := .agg ((furOut p f h (longestN s m) now 2).map natV).toArray) ?_ rfl ⟨rfl, ?_⟩
      · exact results_cell_row rfl _ _ (w.heap.size + 1 + 1) 270 _ (0, 0) _ rfl (HR3.out.row) Try.underlying270 rfl (by rw [info141]; simp [furOut_len])
      · exact below_setRow HB.out _ (by omega)
end Go.Proofs.Ytdmgffoikebgkaa
