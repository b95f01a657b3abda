/- A map from numbers to numbers that a call makes. -/
import Derived.Test.YtdmgffoikebgkaaKA
import Derived.Maps.OwnOps
import Derived.Maps.OwnSet
import Derived.Maps.Views
import Derived.KernelRfl
namespace Go.Proofs.Ytdmgffoikebgkaa
open Go.RowKit Go.Shelf
open Go.Maps (Keyed IsMap)

theorem Try.intKeyed : Keyed Try.prog 3 := Maps.int_keyed Try.underlying3
theorem Try.zero3 (w : World) : (zeroValue 3).run Try.prog w = .ok (.int .i64 0) w := by kernel_rfl
theorem wf_near {x : Int} (h : -1000000 ≤ x ∧ x ≤ 1000000) : (Lit.int .i64 x).wf = true := by
  have h1 : IntKind.i64.min ≤ x := Int.le_trans (show IntKind.i64.min ≤ -1000000 by decide) h.1
  have h2 : x ≤ IntKind.i64.max := Int.le_trans h.2 (by decide)
  simp [Lit.wf, h1]; omega
/-- block mb is a map with s entries that reads as g near 0 -/
def IMap (w : World) (mb k s : Nat) (g : Int → Option Nat) : Prop :=
  ∃ D : DataW Nat, w.ownsMap Try.prog 3 (plainElem Try.prog 3) mb k D ∧ Maps.size D = s ∧
    ∀ x : Int, -1000000 ≤ x ∧ x ≤ 1000000 → Maps.has D (.int .i64 x) = (g x).isSome ∧ D.atKey (.int .i64 x) (.lit (.int .i64 0)) = .lit (.int .i64 (((g x).getD 0 : Nat) : Int))
theorem IMap.made (w : World) : IMap (w.alloc (.map #[] 0)) w.heap.size 0 0 (fun _ => none) :=
  ⟨.map [], World.ownsMap_made w _ _ _, rfl, fun x _ => ⟨rfl, by rw [Maps.atKey_of_not_has]; rfl; rfl⟩⟩
theorem IMap.grown {w w' : World} {mb k s : Nat} {g : Int → Option Nat} {row : Option Nat} (h : IMap w mb k s g) (hg : w.grownBy w' row) (hne : some mb ≠ row) : IMap w' mb k s g := by
  obtain ⟨D, h1, h2⟩ := h
  exact ⟨D, h1.kept hg hne, h2⟩
theorem below_grown {w w' : World} (hb : Below w.heap.size w w') (row : Option Nat) : w.grownBy w' row := ⟨hb.os, hb.tape, hb.output, hb.size, fun i hi _ => hb.block i hi⟩
theorem IMap.next {w w' : World} {mb k s : Nat} {g : Int → Option Nat} (h : IMap w mb k s g) (hb : Below w.heap.size w w') : IMap w' mb k s g := h.grown (below_grown hb none) (by simp)
theorem IMap.lt {w : World} {mb k s : Nat} {g : Int → Option Nat} (h : IMap w mb k s g) : mb < w.heap.size := by
  obtain ⟨D, h1, _⟩ := h; exact h1.lt
theorem IMap.set {w : World} {mb k s : Nat} {g : Int → Option Nat} (h : IMap w mb k s g) (a : Addr) (v : Value) (ha : mb ≠ a.block) : IMap (w.setCell a v) mb k s g := by
  refine h.grown (row := some a.block) ⟨rfl, rfl, rfl, by simp, fun i _ hi => Below.heap_setCell w a v i (fun e => hi (by rw [e]))⟩ (by simpa using ha)
def setG (g : Int → Option Nat) (x : Int) (y : Nat) : Int → Option Nat := fun z => if z = x then some y else g z
theorem key_ne {x y : Int} (h : x ≠ y) : (Lit.int .i64 x) ≠ (Lit.int .i64 y) := by simpa using h
theorem IMap.store {w : World} {mb k s : Nat} {g : Int → Option Nat} (h : IMap w mb k s g) {ops : Array Oper} {rest : List Oper} {o : Oper} {a : Act} {Q : Exit → Act → World → Prop}
    (hg : o.guard = none) (m x v : Operand) (hop : o.op = Op.mapUpdate 178 m x v) (X : Int) (Y : Nat) (hm : a.eval m = .map (some mb)) (hx : a.eval x = .int .i64 X) (hv : a.eval v = .int .i64 (Y : Int))
    (hX : -1000000 ≤ X ∧ X ≤ 1000000) (hY : Y ≤ 100000) (hk : k ≤ 100000)
    (hK : ∀ w', IMap w' mb (k + 1) (if (g X).isSome then s else s + 1) (setG g X Y) → w.grownBy w' (some mb) → wpList Try.prog ops Q rest (a.put o.dst undef) w') : wpList Try.prog ops Q (o :: rest) a w := by
  obtain ⟨D, h1, h2, h3⟩ := h
  have hkey : keyOf Try.prog 3 (.int .i64 X) = some (.int .i64 X) := Maps.keyOf_int_mk Try.underlying3 (wf_near hX)
  refine wpList_mapUpdate_own w hg m x v 178 hop 3 3 Try.intKeyed Try.underlying178 _ mb k D hm h1 (by unfold maxLen; omega) _ _ _ hx hv hkey _ [] (plainElem_int Try.underlying3 (wf_near (by omega))) ?_
  intro w' hown hgrow
  refine hK w' ⟨_, hown, ?_, fun y hy => ?_⟩ hgrow
  · rw [Maps.size_put (h1.tidy Try.intKeyed), (h3 X hX).1, h2]
  · by_cases e : y = X
    · subst e
      refine ⟨?_, ?_⟩
      · rw [Maps.has_put_same h1.isMap (Try.intKeyed.key hkey)]; simp [setG]
      · rw [Maps.atKey_put_same h1.isMap (Try.intKeyed.key hkey)]; simp [setG]
    · refine ⟨?_, ?_⟩
      · rw [Maps.has_put_other (key_ne e), (h3 y hy).1]; simp [setG, e]
      · rw [Maps.atKey_put_other (key_ne e), (h3 y hy).2]; simp [setG, e]
theorem IMap.storeNew {w : World} {mb k s : Nat} {g : Int → Option Nat} (h : IMap w mb k s g) {ops : Array Oper} {rest : List Oper} {o : Oper} {a : Act} {Q : Exit → Act → World → Prop}
    (hg : o.guard = none) (m x v : Operand) (hop : o.op = Op.mapUpdate 178 m x v) (X : Int) (Y : Nat) (hm : a.eval m = .map (some mb)) (hx : a.eval x = .int .i64 X) (hv : a.eval v = .int .i64 (Y : Int))
    (hX : -1000000 ≤ X ∧ X ≤ 1000000) (hY : Y ≤ 100000) (hk : k ≤ 100000) (hnew : g X = none)
    (hK : ∀ w', IMap w' mb (k + 1) (s + 1) (setG g X Y) → w.grownBy w' (some mb) → wpList Try.prog ops Q rest (a.put o.dst undef) w') : wpList Try.prog ops Q (o :: rest) a w :=
  h.store hg m x v hop X Y hm hx hv hX hY hk fun w' h1 h2 => hK w' (by rw [hnew] at h1; exact h1) h2
/-- 'v, ok := m[x]' -/
theorem IMap.look {w : World} {mb k s : Nat} {g : Int → Option Nat} (h : IMap w mb k s g) {X : Int} (hX : -1000000 ≤ X ∧ X ≤ 1000000) :
    (Instr.lookup 178 (.map (some mb)) (.int .i64 X) true).run Try.prog w = .ok (.tuple #[.int .i64 (((g X).getD 0 : Nat) : Int), .bool (g X).isSome]) w := by
  obtain ⟨D, h1, h2, h3⟩ := h
  have hkey : keyOf Try.prog 3 (.int .i64 X) = some (.int .i64 X) := Maps.keyOf_int_mk Try.underlying3 (wf_near hX)
  obtain ⟨v, ps, hrun, hv⟩ := h1.look_ok Try.intKeyed Try.underlying178 (Try.zero3 w) (plainElem_int Try.underlying3 (by decide)) hkey
  obtain ⟨c, rfl, hc, _⟩ := plainElem_int_inv Try.underlying3 hv
  have e : D.atKey (.int .i64 X) (.lit (.int .i64 0)) = .lit (.int .i64 c) := congrArg Prod.fst hc
  rw [(h3 X hX).2] at e
  have e2 : (((g X).getD 0 : Nat) : Int) = c := by simpa using e
  rw [hrun, (h3 X hX).1, e2]
/-- 'm[x]' -/
theorem IMap.look1 {w : World} {mb k s : Nat} {g : Int → Option Nat} (h : IMap w mb k s g) {X : Int} (hX : -1000000 ≤ X ∧ X ≤ 1000000) :
    (Instr.lookup 178 (.map (some mb)) (.int .i64 X) false).run Try.prog w = .ok (.int .i64 (((g X).getD 0 : Nat) : Int)) w := by
  obtain ⟨D, h1, h2, h3⟩ := h
  have hkey : keyOf Try.prog 3 (.int .i64 X) = some (.int .i64 X) := Maps.keyOf_int_mk Try.underlying3 (wf_near hX)
  obtain ⟨c, hrun, hat, _⟩ := h1.lookup_int Try.intKeyed Try.underlying178 Try.underlying3 (Try.zero3 w) hkey
  rw [(h3 X hX).2] at hat
  have e2 : (((g X).getD 0 : Nat) : Int) = c := by simpa using hat
  rw [hrun, e2]
/-- 'len(m)' -/
theorem IMap.len {w : World} {mb k s : Nat} {g : Int → Option Nat} (h : IMap w mb k s g) (ty : TypeId) : (Builtin.len_ #[178] ty #[.map (some mb)]).run Try.prog w = .ok (.int .i64 (s : Int)) w := by
  obtain ⟨D, h1, h2, h3⟩ := h
  rw [h1.len Try.underlying178 ty, h2]
end Go.Proofs.Ytdmgffoikebgkaa
