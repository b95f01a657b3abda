/- The places around a ring, as an iterator. -/
import Derived.Test.YtdmgffoikebgkaaCF
namespace Go.Proofs.Ytdmgffoikebgkaa
open Go.RowKit Go.Shelf
attribute [local go_sem] Oper.semAt_some

/-- the places around a ring from one on -/
def aroundL (l first k : Nat) : List { x : Nat // x < l } := (List.range k).filterMap fun i => if h : 0 < l then some ⟨(first + i) % l, Nat.mod_lt _ h⟩ else none
theorem aroundL_succ (l first k : Nat) (h : 0 < l) : aroundL l first (k + 1) = aroundL l first k ++ [⟨(first + k) % l, Nat.mod_lt _ h⟩] := by
  simp [aroundL, List.range_succ, h]
theorem aroundL_len (l first k : Nat) (h : 0 < l) : (aroundL l first k).length = k := by
  induction k with
  | zero => rfl
  | succ k ih => rw [aroundL_succ l first k h, List.length_append, ih]; rfl
theorem aroundL_pre (l first : Nat) {k m : Nat} (h : 0 < l) (hk : k ≤ m) : aroundL l first k <+: aroundL l first m := by
  induction hk with
  | refl => exact List.prefix_refl _
  | step _ ih => rw [aroundL_succ _ _ _ h]; exact ih.trans (List.prefix_append _ _)
set_option maxHeartbeats 400000 in
theorem around_any (l f : Nat) (w : World) :
    Calls Try.prog 202 #[.int .i64 (l : Int), .int .i64 (f : Int)] w fun e w' => e = .returned (.func (.func 223) #[] #[.pointer (some ⟨w.heap.size, 0, none⟩), .pointer (some ⟨w.heap.size + 1, 0, none⟩)]) ∧
      w' = (w.alloc (.cells #[.int .i64 (l : Int)] 209)).alloc (.cells #[.int .i64 (f : Int)] 3) := by
  go_enter Try.func202, Try.ntmps202
  go_wp2
  go_ret
  exact ⟨rfl, rfl⟩
/-- the two boxes of an iterator are as they were -/
structure Keep2 (A : Nat) (W W' : World) : Prop where
  size : W.heap.size ≤ W'.heap.size
  a : W'.heap[A]? = W.heap[A]?
  b : W'.heap[A + 1]? = W.heap[A + 1]?
theorem Keep2.refl (A : Nat) (W : World) : Keep2 A W W := ⟨Nat.le_refl _, rfl, rfl⟩
theorem Keep2.trans {A : Nat} {X Y Z : World} (h : Keep2 A X Y) (k : Keep2 A Y Z) : Keep2 A X Z := ⟨Nat.le_trans h.size k.size, k.a.trans h.a, k.b.trans h.b⟩
theorem Keep2.of_below {A : Nat} {W W' : World} (hb : Below W.heap.size W W') (h : A + 1 < W.heap.size) : Keep2 A W W' := ⟨hb.size, hb.block _ (by omega), hb.block _ h⟩
theorem Keep2.setCell {A : Nat} (W : World) (p : Addr) (v : Value) (h1 : A ≠ p.block) (h2 : A + 1 ≠ p.block) : Keep2 A W (W.setCell p v) := ⟨by simp, Below.heap_setCell _ _ _ _ h1, Below.heap_setCell _ _ _ _ h2⟩
theorem Keep2.putObj {A l : Nat} (W : World) (o : Obj) (h1 : A ≠ l) (h2 : A + 1 ≠ l) : Keep2 A W (W.putObj l o) := ⟨by simp, World.putObj_heap_other h1, World.putObj_heap_other h2⟩
theorem Keep2.own {A : Nat} {W X Y : World} {row : Option Nat} (h : Keep2 A W X) (hg : X.grownBy Y row) (hA : A + 1 < W.heap.size) (hr : ∀ r, row = some r → A + 1 < r) : Keep2 A W Y :=
  ⟨Nat.le_trans h.size hg.size, (hg.block _ (by have := h.size; omega) (fun e => by have := hr _ e.symm; omega)).trans h.a, (hg.block _ (by have := h.size; omega) (fun e => by have := hr _ e.symm; omega)).trans h.b⟩
set_option maxRecDepth 100000 in
set_option maxHeartbeats 1000000 in
theorem around1_in (n : Nat) (L A l f : Nat) (hl : 0 < l) (hl2 : l ≤ 60) (hf : f < l) (J Jx : List { x : Nat // x < l } → World → Prop)
    (hY : ∀ pre x W, J pre W → pre.length < l → YieldAt Fence.wide (n - 1) Try.prog L #[.int .i64 ((x : { x : Nat // x < l }).1 : Int)] W fun e W' =>
      (e = .returned (.bool true) ∧ J (pre ++ [x]) W' ∧ Keep2 A W W') ∨ (e = .returned (.bool false) ∧ Jx (pre ++ [x]) W'))
    (W : World) (h1 : W.cell? ⟨A, 0, none⟩ = some (.int .i64 (l : Int))) (h2 : W.cell? ⟨A + 1, 0, none⟩ = some (.int .i64 (f : Int))) (h0 : J [] W) :
    CallsIn Fence.wide n Try.prog 223 #[.func (.yield L) #[] #[], .pointer (some ⟨A, 0, none⟩), .pointer (some ⟨A + 1, 0, none⟩)] W fun e W' => (∃ v, e = .returned v) ∧
      ((∃ ys, ys = aroundL l f l ∧ J ys W') ∨ (∃ pre, pre <+: aroundL l f l ∧ Jx pre W')) := by
  refine callsIn_of_wp Try.func223 rfl trivial ?_ rfl
  simp only [Try.ntmps223, List.size_toArray, List.length_cons, List.length_nil, Nat.reduceAdd, Nat.reduceSub, Array.replicate_succ, Array.replicate_zero, List.push_toArray, List.append_toArray, List.nil_append, List.cons_append]
  gi_wp2_with fail
  gi_loopw [4, 6] (fun _ i wr => ∃ k : Nat, k ≤ l ∧ i = .int .i64 k ∧ wr.cell? ⟨A, 0, none⟩ = some (.int .i64 (l : Int)) ∧ wr.cell? ⟨A + 1, 0, none⟩ = some (.int .i64 (f : Int)) ∧ J (aroundL l f k) wr)
    (fun _ i _ => l - (intOf i).toNat)
  case atStart => exact ⟨0, Nat.zero_le _, rfl, h1, h2, h0⟩
  case round =>
    obtain ⟨k, hk, rfl, g1, g2, hJ⟩ := hrel
    by_cases hlt : k < l
    · have HA := fun W => after_any l f k W hl (by omega) (by omega) (by omega)
      have Hs := Lib.hid (aroundL_succ l f k hl)
      have Hp := Lib.hid (aroundL_pre l f hl (show k + 1 ≤ l by omega))
      obtain ⟨x, hx⟩ : ∃ x : { x : Nat // x < l }, x = ⟨(f + k) % l, Nat.mod_lt _ hl⟩ := ⟨_, rfl⟩
      have hx1 : (f + k) % l = x.1 := by rw [hx]
      rw [← hx] at Hs
      simp only [hx1] at HA
      obtain ⟨fn, tmps, assign, body, hy, hR⟩ := hY _ x wr hJ (by rw [aroundL_len _ _ _ hl]; exact hlt)
      clear hx hx1
      gi_wp2_with fail
      refine wideCall (HA _) ?_
      rintro e w' ⟨rfl, rfl⟩
      gi_wp2_with fail
      refine ⟨fun h => by simp [Fence.wide] at h, hR.mono ?_⟩
      rintro e W3 (⟨rfl, hJ3, hk3⟩ | ⟨rfl, hJx3⟩)
      · have g1' := (World.cell?_of_block (a := ⟨A, 0, none⟩) hk3.a).trans g1
        have g2' := (World.cell?_of_block (a := ⟨A + 1, 0, none⟩) hk3.b).trans g2
        gi_wp2_with fail
        go_roundw
        case rel => exact ⟨k + 1, by omega, by go_num, g1', g2', by rw [Hs.out]; exact hJ3⟩
        case measure => simp [intOf]; omega
      · gi_wp2_with fail
        refine bodyPost_ret (results_none rfl _ _ _) rfl ?_
        exact ⟨⟨_, rfl⟩, .inr ⟨_, by rw [← Hs.out]; exact Hp.out, hJx3⟩⟩
    · obtain rfl : k = l := by omega
      gi_wp2_with fail
      go_end0
      exact ⟨⟨_, rfl⟩, .inl ⟨_, rfl, hJ⟩⟩
theorem around_stops (n A l f : Nat) (hl : 0 < l) (hl2 : l ≤ 60) (hf : f < l) (w : World) (h1 : w.cell? ⟨A, 0, none⟩ = some (.int .i64 (l : Int))) (h2 : w.cell? ⟨A + 1, 0, none⟩ = some (.int .i64 (f : Int))) :
    SeqStopsK Fence.wide n Try.prog 223 #[.pointer (some ⟨A, 0, none⟩), .pointer (some ⟨A + 1, 0, none⟩)] (fun x : { x : Nat // x < l } => #[.int .i64 (x.1 : Int)]) (Keep2 A)
      (fun ys => ys = aroundL l f l) (fun pre => pre <+: aroundL l f l) l w := fun L J Jx W hW _ _ hY h0 =>
  around1_in n L A l f hl hl2 hf J Jx hY W (cell_next hW h1) (cell_next hW h2) h0
end Go.Proofs.Ytdmgffoikebgkaa
