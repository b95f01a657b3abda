/- A range over a method value, at the wide fence: one law for the caller; many such loops in one function. -/
import Derived.RangeFuncNested
import Derived.RangeFuncBound
import Derived.RangeFuncCalls
import Derived.RangeFuncLeaves
import Derived.Shelf.Abstract
import Derived.Shelf.RegionOpen
import Derived.WalkKit
import Derived.OwnWalkIn
import Derived.TacticsInMore
import Derived.LoopNIn
import Derived.LoopIn
import Derived.Test.YtdmgffoikebgkaaBase
namespace Go.Proofs.Ytdmgffoikebgkaa
open Go.RowKit Go.Shelf

/-- B has all that A has, but for blocks that are no cells and lie at or beyond n. -/
structure Calm (n : Nat) (A B : World) : Prop where
  os : B.os = A.os
  tape : B.tape = A.tape
  output : B.output = A.output
  size : A.heap.size ≤ B.heap.size
  same : ∀ (k : Nat) (o : Obj), A.heap[k]? = some o → (o.isCells = true ∨ k < n) → B.heap[k]? = some o
theorem Calm.refl (n : Nat) (A : World) : Calm n A A := ⟨rfl, rfl, rfl, Nat.le_refl _, fun _ _ h _ => h⟩
theorem Calm.trans {n : Nat} {A B C : World} (h : Calm n A B) (k : Calm n B C) : Calm n A C :=
  ⟨k.os.trans h.os, k.tape.trans h.tape, k.output.trans h.output, Nat.le_trans h.size k.size, fun i o hi ho => k.same i o (h.same i o hi ho) ho⟩
theorem Calm.of_below {n : Nat} {A B : World} (h : Below A.heap.size A B) : Calm n A B :=
  ⟨h.os, h.tape, h.output, h.size, fun k _o hk _ => (h.block k (Array.getElem?_eq_some_iff.1 hk).1).trans hk⟩
theorem Calm.putObj {n l : Nat} {A : World} {o : Obj} (o' : Obj) (hl : A.heap[l]? = some o) (ho : o.isCells = false) (hn : n ≤ l) : Calm n A (A.putObj l o') :=
  ⟨rfl, rfl, rfl, by simp, fun k x hk hx => by
    refine (World.putObj_heap_other ?_).trans hk
    rintro rfl
    rw [hl] at hk
    cases hk
    rcases hx with h | h
    · rw [ho] at h; cases h
    · omega⟩
theorem Calm.below {n : Nat} {A B : World} (h : Calm n A B) {W : World} (hw : Below n W A) (hn : n ≤ W.heap.size) : Below n W B :=
  ⟨h.os.trans hw.os, h.tape.trans hw.tape, h.output.trans hw.output, Nat.le_trans hw.size h.size, fun k hk => by
    have e := hw.block k hk
    have : k < A.heap.size := Nat.lt_of_lt_of_le hk (Nat.le_trans hn hw.size)
    have h2 := h.same k A.heap[k] (Array.getElem?_eq_getElem this) (.inr hk)
    rw [h2, ← e, Array.getElem?_eq_getElem this]⟩
theorem Calm.cell {n : Nat} {A B : World} (h : Calm n A B) {p : Addr} {v : Value} (hp : A.cell? p = some v) : B.cell? p = some v := by
  rw [← hp]
  have hlt := World.block_lt_of_cell? A p hp
  refine World.cell?_of_block (w := A) ?_
  cases ho : A.heap[p.block]? with
  | none => rw [Array.getElem?_eq_none_iff] at ho; omega
  | some o =>
    refine h.same _ o ho (.inl ?_)
    cases o <;> simp [World.cell?, ho, Obj.isCells] at hp ⊢
theorem Calm.frozen {n : Nat} {A B : World} (h : Calm n A B) {p : Addr} {v : Value} (hp : A.cell? p = some v) : B.frozen? p = A.frozen? p := by
  have hlt := World.block_lt_of_cell? A p hp
  refine World.frozen?_of_block (w := A) ?_
  cases ho : A.heap[p.block]? with
  | none => rw [Array.getElem?_eq_none_iff] at ho; omega
  | some o =>
    refine h.same _ o ho (.inl ?_)
    cases o <;> simp [World.cell?, ho, Obj.isCells] at hp ⊢

/-- a plain contract at a call of the wide fence -/
theorem wideCall {P : Program} {f n : Nat} {args : Array Value} {w : World} {R R' : Ending → World → Prop} (h : Calls P f args w R) (hm : ∀ e w', R e w' → R' e w') :
    Fence.wide.fn f ∧ (Fence.wide.depth.isSome = true → 1 ≤ n) ∧ CallsIn Fence.wide (n - 1) P f args w R' :=
  ⟨trivial, fun h => by simp [Fence.wide] at h, (callsIn_wide.2 h).mono hm⟩
/-- a plain contract at a call in a round -/
theorem roundCall {P : Program} {f n l : Nat} {args : Array Value} {w : World} {R R' : Ending → World → Prop} (h : Calls P f args w R) (hm : ∀ e w', R e w' → R' e w') :
    Fence.wide.fn f ∧ (Fence.wide.depth.isSome = true → 1 ≤ n) ∧ CallsIn (Fence.wide.inRound l) (n - 1) P f args w R' :=
  ⟨trivial, fun h => by simp [Fence.wide] at h, (CallsIn.inRound l (callsIn_wide.2 h)).mono hm⟩
/-- what an iterator owes to a caller that keeps its first new block -/
def Iter {α : Type} (P : Program) (n m : Nat) (gf : Nat) (rb : Array Value) (encs : α → Array Value) (xs : List α) (size : Nat) : Prop :=
  ∀ (l : Nat) (J : List α → World → Prop) (W : World), W.heap.size = size →
    (∀ s A A', J s A → Below A.heap.size A A' → J s A') →
    (∀ pre x W1, J pre W1 → (pre ++ [x]) <+: xs → size < W1.heap.size → YieldAt Fence.wide m P l (encs x) W1 fun e W' =>
      e = .returned (.bool true) ∧ J (pre ++ [x]) W' ∧ W1.heap.size ≤ W'.heap.size ∧ ∀ j, W'.cell? ⟨size, j, none⟩ = W1.cell? ⟨size, j, none⟩) →
    J [] W →
    CallsIn Fence.wide n P gf (rb ++ #[.func (.yield l) #[] #[]]) W fun e W' => (∃ v, e = .returned v) ∧ J xs W'

/-- how a round's body is left -/
def ownPostB {α : Type} (n k : Nat) (I : List α → World → Prop) (xs : List α) (W : World) : Exit → Act → World → Prop
  | .normal, _, W' => KeepsFrom n W W' ∧ I xs W' ∧ ∀ j, W'.cell? ⟨k, j, none⟩ = W.cell? ⟨k, j, none⟩
  | _, _, _ => False

theorem rangeB {P : Program} {α : Type} {g : Operand} {ps : Array Tmp} {assign body : Code} {Q : Exit → Act → World → Prop} {a : Act} {w : World} {n gf : Nat} {rb : Array Value}
    (hg : a.eval g = .func (.func gf) rb #[]) (eg : Enters P gf) {encs : α → Array Value} {xs : List α} {B : Nat} (hB : B ≤ w.heap.size) (hps : ∀ x, (encs x).size = ps.size)
    (hseq : Iter P (n - 1) (n - 1 - 1) gf rb encs xs (w.heap.size + 2))
    (I : List α → World → Prop) (hI : ∀ s A A', I s A → Calm B A A' → I s A') (h0 : I [] w) (Ax : α → Act → World → Prop) (hAx : ∀ x a1 A A', Ax x a1 A → Calm B A A' → Ax x a1 A')
    (hassign : ∀ (l : Nat) (x : α) (W : World) (K : Act → World → Prop), (∀ a1 W1, Below W.heap.size W W1 → Ax x a1 W1 → K a1 W1) →
      assign.wpIn (Fence.wide.inRound l) (n - 1 - 1) P (Exit.then K (fun _ _ _ => False)) { tmps := (ps.zip (encs x)).foldl (fun t (p, v) => t.setIfInBounds p v) a.tmps, defers := [] } W)
    (hbody : ∀ (l : Nat) (pre : List α) (x : α) (a1 : Act) (W : World), I pre W → Ax x a1 W → (pre ++ [x]) <+: xs → w.heap.size + 2 < W.heap.size → body.wpIn (Fence.wide.inRound l) (n - 1 - 1) P (ownPostB w.heap.size (w.heap.size + 2) I (pre ++ [x]) W) a1 W)
    (hdone : ∀ (W : World), w.heap.size < W.heap.size → I xs W → W.heap[w.heap.size]? = some (.deferred (some [])) → Q .normal { a with defers := { target := .collected w.heap.size, args := #[] } :: a.defers } W) :
    (Code.rangeFunc g ps assign body).wpIn Fence.wide n P Q a w := by
  refine wpIn_rangeFunc fun fn hfn => ?_
  obtain ⟨rec, hrec⟩ : ∃ rec : LoopState → Loop, rec = fun st => { state := st, pending := none, fn, tmps := a.tmps, params := ps, assign, body, defers := w.heap.size } := ⟨_, rfl⟩
  obtain ⟨D, hD⟩ : ∃ D, D = w.heap.size := ⟨_, rfl⟩
  obtain ⟨W1, hW1⟩ : ∃ W1, (w.alloc (.deferred (some []))).alloc (.loop (rec .ready)) = W1 := ⟨_, rfl⟩
  have hs1 : W1.heap.size = D + 2 := by rw [← hW1, hD]; simp
  have hL1 : W1.heap[D + 1]? = some (.loop (rec .ready)) := by
    rw [← hW1, hD]; have := World.alloc_heap_new (w.alloc (.deferred (some []))) (.loop (rec .ready)); rwa [World.size_alloc] at this
  have hK1 : W1.heap[D]? = some (.deferred (some [])) := by
    rw [← hW1, hD]; exact (Below.heap_alloc _ _ _ (by simp)).trans (World.alloc_heap_new w _)
  have hb1 : Below w.heap.size w W1 := by rw [← hW1]; exact ((Below.refl _ w).alloc (Nat.le_refl _) _).alloc (by simp) _
  have hI1 : I [] W1 := hI _ _ _ h0 (Calm.of_below hb1)
  rw [← hD] at hseq hbody hdone hB
  refine ⟨D + 1, [{ target := .collected D, args := #[] }], W1, { target := .fn (.func gf) #[], args := rb ++ #[.func (.yield (D + 1)) #[] #[]] }, W1, gf,
    rb ++ #[.func (.yield (D + 1)) #[] #[]], W1, ?_, ?_, ?_, ?_, fun h => by simp [Fence.wide] at h, ?_⟩
  · rw [← hW1, hrec, hD]; exact run_enterLoop_outer _ _ _ _ _
  · simp only [resolve, hg]
    simp [go_sem]
  · intro f' _; trivial
  · simp [invoke, go_sem, eg _ _]
  · refine (hseq (D + 1) (fun pre W => I pre W ∧ D + 2 ≤ W.heap.size ∧ W.heap[D + 1]? = some (.loop (rec .ready)) ∧ W.heap[D]? = some (.deferred (some []))) W1 hs1 ?_ ?_ ⟨hI1, by omega, hL1, hK1⟩).mono ?_
    · rintro s A A' ⟨hi, hz, hl, hk⟩ hb
      exact ⟨hI _ _ _ hi (Calm.of_below hb), Nat.le_trans hz hb.size, (hb.block _ (by omega)).trans hl, (hb.block _ (by omega)).trans hk⟩
    · rintro pre x W0 ⟨hi0, hz0, hl0, hk0⟩ hpre hsz
      have hy := run_yield (P := P) (args := encs x) hl0 (by rw [hrec]; exact hps x)
      rw [hrec] at hy
      refine ⟨fn, _, assign, body, hy, roundIn_of_wpIn hfn (hassign _ x W0 _ fun a1 W hbA hax => ?_)⟩
      have hl : W.heap[D + 1]? = some (.loop (rec .ready)) := (hbA.block _ (by omega)).trans hl0
      have hk : W.heap[D]? = some (.deferred (some [])) := (hbA.block _ (by omega)).trans hk0
      have hi : I pre W := hI _ _ _ hi0 (Calm.of_below hbA)
      have hz : D + 2 < W.heap.size := Nat.lt_of_lt_of_le hsz hbA.size
      have hcA : ∀ j, W.cell? ⟨D + 2, j, none⟩ = W0.cell? ⟨D + 2, j, none⟩ := fun j => hbA.cell (p := ⟨D + 2, j, none⟩) hsz
      refine ⟨_, run_beginRound hl (by rw [hrec]), ?_⟩
      have hbusy : (W.putObj (D + 1) (.loop { rec .ready with state := .busy })).heap[D + 1]? = some (.loop { rec .ready with state := .busy }) := World.putObj_heap_same (Array.getElem?_eq_some_iff.1 hl).1
      have hc2 : Calm B W (W.putObj (D + 1) (.loop { rec .ready with state := .busy })) := Calm.putObj _ hl rfl (by omega)
      refine wpIn_mono (hbody _ pre x a1 _ (hI _ _ _ hi hc2) (hAx _ _ _ _ hax hc2) hpre (by simpa using hz)) ?_
      rintro e a3 W3 hp
      cases e with
      | normal =>
        obtain ⟨hk3, hi3, hc3⟩ := hp
        have hl3 := hk3.same _ _ (Nat.le_succ _) hbusy rfl
        have hd3 := hk3.same _ _ (Nat.le_refl _) ((World.putObj_heap_other (by omega)).trans hk) rfl
        have hz3 : D + 2 < W3.heap.size := Nat.lt_of_lt_of_le (by simpa using hz) hk3.size
        have hr := run_endRound (P := P) none hl3
        rw [hrec] at hr hl3
        refine ⟨_, _, hr, rfl, ⟨hI _ _ _ hi3 (Calm.putObj _ hl3 rfl (by omega)), by simp; omega, ?_, (World.putObj_heap_other (by omega)).trans hd3⟩, ?_, fun j => ?_⟩
        · rw [hrec]; exact World.putObj_heap_same (by omega)
        · have h1 := hk3.size
          have h2 := hbA.size
          simp at h1 ⊢; omega
        · have e1 : ∀ (X : World) (o : Obj), (X.putObj (D + 1) o).cell? ⟨D + 2, j, none⟩ = X.cell? ⟨D + 2, j, none⟩ := fun X o => World.cell?_of_block (w := X) (World.putObj_heap_other (by simp))
          rw [e1, hc3 j, e1, hcA j]
      | _ => exact hp.elim
    · rintro e W2 ⟨⟨v, rfl⟩, hi, hz, hl, hk⟩
      have hr := run_endLoop (P := P) hl (by rw [hrec]; simp)
      rw [hrec] at hr hl
      refine ⟨none, _, hr, ?_⟩
      have := hdone _ (by simp; omega) (hI _ _ _ hi (Calm.putObj (.loop { rec .ready with state := .exhausted }) hl rfl (by omega))) ((World.putObj_heap_other (by omega)).trans hk)
      rw [hrec] at this
      rw [← hD] at *
      exact this
/-- the marks that loops leave among the deferred calls -/
def marks (ms : List Nat) : List Deferred := ms.map fun D => { target := .collected D, args := #[] }
/-- a function leaves over its marks -/
theorem leaves_marks {P : Program} {n : Nat} {fn : Func} {tmps : Array Value} {R : Ending → World → Prop} {B : Nat} {v : Value} : ∀ (ms : List Nat) (w : World),
    (∀ D, D ∈ ms → B ≤ D ∧ w.heap[D]? = some (.deferred (some []))) → ms.Nodup →
    (∀ w', Calm B w w' → (results fn tmps).run P w' = .ok v w' ∧ R (.returned v) w') → LeavesInM Fence.wide n P fn tmps R (marks ms) .returning w
  | [], w, _, _, h => ⟨v, h w (Calm.refl _ _)⟩
  | D :: ms, w, hms, hnd, h => by
    obtain ⟨hB, hD⟩ := hms D (by simp)
    have hc : Calm B w (w.putObj D (.deferred none)) := Calm.putObj _ hD rfl hB
    refine ⟨by simp, .inl ⟨D, _, rfl, run_takeDeferred hD, ?_⟩⟩
    refine leaves_marks ms _ (fun D' hD' => ⟨(hms D' (by simp [hD'])).1, ?_⟩) (List.nodup_cons.1 hnd).2 fun w' hw' => h w' (hc.trans hw')
    have hne : D' ≠ D := by rintro rfl; exact (List.nodup_cons.1 hnd).1 hD'
    exact (World.putObj_heap_other hne).trans (hms D' (by simp [hD'])).2
end Go.Proofs.Ytdmgffoikebgkaa
