/- Integers and bits, rows of integers in memory: plain facts that the walks use. -/
import Derived.WalkKit
import Derived.WalkSpells
import Derived.WalkLawsBesides
import Derived.Lib.Hide
import Derived.RangeFuncNested
import Derived.RangeFuncBound
import Derived.RangeFuncCalls
import Derived.RangeFuncLeaves
import Derived.Shelf.Abstract
import Derived.Shelf.RegionOpen
import Derived.OwnWalkIn
import Derived.TacticsInMore
import Derived.LoopNIn
import Derived.LoopIn
import Derived.Test.YtdmgffoikebgkaaProg
import Derived.Outline
import Derived.Deep.QuietTactic
import Derived.BigQuiet
import Derived.Deep.RegionHeld3
import Derived.Deep.AppendLies
import Derived.Maps.AppendAt
import Derived.Laws.EntriesVeiled
import Derived.Deep.RegionWith
import Derived.Deep.OwnRows
namespace Go.Proofs.Ytdmgffoikebgkaa
open Go.RowKit

theorem ofInt_i64 (a : Nat) (ha : a < 9223372036854775808) : (BitVec.ofInt 64 (a : Int)).toNat = a := by
  rw [BitVec.ofInt_natCast, BitVec.toNat_ofNat]; exact Nat.mod_eq_of_lt (by omega)
theorem i64_and_nat (a b : Nat) (ha : a < 9223372036854775808) (hb : b < 9223372036854775808) : bits .and .i64 (a : Int) (b : Int) = ((a &&& b : Nat) : Int) := by
  have hx : a &&& b < 2 ^ 63 := Nat.and_lt_two_pow _ (by omega)
  show IntKind.i64.wrap ((BitVec.ofInt 64 (a : Int) &&& BitVec.ofInt 64 (b : Int)).toNat : Int) = _
  rw [BitVec.toNat_and, ofInt_i64 a ha, ofInt_i64 b hb]
  exact IntWalk.i64_in _ (by omega)
theorem i64_or_nat (a b : Nat) (ha : a < 9223372036854775808) (hb : b < 9223372036854775808) : bits .or .i64 (a : Int) (b : Int) = ((a ||| b : Nat) : Int) := by
  have hx : a ||| b < 2 ^ 63 := Nat.or_lt_two_pow (by omega) (by omega)
  show IntKind.i64.wrap ((BitVec.ofInt 64 (a : Int) ||| BitVec.ofInt 64 (b : Int)).toNat : Int) = _
  rw [BitVec.toNat_or, ofInt_i64 a ha, ofInt_i64 b hb]
  exact IntWalk.i64_in _ (by omega)
/-- 'x & 1' -/
theorem and_one (x : Nat) (hx : x < 9223372036854775808) : bits .and .i64 (x : Int) 1 = ((x % 2 : Nat) : Int) := by
  have h := i64_and_nat x 1 hx (by decide)
  rw [Nat.and_one_is_mod] at h; exact h
/-- bit k of x, behind a name that the walk does not open -/
def bitN (x k : Nat) : Bool := x.testBit k
/-- 'x >> k & 1 == 1' as the walk writes it -/
theorem shr_bit (x k : Nat) (hx : x < 9223372036854775808) : (bits .and .i64 ((x : Int) / 2 ^ k) 1 == 1) = bitN x k := by
  unfold bitN
  have e : (x : Int) / 2 ^ k = ((x / 2 ^ k : Nat) : Int) := by norm_cast
  have hle : x / 2 ^ k ≤ x := Nat.div_le_self _ _
  rw [e, and_one _ (by omega), Nat.testBit_eq_decide_div_mod_eq]
  rw [Bool.eq_iff_iff]; simp; omega
theorem shr_bit' (x k : Nat) (hx : x < 9223372036854775808) : bits .and .i64 ((x : Int) / 2 ^ k) 1 = ((bitN x k).toNat : Int) := by
  unfold bitN
  have e : (x : Int) / 2 ^ k = ((x / 2 ^ k : Nat) : Int) := by norm_cast
  have hle : x / 2 ^ k ≤ x := Nat.div_le_self _ _
  rw [e, and_one _ (by omega), Nat.toNat_testBit]

/-- element i, behind a name that the walk does not open -/
def nthI (xs : List Int) (i : Nat) : Int := xs[i]?.getD 0
def nthN (xs : List Nat) (i : Nat) : Nat := xs[i]?.getD 0
theorem nthI_get (xs : List Int) (i : Nat) (h : i < xs.length) : nthI xs i = xs[i] := by simp [nthI, h]
theorem nthN_get (xs : List Nat) (i : Nat) (h : i < xs.length) : nthN xs i = xs[i] := by simp [nthN, h]
theorem nthI_mem (xs : List Int) (i : Nat) (h : i < xs.length) : nthI xs i ∈ xs := by rw [nthI_get xs i h]; exact List.getElem_mem _
theorem takeI_succ (xs : List Int) (k : Nat) (h : k < xs.length) : xs.take (k + 1) = xs.take k ++ [nthI xs k] := by
  rw [List.take_succ_eq_append_getElem h, nthI_get xs k h]
theorem take_end {α : Type} (xs : List α) (k : Nat) (h : k ≤ xs.length) (h' : ¬ k < xs.length) : xs.take k = xs := by
  rw [List.take_of_length_le (by omega)]
/-- the cells of a row of integers -/
def IntsAt (w : World) (b off : Nat) (xs : List Int) : Prop :=
  ∀ i, i < xs.length → w.cell? ⟨b, off + i, none⟩ = some (.int .i64 (nthI xs i))
theorem IntsAt.below {B : Nat} {w w' : World} {b off : Nat} {xs : List Int} (h : IntsAt w b off xs) (hb : Below B w w') (hl : b < B) : IntsAt w' b off xs :=
  fun i hi => (hb.cell (p := ⟨b, off + i, none⟩) hl).trans (h i hi)
/-- the cells of a row of numbers -/
def NatsAt (w : World) (b off : Nat) (xs : List Nat) : Prop :=
  ∀ i, i < xs.length → w.cell? ⟨b, off + i, none⟩ = some (.int .i64 ((nthN xs i : Nat) : Int))
theorem NatsAt.below {B : Nat} {w w' : World} {b off : Nat} {xs : List Nat} (h : NatsAt w b off xs) (hb : Below B w w') (hl : b < B) : NatsAt w' b off xs :=
  fun i hi => (hb.cell (p := ⟨b, off + i, none⟩) hl).trans (h i hi)
theorem NatsAt.ints {w : World} {b off : Nat} {xs : List Nat} (h : NatsAt w b off xs) : IntsAt w b off (xs.map (fun n : Nat => (n : Int))) := by
  intro i hi
  have hi' : i < xs.length := by simpa using hi
  rw [h i hi', nthI_get _ _ hi, nthN_get _ _ hi']
  simp
end Go.Proofs.Ytdmgffoikebgkaa
/- A range over a method value, at the wide fence: one law for the caller; many such loops in one function. -/
namespace Go.Proofs.Ytdmgffoikebgkaa
open Go.RowKit Go.Shelf

/-- B has all that A has, but for blocks that are no cells and lie at or beyond n. -/
structure Calm (n : Nat) (A B : World) : Prop where
  os : B.os = A.os
  tape : B.tape = A.tape
  output : B.output = A.output
  size : A.heap.size ≤ B.heap.size
  same : ∀ (k : Nat) (o : Obj), A.heap[k]? = some o → (o.isCells = true ∨ k < n) → B.heap[k]? = some o
theorem Calm.refl (n : Nat) (A : World) : Calm n A A := ⟨rfl, rfl, rfl, Nat.le_refl _, fun _ _ h _ => h⟩
theorem Calm.trans {n : Nat} {A B C : World} (h : Calm n A B) (k : Calm n B C) : Calm n A C :=
  ⟨k.os.trans h.os, k.tape.trans h.tape, k.output.trans h.output, Nat.le_trans h.size k.size, fun i o hi ho => k.same i o (h.same i o hi ho) ho⟩
theorem Calm.of_below {n : Nat} {A B : World} (h : Below A.heap.size A B) : Calm n A B :=
  ⟨h.os, h.tape, h.output, h.size, fun k _o hk _ => (h.block k (Array.getElem?_eq_some_iff.1 hk).1).trans hk⟩
theorem Calm.putObj {n l : Nat} {A : World} {o : Obj} (o' : Obj) (hl : A.heap[l]? = some o) (ho : o.isCells = false) (hn : n ≤ l) : Calm n A (A.putObj l o') :=
  ⟨rfl, rfl, rfl, by simp, fun k x hk hx => by
    refine (World.putObj_heap_other ?_).trans hk
    rintro rfl
    rw [hl] at hk
    cases hk
    rcases hx with h | h
    · rw [ho] at h; cases h
    · omega⟩
theorem Calm.below {n : Nat} {A B : World} (h : Calm n A B) {W : World} (hw : Below n W A) (hn : n ≤ W.heap.size) : Below n W B :=
  ⟨h.os.trans hw.os, h.tape.trans hw.tape, h.output.trans hw.output, Nat.le_trans hw.size h.size, fun k hk => by
    have e := hw.block k hk
    have : k < A.heap.size := Nat.lt_of_lt_of_le hk (Nat.le_trans hn hw.size)
    have h2 := h.same k A.heap[k] (Array.getElem?_eq_getElem this) (.inr hk)
    rw [h2, ← e, Array.getElem?_eq_getElem this]⟩
theorem Calm.cell {n : Nat} {A B : World} (h : Calm n A B) {p : Addr} {v : Value} (hp : A.cell? p = some v) : B.cell? p = some v := by
  rw [← hp]
  have hlt := World.block_lt_of_cell? A p hp
  refine World.cell?_of_block (w := A) ?_
  cases ho : A.heap[p.block]? with
  | none => rw [Array.getElem?_eq_none_iff] at ho; omega
  | some o =>
    refine h.same _ o ho (.inl ?_)
    cases o <;> simp [World.cell?, ho, Obj.isCells] at hp ⊢
theorem Calm.frozen {n : Nat} {A B : World} (h : Calm n A B) {p : Addr} {v : Value} (hp : A.cell? p = some v) : B.frozen? p = A.frozen? p := by
  have hlt := World.block_lt_of_cell? A p hp
  refine World.frozen?_of_block (w := A) ?_
  cases ho : A.heap[p.block]? with
  | none => rw [Array.getElem?_eq_none_iff] at ho; omega
  | some o =>
    refine h.same _ o ho (.inl ?_)
    cases o <;> simp [World.cell?, ho, Obj.isCells] at hp ⊢

/-- a plain contract at a call of the wide fence -/
theorem wideCall {P : Program} {f n : Nat} {args : Array Value} {w : World} {R R' : Ending → World → Prop} (h : Calls P f args w R) (hm : ∀ e w', R e w' → R' e w') :
    Fence.wide.fn f ∧ (Fence.wide.depth.isSome = true → 1 ≤ n) ∧ CallsIn Fence.wide (n - 1) P f args w R' :=
  ⟨trivial, fun h => by simp [Fence.wide] at h, (callsIn_wide.2 h).mono hm⟩
/-- what an iterator owes to a caller that keeps its first new block -/
def Iter {α : Type} (P : Program) (n m : Nat) (gf : Nat) (rb : Array Value) (encs : α → Array Value) (xs : List α) (size : Nat) : Prop :=
  ∀ (l : Nat) (J : List α → World → Prop) (W : World), W.heap.size = size →
    (∀ s A A', J s A → Below A.heap.size A A' → J s A') →
    (∀ pre x W1, J pre W1 → (pre ++ [x]) <+: xs → size < W1.heap.size → YieldAt Fence.wide m P l (encs x) W1 fun e W' =>
      e = .returned (.bool true) ∧ J (pre ++ [x]) W' ∧ W1.heap.size ≤ W'.heap.size ∧ ∀ j, W'.cell? ⟨size, j, none⟩ = W1.cell? ⟨size, j, none⟩) →
    J [] W →
    CallsIn Fence.wide n P gf (rb ++ #[.func (.yield l) #[] #[]]) W fun e W' => (∃ v, e = .returned v) ∧ J xs W'

/-- how a round's body is left -/
def ownPostB {α : Type} (n k : Nat) (I : List α → World → Prop) (xs : List α) (W : World) : Exit → Act → World → Prop
  | .normal, _, W' => KeepsFrom n W W' ∧ I xs W' ∧ ∀ j, W'.cell? ⟨k, j, none⟩ = W.cell? ⟨k, j, none⟩
  | _, _, _ => False

theorem rangeB {P : Program} {α : Type} {g : Operand} {ps : Array Tmp} {assign body : Code} {Q : Exit → Act → World → Prop} {a : Act} {w : World} {n gf : Nat} {rb : Array Value}
    (hg : a.eval g = .func (.func gf) rb #[]) (eg : Enters P gf) {encs : α → Array Value} {xs : List α} {B : Nat} (hB : B ≤ w.heap.size) (hps : ∀ x, (encs x).size = ps.size)
    (hseq : Iter P (n - 1) (n - 1 - 1) gf rb encs xs (w.heap.size + 2))
    (I : List α → World → Prop) (hI : ∀ s A A', I s A → Calm B A A' → I s A') (h0 : I [] w) (Ax : α → Act → World → Prop) (hAx : ∀ x a1 A A', Ax x a1 A → Calm B A A' → Ax x a1 A')
    (hassign : ∀ (l : Nat) (x : α) (W : World) (K : Act → World → Prop), (∀ a1 W1, Below W.heap.size W W1 → Ax x a1 W1 → K a1 W1) →
      assign.wpIn (Fence.wide.inRound l) (n - 1 - 1) P (Exit.then K (fun _ _ _ => False)) { tmps := (ps.zip (encs x)).foldl (fun t (p, v) => t.setIfInBounds p v) a.tmps, defers := [] } W)
    (hbody : ∀ (l : Nat) (pre : List α) (x : α) (a1 : Act) (W : World), I pre W → Ax x a1 W → (pre ++ [x]) <+: xs → w.heap.size + 2 < W.heap.size → body.wpIn (Fence.wide.inRound l) (n - 1 - 1) P (ownPostB w.heap.size (w.heap.size + 2) I (pre ++ [x]) W) a1 W)
    (hdone : ∀ (W : World), w.heap.size < W.heap.size → I xs W → W.heap[w.heap.size]? = some (.deferred (some [])) → Q .normal { a with defers := { target := .collected w.heap.size, args := #[] } :: a.defers } W) :
    (Code.rangeFunc g ps assign body).wpIn Fence.wide n P Q a w := by
  refine wpIn_rangeFunc fun fn hfn => ?_
  obtain ⟨rec, hrec⟩ : ∃ rec : LoopState → Loop, rec = fun st => { state := st, pending := none, fn, tmps := a.tmps, params := ps, assign, body, defers := w.heap.size } := ⟨_, rfl⟩
  obtain ⟨D, hD⟩ : ∃ D, D = w.heap.size := ⟨_, rfl⟩
  obtain ⟨W1, hW1⟩ : ∃ W1, (w.alloc (.deferred (some []))).alloc (.loop (rec .ready)) = W1 := ⟨_, rfl⟩
  have hs1 : W1.heap.size = D + 2 := by rw [← hW1, hD]; simp
  have hL1 : W1.heap[D + 1]? = some (.loop (rec .ready)) := by
    rw [← hW1, hD]; have := World.alloc_heap_new (w.alloc (.deferred (some []))) (.loop (rec .ready)); rwa [World.size_alloc] at this
  have hK1 : W1.heap[D]? = some (.deferred (some [])) := by
    rw [← hW1, hD]; exact (Below.heap_alloc _ _ _ (by simp)).trans (World.alloc_heap_new w _)
  have hb1 : Below w.heap.size w W1 := by rw [← hW1]; exact ((Below.refl _ w).alloc (Nat.le_refl _) _).alloc (by simp) _
  have hI1 : I [] W1 := hI _ _ _ h0 (Calm.of_below hb1)
  rw [← hD] at hseq hbody hdone hB
  refine ⟨D + 1, [{ target := .collected D, args := #[] }], W1, { target := .fn (.func gf) #[], args := rb ++ #[.func (.yield (D + 1)) #[] #[]] }, W1, gf,
    rb ++ #[.func (.yield (D + 1)) #[] #[]], W1, ?_, ?_, ?_, ?_, fun h => by simp [Fence.wide] at h, ?_⟩
  · rw [← hW1, hrec, hD]; exact run_enterLoop_outer _ _ _ _ _
  · simp only [resolve, hg]
    simp [go_sem]
  · intro f' _; trivial
  · simp [invoke, go_sem, eg _ _]
  · refine (hseq (D + 1) (fun pre W => I pre W ∧ D + 2 ≤ W.heap.size ∧ W.heap[D + 1]? = some (.loop (rec .ready)) ∧ W.heap[D]? = some (.deferred (some []))) W1 hs1 ?_ ?_ ⟨hI1, by omega, hL1, hK1⟩).mono ?_
    · rintro s A A' ⟨hi, hz, hl, hk⟩ hb
      exact ⟨hI _ _ _ hi (Calm.of_below hb), Nat.le_trans hz hb.size, (hb.block _ (by omega)).trans hl, (hb.block _ (by omega)).trans hk⟩
    · rintro pre x W0 ⟨hi0, hz0, hl0, hk0⟩ hpre hsz
      have hy := run_yield (P := P) (args := encs x) hl0 (by rw [hrec]; exact hps x)
      rw [hrec] at hy
      refine ⟨fn, _, assign, body, hy, roundIn_of_wpIn hfn (hassign _ x W0 _ fun a1 W hbA hax => ?_)⟩
      have hl : W.heap[D + 1]? = some (.loop (rec .ready)) := (hbA.block _ (by omega)).trans hl0
      have hk : W.heap[D]? = some (.deferred (some [])) := (hbA.block _ (by omega)).trans hk0
      have hi : I pre W := hI _ _ _ hi0 (Calm.of_below hbA)
      have hz : D + 2 < W.heap.size := Nat.lt_of_lt_of_le hsz hbA.size
      have hcA : ∀ j, W.cell? ⟨D + 2, j, none⟩ = W0.cell? ⟨D + 2, j, none⟩ := fun j => hbA.cell (p := ⟨D + 2, j, none⟩) hsz
      refine ⟨_, run_beginRound hl (by rw [hrec]), ?_⟩
      have hbusy : (W.putObj (D + 1) (.loop { rec .ready with state := .busy })).heap[D + 1]? = some (.loop { rec .ready with state := .busy }) := World.putObj_heap_same (Array.getElem?_eq_some_iff.1 hl).1
      have hc2 : Calm B W (W.putObj (D + 1) (.loop { rec .ready with state := .busy })) := Calm.putObj _ hl rfl (by omega)
      refine wpIn_mono (hbody _ pre x a1 _ (hI _ _ _ hi hc2) (hAx _ _ _ _ hax hc2) hpre (by simpa using hz)) ?_
      rintro e a3 W3 hp
      cases e with
      | normal =>
        obtain ⟨hk3, hi3, hc3⟩ := hp
        have hl3 := hk3.same _ _ (Nat.le_succ _) hbusy rfl
        have hd3 := hk3.same _ _ (Nat.le_refl _) ((World.putObj_heap_other (by omega)).trans hk) rfl
        have hz3 : D + 2 < W3.heap.size := Nat.lt_of_lt_of_le (by simpa using hz) hk3.size
        have hr := run_endRound (P := P) none hl3
        rw [hrec] at hr hl3
        refine ⟨_, _, hr, rfl, ⟨hI _ _ _ hi3 (Calm.putObj _ hl3 rfl (by omega)), by simp; omega, ?_, (World.putObj_heap_other (by omega)).trans hd3⟩, ?_, fun j => ?_⟩
        · rw [hrec]; exact World.putObj_heap_same (by omega)
        · have h1 := hk3.size
          have h2 := hbA.size
          simp at h1 ⊢; omega
        · have e1 : ∀ (X : World) (o : Obj), (X.putObj (D + 1) o).cell? ⟨D + 2, j, none⟩ = X.cell? ⟨D + 2, j, none⟩ := fun X o => World.cell?_of_block (w := X) (World.putObj_heap_other (by simp))
          rw [e1, hc3 j, e1, hcA j]
      | _ => exact hp.elim
    · rintro e W2 ⟨⟨v, rfl⟩, hi, hz, hl, hk⟩
      have hr := run_endLoop (P := P) hl (by rw [hrec]; simp)
      rw [hrec] at hr hl
      refine ⟨none, _, hr, ?_⟩
      have := hdone _ (by simp; omega) (hI _ _ _ hi (Calm.putObj (.loop { rec .ready with state := .exhausted }) hl rfl (by omega))) ((World.putObj_heap_other (by omega)).trans hk)
      rw [hrec] at this
      rw [← hD] at *
      exact this
/-- the marks that loops leave among the deferred calls -/
def marks (ms : List Nat) : List Deferred := ms.map fun D => { target := .collected D, args := #[] }
/-- a function leaves over its marks -/
theorem leaves_marks {P : Program} {n : Nat} {fn : Func} {tmps : Array Value} {R : Ending → World → Prop} {B : Nat} {v : Value} : ∀ (ms : List Nat) (w : World),
    (∀ D, D ∈ ms → B ≤ D ∧ w.heap[D]? = some (.deferred (some []))) → ms.Nodup →
    (∀ w', Calm B w w' → (results fn tmps).run P w' = .ok v w' ∧ R (.returned v) w') → LeavesInM Fence.wide n P fn tmps R (marks ms) .returning w
  | [], w, _, _, h => ⟨v, h w (Calm.refl _ _)⟩
  | D :: ms, w, hms, hnd, h => by
    obtain ⟨hB, hD⟩ := hms D (by simp)
    have hc : Calm B w (w.putObj D (.deferred none)) := Calm.putObj _ hD rfl hB
    refine ⟨by simp, .inl ⟨D, _, rfl, run_takeDeferred hD, ?_⟩⟩
    refine leaves_marks ms _ (fun D' hD' => ⟨(hms D' (by simp [hD'])).1, ?_⟩) (List.nodup_cons.1 hnd).2 fun w' hw' => h w' (hc.trans hw')
    have hne : D' ≠ D := by rintro rfl; exact (List.nodup_cons.1 hnd).1 hD'
    exact (World.putObj_heap_other hne).trans (hms D' (by simp [hD'])).2
end Go.Proofs.Ytdmgffoikebgkaa
/- Walks of the small functions of package point. -/
namespace Go.Proofs.Ytdmgffoikebgkaa
open Go.RowKit

theorem ret_bool {a b : Bool} (h : a = b) : Ending.returned (.bool a) = .returned (.bool b) := by rw [h]
theorem ret_int {k : IntKind} {a b : Int} (h : a = b) : Ending.returned (.int k a) = .returned (.int k b) := by rw [h]

set_option maxHeartbeats 400000 in
theorem isBound_any (n : Int) (w : World) :
    Calls Try.prog 139 #[.int .i64 n] w fun e w' => e = .returned (.bool (decide (1 ≤ n) && decide (n ≤ 24))) ∧ w = w' := by
  go_enter Try.func139, Try.ntmps139
  go_wp2
  all_goals go_ret
  · have h : 1 ≤ n := by assumption
    exact ⟨ret_bool (by simp [h]), rfl⟩
  · have h : n < 1 := by assumption
    exact ⟨ret_bool (by simp; omega), rfl⟩

set_option maxHeartbeats 400000 in
theorem paperLifted_any (n : Int) (b off c : Nat) (xs : List Nat) (i k : Nat) (w : World) (hb : b < w.heap.size) (_hl : xs.length ≤ 1000) (hx : NatsAt w b off xs) (hi : i < xs.length) (hp : nthN xs i < 9223372036854775808) (hk : k < 64) :
    Calls Try.prog 148 #[.agg #[.int .i64 n, .slice (some ⟨b, off, none⟩) xs.length c], .int .i64 (i : Int), .int .i64 (k : Int)] w fun e w' => e = .returned (.bool (bitN (nthN xs i) k)) ∧ Below w.heap.size w w' := by
  have hc := hx i hi
  go_enter Try.func148, Try.ntmps148
  go_wp2
  go_ret
  exact ⟨ret_bool (by simpa using shr_bit _ k hp), (Below.refl _ _).alloc (Nat.le_refl _) _⟩

/-- no other hooks than those -/
def rowsOk (n : Nat) (xs : List Int) : Bool := xs.all fun x => decide (0 ≤ x) && decide (x < 2 ^ n)
theorem rowsOk_step (n : Nat) (xs : List Int) (k : Nat) (h : k < xs.length) (hr : rowsOk n (xs.take k) = true) (h0 : 0 ≤ nthI xs k) (h1 : nthI xs k < 2 ^ n) : rowsOk n (xs.take (k + 1)) = true := by
  unfold rowsOk at *
  rw [takeI_succ xs k h, List.all_append, hr]
  simp [h0, h1]
theorem rowsOk_false (n : Nat) (xs : List Int) (k : Nat) (h : k < xs.length) (hb : nthI xs k < 0 ∨ 2 ^ n ≤ nthI xs k) : rowsOk n xs = false := by
  unfold rowsOk
  rw [List.all_eq_false]
  refine ⟨nthI xs k, nthI_mem xs k h, ?_⟩
  simp
  omega
theorem pow_bds (n : Nat) (h : n ≤ 24) : 1 ≤ (2 : Int) ^ n ∧ (2 : Int) ^ n ≤ 16777216 := by
  have h1 : (2 : Nat) ^ n ≤ 16777216 := Nat.le_trans (Nat.pow_le_pow_right (by decide) h) (by decide)
  have h2 : 0 < (2 : Nat) ^ n := Nat.pow_pos (by decide)
  have e : (2 : Int) ^ n = ((2 ^ n : Nat) : Int) := (Int.natCast_pow 2 n).symm
  rw [e]
  generalize 2 ^ n = q at h1 h2
  omega
set_option maxHeartbeats 400000 in
theorem areRows_any (n : Nat) (b off c : Nat) (xs : List Int) (w : World) (hn2 : n ≤ 24) (hl : xs.length ≤ 1000) (hx : IntsAt w b off xs) :
    Calls Try.prog 138 #[.int .i64 (n : Int), .slice (some ⟨b, off, none⟩) xs.length c] w fun e w' => e = .returned (.bool (rowsOk n xs)) ∧ w = w' := by
  obtain ⟨hp1, hp2⟩ := pow_bds n hn2
  go_enter Try.func138, Try.ntmps138
  go_wp2
  go_loop [6, 9] (fun _ i => ∃ k : Nat, k ≤ xs.length ∧ i = .int .i64 k ∧ rowsOk n (xs.take k) = true) (fun _ i => xs.length - (intOf i).toNat)
  case atStart => exact ⟨0, Nat.zero_le _, rfl, by simp [rowsOk]⟩
  case round =>
    obtain ⟨k, hk, rfl, hr⟩ := hrel
    have Hr := Lib.hid hr; clear hr
    by_cases hlt : k < xs.length
    · have hc := hx k hlt
      go_wp2
      · have h : nthI xs k < 0 ∨ 2 ^ n ≤ nthI xs k := by assumption
        go_ret
        exact ⟨ret_bool (rowsOk_false n xs k hlt h).symm, rfl⟩
      · have h : 0 ≤ nthI xs k ∧ nthI xs k < 2 ^ n := by assumption
        go_round
        case rel => exact ⟨k + 1, by omega, by go_num, rowsOk_step n xs k hlt Hr.out h.1 h.2⟩
        case measure => simp [intOf]; omega
      · have h : nthI xs k < 0 := by assumption
        go_ret
        exact ⟨ret_bool (rowsOk_false n xs k hlt (Or.inl h)).symm, rfl⟩
    · go_wp2
      go_ret
      exact ⟨ret_bool (by rw [← Hr.out, take_end xs k hk hlt]), rfl⟩
/-- the error of a design -/
def checkE (h : Int) (xs : List Int) : Int :=
  if h < 1 ∨ 24 < h then 2 else if 60 < xs.length then 5 else if xs.length = 0 then 7 else if rowsOk h.toNat xs then 0 else 2
/-- a slice value that reads as a list of integers -/
def Reads (w : World) (v : Value) (xs : List Int) : Prop :=
  ∃ (p : Option Addr) (c : Nat), v = .slice p xs.length c ∧ xs.length ≤ 17592186044416 ∧ (0 < xs.length → ∃ b off, p = some ⟨b, off, none⟩ ∧ b < w.heap.size ∧ IntsAt w b off xs)
set_option maxHeartbeats 400000 in
theorem Check_any (h : Int) (v : Value) (xs : List Int) (w : World) (hv : Reads w v xs) :
    Calls Try.prog 176 #[.agg #[.int .i64 h, v]] w fun e w' => e = .returned (.int .i64 (checkE h xs)) ∧ Below w.heap.size w w' := by
  obtain ⟨p, c, rfl, hl, hx⟩ := hv
  by_cases h1 : h < 1 ∨ 24 < h
  · have he : checkE h xs = 2 := by simp [checkE, h1]
    have He := Lib.hid he; clear he
    go_enter Try.func176, Try.ntmps176
    go_wp2
    all_goals go_ret
    all_goals exact ⟨ret_int He.out.symm, (Below.refl _ _).alloc (Nat.le_refl _) _⟩
  · obtain ⟨n, rfl⟩ := Int.eq_ofNat_of_zero_le (show 0 ≤ h by omega)
    have g1 : (1 : Int) ≤ (n : Int) := by omega
    have g2 : (n : Int) ≤ 24 := by omega
    by_cases h2 : 60 < xs.length
    · have he : checkE n xs = 5 := by rw [checkE, if_neg h1, if_pos h2]
      have He := Lib.hid he; clear he
      clear h1 hx
      go_enter Try.func176, Try.ntmps176
      go_wp2
      go_ret
      exact ⟨ret_int He.out.symm, (Below.refl _ _).alloc (Nat.le_refl _) _⟩
    · by_cases h3 : xs.length = 0
      · have he : checkE n xs = 7 := by rw [checkE, if_neg h1, if_neg h2, if_pos h3]
        have He := Lib.hid he; clear he
        obtain rfl : xs = [] := List.eq_nil_of_length_eq_zero h3
        clear h1 hx h2 hl h3
        go_enter Try.func176, Try.ntmps176
        go_wp2
        go_ret
        exact ⟨ret_int He.out.symm, (Below.refl _ _).alloc (Nat.le_refl _) _⟩
      · obtain ⟨b, off, rfl, hb, hx⟩ := hx (by omega)
        have h3' : 0 < xs.length := by omega
        have h2' : xs.length ≤ 60 := by omega
        have hx1 : IntsAt (w.alloc (.cells #[.int .i64 (n : Int), .slice (some ⟨b, off, none⟩) xs.length c] 37)) b off xs := hx.below ((Below.refl _ _).alloc (Nat.le_refl _) _) hb
        have he : checkE n xs = if rowsOk n xs then 0 else 2 := by rw [checkE, if_neg h1, if_neg h2, if_neg h3]; simp
        have He := Lib.hid he; clear he
        have Hc := fun w1 (hx1 : IntsAt w1 b off xs) => areRows_any n b off c xs w1 (by omega) (by omega) hx1
        clear h1 h2 h3 hx
        cases hr : rowsOk n xs
        all_goals
          rw [hr] at Hc
          have Hr := Lib.hid hr; clear hr
          go_enter Try.func176, Try.ntmps176
          go_wp2_with (go_at_call 138; refine (Hc _ hx1).mono ?_; rintro e w' ⟨rfl, rfl⟩)
          go_ret
          exact ⟨ret_int (by rw [He.out, Hr.out]; rfl), (Below.refl _ _).alloc (Nat.le_refl _) _⟩
end Go.Proofs.Ytdmgffoikebgkaa
/- Walks of rings: alike, length, runs. -/
namespace Go.Proofs.Ytdmgffoikebgkaa
open Go.RowKit

/-- are all points of a ring alike? -/
def alikeB (s p : Nat) : Bool := p == 0 || p == 2 ^ s - 1
/-- how many points from one on are alike: with a number of steps -/
def lenG (s p f : Nat) : Nat → Nat → Nat
  | 0, n => n
  | fuel + 1, n => if bitN p ((f + n) % s) == bitN p f then lenG s p f fuel (n + 1) else n
def lenF (s p f : Nat) : Nat := lenG s p f (s - 1) 1
end Go.Proofs.Ytdmgffoikebgkaa
/- The runs of a ring, as an iterator. -/
namespace Go.Proofs.Ytdmgffoikebgkaa
open Go.RowKit Go.Shelf
attribute [local go_sem] Oper.semAt_some

/-- a run: its first point, its length, whether it is lifted -/
structure Run where
  first : Nat
  length : Nat
  lifted : Bool
deriving DecidableEq
def Run.enc (r : Run) : Value := .agg #[.int .i64 (r.first : Int), .int .i64 (r.length : Int), .bool r.lifted]
/-- does a run begin at a place? -/
def begins (s p k : Nat) : Bool := bitN p ((k + s - 1) % s) != bitN p k
def runsTo (s p k : Nat) : List Run := ((List.range k).filter (begins s p)).map fun i => ⟨i, lenF s p i, bitN p i⟩
def runsOf (s p : Nat) : List Run := if alikeB s p then [⟨0, 1000, bitN p 0⟩] else runsTo s p s
theorem runsTo_yes {s p k : Nat} (h : begins s p k = true) : runsTo s p (k + 1) = runsTo s p k ++ [⟨k, lenF s p k, bitN p k⟩] := by
  simp [runsTo, List.range_succ, List.filter_append, h]
theorem runsTo_no {s p k : Nat} (h : begins s p k = false) : runsTo s p (k + 1) = runsTo s p k := by
  simp [runsTo, List.range_succ, List.filter_append, h]
theorem runsTo_pre {s p k m : Nat} (h : k ≤ m) : runsTo s p k <+: runsTo s p m := by
  induction h with
  | refl => exact List.prefix_refl _
  | step h ih =>
    refine ih.trans ?_
    cases hb : begins s p _ with
    | true => rw [runsTo_yes hb]; exact List.prefix_append _ _
    | false => rw [runsTo_no hb]; exact List.prefix_refl _
theorem lenG_spec (s p f : Nat) : ∀ (fuel n : Nat), (∃ m, n ≤ m ∧ m < n + fuel ∧ bitN p ((f + m) % s) ≠ bitN p f) →
    n ≤ lenG s p f fuel n ∧ lenG s p f fuel n < n + fuel ∧ (∀ i, n ≤ i → i < lenG s p f fuel n → bitN p ((f + i) % s) = bitN p f) ∧ bitN p ((f + lenG s p f fuel n) % s) ≠ bitN p f
  | 0, n, ⟨m, h1, h2, _⟩ => by omega
  | fuel + 1, n, ⟨m, h1, h2, h3⟩ => by
    by_cases h : bitN p ((f + n) % s) = bitN p f
    · have e : lenG s p f (fuel + 1) n = lenG s p f fuel (n + 1) := by simp [lenG, h]
      have hm : m ≠ n := by rintro rfl; exact h3 h
      obtain ⟨a, b, c, d⟩ := lenG_spec s p f fuel (n + 1) ⟨m, by omega, by omega, h3⟩
      rw [e]
      refine ⟨by omega, by omega, fun i hi hi2 => ?_, d⟩
      by_cases hin : i = n
      · subst hin; exact h
      · exact c i (by omega) hi2
    · have e : lenG s p f (fuel + 1) n = n := by simp [lenG, h]
      rw [e]
      exact ⟨Nat.le_refl _, by omega, fun i hi hi2 => by omega, h⟩
theorem lenF_spec {s p f : Nat} (hs : 0 < s) (h : begins s p f = true) (hf : f < s) :
    (1 ≤ lenF s p f ∧ lenF s p f < s) ∧ (∀ n, 1 ≤ n → n < lenF s p f → bitN p ((f + n) % s) = bitN p f) ∧ bitN p ((f + lenF s p f) % s) ≠ bitN p f := by
  have hne : bitN p ((f + s - 1) % s) ≠ bitN p f := by simpa [begins] using h
  have h2 : 2 ≤ s := by
    by_cases h1 : s = 1
    · subst h1; obtain rfl : f = 0 := by omega
      simp at hne
    · omega
  obtain ⟨a, b, c, d⟩ := lenG_spec s p f (s - 1) 1 ⟨s - 1, by omega, by omega, by rw [← Nat.add_sub_assoc (by omega)]; exact hne⟩
  exact ⟨⟨a, by unfold lenF; omega⟩, c, d⟩
theorem below_drew1 (w : World) : Below w.heap.size w w.drew := (Below.refl _ w).drew

end Go.Proofs.Ytdmgffoikebgkaa
/- Walks of pick, hook, longerThan. -/
namespace Go.Proofs.Ytdmgffoikebgkaa
open Go.RowKit

set_option maxHeartbeats 400000 in
theorem pick_any (n : Nat) (b off c : Nat) (xs : List Nat) (i : Nat) (w : World) (hb : b < w.heap.size) (_hl : xs.length ≤ 1000) (hx : NatsAt w b off xs) (hi : i < xs.length) :
    Calls Try.prog 140 #[.agg #[.int .i64 (n : Int), .slice (some ⟨b, off, none⟩) xs.length c], .int .i64 (i : Int)] w fun e w' => e = .returned (.agg #[.int .i64 (n : Int), .int .i64 (nthN xs i : Int)]) ∧ Below w.heap.size w w' := by
  have hc := hx i hi
  have hi0 : (0 : Int) ≤ (i : Int) := by omega
  have hi1 : (i : Int) < (xs.length : Int) := by omega
  have hc1 : ((w.alloc (.cells #[.int .i64 (n : Int), .slice (some ⟨b, off, none⟩) xs.length c] 191)).alloc (.cells #[.int .i64 0, .int .i64 0] 189)).cell? ⟨b, off + i, none⟩ = some (.int .i64 (nthN xs i : Int)) := (((Below.refl w.heap.size w).alloc (Nat.le_refl _) _).alloc (by simp) _).cell (p := ⟨b, off + i, none⟩) hb |>.trans hc
  go_enter Try.func140, Try.ntmps140
  go_wp2
  go_region
  go_wp2
  exact bodyPost_ret (v := .agg #[.int .i64 (n : Int), .int .i64 (nthN xs i : Int)]) (by simp [results, Try.results140, go_sem]) rfl ⟨rfl, (((Below.refl _ _).alloc (Nat.le_refl _) _).alloc (by simp) _).drew⟩
theorem wrap64_in (n : Int) (h : -9223372036854775808 ≤ n ∧ n ≤ 9223372036854775807) : wrap64 n = n := by unfold wrap64; omega
end Go.Proofs.Ytdmgffoikebgkaa
/- keep: the closure that collects floats. -/
namespace Go.Proofs.Ytdmgffoikebgkaa
open Go.RowKit

/-- a float -/
structure Fl where
  pick : Nat
  hook : Nat
  length : Nat
  lifted : Bool
deriving DecidableEq, Repr
def Fl.cells (f : Fl) : List Value := [.int .i64 (f.pick : Int), .int .i64 (f.hook : Int), .int .i64 (f.length : Int), .bool f.lifted]
def flCells (fs : List Fl) : List Value := fs.flatMap Fl.cells
theorem flCells_snoc (fs : List Fl) (f : Fl) : flCells (fs ++ [f]) = flCells fs ++ f.cells := by simp [flCells]
/-- what one write into a box and its row leaves as it was -/
structure Wr (w w' : World) (bl : Nat) (v : Value) : Prop where
  os : w'.os = w.os
  tape : w'.tape = w.tape
  output : w'.output = w.output
  size : w.heap.size ≤ w'.heap.size
  block : ∀ k, k < w.heap.size → k ≠ bl → some k ≠ v.ownBlock → w'.heap[k]? = w.heap[k]?
/-- a list of floats in a box -/
structure FlBox (w : World) (n0 bl : Nat) (v : Value) (fs : List Fl) : Prop where
  box : Boxed w bl 52 v
  row : w.ownsRow n0 149 4 v fs.length (flCells fs)
theorem Try.info149 : (Try.prog.info? 149).map (fun i => (i.zero, i.size, i.bytes)) = some (some (.agg #[.int .i64 0, .int .i64 0, .int .i64 0, .bool false]), 4, 32) := by kernel_rfl

theorem ownBlock_ge {w : World} {n0 e size n : Nat} {v : Value} {xs : List Value} (h : w.ownsRow n0 e size v n xs) {g : Nat} (hg : v.ownBlock = some g) : n0 ≤ g ∧ g < w.heap.size := by
  obtain ⟨_, ⟨rfl, _⟩ | ⟨g', cap, cur, rfl, hb, hh, _⟩⟩ := h
  · simp [Value.ownBlock] at hg
  · simp [Value.ownBlock] at hg; subst hg
    exact ⟨hb, (Array.getElem?_eq_some_iff.1 hh).1⟩
theorem Wr.below {w w' : World} {bl n0 e size n : Nat} {v : Value} {xs : List Value} (h : Wr w w' bl v) (hr : w.ownsRow n0 e size v n xs) (hb : n0 ≤ bl) (hn : n0 ≤ w.heap.size) : Below n0 w w' :=
  ⟨h.os, h.tape, h.output, h.size, fun k hk => h.block k (by omega) (by omega) (fun e => by have := ownBlock_ge hr e.symm; omega)⟩
theorem Wr.cell {w w' : World} {bl : Nat} {v : Value} (h : Wr w w' bl v) {p : Addr} (h1 : p.block < w.heap.size) (h2 : p.block ≠ bl) (h3 : some p.block ≠ v.ownBlock) : w'.cell? p = w.cell? p :=
  World.cell?_of_block (w := w) (h.block _ h1 h2 h3)
theorem FlBox.below {w w' : World} {n0 bl : Nat} {v : Value} {fs : List Fl} (h : FlBox w n0 bl v fs) (hb : Below w.heap.size w w') : FlBox w' n0 bl v fs := by
  refine ⟨(hb.block _ h.box.lt).trans h.box, ?_⟩
  obtain ⟨hl, h2⟩ := h.row
  refine ⟨hl, ?_⟩
  rcases h2 with h2 | ⟨g, cap, cur, e, hg, hh, r⟩
  · exact .inl h2
  · exact .inr ⟨g, cap, cur, e, hg, (hb.block _ (Array.getElem?_eq_some_iff.1 hh).1).trans hh, r⟩
theorem FlBox.calm {w w' : World} {n n0 bl : Nat} {v : Value} {fs : List Fl} (h : FlBox w n0 bl v fs) (hb : Calm n w w') : FlBox w' n0 bl v fs := by
  refine ⟨hb.same _ _ h.box (.inl rfl), ?_⟩
  obtain ⟨hl, h2⟩ := h.row
  refine ⟨hl, ?_⟩
  rcases h2 with h2 | ⟨g, cap, cur, e, hg, hh, r⟩
  · exact .inl h2
  · exact .inr ⟨g, cap, cur, e, hg, hb.same _ _ hh (.inl rfl), r⟩

end Go.Proofs.Ytdmgffoikebgkaa
/- floats: all floats of a design along picks, or along hooks. · floats along hooks. -/
namespace Go.Proofs.Ytdmgffoikebgkaa
section
open Go.RowKit Go.Shelf
attribute [local go_sem] Oper.semAt_some

/-- ring after ring -/
def upTo (f : Nat → List Fl) (k : Nat) : List Fl := (List.range k).flatMap f
theorem upTo_succ (f : Nat → List Fl) (k : Nat) : upTo f (k + 1) = upTo f k ++ f k := by simp [upTo, List.range_succ]
theorem runsTo_len (s p : Nat) : ∀ k, (runsTo s p k).length ≤ k := by
  intro k
  unfold runsTo
  rw [List.length_map]
  exact Nat.le_trans (List.length_filter_le _ _) (by simp)
theorem prefix_len {α : Type} {a b : List α} (h : a <+: b) : a.length ≤ b.length := h.length_le

theorem Calm.mono {n n' : Nat} {A B : World} (h : Calm n A B) (hn : n' ≤ n) : Calm n' A B :=
  ⟨h.os, h.tape, h.output, h.size, fun k o hk ho => h.same k o hk (ho.imp id fun h => by omega)⟩
/-- the marks are open -/
def Open (ms : List Nat) (n0 : Nat) (W : World) : Prop := ms.Nodup ∧ ∀ D, D ∈ ms → n0 ≤ D ∧ W.heap[D]? = some (.deferred (some []))
theorem Open.lt {ms : List Nat} {n0 : Nat} {W : World} (h : Open ms n0 W) {D : Nat} (hD : D ∈ ms) : D < W.heap.size := (Array.getElem?_eq_some_iff.1 (h.2 D hD).2).1
theorem Open.calm {ms : List Nat} {n0 n : Nat} {W W' : World} (h : Open ms n0 W) (hc : Calm n W W') (hn : ∀ D, D ∈ ms → D < n) : Open ms n0 W' :=
  ⟨h.1, fun D hD => ⟨(h.2 D hD).1, hc.same _ _ (h.2 D hD).2 (.inr (hn D hD))⟩⟩
theorem Open.cons {ms : List Nat} {n0 D : Nat} {W : World} (h : Open ms n0 W) (hn : ∀ E, E ∈ ms → E < D) (h0 : n0 ≤ D) (hD : W.heap[D]? = some (.deferred (some []))) : Open (D :: ms) n0 W :=
  ⟨List.nodup_cons.2 ⟨fun hm => by have := hn D hm; omega, h.1⟩, fun E hE => by
    rcases List.mem_cons.1 hE with rfl | hE
    · exact ⟨h0, hD⟩
    · exact h.2 E hE⟩
theorem Open.wr {ms : List Nat} {n0 bl m : Nat} {W W' : World} {v : Value} {fs : List Fl} (h : Open ms n0 W) (hw : Wr W W' bl v) (hv : FlBox W m bl v fs) : Open ms n0 W' :=
  ⟨h.1, fun D hD => ⟨(h.2 D hD).1, by
    have hh := (h.2 D hD).2
    refine (hw.block D (h.lt hD) ?_ ?_).trans hh
    · rintro rfl; rw [hv.box] at hh; cases hh
    · intro e
      obtain ⟨_, ⟨rfl, _⟩ | ⟨g, cap, cur, rfl, _, hg, _⟩⟩ := hv.row
      · simp [Value.ownBlock] at e
      · simp [Value.ownBlock] at e; subst e; rw [hg] at hh; cases hh⟩⟩
end
end Go.Proofs.Ytdmgffoikebgkaa
namespace Go.Proofs.Ytdmgffoikebgkaa
section
open Go.RowKit Go.Shelf
attribute [local go_sem] Oper.semAt_some
end
end Go.Proofs.Ytdmgffoikebgkaa
/- check: the error of the first design that has one. -/
namespace Go.Proofs.Ytdmgffoikebgkaa
open Go.RowKit

theorem Reads.below {w w' : World} {v : Value} {xs : List Int} (h : Reads w v xs) (hb : Below w.heap.size w w') : Reads w' v xs := by
  obtain ⟨p, c, rfl, hl, hx⟩ := h
  refine ⟨p, c, rfl, hl, fun h0 => ?_⟩
  obtain ⟨b, off, rfl, hb', hi⟩ := hx h0
  exact ⟨b, off, rfl, Nat.lt_of_lt_of_le hb' hb.size, hi.below hb hb'⟩
/-- a design: its hooks, its rows as a value, its rows as numbers -/
structure Dsg where
  hooks : Int
  p : Option Addr
  cap : Nat
  xs : List Int
def Dsg.v (d : Dsg) : Value := .slice d.p d.xs.length d.cap
def Dsg.e (d : Dsg) : Int := checkE d.hooks d.xs
def firstE : List Dsg → Int
  | [] => 0
  | d :: ds => if d.e = 0 then firstE ds else d.e
def nthD (ds : List Dsg) (i : Nat) : Dsg := ds[i]?.getD ⟨0, none, 0, []⟩
/-- the cells of a row of designs -/
structure DsAt (w : World) (b : Nat) (ds : List Dsg) : Prop where
  c0 : ∀ i, i < ds.length → w.cell? ⟨b, i * 2, none⟩ = some (.int .i64 (nthD ds i).hooks)
  c1 : ∀ i, i < ds.length → w.cell? ⟨b, i * 2 + 1, none⟩ = some (.slice (nthD ds i).p (nthD ds i).xs.length (nthD ds i).cap)
  rd : ∀ i, i < ds.length → Reads w (nthD ds i).v (nthD ds i).xs
  lt : b < w.heap.size
theorem DsAt.below {w w' : World} {b : Nat} {ds : List Dsg} (h : DsAt w b ds) (hb : Below w.heap.size w w') : DsAt w' b ds :=
  ⟨fun i hi => (hb.cell (p := ⟨b, i * 2, none⟩) h.lt).trans (h.c0 i hi), fun i hi => (hb.cell (p := ⟨b, i * 2 + 1, none⟩) h.lt).trans (h.c1 i hi), fun i hi => (h.rd i hi).below hb, Nat.lt_of_lt_of_le h.lt hb.size⟩
/-- nothing is wrong with the first k -/
def goodTo (ds : List Dsg) (k : Nat) : Prop := ∀ i, i < k → (nthD ds i).e = 0
theorem firstE_at : ∀ (ds : List Dsg) (k : Nat), k < ds.length → goodTo ds k → (nthD ds k).e ≠ 0 → firstE ds = (nthD ds k).e
  | [], k, h, _, _ => by simp at h
  | d :: ds, 0, _, _, hne => by
    have e : nthD (d :: ds) 0 = d := rfl
    rw [e] at hne ⊢
    simp [firstE, hne]
  | d :: ds, k + 1, h, hg, hne => by
    have e0 : d.e = 0 := hg 0 (by omega)
    have e : nthD (d :: ds) (k + 1) = nthD ds k := rfl
    rw [e] at hne ⊢
    simp only [firstE, if_pos e0]
    exact firstE_at ds k (by simpa using h) (fun i hi => hg (i + 1) (by omega)) hne
theorem firstE_good : ∀ (ds : List Dsg), goodTo ds ds.length → firstE ds = 0
  | [], _ => rfl
  | d :: ds, hg => by
    have e0 : d.e = 0 := hg 0 (by simp)
    simp only [firstE, if_pos e0]
    exact firstE_good ds fun i hi => hg (i + 1) (by simpa using hi)

set_option maxHeartbeats 1000000 in
theorem check_any (b c : Nat) (ds : List Dsg) (w : World) (hl : ds.length ≤ 100) (hd : DsAt w b ds) :
    Calls Try.prog 137 #[.slice (some ⟨b, 0, none⟩) ds.length c] w fun e w' => e = .returned (.int .i64 (firstE ds)) ∧ Below w.heap.size w w' := by
  go_enter Try.func137, Try.ntmps137
  go_wp2
  go_loopw [4, 5, 8] (fun _ _ i wr => ∃ k : Nat, k ≤ ds.length ∧ i = .int .i64 k ∧ goodTo ds k ∧ Below w.heap.size w wr) (fun _ _ i _ => ds.length - (intOf i).toNat)
  case atStart => exact ⟨0, Nat.zero_le _, rfl, fun i hi => by omega, Below.refl _ _⟩
  case round =>
    obtain ⟨k, hk, rfl, hg, hB⟩ := hrel
    have Hg := Lib.hid hg; clear hg
    by_cases hlt : k < ds.length
    · have hdr := hd.below hB
      have hc0 := hdr.c0 k hlt
      have hc1 := hdr.c1 k hlt
      have hrd := (hdr.rd k hlt).below ((Below.refl _ _).alloc (Nat.le_refl _) (.cells #[.int .i64 (nthD ds k).hooks, .slice (nthD ds k).p (nthD ds k).xs.length (nthD ds k).cap] 37))
      unfold Dsg.v at hrd
      have Hrd := Lib.hid hrd
      clear hrd
      by_cases he : (nthD ds k).e = 0
      · have he' : ((nthD ds k).e != 0) = false := by simp [he]
        have Hg2 : Hid (goodTo ds (k + 1)) := Lib.hid (fun i hi => by
          by_cases h : i = k
          · rw [h]; exact he
          · exact Hg.out i (by omega))
        unfold Dsg.e at he'
        clear he
        go_wp2_with (go_at_call 176; refine (Check_any _ _ _ _ Hrd.out).mono ?_; rintro e w' ⟨rfl, hb1⟩)
        go_roundw
        case rel => exact ⟨k + 1, by omega, by go_num, Hg2.out, hB.trans ((((Below.refl _ _).alloc hB.size _)).trans (hb1.mono (by simp; have := hB.size; omega)))⟩
        case measure => simp [intOf]; omega
      · have he' : ((nthD ds k).e != 0) = true := by simp [he]
        have Hf := Lib.hid (firstE_at ds k hlt Hg.out he)
        unfold Dsg.e at he'
        clear he
        go_wp2_with (go_at_call 176; refine (Check_any _ _ _ _ Hrd.out).mono ?_; rintro e w' ⟨rfl, hb1⟩)
        go_ret
        exact ⟨ret_int (by rw [Hf.out]; rfl), hB.trans ((((Below.refl _ _).alloc hB.size _)).trans (hb1.mono (by simp; have := hB.size; omega)))⟩
    · go_wp2
      go_ret
      exact ⟨ret_int (firstE_good ds (by have : k = ds.length := by omega
                                         rw [← this]; exact Hg.out)).symm, hB⟩
end Go.Proofs.Ytdmgffoikebgkaa
/- Floats. · Floats, Proof, Longest. -/
namespace Go.Proofs.Ytdmgffoikebgkaa
section
open Go.RowKit

theorem DsAt_one (W : World) (d : Dsg) (hr : Reads W d.v d.xs) : DsAt (W.alloc (.cells #[.int .i64 d.hooks, .slice d.p d.xs.length d.cap] 37)) W.heap.size [d] := by
  refine ⟨fun i hi => ?_, fun i hi => ?_, fun i hi => ?_, by simp⟩
  all_goals obtain rfl : i = 0 := by simpa using hi
  · simp [nthD]
  · simp [nthD]
  · exact hr.below ((Below.refl _ _).alloc (Nat.le_refl _) _)
theorem DsAt_two (W : World) (d e : Dsg) (hr : Reads W d.v d.xs) (hs : Reads W e.v e.xs) : DsAt (W.alloc (.cells #[.int .i64 d.hooks, .slice d.p d.xs.length d.cap, .int .i64 e.hooks, .slice e.p e.xs.length e.cap] 37)) W.heap.size [d, e] := by
  have h2 : ∀ i, i < [d, e].length → i = 0 ∨ i = 1 := fun i hi => by simp at hi; omega
  refine ⟨fun i hi => ?_, fun i hi => ?_, fun i hi => ?_, by simp⟩
  all_goals rcases h2 i hi with rfl | rfl
  · simp [nthD]
  · simp [nthD]
  · simp [nthD]
  · simp [nthD]
  · exact hr.below ((Below.refl _ _).alloc (Nat.le_refl _) _)
  · exact hs.below ((Below.refl _ _).alloc (Nat.le_refl _) _)
/-- a design that is valid -/
structure Valid (n : Nat) (xs : List Nat) : Prop where
  n0 : 1 ≤ n
  n1 : n ≤ 24
  l0 : 1 ≤ xs.length
  l1 : xs.length ≤ 60
  lt : ∀ i, nthN xs i < 2 ^ n
theorem Valid.lt' {n : Nat} {xs : List Nat} (h : Valid n xs) (i : Nat) : nthN xs i < 16777216 :=
  Nat.lt_of_lt_of_le (h.lt i) (Nat.le_trans (Nat.pow_le_pow_right (by decide) h.n1) (by decide))
def ints (xs : List Nat) : List Int := xs.map fun n : Nat => (n : Int)
theorem ints_len (xs : List Nat) : (ints xs).length = xs.length := by simp [ints]
theorem Valid.check {n : Nat} {xs : List Nat} (h : Valid n xs) : checkE n (ints xs) = 0 := by
  have h1 := h.n0; have h2 := h.n1; have h3 := h.l0; have h4 := h.l1
  unfold checkE
  rw [if_neg (by omega), if_neg (by rw [ints_len]; omega), if_neg (by rw [ints_len]; omega), if_pos]
  unfold rowsOk ints
  rw [List.all_eq_true]
  intro x hx
  obtain ⟨y, hy, rfl⟩ := List.mem_map.1 hx
  obtain ⟨i, hi, rfl⟩ := List.mem_iff_getElem.1 hy
  have := h.lt i
  rw [nthN_get _ _ hi] at this
  have e : (2 : Int) ^ (n : Int).toNat = ((2 ^ n : Nat) : Int) := by rw [Int.toNat_natCast]; exact (Int.natCast_pow 2 n).symm
  rw [e]
  simp
  exact_mod_cast this
/-- the rows of a valid design in memory -/
structure VAt (w : World) (b off c : Nat) (n : Nat) (xs : List Nat) : Prop where
  at' : NatsAt w b off xs
  lt : b < w.heap.size
  ok : Valid n xs
theorem VAt.below {w w' : World} {b off c n : Nat} {xs : List Nat} (h : VAt w b off c n xs) (hb : Below w.heap.size w w') : VAt w' b off c n xs :=
  ⟨h.at'.below hb h.lt, Nat.lt_of_lt_of_le h.lt hb.size, h.ok⟩
theorem VAt.reads {w : World} {b off c n : Nat} {xs : List Nat} (h : VAt w b off c n xs) : Reads w (.slice (some ⟨b, off, none⟩) xs.length c) (ints xs) :=
  ⟨_, c, by rw [ints_len], by rw [ints_len]; have := h.ok.l1; omega, fun _ => ⟨b, off, rfl, h.lt, h.at'.ints⟩⟩
end
end Go.Proofs.Ytdmgffoikebgkaa
namespace Go.Proofs.Ytdmgffoikebgkaa
section
open Go.RowKit

theorem firstE_one (d : Dsg) : firstE [d] = d.e := by
  simp only [firstE]; split
  · omega
  · rfl
/-- check of one design that lies in a new block -/
theorem check_one (d : Dsg) (W : World) (hr : Reads W d.v d.xs) :
    Calls Try.prog 137 #[.slice (some ⟨W.heap.size, 0, none⟩) 1 1] (W.alloc (.cells #[.int .i64 d.hooks, .slice d.p d.xs.length d.cap] 37)) fun e w' => e = .returned (.int .i64 d.e) ∧ Below W.heap.size W w' := by
  refine (check_any W.heap.size 1 [d] _ (by simp) (DsAt_one W d hr)).mono ?_
  rintro e w' ⟨rfl, hb⟩
  exact ⟨by rw [firstE_one], ((Below.refl _ _).alloc (Nat.le_refl _) _).trans (hb.mono (by simp))⟩
def d1 (h : Int) (p : Option Addr) (c : Nat) (xs : List Int) : Dsg := ⟨h, p, c, xs⟩
end
end Go.Proofs.Ytdmgffoikebgkaa
/- paint: a design out of a condition. · the walk of paint. -/
namespace Go.Proofs.Ytdmgffoikebgkaa
section
open Go.RowKit Go.Shelf

theorem Try.info3 : (Try.prog.info? 3).map (fun i => (i.zero, i.size, i.bytes)) = some (some (.int .i64 0), 1, 8) := by kernel_rfl
def natV (n : Nat) : Value := .int .i64 (n : Int)
/-- a block of its own that holds a row of numbers -/
def NatBlk (W : World) (R : Nat) (ys : List Nat) : Prop := W.heap[R]? = some (.cells (ys.map natV).toArray 3 (0, 0))
theorem NatBlk.lt {W : World} {R : Nat} {ys : List Nat} (h : NatBlk W R ys) : R < W.heap.size := (Array.getElem?_eq_some_iff.1 h).1
theorem NatBlk.cell {W : World} {R : Nat} {ys : List Nat} (h : NatBlk W R ys) {i : Nat} (hi : i < ys.length) : W.cell? ⟨R, i, none⟩ = some (.int .i64 (nthN ys i : Int)) := by
  simp [World.cell?, show W.heap[R]? = _ from h, nthN_get ys i hi, hi, natV]
theorem NatBlk.frozen {W : World} {R : Nat} {ys : List Nat} (h : NatBlk W R ys) (i : Nat) : W.frozen? ⟨R, i, none⟩ = false := by
  simp [World.frozen?, show W.heap[R]? = _ from h]
theorem NatBlk.nats {W : World} {R : Nat} {ys : List Nat} (h : NatBlk W R ys) : NatsAt W R 0 ys := fun i hi => by rw [Nat.zero_add]; exact h.cell hi
theorem NatBlk.below {W W' : World} {B R : Nat} {ys : List Nat} (h : NatBlk W R ys) (hb : Below B W W') (hR : R < B) : NatBlk W' R ys := (hb.block R hR).trans h
theorem NatBlk.set {W : World} {R : Nat} {ys : List Nat} (h : NatBlk W R ys) (i v : Nat) (_hi : i < ys.length) : NatBlk (W.setCell ⟨R, i, none⟩ (.int .i64 (v : Int))) R (ys.set i v) := by
  have e : (W.setCell ⟨R, i, none⟩ (.int .i64 (v : Int))).heap[R]? = some (.cells ((ys.map natV).toArray.setIfInBounds i (natV v)) 3 (0, 0)) := by
    have hl := h.lt
    unfold NatBlk at h
    simp [World.setCell, Array.getElem?_modify, h, natV]
  unfold NatBlk
  rw [e]
  simp [List.map_set, List.setIfInBounds_toArray]
theorem NatBlk.made (W : World) (n : Nat) : NatBlk (W.alloc (.cells (madeCells #[.int .i64 0] n) 3)) W.heap.size (List.replicate n 0) := by
  unfold NatBlk
  rw [World.alloc_heap_new]
  congr 2
  simp only [madeCells]
  apply Array.ext'
  simp [natV, List.map_replicate]
  apply List.ext_getElem
  · simp
  · intro i h1 h2
    simp [Nat.mod_one]
/-- a row out of its points -/
def rowTo (f : Nat → Bool) : Nat → Nat
  | 0 => 0
  | j + 1 => rowTo f j ||| (if f j then 2 ^ j else 0)
theorem rowTo_lt (f : Nat → Bool) : ∀ k, rowTo f k < 2 ^ k
  | 0 => by simp [rowTo]
  | k + 1 => by
    have := rowTo_lt f k
    refine Nat.or_lt_two_pow ?_ ?_
    · rw [Nat.pow_succ]; omega
    · rw [Nat.pow_succ]
      have := Nat.pow_pos (n := k) (show 0 < 2 by decide)
      split <;> omega
theorem rowTo_bit (f : Nat → Bool) : ∀ k j, (rowTo f k).testBit j = (decide (j < k) && f j)
  | 0, j => by simp [rowTo]
  | k + 1, j => by
    simp only [rowTo, Nat.testBit_or, rowTo_bit f k j]
    by_cases hj : j = k
    · subst hj
      cases f j <;> simp
    · have e : (if f k then 2 ^ k else 0).testBit j = false := by
        split
        · rw [Nat.testBit_two_pow]; simp; omega
        · simp
      rw [e, Bool.or_false]
      congr 1
      simp; omega
/-- the rows of paint, row i painted up to the hook j -/
def paintAt (g : Nat → Nat → Bool) (np nh i j : Nat) : List Nat := (List.range np).map fun r => if r < i then rowTo (g r) nh else if r = i then rowTo (g r) j else 0
def painted (g : Nat → Nat → Bool) (np nh : Nat) : List Nat := (List.range np).map fun r => rowTo (g r) nh
theorem paintAt_len (g : Nat → Nat → Bool) (np nh i j : Nat) : (paintAt g np nh i j).length = np := by simp [paintAt]
theorem painted_len (g : Nat → Nat → Bool) (np nh : Nat) : (painted g np nh).length = np := by simp [painted]
theorem paintAt_nth (g : Nat → Nat → Bool) (np nh i j : Nat) (h : i < np) : nthN (paintAt g np nh i j) i = rowTo (g i) j := by
  rw [nthN_get _ _ (by rw [paintAt_len]; exact h)]
  simp [paintAt]
theorem paintAt_zero (g : Nat → Nat → Bool) (np nh : Nat) : paintAt g np nh 0 0 = List.replicate np 0 := by
  apply List.ext_getElem
  · simp [paintAt]
  · intro i h1 h2
    simp [paintAt]
    intro h; subst h; rfl
theorem paintAt_end (g : Nat → Nat → Bool) (np nh : Nat) : paintAt g np nh np 0 = painted g np nh := by
  apply List.ext_getElem
  · simp [paintAt, painted]
  · intro i h1 h2
    have : i < np := by simpa [paintAt] using h1
    simp [paintAt, painted, this]
theorem paintAt_next (g : Nat → Nat → Bool) (np nh i : Nat) : paintAt g np nh (i + 1) 0 = paintAt g np nh i nh := by
  apply List.ext_getElem
  · simp [paintAt]
  · intro r h1 h2
    simp only [paintAt, List.getElem_map, List.getElem_range]
    by_cases h : r < i
    · rw [if_pos (by omega), if_pos h]
    · rw [if_neg h]
      by_cases h' : r = i
      · rw [if_pos (by omega), if_pos h']
      · rw [if_neg (by omega), if_neg h']
        split <;> simp [rowTo]
theorem paintAt_skip (g : Nat → Nat → Bool) (np nh i j : Nat) (h : g i j = false) : paintAt g np nh i (j + 1) = paintAt g np nh i j := by
  apply List.ext_getElem
  · simp [paintAt]
  · intro r h1 h2
    simp only [paintAt, List.getElem_map, List.getElem_range]
    by_cases hr : r = i
    · subst hr; simp [rowTo, h]
    · simp [hr]
theorem paintAt_set (g : Nat → Nat → Bool) (np nh i j : Nat) (h : g i j = true) : (paintAt g np nh i j).set i (rowTo (g i) j ||| 2 ^ j) = paintAt g np nh i (j + 1) := by
  apply List.ext_getElem
  · simp [paintAt]
  · intro r h1 h2
    rw [List.getElem_set]
    simp only [paintAt, List.getElem_map, List.getElem_range]
    by_cases hr : i = r
    · subst hr; simp [rowTo, h]
    · rw [if_neg hr]
      have : ¬ r = i := fun e => hr e.symm
      simp [this]
end
end Go.Proofs.Ytdmgffoikebgkaa
namespace Go.Proofs.Ytdmgffoikebgkaa
section
open Go.RowKit Go.Shelf

/-- what a condition on points owes -/
def Cond (f : FuncId) (lb : Array Value) (np nh : Nat) (g : Nat → Nat → Bool) (w : World) : Prop :=
  ∀ (W : World) (i j : Nat), Below w.heap.size w W → i < np → j < nh →
    Calls Try.prog f (#[.int .i64 (i : Int), .int .i64 (j : Int)] ++ lb) W fun e W' => e = .returned (.bool (g i j)) ∧ Below W.heap.size W W'
/-- an unwritten result of a design -/
def ResBox (W : World) (B : Nat) : Prop := W.heap[B]? = some (.cells #[.int .i64 0, .slice none 0 0] 37 (0, 0))
theorem ResBox.lt {W : World} {B : Nat} (h : ResBox W B) : B < W.heap.size := (Array.getElem?_eq_some_iff.1 h).1
theorem ResBox.c0 {W : World} {B : Nat} (h : ResBox W B) : W.cell? ⟨B, 0, none⟩ = some (.int .i64 0) := by simp [World.cell?, show W.heap[B]? = _ from h]
theorem ResBox.c1 {W : World} {B : Nat} (h : ResBox W B) : W.cell? ⟨B, 1, none⟩ = some (.slice none 0 0) := by simp [World.cell?, show W.heap[B]? = _ from h]
theorem ResBox.f {W : World} {B : Nat} (h : ResBox W B) (j : Nat) : W.frozen? ⟨B, j, none⟩ = false := by simp [World.frozen?, show W.heap[B]? = _ from h]
theorem ResBox.new (W : World) : ResBox (W.alloc (.cells #[.int .i64 0, .slice none 0 0] 37)) W.heap.size := World.alloc_heap_new W _
theorem ResBox.below {W W' : World} {B n : Nat} (h : ResBox W B) (hb : Below n W W') (hn : B < n) : ResBox W' B := (hb.block B hn).trans h
theorem ResBox.set {W : World} {B : Nat} (h : ResBox W B) (a : Addr) (v : Value) (ha : B ≠ a.block) : ResBox (W.setCell a v) B := (Below.heap_setCell W a v B ha).trans h
theorem or_step (x j : Nat) (hx : x < 16777216) (hj : j < 24) : bits .or .i64 (x : Int) (2 ^ j) = ((x ||| 2 ^ j : Nat) : Int) := by
  have h2 : (2 : Nat) ^ j ≤ 16777216 := Nat.le_trans (Nat.pow_le_pow_right (by decide) (show j ≤ 24 by omega)) (by decide)
  rw [← i64_or_nat x (2 ^ j) (by omega) (by omega), Int.natCast_pow]
  rfl

set_option maxRecDepth 100000 in
set_option maxHeartbeats 2000000 in
theorem paint_any (f : FuncId) (lb : Array Value) (eg : Enters Try.prog f) (np nh : Nat) (g : Nat → Nat → Bool) (w : World) (hp : np ≤ 60) (hn : nh ≤ 24) (hg : Cond f lb np nh g w) :
    Calls Try.prog 146 #[.int .i64 (np : Int), .int .i64 (nh : Int), .func (.func f) #[] lb] w
      fun e w' => ∃ R, e = .returned (.agg #[.int .i64 (nh : Int), .slice (some ⟨R, 0, none⟩) np np]) ∧ w.heap.size ≤ R ∧ NatBlk w' R (painted g np nh) ∧ Below w.heap.size w w' := by
  have hmk := run_make_row' (P := Try.prog) 24 3 (.int .i64 0) 8 Try.underlying24 Try.info3 rfl .i64 .i64 np (by omega) (by omega)
  have Hg := Lib.hid hg
  clear hg
  unfold Enters at eg
  go_enter Try.func146, Try.ntmps146
  go_wp2
  go_loopw [13] (fun i wr => ∃ k : Nat, k ≤ np ∧ i = .int .i64 k ∧ ResBox wr w.heap.size ∧ NatBlk wr (w.heap.size + 1) (paintAt g np nh k 0) ∧ Below w.heap.size w wr) (fun i _ => np - (intOf i).toNat)
  case atStart =>
    refine ⟨0, Nat.zero_le _, rfl, (ResBox.new w).below ((Below.refl (w.heap.size + 1) _).alloc (by simp) _) (by omega), ?_, ((Below.refl _ _).alloc (Nat.le_refl _) _).alloc (by simp) _⟩
    rw [paintAt_zero]
    have := NatBlk.made (w.alloc (.cells #[.int .i64 0, .slice none 0 0] 37)) np
    rwa [World.size_alloc] at this
  case round =>
    obtain ⟨k, hk, rfl, hQ, hR, hB⟩ := hrel
    by_cases hlt : k < np
    · obtain ⟨wo, rfl⟩ : ∃ wo : World, wo = wr := ⟨_, rfl⟩
      have HQ := Lib.hid hQ
      have HR := Lib.hid hR
      have HB := Lib.hid hB
      clear hQ hR hB
      go_wp2
      go_loopw [17] (fun j wr => ∃ l : Nat, l ≤ nh ∧ j = .int .i64 l ∧ ResBox wr w.heap.size ∧ NatBlk wr (w.heap.size + 1) (paintAt g np nh k l) ∧ Below w.heap.size w wr) (fun j _ => nh - (intOf j).toNat)
      case atStart => exact ⟨0, Nat.zero_le _, rfl, HQ.out, HR.out, HB.out⟩
      case round =>
        obtain ⟨l, hl, rfl, hQ, hR, hB⟩ := hrel
        have HQ2 := Lib.hid hQ
        have HR2 := Lib.hid hR
        have HB2 := Lib.hid hB
        clear hQ hR hB
        by_cases hlt2 : l < nh
        · have hgc := Hg.out wr k l HB2.out hlt hlt2
          cases hgv : g k l with
          | false =>
            rw [hgv] at hgc
            have Hst := Lib.hid (paintAt_skip g np nh k l hgv)
            have Hgc := Lib.hid hgc
            clear hgc hgv
            go_wp2_with fail
            refine Hgc.out.mono ?_
            rintro e w3 ⟨rfl, hb3⟩
            go_wp2
            go_roundw
            case rel => exact ⟨l + 1, by omega, by go_num, HQ2.out.below hb3 HQ2.out.lt, by rw [Hst.out]; exact HR2.out.below hb3 HR2.out.lt, HB2.out.trans (hb3.mono HB2.out.size)⟩
            case measure => simp [intOf]; omega
          | true =>
            rw [hgv] at hgc
            have Hst := Lib.hid (paintAt_set g np nh k l hgv)
            have Hgc := Lib.hid hgc
            have hlo := rowTo_lt (g k) l
            have hlo2 : rowTo (g k) l < 16777216 := Nat.lt_of_lt_of_le hlo (Nat.le_trans (Nat.pow_le_pow_right (by decide) (show l ≤ 24 by omega)) (by decide))
            have Hor := Lib.hid (or_step (rowTo (g k) l) l hlo2 (by omega))
            have hnt := paintAt_nth g np nh k l hlt
            clear hgc hgv hlo
            go_wp2_with fail
            refine Hgc.out.mono ?_
            rintro e w3 ⟨rfl, hb3⟩
            have HR3 := Lib.hid (HR2.out.below hb3 HR2.out.lt)
            have HQ3 := Lib.hid (HQ2.out.below hb3 HQ2.out.lt)
            have hc3 := HR3.out.cell (i := k) (by rw [paintAt_len]; exact hlt)
            have hf3 := HR3.out.frozen k
            rw [hnt] at hc3
            clear hnt
            have hk0 : (0 : Int) ≤ (k : Int) := by omega
            have hk1 : (k : Int) < (np : Int) := by omega
            obtain ⟨hp1, hp2⟩ := pow_bds l (by omega)
            have hw : IntKind.i64.wrap (2 ^ l) = 2 ^ l := IntWalk.i64_in _ (by omega)
            go_wp2
            go_region
            go_wp2
            go_roundw
            case rel =>
              refine ⟨l + 1, by omega, by go_num, ?_, ?_, ?_⟩
              · exact HQ3.out.set _ _ (by simp)
              · rw [Hor.out, ← Hst.out]
                exact HR3.out.set k _ (by rw [paintAt_len]; exact hlt)
              · exact ((HB2.out.trans (hb3.mono HB2.out.size)).setCell (by simp) _).drew
            case measure => simp [intOf]; omega
        · obtain rfl : l = nh := by omega
          go_wp2
          go_roundw
          case rel => exact ⟨k + 1, by omega, by go_num, HQ2.out, by rw [paintAt_next]; exact HR2.out, HB2.out⟩
          case measure => simp [intOf]; omega
    · obtain rfl : k = np := by omega
      have h0 := hQ.c0
      have h1 := hQ.c1
      have h2 := hQ.f 0
      have h3 := hQ.f 1
      have HQ := Lib.hid hQ
      have HR := Lib.hid hR
      have HB := Lib.hid hB
      clear hQ hR hB
      go_wp2
      refine bodyPost_ret (v := .agg #[.int .i64 (nh : Int), .slice (some ⟨w.heap.size + 1, 0, none⟩) k k]) ?_ rfl ⟨_, rfl, by omega, ?_, ?_⟩
      · simp [results, Try.results146, go_sem, h0, h1]
      · rw [← paintAt_end]
        exact (Below.heap_setCell _ _ _ _ (by simp)).trans ((Below.heap_setCell _ _ _ _ (by simp)).trans HR.out)
      · exact (HB.out.setCell (by simp) _).setCell (by simp) _
end
end Go.Proofs.Ytdmgffoikebgkaa
