/- TopFewHooks: for every loom a cloth that was woven is woven again from a new chain with the fewest hooks: as many as there are different warps, and no more than the old design has; the examples hold. No condition. -/
import Derived.Test.YtdmgffoikebgkaaSeq
import Derived.Test.YtdmgffoikebgkaaKB
import Derived.Test.YtdmgffoikebgkaaTA
import Derived.Test.YtdmgffoikebgkaaTH
import Derived.Lib.Builder
import Derived.Lib.UnsafeStr
import Derived.Laws.Externs
import Derived.Maps.StringElems
import Derived.StringKeys
import Derived.Deep.DeepCutAuto
import Derived.Test.YtdmgffoikebgkaaTM
import Derived.DeepKeys4
import Derived.Deep.QuietTactic
import Derived.BigQuiet
import Derived.Test.YtdmgffoikebgkaaPT
import Derived.Test.YtdmgffoikebgkaaQA
import Derived.Test.YtdmgffoikebgkaaQB
import Derived.Test.YtdmgffoikebgkaaQC
namespace Go.Proofs.Ytdmgffoikebgkaa
open Go.RowKit Go.Shelf
attribute [local go_sem] Oper.semAt_some

/-- what an iterator that is a closure owes to a caller; M: what it reads between two rounds -/
def IterC {α : Type} (P : Program) (n m : Nat) (gf : Nat) (lb : Array Value) (encs : α → Array Value) (xs : List α) (size : Nat) (M : World → Prop) : Prop :=
  ∀ (l : Nat) (J : List α → World → Prop) (W : World), W.heap.size = size →
    (∀ s A A', J s A → Below A.heap.size A A' → J s A') → (∀ s A, J s A → M A) →
    (∀ pre x W1, J pre W1 → (pre ++ [x]) <+: xs → YieldAt Fence.wide m P l (encs x) W1 fun e W' => e = .returned (.bool true) ∧ J (pre ++ [x]) W') →
    J [] W →
    CallsIn Fence.wide n P gf (#[.func (.yield l) #[] #[]] ++ lb) W fun e W' => (∃ v, e = .returned v) ∧ J xs W'
/-- how a round's body is left -/
def ownPostC {α : Type} (n : Nat) (I : List α → World → Prop) (xs : List α) (W : World) : Exit → Act → World → Prop
  | .normal, _, W' => KeepsFrom n W W' ∧ I xs W'
  | _, _, _ => False
theorem rangeC {P : Program} {α : Type} {g : Operand} {ps : Array Tmp} {assign body : Code} {Q : Exit → Act → World → Prop} {a : Act} {w : World} {n gf : Nat} {lb : Array Value} {M : World → Prop}
    (hg : a.eval g = .func (.func gf) #[] lb) (eg : Enters P gf) {encs : α → Array Value} {xs : List α} {B : Nat} (hB : B ≤ w.heap.size) (hps : ∀ x, (encs x).size = ps.size)
    (hseq : IterC P (n - 1) (n - 1 - 1) gf lb encs xs (w.heap.size + 2) M)
    (I : List α → World → Prop) (hI : ∀ s A A', I s A → Calm B A A' → I s A') (hM : ∀ s A, I s A → M A) (h0 : I [] w) (Ax : α → Act → World → Prop) (hAx : ∀ x a1 A A', Ax x a1 A → Calm B A A' → Ax x a1 A')
    (hassign : ∀ (l : Nat) (x : α) (W : World) (K : Act → World → Prop), (∀ a1 W1, Below W.heap.size W W1 → Ax x a1 W1 → K a1 W1) →
      assign.wpIn (Fence.wide.inRound l) (n - 1 - 1) P (Exit.then K (fun _ _ _ => False)) { tmps := (ps.zip (encs x)).foldl (fun t (p, v) => t.setIfInBounds p v) a.tmps, defers := [] } W)
    (hbody : ∀ (l : Nat) (pre : List α) (x : α) (a1 : Act) (W : World), I pre W → Ax x a1 W → (pre ++ [x]) <+: xs → w.heap.size + 2 ≤ W.heap.size → body.wpIn (Fence.wide.inRound l) (n - 1 - 1) P (ownPostC w.heap.size I (pre ++ [x]) W) a1 W)
    (hdone : ∀ (W : World), w.heap.size < W.heap.size → I xs W → W.heap[w.heap.size]? = some (.deferred (some [])) → Q .normal { a with defers := { target := .collected w.heap.size, args := #[] } :: a.defers } W) :
    (Code.rangeFunc g ps assign body).wpIn Fence.wide n P Q a w := by
  refine wpIn_rangeFunc fun fn hfn => ?_
  obtain ⟨rec, hrec⟩ : ∃ rec : LoopState → Loop, rec = fun st => { state := st, pending := none, fn, tmps := a.tmps, params := ps, assign, body, defers := w.heap.size } := ⟨_, rfl⟩
  obtain ⟨D, hD⟩ : ∃ D, D = w.heap.size := ⟨_, rfl⟩
  obtain ⟨W1, hW1⟩ : ∃ W1, (w.alloc (.deferred (some []))).alloc (.loop (rec .ready)) = W1 := ⟨_, rfl⟩
  have hs1 : W1.heap.size = D + 2 := by rw [← hW1, hD]; simp
  have hL1 : W1.heap[D + 1]? = some (.loop (rec .ready)) := by
    rw [← hW1, hD]; have := World.alloc_heap_new (w.alloc (.deferred (some []))) (.loop (rec .ready)); rwa [World.size_alloc] at this
  have hK1 : W1.heap[D]? = some (.deferred (some [])) := by
    rw [← hW1, hD]; exact (Below.heap_alloc _ _ _ (by simp)).trans (World.alloc_heap_new w _)
  have hb1 : Below w.heap.size w W1 := by rw [← hW1]; exact ((Below.refl _ w).alloc (Nat.le_refl _) _).alloc (by simp) _
  have hI1 : I [] W1 := hI _ _ _ h0 (Calm.of_below hb1)
  rw [← hD] at hseq hbody hdone hB
  refine ⟨D + 1, [{ target := .collected D, args := #[] }], W1, { target := .fn (.func gf) lb, args := #[.func (.yield (D + 1)) #[] #[]] }, W1, gf,
    #[.func (.yield (D + 1)) #[] #[]] ++ lb, W1, ?_, ?_, ?_, ?_, fun h => by simp [Fence.wide] at h, ?_⟩
  · rw [← hW1, hrec, hD]; exact run_enterLoop_outer _ _ _ _ _
  · simp only [resolve, hg]
    simp [go_sem]
  · intro f' _; trivial
  · simp [invoke, go_sem, eg _ _]
  · refine (hseq (D + 1) (fun pre W => I pre W ∧ D + 2 ≤ W.heap.size ∧ W.heap[D + 1]? = some (.loop (rec .ready)) ∧ W.heap[D]? = some (.deferred (some []))) W1 hs1 ?_ (fun s A h => hM s A h.1) ?_ ⟨hI1, by omega, hL1, hK1⟩).mono ?_
    · rintro s A A' ⟨hi, hz, hl, hk⟩ hb
      exact ⟨hI _ _ _ hi (Calm.of_below hb), Nat.le_trans hz hb.size, (hb.block _ (by omega)).trans hl, (hb.block _ (by omega)).trans hk⟩
    · rintro pre x W0 ⟨hi0, hz0, hl0, hk0⟩ hpre
      have hy := run_yield (P := P) (args := encs x) hl0 (by rw [hrec]; exact hps x)
      rw [hrec] at hy
      refine ⟨fn, _, assign, body, hy, roundIn_of_wpIn hfn (hassign _ x W0 _ fun a1 W hbA hax => ?_)⟩
      have hl : W.heap[D + 1]? = some (.loop (rec .ready)) := (hbA.block _ (by omega)).trans hl0
      have hk : W.heap[D]? = some (.deferred (some [])) := (hbA.block _ (by omega)).trans hk0
      have hi : I pre W := hI _ _ _ hi0 (Calm.of_below hbA)
      have hz : D + 2 ≤ W.heap.size := Nat.le_trans hz0 hbA.size
      refine ⟨_, run_beginRound hl (by rw [hrec]), ?_⟩
      have hbusy : (W.putObj (D + 1) (.loop { rec .ready with state := .busy })).heap[D + 1]? = some (.loop { rec .ready with state := .busy }) := World.putObj_heap_same (Array.getElem?_eq_some_iff.1 hl).1
      have hc2 : Calm B W (W.putObj (D + 1) (.loop { rec .ready with state := .busy })) := Calm.putObj _ hl rfl (by omega)
      refine wpIn_mono (hbody _ pre x a1 _ (hI _ _ _ hi hc2) (hAx _ _ _ _ hax hc2) hpre (by simpa using hz)) ?_
      rintro e a3 W3 hp
      cases e with
      | normal =>
        obtain ⟨hk3, hi3⟩ := hp
        have hl3 := hk3.same _ _ (Nat.le_succ _) hbusy rfl
        have hd3 := hk3.same _ _ (Nat.le_refl _) ((World.putObj_heap_other (by omega)).trans hk) rfl
        have hz3 : D + 2 ≤ W3.heap.size := Nat.le_trans (by simpa using hz) hk3.size
        have hr := run_endRound (P := P) none hl3
        rw [hrec] at hr hl3
        refine ⟨_, _, hr, rfl, ⟨hI _ _ _ hi3 (Calm.putObj _ hl3 rfl (by omega)), by simp; omega, ?_, (World.putObj_heap_other (by omega)).trans hd3⟩⟩
        · rw [hrec]; exact World.putObj_heap_same (by omega)
      | _ => exact hp.elim
    · rintro e W2 ⟨⟨v, rfl⟩, hi, hz, hl, hk⟩
      have hr := run_endLoop (P := P) hl (by rw [hrec]; simp)
      rw [hrec] at hr hl
      refine ⟨none, _, hr, ?_⟩
      have := hdone _ (by simp; omega) (hI _ _ _ hi (Calm.putObj (.loop { rec .ready with state := .exhausted }) hl rfl (by omega))) ((World.putObj_heap_other (by omega)).trans hk)
      rw [hrec] at this
      rw [← hD] at *
      exact this

/-- the places of a row, from the last one on -/
def backL (n k : Nat) : List Nat := (List.range k).map fun i => n - 1 - i
theorem backL_succ (n k : Nat) : backL n (k + 1) = backL n k ++ [n - 1 - k] := by simp [backL, List.range_succ]
theorem backL_len (n k : Nat) : (backL n k).length = k := by simp [backL]
theorem backL_pre (n : Nat) {k m : Nat} (hk : k ≤ m) : backL n k <+: backL n m := by
  induction hk with
  | refl => exact List.prefix_refl _
  | step _ ih => rw [backL_succ]; exact ih.trans (List.prefix_append _ _)
theorem backL_at {n m : Nat} {pre : List Nat} {x : Nat} (h : (pre ++ [x]) <+: backL n m) : pre = backL n pre.length ∧ x = n - 1 - pre.length ∧ pre.length < m := by
  obtain ⟨t, ht⟩ := h
  have hl : pre.length + 1 + t.length = m := by
    have := congrArg List.length ht
    rw [List.length_append, List.length_append, backL_len] at this
    simpa using this
  have h1 := backL_pre n (show pre.length + 1 ≤ m by omega)
  obtain ⟨t2, ht2⟩ := h1
  have h3 : pre ++ [x] = backL n (pre.length + 1) := by
    have : (pre ++ [x]) ++ t = backL n (pre.length + 1) ++ t2 := by rw [ht, ht2]
    exact (List.append_inj this (by simp [backL_len])).1
  rw [backL_succ] at h3
  have h4 := List.append_inj h3 (by simp [backL_len])
  exact ⟨h4.1, by simpa using h4.2, by omega⟩
def BackM (S b off c : Nat) (hs : List Nat) (W : World) : Prop := W.cell? ⟨S, 0, none⟩ = some (.slice (some ⟨b, off, none⟩) hs.length c) ∧ NatsAt W b off hs
set_option maxRecDepth 100000 in
set_option maxHeartbeats 1000000 in
theorem back_iter (S b off c : Nat) (hs : List Nat) (n size : Nat) (hl : hs.length ≤ 1000) :
    IterC Try.prog n (n - 1) 211 #[.pointer (some ⟨S, 0, none⟩)] (fun i : Nat => #[.int .i64 (i : Int), .int .i64 (nthN hs i : Int)]) (backL hs.length hs.length) size (BackM S b off c hs) := by
  intro L J W _ _ hM hY h0
  refine callsIn_of_wp Try.func211 rfl trivial ?_ rfl
  simp only [Try.ntmps211, List.size_toArray, List.length_cons, List.length_nil, Nat.reduceAdd, Nat.reduceSub, Array.replicate_succ, Array.replicate_zero, List.push_toArray, List.append_toArray, List.nil_append, List.cons_append]
  have h1 := (hM _ _ h0).1
  gi_wp2_with fail
  gi_loopw [3] (fun i wr => ∃ k : Nat, k ≤ hs.length ∧ i = .int .i64 ((hs.length : Int) - 1 - (k : Int)) ∧ J (backL hs.length k) wr) (fun i _ => (intOf i + 1).toNat)
  case atStart => exact ⟨0, Nat.zero_le _, by simp, h0⟩
  case round =>
    obtain ⟨k, hk, rfl, hJ⟩ := hrel
    obtain ⟨g1, g2⟩ := hM _ _ hJ
    clear h1 h0
    by_cases hlt : k < hs.length
    · obtain ⟨q, hq⟩ : ∃ q : Nat, (hs.length : Int) - 1 - (k : Int) = (q : Int) := ⟨hs.length - 1 - k, by omega⟩
      have hql : q < hs.length := by omega
      have hq2 : hs.length - 1 - k = q := by omega
      have hpre := backL_pre hs.length (show k + 1 ≤ hs.length by omega)
      rw [backL_succ, hq2] at hpre
      obtain ⟨fn, tmps, assign, body, hy, hR⟩ := hY _ q wr hJ hpre
      have hc := g2 q hql
      have d1 : decide ((0 : Int) ≤ (q : Int)) = true := by simp
      rw [hq]
      gi_wp2_with fail
      refine ⟨fun h => by simp [Fence.wide] at h, hR.mono ?_⟩
      rintro e W3 ⟨rfl, hJ3⟩
      gi_wp2_with fail
      go_roundw
      case rel => exact ⟨k + 1, by omega, by go_num, by rw [backL_succ, hq2]; exact hJ3⟩
      case measure => simp only [intOf]; omega
    · obtain rfl : k = hs.length := by omega
      have e1 : (hs.length : Int) - 1 - (hs.length : Int) = -1 := by omega
      rw [e1]
      gi_wp2_with fail
      go_end0
      exact ⟨⟨_, rfl⟩, hJ⟩
end Go.Proofs.Ytdmgffoikebgkaa
/- Harness ties: the first warps of hooks. -/
namespace Go.Proofs.Ytdmgffoikebgkaa
open Go.RowKit Go.Shelf
attribute [local go_sem] Oper.semAt_some

/-- the first place from one on that holds a number: what is known behind m rounds from the last place on -/
def firstG (hs : List Nat) (m : Nat) (z : Int) : Option Nat := ((List.range hs.length).drop (hs.length - m)).find? fun i => decide ((nthN hs i : Int) = z)
theorem firstG_zero (hs : List Nat) : firstG hs 0 = fun _ => none := by
  funext z; unfold firstG; rw [Nat.sub_zero, List.drop_eq_nil_of_le (by simp)]; rfl
theorem firstG_succ (hs : List Nat) (m : Nat) (h : m < hs.length) : firstG hs (m + 1) = setG (firstG hs m) (nthN hs (hs.length - 1 - m) : Int) (hs.length - 1 - m) := by
  funext z
  unfold firstG setG
  have h1 : hs.length - (m + 1) < (List.range hs.length).length := by simp; omega
  rw [List.drop_eq_getElem_cons h1, List.find?_cons]
  have e1 : hs.length - (m + 1) = hs.length - 1 - m := by omega
  have e2 : hs.length - (m + 1) + 1 = hs.length - m := by omega
  rw [e2]
  simp only [List.getElem_range, e1]
  by_cases hz : z = (nthN hs (hs.length - 1 - m) : Int)
  · rw [if_pos hz, decide_eq_true hz.symm]
  · rw [if_neg hz, decide_eq_false (fun e => hz e.symm)]
/-- the first warp of a hook -/
def firstH (hs : List Nat) (h : Nat) : Option Nat := (List.range hs.length).find? fun i => decide (nthN hs i = h)
theorem firstG_all (hs : List Nat) (h : Nat) : firstG hs hs.length (h : Int) = firstH hs h := by
  unfold firstG firstH
  rw [Nat.sub_self, List.drop_zero]
  congr 1
  funext i
  exact decide_eq_decide.2 (by omega)
theorem firstH_some {hs : List Nat} {k : Nat} (hk : k < hs.length) : ∃ o, firstH hs (nthN hs k) = some o ∧ o ≤ k ∧ nthN hs o = nthN hs k ∧ ∀ j, j < o → nthN hs j ≠ nthN hs k := by
  have h : (firstH hs (nthN hs k)).isSome := by
    unfold firstH
    rw [List.find?_isSome]
    exact ⟨k, by simpa using hk, by simp⟩
  obtain ⟨o, ho⟩ := Option.isSome_iff_exists.1 h
  have h2 := ho
  unfold firstH at h2
  rw [List.find?_range_eq_some] at h2
  obtain ⟨h3, h4, h5⟩ := h2
  refine ⟨o, ho, ?_, by simpa using h3, fun j hj => by simpa using h5 j hj⟩
  rcases Nat.lt_or_ge k o with h6 | h6
  · have := h5 k h6; simp at this
  · exact h6
theorem IMap.calm {W W' : World} {mb k s n : Nat} {g : Int → Option Nat} (h : IMap W mb k s g) (hc : Calm n W W') (hn : mb < n) : IMap W' mb k s g := by
  obtain ⟨D, ⟨es, clock, hb, h1⟩, h2⟩ := h
  exact ⟨D, ⟨es, clock, hc.same _ _ hb (.inr hn), h1⟩, h2⟩
theorem IMap.upd {w : World} {mb k s : Nat} {g : Int → Option Nat} (h : IMap w mb k s g) {X : Int} {Y : Nat} (hX : -1000000 ≤ X ∧ X ≤ 1000000) (hY : Y ≤ 100000) (hk : k ≤ 100000) :
    ∃ w', (Instr.mapUpdate 178 (.map (some mb)) (.int .i64 X) (.int .i64 (Y : Int))).run Try.prog w = .ok () w' ∧ IMap w' mb (k + 1) (if (g X).isSome then s else s + 1) (setG g X Y) ∧ w.grownBy w' (some mb) := by
  obtain ⟨D, h1, h2, h3⟩ := h
  have hkey : keyOf Try.prog 3 (.int .i64 X) = some (.int .i64 X) := Maps.keyOf_int_mk Try.underlying3 (wf_near hX)
  obtain ⟨w', hrun, hown, hgrow⟩ := h1.update Try.intKeyed Try.underlying178 (by unfold maxLen; omega) hkey (plainElem_int Try.underlying3 (wf_near (x := (Y : Int)) (by omega)))
  refine ⟨w', hrun, ⟨_, hown, ?_, fun y hy => ?_⟩, hgrow⟩
  · rw [Maps.size_put (h1.tidy Try.intKeyed), (h3 X hX).1, h2]
  · by_cases e : y = X
    · subst e
      refine ⟨?_, ?_⟩
      · rw [Maps.has_put_same h1.isMap (Try.intKeyed.key hkey)]; simp [setG]
      · rw [Maps.atKey_put_same h1.isMap (Try.intKeyed.key hkey)]; simp [setG]
    · refine ⟨?_, ?_⟩
      · rw [Maps.has_put_other (key_ne e), (h3 y hy).1]; simp [setG, e]
      · rw [Maps.atKey_put_other (key_ne e), (h3 y hy).2]; simp [setG, e]
theorem back_any (b off c : Nat) (hs : List Nat) (w : World) :
    Calls Try.prog 186 #[.slice (some ⟨b, off, none⟩) hs.length c] w fun e w' => e = .returned (.func (.func 211) #[] #[.pointer (some ⟨w.heap.size, 0, none⟩)]) ∧ w' = w.alloc (.cells #[.slice (some ⟨b, off, none⟩) hs.length c] 24) := by
  go_enter Try.func186, Try.ntmps186
  go_wp2
  go_ret
  exact ⟨rfl, rfl⟩
/-- what a round of firsts finds -/
structure FiAt (w0 : World) (mb S b off c : Nat) (hs : List Nat) (pre : List Nat) (W : World) : Prop where
  map : ∃ k s, IMap W mb k s (firstG hs pre.length) ∧ k ≤ pre.length
  box : BoxAt W (w0.heap.size + 2) #[.map (some mb)] 178
  bm : BackM S b off c hs W
  b : Below w0.heap.size w0 W
theorem FiAt.calm {w0 W W' : World} {mb S b off c n : Nat} {hs pre : List Nat} (h : FiAt w0 mb S b off c hs pre W) (hc : Calm n W W') (hn : w0.heap.size ≤ n) (hm : mb < n) : FiAt w0 mb S b off c hs pre W' := by
  obtain ⟨k, s, h1, h2⟩ := h.map
  exact ⟨⟨k, s, h1.calm hc hm, h2⟩, hc.same _ _ h.box (.inl rfl), ⟨hc.cell h.bm.1, fun i hi => hc.cell (h.bm.2 i hi)⟩, by
    refine Below.trans h.b ⟨hc.os, hc.tape, hc.output, hc.size, fun i hi => ?_⟩
    have hlt : i < W.heap.size := Nat.lt_of_lt_of_le hi h.b.size
    rw [Array.getElem?_eq_getElem hlt]
    exact hc.same _ _ (Array.getElem?_eq_getElem hlt) (.inr (by omega))⟩
set_option maxRecDepth 100000 in
set_option maxHeartbeats 2000000 in
theorem firsts_any (n b off c : Nat) (hs : List Nat) (w : World) (hv : TAt w b off n hs) :
    Calls Try.prog 132 #[.agg #[.int .i64 (n : Int), .slice (some ⟨b, off, none⟩) hs.length c]] w fun e w' =>
      ∃ mb k s, e = .returned (.map (some mb)) ∧ IMap w' mb k s (firstG hs hs.length) ∧ w.heap.size ≤ mb ∧ Below w.heap.size w w' := by
  have l1 := hv.l1
  have n1 := hv.n1
  have hb0 := hv.lt
  have hbk := hv.hk
  have HV := Lib.hid hv
  have hmm := @run_makeMap Try.prog
  clear hv
  obtain ⟨nf, _⟩ : ∃ nf : Nat, nf = nf := ⟨3, rfl⟩
  refine (callsIn_wide (n := nf)).1 ?_
  refine callsIn_of_wp_marks Try.func132 rfl trivial ?_ rfl
  simp only [Try.ntmps132, List.size_toArray, List.length_cons, List.length_nil, Nat.reduceAdd, Nat.reduceSub, Array.replicate_succ, Array.replicate_zero, List.push_toArray, List.append_toArray, List.nil_append, List.cons_append]
  gi_wp2_with fail
  refine wideCall (back_any b off c hs _) ?_
  rintro e w1 ⟨rfl, rfl⟩
  gi_wp2_with fail
  have hI0 := (IMap.made (w.alloc (.cells #[.int .i64 (n : Int), .slice (some ⟨b, off, none⟩) hs.length c] 159))).next (((Below.refl _ _).alloc (Nat.le_refl _) (.cells #[.map (some (w.heap.size + 1))] 178)).alloc (by simp) (.cells #[.slice (some ⟨b, off, none⟩) hs.length c] 24))
  have hX0 := (BoxAt.new ((w.alloc (.cells #[.int .i64 (n : Int), .slice (some ⟨b, off, none⟩) hs.length c] 159)).alloc (.map #[] 0)) #[.map (some (w.heap.size + 1))] 178).next ((Below.refl _ _).alloc (Nat.le_refl _) (.cells #[.slice (some ⟨b, off, none⟩) hs.length c] 24))
  have hS0 := (BoxAt.new (((w.alloc (.cells #[.int .i64 (n : Int), .slice (some ⟨b, off, none⟩) hs.length c] 159)).alloc (.map #[] 0)).alloc (.cells #[.map (some (w.heap.size + 1))] 178)) #[.slice (some ⟨b, off, none⟩) hs.length c] 24).cell' 0 rfl
  have hB0 : Below w.heap.size w ((((w.alloc (.cells #[.int .i64 (n : Int), .slice (some ⟨b, off, none⟩) hs.length c] 159)).alloc (.map #[] 0)).alloc (.cells #[.map (some (w.heap.size + 1))] 178)).alloc (.cells #[.slice (some ⟨b, off, none⟩) hs.length c] 24)) :=
    ((((Below.refl w.heap.size w).alloc (Nat.le_refl _) _).alloc (by simp) _).alloc (by simp; omega) _).alloc (by simp; omega) _
  obtain ⟨W1, hW1⟩ : ∃ W1, (((w.alloc (.cells #[.int .i64 (n : Int), .slice (some ⟨b, off, none⟩) hs.length c] 159)).alloc (.map #[] 0)).alloc (.cells #[.map (some (w.heap.size + 1))] 178)).alloc (.cells #[.slice (some ⟨b, off, none⟩) hs.length c] 24) = W1 := ⟨_, rfl⟩
  have hz1 : W1.heap.size = w.heap.size + 4 := by rw [← hW1]; simp
  rw [hW1] at hI0 hX0 hS0 hB0
  simp only [World.size_alloc] at hI0 hX0 hS0
  have hF0 : FiAt w (w.heap.size + 1) (w.heap.size + 3) b off c hs [] W1 :=
    ⟨⟨0, 0, by rw [List.length_nil, firstG_zero]; exact hI0, Nat.le_refl _⟩, hX0, ⟨hS0, (HV.out.next hB0).at'⟩, hB0⟩
  have HF0 := Lib.hid hF0
  rw [hW1]
  clear hI0 hX0 hS0 hB0 hW1 hF0
  refine rangeC (gf := 211) (lb := #[.pointer (some ⟨w.heap.size + 1 + 1 + 1, 0, none⟩)]) rfl (enters_of Try.func211 (by kernel_rfl) rfl) (encs := fun i : Nat => #[.int .i64 (i : Int), .int .i64 (nthN hs i : Int)]) (xs := backL hs.length hs.length) (B := W1.heap.size) (Nat.le_refl _) (fun _ => rfl)
    (back_iter (w.heap.size + 3) b off c hs _ _ (by omega))
    (fun pre W' => FiAt w (w.heap.size + 1) (w.heap.size + 3) b off c hs pre W')
    ?stable ?hM HF0.out
    (fun x a1 _ => a1 = { tmps := #[.agg #[.int .i64 (n : Int), .slice (some ⟨b, off, none⟩) hs.length c], .pointer (some ⟨w.heap.size, 0, none⟩), .map none, .pointer (some ⟨w.heap.size + 1 + 1, 0, none⟩), .int .i64 (x : Int), .int .i64 (nthN hs x : Int), .map (some (w.heap.size + 1)), .pointer (some ⟨w.heap.size, 0, none⟩), .pointer (some ⟨w.heap.size, 1, none⟩), .slice (some ⟨b, off, none⟩) hs.length c, .func (.func 211) #[] #[.pointer (some ⟨w.heap.size + 1 + 1 + 1, 0, none⟩)], .int .i64 (x : Int), .int .i64 (nthN hs x : Int), undef, undef, undef, undef], defers := [] })
    ?stableA ?assign ?body ?done
  case stable => exact fun s A A' h hc => h.calm hc (by omega) (by omega)
  case hM => exact fun s A h => h.bm
  case stableA => exact fun _ _ _ _ h _ => h
  case assign =>
    intro l x W' K hK
    gi_wp2
    exact hK _ _ (Below.refl _ _) rfl
  case body =>
    rintro l pre x _ W' hf rfl hpre hsz
    obtain ⟨_, hx, hlt⟩ := backL_at hpre
    obtain ⟨k, s, hm, hk⟩ := hf.map
    have hx2 : x < hs.length := by omega
    have hh := hbk x hx2
    have hxc := hf.box.cell' (v := .map (some (w.heap.size + 1))) 0 rfl
    obtain ⟨W2, hrun, hm2, hg⟩ := hm.upd (X := (nthN hs x : Int)) (Y := x) (by omega) (by omega) (by omega)
    have hend : FiAt w (w.heap.size + 1) (w.heap.size + 3) b off c hs (pre ++ [x]) W2 := by
      have hcell : ∀ p v, W'.cell? p = some v → p.block ≠ w.heap.size + 1 → W2.cell? p = some v := fun p v h1 h2 =>
        (World.cell?_of_block (w := W') (hg.block _ (World.block_lt_of_cell? W' p h1) (by simpa using h2))).trans h1
      refine ⟨⟨k + 1, if ((firstG hs pre.length) (nthN hs x : Int)).isSome then s else s + 1, ?_, ?_⟩, hf.box.kept hg (by simp), ⟨hcell _ _ hf.bm.1 (by simp), fun i hi => hcell _ _ (hf.bm.2 i hi) (by simp; omega)⟩, hf.b.grown hg hf.b.size (fun j e => by cases e; omega)⟩
      · have e1 : (pre ++ [x]).length = pre.length + 1 := by simp
        rw [e1, firstG_succ hs pre.length hlt, ← hx]
        exact hm2
      · simp; omega
    have HE := Lib.hid hend
    have HK := Lib.hid (show KeepsFrom W1.heap.size W' W2 from KeepsFrom.of_grownBy hg (fun j e => by cases e; omega))
    clear hf hm hm2 hg hend HF0 hmm hx hlt hpre hh hsz hx2 hk hbk l1 n1 hb0
    gi_wp2_with fail
    exact ⟨HK.out, HE.out⟩
  case done =>
    rintro W' hlt' hf hD
    have hxc := hf.box.cell' (v := .map (some (w.heap.size + 1))) 0 rfl
    have HF := Lib.hid hf
    clear hf HF0 hmm
    gi_wp2
    refine leaves_marks (B := W1.heap.size) (v := .map (some (w.heap.size + 1))) [W1.heap.size] _ (fun D hD' => ?_) (by simp) fun w' hc => ⟨?_, ?_⟩
    · obtain rfl : D = W1.heap.size := by simpa using hD'
      exact ⟨Nat.le_refl _, hD⟩
    · simp [results, Try.f132, go_sem]
    · obtain ⟨k, s, h1, h2⟩ := (HF.out.calm hc (by omega) (by omega)).map
      rw [backL_len] at h1
      exact ⟨w.heap.size + 1, k, s, rfl, h1, by omega, (HF.out.calm hc (by omega) (by omega)).b⟩
end Go.Proofs.Ytdmgffoikebgkaa
/- strings.Builder; a warp from pick to pick. -/
namespace Go.Proofs.Ytdmgffoikebgkaa
open Go.RowKit Go.Shelf
attribute [local go_sem] Oper.semAt_some

theorem Try.size262 : (Try.prog.info? 262).map (·.size) = some 2 := by kernel_rfl
theorem Try.lies262 : liesAt Try.prog Try.prog.depth 262 (2 / Try.prog.cellsOf 262) 0 262 1 = true := by kernel_rfl
theorem Try.cells5 : Try.prog.cellsOf 5 = 1 := by kernel_rfl
set_option maxHeartbeats 1000000 in
set_option maxRecDepth 100000 in
theorem bldCheck_used (b : Nat) (w : World) (h0 : w.cell? ⟨b, 0, none⟩ = some (.pointer (some ⟨b, 0, none⟩))) :
    Calls Try.prog 229 #[.pointer (some ⟨b, 0, none⟩)] w fun e w' => e = .returned (.tuple #[]) ∧ w' = w := by
  obtain ⟨j, hj, _⟩ := Option.map_eq_some_iff.1 Try.size262
  go_enter Try.func229, Try.ntmps229
  go_wp2
  rw [Lib.run_neq_ptr_same w _ Try.underlying260 hj]
  go_wp2
  go_end0
  exact ⟨rfl, rfl⟩
set_option maxHeartbeats 1000000 in
set_option maxRecDepth 100000 in
theorem bldCheck_fresh (b : Nat) (w : World) (h0 : w.cell? ⟨b, 0, none⟩ = some (.pointer none)) (hsh : w.shape? b = some (262, 2)) (hfz : w.frozen? ⟨b, 0, none⟩ = false) :
    Calls Try.prog 229 #[.pointer (some ⟨b, 0, none⟩)] w fun e w' => e = .returned (.tuple #[]) ∧ w' = w.setCell ⟨b, 0, none⟩ (.pointer (some ⟨b, 0, none⟩)) := by
  obtain ⟨j, hj, hjs⟩ := Option.map_eq_some_iff.1 Try.size262
  go_enter Try.func229, Try.ntmps229
  go_wp2
  rw [Lib.run_to_unsafe w ⟨b, 0, none⟩ Try.underlying260 Try.underlying286 hj (by rw [hjs]; decide) hsh (Nat.zero_lt_succ 1)]
  simp only [Result.andThen]
  rw [Oper.upon_value]
  go_wp2
  rw [run_callFunc_extern Try.func233 (by kernel_rfl) (by kernel_rfl) (by kernel_rfl) (e := Extern.AbiNoEscape.same) (by kernel_rfl)]
  rw [Lib.run_noEscape]
  simp only [Result.andThen]
  rw [Oper.upon_value]
  go_wp2
  rw [Lib.run_from_unsafe w ⟨b, 0, none⟩ Try.underlying286 Try.underlying260 hj hsh Try.lies262]
  simp only [Result.andThen]
  rw [Oper.upon_value]
  go_wp2
  go_end0
  exact ⟨rfl, rfl⟩
theorem bldCheck (B b : Nat) (bs : List Value) (w : World) (h : Lib.IsBuilder 262 5 B b bs w) :
    Calls Try.prog 229 #[.pointer (some ⟨b, 0, none⟩)] w fun e w' => e = .returned (.tuple #[]) ∧ (Lib.BuilderAt 262 5 B b (.pointer (some ⟨b, 0, none⟩)) bs w' ∧ Below B w w') := by
  rcases h with h | h
  · refine (bldCheck_fresh b w h.cell0 h.shape h.frozen0).mono ?_
    rintro e w' ⟨rfl, rfl⟩
    exact ⟨rfl, h.used _, (Below.refl B w).setCell (p := ⟨b, 0, none⟩) h.1 _⟩
  · refine (bldCheck_used b w h.cell0).mono ?_
    rintro e w' ⟨rfl, rfl⟩
    exact ⟨rfl, h, Below.refl B _⟩
set_option maxHeartbeats 2000000 in
set_option maxRecDepth 100000 in
theorem bldByte (B b : Nat) (bs : List Value) (c : Int) (w : World) (h : Lib.IsBuilder 262 5 B b bs w) (hlen : bs.length ≤ 1000) (hBw : B ≤ w.heap.size) :
    Calls Try.prog 209 #[.pointer (some ⟨b, 0, none⟩), .int .u8 c] w fun e w' => e = .returned .nilIface ∧ (Lib.BuilderAt 262 5 B b (.pointer (some ⟨b, 0, none⟩)) (bs ++ [.int .u8 c]) w' ∧ Below B w w') := by
  obtain ⟨i0, hi, hz0, hz1, hz2⟩ := info_parts Try.info5'
  go_enter Try.func209, Try.ntmps209
  go_wp2_with fail
  refine (bldCheck B b bs _ h).mono ?_
  rintro e w1 ⟨rfl, h1, hb1⟩
  obtain ⟨hB, v, hbk, hown, hne⟩ := h1
  have c0 : w1.cell? ⟨b, 0, none⟩ = some (.pointer (some ⟨b, 0, none⟩)) := by rw [Lib.cell_of_heap hbk]; rfl
  have c1 : w1.cell? ⟨b, 1, none⟩ = some v := by rw [Lib.cell_of_heap hbk]; rfl
  go_wp2_with (at_builtin; refine wpList_append_own _ rfl _ _ 89 rfl B 5 i0 (.int .u8 0) 1 1 Try.underlying89 hi hz0 hz1 hz2 rfl (by decide) _ _ _ rfl (hown.alloc _) ⟨w1.heap.size, 0, none⟩ 1 1 [.int .u8 c] rfl rfl ?c1 ?c2 ?c3 ?c4 ?c5 ?_)
  case c1 =>
    intro j u hj
    match j, hj with
    | 0, hj => simp at hj; subst hj; simp [Addr.add]
  case c2 => intro u hu; simp at hu; subst hu; rfl
  case c3 => unfold maxLen; omega
  case c4 => omega
  case c5 => have := hb1.size; simp; omega
  intro v' w2 hown' hgrow _
  have hlt : b < w1.heap.size := by
    rcases Nat.lt_or_ge b w1.heap.size with h' | h'
    · exact h'
    · simp [Array.getElem?_eq_none h'] at hbk
  have hb2 : w2.heap[b]? = some (.cells #[.pointer (some ⟨b, 0, none⟩), v] 262 (0, 0)) := by
    rw [hgrow.block b (by simp; omega) (fun e => hne e.symm), Lib.alloc_old w1 _ b hlt]
    exact hbk
  have d0 : w2.cell? ⟨b, 0, none⟩ = some (.pointer (some ⟨b, 0, none⟩)) := by rw [Lib.cell_of_heap hb2]; rfl
  have d1 : w2.cell? ⟨b, 1, none⟩ = some v := by rw [Lib.cell_of_heap hb2]; rfl
  have f1 : w2.frozen? ⟨b, 1, none⟩ = false := Lib.frozen_of_heap hb2 1
  obtain ⟨g, cap, rfl⟩ : ∃ g cap, v' = .slice (some ⟨g, 0, none⟩) (bs.length + 1) cap := by
    rcases hown'.2 with ⟨_, h0⟩ | ⟨g, cap, cur, hv, _⟩
    · omega
    · exact ⟨g, cap, hv⟩
  have HP := Lib.hid (Lib.BuilderAt.put (T := 262) (e := 5) hB hb2 (bs' := bs ++ [.int .u8 c]) (by simpa using hown') (by decide))
  have HB := Lib.hid (((hb1.alloc (by have := hb1.size; omega) (.cells #[.int .u8 c] 5)).grown hgrow (by have := hb1.size; simp; omega) (fun k hk => (hown.lt k hk).1)).setCell (p := ⟨b, 1, none⟩) hB (.slice (some ⟨g, 0, none⟩) (bs.length + 1) cap))
  clear hown hown' hgrow hb1 hbk hb2 h hne
  go_wp2_with fail
  go_ret
  exact ⟨rfl, HP.out, HB.out⟩
set_option maxHeartbeats 2000000 in
set_option maxRecDepth 100000 in
theorem bldString (B b : Nat) (l : List UInt8) (w : World) (h : Lib.IsBuilder 262 5 B b (Lib.byteCells l) w) (h0 : l ≠ []) :
    Calls Try.prog 210 #[.pointer (some ⟨b, 0, none⟩)] w fun e w' => e = .returned (.string ⟨l.toArray⟩) ∧ Below B w w' := by
  obtain ⟨p, hB, v, hbk, hown, hne⟩ : ∃ p, Lib.BuilderAt 262 5 B b p (Lib.byteCells l) w := by
    rcases h with h | h
    · exact ⟨_, h⟩
    · exact ⟨_, h⟩
  have hl0 : l.length ≠ 0 := by simpa using h0
  rw [Lib.byteCells_length] at hown
  obtain ⟨g, cap, cur, rfl, hbg, hg, hnc, hcm, hcs, htake⟩ : ∃ g cap cur, v = .slice (some ⟨g, 0, none⟩) l.length cap ∧ B ≤ g ∧ w.heap[g]? = some (.cells cur 5 (0, 0)) ∧ l.length ≤ cap ∧ cap ≤ maxLen ∧ cur.size = cap * 1 ∧ cur.toList.take (l.length * 1) = Lib.byteCells l := by
    rcases hown.2 with ⟨_, hz⟩ | ⟨g, cap, cur, hv, r⟩
    · exact absurd hz hl0
    · exact ⟨g, cap, cur, hv, r⟩
  have c1 : w.drew.cell? ⟨b, 1, none⟩ = some (.slice (some ⟨g, 0, none⟩) l.length cap) := by
    have : w.drew.heap[b]? = some (.cells #[p, .slice (some ⟨g, 0, none⟩) l.length cap] 262 (0, 0)) := hbk
    rw [Lib.cell_of_heap this]; rfl
  have hSD : (Builtin.unsafeSliceData_ #[89] 284 #[.slice (some ⟨g, 0, none⟩) l.length cap]).run Try.prog w.drew = .ok (.pointer (some ⟨g, 0, none⟩)) w.drew :=
    Lib.run_unsafeSliceData_row _ _ _ _ _ _ (by omega)
  have hUS : (Builtin.unsafeString_ #[284, 3] 9 #[.pointer (some ⟨g, 0, none⟩), .int .i64 l.length]).run Try.prog w.drew = .ok (.string ⟨l.toArray⟩) (w.drew.freeze ⟨g, 0, none⟩ l.length) := by
    refine Lib.run_unsafeString_row w.drew 284 3 9 5 Try.underlying284 Try.cells5 g cur.size (by have hg' : w.drew.heap[g]? = some (.cells cur 5 (0, 0)) := hg; simp [World.shape?, hg']) l h0 (by omega) (by unfold maxLen at hcm; omega) ?_
    intro j x hx
    have := hown.cells (g := g) rfl j (.int .u8 x.toNat) (by simp [Lib.byteCells, hx])
    exact this
  have HB := Lib.hid (Lib.below_freeze (Below.drew (Below.refl B w)) (p := ⟨g, 0, none⟩) hbg l.length)
  clear hown hbk hg htake hcs hne h h0
  go_enter Try.func210, Try.ntmps210
  go_wp2
  go_region
  all_goals (go_wp2; go_ret; exact ⟨rfl, HB.out⟩)
/-- a cloth in memory: picks of so many warps -/
structure ClAt (w : World) (b off n : Nat) (ps : List Nat) : Prop where
  cell : ∀ i, i < ps.length → ∃ s, StrB s n (nthN ps i) ∧ w.cell? ⟨b, off + i, none⟩ = some (.string s)
  lt : b < w.heap.size
theorem ClAt.next {w w' : World} {b off n : Nat} {ps : List Nat} (h : ClAt w b off n ps) (hb : Below w.heap.size w w') : ClAt w' b off n ps :=
  ⟨fun i hi => by obtain ⟨s, h1, h2⟩ := h.cell i hi; exact ⟨s, h1, cell_next hb h2⟩, Nat.lt_of_lt_of_le h.lt hb.size⟩
def colL (ps : List Nat) (warp : Nat) : List UInt8 := ps.map fun p => UInt8.ofNat (byteP p warp).toNat
def colS (ps : List Nat) (warp : Nat) : ByteArray := ⟨(colL ps warp).toArray⟩
theorem colL_take (ps : List Nat) (warp k : Nat) (h : k < ps.length) : (colL ps warp).take (k + 1) = (colL ps warp).take k ++ [UInt8.ofNat (byteP (nthN ps k) warp).toNat] := by
  rw [List.take_add_one]
  congr 1
  simp [colL, nthN, h]
theorem colL_cells (ps : List Nat) (warp k : Nat) (h : k < ps.length) : Lib.byteCells ((colL ps warp).take (k + 1)) = Lib.byteCells ((colL ps warp).take k) ++ [.int .u8 (byteP (nthN ps k) warp)] := by
  rw [colL_take _ _ _ h, Lib.byteCells_append]
  congr 1
  simp only [Lib.byteCells, List.map_cons, List.map_nil, byteP_u8]
set_option maxHeartbeats 2000000 in
set_option maxRecDepth 100000 in
theorem column_any (b off c n warp : Nat) (ps : List Nat) (w : World) (hc : ClAt w b off n ps) (hl : ps.length ≤ 60) (hl0 : 1 ≤ ps.length) (hw : warp < n) :
    Calls Try.prog 185 #[.slice (some ⟨b, off, none⟩) ps.length c, .int .i64 (warp : Int)] w fun e w' => e = .returned (.string (colS ps warp)) ∧ Below w.heap.size w w' := by
  have HC := Lib.hid hc
  have hbl := hc.lt
  have HI0 := Lib.hid (Lib.fresh_isBuilder 262 5 w)
  have HB0 := Lib.hid ((Below.refl w.heap.size w).alloc (Nat.le_refl _) (.cells #[.pointer none, .slice none 0 0] 262))
  clear hc
  go_enter Try.func185, Try.ntmps185
  go_wp2_with fail
  go_loopw [10] (fun i wr => ∃ k : Nat, k ≤ ps.length ∧ i = .int .i64 (k : Int) ∧ Lib.IsBuilder 262 5 w.heap.size w.heap.size (Lib.byteCells ((colL ps warp).take k)) wr ∧ Below w.heap.size w wr) (fun i _ => ps.length - (intOf i).toNat)
  case atStart => exact ⟨0, Nat.zero_le _, rfl, HI0.out, HB0.out⟩
  case round =>
    obtain ⟨k, hk, rfl, hI, hb⟩ := hrel
    clear HI0 HB0
    by_cases hlt : k < ps.length
    · obtain ⟨s, hs, hcell⟩ := (HC.out.cell k hlt)
      have hc2 := (hb.cell (p := ⟨b, off + k, none⟩) hbl).trans hcell
      have hidx := fun W => hs.idx hw W
      have hcc := colL_cells ps warp k hlt
      have hlen : (Lib.byteCells ((colL ps warp).take k)).length ≤ 1000 := by
        rw [Lib.byteCells_length, List.length_take]; omega
      have HW := Lib.hid (bldByte w.heap.size w.heap.size _ (byteP (nthN ps k) warp) wr hI hlen hb.size)
      have Hcc := Lib.hid hcc
      have Hb := Lib.hid hb
      clear hs hcell hcc hlen hI hb
      go_wp2_with fail
      refine HW.out.mono ?_
      rintro e w1 ⟨rfl, h1, h2⟩
      have H1 := Lib.hid h1
      have H2 := Lib.hid h2
      clear h1 h2 hidx hc2
      go_wp2_with fail
      go_roundw
      case rel => exact ⟨k + 1, by omega, by go_num, by rw [Hcc.out]; exact .inr H1.out, Hb.out.trans H2.out⟩
      case measure => simp [intOf]; omega
    · obtain rfl : k = ps.length := by omega
      have hne : (colL ps warp).take ps.length ≠ [] := by
        intro e
        have := congrArg List.length e
        simp [colL] at this
        rw [this] at hl0
        simp at hl0
      have HW := Lib.hid (bldString w.heap.size w.heap.size _ wr hI hne)
      have he : (colL ps warp).take ps.length = colL ps warp := by rw [List.take_of_length_le]; simp [colL]
      rw [he] at HW
      have Hb := Lib.hid hb
      clear hI hb hne he
      go_wp2_with fail
      refine HW.out.mono ?_
      rintro e w1 ⟨rfl, h2⟩
      have H2 := Lib.hid h2
      clear h2
      go_wp2_with fail
      go_ret
      exact ⟨rfl, Hb.out.trans H2.out⟩
end Go.Proofs.Ytdmgffoikebgkaa
/- Classes by a key, numbered as they come; a map from texts to numbers that a call makes. -/
namespace Go.Proofs.Ytdmgffoikebgkaa
open Go.RowKit Go.Shelf
open Go.Maps (Keyed IsMap)

section
variable {κ : Type} [DecidableEq κ]
/-- the first one with the same key -/
def fstI (key : Nat → κ) (k : Nat) : Nat := ((List.range k).find? fun j => decide (key j = key k)).getD k
/-- how many keys the first ones have -/
def cntF (key : Nat → κ) : Nat → Nat
  | 0 => 0
  | k + 1 => cntF key k + if fstI key k = k then 1 else 0
/-- the number of a key -/
def fewH (key : Nat → κ) (k : Nat) : Nat := cntF key (fstI key k)
variable {key : Nat → κ}
theorem fstI_key (k : Nat) : key (fstI key k) = key k := by
  unfold fstI
  cases h : (List.range k).find? fun j => decide (key j = key k) with
  | none => rfl
  | some o =>
    have := List.find?_some h
    simpa using this
theorem fstI_le (k : Nat) : fstI key k ≤ k := by
  unfold fstI
  cases h : (List.range k).find? fun j => decide (key j = key k) with
  | none => exact Nat.le_refl _
  | some o =>
    have := List.mem_of_find?_eq_some h
    simp at this
    simpa using Nat.le_of_lt this
theorem fstI_least {k j : Nat} (h : j < fstI key k) : key j ≠ key k := by
  unfold fstI at h
  cases ho : (List.range k).find? fun j => decide (key j = key k) with
  | none =>
    rw [ho] at h
    rw [List.find?_eq_none] at ho
    have := ho j (by simpa using h)
    simpa using this
  | some o =>
    rw [ho] at h
    rw [List.find?_range_eq_some] at ho
    have := ho.2.2 j (by simpa using h)
    simpa using this
theorem fstI_eq {a b : Nat} (h : key a = key b) : fstI key a = fstI key b := by
  rcases Nat.lt_trichotomy (fstI key a) (fstI key b) with h1 | h1 | h1
  · exact absurd ((fstI_key a).trans h) (fstI_least h1)
  · exact h1
  · exact absurd ((fstI_key b).trans h.symm) (fstI_least h1)
theorem fstI_self (k : Nat) : fstI key (fstI key k) = fstI key k := fstI_eq (fstI_key k)
theorem fstI_of_none {k : Nat} (h : ∀ j, j < k → key j ≠ key k) : fstI key k = k := by
  rcases Nat.lt_or_ge (fstI key k) k with h1 | h1
  · exact absurd (fstI_key k) (h _ h1)
  · exact Nat.le_antisymm (fstI_le k) h1
theorem cntF_mono {a b : Nat} (h : a ≤ b) : cntF key a ≤ cntF key b := by
  induction h with
  | refl => exact Nat.le_refl _
  | step _ ih => exact Nat.le_trans ih (by rw [cntF]; omega)
theorem cntF_lt {o k : Nat} (ho : fstI key o = o) (h : o < k) : cntF key o < cntF key k := by
  have h1 : cntF key (o + 1) = cntF key o + 1 := by rw [cntF, if_pos ho]
  have h2 := cntF_mono (key := key) (show o + 1 ≤ k from h)
  omega
theorem cntF_le_self (k : Nat) : cntF key k ≤ k := by
  induction k with
  | zero => exact Nat.le_refl _
  | succ k ih => rw [cntF]; split <;> omega
theorem fewH_lt {k n : Nat} (h : k < n) : fewH key k < cntF key n := cntF_lt (fstI_self k) (Nat.lt_of_le_of_lt (fstI_le k) h)
theorem fewH_eq {a b : Nat} (h : key a = key b) : fewH key a = fewH key b := by unfold fewH; rw [fstI_eq h]
theorem fewH_inj {a b : Nat} (h : fewH key a = fewH key b) : key a = key b := by
  unfold fewH at h
  have e : fstI key a = fstI key b := by
    rcases Nat.lt_trichotomy (fstI key a) (fstI key b) with h1 | h1 | h1
    · have := cntF_lt (fstI_self (key := key) a) h1; omega
    · exact h1
    · have := cntF_lt (fstI_self (key := key) b) h1; omega
  rw [← fstI_key (key := key) a, e]
  exact fstI_key b
theorem cntF_pos {n : Nat} (h : 1 ≤ n) : 1 ≤ cntF key n := by
  have := fewH_lt (key := key) (show 0 < n from h); omega
theorem fstI_congr {κ2 : Type} [DecidableEq κ2] {key2 : Nat → κ2} {n : Nat} (h : ∀ i j, i < n → j < n → (key i = key j ↔ key2 i = key2 j)) {k : Nat} (hk : k < n) : fstI key k = fstI key2 k := by
  have h1 := fstI_le (key := key) k
  have h2 := fstI_le (key := key2) k
  rcases Nat.lt_trichotomy (fstI key k) (fstI key2 k) with h3 | h3 | h3
  · exact absurd ((h _ _ (by omega) hk).1 (fstI_key k)) (fstI_least h3)
  · exact h3
  · exact absurd ((h _ _ (by omega) hk).2 (fstI_key k)) (fstI_least h3)
theorem cntF_congr {κ2 : Type} [DecidableEq κ2] {key2 : Nat → κ2} {n : Nat} (h : ∀ i j, i < n → j < n → (key i = key j ↔ key2 i = key2 j)) : ∀ k, k ≤ n → cntF key k = cntF key2 k
  | 0, _ => rfl
  | k + 1, hk => by rw [cntF, cntF, cntF_congr h k (by omega), fstI_congr h (show k < n by omega)]
theorem nodup_lt : ∀ (N : Nat) (l : List Nat), l.Nodup → (∀ x ∈ l, x < N) → l.length ≤ N
  | 0, l, _, h => by
    cases l with
    | nil => simp
    | cons a l => exact absurd (h a (by simp)) (by omega)
  | N + 1, l, hd, h => by
    have h1 := nodup_lt N (l.erase N) (hd.erase N) (fun x hx => by
      have h2 := (List.Nodup.mem_erase_iff hd).1 hx
      have h3 := h x h2.2
      have h4 := h2.1
      omega)
    by_cases hm : N ∈ l
    · rw [List.length_erase_of_mem hm] at h1; omega
    · rw [List.erase_of_not_mem hm] at h1; omega
/-- the places of the first ones -/
def fstL (key : Nat → κ) (k : Nat) : List Nat := (List.range k).filter fun i => decide (fstI key i = i)
theorem fstL_len : ∀ k, (fstL key k).length = cntF key k
  | 0 => rfl
  | k + 1 => by
    have h := fstL_len k
    unfold fstL at h ⊢
    rw [List.range_succ, List.filter_append, List.length_append, h, cntF]
    by_cases e : fstI key k = k
    · simp [e]
    · simp [e]
/-- no more keys than numbers that settle them -/
theorem cntF_le {n N : Nat} (f : Nat → Nat) (hf : ∀ i j, i < n → j < n → f i = f j → key i = key j) (hN : ∀ i, i < n → f i < N) : cntF key n ≤ N := by
  rw [← fstL_len]
  have hm : ∀ i, i ∈ fstL key n → i < n ∧ fstI key i = i := fun i hi => by
    unfold fstL at hi; simpa using hi
  have hd : (fstL key n).Nodup := List.Pairwise.filter _ List.nodup_range
  have hd2 : ((fstL key n).map f).Nodup := by
    unfold List.Nodup
    rw [List.pairwise_map]
    refine List.Pairwise.imp_of_mem ?_ hd
    intro a b ha hb hne e
    have h1 := hm a ha
    have h2 := hm b hb
    have h3 := fstI_eq (hf a b h1.1 h2.1 e)
    rw [h1.2, h2.2] at h3
    exact hne h3
  have := nodup_lt N _ hd2 (fun x hx => by
    obtain ⟨i, hi, rfl⟩ := List.mem_map.1 hx
    exact hN i (hm i hi).1)
  simpa using this
/-- what a map of numbers knows behind k of them -/
def ClG (key : Nat → κ) (k : Nat) (g : κ → Option Nat) : Prop := (∀ x, (∀ j, j < k → key j ≠ x) → g x = none) ∧ ∀ j, j < k → g (key j) = some (fewH key j)
theorem ClG.start : ClG key 0 fun _ => none := ⟨fun _ _ => rfl, fun j h => by omega⟩
theorem ClG.none {k : Nat} {g : κ → Option Nat} (h : ClG key k g) (hg : g (key k) = none) : fstI key k = k ∧ cntF key (k + 1) = cntF key k + 1 ∧ fewH key k = cntF key k ∧ ClG key (k + 1) (fun x => if x = key k then some (cntF key k) else g x) := by
  have h1 : fstI key k = k := fstI_of_none fun j hj e => by
    have := h.2 j hj
    rw [e, hg] at this
    cases this
  have h2 : fewH key k = cntF key k := by unfold fewH; rw [h1]
  refine ⟨h1, by rw [cntF, if_pos h1], h2, fun x hx => ?_, fun j hj => ?_⟩
  · have h3 := hx k (by omega)
    simp only []
    rw [if_neg (fun e => h3 e.symm)]
    exact h.1 x fun j hj => hx j (by omega)
  · simp only []
    by_cases e : key j = key k
    · rw [if_pos e, fewH_eq e, h2]
    · rw [if_neg e]
      have : j ≠ k := fun e2 => e (by rw [e2])
      exact h.2 j (by omega)
theorem ClG.some {k x : Nat} {g : κ → Option Nat} (h : ClG key k g) (hg : g (key k) = some x) : x = fewH key k ∧ cntF key (k + 1) = cntF key k ∧ ClG key (k + 1) g := by
  have h0 : ∃ j, j < k ∧ key j = key k := by
    rcases Classical.em (∃ j, j < k ∧ key j = key k) with h1 | h1
    · exact h1
    · have := h.1 (key k) fun j hj e => h1 ⟨j, hj, e⟩
      rw [hg] at this; cases this
  obtain ⟨j, hj, e⟩ := h0
  have h2 := h.2 j hj
  rw [e, hg] at h2
  have h3 : fstI key k ≠ k := fun e3 => by
    have := fstI_least (key := key) (k := k) (j := j) (by omega)
    exact this e
  refine ⟨by rw [← fewH_eq e]; exact Option.some.inj h2, by rw [cntF, if_neg h3]; rfl, fun y hy => h.1 y fun i hi => hy i (by omega), fun i hi => ?_⟩
  by_cases e4 : i = k
  · rw [e4, hg, ← fewH_eq e]; exact h2
  · exact h.2 i (by omega)
end
theorem Try.strKeyed : Keyed Try.prog 9 := Maps.string_keyed Try.underlying9
/-- block mb is a map with s entries that reads as g at short texts -/
def SMap (w : World) (mb k s : Nat) (g : List UInt8 → Option Nat) : Prop :=
  ∃ D : DataW Nat, w.ownsMap Try.prog 9 (plainElem Try.prog 3) mb k D ∧ Maps.size D = s ∧
    ∀ x : List UInt8, x.length ≤ 1000 → Maps.has D (.string x) = (g x).isSome ∧ D.atKey (.string x) (.lit (.int .i64 0)) = .lit (.int .i64 (((g x).getD 0 : Nat) : Int))
theorem SMap.made (w : World) : SMap (w.alloc (.map #[] 0)) w.heap.size 0 0 (fun _ => none) :=
  ⟨.map [], World.ownsMap_made w _ _ _, rfl, fun x _ => ⟨rfl, by rw [Maps.atKey_of_not_has]; rfl; rfl⟩⟩
theorem SMap.grown {w w' : World} {mb k s : Nat} {g : List UInt8 → Option Nat} {row : Option Nat} (h : SMap w mb k s g) (hg : w.grownBy w' row) (hne : some mb ≠ row) : SMap w' mb k s g := by
  obtain ⟨D, h1, h2⟩ := h
  exact ⟨D, h1.kept hg hne, h2⟩
theorem SMap.next {w w' : World} {mb k s : Nat} {g : List UInt8 → Option Nat} (h : SMap w mb k s g) (hb : Below w.heap.size w w') : SMap w' mb k s g := h.grown (below_grown hb none) (by simp)
theorem SMap.lt {w : World} {mb k s : Nat} {g : List UInt8 → Option Nat} (h : SMap w mb k s g) : mb < w.heap.size := by
  obtain ⟨D, h1, _⟩ := h; exact h1.lt
theorem str_key {s : ByteArray} (hs : s.size ≤ 1000) : keyOf Try.prog 9 (.string s) = some (.string s.data.toList) := WideMaps.keyOf_string_mk Try.underlying9 (by unfold maxLen; omega)
theorem skey_ne {x y : List UInt8} (h : x ≠ y) : (Lit.string x) ≠ (Lit.string y) := by simpa using h
theorem SMap.upd {w : World} {mb k s : Nat} {g : List UInt8 → Option Nat} (h : SMap w mb k s g) {X : ByteArray} {Y : Nat} (hX : X.size ≤ 1000) (hY : Y ≤ 100000) (hk : k ≤ 100000) :
    ∃ w', (Instr.mapUpdate 233 (.map (some mb)) (.string X) (.int .i64 (Y : Int))).run Try.prog w = .ok () w' ∧ SMap w' mb (k + 1) (if (g X.data.toList).isSome then s else s + 1) (fun x => if x = X.data.toList then some Y else g x) ∧ w.grownBy w' (some mb) := by
  obtain ⟨D, h1, h2, h3⟩ := h
  have hkey := str_key hX
  have hXl : X.data.toList.length ≤ 1000 := hX
  obtain ⟨w', hrun, hown, hgrow⟩ := h1.update Try.strKeyed Try.underlying233 (by unfold maxLen; omega) hkey (plainElem_int Try.underlying3 (wf_near (x := (Y : Int)) (by omega)))
  refine ⟨w', hrun, ⟨_, hown, ?_, fun y hy => ?_⟩, hgrow⟩
  · rw [Maps.size_put (h1.tidy Try.strKeyed), (h3 _ hXl).1, h2]
  · by_cases e : y = X.data.toList
    · subst e
      refine ⟨?_, ?_⟩
      · rw [Maps.has_put_same h1.isMap (Try.strKeyed.key hkey)]; simp
      · rw [Maps.atKey_put_same h1.isMap (Try.strKeyed.key hkey)]; simp
    · refine ⟨?_, ?_⟩
      · rw [Maps.has_put_other (skey_ne e), (h3 y hy).1]; simp [e]
      · rw [Maps.atKey_put_other (skey_ne e), (h3 y hy).2]; simp [e]
theorem SMap.look {w : World} {mb k s : Nat} {g : List UInt8 → Option Nat} (h : SMap w mb k s g) {X : ByteArray} (hX : X.size ≤ 1000) :
    (Instr.lookup 233 (.map (some mb)) (.string X) true).run Try.prog w = .ok (.tuple #[.int .i64 (((g X.data.toList).getD 0 : Nat) : Int), .bool (g X.data.toList).isSome]) w := by
  obtain ⟨D, h1, h2, h3⟩ := h
  have hkey := str_key hX
  have hXl : X.data.toList.length ≤ 1000 := hX
  obtain ⟨v, ps, hrun, hv⟩ := h1.look_ok Try.strKeyed Try.underlying233 (Try.zero3 w) (plainElem_int Try.underlying3 (by decide)) hkey
  obtain ⟨c, rfl, hc, _⟩ := plainElem_int_inv Try.underlying3 hv
  have e : D.atKey (.string X.data.toList) (.lit (.int .i64 0)) = .lit (.int .i64 c) := congrArg Prod.fst hc
  rw [(h3 _ hXl).2] at e
  have e2 : (((g X.data.toList).getD 0 : Nat) : Int) = c := by simpa using e
  rw [hrun, (h3 _ hXl).1, e2]
theorem SMap.len {w : World} {mb k s : Nat} {g : List UInt8 → Option Nat} (h : SMap w mb k s g) (ty : TypeId) : (Builtin.len_ #[233] ty #[.map (some mb)]).run Try.prog w = .ok (.int .i64 (s : Int)) w := by
  obtain ⟨D, h1, h2, h3⟩ := h
  rw [h1.len Try.underlying233 ty, h2]
end Go.Proofs.Ytdmgffoikebgkaa
/- Harness ties: the check of a cloth. -/
namespace Go.Proofs.Ytdmgffoikebgkaa
open Go.RowKit Go.Shelf
attribute [local go_sem] Oper.semAt_some

set_option maxRecDepth 100000 in
set_option maxHeartbeats 1000000 in
theorem isPick_ok (s : ByteArray) (n p : Nat) (w : World) (h : StrB s n p) : Calls Try.prog 207 #[.string s] w fun e w' => e = .returned (.bool true) ∧ w' = w := by
  have hsz := h.size
  have hn1 := h.n1
  have H := Lib.hid h
  clear h
  go_enter Try.func207, Try.ntmps207
  go_wp2_with fail
  go_loopw [6] (fun i wr => ∃ k : Nat, k ≤ n ∧ i = .int .i64 (k : Int) ∧ wr = w) (fun i _ => n - (intOf i).toNat)
  case atStart => exact ⟨0, Nat.zero_le _, rfl, rfl⟩
  case round =>
    obtain ⟨k, hk, rfl, rfl⟩ := hrel
    by_cases hlt : k < n
    · have hi := fun W => H.out.idx hlt W
      have hI : (k : Int) < (n : Int) := by omega
      cases hb : bitN p k with
      | true =>
        have hv : byteP p k = 120 := by unfold byteP; rw [hb]; rfl
        rw [hv] at hi
        clear hb hv
        go_wp2_with fail
        go_roundw
        case rel => exact ⟨k + 1, by omega, by go_num, trivial⟩
        case measure => simp [intOf]; omega
      | false =>
        have hv : byteP p k = 46 := by unfold byteP; rw [hb]; rfl
        rw [hv] at hi
        clear hb hv
        go_wp2_with fail
        go_roundw
        case rel => exact ⟨k + 1, by omega, by go_num, trivial⟩
        case measure => simp [intOf]; omega
    · obtain rfl : k = n := by omega
      go_wp2_with fail
      go_ret
      exact ⟨rfl, rfl⟩
set_option maxRecDepth 100000 in
set_option maxHeartbeats 1000000 in
theorem wrongPick_ok (s : ByteArray) (n p S : Nat) (w : World) (h : StrB s n p) (hc : w.cell? ⟨S, 0, none⟩ = some (.int .i64 (n : Int))) :
    Calls Try.prog 206 #[.string s, .pointer (some ⟨S, 0, none⟩)] w fun e w' => e = .returned (.bool false) ∧ w' = w := by
  have hsz := h.size
  have H := Lib.hid (isPick_ok s n p w h)
  clear h
  go_enter Try.func206, Try.ntmps206
  go_wp2_with fail
  refine H.out.mono ?_
  rintro e w' ⟨rfl, rfl⟩
  go_wp2_with fail
  go_ret
  exact ⟨rfl, rfl⟩
set_option maxRecDepth 100000 in
set_option maxHeartbeats 1000000 in
theorem noWrong (b off c n S : Nat) (ps : List Nat) (w : World) (h : ClAt w b off n ps) (hl : ps.length ≤ 60) (hc : w.cell? ⟨S, 0, none⟩ = some (.int .i64 (n : Int))) :
    Calls Try.prog 228 #[.slice (some ⟨b, off, none⟩) ps.length c, .func (.func 206) #[] #[.pointer (some ⟨S, 0, none⟩)]] w fun e w' => e = .returned (.int .i64 (-1)) ∧ w' = w := by
  have H := Lib.hid h
  clear h
  go_enter Try.func228, Try.ntmps228
  go_wp2_with fail
  go_loopw [8] (fun i wr => ∃ k : Nat, k ≤ ps.length ∧ i = .int .i64 (k : Int) ∧ wr = w) (fun i _ => ps.length - (intOf i).toNat)
  case atStart => exact ⟨0, Nat.zero_le _, rfl, rfl⟩
  case round =>
    obtain ⟨k, hk, rfl, rfl⟩ := hrel
    by_cases hlt : k < ps.length
    · obtain ⟨s, hs, hcell⟩ := H.out.cell k hlt
      have HW := Lib.hid (wrongPick_ok s n _ S _ hs hc)
      clear hs hc
      go_wp2_with fail
      refine HW.out.mono ?_
      rintro e w' ⟨rfl, rfl⟩
      go_wp2_with fail
      go_roundw
      case rel => exact ⟨k + 1, by omega, by go_num, trivial⟩
      case measure => simp [intOf]; omega
    · obtain rfl : k = ps.length := by omega
      go_wp2_with fail
      go_ret
      exact ⟨rfl, rfl⟩
set_option maxRecDepth 100000 in
set_option maxHeartbeats 1000000 in
theorem noWrongs (b off c n S : Nat) (ps : List Nat) (w : World) (h : ClAt w b off n ps) (hl : ps.length ≤ 60) (hc : w.cell? ⟨S, 0, none⟩ = some (.int .i64 (n : Int))) :
    Calls Try.prog 208 #[.slice (some ⟨b, off, none⟩) ps.length c, .func (.func 206) #[] #[.pointer (some ⟨S, 0, none⟩)]] w fun e w' => e = .returned (.bool false) ∧ w' = w := by
  have H := Lib.hid (noWrong b off c n S ps w h hl hc)
  clear h hc
  go_enter Try.func208, Try.ntmps208
  go_wp2_with fail
  refine H.out.mono ?_
  rintro e w' ⟨rfl, rfl⟩
  go_wp2_with fail
  go_ret
  exact ⟨rfl, rfl⟩
set_option maxRecDepth 100000 in
set_option maxHeartbeats 1000000 in
theorem width184 (n : Nat) (w : World) (h0 : 1 ≤ n) (h1 : n ≤ 96) : Calls Try.prog 184 #[.int .i64 (n : Int)] w fun e w' => e = .returned (.bool true) ∧ Below w.heap.size w w' := by
  have HA := Lib.hid (areFrom_one 1 96 w.heap.size 0 1 n (w.alloc (.cells #[.int .i64 (n : Int)] 3)) (by simp) (by omega) (by omega))
  have HB := Lib.hid ((Below.refl w.heap.size w).alloc (Nat.le_refl _) (.cells #[.int .i64 (n : Int)] 3))
  go_enter Try.func184, Try.ntmps184
  go_wp2_with fail
  refine HA.out.mono ?_
  rintro e w' ⟨rfl, rfl⟩
  go_wp2_with fail
  go_ret
  exact ⟨rfl, HB.out⟩
set_option maxRecDepth 100000 in
set_option maxHeartbeats 1000000 in
theorem width182 (n A : Nat) (v0 : Option Addr) (c : Nat) (w : World) (h : w.cell? ⟨A, 1, none⟩ = some (.slice v0 n c)) : Calls Try.prog 182 #[.int .i64 (n : Int), .pointer (some ⟨A, 0, none⟩)] w fun e w' => e = .returned (.bool true) ∧ w' = w := by
  go_enter Try.func182, Try.ntmps182
  go_wp2_with fail
  go_ret
  exact ⟨rfl, rfl⟩
set_option maxRecDepth 100000 in
set_option maxHeartbeats 1000000 in
theorem checkCloth_few (b off c n : Nat) (ps : List Nat) (w : World) (h : ClAt w b off n ps) (hl : ps.length ≤ 60) (hl0 : 1 ≤ ps.length) (hn0 : 1 ≤ n) (hn1 : n ≤ 96) :
    Calls Try.prog 181 #[.slice (some ⟨b, off, none⟩) ps.length c, .func (.func 184) #[] #[]] w fun e w' => e = .returned (.int .i64 0) ∧ Below w.heap.size w w' := by
  have hd0 : ((ps.length : Int) == 0) = false := by rw [beq_eq_false_iff_ne]; omega
  have hd1 : decide ((60 : Int) < (ps.length : Int)) = false := by simp; omega
  obtain ⟨s, hs, hcell⟩ := h.cell 0 (by omega)
  have hsz := hs.size
  have hcell : w.cell? ⟨b, off, none⟩ = some (.string s) := hcell
  have hb1 : Below w.heap.size w (w.alloc (.cells #[.int .i64 (n : Int)] 3)) := (Below.refl _ _).alloc (Nat.le_refl _) _
  have HW := Lib.hid (width184 n (w.alloc (.cells #[.int .i64 (n : Int)] 3)) hn0 hn1)
  have HN := fun W (hb : Below (w.alloc (.cells #[.int .i64 (n : Int)] 3)).heap.size (w.alloc (.cells #[.int .i64 (n : Int)] 3)) W) => noWrongs b off c n w.heap.size ps W ((h.next hb1).next hb) hl (((BoxAt.new w #[.int .i64 (n : Int)] 3).next hb).cell' 0 rfl)
  have Hb1 := Lib.hid hb1
  clear hb1 h hs
  go_enter Try.func181, Try.ntmps181
  go_wp2_with fail
  refine HW.out.mono ?_
  rintro e w2 ⟨rfl, hb2⟩
  have H2 := Lib.hid (HN _ hb2)
  have Hb2 := Lib.hid hb2
  clear HN hb2
  go_wp2_with fail
  refine H2.out.mono ?_
  rintro e w' ⟨rfl, rfl⟩
  go_wp2_with fail
  go_ret
  exact ⟨rfl, Hb1.out.trans (Hb2.out.mono (by simp))⟩
set_option maxRecDepth 100000 in
set_option maxHeartbeats 1000000 in
theorem checkCloth_wov (b off c n A c2 : Nat) (v0 : Option Addr) (ps : List Nat) (w : World) (h : ClAt w b off n ps) (hl : ps.length ≤ 60) (hl0 : 1 ≤ ps.length) (hA : w.cell? ⟨A, 1, none⟩ = some (.slice v0 n c2)) :
    Calls Try.prog 181 #[.slice (some ⟨b, off, none⟩) ps.length c, .func (.func 182) #[] #[.pointer (some ⟨A, 0, none⟩)]] w fun e w' => e = .returned (.int .i64 0) ∧ Below w.heap.size w w' := by
  have hd0 : ((ps.length : Int) == 0) = false := by rw [beq_eq_false_iff_ne]; omega
  have hd1 : decide ((60 : Int) < (ps.length : Int)) = false := by simp; omega
  obtain ⟨s, hs, hcell⟩ := h.cell 0 (by omega)
  have hsz := hs.size
  have hcell : w.cell? ⟨b, off, none⟩ = some (.string s) := hcell
  have hb1 : Below w.heap.size w (w.alloc (.cells #[.int .i64 (n : Int)] 3)) := (Below.refl _ _).alloc (Nat.le_refl _) _
  have HW := Lib.hid (width182 n A v0 c2 (w.alloc (.cells #[.int .i64 (n : Int)] 3)) (cell_next hb1 hA))
  have HN := fun W (hb : Below (w.alloc (.cells #[.int .i64 (n : Int)] 3)).heap.size (w.alloc (.cells #[.int .i64 (n : Int)] 3)) W) => noWrongs b off c n w.heap.size ps W ((h.next hb1).next hb) hl (((BoxAt.new w #[.int .i64 (n : Int)] 3).next hb).cell' 0 rfl)
  have Hb1 := Lib.hid hb1
  clear hb1 h hs
  go_enter Try.func181, Try.ntmps181
  go_wp2_with fail
  refine HW.out.mono ?_
  rintro e w2 ⟨rfl, rfl⟩
  have hb2 := Below.refl (w.alloc (.cells #[.int .i64 (n : Int)] 3)).heap.size (w.alloc (.cells #[.int .i64 (n : Int)] 3))
  have H2 := Lib.hid (HN _ hb2)
  have Hb2 := Lib.hid hb2
  clear HN hb2
  go_wp2_with fail
  refine H2.out.mono ?_
  rintro e w' ⟨rfl, rfl⟩
  go_wp2_with fail
  go_ret
  exact ⟨rfl, Hb1.out.trans (Hb2.out.mono (by simp))⟩
end Go.Proofs.Ytdmgffoikebgkaa
/- Harness ties: the harness with the fewest hooks; the design of a cloth. -/
namespace Go.Proofs.Ytdmgffoikebgkaa
open Go.RowKit Go.Shelf
attribute [local go_sem] Oper.semAt_some

/-- the row of a pick behind k warps -/
def drowN (hs : List Nat) (p : Nat) : Nat → Nat
  | 0 => 0
  | k + 1 => if bitN p k then drowN hs p k ||| 2 ^ nthN hs k else drowN hs p k
theorem drowN_lt (hs : List Nat) (p : Nat) {n : Nat} (hk : ∀ i, i < hs.length → nthN hs i < n) : ∀ k, k ≤ hs.length → drowN hs p k < 2 ^ n
  | 0, _ => by rw [drowN]; exact Nat.pow_pos (by decide)
  | k + 1, h => by
    rw [drowN]
    have h1 := drowN_lt hs p hk k (by omega)
    split
    · exact Nat.or_lt_two_pow h1 (Nat.pow_lt_pow_right (by decide) (hk k (by omega)))
    · exact h1
theorem drowN_bit (hs : List Nat) (p h : Nat) : ∀ k, bitN (drowN hs p k) h = true ↔ ∃ i, i < k ∧ nthN hs i = h ∧ bitN p i = true
  | 0 => by simp [drowN, bitN]
  | k + 1 => by
    have ih := drowN_bit hs p h k
    rw [drowN]
    cases hb : bitN p k with
    | true =>
      rw [if_pos rfl]
      have e : bitN (drowN hs p k ||| 2 ^ nthN hs k) h = (bitN (drowN hs p k) h || decide (nthN hs k = h)) := by
        unfold bitN
        rw [Nat.testBit_or, Nat.testBit_two_pow]
      rw [e, Bool.or_eq_true, ih, decide_eq_true_eq]
      constructor
      · rintro (⟨i, h1, h2⟩ | h1)
        · exact ⟨i, by omega, h2⟩
        · exact ⟨k, by omega, h1, hb⟩
      · rintro ⟨i, h1, h2, h3⟩
        rcases Nat.lt_or_ge i k with h4 | h4
        · exact .inl ⟨i, h4, h2, h3⟩
        · obtain rfl : i = k := by omega
          exact .inr h2
    | false =>
      rw [if_neg (by simp), ih]
      constructor
      · rintro ⟨i, h1, h2⟩; exact ⟨i, by omega, h2⟩
      · rintro ⟨i, h1, h2, h3⟩
        rcases Nat.lt_or_ge i k with h4 | h4
        · exact ⟨i, h4, h2, h3⟩
        · obtain rfl : i = k := by omega
          rw [hb] at h3; cases h3
def dsnK (hs ps : List Nat) (k : Nat) : List Nat := (List.range k).map fun i => drowN hs (nthN ps i) hs.length
def dsnL (hs ps : List Nat) : List Nat := dsnK hs ps ps.length
theorem dsnK_succ (hs ps : List Nat) (k : Nat) : dsnK hs ps (k + 1) = dsnK hs ps k ++ [drowN hs (nthN ps k) hs.length] := by simp [dsnK, List.range_succ]
theorem dsnL_len (hs ps : List Nat) : (dsnL hs ps).length = ps.length := by simp [dsnL, dsnK]
theorem dsnL_nth (hs ps : List Nat) {i : Nat} (h : i < ps.length) : nthN (dsnL hs ps) i = drowN hs (nthN ps i) hs.length := by
  unfold dsnL dsnK nthN; simp [h]
def fewL (ps : List Nat) (k : Nat) : List Nat := (List.range k).map (fewH (colL ps))
theorem fewL_succ (ps : List Nat) (k : Nat) : fewL ps (k + 1) = fewL ps k ++ [fewH (colL ps) k] := by simp [fewL, List.range_succ]
theorem fewL_len (ps : List Nat) (k : Nat) : (fewL ps k).length = k := by simp [fewL]
theorem fewL_nth (ps : List Nat) {k i : Nat} (h : i < k) : nthN (fewL ps k) i = fewH (colL ps) i := by simp [fewL, nthN, h]
theorem colS_list (ps : List Nat) (k : Nat) : (colS ps k).data.toList = colL ps k := by simp [colS]
theorem colS_size (ps : List Nat) (k : Nat) : (colS ps k).size = ps.length := by
  show (colL ps k).toArray.size = _
  simp [colL]
theorem SMap.set {w : World} {mb k s : Nat} {g : List UInt8 → Option Nat} (h : SMap w mb k s g) (a : Addr) (v : Value) (ha : mb ≠ a.block) : SMap (w.setCell a v) mb k s g := by
  refine h.grown (row := some a.block) ⟨rfl, rfl, rfl, by simp, fun i _ hi => Below.heap_setCell w a v i (fun e => hi (by rw [e]))⟩ (by simpa using ha)
theorem ClAt.kept {w w' : World} {b off n : Nat} {ps : List Nat} {row : Option Nat} (h : ClAt w b off n ps) (hg : w.grownBy w' row) (hne : some b ≠ row) : ClAt w' b off n ps :=
  ⟨fun i hi => by obtain ⟨s, h1, h2⟩ := h.cell i hi; exact ⟨s, h1, (World.cell?_of_block (w := w) (hg.block b h.lt hne)).trans h2⟩, Nat.lt_of_lt_of_le h.lt hg.size⟩
theorem ClAt.set {w : World} {b off n : Nat} {ps : List Nat} (h : ClAt w b off n ps) (a : Addr) (v : Value) (ha : b ≠ a.block) : ClAt (w.setCell a v) b off n ps :=
  h.kept (row := some a.block) ⟨rfl, rfl, rfl, by simp, fun i _ hi => Below.heap_setCell w a v i (fun e => hi (by rw [e]))⟩ (by simpa using ha)
/-- what fewest keeps behind k warps, m of them in the map -/
structure FwAt (w0 : World) (B b off n : Nat) (ps : List Nat) (k m : Nat) (v : Value) (W : World) : Prop where
  res : BoxAt W w0.heap.size #[.int .i64 0, .slice none 0 0] 159
  box : BoxAt W B #[.int .i64 0, v] 159
  row : W.ownsRow (B + 2) 3 1 v k ((fewL ps k).map natV)
  map : ∃ q g, SMap W (B + 1) q (cntF (colL ps) m) g ∧ q ≤ m ∧ ClG (colL ps) m g
  cl : ClAt W b off n ps
  b : Below w0.heap.size w0 W
theorem FwAt.next {w0 W W' : World} {B b off n k m : Nat} {ps : List Nat} {v : Value} (h : FwAt w0 B b off n ps k m v W) (hb : Below W.heap.size W W') : FwAt w0 B b off n ps k m v W' := by
  obtain ⟨q, g, h1, h2⟩ := h.map
  exact ⟨h.res.next hb, h.box.next hb, own_next h.row hb, ⟨q, g, h1.next hb, h2⟩, h.cl.next hb, h.b.trans (hb.mono h.b.size)⟩
theorem FwAt.grew {w0 W W' : World} {B b off n k g5 cap : Nat} {ps : List Nat} {v : Value} (h : FwAt w0 B b off n ps k (k + 1) v W) (hB : w0.heap.size < B) (hb : b < w0.heap.size)
    (hg : Grew (B + 2) 3 1 W W' v g5 cap (k + 1) ((fewL ps k).map natV ++ [natV (fewH (colL ps) k)])) :
    BoxAt W' B #[.int .i64 0, v] 159 ∧ FwAt w0 B b off n ps (k + 1) (k + 1) (.slice (some ⟨g5, 0, none⟩) (k + 1) cap) (W'.setCell ⟨B, 1, none⟩ (.slice (some ⟨g5, 0, none⟩) (k + 1) cap)) := by
  have hn : ∀ j, j < B + 2 → some j ≠ v.ownBlock := fun j hj => own_far h.row hj
  have hbx := h.box.kept hg.grow (hn _ (by omega))
  have hr2 := hg.row
  refine ⟨hbx, ⟨?_, hbx.set 1 _, ?_, ?_, ?_, ?_⟩⟩
  · exact (h.res.kept hg.grow (hn _ (by omega))).other _ _ (by simp; omega)
  · refine own_set ?_ _ _ (own_far hg.row (show B < B + 2 by omega))
    rw [fewL_succ, List.map_append]; exact hr2
  · obtain ⟨q, g, h1, h2, h3⟩ := h.map
    exact ⟨q, g, (h1.grown hg.grow (hn _ (by omega))).set _ _ (by simp), h2, h3⟩
  · exact (h.cl.kept hg.grow (hn _ (by omega))).set _ _ (by simp; omega)
  · exact (h.b.grown hg.grow h.b.size (fun j hj => by have := (ownBlock_ge h.row hj).1; omega)).setCell (by simp; omega) _
set_option maxRecDepth 100000 in
set_option maxHeartbeats 4000000 in
theorem fewest_any (b off c n : Nat) (ps : List Nat) (w : World) (h : ClAt w b off n ps) (hl0 : 1 ≤ ps.length) (hl : ps.length ≤ 60) (hn0 : 1 ≤ n) (hn1 : n ≤ 96) (hF : cntF (colL ps) n ≤ 24) :
    Calls Try.prog 131 #[.slice (some ⟨b, off, none⟩) ps.length c] w fun e w' =>
      ∃ v, e = .returned (.tuple #[.agg #[.int .i64 (cntF (colL ps) n : Int), v], .int .i64 0]) ∧ w'.ownsRow w.heap.size 3 1 v n ((fewL ps n).map natV) ∧ Below w.heap.size w w' := by
  have hmm := @run_makeMap Try.prog
  have hb0 : Below w.heap.size w (w.alloc (.cells #[.int .i64 0, .slice none 0 0] 159)) := (Below.refl _ _).alloc (Nat.le_refl _) _
  have hcl0 := h.next hb0
  have HC := Lib.hid (checkCloth_few b off c n ps _ hcl0 hl hl0 hn0 hn1)
  have Hcl0 := Lib.hid hcl0
  have Hb0 := Lib.hid hb0
  have HR0 := Lib.hid (show BoxAt _ _ _ _ from BoxAt.new w #[.int .i64 0, .slice none 0 0] 159)
  have hbl := h.lt
  clear h hb0 hcl0
  go_enter Try.func131, Try.ntmps131
  go_wp2_with fail
  refine HC.out.mono ?_
  rintro e w1 ⟨rfl, hb1⟩
  have hcl1 := Hcl0.out.next hb1
  obtain ⟨s, hs, hcell⟩ := hcl1.cell 0 (by omega)
  have hsz := hs.size
  have hcell : w1.cell? ⟨b, off, none⟩ = some (.string s) := hcell
  obtain ⟨B, hB⟩ : ∃ B, w1.heap.size = B := ⟨_, rfl⟩
  have hwB : w.heap.size < B := by have := hb1.size; simp at this; omega
  have hF0 : FwAt w B b off n ps 0 0 (.slice none 0 0) ((w1.alloc (.cells #[.int .i64 0, .slice none 0 0] 159)).alloc (.map #[] 0)) := by
    have hb2 : Below w1.heap.size w1 ((w1.alloc (.cells #[.int .i64 0, .slice none 0 0] 159)).alloc (.map #[] 0)) := ((Below.refl _ _).alloc (Nat.le_refl _) _).alloc (by simp) _
    refine ⟨(HR0.out.next hb1).next hb2, ?_, World.ownsRow_nil _ _ _ _, ⟨0, _, ?_, Nat.le_refl _, ClG.start⟩, hcl1.next hb2, (Hb0.out.trans (hb1.mono (by simp))).trans (hb2.mono (by omega))⟩
    · have := (BoxAt.new w1 #[.int .i64 0, .slice none 0 0] 159).next ((Below.refl _ _).alloc (Nat.le_refl _) (.map #[] 0))
      rwa [hB] at this
    · have := SMap.made (w1.alloc (.cells #[.int .i64 0, .slice none 0 0] 159))
      rwa [World.size_alloc, hB] at this
  have HF0 := Lib.hid hF0
  have hbl1 : b < w1.heap.size := by omega
  clear hF0 hcl1 hs hb1 HC Hcl0 Hb0 HR0
  go_upto_region 6 with fail
  have hcell2 : ((w1.alloc (.cells #[.int .i64 0, .slice none 0 0] 159)).alloc (.map #[] 0)).cell? ⟨b, off, none⟩ = some (.string s) := by
    exact cell_next (((Below.refl _ _).alloc (Nat.le_refl _) _).alloc (by simp) _) hcell
  obtain ⟨W2, hW2⟩ : ∃ W2, (w1.alloc (.cells #[.int .i64 0, .slice none 0 0] 159)).alloc (.map #[] 0) = W2 := ⟨_, rfl⟩
  rw [hW2] at HF0 hcell2 ⊢
  clear hW2 hcell hB
  go_wp2_with fail
  go_loopw [22] (fun i wr => ∃ (k : Nat) (v : Value), k ≤ n ∧ i = .int .i64 (k : Int) ∧ FwAt w B b off n ps k k v wr) (fun i _ => n - (intOf i).toNat)
  case atStart => exact ⟨0, _, Nat.zero_le _, rfl, HF0.out⟩
  case round =>
    obtain ⟨k, v, hk, rfl, hT⟩ := hrel
    clear HF0 hcell2
    by_cases hlt : k < n
    · have HW := Lib.hid (column_any b off c n k ps wr hT.cl hl hl0 hlt)
      have HT := Lib.hid hT
      clear hT
      go_wp2_with fail
      refine HW.out.mono ?_
      rintro e W3 ⟨rfl, hb3⟩
      have hT3 := HT.out.next hb3
      clear HT HW hb3
      obtain ⟨q, g, hm, hq, hcg⟩ := hT3.map
      have hX : (colS ps k).size ≤ 1000 := by rw [colS_size]; omega
      have hlk := hm.look hX
      rw [colS_list] at hlk
      have hln := fun ty => hm.len ty
      have hcs := cntF_le_self (key := colL ps) k
      have hwz : w.heap.size < W3.heap.size := hT3.res.lt
      have hzB : B + 1 < W3.heap.size := hm.lt
      cases hg : g (colL ps k) with
      | none =>
        obtain ⟨hf1, hc1, hh1, hcg1⟩ := hcg.none hg
        rw [hg] at hlk
        obtain ⟨W4, hup, hm4, hgr⟩ := hm.upd (X := colS ps k) (Y := cntF (colL ps) k) hX (by omega) (by omega)
        rw [colS_list, hg] at hm4
        have hT4 : FwAt w B b off n ps k (k + 1) v W4 := by
          have hnv : v.ownBlock ≠ some (B + 1) := fun e => own_far hT3.row (show B + 1 < B + 2 by omega) e.symm
          refine ⟨hT3.res.kept hgr (by simp; omega), hT3.box.kept hgr (by simp), hT3.row.kept hgr (.inr hnv), ⟨q + 1, _, ?_, by omega, hcg1⟩, hT3.cl.kept hgr (by simp; omega), hT3.b.grown hgr hT3.b.size (fun j e => by cases e; omega)⟩
          rw [hc1]; exact hm4
        obtain ⟨m, hmm2⟩ : ∃ m, cntF (colL ps) k = m := ⟨_, rfl⟩
        rw [hmm2] at hup hln hcs hh1
        have HT4 := Lib.hid hT4
        have Hh1 := Lib.hid hh1
        have hcb := hT4.box.cell' (v := v) 1 rfl
        have hzB4 : B + 1 < W4.heap.size := Nat.lt_of_lt_of_le hzB hgr.size
        clear hT4 hT3 hm hq hcg hf1 hc1 hh1 hcg1 hm4 hgr hmm2 hg hF
        go_upto_region 14 with fail
        go_wp2_with (at_builtin; refine Shut.out ?_)
        unfold Shut
        refine app_one elemInt rfl _ _ rfl (B + 2) v k ((fewL ps k).map natV) #[.int .i64 (m : Int)] rfl HT4.out.row rfl rfl (by simp [Value.oneCell']) (by omega) (by decide) (by omega) ?_
        intro g5 cap W5 hg5
        obtain ⟨hbx, hT6⟩ := HT4.out.grew hwB hbl (by rw [Hh1.out]; exact hg5)
        have f1 := hbx.frozen 1
        have c1 : W5.cell? ⟨B, 1, none⟩ = some v := hbx.cell' 1 rfl
        have HT6 := Lib.hid hT6
        clear hbx hT6 hg5 HT4
        go_wp2_with fail
        go_roundw
        case rel => exact ⟨k + 1, _, by omega, by go_num, HT6.out⟩
        case measure => simp [intOf]; omega
      | some x =>
        obtain ⟨hx, hc1, hcg1⟩ := hcg.some hg
        rw [hg] at hlk
        have hT4 : FwAt w B b off n ps k (k + 1) v W3 := ⟨hT3.res, hT3.box, hT3.row, ⟨q, g, by rw [hc1]; exact hm, by omega, hcg1⟩, hT3.cl, hT3.b⟩
        have HT4 := Lib.hid hT4
        have Hh1 := Lib.hid hx.symm
        have hcb := hT4.box.cell' (v := v) 1 rfl
        clear hT4 hT3 hm hq hcg hx hc1 hcg1 hg hF hln
        simp only [Option.getD_some, Option.isSome_some] at hlk
        go_upto_region 14 with fail
        go_wp2_with (at_builtin; refine Shut.out ?_)
        unfold Shut
        refine app_one elemInt rfl _ _ rfl (B + 2) v k ((fewL ps k).map natV) #[.int .i64 (x : Int)] rfl HT4.out.row rfl rfl (by simp [Value.oneCell']) (by omega) (by decide) (by omega) ?_
        intro g5 cap W5 hg5
        obtain ⟨hbx, hT6⟩ := HT4.out.grew hwB hbl (by rw [Hh1.out]; exact hg5)
        have f1 := hbx.frozen 1
        have c1 : W5.cell? ⟨B, 1, none⟩ = some v := hbx.cell' 1 rfl
        have HT6 := Lib.hid hT6
        clear hbx hT6 hg5 HT4
        go_wp2_with fail
        go_roundw
        case rel => exact ⟨k + 1, _, by omega, by go_num, HT6.out⟩
        case measure => simp [intOf]; omega
    · obtain rfl : k = n := by omega
      obtain ⟨g5, cap, rfl⟩ := row_slice hT.row (by omega)
      obtain ⟨q, g, hm, hq, hcg⟩ := hT.map
      have hln := fun ty => hm.len ty
      obtain ⟨m, hmm2⟩ : ∃ m, cntF (colL ps) k = m := ⟨_, rfl⟩
      rw [hmm2] at hln hF
      have Hm := Lib.hid hmm2
      have d24 : decide ((24 : Int) < (m : Int)) = false := by simp; omega
      have c0 := hT.box.cell' (v := .int .i64 0) 0 rfl
      have c1 := hT.box.cell' (v := .slice (some ⟨g5, 0, none⟩) k cap) 1 rfl
      have f0 := hT.box.frozen 0
      have r0 := hT.res.cell' (v := .int .i64 0) 0 rfl
      have r1 := hT.res.cell' (v := .slice none 0 0) 1 rfl
      have rf0 := hT.res.frozen 0
      have rf1 := hT.res.frozen 1
      have hne : ¬ w.heap.size = B := by omega
      have hne2 : ¬ B = w.heap.size := by omega
      have HT := Lib.hid hT
      clear hT hm hq hcg hmm2
      go_wp2_with fail
      refine bodyPost_ret (v := .tuple #[.agg #[.int .i64 (m : Int), .slice (some ⟨g5, 0, none⟩) k cap], .int .i64 0]) ?_ rfl ⟨_, by rw [Hm.out], ?_, ?_⟩
      · have hb3 := ((HT.out.res.other ⟨B, 0, none⟩ (.int .i64 (m : Int)) hne).set 0 (.int .i64 (m : Int))).set 1 (.slice (some ⟨g5, 0, none⟩) k cap)
        have d0 := hb3.cell' (v := .int .i64 (m : Int)) 0 rfl
        have d1 := hb3.cell' (v := .slice (some ⟨g5, 0, none⟩) k cap) 1 rfl
        simp [results, Try.results131, go_sem, d0, d1]
      · have hn : ∀ j, j < B + 2 → some j ≠ (Value.slice (some ⟨g5, 0, none⟩) k cap).ownBlock := fun j hj => own_far HT.out.row hj
        exact own_base (own_set (own_set (own_set HT.out.row _ _ (hn _ (by simp))) _ _ (hn _ (by simp; omega))) _ _ (hn _ (by simp; omega))) (by omega)
      · exact ((HT.out.b.setCell (by simp; omega) _).setCell (by simp) _).setCell (by simp) _
/-- what design keeps between two picks -/
structure DgAt (w0 : World) (n b off c T : Nat) (hs ps : List Nat) (k : Nat) (v : Value) (W : World) : Prop where
  box : BoxAt W w0.heap.size #[.int .i64 (n : Int), .slice (some ⟨b, off, none⟩) T c] 159
  res : BoxAt W (w0.heap.size + 1) #[.int .i64 0, .slice none 0 0] 37
  d : BoxAt W (w0.heap.size + 2) #[.int .i64 (n : Int), v] 37
  row : W.ownsRow (w0.heap.size + 3) 3 1 v k ((dsnK hs ps k).map natV)
  b : Below w0.heap.size w0 W
theorem DgAt.grew {w0 W W' : World} {n b off c T k g5 cap : Nat} {hs ps : List Nat} {v : Value} (h : DgAt w0 n b off c T hs ps k v W)
    (hg : Grew (w0.heap.size + 3) 3 1 W W' v g5 cap (k + 1) ((dsnK hs ps k).map natV ++ [natV (drowN hs (nthN ps k) hs.length)])) :
    BoxAt W' (w0.heap.size + 2) #[.int .i64 (n : Int), v] 37 ∧ DgAt w0 n b off c T hs ps (k + 1) (.slice (some ⟨g5, 0, none⟩) (k + 1) cap) (W'.setCell ⟨w0.heap.size + 2, 1, none⟩ (.slice (some ⟨g5, 0, none⟩) (k + 1) cap)) := by
  have hn : ∀ j, j < w0.heap.size + 3 → some j ≠ v.ownBlock := fun j hj => own_far h.row hj
  have hbx := h.d.kept hg.grow (hn _ (by omega))
  have hr2 := hg.row
  refine ⟨hbx, ⟨?_, ?_, hbx.set 1 _, ?_, ?_⟩⟩
  · exact (h.box.kept hg.grow (hn _ (by omega))).other _ _ (by simp)
  · exact (h.res.kept hg.grow (hn _ (by omega))).other _ _ (by simp)
  · refine own_set ?_ _ _ (own_far hg.row (show w0.heap.size + 2 < w0.heap.size + 3 by omega))
    rw [dsnK_succ, List.map_append]; exact hr2
  · exact (h.b.grown hg.grow h.b.size (fun j hj => by have := (ownBlock_ge h.row hj).1; omega)).setCell (by simp) _
set_option maxRecDepth 100000 in
set_option maxHeartbeats 4000000 in
theorem design_any (n b off c b2 off2 c2 T : Nat) (hs ps : List Nat) (w : World) (hT : hs.length = T) (hv : TAt w b off n hs) (hc : ClAt w b2 off2 T ps) (hl0 : 1 ≤ ps.length) (hl : ps.length ≤ 60) :
    Calls Try.prog 128 #[.agg #[.int .i64 (n : Int), .slice (some ⟨b, off, none⟩) T c], .slice (some ⟨b2, off2, none⟩) ps.length c2] w fun e w' =>
      ∃ g cap, e = .returned (.agg #[.int .i64 (n : Int), .slice (some ⟨g, 0, none⟩) ps.length cap]) ∧ w'.ownsRow w.heap.size 3 1 (.slice (some ⟨g, 0, none⟩) ps.length cap) ps.length ((dsnL hs ps).map natV) ∧ Below w.heap.size w w' := by
  have l1 := hv.l1
  have n1 := hv.n1
  rw [hT] at l1
  have hD0 : DgAt w n b off c T hs ps 0 (.slice none 0 0) (((w.alloc (.cells #[.int .i64 (n : Int), .slice (some ⟨b, off, none⟩) T c] 159)).alloc (.cells #[.int .i64 0, .slice none 0 0] 37)).alloc (.cells #[.int .i64 (n : Int), .slice none 0 0] 37)) := by
    have e0 := ((BoxAt.new w #[.int .i64 (n : Int), .slice (some ⟨b, off, none⟩) T c] 159).next ((Below.refl _ _).alloc (Nat.le_refl _) (.cells #[.int .i64 0, .slice none 0 0] 37))).next ((Below.refl _ _).alloc (Nat.le_refl _) (.cells #[.int .i64 (n : Int), .slice none 0 0] 37))
    have e1 := (BoxAt.new (w.alloc (.cells #[.int .i64 (n : Int), .slice (some ⟨b, off, none⟩) T c] 159)) #[.int .i64 0, .slice none 0 0] 37).next ((Below.refl _ _).alloc (Nat.le_refl _) (.cells #[.int .i64 (n : Int), .slice none 0 0] 37))
    have e2 := BoxAt.new ((w.alloc (.cells #[.int .i64 (n : Int), .slice (some ⟨b, off, none⟩) T c] 159)).alloc (.cells #[.int .i64 0, .slice none 0 0] 37)) #[.int .i64 (n : Int), .slice none 0 0] 37
    rw [World.size_alloc] at e1
    rw [World.size_alloc, World.size_alloc] at e2
    exact ⟨e0, e1, e2, World.ownsRow_nil _ _ _ _, (((Below.refl w.heap.size w).alloc (Nat.le_refl _) _).alloc (by simp) _).alloc (by simp; omega) _⟩
  have HD0 := Lib.hid hD0
  have HV := Lib.hid hv
  have HCl := Lib.hid hc
  have HT := Lib.hid hT
  clear hD0 hv hc hT
  go_enter Try.func128, Try.ntmps128
  go_upto_region 2 with fail
  obtain ⟨W2, hW2⟩ : ∃ W2, ((w.alloc (.cells #[.int .i64 (n : Int), .slice (some ⟨b, off, none⟩) T c] 159)).alloc (.cells #[.int .i64 0, .slice none 0 0] 37)).alloc (.cells #[.int .i64 (n : Int), .slice none 0 0] 37) = W2 := ⟨_, rfl⟩
  rw [hW2] at HD0
  try rw [hW2]
  go_wp2_with fail
  go_loopw [16] (fun i wr => ∃ (k : Nat) (v : Value), k ≤ ps.length ∧ i = .int .i64 (k : Int) ∧ DgAt w n b off c T hs ps k v wr) (fun i _ => ps.length - (intOf i).toNat)
  case atStart => exact ⟨0, _, Nat.zero_le _, rfl, HD0.out⟩
  case round =>
    obtain ⟨k, v, hk, rfl, hD⟩ := hrel
    clear HD0
    by_cases hlt : k < ps.length
    · have hcr := HCl.out.next hD.b
      have hvr := HV.out.next hD.b
      obtain ⟨s, hs', hcell⟩ := hcr.cell k hlt
      have hsz := hs'.size
      obtain ⟨p, hp⟩ : ∃ p, nthN ps k = p := ⟨_, rfl⟩
      rw [hp] at hs'
      have Hp := Lib.hid hp
      have HS := Lib.hid hs'
      have HVr := Lib.hid hvr
      have HD := Lib.hid hD
      clear hcr hvr hs' hp hD
      go_wp2_with fail
      go_loopw [22, 8] (fun i r wz => ∃ q : Nat, q ≤ T ∧ i = .int .i64 (q : Int) ∧ r = .int .i64 (drowN hs p q : Int) ∧ wz = wr) (fun i _ _ => T - (intOf i).toNat)
      case atStart => exact ⟨0, Nat.zero_le _, rfl, rfl, rfl⟩
      case round =>
        obtain ⟨q, hq, rfl, rfl, rfl⟩ := hrel
        by_cases hqs : q < T
        · have hqT : q < hs.length := by rw [HT.out]; exact hqs
          have hidx := fun W => HS.out.idx hqs W
          have x1 := HD.out.box.cell' (v := .slice (some ⟨b, off, none⟩) T c) 1 rfl
          have hk1 := HVr.out.at' q hqT
          have hk2 := HVr.out.hk q hqT
          have hdl := drowN_lt hs p HVr.out.hk q (by omega)
          have hdl2 : drowN hs p q < 16777216 := Nat.lt_of_lt_of_le hdl (Nat.pow_le_pow_right (by decide) n1)
          have hds : drowN hs p (q + 1) = if bitN p q then drowN hs p q ||| 2 ^ nthN hs q else drowN hs p q := rfl
          obtain ⟨a, ha⟩ : ∃ a, nthN hs q = a := ⟨_, rfl⟩
          obtain ⟨r, hr⟩ : ∃ r, drowN hs p q = r := ⟨_, rfl⟩
          rw [ha] at hk1 hk2 hds
          rw [hr] at hdl2 hds
          rw [hr]
          cases hb : bitN p q with
          | true =>
            have hv : byteP p q = 120 := by unfold byteP; rw [hb]; rfl
            rw [hv] at hidx
            rw [hb, if_pos rfl] at hds
            have Hds := Lib.hid hds
            have hal : a < 24 := by omega
            clear hb hv hds hdl ha hr
            go_wp2_with fail
            have h2 : (2 : Int) ^ a < 16777216 := by
              have : 2 ^ a < 2 ^ 24 := Nat.pow_lt_pow_right (by decide) hal
              have h3 : ((2 ^ a : Nat) : Int) < 16777216 := by omega
              simpa using h3
            have h1 : (0 : Int) ≤ 2 ^ a := Int.pow_nonneg (by decide)
            have hor : bits BinOp.or IntKind.i64 (r : Int) (wrap64 (2 ^ a)) = ((r ||| 2 ^ a : Nat) : Int) := by
              rw [wrap64_in _ ⟨by omega, by omega⟩]
              exact or_step r a (by omega) hal
            go_roundw
            case rel => exact ⟨q + 1, by omega, by go_num, by rw [hor, Hds.out], trivial⟩
            case measure => simp [intOf]; omega
          | false =>
            have hv : byteP p q = 46 := by unfold byteP; rw [hb]; rfl
            rw [hv] at hidx
            rw [hb, if_neg (by simp)] at hds
            have Hds := Lib.hid hds
            clear hb hv hds hdl ha hr
            go_wp2_with fail
            go_roundw
            case rel => exact ⟨q + 1, by omega, by go_num, by rw [Hds.out], trivial⟩
            case measure => simp [intOf]; omega
        · obtain rfl : q = T := by omega
          have x1 := HD.out.d.cell' (v := v) 1 rfl
          have hzw : w.heap.size + 2 < wr.heap.size := HD.out.d.lt
          have he : drowN hs p q = drowN hs (nthN ps k) hs.length := by rw [Hp.out, HT.out]
          obtain ⟨r, hr⟩ : ∃ r, drowN hs p q = r := ⟨_, rfl⟩
          rw [hr] at he
          rw [hr]
          have He := Lib.hid he
          clear he hr
          go_upto_region 12 with fail
          go_wp2_with (at_builtin; refine Shut.out ?_)
          unfold Shut
          refine app_one elemInt rfl _ _ rfl (w.heap.size + 3) v k ((dsnK hs ps k).map natV) #[.int .i64 (r : Int)] rfl HD.out.row rfl rfl (by simp [Value.oneCell']) (by omega) (by decide) (by omega) ?_
          intro g5 cap W5 hg5
          obtain ⟨hbx, hT6⟩ := HD.out.grew (by rw [← He.out]; exact hg5)
          have f1 := hbx.frozen 1
          have c1 : W5.cell? ⟨w.heap.size + 2, 1, none⟩ = some v := hbx.cell' 1 rfl
          have HT6 := Lib.hid hT6
          clear hbx hT6 hg5
          go_wp2_with fail
          go_roundw
          case rel => exact ⟨k + 1, _, by omega, by go_num, HT6.out⟩
          case measure => simp [intOf]; omega
    · obtain rfl : k = ps.length := by omega
      obtain ⟨g5, cap, rfl⟩ := row_slice hD.row (by omega)
      have c0 := hD.d.cell' (v := .int .i64 (n : Int)) 0 rfl
      have c1 := hD.d.cell' (v := .slice (some ⟨g5, 0, none⟩) ps.length cap) 1 rfl
      have r0 := hD.res.cell' (v := .int .i64 0) 0 rfl
      have r1 := hD.res.cell' (v := .slice none 0 0) 1 rfl
      have rf0 := hD.res.frozen 0
      have rf1 := hD.res.frozen 1
      have HD := Lib.hid hD
      clear hD
      go_wp2_with fail
      refine bodyPost_ret (v := .agg #[.int .i64 (n : Int), .slice (some ⟨g5, 0, none⟩) ps.length cap]) ?_ rfl ⟨g5, cap, rfl, ?_, ?_⟩
      · have hb3 := (HD.out.res.set 0 (.int .i64 (n : Int))).set 1 (.slice (some ⟨g5, 0, none⟩) ps.length cap)
        have d0 := hb3.cell' (v := .int .i64 (n : Int)) 0 rfl
        have d1 := hb3.cell' (v := .slice (some ⟨g5, 0, none⟩) ps.length cap) 1 rfl
        simp [results, Try.results128, go_sem, d0, d1]
      · have hn : ∀ j, j < w.heap.size + 3 → some j ≠ (Value.slice (some ⟨g5, 0, none⟩) ps.length cap).ownBlock := fun j hj => own_far HD.out.row hj
        exact own_base (own_set (own_set HD.out.row _ _ (hn _ (by simp))) _ _ (hn _ (by simp))) (by omega)
      · exact (HD.out.b.setCell (by simp) _).setCell (by simp) _
end Go.Proofs.Ytdmgffoikebgkaa
/- Harness ties: Fewest. -/
namespace Go.Proofs.Ytdmgffoikebgkaa
open Go.RowKit Go.Shelf
attribute [local go_sem] Oper.semAt_some

theorem few_tat {W : World} {g n : Nat} {ps : List Nat} (hn : NatsAt W g 0 (fewL ps n)) (hg : g < W.heap.size) (hn0 : 1 ≤ n) (hn1 : n ≤ 96) (hF : cntF (colL ps) n ≤ 24) : TAt W g 0 (cntF (colL ps) n) (fewL ps n) :=
  ⟨hn, hg, cntF_pos hn0, hF, by rw [fewL_len]; exact hn0, by rw [fewL_len]; exact hn1, fun i hi => by
    rw [fewL_len] at hi
    rw [fewL_nth ps hi]
    exact fewH_lt hi⟩
set_option maxRecDepth 100000 in
set_option maxHeartbeats 4000000 in
theorem Fewest_any (b off c n : Nat) (ps : List Nat) (w : World) (h : ClAt w b off n ps) (hl0 : 1 ≤ ps.length) (hl : ps.length ≤ 60) (hn0 : 1 ≤ n) (hn1 : n ≤ 96) (hF : cntF (colL ps) n ≤ 24) :
    Calls Try.prog 54 #[.slice (some ⟨b, off, none⟩) ps.length c] w fun e w' =>
      ∃ g cap g2 cap2, e = .returned (.tuple #[.agg #[.int .i64 (cntF (colL ps) n : Int), .slice (some ⟨g, 0, none⟩) n cap], .agg #[.int .i64 (cntF (colL ps) n : Int), .slice (some ⟨g2, 0, none⟩) ps.length cap2], .int .i64 0]) ∧
        NatsAt w' g 0 (fewL ps n) ∧ NatsAt w' g2 0 (dsnL (fewL ps n) ps) ∧ w.heap.size ≤ g ∧ g < w'.heap.size ∧ w.heap.size ≤ g2 ∧ g2 < w'.heap.size ∧ Below w.heap.size w w' := by
  have hb0 : Below w.heap.size w ((w.alloc (.cells #[.int .i64 0, .slice none 0 0] 26)).alloc (.cells #[.int .i64 0, .slice none 0 0] 37)) := ((Below.refl _ _).alloc (Nat.le_refl _) _).alloc (by simp) _
  have hA0 := (BoxAt.new w #[.int .i64 0, .slice none 0 0] 26).next ((Below.refl _ _).alloc (Nat.le_refl _) (.cells #[.int .i64 0, .slice none 0 0] 37))
  have hA1 := BoxAt.new (w.alloc (.cells #[.int .i64 0, .slice none 0 0] 26)) #[.int .i64 0, .slice none 0 0] 37
  rw [World.size_alloc] at hA1
  have hcl0 := h.next hb0
  have HW := Lib.hid (fewest_any b off c n ps _ hcl0 hl0 hl hn0 hn1 hF)
  obtain ⟨m, hm⟩ : ∃ m, cntF (colL ps) n = m := ⟨_, rfl⟩
  have Hm := Lib.hid hm
  rw [hm] at HW
  have HA0 := Lib.hid hA0
  have HA1 := Lib.hid hA1
  have Hb0 := Lib.hid hb0
  have Hcl0 := Lib.hid hcl0
  have hbl := h.lt
  clear h hb0 hA0 hA1 hcl0 hm
  go_enter Try.func54, Try.ntmps54
  go_wp2_with fail
  refine HW.out.mono ?_
  rintro e W1 ⟨v, rfl, hrow, hb1⟩
  obtain ⟨g, cap, rfl⟩ := row_slice hrow (by omega)
  obtain ⟨hn, hgg, hgl⟩ := nats_of_row hrow (by omega)
  have hz1 := hb1.size
  simp only [World.size_alloc] at hz1 hgl
  go_upto_region 4 with fail
  obtain ⟨X, hX⟩ : ∃ X, W1.alloc (.cells #[.int .i64 (m : Int), .slice (some ⟨g, 0, none⟩) n cap] 159) = X := ⟨_, rfl⟩
  obtain ⟨B5, hB5⟩ : ∃ B5, W1.heap.size = B5 := ⟨_, rfl⟩
  have hbX : Below W1.heap.size W1 X := by rw [← hX]; exact (Below.refl _ _).alloc (Nat.le_refl _) _
  have hxB : BoxAt X B5 #[.int .i64 (m : Int), .slice (some ⟨g, 0, none⟩) n cap] 159 := by rw [← hX, ← hB5]; exact BoxAt.new _ _ _
  have hxA0 := (HA0.out.next hb1).next hbX
  have hxA1 := (HA1.out.next hb1).next hbX
  have hnX := hn.below hbX hgg
  have hgX : g < X.heap.size := Nat.lt_of_lt_of_le hgg hbX.size
  have hclX := (Hcl0.out.next hb1).next hbX
  have hbw := Hb0.out.trans ((hb1.trans (hbX.mono hb1.size)).mono (by simp; omega))
  rw [hX, hB5]
  have HD := Lib.hid (fun (W : World) (hb : Below X.heap.size X W) => design_any m g 0 cap b off c n (fewL ps n) ps W (fewL_len ps n) (by have := few_tat (hnX.below hb hgX) (Nat.lt_of_lt_of_le hgX hb.size) hn0 hn1 hF; rwa [Hm.out] at this) (hclX.next hb) hl0 hl)
  have z0 := hxB.cell' (v := .int .i64 (m : Int)) 0 rfl
  have z1 := hxB.cell' (v := .slice (some ⟨g, 0, none⟩) n cap) 1 rfl
  have HB5 := Lib.hid hxB
  have HXA0 := Lib.hid hxA0
  have HXA1 := Lib.hid hxA1
  have HN := Lib.hid hnX
  have Hbw := Lib.hid hbw
  have hwB : w.heap.size + 1 < B5 := by omega
  clear hxB hxA0 hxA1 hnX hclX hbX hbw hX hn hrow HA0 HA1 Hb0 Hcl0 HW hb1 hB5 hgg
  have hmx : Try.prog.follows .mixedOrders = true := by kernel_rfl
  have HDD := HD.out X.drew (Below.drew (Below.refl _ _))
  go_region_law
    (go_simp; go_at_call 128; (with_reducible refine HDD.mono ?_); rintro e w3 ⟨g2, cap2, rfl, hrow2, hb3⟩
     have y0 : w3.cell? ⟨B5, 0, none⟩ = some (.int .i64 (m : Int)) := cell_next (W := X.drew) hb3 z0
     have y1 : w3.cell? ⟨B5, 1, none⟩ = some (.slice (some ⟨g, 0, none⟩) n cap) := cell_next (W := X.drew) hb3 z1
     have r0 : BoxAt w3 w.heap.size #[.int .i64 0, .slice none 0 0] 26 := BoxAt.next (W := X.drew) HXA0.out hb3
     have r1 : BoxAt w3 (w.heap.size + 1) #[.int .i64 0, .slice none 0 0] 37 := BoxAt.next (W := X.drew) HXA1.out hb3
     have q0 := r0.cell' (v := .int .i64 0) 0 rfl
     have q1 := r0.cell' (v := .slice none 0 0) 1 rfl
     have q2 := r1.cell' (v := .int .i64 0) 0 rfl
     have q3 := r1.cell' (v := .slice none 0 0) 1 rfl
     have q4 := r0.frozen 0
     have q5 := r0.frozen 1
     have q6 := r1.frozen 0
     have q7 := r1.frozen 1
     have H2 := Lib.hid hrow2
     have H3 := Lib.hid hb3
     have HR0 := Lib.hid r0
     have HR1 := Lib.hid r1
     clear hrow2 hb3 r0 r1)
  all_goals
    (obtain ⟨hn3, hg3b, hg3a⟩ := nats_of_row H2.out (by omega)
     have hg3 : NatsAt w3 g 0 (fewL ps n) := NatsAt.below (w := X.drew) HN.out H3.out (by simpa using hgX)
     have hbw3 : Below w.heap.size w w3 := Hbw.out.trans ((Below.drew (Below.refl X.heap.size X)).trans H3.out |>.mono Hbw.out.size)
     have hz3 := H3.out.size
     have hz4 : X.drew.heap.size = X.heap.size := rfl
     have hz5 := Hbw.out.size
     have hz6 : w.heap.size + 1 < X.heap.size := HXA1.out.lt
     have hz7 := HB5.out.lt
     go_wp2_with fail
     first
     | (refine bodyPost_ret (v := .tuple #[.agg #[.int .i64 (m : Int), .slice (some ⟨g, 0, none⟩) n cap], .agg #[.int .i64 (m : Int), .slice (some ⟨g2, 0, none⟩) ps.length cap2], .int .i64 0]) ?_ rfl ⟨g, cap, g2, cap2, by rw [Hm.out], ?_, ?_, ?_, ?_, ?_, ?_, ?_⟩
        · have ha := ((((HR0.out.set 0 (.int .i64 (m : Int))).set 1 (.slice (some ⟨g, 0, none⟩) n cap)).other ⟨w.heap.size + 1, 0, none⟩ (.int .i64 (m : Int)) (by simp)).other ⟨w.heap.size + 1, 1, none⟩ (.slice (some ⟨g2, 0, none⟩) ps.length cap2) (by simp))
          have hb := ((((HR1.out.other ⟨w.heap.size, 0, none⟩ (.int .i64 (m : Int)) (by simp)).other ⟨w.heap.size, 1, none⟩ (.slice (some ⟨g, 0, none⟩) n cap) (by simp)).set 0 (.int .i64 (m : Int))).set 1 (.slice (some ⟨g2, 0, none⟩) ps.length cap2))
          have d0 := ha.cell' (v := .int .i64 (m : Int)) 0 rfl
          have d1 := ha.cell' (v := .slice (some ⟨g, 0, none⟩) n cap) 1 rfl
          have d2 := hb.cell' (v := .int .i64 (m : Int)) 0 rfl
          have d3 := hb.cell' (v := .slice (some ⟨g2, 0, none⟩) ps.length cap2) 1 rfl
          simp [results, Try.results54, go_sem, d0, d1, d2, d3, Act.put]
        · exact nats_setB (nats_setB (nats_setB (nats_setB hg3 _ _ _ (by omega)) _ _ _ (by omega)) _ _ _ (by omega)) _ _ _ (by omega)
        · exact nats_setB (nats_setB (nats_setB (nats_setB hn3 _ _ _ (by omega)) _ _ _ (by omega)) _ _ _ (by omega)) _ _ _ (by omega)
        · omega
        · simp only [setCell_size]; omega
        · omega
        · simp only [setCell_size]; omega
        · exact (((hbw3.setCell (by simp) _).setCell (by simp) _).setCell (by simp) _).setCell (by simp) _)
     | (refine bodyPost_ret (v := .tuple #[.agg #[.int .i64 (m : Int), .slice (some ⟨g, 0, none⟩) n cap], .agg #[.int .i64 (m : Int), .slice (some ⟨g2, 0, none⟩) ps.length cap2], .int .i64 0]) ?_ rfl ⟨g, cap, g2, cap2, by rw [Hm.out], ?_, ?_, ?_, ?_, ?_, ?_, ?_⟩
        · have ha := ((((HR0.out.other ⟨w.heap.size + 1, 0, none⟩ (.int .i64 (m : Int)) (by simp)).other ⟨w.heap.size + 1, 1, none⟩ (.slice (some ⟨g2, 0, none⟩) ps.length cap2) (by simp)).set 0 (.int .i64 (m : Int))).set 1 (.slice (some ⟨g, 0, none⟩) n cap))
          have hb := ((((HR1.out.set 0 (.int .i64 (m : Int))).set 1 (.slice (some ⟨g2, 0, none⟩) ps.length cap2)).other ⟨w.heap.size, 0, none⟩ (.int .i64 (m : Int)) (by simp)).other ⟨w.heap.size, 1, none⟩ (.slice (some ⟨g, 0, none⟩) n cap) (by simp))
          have d0 := ha.cell' (v := .int .i64 (m : Int)) 0 rfl
          have d1 := ha.cell' (v := .slice (some ⟨g, 0, none⟩) n cap) 1 rfl
          have d2 := hb.cell' (v := .int .i64 (m : Int)) 0 rfl
          have d3 := hb.cell' (v := .slice (some ⟨g2, 0, none⟩) ps.length cap2) 1 rfl
          simp [results, Try.results54, go_sem, d0, d1, d2, d3, Act.put]
        · exact nats_setB (nats_setB (nats_setB (nats_setB hg3 _ _ _ (by omega)) _ _ _ (by omega)) _ _ _ (by omega)) _ _ _ (by omega)
        · exact nats_setB (nats_setB (nats_setB (nats_setB hn3 _ _ _ (by omega)) _ _ _ (by omega)) _ _ _ (by omega)) _ _ _ (by omega)
        · omega
        · simp only [setCell_size]; omega
        · omega
        · simp only [setCell_size]; omega
        · exact (((hbw3.setCell (by simp) _).setCell (by simp) _).setCell (by simp) _).setCell (by simp) _))
end Go.Proofs.Ytdmgffoikebgkaa
/- TopFewHooks: a set of columns; the contracts that its walk uses. -/
namespace Go.Proofs.Ytdmgffoikebgkaa
open Go.RowKit Go.Shelf
open Go.Maps (Keyed IsMap)
attribute [local go_sem] Oper.semAt_some

theorem Try.tenKeyed : Keyed Try.prog 142 := Keyed.of_law (deep_law_laid (m := 4) (by kernel_rfl) (by decide) (of_decide_eq_true (by kernel_rfl)) (by kernel_rfl) (by kernel_rfl))
/-- ten points -/
def tenV (f : Nat → Bool) : Array Value := #[.bool (f 0), .bool (f 1), .bool (f 2), .bool (f 3), .bool (f 4), .bool (f 5), .bool (f 6), .bool (f 7), .bool (f 8), .bool (f 9)]
def tenL (f : Nat → Bool) : List Bool := [f 0, f 1, f 2, f 3, f 4, f 5, f 6, f 7, f 8, f 9]
theorem tenKey_at (f : Nat → Bool) : ∃ l, keyOf Try.prog 142 (.agg (tenV f)) = some l := by
  have h : (keyOf Try.prog 142 (.agg (tenV f))).isSome = true := by unfold tenV; kernel_rfl
  exact Option.isSome_iff_exists.1 h
theorem tenKey_inj {f g : Nat → Bool} {l l' : Lit} (h1 : keyOf Try.prog 142 (.agg (tenV f)) = some l) (h2 : keyOf Try.prog 142 (.agg (tenV g)) = some l') (h : l = l') : tenL f = tenL g := by
  subst h
  have := Try.tenKeyed.inj h1 h2
  simp [tenV] at this
  simp [tenL, this]
theorem tenL_eq {f g : Nat → Bool} (h : tenL f = tenL g) : tenV f = tenV g := by
  simp [tenL] at h
  simp [tenV, h]
theorem tenL_iff {f g : Nat → Bool} : tenL f = tenL g ↔ ∀ i, i < 10 → f i = g i := by
  constructor
  · intro h i hi
    simp [tenL] at h
    obtain ⟨h0, h1, h2, h3, h4, h5, h6, h7, h8, h9⟩ := h
    match i, hi with
    | 0, _ => exact h0
    | 1, _ => exact h1
    | 2, _ => exact h2
    | 3, _ => exact h3
    | 4, _ => exact h4
    | 5, _ => exact h5
    | 6, _ => exact h6
    | 7, _ => exact h7
    | 8, _ => exact h8
    | 9, _ => exact h9
    | i + 10, hi => omega
  · intro h
    simp [tenL, h 0, h 1, h 2, h 3, h 4, h 5, h 6, h 7, h 8, h 9]
theorem tenV_set (f : Nat → Bool) (p : Nat) (v : Bool) (hp : p < 10) : (tenV f).setIfInBounds p (.bool v) = tenV fun i => if i = p then v else f i := by
  match p, hp with
  | 0, _ => simp [tenV]
  | 1, _ => simp [tenV]
  | 2, _ => simp [tenV]
  | 3, _ => simp [tenV]
  | 4, _ => simp [tenV]
  | 5, _ => simp [tenV]
  | 6, _ => simp [tenV]
  | 7, _ => simp [tenV]
  | 8, _ => simp [tenV]
  | 9, _ => simp [tenV]
  | p + 10, hp => omega
/-- block mb is a set of s columns -/
def AMap (w : World) (mb k s : Nat) (S : List Bool → Bool) : Prop :=
  ∃ D : DataW Nat, w.ownsMap Try.prog 142 (plainElem Try.prog 4) mb k D ∧ Maps.size D = s ∧ ∀ f l, keyOf Try.prog 142 (.agg (tenV f)) = some l → Maps.has D l = S (tenL f)
theorem AMap.made (w : World) : AMap (w.alloc (.map #[] 0)) w.heap.size 0 0 (fun _ => false) := ⟨.map [], World.ownsMap_made w _ _ _, rfl, fun _ _ _ => rfl⟩
theorem AMap.grown {w w' : World} {mb k s : Nat} {S : List Bool → Bool} {row : Option Nat} (h : AMap w mb k s S) (hg : w.grownBy w' row) (hne : some mb ≠ row) : AMap w' mb k s S := by
  obtain ⟨D, h1, h2⟩ := h
  exact ⟨D, h1.kept hg hne, h2⟩
theorem AMap.next {w w' : World} {mb k s : Nat} {S : List Bool → Bool} (h : AMap w mb k s S) (hb : Below w.heap.size w w') : AMap w' mb k s S := h.grown (below_grown hb none) (by simp)
theorem AMap.set {w : World} {mb k s : Nat} {S : List Bool → Bool} (h : AMap w mb k s S) (a : Addr) (v : Value) (ha : mb ≠ a.block) : AMap (w.setCell a v) mb k s S := by
  refine h.grown (row := some a.block) ⟨rfl, rfl, rfl, by simp, fun i _ hi => Below.heap_setCell w a v i (fun e => hi (by rw [e]))⟩ (by simpa using ha)
theorem AMap.lt {w : World} {mb k s : Nat} {S : List Bool → Bool} (h : AMap w mb k s S) : mb < w.heap.size := by
  obtain ⟨D, h1, _⟩ := h; exact h1.lt
theorem AMap.upd {w : World} {mb k s : Nat} {S : List Bool → Bool} (h : AMap w mb k s S) (f : Nat → Bool) (hk : k ≤ 100000) :
    ∃ w', (Instr.mapUpdate 141 (.map (some mb)) (.agg (tenV f)) (.bool true)).run Try.prog w = .ok () w' ∧ AMap w' mb (k + 1) (if S (tenL f) then s else s + 1) (fun x => decide (x = tenL f) || S x) ∧ w.grownBy w' (some mb) := by
  obtain ⟨D, h1, h2, h3⟩ := h
  obtain ⟨l, hl⟩ := tenKey_at f
  obtain ⟨w', hrun, hown, hgrow⟩ := h1.update (val := .bool true) Try.tenKeyed Try.underlying141 (by unfold maxLen; omega) hl (plainElem_bool Try.underlying4 true)
  refine ⟨w', hrun, ⟨_, hown, ?_, fun g l' hl' => ?_⟩, hgrow⟩
  · rw [Maps.size_put (h1.tidy Try.tenKeyed), h3 f l hl, h2]
  · by_cases e : tenL g = tenL f
    · have : l' = l := by
        rw [tenL_eq e, hl] at hl'; exact (Option.some.inj hl').symm
      subst this
      rw [Maps.has_put_same h1.isMap (Try.tenKeyed.key hl)]; simp [e]
    · rw [Maps.has_put_other (fun e2 => e (tenKey_inj hl' hl e2)), h3 g l' hl']; simp [e]
theorem AMap.len {w : World} {mb k s : Nat} {S : List Bool → Bool} (h : AMap w mb k s S) (ty : TypeId) : (Builtin.len_ #[141] ty #[.map (some mb)]).run Try.prog w = .ok (.int .i64 (s : Int)) w := by
  obtain ⟨D, h1, h2, _⟩ := h
  rw [h1.len Try.underlying141 ty, h2]
/-- the set behind k warps -/
def SetK {κ : Type} (key : Nat → κ) (k : Nat) (S : κ → Bool) : Prop := ∀ x, S x = true ↔ ∃ j, j < k ∧ key j = x
theorem SetK.start {κ : Type} (key : Nat → κ) : SetK key 0 fun _ => false := fun x => ⟨fun h => (by cases h), fun ⟨j, h, _⟩ => (by omega)⟩
theorem SetK.step {κ : Type} [DecidableEq κ] {key : Nat → κ} {k : Nat} {S : κ → Bool} (h : SetK key k S) : SetK key (k + 1) (fun x => decide (x = key k) || S x) ∧ cntF key (k + 1) = if S (key k) then cntF key k else cntF key k + 1 := by
  refine ⟨fun x => ?_, ?_⟩
  · rw [Bool.or_eq_true, decide_eq_true_eq, h x]
    constructor
    · rintro (e | ⟨j, h1, h2⟩)
      · exact ⟨k, by omega, e.symm⟩
      · exact ⟨j, by omega, h2⟩
    · rintro ⟨j, h1, h2⟩
      by_cases e : j = k
      · subst e; exact .inl h2.symm
      · exact .inr ⟨j, by omega, h2⟩
  · rw [cntF]
    by_cases hS : S (key k) = true
    · rw [if_pos hS]
      obtain ⟨j, hj, e⟩ := (h _).1 hS
      rw [if_neg (fun e3 => absurd e (fstI_least (key := key) (k := k) (j := j) (by omega)))]
      rfl
    · rw [if_neg hS, if_pos (fstI_of_none fun j hj e => hS ((h _).2 ⟨j, hj, e⟩))]
/-- the cloth of a design, pick by pick -/
def pks (hs xs : List Nat) : List Nat := xs.map (pickP hs)
theorem pks_len (hs xs : List Nat) : (pks hs xs).length = xs.length := by simp [pks]
theorem pks_nth (hs xs : List Nat) {i : Nat} (h : i < xs.length) : nthN (pks hs xs) i = pickP hs (nthN xs i) := by simp [pks, nthN, h]
theorem cloth_cl {W : World} {b : Nat} {hs xs : List Nat} (h : StrsAt W b 0 (clothS hs xs)) (hb : b < W.heap.size) (h0 : 1 ≤ hs.length) (h1 : hs.length ≤ 96) : ClAt W b 0 hs.length (pks hs xs) :=
  ⟨fun i hi => by
    rw [pks_len] at hi
    have := h i (by rw [clothS_len]; exact hi)
    refine ⟨_, ?_, this⟩
    rw [pks_nth hs xs hi]
    have e : nthB (clothS hs xs) i = pickS hs (nthN xs i) := by simp [nthB, clothS, hi]
    rw [e]
    exact pick_strB hs _ h0 h1, hb⟩
theorem colL_iff {ps : List Nat} {a b : Nat} : colL ps a = colL ps b ↔ ∀ i, i < ps.length → bitN (nthN ps i) a = bitN (nthN ps i) b := by
  unfold colL
  constructor
  · intro h i hi
    have := congrArg (fun l => l[i]?) h
    simp [hi] at this
    have h2 := byteP_u8_eq.1 this
    simpa [nthN, hi] using h2
  · intro h
    apply List.ext_getElem?
    intro i
    by_cases hi : i < ps.length
    · simp only [List.getElem?_map, List.getElem?_eq_getElem hi, Option.map_some]
      have := h i hi
      rw [nthN_get _ _ hi] at this
      rw [byteP_u8_eq.2 this]
    · rw [List.getElem?_eq_none (by simp; omega), List.getElem?_eq_none (by simp; omega)]
/-- the points of a hook -/
def tenF (xs : List Nat) (h : Nat) : Nat → Bool := fun i => decide (i < xs.length) && bitN (nthN xs i) h
def tenK (hs xs : List Nat) (w : Nat) : List Bool := tenL (tenF xs (nthN hs w))
theorem ten_col {hs xs : List Nat} (hl : xs.length ≤ 10) {a b : Nat} (ha : a < hs.length) (hb : b < hs.length) : colL (pks hs xs) a = colL (pks hs xs) b ↔ tenK hs xs a = tenK hs xs b := by
  rw [colL_iff, tenK, tenK, tenL_iff, pks_len]
  constructor
  · intro h i _
    unfold tenF
    by_cases hx : i < xs.length
    · have := h i hx
      rw [pks_nth hs xs hx, pickP_bit _ _ _ ha, pickP_bit _ _ _ hb] at this
      rw [this]
    · rw [decide_eq_false hx]; rfl
  · intro h i hx
    have := h i (by omega)
    unfold tenF at this
    rw [decide_eq_true hx, Bool.true_and, Bool.true_and] at this
    rw [pks_nth hs xs hx, pickP_bit _ _ _ ha, pickP_bit _ _ _ hb]
    exact this
theorem ten_cnt {hs xs : List Nat} (hl : xs.length ≤ 10) : cntF (colL (pks hs xs)) hs.length = cntF (tenK hs xs) hs.length := cntF_congr (fun _ _ hi hj => ten_col hl hi hj) _ (Nat.le_refl _)
theorem few_le {hs xs : List Nat} {N : Nat} (hk : ∀ i, i < hs.length → nthN hs i < N) : cntF (colL (pks hs xs)) hs.length ≤ N := by
  refine cntF_le (nthN hs) (fun i j hi hj e => colL_iff.2 fun p hp => ?_) hk
  rw [pks_len] at hp
  rw [pks_nth hs xs hp, pickP_bit _ _ _ hi, pickP_bit _ _ _ hj, e]
/-- the new design weaves each pick of a cloth -/
theorem few_bit {ps : List Nat} {n i : Nat} (hi : i < ps.length) {w : Nat} (hw : w < n) : bitN (drowN (fewL ps n) (nthN ps i) n) (nthN (fewL ps n) w) = bitN (nthN ps i) w := by
  rw [Bool.eq_iff_iff, drowN_bit]
  constructor
  · rintro ⟨j, hj, e, hb⟩
    rw [fewL_nth ps hj, fewL_nth ps hw] at e
    rw [← colL_iff.1 (fewH_inj e) i hi]
    exact hb
  · intro hb
    exact ⟨w, hw, rfl, hb⟩
theorem few_cloth (hs xs : List Nat) : clothS (fewL (pks hs xs) hs.length) (dsnL (fewL (pks hs xs) hs.length) (pks hs xs)) = clothS hs xs := by
  have hl : (dsnL (fewL (pks hs xs) hs.length) (pks hs xs)).length = xs.length := by rw [dsnL_len, pks_len]
  unfold clothS
  rw [hl]
  apply List.map_congr_left
  intro i hi
  rw [List.mem_range] at hi
  have hip : i < (pks hs xs).length := by rw [pks_len]; exact hi
  unfold pickS clothL
  congr 1
  rw [fewL_len]
  apply List.map_congr_left
  intro w hw
  rw [List.mem_range] at hw
  unfold clothB
  rw [dsnL_nth _ _ hip, fewL_len, few_bit hip hw, pks_nth hs xs hi, pickP_bit _ _ _ hw]
theorem few_valid {hs xs : List Nat} {N : Nat} (hk : ∀ i, i < hs.length → nthN hs i < N) (hN : N ≤ 24) (h0 : 1 ≤ hs.length) (hx0 : 1 ≤ xs.length) (hx1 : xs.length ≤ 60) :
    Valid (cntF (colL (pks hs xs)) hs.length) (dsnL (fewL (pks hs xs) hs.length) (pks hs xs)) := by
  refine ⟨cntF_pos h0, Nat.le_trans (few_le hk) hN, by rw [dsnL_len, pks_len]; exact hx0, by rw [dsnL_len, pks_len]; exact hx1, fun i => ?_⟩
  by_cases hi : i < (pks hs xs).length
  · rw [dsnL_nth _ _ hi]
    exact drowN_lt _ _ (fun j hj => by rw [fewL_len] at hj; rw [fewL_nth _ hj]; exact fewH_lt hj) _ (Nat.le_refl _)
  · have : nthN (dsnL (fewL (pks hs xs) hs.length) (pks hs xs)) i = 0 := by
      unfold nthN
      rw [List.getElem?_eq_none (by rw [dsnL_len]; omega)]; rfl
    rw [this]; exact Nat.pow_pos (by decide)
set_option maxHeartbeats 1000000 in
theorem call109 (L b c : Nat) (ss : List ByteArray) (w : World) (hL : ss.length = L) (h0 : 0 < L) (hl : L ≤ 60) (hx : StrsAt w b 0 ss) (hb : b < w.heap.size) :
    Calls Try.prog 109 #[.slice (some ⟨b, 0, none⟩) L c] w fun e w' =>
      ∃ g cap, e = .returned (.slice (some ⟨g, 0, none⟩) L cap) ∧ StrsAt w' g 0 ss ∧ w.heap.size ≤ g ∧ g < w'.heap.size ∧ Below w.heap.size w w' := by
  subst hL
  have hx1 := hx.below ((Below.refl _ _).alloc (Nat.le_refl _) (.cells #[] 9)) hb
  have HX := Lib.hid hx1
  clear hx hx1
  go_enter Try.func109, Try.ntmps109
  go_wp2_with (at_builtin; refine Shut.out ?_)
  unfold Shut
  refine app_copy elemStr rfl _ _ rfl rfl ⟨b, 0, none⟩ ss.length c (ss.map Value.string) rfl (by simp) (by simp [Value.oneCell']) h0 (by omega) (by decide) ?_ ?_
  · intro j u hj
    simp only [List.getElem?_map, Option.map_eq_some_iff] at hj
    obtain ⟨x, hx, rfl⟩ := hj
    have hjl : j < ss.length := (List.getElem?_eq_some_iff.1 hx).1
    have := HX.out j hjl
    rw [nthB, hx] at this
    rw [show (⟨b, 0, none⟩ : Addr).add j = ⟨b, 0 + j, none⟩ by unfold Addr.add; split <;> simp_all]
    exact this
  intro g cap w1 hr hb1
  have Hr := Lib.hid hr
  have Hb1 := Lib.hid hb1
  clear hr hb1
  go_wp2_with fail
  go_ret
  obtain ⟨a, b, d⟩ := strs_of_row Hr.out h0
  exact ⟨g, cap, rfl, a, d, b, Hb1.out⟩
theorem call54 (N T L M b c : Nat) (hs xs : List Nat) (W : World) (hT : hs.length = T) (hL : xs.length = L) (hT0 : 1 ≤ T) (hT1 : T ≤ 96) (hL0 : 1 ≤ L) (hL1 : L ≤ 60) (hN : N ≤ 24) (hk : ∀ i, i < T → nthN hs i < N) (hM : cntF (colL (pks hs xs)) T = M) (hx : StrsAt W b 0 (clothS hs xs)) (hb : b < W.heap.size) :
    Calls Try.prog 54 #[.slice (some ⟨b, 0, none⟩) L c] W fun e w' =>
      ∃ g cap g2 cap2, e = .returned (.tuple #[.agg #[.int .i64 (M : Int), .slice (some ⟨g, 0, none⟩) T cap], .agg #[.int .i64 (M : Int), .slice (some ⟨g2, 0, none⟩) L cap2], .int .i64 0]) ∧
        NatsAt w' g 0 (fewL (pks hs xs) T) ∧ NatsAt w' g2 0 (dsnL (fewL (pks hs xs) T) (pks hs xs)) ∧ W.heap.size ≤ g ∧ g < w'.heap.size ∧ W.heap.size ≤ g2 ∧ g2 < w'.heap.size ∧ Below W.heap.size W w' := by
  subst hT hL hM
  have h := Fewest_any b 0 c hs.length (pks hs xs) W (cloth_cl hx hb hT0 hT1) (by rw [pks_len]; exact hL0) (by rw [pks_len]; exact hL1) hT0 hT1 (Nat.le_trans (few_le hk) hN)
  rw [pks_len] at h
  exact h
end Go.Proofs.Ytdmgffoikebgkaa
/- TopFewHooks: its regions that draw their order. -/
namespace Go.Proofs.Ytdmgffoikebgkaa
open Go.RowKit Go.Shelf
attribute [local go_sem] Oper.semAt_some

theorem call84p (n L g c b cx : Nat) (xs : List Nat) (W : World) (hL : xs.length = L) (hv : Valid n xs) (hc : CardsAt W g (punched xs L)) (hx : NatsAt W b 0 (List.replicate L 1)) (hxb : b < W.heap.size) :
    Calls Try.prog 84 #[.agg #[.int .i64 (n : Int), .slice (some ⟨g, 0, none⟩) L c], .int .i64 0, .slice (some ⟨b, 0, none⟩) L cx] W fun e w' =>
      ∃ (g' cap a : Nat), e = .returned (.tuple #[.slice (some ⟨g', 0, none⟩) L cap, .int .i64 (a : Int), .int .i64 0]) ∧ NatsAt w' g' 0 xs ∧ W.heap.size ≤ g' ∧ g' < w'.heap.size ∧ Below W.heap.size W w' := by
  subst hL
  have l0 := hv.l0
  have l1 := hv.l1
  have hpl := punched_len xs xs.length
  have h := chainWeave_ok n g c 0 b 0 cx (punched xs xs.length) (List.replicate xs.length 1) W ⟨hc, punched_ok hv⟩ (by omega) hx hxb (by simp; omega) (by simp; omega) (fun i => nthN_one3 _ _)
  rw [List.length_replicate, hpl, woven_punched] at h
  refine h.mono ?_
  rintro e w' ⟨v, rfl, h1, h2⟩
  obtain ⟨g', cap, rfl⟩ := row_slice h1 (by omega)
  obtain ⟨a, b, d⟩ := nats_of_row h1 (by omega)
  exact ⟨g', cap, _, rfl, a, d, b, h2⟩
def region_fh1U : List (List Nat) := [[], [1], [], [3], [4], [5], [1, 4], [3, 5]]
def region_fh1X (Z N T L : Nat) (V0 V1 V2 V3 : Value) (HS DS : List Nat) : Nat → (Nat → Hd) → Value
  | 0, _ => .agg #[V0, V1, V2, V3]
  | 1, hds => .agg #[.int .i64 (N : Int), .slice (some ⟨(hds 1).b, 0, none⟩) T (hds 1).c]
  | 2, _ => .agg #[V0, V1, V2, V3]
  | 3, hds => .agg #[.int .i64 (N : Int), .slice (some ⟨(hds 3).b, 0, none⟩) L (hds 3).c]
  | 4, hds => .pointer (some ⟨(hds 4).b, 0, none⟩)
  | 5, hds => .pointer (some ⟨(hds 5).b, 0, none⟩)
  | 6, _ => undef
  | 7, _ => undef
  | _ + 8, _ => undef
theorem region_fh1X.congr (Z N T L : Nat) (V0 V1 V2 V3 : Value) (HS DS : List Nat) : ∀ i hds hds', (∀ r ∈ uOf region_fh1U i, hds r = hds' r) → region_fh1X Z N T L V0 V1 V2 V3 HS DS i hds = region_fh1X Z N T L V0 V1 V2 V3 HS DS i hds'
  | 0, _, _, _ => rfl
  | 1, hds, hds', h => by simp only [region_fh1X, h 1 (show 1 ∈ uOf region_fh1U 1 by decide)]
  | 2, _, _, _ => rfl
  | 3, hds, hds', h => by simp only [region_fh1X, h 3 (show 3 ∈ uOf region_fh1U 3 by decide)]
  | 4, hds, hds', h => by simp only [region_fh1X, h 4 (show 4 ∈ uOf region_fh1U 4 by decide)]
  | 5, hds, hds', h => by simp only [region_fh1X, h 5 (show 5 ∈ uOf region_fh1U 5 by decide)]
  | 6, _, _, _ => rfl
  | 7, _, _, _ => rfl
  | _ + 8, _, _, _ => rfl
def region_fh1M (Z N T L : Nat) (V0 V1 V2 V3 : Value) (HS DS : List Nat) : Nat → Mem
  | 1 => memNats HS
  | 3 => memNats DS
  | 4 => memBox 2 26
  | 5 => memBox 2 37
  | _ => memNone
def region_fh1S (Z N T L : Nat) (V0 V1 V2 V3 : Value) (HS DS : List Nat) : Nat → Option Sto
  | 6 => some ⟨4, 26, fun hds => #[.int .i64 (N : Int), .slice (some ⟨(hds 1).b, 0, none⟩) T (hds 1).c]⟩
  | 7 => some ⟨5, 37, fun hds => #[.int .i64 (N : Int), .slice (some ⟨(hds 3).b, 0, none⟩) L (hds 3).c]⟩
  | _ => none
set_option maxRecDepth 8000 in
set_option maxHeartbeats 2000000 in
theorem region_fh1 {id : Nat} {ops : Array Oper} {Q : Exit → Act → World → Prop} {a : Act} {w : World} (Z N T L : Nat) (V0 V1 V2 V3 : Value) (HS DS : List Nat) (H94 : ∀ W, Below w.heap.size w W → Calls Try.prog 94 #[.agg #[V0, V1, V2, V3]] W (MadeL N T HS W)) (H95 : ∀ W, Below w.heap.size w W → Calls Try.prog 95 #[.agg #[V0, V1, V2, V3]] W (MadeL N L DS W)) (hZ : BoxAt w Z #[V0, V1, V2, V3] 137)
    (gsize : ops.size = 8)
    (gops : IsOp ops 0 (some 21) (.load 137 (.tmp 1)) none [] ∧ IsOp ops 1 (some 22) (.call { callee := .value (.func 94), args := #[.tmp 21], argTypes := #[137] }) none [0] ∧ IsOp ops 2 (some 23) (.load 137 (.tmp 1)) none [] ∧ IsOp ops 3 (some 24) (.call { callee := .value (.func 95), args := #[.tmp 23], argTypes := #[137] }) none [2] ∧ IsOp ops 4 (some 3) (.alloc 26) none [] ∧ IsOp ops 5 (some 4) (.alloc 37) none [] ∧ IsOp ops 6 none (.store 26 (.tmp 3) (.tmp 22)) none [1, 4] ∧ IsOp ops 7 none (.store 37 (.tmp 4) (.tmp 24)) none [3, 5])
    (gbk : backB ops = true) (gds : dstsB ops (dOf [some 21, some 22, some 23, some 24, some 3, some 4, none, none]) = true) (gus : useB ops (uOf region_fh1U) (kOf [0, 1, 0, 1, 1, 1, 6, 7]) = true) (ggd : plainB ops = true) (gsz : ∀ e ∈ [21, 22, 23, 24, 3, 4], e < a.tmps.size)
    (gout : a.eval (.tmp 1) = .pointer (some ⟨Z, 0, none⟩))
    (gend : ∀ (g22 q22 G22 Q22 g24 q24 G24 Q24 g3 q3 G3 Q3 g4 q4 G4 Q4 : Nat) (P22 P24 P3 P4 : Option Addr) (u21 u22 u23 u24 : Value) (W : World), Below w.heap.size w W → (memNats HS).P ⟨g22, q22, G22, Q22, P22⟩ W → (∀ b ∈ (memNats HS).bl ⟨g22, q22, G22, Q22, P22⟩, w.heap.size ≤ b ∧ b < W.heap.size) → (memNats DS).P ⟨g24, q24, G24, Q24, P24⟩ W → (∀ b ∈ (memNats DS).bl ⟨g24, q24, G24, Q24, P24⟩, w.heap.size ≤ b ∧ b < W.heap.size) → w.heap.size ≤ g3 → g3 < W.heap.size → w.heap.size ≤ g4 → g4 < W.heap.size → BoxAt W g3 #[.int .i64 (N : Int), .slice (some ⟨g22, 0, none⟩) T q22] 26 → BoxAt W g4 #[.int .i64 (N : Int), .slice (some ⟨g24, 0, none⟩) L q24] 37 → Q .normal (putL a [(21, u21), (22, u22), (23, u23), (24, u24), (3, .pointer (some ⟨g3, 0, none⟩)), (4, .pointer (some ⟨g4, 0, none⟩))]) W) :
    (Code.region id ops true).wp Try.prog Q a w := by
  obtain ⟨iop0, iop1, iop2, iop3, iop4, iop5, iop6, iop7⟩ := gops
  have o1 := gout
  refine region_all (RSp.of 8 [some 21, some 22, some 23, some 24, some 3, some 4, none, none] (fun _ => true) (region_fh1X Z N T L V0 V1 V2 V3 HS DS) region_fh1U [0, 1, 0, 1, 1, 1, 6, 7] (region_fh1M Z N T L V0 V1 V2 V3 HS DS) (region_fh1S Z N T L V0 V1 V2 V3 HS DS)) [(1, .pointer (some ⟨Z, 0, none⟩))] [21, 22, 23, 24, 3, 4] (RSp.of_fit gsize.symm gbk gds gus ggd (by decide) ?_) (RSp.of_ok _ (region_fh1X.congr Z N T L V0 V1 V2 V3 HS DS) ?_) gsz ?_ ?_ ?_
  · intro p hp
    have hp2 : p ∈ [(6, 4), (7, 5)] := hp
    simp only [List.mem_cons, List.not_mem_nil, or_false] at hp2
    rcases hp2 with rfl | rfl
    · refine ⟨rfl, (show 4 ∈ uOf region_fh1U 6 by decide), fun _ => rfl, fun j hj hm => ?_⟩
      match j, hj, hm with
      | 0, _, _ => rfl
      | 1, _, _ => rfl
      | 2, _, _ => rfl
      | 3, _, _ => rfl
      | 4, _, _ => rfl
      | 5, _, _ => rfl
      | 6, hj, _ => exact absurd rfl hj
      | 7, _, hm => exact absurd hm (by decide)
      | _ + 8, _, _ => rfl
    · refine ⟨rfl, (show 5 ∈ uOf region_fh1U 7 by decide), fun _ => rfl, fun j hj hm => ?_⟩
      match j, hj, hm with
      | 0, _, _ => rfl
      | 1, _, _ => rfl
      | 2, _, _ => rfl
      | 3, _, _ => rfl
      | 4, _, _ => rfl
      | 5, _, _ => rfl
      | 6, _, hm => exact absurd hm (by decide)
      | 7, hj, _ => exact absurd rfl hj
      | _ + 8, _, _ => rfl
  · intro i s hds
    match i, hds with
    | 0, hds => cases hds
    | 1, hds => cases hds
    | 2, hds => cases hds
    | 3, hds => cases hds
    | 4, hds => cases hds
    | 5, hds => cases hds
    | 6, hds =>
      obtain rfl := Option.some.inj hds
      refine ⟨(show 4 ∈ uOf region_fh1U 6 by decide), fun _ => rfl, fun hds hds' h => ?_⟩
      simp only [h 1 (show 1 ∈ uOf region_fh1U 6 by decide)]
    | 7, hds =>
      obtain rfl := Option.some.inj hds
      refine ⟨(show 5 ∈ uOf region_fh1U 7 by decide), fun _ => rfl, fun hds hds' h => ?_⟩
      simp only [h 3 (show 3 ∈ uOf region_fh1U 7 by decide)]
    | _ + 8, hds => cases hds
  · intro q hq
    simp only [List.mem_cons, List.not_mem_nil, or_false] at hq
    subst hq
    · exact ⟨o1, by simp⟩
  · intro i o ho _
    have hi : i < 8 := by rw [← gsize]; exact (Array.getElem?_eq_some_iff.1 ho).1
    match i, hi with
    | 0, _ =>
      obtain ⟨ty, pos, aft, e, hdp⟩ := iop0
      rw [e] at ho
      obtain rfl := Option.some.inj ho
      intro a' hds W K hB lq ld hmem hK
      have e1 : a'.eval (.tmp 1) = .pointer (some ⟨Z, 0, none⟩) := by rw [eval_tmp]; exact lq (1, .pointer (some ⟨Z, 0, none⟩)) (by simp)
      have t1 := (eval_tmp a' 1).symm.trans e1
      have HK := Lib.hid (show K (a'.put (some 21) (.agg #[V0, V1, V2, V3])) W from hK W (Below.refl _ _) trivial)
      clear hK ld lq hmem
      have c0 := (hZ.next hB).cell' 0 rfl
      have c1 := (hZ.next hB).cell' 1 rfl
      have c2 := (hZ.next hB).cell' 2 rfl
      have c3 := (hZ.next hB).cell' 3 rfl
      unfold Oper.wp
      simp only [execOp, e1]
      go_simp
      exact HK.out
    | 1, _ =>
      obtain ⟨ty, pos, aft, e, hdp⟩ := iop1
      rw [e] at ho
      obtain rfl := Option.some.inj ho
      intro a' hds W K hB lq ld hmem hK
      have e21 : a'.eval (.tmp 21) = .agg #[V0, V1, V2, V3] := by rw [eval_tmp]; exact ld 0 21 (List.all_eq_true.1 hdp 0 (by decide)) rfl
      have t21 := (eval_tmp a' 21).symm.trans e21
      have HK := Lib.hid (show ∀ hh W', Below W.heap.size W W' → (memNats HS).P hh W' → (∀ b ∈ (memNats HS).bl hh, W.heap.size ≤ b ∧ b < W'.heap.size) → K (a'.put (some 22) (.agg #[.int .i64 (N : Int), .slice (some ⟨hh.b, 0, none⟩) T hh.c])) W' from fun hh W' h1 h2 h3 => by
        have h4 : K (a'.put (some 22) (region_fh1X Z N T L V0 V1 V2 V3 HS DS 1 (updH hds 1 hh))) W' := hK hh W' h1 h2 h3 trivial
        simp only [region_fh1X, updH_same] at h4
        exact h4)
      clear hK ld lq hmem
      refine step_call (vals := #[.agg #[V0, V1, V2, V3]]) (by exact ⟨_, _, Try.func94, by kernel_rfl, rfl⟩) (by simp only [List.map_toArray, List.map_cons, List.map_nil, e21]) (H94 W hB) ?_
      rintro e w' ⟨g, cap, rfl, hn, hl, hg, hb'⟩
      exact ⟨_, rfl, HK.out ⟨g, cap, 0, 0, none⟩ _ hb' ⟨hn, hg⟩ (bd_one hl hg)⟩
    | 2, _ =>
      obtain ⟨ty, pos, aft, e, hdp⟩ := iop2
      rw [e] at ho
      obtain rfl := Option.some.inj ho
      intro a' hds W K hB lq ld hmem hK
      have e1 : a'.eval (.tmp 1) = .pointer (some ⟨Z, 0, none⟩) := by rw [eval_tmp]; exact lq (1, .pointer (some ⟨Z, 0, none⟩)) (by simp)
      have t1 := (eval_tmp a' 1).symm.trans e1
      have HK := Lib.hid (show K (a'.put (some 23) (.agg #[V0, V1, V2, V3])) W from hK W (Below.refl _ _) trivial)
      clear hK ld lq hmem
      have c0 := (hZ.next hB).cell' 0 rfl
      have c1 := (hZ.next hB).cell' 1 rfl
      have c2 := (hZ.next hB).cell' 2 rfl
      have c3 := (hZ.next hB).cell' 3 rfl
      unfold Oper.wp
      simp only [execOp, e1]
      go_simp
      exact HK.out
    | 3, _ =>
      obtain ⟨ty, pos, aft, e, hdp⟩ := iop3
      rw [e] at ho
      obtain rfl := Option.some.inj ho
      intro a' hds W K hB lq ld hmem hK
      have e23 : a'.eval (.tmp 23) = .agg #[V0, V1, V2, V3] := by rw [eval_tmp]; exact ld 2 23 (List.all_eq_true.1 hdp 2 (by decide)) rfl
      have t23 := (eval_tmp a' 23).symm.trans e23
      have HK := Lib.hid (show ∀ hh W', Below W.heap.size W W' → (memNats DS).P hh W' → (∀ b ∈ (memNats DS).bl hh, W.heap.size ≤ b ∧ b < W'.heap.size) → K (a'.put (some 24) (.agg #[.int .i64 (N : Int), .slice (some ⟨hh.b, 0, none⟩) L hh.c])) W' from fun hh W' h1 h2 h3 => by
        have h4 : K (a'.put (some 24) (region_fh1X Z N T L V0 V1 V2 V3 HS DS 3 (updH hds 3 hh))) W' := hK hh W' h1 h2 h3 trivial
        simp only [region_fh1X, updH_same] at h4
        exact h4)
      clear hK ld lq hmem
      refine step_call (vals := #[.agg #[V0, V1, V2, V3]]) (by exact ⟨_, _, Try.func95, by kernel_rfl, rfl⟩) (by simp only [List.map_toArray, List.map_cons, List.map_nil, e23]) (H95 W hB) ?_
      rintro e w' ⟨g, cap, rfl, hn, hl, hg, hb'⟩
      exact ⟨_, rfl, HK.out ⟨g, cap, 0, 0, none⟩ _ hb' ⟨hn, hg⟩ (bd_one hl hg)⟩
    | 4, _ =>
      obtain ⟨ty, pos, aft, e, hdp⟩ := iop4
      rw [e] at ho
      obtain rfl := Option.some.inj ho
      intro a' hds W K hB lq ld hmem hK
      have HK := Lib.hid (show ∀ hh W', Below W.heap.size W W' → (memBox 2 26).P hh W' → (∀ b ∈ (memBox 2 26).bl hh, W.heap.size ≤ b ∧ b < W'.heap.size) → K (a'.put (some 3) (.pointer (some ⟨hh.b, 0, none⟩))) W' from fun hh W' h1 h2 h3 => by
        have h4 : K (a'.put (some 3) (region_fh1X Z N T L V0 V1 V2 V3 HS DS 4 (updH hds 4 hh))) W' := hK hh W' h1 h2 h3 trivial
        simp only [region_fh1X, updH_same] at h4
        exact h4)
      clear hK ld lq hmem
      have hfin := Lib.hid (HK.out ⟨W.heap.size, 0, 0, 0, none⟩ _ ((Below.refl _ _).alloc (Nat.le_refl _) (.cells #[.int .i64 0, .slice none 0 0] 26)) ⟨_, rfl, BoxAt.new W #[.int .i64 0, .slice none 0 0] 26⟩ (bd_one (Nat.le_refl _) (by simp)))
      clear HK
      unfold Oper.wp
      simp only [execOp]
      go_simp
      exact hfin.out
    | 5, _ =>
      obtain ⟨ty, pos, aft, e, hdp⟩ := iop5
      rw [e] at ho
      obtain rfl := Option.some.inj ho
      intro a' hds W K hB lq ld hmem hK
      have HK := Lib.hid (show ∀ hh W', Below W.heap.size W W' → (memBox 2 37).P hh W' → (∀ b ∈ (memBox 2 37).bl hh, W.heap.size ≤ b ∧ b < W'.heap.size) → K (a'.put (some 4) (.pointer (some ⟨hh.b, 0, none⟩))) W' from fun hh W' h1 h2 h3 => by
        have h4 : K (a'.put (some 4) (region_fh1X Z N T L V0 V1 V2 V3 HS DS 5 (updH hds 5 hh))) W' := hK hh W' h1 h2 h3 trivial
        simp only [region_fh1X, updH_same] at h4
        exact h4)
      clear hK ld lq hmem
      have hfin := Lib.hid (HK.out ⟨W.heap.size, 0, 0, 0, none⟩ _ ((Below.refl _ _).alloc (Nat.le_refl _) (.cells #[.int .i64 0, .slice none 0 0] 37)) ⟨_, rfl, BoxAt.new W #[.int .i64 0, .slice none 0 0] 37⟩ (bd_one (Nat.le_refl _) (by simp)))
      clear HK
      unfold Oper.wp
      simp only [execOp]
      go_simp
      exact hfin.out
    | 6, _ =>
      obtain ⟨ty, pos, aft, e, hdp⟩ := iop6
      rw [e] at ho
      obtain rfl := Option.some.inj ho
      intro a' hds W K hB lq ld hmem hK
      have e3 : a'.eval (.tmp 3) = .pointer (some ⟨(hds 4).b, 0, none⟩) := by rw [eval_tmp]; exact ld 4 3 (List.all_eq_true.1 hdp 4 (by decide)) rfl
      have t3 := (eval_tmp a' 3).symm.trans e3
      have e22 : a'.eval (.tmp 22) = .agg #[.int .i64 (N : Int), .slice (some ⟨(hds 1).b, 0, none⟩) T (hds 1).c] := by rw [eval_tmp]; exact ld 1 22 (List.all_eq_true.1 hdp 1 (by decide)) rfl
      have t22 := (eval_tmp a' 22).symm.trans e22
      obtain ⟨⟨vs, hvs, hbx⟩, _⟩ := hmem 4 (show 4 ∈ uOf region_fh1U 6 by decide) (by decide)
      have hvl : vs.toList.length = 2 := by simpa using hvs
      obtain ⟨v0, v1, rfl⟩ : ∃ v0 v1, vs = #[v0, v1] := by
        cases vs with
        | mk l =>
          match l, hvl with
          | [v0, v1], _ => exact ⟨_, _, rfl⟩
      have HK := Lib.hid (show ∀ W', SetAt (hds 4).b W W' → (memBox 2 26).P (hds 4) W' → BoxAt W' (hds 4).b #[.int .i64 (N : Int), .slice (some ⟨(hds 1).b, 0, none⟩) T (hds 1).c] 26 → K a' W' from hK)
      clear hK ld lq hmem
      have hfin := Lib.hid (HK.out _ (((SetAt.refl (hds 4).b W).cell 0 (.int .i64 (N : Int))).cell 1 (.slice (some ⟨(hds 1).b, 0, none⟩) T (hds 1).c)) ⟨_, rfl, ((hbx).set 0 (.int .i64 (N : Int))).set 1 (.slice (some ⟨(hds 1).b, 0, none⟩) T (hds 1).c)⟩ (((hbx).set 0 (.int .i64 (N : Int))).set 1 (.slice (some ⟨(hds 1).b, 0, none⟩) T (hds 1).c)))
      have c0 := hbx.cell' 0 rfl
      have f0 := hbx.frozen 0
      have c1 := hbx.cell' 1 rfl
      have f1 := hbx.frozen 1
      have hlt := hbx.lt
      clear hbx hvl hvs HK
      generalize (hds 4).b = B at *
      unfold Oper.wp
      simp only [execOp, e3, e22]
      clear e3 e22
      go_simp
      exact hfin.out
    | 7, _ =>
      obtain ⟨ty, pos, aft, e, hdp⟩ := iop7
      rw [e] at ho
      obtain rfl := Option.some.inj ho
      intro a' hds W K hB lq ld hmem hK
      have e4 : a'.eval (.tmp 4) = .pointer (some ⟨(hds 5).b, 0, none⟩) := by rw [eval_tmp]; exact ld 5 4 (List.all_eq_true.1 hdp 5 (by decide)) rfl
      have t4 := (eval_tmp a' 4).symm.trans e4
      have e24 : a'.eval (.tmp 24) = .agg #[.int .i64 (N : Int), .slice (some ⟨(hds 3).b, 0, none⟩) L (hds 3).c] := by rw [eval_tmp]; exact ld 3 24 (List.all_eq_true.1 hdp 3 (by decide)) rfl
      have t24 := (eval_tmp a' 24).symm.trans e24
      obtain ⟨⟨vs, hvs, hbx⟩, _⟩ := hmem 5 (show 5 ∈ uOf region_fh1U 7 by decide) (by decide)
      have hvl : vs.toList.length = 2 := by simpa using hvs
      obtain ⟨v0, v1, rfl⟩ : ∃ v0 v1, vs = #[v0, v1] := by
        cases vs with
        | mk l =>
          match l, hvl with
          | [v0, v1], _ => exact ⟨_, _, rfl⟩
      have HK := Lib.hid (show ∀ W', SetAt (hds 5).b W W' → (memBox 2 37).P (hds 5) W' → BoxAt W' (hds 5).b #[.int .i64 (N : Int), .slice (some ⟨(hds 3).b, 0, none⟩) L (hds 3).c] 37 → K a' W' from hK)
      clear hK ld lq hmem
      have hfin := Lib.hid (HK.out _ (((SetAt.refl (hds 5).b W).cell 0 (.int .i64 (N : Int))).cell 1 (.slice (some ⟨(hds 3).b, 0, none⟩) L (hds 3).c)) ⟨_, rfl, ((hbx).set 0 (.int .i64 (N : Int))).set 1 (.slice (some ⟨(hds 3).b, 0, none⟩) L (hds 3).c)⟩ (((hbx).set 0 (.int .i64 (N : Int))).set 1 (.slice (some ⟨(hds 3).b, 0, none⟩) L (hds 3).c)))
      have c0 := hbx.cell' 0 rfl
      have f0 := hbx.frozen 0
      have c1 := hbx.cell' 1 rfl
      have f1 := hbx.frozen 1
      have hlt := hbx.lt
      clear hbx hvl hvs HK
      generalize (hds 5).b = B at *
      unfold Oper.wp
      simp only [execOp, e4, e24]
      clear e4 e24
      go_simp
      exact hfin.out
    | i + 8, h => omega
  · intro hds v W hO
    have hfin := gend (hds 1).b (hds 1).c (hds 1).b2 (hds 1).c2 (hds 3).b (hds 3).c (hds 3).b2 (hds 3).c2 (hds 4).b (hds 4).c (hds 4).b2 (hds 4).c2 (hds 5).b (hds 5).c (hds 5).b2 (hds 5).c2 (hds 1).p (hds 3).p (hds 4).p (hds 5).p (v 21) (v 22) (v 23) (v 24) W hO.b (hO.m 1 (by show 1 < 8; decide) rfl).1 (hO.m 1 (by show 1 < 8; decide) rfl).2 (hO.m 3 (by show 3 < 8; decide) rfl).1 (hO.m 3 (by show 3 < 8; decide) rfl).2 ((hO.m 4 (by show 4 < 8; decide) rfl).2 _ (by show _ ∈ [_]; simp)).1 ((hO.m 4 (by show 4 < 8; decide) rfl).2 _ (by show _ ∈ [_]; simp)).2 ((hO.m 5 (by show 5 < 8; decide) rfl).2 _ (by show _ ∈ [_]; simp)).1 ((hO.m 5 (by show 5 < 8; decide) rfl).2 _ (by show _ ∈ [_]; simp)).2 (hO.s 6 (by show 6 < 8; decide) rfl) (hO.s 7 (by show 7 < 8; decide) rfl)
    rw [← laid_putL _ a v ?_] at hfin
    · exact hfin
    · intro p hp
      simp only [List.mem_cons, List.not_mem_nil, or_false] at hp
      rcases hp with rfl | rfl | rfl | rfl | rfl | rfl
      · rfl
      · rfl
      · rfl
      · rfl
      · exact hO.x 4 (show 4 < 8 by decide) 3 rfl
      · exact hO.x 5 (show 5 < 8 by decide) 4 rfl
def region_fh2U : List (List Nat) := [[], [1], [], [3], [1, 3, 4], [1, 3, 4], [1, 3, 4], [1, 3, 4], [1, 3, 4], [1, 3, 4]]
def region_fh2X (N L g2 q2 D gh qh E T : Nat) (DS HS : List Nat) : Nat → (Nat → Hd) → Value
  | 0, _ => .agg #[.int .i64 (N : Int), .slice (some ⟨gh, 0, none⟩) T qh]
  | 1, hds => .agg #[.int .i64 (N : Int), .slice (some ⟨(hds 1).b, 0, none⟩) T (hds 1).c]
  | 2, _ => .agg #[.int .i64 (N : Int), .slice (some ⟨g2, 0, none⟩) L q2]
  | 3, hds => .agg #[.int .i64 (N : Int), .slice (some ⟨(hds 3).b, 0, none⟩) L (hds 3).c]
  | 4, hds => .tuple #[.slice (some ⟨(hds 4).b, 0, none⟩) L (hds 4).c, .int .i64 0]
  | 5, hds => .tuple #[.slice (some ⟨(hds 4).b, 0, none⟩) L (hds 4).c, .int .i64 0]
  | 6, hds => .slice (some ⟨(hds 4).b, 0, none⟩) L (hds 4).c
  | 7, _ => .int .i64 0
  | 8, hds => .slice (some ⟨(hds 4).b, 0, none⟩) L (hds 4).c
  | 9, _ => .int .i64 0
  | _ + 10, _ => undef
theorem region_fh2X.congr (N L g2 q2 D gh qh E T : Nat) (DS HS : List Nat) : ∀ i hds hds', (∀ r ∈ uOf region_fh2U i, hds r = hds' r) → region_fh2X N L g2 q2 D gh qh E T DS HS i hds = region_fh2X N L g2 q2 D gh qh E T DS HS i hds'
  | 0, _, _, _ => rfl
  | 1, hds, hds', h => by simp only [region_fh2X, h 1 (show 1 ∈ uOf region_fh2U 1 by decide)]
  | 2, _, _, _ => rfl
  | 3, hds, hds', h => by simp only [region_fh2X, h 3 (show 3 ∈ uOf region_fh2U 3 by decide)]
  | 4, hds, hds', h => by simp only [region_fh2X, h 4 (show 4 ∈ uOf region_fh2U 4 by decide)]
  | 5, hds, hds', h => by simp only [region_fh2X, h 4 (show 4 ∈ uOf region_fh2U 5 by decide)]
  | 6, hds, hds', h => by simp only [region_fh2X, h 4 (show 4 ∈ uOf region_fh2U 6 by decide)]
  | 7, _, _, _ => rfl
  | 8, hds, hds', h => by simp only [region_fh2X, h 4 (show 4 ∈ uOf region_fh2U 8 by decide)]
  | 9, _, _, _ => rfl
  | _ + 10, _, _, _ => rfl
def region_fh2M (N L g2 q2 D gh qh E T : Nat) (DS HS : List Nat) : Nat → Mem
  | 1 => memNats HS
  | 3 => memNats DS
  | 4 => memStrs (clothS HS DS)
  | _ => memNone
def region_fh2S (N L g2 q2 D gh qh E T : Nat) (DS HS : List Nat) : Nat → Option Sto
  | _ => none
set_option maxRecDepth 8000 in
set_option maxHeartbeats 2000000 in
theorem region_fh2 {id : Nat} {ops : Array Oper} {Q : Exit → Act → World → Prop} {a : Act} {w : World} (N L g2 q2 D gh qh E T : Nat) (DS HS : List Nat) (hDl : DS.length = L) (hVd : Valid N DS) (hn2 : NatsAt w g2 0 DS) (hg2 : g2 < w.heap.size) (hTl : HS.length = T) (hT0 : 1 ≤ T) (hT1 : T ≤ 96) (hn6 : NatsAt w gh 0 HS) (hg6 : gh < w.heap.size) (hk : ∀ i, i < T → nthN HS i < N) (hD : BoxAt w D #[.int .i64 (N : Int), .slice (some ⟨g2, 0, none⟩) L q2] 37) (hE : BoxAt w E #[.int .i64 (N : Int), .slice (some ⟨gh, 0, none⟩) T qh] 26)
    (gsize : ops.size = 10)
    (gops : IsOp ops 0 (some 26) (.load 26 (.tmp 3)) none [] ∧ IsOp ops 1 (some 27) (.call { callee := .value (.func 100), args := #[.tmp 26], argTypes := #[26] }) none [0] ∧ IsOp ops 2 (some 28) (.load 37 (.tmp 4)) none [] ∧ IsOp ops 3 (some 29) (.call { callee := .value (.func 96), args := #[.tmp 28], argTypes := #[37] }) none [2] ∧ IsOp ops 4 (some 30) (.call { callee := .value (.func 38), args := #[.tmp 27, .tmp 29], argTypes := #[26, 37] }) none [1, 3] ∧ IsOp ops 5 (some 25) (.move (.tmp 30)) none [4] ∧ IsOp ops 6 (some 31) (.extract (.tmp 25) 0) none [5] ∧ IsOp ops 7 (some 32) (.extract (.tmp 25) 1) none [5] ∧ IsOp ops 8 (some 5) (.assign (.tmp 31)) none [6] ∧ IsOp ops 9 (some 6) (.assign (.tmp 32)) none [7])
    (gbk : backB ops = true) (gds : dstsB ops (dOf [some 26, some 27, some 28, some 29, some 30, some 25, some 31, some 32, some 5, some 6]) = true) (gus : useB ops (uOf region_fh2U) (kOf [0, 1, 0, 1, 1, 0, 0, 0, 0, 0]) = true) (ggd : plainB ops = true) (gsz : ∀ e ∈ [26, 27, 28, 29, 30, 25, 31, 32, 5, 6], e < a.tmps.size)
    (gout : a.eval (.tmp 3) = .pointer (some ⟨E, 0, none⟩) ∧ a.eval (.tmp 4) = .pointer (some ⟨D, 0, none⟩))
    (gend : ∀ (g27 q27 G27 Q27 g29 q29 G29 Q29 g30 q30 G30 Q30 : Nat) (P27 P29 P30 : Option Addr) (u26 u27 u28 u29 u30 u25 u31 u32 : Value) (W : World), Below w.heap.size w W → (memNats HS).P ⟨g27, q27, G27, Q27, P27⟩ W → (∀ b ∈ (memNats HS).bl ⟨g27, q27, G27, Q27, P27⟩, w.heap.size ≤ b ∧ b < W.heap.size) → (memNats DS).P ⟨g29, q29, G29, Q29, P29⟩ W → (∀ b ∈ (memNats DS).bl ⟨g29, q29, G29, Q29, P29⟩, w.heap.size ≤ b ∧ b < W.heap.size) → (memStrs (clothS HS DS)).P ⟨g30, q30, G30, Q30, P30⟩ W → (∀ b ∈ (memStrs (clothS HS DS)).bl ⟨g30, q30, G30, Q30, P30⟩, w.heap.size ≤ b ∧ b < W.heap.size) → Q .normal (putL a [(26, u26), (27, u27), (28, u28), (29, u29), (30, u30), (25, u25), (31, u31), (32, u32), (5, .slice (some ⟨g30, 0, none⟩) L q30), (6, .int .i64 0)]) W) :
    (Code.region id ops true).wp Try.prog Q a w := by
  obtain ⟨iop0, iop1, iop2, iop3, iop4, iop5, iop6, iop7, iop8, iop9⟩ := gops
  obtain ⟨o3, o4⟩ := gout
  refine region_all (RSp.of 10 [some 26, some 27, some 28, some 29, some 30, some 25, some 31, some 32, some 5, some 6] (fun _ => true) (region_fh2X N L g2 q2 D gh qh E T DS HS) region_fh2U [0, 1, 0, 1, 1, 0, 0, 0, 0, 0] (region_fh2M N L g2 q2 D gh qh E T DS HS) (region_fh2S N L g2 q2 D gh qh E T DS HS)) [(3, .pointer (some ⟨E, 0, none⟩)), (4, .pointer (some ⟨D, 0, none⟩))] [26, 27, 28, 29, 30, 25, 31, 32, 5, 6] (RSp.of_fit gsize.symm gbk gds gus ggd (by decide) ?_) (RSp.of_ok _ (region_fh2X.congr N L g2 q2 D gh qh E T DS HS) ?_) gsz ?_ ?_ ?_
  · intro p hp
    have hp2 : p ∈ ([] : List (Nat × Nat)) := hp
    cases hp2
  · intro i s hds
    match i, hds with
    | 0, hds => cases hds
    | 1, hds => cases hds
    | 2, hds => cases hds
    | 3, hds => cases hds
    | 4, hds => cases hds
    | 5, hds => cases hds
    | 6, hds => cases hds
    | 7, hds => cases hds
    | 8, hds => cases hds
    | 9, hds => cases hds
    | _ + 10, hds => cases hds
  · intro q hq
    simp only [List.mem_cons, List.not_mem_nil, or_false] at hq
    rcases hq with rfl | rfl
    · exact ⟨o3, by simp⟩
    · exact ⟨o4, by simp⟩
  · intro i o ho _
    have hi : i < 10 := by rw [← gsize]; exact (Array.getElem?_eq_some_iff.1 ho).1
    match i, hi with
    | 0, _ =>
      obtain ⟨ty, pos, aft, e, hdp⟩ := iop0
      rw [e] at ho
      obtain rfl := Option.some.inj ho
      intro a' hds W K hB lq ld hmem hK
      have e3 : a'.eval (.tmp 3) = .pointer (some ⟨E, 0, none⟩) := by rw [eval_tmp]; exact lq (3, .pointer (some ⟨E, 0, none⟩)) (by simp)
      have t3 := (eval_tmp a' 3).symm.trans e3
      have HK := Lib.hid (show K (a'.put (some 26) (.agg #[.int .i64 (N : Int), .slice (some ⟨gh, 0, none⟩) T qh])) W from hK W (Below.refl _ _) trivial)
      clear hK ld lq hmem
      have c0 := (hE.next hB).cell' 0 rfl
      have c1 := (hE.next hB).cell' 1 rfl
      unfold Oper.wp
      simp only [execOp, e3]
      go_simp
      exact HK.out
    | 1, _ =>
      obtain ⟨ty, pos, aft, e, hdp⟩ := iop1
      rw [e] at ho
      obtain rfl := Option.some.inj ho
      intro a' hds W K hB lq ld hmem hK
      have e26 : a'.eval (.tmp 26) = .agg #[.int .i64 (N : Int), .slice (some ⟨gh, 0, none⟩) T qh] := by rw [eval_tmp]; exact ld 0 26 (List.all_eq_true.1 hdp 0 (by decide)) rfl
      have t26 := (eval_tmp a' 26).symm.trans e26
      have HK := Lib.hid (show ∀ hh W', Below W.heap.size W W' → (memNats HS).P hh W' → (∀ b ∈ (memNats HS).bl hh, W.heap.size ≤ b ∧ b < W'.heap.size) → K (a'.put (some 27) (.agg #[.int .i64 (N : Int), .slice (some ⟨hh.b, 0, none⟩) T hh.c])) W' from fun hh W' h1 h2 h3 => by
        have h4 : K (a'.put (some 27) (region_fh2X N L g2 q2 D gh qh E T DS HS 1 (updH hds 1 hh))) W' := hK hh W' h1 h2 h3 trivial
        simp only [region_fh2X, updH_same] at h4
        exact h4)
      clear hK ld lq hmem
      refine step_call (vals := #[.agg #[.int .i64 (N : Int), .slice (some ⟨gh, 0, none⟩) T qh]]) (by exact ⟨_, _, Try.func100, by kernel_rfl, rfl⟩) (by simp only [List.map_toArray, List.map_cons, List.map_nil, e26]) (call100 N T gh qh HS W hTl hT0 hT1 (hn6.below hB hg6) (Nat.lt_of_lt_of_le hg6 hB.size)) ?_
      rintro e w' ⟨g, cap, rfl, hn, hl, hg, hb'⟩
      exact ⟨_, rfl, HK.out ⟨g, cap, 0, 0, none⟩ _ hb' ⟨hn, hg⟩ (bd_one hl hg)⟩
    | 2, _ =>
      obtain ⟨ty, pos, aft, e, hdp⟩ := iop2
      rw [e] at ho
      obtain rfl := Option.some.inj ho
      intro a' hds W K hB lq ld hmem hK
      have e4 : a'.eval (.tmp 4) = .pointer (some ⟨D, 0, none⟩) := by rw [eval_tmp]; exact lq (4, .pointer (some ⟨D, 0, none⟩)) (by simp)
      have t4 := (eval_tmp a' 4).symm.trans e4
      have HK := Lib.hid (show K (a'.put (some 28) (.agg #[.int .i64 (N : Int), .slice (some ⟨g2, 0, none⟩) L q2])) W from hK W (Below.refl _ _) trivial)
      clear hK ld lq hmem
      have c0 := (hD.next hB).cell' 0 rfl
      have c1 := (hD.next hB).cell' 1 rfl
      unfold Oper.wp
      simp only [execOp, e4]
      go_simp
      exact HK.out
    | 3, _ =>
      obtain ⟨ty, pos, aft, e, hdp⟩ := iop3
      rw [e] at ho
      obtain rfl := Option.some.inj ho
      intro a' hds W K hB lq ld hmem hK
      have e28 : a'.eval (.tmp 28) = .agg #[.int .i64 (N : Int), .slice (some ⟨g2, 0, none⟩) L q2] := by rw [eval_tmp]; exact ld 2 28 (List.all_eq_true.1 hdp 2 (by decide)) rfl
      have t28 := (eval_tmp a' 28).symm.trans e28
      have HK := Lib.hid (show ∀ hh W', Below W.heap.size W W' → (memNats DS).P hh W' → (∀ b ∈ (memNats DS).bl hh, W.heap.size ≤ b ∧ b < W'.heap.size) → K (a'.put (some 29) (.agg #[.int .i64 (N : Int), .slice (some ⟨hh.b, 0, none⟩) L hh.c])) W' from fun hh W' h1 h2 h3 => by
        have h4 : K (a'.put (some 29) (region_fh2X N L g2 q2 D gh qh E T DS HS 3 (updH hds 3 hh))) W' := hK hh W' h1 h2 h3 trivial
        simp only [region_fh2X, updH_same] at h4
        exact h4)
      clear hK ld lq hmem
      refine step_call (vals := #[.agg #[.int .i64 (N : Int), .slice (some ⟨g2, 0, none⟩) L q2]]) (by exact ⟨_, _, Try.func96, by kernel_rfl, rfl⟩) (by simp only [List.map_toArray, List.map_cons, List.map_nil, e28]) (call96 N L g2 q2 DS W hDl hVd (hn2.below hB hg2) (Nat.lt_of_lt_of_le hg2 hB.size)) ?_
      rintro e w' ⟨g, cap, rfl, hn, hl, hg, hb'⟩
      exact ⟨_, rfl, HK.out ⟨g, cap, 0, 0, none⟩ _ hb' ⟨hn, hg⟩ (bd_one hl hg)⟩
    | 4, _ =>
      obtain ⟨ty, pos, aft, e, hdp⟩ := iop4
      rw [e] at ho
      obtain rfl := Option.some.inj ho
      intro a' hds W K hB lq ld hmem hK
      have e27 : a'.eval (.tmp 27) = .agg #[.int .i64 (N : Int), .slice (some ⟨(hds 1).b, 0, none⟩) T (hds 1).c] := by rw [eval_tmp]; exact ld 1 27 (List.all_eq_true.1 hdp 1 (by decide)) rfl
      have t27 := (eval_tmp a' 27).symm.trans e27
      have e29 : a'.eval (.tmp 29) = .agg #[.int .i64 (N : Int), .slice (some ⟨(hds 3).b, 0, none⟩) L (hds 3).c] := by rw [eval_tmp]; exact ld 3 29 (List.all_eq_true.1 hdp 3 (by decide)) rfl
      have t29 := (eval_tmp a' 29).symm.trans e29
      have HK := Lib.hid (show ∀ hh W', Below W.heap.size W W' → (memStrs (clothS HS DS)).P hh W' → (∀ b ∈ (memStrs (clothS HS DS)).bl hh, W.heap.size ≤ b ∧ b < W'.heap.size) → K (a'.put (some 30) (.tuple #[.slice (some ⟨hh.b, 0, none⟩) L hh.c, .int .i64 0])) W' from fun hh W' h1 h2 h3 => by
        have h4 : K (a'.put (some 30) (region_fh2X N L g2 q2 D gh qh E T DS HS 4 (updH hds 4 hh))) W' := hK hh W' h1 h2 h3 trivial
        simp only [region_fh2X, updH_same] at h4
        exact h4)
      have m27   := (hmem 1 (show 1 ∈ uOf region_fh2U 4 by decide) (by decide)).1
      have m29   := (hmem 3 (show 3 ∈ uOf region_fh2U 4 by decide) (by decide)).1
      clear hK ld lq hmem
      refine step_call (vals := #[.agg #[.int .i64 (N : Int), .slice (some ⟨(hds 1).b, 0, none⟩) T (hds 1).c], .agg #[.int .i64 (N : Int), .slice (some ⟨(hds 3).b, 0, none⟩) L (hds 3).c]]) (by exact ⟨_, _, Try.func38, by kernel_rfl, rfl⟩) (by simp only [List.map_toArray, List.map_cons, List.map_nil, e27, e29]) (call38 N T L (hds 1).b (hds 1).c (hds 3).b (hds 3).c HS DS W hTl hDl hT0 hT1 hk hVd m27.1 m27.2 m29.1 m29.2) ?_
      rintro e w' ⟨g, cap, rfl, hn, hl, hg, hb'⟩
      exact ⟨_, rfl, HK.out ⟨g, cap, 0, 0, none⟩ _ hb' ⟨hn, hg⟩ (bd_one hl hg)⟩
    | 5, _ =>
      obtain ⟨ty, pos, aft, e, hdp⟩ := iop5
      rw [e] at ho
      obtain rfl := Option.some.inj ho
      intro a' hds W K hB lq ld hmem hK
      have e30 : a'.eval (.tmp 30) = .tuple #[.slice (some ⟨(hds 4).b, 0, none⟩) L (hds 4).c, .int .i64 0] := by rw [eval_tmp]; exact ld 4 30 (List.all_eq_true.1 hdp 4 (by decide)) rfl
      have t30 := (eval_tmp a' 30).symm.trans e30
      have HK := Lib.hid (show K (a'.put (some 25) (.tuple #[.slice (some ⟨(hds 4).b, 0, none⟩) L (hds 4).c, .int .i64 0])) W from hK W (Below.refl _ _) trivial)
      clear hK ld lq hmem
      unfold Oper.wp
      simp only [execOp, e30]
      exact HK.out
    | 6, _ =>
      obtain ⟨ty, pos, aft, e, hdp⟩ := iop6
      rw [e] at ho
      obtain rfl := Option.some.inj ho
      intro a' hds W K hB lq ld hmem hK
      have e25 : a'.eval (.tmp 25) = .tuple #[.slice (some ⟨(hds 4).b, 0, none⟩) L (hds 4).c, .int .i64 0] := by rw [eval_tmp]; exact ld 5 25 (List.all_eq_true.1 hdp 5 (by decide)) rfl
      have t25 := (eval_tmp a' 25).symm.trans e25
      have HK := Lib.hid (show K (a'.put (some 31) (.slice (some ⟨(hds 4).b, 0, none⟩) L (hds 4).c)) W from hK W (Below.refl _ _) trivial)
      clear hK ld lq hmem
      unfold Oper.wp
      simp only [execOp, e25]
      exact HK.out
    | 7, _ =>
      obtain ⟨ty, pos, aft, e, hdp⟩ := iop7
      rw [e] at ho
      obtain rfl := Option.some.inj ho
      intro a' hds W K hB lq ld hmem hK
      have e25 : a'.eval (.tmp 25) = .tuple #[.slice (some ⟨(hds 4).b, 0, none⟩) L (hds 4).c, .int .i64 0] := by rw [eval_tmp]; exact ld 5 25 (List.all_eq_true.1 hdp 5 (by decide)) rfl
      have t25 := (eval_tmp a' 25).symm.trans e25
      have HK := Lib.hid (show K (a'.put (some 32) (.int .i64 0)) W from hK W (Below.refl _ _) trivial)
      clear hK ld lq hmem
      unfold Oper.wp
      simp only [execOp, e25]
      exact HK.out
    | 8, _ =>
      obtain ⟨ty, pos, aft, e, hdp⟩ := iop8
      rw [e] at ho
      obtain rfl := Option.some.inj ho
      intro a' hds W K hB lq ld hmem hK
      have e31 : a'.eval (.tmp 31) = .slice (some ⟨(hds 4).b, 0, none⟩) L (hds 4).c := by rw [eval_tmp]; exact ld 6 31 (List.all_eq_true.1 hdp 6 (by decide)) rfl
      have t31 := (eval_tmp a' 31).symm.trans e31
      have HK := Lib.hid (show K (a'.put (some 5) (.slice (some ⟨(hds 4).b, 0, none⟩) L (hds 4).c)) W from hK W (Below.refl _ _) trivial)
      clear hK ld lq hmem
      unfold Oper.wp
      simp only [execOp, e31]
      exact HK.out
    | 9, _ =>
      obtain ⟨ty, pos, aft, e, hdp⟩ := iop9
      rw [e] at ho
      obtain rfl := Option.some.inj ho
      intro a' hds W K hB lq ld hmem hK
      have e32 : a'.eval (.tmp 32) = .int .i64 0 := by rw [eval_tmp]; exact ld 7 32 (List.all_eq_true.1 hdp 7 (by decide)) rfl
      have t32 := (eval_tmp a' 32).symm.trans e32
      have HK := Lib.hid (show K (a'.put (some 6) (.int .i64 0)) W from hK W (Below.refl _ _) trivial)
      clear hK ld lq hmem
      unfold Oper.wp
      simp only [execOp, e32]
      exact HK.out
    | i + 10, h => omega
  · intro hds v W hO
    have hfin := gend (hds 1).b (hds 1).c (hds 1).b2 (hds 1).c2 (hds 3).b (hds 3).c (hds 3).b2 (hds 3).c2 (hds 4).b (hds 4).c (hds 4).b2 (hds 4).c2 (hds 1).p (hds 3).p (hds 4).p (v 26) (v 27) (v 28) (v 29) (v 30) (v 25) (v 31) (v 32) W hO.b (hO.m 1 (by show 1 < 10; decide) rfl).1 (hO.m 1 (by show 1 < 10; decide) rfl).2 (hO.m 3 (by show 3 < 10; decide) rfl).1 (hO.m 3 (by show 3 < 10; decide) rfl).2 (hO.m 4 (by show 4 < 10; decide) rfl).1 (hO.m 4 (by show 4 < 10; decide) rfl).2
    rw [← laid_putL _ a v ?_] at hfin
    · exact hfin
    · intro p hp
      simp only [List.mem_cons, List.not_mem_nil, or_false] at hp
      rcases hp with rfl | rfl | rfl | rfl | rfl | rfl | rfl | rfl | rfl | rfl
      · rfl
      · rfl
      · rfl
      · rfl
      · rfl
      · rfl
      · rfl
      · rfl
      · exact hO.x 8 (show 8 < 10 by decide) 5 rfl
      · exact hO.x 9 (show 9 < 10 by decide) 6 rfl
def region_fh9U : List (List Nat) := [[], [], [], [], [4], [4, 5], [4, 5], [4, 5], [4, 5], [4, 5], [4, 5], [4, 5], [4, 5]]
def region_fh9X (N M L g2 q2 D gp qp Bc : Nat) (XS : List Nat) : Nat → (Nat → Hd) → Value
  | 0, _ => .agg #[.int .i64 (M : Int), .slice (some ⟨gp, 0, none⟩) L qp]
  | 1, _ => .pointer (some ⟨D, 1, none⟩)
  | 2, _ => .slice (some ⟨g2, 0, none⟩) L q2
  | 3, _ => .int .i64 (L : Int)
  | 4, hds => .slice (some ⟨(hds 4).b, 0, none⟩) L (hds 4).c
  | 5, hds => .tuple #[.slice (some ⟨(hds 5).b, 0, none⟩) L (hds 5).c, .int .i64 ((hds 5).c2 : Int), .int .i64 0]
  | 6, hds => .tuple #[.slice (some ⟨(hds 5).b, 0, none⟩) L (hds 5).c, .int .i64 ((hds 5).c2 : Int), .int .i64 0]
  | 7, hds => .slice (some ⟨(hds 5).b, 0, none⟩) L (hds 5).c
  | 8, hds => .int .i64 ((hds 5).c2 : Int)
  | 9, _ => .int .i64 0
  | 10, hds => .slice (some ⟨(hds 5).b, 0, none⟩) L (hds 5).c
  | 11, hds => .int .i64 ((hds 5).c2 : Int)
  | 12, _ => .int .i64 0
  | _ + 13, _ => undef
theorem region_fh9X.congr (N M L g2 q2 D gp qp Bc : Nat) (XS : List Nat) : ∀ i hds hds', (∀ r ∈ uOf region_fh9U i, hds r = hds' r) → region_fh9X N M L g2 q2 D gp qp Bc XS i hds = region_fh9X N M L g2 q2 D gp qp Bc XS i hds'
  | 0, _, _, _ => rfl
  | 1, _, _, _ => rfl
  | 2, _, _, _ => rfl
  | 3, _, _, _ => rfl
  | 4, hds, hds', h => by simp only [region_fh9X, h 4 (show 4 ∈ uOf region_fh9U 4 by decide)]
  | 5, hds, hds', h => by simp only [region_fh9X, h 5 (show 5 ∈ uOf region_fh9U 5 by decide)]
  | 6, hds, hds', h => by simp only [region_fh9X, h 5 (show 5 ∈ uOf region_fh9U 6 by decide)]
  | 7, hds, hds', h => by simp only [region_fh9X, h 5 (show 5 ∈ uOf region_fh9U 7 by decide)]
  | 8, hds, hds', h => by simp only [region_fh9X, h 5 (show 5 ∈ uOf region_fh9U 8 by decide)]
  | 9, _, _, _ => rfl
  | 10, hds, hds', h => by simp only [region_fh9X, h 5 (show 5 ∈ uOf region_fh9U 10 by decide)]
  | 11, hds, hds', h => by simp only [region_fh9X, h 5 (show 5 ∈ uOf region_fh9U 11 by decide)]
  | 12, _, _, _ => rfl
  | _ + 13, _, _, _ => rfl
def region_fh9M (N M L g2 q2 D gp qp Bc : Nat) (XS : List Nat) : Nat → Mem
  | 4 => memNats (List.replicate L 1)
  | 5 => memNats XS
  | _ => memNone
def region_fh9S (N M L g2 q2 D gp qp Bc : Nat) (XS : List Nat) : Nat → Option Sto
  | _ => none
set_option maxRecDepth 8000 in
set_option maxHeartbeats 2000000 in
theorem region_fh9 {id : Nat} {ops : Array Oper} {Q : Exit → Act → World → Prop} {a : Act} {w : World} (N M L g2 q2 D gp qp Bc : Nat) (XS : List Nat) (hXl : XS.length = L) (hXv : Valid M XS) (hL0 : 0 < L) (hL6 : L ≤ 60) (hcb : CardBlk w gp (punched XS L)) (hD : BoxAt w D #[.int .i64 (N : Int), .slice (some ⟨g2, 0, none⟩) L q2] 37) (hBx : BoxAt w Bc #[.int .i64 (M : Int), .slice (some ⟨gp, 0, none⟩) L qp] 114)
    (gsize : ops.size = 13)
    (gops : IsOp ops 0 (some 82) (.load 114 (.tmp 10)) none [] ∧ IsOp ops 1 (some 83) (.fieldAddr 37 (.tmp 4) 1) none [] ∧ IsOp ops 2 (some 84) (.load 24 (.tmp 83)) none [1] ∧ IsOpL ops 3 (some 85) (.call { callee := .builtin .len, args := #[.tmp 84], argTypes := #[24] }) none [2] ∧ IsOp ops 4 (some 86) (.call { callee := .value (.func 101), args := #[.tmp 85, .const (.int .i64 1)], argTypes := #[3, 3] }) none [3] ∧ IsOp ops 5 (some 87) (.call { callee := .value (.func 84), args := #[.tmp 82, .const (.int .i64 0), .tmp 86], argTypes := #[114, 3, 24] }) none [0, 4] ∧ IsOp ops 6 (some 81) (.move (.tmp 87)) none [5] ∧ IsOp ops 7 (some 88) (.extract (.tmp 81) 0) none [6] ∧ IsOp ops 8 (some 89) (.extract (.tmp 81) 1) none [6] ∧ IsOp ops 9 (some 90) (.extract (.tmp 81) 2) none [6] ∧ IsOp ops 10 (some 12) (.assign (.tmp 88)) none [7] ∧ IsOp ops 11 (some 13) (.assign (.tmp 89)) none [8] ∧ IsOp ops 12 (some 14) (.assign (.tmp 90)) none [9])
    (gbk : backB ops = true) (gds : dstsB ops (dOf [some 82, some 83, some 84, some 85, some 86, some 87, some 81, some 88, some 89, some 90, some 12, some 13, some 14]) = true) (gus : useB ops (uOf region_fh9U) (kOf [0, 0, 0, 0, 1, 1, 0, 0, 0, 0, 0, 0, 0]) = true) (ggd : plainB ops = true) (gsz : ∀ e ∈ [82, 83, 84, 85, 86, 87, 81, 88, 89, 90, 12, 13, 14], e < a.tmps.size)
    (gout : a.eval (.tmp 10) = .pointer (some ⟨Bc, 0, none⟩) ∧ a.eval (.tmp 4) = .pointer (some ⟨D, 0, none⟩))
    (gend : ∀ (g86 q86 G86 Q86 g87 q87 G87 Q87 : Nat) (P86 P87 : Option Addr) (u82 u83 u84 u85 u86 u87 u81 u88 u89 u90 : Value) (W : World), Below w.heap.size w W → (memNats (List.replicate L 1)).P ⟨g86, q86, G86, Q86, P86⟩ W → (∀ b ∈ (memNats (List.replicate L 1)).bl ⟨g86, q86, G86, Q86, P86⟩, w.heap.size ≤ b ∧ b < W.heap.size) → (memNats XS).P ⟨g87, q87, G87, Q87, P87⟩ W → (∀ b ∈ (memNats XS).bl ⟨g87, q87, G87, Q87, P87⟩, w.heap.size ≤ b ∧ b < W.heap.size) → Q .normal (putL a [(82, u82), (83, u83), (84, u84), (85, u85), (86, u86), (87, u87), (81, u81), (88, u88), (89, u89), (90, u90), (12, .slice (some ⟨g87, 0, none⟩) L q87), (13, .int .i64 (Q87 : Int)), (14, .int .i64 0)]) W) :
    (Code.region id ops true).wp Try.prog Q a w := by
  obtain ⟨iop0, iop1, iop2, iop3, iop4, iop5, iop6, iop7, iop8, iop9, iop10, iop11, iop12⟩ := gops
  obtain ⟨o10, o4⟩ := gout
  refine region_all (RSp.of 13 [some 82, some 83, some 84, some 85, some 86, some 87, some 81, some 88, some 89, some 90, some 12, some 13, some 14] (fun _ => true) (region_fh9X N M L g2 q2 D gp qp Bc XS) region_fh9U [0, 0, 0, 0, 1, 1, 0, 0, 0, 0, 0, 0, 0] (region_fh9M N M L g2 q2 D gp qp Bc XS) (region_fh9S N M L g2 q2 D gp qp Bc XS)) [(10, .pointer (some ⟨Bc, 0, none⟩)), (4, .pointer (some ⟨D, 0, none⟩))] [82, 83, 84, 85, 86, 87, 81, 88, 89, 90, 12, 13, 14] (RSp.of_fit gsize.symm gbk gds gus ggd (by decide) ?_) (RSp.of_ok _ (region_fh9X.congr N M L g2 q2 D gp qp Bc XS) ?_) gsz ?_ ?_ ?_
  · intro p hp
    have hp2 : p ∈ ([] : List (Nat × Nat)) := hp
    cases hp2
  · intro i s hds
    match i, hds with
    | 0, hds => cases hds
    | 1, hds => cases hds
    | 2, hds => cases hds
    | 3, hds => cases hds
    | 4, hds => cases hds
    | 5, hds => cases hds
    | 6, hds => cases hds
    | 7, hds => cases hds
    | 8, hds => cases hds
    | 9, hds => cases hds
    | 10, hds => cases hds
    | 11, hds => cases hds
    | 12, hds => cases hds
    | _ + 13, hds => cases hds
  · intro q hq
    simp only [List.mem_cons, List.not_mem_nil, or_false] at hq
    rcases hq with rfl | rfl
    · exact ⟨o10, by simp⟩
    · exact ⟨o4, by simp⟩
  · intro i o ho _
    have hi : i < 13 := by rw [← gsize]; exact (Array.getElem?_eq_some_iff.1 ho).1
    match i, hi with
    | 0, _ =>
      obtain ⟨ty, pos, aft, e, hdp⟩ := iop0
      rw [e] at ho
      obtain rfl := Option.some.inj ho
      intro a' hds W K hB lq ld hmem hK
      have e10 : a'.eval (.tmp 10) = .pointer (some ⟨Bc, 0, none⟩) := by rw [eval_tmp]; exact lq (10, .pointer (some ⟨Bc, 0, none⟩)) (by simp)
      have t10 := (eval_tmp a' 10).symm.trans e10
      have HK := Lib.hid (show K (a'.put (some 82) (.agg #[.int .i64 (M : Int), .slice (some ⟨gp, 0, none⟩) L qp])) W from hK W (Below.refl _ _) trivial)
      clear hK ld lq hmem
      have c0 := (hBx.next hB).cell' 0 rfl
      have c1 := (hBx.next hB).cell' 1 rfl
      unfold Oper.wp
      simp only [execOp, e10]
      go_simp
      exact HK.out
    | 1, _ =>
      obtain ⟨ty, pos, aft, e, hdp⟩ := iop1
      rw [e] at ho
      obtain rfl := Option.some.inj ho
      intro a' hds W K hB lq ld hmem hK
      have e4 : a'.eval (.tmp 4) = .pointer (some ⟨D, 0, none⟩) := by rw [eval_tmp]; exact lq (4, .pointer (some ⟨D, 0, none⟩)) (by simp)
      have t4 := (eval_tmp a' 4).symm.trans e4
      have HK := Lib.hid (show K (a'.put (some 83) (.pointer (some ⟨D, 1, none⟩))) W from hK W (Below.refl _ _) trivial)
      clear hK ld lq hmem
      unfold Oper.wp
      simp only [execOp, e4]
      go_simp
      exact HK.out
    | 2, _ =>
      obtain ⟨ty, pos, aft, e, hdp⟩ := iop2
      rw [e] at ho
      obtain rfl := Option.some.inj ho
      intro a' hds W K hB lq ld hmem hK
      have e83 : a'.eval (.tmp 83) = .pointer (some ⟨D, 1, none⟩) := by rw [eval_tmp]; exact ld 1 83 (List.all_eq_true.1 hdp 1 (by decide)) rfl
      have t83 := (eval_tmp a' 83).symm.trans e83
      have HK := Lib.hid (show K (a'.put (some 84) (.slice (some ⟨g2, 0, none⟩) L q2)) W from hK W (Below.refl _ _) trivial)
      clear hK ld lq hmem
      have c1 := (hD.next hB).cell' 1 rfl
      unfold Oper.wp
      simp only [execOp, e83]
      go_simp
      exact HK.out
    | 3, _ =>
      obtain ⟨pos, aft, e, hdp⟩ := iop3
      rw [e] at ho
      obtain rfl := Option.some.inj ho
      intro a' hds W K hB lq ld hmem hK
      have e84 : a'.eval (.tmp 84) = .slice (some ⟨g2, 0, none⟩) L q2 := by rw [eval_tmp]; exact ld 2 84 (List.all_eq_true.1 hdp 2 (by decide)) rfl
      have t84 := (eval_tmp a' 84).symm.trans e84
      have HK := Lib.hid (show K (a'.put (some 85) (.int .i64 (L : Int))) W from hK W (Below.refl _ _) trivial)
      clear hK ld lq hmem
      unfold Oper.wp
      simp only [execOp, e84]
      go_simp
      exact HK.out
    | 4, _ =>
      obtain ⟨ty, pos, aft, e, hdp⟩ := iop4
      rw [e] at ho
      obtain rfl := Option.some.inj ho
      intro a' hds W K hB lq ld hmem hK
      have e85 : a'.eval (.tmp 85) = .int .i64 (L : Int) := by rw [eval_tmp]; exact ld 3 85 (List.all_eq_true.1 hdp 3 (by decide)) rfl
      have t85 := (eval_tmp a' 85).symm.trans e85
      have HK := Lib.hid (show ∀ hh W', Below W.heap.size W W' → (memNats (List.replicate L 1)).P hh W' → (∀ b ∈ (memNats (List.replicate L 1)).bl hh, W.heap.size ≤ b ∧ b < W'.heap.size) → K (a'.put (some 86) (.slice (some ⟨hh.b, 0, none⟩) L hh.c)) W' from fun hh W' h1 h2 h3 => by
        have h4 : K (a'.put (some 86) (region_fh9X N M L g2 q2 D gp qp Bc XS 4 (updH hds 4 hh))) W' := hK hh W' h1 h2 h3 trivial
        simp only [region_fh9X, updH_same] at h4
        exact h4)
      clear hK ld lq hmem
      refine step_call (vals := #[.int .i64 (L : Int), .int .i64 1]) (by exact ⟨_, _, Try.func101, by kernel_rfl, rfl⟩) (by simp only [List.map_toArray, List.map_cons, List.map_nil, e85]; rfl) (call101 L W hL0 hL6) ?_
      rintro e w' ⟨g, cap, rfl, hn, hl, hg, hb'⟩
      exact ⟨_, rfl, HK.out ⟨g, cap, 0, 0, none⟩ _ hb' ⟨hn, hg⟩ (bd_one hl hg)⟩
    | 5, _ =>
      obtain ⟨ty, pos, aft, e, hdp⟩ := iop5
      rw [e] at ho
      obtain rfl := Option.some.inj ho
      intro a' hds W K hB lq ld hmem hK
      have e82 : a'.eval (.tmp 82) = .agg #[.int .i64 (M : Int), .slice (some ⟨gp, 0, none⟩) L qp] := by rw [eval_tmp]; exact ld 0 82 (List.all_eq_true.1 hdp 0 (by decide)) rfl
      have t82 := (eval_tmp a' 82).symm.trans e82
      have e86 : a'.eval (.tmp 86) = .slice (some ⟨(hds 4).b, 0, none⟩) L (hds 4).c := by rw [eval_tmp]; exact ld 4 86 (List.all_eq_true.1 hdp 4 (by decide)) rfl
      have t86 := (eval_tmp a' 86).symm.trans e86
      have HK := Lib.hid (show ∀ hh W', Below W.heap.size W W' → (memNats XS).P hh W' → (∀ b ∈ (memNats XS).bl hh, W.heap.size ≤ b ∧ b < W'.heap.size) → K (a'.put (some 87) (.tuple #[.slice (some ⟨hh.b, 0, none⟩) L hh.c, .int .i64 (hh.c2 : Int), .int .i64 0])) W' from fun hh W' h1 h2 h3 => by
        have h4 : K (a'.put (some 87) (region_fh9X N M L g2 q2 D gp qp Bc XS 5 (updH hds 5 hh))) W' := hK hh W' h1 h2 h3 trivial
        simp only [region_fh9X, updH_same] at h4
        exact h4)
      have m86   := (hmem 4 (show 4 ∈ uOf region_fh9U 5 by decide) (by decide)).1
      clear hK ld lq hmem
      refine step_call (vals := #[.agg #[.int .i64 (M : Int), .slice (some ⟨gp, 0, none⟩) L qp], .int .i64 0, .slice (some ⟨(hds 4).b, 0, none⟩) L (hds 4).c]) (by exact ⟨_, _, Try.func84, by kernel_rfl, rfl⟩) (by simp only [List.map_toArray, List.map_cons, List.map_nil, e82, e86]; rfl) (call84p M L gp qp (hds 4).b (hds 4).c XS W hXl hXv (hcb.next hB).at' m86.1 m86.2) ?_
      rintro e w' ⟨g, cap, a, rfl, hn, hl, hg, hb'⟩
      exact ⟨_, rfl, HK.out ⟨g, cap, 0, a, none⟩ _ hb' ⟨hn, hg⟩ (bd_one hl hg)⟩
    | 6, _ =>
      obtain ⟨ty, pos, aft, e, hdp⟩ := iop6
      rw [e] at ho
      obtain rfl := Option.some.inj ho
      intro a' hds W K hB lq ld hmem hK
      have e87 : a'.eval (.tmp 87) = .tuple #[.slice (some ⟨(hds 5).b, 0, none⟩) L (hds 5).c, .int .i64 ((hds 5).c2 : Int), .int .i64 0] := by rw [eval_tmp]; exact ld 5 87 (List.all_eq_true.1 hdp 5 (by decide)) rfl
      have t87 := (eval_tmp a' 87).symm.trans e87
      have HK := Lib.hid (show K (a'.put (some 81) (.tuple #[.slice (some ⟨(hds 5).b, 0, none⟩) L (hds 5).c, .int .i64 ((hds 5).c2 : Int), .int .i64 0])) W from hK W (Below.refl _ _) trivial)
      clear hK ld lq hmem
      unfold Oper.wp
      simp only [execOp, e87]
      exact HK.out
    | 7, _ =>
      obtain ⟨ty, pos, aft, e, hdp⟩ := iop7
      rw [e] at ho
      obtain rfl := Option.some.inj ho
      intro a' hds W K hB lq ld hmem hK
      have e81 : a'.eval (.tmp 81) = .tuple #[.slice (some ⟨(hds 5).b, 0, none⟩) L (hds 5).c, .int .i64 ((hds 5).c2 : Int), .int .i64 0] := by rw [eval_tmp]; exact ld 6 81 (List.all_eq_true.1 hdp 6 (by decide)) rfl
      have t81 := (eval_tmp a' 81).symm.trans e81
      have HK := Lib.hid (show K (a'.put (some 88) (.slice (some ⟨(hds 5).b, 0, none⟩) L (hds 5).c)) W from hK W (Below.refl _ _) trivial)
      clear hK ld lq hmem
      unfold Oper.wp
      simp only [execOp, e81]
      exact HK.out
    | 8, _ =>
      obtain ⟨ty, pos, aft, e, hdp⟩ := iop8
      rw [e] at ho
      obtain rfl := Option.some.inj ho
      intro a' hds W K hB lq ld hmem hK
      have e81 : a'.eval (.tmp 81) = .tuple #[.slice (some ⟨(hds 5).b, 0, none⟩) L (hds 5).c, .int .i64 ((hds 5).c2 : Int), .int .i64 0] := by rw [eval_tmp]; exact ld 6 81 (List.all_eq_true.1 hdp 6 (by decide)) rfl
      have t81 := (eval_tmp a' 81).symm.trans e81
      have HK := Lib.hid (show K (a'.put (some 89) (.int .i64 ((hds 5).c2 : Int))) W from hK W (Below.refl _ _) trivial)
      clear hK ld lq hmem
      unfold Oper.wp
      simp only [execOp, e81]
      exact HK.out
    | 9, _ =>
      obtain ⟨ty, pos, aft, e, hdp⟩ := iop9
      rw [e] at ho
      obtain rfl := Option.some.inj ho
      intro a' hds W K hB lq ld hmem hK
      have e81 : a'.eval (.tmp 81) = .tuple #[.slice (some ⟨(hds 5).b, 0, none⟩) L (hds 5).c, .int .i64 ((hds 5).c2 : Int), .int .i64 0] := by rw [eval_tmp]; exact ld 6 81 (List.all_eq_true.1 hdp 6 (by decide)) rfl
      have t81 := (eval_tmp a' 81).symm.trans e81
      have HK := Lib.hid (show K (a'.put (some 90) (.int .i64 0)) W from hK W (Below.refl _ _) trivial)
      clear hK ld lq hmem
      unfold Oper.wp
      simp only [execOp, e81]
      exact HK.out
    | 10, _ =>
      obtain ⟨ty, pos, aft, e, hdp⟩ := iop10
      rw [e] at ho
      obtain rfl := Option.some.inj ho
      intro a' hds W K hB lq ld hmem hK
      have e88 : a'.eval (.tmp 88) = .slice (some ⟨(hds 5).b, 0, none⟩) L (hds 5).c := by rw [eval_tmp]; exact ld 7 88 (List.all_eq_true.1 hdp 7 (by decide)) rfl
      have t88 := (eval_tmp a' 88).symm.trans e88
      have HK := Lib.hid (show K (a'.put (some 12) (.slice (some ⟨(hds 5).b, 0, none⟩) L (hds 5).c)) W from hK W (Below.refl _ _) trivial)
      clear hK ld lq hmem
      unfold Oper.wp
      simp only [execOp, e88]
      exact HK.out
    | 11, _ =>
      obtain ⟨ty, pos, aft, e, hdp⟩ := iop11
      rw [e] at ho
      obtain rfl := Option.some.inj ho
      intro a' hds W K hB lq ld hmem hK
      have e89 : a'.eval (.tmp 89) = .int .i64 ((hds 5).c2 : Int) := by rw [eval_tmp]; exact ld 8 89 (List.all_eq_true.1 hdp 8 (by decide)) rfl
      have t89 := (eval_tmp a' 89).symm.trans e89
      have HK := Lib.hid (show K (a'.put (some 13) (.int .i64 ((hds 5).c2 : Int))) W from hK W (Below.refl _ _) trivial)
      clear hK ld lq hmem
      unfold Oper.wp
      simp only [execOp, e89]
      exact HK.out
    | 12, _ =>
      obtain ⟨ty, pos, aft, e, hdp⟩ := iop12
      rw [e] at ho
      obtain rfl := Option.some.inj ho
      intro a' hds W K hB lq ld hmem hK
      have e90 : a'.eval (.tmp 90) = .int .i64 0 := by rw [eval_tmp]; exact ld 9 90 (List.all_eq_true.1 hdp 9 (by decide)) rfl
      have t90 := (eval_tmp a' 90).symm.trans e90
      have HK := Lib.hid (show K (a'.put (some 14) (.int .i64 0)) W from hK W (Below.refl _ _) trivial)
      clear hK ld lq hmem
      unfold Oper.wp
      simp only [execOp, e90]
      exact HK.out
    | i + 13, h => omega
  · intro hds v W hO
    have hfin := gend (hds 4).b (hds 4).c (hds 4).b2 (hds 4).c2 (hds 5).b (hds 5).c (hds 5).b2 (hds 5).c2 (hds 4).p (hds 5).p (v 82) (v 83) (v 84) (v 85) (v 86) (v 87) (v 81) (v 88) (v 89) (v 90) W hO.b (hO.m 4 (by show 4 < 13; decide) rfl).1 (hO.m 4 (by show 4 < 13; decide) rfl).2 (hO.m 5 (by show 5 < 13; decide) rfl).1 (hO.m 5 (by show 5 < 13; decide) rfl).2
    rw [← laid_putL _ a v ?_] at hfin
    · exact hfin
    · intro p hp
      simp only [List.mem_cons, List.not_mem_nil, or_false] at hp
      rcases hp with rfl | rfl | rfl | rfl | rfl | rfl | rfl | rfl | rfl | rfl | rfl | rfl | rfl
      · rfl
      · rfl
      · rfl
      · rfl
      · rfl
      · rfl
      · rfl
      · rfl
      · rfl
      · rfl
      · exact hO.x 10 (show 10 < 13 by decide) 12 rfl
      · exact hO.x 11 (show 11 < 13 by decide) 13 rfl
      · exact hO.x 12 (show 12 < 13 by decide) 14 rfl
end Go.Proofs.Ytdmgffoikebgkaa
/- TopFewHooks: the walk. -/
namespace Go.Proofs.Ytdmgffoikebgkaa
open Go.RowKit Go.Shelf
attribute [local go_sem] Oper.semAt_some

theorem hsTo_nthF (n : Nat) (ws : List Nat) (k i : Nat) (hn : 1 ≤ n) (hi : i < k) : nthN (hsTo n ws k) i < n := by
  rw [nthN_get _ _ (by rw [hsTo_len]; exact hi)]
  simp only [hsTo, List.getElem_map, List.getElem_range, hsG]
  split
  · exact Nat.mod_lt _ (by omega)
  · omega
/-- the harness and the design in memory -/
structure FhS (w : World) (D g2 q2 E gh qh N L T : Nat) (DS HS : List Nat) (W : World) : Prop where
  d : BoxAt W D #[.int .i64 (N : Int), .slice (some ⟨g2, 0, none⟩) L q2] 37
  e : BoxAt W E #[.int .i64 (N : Int), .slice (some ⟨gh, 0, none⟩) T qh] 26
  nd : NatsAt W g2 0 DS
  l2 : g2 < W.heap.size
  nh : NatsAt W gh 0 HS
  lh : gh < W.heap.size
  b : Below w.heap.size w W
theorem FhS.next {w W W' : World} {D g2 q2 E gh qh N L T : Nat} {DS HS : List Nat} (h : FhS w D g2 q2 E gh qh N L T DS HS W) (hb : Below W.heap.size W W') : FhS w D g2 q2 E gh qh N L T DS HS W' :=
  ⟨h.d.next hb, h.e.next hb, h.nd.below hb h.l2, Nat.lt_of_lt_of_le h.l2 hb.size, h.nh.below hb h.lh, Nat.lt_of_lt_of_le h.lh hb.size, h.b.trans (hb.mono h.b.size)⟩
/-- a cloth's picks -/
structure StrL (W : World) (g : Nat) (ss : List ByteArray) : Prop where
  at' : StrsAt W g 0 ss
  lt : g < W.heap.size
theorem StrL.next {W W' : World} {g : Nat} {ss : List ByteArray} (h : StrL W g ss) (hb : Below W.heap.size W W') : StrL W' g ss := ⟨h.at'.below hb h.lt, Nat.lt_of_lt_of_le h.lt hb.size⟩
theorem StrL.kept {W W' : World} {g : Nat} {ss : List ByteArray} {row : Option Nat} (h : StrL W g ss) (hg : W.grownBy W' row) (hne : some g ≠ row) : StrL W' g ss :=
  ⟨fun i hi => (World.cell?_of_block (w := W) (hg.block g h.lt hne)).trans (h.at' i hi), Nat.lt_of_lt_of_le h.lt hg.size⟩
theorem nats_kept {W W' : World} {g : Nat} {xs : List Nat} {row : Option Nat} (h : NatsAt W g 0 xs) (hl : g < W.heap.size) (hg : W.grownBy W' row) (hne : some g ≠ row) : NatsAt W' g 0 xs :=
  fun i hi => (World.cell?_of_block (w := W) (hg.block g hl hne)).trans (h i hi)
/-- what is known behind k warps that were put into the set -/
structure FmS (w : World) (D g2 q2 E gh qh N L T F gf qf M g5 g15 Mb : Nat) (DS HS : List Nat) (k : Nat) (W : World) : Prop where
  st : FhS w D g2 q2 E gh qh N L T DS HS W
  f : BoxAt W F #[.int .i64 (M : Int), .slice (some ⟨gf, 0, none⟩) T qf] 26
  c1 : StrL W g5 (clothS HS DS)
  c2 : StrL W g15 (clothS HS DS)
  map : ∃ q S, AMap W Mb q (cntF (tenK HS DS) k) S ∧ q ≤ k ∧ SetK (tenK HS DS) k S
  lt : w.heap.size ≤ Mb ∧ D < Mb ∧ E < Mb ∧ g2 < Mb ∧ gh < Mb ∧ F < Mb ∧ g5 < Mb ∧ g15 < Mb
theorem FmS.next {w W W' : World} {D g2 q2 E gh qh N L T F gf qf M g5 g15 Mb k : Nat} {DS HS : List Nat} (h : FmS w D g2 q2 E gh qh N L T F gf qf M g5 g15 Mb DS HS k W) (hb : Below W.heap.size W W') : FmS w D g2 q2 E gh qh N L T F gf qf M g5 g15 Mb DS HS k W' := by
  obtain ⟨q, S, h1, h2⟩ := h.map
  exact ⟨h.st.next hb, h.f.next hb, h.c1.next hb, h.c2.next hb, ⟨q, S, h1.next hb, h2⟩, h.lt⟩
theorem FmS.step {w W : World} {D g2 q2 E gh qh N L T F gf qf M g5 g15 Mb k : Nat} {DS HS : List Nat} (h : FmS w D g2 q2 E gh qh N L T F gf qf M g5 g15 Mb DS HS k W) (hk : k ≤ 1000) :
    ∃ W', (Instr.mapUpdate 141 (.map (some Mb)) (.agg (tenV (tenF DS (nthN HS k)))) (.bool true)).run Try.prog W = .ok () W' ∧ FmS w D g2 q2 E gh qh N L T F gf qf M g5 g15 Mb DS HS (k + 1) W' := by
  obtain ⟨q, S, hm, hq, hs⟩ := h.map
  obtain ⟨l0, l1, l2, l3, l4, l5, l6, l7⟩ := h.lt
  obtain ⟨W', hrun, hm2, hg⟩ := hm.upd (tenF DS (nthN HS k)) (by omega)
  obtain ⟨hs2, hc⟩ := hs.step
  refine ⟨W', hrun, ⟨h.st.d.kept hg (by simp; omega), h.st.e.kept hg (by simp; omega), nats_kept h.st.nd h.st.l2 hg (by simp; omega), Nat.lt_of_lt_of_le h.st.l2 hg.size, nats_kept h.st.nh h.st.lh hg (by simp; omega), Nat.lt_of_lt_of_le h.st.lh hg.size, h.st.b.grown hg h.st.b.size (fun j e => by cases e; omega)⟩, h.f.kept hg (by simp; omega), h.c1.kept hg (by simp; omega), h.c2.kept hg (by simp; omega), ⟨q + 1, _, ?_, by omega, hs2⟩, h.lt⟩
  rw [hc]; exact hm2
def tenQ (f : Nat → Bool) (q : Nat) : Nat → Bool := fun i => if i < q then f i else false
theorem tenQ_zero (f : Nat → Bool) : tenV (tenQ f 0) = #[.bool false, .bool false, .bool false, .bool false, .bool false, .bool false, .bool false, .bool false, .bool false, .bool false] := by simp [tenV, tenQ]
theorem tenQ_succ (f : Nat → Bool) (q : Nat) (hq : q < 10) (v : Bool) (hv : f q = v) : (tenV (tenQ f q)).setIfInBounds q (.bool v) = tenV (tenQ f (q + 1)) := by
  rw [tenV_set _ _ _ hq]
  congr 1
  funext i
  unfold tenQ
  by_cases e : i = q
  · subst e; simp [hv]
  · rw [if_neg e]
    by_cases h : i < q
    · rw [if_pos h, if_pos (by omega)]
    · rw [if_neg h, if_neg (by omega)]
theorem tenQ_all (xs : List Nat) (h : Nat) : tenQ (tenF xs h) xs.length = tenF xs h := by
  funext i
  unfold tenQ tenF
  by_cases hi : i < xs.length
  · rw [if_pos hi]
  · rw [if_neg hi, decide_eq_false hi]; rfl
theorem tenV_get (f : Nat → Bool) (q : Nat) (hq : q < 10) : (tenV f)[q]? = some (.bool (f q)) := by
  match q, hq with
  | 0, _ => rfl
  | 1, _ => rfl
  | 2, _ => rfl
  | 3, _ => rfl
  | 4, _ => rfl
  | 5, _ => rfl
  | 6, _ => rfl
  | 7, _ => rfl
  | 8, _ => rfl
  | 9, _ => rfl
  | q + 10, hq => omega
set_option maxRecDepth 100000 in
set_option maxHeartbeats 8000000 in
theorem TopFewHooks_any (H : Nat) (p1 p2 p3 : Option Addr) (c1 c2 c3 : Nat) (ws rs sd : List Nat) (w : World) (hH : H < 256) (hw : ByteRow w p1 ws) (hr : WordRow w p2 rs) (hwl : ws.length ≤ 9223372036854775807) (hrl : rs.length ≤ 9223372036854775807) :
    Calls Try.prog 20 #[.agg (loomA H p1 p2 p3 ws.length c1 rs.length c2 sd.length c3)] w fun e w' => e = .returned (.bool true) ∧ Below w.heap.size w w' := by
  obtain ⟨w0, hw0⟩ : ∃ w0, w0 = w.alloc (.cells (loomA H p1 p2 p3 ws.length c1 rs.length c2 sd.length c3) 137) := ⟨_, rfl⟩
  have hb0 : Below w.heap.size w w0 := by rw [hw0]; exact (Below.refl _ _).alloc (Nat.le_refl _) _
  have hA : BoxAt w0 w.heap.size (loomA H p1 p2 p3 ws.length c1 rs.length c2 sd.length c3) 137 := by rw [hw0]; exact BoxAt.new _ _ _
  obtain ⟨hk1, hk2⟩ := loomL_bdM 30 ws.length (by omega)
  obtain ⟨hk3, hk4⟩ := loomL_bdM 10 rs.length (by omega)
  have H94 : ∀ W, Below w0.heap.size w0 W → Calls Try.prog 94 #[.agg (loomA H p1 p2 p3 ws.length c1 rs.length c2 sd.length c3)] W (MadeL (loomN H) (loomL 30 ws.length) (hsTo (loomN H) ws (loomL 30 ws.length)) W) := fun W hb =>
    (armHarness_any H p1 p2 p3 c1 rs.length c2 sd.length c3 ws W hH (ByteRow.next hw (hb0.trans (hb.mono hb0.size))) hwl).mono (by
      rintro e w' ⟨v, rfl, h1, h2⟩
      obtain ⟨g, c, rfl⟩ := row_slice h1 (by omega)
      obtain ⟨h3, h4, h5⟩ := nats_of_row h1 (by omega)
      exact ⟨g, c, rfl, h3, h5, h4, h2⟩)
  have H95 : ∀ W, Below w0.heap.size w0 W → Calls Try.prog 95 #[.agg (loomA H p1 p2 p3 ws.length c1 rs.length c2 sd.length c3)] W (MadeL (loomN H) (loomL 10 rs.length) (dsTo (loomN H) rs (loomL 10 rs.length)) W) := fun W hb =>
    (armDesign_any H p1 p2 p3 ws.length c1 c2 sd.length c3 rs W hH (WordRow.next hr (hb0.trans (hb.mono hb0.size))) hrl).mono (by
      rintro e w' ⟨v, rfl, h1, h2⟩
      obtain ⟨g, c, rfl⟩ := row_slice h1 (by omega)
      obtain ⟨h3, h4, h5⟩ := nats_of_row h1 (by omega)
      exact ⟨g, c, rfl, h3, h5, h4, h2⟩)
  obtain ⟨hN1, hN2⟩ := loomN_bd H
  have hVd := dsTo_validM (loomN H) rs (loomL 10 rs.length) hN1 (by omega) hk3 (by omega)
  have hDl := dsTo_len (loomN H) rs (loomL 10 rs.length)
  have hHk := fun i (hi : i < loomL 30 ws.length) => hsTo_nthF (loomN H) ws (loomL 30 ws.length) i hN1 hi
  have hHl := hsTo_len (loomN H) ws (loomL 30 ws.length)
  obtain ⟨L, hL⟩ : ∃ L, loomL 10 rs.length = L := ⟨_, rfl⟩
  obtain ⟨T, hT⟩ : ∃ T, loomL 30 ws.length = T := ⟨_, rfl⟩
  obtain ⟨N, hN⟩ : ∃ N, loomN H = N := ⟨_, rfl⟩
  rw [hL] at hk3 hk4
  rw [hT] at hk1 hk2
  rw [hN, hL] at hVd hDl
  simp only [hN, hL] at H95
  simp only [hN, hT] at H94 hHk hHl
  rw [hN] at hN1 hN2
  obtain ⟨DS, hDS⟩ : ∃ DS, dsTo N rs L = DS := ⟨_, rfl⟩
  obtain ⟨HS, hHS⟩ : ∃ HS, hsTo N ws T = HS := ⟨_, rfl⟩
  rw [hDS] at hVd hDl
  simp only [hDS] at H95
  simp only [hHS] at H94 hHk hHl
  clear hN hDS hL hT hHS
  have hHk2 : ∀ i, i < HS.length → nthN HS i < N := fun i hi => hHk i (by rw [← hHl]; exact hi)
  obtain ⟨M, hM⟩ : ∃ M, cntF (colL (pks HS DS)) T = M := ⟨_, rfl⟩
  have hMN : M ≤ N := by rw [← hM, ← hHl]; exact few_le hHk2
  have hM1 : 1 ≤ M := by rw [← hM]; exact cntF_pos hk1
  have hM2 : cntF (tenK HS DS) T = M := by rw [← hM, ← hHl]; exact (ten_cnt (by omega)).symm
  obtain ⟨FS, hFS⟩ : ∃ FS, fewL (pks HS DS) T = FS := ⟨_, rfl⟩
  obtain ⟨SM, hSM⟩ : ∃ SM, dsnL FS (pks HS DS) = SM := ⟨_, rfl⟩
  have hcl : clothS FS SM = clothS HS DS := by rw [← hSM, ← hFS, ← hHl]; exact few_cloth HS DS
  have hVs : Valid M SM := by
    have := few_valid (xs := DS) hHk2 (by omega) (by omega) (by omega) (by omega)
    rw [hHl, hM, hFS, hSM] at this
    exact this
  have hSl : SM.length = L := by rw [← hSM, dsnL_len, pks_len]; exact hDl
  have hFl : FS.length = T := by rw [← hFS, fewL_len]
  have hFk : ∀ i, i < T → nthN FS i < M := fun i hi => by rw [← hFS, fewL_nth _ hi, ← hM]; exact fewH_lt hi
  have H54 : ∀ b c W, StrL W b (clothS HS DS) → Calls Try.prog 54 #[.slice (some ⟨b, 0, none⟩) L c] W fun e w' =>
      ∃ g cap g2 cap2, e = .returned (.tuple #[.agg #[.int .i64 (M : Int), .slice (some ⟨g, 0, none⟩) T cap], .agg #[.int .i64 (M : Int), .slice (some ⟨g2, 0, none⟩) L cap2], .int .i64 0]) ∧
        NatsAt w' g 0 FS ∧ NatsAt w' g2 0 SM ∧ W.heap.size ≤ g ∧ g < w'.heap.size ∧ W.heap.size ≤ g2 ∧ g2 < w'.heap.size ∧ Below W.heap.size W w' := fun b c W hx => by
    have := call54 N T L M b c HS DS W hHl hDl hk1 (by omega) hk3 (by omega) (by omega) hHk hM hx.at' hx.lt
    rw [hFS, hSM] at this
    exact this
  have HVd := Lib.hid hVd
  have HDl := Lib.hid hDl
  have HHk := Lib.hid hHk
  have HHl := Lib.hid hHl
  have HM2 := Lib.hid hM2
  have Hcl := Lib.hid hcl
  have HVs := Lib.hid hVs
  have HSl := Lib.hid hSl
  have HFl := Lib.hid hFl
  have HFk := Lib.hid hFk
  have H54' := Lib.hid H54
  have HW0 := Lib.hid hw0
  have Hb0 := Lib.hid hb0
  have HA := Lib.hid hA
  unfold loomA at HW0 H94 H95 HA ⊢
  have H95' := Lib.hid H95
  have H94' := Lib.hid H94
  clear hw0 hb0 hA hw hr hVd hDl H95 H94 hHl hHk hHk2 hM hM2 hFS hSM hcl hVs hSl hFl hFk H54
  go_enter Try.func20, Try.ntmps20
  go_upto_region 1 with fail
  rw [← HW0.out]
  refine region_fh1 w.heap.size N T L (.int .u8 (H : Int)) (.slice p1 ws.length c1) (.slice p2 rs.length c2) (.slice p3 sd.length c3) HS DS H94'.out H95'.out HA.out rfl ?hops (by kernel_rfl) (by kernel_rfl) (by kernel_rfl) (by kernel_rfl) ?hsz ?hout ?hend
  case hops => exact ⟨⟨_, _, _, rfl, by kernel_rfl⟩, ⟨_, _, _, rfl, by kernel_rfl⟩, ⟨_, _, _, rfl, by kernel_rfl⟩, ⟨_, _, _, rfl, by kernel_rfl⟩, ⟨_, _, _, rfl, by kernel_rfl⟩, ⟨_, _, _, rfl, by kernel_rfl⟩, ⟨_, _, _, rfl, by kernel_rfl⟩, ⟨_, _, _, rfl, by kernel_rfl⟩⟩
  case hsz => intro d hd; simp only [List.mem_cons, List.not_mem_nil, or_false] at hd; show d < 158; omega
  case hout => exact rfl
  case hend =>
    intro g22 q22 G22 Q22 g24 q24 G24 Q24 g3 q3 G3 Q3 g4 q4 G4 Q4 P22 P24 P3 P4 u21 u22 u23 u24 W1 hb1 hm22 hB22 hm24 hB24 hl3 hu3 hl4 hu4 hs3 hs4
    simp only [putL, List.foldl, Act.put, List.setIfInBounds_toArray, List.set_cons_succ, List.set_cons_zero]
    have hT1 : FhS w g4 g24 q24 g3 g22 q22 N L T DS HS W1 := ⟨hs4, hs3, hm24.1, hm24.2, hm22.1, hm22.2, Hb0.out.trans (hb1.mono Hb0.out.size)⟩
    have HT1 := Lib.hid hT1
    clear HW0 H94' H95' Hb0 HA hb1 hm22 hB22 hm24 hB24 hl3 hu3 hl4 hu4 hs3 hs4 hT1
    go_upto_region 2 with fail
    refine region_fh2 N L g24 q24 g4 g22 q22 g3 T DS HS HDl.out HVd.out HT1.out.nd HT1.out.l2 HHl.out hk1 (by omega) HT1.out.nh HT1.out.lh HHk.out HT1.out.d HT1.out.e rfl ?hops (by kernel_rfl) (by kernel_rfl) (by kernel_rfl) (by kernel_rfl) ?hsz ?hout ?hend
    case hops => exact ⟨⟨_, _, _, rfl, by kernel_rfl⟩, ⟨_, _, _, rfl, by kernel_rfl⟩, ⟨_, _, _, rfl, by kernel_rfl⟩, ⟨_, _, _, rfl, by kernel_rfl⟩, ⟨_, _, _, rfl, by kernel_rfl⟩, ⟨_, _, _, rfl, by kernel_rfl⟩, ⟨_, _, _, rfl, by kernel_rfl⟩, ⟨_, _, _, rfl, by kernel_rfl⟩, ⟨_, _, _, rfl, by kernel_rfl⟩, ⟨_, _, _, rfl, by kernel_rfl⟩⟩
    case hsz => intro d hd; simp only [List.mem_cons, List.not_mem_nil, or_false] at hd; show d < 158; omega
    case hout => exact ⟨rfl, rfl⟩
    case hend =>
      intro g27 q27 G27 Q27 g29 q29 G29 Q29 g30 q30 G30 Q30 P27 P29 P30 u26 u27 u28 u29 u30 u25 u31 u32 W2 hb2 hm27 hB27 hm29 hB29 hm30 hB30
      simp only [putL, List.foldl, Act.put, List.setIfInBounds_toArray, List.set_cons_succ, List.set_cons_zero]
      have HT2 := Lib.hid (HT1.out.next hb2)
      have HC2 := Lib.hid (show StrL W2 g30 (clothS HS DS) from ⟨hm30.1, hm30.2⟩)
      have H109 := Lib.hid (call109 L g30 q30 (clothS HS DS) W2 (by rw [clothS_len]; exact HDl.out) (by omega) (by omega) HC2.out.at' HC2.out.lt)
      clear hb2 hm27 hB27 hm29 hB29 hm30 hB30 HT1
      go_wp2_with fail
      refine H109.out.mono ?_
      rintro e W3 ⟨ga, qa, rfl, hna, hla, hga, hb3⟩
      have HT3 := Lib.hid (HT2.out.next hb3)
      have HC3 := Lib.hid (HC2.out.next hb3)
      have H54 := Lib.hid (H54'.out ga qa W3 ⟨hna, hga⟩)
      clear hna hla hga hb3 HT2 HC2 H109
      go_wp2_with fail
      refine H54.out.mono ?_
      rintro e W4 ⟨gf, qf, gs, qs, rfl, hnf, hns, hlf, hgf, hls, hgs, hb4⟩
      have HT4 := Lib.hid (HT3.out.next hb4)
      have HC4 := Lib.hid (HC3.out.next hb4)
      clear hlf hls hb4 HT3 HC3 H54 H54'
      go_upto_region 4 with fail
      obtain ⟨W5, hW5⟩ : ∃ W5, W5 = W4.alloc (.cells #[.int .i64 (M : Int), .slice (some ⟨gf, 0, none⟩) T qf] 26) := ⟨_, rfl⟩
      obtain ⟨F, hF⟩ : ∃ F, F = W4.heap.size := ⟨_, rfl⟩
      rw [← hW5, ← hF]
      have hbW5 : Below W4.heap.size W4 W5 := by rw [hW5]; exact (Below.refl _ _).alloc (Nat.le_refl _) _
      have hxF : BoxAt W5 F #[.int .i64 (M : Int), .slice (some ⟨gf, 0, none⟩) T qf] 26 := by rw [hW5, hF]; exact BoxAt.new _ _ _
      have hzW5 : W5.heap.size = F + 1 := by rw [hW5, hF]; simp
      clear hW5 hF
      obtain ⟨W6, hW6⟩ : ∃ W6, W6 = W5.alloc (.cells #[.int .i64 (M : Int), .slice (some ⟨gs, 0, none⟩) L qs] 37) := ⟨_, rfl⟩
      obtain ⟨G, hG⟩ : ∃ G, G = F + 1 := ⟨_, rfl⟩
      rw [← hW6, ← hG]
      have hbW6 : Below W5.heap.size W5 W6 := by rw [hW6]; exact (Below.refl _ _).alloc (Nat.le_refl _) _
      have hxG : BoxAt W6 G #[.int .i64 (M : Int), .slice (some ⟨gs, 0, none⟩) L qs] 37 := by rw [hW6, hG, ← hzW5]; exact BoxAt.new _ _ _
      clear hW6 hG hzW5
      have hb46 := hbW5.trans (hbW6.mono hbW5.size)
      have HT6 := Lib.hid (HT4.out.next hb46)
      have HC6 := Lib.hid (HC4.out.next hb46)
      have HF6 := Lib.hid (hxF.next hbW6)
      have HG6 := Lib.hid hxG
      have Hnf6 := Lib.hid (hnf.below hb46 hgf)
      have hgf6 : gf < W6.heap.size := Nat.lt_of_lt_of_le hgf hb46.size
      have hns6 := hns.below hb46 hgs
      have hgs6 : gs < W6.heap.size := Nat.lt_of_lt_of_le hgs hb46.size
      have H81 := Lib.hid (call81 M L gs qs SM W6 HSl.out HVs.out hns6 hgs6)
      have e0 := HT6.out.e.cell' 0 rfl
      have f0 := HF6.out.cell' 0 rfl
      have x0 := hxG.cell' 0 rfl
      have x1 := hxG.cell' 1 rfl
      have dM1 : decide ((M : Int) < 1) = false := by simp; omega
      have dM2 : decide ((N : Int) < (M : Int)) = false := by simp; omega
      clear hnf hns hgf hgs hbW5 hbW6 hxF hxG hb46 HT4 HC4 hns6 hgs6
      go_wp2_with fail
      refine H81.out.mono ?_
      rintro e W7 ⟨gp, qp, rfl, hcb, hlp, hb7⟩
      have HT7 := Lib.hid (HT6.out.next hb7)
      have HC7 := Lib.hid (HC6.out.next hb7)
      have HF7 := Lib.hid (HF6.out.next hb7)
      have Hnf7 := Lib.hid (Hnf6.out.below hb7 hgf6)
      have hgf7 : gf < W7.heap.size := Nat.lt_of_lt_of_le hgf6 hb7.size
      clear hlp hb7 HT6 HC6 HF6 HG6 Hnf6 hgf6 H81 e0 f0 x0 x1 dM1 dM2
      go_upto_region 7 with fail
      obtain ⟨W8, hW8⟩ : ∃ W8, W8 = W7.alloc (.cells #[.int .i64 (M : Int), .slice (some ⟨gp, 0, none⟩) L qp] 114) := ⟨_, rfl⟩
      obtain ⟨Bc, hBc⟩ : ∃ Bc, Bc = W7.heap.size := ⟨_, rfl⟩
      rw [← hW8, ← hBc]
      have hbW8 : Below W7.heap.size W7 W8 := by rw [hW8]; exact (Below.refl _ _).alloc (Nat.le_refl _) _
      have hxBc : BoxAt W8 Bc #[.int .i64 (M : Int), .slice (some ⟨gp, 0, none⟩) L qp] 114 := by rw [hW8, hBc]; exact BoxAt.new _ _ _
      have hzW8 : W8.heap.size = Bc + 1 := by rw [hW8, hBc]; simp
      clear hW8 hBc
      have HT8 := Lib.hid (HT7.out.next hbW8)
      have HC8 := Lib.hid (HC7.out.next hbW8)
      have HF8 := Lib.hid (HF7.out.next hbW8)
      have Hnf8 := Lib.hid (Hnf7.out.below hbW8 hgf7)
      have hgf8 : gf < W8.heap.size := Nat.lt_of_lt_of_le hgf7 hbW8.size
      have HB8 := Lib.hid hxBc
      have Hcb := Lib.hid (hcb.next hbW8)
      have b0 := hxBc.cell' 0 rfl
      have b1 := hxBc.cell' 1 rfl
      have d1 := HT8.out.d.cell' 1 rfl
      have f0 := HF8.out.cell' 0 rfl
      clear hcb hbW8 hxBc HT7 HC7 HF7 Hnf7 hgf7
      go_upto_region 9 with fail
      refine region_fh9 N M L g24 q24 g4 gp qp Bc SM HSl.out HVs.out (by omega) (by omega) Hcb.out HT8.out.d HB8.out rfl ?hops (by kernel_rfl) (by kernel_rfl) (by kernel_rfl) (by kernel_rfl) ?hsz ?hout ?hend
      case hops => exact ⟨⟨_, _, _, rfl, by kernel_rfl⟩, ⟨_, _, _, rfl, by kernel_rfl⟩, ⟨_, _, _, rfl, by kernel_rfl⟩, ⟨_, _, rfl, by kernel_rfl⟩, ⟨_, _, _, rfl, by kernel_rfl⟩, ⟨_, _, _, rfl, by kernel_rfl⟩, ⟨_, _, _, rfl, by kernel_rfl⟩, ⟨_, _, _, rfl, by kernel_rfl⟩, ⟨_, _, _, rfl, by kernel_rfl⟩, ⟨_, _, _, rfl, by kernel_rfl⟩, ⟨_, _, _, rfl, by kernel_rfl⟩, ⟨_, _, _, rfl, by kernel_rfl⟩, ⟨_, _, _, rfl, by kernel_rfl⟩⟩
      case hsz => intro d hd; simp only [List.mem_cons, List.not_mem_nil, or_false] at hd; show d < 158; omega
      case hout => exact ⟨rfl, rfl⟩
      case hend =>
        intro g86 q86 G86 Q86 g87 q87 G87 Q87 P86 P87 u82 u83 u84 u85 u86 u87 u81 u88 u89 u90 W9 hb9 hm86 hB86 hm87 hB87
        simp only [putL, List.foldl, Act.put, List.setIfInBounds_toArray, List.set_cons_succ, List.set_cons_zero]
        have HT9 := Lib.hid (HT8.out.next hb9)
        have HC9 := Lib.hid (HC8.out.next hb9)
        have HF9 := Lib.hid (HF8.out.next hb9)
        have hnf9 := Hnf8.out.below hb9 hgf8
        have hgf9 : gf < W9.heap.size := Nat.lt_of_lt_of_le hgf8 hb9.size
        have H38 := Lib.hid (call38 M T L gf qf g87 q87 FS SM W9 HFl.out HSl.out hk1 (by omega) HFk.out HVs.out hnf9 hgf9 hm87.1 hm87.2)
        rw [Hcl.out] at H38
        have f0 := HF9.out.cell' 0 rfl
        have f1 := HF9.out.cell' 1 rfl
        clear hb9 hm86 hB86 hm87 hB87 HT8 HC8 HF8 Hnf8 hgf8 hnf9 hgf9 HB8 Hcb b0 b1 d1
        go_wp2_with fail
        refine H38.out.mono ?_
        rintro e W10 ⟨gw, qw, rfl, hnw, hlw, hgw, hb10⟩
        have HT10 := Lib.hid (HT9.out.next hb10)
        have HC10 := Lib.hid (HC9.out.next hb10)
        have HF10 := Lib.hid (HF9.out.next hb10)
        have HD10 := Lib.hid (show StrL W10 gw (clothS HS DS) from ⟨hnw, hgw⟩)
        have hmm := @run_makeMap Try.prog
        clear hnw hlw hgw hb10 HT9 HC9 HF9 H38 f0 f1
        go_upto_region 12 with fail
        have hM0 : FmS w g4 g24 q24 g3 g22 q22 N L T F gf qf M g30 gw W10.heap.size DS HS 0 (W10.alloc (.map #[] 0)) := by
          have hb := (Below.refl W10.heap.size W10).alloc (Nat.le_refl _) (.map #[] 0)
          exact ⟨HT10.out.next hb, HF10.out.next hb, HC10.out.next hb, HD10.out.next hb, ⟨0, _, AMap.made W10, Nat.le_refl _, SetK.start _⟩, HT10.out.b.size, HT10.out.d.lt, HT10.out.e.lt, HT10.out.l2, HT10.out.lh, HF10.out.lt, HC10.out.lt, HD10.out.lt⟩
        have HM0 := Lib.hid hM0
        obtain ⟨W11, hW11⟩ : ∃ W11, W10.alloc (.map #[] 0) = W11 := ⟨_, rfl⟩
        obtain ⟨Mb, hMb⟩ : ∃ Mb, W10.heap.size = Mb := ⟨_, rfl⟩
        rw [hW11, hMb] at HM0
        rw [hW11, hMb]
        clear hM0 hW11 hMb HT10 HF10 HC10 HD10 hmm
        go_wp2_with fail
        go_loopw [18] (fun i wr => ∃ k : Nat, k ≤ T ∧ i = .int .i64 (k : Int) ∧ FmS w g4 g24 q24 g3 g22 q22 N L T F gf qf M g30 gw Mb DS HS k wr) (fun i _ => T - (intOf i).toNat)
        case atStart => exact ⟨0, Nat.zero_le _, rfl, HM0.out⟩
        case round =>
          obtain ⟨k, hk, rfl, hS⟩ := hrel
          clear HM0
          have e1 := hS.st.e.cell' 1 rfl
          by_cases hlt : k < T
          · obtain ⟨X, hX⟩ : ∃ X, wr.heap.size = X := ⟨_, rfl⟩
            have hI0 : BoxAt (wr.alloc (.cells #[.bool false, .bool false, .bool false, .bool false, .bool false, .bool false, .bool false, .bool false, .bool false, .bool false] 142)) X (tenV (tenQ (tenF DS (nthN HS k)) 0)) 142 ∧ Below X wr (wr.alloc (.cells #[.bool false, .bool false, .bool false, .bool false, .bool false, .bool false, .bool false, .bool false, .bool false, .bool false] 142)) := by
              rw [tenQ_zero, ← hX]
              exact ⟨BoxAt.new _ _ _, (Below.refl _ _).alloc (Nat.le_refl _) _⟩
            have HI0 := Lib.hid hI0
            have HS' := Lib.hid hS
            have HX := Lib.hid hX
            clear hS hI0 hX
            go_upto_region 16 with fail
            rw [HX.out]
            go_wp2_with fail
            go_loopw [20] (fun i wz => ∃ q : Nat, q ≤ L ∧ i = .int .i64 (q : Int) ∧ BoxAt wz X (tenV (tenQ (tenF DS (nthN HS k)) q)) 142 ∧ Below X wr wz) (fun i _ => L - (intOf i).toNat)
            case atStart => exact ⟨0, Nat.zero_le _, rfl, HI0.out⟩
            case round =>
              obtain ⟨q, hq, rfl, hB, hbz⟩ := hrel
              clear HI0 e1
              have hbz2 := hbz
              rw [← HX.out] at hbz2
              have hSz := HS'.out.next hbz2
              have d1 := hSz.st.d.cell' 1 rfl
              have e1 := hSz.st.e.cell' 1 rfl
              by_cases hqs : q < L
              · have hqd : q < DS.length := by rw [HDl.out]; exact hqs
                have hkd : k < HS.length := by rw [HHl.out]; exact hlt
                have n1 := hSz.st.nd q hqd
                have n2 := hSz.st.nh k hkd
                rw [Nat.zero_add] at n1 n2
                have hx0 := hB.cell' q (tenV_get _ q (by omega))
                have hf0 := hB.frozen q
                have hrl := HVd.out.lt' q
                have hhl := HHk.out k hlt
                have hst := tenQ_succ (tenF DS (nthN HS k)) q (by omega) (bitN (nthN DS q) (nthN HS k)) (by unfold tenF; rw [decide_eq_true hqd, Bool.true_and])
                have hset := hB.set q (.bool (bitN (nthN DS q) (nthN HS k)))
                rw [hst] at hset
                obtain ⟨x, hx⟩ : ∃ x, nthN DS q = x := ⟨_, rfl⟩
                obtain ⟨h, hh⟩ : ∃ h, nthN HS k = h := ⟨_, rfl⟩
                have Hset := Lib.hid hset
                rw [hx] at n1 hrl Hset
                rw [hh] at n2 hhl
                have Hset := Lib.hid (show BoxAt (wr.setCell ⟨X, q, none⟩ (.bool (bitN x h))) X (tenV (tenQ (tenF DS (nthN HS k)) (q + 1))) 142 by rw [← hh]; exact Hset.out)
                have hsb := shr_bit x h (by omega)
                have hun : IntKind.u64.wrap (h : Int) = (h : Int) := IntWalk.u64_in _ (by omega)
                have Hbz := Lib.hid hbz
                have hXz := hB.lt
                clear hB hbz hbz2 hSz hst hset hx hh
                go_wp2_with fail
                go_region
                all_goals
                  (go_wp2_with fail
                   go_roundw
                   case rel => exact ⟨q + 1, by omega, by go_num, Hset.out, Hbz.out.drew.setCell (Nat.le_refl _) _⟩
                   case measure => simp [intOf]; omega)
              · obtain rfl : q = L := by omega
                have htq := tenQ_all DS (nthN HS k)
                rw [HDl.out] at htq
                rw [htq] at hB
                obtain ⟨W', hrun, hS2⟩ := hSz.step (by omega)
                obtain ⟨f, hf⟩ : ∃ f, tenF DS (nthN HS k) = f := ⟨_, rfl⟩
                rw [hf] at hB hrun
                unfold tenV at hB hrun
                have x0 := hB.cell' 0 rfl
                have x1 := hB.cell' 1 rfl
                have x2 := hB.cell' 2 rfl
                have x3 := hB.cell' 3 rfl
                have x4 := hB.cell' 4 rfl
                have x5 := hB.cell' 5 rfl
                have x6 := hB.cell' 6 rfl
                have x7 := hB.cell' 7 rfl
                have x8 := hB.cell' 8 rfl
                have x9 := hB.cell' 9 rfl
                have HS2 := Lib.hid hS2
                clear hB hbz hbz2 hSz hS2 htq hf
                go_wp2_with fail
                go_roundw
                case rel => exact ⟨k + 1, by omega, by go_num, HS2.out⟩
                case measure => simp [intOf]; omega
          · obtain rfl : k = T := by omega
            obtain ⟨q, S, hm, _, _⟩ := hS.map
            rw [HM2.out] at hm
            have hln := fun ty => hm.len ty
            have f0 := hS.f.cell' 0 rfl
            have H103 := Lib.hid (call103 L gw qw g30 q30 (clothS HS DS) wr (by rw [clothS_len]; exact HDl.out) (by omega) hS.c2.at' hS.c1.at' hS.c2.lt hS.c1.lt)
            have HS' := Lib.hid hS
            clear hS hm
            go_wp2_with fail
            refine H103.out.mono ?_
            rintro e W20 ⟨rfl, hb20⟩
            have hS20 := HS'.out.next hb20
            obtain ⟨q2, S2, hm2, _, _⟩ := hS20.map
            rw [HM2.out] at hm2
            have hln := fun ty => hm2.len ty
            have f0 := hS20.f.cell' 0 rfl
            have Hb20 := Lib.hid hS20.st.b
            clear hS20 hm2 hb20 H103 HS'
            go_wp2_with fail
            refine (armChain_any _).mono ?_
            rintro e W31 ⟨rfl, hb31⟩
            have Hb31 := Lib.hid (Hb20.out.trans (hb31.mono Hb20.out.size))
            clear hb31 f0 hln
            go_wp2_with fail
            refine (armTie_any _).mono ?_
            rintro e W32 ⟨rfl, hb32⟩
            have Hb32 := Lib.hid (Hb31.out.trans (hb32.mono Hb31.out.size))
            clear hb32
            go_wp2_with fail
            go_ret
            exact ⟨rfl, Hb32.out⟩
end Go.Proofs.Ytdmgffoikebgkaa
namespace Go.Proofs.Ytdmgffoikebgkaa
open Go.ChangeShapes Go.WideShapes Go.ChangeAt Go.RowKit Go.Joins

set_option maxRecDepth 100000 in
theorem TopFewHooks_lifted (os : Os) (started : os.Started) (H : Type) (enc : TypeId × Value → H) :
    ReturnsInHanded {} Try.checked os 20 .any (Rows.topFewHooksSpec.pre6 enc Try.prog Try.f20 Rows.topFewHooksRow.domain false) (Rows.topFewHooksSpec.post enc Try.prog Try.f20 false true false false) := by
  refine returnsInHanded_of_change (C := Try.checked) Try.own' started (by kernel_rfl) Try.func20
    (ChangeSpec.witness6 (enc := enc) (C := Try.checked) false ⟨#[], #[.agg #[.int .u8 0, .slice none 0 0, .slice none 0 0, .slice none 0 0]], []⟩ 8 (by kernel_rfl) (by kernel_rfl) (by kernel_rfl) (by kernel_rfl)) ?_
  intro W base args ds gs before hval0 hW hcnd _
  have hval : ∀ (j : Nat) t v, Try.f20.params[j]? = some t → args[j]? = some v → Value.okWide Try.prog W .any base t v := hval0
  have hW' := hW
  obtain ⟨p, q, hA0, hV, rfl, hfz, hnd⟩ := hW
  have hA : DataW.TrodAll enc Try.prog W 0 (fun _ => true) true Try.f20.params.toList args.toList ds p := hA0
  rw [Try.params20] at hA hval
  obtain ⟨v0, d0, rfl, rfl, h0⟩ := trodAll_one hA
  obtain ⟨rfl, rfl⟩ := trodVars_none hV
  obtain ⟨hk, a1, a2, a3, c1, c2, c3, ws, rs, sd, rfl, hH, hw1, hw2, hw3, hl1, hl2, hl3⟩ := loom_open (hval 0 137 v0 rfl rfl) h0
  clear hA0 hval0
  simp only [List.append_nil] at hW'
  have hlt : ∀ x ∈ p, x.block < W.heap.size := fun x hx => by simpa using hW'.lt x hx
  refine (TopFewHooks_any hk a1 a2 a3 c1 c2 c3 ws rs sd W hH hw1 hw2 hl1 hl2).mono fun e W' ⟨he, hB⟩ => ?_
  subst he
  refine ⟨_, rfl, _, _, _, [], p, [], hW', ?_, ?_, rfl, hB.frame _, fun h => by cases h⟩
  · exact trodAll_mk1 (shut_bool Try.underlying4 true)
  · exact trodAll_mk1 (Below.trod Try.laidOut' (by kernel_rfl) (of_decide_eq_true (by kernel_rfl)) h0 hB hlt)

theorem TopFewHooks_joined : joinedFacts Try.prog 20 Try.f20 Rows.topFewHooksSpec Rows.topFewHooksRow = true := by
  unfold joinedFacts
  rw [Try.enters', Try.lifts', Try.made']
  kernel_rfl
theorem TopFewHooks_holds : Rows.TopFewHooksSaid :=
  OpenClaim.holds_of_wide 20 Try.f20 rfl rfl rfl rfl rfl rfl rfl ⟨rfl, rfl, rfl, rfl, rfl⟩ rfl rfl rfl rfl rfl (by kernel_rfl) Try.func20 TopFewHooks_joined
    (of_decide_eq_true (by kernel_rfl)) (by unfold Func.isWrapper; first | (rw [if_pos (by decide +kernel)]; kernel_rfl) | (rw [if_neg (by decide +kernel)]; exact ⟨rfl, rfl⟩))
    (fun os started H enc _ => TopFewHooks_lifted os started H enc)
end Go.Proofs.Ytdmgffoikebgkaa
