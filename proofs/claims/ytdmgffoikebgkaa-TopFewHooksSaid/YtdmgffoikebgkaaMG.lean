/- Maps keyed by a struct of two numbers: 'm[k] += v' in whatever order its parts are done. -/
import Derived.Test.YtdmgffoikebgkaaPR
import Derived.Test.YtdmgffoikebgkaaVM
import Derived.WideKeyEntry
import Derived.Maps.RangeWalk
import Derived.Test.YtdmgffoikebgkaaCI
import Derived.Test.YtdmgffoikebgkaaPH
namespace Go.Proofs.Ytdmgffoikebgkaa
open Go.RowKit Go.Shelf Go.WideMaps Go.WideElems Go.ChangeMaps Go.MapKept Go.ChangeShapes Go.WideShapes
open Go.Maps (Keyed IsMap)

theorem setBlock_size (w : World) (b : Nat) (o : Obj) : (setBlock w b o).heap.size = w.heap.size := by simp [setBlock]
/-- the entry of a key is made as an update with what the key reads as makes it; and a store into the entry is an update -/
theorem entry_is_update {H : Type} {P : Program} {w : World} {t k e : TypeId} {R : Value → Option (DataW H × List MemPlace)} {b : Nat} {es : Array MapEntry} {clock : Nat}
    (K : KeyLaw P k) (ht : P.underlying t = some (.map k e)) {z : Value} (hz : ∀ u : World, (zeroValue e).run P u = .ok z u) (hb : w.heap[b]? = some (.map es clock)) (F : Fit P k R es clock)
    {key : Value} {kl : Lit} (hkey : keyOf P k key = some kl) :
    ∃ (v0 : Value) (st : Nat) (w1 : World), (Instr.mapEntry t (.map (some b)) key).run P w = .ok (.tuple #[v0, goInt st]) w1 ∧ (Instr.mapUpdate t (.map (some b)) key v0).run P w = .ok () w1 ∧
      (Instr.lookup t (.map (some b)) key false).run P w = .ok v0 w ∧
      ∀ (val : Value), ∃ w3, (Instr.entryStore t (.map (some b)) (goInt st) val).run P w1 = .ok () w3 ∧ (Instr.mapUpdate t (.map (some b)) key val).run P w = .ok () w3 := by
  have hlt : b < w.heap.size := (Array.getElem?_eq_some_iff.1 hb).1
  obtain ⟨v0, st, es1, clock1, h1, h2, h3⟩ := entry_then_store K ht hz hb F hkey
  have hset : ∀ o, (setBlock w b o).heap[b]? = some o := fun o => by simp [setBlock, hlt]
  have hset2 : ∀ o o', setBlock (setBlock w b o) b o' = setBlock w b o' := fun o o' => by simp [setBlock]
  refine ⟨v0, st, _, h1, ?_, ?_, fun val => ?_⟩
  · rcases K.find w hkey es.toList F.keys with ⟨n1, n2⟩ | ⟨j, e0, n1, n2, n3⟩
    · have hm : (Instr.mapEntry t (.map (some b)) key).run P w = .ok (.tuple #[z, goInt clock]) (setBlock w b (.map (es.push ⟨key, z, clock⟩) (clock + 1))) := by
        simp [Instr.mapEntry, run_underlying ht, MapKept.run_getObj_map hb, K.check w false hkey, n1, hz, MapKept.run_setObj_map _ hb, Result.andThen, setBlock]
      rw [h1] at hm
      simp only [Result.ok.injEq, Value.tuple.injEq] at hm
      obtain ⟨e1, e2⟩ := hm
      have e3 : v0 = z := by have := congrArg (fun a : Array Value => a[0]?) e1; simpa using this
      rw [e2, e3]
      simp [Instr.mapUpdate, run_underlying ht, MapKept.run_getObj_map hb, K.check w false hkey, n1, MapKept.run_setObj_map _ hb, Result.andThen, setBlock]
    · have hj : es[j]? = some e0 := by simpa using n2
      have hjl : j < es.size := (Array.getElem?_eq_some_iff.1 hj).1
      have hje : es[j] = e0 := (Array.getElem?_eq_some_iff.1 hj).2
      have hs1 : es.modify j (fun e => { e with key := key }) = es := by
        apply Array.ext
        · simp
        · intro i hi hi2
          rw [Array.getElem_modify]
          split
          · rename_i e; subst e; rw [hje, ← n3]
          · rfl
      have hs2 : es.modify j (fun e' => { e' with key := key, val := e0.val }) = es := by
        apply Array.ext
        · simp
        · intro i hi hi2
          rw [Array.getElem_modify]
          split
          · rename_i e; subst e; rw [hje, ← n3]
          · rfl
      have hm : (Instr.mapEntry t (.map (some b)) key).run P w = .ok (.tuple #[e0.val, goInt e0.born]) (setBlock w b (.map es clock)) := by
        simp [Instr.mapEntry, run_underlying ht, MapKept.run_getObj_map hb, K.check w false hkey, n1, hj, n3, K.stays w hkey, hs1, MapKept.run_setObj_map _ hb, Result.andThen, setBlock]
      rw [h1] at hm
      simp only [Result.ok.injEq, Value.tuple.injEq] at hm
      obtain ⟨e1, e2⟩ := hm
      have e3 : v0 = e0.val := by have := congrArg (fun a : Array Value => a[0]?) e1; simpa using this
      rw [e2, e3]
      simp [Instr.mapUpdate, run_underlying ht, MapKept.run_getObj_map hb, K.check w false hkey, n1, hj, n3, K.stays w hkey, hs2, MapKept.run_setObj_map _ hb, Result.andThen, setBlock]
  · rcases K.find w hkey es.toList F.keys with ⟨n1, n2⟩ | ⟨j, e0, n1, n2, n3⟩
    · have e1 : v0 = z := by
        rcases h2 with ⟨e0, m1, m2, _⟩ | ⟨_, e⟩
        · exact absurd m2 (n2 e0 m1)
        · exact e
      rw [e1]
      simp [Instr.lookup, run_underlying ht, MapKept.run_getObj_map hb, K.check w es.isEmpty hkey, n1, hz, Result.andThen]
    · have e1 : v0 = e0.val := by
        have hj : es[j]? = some e0 := by simpa using n2
        cases hr : (Instr.mapEntry t (.map (some b)) key).run P w with
        | halt h u => rw [h1] at hr; cases hr
        | ok a u =>
          have hm := hr
          simp [Instr.mapEntry, run_underlying ht, MapKept.run_getObj_map hb, K.check w false hkey, n1, hj, n3, K.stays w hkey, MapKept.run_setObj_map _ hb, Result.andThen] at hm
          rw [h1] at hr
          simp only [Result.ok.injEq] at hr
          rw [← hr.1] at hm
          simp at hm
          exact hm.1.1.symm
      rw [e1]
      simp [Instr.lookup, run_underlying ht, MapKept.run_getObj_map hb, K.check w es.isEmpty hkey, n1, Result.andThen]
  · obtain ⟨es', clock', h4, h5⟩ := h3 (setBlock w b (.map es1 clock1)) val (hset _)
    rw [hset2] at h4
    exact ⟨_, h4, h5⟩
end Go.Proofs.Ytdmgffoikebgkaa
namespace Go.Proofs.Ytdmgffoikebgkaa
open Go.RowKit Go.Shelf Go.WideMaps Go.ChangeMaps Go.ChangeShapes Go.WideShapes
open Go.Maps (Keyed IsMap)

theorem Try.stLaw : KeyLaw Try.prog 249 := deep_law_laid (m := 4) (by kernel_rfl) (by decide) (of_decide_eq_true (by kernel_rfl)) (by kernel_rfl) (by kernel_rfl)
theorem Try.stKeyed : Keyed Try.prog 249 := Keyed.of_law Try.stLaw
def stI (a f : Int) : Value := .agg #[.int .i64 a, .int .i64 f]
def stV (a f : Nat) : Value := .agg #[.int .i64 (a : Int), .int .i64 (f : Int)]
theorem stKey_of {a f : Int} (ha : (Lit.int .i64 a).wf = true) (hf : (Lit.int .i64 f).wf = true) : keyOf Try.prog 249 (stI a f) = some (.string (keyBytes [.int .i64 a, .int .i64 f])) := by
  unfold keyOf
  simp only [Try.underlying249]
  rw [if_pos (by simp only [Bool.and_eq_true]; exact ⟨by kernel_rfl, by unfold stI; simp [Value.formed, Try.underlying249]; kernel_rfl⟩)]
  obtain ⟨m, hm⟩ : ∃ m, Try.prog.types.size = m + 1 := ⟨Try.prog.types.size - 1, by kernel_rfl⟩
  rw [hm]
  unfold Program.keyLits
  simp only [Try.underlying249, stI, Value.cells]
  rw [if_pos ⟨by kernel_rfl, by kernel_rfl⟩]
  have c3 : Try.prog.cellsOf 3 = 1 := by kernel_rfl
  simp [Program.keyLits, Try.underlying3, ha, hf, c3]
theorem wf_nat {x : Nat} (hx : x ≤ 100000) : (Lit.int .i64 (x : Int)).wf = true := wf_small hx
theorem stKey_at {a f : Nat} (ha : a ≤ 100000) (hf : f ≤ 100000) : ∃ l, keyOf Try.prog 249 (stV a f) = some l := ⟨_, stKey_of (wf_small ha) (wf_small hf)⟩
theorem stKey_inj {a a' f f' : Int} {l l' : Lit} (h1 : keyOf Try.prog 249 (stI a f) = some l) (h2 : keyOf Try.prog 249 (stI a' f') = some l') (h : l = l') : a = a' ∧ f = f' := by
  subst h
  have := Try.stKeyed.inj h1 h2
  simpa [stI] using this
set_option maxRecDepth 100000 in
theorem stKey_inv {key : Value} {l : Lit} (h : keyOf Try.prog 249 key = some l) : ∃ x : Int × Int, key = stI x.1 x.2 := by
  unfold keyOf at h
  simp only [Try.underlying249] at h
  split at h
  · rename_i hc
    have c3 : Try.prog.cellsOf 3 = 1 := by kernel_rfl
    have c2 : Try.prog.cellsOf 249 = 2 := by kernel_rfl
    obtain ⟨m, hm⟩ : ∃ m, Try.prog.types.size = m + 1 := ⟨Try.prog.types.size - 1, by kernel_rfl⟩
    rw [hm] at h
    cases key with
    | agg cs =>
      obtain ⟨l0⟩ := cs
      unfold Program.keyLits at h
      simp only [Try.underlying249, Value.cells] at h
      split at h
      · rename_i hl
        obtain ⟨hl1, _⟩ := hl
        have hl2 := Eq.trans hl1 c2
        clear hl1
        match l0, hl2 with
        | [x, y], _ =>
          simp [Program.keyLits, Try.underlying3, c3] at h
          cases x with
          | int q1 a =>
            by_cases e1 : q1 = .i64 ∧ (Lit.int .i64 a).wf = true
            · obtain ⟨rfl, wa⟩ := e1
              cases y with
              | int q2 f =>
                by_cases e2 : q2 = .i64 ∧ (Lit.int .i64 f).wf = true
                · obtain ⟨rfl, _⟩ := e2
                  exact ⟨(a, f), rfl⟩
                · simp [wa, e2] at h
              | _ => simp [wa] at h
            · simp [e1] at h
          | _ => simp at h
      · simp at h
    | _ => simp [Value.formed, Try.underlying249] at hc
  · cases h
/-- what a map of counts says: the counts, and which keys are there -/
structure CntAt (D : DataW Nat) (L m : Nat) (c : Nat → Nat → Nat) (p : Nat → Nat → Bool) : Prop where
  map : IsMap D
  val : ∀ (a f : Nat) l, keyOf Try.prog 249 (stV a f) = some l → D.atKey l (.lit (.int .i64 0)) = .lit (.int .i64 (c a f : Int))
  has : ∀ (a f : Nat) l, keyOf Try.prog 249 (stV a f) = some l → Maps.has D l = p a f
  dom : ∀ (a f : Int) l, keyOf Try.prog 249 (stI a f) = some l → Maps.has D l = true → ∃ a' f' : Nat, a = (a' : Int) ∧ f = (f' : Int) ∧ a' < L ∧ f' ≤ m
  zero : ∀ a f, p a f = false → c a f = 0
def setC (c : Nat → Nat → Nat) (a f x : Nat) : Nat → Nat → Nat := fun a' f' => if a' = a ∧ f' = f then x else c a' f'
def setP (p : Nat → Nat → Bool) (a f : Nat) : Nat → Nat → Bool := fun a' f' => if a' = a ∧ f' = f then true else p a' f'
theorem CntAt.put {D : DataW Nat} {L m : Nat} {c : Nat → Nat → Nat} {p : Nat → Nat → Bool} (h : CntAt D L m c p) {a f : Nat} {l : Lit} (hl : keyOf Try.prog 249 (stV a f) = some l) (ha : a < L) (hf : f ≤ m) (x : Nat) :
    CntAt (D.put l (.lit (.int .i64 (x : Int)))) L m (setC c a f x) (setP p a f) := by
  have hk := Try.stKeyed.key hl
  refine ⟨h.map.put _ _, fun a' f' l' hl' => ?_, fun a' f' l' hl' => ?_, fun a' f' l' hl' hh => ?_, fun a' f' hp => ?_⟩
  · unfold setC
    by_cases e : a' = a ∧ f' = f
    · obtain ⟨rfl, rfl⟩ := e
      obtain rfl : l = l' := by rw [hl] at hl'; exact Option.some.inj hl'
      rw [if_pos ⟨rfl, rfl⟩]
      exact Maps.atKey_put_same h.map hk _ _
    · rw [if_neg e, Maps.atKey_put_other (fun k => e (by have := stKey_inj (a := a') (f := f') (a' := a) (f' := f) hl' hl k; omega))]
      exact h.val a' f' l' hl'
  · unfold setP
    by_cases e : a' = a ∧ f' = f
    · obtain ⟨rfl, rfl⟩ := e
      obtain rfl : l = l' := by rw [hl] at hl'; exact Option.some.inj hl'
      rw [if_pos ⟨rfl, rfl⟩]
      exact Maps.has_put_same h.map hk _
    · rw [if_neg e, Maps.has_put_other (fun k => e (by have := stKey_inj (a := a') (f := f') (a' := a) (f' := f) hl' hl k; omega))]
      exact h.has a' f' l' hl'
  · by_cases e : l' = l
    · have := stKey_inj (a := a') (f := f') (a' := a) (f' := f) hl' hl e
      exact ⟨a, f, this.1, this.2, ha, hf⟩
    · rw [Maps.has_put_other e] at hh
      exact h.dom a' f' l' hl' hh
  · unfold setP at hp
    unfold setC
    split at hp
    · cases hp
    · rename_i e; rw [if_neg e]; exact h.zero _ _ hp
def CMap (w : World) (b k L m : Nat) (c : Nat → Nat → Nat) (p : Nat → Nat → Bool) : Prop := ∃ D : DataW Nat, w.ownsMap Try.prog 249 (plainElem Try.prog 3) b k D ∧ CntAt D L m c p
theorem CMap.made (w : World) (L m : Nat) : CMap (w.alloc (.map #[] 0)) w.heap.size 0 L m (fun _ _ => 0) (fun _ _ => false) :=
  ⟨.map [], World.ownsMap_made w _ _ _, Maps.isMap_empty, (fun a f l _ => by
    rw [Maps.atKey_of_not_has]
    · rfl
    · rfl), (fun _ _ _ _ => rfl), (fun _ _ _ _ h => Bool.noConfusion h), (fun _ _ _ => rfl)⟩
theorem CMap.kept {w w' : World} {b k L m : Nat} {c : Nat → Nat → Nat} {p : Nat → Nat → Bool} {row : Option Nat} (h : CMap w b k L m c p) (hg : w.grownBy w' row) (hne : some b ≠ row) : CMap w' b k L m c p := by
  obtain ⟨D, h1, h2⟩ := h
  exact ⟨D, h1.kept hg hne, h2⟩
theorem CMap.next {w w' : World} {b k L m : Nat} {c : Nat → Nat → Nat} {p : Nat → Nat → Bool} (h : CMap w b k L m c p) (hb : Below w.heap.size w w') : CMap w' b k L m c p :=
  h.kept (row := none) ⟨hb.os, hb.tape, hb.output, hb.size, fun i hi _ => hb.block i hi⟩ (by simp)
theorem CMap.lt {w : World} {b k L m : Nat} {c : Nat → Nat → Nat} {p : Nat → Nat → Bool} (h : CMap w b k L m c p) : b < w.heap.size := by
  obtain ⟨D, h1, _⟩ := h; exact h1.lt
theorem CMap.lookup {w : World} {b k L m : Nat} {c : Nat → Nat → Nat} {p : Nat → Nat → Bool} (h : CMap w b k L m c p) {a f : Nat} (ha : a ≤ 100000) (hf : f ≤ 100000) :
    (Instr.lookup 246 (.map (some b)) (stV a f) false).run Try.prog w = .ok (.int .i64 (c a f : Int)) w := by
  obtain ⟨D, h1, h2⟩ := h
  obtain ⟨l, hl⟩ := stKey_at ha hf
  obtain ⟨n, hrun, hat, _⟩ := h1.lookup_int Try.stKeyed Try.underlying246 Try.underlying3 (by kernel_rfl) hl
  rw [h2.val a f l hl] at hat
  have : (c a f : Int) = n := by simpa using hat
  rw [this]; exact hrun
theorem CMap.update {w : World} {b k L m : Nat} {c : Nat → Nat → Nat} {p : Nat → Nat → Bool} (h : CMap w b k L m c p) {a f : Nat} (ha : a < L) (hf : f ≤ m) (hL : L ≤ 100000) (hm : m ≤ 100000) (x : Nat) (hx : x ≤ 100000) (hk : k ≤ 100000) :
    ∃ w', (Instr.mapUpdate 246 (.map (some b)) (stV a f) (.int .i64 (x : Int))).run Try.prog w = .ok () w' ∧ CMap w' b (k + 1) L m (setC c a f x) (setP p a f) ∧ w.grownBy w' (some b) := by
  obtain ⟨D, h1, h2⟩ := h
  obtain ⟨l, hl⟩ := stKey_at (a := a) (f := f) (by omega) (by omega)
  obtain ⟨w', r1, r2, r3⟩ := h1.update (val := .int .i64 (x : Int)) Try.stKeyed Try.underlying246 (by unfold maxLen; omega) hl (plainElem_int Try.underlying3 (wf_small hx))
  exact ⟨w', r1, ⟨_, r2, h2.put hl ha hf x⟩, r3⟩
end Go.Proofs.Ytdmgffoikebgkaa
/- Maps of counts: an entry that is made and filled; a range over such a map, in whatever order. -/
namespace Go.Proofs.Ytdmgffoikebgkaa
open Go.RowKit Go.Shelf Go.WideMaps Go.ChangeMaps Go.ChangeShapes Go.WideShapes
open Go.Maps (Keyed IsMap)

theorem setC_self (c : Nat → Nat → Nat) (a f : Nat) : setC c a f (c a f) = c := by
  funext a' f'
  unfold setC
  split
  · rename_i e; rw [e.1, e.2]
  · rfl
theorem CMap.entry {w : World} {b k L m : Nat} {c : Nat → Nat → Nat} {p : Nat → Nat → Bool} (h : CMap w b k L m c p) {a f : Nat} (ha : a < L) (hf : f ≤ m) (hL : L ≤ 100000) (hm : m ≤ 100000) (hc : c a f ≤ 100000) (hk : k ≤ 100000) :
    ∃ (st : Nat) (w1 : World), (Instr.mapEntry 246 (.map (some b)) (stV a f)).run Try.prog w = .ok (.tuple #[.int .i64 (c a f : Int), goInt st]) w1 ∧ CMap w1 b (k + 1) L m c (setP p a f) ∧ w.grownBy w1 (some b) ∧
      ∀ x : Nat, x ≤ 100000 → ∃ w3, (Instr.entryStore 246 (.map (some b)) (goInt st) (.int .i64 (x : Int))).run Try.prog w1 = .ok () w3 ∧ CMap w3 b (k + 1) L m (setC c a f x) (setP p a f) ∧ w.grownBy w3 (some b) := by
  have hlk := h.lookup (a := a) (f := f) (by omega) (by omega)
  have hup := h.update ha hf hL hm
  obtain ⟨D, h1, h2⟩ := h
  obtain ⟨l, hl⟩ := stKey_at (a := a) (f := f) (by omega) (by omega)
  obtain ⟨es, clock, hb, F, hs, hD⟩ := h1
  obtain ⟨v0, st, w1, e1, e2, e3, e4⟩ := entry_is_update Try.stLaw Try.underlying246 (z := .int .i64 0) (fun u => by kernel_rfl) hb F hl
  rw [hlk] at e3
  simp only [Result.ok.injEq, and_true] at e3
  subst e3
  obtain ⟨w1', r1, r2, r3⟩ := hup (c a f) hc hk
  rw [e2] at r1
  simp only [Result.ok.injEq, true_and] at r1
  subst r1
  rw [setC_self] at r2
  refine ⟨st, w1, e1, r2, r3, fun x hx => ?_⟩
  obtain ⟨w3, s1, s2⟩ := e4 (.int .i64 (x : Int))
  obtain ⟨w3', t1, t2, t3⟩ := hup x hx hk
  rw [s2] at t1
  simp only [Result.ok.injEq, true_and] at t1
  subst t1
  exact ⟨w3, s1, t2, t3⟩
/-- a range over a map of counts: which keys are done -/
def Rng (w : World) (b r n L m : Nat) (c : Nat → Nat → Nat) (p d : Nat → Nat → Bool) (cnt : Nat) : Prop :=
  ∃ (D : DataW Nat) (left : Lit → Bool), w.ranges Try.prog 249 (plainElem Try.prog 3) b r n D left cnt ∧ CntAt D L m c p ∧
    (∀ (a f : Nat) l, keyOf Try.prog 249 (stV a f) = some l → left l = (p a f && !d a f)) ∧ (∀ l, left l = true → Maps.has D l = true)
theorem Rng.kept {w w' : World} {b r n L m : Nat} {c : Nat → Nat → Nat} {p d : Nat → Nat → Bool} {cnt : Nat} {row : Option Nat} (h : Rng w b r n L m c p d cnt) (hg : w.grownBy w' row) (h1 : some b ≠ row) (h2 : some r ≠ row) : Rng w' b r n L m c p d cnt := by
  obtain ⟨D, left, a1, a2, a3, a4⟩ := h
  exact ⟨D, left, a1.kept hg h1 h2, a2, a3, a4⟩
theorem Rng.next {w w' : World} {b r n L m : Nat} {c : Nat → Nat → Nat} {p d : Nat → Nat → Bool} {cnt : Nat} (h : Rng w b r n L m c p d cnt) (hb : Below w.heap.size w w') : Rng w' b r n L m c p d cnt :=
  h.kept (row := none) ⟨hb.os, hb.tape, hb.output, hb.size, fun i hi _ => hb.block i hi⟩ (by simp) (by simp)
theorem Rng.left_eq {w : World} {b r n L m : Nat} {c : Nat → Nat → Nat} {p d : Nat → Nat → Bool} {cnt : Nat} (h : Rng w b r n L m c p d cnt) : w.rangeLeft b r = cnt := by
  obtain ⟨D, left, a1, _⟩ := h; exact a1.left_eq
theorem Rng.lt {w : World} {b r n L m : Nat} {c : Nat → Nat → Nat} {p d : Nat → Nat → Bool} {cnt : Nat} (h : Rng w b r n L m c p d cnt) : r < w.heap.size := by
  obtain ⟨D, left, a1, _⟩ := h; exact a1.lt
theorem Rng.ltb {w : World} {b r n L m : Nat} {c : Nat → Nat → Nat} {p d : Nat → Nat → Bool} {cnt : Nat} (h : Rng w b r n L m c p d cnt) : b < w.heap.size := by
  obtain ⟨D, left, a1, _⟩ := h; exact a1.owns.lt
section
variable {ops : Array Oper} {rest : List Oper} {o : Oper} {act : Act} {Q : Exit → Act → World → Prop} {w : World}
theorem wpList_range_st (hg : o.guard = none) (mo : Operand) (hop : o.op = Op.range 246 mo) {b k L m : Nat} {c : Nat → Nat → Nat} {p : Nat → Nat → Bool} (hm : act.eval mo = .map (some b)) (h : CMap w b k L m c p)
    (hK : ∀ w' cnt, Rng w' b w.heap.size k L m c p (fun _ _ => false) cnt → w.grownBy w' none → w'.heap.size = w.heap.size + 1 → wpList Try.prog ops Q rest (act.put o.dst (.pointer (some ⟨w.heap.size, 0, none⟩))) w') :
    wpList Try.prog ops Q (o :: rest) act w := by
  obtain ⟨D, h1, h2⟩ := h
  refine wpList_range_own w hg mo 246 hop 249 3 Try.stKeyed Try.underlying246 _ b k D hm h1 fun w' r1 r2 r3 => ?_
  exact hK w' _ ⟨D, _, r1, h2, fun a f l hl => by rw [h2.has a f l hl]; simp, fun l hl => hl⟩ r2 r3
theorem wpList_next_st (hg : o.guard = none) (it : Operand) (hop : o.op = Op.next it false) {b r n L m : Nat} {c : Nat → Nat → Nat} {p d : Nat → Nat → Bool} {cnt : Nat} (hL : L ≤ 100000) (hm : m ≤ 100000) (hit : act.eval it = .pointer (some ⟨r, 0, none⟩)) (h : Rng w b r n L m c p d cnt)
    (hDone : (∀ a f, a < L → f ≤ m → p a f = true → d a f = true) → wpList Try.prog ops Q rest (act.put o.dst (.tuple #[.bool false])) w)
    (hMore : ∀ (a f : Nat) (w' : World) (cnt' : Nat), a < L → f ≤ m → p a f = true → d a f = false → Rng w' b r n L m c p (setP d a f) cnt' → cnt' < cnt → w.grownBy w' (some r) → w'.heap.size = w.heap.size →
      (Instr.entry (.pointer (some ⟨r, 0, none⟩))).run Try.prog w' = .ok (.tuple #[stV a f, .int .i64 (c a f : Int)]) w' → wpList Try.prog ops Q rest (act.put o.dst (.tuple #[.bool true, stV a f, .int .i64 (c a f : Int)])) w') :
    wpList Try.prog ops Q (o :: rest) act w := by
  obtain ⟨D, left, a1, a2, a3, a4⟩ := h
  refine wpList_next_ranges w hg it hop 249 Try.stKeyed (plainElem Try.prog 3) (fun x : Int × Int => stI x.1 x.2) (Value.int .i64) (fun key kl hk => stKey_inv hk) (fun v y hv => by obtain ⟨x, rfl, _⟩ := plainElem_int_inv Try.underlying3 hv; exact ⟨x, rfl⟩)
    b r n D left cnt hit a1 (fun _ hl => hDone fun a f ha hf hp => ?_) fun x v kl y w' cnt' hkey hlk hv hat hrg hlt hgr hsz hen => ?_
  · obtain ⟨l, hl'⟩ := stKey_at (a := a) (f := f) (by omega) (by omega)
    have := a3 a f l hl'
    rw [hl l, hp] at this
    simpa using this.symm
  · obtain ⟨a, f, e1, e2, ha, hf⟩ := a2.dom x.1 x.2 kl hkey (a4 kl hlk)
    have hx : stI x.1 x.2 = stV a f := by rw [e1, e2]; rfl
    rw [hx] at hkey hen ⊢
    have hl2 := a3 a f kl hkey
    rw [hlk] at hl2
    have hpd : p a f = true ∧ d a f = false := by
      cases hp : p a f <;> cases hd : d a f <;> simp [hp, hd] at hl2 <;> simp
    have hval := a2.val a f kl hkey
    rw [hat] at hval
    obtain ⟨x', ex, hy, _⟩ := plainElem_int_inv Try.underlying3 hv
    rw [hy] at hval
    simp at hval
    simp at ex
    obtain rfl : v = (c a f : Int) := by rw [ex]; exact hval
    refine hMore a f w' cnt' ha hf hpd.1 hpd.2 ⟨D, _, hrg, a2, fun a' f' l' hl' => ?_, fun l' hl' => ?_⟩ hlt hgr hsz hen
    · rw [a3 a' f' l' hl']
      unfold setP
      by_cases e : a' = a ∧ f' = f
      · obtain ⟨rfl, rfl⟩ := e
        obtain rfl : kl = l' := by rw [hkey] at hl'; exact Option.some.inj hl'
        rw [WideAt.sameKey_self (Try.stKeyed.key hkey)]
        simp
      · rw [if_neg e]
        have hne : l' ≠ kl := fun h => e (by have := stKey_inj (a := a') (f := f') (a' := a) (f' := f) hl' hkey h; omega)
        rw [Maps.sameKey_ne hne]
        simp
    · exact a4 l' (by simp at hl'; exact hl'.1)
end
end Go.Proofs.Ytdmgffoikebgkaa
/- Package chain: whether a pick is woven at a card, faults of a step. -/
namespace Go.Proofs.Ytdmgffoikebgkaa
open Go.RowKit Go.Shelf
attribute [local go_sem] Oper.semAt_some

def wv (pick : Int) (row : Nat) : Bool := pick == -1 || pick == (row : Int)
set_option maxHeartbeats 1000000 in
theorem weaves_any (n g c a : Nat) (pick : Int) (cs : List Card) (w : World) (hv : BAt w g n cs) (ha : a < cs.length) :
    Calls Try.prog 203 #[.agg #[.int .i64 (n : Int), .int .i64 (cs.length : Int), .slice (some ⟨g, 0, none⟩) cs.length c, .int .i64 (a : Int)], .int .i64 pick] w fun e w' => e = .returned (.bool (wv pick (liftN n (nthC cs a)))) ∧ Below w.heap.size w w' := by
  have hb1 : Below w.heap.size w (w.alloc (.cells #[.int .i64 (n : Int), .int .i64 (cs.length : Int), .slice (some ⟨g, 0, none⟩) cs.length c, .int .i64 (a : Int)] 214)) := (Below.refl _ _).alloc (Nat.le_refl _) _
  have HR := Lib.hid (cylRow_any n g c a cs _ (hv.next hb1) ha)
  have Hb1 := Lib.hid hb1
  unfold wv
  clear hv hb1
  by_cases hp : pick = -1
  · have h1 : (pick == -1) = true := by simpa using hp
    rw [h1, Bool.true_or]
    subst hp
    clear h1 HR
    go_enter Try.func203, Try.ntmps203
    go_wp2_with fail
    go_ret
    exact ⟨rfl, Hb1.out⟩
  · have h1 : (pick == -1) = false := by simpa using hp
    rw [h1, Bool.false_or]
    go_enter Try.func203, Try.ntmps203
    go_wp2_with fail
    refine HR.out.mono ?_
    rintro e w' ⟨rfl, hb⟩
    have Hb := Lib.hid (Hb1.out.trans (hb.mono Hb1.out.size))
    clear hb
    go_wp2_with fail
    go_ret
    exact ⟨rfl, Hb.out⟩
def flt (s : Nat) : Nat := if s = 1 then 0 else 1
theorem faultsOf_one (B s : Nat) (w : World) (hc : w.cell? ⟨B, 0, none⟩ = some (.int .i64 (s : Int))) :
    Calls Try.prog 224 #[.slice (some ⟨B, 0, none⟩) 1 1] w fun e w' => e = .returned (.int .i64 (flt s : Int)) ∧ w = w' := by
  unfold flt
  by_cases hs : s = 1
  · rw [if_pos hs]
    subst hs
    go_enter Try.func224, Try.ntmps224
    go_wp2_with fail
    refine wp_loop_rounds 2 ?_
    rw [rounds_succ]
    go_wp2_with fail
    rw [rounds_succ]
    go_wp2_with fail
    go_ret
    exact ⟨rfl, rfl⟩
  · rw [if_neg hs]
    have h1 : ((s : Int) != 1) = true := by simp; omega
    go_enter Try.func224, Try.ntmps224
    go_wp2_with fail
    refine wp_loop_rounds 2 ?_
    rw [rounds_succ]
    go_wp2_with fail
    rw [rounds_succ]
    go_wp2_with fail
    go_ret
    exact ⟨rfl, rfl⟩
end Go.Proofs.Ytdmgffoikebgkaa
/- Regions that draw their order: an invariant of what has been done and of what the slots hold; 'm[k] += n'. -/
namespace Go.Proofs.Ytdmgffoikebgkaa
open Go.RowKit Go.Shelf

/-- each operation lays its own slot, or none -/
def dN (ops : Array Oper) (ds : List Nat) : Bool := (List.range ops.size).all fun i => match ops[i]? with
  | some o => (o.dst == some (atL ds i) || o.dst == none) && o.guard.isNone
  | none => true
theorem dN_of {ops : Array Oper} {ds : List Nat} (h : dN ops ds = true) (i : Nat) (o : Oper) (ho : ops[i]? = some o) : (o.dst = some (atL ds i) ∨ o.dst = none) ∧ o.guard = none := by
  have hi : i < ops.size := (Array.getElem?_eq_some_iff.1 ho).1
  unfold dN at h
  rw [List.all_eq_true] at h
  have := h i (by simpa using hi)
  rw [ho] at this
  simpa using this
def MStep (Q : Exit → Act → World → Prop) (outs : List (Nat × Value)) (ds : List Nat) (I : Array Bool → (Nat → Value) → World → Prop) (i : Nat) (o : Oper) : Prop :=
  ∀ (a : Act) (v : Nat → Value) (L : Array Bool) (W : World) (K : Act → World → Prop), I L v W → (∀ q ∈ outs, a.tmps[q.1]?.getD undef = q.2) → L.getD i true = false →
    (∀ j, depB o j = true → L.getD j true = true ∧ a.tmps[atL ds j]?.getD undef = v j) →
    (∀ x W', I (L.setIfInBounds i true) (fun j => if j = i ∧ o.dst ≠ none then x else v j) W' → K (a.put o.dst x) W') → Oper.wp Try.prog o a W K Q
set_option maxRecDepth 4000 in
theorem region_master {id : Nat} {ops : Array Oper} {Q : Exit → Act → World → Prop} {a : Act} {w : World} (ds : List Nat) (outs : List (Nat × Value)) (I : Array Bool → (Nat → Value) → World → Prop)
    (hlen : ds.length = ops.size) (hb : backB ops = true) (hd : dN ops ds = true) (hnd : ds.Nodup) (hsz : ∀ e ∈ ds, e < a.tmps.size) (hout : ∀ q ∈ outs, a.eval (.tmp q.1) = q.2 ∧ q.1 ∉ ds)
    (h0 : ∀ v, I (Array.replicate ops.size false) v w.drew)
    (hstep : ∀ (i : Nat) (o : Oper), ops[i]? = some o → MStep Q outs ds I i o)
    (hend : ∀ L v W, I L (fun j => if j < ops.size then v (atL ds j) else undef) W → (∀ i, i < ops.size → L.getD i true = true) → Q .normal (laid a ds v) W) :
    (Code.region id ops true).wp Try.prog Q a w := by
  refine wp_region_laid ds outs (fun L v W => I L (fun j => if j < ops.size then v (atL ds j) else undef) W) (by kernel_rfl) (back_of hb) hnd hsz hout ?_ (h0 _) ?_ hend
  · intro i o ho e he
    rcases (dN_of hd i o ho).1 with h | h
    · rw [h] at he
      obtain rfl := Option.some.inj he
      exact atL_mem _ _ (by rw [hlen]; exact (Array.getElem?_eq_some_iff.1 ho).1)
    · rw [h] at he; cases he
  · intro i o ho L v W a' hJ hv hq hL hdp K hK
    have hi : i < ops.size := (Array.getElem?_eq_some_iff.1 ho).1
    obtain ⟨hdo, hgo⟩ := dN_of hd i o ho
    have hw : Region.wanted o (yielded ops a'.tmps) = true := by
      obtain ⟨dd, op, ty, pos, aft, g⟩ := o
      simp only at hgo
      subst hgo
      rfl
    rw [if_pos hw]
    refine hstep i o ho a' _ L W K hJ hq hL (fun j hj => ?_) fun x W' hI => hK x W' ?_
    · have hji : j < i := by
        unfold depB at hj
        rw [Array.any_eq_true'] at hj
        obtain ⟨e, he, h2⟩ := hj
        rw [Bool.and_eq_true, beq_iff_eq] at h2
        have := back_of hb i o ho e he h2.1
        omega
      refine ⟨dep_of hdp j hj, ?_⟩
      rw [if_pos (by omega)]
      exact hv _ (atL_mem _ _ (by omega))
    · have e : (fun j => if j < ops.size then updO v o.dst x (atL ds j) else undef) = (fun j => if j = i ∧ o.dst ≠ none then x else if j < ops.size then v (atL ds j) else undef) := by
        funext j
        rcases hdo with h | h
        · rw [h, upd_some]
          by_cases hj : j < ops.size
          · rw [if_pos hj, if_pos hj]
            by_cases e : j = i
            · subst e; rw [if_pos rfl, if_pos ⟨rfl, by simp⟩]
            · rw [if_neg (fun h => e (atL_inj hnd (by omega) (by omega) h)), if_neg (fun h => e h.1)]
          · rw [if_neg hj, if_neg hj, if_neg (fun h => hj (by omega))]
        · rw [h]
          simp [updO]
      show I (L.setIfInBounds i true) (fun j => if j < ops.size then updO v o.dst x (atL ds j) else undef) W'
      rw [e]
      exact hI
section
variable {Q : Exit → Act → World → Prop} {K : Act → World → Prop} {a : Act} {W : World} {d s t : Nat} {ty : TypeId} {pos : String} {aft : Array Edge}
theorem step_lookup {T : TypeId} {x y z : Value} {W' : World} (hs : a.tmps[s]?.getD undef = x) (ht : a.tmps[t]?.getD undef = y) (hr : (Instr.lookup T x y false).run Try.prog W = .ok z W') (hK : K (a.put (some d) z) W') : Oper.wp Try.prog ⟨some d, .lookup T (.tmp s) (.tmp t) false, ty, pos, aft, none⟩ a W K Q := by
  have e : a.eval (.tmp s) = x := by rw [eval_tmp]; exact hs
  have e2 : a.eval (.tmp t) = y := by rw [eval_tmp]; exact ht
  unfold Oper.wp
  simp [execOp, e, e2, hr, Result.andThen]
  exact hK
theorem step_mapEntry {T : TypeId} {x y z : Value} {W' : World} (hs : a.tmps[s]?.getD undef = x) (ht : a.tmps[t]?.getD undef = y) (hr : (Instr.mapEntry T x y).run Try.prog W = .ok z W') (hK : K (a.put (some d) z) W') : Oper.wp Try.prog ⟨some d, .mapEntry T (.tmp s) (.tmp t), ty, pos, aft, none⟩ a W K Q := by
  have e : a.eval (.tmp s) = x := by rw [eval_tmp]; exact hs
  have e2 : a.eval (.tmp t) = y := by rw [eval_tmp]; exact ht
  unfold Oper.wp
  simp [execOp, e, e2, hr, Result.andThen]
  exact hK
theorem step_entryStore {u : Nat} {T : TypeId} {x y z : Value} {W' : World} (hs : a.tmps[s]?.getD undef = x) (ht : a.tmps[t]?.getD undef = y) (hu : a.tmps[u]?.getD undef = z) (hr : (Instr.entryStore T x y z).run Try.prog W = .ok () W') (hK : K a W') : Oper.wp Try.prog ⟨none, .entryStore T (.tmp s) (.tmp t) (.tmp u), ty, pos, aft, none⟩ a W K Q := by
  have e : a.eval (.tmp s) = x := by rw [eval_tmp]; exact hs
  have e2 : a.eval (.tmp t) = y := by rw [eval_tmp]; exact ht
  have e3 : a.eval (.tmp u) = z := by rw [eval_tmp]; exact hu
  unfold Oper.wp
  simp [execOp, e, e2, e3, hr, Result.andThen]
  exact hK
theorem step_add {x y : Int} (hs : a.tmps[s]?.getD undef = .int .i64 x) (ht : a.tmps[t]?.getD undef = .int .i64 y) (h1 : 0 ≤ x) (h2 : 0 ≤ y) (h3 : x + y ≤ 1000000) (hK : K (a.put (some d) (.int .i64 (x + y))) W) : Oper.wp Try.prog ⟨some d, .binOp .add 3 (.tmp s) (.tmp t) 3, ty, pos, aft, none⟩ a W K Q := by
  have e : a.eval (.tmp s) = .int .i64 x := by rw [eval_tmp]; exact hs
  have e2 : a.eval (.tmp t) = .int .i64 y := by rw [eval_tmp]; exact ht
  have HK := Lib.hid hK
  clear hK hs ht
  unfold Oper.wp
  simp only [execOp, e, e2]
  go_simp
  rw [show IntKind.i64.wrap (x + y) = x + y from IntWalk.i64_in _ (by omega)]
  exact HK.out
theorem step_load249 {B : Nat} {x y : Int} (hs : a.tmps[s]?.getD undef = .pointer (some ⟨B, 0, none⟩)) (hb : BoxAt W B #[.int .i64 x, .int .i64 y] 249)
    (hK : K (a.put (some d) (.agg #[.int .i64 x, .int .i64 y])) W) : Oper.wp Try.prog ⟨some d, .load 249 (.tmp s), ty, pos, aft, none⟩ a W K Q := by
  have e : a.eval (.tmp s) = .pointer (some ⟨B, 0, none⟩) := by rw [eval_tmp]; exact hs
  have c0 := hb.cell' 0 rfl
  have c1 := hb.cell' 1 rfl
  clear hb hs
  unfold Oper.wp
  simp only [execOp, e]
  go_simp
  exact hK
end
/-- how far 'm[k] += n' has come -/
def Bump (W0 W1 W2 : World) (L : Array Bool) (W : World) : Prop :=
  (L.getD 7 true = true → ∀ i, i < 7 → L.getD i true = true) ∧ W = (if L.getD 7 true = true then W2 else if L.getD 5 true = true then W1 else W0)
def bumpF (b : Nat) (key : Value) (c n st : Nat) : Nat → Value → Prop
  | 0, v => v = .map (some b)
  | 1, v => v = key
  | 2, v => v = .int .i64 (c : Int)
  | 3, v => v = .int .i64 (n : Int)
  | 4, v => v = .int .i64 ((c : Int) + (n : Int))
  | 5, v => v = .tuple #[.int .i64 (c : Int), goInt st]
  | _, v => v = goInt st
theorem Bump.pure {W0 W1 W2 W : World} {L : Array Bool} (h : Bump W0 W1 W2 L W) {i : Nat} (hi : i < 7) (h5 : i ≠ 5) (hL : L.getD i true = false) : Bump W0 W1 W2 (L.setIfInBounds i true) W := by
  have h7 : L.getD 7 true = false := by
    cases h7 : L.getD 7 true with
    | false => rfl
    | true => rw [h.1 h7 i hi] at hL; cases hL
  have e7 : (L.setIfInBounds i true).getD 7 true = false := by rw [set_getD, h7]; simp; omega
  have e5 : (L.setIfInBounds i true).getD 5 true = L.getD 5 true := by rw [set_getD]; simp; omega
  refine ⟨(fun h => by rw [e7] at h; cases h), ?_⟩
  rw [e7, e5]
  have := h.2
  rw [h7] at this
  exact this
theorem bump_vals {F : Nat → Value → Prop} {L : Array Bool} {v : Nat → Value} (h : ∀ j, j < 7 → L.getD j true = true → F j (v j)) {i : Nat} {x : Value} {o : Option Tmp} (ho : o ≠ none) (hx : F i x) :
    ∀ j, j < 7 → (L.setIfInBounds i true).getD j true = true → F j ((fun j => if j = i ∧ o ≠ none then x else v j) j) := by
  intro j hj hL
  show F j (if j = i ∧ o ≠ none then x else v j)
  by_cases e : j = i
  · subst e; rw [if_pos ⟨rfl, ho⟩]; exact hx
  · rw [if_neg (fun h => e h.1)]
    rw [set_getD] at hL
    exact h j hj (by simpa [e] using hL)
set_option maxRecDepth 8000 in
set_option maxHeartbeats 1000000 in
theorem region_bump {id : Nat} {ops : Array Oper} {Q : Exit → Act → World → Prop} {a : Act} {w W1 W2 : World} (ds : List Nat) (ms ks vs b B x y c n st : Nat)
    (hsize : ops.size = 8)
    (hops : IsO ops 0 (atL ds 0) (.move (.tmp ms)) [] ∧ IsO ops 1 (atL ds 1) (.load 249 (.tmp ks)) [] ∧ IsO ops 2 (atL ds 2) (.lookup 246 (.tmp (atL ds 0)) (.tmp (atL ds 1)) false) [0, 1] ∧ IsO ops 3 (atL ds 3) (.move (.tmp vs)) [] ∧
      IsO ops 4 (atL ds 4) (.binOp .add 3 (.tmp (atL ds 2)) (.tmp (atL ds 3)) 3) [2, 3] ∧ IsO ops 5 (atL ds 5) (.mapEntry 246 (.tmp (atL ds 0)) (.tmp (atL ds 1))) [0, 1] ∧ IsO ops 6 (atL ds 6) (.extract (.tmp (atL ds 5)) 1) [5] ∧
      ∃ ty pos aft, ops[7]? = some ⟨none, .entryStore 246 (.tmp (atL ds 0)) (.tmp (atL ds 6)) (.tmp (atL ds 4)), ty, pos, aft, none⟩ ∧ [0, 1, 2, 3, 4, 5, 6].all (depB ⟨none, .entryStore 246 (.tmp (atL ds 0)) (.tmp (atL ds 6)) (.tmp (atL ds 4)), ty, pos, aft, none⟩) = true)
    (hlen : ds.length = 8) (hb : backB ops = true) (hd : dN ops ds = true) (hnd : ds.Nodup) (hsz : ∀ e ∈ ds, e < a.tmps.size)
    (hout : a.eval (.tmp ms) = .map (some b) ∧ ms ∉ ds ∧ a.eval (.tmp ks) = .pointer (some ⟨B, 0, none⟩) ∧ ks ∉ ds ∧ a.eval (.tmp vs) = .int .i64 (n : Int) ∧ vs ∉ ds)
    (hB0 : BoxAt w.drew B #[.int .i64 (x : Int), .int .i64 (y : Int)] 249) (hB1 : BoxAt W1 B #[.int .i64 (x : Int), .int .i64 (y : Int)] 249) (hcn : c + n ≤ 1000000)
    (hl0 : (Instr.lookup 246 (.map (some b)) (stV x y) false).run Try.prog w.drew = .ok (.int .i64 (c : Int)) w.drew) (hl1 : (Instr.lookup 246 (.map (some b)) (stV x y) false).run Try.prog W1 = .ok (.int .i64 (c : Int)) W1)
    (hent : (Instr.mapEntry 246 (.map (some b)) (stV x y)).run Try.prog w.drew = .ok (.tuple #[.int .i64 (c : Int), goInt st]) W1)
    (hsto : (Instr.entryStore 246 (.map (some b)) (goInt st) (.int .i64 ((c : Int) + (n : Int)))).run Try.prog W1 = .ok () W2)
    (hend : ∀ v, Q .normal (laid a ds v) W2) :
    (Code.region id ops true).wp Try.prog Q a w := by
  obtain ⟨h0, h1, h2, h3, h4, h5, h6, ty7, pos7, aft7, e7, d7⟩ := hops
  obtain ⟨o0, p0, o1, p1, o2, p2⟩ := hout
  refine region_master ds [(ms, .map (some b)), (ks, .pointer (some ⟨B, 0, none⟩)), (vs, .int .i64 (n : Int))] (fun L v W => Bump w.drew W1 W2 L W ∧ ∀ j, j < 7 → L.getD j true = true → bumpF b (stV x y) c n st j (v j)) (by rw [hlen, hsize]) hb hd hnd hsz ?_ ?_ ?_ ?_
  · intro q hq
    simp only [List.mem_cons, List.not_mem_nil, or_false] at hq
    rcases hq with rfl | rfl | rfl
    · exact ⟨o0, p0⟩
    · exact ⟨o1, p1⟩
    · exact ⟨o2, p2⟩
  · intro v
    refine ⟨⟨fun h => ?_, ?_⟩, fun j hj h => ?_⟩
    · simp [hsize] at h
    · simp [hsize]
    · simp [hsize, show j < 8 by omega] at h
  · intro i o ho
    have hi : i < 8 := by rw [← hsize]; exact (Array.getElem?_eq_some_iff.1 ho).1
    have hW : ∀ {L W}, Bump w.drew W1 W2 L W → ∀ i, i < 7 → L.getD i true = false → W = w.drew ∧ L.getD 5 true = false ∨ W = W1 ∧ L.getD 5 true = true := fun {L W} h i hi hL => by
      have h7 : L.getD 7 true = false := by
        cases h7 : L.getD 7 true with
        | false => rfl
        | true => rw [h.1 h7 i hi] at hL; cases hL
      have := h.2
      rw [h7] at this
      cases h5 : L.getD 5 true with
      | false => rw [h5] at this; exact .inl ⟨by simpa using this, rfl⟩
      | true => rw [h5] at this; exact .inr ⟨by simpa using this, rfl⟩
    match i, hi with
    | 0, _ =>
      obtain ⟨ty, pos, aft, e, hdp⟩ := h0
      rw [e] at ho
      obtain rfl := Option.some.inj ho
      intro a' v L W K hI hq hL hdd hK
      exact step_move (hq (ms, _) (by simp)) (hK _ _ ⟨hI.1.pure (by omega) (by omega) hL, bump_vals hI.2 (by simp) rfl⟩)
    | 1, _ =>
      obtain ⟨ty, pos, aft, e, hdp⟩ := h1
      rw [e] at ho
      obtain rfl := Option.some.inj ho
      intro a' v L W K hI hq hL hdd hK
      refine step_load249 (hq (ks, .pointer (some ⟨B, 0, none⟩)) (by simp)) ?_ (hK _ _ ⟨hI.1.pure (by omega) (by omega) hL, bump_vals hI.2 (by simp) rfl⟩)
      rcases hW hI.1 1 (by omega) hL with ⟨rfl, _⟩ | ⟨rfl, _⟩
      · exact hB0
      · exact hB1
    | 2, _ =>
      obtain ⟨ty, pos, aft, e, hdp⟩ := h2
      rw [e] at ho
      obtain rfl := Option.some.inj ho
      intro a' v L W K hI hq hL hdd hK
      obtain ⟨f0, t0⟩ := hdd 0 (List.all_eq_true.1 hdp 0 (by decide))
      obtain ⟨f1, t1⟩ := hdd 1 (List.all_eq_true.1 hdp 1 (by decide))
      have g0 : v 0 = .map (some b) := hI.2 0 (by omega) f0
      have g1 : v 1 = stV x y := hI.2 1 (by omega) f1
      rw [g0] at t0
      rw [g1] at t1
      have hl : (Instr.lookup 246 (.map (some b)) (stV x y) false).run Try.prog W = .ok (.int .i64 (c : Int)) W := by
        rcases hW hI.1 2 (by omega) hL with ⟨rfl, _⟩ | ⟨rfl, _⟩
        · exact hl0
        · exact hl1
      exact step_lookup t0 t1 hl (hK _ _ ⟨hI.1.pure (by omega) (by omega) hL, bump_vals hI.2 (by simp) rfl⟩)
    | 3, _ =>
      obtain ⟨ty, pos, aft, e, hdp⟩ := h3
      rw [e] at ho
      obtain rfl := Option.some.inj ho
      intro a' v L W K hI hq hL hdd hK
      exact step_move (hq (vs, _) (by simp)) (hK _ _ ⟨hI.1.pure (by omega) (by omega) hL, bump_vals hI.2 (by simp) rfl⟩)
    | 4, _ =>
      obtain ⟨ty, pos, aft, e, hdp⟩ := h4
      rw [e] at ho
      obtain rfl := Option.some.inj ho
      intro a' v L W K hI hq hL hdd hK
      obtain ⟨f2, t2⟩ := hdd 2 (List.all_eq_true.1 hdp 2 (by decide))
      obtain ⟨f3, t3⟩ := hdd 3 (List.all_eq_true.1 hdp 3 (by decide))
      have g2 : v 2 = .int .i64 (c : Int) := hI.2 2 (by omega) f2
      have g3 : v 3 = .int .i64 (n : Int) := hI.2 3 (by omega) f3
      rw [g2] at t2
      rw [g3] at t3
      exact step_add t2 t3 (by omega) (by omega) (by omega) (hK _ _ ⟨hI.1.pure (by omega) (by omega) hL, bump_vals hI.2 (by simp) rfl⟩)
    | 5, _ =>
      obtain ⟨ty, pos, aft, e, hdp⟩ := h5
      rw [e] at ho
      obtain rfl := Option.some.inj ho
      intro a' v L W K hI hq hL hdd hK
      obtain ⟨f0, t0⟩ := hdd 0 (List.all_eq_true.1 hdp 0 (by decide))
      obtain ⟨f1, t1⟩ := hdd 1 (List.all_eq_true.1 hdp 1 (by decide))
      have g0 : v 0 = .map (some b) := hI.2 0 (by omega) f0
      have g1 : v 1 = stV x y := hI.2 1 (by omega) f1
      rw [g0] at t0
      rw [g1] at t1
      have hWW : W = w.drew := by
        rcases hW hI.1 5 (by omega) hL with ⟨h, _⟩ | ⟨_, h⟩
        · exact h
        · rw [h] at hL; cases hL
      subst hWW
      have h7 : L.getD 7 true = false := by
        cases h7 : L.getD 7 true with
        | false => rfl
        | true => rw [hI.1.1 h7 5 (by omega)] at hL; cases hL
      refine step_mapEntry t0 t1 hent (hK _ _ ⟨⟨fun h => ?_, ?_⟩, bump_vals hI.2 (by simp) rfl⟩)
      · rw [set_getD, h7] at h; simp at h
      · rw [set_getD, set_getD, h7]; simp
    | 6, _ =>
      obtain ⟨ty, pos, aft, e, hdp⟩ := h6
      rw [e] at ho
      obtain rfl := Option.some.inj ho
      intro a' v L W K hI hq hL hdd hK
      obtain ⟨f5, t5⟩ := hdd 5 (List.all_eq_true.1 hdp 5 (by decide))
      have g5 : v 5 = .tuple #[.int .i64 (c : Int), goInt st] := hI.2 5 (by omega) f5
      rw [g5] at t5
      exact step_extract1of2 t5 (hK _ _ ⟨hI.1.pure (by omega) (by omega) hL, bump_vals hI.2 (by simp) rfl⟩)
    | 7, _ =>
      rw [e7] at ho
      obtain rfl := Option.some.inj ho
      intro a' v L W K hI hq hL hdd hK
      have hall := fun j (hj : j ∈ [0, 1, 2, 3, 4, 5, 6]) => hdd j (List.all_eq_true.1 d7 j hj)
      obtain ⟨f0, t0⟩ := hall 0 (by decide)
      obtain ⟨f4, t4⟩ := hall 4 (by decide)
      obtain ⟨f5, t5⟩ := hall 5 (by decide)
      obtain ⟨f6, t6⟩ := hall 6 (by decide)
      have g0 : v 0 = .map (some b) := hI.2 0 (by omega) f0
      have g4 : v 4 = .int .i64 ((c : Int) + (n : Int)) := hI.2 4 (by omega) f4
      have g6 : v 6 = goInt st := hI.2 6 (by omega) f6
      rw [g0] at t0
      rw [g4] at t4
      rw [g6] at t6
      have hWW : W = W1 := by
        have := hI.1.2
        rw [hL, f5] at this
        simpa using this
      subst hWW
      refine step_entryStore t0 t6 t4 hsto (hK undef _ ⟨⟨fun _ i hi => ?_, ?_⟩, fun j hj hLj => ?_⟩)
      · rw [set_getD, (hall i (by simp; omega)).1, Bool.or_true]
      · rw [set_getD]; simp
      · show bumpF b (stV x y) c n st j (if j = 7 ∧ (none : Option Tmp) ≠ none then undef else v j)
        rw [if_neg (by simp)]
        exact hI.2 j hj (hall j (by simp; omega)).1
    | i + 8, h => omega
  · intro L v W hI hall
    have h7 := hall 7 (by omega)
    have := hI.1.2
    rw [h7] at this
    simp at this
    subst this
    exact hend v
end Go.Proofs.Ytdmgffoikebgkaa
/- Regions that draw their order and end with one store. -/
namespace Go.Proofs.Ytdmgffoikebgkaa
open Go.RowKit Go.Shelf

def Closed (ops : Array Oper) (L : Array Bool) : Prop := ∀ (i : Nat) (o : Oper), ops[i]? = some o → L.getD i true = true → ∀ e ∈ o.after, Region.binds .any e = true → L.getD e.on true = true
theorem Closed.start {ops : Array Oper} : Closed ops (Array.replicate ops.size false) := by
  intro i o ho hL
  have hi : i < ops.size := (Array.getElem?_eq_some_iff.1 ho).1
  simp [hi] at hL
theorem getD_any {L : Array Bool} {i : Nat} (h : L.getD i false = true) : L.getD i true = true := by
  simp only [Array.getD_eq_getD_getElem?] at h ⊢
  by_cases hi : i < L.size
  · simp [hi] at h ⊢; exact h
  · simp [hi]
theorem Closed.set {ops : Array Oper} {L : Array Bool} (h : Closed ops L) {i : Nat} {o : Oper} (ho : ops[i]? = some o) (hd : ∀ e ∈ o.after, Region.binds .any e = true → L.getD e.on false = true) : Closed ops (L.setIfInBounds i true) := by
  intro j o' ho' hj e he hb
  rw [set_getD] at hj ⊢
  by_cases hij : j = i
  · subst hij
    rw [ho] at ho'
    obtain rfl := Option.some.inj ho'
    rw [getD_any (hd e he hb), Bool.or_true]
  · have : L.getD j true = true := by simpa [hij] using hj
    rw [h j o' ho' this e he hb, Bool.or_true]
/-- what an operation waits for, directly or not -/
def reach (ops : Array Oper) : Nat → List Nat → List Nat
  | 0, l => l
  | n + 1, l => reach ops n (l ++ l.flatMap fun i => match ops[i]? with
    | some o => (o.after.toList.filter fun e => Region.binds .any e).map (·.on)
    | none => [])
theorem reach_done {ops : Array Oper} {L : Array Bool} (h : Closed ops L) : ∀ (n : Nat) (l : List Nat), (∀ i ∈ l, L.getD i true = true) → ∀ i ∈ reach ops n l, L.getD i true = true
  | 0, _, hl => hl
  | n + 1, l, hl => by
    unfold reach
    refine reach_done h n _ fun i hi => ?_
    rcases List.mem_append.1 hi with hi | hi
    · exact hl i hi
    · obtain ⟨j, hj, hi⟩ := List.mem_flatMap.1 hi
      cases ho : ops[j]? with
      | none => rw [ho] at hi; simp at hi
      | some o =>
        rw [ho] at hi
        obtain ⟨e, he, rfl⟩ := List.mem_map.1 hi
        have he2 := List.mem_filter.1 he
        exact h j o ho (hl j hj) e (by simpa using he2.1) he2.2
def allB (ops : Array Oper) (iS : Nat) (rb : Nat → Bool) : Bool := match ops[iS]? with
  | some o => (List.range iS).all fun i => !(rb i) || (reach ops 6 ((o.after.toList.filter fun e => Region.binds .any e).map (·.on))).contains i
  | none => false
theorem all_of {ops : Array Oper} {L : Array Bool} (h : Closed ops L) {iS : Nat} {rb : Nat → Bool} {o : Oper} (ho : ops[iS]? = some o) (hA : allB ops iS rb = true) (hd : ∀ e ∈ o.after, Region.binds .any e = true → L.getD e.on false = true) : ∀ i, i < iS → rb i = true → L.getD i true = true := by
  intro i hi hrb
  unfold allB at hA
  rw [ho] at hA
  rw [List.all_eq_true] at hA
  have := hA i (by simpa using hi)
  rw [hrb] at this
  refine reach_done h 6 _ (fun j hj => ?_) i (by simpa using this)
  obtain ⟨e, he, rfl⟩ := List.mem_map.1 hj
  have he2 := List.mem_filter.1 he
  exact getD_any (hd e (by simpa using he2.1) he2.2)

def BStep (w : World) (Q : Exit → Act → World → Prop) (outs : List (Nat × Value)) (ds : List Nat) (F : Nat → Value → World → Prop) (i : Nat) (o : Oper) : Prop :=
  ∀ (a : Act) (v : Nat → Value) (W : World) (K : Act → World → Prop), Below w.heap.size w W → (∀ q ∈ outs, a.tmps[q.1]?.getD undef = q.2) →
    (∀ j, depB o j = true → F j (v j) W ∧ a.tmps[atL ds j]?.getD undef = v j) →
    (∀ x W', Below W.heap.size W W' → F i x W' → K (a.put o.dst x) W') → Oper.wp Try.prog o a W K Q
set_option maxRecDepth 8000 in
theorem region_box {id : Nat} {ops : Array Oper} {Q : Exit → Act → World → Prop} {a : Act} {w : World} (n : Nat) (ds : List Nat) (outs : List (Nat × Value)) (F : Nat → Value → World → Prop) (E : (Nat → Value) → World → Prop)
    (hsize : ops.size = n + 1) (hlen : ds.length = n + 1) (hb : backB ops = true) (hd : dN ops ds = true) (hall : allB ops n (fun _ => true) = true) (hnd : ds.Nodup) (hsz : ∀ e ∈ ds, e < a.tmps.size) (hout : ∀ q ∈ outs, a.eval (.tmp q.1) = q.2 ∧ q.1 ∉ ds)
    (hdst : ∀ (i : Nat) (o : Oper), i < n → ops[i]? = some o → o.dst ≠ none) (hdn : ∀ o, ops[n]? = some o → o.dst = none)
    (hmono : ∀ i x W W', F i x W → Below W.heap.size W W' → F i x W')
    (hstep : ∀ (i : Nat) (o : Oper), i < n → ops[i]? = some o → BStep w Q outs ds F i o)
    (hstore : ∀ o, ops[n]? = some o → ∀ (a : Act) (v : Nat → Value) (W : World) (K : Act → World → Prop), Below w.heap.size w W → (∀ i, i < n → F i (v i) W) → (∀ i, i < n → depB o i = true → a.tmps[atL ds i]?.getD undef = v i) → (∀ W', E v W' → K a W') → Oper.wp Try.prog o a W K Q)
    (hE : ∀ v v' W, (∀ i, i < n → v i = v' i) → E v W → E v' W)
    (hend : ∀ v W, E (fun i => v (atL ds i)) W → Q .normal (laid a ds v) W) :
    (Code.region id ops true).wp Try.prog Q a w := by
  have hwd : Below w.heap.size w w.drew := below_drew1 w
  refine region_master ds outs (fun L v W => Closed ops L ∧ (L.getD n true = false → Below w.heap.size w W ∧ ∀ i, i < n → L.getD i true = true → F i (v i) W) ∧ (L.getD n true = true → (∀ i, i < n → L.getD i true = true) ∧ E v W)) (by rw [hlen, hsize]) hb hd hnd hsz hout ?_ ?_ ?_
  · intro v
    refine ⟨Closed.start, fun _ => ⟨hwd, fun i hi h => ?_⟩, fun h => ?_⟩
    · simp [hsize, show i < n + 1 by omega] at h
    · simp [hsize] at h
  · intro i o ho a' v L W K hI hq hL hdd hK
    obtain ⟨hC, hpre, hpost⟩ := hI
    have hi : i < n + 1 := by rw [← hsize]; exact (Array.getElem?_eq_some_iff.1 ho).1
    have hdf : ∀ e ∈ o.after, Region.binds .any e = true → L.getD e.on false = true := by
      intro e he hbd
      have hdep : depB o e.on = true := by
        unfold depB
        rw [Array.any_eq_true']
        exact ⟨e, he, by rw [hbd]; simp⟩
      have h1 := (hdd e.on hdep).1
      have hlt := back_of hb i o ho e he hbd
      have hsL : e.on < L.size := by
        rcases Nat.lt_or_ge e.on L.size with h | h
        · exact h
        · exfalso
          have : L.getD i true = true := by simp [Array.getD, show ¬ i < L.size by omega]
          rw [this] at hL; cases hL
      simp only [Array.getD_eq_getD_getElem?] at h1 ⊢
      simp [hsL] at h1 ⊢
      exact h1
    have hC2 := hC.set ho hdf
    by_cases hin : i = n
    · subst hin
      obtain ⟨hB, hF⟩ := hpre hL
      have hdone := all_of hC ho hall hdf
      have hon := hdn o ho
      refine hstore o ho a' v W K hB (fun j hj => hF j hj (hdone j hj rfl)) (fun j hj hdj => (hdd j hdj).2) fun W' hE' => ?_
      have := hK undef W' ⟨hC2, fun h => ?_, fun _ => ⟨fun j hj => ?_, hE _ _ _ (fun j hj => ?_) hE'⟩⟩
      · rw [hon] at this; exact this
      · rw [set_getD] at h; simp at h
      · rw [set_getD, hdone j hj rfl, Bool.or_true]
      · rw [if_neg (fun h => by have := h.1; omega)]
    · have hnf : L.getD n true = false := by
        cases h : L.getD n true with
        | false => rfl
        | true => rw [(hpost h).1 i (by omega)] at hL; cases hL
      obtain ⟨hB, hF⟩ := hpre hnf
      have hon := hdst i o (by omega) ho
      have hle : ∀ j, depB o j = true → j < n := fun j hj => by
        unfold depB at hj
        rw [Array.any_eq_true'] at hj
        obtain ⟨e, he, h2⟩ := hj
        rw [Bool.and_eq_true, beq_iff_eq] at h2
        have := back_of hb i o ho e he h2.1
        omega
      refine hstep i o (by omega) ho a' v W K hB hq (fun j hj => ⟨hF j (hle j hj) (hdd j hj).1, (hdd j hj).2⟩) fun x W' hB' hx => hK x W' ⟨hC2, fun _ => ⟨hB.trans (hB'.mono hB.size), fun j hj hLj => ?_⟩, fun h => ?_⟩
      · show F j (if j = i ∧ o.dst ≠ none then x else v j) W'
        by_cases e : j = i
        · subst e; rw [if_pos ⟨rfl, hon⟩]; exact hx
        · rw [if_neg (fun h => e h.1)]
          rw [set_getD] at hLj
          exact hmono _ _ _ _ (hF j hj (by simpa [e] using hLj)) hB'
      · rw [set_getD, hnf] at h
        simp at h; omega
  · intro L v W hI hdone
    have h1 := (hI.2.2 (hdone n (by omega))).2
    exact hend v W (hE _ _ _ (fun i hi => by rw [if_pos (by omega)]) h1)
end Go.Proofs.Ytdmgffoikebgkaa
/- Package chain: a state behind a step (a region of 'further'). -/
namespace Go.Proofs.Ytdmgffoikebgkaa
open Go.RowKit Go.Shelf
attribute [local go_sem] Oper.semAt_some

section
variable {Q : Exit → Act → World → Prop} {K : Act → World → Prop} {a : Act} {W : World} {d s t : Nat} {ty : TypeId} {pos : String} {aft : Array Edge}
theorem step_field211 {B : Nat} (hs : a.tmps[s]?.getD undef = .pointer (some ⟨B, 0, none⟩)) (hK : K (a.put (some d) (.pointer (some ⟨B, 1, none⟩))) W) : Oper.wp Try.prog ⟨some d, .fieldAddr 211 (.tmp s) 1, ty, pos, aft, none⟩ a W K Q := by
  have e : a.eval (.tmp s) = .pointer (some ⟨B, 0, none⟩) := by rw [eval_tmp]; exact hs
  clear hs
  unfold Oper.wp
  simp only [execOp, e]
  go_simp
  exact hK
theorem step_field249_0 {B : Nat} (hs : a.tmps[s]?.getD undef = .pointer (some ⟨B, 0, none⟩)) (hK : K (a.put (some d) (.pointer (some ⟨B, 0, none⟩))) W) : Oper.wp Try.prog ⟨some d, .fieldAddr 249 (.tmp s) 0, ty, pos, aft, none⟩ a W K Q := by
  have e : a.eval (.tmp s) = .pointer (some ⟨B, 0, none⟩) := by rw [eval_tmp]; exact hs
  clear hs
  unfold Oper.wp
  simp only [execOp, e]
  go_simp
  exact hK
theorem step_field249_1 {B : Nat} (hs : a.tmps[s]?.getD undef = .pointer (some ⟨B, 0, none⟩)) (hK : K (a.put (some d) (.pointer (some ⟨B, 1, none⟩))) W) : Oper.wp Try.prog ⟨some d, .fieldAddr 249 (.tmp s) 1, ty, pos, aft, none⟩ a W K Q := by
  have e : a.eval (.tmp s) = .pointer (some ⟨B, 0, none⟩) := by rw [eval_tmp]; exact hs
  clear hs
  unfold Oper.wp
  simp only [execOp, e]
  go_simp
  exact hK
theorem step_load209 {B j : Nat} {x : Int} (hs : a.tmps[s]?.getD undef = .pointer (some ⟨B, j, none⟩)) (hc : W.cell? ⟨B, j, none⟩ = some (.int .i64 x)) (hK : K (a.put (some d) (.int .i64 x)) W) : Oper.wp Try.prog ⟨some d, .load 209 (.tmp s), ty, pos, aft, none⟩ a W K Q := by
  have e : a.eval (.tmp s) = .pointer (some ⟨B, j, none⟩) := by rw [eval_tmp]; exact hs
  clear hs
  unfold Oper.wp
  simp only [execOp, e]
  go_simp
  exact hK
theorem step_loadI {B j : Nat} {x : Int} (hs : a.tmps[s]?.getD undef = .pointer (some ⟨B, j, none⟩)) (hc : W.cell? ⟨B, j, none⟩ = some (.int .i64 x)) (hK : K (a.put (some d) (.int .i64 x)) W) : Oper.wp Try.prog ⟨some d, .load 3 (.tmp s), ty, pos, aft, none⟩ a W K Q := by
  have e : a.eval (.tmp s) = .pointer (some ⟨B, j, none⟩) := by rw [eval_tmp]; exact hs
  clear hs
  unfold Oper.wp
  simp only [execOp, e]
  go_simp
  exact hK
theorem step_slice1 {x : Int} (hs : a.tmps[s]?.getD undef = .int .i64 x) (hK : K (a.put (some d) (.slice (some ⟨W.heap.size, 0, none⟩) 1 1)) (W.alloc (.cells #[.int .i64 x] 3))) : Oper.wp Try.prog ⟨some d, .buildSlice 24 1 #[(0, .tmp s)], ty, pos, aft, none⟩ a W K Q := by
  have HK := Lib.hid hK
  clear hK
  unfold Oper.wp
  simp only [execOp]
  go_simp
  exact HK.out
theorem step_build249 {x y : Int} (hs : a.tmps[s]?.getD undef = .int .i64 x) (ht : a.tmps[t]?.getD undef = .int .i64 y) (hK : K (a.put (some d) (.agg #[.int .i64 x, .int .i64 y])) W) : Oper.wp Try.prog ⟨some d, .build 249 #[(0, .tmp s), (1, .tmp t)], ty, pos, aft, none⟩ a W K Q := by
  have HK := Lib.hid hK
  clear hK
  unfold Oper.wp
  simp only [execOp]
  go_simp
  exact HK.out
theorem step_alloc249 (hK : K (a.put (some d) (.pointer (some ⟨W.heap.size, 0, none⟩))) (W.alloc (.cells #[.int .i64 0, .int .i64 0] 249))) : Oper.wp Try.prog ⟨some d, .alloc 249, ty, pos, aft, none⟩ a W K Q := by
  unfold Oper.wp
  simp only [execOp]
  go_simp
  exact hK
theorem step_store249 {B : Nat} {x y : Int} {v0 v1 : Value} (hs : a.tmps[s]?.getD undef = .pointer (some ⟨B, 0, none⟩)) (ht : a.tmps[t]?.getD undef = .agg #[.int .i64 x, .int .i64 y]) (hb : BoxAt W B #[v0, v1] 249)
    (hK : K a ((W.setCell ⟨B, 0, none⟩ (.int .i64 x)).setCell ⟨B, 1, none⟩ (.int .i64 y))) : Oper.wp Try.prog ⟨none, .store 249 (.tmp s) (.tmp t), ty, pos, aft, none⟩ a W K Q := by
  have e : a.eval (.tmp s) = .pointer (some ⟨B, 0, none⟩) := by rw [eval_tmp]; exact hs
  have e2 : a.eval (.tmp t) = .agg #[.int .i64 x, .int .i64 y] := by rw [eval_tmp]; exact ht
  have f0 := hb.frozen 0
  have f1 := hb.frozen 1
  have c0 := hb.cell' 0 rfl
  have c1 := hb.cell' 1 rfl
  have hlt := hb.lt
  unfold Oper.wp
  simp only [execOp, e, e2]
  clear hb e e2 hs ht
  go_simp
  exact hK
theorem step_call160 {u : Nat} {tys : Array TypeId} {x y z : Value} {R : Ending → World → Prop}
    (hs : a.tmps[s]?.getD undef = x) (ht : a.tmps[t]?.getD undef = y) (hu : a.tmps[u]?.getD undef = z) (hc : Calls Try.prog 160 #[x, y, z] W R) (hK : ∀ e w', R e w' → ∃ v, e = .returned v ∧ K (a.put (some d) v) w') :
    Oper.wp Try.prog ⟨some d, .call { callee := .value (.func 160), args := #[.tmp s, .tmp t, .tmp u], argTypes := tys }, ty, pos, aft, none⟩ a W K Q := by
  unfold Oper.wp
  simp only [execOp]
  have HS := Lib.hid hs
  have HT := Lib.hid ht
  have HU := Lib.hid hu
  have HK := Lib.hid hK
  have HC := Lib.hid hc
  clear hs ht hu hK hc
  go_simp
  rw [HS.out, HT.out, HU.out]
  refine HC.out.mono fun en w' hr => ?_
  obtain ⟨v, rfl, hk⟩ := HK.out _ _ hr
  exact hk
theorem step_call224 {tys : Array TypeId} {x : Value} {R : Ending → World → Prop}
    (hs : a.tmps[s]?.getD undef = x) (hc : Calls Try.prog 224 #[x] W R) (hK : ∀ e w', R e w' → ∃ v, e = .returned v ∧ K (a.put (some d) v) w') :
    Oper.wp Try.prog ⟨some d, .call { callee := .value (.func 224), args := #[.tmp s], argTypes := tys }, ty, pos, aft, none⟩ a W K Q := by
  unfold Oper.wp
  simp only [execOp]
  have HS := Lib.hid hs
  have HK := Lib.hid hK
  have HC := Lib.hid hc
  clear hs hK hc
  go_simp
  rw [HS.out]
  refine HC.out.mono fun en w' hr => ?_
  obtain ⟨v, rfl, hk⟩ := HK.out _ _ hr
  exact hk
end
def afterF (w : World) (B S l x f k : Nat) : Nat → Value → World → Prop
  | 0, v, _ => v = .pointer (some ⟨B, 1, none⟩)
  | 1, v, _ => v = .int .i64 (l : Int)
  | 2, v, _ => v = .pointer (some ⟨S, 0, none⟩)
  | 3, v, _ => v = .int .i64 (x : Int)
  | 4, v, _ => v = .int .i64 (k : Int)
  | 5, v, _ => v = .int .i64 (((x + k) % l : Nat) : Int)
  | 6, v, _ => v = .pointer (some ⟨S, 1, none⟩)
  | 7, v, _ => v = .int .i64 (f : Int)
  | 8, v, _ => v = .int .i64 (k : Int)
  | 9, v, W => ∃ G, v = .slice (some ⟨G, 0, none⟩) 1 1 ∧ W.cell? ⟨G, 0, none⟩ = some (.int .i64 (k : Int)) ∧ G < W.heap.size
  | 10, v, _ => v = .int .i64 (flt k : Int)
  | 11, v, _ => v = .int .i64 ((f : Int) + (flt k : Int))
  | 12, v, _ => v = .agg #[.int .i64 (((x + k) % l : Nat) : Int), .int .i64 ((f : Int) + (flt k : Int))]
  | _, v, W => ∃ D, v = .pointer (some ⟨D, 0, none⟩) ∧ w.heap.size ≤ D ∧ BoxAt W D #[.int .i64 0, .int .i64 0] 249
theorem afterF.mono (w : World) (B S l x f k : Nat) : ∀ (i : Nat) (v : Value) (W W' : World), afterF w B S l x f k i v W → Below W.heap.size W W' → afterF w B S l x f k i v W'
  | 0, _, _, _, h, _ => h
  | 1, _, _, _, h, _ => h
  | 2, _, _, _, h, _ => h
  | 3, _, _, _, h, _ => h
  | 4, _, _, _, h, _ => h
  | 5, _, _, _, h, _ => h
  | 6, _, _, _, h, _ => h
  | 7, _, _, _, h, _ => h
  | 8, _, _, _, h, _ => h
  | 9, _, _, _, ⟨G, a, b, c⟩, hb => ⟨G, a, cell_next hb b, Nat.lt_of_lt_of_le c hb.size⟩
  | 10, _, _, _, h, _ => h
  | 11, _, _, _, h, _ => h
  | 12, _, _, _, h, _ => h
  | _ + 13, _, _, _, ⟨D, a, b, c⟩, hb => ⟨D, a, b, c.next hb⟩
set_option maxRecDepth 8000 in
set_option maxHeartbeats 1000000 in
theorem region_after {id : Nat} {ops : Array Oper} {Q : Exit → Act → World → Prop} {a : Act} {w : World} (ds : List Nat) (bs ss ks B S l x f k : Nat)
    (hsize : ops.size = 15)
    (hops : IsO ops 0 (atL ds 0) (.fieldAddr 211 (.tmp bs) 1) [] ∧ IsO ops 1 (atL ds 1) (.load 209 (.tmp (atL ds 0))) [0] ∧ IsO ops 2 (atL ds 2) (.fieldAddr 249 (.tmp ss) 0) [] ∧ IsO ops 3 (atL ds 3) (.load 3 (.tmp (atL ds 2))) [2] ∧ IsO ops 4 (atL ds 4) (.move (.tmp ks)) [] ∧ IsO ops 5 (atL ds 5) (.call { callee := .value (.func 160), args := #[.tmp (atL ds 1), .tmp (atL ds 3), .tmp (atL ds 4)], argTypes := #[209, 3, 3] }) [1, 3, 4] ∧ IsO ops 6 (atL ds 6) (.fieldAddr 249 (.tmp ss) 1) [] ∧ IsO ops 7 (atL ds 7) (.load 3 (.tmp (atL ds 6))) [6] ∧ IsO ops 8 (atL ds 8) (.move (.tmp ks)) [] ∧ IsO ops 9 (atL ds 9) (.buildSlice 24 1 #[(0, .tmp (atL ds 8))]) [8] ∧ IsO ops 10 (atL ds 10) (.call { callee := .value (.func 224), args := #[.tmp (atL ds 9)], argTypes := #[24] }) [9] ∧ IsO ops 11 (atL ds 11) (.binOp .add 3 (.tmp (atL ds 7)) (.tmp (atL ds 10)) 3) [7, 10] ∧ IsO ops 12 (atL ds 12) (.build 249 #[(0, .tmp (atL ds 5)), (1, .tmp (atL ds 11))]) [5, 11] ∧ IsO ops 13 (atL ds 13) (.alloc 249) [] ∧ ∃ ty pos aft, ops[14]? = some ⟨none, .store 249 (.tmp (atL ds 13)) (.tmp (atL ds 12)), ty, pos, aft, none⟩ ∧ [12, 13].all (depB ⟨none, .store 249 (.tmp (atL ds 13)) (.tmp (atL ds 12)), ty, pos, aft, none⟩) = true)
    (hlen : ds.length = 15) (hb : backB ops = true) (hd : dN ops ds = true) (hall : allB ops 14 (fun _ => true) = true) (hnd : ds.Nodup) (hsz : ∀ e ∈ ds, e < a.tmps.size)
    (hout : a.eval (.tmp bs) = .pointer (some ⟨B, 0, none⟩) ∧ bs ∉ ds ∧ a.eval (.tmp ss) = .pointer (some ⟨S, 0, none⟩) ∧ ss ∉ ds ∧ a.eval (.tmp ks) = .int .i64 (k : Int) ∧ ks ∉ ds)
    (hB : w.cell? ⟨B, 1, none⟩ = some (.int .i64 (l : Int))) (hS : BoxAt w S #[.int .i64 (x : Int), .int .i64 (f : Int)] 249) (hl0 : 0 < l) (hl : l ≤ 1000) (hx : x < 1000) (hk : k < 1000) (hf : f ≤ 1000)
    (hend : ∀ v W, (∃ D, v (atL ds 13) = .pointer (some ⟨D, 0, none⟩) ∧ w.heap.size ≤ D ∧ BoxAt W D #[.int .i64 (((x + k) % l : Nat) : Int), .int .i64 ((f : Int) + (flt k : Int))] 249 ∧ Below w.heap.size w W) → Q .normal (laid a ds v) W) :
    (Code.region id ops true).wp Try.prog Q a w := by
  obtain ⟨h0, h1, h2, h3, h4, h5, h6, h7, h8, h9, h10, h11, h12, h13, ty14, pos14, aft14, e14, d14⟩ := hops
  obtain ⟨o0, p0, o1, p1, o2, p2⟩ := hout
  have hBx : ∀ {W}, Below w.heap.size w W → W.cell? ⟨B, 1, none⟩ = some (.int .i64 (l : Int)) := fun h => cell_next h hB
  refine region_box 14 ds [(bs, .pointer (some ⟨B, 0, none⟩)), (ss, .pointer (some ⟨S, 0, none⟩)), (ks, .int .i64 (k : Int))] (afterF w B S l x f k)
    (fun v W => ∃ D, v 13 = .pointer (some ⟨D, 0, none⟩) ∧ w.heap.size ≤ D ∧ BoxAt W D #[.int .i64 (((x + k) % l : Nat) : Int), .int .i64 ((f : Int) + (flt k : Int))] 249 ∧ Below w.heap.size w W)
    hsize hlen hb hd hall hnd hsz ?_ ?_ ?_ (afterF.mono w B S l x f k) ?_ ?_ ?_ hend
  · intro q hq
    simp only [List.mem_cons, List.not_mem_nil, or_false] at hq
    rcases hq with rfl | rfl | rfl
    · exact ⟨o0, p0⟩
    · exact ⟨o1, p1⟩
    · exact ⟨o2, p2⟩
  · intro i o hi ho
    match i, hi with
    | 0, _ => obtain ⟨ty, pos, aft, e, _⟩ := h0; rw [e] at ho; obtain rfl := Option.some.inj ho; simp
    | 1, _ => obtain ⟨ty, pos, aft, e, _⟩ := h1; rw [e] at ho; obtain rfl := Option.some.inj ho; simp
    | 2, _ => obtain ⟨ty, pos, aft, e, _⟩ := h2; rw [e] at ho; obtain rfl := Option.some.inj ho; simp
    | 3, _ => obtain ⟨ty, pos, aft, e, _⟩ := h3; rw [e] at ho; obtain rfl := Option.some.inj ho; simp
    | 4, _ => obtain ⟨ty, pos, aft, e, _⟩ := h4; rw [e] at ho; obtain rfl := Option.some.inj ho; simp
    | 5, _ => obtain ⟨ty, pos, aft, e, _⟩ := h5; rw [e] at ho; obtain rfl := Option.some.inj ho; simp
    | 6, _ => obtain ⟨ty, pos, aft, e, _⟩ := h6; rw [e] at ho; obtain rfl := Option.some.inj ho; simp
    | 7, _ => obtain ⟨ty, pos, aft, e, _⟩ := h7; rw [e] at ho; obtain rfl := Option.some.inj ho; simp
    | 8, _ => obtain ⟨ty, pos, aft, e, _⟩ := h8; rw [e] at ho; obtain rfl := Option.some.inj ho; simp
    | 9, _ => obtain ⟨ty, pos, aft, e, _⟩ := h9; rw [e] at ho; obtain rfl := Option.some.inj ho; simp
    | 10, _ => obtain ⟨ty, pos, aft, e, _⟩ := h10; rw [e] at ho; obtain rfl := Option.some.inj ho; simp
    | 11, _ => obtain ⟨ty, pos, aft, e, _⟩ := h11; rw [e] at ho; obtain rfl := Option.some.inj ho; simp
    | 12, _ => obtain ⟨ty, pos, aft, e, _⟩ := h12; rw [e] at ho; obtain rfl := Option.some.inj ho; simp
    | 13, _ => obtain ⟨ty, pos, aft, e, _⟩ := h13; rw [e] at ho; obtain rfl := Option.some.inj ho; simp
    | i + 14, h => omega
  · intro o ho
    rw [e14] at ho
    obtain rfl := Option.some.inj ho
    rfl
  · intro i o hi ho
    match i, hi with
    | 0, _ =>
      obtain ⟨ty, pos, aft, e, hdp⟩ := h0
      rw [e] at ho
      obtain rfl := Option.some.inj ho
      intro a' v W K hW hq hdd hK
      exact step_field211 (hq (bs, .pointer (some ⟨B, 0, none⟩)) (by simp)) (hK _ _ (Below.refl _ _) rfl)
    | 1, _ =>
      obtain ⟨ty, pos, aft, e, hdp⟩ := h1
      rw [e] at ho
      obtain rfl := Option.some.inj ho
      intro a' v W K hW hq hdd hK
      obtain ⟨f0, t0⟩ := hdd 0 (List.all_eq_true.1 hdp 0 (by decide))
      have g0 : v 0 = .pointer (some ⟨B, 1, none⟩) := f0
      rw [g0] at t0
      exact step_load209 t0 (hBx hW) (hK _ _ (Below.refl _ _) rfl)
    | 2, _ =>
      obtain ⟨ty, pos, aft, e, hdp⟩ := h2
      rw [e] at ho
      obtain rfl := Option.some.inj ho
      intro a' v W K hW hq hdd hK
      exact step_field249_0 (hq (ss, .pointer (some ⟨S, 0, none⟩)) (by simp)) (hK _ _ (Below.refl _ _) rfl)
    | 3, _ =>
      obtain ⟨ty, pos, aft, e, hdp⟩ := h3
      rw [e] at ho
      obtain rfl := Option.some.inj ho
      intro a' v W K hW hq hdd hK
      obtain ⟨f2, t2⟩ := hdd 2 (List.all_eq_true.1 hdp 2 (by decide))
      have g2 : v 2 = .pointer (some ⟨S, 0, none⟩) := f2
      rw [g2] at t2
      exact step_loadI t2 (BoxAt.cell' (hS.next hW) 0 rfl) (hK _ _ (Below.refl _ _) rfl)
    | 4, _ =>
      obtain ⟨ty, pos, aft, e, hdp⟩ := h4
      rw [e] at ho
      obtain rfl := Option.some.inj ho
      intro a' v W K hW hq hdd hK
      exact step_move (hq (ks, .int .i64 (k : Int)) (by simp)) (hK _ _ (Below.refl _ _) rfl)
    | 5, _ =>
      obtain ⟨ty, pos, aft, e, hdp⟩ := h5
      rw [e] at ho
      obtain rfl := Option.some.inj ho
      intro a' v W K hW hq hdd hK
      obtain ⟨f1, t1⟩ := hdd 1 (List.all_eq_true.1 hdp 1 (by decide))
      obtain ⟨f3, t3⟩ := hdd 3 (List.all_eq_true.1 hdp 3 (by decide))
      obtain ⟨f4, t4⟩ := hdd 4 (List.all_eq_true.1 hdp 4 (by decide))
      have g1 : v 1 = .int .i64 (l : Int) := f1
      have g3 : v 3 = .int .i64 (x : Int) := f3
      have g4 : v 4 = .int .i64 (k : Int) := f4
      rw [g1] at t1
      rw [g3] at t3
      rw [g4] at t4
      refine step_call160 t1 t3 t4 (after_any l x k W hl0 hl hx hk) ?_
      rintro e w' ⟨rfl, rfl⟩
      exact ⟨_, rfl, hK _ _ (Below.refl _ _) rfl⟩
    | 6, _ =>
      obtain ⟨ty, pos, aft, e, hdp⟩ := h6
      rw [e] at ho
      obtain rfl := Option.some.inj ho
      intro a' v W K hW hq hdd hK
      exact step_field249_1 (hq (ss, .pointer (some ⟨S, 0, none⟩)) (by simp)) (hK _ _ (Below.refl _ _) rfl)
    | 7, _ =>
      obtain ⟨ty, pos, aft, e, hdp⟩ := h7
      rw [e] at ho
      obtain rfl := Option.some.inj ho
      intro a' v W K hW hq hdd hK
      obtain ⟨f6, t6⟩ := hdd 6 (List.all_eq_true.1 hdp 6 (by decide))
      have g6 : v 6 = .pointer (some ⟨S, 1, none⟩) := f6
      rw [g6] at t6
      exact step_loadI t6 (BoxAt.cell' (hS.next hW) 1 rfl) (hK _ _ (Below.refl _ _) rfl)
    | 8, _ =>
      obtain ⟨ty, pos, aft, e, hdp⟩ := h8
      rw [e] at ho
      obtain rfl := Option.some.inj ho
      intro a' v W K hW hq hdd hK
      exact step_move (hq (ks, .int .i64 (k : Int)) (by simp)) (hK _ _ (Below.refl _ _) rfl)
    | 9, _ =>
      obtain ⟨ty, pos, aft, e, hdp⟩ := h9
      rw [e] at ho
      obtain rfl := Option.some.inj ho
      intro a' v W K hW hq hdd hK
      obtain ⟨f8, t8⟩ := hdd 8 (List.all_eq_true.1 hdp 8 (by decide))
      have g8 : v 8 = .int .i64 (k : Int) := f8
      rw [g8] at t8
      refine step_slice1 t8 (hK _ _ ((Below.refl _ _).alloc (Nat.le_refl _) _) ⟨W.heap.size, rfl, by simp, by simp⟩)
    | 10, _ =>
      obtain ⟨ty, pos, aft, e, hdp⟩ := h10
      rw [e] at ho
      obtain rfl := Option.some.inj ho
      intro a' v W K hW hq hdd hK
      obtain ⟨f9, t9⟩ := hdd 9 (List.all_eq_true.1 hdp 9 (by decide))
      obtain ⟨G, g9, hG, hGl⟩ := f9
      rw [g9] at t9
      refine step_call224 t9 (faultsOf_one G k W hG) ?_
      rintro e w' ⟨rfl, rfl⟩
      exact ⟨_, rfl, hK _ _ (Below.refl _ _) rfl⟩
    | 11, _ =>
      obtain ⟨ty, pos, aft, e, hdp⟩ := h11
      rw [e] at ho
      obtain rfl := Option.some.inj ho
      intro a' v W K hW hq hdd hK
      obtain ⟨f7, t7⟩ := hdd 7 (List.all_eq_true.1 hdp 7 (by decide))
      obtain ⟨f10, t10⟩ := hdd 10 (List.all_eq_true.1 hdp 10 (by decide))
      have g7 : v 7 = .int .i64 (f : Int) := f7
      have g10 : v 10 = .int .i64 (flt k : Int) := f10
      rw [g7] at t7
      rw [g10] at t10
      have hfl : flt k ≤ 1 := by unfold flt; split <;> omega
      exact step_add t7 t10 (by omega) (by omega) (by omega) (hK _ _ (Below.refl _ _) rfl)
    | 12, _ =>
      obtain ⟨ty, pos, aft, e, hdp⟩ := h12
      rw [e] at ho
      obtain rfl := Option.some.inj ho
      intro a' v W K hW hq hdd hK
      obtain ⟨f5, t5⟩ := hdd 5 (List.all_eq_true.1 hdp 5 (by decide))
      obtain ⟨f11, t11⟩ := hdd 11 (List.all_eq_true.1 hdp 11 (by decide))
      have g5 : v 5 = .int .i64 (((x + k) % l : Nat) : Int) := f5
      have g11 : v 11 = .int .i64 ((f : Int) + (flt k : Int)) := f11
      rw [g5] at t5
      rw [g11] at t11
      exact step_build249 t5 t11 (hK _ _ (Below.refl _ _) rfl)
    | 13, _ =>
      obtain ⟨ty, pos, aft, e, hdp⟩ := h13
      rw [e] at ho
      obtain rfl := Option.some.inj ho
      intro a' v W K hW hq hdd hK
      exact step_alloc249 (hK _ _ ((Below.refl _ _).alloc (Nat.le_refl _) _) ⟨W.heap.size, rfl, hW.size, BoxAt.new _ _ _⟩)
    | i + 14, h => omega
  · intro o ho
    rw [e14] at ho
    obtain rfl := Option.some.inj ho
    intro a' v W K hW hF ht hK
    have t12 := ht 12 (by omega) (List.all_eq_true.1 d14 12 (by decide))
    have t13 := ht 13 (by omega) (List.all_eq_true.1 d14 13 (by decide))
    have g12 : v 12 = .agg #[.int .i64 (((x + k) % l : Nat) : Int), .int .i64 ((f : Int) + (flt k : Int))] := hF 12 (by omega)
    obtain ⟨D, g13, hD, hDb⟩ := hF 13 (by omega)
    rw [g12] at t12
    rw [g13] at t13
    refine step_store249 t13 t12 hDb (hK _ ⟨D, g13, hD, ?_, (hW.setCell hD _).setCell hD _⟩)
    exact (hDb.set 0 (.int .i64 (((x + k) % l : Nat) : Int))).set 1 (.int .i64 ((f : Int) + (flt k : Int)))
  · rintro v v' W h ⟨D, g, r⟩
    exact ⟨D, by rw [← h 13 (by omega)]; exact g, r⟩
end Go.Proofs.Ytdmgffoikebgkaa
/- Counts of courses: what one pick makes of them. -/
namespace Go.Proofs.Ytdmgffoikebgkaa
open Go.RowKit Go.Shelf

def sumR (n : Nat) (h : Nat → Nat) : Nat := ((List.range n).map h).sum
theorem sumR_succ (n : Nat) (h : Nat → Nat) : sumR (n + 1) h = sumR n h + h n := by simp [sumR, List.range_succ]
theorem sumR_one (h : Nat → Nat) (k x : Nat) : ∀ n, sumR n (fun i => h i + if i = k then x else 0) = sumR n h + if k < n then x else 0
  | 0 => by simp [sumR]
  | n + 1 => by
    rw [sumR_succ, sumR_succ, sumR_one h k x n]
    by_cases e : n = k
    · subst e
      rw [if_neg (by omega), if_pos rfl, if_pos (by omega)]; omega
    · rw [if_neg e]
      by_cases hk : k < n
      · rw [if_pos hk, if_pos (by omega)]; omega
      · rw [if_neg hk, if_neg (by omega)]; omega
theorem sumR_congr {n : Nat} {h h' : Nat → Nat} (e : ∀ i, i < n → h i = h' i) : sumR n h = sumR n h' := by
  unfold sumR
  congr 1
  exact List.map_congr_left fun i hi => e i (by simpa using hi)
theorem sumR_le {n : Nat} {h h' : Nat → Nat} (e : ∀ i, i < n → h i ≤ h' i) : sumR n h ≤ sumR n h' := by
  induction n with
  | zero => simp [sumR]
  | succ n ih =>
    rw [sumR_succ, sumR_succ]
    have := ih fun i hi => e i (by omega)
    have := e n (by omega)
    omega
theorem sumR_mul (k : Nat) (h : Nat → Nat) : ∀ n, sumR n (fun i => k * h i) = k * sumR n h
  | 0 => by simp [sumR]
  | n + 1 => by rw [sumR_succ, sumR_succ, sumR_mul k h n, Nat.mul_add]
def sumD (L m : Nat) (g : Nat → Nat → Nat) : Nat := sumR L fun a => sumR (m + 1) fun f => g a f
theorem sumD_congr {L m : Nat} {g g' : Nat → Nat → Nat} (e : ∀ a f, a < L → f ≤ m → g a f = g' a f) : sumD L m g = sumD L m g' :=
  sumR_congr fun a ha => sumR_congr fun f hf => e a f ha (by omega)
theorem sumD_le {L m : Nat} {g g' : Nat → Nat → Nat} (e : ∀ a f, a < L → f ≤ m → g a f ≤ g' a f) : sumD L m g ≤ sumD L m g' :=
  sumR_le fun a ha => sumR_le fun f hf => e a f ha (by omega)
theorem sumD_mul (k L m : Nat) (g : Nat → Nat → Nat) : sumD L m (fun a f => k * g a f) = k * sumD L m g := by
  unfold sumD
  rw [← sumR_mul]
  exact sumR_congr fun a _ => sumR_mul _ _ _
theorem sumD_one {L m a f : Nat} (ha : a < L) (hf : f ≤ m) (g : Nat → Nat → Nat) (x : Nat) : sumD L m (fun a' f' => g a' f' + if a' = a ∧ f' = f then x else 0) = sumD L m g + x := by
  have h1 : sumD L m (fun a' f' => g a' f' + if a' = a ∧ f' = f then x else 0) = sumR L fun a' => (sumR (m + 1) fun f' => g a' f') + if a' = a then x else 0 := by
    refine sumR_congr fun a' _ => ?_
    by_cases e : a' = a
    · rw [if_pos e]
      have := sumR_one (fun f' => g a' f') f x (m + 1)
      rw [if_pos (by omega)] at this
      rw [← this]
      exact sumR_congr fun f' _ => by simp [e]
    · rw [if_neg e, Nat.add_zero]
      exact sumR_congr fun f' _ => by simp [e]
  rw [h1, sumR_one, if_pos ha]
  rfl
theorem le_sumD {L m a f : Nat} (ha : a < L) (hf : f ≤ m) (g : Nat → Nat → Nat) : g a f ≤ sumD L m g := by
  have h := sumD_one ha hf (fun a' f' => if a' = a ∧ f' = f then 0 else g a' f') (g a f)
  have e : sumD L m (fun a' f' => (if a' = a ∧ f' = f then 0 else g a' f') + if a' = a ∧ f' = f then g a f else 0) = sumD L m g := by
    refine sumD_congr fun a' f' _ _ => ?_
    by_cases e : a' = a ∧ f' = f
    · rw [if_pos e, if_pos e, e.1, e.2]; omega
    · rw [if_neg e, if_neg e]; omega
  rw [e] at h
  omega
/-- what a step of one state brings to another one -/
def inc (l m a f many s a' f' : Nat) : Nat := if (a + s) % l = a' ∧ f + flt s = f' ∧ f' ≤ m then many else 0
def ctr (l m : Nat) (wf : Nat → Bool) (c : Nat → Nat → Nat) (a f a' f' : Nat) : Nat := if wf a then inc l m a f (c a f) 0 a' f' + inc l m a f (c a f) 1 a' f' + inc l m a f (c a f) 2 a' f' else 0
theorem inc_le (l m a f many s a' f' : Nat) : inc l m a f many s a' f' ≤ many := by unfold inc; split <;> omega
theorem ctr_le (l m : Nat) (wf : Nat → Bool) (c : Nat → Nat → Nat) (a f a' f' : Nat) : ctr l m wf c a f a' f' ≤ 3 * c a f := by
  unfold ctr
  have := inc_le l m a f (c a f) 0 a' f'
  have := inc_le l m a f (c a f) 1 a' f'
  have := inc_le l m a f (c a f) 2 a' f'
  split <;> omega
/-- what the states that are done have brought -/
def part (l m : Nat) (wf : Nat → Bool) (c : Nat → Nat → Nat) (p d : Nat → Nat → Bool) : Nat → Nat → Nat := fun a' f' => sumD l m fun a f => if p a f = true ∧ d a f = true then ctr l m wf c a f a' f' else 0
def furtherC (l m : Nat) (wf : Nat → Bool) (c : Nat → Nat → Nat) : Nat → Nat → Nat := fun a' f' => sumD l m fun a f => ctr l m wf c a f a' f'
theorem part_zero (l m : Nat) (wf : Nat → Bool) (c : Nat → Nat → Nat) (p : Nat → Nat → Bool) : part l m wf c p (fun _ _ => false) = fun _ _ => 0 := by
  funext a' f'
  unfold part
  have : sumD l m (fun a f => if p a f = true ∧ false = true then ctr l m wf c a f a' f' else 0) = sumD l m fun _ _ => 0 * 0 := sumD_congr fun a f _ _ => by simp
  rw [this, sumD_mul, Nat.zero_mul]
theorem part_all {l m : Nat} {wf : Nat → Bool} {c : Nat → Nat → Nat} {p d : Nat → Nat → Bool} (hz : ∀ a f, p a f = false → c a f = 0) (hd : ∀ a f, a < l → f ≤ m → p a f = true → d a f = true) : part l m wf c p d = furtherC l m wf c := by
  funext a' f'
  refine sumD_congr fun a f ha hf => ?_
  cases hp : p a f with
  | true => rw [if_pos ⟨rfl, hd a f ha hf hp⟩]
  | false =>
    rw [if_neg (by simp)]
    have := ctr_le l m wf c a f a' f'
    rw [hz a f hp] at this
    omega
theorem part_step {l m : Nat} {wf : Nat → Bool} {c : Nat → Nat → Nat} {p d : Nat → Nat → Bool} {a f : Nat} (ha : a < l) (hf : f ≤ m) (hp : p a f = true) (hd : d a f = false) (a' f' : Nat) :
    part l m wf c p (setP d a f) a' f' = part l m wf c p d a' f' + ctr l m wf c a f a' f' := by
  unfold part
  rw [← sumD_one ha hf]
  refine sumD_congr fun x y _ _ => ?_
  unfold setP
  by_cases e : x = a ∧ y = f
  · obtain ⟨rfl, rfl⟩ := e
    simp [hp, hd]
  · simp [e]
theorem part_le {l m : Nat} {wf : Nat → Bool} {c : Nat → Nat → Nat} {p d : Nat → Nat → Bool} (a' f' : Nat) : part l m wf c p d a' f' ≤ 3 * sumD l m c := by
  rw [← sumD_mul]
  refine sumD_le fun a f _ _ => ?_
  have := ctr_le l m wf c a f a' f'
  split <;> omega
/-- the map behind one step -/
def stepC (l m a f many s : Nat) (n : Nat → Nat → Nat) : Nat → Nat → Nat := if f + flt s ≤ m then setC n ((a + s) % l) (f + flt s) (n ((a + s) % l) (f + flt s) + many) else n
theorem stepC_at (l m a f many s : Nat) (n : Nat → Nat → Nat) (a' f' : Nat) : stepC l m a f many s n a' f' = n a' f' + inc l m a f many s a' f' := by
  unfold stepC inc
  split
  · unfold setC
    by_cases e : a' = (a + s) % l ∧ f' = f + flt s
    · obtain ⟨rfl, rfl⟩ := e
      rw [if_pos ⟨rfl, rfl⟩, if_pos ⟨rfl, rfl, by assumption⟩]
    · rw [if_neg e, if_neg (fun h => e ⟨h.1.symm, h.2.1.symm⟩)]; omega
  · rename_i h
    rw [if_neg (fun h' => h (by omega))]; omega
theorem step3 {l m : Nat} {wf : Nat → Bool} {c : Nat → Nat → Nat} {p d : Nat → Nat → Bool} {a f : Nat} (ha : a < l) (hf : f ≤ m) (hp : p a f = true) (hd : d a f = false) (hw : wf a = true) :
    stepC l m a f (c a f) 2 (stepC l m a f (c a f) 1 (stepC l m a f (c a f) 0 (part l m wf c p d))) = part l m wf c p (setP d a f) := by
  funext a' f'
  rw [stepC_at, stepC_at, stepC_at, part_step ha hf hp hd]
  unfold ctr
  rw [if_pos hw]
  omega
theorem step0 {l m : Nat} {wf : Nat → Bool} {c : Nat → Nat → Nat} {p d : Nat → Nat → Bool} {a f : Nat} (ha : a < l) (hf : f ≤ m) (hp : p a f = true) (hd : d a f = false) (hw : wf a = false) :
    part l m wf c p d = part l m wf c p (setP d a f) := by
  funext a' f'
  rw [part_step ha hf hp hd]
  unfold ctr
  rw [if_neg (by simp [hw])]
  omega
end Go.Proofs.Ytdmgffoikebgkaa
