/- What TopPunched and TopTurnedOver need of mathematics: punched cards woven in order, valid rows, equal cloths. -/
import Derived.Test.YtdmgffoikebgkaaTb05
import Derived.Test.YtdmgffoikebgkaaTb02
import Derived.Test.YtdmgffoikebgkaaTb01
import Derived.Deep.DeepCutAuto
import Derived.Sort.QuietIn
import Derived.Sort.CutIn
import Derived.Maps.OwnOps
import Derived.Maps.Views
import Derived.DeepKeys4
import Derived.KernelRfl
import Derived.WideKeyEntry
import Derived.Maps.RangeWalk
import Derived.RegionTactic
import Derived.Test.YtdmgffoikebgkaaTb04
namespace Go.Proofs.Ytdmgffoikebgkaa
open Go.RowKit Go.Shelf

def clothS (hs xs : List Nat) : List ByteArray := (List.range xs.length).map fun i => pickS hs (nthN xs i)
theorem clothS_len (hs xs : List Nat) : (clothS hs xs).length = xs.length := by simp [clothS]
theorem clothS_map (hs xs : List Nat) : (clothS hs xs).map Value.string = clothV hs xs xs.length := by simp [clothS, clothV]
end Go.Proofs.Ytdmgffoikebgkaa
/- The contracts that TopPunched and TopTurnedOver use, each with the length as a letter of its own. -/
namespace Go.Proofs.Ytdmgffoikebgkaa
open Go.RowKit Go.Shelf

/-- what a helper leaves that makes a number and a row -/
def MadeL (n L : Nat) (xs : List Nat) (W : World) (e : Ending) (w' : World) : Prop := ∃ g c, e = .returned (.agg #[.int .i64 (n : Int), .slice (some ⟨g, 0, none⟩) L c]) ∧ NatsAt w' g 0 xs ∧ W.heap.size ≤ g ∧ g < w'.heap.size ∧ Below W.heap.size W w'
theorem made_of {n L B : Nat} {xs : List Nat} {W w' : World} {g c : Nat} (hB : B = W.heap.size) (h0 : 0 < L) (h1 : w'.ownsRow B 3 1 (.slice (some ⟨g, 0, none⟩) L c) L (xs.map natV)) (h2 : Below W.heap.size W w') : MadeL n L xs W (.returned (.agg #[.int .i64 (n : Int), .slice (some ⟨g, 0, none⟩) L c])) w' := by
  subst hB
  obtain ⟨a, b, d⟩ := nats_of_row h1 h0
  exact ⟨g, c, rfl, a, d, b, h2⟩
theorem call38 (n K L b c b2 c2 : Nat) (hs xs : List Nat) (W : World) (hK : hs.length = K) (hL : xs.length = L) (hk0 : 1 ≤ K) (hk1 : K ≤ 96) (hk : ∀ i, i < K → nthN hs i < n) (hv : Valid n xs) (h1 : NatsAt W b 0 hs) (h2 : b < W.heap.size) (h3 : NatsAt W b2 0 xs) (h4 : b2 < W.heap.size) :
    Calls Try.prog 38 #[.agg #[.int .i64 (n : Int), .slice (some ⟨b, 0, none⟩) K c], .agg #[.int .i64 (n : Int), .slice (some ⟨b2, 0, none⟩) L c2]] W fun e w' =>
      ∃ g cap, e = .returned (.tuple #[.slice (some ⟨g, 0, none⟩) L cap, .int .i64 0]) ∧ StrsAt w' g 0 (clothS hs xs) ∧ W.heap.size ≤ g ∧ g < w'.heap.size ∧ Below W.heap.size W w' := by
  subst hK hL
  have l0 := hv.l0
  refine (tieWeave_ok n b 0 c b2 0 c2 hs xs W ⟨h1, h2, hv.n0, hv.n1, hk0, hk1, hk⟩ ⟨h3, h4, hv⟩).mono ?_
  rintro e w' ⟨v, rfl, h5, h6⟩
  obtain ⟨g, cap, rfl⟩ := row_slice h5 (by omega)
  rw [← clothS_map] at h5
  obtain ⟨a, b, d⟩ := strs_of_row h5 (by omega)
  exact ⟨g, cap, rfl, a, d, b, h6⟩
end Go.Proofs.Ytdmgffoikebgkaa
/- Regions that draw their order, read, and call what only adds to memory: each operation once, whatever was done before. -/
namespace Go.Proofs.Ytdmgffoikebgkaa
open Go.RowKit Go.Shelf

section
variable {Q : Exit → Act → World → Prop} {K : Act → World → Prop} {a : Act} {W : World} {d s : Nat} {ty : TypeId} {pos : String} {aft : Array Edge}
end
end Go.Proofs.Ytdmgffoikebgkaa
/- Whole regions of the statements: rows woven by a chain, cloths woven by a harness. -/
namespace Go.Proofs.Ytdmgffoikebgkaa
open Go.RowKit Go.Shelf

end Go.Proofs.Ytdmgffoikebgkaa
/- Maps keyed by a struct of two numbers: 'm[k] += v' in whatever order its parts are done. -/
namespace Go.Proofs.Ytdmgffoikebgkaa
open Go.RowKit Go.Shelf Go.WideMaps Go.WideElems Go.ChangeMaps Go.MapKept Go.ChangeShapes Go.WideShapes
open Go.Maps (Keyed IsMap)

end Go.Proofs.Ytdmgffoikebgkaa
namespace Go.Proofs.Ytdmgffoikebgkaa
open Go.RowKit Go.Shelf Go.WideMaps Go.ChangeMaps Go.ChangeShapes Go.WideShapes
open Go.Maps (Keyed IsMap)

end Go.Proofs.Ytdmgffoikebgkaa
/- Maps of counts: an entry that is made and filled; a range over such a map, in whatever order. -/
namespace Go.Proofs.Ytdmgffoikebgkaa
open Go.RowKit Go.Shelf Go.WideMaps Go.ChangeMaps Go.ChangeShapes Go.WideShapes
open Go.Maps (Keyed IsMap)

section
variable {ops : Array Oper} {rest : List Oper} {o : Oper} {act : Act} {Q : Exit → Act → World → Prop} {w : World}
end
end Go.Proofs.Ytdmgffoikebgkaa
/- Package chain: whether a pick is woven at a card, faults of a step. -/
namespace Go.Proofs.Ytdmgffoikebgkaa
open Go.RowKit Go.Shelf
attribute [local go_sem] Oper.semAt_some

def flt (s : Nat) : Nat := if s = 1 then 0 else 1
end Go.Proofs.Ytdmgffoikebgkaa
/- Regions that draw their order: an invariant of what has been done and of what the slots hold; 'm[k] += n'. -/
namespace Go.Proofs.Ytdmgffoikebgkaa
open Go.RowKit Go.Shelf

section
variable {Q : Exit → Act → World → Prop} {K : Act → World → Prop} {a : Act} {W : World} {d s t : Nat} {ty : TypeId} {pos : String} {aft : Array Edge}
end
end Go.Proofs.Ytdmgffoikebgkaa
/- Regions that draw their order and end with one store. -/
namespace Go.Proofs.Ytdmgffoikebgkaa
open Go.RowKit Go.Shelf

end Go.Proofs.Ytdmgffoikebgkaa
/- Package chain: a state behind a step (a region of 'further'). -/
namespace Go.Proofs.Ytdmgffoikebgkaa
open Go.RowKit Go.Shelf
attribute [local go_sem] Oper.semAt_some

section
variable {Q : Exit → Act → World → Prop} {K : Act → World → Prop} {a : Act} {W : World} {d s t : Nat} {ty : TypeId} {pos : String} {aft : Array Edge}
end
end Go.Proofs.Ytdmgffoikebgkaa
/- Counts of courses: what one pick makes of them. -/
namespace Go.Proofs.Ytdmgffoikebgkaa
open Go.RowKit Go.Shelf

def sumR (n : Nat) (h : Nat → Nat) : Nat := ((List.range n).map h).sum
def sumD (L m : Nat) (g : Nat → Nat → Nat) : Nat := sumR L fun a => sumR (m + 1) fun f => g a f
/-- what a step of one state brings to another one -/
def inc (l m a f many s a' f' : Nat) : Nat := if (a + s) % l = a' ∧ f + flt s = f' ∧ f' ≤ m then many else 0
def ctr (l m : Nat) (wf : Nat → Bool) (c : Nat → Nat → Nat) (a f a' f' : Nat) : Nat := if wf a then inc l m a f (c a f) 0 a' f' + inc l m a f (c a f) 1 a' f' + inc l m a f (c a f) 2 a' f' else 0
/-- what the states that are done have brought -/
def part (l m : Nat) (wf : Nat → Bool) (c : Nat → Nat → Nat) (p d : Nat → Nat → Bool) : Nat → Nat → Nat := fun a' f' => sumD l m fun a f => if p a f = true ∧ d a f = true then ctr l m wf c a f a' f' else 0
end Go.Proofs.Ytdmgffoikebgkaa
/- Regions that draw their order, read, make boxes, call what only adds to memory, and store into the boxes that they made: each operation once, whatever was done before. -/
namespace Go.Proofs.Ytdmgffoikebgkaa
open Go.RowKit Go.Shelf

/-- where what an operation made lies: two blocks at most, with capacities -/
structure Hd where
  b : Nat
  c : Nat
  b2 : Nat
  c2 : Nat
  p : Option Addr
def updH (hs : Nat → Hd) (i : Nat) (h : Hd) : Nat → Hd := fun j => if j = i then h else hs j
theorem updH_same (hs : Nat → Hd) (i : Nat) (h : Hd) : updH hs i h i = h := by simp [updH]
theorem updH_ne (hs : Nat → Hd) (i j : Nat) (h : Hd) (e : j ≠ i) : updH hs i h j = hs j := by simp [updH, e]
/-- one block has changed -/
structure SetAt (B : Nat) (W W' : World) : Prop where
  size : W'.heap.size = W.heap.size
  other : ∀ b, b ≠ B → W'.heap[b]? = W.heap[b]?
  below : ∀ k w, k ≤ B → Below k w W → Below k w W'
theorem SetAt.refl (B : Nat) (W : World) : SetAt B W W := ⟨rfl, fun _ _ => rfl, fun _ _ _ h => h⟩
theorem SetAt.cell {B : Nat} {W0 W : World} (h : SetAt B W0 W) (k : Nat) (v : Value) : SetAt B W0 (W.setCell ⟨B, k, none⟩ v) :=
  ⟨(setCell_size _ _ _).trans h.size, fun b hb => (heap_setCell_ne hb).trans (h.other b hb), fun k w hk hw => (h.below k w hk hw).setCell hk _⟩
theorem SetAt.box {B B' : Nat} {W W' : World} {vs : Array Value} {t : TypeId} (h : SetAt B W W') (hb : BoxAt W B' vs t) (hne : B' ≠ B) : BoxAt W' B' vs t := (h.other B' hne).trans hb
theorem SetAt.nats {B g : Nat} {W W' : World} {xs : List Nat} (h : SetAt B W W') (hx : NatsAt W g 0 xs) (hne : g ≠ B) : NatsAt W' g 0 xs := fun i hi =>
  (World.cell?_of_block (w := W) (h.other g hne)).trans (hx i hi)
inductive OpK where
  | plain
  | make
  | store (t : Nat)
/-- what is said of a region's operations -/
structure RSp where
  n : Nat
  D : Nat → Option Nat
  wants : Nat → Bool
  X : Nat → (Nat → Hd) → Value
  uses : Nat → List Nat
  kind : Nat → OpK
  M : Nat → Hd → World → Prop
  bl : Nat → Hd → List Nat
  S : Nat → (Nat → Hd) → World → Prop
def OpK.isMake : OpK → Bool
  | .make => true
  | _ => false
/-- the laws of what is said -/
structure RSp.Ok (R : RSp) (lo : Nat) : Prop where
  mG : ∀ r h W W', R.M r h W → Below W.heap.size W W' → R.M r h W'
  mS : ∀ r h W W' B, R.M r h W → B ∉ R.bl r h → lo ≤ B → SetAt B W W' → R.M r h W'
  sG : ∀ i hs W W', R.S i hs W → Below W.heap.size W W' → R.S i hs W'
  sS : ∀ i hs W W' B, R.S i hs W → (∀ r ∈ R.uses i, B ∉ R.bl r (hs r)) → lo ≤ B → SetAt B W W' → R.S i hs W'
  xC : ∀ i hs hs', (∀ r ∈ R.uses i, hs r = hs' r) → R.X i hs = R.X i hs'
  sC : ∀ i hs hs' W, (∀ r ∈ R.uses i, hs r = hs' r) → R.S i hs W → R.S i hs' W
structure RInv (R : RSp) (w : World) (L : Array Bool) (v : Nat → Value) (hs : Nat → Hd) (W : World) : Prop where
  b : Below w.heap.size w W
  u : ∀ i, i < R.n → L.getD i true = true → ∀ r ∈ R.uses i, r < R.n ∧ L.getD r true = true ∧ (R.kind r).isMake = true
  m : ∀ r, r < R.n → L.getD r true = true → (R.kind r).isMake = true → R.M r (hs r) W ∧ ∀ b ∈ R.bl r (hs r), w.heap.size ≤ b ∧ b < W.heap.size
  d : ∀ r s, r < R.n → s < R.n → r ≠ s → L.getD r true = true → L.getD s true = true → (R.kind r).isMake = true → (R.kind s).isMake = true → ∀ b ∈ R.bl r (hs r), b ∉ R.bl s (hs s)
  s : ∀ i, i < R.n → L.getD i true = true → R.wants i = true → R.S i hs W
  x : ∀ i, i < R.n → L.getD i true = true → ∀ d, R.D i = some d → v d = R.X i hs
/-- what an operation of each kind has to do -/
def RPost (R : RSp) (hs : Nat → Hd) (i : Nat) (W : World) (G : Value → World → Prop) : OpK → Prop
  | .plain => ∀ W', Below W.heap.size W W' → R.S i hs W' → G (R.X i hs) W'
  | .make => ∀ h W', Below W.heap.size W W' → R.M i h W' → (∀ b ∈ R.bl i h, W.heap.size ≤ b ∧ b < W'.heap.size) → R.S i (updH hs i h) W' → G (R.X i (updH hs i h)) W'
  | .store t => ∀ W', SetAt (hs t).b W W' → R.M t (hs t) W' → R.S i hs W' → G undef W'
def RStep (R : RSp) (w : World) (Q : Exit → Act → World → Prop) (outs : List (Nat × Value)) (i : Nat) (o : Oper) : Prop :=
  ∀ (a : Act) (hs : Nat → Hd) (W : World) (K : Act → World → Prop), Below w.heap.size w W → (∀ q ∈ outs, a.tmps[q.1]?.getD undef = q.2) →
    (∀ j d, depB o j = true → R.D j = some d → a.tmps[d]?.getD undef = R.X j hs) → (∀ r, r ∈ R.uses i → r ≠ i → R.M r (hs r) W ∧ ∀ b ∈ R.bl r (hs r), w.heap.size ≤ b ∧ b < W.heap.size) →
    RPost R hs i W (fun x W' => K (a.put o.dst x) W') (R.kind i) → Oper.wp Try.prog o a W K Q
def dstsB (ops : Array Oper) (D : Nat → Option Nat) : Bool := (List.range ops.size).all fun i => match ops[i]? with
  | some o => o.dst == D i
  | none => true
def useB (ops : Array Oper) (uses : Nat → List Nat) (kind : Nat → OpK) : Bool := (List.range ops.size).all fun i => match ops[i]? with
  | some o => (uses i).all fun r => (kind r).isMake && (r == i || (List.range ops.size).any fun j => depB o j && (uses j).contains r)
  | none => true
theorem all_ops {ops : Array Oper} {f : Nat → Oper → Bool} (h : ((List.range ops.size).all fun i => match ops[i]? with | some o => f i o | none => true) = true) (i : Nat) (o : Oper) (ho : ops[i]? = some o) : f i o = true := by
  have hi : i < ops.size := (Array.getElem?_eq_some_iff.1 ho).1
  rw [List.all_eq_true] at h
  have := h i (by simpa using hi)
  rw [ho] at this
  exact this
theorem RInv.done {R : RSp} {w : World} {ops : Array Oper} {L : Array Bool} {v : Nat → Value} {hs : Nat → Hd} {W : World} (hI : RInv R w L v hs W) {i : Nat} {o : Oper} (hn : R.n = ops.size) (hu : useB ops R.uses R.kind = true) (ho : ops[i]? = some o) (hdd : ∀ j, depB o j = true → j < i ∧ L.getD j true = true) (r : Nat) (hr : r ∈ R.uses i) (hne : r ≠ i) :
    r < R.n ∧ L.getD r true = true ∧ (R.kind r).isMake = true := by
  have h := all_ops hu i o ho
  rw [List.all_eq_true] at h
  have h1 := h r hr
  rw [Bool.and_eq_true, Bool.or_eq_true] at h1
  obtain ⟨_, h2⟩ := h1
  rcases h2 with h2 | h2
  · exact absurd (by simpa using h2) hne
  · rw [List.any_eq_true] at h2
    obtain ⟨j, hj, h3⟩ := h2
    rw [Bool.and_eq_true] at h3
    have hj2 : j < R.n := by rw [hn]; simpa using hj
    exact hI.u j hj2 (hdd j h3.1).2 r (by simpa using h3.2)
theorem RInv.used {R : RSp} {ops : Array Oper} {i r : Nat} {o : Oper} (hu : useB ops R.uses R.kind = true) (ho : ops[i]? = some o) (hr : r ∈ R.uses i) : (R.kind r).isMake = true := by
  have h := all_ops hu i o ho
  rw [List.all_eq_true] at h
  have h1 := h r hr
  rw [Bool.and_eq_true] at h1
  exact h1.1
theorem updO_ne (v : Nat → Value) (d : Option Nat) (x : Value) (s : Nat) (h : d ≠ some s) : updO v d x s = v s := by
  cases d with
  | none => rfl
  | some d => rw [upd_some, if_neg (fun e => h (by rw [e]))]
/-- frames with new values -/
def putL (a : Act) (l : List (Nat × Value)) : Act := l.foldl (fun a p => a.put (some p.1) p.2) a
theorem laid_putL (l : List (Nat × Value)) : ∀ (a : Act) (v : Nat → Value), (∀ p ∈ l, v p.1 = p.2) → laid a (l.map (·.1)) v = putL a l := by
  induction l with
  | nil => intro a v _; rfl
  | cons p l ih =>
    intro a v h
    rw [List.map_cons, laid_cons, h p (List.mem_cons_self ..)]
    exact ih _ v (fun q hq => h q (List.mem_cons_of_mem _ hq))

section
variable {R : RSp} {w : World} {ops : Array Oper} {L : Array Bool} {v : Nat → Value} {hs : Nat → Hd} {W W' : World} {i r : Nat} {o : Oper}
theorem set_cases (h : (L.setIfInBounds i true).getD r true = true) : r = i ∨ L.getD r true = true := by
  rw [set_getD] at h
  simpa using h
theorem set_old (h : L.getD r true = true) : (L.setIfInBounds i true).getD r true = true := by rw [set_getD, h, Bool.or_true]
theorem set_new : (L.setIfInBounds i true).getD i true = true := by rw [set_getD]; simp
theorem make_ne (hr : (R.kind r).isMake = true) (hk : (R.kind i).isMake = false) : r ≠ i := fun e => by rw [e, hk] at hr; cases hr
theorem RInv.useNext (hI : RInv R w L v hs W) (hn : R.n = ops.size) (hu : useB ops R.uses R.kind = true) (ho : ops[i]? = some o) (hi : i < R.n) (hdd : ∀ j, depB o j = true → j < i ∧ L.getD j true = true) :
    ∀ j, j < R.n → (L.setIfInBounds i true).getD j true = true → ∀ r ∈ R.uses j, r < R.n ∧ (L.setIfInBounds i true).getD r true = true ∧ (R.kind r).isMake = true := by
  intro j hj hL r hr
  rcases set_cases hL with rfl | hL
  · by_cases e : r = j
    · subst e
      exact ⟨hi, set_new, RInv.used hu ho hr⟩
    · obtain ⟨h1, h2, h3⟩ := hI.done hn hu ho hdd r hr e
      exact ⟨h1, set_old h2, h3⟩
  · obtain ⟨h1, h2, h3⟩ := hI.u j hj hL r hr
    exact ⟨h1, set_old h2, h3⟩
theorem RInv.xNext (hI : RInv R w L v hs W) (hinj : ∀ i j d, R.D i = some d → R.D j = some d → i = j) (hdo : o.dst = R.D i) {hs' : Nat → Hd} (hX : ∀ j, j < R.n → L.getD j true = true → j ≠ i → R.X j hs' = R.X j hs) (x : Value) (hx : (R.D i).isSome = true → x = R.X i hs') :
    ∀ j, j < R.n → (L.setIfInBounds i true).getD j true = true → ∀ d, R.D j = some d → updO v o.dst x d = R.X j hs' := by
  intro j hj hL d hd
  by_cases e : j = i
  · subst e
    rw [hdo, hd, upd_some, if_pos rfl]
    exact hx (by rw [hd]; rfl)
  · have hL' : L.getD j true = true := (set_cases hL).resolve_left e
    rw [updO_ne _ _ _ _ (fun h => e (hinj j i d hd (by rw [← hdo, h])))]
    rw [hX j hj hL' e]
    exact hI.x j hj hL' d hd
theorem RInv.plain (hI : RInv R w L v hs W) (hok : R.Ok w.heap.size) (hn : R.n = ops.size) (hu : useB ops R.uses R.kind = true) (ho : ops[i]? = some o) (hi : i < R.n) (hdd : ∀ j, depB o j = true → j < i ∧ L.getD j true = true)
    (hinj : ∀ i j d, R.D i = some d → R.D j = some d → i = j) (hdo : o.dst = R.D i) (hk : (R.kind i).isMake = false) (hB : Below W.heap.size W W') (hS : R.wants i = true → R.S i hs W') (x : Value) (hx : (R.D i).isSome = true → x = R.X i hs) :
    RInv R w (L.setIfInBounds i true) (updO v o.dst x) hs W' := by
  have hsz := hB.size
  have hbs := hI.b.size
  refine ⟨hI.b.trans (hB.mono hbs), hI.useNext hn hu ho hi hdd, fun r hr hL hm => ?_, fun r s hr hs hne hLr hLs hmr hms => ?_, fun j hj hL hw => ?_, hI.xNext hinj hdo (fun _ _ _ _ => rfl) x hx⟩
  · have hL' := (set_cases hL).resolve_left (make_ne hm hk)
    obtain ⟨h1, h2⟩ := hI.m r hr hL' hm
    exact ⟨hok.mG _ _ _ _ h1 hB, fun b hb => by have := h2 b hb; omega⟩
  · exact hI.d r s hr hs hne ((set_cases hLr).resolve_left (make_ne hmr hk)) ((set_cases hLs).resolve_left (make_ne hms hk)) hmr hms
  · by_cases e : j = i
    · subst e; exact hS hw
    · exact hok.sG _ _ _ _ (hI.s j hj ((set_cases hL).resolve_left e) hw) hB
theorem RInv.make (hI : RInv R w L v hs W) (hok : R.Ok w.heap.size) (hn : R.n = ops.size) (hu : useB ops R.uses R.kind = true) (ho : ops[i]? = some o) (hi : i < R.n) (hdd : ∀ j, depB o j = true → j < i ∧ L.getD j true = true)
    (hinj : ∀ i j d, R.D i = some d → R.D j = some d → i = j) (hdo : o.dst = R.D i) (hLi : L.getD i true = false) (h : Hd) (hB : Below W.heap.size W W') (hM : R.M i h W') (hbl : ∀ b ∈ R.bl i h, W.heap.size ≤ b ∧ b < W'.heap.size) (hS : R.S i (updH hs i h) W') :
    RInv R w (L.setIfInBounds i true) (updO v o.dst (R.X i (updH hs i h))) (updH hs i h) W' := by
  have hsz := hB.size
  have hbs := hI.b.size
  have hc : ∀ j, j < R.n → L.getD j true = true → ∀ r ∈ R.uses j, updH hs i h r = hs r := fun j hj hL r hr => updH_ne _ _ _ _ (fun e => by
    have := (hI.u j hj hL r hr).2.1
    rw [e, hLi] at this; cases this)
  refine ⟨hI.b.trans (hB.mono hbs), hI.useNext hn hu ho hi hdd, fun r hr hL hm => ?_, fun r s hr hs' hne hLr hLs hmr hms => ?_, fun j hj hL hw => ?_, hI.xNext hinj hdo (fun j hj hL _ => hok.xC _ _ _ (hc j hj hL)) _ (fun _ => rfl)⟩
  · by_cases e : r = i
    · subst e
      rw [updH_same]
      exact ⟨hM, fun b hb => by have := hbl b hb; omega⟩
    · rw [updH_ne _ _ _ _ e]
      obtain ⟨h1, h2⟩ := hI.m r hr ((set_cases hL).resolve_left e) hm
      exact ⟨hok.mG _ _ _ _ h1 hB, fun b hb => by have := h2 b hb; omega⟩
  · by_cases e1 : r = i
    · subst e1
      rw [updH_same, updH_ne _ _ _ _ (Ne.symm hne)]
      intro b hb hb2
      have h1 := hbl b hb
      have h2 := (hI.m s hs' ((set_cases hLs).resolve_left (Ne.symm hne)) hms).2 b hb2
      omega
    · by_cases e2 : s = i
      · subst e2
        rw [updH_same, updH_ne _ _ _ _ e1]
        intro b hb hb2
        have h1 := hbl b hb2
        have h2 := (hI.m r hr ((set_cases hLr).resolve_left e1) hmr).2 b hb
        omega
      · rw [updH_ne _ _ _ _ e1, updH_ne _ _ _ _ e2]
        exact hI.d r s hr hs' hne ((set_cases hLr).resolve_left e1) ((set_cases hLs).resolve_left e2) hmr hms
  · by_cases e : j = i
    · subst e; exact hS
    · have hL' := (set_cases hL).resolve_left e
      exact hok.sG _ _ _ _ (hok.sC _ _ _ _ (fun r hr => (hc j hj hL' r hr).symm) (hI.s j hj hL' hw)) hB
theorem RInv.store (hI : RInv R w L v hs W) (hok : R.Ok w.heap.size) (hn : R.n = ops.size) (hu : useB ops R.uses R.kind = true) (ho : ops[i]? = some o) (hi : i < R.n) (hdd : ∀ j, depB o j = true → j < i ∧ L.getD j true = true)
    (hinj : ∀ i j d, R.D i = some d → R.D j = some d → i = j) (hdo : o.dst = R.D i) {t : Nat} (hk : R.kind i = .store t) (hD : R.D i = none) (ht : t ∈ R.uses i) (hbt : ∀ h, R.bl t h = [h.b]) (hT : ∀ j, j ≠ i → t ∈ R.uses j → ∀ hs W, R.S j hs W)
    (hB : SetAt (hs t).b W W') (hM : R.M t (hs t) W') (hS : R.S i hs W') (x : Value) :
    RInv R w (L.setIfInBounds i true) (updO v o.dst x) hs W' := by
  have hsz := hB.size
  have hk' : (R.kind i).isMake = false := by rw [hk]; rfl
  have hti : t ≠ i := make_ne (RInv.used hu ho ht) hk'
  obtain ⟨t1, t2, t3⟩ := hI.done hn hu ho hdd t ht hti
  have hbd := (hI.m t t1 t2 t3).2 (hs t).b (by rw [hbt]; simp)
  have hnot : ∀ r, r < R.n → L.getD r true = true → (R.kind r).isMake = true → r ≠ t → (hs t).b ∉ R.bl r (hs r) := fun r hr hL hm hne =>
    hI.d t r t1 hr (Ne.symm hne) t2 hL t3 hm _ (by rw [hbt]; simp)
  refine ⟨hB.below _ _ hbd.1 hI.b, hI.useNext hn hu ho hi hdd, fun r hr hL hm => ?_, fun r s hr hs hne hLr hLs hmr hms => ?_, fun j hj hL hw => ?_, hI.xNext hinj hdo (fun _ _ _ _ => rfl) x (fun h => by rw [hD] at h; cases h)⟩
  · have hL' := (set_cases hL).resolve_left (make_ne hm hk')
    obtain ⟨h1, h2⟩ := hI.m r hr hL' hm
    refine ⟨?_, fun b hb => by rw [hsz]; exact h2 b hb⟩
    by_cases e : r = t
    · subst e; exact hM
    · exact hok.mS _ _ _ _ _ h1 (hnot r hr hL' hm e) hbd.1 hB
  · exact hI.d r s hr hs hne ((set_cases hLr).resolve_left (make_ne hmr hk')) ((set_cases hLs).resolve_left (make_ne hms hk')) hmr hms
  · by_cases e : j = i
    · subst e; exact hS
    · have hL' := (set_cases hL).resolve_left e
      by_cases hu' : t ∈ R.uses j
      · exact hT j e hu' _ _
      · refine hok.sS _ _ _ _ _ (hI.s j hj hL' hw) (fun r hr => ?_) hbd.1 hB
        obtain ⟨r1, r2, r3⟩ := hI.u j hj hL' r hr
        exact hnot r r1 r2 r3 (fun e => hu' (e ▸ hr))
end
/-- what holds behind a region -/
structure ROut (R : RSp) (w : World) (v : Nat → Value) (hs : Nat → Hd) (W : World) : Prop where
  b : Below w.heap.size w W
  m : ∀ r, r < R.n → (R.kind r).isMake = true → R.M r (hs r) W ∧ ∀ b ∈ R.bl r (hs r), w.heap.size ≤ b ∧ b < W.heap.size
  d : ∀ r s, r < R.n → s < R.n → r ≠ s → (R.kind r).isMake = true → (R.kind s).isMake = true → ∀ b ∈ R.bl r (hs r), b ∉ R.bl s (hs s)
  s : ∀ i, i < R.n → R.wants i = true → R.S i hs W
  x : ∀ i, i < R.n → ∀ d, R.D i = some d → v d = R.X i hs
/-- the closed facts of what is said -/
structure RSp.Fit (R : RSp) (ops : Array Oper) (ds : List Nat) : Prop where
  n : R.n = ops.size
  back : backB ops = true
  dst : dstsB ops R.D = true
  use : useB ops R.uses R.kind = true
  mem : ∀ i d, i < R.n → R.D i = some d → d ∈ ds
  inj : ∀ i j d, R.D i = some d → R.D j = some d → i = j
  nd : ds.Nodup
  st : ∀ i t, R.kind i = .store t → R.D i = none ∧ t ∈ R.uses i ∧ (∀ h, R.bl t h = [h.b]) ∧ ∀ j, j ≠ i → t ∈ R.uses j → ∀ hs W, R.S j hs W
  gd : ∀ i o, ops[i]? = some o → (o.guard = none ∧ R.wants i = true) ∨ ∃ j b d, o.guard = some (j, b) ∧ depB o j = true ∧ R.D j = some d ∧ (ops[j]?).bind (·.dst) = some d ∧ (∀ hs, R.X j hs = .bool (if R.wants i then b else !b)) ∧ (R.wants i = false → (R.kind i).isMake = false ∧ ∀ hs, R.X i hs = undef)
theorem wants_eq {R : RSp} {ops : Array Oper} {ds : List Nat} {i : Nat} {o : Oper} (hf : R.Fit ops ds) (ho : ops[i]? = some o) {tm : Array Value} {hs : Nat → Hd} (hv : ∀ j d, depB o j = true → R.D j = some d → tm[d]?.getD undef = R.X j hs) :
    Region.wanted o (yielded ops tm) = R.wants i := by
  rcases hf.gd i o ho with ⟨h1, h2⟩ | ⟨j, b, d, h1, h2, h3, h4, h5, _⟩
  · unfold Region.wanted; rw [h1, h2]
  · have hx := hv j d h2 h3
    rw [h5 hs] at hx
    have hy : tm[d]? = some (.bool (if R.wants i then b else !b)) := by
      cases e : tm[d]? with
      | none => rw [e] at hx; cases hx
      | some y => rw [e] at hx; exact congrArg some hx
    unfold Region.wanted yielded
    rw [h1]
    simp only [h4, Option.bind_some, hy]
    cases R.wants i <;> cases b <;> rfl
set_option maxRecDepth 4000 in
theorem region_all {id : Nat} {ops : Array Oper} {Q : Exit → Act → World → Prop} {a : Act} {w : World} (R : RSp) (outs : List (Nat × Value)) (ds : List Nat)
    (hf : R.Fit ops ds) (hok : R.Ok w.heap.size) (hsz : ∀ e ∈ ds, e < a.tmps.size) (hout : ∀ q ∈ outs, a.eval (.tmp q.1) = q.2 ∧ q.1 ∉ ds)
    (hstep : ∀ (i : Nat) (o : Oper), ops[i]? = some o → R.wants i = true → RStep R w Q outs i o)
    (hend : ∀ hs v W, ROut R w v hs W → Q .normal (laid a ds v) W) :
    (Code.region id ops true).wp Try.prog Q a w := by
  have hwd : Below w.heap.size w w.drew := below_drew1 w
  have hn := hf.n
  refine wp_region_laid ds outs (fun L v W => ∃ hs, RInv R w L v hs W) (by kernel_rfl) (back_of hf.back) hf.nd hsz hout ?_ ⟨fun _ => ⟨0, 0, 0, 0, none⟩, hwd, fun i hi h => ?_, fun i hi h => ?_, fun r s hr hs hne h => ?_, fun i hi h => ?_, fun i hi h => ?_⟩ ?_ ?_
  · intro i o ho e he
    have hi : i < R.n := by rw [hn]; exact (Array.getElem?_eq_some_iff.1 ho).1
    have := all_ops hf.dst i o ho
    rw [he] at this
    exact hf.mem i e hi (show some e = R.D i by simpa using this).symm
  · rw [hn] at hi; simp [hi] at h
  · rw [hn] at hi; simp [hi] at h
  · rw [hn] at hr; simp [hr] at h
  · rw [hn] at hi; simp [hi] at h
  · rw [hn] at hi; simp [hi] at h
  · intro i o ho L v W a' hJ hv hq hL hdp K hK
    obtain ⟨hs, hI⟩ := hJ
    have hi : i < R.n := by rw [hn]; exact (Array.getElem?_eq_some_iff.1 ho).1
    have hdo : o.dst = R.D i := by simpa using all_ops hf.dst i o ho
    have hdd : ∀ j, depB o j = true → j < i ∧ L.getD j true = true := fun j hj => by
      refine ⟨?_, dep_of hdp j hj⟩
      unfold depB at hj
      rw [Array.any_eq_true'] at hj
      obtain ⟨e, he, h2⟩ := hj
      rw [Bool.and_eq_true, beq_iff_eq] at h2
      have := back_of hf.back i o ho e he h2.1
      omega
    have hval : ∀ j d, depB o j = true → R.D j = some d → a'.tmps[d]?.getD undef = R.X j hs := fun j d hj hd => by
      have hjn : j < R.n := Nat.lt_trans (hdd j hj).1 hi
      rw [hv d (hf.mem j d hjn hd)]
      exact hI.x j hjn (hdd j hj).2 d hd
    rw [wants_eq hf ho hval]
    by_cases hw : R.wants i = true
    · rw [if_pos hw]
      refine hstep i o ho hw a' hs W K hI.b hq hval (fun r hr hne => ?_) ?_
      · obtain ⟨r1, r2, r3⟩ := hI.done hn hf.use ho hdd r hr hne
        exact hI.m r r1 r2 r3
      · cases hk : R.kind i with
        | plain => exact fun W' hB hS => hK _ W' ⟨hs, hI.plain hok hn hf.use ho hi hdd hf.inj hdo (by rw [hk]; rfl) hB (fun _ => hS) _ (fun _ => rfl)⟩
        | make => exact fun h W' hB hM hbl hS => hK _ W' ⟨_, hI.make hok hn hf.use ho hi hdd hf.inj hdo hL h hB hM hbl hS⟩
        | store t =>
          obtain ⟨hD, ht, hbt, hT⟩ := hf.st i t hk
          exact fun W' hB hM hS => hK _ W' ⟨hs, hI.store hok hn hf.use ho hi hdd hf.inj hdo hk hD ht hbt hT hB hM hS _⟩
    · rw [if_neg hw]
      have hw' : R.wants i = false := by simpa using hw
      rcases hf.gd i o ho with ⟨_, h2⟩ | ⟨j, b, d, h1, h2, h3, h4, h5, h6⟩
      · exact absurd h2 hw
      · obtain ⟨hk, hX⟩ := h6 hw'
        exact hK _ W ⟨hs, hI.plain hok hn hf.use ho hi hdd hf.inj hdo hk (Below.refl _ _) (fun h => absurd h hw) _ (fun _ => (hX hs).symm)⟩
  · rintro L v W ⟨hs, hI⟩ hall
    have hall' : ∀ i, i < R.n → L.getD i true = true := fun i hi => hall i (by rw [← hn]; exact hi)
    exact hend hs v W ⟨hI.b, fun r hr hm => hI.m r hr (hall' r hr) hm, fun r s hr hs hne hmr hms => hI.d r s hr hs hne (hall' r hr) (hall' s hs) hmr hms, fun i hi hw => hI.s i hi (hall' i hi) hw, fun i hi d hd => hI.x i hi (hall' i hi) d hd⟩

/-- what is said, in lists -/
def dOf (l : List (Option Nat)) (i : Nat) : Option Nat := l.getD i none
theorem dOf_mem {l : List (Option Nat)} {i d : Nat} (h : dOf l i = some d) : d ∈ l.filterMap id := by
  rw [List.mem_filterMap]
  refine ⟨some d, ?_, rfl⟩
  unfold dOf at h
  rw [List.getD_eq_getElem?_getD] at h
  cases e : l[i]? with
  | none => rw [e] at h; cases h
  | some y =>
    rw [e] at h
    have hy : y = some d := h
    rw [← hy]
    exact List.mem_of_getElem? e
theorem dOf_inj : ∀ {l : List (Option Nat)} (_ : (l.filterMap id).Nodup) {i j d : Nat} (_ : dOf l i = some d) (_ : dOf l j = some d), i = j
  | [], _, i, j, d, h1, _ => by simp [dOf] at h1
  | x :: l, hnd, 0, 0, d, h1, h2 => rfl
  | x :: l, hnd, 0, j + 1, d, h1, h2 => by
    have h2' : dOf l j = some d := by simpa [dOf] using h2
    have h1' : x = some d := by simpa [dOf] using h1
    subst h1'
    rw [List.filterMap_cons_some (f := id) (a := some d) rfl, List.nodup_cons] at hnd
    exact absurd (dOf_mem h2') hnd.1
  | x :: l, hnd, i + 1, 0, d, h1, h2 => by
    have h2' : dOf l i = some d := by simpa [dOf] using h1
    have h1' : x = some d := by simpa [dOf] using h2
    subst h1'
    rw [List.filterMap_cons_some (f := id) (a := some d) rfl, List.nodup_cons] at hnd
    exact absurd (dOf_mem h2') hnd.1
  | x :: l, hnd, i + 1, j + 1, d, h1, h2 => by
    have h1' : dOf l i = some d := by simpa [dOf] using h1
    have h2' : dOf l j = some d := by simpa [dOf] using h2
    have hnd' : (l.filterMap id).Nodup := by
      cases x with
      | none => rw [List.filterMap_cons_none (f := id) (a := none) rfl] at hnd; exact hnd
      | some y => rw [List.filterMap_cons_some (f := id) (a := some y) rfl, List.nodup_cons] at hnd; exact hnd.2
    exact congrArg (· + 1) (dOf_inj hnd' h1' h2')
/-- 0: plain, 1: makes, t + 2: stores into what t made -/
def kOf (l : List Nat) (i : Nat) : OpK := match l.getD i 0 with
  | 0 => .plain
  | 1 => .make
  | t + 2 => .store t
def storesOf (l : List Nat) : List (Nat × Nat) := (List.range l.length).filterMap fun i => match l.getD i 0 with
  | t + 2 => some (i, t)
  | _ => none
theorem kOf_store {l : List Nat} {i t : Nat} (h : kOf l i = .store t) : (i, t) ∈ storesOf l := by
  unfold kOf at h
  have hi : i < l.length := by
    rcases Nat.lt_or_ge i l.length with h' | h'
    · exact h'
    · have e : l.getD i 0 = 0 := by simp [List.getD_eq_getElem?_getD, h']
      rw [e] at h; cases h
  unfold storesOf
  rw [List.mem_filterMap]
  refine ⟨i, by simpa using hi, ?_⟩
  split at h
  · cases h
  · cases h
  · rename_i t' e
    rw [e]
    cases h
    rfl
def uOf (l : List (List Nat)) (i : Nat) : List Nat := l.getD i []
/-- what an operation made: two forms -/
structure Mem where
  P : Hd → World → Prop
  bl : Hd → List Nat
  grow : ∀ h W W', P h W → Below W.heap.size W W' → P h W'
  far : ∀ h W W' B, P h W → B ∉ bl h → SetAt B W W' → P h W'
def memNone : Mem := ⟨fun _ _ => True, fun _ => [], fun _ _ _ _ _ => trivial, fun _ _ _ _ _ _ _ => trivial⟩
/-- a box of the region's own -/
def memBox (k T : Nat) : Mem := ⟨fun h W => ∃ vs : Array Value, vs.size = k ∧ BoxAt W h.b vs T, fun h => [h.b], fun _ _ _ ⟨vs, e, h⟩ hb => ⟨vs, e, h.next hb⟩, fun _ _ _ _ ⟨vs, e, h⟩ hn hB => ⟨vs, e, hB.box h (fun e => hn (by simp [e]))⟩⟩
/-- a row of numbers of the region's own -/
def memNats (xs : List Nat) : Mem := ⟨fun h W => NatsAt W h.b 0 xs ∧ h.b < W.heap.size, fun h => [h.b], fun _ _ _ ⟨h, l⟩ hb => ⟨h.below hb l, Nat.lt_of_lt_of_le l hb.size⟩, fun _ _ _ _ ⟨h, l⟩ hn hB => ⟨hB.nats h (fun e => hn (by simp [e])), by rw [hB.size]; exact l⟩⟩
/-- stores of whole boxes -/
structure Sto where
  t : Nat
  T : TypeId
  c : (Nat → Hd) → Array Value
def RSp.of (n : Nat) (D : List (Option Nat)) (wants : Nat → Bool) (X : Nat → (Nat → Hd) → Value) (uses : List (List Nat)) (kind : List Nat) (mem : Nat → Mem) (sto : Nat → Option Sto) : RSp where
  n := n
  D := dOf D
  wants := wants
  X := X
  uses := uOf uses
  kind := kOf kind
  M := fun r => (mem r).P
  bl := fun r => (mem r).bl
  S := fun i hs W => match sto i with
    | none => True
    | some s => BoxAt W (hs s.t).b (s.c hs) s.T
theorem RSp.of_ok {n : Nat} {D : List (Option Nat)} {wants : Nat → Bool} {X : Nat → (Nat → Hd) → Value} {uses : List (List Nat)} {kind : List Nat} {mem : Nat → Mem} {sto : Nat → Option Sto} (lo : Nat)
    (hX : ∀ i hs hs', (∀ r ∈ uOf uses i, hs r = hs' r) → X i hs = X i hs')
    (hS : ∀ i s, sto i = some s → s.t ∈ uOf uses i ∧ (∀ h, (mem s.t).bl h = [h.b]) ∧ ∀ hs hs', (∀ r ∈ uOf uses i, hs r = hs' r) → s.c hs = s.c hs') : (RSp.of n D wants X uses kind mem sto).Ok lo where
  mG := fun r h W W' a b => (mem r).grow h W W' a b
  mS := fun r h W W' B a b _ c => (mem r).far h W W' B a b c
  sG := fun i hs W W' a b => by
    show match sto i with | none => True | some s => BoxAt W' (hs s.t).b (s.c hs) s.T
    have a' : match sto i with | none => True | some s => BoxAt W (hs s.t).b (s.c hs) s.T := a
    cases e : sto i with
    | none => trivial
    | some s => rw [e] at a'; exact BoxAt.next a' b
  sS := fun i hs W W' B a b _ d => by
    show match sto i with | none => True | some s => BoxAt W' (hs s.t).b (s.c hs) s.T
    have a' : match sto i with | none => True | some s => BoxAt W (hs s.t).b (s.c hs) s.T := a
    cases e : sto i with
    | none => trivial
    | some s =>
      rw [e] at a'
      obtain ⟨h1, h2, _⟩ := hS i s e
      have hb : B ∉ (mem s.t).bl (hs s.t) := b s.t h1
      rw [h2] at hb
      exact d.box a' (fun e => hb (by simp [e]))
  xC := hX
  sC := fun i hs hs' W a b => by
    show match sto i with | none => True | some s => BoxAt W (hs' s.t).b (s.c hs') s.T
    have b' : match sto i with | none => True | some s => BoxAt W (hs s.t).b (s.c hs) s.T := b
    have a' : ∀ r ∈ uOf uses i, hs r = hs' r := a
    cases e : sto i with
    | none => trivial
    | some s =>
      rw [e] at b'
      obtain ⟨h1, _, h3⟩ := hS i s e
      have b2 : BoxAt W (hs s.t).b (s.c hs) s.T := b'
      show BoxAt W (hs' s.t).b (s.c hs') s.T
      rw [← a' _ h1, ← h3 hs hs' a']
      exact b2
/-- one operation of a region -/
def IsOp (ops : Array Oper) (i : Nat) (dst : Option Nat) (op : Op) (g : Option (Nat × Bool)) (deps : List Nat) : Prop :=
  ∃ ty pos aft, ops[i]? = some ⟨dst, op, ty, pos, aft, g⟩ ∧ deps.all (depB ⟨dst, op, ty, pos, aft, g⟩) = true
theorem bd_one {lo hi g : Nat} (h1 : lo ≤ g) (h2 : g < hi) : ∀ b ∈ [g], lo ≤ b ∧ b < hi := fun b hb => by
  obtain rfl : b = g := by simpa using hb
  exact ⟨h1, h2⟩
theorem tmod_nn (x y : Nat) : Int.tmod (x : Int) (y : Int) = ((x % y : Nat) : Int) := (Int.ofNat_tmod x y).symm
/-- a function with a body -/
def Ent (f : FuncId) : Prop := ∃ fn c, Try.prog.funcs[f]? = some fn ∧ (fn.name == "runtime.NumGoroutine") = false ∧ fn.body = some c
theorem run_ent {f : FuncId} (h : Ent f) (vals : Array Value) (W : World) : (callFunc f vals).run Try.prog W = .ok (.enter f vals) W := by
  obtain ⟨fn, c, hf, hn, hb⟩ := h
  have h1 : fn.name ≠ "runtime.NumGoroutine" := by simpa using hn
  simp [callFunc, hf, h1, hb]
theorem step_call {Q : Exit → Act → World → Prop} {K : Act → World → Prop} {a : Act} {W : World} {f : FuncId} {dst : Option Nat} {args : Array Operand} {tys : Array TypeId} {ty : TypeId} {pos : String} {aft : Array Edge} {g : Option (Nat × Bool)} {vals : Array Value} {R : Ending → World → Prop}
    (he : Ent f) (hv : args.map a.eval = vals) (hc : Calls Try.prog f vals W R) (hK : ∀ e w', R e w' → ∃ v, e = .returned v ∧ K (a.put dst v) w') :
    Oper.wp Try.prog ⟨dst, .call { callee := .value (.func f), args := args, argTypes := tys }, ty, pos, aft, g⟩ a W K Q := by
  have HV := Lib.hid hv
  have HK := Lib.hid hK
  have HC := Lib.hid hc
  have HE := Lib.hid he
  clear hv hK hc he
  unfold Oper.wp
  simp only [execOp]
  go_simp
  rw [HV.out, run_ent HE.out, Oper.upon_enter]
  refine HC.out.mono fun en w' hr => ?_
  obtain ⟨v, rfl, hk⟩ := HK.out _ _ hr
  exact hk
theorem step_callv {Q : Exit → Act → World → Prop} {K : Act → World → Prop} {a : Act} {W : World} {f : FuncId} {dst : Option Nat} {cl : Operand} {args : Array Operand} {tys : Array TypeId} {ty : TypeId} {pos : String} {aft : Array Edge} {g : Option (Nat × Bool)} {vals first caps : Array Value} {R : Ending → World → Prop}
    (he : Ent f) (hcl : a.eval cl = .func (.func f) first caps) (hv : args.map a.eval = vals) (hc : Calls Try.prog f (first ++ vals ++ caps) W R) (hK : ∀ e w', R e w' → ∃ v, e = .returned v ∧ K (a.put dst v) w') :
    Oper.wp Try.prog ⟨dst, .call { callee := .value cl, args := args, argTypes := tys }, ty, pos, aft, g⟩ a W K Q := by
  have HV := Lib.hid hv
  have HL := Lib.hid hcl
  have HK := Lib.hid hK
  rw [Array.append_assoc] at hc
  have HC := Lib.hid hc
  have HE := Lib.hid he
  clear hv hK hc he hcl
  unfold Oper.wp
  simp only [execOp, resolve, HL.out, HV.out]
  simp only [Deferred.ofValue]
  simp [invoke, go_sem, run_ent HE.out]
  refine HC.out.mono fun en w' hr => ?_
  obtain ⟨v, rfl, hk⟩ := HK.out _ _ hr
  exact hk
def plainB (ops : Array Oper) : Bool := (List.range ops.size).all fun i => match ops[i]? with
  | some o => o.guard.isNone
  | none => true
/-- the closed facts of a region without guards -/
theorem RSp.of_fit {ops : Array Oper} {n : Nat} {D : List (Option Nat)} {X : Nat → (Nat → Hd) → Value} {uses : List (List Nat)} {kind : List Nat} {mem : Nat → Mem} {sto : Nat → Option Sto}
    (hn : n = ops.size) (hb : backB ops = true) (hd : dstsB ops (dOf D) = true) (hu : useB ops (uOf uses) (kOf kind) = true) (hg : plainB ops = true) (hnd : (D.filterMap id).Nodup)
    (hst : ∀ p ∈ storesOf kind, dOf D p.1 = none ∧ p.2 ∈ uOf uses p.1 ∧ (∀ h, (mem p.2).bl h = [h.b]) ∧ ∀ j, j ≠ p.1 → p.2 ∈ uOf uses j → sto j = none) :
    (RSp.of n D (fun _ => true) X uses kind mem sto).Fit ops (D.filterMap id) where
  n := hn
  back := hb
  dst := hd
  use := hu
  mem := fun _ _ _ h => dOf_mem h
  inj := fun _ _ _ h1 h2 => dOf_inj hnd h1 h2
  nd := hnd
  st := fun i t h => by
    obtain ⟨h1, h2, h3, h4⟩ := hst (i, t) (kOf_store h)
    refine ⟨h1, h2, h3, fun j hj hm hs W => ?_⟩
    show match sto j with | none => True | some s => BoxAt W (hs s.t).b (s.c hs) s.T
    rw [h4 j hj hm]
    trivial
  gd := fun i o ho => .inl ⟨by simpa using all_ops hg i o ho, rfl⟩
end Go.Proofs.Ytdmgffoikebgkaa
/- sameSize, Like, Same. -/
namespace Go.Proofs.Ytdmgffoikebgkaa
open Go.RowKit

set_option maxHeartbeats 1000000 in
theorem Like_any (h1 h2 : Int) (p1 p2 : Option Addr) (l1 l2 c1 c2 : Nat) (w : World) :
    Calls Try.prog 121 #[.agg #[.int .i64 h1, .slice p1 l1 c1], .agg #[.int .i64 h2, .slice p2 l2 c2]] w fun e w' => e = .returned (.bool (decide (h1 = h2 ∧ l1 = l2))) ∧ Below w.heap.size w w' := by
  by_cases ha : h1 = h2
  · have hb : (h1 == h2) = true := by simpa using ha
    by_cases hl : l1 = l2
    · have hb2 : (((l1 : Nat) : Int) == ((l2 : Nat) : Int)) = true := by rw [beq_iff_eq]; omega
      have Ha := Lib.hid ha
      have Hl := Lib.hid hl
      clear ha hl
      go_enter Try.func121, Try.ntmps121
      go_wp2
      go_ret
      exact ⟨ret_bool (by simp [Ha.out, Hl.out]), ((Below.refl _ _).alloc (Nat.le_refl _) _).alloc (by simp) _⟩
    · have hb2 : (((l1 : Nat) : Int) == ((l2 : Nat) : Int)) = false := by rw [beq_eq_false_iff_ne]; omega
      have Hl := Lib.hid hl
      clear ha hl
      go_enter Try.func121, Try.ntmps121
      go_wp2
      go_ret
      exact ⟨ret_bool (by simp [Hl.out]), ((Below.refl _ _).alloc (Nat.le_refl _) _).alloc (by simp) _⟩
  · have hb : (h1 == h2) = false := by simpa using ha
    have Ha := Lib.hid ha
    clear ha
    go_enter Try.func121, Try.ntmps121
    go_wp2
    go_ret
    exact ⟨ret_bool (by simp [Ha.out]), ((Below.refl _ _).alloc (Nat.le_refl _) _).alloc (by simp) _⟩

/-- two boxed designs -/
structure TwoAt (w0 : World) (v1 v2 : Value) (W : World) : Prop where
  c1 : W.cell? ⟨w0.heap.size, 1, none⟩ = some v1
  c2 : W.cell? ⟨w0.heap.size + 1, 1, none⟩ = some v2
  below : Below w0.heap.size w0 W
theorem TwoAt.drew {w0 W : World} {v1 v2 : Value} (h : TwoAt w0 v1 v2 W) : TwoAt w0 v1 v2 W.drew := ⟨h.c1, h.c2, h.below.drew⟩
theorem lists_eq (xs ys : List Int) (hl : xs.length = ys.length) (h : ∀ i, i < xs.length → nthI xs i = nthI ys i) : xs = ys := by
  apply List.ext_getElem hl
  intro i h1 h2
  have := h i h1
  rwa [nthI_get xs i h1, nthI_get ys i h2] at this
set_option maxRecDepth 100000 in
set_option maxHeartbeats 1000000 in
theorem Same_any (h1 h2 : Int) (p1 p2 : Option Addr) (c1 c2 : Nat) (xs ys : List Int) (w : World) (hx : Reads w (.slice p1 xs.length c1) xs) (hy : Reads w (.slice p2 ys.length c2) ys) :
    Calls Try.prog 40 #[.agg #[.int .i64 h1, .slice p1 xs.length c1], .agg #[.int .i64 h2, .slice p2 ys.length c2]] w fun e w' => e = .returned (.bool (decide (h1 = h2 ∧ xs = ys))) ∧ Below w.heap.size w w' := by
  have HLike := fun w => Like_any h1 h2 p1 p2 xs.length ys.length c1 c2 w
  by_cases hs : h1 = h2 ∧ xs.length = ys.length
  · obtain ⟨rfl, hl⟩ := hs
    have Hl := Lib.hid hl
    have hd : decide (h1 = h1 ∧ xs.length = ys.length) = true := by simp [hl]
    rw [hd] at HLike
    obtain ⟨q, cx, ex, hxl, hxr⟩ := hx
    obtain ⟨q2, cy, ey, _, hyr⟩ := hy
    simp at ex ey
    obtain ⟨rfl, rfl⟩ := ex
    obtain ⟨rfl, rfl⟩ := ey
    have HX := Lib.hid hxr
    have HY := Lib.hid hyr
    have hyl' : xs.length ≤ 17592186044416 := hxl
    clear hd hl hxr hyr hxl
    go_enter Try.func40, Try.ntmps40
    go_wp2_with fail
    refine (HLike _).mono ?_
    rintro e w1 ⟨rfl, hb1⟩
    have hT : TwoAt w (.slice p1 xs.length c1) (.slice p2 ys.length c2) w1 := by
      refine ⟨(hb1.cell (p := ⟨w.heap.size, 1, none⟩) (by show w.heap.size < _; simp; omega)).trans ?_, (hb1.cell (p := ⟨w.heap.size + 1, 1, none⟩) (by show w.heap.size + 1 < _; simp)).trans (by simp), (((Below.refl _ _).alloc (Nat.le_refl _) _).alloc (by simp) _).trans (hb1.mono (by simp; omega))⟩
      exact (((Below.refl (w.heap.size + 1) (w.alloc (.cells #[.int .i64 h1, .slice p1 xs.length c1] 37))).alloc (by simp) _).cell (p := ⟨w.heap.size, 1, none⟩) (by simp)).trans (by simp)
    have HT := Lib.hid hT
    clear hb1 hT
    go_wp2
    go_loopw [5] (fun i wr => ∃ k : Nat, k ≤ xs.length ∧ i = .int .i64 k ∧ (∀ i, i < k → nthI xs i = nthI ys i) ∧ TwoAt w (.slice p1 xs.length c1) (.slice p2 ys.length c2) wr) (fun i _ => xs.length - (intOf i).toNat)
    case atStart => exact ⟨0, Nat.zero_le _, rfl, fun i hi => by omega, HT.out⟩
    case round =>
      obtain ⟨k, hk, rfl, he, hT⟩ := hrel
      have He := Lib.hid he
      have g1 := hT.c1
      have g2 := hT.c2
      have HT := Lib.hid hT
      clear he hT
      by_cases hlt : k < xs.length
      · obtain ⟨b1, o1, rfl, hb1, hi1⟩ := HX.out (by omega)
        obtain ⟨b2, o2, rfl, hb2, hi2⟩ := HY.out (by have := Hl.out; omega)
        have x1 := (hi1.below HT.out.below hb1) k hlt
        have x2 := (hi2.below HT.out.below hb2) k (by have := Hl.out; omega)
        have hk0 : (0 : Int) ≤ (k : Int) := by omega
        have hk1 : (k : Int) < (xs.length : Int) := by omega
        have hk2 : (k : Int) < (ys.length : Int) := by have := Hl.out; omega
        by_cases heq : nthI xs k = nthI ys k
        · have hne : (nthI xs k != nthI ys k) = false := by simpa using heq
          have Heq := Lib.hid heq
          clear heq hi1 hi2
          go_wp2
          go_region
          all_goals go_wp2
          all_goals go_roundw
          all_goals first | (simp [intOf]; omega) | skip
          all_goals refine ⟨k + 1, by omega, by go_num, fun i hi => ?_, HT.out.drew⟩
          all_goals by_cases h : i = k
          all_goals first | (rw [h]; exact Heq.out) | exact He.out i (by omega)
        · have hne : (nthI xs k != nthI ys k) = true := by simpa using heq
          have hf : ¬ xs = ys := fun b => heq (by rw [b])
          have Hf := Lib.hid hf
          clear heq hi1 hi2 hf
          go_wp2
          go_region
          all_goals go_wp2
          all_goals go_ret
          all_goals exact ⟨ret_bool (by simp [Hf.out]), HT.out.below.drew⟩
      · obtain rfl : k = xs.length := by omega
        go_wp2
        go_ret
        exact ⟨ret_bool (by rw [lists_eq xs ys Hl.out He.out]; simp), HT.out.below⟩
  · have hd : decide (h1 = h2 ∧ xs.length = ys.length) = false := by simpa using hs
    have hf : decide (h1 = h2 ∧ xs = ys) = false := by
      rw [decide_eq_false_iff_not]
      rintro ⟨a, b⟩
      exact hs ⟨a, by rw [b]⟩
    rw [hd] at HLike
    have Hf := Lib.hid hf
    clear hs hd hf hx hy
    go_enter Try.func40, Try.ntmps40
    go_wp2_with fail
    refine (HLike _).mono ?_
    rintro e w1 ⟨rfl, hb1⟩
    go_wp2
    go_ret
    exact ⟨ret_bool (by rw [Hf.out]), (((Below.refl _ _).alloc (Nat.le_refl _) _).alloc (by simp) _).trans (hb1.mono (by simp; omega))⟩
end Go.Proofs.Ytdmgffoikebgkaa
/- Designs in boxes. -/
namespace Go.Proofs.Ytdmgffoikebgkaa
open Go.RowKit Go.Shelf

def dObj (n b off c : Nat) (xs : List Nat) : Obj := .cells #[.int .i64 (n : Int), .slice (some ⟨b, off, none⟩) xs.length c] 37
def rObj : Obj := .cells #[.int .i64 0, .slice none 0 0] 37
theorem DBox.new (w : World) (n b off c : Nat) (xs : List Nat) : DBox (w.alloc (dObj n b off c xs)) w.heap.size n b off c xs := by
  unfold dObj; exact ⟨by simp, by simp⟩
end Go.Proofs.Ytdmgffoikebgkaa
/- Mirror, Flip, Back. -/
namespace Go.Proofs.Ytdmgffoikebgkaa
open Go.RowKit Go.Shelf

end Go.Proofs.Ytdmgffoikebgkaa
/- Make at a straight group; what TopTurnedOver needs besides: the contracts of Mirror, Back and Make with the length as a letter; cards all turned; bytes of a cloth. -/
namespace Go.Proofs.Ytdmgffoikebgkaa
open Go.RowKit Go.Shelf
attribute [local go_sem] Oper.semAt_some

end Go.Proofs.Ytdmgffoikebgkaa
namespace Go.Proofs.Ytdmgffoikebgkaa
open Go.RowKit Go.Shelf

/-- bytes of a cloth -/
theorem pickS_size (hs : List Nat) (row : Nat) : (pickS hs row).size = hs.length := by
  unfold pickS
  rw [strOfNums_size]
  simp [clothL]
theorem clothS_nth (hs xs : List Nat) (i : Nat) (h : i < xs.length) : nthB (clothS hs xs) i = pickS hs (nthN xs i) := by
  rw [nthB_get _ _ (by rw [clothS_len]; exact h)]; simp [clothS]
end Go.Proofs.Ytdmgffoikebgkaa
namespace Go.Proofs.Ytdmgffoikebgkaa
open Go.RowKit Go.Shelf

end Go.Proofs.Ytdmgffoikebgkaa
namespace Go.Proofs.Ytdmgffoikebgkaa
open Go.RowKit Go.Shelf

end Go.Proofs.Ytdmgffoikebgkaa
