/- (after text RA of the first seat) Regions whose order is left open: an invariant of what has been done, and of the slots that are written; single operations. -/
import Derived.Test.YtdmgffoikebgkaaHJ
import Derived.Test.YtdmgffoikebgkaaHG
import Derived.Test.YtdmgffoikebgkaaHE
import Derived.KernelRfl
import Derived.RegionTactic
import Derived.Outline
namespace Go.Proofs.Ytdmgffoikebgkaa
open Go.RowKit

/-- every operation waits for earlier ones alone -/
def Back (ops : Array Oper) : Prop := ∀ (i : Nat) (o : Oper), ops[i]? = some o → ∀ e ∈ o.after, Region.binds .any e = true → e.on < i
theorem ready_least {ops : Array Oper} {L : Array Bool} (hb : Back ops) (hr : Region.ready .any ops L = []) : ∀ i, i < ops.size → L.getD i true = true := by
  intro i
  induction i using Nat.strongRecOn with
  | ind i ih =>
    intro hi
    cases hL : L.getD i true with
    | true => rfl
    | false =>
      exfalso
      have ho : ops[i]? = some ops[i] := by simp [hi]
      have : i ∈ Region.ready .any ops L := mem_ready.2 ⟨hL, ops[i], ho, fun e he hbd => by
        have hlt := hb i _ ho e he hbd
        have h1 := ih e.on hlt (by omega)
        have hsz : e.on < L.size := by
          rcases Nat.lt_or_ge i L.size with h | h
          · omega
          · have : L.getD i true = true := by simp [Array.getD, Nat.not_lt.2 h]
            rw [this] at hL; simp at hL
        simp [Array.getD, hsz] at h1 ⊢
        exact h1⟩
      rw [hr] at this
      cases this
/-- how many operations are left -/
def undone (L : Array Bool) : Nat := L.toList.countP fun b => !b
theorem undone_set {L : Array Bool} {i : Nat} (h : L.getD i true = false) : undone (L.setIfInBounds i true) + 1 = undone L := by
  have hi : i < L.size := by
    rcases Nat.lt_or_ge i L.size with h2 | h2
    · exact h2
    · have : L.getD i true = true := by simp [Array.getD, Nat.not_lt.2 h2]
      rw [this] at h; simp at h
  have hv : L[i] = false := by simpa [Array.getD, hi] using h
  unfold undone
  rw [Array.toList_setIfInBounds, List.countP_set (by simpa using hi)]
  have hp : 0 < List.countP (fun b => !b) L.toList := by
    rw [List.countP_pos_iff]
    exact ⟨L[i], by simp, by simp [hv]⟩
  simp only [Array.getElem_toList, hv, Bool.not_false, if_true, Bool.not_true, Bool.false_eq_true, if_false]
  omega
theorem undone_none {L : Array Bool} (h : undone L = 0) (i : Nat) : L.getD i true = true := by
  unfold undone at h
  rw [List.countP_eq_zero] at h
  rcases Nat.lt_or_ge i L.size with h2 | h2
  · have := h L[i] (by simp)
    simp [Array.getD, h2]
    simpa using this
  · simp [Array.getD, Nat.not_lt.2 h2]
/-- what one operation has to do, whatever has been done -/
def StepOk (P : Program) (ops : Array Oper) (Q : Exit → Act → World → Prop) (I : Array Bool → Act → World → Prop) (i : Nat) (o : Oper) : Prop :=
  ∀ L a w, I L a w → L.getD i true = false → (∀ e ∈ o.after, Region.binds .any e = true → L.getD e.on false = true) →
    ∀ K : Act → World → Prop, (∀ a' w', I (L.setIfInBounds i true) a' w' → K a' w') → if Region.wanted o (yielded ops a.tmps) = true then Oper.wp P o a w K Q else K (a.put o.dst undef) w
theorem wpAny_inv {P : Program} {ops : Array Oper} {Q : Exit → Act → World → Prop} (I : Array Bool → Act → World → Prop)
    (hb : Back ops)
    (hstep : ∀ (i : Nat) (o : Oper), ops[i]? = some o → StepOk P ops Q I i o)
    (hend : ∀ L a w, I L a w → (∀ i, i < ops.size → L.getD i true = true) → Q .normal a w) :
    ∀ fuel L a w, undone L ≤ fuel → I L a w → wpAny P .any ops Q fuel L a w
  | 0, L, a, w, hf, hI => by
    have h0 := undone_none (show undone L = 0 by omega)
    refine ⟨?_, hend L a w hI fun i _ => h0 i⟩
    rw [List.eq_nil_iff_forall_not_mem]
    intro i hi
    have := (mem_ready.1 hi).1
    rw [h0 i] at this
    simp at this
  | fuel + 1, L, a, w, hf, hI => by
    refine ⟨fun hr => hend L a w hI (ready_least hb hr), fun i hi => ?_⟩
    obtain ⟨hn, o, ho, hd⟩ := mem_ready.1 hi
    refine wpOp_step ho fun K hK => ?_
    refine hstep i o ho L a w hI hn hd K fun a' w' hI' => hK a' w' ?_
    exact wpAny_inv I hb hstep hend fuel _ a' w' (by have := undone_set hn; omega) hI'
theorem wp_region_inv {P : Program} {id : Nat} {ops : Array Oper} {Q : Exit → Act → World → Prop} {a : Act} {w : World} (hm : P.follows .mixedOrders = true) (I : Array Bool → Act → World → Prop)
    (hb : Back ops)
    (h0 : I (Array.replicate ops.size false) a w.drew)
    (hstep : ∀ (i : Nat) (o : Oper), ops[i]? = some o → StepOk P ops Q I i o)
    (hend : ∀ L a w, I L a w → (∀ i, i < ops.size → L.getD i true = true) → Q .normal a w) : (Code.region id ops true).wp P Q a w := by
  refine wp_region_any hm ?_
  change wpAny _ _ _ _ _ _ _ (World.drew _)
  exact wpAny_inv I hb hstep hend _ _ _ _ (by unfold undone; simp [List.countP_replicate]) h0
end Go.Proofs.Ytdmgffoikebgkaa
namespace Go.Proofs.Ytdmgffoikebgkaa
open Go.RowKit

/-- a frame with new values in some slots -/
def laid (a : Act) (ds : List Nat) (v : Nat → Value) : Act := ds.foldl (fun a d => a.put (some d) (v d)) a
theorem laid_cons (a : Act) (d : Nat) (ds : List Nat) (v : Nat → Value) : laid a (d :: ds) v = laid (a.put (some d) (v d)) ds v := rfl
theorem put_size (a : Act) (d : Option Tmp) (x : Value) : (a.put d x).tmps.size = a.tmps.size := by cases d <;> simp [Act.put]
theorem put_eval_same (a : Act) (d : Nat) (x : Value) (h : d < a.tmps.size) : (a.put (some d) x).eval (.tmp d) = x := by
  simp [Act.put, Act.eval, h]
theorem put_eval_ne (a : Act) (d s : Nat) (x : Value) (h : s ≠ d) : (a.put (some d) x).eval (.tmp s) = a.eval (.tmp s) := by
  simp only [Act.put, Act.eval, Array.getD_eq_getD_getElem?]
  rw [Array.getElem?_setIfInBounds_ne (Ne.symm h)]
theorem put_twice (a : Act) (d : Nat) (x y : Value) : (a.put (some d) x).put (some d) y = a.put (some d) y := by
  simp [Act.put]
theorem put_comm' (a : Act) (d s : Nat) (x y : Value) (h : d ≠ s) : (a.put (some d) x).put (some s) y = (a.put (some s) y).put (some d) x := by
  simp only [Act.put]
  rw [Array.setIfInBounds_comm _ _ h]
theorem laid_out (ds : List Nat) (v : Nat → Value) (s : Nat) (h : s ∉ ds) : ∀ a : Act, (laid a ds v).eval (.tmp s) = a.eval (.tmp s) := by
  induction ds with
  | nil => intro a; rfl
  | cons d ds ih =>
    intro a
    simp at h
    rw [laid_cons, ih h.2, put_eval_ne _ _ _ _ h.1]
theorem laid_in (ds : List Nat) (v : Nat → Value) (s : Nat) (h : s ∈ ds) : ∀ a : Act, (∀ d ∈ ds, d < a.tmps.size) → (laid a ds v).eval (.tmp s) = v s := by
  induction ds with
  | nil => simp at h
  | cons d ds ih =>
    intro a hsz
    rw [laid_cons]
    by_cases hs : s ∈ ds
    · exact ih hs _ (fun e he => by rw [put_size]; exact hsz e (List.mem_cons_of_mem _ he))
    · obtain rfl : s = d := by simpa [hs] using h
      rw [laid_out _ _ _ hs, put_eval_same _ _ _ (hsz s (List.mem_cons_self ..))]
/-- new values, one of them changed -/
def updO (v : Nat → Value) (d : Option Tmp) (x : Value) : Nat → Value := match d with
  | some d => fun s => if s = d then x else v s
  | none => v
theorem laid_congr (ds : List Nat) (v u : Nat → Value) (h : ∀ d ∈ ds, v d = u d) : ∀ a : Act, laid a ds v = laid a ds u := by
  induction ds with
  | nil => intro a; rfl
  | cons d ds ih =>
    intro a
    rw [laid_cons, laid_cons, h d (List.mem_cons_self ..)]
    exact ih (fun e he => h e (List.mem_cons_of_mem _ he)) _
theorem laid_put_front (ds : List Nat) (v : Nat → Value) (s : Nat) (x : Value) (h : s ∉ ds) : ∀ a : Act, (laid a ds v).put (some s) x = laid (a.put (some s) x) ds v := by
  induction ds with
  | nil => intro a; rfl
  | cons d ds ih =>
    intro a
    simp at h
    rw [laid_cons, laid_cons, ih h.2, put_comm' _ _ _ _ _ (Ne.symm h.1)]
theorem laid_put (ds : List Nat) (v : Nat → Value) (s : Nat) (x : Value) (hnd : ds.Nodup) (h : s ∈ ds) : ∀ a : Act, (laid a ds v).put (some s) x = laid a ds (updO v (some s) x) := by
  induction ds with
  | nil => simp at h
  | cons d ds ih =>
    intro a
    rw [List.nodup_cons] at hnd
    rw [laid_cons, laid_cons]
    by_cases hs : s ∈ ds
    · have hne : d ≠ s := fun e => hnd.1 (e ▸ hs)
      rw [ih hnd.2 hs]
      have : updO v (some s) x d = v d := by simp [updO, hne]
      rw [this]
    · obtain rfl : s = d := by simpa [hs] using h
      rw [laid_put_front _ _ _ _ hs, put_twice]
      have e1 : updO v (some s) x s = x := by simp [updO]
      rw [e1]
      refine laid_congr _ _ _ (fun e he => ?_) _
      have : e ≠ s := fun h => hs (h ▸ he)
      simp [updO, this]
theorem laid_self (ds : List Nat) : ∀ a : Act, laid a ds (fun d => a.eval (.tmp d)) = a := by
  intro a
  have key : ∀ ds : List Nat, laid a ds (fun d => a.eval (.tmp d)) = a := by
    intro ds
    induction ds with
    | nil => rfl
    | cons d ds ih =>
      rw [laid_cons]
      have : a.put (some d) (a.eval (.tmp d)) = a := by
        simp only [Act.put, Act.eval]
        congr 1
        apply Array.ext_getElem?
        intro i
        by_cases hi : i = d
        · subst hi
          rw [Array.getElem?_setIfInBounds]
          by_cases hlt : i < a.tmps.size <;> simp [hlt, Array.getD]
        · rw [Array.getElem?_setIfInBounds_ne (Ne.symm hi)]
      rw [this]; exact ih
  exact key ds

/-- what one operation has to do, whatever has been done, in whatever frame that has the slots' values -/
def StepAt (P : Program) (ops : Array Oper) (Q : Exit → Act → World → Prop) (ds : List Nat) (outs : List (Nat × Value)) (J : Array Bool → (Nat → Value) → World → Prop) (i : Nat) (o : Oper) : Prop :=
  ∀ L v W (a : Act), J L v W → (∀ d ∈ ds, a.tmps[d]?.getD undef = v d) → (∀ q ∈ outs, a.tmps[q.1]?.getD undef = q.2) → L.getD i true = false → (∀ e ∈ o.after, Region.binds .any e = true → L.getD e.on false = true) →
    ∀ K : Act → World → Prop, (∀ x W', J (L.setIfInBounds i true) (updO v o.dst x) W' → K (a.put o.dst x) W') → if Region.wanted o (yielded ops a.tmps) = true then Oper.wp P o a W K Q else K (a.put o.dst undef) W
theorem eval_tmp (a : Act) (d : Nat) : a.eval (.tmp d) = a.tmps[d]?.getD undef := by simp only [Act.eval, Array.getD_eq_getD_getElem?]
theorem wp_region_laid {P : Program} {id : Nat} {ops : Array Oper} {Q : Exit → Act → World → Prop} {a : Act} {w : World} (ds : List Nat) (outs : List (Nat × Value)) (J : Array Bool → (Nat → Value) → World → Prop)
    (hm : P.follows .mixedOrders = true) (hb : Back ops) (hnd : ds.Nodup) (hsz : ∀ d ∈ ds, d < a.tmps.size) (hout : ∀ q ∈ outs, a.eval (.tmp q.1) = q.2 ∧ q.1 ∉ ds)
    (hdst : ∀ (i : Nat) (o : Oper), ops[i]? = some o → ∀ d, o.dst = some d → d ∈ ds)
    (h0 : J (Array.replicate ops.size false) (fun d => a.eval (.tmp d)) w.drew)
    (hstep : ∀ (i : Nat) (o : Oper), ops[i]? = some o → StepAt P ops Q ds outs J i o)
    (hend : ∀ L v W, J L v W → (∀ i, i < ops.size → L.getD i true = true) → Q .normal (laid a ds v) W) : (Code.region id ops true).wp P Q a w := by
  refine wp_region_inv hm (fun L a' W => ∃ v, a' = laid a ds v ∧ J L v W) hb ⟨_, (laid_self ds a).symm, h0⟩ ?_ ?_
  · rintro i o ho L a' W ⟨v, rfl, hJ⟩ hL hd K hK
    refine hstep i o ho L v W _ hJ (fun d hd => by rw [← eval_tmp]; exact laid_in ds v d hd a hsz) (fun q hq => by rw [← eval_tmp, laid_out _ _ _ (hout q hq).2]; exact (hout q hq).1) hL hd K fun x W' hJ' => hK _ _ ⟨updO v o.dst x, ?_, hJ'⟩
    cases hdst' : o.dst with
    | none => rfl
    | some d => exact laid_put ds v d x hnd (hdst i o ho d hdst') a
  · rintro L a' W ⟨v, rfl, hJ⟩ hall
    exact hend L v W hJ hall
end Go.Proofs.Ytdmgffoikebgkaa
namespace Go.Proofs.Ytdmgffoikebgkaa
open Go.RowKit

structure Lane (lv : Value) (n : Nat) (xs : List Nat) (t : TypeId) (d0 d1 d2 d3 : Bool) (uL uC uP : Value) (q D : Option Nat) (W : World) : Prop where
  ld : d0 = true → uL = lv
  cl : d1 = true → ∃ g c, uC = .agg #[.int .i64 (n : Int), .slice (some ⟨g, 0, none⟩) xs.length c] ∧ NatsAt W g 0 xs ∧ g < W.heap.size ∧ q = some g
  al : d2 = true → ∃ b, D = some b ∧ uP = .pointer (some ⟨b, 0, none⟩) ∧ ∃ v0 v1, W.heap[b]? = some (.cells #[v0, v1] t (0, 0))
  st : d3 = true → ∃ b g c, D = some b ∧ uP = .pointer (some ⟨b, 0, none⟩) ∧ W.heap[b]? = some (.cells #[.int .i64 (n : Int), .slice (some ⟨g, 0, none⟩) xs.length c] t (0, 0)) ∧ NatsAt W g 0 xs ∧ g < W.heap.size ∧ q = some g
  n1 : d1 = false → q = none
  n2 : d2 = false → D = none
  dd : d3 = true → d1 = true ∧ d2 = true
/-- the blocks that were made lie apart -/
structure Sep (lo : Nat) (q D : Nat → Option Nat) (W : World) : Prop where
  ql : ∀ i b, q i = some b → lo ≤ b ∧ b < W.heap.size
  Dl : ∀ i b, D i = some b → lo ≤ b ∧ b < W.heap.size
  DD : ∀ i j b, D i = some b → D j = some b → i = j
  Dq : ∀ i j b, D i = some b → q j = some b → False
theorem nats_setB {W : World} {g : Nat} {xs : List Nat} (h : NatsAt W g 0 xs) (b k : Nat) (u : Value) (hne : g ≠ b) : NatsAt (W.setCell ⟨b, k, none⟩ u) g 0 xs := fun i hi =>
  (World.cell?_of_block (w := W) (Below.heap_setCell W ⟨b, k, none⟩ u g hne)).trans (h i hi)
theorem heap_setCell_ne {W : World} {b b' k : Nat} {u : Value} (h : b' ≠ b) : (W.setCell ⟨b, k, none⟩ u).heap[b']? = W.heap[b']? := Below.heap_setCell _ _ _ _ (fun e => h e)
theorem setCell_size (W : World) (a : Addr) (u : Value) : (W.setCell a u).heap.size = W.heap.size := by simp [World.setCell]
theorem Lane.below {lv : Value} {n : Nat} {xs : List Nat} {t : TypeId} {d0 d1 d2 d3 : Bool} {uL uC uP : Value} {q D : Option Nat} {W W' : World} (h : Lane lv n xs t d0 d1 d2 d3 uL uC uP q D W) (hb : Below W.heap.size W W') : Lane lv n xs t d0 d1 d2 d3 uL uC uP q D W' := by
  have hblk : ∀ b o, W.heap[b]? = some o → W'.heap[b]? = some o := fun b o ho => (hb.block b (Array.getElem?_eq_some_iff.1 ho).1).trans ho
  have hsz := hb.size
  refine ⟨h.ld, fun e => ?_, fun e => ?_, fun e => ?_, h.n1, h.n2, h.dd⟩
  · obtain ⟨g, c, a, r, l, s⟩ := h.cl e
    exact ⟨g, c, a, r.below hb l, by omega, s⟩
  · obtain ⟨b, a, c, v0, v1, d⟩ := h.al e
    exact ⟨b, a, c, v0, v1, hblk _ _ d⟩
  · obtain ⟨b, g, c, a, d, f, r, l, s⟩ := h.st e
    exact ⟨b, g, c, a, d, hblk _ _ f, r.below hb l, by omega, s⟩
theorem Lane.other {lv : Value} {n : Nat} {xs : List Nat} {t : TypeId} {d0 d1 d2 d3 : Bool} {uL uC uP : Value} {q D : Option Nat} {W : World} (h : Lane lv n xs t d0 d1 d2 d3 uL uC uP q D W) (b k : Nat) (u : Value) (hq : q ≠ some b) (hD : D ≠ some b) : Lane lv n xs t d0 d1 d2 d3 uL uC uP q D (W.setCell ⟨b, k, none⟩ u) := by
  refine ⟨h.ld, fun e => ?_, fun e => ?_, fun e => ?_, h.n1, h.n2, h.dd⟩
  · obtain ⟨g, c, a, r, l, s⟩ := h.cl e
    exact ⟨g, c, a, nats_setB r _ _ _ (fun e => hq (by rw [s, e])), by rw [setCell_size]; exact l, s⟩
  · obtain ⟨b', a, c, v0, v1, d⟩ := h.al e
    exact ⟨b', a, c, v0, v1, (heap_setCell_ne (fun e => hD (by rw [a, e]))).trans d⟩
  · obtain ⟨b', g, c, a, d, f, r, l, s⟩ := h.st e
    exact ⟨b', g, c, a, d, (heap_setCell_ne (fun e => hD (by rw [a, e]))).trans f, nats_setB r _ _ _ (fun e => hq (by rw [s, e])), by rw [setCell_size]; exact l, s⟩
theorem set_getD (L : Array Bool) (i m : Nat) : (L.setIfInBounds i true).getD m true = (decide (m = i) || L.getD m true) := by
  simp only [Array.getD_eq_getD_getElem?]
  by_cases e : m = i
  · subst e
    rw [Array.getElem?_setIfInBounds]
    by_cases h : m < L.size <;> simp [h]
  · rw [Array.getElem?_setIfInBounds_ne (Ne.symm e)]; simp [e]
/-- the slots of the lanes -/
structure Slots (k : Nat) (ld cs ps : Nat → Nat) : Prop where
  lc : ∀ i j, i < k → j < k → ld i ≠ cs j
  lp : ∀ i j, i < k → j < k → ld i ≠ ps j
  cp : ∀ i j, i < k → j < k → cs i ≠ ps j
  ll : ∀ i j, i < k → j < k → ld i = ld j → i = j
  cc : ∀ i j, i < k → j < k → cs i = cs j → i = j
  pp : ∀ i j, i < k → j < k → ps i = ps j → i = j
def JL (k : Nat) (x : Nat → Value) (E : Nat → Nat) (xs : Nat → List Nat) (T : Nat → TypeId) (ld cs ps : Nat → Nat) (Wb : World) (L : Array Bool) (v : Nat → Value) (W : World) : Prop :=
  ∃ q D : Nat → Option Nat, Below Wb.heap.size Wb W ∧ Sep Wb.heap.size q D W ∧ ∀ j, j < k → Lane (x j) (E j) (xs j) (T j) (L.getD (2 * j) true) (L.getD (2 * j + 1) true) (L.getD (2 * k + j) true) (L.getD (3 * k + j) true) (v (ld j)) (v (cs j)) (v (ps j)) (q j) (D j) W
section
variable {k : Nat} {x : Nat → Value} {E : Nat → Nat} {xs : Nat → List Nat} {T : Nat → TypeId} {ld cs ps : Nat → Nat} {Wb : World} {L : Array Bool} {v : Nat → Value} {W W' : World}
theorem JL.start (Wb : World) (hL : ∀ i, i < 4 * k → L.getD i true = false) : JL k x E xs T ld cs ps Wb L v Wb := by
  refine ⟨fun _ => none, fun _ => none, Below.refl _ _, ⟨by simp, by simp, by simp, by simp⟩, fun j hj => ?_⟩
  rw [hL _ (by omega), hL _ (by omega), hL _ (by omega), hL _ (by omega)]
  exact ⟨by simp, by simp, by simp, by simp, by simp, by simp, by simp⟩
theorem upd_some (v : Nat → Value) (d s : Nat) (u : Value) : updO v (some d) u s = if s = d then u else v s := rfl
theorem JL.load (h : JL k x E xs T ld cs ps Wb L v W) (S : Slots k ld cs ps) {j : Nat} (hj : j < k) : JL k x E xs T ld cs ps Wb (L.setIfInBounds (2 * j) true) (updO v (some (ld j)) (x j)) W := by
  obtain ⟨q, D, hb, hs, hl⟩ := h
  refine ⟨q, D, hb, hs, fun i hi => ?_⟩
  have g := hl i hi
  simp only [set_getD, upd_some]
  rw [if_neg (Ne.symm (S.lc j i hj hi)), if_neg (Ne.symm (S.lp j i hj hi))]
  have e1 : decide (2 * i + 1 = 2 * j) = false := by simp; omega
  have e2 : decide (2 * k + i = 2 * j) = false := by simp; omega
  have e3 : decide (3 * k + i = 2 * j) = false := by simp; omega
  rw [e1, e2, e3, Bool.false_or, Bool.false_or, Bool.false_or]
  by_cases e : i = j
  · subst e
    rw [if_pos rfl]
    exact ⟨fun _ => rfl, g.cl, g.al, g.st, g.n1, g.n2, g.dd⟩
  · rw [if_neg (fun h => e (S.ll i j hi hj h))]
    have e0 : decide (2 * i = 2 * j) = false := by simp; omega
    rw [e0, Bool.false_or]
    exact g
theorem JL.call (h : JL k x E xs T ld cs ps Wb L v W) (S : Slots k ld cs ps) {j : Nat} (hj : j < k) (hn : L.getD (2 * j + 1) true = false) {g0 c0 : Nat} (hr : NatsAt W' g0 0 (xs j)) (hg0 : W.heap.size ≤ g0) (hg1 : g0 < W'.heap.size) (hB : Below W.heap.size W W') :
    JL k x E xs T ld cs ps Wb (L.setIfInBounds (2 * j + 1) true) (updO v (some (cs j)) (.agg #[.int .i64 (E j : Int), .slice (some ⟨g0, 0, none⟩) (xs j).length c0])) W' := by
  obtain ⟨q, D, hb, hs, hl⟩ := h
  have hsz := hB.size
  refine ⟨fun i => if i = j then some g0 else q i, D, hb.trans (hB.mono hb.size), ⟨fun i b => ?_, fun i b hi => ?_, hs.DD, fun i i' b h1 h2 => ?_⟩, fun i hi => ?_⟩
  · intro hi
    by_cases e : i = j
    · rw [if_pos e] at hi
      obtain rfl := Option.some.inj hi
      have := hb.size
      omega
    · rw [if_neg e] at hi
      have := hs.ql i b hi
      omega
  · have := hs.Dl i b hi
    omega
  · by_cases e : i' = j
    · rw [if_pos e] at h2
      obtain rfl := Option.some.inj h2
      have := hs.Dl i _ h1
      omega
    · rw [if_neg e] at h2
      exact hs.Dq i i' b h1 h2
  · have g := (hl i hi).below hB
    simp only [set_getD, upd_some]
    rw [if_neg (S.lc i j hi hj), if_neg (Ne.symm (S.cp j i hj hi))]
    have e1 : decide (2 * i = 2 * j + 1) = false := by simp; omega
    have e2 : decide (2 * k + i = 2 * j + 1) = false := by simp; omega
    have e3 : decide (3 * k + i = 2 * j + 1) = false := by simp; omega
    rw [e1, e2, e3, Bool.false_or, Bool.false_or, Bool.false_or]
    by_cases e : i = j
    · subst e
      rw [if_pos rfl, if_pos rfl]
      exact ⟨g.ld, fun _ => ⟨g0, c0, rfl, hr, hg1, rfl⟩, g.al, fun e => (by have := (g.dd e).1; rw [hn] at this; simp at this), by simp, g.n2, fun e => ⟨by simp, (g.dd e).2⟩⟩
    · rw [if_neg (fun h => e (S.cc i j hi hj h)), if_neg e]
      have e0 : decide (2 * i + 1 = 2 * j + 1) = false := by simp; omega
      rw [e0, Bool.false_or]
      exact g
theorem JL.alloc (h : JL k x E xs T ld cs ps Wb L v W) (S : Slots k ld cs ps) {j : Nat} (hj : j < k) (hn : L.getD (2 * k + j) true = false) (v0 v1 : Value) :
    JL k x E xs T ld cs ps Wb (L.setIfInBounds (2 * k + j) true) (updO v (some (ps j)) (.pointer (some ⟨W.heap.size, 0, none⟩))) (W.alloc (.cells #[v0, v1] (T j))) := by
  obtain ⟨q, D, hb, hs, hl⟩ := h
  have hB := (Below.refl W.heap.size W).alloc (Nat.le_refl _) (.cells #[v0, v1] (T j))
  have hsz : (W.alloc (.cells #[v0, v1] (T j))).heap.size = W.heap.size + 1 := by simp
  have hbs := hb.size
  refine ⟨q, fun i => if i = j then some W.heap.size else D i, hb.trans (hB.mono hb.size), ⟨fun i b hi => ?_, fun i b hi => ?_, fun i i' b h1 h2 => ?_, fun i i' b h1 h2 => ?_⟩, fun i hi => ?_⟩
  · have := hs.ql i b hi
    omega
  · by_cases e : i = j
    · rw [if_pos e] at hi
      simp at hi; omega
    · rw [if_neg e] at hi
      have := hs.Dl i b hi
      omega
  · by_cases e : i = j
    · by_cases e' : i' = j
      · omega
      · rw [if_pos e] at h1
        rw [if_neg e'] at h2
        simp at h1
        have := hs.Dl i' b h2
        omega
    · by_cases e' : i' = j
      · rw [if_neg e] at h1
        rw [if_pos e'] at h2
        simp at h2
        have := hs.Dl i b h1
        omega
      · rw [if_neg e] at h1
        rw [if_neg e'] at h2
        exact hs.DD i i' b h1 h2
  · by_cases e : i = j
    · rw [if_pos e] at h1
      simp at h1
      have := hs.ql i' b h2
      omega
    · rw [if_neg e] at h1
      exact hs.Dq i i' b h1 h2
  · have g := (hl i hi).below hB
    simp only [set_getD, upd_some]
    rw [if_neg (S.lp i j hi hj), if_neg (S.cp i j hi hj)]
    have e1 : decide (2 * i = 2 * k + j) = false := by simp; omega
    have e2 : decide (2 * i + 1 = 2 * k + j) = false := by simp; omega
    have e3 : decide (3 * k + i = 2 * k + j) = false := by simp; omega
    rw [e1, e2, e3, Bool.false_or, Bool.false_or, Bool.false_or]
    by_cases e : i = j
    · subst e
      rw [if_pos rfl, if_pos rfl]
      exact ⟨g.ld, g.cl, fun _ => ⟨W.heap.size, rfl, rfl, v0, v1, World.alloc_heap_new W _⟩, fun e => (by have := (g.dd e).2; rw [hn] at this; simp at this), g.n1, by simp, fun e => ⟨(g.dd e).1, by simp⟩⟩
    · rw [if_neg (fun h => e (S.pp i j hi hj h)), if_neg e]
      have e0 : decide (2 * k + i = 2 * k + j) = false := by simp; omega
      rw [e0, Bool.false_or]
      exact g
/-- what a store finds -/
theorem JL.ready (h : JL k x E xs T ld cs ps Wb L v W) {j : Nat} (hj : j < k) (h1 : L.getD (2 * j + 1) true = true) (h2 : L.getD (2 * k + j) true = true) :
    ∃ b g c2, v (ps j) = .pointer (some ⟨b, 0, none⟩) ∧ v (cs j) = .agg #[.int .i64 (E j : Int), .slice (some ⟨g, 0, none⟩) (xs j).length c2] ∧ (∃ v0 v1, W.heap[b]? = some (.cells #[v0, v1] (T j) (0, 0))) ∧
      (L.getD (3 * k + j) true = false → JL k x E xs T ld cs ps Wb (L.setIfInBounds (3 * k + j) true) v ((W.setCell ⟨b, 0, none⟩ (.int .i64 (E j : Int))).setCell ⟨b, 1, none⟩ (.slice (some ⟨g, 0, none⟩) (xs j).length c2))) := by
  obtain ⟨q, D, hb, hs, hl⟩ := h
  have g := hl j hj
  obtain ⟨g0, c2, hc1, hc2, hcl, hc3⟩ := g.cl h1
  obtain ⟨b, ha1, ha2, v0, v1, ha3⟩ := g.al h2
  have hbl := hs.Dl j b ha1
  refine ⟨b, g0, c2, ha2, hc1, ⟨v0, v1, ha3⟩, fun hn => ⟨q, D, (hb.setCell hbl.1 _).setCell hbl.1 _, ⟨fun i b' hi => ?_, fun i b' hi => ?_, hs.DD, hs.Dq⟩, fun i hi => ?_⟩⟩
  · rw [setCell_size, setCell_size]; exact hs.ql i b' hi
  · rw [setCell_size, setCell_size]; exact hs.Dl i b' hi
  · simp only [set_getD]
    have e1 : decide (2 * i = 3 * k + j) = false := by simp; omega
    have e2 : decide (2 * i + 1 = 3 * k + j) = false := by simp; omega
    have e3 : decide (2 * k + i = 3 * k + j) = false := by simp; omega
    rw [e1, e2, e3, Bool.false_or, Bool.false_or, Bool.false_or]
    have hqi : q i ≠ some b := fun h => hs.Dq j i b ha1 h
    by_cases e : i = j
    · subst e
      have hqp : g0 ≠ b := fun h => hqi (by rw [hc3, h])
      have hh : ((W.setCell ⟨b, 0, none⟩ (.int .i64 (E i : Int))).setCell ⟨b, 1, none⟩ (.slice (some ⟨g0, 0, none⟩) (xs i).length c2)).heap[b]? = some (.cells #[.int .i64 (E i : Int), .slice (some ⟨g0, 0, none⟩) (xs i).length c2] (T i) (0, 0)) := by
        simp [World.setCell, Array.getElem?_modify, ha3]
      have hr := nats_setB (nats_setB hc2 b 0 (.int .i64 (E i : Int)) hqp) b 1 (.slice (some ⟨g0, 0, none⟩) (xs i).length c2) hqp
      have hsz : g0 < ((W.setCell ⟨b, 0, none⟩ (.int .i64 (E i : Int))).setCell ⟨b, 1, none⟩ (.slice (some ⟨g0, 0, none⟩) (xs i).length c2)).heap.size := by rw [setCell_size, setCell_size]; exact hcl
      exact ⟨g.ld, fun _ => ⟨g0, c2, hc1, hr, hsz, hc3⟩, fun _ => ⟨b, ha1, ha2, _, _, hh⟩, fun _ => ⟨b, g0, c2, ha1, ha2, hh, hr, hsz, hc3⟩, g.n1, g.n2, fun _ => ⟨h1, h2⟩⟩
    · have hDi : D i ≠ some b := fun h => e (hs.DD i j b h ha1)
      have e0 : decide (3 * k + i = 3 * k + j) = false := by simp; omega
      rw [e0, Bool.false_or]
      exact ((hl i hi).other b 0 _ hqi hDi).other b 1 _ hqi hDi
/-- when all is done -/
theorem JL.done (h : JL k x E xs T ld cs ps Wb L v W) (hL : ∀ i, i < 4 * k → L.getD i true = true) : Below Wb.heap.size Wb W ∧ ∀ j, j < k → ∃ b g c2, v (ps j) = .pointer (some ⟨b, 0, none⟩) ∧ Wb.heap.size ≤ b ∧ BoxAt W b #[.int .i64 (E j : Int), .slice (some ⟨g, 0, none⟩) (xs j).length c2] (T j) ∧ NatsAt W g 0 (xs j) ∧ g < W.heap.size := by
  obtain ⟨q, D, hb, hs, hl⟩ := h
  refine ⟨hb, fun j hj => ?_⟩
  obtain ⟨b, g, c2, h1, h2, h3, h4, h5, _⟩ := (hl j hj).st (hL _ (by omega))
  exact ⟨b, g, c2, h2, (hs.Dl j b h1).1, h3, h4, h5⟩
theorem JL.lt (h : JL k x E xs T ld cs ps Wb L v W) : Below Wb.heap.size Wb W := by obtain ⟨q, D, hb, _⟩ := h; exact hb
theorem JL.loaded (h : JL k x E xs T ld cs ps Wb L v W) {j : Nat} (hj : j < k) (h0 : L.getD (2 * j) true = true) : v (ld j) = x j := by
  obtain ⟨q, D, hb, hs, hl⟩ := h
  exact (hl j hj).ld h0
end
end Go.Proofs.Ytdmgffoikebgkaa
namespace Go.Proofs.Ytdmgffoikebgkaa
open Go.RowKit

def backB (ops : Array Oper) : Bool := (List.range ops.size).all fun i => match ops[i]? with
  | some o => o.after.all fun e => !(Region.binds .any e) || decide (e.on < i)
  | none => true
theorem back_of {ops : Array Oper} (h : backB ops = true) : Back ops := by
  intro i o ho e he hbd
  have hi : i < ops.size := (Array.getElem?_eq_some_iff.1 ho).1
  unfold backB at h
  rw [List.all_eq_true] at h
  have := h i (by simpa using hi)
  rw [ho] at this
  simp only [Array.all_eq_true_iff_forall_mem] at this
  have h2 := this e he
  rw [hbd] at h2
  simpa using h2
def dstB (ops : Array Oper) (ds : List Nat) : Bool := ops.all fun o => match o.dst with
  | some d => ds.contains d
  | none => true
theorem dst_of {ops : Array Oper} {ds : List Nat} (h : dstB ops ds = true) : ∀ (i : Nat) (o : Oper), ops[i]? = some o → ∀ d, o.dst = some d → d ∈ ds := by
  intro i o ho d hd
  unfold dstB at h
  rw [Array.all_eq_true_iff_forall_mem] at h
  have := h o (Array.mem_of_getElem? ho)
  rw [hd] at this
  simpa using this
/-- an operation waits for another one -/
def depB (o : Oper) (i : Nat) : Bool := o.after.any fun e => Region.binds .any e && e.on == i
theorem dep_of {o : Oper} {L : Array Bool} (hdep : ∀ e ∈ o.after, Region.binds .any e = true → L.getD e.on false = true) (i : Nat) (h : depB o i = true) : L.getD i true = true := by
  unfold depB at h
  rw [Array.any_eq_true'] at h
  obtain ⟨e, he, h2⟩ := h
  rw [Bool.and_eq_true, beq_iff_eq] at h2
  have := hdep e he h2.1
  rw [h2.2] at this
  simp only [Array.getD_eq_getD_getElem?] at this ⊢
  by_cases hi : i < L.size
  · simp [hi] at this ⊢; exact this
  · simp [hi]
theorem wanted_free {d : Option Tmp} {op : Op} {ty : TypeId} {pos : String} {aft : Array Edge} (y : Nat → Option Bool) : Region.wanted ⟨d, op, ty, pos, aft, none⟩ y = true := rfl
/-- one lane's four operations -/
structure LaneOps (ops : Array Oper) (k : Nat) (ld cs ps : Nat → Nat) (T : Nat → TypeId) (Lop Cop : Nat → Op) (j : Nat) : Prop where
  l : ∃ ty pos aft, ops[2 * j]? = some ⟨some (ld j), Lop j, ty, pos, aft, none⟩
  c : ∃ ty pos aft, ops[2 * j + 1]? = some ⟨some (cs j), Cop j, ty, pos, aft, none⟩ ∧ depB ⟨some (cs j), Cop j, ty, pos, aft, none⟩ (2 * j) = true
  a : ∃ ty pos aft, ops[2 * k + j]? = some ⟨some (ps j), .alloc (T j), ty, pos, aft, none⟩
  s : ∃ ty pos aft, ops[3 * k + j]? = some ⟨none, .store (T j) (.tmp (ps j)) (.tmp (cs j)), ty, pos, aft, none⟩ ∧ depB ⟨none, .store (T j) (.tmp (ps j)) (.tmp (cs j)), ty, pos, aft, none⟩ (2 * j + 1) = true ∧ depB ⟨none, .store (T j) (.tmp (ps j)) (.tmp (cs j)), ty, pos, aft, none⟩ (2 * k + j) = true
/-- a box of a number and a row can be made and filled -/
def AllocOk (t : TypeId) : Prop := ∀ (Q : Exit → Act → World → Prop) (K : Act → World → Prop) (a : Act) (W : World) (d : Nat) (ty : TypeId) (pos : String) (aft : Array Edge),
    K (a.put (some d) (.pointer (some ⟨W.heap.size, 0, none⟩))) (W.alloc (.cells #[.int .i64 0, .slice none 0 0] t)) → Oper.wp Try.prog ⟨some d, .alloc t, ty, pos, aft, none⟩ a W K Q
def StoreOk (t : TypeId) : Prop := ∀ (Q : Exit → Act → World → Prop) (K : Act → World → Prop) (a : Act) (W : World) (s u : Nat) (ty : TypeId) (pos : String) (aft : Array Edge) (B l c : Nat) (h : Int) (p : Option Addr) (v0 v1 : Value),
    a.tmps[s]?.getD undef = .pointer (some ⟨B, 0, none⟩) → a.tmps[u]?.getD undef = .agg #[.int .i64 h, .slice p l c] → W.heap[B]? = some (.cells #[v0, v1] t (0, 0)) →
    (K a ((W.setCell ⟨B, 0, none⟩ (.int .i64 h)).setCell ⟨B, 1, none⟩ (.slice p l c))) → Oper.wp Try.prog ⟨none, .store t (.tmp s) (.tmp u), ty, pos, aft, none⟩ a W K Q
set_option maxRecDepth 4000 in
theorem region_lanes {id : Nat} {ops : Array Oper} {Q : Exit → Act → World → Prop} {a : Act} {w : World} (k : Nat) (x : Nat → Value) (E : Nat → Nat) (xs : Nat → List Nat) (T : Nat → TypeId) (ld cs ps : Nat → Nat) (Lop Cop : Nat → Op) (ds : List Nat) (outs : List (Nat × Value))
    (hsize : ops.size = 4 * k) (hops : ∀ j, j < k → LaneOps ops k ld cs ps T Lop Cop j) (S : Slots k ld cs ps) (hin : ∀ j, j < k → ld j ∈ ds ∧ cs j ∈ ds ∧ ps j ∈ ds)
    (hb : backB ops = true) (hnd : ds.Nodup) (hsz : ∀ d ∈ ds, d < a.tmps.size) (hout : ∀ q ∈ outs, a.eval (.tmp q.1) = q.2 ∧ q.1 ∉ ds) (hdst : dstB ops ds = true)
    (hload : ∀ j, j < k → ∀ (a' : Act) (W : World) (K : Act → World → Prop) ty pos aft, (∀ q ∈ outs, a'.tmps[q.1]?.getD undef = q.2) → Below w.heap.size w W → K (a'.put (some (ld j)) (x j)) W → Oper.wp Try.prog ⟨some (ld j), Lop j, ty, pos, aft, none⟩ a' W K Q)
    (hcall : ∀ j, j < k → ∀ (a' : Act) (W : World) (K : Act → World → Prop) ty pos aft, a'.tmps[ld j]?.getD undef = x j → Below w.heap.size w W →
      (∀ g c W', NatsAt W' g 0 (xs j) → W.heap.size ≤ g → g < W'.heap.size → Below W.heap.size W W' → K (a'.put (some (cs j)) (.agg #[.int .i64 (E j : Int), .slice (some ⟨g, 0, none⟩) (xs j).length c])) W') → Oper.wp Try.prog ⟨some (cs j), Cop j, ty, pos, aft, none⟩ a' W K Q)
    (hall1 : ∀ j, j < k → AllocOk (T j)) (hsto1 : ∀ j, j < k → StoreOk (T j))
    (hend : ∀ v W, (∀ j, j < k → ∃ b g c, v (ps j) = .pointer (some ⟨b, 0, none⟩) ∧ w.heap.size ≤ b ∧ BoxAt W b #[.int .i64 (E j : Int), .slice (some ⟨g, 0, none⟩) (xs j).length c] (T j) ∧ NatsAt W g 0 (xs j) ∧ g < W.heap.size) → Below w.heap.size w W → Q .normal (laid a ds v) W) :
    (Code.region id ops true).wp Try.prog Q a w := by
  have hwd : Below w.heap.size w w.drew := below_drew1 w
  have hsd : w.drew.heap.size = w.heap.size := rfl
  have hlo : ∀ {W : World}, Below w.drew.heap.size w.drew W → Below w.heap.size w W := fun h => hwd.trans h
  refine wp_region_laid ds outs (fun L v W => JL k x E xs T ld cs ps w.drew L v W) (by kernel_rfl) (back_of hb) hnd hsz hout (dst_of hdst) (JL.start _ fun i hi => by simp [hsize, hi]) ?_ (fun L v W hJ hall => ?_)
  · intro i o ho
    have hi : i < 4 * k := by have := (Array.getElem?_eq_some_iff.1 ho).1; omega
    have hcase : (∃ j, j < k ∧ i = 2 * j) ∨ (∃ j, j < k ∧ i = 2 * j + 1) ∨ (∃ j, j < k ∧ i = 2 * k + j) ∨ (∃ j, j < k ∧ i = 3 * k + j) := by
      by_cases h2 : i < 2 * k
      · by_cases he : i % 2 = 0
        · exact .inl ⟨i / 2, by omega, by omega⟩
        · exact .inr (.inl ⟨i / 2, by omega, by omega⟩)
      · by_cases h3 : i < 3 * k
        · exact .inr (.inr (.inl ⟨i - 2 * k, by omega, by omega⟩))
        · exact .inr (.inr (.inr ⟨i - 3 * k, by omega, by omega⟩))
    rcases hcase with ⟨j, hj, rfl⟩ | ⟨j, hj, rfl⟩ | ⟨j, hj, rfl⟩ | ⟨j, hj, rfl⟩
    · obtain ⟨ty, pos, aft, e⟩ := (hops j hj).l
      rw [e] at ho
      obtain rfl := Option.some.inj ho
      intro L v W a' hJ hv hq hL hd K hK
      rw [if_pos (wanted_free _)]
      exact hload j hj a' W K ty pos aft hq (hlo hJ.lt) (hK _ _ (hJ.load S hj))
    · obtain ⟨ty, pos, aft, e, hdep⟩ := (hops j hj).c
      rw [e] at ho
      obtain rfl := Option.some.inj ho
      intro L v W a' hJ hv hq hL hd K hK
      rw [if_pos (wanted_free _)]
      have hx := hJ.loaded hj (dep_of hd _ hdep)
      refine hcall j hj a' W K ty pos aft (by rw [hv _ (hin j hj).1]; exact hx) (hlo hJ.lt) ?_
      intro g c W' hr hf hg hB
      exact hK _ _ (hJ.call S hj hL hr hf hg hB)
    · obtain ⟨ty, pos, aft, e⟩ := (hops j hj).a
      rw [e] at ho
      obtain rfl := Option.some.inj ho
      intro L v W a' hJ hv hq hL hd K hK
      rw [if_pos (wanted_free _)]
      have hA := hJ.alloc S hj hL (.int .i64 0) (.slice none 0 0)
      have hA2 := hK _ _ hA
      have hA3 : K (a'.put (some (ps j)) (.pointer (some ⟨W.heap.size, 0, none⟩))) (W.alloc (.cells #[.int .i64 0, .slice none 0 0] (T j))) := hA2
      clear hA2 hA
      have hal0 := hall1
      have hal1 := hal0 j
      have hal : AllocOk (T j) := hal1 hj
      revert hA3
      exact hal Q K a' W (ps j) ty pos aft
    · obtain ⟨ty, pos, aft, e, hd1, hd2⟩ := (hops j hj).s
      rw [e] at ho
      obtain rfl := Option.some.inj ho
      intro L v W a' hJ hv hq hL hd K hK
      rw [if_pos (wanted_free _)]
      obtain ⟨b, g, c2, e1, e2, ⟨v0, v1, e3⟩, e4⟩ := hJ.ready hj (dep_of hd _ hd1) (dep_of hd _ hd2)
      have hst : StoreOk (T j) := hsto1 j hj
      exact hst Q K a' W _ _ ty pos aft _ _ _ _ _ _ _ (by rw [hv _ (hin j hj).2.2]; exact e1) (by rw [hv _ (hin j hj).2.1]; exact e2) e3 (hK undef _ (e4 hL))
  · obtain ⟨hB, hl⟩ := hJ.done (fun i hi => hall i (by omega))
    exact hend v W hl (hlo hB)
end Go.Proofs.Ytdmgffoikebgkaa
namespace Go.Proofs.Ytdmgffoikebgkaa
open Go.RowKit

theorem slots_of {k : Nat} {ld cs ps : Nat → Nat} (h : ∀ i, i < k → ∀ j, j < k → ld i ≠ cs j ∧ ld i ≠ ps j ∧ cs i ≠ ps j ∧ (ld i = ld j → i = j) ∧ (cs i = cs j → i = j) ∧ (ps i = ps j → i = j)) : Slots k ld cs ps :=
  ⟨fun i j hi hj => (h i hi j hj).1, fun i j hi hj => (h i hi j hj).2.1, fun i j hi hj => (h i hi j hj).2.2.1, fun i j hi hj => (h i hi j hj).2.2.2.1, fun i j hi hj => (h i hi j hj).2.2.2.2.1, fun i j hi hj => (h i hi j hj).2.2.2.2.2⟩
end Go.Proofs.Ytdmgffoikebgkaa
