/- Regions whose order is left open: an invariant of what has been done, and of the slots that are written; single operations. -/
import Derived.Test.YtjobbleabepaiaaWX
import Derived.RegionTactic
import Derived.Outline
namespace Go.Proofs.Ytjobbleabepaiaa
open Go.RowKit

/-- every operation waits for earlier ones alone -/
def Back (ops : Array Oper) : Prop := ∀ (i : Nat) (o : Oper), ops[i]? = some o → ∀ e ∈ o.after, Region.binds .any e = true → e.on < i
theorem ready_least {ops : Array Oper} {L : Array Bool} (hb : Back ops) (hr : Region.ready .any ops L = []) : ∀ i, i < ops.size → L.getD i true = true := by
  intro i
  induction i using Nat.strongRecOn with
  | ind i ih =>
    intro hi
    cases hL : L.getD i true with
    | true => rfl
    | false =>
      exfalso
      have ho : ops[i]? = some ops[i] := by simp [hi]
      have : i ∈ Region.ready .any ops L := mem_ready.2 ⟨hL, ops[i], ho, fun e he hbd => by
        have hlt := hb i _ ho e he hbd
        have h1 := ih e.on hlt (by omega)
        have hsz : e.on < L.size := by
          rcases Nat.lt_or_ge i L.size with h | h
          · omega
          · have : L.getD i true = true := by simp [Array.getD, Nat.not_lt.2 h]
            rw [this] at hL; simp at hL
        simp [Array.getD, hsz] at h1 ⊢
        exact h1⟩
      rw [hr] at this
      cases this
/-- how many operations are left -/
def undone (L : Array Bool) : Nat := L.toList.countP fun b => !b
theorem undone_set {L : Array Bool} {i : Nat} (h : L.getD i true = false) : undone (L.setIfInBounds i true) + 1 = undone L := by
  have hi : i < L.size := by
    rcases Nat.lt_or_ge i L.size with h2 | h2
    · exact h2
    · have : L.getD i true = true := by simp [Array.getD, Nat.not_lt.2 h2]
      rw [this] at h; simp at h
  have hv : L[i] = false := by simpa [Array.getD, hi] using h
  unfold undone
  rw [Array.toList_setIfInBounds, List.countP_set (by simpa using hi)]
  have hp : 0 < List.countP (fun b => !b) L.toList := by
    rw [List.countP_pos_iff]
    exact ⟨L[i], by simp, by simp [hv]⟩
  simp only [Array.getElem_toList, hv, Bool.not_false, if_true, Bool.not_true, Bool.false_eq_true, if_false]
  omega
theorem undone_none {L : Array Bool} (h : undone L = 0) (i : Nat) : L.getD i true = true := by
  unfold undone at h
  rw [List.countP_eq_zero] at h
  rcases Nat.lt_or_ge i L.size with h2 | h2
  · have := h L[i] (by simp)
    simp [Array.getD, h2]
    simpa using this
  · simp [Array.getD, Nat.not_lt.2 h2]
/-- what one operation has to do, whatever has been done -/
def StepOk (P : Program) (ops : Array Oper) (Q : Exit → Act → World → Prop) (I : Array Bool → Act → World → Prop) (i : Nat) (o : Oper) : Prop :=
  ∀ L a w, I L a w → L.getD i true = false → (∀ e ∈ o.after, Region.binds .any e = true → L.getD e.on false = true) →
    ∀ K : Act → World → Prop, (∀ a' w', I (L.setIfInBounds i true) a' w' → K a' w') → if Region.wanted o (yielded ops a.tmps) = true then Oper.wp P o a w K Q else K (a.put o.dst undef) w
theorem wpAny_inv {P : Program} {ops : Array Oper} {Q : Exit → Act → World → Prop} (I : Array Bool → Act → World → Prop)
    (hb : Back ops)
    (hstep : ∀ (i : Nat) (o : Oper), ops[i]? = some o → StepOk P ops Q I i o)
    (hend : ∀ L a w, I L a w → (∀ i, i < ops.size → L.getD i true = true) → Q .normal a w) :
    ∀ fuel L a w, undone L ≤ fuel → I L a w → wpAny P .any ops Q fuel L a w
  | 0, L, a, w, hf, hI => by
    have h0 := undone_none (show undone L = 0 by omega)
    refine ⟨?_, hend L a w hI fun i _ => h0 i⟩
    rw [List.eq_nil_iff_forall_not_mem]
    intro i hi
    have := (mem_ready.1 hi).1
    rw [h0 i] at this
    simp at this
  | fuel + 1, L, a, w, hf, hI => by
    refine ⟨fun hr => hend L a w hI (ready_least hb hr), fun i hi => ?_⟩
    obtain ⟨hn, o, ho, hd⟩ := mem_ready.1 hi
    refine wpOp_step ho fun K hK => ?_
    refine hstep i o ho L a w hI hn hd K fun a' w' hI' => hK a' w' ?_
    exact wpAny_inv I hb hstep hend fuel _ a' w' (by have := undone_set hn; omega) hI'
theorem wp_region_inv {P : Program} {id : Nat} {ops : Array Oper} {Q : Exit → Act → World → Prop} {a : Act} {w : World} (hm : P.follows .mixedOrders = true) (I : Array Bool → Act → World → Prop)
    (hb : Back ops)
    (h0 : I (Array.replicate ops.size false) a w.drew)
    (hstep : ∀ (i : Nat) (o : Oper), ops[i]? = some o → StepOk P ops Q I i o)
    (hend : ∀ L a w, I L a w → (∀ i, i < ops.size → L.getD i true = true) → Q .normal a w) : (Code.region id ops true).wp P Q a w := by
  refine wp_region_any hm ?_
  change wpAny _ _ _ _ _ _ _ (World.drew _)
  exact wpAny_inv I hb hstep hend _ _ _ _ (by unfold undone; simp [List.countP_replicate]) h0
end Go.Proofs.Ytjobbleabepaiaa
namespace Go.Proofs.Ytjobbleabepaiaa
open Go.RowKit

/-- a frame with new values in some slots -/
def laid (a : Act) (ds : List Nat) (v : Nat → Value) : Act := ds.foldl (fun a d => a.put (some d) (v d)) a
theorem laid_cons (a : Act) (d : Nat) (ds : List Nat) (v : Nat → Value) : laid a (d :: ds) v = laid (a.put (some d) (v d)) ds v := rfl
theorem put_size (a : Act) (d : Option Tmp) (x : Value) : (a.put d x).tmps.size = a.tmps.size := by cases d <;> simp [Act.put]
theorem put_eval_same (a : Act) (d : Nat) (x : Value) (h : d < a.tmps.size) : (a.put (some d) x).eval (.tmp d) = x := by
  simp [Act.put, Act.eval, h]
theorem put_eval_ne (a : Act) (d s : Nat) (x : Value) (h : s ≠ d) : (a.put (some d) x).eval (.tmp s) = a.eval (.tmp s) := by
  simp only [Act.put, Act.eval, Array.getD_eq_getD_getElem?]
  rw [Array.getElem?_setIfInBounds_ne (Ne.symm h)]
theorem put_twice (a : Act) (d : Nat) (x y : Value) : (a.put (some d) x).put (some d) y = a.put (some d) y := by
  simp [Act.put]
theorem put_comm' (a : Act) (d s : Nat) (x y : Value) (h : d ≠ s) : (a.put (some d) x).put (some s) y = (a.put (some s) y).put (some d) x := by
  simp only [Act.put]
  rw [Array.setIfInBounds_comm _ _ h]
theorem laid_out (ds : List Nat) (v : Nat → Value) (s : Nat) (h : s ∉ ds) : ∀ a : Act, (laid a ds v).eval (.tmp s) = a.eval (.tmp s) := by
  induction ds with
  | nil => intro a; rfl
  | cons d ds ih =>
    intro a
    simp at h
    rw [laid_cons, ih h.2, put_eval_ne _ _ _ _ h.1]
theorem laid_in (ds : List Nat) (v : Nat → Value) (s : Nat) (h : s ∈ ds) : ∀ a : Act, (∀ d ∈ ds, d < a.tmps.size) → (laid a ds v).eval (.tmp s) = v s := by
  induction ds with
  | nil => simp at h
  | cons d ds ih =>
    intro a hsz
    rw [laid_cons]
    by_cases hs : s ∈ ds
    · exact ih hs _ (fun e he => by rw [put_size]; exact hsz e (List.mem_cons_of_mem _ he))
    · obtain rfl : s = d := by simpa [hs] using h
      rw [laid_out _ _ _ hs, put_eval_same _ _ _ (hsz s (List.mem_cons_self ..))]
/-- new values, one of them changed -/
def updO (v : Nat → Value) (d : Option Tmp) (x : Value) : Nat → Value := match d with
  | some d => fun s => if s = d then x else v s
  | none => v
theorem laid_congr (ds : List Nat) (v u : Nat → Value) (h : ∀ d ∈ ds, v d = u d) : ∀ a : Act, laid a ds v = laid a ds u := by
  induction ds with
  | nil => intro a; rfl
  | cons d ds ih =>
    intro a
    rw [laid_cons, laid_cons, h d (List.mem_cons_self ..)]
    exact ih (fun e he => h e (List.mem_cons_of_mem _ he)) _
theorem laid_put_front (ds : List Nat) (v : Nat → Value) (s : Nat) (x : Value) (h : s ∉ ds) : ∀ a : Act, (laid a ds v).put (some s) x = laid (a.put (some s) x) ds v := by
  induction ds with
  | nil => intro a; rfl
  | cons d ds ih =>
    intro a
    simp at h
    rw [laid_cons, laid_cons, ih h.2, put_comm' _ _ _ _ _ (Ne.symm h.1)]
theorem laid_put (ds : List Nat) (v : Nat → Value) (s : Nat) (x : Value) (hnd : ds.Nodup) (h : s ∈ ds) : ∀ a : Act, (laid a ds v).put (some s) x = laid a ds (updO v (some s) x) := by
  induction ds with
  | nil => simp at h
  | cons d ds ih =>
    intro a
    rw [List.nodup_cons] at hnd
    rw [laid_cons, laid_cons]
    by_cases hs : s ∈ ds
    · have hne : d ≠ s := fun e => hnd.1 (e ▸ hs)
      rw [ih hnd.2 hs]
      have : updO v (some s) x d = v d := by simp [updO, hne]
      rw [this]
    · obtain rfl : s = d := by simpa [hs] using h
      rw [laid_put_front _ _ _ _ hs, put_twice]
      have e1 : updO v (some s) x s = x := by simp [updO]
      rw [e1]
      refine laid_congr _ _ _ (fun e he => ?_) _
      have : e ≠ s := fun h => hs (h ▸ he)
      simp [updO, this]
theorem laid_self (ds : List Nat) : ∀ a : Act, laid a ds (fun d => a.eval (.tmp d)) = a := by
  intro a
  have key : ∀ ds : List Nat, laid a ds (fun d => a.eval (.tmp d)) = a := by
    intro ds
    induction ds with
    | nil => rfl
    | cons d ds ih =>
      rw [laid_cons]
      have : a.put (some d) (a.eval (.tmp d)) = a := by
        simp only [Act.put, Act.eval]
        congr 1
        apply Array.ext_getElem?
        intro i
        by_cases hi : i = d
        · subst hi
          rw [Array.getElem?_setIfInBounds]
          by_cases hlt : i < a.tmps.size <;> simp [hlt, Array.getD]
        · rw [Array.getElem?_setIfInBounds_ne (Ne.symm hi)]
      rw [this]; exact ih
  exact key ds

/-- what one operation has to do, whatever has been done, in whatever frame that has the slots' values -/
def StepAt (P : Program) (ops : Array Oper) (Q : Exit → Act → World → Prop) (ds : List Nat) (outs : List (Nat × Value)) (J : Array Bool → (Nat → Value) → World → Prop) (i : Nat) (o : Oper) : Prop :=
  ∀ L v W (a : Act), J L v W → (∀ d ∈ ds, a.tmps[d]?.getD undef = v d) → (∀ q ∈ outs, a.tmps[q.1]?.getD undef = q.2) → L.getD i true = false → (∀ e ∈ o.after, Region.binds .any e = true → L.getD e.on false = true) →
    ∀ K : Act → World → Prop, (∀ x W', J (L.setIfInBounds i true) (updO v o.dst x) W' → K (a.put o.dst x) W') → if Region.wanted o (yielded ops a.tmps) = true then Oper.wp P o a W K Q else K (a.put o.dst undef) W
theorem eval_tmp (a : Act) (d : Nat) : a.eval (.tmp d) = a.tmps[d]?.getD undef := by simp only [Act.eval, Array.getD_eq_getD_getElem?]
theorem wp_region_laid {P : Program} {id : Nat} {ops : Array Oper} {Q : Exit → Act → World → Prop} {a : Act} {w : World} (ds : List Nat) (outs : List (Nat × Value)) (J : Array Bool → (Nat → Value) → World → Prop)
    (hm : P.follows .mixedOrders = true) (hb : Back ops) (hnd : ds.Nodup) (hsz : ∀ d ∈ ds, d < a.tmps.size) (hout : ∀ q ∈ outs, a.eval (.tmp q.1) = q.2 ∧ q.1 ∉ ds)
    (hdst : ∀ (i : Nat) (o : Oper), ops[i]? = some o → ∀ d, o.dst = some d → d ∈ ds)
    (h0 : J (Array.replicate ops.size false) (fun d => a.eval (.tmp d)) w.drew)
    (hstep : ∀ (i : Nat) (o : Oper), ops[i]? = some o → StepAt P ops Q ds outs J i o)
    (hend : ∀ L v W, J L v W → (∀ i, i < ops.size → L.getD i true = true) → Q .normal (laid a ds v) W) : (Code.region id ops true).wp P Q a w := by
  refine wp_region_inv hm (fun L a' W => ∃ v, a' = laid a ds v ∧ J L v W) hb ⟨_, (laid_self ds a).symm, h0⟩ ?_ ?_
  · rintro i o ho L a' W ⟨v, rfl, hJ⟩ hL hd K hK
    refine hstep i o ho L v W _ hJ (fun d hd => by rw [← eval_tmp]; exact laid_in ds v d hd a hsz) (fun q hq => by rw [← eval_tmp, laid_out _ _ _ (hout q hq).2]; exact (hout q hq).1) hL hd K fun x W' hJ' => hK _ _ ⟨updO v o.dst x, ?_, hJ'⟩
    cases hdst' : o.dst with
    | none => rfl
    | some d => exact laid_put ds v d x hnd (hdst i o ho d hdst') a
  · rintro L a' W ⟨v, rfl, hJ⟩ hall
    exact hend L v W hJ hall
end Go.Proofs.Ytjobbleabepaiaa
namespace Go.Proofs.Ytjobbleabepaiaa
open Go.RowKit

theorem step_load24 {Q : Exit → Act → World → Prop} {K : Act → World → Prop} {a : Act} {W : World} (d s : Nat) (ty : TypeId) (pos : String) (aft : Array Edge) {B l c : Nat} {h : Int} {p : Option Addr}
    (hs : a.tmps[s]?.getD undef = .pointer (some ⟨B, 0, none⟩)) (c0 : W.cell? ⟨B, 0, none⟩ = some (.int .i64 h)) (c1 : W.cell? ⟨B, 1, none⟩ = some (.slice p l c))
    (hK : K (a.put (some d) (.agg #[.int .i64 h, .slice p l c])) W) :
    Oper.wp Try.prog ⟨some d, .load 24 (.tmp s), ty, pos, aft, none⟩ a W K Q := by
  have e : a.eval (.tmp s) = .pointer (some ⟨B, 0, none⟩) := by rw [eval_tmp]; exact hs
  unfold Oper.wp
  simp only [execOp, e]
  go_simp
  exact hK
theorem step_alloc24 {Q : Exit → Act → World → Prop} {K : Act → World → Prop} {a : Act} {W : World} (d : Nat) (ty : TypeId) (pos : String) (aft : Array Edge)
    (hK : K (a.put (some d) (.pointer (some ⟨W.heap.size, 0, none⟩))) (W.alloc (.cells #[.int .i64 0, .slice none 0 0] 24))) :
    Oper.wp Try.prog ⟨some d, .alloc 24, ty, pos, aft, none⟩ a W K Q := by
  unfold Oper.wp
  simp only [execOp]
  go_simp
  exact hK
theorem step_store24 {Q : Exit → Act → World → Prop} {K : Act → World → Prop} {a : Act} {W : World} (s t : Nat) (ty : TypeId) (pos : String) (aft : Array Edge) {B l c : Nat} {h : Int} {p : Option Addr} {v0 v1 : Value}
    (hs : a.tmps[s]?.getD undef = .pointer (some ⟨B, 0, none⟩)) (ht : a.tmps[t]?.getD undef = .agg #[.int .i64 h, .slice p l c]) (hb : W.heap[B]? = some (.cells #[v0, v1] 24 (0, 0)))
    (hK : K a ((W.setCell ⟨B, 0, none⟩ (.int .i64 h)).setCell ⟨B, 1, none⟩ (.slice p l c))) :
    Oper.wp Try.prog ⟨none, .store 24 (.tmp s) (.tmp t), ty, pos, aft, none⟩ a W K Q := by
  have e : a.eval (.tmp s) = .pointer (some ⟨B, 0, none⟩) := by rw [eval_tmp]; exact hs
  have e2 : a.eval (.tmp t) = .agg #[.int .i64 h, .slice p l c] := by rw [eval_tmp]; exact ht
  have f0 : W.frozen? ⟨B, 0, none⟩ = false := by simp [World.frozen?, hb]
  have f1 : W.frozen? ⟨B, 1, none⟩ = false := by simp [World.frozen?, hb]
  have c0 : W.cell? ⟨B, 0, none⟩ = some v0 := by simp [World.cell?, hb]
  have c1 : W.cell? ⟨B, 1, none⟩ = some v1 := by simp [World.cell?, hb]
  have hlt : B < W.heap.size := (Array.getElem?_eq_some_iff.1 hb).1
  unfold Oper.wp
  simp only [execOp, e, e2]
  clear hb e e2 hs ht
  go_simp
  exact hK
end Go.Proofs.Ytjobbleabepaiaa
namespace Go.Proofs.Ytjobbleabepaiaa
open Go.RowKit
theorem step_call18 {Q : Exit → Act → World → Prop} {K : Act → World → Prop} {a : Act} {W : World} (d s : Nat) (tys : Array TypeId) (ty : TypeId) (pos : String) (aft : Array Edge) {x : Value} {R : Ending → World → Prop}
    (hs : a.tmps[s]?.getD undef = x) (hc : Calls Try.prog 18 #[x] W R) (hK : ∀ e w', R e w' → ∃ v, e = .returned v ∧ K (a.put (some d) v) w') :
    Oper.wp Try.prog ⟨some d, .call { callee := .value (.func 18), args := #[.tmp s], argTypes := tys }, ty, pos, aft, none⟩ a W K Q := by
  have e : a.eval (.tmp s) = x := by rw [eval_tmp]; exact hs
  unfold Oper.wp
  simp only [execOp]
  have HS := Lib.hid hs
  have HK := Lib.hid hK
  have HC := Lib.hid hc
  clear hs e hK hc
  go_simp
  rw [HS.out]
  refine HC.out.mono fun en w' hr => ?_
  obtain ⟨v, rfl, hk⟩ := HK.out _ _ hr
  exact hk
theorem step_call59 {Q : Exit → Act → World → Prop} {K : Act → World → Prop} {a : Act} {W : World} (d s : Nat) (tys : Array TypeId) (ty : TypeId) (pos : String) (aft : Array Edge) {x c : Value} {R : Ending → World → Prop}
    (hs : a.tmps[s]?.getD undef = x) (hc : Calls Try.prog 59 #[x, c] W R) (hK : ∀ e w', R e w' → ∃ v, e = .returned v ∧ K (a.put (some d) v) w') :
    Oper.wp Try.prog ⟨some d, .call { callee := .value (.func 59), args := #[.tmp s, .const c], argTypes := tys }, ty, pos, aft, none⟩ a W K Q := by
  have e : a.eval (.tmp s) = x := by rw [eval_tmp]; exact hs
  unfold Oper.wp
  simp only [execOp]
  have HS := Lib.hid hs
  have HK := Lib.hid hK
  have HC := Lib.hid hc
  clear hs e hK hc
  go_simp
  rw [HS.out]
  refine HC.out.mono fun en w' hr => ?_
  obtain ⟨v, rfl, hk⟩ := HK.out _ _ hr
  exact hk
theorem step_load81 {Q : Exit → Act → World → Prop} {K : Act → World → Prop} {a : Act} {W : World} (d s : Nat) (ty : TypeId) (pos : String) (aft : Array Edge) {B l c : Nat} {h : Int} {p : Option Addr}
    (hs : a.tmps[s]?.getD undef = .pointer (some ⟨B, 0, none⟩)) (c0 : W.cell? ⟨B, 0, none⟩ = some (.int .u8 h)) (c1 : W.cell? ⟨B, 1, none⟩ = some (.slice p l c))
    (hK : K (a.put (some d) (.agg #[.int .u8 h, .slice p l c])) W) :
    Oper.wp Try.prog ⟨some d, .load 81 (.tmp s), ty, pos, aft, none⟩ a W K Q := by
  have e : a.eval (.tmp s) = .pointer (some ⟨B, 0, none⟩) := by rw [eval_tmp]; exact hs
  unfold Oper.wp
  simp only [execOp, e]
  go_simp
  exact hK
end Go.Proofs.Ytjobbleabepaiaa
