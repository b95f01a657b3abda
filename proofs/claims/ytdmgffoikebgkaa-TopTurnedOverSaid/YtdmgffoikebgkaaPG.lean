/- Regions that draw their order, read, and call what only adds to memory: each operation once, whatever was done before. -/
import Derived.Test.YtdmgffoikebgkaaPR
import Derived.Test.YtdmgffoikebgkaaPW
namespace Go.Proofs.Ytdmgffoikebgkaa
open Go.RowKit Go.Shelf

def atL (l : List Nat) (i : Nat) : Nat := l.getD i 0
def dB (ops : Array Oper) (ds : List Nat) : Bool := (List.range ops.size).all fun i => match ops[i]? with
  | some o => (o.dst == some (atL ds i)) && o.guard.isNone
  | none => true
theorem d_of {ops : Array Oper} {ds : List Nat} (h : dB ops ds = true) (i : Nat) (o : Oper) (ho : ops[i]? = some o) : o.dst = some (atL ds i) ∧ o.guard = none := by
  have hi : i < ops.size := (Array.getElem?_eq_some_iff.1 ho).1
  unfold dB at h
  rw [List.all_eq_true] at h
  have := h i (by simpa using hi)
  rw [ho] at this
  simpa using this
theorem atL_mem (ds : List Nat) (i : Nat) (h : i < ds.length) : atL ds i ∈ ds := by
  simp [atL, h]
theorem atL_inj {ds : List Nat} (hnd : ds.Nodup) {i j : Nat} (hi : i < ds.length) (hj : j < ds.length) (h : atL ds i = atL ds j) : i = j := by
  simp [atL, hi, hj] at h
  exact (List.getElem_inj hnd).1 h
def GrowStep (w : World) (Q : Exit → Act → World → Prop) (outs : List (Nat × Value)) (ds : List Nat) (F : Nat → Value → World → Prop) (i : Nat) (o : Oper) : Prop :=
  ∀ (a : Act) (v : Nat → Value) (W : World) (K : Act → World → Prop), Below w.heap.size w W → (∀ q ∈ outs, a.tmps[q.1]?.getD undef = q.2) →
    (∀ j, depB o j = true → F j (v j) W ∧ a.tmps[atL ds j]?.getD undef = v j) →
    (∀ x W', Below W.heap.size W W' → F i x W' → K (a.put o.dst x) W') → Oper.wp Try.prog o a W K Q
set_option maxRecDepth 4000 in
theorem region_grow {id : Nat} {ops : Array Oper} {Q : Exit → Act → World → Prop} {a : Act} {w : World} (ds : List Nat) (outs : List (Nat × Value)) (F : Nat → Value → World → Prop)
    (hlen : ds.length = ops.size) (hb : backB ops = true) (hd : dB ops ds = true) (hnd : ds.Nodup) (hsz : ∀ e ∈ ds, e < a.tmps.size) (hout : ∀ q ∈ outs, a.eval (.tmp q.1) = q.2 ∧ q.1 ∉ ds)
    (hmono : ∀ i x W W', F i x W → Below W.heap.size W W' → F i x W')
    (hstep : ∀ (i : Nat) (o : Oper), ops[i]? = some o → GrowStep w Q outs ds F i o)
    (hend : ∀ v W, (∀ i, i < ops.size → F i (v (atL ds i)) W) → Below w.heap.size w W → Q .normal (laid a ds v) W) :
    (Code.region id ops true).wp Try.prog Q a w := by
  have hwd : Below w.heap.size w w.drew := below_drew1 w
  refine wp_region_laid ds outs (fun L v W => Below w.heap.size w W ∧ ∀ i, i < ops.size → L.getD i true = true → F i (v (atL ds i)) W) (by kernel_rfl) (back_of hb) hnd hsz hout ?_ ⟨hwd, fun i hi h => ?_⟩ ?_ (fun L v W hJ hall => hend v W (fun i hi => hJ.2 i hi (hall i hi)) hJ.1)
  · intro i o ho e he
    have := (d_of hd i o ho).1
    rw [this] at he
    obtain rfl := Option.some.inj he
    exact atL_mem _ _ (by rw [hlen]; exact (Array.getElem?_eq_some_iff.1 ho).1)
  · simp [hi] at h
  · intro i o ho L v W a' hJ hv hq hL hdp K hK
    have hi : i < ops.size := (Array.getElem?_eq_some_iff.1 ho).1
    obtain ⟨hdo, hgo⟩ := d_of hd i o ho
    have hw : Region.wanted o (yielded ops a'.tmps) = true := by
      obtain ⟨dd, op, ty, pos, aft, g⟩ := o
      simp only at hgo
      subst hgo
      rfl
    rw [if_pos hw]
    refine hstep i o ho a' (fun j => v (atL ds j)) W K hJ.1 hq (fun j hj => ?_) fun x W' hB hF => hK x W' ⟨hJ.1.trans (hB.mono hJ.1.size), fun j hj hLj => ?_⟩
    · have hji : j < i := by
        unfold depB at hj
        rw [Array.any_eq_true'] at hj
        obtain ⟨e, he, h2⟩ := hj
        rw [Bool.and_eq_true, beq_iff_eq] at h2
        have := back_of hb i o ho e he h2.1
        omega
      exact ⟨hJ.2 j (by omega) (dep_of hdp j hj), hv _ (atL_mem _ _ (by omega))⟩
    · rw [hdo, upd_some]
      by_cases e : j = i
      · subst e
        rw [if_pos rfl]; exact hF
      · rw [if_neg (fun h => e (atL_inj hnd (by omega) (by omega) h))]
        rw [set_getD] at hLj
        exact hmono _ _ _ _ (hJ.2 j hj (by simpa [e] using hLj)) hB

section
variable {Q : Exit → Act → World → Prop} {K : Act → World → Prop} {a : Act} {W : World} {d s : Nat} {ty : TypeId} {pos : String} {aft : Array Edge}
theorem step_move {x : Value} (hs : a.tmps[s]?.getD undef = x) (hK : K (a.put (some d) x) W) : Oper.wp Try.prog ⟨some d, .move (.tmp s), ty, pos, aft, none⟩ a W K Q := by
  have e : a.eval (.tmp s) = x := by rw [eval_tmp]; exact hs
  clear hs
  unfold Oper.wp
  simp only [execOp, e]
  exact hK
theorem step_assign {x : Value} (hs : a.tmps[s]?.getD undef = x) (hK : K (a.put (some d) x) W) : Oper.wp Try.prog ⟨some d, .assign (.tmp s), ty, pos, aft, none⟩ a W K Q := by
  have e : a.eval (.tmp s) = x := by rw [eval_tmp]; exact hs
  clear hs
  unfold Oper.wp
  simp only [execOp, e]
  exact hK
theorem step_extract0of2 {x y : Value} (hs : a.tmps[s]?.getD undef = .tuple #[x, y]) (hK : K (a.put (some d) x) W) : Oper.wp Try.prog ⟨some d, .extract (.tmp s) 0, ty, pos, aft, none⟩ a W K Q := by
  have e : a.eval (.tmp s) = .tuple #[x, y] := by rw [eval_tmp]; exact hs
  clear hs
  unfold Oper.wp
  simp only [execOp, e]
  exact hK
theorem step_extract1of2 {x y : Value} (hs : a.tmps[s]?.getD undef = .tuple #[x, y]) (hK : K (a.put (some d) y) W) : Oper.wp Try.prog ⟨some d, .extract (.tmp s) 1, ty, pos, aft, none⟩ a W K Q := by
  have e : a.eval (.tmp s) = .tuple #[x, y] := by rw [eval_tmp]; exact hs
  clear hs
  unfold Oper.wp
  simp only [execOp, e]
  exact hK
theorem step_extract0of3 {x y z : Value} (hs : a.tmps[s]?.getD undef = .tuple #[x, y, z]) (hK : K (a.put (some d) x) W) : Oper.wp Try.prog ⟨some d, .extract (.tmp s) 0, ty, pos, aft, none⟩ a W K Q := by
  have e : a.eval (.tmp s) = .tuple #[x, y, z] := by rw [eval_tmp]; exact hs
  clear hs
  unfold Oper.wp
  simp only [execOp, e]
  exact hK
theorem step_extract1of3 {x y z : Value} (hs : a.tmps[s]?.getD undef = .tuple #[x, y, z]) (hK : K (a.put (some d) y) W) : Oper.wp Try.prog ⟨some d, .extract (.tmp s) 1, ty, pos, aft, none⟩ a W K Q := by
  have e : a.eval (.tmp s) = .tuple #[x, y, z] := by rw [eval_tmp]; exact hs
  clear hs
  unfold Oper.wp
  simp only [execOp, e]
  exact hK
theorem step_extract2of3 {x y z : Value} (hs : a.tmps[s]?.getD undef = .tuple #[x, y, z]) (hK : K (a.put (some d) z) W) : Oper.wp Try.prog ⟨some d, .extract (.tmp s) 2, ty, pos, aft, none⟩ a W K Q := by
  have e : a.eval (.tmp s) = .tuple #[x, y, z] := by rw [eval_tmp]; exact hs
  clear hs
  unfold Oper.wp
  simp only [execOp, e]
  exact hK
theorem step_load114 {B l c : Nat} {h : Int} {p : Option Addr} (hs : a.tmps[s]?.getD undef = .pointer (some ⟨B, 0, none⟩)) (hb : BoxAt W B #[.int .i64 h, .slice p l c] 114)
    (hK : K (a.put (some d) (.agg #[.int .i64 h, .slice p l c])) W) : Oper.wp Try.prog ⟨some d, .load 114 (.tmp s), ty, pos, aft, none⟩ a W K Q := by
  have e : a.eval (.tmp s) = .pointer (some ⟨B, 0, none⟩) := by rw [eval_tmp]; exact hs
  have c0 := hb.cell' 0 rfl
  have c1 := hb.cell' 1 rfl
  clear hb hs
  unfold Oper.wp
  simp only [execOp, e]
  go_simp
  exact hK
theorem step_load26 {B l c : Nat} {h : Int} {p : Option Addr} (hs : a.tmps[s]?.getD undef = .pointer (some ⟨B, 0, none⟩)) (hb : BoxAt W B #[.int .i64 h, .slice p l c] 26)
    (hK : K (a.put (some d) (.agg #[.int .i64 h, .slice p l c])) W) : Oper.wp Try.prog ⟨some d, .load 26 (.tmp s), ty, pos, aft, none⟩ a W K Q := by
  have e : a.eval (.tmp s) = .pointer (some ⟨B, 0, none⟩) := by rw [eval_tmp]; exact hs
  have c0 := hb.cell' 0 rfl
  have c1 := hb.cell' 1 rfl
  clear hb hs
  unfold Oper.wp
  simp only [execOp, e]
  go_simp
  exact hK
theorem step_load37 {B l c : Nat} {h : Int} {p : Option Addr} (hs : a.tmps[s]?.getD undef = .pointer (some ⟨B, 0, none⟩)) (hb : BoxAt W B #[.int .i64 h, .slice p l c] 37)
    (hK : K (a.put (some d) (.agg #[.int .i64 h, .slice p l c])) W) : Oper.wp Try.prog ⟨some d, .load 37 (.tmp s), ty, pos, aft, none⟩ a W K Q := by
  have e : a.eval (.tmp s) = .pointer (some ⟨B, 0, none⟩) := by rw [eval_tmp]; exact hs
  have c0 := hb.cell' 0 rfl
  have c1 := hb.cell' 1 rfl
  clear hb hs
  unfold Oper.wp
  simp only [execOp, e]
  go_simp
  exact hK
theorem step_field37 {B : Nat} (hs : a.tmps[s]?.getD undef = .pointer (some ⟨B, 0, none⟩)) (hK : K (a.put (some d) (.pointer (some ⟨B, 0, none⟩))) W) : Oper.wp Try.prog ⟨some d, .fieldAddr 37 (.tmp s) 0, ty, pos, aft, none⟩ a W K Q := by
  have e : a.eval (.tmp s) = .pointer (some ⟨B, 0, none⟩) := by rw [eval_tmp]; exact hs
  clear hs
  unfold Oper.wp
  simp only [execOp, e]
  go_simp
  exact hK
theorem step_load3 {B : Nat} {x : Value} (hs : a.tmps[s]?.getD undef = .pointer (some ⟨B, 0, none⟩)) (hc : W.cell? ⟨B, 0, none⟩ = some x) (hK : K (a.put (some d) x) W) : Oper.wp Try.prog ⟨some d, .load 3 (.tmp s), ty, pos, aft, none⟩ a W K Q := by
  have e : a.eval (.tmp s) = .pointer (some ⟨B, 0, none⟩) := by rw [eval_tmp]; exact hs
  clear hs
  unfold Oper.wp
  simp only [execOp, e]
  go_simp
  exact hK
theorem step_build37 {t l c : Nat} {h : Int} {p : Option Addr} (hs : a.tmps[s]?.getD undef = .int .i64 h) (ht : a.tmps[t]?.getD undef = .slice p l c) (hK : K (a.put (some d) (.agg #[.int .i64 h, .slice p l c])) W) : Oper.wp Try.prog ⟨some d, .build 37 #[(0, .tmp s), (1, .tmp t)], ty, pos, aft, none⟩ a W K Q := by
  have HK := Lib.hid hK
  clear hK
  unfold Oper.wp
  simp only [execOp]
  go_simp
  exact HK.out
end
theorem step_call96 {Q : Exit → Act → World → Prop} {K : Act → World → Prop} {a : Act} {W : World} (d s : Nat) (tys : Array TypeId) (ty : TypeId) (pos : String) (aft : Array Edge) {x : Value} {R : Ending → World → Prop}
    (hs : a.tmps[s]?.getD undef = x) (hc : Calls Try.prog 96 #[x] W R) (hK : ∀ e w', R e w' → ∃ v, e = .returned v ∧ K (a.put (some d) v) w') :
    Oper.wp Try.prog ⟨some d, .call { callee := .value (.func 96), args := #[.tmp s], argTypes := tys }, ty, pos, aft, none⟩ a W K Q := by
  have e : a.eval (.tmp s) = x := by rw [eval_tmp]; exact hs
  unfold Oper.wp
  simp only [execOp]
  have HS := Lib.hid hs
  have HK := Lib.hid hK
  have HC := Lib.hid hc
  clear hs e hK hc
  go_simp
  rw [HS.out]
  refine HC.out.mono fun en w' hr => ?_
  obtain ⟨v, rfl, hk⟩ := HK.out _ _ hr
  exact hk
theorem step_call100 {Q : Exit → Act → World → Prop} {K : Act → World → Prop} {a : Act} {W : World} (d s : Nat) (tys : Array TypeId) (ty : TypeId) (pos : String) (aft : Array Edge) {x : Value} {R : Ending → World → Prop}
    (hs : a.tmps[s]?.getD undef = x) (hc : Calls Try.prog 100 #[x] W R) (hK : ∀ e w', R e w' → ∃ v, e = .returned v ∧ K (a.put (some d) v) w') :
    Oper.wp Try.prog ⟨some d, .call { callee := .value (.func 100), args := #[.tmp s], argTypes := tys }, ty, pos, aft, none⟩ a W K Q := by
  have e : a.eval (.tmp s) = x := by rw [eval_tmp]; exact hs
  unfold Oper.wp
  simp only [execOp]
  have HS := Lib.hid hs
  have HK := Lib.hid hK
  have HC := Lib.hid hc
  clear hs e hK hc
  go_simp
  rw [HS.out]
  refine HC.out.mono fun en w' hr => ?_
  obtain ⟨v, rfl, hk⟩ := HK.out _ _ hr
  exact hk
theorem step_call108 {Q : Exit → Act → World → Prop} {K : Act → World → Prop} {a : Act} {W : World} (d s : Nat) (tys : Array TypeId) (ty : TypeId) (pos : String) (aft : Array Edge) {x : Value} {R : Ending → World → Prop}
    (hs : a.tmps[s]?.getD undef = x) (hc : Calls Try.prog 108 #[x] W R) (hK : ∀ e w', R e w' → ∃ v, e = .returned v ∧ K (a.put (some d) v) w') :
    Oper.wp Try.prog ⟨some d, .call { callee := .value (.func 108), args := #[.tmp s], argTypes := tys }, ty, pos, aft, none⟩ a W K Q := by
  have e : a.eval (.tmp s) = x := by rw [eval_tmp]; exact hs
  unfold Oper.wp
  simp only [execOp]
  have HS := Lib.hid hs
  have HK := Lib.hid hK
  have HC := Lib.hid hc
  clear hs e hK hc
  go_simp
  rw [HS.out]
  refine HC.out.mono fun en w' hr => ?_
  obtain ⟨v, rfl, hk⟩ := HK.out _ _ hr
  exact hk
theorem step_call38 {Q : Exit → Act → World → Prop} {K : Act → World → Prop} {a : Act} {W : World} (d s t : Nat) (tys : Array TypeId) (ty : TypeId) (pos : String) (aft : Array Edge) {x y : Value} {R : Ending → World → Prop}
    (hs : a.tmps[s]?.getD undef = x) (ht : a.tmps[t]?.getD undef = y) (hc : Calls Try.prog 38 #[x, y] W R) (hK : ∀ e w', R e w' → ∃ v, e = .returned v ∧ K (a.put (some d) v) w') :
    Oper.wp Try.prog ⟨some d, .call { callee := .value (.func 38), args := #[.tmp s, .tmp t], argTypes := tys }, ty, pos, aft, none⟩ a W K Q := by
  unfold Oper.wp
  simp only [execOp]
  have HS := Lib.hid hs
  have HT := Lib.hid ht
  have HK := Lib.hid hK
  have HC := Lib.hid hc
  clear hs ht hK hc
  go_simp
  rw [HS.out, HT.out]
  refine HC.out.mono fun en w' hr => ?_
  obtain ⟨v, rfl, hk⟩ := HK.out _ _ hr
  exact hk
theorem step_call84 {Q : Exit → Act → World → Prop} {K : Act → World → Prop} {a : Act} {W : World} (d s t : Nat) (tys : Array TypeId) (ty : TypeId) (pos : String) (aft : Array Edge) {x y : Value} {R : Ending → World → Prop}
    (hs : a.tmps[s]?.getD undef = x) (ht : a.tmps[t]?.getD undef = y) (hc : Calls Try.prog 84 #[x, .int .i64 0, y] W R) (hK : ∀ e w', R e w' → ∃ v, e = .returned v ∧ K (a.put (some d) v) w') :
    Oper.wp Try.prog ⟨some d, .call { callee := .value (.func 84), args := #[.tmp s, .const (.int .i64 0), .tmp t], argTypes := tys }, ty, pos, aft, none⟩ a W K Q := by
  unfold Oper.wp
  simp only [execOp]
  have HS := Lib.hid hs
  have HT := Lib.hid ht
  have HK := Lib.hid hK
  have HC := Lib.hid hc
  clear hs ht hK hc
  go_simp
  rw [HS.out, HT.out]
  refine HC.out.mono fun en w' hr => ?_
  obtain ⟨v, rfl, hk⟩ := HK.out _ _ hr
  exact hk
theorem step_call101 {Q : Exit → Act → World → Prop} {K : Act → World → Prop} {a : Act} {W : World} (d s : Nat) (tys : Array TypeId) (ty : TypeId) (pos : String) (aft : Array Edge) {x : Value} {R : Ending → World → Prop}
    (hs : a.tmps[s]?.getD undef = x) (hc : Calls Try.prog 101 #[x, .int .i64 1] W R) (hK : ∀ e w', R e w' → ∃ v, e = .returned v ∧ K (a.put (some d) v) w') :
    Oper.wp Try.prog ⟨some d, .call { callee := .value (.func 101), args := #[.tmp s, .const (.int .i64 1)], argTypes := tys }, ty, pos, aft, none⟩ a W K Q := by
  unfold Oper.wp
  simp only [execOp]
  have HS := Lib.hid hs
  have HK := Lib.hid hK
  have HC := Lib.hid hc
  clear hs hK hc
  go_simp
  rw [HS.out]
  refine HC.out.mono fun en w' hr => ?_
  obtain ⟨v, rfl, hk⟩ := HK.out _ _ hr
  exact hk
end Go.Proofs.Ytdmgffoikebgkaa
