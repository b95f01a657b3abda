/- A region that asks for three first errors and lays them into an array. -/
import Derived.Test.YtjobbleabepaiaaYC
namespace Go.Proofs.Ytjobbleabepaiaa
open Go.RowKit

def errs (e0 e1 e2 : Int) : Obj := .cells #[.int .i64 e0, .int .i64 e1, .int .i64 e2] 64
section
variable {Q : Exit → Act → World → Prop} {K : Act → World → Prop} {a : Act} {W : World} (d s t u : Nat) (ty : TypeId) (pos : String) (aft : Array Edge)
theorem step_alloc64 (hK : K (a.put (some d) (.pointer (some ⟨W.heap.size, 0, none⟩))) (W.alloc (errs 0 0 0))) :
    Oper.wp Try.prog ⟨some d, .alloc 64, ty, pos, aft, none⟩ a W K Q := by
  unfold Oper.wp
  unfold errs at hK
  simp only [execOp]
  go_simp
  exact hK
theorem step_build64 {e0 e1 e2 : Int} (hs : a.tmps[s]?.getD undef = .int .i64 e0) (ht : a.tmps[t]?.getD undef = .int .i64 e1) (hu : a.tmps[u]?.getD undef = .int .i64 e2)
    (hK : K (a.put (some d) (.agg #[.int .i64 e0, .int .i64 e1, .int .i64 e2])) W) :
    Oper.wp Try.prog ⟨some d, .build 64 #[(0, .tmp s), (1, .tmp t), (2, .tmp u)], ty, pos, aft, none⟩ a W K Q := by
  unfold Oper.wp
  simp only [execOp]
  go_simp
  exact hK
theorem step_store64 {B : Nat} {e0 e1 e2 : Int} (hs : a.tmps[s]?.getD undef = .pointer (some ⟨B, 0, none⟩)) (ht : a.tmps[t]?.getD undef = .agg #[.int .i64 e0, .int .i64 e1, .int .i64 e2]) (hb : W.heap[B]? = some (errs 0 0 0))
    (hK : K a (((W.setCell ⟨B, 0, none⟩ (.int .i64 e0)).setCell ⟨B, 1, none⟩ (.int .i64 e1)).setCell ⟨B, 2, none⟩ (.int .i64 e2))) :
    Oper.wp Try.prog ⟨none, .store 64 (.tmp s) (.tmp t), ty, pos, aft, none⟩ a W K Q := by
  unfold errs at hb
  have e : a.eval (.tmp s) = .pointer (some ⟨B, 0, none⟩) := by rw [eval_tmp]; exact hs
  have e2 : a.eval (.tmp t) = .agg #[.int .i64 e0, .int .i64 e1, .int .i64 e2] := by rw [eval_tmp]; exact ht
  have f0 : W.frozen? ⟨B, 0, none⟩ = false := by simp [World.frozen?, hb]
  have f1 : W.frozen? ⟨B, 1, none⟩ = false := by simp [World.frozen?, hb]
  have f2 : W.frozen? ⟨B, 2, none⟩ = false := by simp [World.frozen?, hb]
  have c0 : W.cell? ⟨B, 0, none⟩ = some (.int .i64 0) := by simp [World.cell?, hb]
  have c1 : W.cell? ⟨B, 1, none⟩ = some (.int .i64 0) := by simp [World.cell?, hb]
  have c2 : W.cell? ⟨B, 2, none⟩ = some (.int .i64 0) := by simp [World.cell?, hb]
  have hlt : B < W.heap.size := (Array.getElem?_eq_some_iff.1 hb).1
  unfold Oper.wp
  simp only [execOp, e, e2]
  clear hb e e2 hs ht
  go_simp
  exact hK
end
/-- one operation -/
inductive Sr where
  | ld (s B : Nat) (x : Dsg)
  | bs1 (i : Nat) (x : Dsg)
  | bs2 (i j : Nat) (x y : Dsg)
  | fst (j : Nat) (ds : List Dsg)
  | arr (i j k : Nat) (e0 e1 e2 : Int)
  | al
  | st (j : Nat)
def Sr.f : Sr → Value → World → Prop
  | .ld _ _ x, v, W => v = dgV x ∧ Reads W (.slice x.p x.xs.length x.cap) x.xs
  | .bs1 _ x, v, W => RowF [x] v W
  | .bs2 _ _ x y, v, W => RowF [x, y] v W
  | .fst _ ds, v, _ => v = .int .i64 (firstE ds)
  | .arr _ _ _ e0 e1 e2, v, _ => v = .agg #[.int .i64 e0, .int .i64 e1, .int .i64 e2]
  | .al, _, _ => True
  | .st _, _, _ => True
def Sr.op (d : Nat → Nat) (iA : Nat) : Sr → Op
  | .ld s _ _ => .load 24 (.tmp s)
  | .bs1 i _ => .buildSlice 97 1 #[(0, .tmp (d i))]
  | .bs2 i j _ _ => .buildSlice 97 2 #[(0, .tmp (d i)), (1, .tmp (d j))]
  | .fst j _ => .call { callee := .value (.func 47), args := #[.tmp (d j)], argTypes := #[97] }
  | .arr i j k _ _ _ => .build 64 #[(0, .tmp (d i)), (1, .tmp (d j)), (2, .tmp (d k))]
  | .al => .alloc 64
  | .st j => .store 64 (.tmp (d iA)) (.tmp (d j))
def Sr.srcs : Sr → List Nat
  | .bs1 i _ => [i]
  | .bs2 i j _ _ => [i, j]
  | .fst j _ => [j]
  | .arr i j k _ _ _ => [i, j, k]
  | _ => []
def Sr.isLd (sp : Nat → Sr) (i : Nat) (x : Dsg) : Prop := ∃ s B, sp i = .ld s B x
def Sr.isF (sp : Nat → Sr) (i : Nat) (e : Int) : Prop := ∃ k ds, sp i = .fst k ds ∧ firstE ds = e
def Sr.fits (sp : Nat → Sr) : Sr → Prop
  | .bs1 i x => Sr.isLd sp i x
  | .bs2 i j x y => Sr.isLd sp i x ∧ Sr.isLd sp j y
  | .fst j ds => (∃ i x, sp j = .bs1 i x ∧ ds = [x]) ∨ (∃ i i2 x y, sp j = .bs2 i i2 x y ∧ ds = [x, y])
  | .arr i j k e0 e1 e2 => Sr.isF sp i e0 ∧ Sr.isF sp j e1 ∧ Sr.isF sp k e2
  | _ => True
theorem Sr.mono (s : Sr) (x : Value) (W W' : World) (h : s.f x W) (hb : Below W.heap.size W W') : s.f x W' := by
  cases s <;> simp only [Sr.f] at h ⊢
  · exact ⟨h.1, h.2.below hb⟩
  · obtain ⟨b, e, hd⟩ := h; exact ⟨b, e, hd.below hb⟩
  · obtain ⟨b, e, hd⟩ := h; exact ⟨b, e, hd.below hb⟩
  · exact h
  · exact h
set_option maxHeartbeats 1000000 in
theorem region_errs {id : Nat} {ops : Array Oper} {Q : Exit → Act → World → Prop} {a : Act} {w : World} (sp : Nat → Sr) (n iA iS eS : Nat) (e0 e1 e2 : Int) (k0 k1 k2 : Nat) (d : Nat → Nat) (ds : List Nat) (outs : List (Nat × Value))
    (hn : ops.size = n) (hA : iA < iS) (heS : eS < iS) (heA : eS ≠ iA) (hiS : iS + 1 = n)
    (hops : ∀ i, i < n → ∃ ty pos aft, ops[i]? = some ⟨if i = iS then none else some (d i), (sp i).op d iA, ty, pos, aft, none⟩ ∧ ∀ j ∈ (sp i).srcs, depB ⟨if i = iS then none else some (d i), (sp i).op d iA, ty, pos, aft, none⟩ j = true)
    (hsA : sp iA = .al) (hsS : sp iS = .st eS) (hsE : sp eS = .arr k0 k1 k2 e0 e1 e2)
    (honly : ∀ i, i < n → (sp i = .al → i = iA) ∧ (∀ j, sp i = .st j → i = iS))
    (hfits : ∀ i, i < n → (sp i).fits sp)
    (hdi : ∀ i, i < n → ∀ j, j < n → i ≠ iS → j ≠ iS → d i = d j → i = j) (hds : ∀ i, i < n → i ≠ iS → d i ∈ ds)
    (hall : allB ops iS (fun _ => true) = true) (hb : backB ops = true) (hnd : ds.Nodup) (hsz : ∀ e ∈ ds, e < a.tmps.size) (hout : ∀ q ∈ outs, a.eval (.tmp q.1) = q.2 ∧ q.1 ∉ ds)
    (hbox : ∀ i, i < n → ∀ s B x, sp i = .ld s B x → (s, Value.pointer (some ⟨B, 0, none⟩)) ∈ outs ∧ ArgBox w B x.hooks x.p x.xs.length x.cap ∧ Reads w (.slice x.p x.xs.length x.cap) x.xs)
    (hend : ∀ v W, (∃ D, v (d iA) = .pointer (some ⟨D, 0, none⟩) ∧ w.heap.size ≤ D ∧ W.heap[D]? = some (errs e0 e1 e2)) → Below w.heap.size w W → Q .normal (laid a ds v) W) :
    (Code.region id ops true).wp Try.prog Q a w := by
  subst hn
  have hiS2 : iS < ops.size := by omega
  refine region_flowG d (fun i => (sp i).f) (fun _ _ => True) 64 (errs 0 0 0) (fun D W => W.heap[D]? = some (errs e0 e1 e2)) iA iS eS (fun _ => true) (fun _ => false) (fun _ => 0) ds outs rfl hA heS heA rfl rfl hiS2 ?_ ?_ ?_ ?_ ?_ hdi hds hall hb hnd hsz hout ?_ (fun i => (sp i).mono) (fun _ _ _ _ => trivial) ?_ ?_ ?_
  · obtain ⟨ty, pos, aft, e, _⟩ := hops iA (by omega)
    rw [if_neg (by omega), hsA] at e
    exact ⟨ty, pos, aft, e⟩
  · obtain ⟨ty, pos, aft, e, _⟩ := hops iS hiS2
    rw [if_pos rfl, hsS] at e
    exact ⟨ty, pos, aft, e⟩
  · exact fun a W K d ty pos aft => @step_alloc64 Q K a W d ty pos aft
  · intro a W K D x ty pos aft g1 g2 hf hk hD hK
    rw [hsE] at hf
    obtain rfl : x = _ := hf
    refine step_store64 _ _ _ _ _ g1 g2 hD (hK _ (fun n hn => (((Below.refl _ _).setCell hn _).setCell hn _).setCell hn _) ?_)
    unfold errs at hD ⊢
    simp [World.setCell, Array.getElem?_modify, hD]
  · intro i o ho hi
    obtain ⟨ty, pos, aft, e, _⟩ := hops i (Array.getElem?_eq_some_iff.1 ho).1
    rw [if_neg hi] at e
    rw [e] at ho
    obtain rfl := Option.some.inj ho
    exact ⟨rfl, rfl⟩
  · intro i o ho hi
    have hin := (Array.getElem?_eq_some_iff.1 ho).1
    omega
  · intro i o ho hi hiA
    have hin := (Array.getElem?_eq_some_iff.1 ho).1
    obtain ⟨ty, pos, aft, e, hdep⟩ := hops i hin
    have hfit := hfits i hin
    rw [if_neg (by omega)] at e hdep
    have hnA : ∀ j, sp j ≠ .al → j ≠ iA := fun j h e => h (e ▸ hsA)
    cases hs : sp i with
    | ld s B x =>
      rw [hs] at e
      rw [e] at ho
      obtain rfl := Option.some.inj ho
      unfold FlowStep
      intro a' v W K hB hq hd hK
      obtain ⟨hin2, ha, hr⟩ := hbox i hin s B x hs
      have hb2 := ha.below hB
      exact step_load24 _ _ _ _ _ (hq _ hin2) hb2.c0 hb2.c1 (hK _ _ (Below.refl _ _) (by simp only [hs]; exact ⟨rfl, hr.below hB⟩) (fun h => by cases h))
    | bs1 i1 x =>
      rw [hs] at e hdep hfit
      rw [e] at ho
      obtain rfl := Option.some.inj ho
      unfold FlowStep
      intro a' v W K hB hq hd hK
      generalize hG : Oper.wp _ _ _ _ _ _ = G
      obtain ⟨s1, B1, h1⟩ := hfit
      obtain ⟨f1, e1, _⟩ := hd i1 (hnA _ (by rw [h1]; exact Sr.noConfusion)) (hdep i1 (by simp [Sr.srcs]))
      simp only [h1] at f1
      rw [f1.1] at e1
      have hk : K (a'.put (some (d i)) _) _ := hK (.slice (some ⟨W.heap.size, 0, none⟩) 1 1) _ (below1 _ _) (by simp only [hs]; exact ⟨_, rfl, DsAt_one W x f1.2⟩) (fun h => by cases h)
      rw [← hG]
      unfold dgV at e1
      revert e1 hk
      exact @step_slice1 Q K a' W (d i) (d i1) ty pos aft _ _ _ _
    | bs2 i1 i2 x y =>
      rw [hs] at e hdep hfit
      rw [e] at ho
      obtain rfl := Option.some.inj ho
      unfold FlowStep
      intro a' v W K hB hq hd hK
      generalize hG : Oper.wp _ _ _ _ _ _ = G
      obtain ⟨⟨s1, B1, h1⟩, s2, B2, h2⟩ := hfit
      obtain ⟨f1, e1, _⟩ := hd i1 (hnA _ (by rw [h1]; exact Sr.noConfusion)) (hdep i1 (by simp [Sr.srcs]))
      obtain ⟨f2, e2, _⟩ := hd i2 (hnA _ (by rw [h2]; exact Sr.noConfusion)) (hdep i2 (by simp [Sr.srcs]))
      simp only [h1] at f1
      simp only [h2] at f2
      rw [f1.1] at e1
      rw [f2.1] at e2
      have hk : K (a'.put (some (d i)) _) _ := hK (.slice (some ⟨W.heap.size, 0, none⟩) 2 2) _ (below1 _ _) (by simp only [hs]; exact ⟨_, rfl, DsAt_two W x y f1.2 f2.2⟩) (fun h => by cases h)
      rw [← hG]
      unfold dgV at e1 e2
      have e1' := e1
      have e2' := e2
      clear e1 e2
      revert hk
      revert e1' e2'
      exact @step_slice2 Q K a' W (d i) (d i1) (d i2) ty pos aft _ _ _ _ _ _ _ _
    | fst j dl =>
      rw [hs] at e hdep hfit
      rw [e] at ho
      obtain rfl := Option.some.inj ho
      unfold FlowStep
      intro a' v W K hB hq hd hK
      generalize hG : Oper.wp _ _ _ _ _ _ = G
      have hjn : sp j ≠ .al ∧ ∀ v W, (sp j).f v W → RowF dl v W := by
        rcases hfit with ⟨i1, x, h, rfl⟩ | ⟨i1, i2, x, y, h, rfl⟩
        · exact ⟨by rw [h]; exact Sr.noConfusion, fun v W hf => by rw [h] at hf; exact hf⟩
        · exact ⟨by rw [h]; exact Sr.noConfusion, fun v W hf => by rw [h] at hf; exact hf⟩
      have hlen : dl.length ≤ 100 := by
        rcases hfit with ⟨_, _, _, rfl⟩ | ⟨_, _, _, _, _, rfl⟩ <;> simp
      obtain ⟨f1, e1, _⟩ := hd j (hnA _ hjn.1) (hdep j (by simp [Sr.srcs]))
      obtain ⟨b, g, hds⟩ := hjn.2 _ _ f1
      have e1' := e1.trans g
      clear e1
      have hc := first_any b dl.length dl W hlen hds
      have hK2 : ∀ (e : Ending) (w' : World), (e = .returned (.int .i64 (firstE dl)) ∧ Below W.heap.size W w') → ∃ v, e = .returned v ∧ K (a'.put (some (d i)) v) w' := by
        rintro e w' ⟨rfl, hB'⟩
        exact ⟨_, rfl, hK _ _ hB' (by simp only [hs]; rfl) (fun h => by cases h)⟩
      rw [← hG]
      show Oper.wp Try.prog ⟨some (d i), .call { callee := .value (.func 47), args := #[.tmp (d j)], argTypes := #[97] }, ty, pos, aft, none⟩ a' W K Q
      revert hc hK2
      revert e1'
      exact @step_call47 Q K a' W (d i) (d j) #[97] ty pos aft _ _
    | arr i1 i2 i3 x0 x1 x2 =>
      rw [hs] at e hdep hfit
      rw [e] at ho
      obtain rfl := Option.some.inj ho
      unfold FlowStep
      intro a' v W K hB hq hd hK
      generalize hG : Oper.wp _ _ _ _ _ _ = G
      obtain ⟨⟨q1, l1, h1, z1⟩, ⟨q2, l2, h2, z2⟩, q3, l3, h3, z3⟩ := hfit
      obtain ⟨f1, y1, _⟩ := hd i1 (hnA _ (by rw [h1]; exact Sr.noConfusion)) (hdep i1 (by simp [Sr.srcs]))
      obtain ⟨f2, y2, _⟩ := hd i2 (hnA _ (by rw [h2]; exact Sr.noConfusion)) (hdep i2 (by simp [Sr.srcs]))
      obtain ⟨f3, y3, _⟩ := hd i3 (hnA _ (by rw [h3]; exact Sr.noConfusion)) (hdep i3 (by simp [Sr.srcs]))
      simp only [h1] at f1
      simp only [h2] at f2
      simp only [h3] at f3
      have y1' := y1.trans (f1.trans (by rw [z1]))
      have y2' := y2.trans (f2.trans (by rw [z2]))
      have y3' := y3.trans (f3.trans (by rw [z3]))
      clear y1 y2 y3
      have hk : K (a'.put (some (d i)) _) _ := hK (.agg #[.int .i64 x0, .int .i64 x1, .int .i64 x2]) _ (Below.refl _ _) (by simp only [hs]; rfl) (fun h => by cases h)
      rw [← hG]
      revert hk
      revert y1' y2' y3'
      exact @step_build64 Q K a' W (d i) (d i1) (d i2) (d i3) ty pos aft _ _ _
    | al => exact absurd ((honly i hin).1 hs) hiA
    | st j => exact absurd ((honly i hin).2 j hs) (by omega)
  · intro i o ho hi hw
    have hin := (Array.getElem?_eq_some_iff.1 ho).1
    rcases hw with h | h
    · omega
    · cases h
  · rintro v W ⟨D, e1, hlo, e3⟩ hp hB
    exact hend v W ⟨D, e1, hlo, e3⟩ hB
/-- the region of PointJoins -/
def sr14 (s0 B0 s1 B1 : Nat) (x y : Dsg) (e0 e2 : Int) : Nat → Sr
  | 0 => .ld s0 B0 x
  | 1 => .ld s1 B1 y
  | 2 => .bs2 0 1 x y
  | 3 => .fst 2 [x, y]
  | 4 => .ld s0 B0 x
  | 5 => .ld s1 B1 y
  | 6 => .bs2 4 5 x y
  | 7 => .fst 6 [x, y]
  | 8 => .ld s0 B0 x
  | 9 => .bs1 8 x
  | 10 => .fst 9 [x]
  | 11 => .arr 3 7 10 e0 e0 e2
  | 12 => .al
  | _ => .st 11
set_option maxHeartbeats 1000000 in
theorem region_errs14 {id : Nat} {ops : Array Oper} {Q : Exit → Act → World → Prop} {a : Act} {w : World} (s0 B0 s1 B1 : Nat) (x y : Dsg) (e0 e2 : Int) (dl ds : List Nat)
    (hn : ops.size = 14)
    (hops : ∀ i, i < 14 → IsOps ops i (if i = 13 then none else some (atL dl i)) ((sr14 s0 B0 s1 B1 x y e0 e2 i).op (atL dl) 12) (sr14 s0 B0 s1 B1 x y e0 e2 i).srcs)
    (hdi : ∀ i, i < 14 → ∀ j, j < 14 → i ≠ 13 → j ≠ 13 → atL dl i = atL dl j → i = j) (hds : ∀ i, i < 14 → i ≠ 13 → atL dl i ∈ ds)
    (hchk : (allB ops 13 (fun _ => true) && backB ops) = true) (hnd : ds.Nodup) (hsz : ∀ e ∈ ds, e < a.tmps.size)
    (hout : (a.eval (.tmp s0) = .pointer (some ⟨B0, 0, none⟩) ∧ a.eval (.tmp s1) = .pointer (some ⟨B1, 0, none⟩)) ∧ s0 ∉ ds ∧ s1 ∉ ds)
    (h0 : ArgBox w B0 x.hooks x.p x.xs.length x.cap ∧ Reads w (.slice x.p x.xs.length x.cap) x.xs)
    (h1 : ArgBox w B1 y.hooks y.p y.xs.length y.cap ∧ Reads w (.slice y.p y.xs.length y.cap) y.xs)
    (he0 : firstE [x, y] = e0) (he2 : firstE [x] = e2)
    (hend : ∀ v W, (∃ D, v (atL dl 12) = .pointer (some ⟨D, 0, none⟩) ∧ w.heap.size ≤ D ∧ W.heap[D]? = some (errs e0 e0 e2)) → Below w.heap.size w W → Q .normal (laid a ds v) W) :
    (Code.region id ops true).wp Try.prog Q a w := by
  simp only [Bool.and_eq_true] at hchk
  have key : ∀ (P : Nat → Prop), P 0 → P 1 → P 2 → P 3 → P 4 → P 5 → P 6 → P 7 → P 8 → P 9 → P 10 → P 11 → P 12 → P 13 → ∀ i, i < 14 → P i := by
    intro P h0 h1 h2 h3 h4 h5 h6 h7 h8 h9 h10 h11 h12 h13 i hi
    match i, hi with
    | 0, _ => exact h0
    | 1, _ => exact h1
    | 2, _ => exact h2
    | 3, _ => exact h3
    | 4, _ => exact h4
    | 5, _ => exact h5
    | 6, _ => exact h6
    | 7, _ => exact h7
    | 8, _ => exact h8
    | 9, _ => exact h9
    | 10, _ => exact h10
    | 11, _ => exact h11
    | 12, _ => exact h12
    | 13, _ => exact h13
    | n + 14, h => omega
  refine region_errs (sr14 s0 B0 s1 B1 x y e0 e2) 14 12 13 11 e0 e0 e2 3 7 10 (atL dl) ds [(s0, .pointer (some ⟨B0, 0, none⟩)), (s1, .pointer (some ⟨B1, 0, none⟩))] hn (by decide) (by decide) (by decide) rfl hops rfl rfl rfl ?_ ?_ hdi hds hchk.1 hchk.2 hnd hsz ?_ ?_ hend
  · refine key _ ?_ ?_ ?_ ?_ ?_ ?_ ?_ ?_ ?_ ?_ ?_ ?_ ?_ ?_ <;> first | (refine ⟨fun h => ?_, fun j h => ?_⟩ <;> (cases h; done)) | (refine ⟨fun _ => rfl, fun j h => ?_⟩; cases h; done) | (refine ⟨fun h => ?_, fun _ _ => rfl⟩; cases h; done)
  · exact key _ trivial trivial ⟨⟨_, _, rfl⟩, _, _, rfl⟩ (.inr ⟨_, _, _, _, rfl, rfl⟩) trivial trivial ⟨⟨_, _, rfl⟩, _, _, rfl⟩ (.inr ⟨_, _, _, _, rfl, rfl⟩) trivial ⟨_, _, rfl⟩ (.inl ⟨_, _, rfl, rfl⟩) ⟨⟨_, _, rfl, he0⟩, ⟨_, _, rfl, he0⟩, _, _, rfl, he2⟩ trivial trivial
  · intro q hq
    simp at hq
    rcases hq with rfl | rfl
    · exact ⟨hout.1.1, hout.2.1⟩
    · exact ⟨hout.1.2, hout.2.2⟩
  · have hb : ∀ i, i < 14 → ∀ s B x', sr14 s0 B0 s1 B1 x y e0 e2 i = .ld s B x' → (s = s0 ∧ B = B0 ∧ x' = x) ∨ (s = s1 ∧ B = B1 ∧ x' = y) := by
      refine key _ ?_ ?_ ?_ ?_ ?_ ?_ ?_ ?_ ?_ ?_ ?_ ?_ ?_ ?_ <;> first | (intro s B x h; cases h; done) | (intro s B x h; cases h; simp)
    intro i hi s B x' h
    rcases hb i hi s B x' h with ⟨rfl, rfl, rfl⟩ | ⟨rfl, rfl, rfl⟩
    · exact ⟨by simp, h0⟩
    · exact ⟨by simp, h1⟩
end Go.Proofs.Ytjobbleabepaiaa
