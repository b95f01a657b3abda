/- Regions that ask for the first error of designs in boxes. -/
import Derived.Test.YtjobbleabepaiaaRC
namespace Go.Proofs.Ytjobbleabepaiaa
open Go.RowKit

def dgV (d : Dsg) : Value := .agg #[.int .i64 d.hooks, .slice d.p d.xs.length d.cap]
section
variable {Q : Exit → Act → World → Prop} {K : Act → World → Prop} {a : Act} {W : World} (d s t u : Nat) (ty : TypeId) (pos : String) (aft : Array Edge)
theorem step_slice1 {h1 : Int} {l1 c1 : Nat} {p1 : Option Addr} (hs : a.tmps[s]?.getD undef = .agg #[.int .i64 h1, .slice p1 l1 c1])
    (hK : K (a.put (some d) (.slice (some ⟨W.heap.size, 0, none⟩) 1 1)) (W.alloc (.cells #[.int .i64 h1, .slice p1 l1 c1] 24))) :
    Oper.wp Try.prog ⟨some d, .buildSlice 97 1 #[(0, .tmp s)], ty, pos, aft, none⟩ a W K Q := by
  unfold Oper.wp
  simp only [execOp]
  go_simp
  exact hK
theorem step_slice2 {h1 h2 : Int} {l1 c1 l2 c2 : Nat} {p1 p2 : Option Addr} (hs : a.tmps[s]?.getD undef = .agg #[.int .i64 h1, .slice p1 l1 c1]) (ht : a.tmps[t]?.getD undef = .agg #[.int .i64 h2, .slice p2 l2 c2])
    (hK : K (a.put (some d) (.slice (some ⟨W.heap.size, 0, none⟩) 2 2)) (W.alloc (.cells #[.int .i64 h1, .slice p1 l1 c1, .int .i64 h2, .slice p2 l2 c2] 24))) :
    Oper.wp Try.prog ⟨some d, .buildSlice 97 2 #[(0, .tmp s), (1, .tmp t)], ty, pos, aft, none⟩ a W K Q := by
  unfold Oper.wp
  simp only [execOp]
  go_simp
  exact hK
theorem step_slice3 {h1 h2 h3 : Int} {l1 c1 l2 c2 l3 c3 : Nat} {p1 p2 p3 : Option Addr} (hs : a.tmps[s]?.getD undef = .agg #[.int .i64 h1, .slice p1 l1 c1]) (ht : a.tmps[t]?.getD undef = .agg #[.int .i64 h2, .slice p2 l2 c2]) (hu : a.tmps[u]?.getD undef = .agg #[.int .i64 h3, .slice p3 l3 c3])
    (hK : K (a.put (some d) (.slice (some ⟨W.heap.size, 0, none⟩) 3 3)) (W.alloc (.cells #[.int .i64 h1, .slice p1 l1 c1, .int .i64 h2, .slice p2 l2 c2, .int .i64 h3, .slice p3 l3 c3] 24))) :
    Oper.wp Try.prog ⟨some d, .buildSlice 97 3 #[(0, .tmp s), (1, .tmp t), (2, .tmp u)], ty, pos, aft, none⟩ a W K Q := by
  unfold Oper.wp
  simp only [execOp]
  go_simp
  exact hK
theorem step_zero24 (hK : K (a.put (some d) (.agg #[.int .i64 0, .slice none 0 0])) W) : Oper.wp Try.prog ⟨some d, .build 24 #[], ty, pos, aft, none⟩ a W K Q := by
  unfold Oper.wp
  simp only [execOp]
  go_simp
  exact hK
end
theorem step_call47 {Q : Exit → Act → World → Prop} {K : Act → World → Prop} {a : Act} {W : World} (d s : Nat) (tys : Array TypeId) (ty : TypeId) (pos : String) (aft : Array Edge) {x : Value} {R : Ending → World → Prop}
    (hs : a.tmps[s]?.getD undef = x) (hc : Calls Try.prog 47 #[x] W R) (hK : ∀ e w', R e w' → ∃ v, e = .returned v ∧ K (a.put (some d) v) w') :
    Oper.wp Try.prog ⟨some d, .call { callee := .value (.func 47), args := #[.tmp s], argTypes := tys }, ty, pos, aft, none⟩ a W K Q := by
  unfold Oper.wp
  simp only [execOp]
  have HS := Lib.hid hs
  have HK := Lib.hid hK
  have HC := Lib.hid hc
  clear hs hK hc
  go_simp
  rw [HS.out]
  refine HC.out.mono fun en w' hr => ?_
  obtain ⟨v, rfl, hk⟩ := HK.out _ _ hr
  exact hk

/-- one operation -/
inductive Sq where
  | ld (s B : Nat) (x : Dsg)
  | bs1 (i : Nat) (x : Dsg)
  | bs2 (i j : Nat) (x y : Dsg)
  | bs3 (i j k : Nat) (x y z : Dsg)
  | fst (j : Nat) (ds : List Dsg)
  | zero
  | al
  | st (j : Nat)
  | asg (j : Nat) (e : Int)
def RowF (ds : List Dsg) (v : Value) (W : World) : Prop := ∃ b, v = .slice (some ⟨b, 0, none⟩) ds.length ds.length ∧ DsAt W b ds
def Sq.f : Sq → Value → World → Prop
  | .ld _ _ x, v, W => v = dgV x ∧ Reads W (.slice x.p x.xs.length x.cap) x.xs
  | .bs1 _ x, v, W => RowF [x] v W
  | .bs2 _ _ x y, v, W => RowF [x, y] v W
  | .bs3 _ _ _ x y z, v, W => RowF [x, y, z] v W
  | .fst _ ds, v, _ => v = .int .i64 (firstE ds)
  | .zero, v, _ => v = .agg #[.int .i64 0, .slice none 0 0]
  | .asg _ e, v, _ => v = .int .i64 e
  | .al, _, _ => True
  | .st _, _, _ => True
def Sq.pf : Sq → Value → Prop
  | .fst _ ds, v => v = .int .i64 (firstE ds)
  | .asg _ e, v => v = .int .i64 e
  | _, _ => True
def Sq.op (d : Nat → Nat) (iA : Nat) : Sq → Op
  | .ld s _ _ => .load 24 (.tmp s)
  | .bs1 i _ => .buildSlice 97 1 #[(0, .tmp (d i))]
  | .bs2 i j _ _ => .buildSlice 97 2 #[(0, .tmp (d i)), (1, .tmp (d j))]
  | .bs3 i j k _ _ _ => .buildSlice 97 3 #[(0, .tmp (d i)), (1, .tmp (d j)), (2, .tmp (d k))]
  | .fst j _ => .call { callee := .value (.func 47), args := #[.tmp (d j)], argTypes := #[97] }
  | .zero => .build 24 #[]
  | .al => .alloc 24
  | .st j => .store 24 (.tmp (d iA)) (.tmp (d j))
  | .asg j _ => .assign (.tmp (d j))
def Sq.srcs : Sq → List Nat
  | .bs1 i _ => [i]
  | .bs2 i j _ _ => [i, j]
  | .bs3 i j k _ _ _ => [i, j, k]
  | .fst j _ => [j]
  | .asg j _ => [j]
  | _ => []
def Sq.isLd (sp : Nat → Sq) (i : Nat) (x : Dsg) : Prop := ∃ s B, sp i = .ld s B x
def Sq.fits (sp : Nat → Sq) : Sq → Prop
  | .bs1 i x => Sq.isLd sp i x
  | .bs2 i j x y => Sq.isLd sp i x ∧ Sq.isLd sp j y
  | .bs3 i j k x y z => Sq.isLd sp i x ∧ Sq.isLd sp j y ∧ Sq.isLd sp k z
  | .fst j ds => (∃ i x, sp j = .bs1 i x ∧ ds = [x]) ∨ (∃ i i2 x y, sp j = .bs2 i i2 x y ∧ ds = [x, y]) ∨ (∃ i i2 i3 x y z, sp j = .bs3 i i2 i3 x y z ∧ ds = [x, y, z])
  | .asg j e => ∃ k ds, sp j = .fst k ds ∧ firstE ds = e
  | _ => True
theorem Sq.mono (s : Sq) (x : Value) (W W' : World) (h : s.f x W) (hb : Below W.heap.size W W') : s.f x W' := by
  cases s <;> simp only [Sq.f] at h ⊢
  · exact ⟨h.1, h.2.below hb⟩
  · obtain ⟨b, e, hd⟩ := h; exact ⟨b, e, hd.below hb⟩
  · obtain ⟨b, e, hd⟩ := h; exact ⟨b, e, hd.below hb⟩
  · obtain ⟨b, e, hd⟩ := h; exact ⟨b, e, hd.below hb⟩
  · exact h
  · exact h
  · exact h
theorem Sq.pure (s : Sq) (x : Value) (W : World) (h : s.f x W) : s.pf x := by
  cases s <;> simp only [Sq.f, Sq.pf] at h ⊢ <;> exact h
theorem late_step_asg {iA iS : Nat} {Q : Exit → Act → World → Prop} {d : Nat → Nat} {pf : Nat → Value → Prop} {i j : Nat} {ty : TypeId} {pos : String} {aft : Array Edge} (hj : depB ⟨some (d i), .assign (.tmp (d j)), ty, pos, aft, none⟩ j = true) (hjS : j ≠ iS) (hjA : j ≠ iA) (h : ∀ v, pf j v → pf i v) :
    LateStep iA iS Q d pf i ⟨some (d i), .assign (.tmp (d j)), ty, pos, aft, none⟩ := by
  intro a v W K hd hK
  obtain ⟨f1, e1⟩ := hd j hjS hjA hj
  exact step_assign _ _ _ _ _ e1 (hK _ (h _ f1))
set_option maxHeartbeats 1000000 in
theorem region_firsts {id : Nat} {ops : Array Oper} {Q : Exit → Act → World → Prop} {a : Act} {w : World} (sp : Nat → Sq) (n iA iS eS : Nat) (d : Nat → Nat) (ds : List Nat) (outs : List (Nat × Value))
    (hn : ops.size = n) (hA : iA < iS) (heS : eS < iS) (heA : eS ≠ iA) (hiS : iS + 1 = n)
    (hops : ∀ i, i < n → ∃ ty pos aft, ops[i]? = some ⟨if i = iS then none else some (d i), (sp i).op d iA, ty, pos, aft, none⟩ ∧ ∀ j ∈ (sp i).srcs, depB ⟨if i = iS then none else some (d i), (sp i).op d iA, ty, pos, aft, none⟩ j = true)
    (hsA : sp iA = .al) (hsS : sp iS = .st eS) (hsE : sp eS = .zero)
    (honly : ∀ i, i < n → (sp i = .al → i = iA) ∧ (∀ j, sp i = .st j → i = iS))
    (hfits : ∀ i, i < n → (sp i).fits sp)
    (hdi : ∀ i, i < n → ∀ j, j < n → i ≠ iS → j ≠ iS → d i = d j → i = j) (hds : ∀ i, i < n → i ≠ iS → d i ∈ ds)
    (hall : allB ops iS (fun _ => true) = true) (hb : backB ops = true) (hnd : ds.Nodup) (hsz : ∀ e ∈ ds, e < a.tmps.size) (hout : ∀ q ∈ outs, a.eval (.tmp q.1) = q.2 ∧ q.1 ∉ ds)
    (hbox : ∀ i, i < n → ∀ s B x, sp i = .ld s B x → (s, Value.pointer (some ⟨B, 0, none⟩)) ∈ outs ∧ ArgBox w B x.hooks x.p x.xs.length x.cap ∧ Reads w (.slice x.p x.xs.length x.cap) x.xs)
    (hend : ∀ v W, (∃ D p c, v (d iA) = .pointer (some ⟨D, 0, none⟩) ∧ w.heap.size ≤ D ∧ W.heap[D]? = some (.cells #[.int .i64 0, .slice p 0 c] 24 (0, 0))) → (∀ i, i < n → ∀ j e, sp i = .asg j e → v (d i) = .int .i64 e) → Below w.heap.size w W → Q .normal (laid a ds v) W) :
    (Code.region id ops true).wp Try.prog Q a w := by
  subst hn
  have hiS2 : iS < ops.size := by omega
  refine region_flow d (fun i => (sp i).f) (fun i => (sp i).pf) (fun h xs => h = 0 ∧ xs = []) iA iS eS (fun _ => true) (fun _ => false) (fun _ => 0) ds outs rfl hA heS heA rfl rfl hiS2 ?_ ?_ ?_ hdi hds hall hb hnd hsz hout ?_ (fun i => (sp i).mono) (fun i => (sp i).pure) ?_ ?_ ?_ ?_
  · obtain ⟨ty, pos, aft, e, _⟩ := hops iA (by omega)
    rw [if_neg (by omega), hsA] at e
    exact ⟨ty, pos, aft, e⟩
  · obtain ⟨ty, pos, aft, e, _⟩ := hops iS hiS2
    rw [if_pos rfl, hsS] at e
    exact ⟨ty, pos, aft, e⟩
  · intro i o ho hi
    obtain ⟨ty, pos, aft, e, _⟩ := hops i (Array.getElem?_eq_some_iff.1 ho).1
    rw [if_neg hi] at e
    rw [e] at ho
    obtain rfl := Option.some.inj ho
    exact ⟨rfl, rfl⟩
  · intro i o ho hi
    have hin := (Array.getElem?_eq_some_iff.1 ho).1
    omega
  · intro x W h
    rw [hsE] at h
    obtain rfl : x = _ := h
    exact ⟨0, none, 0, 0, [], rfl, ⟨rfl, rfl⟩, reads_nil _ _ _, fun y hy => by cases hy⟩
  · intro i o ho hi hiA
    have hin := (Array.getElem?_eq_some_iff.1 ho).1
    obtain ⟨ty, pos, aft, e, hdep⟩ := hops i hin
    have hfit := hfits i hin
    rw [if_neg (by omega)] at e hdep
    have hnA : ∀ j, sp j ≠ .al → j ≠ iA := fun j h e => h (e ▸ hsA)
    cases hs : sp i with
    | ld s B x =>
      rw [hs] at e
      rw [e] at ho
      obtain rfl := Option.some.inj ho
      unfold FlowStep
      intro a' v W K hB hq hd hK
      obtain ⟨hin2, ha, hr⟩ := hbox i hin s B x hs
      have hb2 := ha.below hB
      exact step_load24 _ _ _ _ _ (hq _ hin2) hb2.c0 hb2.c1 (hK _ _ (Below.refl _ _) (by simp only [hs]; exact ⟨rfl, hr.below hB⟩) (fun h => by cases h))
    | bs1 i1 x =>
      rw [hs] at e hdep hfit
      rw [e] at ho
      obtain rfl := Option.some.inj ho
      unfold FlowStep
      intro a' v W K hB hq hd hK
      generalize hG : Oper.wp _ _ _ _ _ _ = G
      obtain ⟨s1, B1, h1⟩ := hfit
      obtain ⟨f1, e1, _⟩ := hd i1 (hnA _ (by rw [h1]; exact Sq.noConfusion)) (hdep i1 (by simp [Sq.srcs]))
      simp only [h1] at f1
      rw [f1.1] at e1
      have hk : K (a'.put (some (d i)) _) _ := hK (.slice (some ⟨W.heap.size, 0, none⟩) 1 1) _ (below1 _ _) (by simp only [hs]; exact ⟨_, rfl, DsAt_one W x f1.2⟩) (fun h => by cases h)
      rw [← hG]
      unfold dgV at e1
      revert e1 hk
      exact @step_slice1 Q K a' W (d i) (d i1) ty pos aft _ _ _ _
    | bs2 i1 i2 x y =>
      rw [hs] at e hdep hfit
      rw [e] at ho
      obtain rfl := Option.some.inj ho
      unfold FlowStep
      intro a' v W K hB hq hd hK
      generalize hG : Oper.wp _ _ _ _ _ _ = G
      obtain ⟨⟨s1, B1, h1⟩, s2, B2, h2⟩ := hfit
      obtain ⟨f1, e1, _⟩ := hd i1 (hnA _ (by rw [h1]; exact Sq.noConfusion)) (hdep i1 (by simp [Sq.srcs]))
      obtain ⟨f2, e2, _⟩ := hd i2 (hnA _ (by rw [h2]; exact Sq.noConfusion)) (hdep i2 (by simp [Sq.srcs]))
      simp only [h1] at f1
      simp only [h2] at f2
      rw [f1.1] at e1
      rw [f2.1] at e2
      have hk : K (a'.put (some (d i)) _) _ := hK (.slice (some ⟨W.heap.size, 0, none⟩) 2 2) _ (below1 _ _) (by simp only [hs]; exact ⟨_, rfl, DsAt_two W x y f1.2 f2.2⟩) (fun h => by cases h)
      rw [← hG]
      unfold dgV at e1 e2
      have e1' := e1
      have e2' := e2
      clear e1 e2
      revert hk
      revert e1' e2'
      exact @step_slice2 Q K a' W (d i) (d i1) (d i2) ty pos aft _ _ _ _ _ _ _ _
    | bs3 i1 i2 i3 x y z =>
      rw [hs] at e hdep hfit
      rw [e] at ho
      obtain rfl := Option.some.inj ho
      unfold FlowStep
      intro a' v W K hB hq hd hK
      generalize hG : Oper.wp _ _ _ _ _ _ = G
      obtain ⟨⟨s1, B1, h1⟩, ⟨s2, B2, h2⟩, s3, B3, h3⟩ := hfit
      obtain ⟨f1, e1, _⟩ := hd i1 (hnA _ (by rw [h1]; exact Sq.noConfusion)) (hdep i1 (by simp [Sq.srcs]))
      obtain ⟨f2, e2, _⟩ := hd i2 (hnA _ (by rw [h2]; exact Sq.noConfusion)) (hdep i2 (by simp [Sq.srcs]))
      obtain ⟨f3, e3, _⟩ := hd i3 (hnA _ (by rw [h3]; exact Sq.noConfusion)) (hdep i3 (by simp [Sq.srcs]))
      simp only [h1] at f1
      simp only [h2] at f2
      simp only [h3] at f3
      rw [f1.1] at e1
      rw [f2.1] at e2
      rw [f3.1] at e3
      have hk : K (a'.put (some (d i)) _) _ := hK (.slice (some ⟨W.heap.size, 0, none⟩) 3 3) _ (below1 _ _) (by simp only [hs]; exact ⟨_, rfl, DsAt_three W x y z f1.2 f2.2 f3.2⟩) (fun h => by cases h)
      rw [← hG]
      unfold dgV at e1 e2 e3
      have e1' := e1
      have e2' := e2
      have e3' := e3
      clear e1 e2 e3
      revert hk
      revert e1' e2' e3'
      exact @step_slice3 Q K a' W (d i) (d i1) (d i2) (d i3) ty pos aft _ _ _ _ _ _ _ _ _ _ _ _
    | fst j dl =>
      rw [hs] at e hdep hfit
      rw [e] at ho
      obtain rfl := Option.some.inj ho
      unfold FlowStep
      intro a' v W K hB hq hd hK
      generalize hG : Oper.wp _ _ _ _ _ _ = G
      have hjn : sp j ≠ .al ∧ ∀ v W, (sp j).f v W → RowF dl v W := by
        rcases hfit with ⟨i1, x, h, rfl⟩ | ⟨i1, i2, x, y, h, rfl⟩ | ⟨i1, i2, i3, x, y, z, h, rfl⟩
        · exact ⟨by rw [h]; exact Sq.noConfusion, fun v W hf => by rw [h] at hf; exact hf⟩
        · exact ⟨by rw [h]; exact Sq.noConfusion, fun v W hf => by rw [h] at hf; exact hf⟩
        · exact ⟨by rw [h]; exact Sq.noConfusion, fun v W hf => by rw [h] at hf; exact hf⟩
      have hlen : dl.length ≤ 100 := by
        rcases hfit with ⟨_, _, _, rfl⟩ | ⟨_, _, _, _, _, rfl⟩ | ⟨_, _, _, _, _, _, _, rfl⟩ <;> simp
      obtain ⟨f1, e1, _⟩ := hd j (hnA _ hjn.1) (hdep j (by simp [Sq.srcs]))
      obtain ⟨b, g, hds⟩ := hjn.2 _ _ f1
      have e1' := e1.trans g
      clear e1
      have hc := first_any b dl.length dl W hlen hds
      have hK2 : ∀ (e : Ending) (w' : World), (e = .returned (.int .i64 (firstE dl)) ∧ Below W.heap.size W w') → ∃ v, e = .returned v ∧ K (a'.put (some (d i)) v) w' := by
        rintro e w' ⟨rfl, hB'⟩
        exact ⟨_, rfl, hK _ _ hB' (by simp only [hs]; rfl) (fun h => by cases h)⟩
      rw [← hG]
      show Oper.wp Try.prog ⟨some (d i), .call { callee := .value (.func 47), args := #[.tmp (d j)], argTypes := #[97] }, ty, pos, aft, none⟩ a' W K Q
      revert hc hK2
      revert e1'
      exact @step_call47 Q K a' W (d i) (d j) #[97] ty pos aft _ _
    | zero =>
      rw [hs] at e
      rw [e] at ho
      obtain rfl := Option.some.inj ho
      unfold FlowStep
      intro a' v W K hB hq hd hK
      have hk : K (a'.put (some (d i)) _) _ := hK (.agg #[.int .i64 0, .slice none 0 0]) _ (Below.refl _ _) (by simp only [hs]; rfl) (fun h => by cases h)
      revert hk
      exact @step_zero24 Q K a' W (d i) ty pos aft
    | al => exact absurd ((honly i hin).1 hs) hiA
    | st j => exact absurd ((honly i hin).2 j hs) (by omega)
    | asg j x =>
      rw [hs] at e hdep hfit
      rw [e] at ho
      obtain rfl := Option.some.inj ho
      unfold FlowStep
      intro a' v W K hB hq hd hK
      obtain ⟨k, dl, hsj, hE⟩ := hfit
      obtain ⟨f1, e1, _⟩ := hd j (hnA _ (by rw [hsj]; exact Sq.noConfusion)) (hdep j (by simp [Sq.srcs]))
      simp only [hsj] at f1
      refine step_assign _ _ _ _ _ e1 (hK _ _ (Below.refl _ _) (by simp only [hs]; rw [f1, hE]; rfl) (fun h => by cases h))
  · intro i o ho hi hw
    have hin := (Array.getElem?_eq_some_iff.1 ho).1
    rcases hw with h | h
    · omega
    · cases h
  · rintro v W ⟨D, h, p, l, c, xs, e1, ⟨rfl, rfl⟩, e3, e4, hlo⟩ hp hB
    have hl := reads_len e4
    obtain rfl : l = 0 := by simpa using hl
    refine hend v W ⟨D, p, c, e1, hlo, e3⟩ (fun i hi j e hs => ?_) hB
    have hiS3 : i ≠ iS := fun h => by rw [h, hsS] at hs; cases hs
    have hiA3 : i ≠ iA := fun h => by rw [h, hsA] at hs; cases hs
    have := hp i hi hiS3 hiA3
    simp only [hs] at this
    exact this
/-- the region: two first errors and a design that is nothing -/
def sq14 (s0 B0 s1 B1 s2 B2 : Nat) (x y z : Dsg) (e3 e2 : Int) : Nat → Sq
  | 0 => .ld s0 B0 x
  | 1 => .ld s1 B1 y
  | 2 => .ld s2 B2 z
  | 3 => .bs3 0 1 2 x y z
  | 4 => .fst 3 [x, y, z]
  | 5 => .ld s1 B1 y
  | 6 => .ld s2 B2 z
  | 7 => .bs2 5 6 y z
  | 8 => .fst 7 [y, z]
  | 9 => .zero
  | 10 => .al
  | 11 => .asg 4 e3
  | 12 => .asg 8 e2
  | _ => .st 9
/-- an operation as it is said to be, with what it waits for -/
def IsOps (ops : Array Oper) (i : Nat) (dst : Option Tmp) (op : Op) (src : List Nat) : Prop :=
  ∃ ty pos aft, ops[i]? = some ⟨dst, op, ty, pos, aft, none⟩ ∧ ∀ j ∈ src, depB ⟨dst, op, ty, pos, aft, none⟩ j = true
set_option maxHeartbeats 1000000 in
theorem region_first14 {id : Nat} {ops : Array Oper} {Q : Exit → Act → World → Prop} {a : Act} {w : World} (s0 B0 s1 B1 s2 B2 : Nat) (x y z : Dsg) (e3 e2 : Int) (dl ds : List Nat)
    (hn : ops.size = 14)
    (hops : ∀ i, i < 14 → IsOps ops i (if i = 13 then none else some (atL dl i)) ((sq14 s0 B0 s1 B1 s2 B2 x y z e3 e2 i).op (atL dl) 10) (sq14 s0 B0 s1 B1 s2 B2 x y z e3 e2 i).srcs)
    (hdi : ∀ i, i < 14 → ∀ j, j < 14 → i ≠ 13 → j ≠ 13 → atL dl i = atL dl j → i = j) (hds : ∀ i, i < 14 → i ≠ 13 → atL dl i ∈ ds)
    (hchk : (allB ops 13 (fun _ => true) && backB ops) = true) (hnd : ds.Nodup) (hsz : ∀ e ∈ ds, e < a.tmps.size)
    (hout : (a.eval (.tmp s0) = .pointer (some ⟨B0, 0, none⟩) ∧ a.eval (.tmp s1) = .pointer (some ⟨B1, 0, none⟩) ∧ a.eval (.tmp s2) = .pointer (some ⟨B2, 0, none⟩)) ∧ s0 ∉ ds ∧ s1 ∉ ds ∧ s2 ∉ ds)
    (h0 : ArgBox w B0 x.hooks x.p x.xs.length x.cap ∧ Reads w (.slice x.p x.xs.length x.cap) x.xs)
    (h1 : ArgBox w B1 y.hooks y.p y.xs.length y.cap ∧ Reads w (.slice y.p y.xs.length y.cap) y.xs)
    (h2 : ArgBox w B2 z.hooks z.p z.xs.length z.cap ∧ Reads w (.slice z.p z.xs.length z.cap) z.xs)
    (he3 : firstE [x, y, z] = e3) (he2 : firstE [y, z] = e2)
    (hend : ∀ v W, (∃ D p c, v (atL dl 10) = .pointer (some ⟨D, 0, none⟩) ∧ w.heap.size ≤ D ∧ W.heap[D]? = some (.cells #[.int .i64 0, .slice p 0 c] 24 (0, 0))) → v (atL dl 11) = .int .i64 e3 → v (atL dl 12) = .int .i64 e2 → Below w.heap.size w W → Q .normal (laid a ds v) W) :
    (Code.region id ops true).wp Try.prog Q a w := by
  simp only [Bool.and_eq_true] at hchk
  have key : ∀ (P : Nat → Prop), P 0 → P 1 → P 2 → P 3 → P 4 → P 5 → P 6 → P 7 → P 8 → P 9 → P 10 → P 11 → P 12 → P 13 → ∀ i, i < 14 → P i := by
    intro P h0 h1 h2 h3 h4 h5 h6 h7 h8 h9 h10 h11 h12 h13 i hi
    match i, hi with
    | 0, _ => exact h0
    | 1, _ => exact h1
    | 2, _ => exact h2
    | 3, _ => exact h3
    | 4, _ => exact h4
    | 5, _ => exact h5
    | 6, _ => exact h6
    | 7, _ => exact h7
    | 8, _ => exact h8
    | 9, _ => exact h9
    | 10, _ => exact h10
    | 11, _ => exact h11
    | 12, _ => exact h12
    | 13, _ => exact h13
    | n + 14, h => omega
  refine region_firsts (sq14 s0 B0 s1 B1 s2 B2 x y z e3 e2) 14 10 13 9 (atL dl) ds [(s0, .pointer (some ⟨B0, 0, none⟩)), (s1, .pointer (some ⟨B1, 0, none⟩)), (s2, .pointer (some ⟨B2, 0, none⟩))] hn (by decide) (by decide) (by decide) rfl hops rfl rfl rfl ?_ ?_ hdi hds hchk.1 hchk.2 hnd hsz ?_ ?_ ?_
  · refine key _ ?_ ?_ ?_ ?_ ?_ ?_ ?_ ?_ ?_ ?_ ?_ ?_ ?_ ?_ <;> first | (refine ⟨fun h => ?_, fun j h => ?_⟩ <;> (cases h; done)) | (refine ⟨fun _ => rfl, fun j h => ?_⟩; cases h; done) | (refine ⟨fun h => ?_, fun _ _ => rfl⟩; cases h; done)
  · exact key _ trivial trivial trivial ⟨⟨_, _, rfl⟩, ⟨_, _, rfl⟩, _, _, rfl⟩ (.inr (.inr ⟨_, _, _, _, _, _, rfl, rfl⟩)) trivial trivial ⟨⟨_, _, rfl⟩, _, _, rfl⟩ (.inr (.inl ⟨_, _, _, _, rfl, rfl⟩)) trivial trivial ⟨_, _, rfl, he3⟩ ⟨_, _, rfl, he2⟩ trivial
  · intro q hq
    simp at hq
    rcases hq with rfl | rfl | rfl
    · exact ⟨hout.1.1, hout.2.1⟩
    · exact ⟨hout.1.2.1, hout.2.2.1⟩
    · exact ⟨hout.1.2.2, hout.2.2.2⟩
  · have hb : ∀ i, i < 14 → ∀ s B x', sq14 s0 B0 s1 B1 s2 B2 x y z e3 e2 i = .ld s B x' → (s = s0 ∧ B = B0 ∧ x' = x) ∨ (s = s1 ∧ B = B1 ∧ x' = y) ∨ (s = s2 ∧ B = B2 ∧ x' = z) := by
      refine key _ ?_ ?_ ?_ ?_ ?_ ?_ ?_ ?_ ?_ ?_ ?_ ?_ ?_ ?_ <;> first | (intro s B x h; cases h; done) | (intro s B x h; cases h; simp)
    intro i hi s B x' h
    rcases hb i hi s B x' h with ⟨rfl, rfl, rfl⟩ | ⟨rfl, rfl, rfl⟩ | ⟨rfl, rfl, rfl⟩
    · exact ⟨by simp, h0⟩
    · exact ⟨by simp, h1⟩
    · exact ⟨by simp, h2⟩
  · intro v W h hp hB
    exact hend v W h (hp 11 (by decide) 4 e3 rfl) (hp 12 (by decide) 8 e2 rfl) hB
end Go.Proofs.Ytjobbleabepaiaa
