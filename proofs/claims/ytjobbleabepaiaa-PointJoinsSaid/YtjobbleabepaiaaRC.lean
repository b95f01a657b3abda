/- A region that makes one new object: loads, calls, moves, and a box for what is returned, in whatever order; with designs. -/
import Derived.Test.YtjobbleabepaiaaRB
import Derived.Test.YtjobbleabepaiaaXQ
namespace Go.Proofs.Ytjobbleabepaiaa
open Go.RowKit

/-- what is done waits for nothing -/
def Closed (ops : Array Oper) (L : Array Bool) : Prop := ∀ (i : Nat) (o : Oper), ops[i]? = some o → L.getD i true = true → ∀ e ∈ o.after, Region.binds .any e = true → L.getD e.on true = true
theorem Closed.start {ops : Array Oper} : Closed ops (Array.replicate ops.size false) := by
  intro i o ho hL
  have hi : i < ops.size := (Array.getElem?_eq_some_iff.1 ho).1
  simp [hi] at hL
theorem getD_any {L : Array Bool} {i : Nat} (h : L.getD i false = true) : L.getD i true = true := by
  simp only [Array.getD_eq_getD_getElem?] at h ⊢
  by_cases hi : i < L.size
  · simp [hi] at h ⊢; exact h
  · simp [hi]
theorem Closed.set {ops : Array Oper} {L : Array Bool} (h : Closed ops L) {i : Nat} {o : Oper} (ho : ops[i]? = some o) (hd : ∀ e ∈ o.after, Region.binds .any e = true → L.getD e.on false = true) : Closed ops (L.setIfInBounds i true) := by
  intro j o' ho' hj e he hb
  rw [set_getD] at hj ⊢
  by_cases hij : j = i
  · subst hij
    rw [ho] at ho'
    obtain rfl := Option.some.inj ho'
    rw [getD_any (hd e he hb), Bool.or_true]
  · have : L.getD j true = true := by simpa [hij] using hj
    rw [h j o' ho' this e he hb, Bool.or_true]
/-- what an operation waits for, directly or not -/
def reach (ops : Array Oper) : Nat → List Nat → List Nat
  | 0, l => l
  | n + 1, l => reach ops n (l ++ l.flatMap fun i => match ops[i]? with
    | some o => (o.after.toList.filter fun e => Region.binds .any e).map (·.on)
    | none => [])
theorem reach_done {ops : Array Oper} {L : Array Bool} (h : Closed ops L) : ∀ (n : Nat) (l : List Nat), (∀ i ∈ l, L.getD i true = true) → ∀ i ∈ reach ops n l, L.getD i true = true
  | 0, _, hl => hl
  | n + 1, l, hl => by
    unfold reach
    refine reach_done h n _ fun i hi => ?_
    rcases List.mem_append.1 hi with hi | hi
    · exact hl i hi
    · obtain ⟨j, hj, hi⟩ := List.mem_flatMap.1 hi
      cases ho : ops[j]? with
      | none => rw [ho] at hi; simp at hi
      | some o =>
        rw [ho] at hi
        obtain ⟨e, he, rfl⟩ := List.mem_map.1 hi
        have he2 := List.mem_filter.1 he
        exact h j o ho (hl j hj) e (by simpa using he2.1) he2.2
def allB (ops : Array Oper) (iS : Nat) (rb : Nat → Bool) : Bool := match ops[iS]? with
  | some o => (List.range iS).all fun i => !(rb i) || (reach ops 6 ((o.after.toList.filter fun e => Region.binds .any e).map (·.on))).contains i
  | none => false
theorem all_of {ops : Array Oper} {L : Array Bool} (h : Closed ops L) {iS : Nat} {rb : Nat → Bool} {o : Oper} (ho : ops[iS]? = some o) (hA : allB ops iS rb = true) (hd : ∀ e ∈ o.after, Region.binds .any e = true → L.getD e.on false = true) : ∀ i, i < iS → rb i = true → L.getD i true = true := by
  intro i hi hrb
  unfold allB at hA
  rw [ho] at hA
  rw [List.all_eq_true] at hA
  have := hA i (by simpa using hi)
  rw [hrb] at this
  refine reach_done h 6 _ (fun j hj => ?_) i (by simpa using this)
  obtain ⟨e, he, rfl⟩ := List.mem_map.1 hj
  have he2 := List.mem_filter.1 he
  exact getD_any (hd e (by simpa using he2.1) he2.2)

/-- the state of such a region -/
structure Flow (ops : Array Oper) (w : World) (d : Nat → Nat) (f : Nat → Value → World → Prop) (pf : Nat → Value → Prop) (z0 : Obj) (G : Nat → World → Prop) (iA iS : Nat) (rb ch : Nat → Bool) (kb : Value → Nat) (L : Array Bool) (v : Nat → Value) (W : World) : Prop where
  cl : Closed ops L
  below : Below w.heap.size w W
  pre : L.getD iS true = false → ∀ i, i < iS → i ≠ iA → L.getD i true = true → f i (v (d i)) W ∧ (ch i = true → kb (v (d i)) < W.heap.size)
  al : L.getD iS true = false → L.getD iA true = true → ∃ D, v (d iA) = .pointer (some ⟨D, 0, none⟩) ∧ w.heap.size ≤ D ∧ W.heap[D]? = some z0 ∧ ∀ i, i < iS → i ≠ iA → ch i = true → L.getD i true = true → kb (v (d i)) ≠ D
  all : L.getD iS true = true → ∀ i, i < iS → rb i = true → L.getD i true = true
  st : L.getD iS true = true → ∃ D, v (d iA) = .pointer (some ⟨D, 0, none⟩) ∧ w.heap.size ≤ D ∧ G D W
  post : L.getD iS true = true → ∀ i, i < ops.size → i ≠ iS → i ≠ iA → L.getD i true = true → pf i (v (d i))
  late : L.getD iS true = false → ∀ i, iS < i → i < ops.size → L.getD i true = false
/-- what an operation ahead of the store has to do -/
def FlowStep (iA : Nat) (w : World) (Q : Exit → Act → World → Prop) (outs : List (Nat × Value)) (d : Nat → Nat) (f : Nat → Value → World → Prop) (ch : Nat → Bool) (kb : Value → Nat) (i : Nat) (o : Oper) : Prop :=
  ∀ (a : Act) (v : Nat → Value) (W : World) (K : Act → World → Prop), Below w.heap.size w W → (∀ q ∈ outs, a.tmps[q.1]?.getD undef = q.2) →
    (∀ j, j ≠ iA → depB o j = true → f j (v (d j)) W ∧ a.tmps[d j]?.getD undef = v (d j) ∧ (ch j = true → kb (v (d j)) < W.heap.size)) →
    (∀ x W', Below W.heap.size W W' → f i x W' → (ch i = true → kb x < W'.heap.size ∧ (W.heap.size ≤ kb x ∨ ∃ j, depB o j = true ∧ ch j = true ∧ kb x = kb (v (d j)))) → K (a.put o.dst x) W') → Oper.wp Try.prog o a W K Q
/-- what an operation behind the store has to do -/
def LateStep (iA iS : Nat) (Q : Exit → Act → World → Prop) (d : Nat → Nat) (pf : Nat → Value → Prop) (i : Nat) (o : Oper) : Prop :=
  ∀ (a : Act) (v : Nat → Value) (W : World) (K : Act → World → Prop), (∀ j, j ≠ iS → j ≠ iA → depB o j = true → pf j (v (d j)) ∧ a.tmps[d j]?.getD undef = v (d j)) → (∀ x, pf i x → K (a.put o.dst x) W) → Oper.wp Try.prog o a W K Q
theorem region_flowG {id : Nat} {ops : Array Oper} {Q : Exit → Act → World → Prop} {a : Act} {w : World} (d : Nat → Nat) (f : Nat → Value → World → Prop) (pf : Nat → Value → Prop) (T : TypeId) (z0 : Obj) (G : Nat → World → Prop) (iA iS eS : Nat) (rb ch : Nat → Bool) (kb : Value → Nat) (ds : List Nat) (outs : List (Nat × Value)) (hchA : ch iA = false)
    (hA : iA < iS) (heS : eS < iS) (heA : eS ≠ iA) (hrA : rb iA = true) (hrE : rb eS = true) (hiS : iS < ops.size)
    (hopA : ∃ ty pos aft, ops[iA]? = some ⟨some (d iA), .alloc T, ty, pos, aft, none⟩)
    (hopS : ∃ ty pos aft, ops[iS]? = some ⟨none, .store T (.tmp (d iA)) (.tmp (d eS)), ty, pos, aft, none⟩)
    (halloc : ∀ (a : Act) (W : World) (K : Act → World → Prop) (d : Nat) ty pos aft, K (a.put (some d) (.pointer (some ⟨W.heap.size, 0, none⟩))) (W.alloc z0) → Oper.wp Try.prog ⟨some d, .alloc T, ty, pos, aft, none⟩ a W K Q)
    (hstore : ∀ (a : Act) (W : World) (K : Act → World → Prop) (D : Nat) (x : Value) ty pos aft, a.tmps[d iA]?.getD undef = .pointer (some ⟨D, 0, none⟩) → a.tmps[d eS]?.getD undef = x → f eS x W → (ch eS = true → kb x ≠ D) → W.heap[D]? = some z0 → (∀ W', (∀ n, n ≤ D → Below n W W') → G D W' → K a W') → Oper.wp Try.prog ⟨none, .store T (.tmp (d iA)) (.tmp (d eS)), ty, pos, aft, none⟩ a W K Q)
    (hdst : ∀ (i : Nat) (o : Oper), ops[i]? = some o → i ≠ iS → o.dst = some (d i) ∧ o.guard = none)
    (hdi : ∀ i, i < ops.size → ∀ j, j < ops.size → i ≠ iS → j ≠ iS → d i = d j → i = j)
    (hds : ∀ i, i < ops.size → i ≠ iS → d i ∈ ds)
    (hall : allB ops iS rb = true) (hb : backB ops = true) (hnd : ds.Nodup) (hsz : ∀ e ∈ ds, e < a.tmps.size) (hout : ∀ q ∈ outs, a.eval (.tmp q.1) = q.2 ∧ q.1 ∉ ds)
    (hlate : ∀ (i : Nat) (o : Oper), ops[i]? = some o → iS < i → depB o iS = true)
    (hmono : ∀ i x W W', f i x W → Below W.heap.size W W' → f i x W')
    (hpf : ∀ i x W, f i x W → pf i x)
    (hstep : ∀ (i : Nat) (o : Oper), ops[i]? = some o → i < iS → i ≠ iA → FlowStep iA w Q outs d f ch kb i o)
    (hlast : ∀ (i : Nat) (o : Oper), ops[i]? = some o → i ≠ iS → (iS < i ∨ rb i = false) → LateStep iA iS Q d pf i o)
    (hend : ∀ v W, (∃ D, v (d iA) = .pointer (some ⟨D, 0, none⟩) ∧ w.heap.size ≤ D ∧ G D W) → (∀ i, i < ops.size → i ≠ iS → i ≠ iA → pf i (v (d i))) → Below w.heap.size w W → Q .normal (laid a ds v) W) :
    (Code.region id ops true).wp Try.prog Q a w := by
  have hwd : Below w.heap.size w w.drew := below_drew1 w
  refine wp_region_laid ds outs (fun L v W => L.size = ops.size ∧ Flow ops w d f pf z0 G iA iS rb ch kb L v W) (by kernel_rfl) (back_of hb) hnd hsz hout ?_ ?_ ?_ (fun L v W hJ hall2 => ?_)
  · intro i o ho e he
    by_cases h : i = iS
    · obtain ⟨ty, pos, aft, e2⟩ := hopS
      rw [h, e2] at ho
      obtain rfl := Option.some.inj ho
      cases he
    · have := (hdst i o ho h).1
      rw [this] at he
      cases he
      exact hds i (Array.getElem?_eq_some_iff.1 ho).1 h
  · have h0 : ∀ i, i < ops.size → (Array.replicate ops.size false).getD i true = false := fun i hi => by simp [hi]
    refine ⟨by simp, Closed.start, hwd, fun _ i hi _ h => ?_, fun _ h => ?_, fun h => ?_, fun h => ?_, fun h => ?_, fun _ i hi hi2 => h0 i hi2⟩
    · rw [h0 i (by omega)] at h; cases h
    · rw [h0 iA (by omega)] at h; cases h
    · rw [h0 iS hiS] at h; cases h
    · rw [h0 iS hiS] at h; cases h
    · rw [h0 iS hiS] at h; cases h
  · intro i o ho L v W a' hJ hv hq hL hd K hK
    obtain ⟨hsize, hF⟩ := hJ
    have hi : i < ops.size := (Array.getElem?_eq_some_iff.1 ho).1
    have hcl := hF.cl.set ho hd
    have hsz2 : (L.setIfInBounds i true).size = ops.size := by simp [hsize]
    have hdone : ∀ j, depB o j = true → L.getD j true = true := fun j hj => dep_of hd j hj
    have hjs : ∀ j, depB o j = true → j < i := fun j hj => by
      unfold depB at hj
      rw [Array.any_eq_true'] at hj
      obtain ⟨e, he, h2⟩ := hj
      rw [Bool.and_eq_true, beq_iff_eq] at h2
      have := back_of hb i o ho e he h2.1
      omega
    by_cases hSi : i = iS
    · subst hSi
      obtain ⟨ty, pos, aft, e⟩ := hopS
      have hpre := all_of hF.cl ho hall hd
      rw [e] at ho
      obtain rfl := Option.some.inj ho
      rw [if_pos (wanted_free _)]
      obtain ⟨D, e1, hDlo, hDh, hDk⟩ := hF.al hL (hpre iA hA hrA)
      obtain ⟨hfeS, _⟩ := hF.pre hL eS heS heA (hpre eS heS hrE)
      refine hstore a' W K D _ ty pos aft (by rw [hv _ (hds iA (by omega) (by omega))]; exact e1) (hv _ (hds eS (by omega) (by omega))) hfeS (fun hc => hDk eS heS heA hc (hpre eS heS hrE)) hDh (fun W' hBn hG => hK undef W' ⟨hsz2, hcl, ?_, fun h => ?_, fun h => ?_, fun _ j hj hjr => ?_, fun _ => ?_, fun _ j hj hjS hjA hjL => ?_, fun h => ?_⟩)
      · exact hF.below.trans (hBn _ hDlo)
      · rw [set_getD] at h; simp at h
      · rw [set_getD] at h; simp at h
      · rw [set_getD, hpre j hj hjr, Bool.or_true]
      · exact ⟨D, e1, hDlo, hG⟩
      · rw [set_getD] at hjL
        rcases Nat.lt_or_gt_of_ne hjS with hlt | hgt
        · exact hpf _ _ _ (hF.pre hL j hlt hjA (by simpa [hjS] using hjL)).1
        · have := hF.late hL j hgt hj
          rw [this] at hjL
          simp at hjL; omega
      · rw [set_getD] at h; simp at h
    · obtain ⟨hdo, hgo⟩ := hdst i o ho hSi
      have hnS : (L.setIfInBounds i true).getD iS true = L.getD iS true := by rw [set_getD]; simp [Ne.symm hSi]
      have hupd : ∀ x j, j < ops.size → j ≠ iS → updO v o.dst x (d j) = if j = i then x else v (d j) := fun x j hj hjS => by
        rw [hdo, upd_some]
        by_cases e : j = i
        · rw [e, if_pos rfl, if_pos rfl]
        · rw [if_neg (fun h => e (hdi j hj i hi hjS hSi h)), if_neg e]
      have hw : Region.wanted o (yielded ops a'.tmps) = true := by
        obtain ⟨dd, op, ty, pos, aft, g⟩ := o
        simp only at hgo
        subst hgo
        rfl
      rw [if_pos hw]
      have hway : (i < iS ∧ L.getD iS true = false) ∨ ((iS < i ∨ rb i = false) ∧ L.getD iS true = true) := by
        rcases Nat.lt_or_gt_of_ne hSi with hlt | hgt
        · cases h : L.getD iS true with
          | false => exact .inl ⟨hlt, rfl⟩
          | true =>
            refine .inr ⟨.inr ?_, rfl⟩
            cases hr : rb i with
            | false => rfl
            | true => rw [hF.all h i hlt hr] at hL; cases hL
        · exact .inr ⟨.inl hgt, hdone iS (hlate i o ho hgt)⟩
      rcases hway with ⟨hlt, hLS⟩ | ⟨hgt, hLS⟩
      · skip
        by_cases hAi : i = iA
        · subst hAi
          obtain ⟨ty, pos, aft, e⟩ := hopA
          rw [e] at ho
          obtain rfl := Option.some.inj ho
          have hB := below1 W z0
          have hsa : (W.alloc z0).heap.size = W.heap.size + 1 := by simp
          have hA3 : K (a'.put (some (d i)) (.pointer (some ⟨W.heap.size, 0, none⟩))) (W.alloc z0) := by
            refine hK _ _ ⟨hsz2, hcl, hF.below.trans (hB.mono hF.below.size), fun _ j hj hjA hjL => ?_, fun _ _ => ⟨W.heap.size, ?_, hF.below.size, World.alloc_heap_new W _, fun j hj hjA hjc hjL => ?_⟩, fun h => ?_, fun h => ?_, fun h => ?_, fun _ j hj hj2 => ?_⟩
            · rw [set_getD] at hjL
              have hjL2 : L.getD j true = true := by simpa [hjA] using hjL
              rw [hupd _ j (by omega) (by omega), if_neg hjA]
              have := hF.pre hLS j hj hjA hjL2
              exact ⟨hmono _ _ _ _ this.1 hB, fun hc => by have := this.2 hc; omega⟩
            · rw [hupd _ i hi hSi, if_pos rfl]
            · rw [set_getD] at hjL
              have hjL2 : L.getD j true = true := by simpa [hjA] using hjL
              rw [hupd _ j (by omega) (by omega), if_neg hjA]
              have := (hF.pre hLS j hj hjA hjL2).2 hjc
              omega
            · rw [hnS, hLS] at h; cases h
            · rw [hnS, hLS] at h; cases h
            · rw [hnS, hLS] at h; cases h
            · rw [set_getD, hF.late hLS j hj hj2]; simp; omega
          revert hA3
          have hh := @halloc a' W K (d i) ty pos aft
          assumption
        · refine hstep i o ho hlt hAi a' v W K hF.below hq (fun j hjA hj => ?_) (fun x W' hB hf hc => hK x W' ?_)
          · have hj1 := hjs j hj
            have := hF.pre hLS j (by omega) hjA (hdone j hj)
            exact ⟨this.1, hv _ (hds j (by omega) (by omega)), this.2⟩
          · refine ⟨hsz2, hcl, hF.below.trans (hB.mono hF.below.size), fun _ j hj hjA hjL => ?_, fun _ hAL => ?_, fun h => ?_, fun h => ?_, fun h => ?_, fun _ j hj hj2 => ?_⟩
            · rw [hupd _ j (by omega) (by omega)]
              by_cases e : j = i
              · subst e
                rw [if_pos rfl]
                exact ⟨hf, fun h => (hc h).1⟩
              · rw [if_neg e]
                rw [set_getD] at hjL
                have hjL2 : L.getD j true = true := by simpa [e] using hjL
                have := hF.pre hLS j hj hjA hjL2
                exact ⟨hmono _ _ _ _ this.1 hB, fun hc => by have := this.2 hc; have := hB.size; omega⟩
            · rw [set_getD] at hAL
              have hAL2 : L.getD iA true = true := by simpa [Ne.symm hAi] using hAL
              obtain ⟨D, e1, hlo, hh, hne⟩ := hF.al hLS hAL2
              have hDl : D < W.heap.size := (Array.getElem?_eq_some_iff.1 hh).1
              refine ⟨D, by rw [hupd _ iA (by omega) (by omega), if_neg (Ne.symm hAi)]; exact e1, hlo, (hB.block D hDl).trans hh, fun j hj hjA hjc hjL => ?_⟩
              rw [hupd _ j (by omega) (by omega)]
              by_cases e : j = i
              · subst e
                rw [if_pos rfl]
                rcases (hc hjc).2 with h | ⟨m, hm, hmc, hmk⟩
                · omega
                · have hmA : m ≠ iA := fun e => by rw [e, hchA] at hmc; cases hmc
                  rw [hmk]
                  exact hne m (by have := hjs m hm; omega) hmA hmc (hdone m hm)
              · rw [if_neg e]
                rw [set_getD] at hjL
                exact hne j hj hjA hjc (by simpa [e] using hjL)
            · rw [hnS, hLS] at h; cases h
            · rw [hnS, hLS] at h; cases h
            · rw [hnS, hLS] at h; cases h
            · rw [set_getD, hF.late hLS j hj hj2]; simp; omega
      · have hiA : i ≠ iA := fun e => by
          rcases hgt with h | h
          · omega
          · rw [e, hrA] at h; cases h
        refine hlast i o ho hSi hgt a' v W K (fun j hjS hjA hj => ?_) (fun x hx => hK x W ⟨hsz2, hcl, hF.below, fun h => ?_, fun h => ?_, fun _ j hj hjr => ?_, fun _ => ?_, fun _ j hj hjS hjA hjL => ?_, fun h => ?_⟩)
        · have hj1 := hjs j hj
          exact ⟨hF.post hLS j (by omega) hjS hjA (hdone j hj), hv _ (hds j (by omega) hjS)⟩
        · rw [hnS, hLS] at h; cases h
        · rw [hnS, hLS] at h; cases h
        · rw [set_getD, hF.all hLS j hj hjr, Bool.or_true]
        · obtain ⟨D, e1, r⟩ := hF.st hLS
          exact ⟨D, by rw [hupd _ iA (by omega) (by omega), if_neg (Ne.symm hiA)]; exact e1, r⟩
        · rw [hupd _ j hj hjS]
          by_cases e : j = i
          · rw [e, if_pos rfl]; exact hx
          · rw [if_neg e]
            rw [set_getD] at hjL
            exact hF.post hLS j hj hjS hjA (by simpa [e] using hjL)
        · rw [hnS, hLS] at h; cases h
  · obtain ⟨hsize, hF⟩ := hJ
    have hLS := hall2 iS hiS
    exact hend v W (hF.st hLS) (fun i hi hiS hiA => hF.post hLS i hi hiS hiA (hall2 i hi)) hF.below
/-- the same, for a design -/
theorem region_flow {id : Nat} {ops : Array Oper} {Q : Exit → Act → World → Prop} {a : Act} {w : World} (d : Nat → Nat) (f : Nat → Value → World → Prop) (pf : Nat → Value → Prop) (E : Int → List Int → Prop) (iA iS eS : Nat) (rb ch : Nat → Bool) (kb : Value → Nat) (ds : List Nat) (outs : List (Nat × Value)) (hchA : ch iA = false)
    (hA : iA < iS) (heS : eS < iS) (heA : eS ≠ iA) (hrA : rb iA = true) (hrE : rb eS = true) (hiS : iS < ops.size)
    (hopA : ∃ ty pos aft, ops[iA]? = some ⟨some (d iA), .alloc 24, ty, pos, aft, none⟩)
    (hopS : ∃ ty pos aft, ops[iS]? = some ⟨none, .store 24 (.tmp (d iA)) (.tmp (d eS)), ty, pos, aft, none⟩)
    (hdst : ∀ (i : Nat) (o : Oper), ops[i]? = some o → i ≠ iS → o.dst = some (d i) ∧ o.guard = none)
    (hdi : ∀ i, i < ops.size → ∀ j, j < ops.size → i ≠ iS → j ≠ iS → d i = d j → i = j)
    (hds : ∀ i, i < ops.size → i ≠ iS → d i ∈ ds)
    (hall : allB ops iS rb = true) (hb : backB ops = true) (hnd : ds.Nodup) (hsz : ∀ e ∈ ds, e < a.tmps.size) (hout : ∀ q ∈ outs, a.eval (.tmp q.1) = q.2 ∧ q.1 ∉ ds)
    (hlate : ∀ (i : Nat) (o : Oper), ops[i]? = some o → iS < i → depB o iS = true)
    (hmono : ∀ i x W W', f i x W → Below W.heap.size W W' → f i x W')
    (hpf : ∀ i x W, f i x W → pf i x)
    (hfe : ∀ x W, f eS x W → ∃ h p l c xs, x = .agg #[.int .i64 h, .slice p l c] ∧ E h xs ∧ Reads W (.slice p l c) xs ∧ (∀ y, p = some y → y.block = kb x ∧ ch eS = true))
    (hstep : ∀ (i : Nat) (o : Oper), ops[i]? = some o → i < iS → i ≠ iA → FlowStep iA w Q outs d f ch kb i o)
    (hlast : ∀ (i : Nat) (o : Oper), ops[i]? = some o → i ≠ iS → (iS < i ∨ rb i = false) → LateStep iA iS Q d pf i o)
    (hend : ∀ v W, (∃ D h p l c xs, v (d iA) = .pointer (some ⟨D, 0, none⟩) ∧ E h xs ∧ W.heap[D]? = some (.cells #[.int .i64 h, .slice p l c] 24 (0, 0)) ∧ Reads W (.slice p l c) xs ∧ w.heap.size ≤ D) → (∀ i, i < ops.size → i ≠ iS → i ≠ iA → pf i (v (d i))) → Below w.heap.size w W → Q .normal (laid a ds v) W) :
    (Code.region id ops true).wp Try.prog Q a w := by
  refine region_flowG d f pf 24 (.cells #[.int .i64 0, .slice none 0 0] 24) (fun D W => ∃ h p l c xs, E h xs ∧ W.heap[D]? = some (.cells #[.int .i64 h, .slice p l c] 24 (0, 0)) ∧ Reads W (.slice p l c) xs) iA iS eS rb ch kb ds outs hchA hA heS heA hrA hrE hiS hopA hopS ?_ ?_ hdst hdi hds hall hb hnd hsz hout hlate hmono hpf hstep hlast ?_
  · exact fun a W K d ty pos aft => @step_alloc24 Q K a W d ty pos aft
  · intro a W K D x ty pos aft e1 e2 hf hk hD hK
    obtain ⟨h, p, l, c, xs, rfl, hE, hr, hp⟩ := hfe _ _ hf
    have hne : qk l p ≠ some D := by
      unfold qk
      split
      · simp
      · intro hq
        obtain ⟨y, hy, hyb⟩ := Option.map_eq_some_iff.1 hq
        exact hk (hp y hy).2 (by rw [← (hp y hy).1]; exact hyb)
    refine step_store24 _ _ _ _ _ e1 e2 hD (hK _ (fun n hn => ((Below.refl _ _).setCell hn _).setCell hn _) ⟨h, p, l, c, xs, hE, ?_, reads_setCell (reads_setCell hr _ _ _ hne) _ _ _ hne⟩)
    show ((W.setCell ⟨D, 0, none⟩ (.int .i64 h)).setCell ⟨D, 1, none⟩ (.slice p l c)).heap[D]? = some (.cells #[.int .i64 h, .slice p l c] 24 (0, 0))
    simp [World.setCell, Array.getElem?_modify, hD]
  · rintro v W ⟨D, e1, hlo, h, p, l, c, xs, r1, r2, r3⟩ hp hB
    exact hend v W ⟨D, h, p, l, c, xs, e1, r1, r2, r3, hlo⟩ hp hB
theorem ArgBox.of_blk {W : World} {D : Nat} {h : Int} {p : Option Addr} {l c : Nat} (hh : W.heap[D]? = some (.cells #[.int .i64 h, .slice p l c] 24 (0, 0))) : ArgBox W D h p l c :=
  ⟨by simp [World.cell?, hh], by simp [World.cell?, hh]⟩
end Go.Proofs.Ytjobbleabepaiaa
namespace Go.Proofs.Ytjobbleabepaiaa
open Go.RowKit

section
variable {Q : Exit → Act → World → Prop} {K : Act → World → Prop} {a : Act} {W : World} (d s : Nat) (ty : TypeId) (pos : String) (aft : Array Edge)
theorem step_move {x : Value} (hs : a.tmps[s]?.getD undef = x) (hK : K (a.put (some d) x) W) : Oper.wp Try.prog ⟨some d, .move (.tmp s), ty, pos, aft, none⟩ a W K Q := by
  have e : a.eval (.tmp s) = x := by rw [eval_tmp]; exact hs
  clear hs
  unfold Oper.wp
  simp only [execOp, e]
  exact hK
theorem step_assign {x : Value} (hs : a.tmps[s]?.getD undef = x) (hK : K (a.put (some d) x) W) : Oper.wp Try.prog ⟨some d, .assign (.tmp s), ty, pos, aft, none⟩ a W K Q := by
  have e : a.eval (.tmp s) = x := by rw [eval_tmp]; exact hs
  clear hs
  unfold Oper.wp
  simp only [execOp, e]
  exact hK
theorem step_extract0 {x y : Value} (hs : a.tmps[s]?.getD undef = .tuple #[x, y]) (hK : K (a.put (some d) x) W) : Oper.wp Try.prog ⟨some d, .extract (.tmp s) 0, ty, pos, aft, none⟩ a W K Q := by
  have e : a.eval (.tmp s) = .tuple #[x, y] := by rw [eval_tmp]; exact hs
  clear hs
  unfold Oper.wp
  simp only [execOp, e]
  exact hK
theorem step_extract1 {x y : Value} (hs : a.tmps[s]?.getD undef = .tuple #[x, y]) (hK : K (a.put (some d) y) W) : Oper.wp Try.prog ⟨some d, .extract (.tmp s) 1, ty, pos, aft, none⟩ a W K Q := by
  have e : a.eval (.tmp s) = .tuple #[x, y] := by rw [eval_tmp]; exact hs
  clear hs
  unfold Oper.wp
  simp only [execOp, e]
  exact hK
end
theorem step_call55 {Q : Exit → Act → World → Prop} {K : Act → World → Prop} {a : Act} {W : World} (d s t u : Nat) (tys : Array TypeId) (ty : TypeId) (pos : String) (aft : Array Edge) {x y z : Value} {R : Ending → World → Prop}
    (hs : a.tmps[s]?.getD undef = x) (ht : a.tmps[t]?.getD undef = y) (hu : a.tmps[u]?.getD undef = z) (hc : Calls Try.prog 55 #[x, y, z] W R) (hK : ∀ e w', R e w' → ∃ v, e = .returned v ∧ K (a.put (some d) v) w') :
    Oper.wp Try.prog ⟨some d, .call { callee := .value (.func 55), args := #[.tmp s, .tmp t, .tmp u], argTypes := tys }, ty, pos, aft, none⟩ a W K Q := by
  unfold Oper.wp
  simp only [execOp]
  have HS := Lib.hid hs
  have HT := Lib.hid ht
  have HU := Lib.hid hu
  have HK := Lib.hid hK
  have HC := Lib.hid hc
  clear hs ht hu hK hc
  go_simp
  rw [HS.out, HT.out, HU.out]
  refine HC.out.mono fun en w' hr => ?_
  obtain ⟨v, rfl, hk⟩ := HK.out _ _ hr
  exact hk

/-- a design -/
structure DX where
  n : Nat
  ys : List Nat
def DesF (x : DX) (v : Value) (W : World) : Prop := ∃ b o c, v = .agg #[.int .i64 (x.n : Int), .slice (some ⟨b, o, none⟩) x.ys.length c] ∧ VAt W b o c x.n x.ys
def NewF (x : DX) (v : Value) (W : World) : Prop := ∃ R, v = .agg #[.int .i64 (x.n : Int), .slice (some ⟨R, 0, none⟩) x.ys.length x.ys.length] ∧ NatBlk W R x.ys
def TupF (x : DX) (v : Value) (W : World) : Prop := ∃ R, v = .tuple #[.agg #[.int .i64 (x.n : Int), .slice (some ⟨R, 0, none⟩) x.ys.length x.ys.length], .int .i64 0] ∧ NatBlk W R x.ys
/-- one operation, by what it does -/
inductive Sp where
  | ld (s B : Nat) (x : DX)
  | own (j : Nat) (x : DX)
  | call (x : DX)
  | mv (j : Nat) (x : DX)
  | e0 (j : Nat) (x : DX)
  | e1 (j : Nat) (x : DX)
  | al
  | st (j : Nat)
  | asg (j : Nat)
def Sp.f : Sp → Value → World → Prop
  | .ld _ _ x, v, W => DesF x v W
  | .own _ x, v, W => DesF x v W
  | .call x, v, W => TupF x v W
  | .mv _ x, v, W => TupF x v W
  | .e0 _ x, v, W => NewF x v W
  | .e1 _ _, v, _ => v = .int .i64 0
  | .asg _, v, _ => v = .int .i64 0
  | .al, _, _ => True
  | .st _, _, _ => True
def Sp.pf : Sp → Value → Prop
  | .mv _ _, v => ∃ x, v = .tuple #[x, .int .i64 0]
  | .e1 _ _, v => v = .int .i64 0
  | .asg _, v => v = .int .i64 0
  | _, _ => True
def Sp.ch : Sp → Bool
  | .call _ => true
  | .mv _ _ => true
  | .e0 _ _ => true
  | _ => false
/-- the block of a design's rows -/
def kbA (a : Array Value) : Nat := match a.toList with
  | [_, .slice (some x) _ _] => x.block
  | _ => 0
def kbV : Value → Nat
  | .agg a => kbA a
  | .tuple a => (match a.toList with
    | [.agg b, _] => kbA b
    | _ => 0)
  | _ => 0
def Sp.op (Cop : Op) (d : Nat → Nat) (iA : Nat) : Sp → Op
  | .ld s _ _ => .load 24 (.tmp s)
  | .own j _ => .call { callee := .value (.func 18), args := #[.tmp (d j)], argTypes := #[24] }
  | .call _ => Cop
  | .mv j _ => .move (.tmp (d j))
  | .e0 j _ => .extract (.tmp (d j)) 0
  | .e1 j _ => .extract (.tmp (d j)) 1
  | .al => .alloc 24
  | .st j => .store 24 (.tmp (d iA)) (.tmp (d j))
  | .asg j => .assign (.tmp (d j))
/-- the operation that it takes its value of -/
def Sp.src : Sp → Option Nat
  | .own j _ => some j
  | .mv j _ => some j
  | .e0 j _ => some j
  | .e1 j _ => some j
  | .asg j => some j
  | _ => none
/-- what the operation that it takes its value of must be -/
def Sp.fits (sp : Nat → Sp) : Sp → Prop
  | .own j x => (∃ s B, sp j = .ld s B x)
  | .mv j x => sp j = .call x
  | .e0 j x => (∃ k, sp j = .mv k x)
  | .e1 j x => (∃ k, sp j = .mv k x)
  | .asg j => (∃ k x, sp j = .e1 k x)
  | _ => True
theorem NatBlk.below' {W W' : World} {R : Nat} {ys : List Nat} (h : NatBlk W R ys) (hb : Below W.heap.size W W') : NatBlk W' R ys := by
  have hl := h.lt
  exact (hb.block R hl).trans h
theorem Sp.mono (s : Sp) (x : Value) (W W' : World) (h : s.f x W) (hb : Below W.heap.size W W') : s.f x W' := by
  cases s <;> simp only [Sp.f] at h ⊢
  · obtain ⟨b, o, c, e, hv⟩ := h; exact ⟨b, o, c, e, hv.below hb⟩
  · obtain ⟨b, o, c, e, hv⟩ := h; exact ⟨b, o, c, e, hv.below hb⟩
  · obtain ⟨R, e, hv⟩ := h; exact ⟨R, e, hv.below' hb⟩
  · obtain ⟨R, e, hv⟩ := h; exact ⟨R, e, hv.below' hb⟩
  · obtain ⟨R, e, hv⟩ := h; exact ⟨R, e, hv.below' hb⟩
  · exact h
  · exact h
theorem Sp.pure (s : Sp) (x : Value) (W : World) (h : s.f x W) : s.pf x := by
  cases s <;> simp only [Sp.f, Sp.pf] at h ⊢
  · obtain ⟨R, e, _⟩ := h; exact ⟨_, e⟩
  · exact h
  · exact h
theorem kbV_tuple (n l c : Nat) (R o : Nat) (e : Value) : kbV (.tuple #[.agg #[.int .i64 (n : Int), .slice (some ⟨R, o, none⟩) l c], e]) = R := rfl
theorem kbV_agg (n l c : Nat) (R o : Nat) : kbV (.agg #[.int .i64 (n : Int), .slice (some ⟨R, o, none⟩) l c]) = R := rfl
theorem okd_call {z : DX} {W : World} {K : Value → World → Prop} (hK : ∀ x W', Below W.heap.size W W' → TupF z x W' → kbV x < W'.heap.size ∧ W.heap.size ≤ kbV x → K x W') : ∀ e w', OkD z.n z.ys W e w' → ∃ v, e = .returned v ∧ K v w' := by
  rintro e w' ⟨R, rfl, hR, hn, hb⟩
  exact ⟨_, rfl, hK _ _ hb ⟨R, rfl, hn⟩ ⟨by rw [kbV_tuple]; exact hn.lt, by rw [kbV_tuple]; exact hR⟩⟩
theorem flow_call55 {w : World} {Q : Exit → Act → World → Prop} {outs : List (Nat × Value)} {d : Nat → Nat} {sp : Nat → Sp} {iA i j1 j2 j3 : Nat} {x1 x2 x3 z : DX} {tys : Array TypeId} {ty : TypeId} {pos : String} {aft : Array Edge}
    (h1 : ∀ v W, (sp j1).f v W → DesF x1 v W) (h2 : ∀ v W, (sp j2).f v W → DesF x2 v W) (h3 : ∀ v W, (sp j3).f v W → DesF x3 v W) (hz : sp i = .call z) (hne : j1 ≠ iA ∧ j2 ≠ iA ∧ j3 ≠ iA)
    (hd : depB ⟨some (d i), .call { callee := .value (.func 55), args := #[.tmp (d j1), .tmp (d j2), .tmp (d j3)], argTypes := tys }, ty, pos, aft, none⟩ j1 = true ∧ depB ⟨some (d i), .call { callee := .value (.func 55), args := #[.tmp (d j1), .tmp (d j2), .tmp (d j3)], argTypes := tys }, ty, pos, aft, none⟩ j2 = true ∧ depB ⟨some (d i), .call { callee := .value (.func 55), args := #[.tmp (d j1), .tmp (d j2), .tmp (d j3)], argTypes := tys }, ty, pos, aft, none⟩ j3 = true)
    (hc : ∀ W b1 o1 c1 b2 o2 c2 b3 o3 c3, VAt W b1 o1 c1 x1.n x1.ys → VAt W b2 o2 c2 x2.n x2.ys → VAt W b3 o3 c3 x3.n x3.ys →
      Calls Try.prog 55 #[.agg #[.int .i64 (x1.n : Int), .slice (some ⟨b1, o1, none⟩) x1.ys.length c1], .agg #[.int .i64 (x2.n : Int), .slice (some ⟨b2, o2, none⟩) x2.ys.length c2], .agg #[.int .i64 (x3.n : Int), .slice (some ⟨b3, o3, none⟩) x3.ys.length c3]] W (OkD z.n z.ys W)) :
    FlowStep iA w Q outs d (fun j => (sp j).f) (fun j => (sp j).ch) kbV i ⟨some (d i), .call { callee := .value (.func 55), args := #[.tmp (d j1), .tmp (d j2), .tmp (d j3)], argTypes := tys }, ty, pos, aft, none⟩ := by
  unfold FlowStep
  intro a v W K hB hq hdep hK
  generalize hG : Oper.wp _ _ _ _ _ _ = G
  obtain ⟨f1, e1, _⟩ := hdep j1 hne.1 hd.1
  obtain ⟨f2, e2, _⟩ := hdep j2 hne.2.1 hd.2.1
  obtain ⟨f3, e3, _⟩ := hdep j3 hne.2.2 hd.2.2
  obtain ⟨b1, o1, c1, g1, v1⟩ := h1 _ _ f1
  obtain ⟨b2, o2, c2, g2, v2⟩ := h2 _ _ f2
  obtain ⟨b3, o3, c3, g3, v3⟩ := h3 _ _ f3
  have hcc := hc W b1 o1 c1 b2 o2 c2 b3 o3 c3 v1 v2 v3
  have hK2 : ∀ e w', OkD z.n z.ys W e w' → ∃ v, e = .returned v ∧ K (a.put (some (d i)) v) w' :=
    okd_call (K := fun v w' => K (a.put (some (d i)) v) w') fun x W' hb ht hk => hK x W' hb (by simp only [hz]; exact ht) (fun _ => ⟨hk.1, .inl hk.2⟩)
  have e1' := e1.trans g1
  have e2' := e2.trans g2
  have e3' := e3.trans g3
  clear e1 e2 e3
  rw [← hG]
  revert hcc hK2
  revert e1' e2' e3'
  exact @step_call55 Q K a W (d i) (d j1) (d j2) (d j3) tys ty pos aft _ _ _ _
set_option maxHeartbeats 1000000 in
theorem region_spec {id : Nat} {ops : Array Oper} {Q : Exit → Act → World → Prop} {a : Act} {w : World} (sp : Nat → Sp) (n iA iS eS : Nat) (rb : Nat → Bool) (Cop : Op) (d : Nat → Nat) (ds : List Nat) (outs : List (Nat × Value)) (z : DX)
    (hn : ops.size = n) (hA : iA < iS) (heS : eS < iS) (heA : eS ≠ iA) (hrA : rb iA = true) (hrE : rb eS = true) (hiS : iS < n)
    (hops : ∀ i, i < n → ∃ ty pos aft, ops[i]? = some ⟨if i = iS then none else some (d i), (sp i).op Cop d iA, ty, pos, aft, none⟩ ∧ ∀ j, (sp i).src = some j → depB ⟨if i = iS then none else some (d i), (sp i).op Cop d iA, ty, pos, aft, none⟩ j = true)
    (hsA : sp iA = .al) (hsS : sp iS = .st eS) (hsE : ∃ j, sp eS = .e0 j z)
    (honly : ∀ i, i < n → (sp i = .al → i = iA) ∧ (∀ j, sp i = .st j → i = iS))
    (hfits : ∀ i, i < n → (sp i).fits sp) (hlater : ∀ i, i < n → i ≠ iS → (iS < i ∨ rb i = false) → (∃ j, sp i = .asg j) ∨ ∃ j x, sp i = .e1 j x) (hearly : ∀ i, i < n → ∀ j, sp i = .asg j → iS < i)
    (hdi : ∀ i, i < n → ∀ j, j < n → i ≠ iS → j ≠ iS → d i = d j → i = j) (hds : ∀ i, i < n → i ≠ iS → d i ∈ ds)
    (hall : allB ops iS rb = true) (hb : backB ops = true) (hnd : ds.Nodup) (hsz : ∀ e ∈ ds, e < a.tmps.size) (hout : ∀ q ∈ outs, a.eval (.tmp q.1) = q.2 ∧ q.1 ∉ ds)
    (hlate : ∀ (i : Nat) (o : Oper), ops[i]? = some o → iS < i → depB o iS = true)
    (hbox : ∀ i, i < n → ∀ s B x, sp i = .ld s B x → (s, Value.pointer (some ⟨B, 0, none⟩)) ∈ outs ∧ ∃ b o c, ArgBox w B x.n (some ⟨b, o, none⟩) x.ys.length c ∧ VAt w b o c x.n x.ys)
    (hcall : ∀ i, i < n → ∀ x, sp i = .call x → ∀ o, ops[i]? = some o → FlowStep iA w Q outs d (fun j => (sp j).f) (fun j => (sp j).ch) kbV i o)
    (hend : ∀ v W, (∃ D p c, v (d iA) = .pointer (some ⟨D, 0, none⟩) ∧ ArgBox W D z.n p z.ys.length c ∧ Reads W (.slice p z.ys.length c) (ints z.ys)) → (∀ i, i < n → ∀ j, sp i = .asg j → v (d i) = .int .i64 0) → Below w.heap.size w W → Q .normal (laid a ds v) W)
    (hz : z.ys.length ≤ 1000) :
    (Code.region id ops true).wp Try.prog Q a w := by
  subst hn
  obtain ⟨jE, hjE⟩ := hsE
  refine region_flow d (fun i => (sp i).f) (fun i => (sp i).pf) (fun h xs => h = (z.n : Int) ∧ xs = ints z.ys) iA iS eS rb (fun i => (sp i).ch) kbV ds outs (by rw [hsA]; rfl) hA heS heA hrA hrE hiS ?_ ?_ ?_ hdi hds hall hb hnd hsz hout hlate (fun i => (sp i).mono) (fun i => (sp i).pure) ?_ ?_ ?_ ?_
  · obtain ⟨ty, pos, aft, e, _⟩ := hops iA (by omega)
    rw [if_neg (by omega), hsA] at e
    exact ⟨ty, pos, aft, e⟩
  · obtain ⟨ty, pos, aft, e, _⟩ := hops iS hiS
    rw [if_pos rfl, hsS] at e
    exact ⟨ty, pos, aft, e⟩
  · intro i o ho hi
    obtain ⟨ty, pos, aft, e, _⟩ := hops i (Array.getElem?_eq_some_iff.1 ho).1
    rw [if_neg hi] at e
    rw [e] at ho
    obtain rfl := Option.some.inj ho
    exact ⟨rfl, rfl⟩
  · intro x W h
    rw [hjE] at h
    obtain ⟨R, rfl, hR⟩ := h
    exact ⟨(z.n : Int), some ⟨R, 0, none⟩, z.ys.length, z.ys.length, ints z.ys, rfl, ⟨rfl, rfl⟩, blk_reads hR hz _, fun y hy => ⟨by simp at hy; rw [kbV_agg, ← hy], by rw [hjE]; rfl⟩⟩
  · intro i o ho hi hiA
    have hin := (Array.getElem?_eq_some_iff.1 ho).1
    obtain ⟨ty, pos, aft, e, hdep⟩ := hops i hin
    have hfit := hfits i hin
    rw [if_neg (by omega)] at e hdep
    cases hs : sp i with
    | ld s B x =>
      rw [hs] at e
      rw [e] at ho
      obtain rfl := Option.some.inj ho
      unfold FlowStep
      intro a' v W K hB hq hd hK
      obtain ⟨hin2, b, oo, c, ha, hv⟩ := hbox i hin s B x hs
      have hb2 := ha.below hB
      exact step_load24 _ _ _ _ _ (hq _ hin2) hb2.c0 hb2.c1 (hK _ _ (Below.refl _ _) (by simp only [hs]; exact ⟨b, oo, c, rfl, hv.below hB⟩) (fun h => by simp only [hs] at h; cases h))
    | own j x =>
      rw [hs] at e hdep hfit
      rw [e] at ho
      obtain rfl := Option.some.inj ho
      unfold FlowStep
      intro a' v W K hB hq hd hK
      generalize hG : Oper.wp _ _ _ _ _ _ = G
      obtain ⟨s, B, hsj⟩ := hfit
      have hjA : j ≠ iA := fun h => by rw [h, hsA] at hsj; cases hsj
      obtain ⟨f1, e1, _⟩ := hd j hjA (hdep j rfl)
      simp only [hsj] at f1
      obtain ⟨b, oo, c, g, hv⟩ := f1
      rw [g] at e1
      have hc := own_fresh x.n (some ⟨b, oo, none⟩) x.ys.length c (ints x.ys) W (by have := hv.ok.l1; omega) hv.reads
      have hK2 : ∀ e w', CopyF x.n x.ys.length (ints x.ys) W e w' → ∃ v, e = .returned v ∧ K (a'.put (some (d i)) v) w' := by
        rintro e w' ⟨p, c2, rfl, hr, hf, hB'⟩
        obtain ⟨b2, o2, rfl, hv2⟩ := vat_of_reads hr hv.ok
        exact ⟨_, rfl, hK _ _ hB' (by simp only [hs]; exact ⟨b2, o2, c2, rfl, hv2⟩) (fun h => by simp only [hs] at h; cases h)⟩
      have e1' := e1
      clear e1
      rw [← hG]
      show Oper.wp Try.prog ⟨some (d i), .call { callee := .value (.func 18), args := #[.tmp (d j)], argTypes := #[24] }, ty, pos, aft, none⟩ a' W K Q
      revert hc hK2
      revert e1'
      exact @step_call18 Q K a' W (d i) (d j) #[24] ty pos aft _ _
    | call x => exact hcall i hin x hs o ho
    | mv j x =>
      rw [hs] at e hdep hfit
      rw [e] at ho
      obtain rfl := Option.some.inj ho
      unfold FlowStep
      intro a' v W K hB hq hd hK
      have hsj : sp j = .call x := hfit
      have hjA : j ≠ iA := fun h => by rw [h, hsA] at hsj; cases hsj
      obtain ⟨f1, e1, k1⟩ := hd j hjA (hdep j rfl)
      refine step_move _ _ _ _ _ e1 (hK _ _ (Below.refl _ _) (by simp only [hs]; simp only [hsj] at f1; exact f1) (fun _ => ⟨k1 (by simp only [hsj]; rfl), .inr ⟨j, hdep j rfl, by simp only [hsj]; rfl, rfl⟩⟩))
    | e0 j x =>
      rw [hs] at e hdep hfit
      rw [e] at ho
      obtain rfl := Option.some.inj ho
      unfold FlowStep
      intro a' v W K hB hq hd hK
      obtain ⟨k, hsj⟩ := hfit
      have hjA : j ≠ iA := fun h => by rw [h, hsA] at hsj; cases hsj
      obtain ⟨f1, e1, k1⟩ := hd j hjA (hdep j rfl)
      have k2 := k1 (by simp only [hsj]; rfl)
      simp only [hsj] at f1
      obtain ⟨R, g, hR⟩ := f1
      rw [g] at e1
      refine step_extract0 _ _ _ _ _ e1 (hK _ _ (Below.refl _ _) (by simp only [hs]; exact ⟨R, rfl, hR⟩) (fun _ => ⟨?_, .inr ⟨j, hdep j rfl, by simp only [hsj]; rfl, ?_⟩⟩))
      · rw [kbV_agg]; exact hR.lt
      · rw [g]; rfl
    | e1 j x =>
      rw [hs] at e hdep hfit
      rw [e] at ho
      obtain rfl := Option.some.inj ho
      unfold FlowStep
      intro a' v W K hB hq hd hK
      obtain ⟨k, hsj⟩ := hfit
      have hjA : j ≠ iA := fun h => by rw [h, hsA] at hsj; cases hsj
      obtain ⟨f1, e1, k1⟩ := hd j hjA (hdep j rfl)
      simp only [hsj] at f1
      obtain ⟨R, g, hR⟩ := f1
      rw [g] at e1
      exact step_extract1 _ _ _ _ _ e1 (hK _ _ (Below.refl _ _) (by simp only [hs]; rfl) (fun h => by simp only [hs] at h; cases h))
    | al => exact absurd ((honly i hin).1 hs) hiA
    | st j => exact absurd ((honly i hin).2 j hs) (by omega)
    | asg j => exact absurd (hearly i hin j hs) (by omega)
  · intro i o ho hi hw
    have hin := (Array.getElem?_eq_some_iff.1 ho).1
    obtain ⟨ty, pos, aft, e, hdep⟩ := hops i hin
    have hfit := hfits i hin
    rw [if_neg hi] at e hdep
    rcases hlater i hin hi hw with ⟨j, hs⟩ | ⟨j, x, hs⟩
    · rw [hs] at e hdep hfit
      rw [e] at ho
      obtain rfl := Option.some.inj ho
      intro a' v W K hd hK
      obtain ⟨k, x, hsj⟩ := hfit
      have hjS : j ≠ iS := fun h => by rw [h, hsS] at hsj; cases hsj
      have hjA : j ≠ iA := fun h => by rw [h, hsA] at hsj; cases hsj
      obtain ⟨f1, e1⟩ := hd j hjS hjA (hdep j rfl)
      simp only [hsj] at f1
      exact step_assign _ _ _ _ _ e1 (hK _ (by simp only [hs]; exact f1))
    · rw [hs] at e hdep hfit
      rw [e] at ho
      obtain rfl := Option.some.inj ho
      intro a' v W K hd hK
      obtain ⟨k, hsj⟩ := hfit
      have hjS : j ≠ iS := fun h => by rw [h, hsS] at hsj; cases hsj
      have hjA : j ≠ iA := fun h => by rw [h, hsA] at hsj; cases hsj
      obtain ⟨f1, e1⟩ := hd j hjS hjA (hdep j rfl)
      simp only [hsj] at f1
      obtain ⟨y, g⟩ := f1
      rw [g] at e1
      exact step_extract1 _ _ _ _ _ e1 (hK _ (by simp only [hs]; rfl))
  · rintro v W ⟨D, h, p, l, c, xs, e1, ⟨rfl, rfl⟩, e3, e4, _⟩ hp hB
    obtain rfl : l = z.ys.length := by rw [reads_len e4, ints_len]
    refine hend v W ⟨D, p, c, e1, ArgBox.of_blk e3, e4⟩ (fun i hi j hs => ?_) hB
    have hiS2 : i ≠ iS := fun h => by rw [h, hsS] at hs; cases hs
    have hiA2 : i ≠ iA := fun h => by rw [h, hsA] at hs; cases hs
    have := hp i hi hiS2 hiA2
    simp only [hs] at this
    exact this
end Go.Proofs.Ytjobbleabepaiaa
namespace Go.Proofs.Ytjobbleabepaiaa
open Go.RowKit

def lateB (ops : Array Oper) (iS : Nat) : Bool := (List.range ops.size).all fun i => match ops[i]? with
  | some o => !(decide (iS < i)) || depB o iS
  | none => true
theorem late_of {ops : Array Oper} {iS : Nat} (h : lateB ops iS = true) : ∀ (i : Nat) (o : Oper), ops[i]? = some o → iS < i → depB o iS = true := by
  intro i o ho hi
  have hin := (Array.getElem?_eq_some_iff.1 ho).1
  unfold lateB at h
  rw [List.all_eq_true] at h
  have := h i (by simpa using hin)
  rw [ho] at this
  simpa [hi] using this
/-- an operation as it is said to be -/
def IsOp (ops : Array Oper) (i : Nat) (dst : Option Tmp) (op : Op) (src : Option Nat) : Prop :=
  ∃ ty pos aft, ops[i]? = some ⟨dst, op, ty, pos, aft, none⟩ ∧ ∀ j, src = some j → depB ⟨dst, op, ty, pos, aft, none⟩ j = true
def sp3 (s1 B1 s2 B2 s3 B3 : Nat) (x1 x2 x3 z : DX) : Nat → Sp
  | 0 => .ld s1 B1 x1
  | 1 => .own 0 x1
  | 2 => .ld s2 B2 x2
  | 3 => .own 2 x2
  | 4 => .ld s3 B3 x3
  | 5 => .own 4 x3
  | 6 => .call z
  | 7 => .mv 6 z
  | 8 => .e0 7 z
  | 9 => .e1 7 z
  | 10 => .al
  | 11 => .st 8
  | _ => .asg 9
def sp2 (s1 B1 s2 B2 s3 B3 : Nat) (x1 x2 x3 z : DX) : Nat → Sp
  | 0 => .ld s1 B1 x1
  | 1 => .own 0 x1
  | 2 => .ld s2 B2 x2
  | 3 => .own 2 x2
  | 4 => .ld s3 B3 x3
  | 5 => .call z
  | 6 => .mv 5 z
  | 7 => .e0 6 z
  | 8 => .e1 6 z
  | 9 => .al
  | 10 => .st 7
  | _ => .asg 8
def depAt (ops : Array Oper) (i j : Nat) : Bool := match ops[i]? with
  | some o => depB o j
  | none => false
theorem depAt_of {ops : Array Oper} {i j : Nat} {o : Oper} (h : depAt ops i j = true) (e : ops[i]? = some o) : depB o j = true := by
  unfold depAt at h
  rw [e] at h
  exact h
def BoxD (w : World) (B : Nat) (x : DX) : Prop := ∃ b o c, ArgBox w B x.n (some ⟨b, o, none⟩) x.ys.length c ∧ VAt w b o c x.n x.ys
def atL (l : List Nat) (i : Nat) : Nat := l.getD i 0
set_option maxHeartbeats 1000000 in
theorem region_call3 {id : Nat} {ops : Array Oper} {Q : Exit → Act → World → Prop} {a : Act} {w : World} (s1 B1 s2 B2 s3 B3 : Nat) (x1 x2 x3 z : DX) (Cop : Op) (dl ds : List Nat)
    (hn : ops.size = 13)
    (hops : ∀ i, i < 13 → IsOp ops i (if i = 11 then none else some (atL dl i)) ((sp3 s1 B1 s2 B2 s3 B3 x1 x2 x3 z i).op Cop (atL dl) 10) (sp3 s1 B1 s2 B2 s3 B3 x1 x2 x3 z i).src)
    (hdi : ∀ i, i < 13 → ∀ j, j < 13 → i ≠ 11 → j ≠ 11 → atL dl i = atL dl j → i = j) (hds : ∀ i, i < 13 → i ≠ 11 → atL dl i ∈ ds)
    (hchk : (allB ops 11 (fun i => i != 9) && backB ops && lateB ops 11) = true) (hnd : ds.Nodup) (hsz : ∀ e ∈ ds, e < a.tmps.size)
    (hout : (a.eval (.tmp s1) = .pointer (some ⟨B1, 0, none⟩) ∧ a.eval (.tmp s2) = .pointer (some ⟨B2, 0, none⟩) ∧ a.eval (.tmp s3) = .pointer (some ⟨B3, 0, none⟩)) ∧ s1 ∉ ds ∧ s2 ∉ ds ∧ s3 ∉ ds)
    (h1 : BoxD w B1 x1) (h2 : BoxD w B2 x2) (h3 : BoxD w B3 x3)
    (hcall : ∀ ty pos aft, ops[6]? = some ⟨some (atL dl 6), Cop, ty, pos, aft, none⟩ → ∀ outs, FlowStep 10 w Q outs (atL dl) (fun j => (sp3 s1 B1 s2 B2 s3 B3 x1 x2 x3 z j).f) (fun j => (sp3 s1 B1 s2 B2 s3 B3 x1 x2 x3 z j).ch) kbV 6 ⟨some (atL dl 6), Cop, ty, pos, aft, none⟩)
    (hend : ∀ v W, (∃ D p c, v (atL dl 10) = .pointer (some ⟨D, 0, none⟩) ∧ ArgBox W D z.n p z.ys.length c ∧ Reads W (.slice p z.ys.length c) (ints z.ys)) → v (atL dl 12) = .int .i64 0 → Below w.heap.size w W → Q .normal (laid a ds v) W)
    (hz : z.ys.length ≤ 1000) :
    (Code.region id ops true).wp Try.prog Q a w := by
  simp only [Bool.and_eq_true] at hchk
  have key : ∀ (P : Nat → Prop), P 0 → P 1 → P 2 → P 3 → P 4 → P 5 → P 6 → P 7 → P 8 → P 9 → P 10 → P 11 → P 12 → ∀ i, i < 13 → P i := by
    intro P h0 h1 h2 h3 h4 h5 h6 h7 h8 h9 h10 h11 h12 i hi
    match i, hi with
    | 0, _ => exact h0
    | 1, _ => exact h1
    | 2, _ => exact h2
    | 3, _ => exact h3
    | 4, _ => exact h4
    | 5, _ => exact h5
    | 6, _ => exact h6
    | 7, _ => exact h7
    | 8, _ => exact h8
    | 9, _ => exact h9
    | 10, _ => exact h10
    | 11, _ => exact h11
    | 12, _ => exact h12
    | n + 13, h => omega
  refine region_spec (sp3 s1 B1 s2 B2 s3 B3 x1 x2 x3 z) 13 10 11 8 (fun i => i != 9) Cop (atL dl) ds [(s1, .pointer (some ⟨B1, 0, none⟩)), (s2, .pointer (some ⟨B2, 0, none⟩)), (s3, .pointer (some ⟨B3, 0, none⟩))] z hn (by decide) (by decide) (by decide) rfl rfl (by decide) hops rfl rfl ⟨7, rfl⟩ ?_ ?_ ?_ ?_ hdi hds hchk.1.1 hchk.1.2 hnd hsz ?_ (late_of hchk.2) ?_ ?_ ?_ hz
  · refine key _ ?_ ?_ ?_ ?_ ?_ ?_ ?_ ?_ ?_ ?_ ?_ ?_ ?_ <;> first | (refine ⟨fun h => ?_, fun j h => ?_⟩ <;> (cases h; done)) | (refine ⟨fun _ => rfl, fun j h => ?_⟩; cases h; done) | (refine ⟨fun h => ?_, fun _ _ => rfl⟩; cases h; done)
  · refine key _ ?_ ?_ ?_ ?_ ?_ ?_ ?_ ?_ ?_ ?_ ?_ ?_ ?_ <;> first | exact trivial | exact ⟨_, _, rfl⟩ | exact rfl | exact ⟨_, rfl⟩
  · intro i hi hS h
    by_cases h9 : i = 9
    · subst h9
      exact .inr ⟨7, z, rfl⟩
    · have : (i != 9) = true := by simpa using h9
      rw [this] at h
      obtain rfl : i = 12 := by rcases h with h | h <;> first | omega | cases h
      exact .inl ⟨9, rfl⟩
  · refine key _ ?_ ?_ ?_ ?_ ?_ ?_ ?_ ?_ ?_ ?_ ?_ ?_ ?_ <;> first | (intro j h; cases h; done) | exact fun _ _ => by decide
  · intro q hq
    simp at hq
    rcases hq with rfl | rfl | rfl
    · exact ⟨hout.1.1, hout.2.1⟩
    · exact ⟨hout.1.2.1, hout.2.2.1⟩
    · exact ⟨hout.1.2.2, hout.2.2.2⟩
  · have hb : ∀ i, i < 13 → ∀ s B x, sp3 s1 B1 s2 B2 s3 B3 x1 x2 x3 z i = .ld s B x → (s = s1 ∧ B = B1 ∧ x = x1) ∨ (s = s2 ∧ B = B2 ∧ x = x2) ∨ (s = s3 ∧ B = B3 ∧ x = x3) := by
      refine key _ ?_ ?_ ?_ ?_ ?_ ?_ ?_ ?_ ?_ ?_ ?_ ?_ ?_ <;> first | (intro s B x h; cases h; done) | (intro s B x h; cases h; simp)
    intro i hi s B x h
    rcases hb i hi s B x h with ⟨rfl, rfl, rfl⟩ | ⟨rfl, rfl, rfl⟩ | ⟨rfl, rfl, rfl⟩
    · exact ⟨by simp, h1⟩
    · exact ⟨by simp, h2⟩
    · exact ⟨by simp, h3⟩
  · have hb : ∀ i, i < 13 → ∀ x, sp3 s1 B1 s2 B2 s3 B3 x1 x2 x3 z i = .call x → i = 6 := by
      refine key _ ?_ ?_ ?_ ?_ ?_ ?_ ?_ ?_ ?_ ?_ ?_ ?_ ?_ <;> first | (intro x h; cases h; done) | exact fun _ _ => rfl
    intro i hi x h o ho
    obtain rfl := hb i hi x h
    obtain ⟨ty, pos, aft, e, _⟩ := hops 6 (by decide)
    rw [e] at ho
    obtain rfl := Option.some.inj ho
    exact hcall ty pos aft e _
  · intro v W h hp hB
    exact hend v W h (hp 12 (by decide) 9 rfl) hB
set_option maxHeartbeats 1000000 in
theorem region_call2 {id : Nat} {ops : Array Oper} {Q : Exit → Act → World → Prop} {a : Act} {w : World} (s1 B1 s2 B2 s3 B3 : Nat) (x1 x2 x3 z : DX) (Cop : Op) (dl ds : List Nat)
    (hn : ops.size = 12)
    (hops : ∀ i, i < 12 → IsOp ops i (if i = 10 then none else some (atL dl i)) ((sp2 s1 B1 s2 B2 s3 B3 x1 x2 x3 z i).op Cop (atL dl) 9) (sp2 s1 B1 s2 B2 s3 B3 x1 x2 x3 z i).src)
    (hdi : ∀ i, i < 12 → ∀ j, j < 12 → i ≠ 10 → j ≠ 10 → atL dl i = atL dl j → i = j) (hds : ∀ i, i < 12 → i ≠ 10 → atL dl i ∈ ds)
    (hchk : (allB ops 10 (fun i => i != 8) && backB ops && lateB ops 10) = true) (hnd : ds.Nodup) (hsz : ∀ e ∈ ds, e < a.tmps.size)
    (hout : (a.eval (.tmp s1) = .pointer (some ⟨B1, 0, none⟩) ∧ a.eval (.tmp s2) = .pointer (some ⟨B2, 0, none⟩) ∧ a.eval (.tmp s3) = .pointer (some ⟨B3, 0, none⟩)) ∧ s1 ∉ ds ∧ s2 ∉ ds ∧ s3 ∉ ds)
    (h1 : BoxD w B1 x1) (h2 : BoxD w B2 x2) (h3 : BoxD w B3 x3)
    (hcall : ∀ ty pos aft, ops[5]? = some ⟨some (atL dl 5), Cop, ty, pos, aft, none⟩ → ∀ outs, FlowStep 9 w Q outs (atL dl) (fun j => (sp2 s1 B1 s2 B2 s3 B3 x1 x2 x3 z j).f) (fun j => (sp2 s1 B1 s2 B2 s3 B3 x1 x2 x3 z j).ch) kbV 5 ⟨some (atL dl 5), Cop, ty, pos, aft, none⟩)
    (hend : ∀ v W, (∃ D p c, v (atL dl 9) = .pointer (some ⟨D, 0, none⟩) ∧ ArgBox W D z.n p z.ys.length c ∧ Reads W (.slice p z.ys.length c) (ints z.ys)) → v (atL dl 11) = .int .i64 0 → Below w.heap.size w W → Q .normal (laid a ds v) W)
    (hz : z.ys.length ≤ 1000) :
    (Code.region id ops true).wp Try.prog Q a w := by
  simp only [Bool.and_eq_true] at hchk
  have key : ∀ (P : Nat → Prop), P 0 → P 1 → P 2 → P 3 → P 4 → P 5 → P 6 → P 7 → P 8 → P 9 → P 10 → P 11 → ∀ i, i < 12 → P i := by
    intro P h0 h1 h2 h3 h4 h5 h6 h7 h8 h9 h10 h11 i hi
    match i, hi with
    | 0, _ => exact h0
    | 1, _ => exact h1
    | 2, _ => exact h2
    | 3, _ => exact h3
    | 4, _ => exact h4
    | 5, _ => exact h5
    | 6, _ => exact h6
    | 7, _ => exact h7
    | 8, _ => exact h8
    | 9, _ => exact h9
    | 10, _ => exact h10
    | 11, _ => exact h11
    | n + 12, h => omega
  refine region_spec (sp2 s1 B1 s2 B2 s3 B3 x1 x2 x3 z) 12 9 10 7 (fun i => i != 8) Cop (atL dl) ds [(s1, .pointer (some ⟨B1, 0, none⟩)), (s2, .pointer (some ⟨B2, 0, none⟩)), (s3, .pointer (some ⟨B3, 0, none⟩))] z hn (by decide) (by decide) (by decide) rfl rfl (by decide) hops rfl rfl ⟨6, rfl⟩ ?_ ?_ ?_ ?_ hdi hds hchk.1.1 hchk.1.2 hnd hsz ?_ (late_of hchk.2) ?_ ?_ ?_ hz
  · refine key _ ?_ ?_ ?_ ?_ ?_ ?_ ?_ ?_ ?_ ?_ ?_ ?_ <;> first | (refine ⟨fun h => ?_, fun j h => ?_⟩ <;> (cases h; done)) | (refine ⟨fun _ => rfl, fun j h => ?_⟩; cases h; done) | (refine ⟨fun h => ?_, fun _ _ => rfl⟩; cases h; done)
  · refine key _ ?_ ?_ ?_ ?_ ?_ ?_ ?_ ?_ ?_ ?_ ?_ ?_ <;> first | exact trivial | exact ⟨_, _, rfl⟩ | exact rfl | exact ⟨_, rfl⟩
  · intro i hi hS h
    by_cases h9 : i = 8
    · subst h9
      exact .inr ⟨6, z, rfl⟩
    · have : (i != 8) = true := by simpa using h9
      rw [this] at h
      obtain rfl : i = 11 := by rcases h with h | h <;> first | omega | cases h
      exact .inl ⟨8, rfl⟩
  · refine key _ ?_ ?_ ?_ ?_ ?_ ?_ ?_ ?_ ?_ ?_ ?_ ?_ <;> first | (intro j h; cases h; done) | exact fun _ _ => by decide
  · intro q hq
    simp at hq
    rcases hq with rfl | rfl | rfl
    · exact ⟨hout.1.1, hout.2.1⟩
    · exact ⟨hout.1.2.1, hout.2.2.1⟩
    · exact ⟨hout.1.2.2, hout.2.2.2⟩
  · have hb : ∀ i, i < 12 → ∀ s B x, sp2 s1 B1 s2 B2 s3 B3 x1 x2 x3 z i = .ld s B x → (s = s1 ∧ B = B1 ∧ x = x1) ∨ (s = s2 ∧ B = B2 ∧ x = x2) ∨ (s = s3 ∧ B = B3 ∧ x = x3) := by
      refine key _ ?_ ?_ ?_ ?_ ?_ ?_ ?_ ?_ ?_ ?_ ?_ ?_ <;> first | (intro s B x h; cases h; done) | (intro s B x h; cases h; simp)
    intro i hi s B x h
    rcases hb i hi s B x h with ⟨rfl, rfl, rfl⟩ | ⟨rfl, rfl, rfl⟩ | ⟨rfl, rfl, rfl⟩
    · exact ⟨by simp, h1⟩
    · exact ⟨by simp, h2⟩
    · exact ⟨by simp, h3⟩
  · have hb : ∀ i, i < 12 → ∀ x, sp2 s1 B1 s2 B2 s3 B3 x1 x2 x3 z i = .call x → i = 5 := by
      refine key _ ?_ ?_ ?_ ?_ ?_ ?_ ?_ ?_ ?_ ?_ ?_ ?_ <;> first | (intro x h; cases h; done) | exact fun _ _ => rfl
    intro i hi x h o ho
    obtain rfl := hb i hi x h
    obtain ⟨ty, pos, aft, e, _⟩ := hops 5 (by decide)
    rw [e] at ho
    obtain rfl := Option.some.inj ho
    exact hcall ty pos aft e _
  · intro v W h hp hB
    exact hend v W h (hp 11 (by decide) 8 rfl) hB
theorem Boxes.boxD {w0 W : World} {L : List BX} (s : Boxes w0 L W) {B b off c n : Nat} {ys : List Nat} (hx : (⟨B, n, some ⟨b, off, none⟩, ys.length, c, ints ys⟩ : BX) ∈ L) (hv : Valid n ys) : BoxD W B ⟨n, ys⟩ :=
  ⟨b, off, c, (s.all _ hx).a, s.vat hx hv⟩
theorem Boxes.cons {w0 W1 W : World} {L : List BX} (s : Boxes w0 L W1) {D n : Nat} {p : Option Addr} {c : Nat} {ys : List Nat} (hb : Below W1.heap.size W1 W) (ha : ArgBox W D n p ys.length c) (hr : Reads W (.slice p ys.length c) (ints ys)) (hv : Valid n ys) :
    ∃ b o, p = some ⟨b, o, none⟩ ∧ Boxes w0 (⟨D, n, some ⟨b, o, none⟩, ys.length, c, ints ys⟩ :: L) W := by
  obtain ⟨b, o, rfl, _⟩ := vat_of_reads hr hv
  have s2 := s.next hb
  refine ⟨b, o, rfl, fun x hx => ?_, s2.below⟩
  rcases List.mem_cons.1 hx with rfl | hx
  · exact ⟨ha, hr⟩
  · exact s2.all x hx
end Go.Proofs.Ytjobbleabepaiaa
