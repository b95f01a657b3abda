/- PointProved: the walk. -/
import Derived.Test.YtjobbleabepaiaaBC
import Derived.Test.YtjobbleabepaiaaRC
import Derived.Test.YtjobbleabepaiaaVD
import Derived.Deep.RegionHeld3
import Derived.Deep.DeepCutAuto
import Derived.Deep.QuietTactic
import Derived.BigQuiet
namespace Go.Proofs.Ytjobbleabepaiaa
open Go.RowKit

set_option maxHeartbeats 1000000 in
theorem region_flowG2 {id : Nat} {ops : Array Oper} {Q : Exit → Act → World → Prop} {a : Act} {w : World} (d : Nat → Nat) (f : Nat → Value → World → Prop) (pf : Nat → Value → Prop) (T : TypeId) (z0 : Obj) (G : Nat → World → Prop) (iA iS eS : Nat) (rb ch : Nat → Bool) (kb : Value → Nat) (ds : List Nat) (outs : List (Nat × Value)) (hchA : ch iA = false)
    (hA : iA < iS) (heS : eS < iS) (heA : eS ≠ iA) (hrA : rb iA = true) (hrE : rb eS = true) (hiS : iS < ops.size)
    (hopA : ∃ ty pos aft, ops[iA]? = some ⟨some (d iA), .alloc T, ty, pos, aft, none⟩)
    (hopS : ∃ ty pos aft, ops[iS]? = some ⟨none, .store T (.tmp (d iA)) (.tmp (d eS)), ty, pos, aft, none⟩)
    (halloc : ∀ (a : Act) (W : World) (K : Act → World → Prop) (d : Nat) ty pos aft, K (a.put (some d) (.pointer (some ⟨W.heap.size, 0, none⟩))) (W.alloc z0) → Oper.wp Try.prog ⟨some d, .alloc T, ty, pos, aft, none⟩ a W K Q)
    (hstore : ∀ (a : Act) (W : World) (K : Act → World → Prop) (D : Nat) (x : Value) ty pos aft, a.tmps[d iA]?.getD undef = .pointer (some ⟨D, 0, none⟩) → a.tmps[d eS]?.getD undef = x → f eS x W → (ch eS = true → kb x ≠ D) → W.heap[D]? = some z0 → (∀ W', (∀ n, n ≤ D → Below n W W') → G D W' → K a W') → Oper.wp Try.prog ⟨none, .store T (.tmp (d iA)) (.tmp (d eS)), ty, pos, aft, none⟩ a W K Q)
    (hdst : ∀ (i : Nat) (o : Oper), ops[i]? = some o → i ≠ iS → o.dst = some (d i) ∧ o.guard = none)
    (hdi : ∀ i, i < ops.size → ∀ j, j < ops.size → i ≠ iS → j ≠ iS → d i = d j → i = j)
    (hds : ∀ i, i < ops.size → i ≠ iS → d i ∈ ds)
    (hall : allB ops iS rb = true) (hb : backB ops = true) (hnd : ds.Nodup) (hsz : ∀ e ∈ ds, e < a.tmps.size) (hout : ∀ q ∈ outs, a.eval (.tmp q.1) = q.2 ∧ q.1 ∉ ds)
    (hlate : ∀ (i : Nat) (o : Oper), ops[i]? = some o → iS < i → ∀ L : Array Bool, Closed ops L → (∀ e ∈ o.after, Region.binds .any e = true → L.getD e.on false = true) → L.getD iS true = true)
    (hmono : ∀ i x W W', f i x W → Below W.heap.size W W' → f i x W')
    (hpf : ∀ i x W, f i x W → pf i x)
    (hstep : ∀ (i : Nat) (o : Oper), ops[i]? = some o → i < iS → i ≠ iA → FlowStep iA w Q outs d f ch kb i o)
    (hlast : ∀ (i : Nat) (o : Oper), ops[i]? = some o → i ≠ iS → (iS < i ∨ rb i = false) → LateStep iA iS Q d pf i o)
    (hend : ∀ v W, (∃ D, v (d iA) = .pointer (some ⟨D, 0, none⟩) ∧ w.heap.size ≤ D ∧ G D W) → (∀ i, i < ops.size → i ≠ iS → i ≠ iA → pf i (v (d i))) → Below w.heap.size w W → Q .normal (laid a ds v) W) :
    (Code.region id ops true).wp Try.prog Q a w := by
  have hwd : Below w.heap.size w w.drew := below_drew1 w
  refine wp_region_laid ds outs (fun L v W => L.size = ops.size ∧ Flow ops w d f pf z0 G iA iS rb ch kb L v W) (by kernel_rfl) (back_of hb) hnd hsz hout ?_ ?_ ?_ (fun L v W hJ hall2 => ?_)
  · intro i o ho e he
    by_cases h : i = iS
    · obtain ⟨ty, pos, aft, e2⟩ := hopS
      rw [h, e2] at ho
      obtain rfl := Option.some.inj ho
      cases he
    · have := (hdst i o ho h).1
      rw [this] at he
      cases he
      exact hds i (Array.getElem?_eq_some_iff.1 ho).1 h
  · have h0 : ∀ i, i < ops.size → (Array.replicate ops.size false).getD i true = false := fun i hi => by simp [hi]
    refine ⟨by simp, Closed.start, hwd, fun _ i hi _ h => ?_, fun _ h => ?_, fun h => ?_, fun h => ?_, fun h => ?_, fun _ i hi hi2 => h0 i hi2⟩
    · rw [h0 i (by omega)] at h; cases h
    · rw [h0 iA (by omega)] at h; cases h
    · rw [h0 iS hiS] at h; cases h
    · rw [h0 iS hiS] at h; cases h
    · rw [h0 iS hiS] at h; cases h
  · intro i o ho L v W a' hJ hv hq hL hd K hK
    obtain ⟨hsize, hF⟩ := hJ
    have hi : i < ops.size := (Array.getElem?_eq_some_iff.1 ho).1
    have hcl := hF.cl.set ho hd
    have hsz2 : (L.setIfInBounds i true).size = ops.size := by simp [hsize]
    have hdone : ∀ j, depB o j = true → L.getD j true = true := fun j hj => dep_of hd j hj
    have hjs : ∀ j, depB o j = true → j < i := fun j hj => by
      unfold depB at hj
      rw [Array.any_eq_true'] at hj
      obtain ⟨e, he, h2⟩ := hj
      rw [Bool.and_eq_true, beq_iff_eq] at h2
      have := back_of hb i o ho e he h2.1
      omega
    by_cases hSi : i = iS
    · subst hSi
      obtain ⟨ty, pos, aft, e⟩ := hopS
      have hpre := all_of hF.cl ho hall hd
      rw [e] at ho
      obtain rfl := Option.some.inj ho
      rw [if_pos (wanted_free _)]
      obtain ⟨D, e1, hDlo, hDh, hDk⟩ := hF.al hL (hpre iA hA hrA)
      obtain ⟨hfeS, _⟩ := hF.pre hL eS heS heA (hpre eS heS hrE)
      refine hstore a' W K D _ ty pos aft (by rw [hv _ (hds iA (by omega) (by omega))]; exact e1) (hv _ (hds eS (by omega) (by omega))) hfeS (fun hc => hDk eS heS heA hc (hpre eS heS hrE)) hDh (fun W' hBn hG => hK undef W' ⟨hsz2, hcl, ?_, fun h => ?_, fun h => ?_, fun _ j hj hjr => ?_, fun _ => ?_, fun _ j hj hjS hjA hjL => ?_, fun h => ?_⟩)
      · exact hF.below.trans (hBn _ hDlo)
      · rw [set_getD] at h; simp at h
      · rw [set_getD] at h; simp at h
      · rw [set_getD, hpre j hj hjr, Bool.or_true]
      · exact ⟨D, e1, hDlo, hG⟩
      · rw [set_getD] at hjL
        rcases Nat.lt_or_gt_of_ne hjS with hlt | hgt
        · exact hpf _ _ _ (hF.pre hL j hlt hjA (by simpa [hjS] using hjL)).1
        · have := hF.late hL j hgt hj
          rw [this] at hjL
          simp at hjL; omega
      · rw [set_getD] at h; simp at h
    · obtain ⟨hdo, hgo⟩ := hdst i o ho hSi
      have hnS : (L.setIfInBounds i true).getD iS true = L.getD iS true := by rw [set_getD]; simp [Ne.symm hSi]
      have hupd : ∀ x j, j < ops.size → j ≠ iS → updO v o.dst x (d j) = if j = i then x else v (d j) := fun x j hj hjS => by
        rw [hdo, upd_some]
        by_cases e : j = i
        · rw [e, if_pos rfl, if_pos rfl]
        · rw [if_neg (fun h => e (hdi j hj i hi hjS hSi h)), if_neg e]
      have hw : Region.wanted o (yielded ops a'.tmps) = true := by
        obtain ⟨dd, op, ty, pos, aft, g⟩ := o
        simp only at hgo
        subst hgo
        rfl
      rw [if_pos hw]
      have hway : (i < iS ∧ L.getD iS true = false) ∨ ((iS < i ∨ rb i = false) ∧ L.getD iS true = true) := by
        rcases Nat.lt_or_gt_of_ne hSi with hlt | hgt
        · cases h : L.getD iS true with
          | false => exact .inl ⟨hlt, rfl⟩
          | true =>
            refine .inr ⟨.inr ?_, rfl⟩
            cases hr : rb i with
            | false => rfl
            | true => rw [hF.all h i hlt hr] at hL; cases hL
        · exact .inr ⟨.inl hgt, hlate i o ho hgt L hF.cl hd⟩
      rcases hway with ⟨hlt, hLS⟩ | ⟨hgt, hLS⟩
      · skip
        by_cases hAi : i = iA
        · subst hAi
          obtain ⟨ty, pos, aft, e⟩ := hopA
          rw [e] at ho
          obtain rfl := Option.some.inj ho
          have hB := below1 W z0
          have hsa : (W.alloc z0).heap.size = W.heap.size + 1 := by simp
          have hA3 : K (a'.put (some (d i)) (.pointer (some ⟨W.heap.size, 0, none⟩))) (W.alloc z0) := by
            refine hK _ _ ⟨hsz2, hcl, hF.below.trans (hB.mono hF.below.size), fun _ j hj hjA hjL => ?_, fun _ _ => ⟨W.heap.size, ?_, hF.below.size, World.alloc_heap_new W _, fun j hj hjA hjc hjL => ?_⟩, fun h => ?_, fun h => ?_, fun h => ?_, fun _ j hj hj2 => ?_⟩
            · rw [set_getD] at hjL
              have hjL2 : L.getD j true = true := by simpa [hjA] using hjL
              rw [hupd _ j (by omega) (by omega), if_neg hjA]
              have := hF.pre hLS j hj hjA hjL2
              exact ⟨hmono _ _ _ _ this.1 hB, fun hc => by have := this.2 hc; omega⟩
            · rw [hupd _ i hi hSi, if_pos rfl]
            · rw [set_getD] at hjL
              have hjL2 : L.getD j true = true := by simpa [hjA] using hjL
              rw [hupd _ j (by omega) (by omega), if_neg hjA]
              have := (hF.pre hLS j hj hjA hjL2).2 hjc
              omega
            · rw [hnS, hLS] at h; cases h
            · rw [hnS, hLS] at h; cases h
            · rw [hnS, hLS] at h; cases h
            · rw [set_getD, hF.late hLS j hj hj2]; simp; omega
          revert hA3
          have hh := @halloc a' W K (d i) ty pos aft
          assumption
        · refine hstep i o ho hlt hAi a' v W K hF.below hq (fun j hjA hj => ?_) (fun x W' hB hf hc => hK x W' ?_)
          · have hj1 := hjs j hj
            have := hF.pre hLS j (by omega) hjA (hdone j hj)
            exact ⟨this.1, hv _ (hds j (by omega) (by omega)), this.2⟩
          · refine ⟨hsz2, hcl, hF.below.trans (hB.mono hF.below.size), fun _ j hj hjA hjL => ?_, fun _ hAL => ?_, fun h => ?_, fun h => ?_, fun h => ?_, fun _ j hj hj2 => ?_⟩
            · rw [hupd _ j (by omega) (by omega)]
              by_cases e : j = i
              · subst e
                rw [if_pos rfl]
                exact ⟨hf, fun h => (hc h).1⟩
              · rw [if_neg e]
                rw [set_getD] at hjL
                have hjL2 : L.getD j true = true := by simpa [e] using hjL
                have := hF.pre hLS j hj hjA hjL2
                exact ⟨hmono _ _ _ _ this.1 hB, fun hc => by have := this.2 hc; have := hB.size; omega⟩
            · rw [set_getD] at hAL
              have hAL2 : L.getD iA true = true := by simpa [Ne.symm hAi] using hAL
              obtain ⟨D, e1, hlo, hh, hne⟩ := hF.al hLS hAL2
              have hDl : D < W.heap.size := (Array.getElem?_eq_some_iff.1 hh).1
              refine ⟨D, by rw [hupd _ iA (by omega) (by omega), if_neg (Ne.symm hAi)]; exact e1, hlo, (hB.block D hDl).trans hh, fun j hj hjA hjc hjL => ?_⟩
              rw [hupd _ j (by omega) (by omega)]
              by_cases e : j = i
              · subst e
                rw [if_pos rfl]
                rcases (hc hjc).2 with h | ⟨m, hm, hmc, hmk⟩
                · omega
                · have hmA : m ≠ iA := fun e => by rw [e, hchA] at hmc; cases hmc
                  rw [hmk]
                  exact hne m (by have := hjs m hm; omega) hmA hmc (hdone m hm)
              · rw [if_neg e]
                rw [set_getD] at hjL
                exact hne j hj hjA hjc (by simpa [e] using hjL)
            · rw [hnS, hLS] at h; cases h
            · rw [hnS, hLS] at h; cases h
            · rw [hnS, hLS] at h; cases h
            · rw [set_getD, hF.late hLS j hj hj2]; simp; omega
      · have hiA : i ≠ iA := fun e => by
          rcases hgt with h | h
          · omega
          · rw [e, hrA] at h; cases h
        refine hlast i o ho hSi hgt a' v W K (fun j hjS hjA hj => ?_) (fun x hx => hK x W ⟨hsz2, hcl, hF.below, fun h => ?_, fun h => ?_, fun _ j hj hjr => ?_, fun _ => ?_, fun _ j hj hjS hjA hjL => ?_, fun h => ?_⟩)
        · have hj1 := hjs j hj
          exact ⟨hF.post hLS j (by omega) hjS hjA (hdone j hj), hv _ (hds j (by omega) hjS)⟩
        · rw [hnS, hLS] at h; cases h
        · rw [hnS, hLS] at h; cases h
        · rw [set_getD, hF.all hLS j hj hjr, Bool.or_true]
        · obtain ⟨D, e1, r⟩ := hF.st hLS
          exact ⟨D, by rw [hupd _ iA (by omega) (by omega), if_neg (Ne.symm hiA)]; exact e1, r⟩
        · rw [hupd _ j hj hjS]
          by_cases e : j = i
          · rw [e, if_pos rfl]; exact hx
          · rw [if_neg e]
            rw [set_getD] at hjL
            exact hF.post hLS j hj hjS hjA (by simpa [e] using hjL)
        · rw [hnS, hLS] at h; cases h
  · obtain ⟨hsize, hF⟩ := hJ
    have hLS := hall2 iS hiS
    exact hend v W (hF.st hLS) (fun i hi hiS hiA => hF.post hLS i hi hiS hiA (hall2 i hi)) hF.below
/-- the same, for a design -/
theorem region_flow2 {id : Nat} {ops : Array Oper} {Q : Exit → Act → World → Prop} {a : Act} {w : World} (d : Nat → Nat) (f : Nat → Value → World → Prop) (pf : Nat → Value → Prop) (E : Int → List Int → Prop) (iA iS eS : Nat) (rb ch : Nat → Bool) (kb : Value → Nat) (ds : List Nat) (outs : List (Nat × Value)) (hchA : ch iA = false)
    (hA : iA < iS) (heS : eS < iS) (heA : eS ≠ iA) (hrA : rb iA = true) (hrE : rb eS = true) (hiS : iS < ops.size)
    (hopA : ∃ ty pos aft, ops[iA]? = some ⟨some (d iA), .alloc 24, ty, pos, aft, none⟩)
    (hopS : ∃ ty pos aft, ops[iS]? = some ⟨none, .store 24 (.tmp (d iA)) (.tmp (d eS)), ty, pos, aft, none⟩)
    (hdst : ∀ (i : Nat) (o : Oper), ops[i]? = some o → i ≠ iS → o.dst = some (d i) ∧ o.guard = none)
    (hdi : ∀ i, i < ops.size → ∀ j, j < ops.size → i ≠ iS → j ≠ iS → d i = d j → i = j)
    (hds : ∀ i, i < ops.size → i ≠ iS → d i ∈ ds)
    (hall : allB ops iS rb = true) (hb : backB ops = true) (hnd : ds.Nodup) (hsz : ∀ e ∈ ds, e < a.tmps.size) (hout : ∀ q ∈ outs, a.eval (.tmp q.1) = q.2 ∧ q.1 ∉ ds)
    (hlate : ∀ (i : Nat) (o : Oper), ops[i]? = some o → iS < i → ∀ L : Array Bool, Closed ops L → (∀ e ∈ o.after, Region.binds .any e = true → L.getD e.on false = true) → L.getD iS true = true)
    (hmono : ∀ i x W W', f i x W → Below W.heap.size W W' → f i x W')
    (hpf : ∀ i x W, f i x W → pf i x)
    (hfe : ∀ x W, f eS x W → ∃ h p l c xs, x = .agg #[.int .i64 h, .slice p l c] ∧ E h xs ∧ Reads W (.slice p l c) xs ∧ (∀ y, p = some y → y.block = kb x ∧ ch eS = true))
    (hstep : ∀ (i : Nat) (o : Oper), ops[i]? = some o → i < iS → i ≠ iA → FlowStep iA w Q outs d f ch kb i o)
    (hlast : ∀ (i : Nat) (o : Oper), ops[i]? = some o → i ≠ iS → (iS < i ∨ rb i = false) → LateStep iA iS Q d pf i o)
    (hend : ∀ v W, (∃ D h p l c xs, v (d iA) = .pointer (some ⟨D, 0, none⟩) ∧ E h xs ∧ W.heap[D]? = some (.cells #[.int .i64 h, .slice p l c] 24 (0, 0)) ∧ Reads W (.slice p l c) xs ∧ w.heap.size ≤ D) → (∀ i, i < ops.size → i ≠ iS → i ≠ iA → pf i (v (d i))) → Below w.heap.size w W → Q .normal (laid a ds v) W) :
    (Code.region id ops true).wp Try.prog Q a w := by
  refine region_flowG2 d f pf 24 (.cells #[.int .i64 0, .slice none 0 0] 24) (fun D W => ∃ h p l c xs, E h xs ∧ W.heap[D]? = some (.cells #[.int .i64 h, .slice p l c] 24 (0, 0)) ∧ Reads W (.slice p l c) xs) iA iS eS rb ch kb ds outs hchA hA heS heA hrA hrE hiS hopA hopS ?_ ?_ hdst hdi hds hall hb hnd hsz hout hlate hmono hpf hstep hlast ?_
  · exact fun a W K d ty pos aft => @step_alloc24 Q K a W d ty pos aft
  · intro a W K D x ty pos aft e1 e2 hf hk hD hK
    obtain ⟨h, p, l, c, xs, rfl, hE, hr, hp⟩ := hfe _ _ hf
    have hne : qk l p ≠ some D := by
      unfold qk
      split
      · simp
      · intro hq
        obtain ⟨y, hy, hyb⟩ := Option.map_eq_some_iff.1 hq
        exact hk (hp y hy).2 (by rw [← (hp y hy).1]; exact hyb)
    refine step_store24 _ _ _ _ _ e1 e2 hD (hK _ (fun n hn => ((Below.refl _ _).setCell hn _).setCell hn _) ⟨h, p, l, c, xs, hE, ?_, reads_setCell (reads_setCell hr _ _ _ hne) _ _ _ hne⟩)
    show ((W.setCell ⟨D, 0, none⟩ (.int .i64 h)).setCell ⟨D, 1, none⟩ (.slice p l c)).heap[D]? = some (.cells #[.int .i64 h, .slice p l c] 24 (0, 0))
    simp [World.setCell, Array.getElem?_modify, hD]
  · rintro v W ⟨D, e1, hlo, h, p, l, c, xs, r1, r2, r3⟩ hp hB
    exact hend v W ⟨D, h, p, l, c, xs, e1, r1, r2, r3, hlo⟩ hp hB

section
variable {Q : Exit → Act → World → Prop} {K : Act → World → Prop} {a : Act} {W : World} (d s t u : Nat) (ty : TypeId) (pos : String) (aft : Array Edge)
theorem step_extract0of3 {x y z : Value} (hs : a.tmps[s]?.getD undef = .tuple #[x, y, z]) (hK : K (a.put (some d) x) W) : Oper.wp Try.prog ⟨some d, .extract (.tmp s) 0, ty, pos, aft, none⟩ a W K Q := by
  have e : a.eval (.tmp s) = .tuple #[x, y, z] := by rw [eval_tmp]; exact hs
  clear hs
  unfold Oper.wp
  simp only [execOp, e]
  exact hK
theorem step_extract1of3 {x y z : Value} (hs : a.tmps[s]?.getD undef = .tuple #[x, y, z]) (hK : K (a.put (some d) y) W) : Oper.wp Try.prog ⟨some d, .extract (.tmp s) 1, ty, pos, aft, none⟩ a W K Q := by
  have e : a.eval (.tmp s) = .tuple #[x, y, z] := by rw [eval_tmp]; exact hs
  clear hs
  unfold Oper.wp
  simp only [execOp, e]
  exact hK
theorem step_extract2of3 {x y z : Value} (hs : a.tmps[s]?.getD undef = .tuple #[x, y, z]) (hK : K (a.put (some d) z) W) : Oper.wp Try.prog ⟨some d, .extract (.tmp s) 2, ty, pos, aft, none⟩ a W K Q := by
  have e : a.eval (.tmp s) = .tuple #[x, y, z] := by rw [eval_tmp]; exact hs
  clear hs
  unfold Oper.wp
  simp only [execOp, e]
  exact hK
theorem step_field24 {B : Nat} (hs : a.tmps[s]?.getD undef = .pointer (some ⟨B, 0, none⟩)) (hK : K (a.put (some d) (.pointer (some ⟨B, 1, none⟩))) W) : Oper.wp Try.prog ⟨some d, .fieldAddr 24 (.tmp s) 1, ty, pos, aft, none⟩ a W K Q := by
  unfold Oper.wp
  simp only [execOp]
  go_simp
  exact hK
theorem step_load22 {B : Nat} {x : Value} (hs : a.tmps[s]?.getD undef = .pointer (some ⟨B, 1, none⟩)) (hc : W.cell? ⟨B, 1, none⟩ = some x) (hK : K (a.put (some d) x) W) : Oper.wp Try.prog ⟨some d, .load 22 (.tmp s), ty, pos, aft, none⟩ a W K Q := by
  unfold Oper.wp
  simp only [execOp]
  go_simp
  exact hK
theorem step_len22 {p : Option Addr} {l c : Nat} (_hl : l ≤ 1000) (hs : a.tmps[s]?.getD undef = .slice p l c) (hK : K (a.put (some d) (.int .i64 (l : Int))) W) : Oper.wp Try.prog ⟨some d, .call { callee := .builtin .len, args := #[.tmp s], argTypes := #[22] }, 3, pos, aft, none⟩ a W K Q := by
  unfold Oper.wp
  simp only [execOp]
  go_simp
  exact hK
set_option maxRecDepth 100000 in
theorem step_make22 {l : Nat} (hl : l ≤ 1000) (hs : a.tmps[s]?.getD undef = .int .i64 (l : Int)) (hK : K (a.put (some d) (.slice (some ⟨W.heap.size, 0, none⟩) l l)) (W.alloc (.cells (madeCells #[.int .i64 0] l) 3))) : Oper.wp Try.prog ⟨some d, .makeSlice 22 (.tmp s) (.tmp s), ty, pos, aft, none⟩ a W K Q := by
  have hmk := run_make_row' (P := Try.prog) 22 3 (.int .i64 0) 8 Try.underlying22 Try.info3 rfl .i64 .i64 l (by omega) (by omega)
  unfold Oper.wp
  simp only [execOp]
  go_simp
  exact hK
end
theorem step_call29 {Q : Exit → Act → World → Prop} {K : Act → World → Prop} {a : Act} {W : World} (d s t u : Nat) (tys : Array TypeId) (ty : TypeId) (pos : String) (aft : Array Edge) {x y z : Value} {R : Ending → World → Prop}
    (hs : a.tmps[s]?.getD undef = x) (ht : a.tmps[t]?.getD undef = y) (hu : a.tmps[u]?.getD undef = z) (hc : Calls Try.prog 29 #[x, y, z] W R) (hK : ∀ e w', R e w' → ∃ v, e = .returned v ∧ K (a.put (some d) v) w') :
    Oper.wp Try.prog ⟨some d, .call { callee := .value (.func 29), args := #[.tmp s, .tmp t, .tmp u], argTypes := tys }, ty, pos, aft, none⟩ a W K Q := by
  unfold Oper.wp
  simp only [execOp]
  have HS := Lib.hid hs
  have HT := Lib.hid ht
  have HU := Lib.hid hu
  have HK := Lib.hid hK
  have HC := Lib.hid hc
  clear hs ht hu hK hc
  go_simp
  rw [HS.out, HT.out, HU.out]
  refine HC.out.mono fun en w' hr => ?_
  obtain ⟨v, rfl, hk⟩ := HK.out _ _ hr
  exact hk
/-- a design that Bind returned, and how many changes it has -/
def BindT (n S : Nat) (zs : List Nat) (v : Value) (W : World) : Prop := ∃ R c, v = .tuple #[.agg #[.int .i64 (n : Int), .slice (some ⟨R, 0, none⟩) zs.length c], .int .i64 (S : Int), .int .i64 0] ∧ Reads W (.slice (some ⟨R, 0, none⟩) zs.length c) (ints zs) ∧ R < W.heap.size
def BindD (n : Nat) (zs : List Nat) (v : Value) (W : World) : Prop := ∃ R c, v = .agg #[.int .i64 (n : Int), .slice (some ⟨R, 0, none⟩) zs.length c] ∧ Reads W (.slice (some ⟨R, 0, none⟩) zs.length c) (ints zs) ∧ R < W.heap.size
theorem BindT.below {n S : Nat} {zs : List Nat} {v : Value} {W W' : World} (h : BindT n S zs v W) (hb : Below W.heap.size W W') : BindT n S zs v W' := by
  obtain ⟨R, c, e, hr, hl⟩ := h; exact ⟨R, c, e, hr.below hb, Nat.lt_of_lt_of_le hl hb.size⟩
theorem BindD.below {n : Nat} {zs : List Nat} {v : Value} {W W' : World} (h : BindD n zs v W) (hb : Below W.heap.size W W') : BindD n zs v W' := by
  obtain ⟨R, c, e, hr, hl⟩ := h; exact ⟨R, c, e, hr.below hb, Nat.lt_of_lt_of_le hl hb.size⟩
/-- the block of Bind's rows -/
def kb3 : Value → Nat
  | .agg a => kbA a
  | .tuple a => (match a.toList with
    | [.agg b, _, _] => kbA b
    | _ => 0)
  | _ => 0
def bF (n BD m S : Nat) (ys zs : List Nat) : Nat → Value → World → Prop
  | 0, v, W => DesF ⟨n, ys⟩ v W
  | 1, v, W => DesF ⟨n, ys⟩ v W
  | 2, v, _ => v = .pointer (some ⟨BD, 1, none⟩)
  | 3, v, _ => ∃ p c, v = .slice p ys.length c
  | 4, v, _ => v = .int .i64 (ys.length : Int)
  | 5, v, W => ∃ R, v = .slice (some ⟨R, 0, none⟩) ys.length ys.length ∧ NatBlk W R (List.replicate ys.length 0)
  | 6, v, _ => v = .int .i64 (m : Int)
  | 7, v, W => BindT n S zs v W
  | 8, v, W => BindT n S zs v W
  | 9, v, W => BindD n zs v W
  | 10, v, _ => v = .int .i64 (S : Int)
  | 11, v, _ => v = .int .i64 0
  | 14, v, _ => v = .int .i64 (S : Int)
  | 15, v, _ => v = .int .i64 0
  | _, _, _ => True
def bP (S : Nat) : Nat → Value → Prop
  | 8, v => ∃ x, v = .tuple #[x, .int .i64 (S : Int), .int .i64 0]
  | 10, v => v = .int .i64 (S : Int)
  | 11, v => v = .int .i64 0
  | 14, v => v = .int .i64 (S : Int)
  | 15, v => v = .int .i64 0
  | _, _ => True
theorem desF_below {x : DX} {v : Value} {W W' : World} (h : DesF x v W) (hb : Below W.heap.size W W') : DesF x v W' := by
  obtain ⟨b, o, c, e, hv⟩ := h; exact ⟨b, o, c, e, hv.below hb⟩
theorem bF_mono (n BD m S : Nat) (ys zs : List Nat) (i : Nat) (x : Value) (W W' : World) (h : bF n BD m S ys zs i x W) (hb : Below W.heap.size W W') : bF n BD m S ys zs i x W' := by
  unfold bF at h ⊢
  split at h <;> first
    | exact h
    | exact desF_below h hb
    | exact BindT.below h hb
    | exact BindD.below h hb
    | (obtain ⟨R, e, hn⟩ := h; exact ⟨R, e, hn.below' hb⟩)
theorem bF_pure (n BD m S : Nat) (ys zs : List Nat) (i : Nat) (x : Value) (W : World) (h : bF n BD m S ys zs i x W) : bP S i x := by
  unfold bP
  split <;> first
    | trivial
    | exact h
    | (obtain ⟨R, c, e, _⟩ := h; exact ⟨_, e⟩)
def bO (d : Nat → Nat) (sB sM : Nat) : Nat → Op
  | 0 => .load 24 (.tmp sB)
  | 1 => .call { callee := .value (.func 18), args := #[.tmp (d 0)], argTypes := #[24] }
  | 2 => .fieldAddr 24 (.tmp sB) 1
  | 3 => .load 22 (.tmp (d 2))
  | 4 => .call { callee := .builtin .len, args := #[.tmp (d 3)], argTypes := #[22] }
  | 5 => .makeSlice 22 (.tmp (d 4)) (.tmp (d 4))
  | 6 => .move (.tmp sM)
  | 7 => .call { callee := .value (.func 29), args := #[.tmp (d 1), .tmp (d 5), .tmp (d 6)], argTypes := #[24, 22, 3] }
  | 8 => .move (.tmp (d 7))
  | 9 => .extract (.tmp (d 8)) 0
  | 10 => .extract (.tmp (d 8)) 1
  | 11 => .extract (.tmp (d 8)) 2
  | 12 => .alloc 24
  | 13 => .store 24 (.tmp (d 12)) (.tmp (d 9))
  | 14 => .assign (.tmp (d 10))
  | _ => .assign (.tmp (d 11))
def bDeps (ops : Array Oper) : Bool := depAt ops 1 0 && depAt ops 3 2 && depAt ops 4 3 && depAt ops 5 4 && depAt ops 7 1 && depAt ops 7 5 && depAt ops 7 6 && depAt ops 8 7 && depAt ops 9 8 && depAt ops 10 8 && depAt ops 11 8 && depAt ops 14 10 && depAt ops 15 11 && depAt ops 14 13 && depAt ops 15 14
def bRb (i : Nat) : Bool := i != 10 && i != 11
def bCh (i : Nat) : Bool := i == 7 || i == 8 || i == 9
set_option maxHeartbeats 2000000 in
theorem region_bind {id : Nat} {ops : Array Oper} {Q : Exit → Act → World → Prop} {a : Act} {w : World} (d : Nat → Nat) (sB sM BD n m S : Nat) (ys zs : List Nat) (ds : List Nat) (hsz : ops.size = 16)
    (hop : ∀ i, i < 16 → ∃ ty pos aft, (i = 4 → ty = 3) ∧ ops[i]? = some ⟨if i = 13 then none else some (d i), bO d sB sM i, ty, pos, aft, none⟩) (hdep : bDeps ops = true)
    (hdi : ∀ i, i < 16 → ∀ j, j < 16 → i ≠ 13 → j ≠ 13 → d i = d j → i = j) (hds : ∀ i, i < 16 → i ≠ 13 → d i ∈ ds)
    (hall : allB ops 13 bRb = true) (hb : backB ops = true) (hnd : ds.Nodup) (hsz2 : ∀ e ∈ ds, e < a.tmps.size)
    (h5 : a.eval (.tmp sB) = .pointer (some ⟨BD, 0, none⟩)) (h5d : sB ∉ ds) (h6 : a.eval (.tmp sM) = .int .i64 (m : Int)) (h6d : sM ∉ ds)
    (hbox : BoxD w BD ⟨n, ys⟩)
    (hcall : ∀ W b1 o1 c1 R, VAt W b1 o1 c1 n ys → NatBlk W R (List.replicate ys.length 0) → Calls Try.prog 29 #[.agg #[.int .i64 (n : Int), .slice (some ⟨b1, o1, none⟩) ys.length c1], .slice (some ⟨R, 0, none⟩) ys.length ys.length, .int .i64 (m : Int)] W
      fun e w' => ∃ v, e = .returned v ∧ BindT n S zs v w' ∧ W.heap.size ≤ kb3 v ∧ Below W.heap.size W w')
    (hend : ∀ v W D p c, v (d 12) = .pointer (some ⟨D, 0, none⟩) → ArgBox W D n p zs.length c → Reads W (.slice p zs.length c) (ints zs) → v (d 14) = .int .i64 (S : Int) → v (d 15) = .int .i64 0 → Below w.heap.size w W → Q .normal (laid a ds v) W) :
    (Code.region id ops true).wp Try.prog Q a w := by
  obtain ⟨gb, go, gc, hba, hbv⟩ := hbox
  have l1 : ys.length ≤ 60 := hbv.ok.l1
  unfold bDeps at hdep
  simp only [Bool.and_eq_true] at hdep
  obtain ⟨⟨⟨⟨⟨⟨⟨⟨⟨⟨⟨⟨⟨⟨q1, q3⟩, q4⟩, q5⟩, q71⟩, q75⟩, q76⟩, q8⟩, q9⟩, q10⟩, q11⟩, q14⟩, q15⟩, r14⟩, r15⟩ := hdep
  have hlate : ∀ (i : Nat) (o : Oper), ops[i]? = some o → 13 < i → ∀ L : Array Bool, Closed ops L → (∀ e ∈ o.after, Region.binds .any e = true → L.getD e.on false = true) → L.getD 13 true = true := by
    intro i o ho hi L hcl hd
    have hin := (Array.getElem?_eq_some_iff.1 ho).1
    obtain h | h : i = 14 ∨ i = 15 := by omega
    · subst h
      exact dep_of hd 13 (depAt_of r14 ho)
    · subst h
      have h14 := dep_of hd 14 (depAt_of r15 ho)
      obtain ⟨_, _, _, _, e14⟩ := hop 14 (by omega)
      have := depAt_of r14 e14
      unfold depB at this
      rw [Array.any_eq_true'] at this
      obtain ⟨e, he, h2⟩ := this
      rw [Bool.and_eq_true, beq_iff_eq] at h2
      have := hcl 14 _ e14 h14 e he h2.1
      rwa [h2.2] at this
  refine region_flow2 d (bF n BD m S ys zs) (bP S) (fun h xs => h = (n : Int) ∧ xs = ints zs) 12 13 9 bRb bCh kb3 ds [(sB, .pointer (some ⟨BD, 0, none⟩)), (sM, .int .i64 (m : Int))] rfl (by omega) (by omega) (by omega) rfl rfl (by omega) ?_ ?_ ?_ (by rw [hsz]; exact hdi) (by rw [hsz]; exact hds) hall hb hnd hsz2 ?_ hlate (bF_mono n BD m S ys zs) (bF_pure n BD m S ys zs) ?_ ?_ ?_ ?_
  · obtain ⟨ty, pos, aft, _, e⟩ := hop 12 (by omega)
    exact ⟨ty, pos, aft, e⟩
  · obtain ⟨ty, pos, aft, _, e⟩ := hop 13 (by omega)
    exact ⟨ty, pos, aft, e⟩
  · intro i o ho hi
    obtain ⟨ty, pos, aft, _, e⟩ := hop i (by rw [← hsz]; exact (Array.getElem?_eq_some_iff.1 ho).1)
    rw [if_neg hi] at e
    rw [e] at ho
    obtain rfl := Option.some.inj ho
    exact ⟨rfl, rfl⟩
  · intro q hq
    simp only [List.mem_cons, List.not_mem_nil, or_false] at hq
    rcases hq with rfl | rfl
    · exact ⟨h5, h5d⟩
    · exact ⟨h6, h6d⟩
  · rintro x W ⟨R, c, rfl, hr, hl⟩
    exact ⟨n, some ⟨R, 0, none⟩, zs.length, c, ints zs, rfl, ⟨rfl, rfl⟩, hr, fun y hy => ⟨by cases hy; rfl, rfl⟩⟩
  · intro i o ho hi hiA
    have hho := ho
    obtain ⟨ty, pos, aft, hty, e⟩ := hop i (by omega)
    rw [e] at ho
    rw [if_neg (by omega)] at ho
    obtain rfl := Option.some.inj ho
    match i, hi, hiA with
    | 0, _, _ =>
      intro a' v W K hB hq hd hK
      have hb2 := hba.below hB
      exact step_load24 _ _ _ _ _ (hq (sB, _) (by simp)) hb2.c0 hb2.c1 (hK _ _ (Below.refl _ _) ⟨gb, go, gc, rfl, hbv.below hB⟩ (fun h => by cases h))
    | 1, _, _ =>
      intro a' v W K hB hq hd hK
      generalize hG : Oper.wp _ _ _ _ _ _ = G
      obtain ⟨f1, e1, _⟩ := hd 0 (by omega) (depAt_of q1 hho)
      obtain ⟨b, oo, c, g, hv⟩ := f1
      rw [g] at e1
      have hc := own_fresh n (some ⟨b, oo, none⟩) ys.length c (ints ys) W (by omega) hv.reads
      have hK2 : ∀ e w', CopyF n ys.length (ints ys) W e w' → ∃ v, e = .returned v ∧ K (a'.put (some (d 1)) v) w' := by
        rintro e w' ⟨p, c2, rfl, hr, hf, hB'⟩
        obtain ⟨b2, o2, rfl, hv2⟩ := vat_of_reads hr hv.ok
        exact ⟨_, rfl, hK _ _ hB' ⟨b2, o2, c2, rfl, hv2⟩ (fun h => by cases h)⟩
      rw [← hG]
      show Oper.wp Try.prog ⟨some (d 1), .call { callee := .value (.func 18), args := #[.tmp (d 0)], argTypes := #[24] }, ty, pos, aft, none⟩ a' W K Q
      revert e1 hc hK2
      exact @step_call18 Q K a' W (d 1) (d 0) #[24] ty pos aft _ _
    | 2, _, _ =>
      intro a' v W K hB hq hd hK
      have e1 := hq (sB, _) (List.mem_cons_self ..)
      have hk : K (a'.put (some (d 2)) (.pointer (some ⟨BD, 1, none⟩))) W := hK _ _ (Below.refl _ _) rfl (fun h => by cases h)
      generalize hG : Oper.wp _ _ _ _ _ _ = G
      rw [← hG]
      show Oper.wp Try.prog ⟨some (d 2), .fieldAddr 24 (.tmp sB) 1, ty, pos, aft, none⟩ a' W K Q
      revert e1 hk
      exact @step_field24 Q K a' W (d 2) sB ty pos aft BD
    | 3, _, _ =>
      intro a' v W K hB hq hd hK
      obtain ⟨f1, e1, _⟩ := hd 2 (by omega) (depAt_of q3 hho)
      exact step_load22 _ _ _ _ _ (e1.trans f1) (hba.below hB).c1 (hK _ _ (Below.refl _ _) ⟨_, _, rfl⟩ (fun h => by cases h))
    | 4, _, _ =>
      intro a' v W K hB hq hd hK
      obtain rfl := hty rfl
      obtain ⟨f1, e1, _⟩ := hd 3 (by omega) (depAt_of q4 hho)
      obtain ⟨p, c, g⟩ := f1
      exact step_len22 _ _ _ _ (by omega) (e1.trans g) (hK _ _ (Below.refl _ _) rfl (fun h => by cases h))
    | 5, _, _ =>
      intro a' v W K hB hq hd hK
      generalize hG : Oper.wp _ _ _ _ _ _ = G
      obtain ⟨f1, e1, _⟩ := hd 4 (by omega) (depAt_of q5 hho)
      have e2 := e1.trans f1
      have hk : K (a'.put (some (d 5)) (.slice (some ⟨W.heap.size, 0, none⟩) ys.length ys.length)) (W.alloc (.cells (madeCells #[.int .i64 0] ys.length) 3)) := hK _ _ (below1 _ _) ⟨_, rfl, NatBlk.made W ys.length⟩ (fun h => by cases h)
      have hl : ys.length ≤ 1000 := by omega
      rw [← hG]
      show Oper.wp Try.prog ⟨some (d 5), .makeSlice 22 (.tmp (d 4)) (.tmp (d 4)), ty, pos, aft, none⟩ a' W K Q
      clear e1 f1 hK hd hq hho hG
      revert e2 hk
      revert hl
      exact @step_make22 Q K a' W (d 5) (d 4) ty pos aft ys.length
    | 6, _, _ =>
      intro a' v W K hB hq hd hK
      exact step_move _ _ _ _ _ (hq (sM, _) (by simp)) (hK _ _ (Below.refl _ _) rfl (fun h => by cases h))
    | 7, _, _ =>
      intro a' v W K hB hq hd hK
      generalize hG : Oper.wp _ _ _ _ _ _ = G
      obtain ⟨f1, e1, _⟩ := hd 1 (by omega) (depAt_of q71 hho)
      obtain ⟨f2, e2, _⟩ := hd 5 (by omega) (depAt_of q75 hho)
      obtain ⟨f3, e3, _⟩ := hd 6 (by omega) (depAt_of q76 hho)
      obtain ⟨b, oo, c, g, hv⟩ := f1
      obtain ⟨R, g2, hR⟩ := f2
      have hc := hcall W b oo c R hv hR
      have hK2 : ∀ (e : Ending) (w' : World), (∃ v, e = .returned v ∧ BindT n S zs v w' ∧ W.heap.size ≤ kb3 v ∧ Below W.heap.size W w') → ∃ v, e = .returned v ∧ K (a'.put (some (d 7)) v) w' := by
        rintro e w' ⟨x, rfl, ht, hk, hB'⟩
        refine ⟨x, rfl, hK _ _ hB' ht (fun _ => ⟨?_, .inl hk⟩)⟩
        obtain ⟨R', c', rfl, _, hl⟩ := ht
        exact hl
      have e1' := e1.trans g
      have e2' := e2.trans g2
      have e3' := e3.trans f3
      rw [← hG]
      show Oper.wp Try.prog ⟨some (d 7), .call { callee := .value (.func 29), args := #[.tmp (d 1), .tmp (d 5), .tmp (d 6)], argTypes := #[24, 22, 3] }, ty, pos, aft, none⟩ a' W K Q
      clear e1 e2 e3
      revert hc hK2
      revert e1' e2' e3'
      exact @step_call29 Q K a' W (d 7) (d 1) (d 5) (d 6) #[24, 22, 3] ty pos aft _ _ _ _
    | 8, _, _ =>
      intro a' v W K hB hq hd hK
      obtain ⟨f1, e1, k1⟩ := hd 7 (by omega) (depAt_of q8 hho)
      exact step_move _ _ _ _ _ e1 (hK _ _ (Below.refl _ _) f1 (fun _ => ⟨k1 rfl, .inr ⟨7, depAt_of q8 hho, rfl, rfl⟩⟩))
    | 9, _, _ =>
      intro a' v W K hB hq hd hK
      obtain ⟨f1, e1, k1⟩ := hd 8 (by omega) (depAt_of q9 hho)
      obtain ⟨R, c, g, hr, hl⟩ := f1
      exact step_extract0of3 _ _ _ _ _ (e1.trans g) (hK _ _ (Below.refl _ _) ⟨R, c, rfl, hr, hl⟩ (fun _ => ⟨hl, .inr ⟨8, depAt_of q9 hho, rfl, by rw [g]; rfl⟩⟩))
    | 10, _, _ =>
      intro a' v W K hB hq hd hK
      obtain ⟨f1, e1, k1⟩ := hd 8 (by omega) (depAt_of q10 hho)
      obtain ⟨R, c, g, hr, hl⟩ := f1
      exact step_extract1of3 _ _ _ _ _ (e1.trans g) (hK _ _ (Below.refl _ _) rfl (fun h => by cases h))
    | 11, _, _ =>
      intro a' v W K hB hq hd hK
      obtain ⟨f1, e1, k1⟩ := hd 8 (by omega) (depAt_of q11 hho)
      obtain ⟨R, c, g, hr, hl⟩ := f1
      exact step_extract2of3 _ _ _ _ _ (e1.trans g) (hK _ _ (Below.refl _ _) rfl (fun h => by cases h))
    | 12, _, h => exact (h rfl).elim
  · intro i o ho hi hw
    have hho := ho
    have hin := (Array.getElem?_eq_some_iff.1 ho).1
    obtain ⟨ty, pos, aft, hty, e⟩ := hop i (by omega)
    rw [e] at ho
    rw [if_neg hi] at ho
    obtain rfl := Option.some.inj ho
    have hi4 : i = 10 ∨ i = 11 ∨ i = 14 ∨ i = 15 := by
      rcases hw with h | h
      · omega
      · unfold bRb at h
        simp at h
        omega
    rcases hi4 with rfl | rfl | rfl | rfl
    · intro a' v W K hd hK
      obtain ⟨f1, e1⟩ := hd 8 (by omega) (by omega) (depAt_of q10 hho)
      obtain ⟨x, g⟩ := f1
      exact step_extract1of3 _ _ _ _ _ (e1.trans g) (hK _ rfl)
    · intro a' v W K hd hK
      obtain ⟨f1, e1⟩ := hd 8 (by omega) (by omega) (depAt_of q11 hho)
      obtain ⟨x, g⟩ := f1
      exact step_extract2of3 _ _ _ _ _ (e1.trans g) (hK _ rfl)
    · intro a' v W K hd hK
      obtain ⟨f1, e1⟩ := hd 10 (by omega) (by omega) (depAt_of q14 hho)
      exact step_assign _ _ _ _ _ (e1.trans f1) (hK _ rfl)
    · intro a' v W K hd hK
      obtain ⟨f1, e1⟩ := hd 11 (by omega) (by omega) (depAt_of q15 hho)
      exact step_assign _ _ _ _ _ (e1.trans f1) (hK _ rfl)
  · rintro v W ⟨D, h, p, l, c, xs, e1, ⟨rfl, rfl⟩, e3, e4, _⟩ hp hB
    obtain rfl : l = zs.length := by rw [reads_len e4, ints_len]
    exact hend v W D p c e1 (ArgBox.of_blk e3) e4 (hp 14 (by omega) (by omega) (by omega)) (hp 15 (by omega) (by omega) (by omega)) hB
end Go.Proofs.Ytjobbleabepaiaa
namespace Go.Proofs.Ytjobbleabepaiaa
open Go.RowKit Go.Shelf

theorem pair_cells (W : World) (u v : Value) (t : TypeId) : (W.alloc (.cells #[u, v] t)).cell? ⟨W.heap.size, 0, none⟩ = some u ∧ (W.alloc (.cells #[u, v] t)).cell? ⟨W.heap.size, 1, none⟩ = some v := ⟨by simp, by simp⟩
theorem paper_in (w : World) (o : Obj) (hk H l c : Nat) (p : Option Addr) (us : List Nat) (hH : 1 ≤ H) (hH2 : H ≤ 24) (hk2 : hk < 256) (hu : U16At w (.slice p l c) us) :
    Calls Try.prog 59 #[.agg #[.int .u8 (hk : Int), .slice p l c], .int .i64 (H : Int)] (w.alloc o) fun e w' => ∃ b off cd ys, e = .returned (.agg #[.int .i64 (paperN hk H : Int), .slice (some ⟨b, off, none⟩) ys.length cd]) ∧
      Hid (Boxes w [⟨w'.heap.size, paperN hk H, some ⟨b, off, none⟩, ys.length, cd, ints ys⟩] (w'.alloc (.cells #[.int .i64 (paperN hk H : Int), .slice (some ⟨b, off, none⟩) ys.length cd] 24))) ∧ Hid (Valid (paperN hk H) ys) ∧ ys.length ≤ 20 := by
  have hB1 := below1 w o
  refine (paperDesign_any hk H l c p us (w.alloc o) hH hH2 hk2 (hu.below hB1)).mono ?_
  rintro e w2 ⟨b, off, cd, ys, rfl, hl20, hva, hb2⟩
  have hS0 : Boxes w [] w2 := ⟨fun x hx => by simp at hx, hB1.trans (hb2.mono hB1.size)⟩
  exact ⟨b, off, cd, ys, rfl, hS0.push _ (some ⟨b, off, none⟩) ys.length cd (ints ys) hva.reads, hva.ok, hl20⟩

theorem Boxes.more {w0 W : World} {L : List BX} (s : Boxes w0 L W) {B : Nat} {h : Int} {p : Option Addr} {l c : Nat} {xs : List Int} (a : ArgBox W B h p l c) (r : Reads W (.slice p l c) xs) : Boxes w0 (⟨B, h, p, l, c, xs⟩ :: L) W := by
  refine ⟨fun x hx => ?_, s.below⟩
  rcases List.mem_cons.1 hx with rfl | hx
  · exact ⟨a, r⟩
  · exact s.all x hx
/-- Bind, with nothing fixed -/
theorem bind_zero {n m : Nat} {ys : List Nat} (hv : Valid n ys) (hm : 2 ≤ m) (hm2 : m ≤ 24) (hal : ∀ i, i < ys.length → alikeB n (nthN ys i) = false) :
    ∃ zs S, S = (proofN n m ys).length ∧ Valid n zs ∧ zs.length = ys.length ∧ ∀ W b1 o1 c1 R, VAt W b1 o1 c1 n ys → NatBlk W R (List.replicate ys.length 0) →
      Calls Try.prog 29 #[.agg #[.int .i64 (n : Int), .slice (some ⟨b1, o1, none⟩) ys.length c1], .slice (some ⟨R, 0, none⟩) ys.length ys.length, .int .i64 (m : Int)] W
        fun e w' => ∃ v, e = .returned v ∧ BindT n S zs v w' ∧ W.heap.size ≤ kb3 v ∧ Below W.heap.size W w' := by
  have h0 : ∀ i, nthN (List.replicate ys.length 0) i = 0 := fun i => by
    unfold nthN
    by_cases h : i < ys.length
    · simp [h]
    · rw [List.getElem?_eq_none (by simp; omega)]; rfl
  have hb : ∀ i, i < ys.length → bindN n (nthN ys i) (nthN (List.replicate ys.length 0) i) m < never := fun i hi => by
    rw [h0 i]; exact (bindN_win (i := i) hv.n0 hv.n1 hm (hv.lt i) (hal i hi)).1
  have hlen := bindRows_len n m ys (List.replicate ys.length 0) ys.length
  refine ⟨bindRows n m ys (List.replicate ys.length 0) ys.length, bindSum n m ys (List.replicate ys.length 0) ys.length, ?_, ⟨hv.n0, hv.n1, by rw [hlen]; exact hv.l0, by rw [hlen]; exact hv.l1, fun i => ?_⟩, hlen, ?_⟩
  · rw [proof_rows]
    exact bindSum_win hv.n0 hv.n1 hm ys.length fun i hi => ⟨hv.lt i, hal i hi, h0 i⟩
  · by_cases hi : i < ys.length
    · have h1 := (bindN_best hv.n0 hv.n1 (hb i hi)).1
      rw [nthN_get _ _ (by rw [hlen]; exact hi)]
      unfold bindRows
      simp only [List.getElem_map, List.getElem_range]
      exact h1
    · unfold nthN
      rw [List.getElem?_eq_none (by rw [hlen]; omega)]
      exact Nat.pow_pos (by decide)
  · intro W b1 o1 c1 R hva hR
    refine (Bind_ok n b1 o1 c1 R 0 ys.length m ys (List.replicate ys.length 0) W hva (by simp) hR.nats hR.lt (fun i => by rw [h0 i]; exact Nat.pow_pos (by decide)) (by omega) hm2 hb).mono ?_
    rintro e w' ⟨v, rfl, hrow, hB⟩
    have hmap : (bindRows n m ys (List.replicate ys.length 0) ys.length).map natV = (ints (bindRows n m ys (List.replicate ys.length 0) ys.length)).map (Value.int .i64) := by simp [ints, natV]
    rw [hmap] at hrow
    have hrow2 := hrow
    obtain ⟨hl, ⟨_, hz⟩ | ⟨g, cap, cur, rfl, hg, hh, _⟩⟩ := hrow
    · have := hv.l0; omega
    · obtain ⟨p2, c2, e2, hrd, _⟩ := CopyOf.form (xs := ints (bindRows n m ys (List.replicate ys.length 0) ys.length)) (by rw [ints_len, hlen]; have := hv.l1; omega) (by rw [ints_len, hlen]; exact hrow2)
      rw [ints_len, hlen] at e2 hrd
      simp at e2
      obtain ⟨rfl, rfl⟩ := e2
      refine ⟨_, rfl, ⟨g, cap, by rw [hlen], by rw [hlen]; exact hrd, (Array.getElem?_eq_some_iff.1 hh).1⟩, hg, hB⟩

/-- the worlds of PointProved's first loops -/
structure PvW (w5 : World) (k : Nat) (u : Nat → Nat → Bool) (W : World) : Prop where
  s : Below w5.heap.size w5 W
  m : PairMap W w5.heap.size k u
theorem PvW.next {w5 W W' : World} {k : Nat} {u : Nat → Nat → Bool} (h : PvW w5 k u W) (hb : Below W.heap.size W W') : PvW w5 k u W' := ⟨h.s.trans (hb.mono h.s.size), h.m.below hb⟩
theorem PvW.drew {w5 W : World} {k : Nat} {u : Nat → Nat → Bool} (h : PvW w5 k u W) : PvW w5 k u W.drew := h.next (below_drew1 W)
theorem PvW.start (w5 : World) : PvW w5 0 (fun _ _ => false) (w5.alloc (.map #[] 0)) := ⟨below1 _ _, PairMap.made w5⟩
theorem PvW.put {w5 W W' : World} {k k' : Nat} {u u' : Nat → Nat → Bool} (h : PvW w5 k u W) (hg : W.grownBy W' (some w5.heap.size)) (hm : PairMap W' w5.heap.size k' u') : PvW w5 k' u' W' :=
  ⟨h.s.grown hg h.s.size (fun j hj => by cases hj; exact Nat.le_refl _), hm⟩
/-- with a box that holds a point -/
structure PvB (w5 : World) (k : Nat) (u : Nat → Nat → Bool) (B P q : Nat) (W : World) : Prop where
  p : PvW w5 k u W
  b0 : W.cell? ⟨B, 0, none⟩ = some (.int .i64 (P : Int))
  b1 : W.cell? ⟨B, 1, none⟩ = some (.int .i64 (q : Int))
  lt : B < W.heap.size
theorem PvB.next {w5 W W' : World} {k : Nat} {u : Nat → Nat → Bool} {B P q : Nat} (h : PvB w5 k u B P q W) (hb : Below W.heap.size W W') : PvB w5 k u B P q W' :=
  ⟨h.p.next hb, (hb.cell (p := ⟨B, 0, none⟩) h.lt).trans h.b0, (hb.cell (p := ⟨B, 1, none⟩) h.lt).trans h.b1, Nat.lt_of_lt_of_le h.lt hb.size⟩
theorem PvB.new {w5 W : World} {k : Nat} {u : Nat → Nat → Bool} (h : PvW w5 k u W) (P q : Nat) : PvB w5 k u W.heap.size P q (W.alloc (.cells #[.int .i64 (P : Int), .int .i64 (q : Int)] 90)) :=
  ⟨h.next (below1 _ _), (pair_cells W _ _ 90).1, (pair_cells W _ _ 90).2, by simp⟩
theorem PvB.drew {w5 W : World} {k : Nat} {u : Nat → Nat → Bool} {B P q : Nat} (h : PvB w5 k u B P q W) : PvB w5 k u B P q W.drew := h.next (below_drew1 W)
/-- which points are used -/
def Seen (n m : Nat) (ws : List Fl) (k t : Nat) (u : Nat → Nat → Bool) : Prop := ∀ a b, u a b = true → ∃ j s, j < ws.length ∧ s < m + 1 ∧ (j < k ∨ (j = k ∧ s < t)) ∧ a = (nthF ws j).pick ∧ b = ((nthF ws j).hook + s) % n
theorem Seen.start (n m : Nat) (ws : List Fl) : Seen n m ws 0 0 (fun _ _ => false) := fun a b h => by cases h
theorem Seen.free {n m k t : Nat} {ys : List Nat} {ws : List Fl} {u : Nat → Nat → Bool} (h : Seen n m ws k t u) (hA : Apart n m ys ws) (hk : k < ws.length) (ht : t < m + 1) : u (nthF ws k).pick (((nthF ws k).hook + t) % n) = false := by
  cases e : u (nthF ws k).pick (((nthF ws k).hook + t) % n) with
  | false => rfl
  | true =>
    exfalso
    obtain ⟨j, s, hj, hs, hlt, e1, e2⟩ := h _ _ e
    obtain ⟨e3, e4⟩ := hA.apart k j t s hk hj ht hs e1 e2
    omega
theorem Seen.put {n m k t : Nat} {ws : List Fl} {u : Nat → Nat → Bool} (h : Seen n m ws k t u) (hk : k < ws.length) (ht : t < m + 1) : Seen n m ws k (t + 1) (setU u (nthF ws k).pick (((nthF ws k).hook + t) % n)) := by
  intro a b hab
  unfold setU at hab
  by_cases e : a = (nthF ws k).pick ∧ b = ((nthF ws k).hook + t) % n
  · exact ⟨k, t, hk, ht, .inr ⟨rfl, by omega⟩, e.1, e.2⟩
  · rw [if_neg e] at hab
    obtain ⟨j, s, hj, hs, hlt, e1, e2⟩ := h a b hab
    exact ⟨j, s, hj, hs, by omega, e1, e2⟩
theorem Seen.over {n m k : Nat} {ws : List Fl} {u : Nat → Nat → Bool} (h : Seen n m ws k (m + 1) u) : Seen n m ws (k + 1) 0 u := fun a b hab => by
  obtain ⟨j, s, hj, hs, hlt, e1, e2⟩ := h a b hab
  exact ⟨j, s, hj, hs, by omega, e1, e2⟩

set_option maxRecDepth 100000 in
set_option maxHeartbeats 8000000 in
theorem PointProved_any (hk l c : Nat) (p : Option Addr) (us : List Nat) (T0 : Nat) (w : World) (hk2 : hk < 256) (ht0 : T0 < 256) (hu : U16At w (.slice p l c) us) :
    Calls Try.prog 11 #[.agg #[.int .u8 (hk : Int), .slice p l c], .int .u8 (T0 : Int)] w fun e w' => e = .returned (.bool true) ∧ Below w.heap.size w w' := by
  have HD := Lib.hid (paper_in w (.cells #[.int .u8 (hk : Int), .slice p l c] 81) hk 24 l c p us (by omega) (by omega) hk2 hu)
  obtain ⟨n, hn⟩ : ∃ n, paperN hk 24 = n := ⟨_, rfl⟩
  rw [hn] at HD
  obtain ⟨m, hm⟩ : ∃ m, m = 2 + T0 % 7 := ⟨_, rfl⟩
  have hm1 : 2 ≤ m := by omega
  have hm2 : m ≤ 8 := by omega
  have HM := Lib.hid hm
  clear hn hm hu
  have hmm := @run_makeMap Try.prog
  go_enter Try.func11, Try.ntmps11
  go_wp2_with fail
  refine HD.out.mono ?_
  rintro e w2 ⟨b, off, cd, ys, rfl, HS0, HV, l20⟩
  clear HD
  have a0 := HS0.out.get (x := ⟨w2.heap.size, n, some ⟨b, off, none⟩, ys.length, cd, ints ys⟩) (by simp)
  go_wp2_with fail
  have hme : 2 + (T0 : Int) % 7 = (m : Int) := by rw [HM.out]; omega
  rw [hme]
  clear hme HM a0
  refine (HS0.out.own (B := w2.heap.size) (by simp) HV.out).mono ?_
  rintro e w4 ⟨b1, o1, c1, rfl, v1, S4⟩
  have HS4 := Lib.hid S4
  clear HS0 S4
  go_wp2_with fail
  refine (Proof_ok n b1 o1 c1 m ys w4 v1 (by omega) (by omega)).mono ?_
  rintro e w5 ⟨v, rfl, hrow, hb5⟩
  obtain ⟨ws, hws⟩ : ∃ ws, ws = proofN n m ys := ⟨_, rfl⟩
  have hlen : ws.length ≤ 480 := by
    have h1 := proof_len (n := n) (m := m) (ys := ys) HV.out.n0
    have h2 : ys.length * n ≤ 20 * 24 := Nat.mul_le_mul l20 HV.out.n1
    rw [hws]; omega
  have HA := Lib.hid (show Apart n m ys ws from hws ▸ apart_of HV.out.n0 HV.out.lt)
  rw [← hws] at hrow
  obtain ⟨pv, capv, rfl, hfl⟩ := Fls.of_row hrow
  have HFl := Lib.hid hfl
  have HWs := Lib.hid hws
  have HS5 := Lib.hid (HS4.out.next hb5)
  clear HS4 hb5 hrow hws hfl v1
  have hl0 : (0 : Int) ≤ (ws.length : Int) := by omega
  go_wp2_with fail
  clear hmm hl0
  have HP0 := Lib.hid (PvW.start w5)
  obtain ⟨mb, hmb⟩ : ∃ mb, w5.heap.size = mb := ⟨_, rfl⟩
  obtain ⟨W6, hW6⟩ : ∃ W6, w5.alloc (.map #[] 0) = W6 := ⟨_, rfl⟩
  rw [hW6] at HP0 ⊢
  rw [hmb]
  have HMb := Lib.hid hmb
  clear hW6 hmb
  go_loopw [10] (fun i wr => ∃ (k K : Nat) (u : Nat → Nat → Bool), k ≤ ws.length ∧ i = .int .i64 k ∧ K = k * (m + 1) ∧ Seen n m ws k 0 u ∧ PvW w5 K u wr) (fun i _ => ws.length - (intOf i).toNat)
  case atStart => exact ⟨0, 0, _, Nat.zero_le _, rfl, by simp, Seen.start n m ws, HP0.out⟩
  case round =>
    obtain ⟨k, K, u, hk, rfl, hK, hSe, hP⟩ := hrel
    have HP := Lib.hid hP
    have HSe := Lib.hid hSe
    have HK := Lib.hid hK
    clear hP hSe HP0 hK
    by_cases hlt : k < ws.length
    · obtain ⟨g, rfl, hFA⟩ := HFl.out (by omega)
      have hFA2 := hFA.below HP.out.s hFA.lt
      obtain ⟨f, hf⟩ : ∃ f, f = nthF ws k := ⟨_, rfl⟩
      have hE := HA.out.each k hlt
      have c0 := hFA2.c0 k hlt
      have c1 := hFA2.c1 k hlt
      have c2 := hFA2.c2 k hlt
      rw [← hf] at c0 c1 c2 hE
      obtain ⟨h1, h2, h3, h4, h5⟩ := hE
      rw [h3] at c2
      obtain ⟨P, hPe⟩ : ∃ P, P = f.pick := ⟨_, rfl⟩
      obtain ⟨H, hHe⟩ : ∃ H, H = f.hook := ⟨_, rfl⟩
      rw [← hPe] at c0 h1 h5
      rw [← hHe] at c1 h2 h5
      have HF := Lib.hid (show nthF ws k = f ∧ P = f.pick ∧ H = f.hook from ⟨hf.symm, hPe, hHe⟩)
      have H5 := Lib.hid h5
      clear hf hPe hHe h3 h5 hFA2
      have HFA := Lib.hid hFA
      clear hFA
      have q0 := (HS5.out.next HP.out.s).get (x := ⟨w2.heap.size, n, some ⟨b, off, none⟩, ys.length, cd, ints ys⟩) (by simp)
      have hk0 : (0 : Int) ≤ (k : Int) := by omega
      have hk1 : (k : Int) < (ws.length : Int) := by omega
      have hP0 : decide ((P : Int) < 0) = false := by simp
      have hP1 : decide ((ys.length : Int) ≤ (P : Int)) = false := by simp; omega
      have hH0 : decide ((H : Int) < 0) = false := by simp
      have hH1 : decide ((n : Int) ≤ (H : Int)) = false := by simp; omega
      have hcast : ((m + 1 : Nat) : Int) = (m : Int) + 1 := by omega
      have hwm : IntKind.i64.wrap ((m : Int) + 1) = (m : Int) + 1 := IntWalk.i64_in _ (by omega)
      rw [hcast] at c2
      clear hcast
      go_wp2_with fail
      go_quiet (fail)
      go_wp2_with fail
      have dP : decide (ys.length ≤ P) = false := by simp; omega
      have dH : decide (n ≤ H) = false := by simp; omega
      simp only [dP, dH, Bool.or_false]
      clear hP0 hP1 hH0 hH1 hwm c0 c1 c2 q0 dP dH
      have HPd := Lib.hid (fun a => HP.out.next (below_drewN wr wr.heap.size a))
      go_loopw [11] (fun tt wi => ∃ (t K2 : Nat) (v : Nat → Nat → Bool), t ≤ m + 1 ∧ tt = .int .i64 t ∧ K2 = K + t ∧ Seen n m ws k t v ∧ PvW w5 K2 v wi) (fun tt _ => m + 1 - (intOf tt).toNat)
      case atStart => exact ⟨0, K, u, Nat.zero_le _, rfl, rfl, HSe.out, HPd.out _⟩
      case round =>
        obtain ⟨t, K2, v, ht, rfl, hK2, hSe2, hP2⟩ := hrel
        have HP2 := Lib.hid hP2
        have HSe2 := Lib.hid hSe2
        have HK2 := Lib.hid hK2
        clear hP2 hSe2 hK2 HPd
        by_cases htm : t < m + 1
        · have hFA2 := HFA.out.below HP2.out.s HFA.out.lt
          have c0 := hFA2.c0 k hlt
          have c1 := hFA2.c1 k hlt
          have c3 := hFA2.c3 k hlt
          have hfe := HF.out
          rw [hfe.1] at c0 c1 c3
          rw [← hfe.2.1] at c0
          rw [← hfe.2.2] at c1
          have HC3 := Lib.hid c3
          have hg := hFA2.lt
          have n1 := HV.out.n1
          have q0 := (HS5.out.next HP2.out.s).get (x := ⟨w2.heap.size, n, some ⟨b, off, none⟩, ys.length, cd, ints ys⟩) (by simp)
          have e1 := tmod_eq ((H : Int) + (t : Int)) n (by omega)
          rw [show ((H : Int) + (t : Int)).toNat = H + t by omega] at e1
          obtain ⟨q, hq⟩ : ∃ q, q = (H + t) % n := ⟨_, rfl⟩
          have hqn : q < n := by rw [hq]; exact Nat.mod_lt _ (by omega)
          rw [← hq] at e1
          have HQ := Lib.hid hq
          have hs1 : ¬ n = 0 := by omega
          have htm2 : (t : Int) ≤ (m : Int) := by omega
          have hwr : IntKind.i64.wrap ((H : Int) + (t : Int)) = (H : Int) + (t : Int) := IntWalk.i64_in _ (by omega)
          clear hfe c3 hFA2 hq
          go_wp2_with fail
          go_region
          clear e1 hs1 hwr hg n1 c0 c1 q0
          have HPB := Lib.hid ((PvB.new HP2.out P q).drew)
          obtain ⟨B, hB⟩ : ∃ B, wr.heap.size = B := ⟨_, rfl⟩
          obtain ⟨W9, hW9⟩ : ∃ W9, (wr.alloc (.cells #[.int .i64 (P : Int), .int .i64 (q : Int)] 90)).drew = W9 := ⟨_, rfl⟩
          rw [hW9, hB] at HPB ⊢
          clear hW9 hB
          have hL := H5.out t htm
          rw [← HQ.out] at hL
          have hPq : pt n ys (P : Int).toNat (q : Int).toNat = f.lifted := by
            unfold pt; rw [Int.toNat_natCast, Int.toNat_natCast, Nat.mod_eq_of_lt h1, Nat.mod_eq_of_lt hqn]; exact hL
          have HLi := Lib.hid (fun W (h : PvB w5 K2 v B P q W) => lifted_any n b off cd ys (P : Int) (q : Int) W (((HS5.out.next h.p.s)).vat (B := w2.heap.size) (by simp) HV.out) (by omega) (by omega))
          rw [hPq] at HLi
          have hfree : v P q = false := by
            have := HSe2.out.free HA.out hlt htm
            rw [HF.out.1, ← HF.out.2.1, ← HF.out.2.2, ← HQ.out] at this
            exact this
          have HKc := Lib.hid (fun (W : World) (h : PvB w5 K2 v B P q W) => (⟨h.b0, h.b1, ((HS5.out.next h.p.s).get (x := ⟨w2.heap.size, n, some ⟨b, off, none⟩, ys.length, cd, ints ys⟩) (by simp)).1, ((HS5.out.next h.p.s).get (x := ⟨w2.heap.size, n, some ⟨b, off, none⟩, ys.length, cd, ints ys⟩) (by simp)).2.1,
            (by have := (HFA.out.below h.p.s HFA.out.lt).c3 k hlt; rw [HF.out.1] at this; exact this), (by have := h.p.m.lookup (a := P) (b := q) (by omega) (by have := HV.out.n1; omega); rw [HMb.out, hfree] at this; exact this), h⟩ :
            W.cell? ⟨B, 0, none⟩ = some (.int .i64 (P : Int)) ∧ W.cell? ⟨B, 1, none⟩ = some (.int .i64 (q : Int)) ∧ W.cell? ⟨w2.heap.size, 0, none⟩ = some (.int .i64 (n : Int)) ∧ W.cell? ⟨w2.heap.size, 1, none⟩ = some (.slice (some ⟨b, off, none⟩) ys.length cd) ∧
            W.cell? ⟨g, k * 4 + 3, none⟩ = some (.bool f.lifted) ∧ (Instr.lookup 89 (.map (some mb)) (.agg #[.int .i64 (P : Int), .int .i64 (q : Int)]) false).run Try.prog W = .ok (.bool false) W ∧ PvB w5 K2 v B P q W))
          have HPd := Lib.hid HPB.out.drew
          obtain ⟨L, hLe⟩ : ∃ L, L = f.lifted := ⟨_, rfl⟩
          rw [← hLe] at HLi HKc
          have hbb : (L != L) = false := by cases L <;> rfl
          clear hL hPq hLe hfree
          go_wp2_with fail
          go_region_held3 (fun W => W.cell? ⟨B, 0, none⟩ = some (.int .i64 (P : Int)) ∧ W.cell? ⟨B, 1, none⟩ = some (.int .i64 (q : Int)) ∧ W.cell? ⟨w2.heap.size, 0, none⟩ = some (.int .i64 (n : Int)) ∧ W.cell? ⟨w2.heap.size, 1, none⟩ = some (.slice (some ⟨b, off, none⟩) ys.length cd) ∧
              W.cell? ⟨g, k * 4 + 3, none⟩ = some (.bool L) ∧ (Instr.lookup 89 (.map (some mb)) (.agg #[.int .i64 (P : Int), .int .i64 (q : Int)]) false).run Try.prog W = .ok (.bool false) W ∧ PvB w5 K2 v B P q W)
            ((first
              | exact HKc.out _ HPd.out
              | (refine HKc.out _ (PvB.next ?_ (by assumption)); go_split_ands; assumption)))
            ((go_at_call 63; (with_reducible refine (HLi.out _ ?_).mono ?_); rotate_left 1; rintro e w8 ⟨rfl, hb8⟩; rotate_left 1; (first | exact HPd.out | (go_split_ands; assumption))))
          all_goals clear HPd
          all_goals have HPz := Lib.hid (show PvB w5 K2 v B P q _ from (by go_split_ands; assumption))
          all_goals
            obtain ⟨w7, hup, hm7, hg7⟩ := HPz.out.p.m.update (a := P) (b := q) (by omega) (by have := HV.out.n1; omega) (show K2 ≤ 100000 by
              have e1 := HK2.out
              have e2 := HK.out
              have e3 : k * (m + 1) ≤ 480 * 9 := Nat.mul_le_mul (by omega) (by omega)
              omega)
            have HP7 := Lib.hid (HPz.out.p.put hg7 hm7)
            have z0 := HPz.out.b0
            have z1 := HPz.out.b1
            rw [HMb.out] at hup
            have HSe3 := Lib.hid (HSe2.out.put hlt htm)
            rw [HF.out.1, ← HF.out.2.1, ← HF.out.2.2, ← HQ.out] at HSe3
            clear hm7 hg7
            go_wp2_with fail
            go_roundw
            case rel => exact ⟨t + 1, K2 + 1, _, by omega, by go_num, by have := HK2.out; omega, HSe3.out, HP7.out⟩
            case measure => simp [intOf]; omega
        · obtain rfl : t = m + 1 := by omega
          have htm2 : ¬ ((m + 1 : Nat) : Int) ≤ (m : Int) := by omega
          go_wp2_with fail
          go_roundw
          case rel => exact ⟨k + 1, K2, v, by omega, by go_num, by have e1 := HK2.out; have e2 := HK.out; rw [Nat.add_mul]; omega, HSe2.out.over, HP2.out⟩
          case measure => simp [intOf]; omega
    · obtain rfl : k = ws.length := by omega
      have HSb := Lib.hid (HS5.out.next HP.out.s)
      clear HP HSe HK HFl HMb HS5
      go_wp2_with fail
      have hz : Hid (Boxes w [⟨w2.heap.size, n, some ⟨b, off, none⟩, ys.length, cd, ints ys⟩] wr) := HSb
      clear HSb
      go_loopw [13] (fun i wz => ∃ k : Nat, k ≤ ys.length ∧ i = .int .i64 k ∧ (∀ j, j < k → alikeB n (nthN ys j) = false) ∧ Boxes w [⟨w2.heap.size, n, some ⟨b, off, none⟩, ys.length, cd, ints ys⟩] wz) (fun i _ => ys.length - (intOf i).toNat)
      case atStart => exact ⟨0, Nat.zero_le _, rfl, fun j hj => by omega, hz.out⟩
      case round =>
        obtain ⟨k, hk, rfl, hal, hS⟩ := hrel
        have HS := Lib.hid hS
        have HAl := Lib.hid hal
        clear hz hS hal
        have q0 := HS.out.get (x := ⟨w2.heap.size, n, some ⟨b, off, none⟩, ys.length, cd, ints ys⟩) (by simp)
        by_cases hlt : k < ys.length
        · have hva := HS.out.vat (B := w2.heap.size) (b := b) (off := off) (c := cd) (by simp) HV.out
          have hcell := hva.at' k hlt
          obtain ⟨X, hX⟩ : ∃ X, X = nthN ys k := ⟨_, rfl⟩
          rw [← hX] at hcell
          have hXl : X < 2 ^ n := by rw [hX]; exact HV.out.lt k
          have HX := Lib.hid hX
          have n1 := HV.out.n1
          have hk0 : (0 : Int) ≤ (k : Int) := by omega
          have hk1 : (k : Int) < (ys.length : Int) := by omega
          have hX24 : X < 16777216 := by have := HV.out.lt' k; rw [← hX] at this; exact this
          have hpw : (2 : Int) ^ n = ((2 ^ n : Nat) : Int) := (Int.natCast_pow 2 n).symm
          obtain ⟨hp1, hp2⟩ := pow_bds n n1
          have hmn : min n 64 = n := by omega
          have hun : IntKind.u64.wrap (n : Int) = (n : Int) := IntWalk.u64_in _ (by omega)
          have hwp : IntKind.i64.wrap ((2 : Int) ^ n) = (2 : Int) ^ n := IntWalk.i64_in _ (by omega)
          have hwp1 : IntKind.i64.wrap ((2 : Int) ^ n - 1) = (2 : Int) ^ n - 1 := IntWalk.i64_in _ (by omega)
          have hw1 : IntKind.i64.wrap 1 = 1 := by decide
          clear hX hva
          by_cases hX0 : X = 0
          · have hb0 : ((X : Int) == 0) = true := by rw [beq_iff_eq]; omega
            clear hmn hun hwp hwp1 hw1 hpw hp1 hp2 hX0
            go_wp2_with fail
            go_region
            have HSq := Lib.hid HS.out.drew
            go_wp2_with fail
            refine (known_any _).mono ?_
            rintro e wz ⟨rfl, hbz⟩
            have SZ := Lib.hid (HSq.out.next hbz)
            go_wp2_with fail
            go_ret
            exact ⟨rfl, SZ.out.below⟩
          · have hb0 : ((X : Int) == 0) = false := by rw [beq_eq_false_iff_ne]; omega
            by_cases hX1 : X = 2 ^ n - 1
            · have hb1 : ((X : Int) == (2 : Int) ^ n - 1) = true := by rw [beq_iff_eq, hpw]; omega
              clear hpw hp1 hp2 hX0 hX1 hXl hX24
              go_wp2_with fail
              go_quiet (fail)
              have HSq := Lib.hid (fun a => HS.out.next (below_drewN wr wr.heap.size a))
              clear hmn hun hwp hwp1 hw1
              go_wp2_with fail
              refine (known_any _).mono ?_
              rintro e wz ⟨rfl, hbz⟩
              have SZ := Lib.hid ((HSq.out _).next hbz)
              go_wp2_with fail
              go_ret
              exact ⟨rfl, SZ.out.below⟩
            · have hb1 : ((X : Int) == (2 : Int) ^ n - 1) = false := by rw [beq_eq_false_iff_ne, hpw]; omega
              have HN := Lib.hid (show ∀ j, j < k + 1 → alikeB n (nthN ys j) = false from fun j hj => by
                by_cases h : j < k
                · exact HAl.out j h
                · obtain rfl : j = k := by omega
                  rw [← HX.out]; unfold alikeB; simp [hX0, hX1])
              clear hpw hp1 hp2
              go_wp2_with fail
              go_quiet (fail)
              have HSq := Lib.hid (fun a => HS.out.next (below_drewN wr wr.heap.size a))
              clear hmn hun hwp hwp1 hw1
              go_wp2_with fail
              go_roundw
              case rel => exact ⟨k + 1, by omega, by go_num, HN.out, HSq.out _⟩
              case measure => simp [intOf]; omega
        · obtain rfl : k = ys.length := by omega
          go_wp2_with fail
          obtain ⟨zs, S, hS0, hzv, hzl, hBi⟩ := bind_zero HV.out hm1 (by omega) HAl.out
          rw [← HWs.out] at hS0
          have HS0 := Lib.hid hS0
          clear hS0 q0
          refine region_bind (atL [152, 153, 154, 155, 156, 157, 158, 159, 151, 160, 161, 162, 14, 0, 15, 16]) 5 6 w2.heap.size n m S ys zs [152, 153, 154, 155, 156, 157, 158, 159, 151, 160, 161, 162, 14, 15, 16] rfl ?hop (by kernel_rfl) (by decide) (by decide) (by kernel_rfl) (by kernel_rfl) (by decide) ?hsz rfl (by decide) rfl (by decide) ?hbox hBi ?hend
          case hop =>
            intro i hi
            match i, hi with
            | 0, _ => exact ⟨_, _, _, (fun h => by cases h), rfl⟩
            | 1, _ => exact ⟨_, _, _, (fun h => by cases h), rfl⟩
            | 2, _ => exact ⟨_, _, _, (fun h => by cases h), rfl⟩
            | 3, _ => exact ⟨_, _, _, (fun h => by cases h), rfl⟩
            | 4, _ => exact ⟨3, _, _, (fun _ => rfl), rfl⟩
            | 5, _ => exact ⟨_, _, _, (fun h => by cases h), rfl⟩
            | 6, _ => exact ⟨_, _, _, (fun h => by cases h), rfl⟩
            | 7, _ => exact ⟨_, _, _, (fun h => by cases h), rfl⟩
            | 8, _ => exact ⟨_, _, _, (fun h => by cases h), rfl⟩
            | 9, _ => exact ⟨_, _, _, (fun h => by cases h), rfl⟩
            | 10, _ => exact ⟨_, _, _, (fun h => by cases h), rfl⟩
            | 11, _ => exact ⟨_, _, _, (fun h => by cases h), rfl⟩
            | 12, _ => exact ⟨_, _, _, (fun h => by cases h), rfl⟩
            | 13, _ => exact ⟨_, _, _, (fun h => by cases h), rfl⟩
            | 14, _ => exact ⟨_, _, _, (fun h => by cases h), rfl⟩
            | 15, _ => exact ⟨_, _, _, (fun h => by cases h), rfl⟩
            | j + 16, h => omega
          case hsz => intro d hd; simp only [List.mem_cons, List.not_mem_nil, or_false] at hd; show d < 183; omega
          case hbox => exact HS.out.boxD (B := w2.heap.size) (b := b) (off := off) (c := cd) (by simp) HV.out
          case hend =>
            intro v W D pr cr e12 ha hr e14 e15 hB
            simp only [atL, List.getD_cons_succ, List.getD_cons_zero] at e12 e14 e15
            simp only [laid, List.foldl, Act.put, List.setIfInBounds_toArray, List.set_cons_succ, List.set_cons_zero, e12, e14, e15]
            obtain ⟨rb, ro, rfl, hrv⟩ := vat_of_reads hr hzv
            have HSE := Lib.hid ((HS.out.next hB).more ha hr)
            have q0 := HSE.out.get (x := ⟨w2.heap.size, n, some ⟨b, off, none⟩, ys.length, cd, ints ys⟩) (by simp)
            have q1 := HSE.out.get (x := ⟨D, n, some ⟨rb, ro, none⟩, zs.length, cr, ints zs⟩) (by simp)
            have hSw : ((S : Int) == (ws.length : Int)) = true := by rw [beq_iff_eq, HS0.out]
            have hrt := HSE.out.plain (right_len n rb ro cr ys.length zs W (HSE.out.vat (B := D) (by simp) hzv) hzl)
            rw [hzl] at hrt
            have HRt := Lib.hid hrt
            clear e12 e14 e15 ha hr hB hrv HS HAl hBi hrt
            go_wp2_with fail
            refine HRt.out.mono ?_
            rintro e wy ⟨rfl, HSy⟩
            have HSY := Lib.hid HSy
            clear HSy HSE q0 q1 HRt
            have hl0 : (0 : Int) ≤ (ws.length : Int) := by omega
            go_wp2_with fail
            refine (known_any _).mono ?_
            rintro e wz ⟨rfl, hbz⟩
            have SZ := Lib.hid (HSY.out.next hbz)
            clear HSY hbz
            go_wp2_with fail
            go_ret
            exact ⟨rfl, SZ.out.below⟩
end Go.Proofs.Ytjobbleabepaiaa
