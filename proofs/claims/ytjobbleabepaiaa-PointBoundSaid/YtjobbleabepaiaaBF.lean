/- PointBound: what its walk wants. -/
import Derived.Test.YtjobbleabepaiaaBD
import Derived.Test.YtjobbleabepaiaaBC
import Derived.Test.YtjobbleabepaiaaXQ
import Derived.Test.YtjobbleabepaiaaXH
namespace Go.Proofs.Ytjobbleabepaiaa
section
open Go.RowKit

theorem chAll_one (n : Nat) (xs ys : List Nat) (i : Nat) : ∀ N, chAll (i : Int) n xs ys N = if i < N then ham (nthN xs i) (nthN ys i) n else 0
  | 0 => by simp [chAll]
  | k + 1 => by
    have ih := chAll_one n xs ys i k
    rw [chAll, ih]
    have hs : chSel (i : Int) k = decide (i = k) := by
      unfold chSel
      have h1 : decide ((i : Int) < 0) = false := by simp
      have h2 : decide ((i : Int) = (k : Int)) = decide (i = k) := decide_eq_decide.2 (by omega)
      rw [h1, h2]; rfl
    rw [hs]
    by_cases h : i = k
    · subst h; simp
    · by_cases h2 : i < k
      · have h3 : i < k + 1 := by omega
        simp [h, h2, h3]
      · have h3 : ¬ i < k + 1 := by omega
        simp [h, h2, h3]
theorem chAll_all (n : Nat) (xs ys : List Nat) (k : Nat) : chAll (-1) n xs ys (k + 1) = chAll (-1) n xs ys k + ham (nthN xs k) (nthN ys k) n := by
  rw [chAll]; rfl
/-- what Bind makes -/
structure BindFix (n m : Nat) (ys ks zs : List Nat) (S : Nat) : Prop where
  v : Valid n zs
  l : zs.length = ys.length
  ok : ∀ i, i < ys.length → OkRow (nthN ys i) (nthN ks i) n m (nthN zs i)
  s : S = chAll (-1) n ys zs ys.length
  least : ∀ xs : List Nat, (∀ i, i < ys.length → nthN xs i < 2 ^ n ∧ OkRow (nthN ys i) (nthN ks i) n m (nthN xs i)) → S ≤ chAll (-1) n ys xs ys.length
theorem bindRows_nth {n m : Nat} {ys ks : List Nat} {N i : Nat} (hi : i < N) : nthN (bindRows n m ys ks N) i = bindN n (nthN ys i) (nthN ks i) m % change := by
  rw [nthN_get _ _ (by rw [bindRows_len]; exact hi)]
  unfold bindRows
  simp only [List.getElem_map, List.getElem_range]
  rfl
theorem bindFix_of {n m : Nat} {ys ks : List Nat} (hv : Valid n ys) (hb : ∀ i, i < ys.length → bindN n (nthN ys i) (nthN ks i) m < never) : BindFix n m ys ks (bindRows n m ys ks ys.length) (bindSum n m ys ks ys.length) := by
  have hlen := bindRows_len n m ys ks ys.length
  have hbest := fun i hi => bindN_best hv.n0 hv.n1 (hb i hi)
  refine ⟨⟨hv.n0, hv.n1, by rw [hlen]; exact hv.l0, by rw [hlen]; exact hv.l1, fun i => ?_⟩, hlen, fun i hi => ?_, ?_, fun xs hx => ?_⟩
  · by_cases hi : i < ys.length
    · rw [bindRows_nth hi]; exact (hbest i hi).1
    · unfold nthN
      rw [List.getElem?_eq_none (by rw [hlen]; omega)]
      exact Nat.pow_pos (by decide)
  · rw [bindRows_nth hi]; exact (hbest i hi).2.1
  · have : ∀ k, k ≤ ys.length → bindSum n m ys ks k = chAll (-1) n ys (bindRows n m ys ks ys.length) k := fun k => by
      induction k with
      | zero => intro _; rfl
      | succ k ih =>
        intro hk
        rw [chAll_all, ← ih (by omega), bindRows_nth (by omega), (hbest k (by omega)).2.2.1]
        rfl
    exact this _ (Nat.le_refl _)
  · have : ∀ k, k ≤ ys.length → bindSum n m ys ks k ≤ chAll (-1) n ys xs k := fun k => by
      induction k with
      | zero => intro _; exact Nat.zero_le _
      | succ k ih =>
        intro hk
        have h1 := ih (by omega)
        have h2 := (hbest k (by omega)).2.2.2 (nthN xs k) (hx k (by omega)).1 (hx k (by omega)).2
        rw [chAll_all]
        have h3 : bindSum n m ys ks (k + 1) = bindSum n m ys ks k + bindN n (nthN ys k) (nthN ks k) m / change := rfl
        omega
    exact this _ (Nat.le_refl _)
/-- what is fixed stays -/
theorem fixed_stays {n m : Nat} {ys ks zs : List Nat} {S i : Nat} (hv : Valid n ys) (h : BindFix n m ys ks zs S) (hi : i < ys.length) : (nthN zs i ^^^ nthN ys i) &&& nthN ks i = 0 :=
  (con_bits (h.v.lt i) (hv.lt i)).1 (h.ok i hi).1
/-- a design with other points at which nothing is fixed -/
structure Other (n : Nat) (ys ks zs : List Nat) : Prop where
  v : Valid n zs
  l : zs.length = ys.length
  c : ∀ i, i < ys.length → con (nthN ys i) (nthN ks i) (nthN zs i) n = 0
theorem Other.start {n : Nat} {ys : List Nat} (hv : Valid n ys) (ks : List Nat) : Other n ys ks ys := ⟨hv, rfl, fun _ _ => (con_zero n).2 fun _ _ h => absurd rfl h⟩
theorem nth_set (xs : List Nat) (i j v : Nat) (hi : i < xs.length) : nthN (xs.set i v) j = if j = i then v else nthN xs j := by
  by_cases h : j = i
  · subst h; rw [if_pos rfl, nth_set_eq xs j v hi]
  · rw [if_neg h, nth_set_ne xs i j v (fun e => h e.symm)]
theorem flip_bit (z h j : Nat) : bitN (z ^^^ 2 ^ h) j = if j = h then !bitN z j else bitN z j := by
  unfold bitN
  rw [Nat.testBit_xor, Nat.testBit_two_pow]
  by_cases e : j = h
  · subst e; simp
  · have : ¬ h = j := fun x => e x.symm
    simp [e, this]
theorem flip_lt {z h n : Nat} (hz : z < 2 ^ n) (hh : h < n) : z ^^^ 2 ^ h < 2 ^ n := Nat.xor_lt_two_pow hz (Nat.pow_lt_pow_right (by decide) hh)
theorem Other.flip {n : Nat} {ys ks zs : List Nat} (h : Other n ys ks zs) {i b : Nat} (hi : i < ys.length) (hb : b < n) (hk : nthN ks i &&& 2 ^ b = 0) : Other n ys ks (zs.set i (nthN zs i ^^^ 2 ^ b)) := by
  have hil : i < zs.length := by rw [h.l]; exact hi
  have hf : bitN (nthN ks i) b = false := by
    have := congrArg (fun x => x.testBit b) hk
    simp only [Nat.testBit_and, Nat.testBit_two_pow_self, Bool.and_true, Nat.zero_testBit] at this
    exact this
  refine ⟨⟨h.v.n0, h.v.n1, by rw [List.length_set]; exact h.v.l0, by rw [List.length_set]; exact h.v.l1, fun j => ?_⟩, by rw [List.length_set]; exact h.l, fun j hj => ?_⟩
  · rw [nth_set _ _ _ _ hil]
    split
    · exact flip_lt (h.v.lt i) hb
    · exact h.v.lt j
  · rw [nth_set _ _ _ _ hil]
    split
    · rename_i e
      subst e
      refine (con_zero n).2 fun q hq hne => ?_
      rw [flip_bit] at hne
      by_cases e : q = b
      · subst e; exact hf
      · rw [if_neg e] at hne
        exact (con_zero n).1 (h.c j hj) q hq hne
    · exact h.c j hj
/-- if it is bound, so is what Bind returns, with no more changes -/
theorem Other.more {n m : Nat} {ys ks zs xs : List Nat} {S : Nat} (h : Other n ys ks xs) (hb : BindFix n m ys ks zs S) (hx : ∀ i, i < xs.length → BoundUp (nthN xs i) n m) : S ≤ chAll (-1) n ys xs ys.length :=
  hb.least xs fun i hi => ⟨h.v.lt i, h.c i hi, hx i (by rw [h.l]; exact hi)⟩
theorem Other.never {n m : Nat} {ys ks xs : List Nat} {k : Nat} (hv : Valid n ys) (h : Other n ys ks xs) (hk : k < ys.length) (hn : ¬ bindN n (nthN ys k) (nthN ks k) m < never) : ¬ ∀ i, i < xs.length → BoundUp (nthN xs i) n m := fun hx =>
  hn (bindN_lt hv.n0 hv.n1 (h.v.lt k) ⟨h.c k hk, hx k (by rw [h.l]; exact hk)⟩)
/-- how many windows a pick has -/
def cntTo (ws : List Fl) (j : Nat) : Nat → Nat
  | 0 => 0
  | k + 1 => cntTo ws j k + if (nthF ws k).pick = j then 1 else 0
theorem cntTo_le (ws : List Fl) (j : Nat) : ∀ k, cntTo ws j k ≤ k
  | 0 => Nat.le_refl _
  | k + 1 => by have := cntTo_le ws j k; rw [cntTo]; split <;> omega
theorem cntTo_take (ws : List Fl) (j : Nat) : ∀ k, k ≤ ws.length → cntTo ws j k = ((ws.take k).filter fun f => decide (f.pick = j)).length
  | 0, _ => by simp [cntTo]
  | k + 1, hk => by
    rw [cntTo, cntTo_take ws j k (by omega), List.take_succ_eq_append_getElem (show k < ws.length by omega), List.filter_append, List.length_append, nthF_get ws k (by omega)]
    congr 1
    by_cases h : ws[k].pick = j <;> simp [h]
theorem cnt_rows {n m : Nat} {ys : List Nat} (hn : 1 ≤ n) (hv : ∀ i, nthN ys i < 2 ^ n) (j : Nat) : ∀ N, (((List.range N).flatMap fun i => winRow n m (nthN ys i) i).filter fun f => decide (f.pick = j)).length = if j < N then (winRow n m (nthN ys j) j).length else 0
  | 0 => by simp
  | N + 1 => by
    have ih := cnt_rows (m := m) hn hv j N
    rw [List.range_succ, List.flatMap_append, List.filter_append, List.length_append, ih]
    simp only [List.flatMap_cons, List.flatMap_nil, List.append_nil]
    by_cases h : j = N
    · subst h
      have hall : ((winRow n m (nthN ys j) j).filter fun f => decide (f.pick = j)) = winRow n m (nthN ys j) j := List.filter_eq_self.2 fun f hf => by
        have := (winRow_alike hn (hv j) hf).1
        simpa using this
      rw [hall]; simp
    · have hno : ((winRow n m (nthN ys N) N).filter fun f => decide (f.pick = j)) = [] := List.filter_eq_nil_iff.2 fun f hf => by
        have := (winRow_alike hn (hv N) hf).1
        simp; omega
      rw [hno]
      by_cases h2 : j < N
      · rw [if_pos h2, if_pos (by omega)]; simp
      · rw [if_neg h2, if_neg (by omega)]; simp
theorem cnt_win {n m : Nat} {ys : List Nat} (hv : Valid n ys) {j : Nat} (hj : j < ys.length) : cntTo (proofN n m ys) j (proofN n m ys).length = (winRow n m (nthN ys j) j).length := by
  rw [cntTo_take _ _ _ (Nat.le_refl _), List.take_length, proof_rows, cnt_rows hv.n0 hv.lt, if_pos hj]
/-- in each pick as many points are changed as there are windows, at least -/
theorem enough {n m : Nat} {ys ks zs : List Nat} {S j : Nat} (hv : Valid n ys) (hb : BindFix n m ys ks zs S) (hj : j < ys.length) : cntTo (proofN n m ys) j (proofN n m ys).length ≤ chAll (j : Int) n ys zs ys.length := by
  rw [cnt_win hv hj, chAll_one, if_pos hj]
  exact win_le hv.n0 (hv.lt j) (hb.ok j hj).2
end
section
open Go.RowKit

theorem row_write {W : World} {B b m c : Nat} {xs : List Nat} (h : W.ownsRow B 3 1 (.slice (some ⟨b, 0, none⟩) m c) m (xs.map natV)) (j v : Nat) :
    (W.setCell ⟨b, j, none⟩ (.int .i64 (v : Int))).ownsRow B 3 1 (.slice (some ⟨b, 0, none⟩) m c) m ((xs.set j v).map natV) := by
  obtain ⟨hl, ⟨hx, _⟩ | ⟨g, cap, cur, e1, hg, hh, hc, hm, hs, ht⟩⟩ := h
  · simp at hx
  · simp at e1
    obtain ⟨rfl, rfl⟩ := e1
    refine ⟨by simpa using hl, .inr ⟨b, c, cur.setIfInBounds j (.int .i64 (v : Int)), rfl, hg, ?_, hc, hm, by simpa using hs, ?_⟩⟩
    · simp [World.setCell, Array.getElem?_modify, hh]
    · rw [Nat.mul_one] at ht ⊢
      rw [Array.toList_setIfInBounds, List.take_set, ht, List.map_set]
      rfl
theorem row_cell {W : World} {B b m c : Nat} {xs : List Nat} (h : W.ownsRow B 3 1 (.slice (some ⟨b, 0, none⟩) m c) m (xs.map natV)) {j : Nat} (hj : j < xs.length) :
    W.cell? ⟨b, j, none⟩ = some (.int .i64 (nthN xs j : Int)) ∧ W.frozen? ⟨b, j, none⟩ = false := by
  have h0 := h
  constructor
  · have := h0.cellAt j (by have := h.1; simp at this; omega)
    rw [this]
    simp [nthN_get xs j hj, hj, natV]
  · obtain ⟨_, ⟨hx, _⟩ | ⟨g', cap, cur, e1, _, hh, _⟩⟩ := h
    · simp at hx
    · simp at e1
      rw [← e1.1] at hh
      simp [World.frozen?, hh]
theorem row_form {W : World} {B e s k : Nat} {v : Value} {xs : List Value} (h : W.ownsRow B e s v k xs) (h0 : 0 < k) : ∃ g c, v = .slice (some ⟨g, 0, none⟩) k c ∧ B ≤ g ∧ g < W.heap.size := by
  obtain ⟨_, ⟨_, hx⟩ | ⟨g, cap, cur, e1, hg, hh, _⟩⟩ := h
  · omega
  · exact ⟨g, cap, e1, hg, (Array.getElem?_eq_some_iff.1 hh).1⟩
set_option maxHeartbeats 1000000 in
theorem ints_row (p : Option Addr) (c : Nat) (xs : List Int) (w : World) (h0 : 0 < xs.length) (hl : xs.length ≤ 100000) (hr : Reads w (.slice p xs.length c) xs) :
    Calls Try.prog 28 #[.slice p xs.length c] w fun e w' => ∃ g k, e = .returned (.slice (some ⟨g, 0, none⟩) xs.length k) ∧ w'.ownsRow w.heap.size 3 1 (.slice (some ⟨g, 0, none⟩) xs.length k) xs.length (xs.map (Value.int .i64)) ∧ (w.heap.size ≤ g ∧ g < w'.heap.size) ∧ Below w.heap.size w w' := by
  obtain ⟨i0, hi, hz0, hz1, hz2⟩ := info_parts Try.info3
  have hB : Below w.heap.size w (w.alloc (.cells #[] 3)) := (Below.refl _ _).alloc (Nat.le_refl _) _
  obtain ⟨q, c1, e1, hxl, hx⟩ := hr
  simp at e1
  obtain ⟨rfl, rfl⟩ := e1
  obtain ⟨b, off, rfl, hb, hi2⟩ := hx (by omega)
  have hi3 := hi2.below hB hb
  have HB := Lib.hid hB
  have HI := Lib.hid hi3
  clear hB hx hi2 hi3 hxl
  go_enter Try.func28, Try.ntmps28
  go_wp2_with (at_builtin; refine Shut.out ?_)
  unfold Shut
  refine wpList_append_own_at _ rfl _ _ 22 rfl w.heap.size 3 i0 _ 1 8 Try.underlying22 hi hz0 hz1 hz2 rfl (by omega) (.slice (some ⟨w.heap.size, 0, none⟩) 0 0) 0 [] rfl (World.ownsRow_made w #[] 0 (Nat.le_refl _) (Nat.zero_le _) rfl) ⟨b, off, none⟩ xs.length c (xs.map (Value.int .i64)) rfl (by simp) (fun j u h => ?c1) (fun u h => ?c2) (by unfold maxLen; omega) (by omega) (by simp) ?_
  case c1 =>
    rw [List.getElem?_map] at h
    obtain ⟨x, hx, rfl⟩ := Option.map_eq_some_iff.1 h
    obtain ⟨hj, e⟩ := List.getElem?_eq_some_iff.1 hx
    rw [addr_add, HI.out j hj, nthI_get xs j hj, e]
  case c2 =>
    obtain ⟨x, _, rfl⟩ := List.mem_map.1 h
    rfl
  intro v' w' hown hgrow hnil hat
  have HB2 := Lib.hid (HB.out.grown hgrow (by simp) (fun k hk => by simp [Value.ownBlock] at hk; omega))
  rw [Nat.zero_add, List.nil_append] at hown
  obtain ⟨g, k, rfl, hg1, hg2⟩ := row_form hown h0
  have HO := Lib.hid hown
  have HG := Lib.hid (And.intro hg1 hg2)
  clear hown hgrow hnil hat hg1 hg2
  go_wp2
  go_ret
  exact ⟨g, k, rfl, HO.out, HG.out, HB2.out⟩
theorem ownsRow_lo {W : World} {B B' e s k : Nat} {v : Value} {xs : List Value} (h : W.ownsRow B e s v k xs) (hB : B' ≤ B) : W.ownsRow B' e s v k xs := ownsRow_base h hB
set_option maxHeartbeats 1000000 in
/-- a copy of a design that may be written -/
theorem own_row (h : Int) (p : Option Addr) (c : Nat) (xs : List Int) (w : World) (h0 : 0 < xs.length) (hl : xs.length ≤ 100000) (hr : Reads w (.slice p xs.length c) xs) :
    Calls Try.prog 18 #[.agg #[.int .i64 h, .slice p xs.length c]] w fun e w' => ∃ g k, e = .returned (.agg #[.int .i64 h, .slice (some ⟨g, 0, none⟩) xs.length k]) ∧ w'.ownsRow w.heap.size 3 1 (.slice (some ⟨g, 0, none⟩) xs.length k) xs.length (xs.map (Value.int .i64)) ∧ (w.heap.size ≤ g ∧ g < w'.heap.size) ∧ Below w.heap.size w w' := by
  have hB : Below w.heap.size w ((w.alloc (.cells #[.int .i64 h, .slice p xs.length c] 24)).alloc (.cells #[.int .i64 0, .slice none 0 0] 24)).drew := (((Below.refl _ _).alloc (Nat.le_refl _) _).alloc (by simp) _).drew
  have HI := Lib.hid (ints_row p c xs _ h0 hl (hr.below hB))
  have HB := Lib.hid hB
  have Q : Hid (ResBox ((w.alloc (.cells #[.int .i64 h, .slice p xs.length c] 24)).alloc (.cells #[.int .i64 0, .slice none 0 0] 24)).drew (w.heap.size + 1)) := Lib.hid (by
    have := ResBox.new (w.alloc (.cells #[.int .i64 h, .slice p xs.length c] 24))
    rw [World.size_alloc] at this
    exact this)
  have D0 : Hid (((w.alloc (.cells #[.int .i64 h, .slice p xs.length c] 24)).alloc (.cells #[.int .i64 0, .slice none 0 0] 24)).drew.cell? ⟨w.heap.size, 0, none⟩ = some (.int .i64 h)) := Lib.hid (by
    refine (((Below.refl (w.heap.size + 1) (w.alloc (.cells #[.int .i64 h, .slice p xs.length c] 24))).alloc (by simp) _).drew.cell (p := ⟨w.heap.size, 0, none⟩) (by simp)).trans (by simp))
  clear hB hr
  go_enter Try.func18, Try.ntmps18
  go_wp2_with fail
  go_region_with (go_at_call 28; (with_reducible refine HI.out.mono ?_); rintro e w3 ⟨g3, c3, rfl, hr3, hg3, hb3⟩; have q := ResBox.below Q.out hb3 (by simp); have d03 := cell_lift hb3 (by simp; omega) D0.out; have k0 := q.c0; have k1 := q.c1; have k2 := q.f 0; have k3 := q.f 1; have HR3 := Lib.hid hr3; have HB3 := Lib.hid hb3; have HG3 := Lib.hid hg3; clear q hr3 hb3 hg3)
  all_goals go_wp2
  all_goals refine bodyPost_ret (v := .agg #[.int .i64 h, .slice (some ⟨g3, 0, none⟩) xs.length c3]) ?_ rfl ⟨g3, c3, rfl, ?_, ?_, ?_⟩
  all_goals first
    | exact (((HB.out.trans (HB3.out.mono HB.out.size)).setCell (by simp) _).setCell (by simp) _)
    | (have := HG3.out; simp at this; exact ⟨by omega, by simpa [World.setCell] using this.2⟩)
    | (have hg := HG3.out; refine own_set (own_set (ownsRow_lo HR3.out (by simp; omega)) _ _ ?_) _ _ ?_ <;> (simp [Value.ownBlock] at hg ⊢; omega))
    | simp [results, Try.results18, go_sem, k0, k1]
end
end Go.Proofs.Ytjobbleabepaiaa
