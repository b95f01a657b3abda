/- The windows of Proof, and the fewest changes. -/
import Derived.Test.YtjobbleabepaiaaVI
import Derived.Test.YtjobbleabepaiaaXA
import Derived.Test.YtjobbleabepaiaaBB
import Derived.Test.YtjobbleabepaiaaVL
import Derived.Test.YtjobbleabepaiaaVM
import Derived.WideKeyPair
namespace Go.Proofs.Ytjobbleabepaiaa
open Go.RowKit

theorem mod_inj {n f o o' : Nat} (hf : f < n) (h : o < n) (h' : o' < n) (e : (f + o) % n = (f + o') % n) : o = o' := by
  rw [add_mod2 hf h, add_mod2 hf h'] at e
  split at e <;> split at e <;> omega
theorem run_bit {s p f o : Nat} (hs : 0 < s) (hb : begins s p f = true) (hf : f < s) (ho : o < lenF s p f) : bitN p ((f + o) % s) = bitN p f := by
  rcases Nat.eq_zero_or_pos o with rfl | h
  · rw [Nat.add_zero, Nat.mod_eq_of_lt hf]
  · exact (lenF_spec hs hb hf).2.1 o h ho
theorem run_inj_le {s p f1 f2 o1 o2 : Nat} (hs : 0 < s) (b1 : begins s p f1 = true) (b2 : begins s p f2 = true) (h1 : f1 < s) (h2 : f2 < s) (l1 : o1 < lenF s p f1) (l2 : o2 < lenF s p f2)
    (e : (f1 + o1) % s = (f2 + o2) % s) (hle : o1 ≤ o2) : f1 = f2 ∧ o1 = o2 := by
  have n1 := (lenF_spec hs b1 h1).1.2
  have n2 := (lenF_spec hs b2 h2).1.2
  have hf : f1 = (f2 + (o2 - o1)) % s := by
    refine mod_inj (f := o1) (by omega) h1 (Nat.mod_lt _ hs) ?_
    rw [Nat.add_mod_mod, Nat.add_comm o1 f1, e]
    congr 1; omega
  by_cases hd : o2 - o1 = 0
  · rw [hd, Nat.add_zero, Nat.mod_eq_of_lt h2] at hf
    exact ⟨hf, by omega⟩
  · exfalso
    have hb : bitN p ((f1 + s - 1) % s) ≠ bitN p f1 := by simpa [begins] using b1
    apply hb
    have e1 : (f1 + s - 1) % s = (f2 + (o2 - o1 - 1)) % s := by
      rw [Nat.add_sub_assoc (by omega)]
      conv => lhs; rw [hf]
      rw [Nat.mod_add_mod, show f2 + (o2 - o1) + (s - 1) = f2 + (o2 - o1 - 1) + s by omega, Nat.add_mod_right]
    rw [e1, run_bit hs b2 h2 (by omega)]
    conv => rhs; rw [hf]
    rw [run_bit hs b2 h2 (by omega)]
theorem run_inj {s p f1 f2 o1 o2 : Nat} (hs : 0 < s) (b1 : begins s p f1 = true) (b2 : begins s p f2 = true) (h1 : f1 < s) (h2 : f2 < s) (l1 : o1 < lenF s p f1) (l2 : o2 < lenF s p f2)
    (e : (f1 + o1) % s = (f2 + o2) % s) : f1 = f2 ∧ o1 = o2 := by
  rcases Nat.le_total o1 o2 with h | h
  · exact run_inj_le hs b1 b2 h1 h2 l1 l2 e h
  · have := run_inj_le hs b2 b1 h2 h1 l2 l1 e.symm h
    exact ⟨this.1.symm, this.2.symm⟩
theorem least_of {P : Nat → Prop} (n : Nat) (h : P n) : ∃ o, o ≤ n ∧ P o ∧ ∀ i, i < o → ¬ P i := by
  induction n using Nat.strongRecOn with
  | ind n ih =>
    by_cases hex : ∃ i, i < n ∧ P i
    · obtain ⟨i, hi, hp⟩ := hex
      obtain ⟨o, h1, h2, h3⟩ := ih i hi hp
      exact ⟨o, by omega, h2, h3⟩
    · exact ⟨n, Nat.le_refl _, h, fun i hi hp => hex ⟨i, hi, hp⟩⟩
theorem back_one {s q o : Nat} (hs : 0 < s) (ho : o < s) : ((q + s - o) % s + s - 1) % s = (q + s - (o + 1)) % s := by
  rw [Nat.add_sub_assoc (by omega), Nat.mod_add_mod, show q + s - o + (s - 1) = q + s - (o + 1) + s by omega, Nat.add_mod_right]
theorem some_begins {s p q : Nat} (hs : 1 ≤ s) (hp : p < 2 ^ s) (ha : alikeB s p = false) (hq : q < s) : ∃ o, o < s ∧ begins s p ((q + s - o) % s) = true := by
  by_cases h : ∃ o, o < s ∧ begins s p ((q + s - o) % s) = true
  · exact h
  · exfalso
    have hno : ∀ o, o < s → begins s p ((q + s - o) % s) = false := fun o ho => by
      cases hb : begins s p ((q + s - o) % s) with
      | true => exact absurd ⟨o, ho, hb⟩ h
      | false => rfl
    have hall : ∀ o, o ≤ s → bitN p ((q + s - o) % s) = bitN p q := fun o => by
      induction o with
      | zero => intro _; rw [Nat.sub_zero, Nat.add_mod_right, Nat.mod_eq_of_lt hq]
      | succ o ih =>
        intro ho
        have hb := hno o (by omega)
        unfold begins at hb
        rw [back_one (by omega) (by omega)] at hb
        rw [← ih (by omega)]
        simpa using hb
    have : alikeB s p = true := alike_from (k := q) hs hp fun j hj => by
      by_cases hjq : j ≤ q
      · have := hall (q - j) (by omega)
        rwa [show q + s - (q - j) = j + s by omega, Nat.add_mod_right, Nat.mod_eq_of_lt hj] at this
      · have := hall (q + s - j) (by omega)
        rwa [show q + s - (q + s - j) = j by omega, Nat.mod_eq_of_lt hj] at this
    rw [this] at ha; cases ha
theorem run_cover {s p q : Nat} (hs : 1 ≤ s) (hp : p < 2 ^ s) (ha : alikeB s p = false) (hq : q < s) : ∃ f o, f < s ∧ begins s p f = true ∧ o < lenF s p f ∧ (f + o) % s = q := by
  obtain ⟨o0, ho0, hb0⟩ := some_begins hs hp ha hq
  obtain ⟨o, ho, hb, hmin⟩ := least_of (P := fun o => begins s p ((q + s - o) % s) = true) o0 hb0
  have hf : (q + s - o) % s < s := Nat.mod_lt _ (by omega)
  have hon : ∀ i, i ≤ o → ((q + s - o) % s + i) % s = (q + s - (o - i)) % s := fun i hi => by
    rw [Nat.mod_add_mod]; congr 1; omega
  have hal : ∀ i, i ≤ o → bitN p (((q + s - o) % s + i) % s) = bitN p ((q + s - o) % s) := fun i => by
    induction i with
    | zero => intro _; rw [Nat.add_zero, Nat.mod_mod]
    | succ i ih =>
      intro hi
      rw [← ih (by omega), hon (i + 1) hi, hon i (by omega)]
      have hb2 : begins s p ((q + s - (o - (i + 1))) % s) = false := by
        cases h : begins s p ((q + s - (o - (i + 1))) % s) with
        | true => exact absurd h (hmin (o - (i + 1)) (by omega))
        | false => rfl
      unfold begins at hb2
      rw [back_one (by omega) (by omega), show o - (i + 1) + 1 = o - i by omega] at hb2
      have h3 : bitN p ((q + s - (o - i)) % s) = bitN p ((q + s - (o - (i + 1))) % s) := by simpa using hb2
      exact h3.symm
  refine ⟨_, o, hf, hb, ?_, ?_⟩
  · have hsp := lenF_spec (by omega) hb hf
    by_cases hlt : o < lenF s p ((q + s - o) % s)
    · exact hlt
    · exact absurd (hal _ (by omega)) hsp.2.2
  · rw [hon o (Nat.le_refl _), Nat.sub_self, Nat.sub_zero, Nat.add_mod_right, Nat.mod_eq_of_lt hq]

theorem nodup_len {l l' : List Nat} (hn : l.Nodup) (hs : ∀ x ∈ l, x ∈ l') : l.length ≤ l'.length := by
  induction l generalizing l' with
  | nil => simp
  | cons a l ih =>
    have ha := hs a (by simp)
    have hn' := List.nodup_cons.1 hn
    have h1 := ih (l' := l'.erase a) hn'.2 (fun x hx => (List.mem_erase_of_ne (fun e => hn'.1 (by rw [← e]; exact hx))).2 (hs x (by simp [hx])))
    rw [List.length_erase_of_mem ha] at h1
    have h2 : 0 < l'.length := List.length_pos_of_mem ha
    simp only [List.length_cons]; omega
theorem ham_filter (p x : Nat) : ∀ k, ham p x k = ((List.range k).filter fun q => bitN p q != bitN x q).length
  | 0 => rfl
  | k + 1 => by
    rw [ham, ham_filter p x k, List.range_succ, List.filter_append, List.length_append]
    congr 1
    cases h1 : bitN p k <;> cases h2 : bitN x k <;> simp [h1, h2]

/-- the points of a window -/
def ptsOf (n : Nat) (w : Fl) : List Nat := (List.range w.length).map fun t => (w.hook + t) % n
/-- the windows of one pick -/
def winRow (n m p i : Nat) : List Fl := (ringFl (fun r => ⟨i, r.first, r.length, r.lifted⟩) (m : Int) (runsOf n p)).flatMap (winOf n m)
theorem range_nth (fs : List Fl) (g : Fl → List Fl) : (List.range fs.length).flatMap (fun i => g (nthF fs i)) = fs.flatMap g := by
  have : (List.range fs.length).map (nthF fs) = fs := by
    refine List.ext_getElem (by simp) fun i h1 h2 => ?_
    simp [nthF_get fs i h2]
  conv => rhs; rw [← this]
  rw [List.flatMap_map]
theorem proof_rows (n m : Nat) (xs : List Nat) : proofN n m xs = (List.range xs.length).flatMap fun i => winRow n m (nthN xs i) i := by
  unfold proofN winsTo upTo
  rw [range_nth _ (winOf n m), List.flatMap_assoc]
  rfl
/-- what a pick's runs are -/
theorem run_of {n p : Nat} {r : Run} (hn : 1 ≤ n) (h : r ∈ runsOf n p) :
    (alikeB n p = true ∧ r = ⟨0, 1000, bitN p 0⟩) ∨ (alikeB n p = false ∧ r.first < n ∧ begins n p r.first = true ∧ r = ⟨r.first, lenF n p r.first, bitN p r.first⟩ ∧ r.length < n) := by
  unfold runsOf at h
  split at h
  · exact .inl ⟨by assumption, by simpa using h⟩
  · rename_i ha
    obtain ⟨h1, h2, h3⟩ := runsTo_mem h
    refine .inr ⟨by simpa using ha, h1, h2, h3, ?_⟩
    rw [h3]; exact (lenF_spec (by omega) h2 h1).1.2
theorem run_alike {n p o : Nat} {r : Run} (hn : 1 ≤ n) (hp : p < 2 ^ n) (h : r ∈ runsOf n p) (ho : o < min r.length n) : bitN p ((r.first + o) % n) = r.lifted := by
  rcases run_of hn h with ⟨ha, rfl⟩ | ⟨ha, h1, h2, h3, h4⟩
  · exact alike_to hn hp (by omega) ha _ (Nat.mod_lt _ (by omega))
  · rw [h3]
    refine run_bit (by omega) h2 h1 ?_
    have h5 : r.length = lenF n p r.first := congrArg Run.length h3
    show o < lenF n p r.first
    omega
theorem win_off {K m a t : Nat} (ha : a < K / (m + 1)) (ht : t < m + 1) : a * (m + 1) + t < K := by
  have h1 : (a + 1) * (m + 1) ≤ K / (m + 1) * (m + 1) := Nat.mul_le_mul_right _ ha
  have h2 := Nat.div_mul_le_self K (m + 1)
  rw [Nat.add_mul] at h1; omega
theorem winRow_mem {n m p i : Nat} {w : Fl} (h : w ∈ winRow n m p i) : ∃ r ∈ runsOf n p, m < r.length ∧ ∃ a, a < min r.length n / (m + 1) ∧ w = ⟨i, (r.first + a * (m + 1)) % n, m + 1, r.lifted⟩ := by
  simp only [winRow, List.mem_flatMap, ringFl, List.mem_map, List.mem_filter, winOf, winTo, List.mem_range] at h
  obtain ⟨f, ⟨r, ⟨hr, hm⟩, rfl⟩, a, ha, rfl⟩ := h
  exact ⟨r, hr, by simp at hm; omega, a, ha, rfl⟩
/-- a window of a pick: its points are alike -/
theorem winRow_alike {n m p i : Nat} {w : Fl} (hn : 1 ≤ n) (hp : p < 2 ^ n) (h : w ∈ winRow n m p i) : w.pick = i ∧ w.hook < n ∧ w.length = m + 1 ∧ m < n ∧ ∀ t, t < m + 1 → bitN p ((w.hook + t) % n) = w.lifted := by
  obtain ⟨r, hr, hm, a, ha, rfl⟩ := winRow_mem h
  have h0 := win_off ha (show m < m + 1 by omega)
  refine ⟨rfl, Nat.mod_lt _ (by omega), rfl, by omega, fun t ht => ?_⟩
  simp only
  rw [Nat.mod_add_mod, Nat.add_assoc]
  exact run_alike hn hp hr (win_off ha ht)
theorem mem_winpts {n m q : Nat} {f : Fl} (h : q ∈ (winOf n m f).flatMap (ptsOf n)) : ∃ o, o < min f.length n ∧ q = (f.hook + o) % n := by
  simp only [winOf, winTo, List.mem_flatMap, List.mem_map, List.mem_range, ptsOf] at h
  obtain ⟨w, ⟨a, ha, rfl⟩, t, ht, rfl⟩ := h
  refine ⟨a * (m + 1) + t, win_off ha ht, ?_⟩
  rw [Nat.mod_add_mod, Nat.add_assoc]
theorem winpts_nodup {n m : Nat} {f : Fl} (hf : f.hook < n) : ((winOf n m f).flatMap (ptsOf n)).Nodup := by
  unfold List.Nodup
  rw [List.pairwise_flatMap]
  constructor
  · intro w hw
    simp only [winOf, winTo, List.mem_map, List.mem_range] at hw
    obtain ⟨a, ha, rfl⟩ := hw
    unfold ptsOf
    rw [List.pairwise_map]
    refine List.pairwise_lt_range.imp_of_mem fun {t t'} h1 h2 hlt e => ?_
    rw [List.mem_range] at h1 h2
    simp only at h1 h2 e
    rw [Nat.mod_add_mod, Nat.mod_add_mod, Nat.add_assoc, Nat.add_assoc] at e
    have e2 := mod_inj hf (by have := win_off ha h1; omega) (by have := win_off ha h2; omega) e
    omega
  · unfold winOf winTo
    rw [List.pairwise_map]
    refine List.pairwise_lt_range.imp_of_mem fun {a a'} h1 h2 hlt q hq q' hq' e => ?_
    rw [List.mem_range] at h1 h2
    simp only [ptsOf, List.mem_map, List.mem_range] at hq hq'
    obtain ⟨t, ht, rfl⟩ := hq
    obtain ⟨t', ht', rfl⟩ := hq'
    rw [Nat.mod_add_mod, Nat.mod_add_mod, Nat.add_assoc, Nat.add_assoc] at e
    have e2 := mod_inj hf (by have := win_off h1 ht; omega) (by have := win_off h2 ht'; omega) e
    have h3 : (a + 1) * (m + 1) ≤ a' * (m + 1) := Nat.mul_le_mul_right _ hlt
    rw [Nat.add_mul] at h3; omega
theorem winRow_nodup {n m p i : Nat} (hn : 1 ≤ n) : ((winRow n m p i).flatMap (ptsOf n)).Nodup := by
  unfold winRow
  rw [List.flatMap_assoc]
  unfold List.Nodup
  rw [List.pairwise_flatMap]
  have hin : ∀ f ∈ ringFl (fun r => (⟨i, r.first, r.length, r.lifted⟩ : Fl)) (m : Int) (runsOf n p), ∃ r ∈ runsOf n p, f = ⟨i, r.first, r.length, r.lifted⟩ := fun f hf => by
    simp only [ringFl, List.mem_map, List.mem_filter] at hf
    obtain ⟨r, ⟨hr, _⟩, rfl⟩ := hf
    exact ⟨r, hr, rfl⟩
  constructor
  · intro f hf
    obtain ⟨r, hr, rfl⟩ := hin f hf
    refine winpts_nodup ?_
    rcases run_of hn hr with ⟨_, rfl⟩ | ⟨_, h1, _⟩
    · exact hn
    · exact h1
  · unfold ringFl
    rw [List.pairwise_map]
    refine List.Pairwise.filter _ ?_
    unfold runsOf
    split
    · exact List.pairwise_singleton _ _
    · unfold runsTo
      rw [List.pairwise_map]
      refine (List.pairwise_lt_range.filter _).imp_of_mem fun {a b} ha hb hlt q hq q' hq' e => ?_
      rw [List.mem_filter, List.mem_range] at ha hb
      obtain ⟨o, ho, rfl⟩ := mem_winpts hq
      obtain ⟨o', ho', rfl⟩ := mem_winpts hq'
      simp only at ho ho' e
      have := (run_inj (by omega) ha.2 hb.2 ha.1 hb.1 (by omega) (by omega) e).1
      omega
theorem pick_len {α : Type} (l : List α) (g : α → List Nat) (D : Nat → Bool) (h : ∀ a ∈ l, ∃ q ∈ g a, D q = true) : l.length ≤ ((l.flatMap g).filter D).length := by
  induction l with
  | nil => simp
  | cons a l ih =>
    have h1 := ih fun b hb => h b (by simp [hb])
    obtain ⟨q, hq, hD⟩ := h a (by simp)
    have h2 : 0 < ((g a).filter D).length := List.length_pos_of_mem (List.mem_filter.2 ⟨hq, hD⟩)
    rw [List.flatMap_cons, List.filter_append, List.length_append, List.length_cons]; omega
/-- in each window a point is changed -/
theorem win_le {n m p x i : Nat} (hn : 1 ≤ n) (hp : p < 2 ^ n) (hx : BoundUp x n m) : (winRow n m p i).length ≤ ham p x n := by
  refine Nat.le_trans (pick_len _ (ptsOf n) (fun q => bitN p q != bitN x q) fun w hw => ?_) ?_
  · obtain ⟨_, h2, h3, h4, h5⟩ := winRow_alike hn hp hw
    obtain ⟨j, hj, hne⟩ := hx w.hook h2
    have e0 := h5 0 (by omega)
    have ej := h5 j (by omega)
    rw [Nat.add_zero, Nat.mod_eq_of_lt h2] at e0
    by_cases hc : bitN p w.hook = bitN x w.hook
    · refine ⟨(w.hook + j) % n, List.mem_map.2 ⟨j, List.mem_range.2 (by omega), rfl⟩, ?_⟩
      simp only [bne_iff_ne, ne_eq]
      intro e
      exact hne (by rw [← e, ej, ← e0, hc])
    · refine ⟨w.hook, List.mem_map.2 ⟨0, List.mem_range.2 (by omega), by rw [Nat.add_zero, Nat.mod_eq_of_lt h2]⟩, ?_⟩
      simpa using hc
  · rw [ham_filter]
    refine nodup_len ((winRow_nodup hn).filter _) fun q hq => ?_
    rw [List.mem_filter] at hq ⊢
    refine ⟨List.mem_range.2 ?_, hq.2⟩
    obtain ⟨w, _, hq2⟩ := List.mem_flatMap.1 hq.1
    obtain ⟨t, _, rfl⟩ := List.mem_map.1 hq2
    exact Nat.mod_lt _ (by omega)

/-- in a float every so-many-th point is changed -/
def restM (m L : Nat) : Nat := if L % (m + 1) = 0 then 1 else L % (m + 1)
def flipR (s m : Nat) (r : Run) : List Nat := ((List.range r.length).filter fun o => o % (m + 1) == restM m r.length).map fun o => (r.first + o) % s
def flips (s m p : Nat) : List Nat := (runsTo s p s).flatMap (flipR s m)
def bestRow (s m p : Nat) : Nat := rowTo (fun q => bitN p q != decide (q ∈ flips s m p)) s
theorem flip_iff {s m p f o : Nat} (hs : 1 ≤ s) (hf : f < s) (hb : begins s p f = true) (ho : o < lenF s p f) : (f + o) % s ∈ flips s m p ↔ o % (m + 1) = restM m (lenF s p f) := by
  unfold flips
  rw [List.mem_flatMap]
  constructor
  · rintro ⟨r, hr, hq⟩
    obtain ⟨h1, h2, h3⟩ := runsTo_mem hr
    rw [h3] at hq
    simp only [flipR, List.mem_map, List.mem_filter, List.mem_range] at hq
    obtain ⟨o', ⟨ho', hm⟩, e⟩ := hq
    obtain ⟨e1, e2⟩ := run_inj (by omega) h2 hb h1 hf ho' ho e
    rw [← e1, ← e2]
    simpa using hm
  · intro hm
    refine ⟨⟨f, lenF s p f, bitN p f⟩, ?_, ?_⟩
    · simp only [runsTo, List.mem_map, List.mem_filter, List.mem_range]
      exact ⟨f, ⟨hf, hb⟩, rfl⟩
    · simp only [flipR, List.mem_map, List.mem_filter, List.mem_range]
      exact ⟨o, ⟨ho, by simpa using hm⟩, rfl⟩
theorem best_bit {s m p q : Nat} (hq : q < s) : bitN (bestRow s m p) q = (bitN p q != decide (q ∈ flips s m p)) := by
  unfold bestRow bitN
  rw [rowTo_bit]
  simp [hq]
theorem best_lt (s m p : Nat) : bestRow s m p < 2 ^ s := rowTo_lt _ _
theorem restM_le (m L : Nat) (hm : 1 ≤ m) : 1 ≤ restM m L ∧ restM m L ≤ m ∧ L % (m + 1) ≤ restM m L := by
  have := Nat.mod_lt L (show 0 < m + 1 by omega)
  unfold restM; split <;> omega
theorem flip_short (m L o : Nat) (hm : 1 ≤ m) (ho : o < L) (e : o % (m + 1) = restM m L) : o / (m + 1) < L / (m + 1) := by
  have h1 := Nat.div_add_mod o (m + 1)
  have h2 := Nat.div_add_mod L (m + 1)
  have h3 := restM_le m L hm
  by_cases h : o / (m + 1) < L / (m + 1)
  · exact h
  · have h4 : (m + 1) * (L / (m + 1)) ≤ (m + 1) * (o / (m + 1)) := Nat.mul_le_mul_left _ (by omega)
    omega
theorem flipR_len (s m : Nat) (r : Run) (hm : 1 ≤ m) : (flipR s m r).length ≤ r.length / (m + 1) := by
  unfold flipR
  rw [List.length_map]
  have h1 : (((List.range r.length).filter fun o => o % (m + 1) == restM m r.length).map fun o => o / (m + 1)).length ≤ (List.range (r.length / (m + 1))).length := by
    refine nodup_len ?_ fun x hx => ?_
    · unfold List.Nodup
      rw [List.pairwise_map]
      refine (List.pairwise_lt_range.filter _).imp_of_mem fun {a b} ha hb hlt e => ?_
      rw [List.mem_filter] at ha hb
      have h1 := Nat.div_add_mod a (m + 1)
      have h2 := Nat.div_add_mod b (m + 1)
      have h3 := ha.2
      have h4 := hb.2
      rw [beq_iff_eq] at h3 h4
      rw [e, h3] at h1
      rw [h4] at h2
      omega
    · rw [List.mem_map] at hx
      obtain ⟨o, ho, rfl⟩ := hx
      rw [List.mem_filter, List.mem_range, beq_iff_eq] at ho
      exact List.mem_range.2 (flip_short m _ o hm ho.1 ho.2)
  simpa using h1
theorem flat_len {s m i : Nat} (hm : 1 ≤ m) : ∀ rs : List Run, (∀ r ∈ rs, r.length < s) → (rs.flatMap (flipR s m)).length ≤ ((ringFl (fun r => (⟨i, r.first, r.length, r.lifted⟩ : Fl)) (m : Int) rs).flatMap (winOf s m)).length
  | [], _ => by simp
  | r :: rs, h => by
    have h1 := flat_len (i := i) hm rs fun x hx => h x (by simp [hx])
    have h2 := flipR_len s m r hm
    have h3 := h r (by simp)
    rw [List.flatMap_cons, List.length_append]
    unfold ringFl at h1 ⊢
    rw [List.filter_cons]
    split
    · rw [List.map_cons, List.flatMap_cons, List.length_append]
      have h4 : (winOf s m ⟨i, r.first, r.length, r.lifted⟩).length = r.length / (m + 1) := by
        simp only [winOf, winTo, List.length_map, List.length_range]
        rw [Nat.min_eq_left (by omega)]
      omega
    · rename_i hc
      have h5 : r.length / (m + 1) = 0 := Nat.div_eq_of_lt (by simp at hc; omega)
      omega
theorem best_ham {s m p i : Nat} (hs : 1 ≤ s) (hm : 1 ≤ m) (ha : alikeB s p = false) : ham p (bestRow s m p) s ≤ (winRow s m p i).length := by
  refine Nat.le_trans (m := (flips s m p).length) ?_ ?_
  · rw [ham_filter]
    refine nodup_len (List.nodup_range.filter _) fun q hq => ?_
    rw [List.mem_filter, List.mem_range] at hq
    have h2 := hq.2
    rw [best_bit hq.1] at h2
    by_cases h : q ∈ flips s m p
    · exact h
    · simp [h] at h2
  · unfold winRow flips runsOf
    rw [if_neg (by simp [ha])]
    refine flat_len hm _ fun r hr => ?_
    obtain ⟨h1, h2, h3⟩ := runsTo_mem hr
    rw [h3]; exact (lenF_spec (by omega) h2 h1).1.2
theorem next_run {s p f : Nat} (hs : 1 ≤ s) (hf : f < s) (hb : begins s p f = true) : begins s p ((f + lenF s p f) % s) = true := by
  have hsp := lenF_spec (by omega) hb hf
  unfold begins
  rw [Nat.add_sub_assoc hs, Nat.mod_add_mod, show f + lenF s p f + (s - 1) = f + (lenF s p f - 1) + s by omega, Nat.add_mod_right, run_bit (by omega) hb hf (by omega)]
  simp only [bne_iff_ne, ne_eq]
  exact fun e => hsp.2.2 e.symm
theorem mod_step (o m r : Nat) (hr : r ≤ m) (hne : o % (m + 1) ≠ r) : ∃ j, 1 ≤ j ∧ j ≤ m ∧ (o + j) % (m + 1) = r := by
  have h0 := Nat.mod_lt o (show 0 < m + 1 by omega)
  by_cases h : o % (m + 1) < r
  · refine ⟨r - o % (m + 1), by omega, by omega, ?_⟩
    rw [Nat.add_mod, Nat.mod_eq_of_lt (show r - o % (m + 1) < m + 1 by omega), show o % (m + 1) + (r - o % (m + 1)) = r by omega, Nat.mod_eq_of_lt (by omega)]
  · refine ⟨r + (m + 1) - o % (m + 1), by omega, by omega, ?_⟩
    rw [Nat.add_mod, Nat.mod_eq_of_lt (show r + (m + 1) - o % (m + 1) < m + 1 by omega), show o % (m + 1) + (r + (m + 1) - o % (m + 1)) = r + (m + 1) by omega, Nat.add_mod_right, Nat.mod_eq_of_lt (by omega)]
theorem best_bound {s m p : Nat} (hs : 1 ≤ s) (hp : p < 2 ^ s) (hm : 2 ≤ m) (ha : alikeB s p = false) : BoundUp (bestRow s m p) s m := by
  intro q hq
  obtain ⟨f, o, hf, hb, ho, rfl⟩ := run_cover hs hp ha hq
  have hsp := lenF_spec (by omega) hb hf
  have hr := restM_le m (lenF s p f) (by omega)
  have hat : ∀ o', o' < lenF s p f → bitN (bestRow s m p) ((f + o') % s) = (bitN p f != decide (o' % (m + 1) = restM m (lenF s p f))) := fun o' ho' => by
    rw [best_bit (Nat.mod_lt _ (by omega)), run_bit (by omega) hb hf ho']
    congr 1
    exact decide_eq_decide.2 (flip_iff hs hf hb ho')
  have hmod : ∀ j, ((f + o) % s + j) % s = (f + (o + j)) % s := fun j => by rw [Nat.mod_add_mod, Nat.add_assoc]
  by_cases hfl : o % (m + 1) = restM m (lenF s p f)
  · refine ⟨1, by omega, ?_⟩
    have hlt : o + 1 < lenF s p f := by
      by_cases h : o + 1 < lenF s p f
      · exact h
      · exfalso
        have e : lenF s p f = o + 1 := by omega
        rw [e] at hfl
        have h1 := Nat.div_add_mod o (m + 1)
        unfold restM at hfl
        have h2 : (o + 1) % (m + 1) = (o % (m + 1) + 1) % (m + 1) := by rw [Nat.mod_add_mod]
        have h3 := Nat.mod_lt o (show 0 < m + 1 by omega)
        by_cases h4 : o % (m + 1) = m
        · rw [h4, Nat.mod_self] at h2
          rw [if_pos h2] at hfl
          omega
        · rw [Nat.mod_eq_of_lt (show o % (m + 1) + 1 < m + 1 by omega)] at h2
          rw [if_neg (by omega)] at hfl
          omega
    rw [hmod, hat _ hlt, hat o ho]
    have h3 : (o + 1) % (m + 1) ≠ restM m (lenF s p f) := by
      rw [← hfl]
      intro e
      have h2 : (o + 1) % (m + 1) = (o % (m + 1) + 1) % (m + 1) := by rw [Nat.mod_add_mod]
      have h3 := Nat.mod_lt o (show 0 < m + 1 by omega)
      by_cases h4 : o % (m + 1) = m
      · rw [h4, Nat.mod_self] at h2; omega
      · rw [Nat.mod_eq_of_lt (show o % (m + 1) + 1 < m + 1 by omega)] at h2; omega
    simp [h3, hfl]
  · obtain ⟨j, hj1, hj2, hj⟩ := mod_step o m _ hr.2.1 hfl
    by_cases hin : o + j < lenF s p f
    · refine ⟨j, hj2, ?_⟩
      rw [hmod, hat _ hin, hat o ho]
      simp [hj, hfl]
    · refine ⟨lenF s p f - o, by omega, ?_⟩
      have hnb := next_run hs hf hb
      have hnf : (f + lenF s p f) % s < s := Nat.mod_lt _ (by omega)
      have hn0 := (lenF_spec (by omega) hnb hnf).1.1
      have hr2 := restM_le m (lenF s p ((f + lenF s p f) % s)) (by omega)
      have h0 := flip_iff (m := m) hs hnf hnb (o := 0) (by omega)
      rw [Nat.add_zero, Nat.mod_mod, Nat.zero_mod] at h0
      rw [hmod, show o + (lenF s p f - o) = lenF s p f by omega, hat o ho, best_bit hnf]
      have h1 : ¬ (f + lenF s p f) % s ∈ flips s m p := fun h => by have := h0.1 h; omega
      simp only [h1, hfl, decide_false, Bool.bne_false]
      exact hsp.2.2
end Go.Proofs.Ytjobbleabepaiaa
namespace Go.Proofs.Ytjobbleabepaiaa
open Go.RowKit
open Go.Maps (Keyed IsMap)

theorem winRow_len {n m p i : Nat} (hn : 1 ≤ n) : (winRow n m p i).length ≤ n := by
  have h1 := pick_len (winRow n m p i) (ptsOf n) (fun q => decide (q < n)) fun w hw => by
    obtain ⟨r, hr, hm, a, ha, rfl⟩ := winRow_mem hw
    refine ⟨_, List.mem_map.2 ⟨0, List.mem_range.2 (by simp), rfl⟩, ?_⟩
    simp only [decide_eq_true_eq]
    exact Nat.mod_lt _ hn
  refine Nat.le_trans h1 ?_
  have h2 := nodup_len (l := ((winRow n m p i).flatMap (ptsOf n)).filter fun q => decide (q < n)) (l' := List.range n) ((winRow_nodup hn).filter _) fun q hq => by
    rw [List.mem_filter] at hq
    exact List.mem_range.2 (by simpa using hq.2)
  simpa using h2
theorem flat_le (f : Nat → List Fl) (c : Nat) (h : ∀ i, (f i).length ≤ c) : ∀ k, ((List.range k).flatMap f).length ≤ k * c
  | 0 => by simp
  | k + 1 => by
    have h1 := flat_le f c h k
    have h2 := h k
    rw [List.range_succ, List.flatMap_append, List.length_append]
    simp only [List.flatMap_cons, List.flatMap_nil, List.append_nil]
    rw [Nat.add_mul]; omega
theorem proof_len {n m : Nat} {ys : List Nat} (hn : 1 ≤ n) : (proofN n m ys).length ≤ ys.length * n := by
  rw [proof_rows]
  exact flat_le _ n (fun i => winRow_len hn) _
/-- Bind's changes of a pick are as many as its windows -/
theorem bindN_win {n m p i : Nat} (hn : 1 ≤ n) (hn2 : n ≤ 24) (hm : 2 ≤ m) (hp : p < 2 ^ n) (ha : alikeB n p = false) : bindN n p 0 m < never ∧ bindN n p 0 m / change = (winRow n m p i).length := by
  have hok : OkRow p 0 n m (bestRow n m p) := ⟨(con_zero n).2 fun j _ _ => by simp [bitN], best_bound hn hp hm ha⟩
  have hlt := bindN_lt hn hn2 (best_lt n m p) hok
  obtain ⟨h1, h2, h3, h4⟩ := bindN_best hn hn2 hlt
  have h5 := win_le (i := i) hn hp h2.2
  have h6 := best_ham (i := i) hn (show 1 ≤ m by omega) ha
  have h7 := h4 _ (best_lt n m p) hok
  refine ⟨hlt, ?_⟩
  omega
theorem bindSum_win {n m : Nat} {ys zs : List Nat} (hn : 1 ≤ n) (hn2 : n ≤ 24) (hm : 2 ≤ m) : ∀ k, (∀ i, i < k → nthN ys i < 2 ^ n ∧ alikeB n (nthN ys i) = false ∧ nthN zs i = 0) → bindSum n m ys zs k = ((List.range k).flatMap fun i => winRow n m (nthN ys i) i).length
  | 0, _ => rfl
  | k + 1, h => by
    have h1 := bindSum_win hn hn2 hm k fun i hi => h i (by omega)
    obtain ⟨h2, h3, h4⟩ := h k (by omega)
    have h5 := (bindN_win (i := k) hn hn2 hm h2 h3).2
    rw [bindSum, h1, List.range_succ, List.flatMap_append, List.length_append, h4]
    simp only [List.flatMap_cons, List.flatMap_nil, List.append_nil]
    unfold change at h5
    omega
theorem ws_pair {n m : Nat} {ys : List Nat} (hn : 1 ≤ n) (hv : ∀ i, nthN ys i < 2 ^ n) : (proofN n m ys).Pairwise (fun a b => ∀ t u, t < m + 1 → u < m + 1 → a.pick = b.pick → (a.hook + t) % n ≠ (b.hook + u) % n) := by
  have hmem : ∀ (q : Nat) (a : Fl), a ∈ winRow n m (nthN ys q) q → ∀ t, t < m + 1 → (a.hook + t) % n ∈ ptsOf n a := fun q a ha t ht => by
    have h := (winRow_alike hn (hv q) ha).2.2.1
    exact List.mem_map.2 ⟨t, List.mem_range.2 (by omega), rfl⟩
  rw [proof_rows, List.pairwise_flatMap]
  constructor
  · intro q _
    have h := (List.pairwise_flatMap.1 (winRow_nodup (n := n) (m := m) (p := nthN ys q) (i := q) hn)).2
    exact h.imp_of_mem fun {a b} ha hb hab t u ht hu _ e => hab _ (hmem q a ha t ht) _ (hmem q b hb u hu) e
  · refine (List.pairwise_lt_range).imp fun {i j} hlt a ha b hb t u _ _ e => ?_
    have h1 := (winRow_alike hn (hv i) ha).1
    have h2 := (winRow_alike hn (hv j) hb).1
    omega
/-- the windows: each one's points are alike, and no point is in two of them -/
structure Apart (n m : Nat) (ys : List Nat) (ws : List Fl) : Prop where
  each : ∀ i, i < ws.length → (nthF ws i).pick < ys.length ∧ (nthF ws i).hook < n ∧ (nthF ws i).length = m + 1 ∧ m < n ∧ ∀ t, t < m + 1 → bitN (nthN ys (nthF ws i).pick) (((nthF ws i).hook + t) % n) = (nthF ws i).lifted
  apart : ∀ i j t u, i < ws.length → j < ws.length → t < m + 1 → u < m + 1 → (nthF ws i).pick = (nthF ws j).pick → ((nthF ws i).hook + t) % n = ((nthF ws j).hook + u) % n → i = j ∧ t = u
theorem apart_of {n m : Nat} {ys : List Nat} (hn : 1 ≤ n) (hv : ∀ i, nthN ys i < 2 ^ n) : Apart n m ys (proofN n m ys) := by
  have hE : ∀ i, i < (proofN n m ys).length → (nthF (proofN n m ys) i).pick < ys.length ∧ (nthF (proofN n m ys) i).hook < n ∧ (nthF (proofN n m ys) i).length = m + 1 ∧ m < n ∧ ∀ t, t < m + 1 → bitN (nthN ys (nthF (proofN n m ys) i).pick) (((nthF (proofN n m ys) i).hook + t) % n) = (nthF (proofN n m ys) i).lifted := by
    intro i hi
    have h := nthF_mem _ i hi
    obtain ⟨w, hw⟩ : ∃ w, w = nthF (proofN n m ys) i := ⟨_, rfl⟩
    rw [← hw] at h ⊢
    rw [proof_rows, List.mem_flatMap] at h
    obtain ⟨q, hq, hwq⟩ := h
    obtain ⟨h1, h2, h3, h4, h5⟩ := winRow_alike hn (hv q) hwq
    rw [List.mem_range] at hq
    rw [h1]
    exact ⟨hq, h2, h3, h4, h5⟩
  refine ⟨hE, fun i j t u hi hj ht hu hp he => ?_⟩
  have hP := List.pairwise_iff_getElem.1 (ws_pair (m := m) hn hv)
  rcases Nat.lt_trichotomy i j with h | h | h
  · exact absurd (by rwa [nthF_get _ i hi, nthF_get _ j hj] at he) (hP i j hi hj h t u ht hu (by rwa [nthF_get _ i hi, nthF_get _ j hj] at hp))
  · subst h
    obtain ⟨_, h2, _, h4, _⟩ := hE i hi
    exact ⟨rfl, mod_inj h2 (by omega) (by omega) he⟩
  · exact absurd (by rw [nthF_get _ i hi, nthF_get _ j hj] at he; exact he.symm) (hP j i hj hi h u t hu ht (by rw [nthF_get _ i hi, nthF_get _ j hj] at hp; exact hp.symm))

/-- the map of points -/
theorem ak90 : Go.WideMaps.ArrKey Try.prog 90 3 2 := ⟨Try.underlying90, by kernel_rfl, by kernel_rfl, by kernel_rfl⟩
theorem pairKeyed : Keyed Try.prog 90 := Keyed.of_law (deep_law_laid (m := 4) (by kernel_rfl) (by decide) (of_decide_eq_true (by kernel_rfl)) (by kernel_rfl) (by kernel_rfl))
def pairV (a b : Nat) : Value := .agg #[.int .i64 (a : Int), .int .i64 (b : Int)]
theorem pairKey_at {a b : Nat} (ha : a ≤ 100000) (hb : b ≤ 100000) : ∃ l, keyOf Try.prog 90 (pairV a b) = some l :=
  ⟨_, Go.WideMaps.keyOf_pair ak90 Try.underlying3 ⟨159, by kernel_rfl⟩ (wf_small ha) (wf_small hb)⟩
theorem pairKey_inj {a a' b b' : Nat} {l l' : Lit} (h1 : keyOf Try.prog 90 (pairV a b) = some l) (h2 : keyOf Try.prog 90 (pairV a' b') = some l') (h : l = l') : a = a' ∧ b = b' := by
  subst h
  have := pairKeyed.inj h1 h2
  simp [pairV] at this
  omega
def UsedAt (D : DataW Nat) (u : Nat → Nat → Bool) : Prop :=
  IsMap D ∧ ∀ a b l, keyOf Try.prog 90 (pairV a b) = some l → D.atKey l (.lit (.bool false)) = .lit (.bool (u a b))
def setU (u : Nat → Nat → Bool) (a b : Nat) : Nat → Nat → Bool := fun a' b' => if a' = a ∧ b' = b then true else u a' b'
theorem UsedAt.put {D : DataW Nat} {u : Nat → Nat → Bool} (h : UsedAt D u) {a b : Nat} {l : Lit} (hl : keyOf Try.prog 90 (pairV a b) = some l) : UsedAt (D.put l (.lit (.bool true))) (setU u a b) := by
  refine ⟨h.1.put _ _, fun a' b' l' hl' => ?_⟩
  unfold setU
  by_cases e : a' = a ∧ b' = b
  · obtain ⟨rfl, rfl⟩ := e
    obtain rfl : l = l' := by rw [hl] at hl'; exact Option.some.inj hl'
    rw [if_pos ⟨rfl, rfl⟩]
    exact Maps.atKey_put_same h.1 (pairKeyed.key hl) _ _
  · rw [if_neg e, Maps.atKey_put_other (fun k => e (pairKey_inj hl' hl k))]
    exact h.2 a' b' l' hl'
def PairMap (w : World) (mb k : Nat) (u : Nat → Nat → Bool) : Prop := ∃ D : DataW Nat, w.ownsMap Try.prog 90 (plainElem Try.prog 4) mb k D ∧ UsedAt D u
theorem PairMap.made (w : World) : PairMap (w.alloc (.map #[] 0)) w.heap.size 0 (fun _ _ => false) :=
  ⟨.map [], World.ownsMap_made w _ _ _, Maps.isMap_empty, fun a b l _ => by
    rw [Maps.atKey_of_not_has]
    rfl⟩
theorem PairMap.grown {w w' : World} {mb k : Nat} {u : Nat → Nat → Bool} {row : Option Nat} (h : PairMap w mb k u) (hg : w.grownBy w' row) (hne : some mb ≠ row) : PairMap w' mb k u := by
  obtain ⟨D, h1, h2⟩ := h
  exact ⟨D, h1.kept hg hne, h2⟩
theorem PairMap.below {w w' : World} {mb k : Nat} {u : Nat → Nat → Bool} (h : PairMap w mb k u) (hb : Below w.heap.size w w') : PairMap w' mb k u := by
  refine h.grown (row := none) ⟨hb.os, hb.tape, hb.output, hb.size, fun i hi _ => hb.block i hi⟩ (by simp)
theorem PairMap.lt {w : World} {mb k : Nat} {u : Nat → Nat → Bool} (h : PairMap w mb k u) : mb < w.heap.size := by
  obtain ⟨D, h1, _⟩ := h; exact h1.lt
theorem PairMap.lookup {w : World} {mb k : Nat} {u : Nat → Nat → Bool} (h : PairMap w mb k u) {a b : Nat} (ha : a ≤ 100000) (hb : b ≤ 100000) :
    (Instr.lookup 89 (.map (some mb)) (.agg #[.int .i64 (a : Int), .int .i64 (b : Int)]) false).run Try.prog w = .ok (.bool (u a b)) w := by
  obtain ⟨D, h1, h2⟩ := h
  obtain ⟨l, hl⟩ := pairKey_at ha hb
  obtain ⟨v, ps, hrun, hv⟩ := h1.lookup pairKeyed Try.underlying89 (z := .bool false) (by kernel_rfl) (plainElem_bool Try.underlying4 false) hl
  rw [h2.2 a b l hl] at hv
  have hvv : v = .bool (u a b) := by
    unfold plainElem at hv
    simp only [Try.underlying4] at hv
    cases v <;> simp at hv
    rw [hv.1]
  rw [← hvv]; exact hrun
theorem PairMap.update {w : World} {mb k : Nat} {u : Nat → Nat → Bool} (h : PairMap w mb k u) {a b : Nat} (ha : a ≤ 100000) (hb : b ≤ 100000) (hk : k ≤ 100000) :
    ∃ w', (Instr.mapUpdate 89 (.map (some mb)) (.agg #[.int .i64 (a : Int), .int .i64 (b : Int)]) (.bool true)).run Try.prog w = .ok () w' ∧ PairMap w' mb (k + 1) (setU u a b) ∧ w.grownBy w' (some mb) := by
  obtain ⟨D, h1, h2⟩ := h
  obtain ⟨l, hl⟩ := pairKey_at ha hb
  obtain ⟨w', r1, r2, r3⟩ := h1.update (val := .bool true) pairKeyed Try.underlying89 (by unfold maxLen; omega) hl (plainElem_bool Try.underlying4 true)
  exact ⟨w', r1, ⟨_, r2, h2.put hl⟩, r3⟩
end Go.Proofs.Ytjobbleabepaiaa
