/- Longest floats by windows of alike points: what keeps them. -/
import Derived.Test.YtjobbleabepaiaaVN
import Derived.Test.YtjobbleabepaiaaXQ
namespace Go.Proofs.Ytjobbleabepaiaa
open Go.RowKit

def ringG (s p i : Nat) : Bool := bitN p (i % s)
def HasRun (g : Nat → Bool) (v : Bool) (k : Nat) : Prop := ∃ f, ∀ j, j < k → g (f + j) = v
theorem bits_eq {s p q : Nat} (hp : p < 2 ^ s) (hq : q < 2 ^ s) (h : ∀ j, j < s → bitN p j = bitN q j) : p = q := by
  refine Nat.eq_of_testBit_eq fun j => ?_
  by_cases hj : j < s
  · exact h j hj
  · rw [Nat.testBit_lt_two_pow (Nat.lt_of_lt_of_le hp (Nat.pow_le_pow_right (by decide) (by omega))), Nat.testBit_lt_two_pow (Nat.lt_of_lt_of_le hq (Nat.pow_le_pow_right (by decide) (by omega)))]
theorem alike_iff {s p : Nat} (hs : 0 < s) (hp : p < 2 ^ s) : alikeB s p = true ↔ ∀ j, j < s → bitN p j = bitN p 0 := by
  have h2 : 0 < 2 ^ s := Nat.pow_pos (by decide)
  have h0 : ∀ j, bitN 0 j = false := fun j => by simp [bitN]
  have h1 : ∀ j, j < s → bitN (2 ^ s - 1) j = true := fun j hj => by simp [bitN, hj]
  constructor
  · intro h j hj
    unfold alikeB at h
    rw [Bool.or_eq_true, beq_iff_eq, beq_iff_eq] at h
    rcases h with rfl | rfl
    · rw [h0, h0]
    · rw [h1 j hj, h1 0 hs]
  · intro h
    unfold alikeB
    rw [Bool.or_eq_true, beq_iff_eq, beq_iff_eq]
    cases hv : bitN p 0 with
    | false => exact .inl (bits_eq hp h2 fun j hj => by rw [h j hj, hv, h0])
    | true => exact .inr (bits_eq hp (by omega) fun j hj => by rw [h j hj, hv, h1 j hj])
theorem leastJ {P : Nat → Prop} (n : Nat) (h : P n) : ∃ o, o ≤ n ∧ P o ∧ ∀ i, i < o → ¬ P i := by
  induction n using Nat.strongRecOn with
  | ind n ih =>
    by_cases hex : ∃ i, i < n ∧ P i
    · obtain ⟨i, hi, hP⟩ := hex
      obtain ⟨o, h1, h2, h3⟩ := ih i hi hP
      exact ⟨o, by omega, h2, h3⟩
    · exact ⟨n, Nat.le_refl _, h, fun i hi hP => hex ⟨i, hi, hP⟩⟩
theorem mod_shift (s a b : Nat) : (a % s + b) % s = (a + b) % s := by rw [Nat.mod_add_mod]
/-- a run of a ring that is long enough, just if there is a window -/
theorem run_iff {s p k : Nat} (v : Bool) (hs : 0 < s) (hs2 : s ≤ 60) (hp : p < 2 ^ s) (hk : 1 ≤ k) :
    (∃ r, r ∈ runsOf s p ∧ r.lifted = v ∧ k ≤ r.length) ↔ (k ≤ 1000 ∧ HasRun (ringG s p) v k) := by
  by_cases ha : alikeB s p = true
  · have hal := (alike_iff hs hp).1 ha
    have e : runsOf s p = [⟨0, 1000, bitN p 0⟩] := by unfold runsOf; rw [if_pos ha]
    rw [e]
    constructor
    · rintro ⟨r, hr, h1, h2⟩
      simp at hr
      subst hr
      exact ⟨h2, 0, fun j _ => by unfold ringG; rw [hal _ (Nat.mod_lt _ hs)]; exact h1⟩
    · rintro ⟨h1, f, hf⟩
      refine ⟨_, List.mem_singleton.2 rfl, ?_, h1⟩
      have := hf 0 hk
      unfold ringG at this
      rw [hal _ (Nat.mod_lt _ hs)] at this
      exact this
  · have e : runsOf s p = runsTo s p s := by unfold runsOf; rw [if_neg ha]
    rw [e]
    constructor
    · rintro ⟨r, hr, h1, h2⟩
      obtain ⟨q1, q2, q3⟩ := runsTo_mem hr
      obtain ⟨⟨_, l2⟩, l3, _⟩ := lenF_spec hs q2 q1
      have hlen : r.length = lenF s p r.first := by rw [q3]
      have hlif : r.lifted = bitN p r.first := by rw [q3]
      refine ⟨by omega, r.first, fun j hj => ?_⟩
      unfold ringG
      by_cases h0 : j = 0
      · subst h0
        rw [Nat.add_zero, Nat.mod_eq_of_lt q1, ← hlif]; exact h1
      · rw [l3 j (by omega) (by omega), ← hlif]; exact h1
    · rintro ⟨_, f, hf⟩
      have hex : ∃ x, x < s ∧ bitN p x ≠ v := by
        refine Classical.byContradiction fun hne => ha ((alike_iff hs hp).2 fun j hj => ?_)
        have hall : ∀ x, x < s → bitN p x = v := fun x hx => Classical.byContradiction fun h => hne ⟨x, hx, h⟩
        rw [hall j hj, hall 0 hs]
      obtain ⟨x, hx, hxv⟩ := hex
      -- walk back from the window
      have hP : ∃ t, ringG s p (f + s * (f + 1 + s) - 1 - t) ≠ v ∧ t < s := by
        let F := f + s * (f + 1 + s) - 1
        have hF : s * (f + 1 + s) ≥ s := Nat.le_mul_of_pos_right _ (by omega)
        by_cases h : x ≤ F % s
        · refine ⟨F % s - x, ?_, by have := Nat.mod_lt F hs; omega⟩
          have e1 : F - (F % s - x) = s * (F / s) + x := by have := Nat.div_add_mod F s; omega
          show ringG s p (F - (F % s - x)) ≠ v
          rw [e1]
          unfold ringG
          rw [Nat.mul_add_mod, Nat.mod_eq_of_lt hx]
          exact hxv
        · have hFs : s ≤ F := by
            have : s * (f + 1 + s) ≥ s + 1 := by
              have h3 : s * (f + 1 + s) = s * (f + s) + s := by rw [show f + 1 + s = (f + s) + 1 by omega, Nat.mul_succ]
              have h4 : s * (f + s) ≥ 1 := Nat.mul_pos hs (by omega)
              omega
            show s ≤ f + s * (f + 1 + s) - 1
            omega
          have hd : 1 ≤ F / s := (Nat.le_div_iff_mul_le hs).2 (by omega)
          refine ⟨F % s + s - x, ?_, by have := Nat.mod_lt F hs; omega⟩
          have h3 : s * (F / s) = s * (F / s - 1) + s := by rw [← Nat.mul_succ]; congr 1; omega
          have e1 : F - (F % s + s - x) = s * (F / s - 1) + x := by have := Nat.div_add_mod F s; omega
          show ringG s p (F - (F % s + s - x)) ≠ v
          rw [e1]
          unfold ringG
          rw [Nat.mul_add_mod, Nat.mod_eq_of_lt hx]
          exact hxv
      have hF : s * (f + 1 + s) ≥ s + 1 := by
        have h3 : s * (f + 1 + s) = s * (f + s) + s := by rw [show f + 1 + s = (f + s) + 1 by omega, Nat.mul_succ]
        have h4 : s * (f + s) ≥ 1 := Nat.mul_pos hs (by omega)
        omega
      have hXm : ∀ y, ringG s p (s * (f + 1 + s) + y) = ringG s p y := fun y => by unfold ringG; rw [Nat.mul_add_mod]
      obtain ⟨X, hX⟩ : ∃ X, s * (f + 1 + s) = X := ⟨_, rfl⟩
      rw [hX] at hP hF hXm
      clear hX
      obtain ⟨t0, ht0, hts⟩ := hP
      obtain ⟨t, htle, htv, htm⟩ := leastJ (P := fun t => ringG s p (f + X - 1 - t) ≠ v) t0 ht0
      obtain ⟨B, hB⟩ : ∃ B, B = f + X - t := ⟨_, rfl⟩
      have hBs : 1 ≤ B := by omega
      have hBv : ringG s p (B - 1) ≠ v := by rw [hB, show f + X - t - 1 = f + X - 1 - t by omega]; exact htv
      have hrun : ∀ i, i < t + k → ringG s p (B + i) = v := fun i hi => by
        by_cases h : i < t
        · have := htm (t - 1 - i) (by omega)
          rw [Classical.not_not] at this
          have e1 : B + i = f + X - 1 - (t - 1 - i) := by omega
          rw [e1]
          exact this
        · have h1 := hf (i - t) (by omega)
          have e1 : B + i = X + (f + (i - t)) := by omega
          rw [e1, hXm]
          exact h1
      have hb0 : B % s < s := Nat.mod_lt _ hs
      have hv0 : bitN p (B % s) = v := by have := hrun 0 (by omega); unfold ringG at this; simpa using this
      have hbeg : begins s p (B % s) = true := by
        unfold begins
        rw [bne_iff_ne, hv0]
        have e1 : (B % s + s - 1) % s = (B - 1) % s := by
          rw [show B % s + s - 1 = B % s + (s - 1) by omega, mod_shift, show B + (s - 1) = (B - 1) + s by omega, Nat.add_mod_right]
        rw [e1]
        exact hBv
      obtain ⟨⟨l1, l2⟩, _, l4⟩ := lenF_spec hs hbeg hb0
      refine ⟨⟨B % s, lenF s p (B % s), bitN p (B % s)⟩, ?_, hv0, ?_⟩
      · unfold runsTo
        rw [List.mem_map]
        exact ⟨B % s, by rw [List.mem_filter]; exact ⟨by simpa using hb0, hbeg⟩, rfl⟩
      · show k ≤ lenF s p (B % s)
        refine Classical.byContradiction fun h => ?_
        have := hrun (lenF s p (B % s)) (by omega)
        unfold ringG at this
        rw [← mod_shift] at this
        exact l4 (this.trans hv0.symm)
theorem maxF_iff (v : Bool) (k : Nat) (hk : 1 ≤ k) (fs : List Fl) : k ≤ maxF fs v ↔ ∃ f, f ∈ fs ∧ f.lifted = v ∧ k ≤ f.length := by
  have key : ∀ (fs : List Fl) (m : Nat), k ≤ fs.foldl (fun m f => if f.lifted = v then max m f.length else m) m ↔ (k ≤ m ∨ ∃ f, f ∈ fs ∧ f.lifted = v ∧ k ≤ f.length) := by
    intro fs
    induction fs with
    | nil => intro m; simp
    | cons x fs ih =>
      intro m
      rw [List.foldl_cons, ih]
      by_cases hx : x.lifted = v
      · rw [if_pos hx]
        constructor
        · rintro (h | ⟨f, h1, h2⟩)
          · by_cases h3 : k ≤ m
            · exact .inl h3
            · exact .inr ⟨x, by simp, hx, by omega⟩
          · exact .inr ⟨f, by simp [h1], h2⟩
        · rintro (h | ⟨f, h1, h2, h3⟩)
          · exact .inl (by omega)
          · rcases List.mem_cons.1 h1 with rfl | h1
            · exact .inl (by omega)
            · exact .inr ⟨f, h1, h2, h3⟩
      · rw [if_neg hx]
        constructor
        · rintro (h | ⟨f, h1, h2⟩)
          · exact .inl h
          · exact .inr ⟨f, by simp [h1], h2⟩
        · rintro (h | ⟨f, h1, h2, h3⟩)
          · exact .inl h
          · rcases List.mem_cons.1 h1 with rfl | h1
            · exact absurd h2 hx
            · exact .inr ⟨f, h1, h2, h3⟩
  unfold maxF
  rw [key fs 0]
  constructor
  · rintro (h | h)
    · omega
    · exact h
  · exact .inr
/-- a window along a pick, along a hook -/
def WRun (n : Nat) (xs : List Nat) (v : Bool) (k : Nat) : Prop := ∃ i, HasRun (fun j => pt n xs i j) v k
def HRun (n : Nat) (xs : List Nat) (v : Bool) (k : Nat) : Prop := ∃ h, HasRun (fun i => pt n xs i h) v k
theorem fl_mem {mk : Run → Fl} {rs : List Run} (v : Bool) (k : Nat) (hk : 1 ≤ k) (hm : ∀ r, (mk r).length = r.length ∧ (mk r).lifted = r.lifted) :
    (∃ f, f ∈ ringFl mk 0 rs ∧ f.lifted = v ∧ k ≤ f.length) ↔ ∃ r, r ∈ rs ∧ r.lifted = v ∧ k ≤ r.length := by
  unfold ringFl
  constructor
  · rintro ⟨f, h1, h2, h3⟩
    obtain ⟨r, hr, rfl⟩ := List.mem_map.1 h1
    obtain ⟨hr1, _⟩ := List.mem_filter.1 hr
    exact ⟨r, hr1, by rw [← (hm r).2]; exact h2, by rw [← (hm r).1]; exact h3⟩
  · rintro ⟨r, h1, h2, h3⟩
    exact ⟨mk r, List.mem_map.2 ⟨r, List.mem_filter.2 ⟨h1, by simp; omega⟩, rfl⟩, by rw [(hm r).2]; exact h2, by rw [(hm r).1]; exact h3⟩
theorem long_w {n : Nat} {xs : List Nat} (hv : Valid n xs) (v : Bool) (k : Nat) (hk : 1 ≤ k) : k ≤ maxF (floatsAl n xs 1) v ↔ k ≤ 1000 ∧ WRun n xs v k := by
  have hn := hv.n0
  have hn1 := hv.n1
  have hl := hv.l0
  rw [maxF_iff v k hk]
  have e : floatsAl n xs 1 = upTo (flW n xs 0) xs.length := rfl
  rw [e]
  constructor
  · rintro ⟨f, h1, h2, h3⟩
    obtain ⟨i, hi, hf⟩ := upTo_mem h1
    obtain ⟨q1, q2⟩ := (run_iff v (by omega) (by omega) (hv.lt i) hk).1 ((fl_mem v k hk (fun r => ⟨rfl, rfl⟩)).1 ⟨f, hf, h2, h3⟩)
    refine ⟨q1, i, ?_⟩
    obtain ⟨f0, hf0⟩ := q2
    exact ⟨f0, fun j hj => by show pt n xs i (f0 + j) = v; unfold pt; rw [Nat.mod_eq_of_lt hi]; exact hf0 j hj⟩
  · rintro ⟨h1, i, f0, hf0⟩
    obtain ⟨f, hf, h2, h3⟩ := (fl_mem (mk := fun r => ⟨i % xs.length, r.first, r.length, r.lifted⟩) v k hk (fun r => ⟨rfl, rfl⟩)).2 ((run_iff v (by omega) (by omega) (hv.lt (i % xs.length)) hk).2 ⟨h1, f0, hf0⟩)
    exact ⟨f, by unfold upTo; rw [List.mem_flatMap]; exact ⟨i % xs.length, by simpa using Nat.mod_lt _ (by omega), hf⟩, h2, h3⟩
theorem long_h {n : Nat} {xs : List Nat} (hv : Valid n xs) (v : Bool) (k : Nat) (hk : 1 ≤ k) : k ≤ maxF (floatsAl n xs 2) v ↔ k ≤ 1000 ∧ HRun n xs v k := by
  have hn := hv.n0
  have hl := hv.l0
  have hl1 := hv.l1
  rw [maxF_iff v k hk]
  have e : floatsAl n xs 2 = upTo (flH xs 0) n := rfl
  have hg : ∀ h i, ringG xs.length (colTo xs h xs.length) i = bitN (nthN xs (i % xs.length)) h := fun h i => by
    unfold ringG
    have := colTo_bit xs h xs.length (i % xs.length)
    rw [show decide (i % xs.length < xs.length) = true from decide_eq_true (Nat.mod_lt _ (by omega)), Bool.true_and] at this
    exact this
  rw [e]
  constructor
  · rintro ⟨f, h1, h2, h3⟩
    obtain ⟨h, hh, hf⟩ := upTo_mem h1
    obtain ⟨q1, q2⟩ := (run_iff v (by omega) (by omega) (colTo_lt xs h xs.length) hk).1 ((fl_mem v k hk (fun r => ⟨rfl, rfl⟩)).1 ⟨f, hf, h2, h3⟩)
    refine ⟨q1, h, ?_⟩
    obtain ⟨f0, hf0⟩ := q2
    exact ⟨f0, fun j hj => by show pt n xs (f0 + j) h = v; unfold pt; rw [Nat.mod_eq_of_lt hh, ← hg]; exact hf0 j hj⟩
  · rintro ⟨h1, h, f0, hf0⟩
    obtain ⟨f, hf, h2, h3⟩ := (fl_mem (mk := fun r => ⟨r.first, h % n, r.length, r.lifted⟩) v k hk (fun r => ⟨rfl, rfl⟩)).2 ((run_iff v (by omega) (by omega) (colTo_lt xs (h % n) xs.length) hk).2 ⟨h1, f0, fun j hj => by rw [hg]; exact hf0 j hj⟩)
    exact ⟨f, by unfold upTo; rw [List.mem_flatMap]; exact ⟨h % n, by simpa using Nat.mod_lt _ (by omega), hf⟩, h2, h3⟩
theorem eq_of_le {a b : Nat} (h : ∀ k, 1 ≤ k → (k ≤ a ↔ k ≤ b)) : a = b := by
  have h1 : a ≤ b := by
    by_cases h0 : a = 0
    · omega
    · exact (h a (by omega)).1 (Nat.le_refl _)
  have h2 : b ≤ a := by
    by_cases h0 : b = 0
    · omega
    · exact (h b (by omega)).2 (Nat.le_refl _)
  omega
theorem doneM_1 (n : Nat) (xs : List Nat) (v : Bool) : doneM n xs 2 1 v = maxF (floatsAl n xs 1) v := by unfold doneM; rw [if_pos ⟨by omega, by omega⟩]
theorem doneM_2 (n : Nat) (xs : List Nat) (v : Bool) : doneM n xs 2 2 v = maxF (floatsAl n xs 2) v := by unfold doneM; rw [if_pos ⟨by omega, by omega⟩]
theorem done_w {n m : Nat} {xs ys : List Nat} (hv : Valid n xs) (hv2 : Valid m ys) (v u : Bool) (h : ∀ k, WRun n xs v k ↔ WRun m ys u k) : doneM n xs 2 1 v = doneM m ys 2 1 u := by
  rw [doneM_1, doneM_1]
  exact eq_of_le fun k hk => by rw [long_w hv v k hk, long_w hv2 u k hk, h k]
theorem done_h {n m : Nat} {xs ys : List Nat} (hv : Valid n xs) (hv2 : Valid m ys) (v u : Bool) (h : ∀ k, HRun n xs v k ↔ HRun m ys u k) : doneM n xs 2 2 v = doneM m ys 2 2 u := by
  rw [doneM_2, doneM_2]
  exact eq_of_le fun k hk => by rw [long_h hv v k hk, long_h hv2 u k hk, h k]
end Go.Proofs.Ytjobbleabepaiaa
