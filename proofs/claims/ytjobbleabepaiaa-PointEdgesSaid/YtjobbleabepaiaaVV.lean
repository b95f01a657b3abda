/- The least repeat: the program's and the reference's are the same. -/
import Derived.Test.YtjobbleabepaiaaVK
import Derived.Test.YtjobbleabepaiaaVU
namespace Go.Proofs.Ytjobbleabepaiaa
open Go.RowKit

theorem painted_eq {g : Nat → Nat → Bool} {N m : Nat} {xs : List Nat} (hl : xs.length = N) (hx : ∀ i, nthN xs i < 2 ^ m) :
    painted g N m = xs ↔ ∀ i, i < N → ∀ j, j < m → g i j = bitN (nthN xs i) j := by
  constructor
  · intro h i hi j hj
    have e : nthN xs i = rowTo (g i) m := by rw [← h]; simp [nthN, painted, hi]
    rw [e]; unfold bitN; rw [rowTo_bit]; simp [hj]
  · intro h
    apply List.ext_getElem
    · rw [painted_len, hl]
    · intro i h1 h2
      rw [painted_len] at h1
      have e : (painted g N m)[i] = rowTo (g i) m := by simp [painted]
      rw [e, ← nthN_get xs i h2]
      apply Nat.eq_of_testBit_eq
      intro j
      rw [rowTo_bit]
      by_cases hj : j < m
      · have := h i h1 j hj
        simp [hj, this, bitN]
      · have hlt : nthN xs i < 2 ^ j := Nat.lt_of_lt_of_le (hx i) (Nat.pow_le_pow_right (by decide) (by omega))
        rw [Nat.testBit_lt_two_pow hlt]; simp [hj]
/-- shifted by a divisor it is the same just if it is its first part, repeated -/
theorem shift_rep {α : Type} (f : Nat → α) (N k : Nat) (hk : 1 ≤ k) (_hkN : k ≤ N) (hd : N % k = 0) : (∀ i, i < N → f ((i + N - k) % N) = f i) ↔ (∀ i, i < N → f i = f (i % k)) := by
  constructor
  · intro h i
    induction i using Nat.strongRecOn with
    | ind i ih =>
      intro hi
      by_cases hik : i < k
      · rw [Nat.mod_eq_of_lt hik]
      · have e : (i + N - k) % N = i - k := by
          rw [show i + N - k = (i - k) + N by omega, Nat.add_mod_right, Nat.mod_eq_of_lt (by omega)]
        have h1 := h i hi
        rw [e] at h1
        rw [← h1, ih (i - k) (by omega) (by omega)]
        congr 1
        conv => rhs; rw [show i = (i - k) + k by omega, Nat.add_mod_right]
  · intro h i hi
    have hN : 0 < N := by omega
    have hj : (i + N - k) % N < N := Nat.mod_lt _ hN
    rw [h _ hj, h i hi]
    congr 1
    rw [Nat.mod_mod_of_dvd _ (Nat.dvd_of_mod_eq_zero hd)]
    obtain ⟨q, hq⟩ := Nat.dvd_of_mod_eq_zero hd
    have hq1 : 1 ≤ q := by
      rcases Nat.eq_zero_or_pos q with h0 | h0
      · subst h0; omega
      · exact h0
    obtain ⟨r, rfl⟩ : ∃ r, q = r + 1 := ⟨q - 1, by omega⟩
    have : i + N - k = i + k * r := by rw [hq, Nat.mul_add, Nat.mul_one]; omega
    rw [this, Nat.add_mul_mod_self_left]
theorem repB_rows {n : Nat} {xs : List Nat} (hv : Valid n xs) (k : Nat) (hk : 1 ≤ k) (hkN : k < xs.length) (hd : xs.length % k = 0) :
    repB xs n k 0 = true ↔ ∀ i, i < xs.length → ∀ j, j < n → bitN (nthN xs i) j = bitN (nthN xs (i % k)) j := by
  unfold repB
  rw [decide_eq_true_iff, painted_eq rfl hv.lt]
  have e : ∀ i, i < xs.length → ∀ j, j < n → shG xs n k 0 i j = bitN (nthN xs ((i + xs.length - k) % xs.length)) j := fun i _ j hj => by
    unfold shG; rw [show (j + n - 0) % n = j by rw [Nat.sub_zero, Nat.add_mod_right, Nat.mod_eq_of_lt hj]]
  have s := fun j => shift_rep (fun i => bitN (nthN xs i) j) xs.length k hk (by omega) hd
  constructor
  · intro h i hi j hj
    exact (s j).1 (fun i hi => by rw [← e i hi j hj]; exact h i hi j hj) i hi
  · intro h i hi j hj
    rw [e i hi j hj]
    exact (s j).2 (fun i hi => h i hi j hj) i hi
theorem repB_hooks {n : Nat} {xs : List Nat} (hv : Valid n xs) (k : Nat) (hk : 1 ≤ k) (hkN : k < n) (hd : n % k = 0) :
    repB xs n 0 k = true ↔ ∀ j, j < n → ∀ i, i < xs.length → bitN (nthN xs i) j = bitN (nthN xs i) (j % k) := by
  unfold repB
  rw [decide_eq_true_iff, painted_eq rfl hv.lt]
  have e : ∀ i, i < xs.length → ∀ j, j < n → shG xs n 0 k i j = bitN (nthN xs i) ((j + n - k) % n) := fun i hi j _ => by
    unfold shG; rw [show (i + xs.length - 0) % xs.length = i by rw [Nat.sub_zero, Nat.add_mod_right, Nat.mod_eq_of_lt hi]]
  have s := fun i => shift_rep (fun j => bitN (nthN xs i) j) n k hk (by omega) hd
  constructor
  · intro h j hj i hi
    exact (s i).1 (fun j hj => by rw [← e i hi j hj]; exact h i hi j hj) j hj
  · intro h i hi j hj
    rw [e i hi j hj]
    exact (s i).2 (fun j hj => h j hj i hi) j hj
theorem leastN_facts (rep : Nat → Bool) (n : Nat) (hn : 1 ≤ n) : 1 ≤ leastN rep n ∧ leastN rep n ≤ n ∧ (leastN rep n < n → n % leastN rep n = 0 ∧ rep (leastN rep n) = true) ∧ NoneTo rep n (leastN rep n) := by
  by_cases h : ∃ j, 1 ≤ j ∧ j < n ∧ n % j = 0 ∧ rep j = true
  · have hd : ∃ j, (1 ≤ j ∧ j < n ∧ n % j = 0 ∧ rep j = true) ∧ ∀ i, i < j → ¬ (1 ≤ i ∧ i < n ∧ n % i = 0 ∧ rep i = true) := by
      obtain ⟨j, hj⟩ := h
      induction j using Nat.strongRecOn with
      | ind j ih =>
        by_cases hm : ∃ i, i < j ∧ (1 ≤ i ∧ i < n ∧ n % i = 0 ∧ rep i = true)
        · obtain ⟨i, hij, hi⟩ := hm
          exact ih i hij hi
        · exact ⟨j, hj, fun i hij hi => hm ⟨i, hij, hi⟩⟩
    obtain ⟨j, ⟨h1, h2, h3, h4⟩, h5⟩ := hd
    have hno : NoneTo rep n j := fun i hi hij hr => h5 i hij ⟨hi, by omega, hr.1, hr.2⟩
    rw [leastN_at h1 h2 hno h3 h4]
    exact ⟨h1, by omega, fun _ => ⟨h3, h4⟩, hno⟩
  · have hno : NoneTo rep n n := fun i hi hij hr => h ⟨i, hi, hij, hr.1, hr.2⟩
    rw [leastN_end hn hno]
    exact ⟨hn, Nat.le_refl _, fun h => by omega, hno⟩
theorem whole_least (rep : Nat → Bool) (f : Nat → Nat → Bool) (N m : Nat) (hN : 1 ≤ N) (hr : ∀ k, 1 ≤ k → k < N → N % k = 0 → (rep k = true ↔ ∀ i, i < N → ∀ h, h < m → f i h = f (i % k) h)) :
    1 ≤ leastN rep N ∧ leastN rep N ≤ N ∧ Whole f N m (leastN rep N) ∧ ∀ i, 1 ≤ i → i < leastN rep N → ¬ Whole f N m i := by
  obtain ⟨h1, h2, h3, h4⟩ := leastN_facts rep N hN
  refine ⟨h1, h2, ?_, fun i hi hil hw => ?_⟩
  · by_cases h : leastN rep N < N
    · obtain ⟨a, b⟩ := h3 h
      exact ⟨a, (hr _ h1 h a).1 b⟩
    · have e : leastN rep N = N := by omega
      rw [e]
      exact ⟨Nat.mod_self N, fun i hi h _ => by rw [Nat.mod_eq_of_lt hi]⟩
  · exact h4 i hi hil ⟨hw.1, (hr i hi (by omega) hw.1).2 hw.2⟩
theorem least_rows {n : Nat} {xs : List Nat} (hv : Valid n xs) : let j := leastN (fun k => repB xs n k 0) xs.length
    1 ≤ j ∧ j ≤ xs.length ∧ Whole (fun i j => bitN (nthN xs i) j) xs.length n j ∧ ∀ i, 1 ≤ i → i < j → ¬ Whole (fun i j => bitN (nthN xs i) j) xs.length n i :=
  whole_least _ _ _ _ hv.l0 fun k h1 h2 h3 => repB_rows hv k h1 h2 h3
theorem least_hooks {n : Nat} {xs : List Nat} (hv : Valid n xs) : let j := leastN (fun k => repB xs n 0 k) n
    1 ≤ j ∧ j ≤ n ∧ Whole (fun j i => bitN (nthN xs i) j) n xs.length j ∧ ∀ i, 1 ≤ i → i < j → ¬ Whole (fun j i => bitN (nthN xs i) j) n xs.length i :=
  whole_least _ _ _ _ hv.n0 fun k h1 h2 h3 => repB_hooks hv k h1 h2 h3
theorem vat_of_reads {W : World} {p : Option Addr} {c n : Nat} {ys : List Nat} (h : Reads W (.slice p ys.length c) (ints ys)) (hv : Valid n ys) : ∃ b off, p = some ⟨b, off, none⟩ ∧ VAt W b off c n ys := by
  obtain ⟨q, c', e, hl, hx⟩ := h
  obtain ⟨b, off, rfl, hb, hi⟩ := hx (by rw [ints_len]; exact hv.l0)
  simp at e
  refine ⟨b, off, e.1, fun i hi' => ?_, hb, hv⟩
  have := hi i (by rw [ints_len]; exact hi')
  rw [this, nthN_get _ _ hi', nthI_get _ _ (by rw [ints_len]; exact hi')]
  simp [ints]
end Go.Proofs.Ytjobbleabepaiaa
