/- The best row of bind, as a number: the fewest changes, and of these rows the smallest; what the reference's search finds is the same. -/
import Derived.Test.YtjobbleabepaiaaBA
import Derived.Test.YtjobbleabepaiaaZC
namespace Go.Proofs.Ytjobbleabepaiaa

/-- the points of a row, from the last hook down -/
def topDown (s x i : Nat) : Bool := bitN x (s - 1 - i)
theorem mod_bit (x k : Nat) : x % 2 ^ (k + 1) = x % 2 ^ k + (bitN x k).toNat * 2 ^ k := by
  have h1 : (bitN x k).toNat = x / 2 ^ k % 2 := by unfold bitN; rw [Nat.toNat_testBit]
  rw [h1, Nat.mod_pow_succ, Nat.mul_comm]
theorem cst_up (p f s x : Nat) : ∀ k, k ≤ s → cst p f s (topDown s x) k + change * ham p x (s - k) + never * con p f x (s - k) + x % 2 ^ (s - k) = change * ham p x s + never * con p f x s + x % 2 ^ s
  | 0, _ => by simp [cst]
  | k + 1, hk => by
    have ih := cst_up p f s x k (by omega)
    obtain ⟨h, hh⟩ : ∃ h, h = s - (k + 1) := ⟨_, rfl⟩
    have e1 : s - k = h + 1 := by omega
    have e2 : s - 1 - k = h := by omega
    have e3 : topDown s x k = bitN x h := by unfold topDown; rw [e2]
    rw [e1, ham, con, mod_bit] at ih
    rw [cst, putN, e2, e3, ← hh]
    generalize cst p f s (topDown s x) k = C at *
    generalize ham p x h = H at *
    generalize con p f x h = G at *
    generalize change * ham p x s + never * con p f x s + x % 2 ^ s = R at *
    generalize x % 2 ^ h = M at *
    generalize (bitN x h).toNat * 2 ^ h = Q at *
    unfold change never at *
    by_cases a : (bitN p h).toNat = (bitN x h).toNat
    · simp only [if_pos a] at ih ⊢; omega
    · by_cases c : bitN f h = true
      · simp only [if_neg a, if_pos c] at ih ⊢; omega
      · simp only [if_neg a, if_neg c] at ih ⊢; omega
theorem cst_row (p f s x : Nat) (hx : x < 2 ^ s) : cst p f s (topDown s x) s = change * ham p x s + never * con p f x s + x := by
  have := cst_up p f s x s (Nat.le_refl _)
  rw [Nat.sub_self, Nat.mod_eq_of_lt hx] at this
  simp [ham, con, Nat.mod_one] at this
  exact this
/-- the row of points that were chosen from the last hook down -/
def rowDown (s : Nat) (y : Nat → Bool) : Nat := rowTo (fun j => y (s - 1 - j)) s
theorem rowDown_lt (s : Nat) (y : Nat → Bool) : rowDown s y < 2 ^ s := rowTo_lt _ _
theorem topDown_row (s : Nat) (y : Nat → Bool) (i : Nat) (hi : i < s) : topDown s (rowDown s y) i = y i := by
  unfold topDown rowDown bitN
  rw [rowTo_bit]
  have e : s - 1 - (s - 1 - i) = i := by omega
  simp [e]; omega
theorem cst_down (p f s : Nat) (y : Nat → Bool) : cst p f s y s = change * ham p (rowDown s y) s + never * con p f (rowDown s y) s + rowDown s y := by
  rw [← cst_row p f s _ (rowDown_lt s y)]
  exact cst_congr s fun i hi => (topDown_row s y i hi).symm
theorem add_mod2 {a b s : Nat} (ha : a < s) (hb : b < s) : (a + b) % s = if a + b < s then a + b else a + b - s := by
  split
  · rename_i h; exact Nat.mod_eq_of_lt h
  · rw [Nat.mod_eq_sub_mod (by omega), Nat.mod_eq_of_lt (by omega)]
theorem mod_short {i j s : Nat} : (i + j % s) % s = (i + j) % s := by rw [Nat.add_mod_mod]
theorem bound_down {x s m : Nat} (h : BoundUp x s m) : BoundR (topDown s x) s m := by
  intro i hi
  unfold topDown
  obtain ⟨q, hq⟩ : ∃ q, q = s - 1 - i := ⟨_, rfl⟩
  rw [← hq]
  by_cases hm : m < s
  · obtain ⟨k, hk⟩ : ∃ k, k = if m ≤ q then q - m else q + s - m := ⟨_, rfl⟩
    have hks : k < s := by rw [hk]; split <;> omega
    obtain ⟨j, hj, hne⟩ := h k hks
    by_cases hb : bitN x k = bitN x q
    · refine ⟨m - j, by omega, ?_⟩
      rw [add_mod2 hks (by omega)] at hne
      rw [add_mod2 hi (by omega), ← hb]
      have e : s - 1 - (if i + (m - j) < s then i + (m - j) else i + (m - j) - s) = if k + j < s then k + j else k + j - s := by
        revert hk; split <;> split <;> split <;> omega
      rw [e]; exact hne
    · refine ⟨m, Nat.le_refl _, ?_⟩
      rw [add_mod2 hi hm]
      have e : s - 1 - (if i + m < s then i + m else i + m - s) = k := by
        revert hk; split <;> split <;> omega
      rw [e]; exact hb
  · obtain ⟨j, hj, hne⟩ := h q (by omega)
    rw [← mod_short] at hne
    have hjs := Nat.mod_lt j (show 0 < s by omega)
    generalize j % s = t at hne hjs
    have ht : t ≠ 0 := by
      rintro rfl
      rw [Nat.add_zero, Nat.mod_eq_of_lt (by omega)] at hne
      exact hne rfl
    refine ⟨s - t, by omega, ?_⟩
    rw [add_mod2 (by omega) hjs] at hne
    rw [add_mod2 hi (by omega)]
    have e : s - 1 - (if i + (s - t) < s then i + (s - t) else i + (s - t) - s) = if q + t < s then q + t else q + t - s := by
      split <;> split <;> omega
    rw [e]; exact hne
theorem bound_up {x s m : Nat} (h : BoundR (topDown s x) s m) : BoundUp x s m := by
  intro k hk
  have h : ∀ i, i < s → ∃ j, j ≤ m ∧ bitN x (s - 1 - (i + j) % s) ≠ bitN x (s - 1 - i) := h
  by_cases hm : m < s
  · obtain ⟨q, hq⟩ : ∃ q, q = if k + m < s then k + m else k + m - s := ⟨_, rfl⟩
    have hqs : q < s := by rw [hq]; split <;> omega
    obtain ⟨j, hj, hne⟩ := h (s - 1 - q) (by omega)
    rw [show s - 1 - (s - 1 - q) = q by omega] at hne
    by_cases hb : bitN x q = bitN x k
    · refine ⟨m - j, by omega, ?_⟩
      rw [add_mod2 (by omega) (by omega)] at hne
      rw [add_mod2 hk (by omega), ← hb]
      have e : (if k + (m - j) < s then k + (m - j) else k + (m - j) - s) = s - 1 - (if s - 1 - q + j < s then s - 1 - q + j else s - 1 - q + j - s) := by
        revert hq; split <;> split <;> split <;> omega
      rw [e]; exact hne
    · refine ⟨m, Nat.le_refl _, ?_⟩
      rw [add_mod2 hk hm, ← hq]; exact hb
  · obtain ⟨j, hj, hne⟩ := h (s - 1 - k) (by omega)
    rw [show s - 1 - (s - 1 - k) = k by omega] at hne
    rw [← mod_short] at hne
    have hjs := Nat.mod_lt j (show 0 < s by omega)
    generalize j % s = t at hne hjs
    have ht : t ≠ 0 := by
      rintro rfl
      rw [Nat.add_zero, Nat.mod_eq_of_lt (show s - 1 - k < s by omega), show s - 1 - (s - 1 - k) = k by omega] at hne
      exact hne rfl
    refine ⟨s - t, by omega, ?_⟩
    rw [add_mod2 (by omega) hjs] at hne
    rw [add_mod2 hk (by omega)]
    have e : (if k + (s - t) < s then k + (s - t) else k + (s - t) - s) = s - 1 - (if s - 1 - k + t < s then s - 1 - k + t else s - 1 - k + t - s) := by
      split <;> split <;> omega
    rw [e]; exact hne
theorem bound_congr {y z : Nat → Bool} {s m : Nat} (h : ∀ i, i < s → y i = z i) (hb : BoundR y s m) : BoundR z s m := fun i hi => by
  obtain ⟨j, hj, hne⟩ := hb i hi
  exact ⟨j, hj, by rw [← h _ (Nat.mod_lt _ (by omega)), ← h i hi]; exact hne⟩
theorem pow_s {s : Nat} (hs : s ≤ 24) : 2 ^ s ≤ change := Nat.le_trans (Nat.pow_le_pow_right (by decide) hs) (by decide)
theorem bindN_le_row {p f s m x : Nat} (hs : 1 ≤ s) (hs2 : s ≤ 24) (hx : x < 2 ^ s) (h : OkRow p f s m x) : bindN s p f m ≤ change * ham p x s + x := by
  have := bindN_least (p := p) (f := f) hs hs2 (bound_down h.2)
  rwa [cst_row p f s x hx, h.1] at this
theorem bindN_is_row {p f s m : Nat} (hs2 : s ≤ 24) (h : bindN s p f m < never) : ∃ x, x < 2 ^ s ∧ OkRow p f s m x ∧ bindN s p f m = change * ham p x s + x := by
  rcases bindN_row (p := p) (f := f) (m := m) hs2 with hn | ⟨y, hb, hc⟩
  · omega
  · rw [cst_down] at hc
    have h0 : con p f (rowDown s y) s = 0 := by
      rcases Nat.eq_zero_or_pos (con p f (rowDown s y) s) with e | e
      · exact e
      · have : never * 1 ≤ never * con p f (rowDown s y) s := Nat.mul_le_mul_left _ e
        omega
    rw [h0] at hc
    refine ⟨rowDown s y, rowDown_lt s y, ⟨h0, bound_up (bound_congr (fun i hi => (topDown_row s y i hi).symm) hb)⟩, hc⟩
theorem bindN_lt {p f s m x : Nat} (hs : 1 ≤ s) (hs2 : s ≤ 24) (hx : x < 2 ^ s) (h : OkRow p f s m x) : bindN s p f m < never := by
  have h1 := bindN_le_row hs hs2 hx h
  have h2 := ham_le p x s
  have h3 := pow_s hs2
  have h4 : change * ham p x s ≤ change * 24 := Nat.mul_le_mul_left _ (by omega)
  have : change * 24 + change = never := rfl
  omega
/-- the best row: the fewest changes, and of these rows the smallest -/
theorem bindN_best {p f s m : Nat} (hs : 1 ≤ s) (hs2 : s ≤ 24) (h : bindN s p f m < never) :
    bindN s p f m % change < 2 ^ s ∧ OkRow p f s m (bindN s p f m % change) ∧ ham p (bindN s p f m % change) s = bindN s p f m / change ∧
    ∀ x, x < 2 ^ s → OkRow p f s m x → bindN s p f m / change < ham p x s ∨ (ham p x s = bindN s p f m / change ∧ bindN s p f m % change ≤ x) := by
  obtain ⟨x0, hx0, hok, he⟩ := bindN_is_row hs2 h
  have h3 := pow_s hs2
  have hc : 0 < change := by decide
  have e1 : bindN s p f m % change = x0 := by rw [he, Nat.mul_add_mod]; exact Nat.mod_eq_of_lt (by omega)
  have e2 : bindN s p f m / change = ham p x0 s := by rw [he, Nat.mul_add_div hc, Nat.div_eq_of_lt (by omega)]; omega
  rw [e1, e2]
  refine ⟨hx0, hok, rfl, fun x hx h2 => ?_⟩
  have h4 := bindN_le_row hs hs2 hx h2
  rw [he] at h4
  rcases Nat.lt_trichotomy (ham p x0 s) (ham p x s) with a | a | a
  · exact .inl a
  · rw [a] at h4; exact .inr ⟨a.symm, by omega⟩
  · exfalso
    have : change * (ham p x s + 1) ≤ change * ham p x0 s := Nat.mul_le_mul_left _ a
    rw [Nat.mul_succ] at this
    omega
/-- what the search over all rows has found is what bind returns -/
theorem found_some {p f s m b l : Nat} {fd : Bool} (hs : 1 ≤ s) (hs2 : s ≤ 24) (hF : Fnd p f s m (2 ^ s) b l fd) (h : bindN s p f m < never) : fd = true ∧ b = bindN s p f m % change ∧ l = bindN s p f m / change := by
  obtain ⟨h1, h2, h3, h4⟩ := bindN_best hs hs2 h
  rcases hF with ⟨rfl, _, _, hn⟩ | ⟨rfl, hb, ho, rfl, hl⟩
  · exact absurd h2 (hn _ h1)
  · have a := hl _ h1 h2
    have c := h4 b hb ho
    rw [h3] at a
    refine ⟨rfl, ?_, ?_⟩ <;> omega
theorem found_none {p f s m b l : Nat} {fd : Bool} (hs : 1 ≤ s) (hs2 : s ≤ 24) (hF : Fnd p f s m (2 ^ s) b l fd) (h : ¬ bindN s p f m < never) : fd = false ∧ b = 0 ∧ l = 0 := by
  rcases hF with ⟨h1, h2, h3, _⟩ | ⟨_, hb, ho, _⟩
  · exact ⟨h1, h2, h3⟩
  · exact absurd (bindN_lt hs hs2 hb ho) h
end Go.Proofs.Ytjobbleabepaiaa
