/- TieGroups: its mathematics. -/
import Derived.Test.YtdmgffoikebgkaaTb21
import Derived.Test.YtdmgffoikebgkaaTb16
namespace Go.Proofs.Ytdmgffoikebgkaa
open Go.RowKit Go.Shelf
attribute [local go_sem] Oper.semAt_some

/-- the rows of which the first k are masked -/
def mskL (N : Nat) (xs : List Nat) (k : Nat) : List Nat := (List.range xs.length).map fun i => if i < k then nthN xs i &&& (2 ^ N - 1) else nthN xs i
theorem mskL_len (N : Nat) (xs : List Nat) (k : Nat) : (mskL N xs k).length = xs.length := by simp [mskL]
theorem mskL_nth (N : Nat) (xs : List Nat) (k i : Nat) (hi : i < xs.length) : nthN (mskL N xs k) i = if i < k then nthN xs i &&& (2 ^ N - 1) else nthN xs i := by
  rw [nthN_get _ _ (by rw [mskL_len]; exact hi)]; simp [mskL]
theorem mskL_zero (N : Nat) (xs : List Nat) : mskL N xs 0 = xs := by
  refine List.ext_getElem (mskL_len _ _ _) fun i h1 h2 => ?_
  have := mskL_nth N xs 0 i h2
  rw [nthN_get _ _ h1, nthN_get _ _ h2, if_neg (Nat.not_lt_zero _)] at this
  exact this
theorem mskL_set (N : Nat) (xs : List Nat) (k : Nat) (hk : k < xs.length) : (mskL N xs k).set k (nthN xs k &&& (2 ^ N - 1)) = mskL N xs (k + 1) := by
  refine List.ext_getElem (by rw [List.length_set, mskL_len, mskL_len]) fun i h1 h2 => ?_
  have hi : i < xs.length := by rw [mskL_len] at h2; exact h2
  have e1 := nthN_set (mskL N xs k) k i (nthN xs k &&& (2 ^ N - 1)) (by rw [mskL_len]; exact hk)
  have e2 := mskL_nth N xs (k + 1) i hi
  rw [nthN_get _ _ h1] at e1
  rw [nthN_get _ _ h2] at e2
  rw [e1, e2]
  by_cases e : i = k
  · subst e; rw [if_pos rfl, if_pos (by omega)]
  · rw [if_neg e, mskL_nth _ _ _ _ hi]
    by_cases h : i < k
    · rw [if_pos h, if_pos (by omega)]
    · rw [if_neg h, if_neg (by omega)]
theorem nthN_over (xs : List Nat) (i : Nat) (h : xs.length ≤ i) : nthN xs i = 0 := by unfold nthN; simp [h]
theorem mskL_valid {n N : Nat} {xs : List Nat} (hv : Valid n xs) (h1 : 1 ≤ N) (h2 : N ≤ 24) : Valid N (mskL N xs xs.length) := by
  refine ⟨h1, h2, by rw [mskL_len]; exact hv.l0, by rw [mskL_len]; exact hv.l1, fun i => ?_⟩
  have hp : 0 < 2 ^ N := Nat.pow_pos (by decide)
  by_cases hi : i < xs.length
  · rw [mskL_nth _ _ _ _ hi, if_pos hi]
    have : nthN xs i &&& (2 ^ N - 1) ≤ 2 ^ N - 1 := Nat.and_le_right
    omega
  · rw [nthN_over _ _ (by rw [mskL_len]; omega)]; exact hp
theorem painted_lt (g : Nat → Nat → Bool) (np nh : Nat) (h : nh ≤ 24) (i : Nat) : nthN (painted g np nh) i < 16777216 := by
  by_cases hi : i < np
  · rw [painted_nthT _ _ _ _ hi]
    exact Nat.lt_of_lt_of_le (rowTo_lt _ _) (Nat.le_trans (Nat.pow_le_pow_right (by decide) h) (by decide))
  · rw [nthN_over _ _ (by rw [painted_len]; omega)]; decide
theorem once_one (M : Nat) : onceT M 1 = M + 1 := by unfold onceT; rw [if_neg (by simp)]
theorem hook_one (M i : Nat) : hookT M 1 i = i % (M + 1) := by
  unfold hookT; rw [once_one]
  have := Nat.mod_lt i (show 0 < M + 1 by omega)
  omega
theorem show_one (M : Nat) (DS : List Nat) (i j : Nat) (hi : i < DS.length) (hj : j < M + 1) : bitN (nthN (pks (grpL M 1 1) DS) i) j = bitN (nthN DS i) j := by
  have hl : j < (grpL M 1 1).length := by rw [grpL_len, once_one]; omega
  rw [pks_nth _ _ hi, pickP_bit _ _ _ hl, grpL_nth _ _ _ _ (by rw [once_one]; omega), hook_one, Nat.mod_eq_of_lt hj]
theorem show_two (M N2 : Nat) (DS : List Nat) (i j : Nat) (hi : i < DS.length) (h2 : (M + 1) + (M + 1) = N2) (hj : j < N2) : bitN (nthN (pks (grpL M 1 2) DS) i) j = bitN (nthN (painted (beG (M + 1) DS DS) DS.length N2) i) j := by
  have hl : j < (grpL M 1 2).length := by rw [grpL_len, once_one]; omega
  rw [pks_nth _ _ hi, pickP_bit _ _ _ hl, grpL_nth _ _ _ _ (by rw [once_one]; omega), hook_one, painted_nthT _ _ _ _ hi, bit_rowTo, decide_eq_true hj, Bool.true_and]
  unfold beG
  by_cases h : j < M + 1
  · rw [if_pos h, Nat.mod_eq_of_lt h]
  · have e : j = (j - (M + 1)) + (M + 1) := by omega
    rw [if_neg h, e, Nat.add_mod_right, Nat.mod_eq_of_lt (by omega), Nat.add_sub_cancel]
theorem show_refl (M R : Nat) (DS : List Nat) (i j : Nat) (hi : i < DS.length) (hR : reflHooks (M + 1) = R) (hj : j < R) : bitN (nthN (pks (grpL M 2 1) DS) i) j = bitN (nthN (painted (reflG DS (M + 1)) DS.length R) i) j := by
  have ho := once_refl M
  rw [hR] at ho
  have hl : j < (grpL M 2 1).length := by rw [grpL_len, ho]; omega
  rw [pks_nth _ _ hi, pickP_bit _ _ _ hl, grpL_nth _ _ _ _ (by rw [ho]; omega), painted_nthT _ _ _ _ hi, bit_rowTo, decide_eq_true hj, Bool.true_and]
  unfold reflG hookT
  rw [ho, Nat.mod_eq_of_lt hj, hR]
  congr 1
  unfold reflHooks at hR
  split at hR <;> split <;> omega
end Go.Proofs.Ytdmgffoikebgkaa
