/- Floats. -/
import Derived.Test.YtjobbleabepaiaaWG
import Derived.Test.YtjobbleabepaiaaWH
import Derived.Deep.RegionWith
namespace Go.Proofs.Ytjobbleabepaiaa
open Go.RowKit

theorem DsAt_one (W : World) (d : Dsg) (hr : Reads W d.v d.xs) : DsAt (W.alloc (.cells #[.int .i64 d.hooks, .slice d.p d.xs.length d.cap] 24)) W.heap.size [d] := by
  refine ⟨fun i hi => ?_, fun i hi => ?_, fun i hi => ?_, by simp⟩
  all_goals obtain rfl : i = 0 := by simpa using hi
  · simp [nthD]
  · simp [nthD]
  · exact hr.below ((Below.refl _ _).alloc (Nat.le_refl _) _)
theorem DsAt_two (W : World) (d e : Dsg) (hr : Reads W d.v d.xs) (hs : Reads W e.v e.xs) : DsAt (W.alloc (.cells #[.int .i64 d.hooks, .slice d.p d.xs.length d.cap, .int .i64 e.hooks, .slice e.p e.xs.length e.cap] 24)) W.heap.size [d, e] := by
  have h2 : ∀ i, i < [d, e].length → i = 0 ∨ i = 1 := fun i hi => by simp at hi; omega
  refine ⟨fun i hi => ?_, fun i hi => ?_, fun i hi => ?_, by simp⟩
  all_goals rcases h2 i hi with rfl | rfl
  · simp [nthD]
  · simp [nthD]
  · simp [nthD]
  · simp [nthD]
  · exact hr.below ((Below.refl _ _).alloc (Nat.le_refl _) _)
  · exact hs.below ((Below.refl _ _).alloc (Nat.le_refl _) _)
theorem DsAt_three (W : World) (d e f : Dsg) (hr : Reads W d.v d.xs) (hs : Reads W e.v e.xs) (ht : Reads W f.v f.xs) : DsAt (W.alloc (.cells #[.int .i64 d.hooks, .slice d.p d.xs.length d.cap, .int .i64 e.hooks, .slice e.p e.xs.length e.cap, .int .i64 f.hooks, .slice f.p f.xs.length f.cap] 24)) W.heap.size [d, e, f] := by
  have h2 : ∀ i, i < [d, e, f].length → i = 0 ∨ i = 1 ∨ i = 2 := fun i hi => by simp at hi; omega
  refine ⟨fun i hi => ?_, fun i hi => ?_, fun i hi => ?_, by simp⟩
  all_goals rcases h2 i hi with rfl | rfl | rfl
  · simp [nthD]
  · simp [nthD]
  · simp [nthD]
  · simp [nthD]
  · simp [nthD]
  · simp [nthD]
  · exact hr.below ((Below.refl _ _).alloc (Nat.le_refl _) _)
  · exact hs.below ((Below.refl _ _).alloc (Nat.le_refl _) _)
  · exact ht.below ((Below.refl _ _).alloc (Nat.le_refl _) _)

/-- a design that is valid -/
structure Valid (n : Nat) (xs : List Nat) : Prop where
  n0 : 1 ≤ n
  n1 : n ≤ 24
  l0 : 1 ≤ xs.length
  l1 : xs.length ≤ 60
  lt : ∀ i, nthN xs i < 2 ^ n
theorem Valid.lt' {n : Nat} {xs : List Nat} (h : Valid n xs) (i : Nat) : nthN xs i < 16777216 :=
  Nat.lt_of_lt_of_le (h.lt i) (Nat.le_trans (Nat.pow_le_pow_right (by decide) h.n1) (by decide))
def ints (xs : List Nat) : List Int := xs.map fun n : Nat => (n : Int)
theorem ints_len (xs : List Nat) : (ints xs).length = xs.length := by simp [ints]
theorem Valid.check {n : Nat} {xs : List Nat} (h : Valid n xs) : checkE n (ints xs) = 0 := by
  have h1 := h.n0; have h2 := h.n1; have h3 := h.l0; have h4 := h.l1
  unfold checkE
  rw [if_neg (by omega), if_neg (by rw [ints_len]; omega), if_neg (by rw [ints_len]; omega), if_pos]
  unfold rowsOk ints
  rw [List.all_eq_true]
  intro x hx
  obtain ⟨y, hy, rfl⟩ := List.mem_map.1 hx
  obtain ⟨i, hi, rfl⟩ := List.mem_iff_getElem.1 hy
  have := h.lt i
  rw [nthN_get _ _ hi] at this
  have e : (2 : Int) ^ (n : Int).toNat = ((2 ^ n : Nat) : Int) := by rw [Int.toNat_natCast]; exact (Int.natCast_pow 2 n).symm
  rw [e]
  simp
  exact_mod_cast this
theorem valid_of_check {h : Int} {is : List Int} (hc : checkE h is = 0) : ∃ n xs, h = ((n : Nat) : Int) ∧ is = ints xs ∧ Valid n xs := by
  unfold checkE at hc
  by_cases h1 : h < 1 ∨ 24 < h
  · rw [if_pos h1] at hc; omega
  rw [if_neg h1] at hc
  by_cases h2 : 60 < is.length
  · rw [if_pos h2] at hc; omega
  rw [if_neg h2] at hc
  by_cases h3 : is.length = 0
  · rw [if_pos h3] at hc; omega
  rw [if_neg h3] at hc
  by_cases h4 : rowsOk h.toNat is = true
  · obtain ⟨n, rfl⟩ := Int.eq_ofNat_of_zero_le (show 0 ≤ h by omega)
    have hall : ∀ x ∈ is, 0 ≤ x ∧ x < 2 ^ n := by
      intro x hx
      have := (List.all_eq_true.1 h4) x hx
      simpa using this
    refine ⟨n, is.map Int.toNat, rfl, ?_, by omega, by omega, by simp; omega, by simp; omega, fun i => ?_⟩
    · unfold ints
      rw [List.map_map]
      conv => lhs; rw [← List.map_id is]
      refine List.map_congr_left fun x hx => ?_
      have := (hall x hx).1
      simp; omega
    · by_cases hi : i < is.length
      · rw [nthN_get _ _ (by simpa using hi)]
        have := hall is[i] (List.getElem_mem _)
        simp only [List.getElem_map]
        have e : (2 : Int) ^ n = ((2 ^ n : Nat) : Int) := (Int.natCast_pow 2 n).symm
        rw [e] at this
        omega
      · have : nthN (is.map Int.toNat) i = 0 := by simp [nthN]; rw [List.getElem?_eq_none (by omega)]; rfl
        rw [this]
        exact Nat.pow_pos (by decide)
  · rw [if_neg h4] at hc; omega
/-- the rows of a valid design in memory -/
structure VAt (w : World) (b off c : Nat) (n : Nat) (xs : List Nat) : Prop where
  at' : NatsAt w b off xs
  lt : b < w.heap.size
  ok : Valid n xs
theorem VAt.below {w w' : World} {b off c n : Nat} {xs : List Nat} (h : VAt w b off c n xs) (hb : Below w.heap.size w w') : VAt w' b off c n xs :=
  ⟨h.at'.below hb h.lt, Nat.lt_of_lt_of_le h.lt hb.size, h.ok⟩
theorem VAt.reads {w : World} {b off c n : Nat} {xs : List Nat} (h : VAt w b off c n xs) : Reads w (.slice (some ⟨b, off, none⟩) xs.length c) (ints xs) :=
  ⟨_, c, by rw [ints_len], by rw [ints_len]; have := h.ok.l1; omega, fun _ => ⟨b, off, rfl, h.lt, h.at'.ints⟩⟩
end Go.Proofs.Ytjobbleabepaiaa
