/- Walks of pick, hook, longerThan. -/
import Derived.Test.YtdmgffoikebgkaaWA
namespace Go.Proofs.Ytdmgffoikebgkaa
open Go.RowKit

set_option maxHeartbeats 400000 in
theorem pick_any (n : Nat) (b off c : Nat) (xs : List Nat) (i : Nat) (w : World) (hb : b < w.heap.size) (_hl : xs.length ≤ 1000) (hx : NatsAt w b off xs) (hi : i < xs.length) :
    Calls Try.prog 140 #[.agg #[.int .i64 (n : Int), .slice (some ⟨b, off, none⟩) xs.length c], .int .i64 (i : Int)] w fun e w' => e = .returned (.agg #[.int .i64 (n : Int), .int .i64 (nthN xs i : Int)]) ∧ Below w.heap.size w w' := by
  have hc := hx i hi
  have hi0 : (0 : Int) ≤ (i : Int) := by omega
  have hi1 : (i : Int) < (xs.length : Int) := by omega
  have hc1 : ((w.alloc (.cells #[.int .i64 (n : Int), .slice (some ⟨b, off, none⟩) xs.length c] 191)).alloc (.cells #[.int .i64 0, .int .i64 0] 189)).cell? ⟨b, off + i, none⟩ = some (.int .i64 (nthN xs i : Int)) := (((Below.refl w.heap.size w).alloc (Nat.le_refl _) _).alloc (by simp) _).cell (p := ⟨b, off + i, none⟩) hb |>.trans hc
  go_enter Try.func140, Try.ntmps140
  go_wp2
  go_region
  go_wp2
  exact bodyPost_ret (v := .agg #[.int .i64 (n : Int), .int .i64 (nthN xs i : Int)]) (by simp [results, Try.results140, go_sem]) rfl ⟨rfl, (((Below.refl _ _).alloc (Nat.le_refl _) _).alloc (by simp) _).drew⟩
/-- the points along a hook, up to a pick -/
def colTo (xs : List Nat) (h : Nat) : Nat → Nat
  | 0 => 0
  | k + 1 => colTo xs h k ||| (bitN (nthN xs k) h).toNat * 2 ^ k
theorem colTo_lt (xs : List Nat) (h : Nat) : ∀ k, colTo xs h k < 2 ^ k
  | 0 => by simp [colTo]
  | k + 1 => by
    have := colTo_lt xs h k
    refine Nat.or_lt_two_pow ?_ ?_
    · rw [Nat.pow_succ]; omega
    · rw [Nat.pow_succ]
      cases bitN (nthN xs k) h <;> simp <;> omega
theorem colTo_bit (xs : List Nat) (h : Nat) : ∀ k j, (colTo xs h k).testBit j = (decide (j < k) && bitN (nthN xs j) h)
  | 0, j => by simp [colTo]
  | k + 1, j => by
    simp only [colTo, Nat.testBit_or, colTo_bit xs h k j]
    by_cases hj : j = k
    · subst hj
      cases bitN (nthN xs j) h <;> simp
    · have e : ((bitN (nthN xs k) h).toNat * 2 ^ k).testBit j = false := by
        cases bitN (nthN xs k) h
        · simp
        · simp only [Bool.toNat_true, Nat.one_mul]; rw [Nat.testBit_two_pow]; simp; omega
      rw [e, Bool.or_false]
      congr 1
      simp; omega
theorem pow60 (k : Nat) (hk : k ≤ 60) : (2 : Nat) ^ k ≤ 1152921504606846976 := Nat.le_trans (Nat.pow_le_pow_right (by decide) hk) (by decide)
theorem wrap64_in (n : Int) (h : -9223372036854775808 ≤ n ∧ n ≤ 9223372036854775807) : wrap64 n = n := by unfold wrap64; omega
theorem hook_step (P x h k : Nat) (hP : P < 2 ^ k) (hk : k < 60) (hx : x < 16777216) :
    bits .or .i64 (P : Int) (wrap64 (bits .and .i64 ((x : Int) / 2 ^ h) 1 * 2 ^ k)) = ((P ||| (bitN x h).toNat * 2 ^ k : Nat) : Int) := by
  have h2 := pow60 k (by omega)
  have e : bits .and .i64 ((x : Int) / 2 ^ h) 1 * 2 ^ k = (((bitN x h).toNat * 2 ^ k : Nat) : Int) := by
    rw [shr_bit' x h (by omega), Int.natCast_mul, Int.natCast_pow]; rfl
  have hle : (bitN x h).toNat * 2 ^ k ≤ 2 ^ k := by cases bitN x h <;> simp
  rw [e, wrap64_in _ (by omega)]
  exact i64_or_nat _ _ (by omega) (by omega)
set_option maxHeartbeats 400000 in
theorem hook_any (n : Nat) (b off c : Nat) (xs : List Nat) (h : Nat) (w : World) (hb : b < w.heap.size) (hl : xs.length ≤ 60) (hx : NatsAt w b off xs) (hv : ∀ i, nthN xs i < 16777216) (hh : h < 24) :
    Calls Try.prog 192 #[.agg #[.int .i64 (n : Int), .slice (some ⟨b, off, none⟩) xs.length c], .int .i64 (h : Int)] w fun e w' => e = .returned (.agg #[.int .i64 (xs.length : Int), .int .i64 (colTo xs h xs.length : Int)]) ∧ Below w.heap.size w w' := by
  have hx1 : NatsAt ((w.alloc (.cells #[.int .i64 (n : Int), .slice (some ⟨b, off, none⟩) xs.length c] 191)).alloc (.cells #[.int .i64 0, .int .i64 0] 189)) b off xs := hx.below (((Below.refl w.heap.size w).alloc (Nat.le_refl _) _).alloc (by simp) _) hb
  go_enter Try.func192, Try.ntmps192
  go_wp2
  go_loop [5, 6, 7, 12] (fun p _ _ i => ∃ k : Nat, k ≤ xs.length ∧ i = .int .i64 k ∧ p = .int .i64 (colTo xs h k : Int)) (fun _ _ _ i => xs.length - (intOf i).toNat)
  case atStart => exact ⟨0, Nat.zero_le _, rfl, rfl⟩
  case round =>
    obtain ⟨k, hk, rfl, rfl⟩ := hrel
    by_cases hlt : k < xs.length
    · have hc := hx1 k hlt
      have hlo := colTo_lt xs h k
      have hst := Lib.hid (hook_step (colTo xs h k) (nthN xs k) h k hlo (by omega) (hv k))
      clear hlo
      go_wp2
      go_round
      case rel => exact ⟨k + 1, by omega, by go_num, by rw [hst.out]; rfl⟩
      case measure => simp [intOf]; omega
    · obtain rfl : k = xs.length := by omega
      go_wp2
      exact bodyPost_ret (v := .agg #[.int .i64 (xs.length : Int), .int .i64 (colTo xs h xs.length : Int)]) (by simp [results, Try.results192, go_sem]) rfl ⟨rfl, ((Below.refl _ _).alloc (Nat.le_refl _) _).alloc (by simp) _⟩
set_option maxHeartbeats 400000 in
theorem longerThan1_any (n m : Int) (b : Nat) (w : World) (hb : w.cell? ⟨b, 0, none⟩ = some (.int .i64 m)) :
    Calls Try.prog 193 #[.int .i64 n, .pointer (some ⟨b, 0, none⟩)] w fun e w' => e = .returned (.bool (decide (m < n))) ∧ w = w' := by
  go_enter Try.func193, Try.ntmps193
  go_wp2
  go_ret
  exact ⟨rfl, rfl⟩
set_option maxHeartbeats 400000 in
theorem longerThan_any (m : Int) (w : World) :
    Calls Try.prog 145 #[.int .i64 m] w fun e w' => e = .returned (.func (.func 193) #[] #[.pointer (some ⟨w.heap.size, 0, none⟩)]) ∧ w.alloc (.cells #[.int .i64 m] 3) = w' := by
  go_enter Try.func145, Try.ntmps145
  go_wp2
  go_ret
  exact ⟨rfl, rfl⟩
end Go.Proofs.Ytdmgffoikebgkaa
