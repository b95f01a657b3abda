/- Bits of the reference. -/
import Derived.Test.YtjobbleabepaiaaWX
namespace Go.Proofs.Ytjobbleabepaiaa
open Go.RowKit

/-- how many of a number's first bits are 1 -/
def popN (z : Nat) : Nat → Nat
  | 0 => 0
  | k + 1 => popN z k + (bitN z k).toNat
theorem popN_le (z : Nat) : ∀ k, popN z k ≤ k
  | 0 => Nat.le_refl _
  | k + 1 => by have := popN_le z k; rw [popN]; cases bitN z k <;> simp <;> omega
theorem popN_rest (z k : Nat) (h : z / 2 ^ k = 0) : ∀ t, popN z (k + t) = popN z k
  | 0 => rfl
  | t + 1 => by
    rw [← Nat.add_assoc, popN, popN_rest z k h t]
    have h2 : bitN z (k + t) = false := by
      unfold bitN; rw [Nat.testBit_eq_decide_div_mod_eq, Nat.pow_add, ← Nat.div_div_eq_div_mul, h]; simp
    rw [h2]; rfl
theorem bit_mod (z k : Nat) : (bitN z k).toNat = z / 2 ^ k % 2 := by unfold bitN; rw [Nat.toNat_testBit]

set_option maxHeartbeats 1000000 in
theorem refBits_any (z : Nat) (w : World) (hz : z < 16777216) :
    Calls Try.prog 76 #[.int .i64 (z : Int)] w fun e w' => e = .returned (.int .i64 (popN z 24 : Int)) ∧ w = w' := by
  go_enter Try.func76, Try.ntmps76
  go_wp2
  go_loop [0, 3] (fun n m => ∃ k : Nat, k ≤ 24 ∧ n = .int .i64 ((z / 2 ^ k : Nat) : Int) ∧ m = .int .i64 (popN z k : Int)) (fun n _ => (intOf n).toNat)
  case atStart => exact ⟨0, by omega, by simp, rfl⟩
  case round =>
    obtain ⟨k, hk, rfl, rfl⟩ := hrel
    have hle := popN_le z k
    have hyl : z / 2 ^ k ≤ z := Nat.div_le_self _ _
    have HB := Lib.hid (bit_mod z k)
    have HD := Lib.hid (show z / 2 ^ (k + 1) = z / 2 ^ k / 2 by rw [Nat.pow_succ, ← Nat.div_div_eq_div_mul])
    have HP := Lib.hid (show popN z (k + 1) = popN z k + (bitN z k).toNat from rfl)
    by_cases h0 : z / 2 ^ k = 0
    · have HE := Lib.hid (show popN z 24 = popN z k by
        have := popN_rest z k h0 (24 - k)
        rwa [show k + (24 - k) = 24 by omega] at this)
      have h0' : ((z / 2 ^ k : Nat) : Int) = 0 := by omega
      rw [h0']
      clear h0 h0' hyl
      go_wp2
      go_ret
      exact ⟨ret_int (by rw [HE.out]), rfl⟩
    · have hk2 : k < 24 := by
        rcases Nat.lt_or_ge k 24 with h | h
        · exact h
        · exfalso
          exact h0 (Nat.div_eq_of_lt (Nat.lt_of_lt_of_le hz (Nat.le_trans (by decide : 16777216 ≤ 2 ^ 24) (Nat.pow_le_pow_right (by decide) h))))
      obtain ⟨y, hy⟩ : ∃ y, y = z / 2 ^ k := ⟨_, rfl⟩
      rw [← hy] at h0 hyl HB HD
      rw [← hy]
      have hy0 : 0 < (y : Int) := by omega
      clear hy h0
      go_wp2
      go_round
      case rel => exact ⟨k + 1, by omega, congrArg (Value.int .i64) (by rw [HD.out]; omega), congrArg (Value.int .i64) (by rw [HP.out, HB.out]; omega)⟩
      case measure => simp [intOf]; omega
end Go.Proofs.Ytjobbleabepaiaa
