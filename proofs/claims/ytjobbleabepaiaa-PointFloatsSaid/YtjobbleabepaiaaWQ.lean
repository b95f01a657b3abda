/- put, further. -/
import Derived.Test.YtjobbleabepaiaaWP
namespace Go.Proofs.Ytjobbleabepaiaa
open Go.RowKit

def change : Nat := 16777216
/-- a choice with one more point -/
def putN (p f c h l : Nat) : Nat := c + (if (bitN p h).toNat = l then 0 else change + if bitN f h then never else 0) + l * 2 ^ h
theorem and_bit (x k : Nat) (hx : x < 9223372036854775808) (b : Bool) (hb : bitN x k = b) : bits .and .i64 ((x : Int) / 2 ^ k) 1 = (b.toNat : Int) := by
  rw [shr_bit' x k hx, hb]
theorem pow24 (k : Nat) (hk : k ≤ 24) : (2 : Nat) ^ k ≤ 16777216 := Nat.le_trans (Nat.pow_le_pow_right (by decide) hk) (by decide)
theorem putN_le (p f c h l : Nat) (hl : l ≤ 1) (hh : h < 24) : putN p f c h l ≤ c + 452984832 := by
  have := pow24 h (by omega)
  unfold putN change never
  have : l * 2 ^ h ≤ 2 ^ h := by
    rcases (show l = 0 ∨ l = 1 by omega) with rfl | rfl <;> simp
  split
  · omega
  · split <;> omega
set_option maxHeartbeats 2000000 in
theorem put_any (s p f m c h l : Nat) (w : World) (hp : p < 16777216) (hf : f < 16777216) (hc : c < 1099511627776) (hh : h < 24) (hl : l ≤ 1) :
    Calls Try.prog 110 #[bnd s p f m, .int .i64 (c : Int), .int .i64 (h : Int), .int .i64 (l : Int)] w fun e w' => e = .returned (.int .i64 (putN p f c h l : Int)) ∧ Below w.heap.size w w' := by
  obtain ⟨g1, g2⟩ := pow_bds h (by omega)
  have hpe : (2 : Int) ^ h = ((2 ^ h : Nat) : Int) := (Int.natCast_pow 2 h).symm
  have hw : IntKind.i64.wrap (2 ^ h) = 2 ^ h := IntWalk.i64_in _ (by omega)
  unfold bnd
  cases hb : bitN p h
  all_goals cases hfx : bitN f h
  all_goals have hA := and_bit p h (by omega) _ hb
  all_goals have hF := and_bit f h (by omega) _ hfx
  all_goals simp only [Bool.toNat_true, Bool.toNat_false, Int.natCast_zero, Int.natCast_one] at hA hF
  all_goals rcases (show l = 0 ∨ l = 1 by omega) with rfl | rfl
  all_goals have Hb := Lib.hid hb
  all_goals have Hf := Lib.hid hfx
  all_goals have Hpe := Lib.hid hpe
  all_goals clear hb hfx hpe
  all_goals go_enter Try.func110, Try.ntmps110
  all_goals go_wp2
  all_goals go_ret
  all_goals refine ⟨ret_int ?_, (Below.refl _ _).alloc (Nat.le_refl _) _⟩
  all_goals simp only [putN, Hb.out, Hf.out, change, never]
  all_goals (try rw [Hpe.out])
  all_goals simp
  all_goals (try omega)
end Go.Proofs.Ytjobbleabepaiaa
