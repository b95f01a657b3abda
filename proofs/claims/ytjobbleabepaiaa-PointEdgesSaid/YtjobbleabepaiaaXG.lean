/- Row, Reverse, Design of the reference; a design that is filled row by row. -/
import Derived.Test.YtjobbleabepaiaaVU
import Derived.Test.YtjobbleabepaiaaVR
import Derived.Test.YtjobbleabepaiaaVV
namespace Go.Proofs.Ytjobbleabepaiaa
open Go.RowKit

theorem row_step (f : Nat → Bool) (m k : Nat) (hk : k < m) : rowTo f m / 2 ^ k = 2 * (rowTo f m / 2 ^ (k + 1)) + (f k).toNat := by
  have h1 : rowTo f m / 2 ^ (k + 1) = rowTo f m / 2 ^ k / 2 := by rw [Nat.pow_succ, Nat.div_div_eq_div_mul]
  have h2 : rowTo f m / 2 ^ k % 2 = (f k).toNat := by
    rw [← Nat.toNat_testBit, rowTo_bit]; simp [hk]
  omega
theorem rowTo_lt24 (f : Nat → Bool) (m : Nat) (hm : m ≤ 24) : rowTo f m < 16777216 :=
  Nat.lt_of_lt_of_le (rowTo_lt f m) (Nat.le_trans (Nat.pow_le_pow_right (by decide) hm) (by decide))

set_option maxHeartbeats 1000000 in
theorem refRow_any (b c m : Nat) (f : Nat → Bool) (w : World) (hm : m ≤ 24) (hB : BoolsAt w b m f) :
    Calls Try.prog 105 #[.slice (some ⟨b, 0, none⟩) m c] w fun e w' => e = .returned (.int .i64 (rowTo f m : Nat)) ∧ w = w' := by
  have hlt0 := rowTo_lt24 f m hm
  have hend := Lib.hid (Nat.div_eq_of_lt (rowTo_lt f m))
  have HS := Lib.hid (fun k hk => row_step f m k hk)
  obtain ⟨X, hX⟩ : ∃ X, X = rowTo f m := ⟨_, rfl⟩
  rw [← hX] at hend HS hlt0 ⊢
  have HC := Lib.hid hB.c
  clear hX hB
  go_enter Try.func105, Try.ntmps105
  go_wp2
  go_loop [3, 4] (fun r i => ∃ k : Nat, k ≤ m ∧ i = .int .i64 ((k : Int) - 1) ∧ r = .int .i64 ((X / 2 ^ k : Nat) : Int)) (fun _ i => (intOf i + 1).toNat)
  case atStart => exact ⟨m, Nat.le_refl _, rfl, by rw [hend.out]; rfl⟩
  case round =>
    obtain ⟨k, hk, rfl, rfl⟩ := hrel
    rcases k with _ | j
    · go_wp2
      go_ret
      exact ⟨ret_int (by simp), rfl⟩
    · have hst := HS.out j (by omega)
      have hc := HC.out j (by omega)
      have hle : X / 2 ^ j ≤ X := Nat.div_le_self _ _
      have hk0 : (0 : Int) ≤ (j : Int) := by omega
      have hk1 : (j : Int) < (m : Int) := by omega
      rw [show ((j + 1 : Nat) : Int) - 1 = (j : Int) by omega]
      obtain ⟨y, hy⟩ : ∃ y, y = X / 2 ^ (j + 1) := ⟨_, rfl⟩
      obtain ⟨z, hz⟩ : ∃ z, z = X / 2 ^ j := ⟨_, rfl⟩
      rw [← hy, ← hz] at hst
      rw [← hz] at hle
      rw [← hy]
      have HZ := Lib.hid hz
      clear hy hz
      cases hf : f j with
      | true =>
        rw [hf] at hst hc
        have Hst := Lib.hid hst
        have hyl : 2 * y + 1 ≤ 16777216 := by simp at hst; omega
        clear hst hf
        go_wp2
        go_round
        case rel => exact ⟨j, by omega, rfl, by rw [← HZ.out, Hst.out]; simp; omega⟩
        case measure => simp [intOf]
      | false =>
        rw [hf] at hst hc
        have Hst := Lib.hid hst
        have hyl : 2 * y ≤ 16777216 := by simp at hst; omega
        clear hst hf
        go_wp2
        go_round
        case rel => exact ⟨j, by omega, rfl, by rw [← HZ.out, Hst.out]; simp; omega⟩
        case measure => simp [intOf]

set_option maxHeartbeats 2000000 in
theorem Reverse_any (b c m : Nat) (f : Nat → Bool) (w : World) (hm : m ≤ 60) (hB : BoolsAt w b m f) :
    Calls Try.prog 83 #[.slice (some ⟨b, 0, none⟩) m c] w fun e w' => ∃ b c, e = .returned (.slice (some ⟨b, 0, none⟩) m c) ∧ w'.ownsRow w.heap.size 4 1 (.slice (some ⟨b, 0, none⟩) m c) m (boolCells (fun j => f (m - 1 - j)) m) ∧ Below w.heap.size w w' := by
  obtain ⟨i0, hi, hz0, hz1, hz2⟩ := info_parts tInfo4
  have HBs := Lib.hid hB
  clear hB
  go_enter Try.func83, Try.ntmps83
  go_wp2
  go_loopw [3, 4] (fun v i wr => ∃ k g c : Nat, k ≤ m ∧ i = .int .i64 ((m : Int) - 1 - (k : Int)) ∧ v = .slice (some ⟨g, 0, none⟩) k c ∧ wr.ownsRow w.heap.size 4 1 (.slice (some ⟨g, 0, none⟩) k c) k (boolCells (fun j => f (m - 1 - j)) k) ∧ Below w.heap.size w wr) (fun _ i _ => (intOf i + 1).toNat)
  case atStart =>
    exact ⟨0, w.heap.size, 0, Nat.zero_le _, by simp, rfl, World.ownsRow_made w #[] 0 (Nat.le_refl _) (Nat.zero_le _) rfl, (Below.refl _ _).alloc (Nat.le_refl _) _⟩
  case round =>
    obtain ⟨k, g, c, hk, rfl, rfl, hrow, hB⟩ := hrel
    by_cases hlt : k < m
    · have hc := (HBs.out.below hB HBs.out.lt).c (m - 1 - k) (by omega)
      rw [show (m : Int) - 1 - (k : Int) = ((m - 1 - k : Nat) : Int) by omega]
      obtain ⟨j, hj⟩ : ∃ j, j = m - 1 - k := ⟨_, rfl⟩
      have hjm : j < m := by omega
      have hk0 : (0 : Int) ≤ (j : Int) := by omega
      have hk1 : (j : Int) < (m : Int) := by omega
      rw [← hj] at hc ⊢
      obtain ⟨bt, hbt⟩ : ∃ bt, bt = f j := ⟨_, rfl⟩
      rw [← hbt] at hc
      have HBT := Lib.hid hbt
      have HJ := Lib.hid hj
      have HRow := Lib.hid hrow
      have HB := Lib.hid hB
      clear hbt hrow hB hj
      go_wp2_with (at_builtin; refine Shut.out ?_)
      unfold Shut
      refine wpList_append_lies _ rfl _ _ 77 rfl w.heap.size 4 i0 (.bool false) 1 1 Try.underlying77 hi hz0 hz1 hz2 rfl (by omega) (.slice (some ⟨g, 0, none⟩) k c) k (boolCells (fun j => f (m - 1 - j)) k) rfl (HRow.out.alloc _) ⟨wr.heap.size, 0, none⟩ 1 1 [.bool bt] rfl rfl (World.news_of_block (cs := #[.bool bt]) (t := 4) (fr := (0, 0)) (heap_alloc_new wr _)) (by simp [Value.oneCell']) (by omega) (by unfold maxLen; omega) (by omega) (by have := HB.out.size; simp; omega) (wr.heap.size + 1) (by simp) ?_
      intro g2 cap2 w5 hown1 hgrow hat hglt
      have hrow5 : w5.ownsRow w.heap.size 4 1 (.slice (some ⟨g2, 0, none⟩) (k + 1) cap2) (k + 1) (boolCells (fun j => f (m - 1 - j)) (k + 1)) := by
        rw [boolCells_succ, ← HJ.out, ← HBT.out]; exact hown1
      have hB5 : Below w.heap.size w w5 := (HB.out.alloc HB.out.size _).grown hgrow (by have := HB.out.size; simp; omega) (fun j hj => (HRow.out.lt j hj).1)
      have HR5 := Lib.hid hrow5
      have HB5 := Lib.hid hB5
      clear hrow5 hB5 hown1 hgrow hat
      go_wp2
      go_roundw
      case rel => exact ⟨k + 1, g2, cap2, by omega, congrArg (Value.int .i64) (by have := HJ.out; omega), rfl, HR5.out, HB5.out⟩
      case measure => simp [intOf]
    · obtain rfl : k = m := by omega
      have HRow := Lib.hid hrow
      have HB := Lib.hid hB
      clear hrow hB
      rw [show (k : Int) - 1 - (k : Int) = -1 by omega]
      go_wp2
      go_ret
      exact ⟨g, c, rfl, HRow.out, HB.out⟩
end Go.Proofs.Ytjobbleabepaiaa
