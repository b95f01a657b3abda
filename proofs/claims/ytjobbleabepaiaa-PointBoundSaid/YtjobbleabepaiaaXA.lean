/- Length of the reference. -/
import Derived.Test.YtjobbleabepaiaaVU
import Derived.Test.YtjobbleabepaiaaWG
namespace Go.Proofs.Ytjobbleabepaiaa
open Go.RowKit

theorem tmod_cast' (i p : Nat) : (i : Int).tmod (p : Int) = ((i % p : Nat) : Int) := by
  rw [Int.tmod_eq_emod_of_nonneg (by omega)]; exact (Int.natCast_emod _ _).symm
theorem alike_iff {m p : Nat} (hm : 1 ≤ m) (hp : p < 2 ^ m) : alikeB m p = true ↔ ∀ j, j < m → bitN p j = bitN p 0 := by
  unfold alikeB
  rw [Bool.or_eq_true, beq_iff_eq, beq_iff_eq]
  constructor
  · rintro (rfl | rfl) j hj
    · simp [bitN]
    · unfold bitN
      rw [Nat.testBit_two_pow_sub_one, Nat.testBit_two_pow_sub_one]
      simp [hj]; omega
  · intro h
    cases h0 : bitN p 0 with
    | false =>
      left
      apply Nat.eq_of_testBit_eq
      intro j
      rw [Nat.zero_testBit]
      by_cases hj : j < m
      · have := h j hj; rw [h0] at this; exact this
      · exact Nat.testBit_lt_two_pow (Nat.lt_of_lt_of_le hp (Nat.pow_le_pow_right (by decide) (by omega)))
    | true =>
      right
      apply Nat.eq_of_testBit_eq
      intro j
      rw [Nat.testBit_two_pow_sub_one]
      by_cases hj : j < m
      · have := h j hj; rw [h0] at this; rw [show p.testBit j = true from this]; simp [hj]
      · rw [Nat.testBit_lt_two_pow (Nat.lt_of_lt_of_le hp (Nat.pow_le_pow_right (by decide) (by omega)))]; simp [hj]
theorem alike_from {m p k : Nat} (hm : 1 ≤ m) (hp : p < 2 ^ m) (h : ∀ j, j < m → bitN p j = bitN p k) : alikeB m p = true :=
  (alike_iff hm hp).2 fun j hj => (h j hj).trans (h 0 (by omega)).symm
theorem alike_to {m p k : Nat} (hm : 1 ≤ m) (hp : p < 2 ^ m) (hk : k < m) (h : alikeB m p = true) : ∀ j, j < m → bitN p j = bitN p k := fun j hj =>
  ((alike_iff hm hp).1 h j hj).trans ((alike_iff hm hp).1 h k hk).symm
theorem begins_not_alike {m p k : Nat} (hm : 1 ≤ m) (hp : p < 2 ^ m) (hk : k < m) (hb : begins m p k = true) : alikeB m p = false := by
  cases ha : alikeB m p with
  | false => rfl
  | true =>
    have := alike_to hm hp hk ha ((k + m - 1) % m) (Nat.mod_lt _ (by omega))
    simp [begins, this] at hb
/-- the length of the float that begins at a place; 0 if none does -/
def lenAt (m p k : Nat) : Nat := if begins m p k = true then lenF m p k else if alikeB m p = true ∧ k = 0 then 1000 else 0

set_option maxRecDepth 100000 in
set_option maxHeartbeats 4000000 in
theorem Length_no (b c m p k : Nat) (w : World) (hm1 : 1 ≤ m) (hm : m ≤ 60) (hp : p < 2 ^ m) (hk : k < m) (hB : BoolsAt w b m (bitN p)) (hbg : begins m p k = false) :
    Calls Try.prog 69 #[.slice (some ⟨b, 0, none⟩) m c, .int .i64 (k : Int)] w fun e w' => e = .returned (.int .i64 (lenAt m p k : Int)) ∧ Below w.heap.size w w' := by
  have hq : (k + m - 1) % m < m := Nat.mod_lt _ (by omega)
  have x1 := hB.c _ hq
  have x2 := hB.c k hk
  have hqe : bitN p ((k + m - 1) % m) = bitN p k := by simpa [begins] using hbg
  rw [hqe] at x1
  have hmod : ((k : Int) + (m : Int) - 1).tmod (m : Int) = (((k + m - 1) % m : Nat) : Int) := by
    rw [show (k : Int) + (m : Int) - 1 = ((k + m - 1 : Nat) : Int) by omega]; exact tmod_cast' _ _
  obtain ⟨q, hqq⟩ : ∃ q, (k + m - 1) % m = q := ⟨_, rfl⟩
  rw [hqq] at x1 hmod hq
  have hle : lenAt m p k = if alikeB m p = true ∧ k = 0 then 1000 else 0 := by unfold lenAt; rw [if_neg (by simp [hbg])]
  obtain ⟨L, hL⟩ : ∃ L, lenAt m p k = L := ⟨_, rfl⟩
  rw [hL]
  rw [hL] at hle
  have hw1 : IntKind.i64.wrap ((k : Int) + (m : Int)) = (k : Int) + (m : Int) := IntWalk.i64_in _ (by omega)
  have hw2 : IntKind.i64.wrap ((k : Int) + (m : Int) - 1) = (k : Int) + (m : Int) - 1 := IntWalk.i64_in _ (by omega)
  have hq0 : (0 : Int) ≤ (q : Int) := by omega
  have hq1 : (q : Int) < (m : Int) := by omega
  have hk0 : (0 : Int) ≤ (k : Int) := by omega
  have hk1 : (k : Int) < (m : Int) := by omega
  have hm0 : ¬ (m : Int) = 0 := by omega
  have hm0' : ¬ m = 0 := by omega
  have HB := Lib.hid hB
  have HLE := Lib.hid hle
  cases ha : alikeB m p with
  | true =>
    have hal := alike_to hm1 hp hk ha
    obtain ⟨bt, hbt⟩ : ∃ bt, bitN p k = bt := ⟨_, rfl⟩
    rw [hbt] at x1 x2 hal
    have HAL := Lib.hid hal
    have HA := Lib.hid ha
    clear hB hbg hqe hqq hL hle hal ha hbt
    by_cases hkz : k = 0
    · have hkz' : ((k : Int) == 0) = true := by simp [hkz]
      have HZ := Lib.hid hkz
      clear hkz
      go_enter Try.func69, Try.ntmps69
      go_wp2_with fail
      go_region
      all_goals clear hw1 hw2 hmod
      all_goals go_wp2_with fail
      all_goals
        (go_loopw [6] (fun i wr => ∃ i' : Nat, i' ≤ m ∧ i = .int .i64 i' ∧ Below w.heap.size w wr) (fun i _ => m - (intOf i).toNat)
         case atStart => exact ⟨0, Nat.zero_le _, rfl, (Below.refl _ _).drew⟩
         case round =>
           obtain ⟨i, hi, rfl, hBe⟩ := hrel
           have HBe := Lib.hid hBe
           have hBr := HB.out.below hBe HB.out.lt
           clear hBe
           by_cases hil : i < m
           · have y1 := hBr.c i hil
             have y2 := hBr.c k hk
             rw [HAL.out i hil] at y1
             rw [HAL.out k hk] at y2
             have hi0 : (0 : Int) ≤ (i : Int) := by omega
             have hi1 : (i : Int) < (m : Int) := by omega
             clear hBr
             go_wp2_with fail
             go_region
             all_goals go_wp2
             all_goals go_roundw
             all_goals first | (simp [intOf]; omega) | exact ⟨i + 1, by omega, by go_num, HBe.out.drew⟩
           · clear hBr
             go_wp2
             go_ret
             exact ⟨ret_int (by rw [HLE.out, if_pos ⟨HA.out, HZ.out⟩]; rfl), HBe.out⟩)
    · have hkz' : ((k : Int) == 0) = false := by rw [beq_eq_false_iff_ne]; omega
      have HZ := Lib.hid hkz
      clear hkz
      go_enter Try.func69, Try.ntmps69
      go_wp2_with fail
      go_region
      all_goals clear hw1 hw2 hmod
      all_goals go_wp2_with fail
      all_goals
        (go_loopw [6] (fun i wr => ∃ i' : Nat, i' ≤ m ∧ i = .int .i64 i' ∧ Below w.heap.size w wr) (fun i _ => m - (intOf i).toNat)
         case atStart => exact ⟨0, Nat.zero_le _, rfl, (Below.refl _ _).drew⟩
         case round =>
           obtain ⟨i, hi, rfl, hBe⟩ := hrel
           have HBe := Lib.hid hBe
           have hBr := HB.out.below hBe HB.out.lt
           clear hBe
           by_cases hil : i < m
           · have y1 := hBr.c i hil
             have y2 := hBr.c k hk
             rw [HAL.out i hil] at y1
             rw [HAL.out k hk] at y2
             have hi0 : (0 : Int) ≤ (i : Int) := by omega
             have hi1 : (i : Int) < (m : Int) := by omega
             clear hBr
             go_wp2_with fail
             go_region
             all_goals go_wp2
             all_goals go_roundw
             all_goals first | (simp [intOf]; omega) | exact ⟨i + 1, by omega, by go_num, HBe.out.drew⟩
           · clear hBr
             go_wp2
             go_ret
             exact ⟨ret_int (by rw [HLE.out, if_neg (fun h => HZ.out h.2)]; rfl), HBe.out⟩)
  | false =>
    obtain ⟨bt, hbt⟩ : ∃ bt, bitN p k = bt := ⟨_, rfl⟩
    have hno : ¬ ∀ j, j < m → bitN p j = bt := fun h => by
      have := alike_from (k := k) hm1 hp (fun j hj => by rw [hbt]; exact h j hj)
      rw [ha] at this; cases this
    rw [hbt] at x1 x2
    have HNO := Lib.hid hno
    have HBT := Lib.hid hbt
    have HA := Lib.hid ha
    clear hB hbg hqe hqq hL hle hno ha hbt
    go_enter Try.func69, Try.ntmps69
    go_wp2_with fail
    go_region
    all_goals clear hw1 hw2 hmod
    all_goals go_wp2_with fail
    all_goals
      (go_loopw [6] (fun i wr => ∃ i' : Nat, i' ≤ m ∧ i = .int .i64 i' ∧ (∀ j, j < i' → bitN p j = bt) ∧ Below w.heap.size w wr) (fun i _ => m - (intOf i).toNat)
       case atStart => exact ⟨0, Nat.zero_le _, rfl, fun j hj => by omega, (Below.refl _ _).drew⟩
       case round =>
         obtain ⟨i, hi, rfl, hok, hBe⟩ := hrel
         have HBe := Lib.hid hBe
         have HOK := Lib.hid hok
         have hBr := HB.out.below hBe HB.out.lt
         clear hBe hok
         by_cases hil : i < m
         · have y1 := hBr.c i hil
           have y2 := hBr.c k hk
           rw [HBT.out] at y2
           have hi0 : (0 : Int) ≤ (i : Int) := by omega
           have hi1 : (i : Int) < (m : Int) := by omega
           obtain ⟨bu, hbu⟩ : ∃ bu, bitN p i = bu := ⟨_, rfl⟩
           rw [hbu] at y1
           have HBU := Lib.hid hbu
           clear hBr hbu
           by_cases hbb : bu = bt
           · subst hbb
             go_wp2_with fail
             go_region
             all_goals go_wp2
             all_goals go_roundw
             all_goals first
               | (simp [intOf]; omega)
               | (refine ⟨i + 1, by omega, by go_num, fun j hj => ?_, HBe.out.drew⟩
                  by_cases e : j = i
                  · rw [e]; exact HBU.out
                  · exact HOK.out j (by omega))
           · have hbu2 : bu = !bt := by
               revert hbb
               cases bt <;> cases bu <;> simp
             subst hbu2
             clear hbb
             cases bt
             all_goals go_wp2_with fail
             all_goals go_region
             all_goals go_wp2
             all_goals go_ret
             all_goals exact ⟨ret_int (by rw [HLE.out, if_neg (fun h => by rw [HA.out] at h; simp at h)]; rfl), HBe.out.drew⟩
         · obtain rfl : i = m := by omega
           exact absurd HOK.out HNO.out)

set_option maxRecDepth 100000 in
set_option maxHeartbeats 4000000 in
theorem Length_yes (b c m p k : Nat) (w : World) (hm1 : 1 ≤ m) (hm : m ≤ 60) (_hp : p < 2 ^ m) (hk : k < m) (hB : BoolsAt w b m (bitN p)) (hbg : begins m p k = true) :
    Calls Try.prog 69 #[.slice (some ⟨b, 0, none⟩) m c, .int .i64 (k : Int)] w fun e w' => e = .returned (.int .i64 (lenAt m p k : Int)) ∧ Below w.heap.size w w' := by
  have hq : (k + m - 1) % m < m := Nat.mod_lt _ (by omega)
  have x1 := hB.c _ hq
  have x2 := hB.c k hk
  obtain ⟨⟨hl1, hl2⟩, hl3, hl4⟩ := lenF_spec (by omega) hbg hk
  have hle : lenAt m p k = lenF m p k := by unfold lenAt; rw [if_pos hbg]
  obtain ⟨L, hL⟩ : ∃ L, lenF m p k = L := ⟨_, rfl⟩
  rw [hle, hL]
  rw [hL] at hl1 hl2 hl3 hl4
  obtain ⟨bt, hbt⟩ : ∃ bt, bitN p k = bt := ⟨_, rfl⟩
  have hqe : bitN p ((k + m - 1) % m) = !bt := by
    have : (bitN p ((k + m - 1) % m) != bitN p k) = true := hbg
    rw [hbt] at this
    revert this
    cases bitN p ((k + m - 1) % m) <;> cases bt <;> simp
  have hl4' : bitN p ((k + L) % m) = !bt := by
    rw [hbt] at hl4
    revert hl4
    cases bitN p ((k + L) % m) <;> cases bt <;> simp
  rw [hqe] at x1
  rw [hbt] at x2
  have hmod : ((k : Int) + (m : Int) - 1).tmod (m : Int) = (((k + m - 1) % m : Nat) : Int) := by
    rw [show (k : Int) + (m : Int) - 1 = ((k + m - 1 : Nat) : Int) by omega]; exact tmod_cast' _ _
  obtain ⟨q, hqq⟩ : ∃ q, (k + m - 1) % m = q := ⟨_, rfl⟩
  rw [hqq] at x1 hmod hq
  have hw1 : IntKind.i64.wrap ((k : Int) + (m : Int)) = (k : Int) + (m : Int) := IntWalk.i64_in _ (by omega)
  have hw2 : IntKind.i64.wrap ((k : Int) + (m : Int) - 1) = (k : Int) + (m : Int) - 1 := IntWalk.i64_in _ (by omega)
  have hq0 : (0 : Int) ≤ (q : Int) := by omega
  have hq1 : (q : Int) < (m : Int) := by omega
  have hk0 : (0 : Int) ≤ (k : Int) := by omega
  have hk1 : (k : Int) < (m : Int) := by omega
  have hm0 : ¬ (m : Int) = 0 := by omega
  have hm0' : ¬ m = 0 := by omega
  have HB := Lib.hid hB
  have H3 := Lib.hid hl3
  have H4 := Lib.hid hl4'
  have HBT := Lib.hid hbt
  clear hB hbg hqe hqq hL hle hl3 hl4 hl4' hbt
  cases bt
  all_goals go_enter Try.func69, Try.ntmps69
  all_goals go_wp2_with fail
  all_goals go_region
  all_goals clear hw1 hw2 hmod
  all_goals go_wp2_with fail
  all_goals
    (go_loopw [7] (fun i wr => ∃ l : Nat, 1 ≤ l ∧ l ≤ L ∧ i = .int .i64 l ∧ Below w.heap.size w wr) (fun i _ => L - (intOf i).toNat)
     case atStart => exact ⟨1, Nat.le_refl _, hl1, rfl, (Below.refl _ _).drew⟩
     case round =>
       obtain ⟨l, h1, h2, rfl, hBe⟩ := hrel
       have HBe := Lib.hid hBe
       have hBr := HB.out.below hBe HB.out.lt
       clear hBe
       have hz : (k + l) % m < m := Nat.mod_lt _ (by omega)
       have y1 := hBr.c _ hz
       have y2 := hBr.c k hk
       rw [HBT.out] at y2
       have hmod : ((k : Int) + (l : Int)).tmod (m : Int) = (((k + l) % m : Nat) : Int) := by
         rw [show (k : Int) + (l : Int) = ((k + l : Nat) : Int) by omega]; exact tmod_cast' _ _
       have hw1 : IntKind.i64.wrap ((k : Int) + (l : Int)) = (k : Int) + (l : Int) := IntWalk.i64_in _ (by omega)
       by_cases hlt : l < L
       · have e := H3.out l h1 hlt
         rw [HBT.out] at e
         rw [e] at y1
         obtain ⟨z, hze⟩ : ∃ z, (k + l) % m = z := ⟨_, rfl⟩
         rw [hze] at y1 hmod hz
         have hz0 : (0 : Int) ≤ (z : Int) := by omega
         have hz1 : (z : Int) < (m : Int) := by omega
         clear e hze hBr
         go_wp2_with fail
         go_region
         all_goals clear hw1 hmod
         all_goals go_wp2
         all_goals go_roundw
         all_goals first | (simp [intOf]; omega) | exact ⟨l + 1, by omega, by omega, by go_num, HBe.out.drew⟩
       · obtain rfl : l = L := by omega
         rw [H4.out] at y1
         obtain ⟨z, hze⟩ : ∃ z, (k + l) % m = z := ⟨_, rfl⟩
         rw [hze] at y1 hmod hz
         have hz0 : (0 : Int) ≤ (z : Int) := by omega
         have hz1 : (z : Int) < (m : Int) := by omega
         clear hze hBr
         go_wp2_with fail
         go_region
         all_goals clear hw1 hmod
         all_goals go_wp2
         all_goals go_ret
         all_goals exact ⟨rfl, HBe.out.drew⟩)
theorem Length_any (b c m p k : Nat) (f : Nat → Bool) (w : World) (hm1 : 1 ≤ m) (hm : m ≤ 60) (hp : p < 2 ^ m) (hk : k < m) (hB : BoolsAt w b m f) (hf : ∀ j, j < m → f j = bitN p j) :
    Calls Try.prog 69 #[.slice (some ⟨b, 0, none⟩) m c, .int .i64 (k : Int)] w fun e w' => e = .returned (.int .i64 (lenAt m p k : Int)) ∧ Below w.heap.size w w' := by
  have hB' : BoolsAt w b m (bitN p) := ⟨fun j hj => by rw [← hf j hj]; exact hB.c j hj, hB.lt⟩
  cases hbg : begins m p k with
  | true => exact Length_yes b c m p k w hm1 hm hp hk hB' hbg
  | false => exact Length_no b c m p k w hm1 hm hp hk hB' hbg
end Go.Proofs.Ytjobbleabepaiaa
