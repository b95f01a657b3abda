/- Chapter 3: the length of a float that begins at a warp, as the reference counts it, for up to 96 warps. -/
import Derived.Test.YtdmgffoikebgkaaTb01
import Derived.Test.YtdmgffoikebgkaaTb02
import Derived.Test.YtdmgffoikebgkaaTb03
import Derived.Test.YtdmgffoikebgkaaTb04
import Derived.Test.YtdmgffoikebgkaaTb05
import Derived.Test.YtdmgffoikebgkaaTb06
import Derived.Test.YtdmgffoikebgkaaTb07
import Derived.Test.YtdmgffoikebgkaaTb08
import Derived.Test.YtdmgffoikebgkaaTb09
import Derived.Test.YtdmgffoikebgkaaTb10
import Derived.Test.YtdmgffoikebgkaaTb11
import Derived.Test.YtdmgffoikebgkaaTb12
import Derived.Test.YtdmgffoikebgkaaTb13
import Derived.Test.YtdmgffoikebgkaaTb14
import Derived.Test.YtdmgffoikebgkaaTb15
import Derived.Test.YtdmgffoikebgkaaTb16
import Derived.Test.YtdmgffoikebgkaaTb17
import Derived.Test.YtdmgffoikebgkaaTb18
import Derived.Test.YtdmgffoikebgkaaTb19
import Derived.Test.YtdmgffoikebgkaaTb20
import Derived.Test.YtdmgffoikebgkaaTq01
import Derived.Deep.RegionLaw
import Derived.Deep.DeepCutAuto
namespace Go.Proofs.Ytdmgffoikebgkaa
open Go.RowKit

set_option maxRecDepth 100000 in
set_option maxHeartbeats 4000000 in
theorem Lng_no (b c m p k : Nat) (w : World) (hm1 : 1 ≤ m) (hm : m ≤ 96) (hp : p < 2 ^ m) (hk : k < m) (hB : BoolsAt w b m (bitN p)) (hbg : begins m p k = false) :
    Calls Try.prog 125 #[.slice (some ⟨b, 0, none⟩) m c, .int .i64 (k : Int)] w fun e w' => e = .returned (.int .i64 (lenAt m p k : Int)) ∧ Below w.heap.size w w' := by
  have hq : (k + m - 1) % m < m := Nat.mod_lt _ (by omega)
  have x1 := hB.c _ hq
  have x2 := hB.c k hk
  have hqe : bitN p ((k + m - 1) % m) = bitN p k := by simpa [begins] using hbg
  rw [hqe] at x1
  have hmod : ((k : Int) + (m : Int) - 1).tmod (m : Int) = (((k + m - 1) % m : Nat) : Int) := by
    rw [show (k : Int) + (m : Int) - 1 = ((k + m - 1 : Nat) : Int) by omega]; exact tmod_cast' _ _
  obtain ⟨q, hqq⟩ : ∃ q, (k + m - 1) % m = q := ⟨_, rfl⟩
  rw [hqq] at x1 hmod hq
  have hle : lenAt m p k = if alikeB m p = true ∧ k = 0 then 1000 else 0 := by unfold lenAt; rw [if_neg (by simp [hbg])]
  obtain ⟨L, hL⟩ : ∃ L, lenAt m p k = L := ⟨_, rfl⟩
  rw [hL]
  rw [hL] at hle
  have hw1 : IntKind.i64.wrap ((k : Int) + (m : Int)) = (k : Int) + (m : Int) := IntWalk.i64_in _ (by omega)
  have hw2 : IntKind.i64.wrap ((k : Int) + (m : Int) - 1) = (k : Int) + (m : Int) - 1 := IntWalk.i64_in _ (by omega)
  have hq0 : (0 : Int) ≤ (q : Int) := by omega
  have hq1 : (q : Int) < (m : Int) := by omega
  have hk0 : (0 : Int) ≤ (k : Int) := by omega
  have hk1 : (k : Int) < (m : Int) := by omega
  have hm0 : ¬ (m : Int) = 0 := by omega
  have hm0' : ¬ m = 0 := by omega
  have HB := Lib.hid hB
  have HLE := Lib.hid hle
  cases ha : alikeB m p with
  | true =>
    have hal := alike_to hm1 hp hk ha
    obtain ⟨bt, hbt⟩ : ∃ bt, bitN p k = bt := ⟨_, rfl⟩
    rw [hbt] at x1 x2 hal
    have HAL := Lib.hid hal
    have HA := Lib.hid ha
    clear hB hbg hqe hqq hL hle hal ha hbt
    by_cases hkz : k = 0
    · have hkz' : ((k : Int) == 0) = true := by simp [hkz]
      have HZ := Lib.hid hkz
      clear hkz
      go_enter Try.func125, Try.ntmps125
      go_wp2_with fail
      go_region
      all_goals clear hw1 hw2 hmod
      all_goals go_wp2_with fail
      all_goals
        (go_loopw [6] (fun i wr => ∃ i' : Nat, i' ≤ m ∧ i = .int .i64 i' ∧ Below w.heap.size w wr) (fun i _ => m - (intOf i).toNat)
         case atStart => exact ⟨0, Nat.zero_le _, rfl, (Below.refl _ _).drew⟩
         case round =>
           obtain ⟨i, hi, rfl, hBe⟩ := hrel
           have HBe := Lib.hid hBe
           have hBr := HB.out.below hBe HB.out.lt
           clear hBe
           by_cases hil : i < m
           · have y1 := hBr.c i hil
             have y2 := hBr.c k hk
             rw [HAL.out i hil] at y1
             rw [HAL.out k hk] at y2
             have hi0 : (0 : Int) ≤ (i : Int) := by omega
             have hi1 : (i : Int) < (m : Int) := by omega
             clear hBr
             go_wp2_with fail
             go_region
             all_goals go_wp2
             all_goals go_roundw
             all_goals first | (simp [intOf]; omega) | exact ⟨i + 1, by omega, by go_num, HBe.out.drew⟩
           · clear hBr
             go_wp2
             go_ret
             exact ⟨ret_int (by rw [HLE.out, if_pos ⟨HA.out, HZ.out⟩]; rfl), HBe.out⟩)
    · have hkz' : ((k : Int) == 0) = false := by rw [beq_eq_false_iff_ne]; omega
      have HZ := Lib.hid hkz
      clear hkz
      go_enter Try.func125, Try.ntmps125
      go_wp2_with fail
      go_region
      all_goals clear hw1 hw2 hmod
      all_goals go_wp2_with fail
      all_goals
        (go_loopw [6] (fun i wr => ∃ i' : Nat, i' ≤ m ∧ i = .int .i64 i' ∧ Below w.heap.size w wr) (fun i _ => m - (intOf i).toNat)
         case atStart => exact ⟨0, Nat.zero_le _, rfl, (Below.refl _ _).drew⟩
         case round =>
           obtain ⟨i, hi, rfl, hBe⟩ := hrel
           have HBe := Lib.hid hBe
           have hBr := HB.out.below hBe HB.out.lt
           clear hBe
           by_cases hil : i < m
           · have y1 := hBr.c i hil
             have y2 := hBr.c k hk
             rw [HAL.out i hil] at y1
             rw [HAL.out k hk] at y2
             have hi0 : (0 : Int) ≤ (i : Int) := by omega
             have hi1 : (i : Int) < (m : Int) := by omega
             clear hBr
             go_wp2_with fail
             go_region
             all_goals go_wp2
             all_goals go_roundw
             all_goals first | (simp [intOf]; omega) | exact ⟨i + 1, by omega, by go_num, HBe.out.drew⟩
           · clear hBr
             go_wp2
             go_ret
             exact ⟨ret_int (by rw [HLE.out, if_neg (fun h => HZ.out h.2)]; rfl), HBe.out⟩)
  | false =>
    obtain ⟨bt, hbt⟩ : ∃ bt, bitN p k = bt := ⟨_, rfl⟩
    have hno : ¬ ∀ j, j < m → bitN p j = bt := fun h => by
      have := alike_from (k := k) hm1 hp (fun j hj => by rw [hbt]; exact h j hj)
      rw [ha] at this; cases this
    rw [hbt] at x1 x2
    have HNO := Lib.hid hno
    have HBT := Lib.hid hbt
    have HA := Lib.hid ha
    clear hB hbg hqe hqq hL hle hno ha hbt
    go_enter Try.func125, Try.ntmps125
    go_wp2_with fail
    go_region
    all_goals clear hw1 hw2 hmod
    all_goals go_wp2_with fail
    all_goals
      (go_loopw [6] (fun i wr => ∃ i' : Nat, i' ≤ m ∧ i = .int .i64 i' ∧ (∀ j, j < i' → bitN p j = bt) ∧ Below w.heap.size w wr) (fun i _ => m - (intOf i).toNat)
       case atStart => exact ⟨0, Nat.zero_le _, rfl, fun j hj => by omega, (Below.refl _ _).drew⟩
       case round =>
         obtain ⟨i, hi, rfl, hok, hBe⟩ := hrel
         have HBe := Lib.hid hBe
         have HOK := Lib.hid hok
         have hBr := HB.out.below hBe HB.out.lt
         clear hBe hok
         by_cases hil : i < m
         · have y1 := hBr.c i hil
           have y2 := hBr.c k hk
           rw [HBT.out] at y2
           have hi0 : (0 : Int) ≤ (i : Int) := by omega
           have hi1 : (i : Int) < (m : Int) := by omega
           obtain ⟨bu, hbu⟩ : ∃ bu, bitN p i = bu := ⟨_, rfl⟩
           rw [hbu] at y1
           have HBU := Lib.hid hbu
           clear hBr hbu
           by_cases hbb : bu = bt
           · subst hbb
             go_wp2_with fail
             go_region
             all_goals go_wp2
             all_goals go_roundw
             all_goals first
               | (simp [intOf]; omega)
               | (refine ⟨i + 1, by omega, by go_num, fun j hj => ?_, HBe.out.drew⟩
                  by_cases e : j = i
                  · rw [e]; exact HBU.out
                  · exact HOK.out j (by omega))
           · have hbu2 : bu = !bt := by
               revert hbb
               cases bt <;> cases bu <;> simp
             subst hbu2
             clear hbb
             cases bt
             all_goals go_wp2_with fail
             all_goals go_region
             all_goals go_wp2
             all_goals go_ret
             all_goals exact ⟨ret_int (by rw [HLE.out, if_neg (fun h => by rw [HA.out] at h; simp at h)]; rfl), HBe.out.drew⟩
         · obtain rfl : i = m := by omega
           exact absurd HOK.out HNO.out)

set_option maxRecDepth 100000 in
set_option maxHeartbeats 4000000 in
theorem Lng_yes (b c m p k : Nat) (w : World) (hm1 : 1 ≤ m) (hm : m ≤ 96) (_hp : p < 2 ^ m) (hk : k < m) (hB : BoolsAt w b m (bitN p)) (hbg : begins m p k = true) :
    Calls Try.prog 125 #[.slice (some ⟨b, 0, none⟩) m c, .int .i64 (k : Int)] w fun e w' => e = .returned (.int .i64 (lenAt m p k : Int)) ∧ Below w.heap.size w w' := by
  have hq : (k + m - 1) % m < m := Nat.mod_lt _ (by omega)
  have x1 := hB.c _ hq
  have x2 := hB.c k hk
  obtain ⟨⟨hl1, hl2⟩, hl3, hl4⟩ := lenF_spec (by omega) hbg hk
  have hle : lenAt m p k = lenF m p k := by unfold lenAt; rw [if_pos hbg]
  obtain ⟨L, hL⟩ : ∃ L, lenF m p k = L := ⟨_, rfl⟩
  rw [hle, hL]
  rw [hL] at hl1 hl2 hl3 hl4
  obtain ⟨bt, hbt⟩ : ∃ bt, bitN p k = bt := ⟨_, rfl⟩
  have hqe : bitN p ((k + m - 1) % m) = !bt := by
    have : (bitN p ((k + m - 1) % m) != bitN p k) = true := hbg
    rw [hbt] at this
    revert this
    cases bitN p ((k + m - 1) % m) <;> cases bt <;> simp
  have hl4' : bitN p ((k + L) % m) = !bt := by
    rw [hbt] at hl4
    revert hl4
    cases bitN p ((k + L) % m) <;> cases bt <;> simp
  rw [hqe] at x1
  rw [hbt] at x2
  have hmod : ((k : Int) + (m : Int) - 1).tmod (m : Int) = (((k + m - 1) % m : Nat) : Int) := by
    rw [show (k : Int) + (m : Int) - 1 = ((k + m - 1 : Nat) : Int) by omega]; exact tmod_cast' _ _
  obtain ⟨q, hqq⟩ : ∃ q, (k + m - 1) % m = q := ⟨_, rfl⟩
  rw [hqq] at x1 hmod hq
  have hw1 : IntKind.i64.wrap ((k : Int) + (m : Int)) = (k : Int) + (m : Int) := IntWalk.i64_in _ (by omega)
  have hw2 : IntKind.i64.wrap ((k : Int) + (m : Int) - 1) = (k : Int) + (m : Int) - 1 := IntWalk.i64_in _ (by omega)
  have hq0 : (0 : Int) ≤ (q : Int) := by omega
  have hq1 : (q : Int) < (m : Int) := by omega
  have hk0 : (0 : Int) ≤ (k : Int) := by omega
  have hk1 : (k : Int) < (m : Int) := by omega
  have hm0 : ¬ (m : Int) = 0 := by omega
  have hm0' : ¬ m = 0 := by omega
  have HB := Lib.hid hB
  have H3 := Lib.hid hl3
  have H4 := Lib.hid hl4'
  have HBT := Lib.hid hbt
  clear hB hbg hqe hqq hL hle hl3 hl4 hl4' hbt
  cases bt
  all_goals go_enter Try.func125, Try.ntmps125
  all_goals go_wp2_with fail
  all_goals go_region
  all_goals clear hw1 hw2 hmod
  all_goals go_wp2_with fail
  all_goals
    (go_loopw [7] (fun i wr => ∃ l : Nat, 1 ≤ l ∧ l ≤ L ∧ i = .int .i64 l ∧ Below w.heap.size w wr) (fun i _ => L - (intOf i).toNat)
     case atStart => exact ⟨1, Nat.le_refl _, hl1, rfl, (Below.refl _ _).drew⟩
     case round =>
       obtain ⟨l, h1, h2, rfl, hBe⟩ := hrel
       have HBe := Lib.hid hBe
       have hBr := HB.out.below hBe HB.out.lt
       clear hBe
       have hz : (k + l) % m < m := Nat.mod_lt _ (by omega)
       have y1 := hBr.c _ hz
       have y2 := hBr.c k hk
       rw [HBT.out] at y2
       have hmod : ((k : Int) + (l : Int)).tmod (m : Int) = (((k + l) % m : Nat) : Int) := by
         rw [show (k : Int) + (l : Int) = ((k + l : Nat) : Int) by omega]; exact tmod_cast' _ _
       have hw1 : IntKind.i64.wrap ((k : Int) + (l : Int)) = (k : Int) + (l : Int) := IntWalk.i64_in _ (by omega)
       by_cases hlt : l < L
       · have e := H3.out l h1 hlt
         rw [HBT.out] at e
         rw [e] at y1
         obtain ⟨z, hze⟩ : ∃ z, (k + l) % m = z := ⟨_, rfl⟩
         rw [hze] at y1 hmod hz
         have hz0 : (0 : Int) ≤ (z : Int) := by omega
         have hz1 : (z : Int) < (m : Int) := by omega
         clear e hze hBr
         go_wp2_with fail
         go_region
         all_goals clear hw1 hmod
         all_goals go_wp2
         all_goals go_roundw
         all_goals first | (simp [intOf]; omega) | exact ⟨l + 1, by omega, by omega, by go_num, HBe.out.drew⟩
       · obtain rfl : l = L := by omega
         rw [H4.out] at y1
         obtain ⟨z, hze⟩ : ∃ z, (k + l) % m = z := ⟨_, rfl⟩
         rw [hze] at y1 hmod hz
         have hz0 : (0 : Int) ≤ (z : Int) := by omega
         have hz1 : (z : Int) < (m : Int) := by omega
         clear hze hBr
         go_wp2_with fail
         go_region
         all_goals clear hw1 hmod
         all_goals go_wp2
         all_goals go_ret
         all_goals exact ⟨rfl, HBe.out.drew⟩)
theorem Lng_any (b c m p k : Nat) (f : Nat → Bool) (w : World) (hm1 : 1 ≤ m) (hm : m ≤ 96) (hp : p < 2 ^ m) (hk : k < m) (hB : BoolsAt w b m f) (hf : ∀ j, j < m → f j = bitN p j) :
    Calls Try.prog 125 #[.slice (some ⟨b, 0, none⟩) m c, .int .i64 (k : Int)] w fun e w' => e = .returned (.int .i64 (lenAt m p k : Int)) ∧ Below w.heap.size w w' := by
  have hB' : BoolsAt w b m (bitN p) := ⟨fun j hj => by rw [← hf j hj]; exact hB.c j hj, hB.lt⟩
  cases hbg : begins m p k with
  | true => exact Lng_yes b c m p k w hm1 hm hp hk hB' hbg
  | false => exact Lng_no b c m p k w hm1 hm hp hk hB' hbg
end Go.Proofs.Ytdmgffoikebgkaa
/- Chapter 3: the reference's floats of a cloth. -/
namespace Go.Proofs.Ytdmgffoikebgkaa
open Go.RowKit Go.Shelf
attribute [local go_sem] Oper.semAt_some

/-- the floats of one ring, up to a place -/
def ringTo (mk : Nat → Nat → Bool → Fl) (bd : Int) (m p : Nat) : Nat → List Fl
  | 0 => []
  | k + 1 => ringTo mk bd m p k ++ (if lenAt m p k = 0 ∨ (lenAt m p k : Int) ≤ bd then [] else [mk k (lenAt m p k) (bitN p k)])
theorem ringTo_len (mk : Nat → Nat → Bool → Fl) (bd : Int) (m p : Nat) : ∀ k, (ringTo mk bd m p k).length ≤ k
  | 0 => by simp [ringTo]
  | k + 1 => by
    have := ringTo_len mk bd m p k
    simp only [ringTo, List.length_append]
    split <;> simp <;> omega
theorem ringTo_eq (mk : Nat → Nat → Bool → Fl) (bd : Int) (m p : Nat) (hm : 1 ≤ m) (hp : p < 2 ^ m) : ringTo mk bd m p m = ringFl (fun r => mk r.first r.length r.lifted) bd (runsOf m p) := by
  cases ha : alikeB m p with
  | true =>
    have hb : ∀ k, k < m → begins m p k = false := fun k hk => by
      cases hbk : begins m p k with
      | false => rfl
      | true => have := begins_not_alike hm hp hk hbk; rw [ha] at this; cases this
    have h : ∀ k, 1 ≤ k → k ≤ m → ringTo mk bd m p k = if (1000 : Int) ≤ bd then [] else [mk 0 1000 (bitN p 0)] := by
      intro k hk hkm
      induction k with
      | zero => omega
      | succ k ih =>
        by_cases hk0 : k = 0
        · subst hk0
          have e : lenAt m p 0 = 1000 := by unfold lenAt; rw [if_neg (by simp [hb 0 (by omega)]), if_pos ⟨ha, rfl⟩]
          simp [ringTo, e]
        · have e : lenAt m p k = 0 := by unfold lenAt; rw [if_neg (by simp [hb k (by omega)]), if_neg (fun h => hk0 h.2)]
          rw [ringTo, if_pos (.inl e), List.append_nil]
          exact ih (by omega) (by omega)
    rw [h m hm (Nat.le_refl _)]
    unfold runsOf ringFl
    rw [if_pos ha]
    by_cases hbd : (1000 : Int) ≤ bd
    · rw [if_pos hbd]
      have hd : decide (bd < ((1000 : Nat) : Int)) = false := by rw [decide_eq_false_iff_not]; omega
      simp only [List.filter_cons, List.filter_nil, hd]; rfl
    · rw [if_neg hbd]
      have hd : decide (bd < ((1000 : Nat) : Int)) = true := by rw [decide_eq_true_iff]; omega
      simp only [List.filter_cons, List.filter_nil, hd]; rfl
  | false =>
    have h : ∀ k, k ≤ m → ringTo mk bd m p k = ringFl (fun r => mk r.first r.length r.lifted) bd (runsTo m p k) := by
      intro k
      induction k with
      | zero => intro _; simp [ringTo, runsTo, ringFl]
      | succ k ih =>
        intro hkm
        rw [ringTo, ih (by omega)]
        cases hbk : begins m p k with
        | false =>
          have e : lenAt m p k = 0 := by unfold lenAt; rw [if_neg (by simp [hbk]), if_neg (fun h => by rw [ha] at h; simp at h)]
          rw [if_pos (.inl e), List.append_nil, runsTo_no hbk]
        | true =>
          have e : lenAt m p k = lenF m p k := by unfold lenAt; rw [if_pos hbk]
          obtain ⟨⟨h1, _⟩, _⟩ := lenF_spec (by omega) hbk (show k < m by omega)
          rw [runsTo_yes hbk, ringFl_step, e]
          by_cases hlt : bd < ((lenF m p k : Nat) : Int)
          · rw [if_neg (by omega), if_pos hlt]
          · rw [if_pos (.inr (by omega)), if_neg hlt]
    rw [h m (Nat.le_refl _)]
    unfold runsOf
    rw [if_neg (by simp [ha])]
/-- the floats of a pick of a cloth -/
def flP (T : Nat) (ps : List Nat) (m : Nat) (i : Nat) : List Fl := ringFl (fun r => ⟨i, r.first, r.length, r.lifted⟩) (m : Int) (runsOf T (nthN ps i))
theorem pks_lt (hs xs : List Nat) (i : Nat) (h : i < xs.length) : nthN (pks hs xs) i < 2 ^ hs.length := by
  rw [pks_nth _ _ h]; exact rowTo_lt _ _
theorem elemBool : ElemT 168 4 1 1 := by
  obtain ⟨i, hi, hz0, hz1, hz2⟩ := info_parts tInfo4
  exact ⟨i, _, by kernel_rfl, hi, hz0, hz1, hz2, rfl, by decide⟩
set_option maxRecDepth 100000 in
set_option maxHeartbeats 1000000 in
theorem refPts3_ok (s : ByteArray) (n p : Nat) (w : World) (hn : n ≤ 96) (h : StrB s n p) :
    Calls Try.prog 124 #[.string s] w fun e w' => ∃ b c, e = .returned (.slice (some ⟨b, 0, none⟩) n c) ∧ w.heap.size ≤ b ∧ BoolsAt w' b n (bitN p) ∧ Below w.heap.size w w' := by
  have Hsb := Lib.hid h
  clear h
  go_enter Try.func124, Try.ntmps124
  go_wp2_with fail
  go_loopw [3, 4] (fun v i wr => ∃ k g c : Nat, k ≤ n ∧ i = .int .i64 k ∧ v = .slice (some ⟨g, 0, none⟩) k c ∧ wr.ownsRow w.heap.size 4 1 (.slice (some ⟨g, 0, none⟩) k c) k (boolCells (bitN p) k) ∧ Below w.heap.size w wr) (fun _ i _ => n - (intOf i).toNat)
  case atStart => exact ⟨0, w.heap.size, 0, Nat.zero_le _, rfl, rfl, World.ownsRow_made w #[] 0 (Nat.le_refl _) (Nat.zero_le _) rfl, (Below.refl _ _).alloc (Nat.le_refl _) _⟩
  case round =>
    obtain ⟨k, g, c, hk, rfl, rfl, hrow, hB⟩ := hrel
    have HRow := Lib.hid hrow
    have HB := Lib.hid hB
    clear hrow hB
    have hsz := Hsb.out.size
    by_cases hlt : k < n
    · have hi := fun W => Hsb.out.idx hlt W
      cases hbt : bitN p k with
      | true =>
        have hv : byteP p k = 120 := by unfold byteP; rw [hbt]; rfl
        rw [hv] at hi
        have Hbt := Lib.hid hbt
        clear hv hbt
        go_wp2_with (at_builtin; refine Shut.out ?_)
        unfold Shut
        refine app_one elemBool rfl _ _ rfl w.heap.size (.slice (some ⟨g, 0, none⟩) k c) k (boolCells (bitN p) k) #[.bool true] rfl HRow.out rfl rfl (by simp [Value.oneCell']) (by omega) (by decide) HB.out.size ?_
        intro g5 cap w5 hg
        have hrow5 : w5.ownsRow w.heap.size 4 1 (.slice (some ⟨g5, 0, none⟩) (k + 1) cap) (k + 1) (boolCells (bitN p) (k + 1)) := by
          rw [boolCells_succ, Hbt.out]; exact hg.row
        have HR5 := Lib.hid hrow5
        have HB5 := Lib.hid (hg.below HRow.out (Nat.le_refl _) HB.out.size HB.out)
        clear hrow5 hg
        go_wp2
        go_roundw
        case rel => exact ⟨k + 1, g5, cap, by omega, by go_num, rfl, HR5.out, HB5.out⟩
        case measure => simp [intOf]; omega
      | false =>
        have hv : byteP p k = 46 := by unfold byteP; rw [hbt]; rfl
        rw [hv] at hi
        have Hbt := Lib.hid hbt
        clear hv hbt
        go_wp2_with (at_builtin; refine Shut.out ?_)
        unfold Shut
        refine app_one elemBool rfl _ _ rfl w.heap.size (.slice (some ⟨g, 0, none⟩) k c) k (boolCells (bitN p) k) #[.bool false] rfl HRow.out rfl rfl (by simp [Value.oneCell']) (by omega) (by decide) HB.out.size ?_
        intro g5 cap w5 hg
        have hrow5 : w5.ownsRow w.heap.size 4 1 (.slice (some ⟨g5, 0, none⟩) (k + 1) cap) (k + 1) (boolCells (bitN p) (k + 1)) := by
          rw [boolCells_succ, Hbt.out]; exact hg.row
        have HR5 := Lib.hid hrow5
        have HB5 := Lib.hid (hg.below HRow.out (Nat.le_refl _) HB.out.size HB.out)
        clear hrow5 hg
        go_wp2
        go_roundw
        case rel => exact ⟨k + 1, g5, cap, by omega, by go_num, rfl, HR5.out, HB5.out⟩
        case measure => simp [intOf]; omega
    · obtain rfl : k = n := by omega
      go_wp2
      go_ret
      exact ⟨g, c, rfl, (HRow.out.lt g rfl).1, BoolsAt.of_row HRow.out, HB.out⟩
/-- what the reference's Floats keeps between two rounds -/
structure RfS (w : World) (b : Nat) (ss : List ByteArray) (v : Value) (fs : List Fl) (W : World) : Prop where
  s : StrsAt W b 0 ss
  hl : b < w.heap.size
  row : W.ownsRow w.heap.size 149 4 v fs.length (flCells fs)
  bel : Below w.heap.size w W
theorem RfS.next {w W W' : World} {b : Nat} {ss : List ByteArray} {v : Value} {fs : List Fl} (h : RfS w b ss v fs W) (hb : Below W.heap.size W W') : RfS w b ss v fs W' :=
  ⟨h.s.below hb (Nat.lt_of_lt_of_le h.hl h.bel.size), h.hl, ownsRow_next h.row hb, h.bel.trans (hb.mono h.bel.size)⟩
theorem RfS.grew {w W W' : World} {b g5 cap : Nat} {ss : List ByteArray} {v : Value} {fs : List Fl} {f : Fl} (h : RfS w b ss v fs W) (hg : Grew w.heap.size 149 4 W W' v g5 cap (fs.length + 1) (flCells fs ++ f.cells)) :
    RfS w b ss (.slice (some ⟨g5, 0, none⟩) (fs.length + 1) cap) (fs ++ [f]) W' := by
  refine ⟨fun i hi => (hg.grow.cell_far ⟨b, 0 + i, none⟩ (Nat.lt_of_lt_of_le h.hl h.bel.size) (own_far h.row h.hl)).trans (h.s i hi), h.hl, ?_, hg.below h.row (Nat.le_refl _) h.bel.size h.bel⟩
  rw [List.length_append, List.length_singleton, flCells_snoc]
  exact hg.row
theorem RfS.ne {w W : World} {b q : Nat} {ss : List ByteArray} {v : Value} {fs : List Fl} (h : RfS w b ss v fs W) (hq : W.heap.size ≤ q) : some q ≠ v.ownBlock := fun e => by
  have := (ownBlock_ge h.row e.symm).2; omega
set_option maxRecDepth 100000 in
set_option maxHeartbeats 2000000 in
theorem refFloats3_ok (L T m b c : Nat) (ss : List ByteArray) (ps : List Nat) (w : World) (hT0 : 1 ≤ T) (hT1 : T ≤ 96) (hl : L ≤ 60) (hm : m ≤ 1000) (hC : ClS ss T ps) (hL : ps.length = L) (hlt : ∀ i, i < L → nthN ps i < 2 ^ T) (h1 : StrsAt w b 0 ss) (h2 : b < w.heap.size) :
    Calls Try.prog 46 #[.slice (some ⟨b, 0, none⟩) L c, .int .i64 (m : Int)] w fun e w' =>
      ∃ v, e = .returned v ∧ w'.ownsRow w.heap.size 149 4 v (upTo (flP T ps m) L).length (flCells (upTo (flP T ps m) L)) ∧ Below w.heap.size w w' := by
  obtain ⟨w1, hw1⟩ : ∃ w1, w1 = w.alloc (.cells #[] 149) := ⟨_, rfl⟩
  have hb1 : Below w.heap.size w w1 := by rw [hw1]; exact (Below.refl _ _).alloc (Nat.le_refl _) _
  have hr1 : w1.ownsRow w.heap.size 149 4 (.slice (some ⟨w.heap.size, 0, none⟩) 0 0) 0 [] := by
    rw [hw1]; exact World.ownsRow_made w #[] 0 (Nat.le_refl _) (Nat.zero_le _) rfl
  have H := Lib.hid (show RfS w b ss (.slice (some ⟨w.heap.size, 0, none⟩) 0 0) [] w1 from ⟨h1.below hb1 h2, h2, hr1, hb1⟩)
  have HLt := Lib.hid hlt
  have HC := Lib.hid hC
  have HL := Lib.hid hL
  have HW := Lib.hid hw1
  have hlen : ∀ i, (upTo (flP T ps m) i).length ≤ 96 * i := fun i => by
    induction i with
    | zero => simp [upTo]
    | succ i ih =>
      rw [upTo_succ, List.length_append]
      have h3 : (flP T ps m i).length ≤ T := Nat.le_trans (ringFl_len _ _ _) (runsOf_le T _ hT0)
      omega
  have HLen := Lib.hid hlen
  clear h1 h2 hr1 hb1 hw1 hlen hlt hC hL
  go_enter Try.func46, Try.ntmps46
  go_wp2_with fail
  rw [← HW.out]
  go_loopw [5, 6] (fun v i wr => ∃ k : Nat, k ≤ L ∧ i = .int .i64 (k : Int) ∧ RfS w b ss v (upTo (flP T ps m) k) wr) (fun _ i _ => L - (intOf i).toNat)
  case atStart => exact ⟨0, Nat.zero_le _, rfl, by simpa [upTo] using H.out⟩
  case round =>
    obtain ⟨k, hk, rfl, hS⟩ := hrel
    have HS := Lib.hid hS
    clear hS
    by_cases hlt : k < L
    · have hc := HS.out.s k (by rw [HC.out.len, HL.out]; exact hlt)
      rw [Nat.zero_add] at hc
      have hsb := HC.out.str k (by rw [HL.out]; exact hlt)
      have hp2 := HLt.out k hlt
      have hul := HLen.out k
      have hstep : upTo (flP T ps m) (k + 1) = upTo (flP T ps m) k ++ ringTo (fun f l t => ⟨k, f, l, t⟩) (m : Int) T (nthN ps k) T := by
        rw [upTo_succ, ringTo_eq _ _ _ _ hT0 hp2]; rfl
      obtain ⟨s, hs⟩ : ∃ s, nthB ss k = s := ⟨_, rfl⟩
      obtain ⟨p, hp⟩ : ∃ p, nthN ps k = p := ⟨_, rfl⟩
      rw [hs] at hc hsb
      rw [hp] at hsb hp2 hstep
      obtain ⟨us, hus⟩ : ∃ us, upTo (flP T ps m) k = us := ⟨_, rfl⟩
      rw [hus] at HS hul hstep
      have Hp2 := Lib.hid hp2
      have Hstep := Lib.hid hstep
      have Hsb := Lib.hid hsb
      have Hul := Lib.hid hul
      have hk0 : (0 : Int) ≤ (k : Int) := by omega
      have hk1 : (k : Int) < (L : Int) := by omega
      clear hs hp hus hstep hp2 hsb hul
      go_wp2_with fail
      refine (refPts3_ok s T p _ hT1 Hsb.out).mono ?_
      rintro e w2 ⟨q, cq, rfl, hq, hB2, hb2⟩
      have HQ := Lib.hid (show RfS w b ss u5 us w2 ∧ BoolsAt w2 q T (bitN p) ∧ some q ≠ Value.ownBlock u5 from ⟨HS.out.next hb2, hB2, HS.out.ne hq⟩)
      clear hb2 hB2 hq hc HS
      go_wp2_with fail
      go_loopw [5, 8] (fun v i wz => ∃ j : Nat, j ≤ T ∧ i = .int .i64 (j : Int) ∧ RfS w b ss v (us ++ ringTo (fun f l t => ⟨k, f, l, t⟩) (m : Int) T p j) wz ∧ BoolsAt wz q T (bitN p) ∧ some q ≠ v.ownBlock) (fun _ i _ => T - (intOf i).toNat)
      case atStart => exact ⟨0, Nat.zero_le _, rfl, by simpa [ringTo] using HQ.out.1, HQ.out.2⟩
      case round =>
        obtain ⟨j, hj, rfl, hS, hBj, hne⟩ := hrel
        by_cases hjl : j < T
        · have HL1 := Lng_any q cq T p j _ wr hT0 hT1 Hp2.out hjl hBj (fun _ _ => rfl)
          have e3 := hBj.c j hjl
          have hst : us ++ ringTo (fun f l t => (⟨k, f, l, t⟩ : Fl)) (m : Int) T p (j + 1) = us ++ ringTo (fun f l t => ⟨k, f, l, t⟩) (m : Int) T p j ++ (if lenAt T p j = 0 ∨ (lenAt T p j : Int) ≤ (m : Int) then [] else [⟨k, j, lenAt T p j, bitN p j⟩]) := by
            rw [List.append_assoc]; rfl
          have hrl := ringTo_len (fun f l t => (⟨k, f, l, t⟩ : Fl)) (m : Int) T p j
          obtain ⟨R, hR⟩ : ∃ R, lenAt T p j = R := ⟨_, rfl⟩
          obtain ⟨bt, hbt⟩ : ∃ bt, bitN p j = bt := ⟨_, rfl⟩
          obtain ⟨rs, hrs⟩ : ∃ rs, us ++ ringTo (fun f l t => (⟨k, f, l, t⟩ : Fl)) (m : Int) T p j = rs := ⟨_, rfl⟩
          have hrsl : rs.length ≤ 10000 := by rw [← hrs, List.length_append]; have := Hul.out; omega
          rw [hR] at HL1
          rw [hR, hbt, hrs] at hst
          rw [hbt] at e3
          rw [hrs] at hS
          have HS := Lib.hid hS
          have HBj := Lib.hid hBj
          have Hne := Lib.hid hne
          have Hst := Lib.hid hst
          have hj0 : (0 : Int) ≤ (j : Int) := by omega
          have hj1 : (j : Int) < (T : Int) := by omega
          clear hS hBj hne hst hrl hR hbt hrs HQ
          go_wp2_with fail
          refine HL1.mono ?_
          rintro e w3 ⟨rfl, hb3⟩
          have e3' := (hb3.cell (p := ⟨q, j, none⟩) HBj.out.lt).trans e3
          have HS3 := Lib.hid (HS.out.next hb3)
          have HB3 := Lib.hid (HBj.out.below hb3 HBj.out.lt)
          clear hb3 e3 HS HBj HL1
          by_cases hskip : R = 0 ∨ (R : Int) ≤ (m : Int)
          · have hfin : us ++ ringTo (fun f l t => (⟨k, f, l, t⟩ : Fl)) (m : Int) T p (j + 1) = rs := by rw [Hst.out, if_pos hskip, List.append_nil]
            have HFin := Lib.hid hfin
            have Hsk := Lib.hid hskip
            clear hskip hfin e3'
            rcases Nat.eq_zero_or_pos R with hR0 | hR0
            · have hd : decide ((0 : Int) < (R : Int)) = false := decide_eq_false (by omega)
              have hd1 : decide (0 < R) = false := decide_eq_false (by omega)
              clear hR0
              go_wp2_with fail
              exact ⟨⟨j + 1, by omega, by go_num, by rw [HFin.out]; exact HS3.out, HB3.out, Hne.out⟩, by simp [intOf]; omega⟩
            · have hd : decide ((0 : Int) < (R : Int)) = true := decide_eq_true (by omega)
              have hd2 : decide ((m : Int) < (R : Int)) = false := decide_eq_false (by have := Hsk.out; omega)
              have hd1 : decide (0 < R) = true := decide_eq_true (by omega)
              have hd3 : decide (m < R) = false := decide_eq_false (by have := Hsk.out; omega)
              go_wp2_with fail
              exact ⟨⟨j + 1, by omega, by go_num, by rw [HFin.out]; exact HS3.out, HB3.out, Hne.out⟩, by simp [intOf]; omega⟩
          · have hfin : us ++ ringTo (fun f l t => (⟨k, f, l, t⟩ : Fl)) (m : Int) T p (j + 1) = rs ++ [⟨k, j, R, bt⟩] := by rw [Hst.out, if_neg hskip]
            have HFin := Lib.hid hfin
            have hd : decide ((0 : Int) < (R : Int)) = true := decide_eq_true (by omega)
            have hd2 : decide ((m : Int) < (R : Int)) = true := decide_eq_true (by omega)
            have hd1 : decide (0 < R) = true := decide_eq_true (by omega)
            have hd3 : decide (m < R) = true := decide_eq_true (by omega)
            clear hskip hfin
            go_wp2_with (at_builtin; refine Shut.out ?_)
            unfold Shut
            refine app_one elemFl rfl _ _ rfl w.heap.size u5 rs.length (flCells rs) #[.int .i64 (k : Int), .int .i64 (j : Int), .int .i64 (R : Int), .bool bt] rfl HS3.out.row rfl rfl (by simp [Value.oneCell']) (by omega) (by decide) HS3.out.bel.size ?_
            intro g5 cap w5 hg
            have hg' := Lib.hid (show Grew w.heap.size 149 4 _ w5 u5 g5 cap (rs.length + 1) (flCells rs ++ (⟨k, j, R, bt⟩ : Fl).cells) from hg)
            have HS5 := Lib.hid (HS3.out.grew hg'.out)
            have HB5 := Lib.hid (HB3.out.kept hg'.out.grow Hne.out)
            have Hne5 := Lib.hid (show some q ≠ (Value.slice (some ⟨g5, 0, none⟩) (rs.length + 1) cap).ownBlock from fun e => by
              have e' : q = g5 := by simpa [Value.ownBlock] using e
              rcases hg'.out.at' with h | h
              · exact Hne.out (by rw [h, e'])
              · have := HB3.out.lt; omega)
            clear hg hg' e3'
            go_wp2
            go_roundw
            case rel => exact ⟨j + 1, by omega, by go_num, by rw [HFin.out]; exact HS5.out, HB5.out, Hne5.out⟩
            case measure => simp [intOf]; omega
        · obtain rfl : j = T := by omega
          have HS := Lib.hid hS
          clear hS hBj hne HQ
          go_wp2
          go_roundw
          case rel => exact ⟨k + 1, by omega, by go_num, by rw [Hstep.out]; exact HS.out⟩
          case measure => simp [intOf]; omega
    · obtain rfl : k = L := by omega
      go_wp2
      go_ret
      exact ⟨_, rfl, HS.out.row, HS.out.bel⟩
end Go.Proofs.Ytdmgffoikebgkaa
/- Chapter 3: the longest float of a cloth, and the worst of a harness, as the reference counts them. -/
namespace Go.Proofs.Ytdmgffoikebgkaa
open Go.RowKit Go.Shelf
attribute [local go_sem] Oper.semAt_some

theorem lenAt_top {T p k : Nat} (h0 : 1 ≤ T) (h1 : T ≤ 96) (hk : k < T) : lenAt T p k ≤ 1000 := by
  unfold lenAt
  split
  · rename_i hb
    obtain ⟨⟨a, b⟩, _⟩ := lenF_spec (by omega) hb hk
    omega
  · split <;> omega
theorem lenR_top {T p w : Nat} (h1 : T ≤ 96) : lenR T p w ≤ 1000 := by
  rcases lenR_cases T p w with ⟨e, _⟩ | ⟨e, _, _⟩ <;> omega
theorem up_of_lenR {T p M : Nat} (hM : M < 1000) (h : ∀ k, k < T → lenR T p k ≤ M) : BoundUp p T M := fun k hk => by
  rcases lenR_cases T p k with ⟨e, _⟩ | ⟨_, _, hne⟩
  · have := h k hk; omega
  · exact ⟨_, h k hk, hne⟩
theorem lenR_of_up {T p M : Nat} (h0 : 1 ≤ T) (h : BoundUp p T M) {k : Nat} (hk : k < T) : lenR T p k ≤ M := by
  obtain ⟨j, hj, hne⟩ := h k hk
  rcases lenR_cases T p k with ⟨_, e⟩ | ⟨_, e, _⟩
  · have hm := e (j % T) (Nat.le_of_lt (Nat.mod_lt _ (by omega)))
    rw [Nat.add_mod_mod] at hm
    exact absurd hm hne
  · exact Classical.byContradiction fun hc => hne (e j (by omega))
theorem mx_len {T p : Nat} (h0 : 1 ≤ T) (h1 : T ≤ 96) (hp : p < 2 ^ T) : mxL (lenAt T p) T = mxL (lenR T p) T := by
  refine Nat.le_antisymm ?_ ?_
  · by_cases hM : mxL (lenR T p) T < 1000
    · exact mxL_le fun k hk => len_of_bound hp (up_of_lenR hM fun k hk => le_mxL hk) hk
    · exact Nat.le_trans (mxL_le fun k hk => lenAt_top h0 h1 hk) (Nat.le_of_not_lt hM)
  · by_cases hM : mxL (lenAt T p) T < 1000
    · exact mxL_le fun k hk => lenR_of_up h0 (bound_of_len hp hM fun k hk => le_mxL hk) hk
    · exact Nat.le_trans (mxL_le fun k hk => lenR_top h1) (Nat.le_of_not_lt hM)
/-- the greatest length of some floats -/
def maxL (fs : List Fl) : Nat := mxL (fun i => (nthF fs i).length) fs.length
theorem maxL_ge {fs : List Fl} {f : Fl} (h : f ∈ fs) : f.length ≤ maxL fs := by
  obtain ⟨i, hi, rfl⟩ := List.mem_iff_getElem.1 h
  have := le_mxL (f := fun i => (nthF fs i).length) hi
  rw [← nthF_get fs i hi]
  exact this
theorem maxL_le {fs : List Fl} {v : Nat} (h : ∀ f ∈ fs, f.length ≤ v) : maxL fs ≤ v := mxL_le fun i hi => h _ (nthF_mem fs i hi)
theorem ring_mem {mk : Nat → Nat → Bool → Fl} {bd : Int} {T p : Nat} {f : Fl} : ∀ {K : Nat}, f ∈ ringTo mk bd T p K ↔ ∃ k, k < K ∧ ¬ (lenAt T p k = 0 ∨ (lenAt T p k : Int) ≤ bd) ∧ f = mk k (lenAt T p k) (bitN p k)
  | 0 => by simp [ringTo]
  | K + 1 => by
    rw [ringTo, List.mem_append, ring_mem (K := K)]
    constructor
    · rintro (⟨k, h1, h2, h3⟩ | h)
      · exact ⟨k, by omega, h2, h3⟩
      · split at h
        · simp at h
        · rename_i hc
          exact ⟨K, by omega, hc, by simpa using h⟩
    · rintro ⟨k, h1, h2, h3⟩
      by_cases e : k = K
      · subst e
        right
        rw [if_neg h2]
        simp [h3]
      · exact .inl ⟨k, by omega, h2, h3⟩
theorem long_fl {T L : Nat} {ps : List Nat} (h0 : 1 ≤ T) (h1 : T ≤ 96) (hlt : ∀ i, i < L → nthN ps i < 2 ^ T) : maxL (upTo (flP T ps 0) L) = longL ps T L := by
  have key : ∀ i, i < L → flP T ps 0 i = ringTo (fun k l t => ⟨i, k, l, t⟩) ((0 : Nat) : Int) T (nthN ps i) T := fun i hi => (ringTo_eq _ _ _ _ h0 (hlt i hi)).symm
  refine Nat.le_antisymm ?_ ?_
  · refine maxL_le fun f hf => ?_
    obtain ⟨i, hi, hf⟩ := upTo_mem hf
    rw [key i hi] at hf
    obtain ⟨k, hk, _, rfl⟩ := ring_mem.1 hf
    refine Nat.le_trans ?_ (le_mxL (f := fun i => mxL (lenR T (nthN ps i)) T) hi)
    show lenAt T (nthN ps i) k ≤ mxL (lenR T (nthN ps i)) T
    rw [← mx_len h0 h1 (hlt i hi)]
    exact le_mxL hk
  · refine mxL_le fun i hi => ?_
    rw [← mx_len h0 h1 (hlt i hi)]
    refine mxL_le fun k hk => ?_
    by_cases hz : lenAt T (nthN ps i) k = 0
    · rw [hz]; exact Nat.zero_le _
    · refine maxL_ge (f := (⟨i, k, lenAt T (nthN ps i) k, bitN (nthN ps i) k⟩ : Fl)) ?_
      unfold upTo
      refine List.mem_flatMap.2 ⟨i, List.mem_range.2 hi, ?_⟩
      rw [key i hi]
      exact ring_mem.2 ⟨k, hk, by omega, rfl⟩
set_option maxRecDepth 100000 in
set_option maxHeartbeats 1000000 in
theorem refLongest3_ok (L T b c : Nat) (ss : List ByteArray) (ps : List Nat) (w : World) (hT0 : 1 ≤ T) (hT1 : T ≤ 96) (hl : L ≤ 60) (hC : ClS ss T ps) (hL : ps.length = L) (hlt : ∀ i, i < L → nthN ps i < 2 ^ T) (h1 : StrsAt w b 0 ss) (h2 : b < w.heap.size) :
    Calls Try.prog 61 #[.slice (some ⟨b, 0, none⟩) L c] w fun e w' => e = .returned (.int .i64 (longL ps T L : Int)) ∧ Below w.heap.size w w' := by
  have H1 := refFloats3_ok L T 0 b c ss ps w hT0 hT1 hl (by decide) hC hL hlt h1 h2
  have hlg := long_fl hT0 hT1 hlt
  have hsm : (upTo (flP T ps 0) L).length ≤ 96 * 60 := by
    have : ∀ i, (upTo (flP T ps 0) i).length ≤ 96 * i := fun i => by
      induction i with
      | zero => simp [upTo]
      | succ i ih =>
        rw [upTo_succ, List.length_append]
        have h3 : (flP T ps 0 i).length ≤ T := Nat.le_trans (ringFl_len _ _ _) (runsOf_le T _ hT0)
        omega
    exact Nat.le_trans (this L) (Nat.mul_le_mul_left _ hl)
  obtain ⟨fs, hfs⟩ : ∃ fs, upTo (flP T ps 0) L = fs := ⟨_, rfl⟩
  rw [hfs] at H1 hlg hsm
  have HLg := Lib.hid hlg
  clear hfs hlg hC hlt h1 h2
  go_enter Try.func61, Try.ntmps61
  go_wp2_with fail
  refine H1.mono ?_
  rintro e w1 ⟨v, rfl, hr, hb⟩
  obtain ⟨pf, cf, rfl, hf⟩ := Fls.of_row hr
  have HF := Lib.hid hf
  have HB := Lib.hid hb
  clear hr hf hb H1
  go_wp2_with fail
  go_loopw [4, 5] (fun s i wr => ∃ k : Nat, k ≤ fs.length ∧ i = .int .i64 (k : Int) ∧ s = .int .i64 ((mxL (fun i => (nthF fs i).length) k : Nat) : Int) ∧ Below w1.heap.size w1 wr) (fun _ i _ => fs.length - (intOf i).toNat)
  case atStart => exact ⟨0, Nat.zero_le _, rfl, rfl, Below.refl _ _⟩
  case round =>
    obtain ⟨k, hk, rfl, rfl, hS⟩ := hrel
    have HS := Lib.hid hS
    clear hS
    by_cases hlt : k < fs.length
    · obtain ⟨gf, rfl, hfl⟩ := HF.out (by omega)
      have hf2 := hfl.below HS.out hfl.lt
      have x0 := hf2.c0 k hlt
      have x1 := hf2.c1 k hlt
      have x2 := hf2.c2 k hlt
      have x3 := hf2.c3 k hlt
      have hk0 : (0 : Int) ≤ (k : Int) := by omega
      have hk1 : (k : Int) < (fs.length : Int) := by omega
      have hmx : mxL (fun i => (nthF fs i).length) (k + 1) = max (mxL (fun i => (nthF fs i).length) k) (nthF fs k).length := rfl
      obtain ⟨f, hf⟩ : ∃ f, nthF fs k = f := ⟨_, rfl⟩
      obtain ⟨M, hM⟩ : ∃ M, mxL (fun i => (nthF fs i).length) k = M := ⟨_, rfl⟩
      rw [hf] at x0 x1 x2 x3
      rw [hf, hM] at hmx
      rw [hM]
      have Hmx := Lib.hid hmx
      clear hf hM hmx hfl hf2
      go_wp2_with fail
      exact ⟨⟨k + 1, by omega, by go_num, by rw [Hmx.out]; go_num, HS.out⟩, by simp [intOf]; omega⟩
    · obtain rfl : k = fs.length := by omega
      go_wp2
      go_ret
      exact ⟨ret_int (by rw [← HLg.out]; rfl), HB.out.trans (HS.out.mono HB.out.size)⟩
end Go.Proofs.Ytdmgffoikebgkaa
/- Chapter 3: the worst of a harness, as the reference counts it. -/
namespace Go.Proofs.Ytdmgffoikebgkaa
open Go.RowKit Go.Shelf
attribute [local go_sem] Oper.semAt_some

/-- the greatest length that some rows which are bound weave -/
structure WsT (hs : List Nat) (n m k V : Nat) : Prop where
  le : ∀ x, x < k → BoundUp x n m → longL (pks hs [x]) hs.length 1 ≤ V
  got : V = 0 ∨ ∃ x, x < k ∧ BoundUp x n m ∧ V = longL (pks hs [x]) hs.length 1
theorem WsT.start (hs : List Nat) (n m : Nat) : WsT hs n m 0 0 := ⟨fun x hx => by omega, .inl rfl⟩
theorem WsT.no {hs : List Nat} {n m k V : Nat} (h : WsT hs n m k V) (hb : ¬ BoundUp k n m) : WsT hs n m (k + 1) V := by
  refine ⟨fun x hx hx2 => ?_, ?_⟩
  · by_cases e : x = k
    · subst e; exact absurd hx2 hb
    · exact h.le x (by omega) hx2
  · rcases h.got with e | ⟨x, h1, h2⟩
    · exact .inl e
    · exact .inr ⟨x, by omega, h2⟩
theorem WsT.yes {hs : List Nat} {n m k V : Nat} (h : WsT hs n m k V) (hb : BoundUp k n m) : WsT hs n m (k + 1) (max V (longL (pks hs [k]) hs.length 1)) := by
  refine ⟨fun x hx hx2 => ?_, ?_⟩
  · by_cases e : x = k
    · subst e; exact Nat.le_max_right _ _
    · exact Nat.le_trans (h.le x (by omega) hx2) (Nat.le_max_left _ _)
  · rcases Nat.le_total V (longL (pks hs [k]) hs.length 1) with e | e
    · rw [Nat.max_eq_right e]; exact .inr ⟨k, by omega, hb, rfl⟩
    · rw [Nat.max_eq_left e]
      rcases h.got with e | ⟨x, h1, h2⟩
      · exact .inl e
      · exact .inr ⟨x, by omega, h2⟩
theorem WsT.end {hs : List Nat} {n m V lo row : Nat} (h : WsT hs n m (2 ^ n) V) (hR : WoR hs n m hs.length lo row) (h1 : n ≤ 24) (hT : hs.length ≤ 1000) (h0 : 0 < hs.length) (hk : ∀ i, i < hs.length → nthN hs i < n) : V = if lo = 0 then 0 else worV hs.length lo := by
  by_cases hlo : lo = 0
  · rw [if_pos hlo]
    rcases h.got with e | ⟨x, hx, hb, _⟩
    · exact e
    · exact absurd hb (wor_zero hR h0 hk hlo x hx)
  · rw [if_neg hlo]
    obtain ⟨hr, hb, _⟩ := wor_row hR h1 hk hlo
    have hle := h.le row hr hb
    rw [long_row hR h1 hT hk hlo] at hle
    refine Nat.le_antisymm ?_ hle
    rcases h.got with e | ⟨x, hx, hb, e⟩
    · rw [e]; exact Nat.zero_le _
    · rw [e]
      refine long_le hR hT rfl fun i hi => ?_
      obtain rfl : i = 0 := by omega
      exact ⟨hx, hb⟩
/-- a row that was just made, as a design -/
theorem vat_one {n x g c : Nat} {W : World} (h0 : 1 ≤ n) (h1 : n ≤ 24) (hx : x < 2 ^ n) (hc : W.cell? ⟨g, 0, none⟩ = some (.int .i64 (x : Int))) : VAt W g 0 c n [x] := by
  refine ⟨fun i hi => ?_, World.block_lt_of_cell? W ⟨g, 0, none⟩ hc, h0, h1, by simp, by simp, fun i => ?_⟩
  · obtain rfl : i = 0 := by simpa using hi
    exact hc
  · by_cases hi : i = 0
    · subst hi; exact hx
    · have : nthN [x] i = 0 := by simp [nthN]; rw [List.getElem?_eq_none (by simp; omega)]; rfl
      rw [this]; exact Nat.pow_pos (by decide)
end Go.Proofs.Ytdmgffoikebgkaa
/- TieWorsts: its contracts. -/
namespace Go.Proofs.Ytdmgffoikebgkaa
open Go.RowKit Go.Shelf
attribute [local go_sem] Oper.semAt_some

set_option maxHeartbeats 1000000 in
/-- the reference's error of a harness with too many warps -/
theorem refCheck3_big (h : Int) (p : Option Addr) (c L : Nat) (w : World) (hL : 96 < L) :
    Calls Try.prog 33 #[.agg #[.int .i64 h, .slice p L c]] w fun e w' => (∃ k : Int, e = .returned (.int .i64 k) ∧ k ≠ 0) ∧ Below w.heap.size w w' := by
  have hbb : Below w.heap.size w (w.alloc (.cells #[.int .i64 h, .slice p L c] 26)) := (Below.refl _ _).alloc (Nat.le_refl _) _
  have HA := Lib.hid (refIn3_any h 1 24 (w.alloc (.cells #[.int .i64 h, .slice p L c] 26)))
  have Hbb := Lib.hid hbb
  clear hbb
  by_cases h1 : h < 1 ∨ 24 < h
  · have hdd : (decide (1 ≤ h) && decide (h ≤ 24)) = false := by
      rcases h1 with h1 | h1
      · rw [decide_eq_false (by omega)]; rfl
      · rw [show decide (h ≤ 24) = false from decide_eq_false (by omega), Bool.and_false]
    rw [hdd] at HA
    clear h1 hdd
    go_enter Try.func33, Try.ntmps33
    go_wp2_with fail
    refine HA.out.mono ?_
    rintro e w' ⟨rfl, rfl⟩
    go_wp2_with fail
    go_ret
    exact ⟨⟨2, rfl, by decide⟩, Hbb.out⟩
  · have hdd : (decide (1 ≤ h) && decide (h ≤ 24)) = true := by
      rw [decide_eq_true (by omega), decide_eq_true (by omega)]; rfl
    rw [hdd] at HA
    have hd2 : decide ((96 : Int) < (L : Int)) = true := decide_eq_true (by omega)
    have hd3 : decide (96 < L) = true := decide_eq_true hL
    clear h1 hdd
    go_enter Try.func33, Try.ntmps33
    go_wp2_with fail
    refine HA.out.mono ?_
    rintro e w' ⟨rfl, rfl⟩
    go_wp2_with fail
    go_ret
    exact ⟨⟨5, rfl, by decide⟩, Hbb.out⟩
set_option maxRecDepth 100000 in
set_option maxHeartbeats 1000000 in
theorem tieWorst_err (n1 m : Int) (k : Int) (p1 : Option Addr) (c1 : Nat) (xs : List Int) (w : World) (hr1 : Reads w (.slice p1 xs.length c1) xs) (hk : chkT n1 xs = k) (h0 : k ≠ 0) :
    Calls Try.prog 58 #[.agg #[.int .i64 n1, .slice p1 xs.length c1], .int .i64 m] w fun e w' => e = .returned (.tuple #[.int .i64 0, .int .i64 0, .int .i64 k]) ∧ Below w.heap.size w w' := by
  obtain ⟨w0, hw0⟩ : ∃ w0, w0 = (w.alloc (.cells #[.int .i64 n1, .slice p1 xs.length c1] 26)).alloc (.cells #[.int .i64 m] 3) := ⟨_, rfl⟩
  have hb0 : Below w.heap.size w w0 := by rw [hw0]; exact ((Below.refl _ _).alloc (Nat.le_refl _) _).alloc (by simp) _
  have hA : BoxAt w0 w.heap.size #[.int .i64 n1, .slice p1 xs.length c1] 26 := by rw [hw0]; exact (BoxAt.new w _ _).next ((Below.refl _ _).alloc (Nat.le_refl _) _)
  have HW0 := Lib.hid hw0
  have Hb0 := Lib.hid hb0
  have H1 := tieCheck_any n1 _ xs w0 (hr1.next hb0)
  rw [hk] at H1
  have a0 := hA.cell' 0 rfl
  have a1 := hA.cell' 1 rfl
  have hb : (k != 0) = true := by simp [h0]
  clear hw0 hb0 hA hr1 hk h0
  go_enter Try.func58, Try.ntmps58
  go_upto_region 1 with fail
  rw [← HW0.out]
  go_wp2_with fail
  refine H1.mono ?_
  rintro e W1 ⟨rfl, hb1⟩
  have Hb1 := Lib.hid (Hb0.out.trans (hb1.mono Hb0.out.size))
  clear hb1 a0 a1 H1 Hb0 HW0
  go_wp2_with fail
  go_ret3
  exact ⟨rfl, Hb1.out⟩
set_option maxRecDepth 100000 in
set_option maxHeartbeats 1000000 in
theorem tieWorst_range (n1 m : Int) (p1 : Option Addr) (c1 : Nat) (xs : List Int) (w : World) (hr1 : Reads w (.slice p1 xs.length c1) xs) (hk : chkT n1 xs = 0) (hm : ¬ (1 ≤ m ∧ m ≤ 24)) :
    Calls Try.prog 58 #[.agg #[.int .i64 n1, .slice p1 xs.length c1], .int .i64 m] w fun e w' => e = .returned (.tuple #[.int .i64 0, .int .i64 0, .int .i64 3]) ∧ Below w.heap.size w w' := by
  obtain ⟨w0, hw0⟩ : ∃ w0, w0 = (w.alloc (.cells #[.int .i64 n1, .slice p1 xs.length c1] 26)).alloc (.cells #[.int .i64 m] 3) := ⟨_, rfl⟩
  have hb0 : Below w.heap.size w w0 := by rw [hw0]; exact ((Below.refl _ _).alloc (Nat.le_refl _) _).alloc (by simp) _
  have hA : BoxAt w0 w.heap.size #[.int .i64 n1, .slice p1 xs.length c1] 26 := by rw [hw0]; exact (BoxAt.new w _ _).next ((Below.refl _ _).alloc (Nat.le_refl _) _)
  have hM : BoxAt w0 (w.heap.size + 1) #[.int .i64 m] 3 := by
    have := BoxAt.new (w.alloc (.cells #[.int .i64 n1, .slice p1 xs.length c1] 26)) #[.int .i64 m] 3
    rw [World.size_alloc] at this
    rw [hw0]; exact this
  have HW0 := Lib.hid hw0
  have Hb0 := Lib.hid hb0
  have HM := Lib.hid hM
  have H1 := tieCheck_any n1 _ xs w0 (hr1.next hb0)
  rw [hk] at H1
  have a0 := hA.cell' 0 rfl
  have a1 := hA.cell' 1 rfl
  have Hfr := Lib.hid (show frB 1 24 [m] = false by simp [frB]; omega)
  clear hw0 hb0 hA hM hr1 hk hm
  go_enter Try.func58, Try.ntmps58
  go_upto_region 1 with fail
  rw [← HW0.out]
  go_wp2_with fail
  refine H1.mono ?_
  rintro e W1 ⟨rfl, hb1⟩
  have Hb1 := Lib.hid (Hb0.out.trans (hb1.mono Hb0.out.size))
  have m0 := (HM.out.next hb1).cell' 0 rfl
  clear hb1 a0 a1 H1 Hb0 HW0 HM
  go_upto_region 3 with fail
  obtain ⟨W2, hW2⟩ : ∃ W2, W2 = W1.alloc (.cells #[.int .i64 m] 3) := ⟨_, rfl⟩
  have hb2 : Below W1.heap.size W1 W2 := by rw [hW2]; exact (Below.refl _ _).alloc (Nat.le_refl _) _
  have H4 := areFrom_any 1 24 W1.heap.size 0 1 [m] W2 (by simp) (by
    intro i hi
    obtain rfl : i = 0 := by simp at hi; omega
    rw [hW2]; exact (BoxAt.new W1 #[.int .i64 m] 3).cell' 0 rfl)
  rw [Hfr.out] at H4
  have HW2 := Lib.hid hW2
  have Hb2 := Lib.hid (Hb1.out.trans (hb2.mono Hb1.out.size))
  clear hW2 hb2
  go_wp2_with fail
  rw [← HW2.out]
  refine H4.mono ?_
  rintro e W3 ⟨rfl, rfl⟩
  go_wp2_with fail
  go_ret3
  exact ⟨rfl, Hb2.out⟩
theorem chk_open {n1 : Int} {p1 : Option Addr} {c1 : Nat} {xs : List Int} {w : World} (hr1 : Reads w (.slice p1 xs.length c1) xs) (hk : chkT n1 xs = 0) :
    ∃ n b off : Nat, n1 = (n : Int) ∧ p1 = some ⟨b, off, none⟩ ∧ TAt w b off n (hkN xs) ∧ 0 < xs.length ∧ xs.length ≤ 96 ∧ 1 ≤ n ∧ n ≤ 24 := by
  have hok := chkT_ok hk
  obtain ⟨p', c', hv, _, hx⟩ := hr1
  simp only [Value.slice.injEq, true_and] at hv
  obtain ⟨rfl, rfl⟩ := hv
  obtain ⟨b, off, rfl, hb, hx⟩ := hx hok.2.2.1
  have hn : n1 = (n1.toNat : Int) := by omega
  exact ⟨n1.toNat, b, off, hn, rfl, hkN_tat hk hx hb, hok.2.2.1, hok.2.2.2.1, by omega, by omega⟩
theorem call58g (n1 : Int) (m : Nat) (p1 : Option Addr) (c1 : Nat) (xs : List Int) (w : World) (hr1 : Reads w (.slice p1 xs.length c1) xs) (hk : chkT n1 xs = 0) (hm1 : 1 ≤ m) (hm2 : m ≤ 24) :
    Calls Try.prog 58 #[.agg #[.int .i64 n1, .slice p1 xs.length c1], .int .i64 (m : Int)] w fun e w' =>
      (∃ lo row, WoR (hkN xs) n1.toNat m xs.length lo row ∧ ((lo = 0 ∧ e = .returned (.tuple #[.int .i64 0, .int .i64 0, .int .i64 9])) ∨ (lo ≠ 0 ∧ e = .returned (.tuple #[.int .i64 (worV xs.length lo : Int), .int .i64 (row : Int), .int .i64 0])))) ∧ Below w.heap.size w w' := by
  obtain ⟨n, b, off, rfl, rfl, hT, l0, l1, n0, n1⟩ := chk_open hr1 hk
  have H := Worst_ok n b off c1 m (hkN xs) w hT hm1 hm2
  rw [hkN_len] at H
  refine H.mono ?_
  rintro e w' ⟨⟨lo, row, hR, h⟩, hb⟩
  rw [hkN_len] at hR h
  refine ⟨⟨lo, row, hR, ?_⟩, hb⟩
  rcases h with h | ⟨h1, rfl⟩
  · exact .inl h
  · exact .inr ⟨h1, rfl⟩
theorem call42r (n1 : Int) (x : Nat) (p1 : Option Addr) (c1 g c : Nat) (xs : List Int) (w : World) (hr1 : Reads w (.slice p1 xs.length c1) xs) (hk : chkT n1 xs = 0) (hx : x < 2 ^ n1.toNat) (hc : w.cell? ⟨g, 0, none⟩ = some (.int .i64 (x : Int))) :
    Calls Try.prog 42 #[.agg #[.int .i64 n1, .slice p1 xs.length c1], .agg #[.int .i64 n1, .slice (some ⟨g, 0, none⟩) 1 c]] w fun e w' =>
      ∃ g2 cap, e = .returned (.slice (some ⟨g2, 0, none⟩) 1 cap) ∧ StrsAt w' g2 0 (clothS (hkN xs) [x]) ∧ w.heap.size ≤ g2 ∧ g2 < w'.heap.size ∧ Below w.heap.size w w' := by
  obtain ⟨n, b, off, rfl, rfl, hT, l0, l1, n0, n1⟩ := chk_open hr1 hk
  have H := refCloth3_ok n b off c1 g 0 c (hkN xs) [x] w hT (vat_one n0 n1 hx hc)
  rw [hkN_len] at H
  refine H.mono ?_
  rintro e w' ⟨v, rfl, hr, hb⟩
  obtain ⟨g2, cap, rfl⟩ := row_slice hr (by simp)
  rw [← clothS_map] at hr
  obtain ⟨a, d, f⟩ := strs_of_row hr (by simp)
  exact ⟨g2, cap, rfl, a, f, d, hb⟩
theorem call61r (n1 : Int) (x g c : Nat) (xs : List Int) (w : World) (hk : chkT n1 xs = 0) (hs : StrsAt w g 0 (clothS (hkN xs) [x])) (hg : g < w.heap.size) :
    Calls Try.prog 61 #[.slice (some ⟨g, 0, none⟩) 1 c] w fun e w' => e = .returned (.int .i64 (longL (pks (hkN xs) [x]) xs.length 1 : Int)) ∧ Below w.heap.size w w' := by
  have hok := chkT_ok hk
  have hC := cloth_ClS (hkN xs) [x] (by rw [hkN_len]; omega) (by rw [hkN_len]; omega)
  have H := refLongest3_ok 1 (hkN xs).length g c _ _ w (by rw [hkN_len]; omega) (by rw [hkN_len]; omega) (by decide) hC (by rw [pks_len]; rfl) (fun i hi => pks_lt _ _ i hi) hs hg
  rwa [hkN_len] at H
/-- what the reference's Worst keeps -/
structure RwS (w : World) (n : Nat) (p1 : Option Addr) (c1 : Nat) (xs : List Int) (W : World) : Prop where
  bx : BoxAt W w.heap.size #[.int .i64 (n : Int), .slice p1 xs.length c1] 26
  r : Reads W (.slice p1 xs.length c1) xs
  b : Below w.heap.size w W
theorem RwS.next {w W W' : World} {n : Nat} {p1 : Option Addr} {c1 : Nat} {xs : List Int} (h : RwS w n p1 c1 xs W) (hb : Below W.heap.size W W') : RwS w n p1 c1 xs W' :=
  ⟨h.bx.next hb, h.r.next hb, h.b.trans (hb.mono h.b.size)⟩
set_option maxRecDepth 100000 in
set_option maxHeartbeats 2000000 in
theorem refWorst3_ok (n m : Nat) (p1 : Option Addr) (c1 : Nat) (xs : List Int) (w : World) (hr1 : Reads w (.slice p1 xs.length c1) xs) (hk : chkT (n : Int) xs = 0) (hn : n ≤ 10) (hm : m < 1000) :
    Calls Try.prog 59 #[.agg #[.int .i64 (n : Int), .slice p1 xs.length c1], .int .i64 (m : Int)] w fun e w' => (∃ V : Nat, e = .returned (.int .i64 (V : Int)) ∧ WsT (hkN xs) n m (2 ^ n) V) ∧ Below w.heap.size w w' := by
  obtain ⟨w0, hw0⟩ : ∃ w0, w0 = w.alloc (.cells #[.int .i64 (n : Int), .slice p1 xs.length c1] 26) := ⟨_, rfl⟩
  have hb0 : Below w.heap.size w w0 := by rw [hw0]; exact (Below.refl _ _).alloc (Nat.le_refl _) _
  have H0 := Lib.hid (show RwS w n p1 c1 xs w0 from ⟨by rw [hw0]; exact BoxAt.new w _ _, hr1.next hb0, hb0⟩)
  have HW0 := Lib.hid hw0
  have hn0 : 1 ≤ n := by have := (chkT_ok hk).1; omega
  have hLn := Lib.hid (hkN_len xs)
  have HK := Lib.hid hk
  obtain ⟨P, hP⟩ : ∃ P, 2 ^ n = P := ⟨_, rfl⟩
  have hPl : P ≤ 1024 := by rw [← hP]; exact Nat.pow_le_pow_right (by decide : 2 > 0) hn
  have hPi : (2 : Int) ^ n = (P : Int) := by rw [← hP]; exact (Int.natCast_pow 2 n).symm
  have HP := Lib.hid hP
  have hw1 : IntKind.i64.wrap ((2 : Int) ^ n) = (P : Int) := by rw [hPi]; exact IntWalk.i64_in _ (by omega)
  have hu : IntKind.u64.wrap (n : Int) = (n : Int) := IntWalk.u64_in _ (by omega)
  have hmn : min n 64 = n := by omega
  rw [hP]
  clear hw0 hb0 hr1 hk hP hPi
  go_enter Try.func59, Try.ntmps59
  go_wp2_with fail
  rw [← HW0.out]
  go_loopw [5, 6] (fun s i wr => ∃ k V : Nat, k ≤ P ∧ i = .int .i64 (k : Int) ∧ s = .int .i64 (V : Int) ∧ WsT (hkN xs) n m k V ∧ RwS w n p1 c1 xs wr) (fun _ i _ => P - (intOf i).toNat)
  case atStart => exact ⟨0, 0, Nat.zero_le _, rfl, rfl, WsT.start _ _ _, H0.out⟩
  case round =>
    obtain ⟨k, V, hk, rfl, rfl, hV, hS⟩ := hrel
    have HV := Lib.hid hV
    have HS := Lib.hid hS
    have a0 := hS.bx.cell' 0 rfl
    have a1 := hS.bx.cell' 1 rfl
    clear hV hS
    by_cases hlt : k < P
    · have hlt2 : k < 2 ^ n := by rw [HP.out]; exact hlt
      have H60 := refBound_any n k m wr hn0 (by omega) hlt2 hm
      have Hlt2 := Lib.hid hlt2
      clear hlt2
      go_wp2_with fail
      refine H60.mono ?_
      rintro e w2 ⟨bb, rfl, hbb, hb⟩
      have HS2 := Lib.hid (HS.out.next hb)
      have Hbb := Lib.hid hbb
      clear hb hbb a0 a1 HS H60
      cases bb with
      | false =>
        have HV2 := Lib.hid (HV.out.no fun h => by have := Hbb.out.2 h; cases this)
        clear hw1 hu hmn
        go_wp2
        go_roundw
        case rel => exact ⟨k + 1, V, by omega, by go_num, rfl, HV2.out, HS2.out⟩
        case measure => simp [intOf]; omega
      | true =>
        have HV2 := Lib.hid (HV.out.yes (Hbb.out.1 rfl))
        rw [hLn.out] at HV2
        obtain ⟨W3, hW3⟩ : ∃ W3, W3 = w2.alloc (.cells #[.int .i64 (k : Int)] 3) := ⟨_, rfl⟩
        have hb3 : Below w2.heap.size w2 W3 := by rw [hW3]; exact (Below.refl _ _).alloc (Nat.le_refl _) _
        have hc3 : W3.cell? ⟨w2.heap.size, 0, none⟩ = some (.int .i64 (k : Int)) := by rw [hW3]; exact (BoxAt.new w2 #[.int .i64 (k : Int)] 3).cell' 0 rfl
        have HS3 := Lib.hid (HS2.out.next hb3)
        have HW3 := Lib.hid hW3
        have a0 := HS2.out.bx.cell' 0 rfl
        have a1 := HS2.out.bx.cell' 1 rfl
        have H42 := call42r (n : Int) k p1 c1 w2.heap.size 1 xs W3 HS3.out.r HK.out (by rw [Int.toNat_natCast]; exact Hlt2.out) hc3
        obtain ⟨Z, hZ⟩ : ∃ Z, longL (pks (hkN xs) [k]) xs.length 1 = Z := ⟨_, rfl⟩
        rw [hZ] at HV2
        have HZ := Lib.hid hZ
        clear hW3 hb3 hc3 hw1 hu hmn HS2 hZ
        go_wp2_with fail
        rw [← HW3.out]
        refine H42.mono ?_
        rintro e W4 ⟨g2, cap, rfl, hs, _, hg, hb4⟩
        have HS4 := Lib.hid (HS3.out.next hb4)
        have H61 := call61r (n : Int) k g2 cap xs W4 HK.out hs hg
        rw [HZ.out] at H61
        clear hs hg hb4 a0 a1 HS3 HW3
        go_wp2_with fail
        refine H61.mono ?_
        rintro e W5 ⟨rfl, hb5⟩
        have HS5 := Lib.hid (HS4.out.next hb5)
        clear hb5 HS4 H61
        go_wp2
        go_roundw
        case rel => exact ⟨k + 1, max V Z, by omega, by go_num, by go_num, HV2.out, HS5.out⟩
        case measure => simp [intOf]; omega
    · obtain rfl : k = P := by omega
      go_wp2
      go_ret
      exact ⟨⟨V, rfl, HV.out⟩, HS.out.b⟩
end Go.Proofs.Ytdmgffoikebgkaa
/- TieWorsts: its last region. -/
namespace Go.Proofs.Ytdmgffoikebgkaa
open Go.RowKit Go.Shelf
attribute [local go_sem] Oper.semAt_some

def region_wr19U : List (List Nat) := [[], [], [], [], [4], [4], [4, 6], [4, 6], [], [4, 6], [4, 6], [4, 6], [4, 6], [4, 6]]
def region_wr19X (Z L c1 row zl : Nat) (n1 : Int) (p1 : Option Addr) (_SS : List ByteArray) : Nat → (Nat → Hd) → Value
  | 0, _ => .agg #[.int .i64 n1, .slice p1 L c1]
  | 1, _ => .pointer (some ⟨Z, 0, none⟩)
  | 2, _ => .int .i64 n1
  | 3, _ => .int .i64 (row : Int)
  | 4, hds => .slice (some ⟨(hds 4).b, 0, none⟩) 1 1
  | 5, hds => .agg #[.int .i64 n1, .slice (some ⟨(hds 4).b, 0, none⟩) 1 1]
  | 6, hds => .slice (some ⟨(hds 6).b, 0, none⟩) 1 (hds 6).c
  | 7, _ => .int .i64 (zl : Int)
  | 8, _ => .int .i64 (zl : Int)
  | 9, _ => .bool true
  | 10, _ => .bool true
  | 11, _ => .bool true
  | 12, _ => .bool true
  | 13, _ => .bool true
  | _ + 14, _ => undef
theorem region_wr19X.congr (Z L c1 row zl : Nat) (n1 : Int) (p1 : Option Addr) (SS : List ByteArray) : ∀ i hds hds', (∀ r ∈ uOf region_wr19U i, hds r = hds' r) → region_wr19X Z L c1 row zl n1 p1 SS i hds = region_wr19X Z L c1 row zl n1 p1 SS i hds'
  | 0, _, _, _ => rfl
  | 1, _, _, _ => rfl
  | 2, _, _, _ => rfl
  | 3, _, _, _ => rfl
  | 4, hds, hds', h => by simp only [region_wr19X, h 4 (show 4 ∈ uOf region_wr19U 4 by decide)]
  | 5, hds, hds', h => by simp only [region_wr19X, h 4 (show 4 ∈ uOf region_wr19U 5 by decide)]
  | 6, hds, hds', h => by simp only [region_wr19X, h 6 (show 6 ∈ uOf region_wr19U 6 by decide)]
  | 7, _, _, _ => rfl
  | 8, _, _, _ => rfl
  | 9, _, _, _ => rfl
  | 10, _, _, _ => rfl
  | 11, _, _, _ => rfl
  | 12, _, _, _ => rfl
  | 13, _, _, _ => rfl
  | _ + 14, _, _, _ => rfl
def region_wr19M (_Z _L _c1 row _zl : Nat) (_n1 : Int) (_p1 : Option Addr) (SS : List ByteArray) : Nat → Mem
  | 4 => memBx #[.int .i64 (row : Int)] 3
  | 6 => memStrs SS
  | _ => memNone
def region_wr19S (_Z _L _c1 _row _zl : Nat) (_n1 : Int) (_p1 : Option Addr) (_SS : List ByteArray) : Nat → Option Sto
  | _ => none
set_option maxRecDepth 8000 in
set_option maxHeartbeats 2000000 in
theorem region_wr19 {id : Nat} {ops : Array Oper} {Q : Exit → Act → World → Prop} {a : Act} {w : World} (Z L c1 row zl : Nat) (n1 : Int) (p1 : Option Addr) (SS : List ByteArray) (H42 : ∀ g c W, Below w.heap.size w W → W.cell? ⟨g, 0, none⟩ = some (.int .i64 (row : Int)) → Calls Try.prog 42 #[.agg #[.int .i64 n1, .slice p1 L c1], .agg #[.int .i64 n1, .slice (some ⟨g, 0, none⟩) 1 c]] W fun e w' => ∃ g2 cap, e = .returned (.slice (some ⟨g2, 0, none⟩) 1 cap) ∧ (StrsAt w' g2 0 SS) ∧ W.heap.size ≤ g2 ∧ g2 < w'.heap.size ∧ Below W.heap.size W w') (H61 : ∀ g c W, StrsAt W g 0 SS → g < W.heap.size → Calls Try.prog 61 #[.slice (some ⟨g, 0, none⟩) 1 c] W fun e w' => e = .returned (.int .i64 (zl : Int)) ∧ Below W.heap.size W w') (hZ : BoxAt w Z #[.int .i64 n1, .slice p1 L c1] 26)
    (gsize : ops.size = 14)
    (gops : IsOp ops 0 (some 100) (.load 26 (.tmp 2)) none [] ∧ IsOp ops 1 (some 101) (.fieldAddr 26 (.tmp 2) 0) none [] ∧ IsOp ops 2 (some 102) (.load 3 (.tmp 101)) none [1] ∧ IsOp ops 3 (some 103) (.move (.tmp 8)) none [] ∧ IsOp ops 4 (some 104) (.buildSlice 24 1 #[(0, .tmp 103)]) none [3] ∧ IsOp ops 5 (some 105) (.call { callee := .value (.func 62), args := #[.tmp 102, .tmp 104], argTypes := #[3, 24] }) none [2, 4] ∧ IsOp ops 6 (some 106) (.call { callee := .value (.func 42), args := #[.tmp 100, .tmp 105], argTypes := #[26, 37] }) none [0, 5] ∧ IsOp ops 7 (some 107) (.call { callee := .value (.func 61), args := #[.tmp 106], argTypes := #[49] }) none [6] ∧ IsOp ops 8 (some 108) (.move (.tmp 7)) none [] ∧ IsOp ops 9 (some 109) (.binOp .eql 3 (.tmp 107) (.tmp 108) 3) none [7, 8] ∧ IsOp ops 10 (some 110) (.move (.tmp 109)) none [9] ∧ IsOp ops 11 (some 111) (.call { callee := .value (.func 23), args := #[], argTypes := #[] }) (some (10, true)) [10] ∧ IsOp ops 12 (some 112) (.pick (.tmp 110) (.tmp 111) (.const (.bool false))) none [10, 11] ∧ IsOp ops 13 (some 4) (.assign (.tmp 112)) none [12])
    (gbk : backB ops = true) (gds : dstsB ops (dOf [some 100, some 101, some 102, some 103, some 104, some 105, some 106, some 107, some 108, some 109, some 110, some 111, some 112, some 4]) = true) (gus : useB ops (uOf region_wr19U) (kOf [0, 0, 0, 0, 1, 0, 1, 0, 0, 0, 0, 0, 0, 0]) = true) (ggd : guardC ops (dOf [some 100, some 101, some 102, some 103, some 104, some 105, some 106, some 107, some 108, some 109, some 110, some 111, some 112, some 4]) [(10, true)] = true) (gsz : ∀ e ∈ [100, 101, 102, 103, 104, 105, 106, 107, 108, 109, 110, 111, 112, 4], e < a.tmps.size)
    (gout : a.eval (.tmp 2) = .pointer (some ⟨Z, 0, none⟩) ∧ a.eval (.tmp 8) = .int .i64 (row : Int) ∧ a.eval (.tmp 7) = .int .i64 (zl : Int))
    (gend : ∀ (g104 q104 G104 Q104 g106 q106 G106 Q106 : Nat) (P104 P106 : Option Addr) (u100 u101 u102 u103 u104 u105 u106 u107 u108 u109 u110 u111 u112 : Value) (W : World), Below w.heap.size w W → (memBx #[.int .i64 (row : Int)] 3).P ⟨g104, q104, G104, Q104, P104⟩ W → (∀ b ∈ (memBx #[.int .i64 (row : Int)] 3).bl ⟨g104, q104, G104, Q104, P104⟩, w.heap.size ≤ b ∧ b < W.heap.size) → (memStrs SS).P ⟨g106, q106, G106, Q106, P106⟩ W → (∀ b ∈ (memStrs SS).bl ⟨g106, q106, G106, Q106, P106⟩, w.heap.size ≤ b ∧ b < W.heap.size) → Q .normal (putL a [(100, u100), (101, u101), (102, u102), (103, u103), (104, u104), (105, u105), (106, u106), (107, u107), (108, u108), (109, u109), (110, u110), (111, u111), (112, u112), (4, .bool true)]) W) :
    (Code.region id ops true).wp Try.prog Q a w := by
  obtain ⟨iop0, iop1, iop2, iop3, iop4, iop5, iop6, iop7, iop8, iop9, iop10, iop11, iop12, iop13⟩ := gops
  obtain ⟨o2, o8, o7⟩ := gout
  refine region_all (RSp.of 14 [some 100, some 101, some 102, some 103, some 104, some 105, some 106, some 107, some 108, some 109, some 110, some 111, some 112, some 4] (fun _ => true) (region_wr19X Z L c1 row zl n1 p1 SS) region_wr19U [0, 0, 0, 0, 1, 0, 1, 0, 0, 0, 0, 0, 0, 0] (region_wr19M Z L c1 row zl n1 p1 SS) (region_wr19S Z L c1 row zl n1 p1 SS)) [(2, .pointer (some ⟨Z, 0, none⟩)), (8, .int .i64 (row : Int)), (7, .int .i64 (zl : Int))] [100, 101, 102, 103, 104, 105, 106, 107, 108, 109, 110, 111, 112, 4] (RSp.of_fitC gsize.symm gbk gds gus ggd (by decide) ?_ ?_) (RSp.of_ok _ (region_wr19X.congr Z L c1 row zl n1 p1 SS) ?_) gsz ?_ ?_ ?_
  · intro p hp
    have hp2 : p ∈ ([] : List (Nat × Nat)) := hp
    cases hp2
  · intro j hj hds
    simp only [List.mem_cons, List.not_mem_nil, or_false] at hj
    subst hj
    all_goals rfl
  · intro i s hds
    match i, hds with
    | 0, hds => cases hds
    | 1, hds => cases hds
    | 2, hds => cases hds
    | 3, hds => cases hds
    | 4, hds => cases hds
    | 5, hds => cases hds
    | 6, hds => cases hds
    | 7, hds => cases hds
    | 8, hds => cases hds
    | 9, hds => cases hds
    | 10, hds => cases hds
    | 11, hds => cases hds
    | 12, hds => cases hds
    | 13, hds => cases hds
    | _ + 14, hds => cases hds
  · intro q hq
    simp only [List.mem_cons, List.not_mem_nil, or_false] at hq
    rcases hq with rfl | rfl | rfl
    · exact ⟨o2, by simp⟩
    · exact ⟨o8, by simp⟩
    · exact ⟨o7, by simp⟩
  · intro i o ho hw
    have hi : i < 14 := by rw [← gsize]; exact (Array.getElem?_eq_some_iff.1 ho).1
    match i, hi with
    | 0, _ =>
      obtain ⟨ty, pos, aft, e, hdp⟩ := iop0
      rw [e] at ho
      obtain rfl := Option.some.inj ho
      intro a' hds W K hB lq ld hmem hK
      have e2 : a'.eval (.tmp 2) = .pointer (some ⟨Z, 0, none⟩) := by rw [eval_tmp]; exact lq (2, .pointer (some ⟨Z, 0, none⟩)) (by simp)
      have t2 := (eval_tmp a' 2).symm.trans e2
      have HK := Lib.hid (show K (a'.put (some 100) (.agg #[.int .i64 n1, .slice p1 L c1])) W from hK W (Below.refl _ _) trivial)
      clear hK ld lq hmem
      have c0 := (hZ.next hB).cell' 0 rfl
      have c1 := (hZ.next hB).cell' 1 rfl
      unfold Oper.wp
      simp only [execOp, e2]
      go_simp
      exact HK.out
    | 1, _ =>
      obtain ⟨ty, pos, aft, e, hdp⟩ := iop1
      rw [e] at ho
      obtain rfl := Option.some.inj ho
      intro a' hds W K hB lq ld hmem hK
      have e2 : a'.eval (.tmp 2) = .pointer (some ⟨Z, 0, none⟩) := by rw [eval_tmp]; exact lq (2, .pointer (some ⟨Z, 0, none⟩)) (by simp)
      have t2 := (eval_tmp a' 2).symm.trans e2
      have HK := Lib.hid (show K (a'.put (some 101) (.pointer (some ⟨Z, 0, none⟩))) W from hK W (Below.refl _ _) trivial)
      clear hK ld lq hmem
      unfold Oper.wp
      simp only [execOp, e2]
      go_simp
      exact HK.out
    | 2, _ =>
      obtain ⟨ty, pos, aft, e, hdp⟩ := iop2
      rw [e] at ho
      obtain rfl := Option.some.inj ho
      intro a' hds W K hB lq ld hmem hK
      have e101 : a'.eval (.tmp 101) = .pointer (some ⟨Z, 0, none⟩) := by rw [eval_tmp]; exact ld 1 101 (List.all_eq_true.1 hdp 1 (by decide)) rfl
      have t101 := (eval_tmp a' 101).symm.trans e101
      have HK := Lib.hid (show K (a'.put (some 102) (.int .i64 n1)) W from hK W (Below.refl _ _) trivial)
      clear hK ld lq hmem
      have c0 := (hZ.next hB).cell' 0 rfl
      unfold Oper.wp
      simp only [execOp, e101]
      go_simp
      exact HK.out
    | 3, _ =>
      obtain ⟨ty, pos, aft, e, hdp⟩ := iop3
      rw [e] at ho
      obtain rfl := Option.some.inj ho
      intro a' hds W K hB lq ld hmem hK
      have e8 : a'.eval (.tmp 8) = .int .i64 (row : Int) := by rw [eval_tmp]; exact lq (8, .int .i64 (row : Int)) (by simp)
      have t8 := (eval_tmp a' 8).symm.trans e8
      have HK := Lib.hid (show K (a'.put (some 103) (.int .i64 (row : Int))) W from hK W (Below.refl _ _) trivial)
      clear hK ld lq hmem
      unfold Oper.wp
      simp only [execOp, e8]
      exact HK.out
    | 4, _ =>
      obtain ⟨ty, pos, aft, e, hdp⟩ := iop4
      rw [e] at ho
      obtain rfl := Option.some.inj ho
      intro a' hds W K hB lq ld hmem hK
      have e103 : a'.eval (.tmp 103) = .int .i64 (row : Int) := by rw [eval_tmp]; exact ld 3 103 (List.all_eq_true.1 hdp 3 (by decide)) rfl
      have t103 := (eval_tmp a' 103).symm.trans e103
      have HK := Lib.hid (show ∀ hh W', Below W.heap.size W W' → (memBx #[.int .i64 (row : Int)] 3).P hh W' → (∀ b ∈ (memBx #[.int .i64 (row : Int)] 3).bl hh, W.heap.size ≤ b ∧ b < W'.heap.size) → K (a'.put (some 104) (.slice (some ⟨hh.b, 0, none⟩) 1 1)) W' from fun hh W' h1 h2 h3 => by
        have h4 : K (a'.put (some 104) (region_wr19X Z L c1 row zl n1 p1 SS 4 (updH hds 4 hh))) W' := hK hh W' h1 h2 h3 trivial
        simp only [region_wr19X, updH_same] at h4
        exact h4)
      clear hK ld lq hmem
      have hfin := Lib.hid (HK.out ⟨W.heap.size, 0, 0, 0, none⟩ _ ((Below.refl _ _).alloc (Nat.le_refl _) (.cells #[.int .i64 (row : Int)] 3)) (BoxAt.new W #[.int .i64 (row : Int)] 3) (bd_one (Nat.le_refl _) (by simp)))
      clear HK
      unfold Oper.wp
      simp only [execOp]
      go_simp
      exact hfin.out
    | 5, _ =>
      obtain ⟨ty, pos, aft, e, hdp⟩ := iop5
      rw [e] at ho
      obtain rfl := Option.some.inj ho
      intro a' hds W K hB lq ld hmem hK
      have e102 : a'.eval (.tmp 102) = .int .i64 n1 := by rw [eval_tmp]; exact ld 2 102 (List.all_eq_true.1 hdp 2 (by decide)) rfl
      have t102 := (eval_tmp a' 102).symm.trans e102
      have e104 : a'.eval (.tmp 104) = .slice (some ⟨(hds 4).b, 0, none⟩) 1 1 := by rw [eval_tmp]; exact ld 4 104 (List.all_eq_true.1 hdp 4 (by decide)) rfl
      have t104 := (eval_tmp a' 104).symm.trans e104
      have m104   := (hmem 4 (show 4 ∈ uOf region_wr19U 5 by decide) (by decide)).1
      have HK := Lib.hid (show ∀ W', Below W.heap.size W W' → K (a'.put (some 105) (.agg #[.int .i64 n1, .slice (some ⟨(hds 4).b, 0, none⟩) 1 1])) W' from fun W' h => hK W' h trivial)
      clear hK ld lq hmem
      refine step_call (vals := #[.int .i64 n1, .slice (some ⟨(hds 4).b, 0, none⟩) 1 1]) (by exact ⟨_, _, Try.func62, by kernel_rfl, rfl⟩) (by simp only [List.map_toArray, List.map_cons, List.map_nil, e102, e104]) (call62 n1 _ 1 1 W) ?_
      rintro e w' ⟨rfl, hb'⟩
      exact ⟨_, rfl, HK.out _ hb'⟩
    | 6, _ =>
      obtain ⟨ty, pos, aft, e, hdp⟩ := iop6
      rw [e] at ho
      obtain rfl := Option.some.inj ho
      intro a' hds W K hB lq ld hmem hK
      have e100 : a'.eval (.tmp 100) = .agg #[.int .i64 n1, .slice p1 L c1] := by rw [eval_tmp]; exact ld 0 100 (List.all_eq_true.1 hdp 0 (by decide)) rfl
      have t100 := (eval_tmp a' 100).symm.trans e100
      have e105 : a'.eval (.tmp 105) = .agg #[.int .i64 n1, .slice (some ⟨(hds 4).b, 0, none⟩) 1 1] := by rw [eval_tmp]; exact ld 5 105 (List.all_eq_true.1 hdp 5 (by decide)) rfl
      have t105 := (eval_tmp a' 105).symm.trans e105
      have HK := Lib.hid (show ∀ hh W', Below W.heap.size W W' → (memStrs SS).P hh W' → (∀ b ∈ (memStrs SS).bl hh, W.heap.size ≤ b ∧ b < W'.heap.size) → K (a'.put (some 106) (.slice (some ⟨hh.b, 0, none⟩) 1 hh.c)) W' from fun hh W' h1 h2 h3 => by
        have h4 : K (a'.put (some 106) (region_wr19X Z L c1 row zl n1 p1 SS 6 (updH hds 6 hh))) W' := hK hh W' h1 h2 h3 trivial
        simp only [region_wr19X, updH_same] at h4
        exact h4)
      have m104   := (hmem 4 (show 4 ∈ uOf region_wr19U 6 by decide) (by decide)).1
      clear hK ld lq hmem
      refine step_call (vals := #[.agg #[.int .i64 n1, .slice p1 L c1], .agg #[.int .i64 n1, .slice (some ⟨(hds 4).b, 0, none⟩) 1 1]]) (by exact ⟨_, _, Try.func42, by kernel_rfl, rfl⟩) (by simp only [List.map_toArray, List.map_cons, List.map_nil, e100, e105]) (H42 (hds 4).b 1 W hB (m104.cell' 0 rfl)) ?_
      rintro e w' ⟨g, cap, rfl, hn, hl, hg, hb'⟩
      exact ⟨_, rfl, HK.out ⟨g, cap, 0, 0, none⟩ _ hb' ⟨hn, hg⟩ (bd_one hl hg)⟩
    | 7, _ =>
      obtain ⟨ty, pos, aft, e, hdp⟩ := iop7
      rw [e] at ho
      obtain rfl := Option.some.inj ho
      intro a' hds W K hB lq ld hmem hK
      have e106 : a'.eval (.tmp 106) = .slice (some ⟨(hds 6).b, 0, none⟩) 1 (hds 6).c := by rw [eval_tmp]; exact ld 6 106 (List.all_eq_true.1 hdp 6 (by decide)) rfl
      have t106 := (eval_tmp a' 106).symm.trans e106
      have m104   := (hmem 4 (show 4 ∈ uOf region_wr19U 7 by decide) (by decide)).1
      have m106   := (hmem 6 (show 6 ∈ uOf region_wr19U 7 by decide) (by decide)).1
      have HK := Lib.hid (show ∀ W', Below W.heap.size W W' → K (a'.put (some 107) (.int .i64 (zl : Int))) W' from fun W' h => hK W' h trivial)
      clear hK ld lq hmem
      refine step_call (vals := #[.slice (some ⟨(hds 6).b, 0, none⟩) 1 (hds 6).c]) (by exact ⟨_, _, Try.func61, by kernel_rfl, rfl⟩) (by simp only [List.map_toArray, List.map_cons, List.map_nil, e106]) (H61 (hds 6).b (hds 6).c W m106.1 m106.2) ?_
      rintro e w' ⟨rfl, hb'⟩
      exact ⟨_, rfl, HK.out _ hb'⟩
    | 8, _ =>
      obtain ⟨ty, pos, aft, e, hdp⟩ := iop8
      rw [e] at ho
      obtain rfl := Option.some.inj ho
      intro a' hds W K hB lq ld hmem hK
      have e7 : a'.eval (.tmp 7) = .int .i64 (zl : Int) := by rw [eval_tmp]; exact lq (7, .int .i64 (zl : Int)) (by simp)
      have t7 := (eval_tmp a' 7).symm.trans e7
      have HK := Lib.hid (show K (a'.put (some 108) (.int .i64 (zl : Int))) W from hK W (Below.refl _ _) trivial)
      clear hK ld lq hmem
      unfold Oper.wp
      simp only [execOp, e7]
      exact HK.out
    | 9, _ =>
      obtain ⟨ty, pos, aft, e, hdp⟩ := iop9
      rw [e] at ho
      obtain rfl := Option.some.inj ho
      intro a' hds W K hB lq ld hmem hK
      have e107 : a'.eval (.tmp 107) = .int .i64 (zl : Int) := by rw [eval_tmp]; exact ld 7 107 (List.all_eq_true.1 hdp 7 (by decide)) rfl
      have t107 := (eval_tmp a' 107).symm.trans e107
      have e108 : a'.eval (.tmp 108) = .int .i64 (zl : Int) := by rw [eval_tmp]; exact ld 8 108 (List.all_eq_true.1 hdp 8 (by decide)) rfl
      have t108 := (eval_tmp a' 108).symm.trans e108
      have HK := Lib.hid (show K (a'.put (some 109) (.bool true)) W from hK W (Below.refl _ _) trivial)
      clear hK ld lq hmem
      unfold Oper.wp
      simp only [execOp, e107, e108]
      go_simp
      exact HK.out
    | 10, _ =>
      obtain ⟨ty, pos, aft, e, hdp⟩ := iop10
      rw [e] at ho
      obtain rfl := Option.some.inj ho
      intro a' hds W K hB lq ld hmem hK
      have e109 : a'.eval (.tmp 109) = .bool true := by rw [eval_tmp]; exact ld 9 109 (List.all_eq_true.1 hdp 9 (by decide)) rfl
      have t109 := (eval_tmp a' 109).symm.trans e109
      have HK := Lib.hid (show K (a'.put (some 110) (.bool true)) W from hK W (Below.refl _ _) trivial)
      clear hK ld lq hmem
      unfold Oper.wp
      simp only [execOp, e109]
      exact HK.out
    | 11, _ =>
      obtain ⟨ty, pos, aft, e, hdp⟩ := iop11
      rw [e] at ho
      obtain rfl := Option.some.inj ho
      intro a' hds W K hB lq ld hmem hK
      have m104   := (hmem 4 (show 4 ∈ uOf region_wr19U 11 by decide) (by decide)).1
      have m106   := (hmem 6 (show 6 ∈ uOf region_wr19U 11 by decide) (by decide)).1
      have HK := Lib.hid (show ∀ W', Below W.heap.size W W' → K (a'.put (some 111) (.bool true)) W' from fun W' h => hK W' h trivial)
      clear hK ld lq hmem
      refine step_call (vals := #[]) (by exact ⟨_, _, Try.func23, by kernel_rfl, rfl⟩) (by simp only [List.map_toArray, List.map_cons, List.map_nil]) (tieKnown W) ?_
      rintro e w' ⟨rfl, hb'⟩
      exact ⟨_, rfl, HK.out _ hb'⟩
    | 12, _ =>
      obtain ⟨ty, pos, aft, e, hdp⟩ := iop12
      rw [e] at ho
      obtain rfl := Option.some.inj ho
      intro a' hds W K hB lq ld hmem hK
      have e110 : a'.eval (.tmp 110) = .bool true := by rw [eval_tmp]; exact ld 10 110 (List.all_eq_true.1 hdp 10 (by decide)) rfl
      have t110 := (eval_tmp a' 110).symm.trans e110
      have e111 : a'.eval (.tmp 111) = .bool true := by rw [eval_tmp]; exact ld 11 111 (List.all_eq_true.1 hdp 11 (by decide)) rfl
      have t111 := (eval_tmp a' 111).symm.trans e111
      have HK := Lib.hid (show K (a'.put (some 112) (.bool true)) W from hK W (Below.refl _ _) trivial)
      clear hK ld lq hmem
      unfold Oper.wp
      simp only [execOp, e110, e111]
      go_simp
      exact HK.out
    | 13, _ =>
      obtain ⟨ty, pos, aft, e, hdp⟩ := iop13
      rw [e] at ho
      obtain rfl := Option.some.inj ho
      intro a' hds W K hB lq ld hmem hK
      have e112 : a'.eval (.tmp 112) = .bool true := by rw [eval_tmp]; exact ld 12 112 (List.all_eq_true.1 hdp 12 (by decide)) rfl
      have t112 := (eval_tmp a' 112).symm.trans e112
      have HK := Lib.hid (show K (a'.put (some 4) (.bool true)) W from hK W (Below.refl _ _) trivial)
      clear hK ld lq hmem
      unfold Oper.wp
      simp only [execOp, e112]
      exact HK.out
    | i + 14, h => omega
  · intro hds v W hO
    have hfin := gend (hds 4).b (hds 4).c (hds 4).b2 (hds 4).c2 (hds 6).b (hds 6).c (hds 6).b2 (hds 6).c2 (hds 4).p (hds 6).p (v 100) (v 101) (v 102) (v 103) (v 104) (v 105) (v 106) (v 107) (v 108) (v 109) (v 110) (v 111) (v 112) W hO.b (hO.m 4 (by show 4 < 14; decide) rfl).1 (hO.m 4 (by show 4 < 14; decide) rfl).2 (hO.m 6 (by show 6 < 14; decide) rfl).1 (hO.m 6 (by show 6 < 14; decide) rfl).2
    rw [← laid_putL _ a v ?_] at hfin
    · exact hfin
    · intro p hp
      simp only [List.mem_cons, List.not_mem_nil, or_false] at hp
      rcases hp with rfl | rfl | rfl | rfl | rfl | rfl | rfl | rfl | rfl | rfl | rfl | rfl | rfl | rfl
      · rfl
      · rfl
      · rfl
      · rfl
      · rfl
      · rfl
      · rfl
      · rfl
      · rfl
      · rfl
      · rfl
      · rfl
      · rfl
      · exact hO.x 13 (show 13 < 14 by decide) 4 rfl
end Go.Proofs.Ytdmgffoikebgkaa
