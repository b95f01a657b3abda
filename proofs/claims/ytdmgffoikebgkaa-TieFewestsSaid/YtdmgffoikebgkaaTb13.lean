/- The reference of chapter 1: In, Check, Points, Table, Length, Bound. -/
import Derived.Test.YtdmgffoikebgkaaTb05
import Derived.Maps.AppendAt
import Derived.Deep.RegionWith
import Derived.Deep.AppendLies
import Derived.Deep.RegionLaw
import Derived.Test.YtdmgffoikebgkaaTb04
import Derived.Test.YtdmgffoikebgkaaTb01
import Derived.Test.YtdmgffoikebgkaaTb07
import Derived.Test.YtdmgffoikebgkaaTb09
import Derived.Test.YtdmgffoikebgkaaTb12
namespace Go.Proofs.Ytdmgffoikebgkaa
open Go.RowKit

theorem pow_bdsN (s : Nat) (hs : s ≤ 24) : 2 ^ s ≤ 16777216 := Nat.le_trans (Nat.pow_le_pow_right (by decide) hs) (by decide)
theorem tInfo4 : (Try.prog.info? 4).map (fun i => (i.zero, i.size, i.bytes)) = some (some (.bool false), 1, 1) := by kernel_rfl
/-- bools in memory -/
structure BoolsAt (W : World) (b m : Nat) (f : Nat → Bool) : Prop where
  c : ∀ j, j < m → W.cell? ⟨b, j, none⟩ = some (.bool (f j))
  lt : b < W.heap.size
theorem BoolsAt.below {k : Nat} {W W' : World} {b m : Nat} {f : Nat → Bool} (h : BoolsAt W b m f) (hb : Below k W W') (hk : b < k) : BoolsAt W' b m f :=
  ⟨fun j hj => (hb.cell (p := ⟨b, j, none⟩) hk).trans (h.c j hj), Nat.lt_of_lt_of_le h.lt hb.size⟩
theorem BoolsAt.kept {W W' : World} {b m : Nat} {f : Nat → Bool} {row : Option Nat} (h : BoolsAt W b m f) (hg : W.grownBy W' row) (hne : some b ≠ row) : BoolsAt W' b m f :=
  ⟨fun j hj => (World.cell?_of_block (w := W) (a := ⟨b, j, none⟩) (hg.block b h.lt hne)).trans (h.c j hj), Nat.lt_of_lt_of_le h.lt hg.size⟩
def boolCells (f : Nat → Bool) (k : Nat) : List Value := (List.range k).map fun j => .bool (f j)
theorem boolCells_succ (f : Nat → Bool) (k : Nat) : boolCells f (k + 1) = boolCells f k ++ [.bool (f k)] := by simp [boolCells, List.range_succ]
theorem BoolsAt.of_row {W : World} {B m g c : Nat} {f : Nat → Bool} (h : W.ownsRow B 4 1 (.slice (some ⟨g, 0, none⟩) m c) m (boolCells f m)) : BoolsAt W g m f := by
  refine ⟨fun j hj => ?_, (h.lt g rfl).2⟩
  rw [h.cellAt j (by omega)]
  simp [boolCells, hj]
theorem half_bit (x k : Nat) : ((((x / 2 ^ k : Nat) : Int) % 2) == 1) = bitN x k := by
  have h : bitN x k = decide (x / 2 ^ k % 2 = 1) := by unfold bitN; rw [Nat.testBit_eq_decide_div_mod_eq]
  rw [h]
  generalize x / 2 ^ k = y
  by_cases e : y % 2 = 1
  · have : (y : Int) % 2 = 1 := by omega
    rw [this]; simp [e]
  · have : (y : Int) % 2 = 0 := by omega
    rw [this]; simp [e]
theorem half_div (x k : Nat) : ((x / 2 ^ k : Nat) : Int) / 2 = ((x / 2 ^ (k + 1) : Nat) : Int) := by
  rw [Nat.pow_succ, ← Nat.div_div_eq_div_mul]; omega

set_option maxHeartbeats 2000000 in
theorem Points_any (x n : Nat) (w : World) (hx : x < 16777216) (hn : n ≤ 60) :
    Calls Try.prog 136 #[.int .i64 (x : Int), .int .i64 (n : Int)] w fun e w' => ∃ b c, e = .returned (.slice (some ⟨b, 0, none⟩) n c) ∧ w.heap.size ≤ b ∧ BoolsAt w' b n (bitN x) ∧ Below w.heap.size w w' := by
  obtain ⟨i0, hi, hz0, hz1, hz2⟩ := info_parts tInfo4
  go_enter Try.func136, Try.ntmps136
  go_wp2
  go_loopw [0, 5, 6] (fun r v i wr => ∃ k g c : Nat, k ≤ n ∧ i = .int .i64 k ∧ r = .int .i64 ((x / 2 ^ k : Nat) : Int) ∧ v = .slice (some ⟨g, 0, none⟩) k c ∧ wr.ownsRow w.heap.size 4 1 (.slice (some ⟨g, 0, none⟩) k c) k (boolCells (bitN x) k) ∧ Below w.heap.size w wr) (fun _ _ i _ => n - (intOf i).toNat)
  case atStart =>
    refine ⟨0, w.heap.size, 0, Nat.zero_le _, rfl, by simp, rfl, World.ownsRow_made w #[] 0 (Nat.le_refl _) (Nat.zero_le _) rfl, (Below.refl _ _).alloc (Nat.le_refl _) _⟩
  case round =>
    obtain ⟨k, g, c, hk, rfl, rfl, rfl, hrow, hB⟩ := hrel
    by_cases hlt : k < n
    · have hbit := half_bit x k
      have hdiv := Lib.hid (half_div x k)
      obtain ⟨y, hy⟩ : ∃ y, y = x / 2 ^ k := ⟨_, rfl⟩
      have hyl : y ≤ x := by rw [hy]; exact Nat.div_le_self _ _
      rw [← hy] at hbit hdiv
      rw [← hy]
      obtain ⟨bt, hbt⟩ : ∃ bt, bt = bitN x k := ⟨_, rfl⟩
      rw [← hbt] at hbit
      have HBT := Lib.hid hbt
      have HRow := Lib.hid hrow
      have HB := Lib.hid hB
      clear hy hbt hrow hB
      go_wp2_with (at_builtin; refine Shut.out ?_)
      unfold Shut
      refine wpList_append_lies _ rfl _ _ 168 rfl w.heap.size 4 i0 (.bool false) 1 1 Try.underlying168 hi hz0 hz1 hz2 rfl (by omega) (.slice (some ⟨g, 0, none⟩) k c) k (boolCells (bitN x) k) rfl (HRow.out.alloc _) ⟨wr.heap.size, 0, none⟩ 1 1 [.bool bt] rfl rfl (World.news_of_block (cs := #[.bool bt]) (t := 4) (fr := (0, 0)) (heap_alloc_new wr _)) (by simp [Value.oneCell']) (by omega) (by unfold maxLen; omega) (by omega) (by have := HB.out.size; simp; omega) (wr.heap.size + 1) (by simp) ?_
      intro g2 cap2 w5 hown1 hgrow hat hglt
      have hrow5 : w5.ownsRow w.heap.size 4 1 (.slice (some ⟨g2, 0, none⟩) (k + 1) cap2) (k + 1) (boolCells (bitN x) (k + 1)) := by
        rw [boolCells_succ, ← HBT.out]; exact hown1
      have hB5 : Below w.heap.size w w5 := (HB.out.alloc HB.out.size _).grown hgrow (by have := HB.out.size; simp; omega) (fun j hj => (HRow.out.lt j hj).1)
      have HR5 := Lib.hid hrow5
      have HB5 := Lib.hid hB5
      clear hrow5 hB5 hown1 hgrow hat
      go_wp2
      go_roundw
      case rel => exact ⟨k + 1, g2, cap2, by omega, by go_num, by rw [← hdiv.out], rfl, HR5.out, HB5.out⟩
      case measure => simp [intOf]; omega
    · obtain rfl : k = n := by omega
      have HRow := Lib.hid hrow
      have HB := Lib.hid hB
      clear hrow hB
      go_wp2
      go_ret
      exact ⟨g, c, rfl, (HRow.out.lt g rfl).1, BoolsAt.of_row HRow.out, HB.out⟩

theorem tmod_cast' (i p : Nat) : (i : Int).tmod (p : Int) = ((i % p : Nat) : Int) := by
  rw [Int.tmod_eq_emod_of_nonneg (by omega)]; exact (Int.natCast_emod _ _).symm
theorem alike_from {m p k : Nat} (hm : 1 ≤ m) (hp : p < 2 ^ m) (h : ∀ j, j < m → bitN p j = bitN p k) : alikeB m p = true :=
  (alike_iff hm hp).2 fun j hj => (h j hj).trans (h 0 (by omega)).symm
theorem begins_not_alike {m p k : Nat} (hm : 1 ≤ m) (hp : p < 2 ^ m) (hk : k < m) (hb : begins m p k = true) : alikeB m p = false := by
  cases ha : alikeB m p with
  | false => rfl
  | true =>
    have := alike_to hm hp hk ha ((k + m - 1) % m) (Nat.mod_lt _ (by omega))
    simp [begins, this] at hb
/-- the length of the float that begins at a place; 0 if none does -/
def lenAt (m p k : Nat) : Nat := if begins m p k = true then lenF m p k else if alikeB m p = true ∧ k = 0 then 1000 else 0

set_option maxRecDepth 100000 in
set_option maxHeartbeats 4000000 in
theorem Length_no (b c m p k : Nat) (w : World) (hm1 : 1 ≤ m) (hm : m ≤ 60) (hp : p < 2 ^ m) (hk : k < m) (hB : BoolsAt w b m (bitN p)) (hbg : begins m p k = false) :
    Calls Try.prog 125 #[.slice (some ⟨b, 0, none⟩) m c, .int .i64 (k : Int)] w fun e w' => e = .returned (.int .i64 (lenAt m p k : Int)) ∧ Below w.heap.size w w' := by
  have hq : (k + m - 1) % m < m := Nat.mod_lt _ (by omega)
  have x1 := hB.c _ hq
  have x2 := hB.c k hk
  have hqe : bitN p ((k + m - 1) % m) = bitN p k := by simpa [begins] using hbg
  rw [hqe] at x1
  have hmod : ((k : Int) + (m : Int) - 1).tmod (m : Int) = (((k + m - 1) % m : Nat) : Int) := by
    rw [show (k : Int) + (m : Int) - 1 = ((k + m - 1 : Nat) : Int) by omega]; exact tmod_cast' _ _
  obtain ⟨q, hqq⟩ : ∃ q, (k + m - 1) % m = q := ⟨_, rfl⟩
  rw [hqq] at x1 hmod hq
  have hle : lenAt m p k = if alikeB m p = true ∧ k = 0 then 1000 else 0 := by unfold lenAt; rw [if_neg (by simp [hbg])]
  obtain ⟨L, hL⟩ : ∃ L, lenAt m p k = L := ⟨_, rfl⟩
  rw [hL]
  rw [hL] at hle
  have hw1 : IntKind.i64.wrap ((k : Int) + (m : Int)) = (k : Int) + (m : Int) := IntWalk.i64_in _ (by omega)
  have hw2 : IntKind.i64.wrap ((k : Int) + (m : Int) - 1) = (k : Int) + (m : Int) - 1 := IntWalk.i64_in _ (by omega)
  have hq0 : (0 : Int) ≤ (q : Int) := by omega
  have hq1 : (q : Int) < (m : Int) := by omega
  have hk0 : (0 : Int) ≤ (k : Int) := by omega
  have hk1 : (k : Int) < (m : Int) := by omega
  have hm0 : ¬ (m : Int) = 0 := by omega
  have hm0' : ¬ m = 0 := by omega
  have HB := Lib.hid hB
  have HLE := Lib.hid hle
  cases ha : alikeB m p with
  | true =>
    have hal := alike_to hm1 hp hk ha
    obtain ⟨bt, hbt⟩ : ∃ bt, bitN p k = bt := ⟨_, rfl⟩
    rw [hbt] at x1 x2 hal
    have HAL := Lib.hid hal
    have HA := Lib.hid ha
    clear hB hbg hqe hqq hL hle hal ha hbt
    by_cases hkz : k = 0
    · have hkz' : ((k : Int) == 0) = true := by simp [hkz]
      have HZ := Lib.hid hkz
      clear hkz
      go_enter Try.func125, Try.ntmps125
      go_wp2_with fail
      go_region
      all_goals clear hw1 hw2 hmod
      all_goals go_wp2_with fail
      all_goals
        (go_loopw [6] (fun i wr => ∃ i' : Nat, i' ≤ m ∧ i = .int .i64 i' ∧ Below w.heap.size w wr) (fun i _ => m - (intOf i).toNat)
         case atStart => exact ⟨0, Nat.zero_le _, rfl, (Below.refl _ _).drew⟩
         case round =>
           obtain ⟨i, hi, rfl, hBe⟩ := hrel
           have HBe := Lib.hid hBe
           have hBr := HB.out.below hBe HB.out.lt
           clear hBe
           by_cases hil : i < m
           · have y1 := hBr.c i hil
             have y2 := hBr.c k hk
             rw [HAL.out i hil] at y1
             rw [HAL.out k hk] at y2
             have hi0 : (0 : Int) ≤ (i : Int) := by omega
             have hi1 : (i : Int) < (m : Int) := by omega
             clear hBr
             go_wp2_with fail
             go_region
             all_goals go_wp2
             all_goals go_roundw
             all_goals first | (simp [intOf]; omega) | exact ⟨i + 1, by omega, by go_num, HBe.out.drew⟩
           · clear hBr
             go_wp2
             go_ret
             exact ⟨ret_int (by rw [HLE.out, if_pos ⟨HA.out, HZ.out⟩]; rfl), HBe.out⟩)
    · have hkz' : ((k : Int) == 0) = false := by rw [beq_eq_false_iff_ne]; omega
      have HZ := Lib.hid hkz
      clear hkz
      go_enter Try.func125, Try.ntmps125
      go_wp2_with fail
      go_region
      all_goals clear hw1 hw2 hmod
      all_goals go_wp2_with fail
      all_goals
        (go_loopw [6] (fun i wr => ∃ i' : Nat, i' ≤ m ∧ i = .int .i64 i' ∧ Below w.heap.size w wr) (fun i _ => m - (intOf i).toNat)
         case atStart => exact ⟨0, Nat.zero_le _, rfl, (Below.refl _ _).drew⟩
         case round =>
           obtain ⟨i, hi, rfl, hBe⟩ := hrel
           have HBe := Lib.hid hBe
           have hBr := HB.out.below hBe HB.out.lt
           clear hBe
           by_cases hil : i < m
           · have y1 := hBr.c i hil
             have y2 := hBr.c k hk
             rw [HAL.out i hil] at y1
             rw [HAL.out k hk] at y2
             have hi0 : (0 : Int) ≤ (i : Int) := by omega
             have hi1 : (i : Int) < (m : Int) := by omega
             clear hBr
             go_wp2_with fail
             go_region
             all_goals go_wp2
             all_goals go_roundw
             all_goals first | (simp [intOf]; omega) | exact ⟨i + 1, by omega, by go_num, HBe.out.drew⟩
           · clear hBr
             go_wp2
             go_ret
             exact ⟨ret_int (by rw [HLE.out, if_neg (fun h => HZ.out h.2)]; rfl), HBe.out⟩)
  | false =>
    obtain ⟨bt, hbt⟩ : ∃ bt, bitN p k = bt := ⟨_, rfl⟩
    have hno : ¬ ∀ j, j < m → bitN p j = bt := fun h => by
      have := alike_from (k := k) hm1 hp (fun j hj => by rw [hbt]; exact h j hj)
      rw [ha] at this; cases this
    rw [hbt] at x1 x2
    have HNO := Lib.hid hno
    have HBT := Lib.hid hbt
    have HA := Lib.hid ha
    clear hB hbg hqe hqq hL hle hno ha hbt
    go_enter Try.func125, Try.ntmps125
    go_wp2_with fail
    go_region
    all_goals clear hw1 hw2 hmod
    all_goals go_wp2_with fail
    all_goals
      (go_loopw [6] (fun i wr => ∃ i' : Nat, i' ≤ m ∧ i = .int .i64 i' ∧ (∀ j, j < i' → bitN p j = bt) ∧ Below w.heap.size w wr) (fun i _ => m - (intOf i).toNat)
       case atStart => exact ⟨0, Nat.zero_le _, rfl, fun j hj => by omega, (Below.refl _ _).drew⟩
       case round =>
         obtain ⟨i, hi, rfl, hok, hBe⟩ := hrel
         have HBe := Lib.hid hBe
         have HOK := Lib.hid hok
         have hBr := HB.out.below hBe HB.out.lt
         clear hBe hok
         by_cases hil : i < m
         · have y1 := hBr.c i hil
           have y2 := hBr.c k hk
           rw [HBT.out] at y2
           have hi0 : (0 : Int) ≤ (i : Int) := by omega
           have hi1 : (i : Int) < (m : Int) := by omega
           obtain ⟨bu, hbu⟩ : ∃ bu, bitN p i = bu := ⟨_, rfl⟩
           rw [hbu] at y1
           have HBU := Lib.hid hbu
           clear hBr hbu
           by_cases hbb : bu = bt
           · subst hbb
             go_wp2_with fail
             go_region
             all_goals go_wp2
             all_goals go_roundw
             all_goals first
               | (simp [intOf]; omega)
               | (refine ⟨i + 1, by omega, by go_num, fun j hj => ?_, HBe.out.drew⟩
                  by_cases e : j = i
                  · rw [e]; exact HBU.out
                  · exact HOK.out j (by omega))
           · have hbu2 : bu = !bt := by
               revert hbb
               cases bt <;> cases bu <;> simp
             subst hbu2
             clear hbb
             cases bt
             all_goals go_wp2_with fail
             all_goals go_region
             all_goals go_wp2
             all_goals go_ret
             all_goals exact ⟨ret_int (by rw [HLE.out, if_neg (fun h => by rw [HA.out] at h; simp at h)]; rfl), HBe.out.drew⟩
         · obtain rfl : i = m := by omega
           exact absurd HOK.out HNO.out)

set_option maxRecDepth 100000 in
set_option maxHeartbeats 4000000 in
theorem Length_yes (b c m p k : Nat) (w : World) (hm1 : 1 ≤ m) (hm : m ≤ 60) (_hp : p < 2 ^ m) (hk : k < m) (hB : BoolsAt w b m (bitN p)) (hbg : begins m p k = true) :
    Calls Try.prog 125 #[.slice (some ⟨b, 0, none⟩) m c, .int .i64 (k : Int)] w fun e w' => e = .returned (.int .i64 (lenAt m p k : Int)) ∧ Below w.heap.size w w' := by
  have hq : (k + m - 1) % m < m := Nat.mod_lt _ (by omega)
  have x1 := hB.c _ hq
  have x2 := hB.c k hk
  obtain ⟨⟨hl1, hl2⟩, hl3, hl4⟩ := lenF_spec (by omega) hbg hk
  have hle : lenAt m p k = lenF m p k := by unfold lenAt; rw [if_pos hbg]
  obtain ⟨L, hL⟩ : ∃ L, lenF m p k = L := ⟨_, rfl⟩
  rw [hle, hL]
  rw [hL] at hl1 hl2 hl3 hl4
  obtain ⟨bt, hbt⟩ : ∃ bt, bitN p k = bt := ⟨_, rfl⟩
  have hqe : bitN p ((k + m - 1) % m) = !bt := by
    have : (bitN p ((k + m - 1) % m) != bitN p k) = true := hbg
    rw [hbt] at this
    revert this
    cases bitN p ((k + m - 1) % m) <;> cases bt <;> simp
  have hl4' : bitN p ((k + L) % m) = !bt := by
    rw [hbt] at hl4
    revert hl4
    cases bitN p ((k + L) % m) <;> cases bt <;> simp
  rw [hqe] at x1
  rw [hbt] at x2
  have hmod : ((k : Int) + (m : Int) - 1).tmod (m : Int) = (((k + m - 1) % m : Nat) : Int) := by
    rw [show (k : Int) + (m : Int) - 1 = ((k + m - 1 : Nat) : Int) by omega]; exact tmod_cast' _ _
  obtain ⟨q, hqq⟩ : ∃ q, (k + m - 1) % m = q := ⟨_, rfl⟩
  rw [hqq] at x1 hmod hq
  have hw1 : IntKind.i64.wrap ((k : Int) + (m : Int)) = (k : Int) + (m : Int) := IntWalk.i64_in _ (by omega)
  have hw2 : IntKind.i64.wrap ((k : Int) + (m : Int) - 1) = (k : Int) + (m : Int) - 1 := IntWalk.i64_in _ (by omega)
  have hq0 : (0 : Int) ≤ (q : Int) := by omega
  have hq1 : (q : Int) < (m : Int) := by omega
  have hk0 : (0 : Int) ≤ (k : Int) := by omega
  have hk1 : (k : Int) < (m : Int) := by omega
  have hm0 : ¬ (m : Int) = 0 := by omega
  have hm0' : ¬ m = 0 := by omega
  have HB := Lib.hid hB
  have H3 := Lib.hid hl3
  have H4 := Lib.hid hl4'
  have HBT := Lib.hid hbt
  clear hB hbg hqe hqq hL hle hl3 hl4 hl4' hbt
  cases bt
  all_goals go_enter Try.func125, Try.ntmps125
  all_goals go_wp2_with fail
  all_goals go_region
  all_goals clear hw1 hw2 hmod
  all_goals go_wp2_with fail
  all_goals
    (go_loopw [7] (fun i wr => ∃ l : Nat, 1 ≤ l ∧ l ≤ L ∧ i = .int .i64 l ∧ Below w.heap.size w wr) (fun i _ => L - (intOf i).toNat)
     case atStart => exact ⟨1, Nat.le_refl _, hl1, rfl, (Below.refl _ _).drew⟩
     case round =>
       obtain ⟨l, h1, h2, rfl, hBe⟩ := hrel
       have HBe := Lib.hid hBe
       have hBr := HB.out.below hBe HB.out.lt
       clear hBe
       have hz : (k + l) % m < m := Nat.mod_lt _ (by omega)
       have y1 := hBr.c _ hz
       have y2 := hBr.c k hk
       rw [HBT.out] at y2
       have hmod : ((k : Int) + (l : Int)).tmod (m : Int) = (((k + l) % m : Nat) : Int) := by
         rw [show (k : Int) + (l : Int) = ((k + l : Nat) : Int) by omega]; exact tmod_cast' _ _
       have hw1 : IntKind.i64.wrap ((k : Int) + (l : Int)) = (k : Int) + (l : Int) := IntWalk.i64_in _ (by omega)
       by_cases hlt : l < L
       · have e := H3.out l h1 hlt
         rw [HBT.out] at e
         rw [e] at y1
         obtain ⟨z, hze⟩ : ∃ z, (k + l) % m = z := ⟨_, rfl⟩
         rw [hze] at y1 hmod hz
         have hz0 : (0 : Int) ≤ (z : Int) := by omega
         have hz1 : (z : Int) < (m : Int) := by omega
         clear e hze hBr
         go_wp2_with fail
         go_region
         all_goals clear hw1 hmod
         all_goals go_wp2
         all_goals go_roundw
         all_goals first | (simp [intOf]; omega) | exact ⟨l + 1, by omega, by omega, by go_num, HBe.out.drew⟩
       · obtain rfl : l = L := by omega
         rw [H4.out] at y1
         obtain ⟨z, hze⟩ : ∃ z, (k + l) % m = z := ⟨_, rfl⟩
         rw [hze] at y1 hmod hz
         have hz0 : (0 : Int) ≤ (z : Int) := by omega
         have hz1 : (z : Int) < (m : Int) := by omega
         clear hze hBr
         go_wp2_with fail
         go_region
         all_goals clear hw1 hmod
         all_goals go_wp2
         all_goals go_ret
         all_goals exact ⟨rfl, HBe.out.drew⟩)
theorem Length_any (b c m p k : Nat) (f : Nat → Bool) (w : World) (hm1 : 1 ≤ m) (hm : m ≤ 60) (hp : p < 2 ^ m) (hk : k < m) (hB : BoolsAt w b m f) (hf : ∀ j, j < m → f j = bitN p j) :
    Calls Try.prog 125 #[.slice (some ⟨b, 0, none⟩) m c, .int .i64 (k : Int)] w fun e w' => e = .returned (.int .i64 (lenAt m p k : Int)) ∧ Below w.heap.size w w' := by
  have hB' : BoolsAt w b m (bitN p) := ⟨fun j hj => by rw [← hf j hj]; exact hB.c j hj, hB.lt⟩
  cases hbg : begins m p k with
  | true => exact Length_yes b c m p k w hm1 hm hp hk hB' hbg
  | false => exact Length_no b c m p k w hm1 hm hp hk hB' hbg
theorem len_of_bound {s x m k : Nat} (hx : x < 2 ^ s) (h : BoundUp x s m) (hk : k < s) : lenAt s x k ≤ m := by
  unfold lenAt
  split
  · rename_i hb
    obtain ⟨⟨h1, h2⟩, h3, h4⟩ := lenF_spec (by omega) hb hk
    obtain ⟨j, hj, hne⟩ := h k hk
    rcases Nat.lt_or_ge j (lenF s x k) with hlt | hge
    · exfalso
      rcases Nat.eq_zero_or_pos j with e | e
      · subst e; rw [Nat.add_zero, Nat.mod_eq_of_lt hk] at hne; exact hne rfl
      · exact hne (h3 j e hlt)
    · omega
  · split
    · rename_i ha
      obtain ⟨ha, rfl⟩ := ha
      obtain ⟨j, hj, hne⟩ := h 0 hk
      exact absurd (alike_to (by omega) hx hk ha _ (Nat.mod_lt _ (by omega))) hne
    · omega
theorem bound_of_len {s x m : Nat} (hx : x < 2 ^ s) (hm : m < 1000) (h : ∀ k, k < s → lenAt s x k ≤ m) : BoundUp x s m := by
  intro k hk
  have hna : alikeB s x = false := by
    cases ha : alikeB s x with
    | false => rfl
    | true =>
      have h0 := h 0 (by omega)
      unfold lenAt at h0
      have hb : begins s x 0 = false := by
        cases hb : begins s x 0 with
        | false => rfl
        | true => have := begins_not_alike (by omega) hx (by omega : 0 < s) hb; rw [ha] at this; simp at this
      rw [hb, ha] at h0
      simp at h0; omega
  have key : ∀ d t k, k < s → d + t = s → m ≤ t → (∀ j, j ≤ t → bitN x ((k + j) % s) = bitN x k) → False := by
    intro d
    induction d with
    | zero =>
      intro t k hk e hmt hw
      have : alikeB s x = true := alike_from (k := k) (by omega) hx fun j hj => by
        rcases Nat.lt_or_ge j k with h1 | h1
        · have := hw (j + s - k) (by omega)
          rwa [show k + (j + s - k) = j + s by omega, Nat.add_mod_right, Nat.mod_eq_of_lt hj] at this
        · have := hw (j - k) (by omega)
          rwa [show k + (j - k) = j by omega, Nat.mod_eq_of_lt hj] at this
      rw [hna] at this; simp at this
    | succ d ih =>
      intro t k hk e hmt hw
      cases hb : begins s x k with
      | true =>
        obtain ⟨⟨h1, h2⟩, h3, h4⟩ := lenF_spec (by omega) hb hk
        have hl := h k hk
        unfold lenAt at hl
        rw [if_pos hb] at hl
        exact h4 (hw _ (by omega))
      | false =>
        have hq : bitN x ((k + s - 1) % s) = bitN x k := by simpa [begins] using hb
        refine ih (t + 1) ((k + s - 1) % s) (Nat.mod_lt _ (by omega)) (by omega) (by omega) fun j hj => ?_
        rw [Nat.mod_add_mod, hq]
        rcases Nat.eq_zero_or_pos j with e0 | e0
        · subst e0; rw [Nat.add_zero]; exact hq
        · rw [show k + s - 1 + j = k + (j - 1) + s by omega, Nat.add_mod_right]
          exact hw _ (by omega)
  refine Classical.byContradiction fun hn => ?_
  have hw : ∀ j, j ≤ m → bitN x ((k + j) % s) = bitN x k := fun j hj => Classical.byContradiction fun hne => hn ⟨j, hj, hne⟩
  rcases Nat.lt_or_ge m s with hms | hms
  · exact key (s - m) m k hk (by omega) (Nat.le_refl _) hw
  · have : alikeB s x = true := alike_from (k := k) (by omega) hx fun j hj => by
      rcases Nat.lt_or_ge j k with h1 | h1
      · have := hw (j + s - k) (by omega)
        rwa [show k + (j + s - k) = j + s by omega, Nat.add_mod_right, Nat.mod_eq_of_lt hj] at this
      · have := hw (j - k) (by omega)
        rwa [show k + (j - k) = j by omega, Nat.mod_eq_of_lt hj] at this
    rw [hna] at this; simp at this
/-- whether a row is bound -/
def BoundB (s x m : Nat) (w : World) (e : Ending) (w' : World) : Prop :=
  ∃ b : Bool, e = .returned (.bool b) ∧ (b = true ↔ BoundUp x s m) ∧ Below w.heap.size w w'

set_option maxRecDepth 100000 in
set_option maxHeartbeats 4000000 in
theorem refBound_any (s x m : Nat) (w : World) (hs1 : 1 ≤ s) (hs : s ≤ 24) (hx : x < 2 ^ s) (hm : m < 1000) :
    Calls Try.prog 60 #[.int .i64 (x : Int), .int .i64 (s : Int), .int .i64 (m : Int)] w (BoundB s x m w) := by
  have hx2 : x < 16777216 := by have := pow_bdsN s hs; omega
  have HP := Lib.hid (Points_any x s w hx2 (by omega))
  have HX := Lib.hid hx
  have HLe := Lib.hid (fun k (hk : k < s) (h : BoundUp x s m) => len_of_bound (k := k) hx h hk)
  have HOf := Lib.hid (bound_of_len (m := m) hx hm)
  clear hx
  go_enter Try.func60, Try.ntmps60
  go_wp2_with fail
  refine HP.out.mono ?_
  rintro e w1 ⟨b, c, rfl, hb1, hB1, hbl⟩
  have HBo := Lib.hid hB1
  have HBl := Lib.hid hbl
  clear hB1 hbl hb1
  go_wp2_with fail
  go_loopw [8] (fun i wr => ∃ k : Nat, k ≤ s ∧ i = .int .i64 k ∧ (∀ j, j < k → lenAt s x j ≤ m) ∧ Below w1.heap.size w1 wr) (fun i _ => s - (intOf i).toNat)
  case atStart => exact ⟨0, Nat.zero_le _, rfl, fun j hj => by omega, Below.refl _ _⟩
  case round =>
    obtain ⟨k, hk, rfl, hA, hB⟩ := hrel
    have HA := Lib.hid hA
    have HB := Lib.hid hB
    clear hA hB
    by_cases hlt : k < s
    · have HL := Lib.hid (Length_any b c s x k (bitN x) wr hs1 (by omega) HX.out hlt (HBo.out.below HB.out HBo.out.lt) (fun _ _ => rfl))
      obtain ⟨n, hn⟩ : ∃ n, n = lenAt s x k := ⟨_, rfl⟩
      rw [← hn] at HL
      have HN := Lib.hid hn
      clear hn
      by_cases hd : n ≤ m
      · have hdd : decide ((m : Int) < (n : Int)) = false := by simp; omega
        have hdd2 : decide (m < n) = false := by simp; omega
        have HA2 := Lib.hid (show ∀ j, j < k + 1 → lenAt s x j ≤ m from fun j hj => by
          by_cases e : j = k
          · rw [e, ← HN.out]; exact hd
          · exact HA.out j (by omega))
        clear hd
        go_wp2_with fail
        refine HL.out.mono ?_
        rintro e w2 ⟨rfl, hb2⟩
        have HB2 := Lib.hid (HB.out.trans (hb2.mono HB.out.size))
        clear hb2
        go_wp2_with fail
        go_roundw
        case rel => exact ⟨k + 1, by omega, by go_num, HA2.out, HB2.out⟩
        case measure => simp [intOf]; omega
      · have hdd : decide ((m : Int) < (n : Int)) = true := by simp; omega
        have hdd2 : decide (m < n) = true := by simp; omega
        have HNo := Lib.hid (show ¬ BoundUp x s m from fun h => hd (by rw [HN.out]; exact HLe.out k hlt h))
        clear hd
        go_wp2_with fail
        refine HL.out.mono ?_
        rintro e w2 ⟨rfl, hb2⟩
        have HB2 := Lib.hid (HB.out.trans (hb2.mono HB.out.size))
        clear hb2
        go_wp2_with fail
        go_ret
        exact ⟨false, rfl, by simpa using HNo.out, HBl.out.trans (HB2.out.mono HBl.out.size)⟩
    · have HYes := Lib.hid (show BoundUp x s m from HOf.out (fun j hj => HA.out j (by omega)))
      go_wp2_with fail
      go_ret
      exact ⟨true, rfl, by simpa using HYes.out, HBl.out.trans (HB.out.mono HBl.out.size)⟩
end Go.Proofs.Ytdmgffoikebgkaa
/- Harness ties: the row of a window, and the longest float of a bound row. -/
namespace Go.Proofs.Ytdmgffoikebgkaa
open Go.RowKit Go.Shelf
attribute [local go_sem] Oper.semAt_some

/-- the row of the hooks of so many warps from one on -/
def winN (hs : List Nat) (f : Nat) : Nat → Nat
  | 0 => 0
  | k + 1 => winN hs f k ||| 2 ^ aroundN hs ((f : Int) + (k : Int))
theorem around_lt {hs : List Nat} {n : Nat} (hk : ∀ i, i < hs.length → nthN hs i < n) (h0 : 0 < hs.length) (z : Int) : aroundN hs z < n := hk _ (Nat.mod_lt _ h0)
theorem winN_lt (hs : List Nat) (f : Nat) {n : Nat} (hk : ∀ i, i < hs.length → nthN hs i < n) (hn : n ≤ 24) (h0 : 0 < hs.length) : ∀ k, winN hs f k < 2 ^ 24
  | 0 => by simp [winN]
  | k + 1 => Nat.or_lt_two_pow (winN_lt hs f hk hn h0 k) (Nat.pow_lt_pow_right (by decide) (Nat.lt_of_lt_of_le (around_lt hk h0 _) hn))
theorem winN_ltn (hs : List Nat) (f : Nat) {n : Nat} (hk : ∀ i, i < hs.length → nthN hs i < n) (h0 : 0 < hs.length) : ∀ k, winN hs f k < 2 ^ n
  | 0 => by rw [winN]; exact Nat.pow_pos (by decide)
  | k + 1 => Nat.or_lt_two_pow (winN_ltn hs f hk h0 k) (Nat.pow_lt_pow_right (by decide) (around_lt hk h0 _))
set_option maxRecDepth 100000 in
set_option maxHeartbeats 1000000 in
theorem tieWindow_any (n b off c f len : Nat) (hs : List Nat) (w : World) (hv : TAt w b off n hs) (hf : f ≤ 1000) (hlen : len ≤ 1000) :
    Calls Try.prog 187 #[.agg #[.int .i64 (n : Int), .slice (some ⟨b, off, none⟩) hs.length c], .int .i64 (f : Int), .int .i64 (len : Int)] w fun e w' => e = .returned (.int .i64 (winN hs f len : Int)) ∧ Below w.heap.size w w' := by
  have l0 := hv.l0
  have l1 := hv.l1
  obtain ⟨w0, hw0⟩ : ∃ w0, w0 = w.alloc (.cells #[.int .i64 (n : Int), .slice (some ⟨b, off, none⟩) hs.length c] 159) := ⟨_, rfl⟩
  have hb0 : Below w.heap.size w w0 := by rw [hw0]; exact (Below.refl _ _).alloc (Nat.le_refl _) _
  have hbx : BoxAt w0 w.heap.size #[.int .i64 (n : Int), .slice (some ⟨b, off, none⟩) hs.length c] 159 := by rw [hw0]; exact BoxAt.new _ _ _
  have HV := Lib.hid hv
  have HW0 := Lib.hid hw0
  have HB := Lib.hid hbx
  have Hb0 := Lib.hid hb0
  clear hv hw0 hbx hb0
  go_enter Try.func187, Try.ntmps187
  go_wp2_with fail
  rw [← HW0.out]
  go_loopw [10, 7] (fun i r wr => ∃ k : Nat, k ≤ len ∧ i = .int .i64 k ∧ r = .int .i64 (winN hs f k : Int) ∧ Below w0.heap.size w0 wr) (fun i _ _ => len - (intOf i).toNat)
  case atStart => exact ⟨0, Nat.zero_le _, rfl, rfl, Below.refl _ _⟩
  case round =>
    obtain ⟨k, hk, rfl, rfl, hbw⟩ := hrel
    by_cases hlt : k < len
    · have hltI : (k : Int) < (len : Int) := by omega
      have hB := HB.out.next hbw
      have x0 := hB.cell' 0 rfl
      have x1 := hB.cell' 1 rfl
      have hvw := HV.out.next (Hb0.out.trans (hbw.mono Hb0.out.size))
      have H175 := Lib.hid (tieAround_any n b off c hs ((f : Int) + (k : Int)) wr hvw.at' hvw.lt (by omega) (by omega) (by omega) (by omega))
      have Hbw := Lib.hid hbw
      clear hbw hB hvw
      go_wp2_with fail
      refine H175.out.mono ?_
      rintro e W1 ⟨rfl, hb1⟩
      have hal : aroundN hs ((f : Int) + (k : Int)) < 24 := Nat.lt_of_lt_of_le (around_lt HV.out.hk (by omega) _) HV.out.n1
      have hwl := winN_lt hs f HV.out.hk HV.out.n1 (by omega) k
      obtain ⟨a, ha⟩ : ∃ a, aroundN hs ((f : Int) + (k : Int)) = a := ⟨_, rfl⟩
      obtain ⟨r, hr⟩ : ∃ r, winN hs f k = r := ⟨_, rfl⟩
      have hst : winN hs f (k + 1) = r ||| 2 ^ a := by rw [winN, ha, hr]
      rw [ha] at hal ⊢
      rw [hr] at hwl ⊢
      have Hst := Lib.hid hst
      clear ha hr hst
      go_wp2_with fail
      have h2 : (2 : Int) ^ a < 16777216 := by
        have : 2 ^ a < 2 ^ 24 := Nat.pow_lt_pow_right (by decide) hal
        have h3 : ((2 ^ a : Nat) : Int) < 16777216 := by omega
        simpa using h3
      have h1 : (0 : Int) ≤ 2 ^ a := Int.pow_nonneg (by decide)
      have hor : bits BinOp.or IntKind.i64 (r : Int) (wrap64 (2 ^ a)) = ((r ||| 2 ^ a : Nat) : Int) := by
        rw [wrap64_in _ ⟨by omega, by omega⟩]
        exact or_step r a (by omega) hal
      exact ⟨⟨k + 1, by omega, by go_num, by rw [hor, Hst.out], Hbw.out.trans (hb1.mono Hbw.out.size)⟩, by simp [intOf]; omega⟩
    · obtain rfl : len = k := by omega
      have hltI : ¬ (len : Int) < (len : Int) := by omega
      have Hbw := Lib.hid (Hb0.out.trans (hbw.mono Hb0.out.size))
      clear hbw
      go_wp2_with fail
      go_ret
      exact ⟨rfl, Hbw.out⟩
end Go.Proofs.Ytdmgffoikebgkaa
/- Harness ties: a bound row that lifts some hooks. -/
namespace Go.Proofs.Ytdmgffoikebgkaa
open Go.RowKit Go.Shelf
attribute [local go_sem] Oper.semAt_some

/-- a bound row that lifts some hooks -/
def lifN (n m p : Nat) : Nat := bindN n p p m
def LifR (n m p : Nat) (e : Ending) : Prop := (lifN n m p < never ∧ e = .returned (.tuple #[.int .i64 (lifN n m p % change : Nat), .bool true])) ∨ (lifN n m p = never ∧ e = .returned (.tuple #[.int .i64 0, .bool false]))
set_option maxRecDepth 100000 in
set_option maxHeartbeats 1000000 in
theorem tieLift_any (n m p E Mb : Nat) (w : World) (h0 : 1 ≤ n) (h1 : n ≤ 24) (hm1 : 1 ≤ m) (hm2 : m ≤ 24) (hp : p < 2 ^ n) (hE : w.cell? ⟨E, 0, none⟩ = some (.int .i64 (n : Int))) (hM : w.cell? ⟨Mb, 0, none⟩ = some (.int .i64 (m : Int))) :
    Calls Try.prog 135 #[.int .i64 (p : Int), .pointer (some ⟨E, 0, none⟩), .pointer (some ⟨Mb, 0, none⟩)] w fun e w' => LifR n m p e ∧ Below w.heap.size w w' := by
  have hEl := World.block_lt_of_cell? w ⟨E, 0, none⟩ hE
  have hMl := World.block_lt_of_cell? w ⟨Mb, 0, none⟩ hM
  obtain ⟨w1, hw1⟩ : ∃ w1, w1 = w.alloc (.cells #[.int .i64 (p : Int)] 3) := ⟨_, rfl⟩
  obtain ⟨w2, hw2⟩ : ∃ w2, w2 = w1.alloc (.cells #[.int .i64 (p : Int)] 3) := ⟨_, rfl⟩
  have hb1 : Below w.heap.size w w1 := by rw [hw1]; exact (Below.refl _ _).alloc (Nat.le_refl _) _
  have hb2 : Below w1.heap.size w1 w2 := by rw [hw2]; exact (Below.refl _ _).alloc (Nat.le_refl _) _
  have hs1 : w1.heap.size = w.heap.size + 1 := by rw [hw1]; simp
  have hx1 : BoxAt w1 w.heap.size #[.int .i64 (p : Int)] 3 := by rw [hw1]; exact BoxAt.new _ _ _
  have hx2 : BoxAt w2 w1.heap.size #[.int .i64 (p : Int)] 3 := by rw [hw2]; exact BoxAt.new _ _ _
  have hn1 : NatsAt w2 w.heap.size 0 [p] := fun i hi => by
    obtain rfl : i = 0 := by simpa using hi
    exact (hx1.next hb2).cell' 0 rfl
  have hn2 : NatsAt w2 w1.heap.size 0 [p] := fun i hi => by
    obtain rfl : i = 0 := by simpa using hi
    exact hx2.cell' 0 rfl
  have hs2 : w2.heap.size = w.heap.size + 2 := by rw [hw2]; simp [hs1]
  have hpp : ∀ i, nthN [p] i < 2 ^ n := fun i => by
    cases i with
    | zero => exact hp
    | succ i => exact Nat.pow_pos (by decide)
  have hv : VAt w2 w.heap.size 0 1 n [p] := ⟨hn1, by omega, ⟨h0, h1, by simp, by simp, hpp⟩⟩
  have HM2 : w1.cell? ⟨Mb, 0, none⟩ = some (.int .i64 (m : Int)) := (hb1.cell (p := ⟨Mb, 0, none⟩) hMl).trans hM
  have HM3 : w2.cell? ⟨Mb, 0, none⟩ = some (.int .i64 (m : Int)) := (hb2.cell (p := ⟨Mb, 0, none⟩) (by simp; simp at hMl; omega)).trans HM2
  have hbb := hb1.trans (hb2.mono hb1.size)
  have HW1 := Lib.hid hw1
  have HW2 := Lib.hid hw2
  have HS1 := Lib.hid hs1
  have HBb := Lib.hid hbb
  by_cases hl : lifN n m p < never
  · have hB := Bind_ok n w.heap.size 0 1 w1.heap.size 0 1 m [p] [p] w2 hv rfl hn2 (by omega) hpp hm1 hm2 (fun i hi => by
      obtain rfl : i = 0 := by simpa using hi
      exact hl)
    rw [hs1] at hB
    have HB := Lib.hid hB
    have Hl := Lib.hid hl
    have hzb := bindRows_nth (n := n) (m := m) (ys := [p]) (ks := [p]) (N := 1) (i := 0) (by omega)
    have hzl := bindRows_len n m [p] [p] 1
    obtain ⟨ZS, hZS⟩ : ∃ ZS, bindRows n m [p] [p] 1 = ZS := ⟨_, rfl⟩
    obtain ⟨z, hz⟩ : ∃ z, lifN n m p % change = z := ⟨_, rfl⟩
    rw [hZS] at hzb hzl
    have hz0 : nthN ZS 0 = z := hzb.trans hz
    have HZ := Lib.hid hz
    have HZS := Lib.hid hZS
    have HZ0 := Lib.hid hz0
    have HZL := Lib.hid hzl
    clear hw1 hw2 hb1 hb2 hs1 hx1 hx2 hn1 hn2 hs2 hpp hv hbb hl HM2 hB hz hZS hz0 hzl hzb
    go_enter Try.func135, Try.ntmps135
    go_wp2_with fail
    rw [← HW1.out, ← HW2.out]
    refine HB.out.mono ?_
    rintro e w3 ⟨v, rfl, hr, hb3⟩
    have hr2 : w3.ownsRow w2.heap.size 3 1 v 1 (ZS.map natV) := by rw [← HZS.out]; exact hr
    obtain ⟨g, cap, rfl⟩ := row_slice hr2 (by omega)
    obtain ⟨a, b, d⟩ := nats_of_row (xs := ZS) hr2 (by omega)
    have g0 := a 0 (by rw [HZL.out]; omega)
    rw [HZ0.out] at g0
    have Hb3 := Lib.hid (HBb.out.trans (hb3.mono HBb.out.size))
    have hgl : g < w3.heap.size := b
    clear hr hr2 hb3 a b d HM3 HB
    go_wp2_with fail
    go_ret2
    exact ⟨.inl ⟨Hl.out, by rw [HZ.out]; rfl⟩, Hb3.out.trans (((Below.refl _ _).alloc (Nat.le_refl _) _).mono Hb3.out.size)⟩
  · have hle := bindN_le n p p m
    have hnv : lifN n m p = never := Nat.le_antisymm hle (by omega)
    have hB := Bind_nev 0 n w.heap.size 0 1 w1.heap.size 0 1 m [p] [p] w2 hv rfl hn2 (by omega) hpp hm1 hm2 (by simp) (fun i hi => by omega) hnv
    rw [hs1] at hB
    have HB := Lib.hid hB
    have Hl := Lib.hid hnv
    clear hw1 hw2 hb1 hb2 hs1 hx1 hx2 hn1 hn2 hs2 hpp hv hbb hl HM2 hB hle hnv
    go_enter Try.func135, Try.ntmps135
    go_wp2_with fail
    rw [← HW1.out, ← HW2.out]
    refine HB.out.mono ?_
    rintro e w3 ⟨rfl, hb3⟩
    have Hb3 := Lib.hid (HBb.out.trans (hb3.mono HBb.out.size))
    clear hb3 HM3 HB
    go_wp2_with fail
    go_ret2
    exact ⟨.inr ⟨Hl.out, rfl⟩, Hb3.out.trans (((Below.refl _ _).alloc (Nat.le_refl _) _).mono Hb3.out.size)⟩
/-- some bound row lifts these hooks -/
def Lifts (n m q : Nat) : Prop := ∃ x, x < 2 ^ n ∧ BoundUp x n m ∧ ∀ j, j < n → bitN q j = true → bitN x j = true
theorem lif_iff {n m q : Nat} (h0 : 1 ≤ n) (h1 : n ≤ 24) : lifN n m q < never ↔ Lifts n m q := by
  constructor
  · intro h
    obtain ⟨x, hx, ⟨hc, hb⟩, _⟩ := bindN_is_row h1 h
    refine ⟨x, hx, hb, fun j hj hq => ?_⟩
    refine Classical.byContradiction fun hne => ?_
    have := (con_zero n).1 hc j hj (by rw [hq]; exact fun e => hne e.symm)
    rw [hq] at this
    cases this
  · rintro ⟨x, hx, hb, hl⟩
    have h2 := bindN_le_row (p := q) (f := q) (m := m) h0 h1 hx ⟨(con_zero n).2 fun j hj hne => by
      cases hq : bitN q j with
      | false => rfl
      | true => rw [hq, hl j hj hq] at hne; exact absurd rfl hne, hb⟩
    have h3 := ham_le q x n
    have h4 : 2 ^ n ≤ 2 ^ 24 := Nat.pow_le_pow_right (by decide) h1
    unfold lifN
    unfold never change at *
    omega
theorem lif_less {hs : List Nat} {n m i l : Nat} (h : Lifts n m (winN hs i (l + 1))) : Lifts n m (winN hs i l) := by
  obtain ⟨x, hx, hb, hl⟩ := h
  refine ⟨x, hx, hb, fun j hj hq => hl j hj ?_⟩
  unfold bitN at hq ⊢
  rw [winN, Nat.testBit_or, hq]; rfl
/-- the longest window so far -/
structure WoR (hs : List Nat) (n m k lo row : Nat) : Prop where
  le : lo ≤ hs.length
  no : ∀ i, i < k → lo < hs.length → ¬ Lifts n m (winN hs i (lo + 1))
  got : lo ≠ 0 → ∃ i, i < hs.length ∧ lifN n m (winN hs i lo) < never ∧ row = lifN n m (winN hs i lo) % change
  z : lo = 0 → row = 0
theorem WoR.start (hs : List Nat) (n m : Nat) : WoR hs n m 0 0 0 := ⟨Nat.zero_le _, fun i hi => by omega, fun h => absurd rfl h, fun _ => rfl⟩
theorem WoR.more {hs : List Nat} {n m k lo row : Nat} (h : WoR hs n m k lo row) (h0 : 1 ≤ n) (h1 : n ≤ 24) (hk : k < hs.length) (hl : lo < hs.length) (hy : lifN n m (winN hs k (lo + 1)) < never) : WoR hs n m k (lo + 1) (lifN n m (winN hs k (lo + 1)) % change) :=
  ⟨hl, fun i hi _ hL => h.no i hi hl (lif_less hL), fun _ => ⟨k, hk, hy, rfl⟩, fun e => by omega⟩
theorem WoR.stop {hs : List Nat} {n m k lo row : Nat} (h : WoR hs n m k lo row) (h0 : 1 ≤ n) (h1 : n ≤ 24) (hy : lo < hs.length → lifN n m (winN hs k (lo + 1)) = never) : WoR hs n m (k + 1) lo row :=
  ⟨h.le, fun i hi hl hL => by
    by_cases e : i = k
    · subst e
      have := (lif_iff h0 h1).2 hL
      rw [hy hl] at this
      exact absurd this (Nat.lt_irrefl _)
    · exact h.no i (by omega) hl hL, h.got, h.z⟩
end Go.Proofs.Ytdmgffoikebgkaa
/- Harness ties: the longest float of a bound row. -/
namespace Go.Proofs.Ytdmgffoikebgkaa
open Go.RowKit Go.Shelf
attribute [local go_sem] Oper.semAt_some

set_option maxRecDepth 100000 in
set_option maxHeartbeats 2000000 in
theorem tieWorst_any (n b off c m E Mb : Nat) (hs : List Nat) (w : World) (hv : TAt w b off n hs) (hm1 : 1 ≤ m) (hm2 : m ≤ 24) (hE : w.cell? ⟨E, 0, none⟩ = some (.int .i64 (n : Int))) (hM : w.cell? ⟨Mb, 0, none⟩ = some (.int .i64 (m : Int))) :
    Calls Try.prog 134 #[.agg #[.int .i64 (n : Int), .slice (some ⟨b, off, none⟩) hs.length c], .func (.func 135) #[] #[.pointer (some ⟨E, 0, none⟩), .pointer (some ⟨Mb, 0, none⟩)]] w fun e w' =>
      (∃ lo row, WoR hs n m hs.length lo row ∧ e = .returned (.tuple #[.int .i64 ((if lo = hs.length then 1000 else lo : Nat) : Int), .int .i64 (row : Int)])) ∧ Below w.heap.size w w' := by
  have l0 := hv.l0
  have l1 := hv.l1
  have hEl := World.block_lt_of_cell? w ⟨E, 0, none⟩ hE
  have hMl := World.block_lt_of_cell? w ⟨Mb, 0, none⟩ hM
  obtain ⟨w0, hw0⟩ : ∃ w0, w0 = w.alloc (.cells #[.int .i64 (n : Int), .slice (some ⟨b, off, none⟩) hs.length c] 159) := ⟨_, rfl⟩
  have hb0 : Below w.heap.size w w0 := by rw [hw0]; exact (Below.refl _ _).alloc (Nat.le_refl _) _
  have hbx : BoxAt w0 w.heap.size #[.int .i64 (n : Int), .slice (some ⟨b, off, none⟩) hs.length c] 159 := by rw [hw0]; exact BoxAt.new _ _ _
  have x1 := hbx.cell' 1 rfl
  have HV := Lib.hid hv
  have HW0 := Lib.hid hw0
  have HB := Lib.hid hbx
  have Hb0 := Lib.hid hb0
  have HE := Lib.hid hE
  have HM := Lib.hid hM
  clear hv hw0 hbx hb0 hE hM
  go_enter Try.func134, Try.ntmps134
  go_wp2_with fail
  rw [← HW0.out]
  go_wp2_with fail
  go_loopw [13, 4, 5] (fun i lo row wr => ∃ k l r : Nat, k ≤ hs.length ∧ i = .int .i64 k ∧ lo = .int .i64 l ∧ row = .int .i64 r ∧ WoR hs n m k l r ∧ Below w0.heap.size w0 wr) (fun i _ _ _ => hs.length - (intOf i).toNat)
  case atStart => exact ⟨0, 0, 0, Nat.zero_le _, rfl, rfl, rfl, WoR.start _ _ _, Below.refl _ _⟩
  case round =>
    obtain ⟨k, l, r, hk, rfl, rfl, rfl, hR, hbw⟩ := hrel
    by_cases hlt : k < hs.length
    · have hltI : (k : Int) < (hs.length : Int) := by omega
      have HR := Lib.hid hR
      have Hbw := Lib.hid hbw
      clear hR hbw x1
      go_wp2_with fail
      go_loopw [4, 5] (fun lo row wr => ∃ l r : Nat, lo = .int .i64 l ∧ row = .int .i64 r ∧ WoR hs n m k l r ∧ Below w0.heap.size w0 wr) (fun lo _ _ => hs.length - (intOf lo).toNat)
      case atStart => exact ⟨l, r, rfl, rfl, HR.out, Hbw.out⟩
      case round =>
        obtain ⟨l, r, rfl, rfl, hR, hbw⟩ := hrel
        have hB := HB.out.next hbw
        have x0 := hB.cell' 0 rfl
        have x1 := hB.cell' 1 rfl
        have hle := hR.le
        by_cases hl : l < hs.length
        · have hlI : (l : Int) < (hs.length : Int) := by omega
          have hbww := Hb0.out.trans (hbw.mono Hb0.out.size)
          have H187 := Lib.hid (tieWindow_any n b off c k (l + 1) hs wr (HV.out.next hbww) (by omega) (by omega))
          have HR := Lib.hid hR
          have Hbw := Lib.hid hbw
          have Hbww := Lib.hid hbww
          have hl1I : ((l + 1 : Nat) : Int) = (l : Int) + 1 := by omega
          rw [hl1I] at H187
          clear hR hbw hbww hB
          go_wp2_with fail
          refine H187.out.mono ?_
          rintro e W1 ⟨rfl, hb1⟩
          have hb1w := Hbww.out.trans (hb1.mono Hbww.out.size)
          have hq : winN hs k (l + 1) < 2 ^ n := winN_ltn hs k HV.out.hk (by omega) _
          have H135 := Lib.hid (tieLift_any n m (winN hs k (l + 1)) E Mb W1 HV.out.n0 HV.out.n1 hm1 hm2 hq ((hb1w.cell (p := ⟨E, 0, none⟩) hEl).trans HE.out) ((hb1w.cell (p := ⟨Mb, 0, none⟩) hMl).trans HM.out))
          have Hb1 := Lib.hid (Hbw.out.trans (hb1.mono Hbw.out.size))
          clear hb1 hb1w hq H187 x0 x1
          go_wp2_with fail
          refine H135.out.mono ?_
          rintro e W2 ⟨hres, hb2⟩
          have Hb2 := Lib.hid (Hb1.out.trans (hb2.mono Hb1.out.size))
          clear hb2 H135
          rcases hres with ⟨hy, rfl⟩ | ⟨hy, rfl⟩
          · have HR2 := Lib.hid (HR.out.more HV.out.n0 HV.out.n1 hlt hl hy)
            clear hy
            go_wp2_with fail
            go_roundw
            case rel => exact ⟨l + 1, _, by go_num, rfl, HR2.out, Hb2.out⟩
            case measure => simp [intOf]; omega
          · have HR2 := Lib.hid (HR.out.stop HV.out.n0 HV.out.n1 (fun _ => hy))
            clear hy
            go_wp2_with fail
            go_roundw
            case rel => exact ⟨k + 1, l, r, by omega, by go_num, rfl, rfl, HR2.out, Hb2.out⟩
            case measure => simp [intOf]; omega
        · have HR2 := Lib.hid (hR.stop HV.out.n0 HV.out.n1 (fun h => absurd h hl))
          have Hbw := Lib.hid hbw
          have hlI : ¬ (l : Int) < (hs.length : Int) := by omega
          clear hR hbw hB
          go_wp2_with fail
          go_roundw
          case rel => exact ⟨k + 1, l, r, by omega, by go_num, rfl, rfl, HR2.out, Hbw.out⟩
          case measure => simp [intOf]; omega
    · obtain rfl : hs.length = k := by omega
      have x1 := (HB.out.next hbw).cell' 1 rfl
      have Hbw := Lib.hid (Hb0.out.trans (hbw.mono Hb0.out.size))
      have hltI : ¬ (hs.length : Int) < (hs.length : Int) := by omega
      have HR := Lib.hid hR
      clear hR hbw
      by_cases hl : l = hs.length
      · have hlI : (l : Int) = (hs.length : Int) := by omega
        have hle : ((l : Int) == (hs.length : Int)) = true := by rw [hlI]; simp
        have Hl := Lib.hid hl
        clear hl hlI
        go_wp2_with fail
        go_ret2
        exact ⟨⟨l, r, HR.out, by rw [if_pos Hl.out]; rfl⟩, Hbw.out⟩
      · have hle : ((l : Int) == (hs.length : Int)) = false := by rw [beq_eq_false_iff_ne]; omega
        have Hl := Lib.hid hl
        clear hl
        go_wp2_with fail
        go_ret2
        exact ⟨⟨l, r, HR.out, by rw [if_neg Hl.out]; rfl⟩, Hbw.out⟩
end Go.Proofs.Ytdmgffoikebgkaa
/- Harness ties: Worst. -/
namespace Go.Proofs.Ytdmgffoikebgkaa
open Go.RowKit Go.Shelf
attribute [local go_sem] Oper.semAt_some

def WorstR (hs : List Nat) (n m : Nat) (e : Ending) : Prop := ∃ lo row, WoR hs n m hs.length lo row ∧
  ((lo = 0 ∧ e = .returned (.tuple #[.int .i64 0, .int .i64 0, .int .i64 9])) ∨ (lo ≠ 0 ∧ e = .returned (.tuple #[.int .i64 ((if lo = hs.length then 1000 else lo : Nat) : Int), .int .i64 (row : Int), .int .i64 0])))
set_option maxRecDepth 100000 in
set_option maxHeartbeats 2000000 in
theorem Worst_ok (n b off c m : Nat) (hs : List Nat) (w : World) (hv : TAt w b off n hs) (hm1 : 1 ≤ m) (hm2 : m ≤ 24) :
    Calls Try.prog 58 #[.agg #[.int .i64 (n : Int), .slice (some ⟨b, off, none⟩) hs.length c], .int .i64 (m : Int)] w fun e w' => WorstR hs n m e ∧ Below w.heap.size w w' := by
  have l0 := hv.l0
  have l1 := hv.l1
  obtain ⟨w0, hw0⟩ : ∃ w0, w0 = (w.alloc (.cells #[.int .i64 (n : Int), .slice (some ⟨b, off, none⟩) hs.length c] 26)).alloc (.cells #[.int .i64 (m : Int)] 3) := ⟨_, rfl⟩
  have hb0 : Below w.heap.size w w0 := by rw [hw0]; exact ((Below.refl _ _).alloc (Nat.le_refl _) _).alloc (by simp) _
  have s0 : w0.heap.size = w.heap.size + 2 := by rw [hw0]; simp
  have e0 : BoxAt w0 w.heap.size #[.int .i64 (n : Int), .slice (some ⟨b, off, none⟩) hs.length c] 26 := by rw [hw0]; exact (BoxAt.new _ _ _).next ((Below.refl _ _).alloc (Nat.le_refl _) _)
  have e1 : BoxAt w0 (w.heap.size + 1) #[.int .i64 (m : Int)] 3 := by
    have := BoxAt.new (w.alloc (.cells #[.int .i64 (n : Int), .slice (some ⟨b, off, none⟩) hs.length c] 26)) #[.int .i64 (m : Int)] 3
    rw [World.size_alloc] at this
    rw [hw0]; exact this
  have HCk := Lib.hid (tieCheck_ok n b off c hs w0 (hv.next hb0))
  have a0 := e0.cell' 0 rfl
  have a1 := e0.cell' 1 rfl
  have HW0 := Lib.hid hw0
  have HV := Lib.hid hv
  have Hb0 := Lib.hid hb0
  have E0 := Lib.hid e0
  have E1 := Lib.hid e1
  clear hw0 hv hb0 e0 e1
  go_enter Try.func58, Try.ntmps58
  go_wp2_with fail
  rw [← HW0.out]
  refine HCk.out.mono ?_
  rintro e w1 ⟨rfl, hb1⟩
  have c0 := (E1.out.next hb1).cell' 0 rfl
  have Hb1 := Lib.hid (Hb0.out.trans (hb1.mono Hb0.out.size))
  have E0 := Lib.hid (E0.out.next hb1)
  have E1 := Lib.hid (E1.out.next hb1)
  have hs1 : w.heap.size + 2 ≤ w1.heap.size := by have := hb1.size; omega
  clear hb1 a0 a1 HCk HW0 s0
  obtain ⟨w2, hw2⟩ : ∃ w2, w2 = w1.alloc (.cells #[.int .i64 (m : Int)] 3) := ⟨_, rfl⟩
  have hb2 : Below w1.heap.size w1 w2 := by rw [hw2]; exact (Below.refl _ _).alloc (Nat.le_refl _) _
  have HA := Lib.hid (areFrom_one 1 24 w1.heap.size 0 1 m w2 (by rw [hw2]; simp) (by omega) (by omega))
  have HW2 := Lib.hid hw2
  have E0' := Lib.hid (E0.out.next hb2)
  have E1' := Lib.hid (E1.out.next hb2)
  have Hb2 := Lib.hid (Hb1.out.trans (hb2.mono Hb1.out.size))
  have a0 := E0'.out.cell' 0 rfl
  have a1 := E0'.out.cell' 1 rfl
  have d0 := E1'.out.cell' 0 rfl
  have HWo := Lib.hid (tieWorst_any n b off c m w.heap.size (w.heap.size + 1) hs w2 (HV.out.next Hb2.out) hm1 hm2 a0 d0)
  clear hw2 hb2 d0
  go_wp2_with fail
  rw [← HW2.out]
  refine HA.out.mono ?_
  rintro e w' ⟨rfl, rfl⟩
  go_wp2_with fail
  refine HWo.out.mono ?_
  rintro e w3 ⟨⟨lo, row, hR, rfl⟩, hb3⟩
  have Hb3 := Lib.hid (Hb2.out.trans (hb3.mono Hb2.out.size))
  have HR := Lib.hid hR
  have hl1 := hR.le
  obtain ⟨z, hz⟩ : ∃ z, (if lo = hs.length then 1000 else lo) = z := ⟨_, rfl⟩
  rw [hz]
  have HZ := Lib.hid hz
  by_cases hl : lo = 0
  · have hz0 : z = 0 := by rw [← hz, if_neg (by omega), hl]
    subst hz0
    have Hl := Lib.hid hl
    clear hz hl hR hb3 a0 a1 c0
    go_wp2_with fail
    go_ret3
    exact ⟨⟨lo, row, HR.out, .inl ⟨Hl.out, rfl⟩⟩, Hb3.out⟩
  · have hz0 : ((z : Int) == 0) = false := by
      rw [beq_eq_false_iff_ne]
      have : z ≠ 0 := by rw [← hz]; split <;> omega
      omega
    have Hl := Lib.hid hl
    clear hz hl hR hb3 a0 a1 c0
    go_wp2_with fail
    go_ret3
    exact ⟨⟨lo, row, HR.out, .inr ⟨Hl.out, by rw [HZ.out]; rfl⟩⟩, Hb3.out⟩
end Go.Proofs.Ytdmgffoikebgkaa
/- known of chapter 3: its values, and the contracts that its walk uses. -/
namespace Go.Proofs.Ytdmgffoikebgkaa
open Go.RowKit Go.Shelf
attribute [local go_sem] Oper.semAt_some

theorem ex_grp : grpL 3 2 1 = exHs := by decide +kernel
theorem exS1 : StrB ⟨#[120, 46, 46, 46, 46, 46]⟩ 6 1 := ⟨rfl, by decide, by decide, by decide, by decide +kernel⟩
theorem exS2 : StrB ⟨#[46, 120, 120, 46, 120, 120]⟩ 6 54 := ⟨rfl, by decide, by decide, by decide, by decide +kernel⟩
theorem exS3 : StrB ⟨#[120, 46, 46, 46, 46, 120]⟩ 6 33 := ⟨rfl, by decide, by decide, by decide, by decide +kernel⟩
theorem exS4 : StrB ⟨#[120, 46, 46, 120]⟩ 4 9 := ⟨rfl, by decide, by decide, by decide, by decide +kernel⟩
theorem exS5 : StrB ⟨#[120, 120, 46, 120]⟩ 4 11 := ⟨rfl, by decide, by decide, by decide, by decide +kernel⟩
theorem cl_one {W : World} {B n p : Nat} {s : ByteArray} {t : TypeId} (h : BoxAt W B #[.string s] t) (hs : StrB s n p) : ClAt W B 0 n [p] :=
  ⟨fun i hi => by
    obtain rfl : i = 0 := by simpa using hi
    exact ⟨s, hs, h.cell' 0 rfl⟩, h.lt⟩
theorem cl_two {W : World} {B n p q : Nat} {s u : ByteArray} {t : TypeId} (h : BoxAt W B #[.string s, .string u] t) (hs : StrB s n p) (hu : StrB u n q) : ClAt W B 0 n [p, q] :=
  ⟨fun i hi => by
    have : i = 0 ∨ i = 1 := by simp at hi; omega
    rcases this with rfl | rfl
    · exact ⟨s, hs, h.cell' 0 rfl⟩
    · exact ⟨u, hu, h.cell' 1 rfl⟩, h.lt⟩
theorem exTA {W : World} {b : Nat} (h : NatsAt W b 0 exHs) (hb : b < W.heap.size) : TAt W b 0 4 exHs := ⟨h, hb, by decide, by decide, by decide, by decide, exHs_nth⟩
theorem ex_nopart : NoPart exHs [1, 54] := by
  have h : ∀ p, p < 2 → ∀ w, w < 6 → bitN (nthN [1, 54] p) w = bitN (nthN [1, 54] p) (fstI (nthN exHs) w) := by decide +kernel
  exact fun p w hp hw => h p hp w hw
theorem ex_unw : dsnL exHs [1, 54] = [1, 6] := by decide +kernel
theorem ex_part : PartAt exHs [33] 0 5 := by
  refine ⟨by decide, by decide, ?_, ?_, fun _ _ h => by omega⟩
  · unfold Like2; decide +kernel
  · have h : ∀ w, w < 5 → bitN (nthN [33] 0) w = bitN (nthN [33] 0) (fstI (nthN exHs) w) := by decide +kernel
    exact fun w hw => h w hw
theorem ex_fst : fstI (nthN exHs) 5 = 1 := by decide +kernel
theorem ex_cnt : cntF (colL [9, 11]) 4 = 3 := by decide +kernel
theorem ex_few : fewL [9, 11] 4 = [0, 1, 2, 0] := by decide +kernel
theorem ex_dsn : dsnL [0, 1, 2, 0] [9, 11] = [1, 3] := by decide +kernel
theorem ex_ap : apL [0, 1, 2, 0] 3 = [0, 1, 2] := by decide +kernel
theorem call48x (b c g : Nat) (W : World) (hn : NatsAt W b 0 exHs) (hb : b < W.heap.size) (hg : BoxAt W g #[.string ⟨#[120, 46, 46, 46, 46, 46]⟩, .string ⟨#[46, 120, 120, 46, 120, 120]⟩] 9) :
    Calls Try.prog 48 #[.agg #[.int .i64 4, .slice (some ⟨b, 0, none⟩) 6 c], .slice (some ⟨g, 0, none⟩) 2 2] W fun e w' =>
      ∃ g' cap, e = .returned (.tuple #[.agg #[.int .i64 4, .slice (some ⟨g', 0, none⟩) 2 cap], .int .i64 0]) ∧ NatsAt w' g' 0 [1, 6] ∧ W.heap.size ≤ g' ∧ g' < w'.heap.size ∧ Below W.heap.size W w' := by
  refine (Unweave_any 4 b 0 c g 0 2 6 2 exHs [1, 54] W rfl rfl (exTA hn hb) (cl_two hg exS1 exS2) (by decide) (by decide)).mono ?_
  rintro e w' (⟨_, g', cap, rfl, h1, h2, h3, h4⟩ | ⟨⟨p, q, h1⟩, _⟩)
  · rw [ex_unw] at h1
    exact ⟨g', cap, rfl, h1, h2, h3, h4⟩
  · exact absurd (ex_nopart p q h1.hp h1.hw) h1.ne
theorem call49x (b c g : Nat) (W : World) (hn : NatsAt W b 0 exHs) (hb : b < W.heap.size) (hg : BoxAt W g #[.string ⟨#[120, 46, 46, 46, 46, 120]⟩] 9) :
    Calls Try.prog 49 #[.agg #[.int .i64 4, .slice (some ⟨b, 0, none⟩) 6 c], .slice (some ⟨g, 0, none⟩) 1 1] W fun e w' =>
      e = .returned (.tuple #[.int .i64 0, .int .i64 5, .int .i64 1, .int .i64 0]) ∧ Below W.heap.size W w' := by
  refine (Part_any 4 b 0 c g 0 1 6 1 exHs [33] W rfl rfl (exTA hn hb) (cl_one hg exS3) (by decide) (by decide)).mono ?_
  rintro e w' ⟨⟨h1, _⟩ | ⟨p, q, h1, rfl⟩, h2⟩
  · exact absurd (h1 0 5 (by decide) (by decide)) ex_part.ne
  · obtain ⟨rfl, rfl⟩ := part_uniq h1 ex_part
    rw [ex_fst]
    exact ⟨rfl, h2⟩
theorem call54x (g : Nat) (W : World) (hg : BoxAt W g #[.string ⟨#[120, 46, 46, 120]⟩, .string ⟨#[120, 120, 46, 120]⟩] 9) :
    Calls Try.prog 54 #[.slice (some ⟨g, 0, none⟩) 2 2] W fun e w' =>
      ∃ g1 cap g2 cap2, e = .returned (.tuple #[.agg #[.int .i64 3, .slice (some ⟨g1, 0, none⟩) 4 cap], .agg #[.int .i64 3, .slice (some ⟨g2, 0, none⟩) 2 cap2], .int .i64 0]) ∧
        NatsAt w' g1 0 [0, 1, 2, 0] ∧ NatsAt w' g2 0 [1, 3] ∧ W.heap.size ≤ g1 ∧ g1 < w'.heap.size ∧ W.heap.size ≤ g2 ∧ g2 < w'.heap.size ∧ Below W.heap.size W w' := by
  have h := Fewest_any g 0 2 4 [9, 11] W (cl_two hg exS4 exS5) (by decide) (by decide) (by decide) (by decide) (by rw [ex_cnt]; decide)
  rw [ex_cnt, ex_few, ex_dsn] at h
  exact h
theorem call55x (g : Nat) (W : World) (hg : BoxAt W g #[.string ⟨#[120, 46, 46, 120]⟩, .string ⟨#[120, 120, 46, 120]⟩] 9) :
    Calls Try.prog 55 #[.slice (some ⟨g, 0, none⟩) 2 2] W fun e w' =>
      ∃ g1 cap, e = .returned (.tuple #[.slice (some ⟨g1, 0, none⟩) 3 cap, .int .i64 0]) ∧ NatsAt w' g1 0 [0, 1, 2] ∧ W.heap.size ≤ g1 ∧ g1 < w'.heap.size ∧ Below W.heap.size W w' := by
  have h := Apart_any g 0 2 4 [9, 11] W (cl_two hg exS4 exS5) (by decide) (by decide) (by decide) (by decide) (by rw [ex_cnt]; decide)
  rw [ex_cnt, ex_few, ex_ap] at h
  exact h
/-- the longest window at the example -/
def exWin (m z : Nat) : Bool := (List.range 7).all fun lo => lo == z || (decide (lo < 6) && (List.range 6).any fun i => decide (lifN 4 m (winN exHs i (lo + 1)) < never)) || (lo != 0 && (List.range 6).all fun i => !decide (lifN 4 m (winN exHs i lo) < never))
theorem exWin2 : exWin 2 3 = true := by decide +kernel
theorem exWin3 : exWin 3 5 = true := by decide +kernel
theorem exWor {m z lo row : Nat} (h : exWin m z = true) (hR : WoR exHs 4 m exHs.length lo row) : lo = z := by
  have hle : lo ≤ 6 := hR.le
  unfold exWin at h
  rw [List.all_eq_true] at h
  have h1 := h lo (by simp; omega)
  simp only [Bool.or_eq_true, Bool.and_eq_true, beq_iff_eq, decide_eq_true_eq, List.any_eq_true, List.mem_range, List.all_eq_true, bne_iff_ne, Bool.not_eq_true', decide_eq_false_iff_not] at h1
  rcases h1 with (h1 | ⟨h2, i, h3, h4⟩) | ⟨h2, h3⟩
  · exact h1
  · exact absurd ((lif_iff (by decide) (by decide)).1 h4) (hR.no i h3 h2)
  · obtain ⟨i, h4, h5, _⟩ := hR.got h2
    exact absurd h5 (h3 i h4)
theorem worst_row {hs : List Nat} {n m lo row : Nat} (hn : n ≤ 24) (hR : WoR hs n m hs.length lo row) (h0 : lo ≠ 0) : ∃ i, i < hs.length ∧ row < 2 ^ n ∧ BoundUp row n m ∧ ∀ j, j < n → bitN (winN hs i lo) j = true → bitN row j = true := by
  obtain ⟨i, hi, hl, rfl⟩ := hR.got h0
  obtain ⟨x, hx, ⟨hc, hb⟩, he⟩ := bindN_is_row hn hl
  have hx2 : x < change := Nat.lt_of_lt_of_le hx (Nat.le_trans (Nat.pow_le_pow_right (by decide) hn) (by decide))
  have e : lifN n m (winN hs i lo) % change = x := by
    unfold lifN
    rw [he, Nat.add_comm, Nat.add_mul_mod_self_left, Nat.mod_eq_of_lt hx2]
  rw [e]
  refine ⟨i, hi, hx, hb, fun j hj hq => ?_⟩
  refine Classical.byContradiction fun hne => ?_
  have := (con_zero n).1 hc j hj (by rw [hq]; exact fun e => hne e.symm)
  rw [hq] at this
  cases this
theorem call58x (m z Z b c : Nat) (W : World) (hm1 : 1 ≤ m) (hm2 : m ≤ 24) (hz : exWin m z = true) (h0 : z ≠ 0) (h6 : z ≠ 6) (hn : NatsAt W b 0 exHs) (hb : b < W.heap.size) (hZ : z = Z) :
    Calls Try.prog 58 #[.agg #[.int .i64 4, .slice (some ⟨b, 0, none⟩) 6 c], .int .i64 (m : Int)] W fun e w' =>
      ∃ row : Nat, e = .returned (.tuple #[.int .i64 (Z : Int), .int .i64 (row : Int), .int .i64 0]) ∧ row < 16 ∧ BoundUp row 4 m ∧ Below W.heap.size W w' := by
  subst hZ
  refine (Worst_ok 4 b 0 c m exHs W (exTA hn hb) hm1 hm2).mono ?_
  rintro e w' ⟨⟨lo, row, hR, h⟩, hb⟩
  obtain rfl := exWor hz hR
  rcases h with ⟨h, _⟩ | ⟨_, rfl⟩
  · exact absurd h h0
  · obtain ⟨i, _, h1, h2, _⟩ := worst_row (by decide) hR h0
    rw [if_neg (show ¬ lo = exHs.length from h6)]
    exact ⟨row, rfl, h1, h2, hb⟩
set_option maxHeartbeats 1000000 in
theorem call72 (a b y t : Int) (w : World) : Calls Try.prog 72 #[.int .i64 a, .int .i64 b, .int .i64 y, .int .i64 t] w fun e w' => e = .returned (.agg #[.int .i64 a, .int .i64 b, .int .i64 y, .int .i64 t]) ∧ Below w.heap.size w w' := by
  go_enter Try.func72, Try.ntmps72
  go_wp2
  refine bodyPost_ret (v := .agg #[.int .i64 a, .int .i64 b, .int .i64 y, .int .i64 t]) ?_ rfl ⟨rfl, (Below.refl _ _).alloc (Nat.le_refl _) _⟩
  simp [results, Try.results72, go_sem]
set_option maxHeartbeats 1000000 in
theorem call62 (n : Int) (p : Option Addr) (l c : Nat) (w : World) : Calls Try.prog 62 #[.int .i64 n, .slice p l c] w fun e w' => e = .returned (.agg #[.int .i64 n, .slice p l c]) ∧ Below w.heap.size w w' := by
  go_enter Try.func62, Try.ntmps62
  go_wp2
  refine bodyPost_ret (v := .agg #[.int .i64 n, .slice p l c]) ?_ rfl ⟨rfl, (Below.refl _ _).alloc (Nat.le_refl _) _⟩
  simp [results, Try.results62, go_sem]
theorem call39k (n T L F m b c b2 c2 : Nat) (hs xs : List Nat) (W : World) (hT : hs.length = T) (hL : xs.length = L) (hm : m ≤ 1000) (hF : (upTo (flO hs xs m) L).length = F) (hv : TAt W b 0 n hs) (hx : VAt W b2 0 c2 n xs) :
    Calls Try.prog 39 #[.agg #[.int .i64 (n : Int), .slice (some ⟨b, 0, none⟩) T c], .agg #[.int .i64 (n : Int), .slice (some ⟨b2, 0, none⟩) L c2], .int .i64 (m : Int)] W fun e w' =>
      ∃ p cap, e = .returned (.tuple #[.slice p F cap, .int .i64 0]) ∧ FlP w' p (upTo (flO hs xs m) L) ∧ (∀ a, p = some a → W.heap.size ≤ a.block ∧ a.block < w'.heap.size) ∧ Below W.heap.size W w' := by
  subst hT hL hF
  refine (tieFloats_ok n b 0 c b2 0 c2 m hs xs W hv hx hm).mono ?_
  rintro e w' ⟨v, rfl, h1, h2⟩
  obtain ⟨p, cap, rfl, hf⟩ := Fls.of_row h1
  refine ⟨p, cap, rfl, hf, fun a e => ?_, h2⟩
  subst e
  exact ownBlock_ge h1 (show (Value.slice (some a) _ cap).ownBlock = some a.block from rfl)
theorem ex_fl : upTo (flO exHs [7] 2) 1 = [⟨0, 4, 5, true⟩] := by decide +kernel
theorem ex_cloth : clothS exHs [1, 6] = exCloth := by
  have h1 : pickS exHs 1 = ⟨#[120, 46, 46, 46, 46, 46]⟩ := by unfold pickS strOfNums; congr 1
  have h2 : pickS exHs 6 = ⟨#[46, 120, 120, 46, 120, 120]⟩ := by unfold pickS strOfNums; congr 1
  show [pickS exHs 1, pickS exHs 6] = exCloth
  rw [h1, h2]
  rfl
end Go.Proofs.Ytdmgffoikebgkaa
