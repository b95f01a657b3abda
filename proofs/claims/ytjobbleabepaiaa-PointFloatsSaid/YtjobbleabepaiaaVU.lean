/- Tables of the reference: Whole, Least. -/
import Derived.Test.YtjobbleabepaiaaVT
namespace Go.Proofs.Ytjobbleabepaiaa
open Go.RowKit

/-- a table is its first rows, repeated -/
def Whole (f : Nat → Nat → Bool) (N m p : Nat) : Prop := N % p = 0 ∧ ∀ i, i < N → ∀ h, h < m → f i h = f (i % p) h
theorem tmod_cast (i p : Nat) : (i : Int).tmod (p : Int) = ((i % p : Nat) : Int) := by
  rw [Int.tmod_eq_emod_of_nonneg (by omega)]; exact (Int.natCast_emod _ _).symm

set_option maxRecDepth 100000 in
set_option maxHeartbeats 4000000 in
theorem Whole_yes (g N m c p : Nat) (f : Nat → Nat → Bool) (w : World) (hN : N ≤ 60) (hm : m ≤ 60) (hp : 1 ≤ p) (hpN : p ≤ N) (hT : TabAt w g N m f) (hW : Whole f N m p) :
    Calls Try.prog 95 #[.slice (some ⟨g, 0, none⟩) N c, .int .i64 (p : Int)] w fun e w' => e = .returned (.bool true) ∧ Below w.heap.size w w' := by
  have hdm : (((N : Int) % (p : Int)) != 0) = false := by
    have : (N : Int) % (p : Int) = ((N % p : Nat) : Int) := (Int.natCast_emod _ _).symm
    rw [this, hW.1]; rfl
  have hp0 : (0 : Int) < (p : Int) := by omega
  have hp0' : ¬ (p : Int) = 0 := by omega
  have HT := Lib.hid hT
  have HW := Lib.hid hW
  clear hT hW
  go_enter Try.func95, Try.ntmps95
  go_wp2
  go_loopw [5] (fun i wr => ∃ k : Nat, k ≤ N ∧ i = .int .i64 k ∧ Below w.heap.size w wr) (fun i _ => N - (intOf i).toNat)
  case atStart => exact ⟨0, Nat.zero_le _, rfl, Below.refl _ _⟩
  case round =>
    obtain ⟨k, hk, rfl, hB⟩ := hrel
    obtain ⟨wo, rfl⟩ : ∃ wo : World, wo = wr := ⟨_, rfl⟩
    have HB := Lib.hid hB
    clear hB
    by_cases hlt : k < N
    · go_wp2
      go_loopw [6] (fun i wr => ∃ h : Nat, h ≤ m ∧ i = .int .i64 h ∧ Below w.heap.size w wr) (fun i _ => m - (intOf i).toNat)
      case atStart => exact ⟨0, Nat.zero_le _, rfl, HB.out⟩
      case round =>
        obtain ⟨h, hh, rfl, hB2⟩ := hrel
        have HB2 := Lib.hid hB2
        have hTr := HT.out.below (hB2.mono (Nat.le_refl _))
        obtain ⟨b1, c1, e1, e2⟩ := hTr.r k hlt
        have hk0 : (0 : Int) ≤ (k : Int) := by omega
        have hk1 : (k : Int) < (N : Int) := by omega
        clear hB2
        by_cases hhl : h < m
        · have hkp : k % p < N := Nat.lt_of_lt_of_le (Nat.mod_lt _ (by omega)) hpN
          obtain ⟨b2, c2, e3, e4⟩ := hTr.r (k % p) hkp
          have x1 := e2.c h hhl
          have x2 := e4.c h hhl
          have hq := HW.out.2 k hlt h hhl
          rw [← hq] at x2
          obtain ⟨bt, hbt⟩ : ∃ bt, f k h = bt := ⟨_, rfl⟩
          rw [hbt] at x1 x2
          have hmod := tmod_cast k p
          obtain ⟨q, hqe⟩ : ∃ q, k % p = q := ⟨_, rfl⟩
          rw [hqe] at hmod e3 hkp
          have hq0 : (0 : Int) ≤ (q : Int) := by omega
          have hq1 : (q : Int) < (N : Int) := by omega
          have hh0 : (0 : Int) ≤ (h : Int) := by omega
          have hh1 : (h : Int) < (m : Int) := by omega
          have hmod2 : (k : Int) % (p : Int) = (q : Int) := by rw [← hqe]; exact (Int.natCast_emod _ _).symm
          clear hq hbt hqe hTr e2 e4
          go_wp2_with fail
          go_region
          all_goals clear hmod hmod2
          all_goals go_wp2
          all_goals go_roundw
          all_goals first | (simp [intOf]; omega) | exact ⟨h + 1, by omega, by go_num, HB2.out.drew⟩
        · obtain rfl : h = m := by omega
          clear hTr e2
          go_wp2
          go_roundw
          case rel => exact ⟨k + 1, by omega, by go_num, HB2.out⟩
          case measure => simp [intOf]; omega
    · go_wp2
      go_ret
      exact ⟨rfl, HB.out⟩

set_option maxRecDepth 100000 in
set_option maxHeartbeats 4000000 in
theorem Whole_no (g N m c p : Nat) (f : Nat → Nat → Bool) (w : World) (hN : N ≤ 60) (hm : m ≤ 60) (hp : 1 ≤ p) (hpN : p ≤ N) (hT : TabAt w g N m f) (hW : ¬ Whole f N m p) :
    Calls Try.prog 95 #[.slice (some ⟨g, 0, none⟩) N c, .int .i64 (p : Int)] w fun e w' => e = .returned (.bool false) ∧ Below w.heap.size w w' := by
  have hmd : (N : Int) % (p : Int) = ((N % p : Nat) : Int) := (Int.natCast_emod _ _).symm
  have hp0 : (0 : Int) < (p : Int) := by omega
  have hp0' : ¬ (p : Int) = 0 := by omega
  by_cases hd : N % p = 0
  · have hdm : (((N : Int) % (p : Int)) != 0) = false := by rw [hmd, hd]; rfl
    have hW' : ¬ ∀ i, i < N → ∀ h, h < m → f i h = f (i % p) h := fun h => hW ⟨hd, h⟩
    have HT := Lib.hid hT
    have HW := Lib.hid hW'
    clear hT hW hW' hmd hd
    go_enter Try.func95, Try.ntmps95
    go_wp2
    go_loopw [5] (fun i wr => ∃ k : Nat, k ≤ N ∧ i = .int .i64 k ∧ (∀ i, i < k → ∀ h, h < m → f i h = f (i % p) h) ∧ Below w.heap.size w wr) (fun i _ => N - (intOf i).toNat)
    case atStart => exact ⟨0, Nat.zero_le _, rfl, fun i hi => by omega, Below.refl _ _⟩
    case round =>
      obtain ⟨k, hk, rfl, hok, hB⟩ := hrel
      obtain ⟨wo, rfl⟩ : ∃ wo : World, wo = wr := ⟨_, rfl⟩
      have HB := Lib.hid hB
      have HOK := Lib.hid hok
      clear hB hok
      by_cases hlt : k < N
      · go_wp2
        go_loopw [6] (fun i wr => ∃ h : Nat, h ≤ m ∧ i = .int .i64 h ∧ (∀ h', h' < h → f k h' = f (k % p) h') ∧ Below w.heap.size w wr) (fun i _ => m - (intOf i).toNat)
        case atStart => exact ⟨0, Nat.zero_le _, rfl, fun h hh => by omega, HB.out⟩
        case round =>
          obtain ⟨h, hh, rfl, hok2, hB2⟩ := hrel
          have HB2 := Lib.hid hB2
          have HOK2 := Lib.hid hok2
          have hTr := HT.out.below (hB2.mono (Nat.le_refl _))
          obtain ⟨b1, c1, e1, e2⟩ := hTr.r k hlt
          have hk0 : (0 : Int) ≤ (k : Int) := by omega
          have hk1 : (k : Int) < (N : Int) := by omega
          clear hB2 hok2
          by_cases hhl : h < m
          · have hkp : k % p < N := Nat.lt_of_lt_of_le (Nat.mod_lt _ (by omega)) hpN
            obtain ⟨b2, c2, e3, e4⟩ := hTr.r (k % p) hkp
            have x1 := e2.c h hhl
            have x2 := e4.c h hhl
            obtain ⟨bt, hbt⟩ : ∃ bt, f k h = bt := ⟨_, rfl⟩
            obtain ⟨bu, hbu⟩ : ∃ bu, f (k % p) h = bu := ⟨_, rfl⟩
            rw [hbt] at x1
            rw [hbu] at x2
            have HBT := Lib.hid hbt
            have HBU := Lib.hid hbu
            have hmod := tmod_cast k p
            obtain ⟨q, hqe⟩ : ∃ q, k % p = q := ⟨_, rfl⟩
            rw [hqe] at hmod e3 hkp
            have hq0 : (0 : Int) ≤ (q : Int) := by omega
            have hq1 : (q : Int) < (N : Int) := by omega
            have hh0 : (0 : Int) ≤ (h : Int) := by omega
            have hh1 : (h : Int) < (m : Int) := by omega
            have hmod2 : (k : Int) % (p : Int) = (q : Int) := by rw [← hqe]; exact (Int.natCast_emod _ _).symm
            clear hbt hbu hqe hTr e2 e4
            by_cases hbb : bt = bu
            · subst hbb
              go_wp2_with fail
              go_region
              all_goals clear hmod hmod2
              all_goals go_wp2
              all_goals go_roundw
              all_goals first
                | (simp [intOf]; omega)
                | (refine ⟨h + 1, by omega, by go_num, fun h' hh' => ?_, HB2.out.drew⟩
                   by_cases e : h' = h
                   · rw [e, HBT.out, HBU.out]
                   · exact HOK2.out h' (by omega))
            · have hbu2 : bu = !bt := by
                revert hbb
                cases bt <;> cases bu <;> simp
              subst hbu2
              clear hbb
              cases bt
              all_goals go_wp2_with fail
              all_goals go_region
              all_goals clear hmod hmod2
              all_goals go_wp2
              all_goals go_ret
              all_goals exact ⟨rfl, HB2.out.drew⟩
          · obtain rfl : h = m := by omega
            clear hTr e2
            go_wp2
            go_roundw
            case rel =>
              refine ⟨k + 1, by omega, by go_num, fun i hi => ?_, HB2.out⟩
              by_cases e : i = k
              · rw [e]; exact HOK2.out
              · exact HOK.out i (by omega)
            case measure => simp [intOf]; omega
      · obtain rfl : k = N := by omega
        exact absurd HOK.out HW.out
  · have hdm : (((N : Int) % (p : Int)) != 0) = true := by rw [hmd]; simp; omega
    clear hT hW hmd hd
    go_enter Try.func95, Try.ntmps95
    go_wp2
    go_ret
    exact ⟨rfl, Below.refl _ _⟩

set_option maxHeartbeats 1000000 in
theorem refLeast_any (g N m c j : Nat) (f : Nat → Nat → Bool) (w : World) (hN : N ≤ 60) (hm : m ≤ 60) (hj1 : 1 ≤ j) (hjN : j ≤ N) (hT : TabAt w g N m f) (hW : Whole f N m j) (hno : ∀ i, 1 ≤ i → i < j → ¬ Whole f N m i) :
    Calls Try.prog 53 #[.slice (some ⟨g, 0, none⟩) N c] w fun e w' => e = .returned (.int .i64 (j : Int)) ∧ Below w.heap.size w w' := by
  have HT := Lib.hid hT
  have HW := Lib.hid hW
  have HN := Lib.hid hno
  clear hT hW hno
  go_enter Try.func53, Try.ntmps53
  go_wp2
  go_loopw [3] (fun i wr => ∃ k : Nat, 1 ≤ k ∧ k ≤ j ∧ i = .int .i64 k ∧ Below w.heap.size w wr) (fun i _ => j - (intOf i).toNat)
  case atStart => exact ⟨1, Nat.le_refl _, hj1, rfl, Below.refl _ _⟩
  case round =>
    obtain ⟨k, hk1, hk, rfl, hB⟩ := hrel
    have hTr := HT.out.below (hB.mono (Nat.le_refl _))
    have HB := Lib.hid hB
    clear hB
    by_cases hlt : k < j
    · have Hc := Lib.hid (Whole_no g N m c k f wr hN hm hk1 (by omega) hTr (HN.out k hk1 hlt))
      clear hTr
      go_wp2_with fail
      refine Hc.out.mono ?_
      rintro e w2 ⟨rfl, hb2⟩
      go_wp2
      go_roundw
      case rel => exact ⟨k + 1, by omega, by omega, by go_num, HB.out.trans (hb2.mono HB.out.size)⟩
      case measure => simp [intOf]; omega
    · obtain rfl : k = j := by omega
      have Hc := Lib.hid (Whole_yes g N m c k f wr hN hm hk1 (by omega) hTr HW.out)
      clear hTr
      go_wp2_with fail
      refine Hc.out.mono ?_
      rintro e w2 ⟨rfl, hb2⟩
      go_wp2
      go_ret
      exact ⟨rfl, HB.out.trans (hb2.mono HB.out.size)⟩
end Go.Proofs.Ytjobbleabepaiaa
