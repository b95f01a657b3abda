/- Tables of the reference: Over, Whole, Least. · Tables of the reference: Whole, Least. -/
import Derived.Test.YtjobbleabepaiaaVS
import Derived.Deep.QuietTactic
import Derived.BigQuiet
namespace Go.Proofs.Ytjobbleabepaiaa
section
open Go.RowKit

set_option maxRecDepth 100000 in
set_option maxHeartbeats 4000000 in
theorem Over_any (g N m c : Nat) (f : Nat → Nat → Bool) (w : World) (hN1 : 1 ≤ N) (hN : N ≤ 60) (hm : m ≤ 60) (hT : TabAt w g N m f) :
    Calls Try.prog 54 #[.slice (some ⟨g, 0, none⟩) N c] w
      fun e w' => ∃ g' c', e = .returned (.slice (some ⟨g', 0, none⟩) m c') ∧ TabAt w' g' m N (fun i j => f j i) ∧ Below w.heap.size w w' := by
  obtain ⟨i0, hi, hz0, hz1, hz2⟩ := info_parts tInfo77
  obtain ⟨i1, hi1, hy0, hy1, hy2⟩ := info_parts tInfo4
  have HT := Lib.hid hT
  clear hT
  go_enter Try.func54, Try.ntmps54
  go_wp2
  go_loopw [3, 4] (fun v i wr => ∃ (k g2 c2 : Nat) (sl : List Value), k ≤ m ∧ i = .int .i64 k ∧ v = .slice (some ⟨g2, 0, none⟩) k c2 ∧ wr.ownsRow w.heap.size 77 1 (.slice (some ⟨g2, 0, none⟩) k c2) k sl ∧ RowsIn wr (.slice (some ⟨g2, 0, none⟩) k c2) sl k N (fun i j => f j i) ∧ Below w.heap.size w wr) (fun _ i _ => m - (intOf i).toNat)
  case atStart =>
    exact ⟨0, w.heap.size, 0, [], Nat.zero_le _, rfl, rfl, World.ownsRow_made w #[] 0 (Nat.le_refl _) (Nat.zero_le _) rfl, fun i hi => by omega, (Below.refl _ _).alloc (Nat.le_refl _) _⟩
  case round =>
    obtain ⟨k, g2, c2, sl, hk, rfl, rfl, hrow, hin, hB⟩ := hrel
    obtain ⟨wo, rfl⟩ : ∃ wo : World, wo = wr := ⟨_, rfl⟩
    have hTr := HT.out.below hB
    obtain ⟨b0, c0, h0, _⟩ := hTr.r 0 (by omega)
    have HTr := Lib.hid hTr
    have HRow := Lib.hid hrow
    have HIn := Lib.hid hin
    have HB := Lib.hid hB
    have hN0 : (0 : Int) < (N : Int) := by omega
    have hgl := (hrow.lt g2 rfl).2
    clear hTr hrow hin hB
    by_cases hlt : k < m
    · go_wp2
      go_loopw [5, 6] (fun v i wi => ∃ j g3 c3 : Nat, j ≤ N ∧ i = .int .i64 j ∧ v = .slice (some ⟨g3, 0, none⟩) j c3 ∧ wi.ownsRow wo.heap.size 4 1 (.slice (some ⟨g3, 0, none⟩) j c3) j (boolCells (fun i => f i k) j) ∧ Below wo.heap.size wo wi) (fun _ i _ => N - (intOf i).toNat)
      case atStart =>
        exact ⟨0, wo.heap.size, 0, Nat.zero_le _, rfl, rfl, World.ownsRow_made wo #[] 0 (Nat.le_refl _) (Nat.zero_le _) rfl, (Below.refl _ _).alloc (Nat.le_refl _) _⟩
      case round =>
        obtain ⟨j, g3, c3, hj, rfl, rfl, hrow3, hB3⟩ := hrel
        have HRow3 := Lib.hid hrow3
        have HB3 := Lib.hid hB3
        have hs3 := hB3.size
        clear hrow3 hB3
        by_cases hjl : j < N
        · obtain ⟨bj, cj, e1, e2⟩ := (HTr.out.below HB3.out).r j hjl
          have e3 := e2.c k hlt
          obtain ⟨bt, hbt⟩ : ∃ bt, bt = f j k := ⟨_, rfl⟩
          rw [← hbt] at e3
          have HBT := Lib.hid hbt
          have hj0 : (0 : Int) ≤ (j : Int) := by omega
          have hj1 : (j : Int) < (N : Int) := by omega
          have hk0 : (0 : Int) ≤ (k : Int) := by omega
          have hk1 : (k : Int) < (m : Int) := by omega
          clear e2 hbt
          go_wp2_with (at_builtin; refine Shut.out ?_)
          unfold Shut
          refine wpList_append_lies _ rfl _ _ 77 rfl wo.heap.size 4 i1 (.bool false) 1 1 Try.underlying77 hi1 hy0 hy1 hy2 rfl (by omega) (.slice (some ⟨g3, 0, none⟩) j c3) j (boolCells (fun i => f i k) j) rfl (HRow3.out.alloc _) ⟨wr.heap.size, 0, none⟩ 1 1 [.bool bt] rfl rfl (World.news_of_block (cs := #[.bool bt]) (t := 4) (fr := (0, 0)) (heap_alloc_new wr _)) (by simp [Value.oneCell']) (by omega) (by unfold maxLen; omega) (by omega) (by simp; omega) (wr.heap.size + 1) (by simp) ?_
          intro g4 cap4 w5 hown1 hgrow hat hglt
          have hrow5 : w5.ownsRow wo.heap.size 4 1 (.slice (some ⟨g4, 0, none⟩) (j + 1) cap4) (j + 1) (boolCells (fun i => f i k) (j + 1)) := by
            rw [boolCells_succ, ← HBT.out]; exact hown1
          have hB5 : Below wo.heap.size wo w5 := (HB3.out.alloc hs3 _).grown hgrow (by simp; omega) (fun j hj => (HRow3.out.lt j hj).1)
          have HR5 := Lib.hid hrow5
          have HB5 := Lib.hid hB5
          clear hrow5 hB5 hown1 hgrow hat
          go_wp2
          go_roundw
          case rel => exact ⟨j + 1, g4, cap4, by omega, by go_num, rfl, HR5.out, HB5.out⟩
          case measure => simp [intOf]; omega
        · obtain rfl : j = N := by omega
          have hg3 := (HRow3.out.lt g3 rfl).1
          have hbo := BoolsAt.of_row HRow3.out
          have HBO := Lib.hid hbo
          have hown2 := ownsRow_next HRow.out HB3.out
          have HOwn := Lib.hid hown2
          have hsl : sl.length = k := by have := HRow.out.1; omega
          have HSl := Lib.hid hsl
          have hwb := HB.out.size
          clear hbo hown2 hsl
          go_wp2_with (at_builtin; refine Shut.out ?_)
          unfold Shut
          refine wpList_append_lies _ rfl _ _ 69 rfl w.heap.size 77 i0 (.slice none 0 0) 1 24 Try.underlying69 hi hz0 hz1 hz2 rfl (by omega) (.slice (some ⟨g2, 0, none⟩) k c2) k sl rfl (HOwn.out.alloc _) ⟨wr.heap.size, 0, none⟩ 1 1 [.slice (some ⟨g3, 0, none⟩) j c3] rfl rfl (World.news_of_block (cs := #[.slice (some ⟨g3, 0, none⟩) j c3]) (t := 77) (fr := (0, 0)) (heap_alloc_new wr _)) (by simp [Value.oneCell']) (by omega) (by unfold maxLen; omega) (by omega) (by simp; omega) (wr.heap.size + 1) (by simp) ?_
          intro g4 cap4 w5 hown1 hgrow hat hglt
          have hX : Below wo.heap.size wo (wr.alloc (.cells #[.slice (some ⟨g3, 0, none⟩) j c3] 77)) := HB3.out.alloc hs3 _
          have hin5 : RowsIn w5 (.slice (some ⟨g4, 0, none⟩) (k + 1) cap4) (sl ++ [.slice (some ⟨g3, 0, none⟩) j c3]) (k + 1) j (fun i j => f j i) :=
            (HIn.out.below hX).grow (H := wr.heap.size + 1) HSl.out hgrow (HBO.out.below (below_new1 wr _) HBO.out.lt) (by simp [Value.ownBlock]; omega) (hat.imp (fun h => by simpa [Value.ownBlock] using h.symm) (fun h => by simp [Value.ownBlock, h])) (by simp)
          have hB5 : Below w.heap.size wo w5 := (hX.mono hwb).grown hgrow (by simp; omega) (fun j hj => (HRow.out.lt j hj).1)
          have HR5 := Lib.hid hown1
          have HI5 := Lib.hid hin5
          have HB5 := Lib.hid (HB.out.trans hB5)
          clear hX hin5 hB5 hown1 hgrow hat
          go_wp2
          go_roundw
          case rel => exact ⟨k + 1, g4, cap4, _, by omega, by go_num, rfl, HR5.out, HI5.out, HB5.out⟩
          case measure => simp [intOf]; omega
    · obtain rfl : k = m := by omega
      have HTT := Lib.hid (TabAt.of_rows HRow.out HIn.out)
      go_wp2
      go_ret
      exact ⟨g2, c2, rfl, HTT.out, HB.out⟩
end
end Go.Proofs.Ytjobbleabepaiaa
namespace Go.Proofs.Ytjobbleabepaiaa
section
open Go.RowKit

/-- a table is its first rows, repeated -/
def Whole (f : Nat → Nat → Bool) (N m p : Nat) : Prop := N % p = 0 ∧ ∀ i, i < N → ∀ h, h < m → f i h = f (i % p) h
theorem tmod_cast (i p : Nat) : (i : Int).tmod (p : Int) = ((i % p : Nat) : Int) := by
  rw [Int.tmod_eq_emod_of_nonneg (by omega)]; exact (Int.natCast_emod _ _).symm

set_option maxRecDepth 100000 in
set_option maxHeartbeats 4000000 in
theorem Whole_yes (g N m c p : Nat) (f : Nat → Nat → Bool) (w : World) (hN : N ≤ 60) (hm : m ≤ 60) (hp : 1 ≤ p) (hpN : p ≤ N) (hT : TabAt w g N m f) (hW : Whole f N m p) :
    Calls Try.prog 95 #[.slice (some ⟨g, 0, none⟩) N c, .int .i64 (p : Int)] w fun e w' => e = .returned (.bool true) ∧ Below w.heap.size w w' := by
  have hdm : (((N : Int) % (p : Int)) != 0) = false := by
    have : (N : Int) % (p : Int) = ((N % p : Nat) : Int) := (Int.natCast_emod _ _).symm
    rw [this, hW.1]; rfl
  have hp0 : (0 : Int) < (p : Int) := by omega
  have hp0' : ¬ (p : Int) = 0 := by omega
  have HT := Lib.hid hT
  have HW := Lib.hid hW
  clear hT hW
  go_enter Try.func95, Try.ntmps95
  go_wp2
  go_loopw [5] (fun i wr => ∃ k : Nat, k ≤ N ∧ i = .int .i64 k ∧ Below w.heap.size w wr) (fun i _ => N - (intOf i).toNat)
  case atStart => exact ⟨0, Nat.zero_le _, rfl, Below.refl _ _⟩
  case round =>
    obtain ⟨k, hk, rfl, hB⟩ := hrel
    obtain ⟨wo, rfl⟩ : ∃ wo : World, wo = wr := ⟨_, rfl⟩
    have HB := Lib.hid hB
    clear hB
    by_cases hlt : k < N
    · go_wp2
      go_loopw [6] (fun i wr => ∃ h : Nat, h ≤ m ∧ i = .int .i64 h ∧ Below w.heap.size w wr) (fun i _ => m - (intOf i).toNat)
      case atStart => exact ⟨0, Nat.zero_le _, rfl, HB.out⟩
      case round =>
        obtain ⟨h, hh, rfl, hB2⟩ := hrel
        have HB2 := Lib.hid hB2
        have hTr := HT.out.below (hB2.mono (Nat.le_refl _))
        obtain ⟨b1, c1, e1, e2⟩ := hTr.r k hlt
        have hk0 : (0 : Int) ≤ (k : Int) := by omega
        have hk1 : (k : Int) < (N : Int) := by omega
        clear hB2
        by_cases hhl : h < m
        · have hkp : k % p < N := Nat.lt_of_lt_of_le (Nat.mod_lt _ (by omega)) hpN
          obtain ⟨b2, c2, e3, e4⟩ := hTr.r (k % p) hkp
          have x1 := e2.c h hhl
          have x2 := e4.c h hhl
          have hq := HW.out.2 k hlt h hhl
          rw [← hq] at x2
          obtain ⟨bt, hbt⟩ : ∃ bt, f k h = bt := ⟨_, rfl⟩
          rw [hbt] at x1 x2
          have hmod := tmod_cast k p
          obtain ⟨q, hqe⟩ : ∃ q, k % p = q := ⟨_, rfl⟩
          rw [hqe] at hmod e3 hkp
          have hq0 : (0 : Int) ≤ (q : Int) := by omega
          have hq1 : (q : Int) < (N : Int) := by omega
          have hh0 : (0 : Int) ≤ (h : Int) := by omega
          have hh1 : (h : Int) < (m : Int) := by omega
          have hmod2 : (k : Int) % (p : Int) = (q : Int) := by rw [← hqe]; exact (Int.natCast_emod _ _).symm
          clear hq hbt hqe hTr e2 e4
          go_wp2_with fail
          go_region
          all_goals clear hmod hmod2
          all_goals go_wp2
          all_goals go_roundw
          all_goals first | (simp [intOf]; omega) | exact ⟨h + 1, by omega, by go_num, HB2.out.drew⟩
        · obtain rfl : h = m := by omega
          clear hTr e2
          go_wp2
          go_roundw
          case rel => exact ⟨k + 1, by omega, by go_num, HB2.out⟩
          case measure => simp [intOf]; omega
    · go_wp2
      go_ret
      exact ⟨rfl, HB.out⟩

set_option maxRecDepth 100000 in
set_option maxHeartbeats 4000000 in
theorem Whole_no (g N m c p : Nat) (f : Nat → Nat → Bool) (w : World) (hN : N ≤ 60) (hm : m ≤ 60) (hp : 1 ≤ p) (hpN : p ≤ N) (hT : TabAt w g N m f) (hW : ¬ Whole f N m p) :
    Calls Try.prog 95 #[.slice (some ⟨g, 0, none⟩) N c, .int .i64 (p : Int)] w fun e w' => e = .returned (.bool false) ∧ Below w.heap.size w w' := by
  have hmd : (N : Int) % (p : Int) = ((N % p : Nat) : Int) := (Int.natCast_emod _ _).symm
  have hp0 : (0 : Int) < (p : Int) := by omega
  have hp0' : ¬ (p : Int) = 0 := by omega
  by_cases hd : N % p = 0
  · have hdm : (((N : Int) % (p : Int)) != 0) = false := by rw [hmd, hd]; rfl
    have hW' : ¬ ∀ i, i < N → ∀ h, h < m → f i h = f (i % p) h := fun h => hW ⟨hd, h⟩
    have HT := Lib.hid hT
    have HW := Lib.hid hW'
    clear hT hW hW' hmd hd
    go_enter Try.func95, Try.ntmps95
    go_wp2
    go_loopw [5] (fun i wr => ∃ k : Nat, k ≤ N ∧ i = .int .i64 k ∧ (∀ i, i < k → ∀ h, h < m → f i h = f (i % p) h) ∧ Below w.heap.size w wr) (fun i _ => N - (intOf i).toNat)
    case atStart => exact ⟨0, Nat.zero_le _, rfl, fun i hi => by omega, Below.refl _ _⟩
    case round =>
      obtain ⟨k, hk, rfl, hok, hB⟩ := hrel
      obtain ⟨wo, rfl⟩ : ∃ wo : World, wo = wr := ⟨_, rfl⟩
      have HB := Lib.hid hB
      have HOK := Lib.hid hok
      clear hB hok
      by_cases hlt : k < N
      · go_wp2
        go_loopw [6] (fun i wr => ∃ h : Nat, h ≤ m ∧ i = .int .i64 h ∧ (∀ h', h' < h → f k h' = f (k % p) h') ∧ Below w.heap.size w wr) (fun i _ => m - (intOf i).toNat)
        case atStart => exact ⟨0, Nat.zero_le _, rfl, fun h hh => by omega, HB.out⟩
        case round =>
          obtain ⟨h, hh, rfl, hok2, hB2⟩ := hrel
          have HB2 := Lib.hid hB2
          have HOK2 := Lib.hid hok2
          have hTr := HT.out.below (hB2.mono (Nat.le_refl _))
          obtain ⟨b1, c1, e1, e2⟩ := hTr.r k hlt
          have hk0 : (0 : Int) ≤ (k : Int) := by omega
          have hk1 : (k : Int) < (N : Int) := by omega
          clear hB2 hok2
          by_cases hhl : h < m
          · have hkp : k % p < N := Nat.lt_of_lt_of_le (Nat.mod_lt _ (by omega)) hpN
            obtain ⟨b2, c2, e3, e4⟩ := hTr.r (k % p) hkp
            have x1 := e2.c h hhl
            have x2 := e4.c h hhl
            obtain ⟨bt, hbt⟩ : ∃ bt, f k h = bt := ⟨_, rfl⟩
            obtain ⟨bu, hbu⟩ : ∃ bu, f (k % p) h = bu := ⟨_, rfl⟩
            rw [hbt] at x1
            rw [hbu] at x2
            have HBT := Lib.hid hbt
            have HBU := Lib.hid hbu
            have hmod := tmod_cast k p
            obtain ⟨q, hqe⟩ : ∃ q, k % p = q := ⟨_, rfl⟩
            rw [hqe] at hmod e3 hkp
            have hq0 : (0 : Int) ≤ (q : Int) := by omega
            have hq1 : (q : Int) < (N : Int) := by omega
            have hh0 : (0 : Int) ≤ (h : Int) := by omega
            have hh1 : (h : Int) < (m : Int) := by omega
            have hmod2 : (k : Int) % (p : Int) = (q : Int) := by rw [← hqe]; exact (Int.natCast_emod _ _).symm
            clear hbt hbu hqe hTr e2 e4
            by_cases hbb : bt = bu
            · subst hbb
              go_wp2_with fail
              go_region
              all_goals clear hmod hmod2
              all_goals go_wp2
              all_goals go_roundw
              all_goals first
                | (simp [intOf]; omega)
                | (refine ⟨h + 1, by omega, by go_num, fun h' hh' => ?_, HB2.out.drew⟩
                   by_cases e : h' = h
                   · rw [e, HBT.out, HBU.out]
                   · exact HOK2.out h' (by omega))
            · have hbu2 : bu = !bt := by
                revert hbb
                cases bt <;> cases bu <;> simp
              subst hbu2
              clear hbb
              cases bt
              all_goals go_wp2_with fail
              all_goals go_region
              all_goals clear hmod hmod2
              all_goals go_wp2
              all_goals go_ret
              all_goals exact ⟨rfl, HB2.out.drew⟩
          · obtain rfl : h = m := by omega
            clear hTr e2
            go_wp2
            go_roundw
            case rel =>
              refine ⟨k + 1, by omega, by go_num, fun i hi => ?_, HB2.out⟩
              by_cases e : i = k
              · rw [e]; exact HOK2.out
              · exact HOK.out i (by omega)
            case measure => simp [intOf]; omega
      · obtain rfl : k = N := by omega
        exact absurd HOK.out HW.out
  · have hdm : (((N : Int) % (p : Int)) != 0) = true := by rw [hmd]; simp; omega
    clear hT hW hmd hd
    go_enter Try.func95, Try.ntmps95
    go_wp2
    go_ret
    exact ⟨rfl, Below.refl _ _⟩

set_option maxHeartbeats 1000000 in
theorem refLeast_any (g N m c j : Nat) (f : Nat → Nat → Bool) (w : World) (hN : N ≤ 60) (hm : m ≤ 60) (hj1 : 1 ≤ j) (hjN : j ≤ N) (hT : TabAt w g N m f) (hW : Whole f N m j) (hno : ∀ i, 1 ≤ i → i < j → ¬ Whole f N m i) :
    Calls Try.prog 53 #[.slice (some ⟨g, 0, none⟩) N c] w fun e w' => e = .returned (.int .i64 (j : Int)) ∧ Below w.heap.size w w' := by
  have HT := Lib.hid hT
  have HW := Lib.hid hW
  have HN := Lib.hid hno
  clear hT hW hno
  go_enter Try.func53, Try.ntmps53
  go_wp2
  go_loopw [3] (fun i wr => ∃ k : Nat, 1 ≤ k ∧ k ≤ j ∧ i = .int .i64 k ∧ Below w.heap.size w wr) (fun i _ => j - (intOf i).toNat)
  case atStart => exact ⟨1, Nat.le_refl _, hj1, rfl, Below.refl _ _⟩
  case round =>
    obtain ⟨k, hk1, hk, rfl, hB⟩ := hrel
    have hTr := HT.out.below (hB.mono (Nat.le_refl _))
    have HB := Lib.hid hB
    clear hB
    by_cases hlt : k < j
    · have Hc := Lib.hid (Whole_no g N m c k f wr hN hm hk1 (by omega) hTr (HN.out k hk1 hlt))
      clear hTr
      go_wp2_with fail
      refine Hc.out.mono ?_
      rintro e w2 ⟨rfl, hb2⟩
      go_wp2
      go_roundw
      case rel => exact ⟨k + 1, by omega, by omega, by go_num, HB.out.trans (hb2.mono HB.out.size)⟩
      case measure => simp [intOf]; omega
    · obtain rfl : k = j := by omega
      have Hc := Lib.hid (Whole_yes g N m c k f wr hN hm hk1 (by omega) hTr HW.out)
      clear hTr
      go_wp2_with fail
      refine Hc.out.mono ?_
      rintro e w2 ⟨rfl, hb2⟩
      go_wp2
      go_ret
      exact ⟨rfl, HB.out.trans (hb2.mono HB.out.size)⟩
end
end Go.Proofs.Ytjobbleabepaiaa
