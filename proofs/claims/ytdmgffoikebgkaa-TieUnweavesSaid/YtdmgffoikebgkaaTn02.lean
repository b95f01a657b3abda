/- Chapter 3: Unweave and Part, their errors; a copy of any cloth; cloths compared; Fits, First and bare. -/
import Derived.Test.YtdmgffoikebgkaaTb01
import Derived.Test.YtdmgffoikebgkaaTb02
import Derived.Test.YtdmgffoikebgkaaTb03
import Derived.Test.YtdmgffoikebgkaaTb04
import Derived.Test.YtdmgffoikebgkaaTb05
import Derived.Test.YtdmgffoikebgkaaTb06
import Derived.Test.YtdmgffoikebgkaaTb07
import Derived.Test.YtdmgffoikebgkaaTb08
import Derived.Test.YtdmgffoikebgkaaTb09
import Derived.Test.YtdmgffoikebgkaaTb10
import Derived.Test.YtdmgffoikebgkaaTb11
import Derived.Test.YtdmgffoikebgkaaTb12
import Derived.Test.YtdmgffoikebgkaaTb13
import Derived.Test.YtdmgffoikebgkaaTb14
import Derived.Test.YtdmgffoikebgkaaTb15
import Derived.Test.YtdmgffoikebgkaaTb16
import Derived.Test.YtdmgffoikebgkaaTb17
import Derived.Test.YtdmgffoikebgkaaTb18
import Derived.Test.YtdmgffoikebgkaaTb19
import Derived.Test.YtdmgffoikebgkaaTb20
import Derived.Test.YtdmgffoikebgkaaTn01
import Derived.Maps.AppendAt
import Derived.Deep.RegionWith
import Derived.Deep.AppendLies
import Derived.Deep.RegionLaw
import Derived.Deep.DeepCutAuto
import Derived.Deep.QuietTactic
import Derived.BigQuiet
namespace Go.Proofs.Ytdmgffoikebgkaa
open Go.RowKit Go.Shelf
attribute [local go_sem] Oper.semAt_some

set_option maxRecDepth 100000 in
set_option maxHeartbeats 1000000 in
theorem tieUnweave_err (h k : Int) (p1 p2 : Option Addr) (c1 c2 : Nat) (xs : List Int) (ss : List ByteArray) (w : World) (hr : Reads w (.slice p1 xs.length c1) xs) (hx : StrR w (.slice p2 ss.length c2) ss) (hl : ss.length ≤ 1000) (hs : ∀ i, i < ss.length → (nthB ss i).size ≤ 1000) (hk : unwE h xs ss = k) (h0 : k ≠ 0) :
    Calls Try.prog 48 #[.agg #[.int .i64 h, .slice p1 xs.length c1], .slice p2 ss.length c2] w fun e w' => e = .returned (.tuple #[.agg #[.int .i64 0, .slice none 0 0], .int .i64 k]) ∧ Below w.heap.size w w' := by
  obtain ⟨w0, hw0⟩ : ∃ w0, w0 = (w.alloc (.cells #[.int .i64 h, .slice p1 xs.length c1] 26)).alloc (.cells #[.int .i64 0, .slice none 0 0] 37) := ⟨_, rfl⟩
  have hb0 : Below w.heap.size w w0 := by rw [hw0]; exact ((Below.refl _ _).alloc (Nat.le_refl _) _).alloc (by simp) _
  have hA : BoxAt w0 w.heap.size #[.int .i64 h, .slice p1 xs.length c1] 26 := by rw [hw0]; exact (BoxAt.new w _ _).next ((Below.refl _ _).alloc (Nat.le_refl _) _)
  have hP : BoxAt w0 (w.heap.size + 1) #[.int .i64 0, .slice none 0 0] 37 := by
    rw [hw0]; have := BoxAt.new (w.alloc (.cells #[.int .i64 h, .slice p1 xs.length c1] 26)) #[.int .i64 0, .slice none 0 0] 37; rw [World.size_alloc] at this; exact this
  have HW0 := Lib.hid hw0
  have Hb0 := Lib.hid hb0
  have HP := Lib.hid hP
  have H1 := checkWoven_any h p1 p2 c1 c2 xs ss w0 (hr.next hb0) (hx.next hb0) hl hs
  rw [hk] at H1
  have a0 := hA.cell' 0 rfl
  have a1 := hA.cell' 1 rfl
  have hb : (k != 0) = true := by simp [h0]
  clear hw0 hb0 hA hP hr hx hk h0 hs
  go_enter Try.func48, Try.ntmps48
  go_upto_region 1 with fail
  rw [← HW0.out]
  go_wp2_with fail
  refine H1.mono ?_
  rintro e W1 ⟨rfl, hb1⟩
  have Hb1 := Lib.hid (Hb0.out.trans (hb1.mono Hb0.out.size))
  have hR := HP.out.next hb1
  have r0 := hR.cell' 0 rfl
  have r1 := hR.cell' 1 rfl
  have rf0 := hR.frozen 0
  have rf1 := hR.frozen 1
  have HR := Lib.hid hR
  clear hb1 a0 a1 H1 Hb0 HW0 hR HP
  go_wp2_with fail
  refine bodyPost_ret (v := .tuple #[.agg #[.int .i64 0, .slice none 0 0], .int .i64 k]) ?_ rfl ⟨rfl, ?_⟩
  · have hb3 := (HR.out.set 0 (.int .i64 0)).set 1 (.slice none 0 0)
    have d0 := hb3.cell' (v := .int .i64 0) 0 rfl
    have d1 := hb3.cell' (v := .slice none 0 0) 1 rfl
    simp [results, Try.results48, go_sem, d0, d1]
  · exact (Hb1.out.setCell (by simp) _).setCell (by simp) _
set_option maxRecDepth 100000 in
set_option maxHeartbeats 1000000 in
theorem tiePart_err (h k : Int) (p1 p2 : Option Addr) (c1 c2 : Nat) (xs : List Int) (ss : List ByteArray) (w : World) (hr : Reads w (.slice p1 xs.length c1) xs) (hx : StrR w (.slice p2 ss.length c2) ss) (hl : ss.length ≤ 1000) (hs : ∀ i, i < ss.length → (nthB ss i).size ≤ 1000) (hk : unwE h xs ss = k) (h0 : k ≠ 0) :
    Calls Try.prog 49 #[.agg #[.int .i64 h, .slice p1 xs.length c1], .slice p2 ss.length c2] w fun e w' => e = .returned (.tuple #[.int .i64 0, .int .i64 0, .int .i64 0, .int .i64 k]) ∧ Below w.heap.size w w' := by
  obtain ⟨w0, hw0⟩ : ∃ w0, w0 = w.alloc (.cells #[.int .i64 h, .slice p1 xs.length c1] 26) := ⟨_, rfl⟩
  have hb0 : Below w.heap.size w w0 := by rw [hw0]; exact (Below.refl _ _).alloc (Nat.le_refl _) _
  have hA : BoxAt w0 w.heap.size #[.int .i64 h, .slice p1 xs.length c1] 26 := by rw [hw0]; exact BoxAt.new w _ _
  have HW0 := Lib.hid hw0
  have Hb0 := Lib.hid hb0
  have H1 := checkWoven_any h p1 p2 c1 c2 xs ss w0 (hr.next hb0) (hx.next hb0) hl hs
  rw [hk] at H1
  have a0 := hA.cell' 0 rfl
  have a1 := hA.cell' 1 rfl
  have hb : (k != 0) = true := by simp [h0]
  clear hw0 hb0 hA hr hx hk h0 hs
  go_enter Try.func49, Try.ntmps49
  go_upto_region 1 with fail
  rw [← HW0.out]
  go_wp2_with fail
  refine H1.mono ?_
  rintro e W1 ⟨rfl, hb1⟩
  have Hb1 := Lib.hid (Hb0.out.trans (hb1.mono Hb0.out.size))
  clear hb1 a0 a1 H1 Hb0 HW0
  go_wp2_with fail
  refine bodyPost_ret (v := .tuple #[.int .i64 0, .int .i64 0, .int .i64 0, .int .i64 k]) ?_ rfl ⟨rfl, Hb1.out⟩
  simp [results, Try.results49, go_sem]
set_option maxHeartbeats 1000000 in
/-- a copy of any cloth -/
theorem cloths_any (p : Option Addr) (c : Nat) (ss : List ByteArray) (w : World) (hl : ss.length ≤ 1000) (hx : StrR w (.slice p ss.length c) ss) :
    Calls Try.prog 47 #[.slice p ss.length c] w fun e w' =>
      ∃ g cap, e = .returned (.slice (some ⟨g, 0, none⟩) ss.length cap) ∧ StrsAt w' g 0 ss ∧ w.heap.size ≤ g ∧ g < w'.heap.size ∧ Below w.heap.size w w' := by
  by_cases h0 : ss.length = 0
  · have Hb := Lib.hid (show Below w.heap.size w (w.alloc (.cells #[] 9)) from (Below.refl _ _).alloc (Nat.le_refl _) _)
    obtain rfl : ss = [] := List.eq_nil_of_length_eq_zero h0
    clear hx h0
    cases p
    all_goals
      go_enter Try.func47, Try.ntmps47
      go_wp2_with fail
      go_ret
      exact ⟨_, 0, rfl, fun i hi => by simp at hi, Nat.le_refl _, by simp, Hb.out⟩
  · obtain ⟨b, off, rfl, hb, hx⟩ := hx.open (by omega)
    have h0' : 0 < ss.length := by omega
    have HX := Lib.hid (hx.below ((Below.refl _ _).alloc (Nat.le_refl _) (.cells #[] 9)) hb)
    clear hx
    go_enter Try.func47, Try.ntmps47
    go_wp2_with (at_builtin; refine Shut.out ?_)
    unfold Shut
    refine app_copy elemStr rfl _ _ rfl rfl ⟨b, off, none⟩ ss.length c (ss.map Value.string) rfl (by simp) (by simp [Value.oneCell']) h0' (by omega) (by decide) ?_ ?_
    · intro j u hj
      simp only [List.getElem?_map, Option.map_eq_some_iff] at hj
      obtain ⟨x, hx, rfl⟩ := hj
      have hjl : j < ss.length := (List.getElem?_eq_some_iff.1 hx).1
      have := HX.out j hjl
      rw [nthB, hx] at this
      rw [show (⟨b, off, none⟩ : Addr).add j = ⟨b, off + j, none⟩ by unfold Addr.add; split <;> simp_all]
      exact this
    intro g cap w1 hr hb1
    have Hr := Lib.hid hr
    have Hb1 := Lib.hid hb1
    clear hr hb1
    go_wp2_with fail
    go_ret
    obtain ⟨a, b, d⟩ := strs_of_row Hr.out h0'
    exact ⟨g, cap, rfl, a, d, b, Hb1.out⟩
set_option maxRecDepth 100000 in
set_option maxHeartbeats 1000000 in
theorem refAlike3_any (p1 p2 : Option Addr) (c1 c2 : Nat) (ss : List ByteArray) (w : World) (hl : ss.length ≤ 1000) (h1 : StrR w (.slice p1 ss.length c1) ss) (h2 : StrR w (.slice p2 ss.length c2) ss) :
    Calls Try.prog 43 #[.slice p1 ss.length c1, .slice p2 ss.length c2] w fun e w' => e = .returned (.bool true) ∧ Below w.heap.size w w' := by
  have H1 := Lib.hid h1
  have H2 := Lib.hid h2
  clear h1 h2
  go_enter Try.func43, Try.ntmps43
  go_wp2_with fail
  go_loopw [5] (fun i wr => ∃ k : Nat, k ≤ ss.length ∧ i = .int .i64 (k : Int) ∧ Below w.heap.size w wr) (fun i _ => ss.length - (intOf i).toNat)
  case atStart => exact ⟨0, Nat.zero_le _, rfl, Below.refl _ _⟩
  case round =>
    obtain ⟨k, hk, rfl, hb⟩ := hrel
    by_cases hlt : k < ss.length
    · obtain ⟨b1, o1, rfl, hl1, hx1⟩ := H1.out.open (by omega)
      obtain ⟨b2, o2, rfl, hl2, hx2⟩ := H2.out.open (by omega)
      have hc1 := hx1.below hb hl1 k hlt
      have hc2 := hx2.below hb hl2 k hlt
      have Hr := Lib.hid hb
      obtain ⟨s, hs⟩ : ∃ s, nthB ss k = s := ⟨_, rfl⟩
      rw [hs] at hc1 hc2
      have hk0 : (0 : Int) ≤ (k : Int) := by omega
      have hk1 : (k : Int) < (ss.length : Int) := by omega
      clear hb hx1 hx2 hs
      go_wp2_with fail
      go_region
      all_goals
        (go_wp2_with fail
         exact ⟨⟨k + 1, by omega, by go_num, Hr.out.drew⟩, by simp [intOf]; omega⟩)
    · obtain rfl : k = ss.length := by omega
      have Hb := Lib.hid hb
      clear hb
      go_wp2_with fail
      go_ret
      exact ⟨rfl, Hb.out⟩
theorem cltE_wrong {n : Nat} {ss : List ByteArray} {k : Nat} (h1 : ¬ 60 < ss.length) (hk : k < ss.length) (h : wrongB n (nthB ss k) = true) : cltE n ss = 4 := by
  unfold cltE
  rw [if_neg h1, if_neg (by omega), if_pos]
  rw [List.any_eq_true]
  exact ⟨nthB ss k, by rw [nthB_get _ _ hk]; exact List.getElem_mem _, h⟩
theorem cltE_right {n : Nat} {ss : List ByteArray} (h1 : ¬ 60 < ss.length) (h0 : ¬ ss.length = 0) (h : ∀ j, j < ss.length → wrongB n (nthB ss j) = false) : cltE n ss = 0 := by
  unfold cltE
  rw [if_neg h1, if_neg h0, if_neg]
  rw [List.any_eq_true]
  rintro ⟨s, hs, hw⟩
  obtain ⟨i, hi, rfl⟩ := List.mem_iff_getElem.1 hs
  have := h i hi
  rw [nthB_get _ _ hi, hw] at this
  cases this
set_option maxRecDepth 100000 in
set_option maxHeartbeats 2000000 in
/-- the reference's error of a cloth that must have so many warps -/
theorem refFits_any (p : Option Addr) (c T : Nat) (ss : List ByteArray) (w : World) (hT0 : 1 ≤ T) (hT1 : T ≤ 96) (hx : StrR w (.slice p ss.length c) ss) (hl : ss.length ≤ 1000) :
    Calls Try.prog 50 #[.slice p ss.length c, .int .i64 (T : Int)] w fun e w' => e = .returned (.int .i64 (cltE T ss)) ∧ Below w.heap.size w w' := by
  by_cases h1 : 60 < ss.length
  · have Hv := Lib.hid (show cltE T ss = 5 by unfold cltE; rw [if_pos h1])
    have b1 : decide ((60 : Int) < (ss.length : Int)) = true := decide_eq_true (by omega)
    have b2 : decide (60 < ss.length) = true := decide_eq_true h1
    clear hx h1
    go_enter Try.func50, Try.ntmps50
    go_wp2_with fail
    go_ret
    exact ⟨ret_int (by rw [Hv.out]), Below.refl _ _⟩
  · have b1 : decide ((60 : Int) < (ss.length : Int)) = false := decide_eq_false (by omega)
    have b2 : decide (60 < ss.length) = false := decide_eq_false h1
    by_cases h0 : ss.length = 0
    · have Hv := Lib.hid (show cltE T ss = 7 by unfold cltE; rw [if_neg h1, if_pos h0])
      have b3 : ((ss.length : Int) == 0) = true := by simp [h0]
      clear hx
      go_enter Try.func50, Try.ntmps50
      go_wp2_with fail
      go_ret
      exact ⟨ret_int (by rw [Hv.out]), Below.refl _ _⟩
    · obtain ⟨b, off, rfl, hb, hx⟩ := hx.open (by omega)
      have b3 : ((ss.length : Int) == 0) = false := by rw [beq_eq_false_iff_ne]; omega
      have hl0 : 0 < ss.length := by omega
      have HX := Lib.hid hx
      have HW := Lib.hid (fun k hk h => cltE_wrong (n := T) (ss := ss) (k := k) h1 hk h)
      have HRt := Lib.hid (fun h => cltE_right (n := T) (ss := ss) h1 h0 h)
      have H44 := refIn3_any (T : Int) 1 96
      simp only [show (decide (1 ≤ (T : Int)) && decide ((T : Int) ≤ 96)) = true by simp; omega] at H44
      clear hx h0
      go_enter Try.func50, Try.ntmps50
      go_wp2_with fail
      go_loopw [5] (fun i wr => ∃ k : Nat, k ≤ ss.length ∧ i = .int .i64 (k : Int) ∧ Below w.heap.size w wr ∧ ∀ j, j < k → wrongB T (nthB ss j) = false) (fun i _ => ss.length - (intOf i).toNat)
      case atStart => exact ⟨0, Nat.zero_le _, rfl, Below.refl _ _, fun j hj => by omega⟩
      case round =>
        obtain ⟨k, hk, rfl, hB, hok⟩ := hrel
        have HOk := Lib.hid hok
        have HB := Lib.hid hB
        clear hok hB
        by_cases hlt : k < ss.length
        · have hcell := HX.out.below HB.out hb k hlt
          have hWr := HW.out k hlt
          obtain ⟨s, hs⟩ : ∃ s, nthB ss k = s := ⟨_, rfl⟩
          rw [hs] at hcell hWr
          have Hs := Lib.hid hs
          obtain ⟨z, hz⟩ : ∃ z, s.size = z := ⟨_, rfl⟩
          have hk0 : (0 : Int) ≤ (k : Int) := by omega
          have hk1 : (k : Int) < (ss.length : Int) := by omega
          by_cases hzT : z = T
          · have b4 : ((z : Int) != (T : Int)) = false := by simp; omega
            have Hz := Lib.hid (hz.trans hzT)
            have HWr := Lib.hid hWr
            have HZ := Lib.hid hz
            clear hs hWr hzT
            go_wp2_with fail
            refine (H44 _).mono ?_
            rintro e w2 ⟨rfl, hww⟩
            have HB2 := Lib.hid (show Below w.heap.size w w2 from by rw [hww]; exact HB.out)
            clear hww hcell hz
            go_wp2_with fail
            go_loopw [6] (fun i wz => ∃ t : Nat, t ≤ T ∧ i = .int .i64 (t : Int) ∧ Below w.heap.size w wz ∧ ∀ j, j < t → bytN s j = 120 ∨ bytN s j = 46) (fun i _ => T - (intOf i).toNat)
            case atStart => exact ⟨0, Nat.zero_le _, rfl, HB2.out, fun j hj => by omega⟩
            case round =>
              obtain ⟨t, ht, rfl, hB, hok⟩ := hrel
              have HPk := Lib.hid hok
              have HB3 := Lib.hid hB
              clear hok hB
              by_cases htl : t < T
              · have hcell := HX.out.below HB3.out hb k hlt
                rw [Hs.out] at hcell
                have hi := fun W => bytN_idx (s := s) (k := t) (by rw [Hz.out]; exact htl) W
                obtain ⟨x, hx⟩ : ∃ x, bytN s t = x := ⟨_, rfl⟩
                have Hx := Lib.hid hx
                rw [hx] at hi
                have ht0 : (0 : Int) ≤ (t : Int) := by omega
                have ht1 : (t : Int) < (T : Int) := by omega
                clear hx
                by_cases h1 : x = 120
                · subst h1
                  have HO2 := Lib.hid (show ∀ j, j < t + 1 → bytN s j = 120 ∨ bytN s j = 46 from fun j hj => by
                    by_cases e : j = t
                    · rw [e]; exact .inl Hx.out
                    · exact HPk.out j (by omega))
                  go_wp2_with fail
                  go_roundw
                  case rel => exact ⟨t + 1, by omega, by go_num, HB3.out, HO2.out⟩
                  case measure => simp [intOf]; omega
                · by_cases h2 : x = 46
                  · subst h2
                    have HO2 := Lib.hid (show ∀ j, j < t + 1 → bytN s j = 120 ∨ bytN s j = 46 from fun j hj => by
                      by_cases e : j = t
                      · rw [e]; exact .inr Hx.out
                      · exact HPk.out j (by omega))
                    clear h1
                    go_wp2_with fail
                    go_roundw
                    case rel => exact ⟨t + 1, by omega, by go_num, HB3.out, HO2.out⟩
                    case measure => simp [intOf]; omega
                  · have HN := Lib.hid (HWr.out (by unfold wrongB; rw [pickB_no (s := s) (k := t) (by rw [Hz.out]; exact htl) (by rw [Hx.out]; exact h1) (by rw [Hx.out]; exact h2)]; simp))
                    have d1 : ((x : Int) != 120) = true := by simp; omega
                    have d2 : ((x : Int) != 46) = true := by simp; omega
                    have d3 : ((x : Int) == 120) = false := by simp; omega
                    have d4 : ((x : Int) == 46) = false := by simp; omega
                    clear h1 h2
                    go_wp2_with fail
                    go_ret
                    exact ⟨ret_int (by rw [HN.out]), HB3.out⟩
              · have HY := Lib.hid (pickB_true.2 fun j hj => HPk.out j (by rw [Hz.out] at hj; omega))
                have HO2 := Lib.hid (show ∀ j, j < k + 1 → wrongB T (nthB ss j) = false from fun j hj => by
                  by_cases e : j = k
                  · rw [e, Hs.out]; unfold wrongB; rw [HY.out, Hz.out]; simp
                  · exact HOk.out j (by omega))
                go_wp2_with fail
                go_roundw
                case rel => exact ⟨k + 1, by omega, by go_num, HB3.out, HO2.out⟩
                case measure => simp [intOf]; omega
          · have b4 : ((z : Int) != (T : Int)) = true := by simp; omega
            have HN := Lib.hid (hWr (by unfold wrongB; rw [hz]; simp [hzT]))
            clear hs hWr hzT
            go_wp2_with fail
            go_ret
            exact ⟨ret_int (by rw [HN.out]), HB.out⟩
        · have HN := Lib.hid (HRt.out fun j hj => HOk.out j (by omega))
          go_wp2_with fail
          go_ret
          exact ⟨ret_int (by rw [HN.out]), HB.out⟩
theorem bare_ok (w : World) : Calls Try.prog 51 #[.agg #[.int .i64 0, .slice none 0 0]] w fun e w' => e = .returned (.bool true) ∧ Below w.heap.size w w' := by
  have Hb0 := Lib.hid (show Below w.heap.size w (w.alloc (.cells #[.int .i64 0, .slice none 0 0] 37)) from (Below.refl _ _).alloc (Nat.le_refl _) _)
  go_enter Try.func51, Try.ntmps51
  go_wp2_with fail
  go_ret
  exact ⟨rfl, Hb0.out⟩
/-- the first warp of a hook -/
def FirR (hs : List Nat) (h : Nat) (r : Int) : Prop := (∃ k : Nat, k < hs.length ∧ nthN hs k = h ∧ (∀ j, j < k → nthN hs j ≠ h) ∧ r = (k : Int)) ∨ ((∀ j, j < hs.length → nthN hs j ≠ h) ∧ r = -1)
set_option maxRecDepth 100000 in
set_option maxHeartbeats 1000000 in
theorem refFirst_any (n b off c h : Nat) (hs : List Nat) (w : World) (hv : TAt w b off n hs) (hh : h < 1000) :
    Calls Try.prog 129 #[.agg #[.int .i64 (n : Int), .slice (some ⟨b, off, none⟩) hs.length c], .int .i64 (h : Int)] w fun e w' => (∃ r : Int, e = .returned (.int .i64 r) ∧ FirR hs h r) ∧ Below w.heap.size w w' := by
  obtain ⟨w0, hw0⟩ : ∃ w0, w0 = w.alloc (.cells #[.int .i64 (n : Int), .slice (some ⟨b, off, none⟩) hs.length c] 26) := ⟨_, rfl⟩
  have hb0 : Below w.heap.size w w0 := by rw [hw0]; exact (Below.refl _ _).alloc (Nat.le_refl _) _
  have hA : BoxAt w0 w.heap.size #[.int .i64 (n : Int), .slice (some ⟨b, off, none⟩) hs.length c] 26 := by rw [hw0]; exact BoxAt.new w _ _
  have HV := Lib.hid (hv.next hb0)
  have HW0 := Lib.hid hw0
  have Hb0 := Lib.hid hb0
  have a1 := hA.cell' 1 rfl
  have hT1 := hv.l1
  have hn1 := hv.n1
  clear hw0 hb0 hA hv
  go_enter Try.func129, Try.ntmps129
  go_wp2_with fail
  rw [← HW0.out]
  go_loopw [5] (fun i wr => ∃ k : Nat, k ≤ hs.length ∧ i = .int .i64 (k : Int) ∧ wr = w0 ∧ ∀ j, j < k → nthN hs j ≠ h) (fun i _ => hs.length - (intOf i).toNat)
  case atStart => exact ⟨0, Nat.zero_le _, rfl, rfl, fun j hj => by omega⟩
  case round =>
    obtain ⟨k, hk, rfl, rfl, hno⟩ := hrel
    have HNo := Lib.hid hno
    clear hno
    by_cases hlt : k < hs.length
    · have hc := HV.out.at' k hlt
      have hkn := HV.out.hk k hlt
      have hk0 : (0 : Int) ≤ (k : Int) := by omega
      have hk1 : (k : Int) < (hs.length : Int) := by omega
      obtain ⟨x, hx⟩ : ∃ x, nthN hs k = x := ⟨_, rfl⟩
      have Hx := Lib.hid hx
      rw [hx] at hc hkn
      clear hx
      by_cases e : x = h
      · have hb : ((x : Int) == (h : Int)) = true := by simp [e]
        have HF := Lib.hid (show FirR hs h (k : Int) from .inl ⟨k, hlt, Hx.out.trans e, HNo.out, rfl⟩)
        clear e
        go_wp2_with fail
        go_ret
        exact ⟨⟨_, rfl, HF.out⟩, Hb0.out⟩
      · have hb : ((x : Int) == (h : Int)) = false := by simp; omega
        have HN2 := Lib.hid (show ∀ j, j < k + 1 → nthN hs j ≠ h from fun j hj => by
          by_cases e2 : j = k
          · rw [e2, Hx.out]; exact e
          · exact HNo.out j (by omega))
        clear e
        go_wp2_with fail
        go_roundw
        case rel => exact ⟨k + 1, by omega, by go_num, trivial, HN2.out⟩
        case measure => simp [intOf]; omega
    · have HF := Lib.hid (show FirR hs h (-1) from .inr ⟨fun j hj => HNo.out j (by omega), rfl⟩)
      go_wp2_with fail
      go_ret
      exact ⟨⟨_, rfl, HF.out⟩, Hb0.out⟩
/-- whether a harness or a cloth is too large -/
def lrgB (L : Nat) (ss : List ByteArray) : Bool := ss.any (fun s => decide (110 < s.size)) || decide (110 < L) || decide (70 < ss.length)
set_option maxRecDepth 100000 in
set_option maxHeartbeats 1000000 in
theorem tieLarge3_any (h : Int) (p p2 : Option Addr) (c c2 L : Nat) (ss : List ByteArray) (w : World) (hx : StrR w (.slice p2 ss.length c2) ss) (hl : ss.length ≤ 9223372036854775807) :
    Calls Try.prog 27 #[.agg #[.int .i64 h, .slice p L c], .agg #[.int .i64 0, .slice none 0 0], .slice p2 ss.length c2] w fun e w' => e = .returned (.bool (lrgB L ss)) ∧ Below w.heap.size w w' := by
  obtain ⟨w0, hw0⟩ : ∃ w0, w0 = (w.alloc (.cells #[.int .i64 h, .slice p L c] 26)).alloc (.cells #[.int .i64 0, .slice none 0 0] 37) := ⟨_, rfl⟩
  have hb0 : Below w.heap.size w w0 := by rw [hw0]; exact ((Below.refl _ _).alloc (Nat.le_refl _) _).alloc (by simp) _
  have hA : BoxAt w0 w.heap.size #[.int .i64 h, .slice p L c] 26 := by rw [hw0]; exact (BoxAt.new w _ _).next ((Below.refl _ _).alloc (Nat.le_refl _) _)
  have hP : BoxAt w0 (w.heap.size + 1) #[.int .i64 0, .slice none 0 0] 37 := by
    rw [hw0]; have := BoxAt.new (w.alloc (.cells #[.int .i64 h, .slice p L c] 26)) #[.int .i64 0, .slice none 0 0] 37; rw [World.size_alloc] at this; exact this
  have HX := Lib.hid (hx.next hb0)
  have HW0 := Lib.hid hw0
  have Hb0 := Lib.hid hb0
  have a1 := hA.cell' 1 rfl
  have b1 := hP.cell' 1 rfl
  clear hw0 hb0 hA hP hx
  go_enter Try.func27, Try.ntmps27
  go_wp2_with fail
  rw [← HW0.out]
  go_loopw [7] (fun i wr => ∃ k : Nat, k ≤ ss.length ∧ i = .int .i64 (k : Int) ∧ wr = w0 ∧ ∀ j, j < k → ¬ 110 < (nthB ss j).size) (fun i _ => ss.length - (intOf i).toNat)
  case atStart => exact ⟨0, Nat.zero_le _, rfl, rfl, fun j hj => by omega⟩
  case round =>
    obtain ⟨k, hk, rfl, rfl, hno⟩ := hrel
    have HNo := Lib.hid hno
    clear hno
    by_cases hlt : k < ss.length
    · obtain ⟨b, off, rfl, hb, hx⟩ := HX.out.open (by omega)
      have hc := hx k hlt
      have hk0 : (0 : Int) ≤ (k : Int) := by omega
      have hk1 : (k : Int) < (ss.length : Int) := by omega
      obtain ⟨s, hs⟩ : ∃ s, nthB ss k = s := ⟨_, rfl⟩
      have Hs := Lib.hid hs
      rw [hs] at hc
      obtain ⟨z, hz⟩ : ∃ z, s.size = z := ⟨_, rfl⟩
      clear hx
      by_cases e : 110 < z
      · have d1 : decide ((110 : Int) < (z : Int)) = true := decide_eq_true (by omega)
        have d2 : decide (110 < z) = true := decide_eq_true e
        have HA := Lib.hid (show lrgB L ss = true by
          unfold lrgB
          rw [show ss.any (fun s => decide (110 < s.size)) = true from ?_]
          · rfl
          rw [List.any_eq_true]
          exact ⟨s, by rw [← hs, nthB_get _ _ hlt]; exact List.getElem_mem _, by rw [hz]; exact d2⟩)
        clear e hs
        go_wp2_with fail
        go_ret
        exact ⟨ret_bool (by rw [HA.out]), Hb0.out⟩
      · have d1 : decide ((110 : Int) < (z : Int)) = false := decide_eq_false (by omega)
        have d2 : decide (110 < z) = false := decide_eq_false e
        have HN2 := Lib.hid (show ∀ j, j < k + 1 → ¬ 110 < (nthB ss j).size from fun j hj => by
          by_cases e2 : j = k
          · rw [e2, hs, hz]; exact e
          · exact HNo.out j (by omega))
        clear e hs
        go_wp2_with fail
        go_roundw
        case rel => exact ⟨k + 1, by omega, by go_num, trivial, HN2.out⟩
        case measure => simp [intOf]; omega
    · have hA : ss.any (fun s => decide (110 < s.size)) = false := by
        rw [List.any_eq_false]
        intro s hs
        obtain ⟨i, hi, rfl⟩ := List.mem_iff_getElem.1 hs
        have := HNo.out i (by omega)
        rw [nthB_get _ _ hi] at this
        simp; omega
      have Hv := Lib.hid (show lrgB L ss = (decide (110 < L) || decide (70 < ss.length)) by unfold lrgB; rw [hA]; rfl)
      clear hA
      by_cases e : 110 < L
      · have d1 : decide ((110 : Int) < (L : Int)) = true := decide_eq_true (by omega)
        have d2 : decide (110 < L) = true := decide_eq_true e
        clear e
        go_wp2_with fail
        go_ret
        exact ⟨ret_bool (by rw [Hv.out, d2]; rfl), Hb0.out⟩
      · have d1 : decide ((110 : Int) < (L : Int)) = false := decide_eq_false (by omega)
        have d2 : decide (110 < L) = false := decide_eq_false e
        clear e
        by_cases e : 70 < ss.length
        · have d3 : decide ((70 : Int) < (ss.length : Int)) = true := decide_eq_true (by omega)
          have d4 : decide (70 < ss.length) = true := decide_eq_true e
          clear e
          go_wp2_with fail
          go_ret
          exact ⟨ret_bool (by rw [Hv.out, d2, d4]; rfl), Hb0.out⟩
        · have d3 : decide ((70 : Int) < (ss.length : Int)) = false := decide_eq_false (by omega)
          have d4 : decide (70 < ss.length) = false := decide_eq_false e
          clear e
          go_wp2_with fail
          go_ret
          exact ⟨ret_bool (by rw [Hv.out, d2, d4]; rfl), Hb0.out⟩
end Go.Proofs.Ytdmgffoikebgkaa
/- Chapter 3: the reference's rows and designs out of points. -/
namespace Go.Proofs.Ytdmgffoikebgkaa
open Go.RowKit

theorem row_step (f : Nat → Bool) (m k : Nat) (hk : k < m) : rowTo f m / 2 ^ k = 2 * (rowTo f m / 2 ^ (k + 1)) + (f k).toNat := by
  have h1 : rowTo f m / 2 ^ (k + 1) = rowTo f m / 2 ^ k / 2 := by rw [Nat.pow_succ, Nat.div_div_eq_div_mul]
  have h2 : rowTo f m / 2 ^ k % 2 = (f k).toNat := by
    rw [← Nat.toNat_testBit, rowTo_bit]; simp [hk]
  omega
theorem rowTo_lt24 (f : Nat → Bool) (m : Nat) (hm : m ≤ 24) : rowTo f m < 16777216 :=
  Nat.lt_of_lt_of_le (rowTo_lt f m) (Nat.le_trans (Nat.pow_le_pow_right (by decide) hm) (by decide))

set_option maxHeartbeats 1000000 in
theorem refRow_any (b c m : Nat) (f : Nat → Bool) (w : World) (hm : m ≤ 24) (hB : BoolsAt w b m f) :
    Calls Try.prog 183 #[.slice (some ⟨b, 0, none⟩) m c] w fun e w' => e = .returned (.int .i64 (rowTo f m : Nat)) ∧ w = w' := by
  have hlt0 := rowTo_lt24 f m hm
  have hend := Lib.hid (Nat.div_eq_of_lt (rowTo_lt f m))
  have HS := Lib.hid (fun k hk => row_step f m k hk)
  obtain ⟨X, hX⟩ : ∃ X, X = rowTo f m := ⟨_, rfl⟩
  rw [← hX] at hend HS hlt0 ⊢
  have HC := Lib.hid hB.c
  clear hX hB
  go_enter Try.func183, Try.ntmps183
  go_wp2
  go_loop [3, 4] (fun r i => ∃ k : Nat, k ≤ m ∧ i = .int .i64 ((k : Int) - 1) ∧ r = .int .i64 ((X / 2 ^ k : Nat) : Int)) (fun _ i => (intOf i + 1).toNat)
  case atStart => exact ⟨m, Nat.le_refl _, rfl, by rw [hend.out]; rfl⟩
  case round =>
    obtain ⟨k, hk, rfl, rfl⟩ := hrel
    rcases k with _ | j
    · go_wp2
      go_ret
      exact ⟨ret_int (by simp), rfl⟩
    · have hst := HS.out j (by omega)
      have hc := HC.out j (by omega)
      have hle : X / 2 ^ j ≤ X := Nat.div_le_self _ _
      have hk0 : (0 : Int) ≤ (j : Int) := by omega
      have hk1 : (j : Int) < (m : Int) := by omega
      rw [show ((j + 1 : Nat) : Int) - 1 = (j : Int) by omega]
      obtain ⟨y, hy⟩ : ∃ y, y = X / 2 ^ (j + 1) := ⟨_, rfl⟩
      obtain ⟨z, hz⟩ : ∃ z, z = X / 2 ^ j := ⟨_, rfl⟩
      rw [← hy, ← hz] at hst
      rw [← hz] at hle
      rw [← hy]
      have HZ := Lib.hid hz
      clear hy hz
      cases hf : f j with
      | true =>
        rw [hf] at hst hc
        have Hst := Lib.hid hst
        have hyl : 2 * y + 1 ≤ 16777216 := by simp at hst; omega
        clear hst hf
        go_wp2
        go_round
        case rel => exact ⟨j, by omega, rfl, by rw [← HZ.out, Hst.out]; simp; omega⟩
        case measure => simp [intOf]
      | false =>
        rw [hf] at hst hc
        have Hst := Lib.hid hst
        have hyl : 2 * y ≤ 16777216 := by simp at hst; omega
        clear hst hf
        go_wp2
        go_round
        case rel => exact ⟨j, by omega, rfl, by rw [← HZ.out, Hst.out]; simp; omega⟩
        case measure => simp [intOf]

theorem copyOf_form {W : World} {B : Nat} {v : Value} {xs : List Int} (hlx : xs.length ≤ 17592186044416) (h : W.ownsRow B 3 1 v xs.length (xs.map (Value.int .i64))) : ∃ p c, v = .slice p xs.length c ∧ Reads W (.slice p xs.length c) xs ∧ (∀ a, p = some a → B ≤ a.block) := by
  have h0 := h
  obtain ⟨hl, ⟨rfl, hz⟩ | ⟨g, cap, cur, rfl, hg, hh, h1, h2, r⟩⟩ := h
  · obtain rfl : xs = [] := List.eq_nil_of_length_eq_zero hz
    exact ⟨_, _, rfl, ⟨_, _, rfl, by simp, fun h => by simp at h⟩, fun a h => by simp at h⟩
  · refine ⟨_, _, rfl, ⟨_, _, rfl, hlx, fun _ => ⟨g, 0, rfl, (Array.getElem?_eq_some_iff.1 hh).1, fun i hi => ?_⟩⟩, fun a h => by obtain rfl := Option.some.inj h; exact hg⟩
    have := h0.cellAt (0 + i) (by omega)
    rw [this, Nat.zero_add, List.getElem?_map, List.getElem?_eq_getElem hi, nthI_get xs i hi]
    rfl
theorem Reads.set {W : World} {p : Option Addr} {n c : Nat} {xs : List Int} (h : Reads W (.slice p n c) xs) (q : Addr) (u : Value) (hne : ∀ a, p = some a → a.block ≠ q.block) : Reads (W.setCell q u) (.slice p n c) xs := by
  obtain ⟨p', c', e, hl, hx⟩ := h
  refine ⟨p', c', e, hl, fun h0 => ?_⟩
  obtain ⟨b, off, rfl, hb, hi⟩ := hx h0
  have hpe : p = some ⟨b, off, none⟩ := by
    simp at e; exact e.1
  have hbq := hne _ hpe
  refine ⟨b, off, rfl, ?_, fun i hi' => (World.cell?_of_block (w := W) (a := ⟨b, off + i, none⟩) (Below.heap_setCell W q u b hbq)).trans (hi i hi')⟩
  simpa [World.setCell] using hb
/-- a design that is filled row by row, in a box of its own behind W1 -/
structure Mk (W1 : World) (D n : Nat) (rows : List Nat) (v : Value) (W : World) : Prop where
  r : RBox W D n v
  row : W.ownsRow (D + 1) 3 1 v rows.length (rows.map natV)
  below : Below D W1 W
theorem Mk.new (W : World) (n : Nat) : Mk W W.heap.size n [] (.slice none 0 0) (W.alloc (.cells #[.int .i64 (n : Int), .slice none 0 0] 37)) :=
  ⟨World.alloc_heap_new W _, World.ownsRow_nil _ _ _ _, (Below.refl _ _).alloc (Nat.le_refl _) _⟩
section
variable {W1 W W' : World} {D n : Nat} {rows rows' : List Nat} {v v' : Value}
theorem Mk.next (h : Mk W1 D n rows v W) (hb : Below W.heap.size W W') : Mk W1 D n rows v W' :=
  ⟨(hb.block _ h.r.lt).trans h.r, ownsRow_next h.row hb, h.below.trans (hb.mono (by have := h.r.lt; omega))⟩
theorem Mk.far (h : Mk W1 D n rows v W) {j : Nat} (hj : j ≤ D) : some j ≠ v.ownBlock := ownsRow_far h.row (by omega)
theorem Mk.grew (h : Mk W1 D n rows v W) (hg : W.grownBy W' v.ownBlock) (hown : W'.ownsRow (D + 1) 3 1 v' rows'.length (rows'.map natV)) : Mk W1 D n rows' v' (W'.setCell ⟨D, 1, none⟩ v') := by
  have hr := (hg.block D h.r.lt (h.far (Nat.le_refl _))).trans h.r
  refine ⟨RBox.set1 hr v', own_set hown _ _ (ownsRow_far hown (by simp)), ?_⟩
  exact (h.below.grown hg (by have := h.r.lt; omega) (fun k hk => by have := (h.row.lt k hk).1; omega)).setCell (Nat.le_refl _) _
theorem Mk.slice (h : Mk W1 D n rows v W) : ∃ p a c, v = .slice p a c := by
  obtain ⟨_, ⟨h, _⟩ | ⟨g, cap, cur, h, _⟩⟩ := h.row
  · exact ⟨_, _, _, h⟩
  · exact ⟨_, _, _, h⟩
/-- what was filled, as a list -/
theorem Mk.reads (h : Mk W1 D n rows v W) (hl : rows.length ≤ 1000) : ∃ p c, v = .slice p rows.length c ∧ Reads W (.slice p rows.length c) (ints rows) ∧ (∀ a, p = some a → D < a.block) := by
  have hm : rows.map natV = (ints rows).map (Value.int .i64) := by simp [ints, natV]
  have h2 : W.ownsRow (D + 1) 3 1 v (ints rows).length ((ints rows).map (Value.int .i64)) := by
    rw [ints_len, ← hm]; exact h.row
  obtain ⟨p, c, h3, h4, h5⟩ := copyOf_form (by rw [ints_len]; omega) h2
  rw [ints_len] at h3 h4
  exact ⟨p, c, h3, h4, fun a ha => by have := h5 a ha; omega⟩
end
/-- a new design -/
def CopyN (h : Int) (xs : List Int) (w : World) (e : Ending) (w' : World) : Prop := ∃ p c, e = .returned (.agg #[.int .i64 h, .slice p xs.length c]) ∧ Reads w' (.slice p xs.length c) xs ∧ (∀ a, p = some a → w.heap.size ≤ a.block) ∧ Below w.heap.size w w'
theorem painted_succ (f : Nat → Nat → Bool) (k m : Nat) : painted f (k + 1) m = painted f k m ++ [rowTo (f k) m] := by simp [painted, List.range_succ]

set_option maxRecDepth 100000 in
set_option maxHeartbeats 4000000 in
theorem Design_any (g N m c : Nat) (f : Nat → Nat → Bool) (w : World) (hN1 : 1 ≤ N) (hN : N ≤ 60) (hm : m ≤ 24) (hT : TabAt w g N m f) :
    Calls Try.prog 130 #[.slice (some ⟨g, 0, none⟩) N c] w (CopyN (m : Int) (ints (painted f N m)) w) := by
  obtain ⟨i0, hi, hz0, hz1, hz2⟩ := info_parts Try.info3
  have hT1 := hT.below (below1 w (.cells #[.int .i64 0, .slice none 0 0] 37))
  obtain ⟨b0, c0, h0, _⟩ := hT1.r 0 (by omega)
  have hN0 : (0 : Int) < (N : Int) := by omega
  have HT := Lib.hid hT
  clear hT hT1
  go_enter Try.func130, Try.ntmps130
  go_wp2_with fail
  have hMk := Mk.new (w.alloc (.cells #[.int .i64 0, .slice none 0 0] 37)) m
  rw [World.size_alloc] at hMk
  have hW1 : Below w.heap.size w (w.alloc (.cells #[.int .i64 0, .slice none 0 0] 37)) := below1 _ _
  have hQ := ResBox.new w
  obtain ⟨W1, hW1e⟩ : ∃ W1, W1 = w.alloc (.cells #[.int .i64 0, .slice none 0 0] 37) := ⟨_, rfl⟩
  rw [← hW1e] at hMk hW1 hQ h0 ⊢
  have HMk := Lib.hid hMk
  have HW1 := Lib.hid hW1
  have HQ := Lib.hid hQ
  clear hW1e hMk hW1 hQ h0
  go_loopw [4] (fun i wr => ∃ k : Nat, k ≤ N ∧ i = .int .i64 k ∧ ∃ v, Mk W1 (w.heap.size + 1) m (painted f k m) v wr) (fun i _ => N - (intOf i).toNat)
  case atStart => exact ⟨0, Nat.zero_le _, rfl, _, HMk.out⟩
  case round =>
    obtain ⟨k, hk, rfl, v, hM⟩ := hrel
    have hlen : (painted f k m).length = k := painted_len _ _ _
    have Hlen := Lib.hid hlen
    clear hlen
    by_cases hlt : k < N
    · have hBw : Below w.heap.size w wr := HW1.out.trans (hM.below.mono (by omega))
      have hTr := (HT.out.below hBw).r k hlt
      obtain ⟨bk, ck, hck, hbk⟩ := hTr
      have Hr := refRow_any bk ck m (f k) wr.drew hm (hbk.below (Below.refl _ _).drew hbk.lt)
      have hk0 : (0 : Int) ≤ (k : Int) := by omega
      have hk1 : (k : Int) < (N : Int) := by omega
      have g0 := hM.r.c1
      have g1 := hM.r.f 1
      have hz : w.heap.size + 1 < wr.heap.size := hM.r.lt
      have HM := Lib.hid hM
      have HRow := Lib.hid hM.row
      have hnr := hM.far (Nat.le_refl _)
      have hn25 : k + 1 ≤ maxLen := by unfold maxLen; omega
      obtain ⟨X, hX⟩ : ∃ X, X = rowTo (f k) m := ⟨_, rfl⟩
      rw [← hX] at Hr
      have HX := Lib.hid hX
      clear hM hBw hX hbk
      go_wp2_with fail
      go_region_law
        (first
          | (go_simp; go_at_call 183; (with_reducible refine Hr.mono ?_); rintro e w5 ⟨rfl, rfl⟩)
          | ((refine step_append_lies _ (by rfl) _ _ _ (by rfl) (w.heap.size + 1 + 1) 3 i0 _ 1 8 Try.underlying24 hi hz0 hz1 hz2 rfl (by omega) v (painted f k m).length ((painted f k m).map natV) (by rfl) ((HRow.out.alloc _).drew)
                  ⟨wr.heap.size, 0, none⟩ 1 1 [.int .i64 (X : Int)] (by rfl) (by rfl) (World.news_of_block (cs := #[.int .i64 (X : Int)]) (t := 3) (fr := (0, 0)) (heap_alloc_new wr _)) (by simp [Value.oneCell'])
                  (by omega) (by rw [Hlen.out]; exact hn25) (by rw [Hlen.out]; omega) (by simp; omega) (wr.heap.size + 1) (by simp) ?_; intro g5 cap w5 hown1 hgrow hat hglt)
             have hBA := (HM.out.next (((Below.refl wr.heap.size wr).alloc (Nat.le_refl _) (.cells #[.int .i64 (X : Int)] 3)).drew)).grew (rows' := painted f k m ++ [X]) hgrow (by rw [List.length_append, List.length_singleton, List.map_append]; exact hown1)
             have hr5 : RBox w5 (w.heap.size + 1) m v := (hgrow.block _ (by simp; omega) hnr).trans ((Below.heap_alloc _ _ _ hz).trans HM.out.r)
             have f5 := hr5.f 1
             have c5 := hr5.c1
             have HBA := Lib.hid hBA
             clear hBA hr5 hown1 hgrow hat))
      all_goals
        (obtain ⟨W5, hW5⟩ : ∃ W5, W5 = w5.setCell ⟨w.heap.size + 1, 1, none⟩ (.slice (some ⟨g5, 0, none⟩) ((painted f k m).length + 1) cap) := ⟨_, rfl⟩
         rw [← hW5] at HBA ⊢
         clear hW5 f5 c5
         go_wp2_with fail
         go_roundw)
      all_goals first
        | (simp [intOf]; omega)
        | exact ⟨k + 1, by omega, by go_num, _, by rw [painted_succ, ← HX.out]; exact HBA.out⟩
    · obtain rfl : k = N := by omega
      have h5 := hM.reads (by rw [Hlen.out]; omega)
      rw [Hlen.out] at h5
      obtain ⟨p, cc, rfl, hRd, hfar⟩ := h5
      have f0 := hM.r.c0
      have f1 := hM.r.c1
      have q := HQ.out.below hM.below (by omega)
      have k0 := q.c0
      have k1 := q.c1
      have k2 := q.f 0
      have k3 := q.f 1
      have HBw := Lib.hid (HW1.out.trans (hM.below.mono (by omega)))
      have HRd := Lib.hid hRd
      have Hfar := Lib.hid hfar
      clear hM q hRd hfar
      go_wp2_with fail
      refine bodyPost_ret (v := .agg #[.int .i64 (m : Int), .slice p k cc]) ?_ rfl ⟨p, cc, by rw [ints_len, painted_len], ?_, fun a e => by have := Hfar.out a e; omega, (HBw.out.setCell (by simp) _).setCell (by simp) _⟩
      · simp [results, Try.results130, go_sem, k0, k1]
      · rw [ints_len, painted_len]
        exact (HRd.out.set _ _ (fun a e => by have := Hfar.out a e; simp; omega)).set _ _ (fun a e => by have := Hfar.out a e; simp; omega)
end Go.Proofs.Ytdmgffoikebgkaa
/- Chapter 3: the reference's floats of a cloth. -/
namespace Go.Proofs.Ytdmgffoikebgkaa
open Go.RowKit Go.Shelf
attribute [local go_sem] Oper.semAt_some

theorem elemBool : ElemT 168 4 1 1 := by
  obtain ⟨i, hi, hz0, hz1, hz2⟩ := info_parts tInfo4
  exact ⟨i, _, by kernel_rfl, hi, hz0, hz1, hz2, rfl, by decide⟩
end Go.Proofs.Ytdmgffoikebgkaa
/- Chapter 3: where two warps of one hook are not alike, and the design of a cloth, as the reference finds them. -/
namespace Go.Proofs.Ytdmgffoikebgkaa
open Go.RowKit Go.Shelf
attribute [local go_sem] Oper.semAt_some

theorem fir_fst {hs : List Nat} {q : Nat} {r : Int} (hq : q < hs.length) (h : FirR hs (nthN hs q) r) : r = (fstI (nthN hs) q : Int) := by
  rcases h with ⟨k, hk, e, hmin, rfl⟩ | ⟨hno, _⟩
  · have : k = fstI (nthN hs) q := by
      rcases Nat.lt_trichotomy k (fstI (nthN hs) q) with h1 | h1 | h1
      · exact absurd e (fstI_least h1)
      · exact h1
      · exact absurd (fstI_key (key := nthN hs) q) (hmin _ h1)
    rw [this]
  · exact absurd rfl (hno q hq)
theorem fir_first {hs : List Nat} {h : Nat} {r : Int} (hr : FirR hs h r) : (∃ k : Nat, k < hs.length ∧ firstH hs h = some k ∧ r = (k : Int)) ∨ (firstH hs h = none ∧ r = -1) := by
  rcases hr with ⟨k, hk, e, hmin, rfl⟩ | ⟨hno, rfl⟩
  · refine .inl ⟨k, hk, ?_, rfl⟩
    unfold firstH
    rw [List.find?_range_eq_some]
    exact ⟨by simpa using e, by simpa using hk, fun j hj => by simpa using hmin j hj⟩
  · refine .inr ⟨?_, rfl⟩
    unfold firstH
    rw [List.find?_eq_none]
    intro j hj
    simpa using hno j (by simpa using hj)
def region_pt7U : List (List Nat) := [[], [], [], [], [], [], [], []]
def region_pt7X (Z n b off c L j x o : Nat) : Nat → (Nat → Hd) → Value
  | 0, _ => .agg #[.int .i64 (n : Int), .slice (some ⟨b, off, none⟩) L c]
  | 1, _ => .pointer (some ⟨Z, 1, none⟩)
  | 2, _ => .slice (some ⟨b, off, none⟩) L c
  | 3, _ => .int .i64 (j : Int)
  | 4, _ => .pointer (some ⟨b, (off + j), none⟩)
  | 5, _ => .int .i64 (x : Int)
  | 6, _ => .int .i64 (o : Int)
  | 7, _ => .int .i64 (o : Int)
  | _ + 8, _ => undef
theorem region_pt7X.congr (Z n b off c L j x o : Nat) : ∀ i hds hds', (∀ r ∈ uOf region_pt7U i, hds r = hds' r) → region_pt7X Z n b off c L j x o i hds = region_pt7X Z n b off c L j x o i hds'
  | 0, _, _, _ => rfl
  | 1, _, _, _ => rfl
  | 2, _, _, _ => rfl
  | 3, _, _, _ => rfl
  | 4, _, _, _ => rfl
  | 5, _, _, _ => rfl
  | 6, _, _, _ => rfl
  | 7, _, _, _ => rfl
  | _ + 8, _, _, _ => rfl
def region_pt7M (_Z _n _b _off _c _L _j _x _o : Nat) : Nat → Mem
  | _ => memNone
def region_pt7S (_Z _n _b _off _c _L _j _x _o : Nat) : Nat → Option Sto
  | _ => none
set_option maxRecDepth 8000 in
set_option maxHeartbeats 2000000 in
theorem region_pt7 {id : Nat} {ops : Array Oper} {Q : Exit → Act → World → Prop} {a : Act} {w : World} (Z n b off c L j x o : Nat) (hc : ∀ W, Below w.heap.size w W → W.cell? ⟨b, off + j, none⟩ = some (.int .i64 (x : Int))) (hj : j < L) (hL : L ≤ 1000) (H129 : ∀ W, Below w.heap.size w W → Calls Try.prog 129 #[.agg #[.int .i64 (n : Int), .slice (some ⟨b, off, none⟩) L c], .int .i64 (x : Int)] W fun e w' => e = .returned (.int .i64 (o : Int)) ∧ Below W.heap.size W w') (hZ : BoxAt w Z #[.int .i64 (n : Int), .slice (some ⟨b, off, none⟩) L c] 26)
    (gsize : ops.size = 8)
    (gops : IsOp ops 0 (some 22) (.load 26 (.tmp 2)) none [] ∧ IsOp ops 1 (some 23) (.fieldAddr 26 (.tmp 2) 1) none [] ∧ IsOp ops 2 (some 24) (.load 24 (.tmp 23)) none [1] ∧ IsOp ops 3 (some 25) (.move (.tmp 7)) none [] ∧ IsOp ops 4 (some 26) (.indexAddr 24 (.tmp 24) (.tmp 25)) none [2, 3] ∧ IsOp ops 5 (some 27) (.load 3 (.tmp 26)) none [4] ∧ IsOp ops 6 (some 28) (.call { callee := .value (.func 129), args := #[.tmp 22, .tmp 27], argTypes := #[26, 3] }) none [0, 5] ∧ IsOp ops 7 (some 8) (.assign (.tmp 28)) none [6])
    (gbk : backB ops = true) (gds : dstsB ops (dOf [some 22, some 23, some 24, some 25, some 26, some 27, some 28, some 8]) = true) (gus : useB ops (uOf region_pt7U) (kOf [0, 0, 0, 0, 0, 0, 0, 0]) = true) (ggd : plainB ops = true) (gsz : ∀ e ∈ [22, 23, 24, 25, 26, 27, 28, 8], e < a.tmps.size)
    (gout : a.eval (.tmp 2) = .pointer (some ⟨Z, 0, none⟩) ∧ a.eval (.tmp 7) = .int .i64 (j : Int))
    (gend : ∀ (u22 u23 u24 u25 u26 u27 u28 : Value) (W : World), Below w.heap.size w W → Q .normal (putL a [(22, u22), (23, u23), (24, u24), (25, u25), (26, u26), (27, u27), (28, u28), (8, .int .i64 (o : Int))]) W) :
    (Code.region id ops true).wp Try.prog Q a w := by
  obtain ⟨iop0, iop1, iop2, iop3, iop4, iop5, iop6, iop7⟩ := gops
  obtain ⟨o2, o7⟩ := gout
  refine region_all (RSp.of 8 [some 22, some 23, some 24, some 25, some 26, some 27, some 28, some 8] (fun _ => true) (region_pt7X Z n b off c L j x o) region_pt7U [0, 0, 0, 0, 0, 0, 0, 0] (region_pt7M Z n b off c L j x o) (region_pt7S Z n b off c L j x o)) [(2, .pointer (some ⟨Z, 0, none⟩)), (7, .int .i64 (j : Int))] [22, 23, 24, 25, 26, 27, 28, 8] (RSp.of_fit gsize.symm gbk gds gus ggd (by decide) ?_) (RSp.of_ok _ (region_pt7X.congr Z n b off c L j x o) ?_) gsz ?_ ?_ ?_
  · intro p hp
    have hp2 : p ∈ ([] : List (Nat × Nat)) := hp
    cases hp2
  · intro i s hds
    match i, hds with
    | 0, hds => cases hds
    | 1, hds => cases hds
    | 2, hds => cases hds
    | 3, hds => cases hds
    | 4, hds => cases hds
    | 5, hds => cases hds
    | 6, hds => cases hds
    | 7, hds => cases hds
    | _ + 8, hds => cases hds
  · intro q hq
    simp only [List.mem_cons, List.not_mem_nil, or_false] at hq
    rcases hq with rfl | rfl
    · exact ⟨o2, by simp⟩
    · exact ⟨o7, by simp⟩
  · intro i o ho hw
    have hi : i < 8 := by rw [← gsize]; exact (Array.getElem?_eq_some_iff.1 ho).1
    match i, hi with
    | 0, _ =>
      obtain ⟨ty, pos, aft, e, hdp⟩ := iop0
      rw [e] at ho
      obtain rfl := Option.some.inj ho
      intro a' hds W K hB lq ld hmem hK
      have e2 : a'.eval (.tmp 2) = .pointer (some ⟨Z, 0, none⟩) := by rw [eval_tmp]; exact lq (2, .pointer (some ⟨Z, 0, none⟩)) (by simp)
      have t2 := (eval_tmp a' 2).symm.trans e2
      have HK := Lib.hid (show K (a'.put (some 22) (.agg #[.int .i64 (n : Int), .slice (some ⟨b, off, none⟩) L c])) W from hK W (Below.refl _ _) trivial)
      clear hK ld lq hmem
      have c0 := (hZ.next hB).cell' 0 rfl
      have c1 := (hZ.next hB).cell' 1 rfl
      unfold Oper.wp
      simp only [execOp, e2]
      go_simp
      exact HK.out
    | 1, _ =>
      obtain ⟨ty, pos, aft, e, hdp⟩ := iop1
      rw [e] at ho
      obtain rfl := Option.some.inj ho
      intro a' hds W K hB lq ld hmem hK
      have e2 : a'.eval (.tmp 2) = .pointer (some ⟨Z, 0, none⟩) := by rw [eval_tmp]; exact lq (2, .pointer (some ⟨Z, 0, none⟩)) (by simp)
      have t2 := (eval_tmp a' 2).symm.trans e2
      have HK := Lib.hid (show K (a'.put (some 23) (.pointer (some ⟨Z, 1, none⟩))) W from hK W (Below.refl _ _) trivial)
      clear hK ld lq hmem
      unfold Oper.wp
      simp only [execOp, e2]
      go_simp
      exact HK.out
    | 2, _ =>
      obtain ⟨ty, pos, aft, e, hdp⟩ := iop2
      rw [e] at ho
      obtain rfl := Option.some.inj ho
      intro a' hds W K hB lq ld hmem hK
      have e23 : a'.eval (.tmp 23) = .pointer (some ⟨Z, 1, none⟩) := by rw [eval_tmp]; exact ld 1 23 (List.all_eq_true.1 hdp 1 (by decide)) rfl
      have t23 := (eval_tmp a' 23).symm.trans e23
      have HK := Lib.hid (show K (a'.put (some 24) (.slice (some ⟨b, off, none⟩) L c)) W from hK W (Below.refl _ _) trivial)
      clear hK ld lq hmem
      have c1 := (hZ.next hB).cell' 1 rfl
      unfold Oper.wp
      simp only [execOp, e23]
      go_simp
      exact HK.out
    | 3, _ =>
      obtain ⟨ty, pos, aft, e, hdp⟩ := iop3
      rw [e] at ho
      obtain rfl := Option.some.inj ho
      intro a' hds W K hB lq ld hmem hK
      have e7 : a'.eval (.tmp 7) = .int .i64 (j : Int) := by rw [eval_tmp]; exact lq (7, .int .i64 (j : Int)) (by simp)
      have t7 := (eval_tmp a' 7).symm.trans e7
      have HK := Lib.hid (show K (a'.put (some 25) (.int .i64 (j : Int))) W from hK W (Below.refl _ _) trivial)
      clear hK ld lq hmem
      unfold Oper.wp
      simp only [execOp, e7]
      exact HK.out
    | 4, _ =>
      obtain ⟨ty, pos, aft, e, hdp⟩ := iop4
      rw [e] at ho
      obtain rfl := Option.some.inj ho
      intro a' hds W K hB lq ld hmem hK
      have e24 : a'.eval (.tmp 24) = .slice (some ⟨b, off, none⟩) L c := by rw [eval_tmp]; exact ld 2 24 (List.all_eq_true.1 hdp 2 (by decide)) rfl
      have t24 := (eval_tmp a' 24).symm.trans e24
      have e25 : a'.eval (.tmp 25) = .int .i64 (j : Int) := by rw [eval_tmp]; exact ld 3 25 (List.all_eq_true.1 hdp 3 (by decide)) rfl
      have t25 := (eval_tmp a' 25).symm.trans e25
      have HK := Lib.hid (show K (a'.put (some 26) (.pointer (some ⟨b, (off + j), none⟩))) W from hK W (Below.refl _ _) trivial)
      clear hK ld lq hmem
      unfold Oper.wp
      simp only [execOp, e24, e25]
      go_simp
      exact HK.out
    | 5, _ =>
      obtain ⟨ty, pos, aft, e, hdp⟩ := iop5
      rw [e] at ho
      obtain rfl := Option.some.inj ho
      intro a' hds W K hB lq ld hmem hK
      have e26 : a'.eval (.tmp 26) = .pointer (some ⟨b, (off + j), none⟩) := by rw [eval_tmp]; exact ld 4 26 (List.all_eq_true.1 hdp 4 (by decide)) rfl
      have t26 := (eval_tmp a' 26).symm.trans e26
      have HK := Lib.hid (show K (a'.put (some 27) (.int .i64 (x : Int))) W from hK W (Below.refl _ _) trivial)
      clear hK ld lq hmem
      have h0 := hc W hB
      unfold Oper.wp
      simp only [execOp, e26]
      go_simp
      exact HK.out
    | 6, _ =>
      obtain ⟨ty, pos, aft, e, hdp⟩ := iop6
      rw [e] at ho
      obtain rfl := Option.some.inj ho
      intro a' hds W K hB lq ld hmem hK
      have e22 : a'.eval (.tmp 22) = .agg #[.int .i64 (n : Int), .slice (some ⟨b, off, none⟩) L c] := by rw [eval_tmp]; exact ld 0 22 (List.all_eq_true.1 hdp 0 (by decide)) rfl
      have t22 := (eval_tmp a' 22).symm.trans e22
      have e27 : a'.eval (.tmp 27) = .int .i64 (x : Int) := by rw [eval_tmp]; exact ld 5 27 (List.all_eq_true.1 hdp 5 (by decide)) rfl
      have t27 := (eval_tmp a' 27).symm.trans e27
      have HK := Lib.hid (show ∀ W', Below W.heap.size W W' → K (a'.put (some 28) (.int .i64 (o : Int))) W' from fun W' h => hK W' h trivial)
      clear hK ld lq hmem
      refine step_call (vals := #[.agg #[.int .i64 (n : Int), .slice (some ⟨b, off, none⟩) L c], .int .i64 (x : Int)]) (by exact ⟨_, _, Try.func129, by kernel_rfl, rfl⟩) (by simp only [List.map_toArray, List.map_cons, List.map_nil, e22, e27]) (H129 W hB) ?_
      rintro e w' ⟨rfl, hb'⟩
      exact ⟨_, rfl, HK.out _ hb'⟩
    | 7, _ =>
      obtain ⟨ty, pos, aft, e, hdp⟩ := iop7
      rw [e] at ho
      obtain rfl := Option.some.inj ho
      intro a' hds W K hB lq ld hmem hK
      have e28 : a'.eval (.tmp 28) = .int .i64 (o : Int) := by rw [eval_tmp]; exact ld 6 28 (List.all_eq_true.1 hdp 6 (by decide)) rfl
      have t28 := (eval_tmp a' 28).symm.trans e28
      have HK := Lib.hid (show K (a'.put (some 8) (.int .i64 (o : Int))) W from hK W (Below.refl _ _) trivial)
      clear hK ld lq hmem
      unfold Oper.wp
      simp only [execOp, e28]
      exact HK.out
    | i + 8, h => omega
  · intro hds v W hO
    have hfin := gend (v 22) (v 23) (v 24) (v 25) (v 26) (v 27) (v 28) W hO.b
    rw [← laid_putL _ a v ?_] at hfin
    · exact hfin
    · intro p hp
      simp only [List.mem_cons, List.not_mem_nil, or_false] at hp
      rcases hp with rfl | rfl | rfl | rfl | rfl | rfl | rfl | rfl
      · rfl
      · rfl
      · rfl
      · rfl
      · rfl
      · rfl
      · rfl
      · exact hO.x 7 (show 7 < 8 by decide) 8 rfl
/-- what the reference's Part keeps -/
structure PpS (w : World) (n b off c : Nat) (hs : List Nat) (b2 off2 : Nat) (ss : List ByteArray) (W : World) : Prop where
  bx : BoxAt W w.heap.size #[.int .i64 (n : Int), .slice (some ⟨b, off, none⟩) hs.length c] 26
  rs : BoxAt W (w.heap.size + 1) #[.int .i64 0, .int .i64 0, .int .i64 0] 69
  tv : TAt W b off n hs
  ss : StrsAt W b2 off2 ss
  sl : b2 < w.heap.size
  bel : Below w.heap.size w W
theorem PpS.next {w W W' : World} {n b off c : Nat} {hs : List Nat} {b2 off2 : Nat} {ss : List ByteArray} (h : PpS w n b off c hs b2 off2 ss W) (hb : Below W.heap.size W W') : PpS w n b off c hs b2 off2 ss W' :=
  ⟨h.bx.next hb, h.rs.next hb, h.tv.next hb, h.ss.below hb (Nat.lt_of_lt_of_le h.sl h.bel.size), h.sl, h.bel.trans (hb.mono h.bel.size)⟩
/-- what the reference's Part says -/
def PrtM (hs ps : List Nat) (e : Ending) : Prop :=
  (NoPart hs ps ∧ e = .returned (.tuple #[.agg #[.int .i64 0, .int .i64 0, .int .i64 0], .bool false])) ∨
  ∃ p q : Nat, PartAt hs ps p q ∧ e = .returned (.tuple #[.agg #[.int .i64 (p : Int), .int .i64 (q : Int), .int .i64 (fstI (nthN hs) q : Int)], .bool true])
set_option maxRecDepth 100000 in
set_option maxHeartbeats 2000000 in
theorem refPart3_any (n b off c b2 off2 c2 L : Nat) (hs ps : List Nat) (ss : List ByteArray) (w : World) (hv : TAt w b off n hs) (hC : ClS ss hs.length ps) (hL : ps.length = L) (hl : L ≤ 60) (hx : StrsAt w b2 off2 ss) (hb2 : b2 < w.heap.size) :
    Calls Try.prog 52 #[.agg #[.int .i64 (n : Int), .slice (some ⟨b, off, none⟩) hs.length c], .slice (some ⟨b2, off2, none⟩) L c2] w fun e w' => PrtM hs ps e ∧ Below w.heap.size w w' := by
  obtain ⟨w0, hw0⟩ : ∃ w0, w0 = (w.alloc (.cells #[.int .i64 (n : Int), .slice (some ⟨b, off, none⟩) hs.length c] 26)).alloc (.cells #[.int .i64 0, .int .i64 0, .int .i64 0] 69) := ⟨_, rfl⟩
  have hb0 : Below w.heap.size w w0 := by rw [hw0]; exact ((Below.refl _ _).alloc (Nat.le_refl _) _).alloc (by simp) _
  have H0 := Lib.hid (show PpS w n b off c hs b2 off2 ss w0 from ⟨by rw [hw0]; exact (BoxAt.new w _ _).next ((Below.refl _ _).alloc (Nat.le_refl _) _), by
    rw [hw0]; have := BoxAt.new (w.alloc (.cells #[.int .i64 (n : Int), .slice (some ⟨b, off, none⟩) hs.length c] 26)) #[.int .i64 0, .int .i64 0, .int .i64 0] 69; rw [World.size_alloc] at this; exact this, hv.next hb0, hx.below hb0 hb2, hb2, hb0⟩)
  have HW0 := Lib.hid hw0
  have HC := Lib.hid hC
  have HL := Lib.hid hL
  have hT1 := hv.l1
  have hn1 := hv.n1
  clear hw0 hb0 hv hx hb2 hC hL
  go_enter Try.func52, Try.ntmps52
  go_wp2_with fail
  rw [← HW0.out]
  go_loopw [6] (fun i wr => ∃ k : Nat, k ≤ L ∧ i = .int .i64 (k : Int) ∧ PpS w n b off c hs b2 off2 ss wr ∧ ∀ p' w', p' < k → w' < hs.length → Like2 hs ps p' w') (fun i _ => L - (intOf i).toNat)
  case atStart => exact ⟨0, Nat.zero_le _, rfl, H0.out, fun p' w' h => by omega⟩
  case round =>
    obtain ⟨k, hk, rfl, hS, hlk⟩ := hrel
    have HS := Lib.hid hS
    have HLk := Lib.hid hlk
    clear hS hlk H0
    by_cases hlt : k < L
    · go_wp2_with fail
      go_loopw [7] (fun i wz => ∃ j : Nat, j ≤ hs.length ∧ i = .int .i64 (j : Int) ∧ PpS w n b off c hs b2 off2 ss wz ∧ ∀ w', w' < j → Like2 hs ps k w') (fun i _ => hs.length - (intOf i).toNat)
      case atStart => exact ⟨0, Nat.zero_le _, rfl, HS.out, fun w' h => by omega⟩
      case round =>
        obtain ⟨j, hj, rfl, hS, hlj⟩ := hrel
        have HS2 := Lib.hid hS
        have HLj := Lib.hid hlj
        clear hS hlj HS
        have a0 := HS2.out.bx.cell' 0 rfl
        have a1 := HS2.out.bx.cell' 1 rfl
        by_cases hjl : j < hs.length
        · obtain ⟨o, ho⟩ : ∃ o, fstI (nthN hs) j = o := ⟨_, rfl⟩
          have hol : o < hs.length := by rw [← ho]; exact fst_lt hjl
          have hxn : nthN hs j < 1000 := by have := HS2.out.tv.hk j hjl; omega
          have Ho := Lib.hid ho
          obtain ⟨x, hx⟩ : ∃ x, nthN hs j = x := ⟨_, rfl⟩
          have Hx := Lib.hid hx
          clear ho hx
          go_upto_region 7 with fail
          refine region_pt7 w.heap.size n b off c hs.length j x o (fun W hb => by have h := (HS2.out.tv.next hb).at' j hjl; rw [Hx.out] at h; exact h) hjl (by omega) (fun W hb => by refine (refFirst_any n b off c x hs W (HS2.out.tv.next hb) (by rw [← Hx.out]; exact hxn)).mono ?_; rintro e w' ⟨⟨r, rfl, hr⟩, hb'⟩; rw [← Hx.out] at hr; rw [fir_fst hjl hr, Ho.out]; exact ⟨rfl, hb'⟩) HS2.out.bx rfl ?hops (by kernel_rfl) (by kernel_rfl) (by kernel_rfl) (by kernel_rfl) ?hsz ?hout ?hend
          case hops => exact ⟨⟨_, _, _, rfl, by kernel_rfl⟩, ⟨_, _, _, rfl, by kernel_rfl⟩, ⟨_, _, _, rfl, by kernel_rfl⟩, ⟨_, _, _, rfl, by kernel_rfl⟩, ⟨_, _, _, rfl, by kernel_rfl⟩, ⟨_, _, _, rfl, by kernel_rfl⟩, ⟨_, _, _, rfl, by kernel_rfl⟩, ⟨_, _, _, rfl, by kernel_rfl⟩⟩
          case hsz => intro d hd; simp only [List.mem_cons, List.not_mem_nil, or_false] at hd; show d < 47; omega
          case hout => exact ⟨rfl, rfl⟩
          case hend =>
            intro   u22 u23 u24 u25 u26 u27 u28 W7 hb7 
            simp only [putL, List.foldl, Act.put, List.setIfInBounds_toArray, List.set_cons_succ, List.set_cons_zero]
            have HS3 := Lib.hid (HS2.out.next hb7)
            clear hb7 HS2 a0 a1
            have hc := HS3.out.ss k (by rw [HC.out.len, HL.out]; exact hlt)
            have hsb := HC.out.str k (by rw [HL.out]; exact hlt)
            obtain ⟨s, hs'⟩ : ∃ s, nthB ss k = s := ⟨_, rfl⟩
            obtain ⟨pk, hpk⟩ : ∃ pk, nthN ps k = pk := ⟨_, rfl⟩
            rw [hs'] at hc hsb
            rw [hpk] at hsb
            have hi1 := fun W => hsb.idx hjl W
            have hi2 := fun W => hsb.idx hol W
            have Hsz := Lib.hid hsb.size
            have key : ∀ b1 b2 : Bool, bitN pk j = b1 → bitN pk o = b2 → b1 = b2 → ∀ w', w' < j + 1 → Like2 hs ps k w' := fun b1 b2 h1 h2 h3 w' hw' => by
              by_cases e : w' = j
              · rw [e]; unfold Like2; rw [hpk, Ho.out, h1, h2, h3]
              · exact HLj.out w' (by omega)
            have key2 : ∀ b1 b2 : Bool, bitN pk j = b1 → bitN pk o = b2 → b1 ≠ b2 → PartAt hs ps k j := fun b1 b2 h1 h2 h3 => ⟨by rw [HL.out]; exact hlt, hjl, fun h => by unfold Like2 at h; rw [hpk, Ho.out, h1, h2] at h; exact h3 h, HLj.out, HLk.out⟩
            have hj0 : (0 : Int) ≤ (j : Int) := by omega
            have hk0 : (0 : Int) ≤ (k : Int) := by omega
            have ho0 : (0 : Int) ≤ (o : Int) := by omega
            have hk1 : (k : Int) < (L : Int) := by omega
            have hj1 : (j : Int) < (hs.length : Int) := by omega
            have ho1 : (o : Int) < (hs.length : Int) := by omega
            clear hsb hs' hpk
            go_upto_region 8 with fail
            cases hb1 : bitN pk j with
            | true =>
              have hv1 : byteP pk j = 120 := by unfold byteP; rw [hb1]; rfl
              rw [hv1] at hi1
              cases hb2 : bitN pk o with
              | true =>
                have hv2 : byteP pk o = 120 := by unfold byteP; rw [hb2]; rfl
                rw [hv2] at hi2
                have HK := Lib.hid (key _ _ hb1 hb2 rfl)
                clear key key2 hb1 hb2 hv1 hv2
                go_quiet (fail)
                all_goals go_wp2_with fail
                all_goals exact ⟨⟨j + 1, by omega, by go_num, HS3.out.next (below_drewN _ _ _), HK.out⟩, by simp [intOf]; omega⟩
              | false =>
                have hv2 : byteP pk o = 46 := by unfold byteP; rw [hb2]; rfl
                rw [hv2] at hi2
                have HK := Lib.hid (key2 _ _ hb1 hb2 (by decide))
                clear key key2 hb1 hb2 hv1 hv2
                have hrs := HS3.out.rs
                have r0 := hrs.cell' 0 rfl
                have r1 := hrs.cell' 1 rfl
                have r2 := hrs.cell' 2 rfl
                have f0 := hrs.frozen 0
                have f1 := hrs.frozen 1
                have f2 := hrs.frozen 2
                clear hrs
                have HD := Lib.hid (fun q : Nat => ((((HS3.out.next (below_drewN _ _ q)).rs.set 0 (.int .i64 (k : Int))).set 1 (.int .i64 (j : Int))).set 2 (.int .i64 (o : Int))))
                go_quiet (fail)
                all_goals go_wp2_with fail
                all_goals refine bodyPost_ret (v := .tuple #[.agg #[.int .i64 (k : Int), .int .i64 (j : Int), .int .i64 (o : Int)], .bool true]) ?_ rfl ⟨.inr ⟨k, j, HK.out, by rw [Ho.out]⟩, ?_⟩
                all_goals first
                  | (have d0 := fun q => (HD.out q).cell' (v := .int .i64 (k : Int)) 0 rfl
                     have d1 := fun q => (HD.out q).cell' (v := .int .i64 (j : Int)) 1 rfl
                     have d2 := fun q => (HD.out q).cell' (v := .int .i64 (o : Int)) 2 rfl
                     simp [results, Try.results52, go_sem, d0, d1, d2]; done)
                  | (refine Below.setCell (Below.setCell (Below.setCell (PpS.bel (HS3.out.next (below_drewN _ _ _))) ?_ _) ?_ _) ?_ _ <;> simp)
            | false =>
              have hv1 : byteP pk j = 46 := by unfold byteP; rw [hb1]; rfl
              rw [hv1] at hi1
              cases hb2 : bitN pk o with
              | true =>
                have hv2 : byteP pk o = 120 := by unfold byteP; rw [hb2]; rfl
                rw [hv2] at hi2
                have HK := Lib.hid (key2 _ _ hb1 hb2 (by decide))
                clear key key2 hb1 hb2 hv1 hv2
                have hrs := HS3.out.rs
                have r0 := hrs.cell' 0 rfl
                have r1 := hrs.cell' 1 rfl
                have r2 := hrs.cell' 2 rfl
                have f0 := hrs.frozen 0
                have f1 := hrs.frozen 1
                have f2 := hrs.frozen 2
                clear hrs
                have HD := Lib.hid (fun q : Nat => ((((HS3.out.next (below_drewN _ _ q)).rs.set 0 (.int .i64 (k : Int))).set 1 (.int .i64 (j : Int))).set 2 (.int .i64 (o : Int))))
                go_quiet (fail)
                all_goals go_wp2_with fail
                all_goals refine bodyPost_ret (v := .tuple #[.agg #[.int .i64 (k : Int), .int .i64 (j : Int), .int .i64 (o : Int)], .bool true]) ?_ rfl ⟨.inr ⟨k, j, HK.out, by rw [Ho.out]⟩, ?_⟩
                all_goals first
                  | (have d0 := fun q => (HD.out q).cell' (v := .int .i64 (k : Int)) 0 rfl
                     have d1 := fun q => (HD.out q).cell' (v := .int .i64 (j : Int)) 1 rfl
                     have d2 := fun q => (HD.out q).cell' (v := .int .i64 (o : Int)) 2 rfl
                     simp [results, Try.results52, go_sem, d0, d1, d2]; done)
                  | (refine Below.setCell (Below.setCell (Below.setCell (PpS.bel (HS3.out.next (below_drewN _ _ _))) ?_ _) ?_ _) ?_ _ <;> simp)
              | false =>
                have hv2 : byteP pk o = 46 := by unfold byteP; rw [hb2]; rfl
                rw [hv2] at hi2
                have HK := Lib.hid (key _ _ hb1 hb2 rfl)
                clear key key2 hb1 hb2 hv1 hv2
                go_quiet (fail)
                all_goals go_wp2_with fail
                all_goals exact ⟨⟨j + 1, by omega, by go_num, HS3.out.next (below_drewN _ _ _), HK.out⟩, by simp [intOf]; omega⟩
        · have HLk2 := Lib.hid (show ∀ p' w', p' < k + 1 → w' < hs.length → Like2 hs ps p' w' from fun p' w' h1 h2 => by
            by_cases e : p' = k
            · rw [e]; exact HLj.out w' (by omega)
            · exact HLk.out p' w' (by omega) h2)
          clear HLj HLk
          go_wp2_with fail
          go_roundw
          case rel => exact ⟨k + 1, by omega, by go_num, HS2.out, HLk2.out⟩
          case measure => simp [intOf]; omega
    · have HN := Lib.hid (show NoPart hs ps from fun p' w' h1 h2 => HLk.out p' w' (by rw [HL.out] at h1; omega) h2)
      have r0 := HS.out.rs.cell' 0 rfl
      have r1 := HS.out.rs.cell' 1 rfl
      have r2 := HS.out.rs.cell' 2 rfl
      have f0 := HS.out.rs.frozen 0
      have f1 := HS.out.rs.frozen 1
      have f2 := HS.out.rs.frozen 2
      go_wp2_with fail
      refine bodyPost_ret (v := .tuple #[.agg #[.int .i64 0, .int .i64 0, .int .i64 0], .bool false]) ?_ rfl ⟨.inl ⟨HN.out, rfl⟩, ?_⟩
      · have hb3 := ((HS.out.rs.set 0 (.int .i64 0)).set 1 (.int .i64 0)).set 2 (.int .i64 0)
        have d0 := hb3.cell' (v := .int .i64 0) 0 rfl
        have d1 := hb3.cell' (v := .int .i64 0) 1 rfl
        have d2 := hb3.cell' (v := .int .i64 0) 2 rfl
        simp [results, Try.results52, go_sem, d0, d1, d2]
      · exact ((HS.out.bel.setCell (by simp) _).setCell (by simp) _).setCell (by simp) _
end Go.Proofs.Ytdmgffoikebgkaa
/- Chapter 3: the design of a cloth, as the reference finds it. -/
namespace Go.Proofs.Ytdmgffoikebgkaa
open Go.RowKit Go.Shelf
attribute [local go_sem] Oper.semAt_some

theorem app_shut {P : Program} {ops : Array Oper} {Q : Exit → Act → World → Prop} {rest : List Oper} {a : Act} {W : World} {dst : Option Tmp} {ty : TypeId} {pos : String} {aft : Array Edge} {gd : Option (Nat × Bool)} {s x : Operand} {t : TypeId}
    (h : Shut (wpList P ops Q ({ dst := dst, op := .call { callee := .builtin .append, args := #[s, x], argTypes := #[t, t] }, type := ty, pos := pos, after := aft, guard := gd } :: rest) a W)) :
    wpList P ops Q ({ dst := dst, op := .call { callee := .builtin .append, args := #[s, x], argTypes := #[t, t] }, type := ty, pos := pos, after := aft, guard := gd } :: rest) a W := h.out
theorem elemRows : ElemT 166 168 1 24 := by
  obtain ⟨i, hi, hz0, hz1, hz2⟩ := info_parts tInfo77
  exact ⟨i, _, by kernel_rfl, hi, hz0, hz1, hz2, rfl, by decide⟩
/-- whether the reference lifts a hook at a pick: where its first warp is -/
def uwF (hs ps : List Nat) (i h : Nat) : Bool := ((firstH hs h).map fun w => bitN (nthN ps i) w).getD false
theorem uwF_some {hs ps : List Nat} {i h k : Nat} (e : firstH hs h = some k) : uwF hs ps i h = bitN (nthN ps i) k := by unfold uwF; rw [e]; rfl
theorem uwF_none {hs ps : List Nat} {i h : Nat} (e : firstH hs h = none) : uwF hs ps i h = false := by unfold uwF; rw [e]; rfl
theorem uw_eq {hs ps : List Nat} {n : Nat} (hk : ∀ i, i < hs.length → nthN hs i < n) (hno : NoPart hs ps) : painted (uwF hs ps) ps.length n = dsnL hs ps := by
  refine List.ext_getElem (by rw [painted_len, dsnL_len]) fun i h1 h2 => ?_
  have hi : i < ps.length := by rw [dsnL_len] at h2; exact h2
  rw [← nthN_get _ _ h1, ← nthN_get _ _ h2, dsnL_nth _ _ hi, painted_nth _ _ _ _ hi]
  refine nat_ext fun j => ?_
  rw [drowN_bit]
  have hb : bitN (rowTo (uwF hs ps i) n) j = (decide (j < n) && uwF hs ps i j) := rowTo_bit _ _ _
  rw [hb, Bool.and_eq_true, decide_eq_true_eq]
  constructor
  · rintro ⟨_, h4⟩
    cases hf : firstH hs j with
    | none => rw [uwF_none hf] at h4; cases h4
    | some k =>
      rw [uwF_some hf] at h4
      unfold firstH at hf
      rw [List.find?_range_eq_some] at hf
      exact ⟨k, by simpa using hf.2.1, by simpa using hf.1, h4⟩
  · rintro ⟨t, ht, h3, h4⟩
    refine ⟨by rw [← h3]; exact hk t ht, ?_⟩
    have hf := firstH_fst (hs := hs) ht
    rw [h3] at hf
    rw [uwF_some hf]
    have := hno i t hi ht
    unfold Like2 at this
    rw [← this]; exact h4
/-- what the reference's Unweave keeps -/
structure UwS (w : World) (n b off c : Nat) (hs : List Nat) (b2 off2 : Nat) (ss : List ByteArray) (f : Nat → Nat → Bool) (v : Value) (sl : List Value) (k : Nat) (W : World) : Prop where
  bx : BoxAt W w.heap.size #[.int .i64 (n : Int), .slice (some ⟨b, off, none⟩) hs.length c] 26
  rs : BoxAt W (w.heap.size + 1) #[.int .i64 0, .slice none 0 0] 37
  tv : TAt W b off n hs
  bl : b < w.heap.size
  sst : StrsAt W b2 off2 ss
  sbl : b2 < w.heap.size
  row : W.ownsRow (w.heap.size + 2) 168 1 v k sl
  rin : RowsIn W v sl k n f
  bel : Below w.heap.size w W
  sz : w.heap.size + 2 ≤ W.heap.size
section
variable {w W W' : World} {n b off c : Nat} {hs : List Nat} {b2 off2 : Nat} {ss : List ByteArray} {f : Nat → Nat → Bool} {v : Value} {sl : List Value} {k : Nat}
theorem UwS.next (h : UwS w n b off c hs b2 off2 ss f v sl k W) (hb : Below W.heap.size W W') : UwS w n b off c hs b2 off2 ss f v sl k W' :=
  ⟨h.bx.next hb, h.rs.next hb, h.tv.next hb, h.bl, h.sst.below hb (Nat.lt_of_lt_of_le h.sbl h.bel.size), h.sbl, ownsRow_next h.row hb, h.rin.below hb, h.bel.trans (hb.mono h.bel.size), Nat.le_trans h.sz hb.size⟩
theorem UwS.grew {g5 cap g' c' : Nat} (h : UwS w n b off c hs b2 off2 ss f v sl k W) (hbo : BoolsAt W g' n (f k)) (hne : some g' ≠ v.ownBlock)
    (hg : Grew (w.heap.size + 2) 168 1 W W' v g5 cap (k + 1) (sl ++ [.slice (some ⟨g', 0, none⟩) n c'])) : UwS w n b off c hs b2 off2 ss f (.slice (some ⟨g5, 0, none⟩) (k + 1) cap) (sl ++ [.slice (some ⟨g', 0, none⟩) n c']) (k + 1) W' := by
  have hf : ∀ j, j < w.heap.size + 2 → some j ≠ v.ownBlock := fun j hj => own_far h.row hj
  refine ⟨h.bx.kept hg.grow (hf _ (by omega)), h.rs.kept hg.grow (hf _ (by omega)), ?_, h.bl, fun i hi => ?_, h.sbl, hg.row, ?_, hg.below h.row (by omega) h.sz h.bel, Nat.le_trans h.sz hg.grow.size⟩
  · obtain ⟨t1, t2, t3, t4, t5, t6, t7⟩ := h.tv
    exact ⟨fun i hi => (hg.grow.cell_far ⟨b, off + i, none⟩ t2 (hf b (by have := h.bl; omega))).trans (t1 i hi), Nat.lt_of_lt_of_le t2 hg.grow.size, t3, t4, t5, t6, t7⟩
  · exact (hg.grow.cell_far ⟨b2, off2 + i, none⟩ (Nat.lt_of_lt_of_le h.sbl h.bel.size) (hf b2 (by have := h.sbl; omega))).trans (h.sst i hi)
  · rcases hg.at' with e | e
    · exact h.rin.grow (H := W.heap.size) (by have := h.row.1; omega) hg.grow hbo hne (.inl (by rw [e]; rfl)) (Nat.le_refl _)
    · exact h.rin.grow (H := g5) (by have := h.row.1; omega) hg.grow hbo hne (.inr rfl) e
end
set_option maxRecDepth 100000 in
set_option maxHeartbeats 2000000 in
theorem refUnweave3_any (n b off c b2 off2 c2 L : Nat) (hs ps : List Nat) (ss : List ByteArray) (w : World) (hv : TAt w b off n hs) (hC : ClS ss hs.length ps) (hL : ps.length = L) (hl0 : 1 ≤ L) (hl : L ≤ 60) (hx : StrsAt w b2 off2 ss) (hb2 : b2 < w.heap.size) :
    Calls Try.prog 53 #[.agg #[.int .i64 (n : Int), .slice (some ⟨b, off, none⟩) hs.length c], .slice (some ⟨b2, off2, none⟩) L c2] w (CopyN (n : Int) (ints (painted (uwF hs ps) L n)) w) := by
  obtain ⟨w0, hw0⟩ : ∃ w0, w0 = (w.alloc (.cells #[.int .i64 (n : Int), .slice (some ⟨b, off, none⟩) hs.length c] 26)).alloc (.cells #[.int .i64 0, .slice none 0 0] 37) := ⟨_, rfl⟩
  have hb0 : Below w.heap.size w w0 := by rw [hw0]; exact ((Below.refl _ _).alloc (Nat.le_refl _) _).alloc (by simp) _
  have hs0 : w0.heap.size = w.heap.size + 2 := by rw [hw0]; simp
  obtain ⟨w1, hw1⟩ : ∃ w1, w1 = w0.alloc (.cells #[] 168) := ⟨_, rfl⟩
  have hb1 : Below w0.heap.size w0 w1 := by rw [hw1]; exact (Below.refl _ _).alloc (Nat.le_refl _) _
  have hs1 : w1.heap.size = w.heap.size + 3 := by rw [hw1]; simp; omega
  have hr1 : w1.ownsRow (w.heap.size + 2) 168 1 (.slice (some ⟨w.heap.size + 2, 0, none⟩) 0 0) 0 [] := by
    have := World.ownsRow_made (base := w0.heap.size) (e := 168) (size := 1) w0 #[] 0 (Nat.le_refl _) (Nat.zero_le _) rfl
    rw [hs0] at this
    rw [hw1]; exact this
  have H1 := Lib.hid (show UwS w n b off c hs b2 off2 ss (uwF hs ps) (.slice (some ⟨w.heap.size + 2, 0, none⟩) 0 0) [] 0 w1 from
    ⟨by rw [hw0] at hb1; exact ((BoxAt.new w _ _).next ((Below.refl _ _).alloc (Nat.le_refl _) _)).next hb1,
     by have h := BoxAt.new (w.alloc (.cells #[.int .i64 (n : Int), .slice (some ⟨b, off, none⟩) hs.length c] 26)) #[.int .i64 0, .slice none 0 0] 37; rw [World.size_alloc, ← hw0] at h; exact h.next hb1,
     (hv.next hb0).next hb1, hv.lt, (hx.below hb0 hb2).below hb1 (by omega), hb2, hr1, fun i hi => by omega, hb0.trans (hb1.mono (by omega)), by omega⟩)
  have HW0 := Lib.hid hw0
  have HW1 := Lib.hid hw1
  have Hs0 := Lib.hid hs0
  have HC := Lib.hid hC
  have HL := Lib.hid hL
  have hT1 := hv.l1
  have hn1 := hv.n1
  clear hw0 hb0 hs0 hw1 hb1 hs1 hr1 hv hx hb2 hC hL
  go_enter Try.func53, Try.ntmps53
  go_wp2_with fail
  rw [← HW0.out]
  rw [← HW1.out]
  go_loopw [5, 6] (fun v i wr => ∃ (k : Nat) (sl : List Value), k ≤ L ∧ i = .int .i64 (k : Int) ∧ UwS w n b off c hs b2 off2 ss (uwF hs ps) v sl k wr) (fun _ i _ => L - (intOf i).toNat)
  case atStart => exact ⟨0, [], Nat.zero_le _, rfl, H1.out⟩
  case round =>
    obtain ⟨k, sl, hk, rfl, hS⟩ := hrel
    have HS := Lib.hid hS
    clear hS H1 HW0 HW1 Hs0
    obtain ⟨wk, hwk⟩ : ∃ wk : World, wk = wr := ⟨_, rfl⟩
    by_cases hlt : k < L
    · obtain ⟨H, hH⟩ : ∃ H, wr.heap.size = H := ⟨_, rfl⟩
      have hrl := World.ownsRow_made (base := wr.heap.size) (e := 4) (size := 1) wr #[] 0 (Nat.le_refl _) (Nat.zero_le _) rfl
      have hbl : Below H wk (wr.alloc (.cells #[] 4)) := by rw [hwk, ← hH]; exact (Below.refl _ _).alloc (Nat.le_refl _) _
      rw [hH] at hrl
      obtain ⟨wl, hwl⟩ : ∃ wl, wl = wr.alloc (.cells #[] 4) := ⟨_, rfl⟩
      rw [← hwl] at hrl hbl
      have HSk := Lib.hid (show UwS w n b off c hs b2 off2 ss (uwF hs ps) u5 sl k wk by rw [hwk]; exact HS.out)
      have HHk := Lib.hid (show wk.heap.size = H by rw [hwk]; exact hH)
      have HRl := Lib.hid hrl
      have HBl := Lib.hid hbl
      have HWl := Lib.hid hwl
      have hsz := HS.out.sz
      go_wp2_with fail
      rw [← HWl.out]
      clear hrl hbl hwl HWl HS hH hwk
      go_loopw [7, 8] (fun u i wz => ∃ j g cg : Nat, j ≤ n ∧ i = .int .i64 (j : Int) ∧ u = .slice (some ⟨g, 0, none⟩) j cg ∧ wz.ownsRow H 4 1 (.slice (some ⟨g, 0, none⟩) j cg) j (boolCells (uwF hs ps k) j) ∧ Below H wk wz) (fun _ i _ => n - (intOf i).toNat)
      case atStart => exact ⟨0, H, 0, Nat.zero_le _, rfl, rfl, HRl.out, HBl.out⟩
      case round =>
        obtain ⟨j, g, cg, hj, rfl, rfl, hrow, hB⟩ := hrel
        have HRow := Lib.hid hrow
        have HB := Lib.hid hB
        have HSz := Lib.hid (HSk.out.next (by rw [HHk.out]; exact hB))
        clear hrow hB HRl HBl
        have a0 := HSz.out.bx.cell' 0 rfl
        have a1 := HSz.out.bx.cell' 1 rfl
        have hHs : H ≤ wr.heap.size := by have := HB.out.size; rw [HHk.out] at this; exact this
        by_cases hjl : j < n
        · have H129 := refFirst_any n b off c j hs wr HSz.out.tv (by omega)
          go_wp2_with fail
          refine H129.mono ?_
          rintro e w3 ⟨⟨r, rfl, hr⟩, hb3⟩
          have HB3 := Lib.hid (HB.out.trans (hb3.mono hHs))
          have HRow3 := Lib.hid (ownsRow_next HRow.out hb3)
          have HSz3 := Lib.hid (HSz.out.next hb3)
          have hs3 : H ≤ w3.heap.size := Nat.le_trans hHs hb3.size
          have hj0 : (0 : Int) ≤ (j : Int) := by omega
          have hk0 : (0 : Int) ≤ (k : Int) := by omega
          have hk1 : (k : Int) < (L : Int) := by omega
          clear hb3 HB HRow HSz a0 a1 H129
          rcases fir_first hr with ⟨t, ht, hf, rfl⟩ | ⟨hf, rfl⟩
          · have hc := HSz3.out.sst k (by rw [HC.out.len, HL.out]; exact hlt)
            have hsb := HC.out.str k (by rw [HL.out]; exact hlt)
            have hu := uwF_some (ps := ps) (i := k) hf
            obtain ⟨s, hs'⟩ : ∃ s, nthB ss k = s := ⟨_, rfl⟩
            obtain ⟨pk, hpk⟩ : ∃ pk, nthN ps k = pk := ⟨_, rfl⟩
            rw [hs'] at hc hsb
            rw [hpk] at hsb hu
            have hi1 := fun W => hsb.idx ht W
            have Hsz := Lib.hid hsb.size
            have Hsb := Lib.hid hsb
            clear hr hf hs' hpk hsb
            have hd : decide ((0 : Int) ≤ (t : Int)) = true := decide_eq_true (by omega)
            cases hbt : bitN pk t with
            | true =>
              have hv1 : byteP pk t = 120 := by unfold byteP; rw [hbt]; rfl
              rw [hv1] at hi1
              have Hu := Lib.hid (hu.trans hbt)
              clear hu hbt hv1
              rcases Nat.eq_zero_or_pos t with h0 | h0
              · subst h0
                have hi0 : ∀ W, (Instr.index 9 (.string s) (.int .i64 0)).run Try.prog W = .ok (.int .u8 120) W := fun W => hi1 W
                clear hi1
                go_wp2_with (with_reducible refine app_shut ?_)
                unfold Shut
                refine app_one elemBool rfl _ _ rfl H (.slice (some ⟨g, 0, none⟩) j cg) j (boolCells (uwF hs ps k) j) #[.bool true] rfl HRow3.out rfl rfl (by simp [Value.oneCell']) (by omega) (by decide) hs3 ?_
                intro g5 cap w5 hg
                have HR5 := Lib.hid (show w5.ownsRow H 4 1 (.slice (some ⟨g5, 0, none⟩) (j + 1) cap) (j + 1) (boolCells (uwF hs ps k) (j + 1)) by rw [boolCells_succ, Hu.out]; exact hg.row)
                have HB5 := Lib.hid (hg.below HRow3.out (Nat.le_refl _) hs3 HB3.out)
                clear hg
                go_wp2
                go_roundw
                case rel => exact ⟨j + 1, g5, cap, by omega, by go_num, rfl, HR5.out, HB5.out⟩
                case measure => simp [intOf]; omega
              · have ht2 : (t : Int) > 0 := by omega
                go_wp2_with (with_reducible refine app_shut ?_)
                unfold Shut
                refine app_one elemBool rfl _ _ rfl H (.slice (some ⟨g, 0, none⟩) j cg) j (boolCells (uwF hs ps k) j) #[.bool true] rfl HRow3.out rfl rfl (by simp [Value.oneCell']) (by omega) (by decide) hs3 ?_
                intro g5 cap w5 hg
                have HR5 := Lib.hid (show w5.ownsRow H 4 1 (.slice (some ⟨g5, 0, none⟩) (j + 1) cap) (j + 1) (boolCells (uwF hs ps k) (j + 1)) by rw [boolCells_succ, Hu.out]; exact hg.row)
                have HB5 := Lib.hid (hg.below HRow3.out (Nat.le_refl _) hs3 HB3.out)
                clear hg
                go_wp2
                go_roundw
                case rel => exact ⟨j + 1, g5, cap, by omega, by go_num, rfl, HR5.out, HB5.out⟩
                case measure => simp [intOf]; omega
            | false =>
              have hv1 : byteP pk t = 46 := by unfold byteP; rw [hbt]; rfl
              rw [hv1] at hi1
              have Hu := Lib.hid (hu.trans hbt)
              clear hu hbt hv1
              rcases Nat.eq_zero_or_pos t with h0 | h0
              · subst h0
                have hi0 : ∀ W, (Instr.index 9 (.string s) (.int .i64 0)).run Try.prog W = .ok (.int .u8 46) W := fun W => hi1 W
                clear hi1
                go_wp2_with (with_reducible refine app_shut ?_)
                unfold Shut
                refine app_one elemBool rfl _ _ rfl H (.slice (some ⟨g, 0, none⟩) j cg) j (boolCells (uwF hs ps k) j) #[.bool false] rfl HRow3.out rfl rfl (by simp [Value.oneCell']) (by omega) (by decide) hs3 ?_
                intro g5 cap w5 hg
                have HR5 := Lib.hid (show w5.ownsRow H 4 1 (.slice (some ⟨g5, 0, none⟩) (j + 1) cap) (j + 1) (boolCells (uwF hs ps k) (j + 1)) by rw [boolCells_succ, Hu.out]; exact hg.row)
                have HB5 := Lib.hid (hg.below HRow3.out (Nat.le_refl _) hs3 HB3.out)
                clear hg
                go_wp2
                go_roundw
                case rel => exact ⟨j + 1, g5, cap, by omega, by go_num, rfl, HR5.out, HB5.out⟩
                case measure => simp [intOf]; omega
              · have ht2 : (t : Int) > 0 := by omega
                go_wp2_with (with_reducible refine app_shut ?_)
                unfold Shut
                refine app_one elemBool rfl _ _ rfl H (.slice (some ⟨g, 0, none⟩) j cg) j (boolCells (uwF hs ps k) j) #[.bool false] rfl HRow3.out rfl rfl (by simp [Value.oneCell']) (by omega) (by decide) hs3 ?_
                intro g5 cap w5 hg
                have HR5 := Lib.hid (show w5.ownsRow H 4 1 (.slice (some ⟨g5, 0, none⟩) (j + 1) cap) (j + 1) (boolCells (uwF hs ps k) (j + 1)) by rw [boolCells_succ, Hu.out]; exact hg.row)
                have HB5 := Lib.hid (hg.below HRow3.out (Nat.le_refl _) hs3 HB3.out)
                clear hg
                go_wp2
                go_roundw
                case rel => exact ⟨j + 1, g5, cap, by omega, by go_num, rfl, HR5.out, HB5.out⟩
                case measure => simp [intOf]; omega
          · have Hu := Lib.hid (uwF_none (ps := ps) (i := k) hf)
            clear hr hf
            go_wp2_with (with_reducible refine app_shut ?_)
            unfold Shut
            refine app_one elemBool rfl _ _ rfl H (.slice (some ⟨g, 0, none⟩) j cg) j (boolCells (uwF hs ps k) j) #[.bool false] rfl HRow3.out rfl rfl (by simp [Value.oneCell']) (by omega) (by decide) hs3 ?_
            intro g5 cap w5 hg
            have HR5 := Lib.hid (show w5.ownsRow H 4 1 (.slice (some ⟨g5, 0, none⟩) (j + 1) cap) (j + 1) (boolCells (uwF hs ps k) (j + 1)) by rw [boolCells_succ, Hu.out]; exact hg.row)
            have HB5 := Lib.hid (hg.below HRow3.out (Nat.le_refl _) hs3 HB3.out)
            clear hg
            go_wp2
            go_roundw
            case rel => exact ⟨j + 1, g5, cap, by omega, by go_num, rfl, HR5.out, HB5.out⟩
            case measure => simp [intOf]; omega
        · obtain rfl : j = n := by omega
          have hge := (HRow.out.lt g rfl)
          have hbo := BoolsAt.of_row HRow.out
          have hne : some g ≠ Value.ownBlock u5 := fun e => by
            have h1 := (ownBlock_ge HSk.out.row e.symm).2
            rw [HHk.out] at h1
            omega
          have HBo := Lib.hid hbo
          have HNe := Lib.hid hne
          have hlen : sl.length = k := by have := HSk.out.row.1; omega
          clear hge hbo hne
          go_wp2_with (at_builtin; refine Shut.out ?_)
          unfold Shut
          refine app_one elemRows rfl _ _ rfl (w.heap.size + 2) u5 k sl #[.slice (some ⟨g, 0, none⟩) j cg] rfl HSz.out.row rfl rfl (by simp [Value.oneCell']) (by omega) (by decide) HSz.out.sz ?_
          intro g5 cap w5 hg
          have HS5 := Lib.hid (HSz.out.grew HBo.out HNe.out hg)
          clear hg
          go_wp2
          go_roundw
          case rel => exact ⟨k + 1, _, by omega, by go_num, HS5.out⟩
          case measure => simp [intOf]; omega
    · obtain rfl : k = L := by omega
      obtain ⟨g, cg, rfl⟩ := row_slice HS.out.row (by omega)
      have HT := Lib.hid (TabAt.of_rows HS.out.row HS.out.rin)
      have HD := Design_any g k n cg (uwF hs ps) wr hl0 hl (by omega) HT.out
      clear hwk
      go_wp2_with fail
      refine HD.mono ?_
      rintro e w3 ⟨p, cc, rfl, hRd, hfar, hb3⟩
      rw [ints_len, painted_len] at hRd ⊢
      have HS3 := Lib.hid (HS.out.next hb3)
      have HRd := Lib.hid hRd
      have Hfar := Lib.hid hfar
      have hsz := HS.out.sz
      have r0 := HS3.out.rs.cell' 0 rfl
      have r1 := HS3.out.rs.cell' 1 rfl
      have f0 := HS3.out.rs.frozen 0
      have f1 := HS3.out.rs.frozen 1
      clear hRd hfar hb3 HS HT HD
      go_wp2_with fail
      refine bodyPost_ret (v := .agg #[.int .i64 (n : Int), .slice p k cc]) ?_ rfl ⟨p, cc, by rw [ints_len, painted_len], ?_, fun a e => by have := Hfar.out a e; omega, ?_⟩
      · have hb3 := (HS3.out.rs.set 0 (.int .i64 (n : Int))).set 1 (.slice p k cc)
        have d0 := hb3.cell' (v := .int .i64 (n : Int)) 0 rfl
        have d1 := hb3.cell' (v := .slice p k cc) 1 rfl
        simp [results, Try.results53, go_sem, d0, d1]
      · rw [ints_len, painted_len]
        exact (HRd.out.set _ _ (fun a e => by have := Hfar.out a e; simp; omega)).set _ _ (fun a e => by have := Hfar.out a e; simp; omega)
      · exact (HS3.out.bel.setCell (by simp) _).setCell (by simp) _
end Go.Proofs.Ytdmgffoikebgkaa
