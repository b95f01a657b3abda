/- The law's helpers: In, Check of the reference, large, ints, own. -/
import Derived.Test.YtjobbleabepaiaaVI
import Derived.Maps.AppendAt
import Derived.Deep.RegionWith
namespace Go.Proofs.Ytjobbleabepaiaa
open Go.RowKit

theorem below_drewN (W : World) (k : Nat) : ∀ j, Below k W (W.drewN j)
  | 0 => Below.refl _ _
  | j + 1 => (below_drewN W k j).drew
theorem In_any (n a c : Int) (w : World) :
    Calls Try.prog 24 #[.int .i64 n, .int .i64 a, .int .i64 c] w fun e w' => e = .returned (.bool (decide (a ≤ n) && decide (n ≤ c))) ∧ w = w' := by
  go_enter Try.func24, Try.ntmps24
  go_wp2
  all_goals go_ret
  · have h : a ≤ n := by assumption
    exact ⟨ret_bool (by simp [h]), rfl⟩
  · have h : n < a := by assumption
    exact ⟨ret_bool (by simp; omega), rfl⟩

set_option maxHeartbeats 1000000 in
theorem refCheck_any (h : Int) (v : Value) (xs : List Int) (w : World) (hv : Reads w v xs) :
    Calls Try.prog 22 #[.agg #[.int .i64 h, v]] w fun e w' => e = .returned (.int .i64 (checkE h xs)) ∧ Below w.heap.size w w' := by
  obtain ⟨p, c, rfl, hl, hx⟩ := hv
  by_cases h1 : h < 1 ∨ 24 < h
  · have he : checkE h xs = 2 := by simp [checkE, h1]
    have hb : (decide (1 ≤ h) && decide (h ≤ 24)) = false := by simp; omega
    have Hin := fun w => In_any h 1 24 w
    rw [hb] at Hin
    have He := Lib.hid he
    clear he hb h1 hx
    go_enter Try.func22, Try.ntmps22
    go_wp2_with fail
    refine (Hin _).mono ?_
    rintro e w' ⟨rfl, rfl⟩
    go_wp2
    go_ret
    exact ⟨ret_int He.out.symm, (Below.refl _ _).alloc (Nat.le_refl _) _⟩
  · obtain ⟨n, rfl⟩ := Int.eq_ofNat_of_zero_le (show 0 ≤ h by omega)
    have g1 : (1 : Int) ≤ (n : Int) := by omega
    have g2 : (n : Int) ≤ 24 := by omega
    have hb : (decide (1 ≤ (n : Int)) && decide ((n : Int) ≤ 24)) = true := by simp; omega
    have Hin := fun w => In_any (n : Int) 1 24 w
    rw [hb] at Hin
    clear hb
    by_cases h2 : 60 < xs.length
    · have he : checkE n xs = 5 := by rw [checkE, if_neg h1, if_pos h2]
      have He := Lib.hid he; clear he
      clear h1 hx
      go_enter Try.func22, Try.ntmps22
      go_wp2_with fail
      refine (Hin _).mono ?_
      rintro e w' ⟨rfl, rfl⟩
      go_wp2
      go_ret
      exact ⟨ret_int He.out.symm, (Below.refl _ _).alloc (Nat.le_refl _) _⟩
    · by_cases h3 : xs.length = 0
      · have he : checkE n xs = 7 := by rw [checkE, if_neg h1, if_neg h2, if_pos h3]
        have He := Lib.hid he; clear he
        obtain rfl : xs = [] := List.eq_nil_of_length_eq_zero h3
        clear h1 hx h2 hl h3
        go_enter Try.func22, Try.ntmps22
        go_wp2_with fail
        refine (Hin _).mono ?_
        rintro e w' ⟨rfl, rfl⟩
        go_wp2
        go_ret
        exact ⟨ret_int He.out.symm, (Below.refl _ _).alloc (Nat.le_refl _) _⟩
      · obtain ⟨b, off, rfl, hb, hx⟩ := hx (by omega)
        have h3' : 0 < xs.length := by omega
        have h2' : xs.length ≤ 60 := by omega
        have hx1 : IntsAt (w.alloc (.cells #[.int .i64 (n : Int), .slice (some ⟨b, off, none⟩) xs.length c] 24)) b off xs := hx.below ((Below.refl _ _).alloc (Nat.le_refl _) _) hb
        have he : checkE n xs = if rowsOk n xs then 0 else 2 := by rw [checkE, if_neg h1, if_neg h2, if_neg h3]; simp
        have He := Lib.hid he
        have hz60 : ((xs.length : Int) == 0) = false := by rw [beq_eq_false_iff_ne]; omega
        have hd60 : decide ((60 : Int) < (xs.length : Int)) = false := by simp; omega
        obtain ⟨hp1, hp2⟩ := pow_bds n (by omega)
        obtain ⟨W1, hW1⟩ : ∃ W1, w.alloc (.cells #[.int .i64 (n : Int), .slice (some ⟨b, off, none⟩) xs.length c] 24) = W1 := ⟨_, rfl⟩
        have d0 : W1.cell? ⟨w.heap.size, 0, none⟩ = some (.int .i64 (n : Int)) := by rw [← hW1]; simp
        have d1 : W1.cell? ⟨w.heap.size, 1, none⟩ = some (.slice (some ⟨b, off, none⟩) xs.length c) := by rw [← hW1]; simp
        have HB : Hid (Below w.heap.size w W1) := Lib.hid (by rw [← hW1]; exact (Below.refl _ _).alloc (Nat.le_refl _) _)
        rw [hW1] at hx1
        have HX := Lib.hid hx1
        have HW := Lib.hid hW1
        clear h1 h2 h3 hx he hx1 hW1
        go_enter Try.func22, Try.ntmps22
        go_wp2_with fail
        refine (Hin _).mono ?_
        rintro e w' ⟨rfl, rfl⟩
        rw [HW.out]
        go_wp2
        go_loopw [3] (fun i wr => ∃ k : Nat, k ≤ xs.length ∧ i = .int .i64 k ∧ rowsOk n (xs.take k) = true ∧ ∃ j, wr = W1.drewN j) (fun i _ => xs.length - (intOf i).toNat)
        case atStart => exact ⟨0, Nat.zero_le _, rfl, by simp [rowsOk], 0, rfl⟩
        case round =>
          obtain ⟨k, hk, rfl, hr, j, rfl⟩ := hrel
          have Hr := Lib.hid hr; clear hr
          by_cases hlt : k < xs.length
          · have hc := HX.out k hlt
            have hk0 : (0 : Int) ≤ (k : Int) := by omega
            have hk1 : (k : Int) < (xs.length : Int) := by omega
            have hu : IntKind.u64.wrap (n : Int) = (n : Int) := IntWalk.u64_in _ (by omega)
            have hmn : min n 64 = n := by omega
            have hw1 : IntKind.i64.wrap (2 ^ n) = 2 ^ n := IntWalk.i64_in _ (by omega)
            have hw2 : IntKind.i64.wrap (2 ^ n - 1) = 2 ^ n - 1 := IntWalk.i64_in _ (by omega)
            by_cases hok : 0 ≤ nthI xs k ∧ nthI xs k < 2 ^ n
            · have HI : ∀ w, Calls Try.prog 24 #[.int .i64 (nthI xs k), .int .i64 0, .int .i64 (2 ^ n - 1)] w fun e w' => e = .returned (.bool true) ∧ w = w' := fun w => by
                have := In_any (nthI xs k) 0 (2 ^ n - 1) w
                rwa [show (decide (0 ≤ nthI xs k) && decide (nthI xs k ≤ 2 ^ n - 1)) = true by simp; omega] at this
              have Hok := Lib.hid hok
              clear hok
              go_wp2_with fail
              go_region_with (go_at_call 24; refine (HI _).mono ?_; rintro e w' ⟨rfl, rfl⟩)
              all_goals clear hu hmn hw1 hw2
              all_goals go_wp2
              all_goals go_roundw
              all_goals first | (simp [intOf]; omega) | exact ⟨k + 1, by omega, by go_num, rowsOk_step n xs k hlt Hr.out Hok.out.1 Hok.out.2, _, rfl⟩
            · have HI : ∀ w, Calls Try.prog 24 #[.int .i64 (nthI xs k), .int .i64 0, .int .i64 (2 ^ n - 1)] w fun e w' => e = .returned (.bool false) ∧ w = w' := fun w => by
                have := In_any (nthI xs k) 0 (2 ^ n - 1) w
                rwa [show (decide (0 ≤ nthI xs k) && decide (nthI xs k ≤ 2 ^ n - 1)) = false by simp; omega] at this
              have Hno := Lib.hid (rowsOk_false n xs k hlt (by omega))
              clear hok
              go_wp2_with fail
              go_region_with (go_at_call 24; refine (HI _).mono ?_; rintro e w' ⟨rfl, rfl⟩)
              all_goals clear hu hmn hw1 hw2
              all_goals go_wp2
              all_goals go_ret
              all_goals exact ⟨ret_int (by rw [He.out, Hno.out]; rfl), HB.out.trans (below_drewN _ _ _)⟩
          · go_wp2
            go_ret
            exact ⟨ret_int (by rw [He.out, show rowsOk n xs = true by rw [← Hr.out, take_end xs k hk hlt]]; rfl), HB.out.trans (below_drewN _ _ _)⟩

/-- large of one design -/
theorem large_one (h : Int) (p : Option Addr) (l c B : Nat) (w : World) (hl : l ≤ 17592186044416) (h1 : w.cell? ⟨B, 1, none⟩ = some (.slice p l c)) :
    Calls Try.prog 16 #[.slice (some ⟨B, 0, none⟩) 1 1] w fun e w' => e = .returned (.bool (decide (70 < l))) ∧ w = w' := by
  by_cases hb : 70 < l
  · have hd : decide ((70 : Int) < (l : Int)) = true := by simp; omega
    have Hb := Lib.hid hb
    clear hb
    go_enter Try.func16, Try.ntmps16
    go_wp2
    go_loop [3] (fun i => i = .int .i64 0) (fun i => 0)
    case atStart => rfl
    case round =>
      subst hrel
      go_wp2
      go_ret
      exact ⟨ret_bool (by simp [Hb.out]), rfl⟩
  · have hd : decide ((70 : Int) < (l : Int)) = false := by simp; omega
    have Hb := Lib.hid hb
    clear hb
    go_enter Try.func16, Try.ntmps16
    go_wp2
    go_loop [3] (fun i => i = .int .i64 0 ∨ i = .int .i64 1) (fun i => 1 - (intOf i).toNat)
    case atStart => exact .inl rfl
    case round =>
      rcases hrel with rfl | rfl
      · go_wp2
        go_round
        case rel => exact .inr rfl
        case measure => simp [intOf]
      · go_wp2
        go_ret
        exact ⟨ret_bool (by simp [Hb.out]), rfl⟩

theorem appendNil (g c : Nat) (w : World) (hg : w.heap[g]? = some (.cells #[] 3 (0, 0))) : (Builtin.append_ #[22, 22] 22 #[.slice (some ⟨g, 0, none⟩) 0 0, .slice none 0 c]).run Try.prog w = .ok (.slice (some ⟨g, 0, none⟩) 0 0) w := by
  obtain ⟨i0, hi, hz0, hz1, hz2⟩ := info_parts Try.info3
  simp [Builtin.append_, run_underlying Try.underlying22, sizeOf, typeInfo, hi, Builtin.lenOf, Builtin.firstCells, storeCells]
end Go.Proofs.Ytjobbleabepaiaa
