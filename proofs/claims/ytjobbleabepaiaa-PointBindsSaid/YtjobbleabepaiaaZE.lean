/- PointBinds: the walks, of a valid design. -/
import Derived.Test.YtjobbleabepaiaaZD
namespace Go.Proofs.Ytjobbleabepaiaa
open Go.RowKit Go.Shelf

theorem rowsOk_all {n : Nat} {fs : List Int} (h : rowsOk n fs = true) (k : Nat) (hk : k < fs.length) : 0 ≤ nthI fs k ∧ nthI fs k < 2 ^ n := by
  unfold rowsOk at h
  rw [List.all_eq_true] at h
  simpa using h _ (nthI_mem fs k hk)
set_option maxRecDepth 100000 in
set_option maxHeartbeats 4000000 in
theorem PointBinds_range (n : Nat) (p : Option Addr) (c : Nat) (fb fo fc : Nat) (xs fs : List Int) (m : Int) (w : World) (hn : n ≤ 24) (hx : xs.length ≤ 70) (hf : fs.length ≤ 70) (hfl : fs.length = xs.length) (hck : checkE n xs = 0) (hr : Reads w (.slice p xs.length c) xs) (hfb : fb < w.heap.size) (hfi : IntsAt w fb fo fs) (hro : rowsOk n fs = true) (hm : m < 1 ∨ 24 < m) (hb : BindSays n xs fs m 3) : pbCalls n p xs.length c (some ⟨fb, fo, none⟩) fs.length fc m w := by
  have hd : decide (70 < xs.length) = false := by simp; omega
  have Hlg := fun W h1 => large_len p xs.length c (w.heap.size + 1) W h1
  rw [hd] at Hlg
  have HL := Lib.hid Hlg
  have HR := Lib.hid hr
  have HFR := Lib.hid (show Reads w (.slice (some ⟨fb, fo, none⟩) fs.length fc) fs from ⟨_, fc, rfl, by omega, fun _ => ⟨fb, fo, rfl, hfb, hfi⟩⟩)
  have HFI := Lib.hid hfi
  have HCK := Lib.hid hck
  have HFL := Lib.hid hfl
  have fl1 : ((fs.length : Int) != (xs.length : Int)) = false := by rw [hfl]; simp
  have fl2 : (fs.length != xs.length) = false := by rw [hfl]; simp
  obtain ⟨hp1, hp2⟩ := pow_bds n hn
  have HBd := Lib.hid hb
  have hf2 : decide ((70 : Int) < (fs.length : Int)) = false := by simp; omega
  have hf3 : decide (70 < fs.length) = false := by simp; omega
  have HRO := Lib.hid (rowsOk_all hro)
  clear hro
  have HIB : Hid (∀ W, Calls Try.prog 24 #[.int .i64 m, .int .i64 1, .int .i64 24] W fun e w' => e = .returned (.bool false) ∧ W = w') := Lib.hid (fun W => by
    have := In_any m 1 24 W
    rwa [show (decide ((1 : Int) ≤ m) && decide (m ≤ 24)) = false by simp; omega] at this)
  clear hm
  clear hd Hlg hr hck hfl hfi hb
  go_enter Try.func4, Try.ntmps4
  go_wp2_with fail
  refine (HL.out _ ?_).mono ?_
  · have := (ArgBox.new (w.alloc (.cells #[.int .i64 (n : Int), .slice p xs.length c] 24)) (n : Int) p xs.length c).c1
    rw [World.size_alloc] at this
    exact this
  rintro e w1 ⟨rfl, rfl⟩
  obtain ⟨W1, hW1⟩ : ∃ W1, (w.alloc (.cells #[.int .i64 (n : Int), .slice p xs.length c] 24)).alloc (.cells #[.int .i64 (n : Int), .slice p xs.length c] 24) = W1 := ⟨_, rfl⟩
  have hb1 : Below w.heap.size w W1 := by rw [← hW1]; exact below2 w _ _
  have S1 : Boxes w [⟨w.heap.size, (n : Int), p, xs.length, c, xs⟩] W1 := ⟨fun x hx => by
    simp at hx; subst hx
    exact ⟨by rw [← hW1]; exact (ArgBox.new w (n : Int) p xs.length c).below (below1 _ _), HR.out.below hb1⟩, hb1⟩
  rw [hW1]
  have a1 := S1.get (x := ⟨w.heap.size, (n : Int), p, xs.length, c, xs⟩) (by simp)
  clear hW1 hb1 HL
  go_wp2_with fail
  refine (S1.plain (refCheck_any (n : Int) (.slice p xs.length c) xs W1 (S1.all ⟨w.heap.size, (n : Int), p, xs.length, c, xs⟩ (by simp)).r)).mono ?_
  rintro e w2 ⟨rfl, S2⟩
  have a2 := S2.get (x := ⟨w.heap.size, (n : Int), p, xs.length, c, xs⟩) (by simp)
  clear S1 a1
  rw [HCK.out]
  go_wp2_with fail
  have S2' := Lib.hid S2
  clear S2 a2 HCK
  go_loopw [7, 8] (fun u i wr => ∃ k : Nat, k ≤ fs.length ∧ u = .int .i64 0 ∧ i = .int .i64 k ∧ Boxes w [⟨w.heap.size, (n : Int), p, xs.length, c, xs⟩] wr) (fun _ i _ => fs.length - (intOf i).toNat)
  case atStart => exact ⟨0, Nat.zero_le _, rfl, rfl, S2'.out⟩
  case round =>
    obtain ⟨k, hk, rfl, rfl, hS3⟩ := hrel
    have S3 := Lib.hid hS3
    clear hS3
    by_cases hlt : k < fs.length
    · have hok := HRO.out k hlt
      have hc := (HFI.out.below S3.out.below hfb) k hlt
      have a3 := S3.out.get (x := ⟨w.heap.size, (n : Int), p, xs.length, c, xs⟩) (by simp)
      have hk0 : (0 : Int) ≤ (k : Int) := by omega
      have hk1 : (k : Int) < (fs.length : Int) := by omega
      have hu : IntKind.u64.wrap (n : Int) = (n : Int) := IntWalk.u64_in _ (by omega)
      have hmn : min n 64 = n := by omega
      have hw1 : IntKind.i64.wrap (2 ^ n) = 2 ^ n := IntWalk.i64_in _ (by omega)
      have hw2 : IntKind.i64.wrap (2 ^ n - 1) = 2 ^ n - 1 := IntWalk.i64_in _ (by omega)
      have HI : ∀ w, Calls Try.prog 24 #[.int .i64 (nthI fs k), .int .i64 0, .int .i64 (2 ^ n - 1)] w fun e w' => e = .returned (.bool true) ∧ w = w' := fun w => by
        have := In_any (nthI fs k) 0 (2 ^ n - 1) w
        rwa [show (decide (0 ≤ nthI fs k) && decide (nthI fs k ≤ 2 ^ n - 1)) = true by simp; omega] at this
      have Hok := Lib.hid hok
      clear hok
      go_wp2_with fail
      go_region_with (go_at_call 24; refine (HI _).mono ?_; rintro e w' ⟨rfl, rfl⟩)
      all_goals clear hu hmn hw1 hw2 hc a3
      all_goals go_wp2_with fail
      all_goals go_roundw
      all_goals first
        | (simp [intOf]; omega)
        | exact ⟨k + 1, by omega, rfl, by go_num, S3.out.drew⟩
    · have S2 := S3.out
      have a2 := S2.get (x := ⟨w.heap.size, (n : Int), p, xs.length, c, xs⟩) (by simp)
      clear S3
      go_wp2_with fail
      refine (HIB.out _).mono ?_
      rintro e wq ⟨rfl, rfl⟩
      go_wp2_with fail
      refine (own_any (n : Int) p c xs _ (by omega) (S2.all ⟨w.heap.size, (n : Int), p, xs.length, c, xs⟩ (by simp)).r).mono ?_
      rintro e w3 ⟨p2, c2, rfl, hr2, hb3⟩
      have S3 := S2.next hb3
      have R2 := Lib.hid hr2
      have b3 := S3.get (x := ⟨w.heap.size, (n : Int), p, xs.length, c, xs⟩) (by simp)
      clear S2 a2 hb3 hr2
      go_wp2_with fail
      refine (ints_any (some ⟨fb, fo, none⟩) fc fs w3 (by omega) (HFR.out.below S3.below)).mono ?_
      rintro e w4 ⟨q2, fc2, rfl, hr3, _, hb4⟩
      have S4 := (S3.next hb4).push (n : Int) p2 xs.length c2 xs (R2.out.below hb4)
      have R3 := Lib.hid (hr3.below (below1 w4 (.cells #[.int .i64 (n : Int), .slice p2 xs.length c2] 24)))
      clear S3 hb4 hr3 R2 b3
      go_wp2_with fail
      refine (HBd.out _ p2 c2 q2 fc2 (S4.all ⟨w4.heap.size, (n : Int), p2, xs.length, c2, xs⟩ (by simp)).r R3.out).mono ?_
      rintro e w5 ⟨rfl, hb5⟩
      have S5 := (S4.next hb5).push 0 none 0 0 [] (reads_nil _ _ _)
      have R4 := Lib.hid ((R3.out.below hb5).below (below1 w5 (.cells #[.int .i64 0, .slice none 0 0] 24)))
      have a5 := (S4.next hb5).get (x := ⟨w4.heap.size, (n : Int), p2, xs.length, c2, xs⟩) (by simp)
      have b5 := (S4.next hb5).get (x := ⟨w.heap.size, (n : Int), p, xs.length, c, xs⟩) (by simp)
      clear S4 hb5 R3

      go_wp2_with fail
      refine (Same_reads (n : Int) p2 p xs.length xs.length c2 c xs _ (S5.all ⟨w4.heap.size, (n : Int), p2, xs.length, c2, xs⟩ (by simp)).r (S5.all ⟨w.heap.size, (n : Int), p, xs.length, c, xs⟩ (by simp)).r).mono ?_
      rintro e w6 ⟨rfl, hb6⟩
      have S6 := S5.next hb6
      have R5 := Lib.hid (R4.out.below hb6)
      clear S5 hb6 a5 b5 R4

      go_wp2_with fail
      refine (design_any 0 q2 fs.length fc2 w6).mono ?_
      rintro e w7 ⟨rfl, hb7⟩
      have S7 := S6.next hb7
      have R6 := Lib.hid (R5.out.below hb7)
      clear S6 hb7 R5
      go_wp2_with fail
      refine (design_any 0 (some ⟨fb, fo, none⟩) fs.length fc w7).mono ?_
      rintro e w8 ⟨rfl, hb8⟩
      have S8 := S7.next hb8
      have R7 := Lib.hid (R6.out.below hb8)
      clear S7 hb8 R6
      go_wp2_with fail
      refine (Same_reads 0 q2 (some ⟨fb, fo, none⟩) fs.length fs.length fc2 fc fs w8 R7.out (HFR.out.below S8.below)).mono ?_
      rintro e w9 ⟨rfl, hb9⟩
      have S9 := S8.next hb9
      have a9 := S9.get (x := ⟨w.heap.size, (n : Int), p, xs.length, c, xs⟩) (by simp)
      clear S8 hb9 R7

      go_wp2_with fail
      have S10 := S9.push (n : Int) none 0 0 [] (reads_nil _ _ _)
      have a10 := S10.get (x := ⟨w.heap.size, (n : Int), p, xs.length, c, xs⟩) (by simp)
      have b10 := S10.get (x := ⟨w5.heap.size, 0, none, 0, 0, []⟩) (by simp)
      obtain ⟨W10, hW10⟩ : ∃ W10, w9.alloc (.cells #[.int .i64 (n : Int), .slice none 0 0] 24) = W10 := ⟨_, rfl⟩
      rw [hW10] at S10 a10 b10 ⊢
      have S11 := Lib.hid S10
      clear hW10 S9 a9 S10

      go_loop [7, 16] (fun u i => u = .int .i64 3 ∧ i = .int .i64 0) (fun _ _ => 0)
      case atStart => exact ⟨rfl, rfl⟩
      case round =>
        obtain ⟨rfl, rfl⟩ := hrel
        rcases Nat.eq_zero_or_pos xs.length with e0 | e0
        all_goals
          have z0 : decide ((0 : Int) < (xs.length : Int)) = decide (0 < xs.length) := by simp
        · have z1 : decide (0 < xs.length) = false := by simp [e0]
          rw [z1] at z0
          clear e0
          go_wp2_with fail
          refine (none_any none 0 W10).mono ?_
          rintro e w12 ⟨rfl, hb12⟩
          have S12 := S11.out.next hb12
          clear hb12 a10 b10
          go_wp2_with fail
          refine (known_any w12).mono ?_
          rintro e w13 ⟨rfl, hb13⟩
          go_wp2_with fail
          go_ret
          exact ⟨rfl, (S12.next hb13).below⟩
        · have z1 : decide (0 < xs.length) = true := by simpa using e0
          rw [z1] at z0
          clear e0
          go_wp2_with fail
          refine (none_any none 0 W10).mono ?_
          rintro e w12 ⟨rfl, hb12⟩
          have S12 := S11.out.next hb12
          clear hb12 a10 b10
          go_wp2_with fail
          refine (known_any w12).mono ?_
          rintro e w13 ⟨rfl, hb13⟩
          go_wp2_with fail
          go_ret
          exact ⟨rfl, (S12.next hb13).below⟩
set_option maxRecDepth 100000 in
set_option maxHeartbeats 4000000 in
theorem PointBinds_big (n : Nat) (p : Option Addr) (c : Nat) (fb fo fc : Nat) (xs fs : List Int) (m : Int) (w : World) (hn : n ≤ 24) (hx : xs.length ≤ 70) (hf : fs.length ≤ 70) (hfl : fs.length = xs.length) (hck : checkE n xs = 0) (hr : Reads w (.slice p xs.length c) xs) (hfb : fb < w.heap.size) (hfi : IntsAt w fb fo fs) (hro : rowsOk n fs = true) (hm : 1 ≤ m ∧ m ≤ 24) (hbig : 9 < n ∨ 6 < xs.length) : pbCalls n p xs.length c (some ⟨fb, fo, none⟩) fs.length fc m w := by
  have hd : decide (70 < xs.length) = false := by simp; omega
  have Hlg := fun W h1 => large_len p xs.length c (w.heap.size + 1) W h1
  rw [hd] at Hlg
  have HL := Lib.hid Hlg
  have HR := Lib.hid hr
  have HFR := Lib.hid (show Reads w (.slice (some ⟨fb, fo, none⟩) fs.length fc) fs from ⟨_, fc, rfl, by omega, fun _ => ⟨fb, fo, rfl, hfb, hfi⟩⟩)
  have HFI := Lib.hid hfi
  have HCK := Lib.hid hck
  have HFL := Lib.hid hfl
  have fl1 : ((fs.length : Int) != (xs.length : Int)) = false := by rw [hfl]; simp
  have fl2 : (fs.length != xs.length) = false := by rw [hfl]; simp
  obtain ⟨hp1, hp2⟩ := pow_bds n hn
  have hf2 : decide ((70 : Int) < (fs.length : Int)) = false := by simp; omega
  have hf3 : decide (70 < fs.length) = false := by simp; omega
  have HRO := Lib.hid (rowsOk_all hro)
  clear hro
  have HIB : Hid (∀ W, Calls Try.prog 24 #[.int .i64 m, .int .i64 1, .int .i64 24] W fun e w' => e = .returned (.bool true) ∧ W = w') := Lib.hid (fun W => by
    have := In_any m 1 24 W
    rwa [show (decide ((1 : Int) ≤ m) && decide (m ≤ 24)) = true by simp; omega] at this)
  clear hm
  have HBig := Lib.hid hbig
  clear hbig
  clear hd Hlg hr hck hfl hfi
  go_enter Try.func4, Try.ntmps4
  go_wp2_with fail
  refine (HL.out _ ?_).mono ?_
  · have := (ArgBox.new (w.alloc (.cells #[.int .i64 (n : Int), .slice p xs.length c] 24)) (n : Int) p xs.length c).c1
    rw [World.size_alloc] at this
    exact this
  rintro e w1 ⟨rfl, rfl⟩
  obtain ⟨W1, hW1⟩ : ∃ W1, (w.alloc (.cells #[.int .i64 (n : Int), .slice p xs.length c] 24)).alloc (.cells #[.int .i64 (n : Int), .slice p xs.length c] 24) = W1 := ⟨_, rfl⟩
  have hb1 : Below w.heap.size w W1 := by rw [← hW1]; exact below2 w _ _
  have S1 : Boxes w [⟨w.heap.size, (n : Int), p, xs.length, c, xs⟩] W1 := ⟨fun x hx => by
    simp at hx; subst hx
    exact ⟨by rw [← hW1]; exact (ArgBox.new w (n : Int) p xs.length c).below (below1 _ _), HR.out.below hb1⟩, hb1⟩
  rw [hW1]
  have a1 := S1.get (x := ⟨w.heap.size, (n : Int), p, xs.length, c, xs⟩) (by simp)
  clear hW1 hb1 HL
  go_wp2_with fail
  refine (S1.plain (refCheck_any (n : Int) (.slice p xs.length c) xs W1 (S1.all ⟨w.heap.size, (n : Int), p, xs.length, c, xs⟩ (by simp)).r)).mono ?_
  rintro e w2 ⟨rfl, S2⟩
  have a2 := S2.get (x := ⟨w.heap.size, (n : Int), p, xs.length, c, xs⟩) (by simp)
  clear S1 a1
  rw [HCK.out]
  go_wp2_with fail
  have S2' := Lib.hid S2
  clear S2 a2 HCK
  go_loopw [7, 8] (fun u i wr => ∃ k : Nat, k ≤ fs.length ∧ u = .int .i64 0 ∧ i = .int .i64 k ∧ Boxes w [⟨w.heap.size, (n : Int), p, xs.length, c, xs⟩] wr) (fun _ i _ => fs.length - (intOf i).toNat)
  case atStart => exact ⟨0, Nat.zero_le _, rfl, rfl, S2'.out⟩
  case round =>
    obtain ⟨k, hk, rfl, rfl, hS3⟩ := hrel
    have S3 := Lib.hid hS3
    clear hS3
    by_cases hlt : k < fs.length
    · have hok := HRO.out k hlt
      have hc := (HFI.out.below S3.out.below hfb) k hlt
      have a3 := S3.out.get (x := ⟨w.heap.size, (n : Int), p, xs.length, c, xs⟩) (by simp)
      have hk0 : (0 : Int) ≤ (k : Int) := by omega
      have hk1 : (k : Int) < (fs.length : Int) := by omega
      have hu : IntKind.u64.wrap (n : Int) = (n : Int) := IntWalk.u64_in _ (by omega)
      have hmn : min n 64 = n := by omega
      have hw1 : IntKind.i64.wrap (2 ^ n) = 2 ^ n := IntWalk.i64_in _ (by omega)
      have hw2 : IntKind.i64.wrap (2 ^ n - 1) = 2 ^ n - 1 := IntWalk.i64_in _ (by omega)
      have HI : ∀ w, Calls Try.prog 24 #[.int .i64 (nthI fs k), .int .i64 0, .int .i64 (2 ^ n - 1)] w fun e w' => e = .returned (.bool true) ∧ w = w' := fun w => by
        have := In_any (nthI fs k) 0 (2 ^ n - 1) w
        rwa [show (decide (0 ≤ nthI fs k) && decide (nthI fs k ≤ 2 ^ n - 1)) = true by simp; omega] at this
      have Hok := Lib.hid hok
      clear hok
      go_wp2_with fail
      go_region_with (go_at_call 24; refine (HI _).mono ?_; rintro e w' ⟨rfl, rfl⟩)
      all_goals clear hu hmn hw1 hw2 hc a3
      all_goals go_wp2_with fail
      all_goals go_roundw
      all_goals first
        | (simp [intOf]; omega)
        | exact ⟨k + 1, by omega, rfl, by go_num, S3.out.drew⟩
    · have S2 := S3.out
      have a2 := S2.get (x := ⟨w.heap.size, (n : Int), p, xs.length, c, xs⟩) (by simp)
      clear S3
      go_wp2_with fail
      refine (HIB.out _).mono ?_
      rintro e wq ⟨rfl, rfl⟩
      by_cases h9 : 9 < n
      · have d9 : decide ((9 : Int) < (n : Int)) = true := by simp; omega
        have d9' : decide (9 < n) = true := by simpa using h9
        clear h9
        go_wp2_with fail
        refine (known_any _).mono ?_
        rintro e w13 ⟨rfl, hb13⟩
        go_wp2_with fail
        go_ret
        exact ⟨rfl, (S2.next hb13).below⟩
      · have d9 : decide ((9 : Int) < (n : Int)) = false := by simp; omega
        have d9' : decide (9 < n) = false := by simpa using h9
        have d6 : decide ((6 : Int) < (xs.length : Int)) = true := by have := HBig.out; simp; omega
        have d6' : decide (6 < xs.length) = true := by have := HBig.out; simp; omega
        clear h9
        go_wp2_with fail
        refine (known_any _).mono ?_
        rintro e w13 ⟨rfl, hb13⟩
        go_wp2_with fail
        go_ret
        exact ⟨rfl, (S2.next hb13).below⟩
set_option maxRecDepth 100000 in
set_option maxHeartbeats 4000000 in
theorem PointBinds_arg (n : Nat) (p : Option Addr) (c : Nat) (fb fo fc : Nat) (xs fs : List Int) (m : Int) (w : World) (hn : n ≤ 24) (hx : xs.length ≤ 70) (hf : fs.length ≤ 70) (hfl : fs.length = xs.length) (hck : checkE n xs = 0) (hr : Reads w (.slice p xs.length c) xs) (hfb : fb < w.heap.size) (hfi : IntsAt w fb fo fs) (hro : rowsOk n fs = false) (hb : BindSays n xs fs m 2) : pbCalls n p xs.length c (some ⟨fb, fo, none⟩) fs.length fc m w := by
  have hd : decide (70 < xs.length) = false := by simp; omega
  have Hlg := fun W h1 => large_len p xs.length c (w.heap.size + 1) W h1
  rw [hd] at Hlg
  have HL := Lib.hid Hlg
  have HR := Lib.hid hr
  have HFR := Lib.hid (show Reads w (.slice (some ⟨fb, fo, none⟩) fs.length fc) fs from ⟨_, fc, rfl, by omega, fun _ => ⟨fb, fo, rfl, hfb, hfi⟩⟩)
  have HFI := Lib.hid hfi
  have HCK := Lib.hid hck
  have HFL := Lib.hid hfl
  have fl1 : ((fs.length : Int) != (xs.length : Int)) = false := by rw [hfl]; simp
  have fl2 : (fs.length != xs.length) = false := by rw [hfl]; simp
  obtain ⟨hp1, hp2⟩ := pow_bds n hn
  have HBd := Lib.hid hb
  have hf2 : decide ((70 : Int) < (fs.length : Int)) = false := by simp; omega
  have hf3 : decide (70 < fs.length) = false := by simp; omega
  have HRO := Lib.hid hro
  clear hro
  clear hd Hlg hr hck hfl hfi hb
  go_enter Try.func4, Try.ntmps4
  go_wp2_with fail
  refine (HL.out _ ?_).mono ?_
  · have := (ArgBox.new (w.alloc (.cells #[.int .i64 (n : Int), .slice p xs.length c] 24)) (n : Int) p xs.length c).c1
    rw [World.size_alloc] at this
    exact this
  rintro e w1 ⟨rfl, rfl⟩
  obtain ⟨W1, hW1⟩ : ∃ W1, (w.alloc (.cells #[.int .i64 (n : Int), .slice p xs.length c] 24)).alloc (.cells #[.int .i64 (n : Int), .slice p xs.length c] 24) = W1 := ⟨_, rfl⟩
  have hb1 : Below w.heap.size w W1 := by rw [← hW1]; exact below2 w _ _
  have S1 : Boxes w [⟨w.heap.size, (n : Int), p, xs.length, c, xs⟩] W1 := ⟨fun x hx => by
    simp at hx; subst hx
    exact ⟨by rw [← hW1]; exact (ArgBox.new w (n : Int) p xs.length c).below (below1 _ _), HR.out.below hb1⟩, hb1⟩
  rw [hW1]
  have a1 := S1.get (x := ⟨w.heap.size, (n : Int), p, xs.length, c, xs⟩) (by simp)
  clear hW1 hb1 HL
  go_wp2_with fail
  refine (S1.plain (refCheck_any (n : Int) (.slice p xs.length c) xs W1 (S1.all ⟨w.heap.size, (n : Int), p, xs.length, c, xs⟩ (by simp)).r)).mono ?_
  rintro e w2 ⟨rfl, S2⟩
  have a2 := S2.get (x := ⟨w.heap.size, (n : Int), p, xs.length, c, xs⟩) (by simp)
  clear S1 a1
  rw [HCK.out]
  go_wp2_with fail
  have S2' := Lib.hid S2
  clear S2 a2 HCK
  go_loopw [7, 8] (fun u i wr => ∃ k : Nat, k ≤ fs.length ∧ i = .int .i64 k ∧ Boxes w [⟨w.heap.size, (n : Int), p, xs.length, c, xs⟩] wr ∧ ((u = .int .i64 0 ∧ rowsOk n (fs.take k) = true) ∨ u = .int .i64 2)) (fun _ i _ => fs.length - (intOf i).toNat)
  case atStart => exact ⟨0, Nat.zero_le _, rfl, S2'.out, .inl ⟨rfl, by simp [rowsOk]⟩⟩
  case round =>
    obtain ⟨k, hk, rfl, hS3, hu⟩ := hrel
    have S3 := Lib.hid hS3
    clear hS3
    rcases hu with ⟨rfl, hro⟩ | rfl
    · have Hro := Lib.hid hro
      clear hro
      have hlt : k < fs.length := by
        rcases Nat.lt_or_ge k fs.length with h | h
        · exact h
        · have h1 := Hro.out
          rw [List.take_of_length_le h, HRO.out] at h1
          simp at h1
      have hc := (HFI.out.below S3.out.below hfb) k hlt
      have a3 := S3.out.get (x := ⟨w.heap.size, (n : Int), p, xs.length, c, xs⟩) (by simp)
      have hk0 : (0 : Int) ≤ (k : Int) := by omega
      have hk1 : (k : Int) < (fs.length : Int) := by omega
      have hu : IntKind.u64.wrap (n : Int) = (n : Int) := IntWalk.u64_in _ (by omega)
      have hmn : min n 64 = n := by omega
      have hw1 : IntKind.i64.wrap (2 ^ n) = 2 ^ n := IntWalk.i64_in _ (by omega)
      have hw2 : IntKind.i64.wrap (2 ^ n - 1) = 2 ^ n - 1 := IntWalk.i64_in _ (by omega)
      by_cases hok : 0 ≤ nthI fs k ∧ nthI fs k < 2 ^ n
      · have HR2 := Lib.hid (rowsOk_step n fs k hlt Hro.out hok.1 hok.2)
        have HI : ∀ w, Calls Try.prog 24 #[.int .i64 (nthI fs k), .int .i64 0, .int .i64 (2 ^ n - 1)] w fun e w' => e = .returned (.bool true) ∧ w = w' := fun w => by
          have := In_any (nthI fs k) 0 (2 ^ n - 1) w
          rwa [show (decide (0 ≤ nthI fs k) && decide (nthI fs k ≤ 2 ^ n - 1)) = true by simp; omega] at this
        clear hok
        go_wp2_with fail
        go_region_with (go_at_call 24; refine (HI _).mono ?_; rintro e w' ⟨rfl, rfl⟩)
        all_goals clear hu hmn hw1 hw2 hc a3
        all_goals go_wp2_with fail
        all_goals go_roundw
        all_goals first
          | (simp [intOf]; omega)
          | exact ⟨k + 1, by omega, by go_num, S3.out.drew, .inl ⟨rfl, HR2.out⟩⟩
      · have hk24 : True := trivial
        have HI : ∀ w, Calls Try.prog 24 #[.int .i64 (nthI fs k), .int .i64 0, .int .i64 (2 ^ n - 1)] w fun e w' => e = .returned (.bool false) ∧ w = w' := fun w => by
          have := In_any (nthI fs k) 0 (2 ^ n - 1) w
          rwa [show (decide (0 ≤ nthI fs k) && decide (nthI fs k ≤ 2 ^ n - 1)) = false by simp; omega] at this
        clear hok
        go_wp2_with fail
        go_region_with (go_at_call 24; refine (HI _).mono ?_; rintro e w' ⟨rfl, rfl⟩)
        all_goals clear hu hmn hw1 hw2 hc a3
        all_goals go_wp2_with fail
        all_goals go_roundw
        all_goals first
          | (simp [intOf]; omega)
          | exact ⟨k + 1, by omega, by go_num, S3.out.drew, .inr rfl⟩
    · have S2 := S3.out
      have a2 := S2.get (x := ⟨w.heap.size, (n : Int), p, xs.length, c, xs⟩) (by simp)
      clear S3
      by_cases hlt : k < fs.length
      · have z0 : decide ((k : Int) < (fs.length : Int)) = true := by simp; omega
        have z1 : decide (k < fs.length) = true := by simpa using hlt
        clear hlt
        go_wp2_with fail
        refine (own_any (n : Int) p c xs _ (by omega) (S2.all ⟨w.heap.size, (n : Int), p, xs.length, c, xs⟩ (by simp)).r).mono ?_
        rintro e w3 ⟨p2, c2, rfl, hr2, hb3⟩
        have S3 := S2.next hb3
        have R2 := Lib.hid hr2
        have b3 := S3.get (x := ⟨w.heap.size, (n : Int), p, xs.length, c, xs⟩) (by simp)
        clear S2 a2 hb3 hr2
        go_wp2_with fail
        refine (ints_any (some ⟨fb, fo, none⟩) fc fs w3 (by omega) (HFR.out.below S3.below)).mono ?_
        rintro e w4 ⟨q2, fc2, rfl, hr3, _, hb4⟩
        have S4 := (S3.next hb4).push (n : Int) p2 xs.length c2 xs (R2.out.below hb4)
        have R3 := Lib.hid (hr3.below (below1 w4 (.cells #[.int .i64 (n : Int), .slice p2 xs.length c2] 24)))
        clear S3 hb4 hr3 R2 b3
        go_wp2_with fail
        refine (HBd.out _ p2 c2 q2 fc2 (S4.all ⟨w4.heap.size, (n : Int), p2, xs.length, c2, xs⟩ (by simp)).r R3.out).mono ?_
        rintro e w5 ⟨rfl, hb5⟩
        have S5 := (S4.next hb5).push 0 none 0 0 [] (reads_nil _ _ _)
        have R4 := Lib.hid ((R3.out.below hb5).below (below1 w5 (.cells #[.int .i64 0, .slice none 0 0] 24)))
        have a5 := (S4.next hb5).get (x := ⟨w4.heap.size, (n : Int), p2, xs.length, c2, xs⟩) (by simp)
        have b5 := (S4.next hb5).get (x := ⟨w.heap.size, (n : Int), p, xs.length, c, xs⟩) (by simp)
        clear S4 hb5 R3

        go_wp2_with fail
        refine (Same_reads (n : Int) p2 p xs.length xs.length c2 c xs _ (S5.all ⟨w4.heap.size, (n : Int), p2, xs.length, c2, xs⟩ (by simp)).r (S5.all ⟨w.heap.size, (n : Int), p, xs.length, c, xs⟩ (by simp)).r).mono ?_
        rintro e w6 ⟨rfl, hb6⟩
        have S6 := S5.next hb6
        have R5 := Lib.hid (R4.out.below hb6)
        clear S5 hb6 a5 b5 R4

        go_wp2_with fail
        refine (design_any 0 q2 fs.length fc2 w6).mono ?_
        rintro e w7 ⟨rfl, hb7⟩
        have S7 := S6.next hb7
        have R6 := Lib.hid (R5.out.below hb7)
        clear S6 hb7 R5
        go_wp2_with fail
        refine (design_any 0 (some ⟨fb, fo, none⟩) fs.length fc w7).mono ?_
        rintro e w8 ⟨rfl, hb8⟩
        have S8 := S7.next hb8
        have R7 := Lib.hid (R6.out.below hb8)
        clear S7 hb8 R6
        go_wp2_with fail
        refine (Same_reads 0 q2 (some ⟨fb, fo, none⟩) fs.length fs.length fc2 fc fs w8 R7.out (HFR.out.below S8.below)).mono ?_
        rintro e w9 ⟨rfl, hb9⟩
        have S9 := S8.next hb9
        have a9 := S9.get (x := ⟨w.heap.size, (n : Int), p, xs.length, c, xs⟩) (by simp)
        clear S8 hb9 R7

        go_wp2_with fail
        have S10 := S9.push (n : Int) none 0 0 [] (reads_nil _ _ _)
        have a10 := S10.get (x := ⟨w.heap.size, (n : Int), p, xs.length, c, xs⟩) (by simp)
        have b10 := S10.get (x := ⟨w5.heap.size, 0, none, 0, 0, []⟩) (by simp)
        obtain ⟨W10, hW10⟩ : ∃ W10, w9.alloc (.cells #[.int .i64 (n : Int), .slice none 0 0] 24) = W10 := ⟨_, rfl⟩
        rw [hW10] at S10 a10 b10 ⊢
        have S11 := Lib.hid S10
        clear hW10 S9 a9 S10

        go_loop [7, 16] (fun u i => u = .int .i64 2 ∧ i = .int .i64 0) (fun _ _ => 0)
        case atStart => exact ⟨rfl, rfl⟩
        case round =>
          obtain ⟨rfl, rfl⟩ := hrel
          rcases Nat.eq_zero_or_pos xs.length with e0 | e0
          all_goals
            have z0 : decide ((0 : Int) < (xs.length : Int)) = decide (0 < xs.length) := by simp
          · have z1 : decide (0 < xs.length) = false := by simp [e0]
            rw [z1] at z0
            clear e0
            go_wp2_with fail
            refine (none_any none 0 W10).mono ?_
            rintro e w12 ⟨rfl, hb12⟩
            have S12 := S11.out.next hb12
            clear hb12 a10 b10
            go_wp2_with fail
            refine (known_any w12).mono ?_
            rintro e w13 ⟨rfl, hb13⟩
            go_wp2_with fail
            go_ret
            exact ⟨rfl, (S12.next hb13).below⟩
          · have z1 : decide (0 < xs.length) = true := by simpa using e0
            rw [z1] at z0
            clear e0
            go_wp2_with fail
            refine (none_any none 0 W10).mono ?_
            rintro e w12 ⟨rfl, hb12⟩
            have S12 := S11.out.next hb12
            clear hb12 a10 b10
            go_wp2_with fail
            refine (known_any w12).mono ?_
            rintro e w13 ⟨rfl, hb13⟩
            go_wp2_with fail
            go_ret
            exact ⟨rfl, (S12.next hb13).below⟩
      · have z0 : decide ((k : Int) < (fs.length : Int)) = false := by simp; omega
        have z1 : decide (k < fs.length) = false := by simpa using hlt
        clear hlt
        go_wp2_with fail
        refine (own_any (n : Int) p c xs _ (by omega) (S2.all ⟨w.heap.size, (n : Int), p, xs.length, c, xs⟩ (by simp)).r).mono ?_
        rintro e w3 ⟨p2, c2, rfl, hr2, hb3⟩
        have S3 := S2.next hb3
        have R2 := Lib.hid hr2
        have b3 := S3.get (x := ⟨w.heap.size, (n : Int), p, xs.length, c, xs⟩) (by simp)
        clear S2 a2 hb3 hr2
        go_wp2_with fail
        refine (ints_any (some ⟨fb, fo, none⟩) fc fs w3 (by omega) (HFR.out.below S3.below)).mono ?_
        rintro e w4 ⟨q2, fc2, rfl, hr3, _, hb4⟩
        have S4 := (S3.next hb4).push (n : Int) p2 xs.length c2 xs (R2.out.below hb4)
        have R3 := Lib.hid (hr3.below (below1 w4 (.cells #[.int .i64 (n : Int), .slice p2 xs.length c2] 24)))
        clear S3 hb4 hr3 R2 b3
        go_wp2_with fail
        refine (HBd.out _ p2 c2 q2 fc2 (S4.all ⟨w4.heap.size, (n : Int), p2, xs.length, c2, xs⟩ (by simp)).r R3.out).mono ?_
        rintro e w5 ⟨rfl, hb5⟩
        have S5 := (S4.next hb5).push 0 none 0 0 [] (reads_nil _ _ _)
        have R4 := Lib.hid ((R3.out.below hb5).below (below1 w5 (.cells #[.int .i64 0, .slice none 0 0] 24)))
        have a5 := (S4.next hb5).get (x := ⟨w4.heap.size, (n : Int), p2, xs.length, c2, xs⟩) (by simp)
        have b5 := (S4.next hb5).get (x := ⟨w.heap.size, (n : Int), p, xs.length, c, xs⟩) (by simp)
        clear S4 hb5 R3

        go_wp2_with fail
        refine (Same_reads (n : Int) p2 p xs.length xs.length c2 c xs _ (S5.all ⟨w4.heap.size, (n : Int), p2, xs.length, c2, xs⟩ (by simp)).r (S5.all ⟨w.heap.size, (n : Int), p, xs.length, c, xs⟩ (by simp)).r).mono ?_
        rintro e w6 ⟨rfl, hb6⟩
        have S6 := S5.next hb6
        have R5 := Lib.hid (R4.out.below hb6)
        clear S5 hb6 a5 b5 R4

        go_wp2_with fail
        refine (design_any 0 q2 fs.length fc2 w6).mono ?_
        rintro e w7 ⟨rfl, hb7⟩
        have S7 := S6.next hb7
        have R6 := Lib.hid (R5.out.below hb7)
        clear S6 hb7 R5
        go_wp2_with fail
        refine (design_any 0 (some ⟨fb, fo, none⟩) fs.length fc w7).mono ?_
        rintro e w8 ⟨rfl, hb8⟩
        have S8 := S7.next hb8
        have R7 := Lib.hid (R6.out.below hb8)
        clear S7 hb8 R6
        go_wp2_with fail
        refine (Same_reads 0 q2 (some ⟨fb, fo, none⟩) fs.length fs.length fc2 fc fs w8 R7.out (HFR.out.below S8.below)).mono ?_
        rintro e w9 ⟨rfl, hb9⟩
        have S9 := S8.next hb9
        have a9 := S9.get (x := ⟨w.heap.size, (n : Int), p, xs.length, c, xs⟩) (by simp)
        clear S8 hb9 R7

        go_wp2_with fail
        have S10 := S9.push (n : Int) none 0 0 [] (reads_nil _ _ _)
        have a10 := S10.get (x := ⟨w.heap.size, (n : Int), p, xs.length, c, xs⟩) (by simp)
        have b10 := S10.get (x := ⟨w5.heap.size, 0, none, 0, 0, []⟩) (by simp)
        obtain ⟨W10, hW10⟩ : ∃ W10, w9.alloc (.cells #[.int .i64 (n : Int), .slice none 0 0] 24) = W10 := ⟨_, rfl⟩
        rw [hW10] at S10 a10 b10 ⊢
        have S11 := Lib.hid S10
        clear hW10 S9 a9 S10

        go_loop [7, 16] (fun u i => u = .int .i64 2 ∧ i = .int .i64 0) (fun _ _ => 0)
        case atStart => exact ⟨rfl, rfl⟩
        case round =>
          obtain ⟨rfl, rfl⟩ := hrel
          rcases Nat.eq_zero_or_pos xs.length with e0 | e0
          all_goals
            have z0 : decide ((0 : Int) < (xs.length : Int)) = decide (0 < xs.length) := by simp
          · have z1 : decide (0 < xs.length) = false := by simp [e0]
            rw [z1] at z0
            clear e0
            go_wp2_with fail
            refine (none_any none 0 W10).mono ?_
            rintro e w12 ⟨rfl, hb12⟩
            have S12 := S11.out.next hb12
            clear hb12 a10 b10
            go_wp2_with fail
            refine (known_any w12).mono ?_
            rintro e w13 ⟨rfl, hb13⟩
            go_wp2_with fail
            go_ret
            exact ⟨rfl, (S12.next hb13).below⟩
          · have z1 : decide (0 < xs.length) = true := by simpa using e0
            rw [z1] at z0
            clear e0
            go_wp2_with fail
            refine (none_any none 0 W10).mono ?_
            rintro e w12 ⟨rfl, hb12⟩
            have S12 := S11.out.next hb12
            clear hb12 a10 b10
            go_wp2_with fail
            refine (known_any w12).mono ?_
            rintro e w13 ⟨rfl, hb13⟩
            go_wp2_with fail
            go_ret
            exact ⟨rfl, (S12.next hb13).below⟩
end Go.Proofs.Ytjobbleabepaiaa
