/- PointBinds: the walks. -/
import Derived.Test.YtjobbleabepaiaaBB
import Derived.Test.YtjobbleabepaiaaXR
namespace Go.Proofs.Ytjobbleabepaiaa
open Go.RowKit Go.Shelf

/-- PointBinds on its arguments -/
abbrev pbCalls (h : Int) (p : Option Addr) (l c : Nat) (q : Option Addr) (fl fc : Nat) (m : Int) (w : World) : Prop :=
  Calls Try.prog 4 #[.agg #[.int .i64 h, .slice p l c], .slice q fl fc, .int .i64 m] w fun e w' => e = .returned (.bool true) ∧ Below w.heap.size w w'
set_option maxRecDepth 100000 in
set_option maxHeartbeats 4000000 in
theorem PointBinds_large (h : Int) (p : Option Addr) (l c : Nat) (q : Option Addr) (fl fc : Nat) (m : Int) (w : World) (hlg : 70 < l) : pbCalls h p l c q fl fc m w := by
  have hd : decide (70 < l) = true := by simpa using hlg
  have Hlg := fun W h1 => large_len p l c (w.heap.size + 1) W h1
  rw [hd] at Hlg
  have HL := Lib.hid Hlg
  clear hd hlg Hlg
  go_enter Try.func4, Try.ntmps4
  go_wp2_with fail
  refine (HL.out _ ?_).mono ?_
  · have := (ArgBox.new (w.alloc (.cells #[.int .i64 h, .slice p l c] 24)) h p l c).c1
    rw [World.size_alloc] at this
    exact this
  rintro e w1 ⟨rfl, rfl⟩
  go_wp2_with fail
  refine (known_any _).mono ?_
  rintro e w2 ⟨rfl, hb2⟩
  go_wp2_with fail
  go_ret
  exact ⟨rfl, (((Below.refl _ _).alloc (Nat.le_refl _) _).alloc (by simp) _).trans (hb2.mono (by simp; omega))⟩
set_option maxRecDepth 100000 in
set_option maxHeartbeats 4000000 in
theorem PointBinds_fixed (h : Int) (p : Option Addr) (l c : Nat) (q : Option Addr) (fl fc : Nat) (m : Int) (w : World) (hsm : l ≤ 70) (hlg : 70 < fl) : pbCalls h p l c q fl fc m w := by
  have hd : decide (70 < l) = false := by simp; omega
  have Hlg := fun W h1 => large_len p l c (w.heap.size + 1) W h1
  rw [hd] at Hlg
  have HL := Lib.hid Hlg
  have hd2 : decide ((70 : Int) < (fl : Int)) = true := by simp; omega
  have hd3 : decide (70 < fl) = true := by simpa using hlg
  clear hd hsm Hlg hlg
  go_enter Try.func4, Try.ntmps4
  go_wp2_with fail
  refine (HL.out _ ?_).mono ?_
  · have := (ArgBox.new (w.alloc (.cells #[.int .i64 h, .slice p l c] 24)) h p l c).c1
    rw [World.size_alloc] at this
    exact this
  rintro e w1 ⟨rfl, rfl⟩
  go_wp2_with fail
  refine (known_any _).mono ?_
  rintro e w2 ⟨rfl, hb2⟩
  go_wp2_with fail
  go_ret
  exact ⟨rfl, (((Below.refl _ _).alloc (Nat.le_refl _) _).alloc (by simp) _).trans (hb2.mono (by simp; omega))⟩

/-- what Bind answers to copies of its arguments -/
def BindSays (h : Int) (xs fs : List Int) (m r : Int) : Prop :=
  ∀ W p c q fc, Reads W (.slice p xs.length c) xs → Reads W (.slice q fs.length fc) fs → Calls Try.prog 29 #[.agg #[.int .i64 h, .slice p xs.length c], .slice q fs.length fc, .int .i64 m] W (ErrB r W)
set_option maxRecDepth 100000 in
set_option maxHeartbeats 4000000 in
theorem PointBinds_check (h : Int) (p : Option Addr) (c : Nat) (q : Option Addr) (fc : Nat) (xs fs : List Int) (m r : Int) (w : World) (hx : xs.length ≤ 70) (hf : fs.length ≤ 70) (hr : Reads w (.slice p xs.length c) xs) (hfr : Reads w (.slice q fs.length fc) fs) (hck : checkE h xs = r) (hne : r ≠ 0) (hb : BindSays h xs fs m r) : pbCalls h p xs.length c q fs.length fc m w := by
  have hd : decide (70 < xs.length) = false := by simp; omega
  have Hlg := fun W h1 => large_len p xs.length c (w.heap.size + 1) W h1
  rw [hd] at Hlg
  have HL := Lib.hid Hlg
  have HR := Lib.hid hr
  have HFR := Lib.hid hfr
  have HBd := Lib.hid hb
  have n1 : (r == 0) = false := by simpa using hne
  have n2 : (r != 0) = true := by simpa using hne
  have n3 : (r == r) = true := by simp
  have hf2 : decide ((70 : Int) < (fs.length : Int)) = false := by simp; omega
  have hf3 : decide (70 < fs.length) = false := by simp; omega
  have HCK := Lib.hid hck
  clear hck
  clear hd Hlg hr hfr hb hne
  go_enter Try.func4, Try.ntmps4
  go_wp2_with fail
  refine (HL.out _ ?_).mono ?_
  · have := (ArgBox.new (w.alloc (.cells #[.int .i64 h, .slice p xs.length c] 24)) h p xs.length c).c1
    rw [World.size_alloc] at this
    exact this
  rintro e w1 ⟨rfl, rfl⟩
  obtain ⟨W1, hW1⟩ : ∃ W1, (w.alloc (.cells #[.int .i64 h, .slice p xs.length c] 24)).alloc (.cells #[.int .i64 h, .slice p xs.length c] 24) = W1 := ⟨_, rfl⟩
  have hb1 : Below w.heap.size w W1 := by rw [← hW1]; exact below2 w _ _
  have S1 : Boxes w [⟨w.heap.size, h, p, xs.length, c, xs⟩] W1 := ⟨fun x hx => by
    simp at hx; subst hx
    exact ⟨by rw [← hW1]; exact (ArgBox.new w h p xs.length c).below (below1 _ _), HR.out.below hb1⟩, hb1⟩
  rw [hW1]
  have a1 := S1.get (x := ⟨w.heap.size, h, p, xs.length, c, xs⟩) (by simp)
  clear hW1 hb1 HL
  go_wp2_with fail
  refine (S1.plain (refCheck_any h (.slice p xs.length c) xs W1 (S1.all ⟨w.heap.size, h, p, xs.length, c, xs⟩ (by simp)).r)).mono ?_
  rintro e w2 ⟨rfl, S2⟩
  have a2 := S2.get (x := ⟨w.heap.size, h, p, xs.length, c, xs⟩) (by simp)
  clear S1 a1
  rw [HCK.out]
  go_wp2_with fail
  have S2' := Lib.hid S2
  go_loop [7, 8] (fun u i => u = .int .i64 r ∧ i = .int .i64 0) (fun _ _ => 0)
  case atStart => exact ⟨rfl, rfl⟩
  case round =>
    obtain ⟨rfl, rfl⟩ := hrel
    rcases Nat.eq_zero_or_pos fs.length with e0 | e0
    · have z0 : decide ((0 : Int) < (fs.length : Int)) = false := by simp [e0]
      have z1 : decide (0 < fs.length) = false := by simp [e0]
      clear e0
      go_wp2_with fail
      refine (own_any h p c xs _ (by omega) (S2.all ⟨w.heap.size, h, p, xs.length, c, xs⟩ (by simp)).r).mono ?_
      rintro e w3 ⟨p2, c2, rfl, hr2, hb3⟩
      have S3 := S2.next hb3
      have R2 := Lib.hid hr2
      have b3 := S3.get (x := ⟨w.heap.size, h, p, xs.length, c, xs⟩) (by simp)
      clear S2 a2 hb3 hr2
      go_wp2_with fail
      refine (ints_any q fc fs w3 (by omega) (HFR.out.below S3.below)).mono ?_
      rintro e w4 ⟨q2, fc2, rfl, hr3, _, hb4⟩
      have S4 := (S3.next hb4).push h p2 xs.length c2 xs (R2.out.below hb4)
      have R3 := Lib.hid (hr3.below (below1 w4 (.cells #[.int .i64 h, .slice p2 xs.length c2] 24)))
      clear S3 hb4 hr3 R2 b3
      go_wp2_with fail
      refine (HBd.out _ p2 c2 q2 fc2 (S4.all ⟨w4.heap.size, h, p2, xs.length, c2, xs⟩ (by simp)).r R3.out).mono ?_
      rintro e w5 ⟨rfl, hb5⟩
      have S5 := (S4.next hb5).push 0 none 0 0 [] (reads_nil _ _ _)
      have R4 := Lib.hid ((R3.out.below hb5).below (below1 w5 (.cells #[.int .i64 0, .slice none 0 0] 24)))
      have a5 := (S4.next hb5).get (x := ⟨w4.heap.size, h, p2, xs.length, c2, xs⟩) (by simp)
      have b5 := (S4.next hb5).get (x := ⟨w.heap.size, h, p, xs.length, c, xs⟩) (by simp)
      clear S4 hb5 R3

      go_wp2_with fail
      refine (Same_reads h p2 p xs.length xs.length c2 c xs _ (S5.all ⟨w4.heap.size, h, p2, xs.length, c2, xs⟩ (by simp)).r (S5.all ⟨w.heap.size, h, p, xs.length, c, xs⟩ (by simp)).r).mono ?_
      rintro e w6 ⟨rfl, hb6⟩
      have S6 := S5.next hb6
      have R5 := Lib.hid (R4.out.below hb6)
      clear S5 hb6 a5 b5 R4

      go_wp2_with fail
      refine (design_any 0 q2 fs.length fc2 w6).mono ?_
      rintro e w7 ⟨rfl, hb7⟩
      have S7 := S6.next hb7
      have R6 := Lib.hid (R5.out.below hb7)
      clear S6 hb7 R5
      go_wp2_with fail
      refine (design_any 0 q fs.length fc w7).mono ?_
      rintro e w8 ⟨rfl, hb8⟩
      have S8 := S7.next hb8
      have R7 := Lib.hid (R6.out.below hb8)
      clear S7 hb8 R6
      go_wp2_with fail
      refine (Same_reads 0 q2 q fs.length fs.length fc2 fc fs w8 R7.out (HFR.out.below S8.below)).mono ?_
      rintro e w9 ⟨rfl, hb9⟩
      have S9 := S8.next hb9
      have a9 := S9.get (x := ⟨w.heap.size, h, p, xs.length, c, xs⟩) (by simp)
      clear S8 hb9 R7

      go_wp2_with fail
      have S10 := S9.push h none 0 0 [] (reads_nil _ _ _)
      have a10 := S10.get (x := ⟨w.heap.size, h, p, xs.length, c, xs⟩) (by simp)
      have b10 := S10.get (x := ⟨w5.heap.size, 0, none, 0, 0, []⟩) (by simp)
      obtain ⟨W10, hW10⟩ : ∃ W10, w9.alloc (.cells #[.int .i64 h, .slice none 0 0] 24) = W10 := ⟨_, rfl⟩
      rw [hW10] at S10 a10 b10 ⊢
      have S11 := Lib.hid S10
      clear hW10 S9 a9 S10

      go_loop [7, 16] (fun u i => u = .int .i64 r ∧ i = .int .i64 0) (fun _ _ => 0)
      case atStart => exact ⟨rfl, rfl⟩
      case round =>
        obtain ⟨rfl, rfl⟩ := hrel
        rcases Nat.eq_zero_or_pos xs.length with e0 | e0
        all_goals
          have z0 : decide ((0 : Int) < (xs.length : Int)) = decide (0 < xs.length) := by simp
        · have z1 : decide (0 < xs.length) = false := by simp [e0]
          rw [z1] at z0
          clear e0
          go_wp2_with fail
          refine (none_any none 0 W10).mono ?_
          rintro e w12 ⟨rfl, hb12⟩
          have S12 := S11.out.next hb12
          clear hb12 a10 b10
          go_wp2_with fail
          refine (known_any w12).mono ?_
          rintro e w13 ⟨rfl, hb13⟩
          go_wp2_with fail
          go_ret
          exact ⟨rfl, (S12.next hb13).below⟩
        · have z1 : decide (0 < xs.length) = true := by simpa using e0
          rw [z1] at z0
          clear e0
          go_wp2_with fail
          refine (none_any none 0 W10).mono ?_
          rintro e w12 ⟨rfl, hb12⟩
          have S12 := S11.out.next hb12
          clear hb12 a10 b10
          go_wp2_with fail
          refine (known_any w12).mono ?_
          rintro e w13 ⟨rfl, hb13⟩
          go_wp2_with fail
          go_ret
          exact ⟨rfl, (S12.next hb13).below⟩
    · have z0 : decide ((0 : Int) < (fs.length : Int)) = true := by simp; omega
      have z1 : decide (0 < fs.length) = true := by simpa using e0
      clear e0
      go_wp2_with fail
      refine (own_any h p c xs _ (by omega) (S2.all ⟨w.heap.size, h, p, xs.length, c, xs⟩ (by simp)).r).mono ?_
      rintro e w3 ⟨p2, c2, rfl, hr2, hb3⟩
      have S3 := S2.next hb3
      have R2 := Lib.hid hr2
      have b3 := S3.get (x := ⟨w.heap.size, h, p, xs.length, c, xs⟩) (by simp)
      clear S2 a2 hb3 hr2
      go_wp2_with fail
      refine (ints_any q fc fs w3 (by omega) (HFR.out.below S3.below)).mono ?_
      rintro e w4 ⟨q2, fc2, rfl, hr3, _, hb4⟩
      have S4 := (S3.next hb4).push h p2 xs.length c2 xs (R2.out.below hb4)
      have R3 := Lib.hid (hr3.below (below1 w4 (.cells #[.int .i64 h, .slice p2 xs.length c2] 24)))
      clear S3 hb4 hr3 R2 b3
      go_wp2_with fail
      refine (HBd.out _ p2 c2 q2 fc2 (S4.all ⟨w4.heap.size, h, p2, xs.length, c2, xs⟩ (by simp)).r R3.out).mono ?_
      rintro e w5 ⟨rfl, hb5⟩
      have S5 := (S4.next hb5).push 0 none 0 0 [] (reads_nil _ _ _)
      have R4 := Lib.hid ((R3.out.below hb5).below (below1 w5 (.cells #[.int .i64 0, .slice none 0 0] 24)))
      have a5 := (S4.next hb5).get (x := ⟨w4.heap.size, h, p2, xs.length, c2, xs⟩) (by simp)
      have b5 := (S4.next hb5).get (x := ⟨w.heap.size, h, p, xs.length, c, xs⟩) (by simp)
      clear S4 hb5 R3

      go_wp2_with fail
      refine (Same_reads h p2 p xs.length xs.length c2 c xs _ (S5.all ⟨w4.heap.size, h, p2, xs.length, c2, xs⟩ (by simp)).r (S5.all ⟨w.heap.size, h, p, xs.length, c, xs⟩ (by simp)).r).mono ?_
      rintro e w6 ⟨rfl, hb6⟩
      have S6 := S5.next hb6
      have R5 := Lib.hid (R4.out.below hb6)
      clear S5 hb6 a5 b5 R4

      go_wp2_with fail
      refine (design_any 0 q2 fs.length fc2 w6).mono ?_
      rintro e w7 ⟨rfl, hb7⟩
      have S7 := S6.next hb7
      have R6 := Lib.hid (R5.out.below hb7)
      clear S6 hb7 R5
      go_wp2_with fail
      refine (design_any 0 q fs.length fc w7).mono ?_
      rintro e w8 ⟨rfl, hb8⟩
      have S8 := S7.next hb8
      have R7 := Lib.hid (R6.out.below hb8)
      clear S7 hb8 R6
      go_wp2_with fail
      refine (Same_reads 0 q2 q fs.length fs.length fc2 fc fs w8 R7.out (HFR.out.below S8.below)).mono ?_
      rintro e w9 ⟨rfl, hb9⟩
      have S9 := S8.next hb9
      have a9 := S9.get (x := ⟨w.heap.size, h, p, xs.length, c, xs⟩) (by simp)
      clear S8 hb9 R7

      go_wp2_with fail
      have S10 := S9.push h none 0 0 [] (reads_nil _ _ _)
      have a10 := S10.get (x := ⟨w.heap.size, h, p, xs.length, c, xs⟩) (by simp)
      have b10 := S10.get (x := ⟨w5.heap.size, 0, none, 0, 0, []⟩) (by simp)
      obtain ⟨W10, hW10⟩ : ∃ W10, w9.alloc (.cells #[.int .i64 h, .slice none 0 0] 24) = W10 := ⟨_, rfl⟩
      rw [hW10] at S10 a10 b10 ⊢
      have S11 := Lib.hid S10
      clear hW10 S9 a9 S10

      go_loop [7, 16] (fun u i => u = .int .i64 r ∧ i = .int .i64 0) (fun _ _ => 0)
      case atStart => exact ⟨rfl, rfl⟩
      case round =>
        obtain ⟨rfl, rfl⟩ := hrel
        rcases Nat.eq_zero_or_pos xs.length with e0 | e0
        all_goals
          have z0 : decide ((0 : Int) < (xs.length : Int)) = decide (0 < xs.length) := by simp
        · have z1 : decide (0 < xs.length) = false := by simp [e0]
          rw [z1] at z0
          clear e0
          go_wp2_with fail
          refine (none_any none 0 W10).mono ?_
          rintro e w12 ⟨rfl, hb12⟩
          have S12 := S11.out.next hb12
          clear hb12 a10 b10
          go_wp2_with fail
          refine (known_any w12).mono ?_
          rintro e w13 ⟨rfl, hb13⟩
          go_wp2_with fail
          go_ret
          exact ⟨rfl, (S12.next hb13).below⟩
        · have z1 : decide (0 < xs.length) = true := by simpa using e0
          rw [z1] at z0
          clear e0
          go_wp2_with fail
          refine (none_any none 0 W10).mono ?_
          rintro e w12 ⟨rfl, hb12⟩
          have S12 := S11.out.next hb12
          clear hb12 a10 b10
          go_wp2_with fail
          refine (known_any w12).mono ?_
          rintro e w13 ⟨rfl, hb13⟩
          go_wp2_with fail
          go_ret
          exact ⟨rfl, (S12.next hb13).below⟩
set_option maxRecDepth 100000 in
set_option maxHeartbeats 4000000 in
theorem PointBinds_form (h : Int) (p : Option Addr) (c : Nat) (q : Option Addr) (fc : Nat) (xs fs : List Int) (m r : Int) (w : World) (hx : xs.length ≤ 70) (hf : fs.length ≤ 70) (hr : Reads w (.slice p xs.length c) xs) (hfr : Reads w (.slice q fs.length fc) fs) (hck : checkE h xs = 0) (hfl : fs.length ≠ xs.length) (hr4 : r = 4) (hne : r ≠ 0) (hb : BindSays h xs fs m r) : pbCalls h p xs.length c q fs.length fc m w := by
  have hd : decide (70 < xs.length) = false := by simp; omega
  have Hlg := fun W h1 => large_len p xs.length c (w.heap.size + 1) W h1
  rw [hd] at Hlg
  have HL := Lib.hid Hlg
  have HR := Lib.hid hr
  have HFR := Lib.hid hfr
  have HBd := Lib.hid hb
  have n1 : (r == 0) = false := by simpa using hne
  have n2 : (r != 0) = true := by simpa using hne
  have n3 : (r == r) = true := by simp
  have hf2 : decide ((70 : Int) < (fs.length : Int)) = false := by simp; omega
  have hf3 : decide (70 < fs.length) = false := by simp; omega
  have HCK := Lib.hid hck
  have hl1 : ((fs.length : Int) != (xs.length : Int)) = true := by rw [bne_iff_ne]; omega
  have hl2 : (fs.length != xs.length) = true := by rw [bne_iff_ne]; omega
  have H4 := Lib.hid hr4
  clear hck hfl hr4
  clear hd Hlg hr hfr hb hne
  go_enter Try.func4, Try.ntmps4
  go_wp2_with fail
  refine (HL.out _ ?_).mono ?_
  · have := (ArgBox.new (w.alloc (.cells #[.int .i64 h, .slice p xs.length c] 24)) h p xs.length c).c1
    rw [World.size_alloc] at this
    exact this
  rintro e w1 ⟨rfl, rfl⟩
  obtain ⟨W1, hW1⟩ : ∃ W1, (w.alloc (.cells #[.int .i64 h, .slice p xs.length c] 24)).alloc (.cells #[.int .i64 h, .slice p xs.length c] 24) = W1 := ⟨_, rfl⟩
  have hb1 : Below w.heap.size w W1 := by rw [← hW1]; exact below2 w _ _
  have S1 : Boxes w [⟨w.heap.size, h, p, xs.length, c, xs⟩] W1 := ⟨fun x hx => by
    simp at hx; subst hx
    exact ⟨by rw [← hW1]; exact (ArgBox.new w h p xs.length c).below (below1 _ _), HR.out.below hb1⟩, hb1⟩
  rw [hW1]
  have a1 := S1.get (x := ⟨w.heap.size, h, p, xs.length, c, xs⟩) (by simp)
  clear hW1 hb1 HL
  go_wp2_with fail
  refine (S1.plain (refCheck_any h (.slice p xs.length c) xs W1 (S1.all ⟨w.heap.size, h, p, xs.length, c, xs⟩ (by simp)).r)).mono ?_
  rintro e w2 ⟨rfl, S2⟩
  have a2 := S2.get (x := ⟨w.heap.size, h, p, xs.length, c, xs⟩) (by simp)
  clear S1 a1
  rw [HCK.out]
  go_wp2_with fail
  rw [← H4.out]
  have S2' := Lib.hid S2
  go_loop [7, 8] (fun u i => u = .int .i64 r ∧ i = .int .i64 0) (fun _ _ => 0)
  case atStart => exact ⟨rfl, rfl⟩
  case round =>
    obtain ⟨rfl, rfl⟩ := hrel
    rcases Nat.eq_zero_or_pos fs.length with e0 | e0
    · have z0 : decide ((0 : Int) < (fs.length : Int)) = false := by simp [e0]
      have z1 : decide (0 < fs.length) = false := by simp [e0]
      clear e0
      go_wp2_with fail
      refine (own_any h p c xs _ (by omega) (S2.all ⟨w.heap.size, h, p, xs.length, c, xs⟩ (by simp)).r).mono ?_
      rintro e w3 ⟨p2, c2, rfl, hr2, hb3⟩
      have S3 := S2.next hb3
      have R2 := Lib.hid hr2
      have b3 := S3.get (x := ⟨w.heap.size, h, p, xs.length, c, xs⟩) (by simp)
      clear S2 a2 hb3 hr2
      go_wp2_with fail
      refine (ints_any q fc fs w3 (by omega) (HFR.out.below S3.below)).mono ?_
      rintro e w4 ⟨q2, fc2, rfl, hr3, _, hb4⟩
      have S4 := (S3.next hb4).push h p2 xs.length c2 xs (R2.out.below hb4)
      have R3 := Lib.hid (hr3.below (below1 w4 (.cells #[.int .i64 h, .slice p2 xs.length c2] 24)))
      clear S3 hb4 hr3 R2 b3
      go_wp2_with fail
      refine (HBd.out _ p2 c2 q2 fc2 (S4.all ⟨w4.heap.size, h, p2, xs.length, c2, xs⟩ (by simp)).r R3.out).mono ?_
      rintro e w5 ⟨rfl, hb5⟩
      have S5 := (S4.next hb5).push 0 none 0 0 [] (reads_nil _ _ _)
      have R4 := Lib.hid ((R3.out.below hb5).below (below1 w5 (.cells #[.int .i64 0, .slice none 0 0] 24)))
      have a5 := (S4.next hb5).get (x := ⟨w4.heap.size, h, p2, xs.length, c2, xs⟩) (by simp)
      have b5 := (S4.next hb5).get (x := ⟨w.heap.size, h, p, xs.length, c, xs⟩) (by simp)
      clear S4 hb5 R3

      go_wp2_with fail
      refine (Same_reads h p2 p xs.length xs.length c2 c xs _ (S5.all ⟨w4.heap.size, h, p2, xs.length, c2, xs⟩ (by simp)).r (S5.all ⟨w.heap.size, h, p, xs.length, c, xs⟩ (by simp)).r).mono ?_
      rintro e w6 ⟨rfl, hb6⟩
      have S6 := S5.next hb6
      have R5 := Lib.hid (R4.out.below hb6)
      clear S5 hb6 a5 b5 R4

      go_wp2_with fail
      refine (design_any 0 q2 fs.length fc2 w6).mono ?_
      rintro e w7 ⟨rfl, hb7⟩
      have S7 := S6.next hb7
      have R6 := Lib.hid (R5.out.below hb7)
      clear S6 hb7 R5
      go_wp2_with fail
      refine (design_any 0 q fs.length fc w7).mono ?_
      rintro e w8 ⟨rfl, hb8⟩
      have S8 := S7.next hb8
      have R7 := Lib.hid (R6.out.below hb8)
      clear S7 hb8 R6
      go_wp2_with fail
      refine (Same_reads 0 q2 q fs.length fs.length fc2 fc fs w8 R7.out (HFR.out.below S8.below)).mono ?_
      rintro e w9 ⟨rfl, hb9⟩
      have S9 := S8.next hb9
      have a9 := S9.get (x := ⟨w.heap.size, h, p, xs.length, c, xs⟩) (by simp)
      clear S8 hb9 R7

      go_wp2_with fail
      have S10 := S9.push h none 0 0 [] (reads_nil _ _ _)
      have a10 := S10.get (x := ⟨w.heap.size, h, p, xs.length, c, xs⟩) (by simp)
      have b10 := S10.get (x := ⟨w5.heap.size, 0, none, 0, 0, []⟩) (by simp)
      obtain ⟨W10, hW10⟩ : ∃ W10, w9.alloc (.cells #[.int .i64 h, .slice none 0 0] 24) = W10 := ⟨_, rfl⟩
      rw [hW10] at S10 a10 b10 ⊢
      have S11 := Lib.hid S10
      clear hW10 S9 a9 S10

      go_loop [7, 16] (fun u i => u = .int .i64 r ∧ i = .int .i64 0) (fun _ _ => 0)
      case atStart => exact ⟨rfl, rfl⟩
      case round =>
        obtain ⟨rfl, rfl⟩ := hrel
        rcases Nat.eq_zero_or_pos xs.length with e0 | e0
        all_goals
          have z0 : decide ((0 : Int) < (xs.length : Int)) = decide (0 < xs.length) := by simp
        · have z1 : decide (0 < xs.length) = false := by simp [e0]
          rw [z1] at z0
          clear e0
          go_wp2_with fail
          refine (none_any none 0 W10).mono ?_
          rintro e w12 ⟨rfl, hb12⟩
          have S12 := S11.out.next hb12
          clear hb12 a10 b10
          go_wp2_with fail
          refine (known_any w12).mono ?_
          rintro e w13 ⟨rfl, hb13⟩
          go_wp2_with fail
          go_ret
          exact ⟨rfl, (S12.next hb13).below⟩
        · have z1 : decide (0 < xs.length) = true := by simpa using e0
          rw [z1] at z0
          clear e0
          go_wp2_with fail
          refine (none_any none 0 W10).mono ?_
          rintro e w12 ⟨rfl, hb12⟩
          have S12 := S11.out.next hb12
          clear hb12 a10 b10
          go_wp2_with fail
          refine (known_any w12).mono ?_
          rintro e w13 ⟨rfl, hb13⟩
          go_wp2_with fail
          go_ret
          exact ⟨rfl, (S12.next hb13).below⟩
    · have z0 : decide ((0 : Int) < (fs.length : Int)) = true := by simp; omega
      have z1 : decide (0 < fs.length) = true := by simpa using e0
      clear e0
      go_wp2_with fail
      refine (own_any h p c xs _ (by omega) (S2.all ⟨w.heap.size, h, p, xs.length, c, xs⟩ (by simp)).r).mono ?_
      rintro e w3 ⟨p2, c2, rfl, hr2, hb3⟩
      have S3 := S2.next hb3
      have R2 := Lib.hid hr2
      have b3 := S3.get (x := ⟨w.heap.size, h, p, xs.length, c, xs⟩) (by simp)
      clear S2 a2 hb3 hr2
      go_wp2_with fail
      refine (ints_any q fc fs w3 (by omega) (HFR.out.below S3.below)).mono ?_
      rintro e w4 ⟨q2, fc2, rfl, hr3, _, hb4⟩
      have S4 := (S3.next hb4).push h p2 xs.length c2 xs (R2.out.below hb4)
      have R3 := Lib.hid (hr3.below (below1 w4 (.cells #[.int .i64 h, .slice p2 xs.length c2] 24)))
      clear S3 hb4 hr3 R2 b3
      go_wp2_with fail
      refine (HBd.out _ p2 c2 q2 fc2 (S4.all ⟨w4.heap.size, h, p2, xs.length, c2, xs⟩ (by simp)).r R3.out).mono ?_
      rintro e w5 ⟨rfl, hb5⟩
      have S5 := (S4.next hb5).push 0 none 0 0 [] (reads_nil _ _ _)
      have R4 := Lib.hid ((R3.out.below hb5).below (below1 w5 (.cells #[.int .i64 0, .slice none 0 0] 24)))
      have a5 := (S4.next hb5).get (x := ⟨w4.heap.size, h, p2, xs.length, c2, xs⟩) (by simp)
      have b5 := (S4.next hb5).get (x := ⟨w.heap.size, h, p, xs.length, c, xs⟩) (by simp)
      clear S4 hb5 R3

      go_wp2_with fail
      refine (Same_reads h p2 p xs.length xs.length c2 c xs _ (S5.all ⟨w4.heap.size, h, p2, xs.length, c2, xs⟩ (by simp)).r (S5.all ⟨w.heap.size, h, p, xs.length, c, xs⟩ (by simp)).r).mono ?_
      rintro e w6 ⟨rfl, hb6⟩
      have S6 := S5.next hb6
      have R5 := Lib.hid (R4.out.below hb6)
      clear S5 hb6 a5 b5 R4

      go_wp2_with fail
      refine (design_any 0 q2 fs.length fc2 w6).mono ?_
      rintro e w7 ⟨rfl, hb7⟩
      have S7 := S6.next hb7
      have R6 := Lib.hid (R5.out.below hb7)
      clear S6 hb7 R5
      go_wp2_with fail
      refine (design_any 0 q fs.length fc w7).mono ?_
      rintro e w8 ⟨rfl, hb8⟩
      have S8 := S7.next hb8
      have R7 := Lib.hid (R6.out.below hb8)
      clear S7 hb8 R6
      go_wp2_with fail
      refine (Same_reads 0 q2 q fs.length fs.length fc2 fc fs w8 R7.out (HFR.out.below S8.below)).mono ?_
      rintro e w9 ⟨rfl, hb9⟩
      have S9 := S8.next hb9
      have a9 := S9.get (x := ⟨w.heap.size, h, p, xs.length, c, xs⟩) (by simp)
      clear S8 hb9 R7

      go_wp2_with fail
      have S10 := S9.push h none 0 0 [] (reads_nil _ _ _)
      have a10 := S10.get (x := ⟨w.heap.size, h, p, xs.length, c, xs⟩) (by simp)
      have b10 := S10.get (x := ⟨w5.heap.size, 0, none, 0, 0, []⟩) (by simp)
      obtain ⟨W10, hW10⟩ : ∃ W10, w9.alloc (.cells #[.int .i64 h, .slice none 0 0] 24) = W10 := ⟨_, rfl⟩
      rw [hW10] at S10 a10 b10 ⊢
      have S11 := Lib.hid S10
      clear hW10 S9 a9 S10

      go_loop [7, 16] (fun u i => u = .int .i64 r ∧ i = .int .i64 0) (fun _ _ => 0)
      case atStart => exact ⟨rfl, rfl⟩
      case round =>
        obtain ⟨rfl, rfl⟩ := hrel
        rcases Nat.eq_zero_or_pos xs.length with e0 | e0
        all_goals
          have z0 : decide ((0 : Int) < (xs.length : Int)) = decide (0 < xs.length) := by simp
        · have z1 : decide (0 < xs.length) = false := by simp [e0]
          rw [z1] at z0
          clear e0
          go_wp2_with fail
          refine (none_any none 0 W10).mono ?_
          rintro e w12 ⟨rfl, hb12⟩
          have S12 := S11.out.next hb12
          clear hb12 a10 b10
          go_wp2_with fail
          refine (known_any w12).mono ?_
          rintro e w13 ⟨rfl, hb13⟩
          go_wp2_with fail
          go_ret
          exact ⟨rfl, (S12.next hb13).below⟩
        · have z1 : decide (0 < xs.length) = true := by simpa using e0
          rw [z1] at z0
          clear e0
          go_wp2_with fail
          refine (none_any none 0 W10).mono ?_
          rintro e w12 ⟨rfl, hb12⟩
          have S12 := S11.out.next hb12
          clear hb12 a10 b10
          go_wp2_with fail
          refine (known_any w12).mono ?_
          rintro e w13 ⟨rfl, hb13⟩
          go_wp2_with fail
          go_ret
          exact ⟨rfl, (S12.next hb13).below⟩
end Go.Proofs.Ytjobbleabepaiaa
