/- Harness ties: Check, the check of a design. -/
import Derived.Test.YtdmgffoikebgkaaCB
import Derived.Test.YtdmgffoikebgkaaWJ
namespace Go.Proofs.Ytdmgffoikebgkaa
open Go.RowKit Go.Shelf

/-- a valid harness in memory -/
structure TAt (w : World) (b off n : Nat) (hs : List Nat) : Prop where
  at' : NatsAt w b off hs
  lt : b < w.heap.size
  n0 : 1 ≤ n
  n1 : n ≤ 24
  l0 : 1 ≤ hs.length
  l1 : hs.length ≤ 96
  hk : ∀ i, i < hs.length → nthN hs i < n
theorem TAt.next {w w' : World} {b off n : Nat} {hs : List Nat} (h : TAt w b off n hs) (hb : Below w.heap.size w w') : TAt w' b off n hs :=
  ⟨h.at'.below hb h.lt, Nat.lt_of_lt_of_le h.lt hb.size, h.n0, h.n1, h.l0, h.l1, h.hk⟩
set_option maxHeartbeats 1000000 in
theorem areFrom_true (lo hi : Int) (b off c : Nat) (xs : List Nat) (w : World) (hl : xs.length ≤ 1000) (hx : NatsAt w b off xs) (h : ∀ i, i < xs.length → lo ≤ (nthN xs i : Int) ∧ (nthN xs i : Int) ≤ hi) :
    Calls Try.prog 111 #[.int .i64 lo, .int .i64 hi, .slice (some ⟨b, off, none⟩) xs.length c] w fun e w' => e = .returned (.bool true) ∧ w = w' := by
  go_enter Try.func111, Try.ntmps111
  go_wp2
  go_loop [8, 11] (fun _ i => ∃ k : Nat, k ≤ xs.length ∧ i = .int .i64 k) (fun _ i => xs.length - (intOf i).toNat)
  case atStart => exact ⟨0, Nat.zero_le _, rfl⟩
  case round =>
    obtain ⟨k, hk, rfl⟩ := hrel
    by_cases hlt : k < xs.length
    · have hc := hx k hlt
      have h1 := (h k hlt).1
      have h2 := (h k hlt).2
      have d1 : decide ((nthN xs k : Int) < lo) = false := by simp; omega
      have d2 : decide (hi < (nthN xs k : Int)) = false := by simp; omega
      go_wp2
      all_goals go_round
      case rel => exact ⟨k + 1, by omega, by go_num⟩
      case measure => simp [intOf]; omega
    · go_wp2
      go_ret
      exact ⟨rfl, rfl⟩
theorem areFrom_one (lo hi : Int) (B off c : Nat) (x : Nat) (w : World) (hc : w.cell? ⟨B, off, none⟩ = some (.int .i64 (x : Int))) (h1 : lo ≤ (x : Int)) (h2 : (x : Int) ≤ hi) :
    Calls Try.prog 111 #[.int .i64 lo, .int .i64 hi, .slice (some ⟨B, off, none⟩) 1 c] w fun e w' => e = .returned (.bool true) ∧ w = w' :=
  areFrom_true lo hi B off c [x] w (by simp) (fun i hi => by
    obtain rfl : i = 0 := by simpa using hi
    simpa [nthN] using hc) (fun i hi => by
    obtain rfl : i = 0 := by simpa using hi
    exact ⟨h1, h2⟩)
set_option maxHeartbeats 1000000 in
theorem tieCheck_ok (n b off c : Nat) (hs : List Nat) (w : World) (hv : TAt w b off n hs) :
    Calls Try.prog 29 #[.agg #[.int .i64 (n : Int), .slice (some ⟨b, off, none⟩) hs.length c]] w fun e w' => e = .returned (.int .i64 0) ∧ Below w.heap.size w w' := by
  have l1 := hv.l1
  have l0 := hv.l0
  have n0 := hv.n0
  have n1 := hv.n1
  have hd2 : ((hs.length : Int) == 0) = false := by rw [beq_eq_false_iff_ne]; omega
  have hb1 : Below w.heap.size w ((w.alloc (.cells #[.int .i64 (n : Int), .slice (some ⟨b, off, none⟩) hs.length c] 26)).alloc (.cells #[.int .i64 (n : Int)] 3)) := ((Below.refl _ _).alloc (Nat.le_refl _) _).alloc (by simp) _
  have hv2 := hv.next hb1
  have HC := Lib.hid (areFrom_true 0 ((n : Int) - 1) b off c hs _ (by omega) hv2.at' (fun i hi => by have := hv2.hk i hi; omega))
  have HA := Lib.hid (areFrom_one 1 24 (w.heap.size + 1) 0 1 n ((w.alloc (.cells #[.int .i64 (n : Int), .slice (some ⟨b, off, none⟩) hs.length c] 26)).alloc (.cells #[.int .i64 (n : Int)] 3)) (by simp) (by omega) (by omega))
  have Hb1 := Lib.hid hb1
  clear hb1 hv hv2
  go_enter Try.func29, Try.ntmps29
  go_wp2_with fail
  refine HA.out.mono ?_
  rintro e w' ⟨rfl, rfl⟩
  go_wp2_with fail
  refine HC.out.mono ?_
  rintro e w' ⟨rfl, rfl⟩
  go_wp2_with fail
  go_ret
  exact ⟨rfl, Hb1.out⟩
set_option maxHeartbeats 1000000 in
theorem checkDesign_ok (n b off c b2 off2 c2 : Nat) (hs xs : List Nat) (w : World) (hv : TAt w b off n hs) (hx : VAt w b2 off2 c2 n xs) :
    Calls Try.prog 118 #[.agg #[.int .i64 (n : Int), .slice (some ⟨b, off, none⟩) hs.length c], .agg #[.int .i64 (n : Int), .slice (some ⟨b2, off2, none⟩) xs.length c2]] w fun e w' => e = .returned (.int .i64 0) ∧ Below w.heap.size w w' := by
  have hb1 : Below w.heap.size w ((w.alloc (.cells #[.int .i64 (n : Int), .slice (some ⟨b, off, none⟩) hs.length c] 26)).alloc (.cells #[.int .i64 (n : Int), .slice (some ⟨b2, off2, none⟩) xs.length c2] 37)) := ((Below.refl _ _).alloc (Nat.le_refl _) _).alloc (by simp) _
  have HA := Lib.hid (tieCheck_ok n b off c hs _ (hv.next hb1))
  have HC := fun W (hb : Below w.heap.size w W) => Check_any (n : Int) (.slice (some ⟨b2, off2, none⟩) xs.length c2) (ints xs) W (VAt.reads (hx.below hb))
  rw [hx.ok.check] at HC
  have Hb1 := Lib.hid hb1
  have HB := Lib.hid (show BoxAt _ _ _ _ from BoxAt.new w #[.int .i64 (n : Int), .slice (some ⟨b, off, none⟩) hs.length c] 26)
  have HB2 := Lib.hid (show BoxAt _ _ _ _ from BoxAt.new (w.alloc (.cells #[.int .i64 (n : Int), .slice (some ⟨b, off, none⟩) hs.length c] 26)) #[.int .i64 (n : Int), .slice (some ⟨b2, off2, none⟩) xs.length c2] 37)
  clear hb1 hv hx
  go_enter Try.func118, Try.ntmps118
  go_wp2_with fail
  refine HA.out.mono ?_
  rintro e w1 ⟨rfl, hb⟩
  have hbb := Hb1.out.trans (hb.mono (by simp; omega))
  have e0 : w1.cell? ⟨w.heap.size, 0, none⟩ = some (.int .i64 (n : Int)) := BoxAt.cell' (BoxAt.below HB.out ((((Below.refl (w.heap.size + 1) _).alloc (by simp) _)).trans (hb.mono (by simp))) (by omega)) 0 rfl
  have k2 := HB2.out
  rw [World.size_alloc] at k2
  have hk2 := k2.next hb
  have f0 : w1.cell? ⟨w.heap.size + 1, 0, none⟩ = some (.int .i64 (n : Int)) := hk2.cell' 0 rfl
  have f1 : w1.cell? ⟨w.heap.size + 1, 1, none⟩ = some (.slice (some ⟨b2, off2, none⟩) xs.length c2) := hk2.cell' 1 rfl
  have HC1 := Lib.hid (HC w1 hbb)
  have Hbb := Lib.hid hbb
  clear hb k2 hk2 hbb HB HB2 HC
  go_wp2_with fail
  refine HC1.out.mono ?_
  rintro e w2 ⟨rfl, hb⟩
  have g0 := cell_next hb e0
  have g1 := cell_next hb f0
  have Hb := Lib.hid hb
  clear hb
  go_wp2_with fail
  go_ret
  exact ⟨rfl, Hbb.out.trans (Hb.out.mono Hbb.out.size)⟩
end Go.Proofs.Ytdmgffoikebgkaa
