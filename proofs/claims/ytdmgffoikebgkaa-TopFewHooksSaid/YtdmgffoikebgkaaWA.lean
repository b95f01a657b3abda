/- Walks of the small functions of package point. -/
import Derived.Test.YtdmgffoikebgkaaProg
import Derived.Test.YtdmgffoikebgkaaBase
import Derived.Outline
import Derived.Deep.QuietTactic
import Derived.BigQuiet
import Derived.Deep.RegionHeld3
namespace Go.Proofs.Ytdmgffoikebgkaa
open Go.RowKit

theorem ret_bool {a b : Bool} (h : a = b) : Ending.returned (.bool a) = .returned (.bool b) := by rw [h]
theorem ret_int {k : IntKind} {a b : Int} (h : a = b) : Ending.returned (.int k a) = .returned (.int k b) := by rw [h]

set_option maxHeartbeats 400000 in
theorem isBound_any (n : Int) (w : World) :
    Calls Try.prog 139 #[.int .i64 n] w fun e w' => e = .returned (.bool (decide (1 ≤ n) && decide (n ≤ 24))) ∧ w = w' := by
  go_enter Try.func139, Try.ntmps139
  go_wp2
  all_goals go_ret
  · have h : 1 ≤ n := by assumption
    exact ⟨ret_bool (by simp [h]), rfl⟩
  · have h : n < 1 := by assumption
    exact ⟨ret_bool (by simp; omega), rfl⟩

set_option maxHeartbeats 400000 in
theorem ringLifted_any (s p k : Nat) (w : World) (hp : p < 9223372036854775808) (hk : k < 64) :
    Calls Try.prog 216 #[.agg #[.int .i64 (s : Int), .int .i64 (p : Int)], .int .i64 (k : Int)] w fun e w' => e = .returned (.bool (bitN p k)) ∧ Below w.heap.size w w' := by
  go_enter Try.func216, Try.ntmps216
  go_wp2
  go_ret
  exact ⟨ret_bool (by simpa using shr_bit p k hp), (Below.refl _ _).alloc (Nat.le_refl _) _⟩

set_option maxHeartbeats 400000 in
theorem paperLifted_any (n : Int) (b off c : Nat) (xs : List Nat) (i k : Nat) (w : World) (hb : b < w.heap.size) (_hl : xs.length ≤ 1000) (hx : NatsAt w b off xs) (hi : i < xs.length) (hp : nthN xs i < 9223372036854775808) (hk : k < 64) :
    Calls Try.prog 148 #[.agg #[.int .i64 n, .slice (some ⟨b, off, none⟩) xs.length c], .int .i64 (i : Int), .int .i64 (k : Int)] w fun e w' => e = .returned (.bool (bitN (nthN xs i) k)) ∧ Below w.heap.size w w' := by
  have hc := hx i hi
  go_enter Try.func148, Try.ntmps148
  go_wp2
  go_ret
  exact ⟨ret_bool (by simpa using shr_bit _ k hp), (Below.refl _ _).alloc (Nat.le_refl _) _⟩

/-- no other hooks than those -/
def rowsOk (n : Nat) (xs : List Int) : Bool := xs.all fun x => decide (0 ≤ x) && decide (x < 2 ^ n)
theorem rowsOk_step (n : Nat) (xs : List Int) (k : Nat) (h : k < xs.length) (hr : rowsOk n (xs.take k) = true) (h0 : 0 ≤ nthI xs k) (h1 : nthI xs k < 2 ^ n) : rowsOk n (xs.take (k + 1)) = true := by
  unfold rowsOk at *
  rw [takeI_succ xs k h, List.all_append, hr]
  simp [h0, h1]
theorem rowsOk_false (n : Nat) (xs : List Int) (k : Nat) (h : k < xs.length) (hb : nthI xs k < 0 ∨ 2 ^ n ≤ nthI xs k) : rowsOk n xs = false := by
  unfold rowsOk
  rw [List.all_eq_false]
  refine ⟨nthI xs k, nthI_mem xs k h, ?_⟩
  simp
  omega
theorem pow_bds (n : Nat) (h : n ≤ 24) : 1 ≤ (2 : Int) ^ n ∧ (2 : Int) ^ n ≤ 16777216 := by
  have h1 : (2 : Nat) ^ n ≤ 16777216 := Nat.le_trans (Nat.pow_le_pow_right (by decide) h) (by decide)
  have h2 : 0 < (2 : Nat) ^ n := Nat.pow_pos (by decide)
  have e : (2 : Int) ^ n = ((2 ^ n : Nat) : Int) := (Int.natCast_pow 2 n).symm
  rw [e]
  generalize 2 ^ n = q at h1 h2
  omega
set_option maxHeartbeats 400000 in
theorem areRows_any (n : Nat) (b off c : Nat) (xs : List Int) (w : World) (hn2 : n ≤ 24) (hl : xs.length ≤ 1000) (hx : IntsAt w b off xs) :
    Calls Try.prog 138 #[.int .i64 (n : Int), .slice (some ⟨b, off, none⟩) xs.length c] w fun e w' => e = .returned (.bool (rowsOk n xs)) ∧ w = w' := by
  obtain ⟨hp1, hp2⟩ := pow_bds n hn2
  go_enter Try.func138, Try.ntmps138
  go_wp2
  go_loop [6, 9] (fun _ i => ∃ k : Nat, k ≤ xs.length ∧ i = .int .i64 k ∧ rowsOk n (xs.take k) = true) (fun _ i => xs.length - (intOf i).toNat)
  case atStart => exact ⟨0, Nat.zero_le _, rfl, by simp [rowsOk]⟩
  case round =>
    obtain ⟨k, hk, rfl, hr⟩ := hrel
    have Hr := Lib.hid hr; clear hr
    by_cases hlt : k < xs.length
    · have hc := hx k hlt
      go_wp2
      · have h : nthI xs k < 0 ∨ 2 ^ n ≤ nthI xs k := by assumption
        go_ret
        exact ⟨ret_bool (rowsOk_false n xs k hlt h).symm, rfl⟩
      · have h : 0 ≤ nthI xs k ∧ nthI xs k < 2 ^ n := by assumption
        go_round
        case rel => exact ⟨k + 1, by omega, by go_num, rowsOk_step n xs k hlt Hr.out h.1 h.2⟩
        case measure => simp [intOf]; omega
      · have h : nthI xs k < 0 := by assumption
        go_ret
        exact ⟨ret_bool (rowsOk_false n xs k hlt (Or.inl h)).symm, rfl⟩
    · go_wp2
      go_ret
      exact ⟨ret_bool (by rw [← Hr.out, take_end xs k hk hlt]), rfl⟩
/-- the same of an empty row -/
theorem areRows_nil (n : Nat) (p : Option Addr) (c : Nat) (w : World) :
    Calls Try.prog 138 #[.int .i64 (n : Int), .slice p 0 c] w fun e w' => e = .returned (.bool true) ∧ w = w' := by
  go_enter Try.func138, Try.ntmps138
  go_wp2
  go_loop [6, 9] (fun _ i => i = .int .i64 0) (fun _ i => 0)
  case atStart => rfl
  case round =>
    subst hrel
    go_wp2
    go_ret
    exact ⟨rfl, rfl⟩

/-- the error of a design -/
def checkE (h : Int) (xs : List Int) : Int :=
  if h < 1 ∨ 24 < h then 2 else if 60 < xs.length then 5 else if xs.length = 0 then 7 else if rowsOk h.toNat xs then 0 else 2
/-- a slice value that reads as a list of integers -/
def Reads (w : World) (v : Value) (xs : List Int) : Prop :=
  ∃ (p : Option Addr) (c : Nat), v = .slice p xs.length c ∧ xs.length ≤ 17592186044416 ∧ (0 < xs.length → ∃ b off, p = some ⟨b, off, none⟩ ∧ b < w.heap.size ∧ IntsAt w b off xs)
set_option maxHeartbeats 400000 in
theorem Check_any (h : Int) (v : Value) (xs : List Int) (w : World) (hv : Reads w v xs) :
    Calls Try.prog 176 #[.agg #[.int .i64 h, v]] w fun e w' => e = .returned (.int .i64 (checkE h xs)) ∧ Below w.heap.size w w' := by
  obtain ⟨p, c, rfl, hl, hx⟩ := hv
  by_cases h1 : h < 1 ∨ 24 < h
  · have he : checkE h xs = 2 := by simp [checkE, h1]
    have He := Lib.hid he; clear he
    go_enter Try.func176, Try.ntmps176
    go_wp2
    all_goals go_ret
    all_goals exact ⟨ret_int He.out.symm, (Below.refl _ _).alloc (Nat.le_refl _) _⟩
  · obtain ⟨n, rfl⟩ := Int.eq_ofNat_of_zero_le (show 0 ≤ h by omega)
    have g1 : (1 : Int) ≤ (n : Int) := by omega
    have g2 : (n : Int) ≤ 24 := by omega
    by_cases h2 : 60 < xs.length
    · have he : checkE n xs = 5 := by rw [checkE, if_neg h1, if_pos h2]
      have He := Lib.hid he; clear he
      clear h1 hx
      go_enter Try.func176, Try.ntmps176
      go_wp2
      go_ret
      exact ⟨ret_int He.out.symm, (Below.refl _ _).alloc (Nat.le_refl _) _⟩
    · by_cases h3 : xs.length = 0
      · have he : checkE n xs = 7 := by rw [checkE, if_neg h1, if_neg h2, if_pos h3]
        have He := Lib.hid he; clear he
        obtain rfl : xs = [] := List.eq_nil_of_length_eq_zero h3
        clear h1 hx h2 hl h3
        go_enter Try.func176, Try.ntmps176
        go_wp2
        go_ret
        exact ⟨ret_int He.out.symm, (Below.refl _ _).alloc (Nat.le_refl _) _⟩
      · obtain ⟨b, off, rfl, hb, hx⟩ := hx (by omega)
        have h3' : 0 < xs.length := by omega
        have h2' : xs.length ≤ 60 := by omega
        have hx1 : IntsAt (w.alloc (.cells #[.int .i64 (n : Int), .slice (some ⟨b, off, none⟩) xs.length c] 37)) b off xs := hx.below ((Below.refl _ _).alloc (Nat.le_refl _) _) hb
        have he : checkE n xs = if rowsOk n xs then 0 else 2 := by rw [checkE, if_neg h1, if_neg h2, if_neg h3]; simp
        have He := Lib.hid he; clear he
        have Hc := fun w1 (hx1 : IntsAt w1 b off xs) => areRows_any n b off c xs w1 (by omega) (by omega) hx1
        clear h1 h2 h3 hx
        cases hr : rowsOk n xs
        all_goals
          rw [hr] at Hc
          have Hr := Lib.hid hr; clear hr
          go_enter Try.func176, Try.ntmps176
          go_wp2_with (go_at_call 138; refine (Hc _ hx1).mono ?_; rintro e w' ⟨rfl, rfl⟩)
          go_ret
          exact ⟨ret_int (by rw [He.out, Hr.out]; rfl), (Below.refl _ _).alloc (Nat.le_refl _) _⟩
end Go.Proofs.Ytdmgffoikebgkaa
