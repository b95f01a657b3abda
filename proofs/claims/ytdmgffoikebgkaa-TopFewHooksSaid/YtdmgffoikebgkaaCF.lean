/- The cards that stay: the mathematics; with, isBetter, has; the places around a ring. -/
import Derived.Test.YtdmgffoikebgkaaCE
import Derived.Test.YtdmgffoikebgkaaSeq
import Derived.Deep.QuietTactic
import Derived.BigQuiet
import Derived.RangeFuncNested
import Derived.RangeFuncLeaves
namespace Go.Proofs.Ytdmgffoikebgkaa
open Go.RowKit Go.Shelf
attribute [local go_sem] Oper.semAt_some

/-- cards that stay: how many, and their places as bits -/
structure St where
  many : Nat
  bits : Nat
deriving DecidableEq, Repr
def St.enc (s : St) : Value := .agg #[.int .i64 (s.many : Int), .int .i64 (s.bits : Int)]
def St.cells (s : St) : Array Value := #[.int .i64 (s.many : Int), .int .i64 (s.bits : Int)]
def stWith (s : St) (at' : Nat) : St := ⟨s.many + 1, s.bits ||| 2 ^ (59 - at')⟩
def stBetter (s t : St) : Bool := if s.many = t.many then decide (s.bits < t.bits) else decide (t.many < s.many)
def stHas (s : St) (at' : Nat) : Bool := bitN s.bits (59 - at')
/-- no more than so many cards, and bits of 60 places -/
def StOk (m : Nat) (s : St) : Prop := s.many ≤ m ∧ s.bits < 2 ^ 60
theorem stWith_ok {m : Nat} {s : St} {a : Nat} (h : StOk m s) : StOk (m + 1) (stWith s a) :=
  ⟨by have := h.1; simp [stWith]; omega, Nat.or_lt_two_pow h.2 (Nat.pow_lt_pow_right (by decide) (by omega))⟩
theorem StOk.mono {m k : Nat} {s : St} (h : StOk m s) (hk : m ≤ k) : StOk k s := ⟨Nat.le_trans h.1 hk, h.2⟩
theorem two60 : (2 : Nat) ^ 60 = 1152921504606846976 := by decide
theorem below_drewN (W : World) (n q : Nat) : Below n W (W.drewN q) := ⟨rfl, rfl, rfl, Nat.le_refl _, fun _ _ => rfl⟩
set_option maxHeartbeats 400000 in
theorem placeBit_any (a : Nat) (w : World) (ha : a < 60) :
    Calls Try.prog 231 #[.int .i64 (a : Int)] w fun e w' => e = .returned (.int .i64 ((2 ^ (59 - a) : Nat) : Int)) ∧ w = w' := by
  obtain ⟨p1, p2⟩ : 1 ≤ (2 : Int) ^ (59 - a) ∧ (2 : Int) ^ (59 - a) ≤ 1152921504606846976 := by
    have h1 : (2 : Nat) ^ (59 - a) ≤ 1152921504606846976 := Nat.le_trans (Nat.pow_le_pow_right (by decide) (show 59 - a ≤ 60 by omega)) (by decide)
    have h2 : 0 < (2 : Nat) ^ (59 - a) := Nat.pow_pos (by decide)
    have e : (2 : Int) ^ (59 - a) = ((2 ^ (59 - a) : Nat) : Int) := (Int.natCast_pow 2 _).symm
    rw [e]
    generalize 2 ^ (59 - a) = q at h1 h2
    omega
  have e1 : (59 : Int) - (a : Int) = ((59 - a : Nat) : Int) := by omega
  go_enter Try.func231, Try.ntmps231
  go_wp2_with fail
  go_ret
  exact ⟨ret_int (Int.natCast_pow 2 _).symm, rfl⟩
set_option maxHeartbeats 1000000 in
theorem isBetter_any (s t : St) (w : World) :
    Calls Try.prog 219 #[s.enc, t.enc] w fun e w' => e = .returned (.bool (stBetter s t)) ∧ Below w.heap.size w w' := by
  unfold St.enc stBetter
  by_cases h : s.many = t.many
  · have hd : ((s.many : Int) != (t.many : Int)) = false := by rw [h]; simp
    have H := Lib.hid h
    clear h
    go_enter Try.func219, Try.ntmps219
    go_wp2_with fail
    go_ret
    exact ⟨ret_bool (by first | rfl | rw [if_pos H.out]), ((Below.refl _ _).alloc (Nat.le_refl _) _).alloc (by simp) _⟩
  · have hd : ((s.many : Int) != (t.many : Int)) = true := by simp; omega
    have H := Lib.hid h
    clear h
    go_enter Try.func219, Try.ntmps219
    go_wp2_with fail
    go_ret
    exact ⟨ret_bool (by first | rfl | rw [if_neg H.out]), ((Below.refl _ _).alloc (Nat.le_refl _) _).alloc (by simp) _⟩
theorem or_bits (a b : Nat) (ha : a < 2 ^ 60) (hb : b < 2 ^ 60) : bits .or .i64 (a : Int) (b : Int) = ((a ||| b : Nat) : Int) :=
  i64_or_nat a b (Nat.lt_trans ha (by decide)) (Nat.lt_trans hb (by decide))
theorem and_bitC (a k : Nat) (ha : a < 2 ^ 60) (hk : k < 60) : (bits .and .i64 (a : Int) ((2 ^ k : Nat) : Int) != 0) = bitN a k := by
  rw [i64_and_nat a (2 ^ k) (Nat.lt_trans ha (by decide)) (Nat.lt_trans (Nat.pow_lt_pow_right (by decide) hk) (by decide))]
  unfold bitN
  cases h : a.testBit k with
  | true =>
    have hne : a &&& 2 ^ k ≠ 0 := fun e => by
      have : (a &&& 2 ^ k).testBit k = true := by rw [Nat.testBit_and, h, Nat.testBit_two_pow]; simp
      rw [e] at this; simp at this
    rw [bne_iff_ne]; exact_mod_cast hne
  | false =>
    have he : a &&& 2 ^ k = 0 := Nat.eq_of_testBit_eq fun j => by
      rw [Nat.testBit_and, Nat.testBit_two_pow]
      by_cases e : k = j
      · subst e; simp [h]
      · simp [e]
    rw [he]; rfl
set_option maxHeartbeats 1000000 in
theorem with_any (m : Nat) (s : St) (a : Nat) (w : World) (hs : StOk m s) (hm : m ≤ 1000) (ha : a < 60) :
    Calls Try.prog 230 #[s.enc, .int .i64 (a : Int)] w fun e w' => e = .returned (stWith s a).enc ∧ Below w.heap.size w w' := by
  have h1 := hs.1
  have Ho := Lib.hid (or_bits s.bits (2 ^ (59 - a)) hs.2 (Nat.pow_lt_pow_right (by decide) (by omega)))
  have hw : IntKind.i64.wrap ((s.many : Int) + 1) = (s.many : Int) + 1 := IntWalk.i64_in _ (by omega)
  obtain ⟨P, hP⟩ : ∃ P : Nat, 2 ^ (59 - a) = P := ⟨_, rfl⟩
  have HP := fun W => hP ▸ placeBit_any a W ha
  have He := Lib.hid (show (stWith s a) = ⟨s.many + 1, s.bits ||| P⟩ by rw [← hP]; rfl)
  rw [hP] at Ho
  unfold St.enc
  clear hP hs
  go_enter Try.func230, Try.ntmps230
  go_wp2_with fail
  go_region_with (go_at_call 231; refine (HP _).mono ?_; rintro e w' ⟨rfl, rfl⟩)
  all_goals go_wp2_with fail
  all_goals refine bodyPost_ret (v := .agg #[.int .i64 ((s.many : Int) + 1), .int .i64 (bits .or .i64 (s.bits : Int) (P : Int))]) ?_ rfl ⟨by rw [He.out, Ho.out]; rfl, ?_⟩
  all_goals first | (simp [results, Try.results230, go_sem]; done) | exact (((Below.refl _ _).alloc (Nat.le_refl _) _).alloc (by simp) _).drew
set_option maxHeartbeats 1000000 in
theorem has_any (s : St) (a : Nat) (w : World) (hs : s.bits < 2 ^ 60) (ha : a < 60) :
    Calls Try.prog 220 #[s.enc, .int .i64 (a : Int)] w fun e w' => e = .returned (.bool (stHas s a)) ∧ Below w.heap.size w w' := by
  have HP := fun W => (placeBit_any a W ha).mono (fun e w' h => (⟨h.1, h.2.symm⟩ : _ ∧ w' = W))
  have Ha := Lib.hid (and_bitC s.bits (59 - a) hs (by omega))
  unfold St.enc
  go_enter Try.func220, Try.ntmps220
  go_wp2_with fail
  go_quiet ((go_at_call 231; exact Calls.quiet_of_same (HP _)))
  go_wp2_with fail
  go_ret
  refine ⟨ret_bool (by unfold stHas; rw [← Ha.out, Int.natCast_pow]; rfl), ?_⟩
  exact ((Below.refl _ _).alloc (Nat.le_refl _) _).trans (below_drewN _ _ _)
end Go.Proofs.Ytdmgffoikebgkaa
