/- Walks of rings: alike, length, runs. -/
import Derived.Test.YtdmgffoikebgkaaWA
namespace Go.Proofs.Ytdmgffoikebgkaa
open Go.RowKit

/-- are all points of a ring alike? -/
def alikeB (s p : Nat) : Bool := p == 0 || p == 2 ^ s - 1
theorem pow_bds60 (s : Nat) (hs : s ≤ 60) : 1 ≤ (2 : Int) ^ s ∧ (2 : Int) ^ s ≤ 1152921504606846976 := by
  have h1 : (2 : Nat) ^ s ≤ 1152921504606846976 := Nat.le_trans (Nat.pow_le_pow_right (by decide) hs) (by decide)
  have h2 : 0 < (2 : Nat) ^ s := Nat.pow_pos (by decide)
  have e : (2 : Int) ^ s = ((2 ^ s : Nat) : Int) := (Int.natCast_pow 2 s).symm
  rw [e]
  generalize 2 ^ s = q at h1 h2
  omega
set_option maxHeartbeats 400000 in
theorem alike_any (s p : Nat) (w : World) (hs : s ≤ 60) :
    Calls Try.prog 215 #[.agg #[.int .i64 (s : Int), .int .i64 (p : Int)]] w fun e w' => e = .returned (.bool (alikeB s p)) ∧ Below w.heap.size w w' := by
  obtain ⟨hp1, hp2⟩ := pow_bds60 s hs
  have hpe : (2 : Int) ^ s = ((2 ^ s : Nat) : Int) := (Int.natCast_pow 2 s).symm
  by_cases h0 : p = 0
  · subst h0
    clear hpe
    go_enter Try.func215, Try.ntmps215
    go_wp2
    go_quiet (fail)
    go_wp2
    go_ret
    exact ⟨ret_bool (by simp [alikeB]), below_drewN ((Below.refl _ _).alloc (Nat.le_refl _) _) _⟩
  · have h0' : ((p : Int) == 0) = false := by simp; omega
    by_cases h1 : p = 2 ^ s - 1
    · have h1' : ((p : Int) == 2 ^ s - 1) = true := by
        rw [hpe] at hp1 ⊢
        rw [beq_iff_eq]
        generalize 2 ^ s = q at h1 hp1
        omega
      have H1 := Lib.hid h1; clear h1 h0 hpe
      go_enter Try.func215, Try.ntmps215
      go_wp2
      go_quiet (fail)
      go_wp2
      go_ret
      exact ⟨ret_bool (by simp [alikeB, H1.out]), below_drewN ((Below.refl _ _).alloc (Nat.le_refl _) _) _⟩
    · have h1' : ((p : Int) == 2 ^ s - 1) = false := by
        rw [hpe] at hp1 ⊢
        rw [beq_eq_false_iff_ne]
        generalize 2 ^ s = q at h1 hp1
        omega
      have H1 := Lib.hid h1; clear h1 hpe
      have H0 := Lib.hid h0; clear h0
      go_enter Try.func215, Try.ntmps215
      go_wp2
      go_quiet (fail)
      go_wp2
      go_ret
      exact ⟨ret_bool (by simp [alikeB, H1.out, H0.out]), below_drewN ((Below.refl _ _).alloc (Nat.le_refl _) _) _⟩

/-- how many points from one on are alike: with a number of steps -/
def lenG (s p f : Nat) : Nat → Nat → Nat
  | 0, n => n
  | fuel + 1, n => if bitN p ((f + n) % s) == bitN p f then lenG s p f fuel (n + 1) else n
def lenF (s p f : Nat) : Nat := lenG s p f (s - 1) 1
theorem ringLifted_int (s p : Nat) (z : Int) (w : World) (hp : p < 9223372036854775808) (h0 : 0 ≤ z) (h1 : z < 64) :
    Calls Try.prog 216 #[.agg #[.int .i64 (s : Int), .int .i64 (p : Int)], .int .i64 z] w fun e w' => e = .returned (.bool (bitN p z.toNat)) ∧ Below w.heap.size w w' := by
  obtain ⟨k, rfl⟩ := Int.eq_ofNat_of_zero_le h0
  exact ringLifted_any s p k w hp (by omega)
/-- what stays beneath a world, with the two cells of a ring's box -/
structure RingBox (w0 : World) (B s p : Nat) (w : World) : Prop where
  c1 : w.cell? ⟨B, 0, none⟩ = some (.int .i64 (s : Int))
  c2 : w.cell? ⟨B, 1, none⟩ = some (.int .i64 (p : Int))
  lt : B < w.heap.size
  below : Below w0.heap.size w0 w
theorem RingBox.next {w0 w w' : World} {B s p : Nat} (h : RingBox w0 B s p w) (hb : Below w.heap.size w w') : RingBox w0 B s p w' :=
  ⟨(hb.cell (p := ⟨B, 0, none⟩) h.lt).trans h.c1, (hb.cell (p := ⟨B, 1, none⟩) h.lt).trans h.c2, Nat.lt_of_lt_of_le h.lt hb.size, h.below.trans (hb.mono h.below.size)⟩
theorem RingBox.drew {w0 w : World} {B s p : Nat} (h : RingBox w0 B s p w) : RingBox w0 B s p w.drew :=
  ⟨h.c1, h.c2, h.lt, h.below.drew⟩
set_option maxHeartbeats 400000 in
theorem length_any (s p f m : Nat) (w : World) (hs : s ≤ 60) (hf : f < s) (hp : p < 9223372036854775808) (hm : 1 ≤ m ∧ m < s) (hm1 : ∀ n, 1 ≤ n → n < m → bitN p ((f + n) % s) = bitN p f) (hm2 : bitN p ((f + m) % s) ≠ bitN p f) :
    Calls Try.prog 217 #[.agg #[.int .i64 (s : Int), .int .i64 (p : Int)], .int .i64 (f : Int)] w fun e w' => e = .returned (.int .i64 (m : Int)) ∧ Below w.heap.size w w' := by
  have Hm1 := Lib.hid hm1; clear hm1
  have Hm2 := Lib.hid hm2; clear hm2
  go_enter Try.func217, Try.ntmps217
  go_wp2
  go_loopw [5] (fun i wr => ∃ k : Nat, 1 ≤ k ∧ k ≤ m ∧ i = .int .i64 k ∧ RingBox w w.heap.size s p wr) (fun i _ => m - (intOf i).toNat)
  case atStart => exact ⟨1, by omega, by omega, rfl, by simp, by simp, by simp, (Below.refl _ _).alloc (Nat.le_refl _) _⟩
  case round =>
    obtain ⟨k, hk1, hk2, rfl, hR⟩ := hrel
    have hc1 := hR.c1
    have hc2 := hR.c2
    have hz := hR.lt
    have hw2 : ((f : Int) + k).tmod s = ((f : Int) + k) % s := Int.tmod_eq_emod_of_nonneg (by omega)
    have hlt : ((f : Int) + k).tmod s < 64 := by rw [hw2]; have := Int.emod_lt_of_pos ((f : Int) + k) (show (0 : Int) < s by omega); omega
    have hge : 0 ≤ ((f : Int) + k).tmod s := by rw [hw2]; exact Int.emod_nonneg _ (by omega)
    have hs0 : ¬ s = 0 := by omega
    have het : (((f : Int) + k).tmod s).toNat = (f + k) % s := by rw [hw2, ← Int.natCast_add, ← Int.natCast_emod, Int.toNat_natCast]
    have hw1 : IntKind.i64.wrap ((f : Int) + k) = (f : Int) + k := IntWalk.i64_in _ (by omega)
    clear hw2
    by_cases hkm : k < m
    · have ht : (bitN p (((f : Int) + k).tmod s).toNat == bitN p f) = true := by rw [het, Hm1.out k hk1 hkm]; simp
      clear het
      go_wp2
      go_region_held3 (fun w' => w'.cell? ⟨w.heap.size, 0, none⟩ = some (.int .i64 (s : Int)) ∧ w'.cell? ⟨w.heap.size, 1, none⟩ = some (.int .i64 (p : Int)) ∧ RingBox w w.heap.size s p w')
        (first | exact ⟨hR.drew.c1, hR.drew.c2, hR.drew⟩ | (go_split_ands; have hn := RingBox.next (by assumption) (by assumption); exact ⟨hn.c1, hn.c2, hn⟩))
        (first
          | (go_at_call 216; refine (ringLifted_int s p _ _ hp ?_ ?_).mono ?_; rotate_left 2; rintro e w' ⟨rfl, hb1⟩; rotate_left 1; (first | assumption | omega); (first | assumption | omega)))
      go_split_ands
      go_wp2
      go_roundw
      case rel => exact ⟨k + 1, by omega, by omega, by go_num, by assumption⟩
      case measure => simp [intOf]; omega
    · obtain rfl : k = m := by omega
      have ht : (bitN p (((f : Int) + k).tmod s).toNat == bitN p f) = false := by rw [het]; simpa using Hm2.out
      clear het
      go_wp2
      go_region_held3 (fun w' => w'.cell? ⟨w.heap.size, 0, none⟩ = some (.int .i64 (s : Int)) ∧ w'.cell? ⟨w.heap.size, 1, none⟩ = some (.int .i64 (p : Int)) ∧ RingBox w w.heap.size s p w')
        (first | exact ⟨hR.drew.c1, hR.drew.c2, hR.drew⟩ | (go_split_ands; have hn := RingBox.next (by assumption) (by assumption); exact ⟨hn.c1, hn.c2, hn⟩))
        (first
          | (go_at_call 216; refine (ringLifted_int s p _ _ hp ?_ ?_).mono ?_; rotate_left 2; rintro e w' ⟨rfl, hb1⟩; rotate_left 1; (first | assumption | omega); (first | assumption | omega)))
      go_split_ands
      have hR2 : RingBox w w.heap.size s p w' := by assumption
      go_wp2
      go_ret
      exact ⟨rfl, hR2.below⟩
end Go.Proofs.Ytdmgffoikebgkaa
