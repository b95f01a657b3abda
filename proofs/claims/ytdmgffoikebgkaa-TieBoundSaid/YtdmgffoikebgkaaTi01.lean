/- A range over a method value, at the wide fence: one law for the caller; many such loops in one function. -/
import Derived.RangeFuncNested
import Derived.RangeFuncBound
import Derived.RangeFuncCalls
import Derived.RangeFuncLeaves
import Derived.Shelf.Abstract
import Derived.Shelf.RegionOpen
import Derived.WalkKit
import Derived.OwnWalkIn
import Derived.TacticsInMore
import Derived.LoopNIn
import Derived.LoopIn
import Derived.Test.YtdmgffoikebgkaaTb01
import Derived.Test.YtdmgffoikebgkaaTb02
import Derived.Test.YtdmgffoikebgkaaTb03
import Derived.Test.YtdmgffoikebgkaaTb04
import Derived.Test.YtdmgffoikebgkaaTb05
import Derived.Test.YtdmgffoikebgkaaTb06
import Derived.Test.YtdmgffoikebgkaaTb07
import Derived.Test.YtdmgffoikebgkaaTb08
import Derived.Test.YtdmgffoikebgkaaTb09
import Derived.Test.YtdmgffoikebgkaaTb10
import Derived.Test.YtdmgffoikebgkaaTb11
import Derived.Test.YtdmgffoikebgkaaTb12
import Derived.Test.YtdmgffoikebgkaaTb13
import Derived.Test.YtdmgffoikebgkaaTb14
import Derived.Test.YtdmgffoikebgkaaTb15
import Derived.Test.YtdmgffoikebgkaaTb16
import Derived.Test.YtdmgffoikebgkaaTb17
import Derived.Test.YtdmgffoikebgkaaTb18
import Derived.Test.YtdmgffoikebgkaaTb19
import Derived.Test.YtdmgffoikebgkaaTb20
import Derived.Test.YtdmgffoikebgkaaProg
import Derived.Outline
import Derived.Deep.QuietTactic
import Derived.BigQuiet
import Derived.Deep.RegionHeld3
import Derived.Deep.AppendLies
import Derived.Maps.AppendAt
import Derived.Laws.EntriesVeiled
import Derived.Deep.RegionWith
import Derived.Maps.OwnOps
import Derived.Maps.Views
import Derived.DeepKeys4
import Derived.KernelRfl
import Derived.Deep.DeepCutAuto
import Derived.Laws.IdiomStrings
namespace Go.Proofs.Ytdmgffoikebgkaa
open Go.RowKit Go.Shelf

/-- a plain contract at a call in a round -/
theorem roundCall {P : Program} {f n l : Nat} {args : Array Value} {w : World} {R R' : Ending → World → Prop} (h : Calls P f args w R) (hm : ∀ e w', R e w' → R' e w') :
    Fence.wide.fn f ∧ (Fence.wide.depth.isSome = true → 1 ≤ n) ∧ CallsIn (Fence.wide.inRound l) (n - 1) P f args w R' :=
  ⟨trivial, fun h => by simp [Fence.wide] at h, (CallsIn.inRound l (callsIn_wide.2 h)).mono hm⟩
end Go.Proofs.Ytdmgffoikebgkaa
/- Walks of the small functions of package point. -/
namespace Go.Proofs.Ytdmgffoikebgkaa
open Go.RowKit

set_option maxHeartbeats 400000 in
theorem ringLifted_any (s p k : Nat) (w : World) (hp : p < 9223372036854775808) (hk : k < 64) :
    Calls Try.prog 216 #[.agg #[.int .i64 (s : Int), .int .i64 (p : Int)], .int .i64 (k : Int)] w fun e w' => e = .returned (.bool (bitN p k)) ∧ Below w.heap.size w w' := by
  go_enter Try.func216, Try.ntmps216
  go_wp2
  go_ret
  exact ⟨ret_bool (by simpa using shr_bit p k hp), (Below.refl _ _).alloc (Nat.le_refl _) _⟩

end Go.Proofs.Ytdmgffoikebgkaa
/- Walks of rings: alike, length, runs. -/
namespace Go.Proofs.Ytdmgffoikebgkaa
open Go.RowKit

theorem pow_bds60 (s : Nat) (hs : s ≤ 60) : 1 ≤ (2 : Int) ^ s ∧ (2 : Int) ^ s ≤ 1152921504606846976 := by
  have h1 : (2 : Nat) ^ s ≤ 1152921504606846976 := Nat.le_trans (Nat.pow_le_pow_right (by decide) hs) (by decide)
  have h2 : 0 < (2 : Nat) ^ s := Nat.pow_pos (by decide)
  have e : (2 : Int) ^ s = ((2 ^ s : Nat) : Int) := (Int.natCast_pow 2 s).symm
  rw [e]
  generalize 2 ^ s = q at h1 h2
  omega
set_option maxHeartbeats 400000 in
theorem alike_any (s p : Nat) (w : World) (hs : s ≤ 60) :
    Calls Try.prog 215 #[.agg #[.int .i64 (s : Int), .int .i64 (p : Int)]] w fun e w' => e = .returned (.bool (alikeB s p)) ∧ Below w.heap.size w w' := by
  obtain ⟨hp1, hp2⟩ := pow_bds60 s hs
  have hpe : (2 : Int) ^ s = ((2 ^ s : Nat) : Int) := (Int.natCast_pow 2 s).symm
  by_cases h0 : p = 0
  · subst h0
    clear hpe
    go_enter Try.func215, Try.ntmps215
    go_wp2
    go_quiet (fail)
    go_wp2
    go_ret
    exact ⟨ret_bool (by simp [alikeB]), _root_.Go.below_drewN ((Below.refl _ _).alloc (Nat.le_refl _) _) _⟩
  · have h0' : ((p : Int) == 0) = false := by simp; omega
    by_cases h1 : p = 2 ^ s - 1
    · have h1' : ((p : Int) == 2 ^ s - 1) = true := by
        rw [hpe] at hp1 ⊢
        rw [beq_iff_eq]
        generalize 2 ^ s = q at h1 hp1
        omega
      have H1 := Lib.hid h1; clear h1 h0 hpe
      go_enter Try.func215, Try.ntmps215
      go_wp2
      go_quiet (fail)
      go_wp2
      go_ret
      exact ⟨ret_bool (by simp [alikeB, H1.out]), _root_.Go.below_drewN ((Below.refl _ _).alloc (Nat.le_refl _) _) _⟩
    · have h1' : ((p : Int) == 2 ^ s - 1) = false := by
        rw [hpe] at hp1 ⊢
        rw [beq_eq_false_iff_ne]
        generalize 2 ^ s = q at h1 hp1
        omega
      have H1 := Lib.hid h1; clear h1 hpe
      have H0 := Lib.hid h0; clear h0
      go_enter Try.func215, Try.ntmps215
      go_wp2
      go_quiet (fail)
      go_wp2
      go_ret
      exact ⟨ret_bool (by simp [alikeB, H1.out, H0.out]), _root_.Go.below_drewN ((Below.refl _ _).alloc (Nat.le_refl _) _) _⟩

theorem ringLifted_int (s p : Nat) (z : Int) (w : World) (hp : p < 9223372036854775808) (h0 : 0 ≤ z) (h1 : z < 64) :
    Calls Try.prog 216 #[.agg #[.int .i64 (s : Int), .int .i64 (p : Int)], .int .i64 z] w fun e w' => e = .returned (.bool (bitN p z.toNat)) ∧ Below w.heap.size w w' := by
  obtain ⟨k, rfl⟩ := Int.eq_ofNat_of_zero_le h0
  exact ringLifted_any s p k w hp (by omega)
/-- what stays beneath a world, with the two cells of a ring's box -/
structure RingBox (w0 : World) (B s p : Nat) (w : World) : Prop where
  c1 : w.cell? ⟨B, 0, none⟩ = some (.int .i64 (s : Int))
  c2 : w.cell? ⟨B, 1, none⟩ = some (.int .i64 (p : Int))
  lt : B < w.heap.size
  below : Below w0.heap.size w0 w
theorem RingBox.next {w0 w w' : World} {B s p : Nat} (h : RingBox w0 B s p w) (hb : Below w.heap.size w w') : RingBox w0 B s p w' :=
  ⟨(hb.cell (p := ⟨B, 0, none⟩) h.lt).trans h.c1, (hb.cell (p := ⟨B, 1, none⟩) h.lt).trans h.c2, Nat.lt_of_lt_of_le h.lt hb.size, h.below.trans (hb.mono h.below.size)⟩
theorem RingBox.drew {w0 w : World} {B s p : Nat} (h : RingBox w0 B s p w) : RingBox w0 B s p w.drew :=
  ⟨h.c1, h.c2, h.lt, h.below.drew⟩
set_option maxHeartbeats 400000 in
theorem length_any (s p f m : Nat) (w : World) (hs : s ≤ 60) (hf : f < s) (hp : p < 9223372036854775808) (hm : 1 ≤ m ∧ m < s) (hm1 : ∀ n, 1 ≤ n → n < m → bitN p ((f + n) % s) = bitN p f) (hm2 : bitN p ((f + m) % s) ≠ bitN p f) :
    Calls Try.prog 217 #[.agg #[.int .i64 (s : Int), .int .i64 (p : Int)], .int .i64 (f : Int)] w fun e w' => e = .returned (.int .i64 (m : Int)) ∧ Below w.heap.size w w' := by
  have Hm1 := Lib.hid hm1; clear hm1
  have Hm2 := Lib.hid hm2; clear hm2
  go_enter Try.func217, Try.ntmps217
  go_wp2
  go_loopw [5] (fun i wr => ∃ k : Nat, 1 ≤ k ∧ k ≤ m ∧ i = .int .i64 k ∧ RingBox w w.heap.size s p wr) (fun i _ => m - (intOf i).toNat)
  case atStart => exact ⟨1, by omega, by omega, rfl, by simp, by simp, by simp, (Below.refl _ _).alloc (Nat.le_refl _) _⟩
  case round =>
    obtain ⟨k, hk1, hk2, rfl, hR⟩ := hrel
    have hc1 := hR.c1
    have hc2 := hR.c2
    have hz := hR.lt
    have hw2 : ((f : Int) + k).tmod s = ((f : Int) + k) % s := Int.tmod_eq_emod_of_nonneg (by omega)
    have hlt : ((f : Int) + k).tmod s < 64 := by rw [hw2]; have := Int.emod_lt_of_pos ((f : Int) + k) (show (0 : Int) < s by omega); omega
    have hge : 0 ≤ ((f : Int) + k).tmod s := by rw [hw2]; exact Int.emod_nonneg _ (by omega)
    have hs0 : ¬ s = 0 := by omega
    have het : (((f : Int) + k).tmod s).toNat = (f + k) % s := by rw [hw2, ← Int.natCast_add, ← Int.natCast_emod, Int.toNat_natCast]
    have hw1 : IntKind.i64.wrap ((f : Int) + k) = (f : Int) + k := IntWalk.i64_in _ (by omega)
    clear hw2
    by_cases hkm : k < m
    · have ht : (bitN p (((f : Int) + k).tmod s).toNat == bitN p f) = true := by rw [het, Hm1.out k hk1 hkm]; simp
      clear het
      go_wp2
      go_region_held3 (fun w' => w'.cell? ⟨w.heap.size, 0, none⟩ = some (.int .i64 (s : Int)) ∧ w'.cell? ⟨w.heap.size, 1, none⟩ = some (.int .i64 (p : Int)) ∧ RingBox w w.heap.size s p w')
        (first | exact ⟨hR.drew.c1, hR.drew.c2, hR.drew⟩ | (go_split_ands; have hn := RingBox.next (by assumption) (by assumption); exact ⟨hn.c1, hn.c2, hn⟩))
        (first
          | (go_at_call 216; refine (ringLifted_int s p _ _ hp ?_ ?_).mono ?_; rotate_left 2; rintro e w' ⟨rfl, hb1⟩; rotate_left 1; (first | assumption | omega); (first | assumption | omega)))
      go_split_ands
      go_wp2
      go_roundw
      case rel => exact ⟨k + 1, by omega, by omega, by go_num, by assumption⟩
      case measure => simp [intOf]; omega
    · obtain rfl : k = m := by omega
      have ht : (bitN p (((f : Int) + k).tmod s).toNat == bitN p f) = false := by rw [het]; simpa using Hm2.out
      clear het
      go_wp2
      go_region_held3 (fun w' => w'.cell? ⟨w.heap.size, 0, none⟩ = some (.int .i64 (s : Int)) ∧ w'.cell? ⟨w.heap.size, 1, none⟩ = some (.int .i64 (p : Int)) ∧ RingBox w w.heap.size s p w')
        (first | exact ⟨hR.drew.c1, hR.drew.c2, hR.drew⟩ | (go_split_ands; have hn := RingBox.next (by assumption) (by assumption); exact ⟨hn.c1, hn.c2, hn⟩))
        (first
          | (go_at_call 216; refine (ringLifted_int s p _ _ hp ?_ ?_).mono ?_; rotate_left 2; rintro e w' ⟨rfl, hb1⟩; rotate_left 1; (first | assumption | omega); (first | assumption | omega)))
      go_split_ands
      have hR2 : RingBox w w.heap.size s p w' := by assumption
      go_wp2
      go_ret
      exact ⟨rfl, hR2.below⟩
end Go.Proofs.Ytdmgffoikebgkaa
/- The runs of a ring, as an iterator. -/
namespace Go.Proofs.Ytdmgffoikebgkaa
open Go.RowKit Go.Shelf
attribute [local go_sem] Oper.semAt_some

/-- what the iterator sees between two rounds -/
structure RunsAt (size s p : Nat) (w : World) : Prop where
  c1 : w.cell? ⟨size, 0, none⟩ = some (.int .i64 (s : Int))
  c2 : w.cell? ⟨size, 1, none⟩ = some (.int .i64 (p : Int))
theorem RunsAt.lt {size s p : Nat} {w : World} (h : RunsAt size s p w) : size < w.heap.size := World.block_lt_of_cell? w ⟨size, 0, none⟩ h.c1
theorem RunsAt.next {size s p : Nat} {w w' : World} (h : RunsAt size s p w) (hb : Below w.heap.size w w') : RunsAt size s p w' :=
  ⟨(hb.cell (p := ⟨size, 0, none⟩) h.lt).trans h.c1, (hb.cell (p := ⟨size, 1, none⟩) h.lt).trans h.c2⟩
theorem RunsAt.keep {size s p : Nat} {w w' : World} (h : RunsAt size s p w) (hc : ∀ j, w'.cell? ⟨size, j, none⟩ = w.cell? ⟨size, j, none⟩) : RunsAt size s p w' :=
  ⟨(hc 0).trans h.c1, (hc 1).trans h.c2⟩
set_option maxHeartbeats 1000000 in
theorem runs_iter (s p n size : Nat) (hs0 : 0 < s) (hs : s ≤ 60) (hp : p < 9223372036854775808) :
    Iter Try.prog n (n - 1) 191 #[.agg #[.int .i64 (s : Int), .int .i64 (p : Int)]] (fun r : Run => #[r.enc]) (runsOf s p) size := by
  intro l J W hW hJ hY h0
  subst hW
  refine callsIn_of_wp Try.func191 rfl trivial ?_ rfl
  simp only [Try.ntmps191, List.size_toArray, List.length_cons, List.length_nil, Nat.reduceAdd, Nat.reduceSub, Array.replicate_succ, Array.replicate_zero, List.push_toArray, List.append_toArray, List.nil_append, List.cons_append]
  have hR0 : RunsAt W.heap.size s p (W.alloc (.cells #[.int .i64 (s : Int), .int .i64 (p : Int)] 189)) := ⟨by simp, by simp⟩
  have hJ0 : J [] (W.alloc (.cells #[.int .i64 (s : Int), .int .i64 (p : Int)] 189)) := hJ _ _ _ h0 ((Below.refl _ _).alloc (Nat.le_refl _) _)
  cases ha : alikeB s p with
  | true =>
    have hxs : runsOf s p = [⟨0, 1000, bitN p 0⟩] := by simp [runsOf, ha]
    rw [hxs] at hY ⊢
    have hal := fun w => ha ▸ alike_any s p w hs
    clear ha
    gi_wp2_with fail
    refine wideCall (hal _) ?_
    rintro e W1 ⟨rfl, hb1⟩
    have hR1 := hR0.next hb1; have hc1 := hR1.c1; have hc2 := hR1.c2; have hJ1 := hJ _ _ _ hJ0 hb1
    gi_wp2_with fail
    refine wideCall (ringLifted_any s p 0 _ hp (by omega)) ?_
    rintro e W2 ⟨rfl, hb2⟩
    have hJ2 := hJ _ _ _ hJ1 hb2
    obtain ⟨fn, tmps, assign, body, hy, hR⟩ := hY [] ⟨0, 1000, bitN p 0⟩ W2 hJ2 (by simp) (hR1.next hb2).lt
    have hy : (Instr.yield l #[.agg #[.int .i64 0, .int .i64 1000, .bool (bitN p 0)]]).run Try.prog W2 = .ok (.round l fn tmps assign body) W2 := hy
    gi_wp2
    refine ⟨fun h => by simp [Fence.wide] at h, hR.mono ?_⟩
    rintro e W3 ⟨rfl, hJ3, hz3, hk3⟩
    gi_wp2
    refine bodyPost_ret (results_none rfl _ _ _) rfl ?_
    exact ⟨⟨_, rfl⟩, hJ3⟩
  | false =>
    have hxs : runsOf s p = runsTo s p s := by simp [runsOf, ha]
    rw [hxs] at hY ⊢
    have hal := fun w => ha ▸ alike_any s p w hs
    clear ha
    gi_wp2_with fail
    refine wideCall (hal _) ?_
    rintro e W1 ⟨rfl, hb1⟩
    have hR1 := hR0.next hb1; have hc1 := hR1.c1; have hc2 := hR1.c2; have hJ1 := hJ _ _ _ hJ0 hb1
    gi_wp2_with fail
    gi_loopw [4, 5, 15] (fun _ _ i wr => ∃ k : Nat, k ≤ s ∧ i = .int .i64 k ∧ RunsAt W.heap.size s p wr ∧ J (runsTo s p k) wr) (fun _ _ i _ => s - (intOf i).toNat)
    case atStart => exact ⟨0, Nat.zero_le _, rfl, hR1, by simpa [runsTo] using hJ1⟩
    case round =>
      obtain ⟨k, hk, rfl, hR2, hJ2⟩ := hrel
      have hd1 := hR2.c1
      have hd2 := hR2.c2
      have hmx : Try.prog.follows .mixedOrders = true := by kernel_rfl
      by_cases hlt : k < s
      · have hs0' : ¬ s = 0 := by omega
        have hR2d : RunsAt W.heap.size s p wr.drew := ⟨hd1, hd2⟩
        have hJ2d : J (runsTo s p k) wr.drew := hJ _ _ _ hJ2 (below_drew1 _)
        have hz0 : 0 ≤ ((k : Int) + s - 1) % s := Int.emod_nonneg _ (by omega)
        have hz1 : ((k : Int) + s - 1) % s < 64 := by have := Int.emod_lt_of_pos ((k : Int) + s - 1) (show (0 : Int) < s by omega); omega
        have hk0 : (0 : Int) ≤ (k : Int) := by omega
        have hk1 : (k : Int) < 64 := by omega
        have het : (((k : Int) + s - 1) % s).toNat = (k + s - 1) % s := by
          rw [show (k : Int) + s - 1 = ((k + s - 1 : Nat) : Int) by omega, ← Int.natCast_emod, Int.toNat_natCast]
        cases hbg : begins s p k with
        | false =>
          have ht : (bitN p (((k : Int) + s - 1) % s).toNat == bitN p k) = true := by rw [het]; simpa [begins] using hbg
          have Hst := Lib.hid (runsTo_no hbg)
          clear het hbg
          gi_wp2_with fail
          gi_region_with_o (refine wideCall (ringLifted_int s p _ _ hp ?_ ?_) ?_; rotate_left 2; (rintro e W4 ⟨rfl, hb4⟩; have hR4 := RunsAt.next (by assumption) hb4; have hd41 := hR4.c1; have hd42 := hR4.c2; have hJ4 := hJ _ _ _ (by assumption) hb4); rotate_left 1; assumption; assumption)
          all_goals gi_wp2
          all_goals go_roundw
          all_goals first | (simp [intOf]; omega) | exact ⟨k + 1, by omega, by go_num, by assumption, by rw [Hst.out]; assumption⟩
        | true =>
          have ht : (bitN p (((k : Int) + s - 1) % s).toNat == bitN p k) = false := by rw [het]; simpa [begins] using hbg
          have Hst := Lib.hid (runsTo_yes hbg)
          have hpre : (runsTo s p k ++ [⟨k, lenF s p k, bitN p k⟩]) <+: runsTo s p s := by rw [← runsTo_yes hbg]; exact runsTo_pre (by omega)
          obtain ⟨hl1, hl2, hl3⟩ := lenF_spec hs0 hbg hlt
          have HL := fun w => length_any s p k (lenF s p k) w hs hlt hp hl1 hl2 hl3
          have HP := fun w => ringLifted_any s p k w hp (by omega)
          clear het hbg hl1 hl2 hl3
          gi_wp2_with fail
          gi_region_with_o (refine wideCall (ringLifted_int s p _ _ hp ?_ ?_) ?_; rotate_left 2; (rintro e W4 ⟨rfl, hb4⟩; have hR4 := RunsAt.next (by assumption) hb4; have hd41 := hR4.c1; have hd42 := hR4.c2; have hJ4 := hJ _ _ _ (by assumption) hb4; have hR4d : RunsAt W.heap.size s p W4.drew := ⟨hR4.c1, hR4.c2⟩; have hJ4d := hJ _ _ _ hJ4 (below_drew1 _)); rotate_left 1; assumption; assumption)
          all_goals gi_wp2_with fail
          all_goals gi_region_with_o (first | ((with_reducible refine wideCall (HL _) ?_); (rintro e W5 ⟨rfl, hb5⟩; have hR5 := RunsAt.next (by assumption) hb5; have hd51 := hR5.c1; have hd52 := hR5.c2; have hJ5 := hJ _ _ _ (by assumption) hb5)) | ((with_reducible refine wideCall (HP _) ?_); (rintro e W6 ⟨rfl, hb6⟩; have hR6 := RunsAt.next (by assumption) hb6; have hd61 := hR6.c1; have hd62 := hR6.c2; have hJ6 := hJ _ _ _ (by assumption) hb6; obtain ⟨fn, tmps, assign, body, hy, hRd⟩ := hY _ ⟨k, lenF s p k, bitN p k⟩ _ hJ6 hpre hR6.lt; simp only [Run.enc] at hy)) | (refine ⟨fun h => by simp [Fence.wide] at h, hRd.mono ?_⟩; (rintro e W7 ⟨rfl, hJ7, hz7, hk7⟩; have hR7 := RunsAt.keep (by assumption) hk7; have hd71 := hR7.c1; have hd72 := hR7.c2)))
          all_goals gi_wp2_with fail
          all_goals go_roundw
          all_goals first | (simp [intOf]; omega) | exact ⟨k + 1, by omega, by go_num, by assumption, by rw [Hst.out]; assumption⟩
      · obtain rfl : k = s := by omega
        gi_wp2
        go_end0
        exact ⟨⟨_, rfl⟩, hJ2⟩
end Go.Proofs.Ytdmgffoikebgkaa
/- Walks of pick, hook, longerThan. -/
namespace Go.Proofs.Ytdmgffoikebgkaa
open Go.RowKit

set_option maxHeartbeats 400000 in
theorem longerThan1_any (n m : Int) (b : Nat) (w : World) (hb : w.cell? ⟨b, 0, none⟩ = some (.int .i64 m)) :
    Calls Try.prog 193 #[.int .i64 n, .pointer (some ⟨b, 0, none⟩)] w fun e w' => e = .returned (.bool (decide (m < n))) ∧ w = w' := by
  go_enter Try.func193, Try.ntmps193
  go_wp2
  go_ret
  exact ⟨rfl, rfl⟩
set_option maxHeartbeats 400000 in
theorem longerThan_any (m : Int) (w : World) :
    Calls Try.prog 145 #[.int .i64 m] w fun e w' => e = .returned (.func (.func 193) #[] #[.pointer (some ⟨w.heap.size, 0, none⟩)]) ∧ w.alloc (.cells #[.int .i64 m] 3) = w' := by
  go_enter Try.func145, Try.ntmps145
  go_wp2
  go_ret
  exact ⟨rfl, rfl⟩
end Go.Proofs.Ytdmgffoikebgkaa
/- keep: the closure that collects floats. -/
namespace Go.Proofs.Ytdmgffoikebgkaa
open Go.RowKit

/-- where its row lies, behind a step -/
def RowAt (w : World) (v v' : Value) : Prop := v'.ownBlock = v.ownBlock ∨ ∃ g, v'.ownBlock = some g ∧ w.heap.size ≤ g
def KeepPost (n0 bl : Nat) (w : World) (v : Value) (fs : List Fl) (e : Ending) (w' : World) : Prop :=
  e = .returned (.tuple #[]) ∧ ∃ v', FlBox w' n0 bl v' fs ∧ RowAt w v v' ∧ Wr w w' bl v

theorem FlBox.row_alloc {w : World} {n0 bl : Nat} {v : Value} {fs : List Fl} (h : FlBox w n0 bl v fs) (o : Obj) : (w.alloc o).ownsRow n0 149 4 v fs.length (flCells fs) :=
  (h.below ((Below.refl _ _).alloc (Nat.le_refl _) o)).row
set_option maxHeartbeats 1000000 in
theorem keep_no (pk hk bw bb bl n0 : Nat) (r : Run) (m : Int) (v : Value) (fs : List Fl) (w : World)
    (hw : w.cell? ⟨bw, 0, none⟩ = some (.func (.func 193) #[] #[.pointer (some ⟨bb, 0, none⟩)])) (hb : w.cell? ⟨bb, 0, none⟩ = some (.int .i64 m))
    (hv : FlBox w n0 bl v fs) (hm : ¬ m < (r.length : Int)) :
    Calls Try.prog 190 #[.int .i64 (pk : Int), .int .i64 (hk : Int), r.enc, .pointer (some ⟨bw, 0, none⟩), .pointer (some ⟨bl, 0, none⟩)] w (KeepPost n0 bl w v fs) := by
  have hbl : bb < w.heap.size := World.block_lt_of_cell? w ⟨bb, 0, none⟩ hb
  have hb1 : (w.alloc (.cells #[.int .i64 (r.first : Int), .int .i64 (r.length : Int), .bool r.lifted] 241)).cell? ⟨bb, 0, none⟩ = some (.int .i64 m) := (((Below.refl w.heap.size w).alloc (Nat.le_refl _) _).cell (p := ⟨bb, 0, none⟩) hbl).trans hb
  have hwl : bw < w.heap.size := World.block_lt_of_cell? w ⟨bw, 0, none⟩ hw
  have hw1 : (w.alloc (.cells #[.int .i64 (r.first : Int), .int .i64 (r.length : Int), .bool r.lifted] 241)).cell? ⟨bw, 0, none⟩ = some (.func (.func 193) #[] #[.pointer (some ⟨bb, 0, none⟩)]) := (((Below.refl w.heap.size w).alloc (Nat.le_refl _) _).cell (p := ⟨bw, 0, none⟩) hwl).trans hw
  have hmd : decide (m < (r.length : Int)) = false := by simpa using hm
  unfold Run.enc
  go_enter Try.func190, Try.ntmps190
  go_wp2_with (go_at_call 193; refine (longerThan1_any _ _ _ _ hb1).mono ?_; rintro e w' ⟨rfl, rfl⟩)
  go_end0
  exact ⟨rfl, v, hv.below ((Below.refl _ _).alloc (Nat.le_refl _) _), .inl rfl, ⟨rfl, rfl, rfl, by simp, fun k hk _ _ => Below.heap_alloc _ _ _ hk⟩⟩

set_option maxRecDepth 100000 in
set_option maxHeartbeats 1000000 in
theorem keep_yes (pk hk bw bb bl n0 : Nat) (r : Run) (m : Int) (v : Value) (fs : List Fl) (w : World)
    (hw : w.cell? ⟨bw, 0, none⟩ = some (.func (.func 193) #[] #[.pointer (some ⟨bb, 0, none⟩)])) (hb : w.cell? ⟨bb, 0, none⟩ = some (.int .i64 m))
    (hv : FlBox w n0 bl v fs) (hn : n0 ≤ bl) (hlen : fs.length ≤ 100000) (hm : m < (r.length : Int)) :
    Calls Try.prog 190 #[.int .i64 (pk : Int), .int .i64 (hk : Int), r.enc, .pointer (some ⟨bw, 0, none⟩), .pointer (some ⟨bl, 0, none⟩)] w (KeepPost n0 bl w v (fs ++ [⟨pk, hk, r.length, r.lifted⟩])) := by
  obtain ⟨i0, hi, hz0, hz1, hz2⟩ := info_parts Try.info149
  have hbl : bb < w.heap.size := World.block_lt_of_cell? w ⟨bb, 0, none⟩ hb
  have hlt := hv.box.lt
  have hb1 : (w.alloc (.cells #[.int .i64 (r.first : Int), .int .i64 (r.length : Int), .bool r.lifted] 241)).cell? ⟨bb, 0, none⟩ = some (.int .i64 m) := (((Below.refl w.heap.size w).alloc (Nat.le_refl _) _).cell (p := ⟨bb, 0, none⟩) hbl).trans hb
  have hv1 := hv.below ((Below.refl w.heap.size w).alloc (Nat.le_refl _) (.cells #[.int .i64 (r.first : Int), .int .i64 (r.length : Int), .bool r.lifted] 241))
  have hc1 := hv1.box.cell
  have hc := hv.box.cell
  have hwl : bw < w.heap.size := World.block_lt_of_cell? w ⟨bw, 0, none⟩ hw
  have hw1 : (w.alloc (.cells #[.int .i64 (r.first : Int), .int .i64 (r.length : Int), .bool r.lifted] 241)).cell? ⟨bw, 0, none⟩ = some (.func (.func 193) #[] #[.pointer (some ⟨bb, 0, none⟩)]) := (((Below.refl w.heap.size w).alloc (Nat.le_refl _) _).cell (p := ⟨bw, 0, none⟩) hwl).trans hw
  have hmd : decide (m < (r.length : Int)) = true := by simpa using hm
  unfold Run.enc
  go_enter Try.func190, Try.ntmps190
  go_wp2_with (first | (go_at_call 193; refine (longerThan1_any _ _ _ _ hb1).mono ?_; rintro e w' ⟨rfl, rfl⟩) | (at_builtin; refine Shut.out ?_))
  unfold Shut
  refine wpList_append_lies _ rfl _ _ 52 rfl n0 149 i0 (.agg #[.int .i64 0, .int .i64 0, .int .i64 0, .bool false]) 4 32 Try.underlying52 hi hz0 hz1 hz2 rfl (by decide) v fs.length (flCells fs) rfl (hv1.row_alloc _) ⟨w.heap.size + 1, 0, none⟩ 1 1 [.int .i64 (pk : Int), .int .i64 (hk : Int), .int .i64 (r.length : Int), .bool r.lifted] rfl rfl ?c1 ?c2 (by decide) ?c3 ?c4 ?c5 (w.heap.size + 2) ?c6 ?_
  case c1 => exact World.news_of_block (cs := #[.int .i64 (pk : Int), .int .i64 (hk : Int), .int .i64 (r.length : Int), .bool r.lifted]) (t := 149) (fr := (0, 0)) (by have := World.alloc_heap_new (w.alloc (.cells #[.int .i64 (r.first : Int), .int .i64 (r.length : Int), .bool r.lifted] 241)) (.cells #[.int .i64 (pk : Int), .int .i64 (hk : Int), .int .i64 (r.length : Int), .bool r.lifted] 149); rwa [World.size_alloc] at this)
  case c2 => simp [Value.oneCell']
  case c3 => unfold maxLen; omega
  case c4 => omega
  case c5 => simp; omega
  case c6 => simp
  intro g cap w1 hown1 hgrow hat hglt
  have hnr := hv.box.not_row (by decide) hv.row
  have hB1 : Boxed w1 bl 52 v := ((hv.box.alloc _).alloc _).kept hgrow hnr
  have hd1 := hB1.cell
  have hd2 := hB1.frozen
  have hsz : w.heap.size + 2 ≤ w1.heap.size := by have := hgrow.size; simpa using this
  have hgr : ∀ k, k < w.heap.size → some k ≠ v.ownBlock → w1.heap[k]? = w.heap[k]? := fun k hk h => (hgrow.block k (by simp; omega) h).trans ((Below.heap_alloc _ _ _ (by simp; omega)).trans (Below.heap_alloc _ _ _ hk))
  have hos : w1.os = w.os := hgrow.os
  have htp : w1.tape = w.tape := hgrow.tape
  have hou : w1.output = w.output := hgrow.output
  have HG := Lib.hid hgr
  have HH := Lib.hid hat
  have Ho := Lib.hid hos
  have Ht := Lib.hid htp
  have Hu := Lib.hid hou
  have Hr := Lib.hid hown1
  have Hg := Lib.hid hgrow
  clear hgr hat hos htp hou hown1 hgrow
  go_wp2
  go_end0
  have hne : bl ≠ g := by
    rintro rfl
    rcases HH.out with h | h
    · exact hnr h.symm
    · omega
  refine ⟨rfl, .slice (some ⟨g, 0, none⟩) (fs.length + 1) cap, ⟨hB1.set _, ?_⟩, ?_, ?_⟩
  · have h := Hr.out
    rw [List.length_append, List.length_singleton, flCells_snoc]
    obtain ⟨hl, h2⟩ := h
    refine ⟨hl, ?_⟩
    rcases h2 with ⟨h2, _⟩ | ⟨g', cap', cur, e, hg, hh, r'⟩
    · simp at h2
    · simp at e
      obtain ⟨rfl, rfl⟩ := e
      exact .inr ⟨g, cap, cur, rfl, hg, (Below.heap_setCell _ _ _ _ (Ne.symm hne)).trans hh, r'⟩
  · rcases HH.out with h | h
    · exact .inl h.symm
    · exact .inr ⟨g, rfl, by omega⟩
  · refine ⟨?_, ?_, ?_, ?_, fun k hk h1 h2 => (Below.heap_setCell _ _ _ _ h1).trans (HG.out k hk h2)⟩
    · exact Ho.out
    · exact Ht.out
    · exact Hu.out
    · have := (Below.refl 0 w1).setCell (p := ⟨bl, 0, none⟩) (Nat.zero_le _) (.slice (some ⟨g, 0, none⟩) (fs.length + 1) cap)
      have := this.size
      omega
end Go.Proofs.Ytdmgffoikebgkaa
/- floats: all floats of a design along picks, or along hooks. · floats along hooks. -/
namespace Go.Proofs.Ytdmgffoikebgkaa
section
open Go.RowKit Go.Shelf
attribute [local go_sem] Oper.semAt_some

/-- the floats of one ring -/
def ringFl (mk : Run → Fl) (m : Int) (rs : List Run) : List Fl := (rs.filter fun r => decide (m < (r.length : Int))).map mk
def flW (n : Nat) (xs : List Nat) (m : Int) (i : Nat) : List Fl := ringFl (fun r => ⟨i, r.first, r.length, r.lifted⟩) m (runsOf n (nthN xs i))
theorem runsOf_len (s p : Nat) (_hs : 0 < s) (h : s ≤ 60) : (runsOf s p).length ≤ 60 := by
  unfold runsOf
  split
  · simp
  · exact Nat.le_trans (runsTo_len s p s) h
theorem ringFl_len (mk : Run → Fl) (m : Int) (rs : List Run) : (ringFl mk m rs).length ≤ rs.length := by
  unfold ringFl; rw [List.length_map]; exact List.length_filter_le _ _
theorem upTo_len (f : Nat → List Fl) (hf : ∀ i, (f i).length ≤ 60) : ∀ k, (upTo f k).length ≤ 60 * k
  | 0 => by simp [upTo]
  | k + 1 => by
    rw [upTo_succ, List.length_append]
    have := upTo_len f hf k
    have := hf k
    omega
theorem ringFl_yes (mk : Run → Fl) (m : Int) (rs : List Run) (r : Run) (h : m < (r.length : Int)) : ringFl mk m (rs ++ [r]) = ringFl mk m rs ++ [mk r] := by
  simp [ringFl, List.filter_append, h]
theorem ringFl_no (mk : Run → Fl) (m : Int) (rs : List Run) (r : Run) (h : ¬ m < (r.length : Int)) : ringFl mk m (rs ++ [r]) = ringFl mk m rs := by
  simp [ringFl, List.filter_append, h]
theorem ringFl_step (mk : Run → Fl) (m : Int) (rs : List Run) (r : Run) : ringFl mk m (rs ++ [r]) = ringFl mk m rs ++ (if m < (r.length : Int) then [mk r] else []) := by
  by_cases h : m < (r.length : Int)
  · rw [ringFl_yes mk m rs r h, if_pos h]
  · rw [ringFl_no mk m rs r h, if_neg h, List.append_nil]
theorem keep_any (pk hk bw bb bl n0 : Nat) (r : Run) (m : Int) (v : Value) (fs : List Fl) (w : World)
    (hw : w.cell? ⟨bw, 0, none⟩ = some (.func (.func 193) #[] #[.pointer (some ⟨bb, 0, none⟩)])) (hb : w.cell? ⟨bb, 0, none⟩ = some (.int .i64 m))
    (hv : FlBox w n0 bl v fs) (hn : n0 ≤ bl) (hlen : fs.length ≤ 100000) :
    Calls Try.prog 190 #[.int .i64 (pk : Int), .int .i64 (hk : Int), r.enc, .pointer (some ⟨bw, 0, none⟩), .pointer (some ⟨bl, 0, none⟩)] w (KeepPost n0 bl w v (fs ++ (if m < (r.length : Int) then [⟨pk, hk, r.length, r.lifted⟩] else []))) := by
  by_cases h : m < (r.length : Int)
  · rw [if_pos h]; exact keep_yes pk hk bw bb bl n0 r m v fs w hw hb hv hn hlen h
  · rw [if_neg h, List.append_nil]; exact keep_no pk hk bw bb bl n0 r m v fs w hw hb hv h
theorem Wr.keepsFrom {bl m D : Nat} {W W' : World} {v : Value} {fs : List Fl} (hw : Wr W W' bl v) (hv : FlBox W m bl v fs) : KeepsFrom D W W' :=
  ⟨hw.size, fun k o _ hk ho => by
    refine (hw.block k (Array.getElem?_eq_some_iff.1 hk).1 ?_ ?_).trans hk
    · rintro rfl; rw [hv.box] at hk; cases hk; cases ho
    · intro e
      obtain ⟨_, ⟨rfl, _⟩ | ⟨g, cap, cur, rfl, _, hg, _⟩⟩ := hv.row
      · simp [Value.ownBlock] at e
      · simp [Value.ownBlock] at e; subst e; rw [hg] at hk; cases hk; cases ho⟩

/-- what 'floats' keeps in its boxes: the design, the condition, keep, and the list -/
structure FlAt (w0 : World) (n : Nat) (S : Value) (bb : Nat) (m : Int) (v : Value) (fs : List Fl) (W : World) : Prop where
  p0 : W.cell? ⟨w0.heap.size, 0, none⟩ = some (.int .i64 (n : Int))
  p1 : W.cell? ⟨w0.heap.size, 1, none⟩ = some S
  wa : W.cell? ⟨w0.heap.size + 1, 0, none⟩ = some (.func (.func 193) #[] #[.pointer (some ⟨bb, 0, none⟩)])
  kp : W.cell? ⟨w0.heap.size + 1 + 1 + 1, 0, none⟩ = some (.func (.func 190) #[] #[.pointer (some ⟨w0.heap.size + 1, 0, none⟩), .pointer (some ⟨w0.heap.size + 1 + 1, 0, none⟩)])
  bd : W.cell? ⟨bb, 0, none⟩ = some (.int .i64 m)
  box : FlBox W w0.heap.size (w0.heap.size + 1 + 1) v fs
  below : Below w0.heap.size w0 W
  bl : bb < w0.heap.size
theorem FlAt.lt {w0 : World} {n : Nat} {S : Value} {bb : Nat} {m : Int} {v : Value} {fs : List Fl} {W : World} (h : FlAt w0 n S bb m v fs W) : w0.heap.size + 3 < W.heap.size :=
  World.block_lt_of_cell? W ⟨w0.heap.size + 1 + 1 + 1, 0, none⟩ h.kp
theorem FlAt.calm {w0 : World} {n k : Nat} {S : Value} {bb : Nat} {m : Int} {v : Value} {fs : List Fl} {W W' : World} (h : FlAt w0 n S bb m v fs W) (hc : Calm k W W') (hk : w0.heap.size ≤ k) : FlAt w0 n S bb m v fs W' :=
  ⟨hc.cell h.p0, hc.cell h.p1, hc.cell h.wa, hc.cell h.kp, hc.cell h.bd, h.box.calm hc, (hc.mono hk).below h.below (Nat.le_refl _), h.bl⟩
theorem FlAt.wr {w0 : World} {n : Nat} {S : Value} {bb : Nat} {m : Int} {v v' : Value} {fs fs' : List Fl} {W W' : World} (h : FlAt w0 n S bb m v fs W) (hw : Wr W W' (w0.heap.size + 1 + 1) v)
    (hv : FlBox W' w0.heap.size (w0.heap.size + 1 + 1) v' fs') (hrow : ∀ g, v.ownBlock = some g → w0.heap.size + 3 < g) : FlAt w0 n S bb m v' fs' W' := by
  have hlt := h.lt
  have hbl := h.bl
  have hc : ∀ k j, k < w0.heap.size + 4 → k ≠ w0.heap.size + 1 + 1 → W'.cell? ⟨k, j, none⟩ = W.cell? ⟨k, j, none⟩ := fun k j hk hne =>
    hw.cell (p := ⟨k, j, none⟩) (by simp; omega) hne (fun e => by have := hrow k e.symm; omega)
  exact ⟨(hc _ _ (by omega) (by omega)).trans h.p0, (hc _ _ (by omega) (by omega)).trans h.p1, (hc _ _ (by omega) (by omega)).trans h.wa, (hc _ _ (by omega) (by omega)).trans h.kp, (hc _ _ (by omega) (by omega)).trans h.bd,
    hv, h.below.trans (hw.below h.box.row (by omega) (Nat.le_trans (by omega) h.below.size)), hbl⟩
/-- the row of the list lies behind the boxes, and not at a place that an iterator keeps -/
def RowFar (w0 : World) (D E : Nat) (v : Value) : Prop := ∀ g, v.ownBlock = some g → w0.heap.size + 3 < g ∧ g ≠ D + 2 ∧ g ≠ E
theorem RowFar.next {w0 W : World} {D E : Nat} {v v' : Value} (h : RowFar w0 D E v) (hr : RowAt W v v') (h1 : w0.heap.size + 3 < W.heap.size) (h2 : D + 2 < W.heap.size) (h3 : E < W.heap.size) : RowFar w0 D E v' := fun g hg => by
  rcases hr with e | ⟨g', e, hle⟩
  · exact h g (by rw [← e]; exact hg)
  · rw [e] at hg; cases hg; omega

set_option maxRecDepth 100000 in
set_option maxHeartbeats 2000000 in
theorem floatsW_any (n : Nat) (b off c bb : Nat) (m : Int) (xs : List Nat) (w : World) (hn : 1 ≤ n ∧ n ≤ 24) (hl : xs.length ≤ 60) (hb : b < w.heap.size) (hx : NatsAt w b off xs) (hv : ∀ i, nthN xs i < 16777216)
    (hbb : w.cell? ⟨bb, 0, none⟩ = some (.int .i64 m)) :
    Calls Try.prog 144 #[.agg #[.int .i64 (n : Int), .slice (some ⟨b, off, none⟩) xs.length c], .int .i64 1, .func (.func 193) #[] #[.pointer (some ⟨bb, 0, none⟩)]] w
      fun e w' => ∃ v, e = .returned v ∧ w'.ownsRow w.heap.size 149 4 v (upTo (flW n xs m) xs.length).length (flCells (upTo (flW n xs m) xs.length)) ∧ Below w.heap.size w w' := by
  obtain ⟨nf, _⟩ : ∃ nf : Nat, nf = nf := ⟨3, rfl⟩
  refine (callsIn_wide (n := nf)).1 ?_
  refine callsIn_of_wp_marks Try.func144 rfl trivial ?_ rfl
  simp only [Try.ntmps144, List.size_toArray, List.length_cons, List.length_nil, Nat.reduceAdd, Nat.reduceSub, Array.replicate_succ, Array.replicate_zero, List.push_toArray, List.append_toArray, List.nil_append, List.cons_append]
  gi_wp2
  refine wpIn_loop (fun a' W' => ∃ (k : Nat) (ms : List Nat) (v u9 u21 u22 u23 u24 u25 u26 u34 : Value), a' = { tmps := #[.agg #[.int .i64 (n : Int), .slice (some ⟨b, off, none⟩) xs.length c], .int .i64 1, .func (.func 193) #[] #[.pointer (some ⟨bb, 0, none⟩)], .pointer (some ⟨w.heap.size, 0, none⟩), undef, .pointer (some ⟨w.heap.size + 1, 0, none⟩), .slice none 0 0, .pointer (some ⟨w.heap.size + 1 + 1, 0, none⟩), .pointer (some ⟨w.heap.size + 1 + 1 + 1, 0, none⟩), u9, undef, undef, undef, .func (.func 190) #[] #[.pointer (some ⟨w.heap.size + 1, 0, none⟩), .pointer (some ⟨w.heap.size + 1 + 1, 0, none⟩)], .int .i64 1, .bool true, .pointer (some ⟨w.heap.size, 0, none⟩), .pointer (some ⟨w.heap.size, 1, none⟩), .slice (some ⟨b, off, none⟩) xs.length c, .int .i64 (xs.length : Int), .int .i64 (k : Int), u21, u22, u23, u24, u25, u26, undef, undef, undef, undef, undef, undef, undef, u34, undef, undef, undef, undef, undef, undef, undef, undef, undef, undef, undef, undef, undef, undef, undef, undef, undef, undef, undef, undef], defers := marks ms } ∧
      k ≤ xs.length ∧ FlAt w n (.slice (some ⟨b, off, none⟩) xs.length c) bb m v (upTo (flW n xs m) k) W' ∧ (∀ g, v.ownBlock = some g → w.heap.size + 3 < g) ∧ Open ms w.heap.size W')
    (fun a' _ => xs.length - (intOf (a'.tmps.getD 20 undef)).toNat) ?start ?round
  case start =>
    refine ⟨0, [], .slice none 0 0, _, _, _, _, _, _, _, _, rfl, Nat.zero_le _, ?_, fun g hg => by simp [Value.ownBlock] at hg, List.nodup_nil, fun D hD => by simp at hD⟩
    have hB : Below w.heap.size w ((((w.alloc (.cells #[.int .i64 (n : Int), .slice (some ⟨b, off, none⟩) xs.length c] 191)).alloc (.cells #[.func (.func 193) #[] #[.pointer (some ⟨bb, 0, none⟩)]] 153)).alloc (.cells #[.slice none 0 0] 52)).alloc (.cells #[.func (.func 190) #[] #[.pointer (some ⟨w.heap.size + 1, 0, none⟩), .pointer (some ⟨w.heap.size + 1 + 1, 0, none⟩)]] 242)) :=
      ((((Below.refl _ _).alloc (Nat.le_refl _) _).alloc (by simp) _).alloc (by simp; omega) _).alloc (by simp; omega) _
    have e1 := Boxed.new (w.alloc (.cells #[.int .i64 (n : Int), .slice (some ⟨b, off, none⟩) xs.length c] 191)) 153 (.func (.func 193) #[] #[.pointer (some ⟨bb, 0, none⟩)])
    have e2 := Boxed.new ((w.alloc (.cells #[.int .i64 (n : Int), .slice (some ⟨b, off, none⟩) xs.length c] 191)).alloc (.cells #[.func (.func 193) #[] #[.pointer (some ⟨bb, 0, none⟩)]] 153)) 52 (.slice none 0 0)
    have e3 := Boxed.new (((w.alloc (.cells #[.int .i64 (n : Int), .slice (some ⟨b, off, none⟩) xs.length c] 191)).alloc (.cells #[.func (.func 193) #[] #[.pointer (some ⟨bb, 0, none⟩)]] 153)).alloc (.cells #[.slice none 0 0] 52)) 242 (.func (.func 190) #[] #[.pointer (some ⟨w.heap.size + 1, 0, none⟩), .pointer (some ⟨w.heap.size + 1 + 1, 0, none⟩)])
    have e0 : ∀ j, j < 2 → ((((w.alloc (.cells #[.int .i64 (n : Int), .slice (some ⟨b, off, none⟩) xs.length c] 191)).alloc (.cells #[.func (.func 193) #[] #[.pointer (some ⟨bb, 0, none⟩)]] 153)).alloc (.cells #[.slice none 0 0] 52)).alloc (.cells #[.func (.func 190) #[] #[.pointer (some ⟨w.heap.size + 1, 0, none⟩), .pointer (some ⟨w.heap.size + 1 + 1, 0, none⟩)]] 242)).cell? ⟨w.heap.size, j, none⟩ = (w.alloc (.cells #[.int .i64 (n : Int), .slice (some ⟨b, off, none⟩) xs.length c] 191)).cell? ⟨w.heap.size, j, none⟩ := fun j _ =>
      ((((Below.refl (w.heap.size + 1) (w.alloc (.cells #[.int .i64 (n : Int), .slice (some ⟨b, off, none⟩) xs.length c] 191))).alloc (by simp) _).alloc (by simp) _).alloc (by simp) _).cell (p := ⟨w.heap.size, j, none⟩) (by simp)
    simp only [World.size_alloc] at e1 e2 e3
    refine ⟨(e0 0 (by omega)).trans (by simp), (e0 1 (by omega)).trans (by simp), ((e1.alloc _).alloc _).cell, e3.cell, (hB.cell (p := ⟨bb, 0, none⟩) (World.block_lt_of_cell? w ⟨bb, 0, none⟩ hbb)).trans hbb, ⟨e2.alloc _, World.ownsRow_nil _ _ _ _⟩, hB, World.block_lt_of_cell? w ⟨bb, 0, none⟩ hbb⟩
  case round =>
    rintro _ W ⟨k, ms, v, u9, u21, u22, u23, u24, u25, u26, u34, rfl, hk, hF, hrow, hop⟩
    have hlt3 := hF.lt
    by_cases hlt : k < xs.length
    · have hxW : NatsAt (W.alloc (.cells #[.int .i64 (k : Int)] 3)) b off xs := (hx.below hF.below hb).below ((Below.refl _ _).alloc (Nat.le_refl _) _) (Nat.lt_of_lt_of_le hb hF.below.size)
      have hF1 := hF.calm (Calm.of_below ((Below.refl W.heap.size W).alloc (Nat.le_refl _) (.cells #[.int .i64 (k : Int)] 3))) hF.below.size
      have h0 := hF1.p0
      have h1 := hF1.p1
      have hHR := Lib.hid hrow
      have hOp := Lib.hid hop
      clear hrow hop
      gi_wp2_with fail
      refine wideCall (pick_any n b off c xs k _ (by simp; have := hF.below.size; omega) (by omega) hxW hlt) ?_
      rintro e W1 ⟨rfl, hb1⟩
      gi_wp2_with fail
      have hF2 := hF1.calm (k := w.heap.size) (Calm.of_below hb1) (Nat.le_refl _)
      have hpk : W1.cell? ⟨W.heap.size, 0, none⟩ = some (.int .i64 (k : Int)) := (hb1.cell (p := ⟨W.heap.size, 0, none⟩) (by simp)).trans (by simp)
      have hOp1 : Open ms w.heap.size W1 := (hOp.out.calm (n := W.heap.size) (Calm.of_below ((Below.refl W.heap.size W).alloc (Nat.le_refl _) (.cells #[.int .i64 (k : Int)] 3))) (fun D hD => hOp.out.lt hD)).calm (n := W.heap.size) (Calm.of_below hb1) (fun D hD => hOp.out.lt hD)
      have hWs : W.heap.size + 1 ≤ W1.heap.size := by have := hb1.size; simpa using this
      have hws : w.heap.size + 3 < W1.heap.size := hF2.lt
      have hrl := runsOf_len n (nthN xs k) (by omega) (by omega)
      have hul := upTo_len (flW n xs m) (fun i => Nat.le_trans (ringFl_len _ _ _) (runsOf_len n (nthN xs i) (by omega) (by omega))) k
      refine rangeB (gf := 191) (rb := #[.agg #[.int .i64 (n : Int), .int .i64 (nthN xs k : Int)]]) rfl (enters_of Try.func191 (by kernel_rfl) rfl) (encs := fun r : Run => #[r.enc]) (xs := runsOf n (nthN xs k)) (B := W1.heap.size) (Nat.le_refl _) (fun _ => rfl)
        (runs_iter n (nthN xs k) _ _ (by omega) (by omega) (by have := hv k; omega))
        (fun pre W' => ∃ v, FlAt w n (.slice (some ⟨b, off, none⟩) xs.length c) bb m v (upTo (flW n xs m) k ++ ringFl (fun r => ⟨k, r.first, r.length, r.lifted⟩) m pre) W' ∧ RowFar w W1.heap.size W.heap.size v ∧ W'.cell? ⟨W.heap.size, 0, none⟩ = some (.int .i64 (k : Int)) ∧ Open ms w.heap.size W')
        ?stable ?start2
        (fun x a1 W' => ∃ bx, a1 = { tmps := #[.agg #[.int .i64 (n : Int), .slice (some ⟨b, off, none⟩) xs.length c], .int .i64 1, .func (.func 193) #[] #[.pointer (some ⟨bb, 0, none⟩)], .pointer (some ⟨w.heap.size, 0, none⟩), undef, .pointer (some ⟨w.heap.size + 1, 0, none⟩), .slice none 0 0, .pointer (some ⟨w.heap.size + 1 + 1, 0, none⟩), .pointer (some ⟨w.heap.size + 1 + 1 + 1, 0, none⟩), .pointer (some ⟨W.heap.size, 0, none⟩), .pointer (some ⟨bx, 0, none⟩), undef, undef, .func (.func 190) #[] #[.pointer (some ⟨w.heap.size + 1, 0, none⟩), .pointer (some ⟨w.heap.size + 1 + 1, 0, none⟩)], .int .i64 1, .bool true, .pointer (some ⟨w.heap.size, 0, none⟩), .pointer (some ⟨w.heap.size, 1, none⟩), .slice (some ⟨b, off, none⟩) xs.length c, .int .i64 (xs.length : Int), .int .i64 (k : Int), .bool true, .int .i64 (k : Int), .agg #[.int .i64 (n : Int), .slice (some ⟨b, off, none⟩) xs.length c], .int .i64 (k : Int), .agg #[.int .i64 (n : Int), .int .i64 (nthN xs k : Int)], .func (.func 191) #[.agg #[.int .i64 (n : Int), .int .i64 (nthN xs k : Int)]] #[], x.enc, undef, undef, undef, undef, undef, undef, u34, undef, undef, undef, undef, undef, undef, undef, undef, undef, undef, undef, undef, undef, undef, undef, undef, undef, undef, undef, undef], defers := [] } ∧ W'.cell? ⟨bx, 0, none⟩ = some (.int .i64 (x.first : Int)) ∧ W'.cell? ⟨bx, 1, none⟩ = some (.int .i64 (x.length : Int)) ∧ W'.cell? ⟨bx, 2, none⟩ = some (.bool x.lifted))
        ?stableA ?assign ?body ?done
      case stable =>
        rintro s A A' ⟨v, a1, a2, a3, a4⟩ hc
        exact ⟨v, a1.calm hc (by omega), a2, hc.cell a3, a4.calm hc fun D hD => hOp1.lt hD⟩
      case start2 =>
        refine ⟨v, by simpa [ringFl] using hF2, fun g hg => ⟨hHR.out g hg, ?_, ?_⟩, hpk, hOp1⟩
        · have := (ownBlock_ge hF.box.row hg).2
          omega
        · have := (ownBlock_ge hF.box.row hg).2
          omega
      case stableA =>
        rintro x a1 A A' ⟨bx, h1, h2, h3, h4⟩ hc
        exact ⟨bx, h1, hc.cell h2, hc.cell h3, hc.cell h4⟩
      case assign =>
        intro l x W' K hK
        unfold Run.enc
        gi_wp2
        exact hK _ _ ((Below.refl _ _).alloc (Nat.le_refl _) _) ⟨W'.heap.size, rfl, by simp, by simp, by simp⟩
      case body =>
        rintro l pre x _ W' ⟨v', hf, hfar, hpk', hop'⟩ ⟨bx, rfl, hb0, hb1', hb2⟩ hpre hsz
        have hlen : (upTo (flW n xs m) k ++ ringFl (fun r => ⟨k, r.first, r.length, r.lifted⟩) m pre).length ≤ 100000 := by
          have h1 := ringFl_len (fun r => (⟨k, r.first, r.length, r.lifted⟩ : Fl)) m pre
          have h2 := prefix_len hpre
          rw [List.length_append] at h2 ⊢
          simp at h2
          omega
        have hkp := hf.kp
        gi_wp2_with fail
        refine roundCall (keep_any k x.first _ bb _ w.heap.size x m v' _ W' hf.wa hf.bd hf.box (by omega) hlen) ?_
        rintro e W3 ⟨rfl, v2, hv2, hr2, hw2⟩
        gi_wp2_with fail
        have hfar2 := hfar.next hr2 hf.lt hsz (by omega)
        refine ⟨hw2.keepsFrom hf.box, ⟨v2, ?_, hfar2, ?_, hop'.wr hw2 hf.box⟩, fun j => hw2.cell (p := ⟨W1.heap.size + 2, j, none⟩) hsz (by simp; omega) (fun e => (hfar _ e.symm).2.1 rfl)⟩
        · refine hf.wr hw2 ?_ (fun g hg => (hfar g hg).1)
          rw [ringFl_step, ← List.append_assoc]
          exact hv2
        · have hne : W.heap.size < W'.heap.size := World.block_lt_of_cell? W' ⟨W.heap.size, 0, none⟩ hpk'
          refine (hw2.cell (p := ⟨W.heap.size, 0, none⟩) hne (by simp; omega) fun e => ?_).trans hpk'
          exact (hfar _ e.symm).2.2 rfl
      case done =>
        rintro W' hlt' ⟨v', hf, hfar, hpk', hop'⟩ hD
        gi_wp2_with fail
        exact ⟨⟨k + 1, W1.heap.size :: ms, v', _, _, _, _, _, _, _, _, rfl, by omega, by rw [upTo_succ]; exact hf, fun g hg => (hfar g hg).1, hop'.cons (fun E hE => hOp1.lt hE) (by omega) hD⟩, by simp [intOf]; omega⟩
    · obtain rfl : k = xs.length := by omega
      have hbx := hF.box.box.cell
      have hHR := Lib.hid hrow
      have hOp := Lib.hid hop
      clear hrow hop
      gi_wp2_with fail
      refine leaves_marks (B := w.heap.size) (v := v) ms _ (fun D hD => hOp.out.2 D hD) hOp.out.1 fun w' hc => ⟨(results_tmp (t := 6) rfl _ _ _).trans rfl, v, rfl, ?_, ?_⟩
      · exact (hF.calm hc (Nat.le_refl _)).box.row
      · exact (hF.calm hc (Nat.le_refl _)).below
end
end Go.Proofs.Ytdmgffoikebgkaa
namespace Go.Proofs.Ytdmgffoikebgkaa
section
open Go.RowKit Go.Shelf
attribute [local go_sem] Oper.semAt_some
end
end Go.Proofs.Ytdmgffoikebgkaa
/- Floats. · Floats, Proof, Longest. -/
namespace Go.Proofs.Ytdmgffoikebgkaa
section
open Go.RowKit

end
end Go.Proofs.Ytdmgffoikebgkaa
namespace Go.Proofs.Ytdmgffoikebgkaa
section
open Go.RowKit

/-- as the walk shows it: a design in its box, and once more in a list -/
theorem check_box (h : Int) (p : Option Addr) (c : Nat) (xs : List Int) (w : World) (o : Obj) (hr : Reads w (.slice p xs.length c) xs) (e : Int) (he : checkE h xs = e) :
    Calls Try.prog 137 #[.slice (some ⟨w.heap.size + 1, 0, none⟩) 1 1] ((w.alloc o).alloc (.cells #[.int .i64 h, .slice p xs.length c] 37)) fun e' w' => e' = .returned (.int .i64 e) ∧ Below (w.heap.size + 1) (w.alloc o) w' := by
  have := check_one ⟨h, p, c, xs⟩ (w.alloc o) (hr.below ((Below.refl _ _).alloc (Nat.le_refl _) o))
  rw [World.size_alloc] at this
  refine this.mono ?_
  rintro e' w' ⟨rfl, hb⟩
  exact ⟨by rw [show (⟨h, p, c, xs⟩ : Dsg).e = checkE h xs from rfl, he], hb⟩

theorem ownsRow_base {w : World} {B B' e size n : Nat} {v : Value} {xs : List Value} (h : w.ownsRow B e size v n xs) (hB : B' ≤ B) : w.ownsRow B' e size v n xs := by
  obtain ⟨hl, h2 | ⟨g, cap, cur, e1, hg, r⟩⟩ := h
  · exact ⟨hl, .inl h2⟩
  · exact ⟨hl, .inr ⟨g, cap, cur, e1, Nat.le_trans hB hg, r⟩⟩
set_option maxHeartbeats 1000000 in
theorem FloatsAL_ok (al : Int) (hal : al = 1 ∨ al = 2) (n : Nat) (b off c : Nat) (xs : List Nat) (m : Nat) (fs : List Fl) (w : World) (hv : VAt w b off c n xs) (hm : m ≤ 1000)
    (HF : ∀ (bb : Nat) (W : World), VAt W b off c n xs → W.cell? ⟨bb, 0, none⟩ = some (.int .i64 (m : Int)) → Calls Try.prog 144 #[.agg #[.int .i64 (n : Int), .slice (some ⟨b, off, none⟩) xs.length c], .int .i64 al, .func (.func 193) #[] #[.pointer (some ⟨bb, 0, none⟩)]] W
      fun e w' => ∃ v, e = .returned v ∧ w'.ownsRow W.heap.size 149 4 v fs.length (flCells fs) ∧ Below W.heap.size W w') :
    Calls Try.prog 71 #[.agg #[.int .i64 (n : Int), .slice (some ⟨b, off, none⟩) xs.length c], .int .i64 al, .int .i64 (m : Int)] w
      fun e w' => ∃ v, e = .returned (.tuple #[v, .int .i64 0]) ∧ w'.ownsRow w.heap.size 149 4 v fs.length (flCells fs) ∧ Below w.heap.size w w' := by
  have Hc := fun o => check_box n (some ⟨b, off, none⟩) c (ints xs) w o (by rw [ints_len]; exact hv.reads) 0 hv.ok.check
  rw [ints_len] at Hc
  have hmx : Try.prog.follows .mixedOrders = true := by kernel_rfl
  have hm0 : decide ((m : Int) < 0) = false := by simp
  have hm1 : decide ((1000 : Int) < (m : Int)) = false := by simp; omega
  have HV := Lib.hid hv
  have HFh := Lib.hid HF
  clear HF hv hm
  rcases hal with rfl | rfl
  all_goals
    go_enter Try.func71, Try.ntmps71
    go_wp2_with (go_at_call 137; refine (Hc _).mono ?_; rintro e w' ⟨rfl, hb1⟩)
    have hd0 : w'.cell? ⟨w.heap.size, 0, none⟩ = some (.int .i64 (n : Int)) := (hb1.cell (p := ⟨w.heap.size, 0, none⟩) (by simp)).trans (by simp)
    have hd1 : w'.cell? ⟨w.heap.size, 1, none⟩ = some (.slice (some ⟨b, off, none⟩) xs.length c) := (hb1.cell (p := ⟨w.heap.size, 1, none⟩) (by simp)).trans (by simp)
    have hz : w.heap.size < w'.heap.size := by have := hb1.size; simp at this; omega
    have ha : Below w'.heap.size w' (w'.alloc (.cells #[.int .i64 (m : Int)] 3)) := (Below.refl _ _).alloc (Nat.le_refl _) _
    have hd0a := (ha.cell (p := ⟨w.heap.size, 0, none⟩) hz).trans hd0
    have hd1a := (ha.cell (p := ⟨w.heap.size, 1, none⟩) hz).trans hd1
    have hBa : Below w.heap.size w (w'.alloc (.cells #[.int .i64 (m : Int)] 3)) := (((Below.refl w.heap.size w).alloc (Nat.le_refl _) _).trans (hb1.mono (by omega))).trans (ha.mono (by omega))
    have HVa : Hid (VAt (w'.alloc (.cells #[.int .i64 (m : Int)] 3)).drew b off c n xs) := Lib.hid (HV.out.below hBa.drew)
    go_region_with (first | (go_at_call 145; refine (longerThan_any _ _).mono ?_; rintro e w2 ⟨rfl, rfl⟩) | (go_at_call 144; refine (HFh.out w'.heap.size _ HVa.out (by simp)).mono ?_; rintro e w3 ⟨v, rfl, hrow, hb3⟩))
    all_goals go_wp2
    all_goals go_ret2
    all_goals exact ⟨v, rfl, ownsRow_base hrow hBa.drew.size, hBa.drew.trans (hb3.mono hBa.drew.size)⟩
theorem FloatsW_ok (n : Nat) (b off c : Nat) (xs : List Nat) (m : Nat) (w : World) (hv : VAt w b off c n xs) (hm : m ≤ 1000) :
    Calls Try.prog 71 #[.agg #[.int .i64 (n : Int), .slice (some ⟨b, off, none⟩) xs.length c], .int .i64 1, .int .i64 (m : Int)] w
      fun e w' => ∃ v, e = .returned (.tuple #[v, .int .i64 0]) ∧ w'.ownsRow w.heap.size 149 4 v (upTo (flW n xs m) xs.length).length (flCells (upTo (flW n xs m) xs.length)) ∧ Below w.heap.size w w' :=
  FloatsAL_ok 1 (.inl rfl) n b off c xs m _ w hv hm fun bb W hW hb => floatsW_any n b off c bb m xs W ⟨hW.ok.n0, hW.ok.n1⟩ hW.ok.l1 hW.lt hW.at' hW.ok.lt' hb
end
end Go.Proofs.Ytdmgffoikebgkaa
/- Floats in memory; the windows of Proof. -/
namespace Go.Proofs.Ytdmgffoikebgkaa
open Go.RowKit

theorem runsTo_mem {s p k : Nat} {r : Run} (h : r ∈ runsTo s p k) : r.first < k ∧ begins s p r.first = true ∧ r = ⟨r.first, lenF s p r.first, bitN p r.first⟩ := by
  simp only [runsTo, List.mem_map, List.mem_filter, List.mem_range] at h
  obtain ⟨i, ⟨h1, h2⟩, rfl⟩ := h
  exact ⟨h1, h2, rfl⟩
end Go.Proofs.Ytdmgffoikebgkaa
/- Regions that draw their order, read, make boxes, call what only adds to memory, and store into the boxes that they made: each operation once, whatever was done before. -/
namespace Go.Proofs.Ytdmgffoikebgkaa
open Go.RowKit Go.Shelf

section
variable {R : RSp} {w : World} {ops : Array Oper} {L : Array Bool} {v : Nat → Value} {hs : Nat → Hd} {W W' : World} {i r : Nat} {o : Oper}
end
/-- the same for 'len' -/
def IsOpL (ops : Array Oper) (i : Nat) (dst : Option Nat) (op : Op) (g : Option (Nat × Bool)) (deps : List Nat) : Prop :=
  ∃ pos aft, ops[i]? = some ⟨dst, op, 3, pos, aft, g⟩ ∧ deps.all (depB ⟨dst, op, 3, pos, aft, g⟩) = true
end Go.Proofs.Ytdmgffoikebgkaa
/- Differ. -/
namespace Go.Proofs.Ytdmgffoikebgkaa
open Go.RowKit Go.Shelf

end Go.Proofs.Ytdmgffoikebgkaa
/- (after texts BA, BB, BC, BD, BF, ZB, XA of the first seat) What Bind makes: a bound design with the fewest changes; what a bound row is woven as. -/
namespace Go.Proofs.Ytdmgffoikebgkaa
open Go.RowKit

section
variable (p f h L : Nat) (now : List Nat) (a : Bool) (next0 : List Nat)
end
theorem pow_s {s : Nat} (hs : s ≤ 24) : 2 ^ s ≤ change := Nat.le_trans (Nat.pow_le_pow_right (by decide) hs) (by decide)
/-- the best row: the fewest changes, and of these rows the smallest -/
theorem bindN_best {p f s m : Nat} (hs : 1 ≤ s) (hs2 : s ≤ 24) (h : bindN s p f m < never) :
    bindN s p f m % change < 2 ^ s ∧ OkRow p f s m (bindN s p f m % change) ∧ ham p (bindN s p f m % change) s = bindN s p f m / change ∧
    ∀ x, x < 2 ^ s → OkRow p f s m x → bindN s p f m / change < ham p x s ∨ (ham p x s = bindN s p f m / change ∧ bindN s p f m % change ≤ x) := by
  obtain ⟨x0, hx0, hok, he⟩ := bindN_is_row hs2 h
  have h3 := pow_s hs2
  have hc : 0 < change := by decide
  have e1 : bindN s p f m % change = x0 := by rw [he, Nat.mul_add_mod]; exact Nat.mod_eq_of_lt (by omega)
  have e2 : bindN s p f m / change = ham p x0 s := by rw [he, Nat.mul_add_div hc, Nat.div_eq_of_lt (by omega)]; omega
  rw [e1, e2]
  refine ⟨hx0, hok, rfl, fun x hx h2 => ?_⟩
  have h4 := bindN_le_row hs hs2 hx h2
  rw [he] at h4
  rcases Nat.lt_trichotomy (ham p x0 s) (ham p x s) with a | a | a
  · exact .inl a
  · rw [a] at h4; exact .inr ⟨a.symm, by omega⟩
  · exfalso
    have : change * (ham p x s + 1) ≤ change * ham p x0 s := Nat.mul_le_mul_left _ a
    rw [Nat.mul_succ] at this
    omega
theorem run_bit {s p f o : Nat} (hs : 0 < s) (hb : begins s p f = true) (hf : f < s) (ho : o < lenF s p f) : bitN p ((f + o) % s) = bitN p f := by
  rcases Nat.eq_zero_or_pos o with rfl | h
  · rw [Nat.add_zero, Nat.mod_eq_of_lt hf]
  · exact (lenF_spec hs hb hf).2.1 o h ho
/-- what a pick's runs are -/
theorem run_of {n p : Nat} {r : Run} (hn : 1 ≤ n) (h : r ∈ runsOf n p) :
    (alikeB n p = true ∧ r = ⟨0, 1000, bitN p 0⟩) ∨ (alikeB n p = false ∧ r.first < n ∧ begins n p r.first = true ∧ r = ⟨r.first, lenF n p r.first, bitN p r.first⟩ ∧ r.length < n) := by
  unfold runsOf at h
  split at h
  · exact .inl ⟨by assumption, by simpa using h⟩
  · rename_i ha
    obtain ⟨h1, h2, h3⟩ := runsTo_mem h
    refine .inr ⟨by simpa using ha, h1, h2, h3, ?_⟩
    rw [h3]; exact (lenF_spec (by omega) h2 h1).1.2
theorem run_alike {n p o : Nat} {r : Run} (hn : 1 ≤ n) (hp : p < 2 ^ n) (h : r ∈ runsOf n p) (ho : o < min r.length n) : bitN p ((r.first + o) % n) = r.lifted := by
  rcases run_of hn h with ⟨ha, rfl⟩ | ⟨ha, h1, h2, h3, h4⟩
  · exact alike_to hn hp (by omega) ha _ (Nat.mod_lt _ (by omega))
  · rw [h3]
    refine run_bit (by omega) h2 h1 ?_
    have h5 : r.length = lenF n p r.first := congrArg Run.length h3
    show o < lenF n p r.first
    omega
def chSel (pick : Int) (i : Nat) : Bool := decide (pick < 0) || decide (pick = (i : Int))
def chAll (pick : Int) (n : Nat) (xs ys : List Nat) : Nat → Nat
  | 0 => 0
  | i + 1 => chAll pick n xs ys i + if chSel pick i then ham (nthN xs i) (nthN ys i) n else 0
theorem not_bound {x n m j t : Nat} (hj : j < n) (hal : ∀ u, u < t → bitN x ((j + u) % n) = bitN x j) (ht : m < t ∨ n < t) : ¬ BoundUp x n m := by
  intro h
  obtain ⟨u, hu, hne⟩ := h j hj
  by_cases hut : u < t
  · exact hne (hal u hut)
  · have hlt := Nat.mod_lt u (show 0 < n by omega)
    have := hal (u % n) (by omega)
    rw [Nat.add_mod_mod] at this
    exact hne this
theorem chAll_all (n : Nat) (xs ys : List Nat) (k : Nat) : chAll (-1) n xs ys (k + 1) = chAll (-1) n xs ys k + ham (nthN xs k) (nthN ys k) n := by
  rw [chAll]; rfl
/-- what Bind makes -/
structure BindFix (n m : Nat) (ys ks zs : List Nat) (S : Nat) : Prop where
  v : Valid n zs
  l : zs.length = ys.length
  ok : ∀ i, i < ys.length → OkRow (nthN ys i) (nthN ks i) n m (nthN zs i)
  s : S = chAll (-1) n ys zs ys.length
  least : ∀ xs : List Nat, (∀ i, i < ys.length → nthN xs i < 2 ^ n ∧ OkRow (nthN ys i) (nthN ks i) n m (nthN xs i)) → S ≤ chAll (-1) n ys xs ys.length
theorem bindFix_of {n m : Nat} {ys ks : List Nat} (hv : Valid n ys) (hb : ∀ i, i < ys.length → bindN n (nthN ys i) (nthN ks i) m < never) : BindFix n m ys ks (bindRows n m ys ks ys.length) (bindSum n m ys ks ys.length) := by
  have hlen := bindRows_len n m ys ks ys.length
  have hbest := fun i hi => bindN_best hv.n0 hv.n1 (hb i hi)
  refine ⟨⟨hv.n0, hv.n1, by rw [hlen]; exact hv.l0, by rw [hlen]; exact hv.l1, fun i => ?_⟩, hlen, fun i hi => ?_, ?_, fun xs hx => ?_⟩
  · by_cases hi : i < ys.length
    · rw [bindRows_nth hi]; exact (hbest i hi).1
    · unfold nthN
      rw [List.getElem?_eq_none (by rw [hlen]; omega)]
      exact Nat.pow_pos (by decide)
  · rw [bindRows_nth hi]; exact (hbest i hi).2.1
  · have : ∀ k, k ≤ ys.length → bindSum n m ys ks k = chAll (-1) n ys (bindRows n m ys ks ys.length) k := fun k => by
      induction k with
      | zero => intro _; rfl
      | succ k ih =>
        intro hk
        rw [chAll_all, ← ih (by omega), bindRows_nth (by omega), (hbest k (by omega)).2.2.1]
        rfl
    exact this _ (Nat.le_refl _)
  · have : ∀ k, k ≤ ys.length → bindSum n m ys ks k ≤ chAll (-1) n ys xs k := fun k => by
      induction k with
      | zero => intro _; exact Nat.zero_le _
      | succ k ih =>
        intro hk
        have h1 := ih (by omega)
        have h2 := (hbest k (by omega)).2.2.2 (nthN xs k) (hx k (by omega)).1 (hx k (by omega)).2
        rw [chAll_all]
        have h3 : bindSum n m ys ks (k + 1) = bindSum n m ys ks k + bindN n (nthN ys k) (nthN ks k) m / change := rfl
        omega
    exact this _ (Nat.le_refl _)

/-- no float of a bound row is too long -/
theorem bound_flW {n m : Nat} {xs : List Nat} {i : Nat} (hn : 1 ≤ n) (hx : nthN xs i < 2 ^ n) (h : BoundUp (nthN xs i) n m) : flW n xs (m : Int) i = [] := by
  unfold flW ringFl
  rw [List.map_eq_nil_iff, List.filter_eq_nil_iff]
  intro r hr hm
  have hm' : m < r.length := by simpa using hm
  rcases run_of hn hr with ⟨ha, e⟩ | ⟨_, h1, hb, e, hlt⟩
  · have hb := fun j hj => alike_to (k := 0) hn hx hn ha j hj
    exact not_bound (j := 0) (t := n + 1) hn (fun u _ => hb _ (Nat.mod_lt _ hn)) (.inr (by omega)) h
  · refine not_bound (t := r.length) h1 (fun u hu => ?_) (.inl hm') h
    have h0 := run_alike (o := 0) hn hx hr (by omega)
    rw [Nat.add_zero, Nat.mod_eq_of_lt h1] at h0
    rw [run_alike hn hx hr (by omega), h0]
theorem bound_floats {n m : Nat} {xs : List Nat} (hn : 1 ≤ n) (hx : ∀ i, nthN xs i < 2 ^ n) : ∀ k, (∀ i, i < k → BoundUp (nthN xs i) n m) → upTo (flW n xs (m : Int)) k = []
  | 0, _ => rfl
  | k + 1, h => by rw [upTo_succ, bound_floats hn hx k (fun i hi => h i (by omega)), bound_flW hn (hx k) (h k (by omega))]; rfl
end Go.Proofs.Ytdmgffoikebgkaa
/- TopBound: which rows can be bound; Bind, Floats and Differ for its designs; a byte. -/
namespace Go.Proofs.Ytdmgffoikebgkaa
open Go.RowKit Go.Shelf
attribute [local go_sem] Oper.semAt_some

theorem con_free (p x : Nat) (s : Nat) : con p 0 x s = 0 := (con_zero s).2 fun j _ _ => by simp [bitN]
theorem zeros_nth (L i : Nat) : nthN (List.replicate L 0) i = 0 := by
  unfold nthN
  rw [List.getElem?_replicate]
  split <;> rfl
/-- what Bind makes of a design with nothing fixed -/
def zsOf (n m : Nat) (xs : List Nat) : List Nat := bindRows n m xs (List.replicate xs.length 0) xs.length
def smOf (n m : Nat) (xs : List Nat) : Nat := bindSum n m xs (List.replicate xs.length 0) xs.length
theorem zs_len (n m : Nat) (xs : List Nat) : (zsOf n m xs).length = xs.length := bindRows_len _ _ _ _ _
theorem call71 (n L b c m : Nat) (xs : List Nat) (W : World) (hL : xs.length = L) (hv : Valid n xs) (hm : m ≤ 1000) (hB : ∀ i, i < L → BoundUp (nthN xs i) n m) (hx : NatsAt W b 0 xs) (hb : b < W.heap.size) :
    Calls Try.prog 71 #[.agg #[.int .i64 (n : Int), .slice (some ⟨b, 0, none⟩) L c], .int .i64 1, .int .i64 (m : Int)] W fun e w' =>
      ∃ p cap, e = .returned (.tuple #[.slice p 0 cap, .int .i64 0]) ∧ Below W.heap.size W w' := by
  subst hL
  refine (FloatsW_ok n b 0 c xs m W ⟨hx, hb, hv⟩ hm).mono ?_
  rintro e w' ⟨v, rfl, h1, h2⟩
  rw [bound_floats hv.n0 hv.lt _ hB] at h1
  obtain ⟨_, ⟨h3, _⟩ | ⟨g, cap, cur, e, _⟩⟩ := h1
  · exact ⟨none, 0, by rw [h3], h2⟩
  · exact ⟨_, cap, by rw [e]; rfl, h2⟩
end Go.Proofs.Ytdmgffoikebgkaa
/- Harness ties: the hooks of one group that begins with the first hook. -/
namespace Go.Proofs.Ytdmgffoikebgkaa
open Go.RowKit Go.Shelf
attribute [local go_sem] Oper.semAt_some

end Go.Proofs.Ytdmgffoikebgkaa
/- Harness ties: Make with one group that begins with the first hook. -/
namespace Go.Proofs.Ytdmgffoikebgkaa
open Go.RowKit Go.Shelf
attribute [local go_sem] Oper.semAt_some

end Go.Proofs.Ytdmgffoikebgkaa
/- TopMirrored: point ties, their cloths and floats; the contracts that its walk uses. -/
namespace Go.Proofs.Ytdmgffoikebgkaa
open Go.RowKit Go.Shelf
attribute [local go_sem] Oper.semAt_some

/-- one point of a ring -/
def ringT (s p i : Nat) : Bool := bitN p (i % s)
def RunT (g : Nat → Bool) (v : Bool) (k : Nat) : Prop := ∃ f, ∀ j, j < k → g (f + j) = v
theorem bits_eqT {s p q : Nat} (hp : p < 2 ^ s) (hq : q < 2 ^ s) (h : ∀ j, j < s → bitN p j = bitN q j) : p = q := by
  refine Nat.eq_of_testBit_eq fun j => ?_
  by_cases hj : j < s
  · exact h j hj
  · rw [Nat.testBit_lt_two_pow (Nat.lt_of_lt_of_le hp (Nat.pow_le_pow_right (by decide) (by omega))), Nat.testBit_lt_two_pow (Nat.lt_of_lt_of_le hq (Nat.pow_le_pow_right (by decide) (by omega)))]
theorem alike_iffT {s p : Nat} (hs : 0 < s) (hp : p < 2 ^ s) : alikeB s p = true ↔ ∀ j, j < s → bitN p j = bitN p 0 := by
  have h2 : 0 < 2 ^ s := Nat.pow_pos (by decide)
  have h0 : ∀ j, bitN 0 j = false := fun j => by simp [bitN]
  have h1 : ∀ j, j < s → bitN (2 ^ s - 1) j = true := fun j hj => by simp [bitN, hj]
  constructor
  · intro h j hj
    unfold alikeB at h
    rw [Bool.or_eq_true, beq_iff_eq, beq_iff_eq] at h
    rcases h with rfl | rfl
    · rw [h0, h0]
    · rw [h1 j hj, h1 0 hs]
  · intro h
    unfold alikeB
    rw [Bool.or_eq_true, beq_iff_eq, beq_iff_eq]
    cases hv : bitN p 0 with
    | false => exact .inl (bits_eqT hp h2 fun j hj => by rw [h j hj, hv, h0])
    | true => exact .inr (bits_eqT hp (by omega) fun j hj => by rw [h j hj, hv, h1 j hj])
theorem leastT {P : Nat → Prop} (n : Nat) (h : P n) : ∃ o, o ≤ n ∧ P o ∧ ∀ i, i < o → ¬ P i := by
  induction n using Nat.strongRecOn with
  | ind n ih =>
    by_cases hex : ∃ i, i < n ∧ P i
    · obtain ⟨i, hi, hP⟩ := hex
      obtain ⟨o, h1, h2, h3⟩ := ih i hi hP
      exact ⟨o, by omega, h2, h3⟩
    · exact ⟨n, Nat.le_refl _, h, fun i hi hP => hex ⟨i, hi, hP⟩⟩
theorem mod_shiftT (s a b : Nat) : (a % s + b) % s = (a + b) % s := by rw [Nat.mod_add_mod]
/-- a run of a ring that is long enough, just if there is a window -/
theorem run_iffT {s p k : Nat} (v : Bool) (hs : 0 < s) (hs2 : s ≤ 1000) (hp : p < 2 ^ s) (hk : 1 ≤ k) :
    (∃ r, r ∈ runsOf s p ∧ r.lifted = v ∧ k ≤ r.length) ↔ (k ≤ 1000 ∧ RunT (ringT s p) v k) := by
  by_cases ha : alikeB s p = true
  · have hal := (alike_iffT hs hp).1 ha
    have e : runsOf s p = [⟨0, 1000, bitN p 0⟩] := by unfold runsOf; rw [if_pos ha]
    rw [e]
    constructor
    · rintro ⟨r, hr, h1, h2⟩
      simp at hr
      subst hr
      exact ⟨h2, 0, fun j _ => by unfold ringT; rw [hal _ (Nat.mod_lt _ hs)]; exact h1⟩
    · rintro ⟨h1, f, hf⟩
      refine ⟨_, List.mem_singleton.2 rfl, ?_, h1⟩
      have := hf 0 hk
      unfold ringT at this
      rw [hal _ (Nat.mod_lt _ hs)] at this
      exact this
  · have e : runsOf s p = runsTo s p s := by unfold runsOf; rw [if_neg ha]
    rw [e]
    constructor
    · rintro ⟨r, hr, h1, h2⟩
      obtain ⟨q1, q2, q3⟩ := runsTo_mem hr
      obtain ⟨⟨_, l2⟩, l3, _⟩ := lenF_spec hs q2 q1
      have hlen : r.length = lenF s p r.first := by rw [q3]
      have hlif : r.lifted = bitN p r.first := by rw [q3]
      refine ⟨by omega, r.first, fun j hj => ?_⟩
      unfold ringT
      by_cases h0 : j = 0
      · subst h0
        rw [Nat.add_zero, Nat.mod_eq_of_lt q1, ← hlif]; exact h1
      · rw [l3 j (by omega) (by omega), ← hlif]; exact h1
    · rintro ⟨_, f, hf⟩
      have hex : ∃ x, x < s ∧ bitN p x ≠ v := by
        refine Classical.byContradiction fun hne => ha ((alike_iffT hs hp).2 fun j hj => ?_)
        have hall : ∀ x, x < s → bitN p x = v := fun x hx => Classical.byContradiction fun h => hne ⟨x, hx, h⟩
        rw [hall j hj, hall 0 hs]
      obtain ⟨x, hx, hxv⟩ := hex
      -- walk back from the window
      have hP : ∃ t, ringT s p (f + s * (f + 1 + s) - 1 - t) ≠ v ∧ t < s := by
        let F := f + s * (f + 1 + s) - 1
        have hF : s * (f + 1 + s) ≥ s := Nat.le_mul_of_pos_right _ (by omega)
        by_cases h : x ≤ F % s
        · refine ⟨F % s - x, ?_, by have := Nat.mod_lt F hs; omega⟩
          have e1 : F - (F % s - x) = s * (F / s) + x := by have := Nat.div_add_mod F s; omega
          show ringT s p (F - (F % s - x)) ≠ v
          rw [e1]
          unfold ringT
          rw [Nat.mul_add_mod, Nat.mod_eq_of_lt hx]
          exact hxv
        · have hFs : s ≤ F := by
            have : s * (f + 1 + s) ≥ s + 1 := by
              have h3 : s * (f + 1 + s) = s * (f + s) + s := by rw [show f + 1 + s = (f + s) + 1 by omega, Nat.mul_succ]
              have h4 : s * (f + s) ≥ 1 := Nat.mul_pos hs (by omega)
              omega
            show s ≤ f + s * (f + 1 + s) - 1
            omega
          have hd : 1 ≤ F / s := (Nat.le_div_iff_mul_le hs).2 (by omega)
          refine ⟨F % s + s - x, ?_, by have := Nat.mod_lt F hs; omega⟩
          have h3 : s * (F / s) = s * (F / s - 1) + s := by rw [← Nat.mul_succ]; congr 1; omega
          have e1 : F - (F % s + s - x) = s * (F / s - 1) + x := by have := Nat.div_add_mod F s; omega
          show ringT s p (F - (F % s + s - x)) ≠ v
          rw [e1]
          unfold ringT
          rw [Nat.mul_add_mod, Nat.mod_eq_of_lt hx]
          exact hxv
      have hF : s * (f + 1 + s) ≥ s + 1 := by
        have h3 : s * (f + 1 + s) = s * (f + s) + s := by rw [show f + 1 + s = (f + s) + 1 by omega, Nat.mul_succ]
        have h4 : s * (f + s) ≥ 1 := Nat.mul_pos hs (by omega)
        omega
      have hXm : ∀ y, ringT s p (s * (f + 1 + s) + y) = ringT s p y := fun y => by unfold ringT; rw [Nat.mul_add_mod]
      obtain ⟨X, hX⟩ : ∃ X, s * (f + 1 + s) = X := ⟨_, rfl⟩
      rw [hX] at hP hF hXm
      clear hX
      obtain ⟨t0, ht0, hts⟩ := hP
      obtain ⟨t, htle, htv, htm⟩ := leastT (P := fun t => ringT s p (f + X - 1 - t) ≠ v) t0 ht0
      obtain ⟨B, hB⟩ : ∃ B, B = f + X - t := ⟨_, rfl⟩
      have hBs : 1 ≤ B := by omega
      have hBv : ringT s p (B - 1) ≠ v := by rw [hB, show f + X - t - 1 = f + X - 1 - t by omega]; exact htv
      have hrun : ∀ i, i < t + k → ringT s p (B + i) = v := fun i hi => by
        by_cases h : i < t
        · have := htm (t - 1 - i) (by omega)
          rw [Classical.not_not] at this
          have e1 : B + i = f + X - 1 - (t - 1 - i) := by omega
          rw [e1]
          exact this
        · have h1 := hf (i - t) (by omega)
          have e1 : B + i = X + (f + (i - t)) := by omega
          rw [e1, hXm]
          exact h1
      have hb0 : B % s < s := Nat.mod_lt _ hs
      have hv0 : bitN p (B % s) = v := by have := hrun 0 (by omega); unfold ringT at this; simpa using this
      have hbeg : begins s p (B % s) = true := by
        unfold begins
        rw [bne_iff_ne, hv0]
        have e1 : (B % s + s - 1) % s = (B - 1) % s := by
          rw [show B % s + s - 1 = B % s + (s - 1) by omega, mod_shiftT, show B + (s - 1) = (B - 1) + s by omega, Nat.add_mod_right]
        rw [e1]
        exact hBv
      obtain ⟨⟨l1, l2⟩, _, l4⟩ := lenF_spec hs hbeg hb0
      refine ⟨⟨B % s, lenF s p (B % s), bitN p (B % s)⟩, ?_, hv0, ?_⟩
      · unfold runsTo
        rw [List.mem_map]
        exact ⟨B % s, by rw [List.mem_filter]; exact ⟨by simpa using hb0, hbeg⟩, rfl⟩
      · show k ≤ lenF s p (B % s)
        refine Classical.byContradiction fun h => ?_
        have := hrun (lenF s p (B % s)) (by omega)
        unfold ringT at this
        rw [← mod_shiftT] at this
        exact l4 (this.trans hv0.symm)
end Go.Proofs.Ytdmgffoikebgkaa
/- TopMirrored: its regions that draw their order. -/
namespace Go.Proofs.Ytdmgffoikebgkaa
open Go.RowKit Go.Shelf
attribute [local go_sem] Oper.semAt_some

end Go.Proofs.Ytdmgffoikebgkaa
/- TopMirrored: the walk. -/
namespace Go.Proofs.Ytdmgffoikebgkaa
open Go.RowKit Go.Shelf
attribute [local go_sem] Oper.semAt_some

end Go.Proofs.Ytdmgffoikebgkaa
/- TopBoundCloth: bound rows weave bound picks by a straight tie, and none above Worst by any. -/
namespace Go.Proofs.Ytdmgffoikebgkaa
open Go.RowKit Go.Shelf
attribute [local go_sem] Oper.semAt_some

/-- the other way round -/
def cmpN (n x : Nat) : Nat := rowTo (fun i => !bitN x i) n
theorem cmpN_bit (n x i : Nat) (h : i < n) : bitN (cmpN n x) i = !bitN x i := by unfold cmpN; rw [bit_rowTo, decide_eq_true h, Bool.true_and]
theorem cmp_bound {n x m : Nat} (h : BoundUp x n m) : BoundUp (cmpN n x) n m := fun k hk => by
  obtain ⟨j, hj, hne⟩ := h k hk
  refine ⟨j, hj, ?_⟩
  rw [cmpN_bit n x _ (Nat.mod_lt _ (by omega)), cmpN_bit n x _ hk]
  intro e
  exact hne (Bool.not_inj e)
/-- the hooks of a window -/
theorem winN_bit (hs : List Nat) (f j : Nat) : ∀ l, bitN (winN hs f l) j = true → ∃ t, t < l ∧ aroundN hs ((f : Int) + (t : Int)) = j
  | 0, h => by simp [winN, bitN] at h
  | l + 1, h => by
    unfold bitN at h
    rw [winN, Nat.testBit_or, Bool.or_eq_true] at h
    rcases h with h | h
    · obtain ⟨t, ht, e⟩ := winN_bit hs f j l h
      exact ⟨t, by omega, e⟩
    · rw [Nat.testBit_two_pow] at h
      exact ⟨l, by omega, by simpa using h⟩
theorem upTo_nil {f : Nat → List Fl} {k : Nat} (h : ∀ i, i < k → f i = []) : upTo f k = [] := by
  unfold upTo
  rw [List.flatMap_eq_nil_iff]
  exact fun i hi => h i (by simpa using hi)
theorem flO_nil {hs xs : List Nat} {m i : Nat} (h : ∀ r, r ∈ runsOf hs.length (pickP hs (nthN xs i)) → ¬ m < r.length) : flO hs xs m i = [] := by
  unfold flO flT
  rw [List.filter_eq_nil_iff]
  intro f hf
  rw [List.mem_map] at hf
  obtain ⟨r, hr, rfl⟩ := hf
  intro hlt
  exact h r hr (of_decide_eq_true hlt)
/-- by any tie none is longer than Worst says -/
theorem worst_bound {hs xs : List Nat} {n m lo row L : Nat} (hR : WoR hs n m hs.length lo row) (hn : 1 ≤ n) (hk : ∀ i, i < hs.length → nthN hs i < n) (h0 : 0 < hs.length) (h1 : hs.length ≤ 1000)
    (h : ∀ i, i < L → nthN xs i < 2 ^ n ∧ BoundUp (nthN xs i) n m) : upTo (flO hs xs (if lo = hs.length then 1000 else lo)) L = [] := by
  refine upTo_nil fun i hi => flO_nil fun r hr hlt => ?_
  have hrun : ∀ k, 1 ≤ k → k ≤ r.length → _ := fun k hk1 hk2 => (run_iffT (k := k) r.lifted h0 h1 (rowTo_lt (fun a => bitN (nthN xs i) (nthN hs a)) hs.length) hk1).1 ⟨r, hr, rfl, hk2⟩
  by_cases hl : lo = hs.length
  · rw [if_pos hl] at hlt
    have := (hrun r.length (by omega) (Nat.le_refl _)).1
    omega
  · rw [if_neg hl] at hlt
    have hlo := hR.le
    obtain ⟨_, f, hf⟩ := hrun (lo + 1) (by omega) hlt
    have hfl := Nat.mod_lt f h0
    refine hR.no (f % hs.length) hfl (by omega) ?_
    have hb : ∀ t, t < lo + 1 → bitN (nthN xs i) (aroundN hs (((f % hs.length : Nat) : Int) + (t : Int))) = r.lifted := fun t ht => by
      have h2 := hf t ht
      unfold ringT at h2
      have h3 : (f + t) % hs.length < hs.length := Nat.mod_lt _ h0
      have h4 := pickP_bit hs (nthN xs i) _ h3
      unfold pickP at h4
      rw [h4] at h2
      unfold aroundN
      have e : (((f % hs.length : Nat) : Int) + (t : Int) + (hs.length : Int)).toNat = f % hs.length + t + hs.length := by omega
      rw [e, Nat.add_mod_right, Nat.mod_add_mod]
      exact h2
    obtain ⟨hx, hbd⟩ := h i hi
    cases hv : r.lifted with
    | true =>
      refine ⟨_, hx, hbd, fun j hj hq => ?_⟩
      obtain ⟨t, ht, e⟩ := winN_bit _ _ _ _ hq
      rw [← e, hb t ht, hv]
    | false =>
      refine ⟨cmpN n (nthN xs i), rowTo_lt _ n, cmp_bound hbd, fun j hj hq => ?_⟩
      obtain ⟨t, ht, e⟩ := winN_bit _ _ _ _ hq
      rw [cmpN_bit n _ _ hj, ← e, hb t ht, hv]; rfl
end Go.Proofs.Ytdmgffoikebgkaa
/- TopBoundCloth: the contracts that its walk uses. -/
namespace Go.Proofs.Ytdmgffoikebgkaa
open Go.RowKit Go.Shelf
attribute [local go_sem] Oper.semAt_some

theorem call39m (n T L b c b2 c2 m : Nat) (hs xs : List Nat) (W : World) (hT : hs.length = T) (hL : xs.length = L) (hm : m ≤ 1000) (hF : upTo (flO hs xs m) L = []) (hv : TAt W b 0 n hs) (hx : VAt W b2 0 c2 n xs) :
    Calls Try.prog 39 #[.agg #[.int .i64 (n : Int), .slice (some ⟨b, 0, none⟩) T c], .agg #[.int .i64 (n : Int), .slice (some ⟨b2, 0, none⟩) L c2], .int .i64 (m : Int)] W fun e w' =>
      ∃ p cap, e = .returned (.tuple #[.slice p 0 cap, .int .i64 0]) ∧ Below W.heap.size W w' := by
  subst hT hL
  refine (tieFloats_ok n b 0 c b2 0 c2 m hs xs W hv hx hm).mono ?_
  rintro e w' ⟨v, rfl, h1, h2⟩
  rw [hF] at h1
  obtain ⟨p, cap, rfl, _⟩ := Fls.of_row (fs := []) h1
  exact ⟨p, cap, rfl, h2⟩
end Go.Proofs.Ytdmgffoikebgkaa
/- TieThreads: its regions that draw their order. -/
namespace Go.Proofs.Ytdmgffoikebgkaa
open Go.RowKit Go.Shelf
attribute [local go_sem] Oper.semAt_some

/-- the strings of a cloth -/
structure ClS (ss : List ByteArray) (n : Nat) (ps : List Nat) : Prop where
  len : ss.length = ps.length
  str : ∀ i, i < ps.length → StrB (nthB ss i) n (nthN ps i)
theorem ClS.at {ss : List ByteArray} {n : Nat} {ps : List Nat} {W : World} {b : Nat} (h : ClS ss n ps) (hx : StrsAt W b 0 ss) (hb : b < W.heap.size) : ClAt W b 0 n ps :=
  ⟨fun i hi => ⟨_, h.str i hi, hx i (by rw [h.len]; exact hi)⟩, hb⟩
theorem tat_of {W : World} {N T b : Nat} {HS : List Nat} (hT : HS.length = T) (hT0 : 1 ≤ T) (hT1 : T ≤ 96) (hN0 : 1 ≤ N) (hN1 : N ≤ 24) (hk : ∀ i, i < T → nthN HS i < N) (h1 : NatsAt W b 0 HS) (h2 : b < W.heap.size) : TAt W b 0 N HS := by
  subst hT
  exact ⟨h1, h2, hN0, hN1, hT0, hT1, hk⟩
end Go.Proofs.Ytdmgffoikebgkaa
/- TieThreads: its mathematics. -/
namespace Go.Proofs.Ytdmgffoikebgkaa
open Go.RowKit Go.Shelf
attribute [local go_sem] Oper.semAt_some

theorem cloth_ClS (hs xs : List Nat) (h0 : 1 ≤ hs.length) (h1 : hs.length ≤ 96) : ClS (clothS hs xs) hs.length (pks hs xs) := by
  refine ⟨by rw [clothS_len, pks_len], fun i hi => ?_⟩
  rw [pks_len] at hi
  rw [clothS_nth _ _ _ hi, pks_nth _ _ hi]
  exact pick_strB hs _ h0 h1
end Go.Proofs.Ytdmgffoikebgkaa
/- TieThreads, TieFew, TieBound: what lies in memory. -/
namespace Go.Proofs.Ytdmgffoikebgkaa
open Go.RowKit Go.Shelf
attribute [local go_sem] Oper.semAt_some

theorem hsTo_nthT (n : Nat) (ws : List Nat) (k i : Nat) (hn : 1 ≤ n) (hi : i < k) : nthN (hsTo n ws k) i < n := by
  rw [nthN_get _ _ (by rw [hsTo_len]; exact hi)]
  simp only [hsTo, List.getElem_map, List.getElem_range, hsG]
  split
  · exact Nat.mod_lt _ (by omega)
  · omega
end Go.Proofs.Ytdmgffoikebgkaa
/- Arguments that come in: a loom of chapter 3, an array of two bytes. -/
namespace Go.Proofs.Ytdmgffoikebgkaa
open Go.ChangeShapes Go.WideShapes Go.ChangeAt Go.RowKit Go.Joins

set_option maxRecDepth 100000 in
/-- a loom of chapter 3 that came in -/
theorem lom_open {Ty : Type} {enc : TypeId × Value → Ty} {W : World} {v : Value} {d : DataW Ty} {p : List MemPlace} (hv : Value.okWide Try.prog W .any 0 92 v) (h : DataW.Trod enc Try.prog W 0 (fun _ => true) true 92 v d p) :
    ∃ (H : Nat) (p1 p2 : Option Addr) (c1 c2 : Nat) (ws rs : List Nat), v = .agg (lomA H p1 p2 ws.length c1 rs.length c2) ∧ H < 256 ∧ ByteRow W p1 ws ∧ WordRow W p2 rs ∧
      ws.length ≤ 9223372036854775807 ∧ rs.length ≤ 9223372036854775807 := by
  obtain ⟨k0, k1, k2, y0, y1, y2, m, rfl, rfl, rfl, h0, h1, h2⟩ := open_agg3 Try.underlying92 (by kernel_rfl) (by kernel_rfl) hv h
  obtain ⟨a, e0, rfl, wa⟩ := DataW.trod_int Try.underlying5 h0
  simp at e0
  subst e0
  obtain ⟨H, rfl, hH⟩ := u8_of wa
  obtain ⟨p1, c1, ws, rfl, hw1, hl1⟩ := u8s_of_trod h1
  obtain ⟨p2, c2, rs, rfl, hw2, hl2⟩ := u16s_of_trod h2
  exact ⟨H, p1, p2, c1, c2, ws, rs, rfl, hH, hw1, hw2, hl1, hl2⟩

end Go.Proofs.Ytdmgffoikebgkaa
