/- The runs of a ring, as an iterator. -/
import Derived.Test.YtdmgffoikebgkaaSeq
import Derived.Test.YtdmgffoikebgkaaWB
namespace Go.Proofs.Ytdmgffoikebgkaa
open Go.RowKit Go.Shelf
attribute [local go_sem] Oper.semAt_some

/-- a run: its first point, its length, whether it is lifted -/
structure Run where
  first : Nat
  length : Nat
  lifted : Bool
deriving DecidableEq
def Run.enc (r : Run) : Value := .agg #[.int .i64 (r.first : Int), .int .i64 (r.length : Int), .bool r.lifted]
/-- does a run begin at a place? -/
def begins (s p k : Nat) : Bool := bitN p ((k + s - 1) % s) != bitN p k
def runsTo (s p k : Nat) : List Run := ((List.range k).filter (begins s p)).map fun i => ⟨i, lenF s p i, bitN p i⟩
def runsOf (s p : Nat) : List Run := if alikeB s p then [⟨0, 1000, bitN p 0⟩] else runsTo s p s
theorem runsTo_yes {s p k : Nat} (h : begins s p k = true) : runsTo s p (k + 1) = runsTo s p k ++ [⟨k, lenF s p k, bitN p k⟩] := by
  simp [runsTo, List.range_succ, List.filter_append, h]
theorem runsTo_no {s p k : Nat} (h : begins s p k = false) : runsTo s p (k + 1) = runsTo s p k := by
  simp [runsTo, List.range_succ, List.filter_append, h]
theorem runsTo_pre {s p k m : Nat} (h : k ≤ m) : runsTo s p k <+: runsTo s p m := by
  induction h with
  | refl => exact List.prefix_refl _
  | step h ih =>
    refine ih.trans ?_
    cases hb : begins s p _ with
    | true => rw [runsTo_yes hb]; exact List.prefix_append _ _
    | false => rw [runsTo_no hb]; exact List.prefix_refl _
theorem lenG_spec (s p f : Nat) : ∀ (fuel n : Nat), (∃ m, n ≤ m ∧ m < n + fuel ∧ bitN p ((f + m) % s) ≠ bitN p f) →
    n ≤ lenG s p f fuel n ∧ lenG s p f fuel n < n + fuel ∧ (∀ i, n ≤ i → i < lenG s p f fuel n → bitN p ((f + i) % s) = bitN p f) ∧ bitN p ((f + lenG s p f fuel n) % s) ≠ bitN p f
  | 0, n, ⟨m, h1, h2, _⟩ => by omega
  | fuel + 1, n, ⟨m, h1, h2, h3⟩ => by
    by_cases h : bitN p ((f + n) % s) = bitN p f
    · have e : lenG s p f (fuel + 1) n = lenG s p f fuel (n + 1) := by simp [lenG, h]
      have hm : m ≠ n := by rintro rfl; exact h3 h
      obtain ⟨a, b, c, d⟩ := lenG_spec s p f fuel (n + 1) ⟨m, by omega, by omega, h3⟩
      rw [e]
      refine ⟨by omega, by omega, fun i hi hi2 => ?_, d⟩
      by_cases hin : i = n
      · subst hin; exact h
      · exact c i (by omega) hi2
    · have e : lenG s p f (fuel + 1) n = n := by simp [lenG, h]
      rw [e]
      exact ⟨Nat.le_refl _, by omega, fun i hi hi2 => by omega, h⟩
theorem lenF_spec {s p f : Nat} (hs : 0 < s) (h : begins s p f = true) (hf : f < s) :
    (1 ≤ lenF s p f ∧ lenF s p f < s) ∧ (∀ n, 1 ≤ n → n < lenF s p f → bitN p ((f + n) % s) = bitN p f) ∧ bitN p ((f + lenF s p f) % s) ≠ bitN p f := by
  have hne : bitN p ((f + s - 1) % s) ≠ bitN p f := by simpa [begins] using h
  have h2 : 2 ≤ s := by
    by_cases h1 : s = 1
    · subst h1; obtain rfl : f = 0 := by omega
      simp at hne
    · omega
  obtain ⟨a, b, c, d⟩ := lenG_spec s p f (s - 1) 1 ⟨s - 1, by omega, by omega, by rw [← Nat.add_sub_assoc (by omega)]; exact hne⟩
  exact ⟨⟨a, by unfold lenF; omega⟩, c, d⟩
/-- what the iterator sees between two rounds -/
structure RunsAt (size s p : Nat) (w : World) : Prop where
  c1 : w.cell? ⟨size, 0, none⟩ = some (.int .i64 (s : Int))
  c2 : w.cell? ⟨size, 1, none⟩ = some (.int .i64 (p : Int))
theorem RunsAt.lt {size s p : Nat} {w : World} (h : RunsAt size s p w) : size < w.heap.size := World.block_lt_of_cell? w ⟨size, 0, none⟩ h.c1
theorem RunsAt.next {size s p : Nat} {w w' : World} (h : RunsAt size s p w) (hb : Below w.heap.size w w') : RunsAt size s p w' :=
  ⟨(hb.cell (p := ⟨size, 0, none⟩) h.lt).trans h.c1, (hb.cell (p := ⟨size, 1, none⟩) h.lt).trans h.c2⟩
theorem RunsAt.keep {size s p : Nat} {w w' : World} (h : RunsAt size s p w) (hc : ∀ j, w'.cell? ⟨size, j, none⟩ = w.cell? ⟨size, j, none⟩) : RunsAt size s p w' :=
  ⟨(hc 0).trans h.c1, (hc 1).trans h.c2⟩
theorem below_drew1 (w : World) : Below w.heap.size w w.drew := (Below.refl _ w).drew

set_option maxHeartbeats 1000000 in
theorem runs_iter (s p n size : Nat) (hs0 : 0 < s) (hs : s ≤ 60) (hp : p < 9223372036854775808) :
    Iter Try.prog n (n - 1) 191 #[.agg #[.int .i64 (s : Int), .int .i64 (p : Int)]] (fun r : Run => #[r.enc]) (runsOf s p) size := by
  intro l J W hW hJ hY h0
  subst hW
  refine callsIn_of_wp Try.func191 rfl trivial ?_ rfl
  simp only [Try.ntmps191, List.size_toArray, List.length_cons, List.length_nil, Nat.reduceAdd, Nat.reduceSub, Array.replicate_succ, Array.replicate_zero, List.push_toArray, List.append_toArray, List.nil_append, List.cons_append]
  have hR0 : RunsAt W.heap.size s p (W.alloc (.cells #[.int .i64 (s : Int), .int .i64 (p : Int)] 189)) := ⟨by simp, by simp⟩
  have hJ0 : J [] (W.alloc (.cells #[.int .i64 (s : Int), .int .i64 (p : Int)] 189)) := hJ _ _ _ h0 ((Below.refl _ _).alloc (Nat.le_refl _) _)
  cases ha : alikeB s p with
  | true =>
    have hxs : runsOf s p = [⟨0, 1000, bitN p 0⟩] := by simp [runsOf, ha]
    rw [hxs] at hY ⊢
    have hal := fun w => ha ▸ alike_any s p w hs
    clear ha
    gi_wp2_with fail
    refine wideCall (hal _) ?_
    rintro e W1 ⟨rfl, hb1⟩
    have hR1 := hR0.next hb1; have hc1 := hR1.c1; have hc2 := hR1.c2; have hJ1 := hJ _ _ _ hJ0 hb1
    gi_wp2_with fail
    refine wideCall (ringLifted_any s p 0 _ hp (by omega)) ?_
    rintro e W2 ⟨rfl, hb2⟩
    have hJ2 := hJ _ _ _ hJ1 hb2
    obtain ⟨fn, tmps, assign, body, hy, hR⟩ := hY [] ⟨0, 1000, bitN p 0⟩ W2 hJ2 (by simp) (hR1.next hb2).lt
    have hy : (Instr.yield l #[.agg #[.int .i64 0, .int .i64 1000, .bool (bitN p 0)]]).run Try.prog W2 = .ok (.round l fn tmps assign body) W2 := hy
    gi_wp2
    refine ⟨fun h => by simp [Fence.wide] at h, hR.mono ?_⟩
    rintro e W3 ⟨rfl, hJ3, hz3, hk3⟩
    gi_wp2
    refine bodyPost_ret (results_none rfl _ _ _) rfl ?_
    exact ⟨⟨_, rfl⟩, hJ3⟩
  | false =>
    have hxs : runsOf s p = runsTo s p s := by simp [runsOf, ha]
    rw [hxs] at hY ⊢
    have hal := fun w => ha ▸ alike_any s p w hs
    clear ha
    gi_wp2_with fail
    refine wideCall (hal _) ?_
    rintro e W1 ⟨rfl, hb1⟩
    have hR1 := hR0.next hb1; have hc1 := hR1.c1; have hc2 := hR1.c2; have hJ1 := hJ _ _ _ hJ0 hb1
    gi_wp2_with fail
    gi_loopw [4, 5, 15] (fun _ _ i wr => ∃ k : Nat, k ≤ s ∧ i = .int .i64 k ∧ RunsAt W.heap.size s p wr ∧ J (runsTo s p k) wr) (fun _ _ i _ => s - (intOf i).toNat)
    case atStart => exact ⟨0, Nat.zero_le _, rfl, hR1, by simpa [runsTo] using hJ1⟩
    case round =>
      obtain ⟨k, hk, rfl, hR2, hJ2⟩ := hrel
      have hd1 := hR2.c1
      have hd2 := hR2.c2
      have hmx : Try.prog.follows .mixedOrders = true := by kernel_rfl
      by_cases hlt : k < s
      · have hs0' : ¬ s = 0 := by omega
        have hR2d : RunsAt W.heap.size s p wr.drew := ⟨hd1, hd2⟩
        have hJ2d : J (runsTo s p k) wr.drew := hJ _ _ _ hJ2 (below_drew1 _)
        have hz0 : 0 ≤ ((k : Int) + s - 1) % s := Int.emod_nonneg _ (by omega)
        have hz1 : ((k : Int) + s - 1) % s < 64 := by have := Int.emod_lt_of_pos ((k : Int) + s - 1) (show (0 : Int) < s by omega); omega
        have hk0 : (0 : Int) ≤ (k : Int) := by omega
        have hk1 : (k : Int) < 64 := by omega
        have het : (((k : Int) + s - 1) % s).toNat = (k + s - 1) % s := by
          rw [show (k : Int) + s - 1 = ((k + s - 1 : Nat) : Int) by omega, ← Int.natCast_emod, Int.toNat_natCast]
        cases hbg : begins s p k with
        | false =>
          have ht : (bitN p (((k : Int) + s - 1) % s).toNat == bitN p k) = true := by rw [het]; simpa [begins] using hbg
          have Hst := Lib.hid (runsTo_no hbg)
          clear het hbg
          gi_wp2_with fail
          gi_region_with_o (refine wideCall (ringLifted_int s p _ _ hp ?_ ?_) ?_; rotate_left 2; (rintro e W4 ⟨rfl, hb4⟩; have hR4 := RunsAt.next (by assumption) hb4; have hd41 := hR4.c1; have hd42 := hR4.c2; have hJ4 := hJ _ _ _ (by assumption) hb4); rotate_left 1; assumption; assumption)
          all_goals gi_wp2
          all_goals go_roundw
          all_goals first | (simp [intOf]; omega) | exact ⟨k + 1, by omega, by go_num, by assumption, by rw [Hst.out]; assumption⟩
        | true =>
          have ht : (bitN p (((k : Int) + s - 1) % s).toNat == bitN p k) = false := by rw [het]; simpa [begins] using hbg
          have Hst := Lib.hid (runsTo_yes hbg)
          have hpre : (runsTo s p k ++ [⟨k, lenF s p k, bitN p k⟩]) <+: runsTo s p s := by rw [← runsTo_yes hbg]; exact runsTo_pre (by omega)
          obtain ⟨hl1, hl2, hl3⟩ := lenF_spec hs0 hbg hlt
          have HL := fun w => length_any s p k (lenF s p k) w hs hlt hp hl1 hl2 hl3
          have HP := fun w => ringLifted_any s p k w hp (by omega)
          clear het hbg hl1 hl2 hl3
          gi_wp2_with fail
          gi_region_with_o (refine wideCall (ringLifted_int s p _ _ hp ?_ ?_) ?_; rotate_left 2; (rintro e W4 ⟨rfl, hb4⟩; have hR4 := RunsAt.next (by assumption) hb4; have hd41 := hR4.c1; have hd42 := hR4.c2; have hJ4 := hJ _ _ _ (by assumption) hb4; have hR4d : RunsAt W.heap.size s p W4.drew := ⟨hR4.c1, hR4.c2⟩; have hJ4d := hJ _ _ _ hJ4 (below_drew1 _)); rotate_left 1; assumption; assumption)
          all_goals gi_wp2_with fail
          all_goals gi_region_with_o (first | ((with_reducible refine wideCall (HL _) ?_); (rintro e W5 ⟨rfl, hb5⟩; have hR5 := RunsAt.next (by assumption) hb5; have hd51 := hR5.c1; have hd52 := hR5.c2; have hJ5 := hJ _ _ _ (by assumption) hb5)) | ((with_reducible refine wideCall (HP _) ?_); (rintro e W6 ⟨rfl, hb6⟩; have hR6 := RunsAt.next (by assumption) hb6; have hd61 := hR6.c1; have hd62 := hR6.c2; have hJ6 := hJ _ _ _ (by assumption) hb6; obtain ⟨fn, tmps, assign, body, hy, hRd⟩ := hY _ ⟨k, lenF s p k, bitN p k⟩ _ hJ6 hpre hR6.lt; simp only [Run.enc] at hy)) | (refine ⟨fun h => by simp [Fence.wide] at h, hRd.mono ?_⟩; (rintro e W7 ⟨rfl, hJ7, hz7, hk7⟩; have hR7 := RunsAt.keep (by assumption) hk7; have hd71 := hR7.c1; have hd72 := hR7.c2)))
          all_goals gi_wp2_with fail
          all_goals go_roundw
          all_goals first | (simp [intOf]; omega) | exact ⟨k + 1, by omega, by go_num, by assumption, by rw [Hst.out]; assumption⟩
      · obtain rfl : k = s := by omega
        gi_wp2
        go_end0
        exact ⟨⟨_, rfl⟩, hJ2⟩
end Go.Proofs.Ytdmgffoikebgkaa
