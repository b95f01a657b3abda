/- the walk of paint. -/
import Derived.Test.YtjobbleabepaiaaWK
namespace Go.Proofs.Ytjobbleabepaiaa
open Go.RowKit Go.Shelf

/-- what a condition on points owes -/
def Cond (f : FuncId) (lb : Array Value) (np nh : Nat) (g : Nat → Nat → Bool) (w : World) : Prop :=
  ∀ (W : World) (i j : Nat), Below w.heap.size w W → i < np → j < nh →
    Calls Try.prog f (#[.int .i64 (i : Int), .int .i64 (j : Int)] ++ lb) W fun e W' => e = .returned (.bool (g i j)) ∧ Below W.heap.size W W'
/-- an unwritten result of a design -/
def ResBox (W : World) (B : Nat) : Prop := W.heap[B]? = some (.cells #[.int .i64 0, .slice none 0 0] 24 (0, 0))
theorem ResBox.lt {W : World} {B : Nat} (h : ResBox W B) : B < W.heap.size := (Array.getElem?_eq_some_iff.1 h).1
theorem ResBox.c0 {W : World} {B : Nat} (h : ResBox W B) : W.cell? ⟨B, 0, none⟩ = some (.int .i64 0) := by simp [World.cell?, show W.heap[B]? = _ from h]
theorem ResBox.c1 {W : World} {B : Nat} (h : ResBox W B) : W.cell? ⟨B, 1, none⟩ = some (.slice none 0 0) := by simp [World.cell?, show W.heap[B]? = _ from h]
theorem ResBox.f {W : World} {B : Nat} (h : ResBox W B) (j : Nat) : W.frozen? ⟨B, j, none⟩ = false := by simp [World.frozen?, show W.heap[B]? = _ from h]
theorem ResBox.new (W : World) : ResBox (W.alloc (.cells #[.int .i64 0, .slice none 0 0] 24)) W.heap.size := World.alloc_heap_new W _
theorem ResBox.below {W W' : World} {B n : Nat} (h : ResBox W B) (hb : Below n W W') (hn : B < n) : ResBox W' B := (hb.block B hn).trans h
theorem ResBox.set {W : World} {B : Nat} (h : ResBox W B) (a : Addr) (v : Value) (ha : B ≠ a.block) : ResBox (W.setCell a v) B := (Below.heap_setCell W a v B ha).trans h
theorem or_step (x j : Nat) (hx : x < 16777216) (hj : j < 24) : bits .or .i64 (x : Int) (2 ^ j) = ((x ||| 2 ^ j : Nat) : Int) := by
  have h2 : (2 : Nat) ^ j ≤ 16777216 := Nat.le_trans (Nat.pow_le_pow_right (by decide) (show j ≤ 24 by omega)) (by decide)
  rw [← i64_or_nat x (2 ^ j) (by omega) (by omega), Int.natCast_pow]
  rfl

set_option maxRecDepth 100000 in
set_option maxHeartbeats 2000000 in
theorem paint_any (f : FuncId) (lb : Array Value) (eg : Enters Try.prog f) (np nh : Nat) (g : Nat → Nat → Bool) (w : World) (hp : np ≤ 60) (hn : nh ≤ 24) (hg : Cond f lb np nh g w) :
    Calls Try.prog 77 #[.int .i64 (np : Int), .int .i64 (nh : Int), .func (.func f) #[] lb] w
      fun e w' => ∃ R, e = .returned (.agg #[.int .i64 (nh : Int), .slice (some ⟨R, 0, none⟩) np np]) ∧ w.heap.size ≤ R ∧ NatBlk w' R (painted g np nh) ∧ Below w.heap.size w w' := by
  have hmk := run_make_row' (P := Try.prog) 22 3 (.int .i64 0) 8 Try.underlying22 Try.info3 rfl .i64 .i64 np (by omega) (by omega)
  have Hg := Lib.hid hg
  clear hg
  unfold Enters at eg
  go_enter Try.func77, Try.ntmps77
  go_wp2
  go_loopw [13] (fun i wr => ∃ k : Nat, k ≤ np ∧ i = .int .i64 k ∧ ResBox wr w.heap.size ∧ NatBlk wr (w.heap.size + 1) (paintAt g np nh k 0) ∧ Below w.heap.size w wr) (fun i _ => np - (intOf i).toNat)
  case atStart =>
    refine ⟨0, Nat.zero_le _, rfl, (ResBox.new w).below ((Below.refl (w.heap.size + 1) _).alloc (by simp) _) (by omega), ?_, ((Below.refl _ _).alloc (Nat.le_refl _) _).alloc (by simp) _⟩
    rw [paintAt_zero]
    have := NatBlk.made (w.alloc (.cells #[.int .i64 0, .slice none 0 0] 24)) np
    rwa [World.size_alloc] at this
  case round =>
    obtain ⟨k, hk, rfl, hQ, hR, hB⟩ := hrel
    by_cases hlt : k < np
    · obtain ⟨wo, rfl⟩ : ∃ wo : World, wo = wr := ⟨_, rfl⟩
      have HQ := Lib.hid hQ
      have HR := Lib.hid hR
      have HB := Lib.hid hB
      clear hQ hR hB
      go_wp2
      go_loopw [17] (fun j wr => ∃ l : Nat, l ≤ nh ∧ j = .int .i64 l ∧ ResBox wr w.heap.size ∧ NatBlk wr (w.heap.size + 1) (paintAt g np nh k l) ∧ Below w.heap.size w wr) (fun j _ => nh - (intOf j).toNat)
      case atStart => exact ⟨0, Nat.zero_le _, rfl, HQ.out, HR.out, HB.out⟩
      case round =>
        obtain ⟨l, hl, rfl, hQ, hR, hB⟩ := hrel
        have HQ2 := Lib.hid hQ
        have HR2 := Lib.hid hR
        have HB2 := Lib.hid hB
        clear hQ hR hB
        by_cases hlt2 : l < nh
        · have hgc := Hg.out wr k l HB2.out hlt hlt2
          cases hgv : g k l with
          | false =>
            rw [hgv] at hgc
            have Hst := Lib.hid (paintAt_skip g np nh k l hgv)
            have Hgc := Lib.hid hgc
            clear hgc hgv
            go_wp2_with fail
            refine Hgc.out.mono ?_
            rintro e w3 ⟨rfl, hb3⟩
            go_wp2
            go_roundw
            case rel => exact ⟨l + 1, by omega, by go_num, HQ2.out.below hb3 HQ2.out.lt, by rw [Hst.out]; exact HR2.out.below hb3 HR2.out.lt, HB2.out.trans (hb3.mono HB2.out.size)⟩
            case measure => simp [intOf]; omega
          | true =>
            rw [hgv] at hgc
            have Hst := Lib.hid (paintAt_set g np nh k l hgv)
            have Hgc := Lib.hid hgc
            have hlo := rowTo_lt (g k) l
            have hlo2 : rowTo (g k) l < 16777216 := Nat.lt_of_lt_of_le hlo (Nat.le_trans (Nat.pow_le_pow_right (by decide) (show l ≤ 24 by omega)) (by decide))
            have Hor := Lib.hid (or_step (rowTo (g k) l) l hlo2 (by omega))
            have hnt := paintAt_nth g np nh k l hlt
            clear hgc hgv hlo
            go_wp2_with fail
            refine Hgc.out.mono ?_
            rintro e w3 ⟨rfl, hb3⟩
            have HR3 := Lib.hid (HR2.out.below hb3 HR2.out.lt)
            have HQ3 := Lib.hid (HQ2.out.below hb3 HQ2.out.lt)
            have hc3 := HR3.out.cell (i := k) (by rw [paintAt_len]; exact hlt)
            have hf3 := HR3.out.frozen k
            rw [hnt] at hc3
            clear hnt
            have hk0 : (0 : Int) ≤ (k : Int) := by omega
            have hk1 : (k : Int) < (np : Int) := by omega
            obtain ⟨hp1, hp2⟩ := pow_bds l (by omega)
            have hw : IntKind.i64.wrap (2 ^ l) = 2 ^ l := IntWalk.i64_in _ (by omega)
            go_wp2
            go_region
            go_wp2
            go_roundw
            case rel =>
              refine ⟨l + 1, by omega, by go_num, ?_, ?_, ?_⟩
              · exact HQ3.out.set _ _ (by simp)
              · rw [Hor.out, ← Hst.out]
                exact HR3.out.set k _ (by rw [paintAt_len]; exact hlt)
              · exact ((HB2.out.trans (hb3.mono HB2.out.size)).setCell (by simp) _).drew
            case measure => simp [intOf]; omega
        · obtain rfl : l = nh := by omega
          go_wp2
          go_roundw
          case rel => exact ⟨k + 1, by omega, by go_num, HQ2.out, by rw [paintAt_next]; exact HR2.out, HB2.out⟩
          case measure => simp [intOf]; omega
    · obtain rfl : k = np := by omega
      have h0 := hQ.c0
      have h1 := hQ.c1
      have h2 := hQ.f 0
      have h3 := hQ.f 1
      have HQ := Lib.hid hQ
      have HR := Lib.hid hR
      have HB := Lib.hid hB
      clear hQ hR hB
      go_wp2
      refine bodyPost_ret (v := .agg #[.int .i64 (nh : Int), .slice (some ⟨w.heap.size + 1, 0, none⟩) k k]) ?_ rfl ⟨_, rfl, by omega, ?_, ?_⟩
      · simp [results, Try.results77, go_sem, h0, h1]
      · rw [← paintAt_end]
        exact (Below.heap_setCell _ _ _ _ (by simp)).trans ((Below.heap_setCell _ _ _ _ (by simp)).trans HR.out)
      · exact (HB.out.setCell (by simp) _).setCell (by simp) _
end Go.Proofs.Ytjobbleabepaiaa
