/- slices.Equal over rows; leastPart; Least. -/
import Derived.Test.YtjobbleabepaiaaWN
import Derived.Test.YtjobbleabepaiaaWX
namespace Go.Proofs.Ytjobbleabepaiaa
open Go.RowKit Go.Shelf

set_option maxHeartbeats 1000000 in
theorem Equal_any (p1 p2 : Option Addr) (c1 c2 : Nat) (xs ys : List Int) (w : World) (hx : Reads w (.slice p1 xs.length c1) xs) (hy : Reads w (.slice p2 ys.length c2) ys) :
    Calls Try.prog 90 #[.slice p1 xs.length c1, .slice p2 ys.length c2] w fun e w' => e = .returned (.bool (decide (xs = ys))) ∧ Below w.heap.size w w' := by
  obtain ⟨q, cx, ex, hxl, hxr⟩ := hx
  obtain ⟨q2, cy, ey, hyl, hyr⟩ := hy
  simp at ex ey
  obtain ⟨rfl, rfl⟩ := ex
  obtain ⟨rfl, rfl⟩ := ey
  have hxl' : xs.length ≤ 17592186044416 := hxl
  have hyl' : ys.length ≤ 17592186044416 := hyl
  clear hxl hyl
  by_cases hl : xs.length = ys.length
  · have Hl := Lib.hid hl
    have hne : ((xs.length : Int) != (ys.length : Int)) = false := by simp [hl]
    have HX := Lib.hid hxr
    have HY := Lib.hid hyr
    clear hl hxr hyr
    go_enter Try.func90, Try.ntmps90
    go_wp2
    go_loopw [13] (fun i wr => ∃ k : Nat, k ≤ xs.length ∧ i = .int .i64 k ∧ (∀ i, i < k → nthI xs i = nthI ys i) ∧ Below w.heap.size w wr) (fun i _ => xs.length - (intOf i).toNat)
    case atStart => exact ⟨0, Nat.zero_le _, rfl, fun i hi => by omega, Below.refl _ _⟩
    case round =>
      obtain ⟨k, hk, rfl, he, hT⟩ := hrel
      have He := Lib.hid he
      have HT := Lib.hid hT
      clear he hT
      by_cases hlt : k < xs.length
      · obtain ⟨b1, o1, rfl, hb1, hi1⟩ := HX.out (by omega)
        obtain ⟨b2, o2, rfl, hb2, hi2⟩ := HY.out (by have := Hl.out; omega)
        have x1 := (hi1.below HT.out hb1) k hlt
        have x2 := (hi2.below HT.out hb2) k (by have := Hl.out; omega)
        have hk0 : (0 : Int) ≤ (k : Int) := by omega
        have hk1 : (k : Int) < (xs.length : Int) := by omega
        have hk2 : (k : Int) < (ys.length : Int) := by have := Hl.out; omega
        by_cases heq : nthI xs k = nthI ys k
        · have hne : (nthI xs k != nthI ys k) = false := by simpa using heq
          have Heq := Lib.hid heq
          clear heq hi1 hi2
          go_wp2
          go_region
          all_goals go_wp2
          all_goals go_roundw
          all_goals first | (simp [intOf]; omega) | skip
          all_goals refine ⟨k + 1, by omega, by go_num, fun i hi => ?_, HT.out.drew⟩
          all_goals by_cases h : i = k
          all_goals first | (rw [h]; exact Heq.out) | exact He.out i (by omega)
        · have hne : (nthI xs k != nthI ys k) = true := by simpa using heq
          have hf : ¬ xs = ys := fun b => heq (by rw [b])
          have Hf := Lib.hid hf
          clear heq hi1 hi2 hf
          go_wp2
          go_region
          all_goals go_wp2
          all_goals go_ret
          all_goals exact ⟨ret_bool (by simp [Hf.out]), HT.out.drew⟩
      · obtain rfl : k = xs.length := by omega
        go_wp2
        go_ret
        exact ⟨ret_bool (by rw [lists_eq xs ys Hl.out He.out]; simp), HT.out⟩
  · have hne : ((xs.length : Int) != (ys.length : Int)) = true := by simp; omega
    have hf : decide (xs = ys) = false := by
      rw [decide_eq_false_iff_not]
      rintro rfl
      exact hl rfl
    have Hf := Lib.hid hf
    clear hl hf hxr hyr
    go_enter Try.func90, Try.ntmps90
    go_wp2
    go_ret
    exact ⟨ret_bool (by rw [Hf.out]), Below.refl _ _⟩

/-- the least divisor of n, from k on, with which something repeats -/
def leastFrom (rep : Nat → Bool) (n : Nat) : Nat → Nat → Nat
  | 0, _ => n
  | fuel + 1, k => if k < n then (if n % k = 0 ∧ rep k = true then k else leastFrom rep n fuel (k + 1)) else n
def leastN (rep : Nat → Bool) (n : Nat) : Nat := leastFrom rep n n 1
/-- no smaller one does -/
def NoneTo (rep : Nat → Bool) (n k : Nat) : Prop := ∀ i, 1 ≤ i → i < k → ¬ (n % i = 0 ∧ rep i = true)
theorem leastFrom_spec (rep : Nat → Bool) (n : Nat) : ∀ (fuel k : Nat), NoneTo rep n k → 1 ≤ k → k ≤ n → n ≤ k + fuel →
    (∀ j, k ≤ j → j < n → NoneTo rep n j → (n % j = 0 ∧ rep j = true) → leastFrom rep n fuel k = j) ∧ (NoneTo rep n n → leastFrom rep n fuel k = n)
  | 0, k, _, _, _, _ => ⟨fun j h1 h2 _ _ => by omega, fun _ => rfl⟩
  | fuel + 1, k, hk, h1, hkn, hf => by
    by_cases hlt : k < n
    · by_cases hr : n % k = 0 ∧ rep k = true
      · have e : leastFrom rep n (fuel + 1) k = k := by simp only [leastFrom, if_pos hlt, if_pos hr]
        rw [e]
        refine ⟨fun j hj hjn hnj _ => ?_, fun hn => absurd hr (hn k h1 hlt)⟩
        by_cases hkj : k = j
        · exact hkj
        · exact absurd hr (hnj k h1 (by omega))
      · have e : leastFrom rep n (fuel + 1) k = leastFrom rep n fuel (k + 1) := by simp only [leastFrom, if_pos hlt, if_neg hr]
        rw [e]
        have hk2 : NoneTo rep n (k + 1) := fun i hi hik => by
          by_cases hik2 : i = k
          · rw [hik2]; exact hr
          · exact hk i hi (by omega)
        obtain ⟨a, b⟩ := leastFrom_spec rep n fuel (k + 1) hk2 (by omega) (by omega) (by omega)
        refine ⟨fun j hj hjn hnj hrj => ?_, b⟩
        by_cases hkj : k = j
        · subst hkj; exact absurd hrj hr
        · exact a j (by omega) hjn hnj hrj
    · have e : leastFrom rep n (fuel + 1) k = n := by simp only [leastFrom, if_neg hlt]
      rw [e]
      exact ⟨fun j hj hjn _ _ => by omega, fun _ => rfl⟩
theorem leastN_at {rep : Nat → Bool} {n j : Nat} (h1 : 1 ≤ j) (hj : j < n) (hn : NoneTo rep n j) (hr : n % j = 0) (hr2 : rep j = true) : leastN rep n = j :=
  (leastFrom_spec rep n n 1 (fun i h1 h2 => by omega) (Nat.le_refl _) (by omega) (by omega)).1 j h1 hj hn ⟨hr, hr2⟩
theorem leastN_end {rep : Nat → Bool} {n : Nat} (h1 : 1 ≤ n) (hn : NoneTo rep n n) : leastN rep n = n :=
  (leastFrom_spec rep n n 1 (fun i h1 h2 => by omega) (Nat.le_refl _) (by omega) (by omega)).2 hn
/-- what the test of a part owes -/
def Test1 (f : FuncId) (lb : Array Value) (n : Nat) (rep : Nat → Bool) (w : World) : Prop :=
  ∀ (W : World) (k : Nat), Below w.heap.size w W → k < n → Calls Try.prog f (#[.int .i64 (k : Int)] ++ lb) W fun e W' => e = .returned (.bool (rep k)) ∧ Below W.heap.size W W'

set_option maxHeartbeats 2000000 in
theorem leastPart_any (f : FuncId) (lb : Array Value) (eg : Enters Try.prog f) (n : Nat) (rep : Nat → Bool) (w : World) (hn1 : 1 ≤ n) (hn : n ≤ 60) (hg : Test1 f lb n rep w) :
    Calls Try.prog 91 #[.int .i64 (n : Int), .func (.func f) #[] lb] w fun e w' => e = .returned (.int .i64 (leastN rep n : Int)) ∧ Below w.heap.size w w' := by
  have Hg := Lib.hid hg
  clear hg
  unfold Enters at eg
  go_enter Try.func91, Try.ntmps91
  go_wp2
  go_loopw [5] (fun i wr => ∃ k : Nat, 1 ≤ k ∧ k ≤ n ∧ i = .int .i64 k ∧ NoneTo rep n k ∧ Below w.heap.size w wr) (fun i _ => n - (intOf i).toNat)
  case atStart => exact ⟨1, Nat.le_refl _, hn1, rfl, fun i h1 h2 => by omega, Below.refl _ _⟩
  case round =>
    obtain ⟨k, hk1, hk, rfl, hN, hB⟩ := hrel
    have HN := Lib.hid hN
    have HB := Lib.hid hB
    clear hN hB
    by_cases hlt : k < n
    · have hk0 : (0 : Int) < (k : Int) := by omega
      have hk0' : ¬ (k : Int) = 0 := by omega
      by_cases hd : n % k = 0
      · have hd' : (((n : Int) % (k : Int)) == 0) = true := by simp; omega
        have hgc := Hg.out wr k HB.out hlt
        have Hd := Lib.hid hd
        clear hd
        cases hr : rep k with
        | true =>
          rw [hr] at hgc
          have Hgc := Lib.hid hgc
          have Hr := Lib.hid hr
          clear hgc hr
          go_wp2_with fail
          refine Hgc.out.mono ?_
          rintro e w3 ⟨rfl, hb3⟩
          go_wp2
          go_ret
          exact ⟨ret_int (by rw [leastN_at hk1 hlt HN.out Hd.out Hr.out]), HB.out.trans (hb3.mono HB.out.size)⟩
        | false =>
          rw [hr] at hgc
          have Hgc := Lib.hid hgc
          have Hr := Lib.hid hr
          clear hgc hr
          go_wp2_with fail
          refine Hgc.out.mono ?_
          rintro e w3 ⟨rfl, hb3⟩
          go_wp2
          go_roundw
          case rel =>
            refine ⟨k + 1, by omega, by omega, by go_num, fun i hi hik => ?_, HB.out.trans (hb3.mono HB.out.size)⟩
            by_cases hik2 : i = k
            · rw [hik2, Hr.out]; simp
            · exact HN.out i hi (by omega)
          case measure => simp [intOf]; omega
      · have hd' : (((n : Int) % (k : Int)) == 0) = false := by simp; omega
        have Hd := Lib.hid hd
        clear hd
        go_wp2
        go_roundw
        case rel =>
          refine ⟨k + 1, by omega, by omega, by go_num, fun i hi hik => ?_, HB.out⟩
          by_cases hik2 : i = k
          · rw [hik2]; exact fun h => Hd.out h.1
          · exact HN.out i hi (by omega)
        case measure => simp [intOf]; omega
    · obtain rfl : k = n := by omega
      go_wp2
      go_ret
      exact ⟨ret_int (by rw [leastN_end hn1 HN.out]), HB.out⟩
end Go.Proofs.Ytjobbleabepaiaa
