/- slices.Equal over rows; leastPart; Least. · Least. -/
import Derived.Test.YtjobbleabepaiaaWO
import Derived.Test.YtjobbleabepaiaaWX
import Derived.Deep.RegionWith
namespace Go.Proofs.Ytjobbleabepaiaa
section
open Go.RowKit Go.Shelf

set_option maxHeartbeats 1000000 in
theorem Equal_any (p1 p2 : Option Addr) (c1 c2 : Nat) (xs ys : List Int) (w : World) (hx : Reads w (.slice p1 xs.length c1) xs) (hy : Reads w (.slice p2 ys.length c2) ys) :
    Calls Try.prog 90 #[.slice p1 xs.length c1, .slice p2 ys.length c2] w fun e w' => e = .returned (.bool (decide (xs = ys))) ∧ Below w.heap.size w w' := by
  obtain ⟨q, cx, ex, hxl, hxr⟩ := hx
  obtain ⟨q2, cy, ey, hyl, hyr⟩ := hy
  simp at ex ey
  obtain ⟨rfl, rfl⟩ := ex
  obtain ⟨rfl, rfl⟩ := ey
  have hxl' : xs.length ≤ 17592186044416 := hxl
  have hyl' : ys.length ≤ 17592186044416 := hyl
  clear hxl hyl
  by_cases hl : xs.length = ys.length
  · have Hl := Lib.hid hl
    have hne : ((xs.length : Int) != (ys.length : Int)) = false := by simp [hl]
    have HX := Lib.hid hxr
    have HY := Lib.hid hyr
    clear hl hxr hyr
    go_enter Try.func90, Try.ntmps90
    go_wp2
    go_loopw [13] (fun i wr => ∃ k : Nat, k ≤ xs.length ∧ i = .int .i64 k ∧ (∀ i, i < k → nthI xs i = nthI ys i) ∧ Below w.heap.size w wr) (fun i _ => xs.length - (intOf i).toNat)
    case atStart => exact ⟨0, Nat.zero_le _, rfl, fun i hi => by omega, Below.refl _ _⟩
    case round =>
      obtain ⟨k, hk, rfl, he, hT⟩ := hrel
      have He := Lib.hid he
      have HT := Lib.hid hT
      clear he hT
      by_cases hlt : k < xs.length
      · obtain ⟨b1, o1, rfl, hb1, hi1⟩ := HX.out (by omega)
        obtain ⟨b2, o2, rfl, hb2, hi2⟩ := HY.out (by have := Hl.out; omega)
        have x1 := (hi1.below HT.out hb1) k hlt
        have x2 := (hi2.below HT.out hb2) k (by have := Hl.out; omega)
        have hk0 : (0 : Int) ≤ (k : Int) := by omega
        have hk1 : (k : Int) < (xs.length : Int) := by omega
        have hk2 : (k : Int) < (ys.length : Int) := by have := Hl.out; omega
        by_cases heq : nthI xs k = nthI ys k
        · have hne : (nthI xs k != nthI ys k) = false := by simpa using heq
          have Heq := Lib.hid heq
          clear heq hi1 hi2
          go_wp2
          go_region
          all_goals go_wp2
          all_goals go_roundw
          all_goals first | (simp [intOf]; omega) | skip
          all_goals refine ⟨k + 1, by omega, by go_num, fun i hi => ?_, HT.out.drew⟩
          all_goals by_cases h : i = k
          all_goals first | (rw [h]; exact Heq.out) | exact He.out i (by omega)
        · have hne : (nthI xs k != nthI ys k) = true := by simpa using heq
          have hf : ¬ xs = ys := fun b => heq (by rw [b])
          have Hf := Lib.hid hf
          clear heq hi1 hi2 hf
          go_wp2
          go_region
          all_goals go_wp2
          all_goals go_ret
          all_goals exact ⟨ret_bool (by simp [Hf.out]), HT.out.drew⟩
      · obtain rfl : k = xs.length := by omega
        go_wp2
        go_ret
        exact ⟨ret_bool (by rw [lists_eq xs ys Hl.out He.out]; simp), HT.out⟩
  · have hne : ((xs.length : Int) != (ys.length : Int)) = true := by simp; omega
    have hf : decide (xs = ys) = false := by
      rw [decide_eq_false_iff_not]
      rintro rfl
      exact hl rfl
    have Hf := Lib.hid hf
    clear hl hf hxr hyr
    go_enter Try.func90, Try.ntmps90
    go_wp2
    go_ret
    exact ⟨ret_bool (by rw [Hf.out]), Below.refl _ _⟩

/-- the least divisor of n, from k on, with which something repeats -/
def leastFrom (rep : Nat → Bool) (n : Nat) : Nat → Nat → Nat
  | 0, _ => n
  | fuel + 1, k => if k < n then (if n % k = 0 ∧ rep k = true then k else leastFrom rep n fuel (k + 1)) else n
def leastN (rep : Nat → Bool) (n : Nat) : Nat := leastFrom rep n n 1
/-- no smaller one does -/
def NoneTo (rep : Nat → Bool) (n k : Nat) : Prop := ∀ i, 1 ≤ i → i < k → ¬ (n % i = 0 ∧ rep i = true)
theorem leastFrom_spec (rep : Nat → Bool) (n : Nat) : ∀ (fuel k : Nat), NoneTo rep n k → 1 ≤ k → k ≤ n → n ≤ k + fuel →
    (∀ j, k ≤ j → j < n → NoneTo rep n j → (n % j = 0 ∧ rep j = true) → leastFrom rep n fuel k = j) ∧ (NoneTo rep n n → leastFrom rep n fuel k = n)
  | 0, k, _, _, _, _ => ⟨fun j h1 h2 _ _ => by omega, fun _ => rfl⟩
  | fuel + 1, k, hk, h1, hkn, hf => by
    by_cases hlt : k < n
    · by_cases hr : n % k = 0 ∧ rep k = true
      · have e : leastFrom rep n (fuel + 1) k = k := by simp only [leastFrom, if_pos hlt, if_pos hr]
        rw [e]
        refine ⟨fun j hj hjn hnj _ => ?_, fun hn => absurd hr (hn k h1 hlt)⟩
        by_cases hkj : k = j
        · exact hkj
        · exact absurd hr (hnj k h1 (by omega))
      · have e : leastFrom rep n (fuel + 1) k = leastFrom rep n fuel (k + 1) := by simp only [leastFrom, if_pos hlt, if_neg hr]
        rw [e]
        have hk2 : NoneTo rep n (k + 1) := fun i hi hik => by
          by_cases hik2 : i = k
          · rw [hik2]; exact hr
          · exact hk i hi (by omega)
        obtain ⟨a, b⟩ := leastFrom_spec rep n fuel (k + 1) hk2 (by omega) (by omega) (by omega)
        refine ⟨fun j hj hjn hnj hrj => ?_, b⟩
        by_cases hkj : k = j
        · subst hkj; exact absurd hrj hr
        · exact a j (by omega) hjn hnj hrj
    · have e : leastFrom rep n (fuel + 1) k = n := by simp only [leastFrom, if_neg hlt]
      rw [e]
      exact ⟨fun j hj hjn _ _ => by omega, fun _ => rfl⟩
theorem leastN_at {rep : Nat → Bool} {n j : Nat} (h1 : 1 ≤ j) (hj : j < n) (hn : NoneTo rep n j) (hr : n % j = 0) (hr2 : rep j = true) : leastN rep n = j :=
  (leastFrom_spec rep n n 1 (fun i h1 h2 => by omega) (Nat.le_refl _) (by omega) (by omega)).1 j h1 hj hn ⟨hr, hr2⟩
theorem leastN_end {rep : Nat → Bool} {n : Nat} (h1 : 1 ≤ n) (hn : NoneTo rep n n) : leastN rep n = n :=
  (leastFrom_spec rep n n 1 (fun i h1 h2 => by omega) (Nat.le_refl _) (by omega) (by omega)).2 hn
/-- what the test of a part owes -/
def Test1 (f : FuncId) (lb : Array Value) (n : Nat) (rep : Nat → Bool) (w : World) : Prop :=
  ∀ (W : World) (k : Nat), Below w.heap.size w W → k < n → Calls Try.prog f (#[.int .i64 (k : Int)] ++ lb) W fun e W' => e = .returned (.bool (rep k)) ∧ Below W.heap.size W W'

set_option maxHeartbeats 2000000 in
theorem leastPart_any (f : FuncId) (lb : Array Value) (eg : Enters Try.prog f) (n : Nat) (rep : Nat → Bool) (w : World) (hn1 : 1 ≤ n) (hn : n ≤ 60) (hg : Test1 f lb n rep w) :
    Calls Try.prog 91 #[.int .i64 (n : Int), .func (.func f) #[] lb] w fun e w' => e = .returned (.int .i64 (leastN rep n : Int)) ∧ Below w.heap.size w w' := by
  have Hg := Lib.hid hg
  clear hg
  unfold Enters at eg
  go_enter Try.func91, Try.ntmps91
  go_wp2
  go_loopw [5] (fun i wr => ∃ k : Nat, 1 ≤ k ∧ k ≤ n ∧ i = .int .i64 k ∧ NoneTo rep n k ∧ Below w.heap.size w wr) (fun i _ => n - (intOf i).toNat)
  case atStart => exact ⟨1, Nat.le_refl _, hn1, rfl, fun i h1 h2 => by omega, Below.refl _ _⟩
  case round =>
    obtain ⟨k, hk1, hk, rfl, hN, hB⟩ := hrel
    have HN := Lib.hid hN
    have HB := Lib.hid hB
    clear hN hB
    by_cases hlt : k < n
    · have hk0 : (0 : Int) < (k : Int) := by omega
      have hk0' : ¬ (k : Int) = 0 := by omega
      by_cases hd : n % k = 0
      · have hd' : (((n : Int) % (k : Int)) == 0) = true := by simp; omega
        have hgc := Hg.out wr k HB.out hlt
        have Hd := Lib.hid hd
        clear hd
        cases hr : rep k with
        | true =>
          rw [hr] at hgc
          have Hgc := Lib.hid hgc
          have Hr := Lib.hid hr
          clear hgc hr
          go_wp2_with fail
          refine Hgc.out.mono ?_
          rintro e w3 ⟨rfl, hb3⟩
          go_wp2
          go_ret
          exact ⟨ret_int (by rw [leastN_at hk1 hlt HN.out Hd.out Hr.out]), HB.out.trans (hb3.mono HB.out.size)⟩
        | false =>
          rw [hr] at hgc
          have Hgc := Lib.hid hgc
          have Hr := Lib.hid hr
          clear hgc hr
          go_wp2_with fail
          refine Hgc.out.mono ?_
          rintro e w3 ⟨rfl, hb3⟩
          go_wp2
          go_roundw
          case rel =>
            refine ⟨k + 1, by omega, by omega, by go_num, fun i hi hik => ?_, HB.out.trans (hb3.mono HB.out.size)⟩
            by_cases hik2 : i = k
            · rw [hik2, Hr.out]; simp
            · exact HN.out i hi (by omega)
          case measure => simp [intOf]; omega
      · have hd' : (((n : Int) % (k : Int)) == 0) = false := by simp; omega
        have Hd := Lib.hid hd
        clear hd
        go_wp2
        go_roundw
        case rel =>
          refine ⟨k + 1, by omega, by omega, by go_num, fun i hi hik => ?_, HB.out⟩
          by_cases hik2 : i = k
          · rw [hik2]; exact fun h => Hd.out h.1
          · exact HN.out i hi (by omega)
        case measure => simp [intOf]; omega
    · obtain rfl : k = n := by omega
      go_wp2
      go_ret
      exact ⟨ret_int (by rw [leastN_end hn1 HN.out]), HB.out⟩
end
end Go.Proofs.Ytjobbleabepaiaa
namespace Go.Proofs.Ytjobbleabepaiaa
section
open Go.RowKit Go.Shelf

theorem NatBlk.natsAt {w : World} {R : Nat} {ys : List Nat} (h : NatBlk w R ys) : NatsAt w R 0 ys := fun i hi => by
  have := h.cell (i := i) hi
  rw [Nat.zero_add]
  exact this
theorem NatBlk.reads {w : World} {R : Nat} {ys : List Nat} (h : NatBlk w R ys) (hl : ys.length ≤ 1000) (c : Nat) : Reads w (.slice (some ⟨R, 0, none⟩) ys.length c) (ints ys) :=
  ⟨_, c, by rw [ints_len], by rw [ints_len]; omega, fun _ => ⟨R, 0, rfl, h.lt, h.natsAt.ints⟩⟩
theorem ints_inj {xs ys : List Nat} : ints xs = ints ys ↔ xs = ys := by
  constructor
  · intro h
    have := congrArg (List.map Int.toNat) h
    simpa [ints, Function.comp_def] using this
  · rintro rfl; rfl
theorem EqualN_any (R b off c1 c : Nat) (ys xs : List Nat) (w : World) (hR : NatBlk w R ys) (hl : ys.length ≤ 1000) (hx : Reads w (.slice (some ⟨b, off, none⟩) xs.length c) (ints xs)) :
    Calls Try.prog 90 #[.slice (some ⟨R, 0, none⟩) ys.length c1, .slice (some ⟨b, off, none⟩) xs.length c] w fun e w' => e = .returned (.bool (decide (ys = xs))) ∧ Below w.heap.size w w' := by
  have h := Equal_any (some ⟨R, 0, none⟩) (some ⟨b, off, none⟩) c1 c (ints ys) (ints xs) w (by rw [ints_len]; exact hR.reads hl c1) (by rw [ints_len]; exact hx)
  rw [ints_len, ints_len] at h
  refine h.mono ?_
  rintro e w' ⟨rfl, hb⟩
  exact ⟨by rw [decide_eq_decide.2 ints_inj], hb⟩

/-- is a design the same, so many picks and hooks further on? -/
def repB (xs : List Nat) (n P H : Nat) : Bool := decide (painted (shG xs n P H) xs.length n = xs)
/-- where the closures of Least look -/
structure LBox (w : World) (pa da n b off c : Nat) (xs : List Nat) : Prop where
  p : DBox w pa n b off c xs
  d : w.cell? ⟨da, 1, none⟩ = some (.slice (some ⟨b, off, none⟩) xs.length c)
theorem LBox.below {k : Nat} {w w' : World} {pa da n b off c : Nat} {xs : List Nat} (h : LBox w pa da n b off c xs) (hb : Below k w w') (hk : w.heap.size ≤ k) : LBox w' pa da n b off c xs :=
  ⟨h.p.below hb (Nat.lt_of_lt_of_le h.p.lt hk), cell_lift' h.d hb hk⟩

set_option maxHeartbeats 2000000 in
set_option maxRecDepth 100000 in
theorem repeats_any (n b off c P H pa da : Nat) (xs : List Nat) (w : World) (hv : VAt w b off c n xs) (hL : LBox w pa da n b off c xs) (hP : P < xs.length) (hH : H < n) :
    Calls Try.prog 89 #[.int .i64 (P : Int), .int .i64 (H : Int), .pointer (some ⟨pa, 0, none⟩), .pointer (some ⟨da, 0, none⟩)] w fun e w' => e = .returned (.bool (repB xs n P H)) ∧ Below w.heap.size w w' := by
  obtain ⟨ys, hys⟩ : ∃ ys, painted (shG xs n P H) xs.length n = ys := ⟨_, rfl⟩
  have hyl : ys.length = xs.length := by rw [← hys, painted_len]
  have hrep : repB xs n P H = decide (ys = xs) := by unfold repB; rw [hys]
  have hl := hv.ok.l1
  have hyl2 : ys.length ≤ 1000 := by omega
  have Hsh := fun W (h : VAt W b off c n xs) => shifted_any n b off c P H xs W h hP hH
  rw [hys] at Hsh
  rw [hrep]
  have HVd : Hid (VAt w.drew b off c n xs) := Lib.hid ⟨hv.at', hv.lt, hv.ok⟩
  have d0 := hL.p.c0
  have d1 := hL.p.c1
  have d2 := hL.d
  have hz := World.block_lt_of_cell? w ⟨da, 1, none⟩ hL.d
  have hfd : ∀ (R : Nat) (W : World), (Instr.field 24 (.agg #[.int .i64 (n : Int), .slice (some ⟨R, 0, none⟩) ys.length ys.length]) 1).run Try.prog W = .ok (.slice (some ⟨R, 0, none⟩) ys.length ys.length) W := fun _ _ => by kernel_rfl
  clear hys hyl hrep hv hL
  go_enter Try.func89, Try.ntmps89
  go_wp2_with fail
  go_region_with (first
    | (go_at_call 82; (with_reducible refine (Hsh _ HVd.out).mono ?_); rintro e w3 ⟨R, rfl, hR0, hR1, hR2⟩; have e2 := cell_lift hR2 hz d2; have hx3 := (HVd.out.below hR2).reads; have HX3 := Lib.hid hx3; have HR1 := Lib.hid hR1; have HR2 := Lib.hid hR2; clear hx3 hR1 hR2)
    | (go_at_call 90; (with_reducible refine (EqualN_any _ _ _ _ _ _ _ _ HR1.out hyl2 HX3.out).mono ?_); rintro e w4 ⟨rfl, hb4⟩))
  all_goals go_wp2
  all_goals go_ret
  all_goals exact ⟨ret_bool rfl, (below_drew1 w).trans (HR2.out.trans (hb4.mono HR2.out.size))⟩

set_option maxRecDepth 100000 in
set_option maxHeartbeats 2000000 in
theorem repPicks_any (n b off c P pa da fa : Nat) (xs : List Nat) (w : World) (hv : VAt w b off c n xs) (hL : LBox w pa da n b off c xs) (hf : w.cell? ⟨fa, 0, none⟩ = some (.func (.func 89) #[] #[.pointer (some ⟨pa, 0, none⟩), .pointer (some ⟨da, 0, none⟩)])) (hP : P < xs.length) :
    Calls Try.prog 92 #[.int .i64 (P : Int), .pointer (some ⟨fa, 0, none⟩)] w fun e w' => e = .returned (.bool (repB xs n P 0)) ∧ Below w.heap.size w w' := by
  have H := repeats_any n b off c P 0 pa da xs w hv hL hP hv.ok.n0
  have HH := Lib.hid H
  clear H hv hL
  go_enter Try.func92, Try.ntmps92
  go_wp2_with fail
  refine HH.out.mono ?_
  rintro e w1 ⟨rfl, hb1⟩
  go_wp2
  go_ret
  exact ⟨ret_bool rfl, hb1⟩
set_option maxRecDepth 100000 in
set_option maxHeartbeats 2000000 in
theorem repHooks_any (n b off c H pa da fa : Nat) (xs : List Nat) (w : World) (hv : VAt w b off c n xs) (hL : LBox w pa da n b off c xs) (hf : w.cell? ⟨fa, 0, none⟩ = some (.func (.func 89) #[] #[.pointer (some ⟨pa, 0, none⟩), .pointer (some ⟨da, 0, none⟩)])) (hH : H < n) :
    Calls Try.prog 93 #[.int .i64 (H : Int), .pointer (some ⟨fa, 0, none⟩)] w fun e w' => e = .returned (.bool (repB xs n 0 H)) ∧ Below w.heap.size w w' := by
  have H1 := repeats_any n b off c 0 H pa da xs w hv hL hv.ok.l0 hH
  have HH := Lib.hid H1
  clear H1 hv hL
  go_enter Try.func93, Try.ntmps93
  go_wp2_with fail
  refine HH.out.mono ?_
  rintro e w1 ⟨rfl, hb1⟩
  go_wp2
  go_ret
  exact ⟨ret_bool rfl, hb1⟩

set_option maxHeartbeats 1000000 in
theorem Least_err (h : Int) (p : Option Addr) (c : Nat) (xs : List Int) (w : World) (hr : Reads w (.slice p xs.length c) xs) (he : checkE h xs ≠ 0) :
    Calls Try.prog 51 #[.agg #[.int .i64 h, .slice p xs.length c]] w fun e w' => e = .returned (.tuple #[.int .i64 0, .int .i64 0, .int .i64 (checkE h xs)]) ∧ Below w.heap.size w w' := by
  obtain ⟨r, hre⟩ : ∃ r, checkE h xs = r := ⟨_, rfl⟩
  have Hc := fun o => check_box h p c xs w o hr r hre
  rw [hre] at he ⊢
  have hne : (r != 0) = true := by simpa using he
  clear hre he
  go_enter Try.func51, Try.ntmps51
  go_wp2_with (go_at_call 66; refine (Hc _).mono ?_; rintro e w' ⟨rfl, hb1⟩)
  refine bodyPost_ret (v := .tuple #[.int .i64 0, .int .i64 0, .int .i64 r]) (by simp [results, Try.results51, go_sem]) rfl ⟨rfl, ?_⟩
  exact ((Below.refl w.heap.size w).alloc (Nat.le_refl _) _).trans (hb1.mono (by omega))
set_option maxRecDepth 100000 in
set_option maxHeartbeats 2000000 in
theorem Least_ok (n b off c : Nat) (xs : List Nat) (w : World) (hv : VAt w b off c n xs) :
    Calls Try.prog 51 #[.agg #[.int .i64 (n : Int), .slice (some ⟨b, off, none⟩) xs.length c]] w
      fun e w' => e = .returned (.tuple #[.int .i64 (leastN (fun k => repB xs n k 0) xs.length : Int), .int .i64 (leastN (fun k => repB xs n 0 k) n : Int), .int .i64 0]) ∧ Below w.heap.size w w' := by
  have Hc := fun o => check_box n (some ⟨b, off, none⟩) c (ints xs) w o (by rw [ints_len]; exact hv.reads) 0 hv.ok.check
  rw [ints_len] at Hc
  have HV := Lib.hid hv
  have n0 := hv.ok.n0
  have n1 := hv.ok.n1
  have l0 := hv.ok.l0
  have l1 := hv.ok.l1
  obtain ⟨A, hA⟩ : ∃ A, leastN (fun k => repB xs n k 0) xs.length = A := ⟨_, rfl⟩
  obtain ⟨C, hC⟩ : ∃ C, leastN (fun k => repB xs n 0 k) n = C := ⟨_, rfl⟩
  rw [hA, hC]
  have HA := Lib.hid hA
  have HC := Lib.hid hC
  clear hv hA hC
  go_enter Try.func51, Try.ntmps51
  go_wp2_with fail
  refine (Hc _).mono ?_
  rintro e w1 ⟨rfl, hb1⟩
  have hd0 : w1.cell? ⟨w.heap.size, 0, none⟩ = some (.int .i64 (n : Int)) := (hb1.cell (p := ⟨w.heap.size, 0, none⟩) (by simp)).trans (by simp)
  have hd1 : w1.cell? ⟨w.heap.size, 1, none⟩ = some (.slice (some ⟨b, off, none⟩) xs.length c) := (hb1.cell (p := ⟨w.heap.size, 1, none⟩) (by simp)).trans (by simp)
  have hz : w.heap.size < w1.heap.size := by have := hb1.size; simp at this; omega
  have HB1 : Hid (Below w.heap.size w w1) := Lib.hid (((Below.refl w.heap.size w).alloc (Nat.le_refl _) _).trans (hb1.mono (by omega)))
  clear hb1
  go_wp2_with fail
  obtain ⟨W2, hW2⟩ : ∃ W2, W2 = ((w1.alloc (.cells #[.int .i64 (n : Int), .slice (some ⟨b, off, none⟩) xs.length c] 100)).alloc (.cells #[.func (.func 89) #[] #[.pointer (some ⟨w1.heap.size, 0, none⟩), .pointer (some ⟨w.heap.size, 0, none⟩)]] 119)) := ⟨_, rfl⟩
  have hB2 : Below w1.heap.size w1 W2 := by rw [hW2]; exact ((Below.refl _ _).alloc (Nat.le_refl _) _).alloc (by simp) _
  have hp2 : DBox W2 w1.heap.size n b off c xs := by
    rw [hW2]
    refine DBox.below (k := w1.heap.size + 1) (W := w1.alloc (.cells #[.int .i64 (n : Int), .slice (some ⟨b, off, none⟩) xs.length c] 100)) ⟨by simp, by simp⟩ ((Below.refl _ _).alloc (by simp) _) (by omega)
  have hf2 : W2.cell? ⟨w1.heap.size + 1, 0, none⟩ = some (.func (.func 89) #[] #[.pointer (some ⟨w1.heap.size, 0, none⟩), .pointer (some ⟨w.heap.size, 0, none⟩)]) := by
    have := (Boxed.new (w1.alloc (.cells #[.int .i64 (n : Int), .slice (some ⟨b, off, none⟩) xs.length c] 100)) 119 (.func (.func 89) #[] #[.pointer (some ⟨w1.heap.size, 0, none⟩), .pointer (some ⟨w.heap.size, 0, none⟩)])).cell
    rw [World.size_alloc] at this
    rw [hW2]; exact this
  have hL2 : LBox W2 w1.heap.size w.heap.size n b off c xs := ⟨hp2, cell_lift hB2 hz hd1⟩
  have hV2 : VAt W2 b off c n xs := (HV.out.below HB1.out).below hB2
  have hz2 : w.heap.size < W2.heap.size := Nat.lt_of_lt_of_le hz hB2.size
  have e20 : W2.cell? ⟨w.heap.size, 0, none⟩ = some (.int .i64 (n : Int)) := cell_lift hB2 hz hd0
  have HBall : Hid (Below w.heap.size w W2) := Lib.hid (HB1.out.trans (hB2.mono (by omega)))
  have H92 := leastPart_any 92 #[.pointer (some ⟨w1.heap.size + 1, 0, none⟩)] (enters_of Try.func92 (by kernel_rfl) rfl) xs.length (fun k => repB xs n k 0) W2 l0 l1 (fun W k hb hk => repPicks_any n b off c k _ _ _ xs W (hV2.below hb) (hL2.below hb (Nat.le_refl _)) (cell_lift' hf2 hb (Nat.le_refl _)) hk)
  have H93 : ∀ W, Below W2.heap.size W2 W → Calls Try.prog 91 #[.int .i64 (n : Int), .func (.func 93) #[] #[.pointer (some ⟨w1.heap.size + 1, 0, none⟩)]] W fun e w' => e = .returned (.int .i64 (leastN (fun k => repB xs n 0 k) n : Int)) ∧ Below W.heap.size W w' := fun W hW =>
    leastPart_any 93 #[.pointer (some ⟨w1.heap.size + 1, 0, none⟩)] (enters_of Try.func93 (by kernel_rfl) rfl) n (fun k => repB xs n 0 k) W n0 (by omega) (fun W' k hb hk => repHooks_any n b off c k _ _ _ xs W' ((hV2.below hW).below hb) ((hL2.below hW (Nat.le_refl _)).below hb (Nat.le_refl _)) (cell_lift' (cell_lift' hf2 hW (Nat.le_refl _)) hb (Nat.le_refl _)) hk)
  rw [HA.out] at H92
  rw [HC.out] at H93
  have H92h := Lib.hid H92
  have H93h := Lib.hid H93
  clear H92 H93 hV2 hL2 hp2 hB2
  rw [← hW2]
  clear hW2 hd0 hd1
  refine H92h.out.mono ?_
  rintro e w3 ⟨rfl, hb3⟩
  have e30 : w3.cell? ⟨w.heap.size, 0, none⟩ = some (.int .i64 (n : Int)) := cell_lift hb3 hz2 e20
  clear e20 hf2
  go_wp2_with fail
  refine (H93h.out _ hb3).mono ?_
  rintro e w4 ⟨rfl, hb4⟩
  go_wp2_with fail
  refine bodyPost_ret (v := .tuple #[.int .i64 (A : Int), .int .i64 (C : Int), .int .i64 0]) (by simp [results, Try.results51, go_sem]) rfl ⟨rfl, ?_⟩
  exact HBall.out.trans ((hb3.trans (hb4.mono hb3.size)).mono (Nat.le_of_lt hz2))
end
end Go.Proofs.Ytjobbleabepaiaa
