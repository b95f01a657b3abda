/- slices.Equal over rows; leastPart; Least. · Least. -/
import Derived.Test.YtdmgffoikebgkaaWO
import Derived.Test.YtdmgffoikebgkaaWX
import Derived.Deep.RegionWith
import Derived.Test.YtdmgffoikebgkaaVM
import Derived.Test.YtdmgffoikebgkaaNE
import Derived.Test.YtdmgffoikebgkaaNF
namespace Go.Proofs.Ytdmgffoikebgkaa
section
open Go.RowKit Go.Shelf

set_option maxHeartbeats 1000000 in
theorem Equal_any (p1 p2 : Option Addr) (c1 c2 : Nat) (xs ys : List Int) (w : World) (hx : Reads w (.slice p1 xs.length c1) xs) (hy : Reads w (.slice p2 ys.length c2) ys) :
    Calls Try.prog 165 #[.slice p1 xs.length c1, .slice p2 ys.length c2] w fun e w' => e = .returned (.bool (decide (xs = ys))) ∧ Below w.heap.size w w' := by
  obtain ⟨q, cx, ex, hxl, hxr⟩ := hx
  obtain ⟨q2, cy, ey, hyl, hyr⟩ := hy
  simp at ex ey
  obtain ⟨rfl, rfl⟩ := ex
  obtain ⟨rfl, rfl⟩ := ey
  have hxl' : xs.length ≤ 17592186044416 := hxl
  have hyl' : ys.length ≤ 17592186044416 := hyl
  clear hxl hyl
  by_cases hl : xs.length = ys.length
  · have Hl := Lib.hid hl
    have hne : ((xs.length : Int) != (ys.length : Int)) = false := by simp [hl]
    have HX := Lib.hid hxr
    have HY := Lib.hid hyr
    clear hl hxr hyr
    go_enter Try.func165, Try.ntmps165
    go_wp2
    go_loopw [13] (fun i wr => ∃ k : Nat, k ≤ xs.length ∧ i = .int .i64 k ∧ (∀ i, i < k → nthI xs i = nthI ys i) ∧ Below w.heap.size w wr) (fun i _ => xs.length - (intOf i).toNat)
    case atStart => exact ⟨0, Nat.zero_le _, rfl, fun i hi => by omega, Below.refl _ _⟩
    case round =>
      obtain ⟨k, hk, rfl, he, hT⟩ := hrel
      have He := Lib.hid he
      have HT := Lib.hid hT
      clear he hT
      by_cases hlt : k < xs.length
      · obtain ⟨b1, o1, rfl, hb1, hi1⟩ := HX.out (by omega)
        obtain ⟨b2, o2, rfl, hb2, hi2⟩ := HY.out (by have := Hl.out; omega)
        have x1 := (hi1.below HT.out hb1) k hlt
        have x2 := (hi2.below HT.out hb2) k (by have := Hl.out; omega)
        have hk0 : (0 : Int) ≤ (k : Int) := by omega
        have hk1 : (k : Int) < (xs.length : Int) := by omega
        have hk2 : (k : Int) < (ys.length : Int) := by have := Hl.out; omega
        by_cases heq : nthI xs k = nthI ys k
        · have hne : (nthI xs k != nthI ys k) = false := by simpa using heq
          have Heq := Lib.hid heq
          clear heq hi1 hi2
          go_wp2
          go_region
          all_goals go_wp2
          all_goals go_roundw
          all_goals first | (simp [intOf]; omega) | skip
          all_goals refine ⟨k + 1, by omega, by go_num, fun i hi => ?_, HT.out.drew⟩
          all_goals by_cases h : i = k
          all_goals first | (rw [h]; exact Heq.out) | exact He.out i (by omega)
        · have hne : (nthI xs k != nthI ys k) = true := by simpa using heq
          have hf : ¬ xs = ys := fun b => heq (by rw [b])
          have Hf := Lib.hid hf
          clear heq hi1 hi2 hf
          go_wp2
          go_region
          all_goals go_wp2
          all_goals go_ret
          all_goals exact ⟨ret_bool (by simp [Hf.out]), HT.out.drew⟩
      · obtain rfl : k = xs.length := by omega
        go_wp2
        go_ret
        exact ⟨ret_bool (by rw [lists_eq xs ys Hl.out He.out]; simp), HT.out⟩
  · have hne : ((xs.length : Int) != (ys.length : Int)) = true := by simp; omega
    have hf : decide (xs = ys) = false := by
      rw [decide_eq_false_iff_not]
      rintro rfl
      exact hl rfl
    have Hf := Lib.hid hf
    clear hl hf hxr hyr
    go_enter Try.func165, Try.ntmps165
    go_wp2
    go_ret
    exact ⟨ret_bool (by rw [Hf.out]), Below.refl _ _⟩

/-- the least divisor of n, from k on, with which something repeats -/
def leastFrom (rep : Nat → Bool) (n : Nat) : Nat → Nat → Nat
  | 0, _ => n
  | fuel + 1, k => if k < n then (if n % k = 0 ∧ rep k = true then k else leastFrom rep n fuel (k + 1)) else n
def leastN (rep : Nat → Bool) (n : Nat) : Nat := leastFrom rep n n 1
/-- no smaller one does -/
def NoneTo (rep : Nat → Bool) (n k : Nat) : Prop := ∀ i, 1 ≤ i → i < k → ¬ (n % i = 0 ∧ rep i = true)
theorem leastFrom_spec (rep : Nat → Bool) (n : Nat) : ∀ (fuel k : Nat), NoneTo rep n k → 1 ≤ k → k ≤ n → n ≤ k + fuel →
    (∀ j, k ≤ j → j < n → NoneTo rep n j → (n % j = 0 ∧ rep j = true) → leastFrom rep n fuel k = j) ∧ (NoneTo rep n n → leastFrom rep n fuel k = n)
  | 0, k, _, _, _, _ => ⟨fun j h1 h2 _ _ => by omega, fun _ => rfl⟩
  | fuel + 1, k, hk, h1, hkn, hf => by
    by_cases hlt : k < n
    · by_cases hr : n % k = 0 ∧ rep k = true
      · have e : leastFrom rep n (fuel + 1) k = k := by simp only [leastFrom, if_pos hlt, if_pos hr]
        rw [e]
        refine ⟨fun j hj hjn hnj _ => ?_, fun hn => absurd hr (hn k h1 hlt)⟩
        by_cases hkj : k = j
        · exact hkj
        · exact absurd hr (hnj k h1 (by omega))
      · have e : leastFrom rep n (fuel + 1) k = leastFrom rep n fuel (k + 1) := by simp only [leastFrom, if_pos hlt, if_neg hr]
        rw [e]
        have hk2 : NoneTo rep n (k + 1) := fun i hi hik => by
          by_cases hik2 : i = k
          · rw [hik2]; exact hr
          · exact hk i hi (by omega)
        obtain ⟨a, b⟩ := leastFrom_spec rep n fuel (k + 1) hk2 (by omega) (by omega) (by omega)
        refine ⟨fun j hj hjn hnj hrj => ?_, b⟩
        by_cases hkj : k = j
        · subst hkj; exact absurd hrj hr
        · exact a j (by omega) hjn hnj hrj
    · have e : leastFrom rep n (fuel + 1) k = n := by simp only [leastFrom, if_neg hlt]
      rw [e]
      exact ⟨fun j hj hjn _ _ => by omega, fun _ => rfl⟩
theorem leastN_at {rep : Nat → Bool} {n j : Nat} (h1 : 1 ≤ j) (hj : j < n) (hn : NoneTo rep n j) (hr : n % j = 0) (hr2 : rep j = true) : leastN rep n = j :=
  (leastFrom_spec rep n n 1 (fun i h1 h2 => by omega) (Nat.le_refl _) (by omega) (by omega)).1 j h1 hj hn ⟨hr, hr2⟩
theorem leastN_end {rep : Nat → Bool} {n : Nat} (h1 : 1 ≤ n) (hn : NoneTo rep n n) : leastN rep n = n :=
  (leastFrom_spec rep n n 1 (fun i h1 h2 => by omega) (Nat.le_refl _) (by omega) (by omega)).2 hn
/-- what the test of a part owes -/
def Test1 (f : FuncId) (lb : Array Value) (n : Nat) (rep : Nat → Bool) (w : World) : Prop :=
  ∀ (W : World) (k : Nat), Below w.heap.size w W → k < n → Calls Try.prog f (#[.int .i64 (k : Int)] ++ lb) W fun e W' => e = .returned (.bool (rep k)) ∧ Below W.heap.size W W'

set_option maxHeartbeats 2000000 in
theorem leastPart_any (f : FuncId) (lb : Array Value) (eg : Enters Try.prog f) (n : Nat) (rep : Nat → Bool) (w : World) (hn1 : 1 ≤ n) (hn : n ≤ 60) (hg : Test1 f lb n rep w) :
    Calls Try.prog 167 #[.int .i64 (n : Int), .func (.func f) #[] lb] w fun e w' => e = .returned (.int .i64 (leastN rep n : Int)) ∧ Below w.heap.size w w' := by
  have Hg := Lib.hid hg
  clear hg
  unfold Enters at eg
  go_enter Try.func167, Try.ntmps167
  go_wp2
  go_loopw [5] (fun i wr => ∃ k : Nat, 1 ≤ k ∧ k ≤ n ∧ i = .int .i64 k ∧ NoneTo rep n k ∧ Below w.heap.size w wr) (fun i _ => n - (intOf i).toNat)
  case atStart => exact ⟨1, Nat.le_refl _, hn1, rfl, fun i h1 h2 => by omega, Below.refl _ _⟩
  case round =>
    obtain ⟨k, hk1, hk, rfl, hN, hB⟩ := hrel
    have HN := Lib.hid hN
    have HB := Lib.hid hB
    clear hN hB
    by_cases hlt : k < n
    · have hk0 : (0 : Int) < (k : Int) := by omega
      have hk0' : ¬ (k : Int) = 0 := by omega
      by_cases hd : n % k = 0
      · have hd' : (((n : Int) % (k : Int)) == 0) = true := by simp; omega
        have hgc := Hg.out wr k HB.out hlt
        have Hd := Lib.hid hd
        clear hd
        cases hr : rep k with
        | true =>
          rw [hr] at hgc
          have Hgc := Lib.hid hgc
          have Hr := Lib.hid hr
          clear hgc hr
          go_wp2_with fail
          refine Hgc.out.mono ?_
          rintro e w3 ⟨rfl, hb3⟩
          go_wp2
          go_ret
          exact ⟨ret_int (by rw [leastN_at hk1 hlt HN.out Hd.out Hr.out]), HB.out.trans (hb3.mono HB.out.size)⟩
        | false =>
          rw [hr] at hgc
          have Hgc := Lib.hid hgc
          have Hr := Lib.hid hr
          clear hgc hr
          go_wp2_with fail
          refine Hgc.out.mono ?_
          rintro e w3 ⟨rfl, hb3⟩
          go_wp2
          go_roundw
          case rel =>
            refine ⟨k + 1, by omega, by omega, by go_num, fun i hi hik => ?_, HB.out.trans (hb3.mono HB.out.size)⟩
            by_cases hik2 : i = k
            · rw [hik2, Hr.out]; simp
            · exact HN.out i hi (by omega)
          case measure => simp [intOf]; omega
      · have hd' : (((n : Int) % (k : Int)) == 0) = false := by simp; omega
        have Hd := Lib.hid hd
        clear hd
        go_wp2
        go_roundw
        case rel =>
          refine ⟨k + 1, by omega, by omega, by go_num, fun i hi hik => ?_, HB.out⟩
          by_cases hik2 : i = k
          · rw [hik2]; exact fun h => Hd.out h.1
          · exact HN.out i hi (by omega)
        case measure => simp [intOf]; omega
    · obtain rfl : k = n := by omega
      go_wp2
      go_ret
      exact ⟨ret_int (by rw [leastN_end hn1 HN.out]), HB.out⟩
end
end Go.Proofs.Ytdmgffoikebgkaa
namespace Go.Proofs.Ytdmgffoikebgkaa
section
open Go.RowKit Go.Shelf

theorem NatBlk.natsAt {w : World} {R : Nat} {ys : List Nat} (h : NatBlk w R ys) : NatsAt w R 0 ys := fun i hi => by
  have := h.cell (i := i) hi
  rw [Nat.zero_add]
  exact this
theorem NatBlk.reads {w : World} {R : Nat} {ys : List Nat} (h : NatBlk w R ys) (hl : ys.length ≤ 1000) (c : Nat) : Reads w (.slice (some ⟨R, 0, none⟩) ys.length c) (ints ys) :=
  ⟨_, c, by rw [ints_len], by rw [ints_len]; omega, fun _ => ⟨R, 0, rfl, h.lt, h.natsAt.ints⟩⟩
theorem ints_inj {xs ys : List Nat} : ints xs = ints ys ↔ xs = ys := by
  constructor
  · intro h
    have := congrArg (List.map Int.toNat) h
    simpa [ints, Function.comp_def] using this
  · rintro rfl; rfl
theorem EqualN_any (R b off c1 c : Nat) (ys xs : List Nat) (w : World) (hR : NatBlk w R ys) (hl : ys.length ≤ 1000) (hx : Reads w (.slice (some ⟨b, off, none⟩) xs.length c) (ints xs)) :
    Calls Try.prog 165 #[.slice (some ⟨R, 0, none⟩) ys.length c1, .slice (some ⟨b, off, none⟩) xs.length c] w fun e w' => e = .returned (.bool (decide (ys = xs))) ∧ Below w.heap.size w w' := by
  have h := Equal_any (some ⟨R, 0, none⟩) (some ⟨b, off, none⟩) c1 c (ints ys) (ints xs) w (by rw [ints_len]; exact hR.reads hl c1) (by rw [ints_len]; exact hx)
  rw [ints_len, ints_len] at h
  refine h.mono ?_
  rintro e w' ⟨rfl, hb⟩
  exact ⟨by rw [decide_eq_decide.2 ints_inj], hb⟩

/-- is a design the same, so many picks and hooks further on? -/
def repB (xs : List Nat) (n P H : Nat) : Bool := decide (painted (shG xs n P H) xs.length n = xs)
/-- where the closures of Least look -/
structure LBox (w : World) (pa da n b off c : Nat) (xs : List Nat) : Prop where
  p : DBox w pa n b off c xs
  d : w.cell? ⟨da, 1, none⟩ = some (.slice (some ⟨b, off, none⟩) xs.length c)
theorem LBox.below {k : Nat} {w w' : World} {pa da n b off c : Nat} {xs : List Nat} (h : LBox w pa da n b off c xs) (hb : Below k w w') (hk : w.heap.size ≤ k) : LBox w' pa da n b off c xs :=
  ⟨h.p.below hb (Nat.lt_of_lt_of_le h.p.lt hk), cell_lift' h.d hb hk⟩

set_option maxHeartbeats 2000000 in
set_option maxRecDepth 100000 in
theorem repeats_any (n b off c P H pa da : Nat) (xs : List Nat) (w : World) (hv : VAt w b off c n xs) (hL : LBox w pa da n b off c xs) (hP : P < xs.length) (hH : H < n) :
    Calls Try.prog 164 #[.int .i64 (P : Int), .int .i64 (H : Int), .pointer (some ⟨pa, 0, none⟩), .pointer (some ⟨da, 0, none⟩)] w fun e w' => e = .returned (.bool (repB xs n P H)) ∧ Below w.heap.size w w' := by
  obtain ⟨ys, hys⟩ : ∃ ys, painted (shG xs n P H) xs.length n = ys := ⟨_, rfl⟩
  have hyl : ys.length = xs.length := by rw [← hys, painted_len]
  have hrep : repB xs n P H = decide (ys = xs) := by unfold repB; rw [hys]
  have hl := hv.ok.l1
  have hyl2 : ys.length ≤ 1000 := by omega
  have Hsh := fun W (h : VAt W b off c n xs) => shifted_any n b off c P H xs W h hP hH
  rw [hys] at Hsh
  rw [hrep]
  have HVd : Hid (VAt w.drew b off c n xs) := Lib.hid ⟨hv.at', hv.lt, hv.ok⟩
  have d0 := hL.p.c0
  have d1 := hL.p.c1
  have d2 := hL.d
  have hz := World.block_lt_of_cell? w ⟨da, 1, none⟩ hL.d
  have hfd : ∀ (R : Nat) (W : World), (Instr.field 37 (.agg #[.int .i64 (n : Int), .slice (some ⟨R, 0, none⟩) ys.length ys.length]) 1).run Try.prog W = .ok (.slice (some ⟨R, 0, none⟩) ys.length ys.length) W := fun _ _ => by kernel_rfl
  clear hys hyl hrep hv hL
  go_enter Try.func164, Try.ntmps164
  go_wp2_with fail
  go_region_with (first
    | (go_at_call 166; (with_reducible refine (Hsh _ HVd.out).mono ?_); rintro e w3 ⟨R, rfl, hR0, hR1, hR2⟩; have e2 := cell_lift hR2 hz d2; have hx3 := (HVd.out.below hR2).reads; have HX3 := Lib.hid hx3; have HR1 := Lib.hid hR1; have HR2 := Lib.hid hR2; clear hx3 hR1 hR2)
    | (go_at_call 165; (with_reducible refine (EqualN_any _ _ _ _ _ _ _ _ HR1.out hyl2 HX3.out).mono ?_); rintro e w4 ⟨rfl, hb4⟩))
  all_goals go_wp2
  all_goals go_ret
  all_goals exact ⟨ret_bool rfl, (below_drew1 w).trans (HR2.out.trans (hb4.mono HR2.out.size))⟩

set_option maxRecDepth 100000 in
set_option maxHeartbeats 2000000 in
theorem repPicks_any (n b off c P pa da fa : Nat) (xs : List Nat) (w : World) (hv : VAt w b off c n xs) (hL : LBox w pa da n b off c xs) (hf : w.cell? ⟨fa, 0, none⟩ = some (.func (.func 164) #[] #[.pointer (some ⟨pa, 0, none⟩), .pointer (some ⟨da, 0, none⟩)])) (hP : P < xs.length) :
    Calls Try.prog 168 #[.int .i64 (P : Int), .pointer (some ⟨fa, 0, none⟩)] w fun e w' => e = .returned (.bool (repB xs n P 0)) ∧ Below w.heap.size w w' := by
  have H := repeats_any n b off c P 0 pa da xs w hv hL hP hv.ok.n0
  have HH := Lib.hid H
  clear H hv hL
  go_enter Try.func168, Try.ntmps168
  go_wp2_with fail
  refine HH.out.mono ?_
  rintro e w1 ⟨rfl, hb1⟩
  go_wp2
  go_ret
  exact ⟨ret_bool rfl, hb1⟩
set_option maxRecDepth 100000 in
set_option maxHeartbeats 2000000 in
theorem repHooks_any (n b off c H pa da fa : Nat) (xs : List Nat) (w : World) (hv : VAt w b off c n xs) (hL : LBox w pa da n b off c xs) (hf : w.cell? ⟨fa, 0, none⟩ = some (.func (.func 164) #[] #[.pointer (some ⟨pa, 0, none⟩), .pointer (some ⟨da, 0, none⟩)])) (hH : H < n) :
    Calls Try.prog 169 #[.int .i64 (H : Int), .pointer (some ⟨fa, 0, none⟩)] w fun e w' => e = .returned (.bool (repB xs n 0 H)) ∧ Below w.heap.size w w' := by
  have H1 := repeats_any n b off c 0 H pa da xs w hv hL hv.ok.l0 hH
  have HH := Lib.hid H1
  clear H1 hv hL
  go_enter Try.func169, Try.ntmps169
  go_wp2_with fail
  refine HH.out.mono ?_
  rintro e w1 ⟨rfl, hb1⟩
  go_wp2
  go_ret
  exact ⟨ret_bool rfl, hb1⟩

set_option maxHeartbeats 1000000 in
theorem Least_err (h : Int) (p : Option Addr) (c : Nat) (xs : List Int) (w : World) (hr : Reads w (.slice p xs.length c) xs) (he : checkE h xs ≠ 0) :
    Calls Try.prog 92 #[.agg #[.int .i64 h, .slice p xs.length c]] w fun e w' => e = .returned (.tuple #[.int .i64 0, .int .i64 0, .int .i64 (checkE h xs)]) ∧ Below w.heap.size w w' := by
  obtain ⟨r, hre⟩ : ∃ r, checkE h xs = r := ⟨_, rfl⟩
  have Hc := fun o => check_box h p c xs w o hr r hre
  rw [hre] at he ⊢
  have hne : (r != 0) = true := by simpa using he
  clear hre he
  go_enter Try.func92, Try.ntmps92
  go_wp2_with (go_at_call 137; refine (Hc _).mono ?_; rintro e w' ⟨rfl, hb1⟩)
  refine bodyPost_ret (v := .tuple #[.int .i64 0, .int .i64 0, .int .i64 r]) (by simp [results, Try.results92, go_sem]) rfl ⟨rfl, ?_⟩
  exact ((Below.refl w.heap.size w).alloc (Nat.le_refl _) _).trans (hb1.mono (by omega))
set_option maxRecDepth 100000 in
set_option maxHeartbeats 2000000 in
theorem Least_ok (n b off c : Nat) (xs : List Nat) (w : World) (hv : VAt w b off c n xs) :
    Calls Try.prog 92 #[.agg #[.int .i64 (n : Int), .slice (some ⟨b, off, none⟩) xs.length c]] w
      fun e w' => e = .returned (.tuple #[.int .i64 (leastN (fun k => repB xs n k 0) xs.length : Int), .int .i64 (leastN (fun k => repB xs n 0 k) n : Int), .int .i64 0]) ∧ Below w.heap.size w w' := by
  have Hc := fun o => check_box n (some ⟨b, off, none⟩) c (ints xs) w o (by rw [ints_len]; exact hv.reads) 0 hv.ok.check
  rw [ints_len] at Hc
  have HV := Lib.hid hv
  have n0 := hv.ok.n0
  have n1 := hv.ok.n1
  have l0 := hv.ok.l0
  have l1 := hv.ok.l1
  obtain ⟨A, hA⟩ : ∃ A, leastN (fun k => repB xs n k 0) xs.length = A := ⟨_, rfl⟩
  obtain ⟨C, hC⟩ : ∃ C, leastN (fun k => repB xs n 0 k) n = C := ⟨_, rfl⟩
  rw [hA, hC]
  have HA := Lib.hid hA
  have HC := Lib.hid hC
  clear hv hA hC
  go_enter Try.func92, Try.ntmps92
  go_wp2_with fail
  refine (Hc _).mono ?_
  rintro e w1 ⟨rfl, hb1⟩
  have hd0 : w1.cell? ⟨w.heap.size, 0, none⟩ = some (.int .i64 (n : Int)) := (hb1.cell (p := ⟨w.heap.size, 0, none⟩) (by simp)).trans (by simp)
  have hd1 : w1.cell? ⟨w.heap.size, 1, none⟩ = some (.slice (some ⟨b, off, none⟩) xs.length c) := (hb1.cell (p := ⟨w.heap.size, 1, none⟩) (by simp)).trans (by simp)
  have hz : w.heap.size < w1.heap.size := by have := hb1.size; simp at this; omega
  have HB1 : Hid (Below w.heap.size w w1) := Lib.hid (((Below.refl w.heap.size w).alloc (Nat.le_refl _) _).trans (hb1.mono (by omega)))
  clear hb1
  go_wp2_with fail
  obtain ⟨W2, hW2⟩ : ∃ W2, W2 = ((w1.alloc (.cells #[.int .i64 (n : Int), .slice (some ⟨b, off, none⟩) xs.length c] 191)).alloc (.cells #[.func (.func 164) #[] #[.pointer (some ⟨w1.heap.size, 0, none⟩), .pointer (some ⟨w.heap.size, 0, none⟩)]] 200)) := ⟨_, rfl⟩
  have hB2 : Below w1.heap.size w1 W2 := by rw [hW2]; exact ((Below.refl _ _).alloc (Nat.le_refl _) _).alloc (by simp) _
  have hp2 : DBox W2 w1.heap.size n b off c xs := by
    rw [hW2]
    refine DBox.below (k := w1.heap.size + 1) (W := w1.alloc (.cells #[.int .i64 (n : Int), .slice (some ⟨b, off, none⟩) xs.length c] 191)) ⟨by simp, by simp⟩ ((Below.refl _ _).alloc (by simp) _) (by omega)
  have hf2 : W2.cell? ⟨w1.heap.size + 1, 0, none⟩ = some (.func (.func 164) #[] #[.pointer (some ⟨w1.heap.size, 0, none⟩), .pointer (some ⟨w.heap.size, 0, none⟩)]) := by
    have := (Boxed.new (w1.alloc (.cells #[.int .i64 (n : Int), .slice (some ⟨b, off, none⟩) xs.length c] 191)) 200 (.func (.func 164) #[] #[.pointer (some ⟨w1.heap.size, 0, none⟩), .pointer (some ⟨w.heap.size, 0, none⟩)])).cell
    rw [World.size_alloc] at this
    rw [hW2]; exact this
  have hL2 : LBox W2 w1.heap.size w.heap.size n b off c xs := ⟨hp2, cell_lift hB2 hz hd1⟩
  have hV2 : VAt W2 b off c n xs := (HV.out.below HB1.out).below hB2
  have hz2 : w.heap.size < W2.heap.size := Nat.lt_of_lt_of_le hz hB2.size
  have e20 : W2.cell? ⟨w.heap.size, 0, none⟩ = some (.int .i64 (n : Int)) := cell_lift hB2 hz hd0
  have HBall : Hid (Below w.heap.size w W2) := Lib.hid (HB1.out.trans (hB2.mono (by omega)))
  have H92 := leastPart_any 168 #[.pointer (some ⟨w1.heap.size + 1, 0, none⟩)] (enters_of Try.func168 (by kernel_rfl) rfl) xs.length (fun k => repB xs n k 0) W2 l0 l1 (fun W k hb hk => repPicks_any n b off c k _ _ _ xs W (hV2.below hb) (hL2.below hb (Nat.le_refl _)) (cell_lift' hf2 hb (Nat.le_refl _)) hk)
  have H93 : ∀ W, Below W2.heap.size W2 W → Calls Try.prog 167 #[.int .i64 (n : Int), .func (.func 169) #[] #[.pointer (some ⟨w1.heap.size + 1, 0, none⟩)]] W fun e w' => e = .returned (.int .i64 (leastN (fun k => repB xs n 0 k) n : Int)) ∧ Below W.heap.size W w' := fun W hW =>
    leastPart_any 169 #[.pointer (some ⟨w1.heap.size + 1, 0, none⟩)] (enters_of Try.func169 (by kernel_rfl) rfl) n (fun k => repB xs n 0 k) W n0 (by omega) (fun W' k hb hk => repHooks_any n b off c k _ _ _ xs W' ((hV2.below hW).below hb) ((hL2.below hW (Nat.le_refl _)).below hb (Nat.le_refl _)) (cell_lift' (cell_lift' hf2 hW (Nat.le_refl _)) hb (Nat.le_refl _)) hk)
  rw [HA.out] at H92
  rw [HC.out] at H93
  have H92h := Lib.hid H92
  have H93h := Lib.hid H93
  clear H92 H93 hV2 hL2 hp2 hB2
  rw [← hW2]
  clear hW2 hd0 hd1
  refine H92h.out.mono ?_
  rintro e w3 ⟨rfl, hb3⟩
  have e30 : w3.cell? ⟨w.heap.size, 0, none⟩ = some (.int .i64 (n : Int)) := cell_lift hb3 hz2 e20
  clear e20 hf2
  go_wp2_with fail
  refine (H93h.out _ hb3).mono ?_
  rintro e w4 ⟨rfl, hb4⟩
  go_wp2_with fail
  refine bodyPost_ret (v := .tuple #[.int .i64 (A : Int), .int .i64 (C : Int), .int .i64 0]) (by simp [results, Try.results92, go_sem]) rfl ⟨rfl, ?_⟩
  exact HBall.out.trans ((hb3.trans (hb4.mono hb3.size)).mono (Nat.le_of_lt hz2))
end
end Go.Proofs.Ytdmgffoikebgkaa
/- Longest. -/
namespace Go.Proofs.Ytdmgffoikebgkaa
open Go.RowKit Go.Shelf

/-- an unwritten result of Longest -/
def LRes (W : World) (B : Nat) : Prop := W.heap[B]? = some (.cells #[.int .i64 0, .int .i64 0, .int .i64 0, .int .i64 0] 132 (0, 0))
theorem LRes.lt {W : World} {B : Nat} (h : LRes W B) : B < W.heap.size := (Array.getElem?_eq_some_iff.1 h).1
theorem LRes.c {W : World} {B : Nat} (h : LRes W B) (j : Nat) (hj : j < 4) : W.cell? ⟨B, j, none⟩ = some (.int .i64 0) := by
  have : j = 0 ∨ j = 1 ∨ j = 2 ∨ j = 3 := by omega
  rcases this with rfl | rfl | rfl | rfl <;> simp [World.cell?, show W.heap[B]? = _ from h]
theorem LRes.f {W : World} {B : Nat} (h : LRes W B) (j : Nat) : W.frozen? ⟨B, j, none⟩ = false := by simp [World.frozen?, show W.heap[B]? = _ from h]
theorem LRes.new (W : World) : LRes (W.alloc (.cells #[.int .i64 0, .int .i64 0, .int .i64 0, .int .i64 0] 132)) W.heap.size := World.alloc_heap_new W _
theorem LRes.below {W W' : World} {B k : Nat} (h : LRes W B) (hb : Below k W W') (hn : B < k) : LRes W' B := (hb.block B hn).trans h

set_option maxHeartbeats 1000000 in
theorem Longest_err (h : Int) (p : Option Addr) (c : Nat) (xs : List Int) (w : World) (hr : Reads w (.slice p xs.length c) xs) (r : Int) (he : checkE h xs = r) (hne : r ≠ 0) :
    Calls Try.prog 93 #[.agg #[.int .i64 h, .slice p xs.length c]] w fun e w' => e = .returned (.tuple #[.agg #[.int .i64 0, .int .i64 0, .int .i64 0, .int .i64 0], .int .i64 r]) ∧ Below w.heap.size w w' := by
  have Hc := fun o o2 => check_res h p c xs w o o2 hr r he
  have hne' : (r != 0) = true := by simpa using hne
  clear he hr hne
  go_enter Try.func93, Try.ntmps93
  go_wp2_with fail
  refine (Hc _ _).mono ?_
  rintro e w1 ⟨rfl, hb1⟩
  have q : LRes w1 (w.heap.size + 1) := ((LRes.new (w.alloc (.cells #[.int .i64 h, .slice p xs.length c] 37))).below hb1 (by simp)) |> (fun h => by simpa using h)
  have k0 := q.c 0 (by omega)
  have k1 := q.c 1 (by omega)
  have k2 := q.c 2 (by omega)
  have k3 := q.c 3 (by omega)
  have f0 := q.f 0
  have f1 := q.f 1
  have f2 := q.f 2
  have f3 := q.f 3
  have Hb := Lib.hid hb1
  clear hb1 q
  go_wp2_with fail
  refine bodyPost_ret (v := .tuple #[.agg #[.int .i64 0, .int .i64 0, .int .i64 0, .int .i64 0], .int .i64 r]) ?_ rfl ⟨rfl, ?_⟩
  · simp [results, Try.results93, go_sem, k0, k1, k2, k3]
  · exact ((((((Below.refl w.heap.size w).alloc (Nat.le_refl _) _).alloc (by simp) _).trans (Hb.out.mono (by omega))).setCell (by simp) _ |>.setCell (by simp) _) |>.setCell (by simp) _) |>.setCell (by simp) _
def floatsAl (n : Nat) (xs : List Nat) (al : Nat) : List Fl := if al = 1 then upTo (flW n xs 0) xs.length else upTo (flH xs 0) n
/-- the floats of the first so many sides are counted -/
def doneM (n : Nat) (xs : List Nat) (j : Nat) : Nat → Bool → Nat := fun a b => if 1 ≤ a ∧ a ≤ j then maxF (floatsAl n xs a) b else 0
def midM (g : Nat → Bool → Nat) (al : Nat) (h : Bool → Nat) : Nat → Bool → Nat := fun a b => if a = al then h b else g a b
theorem midM_start (n : Nat) (xs : List Nat) (j : Nat) : midM (doneM n xs j) (j + 1) (maxF []) = doneM n xs j := by
  funext a b
  unfold midM doneM
  by_cases h : a = j + 1
  · rw [if_pos h, if_neg (by omega)]; rfl
  · rw [if_neg h]
theorem midM_step (g : Nat → Bool → Nat) (al : Nat) (fs : List Fl) (f : Fl) : setM (midM g al (maxF fs)) al f.lifted (max (midM g al (maxF fs) al f.lifted) f.length) = midM g al (maxF (fs ++ [f])) := by
  funext a b
  unfold setM midM
  by_cases h : a = al
  · subst h
    simp only [if_true, true_and]
    rw [maxF_snoc]
    by_cases hb : b = f.lifted
    · subst hb; simp
    · rw [if_neg hb, if_neg (fun h => hb h.symm)]
  · simp [h]
theorem midM_end (n : Nat) (xs : List Nat) (j : Nat) (fs : List Fl) (hf : floatsAl n xs (j + 1) = fs) : midM (doneM n xs j) (j + 1) (maxF fs) = doneM n xs (j + 1) := by
  funext a b
  unfold midM doneM
  by_cases h : a = j + 1
  · rw [if_pos h, if_pos (by omega), h, hf]
  · rw [if_neg h]
    by_cases h1 : 1 ≤ a ∧ a ≤ j
    · rw [if_pos h1, if_pos (by omega)]
    · rw [if_neg h1, if_neg (by omega)]
/-- what Longest keeps -/
structure LAt (w0 : World) (n b off c : Nat) (xs : List Nat) (mb k : Nat) (g : Nat → Bool → Nat) (W : World) : Prop where
  d : DBox W w0.heap.size n b off c xs
  r : LRes W (w0.heap.size + 1)
  m : SideMap W mb k g
  below : Below w0.heap.size w0 W
  lo : w0.heap.size + 1 < mb
theorem LAt.next {w0 : World} {n b off c : Nat} {xs : List Nat} {mb k : Nat} {g : Nat → Bool → Nat} {W W' : World} (h : LAt w0 n b off c xs mb k g W) (hb : Below W.heap.size W W') : LAt w0 n b off c xs mb k g W' :=
  ⟨h.d.below hb h.d.lt, h.r.below hb h.r.lt, h.m.below hb, h.below.trans (hb.mono h.below.size), h.lo⟩
theorem LAt.put {w0 : World} {n b off c : Nat} {xs : List Nat} {mb k k' : Nat} {g g' : Nat → Bool → Nat} {W W' : World} (h : LAt w0 n b off c xs mb k g W) (hg : W.grownBy W' (some mb)) (hm : SideMap W' mb k' g') : LAt w0 n b off c xs mb k' g' W' := by
  have hlo := h.lo
  have hbB : Below mb W W' := ⟨hg.os, hg.tape, hg.output, hg.size, fun i hi => hg.block i (Nat.lt_trans hi h.m.lt) (by simp; omega)⟩
  exact ⟨h.d.below hbB (by omega), h.r.below hbB (by omega), hm, h.below.trans (hbB.mono (by omega)), hlo⟩
theorem flH_mem {xs : List Nat} {m : Int} {x : Fl} {k : Nat} (hl : 0 < xs.length) (hl2 : xs.length ≤ 60) (h : x ∈ upTo (flH xs m) k) : x.pick < xs.length ∧ x.hook < k ∧ x.length ≤ 1000 := by
  obtain ⟨i, hi, hx⟩ := upTo_mem h
  simp only [flH, ringFl, List.mem_map, List.mem_filter] at hx
  obtain ⟨r, ⟨hr, _⟩, rfl⟩ := hx
  obtain ⟨h1, _, h3⟩ := runsOf_mem hl hl2 hr
  exact ⟨h1, hi, h3⟩
theorem flH_all_len (n : Nat) (xs : List Nat) (m : Int) (hn2 : n ≤ 24) (hl0 : 0 < xs.length) (hl : xs.length ≤ 60) : (upTo (flH xs m) n).length ≤ 3600 := by
  have := upTo_len (flH xs m) (fun i => Nat.le_trans (ringFl_len _ _ _) (runsOf_len xs.length (colTo xs i xs.length) (by omega) (by omega))) n
  omega

theorem FlsAt.kept {w w' : World} {g : Nat} {fs : List Fl} (h : FlsAt w g fs) {row : Option Nat} (hg : w.grownBy w' row) (hne : some g ≠ row) : FlsAt w' g fs := by
  have e : ∀ j, w'.cell? ⟨g, j, none⟩ = w.cell? ⟨g, j, none⟩ := fun j => World.cell?_of_block (w := w) (hg.block g h.lt hne)
  exact ⟨fun i hi => (e _).trans (h.c0 i hi), fun i hi => (e _).trans (h.c1 i hi), fun i hi => (e _).trans (h.c2 i hi), fun i hi => (e _).trans (h.c3 i hi), Nat.lt_of_lt_of_le h.lt hg.size⟩
/-- a slice of floats that lies behind a block -/
def FlsFar (w : World) (mb : Nat) (p : Option Addr) (fs : List Fl) : Prop := 0 < fs.length → ∃ g, p = some ⟨g, 0, none⟩ ∧ mb < g ∧ FlsAt w g fs
theorem FlsFar.next {w w' : World} {mb : Nat} {p : Option Addr} {fs : List Fl} (h : FlsFar w mb p fs) (hb : Below w.heap.size w w') : FlsFar w' mb p fs := fun hp => by
  obtain ⟨g, e, hg, hf⟩ := h hp
  exact ⟨g, e, hg, hf.below hb hf.lt⟩
theorem FlsFar.put {w w' : World} {mb : Nat} {p : Option Addr} {fs : List Fl} (h : FlsFar w mb p fs) (hb : w.grownBy w' (some mb)) : FlsFar w' mb p fs := fun hp => by
  obtain ⟨g, e, hg, hf⟩ := h hp
  exact ⟨g, e, hg, hf.kept hb (by simp; omega)⟩
theorem FlsFar.of_row {w : World} {B mb : Nat} {v : Value} {fs : List Fl} (h : w.ownsRow B 149 4 v fs.length (flCells fs)) (hB : mb < B) : ∃ p cap, v = .slice p fs.length cap ∧ FlsFar w mb p fs := by
  obtain ⟨p, cap, rfl, hF⟩ := Fls.of_row h
  refine ⟨p, cap, rfl, fun hp => ?_⟩
  obtain ⟨g, rfl, hf⟩ := hF hp
  exact ⟨g, rfl, Nat.lt_of_lt_of_le hB (h.lt g rfl).1, hf⟩
theorem take_nthF (fs : List Fl) (l : Nat) (h : l < fs.length) : fs.take (l + 1) = fs.take l ++ [nthF fs l] := by
  rw [nthF_get fs l h]; simp

set_option maxRecDepth 100000 in
set_option maxHeartbeats 4000000 in
theorem Longest_ok (n b off c : Nat) (xs : List Nat) (w : World) (hv : VAt w b off c n xs) :
    Calls Try.prog 93 #[.agg #[.int .i64 (n : Int), .slice (some ⟨b, off, none⟩) xs.length c]] w
      fun e w' => e = .returned (.tuple #[.agg #[.int .i64 (doneM n xs 2 1 false : Int), .int .i64 (doneM n xs 2 1 true : Int), .int .i64 (doneM n xs 2 2 true : Int), .int .i64 (doneM n xs 2 2 false : Int)], .int .i64 0]) ∧ Below w.heap.size w w' := by
  have Hc := fun o o2 => check_res n (some ⟨b, off, none⟩) c (ints xs) w o o2 (by rw [ints_len]; exact hv.reads) 0 hv.ok.check
  simp only [ints_len] at Hc
  have n0 := hv.ok.n0
  have n1 := hv.ok.n1
  have l0 := hv.ok.l0
  have l1 := hv.ok.l1
  have HV := Lib.hid hv
  clear hv
  obtain ⟨g10, e10⟩ : ∃ x, doneM n xs 2 1 false = x := ⟨_, rfl⟩
  obtain ⟨g11, e11⟩ : ∃ x, doneM n xs 2 1 true = x := ⟨_, rfl⟩
  obtain ⟨g21, e21⟩ : ∃ x, doneM n xs 2 2 true = x := ⟨_, rfl⟩
  obtain ⟨g20, e20⟩ : ∃ x, doneM n xs 2 2 false = x := ⟨_, rfl⟩
  rw [e10, e11, e21, e20]
  have E10 := Lib.hid e10
  have E11 := Lib.hid e11
  have E21 := Lib.hid e21
  have E20 := Lib.hid e20
  clear e10 e11 e21 e20
  have hmm := @run_makeMap Try.prog
  go_enter Try.func93, Try.ntmps93
  go_wp2_with fail
  refine (Hc _ _).mono ?_
  rintro e w1 ⟨rfl, hb1⟩
  have q : LRes w1 (w.heap.size + 1) := ((LRes.new (w.alloc (.cells #[.int .i64 (n : Int), .slice (some ⟨b, off, none⟩) xs.length c] 37))).below hb1 (by simp)) |> (fun h => by simpa using h)
  have d0 : w1.cell? ⟨w.heap.size, 0, none⟩ = some (.int .i64 (n : Int)) := (hb1.cell (p := ⟨w.heap.size, 0, none⟩) (by show w.heap.size < w.heap.size + 1 + 1; omega)).trans (by simp)
  have d1 : w1.cell? ⟨w.heap.size, 1, none⟩ = some (.slice (some ⟨b, off, none⟩) xs.length c) := (hb1.cell (p := ⟨w.heap.size, 1, none⟩) (by show w.heap.size < w.heap.size + 1 + 1; omega)).trans (by simp)
  have hB1 : Below w.heap.size w w1 := (((Below.refl w.heap.size w).alloc (Nat.le_refl _) _).alloc (by simp) _).trans (hb1.mono (by omega))
  have hlo : w.heap.size + 1 < w1.heap.size := q.lt
  have ha : Below w1.heap.size w1 (w1.alloc (.map #[] 0)) := (Below.refl _ _).alloc (Nat.le_refl _) _
  have hL0 : LAt w n b off c xs w1.heap.size 0 (doneM n xs 0) (w1.alloc (.map #[] 0)) := by
    refine ⟨(DBox.below (W := w1) ⟨d0, d1⟩ ha (by omega)), q.below ha q.lt, ?_, hB1.trans (ha.mono (by omega)), hlo⟩
    have e : doneM n xs 0 = fun _ _ => 0 := by funext a b; unfold doneM; rw [if_neg (by omega)]
    rw [e]
    exact SideMap.made w1
  have HL0 := Lib.hid hL0
  clear hL0 hb1 q d0 d1 hB1 ha
  go_wp2_with fail
  obtain ⟨mb, hmb⟩ : ∃ mb, w1.heap.size = mb := ⟨_, rfl⟩
  obtain ⟨W1, hW1⟩ : ∃ W1, w1.alloc (.map #[] 0) = W1 := ⟨_, rfl⟩
  rw [hmb, hW1] at HL0
  rw [hW1, hmb]
  clear hmb hW1 hlo hmm
  go_loopw [20] (fun j wr => ∃ jj k : Nat, jj ≤ 2 ∧ j = .int .i64 jj ∧ k ≤ jj * 3600 ∧ LAt w n b off c xs mb k (doneM n xs jj) wr) (fun j _ => 2 - (intOf j).toNat)
  case atStart => exact ⟨0, 0, by omega, rfl, by omega, HL0.out⟩
  case round =>
    obtain ⟨jj, k, hj, rfl, hk, hL⟩ := hrel
    clear HL0
    by_cases hlt : jj < 2
    · obtain ⟨al, hal⟩ : ∃ al, jj + 1 = al := ⟨_, rfl⟩
      obtain ⟨fs, hfs⟩ : ∃ fs, floatsAl n xs al = fs := ⟨_, rfl⟩
      have hal2 : al = 1 ∨ al = 2 := by omega
      have hfl : fs.length ≤ 3600 ∧ ∀ i, i < fs.length → (nthF fs i).length ≤ 1000 := by
        rw [← hfs]; unfold floatsAl
        rcases hal2 with rfl | rfl
        · rw [if_pos rfl]
          exact ⟨flW_all_len n xs 0 n0 n1 l1, fun i hi => (flW_mem n0 n1 (nthF_mem _ i hi)).2.2⟩
        · rw [if_neg (by omega)]
          exact ⟨flH_all_len n xs 0 n1 l0 l1, fun i hi => (flH_mem l0 l1 (nthF_mem _ i hi)).2.2⟩
      have HF : Hid (∀ (bb : Nat) (W : World), VAt W b off c n xs → W.cell? ⟨bb, 0, none⟩ = some (.int .i64 0) → Calls Try.prog 144 #[.agg #[.int .i64 (n : Int), .slice (some ⟨b, off, none⟩) xs.length c], .int .i64 (al : Int), .func (.func 193) #[] #[.pointer (some ⟨bb, 0, none⟩)]] W
          fun e w' => ∃ v, e = .returned v ∧ w'.ownsRow W.heap.size 149 4 v fs.length (flCells fs) ∧ Below W.heap.size W w') := Lib.hid (by
        intro bb W hW hb
        rw [← hfs]; unfold floatsAl
        rcases hal2 with rfl | rfl
        · rw [if_pos rfl]
          exact floatsW_any n b off c bb 0 xs W ⟨hW.ok.n0, hW.ok.n1⟩ hW.ok.l1 hW.lt hW.at' hW.ok.lt' hb
        · rw [if_neg (by omega)]
          exact floatsH_any n b off c bb 0 xs W ⟨hW.ok.n0, hW.ok.n1⟩ ⟨hW.ok.l0, hW.ok.l1⟩ hW.lt hW.at' hW.ok.lt' hb)
      have hidx : ∀ W, (Instr.index 219 (.agg #[.int .i64 1, .int .i64 2]) (.int .i64 (jj : Int))).run Try.prog W = .ok (.int .i64 (al : Int)) W := by
        have h01 : jj = 0 ∨ jj = 1 := by omega
        subst hal
        rcases h01 with rfl | rfl
        · exact fun _ => by kernel_rfl
        · exact fun _ => by kernel_rfl
      obtain ⟨hfn, hfm⟩ := hfl
      have hj0 : (0 : Int) ≤ (jj : Int) := by omega
      have hj1 : (jj : Int) < 2 := by omega
      have HM := Lib.hid hfm
      have HFS := Lib.hid hfs
      have HAL := Lib.hid hal
      have HAL2 := Lib.hid hal2
      have ha : Below wr.heap.size wr (wr.alloc (.cells #[.int .i64 0] 3)) := (Below.refl _ _).alloc (Nat.le_refl _) _
      have hz := hL.d.lt
      have d0 := hL.d.c0
      have d1 := hL.d.c1
      have hd0a := (ha.cell (p := ⟨w.heap.size, 0, none⟩) hz).trans d0
      have hd1a := (ha.cell (p := ⟨w.heap.size, 1, none⟩) hz).trans d1
      have HVa : Hid (VAt (wr.alloc (.cells #[.int .i64 0] 3)).drew b off c n xs) := Lib.hid (HV.out.below (hL.below.trans (ha.mono hL.below.size)).drew)
      have HL := Lib.hid hL
      have HA := Lib.hid ha
      have hmbs : mb < wr.heap.size := hL.m.lt
      clear hL ha hfs hal hal2 hfm
      go_wp2_with fail
      go_region_with (first | (go_at_call 145; refine (longerThan_any _ _).mono ?_; rintro e w2 ⟨rfl, rfl⟩) | (go_at_call 144; refine (HF.out wr.heap.size _ HVa.out (by simp)).mono ?_; rintro e w3 ⟨v, rfl, hrow, hb3⟩; obtain ⟨p, cap, rfl, hFl⟩ := FlsFar.of_row (mb := mb) hrow (by simp; omega); have HFl := Lib.hid hFl; have HB3 := Lib.hid hb3; clear hrow hFl hb3))
      all_goals go_wp2_with fail
      all_goals
        (have hL3 := HL.out.next (HA.out.drew.trans (HB3.out.mono (by simp)))
         have HL3 := Lib.hid hL3
         clear hL3 HL HB3 HA HVa hd0a hd1a d0 d1 hz
         simp only [List.getElem_toArray, List.getElem_cons_succ, List.getElem_cons_zero, Act.put, List.setIfInBounds_toArray, List.set_cons_succ, List.set_cons_zero]
         go_loopw [29] (fun i wi => ∃ l k' : Nat, l ≤ fs.length ∧ i = .int .i64 l ∧ k' ≤ jj * 3600 + l ∧ LAt w n b off c xs mb k' (midM (doneM n xs jj) al (maxF (fs.take l))) wi ∧ FlsFar wi mb p fs) (fun i _ => fs.length - (intOf i).toNat)
         case atStart =>
           refine ⟨0, k, Nat.zero_le _, rfl, by omega, ?_, HFl.out⟩
           rw [List.take_zero, ← HAL.out, midM_start]
           exact HL3.out
         case round =>
           obtain ⟨l, k2, hl, rfl, hk2, hL, hF⟩ := hrel
           clear HL3 HFl
           by_cases hll : l < fs.length
           · obtain ⟨g, rfl, hgB, hFA⟩ := hF (by omega)
             obtain ⟨f, hf⟩ : ∃ f, f = nthF fs l := ⟨_, rfl⟩
             have hfk := HM.out l hll
             have c0 := hFA.c0 l hll
             have c1 := hFA.c1 l hll
             have c2 := hFA.c2 l hll
             have c3 := hFA.c3 l hll
             rw [← hf] at c0 c1 c2 c3 hfk
             have hk0 : (0 : Int) ≤ (l : Int) := by omega
             have hk1 : (l : Int) < (fs.length : Int) := by omega
             have hB2 : Below wr.heap.size wr ((wr.alloc (.cells #[.int .i64 (f.pick : Int), .int .i64 (f.hook : Int), .int .i64 (f.length : Int), .bool f.lifted] 149)).alloc (.cells #[.int .i64 (al : Int), .bool f.lifted] 221)).drew := (((Below.refl _ _).alloc (Nat.le_refl _) _).alloc (by simp) _).drew
             have hL2 := hL.next hB2
             have hF2 : FlsFar ((wr.alloc (.cells #[.int .i64 (f.pick : Int), .int .i64 (f.hook : Int), .int .i64 (f.length : Int), .bool f.lifted] 149)).alloc (.cells #[.int .i64 (al : Int), .bool f.lifted] 221)).drew mb (some ⟨g, 0, none⟩) fs := FlsFar.next hF hB2
             have hlk := hL2.m.lookup f.lifted HAL2.out
             obtain ⟨G, hG⟩ : ∃ G, midM (doneM n xs jj) al (maxF (fs.take l)) al f.lifted = G := ⟨_, rfl⟩
             have hGle : G ≤ 1000 := by
               rw [← hG]; unfold midM; rw [if_pos rfl]
               refine maxF_le _ _ _ fun x hx => ?_
               obtain ⟨i, hi, rfl⟩ := List.mem_iff_getElem.1 (List.mem_of_mem_take hx)
               have := HM.out i hi
               rwa [nthF_get fs i hi] at this
             have hst := midM_step (doneM n xs jj) al (fs.take l) f
             rw [hG] at hlk hst
             have htk : fs.take l ++ [f] = fs.take (l + 1) := by rw [take_nthF fs l hll, hf]
             rw [htk] at hst
             obtain ⟨w5, hup, hm5, hg5⟩ := hL2.m.update f.lifted HAL2.out (max G f.length) (by omega) (by omega)
             rw [hst] at hm5
             unfold sideV at hlk hup
             have HL5 := Lib.hid (hL2.put hg5 hm5)
             have HF5 := Lib.hid (hF2.put hg5)
             clear hL2 hF2 hm5 hg5 hst htk hG hf hFA hL hF hB2
             obtain ⟨M, hM, hMM⟩ : ∃ M : Nat, max G f.length = M ∧ ((G < f.length ∧ M = f.length) ∨ (¬ G < f.length ∧ M = G)) := ⟨_, rfl, by omega⟩
             rw [hM] at hup
             clear hM
             rcases hMM with ⟨hle, rfl⟩ | ⟨hle, rfl⟩
             all_goals go_wp2_with fail
             all_goals go_region
             all_goals go_wp2_with fail
             all_goals go_roundw
             all_goals first | (simp [intOf]; omega) | exact ⟨l + 1, k2 + 1, by omega, by go_num, by omega, HL5.out, HF5.out⟩
           · obtain rfl : l = fs.length := by omega
             rw [List.take_length] at hL
             have HL4 := Lib.hid hL
             clear hL hF
             go_wp2_with fail
             go_roundw
             case rel =>
               refine ⟨jj + 1, k2, by omega, by go_num, by omega, ?_⟩
               have := midM_end n xs jj fs (by rw [HAL.out]; exact HFS.out)
               rw [HAL.out] at this
               rw [HAL.out, ← this]
               exact HL4.out
             case measure => simp [intOf]; omega)
    · have h2 : jj = 2 := by omega
      have hj2 : ¬ (jj : Int) < 2 := by omega
      rw [h2] at hL
      clear h2
      have hB2 : Below wr.heap.size wr wr.drew := (Below.refl _ _).drew
      have hL2 := hL.next hB2
      have r0 := hL.r.c 0 (by omega)
      have r1 := hL.r.c 1 (by omega)
      have r2 := hL.r.c 2 (by omega)
      have r3 := hL.r.c 3 (by omega)
      have f0 := hL.r.f 0
      have f1 := hL.r.f 1
      have f2 := hL.r.f 2
      have f3 := hL.r.f 3
      have q10 : (Instr.lookup 218 (.map (some mb)) (.agg #[.int .i64 1, .bool false]) false).run Try.prog wr.drew = .ok (.int .i64 (g10 : Int)) wr.drew := E10.out ▸ hL2.m.lookup false (.inl rfl)
      have q11 : (Instr.lookup 218 (.map (some mb)) (.agg #[.int .i64 1, .bool true]) false).run Try.prog wr.drew = .ok (.int .i64 (g11 : Int)) wr.drew := E11.out ▸ hL2.m.lookup true (.inl rfl)
      have q21 : (Instr.lookup 218 (.map (some mb)) (.agg #[.int .i64 2, .bool true]) false).run Try.prog wr.drew = .ok (.int .i64 (g21 : Int)) wr.drew := E21.out ▸ hL2.m.lookup true (.inr rfl)
      have q20 : (Instr.lookup 218 (.map (some mb)) (.agg #[.int .i64 2, .bool false]) false).run Try.prog wr.drew = .ok (.int .i64 (g20 : Int)) wr.drew := E20.out ▸ hL2.m.lookup false (.inr rfl)
      have HL2 := Lib.hid hL2
      have HLb := Lib.hid hL.below
      clear hL2 hB2 hL
      go_wp2_with fail
      go_region
      all_goals go_wp2_with fail
      all_goals refine bodyPost_ret (v := .tuple #[.agg #[.int .i64 (g10 : Int), .int .i64 (g11 : Int), .int .i64 (g21 : Int), .int .i64 (g20 : Int)], .int .i64 0]) ?_ rfl ⟨rfl, ?_⟩
      all_goals first
        | exact (((((HLb.out.setCell (by simp) _).setCell (by simp) _).setCell (by simp) _).setCell (by simp) _)).drew
        | exact (((((HLb.out.setCell (by simp) _).setCell (by simp) _).setCell (by simp) _).setCell (by simp) _))
        | simp [results, Try.results93, go_sem, r0, r1, r2, r3]
end Go.Proofs.Ytdmgffoikebgkaa
/- A design that is woven round after round, from any card on: the least repeat and the longest floats stay. -/
namespace Go.Proofs.Ytdmgffoikebgkaa
open Go.RowKit

/-- a point of a design that goes round -/
def pt (n : Nat) (xs : List Nat) (i j : Nat) : Bool := bitN (nthN xs (i % xs.length)) (j % n)
def Whole (f : Nat → Nat → Bool) (N m p : Nat) : Prop := N % p = 0 ∧ ∀ i, i < N → ∀ h, h < m → f i h = f (i % p) h
theorem painted_eq {g : Nat → Nat → Bool} {N m : Nat} {xs : List Nat} (hl : xs.length = N) (hx : ∀ i, nthN xs i < 2 ^ m) :
    painted g N m = xs ↔ ∀ i, i < N → ∀ j, j < m → g i j = bitN (nthN xs i) j := by
  constructor
  · intro h i hi j hj
    have e : nthN xs i = rowTo (g i) m := by rw [← h]; simp [nthN, painted, hi]
    rw [e]; unfold bitN; rw [rowTo_bit]; simp [hj]
  · intro h
    apply List.ext_getElem
    · rw [painted_len, hl]
    · intro i h1 h2
      rw [painted_len] at h1
      have e : (painted g N m)[i] = rowTo (g i) m := by simp [painted]
      rw [e, ← nthN_get xs i h2]
      apply Nat.eq_of_testBit_eq
      intro j
      rw [rowTo_bit]
      by_cases hj : j < m
      · have := h i h1 j hj
        simp [hj, this, bitN]
      · have hlt : nthN xs i < 2 ^ j := Nat.lt_of_lt_of_le (hx i) (Nat.pow_le_pow_right (by decide) (by omega))
        rw [Nat.testBit_lt_two_pow hlt]; simp [hj]
/-- shifted by a divisor it is the same just if it is its first part, repeated -/
theorem shift_rep {α : Type} (f : Nat → α) (N k : Nat) (hk : 1 ≤ k) (_hkN : k ≤ N) (hd : N % k = 0) : (∀ i, i < N → f ((i + N - k) % N) = f i) ↔ (∀ i, i < N → f i = f (i % k)) := by
  constructor
  · intro h i
    induction i using Nat.strongRecOn with
    | ind i ih =>
      intro hi
      by_cases hik : i < k
      · rw [Nat.mod_eq_of_lt hik]
      · have e : (i + N - k) % N = i - k := by
          rw [show i + N - k = (i - k) + N by omega, Nat.add_mod_right, Nat.mod_eq_of_lt (by omega)]
        have h1 := h i hi
        rw [e] at h1
        rw [← h1, ih (i - k) (by omega) (by omega)]
        congr 1
        conv => rhs; rw [show i = (i - k) + k by omega, Nat.add_mod_right]
  · intro h i hi
    have hN : 0 < N := by omega
    have hj : (i + N - k) % N < N := Nat.mod_lt _ hN
    rw [h _ hj, h i hi]
    congr 1
    rw [Nat.mod_mod_of_dvd _ (Nat.dvd_of_mod_eq_zero hd)]
    obtain ⟨q, hq⟩ := Nat.dvd_of_mod_eq_zero hd
    have hq1 : 1 ≤ q := by
      rcases Nat.eq_zero_or_pos q with h0 | h0
      · subst h0; omega
      · exact h0
    obtain ⟨r, rfl⟩ : ∃ r, q = r + 1 := ⟨q - 1, by omega⟩
    have : i + N - k = i + k * r := by rw [hq, Nat.mul_add, Nat.mul_one]; omega
    rw [this, Nat.add_mul_mod_self_left]
theorem repB_rows {n : Nat} {xs : List Nat} (hv : Valid n xs) (k : Nat) (hk : 1 ≤ k) (hkN : k < xs.length) (hd : xs.length % k = 0) :
    repB xs n k 0 = true ↔ ∀ i, i < xs.length → ∀ j, j < n → bitN (nthN xs i) j = bitN (nthN xs (i % k)) j := by
  unfold repB
  rw [decide_eq_true_iff, painted_eq rfl hv.lt]
  have e : ∀ i, i < xs.length → ∀ j, j < n → shG xs n k 0 i j = bitN (nthN xs ((i + xs.length - k) % xs.length)) j := fun i _ j hj => by
    unfold shG; rw [show (j + n - 0) % n = j by rw [Nat.sub_zero, Nat.add_mod_right, Nat.mod_eq_of_lt hj]]
  have s := fun j => shift_rep (fun i => bitN (nthN xs i) j) xs.length k hk (by omega) hd
  constructor
  · intro h i hi j hj
    exact (s j).1 (fun i hi => by rw [← e i hi j hj]; exact h i hi j hj) i hi
  · intro h i hi j hj
    rw [e i hi j hj]
    exact (s j).2 (fun i hi => h i hi j hj) i hi
theorem repB_hooks {n : Nat} {xs : List Nat} (hv : Valid n xs) (k : Nat) (hk : 1 ≤ k) (hkN : k < n) (hd : n % k = 0) :
    repB xs n 0 k = true ↔ ∀ j, j < n → ∀ i, i < xs.length → bitN (nthN xs i) j = bitN (nthN xs i) (j % k) := by
  unfold repB
  rw [decide_eq_true_iff, painted_eq rfl hv.lt]
  have e : ∀ i, i < xs.length → ∀ j, j < n → shG xs n 0 k i j = bitN (nthN xs i) ((j + n - k) % n) := fun i hi j _ => by
    unfold shG; rw [show (i + xs.length - 0) % xs.length = i by rw [Nat.sub_zero, Nat.add_mod_right, Nat.mod_eq_of_lt hi]]
  have s := fun i => shift_rep (fun j => bitN (nthN xs i) j) n k hk (by omega) hd
  constructor
  · intro h j hj i hi
    exact (s i).1 (fun j hj => by rw [← e i hi j hj]; exact h i hi j hj) j hj
  · intro h i hi j hj
    rw [e i hi j hj]
    exact (s i).2 (fun j hj => h j hj i hi) j hj
theorem leastN_facts (rep : Nat → Bool) (n : Nat) (hn : 1 ≤ n) : 1 ≤ leastN rep n ∧ leastN rep n ≤ n ∧ (leastN rep n < n → n % leastN rep n = 0 ∧ rep (leastN rep n) = true) ∧ NoneTo rep n (leastN rep n) := by
  by_cases h : ∃ j, 1 ≤ j ∧ j < n ∧ n % j = 0 ∧ rep j = true
  · have hd : ∃ j, (1 ≤ j ∧ j < n ∧ n % j = 0 ∧ rep j = true) ∧ ∀ i, i < j → ¬ (1 ≤ i ∧ i < n ∧ n % i = 0 ∧ rep i = true) := by
      obtain ⟨j, hj⟩ := h
      induction j using Nat.strongRecOn with
      | ind j ih =>
        by_cases hm : ∃ i, i < j ∧ (1 ≤ i ∧ i < n ∧ n % i = 0 ∧ rep i = true)
        · obtain ⟨i, hij, hi⟩ := hm
          exact ih i hij hi
        · exact ⟨j, hj, fun i hij hi => hm ⟨i, hij, hi⟩⟩
    obtain ⟨j, ⟨h1, h2, h3, h4⟩, h5⟩ := hd
    have hno : NoneTo rep n j := fun i hi hij hr => h5 i hij ⟨hi, by omega, hr.1, hr.2⟩
    rw [leastN_at h1 h2 hno h3 h4]
    exact ⟨h1, by omega, fun _ => ⟨h3, h4⟩, hno⟩
  · have hno : NoneTo rep n n := fun i hi hij hr => h ⟨i, hi, hij, hr.1, hr.2⟩
    rw [leastN_end hn hno]
    exact ⟨hn, Nat.le_refl _, fun h => by omega, hno⟩
theorem whole_least (rep : Nat → Bool) (f : Nat → Nat → Bool) (N m : Nat) (hN : 1 ≤ N) (hr : ∀ k, 1 ≤ k → k < N → N % k = 0 → (rep k = true ↔ ∀ i, i < N → ∀ h, h < m → f i h = f (i % k) h)) :
    1 ≤ leastN rep N ∧ leastN rep N ≤ N ∧ Whole f N m (leastN rep N) ∧ ∀ i, 1 ≤ i → i < leastN rep N → ¬ Whole f N m i := by
  obtain ⟨h1, h2, h3, h4⟩ := leastN_facts rep N hN
  refine ⟨h1, h2, ?_, fun i hi hil hw => ?_⟩
  · by_cases h : leastN rep N < N
    · obtain ⟨a, b⟩ := h3 h
      exact ⟨a, (hr _ h1 h a).1 b⟩
    · have e : leastN rep N = N := by omega
      rw [e]
      exact ⟨Nat.mod_self N, fun i hi h _ => by rw [Nat.mod_eq_of_lt hi]⟩
  · exact h4 i hi hil ⟨hw.1, (hr i hi (by omega) hw.1).2 hw.2⟩
theorem least_rows {n : Nat} {xs : List Nat} (hv : Valid n xs) : let j := leastN (fun k => repB xs n k 0) xs.length
    1 ≤ j ∧ j ≤ xs.length ∧ Whole (fun i j => bitN (nthN xs i) j) xs.length n j ∧ ∀ i, 1 ≤ i → i < j → ¬ Whole (fun i j => bitN (nthN xs i) j) xs.length n i :=
  whole_least _ _ _ _ hv.l0 fun k h1 h2 h3 => repB_rows hv k h1 h2 h3
theorem least_hooks {n : Nat} {xs : List Nat} (hv : Valid n xs) : let j := leastN (fun k => repB xs n 0 k) n
    1 ≤ j ∧ j ≤ n ∧ Whole (fun j i => bitN (nthN xs i) j) n xs.length j ∧ ∀ i, 1 ≤ i → i < j → ¬ Whole (fun j i => bitN (nthN xs i) j) n xs.length i :=
  whole_least _ _ _ _ hv.n0 fun k h1 h2 h3 => repB_hooks hv k h1 h2 h3
def ringG (s p i : Nat) : Bool := bitN p (i % s)
def HasRun (g : Nat → Bool) (v : Bool) (k : Nat) : Prop := ∃ f, ∀ j, j < k → g (f + j) = v
theorem bits_eq {s p q : Nat} (hp : p < 2 ^ s) (hq : q < 2 ^ s) (h : ∀ j, j < s → bitN p j = bitN q j) : p = q := by
  refine Nat.eq_of_testBit_eq fun j => ?_
  by_cases hj : j < s
  · exact h j hj
  · rw [Nat.testBit_lt_two_pow (Nat.lt_of_lt_of_le hp (Nat.pow_le_pow_right (by decide) (by omega))), Nat.testBit_lt_two_pow (Nat.lt_of_lt_of_le hq (Nat.pow_le_pow_right (by decide) (by omega)))]
theorem alike_iff {s p : Nat} (hs : 0 < s) (hp : p < 2 ^ s) : alikeB s p = true ↔ ∀ j, j < s → bitN p j = bitN p 0 := by
  have h2 : 0 < 2 ^ s := Nat.pow_pos (by decide)
  have h0 : ∀ j, bitN 0 j = false := fun j => by simp [bitN]
  have h1 : ∀ j, j < s → bitN (2 ^ s - 1) j = true := fun j hj => by simp [bitN, hj]
  constructor
  · intro h j hj
    unfold alikeB at h
    rw [Bool.or_eq_true, beq_iff_eq, beq_iff_eq] at h
    rcases h with rfl | rfl
    · rw [h0, h0]
    · rw [h1 j hj, h1 0 hs]
  · intro h
    unfold alikeB
    rw [Bool.or_eq_true, beq_iff_eq, beq_iff_eq]
    cases hv : bitN p 0 with
    | false => exact .inl (bits_eq hp h2 fun j hj => by rw [h j hj, hv, h0])
    | true => exact .inr (bits_eq hp (by omega) fun j hj => by rw [h j hj, hv, h1 j hj])
theorem leastJ {P : Nat → Prop} (n : Nat) (h : P n) : ∃ o, o ≤ n ∧ P o ∧ ∀ i, i < o → ¬ P i := by
  induction n using Nat.strongRecOn with
  | ind n ih =>
    by_cases hex : ∃ i, i < n ∧ P i
    · obtain ⟨i, hi, hP⟩ := hex
      obtain ⟨o, h1, h2, h3⟩ := ih i hi hP
      exact ⟨o, by omega, h2, h3⟩
    · exact ⟨n, Nat.le_refl _, h, fun i hi hP => hex ⟨i, hi, hP⟩⟩
theorem mod_shift (s a b : Nat) : (a % s + b) % s = (a + b) % s := by rw [Nat.mod_add_mod]
/-- a run of a ring that is long enough, just if there is a window -/
theorem run_iff {s p k : Nat} (v : Bool) (hs : 0 < s) (hs2 : s ≤ 60) (hp : p < 2 ^ s) (hk : 1 ≤ k) :
    (∃ r, r ∈ runsOf s p ∧ r.lifted = v ∧ k ≤ r.length) ↔ (k ≤ 1000 ∧ HasRun (ringG s p) v k) := by
  by_cases ha : alikeB s p = true
  · have hal := (alike_iff hs hp).1 ha
    have e : runsOf s p = [⟨0, 1000, bitN p 0⟩] := by unfold runsOf; rw [if_pos ha]
    rw [e]
    constructor
    · rintro ⟨r, hr, h1, h2⟩
      simp at hr
      subst hr
      exact ⟨h2, 0, fun j _ => by unfold ringG; rw [hal _ (Nat.mod_lt _ hs)]; exact h1⟩
    · rintro ⟨h1, f, hf⟩
      refine ⟨_, List.mem_singleton.2 rfl, ?_, h1⟩
      have := hf 0 hk
      unfold ringG at this
      rw [hal _ (Nat.mod_lt _ hs)] at this
      exact this
  · have e : runsOf s p = runsTo s p s := by unfold runsOf; rw [if_neg ha]
    rw [e]
    constructor
    · rintro ⟨r, hr, h1, h2⟩
      obtain ⟨q1, q2, q3⟩ := runsTo_mem hr
      obtain ⟨⟨_, l2⟩, l3, _⟩ := lenF_spec hs q2 q1
      have hlen : r.length = lenF s p r.first := by rw [q3]
      have hlif : r.lifted = bitN p r.first := by rw [q3]
      refine ⟨by omega, r.first, fun j hj => ?_⟩
      unfold ringG
      by_cases h0 : j = 0
      · subst h0
        rw [Nat.add_zero, Nat.mod_eq_of_lt q1, ← hlif]; exact h1
      · rw [l3 j (by omega) (by omega), ← hlif]; exact h1
    · rintro ⟨_, f, hf⟩
      have hex : ∃ x, x < s ∧ bitN p x ≠ v := by
        refine Classical.byContradiction fun hne => ha ((alike_iff hs hp).2 fun j hj => ?_)
        have hall : ∀ x, x < s → bitN p x = v := fun x hx => Classical.byContradiction fun h => hne ⟨x, hx, h⟩
        rw [hall j hj, hall 0 hs]
      obtain ⟨x, hx, hxv⟩ := hex
      -- walk back from the window
      have hP : ∃ t, ringG s p (f + s * (f + 1 + s) - 1 - t) ≠ v ∧ t < s := by
        let F := f + s * (f + 1 + s) - 1
        have hF : s * (f + 1 + s) ≥ s := Nat.le_mul_of_pos_right _ (by omega)
        by_cases h : x ≤ F % s
        · refine ⟨F % s - x, ?_, by have := Nat.mod_lt F hs; omega⟩
          have e1 : F - (F % s - x) = s * (F / s) + x := by have := Nat.div_add_mod F s; omega
          show ringG s p (F - (F % s - x)) ≠ v
          rw [e1]
          unfold ringG
          rw [Nat.mul_add_mod, Nat.mod_eq_of_lt hx]
          exact hxv
        · have hFs : s ≤ F := by
            have : s * (f + 1 + s) ≥ s + 1 := by
              have h3 : s * (f + 1 + s) = s * (f + s) + s := by rw [show f + 1 + s = (f + s) + 1 by omega, Nat.mul_succ]
              have h4 : s * (f + s) ≥ 1 := Nat.mul_pos hs (by omega)
              omega
            show s ≤ f + s * (f + 1 + s) - 1
            omega
          have hd : 1 ≤ F / s := (Nat.le_div_iff_mul_le hs).2 (by omega)
          refine ⟨F % s + s - x, ?_, by have := Nat.mod_lt F hs; omega⟩
          have h3 : s * (F / s) = s * (F / s - 1) + s := by rw [← Nat.mul_succ]; congr 1; omega
          have e1 : F - (F % s + s - x) = s * (F / s - 1) + x := by have := Nat.div_add_mod F s; omega
          show ringG s p (F - (F % s + s - x)) ≠ v
          rw [e1]
          unfold ringG
          rw [Nat.mul_add_mod, Nat.mod_eq_of_lt hx]
          exact hxv
      have hF : s * (f + 1 + s) ≥ s + 1 := by
        have h3 : s * (f + 1 + s) = s * (f + s) + s := by rw [show f + 1 + s = (f + s) + 1 by omega, Nat.mul_succ]
        have h4 : s * (f + s) ≥ 1 := Nat.mul_pos hs (by omega)
        omega
      have hXm : ∀ y, ringG s p (s * (f + 1 + s) + y) = ringG s p y := fun y => by unfold ringG; rw [Nat.mul_add_mod]
      obtain ⟨X, hX⟩ : ∃ X, s * (f + 1 + s) = X := ⟨_, rfl⟩
      rw [hX] at hP hF hXm
      clear hX
      obtain ⟨t0, ht0, hts⟩ := hP
      obtain ⟨t, htle, htv, htm⟩ := leastJ (P := fun t => ringG s p (f + X - 1 - t) ≠ v) t0 ht0
      obtain ⟨B, hB⟩ : ∃ B, B = f + X - t := ⟨_, rfl⟩
      have hBs : 1 ≤ B := by omega
      have hBv : ringG s p (B - 1) ≠ v := by rw [hB, show f + X - t - 1 = f + X - 1 - t by omega]; exact htv
      have hrun : ∀ i, i < t + k → ringG s p (B + i) = v := fun i hi => by
        by_cases h : i < t
        · have := htm (t - 1 - i) (by omega)
          rw [Classical.not_not] at this
          have e1 : B + i = f + X - 1 - (t - 1 - i) := by omega
          rw [e1]
          exact this
        · have h1 := hf (i - t) (by omega)
          have e1 : B + i = X + (f + (i - t)) := by omega
          rw [e1, hXm]
          exact h1
      have hb0 : B % s < s := Nat.mod_lt _ hs
      have hv0 : bitN p (B % s) = v := by have := hrun 0 (by omega); unfold ringG at this; simpa using this
      have hbeg : begins s p (B % s) = true := by
        unfold begins
        rw [bne_iff_ne, hv0]
        have e1 : (B % s + s - 1) % s = (B - 1) % s := by
          rw [show B % s + s - 1 = B % s + (s - 1) by omega, mod_shift, show B + (s - 1) = (B - 1) + s by omega, Nat.add_mod_right]
        rw [e1]
        exact hBv
      obtain ⟨⟨l1, l2⟩, _, l4⟩ := lenF_spec hs hbeg hb0
      refine ⟨⟨B % s, lenF s p (B % s), bitN p (B % s)⟩, ?_, hv0, ?_⟩
      · unfold runsTo
        rw [List.mem_map]
        exact ⟨B % s, by rw [List.mem_filter]; exact ⟨by simpa using hb0, hbeg⟩, rfl⟩
      · show k ≤ lenF s p (B % s)
        refine Classical.byContradiction fun h => ?_
        have := hrun (lenF s p (B % s)) (by omega)
        unfold ringG at this
        rw [← mod_shift] at this
        exact l4 (this.trans hv0.symm)
theorem maxF_iff (v : Bool) (k : Nat) (hk : 1 ≤ k) (fs : List Fl) : k ≤ maxF fs v ↔ ∃ f, f ∈ fs ∧ f.lifted = v ∧ k ≤ f.length := by
  have key : ∀ (fs : List Fl) (m : Nat), k ≤ fs.foldl (fun m f => if f.lifted = v then max m f.length else m) m ↔ (k ≤ m ∨ ∃ f, f ∈ fs ∧ f.lifted = v ∧ k ≤ f.length) := by
    intro fs
    induction fs with
    | nil => intro m; simp
    | cons x fs ih =>
      intro m
      rw [List.foldl_cons, ih]
      by_cases hx : x.lifted = v
      · rw [if_pos hx]
        constructor
        · rintro (h | ⟨f, h1, h2⟩)
          · by_cases h3 : k ≤ m
            · exact .inl h3
            · exact .inr ⟨x, by simp, hx, by omega⟩
          · exact .inr ⟨f, by simp [h1], h2⟩
        · rintro (h | ⟨f, h1, h2, h3⟩)
          · exact .inl (by omega)
          · rcases List.mem_cons.1 h1 with rfl | h1
            · exact .inl (by omega)
            · exact .inr ⟨f, h1, h2, h3⟩
      · rw [if_neg hx]
        constructor
        · rintro (h | ⟨f, h1, h2⟩)
          · exact .inl h
          · exact .inr ⟨f, by simp [h1], h2⟩
        · rintro (h | ⟨f, h1, h2, h3⟩)
          · exact .inl h
          · rcases List.mem_cons.1 h1 with rfl | h1
            · exact absurd h2 hx
            · exact .inr ⟨f, h1, h2, h3⟩
  unfold maxF
  rw [key fs 0]
  constructor
  · rintro (h | h)
    · omega
    · exact h
  · exact .inr
/-- a window along a pick, along a hook -/
def WRun (n : Nat) (xs : List Nat) (v : Bool) (k : Nat) : Prop := ∃ i, HasRun (fun j => pt n xs i j) v k
def HRun (n : Nat) (xs : List Nat) (v : Bool) (k : Nat) : Prop := ∃ h, HasRun (fun i => pt n xs i h) v k
theorem fl_mem {mk : Run → Fl} {rs : List Run} (v : Bool) (k : Nat) (hk : 1 ≤ k) (hm : ∀ r, (mk r).length = r.length ∧ (mk r).lifted = r.lifted) :
    (∃ f, f ∈ ringFl mk 0 rs ∧ f.lifted = v ∧ k ≤ f.length) ↔ ∃ r, r ∈ rs ∧ r.lifted = v ∧ k ≤ r.length := by
  unfold ringFl
  constructor
  · rintro ⟨f, h1, h2, h3⟩
    obtain ⟨r, hr, rfl⟩ := List.mem_map.1 h1
    obtain ⟨hr1, _⟩ := List.mem_filter.1 hr
    exact ⟨r, hr1, by rw [← (hm r).2]; exact h2, by rw [← (hm r).1]; exact h3⟩
  · rintro ⟨r, h1, h2, h3⟩
    exact ⟨mk r, List.mem_map.2 ⟨r, List.mem_filter.2 ⟨h1, by simp; omega⟩, rfl⟩, by rw [(hm r).2]; exact h2, by rw [(hm r).1]; exact h3⟩
theorem long_w {n : Nat} {xs : List Nat} (hv : Valid n xs) (v : Bool) (k : Nat) (hk : 1 ≤ k) : k ≤ maxF (floatsAl n xs 1) v ↔ k ≤ 1000 ∧ WRun n xs v k := by
  have hn := hv.n0
  have hn1 := hv.n1
  have hl := hv.l0
  rw [maxF_iff v k hk]
  have e : floatsAl n xs 1 = upTo (flW n xs 0) xs.length := rfl
  rw [e]
  constructor
  · rintro ⟨f, h1, h2, h3⟩
    obtain ⟨i, hi, hf⟩ := upTo_mem h1
    obtain ⟨q1, q2⟩ := (run_iff v (by omega) (by omega) (hv.lt i) hk).1 ((fl_mem v k hk (fun r => ⟨rfl, rfl⟩)).1 ⟨f, hf, h2, h3⟩)
    refine ⟨q1, i, ?_⟩
    obtain ⟨f0, hf0⟩ := q2
    exact ⟨f0, fun j hj => by show pt n xs i (f0 + j) = v; unfold pt; rw [Nat.mod_eq_of_lt hi]; exact hf0 j hj⟩
  · rintro ⟨h1, i, f0, hf0⟩
    obtain ⟨f, hf, h2, h3⟩ := (fl_mem (mk := fun r => ⟨i % xs.length, r.first, r.length, r.lifted⟩) v k hk (fun r => ⟨rfl, rfl⟩)).2 ((run_iff v (by omega) (by omega) (hv.lt (i % xs.length)) hk).2 ⟨h1, f0, hf0⟩)
    exact ⟨f, by unfold upTo; rw [List.mem_flatMap]; exact ⟨i % xs.length, by simpa using Nat.mod_lt _ (by omega), hf⟩, h2, h3⟩
theorem long_h {n : Nat} {xs : List Nat} (hv : Valid n xs) (v : Bool) (k : Nat) (hk : 1 ≤ k) : k ≤ maxF (floatsAl n xs 2) v ↔ k ≤ 1000 ∧ HRun n xs v k := by
  have hn := hv.n0
  have hl := hv.l0
  have hl1 := hv.l1
  rw [maxF_iff v k hk]
  have e : floatsAl n xs 2 = upTo (flH xs 0) n := rfl
  have hg : ∀ h i, ringG xs.length (colTo xs h xs.length) i = bitN (nthN xs (i % xs.length)) h := fun h i => by
    unfold ringG
    have := colTo_bit xs h xs.length (i % xs.length)
    rw [show decide (i % xs.length < xs.length) = true from decide_eq_true (Nat.mod_lt _ (by omega)), Bool.true_and] at this
    exact this
  rw [e]
  constructor
  · rintro ⟨f, h1, h2, h3⟩
    obtain ⟨h, hh, hf⟩ := upTo_mem h1
    obtain ⟨q1, q2⟩ := (run_iff v (by omega) (by omega) (colTo_lt xs h xs.length) hk).1 ((fl_mem v k hk (fun r => ⟨rfl, rfl⟩)).1 ⟨f, hf, h2, h3⟩)
    refine ⟨q1, h, ?_⟩
    obtain ⟨f0, hf0⟩ := q2
    exact ⟨f0, fun j hj => by show pt n xs (f0 + j) h = v; unfold pt; rw [Nat.mod_eq_of_lt hh, ← hg]; exact hf0 j hj⟩
  · rintro ⟨h1, h, f0, hf0⟩
    obtain ⟨f, hf, h2, h3⟩ := (fl_mem (mk := fun r => ⟨r.first, h % n, r.length, r.lifted⟩) v k hk (fun r => ⟨rfl, rfl⟩)).2 ((run_iff v (by omega) (by omega) (colTo_lt xs (h % n) xs.length) hk).2 ⟨h1, f0, fun j hj => by rw [hg]; exact hf0 j hj⟩)
    exact ⟨f, by unfold upTo; rw [List.mem_flatMap]; exact ⟨h % n, by simpa using Nat.mod_lt _ (by omega), hf⟩, h2, h3⟩
theorem eq_of_le {a b : Nat} (h : ∀ k, 1 ≤ k → (k ≤ a ↔ k ≤ b)) : a = b := by
  have h1 : a ≤ b := by
    by_cases h0 : a = 0
    · omega
    · exact (h a (by omega)).1 (Nat.le_refl _)
  have h2 : b ≤ a := by
    by_cases h0 : b = 0
    · omega
    · exact (h b (by omega)).2 (Nat.le_refl _)
  omega
theorem doneM_1 (n : Nat) (xs : List Nat) (v : Bool) : doneM n xs 2 1 v = maxF (floatsAl n xs 1) v := by unfold doneM; rw [if_pos ⟨by omega, by omega⟩]
theorem doneM_2 (n : Nat) (xs : List Nat) (v : Bool) : doneM n xs 2 2 v = maxF (floatsAl n xs 2) v := by unfold doneM; rw [if_pos ⟨by omega, by omega⟩]
theorem done_w {n m : Nat} {xs ys : List Nat} (hv : Valid n xs) (hv2 : Valid m ys) (v u : Bool) (h : ∀ k, WRun n xs v k ↔ WRun m ys u k) : doneM n xs 2 1 v = doneM m ys 2 1 u := by
  rw [doneM_1, doneM_1]
  exact eq_of_le fun k hk => by rw [long_w hv v k hk, long_w hv2 u k hk, h k]
theorem done_h {n m : Nat} {xs ys : List Nat} (hv : Valid n xs) (hv2 : Valid m ys) (v u : Bool) (h : ∀ k, HRun n xs v k ↔ HRun m ys u k) : doneM n xs 2 2 v = doneM m ys 2 2 u := by
  rw [doneM_2, doneM_2]
  exact eq_of_le fun k hk => by rw [long_h hv v k hk, long_h hv2 u k hk, h k]

/-- a period -/
def Per {α : Type} (g : Nat → α) (a : Nat) : Prop := ∀ i, g (i + a) = g i
section
variable {α : Type} {g : Nat → α}
theorem Per.mul {a : Nat} (h : Per g a) : ∀ q, Per g (a * q)
  | 0 => fun i => by rw [Nat.mul_zero, Nat.add_zero]
  | q + 1 => fun i => by rw [Nat.mul_succ, ← Nat.add_assoc, h]; exact Per.mul h q i
theorem Per.rem {a b : Nat} (h : Per g a) (h2 : Per g b) : Per g (b % a) := fun i => by
  have e := h.mul (b / a) (i + b % a)
  rw [← e]
  have := Nat.div_add_mod b a
  rw [show i + b % a + a * (b / a) = i + b by omega]
  exact h2 i
theorem Per.gcd (a b : Nat) : Per g a → Per g b → Per g (Nat.gcd a b) := by
  induction a, b using Nat.gcd.induction with
  | H0 n => intro _ h; rw [Nat.gcd_zero_left]; exact h
  | H1 m n _ ih => intro h1 h2; rw [Nat.gcd_rec]; exact ih (h1.rem h2) h1
theorem Per.mod {a : Nat} (h : Per g a) (i : Nat) : g i = g (i % a) := by
  have e := h.mul (i / a) (i % a)
  rw [← e]
  have := Nat.div_add_mod i a
  rw [show i % a + a * (i / a) = i by omega]
/-- the least period that divides a number -/
structure LeastP (g : Nat → α) (N j : Nat) : Prop where
  one : 1 ≤ j
  div : N % j = 0
  per : Per g j
  min : ∀ i, 1 ≤ i → i < j → ¬ (N % i = 0 ∧ Per g i)
theorem LeastP.eq {N j k : Nat} (h : LeastP g N j) (h2 : LeastP g N k) : j = k := by
  rcases Nat.lt_trichotomy j k with h3 | h3 | h3
  · exact absurd ⟨h.div, h.per⟩ (h2.min j h.one h3)
  · exact h3
  · exact absurd ⟨h2.div, h2.per⟩ (h.min k h2.one h3)
theorem LeastP.twice {N j k : Nat} (hN : 1 ≤ N) (hp : Per g N) (h : LeastP g N j) (h2 : LeastP g (N + N) k) : j = k := by
  have hd : (N + N) % j = 0 := by rw [Nat.add_mod, h.div]; simp
  have h3 : k ≤ j := Nat.not_lt.1 fun hlt => h2.min j h.one hlt ⟨hd, h.per⟩
  have hg := Per.gcd k N h2.per hp
  have g1 : 1 ≤ Nat.gcd k N := Nat.gcd_pos_of_pos_right k (by omega)
  have g2 : N % Nat.gcd k N = 0 := Nat.mod_eq_zero_of_dvd (Nat.gcd_dvd_right k N)
  have g3 : Nat.gcd k N ≤ k := Nat.gcd_le_left N h2.one
  have h4 : j ≤ Nat.gcd k N := Nat.not_lt.1 fun hlt => h.min _ g1 hlt ⟨g2, hg⟩
  omega
end
section
variable {n : Nat} {xs : List Nat}
def rowsG (n : Nat) (xs : List Nat) (i : Nat) : Nat → Bool := fun h => pt n xs i h
def hooksG (n : Nat) (xs : List Nat) (j : Nat) : Nat → Bool := fun i => pt n xs i j
theorem whole_per {f : Nat → Nat → Bool} {g : Nat → Nat → Bool} {N m k : Nat} (hN : 0 < N) (hm : 0 < m) (hk : 1 ≤ k) (hg : ∀ i h, g i h = f (i % N) (h % m)) (hd : N % k = 0) : (∀ i, i < N → ∀ h, h < m → f i h = f (i % k) h) ↔ Per g k := by
  have hdv : k ∣ N := Nat.dvd_of_mod_eq_zero hd
  constructor
  · intro hw i
    funext h
    rw [hg, hg, hw _ (Nat.mod_lt _ hN) _ (Nat.mod_lt _ hm), hw (i % N) (Nat.mod_lt _ hN) _ (Nat.mod_lt _ hm), Nat.mod_mod_of_dvd _ hdv, Nat.mod_mod_of_dvd _ hdv, Nat.add_mod_right]
  · intro hp i hi h hh
    have e1 := congrFun (hp.mod i) h
    have hkN : k ≤ N := Nat.le_of_dvd hN hdv
    rw [hg, hg, Nat.mod_eq_of_lt hi, Nat.mod_eq_of_lt hh, Nat.mod_eq_of_lt (Nat.lt_of_lt_of_le (Nat.mod_lt i hk) hkN)] at e1
    exact e1
theorem leastP_of {f : Nat → Nat → Bool} {g : Nat → Nat → Bool} {N m j : Nat} (hN : 0 < N) (hm : 0 < m) (hg : ∀ i h, g i h = f (i % N) (h % m)) (h : 1 ≤ j ∧ j ≤ N ∧ Whole f N m j ∧ ∀ i, 1 ≤ i → i < j → ¬ Whole f N m i) : LeastP g N j := by
  obtain ⟨h1, _, ⟨h3, h4⟩, h5⟩ := h
  exact ⟨h1, h3, (whole_per hN hm h1 hg h3).1 h4, fun i hi hij hp => h5 i hi hij ⟨hp.1, (whole_per hN hm hi hg hp.1).2 hp.2⟩⟩
theorem rows_leastP (hv : Valid n xs) : LeastP (rowsG n xs) xs.length (leastN (fun k => repB xs n k 0) xs.length) :=
  leastP_of hv.l0 hv.n0 (fun _ _ => rfl) (least_rows hv)
theorem hooks_leastP (hv : Valid n xs) : LeastP (hooksG n xs) n (leastN (fun k => repB xs n 0 k) n) :=
  leastP_of hv.n0 hv.l0 (fun _ _ => rfl) (least_hooks hv)
theorem rows_per : Per (rowsG n xs) xs.length := fun i => by funext h; unfold rowsG pt; rw [Nat.add_mod_right]
theorem hooks_per : Per (hooksG n xs) n := fun i => by funext h; unfold hooksG pt; rw [Nat.add_mod_right]
end

theorem LeastP.times {α : Type} {g : Nat → α} {N r j k : Nat} (hN : 1 ≤ N) (hp : Per g N) (h : LeastP g N j) (h2 : LeastP g (N * r) k) : j = k := by
  have hd : (N * r) % j = 0 := by rw [Nat.mul_mod, h.div]; simp
  have h3 : k ≤ j := Nat.not_lt.1 fun hlt => h2.min j h.one hlt ⟨hd, h.per⟩
  have hg := Per.gcd k N h2.per hp
  have g1 : 1 ≤ Nat.gcd k N := Nat.gcd_pos_of_pos_right k (by omega)
  have g2 : N % Nat.gcd k N = 0 := Nat.mod_eq_zero_of_dvd (Nat.gcd_dvd_right k N)
  have g3 : Nat.gcd k N ≤ k := Nat.gcd_le_left N h2.one
  have h4 : j ≤ Nat.gcd k N := Nat.not_lt.1 fun hlt => h.min _ g1 hlt ⟨g2, hg⟩
  omega
theorem per_shift {α : Type} {g : Nat → α} {N f a : Nat} (hN : 1 ≤ N) (hp : Per g N) : Per (fun i => g (i + f)) a ↔ Per g a := by
  constructor
  · intro h i
    have hm : f ≤ N * f := Nat.le_mul_of_pos_left f hN
    have e := hp.mul f
    rw [← e i, ← e (i + a)]
    have := h (i + N * f - f)
    simp only at this
    rw [show i + N * f - f + f = i + N * f by omega, show i + N * f - f + a + f = i + a + N * f by omega] at this
    exact this
  · intro h i
    show g (i + a + f) = g (i + f)
    rw [show i + a + f = i + f + a by omega]
    exact h _
section
variable {n N r f : Nat} {xs ys : List Nat}
/-- the rows of xs from row f on, round after round -/
def RotOf (N r f : Nat) (xs ys : List Nat) : Prop := ys.length = N * r ∧ ∀ i, i < N * r → nthN ys i = nthN xs ((f + i) % N)
theorem pt_rot (hN : xs.length = N) (hNr : 0 < N * r) (h : RotOf N r f xs ys) (i j : Nat) : pt n ys i j = pt n xs (i + f) j := by
  unfold pt
  rw [h.1, h.2 _ (Nat.mod_lt _ hNr), hN, Nat.add_mod f, Nat.mod_mod_of_dvd _ (Nat.dvd_mul_right N r), ← Nat.add_mod, Nat.add_comm f]
theorem rot_valid (hv : Valid n xs) (h : RotOf N r f xs ys) (h0 : 0 < N * r) (h1 : N * r ≤ 60) : Valid n ys := by
  refine ⟨hv.n0, hv.n1, by rw [h.1]; exact h0, by rw [h.1]; exact h1, fun i => ?_⟩
  by_cases hi : i < N * r
  · rw [h.2 i hi]; exact hv.lt _
  · have : nthN ys i = 0 := by unfold nthN; rw [List.getElem?_eq_none (by rw [h.1]; omega)]; rfl
    rw [this]; exact Nat.pow_pos (by decide)
theorem least_rot (hv : Valid n xs) (hN : xs.length = N) (h : RotOf N r f xs ys) (h0 : 0 < N * r) (h1 : N * r ≤ 60) :
    leastN (fun k => repB ys n k 0) ys.length = leastN (fun k => repB xs n k 0) xs.length ∧ leastN (fun k => repB ys n 0 k) n = leastN (fun k => repB xs n 0 k) n := by
  have hv2 := rot_valid hv h h0 h1
  have l0 := hv.l0
  have e1 : rowsG n ys = fun i => rowsG n xs (i + f) := by funext i j; exact pt_rot hN h0 h i j
  have e2 : ∀ a, Per (hooksG n ys) a ↔ Per (hooksG n xs) a := fun a => by
    constructor
    · intro hp j
      funext i
      have := congrFun (hp j) (i + (N * f - f))
      unfold hooksG at this ⊢
      rw [pt_rot hN h0 h, pt_rot hN h0 h] at this
      have hm : f ≤ N * f := Nat.le_mul_of_pos_left f (by omega)
      rw [show i + (N * f - f) + f = i + N * f by omega] at this
      unfold pt at this ⊢
      rw [hN, Nat.add_mul_mod_self_left] at this
      rw [hN]
      exact this
    · intro hp j
      funext i
      have := congrFun (hp j) (i + f)
      unfold hooksG at this ⊢
      rw [pt_rot hN h0 h, pt_rot hN h0 h]
      exact this
  have p1 : Per (rowsG n xs) N := by rw [← hN]; exact rows_per
  have a := rows_leastP hv
  have b := rows_leastP hv2
  have c := hooks_leastP hv
  have d := hooks_leastP hv2
  rw [hN] at a ⊢
  rw [e1, h.1] at b
  have b2 : LeastP (rowsG n xs) (N * r) (leastN (fun k => repB ys n k 0) ys.length) := by
    rw [h.1]
    exact ⟨b.one, b.div, (per_shift (by omega) p1).1 b.per, fun i h1 h2 h3 => b.min i h1 h2 ⟨h3.1, (per_shift (by omega) p1).2 h3.2⟩⟩
  have d2 : LeastP (hooksG n xs) n (leastN (fun k => repB ys n 0 k) n) := ⟨d.one, d.div, (e2 _).1 d.per, fun i h1 h2 h3 => d.min i h1 h2 ⟨h3.1, (e2 _).2 h3.2⟩⟩
  exact ⟨(a.times (by omega) p1 b2).symm, d2.eq c⟩
theorem long_rot (hv : Valid n xs) (hN : xs.length = N) (h : RotOf N r f xs ys) (h0 : 0 < N * r) (h1 : N * r ≤ 60) (a : Nat) (ha : a = 1 ∨ a = 2) (v : Bool) : doneM n ys 2 a v = doneM n xs 2 a v := by
  have hv2 := rot_valid hv h h0 h1
  have l0 := hv.l0
  have hm : f ≤ N * f := Nat.le_mul_of_pos_left f (by omega)
  have e : ∀ i j, pt n ys (i + (N * f - f)) j = pt n xs i j := fun i j => by
    rw [pt_rot hN h0 h, show i + (N * f - f) + f = i + N * f by omega]
    unfold pt
    rw [hN, Nat.add_mul_mod_self_left]
  rcases ha with rfl | rfl
  · refine done_w hv2 hv v v fun k => ?_
    unfold WRun
    constructor
    · rintro ⟨i, g, hg⟩
      exact ⟨i + f, g, fun j hj => by show pt n xs (i + f) (g + j) = v; rw [← pt_rot hN h0 h]; exact hg j hj⟩
    · rintro ⟨i, g, hg⟩
      exact ⟨i + (N * f - f), g, fun j hj => by show pt n ys (i + (N * f - f)) (g + j) = v; rw [e]; exact hg j hj⟩
  · refine done_h hv2 hv v v fun k => ?_
    unfold HRun
    constructor
    · rintro ⟨i, g, hg⟩
      exact ⟨i, g + f, fun j hj => by have h2 : pt n ys (g + j) i = v := hg j hj; rw [pt_rot hN h0 h] at h2; show pt n xs (g + f + j) i = v; rw [show g + f + j = g + j + f by omega]; exact h2⟩
    · rintro ⟨i, g, hg⟩
      exact ⟨i, g + (N * f - f), fun j hj => by show pt n ys (g + (N * f - f) + j) i = v; rw [show g + (N * f - f) + j = g + j + (N * f - f) by omega, e]; exact hg j hj⟩
end
end Go.Proofs.Ytdmgffoikebgkaa
/- What a chain weaves from any card on, round after round. -/
namespace Go.Proofs.Ytdmgffoikebgkaa
open Go.RowKit Go.Shelf

theorem cyl_rot (l m f : Nat) (hf : f < l) : ∀ k, k < m → cylTo l (List.replicate m 1) f k = (f + k) % l
  | 0, _ => (Nat.mod_eq_of_lt hf).symm
  | k + 1, h => by
    show (cylTo l (List.replicate m 1) f k + nthN (List.replicate m 1) k) % l = (f + (k + 1)) % l
    rw [cyl_rot l m f hf k (by omega), nthN_one _ _ (by omega), Nat.mod_add_mod, Nat.add_assoc]
theorem woven_rot (n N r f : Nat) (xs : List Nat) (hN : xs.length = N) (hf : f < N) : RotOf N r f xs (wovenTo n (punched xs N) (List.replicate (N * r) 1) f (N * r)) := by
  refine ⟨wovenTo_len _ _ _ _ _, fun i hi => ?_⟩
  rw [nthN_get _ _ (by rw [wovenTo_len]; exact hi)]
  simp only [wovenTo, List.getElem_map, List.getElem_range, punched_len]
  rw [cyl_rot _ _ _ hf _ hi, punched_nth _ _ _ (Nat.mod_lt _ (by omega))]
  simp [liftN]
end Go.Proofs.Ytdmgffoikebgkaa
/- TopRounds: the region that weaves from any card on, as many rounds as wanted. -/
namespace Go.Proofs.Ytdmgffoikebgkaa
open Go.RowKit Go.Shelf

section
variable {Q : Exit → Act → World → Prop} {K : Act → World → Prop} {a : Act} {W : World} {d s t : Nat} {ty : TypeId} {pos : String} {aft : Array Edge}
theorem step_idx93_0 {B : Nat} (hs : a.tmps[s]?.getD undef = .pointer (some ⟨B, 0, none⟩)) (hK : K (a.put (some d) (.pointer (some ⟨B, 0, none⟩))) W) : Oper.wp Try.prog ⟨some d, .indexAddr 93 (.tmp s) (.const (.int .i64 0)), ty, pos, aft, none⟩ a W K Q := by
  have e : a.eval (.tmp s) = .pointer (some ⟨B, 0, none⟩) := by rw [eval_tmp]; exact hs
  clear hs
  unfold Oper.wp
  simp only [execOp, e]
  go_simp
  exact hK
theorem step_idx93_1 {B : Nat} (hs : a.tmps[s]?.getD undef = .pointer (some ⟨B, 0, none⟩)) (hK : K (a.put (some d) (.pointer (some ⟨B, 1, none⟩))) W) : Oper.wp Try.prog ⟨some d, .indexAddr 93 (.tmp s) (.const (.int .i64 1)), ty, pos, aft, none⟩ a W K Q := by
  have e : a.eval (.tmp s) = .pointer (some ⟨B, 0, none⟩) := by rw [eval_tmp]; exact hs
  clear hs
  unfold Oper.wp
  simp only [execOp, e]
  go_simp
  exact hK
theorem step_load5 {B j : Nat} {x : Value} (hs : a.tmps[s]?.getD undef = .pointer (some ⟨B, j, none⟩)) (hc : W.cell? ⟨B, j, none⟩ = some x) (hK : K (a.put (some d) x) W) : Oper.wp Try.prog ⟨some d, .load 5 (.tmp s), ty, pos, aft, none⟩ a W K Q := by
  have e : a.eval (.tmp s) = .pointer (some ⟨B, j, none⟩) := by rw [eval_tmp]; exact hs
  clear hs
  unfold Oper.wp
  simp only [execOp, e]
  go_simp
  exact hK
theorem step_conv {x : Nat} (hx : x < 256) (hs : a.tmps[s]?.getD undef = .int .u8 (x : Int)) (hK : K (a.put (some d) (.int .i64 (x : Int))) W) : Oper.wp Try.prog ⟨some d, .convert 5 3 (.tmp s), ty, pos, aft, none⟩ a W K Q := by
  have e : a.eval (.tmp s) = .int .u8 (x : Int) := by rw [eval_tmp]; exact hs
  clear hs
  have HK := Lib.hid hK
  clear hK
  unfold Oper.wp
  simp only [execOp, e]
  go_simp
  rw [show IntKind.i64.wrap (x : Int) = (x : Int) from IntWalk.i64_in _ (by omega)]
  exact HK.out
theorem step_rem {x y : Nat} (hy : 0 < y) (hx : x < 1000000) (hs : a.tmps[s]?.getD undef = .int .i64 (x : Int)) (ht : a.tmps[t]?.getD undef = .int .i64 (y : Int)) (hK : K (a.put (some d) (.int .i64 ((x % y : Nat) : Int))) W) : Oper.wp Try.prog ⟨some d, .binOp .rem 3 (.tmp s) (.tmp t) 3, ty, pos, aft, none⟩ a W K Q := by
  have e : a.eval (.tmp s) = .int .i64 (x : Int) := by rw [eval_tmp]; exact hs
  have e2 : a.eval (.tmp t) = .int .i64 (y : Int) := by rw [eval_tmp]; exact ht
  have hne : ((y : Int) == 0) = false := by rw [beq_eq_false_iff_ne]; omega
  have hmod : (x : Int) % (y : Int) = ((x % y : Nat) : Int) := (Int.natCast_emod x y).symm
  have hy0 : ¬ (y : Int) = 0 := by omega
  have HK := Lib.hid hK
  have Hm := Lib.hid hmod
  clear hK hs ht hmod
  unfold Oper.wp
  simp only [execOp, e, e2]
  go_simp
  rw [if_neg (show ¬ y = 0 by omega), Int.tmod_eq_emod_of_nonneg (by omega), Hm.out]
  go_simp
  exact HK.out
theorem step_rem4 {x : Nat} (_hx : x < 1000000) (hs : a.tmps[s]?.getD undef = .int .i64 (x : Int)) (hK : K (a.put (some d) (.int .i64 ((x % 4 : Nat) : Int))) W) : Oper.wp Try.prog ⟨some d, .binOp .rem 3 (.tmp s) (.const (.int .i64 4)) 3, ty, pos, aft, none⟩ a W K Q := by
  have e : a.eval (.tmp s) = .int .i64 (x : Int) := by rw [eval_tmp]; exact hs
  have hmod : (x : Int) % 4 = ((x % 4 : Nat) : Int) := (Int.natCast_emod x 4).symm
  have HK := Lib.hid hK
  clear hK hs
  unfold Oper.wp
  simp only [execOp, e]
  go_simp
  exact HK.out
theorem step_add1 {x : Nat} (hx : x < 1000000) (hs : a.tmps[s]?.getD undef = .int .i64 (x : Int)) (hK : K (a.put (some d) (.int .i64 ((1 + x : Nat) : Int))) W) : Oper.wp Try.prog ⟨some d, .binOp .add 3 (.const (.int .i64 1)) (.tmp s) 3, ty, pos, aft, none⟩ a W K Q := by
  have e : a.eval (.tmp s) = .int .i64 (x : Int) := by rw [eval_tmp]; exact hs
  have HK := Lib.hid hK
  clear hK hs
  unfold Oper.wp
  simp only [execOp, e]
  go_simp
  rw [show IntKind.i64.wrap ((1 : Int) + (x : Int)) = ((1 + x : Nat) : Int) by rw [show ((1 + x : Nat) : Int) = (1 : Int) + (x : Int) by omega]; exact IntWalk.i64_in _ (by omega)]
  exact HK.out
theorem step_mul {x y : Nat} (hx : x * y < 1000000) (hs : a.tmps[s]?.getD undef = .int .i64 (x : Int)) (ht : a.tmps[t]?.getD undef = .int .i64 (y : Int)) (hK : K (a.put (some d) (.int .i64 ((x * y : Nat) : Int))) W) : Oper.wp Try.prog ⟨some d, .binOp .mul 3 (.tmp s) (.tmp t) 3, ty, pos, aft, none⟩ a W K Q := by
  have e : a.eval (.tmp s) = .int .i64 (x : Int) := by rw [eval_tmp]; exact hs
  have e2 : a.eval (.tmp t) = .int .i64 (y : Int) := by rw [eval_tmp]; exact ht
  have HK := Lib.hid hK
  clear hK hs ht
  unfold Oper.wp
  simp only [execOp, e, e2]
  go_simp
  rw [show IntKind.i64.wrap ((x : Int) * (y : Int)) = ((x * y : Nat) : Int) by rw [← Int.natCast_mul]; exact IntWalk.i64_in _ (by omega)]
  exact HK.out
end
theorem step_call84f {Q : Exit → Act → World → Prop} {K : Act → World → Prop} {a : Act} {W : World} (d s u t : Nat) (tys : Array TypeId) (ty : TypeId) (pos : String) (aft : Array Edge) {x y z : Value} {R : Ending → World → Prop}
    (hs : a.tmps[s]?.getD undef = x) (hu : a.tmps[u]?.getD undef = z) (ht : a.tmps[t]?.getD undef = y) (hc : Calls Try.prog 84 #[x, z, y] W R) (hK : ∀ e w', R e w' → ∃ v, e = .returned v ∧ K (a.put (some d) v) w') :
    Oper.wp Try.prog ⟨some d, .call { callee := .value (.func 84), args := #[.tmp s, .tmp u, .tmp t], argTypes := tys }, ty, pos, aft, none⟩ a W K Q := by
  unfold Oper.wp
  simp only [execOp]
  have HS := Lib.hid hs
  have HT := Lib.hid ht
  have HU := Lib.hid hu
  have HK := Lib.hid hK
  have HC := Lib.hid hc
  clear hs ht hu hK hc
  go_simp
  rw [HS.out, HT.out, HU.out]
  refine HC.out.mono fun en w' hr => ?_
  obtain ⟨v, rfl, hk⟩ := HK.out _ _ hr
  exact hk
theorem call84r (n L g c b cx T f : Nat) (cs : List Card) (W : World) (hL : cs.length = L) (hv : ChainOk n cs) (hf : f < L) (hc : CardsAt W g cs) (hx : NatsAt W b 0 (List.replicate T 1)) (hxb : b < W.heap.size) (hT0 : 0 < T) (hT : T ≤ 60) :
    Calls Try.prog 84 #[.agg #[.int .i64 (n : Int), .slice (some ⟨g, 0, none⟩) L c], .int .i64 (f : Int), .slice (some ⟨b, 0, none⟩) T cx] W fun e w' =>
      ∃ g' cap a, e = .returned (.tuple #[.slice (some ⟨g', 0, none⟩) T cap, .int .i64 (a : Int), .int .i64 0]) ∧ NatsAt w' g' 0 (wovenTo n cs (List.replicate T 1) f T) ∧ W.heap.size ≤ g' ∧ g' < w'.heap.size ∧ Below W.heap.size W w' := by
  subst hL
  have h := chainWeave_ok n g c f b 0 cx cs (List.replicate T 1) W ⟨hc, hv⟩ hf hx hxb (by simp; omega) (by simp; omega) (fun i => nthN_one3 _ _)
  rw [List.length_replicate] at h
  refine h.mono ?_
  rintro e w' ⟨v, rfl, h1, h2⟩
  obtain ⟨g', cap, rfl⟩ := row_slice h1 (by omega)
  obtain ⟨a, b, d⟩ := nats_of_row h1 (by omega)
  exact ⟨g', cap, _, rfl, a, d, b, h2⟩
def region_roundsF (N L T f r z x y Z g q : Nat) (rows : List Nat) : Nat → Value → World → Prop
  | 0, v, _ => v = .agg #[.int .i64 (N : Int), .slice (some ⟨g, 0, none⟩) L q]
  | 1, v, _ => v = .pointer (some ⟨Z, 0, none⟩)
  | 2, v, _ => v = .int .u8 (x : Int)
  | 3, v, _ => v = .int .i64 (x : Int)
  | 4, v, _ => v = .int .i64 (L : Int)
  | 5, v, _ => v = .int .i64 (f : Int)
  | 6, v, _ => v = .int .i64 (L : Int)
  | 7, v, _ => v = .pointer (some ⟨Z, 1, none⟩)
  | 8, v, _ => v = .int .u8 (y : Int)
  | 9, v, _ => v = .int .i64 (y : Int)
  | 10, v, _ => v = .int .i64 (z : Int)
  | 11, v, _ => v = .int .i64 (r : Int)
  | 12, v, _ => v = .int .i64 (T : Int)
  | 13, v, W => RowF T (List.replicate T 1) v W
  | 14, v, W => Tup3 T rows v W
  | 15, v, W => Tup3 T rows v W
  | 16, v, W => RowF T rows v W
  | 17, _, _ => True
  | 18, v, _ => v = .int .i64 0
  | 19, v, W => RowF T rows v W
  | 20, _, _ => True
  | _, v, _ => v = .int .i64 0
theorem region_roundsF.mono {N L T f r z x y Z g q : Nat} {rows : List Nat} : ∀ (i : Nat) (v : Value) (W W' : World), region_roundsF N L T f r z x y Z g q rows i v W → Below W.heap.size W W' → region_roundsF N L T f r z x y Z g q rows i v W'
  | 0, _, _, _, h, _ => h
  | 1, _, _, _, h, _ => h
  | 2, _, _, _, h, _ => h
  | 3, _, _, _, h, _ => h
  | 4, _, _, _, h, _ => h
  | 5, _, _, _, h, _ => h
  | 6, _, _, _, h, _ => h
  | 7, _, _, _, h, _ => h
  | 8, _, _, _, h, _ => h
  | 9, _, _, _, h, _ => h
  | 10, _, _, _, h, _ => h
  | 11, _, _, _, h, _ => h
  | 12, _, _, _, h, _ => h
  | 13, _, _, _, h, hb => RowF.mono h hb
  | 14, _, _, _, h, hb => Tup3.mono h hb
  | 15, _, _, _, h, hb => Tup3.mono h hb
  | 16, _, _, _, h, hb => RowF.mono h hb
  | 17, _, _, _, h, _ => h
  | 18, _, _, _, h, _ => h
  | 19, _, _, _, h, hb => RowF.mono h hb
  | 20, _, _, _, h, _ => h
  | _ + 21, _, _, _, h, _ => h
set_option maxRecDepth 8000 in
set_option maxHeartbeats 1000000 in
theorem region_rounds {id : Nat} {ops : Array Oper} {Q : Exit → Act → World → Prop} {a : Act} {w : World} (ds : List Nat) (b n zs N L T f r z x y Z g q B : Nat) (cs : List Card) (rows : List Nat)
    (hsize : ops.size = 22)
    (hops : IsO ops 0 (atL ds 0) (.load 114 (.tmp b)) [] ∧ IsO ops 1 (atL ds 1) (.indexAddr 93 (.tmp zs) (.const (.int .i64 0))) [] ∧ IsO ops 2 (atL ds 2) (.load 5 (.tmp (atL ds 1))) [1] ∧ IsO ops 3 (atL ds 3) (.convert 5 3 (.tmp (atL ds 2))) [2] ∧ IsO ops 4 (atL ds 4) (.move (.tmp n)) [] ∧ IsO ops 5 (atL ds 5) (.binOp .rem 3 (.tmp (atL ds 3)) (.tmp (atL ds 4)) 3) [3, 4] ∧ IsO ops 6 (atL ds 6) (.move (.tmp n)) [] ∧ IsO ops 7 (atL ds 7) (.indexAddr 93 (.tmp zs) (.const (.int .i64 1))) [] ∧ IsO ops 8 (atL ds 8) (.load 5 (.tmp (atL ds 7))) [7] ∧ IsO ops 9 (atL ds 9) (.convert 5 3 (.tmp (atL ds 8))) [8] ∧ IsO ops 10 (atL ds 10) (.binOp .rem 3 (.tmp (atL ds 9)) (.const (.int .i64 4)) 3) [9] ∧ IsO ops 11 (atL ds 11) (.binOp .add 3 (.const (.int .i64 1)) (.tmp (atL ds 10)) 3) [10] ∧ IsO ops 12 (atL ds 12) (.binOp .mul 3 (.tmp (atL ds 6)) (.tmp (atL ds 11)) 3) [6, 11] ∧ IsO ops 13 (atL ds 13) (.call { callee := .value (.func 86), args := #[.tmp (atL ds 12)], argTypes := #[3] }) [12] ∧ IsO ops 14 (atL ds 14) (.call { callee := .value (.func 84), args := #[.tmp (atL ds 0), .tmp (atL ds 5), .tmp (atL ds 13)], argTypes := #[114, 3, 24] }) [0, 5, 13] ∧ IsO ops 15 (atL ds 15) (.move (.tmp (atL ds 14))) [14] ∧ IsO ops 16 (atL ds 16) (.extract (.tmp (atL ds 15)) 0) [15] ∧ IsO ops 17 (atL ds 17) (.extract (.tmp (atL ds 15)) 1) [15] ∧ IsO ops 18 (atL ds 18) (.extract (.tmp (atL ds 15)) 2) [15] ∧ IsO ops 19 (atL ds 19) (.assign (.tmp (atL ds 16))) [16] ∧ IsO ops 20 (atL ds 20) (.assign (.tmp (atL ds 17))) [17] ∧ IsO ops 21 (atL ds 21) (.assign (.tmp (atL ds 18))) [18])
    (hlen : ds.length = 22) (hb : backB ops = true) (hd : dB ops ds = true) (hnd : ds.Nodup) (hsz : ∀ e ∈ ds, e < a.tmps.size)
    (hout : a.eval (.tmp b) = .pointer (some ⟨B, 0, none⟩) ∧ b ∉ ds ∧ a.eval (.tmp n) = .int .i64 (L : Int) ∧ n ∉ ds ∧ a.eval (.tmp zs) = .pointer (some ⟨Z, 0, none⟩) ∧ zs ∉ ds)
    (hbox : BoxAt w B #[.int .i64 (N : Int), .slice (some ⟨g, 0, none⟩) L q] 114) (hzb : BoxAt w Z #[.int .u8 (x : Int), .int .u8 (y : Int)] 93) (hx : x < 256) (hy : y < 256) (hfx : x % L = f) (hzy : y % 4 = z) (hr : 1 + z = r) (hT : L * r = T) (hT0 : 0 < T) (hT1 : T ≤ 60) (hf : f < L)
    (hc : CardsAt w g cs) (hL : cs.length = L) (hv : ChainOk N cs) (hrows : wovenTo N cs (List.replicate T 1) f T = rows)
    (hend : ∀ v W, RowRow w T rows (v (atL ds 19)) (v (atL ds 21)) W → Q .normal (laid a ds v) W) :
    (Code.region id ops true).wp Try.prog Q a w := by
  obtain ⟨h0, h1, h2, h3, h4, h5, h6, h7, h8, h9, h10, h11, h12, h13, h14, h15, h16, h17, h18, h19, h20, h21⟩ := hops
  obtain ⟨o0, p0, o1, p1, o2, p2⟩ := hout
  have l0 := hv.l0
  have l1 := hv.l1
  refine region_grow ds [(b, .pointer (some ⟨B, 0, none⟩)), (n, .int .i64 (L : Int)), (zs, .pointer (some ⟨Z, 0, none⟩))] (region_roundsF N L T f r z x y Z g q rows) (by rw [hlen, hsize]) hb hd hnd hsz ?_ region_roundsF.mono ?_ ?_
  · intro q hq
    simp only [List.mem_cons, List.not_mem_nil, or_false] at hq
    rcases hq with rfl | rfl | rfl
    · exact ⟨o0, p0⟩
    · exact ⟨o1, p1⟩
    · exact ⟨o2, p2⟩
  · intro i o ho
    have hi : i < 22 := by rw [← hsize]; exact (Array.getElem?_eq_some_iff.1 ho).1
    match i, hi with
    | 0, _ =>
      obtain ⟨ty, pos, aft, e, hdp⟩ := h0
      rw [e] at ho
      obtain rfl := Option.some.inj ho
      intro a' v W Kc hB hq hdd hK
      exact step_load114 (hq (b, _) (by simp)) (hbox.next hB) (hK _ _ (Below.refl _ _) rfl)
    | 1, _ =>
      obtain ⟨ty, pos, aft, e, hdp⟩ := h1
      rw [e] at ho
      obtain rfl := Option.some.inj ho
      intro a' v W Kc hB hq hdd hK
      exact step_idx93_0 (hq (zs, _) (by simp)) (hK _ _ (Below.refl _ _) rfl)
    | 2, _ =>
      obtain ⟨ty, pos, aft, e, hdp⟩ := h2
      rw [e] at ho
      obtain rfl := Option.some.inj ho
      intro a' v W Kc hB hq hdd hK
      obtain ⟨f1, t1⟩ := hdd 1 (List.all_eq_true.1 hdp 1 (by decide))
      have e1 : v 1 = .pointer (some ⟨Z, 0, none⟩) := f1
      rw [e1] at t1
      exact step_load5 t1 ((hzb.next hB).cell' 0 rfl) (hK _ _ (Below.refl _ _) rfl)
    | 3, _ =>
      obtain ⟨ty, pos, aft, e, hdp⟩ := h3
      rw [e] at ho
      obtain rfl := Option.some.inj ho
      intro a' v W Kc hB hq hdd hK
      obtain ⟨f2, t2⟩ := hdd 2 (List.all_eq_true.1 hdp 2 (by decide))
      have e2 : v 2 = .int .u8 (x : Int) := f2
      rw [e2] at t2
      exact step_conv hx t2 (hK _ _ (Below.refl _ _) rfl)
    | 4, _ =>
      obtain ⟨ty, pos, aft, e, hdp⟩ := h4
      rw [e] at ho
      obtain rfl := Option.some.inj ho
      intro a' v W Kc hB hq hdd hK
      exact step_move (hq (n, _) (by simp)) (hK _ _ (Below.refl _ _) rfl)
    | 5, _ =>
      obtain ⟨ty, pos, aft, e, hdp⟩ := h5
      rw [e] at ho
      obtain rfl := Option.some.inj ho
      intro a' v W Kc hB hq hdd hK
      obtain ⟨f3, t3⟩ := hdd 3 (List.all_eq_true.1 hdp 3 (by decide))
      have e3 : v 3 = .int .i64 (x : Int) := f3
      rw [e3] at t3
      obtain ⟨f4, t4⟩ := hdd 4 (List.all_eq_true.1 hdp 4 (by decide))
      have e4 : v 4 = .int .i64 (L : Int) := f4
      rw [e4] at t4
      exact step_rem (by omega) (by omega) t3 t4 (hK _ _ (Below.refl _ _) (by rw [hfx]; rfl))
    | 6, _ =>
      obtain ⟨ty, pos, aft, e, hdp⟩ := h6
      rw [e] at ho
      obtain rfl := Option.some.inj ho
      intro a' v W Kc hB hq hdd hK
      exact step_move (hq (n, _) (by simp)) (hK _ _ (Below.refl _ _) rfl)
    | 7, _ =>
      obtain ⟨ty, pos, aft, e, hdp⟩ := h7
      rw [e] at ho
      obtain rfl := Option.some.inj ho
      intro a' v W Kc hB hq hdd hK
      exact step_idx93_1 (hq (zs, _) (by simp)) (hK _ _ (Below.refl _ _) rfl)
    | 8, _ =>
      obtain ⟨ty, pos, aft, e, hdp⟩ := h8
      rw [e] at ho
      obtain rfl := Option.some.inj ho
      intro a' v W Kc hB hq hdd hK
      obtain ⟨f7, t7⟩ := hdd 7 (List.all_eq_true.1 hdp 7 (by decide))
      have e7 : v 7 = .pointer (some ⟨Z, 1, none⟩) := f7
      rw [e7] at t7
      exact step_load5 t7 ((hzb.next hB).cell' 1 rfl) (hK _ _ (Below.refl _ _) rfl)
    | 9, _ =>
      obtain ⟨ty, pos, aft, e, hdp⟩ := h9
      rw [e] at ho
      obtain rfl := Option.some.inj ho
      intro a' v W Kc hB hq hdd hK
      obtain ⟨f8, t8⟩ := hdd 8 (List.all_eq_true.1 hdp 8 (by decide))
      have e8 : v 8 = .int .u8 (y : Int) := f8
      rw [e8] at t8
      exact step_conv hy t8 (hK _ _ (Below.refl _ _) rfl)
    | 10, _ =>
      obtain ⟨ty, pos, aft, e, hdp⟩ := h10
      rw [e] at ho
      obtain rfl := Option.some.inj ho
      intro a' v W Kc hB hq hdd hK
      obtain ⟨f9, t9⟩ := hdd 9 (List.all_eq_true.1 hdp 9 (by decide))
      have e9 : v 9 = .int .i64 (y : Int) := f9
      rw [e9] at t9
      exact step_rem4 (by omega) t9 (hK _ _ (Below.refl _ _) (by rw [hzy]; rfl))
    | 11, _ =>
      obtain ⟨ty, pos, aft, e, hdp⟩ := h11
      rw [e] at ho
      obtain rfl := Option.some.inj ho
      intro a' v W Kc hB hq hdd hK
      obtain ⟨f10, t10⟩ := hdd 10 (List.all_eq_true.1 hdp 10 (by decide))
      have e10 : v 10 = .int .i64 (z : Int) := f10
      rw [e10] at t10
      exact step_add1 (by omega) t10 (hK _ _ (Below.refl _ _) (by rw [hr]; rfl))
    | 12, _ =>
      obtain ⟨ty, pos, aft, e, hdp⟩ := h12
      rw [e] at ho
      obtain rfl := Option.some.inj ho
      intro a' v W Kc hB hq hdd hK
      obtain ⟨f6, t6⟩ := hdd 6 (List.all_eq_true.1 hdp 6 (by decide))
      have e6 : v 6 = .int .i64 (L : Int) := f6
      rw [e6] at t6
      obtain ⟨f11, t11⟩ := hdd 11 (List.all_eq_true.1 hdp 11 (by decide))
      have e11 : v 11 = .int .i64 (r : Int) := f11
      rw [e11] at t11
      exact step_mul (by omega) t6 t11 (hK _ _ (Below.refl _ _) (by rw [hT]; rfl))
    | 13, _ =>
      obtain ⟨ty, pos, aft, e, hdp⟩ := h13
      rw [e] at ho
      obtain rfl := Option.some.inj ho
      intro a' v W Kc hB hq hdd hK
      obtain ⟨f12, t12⟩ := hdd 12 (List.all_eq_true.1 hdp 12 (by decide))
      have e12 : v 12 = .int .i64 (T : Int) := f12
      rw [e12] at t12
      refine step_call86 _ _ _ _ _ _ t12 (call86 T W hT0 hT1) ?_
      rintro e w' ⟨g', c', rfl, hn, _, hl, hb'⟩
      exact ⟨_, rfl, hK _ _ hb' ⟨g', c', rfl, hn, hl⟩⟩
    | 14, _ =>
      obtain ⟨ty, pos, aft, e, hdp⟩ := h14
      rw [e] at ho
      obtain rfl := Option.some.inj ho
      intro a' v W Kc hB hq hdd hK
      obtain ⟨f0, t0⟩ := hdd 0 (List.all_eq_true.1 hdp 0 (by decide))
      have e0 : v 0 = .agg #[.int .i64 (N : Int), .slice (some ⟨g, 0, none⟩) L q] := f0
      rw [e0] at t0
      obtain ⟨f5, t5⟩ := hdd 5 (List.all_eq_true.1 hdp 5 (by decide))
      have e5 : v 5 = .int .i64 (f : Int) := f5
      rw [e5] at t5
      obtain ⟨f13, t13⟩ := hdd 13 (List.all_eq_true.1 hdp 13 (by decide))
      obtain ⟨g2, c2, e13, hn2, hl2⟩ := f13
      rw [e13] at t13
      refine step_call84f _ _ _ _ _ _ _ _ t0 t5 t13 (call84r N L g q g2 c2 T f cs W hL hv hf (hc.next hB) hn2 hl2 hT0 hT1) ?_
      rintro e w' ⟨g', c', a', rfl, hn, _, hl, hb'⟩
      exact ⟨_, rfl, hK _ _ hb' ⟨g', c', _, rfl, by rw [← hrows]; exact hn, hl⟩⟩
    | 15, _ =>
      obtain ⟨ty, pos, aft, e, hdp⟩ := h15
      rw [e] at ho
      obtain rfl := Option.some.inj ho
      intro a' v W Kc hB hq hdd hK
      obtain ⟨f14, t14⟩ := hdd 14 (List.all_eq_true.1 hdp 14 (by decide))
      exact step_move t14 (hK _ _ (Below.refl _ _) f14)
    | 16, _ =>
      obtain ⟨ty, pos, aft, e, hdp⟩ := h16
      rw [e] at ho
      obtain rfl := Option.some.inj ho
      intro a' v W Kc hB hq hdd hK
      obtain ⟨f15, t15⟩ := hdd 15 (List.all_eq_true.1 hdp 15 (by decide))
      obtain ⟨g', c', a2, e15, hn, hl⟩ := f15
      rw [e15] at t15
      exact step_extract0of3 t15 (hK _ _ (Below.refl _ _) ⟨g', c', rfl, hn, hl⟩)
    | 17, _ =>
      obtain ⟨ty, pos, aft, e, hdp⟩ := h17
      rw [e] at ho
      obtain rfl := Option.some.inj ho
      intro a' v W Kc hB hq hdd hK
      obtain ⟨f15, t15⟩ := hdd 15 (List.all_eq_true.1 hdp 15 (by decide))
      obtain ⟨g', c', a2, e15, hn, hl⟩ := f15
      rw [e15] at t15
      exact step_extract1of3 t15 (hK _ _ (Below.refl _ _) trivial)
    | 18, _ =>
      obtain ⟨ty, pos, aft, e, hdp⟩ := h18
      rw [e] at ho
      obtain rfl := Option.some.inj ho
      intro a' v W Kc hB hq hdd hK
      obtain ⟨f15, t15⟩ := hdd 15 (List.all_eq_true.1 hdp 15 (by decide))
      obtain ⟨g', c', a2, e15, hn, hl⟩ := f15
      rw [e15] at t15
      exact step_extract2of3 t15 (hK _ _ (Below.refl _ _) rfl)
    | 19, _ =>
      obtain ⟨ty, pos, aft, e, hdp⟩ := h19
      rw [e] at ho
      obtain rfl := Option.some.inj ho
      intro a' v W Kc hB hq hdd hK
      obtain ⟨f16, t16⟩ := hdd 16 (List.all_eq_true.1 hdp 16 (by decide))
      exact step_assign t16 (hK _ _ (Below.refl _ _) f16)
    | 20, _ =>
      obtain ⟨ty, pos, aft, e, hdp⟩ := h20
      rw [e] at ho
      obtain rfl := Option.some.inj ho
      intro a' v W Kc hB hq hdd hK
      obtain ⟨f17, t17⟩ := hdd 17 (List.all_eq_true.1 hdp 17 (by decide))
      exact step_assign t17 (hK _ _ (Below.refl _ _) trivial)
    | 21, _ =>
      obtain ⟨ty, pos, aft, e, hdp⟩ := h21
      rw [e] at ho
      obtain rfl := Option.some.inj ho
      intro a' v W Kc hB hq hdd hK
      obtain ⟨f18, t18⟩ := hdd 18 (List.all_eq_true.1 hdp 18 (by decide))
      exact step_assign t18 (hK _ _ (Below.refl _ _) f18)
    | i + 22, h => omega
  · intro v W hF hB
    obtain ⟨g', c', e8, hn, hl⟩ := hF 19 (by omega)
    exact hend v W ⟨g', c', e8, hF 21 (by omega), hn, hl, hB⟩
end Go.Proofs.Ytdmgffoikebgkaa
/- TopRounds: what is woven round after round repeats as soon, and has the same longest floats. -/
namespace Go.Proofs.Ytdmgffoikebgkaa
open Go.RowKit Go.Shelf
attribute [local go_sem] Oper.semAt_some

theorem call92 (n L b c P H : Nat) (xs : List Nat) (W : World) (hL : xs.length = L) (hv : Valid n xs) (hx : NatsAt W b 0 xs) (hb : b < W.heap.size) (hP : leastN (fun k => repB xs n k 0) xs.length = P) (hH : leastN (fun k => repB xs n 0 k) n = H) :
    Calls Try.prog 92 #[.agg #[.int .i64 (n : Int), .slice (some ⟨b, 0, none⟩) L c]] W fun e w' => e = .returned (.tuple #[.int .i64 (P : Int), .int .i64 (H : Int), .int .i64 0]) ∧ Below W.heap.size W w' := by
  subst hL hP hH
  exact Least_ok n b 0 c xs W ⟨hx, hb, hv⟩
theorem call93 (n L b c d1 d2 d3 d4 : Nat) (xs : List Nat) (W : World) (hL : xs.length = L) (hv : Valid n xs) (hx : NatsAt W b 0 xs) (hb : b < W.heap.size) (h1 : doneM n xs 2 1 false = d1) (h2 : doneM n xs 2 1 true = d2) (h3 : doneM n xs 2 2 true = d3) (h4 : doneM n xs 2 2 false = d4) :
    Calls Try.prog 93 #[.agg #[.int .i64 (n : Int), .slice (some ⟨b, 0, none⟩) L c]] W fun e w' => e = .returned (.tuple #[.agg #[.int .i64 (d1 : Int), .int .i64 (d2 : Int), .int .i64 (d3 : Int), .int .i64 (d4 : Int)], .int .i64 0]) ∧ Below W.heap.size W w' := by
  subst hL h1 h2 h3 h4
  exact Longest_ok n b 0 c xs W ⟨hx, hb, hv⟩
/-- the two designs in memory -/
structure RdS (w : World) (D E g2 q2 g6 q6 N L T : Nat) (DS RS : List Nat) (W : World) : Prop where
  d : BoxAt W D #[.int .i64 (N : Int), .slice (some ⟨g2, 0, none⟩) L q2] 37
  e : BoxAt W E #[.int .i64 (N : Int), .slice (some ⟨g6, 0, none⟩) T q6] 37
  nd : NatsAt W g2 0 DS
  nr : NatsAt W g6 0 RS
  l2 : g2 < W.heap.size
  l6 : g6 < W.heap.size
  b : Below w.heap.size w W
theorem RdS.next {w : World} {D E g2 q2 g6 q6 N L T : Nat} {DS RS : List Nat} {W W' : World} (h : RdS w D E g2 q2 g6 q6 N L T DS RS W) (hb : Below W.heap.size W W') : RdS w D E g2 q2 g6 q6 N L T DS RS W' :=
  ⟨h.d.next hb, h.e.next hb, h.nd.below hb h.l2, h.nr.below hb h.l6, Nat.lt_of_lt_of_le h.l2 hb.size, Nat.lt_of_lt_of_le h.l6 hb.size, h.b.trans (hb.mono h.b.size)⟩
set_option maxRecDepth 100000 in
set_option maxHeartbeats 4000000 in
theorem TopRounds_any (H : Nat) (p : Option Addr) (c : Nat) (ws : List Nat) (x y : Nat) (w : World) (hH : H < 256) (hx : x < 256) (hy : y < 256) (hw : WordRow w p ws) (hl : ws.length ≤ 9223372036854775807) :
    Calls Try.prog 16 #[.int .u8 (H : Int), .slice p ws.length c, .agg #[.int .u8 (x : Int), .int .u8 (y : Int)]] w fun e w' => e = .returned (.bool true) ∧ Below w.heap.size w w' := by
  obtain ⟨w0, hw0⟩ : ∃ w0, w0 = w.alloc (.cells #[.int .u8 (x : Int), .int .u8 (y : Int)] 93) := ⟨_, rfl⟩
  have hb0 : Below w.heap.size w w0 := by rw [hw0]; exact (Below.refl _ _).alloc (Nat.le_refl _) _
  have hZ0 : BoxAt w0 w.heap.size #[.int .u8 (x : Int), .int .u8 (y : Int)] 93 := by rw [hw0]; exact BoxAt.new _ _ _
  have H76 := call76 H p c ws w0 hH (hw.next hb0) hl
  obtain ⟨hN1, hN2⟩ := dqN_bd H
  obtain ⟨hL0, hL1⟩ := loom12_bd ws.length
  have hVd := dqTo_valid (dqN H) ws (loomL 12 ws.length) (by omega) (by omega) hL0 (by omega)
  have hDl := dqTo_len (dqN H) ws (loomL 12 ws.length)
  obtain ⟨L, hL⟩ : ∃ L, loomL 12 ws.length = L := ⟨_, rfl⟩
  obtain ⟨N, hN⟩ : ∃ N, dqN H = N := ⟨_, rfl⟩
  rw [hL] at hL0 hL1
  rw [hN, hL] at H76 hVd hDl
  rw [hN] at hN1 hN2
  obtain ⟨DS, hDS⟩ : ∃ DS, dqTo N ws L = DS := ⟨_, rfl⟩
  rw [hDS] at H76 hVd hDl
  clear hN hDS hL hw
  obtain ⟨f, hf⟩ : ∃ f, x % L = f := ⟨_, rfl⟩
  obtain ⟨z, hz⟩ : ∃ z, y % 4 = z := ⟨_, rfl⟩
  obtain ⟨r, hr⟩ : ∃ r, 1 + z = r := ⟨_, rfl⟩
  obtain ⟨T, hT⟩ : ∃ T, L * r = T := ⟨_, rfl⟩
  have hfL : f < L := by rw [← hf]; exact Nat.mod_lt _ (by omega)
  have hr4 : r ≤ 4 := by have := Nat.mod_lt y (show 0 < 4 by omega); omega
  have hT1 : T ≤ 60 := by rw [← hT]; exact Nat.le_trans (Nat.mul_le_mul hL1 hr4) (by decide)
  have hT0 : 0 < T := by rw [← hT]; exact Nat.mul_pos (by omega) (by omega)
  have hrot := woven_rot N L r f DS hDl hfL
  rw [hT] at hrot
  obtain ⟨RS, hRS⟩ : ∃ RS, wovenTo N (punched DS L) (List.replicate T 1) f T = RS := ⟨_, rfl⟩
  rw [hRS] at hrot
  have hRl : RS.length = T := by rw [hrot.1, hT]
  have hVr : Valid N RS := rot_valid hVd hrot (by rw [hT]; exact hT0) (by rw [hT]; exact hT1)
  obtain ⟨l1, l2⟩ := least_rot hVd hDl hrot (by rw [hT]; exact hT0) (by rw [hT]; exact hT1)
  have lo := fun a ha v => long_rot hVd hDl hrot (by rw [hT]; exact hT0) (by rw [hT]; exact hT1) a ha v
  obtain ⟨P, hP⟩ : ∃ P, leastN (fun k => repB DS N k 0) DS.length = P := ⟨_, rfl⟩
  obtain ⟨J, hJ⟩ : ∃ J, leastN (fun k => repB DS N 0 k) N = J := ⟨_, rfl⟩
  obtain ⟨d1, hd1⟩ : ∃ d, doneM N DS 2 1 false = d := ⟨_, rfl⟩
  obtain ⟨d2, hd2⟩ : ∃ d, doneM N DS 2 1 true = d := ⟨_, rfl⟩
  obtain ⟨d3, hd3⟩ : ∃ d, doneM N DS 2 2 true = d := ⟨_, rfl⟩
  obtain ⟨d4, hd4⟩ : ∃ d, doneM N DS 2 2 false = d := ⟨_, rfl⟩
  have C92 := Lib.hid (fun b q W (h1 : NatsAt W b 0 DS) (h2 : b < W.heap.size) => call92 N L b q P J DS W hDl hVd h1 h2 hP hJ)
  have R92 := Lib.hid (fun b q W (h1 : NatsAt W b 0 RS) (h2 : b < W.heap.size) => call92 N T b q P J RS W hRl hVr h1 h2 (l1.trans hP) (l2.trans hJ))
  have C93 := Lib.hid (fun b q W (h1 : NatsAt W b 0 DS) (h2 : b < W.heap.size) => call93 N L b q d1 d2 d3 d4 DS W hDl hVd h1 h2 hd1 hd2 hd3 hd4)
  have R93 := Lib.hid (fun b q W (h1 : NatsAt W b 0 RS) (h2 : b < W.heap.size) => call93 N T b q d1 d2 d3 d4 RS W hRl hVr h1 h2 ((lo 1 (.inl rfl) _).trans hd1) ((lo 1 (.inl rfl) _).trans hd2) ((lo 2 (.inr rfl) _).trans hd3) ((lo 2 (.inr rfl) _).trans hd4))
  have HVd := Lib.hid hVd
  have HDl := Lib.hid hDl
  have HRl := Lib.hid hRl
  have HRS := Lib.hid hRS
  have Hf := Lib.hid hf
  have Hz := Lib.hid hz
  have Hr := Lib.hid hr
  have HT := Lib.hid hT
  have H76' := Lib.hid H76
  have HW0 := Lib.hid hw0
  have Hb0 := Lib.hid hb0
  have HZ0 := Lib.hid hZ0
  clear hVd hDl H76 hw0 hb0 hZ0 hrot hRS hRl hVr l1 l2 lo hP hJ hd1 hd2 hd3 hd4 hf hz hr hT hr4
  go_enter Try.func16, Try.ntmps16
  go_wp2_with fail
  rw [← HW0.out]
  refine H76'.out.mono ?_
  rintro e W1 ⟨g2, q2, rfl, hn2, hl2, hg2, hb1⟩
  clear H76' HW0
  go_upto_region 2 with fail
  obtain ⟨W2, hW2⟩ : ∃ W2, W2 = W1.alloc (.cells #[.int .i64 (N : Int), .slice (some ⟨g2, 0, none⟩) L q2] 37) := ⟨_, rfl⟩
  obtain ⟨D, hD⟩ : ∃ D, D = W1.heap.size := ⟨_, rfl⟩
  rw [← hW2, ← hD]
  have hbW2 : Below W1.heap.size W1 W2 := by rw [hW2]; exact (Below.refl _ _).alloc (Nat.le_refl _) _
  have hxD : BoxAt W2 D #[.int .i64 (N : Int), .slice (some ⟨g2, 0, none⟩) L q2] 37 := by rw [hW2, hD]; exact BoxAt.new _ _ _
  clear hD
  have hn22 := hn2.below hbW2 hg2
  have hg22 : g2 < W2.heap.size := Nat.lt_of_lt_of_le hg2 hbW2.size
  have z0 := hxD.cell' 0 rfl
  have z1 := hxD.cell' 1 rfl
  have H78 := Lib.hid (call78 N L g2 q2 DS W2 HDl.out (by omega) (by omega) hn22 hg22)
  have hb02 := hb1.trans (hbW2.mono hb1.size)
  have Hb2 := Lib.hid (Hb0.out.trans (hb02.mono Hb0.out.size))
  have HZ2 := Lib.hid (HZ0.out.next hb02)
  have HD2 := Lib.hid hxD
  have Hn2 := Lib.hid hn22
  clear hn2 hl2 hb1 hbW2 hn22 hxD hW2 hg2 hb02 HZ0 Hb0
  go_wp2_with fail
  refine H78.out.mono ?_
  rintro e W3 ⟨g3, q3, rfl, hn3, hl3, hg3, hb3⟩
  have H81 := Lib.hid (call81 N L g3 q3 DS W3 HDl.out HVd.out hn3 hg3)
  have Hb3 := Lib.hid hb3
  clear hn3 hl3 hg3 hb3 z0 z1 H78
  go_wp2_with fail
  refine H81.out.mono ?_
  rintro e W4 ⟨g4, q4, rfl, hP4, hl4, hb4⟩
  have Hb4 := Lib.hid (Hb3.out.trans (hb4.mono Hb3.out.size))
  have HP4 := Lib.hid hP4
  clear hb4 H81 Hb3 hP4 hl4
  go_upto_region 4 with fail
  obtain ⟨W5, hW5⟩ : ∃ W5, W5 = W4.alloc (.cells #[.int .i64 (N : Int), .slice (some ⟨g4, 0, none⟩) L q4] 114) := ⟨_, rfl⟩
  obtain ⟨B, hB⟩ : ∃ B, B = W4.heap.size := ⟨_, rfl⟩
  rw [← hW5, ← hB]
  have hbW5 : Below W4.heap.size W4 W5 := by rw [hW5]; exact (Below.refl _ _).alloc (Nat.le_refl _) _
  have hxB : BoxAt W5 B #[.int .i64 (N : Int), .slice (some ⟨g4, 0, none⟩) L q4] 114 := by rw [hW5, hB]; exact BoxAt.new _ _ _
  clear hB
  have hb25 : Below W2.heap.size W2 W5 := Hb4.out.trans (hbW5.mono Hb4.out.size)
  have HD5 := Lib.hid (HD2.out.next hb25)
  have HZ5 := Lib.hid (HZ2.out.next hb25)
  have Hn5 := Lib.hid (Hn2.out.below hb25 hg22)
  have hg25 : g2 < W5.heap.size := Nat.lt_of_lt_of_le hg22 hb25.size
  have Hb5 := Lib.hid (Hb2.out.trans (hb25.mono Hb2.out.size))
  have HP5 := Lib.hid (HP4.out.next hbW5)
  have c1 := hxB.cell' 1 rfl
  have HB5 := Lib.hid hxB
  clear hb25 hbW5 hxB hW5 HD2 HZ2 Hn2 Hb2 hg22 Hb4 HP4
  go_upto_region 6 with fail
  refine region_rounds [47, 48, 49, 50, 51, 52, 53, 54, 55, 56, 57, 58, 59, 60, 61, 46, 62, 63, 64, 11, 12, 13] 9 8 5 N L T f r z x y w.heap.size g4 q4 B (punched DS L) RS rfl ?hops rfl (by kernel_rfl) (by kernel_rfl) (by decide) ?hsz ?hout HB5.out HZ5.out hx hy Hf.out Hz.out Hr.out HT.out hT0 hT1 hfL HP5.out.at' (punched_len _ _) (by rw [← turnT_zero]; exact turnT_ok HVd.out _ _ HDl.out) HRS.out ?hend
  case hops => exact ⟨⟨_, _, _, rfl, by kernel_rfl⟩, ⟨_, _, _, rfl, by kernel_rfl⟩, ⟨_, _, _, rfl, by kernel_rfl⟩, ⟨_, _, _, rfl, by kernel_rfl⟩, ⟨_, _, _, rfl, by kernel_rfl⟩, ⟨_, _, _, rfl, by kernel_rfl⟩, ⟨_, _, _, rfl, by kernel_rfl⟩, ⟨_, _, _, rfl, by kernel_rfl⟩, ⟨_, _, _, rfl, by kernel_rfl⟩, ⟨_, _, _, rfl, by kernel_rfl⟩, ⟨_, _, _, rfl, by kernel_rfl⟩, ⟨_, _, _, rfl, by kernel_rfl⟩, ⟨_, _, _, rfl, by kernel_rfl⟩, ⟨_, _, _, rfl, by kernel_rfl⟩, ⟨_, _, _, rfl, by kernel_rfl⟩, ⟨_, _, _, rfl, by kernel_rfl⟩, ⟨_, _, _, rfl, by kernel_rfl⟩, ⟨_, _, _, rfl, by kernel_rfl⟩, ⟨_, _, _, rfl, by kernel_rfl⟩, ⟨_, _, _, rfl, by kernel_rfl⟩, ⟨_, _, _, rfl, by kernel_rfl⟩, ⟨_, _, _, rfl, by kernel_rfl⟩⟩
  case hsz => intro d hd; simp only [List.mem_cons, List.not_mem_nil, or_false] at hd; show d < 134; omega
  case hout => exact ⟨rfl, by decide, rfl, by decide, rfl, by decide⟩
  case hend =>
    intro v W6 hv
    obtain ⟨g6, q6, e1, e2, hn6, hg6, hb6⟩ := hv
    change v 11 = _ at e1
    change v 13 = _ at e2
    simp only [laid, List.foldl, Act.put, List.setIfInBounds_toArray, List.set_cons_succ, List.set_cons_zero, e1, e2]
    generalize v 47 = vu47
    generalize v 48 = vu48
    generalize v 49 = vu49
    generalize v 50 = vu50
    generalize v 51 = vu51
    generalize v 52 = vu52
    generalize v 53 = vu53
    generalize v 54 = vu54
    generalize v 55 = vu55
    generalize v 56 = vu56
    generalize v 57 = vu57
    generalize v 58 = vu58
    generalize v 59 = vu59
    generalize v 60 = vu60
    generalize v 61 = vu61
    generalize v 46 = vu46
    generalize v 62 = vu62
    generalize v 63 = vu63
    generalize v 64 = vu64
    generalize v 12 = vu12
    clear e1 e2 v
    have hD6 := HD5.out.next hb6
    have z0 := hD6.cell' 0 rfl
    have z1 := hD6.cell' 1 rfl
    have HD6 := Lib.hid hD6
    have Hn6 := Lib.hid (Hn5.out.below hb6 hg25)
    have hg26 : g2 < W6.heap.size := Nat.lt_of_lt_of_le hg25 hb6.size
    have Hb6 := Lib.hid (Hb5.out.trans (hb6.mono Hb5.out.size))
    have Hr6 := Lib.hid hn6
    clear hD6 hb6 hn6 HD5 Hn5 hg25 Hb5 HB5 HZ5 HP5 c1
    go_upto_region 8 with fail
    obtain ⟨W7, hW7⟩ : ∃ W7, W7 = W6.alloc (.cells #[.int .i64 (N : Int), .slice (some ⟨g6, 0, none⟩) T q6] 37) := ⟨_, rfl⟩
    obtain ⟨E, hE⟩ : ∃ E, E = W6.heap.size := ⟨_, rfl⟩
    rw [← hW7, ← hE]
    have hbW7 : Below W6.heap.size W6 W7 := by rw [hW7]; exact (Below.refl _ _).alloc (Nat.le_refl _) _
    have hxE : BoxAt W7 E #[.int .i64 (N : Int), .slice (some ⟨g6, 0, none⟩) T q6] 37 := by rw [hW7, hE]; exact BoxAt.new _ _ _
    clear hE z0 z1
    have hS7 : RdS w D E g2 q2 g6 q6 N L T DS RS W7 := ⟨HD6.out.next hbW7, hxE, Hn6.out.below hbW7 hg26, Hr6.out.below hbW7 hg6, Nat.lt_of_lt_of_le hg26 hbW7.size, Nat.lt_of_lt_of_le hg6 hbW7.size, Hb6.out.trans (hbW7.mono Hb6.out.size)⟩
    have z0 := hS7.d.cell' 0 rfl
    have z1 := hS7.d.cell' 1 rfl
    have H78 := Lib.hid (call78 N L g2 q2 DS W7 HDl.out (by omega) (by omega) hS7.nd hS7.l2)
    have HS7 := Lib.hid hS7
    clear hbW7 hxE hW7 hS7 HD6 Hn6 Hr6 Hb6 hg26 hg6
    go_wp2_with fail
    refine H78.out.mono ?_
    rintro e W8 ⟨g8, q8, rfl, hn8, hl8, hg8, hb8⟩
    have H92 := Lib.hid (C92.out g8 q8 W8 hn8 hg8)
    have HS8 := Lib.hid (HS7.out.next hb8)
    clear hn8 hl8 hg8 hb8 z0 z1 H78 HS7
    go_wp2_with fail
    refine H92.out.mono ?_
    rintro e W9 ⟨rfl, hb9⟩
    have hS9 := HS8.out.next hb9
    have z0 := hS9.e.cell' 0 rfl
    have z1 := hS9.e.cell' 1 rfl
    have H78 := Lib.hid (call78 N T g6 q6 RS W9 HRl.out hT0 hT1 hS9.nr hS9.l6)
    have HS9 := Lib.hid hS9
    clear hb9 hS9 HS8 H92
    go_wp2_with fail
    refine H78.out.mono ?_
    rintro e W10 ⟨g10, q10, rfl, hn10, hl10, hg10, hb10⟩
    have H92 := Lib.hid (R92.out g10 q10 W10 hn10 hg10)
    have HS10 := Lib.hid (HS9.out.next hb10)
    clear hn10 hl10 hg10 hb10 z0 z1 H78 HS9
    go_wp2_with fail
    refine H92.out.mono ?_
    rintro e W11 ⟨rfl, hb11⟩
    have hS11 := HS10.out.next hb11
    have z0 := hS11.d.cell' 0 rfl
    have z1 := hS11.d.cell' 1 rfl
    have H78 := Lib.hid (call78 N L g2 q2 DS W11 HDl.out (by omega) (by omega) hS11.nd hS11.l2)
    have HS11 := Lib.hid hS11
    clear hb11 hS11 HS10 H92
    go_wp2_with fail
    refine H78.out.mono ?_
    rintro e W12 ⟨g12, q12, rfl, hn12, hl12, hg12, hb12⟩
    have H93 := Lib.hid (C93.out g12 q12 W12 hn12 hg12)
    have HS12 := Lib.hid (HS11.out.next hb12)
    clear hn12 hl12 hg12 hb12 z0 z1 H78 HS11
    go_wp2_with fail
    refine H93.out.mono ?_
    rintro e W13 ⟨rfl, hb13⟩
    have HS13 := Lib.hid (HS12.out.next hb13)
    clear hb13 HS12 H93
    go_upto_region 11 with fail
    obtain ⟨W14, hW14⟩ : ∃ W14, W14 = W13.alloc (.cells #[.int .i64 (d1 : Int), .int .i64 (d2 : Int), .int .i64 (d3 : Int), .int .i64 (d4 : Int)] 132) := ⟨_, rfl⟩
    obtain ⟨X1, hX1⟩ : ∃ X1, X1 = W13.heap.size := ⟨_, rfl⟩
    rw [← hW14, ← hX1]
    have hbW14 : Below W13.heap.size W13 W14 := by rw [hW14]; exact (Below.refl _ _).alloc (Nat.le_refl _) _
    have hx1 : BoxAt W14 X1 #[.int .i64 (d1 : Int), .int .i64 (d2 : Int), .int .i64 (d3 : Int), .int .i64 (d4 : Int)] 132 := by rw [hW14, hX1]; exact BoxAt.new _ _ _
    clear hX1
    have hS14 := HS13.out.next hbW14
    have z0 := hS14.e.cell' 0 rfl
    have z1 := hS14.e.cell' 1 rfl
    have H78 := Lib.hid (call78 N T g6 q6 RS W14 HRl.out hT0 hT1 hS14.nr hS14.l6)
    have HS14 := Lib.hid hS14
    have HX14 := Lib.hid hx1
    clear hbW14 hx1 hW14 hS14 HS13
    go_wp2_with fail
    refine H78.out.mono ?_
    rintro e W15 ⟨g15, q15, rfl, hn15, hl15, hg15, hb15⟩
    have H93 := Lib.hid (R93.out g15 q15 W15 hn15 hg15)
    have HS15 := Lib.hid (HS14.out.next hb15)
    have HX15 := Lib.hid (HX14.out.next hb15)
    clear hn15 hl15 hg15 hb15 z0 z1 H78 HS14 HX14
    go_wp2_with fail
    refine H93.out.mono ?_
    rintro e W16 ⟨rfl, hb16⟩
    have HS16 := Lib.hid (HS15.out.next hb16)
    have HX16 := Lib.hid (HX15.out.next hb16)
    clear hb16 HS15 HX15 H93
    go_upto_region 12 with fail
    obtain ⟨W17, hW17⟩ : ∃ W17, W17 = W16.alloc (.cells #[.int .i64 (d1 : Int), .int .i64 (d2 : Int), .int .i64 (d3 : Int), .int .i64 (d4 : Int)] 132) := ⟨_, rfl⟩
    obtain ⟨X2, hX2⟩ : ∃ X2, X2 = W16.heap.size := ⟨_, rfl⟩
    rw [← hW17, ← hX2]
    have hbW17 : Below W16.heap.size W16 W17 := by rw [hW17]; exact (Below.refl _ _).alloc (Nat.le_refl _) _
    have hx2 : BoxAt W17 X2 #[.int .i64 (d1 : Int), .int .i64 (d2 : Int), .int .i64 (d3 : Int), .int .i64 (d4 : Int)] 132 := by rw [hW17, hX2]; exact BoxAt.new _ _ _
    clear hX2
    have hx1 := HX16.out.next hbW17
    have y0 := hx1.cell' 0 rfl
    have y1 := hx1.cell' 1 rfl
    have y2 := hx1.cell' 2 rfl
    have y3 := hx1.cell' 3 rfl
    have z0 := hx2.cell' 0 rfl
    have z1 := hx2.cell' 1 rfl
    have z2 := hx2.cell' 2 rfl
    have z3 := hx2.cell' 3 rfl
    have Hb17 := Lib.hid (HS16.out.next hbW17).b
    clear hbW17 hx1 hx2 hW17 HS16 HX16
    go_wp2_with fail
    refine (pubPoint_any W17).mono ?_
    rintro e W18 ⟨rfl, hb18⟩
    have Hb18 := Lib.hid (Hb17.out.trans (hb18.mono Hb17.out.size))
    clear hb18 Hb17 y0 y1 y2 y3 z0 z1 z2 z3
    go_wp2_with fail
    refine (pubChain_any W18).mono ?_
    rintro e W19 ⟨rfl, hb19⟩
    have Hb19 := Lib.hid (Hb18.out.trans (hb19.mono Hb18.out.size))
    clear hb19 Hb18
    go_wp2_with fail
    go_ret
    exact ⟨rfl, Hb19.out⟩
end Go.Proofs.Ytdmgffoikebgkaa
