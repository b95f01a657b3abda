/- TopBoundCloth: for every loom and every byte a design that was bound, punched and woven twice round has no float above its bound by a straight tie, and none above Worst by any: true, and the input reads as it did. No condition. -/
import Derived.Test.YtdmgffoikebgkaaTM
import Derived.Deep.DeepCutAuto
import Derived.Deep.QuietTactic
import Derived.BigQuiet
import Derived.Test.YtdmgffoikebgkaaPT
import Derived.Test.YtdmgffoikebgkaaQA
import Derived.Test.YtdmgffoikebgkaaQB
import Derived.Test.YtdmgffoikebgkaaQC
import Derived.OpenShut
/- Harness ties: the row of a window, and the longest float of a bound row. -/
namespace Go.Proofs.Ytdmgffoikebgkaa
open Go.RowKit Go.Shelf
attribute [local go_sem] Oper.semAt_some

/-- the row of the hooks of so many warps from one on -/
def winN (hs : List Nat) (f : Nat) : Nat → Nat
  | 0 => 0
  | k + 1 => winN hs f k ||| 2 ^ aroundN hs ((f : Int) + (k : Int))
theorem around_lt {hs : List Nat} {n : Nat} (hk : ∀ i, i < hs.length → nthN hs i < n) (h0 : 0 < hs.length) (z : Int) : aroundN hs z < n := hk _ (Nat.mod_lt _ h0)
theorem winN_lt (hs : List Nat) (f : Nat) {n : Nat} (hk : ∀ i, i < hs.length → nthN hs i < n) (hn : n ≤ 24) (h0 : 0 < hs.length) : ∀ k, winN hs f k < 2 ^ 24
  | 0 => by simp [winN]
  | k + 1 => Nat.or_lt_two_pow (winN_lt hs f hk hn h0 k) (Nat.pow_lt_pow_right (by decide) (Nat.lt_of_lt_of_le (around_lt hk h0 _) hn))
theorem winN_ltn (hs : List Nat) (f : Nat) {n : Nat} (hk : ∀ i, i < hs.length → nthN hs i < n) (h0 : 0 < hs.length) : ∀ k, winN hs f k < 2 ^ n
  | 0 => by rw [winN]; exact Nat.pow_pos (by decide)
  | k + 1 => Nat.or_lt_two_pow (winN_ltn hs f hk h0 k) (Nat.pow_lt_pow_right (by decide) (around_lt hk h0 _))
set_option maxRecDepth 100000 in
set_option maxHeartbeats 1000000 in
theorem tieWindow_any (n b off c f len : Nat) (hs : List Nat) (w : World) (hv : TAt w b off n hs) (hf : f ≤ 1000) (hlen : len ≤ 1000) :
    Calls Try.prog 187 #[.agg #[.int .i64 (n : Int), .slice (some ⟨b, off, none⟩) hs.length c], .int .i64 (f : Int), .int .i64 (len : Int)] w fun e w' => e = .returned (.int .i64 (winN hs f len : Int)) ∧ Below w.heap.size w w' := by
  have l0 := hv.l0
  have l1 := hv.l1
  obtain ⟨w0, hw0⟩ : ∃ w0, w0 = w.alloc (.cells #[.int .i64 (n : Int), .slice (some ⟨b, off, none⟩) hs.length c] 159) := ⟨_, rfl⟩
  have hb0 : Below w.heap.size w w0 := by rw [hw0]; exact (Below.refl _ _).alloc (Nat.le_refl _) _
  have hbx : BoxAt w0 w.heap.size #[.int .i64 (n : Int), .slice (some ⟨b, off, none⟩) hs.length c] 159 := by rw [hw0]; exact BoxAt.new _ _ _
  have HV := Lib.hid hv
  have HW0 := Lib.hid hw0
  have HB := Lib.hid hbx
  have Hb0 := Lib.hid hb0
  clear hv hw0 hbx hb0
  go_enter Try.func187, Try.ntmps187
  go_wp2_with fail
  rw [← HW0.out]
  go_loopw [10, 7] (fun i r wr => ∃ k : Nat, k ≤ len ∧ i = .int .i64 k ∧ r = .int .i64 (winN hs f k : Int) ∧ Below w0.heap.size w0 wr) (fun i _ _ => len - (intOf i).toNat)
  case atStart => exact ⟨0, Nat.zero_le _, rfl, rfl, Below.refl _ _⟩
  case round =>
    obtain ⟨k, hk, rfl, rfl, hbw⟩ := hrel
    by_cases hlt : k < len
    · have hltI : (k : Int) < (len : Int) := by omega
      have hB := HB.out.next hbw
      have x0 := hB.cell' 0 rfl
      have x1 := hB.cell' 1 rfl
      have hvw := HV.out.next (Hb0.out.trans (hbw.mono Hb0.out.size))
      have H175 := Lib.hid (tieAround_any n b off c hs ((f : Int) + (k : Int)) wr hvw.at' hvw.lt (by omega) (by omega) (by omega) (by omega))
      have Hbw := Lib.hid hbw
      clear hbw hB hvw
      go_wp2_with fail
      refine H175.out.mono ?_
      rintro e W1 ⟨rfl, hb1⟩
      have hal : aroundN hs ((f : Int) + (k : Int)) < 24 := Nat.lt_of_lt_of_le (around_lt HV.out.hk (by omega) _) HV.out.n1
      have hwl := winN_lt hs f HV.out.hk HV.out.n1 (by omega) k
      obtain ⟨a, ha⟩ : ∃ a, aroundN hs ((f : Int) + (k : Int)) = a := ⟨_, rfl⟩
      obtain ⟨r, hr⟩ : ∃ r, winN hs f k = r := ⟨_, rfl⟩
      have hst : winN hs f (k + 1) = r ||| 2 ^ a := by rw [winN, ha, hr]
      rw [ha] at hal ⊢
      rw [hr] at hwl ⊢
      have Hst := Lib.hid hst
      clear ha hr hst
      go_wp2_with fail
      have h2 : (2 : Int) ^ a < 16777216 := by
        have : 2 ^ a < 2 ^ 24 := Nat.pow_lt_pow_right (by decide) hal
        have h3 : ((2 ^ a : Nat) : Int) < 16777216 := by omega
        simpa using h3
      have h1 : (0 : Int) ≤ 2 ^ a := Int.pow_nonneg (by decide)
      have hor : bits BinOp.or IntKind.i64 (r : Int) (wrap64 (2 ^ a)) = ((r ||| 2 ^ a : Nat) : Int) := by
        rw [wrap64_in _ ⟨by omega, by omega⟩]
        exact or_step r a (by omega) hal
      exact ⟨⟨k + 1, by omega, by go_num, by rw [hor, Hst.out], Hbw.out.trans (hb1.mono Hbw.out.size)⟩, by simp [intOf]; omega⟩
    · obtain rfl : len = k := by omega
      have hltI : ¬ (len : Int) < (len : Int) := by omega
      have Hbw := Lib.hid (Hb0.out.trans (hbw.mono Hb0.out.size))
      clear hbw
      go_wp2_with fail
      go_ret
      exact ⟨rfl, Hbw.out⟩
end Go.Proofs.Ytdmgffoikebgkaa
/- Harness ties: a bound row that lifts some hooks. -/
namespace Go.Proofs.Ytdmgffoikebgkaa
open Go.RowKit Go.Shelf
attribute [local go_sem] Oper.semAt_some

/-- a bound row that lifts some hooks -/
def lifN (n m p : Nat) : Nat := bindN n p p m
def LifR (n m p : Nat) (e : Ending) : Prop := (lifN n m p < never ∧ e = .returned (.tuple #[.int .i64 (lifN n m p % change : Nat), .bool true])) ∨ (lifN n m p = never ∧ e = .returned (.tuple #[.int .i64 0, .bool false]))
set_option maxRecDepth 100000 in
set_option maxHeartbeats 1000000 in
theorem tieLift_any (n m p E Mb : Nat) (w : World) (h0 : 1 ≤ n) (h1 : n ≤ 24) (hm1 : 1 ≤ m) (hm2 : m ≤ 24) (hp : p < 2 ^ n) (hE : w.cell? ⟨E, 0, none⟩ = some (.int .i64 (n : Int))) (hM : w.cell? ⟨Mb, 0, none⟩ = some (.int .i64 (m : Int))) :
    Calls Try.prog 135 #[.int .i64 (p : Int), .pointer (some ⟨E, 0, none⟩), .pointer (some ⟨Mb, 0, none⟩)] w fun e w' => LifR n m p e ∧ Below w.heap.size w w' := by
  have hEl := World.block_lt_of_cell? w ⟨E, 0, none⟩ hE
  have hMl := World.block_lt_of_cell? w ⟨Mb, 0, none⟩ hM
  obtain ⟨w1, hw1⟩ : ∃ w1, w1 = w.alloc (.cells #[.int .i64 (p : Int)] 3) := ⟨_, rfl⟩
  obtain ⟨w2, hw2⟩ : ∃ w2, w2 = w1.alloc (.cells #[.int .i64 (p : Int)] 3) := ⟨_, rfl⟩
  have hb1 : Below w.heap.size w w1 := by rw [hw1]; exact (Below.refl _ _).alloc (Nat.le_refl _) _
  have hb2 : Below w1.heap.size w1 w2 := by rw [hw2]; exact (Below.refl _ _).alloc (Nat.le_refl _) _
  have hs1 : w1.heap.size = w.heap.size + 1 := by rw [hw1]; simp
  have hx1 : BoxAt w1 w.heap.size #[.int .i64 (p : Int)] 3 := by rw [hw1]; exact BoxAt.new _ _ _
  have hx2 : BoxAt w2 w1.heap.size #[.int .i64 (p : Int)] 3 := by rw [hw2]; exact BoxAt.new _ _ _
  have hn1 : NatsAt w2 w.heap.size 0 [p] := fun i hi => by
    obtain rfl : i = 0 := by simpa using hi
    exact (hx1.next hb2).cell' 0 rfl
  have hn2 : NatsAt w2 w1.heap.size 0 [p] := fun i hi => by
    obtain rfl : i = 0 := by simpa using hi
    exact hx2.cell' 0 rfl
  have hs2 : w2.heap.size = w.heap.size + 2 := by rw [hw2]; simp [hs1]
  have hpp : ∀ i, nthN [p] i < 2 ^ n := fun i => by
    cases i with
    | zero => exact hp
    | succ i => exact Nat.pow_pos (by decide)
  have hv : VAt w2 w.heap.size 0 1 n [p] := ⟨hn1, by omega, ⟨h0, h1, by simp, by simp, hpp⟩⟩
  have HM2 : w1.cell? ⟨Mb, 0, none⟩ = some (.int .i64 (m : Int)) := (hb1.cell (p := ⟨Mb, 0, none⟩) hMl).trans hM
  have HM3 : w2.cell? ⟨Mb, 0, none⟩ = some (.int .i64 (m : Int)) := (hb2.cell (p := ⟨Mb, 0, none⟩) (by simp; simp at hMl; omega)).trans HM2
  have hbb := hb1.trans (hb2.mono hb1.size)
  have HW1 := Lib.hid hw1
  have HW2 := Lib.hid hw2
  have HS1 := Lib.hid hs1
  have HBb := Lib.hid hbb
  by_cases hl : lifN n m p < never
  · have hB := Bind_ok n w.heap.size 0 1 w1.heap.size 0 1 m [p] [p] w2 hv rfl hn2 (by omega) hpp hm1 hm2 (fun i hi => by
      obtain rfl : i = 0 := by simpa using hi
      exact hl)
    rw [hs1] at hB
    have HB := Lib.hid hB
    have Hl := Lib.hid hl
    have hzb := bindRows_nth (n := n) (m := m) (ys := [p]) (ks := [p]) (N := 1) (i := 0) (by omega)
    have hzl := bindRows_len n m [p] [p] 1
    obtain ⟨ZS, hZS⟩ : ∃ ZS, bindRows n m [p] [p] 1 = ZS := ⟨_, rfl⟩
    obtain ⟨z, hz⟩ : ∃ z, lifN n m p % change = z := ⟨_, rfl⟩
    rw [hZS] at hzb hzl
    have hz0 : nthN ZS 0 = z := hzb.trans hz
    have HZ := Lib.hid hz
    have HZS := Lib.hid hZS
    have HZ0 := Lib.hid hz0
    have HZL := Lib.hid hzl
    clear hw1 hw2 hb1 hb2 hs1 hx1 hx2 hn1 hn2 hs2 hpp hv hbb hl HM2 hB hz hZS hz0 hzl hzb
    go_enter Try.func135, Try.ntmps135
    go_wp2_with fail
    rw [← HW1.out, ← HW2.out]
    refine HB.out.mono ?_
    rintro e w3 ⟨v, rfl, hr, hb3⟩
    have hr2 : w3.ownsRow w2.heap.size 3 1 v 1 (ZS.map natV) := by rw [← HZS.out]; exact hr
    obtain ⟨g, cap, rfl⟩ := row_slice hr2 (by omega)
    obtain ⟨a, b, d⟩ := nats_of_row (xs := ZS) hr2 (by omega)
    have g0 := a 0 (by rw [HZL.out]; omega)
    rw [HZ0.out] at g0
    have Hb3 := Lib.hid (HBb.out.trans (hb3.mono HBb.out.size))
    have hgl : g < w3.heap.size := b
    clear hr hr2 hb3 a b d HM3 HB
    go_wp2_with fail
    go_ret2
    exact ⟨.inl ⟨Hl.out, by rw [HZ.out]; rfl⟩, Hb3.out.trans (((Below.refl _ _).alloc (Nat.le_refl _) _).mono Hb3.out.size)⟩
  · have hle := bindN_le n p p m
    have hnv : lifN n m p = never := Nat.le_antisymm hle (by omega)
    have hB := Bind_nev 0 n w.heap.size 0 1 w1.heap.size 0 1 m [p] [p] w2 hv rfl hn2 (by omega) hpp hm1 hm2 (by simp) (fun i hi => by omega) hnv
    rw [hs1] at hB
    have HB := Lib.hid hB
    have Hl := Lib.hid hnv
    clear hw1 hw2 hb1 hb2 hs1 hx1 hx2 hn1 hn2 hs2 hpp hv hbb hl HM2 hB hle hnv
    go_enter Try.func135, Try.ntmps135
    go_wp2_with fail
    rw [← HW1.out, ← HW2.out]
    refine HB.out.mono ?_
    rintro e w3 ⟨rfl, hb3⟩
    have Hb3 := Lib.hid (HBb.out.trans (hb3.mono HBb.out.size))
    clear hb3 HM3 HB
    go_wp2_with fail
    go_ret2
    exact ⟨.inr ⟨Hl.out, rfl⟩, Hb3.out.trans (((Below.refl _ _).alloc (Nat.le_refl _) _).mono Hb3.out.size)⟩
/-- some bound row lifts these hooks -/
def Lifts (n m q : Nat) : Prop := ∃ x, x < 2 ^ n ∧ BoundUp x n m ∧ ∀ j, j < n → bitN q j = true → bitN x j = true
theorem lif_iff {n m q : Nat} (h0 : 1 ≤ n) (h1 : n ≤ 24) : lifN n m q < never ↔ Lifts n m q := by
  constructor
  · intro h
    obtain ⟨x, hx, ⟨hc, hb⟩, _⟩ := bindN_is_row h1 h
    refine ⟨x, hx, hb, fun j hj hq => ?_⟩
    refine Classical.byContradiction fun hne => ?_
    have := (con_zero n).1 hc j hj (by rw [hq]; exact fun e => hne e.symm)
    rw [hq] at this
    cases this
  · rintro ⟨x, hx, hb, hl⟩
    have h2 := bindN_le_row (p := q) (f := q) (m := m) h0 h1 hx ⟨(con_zero n).2 fun j hj hne => by
      cases hq : bitN q j with
      | false => rfl
      | true => rw [hq, hl j hj hq] at hne; exact absurd rfl hne, hb⟩
    have h3 := ham_le q x n
    have h4 : 2 ^ n ≤ 2 ^ 24 := Nat.pow_le_pow_right (by decide) h1
    unfold lifN
    unfold never change at *
    omega
theorem lif_less {hs : List Nat} {n m i l : Nat} (h : Lifts n m (winN hs i (l + 1))) : Lifts n m (winN hs i l) := by
  obtain ⟨x, hx, hb, hl⟩ := h
  refine ⟨x, hx, hb, fun j hj hq => hl j hj ?_⟩
  unfold bitN at hq ⊢
  rw [winN, Nat.testBit_or, hq]; rfl
/-- the longest window so far -/
structure WoR (hs : List Nat) (n m k lo row : Nat) : Prop where
  le : lo ≤ hs.length
  no : ∀ i, i < k → lo < hs.length → ¬ Lifts n m (winN hs i (lo + 1))
  got : lo ≠ 0 → ∃ i, i < hs.length ∧ lifN n m (winN hs i lo) < never ∧ row = lifN n m (winN hs i lo) % change
  z : lo = 0 → row = 0
theorem WoR.start (hs : List Nat) (n m : Nat) : WoR hs n m 0 0 0 := ⟨Nat.zero_le _, fun i hi => by omega, fun h => absurd rfl h, fun _ => rfl⟩
theorem WoR.more {hs : List Nat} {n m k lo row : Nat} (h : WoR hs n m k lo row) (h0 : 1 ≤ n) (h1 : n ≤ 24) (hk : k < hs.length) (hl : lo < hs.length) (hy : lifN n m (winN hs k (lo + 1)) < never) : WoR hs n m k (lo + 1) (lifN n m (winN hs k (lo + 1)) % change) :=
  ⟨hl, fun i hi _ hL => h.no i hi hl (lif_less hL), fun _ => ⟨k, hk, hy, rfl⟩, fun e => by omega⟩
theorem WoR.stop {hs : List Nat} {n m k lo row : Nat} (h : WoR hs n m k lo row) (h0 : 1 ≤ n) (h1 : n ≤ 24) (hy : lo < hs.length → lifN n m (winN hs k (lo + 1)) = never) : WoR hs n m (k + 1) lo row :=
  ⟨h.le, fun i hi hl hL => by
    by_cases e : i = k
    · subst e
      have := (lif_iff h0 h1).2 hL
      rw [hy hl] at this
      exact absurd this (Nat.lt_irrefl _)
    · exact h.no i (by omega) hl hL, h.got, h.z⟩
end Go.Proofs.Ytdmgffoikebgkaa
/- Harness ties: the longest float of a bound row. -/
namespace Go.Proofs.Ytdmgffoikebgkaa
open Go.RowKit Go.Shelf
attribute [local go_sem] Oper.semAt_some

set_option maxRecDepth 100000 in
set_option maxHeartbeats 2000000 in
theorem tieWorst_any (n b off c m E Mb : Nat) (hs : List Nat) (w : World) (hv : TAt w b off n hs) (hm1 : 1 ≤ m) (hm2 : m ≤ 24) (hE : w.cell? ⟨E, 0, none⟩ = some (.int .i64 (n : Int))) (hM : w.cell? ⟨Mb, 0, none⟩ = some (.int .i64 (m : Int))) :
    Calls Try.prog 134 #[.agg #[.int .i64 (n : Int), .slice (some ⟨b, off, none⟩) hs.length c], .func (.func 135) #[] #[.pointer (some ⟨E, 0, none⟩), .pointer (some ⟨Mb, 0, none⟩)]] w fun e w' =>
      (∃ lo row, WoR hs n m hs.length lo row ∧ e = .returned (.tuple #[.int .i64 ((if lo = hs.length then 1000 else lo : Nat) : Int), .int .i64 (row : Int)])) ∧ Below w.heap.size w w' := by
  have l0 := hv.l0
  have l1 := hv.l1
  have hEl := World.block_lt_of_cell? w ⟨E, 0, none⟩ hE
  have hMl := World.block_lt_of_cell? w ⟨Mb, 0, none⟩ hM
  obtain ⟨w0, hw0⟩ : ∃ w0, w0 = w.alloc (.cells #[.int .i64 (n : Int), .slice (some ⟨b, off, none⟩) hs.length c] 159) := ⟨_, rfl⟩
  have hb0 : Below w.heap.size w w0 := by rw [hw0]; exact (Below.refl _ _).alloc (Nat.le_refl _) _
  have hbx : BoxAt w0 w.heap.size #[.int .i64 (n : Int), .slice (some ⟨b, off, none⟩) hs.length c] 159 := by rw [hw0]; exact BoxAt.new _ _ _
  have x1 := hbx.cell' 1 rfl
  have HV := Lib.hid hv
  have HW0 := Lib.hid hw0
  have HB := Lib.hid hbx
  have Hb0 := Lib.hid hb0
  have HE := Lib.hid hE
  have HM := Lib.hid hM
  clear hv hw0 hbx hb0 hE hM
  go_enter Try.func134, Try.ntmps134
  go_wp2_with fail
  rw [← HW0.out]
  go_wp2_with fail
  go_loopw [13, 4, 5] (fun i lo row wr => ∃ k l r : Nat, k ≤ hs.length ∧ i = .int .i64 k ∧ lo = .int .i64 l ∧ row = .int .i64 r ∧ WoR hs n m k l r ∧ Below w0.heap.size w0 wr) (fun i _ _ _ => hs.length - (intOf i).toNat)
  case atStart => exact ⟨0, 0, 0, Nat.zero_le _, rfl, rfl, rfl, WoR.start _ _ _, Below.refl _ _⟩
  case round =>
    obtain ⟨k, l, r, hk, rfl, rfl, rfl, hR, hbw⟩ := hrel
    by_cases hlt : k < hs.length
    · have hltI : (k : Int) < (hs.length : Int) := by omega
      have HR := Lib.hid hR
      have Hbw := Lib.hid hbw
      clear hR hbw x1
      go_wp2_with fail
      go_loopw [4, 5] (fun lo row wr => ∃ l r : Nat, lo = .int .i64 l ∧ row = .int .i64 r ∧ WoR hs n m k l r ∧ Below w0.heap.size w0 wr) (fun lo _ _ => hs.length - (intOf lo).toNat)
      case atStart => exact ⟨l, r, rfl, rfl, HR.out, Hbw.out⟩
      case round =>
        obtain ⟨l, r, rfl, rfl, hR, hbw⟩ := hrel
        have hB := HB.out.next hbw
        have x0 := hB.cell' 0 rfl
        have x1 := hB.cell' 1 rfl
        have hle := hR.le
        by_cases hl : l < hs.length
        · have hlI : (l : Int) < (hs.length : Int) := by omega
          have hbww := Hb0.out.trans (hbw.mono Hb0.out.size)
          have H187 := Lib.hid (tieWindow_any n b off c k (l + 1) hs wr (HV.out.next hbww) (by omega) (by omega))
          have HR := Lib.hid hR
          have Hbw := Lib.hid hbw
          have Hbww := Lib.hid hbww
          have hl1I : ((l + 1 : Nat) : Int) = (l : Int) + 1 := by omega
          rw [hl1I] at H187
          clear hR hbw hbww hB
          go_wp2_with fail
          refine H187.out.mono ?_
          rintro e W1 ⟨rfl, hb1⟩
          have hb1w := Hbww.out.trans (hb1.mono Hbww.out.size)
          have hq : winN hs k (l + 1) < 2 ^ n := winN_ltn hs k HV.out.hk (by omega) _
          have H135 := Lib.hid (tieLift_any n m (winN hs k (l + 1)) E Mb W1 HV.out.n0 HV.out.n1 hm1 hm2 hq ((hb1w.cell (p := ⟨E, 0, none⟩) hEl).trans HE.out) ((hb1w.cell (p := ⟨Mb, 0, none⟩) hMl).trans HM.out))
          have Hb1 := Lib.hid (Hbw.out.trans (hb1.mono Hbw.out.size))
          clear hb1 hb1w hq H187 x0 x1
          go_wp2_with fail
          refine H135.out.mono ?_
          rintro e W2 ⟨hres, hb2⟩
          have Hb2 := Lib.hid (Hb1.out.trans (hb2.mono Hb1.out.size))
          clear hb2 H135
          rcases hres with ⟨hy, rfl⟩ | ⟨hy, rfl⟩
          · have HR2 := Lib.hid (HR.out.more HV.out.n0 HV.out.n1 hlt hl hy)
            clear hy
            go_wp2_with fail
            go_roundw
            case rel => exact ⟨l + 1, _, by go_num, rfl, HR2.out, Hb2.out⟩
            case measure => simp [intOf]; omega
          · have HR2 := Lib.hid (HR.out.stop HV.out.n0 HV.out.n1 (fun _ => hy))
            clear hy
            go_wp2_with fail
            go_roundw
            case rel => exact ⟨k + 1, l, r, by omega, by go_num, rfl, rfl, HR2.out, Hb2.out⟩
            case measure => simp [intOf]; omega
        · have HR2 := Lib.hid (hR.stop HV.out.n0 HV.out.n1 (fun h => absurd h hl))
          have Hbw := Lib.hid hbw
          have hlI : ¬ (l : Int) < (hs.length : Int) := by omega
          clear hR hbw hB
          go_wp2_with fail
          go_roundw
          case rel => exact ⟨k + 1, l, r, by omega, by go_num, rfl, rfl, HR2.out, Hbw.out⟩
          case measure => simp [intOf]; omega
    · obtain rfl : hs.length = k := by omega
      have x1 := (HB.out.next hbw).cell' 1 rfl
      have Hbw := Lib.hid (Hb0.out.trans (hbw.mono Hb0.out.size))
      have hltI : ¬ (hs.length : Int) < (hs.length : Int) := by omega
      have HR := Lib.hid hR
      clear hR hbw
      by_cases hl : l = hs.length
      · have hlI : (l : Int) = (hs.length : Int) := by omega
        have hle : ((l : Int) == (hs.length : Int)) = true := by rw [hlI]; simp
        have Hl := Lib.hid hl
        clear hl hlI
        go_wp2_with fail
        go_ret2
        exact ⟨⟨l, r, HR.out, by rw [if_pos Hl.out]; rfl⟩, Hbw.out⟩
      · have hle : ((l : Int) == (hs.length : Int)) = false := by rw [beq_eq_false_iff_ne]; omega
        have Hl := Lib.hid hl
        clear hl
        go_wp2_with fail
        go_ret2
        exact ⟨⟨l, r, HR.out, by rw [if_neg Hl.out]; rfl⟩, Hbw.out⟩
end Go.Proofs.Ytdmgffoikebgkaa
/- Harness ties: Worst. -/
namespace Go.Proofs.Ytdmgffoikebgkaa
open Go.RowKit Go.Shelf
attribute [local go_sem] Oper.semAt_some

def WorstR (hs : List Nat) (n m : Nat) (e : Ending) : Prop := ∃ lo row, WoR hs n m hs.length lo row ∧
  ((lo = 0 ∧ e = .returned (.tuple #[.int .i64 0, .int .i64 0, .int .i64 9])) ∨ (lo ≠ 0 ∧ e = .returned (.tuple #[.int .i64 ((if lo = hs.length then 1000 else lo : Nat) : Int), .int .i64 (row : Int), .int .i64 0])))
set_option maxRecDepth 100000 in
set_option maxHeartbeats 2000000 in
theorem Worst_ok (n b off c m : Nat) (hs : List Nat) (w : World) (hv : TAt w b off n hs) (hm1 : 1 ≤ m) (hm2 : m ≤ 24) :
    Calls Try.prog 58 #[.agg #[.int .i64 (n : Int), .slice (some ⟨b, off, none⟩) hs.length c], .int .i64 (m : Int)] w fun e w' => WorstR hs n m e ∧ Below w.heap.size w w' := by
  have l0 := hv.l0
  have l1 := hv.l1
  obtain ⟨w0, hw0⟩ : ∃ w0, w0 = (w.alloc (.cells #[.int .i64 (n : Int), .slice (some ⟨b, off, none⟩) hs.length c] 26)).alloc (.cells #[.int .i64 (m : Int)] 3) := ⟨_, rfl⟩
  have hb0 : Below w.heap.size w w0 := by rw [hw0]; exact ((Below.refl _ _).alloc (Nat.le_refl _) _).alloc (by simp) _
  have s0 : w0.heap.size = w.heap.size + 2 := by rw [hw0]; simp
  have e0 : BoxAt w0 w.heap.size #[.int .i64 (n : Int), .slice (some ⟨b, off, none⟩) hs.length c] 26 := by rw [hw0]; exact (BoxAt.new _ _ _).next ((Below.refl _ _).alloc (Nat.le_refl _) _)
  have e1 : BoxAt w0 (w.heap.size + 1) #[.int .i64 (m : Int)] 3 := by
    have := BoxAt.new (w.alloc (.cells #[.int .i64 (n : Int), .slice (some ⟨b, off, none⟩) hs.length c] 26)) #[.int .i64 (m : Int)] 3
    rw [World.size_alloc] at this
    rw [hw0]; exact this
  have HCk := Lib.hid (tieCheck_ok n b off c hs w0 (hv.next hb0))
  have a0 := e0.cell' 0 rfl
  have a1 := e0.cell' 1 rfl
  have HW0 := Lib.hid hw0
  have HV := Lib.hid hv
  have Hb0 := Lib.hid hb0
  have E0 := Lib.hid e0
  have E1 := Lib.hid e1
  clear hw0 hv hb0 e0 e1
  go_enter Try.func58, Try.ntmps58
  go_wp2_with fail
  rw [← HW0.out]
  refine HCk.out.mono ?_
  rintro e w1 ⟨rfl, hb1⟩
  have c0 := (E1.out.next hb1).cell' 0 rfl
  have Hb1 := Lib.hid (Hb0.out.trans (hb1.mono Hb0.out.size))
  have E0 := Lib.hid (E0.out.next hb1)
  have E1 := Lib.hid (E1.out.next hb1)
  have hs1 : w.heap.size + 2 ≤ w1.heap.size := by have := hb1.size; omega
  clear hb1 a0 a1 HCk HW0 s0
  obtain ⟨w2, hw2⟩ : ∃ w2, w2 = w1.alloc (.cells #[.int .i64 (m : Int)] 3) := ⟨_, rfl⟩
  have hb2 : Below w1.heap.size w1 w2 := by rw [hw2]; exact (Below.refl _ _).alloc (Nat.le_refl _) _
  have HA := Lib.hid (areFrom_one 1 24 w1.heap.size 0 1 m w2 (by rw [hw2]; simp) (by omega) (by omega))
  have HW2 := Lib.hid hw2
  have E0' := Lib.hid (E0.out.next hb2)
  have E1' := Lib.hid (E1.out.next hb2)
  have Hb2 := Lib.hid (Hb1.out.trans (hb2.mono Hb1.out.size))
  have a0 := E0'.out.cell' 0 rfl
  have a1 := E0'.out.cell' 1 rfl
  have d0 := E1'.out.cell' 0 rfl
  have HWo := Lib.hid (tieWorst_any n b off c m w.heap.size (w.heap.size + 1) hs w2 (HV.out.next Hb2.out) hm1 hm2 a0 d0)
  clear hw2 hb2 d0
  go_wp2_with fail
  rw [← HW2.out]
  refine HA.out.mono ?_
  rintro e w' ⟨rfl, rfl⟩
  go_wp2_with fail
  refine HWo.out.mono ?_
  rintro e w3 ⟨⟨lo, row, hR, rfl⟩, hb3⟩
  have Hb3 := Lib.hid (Hb2.out.trans (hb3.mono Hb2.out.size))
  have HR := Lib.hid hR
  have hl1 := hR.le
  obtain ⟨z, hz⟩ : ∃ z, (if lo = hs.length then 1000 else lo) = z := ⟨_, rfl⟩
  rw [hz]
  have HZ := Lib.hid hz
  by_cases hl : lo = 0
  · have hz0 : z = 0 := by rw [← hz, if_neg (by omega), hl]
    subst hz0
    have Hl := Lib.hid hl
    clear hz hl hR hb3 a0 a1 c0
    go_wp2_with fail
    go_ret3
    exact ⟨⟨lo, row, HR.out, .inl ⟨Hl.out, rfl⟩⟩, Hb3.out⟩
  · have hz0 : ((z : Int) == 0) = false := by
      rw [beq_eq_false_iff_ne]
      have : z ≠ 0 := by rw [← hz]; split <;> omega
      omega
    have Hl := Lib.hid hl
    clear hz hl hR hb3 a0 a1 c0
    go_wp2_with fail
    go_ret3
    exact ⟨⟨lo, row, HR.out, .inr ⟨Hl.out, by rw [HZ.out]; rfl⟩⟩, Hb3.out⟩
end Go.Proofs.Ytdmgffoikebgkaa
/- TopBoundCloth: bound rows weave bound picks by a straight tie, and none above Worst by any. -/
namespace Go.Proofs.Ytdmgffoikebgkaa
open Go.RowKit Go.Shelf
attribute [local go_sem] Oper.semAt_some

/-- the row of every second hook -/
def altN (n : Nat) : Nat := rowTo (fun i => decide (i % 2 = 1)) n
theorem altN_bit (n i : Nat) (h : i < n) : bitN (altN n) i = decide (i % 2 = 1) := by unfold altN; rw [bit_rowTo, decide_eq_true h, Bool.true_and]
theorem alt_bound (n m : Nat) (hn : 2 ≤ n) (hm : 2 ≤ m) : BoundUp (altN n) n m := fun k hk => by
  by_cases h1 : k + 1 < n
  · refine ⟨1, by omega, ?_⟩
    rw [Nat.mod_eq_of_lt h1, altN_bit n _ h1, altN_bit n _ hk]
    intro e
    rw [decide_eq_decide] at e
    omega
  · have hk1 : k = n - 1 := by omega
    by_cases h2 : n % 2 = 0
    · refine ⟨1, by omega, ?_⟩
      rw [show k + 1 = n by omega, Nat.mod_self, altN_bit n _ (by omega), altN_bit n _ hk]
      intro e
      rw [decide_eq_decide] at e
      omega
    · refine ⟨2, hm, ?_⟩
      rw [show k + 2 = n + 1 by omega, Nat.add_mod_left, Nat.mod_eq_of_lt (show 1 < n by omega), altN_bit n _ (by omega), altN_bit n _ hk]
      intro e
      rw [decide_eq_decide] at e
      omega
/-- the other way round -/
def cmpN (n x : Nat) : Nat := rowTo (fun i => !bitN x i) n
theorem cmpN_bit (n x i : Nat) (h : i < n) : bitN (cmpN n x) i = !bitN x i := by unfold cmpN; rw [bit_rowTo, decide_eq_true h, Bool.true_and]
theorem cmp_bound {n x m : Nat} (h : BoundUp x n m) : BoundUp (cmpN n x) n m := fun k hk => by
  obtain ⟨j, hj, hne⟩ := h k hk
  refine ⟨j, hj, ?_⟩
  rw [cmpN_bit n x _ (Nat.mod_lt _ (by omega)), cmpN_bit n x _ hk]
  intro e
  exact hne (Bool.not_inj e)
theorem free_boundM {n m p : Nat} (h1 : 2 ≤ n) (h2 : n ≤ 24) (hm : 2 ≤ m) : bindN n p 0 m < never := by
  have := bindN_le_row (p := p) (f := 0) (x := altN n) (by omega) h2 (rowTo_lt _ n) ⟨con_free _ _ _, alt_bound n m h1 hm⟩
  have h3 := ham_le p (altN n) n
  have h4 : 2 ^ n ≤ 2 ^ 24 := Nat.pow_le_pow_right (by decide) h2
  have h5 : altN n < 2 ^ n := rowTo_lt _ n
  unfold never change at *
  omega
/-- the hooks of a window -/
theorem winN_bit (hs : List Nat) (f j : Nat) : ∀ l, bitN (winN hs f l) j = true → ∃ t, t < l ∧ aroundN hs ((f : Int) + (t : Int)) = j
  | 0, h => by simp [winN, bitN] at h
  | l + 1, h => by
    unfold bitN at h
    rw [winN, Nat.testBit_or, Bool.or_eq_true] at h
    rcases h with h | h
    · obtain ⟨t, ht, e⟩ := winN_bit hs f j l h
      exact ⟨t, by omega, e⟩
    · rw [Nat.testBit_two_pow] at h
      exact ⟨l, by omega, by simpa using h⟩
theorem one_lifts {hs : List Nat} {n m : Nat} (hn : 2 ≤ n) (hm : 2 ≤ m) (hk : ∀ i, i < hs.length → nthN hs i < n) (h0 : 0 < hs.length) : Lifts n m (winN hs 0 1) := by
  have key : ∀ x, x < 2 ^ n → BoundUp x n m → bitN x (aroundN hs 0) = true → Lifts n m (winN hs 0 1) := fun x hx hb h => ⟨x, hx, hb, fun j _ hq => by
    obtain ⟨t, ht, e⟩ := winN_bit hs 0 j 1 hq
    obtain rfl : t = 0 := by omega
    rw [← e]; exact h⟩
  have ha := around_lt hk h0 0
  cases hb : bitN (altN n) (aroundN hs 0) with
  | true => exact key (altN n) (rowTo_lt _ n) (alt_bound n m hn hm) hb
  | false => exact key (cmpN n (altN n)) (rowTo_lt _ n) (cmp_bound (alt_bound n m hn hm)) (by rw [cmpN_bit n _ _ ha, hb]; rfl)
theorem upTo_nil {f : Nat → List Fl} {k : Nat} (h : ∀ i, i < k → f i = []) : upTo f k = [] := by
  unfold upTo
  rw [List.flatMap_eq_nil_iff]
  exact fun i hi => h i (by simpa using hi)
theorem flO_nil {hs xs : List Nat} {m i : Nat} (h : ∀ r, r ∈ runsOf hs.length (pickP hs (nthN xs i)) → ¬ m < r.length) : flO hs xs m i = [] := by
  unfold flO flT
  rw [List.filter_eq_nil_iff]
  intro f hf
  rw [List.mem_map] at hf
  obtain ⟨r, hr, rfl⟩ := hf
  intro hlt
  exact h r hr (of_decide_eq_true hlt)
/-- by a straight tie no float is longer than the bound -/
theorem straight_bound (M t m : Nat) (xs : List Nat) (L : Nat) (ht : 1 ≤ t) (hN : (M + 1) * t ≤ 1000) (h : ∀ i, i < L → BoundUp (nthN xs i) (M + 1) m) : upTo (flO (grpL M 1 t) xs m) L = [] := by
  refine upTo_nil fun i hi => flO_nil fun r hr hlt => ?_
  have ho : onceT M 1 = M + 1 := by unfold onceT; rw [if_neg (by simp)]
  have hl : (grpL M 1 t).length = (M + 1) * t := by rw [grpL_len, ho]
  have hp : 0 < (M + 1) * t := Nat.mul_pos (by omega) ht
  obtain ⟨_, f, hf⟩ := (run_iffT (k := m + 1) (p := pickP (grpL M 1 t) (nthN xs i)) r.lifted (by rw [hl]; exact hp) (by rw [hl]; exact hN) (rowTo_lt _ _) (by omega)).1 ⟨r, hr, rfl, hlt⟩
  have hb : ∀ j, j < m + 1 → bitN (nthN xs i) ((f + j) % (M + 1)) = r.lifted := fun j hj => by
    have h1 := hf j hj
    unfold ringT at h1
    have h2 : (f + j) % (grpL M 1 t).length < (grpL M 1 t).length := Nat.mod_lt _ (by rw [hl]; exact hp)
    rw [pickP_bit _ _ _ h2, grpL_nth _ _ _ _ (by rw [ho, ← hl]; exact h2), hl] at h1
    have h3 := hook_str (M + 1) ((f + j) % ((M + 1) * t)) (by omega)
    rw [show M + 1 - 1 = M by omega] at h3
    rw [h3, Nat.mod_mul_right_mod] at h1
    exact h1
  obtain ⟨j, hj, hne⟩ := h i hi (f % (M + 1)) (Nat.mod_lt _ (by omega))
  have e0 := hb 0 (by omega)
  have e1 := hb j (by omega)
  rw [Nat.add_zero] at e0
  rw [Nat.mod_add_mod, e0, e1] at hne
  exact hne rfl
/-- by any tie none is longer than Worst says -/
theorem worst_bound {hs xs : List Nat} {n m lo row L : Nat} (hR : WoR hs n m hs.length lo row) (hn : 1 ≤ n) (hk : ∀ i, i < hs.length → nthN hs i < n) (h0 : 0 < hs.length) (h1 : hs.length ≤ 1000)
    (h : ∀ i, i < L → nthN xs i < 2 ^ n ∧ BoundUp (nthN xs i) n m) : upTo (flO hs xs (if lo = hs.length then 1000 else lo)) L = [] := by
  refine upTo_nil fun i hi => flO_nil fun r hr hlt => ?_
  have hrun : ∀ k, 1 ≤ k → k ≤ r.length → _ := fun k hk1 hk2 => (run_iffT (k := k) r.lifted h0 h1 (rowTo_lt (fun a => bitN (nthN xs i) (nthN hs a)) hs.length) hk1).1 ⟨r, hr, rfl, hk2⟩
  by_cases hl : lo = hs.length
  · rw [if_pos hl] at hlt
    have := (hrun r.length (by omega) (Nat.le_refl _)).1
    omega
  · rw [if_neg hl] at hlt
    have hlo := hR.le
    obtain ⟨_, f, hf⟩ := hrun (lo + 1) (by omega) hlt
    have hfl := Nat.mod_lt f h0
    refine hR.no (f % hs.length) hfl (by omega) ?_
    have hb : ∀ t, t < lo + 1 → bitN (nthN xs i) (aroundN hs (((f % hs.length : Nat) : Int) + (t : Int))) = r.lifted := fun t ht => by
      have h2 := hf t ht
      unfold ringT at h2
      have h3 : (f + t) % hs.length < hs.length := Nat.mod_lt _ h0
      have h4 := pickP_bit hs (nthN xs i) _ h3
      unfold pickP at h4
      rw [h4] at h2
      unfold aroundN
      have e : (((f % hs.length : Nat) : Int) + (t : Int) + (hs.length : Int)).toNat = f % hs.length + t + hs.length := by omega
      rw [e, Nat.add_mod_right, Nat.mod_add_mod]
      exact h2
    obtain ⟨hx, hbd⟩ := h i hi
    cases hv : r.lifted with
    | true =>
      refine ⟨_, hx, hbd, fun j hj hq => ?_⟩
      obtain ⟨t, ht, e⟩ := winN_bit _ _ _ _ hq
      rw [← e, hb t ht, hv]
    | false =>
      refine ⟨cmpN n (nthN xs i), rowTo_lt _ n, cmp_bound hbd, fun j hj hq => ?_⟩
      obtain ⟨t, ht, e⟩ := winN_bit _ _ _ _ hq
      rw [cmpN_bit n _ _ hj, ← e, hb t ht, hv]; rfl
theorem worst_some {hs : List Nat} {n m lo row : Nat} (hR : WoR hs n m hs.length lo row) (hn : 2 ≤ n) (hm : 2 ≤ m) (hk : ∀ i, i < hs.length → nthN hs i < n) (h0 : 0 < hs.length) : lo ≠ 0 := fun e => by
  subst e
  exact hR.no 0 h0 h0 (one_lifts hn hm hk h0)
end Go.Proofs.Ytdmgffoikebgkaa
/- TopBoundCloth: the contracts that its walk uses. -/
namespace Go.Proofs.Ytdmgffoikebgkaa
open Go.RowKit Go.Shelf
attribute [local go_sem] Oper.semAt_some

set_option maxHeartbeats 1000000 in
theorem armRound2_any (l n : Nat) (w : World) (hn : n ≤ 60) (hl : l + l = n) :
    Calls Try.prog 101 #[.int .i64 (l : Int), .int .i64 2] w fun e w' =>
      ∃ v, e = .returned v ∧ w'.ownsRow w.heap.size 3 1 v n ((List.replicate n 1).map natV) ∧ Below w.heap.size w w' := by
  have hR0 : RoAt w (.slice (some ⟨w.heap.size, 0, none⟩) 0 0) 0 (w.alloc (.cells #[] 3)) :=
    ⟨⟨by simp, .inr ⟨_, 0, #[], rfl, Nat.le_refl _, World.alloc_heap_new w _, Nat.le_refl _, by decide, by simp, by simp⟩⟩, (Below.refl _ _).alloc (Nat.le_refl _) _⟩
  have HR0 := Lib.hid hR0
  have hmu : (l : Int) * 2 = (n : Int) := by omega
  clear hR0
  go_enter Try.func101, Try.ntmps101
  go_wp2_with fail
  go_loopw [5, 6] (fun v i wr => ∃ k : Nat, k ≤ n ∧ i = .int .i64 k ∧ RoAt w v k wr) (fun _ i _ => n - (intOf i).toNat)
  case atStart => exact ⟨0, Nat.zero_le _, rfl, HR0.out⟩
  case round =>
    obtain ⟨k, hk, rfl, hT⟩ := hrel
    clear HR0
    have HT := Lib.hid hT
    clear hT
    by_cases hlt : k < n
    · go_wp2_with (at_builtin; refine Shut.out ?_)
      unfold Shut
      refine app_one elemInt rfl _ _ rfl w.heap.size u5 k ((List.replicate k 1).map natV) #[.int .i64 1] rfl HT.out.row rfl rfl (by simp [Value.oneCell']) (by omega) (by decide) HT.out.b.size ?_
      intro g5 cap w5 hg
      have HT5 := Lib.hid (HT.out.grew hg)
      clear hg
      go_wp2_with fail
      go_roundw
      case rel => exact ⟨k + 1, by omega, by go_num, HT5.out⟩
      case measure => simp [intOf]; omega
    · obtain rfl : k = n := by omega
      go_wp2_with fail
      go_ret
      exact ⟨u5, rfl, HT.out.row, HT.out.b⟩


theorem call101d (L T : Nat) (W : World) (h0 : 0 < L) (hT : L + L = T) (hl : T ≤ 60) :
    Calls Try.prog 101 #[.int .i64 (L : Int), .int .i64 2] W fun e w' =>
      ∃ g cap, e = .returned (.slice (some ⟨g, 0, none⟩) T cap) ∧ NatsAt w' g 0 (List.replicate T 1) ∧ W.heap.size ≤ g ∧ g < w'.heap.size ∧ Below W.heap.size W w' := by
  refine (armRound2_any L T W hl hT).mono ?_
  rintro e w' ⟨v, rfl, h1, h2⟩
  obtain ⟨g, cap, rfl⟩ := row_slice h1 (by omega)
  obtain ⟨a, b, d⟩ := nats_of_row h1 (by omega)
  exact ⟨g, cap, rfl, a, d, b, h2⟩
theorem cyl_lt (l : Nat) (xs : List Nat) (h : 0 < l) : ∀ k, cylTo l xs 0 k < l
  | 0 => h
  | k + 1 => Nat.mod_lt _ h
/-- each row that is woven is one of the design -/
theorem woven_row (n T : Nat) (xs ys : List Nat) (h0 : 0 < xs.length) (i : Nat) (hi : i < T) : ∃ j, j < xs.length ∧ nthN (wovenTo n (punched xs xs.length) ys 0 T) i = nthN xs j := by
  have hj := cyl_lt xs.length ys h0 i
  refine ⟨_, hj, ?_⟩
  rw [nthN_get _ _ (by rw [wovenTo_len]; exact hi)]
  simp only [wovenTo, List.getElem_map, List.getElem_range, punched_len]
  rw [punched_nth _ _ _ hj]
  rfl
theorem call84d (n L T g c b cx : Nat) (cs : List Card) (W : World) (hL : cs.length = L) (hv : ChainOk n cs) (hT0 : 0 < T) (hT : T ≤ 60) (hc : CardsAt W g cs) (hx : NatsAt W b 0 (List.replicate T 1)) (hxb : b < W.heap.size) :
    Calls Try.prog 84 #[.agg #[.int .i64 (n : Int), .slice (some ⟨g, 0, none⟩) L c], .int .i64 0, .slice (some ⟨b, 0, none⟩) T cx] W fun e w' =>
      ∃ (g' cap a : Nat), e = .returned (.tuple #[.slice (some ⟨g', 0, none⟩) T cap, .int .i64 (a : Int), .int .i64 0]) ∧ NatsAt w' g' 0 (wovenTo n cs (List.replicate T 1) 0 T) ∧ W.heap.size ≤ g' ∧ g' < w'.heap.size ∧ Below W.heap.size W w' := by
  subst hL
  have l0 := hv.l0
  have h := chainWeave_ok n g c 0 b 0 cx cs (List.replicate T 1) W ⟨hc, hv⟩ (by omega) hx hxb (by simp; omega) (by simp; omega) (fun i => nthN_one3 _ _)
  rw [List.length_replicate] at h
  refine h.mono ?_
  rintro e w' ⟨v, rfl, h1, h2⟩
  obtain ⟨g', cap, rfl⟩ := row_slice h1 hT0
  obtain ⟨a, b, d⟩ := nats_of_row h1 hT0
  exact ⟨g', cap, _, rfl, a, d, b, h2⟩
theorem zs_fixM {n m : Nat} {xs : List Nat} (hv : Valid n xs) (h1 : 2 ≤ n) (hm : 2 ≤ m) : BindFix n m xs (List.replicate xs.length 0) (zsOf n m xs) (smOf n m xs) :=
  bindFix_of hv fun i _ => by rw [zeros_nth]; exact free_boundM h1 hv.n1 hm
theorem call69m (n L b c f fc m : Nat) (xs : List Nat) (W : World) (hL : xs.length = L) (hv : Valid n xs) (h1 : 2 ≤ n) (hm : 2 ≤ m) (hm2 : m ≤ 24) (hx : NatsAt W b 0 xs) (hb : b < W.heap.size) (hf : NatsAt W f 0 (List.replicate L 0)) (hfb : f < W.heap.size) :
    Calls Try.prog 69 #[.agg #[.int .i64 (n : Int), .slice (some ⟨b, 0, none⟩) L c], .slice (some ⟨f, 0, none⟩) L fc, .int .i64 (m : Int)] W fun e w' =>
      ∃ g cap, e = .returned (.tuple #[.agg #[.int .i64 (n : Int), .slice (some ⟨g, 0, none⟩) L cap], .int .i64 (smOf n m xs : Int), .int .i64 0]) ∧ NatsAt w' g 0 (zsOf n m xs) ∧ W.heap.size ≤ g ∧ g < w'.heap.size ∧ Below W.heap.size W w' := by
  subst hL
  refine (Bind_ok n b 0 c f 0 fc m xs (List.replicate xs.length 0) W ⟨hx, hb, hv⟩ (by simp) hf hfb (fun i => by rw [zeros_nth]; exact Nat.pow_pos (by decide)) (by omega) hm2 (fun i _ => by rw [zeros_nth]; exact free_boundM h1 hv.n1 hm)).mono ?_
  rintro e w' ⟨v, rfl, h3, h4⟩
  have l0 := hv.l0
  obtain ⟨g, cap, rfl⟩ := row_slice h3 (by omega)
  obtain ⟨a, b, d⟩ := nats_of_row h3 (by omega)
  exact ⟨g, cap, rfl, a, d, b, h4⟩
theorem call39m (n T L b c b2 c2 m : Nat) (hs xs : List Nat) (W : World) (hT : hs.length = T) (hL : xs.length = L) (hm : m ≤ 1000) (hF : upTo (flO hs xs m) L = []) (hv : TAt W b 0 n hs) (hx : VAt W b2 0 c2 n xs) :
    Calls Try.prog 39 #[.agg #[.int .i64 (n : Int), .slice (some ⟨b, 0, none⟩) T c], .agg #[.int .i64 (n : Int), .slice (some ⟨b2, 0, none⟩) L c2], .int .i64 (m : Int)] W fun e w' =>
      ∃ p cap, e = .returned (.tuple #[.slice p 0 cap, .int .i64 0]) ∧ Below W.heap.size W w' := by
  subst hT hL
  refine (tieFloats_ok n b 0 c b2 0 c2 m hs xs W hv hx hm).mono ?_
  rintro e w' ⟨v, rfl, h1, h2⟩
  rw [hF] at h1
  obtain ⟨p, cap, rfl, _⟩ := Fls.of_row (fs := []) h1
  exact ⟨p, cap, rfl, h2⟩
theorem call58 (n T b c m : Nat) (hs : List Nat) (W : World) (hT : hs.length = T) (hn : 2 ≤ n) (hm1 : 2 ≤ m) (hm2 : m ≤ 24) (hv : TAt W b 0 n hs) :
    Calls Try.prog 58 #[.agg #[.int .i64 (n : Int), .slice (some ⟨b, 0, none⟩) T c], .int .i64 (m : Int)] W fun e w' =>
      ∃ z row : Nat, e = .returned (.tuple #[.int .i64 (z : Int), .int .i64 (row : Int), .int .i64 0]) ∧ 1 ≤ z ∧ z ≤ 1000 ∧ (∀ xs L, (∀ i, i < L → nthN xs i < 2 ^ n ∧ BoundUp (nthN xs i) n m) → upTo (flO hs xs z) L = []) ∧ Below W.heap.size W w' := by
  subst hT
  have l0 := hv.l0
  have l1 := hv.l1
  refine (Worst_ok n b 0 c m hs W hv (by omega) hm2).mono ?_
  rintro e w' ⟨⟨lo, row, hR, h⟩, hb⟩
  have hlo := worst_some hR hn hm1 hv.hk (by omega)
  have hle := hR.le
  rcases h with ⟨h, _⟩ | ⟨_, rfl⟩
  · exact absurd h hlo
  · exact ⟨_, row, rfl, by split <;> omega, by split <;> omega, fun xs L h => worst_bound hR (by omega) hv.hk (by omega) (by omega) h, hb⟩
end Go.Proofs.Ytdmgffoikebgkaa
/- TopBoundCloth: its regions that draw their order. -/
namespace Go.Proofs.Ytdmgffoikebgkaa
open Go.RowKit Go.Shelf
attribute [local go_sem] Oper.semAt_some

def region_bc4U : List (List Nat) := [[], [1], [], [], [], [5], [], [1, 5, 7], [1, 5, 7], [1, 5, 7], [1, 5, 7], [1, 5, 7], [12], [1, 5, 7, 12], [1, 5, 7], [1, 5, 7]]
def region_bc4X (N L g2 q2 D m : Nat) (DS : List Nat) : Nat → (Nat → Hd) → Value
  | 0, _ => .agg #[.int .i64 (N : Int), .slice (some ⟨g2, 0, none⟩) L q2]
  | 1, hds => .agg #[.int .i64 (N : Int), .slice (some ⟨(hds 1).b, 0, none⟩) L (hds 1).c]
  | 2, _ => .pointer (some ⟨D, 1, none⟩)
  | 3, _ => .slice (some ⟨g2, 0, none⟩) L q2
  | 4, _ => .int .i64 (L : Int)
  | 5, hds => .slice (some ⟨(hds 5).b, 0, none⟩) L L
  | 6, _ => .int .i64 (m : Int)
  | 7, hds => .tuple #[.agg #[.int .i64 (N : Int), .slice (some ⟨(hds 7).b, 0, none⟩) L (hds 7).c], .int .i64 (smOf N m DS : Int), .int .i64 0]
  | 8, hds => .tuple #[.agg #[.int .i64 (N : Int), .slice (some ⟨(hds 7).b, 0, none⟩) L (hds 7).c], .int .i64 (smOf N m DS : Int), .int .i64 0]
  | 9, hds => .agg #[.int .i64 (N : Int), .slice (some ⟨(hds 7).b, 0, none⟩) L (hds 7).c]
  | 10, _ => .int .i64 (smOf N m DS : Int)
  | 11, _ => .int .i64 0
  | 12, hds => .pointer (some ⟨(hds 12).b, 0, none⟩)
  | 13, _ => undef
  | 14, _ => .int .i64 (smOf N m DS : Int)
  | 15, _ => .int .i64 0
  | _ + 16, _ => undef
theorem region_bc4X.congr (N L g2 q2 D m : Nat) (DS : List Nat) : ∀ i hds hds', (∀ r ∈ uOf region_bc4U i, hds r = hds' r) → region_bc4X N L g2 q2 D m DS i hds = region_bc4X N L g2 q2 D m DS i hds'
  | 0, _, _, _ => rfl
  | 1, hds, hds', h => by simp only [region_bc4X, h 1 (show 1 ∈ uOf region_bc4U 1 by decide)]
  | 2, _, _, _ => rfl
  | 3, _, _, _ => rfl
  | 4, _, _, _ => rfl
  | 5, hds, hds', h => by simp only [region_bc4X, h 5 (show 5 ∈ uOf region_bc4U 5 by decide)]
  | 6, _, _, _ => rfl
  | 7, hds, hds', h => by simp only [region_bc4X, h 7 (show 7 ∈ uOf region_bc4U 7 by decide)]
  | 8, hds, hds', h => by simp only [region_bc4X, h 7 (show 7 ∈ uOf region_bc4U 8 by decide)]
  | 9, hds, hds', h => by simp only [region_bc4X, h 7 (show 7 ∈ uOf region_bc4U 9 by decide)]
  | 10, _, _, _ => rfl
  | 11, _, _, _ => rfl
  | 12, hds, hds', h => by simp only [region_bc4X, h 12 (show 12 ∈ uOf region_bc4U 12 by decide)]
  | 13, _, _, _ => rfl
  | 14, _, _, _ => rfl
  | 15, _, _, _ => rfl
  | _ + 16, _, _, _ => rfl
def region_bc4M (N L m : Nat) (DS : List Nat) : Nat → Mem
  | 1 => memNats DS
  | 5 => memNats (List.replicate L 0)
  | 7 => memNats (zsOf N m DS)
  | 12 => memBox 2 37
  | _ => memNone
def region_bc4S (N L : Nat) : Nat → Option Sto
  | 13 => some ⟨12, 37, fun hds => #[.int .i64 (N : Int), .slice (some ⟨(hds 7).b, 0, none⟩) L (hds 7).c]⟩
  | _ => none
set_option maxRecDepth 8000 in
set_option maxHeartbeats 2000000 in
theorem region_bc4 {id : Nat} {ops : Array Oper} {Q : Exit → Act → World → Prop} {a : Act} {w : World} (N L g2 q2 D m : Nat) (DS : List Nat) (hDl : DS.length = L) (hVd : Valid N DS) (hn2 : NatsAt w g2 0 DS) (hg2 : g2 < w.heap.size) (h1 : 2 ≤ N) (hm : 2 ≤ m) (hm2 : m ≤ 24) (hL6 : L ≤ 60) (hD : BoxAt w D #[.int .i64 (N : Int), .slice (some ⟨g2, 0, none⟩) L q2] 37)
    (gsize : ops.size = 16)
    (gops : IsOp ops 0 (some 44) (.load 37 (.tmp 5)) none [] ∧ IsOp ops 1 (some 45) (.call { callee := .value (.func 96), args := #[.tmp 44], argTypes := #[37] }) none [0] ∧ IsOp ops 2 (some 46) (.fieldAddr 37 (.tmp 5) 1) none [] ∧ IsOp ops 3 (some 47) (.load 24 (.tmp 46)) none [2] ∧ IsOpL ops 4 (some 48) (.call { callee := .builtin .len, args := #[.tmp 47], argTypes := #[24] }) none [3] ∧ IsOp ops 5 (some 49) (.makeSlice 24 (.tmp 48) (.tmp 48)) none [4] ∧ IsOp ops 6 (some 50) (.move (.tmp 6)) none [] ∧ IsOp ops 7 (some 51) (.call { callee := .value (.func 69), args := #[.tmp 45, .tmp 49, .tmp 50], argTypes := #[37, 24, 3] }) none [1, 5, 6] ∧ IsOp ops 8 (some 43) (.move (.tmp 51)) none [7] ∧ IsOp ops 9 (some 52) (.extract (.tmp 43) 0) none [8] ∧ IsOp ops 10 (some 53) (.extract (.tmp 43) 1) none [8] ∧ IsOp ops 11 (some 54) (.extract (.tmp 43) 2) none [8] ∧ IsOp ops 12 (some 7) (.alloc 37) none [] ∧ IsOp ops 13 none (.store 37 (.tmp 7) (.tmp 52)) none [9, 12] ∧ IsOp ops 14 (some 8) (.assign (.tmp 53)) none [10] ∧ IsOp ops 15 (some 9) (.assign (.tmp 54)) none [11])
    (gbk : backB ops = true) (gds : dstsB ops (dOf [some 44, some 45, some 46, some 47, some 48, some 49, some 50, some 51, some 43, some 52, some 53, some 54, some 7, none, some 8, some 9]) = true) (gus : useB ops (uOf region_bc4U) (kOf [0, 1, 0, 0, 0, 1, 0, 1, 0, 0, 0, 0, 1, 14, 0, 0]) = true) (ggd : plainB ops = true) (gsz : ∀ e ∈ [44, 45, 46, 47, 48, 49, 50, 51, 43, 52, 53, 54, 7, 8, 9], e < a.tmps.size)
    (gout : a.eval (.tmp 5) = .pointer (some ⟨D, 0, none⟩) ∧ a.eval (.tmp 6) = .int .i64 (m : Int))
    (gend : ∀ (g45 q45 G45 Q45 g49 q49 G49 Q49 g51 q51 G51 Q51 g7 q7 G7 Q7 : Nat) (P45 P49 P51 P7 : Option Addr) (u44 u45 u46 u47 u48 u49 u50 u51 u43 u52 u53 u54 : Value) (W : World), Below w.heap.size w W → (memNats DS).P ⟨g45, q45, G45, Q45, P45⟩ W → (∀ b ∈ (memNats DS).bl ⟨g45, q45, G45, Q45, P45⟩, w.heap.size ≤ b ∧ b < W.heap.size) → (memNats (List.replicate L 0)).P ⟨g49, q49, G49, Q49, P49⟩ W → (∀ b ∈ (memNats (List.replicate L 0)).bl ⟨g49, q49, G49, Q49, P49⟩, w.heap.size ≤ b ∧ b < W.heap.size) → (memNats (zsOf N m DS)).P ⟨g51, q51, G51, Q51, P51⟩ W → (∀ b ∈ (memNats (zsOf N m DS)).bl ⟨g51, q51, G51, Q51, P51⟩, w.heap.size ≤ b ∧ b < W.heap.size) → w.heap.size ≤ g7 → g7 < W.heap.size → BoxAt W g7 #[.int .i64 (N : Int), .slice (some ⟨g51, 0, none⟩) L q51] 37 → Q .normal (putL a [(44, u44), (45, u45), (46, u46), (47, u47), (48, u48), (49, u49), (50, u50), (51, u51), (43, u43), (52, u52), (53, u53), (54, u54), (7, .pointer (some ⟨g7, 0, none⟩)), (8, .int .i64 (smOf N m DS : Int)), (9, .int .i64 0)]) W) :
    (Code.region id ops true).wp Try.prog Q a w := by
  obtain ⟨iop0, iop1, iop2, iop3, iop4, iop5, iop6, iop7, iop8, iop9, iop10, iop11, iop12, iop13, iop14, iop15⟩ := gops
  obtain ⟨o5, o6⟩ := gout
  refine region_all (RSp.of 16 [some 44, some 45, some 46, some 47, some 48, some 49, some 50, some 51, some 43, some 52, some 53, some 54, some 7, none, some 8, some 9] (fun _ => true) (region_bc4X N L g2 q2 D m DS) region_bc4U [0, 1, 0, 0, 0, 1, 0, 1, 0, 0, 0, 0, 1, 14, 0, 0] (region_bc4M N L m DS) (region_bc4S N L)) [(5, .pointer (some ⟨D, 0, none⟩)), (6, .int .i64 (m : Int))] [44, 45, 46, 47, 48, 49, 50, 51, 43, 52, 53, 54, 7, 8, 9] (RSp.of_fit gsize.symm gbk gds gus ggd (by decide) ?_) (RSp.of_ok _ (region_bc4X.congr N L g2 q2 D m DS) ?_) gsz ?_ ?_ ?_
  · intro p hp
    have hp2 : p ∈ [(13, 12)] := hp
    simp only [List.mem_cons, List.not_mem_nil, or_false] at hp2
    rcases hp2 with rfl
    · refine ⟨rfl, (show 12 ∈ uOf region_bc4U 13 by decide), fun _ => rfl, fun j hj hm => ?_⟩
      match j, hj with
      | 0, _ => rfl
      | 1, _ => rfl
      | 2, _ => rfl
      | 3, _ => rfl
      | 4, _ => rfl
      | 5, _ => rfl
      | 6, _ => rfl
      | 7, _ => rfl
      | 8, _ => rfl
      | 9, _ => rfl
      | 10, _ => rfl
      | 11, _ => rfl
      | 12, _ => rfl
      | 13, hj => exact absurd rfl hj
      | 14, _ => rfl
      | 15, _ => rfl
      | _ + 16, _ => rfl
  · intro i s hds
    match i, hds with
    | 0, hds => cases hds
    | 1, hds => cases hds
    | 2, hds => cases hds
    | 3, hds => cases hds
    | 4, hds => cases hds
    | 5, hds => cases hds
    | 6, hds => cases hds
    | 7, hds => cases hds
    | 8, hds => cases hds
    | 9, hds => cases hds
    | 10, hds => cases hds
    | 11, hds => cases hds
    | 12, hds => cases hds
    | 13, hds =>
      obtain rfl := Option.some.inj hds
      refine ⟨(show 12 ∈ uOf region_bc4U 13 by decide), fun _ => rfl, fun hds hds' h => ?_⟩
      simp only [h 7 (show 7 ∈ uOf region_bc4U 13 by decide)]
    | 14, hds => cases hds
    | 15, hds => cases hds
    | _ + 16, hds => cases hds
  · intro q hq
    simp only [List.mem_cons, List.not_mem_nil, or_false] at hq
    rcases hq with rfl | rfl
    · exact ⟨o5, by simp⟩
    · exact ⟨o6, by simp⟩
  · intro i o ho _
    have hi : i < 16 := by rw [← gsize]; exact (Array.getElem?_eq_some_iff.1 ho).1
    match i, hi with
    | 0, _ =>
      obtain ⟨ty, pos, aft, e, hdp⟩ := iop0
      rw [e] at ho
      obtain rfl := Option.some.inj ho
      intro a' hds W K hB lq ld hmem hK
      have e5 : a'.eval (.tmp 5) = .pointer (some ⟨D, 0, none⟩) := by rw [eval_tmp]; exact lq (5, .pointer (some ⟨D, 0, none⟩)) (by simp)
      have HK := Lib.hid (show K (a'.put (some 44) (.agg #[.int .i64 (N : Int), .slice (some ⟨g2, 0, none⟩) L q2])) W from hK W (Below.refl _ _) trivial)
      clear hK ld lq hmem
      have c0 := (hD.next hB).cell' 0 rfl
      have c1 := (hD.next hB).cell' 1 rfl
      unfold Oper.wp
      simp only [execOp, e5]
      go_simp
      exact HK.out
    | 1, _ =>
      obtain ⟨ty, pos, aft, e, hdp⟩ := iop1
      rw [e] at ho
      obtain rfl := Option.some.inj ho
      intro a' hds W K hB lq ld hmem hK
      have e44 : a'.eval (.tmp 44) = .agg #[.int .i64 (N : Int), .slice (some ⟨g2, 0, none⟩) L q2] := by rw [eval_tmp]; exact ld 0 44 (List.all_eq_true.1 hdp 0 (by decide)) rfl
      have HK := Lib.hid (show ∀ hh W', Below W.heap.size W W' → (memNats DS).P hh W' → (∀ b ∈ (memNats DS).bl hh, W.heap.size ≤ b ∧ b < W'.heap.size) → K (a'.put (some 45) (.agg #[.int .i64 (N : Int), .slice (some ⟨hh.b, 0, none⟩) L hh.c])) W' from fun hh W' h1 h2 h3 => by
        have h4 : K (a'.put (some 45) (region_bc4X N L g2 q2 D m DS 1 (updH hds 1 hh))) W' := hK hh W' h1 h2 h3 trivial
        simp only [region_bc4X, updH_same] at h4
        exact h4)
      clear hK ld lq hmem
      refine step_call (vals := #[.agg #[.int .i64 (N : Int), .slice (some ⟨g2, 0, none⟩) L q2]]) (by exact ⟨_, _, Try.func96, by kernel_rfl, rfl⟩) (by simp only [List.map_toArray, List.map_cons, List.map_nil, e44]) (call96 N L g2 q2 DS W hDl hVd (hn2.below hB hg2) (Nat.lt_of_lt_of_le hg2 hB.size)) ?_
      rintro e w' ⟨g, cap, rfl, hn, hl, hg, hb'⟩
      exact ⟨_, rfl, HK.out ⟨g, cap, 0, 0, none⟩ _ hb' ⟨hn, hg⟩ (bd_one hl hg)⟩
    | 2, _ =>
      obtain ⟨ty, pos, aft, e, hdp⟩ := iop2
      rw [e] at ho
      obtain rfl := Option.some.inj ho
      intro a' hds W K hB lq ld hmem hK
      have e5 : a'.eval (.tmp 5) = .pointer (some ⟨D, 0, none⟩) := by rw [eval_tmp]; exact lq (5, .pointer (some ⟨D, 0, none⟩)) (by simp)
      have HK := Lib.hid (show K (a'.put (some 46) (.pointer (some ⟨D, 1, none⟩))) W from hK W (Below.refl _ _) trivial)
      clear hK ld lq hmem
      unfold Oper.wp
      simp only [execOp, e5]
      go_simp
      exact HK.out
    | 3, _ =>
      obtain ⟨ty, pos, aft, e, hdp⟩ := iop3
      rw [e] at ho
      obtain rfl := Option.some.inj ho
      intro a' hds W K hB lq ld hmem hK
      have e46 : a'.eval (.tmp 46) = .pointer (some ⟨D, 1, none⟩) := by rw [eval_tmp]; exact ld 2 46 (List.all_eq_true.1 hdp 2 (by decide)) rfl
      have HK := Lib.hid (show K (a'.put (some 47) (.slice (some ⟨g2, 0, none⟩) L q2)) W from hK W (Below.refl _ _) trivial)
      clear hK ld lq hmem
      have c1 := (hD.next hB).cell' 1 rfl
      unfold Oper.wp
      simp only [execOp, e46]
      go_simp
      exact HK.out
    | 4, _ =>
      obtain ⟨pos, aft, e, hdp⟩ := iop4
      rw [e] at ho
      obtain rfl := Option.some.inj ho
      intro a' hds W K hB lq ld hmem hK
      have e47 : a'.eval (.tmp 47) = .slice (some ⟨g2, 0, none⟩) L q2 := by rw [eval_tmp]; exact ld 3 47 (List.all_eq_true.1 hdp 3 (by decide)) rfl
      have t47 := (eval_tmp a' 47).symm.trans e47
      have HK := Lib.hid (show K (a'.put (some 48) (.int .i64 (L : Int))) W from hK W (Below.refl _ _) trivial)
      clear hK ld lq hmem
      unfold Oper.wp
      simp only [execOp, e47]
      go_simp
      exact HK.out
    | 5, _ =>
      obtain ⟨ty, pos, aft, e, hdp⟩ := iop5
      rw [e] at ho
      obtain rfl := Option.some.inj ho
      intro a' hds W K hB lq ld hmem hK
      have e48 : a'.eval (.tmp 48) = .int .i64 (L : Int) := by rw [eval_tmp]; exact ld 4 48 (List.all_eq_true.1 hdp 4 (by decide)) rfl
      have HK := Lib.hid (show ∀ hh W', Below W.heap.size W W' → (memNats (List.replicate L 0)).P hh W' → (∀ b ∈ (memNats (List.replicate L 0)).bl hh, W.heap.size ≤ b ∧ b < W'.heap.size) → K (a'.put (some 49) (.slice (some ⟨hh.b, 0, none⟩) L L)) W' from fun hh W' h1 h2 h3 => by
        have h4 : K (a'.put (some 49) (region_bc4X N L g2 q2 D m DS 5 (updH hds 5 hh))) W' := hK hh W' h1 h2 h3 trivial
        simp only [region_bc4X, updH_same] at h4
        exact h4)
      clear hK ld lq hmem
      have hfin := Lib.hid (HK.out ⟨W.heap.size, 0, 0, 0, none⟩ _ ((Below.refl _ _).alloc (Nat.le_refl _) (.cells (madeCells #[.int .i64 0] L) 3)) ⟨(NatBlk.made W L).nats, (NatBlk.made W L).lt⟩ (bd_one (Nat.le_refl _) (by simp)))
      have hmk := run_make_row' (P := Try.prog) 24 3 (.int .i64 0) 8 Try.underlying24 Try.info3 rfl .i64 .i64 L (by omega) (by omega)
      clear HK
      unfold Oper.wp
      simp only [execOp, e48]
      go_simp
      exact hfin.out
    | 6, _ =>
      obtain ⟨ty, pos, aft, e, hdp⟩ := iop6
      rw [e] at ho
      obtain rfl := Option.some.inj ho
      intro a' hds W K hB lq ld hmem hK
      have e6 : a'.eval (.tmp 6) = .int .i64 (m : Int) := by rw [eval_tmp]; exact lq (6, .int .i64 (m : Int)) (by simp)
      have HK := Lib.hid (show K (a'.put (some 50) (.int .i64 (m : Int))) W from hK W (Below.refl _ _) trivial)
      clear hK ld lq hmem
      unfold Oper.wp
      simp only [execOp, e6]
      exact HK.out
    | 7, _ =>
      obtain ⟨ty, pos, aft, e, hdp⟩ := iop7
      rw [e] at ho
      obtain rfl := Option.some.inj ho
      intro a' hds W K hB lq ld hmem hK
      have e45 : a'.eval (.tmp 45) = .agg #[.int .i64 (N : Int), .slice (some ⟨(hds 1).b, 0, none⟩) L (hds 1).c] := by rw [eval_tmp]; exact ld 1 45 (List.all_eq_true.1 hdp 1 (by decide)) rfl
      have e49 : a'.eval (.tmp 49) = .slice (some ⟨(hds 5).b, 0, none⟩) L L := by rw [eval_tmp]; exact ld 5 49 (List.all_eq_true.1 hdp 5 (by decide)) rfl
      have e50 : a'.eval (.tmp 50) = .int .i64 (m : Int) := by rw [eval_tmp]; exact ld 6 50 (List.all_eq_true.1 hdp 6 (by decide)) rfl
      have HK := Lib.hid (show ∀ hh W', Below W.heap.size W W' → (memNats (zsOf N m DS)).P hh W' → (∀ b ∈ (memNats (zsOf N m DS)).bl hh, W.heap.size ≤ b ∧ b < W'.heap.size) → K (a'.put (some 51) (.tuple #[.agg #[.int .i64 (N : Int), .slice (some ⟨hh.b, 0, none⟩) L hh.c], .int .i64 (smOf N m DS : Int), .int .i64 0])) W' from fun hh W' h1 h2 h3 => by
        have h4 : K (a'.put (some 51) (region_bc4X N L g2 q2 D m DS 7 (updH hds 7 hh))) W' := hK hh W' h1 h2 h3 trivial
        simp only [region_bc4X, updH_same] at h4
        exact h4)
      have m45   := (hmem 1 (show 1 ∈ uOf region_bc4U 7 by decide) (by decide)).1
      have m49   := (hmem 5 (show 5 ∈ uOf region_bc4U 7 by decide) (by decide)).1
      clear hK ld lq hmem
      refine step_call (vals := #[.agg #[.int .i64 (N : Int), .slice (some ⟨(hds 1).b, 0, none⟩) L (hds 1).c], .slice (some ⟨(hds 5).b, 0, none⟩) L L, .int .i64 (m : Int)]) (by exact ⟨_, _, Try.func69, by kernel_rfl, rfl⟩) (by simp only [List.map_toArray, List.map_cons, List.map_nil, e45, e49, e50]) (call69m N L (hds 1).b (hds 1).c (hds 5).b L m DS W hDl hVd h1 hm hm2 m45.1 m45.2 m49.1 m49.2) ?_
      rintro e w' ⟨g, cap, rfl, hn, hl, hg, hb'⟩
      exact ⟨_, rfl, HK.out ⟨g, cap, 0, 0, none⟩ _ hb' ⟨hn, hg⟩ (bd_one hl hg)⟩
    | 8, _ =>
      obtain ⟨ty, pos, aft, e, hdp⟩ := iop8
      rw [e] at ho
      obtain rfl := Option.some.inj ho
      intro a' hds W K hB lq ld hmem hK
      have e51 : a'.eval (.tmp 51) = .tuple #[.agg #[.int .i64 (N : Int), .slice (some ⟨(hds 7).b, 0, none⟩) L (hds 7).c], .int .i64 (smOf N m DS : Int), .int .i64 0] := by rw [eval_tmp]; exact ld 7 51 (List.all_eq_true.1 hdp 7 (by decide)) rfl
      have HK := Lib.hid (show K (a'.put (some 43) (.tuple #[.agg #[.int .i64 (N : Int), .slice (some ⟨(hds 7).b, 0, none⟩) L (hds 7).c], .int .i64 (smOf N m DS : Int), .int .i64 0])) W from hK W (Below.refl _ _) trivial)
      clear hK ld lq hmem
      unfold Oper.wp
      simp only [execOp, e51]
      exact HK.out
    | 9, _ =>
      obtain ⟨ty, pos, aft, e, hdp⟩ := iop9
      rw [e] at ho
      obtain rfl := Option.some.inj ho
      intro a' hds W K hB lq ld hmem hK
      have e43 : a'.eval (.tmp 43) = .tuple #[.agg #[.int .i64 (N : Int), .slice (some ⟨(hds 7).b, 0, none⟩) L (hds 7).c], .int .i64 (smOf N m DS : Int), .int .i64 0] := by rw [eval_tmp]; exact ld 8 43 (List.all_eq_true.1 hdp 8 (by decide)) rfl
      have HK := Lib.hid (show K (a'.put (some 52) (.agg #[.int .i64 (N : Int), .slice (some ⟨(hds 7).b, 0, none⟩) L (hds 7).c])) W from hK W (Below.refl _ _) trivial)
      clear hK ld lq hmem
      unfold Oper.wp
      simp only [execOp, e43]
      exact HK.out
    | 10, _ =>
      obtain ⟨ty, pos, aft, e, hdp⟩ := iop10
      rw [e] at ho
      obtain rfl := Option.some.inj ho
      intro a' hds W K hB lq ld hmem hK
      have e43 : a'.eval (.tmp 43) = .tuple #[.agg #[.int .i64 (N : Int), .slice (some ⟨(hds 7).b, 0, none⟩) L (hds 7).c], .int .i64 (smOf N m DS : Int), .int .i64 0] := by rw [eval_tmp]; exact ld 8 43 (List.all_eq_true.1 hdp 8 (by decide)) rfl
      have HK := Lib.hid (show K (a'.put (some 53) (.int .i64 (smOf N m DS : Int))) W from hK W (Below.refl _ _) trivial)
      clear hK ld lq hmem
      unfold Oper.wp
      simp only [execOp, e43]
      exact HK.out
    | 11, _ =>
      obtain ⟨ty, pos, aft, e, hdp⟩ := iop11
      rw [e] at ho
      obtain rfl := Option.some.inj ho
      intro a' hds W K hB lq ld hmem hK
      have e43 : a'.eval (.tmp 43) = .tuple #[.agg #[.int .i64 (N : Int), .slice (some ⟨(hds 7).b, 0, none⟩) L (hds 7).c], .int .i64 (smOf N m DS : Int), .int .i64 0] := by rw [eval_tmp]; exact ld 8 43 (List.all_eq_true.1 hdp 8 (by decide)) rfl
      have HK := Lib.hid (show K (a'.put (some 54) (.int .i64 0)) W from hK W (Below.refl _ _) trivial)
      clear hK ld lq hmem
      unfold Oper.wp
      simp only [execOp, e43]
      exact HK.out
    | 12, _ =>
      obtain ⟨ty, pos, aft, e, hdp⟩ := iop12
      rw [e] at ho
      obtain rfl := Option.some.inj ho
      intro a' hds W K hB lq ld hmem hK
      have HK := Lib.hid (show ∀ hh W', Below W.heap.size W W' → (memBox 2 37).P hh W' → (∀ b ∈ (memBox 2 37).bl hh, W.heap.size ≤ b ∧ b < W'.heap.size) → K (a'.put (some 7) (.pointer (some ⟨hh.b, 0, none⟩))) W' from fun hh W' h1 h2 h3 => by
        have h4 : K (a'.put (some 7) (region_bc4X N L g2 q2 D m DS 12 (updH hds 12 hh))) W' := hK hh W' h1 h2 h3 trivial
        simp only [region_bc4X, updH_same] at h4
        exact h4)
      clear hK ld lq hmem
      have hfin := Lib.hid (HK.out ⟨W.heap.size, 0, 0, 0, none⟩ _ ((Below.refl _ _).alloc (Nat.le_refl _) (.cells #[.int .i64 0, .slice none 0 0] 37)) ⟨_, rfl, BoxAt.new W #[.int .i64 0, .slice none 0 0] 37⟩ (bd_one (Nat.le_refl _) (by simp)))
      clear HK
      unfold Oper.wp
      simp only [execOp]
      go_simp
      exact hfin.out
    | 13, _ =>
      obtain ⟨ty, pos, aft, e, hdp⟩ := iop13
      rw [e] at ho
      obtain rfl := Option.some.inj ho
      intro a' hds W K hB lq ld hmem hK
      have e7 : a'.eval (.tmp 7) = .pointer (some ⟨(hds 12).b, 0, none⟩) := by rw [eval_tmp]; exact ld 12 7 (List.all_eq_true.1 hdp 12 (by decide)) rfl
      have e52 : a'.eval (.tmp 52) = .agg #[.int .i64 (N : Int), .slice (some ⟨(hds 7).b, 0, none⟩) L (hds 7).c] := by rw [eval_tmp]; exact ld 9 52 (List.all_eq_true.1 hdp 9 (by decide)) rfl
      obtain ⟨⟨vs, hvs, hbx⟩, _⟩ := hmem 12 (show 12 ∈ uOf region_bc4U 13 by decide) (by decide)
      have hvl : vs.toList.length = 2 := by simpa using hvs
      obtain ⟨v0, v1, rfl⟩ : ∃ v0 v1, vs = #[v0, v1] := by
        cases vs with
        | mk l =>
          match l, hvl with
          | [v0, v1], _ => exact ⟨_, _, rfl⟩
      have HK := Lib.hid (show ∀ W', SetAt (hds 12).b W W' → (memBox 2 37).P (hds 12) W' → BoxAt W' (hds 12).b #[.int .i64 (N : Int), .slice (some ⟨(hds 7).b, 0, none⟩) L (hds 7).c] 37 → K a' W' from hK)
      clear hK ld lq hmem
      have hfin := Lib.hid (HK.out _ (((SetAt.refl (hds 12).b W).cell 0 (.int .i64 (N : Int))).cell 1 (.slice (some ⟨(hds 7).b, 0, none⟩) L (hds 7).c)) ⟨_, rfl, ((hbx).set 0 (.int .i64 (N : Int))).set 1 (.slice (some ⟨(hds 7).b, 0, none⟩) L (hds 7).c)⟩ (((hbx).set 0 (.int .i64 (N : Int))).set 1 (.slice (some ⟨(hds 7).b, 0, none⟩) L (hds 7).c)))
      have c0 := hbx.cell' 0 rfl
      have f0 := hbx.frozen 0
      have c1 := hbx.cell' 1 rfl
      have f1 := hbx.frozen 1
      have hlt := hbx.lt
      clear hbx hvl hvs HK
      generalize (hds 12).b = B at *
      unfold Oper.wp
      simp only [execOp, e7, e52]
      clear e7 e52
      go_simp
      exact hfin.out
    | 14, _ =>
      obtain ⟨ty, pos, aft, e, hdp⟩ := iop14
      rw [e] at ho
      obtain rfl := Option.some.inj ho
      intro a' hds W K hB lq ld hmem hK
      have e53 : a'.eval (.tmp 53) = .int .i64 (smOf N m DS : Int) := by rw [eval_tmp]; exact ld 10 53 (List.all_eq_true.1 hdp 10 (by decide)) rfl
      have HK := Lib.hid (show K (a'.put (some 8) (.int .i64 (smOf N m DS : Int))) W from hK W (Below.refl _ _) trivial)
      clear hK ld lq hmem
      unfold Oper.wp
      simp only [execOp, e53]
      exact HK.out
    | 15, _ =>
      obtain ⟨ty, pos, aft, e, hdp⟩ := iop15
      rw [e] at ho
      obtain rfl := Option.some.inj ho
      intro a' hds W K hB lq ld hmem hK
      have e54 : a'.eval (.tmp 54) = .int .i64 0 := by rw [eval_tmp]; exact ld 11 54 (List.all_eq_true.1 hdp 11 (by decide)) rfl
      have HK := Lib.hid (show K (a'.put (some 9) (.int .i64 0)) W from hK W (Below.refl _ _) trivial)
      clear hK ld lq hmem
      unfold Oper.wp
      simp only [execOp, e54]
      exact HK.out
    | i + 16, h => omega
  · intro hds v W hO
    have hfin := gend (hds 1).b (hds 1).c (hds 1).b2 (hds 1).c2 (hds 5).b (hds 5).c (hds 5).b2 (hds 5).c2 (hds 7).b (hds 7).c (hds 7).b2 (hds 7).c2 (hds 12).b (hds 12).c (hds 12).b2 (hds 12).c2 (hds 1).p (hds 5).p (hds 7).p (hds 12).p (v 44) (v 45) (v 46) (v 47) (v 48) (v 49) (v 50) (v 51) (v 43) (v 52) (v 53) (v 54) W hO.b (hO.m 1 (by show 1 < 16; decide) rfl).1 (hO.m 1 (by show 1 < 16; decide) rfl).2 (hO.m 5 (by show 5 < 16; decide) rfl).1 (hO.m 5 (by show 5 < 16; decide) rfl).2 (hO.m 7 (by show 7 < 16; decide) rfl).1 (hO.m 7 (by show 7 < 16; decide) rfl).2 ((hO.m 12 (by show 12 < 16; decide) rfl).2 _ (by show _ ∈ [_]; simp)).1 ((hO.m 12 (by show 12 < 16; decide) rfl).2 _ (by show _ ∈ [_]; simp)).2 (hO.s 13 (by show 13 < 16; decide) rfl)
    rw [← laid_putL _ a v ?_] at hfin
    · exact hfin
    · intro p hp
      simp only [List.mem_cons, List.not_mem_nil, or_false] at hp
      rcases hp with rfl | rfl | rfl | rfl | rfl | rfl | rfl | rfl | rfl | rfl | rfl | rfl | rfl | rfl | rfl
      · rfl
      · rfl
      · rfl
      · rfl
      · rfl
      · rfl
      · rfl
      · rfl
      · rfl
      · rfl
      · rfl
      · rfl
      · exact hO.x 12 (show 12 < 16 by decide) 7 rfl
      · exact hO.x 14 (show 14 < 16 by decide) 8 rfl
      · exact hO.x 15 (show 15 < 16 by decide) 9 rfl
def region_bc8U : List (List Nat) := [[], [], [], [], [4], [4, 5], [4, 5], [4, 5], [4, 5], [4, 5], [4, 5], [4, 5], [4, 5]]
def region_bc8X (N L T g2 q2 D gp qp : Nat) : Nat → (Nat → Hd) → Value
  | 0, _ => .agg #[.int .i64 (N : Int), .slice (some ⟨gp, 0, none⟩) L qp]
  | 1, _ => .pointer (some ⟨D, 1, none⟩)
  | 2, _ => .slice (some ⟨g2, 0, none⟩) L q2
  | 3, _ => .int .i64 (L : Int)
  | 4, hds => .slice (some ⟨(hds 4).b, 0, none⟩) T (hds 4).c
  | 5, hds => .tuple #[.slice (some ⟨(hds 5).b, 0, none⟩) T (hds 5).c, .int .i64 ((hds 5).c2 : Int), .int .i64 0]
  | 6, hds => .tuple #[.slice (some ⟨(hds 5).b, 0, none⟩) T (hds 5).c, .int .i64 ((hds 5).c2 : Int), .int .i64 0]
  | 7, hds => .slice (some ⟨(hds 5).b, 0, none⟩) T (hds 5).c
  | 8, hds => .int .i64 ((hds 5).c2 : Int)
  | 9, _ => .int .i64 0
  | 10, hds => .slice (some ⟨(hds 5).b, 0, none⟩) T (hds 5).c
  | 11, hds => .int .i64 ((hds 5).c2 : Int)
  | 12, _ => .int .i64 0
  | _ + 13, _ => undef
theorem region_bc8X.congr (N L T g2 q2 D gp qp : Nat) : ∀ i hds hds', (∀ r ∈ uOf region_bc8U i, hds r = hds' r) → region_bc8X N L T g2 q2 D gp qp i hds = region_bc8X N L T g2 q2 D gp qp i hds'
  | 0, _, _, _ => rfl
  | 1, _, _, _ => rfl
  | 2, _, _, _ => rfl
  | 3, _, _, _ => rfl
  | 4, hds, hds', h => by simp only [region_bc8X, h 4 (show 4 ∈ uOf region_bc8U 4 by decide)]
  | 5, hds, hds', h => by simp only [region_bc8X, h 5 (show 5 ∈ uOf region_bc8U 5 by decide)]
  | 6, hds, hds', h => by simp only [region_bc8X, h 5 (show 5 ∈ uOf region_bc8U 6 by decide)]
  | 7, hds, hds', h => by simp only [region_bc8X, h 5 (show 5 ∈ uOf region_bc8U 7 by decide)]
  | 8, hds, hds', h => by simp only [region_bc8X, h 5 (show 5 ∈ uOf region_bc8U 8 by decide)]
  | 9, _, _, _ => rfl
  | 10, hds, hds', h => by simp only [region_bc8X, h 5 (show 5 ∈ uOf region_bc8U 10 by decide)]
  | 11, hds, hds', h => by simp only [region_bc8X, h 5 (show 5 ∈ uOf region_bc8U 11 by decide)]
  | 12, _, _, _ => rfl
  | _ + 13, _, _, _ => rfl
def region_bc8M (N T : Nat) (CS : List Card) : Nat → Mem
  | 4 => memNats (List.replicate T 1)
  | 5 => memNats (wovenTo N CS (List.replicate T 1) 0 T)
  | _ => memNone
def region_bc8S  : Nat → Option Sto
  | _ => none
set_option maxRecDepth 8000 in
set_option maxHeartbeats 2000000 in
theorem region_bc8 {id : Nat} {ops : Array Oper} {Q : Exit → Act → World → Prop} {a : Act} {w : World} (N L T g2 q2 D gp qp Bc : Nat) (CS : List Card) (hCl : CS.length = L) (hCo : ChainOk N CS) (hL0 : 0 < L) (hT : L + L = T) (hT6 : T ≤ 60) (hcb : CardBlk w gp CS) (hD : BoxAt w D #[.int .i64 (N : Int), .slice (some ⟨g2, 0, none⟩) L q2] 37) (hBx : BoxAt w Bc #[.int .i64 (N : Int), .slice (some ⟨gp, 0, none⟩) L qp] 114)
    (gsize : ops.size = 13)
    (gops : IsOp ops 0 (some 77) (.load 114 (.tmp 10)) none [] ∧ IsOp ops 1 (some 78) (.fieldAddr 37 (.tmp 5) 1) none [] ∧ IsOp ops 2 (some 79) (.load 24 (.tmp 78)) none [1] ∧ IsOpL ops 3 (some 80) (.call { callee := .builtin .len, args := #[.tmp 79], argTypes := #[24] }) none [2] ∧ IsOp ops 4 (some 81) (.call { callee := .value (.func 101), args := #[.tmp 80, .const (.int .i64 2)], argTypes := #[3, 3] }) none [3] ∧ IsOp ops 5 (some 82) (.call { callee := .value (.func 84), args := #[.tmp 77, .const (.int .i64 0), .tmp 81], argTypes := #[114, 3, 24] }) none [0, 4] ∧ IsOp ops 6 (some 76) (.move (.tmp 82)) none [5] ∧ IsOp ops 7 (some 83) (.extract (.tmp 76) 0) none [6] ∧ IsOp ops 8 (some 84) (.extract (.tmp 76) 1) none [6] ∧ IsOp ops 9 (some 85) (.extract (.tmp 76) 2) none [6] ∧ IsOp ops 10 (some 12) (.assign (.tmp 83)) none [7] ∧ IsOp ops 11 (some 13) (.assign (.tmp 84)) none [8] ∧ IsOp ops 12 (some 14) (.assign (.tmp 85)) none [9])
    (gbk : backB ops = true) (gds : dstsB ops (dOf [some 77, some 78, some 79, some 80, some 81, some 82, some 76, some 83, some 84, some 85, some 12, some 13, some 14]) = true) (gus : useB ops (uOf region_bc8U) (kOf [0, 0, 0, 0, 1, 1, 0, 0, 0, 0, 0, 0, 0]) = true) (ggd : plainB ops = true) (gsz : ∀ e ∈ [77, 78, 79, 80, 81, 82, 76, 83, 84, 85, 12, 13, 14], e < a.tmps.size)
    (gout : a.eval (.tmp 10) = .pointer (some ⟨Bc, 0, none⟩) ∧ a.eval (.tmp 5) = .pointer (some ⟨D, 0, none⟩))
    (gend : ∀ (g81 q81 G81 Q81 g82 q82 G82 Q82 : Nat) (P81 P82 : Option Addr) (u77 u78 u79 u80 u81 u82 u76 u83 u84 u85 : Value) (W : World), Below w.heap.size w W → (memNats (List.replicate T 1)).P ⟨g81, q81, G81, Q81, P81⟩ W → (∀ b ∈ (memNats (List.replicate T 1)).bl ⟨g81, q81, G81, Q81, P81⟩, w.heap.size ≤ b ∧ b < W.heap.size) → (memNats (wovenTo N CS (List.replicate T 1) 0 T)).P ⟨g82, q82, G82, Q82, P82⟩ W → (∀ b ∈ (memNats (wovenTo N CS (List.replicate T 1) 0 T)).bl ⟨g82, q82, G82, Q82, P82⟩, w.heap.size ≤ b ∧ b < W.heap.size) → Q .normal (putL a [(77, u77), (78, u78), (79, u79), (80, u80), (81, u81), (82, u82), (76, u76), (83, u83), (84, u84), (85, u85), (12, .slice (some ⟨g82, 0, none⟩) T q82), (13, .int .i64 (Q82 : Int)), (14, .int .i64 0)]) W) :
    (Code.region id ops true).wp Try.prog Q a w := by
  obtain ⟨iop0, iop1, iop2, iop3, iop4, iop5, iop6, iop7, iop8, iop9, iop10, iop11, iop12⟩ := gops
  obtain ⟨o10, o5⟩ := gout
  refine region_all (RSp.of 13 [some 77, some 78, some 79, some 80, some 81, some 82, some 76, some 83, some 84, some 85, some 12, some 13, some 14] (fun _ => true) (region_bc8X N L T g2 q2 D gp qp) region_bc8U [0, 0, 0, 0, 1, 1, 0, 0, 0, 0, 0, 0, 0] (region_bc8M N T CS) (region_bc8S )) [(10, .pointer (some ⟨Bc, 0, none⟩)), (5, .pointer (some ⟨D, 0, none⟩))] [77, 78, 79, 80, 81, 82, 76, 83, 84, 85, 12, 13, 14] (RSp.of_fit gsize.symm gbk gds gus ggd (by decide) ?_) (RSp.of_ok _ (region_bc8X.congr N L T g2 q2 D gp qp) ?_) gsz ?_ ?_ ?_
  · intro p hp
    have hp2 : p ∈ ([] : List (Nat × Nat)) := hp
    cases hp2
  · intro i s hds
    match i, hds with
    | 0, hds => cases hds
    | 1, hds => cases hds
    | 2, hds => cases hds
    | 3, hds => cases hds
    | 4, hds => cases hds
    | 5, hds => cases hds
    | 6, hds => cases hds
    | 7, hds => cases hds
    | 8, hds => cases hds
    | 9, hds => cases hds
    | 10, hds => cases hds
    | 11, hds => cases hds
    | 12, hds => cases hds
    | _ + 13, hds => cases hds
  · intro q hq
    simp only [List.mem_cons, List.not_mem_nil, or_false] at hq
    rcases hq with rfl | rfl
    · exact ⟨o10, by simp⟩
    · exact ⟨o5, by simp⟩
  · intro i o ho _
    have hi : i < 13 := by rw [← gsize]; exact (Array.getElem?_eq_some_iff.1 ho).1
    match i, hi with
    | 0, _ =>
      obtain ⟨ty, pos, aft, e, hdp⟩ := iop0
      rw [e] at ho
      obtain rfl := Option.some.inj ho
      intro a' hds W K hB lq ld hmem hK
      have e10 : a'.eval (.tmp 10) = .pointer (some ⟨Bc, 0, none⟩) := by rw [eval_tmp]; exact lq (10, .pointer (some ⟨Bc, 0, none⟩)) (by simp)
      have HK := Lib.hid (show K (a'.put (some 77) (.agg #[.int .i64 (N : Int), .slice (some ⟨gp, 0, none⟩) L qp])) W from hK W (Below.refl _ _) trivial)
      clear hK ld lq hmem
      have c0 := (hBx.next hB).cell' 0 rfl
      have c1 := (hBx.next hB).cell' 1 rfl
      unfold Oper.wp
      simp only [execOp, e10]
      go_simp
      exact HK.out
    | 1, _ =>
      obtain ⟨ty, pos, aft, e, hdp⟩ := iop1
      rw [e] at ho
      obtain rfl := Option.some.inj ho
      intro a' hds W K hB lq ld hmem hK
      have e5 : a'.eval (.tmp 5) = .pointer (some ⟨D, 0, none⟩) := by rw [eval_tmp]; exact lq (5, .pointer (some ⟨D, 0, none⟩)) (by simp)
      have HK := Lib.hid (show K (a'.put (some 78) (.pointer (some ⟨D, 1, none⟩))) W from hK W (Below.refl _ _) trivial)
      clear hK ld lq hmem
      unfold Oper.wp
      simp only [execOp, e5]
      go_simp
      exact HK.out
    | 2, _ =>
      obtain ⟨ty, pos, aft, e, hdp⟩ := iop2
      rw [e] at ho
      obtain rfl := Option.some.inj ho
      intro a' hds W K hB lq ld hmem hK
      have e78 : a'.eval (.tmp 78) = .pointer (some ⟨D, 1, none⟩) := by rw [eval_tmp]; exact ld 1 78 (List.all_eq_true.1 hdp 1 (by decide)) rfl
      have HK := Lib.hid (show K (a'.put (some 79) (.slice (some ⟨g2, 0, none⟩) L q2)) W from hK W (Below.refl _ _) trivial)
      clear hK ld lq hmem
      have c1 := (hD.next hB).cell' 1 rfl
      unfold Oper.wp
      simp only [execOp, e78]
      go_simp
      exact HK.out
    | 3, _ =>
      obtain ⟨pos, aft, e, hdp⟩ := iop3
      rw [e] at ho
      obtain rfl := Option.some.inj ho
      intro a' hds W K hB lq ld hmem hK
      have e79 : a'.eval (.tmp 79) = .slice (some ⟨g2, 0, none⟩) L q2 := by rw [eval_tmp]; exact ld 2 79 (List.all_eq_true.1 hdp 2 (by decide)) rfl
      have t79 := (eval_tmp a' 79).symm.trans e79
      have HK := Lib.hid (show K (a'.put (some 80) (.int .i64 (L : Int))) W from hK W (Below.refl _ _) trivial)
      clear hK ld lq hmem
      unfold Oper.wp
      simp only [execOp, e79]
      go_simp
      exact HK.out
    | 4, _ =>
      obtain ⟨ty, pos, aft, e, hdp⟩ := iop4
      rw [e] at ho
      obtain rfl := Option.some.inj ho
      intro a' hds W K hB lq ld hmem hK
      have e80 : a'.eval (.tmp 80) = .int .i64 (L : Int) := by rw [eval_tmp]; exact ld 3 80 (List.all_eq_true.1 hdp 3 (by decide)) rfl
      have HK := Lib.hid (show ∀ hh W', Below W.heap.size W W' → (memNats (List.replicate T 1)).P hh W' → (∀ b ∈ (memNats (List.replicate T 1)).bl hh, W.heap.size ≤ b ∧ b < W'.heap.size) → K (a'.put (some 81) (.slice (some ⟨hh.b, 0, none⟩) T hh.c)) W' from fun hh W' h1 h2 h3 => by
        have h4 : K (a'.put (some 81) (region_bc8X N L T g2 q2 D gp qp 4 (updH hds 4 hh))) W' := hK hh W' h1 h2 h3 trivial
        simp only [region_bc8X, updH_same] at h4
        exact h4)
      clear hK ld lq hmem
      refine step_call (vals := #[.int .i64 (L : Int), .int .i64 2]) (by exact ⟨_, _, Try.func101, by kernel_rfl, rfl⟩) (by simp only [List.map_toArray, List.map_cons, List.map_nil, e80]; rfl) (call101d L T W hL0 hT hT6) ?_
      rintro e w' ⟨g, cap, rfl, hn, hl, hg, hb'⟩
      exact ⟨_, rfl, HK.out ⟨g, cap, 0, 0, none⟩ _ hb' ⟨hn, hg⟩ (bd_one hl hg)⟩
    | 5, _ =>
      obtain ⟨ty, pos, aft, e, hdp⟩ := iop5
      rw [e] at ho
      obtain rfl := Option.some.inj ho
      intro a' hds W K hB lq ld hmem hK
      have e77 : a'.eval (.tmp 77) = .agg #[.int .i64 (N : Int), .slice (some ⟨gp, 0, none⟩) L qp] := by rw [eval_tmp]; exact ld 0 77 (List.all_eq_true.1 hdp 0 (by decide)) rfl
      have e81 : a'.eval (.tmp 81) = .slice (some ⟨(hds 4).b, 0, none⟩) T (hds 4).c := by rw [eval_tmp]; exact ld 4 81 (List.all_eq_true.1 hdp 4 (by decide)) rfl
      have HK := Lib.hid (show ∀ hh W', Below W.heap.size W W' → (memNats (wovenTo N CS (List.replicate T 1) 0 T)).P hh W' → (∀ b ∈ (memNats (wovenTo N CS (List.replicate T 1) 0 T)).bl hh, W.heap.size ≤ b ∧ b < W'.heap.size) → K (a'.put (some 82) (.tuple #[.slice (some ⟨hh.b, 0, none⟩) T hh.c, .int .i64 (hh.c2 : Int), .int .i64 0])) W' from fun hh W' h1 h2 h3 => by
        have h4 : K (a'.put (some 82) (region_bc8X N L T g2 q2 D gp qp 5 (updH hds 5 hh))) W' := hK hh W' h1 h2 h3 trivial
        simp only [region_bc8X, updH_same] at h4
        exact h4)
      have m81   := (hmem 4 (show 4 ∈ uOf region_bc8U 5 by decide) (by decide)).1
      clear hK ld lq hmem
      refine step_call (vals := #[.agg #[.int .i64 (N : Int), .slice (some ⟨gp, 0, none⟩) L qp], .int .i64 0, .slice (some ⟨(hds 4).b, 0, none⟩) T (hds 4).c]) (by exact ⟨_, _, Try.func84, by kernel_rfl, rfl⟩) (by simp only [List.map_toArray, List.map_cons, List.map_nil, e77, e81]; rfl) (call84d N L T gp qp (hds 4).b (hds 4).c CS W hCl hCo (by omega) hT6 (hcb.next hB).at' m81.1 m81.2) ?_
      rintro e w' ⟨g, cap, a, rfl, hn, hl, hg, hb'⟩
      exact ⟨_, rfl, HK.out ⟨g, cap, 0, a, none⟩ _ hb' ⟨hn, hg⟩ (bd_one hl hg)⟩
    | 6, _ =>
      obtain ⟨ty, pos, aft, e, hdp⟩ := iop6
      rw [e] at ho
      obtain rfl := Option.some.inj ho
      intro a' hds W K hB lq ld hmem hK
      have e82 : a'.eval (.tmp 82) = .tuple #[.slice (some ⟨(hds 5).b, 0, none⟩) T (hds 5).c, .int .i64 ((hds 5).c2 : Int), .int .i64 0] := by rw [eval_tmp]; exact ld 5 82 (List.all_eq_true.1 hdp 5 (by decide)) rfl
      have HK := Lib.hid (show K (a'.put (some 76) (.tuple #[.slice (some ⟨(hds 5).b, 0, none⟩) T (hds 5).c, .int .i64 ((hds 5).c2 : Int), .int .i64 0])) W from hK W (Below.refl _ _) trivial)
      clear hK ld lq hmem
      unfold Oper.wp
      simp only [execOp, e82]
      exact HK.out
    | 7, _ =>
      obtain ⟨ty, pos, aft, e, hdp⟩ := iop7
      rw [e] at ho
      obtain rfl := Option.some.inj ho
      intro a' hds W K hB lq ld hmem hK
      have e76 : a'.eval (.tmp 76) = .tuple #[.slice (some ⟨(hds 5).b, 0, none⟩) T (hds 5).c, .int .i64 ((hds 5).c2 : Int), .int .i64 0] := by rw [eval_tmp]; exact ld 6 76 (List.all_eq_true.1 hdp 6 (by decide)) rfl
      have HK := Lib.hid (show K (a'.put (some 83) (.slice (some ⟨(hds 5).b, 0, none⟩) T (hds 5).c)) W from hK W (Below.refl _ _) trivial)
      clear hK ld lq hmem
      unfold Oper.wp
      simp only [execOp, e76]
      exact HK.out
    | 8, _ =>
      obtain ⟨ty, pos, aft, e, hdp⟩ := iop8
      rw [e] at ho
      obtain rfl := Option.some.inj ho
      intro a' hds W K hB lq ld hmem hK
      have e76 : a'.eval (.tmp 76) = .tuple #[.slice (some ⟨(hds 5).b, 0, none⟩) T (hds 5).c, .int .i64 ((hds 5).c2 : Int), .int .i64 0] := by rw [eval_tmp]; exact ld 6 76 (List.all_eq_true.1 hdp 6 (by decide)) rfl
      have HK := Lib.hid (show K (a'.put (some 84) (.int .i64 ((hds 5).c2 : Int))) W from hK W (Below.refl _ _) trivial)
      clear hK ld lq hmem
      unfold Oper.wp
      simp only [execOp, e76]
      exact HK.out
    | 9, _ =>
      obtain ⟨ty, pos, aft, e, hdp⟩ := iop9
      rw [e] at ho
      obtain rfl := Option.some.inj ho
      intro a' hds W K hB lq ld hmem hK
      have e76 : a'.eval (.tmp 76) = .tuple #[.slice (some ⟨(hds 5).b, 0, none⟩) T (hds 5).c, .int .i64 ((hds 5).c2 : Int), .int .i64 0] := by rw [eval_tmp]; exact ld 6 76 (List.all_eq_true.1 hdp 6 (by decide)) rfl
      have HK := Lib.hid (show K (a'.put (some 85) (.int .i64 0)) W from hK W (Below.refl _ _) trivial)
      clear hK ld lq hmem
      unfold Oper.wp
      simp only [execOp, e76]
      exact HK.out
    | 10, _ =>
      obtain ⟨ty, pos, aft, e, hdp⟩ := iop10
      rw [e] at ho
      obtain rfl := Option.some.inj ho
      intro a' hds W K hB lq ld hmem hK
      have e83 : a'.eval (.tmp 83) = .slice (some ⟨(hds 5).b, 0, none⟩) T (hds 5).c := by rw [eval_tmp]; exact ld 7 83 (List.all_eq_true.1 hdp 7 (by decide)) rfl
      have HK := Lib.hid (show K (a'.put (some 12) (.slice (some ⟨(hds 5).b, 0, none⟩) T (hds 5).c)) W from hK W (Below.refl _ _) trivial)
      clear hK ld lq hmem
      unfold Oper.wp
      simp only [execOp, e83]
      exact HK.out
    | 11, _ =>
      obtain ⟨ty, pos, aft, e, hdp⟩ := iop11
      rw [e] at ho
      obtain rfl := Option.some.inj ho
      intro a' hds W K hB lq ld hmem hK
      have e84 : a'.eval (.tmp 84) = .int .i64 ((hds 5).c2 : Int) := by rw [eval_tmp]; exact ld 8 84 (List.all_eq_true.1 hdp 8 (by decide)) rfl
      have HK := Lib.hid (show K (a'.put (some 13) (.int .i64 ((hds 5).c2 : Int))) W from hK W (Below.refl _ _) trivial)
      clear hK ld lq hmem
      unfold Oper.wp
      simp only [execOp, e84]
      exact HK.out
    | 12, _ =>
      obtain ⟨ty, pos, aft, e, hdp⟩ := iop12
      rw [e] at ho
      obtain rfl := Option.some.inj ho
      intro a' hds W K hB lq ld hmem hK
      have e85 : a'.eval (.tmp 85) = .int .i64 0 := by rw [eval_tmp]; exact ld 9 85 (List.all_eq_true.1 hdp 9 (by decide)) rfl
      have HK := Lib.hid (show K (a'.put (some 14) (.int .i64 0)) W from hK W (Below.refl _ _) trivial)
      clear hK ld lq hmem
      unfold Oper.wp
      simp only [execOp, e85]
      exact HK.out
    | i + 13, h => omega
  · intro hds v W hO
    have hfin := gend (hds 4).b (hds 4).c (hds 4).b2 (hds 4).c2 (hds 5).b (hds 5).c (hds 5).b2 (hds 5).c2 (hds 4).p (hds 5).p (v 77) (v 78) (v 79) (v 80) (v 81) (v 82) (v 76) (v 83) (v 84) (v 85) W hO.b (hO.m 4 (by show 4 < 13; decide) rfl).1 (hO.m 4 (by show 4 < 13; decide) rfl).2 (hO.m 5 (by show 5 < 13; decide) rfl).1 (hO.m 5 (by show 5 < 13; decide) rfl).2
    rw [← laid_putL _ a v ?_] at hfin
    · exact hfin
    · intro p hp
      simp only [List.mem_cons, List.not_mem_nil, or_false] at hp
      rcases hp with rfl | rfl | rfl | rfl | rfl | rfl | rfl | rfl | rfl | rfl | rfl | rfl | rfl
      · rfl
      · rfl
      · rfl
      · rfl
      · rfl
      · rfl
      · rfl
      · rfl
      · rfl
      · rfl
      · exact hO.x 10 (show 10 < 13 by decide) 12 rfl
      · exact hO.x 11 (show 11 < 13 by decide) 13 rfl
      · exact hO.x 12 (show 12 < 13 by decide) 14 rfl
def region_bc11U : List (List Nat) := [[], [1], [], [3], [], [1, 3, 5], [1, 3, 5], [1, 3, 5], [1, 3, 5], [1, 3, 5], [1, 3, 5]]
def region_bc11X (N Kh T gh qh gw qw m : Nat) : Nat → (Nat → Hd) → Value
  | 0, _ => .agg #[.int .i64 (N : Int), .slice (some ⟨gh, 0, none⟩) Kh qh]
  | 1, hds => .agg #[.int .i64 (N : Int), .slice (some ⟨(hds 1).b, 0, none⟩) Kh (hds 1).c]
  | 2, _ => .agg #[.int .i64 (N : Int), .slice (some ⟨gw, 0, none⟩) T qw]
  | 3, hds => .agg #[.int .i64 (N : Int), .slice (some ⟨(hds 3).b, 0, none⟩) T (hds 3).c]
  | 4, _ => .int .i64 (m : Int)
  | 5, hds => .tuple #[.slice (hds 5).p 0 (hds 5).c, .int .i64 0]
  | 6, hds => .tuple #[.slice (hds 5).p 0 (hds 5).c, .int .i64 0]
  | 7, hds => .slice (hds 5).p 0 (hds 5).c
  | 8, _ => .int .i64 0
  | 9, hds => .slice (hds 5).p 0 (hds 5).c
  | 10, _ => .int .i64 0
  | _ + 11, _ => undef
theorem region_bc11X.congr (N Kh T gh qh gw qw m : Nat) : ∀ i hds hds', (∀ r ∈ uOf region_bc11U i, hds r = hds' r) → region_bc11X N Kh T gh qh gw qw m i hds = region_bc11X N Kh T gh qh gw qw m i hds'
  | 0, _, _, _ => rfl
  | 1, hds, hds', h => by simp only [region_bc11X, h 1 (show 1 ∈ uOf region_bc11U 1 by decide)]
  | 2, _, _, _ => rfl
  | 3, hds, hds', h => by simp only [region_bc11X, h 3 (show 3 ∈ uOf region_bc11U 3 by decide)]
  | 4, _, _, _ => rfl
  | 5, hds, hds', h => by simp only [region_bc11X, h 5 (show 5 ∈ uOf region_bc11U 5 by decide)]
  | 6, hds, hds', h => by simp only [region_bc11X, h 5 (show 5 ∈ uOf region_bc11U 6 by decide)]
  | 7, hds, hds', h => by simp only [region_bc11X, h 5 (show 5 ∈ uOf region_bc11U 7 by decide)]
  | 8, _, _, _ => rfl
  | 9, hds, hds', h => by simp only [region_bc11X, h 5 (show 5 ∈ uOf region_bc11U 9 by decide)]
  | 10, _, _, _ => rfl
  | _ + 11, _, _, _ => rfl
def region_bc11M (HS WS : List Nat) : Nat → Mem
  | 1 => memNats HS
  | 3 => memNats WS
  | 5 => memNone
  | _ => memNone
def region_bc11S  : Nat → Option Sto
  | _ => none
set_option maxRecDepth 8000 in
set_option maxHeartbeats 2000000 in
theorem region_bc11 {id : Nat} {ops : Array Oper} {Q : Exit → Act → World → Prop} {a : Act} {w : World} (N Kh T gh qh E gw qw V m : Nat) (HS WS : List Nat) (hHl : HS.length = Kh) (hK0 : 0 < Kh) (hK1 : Kh ≤ 96) (hTA : ∀ W b, NatsAt W b 0 HS → b < W.heap.size → TAt W b 0 N HS) (hnh : NatsAt w gh 0 HS) (hgh : gh < w.heap.size) (hWl : WS.length = T) (hVw : Valid N WS) (hnw : NatsAt w gw 0 WS) (hgw : gw < w.heap.size) (hm : m ≤ 1000) (hF : upTo (flO HS WS m) T = []) (hE : BoxAt w E #[.int .i64 (N : Int), .slice (some ⟨gh, 0, none⟩) Kh qh] 26) (hV : BoxAt w V #[.int .i64 (N : Int), .slice (some ⟨gw, 0, none⟩) T qw] 37)
    (gsize : ops.size = 11)
    (gops : IsOp ops 0 (some 107) (.load 26 (.tmp 15)) none [] ∧ IsOp ops 1 (some 108) (.call { callee := .value (.func 100), args := #[.tmp 107], argTypes := #[26] }) none [0] ∧ IsOp ops 2 (some 109) (.load 37 (.tmp 18)) none [] ∧ IsOp ops 3 (some 110) (.call { callee := .value (.func 96), args := #[.tmp 109], argTypes := #[37] }) none [2] ∧ IsOp ops 4 (some 111) (.move (.tmp 6)) none [] ∧ IsOp ops 5 (some 112) (.call { callee := .value (.func 39), args := #[.tmp 108, .tmp 110, .tmp 111], argTypes := #[26, 37, 3] }) none [1, 3, 4] ∧ IsOp ops 6 (some 106) (.move (.tmp 112)) none [5] ∧ IsOp ops 7 (some 113) (.extract (.tmp 106) 0) none [6] ∧ IsOp ops 8 (some 114) (.extract (.tmp 106) 1) none [6] ∧ IsOp ops 9 (some 19) (.assign (.tmp 113)) none [7] ∧ IsOp ops 10 (some 20) (.assign (.tmp 114)) none [8])
    (gbk : backB ops = true) (gds : dstsB ops (dOf [some 107, some 108, some 109, some 110, some 111, some 112, some 106, some 113, some 114, some 19, some 20]) = true) (gus : useB ops (uOf region_bc11U) (kOf [0, 1, 0, 1, 0, 1, 0, 0, 0, 0, 0]) = true) (ggd : plainB ops = true) (gsz : ∀ e ∈ [107, 108, 109, 110, 111, 112, 106, 113, 114, 19, 20], e < a.tmps.size)
    (gout : a.eval (.tmp 15) = .pointer (some ⟨E, 0, none⟩) ∧ a.eval (.tmp 18) = .pointer (some ⟨V, 0, none⟩) ∧ a.eval (.tmp 6) = .int .i64 (m : Int))
    (gend : ∀ (g108 q108 G108 Q108 g110 q110 G110 Q110 g112 q112 G112 Q112 : Nat) (P108 P110 P112 : Option Addr) (u107 u108 u109 u110 u111 u112 u106 u113 u114 : Value) (W : World), Below w.heap.size w W → (memNats HS).P ⟨g108, q108, G108, Q108, P108⟩ W → (∀ b ∈ (memNats HS).bl ⟨g108, q108, G108, Q108, P108⟩, w.heap.size ≤ b ∧ b < W.heap.size) → (memNats WS).P ⟨g110, q110, G110, Q110, P110⟩ W → (∀ b ∈ (memNats WS).bl ⟨g110, q110, G110, Q110, P110⟩, w.heap.size ≤ b ∧ b < W.heap.size) → (memNone).P ⟨g112, q112, G112, Q112, P112⟩ W → (∀ b ∈ (memNone).bl ⟨g112, q112, G112, Q112, P112⟩, w.heap.size ≤ b ∧ b < W.heap.size) → Q .normal (putL a [(107, u107), (108, u108), (109, u109), (110, u110), (111, u111), (112, u112), (106, u106), (113, u113), (114, u114), (19, .slice P112 0 q112), (20, .int .i64 0)]) W) :
    (Code.region id ops true).wp Try.prog Q a w := by
  obtain ⟨iop0, iop1, iop2, iop3, iop4, iop5, iop6, iop7, iop8, iop9, iop10⟩ := gops
  obtain ⟨o15, o18, o6⟩ := gout
  refine region_all (RSp.of 11 [some 107, some 108, some 109, some 110, some 111, some 112, some 106, some 113, some 114, some 19, some 20] (fun _ => true) (region_bc11X N Kh T gh qh gw qw m) region_bc11U [0, 1, 0, 1, 0, 1, 0, 0, 0, 0, 0] (region_bc11M HS WS) (region_bc11S )) [(15, .pointer (some ⟨E, 0, none⟩)), (18, .pointer (some ⟨V, 0, none⟩)), (6, .int .i64 (m : Int))] [107, 108, 109, 110, 111, 112, 106, 113, 114, 19, 20] (RSp.of_fit gsize.symm gbk gds gus ggd (by decide) ?_) (RSp.of_ok _ (region_bc11X.congr N Kh T gh qh gw qw m) ?_) gsz ?_ ?_ ?_
  · intro p hp
    have hp2 : p ∈ ([] : List (Nat × Nat)) := hp
    cases hp2
  · intro i s hds
    match i, hds with
    | 0, hds => cases hds
    | 1, hds => cases hds
    | 2, hds => cases hds
    | 3, hds => cases hds
    | 4, hds => cases hds
    | 5, hds => cases hds
    | 6, hds => cases hds
    | 7, hds => cases hds
    | 8, hds => cases hds
    | 9, hds => cases hds
    | 10, hds => cases hds
    | _ + 11, hds => cases hds
  · intro q hq
    simp only [List.mem_cons, List.not_mem_nil, or_false] at hq
    rcases hq with rfl | rfl | rfl
    · exact ⟨o15, by simp⟩
    · exact ⟨o18, by simp⟩
    · exact ⟨o6, by simp⟩
  · intro i o ho _
    have hi : i < 11 := by rw [← gsize]; exact (Array.getElem?_eq_some_iff.1 ho).1
    match i, hi with
    | 0, _ =>
      obtain ⟨ty, pos, aft, e, hdp⟩ := iop0
      rw [e] at ho
      obtain rfl := Option.some.inj ho
      intro a' hds W K hB lq ld hmem hK
      have e15 : a'.eval (.tmp 15) = .pointer (some ⟨E, 0, none⟩) := by rw [eval_tmp]; exact lq (15, .pointer (some ⟨E, 0, none⟩)) (by simp)
      have HK := Lib.hid (show K (a'.put (some 107) (.agg #[.int .i64 (N : Int), .slice (some ⟨gh, 0, none⟩) Kh qh])) W from hK W (Below.refl _ _) trivial)
      clear hK ld lq hmem
      have c0 := (hE.next hB).cell' 0 rfl
      have c1 := (hE.next hB).cell' 1 rfl
      unfold Oper.wp
      simp only [execOp, e15]
      go_simp
      exact HK.out
    | 1, _ =>
      obtain ⟨ty, pos, aft, e, hdp⟩ := iop1
      rw [e] at ho
      obtain rfl := Option.some.inj ho
      intro a' hds W K hB lq ld hmem hK
      have e107 : a'.eval (.tmp 107) = .agg #[.int .i64 (N : Int), .slice (some ⟨gh, 0, none⟩) Kh qh] := by rw [eval_tmp]; exact ld 0 107 (List.all_eq_true.1 hdp 0 (by decide)) rfl
      have HK := Lib.hid (show ∀ hh W', Below W.heap.size W W' → (memNats HS).P hh W' → (∀ b ∈ (memNats HS).bl hh, W.heap.size ≤ b ∧ b < W'.heap.size) → K (a'.put (some 108) (.agg #[.int .i64 (N : Int), .slice (some ⟨hh.b, 0, none⟩) Kh hh.c])) W' from fun hh W' h1 h2 h3 => by
        have h4 : K (a'.put (some 108) (region_bc11X N Kh T gh qh gw qw m 1 (updH hds 1 hh))) W' := hK hh W' h1 h2 h3 trivial
        simp only [region_bc11X, updH_same] at h4
        exact h4)
      clear hK ld lq hmem
      refine step_call (vals := #[.agg #[.int .i64 (N : Int), .slice (some ⟨gh, 0, none⟩) Kh qh]]) (by exact ⟨_, _, Try.func100, by kernel_rfl, rfl⟩) (by simp only [List.map_toArray, List.map_cons, List.map_nil, e107]) (call100 N Kh gh qh HS W hHl hK0 hK1 (hnh.below hB hgh) (Nat.lt_of_lt_of_le hgh hB.size)) ?_
      rintro e w' ⟨g, cap, rfl, hn, hl, hg, hb'⟩
      exact ⟨_, rfl, HK.out ⟨g, cap, 0, 0, none⟩ _ hb' ⟨hn, hg⟩ (bd_one hl hg)⟩
    | 2, _ =>
      obtain ⟨ty, pos, aft, e, hdp⟩ := iop2
      rw [e] at ho
      obtain rfl := Option.some.inj ho
      intro a' hds W K hB lq ld hmem hK
      have e18 : a'.eval (.tmp 18) = .pointer (some ⟨V, 0, none⟩) := by rw [eval_tmp]; exact lq (18, .pointer (some ⟨V, 0, none⟩)) (by simp)
      have HK := Lib.hid (show K (a'.put (some 109) (.agg #[.int .i64 (N : Int), .slice (some ⟨gw, 0, none⟩) T qw])) W from hK W (Below.refl _ _) trivial)
      clear hK ld lq hmem
      have c0 := (hV.next hB).cell' 0 rfl
      have c1 := (hV.next hB).cell' 1 rfl
      unfold Oper.wp
      simp only [execOp, e18]
      go_simp
      exact HK.out
    | 3, _ =>
      obtain ⟨ty, pos, aft, e, hdp⟩ := iop3
      rw [e] at ho
      obtain rfl := Option.some.inj ho
      intro a' hds W K hB lq ld hmem hK
      have e109 : a'.eval (.tmp 109) = .agg #[.int .i64 (N : Int), .slice (some ⟨gw, 0, none⟩) T qw] := by rw [eval_tmp]; exact ld 2 109 (List.all_eq_true.1 hdp 2 (by decide)) rfl
      have HK := Lib.hid (show ∀ hh W', Below W.heap.size W W' → (memNats WS).P hh W' → (∀ b ∈ (memNats WS).bl hh, W.heap.size ≤ b ∧ b < W'.heap.size) → K (a'.put (some 110) (.agg #[.int .i64 (N : Int), .slice (some ⟨hh.b, 0, none⟩) T hh.c])) W' from fun hh W' h1 h2 h3 => by
        have h4 : K (a'.put (some 110) (region_bc11X N Kh T gh qh gw qw m 3 (updH hds 3 hh))) W' := hK hh W' h1 h2 h3 trivial
        simp only [region_bc11X, updH_same] at h4
        exact h4)
      clear hK ld lq hmem
      refine step_call (vals := #[.agg #[.int .i64 (N : Int), .slice (some ⟨gw, 0, none⟩) T qw]]) (by exact ⟨_, _, Try.func96, by kernel_rfl, rfl⟩) (by simp only [List.map_toArray, List.map_cons, List.map_nil, e109]) (call96 N T gw qw WS W hWl hVw (hnw.below hB hgw) (Nat.lt_of_lt_of_le hgw hB.size)) ?_
      rintro e w' ⟨g, cap, rfl, hn, hl, hg, hb'⟩
      exact ⟨_, rfl, HK.out ⟨g, cap, 0, 0, none⟩ _ hb' ⟨hn, hg⟩ (bd_one hl hg)⟩
    | 4, _ =>
      obtain ⟨ty, pos, aft, e, hdp⟩ := iop4
      rw [e] at ho
      obtain rfl := Option.some.inj ho
      intro a' hds W K hB lq ld hmem hK
      have e6 : a'.eval (.tmp 6) = .int .i64 (m : Int) := by rw [eval_tmp]; exact lq (6, .int .i64 (m : Int)) (by simp)
      have HK := Lib.hid (show K (a'.put (some 111) (.int .i64 (m : Int))) W from hK W (Below.refl _ _) trivial)
      clear hK ld lq hmem
      unfold Oper.wp
      simp only [execOp, e6]
      exact HK.out
    | 5, _ =>
      obtain ⟨ty, pos, aft, e, hdp⟩ := iop5
      rw [e] at ho
      obtain rfl := Option.some.inj ho
      intro a' hds W K hB lq ld hmem hK
      have e108 : a'.eval (.tmp 108) = .agg #[.int .i64 (N : Int), .slice (some ⟨(hds 1).b, 0, none⟩) Kh (hds 1).c] := by rw [eval_tmp]; exact ld 1 108 (List.all_eq_true.1 hdp 1 (by decide)) rfl
      have e110 : a'.eval (.tmp 110) = .agg #[.int .i64 (N : Int), .slice (some ⟨(hds 3).b, 0, none⟩) T (hds 3).c] := by rw [eval_tmp]; exact ld 3 110 (List.all_eq_true.1 hdp 3 (by decide)) rfl
      have e111 : a'.eval (.tmp 111) = .int .i64 (m : Int) := by rw [eval_tmp]; exact ld 4 111 (List.all_eq_true.1 hdp 4 (by decide)) rfl
      have HK := Lib.hid (show ∀ hh W', Below W.heap.size W W' → (memNone).P hh W' → (∀ b ∈ (memNone).bl hh, W.heap.size ≤ b ∧ b < W'.heap.size) → K (a'.put (some 112) (.tuple #[.slice hh.p 0 hh.c, .int .i64 0])) W' from fun hh W' h1 h2 h3 => by
        have h4 : K (a'.put (some 112) (region_bc11X N Kh T gh qh gw qw m 5 (updH hds 5 hh))) W' := hK hh W' h1 h2 h3 trivial
        simp only [region_bc11X, updH_same] at h4
        exact h4)
      have m108   := (hmem 1 (show 1 ∈ uOf region_bc11U 5 by decide) (by decide)).1
      have m110   := (hmem 3 (show 3 ∈ uOf region_bc11U 5 by decide) (by decide)).1
      clear hK ld lq hmem
      refine step_call (vals := #[.agg #[.int .i64 (N : Int), .slice (some ⟨(hds 1).b, 0, none⟩) Kh (hds 1).c], .agg #[.int .i64 (N : Int), .slice (some ⟨(hds 3).b, 0, none⟩) T (hds 3).c], .int .i64 (m : Int)]) (by exact ⟨_, _, Try.func39, by kernel_rfl, rfl⟩) (by simp only [List.map_toArray, List.map_cons, List.map_nil, e108, e110, e111]) (call39m N Kh T (hds 1).b (hds 1).c (hds 3).b (hds 3).c m HS WS W hHl hWl hm hF (hTA W _ m108.1 m108.2) ⟨m110.1, m110.2, hVw⟩) ?_
      rintro e w' ⟨p, cap, rfl, hb'⟩
      exact ⟨_, rfl, HK.out ⟨0, cap, 0, 0, p⟩ _ hb' trivial (fun b hb2 => by cases hb2)⟩
    | 6, _ =>
      obtain ⟨ty, pos, aft, e, hdp⟩ := iop6
      rw [e] at ho
      obtain rfl := Option.some.inj ho
      intro a' hds W K hB lq ld hmem hK
      have e112 : a'.eval (.tmp 112) = .tuple #[.slice (hds 5).p 0 (hds 5).c, .int .i64 0] := by rw [eval_tmp]; exact ld 5 112 (List.all_eq_true.1 hdp 5 (by decide)) rfl
      have HK := Lib.hid (show K (a'.put (some 106) (.tuple #[.slice (hds 5).p 0 (hds 5).c, .int .i64 0])) W from hK W (Below.refl _ _) trivial)
      clear hK ld lq hmem
      unfold Oper.wp
      simp only [execOp, e112]
      exact HK.out
    | 7, _ =>
      obtain ⟨ty, pos, aft, e, hdp⟩ := iop7
      rw [e] at ho
      obtain rfl := Option.some.inj ho
      intro a' hds W K hB lq ld hmem hK
      have e106 : a'.eval (.tmp 106) = .tuple #[.slice (hds 5).p 0 (hds 5).c, .int .i64 0] := by rw [eval_tmp]; exact ld 6 106 (List.all_eq_true.1 hdp 6 (by decide)) rfl
      have HK := Lib.hid (show K (a'.put (some 113) (.slice (hds 5).p 0 (hds 5).c)) W from hK W (Below.refl _ _) trivial)
      clear hK ld lq hmem
      unfold Oper.wp
      simp only [execOp, e106]
      exact HK.out
    | 8, _ =>
      obtain ⟨ty, pos, aft, e, hdp⟩ := iop8
      rw [e] at ho
      obtain rfl := Option.some.inj ho
      intro a' hds W K hB lq ld hmem hK
      have e106 : a'.eval (.tmp 106) = .tuple #[.slice (hds 5).p 0 (hds 5).c, .int .i64 0] := by rw [eval_tmp]; exact ld 6 106 (List.all_eq_true.1 hdp 6 (by decide)) rfl
      have HK := Lib.hid (show K (a'.put (some 114) (.int .i64 0)) W from hK W (Below.refl _ _) trivial)
      clear hK ld lq hmem
      unfold Oper.wp
      simp only [execOp, e106]
      exact HK.out
    | 9, _ =>
      obtain ⟨ty, pos, aft, e, hdp⟩ := iop9
      rw [e] at ho
      obtain rfl := Option.some.inj ho
      intro a' hds W K hB lq ld hmem hK
      have e113 : a'.eval (.tmp 113) = .slice (hds 5).p 0 (hds 5).c := by rw [eval_tmp]; exact ld 7 113 (List.all_eq_true.1 hdp 7 (by decide)) rfl
      have HK := Lib.hid (show K (a'.put (some 19) (.slice (hds 5).p 0 (hds 5).c)) W from hK W (Below.refl _ _) trivial)
      clear hK ld lq hmem
      unfold Oper.wp
      simp only [execOp, e113]
      exact HK.out
    | 10, _ =>
      obtain ⟨ty, pos, aft, e, hdp⟩ := iop10
      rw [e] at ho
      obtain rfl := Option.some.inj ho
      intro a' hds W K hB lq ld hmem hK
      have e114 : a'.eval (.tmp 114) = .int .i64 0 := by rw [eval_tmp]; exact ld 8 114 (List.all_eq_true.1 hdp 8 (by decide)) rfl
      have HK := Lib.hid (show K (a'.put (some 20) (.int .i64 0)) W from hK W (Below.refl _ _) trivial)
      clear hK ld lq hmem
      unfold Oper.wp
      simp only [execOp, e114]
      exact HK.out
    | i + 11, h => omega
  · intro hds v W hO
    have hfin := gend (hds 1).b (hds 1).c (hds 1).b2 (hds 1).c2 (hds 3).b (hds 3).c (hds 3).b2 (hds 3).c2 (hds 5).b (hds 5).c (hds 5).b2 (hds 5).c2 (hds 1).p (hds 3).p (hds 5).p (v 107) (v 108) (v 109) (v 110) (v 111) (v 112) (v 106) (v 113) (v 114) W hO.b (hO.m 1 (by show 1 < 11; decide) rfl).1 (hO.m 1 (by show 1 < 11; decide) rfl).2 (hO.m 3 (by show 3 < 11; decide) rfl).1 (hO.m 3 (by show 3 < 11; decide) rfl).2 (hO.m 5 (by show 5 < 11; decide) rfl).1 (hO.m 5 (by show 5 < 11; decide) rfl).2
    rw [← laid_putL _ a v ?_] at hfin
    · exact hfin
    · intro p hp
      simp only [List.mem_cons, List.not_mem_nil, or_false] at hp
      rcases hp with rfl | rfl | rfl | rfl | rfl | rfl | rfl | rfl | rfl | rfl | rfl
      · rfl
      · rfl
      · rfl
      · rfl
      · rfl
      · rfl
      · rfl
      · rfl
      · rfl
      · exact hO.x 9 (show 9 < 11 by decide) 19 rfl
      · exact hO.x 10 (show 10 < 11 by decide) 20 rfl
end Go.Proofs.Ytdmgffoikebgkaa
/- TopBoundCloth: the walk. -/
namespace Go.Proofs.Ytdmgffoikebgkaa
open Go.RowKit Go.Shelf
attribute [local go_sem] Oper.semAt_some

theorem hsTo_nthM (n : Nat) (ws : List Nat) (k i : Nat) (hn : 1 ≤ n) (hi : i < k) : nthN (hsTo n ws k) i < n := by
  rw [nthN_get _ _ (by rw [hsTo_len]; exact hi)]
  simp only [hsTo, List.getElem_map, List.getElem_range, hsG]
  split
  · exact Nat.mod_lt _ (by omega)
  · omega
/-- the loom and the design in memory -/
structure TcS (w : World) (Z : Nat) (LA : Array Value) (D g2 q2 N L : Nat) (DS : List Nat) (W : World) : Prop where
  a : BoxAt W Z LA 137
  d : BoxAt W D #[.int .i64 (N : Int), .slice (some ⟨g2, 0, none⟩) L q2] 37
  nd : NatsAt W g2 0 DS
  l2 : g2 < W.heap.size
  b : Below w.heap.size w W
theorem TcS.next {w : World} {Z : Nat} {LA : Array Value} {D g2 q2 N L : Nat} {DS : List Nat} {W W' : World} (h : TcS w Z LA D g2 q2 N L DS W) (hb : Below W.heap.size W W') : TcS w Z LA D g2 q2 N L DS W' :=
  ⟨h.a.next hb, h.d.next hb, h.nd.below hb h.l2, Nat.lt_of_lt_of_le h.l2 hb.size, h.b.trans (hb.mono h.b.size)⟩
set_option maxRecDepth 100000 in
set_option maxHeartbeats 8000000 in
theorem TopBoundCloth_any (H : Nat) (p1 p2 p3 : Option Addr) (c1 c2 c3 : Nat) (ws rs sd : List Nat) (y : Nat) (w : World) (hH : H < 256) (hw : ByteRow w p1 ws) (hr : WordRow w p2 rs) (hwl : ws.length ≤ 9223372036854775807) (hrl : rs.length ≤ 9223372036854775807) (hy : y < 256) :
    Calls Try.prog 19 #[.agg (loomA H p1 p2 p3 ws.length c1 rs.length c2 sd.length c3), .int .u8 (y : Int)] w fun e w' => e = .returned (.bool true) ∧ Below w.heap.size w w' := by
  obtain ⟨w0, hw0⟩ : ∃ w0, w0 = w.alloc (.cells (loomA H p1 p2 p3 ws.length c1 rs.length c2 sd.length c3) 137) := ⟨_, rfl⟩
  have hb0 : Below w.heap.size w w0 := by rw [hw0]; exact (Below.refl _ _).alloc (Nat.le_refl _) _
  have hA : BoxAt w0 w.heap.size (loomA H p1 p2 p3 ws.length c1 rs.length c2 sd.length c3) 137 := by rw [hw0]; exact BoxAt.new _ _ _
  obtain ⟨hk1, hk2⟩ := loomL_bdM 30 ws.length (by omega)
  obtain ⟨hk3, hk4⟩ := loomL_bdM 10 rs.length (by omega)
  have H94 : ∀ W, Below w.heap.size w W → Calls Try.prog 94 #[.agg (loomA H p1 p2 p3 ws.length c1 rs.length c2 sd.length c3)] W (MadeL (loomN H) (loomL 30 ws.length) (hsTo (loomN H) ws (loomL 30 ws.length)) W) := fun W hb =>
    (armHarness_any H p1 p2 p3 c1 rs.length c2 sd.length c3 ws W hH (ByteRow.next hw hb) hwl).mono (by
      rintro e w' ⟨v, rfl, h1, h2⟩
      obtain ⟨g, c, rfl⟩ := row_slice h1 (by omega)
      obtain ⟨h3, h4, h5⟩ := nats_of_row h1 (by omega)
      exact ⟨g, c, rfl, h3, h5, h4, h2⟩)
  have H95 : Calls Try.prog 95 #[.agg (loomA H p1 p2 p3 ws.length c1 rs.length c2 sd.length c3)] w0 (MadeL (loomN H) (loomL 10 rs.length) (dsTo (loomN H) rs (loomL 10 rs.length)) w0) :=
    (armDesign_any H p1 p2 p3 ws.length c1 c2 sd.length c3 rs w0 hH (WordRow.next hr hb0) hrl).mono (by
      rintro e w' ⟨v, rfl, h1, h2⟩
      obtain ⟨g, c, rfl⟩ := row_slice h1 (by omega)
      obtain ⟨h3, h4, h5⟩ := nats_of_row h1 (by omega)
      exact ⟨g, c, rfl, h3, h5, h4, h2⟩)
  obtain ⟨hN1, hN2⟩ := loomN_bd H
  have hVd := dsTo_validM (loomN H) rs (loomL 10 rs.length) hN1 (by omega) hk3 (by omega)
  have hDl := dsTo_len (loomN H) rs (loomL 10 rs.length)
  have hHk := fun i (hi : i < loomL 30 ws.length) => hsTo_nthM (loomN H) ws (loomL 30 ws.length) i hN1 hi
  have hHl := hsTo_len (loomN H) ws (loomL 30 ws.length)
  obtain ⟨L, hL⟩ : ∃ L, loomL 10 rs.length = L := ⟨_, rfl⟩
  obtain ⟨Kh, hKh⟩ : ∃ Kh, loomL 30 ws.length = Kh := ⟨_, rfl⟩
  obtain ⟨N, hN⟩ : ∃ N, loomN H = N := ⟨_, rfl⟩
  rw [hL] at hk3 hk4
  rw [hKh] at hk1 hk2
  rw [hN, hL] at H95 hVd hDl
  simp only [hN, hKh] at H94 hHk hHl
  rw [hN] at hN1 hN2
  obtain ⟨DS, hDS⟩ : ∃ DS, dsTo N rs L = DS := ⟨_, rfl⟩
  obtain ⟨HS, hHS⟩ : ∃ HS, hsTo N ws Kh = HS := ⟨_, rfl⟩
  rw [hDS] at H95 hVd hDl
  simp only [hHS] at H94 hHk hHl
  clear hN hDS hL hKh hHS
  obtain ⟨m, hm⟩ : ∃ m, 2 + y % 5 = m := ⟨_, rfl⟩
  have hm1 : 2 ≤ m := by omega
  have hm2 : m ≤ 6 := by omega
  have hmI : (2 : Int) + (y : Int) % 5 = (m : Int) := by omega
  obtain ⟨t, ht⟩ : ∃ t, 1 + y % 3 = t := ⟨_, rfl⟩
  have ht1 : 1 ≤ t := by omega
  have ht2 : t ≤ 3 := by omega
  have htI : (1 : Int) + (y : Int) % 3 = (t : Int) := by omega
  have hTA : ∀ W b, NatsAt W b 0 HS → b < W.heap.size → TAt W b 0 N HS := fun W b h1 h2 => ⟨h1, h2, hN1, by omega, by rw [hHl]; omega, by rw [hHl]; omega, fun i hi => hHk i (by rw [← hHl]; exact hi)⟩
  have HTI := Lib.hid htI
  have HHl := Lib.hid hHl
  have HTA := Lib.hid hTA
  have HW0 := Lib.hid hw0
  have Hb0 := Lib.hid hb0
  have HA := Lib.hid hA
  have a0 := hA.cell' 0 rfl
  have a1 := hA.cell' 1 rfl
  have a2 := hA.cell' 2 rfl
  have a3 := hA.cell' 3 rfl
  unfold loomA at HW0 H94 H95 HA a0 a1 a2 a3 ⊢
  have HVd := Lib.hid hVd
  have HDl := Lib.hid hDl
  have H95' := Lib.hid H95
  have H94' := Lib.hid H94
  clear hw0 hb0 hA hw hr hVd hDl H95 H94 htI hHl hHk hTA hm ht
  go_enter Try.func19, Try.ntmps19
  go_wp2_with fail
  rw [← HW0.out]
  go_wp2_with fail
  refine H95'.out.mono ?_
  rintro e W1 ⟨g2, q2, rfl, hn2, hl2, hg2, hb1⟩
  have HA1 := Lib.hid (HA.out.next hb1)
  have Hb1 := Lib.hid (Hb0.out.trans (hb1.mono Hb0.out.size))
  clear HW0 H95' a0 a1 a2 a3 HA hb1 hl2
  go_upto_region 2 with fail
  obtain ⟨W2, hW2⟩ : ∃ W2, W2 = W1.alloc (.cells #[.int .i64 (N : Int), .slice (some ⟨g2, 0, none⟩) L q2] 37) := ⟨_, rfl⟩
  obtain ⟨D, hD⟩ : ∃ D, D = W1.heap.size := ⟨_, rfl⟩
  rw [← hW2, ← hD]
  have hbW2 : Below W1.heap.size W1 W2 := by rw [hW2]; exact (Below.refl _ _).alloc (Nat.le_refl _) _
  have hxD : BoxAt W2 D #[.int .i64 (N : Int), .slice (some ⟨g2, 0, none⟩) L q2] 37 := by rw [hW2, hD]; exact BoxAt.new _ _ _
  clear hW2 hD
  have hT2 : TcS w w.heap.size (loomA H p1 p2 p3 ws.length c1 rs.length c2 sd.length c3) D g2 q2 N L DS W2 := ⟨HA1.out.next hbW2, hxD, hn2.below hbW2 hg2, Nat.lt_of_lt_of_le hg2 hbW2.size, Hb1.out.trans (hbW2.mono Hb1.out.size)⟩
  have z0 := hT2.d.cell' 0 rfl
  have HT2 := Lib.hid hT2
  clear hn2 hg2 hbW2 hxD hT2 HA1 Hb1 Hb0
  by_cases hN3 : N = 1
  · have hd : ((N : Int) == 1) = true := by rw [hN3]; rfl
    have Hb2 := Lib.hid HT2.out.b
    clear hN3
    go_wp2_with fail
    refine (armPoint_any _).mono ?_
    rintro e W30 ⟨rfl, hb30⟩
    have Hb30 := Lib.hid (Hb2.out.trans (hb30.mono Hb2.out.size))
    clear hb30
    go_wp2_with fail
    refine (armChain_any _).mono ?_
    rintro e W31 ⟨rfl, hb31⟩
    have Hb31 := Lib.hid (Hb30.out.trans (hb31.mono Hb30.out.size))
    clear hb31
    go_wp2_with fail
    refine (armTie_any _).mono ?_
    rintro e W32 ⟨rfl, hb32⟩
    have Hb32 := Lib.hid (Hb31.out.trans (hb32.mono Hb31.out.size))
    clear hb32
    go_wp2_with fail
    go_ret
    exact ⟨rfl, Hb32.out⟩
  · have hd : ((N : Int) == 1) = false := by rw [beq_eq_false_iff_ne]; omega
    have h2N : 2 ≤ N := by omega
    clear hN3
    have Hfix := Lib.hid (zs_fixM HVd.out h2N hm1)
    have hBd : ∀ i, i < L → nthN (zsOf N m DS) i < 2 ^ N ∧ BoundUp (nthN (zsOf N m DS) i) N m := fun i hi => ⟨Hfix.out.v.lt i, (Hfix.out.ok i (by rw [HDl.out]; exact hi)).2⟩
    have hZl : (zsOf N m DS).length = L := (zs_len _ _ _).trans HDl.out
    have HBd := Lib.hid hBd
    have HZl := Lib.hid hZl
    have HVz := Lib.hid Hfix.out.v
    clear hBd hZl Hfix
    go_upto_region 4 with fail
    refine region_bc4 N L g2 q2 D m DS HDl.out HVd.out HT2.out.nd HT2.out.l2 h2N hm1 (by omega) (by omega) HT2.out.d rfl ?hops (by kernel_rfl) (by kernel_rfl) (by kernel_rfl) (by kernel_rfl) ?hsz ?hout ?hend
    case hops => exact ⟨⟨_, _, _, rfl, by kernel_rfl⟩, ⟨_, _, _, rfl, by kernel_rfl⟩, ⟨_, _, _, rfl, by kernel_rfl⟩, ⟨_, _, _, rfl, by kernel_rfl⟩, ⟨_, _, rfl, by kernel_rfl⟩, ⟨_, _, _, rfl, by kernel_rfl⟩, ⟨_, _, _, rfl, by kernel_rfl⟩, ⟨_, _, _, rfl, by kernel_rfl⟩, ⟨_, _, _, rfl, by kernel_rfl⟩, ⟨_, _, _, rfl, by kernel_rfl⟩, ⟨_, _, _, rfl, by kernel_rfl⟩, ⟨_, _, _, rfl, by kernel_rfl⟩, ⟨_, _, _, rfl, by kernel_rfl⟩, ⟨_, _, _, rfl, by kernel_rfl⟩, ⟨_, _, _, rfl, by kernel_rfl⟩, ⟨_, _, _, rfl, by kernel_rfl⟩⟩
    case hsz => intro d hd; simp only [List.mem_cons, List.not_mem_nil, or_false] at hd; show d < 179; omega
    case hout => exact ⟨rfl, rfl⟩
    case hend =>
      intro g45 q45 G45 Q45 g49 q49 G49 Q49 g51 q51 G51 Q51 g7 q7 G7 Q7 P45 P49 P51 P7 u44 u45 u46 u47 u48 u49 u50 u51 u43 u52 u53 u54 W3 hb3 hm45 hB45 hm49 hB49 hm51 hB51 hl7 hu7 hst
      simp only [putL, List.foldl, Act.put, List.setIfInBounds_toArray, List.set_cons_succ, List.set_cons_zero]
      obtain ⟨ZS, hZS⟩ : ∃ ZS, zsOf N m DS = ZS := ⟨_, rfl⟩
      have HBd := Lib.hid (show ∀ i, i < L → nthN ZS i < 2 ^ N ∧ BoundUp (nthN ZS i) N m by rw [← hZS]; exact HBd.out)
      have HZl := Lib.hid (show ZS.length = L by rw [← hZS]; exact HZl.out)
      have HVz := Lib.hid (show Valid N ZS by rw [← hZS]; exact HVz.out)
      have hnz : NatsAt W3 g51 0 ZS := by rw [← hZS]; exact hm51.1
      have H96 := Lib.hid (call96 N L g51 q51 ZS W3 HZl.out HVz.out hnz hm51.2)
      have HT3 := Lib.hid (HT2.out.next hb3)
      have x0 := hst.cell' 0 rfl
      have x1 := hst.cell' 1 rfl
      clear hb3 hm45 hB45 hm49 hB49 hm51 hB51 hl7 hu7 hst hZS hnz HT2 z0 hd
      go_wp2_with fail
      refine H96.out.mono ?_
      rintro e W4 ⟨g4, q4, rfl, hn4, hl4, hg4, hb4⟩
      have H81 := Lib.hid (call81 N L g4 q4 ZS W4 HZl.out HVz.out hn4 hg4)
      have HT4 := Lib.hid (HT3.out.next hb4)
      clear hn4 hl4 hg4 hb4 HT3 H96 x0 x1
      go_wp2_with fail
      refine H81.out.mono ?_
      rintro e W5 ⟨g5, q5, rfl, hC5, hl5, hb5⟩
      have HT5 := Lib.hid (HT4.out.next hb5)
      clear hl5 hb5 HT4 H81
      go_upto_region 6 with fail
      obtain ⟨W6, hW6⟩ : ∃ W6, W6 = W5.alloc (.cells #[.int .i64 (N : Int), .slice (some ⟨g5, 0, none⟩) L q5] 114) := ⟨_, rfl⟩
      obtain ⟨Bc, hBc⟩ : ∃ Bc, Bc = W5.heap.size := ⟨_, rfl⟩
      rw [← hW6, ← hBc]
      have hbW6 : Below W5.heap.size W5 W6 := by rw [hW6]; exact (Below.refl _ _).alloc (Nat.le_refl _) _
      have hxBc : BoxAt W6 Bc #[.int .i64 (N : Int), .slice (some ⟨g5, 0, none⟩) L q5] 114 := by rw [hW6, hBc]; exact BoxAt.new _ _ _
      clear hW6 hBc
      have HT6 := Lib.hid (HT5.out.next hbW6)
      have HC6 := Lib.hid (hC5.next hbW6)
      have HB6 := Lib.hid hxBc
      have b1 := hxBc.cell' 1 rfl
      have z1 := HT6.out.d.cell' 1 rfl
      clear hC5 hbW6 hxBc HT5
      go_upto_region 8 with fail
      obtain ⟨T, hT⟩ : ∃ T, L + L = T := ⟨_, rfl⟩
      refine region_bc8 N L T g2 q2 D g5 q5 Bc (punched ZS L) (punched_len _ _) (by have := punched_ok HVz.out; rw [HZl.out] at this; exact this) (by omega) hT (by omega) HC6.out HT6.out.d HB6.out rfl ?hops (by kernel_rfl) (by kernel_rfl) (by kernel_rfl) (by kernel_rfl) ?hsz ?hout ?hend
      case hops => exact ⟨⟨_, _, _, rfl, by kernel_rfl⟩, ⟨_, _, _, rfl, by kernel_rfl⟩, ⟨_, _, _, rfl, by kernel_rfl⟩, ⟨_, _, rfl, by kernel_rfl⟩, ⟨_, _, _, rfl, by kernel_rfl⟩, ⟨_, _, _, rfl, by kernel_rfl⟩, ⟨_, _, _, rfl, by kernel_rfl⟩, ⟨_, _, _, rfl, by kernel_rfl⟩, ⟨_, _, _, rfl, by kernel_rfl⟩, ⟨_, _, _, rfl, by kernel_rfl⟩, ⟨_, _, _, rfl, by kernel_rfl⟩, ⟨_, _, _, rfl, by kernel_rfl⟩, ⟨_, _, _, rfl, by kernel_rfl⟩⟩
      case hsz => intro d hd; simp only [List.mem_cons, List.not_mem_nil, or_false] at hd; show d < 179; omega
      case hout => exact ⟨rfl, rfl⟩
      case hend =>
        intro g81 q81 G81 Q81 g82 q82 G82 Q82 P81 P82 u77 u78 u79 u80 u81 u82 u76 u83 u84 u85 W7 hb7 hm81 hB81 hm82 hB82
        simp only [putL, List.foldl, Act.put, List.setIfInBounds_toArray, List.set_cons_succ, List.set_cons_zero]
        obtain ⟨WS, hWS⟩ : ∃ WS, wovenTo N (punched ZS L) (List.replicate T 1) 0 T = WS := ⟨_, rfl⟩
        have hWl : WS.length = T := by rw [← hWS, wovenTo_len]
        have hWr : ∀ i, i < T → nthN WS i < 2 ^ N ∧ BoundUp (nthN WS i) N m := fun i hi => by
          obtain ⟨j, hj, e⟩ := woven_row N T ZS (List.replicate T 1) (by rw [HZl.out]; omega) i hi
          rw [HZl.out] at hj e
          rw [hWS] at e
          rw [e]
          exact HBd.out j hj
        have hVw : Valid N WS := by rw [← hWS]; exact woven_valid (by have := punched_ok HVz.out; rw [HZl.out] at this; exact this) _ _ _ (by omega) (by omega)
        have Hnw := Lib.hid (show NatsAt W7 g82 0 WS by rw [← hWS]; exact hm82.1)
        have hgw : g82 < W7.heap.size := hm82.2
        have HT7 := Lib.hid (HT6.out.next hb7)
        have HWl := Lib.hid hWl
        have HWr := Lib.hid hWr
        have HVw := Lib.hid hVw
        clear hb7 hm81 hB81 hm82 hB82 hWS hWl hWr hVw HT6 HC6 HB6 b1 z1
        obtain ⟨M, hM⟩ : ∃ M, N = M + 1 := ⟨N - 1, by omega⟩
        have hMi : (N : Int) - 1 = (M : Int) := by omega
        have htI := HTI.out
        have z0 := HT7.out.d.cell' 0 rfl
        have hot : onceT M 1 * t = N * t := by unfold onceT; rw [if_neg (by simp), hM]
        have hNt : N * t ≤ 36 := Nat.le_trans (Nat.mul_le_mul hN2 ht2) (by decide)
        have hNt0 : 1 ≤ N * t := Nat.mul_pos (by omega) ht1
        obtain ⟨Q, hQ⟩ : ∃ Q, N * t = Q := ⟨_, rfl⟩
        rw [hQ] at hot hNt hNt0
        have Hb8' := Lib.hid (show Below W7.heap.size W7 (W7.alloc (.cells #[.int .i64 0, .int .i64 (M : Int), .int .i64 1, .int .i64 (t : Int)] 32)) from (Below.refl _ _).alloc (Nat.le_refl _) _)
        have H24 := Lib.hid (call24g N M 1 t Q W7.heap.size (W7.alloc (.cells #[.int .i64 0, .int .i64 (M : Int), .int .i64 1, .int .i64 (t : Int)] 32)) hM (by omega) (.inl rfl) ⟨ht1, by omega⟩ hot (by omega) (BoxAt.new _ _ _))
        have hGl : (grpL M 1 t).length = Q := by rw [grpL_len]; exact hot
        have hGk : ∀ i, i < Q → nthN (grpL M 1 t) i < N := fun i hi => by rw [hM]; exact grpL_lt _ _ _ _ (by rw [hot]; exact hi)
        have hGF : upTo (flO (grpL M 1 t) WS m) T = [] := straight_bound M t m WS T ht1 (by rw [← hM, hQ]; omega) (fun i hi => by rw [← hM]; exact (HWr.out i hi).2)
        have HGl := Lib.hid hGl
        have HGk := Lib.hid hGk
        have HGF := Lib.hid hGF
        have HM := Lib.hid hM
        clear hM hot hQ hGl hGk hGF
        go_wp2_with fail
        refine H24.out.mono ?_
        rintro e W8 ⟨g8, q8, rfl, hn8, hl8, hg8, hb8⟩
        have hb78 := Hb8'.out.trans (hb8.mono Hb8'.out.size)
        have HT8 := Lib.hid (HT7.out.next hb78)
        have Hnw := Lib.hid (Hnw.out.below hb78 hgw)
        have hgw8 : g82 < W8.heap.size := Nat.lt_of_lt_of_le hgw hb78.size
        clear Hb8' H24 hl8 hb8 hb78 HT7 hgw hMi htI z0
        go_upto_region 10 with fail
        obtain ⟨W9, hW9⟩ : ∃ W9, W9 = W8.alloc (.cells #[.int .i64 (N : Int), .slice (some ⟨g8, 0, none⟩) Q q8] 26) := ⟨_, rfl⟩
        obtain ⟨E, hE⟩ : ∃ E, E = W8.heap.size := ⟨_, rfl⟩
        rw [← hW9, ← hE]
        have hbW9 : Below W8.heap.size W8 W9 := by rw [hW9]; exact (Below.refl _ _).alloc (Nat.le_refl _) _
        have hxE : BoxAt W9 E #[.int .i64 (N : Int), .slice (some ⟨g8, 0, none⟩) Q q8] 26 := by rw [hW9, hE]; exact BoxAt.new _ _ _
        clear hW9 hE
        have HT9 := Lib.hid (HT8.out.next hbW9)
        have HE9 := Lib.hid hxE
        have Hn8 := Lib.hid (hn8.below hbW9 hg8)
        have hg89 : g8 < W9.heap.size := Nat.lt_of_lt_of_le hg8 hbW9.size
        have Hnw := Lib.hid (Hnw.out.below hbW9 hgw8)
        have hgw9 : g82 < W9.heap.size := Nat.lt_of_lt_of_le hgw8 hbW9.size
        have z0 := HT9.out.d.cell' 0 rfl
        clear hn8 hg8 hbW9 hxE HT8 hgw8
        go_upto_region 11 with fail
        obtain ⟨W10, hW10⟩ : ∃ W10, W10 = W9.alloc (.cells #[.int .i64 (N : Int), .slice (some ⟨g82, 0, none⟩) T q82] 37) := ⟨_, rfl⟩
        obtain ⟨V, hV⟩ : ∃ V, V = W9.heap.size := ⟨_, rfl⟩
        rw [← hW10, ← hV]
        have hbW10 : Below W9.heap.size W9 W10 := by rw [hW10]; exact (Below.refl _ _).alloc (Nat.le_refl _) _
        have hxV : BoxAt W10 V #[.int .i64 (N : Int), .slice (some ⟨g82, 0, none⟩) T q82] 37 := by rw [hW10, hV]; exact BoxAt.new _ _ _
        clear hW10 hV
        have HT10 := Lib.hid (HT9.out.next hbW10)
        have HE10 := Lib.hid (HE9.out.next hbW10)
        have HV10 := Lib.hid hxV
        have Hn8 := Lib.hid (Hn8.out.below hbW10 hg89)
        have hg8a : g8 < W10.heap.size := Nat.lt_of_lt_of_le hg89 hbW10.size
        have Hnw := Lib.hid (Hnw.out.below hbW10 hgw9)
        have hgwa : g82 < W10.heap.size := Nat.lt_of_lt_of_le hgw9 hbW10.size
        clear hbW10 hxV HT9 HE9 hg89 hgw9 z0
        have hTG : ∀ W b, NatsAt W b 0 (grpL M 1 t) → b < W.heap.size → TAt W b 0 N (grpL M 1 t) := fun W b h1 h2 => ⟨h1, h2, hN1, by omega, by rw [HGl.out]; omega, by rw [HGl.out]; omega, fun i hi => HGk.out i (by rw [← HGl.out]; exact hi)⟩
        have HTG := Lib.hid hTG
        clear hTG
        refine region_bc11 N Q T g8 q8 E g82 q82 V m (grpL M 1 t) WS HGl.out hNt0 (by omega) HTG.out Hn8.out hg8a HWl.out HVw.out Hnw.out hgwa (by omega) HGF.out HE10.out HV10.out rfl ?hops (by kernel_rfl) (by kernel_rfl) (by kernel_rfl) (by kernel_rfl) ?hsz ?hout ?hend
        case hops => exact ⟨⟨_, _, _, rfl, by kernel_rfl⟩, ⟨_, _, _, rfl, by kernel_rfl⟩, ⟨_, _, _, rfl, by kernel_rfl⟩, ⟨_, _, _, rfl, by kernel_rfl⟩, ⟨_, _, _, rfl, by kernel_rfl⟩, ⟨_, _, _, rfl, by kernel_rfl⟩, ⟨_, _, _, rfl, by kernel_rfl⟩, ⟨_, _, _, rfl, by kernel_rfl⟩, ⟨_, _, _, rfl, by kernel_rfl⟩, ⟨_, _, _, rfl, by kernel_rfl⟩, ⟨_, _, _, rfl, by kernel_rfl⟩⟩
        case hsz => intro d hd; simp only [List.mem_cons, List.not_mem_nil, or_false] at hd; show d < 179; omega
        case hout => exact ⟨rfl, rfl, rfl⟩
        case hend =>
          intro g108 q108 G108 Q108 g110 q110 G110 Q110 g112 q112 G112 Q112 P108 P110 P112 u107 u108 u109 u110 u111 u112 u106 u113 u114 W11 hb11 hm108 hB108 hm110 hB110 hm112 hB112
          simp only [putL, List.foldl, Act.put, List.setIfInBounds_toArray, List.set_cons_succ, List.set_cons_zero]
          have HT11 := Lib.hid (HT10.out.next hb11)
          have HV11 := Lib.hid (HV10.out.next hb11)
          have Hnw := Lib.hid (Hnw.out.below hb11 hgwa)
          have hgwb : g82 < W11.heap.size := Nat.lt_of_lt_of_le hgwa hb11.size
          have hA11 := HT11.out.a
          unfold loomA at hA11
          have a0 := hA11.cell' 0 rfl
          have a1 := hA11.cell' 1 rfl
          have a2 := hA11.cell' 2 rfl
          have a3 := hA11.cell' 3 rfl
          have H94 := Lib.hid (H94'.out W11 HT11.out.b)
          clear hb11 hm108 hB108 hm110 hB110 hm112 hB112 HT10 HV10 HE10 Hn8 hg8a hgwa hA11 HTG HGl HGk HGF HM
          go_wp2_with fail
          refine H94.out.mono ?_
          rintro e W12 ⟨gh, qh, rfl, hnh, hlh, hgh, hb12⟩
          have HT12 := Lib.hid (HT11.out.next hb12)
          have HV12 := Lib.hid (HV11.out.next hb12)
          have Hnw := Lib.hid (Hnw.out.below hb12 hgwb)
          have hgwc : g82 < W12.heap.size := Nat.lt_of_lt_of_le hgwb hb12.size
          clear hlh hb12 HT11 HV11 hgwb a0 a1 a2 a3 H94 H94'
          go_upto_region 13 with fail
          obtain ⟨W13, hW13⟩ : ∃ W13, W13 = W12.alloc (.cells #[.int .i64 (N : Int), .slice (some ⟨gh, 0, none⟩) Kh qh] 26) := ⟨_, rfl⟩
          obtain ⟨Y, hY⟩ : ∃ Y, Y = W12.heap.size := ⟨_, rfl⟩
          rw [← hW13, ← hY]
          have hbW13 : Below W12.heap.size W12 W13 := by rw [hW13]; exact (Below.refl _ _).alloc (Nat.le_refl _) _
          have hxY : BoxAt W13 Y #[.int .i64 (N : Int), .slice (some ⟨gh, 0, none⟩) Kh qh] 26 := by rw [hW13, hY]; exact BoxAt.new _ _ _
          clear hW13 hY
          have HT13 := Lib.hid (HT12.out.next hbW13)
          have HV13 := Lib.hid (HV12.out.next hbW13)
          have HY13 := Lib.hid hxY
          have Hnh := Lib.hid (hnh.below hbW13 hgh)
          have hgh13 : gh < W13.heap.size := Nat.lt_of_lt_of_le hgh hbW13.size
          have Hnw := Lib.hid (Hnw.out.below hbW13 hgwc)
          have hgwd : g82 < W13.heap.size := Nat.lt_of_lt_of_le hgwc hbW13.size
          have y0 := hxY.cell' 0 rfl
          have y1 := hxY.cell' 1 rfl
          have H100 := Lib.hid (call100 N Kh gh qh HS W13 HHl.out hk1 (by omega) Hnh.out hgh13)
          clear hnh hgh hbW13 hxY HT12 HV12 hgwc
          go_wp2_with fail
          refine H100.out.mono ?_
          rintro e W14 ⟨gi, qi, rfl, hni, hli, hgi, hb14⟩
          have H58 := Lib.hid (call58 N Kh gi qi m HS W14 HHl.out h2N hm1 (by omega) (HTA.out W14 gi hni hgi))
          have HT14 := Lib.hid (HT13.out.next hb14)
          have HV14 := Lib.hid (HV13.out.next hb14)
          have HY14 := Lib.hid (HY13.out.next hb14)
          have Hnh := Lib.hid (Hnh.out.below hb14 hgh13)
          have hgh14 : gh < W14.heap.size := Nat.lt_of_lt_of_le hgh13 hb14.size
          have Hnw := Lib.hid (Hnw.out.below hb14 hgwd)
          have hgwe : g82 < W14.heap.size := Nat.lt_of_lt_of_le hgwd hb14.size
          clear hni hli hgi hb14 H100 HT13 HV13 HY13 hgh13 hgwd y0 y1
          go_wp2_with fail
          refine H58.out.mono ?_
          rintro e W15 ⟨z, row, rfl, hz1, hz2, hz3, hb15⟩
          have HT15 := Lib.hid (HT14.out.next hb15)
          have hV15 := HV14.out.next hb15
          have hY15 := HY14.out.next hb15
          have v0 := hV15.cell' 0 rfl
          have v1 := hV15.cell' 1 rfl
          have y0 := hY15.cell' 0 rfl
          have y1 := hY15.cell' 1 rfl
          have hgh15 : gh < W15.heap.size := Nat.lt_of_lt_of_le hgh14 hb15.size
          have hgw15 : g82 < W15.heap.size := Nat.lt_of_lt_of_le hgwe hb15.size
          have H39 := Lib.hid (call39m N Kh T gh qh g82 q82 z HS WS W15 HHl.out HWl.out hz2 (hz3 WS T HWr.out) (HTA.out W15 gh (Hnh.out.below hb15 hgh14) hgh15) ⟨Hnw.out.below hb15 hgwe, hgw15, HVw.out⟩)
          have hzI : (0 : Int) < (z : Int) := by omega
          clear hb15 hV15 hY15 hz3 H58 HT14 HV14 HY14 Hnh hgh14 hgwe Hnw
          go_wp2_with fail
          refine H39.out.mono ?_
          rintro e W16 ⟨p16, q16, rfl, hb16⟩
          have HT16 := Lib.hid (HT15.out.next hb16)
          have z1 := HT16.out.d.cell' 1 rfl
          have h2L : (2 : Int) * (L : Int) = (T : Int) := by omega
          have Hb16 := Lib.hid HT16.out.b
          clear hb16 H39 HT15 v0 v1 y0 y1 hgh15 hgw15 hzI HT16 hT
          go_wp2_with fail
          refine (armPoint_any _).mono ?_
          rintro e W30 ⟨rfl, hb30⟩
          have Hb30 := Lib.hid (Hb16.out.trans (hb30.mono Hb16.out.size))
          clear hb30 z1
          go_wp2_with fail
          refine (armChain_any _).mono ?_
          rintro e W31 ⟨rfl, hb31⟩
          have Hb31 := Lib.hid (Hb30.out.trans (hb31.mono Hb30.out.size))
          clear hb31
          go_wp2_with fail
          refine (armTie_any _).mono ?_
          rintro e W32 ⟨rfl, hb32⟩
          have Hb32 := Lib.hid (Hb31.out.trans (hb32.mono Hb31.out.size))
          clear hb32
          go_wp2_with fail
          go_ret
          exact ⟨rfl, Hb32.out⟩
end Go.Proofs.Ytdmgffoikebgkaa
namespace Go.Proofs.Ytdmgffoikebgkaa
open Go.ChangeShapes Go.WideShapes Go.ChangeAt Go.RowKit Go.Joins

set_option maxRecDepth 100000 in
set_option maxHeartbeats 1000000 in
theorem TopBoundCloth_lifted (os : Os) (started : os.Started) (H : Type) (enc : TypeId × Value → H) :
    ReturnsInHanded {} Try.checked os 19 .any (Rows.topBoundClothSpec.pre6 enc Try.prog Try.f19 Rows.topBoundClothRow.domain false) (Rows.topBoundClothSpec.post enc Try.prog Try.f19 false true false false) := by
  refine returnsInHanded_of_change (C := Try.checked) Try.own' started (by kernel_rfl) Try.func19
    (ChangeSpec.witness6 (enc := enc) (C := Try.checked) false ⟨#[], #[.agg #[.int .u8 0, .slice none 0 0, .slice none 0 0, .slice none 0 0], .int .u8 0], []⟩ 8 (by kernel_rfl) (by kernel_rfl) (by kernel_rfl) (by kernel_rfl)) ?_
  intro W base args ds gs before hval0 hW hcnd _
  have hval : ∀ (j : Nat) t v, Try.f19.params[j]? = some t → args[j]? = some v → Value.okWide Try.prog W .any base t v := hval0
  have hW' := hW
  obtain ⟨p, q, hA0, hV, rfl, hfz, hnd⟩ := hW
  have hA : DataW.TrodAll enc Try.prog W 0 (fun _ => true) true Try.f19.params.toList args.toList ds p := hA0
  rw [Try.params19] at hA hval
  obtain ⟨v0, v1, d0, d1, p0, p1, rfl, rfl, rfl, h0, h1⟩ := trodAll_two hA
  obtain ⟨rfl, rfl⟩ := trodVars_none hV
  obtain ⟨hk, a1, a2, a3, c1, c2, c3, ws, rs, sd, rfl, hH, hw1, hw2, _, hl1, hl2, _⟩ := loom_open (hval 0 137 v0 rfl rfl) h0
  obtain ⟨k1, rfl, rfl, rfl, wa1⟩ := open_int Try.underlying5 (hval 1 5 v1 rfl rfl) h1
  obtain ⟨y1, rfl, hy1⟩ := u8_of wa1
  clear hA0 hval0
  have hlt0 : ∀ x ∈ p0, x.block < W.heap.size := fun x hx => hW'.lt x (by simp [hx])
  refine (TopBoundCloth_any hk a1 a2 a3 c1 c2 c3 ws rs sd y1 W hH hw1 hw2 hl1 hl2 hy1).mono fun e W' ⟨he, hB⟩ => ?_
  subst he
  refine ⟨_, rfl, _, _, _, [], p0 ++ [], [], hW', ?_, ?_, rfl, hB.frame _, fun h => by cases h⟩
  · exact trodAll_mk1 (shut_bool Try.underlying4 true)
  · exact trodAll_mk2 (Below.trod Try.laidOut' (by kernel_rfl) (of_decide_eq_true (by kernel_rfl)) h0 hB hlt0) (shut_int Try.underlying5 wa1)

theorem TopBoundCloth_joined : joinedFacts Try.prog 19 Try.f19 Rows.topBoundClothSpec Rows.topBoundClothRow = true := by
  unfold joinedFacts
  rw [Try.enters', Try.lifts', Try.made']
  kernel_rfl
theorem TopBoundCloth_holds : Rows.TopBoundClothSaid :=
  OpenClaim.holds_of_wide 19 Try.f19 rfl rfl rfl rfl rfl rfl rfl ⟨rfl, rfl, rfl, rfl, rfl⟩ rfl rfl rfl rfl rfl (by kernel_rfl) Try.func19 TopBoundCloth_joined
    (of_decide_eq_true (by kernel_rfl)) (by unfold Func.isWrapper; first | (rw [if_pos (by decide +kernel)]; kernel_rfl) | (rw [if_neg (by decide +kernel)]; exact ⟨rfl, rfl⟩))
    (fun os started H enc _ => TopBoundCloth_lifted os started H enc)
end Go.Proofs.Ytdmgffoikebgkaa
