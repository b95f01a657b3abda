/- Bind of the reference. -/
import Derived.Test.YtjobbleabepaiaaZA
namespace Go.Proofs.Ytjobbleabepaiaa
open Go.RowKit

/-- how many points of two rows are different, and how many of these are fixed -/
def ham (p x : Nat) : Nat → Nat
  | 0 => 0
  | k + 1 => ham p x k + if (bitN p k).toNat = (bitN x k).toNat then 0 else 1
def con (p f x : Nat) : Nat → Nat
  | 0 => 0
  | k + 1 => con p f x k + if (bitN p k).toNat = (bitN x k).toNat then 0 else if bitN f k then 1 else 0
def BoundUp (x s m : Nat) : Prop := ∀ k, k < s → ∃ j, j ≤ m ∧ bitN x ((k + j) % s) ≠ bitN x k
def OkRow (p f s m x : Nat) : Prop := con p f x s = 0 ∧ BoundUp x s m

theorem xor_bit (x p k : Nat) : (bitN (x ^^^ p) k).toNat = if (bitN p k).toNat = (bitN x k).toNat then 0 else 1 := by
  unfold bitN
  rw [Nat.testBit_xor]
  cases x.testBit k <;> cases p.testBit k <;> rfl
theorem pop_ham (x p : Nat) : ∀ k, popN (x ^^^ p) k = ham p x k
  | 0 => rfl
  | k + 1 => by rw [popN, ham, pop_ham x p k, xor_bit]
theorem high_bit {x s j : Nat} (hx : x < 2 ^ s) (hj : s ≤ j) : bitN x j = false := by
  unfold bitN; exact Nat.testBit_lt_two_pow (Nat.lt_of_lt_of_le hx (Nat.pow_le_pow_right (by decide) hj))
theorem ham_rest {x p s : Nat} (hx : x < 2 ^ s) (hp : p < 2 ^ s) : ∀ t, ham p x (s + t) = ham p x s
  | 0 => rfl
  | t + 1 => by
    rw [← Nat.add_assoc, ham, ham_rest hx hp t, high_bit hx (by omega), high_bit hp (by omega)]; rfl
theorem pop_24 {x p s : Nat} (hs : s ≤ 24) (hx : x < 2 ^ s) (hp : p < 2 ^ s) : popN (x ^^^ p) 24 = ham p x s := by
  rw [pop_ham]
  have := ham_rest hx hp (24 - s)
  rwa [show s + (24 - s) = 24 by omega] at this
theorem con_zero {p f x : Nat} : ∀ k, con p f x k = 0 ↔ ∀ j, j < k → bitN p j ≠ bitN x j → bitN f j = false
  | 0 => by simp [con]
  | k + 1 => by
    rw [con, Nat.add_eq_zero_iff, con_zero k]
    constructor
    · rintro ⟨h1, h2⟩ j hj hne
      by_cases e : j = k
      · subst e
        by_cases hf : bitN f j = true
        · exfalso
          have : ¬ (bitN p j).toNat = (bitN x j).toNat := by revert hne; cases bitN p j <;> cases bitN x j <;> simp
          rw [if_neg this, if_pos hf] at h2
          omega
        · simpa using hf
      · exact h1 j (by omega) hne
    · intro h
      refine ⟨fun j hj => h j (by omega), ?_⟩
      split
      · rfl
      · rename_i hne
        rw [h k (by omega) (fun e => hne (by rw [e]))]; rfl
theorem con_bits {p f x s : Nat} (hx : x < 2 ^ s) (hp : p < 2 ^ s) : con p f x s = 0 ↔ (x ^^^ p) &&& f = 0 := by
  rw [con_zero]
  constructor
  · intro h
    apply Nat.eq_of_testBit_eq
    intro j
    rw [Nat.testBit_and, Nat.testBit_xor, Nat.zero_testBit]
    by_cases hj : j < s
    · have := h j hj
      unfold bitN at this
      cases hxj : x.testBit j <;> cases hpj : p.testBit j <;> simp [hxj, hpj] at this ⊢ <;> exact this
    · have h1 := high_bit hx (show s ≤ j by omega)
      have h2 := high_bit hp (show s ≤ j by omega)
      unfold bitN at h1 h2
      rw [h1, h2]; rfl
  · intro h j hj hne
    have := congrArg (fun n => n.testBit j) h
    simp only [Nat.testBit_and, Nat.testBit_xor, Nat.zero_testBit] at this
    unfold bitN at *
    cases hf : f.testBit j
    · rfl
    · rw [hf] at this
      revert hne this
      cases p.testBit j <;> cases x.testBit j <;> simp
theorem ham_le (p x : Nat) : ∀ k, ham p x k ≤ k
  | 0 => Nat.le_refl _
  | k + 1 => by have := ham_le p x k; rw [ham]; split <;> omega
/-- what the search has found among the rows below X -/
def Fnd (p f s m X : Nat) (b l : Nat) (fd : Bool) : Prop :=
  (fd = false ∧ b = 0 ∧ l = 0 ∧ ∀ x, x < X → ¬ OkRow p f s m x) ∨
  (fd = true ∧ b < X ∧ OkRow p f s m b ∧ l = ham p b s ∧ ∀ x, x < X → OkRow p f s m x → l < ham p x s ∨ (ham p x s = l ∧ b ≤ x))
theorem Fnd.start (p f s m : Nat) : Fnd p f s m 0 0 0 false := .inl ⟨rfl, rfl, rfl, fun x hx => by omega⟩
theorem Fnd.skip {p f s m X b l : Nat} {fd : Bool} (h : Fnd p f s m X b l fd) (hn : ¬ OkRow p f s m X) : Fnd p f s m (X + 1) b l fd := by
  have key : ∀ x, x < X + 1 → OkRow p f s m x → x < X := fun x hx ho => by
    rcases Nat.lt_or_ge x X with h | h
    · exact h
    · obtain rfl : x = X := by omega
      exact absurd ho hn
  rcases h with ⟨h1, h2, h3, h4⟩ | ⟨h1, h2, h3, h4, h5⟩
  · exact .inl ⟨h1, h2, h3, fun x hx ho => h4 x (key x hx ho) ho⟩
  · exact .inr ⟨h1, by omega, h3, h4, fun x hx ho => h5 x (key x hx ho) ho⟩
theorem Fnd.keep {p f s m X b l : Nat} (h : Fnd p f s m X b l true) (hge : l ≤ ham p X s) : Fnd p f s m (X + 1) b l true := by
  rcases h with ⟨h1, _⟩ | ⟨h1, h2, h3, h4, h5⟩
  · simp at h1
  · refine .inr ⟨rfl, by omega, h3, h4, fun x hx ho => ?_⟩
    by_cases e : x < X
    · exact h5 x e ho
    · obtain rfl : x = X := by omega
      omega
theorem Fnd.take {p f s m X b l : Nat} {fd : Bool} (h : Fnd p f s m X b l fd) (ho : OkRow p f s m X) (hlt : fd = true → ham p X s < l) : Fnd p f s m (X + 1) X (ham p X s) true := by
  refine .inr ⟨rfl, by omega, ho, rfl, fun x hx hx2 => ?_⟩
  by_cases e : x < X
  · rcases h with ⟨h1, _, _, h4⟩ | ⟨h1, h2, h3, h4, h5⟩
    · exact absurd hx2 (h4 x e)
    · have := hlt h1
      have := h5 x e hx2
      left; omega
  · obtain rfl : x = X := by omega
    right; omega
theorem pow_bdsN (s : Nat) (hs : s ≤ 24) : 2 ^ s ≤ 16777216 := Nat.le_trans (Nat.pow_le_pow_right (by decide) hs) (by decide)
theorem pow_int (s : Nat) : (2 : Int) ^ s = ((2 ^ s : Nat) : Int) := (Int.natCast_pow 2 s).symm

/-- what the search returns -/
def BindR (p f s m : Nat) (w : World) (e : Ending) (w' : World) : Prop :=
  ∃ b l : Nat, ∃ fd : Bool, e = .returned (.tuple #[.int .i64 (b : Int), .int .i64 (l : Int), .bool fd]) ∧ Fnd p f s m (2 ^ s) b l fd ∧ Below w.heap.size w w'
set_option maxRecDepth 100000 in
set_option maxHeartbeats 4000000 in
theorem refBind_of (p f s m : Nat) (w : World) (hs : s ≤ 24) (hp : p < 2 ^ s) (hf : f < 2 ^ s)
    (h1 : ∀ x W, x < 2 ^ s → BoundUp x s m → Calls Try.prog 75 #[.int .i64 (x : Int), .int .i64 (s : Int), .int .i64 (m : Int)] W fun e w' => e = .returned (.bool true) ∧ Below W.heap.size W w')
    (h2 : ∀ x W, x < 2 ^ s → ¬ BoundUp x s m → Calls Try.prog 75 #[.int .i64 (x : Int), .int .i64 (s : Int), .int .i64 (m : Int)] W fun e w' => e = .returned (.bool false) ∧ Below W.heap.size W w') :
    Calls Try.prog 31 #[.int .i64 (p : Int), .int .i64 (f : Int), .int .i64 (s : Int), .int .i64 (m : Int)] w (BindR p f s m w) := by
  have hpw := pow_bdsN s hs
  obtain ⟨hq1, hq2⟩ := pow_bds s hs
  have H1 := Lib.hid h1
  have H2 := Lib.hid h2
  have HP := Lib.hid hp
  have HF := Lib.hid hf
  have HPW := Lib.hid (pow_int s)
  clear h1 h2
  go_enter Try.func31, Try.ntmps31
  go_wp2_with fail
  go_loopw [11, 12, 13, 14] (fun b l d i wr => ∃ X B L : Nat, ∃ fd : Bool, X ≤ 2 ^ s ∧ i = .int .i64 X ∧ b = .int .i64 B ∧ l = .int .i64 L ∧ d = .bool fd ∧ Fnd p f s m X B L fd ∧ Below w.heap.size w wr) (fun _ _ _ i _ => 2 ^ s - (intOf i).toNat)
  case atStart => exact ⟨0, 0, 0, false, Nat.zero_le _, rfl, rfl, rfl, rfl, Fnd.start _ _ _ _, Below.refl _ _⟩
  case round =>
    obtain ⟨X, B, L, fd, hX, rfl, rfl, rfl, rfl, hF, hB⟩ := hrel
    have HFn := Lib.hid hF
    have HB := Lib.hid hB
    clear hF hB
    by_cases hlt : X < 2 ^ s
    · have hX2 : X < 16777216 := by omega
      have hp2 : p < 16777216 := by have := HP.out; omega
      have hf2 : f < 16777216 := by have := HF.out; omega
      have hlt' : (X : Int) < 2 ^ s := by rw [HPW.out]; exact_mod_cast hlt
      have e1 := i64_xor_nat X p (by omega) (by omega)
      have hz : X ^^^ p < 2 ^ s := Nat.xor_lt_two_pow hlt HP.out
      have e2 := i64_and_nat (X ^^^ p) f (by omega) (by omega)
      have hcb := con_bits (f := f) hlt HP.out
      have hpop := pop_24 hs hlt HP.out
      have hham := ham_le p X s
      obtain ⟨Z, hZ⟩ : ∃ Z, Z = X ^^^ p := ⟨_, rfl⟩
      have hzl : Z < 16777216 := by rw [hZ]; omega
      rw [← hZ] at e1 e2 hcb hpop
      obtain ⟨Y, hY⟩ : ∃ Y, Y = Z &&& f := ⟨_, rfl⟩
      rw [← hY] at e2 hcb
      clear hZ hY hz
      by_cases hc : Y = 0
      · have hne : ((Y : Int) != 0) = false := by simp [hc]
        have hc0 := hcb.2 hc
        clear hcb hc
        by_cases hb : BoundUp X s m
        · have HBd := Lib.hid (H1.out X wr hlt hb)
          have HO := Lib.hid (show OkRow p f s m X from ⟨hc0, hb⟩)
          have HZ := Lib.hid hpop
          have HHm := Lib.hid hham
          clear hb hc0 hpop hham
          go_wp2_with fail
          refine HBd.out.mono ?_
          rintro e w1 ⟨rfl, hb1⟩
          have HB2 := Lib.hid (HB.out.trans (hb1.mono HB.out.size))
          clear hb1
          go_wp2_with fail
          refine (refBits_any Z _ hzl).mono ?_
          rintro e w2 ⟨rfl, rfl⟩
          rw [HZ.out]
          obtain ⟨n, hn⟩ : ∃ n, n = ham p X s := ⟨_, rfl⟩
          rw [← hn]
          have HN := Lib.hid hn
          have hnl : n ≤ 24 := by have := HHm.out; rw [← hn] at this; omega
          clear hn
          by_cases ht : fd = false ∨ n < L
          · have HT := Lib.hid (HFn.out.take HO.out (fun e => by
            rcases ht with h | h
            · rw [h] at e; simp at e
            · rw [← HN.out]; exact h))
            rw [← HN.out] at HT
            cases fd with
            | false =>
              clear ht e1 e2 hne
              go_wp2_with fail
              go_roundw
              case rel => exact ⟨X + 1, X, n, true, by omega, by go_num, rfl, rfl, rfl, HT.out, HB2.out⟩
              case measure => simp [intOf]; omega
            | true =>
              have hd : decide ((n : Int) < (L : Int)) = true := by
                rcases ht with h | h
                · simp at h
                · simp; omega
              have hd2 : decide (n < L) = true := by
                rcases ht with h | h
                · simp at h
                · simp; omega
              clear ht e1 e2 hne
              go_wp2_with fail
              go_roundw
              case rel => exact ⟨X + 1, X, n, true, by omega, by go_num, rfl, rfl, rfl, HT.out, HB2.out⟩
              case measure => simp [intOf]; omega
          · obtain rfl : fd = true := by
              cases fd
              · exact absurd (.inl rfl) ht
              · rfl
            have hge : ¬ n < L := fun h => ht (.inr h)
            have HT := Lib.hid (HFn.out.keep (show L ≤ ham p X s by rw [← HN.out]; omega))
            have hd : decide ((n : Int) < (L : Int)) = false := by simp; omega
            have hd2 : decide (n < L) = false := by simp; omega
            clear ht hge e1 e2 hne
            go_wp2_with fail
            go_roundw
            case rel => exact ⟨X + 1, B, L, true, by omega, by go_num, rfl, rfl, rfl, HT.out, HB2.out⟩
            case measure => simp [intOf]; omega
        · have HBd := Lib.hid (H2.out X wr hlt hb)
          have HT := Lib.hid (HFn.out.skip (fun h : OkRow p f s m X => hb h.2))
          clear hb hc0 hpop hham
          go_wp2_with fail
          refine HBd.out.mono ?_
          rintro e w1 ⟨rfl, hb1⟩
          have HB2 := Lib.hid (HB.out.trans (hb1.mono HB.out.size))
          clear hb1 e1 e2 hne
          go_wp2_with fail
          go_roundw
          case rel => exact ⟨X + 1, B, L, fd, by omega, by go_num, rfl, rfl, rfl, HT.out, HB2.out⟩
          case measure => simp [intOf]; omega
      · have hne : ((Y : Int) != 0) = true := by simp [hc]
        have HT := Lib.hid (HFn.out.skip (fun h : OkRow p f s m X => hc (hcb.1 h.1)))
        clear hcb hc hpop hham
        go_wp2_with fail
        go_roundw
        case rel => exact ⟨X + 1, B, L, fd, by omega, by go_num, rfl, rfl, rfl, HT.out, HB.out⟩
        case measure => simp [intOf]; omega
    · have hge : ¬ (X : Int) < 2 ^ s := by rw [HPW.out]; intro h; exact hlt (by exact_mod_cast h)
      have HX := Lib.hid (show X = 2 ^ s by omega)
      clear hlt
      go_wp2_with fail
      refine bodyPost_ret (v := .tuple #[.int .i64 (B : Int), .int .i64 (L : Int), .bool fd]) ?_ rfl ⟨B, L, fd, rfl, by rw [← HX.out]; exact HFn.out, HB.out⟩
      simp [results, Try.results31, go_sem]
end Go.Proofs.Ytjobbleabepaiaa
