/- Differ. -/
import Derived.Test.YtdmgffoikebgkaaTb04
import Derived.Test.YtdmgffoikebgkaaTb06
import Derived.Deep.RegionHeld3
import Derived.Test.YtdmgffoikebgkaaTb05
import Derived.Maps.OwnOps
import Derived.Maps.Views
import Derived.DeepKeys4
import Derived.KernelRfl
import Derived.Test.YtdmgffoikebgkaaTb01
import Derived.Test.YtdmgffoikebgkaaTb02
namespace Go.Proofs.Ytdmgffoikebgkaa
open Go.RowKit Go.Shelf

theorem check_two (d e : Dsg) (W : World) (hr : Reads W d.v d.xs) (hs : Reads W e.v e.xs) :
    Calls Try.prog 137 #[.slice (some ⟨W.heap.size, 0, none⟩) 2 2] (W.alloc (.cells #[.int .i64 d.hooks, .slice d.p d.xs.length d.cap, .int .i64 e.hooks, .slice e.p e.xs.length e.cap] 37))
      fun e' w' => e' = .returned (.int .i64 (firstE [d, e])) ∧ Below W.heap.size W w' := by
  refine (check_any W.heap.size 2 [d, e] _ (by simp) (DsAt_two W d e hr hs)).mono ?_
  rintro e' w' ⟨rfl, hb⟩
  exact ⟨rfl, ((Below.refl _ _).alloc (Nat.le_refl _) _).trans (hb.mono (by simp))⟩
end Go.Proofs.Ytdmgffoikebgkaa
/- (after texts BA, BB, BC, BD, BF, ZB, XA of the first seat) What Bind makes: a bound design with the fewest changes; what a bound row is woven as. -/
namespace Go.Proofs.Ytdmgffoikebgkaa
open Go.RowKit

theorem alike_iff {m p : Nat} (hm : 1 ≤ m) (hp : p < 2 ^ m) : alikeB m p = true ↔ ∀ j, j < m → bitN p j = bitN p 0 := by
  unfold alikeB
  rw [Bool.or_eq_true, beq_iff_eq, beq_iff_eq]
  constructor
  · rintro (rfl | rfl) j hj
    · simp [bitN]
    · unfold bitN
      rw [Nat.testBit_two_pow_sub_one, Nat.testBit_two_pow_sub_one]
      simp [hj]; omega
  · intro h
    cases h0 : bitN p 0 with
    | false =>
      left
      apply Nat.eq_of_testBit_eq
      intro j
      rw [Nat.zero_testBit]
      by_cases hj : j < m
      · have := h j hj; rw [h0] at this; exact this
      · exact Nat.testBit_lt_two_pow (Nat.lt_of_lt_of_le hp (Nat.pow_le_pow_right (by decide) (by omega)))
    | true =>
      right
      apply Nat.eq_of_testBit_eq
      intro j
      rw [Nat.testBit_two_pow_sub_one]
      by_cases hj : j < m
      · have := h j hj; rw [h0] at this; rw [show p.testBit j = true from this]; simp [hj]
      · rw [Nat.testBit_lt_two_pow (Nat.lt_of_lt_of_le hp (Nat.pow_le_pow_right (by decide) (by omega)))]; simp [hj]
theorem alike_to {m p k : Nat} (hm : 1 ≤ m) (hp : p < 2 ^ m) (hk : k < m) (h : alikeB m p = true) : ∀ j, j < m → bitN p j = bitN p k := fun j hj =>
  ((alike_iff hm hp).1 h j hj).trans ((alike_iff hm hp).1 h k hk).symm
/-- how many points of two rows are different, and how many of these are fixed -/
def ham (p x : Nat) : Nat → Nat
  | 0 => 0
  | k + 1 => ham p x k + if (bitN p k).toNat = (bitN x k).toNat then 0 else 1
def con (p f x : Nat) : Nat → Nat
  | 0 => 0
  | k + 1 => con p f x k + if (bitN p k).toNat = (bitN x k).toNat then 0 else if bitN f k then 1 else 0
def BoundUp (x s m : Nat) : Prop := ∀ k, k < s → ∃ j, j ≤ m ∧ bitN x ((k + j) % s) ≠ bitN x k
def OkRow (p f s m x : Nat) : Prop := con p f x s = 0 ∧ BoundUp x s m
/-- the cost of the first k points of a row, from the last hook down -/
def cst (p f s : Nat) (y : Nat → Bool) : Nat → Nat
  | 0 => 0
  | k + 1 => putN p f (cst p f s y k) (s - 1 - k) (y k).toNat
theorem cst_congr {p f s : Nat} {y z : Nat → Bool} : ∀ k, (∀ i, i < k → y i = z i) → cst p f s y k = cst p f s z k
  | 0, _ => rfl
  | k + 1, h => by rw [cst, cst, cst_congr k (fun i hi => h i (by omega)), h k (by omega)]
theorem leadC_cst (p f s : Nat) (l : Bool) (y : Nat → Bool) : ∀ k, (∀ i, i < k → y i = l) → leadC p f s l.toNat k = cst p f s y k
  | 0, _ => rfl
  | k + 1, h => by rw [leadC, cst, leadC_cst p f s l y k (fun i hi => h i (by omega)), h k (by omega)]
theorem putN_mono {p f c c' h l : Nat} (hc : c ≤ c') : putN p f c h l ≤ putN p f c' h l := by unfold putN; omega
theorem putN_ge (p f c h l : Nat) : c ≤ putN p f c h l := by unfold putN; omega
theorem nth_set_eq (ys : List Nat) (i v : Nat) (h : i < ys.length) : nthN (ys.set i v) i = v := by
  unfold nthN; simp [h]
theorem nth_set_ne (ys : List Nat) (i j v : Nat) (h : i ≠ j) : nthN (ys.set i v) j = nthN ys j := by
  unfold nthN; rw [List.getElem?_set_ne h]
theorem nth_noTab (i : Nat) (h : i < 48) : nthN noTab i = never := by
  unfold nthN noTab; rw [List.getElem?_replicate, if_pos h]; rfl
theorem not_toNat (a : Bool) : 1 - a.toNat = (!a).toNat := by cases a <;> rfl
/-- the least of some choices with one more point, the other way -/
def mnT (p f h : Nat) (now : List Nat) (a : Bool) (v : Nat) : Nat → Nat
  | 0 => v
  | k + 1 => min (mnT p f h now a v k) (putN p f (nthN now (a.toNat * 24 + (k + 1))) h (!a).toNat)
theorem mnT_le {p f h : Nat} {now : List Nat} {a : Bool} {v : Nat} : ∀ k i, 1 ≤ i → i ≤ k → mnT p f h now a v k ≤ putN p f (nthN now (a.toNat * 24 + i)) h (!a).toNat
  | 0, i, h1, h2 => by omega
  | k + 1, i, h1, h2 => by
    by_cases e : i = k + 1
    · subst e; exact Nat.min_le_right _ _
    · exact Nat.le_trans (Nat.min_le_left _ _) (mnT_le k i h1 (by omega))
theorem mnT_cases {p f h : Nat} {now : List Nat} {a : Bool} {v : Nat} : ∀ k, mnT p f h now a v k = v ∨ ∃ i, 1 ≤ i ∧ i ≤ k ∧ mnT p f h now a v k = putN p f (nthN now (a.toNat * 24 + i)) h (!a).toNat
  | 0 => .inl rfl
  | k + 1 => by
    rw [mnT]
    by_cases e : mnT p f h now a v k ≤ putN p f (nthN now (a.toNat * 24 + (k + 1))) h (!a).toNat
    · rw [Nat.min_eq_left e]
      rcases mnT_cases k with h1 | ⟨i, h1, h2, h3⟩
      · exact .inl h1
      · exact .inr ⟨i, h1, by omega, h3⟩
    · rw [Nat.min_eq_right (by omega)]
      exact .inr ⟨k + 1, by omega, Nat.le_refl _, rfl⟩
section
variable (p f h L : Nat) (now : List Nat) (a : Bool) (next0 : List Nat)
theorem furStep_other (len c d : Nat) (next : List Nat) (h1 : c * 24 + d ≠ a.toNat * 24 + (len + 1)) (h2 : c * 24 + d ≠ (!a).toNat * 24 + 1) : nthN (furStep p f h L now a.toNat len next) (c * 24 + d) = nthN next (c * 24 + d) := by
  unfold furStep
  simp only [not_toNat]
  rw [nth_set_ne _ _ _ _ h2.symm]
  split
  · rw [nth_set_ne _ _ _ _ h1.symm]
  · rfl
theorem furIn_P2 (d : Nat) (hd : 2 ≤ d) (hd2 : d ≤ 23) (hL : L ≤ 23) : ∀ k, k ≤ L → nthN (furIn p f h L now a.toNat next0 k) ((!a).toNat * 24 + d) = nthN next0 ((!a).toNat * 24 + d)
  | 0, _ => rfl
  | k + 1, hk => by
    rw [furIn, furStep_other, furIn_P2 d hd hd2 hL k (by omega)]
    · cases a <;> simp <;> omega
    · cases a <;> simp <;> omega
theorem furIn_P3 (hL : L ≤ 23) : ∀ k, k ≤ L → nthN (furIn p f h L now a.toNat next0 k) (a.toNat * 24 + 1) = nthN next0 (a.toNat * 24 + 1)
  | 0, _ => rfl
  | k + 1, hk => by
    rw [furIn, furStep_other, furIn_P3 hL k (by omega)]
    · omega
    · cases a <;> simp
theorem furIn_P4 (hn : next0.length = 48) (hL : L ≤ 23) : ∀ k, nthN (furIn p f h L now a.toNat next0 k) ((!a).toNat * 24 + 1) = mnT p f h now a (nthN next0 ((!a).toNat * 24 + 1)) k
  | 0 => rfl
  | k + 1 => by
    have hlen := furIn_len p f h L now a.toNat next0 k
    rw [furIn, mnT, ← furIn_P4 hn hL k]
    unfold furStep
    simp only [not_toNat]
    rw [nth_set_eq]
    · congr 1
      split
      · rename_i hk; rw [nth_set_ne]; cases a <;> simp <;> omega
      · rfl
    · have : (!a).toNat ≤ 1 := by cases a <;> simp
      split
      · rw [List.length_set, hlen, hn]; omega
      · rw [hlen, hn]; omega
theorem furIn_P1 (hn : next0.length = 48) (len : Nat) (h1 : 1 ≤ len) (h2 : len < L) (hL : L ≤ 23) : ∀ k, len ≤ k → k ≤ L → nthN (furIn p f h L now a.toNat next0 k) (a.toNat * 24 + (len + 1)) = putN p f (nthN now (a.toNat * 24 + len)) h a.toNat
  | 0, hk, _ => by omega
  | k + 1, hk, hkL => by
    by_cases e : len = k + 1
    · subst e
      have hlen := furIn_len p f h L now a.toNat next0 k
      rw [furIn]
      unfold furStep
      simp only [not_toNat]
      rw [nth_set_ne _ _ _ _ (by cases a <;> simp <;> omega), if_pos h2, nth_set_eq]
      rw [hlen, hn]; cases a <;> simp <;> omega
    · rw [furIn, furStep_other, furIn_P1 hn len h1 h2 hL k (by omega) (by omega)]
      · omega
      · cases a <;> simp <;> omega
end
theorem furN_one (p f h L : Nat) (now : List Nat) (b : Bool) (hL : L ≤ 23) : nthN (furN p f h L now) (b.toNat * 24 + 1) = mnT p f h now (!b) never L := by
  have h0 : (furOut p f h L now 0).length = 48 := furOut_len p f h L now 0
  have h1 : (furOut p f h L now 1).length = 48 := furOut_len p f h L now 1
  unfold furN
  show nthN (furIn p f h L now 1 (furIn p f h L now 0 noTab L) L) _ = _
  cases b with
  | false =>
    have e := furIn_P4 p f h L now true (furIn p f h L now 0 noTab L) h1 hL L
    have e2 := furIn_P3 p f h L now false noTab hL L (Nat.le_refl _)
    simp only [Bool.not_true, Bool.toNat_true, Bool.toNat_false] at e e2
    simp only [Bool.toNat_false, Bool.not_false]
    rw [e, e2, nth_noTab _ (by omega)]
  | true =>
    have e := furIn_P3 p f h L now true (furIn p f h L now 0 noTab L) hL L (Nat.le_refl _)
    have e2 := furIn_P4 p f h L now false noTab h0 hL L
    simp only [Bool.not_false, Bool.toNat_true, Bool.toNat_false] at e e2
    simp only [Bool.toNat_true, Bool.not_true]
    rw [e, e2, nth_noTab _ (by omega)]
theorem furN_more (p f h L : Nat) (now : List Nat) (b : Bool) (len : Nat) (h1 : 1 ≤ len) (h2 : len < L) (hL : L ≤ 23) : nthN (furN p f h L now) (b.toNat * 24 + (len + 1)) = putN p f (nthN now (b.toNat * 24 + len)) h b.toNat := by
  have hl0 : (furOut p f h L now 0).length = 48 := furOut_len p f h L now 0
  have hl1 : (furOut p f h L now 1).length = 48 := furOut_len p f h L now 1
  unfold furN
  show nthN (furIn p f h L now 1 (furIn p f h L now 0 noTab L) L) _ = _
  cases b with
  | false =>
    have e := furIn_P2 p f h L now true (furIn p f h L now 0 noTab L) (len + 1) (by omega) (by omega) hL L (Nat.le_refl _)
    have e2 := furIn_P1 p f h L now false noTab hl0 len h1 h2 hL L (by omega) (Nat.le_refl _)
    simp only [Bool.not_true, Bool.toNat_true, Bool.toNat_false] at e e2
    simp only [Bool.toNat_false]
    rw [e, e2]
  | true =>
    have e := furIn_P1 p f h L now true (furIn p f h L now 0 noTab L) hl1 len h1 h2 hL L (by omega) (Nat.le_refl _)
    simp only [Bool.toNat_true] at e ⊢
    exact e
/-- a row that can be gone on with: its first float, and the one that was chosen last -/
structure Good (lead L : Nat) (l : Bool) (y : Nat → Bool) (k : Nat) (b : Bool) (n : Nat) : Prop where
  top : ∀ i, i < lead → y i = l
  turn : y lead = !l
  n1 : 1 ≤ n
  nL : n ≤ L
  room : lead + n ≤ k
  tail : ∀ i, k - n ≤ i → i < k → y i = b
  brk : y (k - n - 1) = !b
  long : ∀ i, i + L < k → ∃ j, j ≤ L ∧ y (i + j) ≠ y i
theorem Good.step1 {lead L k n : Nat} {l b : Bool} {y z : Nat → Bool} (g : Good lead L l y k b n) (hl : 1 ≤ lead) (hL : 1 ≤ L) (hz : ∀ i, i < k → z i = y i) (hk : z k = !b) : Good lead L l z (k + 1) (!b) 1 := by
  have r := g.room
  have n1 := g.n1
  refine ⟨fun i hi => (hz i (by omega)).trans (g.top i hi), (hz lead (by omega)).trans g.turn, Nat.le_refl _, hL, by omega, fun i h1 h2 => ?_, ?_, fun i hi => ?_⟩
  · obtain rfl : i = k := by omega
    exact hk
  · rw [show k + 1 - 1 - 1 = k - 1 by omega, hz _ (by omega), g.tail _ (by omega) (by omega), Bool.not_not]
  · by_cases e : i + L < k
    · obtain ⟨j, hj, hne⟩ := g.long i e
      exact ⟨j, hj, by rw [hz _ (by omega), hz _ (by omega)]; exact hne⟩
    · have hiL : i + L = k := by omega
      by_cases hb : z i = b
      · exact ⟨L, Nat.le_refl _, by rw [hiL, hk, hb]; cases b <;> simp⟩
      · refine ⟨L - 1, by omega, ?_⟩
        rw [show i + (L - 1) = k - 1 by omega, hz (k - 1) (by omega), g.tail _ (by omega) (by omega)]
        exact fun h => hb h.symm
theorem Good.step2 {lead L k n : Nat} {l b : Bool} {y z : Nat → Bool} (g : Good lead L l y k b n) (hl : 1 ≤ lead) (hn : n < L) (hz : ∀ i, i < k → z i = y i) (hk : z k = b) : Good lead L l z (k + 1) b (n + 1) := by
  have r := g.room
  have n1 := g.n1
  refine ⟨fun i hi => (hz i (by omega)).trans (g.top i hi), (hz lead (by omega)).trans g.turn, by omega, by omega, by omega, fun i h1 h2 => ?_, ?_, fun i hi => ?_⟩
  · by_cases e : i = k
    · subst e; exact hk
    · exact (hz i (by omega)).trans (g.tail i (by omega) (by omega))
  · rw [show k + 1 - (n + 1) - 1 = k - n - 1 by omega, hz _ (by omega)]; exact g.brk
  · by_cases e : i + L < k
    · obtain ⟨j, hj, hne⟩ := g.long i e
      exact ⟨j, hj, by rw [hz _ (by omega), hz _ (by omega)]; exact hne⟩
    · have hiL : i + L = k := by omega
      by_cases hb : z i = b
      · refine ⟨k - n - 1 - i, by omega, ?_⟩
        rw [show i + (k - n - 1 - i) = k - n - 1 by omega, hz _ (by omega), g.brk, hb]
        cases b <;> simp
      · exact ⟨L, Nat.le_refl _, by rw [hiL, hk]; exact fun h => hb h.symm⟩
theorem Good.start {lead L : Nat} {l : Bool} {y : Nat → Bool} (hl : 1 ≤ lead) (hL : lead ≤ L) (h1 : ∀ i, i < lead → y i = l) (h2 : y lead = !l) : Good lead L l y (lead + 1) (!l) 1 := by
  refine ⟨h1, h2, Nat.le_refl _, by omega, Nat.le_refl _, fun i a b => ?_, ?_, fun i hi => ?_⟩
  · obtain rfl : i = lead := by omega
    exact h2
  · rw [show lead + 1 - 1 - 1 = lead - 1 by omega, h1 _ (by omega), Bool.not_not]
  · obtain rfl : i = 0 := by omega
    refine ⟨lead, hL, ?_⟩
    rw [Nat.zero_add, h2, h1 0 (by omega)]; cases l <;> simp
theorem now0_hit (p f s : Nat) (l : Bool) (lead : Nat) (y : Nat → Bool) (h1 : ∀ i, i < lead → y i = l) (h2 : y lead = !l) : nthN (now0 p f s l.toNat lead) ((!l).toNat * 24 + 1) = cst p f s y (lead + 1) := by
  unfold now0
  simp only [not_toNat]
  rw [nth_set_eq _ _ _ (by simp [noTab]; cases l <;> simp), cst, h2, leadC_cst p f s l y lead h1]
theorem now0_miss (p f s : Nat) (l : Bool) (lead : Nat) (b : Bool) (n : Nat) (hn : n ≤ 23) (h : ¬ (b = !l ∧ n = 1)) : nthN (now0 p f s l.toNat lead) (b.toNat * 24 + n) = never := by
  unfold now0
  simp only [not_toNat]
  rw [nth_set_ne, nth_noTab _ (by cases b <;> simp <;> omega)]
  intro e
  refine h ?_
  cases b <;> cases l <;> simp at e ⊢ <;> omega
theorem complete_at (p f s lead L : Nat) (l : Bool) (y : Nat → Bool) (hl : 1 ≤ lead) (hL : lead ≤ L) (hL2 : L ≤ 23) (h1 : ∀ i, i < lead → y i = l) (h2 : y lead = !l) (K : Nat) (hlong : ∀ i, i + L < K → ∃ j, j ≤ L ∧ y (i + j) ≠ y i) :
    ∀ t, lead + 1 + t ≤ K → ∃ b n, Good lead L l y (lead + 1 + t) b n ∧ nthN (nowAt p f s l.toNat lead L t) (b.toNat * 24 + n) ≤ cst p f s y (lead + 1 + t)
  | 0, _ => ⟨!l, 1, Good.start hl hL h1 h2, Nat.le_of_eq (now0_hit p f s l lead y h1 h2)⟩
  | t + 1, hK => by
    obtain ⟨b, n, g, hc⟩ := complete_at p f s lead L l y hl hL hL2 h1 h2 K hlong t (by omega)
    have hhook : s - 1 - lead - (t + 1) = s - 1 - (lead + 1 + t) := by omega
    have ek : lead + 1 + (t + 1) = lead + 1 + t + 1 := by omega
    rw [ek, nowAt, hhook]
    by_cases hb : y (lead + 1 + t) = b
    · have hn : n < L := by
        rcases Nat.lt_or_ge n L with h | h
        · exact h
        · have := g.nL
          have r := g.room
          obtain rfl : n = L := by omega
          obtain ⟨j, hj, hne⟩ := hlong (lead + 1 + t - n) (by omega)
          refine absurd ?_ hne
          rw [g.tail (lead + 1 + t - n) (Nat.le_refl _) (by omega)]
          by_cases e : j = n
          · rw [show lead + 1 + t - n + j = lead + 1 + t by omega]; exact hb
          · exact g.tail _ (by omega) (by omega)
      refine ⟨b, n + 1, g.step2 hl hn (fun _ _ => rfl) hb, ?_⟩
      rw [furN_more _ _ _ _ _ _ _ g.n1 hn hL2, cst, hb]
      exact putN_mono hc
    · have hb' : y (lead + 1 + t) = !b := by revert hb; cases y (lead + 1 + t) <;> cases b <;> simp
      refine ⟨!b, 1, g.step1 hl (by omega) (fun _ _ => rfl) hb', ?_⟩
      rw [furN_one _ _ _ _ _ _ hL2, cst, hb', Bool.not_not]
      exact Nat.le_trans (mnT_le L n g.n1 g.nL) (putN_mono hc)
theorem sound_at (p f s lead L : Nat) (l : Bool) (hl : 1 ≤ lead) (hL : lead ≤ L) (hL2 : L ≤ 23) :
    ∀ t b n, 1 ≤ n → n ≤ L → never ≤ nthN (nowAt p f s l.toNat lead L t) (b.toNat * 24 + n) ∨ ∃ y, Good lead L l y (lead + 1 + t) b n ∧ nthN (nowAt p f s l.toNat lead L t) (b.toNat * 24 + n) = cst p f s y (lead + 1 + t)
  | 0, b, n, h1, h2 => by
    by_cases e : b = !l ∧ n = 1
    · obtain ⟨rfl, rfl⟩ := e
      have a1 : ∀ i, i < lead → (fun i => if i < lead then l else !l) i = l := fun i hi => by simp [hi]
      have a2 : (fun i => if i < lead then l else !l) lead = !l := by simp
      exact .inr ⟨fun i => if i < lead then l else !l, Good.start hl hL a1 a2, now0_hit p f s l lead _ a1 a2⟩
    · exact .inl (Nat.le_of_eq (now0_miss p f s l lead b n (by omega) e).symm)
  | t + 1, b, n, h1, h2 => by
    have hhook : s - 1 - lead - (t + 1) = s - 1 - (lead + 1 + t) := by omega
    have ek : lead + 1 + (t + 1) = lead + 1 + t + 1 := by omega
    rw [ek, nowAt, hhook]
    by_cases e : n = 1
    · subst e
      rw [furN_one _ _ _ _ _ _ hL2]
      rcases mnT_cases (p := p) (f := f) (h := s - 1 - (lead + 1 + t)) (now := nowAt p f s l.toNat lead L t) (a := !b) (v := never) L with hc | ⟨i, i1, i2, hc⟩
      · exact .inl (Nat.le_of_eq hc.symm)
      · rw [hc, Bool.not_not]
        rcases sound_at p f s lead L l hl hL hL2 t (!b) i i1 i2 with hn | ⟨y, g, hy⟩
        · exact .inl (Nat.le_trans hn (putN_ge _ _ _ _ _))
        · refine .inr ⟨fun i => if i = lead + 1 + t then b else y i, ?_, ?_⟩
          · have := g.step1 (z := fun i => if i = lead + 1 + t then b else y i) hl (by omega) (fun i hi => by simp; omega) (by simp)
            rwa [Bool.not_not] at this
          · rw [cst, hy, cst_congr (lead + 1 + t) (fun i hi => (by simp; omega : y i = (fun i => if i = lead + 1 + t then b else y i) i))]
            simp
    · obtain ⟨len, rfl⟩ : ∃ len, n = len + 1 := ⟨n - 1, by omega⟩
      rw [furN_more _ _ _ _ _ _ _ (by omega) (by omega) hL2]
      rcases sound_at p f s lead L l hl hL hL2 t b len (by omega) (by omega) with hn | ⟨y, g, hy⟩
      · exact .inl (Nat.le_trans hn (putN_ge _ _ _ _ _))
      · refine .inr ⟨fun i => if i = lead + 1 + t then b else y i, ?_, ?_⟩
        · exact g.step2 (z := fun i => if i = lead + 1 + t then b else y i) hl (by omega) (fun i hi => by simp; omega) (by simp)
        · rw [cst, hy, cst_congr (lead + 1 + t) (fun i hi => (by simp; omega : y i = (fun i => if i = lead + 1 + t then b else y i) i))]
          simp
theorem bestAt_le1 (m lead : Nat) (l : Bool) (now : List Nat) : ∀ k i, 1 ≤ i → i ≤ k → bestAt m l.toNat lead now k ≤ nthN now ((!l).toNat * 24 + i)
  | 0, i, h1, h2 => by omega
  | k + 1, i, h1, h2 => by
    have hh : bestAt m l.toNat lead now (k + 1) ≤ min (bestAt m l.toNat lead now k) (nthN now ((!l).toNat * 24 + (k + 1))) := by
      simp only [bestAt, not_toNat]; split
      · exact Nat.min_le_left _ _
      · exact Nat.le_refl _
    by_cases e : i = k + 1
    · subst e; exact Nat.le_trans hh (Nat.min_le_right _ _)
    · exact Nat.le_trans hh (Nat.le_trans (Nat.min_le_left _ _) (bestAt_le1 m lead l now k i h1 (by omega)))
theorem bestAt_le2 (m lead : Nat) (l : Bool) (now : List Nat) : ∀ k i, 1 ≤ i → i ≤ k → lead + i ≤ m → bestAt m l.toNat lead now k ≤ nthN now (l.toNat * 24 + i)
  | 0, i, h1, h2, _ => by omega
  | k + 1, i, h1, h2, h3 => by
    by_cases e : i = k + 1
    · subst e
      simp only [bestAt]; rw [if_pos h3]; exact Nat.min_le_right _ _
    · have ih := bestAt_le2 m lead l now k i h1 (by omega) h3
      simp only [bestAt]
      split <;> omega
theorem bestAt_cases (m lead : Nat) (l : Bool) (now : List Nat) : ∀ k, bestAt m l.toNat lead now k = never ∨ (∃ i, 1 ≤ i ∧ i ≤ k ∧ bestAt m l.toNat lead now k = nthN now ((!l).toNat * 24 + i)) ∨ ∃ i, 1 ≤ i ∧ i ≤ k ∧ lead + i ≤ m ∧ bestAt m l.toNat lead now k = nthN now (l.toNat * 24 + i)
  | 0 => .inl rfl
  | k + 1 => by
    have hs : ∀ v, (v = bestAt m l.toNat lead now k ∨ v = nthN now ((!l).toNat * 24 + (k + 1)) ∨ (lead + (k + 1) ≤ m ∧ v = nthN now (l.toNat * 24 + (k + 1)))) →
        v = never ∨ (∃ i, 1 ≤ i ∧ i ≤ k + 1 ∧ v = nthN now ((!l).toNat * 24 + i)) ∨ ∃ i, 1 ≤ i ∧ i ≤ k + 1 ∧ lead + i ≤ m ∧ v = nthN now (l.toNat * 24 + i) := by
      rintro v (rfl | h | ⟨h1, h⟩)
      · rcases bestAt_cases m lead l now k with h | ⟨i, a, b, h⟩ | ⟨i, a, b, c, h⟩
        · exact .inl h
        · exact .inr (.inl ⟨i, a, by omega, h⟩)
        · exact .inr (.inr ⟨i, a, by omega, c, h⟩)
      · exact .inr (.inl ⟨k + 1, by omega, Nat.le_refl _, h⟩)
      · exact .inr (.inr ⟨k + 1, by omega, Nat.le_refl _, h1, h⟩)
    apply hs
    simp only [bestAt, not_toNat]
    split
    · rename_i hm
      rcases Nat.le_total (min (bestAt m l.toNat lead now k) (nthN now ((!l).toNat * 24 + (k + 1)))) (nthN now (l.toNat * 24 + (k + 1))) with e | e
      · rw [Nat.min_eq_left e]
        rcases Nat.le_total (bestAt m l.toNat lead now k) (nthN now ((!l).toNat * 24 + (k + 1))) with e2 | e2
        · exact .inl (Nat.min_eq_left e2)
        · exact .inr (.inl (Nat.min_eq_right e2))
      · exact .inr (.inr ⟨hm, Nat.min_eq_right e⟩)
    · rcases Nat.le_total (bestAt m l.toNat lead now k) (nthN now ((!l).toNat * 24 + (k + 1))) with e2 | e2
      · exact .inl (Nat.min_eq_left e2)
      · exact .inr (.inl (Nat.min_eq_right e2))
/-- no float of a ring is longer than a bound -/
def BoundR (y : Nat → Bool) (s m : Nat) : Prop := ∀ i, i < s → ∃ j, j ≤ m ∧ y ((i + j) % s) ≠ y i
theorem Good.bound {lead L s m n : Nat} {l b : Bool} {y : Nat → Bool} (g : Good lead L l y s b n) (hLm : L ≤ m) (hLs : L < s) (hlead : lead ≤ L) (hl : 1 ≤ lead) (hb : b = l → lead + n ≤ m) : BoundR y s m := by
  intro i hi
  have r := g.room
  by_cases e : i + L < s
  · obtain ⟨j, hj, hne⟩ := g.long i e
    exact ⟨j, by omega, by rw [Nat.mod_eq_of_lt (by omega)]; exact hne⟩
  · by_cases ha : ∃ j, i + j < s ∧ y (i + j) ≠ y i
    · obtain ⟨j, h1, h2⟩ := ha
      exact ⟨j, by omega, by rw [Nat.mod_eq_of_lt h1]; exact h2⟩
    · have hal : ∀ j, i + j < s → y (i + j) = y i := fun j hj => by
        by_cases h : y (i + j) = y i
        · exact h
        · exact absurd ⟨j, hj, h⟩ ha
      have h1 := hal (s - 1 - i) (by omega)
      rw [show i + (s - 1 - i) = s - 1 by omega, g.tail (s - 1) (by have := g.n1; omega) (by omega)] at h1
      have hge : s - n ≤ i := by
        rcases Nat.lt_or_ge i (s - n) with h | h
        · have h3 := hal (s - n - 1 - i) (by omega)
          rw [show i + (s - n - 1 - i) = s - n - 1 by omega, g.brk, ← h1] at h3
          cases b <;> simp at h3
        · exact h
      by_cases hbl : b = l
      · refine ⟨s - i + lead, by have := hb hbl; omega, ?_⟩
        rw [show i + (s - i + lead) = lead + s by omega, Nat.add_mod_right, Nat.mod_eq_of_lt (by omega), g.turn, ← h1, hbl]
        cases l <;> simp
      · refine ⟨s - i, by have := g.nL; omega, ?_⟩
        rw [show i + (s - i) = 0 + s by omega, Nat.add_mod_right, Nat.mod_eq_of_lt (by omega), g.top 0 (by omega), ← h1]
        exact fun h => hbl h.symm
theorem BoundR.long {y : Nat → Bool} {s m : Nat} (h : BoundR y s m) : ∀ i, i + longestN s m < s → ∃ j, j ≤ longestN s m ∧ y (i + j) ≠ y i := by
  intro i hi
  obtain ⟨j, hj, hne⟩ := h i (by omega)
  unfold longestN at *
  by_cases e : m ≤ s - 1
  · rw [Nat.min_eq_left e] at *
    exact ⟨j, hj, by rwa [Nat.mod_eq_of_lt (by omega)] at hne⟩
  · rw [Nat.min_eq_right (by omega)] at *
    obtain rfl : i = 0 := by omega
    have := Nat.mod_lt (0 + j) (show 0 < s by omega)
    exact ⟨(0 + j) % s, by omega, by rwa [Nat.zero_add ((0 + j) % s)]⟩
theorem BoundR.lead {y : Nat → Bool} {s m : Nat} (h : BoundR y s m) (hs : 1 ≤ s) : ∃ lead, 1 ≤ lead ∧ lead ≤ longestN s m ∧ (∀ i, i < lead → y i = y 0) ∧ y lead = !y 0 := by
  obtain ⟨j, hj, hne⟩ := h 0 (by omega)
  have hlt := Nat.mod_lt (0 + j) (show 0 < s by omega)
  have hle : (0 + j) % s ≤ m := Nat.le_trans (Nat.mod_le _ _) (by omega)
  have key : ∀ q, q < s → q ≤ m → y q ≠ y 0 → ∃ lead, 1 ≤ lead ∧ lead ≤ longestN s m ∧ (∀ i, i < lead → y i = y 0) ∧ y lead = !y 0 := by
    intro q
    induction q using Nat.strongRecOn with
    | ind q ih =>
      intro h1 h2 h3
      by_cases hall : ∀ i, i < q → y i = y 0
      · refine ⟨q, ?_, by unfold longestN; omega, hall, by revert h3; cases y q <;> cases y 0 <;> simp⟩
        rcases Nat.eq_zero_or_pos q with e | e
        · subst e; exact absurd rfl h3
        · exact e
      · simp only [Classical.not_forall] at hall
        obtain ⟨i, hi, hne⟩ := hall
        exact ih i hi (by omega) (by omega) hne
  exact key _ hlt hle hne
theorem withLead_le {p f s m : Nat} {y : Nat → Bool} (hs : s ≤ 24) (h : BoundR y s m) (lead : Nat) (hl : 1 ≤ lead) (hlL : lead ≤ longestN s m) (h1 : ∀ i, i < lead → y i = y 0) (h2 : y lead = !y 0) :
    withLeadN s p f m (y 0).toNat lead ≤ cst p f s y s := by
  have hLs : longestN s m ≤ s - 1 := Nat.min_le_right _ _
  obtain ⟨b, n, g, hc⟩ := complete_at p f s lead (longestN s m) (y 0) y hl hlL (by omega) h1 h2 s (h.long) (s - 1 - lead) (by omega)
  rw [show lead + 1 + (s - 1 - lead) = s by omega] at g hc
  unfold withLeadN
  by_cases hb : b = y 0
  · have hm2 : lead + n ≤ m := by
      have r := g.room
      obtain ⟨j, hj, hne⟩ := h (s - n) (by have := g.n1; omega)
      rw [g.tail (s - n) (Nat.le_refl _) (by have := g.n1; omega)] at hne
      rcases Nat.lt_or_ge m (lead + n) with hlt | hge
      · exfalso
        by_cases hj2 : j < n
        · rw [Nat.mod_eq_of_lt (by omega)] at hne
          exact hne (g.tail _ (by omega) (by omega))
        · rw [show s - n + j = (j - n) + s by omega, Nat.add_mod_right, Nat.mod_eq_of_lt (by omega), h1 _ (by omega)] at hne
          exact hne hb.symm
      · exact hge
    rw [hb] at hc
    exact Nat.le_trans (bestAt_le2 m lead (y 0) _ _ n g.n1 g.nL hm2) hc
  · have hb' : b = !y 0 := by revert hb; cases b <;> cases y 0 <;> simp
    rw [hb'] at hc
    exact Nat.le_trans (bestAt_le1 m lead (y 0) _ _ n g.n1 g.nL) hc
theorem withLead_cases {p f s m : Nat} (l : Bool) (hs : s ≤ 24) (lead : Nat) (hl : 1 ≤ lead) (hlL : lead ≤ longestN s m) :
    never ≤ withLeadN s p f m l.toNat lead ∨ ∃ y, BoundR y s m ∧ withLeadN s p f m l.toNat lead = cst p f s y s := by
  have hLs : longestN s m ≤ s - 1 := Nat.min_le_right _ _
  have hLm : longestN s m ≤ m := Nat.min_le_left _ _
  have hS := sound_at p f s lead (longestN s m) l hl hlL (by omega) (s - 1 - lead)
  rw [show lead + 1 + (s - 1 - lead) = s by omega] at hS
  unfold withLeadN
  rcases bestAt_cases m lead l (nowAt p f s l.toNat lead (longestN s m) (s - 1 - lead)) (longestN s m) with h | ⟨i, a, b, h⟩ | ⟨i, a, b, c, h⟩
  · exact .inl (Nat.le_of_eq h.symm)
  · rw [h]
    rcases hS (!l) i a b with hn | ⟨y, g, hy⟩
    · exact .inl hn
    · exact .inr ⟨y, g.bound hLm (by omega) hlL hl (fun e => by cases l <;> simp at e), hy⟩
  · rw [h]
    rcases hS l i a b with hn | ⟨y, g, hy⟩
    · exact .inl hn
    · exact .inr ⟨y, g.bound hLm (by omega) hlL hl (fun _ => c), hy⟩
theorem bindTo_le_at {s p f m : Nat} : ∀ k lead, 1 ≤ lead → lead ≤ k → ∀ b : Bool, bindTo s p f m k ≤ withLeadN s p f m b.toNat lead
  | 0, lead, h1, h2, _ => by omega
  | k + 1, lead, h1, h2, b => by
    simp only [bindTo]
    by_cases e : lead = k + 1
    · subst e; cases b <;> simp <;> omega
    · have := bindTo_le_at (s := s) (p := p) (f := f) (m := m) k lead h1 (by omega) b
      omega
theorem bindTo_cases {s p f m : Nat} : ∀ k, bindTo s p f m k = never ∨ ∃ lead, ∃ b : Bool, 1 ≤ lead ∧ lead ≤ k ∧ bindTo s p f m k = withLeadN s p f m b.toNat lead
  | 0 => .inl rfl
  | k + 1 => by
    simp only [bindTo]
    rcases Nat.le_total (min (bindTo s p f m k) (withLeadN s p f m 0 (k + 1))) (withLeadN s p f m 1 (k + 1)) with e | e
    · rw [Nat.min_eq_left e]
      rcases Nat.le_total (bindTo s p f m k) (withLeadN s p f m 0 (k + 1)) with e2 | e2
      · rw [Nat.min_eq_left e2]
        rcases bindTo_cases (s := s) (p := p) (f := f) (m := m) k with h | ⟨lead, b, h1, h2, h⟩
        · exact .inl h
        · exact .inr ⟨lead, b, h1, by omega, h⟩
      · rw [Nat.min_eq_right e2]; exact .inr ⟨k + 1, false, by omega, Nat.le_refl _, rfl⟩
    · rw [Nat.min_eq_right e]; exact .inr ⟨k + 1, true, by omega, Nat.le_refl _, rfl⟩
/-- no bound row costs less -/
theorem bindN_least {p f s m : Nat} {y : Nat → Bool} (hs : 1 ≤ s) (hs2 : s ≤ 24) (h : BoundR y s m) : bindN s p f m ≤ cst p f s y s := by
  obtain ⟨lead, hl, hlL, h1, h2⟩ := h.lead hs
  exact Nat.le_trans (bindTo_le_at _ lead hl hlL (y 0)) (withLead_le hs2 h lead hl hlL h1 h2)
/-- what bind returns is the cost of a bound row, if it is possible -/
theorem bindN_row {p f s m : Nat} (hs2 : s ≤ 24) : never ≤ bindN s p f m ∨ ∃ y, BoundR y s m ∧ bindN s p f m = cst p f s y s := by
  unfold bindN
  rcases bindTo_cases (s := s) (p := p) (f := f) (m := m) (longestN s m) with h | ⟨lead, b, h1, h2, h⟩
  · exact .inl (Nat.le_of_eq h.symm)
  · rw [h]; exact withLead_cases b hs2 lead h1 h2
/-- the points of a row, from the last hook down -/
def topDown (s x i : Nat) : Bool := bitN x (s - 1 - i)
theorem mod_bit (x k : Nat) : x % 2 ^ (k + 1) = x % 2 ^ k + (bitN x k).toNat * 2 ^ k := by
  have h1 : (bitN x k).toNat = x / 2 ^ k % 2 := by unfold bitN; rw [Nat.toNat_testBit]
  rw [h1, Nat.mod_pow_succ, Nat.mul_comm]
theorem cst_up (p f s x : Nat) : ∀ k, k ≤ s → cst p f s (topDown s x) k + change * ham p x (s - k) + never * con p f x (s - k) + x % 2 ^ (s - k) = change * ham p x s + never * con p f x s + x % 2 ^ s
  | 0, _ => by simp [cst]
  | k + 1, hk => by
    have ih := cst_up p f s x k (by omega)
    obtain ⟨h, hh⟩ : ∃ h, h = s - (k + 1) := ⟨_, rfl⟩
    have e1 : s - k = h + 1 := by omega
    have e2 : s - 1 - k = h := by omega
    have e3 : topDown s x k = bitN x h := by unfold topDown; rw [e2]
    rw [e1, ham, con, mod_bit] at ih
    rw [cst, putN, e2, e3, ← hh]
    generalize cst p f s (topDown s x) k = C at *
    generalize ham p x h = H at *
    generalize con p f x h = G at *
    generalize change * ham p x s + never * con p f x s + x % 2 ^ s = R at *
    generalize x % 2 ^ h = M at *
    generalize (bitN x h).toNat * 2 ^ h = Q at *
    unfold change never at *
    by_cases a : (bitN p h).toNat = (bitN x h).toNat
    · simp only [if_pos a] at ih ⊢; omega
    · by_cases c : bitN f h = true
      · simp only [if_neg a, if_pos c] at ih ⊢; omega
      · simp only [if_neg a, if_neg c] at ih ⊢; omega
theorem cst_row (p f s x : Nat) (hx : x < 2 ^ s) : cst p f s (topDown s x) s = change * ham p x s + never * con p f x s + x := by
  have := cst_up p f s x s (Nat.le_refl _)
  rw [Nat.sub_self, Nat.mod_eq_of_lt hx] at this
  simp [ham, con, Nat.mod_one] at this
  exact this
/-- the row of points that were chosen from the last hook down -/
def rowDown (s : Nat) (y : Nat → Bool) : Nat := rowTo (fun j => y (s - 1 - j)) s
theorem rowDown_lt (s : Nat) (y : Nat → Bool) : rowDown s y < 2 ^ s := rowTo_lt _ _
theorem topDown_row (s : Nat) (y : Nat → Bool) (i : Nat) (hi : i < s) : topDown s (rowDown s y) i = y i := by
  unfold topDown rowDown bitN
  rw [rowTo_bit]
  have e : s - 1 - (s - 1 - i) = i := by omega
  simp [e]; omega
theorem cst_down (p f s : Nat) (y : Nat → Bool) : cst p f s y s = change * ham p (rowDown s y) s + never * con p f (rowDown s y) s + rowDown s y := by
  rw [← cst_row p f s _ (rowDown_lt s y)]
  exact cst_congr s fun i hi => (topDown_row s y i hi).symm
theorem add_mod2 {a b s : Nat} (ha : a < s) (hb : b < s) : (a + b) % s = if a + b < s then a + b else a + b - s := by
  split
  · rename_i h; exact Nat.mod_eq_of_lt h
  · rw [Nat.mod_eq_sub_mod (by omega), Nat.mod_eq_of_lt (by omega)]
theorem mod_short {i j s : Nat} : (i + j % s) % s = (i + j) % s := by rw [Nat.add_mod_mod]
theorem bound_down {x s m : Nat} (h : BoundUp x s m) : BoundR (topDown s x) s m := by
  intro i hi
  unfold topDown
  obtain ⟨q, hq⟩ : ∃ q, q = s - 1 - i := ⟨_, rfl⟩
  rw [← hq]
  by_cases hm : m < s
  · obtain ⟨k, hk⟩ : ∃ k, k = if m ≤ q then q - m else q + s - m := ⟨_, rfl⟩
    have hks : k < s := by rw [hk]; split <;> omega
    obtain ⟨j, hj, hne⟩ := h k hks
    by_cases hb : bitN x k = bitN x q
    · refine ⟨m - j, by omega, ?_⟩
      rw [add_mod2 hks (by omega)] at hne
      rw [add_mod2 hi (by omega), ← hb]
      have e : s - 1 - (if i + (m - j) < s then i + (m - j) else i + (m - j) - s) = if k + j < s then k + j else k + j - s := by
        revert hk; split <;> split <;> split <;> omega
      rw [e]; exact hne
    · refine ⟨m, Nat.le_refl _, ?_⟩
      rw [add_mod2 hi hm]
      have e : s - 1 - (if i + m < s then i + m else i + m - s) = k := by
        revert hk; split <;> split <;> omega
      rw [e]; exact hb
  · obtain ⟨j, hj, hne⟩ := h q (by omega)
    rw [← mod_short] at hne
    have hjs := Nat.mod_lt j (show 0 < s by omega)
    generalize j % s = t at hne hjs
    have ht : t ≠ 0 := by
      rintro rfl
      rw [Nat.add_zero, Nat.mod_eq_of_lt (by omega)] at hne
      exact hne rfl
    refine ⟨s - t, by omega, ?_⟩
    rw [add_mod2 (by omega) hjs] at hne
    rw [add_mod2 hi (by omega)]
    have e : s - 1 - (if i + (s - t) < s then i + (s - t) else i + (s - t) - s) = if q + t < s then q + t else q + t - s := by
      split <;> split <;> omega
    rw [e]; exact hne
theorem bound_up {x s m : Nat} (h : BoundR (topDown s x) s m) : BoundUp x s m := by
  intro k hk
  have h : ∀ i, i < s → ∃ j, j ≤ m ∧ bitN x (s - 1 - (i + j) % s) ≠ bitN x (s - 1 - i) := h
  by_cases hm : m < s
  · obtain ⟨q, hq⟩ : ∃ q, q = if k + m < s then k + m else k + m - s := ⟨_, rfl⟩
    have hqs : q < s := by rw [hq]; split <;> omega
    obtain ⟨j, hj, hne⟩ := h (s - 1 - q) (by omega)
    rw [show s - 1 - (s - 1 - q) = q by omega] at hne
    by_cases hb : bitN x q = bitN x k
    · refine ⟨m - j, by omega, ?_⟩
      rw [add_mod2 (by omega) (by omega)] at hne
      rw [add_mod2 hk (by omega), ← hb]
      have e : (if k + (m - j) < s then k + (m - j) else k + (m - j) - s) = s - 1 - (if s - 1 - q + j < s then s - 1 - q + j else s - 1 - q + j - s) := by
        revert hq; split <;> split <;> split <;> omega
      rw [e]; exact hne
    · refine ⟨m, Nat.le_refl _, ?_⟩
      rw [add_mod2 hk hm, ← hq]; exact hb
  · obtain ⟨j, hj, hne⟩ := h (s - 1 - k) (by omega)
    rw [show s - 1 - (s - 1 - k) = k by omega] at hne
    rw [← mod_short] at hne
    have hjs := Nat.mod_lt j (show 0 < s by omega)
    generalize j % s = t at hne hjs
    have ht : t ≠ 0 := by
      rintro rfl
      rw [Nat.add_zero, Nat.mod_eq_of_lt (show s - 1 - k < s by omega), show s - 1 - (s - 1 - k) = k by omega] at hne
      exact hne rfl
    refine ⟨s - t, by omega, ?_⟩
    rw [add_mod2 (by omega) hjs] at hne
    rw [add_mod2 hk (by omega)]
    have e : (if k + (s - t) < s then k + (s - t) else k + (s - t) - s) = s - 1 - (if s - 1 - k + t < s then s - 1 - k + t else s - 1 - k + t - s) := by
      split <;> split <;> omega
    rw [e]; exact hne
theorem bound_congr {y z : Nat → Bool} {s m : Nat} (h : ∀ i, i < s → y i = z i) (hb : BoundR y s m) : BoundR z s m := fun i hi => by
  obtain ⟨j, hj, hne⟩ := hb i hi
  exact ⟨j, hj, by rw [← h _ (Nat.mod_lt _ (by omega)), ← h i hi]; exact hne⟩
theorem bindN_le_row {p f s m x : Nat} (hs : 1 ≤ s) (hs2 : s ≤ 24) (hx : x < 2 ^ s) (h : OkRow p f s m x) : bindN s p f m ≤ change * ham p x s + x := by
  have := bindN_least (p := p) (f := f) hs hs2 (bound_down h.2)
  rwa [cst_row p f s x hx, h.1] at this
theorem bindN_is_row {p f s m : Nat} (hs2 : s ≤ 24) (h : bindN s p f m < never) : ∃ x, x < 2 ^ s ∧ OkRow p f s m x ∧ bindN s p f m = change * ham p x s + x := by
  rcases bindN_row (p := p) (f := f) (m := m) hs2 with hn | ⟨y, hb, hc⟩
  · omega
  · rw [cst_down] at hc
    have h0 : con p f (rowDown s y) s = 0 := by
      rcases Nat.eq_zero_or_pos (con p f (rowDown s y) s) with e | e
      · exact e
      · have : never * 1 ≤ never * con p f (rowDown s y) s := Nat.mul_le_mul_left _ e
        omega
    rw [h0] at hc
    refine ⟨rowDown s y, rowDown_lt s y, ⟨h0, bound_up (bound_congr (fun i hi => (topDown_row s y i hi).symm) hb)⟩, hc⟩
theorem bindRows_nth {n m : Nat} {ys ks : List Nat} {N i : Nat} (hi : i < N) : nthN (bindRows n m ys ks N) i = bindN n (nthN ys i) (nthN ks i) m % change := by
  rw [nthN_get _ _ (by rw [bindRows_len]; exact hi)]
  unfold bindRows
  simp only [List.getElem_map, List.getElem_range]
  rfl
end Go.Proofs.Ytdmgffoikebgkaa
/- TopBound: which rows can be bound; Bind, Floats and Differ for its designs; a byte. -/
namespace Go.Proofs.Ytdmgffoikebgkaa
open Go.RowKit Go.Shelf
attribute [local go_sem] Oper.semAt_some

theorem con_zero {p f x : Nat} : ∀ k, con p f x k = 0 ↔ ∀ j, j < k → bitN p j ≠ bitN x j → bitN f j = false
  | 0 => by simp [con]
  | k + 1 => by
    rw [con, Nat.add_eq_zero_iff, con_zero k]
    constructor
    · rintro ⟨h1, h2⟩ j hj hne
      by_cases e : j = k
      · subst e
        by_cases hf : bitN f j = true
        · exfalso
          have : ¬ (bitN p j).toNat = (bitN x j).toNat := by revert hne; cases bitN p j <;> cases bitN x j <;> simp
          rw [if_neg this, if_pos hf] at h2
          omega
        · simpa using hf
      · exact h1 j (by omega) hne
    · intro h
      refine ⟨fun j hj => h j (by omega), ?_⟩
      split
      · rfl
      · rename_i hne
        rw [h k (by omega) (fun e => hne (by rw [e]))]; rfl
theorem ham_le (p x : Nat) : ∀ k, ham p x k ≤ k
  | 0 => Nat.le_refl _
  | k + 1 => by have := ham_le p x k; rw [ham]; split <;> omega
end Go.Proofs.Ytdmgffoikebgkaa
