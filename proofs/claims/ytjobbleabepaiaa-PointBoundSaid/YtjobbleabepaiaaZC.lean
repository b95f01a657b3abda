/- Bound of the reference. -/
import Derived.Test.YtjobbleabepaiaaZB
import Derived.Test.YtjobbleabepaiaaXA
namespace Go.Proofs.Ytjobbleabepaiaa
open Go.RowKit

theorem len_of_bound {s x m k : Nat} (hx : x < 2 ^ s) (h : BoundUp x s m) (hk : k < s) : lenAt s x k ≤ m := by
  unfold lenAt
  split
  · rename_i hb
    obtain ⟨⟨h1, h2⟩, h3, h4⟩ := lenF_spec (by omega) hb hk
    obtain ⟨j, hj, hne⟩ := h k hk
    rcases Nat.lt_or_ge j (lenF s x k) with hlt | hge
    · exfalso
      rcases Nat.eq_zero_or_pos j with e | e
      · subst e; rw [Nat.add_zero, Nat.mod_eq_of_lt hk] at hne; exact hne rfl
      · exact hne (h3 j e hlt)
    · omega
  · split
    · rename_i ha
      obtain ⟨ha, rfl⟩ := ha
      obtain ⟨j, hj, hne⟩ := h 0 hk
      exact absurd (alike_to (by omega) hx hk ha _ (Nat.mod_lt _ (by omega))) hne
    · omega
theorem bound_of_len {s x m : Nat} (hx : x < 2 ^ s) (hm : m < 1000) (h : ∀ k, k < s → lenAt s x k ≤ m) : BoundUp x s m := by
  intro k hk
  have hna : alikeB s x = false := by
    cases ha : alikeB s x with
    | false => rfl
    | true =>
      have h0 := h 0 (by omega)
      unfold lenAt at h0
      have hb : begins s x 0 = false := by
        cases hb : begins s x 0 with
        | false => rfl
        | true => have := begins_not_alike (by omega) hx (by omega : 0 < s) hb; rw [ha] at this; simp at this
      rw [hb, ha] at h0
      simp at h0; omega
  have key : ∀ d t k, k < s → d + t = s → m ≤ t → (∀ j, j ≤ t → bitN x ((k + j) % s) = bitN x k) → False := by
    intro d
    induction d with
    | zero =>
      intro t k hk e hmt hw
      have : alikeB s x = true := alike_from (k := k) (by omega) hx fun j hj => by
        rcases Nat.lt_or_ge j k with h1 | h1
        · have := hw (j + s - k) (by omega)
          rwa [show k + (j + s - k) = j + s by omega, Nat.add_mod_right, Nat.mod_eq_of_lt hj] at this
        · have := hw (j - k) (by omega)
          rwa [show k + (j - k) = j by omega, Nat.mod_eq_of_lt hj] at this
      rw [hna] at this; simp at this
    | succ d ih =>
      intro t k hk e hmt hw
      cases hb : begins s x k with
      | true =>
        obtain ⟨⟨h1, h2⟩, h3, h4⟩ := lenF_spec (by omega) hb hk
        have hl := h k hk
        unfold lenAt at hl
        rw [if_pos hb] at hl
        exact h4 (hw _ (by omega))
      | false =>
        have hq : bitN x ((k + s - 1) % s) = bitN x k := by simpa [begins] using hb
        refine ih (t + 1) ((k + s - 1) % s) (Nat.mod_lt _ (by omega)) (by omega) (by omega) fun j hj => ?_
        rw [Nat.mod_add_mod, hq]
        rcases Nat.eq_zero_or_pos j with e0 | e0
        · subst e0; rw [Nat.add_zero]; exact hq
        · rw [show k + s - 1 + j = k + (j - 1) + s by omega, Nat.add_mod_right]
          exact hw _ (by omega)
  refine Classical.byContradiction fun hn => ?_
  have hw : ∀ j, j ≤ m → bitN x ((k + j) % s) = bitN x k := fun j hj => Classical.byContradiction fun hne => hn ⟨j, hj, hne⟩
  rcases Nat.lt_or_ge m s with hms | hms
  · exact key (s - m) m k hk (by omega) (Nat.le_refl _) hw
  · have : alikeB s x = true := alike_from (k := k) (by omega) hx fun j hj => by
      rcases Nat.lt_or_ge j k with h1 | h1
      · have := hw (j + s - k) (by omega)
        rwa [show k + (j + s - k) = j + s by omega, Nat.add_mod_right, Nat.mod_eq_of_lt hj] at this
      · have := hw (j - k) (by omega)
        rwa [show k + (j - k) = j by omega, Nat.mod_eq_of_lt hj] at this
    rw [hna] at this; simp at this
/-- whether a row is bound -/
def BoundB (s x m : Nat) (w : World) (e : Ending) (w' : World) : Prop :=
  ∃ b : Bool, e = .returned (.bool b) ∧ (b = true ↔ BoundUp x s m) ∧ Below w.heap.size w w'

set_option maxRecDepth 100000 in
set_option maxHeartbeats 4000000 in
theorem refBound_any (s x m : Nat) (w : World) (hs1 : 1 ≤ s) (hs : s ≤ 24) (hx : x < 2 ^ s) (hm : m < 1000) :
    Calls Try.prog 75 #[.int .i64 (x : Int), .int .i64 (s : Int), .int .i64 (m : Int)] w (BoundB s x m w) := by
  have hx2 : x < 16777216 := by have := pow_bdsN s hs; omega
  have HP := Lib.hid (Points_any x s w hx2 (by omega))
  have HX := Lib.hid hx
  have HLe := Lib.hid (fun k (hk : k < s) (h : BoundUp x s m) => len_of_bound (k := k) hx h hk)
  have HOf := Lib.hid (bound_of_len (m := m) hx hm)
  clear hx
  go_enter Try.func75, Try.ntmps75
  go_wp2_with fail
  refine HP.out.mono ?_
  rintro e w1 ⟨b, c, rfl, hb1, hB1, hbl⟩
  have HBo := Lib.hid hB1
  have HBl := Lib.hid hbl
  clear hB1 hbl hb1
  go_wp2_with fail
  go_loopw [8] (fun i wr => ∃ k : Nat, k ≤ s ∧ i = .int .i64 k ∧ (∀ j, j < k → lenAt s x j ≤ m) ∧ Below w1.heap.size w1 wr) (fun i _ => s - (intOf i).toNat)
  case atStart => exact ⟨0, Nat.zero_le _, rfl, fun j hj => by omega, Below.refl _ _⟩
  case round =>
    obtain ⟨k, hk, rfl, hA, hB⟩ := hrel
    have HA := Lib.hid hA
    have HB := Lib.hid hB
    clear hA hB
    by_cases hlt : k < s
    · have HL := Lib.hid (Length_any b c s x k (bitN x) wr hs1 (by omega) HX.out hlt (HBo.out.below HB.out HBo.out.lt) (fun _ _ => rfl))
      obtain ⟨n, hn⟩ : ∃ n, n = lenAt s x k := ⟨_, rfl⟩
      rw [← hn] at HL
      have HN := Lib.hid hn
      clear hn
      by_cases hd : n ≤ m
      · have hdd : decide ((m : Int) < (n : Int)) = false := by simp; omega
        have hdd2 : decide (m < n) = false := by simp; omega
        have HA2 := Lib.hid (show ∀ j, j < k + 1 → lenAt s x j ≤ m from fun j hj => by
          by_cases e : j = k
          · rw [e, ← HN.out]; exact hd
          · exact HA.out j (by omega))
        clear hd
        go_wp2_with fail
        refine HL.out.mono ?_
        rintro e w2 ⟨rfl, hb2⟩
        have HB2 := Lib.hid (HB.out.trans (hb2.mono HB.out.size))
        clear hb2
        go_wp2_with fail
        go_roundw
        case rel => exact ⟨k + 1, by omega, by go_num, HA2.out, HB2.out⟩
        case measure => simp [intOf]; omega
      · have hdd : decide ((m : Int) < (n : Int)) = true := by simp; omega
        have hdd2 : decide (m < n) = true := by simp; omega
        have HNo := Lib.hid (show ¬ BoundUp x s m from fun h => hd (by rw [HN.out]; exact HLe.out k hlt h))
        clear hd
        go_wp2_with fail
        refine HL.out.mono ?_
        rintro e w2 ⟨rfl, hb2⟩
        have HB2 := Lib.hid (HB.out.trans (hb2.mono HB.out.size))
        clear hb2
        go_wp2_with fail
        go_ret
        exact ⟨false, rfl, by simpa using HNo.out, HBl.out.trans (HB2.out.mono HBl.out.size)⟩
    · have HYes := Lib.hid (show BoundUp x s m from HOf.out (fun j hj => HA.out j (by omega)))
      go_wp2_with fail
      go_ret
      exact ⟨true, rfl, by simpa using HYes.out, HBl.out.trans (HB.out.mono HBl.out.size)⟩
theorem refBind_any (p f s m : Nat) (w : World) (hs1 : 1 ≤ s) (hs : s ≤ 24) (hp : p < 2 ^ s) (hf : f < 2 ^ s) (hm : m < 1000) :
    Calls Try.prog 31 #[.int .i64 (p : Int), .int .i64 (f : Int), .int .i64 (s : Int), .int .i64 (m : Int)] w (BindR p f s m w) :=
  refBind_of p f s m w hs hp hf
    (fun x W hx h => (refBound_any s x m W hs1 hs hx hm).mono fun e w' hh => by
      obtain ⟨b, rfl, hi, hb⟩ := hh
      exact ⟨by rw [hi.2 h], hb⟩)
    (fun x W hx h => (refBound_any s x m W hs1 hs hx hm).mono fun e w' hh => by
      obtain ⟨b, rfl, hi, hb⟩ := hh
      refine ⟨?_, hb⟩
      cases b
      · rfl
      · exact absurd (hi.1 rfl) h)
end Go.Proofs.Ytjobbleabepaiaa
