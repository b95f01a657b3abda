/- TieBound: its mathematics. -/
import Derived.Test.YtdmgffoikebgkaaTb01
import Derived.Test.YtdmgffoikebgkaaTb02
import Derived.Test.YtdmgffoikebgkaaTb03
import Derived.Test.YtdmgffoikebgkaaTb04
import Derived.Test.YtdmgffoikebgkaaTb05
import Derived.Test.YtdmgffoikebgkaaTb06
import Derived.Test.YtdmgffoikebgkaaTb07
import Derived.Test.YtdmgffoikebgkaaTb08
import Derived.Test.YtdmgffoikebgkaaTb09
import Derived.Test.YtdmgffoikebgkaaTb10
import Derived.Test.YtdmgffoikebgkaaTb11
import Derived.Test.YtdmgffoikebgkaaTb12
import Derived.Test.YtdmgffoikebgkaaTb13
import Derived.Test.YtdmgffoikebgkaaTb14
import Derived.Test.YtdmgffoikebgkaaTb15
import Derived.Test.YtdmgffoikebgkaaTb16
import Derived.Test.YtdmgffoikebgkaaTb17
import Derived.Test.YtdmgffoikebgkaaTb18
import Derived.Test.YtdmgffoikebgkaaTb19
import Derived.Test.YtdmgffoikebgkaaTb20
import Derived.Test.YtdmgffoikebgkaaTi01
import Derived.Deep.DeepCutAuto
import Derived.Deep.QuietTactic
import Derived.BigQuiet
namespace Go.Proofs.Ytdmgffoikebgkaa
open Go.RowKit Go.Shelf

/-- the greatest of some numbers -/
def mxL (f : Nat → Nat) : Nat → Nat
  | 0 => 0
  | k + 1 => max (mxL f k) (f k)
theorem mxL_le {f : Nat → Nat} {v : Nat} : ∀ {k : Nat}, (∀ i, i < k → f i ≤ v) → mxL f k ≤ v
  | 0, _ => Nat.zero_le _
  | k + 1, h => Nat.max_le.2 ⟨mxL_le fun i hi => h i (by omega), h k (by omega)⟩
theorem le_mxL {f : Nat → Nat} {i : Nat} : ∀ {k : Nat}, i < k → f i ≤ mxL f k
  | 0, h => by omega
  | k + 1, h => by
    rw [mxL]
    by_cases e : i = k
    · subst e; exact Nat.le_max_right _ _
    · exact Nat.le_trans (le_mxL (show i < k by omega)) (Nat.le_max_left _ _)
/-- how far the points are alike, round the ring -/
def lenR (T x w : Nat) : Nat := ((List.range (T + 1)).find? fun k => bitN x ((w + k) % T) != bitN x w).getD 1000
theorem lenR_cases (T x w : Nat) : (lenR T x w = 1000 ∧ ∀ j, j ≤ T → bitN x ((w + j) % T) = bitN x w) ∨ (lenR T x w ≤ T ∧ (∀ j, j < lenR T x w → bitN x ((w + j) % T) = bitN x w) ∧ bitN x ((w + lenR T x w) % T) ≠ bitN x w) := by
  unfold lenR
  cases h : (List.range (T + 1)).find? fun k => bitN x ((w + k) % T) != bitN x w with
  | none =>
    refine .inl ⟨rfl, fun j hj => ?_⟩
    rw [List.find?_eq_none] at h
    have := h j (by simpa using Nat.lt_succ_of_le hj)
    simpa using this
  | some k =>
    refine .inr ?_
    have h1 := List.mem_of_find?_eq_some h
    have h2 := List.find?_some h
    simp only [List.mem_range] at h1
    refine ⟨Nat.le_of_lt_succ h1, fun j hj => ?_, by simpa using h2⟩
    rw [List.find?_range_eq_some] at h
    have := h.2.2 j hj
    simpa using this
theorem lenR_none {T x w : Nat} (h : ∀ j, j < T + 1 → bitN x ((w + j) % T) = bitN x w) : lenR T x w = 1000 := by
  rcases lenR_cases T x w with ⟨e, _⟩ | ⟨e, _, hn⟩
  · exact e
  · exact absurd (h _ (by omega)) hn
theorem lenR_some {T x w k : Nat} (hk : k ≤ T) (h : ∀ j, j < k → bitN x ((w + j) % T) = bitN x w) (hne : bitN x ((w + k) % T) ≠ bitN x w) : lenR T x w = k := by
  rcases lenR_cases T x w with ⟨_, e⟩ | ⟨_, h1, h2⟩
  · exact absurd (e k hk) hne
  · rcases Nat.lt_trichotomy (lenR T x w) k with e | e | e
    · exact absurd (h _ e) h2
    · exact e
    · exact absurd (h1 _ e) hne
def longL (ps : List Nat) (T L : Nat) : Nat := mxL (fun i => mxL (lenR T (nthN ps i)) T) L
theorem around_nat (hs : List Nat) (w j : Nat) : aroundN hs ((w : Int) + (j : Int)) = nthN hs ((w + j) % hs.length) := by
  unfold aroundN
  have e : ((w : Int) + (j : Int) + (hs.length : Int)).toNat = w + j + hs.length := by omega
  rw [e, Nat.add_mod_right]
theorem lif_le {hs : List Nat} {n m i l : Nat} : ∀ d, Lifts n m (winN hs i (l + d)) → Lifts n m (winN hs i l)
  | 0, h => h
  | d + 1, h => lif_le d (lif_less h)
theorem lif_more {n m q : Nat} (h : Lifts n m q) : Lifts n (m + 1) q := by
  obtain ⟨x, hx, hb, hl⟩ := h
  refine ⟨x, hx, fun k hk => ?_, hl⟩
  obtain ⟨j, hj, hne⟩ := hb k hk
  exact ⟨j, by omega, hne⟩
theorem len_lifts {hs : List Nat} {n m x w k : Nat} (hx : x < 2 ^ n) (hbd : BoundUp x n m) (h0 : 0 < hs.length) (hw : w < hs.length) (h : ∀ j, j < k → bitN (pickP hs x) ((w + j) % hs.length) = bitN (pickP hs x) w) : Lifts n m (winN hs w k) := by
  have hb : ∀ t, t < k → bitN x (aroundN hs ((w : Int) + (t : Int))) = bitN (pickP hs x) w := fun t ht => by
    rw [around_nat, ← pickP_bit hs x _ (Nat.mod_lt _ h0)]
    exact h t ht
  cases hv : bitN (pickP hs x) w with
  | true =>
    refine ⟨_, hx, hbd, fun j hj hq => ?_⟩
    obtain ⟨t, ht, e⟩ := winN_bit _ _ _ _ hq
    rw [← e, hb t ht, hv]
  | false =>
    refine ⟨cmpN n x, rowTo_lt _ n, cmp_bound hbd, fun j hj hq => ?_⟩
    obtain ⟨t, ht, e⟩ := winN_bit _ _ _ _ hq
    rw [cmpN_bit n _ _ hj, ← e, hb t ht, hv]; rfl
def worV (T lo : Nat) : Nat := if lo = T then 1000 else lo
theorem len_le {hs : List Nat} {n m lo row x w : Nat} (hR : WoR hs n m hs.length lo row) (hx : x < 2 ^ n) (hbd : BoundUp x n m) (h1 : hs.length ≤ 1000) (hw : w < hs.length) : lenR hs.length (pickP hs x) w ≤ worV hs.length lo := by
  have hle := hR.le
  unfold worV
  rcases lenR_cases hs.length (pickP hs x) w with ⟨e, h⟩ | ⟨e, h, _⟩
  · by_cases hl : lo = hs.length
    · rw [if_pos hl, e]; exact Nat.le_refl _
    · obtain ⟨d, hd⟩ : ∃ d, hs.length = lo + 1 + d := ⟨hs.length - (lo + 1), by omega⟩
      have := len_lifts (k := hs.length) hx hbd (by omega) hw (fun j hj => h j (by omega))
      have h2 : Lifts n m (winN hs w (lo + 1 + d)) := by rw [← hd]; exact this
      exact (hR.no w hw (by omega) (lif_le d h2)).elim
  · by_cases hl : lo = hs.length
    · rw [if_pos hl]; omega
    · rw [if_neg hl]
      refine Classical.byContradiction fun hc => ?_
      obtain ⟨d, hd⟩ : ∃ d, lenR hs.length (pickP hs x) w = lo + 1 + d := ⟨lenR hs.length (pickP hs x) w - (lo + 1), by omega⟩
      have h2 := len_lifts (k := lenR hs.length (pickP hs x) w) hx hbd (by omega) hw h
      rw [hd] at h2
      exact hR.no w hw (by omega) (lif_le d h2)
theorem long_le {hs xs : List Nat} {n m lo row L : Nat} (hR : WoR hs n m hs.length lo row) (h1 : hs.length ≤ 1000) (hl : xs.length = L) (h : ∀ i, i < L → nthN xs i < 2 ^ n ∧ BoundUp (nthN xs i) n m) : longL (pks hs xs) hs.length L ≤ worV hs.length lo :=
  mxL_le fun i hi => mxL_le fun w hw => by
    rw [pks_nth _ _ (by omega)]
    exact len_le hR (h i hi).1 (h i hi).2 h1 hw
theorem winN_has (hs : List Nat) (f t : Nat) : ∀ l, t < l → bitN (winN hs f l) (aroundN hs ((f : Int) + (t : Int))) = true
  | 0, h => by omega
  | l + 1, h => by
    unfold bitN
    rw [winN, Nat.testBit_or, Bool.or_eq_true]
    by_cases e : t = l
    · subst e; right; rw [Nat.testBit_two_pow]; simp
    · left; exact winN_has hs f t l (by omega)
theorem wor_row {hs : List Nat} {n m lo row : Nat} (hR : WoR hs n m hs.length lo row) (h1 : n ≤ 24) (hk : ∀ i, i < hs.length → nthN hs i < n) (hlo : lo ≠ 0) :
    row < 2 ^ n ∧ BoundUp row n m ∧ ∃ i, i < hs.length ∧ ∀ t, t < lo → bitN row (nthN hs ((i + t) % hs.length)) = true := by
  obtain ⟨i, hi, hlt, hrow⟩ := hR.got hlo
  unfold lifN at hlt hrow
  obtain ⟨x, hx, ⟨hc, hb⟩, he⟩ := bindN_is_row h1 hlt
  have h4 : 2 ^ n ≤ 2 ^ 24 := Nat.pow_le_pow_right (by decide) h1
  have hxr : row = x := by
    rw [hrow, he]
    unfold change
    omega
  rw [hxr]
  refine ⟨hx, hb, i, hi, fun t ht => ?_⟩
  have hq := winN_has hs i t lo ht
  rw [around_nat] at hq
  have hj : nthN hs ((i + t) % hs.length) < n := hk _ (Nat.mod_lt _ (by omega))
  refine Classical.byContradiction fun hne => ?_
  have := (con_zero n).1 hc _ hj (by rw [hq]; exact fun e => hne e.symm)
  rw [hq] at this
  cases this
theorem long_row {hs : List Nat} {n m lo row : Nat} (hR : WoR hs n m hs.length lo row) (h1 : n ≤ 24) (hT : hs.length ≤ 1000) (hk : ∀ i, i < hs.length → nthN hs i < n) (hlo : lo ≠ 0) : longL (pks hs [row]) hs.length 1 = worV hs.length lo := by
  obtain ⟨hx, hb, i, hi, hl⟩ := wor_row hR h1 hk hlo
  refine Nat.le_antisymm (long_le hR hT rfl fun j hj => ?_) ?_
  · obtain rfl : j = 0 := by omega
    exact ⟨hx, hb⟩
  · have e : nthN (pks hs [row]) 0 = pickP hs row := pks_nth _ _ (by simp)
    have hm : lenR hs.length (pickP hs row) i ≤ longL (pks hs [row]) hs.length 1 := by
      refine Nat.le_trans ?_ (le_mxL (f := fun i => mxL (lenR hs.length (nthN (pks hs [row]) i)) hs.length) (show 0 < 1 by decide))
      rw [e]
      exact le_mxL hi
    refine Nat.le_trans ?_ hm
    have hle := hR.le
    have hp : ∀ t, t < lo → bitN (pickP hs row) ((i + t) % hs.length) = true := fun t ht => by
      rw [pickP_bit _ _ _ (Nat.mod_lt _ (by omega))]; exact hl t ht
    have h0 := hp 0 (by omega)
    rw [Nat.add_zero, Nat.mod_eq_of_lt hi] at h0
    unfold worV
    rcases lenR_cases hs.length (pickP hs row) i with ⟨e, _⟩ | ⟨e, h, hne⟩
    · rw [e]; split <;> omega
    · have hge : lo ≤ lenR hs.length (pickP hs row) i := Classical.byContradiction fun hc => hne (by rw [hp _ (by omega), h0])
      by_cases c : lo = hs.length
      · have : lenR hs.length (pickP hs row) i = hs.length := by omega
        rw [this, Nat.add_mod_right, Nat.mod_eq_of_lt hi] at hne
        exact (hne rfl).elim
      · rw [if_neg c]; exact hge
theorem wor_more {hs : List Nat} {n m lo row lo' row' : Nat} (hR : WoR hs n m hs.length lo row) (hR' : WoR hs n (m + 1) hs.length lo' row') (h0 : 1 ≤ n) (h1 : n ≤ 24) (hT : hs.length ≤ 1000) : worV hs.length lo ≤ worV hs.length lo' := by
  have a := hR.le
  have b := hR'.le
  have key : lo ≤ lo' := Classical.byContradiction fun hc => by
    obtain ⟨i, hi, hlt, _⟩ := hR.got (by omega)
    have h2 := lif_more ((lif_iff h0 h1).1 hlt)
    obtain ⟨d, hd⟩ : ∃ d, lo = lo' + 1 + d := ⟨lo - (lo' + 1), by omega⟩
    rw [hd] at h2
    exact hR'.no i hi (by omega) (lif_le d h2)
  unfold worV
  split <;> split <;> omega
theorem wor_zero {hs : List Nat} {n m lo row : Nat} (hR : WoR hs n m hs.length lo row) (h0 : 0 < hs.length) (hk : ∀ i, i < hs.length → nthN hs i < n) (hlo : lo = 0) (x : Nat) (hx : x < 2 ^ n) : ¬ BoundUp x n m := fun hb => by
  subst hlo
  refine hR.no 0 h0 h0 ?_
  refine len_lifts (x := x) hx hb h0 h0 fun j hj => ?_
  obtain rfl : j = 0 := by omega
  rw [Nat.zero_add, Nat.zero_mod]
theorem bind_some {n m p : Nat} (h0 : 1 ≤ n) (h1 : n ≤ 24) {x : Nat} (hx : x < 2 ^ n) (hb : BoundUp x n m) : bindN n p 0 m < never := by
  have := bindN_le_row (p := p) (f := 0) (x := x) h0 h1 hx ⟨con_free _ _ _, hb⟩
  have h3 := ham_le p x n
  have h4 : 2 ^ n ≤ 2 ^ 24 := Nat.pow_le_pow_right (by decide) h1
  unfold never change at *
  omega
theorem bind_none {n m p : Nat} (h1 : n ≤ 24) (h : ∀ x, x < 2 ^ n → ¬ BoundUp x n m) : bindN n p 0 m = never := by
  refine Classical.byContradiction fun hne => ?_
  have hlt : bindN n p 0 m < never := Nat.lt_of_le_of_ne (bindN_le _ _ _ _) hne
  obtain ⟨x, hx, ⟨_, hb2⟩, _⟩ := bindN_is_row h1 hlt
  exact h x hx hb2
end Go.Proofs.Ytdmgffoikebgkaa
/- The longest float of a cloth along its picks, as chapter 3's statements count it. -/
namespace Go.Proofs.Ytdmgffoikebgkaa
open Go.RowKit Go.Shelf
attribute [local go_sem] Oper.semAt_some

structure LgS (w : World) (b : Nat) (ss : List ByteArray) (W : World) : Prop where
  s : StrsAt W b 0 ss
  l : b < W.heap.size
  b : Below w.heap.size w W
theorem LgS.next {w W W' : World} {b : Nat} {ss : List ByteArray} (h : LgS w b ss W) (hb : Below W.heap.size W W') : LgS w b ss W' :=
  ⟨h.s.below hb h.l, Nat.lt_of_lt_of_le h.l hb.size, h.b.trans (hb.mono h.b.size)⟩
theorem al_one {pk j n q : Nat} (hj : j < n) (hq : q < 1) : bitN pk ((j + q) % n) = bitN pk j := by
  obtain rfl : q = 0 := by omega
  rw [Nat.add_zero, Nat.mod_eq_of_lt hj]
theorem al_succ {pk j n d : Nat} (h : ∀ q, q < d → bitN pk ((j + q) % n) = bitN pk j) (hd : bitN pk ((j + d) % n) = bitN pk j) : ∀ q, q < d + 1 → bitN pk ((j + q) % n) = bitN pk j := fun q hq => by
  by_cases e : q = d
  · subst e; exact hd
  · exact h q (by omega)
set_option maxRecDepth 100000 in
set_option maxHeartbeats 2000000 in
theorem tieLongest_ok (n L b c : Nat) (ss : List ByteArray) (ps : List Nat) (w : World) (hn0 : 1 ≤ n) (hn1 : n ≤ 96) (hl : L ≤ 60) (hC : ClS ss n ps) (hL : ps.length = L) (h1 : StrsAt w b 0 ss) (h2 : b < w.heap.size) :
    Calls Try.prog 70 #[.slice (some ⟨b, 0, none⟩) L c] w fun e w' => e = .returned (.int .i64 (longL ps n L : Int)) ∧ Below w.heap.size w w' := by
  have H := Lib.hid (show LgS w b ss w from ⟨h1, h2, Below.refl _ _⟩)
  have HC := Lib.hid hC
  have HL := Lib.hid hL
  clear h1 h2 hC hL
  go_enter Try.func70, Try.ntmps70
  go_wp2_with fail
  go_loopw [3, 4] (fun s i wr => ∃ k : Nat, k ≤ L ∧ i = .int .i64 (k : Int) ∧ s = .int .i64 (longL ps n k : Int) ∧ LgS w b ss wr) (fun _ i _ => L - (intOf i).toNat)
  case atStart => exact ⟨0, Nat.zero_le _, rfl, rfl, H.out⟩
  case round =>
    obtain ⟨k, hk, rfl, rfl, hS⟩ := hrel
    have HS := Lib.hid hS
    clear hS
    by_cases hlt : k < L
    · have hc := HS.out.s k (by rw [HC.out.len, HL.out]; exact hlt)
      rw [Nat.zero_add] at hc
      have hsb := HC.out.str k (by rw [HL.out]; exact hlt)
      obtain ⟨s, hs⟩ : ∃ s, nthB ss k = s := ⟨_, rfl⟩
      obtain ⟨pk, hpk⟩ : ∃ pk, nthN ps k = pk := ⟨_, rfl⟩
      have hlong : longL ps n (k + 1) = max (longL ps n k) (mxL (lenR n pk) n) := by
        rw [← hpk]; rfl
      have Hlong := Lib.hid hlong
      have Hs := Lib.hid hs
      rw [hs] at hc hsb
      rw [hpk] at hsb
      have Hsb := Lib.hid hsb
      clear hlong hpk hsb hs
      go_upto_region 6 with fail
      rw [Hsb.out.size]
      clear hc
      obtain ⟨M, hM⟩ : ∃ M, longL ps n k = M := ⟨_, rfl⟩
      have HM := Lib.hid hM
      rw [hM]
      clear hM
      go_wp2_with fail
      go_loopw [3, 6] (fun s i wz => ∃ j : Nat, j ≤ n ∧ i = .int .i64 (j : Int) ∧ s = .int .i64 ((max M (mxL (lenR n pk) j) : Nat) : Int) ∧ LgS w b ss wz) (fun _ i _ => n - (intOf i).toNat)
      case atStart => exact ⟨0, Nat.zero_le _, rfl, by simp [mxL], HS.out⟩
      case round =>
        obtain ⟨j, hj, rfl, rfl, hS⟩ := hrel
        have HS2 := Lib.hid hS
        clear hS
        obtain ⟨V, hV⟩ : ∃ V, max M (mxL (lenR n pk) j) = V := ⟨_, rfl⟩
        have HV := Lib.hid hV
        rw [hV]
        have Hval := Lib.hid (show ∀ x, lenR n pk j = x → max M (mxL (lenR n pk) (j + 1)) = max V x from fun x hx => by rw [mxL, hx, ← hV]; omega)
        clear hV
        by_cases hjn : j < n
        · go_upto_region 9 with fail
          go_wp2_with fail
          go_loopw [7] (fun i wy => ∃ d : Nat, d ≤ n + 1 ∧ i = .int .i64 (d : Int) ∧ (∀ q, q < d → bitN pk ((j + q) % n) = bitN pk j) ∧ LgS w b ss wy) (fun i _ => n + 1 - (intOf i).toNat)
          case atStart => exact ⟨1, by omega, rfl, fun q hq => al_one hjn hq, HS2.out⟩
          case round =>
            obtain ⟨d, hd, rfl, hal, hS⟩ := hrel
            have HS3 := Lib.hid hS
            have Hal := Lib.hid hal
            clear hS hal
            have hnz : ¬ n = 0 := by omega
            by_cases hdn : d ≤ n
            · have hc := HS3.out.s k (by rw [HC.out.len, HL.out]; exact hlt)
              rw [Nat.zero_add, Hs.out] at hc
              obtain ⟨t, ht⟩ : ∃ t, (j + d) % n = t := ⟨_, rfl⟩
              have htl : t < n := by rw [← ht]; exact Nat.mod_lt _ (by omega)
              have hr0 := tmod_nn (j + d) n
              rw [ht, Int.natCast_add] at hr0
              have hsum : IntKind.i64.wrap ((j : Int) + (d : Int)) = (j : Int) + (d : Int) := IntWalk.i64_in _ (by omega)
              have hi1 := fun W => Hsb.out.idx htl W
              have hi2 := fun W => Hsb.out.idx hjn W
              have Ht := Lib.hid ht
              clear ht
              have key : ∀ b1 b2 : Bool, bitN pk t = b1 → bitN pk j = b2 → b1 = b2 → ∀ q, q < d + 1 → bitN pk ((j + q) % n) = bitN pk j := fun b1 b2 h1 h2 h3 => al_succ Hal.out (by rw [Ht.out, h1, h2, h3])
              have key2 : ∀ b1 b2 : Bool, bitN pk t = b1 → bitN pk j = b2 → b1 ≠ b2 → lenR n pk j = d := fun b1 b2 h1 h2 h3 => lenR_some hdn Hal.out (by rw [Ht.out, h1, h2]; exact h3)
              cases hb1 : bitN pk t with
              | true =>
                have hv1 : byteP pk t = 120 := by unfold byteP; rw [hb1]; rfl
                rw [hv1] at hi1
                cases hb2 : bitN pk j with
                | true =>
                  have hv2 : byteP pk j = 120 := by unfold byteP; rw [hb2]; rfl
                  rw [hv2] at hi2
                  have Hk := Lib.hid (key _ _ hb1 hb2 rfl)
                  have Hb2 := Lib.hid hb2
                  clear key key2 hb1 hb2 hv1 hv2
                  go_upto_region 10 with fail
                  go_quiet (fail)
                  all_goals go_wp2_with fail
                  all_goals exact ⟨⟨d + 1, by omega, by go_num, fun q hq => (Hk.out q hq).trans Hb2.out, HS3.out.next (below_drewN _ _ _)⟩, by simp [intOf]; omega⟩
                | false =>
                  have hv2 : byteP pk j = 46 := by unfold byteP; rw [hb2]; rfl
                  rw [hv2] at hi2
                  have Hk := Lib.hid (key2 _ _ hb1 hb2 (by decide))
                  clear key key2 hb1 hb2 hv1 hv2
                  have hdg : decide ((n : Int) < (d : Int)) = false := decide_eq_false (by omega)
                  rcases Nat.lt_or_ge V d with hVd | hVd
                  · have Hmx := Lib.hid (show max M (mxL (lenR n pk) (j + 1)) = d from (Hval.out d Hk.out).trans (by omega))
                    go_upto_region 10 with fail
                    go_quiet (fail)
                    all_goals go_wp2_with fail
                    all_goals exact ⟨⟨j + 1, by omega, by go_num, by rw [Hmx.out], HS3.out.next (below_drewN _ _ _)⟩, by simp [intOf]; omega⟩
                  · have Hmx := Lib.hid (show max M (mxL (lenR n pk) (j + 1)) = V from (Hval.out d Hk.out).trans (by omega))
                    go_upto_region 10 with fail
                    go_quiet (fail)
                    all_goals go_wp2_with fail
                    all_goals exact ⟨⟨j + 1, by omega, by go_num, by rw [Hmx.out], HS3.out.next (below_drewN _ _ _)⟩, by simp [intOf]; omega⟩
              | false =>
                have hv1 : byteP pk t = 46 := by unfold byteP; rw [hb1]; rfl
                rw [hv1] at hi1
                cases hb2 : bitN pk j with
                | true =>
                  have hv2 : byteP pk j = 120 := by unfold byteP; rw [hb2]; rfl
                  rw [hv2] at hi2
                  have Hk := Lib.hid (key2 _ _ hb1 hb2 (by decide))
                  clear key key2 hb1 hb2 hv1 hv2
                  have hdg : decide ((n : Int) < (d : Int)) = false := decide_eq_false (by omega)
                  rcases Nat.lt_or_ge V d with hVd | hVd
                  · have Hmx := Lib.hid (show max M (mxL (lenR n pk) (j + 1)) = d from (Hval.out d Hk.out).trans (by omega))
                    go_upto_region 10 with fail
                    go_quiet (fail)
                    all_goals go_wp2_with fail
                    all_goals exact ⟨⟨j + 1, by omega, by go_num, by rw [Hmx.out], HS3.out.next (below_drewN _ _ _)⟩, by simp [intOf]; omega⟩
                  · have Hmx := Lib.hid (show max M (mxL (lenR n pk) (j + 1)) = V from (Hval.out d Hk.out).trans (by omega))
                    go_upto_region 10 with fail
                    go_quiet (fail)
                    all_goals go_wp2_with fail
                    all_goals exact ⟨⟨j + 1, by omega, by go_num, by rw [Hmx.out], HS3.out.next (below_drewN _ _ _)⟩, by simp [intOf]; omega⟩
                | false =>
                  have hv2 : byteP pk j = 46 := by unfold byteP; rw [hb2]; rfl
                  rw [hv2] at hi2
                  have Hk := Lib.hid (key _ _ hb1 hb2 rfl)
                  have Hb2 := Lib.hid hb2
                  clear key key2 hb1 hb2 hv1 hv2
                  go_upto_region 10 with fail
                  go_quiet (fail)
                  all_goals go_wp2_with fail
                  all_goals exact ⟨⟨d + 1, by omega, by go_num, fun q hq => (Hk.out q hq).trans Hb2.out, HS3.out.next (below_drewN _ _ _)⟩, by simp [intOf]; omega⟩
            · have Hk := Lib.hid (lenR_none (T := n) (x := pk) (w := j) (fun q hq => Hal.out q (by omega)))
              have hdg : decide ((n : Int) < (d : Int)) = true := decide_eq_true (by omega)
              have hdf : decide ((d : Int) ≤ (n : Int)) = false := decide_eq_false (by omega)
              rcases Nat.lt_or_ge V 1000 with hVd | hVd
              · have Hmx := Lib.hid (show max M (mxL (lenR n pk) (j + 1)) = 1000 from (Hval.out 1000 Hk.out).trans (by omega))
                go_upto_region 10 with fail
                go_quiet (fail)
                all_goals go_wp2_with fail
                all_goals exact ⟨⟨j + 1, by omega, by go_num, by rw [Hmx.out]; rfl, HS3.out.next (below_drewN _ _ _)⟩, by simp [intOf]; omega⟩
              · have Hmx := Lib.hid (show max M (mxL (lenR n pk) (j + 1)) = V from (Hval.out 1000 Hk.out).trans (by omega))
                go_upto_region 10 with fail
                go_quiet (fail)
                all_goals go_wp2_with fail
                all_goals exact ⟨⟨j + 1, by omega, by go_num, by rw [Hmx.out], HS3.out.next (below_drewN _ _ _)⟩, by simp [intOf]; omega⟩
        · obtain rfl : j = n := by omega
          have Hfin := Lib.hid (show longL ps j (k + 1) = V from by rw [Hlong.out, HM.out, HV.out])
          clear Hlong
          go_wp2_with fail
          all_goals exact ⟨⟨k + 1, by omega, by go_num, by rw [Hfin.out], HS2.out⟩, by simp [intOf]; omega⟩
    · obtain rfl : k = L := by omega
      have hb := HS.out.b
      go_wp2_with fail
      go_ret
      exact ⟨rfl, hb⟩
end Go.Proofs.Ytdmgffoikebgkaa
/- Regions that draw their order and whose operations are guarded by tests with known values. -/
namespace Go.Proofs.Ytdmgffoikebgkaa
open Go.RowKit Go.Shelf

/-- each guard is a test among gl that an operation waits for, with the value that lets it run -/
def guardC (ops : Array Oper) (D : Nat → Option Nat) (gl : List (Nat × Bool)) : Bool := (List.range ops.size).all fun i => match ops[i]? with
  | some o => (match o.guard with
    | none => true
    | some q => depB o q.1 && gl.contains q && (D q.1).isSome && ((ops[q.1]?).bind (·.dst) == D q.1))
  | none => true
theorem RSp.of_fitC {ops : Array Oper} {n : Nat} {D : List (Option Nat)} {X : Nat → (Nat → Hd) → Value} {uses : List (List Nat)} {kind : List Nat} {mem : Nat → Mem} {sto : Nat → Option Sto} {gl : List (Nat × Bool)}
    (hn : n = ops.size) (hb : backB ops = true) (hd : dstsB ops (dOf D) = true) (hu : useB ops (uOf uses) (kOf kind) = true) (hg : guardC ops (dOf D) gl = true) (hnd : (D.filterMap id).Nodup)
    (hst : ∀ p ∈ storesOf kind, dOf D p.1 = none ∧ p.2 ∈ uOf uses p.1 ∧ (∀ h, (mem p.2).bl h = [h.b]) ∧ ∀ j, j ≠ p.1 → p.2 ∈ uOf uses j → sto j = none)
    (hX : ∀ p ∈ gl, ∀ hs, X p.1 hs = .bool p.2) :
    (RSp.of n D (fun _ => true) X uses kind mem sto).Fit ops (D.filterMap id) where
  n := hn
  back := hb
  dst := hd
  use := hu
  mem := fun _ _ _ h => dOf_mem h
  inj := fun _ _ _ h1 h2 => dOf_inj hnd h1 h2
  nd := hnd
  st := fun i t h => by
    obtain ⟨h1, h2, h3, h4⟩ := hst (i, t) (kOf_store h)
    refine ⟨h1, h2, h3, fun j hj hm hs W => ?_⟩
    show match sto j with | none => True | some s => BoxAt W (hs s.t).b (s.c hs) s.T
    rw [h4 j hj hm]
    trivial
  gd := fun i o ho => by
    have h := all_ops hg i o ho
    cases hgd : o.guard with
    | none => exact .inl ⟨rfl, rfl⟩
    | some q =>
      obtain ⟨j, b⟩ := q
      rw [hgd] at h
      simp only [Bool.and_eq_true, beq_iff_eq] at h
      obtain ⟨⟨⟨h2, h3⟩, h4⟩, h5⟩ := h
      obtain ⟨d, hd2⟩ := Option.isSome_iff_exists.1 h4
      refine .inr ⟨j, b, d, rfl, h2, hd2, h5.trans hd2, fun hs => ?_, fun h => by cases h⟩
      exact hX (j, b) (by simpa using h3) hs
end Go.Proofs.Ytdmgffoikebgkaa
