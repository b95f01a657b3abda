/- PointEdges: its mathematics. -/
import Derived.Test.YtjobbleabepaiaaSB
import Derived.Test.YtjobbleabepaiaaVV
import Derived.Test.YtjobbleabepaiaaWV
import Derived.Test.YtjobbleabepaiaaXV
namespace Go.Proofs.Ytjobbleabepaiaa
open Go.RowKit

/-- a period -/
def Per {α : Type} (g : Nat → α) (a : Nat) : Prop := ∀ i, g (i + a) = g i
section
variable {α : Type} {g : Nat → α}
theorem Per.mul {a : Nat} (h : Per g a) : ∀ q, Per g (a * q)
  | 0 => fun i => by rw [Nat.mul_zero, Nat.add_zero]
  | q + 1 => fun i => by rw [Nat.mul_succ, ← Nat.add_assoc, h]; exact Per.mul h q i
theorem Per.rem {a b : Nat} (h : Per g a) (h2 : Per g b) : Per g (b % a) := fun i => by
  have e := h.mul (b / a) (i + b % a)
  rw [← e]
  have := Nat.div_add_mod b a
  rw [show i + b % a + a * (b / a) = i + b by omega]
  exact h2 i
theorem Per.gcd (a b : Nat) : Per g a → Per g b → Per g (Nat.gcd a b) := by
  induction a, b using Nat.gcd.induction with
  | H0 n => intro _ h; rw [Nat.gcd_zero_left]; exact h
  | H1 m n _ ih => intro h1 h2; rw [Nat.gcd_rec]; exact ih (h1.rem h2) h1
theorem Per.mod {a : Nat} (h : Per g a) (i : Nat) : g i = g (i % a) := by
  have e := h.mul (i / a) (i % a)
  rw [← e]
  have := Nat.div_add_mod i a
  rw [show i % a + a * (i / a) = i by omega]
/-- the least period that divides a number -/
structure LeastP (g : Nat → α) (N j : Nat) : Prop where
  one : 1 ≤ j
  div : N % j = 0
  per : Per g j
  min : ∀ i, 1 ≤ i → i < j → ¬ (N % i = 0 ∧ Per g i)
theorem LeastP.eq {N j k : Nat} (h : LeastP g N j) (h2 : LeastP g N k) : j = k := by
  rcases Nat.lt_trichotomy j k with h3 | h3 | h3
  · exact absurd ⟨h.div, h.per⟩ (h2.min j h.one h3)
  · exact h3
  · exact absurd ⟨h2.div, h2.per⟩ (h.min k h2.one h3)
theorem LeastP.twice {N j k : Nat} (hN : 1 ≤ N) (hp : Per g N) (h : LeastP g N j) (h2 : LeastP g (N + N) k) : j = k := by
  have hd : (N + N) % j = 0 := by rw [Nat.add_mod, h.div]; simp
  have h3 : k ≤ j := Nat.not_lt.1 fun hlt => h2.min j h.one hlt ⟨hd, h.per⟩
  have hg := Per.gcd k N h2.per hp
  have g1 : 1 ≤ Nat.gcd k N := Nat.gcd_pos_of_pos_right k (by omega)
  have g2 : N % Nat.gcd k N = 0 := Nat.mod_eq_zero_of_dvd (Nat.gcd_dvd_right k N)
  have g3 : Nat.gcd k N ≤ k := Nat.gcd_le_left N h2.one
  have h4 : j ≤ Nat.gcd k N := Nat.not_lt.1 fun hlt => h.min _ g1 hlt ⟨g2, hg⟩
  omega
end
section
variable {n : Nat} {xs : List Nat}
def rowsG (n : Nat) (xs : List Nat) (i : Nat) : Nat → Bool := fun h => pt n xs i h
def hooksG (n : Nat) (xs : List Nat) (j : Nat) : Nat → Bool := fun i => pt n xs i j
theorem whole_per {f : Nat → Nat → Bool} {g : Nat → Nat → Bool} {N m k : Nat} (hN : 0 < N) (hm : 0 < m) (hk : 1 ≤ k) (hg : ∀ i h, g i h = f (i % N) (h % m)) (hd : N % k = 0) : (∀ i, i < N → ∀ h, h < m → f i h = f (i % k) h) ↔ Per g k := by
  have hdv : k ∣ N := Nat.dvd_of_mod_eq_zero hd
  constructor
  · intro hw i
    funext h
    rw [hg, hg, hw _ (Nat.mod_lt _ hN) _ (Nat.mod_lt _ hm), hw (i % N) (Nat.mod_lt _ hN) _ (Nat.mod_lt _ hm), Nat.mod_mod_of_dvd _ hdv, Nat.mod_mod_of_dvd _ hdv, Nat.add_mod_right]
  · intro hp i hi h hh
    have e1 := congrFun (hp.mod i) h
    have hkN : k ≤ N := Nat.le_of_dvd hN hdv
    rw [hg, hg, Nat.mod_eq_of_lt hi, Nat.mod_eq_of_lt hh, Nat.mod_eq_of_lt (Nat.lt_of_lt_of_le (Nat.mod_lt i hk) hkN)] at e1
    exact e1
theorem leastP_of {f : Nat → Nat → Bool} {g : Nat → Nat → Bool} {N m j : Nat} (hN : 0 < N) (hm : 0 < m) (hg : ∀ i h, g i h = f (i % N) (h % m)) (h : 1 ≤ j ∧ j ≤ N ∧ Whole f N m j ∧ ∀ i, 1 ≤ i → i < j → ¬ Whole f N m i) : LeastP g N j := by
  obtain ⟨h1, _, ⟨h3, h4⟩, h5⟩ := h
  exact ⟨h1, h3, (whole_per hN hm h1 hg h3).1 h4, fun i hi hij hp => h5 i hi hij ⟨hp.1, (whole_per hN hm hi hg hp.1).2 hp.2⟩⟩
theorem rows_leastP (hv : Valid n xs) : LeastP (rowsG n xs) xs.length (leastN (fun k => repB xs n k 0) xs.length) :=
  leastP_of hv.l0 hv.n0 (fun _ _ => rfl) (least_rows hv)
theorem hooks_leastP (hv : Valid n xs) : LeastP (hooksG n xs) n (leastN (fun k => repB xs n 0 k) n) :=
  leastP_of hv.n0 hv.l0 (fun _ _ => rfl) (least_hooks hv)
theorem rows_per : Per (rowsG n xs) xs.length := fun i => by funext h; unfold rowsG pt; rw [Nat.add_mod_right]
theorem hooks_per : Per (hooksG n xs) n := fun i => by funext h; unfold hooksG pt; rw [Nat.add_mod_right]
theorem pt_beside (hv : Valid n xs) (i j : Nat) : pt (n + n) (painted (beG n xs xs) xs.length (n + n)) i j = pt n xs i j := by
  have hn := hv.n0
  rw [pt_paint hv.l0 (by omega)]
  have hj := Nat.mod_lt j (show 0 < n + n by omega)
  have hd : j % (n + n) % n = j % n := Nat.mod_mod_of_dvd _ ⟨2, by omega⟩
  unfold beG pt
  by_cases h : j % (n + n) < n
  · rw [if_pos h, ← hd, Nat.mod_eq_of_lt h]
  · rw [if_neg h, ← hd, Nat.mod_eq_sub_mod (show n ≤ j % (n + n) by omega), Nat.mod_eq_of_lt (show j % (n + n) - n < n by omega)]
theorem nthN_app (xs ys : List Nat) (i : Nat) : nthN (xs ++ ys) i = if i < xs.length then nthN xs i else nthN ys (i - xs.length) := by
  unfold nthN
  by_cases h : i < xs.length
  · rw [if_pos h, List.getElem?_append_left h]
  · rw [if_neg h, List.getElem?_append_right (by omega)]
theorem pt_above (hv : Valid n xs) (i j : Nat) : pt n (xs ++ xs) i j = pt n xs i j := by
  have hn := hv.l0
  have hj := Nat.mod_lt i (show 0 < xs.length + xs.length by omega)
  have hd : i % (xs.length + xs.length) % xs.length = i % xs.length := Nat.mod_mod_of_dvd _ ⟨2, by omega⟩
  unfold pt
  rw [List.length_append, nthN_app]
  by_cases h : i % (xs.length + xs.length) < xs.length
  · rw [if_pos h, ← hd, Nat.mod_eq_of_lt h]
  · rw [if_neg h, ← hd, Nat.mod_eq_sub_mod (show xs.length ≤ i % (xs.length + xs.length) by omega), Nat.mod_eq_of_lt (show i % (xs.length + xs.length) - xs.length < xs.length by omega)]
theorem beside_valid (hv : Valid n xs) (hn : n ≤ 12) : Valid (n + n) (painted (beG n xs xs) xs.length (n + n)) :=
  ⟨by have := hv.n0; omega, by omega, by rw [painted_len]; exact hv.l0, by rw [painted_len]; exact hv.l1, fun i => painted_lt _ _ _ i⟩
theorem above_valid (hv : Valid n xs) (hl : xs.length ≤ 30) : Valid n (xs ++ xs) :=
  ⟨hv.n0, hv.n1, by rw [List.length_append]; have := hv.l0; omega, by rw [List.length_append]; omega, fun i => by rw [nthN_app]; split <;> exact hv.lt _⟩
theorem long_same {m : Nat} {ys : List Nat} (hv : Valid n xs) (hv2 : Valid m ys) (h : ∀ i j, pt m ys i j = pt n xs i j) : LongSame n xs m ys := by
  rintro a (rfl | rfl) v
  · refine done_w hv2 hv v v fun k => ?_
    unfold WRun
    refine exists_congr fun i => ?_
    rw [show (fun j => pt m ys i j) = fun j => pt n xs i j from funext fun j => h i j]
  · refine done_h hv2 hv v v fun k => ?_
    unfold HRun
    refine exists_congr fun j => ?_
    rw [show (fun i => pt m ys i j) = fun i => pt n xs i j from funext fun i => h i j]
theorem least_beside (hv : Valid n xs) (hn : n ≤ 12) :
    leastN (fun k => repB (painted (beG n xs xs) xs.length (n + n)) (n + n) k 0) xs.length = leastN (fun k => repB xs n k 0) xs.length ∧ leastN (fun k => repB (painted (beG n xs xs) xs.length (n + n)) (n + n) 0 k) (n + n) = leastN (fun k => repB xs n 0 k) n := by
  have hv2 := beside_valid hv hn
  have e1 : rowsG (n + n) (painted (beG n xs xs) xs.length (n + n)) = rowsG n xs := by funext i h; exact pt_beside hv i h
  have e2 : hooksG (n + n) (painted (beG n xs xs) xs.length (n + n)) = hooksG n xs := by funext i h; exact pt_beside hv h i
  have r := rows_leastP hv2
  have q := hooks_leastP hv2
  rw [e1, painted_len] at r
  rw [e2] at q
  exact ⟨r.eq (rows_leastP hv), ((hooks_leastP hv).twice hv.n0 hooks_per q).symm⟩
theorem least_above (hv : Valid n xs) (hl : xs.length ≤ 30) :
    leastN (fun k => repB (xs ++ xs) n k 0) (xs ++ xs).length = leastN (fun k => repB xs n k 0) xs.length ∧ leastN (fun k => repB (xs ++ xs) n 0 k) n = leastN (fun k => repB xs n 0 k) n := by
  have hv2 := above_valid hv hl
  have e1 : rowsG n (xs ++ xs) = rowsG n xs := by funext i h; exact pt_above hv i h
  have e2 : hooksG n (xs ++ xs) = hooksG n xs := by funext i h; exact pt_above hv h i
  have r := rows_leastP hv2
  have q := hooks_leastP hv2
  rw [e1] at r
  rw [e2] at q
  have hlen : (xs ++ xs).length = xs.length + xs.length := List.length_append
  refine ⟨?_, q.eq (hooks_leastP hv)⟩
  rw [hlen] at r ⊢
  exact ((rows_leastP hv).twice hv.l0 rows_per r).symm
theorem pt_least (hv : Valid n xs) (i j : Nat) : pt n xs i j = pt n xs (i % leastN (fun k => repB xs n k 0) xs.length) (j % leastN (fun k => repB xs n 0 k) n) := by
  have h1 := congrFun ((rows_leastP hv).per.mod i) j
  have h2 := congrFun ((hooks_leastP hv).per.mod j) (i % leastN (fun k => repB xs n k 0) xs.length)
  exact h1.trans h2
/-- a point repeat is its own mirror, shifted by one hook -/
theorem refl_mirror (_hv : Valid n xs) (h2 : 1 < n) :
    painted (shG (painted (miG (painted (reflG xs n) xs.length (reflHooks n)) (reflHooks n)) xs.length (reflHooks n)) (reflHooks n) 0 1) xs.length (reflHooks n) = painted (reflG xs n) xs.length (reflHooks n) := by
  obtain ⟨K, hK⟩ : ∃ K, K = reflHooks n := ⟨_, rfl⟩
  have hK2 : K = n + (n - 2) := by rw [hK]; unfold reflHooks; split <;> omega
  rw [← hK]
  refine painted_congr fun i hi j hj => ?_
  unfold shG
  rw [painted_len, Nat.sub_zero, Nat.add_mod_right, Nat.mod_eq_of_lt hi, bit_painted _ _ _ _ _ hi (Nat.mod_lt _ (by omega))]
  unfold miG
  have hm : (j + K - 1) % K = if j = 0 then K - 1 else j - 1 := by
    by_cases h : j = 0
    · rw [if_pos h, h, Nat.mod_eq_of_lt (by omega)]; omega
    · rw [if_neg h, show j + K - 1 = (j - 1) + K by omega, Nat.add_mod_right, Nat.mod_eq_of_lt (by omega)]
  rw [bit_painted _ _ _ _ _ hi (by omega), hm]
  unfold reflG
  rw [← hK]
  by_cases h : j = 0
  · rw [if_pos h, h, show K - 1 - (K - 1) = 0 by omega]
  · rw [if_neg h, show K - 1 - (j - 1) = K - j by omega]
    congr 1
    by_cases h3 : n ≤ j
    · rw [if_pos h3, if_neg (by omega)]
    · rw [if_neg h3]
      by_cases h4 : n ≤ K - j
      · rw [if_pos h4]; omega
      · rw [if_neg h4]; omega
theorem refl_row (hv : Valid n xs) (i : Nat) (hi : i < xs.length) : nthN (painted (reflG xs n) xs.length (reflHooks n)) i &&& (2 ^ n - 1) = nthN xs i := by
  have hK2 : n ≤ reflHooks n := by unfold reflHooks; split <;> omega
  refine Nat.eq_of_testBit_eq fun j => ?_
  rw [Nat.testBit_and, Nat.testBit_two_pow_sub_one]
  by_cases h : j < n
  · have hb := bit_painted (reflG xs n) xs.length (reflHooks n) i j hi (by omega)
    unfold bitN at hb
    rw [hb, decide_eq_true h, Bool.and_true]
    unfold reflG
    rw [if_neg (by omega)]
    rfl
  · rw [decide_eq_false h, Bool.and_false, Nat.testBit_lt_two_pow (Nat.lt_of_lt_of_le (hv.lt i) (Nat.pow_le_pow_right (by decide) (by omega)))]
end
end Go.Proofs.Ytjobbleabepaiaa
