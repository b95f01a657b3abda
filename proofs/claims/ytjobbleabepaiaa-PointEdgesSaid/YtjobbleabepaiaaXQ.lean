/- Mirror, Flip, Back and Shift, done twice; where points come. -/
import Derived.Test.YtjobbleabepaiaaXP
import Derived.Test.YtjobbleabepaiaaVH
namespace Go.Proofs.Ytjobbleabepaiaa
open Go.RowKit Go.Shelf

theorem bit_painted (g : Nat → Nat → Bool) (N n i j : Nat) (hi : i < N) (hj : j < n) : bitN (nthN (painted g N n) i) j = g i j := by
  have e : nthN (painted g N n) i = rowTo (g i) n := by simp [nthN, painted, hi]
  rw [e]; unfold bitN; rw [rowTo_bit]; simp [hj]
theorem painted_lt (g : Nat → Nat → Bool) (N n i : Nat) : nthN (painted g N n) i < 2 ^ n := by
  by_cases hi : i < N
  · have e : nthN (painted g N n) i = rowTo (g i) n := by simp [nthN, painted, hi]
    rw [e]; exact rowTo_lt _ _
  · have e : nthN (painted g N n) i = 0 := by simp [nthN, painted]; rw [List.getElem?_eq_none (by simpa using hi)]; rfl
    rw [e]; exact Nat.pow_pos (by decide)
theorem painted_valid {n : Nat} {ys : List Nat} (hv : Valid n ys) (g : Nat → Nat → Bool) : Valid n (painted g ys.length n) :=
  ⟨hv.n0, hv.n1, by rw [painted_len]; exact hv.l0, by rw [painted_len]; exact hv.l1, painted_lt g _ _⟩
theorem mirror_twice {n : Nat} {ys : List Nat} (hv : Valid n ys) : painted (miG (painted (miG ys n) ys.length n) n) ys.length n = ys := by
  rw [painted_eq rfl hv.lt]
  intro i hi j hj
  have h0 := hv.n0
  unfold miG
  rw [bit_painted _ _ _ _ _ hi (by omega), show n - 1 - (n - 1 - j) = j by omega]
theorem flip_twice {n : Nat} {ys : List Nat} (hv : Valid n ys) : painted (flG (painted (flG ys) ys.length n)) ys.length n = ys := by
  rw [painted_eq rfl hv.lt]
  intro i hi j hj
  unfold flG
  rw [painted_len, bit_painted _ _ _ _ _ (by omega) hj, show ys.length - 1 - (ys.length - 1 - i) = i by omega]
theorem back_twice {n : Nat} {ys : List Nat} (hv : Valid n ys) : painted (baG (painted (baG ys) ys.length n)) ys.length n = ys := by
  rw [painted_eq rfl hv.lt]
  intro i hi j hj
  unfold baG
  rw [bit_painted _ _ _ _ _ hi hj]; simp
theorem turn_on (N P i : Nat) (hP : P < N) (hi : i < N) : ((i + P) % N + N - P) % N = i := by
  by_cases h : i + P < N
  · rw [Nat.mod_eq_of_lt h, show i + P + N - P = i + N by omega, Nat.add_mod_right, Nat.mod_eq_of_lt hi]
  · have e : (i + P) % N = i + P - N := by rw [Nat.mod_eq_sub_mod (by omega), Nat.mod_eq_of_lt (by omega)]
    rw [e, show i + P - N + N - P = i by omega, Nat.mod_eq_of_lt hi]
theorem turn_back (N P i : Nat) (hP : P < N) (hi : i < N) : ((i + N - (N - P) % N) % N + N - P) % N = i := by
  by_cases h0 : P = 0
  · subst h0
    have e : (N - 0) % N = 0 := by rw [Nat.sub_zero, Nat.mod_self]
    rw [e, Nat.sub_zero, Nat.sub_zero, Nat.add_mod_right, Nat.mod_mod, Nat.add_mod_right, Nat.mod_eq_of_lt hi]
  · rw [Nat.mod_eq_of_lt (show N - P < N by omega), show i + N - (N - P) = i + P by omega]
    exact turn_on N P i hP hi
theorem shift_twice {n : Nat} {ys : List Nat} (hv : Valid n ys) (P Q : Nat) (hP : P < ys.length) (hQ : Q < n) :
    painted (shG (painted (shG ys n P Q) ys.length n) n ((ys.length - P) % ys.length) ((n - Q) % n)) ys.length n = ys := by
  rw [painted_eq rfl hv.lt]
  intro i hi j hj
  unfold shG
  rw [painted_len, bit_painted _ _ _ _ _ (Nat.mod_lt _ (by omega)) (Nat.mod_lt _ (by omega)), turn_back _ _ _ hP hi, turn_back _ _ _ hQ hj]
theorem pt_mirror {n : Nat} {ys : List Nat} (_hv : Valid n ys) (p h : Nat) (hp : p < ys.length) (hh : h < n) : pt n (painted (miG ys n) ys.length n) p (n - 1 - h) = pt n ys p h := by
  unfold pt
  rw [painted_len, Nat.mod_eq_of_lt hp, Nat.mod_eq_of_lt hh, Nat.mod_eq_of_lt (show n - 1 - h < n by omega), bit_painted _ _ _ _ _ hp (by omega)]
  unfold miG
  rw [show n - 1 - (n - 1 - h) = h by omega]
theorem pt_flip {n : Nat} {ys : List Nat} (_hv : Valid n ys) (p h : Nat) (hp : p < ys.length) (hh : h < n) : pt n (painted (flG ys) ys.length n) (ys.length - 1 - p) h = pt n ys p h := by
  unfold pt
  rw [painted_len, Nat.mod_eq_of_lt hp, Nat.mod_eq_of_lt hh, Nat.mod_eq_of_lt (show ys.length - 1 - p < ys.length by omega), bit_painted _ _ _ _ _ (by omega) hh]
  unfold flG
  rw [show ys.length - 1 - (ys.length - 1 - p) = p by omega]
theorem pt_back {n : Nat} {ys : List Nat} (p h : Nat) (hp : p < ys.length) (hh : h < n) : pt n (painted (baG ys) ys.length n) p h = !pt n ys p h := by
  unfold pt
  rw [painted_len, Nat.mod_eq_of_lt hp, Nat.mod_eq_of_lt hh, bit_painted _ _ _ _ _ hp hh]
  rfl
theorem pt_shift {n : Nat} {ys : List Nat} (P Q p h : Nat) (hP : P < ys.length) (hQ : Q < n) (hp : p < ys.length) (hh : h < n) : pt n (painted (shG ys n P Q) ys.length n) (p + P) (h + Q) = pt n ys p h := by
  unfold pt
  rw [painted_len, bit_painted _ _ _ _ _ (Nat.mod_lt _ (by omega)) (Nat.mod_lt _ (by omega))]
  unfold shG
  rw [turn_on _ _ _ hP hp, turn_on _ _ _ hQ hh, Nat.mod_eq_of_lt hp, Nat.mod_eq_of_lt hh]
theorem dfRow_full {D : Nat → Bool} {i : Nat} {s : Nat × Nat × Nat} : ∀ m, (∀ j, j < m → D j = true) → (dfRow D i s m).1 = s.1 + m
  | 0, _ => rfl
  | m + 1, h => by
    have := dfRow_full (D := D) (i := i) (s := s) m (fun j hj => h j (by omega))
    simp only [dfRow, h m (by omega), if_true, this]; omega
theorem dfAll_full {D : Nat → Nat → Bool} {n : Nat} : ∀ N, (∀ i, i < N → ∀ j, j < n → D i j = true) → (dfAll D n N).1 = N * n
  | 0, _ => by simp [dfAll]
  | N + 1, h => by
    have := dfAll_full (D := D) (n := n) N (fun i hi => h i (by omega))
    simp only [dfAll]
    rw [dfRow_full n (h N (by omega)), this, Nat.add_mul]; omega
theorem back_differs {n : Nat} {ys : List Nat} : (dfAll (dfB ys (painted (baG ys) ys.length n)) n ys.length).1 = ys.length * n :=
  dfAll_full _ fun i hi j hj => by
    unfold dfB
    rw [bit_painted _ _ _ _ _ hi hj]; unfold baG
    cases bitN (nthN ys i) j <;> rfl
theorem right_len (n b off c N : Nat) (xs : List Nat) (w : World) (hv : VAt w b off c n xs) (hN : xs.length = N) :
    Calls Try.prog 61 #[.agg #[.int .i64 (n : Int), .slice (some ⟨b, off, none⟩) xs.length c], .int .i64 (n : Int), .int .i64 (N : Int)] w fun e w' => e = .returned (.bool true) ∧ Below w.heap.size w w' := by
  subst hN; exact right_any n b off c xs w hv
end Go.Proofs.Ytjobbleabepaiaa
namespace Go.Proofs.Ytjobbleabepaiaa
open Go.RowKit Go.Shelf
section
variable {w0 W : World} {L : List BX}
theorem Boxes.get (s : Boxes w0 L W) {x : BX} (hx : x ∈ L) : W.cell? ⟨x.B, 0, none⟩ = some (.int .i64 x.h) ∧ W.cell? ⟨x.B, 1, none⟩ = some (.slice x.p x.l x.c) ∧ x.B < W.heap.size :=
  ⟨(s.all x hx).a.c0, (s.all x hx).a.c1, (s.all x hx).a.lt⟩
theorem Boxes.vat (s : Boxes w0 L W) {B b off c n : Nat} {ys : List Nat} (hx : (⟨B, n, some ⟨b, off, none⟩, ys.length, c, ints ys⟩ : BX) ∈ L) (hv : Valid n ys) : VAt W b off c n ys := vat_of (s.all _ hx).r hv
theorem Boxes.own (s : Boxes w0 L W) {B b off c n : Nat} {ys : List Nat} (hx : (⟨B, n, some ⟨b, off, none⟩, ys.length, c, ints ys⟩ : BX) ∈ L) (hv : Valid n ys) :
    Calls Try.prog 18 #[.agg #[.int .i64 (n : Int), .slice (some ⟨b, off, none⟩) ys.length c]] W fun e w' => ∃ b2 o2 c2, e = .returned (.agg #[.int .i64 (n : Int), .slice (some ⟨b2, o2, none⟩) ys.length c2]) ∧ VAt w' b2 o2 c2 n ys ∧ Boxes w0 L w' := by
  refine (own_reads n (some ⟨b, off, none⟩) ys.length c (ints ys) W (by have := hv.l1; omega) (s.all _ hx).r).mono ?_
  rintro e w' ⟨p2, c2, rfl, hr, hb⟩
  obtain ⟨b2, o2, rfl, hva⟩ := vat_of_reads hr hv
  exact ⟨b2, o2, c2, rfl, hva, s.next hb⟩
theorem Boxes.okd (s : Boxes w0 L W) {f : FuncId} {args : Array Value} {n : Nat} {zs : List Nat} (h : Calls Try.prog f args W (OkD n zs W)) (hl : zs.length ≤ 1000) :
    Calls Try.prog f args W fun e w' => ∃ R, e = .returned (.tuple #[.agg #[.int .i64 (n : Int), .slice (some ⟨R, 0, none⟩) zs.length zs.length], .int .i64 0]) ∧ Boxes w0 L w' ∧
      Boxes w0 (⟨w'.heap.size, n, some ⟨R, 0, none⟩, zs.length, zs.length, ints zs⟩ :: L) (w'.alloc (.cells #[.int .i64 (n : Int), .slice (some ⟨R, 0, none⟩) zs.length zs.length] 24)) := by
  refine h.mono ?_
  rintro e w' ⟨R, rfl, _, hn, hb⟩
  exact ⟨R, rfl, s.next hb, (s.next hb).push n (some ⟨R, 0, none⟩) zs.length zs.length (ints zs) (blk_reads hn hl _)⟩
theorem Boxes.plain (s : Boxes w0 L W) {f : FuncId} {args : Array Value} {E : Ending} (h : Calls Try.prog f args W fun e w' => e = E ∧ Below W.heap.size W w') : Calls Try.prog f args W fun e w' => e = E ∧ Boxes w0 L w' := by
  refine h.mono ?_
  rintro e w' ⟨rfl, hb⟩
  exact ⟨rfl, s.next hb⟩
theorem Boxes.drew (s : Boxes w0 L W) : Boxes w0 L W.drew := s.next (below_drew1 W)
end
end Go.Proofs.Ytjobbleabepaiaa
