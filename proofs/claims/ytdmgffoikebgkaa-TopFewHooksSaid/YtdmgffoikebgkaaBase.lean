/- Integers and bits, rows of integers in memory: plain facts that the walks use. -/
import Derived.WalkKit
import Derived.WalkSpells
import Derived.WalkLawsBesides
import Derived.Lib.Hide
namespace Go.Proofs.Ytdmgffoikebgkaa
open Go.RowKit

theorem ofInt_i64 (a : Nat) (ha : a < 9223372036854775808) : (BitVec.ofInt 64 (a : Int)).toNat = a := by
  rw [BitVec.ofInt_natCast, BitVec.toNat_ofNat]; exact Nat.mod_eq_of_lt (by omega)
theorem i64_and_nat (a b : Nat) (ha : a < 9223372036854775808) (hb : b < 9223372036854775808) : bits .and .i64 (a : Int) (b : Int) = ((a &&& b : Nat) : Int) := by
  have hx : a &&& b < 2 ^ 63 := Nat.and_lt_two_pow _ (by omega)
  show IntKind.i64.wrap ((BitVec.ofInt 64 (a : Int) &&& BitVec.ofInt 64 (b : Int)).toNat : Int) = _
  rw [BitVec.toNat_and, ofInt_i64 a ha, ofInt_i64 b hb]
  exact IntWalk.i64_in _ (by omega)
theorem i64_or_nat (a b : Nat) (ha : a < 9223372036854775808) (hb : b < 9223372036854775808) : bits .or .i64 (a : Int) (b : Int) = ((a ||| b : Nat) : Int) := by
  have hx : a ||| b < 2 ^ 63 := Nat.or_lt_two_pow (by omega) (by omega)
  show IntKind.i64.wrap ((BitVec.ofInt 64 (a : Int) ||| BitVec.ofInt 64 (b : Int)).toNat : Int) = _
  rw [BitVec.toNat_or, ofInt_i64 a ha, ofInt_i64 b hb]
  exact IntWalk.i64_in _ (by omega)
theorem i64_xor_nat (a b : Nat) (ha : a < 9223372036854775808) (hb : b < 9223372036854775808) : bits .xor .i64 (a : Int) (b : Int) = ((a ^^^ b : Nat) : Int) := by
  have hx : a ^^^ b < 2 ^ 63 := Nat.xor_lt_two_pow (by omega) (by omega)
  show IntKind.i64.wrap ((BitVec.ofInt 64 (a : Int) ^^^ BitVec.ofInt 64 (b : Int)).toNat : Int) = _
  rw [BitVec.toNat_xor, ofInt_i64 a ha, ofInt_i64 b hb]
  exact IntWalk.i64_in _ (by omega)
/-- 'x & 1' -/
theorem and_one (x : Nat) (hx : x < 9223372036854775808) : bits .and .i64 (x : Int) 1 = ((x % 2 : Nat) : Int) := by
  have h := i64_and_nat x 1 hx (by decide)
  rw [Nat.and_one_is_mod] at h; exact h
/-- bit k of x, behind a name that the walk does not open -/
def bitN (x k : Nat) : Bool := x.testBit k
/-- 'x >> k & 1 == 1' as the walk writes it -/
theorem shr_bit (x k : Nat) (hx : x < 9223372036854775808) : (bits .and .i64 ((x : Int) / 2 ^ k) 1 == 1) = bitN x k := by
  unfold bitN
  have e : (x : Int) / 2 ^ k = ((x / 2 ^ k : Nat) : Int) := by norm_cast
  have hle : x / 2 ^ k ≤ x := Nat.div_le_self _ _
  rw [e, and_one _ (by omega), Nat.testBit_eq_decide_div_mod_eq]
  rw [Bool.eq_iff_iff]; simp; omega
theorem shr_bit' (x k : Nat) (hx : x < 9223372036854775808) : bits .and .i64 ((x : Int) / 2 ^ k) 1 = ((bitN x k).toNat : Int) := by
  unfold bitN
  have e : (x : Int) / 2 ^ k = ((x / 2 ^ k : Nat) : Int) := by norm_cast
  have hle : x / 2 ^ k ≤ x := Nat.div_le_self _ _
  rw [e, and_one _ (by omega), Nat.toNat_testBit]

/-- element i, behind a name that the walk does not open -/
def nthI (xs : List Int) (i : Nat) : Int := xs[i]?.getD 0
def nthN (xs : List Nat) (i : Nat) : Nat := xs[i]?.getD 0
theorem nthI_get (xs : List Int) (i : Nat) (h : i < xs.length) : nthI xs i = xs[i] := by simp [nthI, h]
theorem nthN_get (xs : List Nat) (i : Nat) (h : i < xs.length) : nthN xs i = xs[i] := by simp [nthN, h]
theorem nthI_mem (xs : List Int) (i : Nat) (h : i < xs.length) : nthI xs i ∈ xs := by rw [nthI_get xs i h]; exact List.getElem_mem _
theorem nthN_mem (xs : List Nat) (i : Nat) (h : i < xs.length) : nthN xs i ∈ xs := by rw [nthN_get xs i h]; exact List.getElem_mem _
theorem takeI_succ (xs : List Int) (k : Nat) (h : k < xs.length) : xs.take (k + 1) = xs.take k ++ [nthI xs k] := by
  rw [List.take_succ_eq_append_getElem h, nthI_get xs k h]
theorem takeN_succ (xs : List Nat) (k : Nat) (h : k < xs.length) : xs.take (k + 1) = xs.take k ++ [nthN xs k] := by
  rw [List.take_succ_eq_append_getElem h, nthN_get xs k h]
theorem take_end {α : Type} (xs : List α) (k : Nat) (h : k ≤ xs.length) (h' : ¬ k < xs.length) : xs.take k = xs := by
  rw [List.take_of_length_le (by omega)]
/-- the cells of a row of integers -/
def IntsAt (w : World) (b off : Nat) (xs : List Int) : Prop :=
  ∀ i, i < xs.length → w.cell? ⟨b, off + i, none⟩ = some (.int .i64 (nthI xs i))
theorem IntsAt.below {B : Nat} {w w' : World} {b off : Nat} {xs : List Int} (h : IntsAt w b off xs) (hb : Below B w w') (hl : b < B) : IntsAt w' b off xs :=
  fun i hi => (hb.cell (p := ⟨b, off + i, none⟩) hl).trans (h i hi)
/-- the cells of a row of numbers -/
def NatsAt (w : World) (b off : Nat) (xs : List Nat) : Prop :=
  ∀ i, i < xs.length → w.cell? ⟨b, off + i, none⟩ = some (.int .i64 ((nthN xs i : Nat) : Int))
theorem NatsAt.below {B : Nat} {w w' : World} {b off : Nat} {xs : List Nat} (h : NatsAt w b off xs) (hb : Below B w w') (hl : b < B) : NatsAt w' b off xs :=
  fun i hi => (hb.cell (p := ⟨b, off + i, none⟩) hl).trans (h i hi)
theorem NatsAt.ints {w : World} {b off : Nat} {xs : List Nat} (h : NatsAt w b off xs) : IntsAt w b off (xs.map (fun n : Nat => (n : Int))) := by
  intro i hi
  have hi' : i < xs.length := by simpa using hi
  rw [h i hi', nthI_get _ _ hi, nthN_get _ _ hi']
  simp
end Go.Proofs.Ytdmgffoikebgkaa
