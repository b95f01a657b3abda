/- What TopPunched and TopTurnedOver need of mathematics: punched cards woven in order, valid rows, equal cloths. -/
import Derived.Test.YtdmgffoikebgkaaHJ
import Derived.Test.YtdmgffoikebgkaaHI
import Derived.Test.YtdmgffoikebgkaaHG
import Derived.Test.YtdmgffoikebgkaaHE
namespace Go.Proofs.Ytdmgffoikebgkaa
open Go.RowKit Go.Shelf

theorem nthN_one (l i : Nat) (h : i < l) : nthN (List.replicate l 1) i = 1 := by
  rw [nthN_get _ _ (by simpa using h)]; simp
theorem nthN_one3 (l i : Nat) : nthN (List.replicate l 1) i < 3 := by
  by_cases h : i < l
  · rw [nthN_one _ _ h]; decide
  · have : nthN (List.replicate l 1) i = 0 := by unfold nthN; rw [List.getElem?_eq_none (by simp; omega)]; rfl
    rw [this]; decide
theorem cyl_one (l : Nat) : ∀ k, k < l → cylTo l (List.replicate l 1) 0 k = k
  | 0, _ => rfl
  | k + 1, h => by
    show (cylTo l (List.replicate l 1) 0 k + nthN (List.replicate l 1) k) % l = k + 1
    rw [cyl_one l k (by omega), nthN_one _ _ (by omega), Nat.mod_eq_of_lt h]
theorem woven_punched (n : Nat) (xs : List Nat) : wovenTo n (punched xs xs.length) (List.replicate xs.length 1) 0 xs.length = xs := by
  apply List.ext_getElem?
  intro i
  by_cases hi : i < xs.length
  · rw [List.getElem?_eq_getElem (by rw [wovenTo_len]; exact hi), List.getElem?_eq_getElem hi]
    simp only [wovenTo, List.getElem_map, List.getElem_range, punched_len]
    rw [cyl_one _ _ hi, punched_nth _ _ _ hi, nthN_get _ _ hi]
    rfl
  · rw [List.getElem?_eq_none (by rw [wovenTo_len]; omega), List.getElem?_eq_none (by omega)]
theorem mirN_lt (n x : Nat) : mirN n x < 2 ^ n := rowTo_lt _ _
theorem liftN_lt {n : Nat} {cs : List Card} (h : ChainOk n cs) (i : Nat) : liftN n (nthC cs i) < 2 ^ n := by
  unfold liftN
  split
  · exact mirN_lt _ _
  · exact h.row i
theorem woven_valid {n : Nat} {cs : List Card} (h : ChainOk n cs) (xs : List Nat) (f k : Nat) (hk : 1 ≤ k) (hk2 : k ≤ 60) : Valid n (wovenTo n cs xs f k) := by
  refine ⟨h.n0, h.n1, by rw [wovenTo_len]; exact hk, by rw [wovenTo_len]; exact hk2, fun i => ?_⟩
  by_cases hi : i < k
  · rw [nthN_get _ _ (by rw [wovenTo_len]; exact hi)]
    simp only [wovenTo, List.getElem_map, List.getElem_range]
    exact liftN_lt h _
  · have : nthN (wovenTo n cs xs f k) i = 0 := by unfold nthN; rw [List.getElem?_eq_none (by rw [wovenTo_len]; omega)]; rfl
    rw [this]; exact Nat.pow_pos (by decide)
def clothS (hs xs : List Nat) : List ByteArray := (List.range xs.length).map fun i => pickS hs (nthN xs i)
theorem clothS_len (hs xs : List Nat) : (clothS hs xs).length = xs.length := by simp [clothS]
theorem clothS_map (hs xs : List Nat) : (clothS hs xs).map Value.string = clothV hs xs xs.length := by simp [clothS, clothV]
end Go.Proofs.Ytdmgffoikebgkaa
