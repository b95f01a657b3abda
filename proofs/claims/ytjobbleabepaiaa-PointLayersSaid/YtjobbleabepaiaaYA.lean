/- Lay's designs: what was laid stays. -/
import Derived.Test.YtjobbleabepaiaaXQ
namespace Go.Proofs.Ytjobbleabepaiaa
open Go.RowKit

theorem lay_bit (gx : List Nat) (gn : Nat) (fx mx : List Nat) (fn i j : Nat) (hi : i < fx.length) (hj : j < fn) :
    bitN (nthN (painted (layG gx gn fx mx) fx.length fn) i) j = if bitN (nthN mx i) j then bitN (nthN fx i) j else bitN (nthN gx (i % gx.length)) (j % gn) := by
  rw [bit_painted _ _ _ _ _ hi hj]; rfl
theorem lay_same {fn : Nat} {fx : List Nat} (hv : Valid fn fx) (mx : List Nat) : painted (layG fx fn fx mx) fx.length fn = fx := by
  rw [painted_eq rfl hv.lt]
  intro i hi j hj
  unfold layG
  rw [Nat.mod_eq_of_lt hi, Nat.mod_eq_of_lt hj]
  split <;> rfl
theorem lay_again {fn : Nat} {fx : List Nat} (gx : List Nat) (gn : Nat) (mx ls bs : List Nat) (hls : ls = painted (layG gx gn fx mx) fx.length fn) (hbs : bs = painted (baG mx) mx.length fn) (hl : mx.length = fx.length) :
    painted (layG fx fn ls bs) ls.length fn = ls := by
  have hlen : ls.length = fx.length := by rw [hls, painted_len]
  rw [painted_eq rfl (by rw [hls]; exact painted_lt _ _ _)]
  intro i hi j hj
  unfold layG
  have hb : bitN (nthN bs i) j = !bitN (nthN mx i) j := by rw [hbs, bit_painted _ _ _ _ _ (by omega) hj]; rfl
  have hlb : bitN (nthN ls i) j = if bitN (nthN mx i) j then bitN (nthN fx i) j else bitN (nthN gx (i % gx.length)) (j % gn) := by
    rw [hls]; exact lay_bit gx gn fx mx fn i j (by omega) hj
  rw [hb, Nat.mod_eq_of_lt (by omega : i < fx.length), Nat.mod_eq_of_lt hj]
  cases hm : bitN (nthN mx i) j with
  | true => rw [hm] at hlb; simp at hlb ⊢; rw [hlb]
  | false => simp
theorem lay_once {fn : Nat} {fx : List Nat} (gx : List Nat) (gn : Nat) (mx ls : List Nat) (hls : ls = painted (layG gx gn fx mx) fx.length fn) :
    painted (layG ls fn fx mx) fx.length fn = ls := by
  have hlen : ls.length = fx.length := by rw [hls, painted_len]
  rw [painted_eq hlen (by rw [hls]; exact painted_lt _ _ _)]
  intro i hi j hj
  unfold layG
  have hlb : bitN (nthN ls i) j = if bitN (nthN mx i) j then bitN (nthN fx i) j else bitN (nthN gx (i % gx.length)) (j % gn) := by
    rw [hls]; exact lay_bit gx gn fx mx fn i j hi hj
  rw [hlen, Nat.mod_eq_of_lt hi, Nat.mod_eq_of_lt hj]
  cases hm : bitN (nthN mx i) j with
  | true => rw [hm] at hlb; simp at hlb ⊢; rw [hlb]
  | false => simp
theorem pt_lay (gx : List Nat) (gn : Nat) (fx mx : List Nat) (fn p h : Nat) (hl : mx.length = fx.length) (hp : p < fx.length) (hh : h < fn) :
    pt fn (painted (layG gx gn fx mx) fx.length fn) p h = if pt fn mx p h then pt fn fx p h else pt gn gx p h := by
  unfold pt
  rw [painted_len, hl, Nat.mod_eq_of_lt hp, Nat.mod_eq_of_lt hh, lay_bit gx gn fx mx fn p h hp hh]
end Go.Proofs.Ytjobbleabepaiaa
