/- Papers that came in: bytes and rows of 16 bits. -/
import Derived.Test.YtjobbleabepaiaaLeasts
import Derived.Test.YtjobbleabepaiaaXO
namespace Go.Proofs.Ytjobbleabepaiaa
open Go.ChangeShapes Go.WideShapes Go.ChangeAt Go.RowKit Go.Joins

theorem cells84' : Try.prog.cellsOf 84 = 1 := by kernel_rfl
theorem cells81' : Try.prog.cellsOf 81 = 2 := by kernel_rfl
theorem u8_of {a : Int} (h : (Lit.int .u8 a).wf = true) : ∃ n : Nat, a = (n : Int) ∧ n < 256 := by
  have h2 : IntKind.u8.min ≤ a ∧ a ≤ IntKind.u8.max := by simpa [Lit.wf] using h
  rw [show IntKind.u8.min = 0 from rfl, show IntKind.u8.max = 255 from rfl] at h2
  exact ⟨a.toNat, by omega, by omega⟩
/-- what a slice of bytes' pairs that came in holds -/
theorem u16_of_trod {H : Type} {enc : TypeId × Value → H} {W : World} {n : Nat} {v : Value} {y : DataW H × List MemPlace} (h : DataW.trod enc Try.prog W 0 (fun _ => true) true n 79 [v] = some y) :
    ∃ p l c us, v = .slice p l c ∧ U16At W (.slice p l c) us := by
  rcases open_ints Try.underlying79 Try.underlying84 cells84' h with ⟨hv, _⟩ | ⟨a, len, cap, zs, hv, _, hlc, hcm, hz, _, hc, hwf⟩
  · obtain rfl : v = .slice none 0 0 := by simpa using hv
    exact ⟨none, 0, 0, [], rfl, none, 0, rfl, by simp, fun i => by simp [nthN], fun h => by simp at h⟩
  · obtain rfl : v = .slice (some a) len cap := by simpa using hv
    have hz' : zs.length = cap := by simpa using hz
    unfold maxLen at hcm
    have hlen : ((zs.take len).map Int.toNat).length = len := by simp; omega
    have hb : ∀ n ∈ zs, 0 ≤ n ∧ n ≤ 65535 := fun n hn => by
      have := hwf n hn
      have h2 : IntKind.u16.min ≤ n ∧ n ≤ IntKind.u16.max := by simpa [Lit.wf] using this
      rw [show IntKind.u16.min = 0 from rfl, show IntKind.u16.max = 65535 from rfl] at h2
      exact h2
    refine ⟨some a, len, cap, (zs.take len).map Int.toNat, rfl, some a, cap, by rw [hlen], by rw [hlen]; omega, fun i => ?_, fun h0 => ?_⟩
    · unfold nthN
      by_cases hi : i < len
      · have hi2 : i < zs.length := by omega
        have := hb zs[i] (List.getElem_mem _)
        simp [hi, hi2]; omega
      · rw [List.getElem?_eq_none (by simp; omega)]; simp
    · have hl0 : 0 < len := by omega
      have hc0 := hc 0 (by omega)
      have he0 : a.add 0 = a := by simp [Addr.add]
      rw [he0] at hc0
      have hsp := spot_none hc0
      obtain ⟨b, off, sp⟩ := a
      simp only at hsp
      subst hsp
      refine ⟨b, off, rfl, World.block_lt_of_cell? W ⟨b, off, none⟩ hc0, fun i hi => ?_⟩
      have hil : i < len := by omega
      have hi2 : i < zs.length := by omega
      have := hc i (by omega)
      rw [addr_add] at this
      rw [this]
      have hbd := hb zs[i] (List.getElem_mem _)
      congr 2
      unfold nthN
      simp [hil, hi2]; omega

end Go.Proofs.Ytjobbleabepaiaa
