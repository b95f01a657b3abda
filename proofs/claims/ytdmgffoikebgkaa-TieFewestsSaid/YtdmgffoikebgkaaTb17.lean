/- Looms that came in: a byte, two rows of bytes and a row of 16 bits. -/
import Derived.Test.YtdmgffoikebgkaaRows
import Derived.Test.YtdmgffoikebgkaaChecked
import Derived.Test.YtdmgffoikebgkaaTb02
import Derived.ProofKit
import Derived.Lib.SmallJoins
namespace Go.Proofs.Ytdmgffoikebgkaa
open Go.ChangeShapes Go.WideShapes Go.ChangeAt Go.RowKit Go.Joins

theorem Try.own' : ownKnob Try.prog.godebug = none := by kernel_rfl
theorem Try.laidOut' : laidOutB Try.prog = true := by kernel_rfl
theorem spot_none {W : World} {a : Addr} {v : Value} (h : W.cell? a = some v) : a.spot = none := by
  unfold World.cell? at h
  split at h
  · split at h
    · cases h
    · rename_i hs
      cases hsp : a.spot with
      | none => rfl
      | some x => simp [hsp] at hs
  · cases h
/-- what a slice of integers that came in holds -/
theorem addr_add (b o j : Nat) : (⟨b, o, none⟩ : Addr).add j = ⟨b, o + j, none⟩ := by
  unfold Addr.add
  by_cases h : j = 0
  · simp [h]
  · simp [h]
set_option maxHeartbeats 1000000 in
theorem u8_of {a : Int} (h : (Lit.int .u8 a).wf = true) : ∃ n : Nat, a = (n : Int) ∧ n < 256 := by
  have h2 : IntKind.u8.min ≤ a ∧ a ≤ IntKind.u8.max := by simpa [Lit.wf] using h
  rw [show IntKind.u8.min = 0 from rfl, show IntKind.u8.max = 255 from rfl] at h2
  exact ⟨a.toNat, by omega, by omega⟩
theorem u8s_of_trod {H : Type} {enc : TypeId × Value → H} {W : World} {n : Nat} {v : Value} {y : DataW H × List MemPlace} (h : DataW.trod enc Try.prog W 0 (fun _ => true) true n 89 [v] = some y) :
    ∃ p c us, v = .slice p us.length c ∧ ByteRow W p us ∧ us.length ≤ 9223372036854775807 := by
  rcases open_ints Try.underlying89 Try.underlying5 (by kernel_rfl) h with ⟨hv, _⟩ | ⟨a, len, cap, zs, hv, _, hlc, hcm, hz, _, hc, hwf⟩
  · obtain rfl : v = .slice none 0 0 := by simpa using hv
    exact ⟨none, 0, [], rfl, fun h => by simp at h, by simp⟩
  · obtain rfl : v = .slice (some a) len cap := by simpa using hv
    have hz' : zs.length = cap := by simpa using hz
    unfold maxLen at hcm
    have hlen : ((zs.take len).map Int.toNat).length = len := by simp; omega
    have hb : ∀ n ∈ zs, 0 ≤ n ∧ n ≤ 255 := fun n hn => by
      have := hwf n hn
      have h2 : IntKind.u8.min ≤ n ∧ n ≤ IntKind.u8.max := by simpa [Lit.wf] using this
      rw [show IntKind.u8.min = 0 from rfl, show IntKind.u8.max = 255 from rfl] at h2
      exact h2
    refine ⟨some a, cap, (zs.take len).map Int.toNat, by rw [hlen], fun h0 => ?_, by rw [hlen]; omega⟩
    rw [hlen] at h0
    have hc0 := hc 0 (by omega)
    have he0 : a.add 0 = a := by simp [Addr.add]
    rw [he0] at hc0
    have hsp := spot_none hc0
    obtain ⟨b, off, sp⟩ := a
    simp only at hsp
    subst hsp
    refine ⟨b, off, rfl, World.block_lt_of_cell? W ⟨b, off, none⟩ hc0, fun i hi => ?_⟩
    rw [hlen] at hi
    have hi2 : i < zs.length := by omega
    have := hc i (by omega)
    rw [addr_add] at this
    rw [this]
    have hbd := hb zs[i] (List.getElem_mem _)
    have hnn : nthN ((zs.take len).map Int.toNat) i = zs[i].toNat := by unfold nthN; simp [hi, hi2]
    rw [hnn]
    exact ⟨by rw [Int.toNat_of_nonneg hbd.1]; simp [hi2], by omega⟩
theorem u16s_of_trod {H : Type} {enc : TypeId × Value → H} {W : World} {n : Nat} {v : Value} {y : DataW H × List MemPlace} (h : DataW.trod enc Try.prog W 0 (fun _ => true) true n 90 [v] = some y) :
    ∃ p c us, v = .slice p us.length c ∧ WordRow W p us ∧ us.length ≤ 9223372036854775807 := by
  rcases open_ints Try.underlying90 Try.underlying184 (by kernel_rfl) h with ⟨hv, _⟩ | ⟨a, len, cap, zs, hv, _, hlc, hcm, hz, _, hc, hwf⟩
  · obtain rfl : v = .slice none 0 0 := by simpa using hv
    exact ⟨none, 0, [], rfl, fun h => by simp at h, by simp⟩
  · obtain rfl : v = .slice (some a) len cap := by simpa using hv
    have hz' : zs.length = cap := by simpa using hz
    unfold maxLen at hcm
    have hlen : ((zs.take len).map Int.toNat).length = len := by simp; omega
    have hb : ∀ n ∈ zs, 0 ≤ n ∧ n ≤ 65535 := fun n hn => by
      have := hwf n hn
      have h2 : IntKind.u16.min ≤ n ∧ n ≤ IntKind.u16.max := by simpa [Lit.wf] using this
      rw [show IntKind.u16.min = 0 from rfl, show IntKind.u16.max = 65535 from rfl] at h2
      exact h2
    refine ⟨some a, cap, (zs.take len).map Int.toNat, by rw [hlen], fun h0 => ?_, by rw [hlen]; omega⟩
    rw [hlen] at h0
    have hc0 := hc 0 (by omega)
    have he0 : a.add 0 = a := by simp [Addr.add]
    rw [he0] at hc0
    have hsp := spot_none hc0
    obtain ⟨b, off, sp⟩ := a
    simp only at hsp
    subst hsp
    refine ⟨b, off, rfl, World.block_lt_of_cell? W ⟨b, off, none⟩ hc0, fun i hi => ?_⟩
    rw [hlen] at hi
    have hi2 : i < zs.length := by omega
    have := hc i (by omega)
    rw [addr_add] at this
    rw [this]
    have hbd := hb zs[i] (List.getElem_mem _)
    have hnn : nthN ((zs.take len).map Int.toNat) i = zs[i].toNat := by unfold nthN; simp [hi, hi2]
    rw [hnn]
    exact ⟨by rw [Int.toNat_of_nonneg hbd.1]; simp [hi2], by omega⟩
end Go.Proofs.Ytdmgffoikebgkaa
