/- bind. -/
import Derived.Test.YtjobbleabepaiaaWZ
namespace Go.Proofs.Ytjobbleabepaiaa
open Go.RowKit

def bindTo (s p f m : Nat) : Nat → Nat
  | 0 => never
  | k + 1 => min (min (bindTo s p f m k) (withLeadN s p f m 0 (k + 1))) (withLeadN s p f m 1 (k + 1))
def bindN (s p f m : Nat) : Nat := bindTo s p f m (longestN s m)
/-- the best after some lifts of one lead -/
def bindMid (s p f m lead best : Nat) : Nat → Nat
  | 0 => best
  | j + 1 => min (bindMid s p f m lead best j) (withLeadN s p f m j lead)
theorem bindMid_two (s p f m k : Nat) : bindMid s p f m (k + 1) (bindTo s p f m k) 2 = bindTo s p f m (k + 1) := rfl
theorem bindTo_le (s p f m : Nat) : ∀ k, bindTo s p f m k ≤ never
  | 0 => Nat.le_refl _
  | k + 1 => by have := bindTo_le s p f m k; simp only [bindTo]; omega

set_option maxRecDepth 100000 in
set_option maxHeartbeats 2000000 in
theorem bind_any (s p f m : Nat) (w : World) (hs : 1 ≤ s) (hs2 : s ≤ 24) (hm1 : 1 ≤ m) (hm : m ≤ 24) (hp : p < 16777216) (hf : f < 16777216) :
    Calls Try.prog 72 #[bnd s p f m] w fun e w' => e = .returned (.int .i64 (bindN s p f m : Int)) ∧ Below w.heap.size w w' := by
  have hLL : longestN s m ≤ s - 1 := by unfold longestN; omega
  have HL := fun w => longest_any s p f m w hs hs2 hm
  have HW0 := fun lead w h1 h2 h3 => withLead0_any s p f m lead w h1 hs2 hm1 hm hp hf h2 h3
  have HW1 := fun lead w h1 h2 h3 => withLead1_any s p f m lead w h1 hs2 hm1 hm hp hf h2 h3
  unfold bnd at HL HW0 HW1 ⊢
  obtain ⟨W0, hW0⟩ : ∃ W0, w.alloc (.cells #[.int .i64 (s : Int), .int .i64 (p : Int), .int .i64 (f : Int), .int .i64 (m : Int)] 114) = W0 := ⟨_, rfl⟩
  have k0 : W0.cell? ⟨w.heap.size, 0, none⟩ = some (.int .i64 (s : Int)) := by rw [← hW0]; exact (cell_of_row _ _ 0 _ _ _ (World.alloc_heap_new w _)).trans rfl
  have k1 : W0.cell? ⟨w.heap.size, 1, none⟩ = some (.int .i64 (p : Int)) := by rw [← hW0]; exact (cell_of_row _ _ 1 _ _ _ (World.alloc_heap_new w _)).trans rfl
  have k2 : W0.cell? ⟨w.heap.size, 2, none⟩ = some (.int .i64 (f : Int)) := by rw [← hW0]; exact (cell_of_row _ _ 2 _ _ _ (World.alloc_heap_new w _)).trans rfl
  have k3 : W0.cell? ⟨w.heap.size, 3, none⟩ = some (.int .i64 (m : Int)) := by rw [← hW0]; exact (cell_of_row _ _ 3 _ _ _ (World.alloc_heap_new w _)).trans rfl
  have z0 : W0.heap.size = w.heap.size + 1 := by rw [← hW0]; simp
  have hB0 : Below w.heap.size w W0 := by rw [← hW0]; exact (Below.refl _ _).alloc (Nat.le_refl _) _
  have HC : Hid (∀ W, Below W0.heap.size W0 W → W.cell? ⟨w.heap.size, 0, none⟩ = some (.int .i64 (s : Int)) ∧ W.cell? ⟨w.heap.size, 1, none⟩ = some (.int .i64 (p : Int)) ∧ W.cell? ⟨w.heap.size, 2, none⟩ = some (.int .i64 (f : Int)) ∧ W.cell? ⟨w.heap.size, 3, none⟩ = some (.int .i64 (m : Int))) := Lib.hid (fun W hB => by
    have e : ∀ j, W.cell? ⟨w.heap.size, j, none⟩ = W0.cell? ⟨w.heap.size, j, none⟩ := fun j => hB.cell (p := ⟨w.heap.size, j, none⟩) (by rw [z0]; show w.heap.size < _; omega)
    exact ⟨(e 0).trans k0, (e 1).trans k1, (e 2).trans k2, (e 3).trans k3⟩)
  have HB0 := Lib.hid hB0
  clear z0 hB0 k0 k1 k2 k3
  go_enter Try.func72, Try.ntmps72
  go_wp2_with fail
  clear hW0
  go_loopw [3, 4] (fun bv lv wr => ∃ k : Nat, k ≤ longestN s m ∧ lv = .int .i64 ((k + 1 : Nat) : Int) ∧ bv = .int .i64 (bindTo s p f m k : Int) ∧ Below W0.heap.size W0 wr) (fun _ lv _ => longestN s m + 1 - (intOf lv).toNat)
  case atStart => exact ⟨0, Nat.zero_le _, rfl, rfl, Below.refl _ _⟩
  case round =>
    obtain ⟨k, hk, rfl, rfl, hB⟩ := hrel
    obtain ⟨c0, c1, c2, c3⟩ := HC.out _ hB
    have HB := Lib.hid hB
    clear hB
    obtain ⟨lead, hld⟩ : ∃ lead, lead = k + 1 := ⟨_, rfl⟩
    rw [← hld]
    have Hld := Lib.hid hld
    have hl1 : 1 ≤ lead := by omega
    have hl2 : lead ≤ longestN s m + 1 := by omega
    clear hld
    go_wp2_with fail
    refine (HL _).mono ?_
    rintro e w1 ⟨rfl, hb1⟩
    have HB1 := Lib.hid (HB.out.trans (hb1.mono HB.out.size))
    clear hb1 c0 c1 c2 c3
    by_cases hle : lead ≤ longestN s m
    · go_wp2_with fail
      go_loopw [3, 5, 12] (fun bv _ i wr => ∃ j : Nat, j ≤ 2 ∧ i = .int .i64 j ∧ bv = .int .i64 (bindMid s p f m lead (bindTo s p f m k) j : Int) ∧ Below W0.heap.size W0 wr) (fun _ _ i _ => 2 - (intOf i).toNat)
      case atStart => exact ⟨0, by omega, rfl, rfl, HB1.out⟩
      case round =>
        obtain ⟨j, hj, rfl, rfl, hB⟩ := hrel
        obtain ⟨c0, c1, c2, c3⟩ := HC.out _ hB
        have HB := Lib.hid hB
        clear hB
        rcases (show j = 0 ∨ j = 1 ∨ j = 2 by omega) with rfl | rfl | rfl
        · obtain ⟨A, hA⟩ : ∃ A, A = bindMid s p f m lead (bindTo s p f m k) 0 := ⟨_, rfl⟩
          rw [← hA]
          have HA := Lib.hid hA
          clear hA
          go_wp2_with fail
          refine (HW0 lead _ (by omega) hl1 hle).mono ?_
          rintro e w2 ⟨rfl, hb2⟩
          have HB2 := Lib.hid (HB.out.trans (hb2.mono HB.out.size))
          clear hb2
          obtain ⟨X, hX⟩ : ∃ X, X = withLeadN s p f m 0 lead := ⟨_, rfl⟩
          rw [← hX]
          have HX := Lib.hid hX
          clear hX
          go_wp2
          refine ⟨⟨1, by omega, rfl, ?_, HB2.out⟩, by simp [intOf]⟩
          rw [bindMid, ← HA.out, ← HX.out]
          congr 1
          split <;> omega
        · obtain ⟨A, hA⟩ : ∃ A, A = bindMid s p f m lead (bindTo s p f m k) 1 := ⟨_, rfl⟩
          rw [← hA]
          have HA := Lib.hid hA
          clear hA
          go_wp2_with fail
          refine (HW1 lead _ (by omega) hl1 hle).mono ?_
          rintro e w2 ⟨rfl, hb2⟩
          have HB2 := Lib.hid (HB.out.trans (hb2.mono HB.out.size))
          clear hb2
          obtain ⟨X, hX⟩ : ∃ X, X = withLeadN s p f m 1 lead := ⟨_, rfl⟩
          rw [← hX]
          have HX := Lib.hid hX
          clear hX
          go_wp2
          refine ⟨⟨2, by omega, rfl, ?_, HB2.out⟩, by simp [intOf]⟩
          rw [bindMid, ← HA.out, ← HX.out]
          congr 1
          split <;> omega
        · go_wp2
          go_roundw
          case rel => exact ⟨k + 1, by have := Hld.out; omega, by rw [show ((k + 1 + 1 : Nat) : Int) = (lead : Int) + 1 by have := Hld.out; omega], by rw [Hld.out, bindMid_two], HB.out⟩
          case measure => simp [intOf]; omega
    · have hke : k = longestN s m := by have := Hld.out; omega
      have Hke := Lib.hid hke
      clear hke
      go_wp2
      go_ret
      exact ⟨ret_int (by unfold bindN; rw [Hke.out]), HB0.out.trans (HB1.out.mono HB0.out.size)⟩
end Go.Proofs.Ytjobbleabepaiaa
