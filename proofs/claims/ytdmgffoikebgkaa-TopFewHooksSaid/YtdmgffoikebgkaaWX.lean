/- sameSize, Like, Same. -/
import Derived.Test.YtdmgffoikebgkaaWH
import Derived.RegionTactic
namespace Go.Proofs.Ytdmgffoikebgkaa
open Go.RowKit

set_option maxHeartbeats 1000000 in
theorem sameSize_any (h1 h2 : Int) (p1 p2 : Option Addr) (l1 l2 c1 c2 : Nat) (w : World) :
    Calls Try.prog 161 #[.agg #[.int .i64 h1, .slice p1 l1 c1], .agg #[.int .i64 h2, .slice p2 l2 c2]] w fun e w' => e = .returned (.bool (decide (h1 = h2 ∧ l1 = l2))) ∧ Below w.heap.size w w' := by
  by_cases ha : h1 = h2
  · have hb : (h1 == h2) = true := by simpa using ha
    by_cases hl : l1 = l2
    · have hb2 : (((l1 : Nat) : Int) == ((l2 : Nat) : Int)) = true := by rw [beq_iff_eq]; omega
      have Ha := Lib.hid ha
      have Hl := Lib.hid hl
      clear ha hl
      go_enter Try.func161, Try.ntmps161
      go_wp2
      go_ret
      exact ⟨ret_bool (by simp [Ha.out, Hl.out]), ((Below.refl _ _).alloc (Nat.le_refl _) _).alloc (by simp) _⟩
    · have hb2 : (((l1 : Nat) : Int) == ((l2 : Nat) : Int)) = false := by rw [beq_eq_false_iff_ne]; omega
      have Hl := Lib.hid hl
      clear ha hl
      go_enter Try.func161, Try.ntmps161
      go_wp2
      go_ret
      exact ⟨ret_bool (by simp [Hl.out]), ((Below.refl _ _).alloc (Nat.le_refl _) _).alloc (by simp) _⟩
  · have hb : (h1 == h2) = false := by simpa using ha
    have Ha := Lib.hid ha
    clear ha
    go_enter Try.func161, Try.ntmps161
    go_wp2
    go_ret
    exact ⟨ret_bool (by simp [Ha.out]), ((Below.refl _ _).alloc (Nat.le_refl _) _).alloc (by simp) _⟩
set_option maxHeartbeats 1000000 in
theorem Like_any (h1 h2 : Int) (p1 p2 : Option Addr) (l1 l2 c1 c2 : Nat) (w : World) :
    Calls Try.prog 121 #[.agg #[.int .i64 h1, .slice p1 l1 c1], .agg #[.int .i64 h2, .slice p2 l2 c2]] w fun e w' => e = .returned (.bool (decide (h1 = h2 ∧ l1 = l2))) ∧ Below w.heap.size w w' := by
  by_cases ha : h1 = h2
  · have hb : (h1 == h2) = true := by simpa using ha
    by_cases hl : l1 = l2
    · have hb2 : (((l1 : Nat) : Int) == ((l2 : Nat) : Int)) = true := by rw [beq_iff_eq]; omega
      have Ha := Lib.hid ha
      have Hl := Lib.hid hl
      clear ha hl
      go_enter Try.func121, Try.ntmps121
      go_wp2
      go_ret
      exact ⟨ret_bool (by simp [Ha.out, Hl.out]), ((Below.refl _ _).alloc (Nat.le_refl _) _).alloc (by simp) _⟩
    · have hb2 : (((l1 : Nat) : Int) == ((l2 : Nat) : Int)) = false := by rw [beq_eq_false_iff_ne]; omega
      have Hl := Lib.hid hl
      clear ha hl
      go_enter Try.func121, Try.ntmps121
      go_wp2
      go_ret
      exact ⟨ret_bool (by simp [Hl.out]), ((Below.refl _ _).alloc (Nat.le_refl _) _).alloc (by simp) _⟩
  · have hb : (h1 == h2) = false := by simpa using ha
    have Ha := Lib.hid ha
    clear ha
    go_enter Try.func121, Try.ntmps121
    go_wp2
    go_ret
    exact ⟨ret_bool (by simp [Ha.out]), ((Below.refl _ _).alloc (Nat.le_refl _) _).alloc (by simp) _⟩

/-- two boxed designs -/
structure TwoAt (w0 : World) (v1 v2 : Value) (W : World) : Prop where
  c1 : W.cell? ⟨w0.heap.size, 1, none⟩ = some v1
  c2 : W.cell? ⟨w0.heap.size + 1, 1, none⟩ = some v2
  below : Below w0.heap.size w0 W
theorem TwoAt.drew {w0 W : World} {v1 v2 : Value} (h : TwoAt w0 v1 v2 W) : TwoAt w0 v1 v2 W.drew := ⟨h.c1, h.c2, h.below.drew⟩
theorem lists_eq (xs ys : List Int) (hl : xs.length = ys.length) (h : ∀ i, i < xs.length → nthI xs i = nthI ys i) : xs = ys := by
  apply List.ext_getElem hl
  intro i h1 h2
  have := h i h1
  rwa [nthI_get xs i h1, nthI_get ys i h2] at this
set_option maxRecDepth 100000 in
set_option maxHeartbeats 1000000 in
theorem Same_any (h1 h2 : Int) (p1 p2 : Option Addr) (c1 c2 : Nat) (xs ys : List Int) (w : World) (hx : Reads w (.slice p1 xs.length c1) xs) (hy : Reads w (.slice p2 ys.length c2) ys) :
    Calls Try.prog 40 #[.agg #[.int .i64 h1, .slice p1 xs.length c1], .agg #[.int .i64 h2, .slice p2 ys.length c2]] w fun e w' => e = .returned (.bool (decide (h1 = h2 ∧ xs = ys))) ∧ Below w.heap.size w w' := by
  have HLike := fun w => Like_any h1 h2 p1 p2 xs.length ys.length c1 c2 w
  by_cases hs : h1 = h2 ∧ xs.length = ys.length
  · obtain ⟨rfl, hl⟩ := hs
    have Hl := Lib.hid hl
    have hd : decide (h1 = h1 ∧ xs.length = ys.length) = true := by simp [hl]
    rw [hd] at HLike
    obtain ⟨q, cx, ex, hxl, hxr⟩ := hx
    obtain ⟨q2, cy, ey, _, hyr⟩ := hy
    simp at ex ey
    obtain ⟨rfl, rfl⟩ := ex
    obtain ⟨rfl, rfl⟩ := ey
    have HX := Lib.hid hxr
    have HY := Lib.hid hyr
    have hyl' : xs.length ≤ 17592186044416 := hxl
    clear hd hl hxr hyr hxl
    go_enter Try.func40, Try.ntmps40
    go_wp2_with fail
    refine (HLike _).mono ?_
    rintro e w1 ⟨rfl, hb1⟩
    have hT : TwoAt w (.slice p1 xs.length c1) (.slice p2 ys.length c2) w1 := by
      refine ⟨(hb1.cell (p := ⟨w.heap.size, 1, none⟩) (by show w.heap.size < _; simp; omega)).trans ?_, (hb1.cell (p := ⟨w.heap.size + 1, 1, none⟩) (by show w.heap.size + 1 < _; simp)).trans (by simp), (((Below.refl _ _).alloc (Nat.le_refl _) _).alloc (by simp) _).trans (hb1.mono (by simp; omega))⟩
      exact (((Below.refl (w.heap.size + 1) (w.alloc (.cells #[.int .i64 h1, .slice p1 xs.length c1] 37))).alloc (by simp) _).cell (p := ⟨w.heap.size, 1, none⟩) (by simp)).trans (by simp)
    have HT := Lib.hid hT
    clear hb1 hT
    go_wp2
    go_loopw [5] (fun i wr => ∃ k : Nat, k ≤ xs.length ∧ i = .int .i64 k ∧ (∀ i, i < k → nthI xs i = nthI ys i) ∧ TwoAt w (.slice p1 xs.length c1) (.slice p2 ys.length c2) wr) (fun i _ => xs.length - (intOf i).toNat)
    case atStart => exact ⟨0, Nat.zero_le _, rfl, fun i hi => by omega, HT.out⟩
    case round =>
      obtain ⟨k, hk, rfl, he, hT⟩ := hrel
      have He := Lib.hid he
      have g1 := hT.c1
      have g2 := hT.c2
      have HT := Lib.hid hT
      clear he hT
      by_cases hlt : k < xs.length
      · obtain ⟨b1, o1, rfl, hb1, hi1⟩ := HX.out (by omega)
        obtain ⟨b2, o2, rfl, hb2, hi2⟩ := HY.out (by have := Hl.out; omega)
        have x1 := (hi1.below HT.out.below hb1) k hlt
        have x2 := (hi2.below HT.out.below hb2) k (by have := Hl.out; omega)
        have hk0 : (0 : Int) ≤ (k : Int) := by omega
        have hk1 : (k : Int) < (xs.length : Int) := by omega
        have hk2 : (k : Int) < (ys.length : Int) := by have := Hl.out; omega
        by_cases heq : nthI xs k = nthI ys k
        · have hne : (nthI xs k != nthI ys k) = false := by simpa using heq
          have Heq := Lib.hid heq
          clear heq hi1 hi2
          go_wp2
          go_region
          all_goals go_wp2
          all_goals go_roundw
          all_goals first | (simp [intOf]; omega) | skip
          all_goals refine ⟨k + 1, by omega, by go_num, fun i hi => ?_, HT.out.drew⟩
          all_goals by_cases h : i = k
          all_goals first | (rw [h]; exact Heq.out) | exact He.out i (by omega)
        · have hne : (nthI xs k != nthI ys k) = true := by simpa using heq
          have hf : ¬ xs = ys := fun b => heq (by rw [b])
          have Hf := Lib.hid hf
          clear heq hi1 hi2 hf
          go_wp2
          go_region
          all_goals go_wp2
          all_goals go_ret
          all_goals exact ⟨ret_bool (by simp [Hf.out]), HT.out.below.drew⟩
      · obtain rfl : k = xs.length := by omega
        go_wp2
        go_ret
        exact ⟨ret_bool (by rw [lists_eq xs ys Hl.out He.out]; simp), HT.out.below⟩
  · have hd : decide (h1 = h2 ∧ xs.length = ys.length) = false := by simpa using hs
    have hf : decide (h1 = h2 ∧ xs = ys) = false := by
      rw [decide_eq_false_iff_not]
      rintro ⟨a, b⟩
      exact hs ⟨a, by rw [b]⟩
    rw [hd] at HLike
    have Hf := Lib.hid hf
    clear hs hd hf hx hy
    go_enter Try.func40, Try.ntmps40
    go_wp2_with fail
    refine (HLike _).mono ?_
    rintro e w1 ⟨rfl, hb1⟩
    go_wp2
    go_ret
    exact ⟨ret_bool (by rw [Hf.out]), (((Below.refl _ _).alloc (Nat.le_refl _) _).alloc (by simp) _).trans (hb1.mono (by simp; omega))⟩
end Go.Proofs.Ytdmgffoikebgkaa
