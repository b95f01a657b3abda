/- the walk of further. -/
import Derived.Test.YtdmgffoikebgkaaWR
namespace Go.Proofs.Ytdmgffoikebgkaa
open Go.RowKit

set_option maxRecDepth 100000 in
set_option maxHeartbeats 4000000 in
theorem further_any (s p f m h M : Nat) (now : List Nat) (w : World) (hs : 2 ≤ s) (hs2 : s ≤ 24) (hm1 : 1 ≤ m) (hm : m ≤ 24) (hp : p < 16777216) (hf : f < 16777216) (hh : h < 24) (hnl : now.length = 48) (hM : M < 549755813888) (hnM : AllLe M now) :
    Calls Try.prog 214 #[bnd s p f m, .agg (now.map natV).toArray, .int .i64 (h : Int)] w fun e w' => e = .returned (.agg ((furN p f h (longestN s m) now).map natV).toArray) ∧ Below w.heap.size w w' := by
  unfold bnd
  have HL := fun w => longest_any s p f m w (by omega) hs2 hm
  have HP := fun c l w hc hl => put_any s p f m c h l w hp hf hc hh hl
  unfold bnd at HL HP
  have HP0 : ∀ (c : Nat) (w : World), c < 1099511627776 → Calls Try.prog 212 #[.agg #[.int .i64 (s : Int), .int .i64 (p : Int), .int .i64 (f : Int), .int .i64 (m : Int)], .int .i64 (c : Int), .int .i64 (h : Int), .int .i64 0] w fun e w' => e = .returned (.int .i64 (putN p f c h 0 : Int)) ∧ Below w.heap.size w w' := fun c w hc => HP c 0 w hc (Nat.zero_le _)
  have HP1 : ∀ (c : Nat) (w : World), c < 1099511627776 → Calls Try.prog 212 #[.agg #[.int .i64 (s : Int), .int .i64 (p : Int), .int .i64 (f : Int), .int .i64 (m : Int)], .int .i64 (c : Int), .int .i64 (h : Int), .int .i64 1] w fun e w' => e = .returned (.int .i64 (putN p f c h 1 : Int)) ∧ Below w.heap.size w w' := fun c w hc => HP c 1 w hc (Nat.le_refl _)
  go_enter Try.func214, Try.ntmps214
  go_wp2_with fail
  refine (impossible_any _).mono ?_
  rintro e w1 ⟨rfl, hb1⟩
  go_wp2_with (first | (with_reducible refine stopLoad ?_) | (with_reducible refine stopStore ?_))
  unfold Shut
  obtain ⟨W0, hW0⟩ : ∃ W0, W0 = ((w.alloc (.cells #[.int .i64 (s : Int), .int .i64 (p : Int), .int .i64 (f : Int), .int .i64 (m : Int)] 194)).alloc (.cells (now.map natV).toArray 270)).alloc (.cells ((fillTo 0).map natV).toArray 270) := ⟨_, rfl⟩
  have hb1' : Below W0.heap.size W0 w1 := by rw [hW0]; exact hb1
  have hz0 : W0.heap.size = w.heap.size + 1 + 1 + 1 := by rw [hW0]; simp
  have hB00 : Below w.heap.size w W0 := by rw [hW0]; exact (((Below.refl _ _).alloc (Nat.le_refl _) _).alloc (by simp) _).alloc (by simp; omega) _
  have e0 : ∀ j, W0.cell? ⟨w.heap.size, j, none⟩ = (w.alloc (.cells #[.int .i64 (s : Int), .int .i64 (p : Int), .int .i64 (f : Int), .int .i64 (m : Int)] 194)).cell? ⟨w.heap.size, j, none⟩ := fun j => by
    rw [hW0]
    exact (((Below.refl (w.heap.size + 1) (w.alloc (.cells #[.int .i64 (s : Int), .int .i64 (p : Int), .int .i64 (f : Int), .int .i64 (m : Int)] 194))).alloc (by simp) _).alloc (by simp) _).cell (p := ⟨w.heap.size, j, none⟩) (by simp)
  have t1 : Tab W0 (w.heap.size + 1) now := by
    rw [hW0]
    have := World.alloc_heap_new (w.alloc (.cells #[.int .i64 (s : Int), .int .i64 (p : Int), .int .i64 (f : Int), .int .i64 (m : Int)] 194)) (.cells (now.map natV).toArray 270)
    rw [World.size_alloc] at this
    exact (Below.heap_alloc _ _ _ (by simp)).trans this
  have t2 : Tab W0 (w.heap.size + 1 + 1) (fillTo 0) := by
    rw [hW0]
    have := World.alloc_heap_new ((w.alloc (.cells #[.int .i64 (s : Int), .int .i64 (p : Int), .int .i64 (f : Int), .int .i64 (m : Int)] 194)).alloc (.cells (now.map natV).toArray 270)) (.cells ((fillTo 0).map natV).toArray 270)
    simp only [World.size_alloc] at this
    exact this
  obtain ⟨W1, hW1⟩ : ∃ W1, W1 = w1.alloc (.cells ((fillTo 0).map natV).toArray 270) := ⟨_, rfl⟩
  have t3 : Tab W1 w1.heap.size (fillTo 0) := by rw [hW1]; exact World.alloc_heap_new _ _
  obtain ⟨W2, hW2⟩ : ∃ W2, W2 = W1.setRow w1.heap.size (noTab.map natV).toArray := ⟨_, rfl⟩
  have t4 : Tab W2 w1.heap.size noTab := by rw [hW2]; exact t3.row
  have hs1 : w.heap.size + 1 + 1 < w1.heap.size := by have := hb1'.size; omega
  have hB12 : Below w1.heap.size w1 W2 := by rw [hW2]; refine below_setRow ?_ _ (Nat.le_refl _); rw [hW1]; exact (Below.refl _ _).alloc (Nat.le_refl _) _
  have hB02 : Below W0.heap.size W0 W2 := hb1'.trans (hB12.mono hb1'.size)
  have hB2 : Below w.heap.size w W2 := hB00.trans (hB02.mono hB00.size)
  have hF2 : FurAt w.heap.size s p f m w1.heap.size now noTab W2 := by
    have ec : ∀ j, W2.cell? ⟨w.heap.size, j, none⟩ = (w.alloc (.cells #[.int .i64 (s : Int), .int .i64 (p : Int), .int .i64 (f : Int), .int .i64 (m : Int)] 194)).cell? ⟨w.heap.size, j, none⟩ := fun j => (hB02.cell (p := ⟨w.heap.size, j, none⟩) (by show w.heap.size < _; omega)).trans (e0 j)
    exact ⟨(ec 0).trans ((cell_of_row _ _ 0 _ _ _ (World.alloc_heap_new w _)).trans rfl), (ec 1).trans ((cell_of_row _ _ 1 _ _ _ (World.alloc_heap_new w _)).trans rfl), (ec 2).trans ((cell_of_row _ _ 2 _ _ _ (World.alloc_heap_new w _)).trans rfl), (ec 3).trans ((cell_of_row _ _ 3 _ _ _ (World.alloc_heap_new w _)).trans rfl), t1.below hB02 t1.lt, t2.below hB02 t2.lt, t4, hs1⟩
  rw [hW1] at t3
  refine wpList_store_row (w := w1.alloc (.cells ((fillTo 0).map natV).toArray 270)) rfl 270 _ _ rfl w1.heap.size (noTab.map natV).toArray rfl rfl 270 _ t3 (by rw [info141]; simp [noTab]) (by simp [fillTo_len, noTab]) (tab_all _) ?_
  rw [← hW1, ← hW2]
  clear t1 t2 t3 t4 e0 hB12 hB02 hB00 hb1' hb1 hz0
  clear hW0 hW1 hW2
  obtain ⟨NB, hNB⟩ : ∃ NB, NB = w1.heap.size := ⟨_, rfl⟩
  rw [← hNB] at hF2 hs1 ⊢
  clear hNB
  have HF := Lib.hid hF2
  have HB := Lib.hid hB2
  clear hF2 hB2
  have hLL : longestN s m ≤ 23 := by unfold longestN; omega
  have hL1 : 1 ≤ longestN s m := by unfold longestN; omega
  go_wp2
  go_loopw [12] (fun i wr => ∃ k : Nat, k ≤ 2 ∧ i = .int .i64 k ∧ FurAt w.heap.size s p f m NB now (furOut p f h (longestN s m) now k) wr ∧ Below w.heap.size w wr) (fun i _ => 2 - (intOf i).toNat)
  case atStart => exact ⟨0, by omega, rfl, HF.out, HB.out⟩
  case round =>
    obtain ⟨k, hk, rfl, hF, hB⟩ := hrel
    obtain ⟨wo, rfl⟩ : ∃ wo : World, wo = wr := ⟨_, rfl⟩
    have HF := Lib.hid hF
    have HB := Lib.hid hB
    clear hF hB
    rcases (show k = 0 ∨ k = 1 ∨ k = 2 by omega) with rfl | rfl | rfl
    ·
      go_wp2
      go_loopw [9, 10] (fun i _ wr => ∃ len : Nat, 1 ≤ len ∧ len ≤ longestN s m + 1 ∧ i = .int .i64 len ∧ FurAt w.heap.size s p f m NB now (furIn p f h (longestN s m) now 0 (furOut p f h (longestN s m) now 0) (len - 1)) wr ∧ Below w.heap.size w wr) (fun i _ _ => longestN s m + 1 - (intOf i).toNat)
      case atStart => exact ⟨1, by omega, by omega, rfl, HF.out, HB.out⟩
      case round =>
        obtain ⟨len, hl1, hl2, rfl, hF, hB⟩ := hrel
        have HF := Lib.hid hF
        have HB := Lib.hid hB
        clear hF hB
        have c0 := HF.out.c0
        have c1 := HF.out.c1
        have c2 := HF.out.c2
        have c3 := HF.out.c3
        have hlen : (furIn p f h (longestN s m) now 0 (furOut p f h (longestN s m) now 0) (len - 1)).length = 48 := by rw [furIn_len, furOut_len]
        have hcl := hnM (len)
        have hcl2 : nthN now (len) < 1099511627776 := by omega
        clear hcl
        by_cases hle : len ≤ longestN s m
        · by_cases hlt : len < longestN s m
          · go_wp2_with fail
            refine (HL _).mono ?_
            rintro e w2 ⟨rfl, hb2⟩
            have HF2 := Lib.hid (HF.out.below hb2)
            have HB2 := Lib.hid (HB.out.trans (hb2.mono HB.out.size))
            have d0 := HF2.out.c0
            have d1 := HF2.out.c1
            have d2 := HF2.out.c2
            have d3 := HF2.out.c3
            have dn := HF2.out.now'.cell (i := len) (by rw [hnl]; omega)
            clear hb2
            go_wp2_with fail
            refine (HL _).mono ?_
            rintro e w3 ⟨rfl, hb3⟩
            have HF3 := Lib.hid (HF2.out.below hb3).drew
            have HB3 := Lib.hid (HB2.out.trans (hb3.mono HB2.out.size)).drew
            have f0 : w3.cell? _ = _ := HF3.out.c0
            have f1 : w3.cell? _ = _ := HF3.out.c1
            have f2 : w3.cell? _ = _ := HF3.out.c2
            have f3 : w3.cell? _ = _ := HF3.out.c3
            clear hb3 d0 d1 d2 d3 dn c0 c1 c2 c3
            have hw1 : IntKind.i64.wrap ((len : Int) + 1) = (len : Int) + 1 := IntWalk.i64_in _ (by omega)
            have hi0 : (0 : Int) ≤ (len : Int) + 1 := by omega
            have hi1 : (len : Int) + 1 < 24 := by omega
            have hi2 : ((len : Int) + 1).toNat = len + 1 := by omega
            go_wp2_with fail
            go_region_with (first | ((with_reducible refine (HP0 (nthN now (len)) _ hcl2).mono ?_); rintro e w4 ⟨rfl, hb4⟩; have HF4 := Lib.hid (HF3.out.below hb4); have HB4 := Lib.hid (HB3.out.trans (hb4.mono HB3.out.size)); have g1 := HF4.out.next'.cell (i := len + 1) (by rw [hlen]; omega); have g2 := HF4.out.next'.frozen (len + 1)))
            obtain ⟨n1, hn1⟩ : ∃ n1, n1 = (furIn p f h (longestN s m) now 0 (furOut p f h (longestN s m) now 0) (len - 1)).set (len + 1) (putN p f (nthN now (len)) h 0) := ⟨_, rfl⟩
            obtain ⟨w5, hw5⟩ : ∃ w5, w5 = w4.setCell ⟨NB, len + 1, none⟩ (.int .i64 (putN p f (nthN now (len)) h 0 : Int)) := ⟨_, rfl⟩
            have HF5 : Hid (FurAt w.heap.size s p f m NB now n1 w5.drew) := Lib.hid (by rw [hn1, hw5]; exact (HF4.out.set (len + 1) _ (by rw [hlen]; omega)).drew)
            have HB5 : Hid (Below w.heap.size w w5.drew) := Lib.hid (by rw [hw5]; exact (HB4.out.setCell (by show w.heap.size ≤ NB; omega) _).drew)
            have hl1' : n1.length = 48 := by rw [hn1, List.length_set, hlen]
            rw [← hw5]
            have Hn1 := Lib.hid hn1
            clear hw5 hn1 g1 g2 hb4 f0 f1 f2 f3 HF4 HB4
            have e0 : w5.cell? _ = _ := HF5.out.c0
            have e1 : w5.cell? _ = _ := HF5.out.c1
            have e2 : w5.cell? _ = _ := HF5.out.c2
            have e3 : w5.cell? _ = _ := HF5.out.c3
            have e4 : w5.cell? _ = _ := HF5.out.next'.cell (i := 25) (by omega)
            obtain ⟨Bv, hBv⟩ : ∃ Bv, Bv = putN p f (nthN now (len)) h 1 := ⟨_, rfl⟩
            have HPB := fun w => HP1 (nthN now (len)) w hcl2
            rw [← hBv] at HPB
            have hwr : IntKind.i64.wrap 1 = 1 := IntWalk.i64_in _ (by omega)
            have hwr0 : IntKind.i64.wrap 0 = 0 := IntWalk.i64_in _ (by omega)
            have Hfin : Hid (furIn p f h (longestN s m) now 0 (furOut p f h (longestN s m) now 0) len = n1.set (25) (min (nthN n1 (25)) Bv)) := Lib.hid (by rw [Hn1.out, hBv]; simpa using furIn_A p f h (longestN s m) now 0 (furOut p f h (longestN s m) now 0) len hl1 hlt)
            go_wp2_with fail
            go_region_with (first | ((with_reducible refine (HPB _).mono ?_); rintro e w6 ⟨rfl, hb6⟩; have HF6 := Lib.hid (HF5.out.below hb6); have HB6 := Lib.hid (HB5.out.trans (hb6.mono HB5.out.size)); have g1 := HF6.out.next'.cell (i := 25) (by omega); have g2 := HF6.out.next'.frozen (25)))
            all_goals go_wp2
            all_goals go_roundw
            all_goals first | (simp [intOf]; omega) | exact ⟨len + 1, by omega, by omega, by go_num, by rw [Nat.add_sub_cancel, Hfin.out]; exact HF6.out.setI _ _ _ (by omega) (by omega), HB6.out.setCell (by show w.heap.size ≤ NB; omega) _⟩
          · go_wp2_with fail
            refine (HL _).mono ?_
            rintro e w2 ⟨rfl, hb2⟩
            have HF2 := Lib.hid (HF.out.below hb2)
            have HB2 := Lib.hid (HB.out.trans (hb2.mono HB.out.size))
            have d0 := HF2.out.c0
            have d1 := HF2.out.c1
            have d2 := HF2.out.c2
            have d3 := HF2.out.c3
            have dn := HF2.out.now'.cell (i := len) (by rw [hnl]; omega)
            clear hb2
            go_wp2_with fail
            refine (HL _).mono ?_
            rintro e w3 ⟨rfl, hb3⟩
            have HF3 := Lib.hid (HF2.out.below hb3).drew
            have HB3 := Lib.hid (HB2.out.trans (hb3.mono HB2.out.size)).drew
            have f0 : w3.cell? _ = _ := HF3.out.c0
            have f1 : w3.cell? _ = _ := HF3.out.c1
            have f2 : w3.cell? _ = _ := HF3.out.c2
            have f3 : w3.cell? _ = _ := HF3.out.c3
            clear d0 d1 d2 d3 dn c0 c1 c2 c3
            obtain ⟨n1, hn1⟩ : ∃ n1, n1 = furIn p f h (longestN s m) now 0 (furOut p f h (longestN s m) now 0) (len - 1) := ⟨_, rfl⟩
            have Hn1 := Lib.hid hn1
            have hl1' : n1.length = 48 := by rw [hn1, hlen]
            rw [← hn1] at HF3
            have HF5 := HF3
            have HB5 := HB3
            have e4 : w3.cell? _ = _ := HF5.out.next'.cell (i := 25) (by omega)
            clear hn1
            obtain ⟨Bv, hBv⟩ : ∃ Bv, Bv = putN p f (nthN now (len)) h 1 := ⟨_, rfl⟩
            have HPB := fun w => HP1 (nthN now (len)) w hcl2
            rw [← hBv] at HPB
            have hwr : IntKind.i64.wrap 1 = 1 := IntWalk.i64_in _ (by omega)
            have hwr0 : IntKind.i64.wrap 0 = 0 := IntWalk.i64_in _ (by omega)
            have Hfin : Hid (furIn p f h (longestN s m) now 0 (furOut p f h (longestN s m) now 0) len = n1.set (25) (min (nthN n1 (25)) Bv)) := Lib.hid (by rw [Hn1.out, hBv]; simpa using furIn_B p f h (longestN s m) now 0 (furOut p f h (longestN s m) now 0) len hl1 hlt)
            go_wp2_with fail
            go_region_with (first | ((with_reducible refine (HPB _).mono ?_); rintro e w6 ⟨rfl, hb6⟩; have HF6 := Lib.hid (HF5.out.below hb6); have HB6 := Lib.hid (HB5.out.trans (hb6.mono HB5.out.size)); have g1 := HF6.out.next'.cell (i := 25) (by omega); have g2 := HF6.out.next'.frozen (25)))
            all_goals go_wp2
            all_goals go_roundw
            all_goals first | (simp [intOf]; omega) | exact ⟨len + 1, by omega, by omega, by go_num, by rw [Nat.add_sub_cancel, Hfin.out]; exact HF6.out.setI _ _ _ (by omega) (by omega), HB6.out.setCell (by show w.heap.size ≤ NB; omega) _⟩
        · obtain rfl : len = longestN s m + 1 := by omega
          go_wp2_with fail
          refine (HL _).mono ?_
          rintro e w2 ⟨rfl, hb2⟩
          have HF2 := Lib.hid (HF.out.below hb2)
          have HB2 := Lib.hid (HB.out.trans (hb2.mono HB.out.size))
          clear hb2
          go_wp2
          go_roundw
          case rel => exact ⟨1, by omega, by go_num, HF2.out, HB2.out⟩
          case measure => simp [intOf]
    ·
      go_wp2
      go_loopw [9, 10] (fun i _ wr => ∃ len : Nat, 1 ≤ len ∧ len ≤ longestN s m + 1 ∧ i = .int .i64 len ∧ FurAt w.heap.size s p f m NB now (furIn p f h (longestN s m) now 1 (furOut p f h (longestN s m) now 1) (len - 1)) wr ∧ Below w.heap.size w wr) (fun i _ _ => longestN s m + 1 - (intOf i).toNat)
      case atStart => exact ⟨1, by omega, by omega, rfl, HF.out, HB.out⟩
      case round =>
        obtain ⟨len, hl1, hl2, rfl, hF, hB⟩ := hrel
        have HF := Lib.hid hF
        have HB := Lib.hid hB
        clear hF hB
        have c0 := HF.out.c0
        have c1 := HF.out.c1
        have c2 := HF.out.c2
        have c3 := HF.out.c3
        have hlen : (furIn p f h (longestN s m) now 1 (furOut p f h (longestN s m) now 1) (len - 1)).length = 48 := by rw [furIn_len, furOut_len]
        have hcl := hnM (24 + len)
        have hcl2 : nthN now (24 + len) < 1099511627776 := by omega
        clear hcl
        by_cases hle : len ≤ longestN s m
        · by_cases hlt : len < longestN s m
          · go_wp2_with fail
            refine (HL _).mono ?_
            rintro e w2 ⟨rfl, hb2⟩
            have HF2 := Lib.hid (HF.out.below hb2)
            have HB2 := Lib.hid (HB.out.trans (hb2.mono HB.out.size))
            have d0 := HF2.out.c0
            have d1 := HF2.out.c1
            have d2 := HF2.out.c2
            have d3 := HF2.out.c3
            have dn := HF2.out.now'.cell (i := 24 + len) (by rw [hnl]; omega)
            clear hb2
            go_wp2_with fail
            refine (HL _).mono ?_
            rintro e w3 ⟨rfl, hb3⟩
            have HF3 := Lib.hid (HF2.out.below hb3).drew
            have HB3 := Lib.hid (HB2.out.trans (hb3.mono HB2.out.size)).drew
            have f0 : w3.cell? _ = _ := HF3.out.c0
            have f1 : w3.cell? _ = _ := HF3.out.c1
            have f2 : w3.cell? _ = _ := HF3.out.c2
            have f3 : w3.cell? _ = _ := HF3.out.c3
            clear hb3 d0 d1 d2 d3 dn c0 c1 c2 c3
            have hw1 : IntKind.i64.wrap ((len : Int) + 1) = (len : Int) + 1 := IntWalk.i64_in _ (by omega)
            have hi0 : (0 : Int) ≤ (len : Int) + 1 := by omega
            have hi1 : (len : Int) + 1 < 24 := by omega
            have hi2 : ((len : Int) + 1).toNat = len + 1 := by omega
            go_wp2_with fail
            go_region_with (first | ((with_reducible refine (HP1 (nthN now (24 + len)) _ hcl2).mono ?_); rintro e w4 ⟨rfl, hb4⟩; have HF4 := Lib.hid (HF3.out.below hb4); have HB4 := Lib.hid (HB3.out.trans (hb4.mono HB3.out.size)); have g1 := HF4.out.next'.cell (i := 24 + (len + 1)) (by rw [hlen]; omega); have g2 := HF4.out.next'.frozen (24 + (len + 1))))
            obtain ⟨n1, hn1⟩ : ∃ n1, n1 = (furIn p f h (longestN s m) now 1 (furOut p f h (longestN s m) now 1) (len - 1)).set (24 + (len + 1)) (putN p f (nthN now (24 + len)) h 1) := ⟨_, rfl⟩
            obtain ⟨w5, hw5⟩ : ∃ w5, w5 = w4.setCell ⟨NB, 24 + (len + 1), none⟩ (.int .i64 (putN p f (nthN now (24 + len)) h 1 : Int)) := ⟨_, rfl⟩
            have HF5 : Hid (FurAt w.heap.size s p f m NB now n1 w5.drew) := Lib.hid (by rw [hn1, hw5]; exact (HF4.out.set (24 + (len + 1)) _ (by rw [hlen]; omega)).drew)
            have HB5 : Hid (Below w.heap.size w w5.drew) := Lib.hid (by rw [hw5]; exact (HB4.out.setCell (by show w.heap.size ≤ NB; omega) _).drew)
            have hl1' : n1.length = 48 := by rw [hn1, List.length_set, hlen]
            rw [← hw5]
            have Hn1 := Lib.hid hn1
            clear hw5 hn1 g1 g2 hb4 f0 f1 f2 f3 HF4 HB4
            have e0 : w5.cell? _ = _ := HF5.out.c0
            have e1 : w5.cell? _ = _ := HF5.out.c1
            have e2 : w5.cell? _ = _ := HF5.out.c2
            have e3 : w5.cell? _ = _ := HF5.out.c3
            have e4 : w5.cell? _ = _ := HF5.out.next'.cell (i := 1) (by omega)
            obtain ⟨Bv, hBv⟩ : ∃ Bv, Bv = putN p f (nthN now (24 + len)) h 0 := ⟨_, rfl⟩
            have HPB := fun w => HP0 (nthN now (24 + len)) w hcl2
            rw [← hBv] at HPB
            have hwr : IntKind.i64.wrap 1 = 1 := IntWalk.i64_in _ (by omega)
            have hwr0 : IntKind.i64.wrap 0 = 0 := IntWalk.i64_in _ (by omega)
            have Hfin : Hid (furIn p f h (longestN s m) now 1 (furOut p f h (longestN s m) now 1) len = n1.set (1) (min (nthN n1 (1)) Bv)) := Lib.hid (by rw [Hn1.out, hBv]; simpa using furIn_A p f h (longestN s m) now 1 (furOut p f h (longestN s m) now 1) len hl1 hlt)
            go_wp2_with fail
            go_region_with (first | ((with_reducible refine (HPB _).mono ?_); rintro e w6 ⟨rfl, hb6⟩; have HF6 := Lib.hid (HF5.out.below hb6); have HB6 := Lib.hid (HB5.out.trans (hb6.mono HB5.out.size)); have g1 := HF6.out.next'.cell (i := 1) (by omega); have g2 := HF6.out.next'.frozen (1)))
            all_goals go_wp2
            all_goals go_roundw
            all_goals first | (simp [intOf]; omega) | exact ⟨len + 1, by omega, by omega, by go_num, by rw [Nat.add_sub_cancel, Hfin.out]; exact HF6.out.setI _ _ _ (by omega) (by omega), HB6.out.setCell (by show w.heap.size ≤ NB; omega) _⟩
          · go_wp2_with fail
            refine (HL _).mono ?_
            rintro e w2 ⟨rfl, hb2⟩
            have HF2 := Lib.hid (HF.out.below hb2)
            have HB2 := Lib.hid (HB.out.trans (hb2.mono HB.out.size))
            have d0 := HF2.out.c0
            have d1 := HF2.out.c1
            have d2 := HF2.out.c2
            have d3 := HF2.out.c3
            have dn := HF2.out.now'.cell (i := 24 + len) (by rw [hnl]; omega)
            clear hb2
            go_wp2_with fail
            refine (HL _).mono ?_
            rintro e w3 ⟨rfl, hb3⟩
            have HF3 := Lib.hid (HF2.out.below hb3).drew
            have HB3 := Lib.hid (HB2.out.trans (hb3.mono HB2.out.size)).drew
            have f0 : w3.cell? _ = _ := HF3.out.c0
            have f1 : w3.cell? _ = _ := HF3.out.c1
            have f2 : w3.cell? _ = _ := HF3.out.c2
            have f3 : w3.cell? _ = _ := HF3.out.c3
            clear d0 d1 d2 d3 dn c0 c1 c2 c3
            obtain ⟨n1, hn1⟩ : ∃ n1, n1 = furIn p f h (longestN s m) now 1 (furOut p f h (longestN s m) now 1) (len - 1) := ⟨_, rfl⟩
            have Hn1 := Lib.hid hn1
            have hl1' : n1.length = 48 := by rw [hn1, hlen]
            rw [← hn1] at HF3
            have HF5 := HF3
            have HB5 := HB3
            have e4 : w3.cell? _ = _ := HF5.out.next'.cell (i := 1) (by omega)
            clear hn1
            obtain ⟨Bv, hBv⟩ : ∃ Bv, Bv = putN p f (nthN now (24 + len)) h 0 := ⟨_, rfl⟩
            have HPB := fun w => HP0 (nthN now (24 + len)) w hcl2
            rw [← hBv] at HPB
            have hwr : IntKind.i64.wrap 1 = 1 := IntWalk.i64_in _ (by omega)
            have hwr0 : IntKind.i64.wrap 0 = 0 := IntWalk.i64_in _ (by omega)
            have Hfin : Hid (furIn p f h (longestN s m) now 1 (furOut p f h (longestN s m) now 1) len = n1.set (1) (min (nthN n1 (1)) Bv)) := Lib.hid (by rw [Hn1.out, hBv]; simpa using furIn_B p f h (longestN s m) now 1 (furOut p f h (longestN s m) now 1) len hl1 hlt)
            go_wp2_with fail
            go_region_with (first | ((with_reducible refine (HPB _).mono ?_); rintro e w6 ⟨rfl, hb6⟩; have HF6 := Lib.hid (HF5.out.below hb6); have HB6 := Lib.hid (HB5.out.trans (hb6.mono HB5.out.size)); have g1 := HF6.out.next'.cell (i := 1) (by omega); have g2 := HF6.out.next'.frozen (1)))
            all_goals go_wp2
            all_goals go_roundw
            all_goals first | (simp [intOf]; omega) | exact ⟨len + 1, by omega, by omega, by go_num, by rw [Nat.add_sub_cancel, Hfin.out]; exact HF6.out.setI _ _ _ (by omega) (by omega), HB6.out.setCell (by show w.heap.size ≤ NB; omega) _⟩
        · obtain rfl : len = longestN s m + 1 := by omega
          go_wp2_with fail
          refine (HL _).mono ?_
          rintro e w2 ⟨rfl, hb2⟩
          have HF2 := Lib.hid (HF.out.below hb2)
          have HB2 := Lib.hid (HB.out.trans (hb2.mono HB.out.size))
          clear hb2
          go_wp2
          go_roundw
          case rel => exact ⟨2, by omega, by go_num, HF2.out, HB2.out⟩
          case measure => simp [intOf]
    · have r3 := HF.out.res
      have r4 := HF.out.next'
      have HR3 := Lib.hid r3
      have HR4 := Lib.hid r4
      clear r3 r4
      go_wp2_with (first | (with_reducible refine stopLoad ?_) | (with_reducible refine stopStore ?_))
      unfold Shut
      refine wpList_load_row rfl 270 _ rfl NB rfl 270 _ (0, 0) _ HR4.out Try.underlying270 rfl (by rw [info141]; simp [furOut_len]) ?_
      go_wp2_with (first | (with_reducible refine stopLoad ?_) | (with_reducible refine stopStore ?_))
      unfold Shut
      refine wpList_store_row rfl 270 _ _ rfl (w.heap.size + 1 + 1) ((furOut p f h (longestN s m) now 2).map natV).toArray rfl rfl 270 _ HR3.out (by rw [info141]; simp [furOut_len]) (by simp [fillTo_len, furOut_len]) (tab_all _) ?_
      go_wp2
      refine bodyPost_ret (v := .agg ((furOut p f h (longestN s m) now 2).map natV).toArray) ?_ rfl ⟨rfl, ?_⟩
      · exact results_cell_row rfl _ _ (w.heap.size + 1 + 1) 270 _ (0, 0) _ rfl (HR3.out.row) Try.underlying270 rfl (by rw [info141]; simp [furOut_len])
      · exact below_setRow HB.out _ (by omega)
end Go.Proofs.Ytdmgffoikebgkaa
