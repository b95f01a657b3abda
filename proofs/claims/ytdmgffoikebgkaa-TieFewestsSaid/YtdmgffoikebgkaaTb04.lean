/- withLead. · withLead, the last hooks lifted. -/
import Derived.Test.YtdmgffoikebgkaaTb03
import Derived.Test.YtdmgffoikebgkaaTb01
namespace Go.Proofs.Ytdmgffoikebgkaa
section
open Go.RowKit

def leadC (p f s l : Nat) : Nat → Nat
  | 0 => 0
  | k + 1 => putN p f (leadC p f s l k) (s - 1 - k) l
def now0 (p f s l lead : Nat) : List Nat := noTab.set ((1 - l) * 24 + 1) (putN p f (leadC p f s l lead) (s - 1 - lead) (1 - l))
def nowAt (p f s l lead L : Nat) : Nat → List Nat
  | 0 => now0 p f s l lead
  | k + 1 => furN p f (s - 1 - lead - (k + 1)) L (nowAt p f s l lead L k)
def bestAt (m l lead : Nat) (now : List Nat) : Nat → Nat
  | 0 => never
  | k + 1 =>
    let b1 := min (bestAt m l lead now k) (nthN now ((1 - l) * 24 + (k + 1)))
    if lead + (k + 1) ≤ m then min b1 (nthN now (l * 24 + (k + 1))) else b1
def withLeadN (s p f m l lead : Nat) : Nat := bestAt m l lead (nowAt p f s l lead (longestN s m) (s - 1 - lead)) (longestN s m)
theorem leadC_le (p f s l : Nat) (hs : s ≤ 24) (hs1 : 1 ≤ s) (hl : l ≤ 1) : ∀ k, leadC p f s l k ≤ k * 452984832
  | 0 => by simp [leadC]
  | k + 1 => by
    have h1 := leadC_le p f s l hs hs1 hl k
    have h2 := putN_le p f (leadC p f s l k) (s - 1 - k) l hl (by omega)
    simp only [leadC]
    omega
theorem now0_le (p f s l lead : Nat) (hs : s ≤ 24) (hs1 : 1 ≤ s) (hl : l ≤ 1) (hlead : lead ≤ 24) : AllLe (26 * 452984832) (now0 p f s l lead) := by
  unfold now0
  refine (noTab_le _ (by unfold never; omega)).set ?_
  have h1 := leadC_le p f s l hs hs1 hl lead
  have h2 := putN_le p f (leadC p f s l lead) (s - 1 - lead) (1 - l) (by omega) (by omega)
  omega
theorem nowAt_le (p f s l lead L : Nat) (hs : s ≤ 24) (hs1 : 1 ≤ s) (hl : l ≤ 1) (hlead : lead ≤ 24) : ∀ k, AllLe ((26 + k) * 452984832) (nowAt p f s l lead L k)
  | 0 => now0_le p f s l lead hs hs1 hl hlead
  | k + 1 => furOut_le p f _ L _ ((26 + k) * 452984832) _ (nowAt_le p f s l lead L hs hs1 hl hlead k) (by omega) (by omega) 2 (by omega)
theorem nowAt_len (p f s l lead L : Nat) : ∀ k, (nowAt p f s l lead L k).length = 48
  | 0 => by simp [nowAt, now0, noTab]
  | k + 1 => furOut_len _ _ _ _ _ 2
/-- what 'withLead' keeps -/
structure LeadAt (w0 : World) (s p f m NB : Nat) (tab : List Nat) (W : World) : Prop where
  c0 : W.cell? ⟨w0.heap.size, 0, none⟩ = some (.int .i64 (s : Int))
  c1 : W.cell? ⟨w0.heap.size, 1, none⟩ = some (.int .i64 (p : Int))
  c2 : W.cell? ⟨w0.heap.size, 2, none⟩ = some (.int .i64 (f : Int))
  c3 : W.cell? ⟨w0.heap.size, 3, none⟩ = some (.int .i64 (m : Int))
  tab' : Tab W NB tab
  lt : w0.heap.size < NB
  below : Below w0.heap.size w0 W
theorem LeadAt.next {w0 : World} {s p f m NB : Nat} {tab : List Nat} {W W' : World} (h : LeadAt w0 s p f m NB tab W) (hb : Below W.heap.size W W') : LeadAt w0 s p f m NB tab W' := by
  have h1 := h.tab'.lt
  have h2 := h.lt
  exact ⟨(hb.cell (p := ⟨w0.heap.size, 0, none⟩) (by show w0.heap.size < _; omega)).trans h.c0, (hb.cell (p := ⟨w0.heap.size, 1, none⟩) (by show w0.heap.size < _; omega)).trans h.c1, (hb.cell (p := ⟨w0.heap.size, 2, none⟩) (by show w0.heap.size < _; omega)).trans h.c2, (hb.cell (p := ⟨w0.heap.size, 3, none⟩) (by show w0.heap.size < _; omega)).trans h.c3,
    h.tab'.below hb h1, h2, h.below.trans (hb.mono h.below.size)⟩
theorem LeadAt.set {w0 : World} {s p f m NB : Nat} {tab : List Nat} {W : World} (h : LeadAt w0 s p f m NB tab W) (i v : Nat) (hi : i < tab.length) : LeadAt w0 s p f m NB (tab.set i v) (W.setCell ⟨NB, i, none⟩ (.int .i64 (v : Int))) := by
  have h2 := h.lt
  have e : ∀ k j, k ≠ NB → (W.setCell ⟨NB, i, none⟩ (.int .i64 (v : Int))).cell? ⟨k, j, none⟩ = W.cell? ⟨k, j, none⟩ := fun k j hk => World.cell?_of_block (w := W) (Below.heap_setCell _ _ _ _ hk)
  exact ⟨(e _ _ (by omega)).trans h.c0, (e _ _ (by omega)).trans h.c1, (e _ _ (by omega)).trans h.c2, (e _ _ (by omega)).trans h.c3, h.tab'.set i v hi, h2, h.below.setCell (by show w0.heap.size ≤ NB; omega) _⟩
theorem LeadAt.row {w0 : World} {s p f m NB : Nat} {tab : List Nat} {W : World} (h : LeadAt w0 s p f m NB tab W) (zs : List Nat) : LeadAt w0 s p f m NB zs (W.setRow NB (zs.map natV).toArray) := by
  have h2 := h.lt
  have e : ∀ k j, k ≠ NB → (W.setRow NB (zs.map natV).toArray).cell? ⟨k, j, none⟩ = W.cell? ⟨k, j, none⟩ := fun k j hk => World.cell?_of_block (w := W) (by
    simp only [World.setRow, Array.getElem?_modify]
    rw [if_neg (by omega)])
  exact ⟨(e _ _ (by omega)).trans h.c0, (e _ _ (by omega)).trans h.c1, (e _ _ (by omega)).trans h.c2, (e _ _ (by omega)).trans h.c3, h.tab'.row, h2, below_setRow h.below _ (by omega)⟩
theorem LeadAt.drew {w0 : World} {s p f m NB : Nat} {tab : List Nat} {W : World} (h : LeadAt w0 s p f m NB tab W) : LeadAt w0 s p f m NB tab W.drew :=
  ⟨h.c0, h.c1, h.c2, h.c3, h.tab', h.lt, h.below.drew⟩

set_option maxRecDepth 100000 in
set_option maxHeartbeats 4000000 in
theorem withLead0_any (s p f m lead : Nat) (w : World) (hs : 2 ≤ s) (hs2 : s ≤ 24) (hm1 : 1 ≤ m) (hm : m ≤ 24) (hp : p < 16777216) (hf : f < 16777216) (hl1 : 1 ≤ lead) (hl2 : lead ≤ longestN s m) :
    Calls Try.prog 189 #[bnd s p f m, .int .i64 (lead : Int), .int .i64 0] w fun e w' => e = .returned (.int .i64 (withLeadN s p f m 0 lead : Int)) ∧ Below w.heap.size w w' := by
  have hLL : longestN s m ≤ s - 1 := by unfold longestN; omega
  have HL := fun w => longest_any s p f m w (by omega) hs2 hm
  have HPl : ∀ (c h : Nat) (w : World), c < 1099511627776 → h < 24 → Calls Try.prog 212 #[bnd s p f m, .int .i64 (c : Int), .int .i64 (h : Int), .int .i64 0] w fun e w' => e = .returned (.int .i64 (putN p f c h 0 : Int)) ∧ Below w.heap.size w w' := fun c h w hc hh => put_any s p f m c h 0 w hp hf hc hh (by omega)
  have HPo : ∀ (c h : Nat) (w : World), c < 1099511627776 → h < 24 → Calls Try.prog 212 #[bnd s p f m, .int .i64 (c : Int), .int .i64 (h : Int), .int .i64 1] w fun e w' => e = .returned (.int .i64 (putN p f c h 1 : Int)) ∧ Below w.heap.size w w' := fun c h w hc hh => put_any s p f m c h 1 w hp hf hc hh (by omega)
  have HFu := fun h M now w hh hnl hM hnM => further_any s p f m h M now w hs hs2 hm1 hm hp hf hh hnl hM hnM
  unfold bnd at HL HPl HPo HFu ⊢
  obtain ⟨W0, hW0⟩ : ∃ W0, w.alloc (.cells #[.int .i64 (s : Int), .int .i64 (p : Int), .int .i64 (f : Int), .int .i64 (m : Int)] 194) = W0 := ⟨_, rfl⟩
  have k0 : W0.cell? ⟨w.heap.size, 0, none⟩ = some (.int .i64 (s : Int)) := by rw [← hW0]; exact (cell_of_row _ _ 0 _ _ _ (World.alloc_heap_new w _)).trans rfl
  have k1 : W0.cell? ⟨w.heap.size, 1, none⟩ = some (.int .i64 (p : Int)) := by rw [← hW0]; exact (cell_of_row _ _ 1 _ _ _ (World.alloc_heap_new w _)).trans rfl
  have k2 : W0.cell? ⟨w.heap.size, 2, none⟩ = some (.int .i64 (f : Int)) := by rw [← hW0]; exact (cell_of_row _ _ 2 _ _ _ (World.alloc_heap_new w _)).trans rfl
  have k3 : W0.cell? ⟨w.heap.size, 3, none⟩ = some (.int .i64 (m : Int)) := by rw [← hW0]; exact (cell_of_row _ _ 3 _ _ _ (World.alloc_heap_new w _)).trans rfl
  have z0 : W0.heap.size = w.heap.size + 1 := by rw [← hW0]; simp
  have hB0 : Below w.heap.size w W0 := by rw [← hW0]; exact (Below.refl _ _).alloc (Nat.le_refl _) _
  have Hz0 := Lib.hid z0
  have HB0 := Lib.hid hB0
  clear z0 hB0
  go_enter Try.func189, Try.ntmps189
  go_wp2_with fail
  clear hW0
  go_loopw [7, 8, 17] (fun hv cv i wr => ∃ k : Nat, k ≤ lead ∧ i = .int .i64 k ∧ hv = .int .i64 ((s - 1 - k : Nat) : Int) ∧ cv = .int .i64 (leadC p f s 0 k : Int) ∧ Below W0.heap.size W0 wr) (fun _ _ i _ => lead - (intOf i).toNat)
  case atStart =>
    refine ⟨0, Nat.zero_le _, rfl, ?_, rfl, Below.refl _ _⟩
    rw [show ((s - 1 - 0 : Nat) : Int) = (s : Int) - 1 by omega]
  case round =>
    obtain ⟨k, hk, rfl, rfl, rfl, hB⟩ := hrel
    have c0 := (hB.cell (p := ⟨w.heap.size, 0, none⟩) (by rw [Hz0.out]; show w.heap.size < _; omega)).trans k0
    have c1 := (hB.cell (p := ⟨w.heap.size, 1, none⟩) (by rw [Hz0.out]; show w.heap.size < _; omega)).trans k1
    have c2 := (hB.cell (p := ⟨w.heap.size, 2, none⟩) (by rw [Hz0.out]; show w.heap.size < _; omega)).trans k2
    have c3 := (hB.cell (p := ⟨w.heap.size, 3, none⟩) (by rw [Hz0.out]; show w.heap.size < _; omega)).trans k3
    have HB := Lib.hid hB
    have hcb := leadC_le p f s 0 hs2 (by omega) (by omega) k
    have hcb2 : leadC p f s 0 k < 1099511627776 := by omega
    clear hB hcb
    obtain ⟨hk1, hhk⟩ : ∃ hk1, hk1 = s - 1 - k := ⟨_, rfl⟩
    rw [← hhk]
    have hk24 : hk1 < 24 := by omega
    have Hhk := Lib.hid hhk
    clear hhk
    by_cases hlt : k < lead
    · have hk0 : 1 ≤ hk1 := by rw [Hhk.out]; omega
      go_wp2_with fail
      refine (HPl _ _ _ hcb2 hk24).mono ?_
      rintro e w1 ⟨rfl, hb1⟩
      go_wp2
      go_roundw
      case rel =>
        refine ⟨k + 1, by omega, by go_num, ?_, ?_, HB.out.trans (hb1.mono HB.out.size)⟩
        · have := Hhk.out
          rw [show ((s - 1 - (k + 1) : Nat) : Int) = (hk1 : Int) - 1 by omega]
        · rw [Hhk.out]; rfl
      case measure => simp [intOf]; omega
    · obtain rfl : k = lead := by omega
      go_wp2_with fail
      refine (impossible_any _).mono ?_
      rintro e w1 ⟨rfl, hb1⟩
      go_wp2_with (first | (with_reducible refine stopLoad ?_) | (with_reducible refine stopStore ?_))
      unfold Shut
      have hB1 : Below W0.heap.size W0 w1 := HB.out.trans (hb1.mono HB.out.size)
      have t3 : Tab (w1.alloc (.cells ((fillTo 0).map natV).toArray 270)) w1.heap.size (fillTo 0) := World.alloc_heap_new _ _
      obtain ⟨W1, hW1⟩ : ∃ W1, W1 = w1.alloc (.cells ((fillTo 0).map natV).toArray 270) := ⟨_, rfl⟩
      obtain ⟨W2, hW2⟩ : ∃ W2, W2 = W1.setRow w1.heap.size (noTab.map natV).toArray := ⟨_, rfl⟩
      have t4 : Tab W2 w1.heap.size noTab := by rw [hW2, hW1]; exact t3.row
      have hB12 : Below w1.heap.size w1 W2 := by rw [hW2]; refine below_setRow ?_ _ (Nat.le_refl _); rw [hW1]; exact (Below.refl _ _).alloc (Nat.le_refl _) _
      have hB02 : Below W0.heap.size W0 W2 := hB1.trans (hB12.mono hB1.size)
      have hwn : w.heap.size < w1.heap.size := by have := hB1.size; rw [Hz0.out] at this; omega
      have hF2 : LeadAt w s p f m w1.heap.size noTab W2 := by
        have e : ∀ j, W2.cell? ⟨w.heap.size, j, none⟩ = W0.cell? ⟨w.heap.size, j, none⟩ := fun j => hB02.cell (p := ⟨w.heap.size, j, none⟩) (by rw [Hz0.out]; show w.heap.size < _; omega)
        exact ⟨(e 0).trans k0, (e 1).trans k1, (e 2).trans k2, (e 3).trans k3, t4, hwn, HB0.out.trans (hB02.mono HB0.out.size)⟩
      refine wpList_store_row (w := w1.alloc (.cells ((fillTo 0).map natV).toArray 270)) rfl 270 _ _ rfl w1.heap.size (noTab.map natV).toArray rfl rfl 270 _ t3 (by rw [info141]; simp [noTab]) (by simp [fillTo_len, noTab]) (tab_all _) ?_
      rw [← hW1, ← hW2]
      clear t3 t4 hB12 hB02 hb1 hB1 hW1 hW2 c0 c1 c2 c3 HB
      obtain ⟨NB, hNB⟩ : ∃ NB, NB = w1.heap.size := ⟨_, rfl⟩
      rw [← hNB] at hF2 hwn ⊢
      clear hNB
      have HF2 := Lib.hid hF2.drew
      have c0 : W2.cell? _ = _ := hF2.c0
      have c1 : W2.cell? _ = _ := hF2.c1
      have c2 : W2.cell? _ = _ := hF2.c2
      have c3 : W2.cell? _ = _ := hF2.c3
      clear hF2
      have hwr : IntKind.i64.wrap 1 = 1 := IntWalk.i64_in _ (by omega)
      have hwr0 : IntKind.i64.wrap 0 = 0 := IntWalk.i64_in _ (by omega)
      go_wp2_with fail
      go_region_with (first | ((with_reducible refine (HPo _ _ _ hcb2 hk24).mono ?_); rintro e w4 ⟨rfl, hb4⟩; have HF4 := Lib.hid (HF2.out.next hb4); have g1 := HF4.out.tab'.cell (i := 25) (by simp [noTab]); have g2 := HF4.out.tab'.frozen 25))
      obtain ⟨W5, hW5⟩ : ∃ W5, W5 = w4.setCell ⟨NB, 25, none⟩ (.int .i64 (putN p f (leadC p f s 0 k) hk1 1 : Int)) := ⟨_, rfl⟩
      have HF5 : Hid (LeadAt w s p f m NB (now0 p f s 0 k) W5) := Lib.hid (by
        rw [hW5]
        have := HF4.out.set 25 (putN p f (leadC p f s 0 k) hk1 1) (by simp [noTab])
        unfold now0
        rw [← Hhk.out]
        exact this)
      rw [← hW5]
      clear hW5 g1 g2 HF4 hb4 c0 c1 c2 c3 HF2
      go_wp2
      go_loopw [7] (fun hv wr => ∃ j : Nat, j ≤ hk1 ∧ hv = .int .i64 ((hk1 - j : Nat) : Int) ∧ LeadAt w s p f m NB (nowAt p f s 0 k (longestN s m) j) wr) (fun hv _ => (intOf hv).toNat)
      case atStart => exact ⟨0, Nat.zero_le _, rfl, HF5.out⟩
      case round =>
        obtain ⟨j, hj, rfl, hF⟩ := hrel
        have c0 := hF.c0
        have c1 := hF.c1
        have c2 := hF.c2
        have c3 := hF.c3
        have HF := Lib.hid hF
        clear hF
        obtain ⟨hh, hhh⟩ : ∃ hh, hh = hk1 - j := ⟨_, rfl⟩
        rw [← hhh]
        have Hhh := Lib.hid hhh
        have hh24 : hh < 24 := by omega
        by_cases hlt : 0 < hh
        · have Hjk : Hid (j < hk1) := Lib.hid (by omega)
          have hM : (26 + j) * 452984832 < 549755813888 := by omega
          have HFuj := Lib.hid (fun w => HFu (hh - 1) ((26 + j) * 452984832) (nowAt p f s 0 k (longestN s m) j) w (by omega) (nowAt_len p f s 0 k (longestN s m) j) hM (nowAt_le p f s 0 k (longestN s m) hs2 (by omega) (by omega) (by omega) j))
          have Hnx : Hid (furN p f (hh - 1) (longestN s m) (nowAt p f s 0 k (longestN s m) j) = nowAt p f s 0 k (longestN s m) (j + 1)) := Lib.hid (by
            rw [nowAt, show s - 1 - k - (j + 1) = hh - 1 by have := Hhk.out; omega])
          clear hhh hj hM
          go_wp2_with (first | (with_reducible refine stopLoad ?_) | (with_reducible refine stopStore ?_))
          unfold Shut
          refine wpList_load_row rfl 270 _ rfl NB rfl 270 _ (0, 0) _ HF.out.tab' Try.underlying270 rfl (by rw [info141]; simp [nowAt_len]) ?_
          have hsub : (hh : Int) - 1 = ((hh - 1 : Nat) : Int) := by omega
          rw [hsub]
          clear hsub
          go_wp2_with fail
          refine (HFuj.out _).mono ?_
          rintro e w6 ⟨rfl, hb6⟩
          have HF6 := Lib.hid (HF.out.next hb6)
          rw [Hnx.out]
          go_wp2_with (first | (with_reducible refine stopLoad ?_) | (with_reducible refine stopStore ?_))
          unfold Shut
          refine wpList_store_row rfl 270 _ _ rfl NB ((nowAt p f s 0 k (longestN s m) (j + 1)).map natV).toArray rfl rfl 270 _ HF6.out.tab' (by rw [info141]; simp [nowAt_len]) (by simp [nowAt_len]) (tab_all _) ?_
          have HF7 := Lib.hid (HF6.out.row (nowAt p f s 0 k (longestN s m) (j + 1)))
          obtain ⟨W7, hW7⟩ : ∃ W7, W7 = w6.setRow NB ((nowAt p f s 0 k (longestN s m) (j + 1)).map natV).toArray := ⟨_, rfl⟩
          rw [← hW7] at HF7 ⊢
          clear hW7
          go_wp2
          have hrel : ∃ j' : Nat, j' ≤ hk1 ∧ Value.int .i64 ((hh - 1 : Nat) : Int) = .int .i64 ((hk1 - j' : Nat) : Int) ∧ LeadAt w s p f m NB (nowAt p f s 0 k (longestN s m) j') W7 :=
            ⟨j + 1, by have := Hjk.out; omega, by rw [show hk1 - (j + 1) = hh - 1 by have := Hhh.out; omega], HF7.out⟩
          refine ⟨?_, ?_⟩
          · repeat apply Exists.intro
            exact ⟨hrel, rfl⟩
          · show (intOf (Value.int .i64 ((hh - 1 : Nat) : Int))).toNat < (intOf (.int .i64 (hh : Int))).toNat
            simp [intOf]; omega
        · obtain rfl : hh = 0 := by omega
          have Hj : Hid (j = hk1) := Lib.hid (by omega)
          clear hhh hj
          obtain ⟨tab, htab⟩ : ∃ tab, tab = nowAt p f s 0 k (longestN s m) (s - 1 - k) := ⟨_, rfl⟩
          have HFt : Hid (LeadAt w s p f m NB tab wr) := Lib.hid (by rw [htab, ← Hhk.out, ← Hj.out]; exact HF.out)
          have htl : tab.length = 48 := by rw [htab, nowAt_len]
          have Htab := Lib.hid htab
          clear htab HF c0 c1 c2 c3
          obtain ⟨wo, rfl⟩ : ∃ wo : World, wo = wr := ⟨_, rfl⟩
          go_wp2_with fail
          go_loopw [10, 11] (fun bv lv wr => ∃ len : Nat, 1 ≤ len ∧ len ≤ longestN s m + 1 ∧ lv = .int .i64 len ∧ bv = .int .i64 (bestAt m 0 k tab (len - 1) : Int) ∧ LeadAt w s p f m NB tab wr) (fun _ lv _ => longestN s m + 1 - (intOf lv).toNat)
          case atStart => exact ⟨1, by omega, by omega, rfl, rfl, HFt.out⟩
          case round =>
            obtain ⟨len, hl1', hl2', rfl, rfl, hF⟩ := hrel
            have c0 := hF.c0
            have c1 := hF.c1
            have c2 := hF.c2
            have c3 := hF.c3
            have HF := Lib.hid hF
            clear hF
            go_wp2_with fail
            refine (HL _).mono ?_
            rintro e w8 ⟨rfl, hb8⟩
            have HF8 := Lib.hid (HF.out.next hb8)
            have d3 := HF8.out.c3
            clear hb8 c0 c1 c2 c3
            by_cases hle : len ≤ longestN s m
            · have g1 := HF8.out.tab'.cell (i := 24 + len) (by rw [htl]; omega)
              have g2 := HF8.out.tab'.cell (i := len) (by rw [htl]; omega)
              obtain ⟨A, hA⟩ : ∃ A, A = bestAt m 0 k tab (len - 1) := ⟨_, rfl⟩
              obtain ⟨X, hX⟩ : ∃ X, X = nthN tab (24 + len) := ⟨_, rfl⟩
              obtain ⟨Y, hY⟩ : ∃ Y, Y = nthN tab (len) := ⟨_, rfl⟩
              have Hst : Hid (bestAt m 0 k tab len = if k + len ≤ m then min (min A X) Y else min A X) := Lib.hid (by
                obtain ⟨q, rfl⟩ : ∃ q, len = q + 1 := ⟨len - 1, by omega⟩
                rw [hA, hX, hY]
                simp [bestAt])
              rw [← hX] at g1
              rw [← hY] at g2
              rw [← hA]
              clear hA hX hY
              have hX0 : (0 : Int) ≤ (X : Int) := by omega
              by_cases hb : k + len ≤ m
              · have Hst2 : Hid (bestAt m 0 k tab len = min (min A X) Y) := Lib.hid (by rw [Hst.out, if_pos hb])
                go_wp2
                all_goals refine ⟨⟨len + 1, by omega, by omega, by omega, ?_, HF8.out⟩, by simp [intOf]; omega⟩
                all_goals rw [Nat.add_sub_cancel, Hst2.out]
                all_goals omega
              · have Hst2 : Hid (bestAt m 0 k tab len = min A X) := Lib.hid (by rw [Hst.out, if_neg hb])
                go_wp2
                all_goals refine ⟨⟨len + 1, by omega, by omega, by omega, ?_, HF8.out⟩, by simp [intOf]; omega⟩
                all_goals rw [Nat.add_sub_cancel, Hst2.out]
                all_goals omega
            · obtain rfl : len = longestN s m + 1 := by omega
              go_wp2
              go_ret
              exact ⟨ret_int (by unfold withLeadN; rw [Htab.out]), HF8.out.below⟩
end
end Go.Proofs.Ytdmgffoikebgkaa
namespace Go.Proofs.Ytdmgffoikebgkaa
section
open Go.RowKit

set_option maxRecDepth 100000 in
set_option maxHeartbeats 4000000 in
theorem withLead1_any (s p f m lead : Nat) (w : World) (hs : 2 ≤ s) (hs2 : s ≤ 24) (hm1 : 1 ≤ m) (hm : m ≤ 24) (hp : p < 16777216) (hf : f < 16777216) (hl1 : 1 ≤ lead) (hl2 : lead ≤ longestN s m) :
    Calls Try.prog 189 #[bnd s p f m, .int .i64 (lead : Int), .int .i64 1] w fun e w' => e = .returned (.int .i64 (withLeadN s p f m 1 lead : Int)) ∧ Below w.heap.size w w' := by
  have hLL : longestN s m ≤ s - 1 := by unfold longestN; omega
  have HL := fun w => longest_any s p f m w (by omega) hs2 hm
  have HPl : ∀ (c h : Nat) (w : World), c < 1099511627776 → h < 24 → Calls Try.prog 212 #[bnd s p f m, .int .i64 (c : Int), .int .i64 (h : Int), .int .i64 1] w fun e w' => e = .returned (.int .i64 (putN p f c h 1 : Int)) ∧ Below w.heap.size w w' := fun c h w hc hh => put_any s p f m c h 1 w hp hf hc hh (by omega)
  have HPo : ∀ (c h : Nat) (w : World), c < 1099511627776 → h < 24 → Calls Try.prog 212 #[bnd s p f m, .int .i64 (c : Int), .int .i64 (h : Int), .int .i64 0] w fun e w' => e = .returned (.int .i64 (putN p f c h 0 : Int)) ∧ Below w.heap.size w w' := fun c h w hc hh => put_any s p f m c h 0 w hp hf hc hh (by omega)
  have HFu := fun h M now w hh hnl hM hnM => further_any s p f m h M now w hs hs2 hm1 hm hp hf hh hnl hM hnM
  unfold bnd at HL HPl HPo HFu ⊢
  obtain ⟨W0, hW0⟩ : ∃ W0, w.alloc (.cells #[.int .i64 (s : Int), .int .i64 (p : Int), .int .i64 (f : Int), .int .i64 (m : Int)] 194) = W0 := ⟨_, rfl⟩
  have k0 : W0.cell? ⟨w.heap.size, 0, none⟩ = some (.int .i64 (s : Int)) := by rw [← hW0]; exact (cell_of_row _ _ 0 _ _ _ (World.alloc_heap_new w _)).trans rfl
  have k1 : W0.cell? ⟨w.heap.size, 1, none⟩ = some (.int .i64 (p : Int)) := by rw [← hW0]; exact (cell_of_row _ _ 1 _ _ _ (World.alloc_heap_new w _)).trans rfl
  have k2 : W0.cell? ⟨w.heap.size, 2, none⟩ = some (.int .i64 (f : Int)) := by rw [← hW0]; exact (cell_of_row _ _ 2 _ _ _ (World.alloc_heap_new w _)).trans rfl
  have k3 : W0.cell? ⟨w.heap.size, 3, none⟩ = some (.int .i64 (m : Int)) := by rw [← hW0]; exact (cell_of_row _ _ 3 _ _ _ (World.alloc_heap_new w _)).trans rfl
  have z0 : W0.heap.size = w.heap.size + 1 := by rw [← hW0]; simp
  have hB0 : Below w.heap.size w W0 := by rw [← hW0]; exact (Below.refl _ _).alloc (Nat.le_refl _) _
  have Hz0 := Lib.hid z0
  have HB0 := Lib.hid hB0
  clear z0 hB0
  go_enter Try.func189, Try.ntmps189
  go_wp2_with fail
  clear hW0
  go_loopw [7, 8, 17] (fun hv cv i wr => ∃ k : Nat, k ≤ lead ∧ i = .int .i64 k ∧ hv = .int .i64 ((s - 1 - k : Nat) : Int) ∧ cv = .int .i64 (leadC p f s 1 k : Int) ∧ Below W0.heap.size W0 wr) (fun _ _ i _ => lead - (intOf i).toNat)
  case atStart =>
    refine ⟨0, Nat.zero_le _, rfl, ?_, rfl, Below.refl _ _⟩
    rw [show ((s - 1 - 0 : Nat) : Int) = (s : Int) - 1 by omega]
  case round =>
    obtain ⟨k, hk, rfl, rfl, rfl, hB⟩ := hrel
    have c0 := (hB.cell (p := ⟨w.heap.size, 0, none⟩) (by rw [Hz0.out]; show w.heap.size < _; omega)).trans k0
    have c1 := (hB.cell (p := ⟨w.heap.size, 1, none⟩) (by rw [Hz0.out]; show w.heap.size < _; omega)).trans k1
    have c2 := (hB.cell (p := ⟨w.heap.size, 2, none⟩) (by rw [Hz0.out]; show w.heap.size < _; omega)).trans k2
    have c3 := (hB.cell (p := ⟨w.heap.size, 3, none⟩) (by rw [Hz0.out]; show w.heap.size < _; omega)).trans k3
    have HB := Lib.hid hB
    have hcb := leadC_le p f s 1 hs2 (by omega) (by omega) k
    have hcb2 : leadC p f s 1 k < 1099511627776 := by omega
    clear hB hcb
    obtain ⟨hk1, hhk⟩ : ∃ hk1, hk1 = s - 1 - k := ⟨_, rfl⟩
    rw [← hhk]
    have hk24 : hk1 < 24 := by omega
    have Hhk := Lib.hid hhk
    clear hhk
    by_cases hlt : k < lead
    · have hk0 : 1 ≤ hk1 := by rw [Hhk.out]; omega
      go_wp2_with fail
      refine (HPl _ _ _ hcb2 hk24).mono ?_
      rintro e w1 ⟨rfl, hb1⟩
      go_wp2
      go_roundw
      case rel =>
        refine ⟨k + 1, by omega, by go_num, ?_, ?_, HB.out.trans (hb1.mono HB.out.size)⟩
        · have := Hhk.out
          rw [show ((s - 1 - (k + 1) : Nat) : Int) = (hk1 : Int) - 1 by omega]
        · rw [Hhk.out]; rfl
      case measure => simp [intOf]; omega
    · obtain rfl : k = lead := by omega
      go_wp2_with fail
      refine (impossible_any _).mono ?_
      rintro e w1 ⟨rfl, hb1⟩
      go_wp2_with (first | (with_reducible refine stopLoad ?_) | (with_reducible refine stopStore ?_))
      unfold Shut
      have hB1 : Below W0.heap.size W0 w1 := HB.out.trans (hb1.mono HB.out.size)
      have t3 : Tab (w1.alloc (.cells ((fillTo 0).map natV).toArray 270)) w1.heap.size (fillTo 0) := World.alloc_heap_new _ _
      obtain ⟨W1, hW1⟩ : ∃ W1, W1 = w1.alloc (.cells ((fillTo 0).map natV).toArray 270) := ⟨_, rfl⟩
      obtain ⟨W2, hW2⟩ : ∃ W2, W2 = W1.setRow w1.heap.size (noTab.map natV).toArray := ⟨_, rfl⟩
      have t4 : Tab W2 w1.heap.size noTab := by rw [hW2, hW1]; exact t3.row
      have hB12 : Below w1.heap.size w1 W2 := by rw [hW2]; refine below_setRow ?_ _ (Nat.le_refl _); rw [hW1]; exact (Below.refl _ _).alloc (Nat.le_refl _) _
      have hB02 : Below W0.heap.size W0 W2 := hB1.trans (hB12.mono hB1.size)
      have hwn : w.heap.size < w1.heap.size := by have := hB1.size; rw [Hz0.out] at this; omega
      have hF2 : LeadAt w s p f m w1.heap.size noTab W2 := by
        have e : ∀ j, W2.cell? ⟨w.heap.size, j, none⟩ = W0.cell? ⟨w.heap.size, j, none⟩ := fun j => hB02.cell (p := ⟨w.heap.size, j, none⟩) (by rw [Hz0.out]; show w.heap.size < _; omega)
        exact ⟨(e 0).trans k0, (e 1).trans k1, (e 2).trans k2, (e 3).trans k3, t4, hwn, HB0.out.trans (hB02.mono HB0.out.size)⟩
      refine wpList_store_row (w := w1.alloc (.cells ((fillTo 0).map natV).toArray 270)) rfl 270 _ _ rfl w1.heap.size (noTab.map natV).toArray rfl rfl 270 _ t3 (by rw [info141]; simp [noTab]) (by simp [fillTo_len, noTab]) (tab_all _) ?_
      rw [← hW1, ← hW2]
      clear t3 t4 hB12 hB02 hb1 hB1 hW1 hW2 c0 c1 c2 c3 HB
      obtain ⟨NB, hNB⟩ : ∃ NB, NB = w1.heap.size := ⟨_, rfl⟩
      rw [← hNB] at hF2 hwn ⊢
      clear hNB
      have HF2 := Lib.hid hF2.drew
      have c0 : W2.cell? _ = _ := hF2.c0
      have c1 : W2.cell? _ = _ := hF2.c1
      have c2 : W2.cell? _ = _ := hF2.c2
      have c3 : W2.cell? _ = _ := hF2.c3
      clear hF2
      have hwr : IntKind.i64.wrap 1 = 1 := IntWalk.i64_in _ (by omega)
      have hwr0 : IntKind.i64.wrap 0 = 0 := IntWalk.i64_in _ (by omega)
      go_wp2_with fail
      go_region_with (first | ((with_reducible refine (HPo _ _ _ hcb2 hk24).mono ?_); rintro e w4 ⟨rfl, hb4⟩; have HF4 := Lib.hid (HF2.out.next hb4); have g1 := HF4.out.tab'.cell (i := 1) (by simp [noTab]); have g2 := HF4.out.tab'.frozen 1))
      obtain ⟨W5, hW5⟩ : ∃ W5, W5 = w4.setCell ⟨NB, 1, none⟩ (.int .i64 (putN p f (leadC p f s 1 k) hk1 0 : Int)) := ⟨_, rfl⟩
      have HF5 : Hid (LeadAt w s p f m NB (now0 p f s 1 k) W5) := Lib.hid (by
        rw [hW5]
        have := HF4.out.set 1 (putN p f (leadC p f s 1 k) hk1 0) (by simp [noTab])
        unfold now0
        rw [← Hhk.out]
        exact this)
      rw [← hW5]
      clear hW5 g1 g2 HF4 hb4 c0 c1 c2 c3 HF2
      go_wp2
      go_loopw [7] (fun hv wr => ∃ j : Nat, j ≤ hk1 ∧ hv = .int .i64 ((hk1 - j : Nat) : Int) ∧ LeadAt w s p f m NB (nowAt p f s 1 k (longestN s m) j) wr) (fun hv _ => (intOf hv).toNat)
      case atStart => exact ⟨0, Nat.zero_le _, rfl, HF5.out⟩
      case round =>
        obtain ⟨j, hj, rfl, hF⟩ := hrel
        have c0 := hF.c0
        have c1 := hF.c1
        have c2 := hF.c2
        have c3 := hF.c3
        have HF := Lib.hid hF
        clear hF
        obtain ⟨hh, hhh⟩ : ∃ hh, hh = hk1 - j := ⟨_, rfl⟩
        rw [← hhh]
        have Hhh := Lib.hid hhh
        have hh24 : hh < 24 := by omega
        by_cases hlt : 0 < hh
        · have Hjk : Hid (j < hk1) := Lib.hid (by omega)
          have hM : (26 + j) * 452984832 < 549755813888 := by omega
          have HFuj := Lib.hid (fun w => HFu (hh - 1) ((26 + j) * 452984832) (nowAt p f s 1 k (longestN s m) j) w (by omega) (nowAt_len p f s 1 k (longestN s m) j) hM (nowAt_le p f s 1 k (longestN s m) hs2 (by omega) (by omega) (by omega) j))
          have Hnx : Hid (furN p f (hh - 1) (longestN s m) (nowAt p f s 1 k (longestN s m) j) = nowAt p f s 1 k (longestN s m) (j + 1)) := Lib.hid (by
            rw [nowAt, show s - 1 - k - (j + 1) = hh - 1 by have := Hhk.out; omega])
          clear hhh hj hM
          go_wp2_with (first | (with_reducible refine stopLoad ?_) | (with_reducible refine stopStore ?_))
          unfold Shut
          refine wpList_load_row rfl 270 _ rfl NB rfl 270 _ (0, 0) _ HF.out.tab' Try.underlying270 rfl (by rw [info141]; simp [nowAt_len]) ?_
          have hsub : (hh : Int) - 1 = ((hh - 1 : Nat) : Int) := by omega
          rw [hsub]
          clear hsub
          go_wp2_with fail
          refine (HFuj.out _).mono ?_
          rintro e w6 ⟨rfl, hb6⟩
          have HF6 := Lib.hid (HF.out.next hb6)
          rw [Hnx.out]
          go_wp2_with (first | (with_reducible refine stopLoad ?_) | (with_reducible refine stopStore ?_))
          unfold Shut
          refine wpList_store_row rfl 270 _ _ rfl NB ((nowAt p f s 1 k (longestN s m) (j + 1)).map natV).toArray rfl rfl 270 _ HF6.out.tab' (by rw [info141]; simp [nowAt_len]) (by simp [nowAt_len]) (tab_all _) ?_
          have HF7 := Lib.hid (HF6.out.row (nowAt p f s 1 k (longestN s m) (j + 1)))
          obtain ⟨W7, hW7⟩ : ∃ W7, W7 = w6.setRow NB ((nowAt p f s 1 k (longestN s m) (j + 1)).map natV).toArray := ⟨_, rfl⟩
          rw [← hW7] at HF7 ⊢
          clear hW7
          go_wp2
          have hrel : ∃ j' : Nat, j' ≤ hk1 ∧ Value.int .i64 ((hh - 1 : Nat) : Int) = .int .i64 ((hk1 - j' : Nat) : Int) ∧ LeadAt w s p f m NB (nowAt p f s 1 k (longestN s m) j') W7 :=
            ⟨j + 1, by have := Hjk.out; omega, by rw [show hk1 - (j + 1) = hh - 1 by have := Hhh.out; omega], HF7.out⟩
          refine ⟨?_, ?_⟩
          · repeat apply Exists.intro
            exact ⟨hrel, rfl⟩
          · show (intOf (Value.int .i64 ((hh - 1 : Nat) : Int))).toNat < (intOf (.int .i64 (hh : Int))).toNat
            simp [intOf]; omega
        · obtain rfl : hh = 0 := by omega
          have Hj : Hid (j = hk1) := Lib.hid (by omega)
          clear hhh hj
          obtain ⟨tab, htab⟩ : ∃ tab, tab = nowAt p f s 1 k (longestN s m) (s - 1 - k) := ⟨_, rfl⟩
          have HFt : Hid (LeadAt w s p f m NB tab wr) := Lib.hid (by rw [htab, ← Hhk.out, ← Hj.out]; exact HF.out)
          have htl : tab.length = 48 := by rw [htab, nowAt_len]
          have Htab := Lib.hid htab
          clear htab HF c0 c1 c2 c3
          obtain ⟨wo, rfl⟩ : ∃ wo : World, wo = wr := ⟨_, rfl⟩
          go_wp2_with fail
          go_loopw [10, 11] (fun bv lv wr => ∃ len : Nat, 1 ≤ len ∧ len ≤ longestN s m + 1 ∧ lv = .int .i64 len ∧ bv = .int .i64 (bestAt m 1 k tab (len - 1) : Int) ∧ LeadAt w s p f m NB tab wr) (fun _ lv _ => longestN s m + 1 - (intOf lv).toNat)
          case atStart => exact ⟨1, by omega, by omega, rfl, rfl, HFt.out⟩
          case round =>
            obtain ⟨len, hl1', hl2', rfl, rfl, hF⟩ := hrel
            have c0 := hF.c0
            have c1 := hF.c1
            have c2 := hF.c2
            have c3 := hF.c3
            have HF := Lib.hid hF
            clear hF
            go_wp2_with fail
            refine (HL _).mono ?_
            rintro e w8 ⟨rfl, hb8⟩
            have HF8 := Lib.hid (HF.out.next hb8)
            have d3 := HF8.out.c3
            clear hb8 c0 c1 c2 c3
            by_cases hle : len ≤ longestN s m
            · have g1 := HF8.out.tab'.cell (i := len) (by rw [htl]; omega)
              have g2 := HF8.out.tab'.cell (i := 24 + len) (by rw [htl]; omega)
              obtain ⟨A, hA⟩ : ∃ A, A = bestAt m 1 k tab (len - 1) := ⟨_, rfl⟩
              obtain ⟨X, hX⟩ : ∃ X, X = nthN tab (len) := ⟨_, rfl⟩
              obtain ⟨Y, hY⟩ : ∃ Y, Y = nthN tab (24 + len) := ⟨_, rfl⟩
              have Hst : Hid (bestAt m 1 k tab len = if k + len ≤ m then min (min A X) Y else min A X) := Lib.hid (by
                obtain ⟨q, rfl⟩ : ∃ q, len = q + 1 := ⟨len - 1, by omega⟩
                rw [hA, hX, hY]
                simp [bestAt])
              rw [← hX] at g1
              rw [← hY] at g2
              rw [← hA]
              clear hA hX hY
              have hX0 : (0 : Int) ≤ (X : Int) := by omega
              by_cases hb : k + len ≤ m
              · have Hst2 : Hid (bestAt m 1 k tab len = min (min A X) Y) := Lib.hid (by rw [Hst.out, if_pos hb])
                go_wp2
                all_goals refine ⟨⟨len + 1, by omega, by omega, by omega, ?_, HF8.out⟩, by simp [intOf]; omega⟩
                all_goals rw [Nat.add_sub_cancel, Hst2.out]
                all_goals omega
              · have Hst2 : Hid (bestAt m 1 k tab len = min A X) := Lib.hid (by rw [Hst.out, if_neg hb])
                go_wp2
                all_goals refine ⟨⟨len + 1, by omega, by omega, by omega, ?_, HF8.out⟩, by simp [intOf]; omega⟩
                all_goals rw [Nat.add_sub_cancel, Hst2.out]
                all_goals omega
            · obtain rfl : len = longestN s m + 1 := by omega
              go_wp2
              go_ret
              exact ⟨ret_int (by unfold withLeadN; rw [Htab.out]), HF8.out.below⟩
end
end Go.Proofs.Ytdmgffoikebgkaa
/- shifted, Shift. · shifted, Shift. · Shift. -/
namespace Go.Proofs.Ytdmgffoikebgkaa
section
open Go.RowKit Go.Shelf

theorem paperLifted_int (n : Int) (b off c : Nat) (xs : List Nat) (z y : Int) (w : World) (hb : b < w.heap.size) (hl : xs.length ≤ 1000) (hx : NatsAt w b off xs) (h0 : 0 ≤ z) (hi : z < (xs.length : Int)) (hp : ∀ i, nthN xs i < 16777216) (h2 : 0 ≤ y) (hk : y < 64) :
    Calls Try.prog 148 #[.agg #[.int .i64 n, .slice (some ⟨b, off, none⟩) xs.length c], .int .i64 z, .int .i64 y] w fun e w' => e = .returned (.bool (bitN (nthN xs z.toNat) y.toNat)) ∧ Below w.heap.size w w' := by
  obtain ⟨i, rfl⟩ := Int.eq_ofNat_of_zero_le h0
  obtain ⟨k, rfl⟩ := Int.eq_ofNat_of_zero_le h2
  exact paperLifted_any n b off c xs i k w hb hl hx (by omega) (by have := hp i; omega) (by omega)
/-- a design in a box -/
structure DBox (W : World) (B n b off c : Nat) (xs : List Nat) : Prop where
  c0 : W.cell? ⟨B, 0, none⟩ = some (.int .i64 (n : Int))
  c1 : W.cell? ⟨B, 1, none⟩ = some (.slice (some ⟨b, off, none⟩) xs.length c)
theorem DBox.lt {W : World} {B n b off c : Nat} {xs : List Nat} (h : DBox W B n b off c xs) : B < W.heap.size := World.block_lt_of_cell? W ⟨B, 0, none⟩ h.c0
theorem DBox.below {W W' : World} {k B n b off c : Nat} {xs : List Nat} (h : DBox W B n b off c xs) (hb : Below k W W') (hk : B < k) : DBox W' B n b off c xs :=
  ⟨(hb.cell (p := ⟨B, 0, none⟩) hk).trans h.c0, (hb.cell (p := ⟨B, 1, none⟩) hk).trans h.c1⟩
end
end Go.Proofs.Ytdmgffoikebgkaa
namespace Go.Proofs.Ytdmgffoikebgkaa
section
open Go.RowKit Go.Shelf

theorem cell_box1 (w : World) (v : Value) (t : TypeId) : (w.alloc (.cells #[v] t)).cell? ⟨w.heap.size, 0, none⟩ = some v := (Boxed.new w t v).cell
theorem cell_lift' {k : Nat} {w w' : World} {p : Addr} {v : Value} (h : w.cell? p = some v) (hb : Below k w w') (hk : w.heap.size ≤ k) : w'.cell? p = some v :=
  (hb.cell (Nat.lt_of_lt_of_le (World.block_lt_of_cell? w p h) hk)).trans h

end
end Go.Proofs.Ytdmgffoikebgkaa
namespace Go.Proofs.Ytdmgffoikebgkaa
section
open Go.RowKit Go.Shelf

/-- check of one design, behind two boxes -/
theorem check_res (h : Int) (p : Option Addr) (c : Nat) (xs : List Int) (w : World) (o o2 : Obj) (hr : Reads w (.slice p xs.length c) xs) (e : Int) (he : checkE h xs = e) :
    Calls Try.prog 137 #[.slice (some ⟨w.heap.size + 1 + 1, 0, none⟩) 1 1] (((w.alloc o).alloc o2).alloc (.cells #[.int .i64 h, .slice p xs.length c] 37)) fun e' w' => e' = .returned (.int .i64 e) ∧ Below (w.heap.size + 1 + 1) ((w.alloc o).alloc o2) w' := by
  have := check_one ⟨h, p, c, xs⟩ ((w.alloc o).alloc o2) (hr.below (((Below.refl _ _).alloc (Nat.le_refl _) o).alloc (by simp) o2))
  simp only [World.size_alloc] at this
  refine this.mono ?_
  rintro e' w' ⟨rfl, hb⟩
  exact ⟨by rw [show (⟨h, p, c, xs⟩ : Dsg).e = checkE h xs from rfl, he], hb⟩
/-- a new design, and no error -/
def OkD (n : Nat) (ys : List Nat) (w : World) (e : Ending) (w' : World) : Prop :=
  ∃ R, e = .returned (.tuple #[.agg #[.int .i64 (n : Int), .slice (some ⟨R, 0, none⟩) ys.length ys.length], .int .i64 0]) ∧ w.heap.size ≤ R ∧ NatBlk w' R ys ∧ Below w.heap.size w w'

end
end Go.Proofs.Ytdmgffoikebgkaa
/- Reflect. · Lay. -/
namespace Go.Proofs.Ytdmgffoikebgkaa
section
open Go.RowKit Go.Shelf

/-- the hooks of a point repeat -/
def reflHooks (n : Nat) : Nat := if 2 < n then 2 * n - 2 else n
def reflG (xs : List Nat) (n : Nat) (i j : Nat) : Bool := bitN (nthN xs i) (if n ≤ j then reflHooks n - j else j)
set_option maxHeartbeats 1000000 in
theorem reflect1_any (n b off c B0 B1 K : Nat) (xs : List Nat) (i j : Nat) (w : World) (hv : VAt w b off c n xs) (hD : DBox w B0 n b off c xs) (hK : w.cell? ⟨B1, 0, none⟩ = some (.int .i64 (K : Int))) (hKe : K = reflHooks n) (hi : i < xs.length) (hj : j < K) :
    Calls Try.prog 149 #[.int .i64 (i : Int), .int .i64 (j : Int), .pointer (some ⟨B0, 0, none⟩), .pointer (some ⟨B1, 0, none⟩)] w
      fun e w' => e = .returned (.bool (reflG xs n i j)) ∧ Below w.heap.size w w' := by
  have h0 := hD.c0
  have h1 := hD.c1
  have n0 := hv.ok.n0
  have n1 := hv.ok.n1
  have l1 := hv.ok.l1
  have hK2 : K ≤ 46 := by rw [hKe]; unfold reflHooks; split <;> omega
  have HV := Lib.hid hv
  by_cases hjn : n ≤ j
  · have he : reflG xs n i j = bitN (nthN xs i) (K - j) := by unfold reflG; rw [if_pos hjn, hKe]
    have He := Lib.hid he
    have HL := fun (y : Int) h2 h3 => paperLifted_int n b off c xs i y w hv.lt (by omega) hv.at' (by omega) (by omega) hv.ok.lt' h2 h3
    clear hv hD he hKe
    have hz : ((K : Int) - j).toNat = K - j := by omega
    have Hz := Lib.hid hz
    clear hz
    go_enter Try.func149, Try.ntmps149
    go_wp2_with fail
    refine (HL _ ?_ ?_).mono ?_
    · omega
    · omega
    rintro e w' ⟨rfl, hb1⟩
    go_wp2_with fail
    go_ret
    exact ⟨ret_bool (by rw [He.out]), hb1⟩
  · have he : reflG xs n i j = bitN (nthN xs i) j := by unfold reflG; rw [if_neg hjn]
    have He := Lib.hid he
    have HL := fun (y : Int) h2 h3 => paperLifted_int n b off c xs i y w hv.lt (by omega) hv.at' (by omega) (by omega) hv.ok.lt' h2 h3
    clear hv hD he hKe
    go_enter Try.func149, Try.ntmps149
    go_wp2_with fail
    refine (HL _ ?_ ?_).mono ?_
    · omega
    · omega
    rintro e w' ⟨rfl, hb1⟩
    go_wp2_with fail
    go_ret
    exact ⟨ret_bool (by rw [He.out]), hb1⟩
/-- what every walk of a function on one design has behind its check -/
theorem res_facts {w w1 : World} {n b off c : Nat} {xs : List Nat} (hb1 : Below (w.heap.size + 1 + 1) ((w.alloc (.cells #[.int .i64 (n : Int), .slice (some ⟨b, off, none⟩) xs.length c] 37)).alloc (.cells #[.int .i64 0, .slice none 0 0] 37)) w1) :
    ResBox w1 (w.heap.size + 1) ∧ DBox w1 w.heap.size n b off c xs ∧ Below w.heap.size w w1 := by
  refine ⟨((ResBox.new (w.alloc (.cells #[.int .i64 (n : Int), .slice (some ⟨b, off, none⟩) xs.length c] 37))).below hb1 (by simp)) |> (fun h => by simpa using h), ⟨?_, ?_⟩, (((Below.refl w.heap.size w).alloc (Nat.le_refl _) _).alloc (by simp) _).trans (hb1.mono (by omega))⟩
  · exact (hb1.cell (p := ⟨w.heap.size, 0, none⟩) (by show w.heap.size < w.heap.size + 1 + 1; omega)).trans (by simp)
  · exact (hb1.cell (p := ⟨w.heap.size, 1, none⟩) (by show w.heap.size < w.heap.size + 1 + 1; omega)).trans (by simp)
set_option maxHeartbeats 1000000 in
theorem Reflect_ok (n b off c : Nat) (xs : List Nat) (w : World) (hv : VAt w b off c n xs) (hK : reflHooks n ≤ 24) :
    Calls Try.prog 74 #[.agg #[.int .i64 (n : Int), .slice (some ⟨b, off, none⟩) xs.length c]] w (OkD (reflHooks n) (painted (reflG xs n) xs.length (reflHooks n)) w) := by
  have Hc := fun o o2 => check_res n (some ⟨b, off, none⟩) c (ints xs) w o o2 (by rw [ints_len]; exact hv.reads) 0 hv.ok.check
  simp only [ints_len] at Hc
  have HV := Lib.hid hv
  have n0 := hv.ok.n0
  have n1 := hv.ok.n1
  have l1 := hv.ok.l1
  have heg := enters_of Try.func149 (by kernel_rfl) rfl
  obtain ⟨K, hKe⟩ : ∃ K, K = reflHooks n := ⟨_, rfl⟩
  rw [← hKe] at hK ⊢
  have HKe := Lib.hid hKe
  clear hv hKe
  go_enter Try.func74, Try.ntmps74
  go_wp2_with fail
  refine (Hc _ _).mono ?_
  rintro e w1 ⟨rfl, hb1⟩
  obtain ⟨q, hD, hB⟩ := res_facts hb1
  have d0 := hD.c0
  have d1 := hD.c1
  have Hq := Lib.hid q
  have Hd := Lib.hid hD
  have Hb := Lib.hid hB
  have hzw : w.heap.size + 1 < w1.heap.size := q.lt
  clear hb1 q hB hD
  have a0 : ∀ v, (w1.alloc (.cells #[.int .i64 v] 3)).cell? ⟨w.heap.size, 0, none⟩ = some (.int .i64 (n : Int)) := fun v => cell_lift' d0 ((Below.refl _ _).alloc (Nat.le_refl _) _) (Nat.le_refl _)
  have a1 : ∀ v, (w1.alloc (.cells #[.int .i64 v] 3)).cell? ⟨w.heap.size, 1, none⟩ = some (.slice (some ⟨b, off, none⟩) xs.length c) := fun v => cell_lift' d1 ((Below.refl _ _).alloc (Nat.le_refl _) _) (Nat.le_refl _)
  have hB2 : Below w1.heap.size w1 (w1.alloc (.cells #[.int .i64 (K : Int)] 3)) := (Below.refl _ _).alloc (Nat.le_refl _) _
  have HC : Cond 149 #[.pointer (some ⟨w.heap.size, 0, none⟩), .pointer (some ⟨w1.heap.size, 0, none⟩)] xs.length K (reflG xs n) (w1.alloc (.cells #[.int .i64 (K : Int)] 3)) := by
    intro W i j hB hi hj
    refine reflect1_any n b off c _ _ K xs i j W (((HV.out.below Hb.out).below hB2).below hB) ((Hd.out.below hB2 Hd.out.lt).below hB (Nat.lt_of_lt_of_le Hd.out.lt hB2.size)) (cell_lift' (cell_box1 _ _ _) hB (Nat.le_refl _)) HKe.out hi hj
  have HP := Lib.hid (paint_any 149 _ heg xs.length K (reflG xs n) _ l1 hK HC)
  have HQ2 := Lib.hid (Hq.out.below hB2 Hq.out.lt)
  have HB2 := Lib.hid (Hb.out.trans (hB2.mono Hb.out.size))
  clear HC hB2
  have hk2 : (if 2 < n then (2 : Int) * n - 2 else n) = (K : Int) := by rw [HKe.out]; unfold reflHooks; split <;> omega
  have Hk2 := Lib.hid hk2
  clear hk2
  by_cases h2 : 2 < n
  · have hk3 : (2 : Int) * n - 2 ≤ 24 := by have := Hk2.out; rw [if_pos h2] at this; omega
    go_wp2_with fail
    have eK : (2 : Int) * n - 2 = (K : Int) := by have := Hk2.out; rw [if_pos h2] at this; exact this
    rw [eK]
    refine HP.out.mono ?_
    rintro e w3 ⟨R, rfl, hR0, hR1, hR2⟩
    have q6 := HQ2.out.below hR2 HQ2.out.lt
    have k0 := q6.c0
    have k1 := q6.c1
    have k2 := q6.f 0
    have k3 := q6.f 1
    have HR0 := Lib.hid hR0
    have HR1 := Lib.hid hR1
    have HR2 := Lib.hid hR2
    clear hR0 hR1 hR2 q6 eK
    go_wp2_with fail
    refine bodyPost_ret (v := .tuple #[.agg #[.int .i64 (K : Int), .slice (some ⟨R, 0, none⟩) xs.length xs.length], .int .i64 0]) ?_ rfl ⟨R, by rw [painted_len], ?_, ?_, ?_⟩
    · simp [results, Try.results74, go_sem, k0, k1]
    · exact Nat.le_trans HB2.out.size HR0.out
    · have hz := HR0.out
      simp only [World.size_alloc] at hz
      exact (Below.heap_setCell _ _ _ _ (by simp; omega)).trans ((Below.heap_setCell _ _ _ _ (by simp; omega)).trans HR1.out)
    · exact ((HB2.out.trans (HR2.out.mono HB2.out.size)).setCell (by simp) _).setCell (by simp) _
  · have hk3 : (n : Int) ≤ 24 := by omega
    have eK : n = K := by have := Hk2.out; rw [if_neg h2] at this; omega
    have EK := Lib.hid eK
    clear eK
    go_wp2_with fail
    obtain rfl : n = K := EK.out
    refine HP.out.mono ?_
    rintro e w3 ⟨R, rfl, hR0, hR1, hR2⟩
    have q6 := HQ2.out.below hR2 HQ2.out.lt
    have k0 := q6.c0
    have k1 := q6.c1
    have k2 := q6.f 0
    have k3 := q6.f 1
    have HR0 := Lib.hid hR0
    have HR1 := Lib.hid hR1
    have HR2 := Lib.hid hR2
    clear hR0 hR1 hR2 q6
    go_wp2_with fail
    refine bodyPost_ret (v := .tuple #[.agg #[.int .i64 (n : Int), .slice (some ⟨R, 0, none⟩) xs.length xs.length], .int .i64 0]) ?_ rfl ⟨R, by rw [painted_len], ?_, ?_, ?_⟩
    · simp [results, Try.results74, go_sem, k0, k1]
    · exact Nat.le_trans HB2.out.size HR0.out
    · have hz := HR0.out
      simp only [World.size_alloc] at hz
      exact (Below.heap_setCell _ _ _ _ (by simp; omega)).trans ((Below.heap_setCell _ _ _ _ (by simp; omega)).trans HR1.out)
    · exact ((HB2.out.trans (HR2.out.mono HB2.out.size)).setCell (by simp) _).setCell (by simp) _
end
end Go.Proofs.Ytdmgffoikebgkaa
