/- Tables of the reference: Points, Table. -/
import Derived.Test.YtjobbleabepaiaaVR
import Derived.Deep.AppendLies
import Derived.Deep.RegionLaw
namespace Go.Proofs.Ytjobbleabepaiaa
open Go.RowKit

theorem tInfo4 : (Try.prog.info? 4).map (fun i => (i.zero, i.size, i.bytes)) = some (some (.bool false), 1, 1) := by kernel_rfl
theorem tInfo77 : (Try.prog.info? 77).map (fun i => (i.zero, i.size, i.bytes)) = some (some (.slice none 0 0), 1, 24) := by kernel_rfl
/-- bools in memory -/
structure BoolsAt (W : World) (b m : Nat) (f : Nat → Bool) : Prop where
  c : ∀ j, j < m → W.cell? ⟨b, j, none⟩ = some (.bool (f j))
  lt : b < W.heap.size
theorem BoolsAt.below {k : Nat} {W W' : World} {b m : Nat} {f : Nat → Bool} (h : BoolsAt W b m f) (hb : Below k W W') (hk : b < k) : BoolsAt W' b m f :=
  ⟨fun j hj => (hb.cell (p := ⟨b, j, none⟩) hk).trans (h.c j hj), Nat.lt_of_lt_of_le h.lt hb.size⟩
theorem BoolsAt.kept {W W' : World} {b m : Nat} {f : Nat → Bool} {row : Option Nat} (h : BoolsAt W b m f) (hg : W.grownBy W' row) (hne : some b ≠ row) : BoolsAt W' b m f :=
  ⟨fun j hj => (World.cell?_of_block (w := W) (a := ⟨b, j, none⟩) (hg.block b h.lt hne)).trans (h.c j hj), Nat.lt_of_lt_of_le h.lt hg.size⟩
def boolCells (f : Nat → Bool) (k : Nat) : List Value := (List.range k).map fun j => .bool (f j)
theorem boolCells_succ (f : Nat → Bool) (k : Nat) : boolCells f (k + 1) = boolCells f k ++ [.bool (f k)] := by simp [boolCells, List.range_succ]
theorem boolCells_len (f : Nat → Bool) (k : Nat) : (boolCells f k).length = k := by simp [boolCells]
theorem BoolsAt.of_row {W : World} {B m g c : Nat} {f : Nat → Bool} (h : W.ownsRow B 4 1 (.slice (some ⟨g, 0, none⟩) m c) m (boolCells f m)) : BoolsAt W g m f := by
  refine ⟨fun j hj => ?_, (h.lt g rfl).2⟩
  rw [h.cellAt j (by omega)]
  simp [boolCells, hj]
/-- a table in memory: so many rows of so many bools -/
structure TabAt (W : World) (g N m : Nat) (f : Nat → Nat → Bool) : Prop where
  r : ∀ i, i < N → ∃ b c, W.cell? ⟨g, i, none⟩ = some (.slice (some ⟨b, 0, none⟩) m c) ∧ BoolsAt W b m (f i)
  lt : g < W.heap.size
theorem TabAt.below {W W' : World} {g N m : Nat} {f : Nat → Nat → Bool} (h : TabAt W g N m f) (hb : Below W.heap.size W W') : TabAt W' g N m f :=
  ⟨fun i hi => by obtain ⟨b, c, h1, h2⟩ := h.r i hi; exact ⟨b, c, (hb.cell (p := ⟨g, i, none⟩) h.lt).trans h1, h2.below hb h2.lt⟩, Nat.lt_of_lt_of_le h.lt hb.size⟩
/-- rows of a table that is being made -/
def RowsIn (W : World) (v : Value) (sl : List Value) (k m : Nat) (f : Nat → Nat → Bool) : Prop :=
  ∀ i, i < k → ∃ b c, sl[i]? = some (.slice (some ⟨b, 0, none⟩) m c) ∧ some b ≠ v.ownBlock ∧ BoolsAt W b m (f i)
theorem RowsIn.below {W W' : World} {v : Value} {sl : List Value} {k m : Nat} {f : Nat → Nat → Bool} (h : RowsIn W v sl k m f) (hb : Below W.heap.size W W') : RowsIn W' v sl k m f := fun i hi => by
  obtain ⟨b, c, h1, h2, h3⟩ := h i hi
  exact ⟨b, c, h1, h2, h3.below hb h3.lt⟩
theorem RowsIn.grow {W w5 : World} {v v' : Value} {sl : List Value} {k m b c H : Nat} {f : Nat → Nat → Bool} (h : RowsIn W v sl k m f) (hsl : sl.length = k) (hg : W.grownBy w5 v.ownBlock) (hb : BoolsAt W b m (f k)) (hbv : some b ≠ v.ownBlock)
    (hv' : v'.ownBlock = v.ownBlock ∨ v'.ownBlock = some H) (hH : W.heap.size ≤ H) : RowsIn w5 v' (sl ++ [.slice (some ⟨b, 0, none⟩) m c]) (k + 1) m f := fun i hi => by
  have hne : ∀ x, x < W.heap.size → some x ≠ v.ownBlock → some x ≠ v'.ownBlock := fun x hx hxv => by
    rcases hv' with e | e
    · rw [e]; exact hxv
    · rw [e]; intro h; simp at h; omega
  by_cases hik : i = k
  · subst hik
    refine ⟨b, c, by rw [List.getElem?_append_right (by omega), hsl]; simp, hne _ hb.lt hbv, hb.kept hg hbv⟩
  · obtain ⟨b', c', h1, h2, h3⟩ := h i (by omega)
    exact ⟨b', c', by rw [List.getElem?_append_left (by omega)]; exact h1, hne _ h3.lt h2, h3.kept hg h2⟩
theorem TabAt.of_rows {W : World} {B g c N m : Nat} {sl : List Value} {f : Nat → Nat → Bool} (h : W.ownsRow B 77 1 (.slice (some ⟨g, 0, none⟩) N c) N sl) (hr : RowsIn W (.slice (some ⟨g, 0, none⟩) N c) sl N m f) : TabAt W g N m f := by
  refine ⟨fun i hi => ?_, (h.lt g rfl).2⟩
  obtain ⟨b, c, h1, _, h3⟩ := hr i hi
  exact ⟨b, c, by rw [h.cellAt i (by omega), h1], h3⟩

theorem below_new1 (W : World) (o : Obj) : Below W.heap.size W (W.alloc o) := (Below.refl _ _).alloc (Nat.le_refl _) o
theorem half_bit (x k : Nat) : ((((x / 2 ^ k : Nat) : Int) % 2) == 1) = bitN x k := by
  have h : bitN x k = decide (x / 2 ^ k % 2 = 1) := by unfold bitN; rw [Nat.testBit_eq_decide_div_mod_eq]
  rw [h]
  generalize x / 2 ^ k = y
  by_cases e : y % 2 = 1
  · have : (y : Int) % 2 = 1 := by omega
    rw [this]; simp [e]
  · have : (y : Int) % 2 = 0 := by omega
    rw [this]; simp [e]
theorem half_div (x k : Nat) : ((x / 2 ^ k : Nat) : Int) / 2 = ((x / 2 ^ (k + 1) : Nat) : Int) := by
  rw [Nat.pow_succ, ← Nat.div_div_eq_div_mul]; omega

set_option maxHeartbeats 2000000 in
theorem Points_any (x n : Nat) (w : World) (hx : x < 16777216) (hn : n ≤ 60) :
    Calls Try.prog 94 #[.int .i64 (x : Int), .int .i64 (n : Int)] w fun e w' => ∃ b c, e = .returned (.slice (some ⟨b, 0, none⟩) n c) ∧ w.heap.size ≤ b ∧ BoolsAt w' b n (bitN x) ∧ Below w.heap.size w w' := by
  obtain ⟨i0, hi, hz0, hz1, hz2⟩ := info_parts tInfo4
  go_enter Try.func94, Try.ntmps94
  go_wp2
  go_loopw [0, 5, 6] (fun r v i wr => ∃ k g c : Nat, k ≤ n ∧ i = .int .i64 k ∧ r = .int .i64 ((x / 2 ^ k : Nat) : Int) ∧ v = .slice (some ⟨g, 0, none⟩) k c ∧ wr.ownsRow w.heap.size 4 1 (.slice (some ⟨g, 0, none⟩) k c) k (boolCells (bitN x) k) ∧ Below w.heap.size w wr) (fun _ _ i _ => n - (intOf i).toNat)
  case atStart =>
    refine ⟨0, w.heap.size, 0, Nat.zero_le _, rfl, by simp, rfl, World.ownsRow_made w #[] 0 (Nat.le_refl _) (Nat.zero_le _) rfl, (Below.refl _ _).alloc (Nat.le_refl _) _⟩
  case round =>
    obtain ⟨k, g, c, hk, rfl, rfl, rfl, hrow, hB⟩ := hrel
    by_cases hlt : k < n
    · have hbit := half_bit x k
      have hdiv := Lib.hid (half_div x k)
      obtain ⟨y, hy⟩ : ∃ y, y = x / 2 ^ k := ⟨_, rfl⟩
      have hyl : y ≤ x := by rw [hy]; exact Nat.div_le_self _ _
      rw [← hy] at hbit hdiv
      rw [← hy]
      obtain ⟨bt, hbt⟩ : ∃ bt, bt = bitN x k := ⟨_, rfl⟩
      rw [← hbt] at hbit
      have HBT := Lib.hid hbt
      have HRow := Lib.hid hrow
      have HB := Lib.hid hB
      clear hy hbt hrow hB
      go_wp2_with (at_builtin; refine Shut.out ?_)
      unfold Shut
      refine wpList_append_lies _ rfl _ _ 77 rfl w.heap.size 4 i0 (.bool false) 1 1 Try.underlying77 hi hz0 hz1 hz2 rfl (by omega) (.slice (some ⟨g, 0, none⟩) k c) k (boolCells (bitN x) k) rfl (HRow.out.alloc _) ⟨wr.heap.size, 0, none⟩ 1 1 [.bool bt] rfl rfl (World.news_of_block (cs := #[.bool bt]) (t := 4) (fr := (0, 0)) (heap_alloc_new wr _)) (by simp [Value.oneCell']) (by omega) (by unfold maxLen; omega) (by omega) (by have := HB.out.size; simp; omega) (wr.heap.size + 1) (by simp) ?_
      intro g2 cap2 w5 hown1 hgrow hat hglt
      have hrow5 : w5.ownsRow w.heap.size 4 1 (.slice (some ⟨g2, 0, none⟩) (k + 1) cap2) (k + 1) (boolCells (bitN x) (k + 1)) := by
        rw [boolCells_succ, ← HBT.out]; exact hown1
      have hB5 : Below w.heap.size w w5 := (HB.out.alloc HB.out.size _).grown hgrow (by have := HB.out.size; simp; omega) (fun j hj => (HRow.out.lt j hj).1)
      have HR5 := Lib.hid hrow5
      have HB5 := Lib.hid hB5
      clear hrow5 hB5 hown1 hgrow hat
      go_wp2
      go_roundw
      case rel => exact ⟨k + 1, g2, cap2, by omega, by go_num, by rw [← hdiv.out], rfl, HR5.out, HB5.out⟩
      case measure => simp [intOf]; omega
    · obtain rfl : k = n := by omega
      have HRow := Lib.hid hrow
      have HB := Lib.hid hB
      clear hrow hB
      go_wp2
      go_ret
      exact ⟨g, c, rfl, (HRow.out.lt g rfl).1, BoolsAt.of_row HRow.out, HB.out⟩

set_option maxRecDepth 100000 in
set_option maxHeartbeats 4000000 in
theorem Table_any (n b off c : Nat) (xs : List Nat) (w : World) (hn : n ≤ 60) (hl : xs.length ≤ 1000) (hx : NatsAt w b off xs) (hb : b < w.heap.size) (hv : ∀ i, nthN xs i < 16777216) :
    Calls Try.prog 52 #[.agg #[.int .i64 (n : Int), .slice (some ⟨b, off, none⟩) xs.length c]] w
      fun e w' => ∃ g c, e = .returned (.slice (some ⟨g, 0, none⟩) xs.length c) ∧ TabAt w' g xs.length n (fun i j => bitN (nthN xs i) j) ∧ Below w.heap.size w w' := by
  obtain ⟨i0, hi, hz0, hz1, hz2⟩ := info_parts tInfo77
  have HX := Lib.hid hx
  have HVl := Lib.hid hv
  clear hx hv
  go_enter Try.func52, Try.ntmps52
  go_wp2
  go_loopw [3, 4] (fun v i wr => ∃ (k g c2 : Nat) (sl : List Value), k ≤ xs.length ∧ i = .int .i64 k ∧ v = .slice (some ⟨g, 0, none⟩) k c2 ∧ wr.ownsRow (w.heap.size + 1) 77 1 (.slice (some ⟨g, 0, none⟩) k c2) k sl ∧ RowsIn wr (.slice (some ⟨g, 0, none⟩) k c2) sl k n (fun i j => bitN (nthN xs i) j) ∧
      wr.cell? ⟨w.heap.size, 0, none⟩ = some (.int .i64 (n : Int)) ∧ wr.cell? ⟨w.heap.size, 1, none⟩ = some (.slice (some ⟨b, off, none⟩) xs.length c) ∧ Below w.heap.size w wr) (fun _ i _ => xs.length - (intOf i).toNat)
  case atStart =>
    have h1 := World.ownsRow_made (base := w.heap.size + 1) (e := 77) (size := 1) (w.alloc (.cells #[.int .i64 (n : Int), .slice (some ⟨b, off, none⟩) xs.length c] 24)) #[] 0 (by simp) (Nat.zero_le _) rfl
    rw [World.size_alloc] at h1
    refine ⟨0, w.heap.size + 1, 0, [], Nat.zero_le _, rfl, rfl, h1, fun i hi => by omega, ?_, ?_, ((Below.refl _ _).alloc (Nat.le_refl _) _).alloc (by simp) _⟩
    · exact (((Below.refl (w.heap.size + 1) (w.alloc (.cells #[.int .i64 (n : Int), .slice (some ⟨b, off, none⟩) xs.length c] 24))).alloc (by simp) _).cell (p := ⟨w.heap.size, 0, none⟩) (by simp)).trans (by simp)
    · exact (((Below.refl (w.heap.size + 1) (w.alloc (.cells #[.int .i64 (n : Int), .slice (some ⟨b, off, none⟩) xs.length c] 24))).alloc (by simp) _).cell (p := ⟨w.heap.size, 1, none⟩) (by simp)).trans (by simp)
  case round =>
    obtain ⟨k, g, c2, sl, hk, rfl, rfl, hrow, hin, d0, d1, hB⟩ := hrel
    by_cases hlt : k < xs.length
    · have hc := (HX.out.below hB hb) k hlt
      have hk0 : (0 : Int) ≤ (k : Int) := by omega
      have hk1 : (k : Int) < (xs.length : Int) := by omega
      have Hp := fun W => Points_any (nthN xs k) n W (HVl.out k) hn
      have hz : w.heap.size < wr.heap.size := World.block_lt_of_cell? wr ⟨w.heap.size, 0, none⟩ d0
      have hgl := (hrow.lt g rfl).2
      have HRow := Lib.hid hrow
      have HIn := Lib.hid hin
      have HB := Lib.hid hB
      have hsll : sl.length = k := by have := hrow.1; omega
      have HSl := Lib.hid hsll
      have HD := Lib.hid (And.intro d0 d1)
      clear hrow hin hB hsll
      go_wp2_with fail
      go_region_law
        (first
          | (go_simp; go_at_call 94; (with_reducible refine (Hp _).mono ?_); rintro e w3 ⟨b3, c3, rfl, hb3, hbo3, hbl3⟩; have hs3 : wr.heap.size ≤ w3.heap.size := hbl3.size; have hb3' : wr.heap.size ≤ b3 := hb3; have HB3 := Lib.hid hbl3; have HBO := Lib.hid hbo3; clear hbl3 hbo3)
          | ((refine step_append_lies _ (by rfl) _ _ _ (by rfl) (w.heap.size + 1) 77 i0 _ 1 24 Try.underlying69 hi hz0 hz1 hz2 rfl (by omega) (.slice (some ⟨g, 0, none⟩) k c2) k sl (by rfl) ((ownsRow_next HRow.out ((Below.refl _ _).drew.trans HB3.out)).alloc _)
                  ⟨w3.heap.size, 0, none⟩ 1 1 [.slice (some ⟨b3, 0, none⟩) n c3] (by rfl) (by rfl) (World.news_of_block (cs := #[.slice (some ⟨b3, 0, none⟩) n c3]) (t := 77) (fr := (0, 0)) (heap_alloc_new w3 _)) (by simp [Value.oneCell'])
                  (by omega) (by unfold maxLen; omega) (by omega) (by simp; omega) (w3.heap.size + 1) (by simp) ?_; intro g5 cap w5 hown1 hgrow hat hglt)))
      all_goals
        (have hX : Below wr.heap.size wr (w3.alloc (.cells #[.slice (some ⟨b3, 0, none⟩) n c3] 77)) := (((Below.refl _ wr).drew).trans HB3.out).alloc hs3 _
         have hin5 : RowsIn w5 (.slice (some ⟨g5, 0, none⟩) (k + 1) cap) (sl ++ [.slice (some ⟨b3, 0, none⟩) n c3]) (k + 1) n (fun i j => bitN (nthN xs i) j) :=
           (HIn.out.below hX).grow (H := w3.heap.size + 1) HSl.out hgrow (HBO.out.below (below_new1 w3 _) HBO.out.lt) (by simp [Value.ownBlock]; omega) (hat.imp (fun h => by simpa [Value.ownBlock] using h.symm) (fun h => by simp [Value.ownBlock, h])) (by simp)
         have hB5 : Below (w.heap.size + 1) wr w5 := (hX.mono (by omega)).grown hgrow (by simp; omega) (fun j hj => (HRow.out.lt j hj).1)
         have e0 := (hB5.cell (p := ⟨w.heap.size, 0, none⟩) (by simp)).trans HD.out.1
         have e1 := (hB5.cell (p := ⟨w.heap.size, 1, none⟩) (by simp)).trans HD.out.2
         have HR5 := Lib.hid hown1
         have HI5 := Lib.hid hin5
         have HBB := Lib.hid (HB.out.trans (hB5.mono (by omega)))
         have HE := Lib.hid (And.intro e0 e1)
         clear hX hin5 hB5 e0 e1 hown1 hgrow hat)
      all_goals go_wp2
      all_goals go_roundw
      all_goals first
        | (simp [intOf]; omega)
        | exact ⟨k + 1, g5, cap, _, by omega, by go_num, rfl, HR5.out, HI5.out, HE.out.1, HE.out.2, HBB.out⟩
    · obtain rfl : k = xs.length := by omega
      have HT := Lib.hid (TabAt.of_rows hrow hin)
      have HB := Lib.hid hB
      clear hrow hin hB
      go_wp2
      go_ret
      exact ⟨g, c2, rfl, HT.out, HB.out⟩
end Go.Proofs.Ytjobbleabepaiaa
