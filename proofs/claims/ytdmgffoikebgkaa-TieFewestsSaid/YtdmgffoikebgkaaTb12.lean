/- Harness ties: the harness with the fewest hooks; the design of a cloth. -/
import Derived.Test.YtdmgffoikebgkaaTb11
import Derived.Deep.DeepCutAuto
namespace Go.Proofs.Ytdmgffoikebgkaa
open Go.RowKit Go.Shelf
attribute [local go_sem] Oper.semAt_some

/-- the row of a pick behind k warps -/
def drowN (hs : List Nat) (p : Nat) : Nat → Nat
  | 0 => 0
  | k + 1 => if bitN p k then drowN hs p k ||| 2 ^ nthN hs k else drowN hs p k
theorem drowN_lt (hs : List Nat) (p : Nat) {n : Nat} (hk : ∀ i, i < hs.length → nthN hs i < n) : ∀ k, k ≤ hs.length → drowN hs p k < 2 ^ n
  | 0, _ => by rw [drowN]; exact Nat.pow_pos (by decide)
  | k + 1, h => by
    rw [drowN]
    have h1 := drowN_lt hs p hk k (by omega)
    split
    · exact Nat.or_lt_two_pow h1 (Nat.pow_lt_pow_right (by decide) (hk k (by omega)))
    · exact h1
theorem drowN_bit (hs : List Nat) (p h : Nat) : ∀ k, bitN (drowN hs p k) h = true ↔ ∃ i, i < k ∧ nthN hs i = h ∧ bitN p i = true
  | 0 => by simp [drowN, bitN]
  | k + 1 => by
    have ih := drowN_bit hs p h k
    rw [drowN]
    cases hb : bitN p k with
    | true =>
      rw [if_pos rfl]
      have e : bitN (drowN hs p k ||| 2 ^ nthN hs k) h = (bitN (drowN hs p k) h || decide (nthN hs k = h)) := by
        unfold bitN
        rw [Nat.testBit_or, Nat.testBit_two_pow]
      rw [e, Bool.or_eq_true, ih, decide_eq_true_eq]
      constructor
      · rintro (⟨i, h1, h2⟩ | h1)
        · exact ⟨i, by omega, h2⟩
        · exact ⟨k, by omega, h1, hb⟩
      · rintro ⟨i, h1, h2, h3⟩
        rcases Nat.lt_or_ge i k with h4 | h4
        · exact .inl ⟨i, h4, h2, h3⟩
        · obtain rfl : i = k := by omega
          exact .inr h2
    | false =>
      rw [if_neg (by simp), ih]
      constructor
      · rintro ⟨i, h1, h2⟩; exact ⟨i, by omega, h2⟩
      · rintro ⟨i, h1, h2, h3⟩
        rcases Nat.lt_or_ge i k with h4 | h4
        · exact ⟨i, h4, h2, h3⟩
        · obtain rfl : i = k := by omega
          rw [hb] at h3; cases h3
def dsnK (hs ps : List Nat) (k : Nat) : List Nat := (List.range k).map fun i => drowN hs (nthN ps i) hs.length
def dsnL (hs ps : List Nat) : List Nat := dsnK hs ps ps.length
theorem dsnK_succ (hs ps : List Nat) (k : Nat) : dsnK hs ps (k + 1) = dsnK hs ps k ++ [drowN hs (nthN ps k) hs.length] := by simp [dsnK, List.range_succ]
theorem dsnL_len (hs ps : List Nat) : (dsnL hs ps).length = ps.length := by simp [dsnL, dsnK]
theorem dsnL_nth (hs ps : List Nat) {i : Nat} (h : i < ps.length) : nthN (dsnL hs ps) i = drowN hs (nthN ps i) hs.length := by
  unfold dsnL dsnK nthN; simp [h]
def fewL (ps : List Nat) (k : Nat) : List Nat := (List.range k).map (fewH (colL ps))
theorem fewL_succ (ps : List Nat) (k : Nat) : fewL ps (k + 1) = fewL ps k ++ [fewH (colL ps) k] := by simp [fewL, List.range_succ]
theorem fewL_len (ps : List Nat) (k : Nat) : (fewL ps k).length = k := by simp [fewL]
theorem fewL_nth (ps : List Nat) {k i : Nat} (h : i < k) : nthN (fewL ps k) i = fewH (colL ps) i := by simp [fewL, nthN, h]
theorem colS_list (ps : List Nat) (k : Nat) : (colS ps k).data.toList = colL ps k := by simp [colS]
theorem colS_size (ps : List Nat) (k : Nat) : (colS ps k).size = ps.length := by
  show (colL ps k).toArray.size = _
  simp [colL]
theorem SMap.set {w : World} {mb k s : Nat} {g : List UInt8 → Option Nat} (h : SMap w mb k s g) (a : Addr) (v : Value) (ha : mb ≠ a.block) : SMap (w.setCell a v) mb k s g := by
  refine h.grown (row := some a.block) ⟨rfl, rfl, rfl, by simp, fun i _ hi => Below.heap_setCell w a v i (fun e => hi (by rw [e]))⟩ (by simpa using ha)
theorem ClAt.kept {w w' : World} {b off n : Nat} {ps : List Nat} {row : Option Nat} (h : ClAt w b off n ps) (hg : w.grownBy w' row) (hne : some b ≠ row) : ClAt w' b off n ps :=
  ⟨fun i hi => by obtain ⟨s, h1, h2⟩ := h.cell i hi; exact ⟨s, h1, (World.cell?_of_block (w := w) (hg.block b h.lt hne)).trans h2⟩, Nat.lt_of_lt_of_le h.lt hg.size⟩
theorem ClAt.set {w : World} {b off n : Nat} {ps : List Nat} (h : ClAt w b off n ps) (a : Addr) (v : Value) (ha : b ≠ a.block) : ClAt (w.setCell a v) b off n ps :=
  h.kept (row := some a.block) ⟨rfl, rfl, rfl, by simp, fun i _ hi => Below.heap_setCell w a v i (fun e => hi (by rw [e]))⟩ (by simpa using ha)
/-- what fewest keeps behind k warps, m of them in the map -/
structure FwAt (w0 : World) (B b off n : Nat) (ps : List Nat) (k m : Nat) (v : Value) (W : World) : Prop where
  res : BoxAt W w0.heap.size #[.int .i64 0, .slice none 0 0] 159
  box : BoxAt W B #[.int .i64 0, v] 159
  row : W.ownsRow (B + 2) 3 1 v k ((fewL ps k).map natV)
  map : ∃ q g, SMap W (B + 1) q (cntF (colL ps) m) g ∧ q ≤ m ∧ ClG (colL ps) m g
  cl : ClAt W b off n ps
  b : Below w0.heap.size w0 W
theorem FwAt.next {w0 W W' : World} {B b off n k m : Nat} {ps : List Nat} {v : Value} (h : FwAt w0 B b off n ps k m v W) (hb : Below W.heap.size W W') : FwAt w0 B b off n ps k m v W' := by
  obtain ⟨q, g, h1, h2⟩ := h.map
  exact ⟨h.res.next hb, h.box.next hb, own_next h.row hb, ⟨q, g, h1.next hb, h2⟩, h.cl.next hb, h.b.trans (hb.mono h.b.size)⟩
theorem FwAt.grew {w0 W W' : World} {B b off n k g5 cap : Nat} {ps : List Nat} {v : Value} (h : FwAt w0 B b off n ps k (k + 1) v W) (hB : w0.heap.size < B) (hb : b < w0.heap.size)
    (hg : Grew (B + 2) 3 1 W W' v g5 cap (k + 1) ((fewL ps k).map natV ++ [natV (fewH (colL ps) k)])) :
    BoxAt W' B #[.int .i64 0, v] 159 ∧ FwAt w0 B b off n ps (k + 1) (k + 1) (.slice (some ⟨g5, 0, none⟩) (k + 1) cap) (W'.setCell ⟨B, 1, none⟩ (.slice (some ⟨g5, 0, none⟩) (k + 1) cap)) := by
  have hn : ∀ j, j < B + 2 → some j ≠ v.ownBlock := fun j hj => own_far h.row hj
  have hbx := h.box.kept hg.grow (hn _ (by omega))
  have hr2 := hg.row
  refine ⟨hbx, ⟨?_, hbx.set 1 _, ?_, ?_, ?_, ?_⟩⟩
  · exact (h.res.kept hg.grow (hn _ (by omega))).other _ _ (by simp; omega)
  · refine own_set ?_ _ _ (own_far hg.row (show B < B + 2 by omega))
    rw [fewL_succ, List.map_append]; exact hr2
  · obtain ⟨q, g, h1, h2, h3⟩ := h.map
    exact ⟨q, g, (h1.grown hg.grow (hn _ (by omega))).set _ _ (by simp), h2, h3⟩
  · exact (h.cl.kept hg.grow (hn _ (by omega))).set _ _ (by simp; omega)
  · exact (h.b.grown hg.grow h.b.size (fun j hj => by have := (ownBlock_ge h.row hj).1; omega)).setCell (by simp; omega) _
set_option maxRecDepth 100000 in
set_option maxHeartbeats 4000000 in
theorem fewest_any (b off c n : Nat) (ps : List Nat) (w : World) (h : ClAt w b off n ps) (hl0 : 1 ≤ ps.length) (hl : ps.length ≤ 60) (hn0 : 1 ≤ n) (hn1 : n ≤ 96) (hF : cntF (colL ps) n ≤ 24) :
    Calls Try.prog 131 #[.slice (some ⟨b, off, none⟩) ps.length c] w fun e w' =>
      ∃ v, e = .returned (.tuple #[.agg #[.int .i64 (cntF (colL ps) n : Int), v], .int .i64 0]) ∧ w'.ownsRow w.heap.size 3 1 v n ((fewL ps n).map natV) ∧ Below w.heap.size w w' := by
  have hmm := @run_makeMap Try.prog
  have hb0 : Below w.heap.size w (w.alloc (.cells #[.int .i64 0, .slice none 0 0] 159)) := (Below.refl _ _).alloc (Nat.le_refl _) _
  have hcl0 := h.next hb0
  have HC := Lib.hid (checkCloth_few b off c n ps _ hcl0 hl hl0 hn0 hn1)
  have Hcl0 := Lib.hid hcl0
  have Hb0 := Lib.hid hb0
  have HR0 := Lib.hid (show BoxAt _ _ _ _ from BoxAt.new w #[.int .i64 0, .slice none 0 0] 159)
  have hbl := h.lt
  clear h hb0 hcl0
  go_enter Try.func131, Try.ntmps131
  go_wp2_with fail
  refine HC.out.mono ?_
  rintro e w1 ⟨rfl, hb1⟩
  have hcl1 := Hcl0.out.next hb1
  obtain ⟨s, hs, hcell⟩ := hcl1.cell 0 (by omega)
  have hsz := hs.size
  have hcell : w1.cell? ⟨b, off, none⟩ = some (.string s) := hcell
  obtain ⟨B, hB⟩ : ∃ B, w1.heap.size = B := ⟨_, rfl⟩
  have hwB : w.heap.size < B := by have := hb1.size; simp at this; omega
  have hF0 : FwAt w B b off n ps 0 0 (.slice none 0 0) ((w1.alloc (.cells #[.int .i64 0, .slice none 0 0] 159)).alloc (.map #[] 0)) := by
    have hb2 : Below w1.heap.size w1 ((w1.alloc (.cells #[.int .i64 0, .slice none 0 0] 159)).alloc (.map #[] 0)) := ((Below.refl _ _).alloc (Nat.le_refl _) _).alloc (by simp) _
    refine ⟨(HR0.out.next hb1).next hb2, ?_, World.ownsRow_nil _ _ _ _, ⟨0, _, ?_, Nat.le_refl _, ClG.start⟩, hcl1.next hb2, (Hb0.out.trans (hb1.mono (by simp))).trans (hb2.mono (by omega))⟩
    · have := (BoxAt.new w1 #[.int .i64 0, .slice none 0 0] 159).next ((Below.refl _ _).alloc (Nat.le_refl _) (.map #[] 0))
      rwa [hB] at this
    · have := SMap.made (w1.alloc (.cells #[.int .i64 0, .slice none 0 0] 159))
      rwa [World.size_alloc, hB] at this
  have HF0 := Lib.hid hF0
  have hbl1 : b < w1.heap.size := by omega
  clear hF0 hcl1 hs hb1 HC Hcl0 Hb0 HR0
  go_upto_region 6 with fail
  have hcell2 : ((w1.alloc (.cells #[.int .i64 0, .slice none 0 0] 159)).alloc (.map #[] 0)).cell? ⟨b, off, none⟩ = some (.string s) := by
    exact cell_next (((Below.refl _ _).alloc (Nat.le_refl _) _).alloc (by simp) _) hcell
  obtain ⟨W2, hW2⟩ : ∃ W2, (w1.alloc (.cells #[.int .i64 0, .slice none 0 0] 159)).alloc (.map #[] 0) = W2 := ⟨_, rfl⟩
  rw [hW2] at HF0 hcell2 ⊢
  clear hW2 hcell hB
  go_wp2_with fail
  go_loopw [22] (fun i wr => ∃ (k : Nat) (v : Value), k ≤ n ∧ i = .int .i64 (k : Int) ∧ FwAt w B b off n ps k k v wr) (fun i _ => n - (intOf i).toNat)
  case atStart => exact ⟨0, _, Nat.zero_le _, rfl, HF0.out⟩
  case round =>
    obtain ⟨k, v, hk, rfl, hT⟩ := hrel
    clear HF0 hcell2
    by_cases hlt : k < n
    · have HW := Lib.hid (column_any b off c n k ps wr hT.cl hl hl0 hlt)
      have HT := Lib.hid hT
      clear hT
      go_wp2_with fail
      refine HW.out.mono ?_
      rintro e W3 ⟨rfl, hb3⟩
      have hT3 := HT.out.next hb3
      clear HT HW hb3
      obtain ⟨q, g, hm, hq, hcg⟩ := hT3.map
      have hX : (colS ps k).size ≤ 1000 := by rw [colS_size]; omega
      have hlk := hm.look hX
      rw [colS_list] at hlk
      have hln := fun ty => hm.len ty
      have hcs := cntF_le_self (key := colL ps) k
      have hwz : w.heap.size < W3.heap.size := hT3.res.lt
      have hzB : B + 1 < W3.heap.size := hm.lt
      cases hg : g (colL ps k) with
      | none =>
        obtain ⟨hf1, hc1, hh1, hcg1⟩ := hcg.none hg
        rw [hg] at hlk
        obtain ⟨W4, hup, hm4, hgr⟩ := hm.upd (X := colS ps k) (Y := cntF (colL ps) k) hX (by omega) (by omega)
        rw [colS_list, hg] at hm4
        have hT4 : FwAt w B b off n ps k (k + 1) v W4 := by
          have hnv : v.ownBlock ≠ some (B + 1) := fun e => own_far hT3.row (show B + 1 < B + 2 by omega) e.symm
          refine ⟨hT3.res.kept hgr (by simp; omega), hT3.box.kept hgr (by simp), hT3.row.kept hgr (.inr hnv), ⟨q + 1, _, ?_, by omega, hcg1⟩, hT3.cl.kept hgr (by simp; omega), hT3.b.grown hgr hT3.b.size (fun j e => by cases e; omega)⟩
          rw [hc1]; exact hm4
        obtain ⟨m, hmm2⟩ : ∃ m, cntF (colL ps) k = m := ⟨_, rfl⟩
        rw [hmm2] at hup hln hcs hh1
        have HT4 := Lib.hid hT4
        have Hh1 := Lib.hid hh1
        have hcb := hT4.box.cell' (v := v) 1 rfl
        have hzB4 : B + 1 < W4.heap.size := Nat.lt_of_lt_of_le hzB hgr.size
        clear hT4 hT3 hm hq hcg hf1 hc1 hh1 hcg1 hm4 hgr hmm2 hg hF
        go_upto_region 14 with fail
        go_wp2_with (at_builtin; refine Shut.out ?_)
        unfold Shut
        refine app_one elemInt rfl _ _ rfl (B + 2) v k ((fewL ps k).map natV) #[.int .i64 (m : Int)] rfl HT4.out.row rfl rfl (by simp [Value.oneCell']) (by omega) (by decide) (by omega) ?_
        intro g5 cap W5 hg5
        obtain ⟨hbx, hT6⟩ := HT4.out.grew hwB hbl (by rw [Hh1.out]; exact hg5)
        have f1 := hbx.frozen 1
        have c1 : W5.cell? ⟨B, 1, none⟩ = some v := hbx.cell' 1 rfl
        have HT6 := Lib.hid hT6
        clear hbx hT6 hg5 HT4
        go_wp2_with fail
        go_roundw
        case rel => exact ⟨k + 1, _, by omega, by go_num, HT6.out⟩
        case measure => simp [intOf]; omega
      | some x =>
        obtain ⟨hx, hc1, hcg1⟩ := hcg.some hg
        rw [hg] at hlk
        have hT4 : FwAt w B b off n ps k (k + 1) v W3 := ⟨hT3.res, hT3.box, hT3.row, ⟨q, g, by rw [hc1]; exact hm, by omega, hcg1⟩, hT3.cl, hT3.b⟩
        have HT4 := Lib.hid hT4
        have Hh1 := Lib.hid hx.symm
        have hcb := hT4.box.cell' (v := v) 1 rfl
        clear hT4 hT3 hm hq hcg hx hc1 hcg1 hg hF hln
        simp only [Option.getD_some, Option.isSome_some] at hlk
        go_upto_region 14 with fail
        go_wp2_with (at_builtin; refine Shut.out ?_)
        unfold Shut
        refine app_one elemInt rfl _ _ rfl (B + 2) v k ((fewL ps k).map natV) #[.int .i64 (x : Int)] rfl HT4.out.row rfl rfl (by simp [Value.oneCell']) (by omega) (by decide) (by omega) ?_
        intro g5 cap W5 hg5
        obtain ⟨hbx, hT6⟩ := HT4.out.grew hwB hbl (by rw [Hh1.out]; exact hg5)
        have f1 := hbx.frozen 1
        have c1 : W5.cell? ⟨B, 1, none⟩ = some v := hbx.cell' 1 rfl
        have HT6 := Lib.hid hT6
        clear hbx hT6 hg5 HT4
        go_wp2_with fail
        go_roundw
        case rel => exact ⟨k + 1, _, by omega, by go_num, HT6.out⟩
        case measure => simp [intOf]; omega
    · obtain rfl : k = n := by omega
      obtain ⟨g5, cap, rfl⟩ := row_slice hT.row (by omega)
      obtain ⟨q, g, hm, hq, hcg⟩ := hT.map
      have hln := fun ty => hm.len ty
      obtain ⟨m, hmm2⟩ : ∃ m, cntF (colL ps) k = m := ⟨_, rfl⟩
      rw [hmm2] at hln hF
      have Hm := Lib.hid hmm2
      have d24 : decide ((24 : Int) < (m : Int)) = false := by simp; omega
      have c0 := hT.box.cell' (v := .int .i64 0) 0 rfl
      have c1 := hT.box.cell' (v := .slice (some ⟨g5, 0, none⟩) k cap) 1 rfl
      have f0 := hT.box.frozen 0
      have r0 := hT.res.cell' (v := .int .i64 0) 0 rfl
      have r1 := hT.res.cell' (v := .slice none 0 0) 1 rfl
      have rf0 := hT.res.frozen 0
      have rf1 := hT.res.frozen 1
      have hne : ¬ w.heap.size = B := by omega
      have hne2 : ¬ B = w.heap.size := by omega
      have HT := Lib.hid hT
      clear hT hm hq hcg hmm2
      go_wp2_with fail
      refine bodyPost_ret (v := .tuple #[.agg #[.int .i64 (m : Int), .slice (some ⟨g5, 0, none⟩) k cap], .int .i64 0]) ?_ rfl ⟨_, by rw [Hm.out], ?_, ?_⟩
      · have hb3 := ((HT.out.res.other ⟨B, 0, none⟩ (.int .i64 (m : Int)) hne).set 0 (.int .i64 (m : Int))).set 1 (.slice (some ⟨g5, 0, none⟩) k cap)
        have d0 := hb3.cell' (v := .int .i64 (m : Int)) 0 rfl
        have d1 := hb3.cell' (v := .slice (some ⟨g5, 0, none⟩) k cap) 1 rfl
        simp [results, Try.results131, go_sem, d0, d1]
      · have hn : ∀ j, j < B + 2 → some j ≠ (Value.slice (some ⟨g5, 0, none⟩) k cap).ownBlock := fun j hj => own_far HT.out.row hj
        exact own_base (own_set (own_set (own_set HT.out.row _ _ (hn _ (by simp))) _ _ (hn _ (by simp; omega))) _ _ (hn _ (by simp; omega))) (by omega)
      · exact ((HT.out.b.setCell (by simp; omega) _).setCell (by simp) _).setCell (by simp) _
/-- what design keeps between two picks -/
structure DgAt (w0 : World) (n b off c T : Nat) (hs ps : List Nat) (k : Nat) (v : Value) (W : World) : Prop where
  box : BoxAt W w0.heap.size #[.int .i64 (n : Int), .slice (some ⟨b, off, none⟩) T c] 159
  res : BoxAt W (w0.heap.size + 1) #[.int .i64 0, .slice none 0 0] 37
  d : BoxAt W (w0.heap.size + 2) #[.int .i64 (n : Int), v] 37
  row : W.ownsRow (w0.heap.size + 3) 3 1 v k ((dsnK hs ps k).map natV)
  b : Below w0.heap.size w0 W
theorem DgAt.grew {w0 W W' : World} {n b off c T k g5 cap : Nat} {hs ps : List Nat} {v : Value} (h : DgAt w0 n b off c T hs ps k v W)
    (hg : Grew (w0.heap.size + 3) 3 1 W W' v g5 cap (k + 1) ((dsnK hs ps k).map natV ++ [natV (drowN hs (nthN ps k) hs.length)])) :
    BoxAt W' (w0.heap.size + 2) #[.int .i64 (n : Int), v] 37 ∧ DgAt w0 n b off c T hs ps (k + 1) (.slice (some ⟨g5, 0, none⟩) (k + 1) cap) (W'.setCell ⟨w0.heap.size + 2, 1, none⟩ (.slice (some ⟨g5, 0, none⟩) (k + 1) cap)) := by
  have hn : ∀ j, j < w0.heap.size + 3 → some j ≠ v.ownBlock := fun j hj => own_far h.row hj
  have hbx := h.d.kept hg.grow (hn _ (by omega))
  have hr2 := hg.row
  refine ⟨hbx, ⟨?_, ?_, hbx.set 1 _, ?_, ?_⟩⟩
  · exact (h.box.kept hg.grow (hn _ (by omega))).other _ _ (by simp)
  · exact (h.res.kept hg.grow (hn _ (by omega))).other _ _ (by simp)
  · refine own_set ?_ _ _ (own_far hg.row (show w0.heap.size + 2 < w0.heap.size + 3 by omega))
    rw [dsnK_succ, List.map_append]; exact hr2
  · exact (h.b.grown hg.grow h.b.size (fun j hj => by have := (ownBlock_ge h.row hj).1; omega)).setCell (by simp) _
set_option maxRecDepth 100000 in
set_option maxHeartbeats 4000000 in
theorem design_any (n b off c b2 off2 c2 T : Nat) (hs ps : List Nat) (w : World) (hT : hs.length = T) (hv : TAt w b off n hs) (hc : ClAt w b2 off2 T ps) (hl0 : 1 ≤ ps.length) (hl : ps.length ≤ 60) :
    Calls Try.prog 128 #[.agg #[.int .i64 (n : Int), .slice (some ⟨b, off, none⟩) T c], .slice (some ⟨b2, off2, none⟩) ps.length c2] w fun e w' =>
      ∃ g cap, e = .returned (.agg #[.int .i64 (n : Int), .slice (some ⟨g, 0, none⟩) ps.length cap]) ∧ w'.ownsRow w.heap.size 3 1 (.slice (some ⟨g, 0, none⟩) ps.length cap) ps.length ((dsnL hs ps).map natV) ∧ Below w.heap.size w w' := by
  have l1 := hv.l1
  have n1 := hv.n1
  rw [hT] at l1
  have hD0 : DgAt w n b off c T hs ps 0 (.slice none 0 0) (((w.alloc (.cells #[.int .i64 (n : Int), .slice (some ⟨b, off, none⟩) T c] 159)).alloc (.cells #[.int .i64 0, .slice none 0 0] 37)).alloc (.cells #[.int .i64 (n : Int), .slice none 0 0] 37)) := by
    have e0 := ((BoxAt.new w #[.int .i64 (n : Int), .slice (some ⟨b, off, none⟩) T c] 159).next ((Below.refl _ _).alloc (Nat.le_refl _) (.cells #[.int .i64 0, .slice none 0 0] 37))).next ((Below.refl _ _).alloc (Nat.le_refl _) (.cells #[.int .i64 (n : Int), .slice none 0 0] 37))
    have e1 := (BoxAt.new (w.alloc (.cells #[.int .i64 (n : Int), .slice (some ⟨b, off, none⟩) T c] 159)) #[.int .i64 0, .slice none 0 0] 37).next ((Below.refl _ _).alloc (Nat.le_refl _) (.cells #[.int .i64 (n : Int), .slice none 0 0] 37))
    have e2 := BoxAt.new ((w.alloc (.cells #[.int .i64 (n : Int), .slice (some ⟨b, off, none⟩) T c] 159)).alloc (.cells #[.int .i64 0, .slice none 0 0] 37)) #[.int .i64 (n : Int), .slice none 0 0] 37
    rw [World.size_alloc] at e1
    rw [World.size_alloc, World.size_alloc] at e2
    exact ⟨e0, e1, e2, World.ownsRow_nil _ _ _ _, (((Below.refl w.heap.size w).alloc (Nat.le_refl _) _).alloc (by simp) _).alloc (by simp; omega) _⟩
  have HD0 := Lib.hid hD0
  have HV := Lib.hid hv
  have HCl := Lib.hid hc
  have HT := Lib.hid hT
  clear hD0 hv hc hT
  go_enter Try.func128, Try.ntmps128
  go_upto_region 2 with fail
  obtain ⟨W2, hW2⟩ : ∃ W2, ((w.alloc (.cells #[.int .i64 (n : Int), .slice (some ⟨b, off, none⟩) T c] 159)).alloc (.cells #[.int .i64 0, .slice none 0 0] 37)).alloc (.cells #[.int .i64 (n : Int), .slice none 0 0] 37) = W2 := ⟨_, rfl⟩
  rw [hW2] at HD0
  try rw [hW2]
  go_wp2_with fail
  go_loopw [16] (fun i wr => ∃ (k : Nat) (v : Value), k ≤ ps.length ∧ i = .int .i64 (k : Int) ∧ DgAt w n b off c T hs ps k v wr) (fun i _ => ps.length - (intOf i).toNat)
  case atStart => exact ⟨0, _, Nat.zero_le _, rfl, HD0.out⟩
  case round =>
    obtain ⟨k, v, hk, rfl, hD⟩ := hrel
    clear HD0
    by_cases hlt : k < ps.length
    · have hcr := HCl.out.next hD.b
      have hvr := HV.out.next hD.b
      obtain ⟨s, hs', hcell⟩ := hcr.cell k hlt
      have hsz := hs'.size
      obtain ⟨p, hp⟩ : ∃ p, nthN ps k = p := ⟨_, rfl⟩
      rw [hp] at hs'
      have Hp := Lib.hid hp
      have HS := Lib.hid hs'
      have HVr := Lib.hid hvr
      have HD := Lib.hid hD
      clear hcr hvr hs' hp hD
      go_wp2_with fail
      go_loopw [22, 8] (fun i r wz => ∃ q : Nat, q ≤ T ∧ i = .int .i64 (q : Int) ∧ r = .int .i64 (drowN hs p q : Int) ∧ wz = wr) (fun i _ _ => T - (intOf i).toNat)
      case atStart => exact ⟨0, Nat.zero_le _, rfl, rfl, rfl⟩
      case round =>
        obtain ⟨q, hq, rfl, rfl, rfl⟩ := hrel
        by_cases hqs : q < T
        · have hqT : q < hs.length := by rw [HT.out]; exact hqs
          have hidx := fun W => HS.out.idx hqs W
          have x1 := HD.out.box.cell' (v := .slice (some ⟨b, off, none⟩) T c) 1 rfl
          have hk1 := HVr.out.at' q hqT
          have hk2 := HVr.out.hk q hqT
          have hdl := drowN_lt hs p HVr.out.hk q (by omega)
          have hdl2 : drowN hs p q < 16777216 := Nat.lt_of_lt_of_le hdl (Nat.pow_le_pow_right (by decide) n1)
          have hds : drowN hs p (q + 1) = if bitN p q then drowN hs p q ||| 2 ^ nthN hs q else drowN hs p q := rfl
          obtain ⟨a, ha⟩ : ∃ a, nthN hs q = a := ⟨_, rfl⟩
          obtain ⟨r, hr⟩ : ∃ r, drowN hs p q = r := ⟨_, rfl⟩
          rw [ha] at hk1 hk2 hds
          rw [hr] at hdl2 hds
          rw [hr]
          cases hb : bitN p q with
          | true =>
            have hv : byteP p q = 120 := by unfold byteP; rw [hb]; rfl
            rw [hv] at hidx
            rw [hb, if_pos rfl] at hds
            have Hds := Lib.hid hds
            have hal : a < 24 := by omega
            clear hb hv hds hdl ha hr
            go_wp2_with fail
            have h2 : (2 : Int) ^ a < 16777216 := by
              have : 2 ^ a < 2 ^ 24 := Nat.pow_lt_pow_right (by decide) hal
              have h3 : ((2 ^ a : Nat) : Int) < 16777216 := by omega
              simpa using h3
            have h1 : (0 : Int) ≤ 2 ^ a := Int.pow_nonneg (by decide)
            have hor : bits BinOp.or IntKind.i64 (r : Int) (wrap64 (2 ^ a)) = ((r ||| 2 ^ a : Nat) : Int) := by
              rw [wrap64_in _ ⟨by omega, by omega⟩]
              exact or_step r a (by omega) hal
            go_roundw
            case rel => exact ⟨q + 1, by omega, by go_num, by rw [hor, Hds.out], trivial⟩
            case measure => simp [intOf]; omega
          | false =>
            have hv : byteP p q = 46 := by unfold byteP; rw [hb]; rfl
            rw [hv] at hidx
            rw [hb, if_neg (by simp)] at hds
            have Hds := Lib.hid hds
            clear hb hv hds hdl ha hr
            go_wp2_with fail
            go_roundw
            case rel => exact ⟨q + 1, by omega, by go_num, by rw [Hds.out], trivial⟩
            case measure => simp [intOf]; omega
        · obtain rfl : q = T := by omega
          have x1 := HD.out.d.cell' (v := v) 1 rfl
          have hzw : w.heap.size + 2 < wr.heap.size := HD.out.d.lt
          have he : drowN hs p q = drowN hs (nthN ps k) hs.length := by rw [Hp.out, HT.out]
          obtain ⟨r, hr⟩ : ∃ r, drowN hs p q = r := ⟨_, rfl⟩
          rw [hr] at he
          rw [hr]
          have He := Lib.hid he
          clear he hr
          go_upto_region 12 with fail
          go_wp2_with (at_builtin; refine Shut.out ?_)
          unfold Shut
          refine app_one elemInt rfl _ _ rfl (w.heap.size + 3) v k ((dsnK hs ps k).map natV) #[.int .i64 (r : Int)] rfl HD.out.row rfl rfl (by simp [Value.oneCell']) (by omega) (by decide) (by omega) ?_
          intro g5 cap W5 hg5
          obtain ⟨hbx, hT6⟩ := HD.out.grew (by rw [← He.out]; exact hg5)
          have f1 := hbx.frozen 1
          have c1 : W5.cell? ⟨w.heap.size + 2, 1, none⟩ = some v := hbx.cell' 1 rfl
          have HT6 := Lib.hid hT6
          clear hbx hT6 hg5
          go_wp2_with fail
          go_roundw
          case rel => exact ⟨k + 1, _, by omega, by go_num, HT6.out⟩
          case measure => simp [intOf]; omega
    · obtain rfl : k = ps.length := by omega
      obtain ⟨g5, cap, rfl⟩ := row_slice hD.row (by omega)
      have c0 := hD.d.cell' (v := .int .i64 (n : Int)) 0 rfl
      have c1 := hD.d.cell' (v := .slice (some ⟨g5, 0, none⟩) ps.length cap) 1 rfl
      have r0 := hD.res.cell' (v := .int .i64 0) 0 rfl
      have r1 := hD.res.cell' (v := .slice none 0 0) 1 rfl
      have rf0 := hD.res.frozen 0
      have rf1 := hD.res.frozen 1
      have HD := Lib.hid hD
      clear hD
      go_wp2_with fail
      refine bodyPost_ret (v := .agg #[.int .i64 (n : Int), .slice (some ⟨g5, 0, none⟩) ps.length cap]) ?_ rfl ⟨g5, cap, rfl, ?_, ?_⟩
      · have hb3 := (HD.out.res.set 0 (.int .i64 (n : Int))).set 1 (.slice (some ⟨g5, 0, none⟩) ps.length cap)
        have d0 := hb3.cell' (v := .int .i64 (n : Int)) 0 rfl
        have d1 := hb3.cell' (v := .slice (some ⟨g5, 0, none⟩) ps.length cap) 1 rfl
        simp [results, Try.results128, go_sem, d0, d1]
      · have hn : ∀ j, j < w.heap.size + 3 → some j ≠ (Value.slice (some ⟨g5, 0, none⟩) ps.length cap).ownBlock := fun j hj => own_far HD.out.row hj
        exact own_base (own_set (own_set HD.out.row _ _ (hn _ (by simp))) _ _ (hn _ (by simp))) (by omega)
      · exact (HD.out.b.setCell (by simp) _).setCell (by simp) _
end Go.Proofs.Ytdmgffoikebgkaa
/- Harness ties: Fewest. -/
namespace Go.Proofs.Ytdmgffoikebgkaa
open Go.RowKit Go.Shelf
attribute [local go_sem] Oper.semAt_some

theorem few_tat {W : World} {g n : Nat} {ps : List Nat} (hn : NatsAt W g 0 (fewL ps n)) (hg : g < W.heap.size) (hn0 : 1 ≤ n) (hn1 : n ≤ 96) (hF : cntF (colL ps) n ≤ 24) : TAt W g 0 (cntF (colL ps) n) (fewL ps n) :=
  ⟨hn, hg, cntF_pos hn0, hF, by rw [fewL_len]; exact hn0, by rw [fewL_len]; exact hn1, fun i hi => by
    rw [fewL_len] at hi
    rw [fewL_nth ps hi]
    exact fewH_lt hi⟩
set_option maxRecDepth 100000 in
set_option maxHeartbeats 4000000 in
theorem Fewest_any (b off c n : Nat) (ps : List Nat) (w : World) (h : ClAt w b off n ps) (hl0 : 1 ≤ ps.length) (hl : ps.length ≤ 60) (hn0 : 1 ≤ n) (hn1 : n ≤ 96) (hF : cntF (colL ps) n ≤ 24) :
    Calls Try.prog 54 #[.slice (some ⟨b, off, none⟩) ps.length c] w fun e w' =>
      ∃ g cap g2 cap2, e = .returned (.tuple #[.agg #[.int .i64 (cntF (colL ps) n : Int), .slice (some ⟨g, 0, none⟩) n cap], .agg #[.int .i64 (cntF (colL ps) n : Int), .slice (some ⟨g2, 0, none⟩) ps.length cap2], .int .i64 0]) ∧
        NatsAt w' g 0 (fewL ps n) ∧ NatsAt w' g2 0 (dsnL (fewL ps n) ps) ∧ w.heap.size ≤ g ∧ g < w'.heap.size ∧ w.heap.size ≤ g2 ∧ g2 < w'.heap.size ∧ Below w.heap.size w w' := by
  have hb0 : Below w.heap.size w ((w.alloc (.cells #[.int .i64 0, .slice none 0 0] 26)).alloc (.cells #[.int .i64 0, .slice none 0 0] 37)) := ((Below.refl _ _).alloc (Nat.le_refl _) _).alloc (by simp) _
  have hA0 := (BoxAt.new w #[.int .i64 0, .slice none 0 0] 26).next ((Below.refl _ _).alloc (Nat.le_refl _) (.cells #[.int .i64 0, .slice none 0 0] 37))
  have hA1 := BoxAt.new (w.alloc (.cells #[.int .i64 0, .slice none 0 0] 26)) #[.int .i64 0, .slice none 0 0] 37
  rw [World.size_alloc] at hA1
  have hcl0 := h.next hb0
  have HW := Lib.hid (fewest_any b off c n ps _ hcl0 hl0 hl hn0 hn1 hF)
  obtain ⟨m, hm⟩ : ∃ m, cntF (colL ps) n = m := ⟨_, rfl⟩
  have Hm := Lib.hid hm
  rw [hm] at HW
  have HA0 := Lib.hid hA0
  have HA1 := Lib.hid hA1
  have Hb0 := Lib.hid hb0
  have Hcl0 := Lib.hid hcl0
  have hbl := h.lt
  clear h hb0 hA0 hA1 hcl0 hm
  go_enter Try.func54, Try.ntmps54
  go_wp2_with fail
  refine HW.out.mono ?_
  rintro e W1 ⟨v, rfl, hrow, hb1⟩
  obtain ⟨g, cap, rfl⟩ := row_slice hrow (by omega)
  obtain ⟨hn, hgg, hgl⟩ := nats_of_row hrow (by omega)
  have hz1 := hb1.size
  simp only [World.size_alloc] at hz1 hgl
  go_upto_region 4 with fail
  obtain ⟨X, hX⟩ : ∃ X, W1.alloc (.cells #[.int .i64 (m : Int), .slice (some ⟨g, 0, none⟩) n cap] 159) = X := ⟨_, rfl⟩
  obtain ⟨B5, hB5⟩ : ∃ B5, W1.heap.size = B5 := ⟨_, rfl⟩
  have hbX : Below W1.heap.size W1 X := by rw [← hX]; exact (Below.refl _ _).alloc (Nat.le_refl _) _
  have hxB : BoxAt X B5 #[.int .i64 (m : Int), .slice (some ⟨g, 0, none⟩) n cap] 159 := by rw [← hX, ← hB5]; exact BoxAt.new _ _ _
  have hxA0 := (HA0.out.next hb1).next hbX
  have hxA1 := (HA1.out.next hb1).next hbX
  have hnX := hn.below hbX hgg
  have hgX : g < X.heap.size := Nat.lt_of_lt_of_le hgg hbX.size
  have hclX := (Hcl0.out.next hb1).next hbX
  have hbw := Hb0.out.trans ((hb1.trans (hbX.mono hb1.size)).mono (by simp; omega))
  rw [hX, hB5]
  have HD := Lib.hid (fun (W : World) (hb : Below X.heap.size X W) => design_any m g 0 cap b off c n (fewL ps n) ps W (fewL_len ps n) (by have := few_tat (hnX.below hb hgX) (Nat.lt_of_lt_of_le hgX hb.size) hn0 hn1 hF; rwa [Hm.out] at this) (hclX.next hb) hl0 hl)
  have z0 := hxB.cell' (v := .int .i64 (m : Int)) 0 rfl
  have z1 := hxB.cell' (v := .slice (some ⟨g, 0, none⟩) n cap) 1 rfl
  have HB5 := Lib.hid hxB
  have HXA0 := Lib.hid hxA0
  have HXA1 := Lib.hid hxA1
  have HN := Lib.hid hnX
  have Hbw := Lib.hid hbw
  have hwB : w.heap.size + 1 < B5 := by omega
  clear hxB hxA0 hxA1 hnX hclX hbX hbw hX hn hrow HA0 HA1 Hb0 Hcl0 HW hb1 hB5 hgg
  have hmx : Try.prog.follows .mixedOrders = true := by kernel_rfl
  have HDD := HD.out X.drew (Below.drew (Below.refl _ _))
  go_region_law
    (go_simp; go_at_call 128; (with_reducible refine HDD.mono ?_); rintro e w3 ⟨g2, cap2, rfl, hrow2, hb3⟩
     have y0 : w3.cell? ⟨B5, 0, none⟩ = some (.int .i64 (m : Int)) := cell_next (W := X.drew) hb3 z0
     have y1 : w3.cell? ⟨B5, 1, none⟩ = some (.slice (some ⟨g, 0, none⟩) n cap) := cell_next (W := X.drew) hb3 z1
     have r0 : BoxAt w3 w.heap.size #[.int .i64 0, .slice none 0 0] 26 := BoxAt.next (W := X.drew) HXA0.out hb3
     have r1 : BoxAt w3 (w.heap.size + 1) #[.int .i64 0, .slice none 0 0] 37 := BoxAt.next (W := X.drew) HXA1.out hb3
     have q0 := r0.cell' (v := .int .i64 0) 0 rfl
     have q1 := r0.cell' (v := .slice none 0 0) 1 rfl
     have q2 := r1.cell' (v := .int .i64 0) 0 rfl
     have q3 := r1.cell' (v := .slice none 0 0) 1 rfl
     have q4 := r0.frozen 0
     have q5 := r0.frozen 1
     have q6 := r1.frozen 0
     have q7 := r1.frozen 1
     have H2 := Lib.hid hrow2
     have H3 := Lib.hid hb3
     have HR0 := Lib.hid r0
     have HR1 := Lib.hid r1
     clear hrow2 hb3 r0 r1)
  all_goals
    (obtain ⟨hn3, hg3b, hg3a⟩ := nats_of_row H2.out (by omega)
     have hg3 : NatsAt w3 g 0 (fewL ps n) := NatsAt.below (w := X.drew) HN.out H3.out (by simpa using hgX)
     have hbw3 : Below w.heap.size w w3 := Hbw.out.trans ((Below.drew (Below.refl X.heap.size X)).trans H3.out |>.mono Hbw.out.size)
     have hz3 := H3.out.size
     have hz4 : X.drew.heap.size = X.heap.size := rfl
     have hz5 := Hbw.out.size
     have hz6 : w.heap.size + 1 < X.heap.size := HXA1.out.lt
     have hz7 := HB5.out.lt
     go_wp2_with fail
     first
     | (refine bodyPost_ret (v := .tuple #[.agg #[.int .i64 (m : Int), .slice (some ⟨g, 0, none⟩) n cap], .agg #[.int .i64 (m : Int), .slice (some ⟨g2, 0, none⟩) ps.length cap2], .int .i64 0]) ?_ rfl ⟨g, cap, g2, cap2, by rw [Hm.out], ?_, ?_, ?_, ?_, ?_, ?_, ?_⟩
        · have ha := ((((HR0.out.set 0 (.int .i64 (m : Int))).set 1 (.slice (some ⟨g, 0, none⟩) n cap)).other ⟨w.heap.size + 1, 0, none⟩ (.int .i64 (m : Int)) (by simp)).other ⟨w.heap.size + 1, 1, none⟩ (.slice (some ⟨g2, 0, none⟩) ps.length cap2) (by simp))
          have hb := ((((HR1.out.other ⟨w.heap.size, 0, none⟩ (.int .i64 (m : Int)) (by simp)).other ⟨w.heap.size, 1, none⟩ (.slice (some ⟨g, 0, none⟩) n cap) (by simp)).set 0 (.int .i64 (m : Int))).set 1 (.slice (some ⟨g2, 0, none⟩) ps.length cap2))
          have d0 := ha.cell' (v := .int .i64 (m : Int)) 0 rfl
          have d1 := ha.cell' (v := .slice (some ⟨g, 0, none⟩) n cap) 1 rfl
          have d2 := hb.cell' (v := .int .i64 (m : Int)) 0 rfl
          have d3 := hb.cell' (v := .slice (some ⟨g2, 0, none⟩) ps.length cap2) 1 rfl
          simp [results, Try.results54, go_sem, d0, d1, d2, d3, Act.put]
        · exact nats_setB (nats_setB (nats_setB (nats_setB hg3 _ _ _ (by omega)) _ _ _ (by omega)) _ _ _ (by omega)) _ _ _ (by omega)
        · exact nats_setB (nats_setB (nats_setB (nats_setB hn3 _ _ _ (by omega)) _ _ _ (by omega)) _ _ _ (by omega)) _ _ _ (by omega)
        · omega
        · simp only [setCell_size]; omega
        · omega
        · simp only [setCell_size]; omega
        · exact (((hbw3.setCell (by simp) _).setCell (by simp) _).setCell (by simp) _).setCell (by simp) _)
     | (refine bodyPost_ret (v := .tuple #[.agg #[.int .i64 (m : Int), .slice (some ⟨g, 0, none⟩) n cap], .agg #[.int .i64 (m : Int), .slice (some ⟨g2, 0, none⟩) ps.length cap2], .int .i64 0]) ?_ rfl ⟨g, cap, g2, cap2, by rw [Hm.out], ?_, ?_, ?_, ?_, ?_, ?_, ?_⟩
        · have ha := ((((HR0.out.other ⟨w.heap.size + 1, 0, none⟩ (.int .i64 (m : Int)) (by simp)).other ⟨w.heap.size + 1, 1, none⟩ (.slice (some ⟨g2, 0, none⟩) ps.length cap2) (by simp)).set 0 (.int .i64 (m : Int))).set 1 (.slice (some ⟨g, 0, none⟩) n cap))
          have hb := ((((HR1.out.set 0 (.int .i64 (m : Int))).set 1 (.slice (some ⟨g2, 0, none⟩) ps.length cap2)).other ⟨w.heap.size, 0, none⟩ (.int .i64 (m : Int)) (by simp)).other ⟨w.heap.size, 1, none⟩ (.slice (some ⟨g, 0, none⟩) n cap) (by simp))
          have d0 := ha.cell' (v := .int .i64 (m : Int)) 0 rfl
          have d1 := ha.cell' (v := .slice (some ⟨g, 0, none⟩) n cap) 1 rfl
          have d2 := hb.cell' (v := .int .i64 (m : Int)) 0 rfl
          have d3 := hb.cell' (v := .slice (some ⟨g2, 0, none⟩) ps.length cap2) 1 rfl
          simp [results, Try.results54, go_sem, d0, d1, d2, d3, Act.put]
        · exact nats_setB (nats_setB (nats_setB (nats_setB hg3 _ _ _ (by omega)) _ _ _ (by omega)) _ _ _ (by omega)) _ _ _ (by omega)
        · exact nats_setB (nats_setB (nats_setB (nats_setB hn3 _ _ _ (by omega)) _ _ _ (by omega)) _ _ _ (by omega)) _ _ _ (by omega)
        · omega
        · simp only [setCell_size]; omega
        · omega
        · simp only [setCell_size]; omega
        · exact (((hbw3.setCell (by simp) _).setCell (by simp) _).setCell (by simp) _).setCell (by simp) _))
end Go.Proofs.Ytdmgffoikebgkaa
/- Harness ties: a cloth's check, where two warps of one hook part; Unweave, Part, Apart. -/
namespace Go.Proofs.Ytdmgffoikebgkaa
open Go.RowKit Go.Shelf
attribute [local go_sem] Oper.semAt_some

set_option maxRecDepth 100000 in
set_option maxHeartbeats 1000000 in
theorem checkWoven_ok (n b off c b2 off2 c2 T : Nat) (hs ps : List Nat) (w : World) (hT : hs.length = T) (hv : TAt w b off n hs) (hc : ClAt w b2 off2 T ps) (hl0 : 1 ≤ ps.length) (hl : ps.length ≤ 60) :
    Calls Try.prog 126 #[.agg #[.int .i64 (n : Int), .slice (some ⟨b, off, none⟩) T c], .slice (some ⟨b2, off2, none⟩) ps.length c2] w fun e w' => e = .returned (.int .i64 0) ∧ Below w.heap.size w w' := by
  subst hT
  have hb1 : Below w.heap.size w (w.alloc (.cells #[.int .i64 (n : Int), .slice (some ⟨b, off, none⟩) hs.length c] 26)) := (Below.refl _ _).alloc (Nat.le_refl _) _
  have HA := Lib.hid (tieCheck_ok n b off c hs _ (hv.next hb1))
  have HC := fun W (hb : Below (w.alloc (.cells #[.int .i64 (n : Int), .slice (some ⟨b, off, none⟩) hs.length c] 26)).heap.size (w.alloc (.cells #[.int .i64 (n : Int), .slice (some ⟨b, off, none⟩) hs.length c] 26)) W) =>
    checkCloth_wov b2 off2 c2 hs.length w.heap.size c (some ⟨b, off, none⟩) ps W ((hc.next hb1).next hb) hl hl0 (((BoxAt.new w #[.int .i64 (n : Int), .slice (some ⟨b, off, none⟩) hs.length c] 26).next hb).cell' 1 rfl)
  have Hb1 := Lib.hid hb1
  clear hb1 hv hc
  go_enter Try.func126, Try.ntmps126
  go_wp2_with fail
  refine HA.out.mono ?_
  rintro e w1 ⟨rfl, hb⟩
  have H2 := Lib.hid (HC w1 hb)
  have Hb := Lib.hid hb
  clear HC hb
  go_wp2_with fail
  refine H2.out.mono ?_
  rintro e w2 ⟨rfl, hb2⟩
  have Hb2 := Lib.hid hb2
  clear hb2
  go_wp2_with fail
  go_ret
  exact ⟨rfl, (Hb1.out.trans (Hb.out.mono (by simp))).trans (Hb2.out.mono (by have := Hb.out.size; simp at this; omega))⟩
/-- the first place at which a warp is not like the first one of its hook -/
def Like2 (hs ps : List Nat) (p w : Nat) : Prop := bitN (nthN ps p) w = bitN (nthN ps p) (fstI (nthN hs) w)
structure PartAt (hs ps : List Nat) (p w : Nat) : Prop where
  hp : p < ps.length
  hw : w < hs.length
  ne : ¬ Like2 hs ps p w
  row : ∀ w', w' < w → Like2 hs ps p w'
  rows : ∀ p' w', p' < p → w' < hs.length → Like2 hs ps p' w'
def NoPart (hs ps : List Nat) : Prop := ∀ p w, p < ps.length → w < hs.length → Like2 hs ps p w
theorem firstH_fst {hs : List Nat} {k : Nat} (hk : k < hs.length) : firstH hs (nthN hs k) = some (fstI (nthN hs) k) := by
  obtain ⟨o, ho, h1, h2, h3⟩ := firstH_some hk
  rw [ho]
  congr 1
  rcases Nat.lt_trichotomy o (fstI (nthN hs) k) with h | h | h
  · exact absurd h2 (fstI_least h)
  · exact h
  · exact absurd (fstI_key (key := nthN hs) k) (h3 _ h)
theorem part_uniq {hs ps : List Nat} {p w p' w' : Nat} (h : PartAt hs ps p w) (h' : PartAt hs ps p' w') : p = p' ∧ w = w' := by
  rcases Nat.lt_trichotomy p p' with e | e | e
  · exact absurd (h'.rows p w e h.hw) h.ne
  · subst e
    rcases Nat.lt_trichotomy w w' with e | e | e
    · exact absurd (h'.row w e) h.ne
    · exact ⟨rfl, e⟩
    · exact absurd (h.row w' e) h'.ne
  · exact absurd (h.rows p' w' e h'.hw) h'.ne
def PartR (hs ps : List Nat) (e : Ending) : Prop :=
  (∃ p w : Nat, PartAt hs ps p w ∧ e = .returned (.tuple #[.int .i64 (p : Int), .int .i64 (w : Int), .int .i64 (fstI (nthN hs) w : Int), .bool true])) ∨ (NoPart hs ps ∧ e = .returned (.tuple #[.int .i64 0, .int .i64 0, .int .i64 0, .bool false]))
set_option maxRecDepth 100000 in
set_option maxHeartbeats 4000000 in
theorem part_any (n b off c b2 off2 c2 T : Nat) (hs ps : List Nat) (w : World) (hT : hs.length = T) (hv : TAt w b off n hs) (hc : ClAt w b2 off2 T ps) (hl : ps.length ≤ 60) :
    Calls Try.prog 127 #[.agg #[.int .i64 (n : Int), .slice (some ⟨b, off, none⟩) T c], .slice (some ⟨b2, off2, none⟩) ps.length c2] w fun e w' => PartR hs ps e ∧ Below w.heap.size w w' := by
  have l1 := hv.l1
  rw [hT] at l1
  have hb1 : Below w.heap.size w (w.alloc (.cells #[.int .i64 (n : Int), .slice (some ⟨b, off, none⟩) T c] 159)) := (Below.refl _ _).alloc (Nat.le_refl _) _
  have HF := Lib.hid (show Calls Try.prog 132 #[.agg #[.int .i64 (n : Int), .slice (some ⟨b, off, none⟩) T c]] _ _ by have := firsts_any n b off c hs _ (hv.next hb1); rw [hT] at this; exact this)
  have HBx := Lib.hid (show BoxAt _ _ _ _ from BoxAt.new w #[.int .i64 (n : Int), .slice (some ⟨b, off, none⟩) T c] 159)
  have HV := Lib.hid (hv.next hb1)
  have HC := Lib.hid (hc.next hb1)
  have Hb1 := Lib.hid hb1
  have HT := Lib.hid hT
  have hhk := hv.hk
  rw [hT] at hhk
  have n1 := hv.n1
  clear hb1 hv hc hT
  go_enter Try.func127, Try.ntmps127
  go_wp2_with fail
  refine HF.out.mono ?_
  rintro e W1 ⟨mb, km, sm, rfl, hm, _, hbm⟩
  have HM := Lib.hid hm
  have HBx := Lib.hid (HBx.out.next hbm)
  have HV := Lib.hid (HV.out.next hbm)
  have HC := Lib.hid (HC.out.next hbm)
  have Hb1 := Lib.hid (Hb1.out.trans (hbm.mono (by simp)))
  clear hm hbm HF
  go_wp2_with fail
  go_loopw [17] (fun i wr => ∃ k : Nat, k ≤ ps.length ∧ i = .int .i64 (k : Int) ∧ Below W1.heap.size W1 wr ∧ ∀ p' w', p' < k → w' < T → Like2 hs ps p' w') (fun i _ => ps.length - (intOf i).toNat)
  case atStart => exact ⟨0, Nat.zero_le _, rfl, Below.refl _ _, fun _ _ h => by omega⟩
  case round =>
    obtain ⟨k, hk, rfl, hbw, hrows⟩ := hrel
    by_cases hlt : k < ps.length
    · obtain ⟨s, hs', hcell⟩ := (HC.out.next hbw).cell k hlt
      have hsz := hs'.size
      have HS := Lib.hid hs'
      have HR := Lib.hid hrows
      have HBw := Lib.hid hbw
      clear hs' hrows hbw
      go_wp2_with fail
      go_loopw [24] (fun i wz => ∃ q : Nat, q ≤ T ∧ i = .int .i64 (q : Int) ∧ Below W1.heap.size W1 wz ∧ ∀ w', w' < q → Like2 hs ps k w') (fun i _ => T - (intOf i).toNat)
      case atStart => exact ⟨0, Nat.zero_le _, rfl, HBw.out, fun _ h => by omega⟩
      case round =>
        obtain ⟨q, hq, rfl, hbz, hrow⟩ := hrel
        clear hcell
        by_cases hqs : q < T
        · have hqT : q < hs.length := by rw [HT.out]; exact hqs
          have x1 := (HBx.out.next hbz).cell' (v := .slice (some ⟨b, off, none⟩) T c) 1 rfl
          have hk1 := (HV.out.next hbz).at' q hqT
          have hk2 := hhk q hqs
          have hlk := (HM.out.next hbz).look1 (X := (nthN hs q : Int)) (by omega)
          have hfa : firstG hs T ((nthN hs q : Nat) : Int) = firstH hs (nthN hs q) := by rw [← HT.out]; exact firstG_all hs _
          rw [hfa, firstH_fst hqT] at hlk
          clear hfa
          simp only [Option.getD_some] at hlk
          have hol := fstI_le (key := nthN hs) q
          obtain ⟨o, ho⟩ : ∃ o, fstI (nthN hs) q = o := ⟨_, rfl⟩
          rw [ho] at hlk hol
          have hi1 := fun W => HS.out.idx hqs W
          have hi2 := fun W => HS.out.idx (show o < T by omega) W
          have Ho := Lib.hid ho
          have HRow := Lib.hid hrow
          have Hbz := Lib.hid hbz
          clear ho hrow hbz
          cases e1 : bitN (nthN ps k) q <;> cases e2 : bitN (nthN ps k) o
          · have v1 : byteP (nthN ps k) q = 46 := by unfold byteP; rw [e1]; rfl
            have v2 : byteP (nthN ps k) o = 46 := by unfold byteP; rw [e2]; rfl
            rw [v1] at hi1
            rw [v2] at hi2
            have hL : Like2 hs ps k q := by unfold Like2; rw [Ho.out, e1, e2]
            have HL := Lib.hid hL
            clear v1 v2 hL e1 e2
            go_wp2_with fail
            go_region
            all_goals go_wp2_with fail
            all_goals go_roundw
            case rel => exact ⟨q + 1, by omega, by go_num, Hbz.out.drew, fun w' h => by
              rcases Nat.lt_or_ge w' q with h3 | h3
              · exact HRow.out w' h3
              · obtain rfl : w' = q := by omega
                exact HL.out⟩
            case measure => simp [intOf]; omega
          · have v1 : byteP (nthN ps k) q = 46 := by unfold byteP; rw [e1]; rfl
            have v2 : byteP (nthN ps k) o = 120 := by unfold byteP; rw [e2]; rfl
            rw [v1] at hi1
            rw [v2] at hi2
            have hL : ¬ Like2 hs ps k q := by unfold Like2; rw [Ho.out, e1, e2]; decide
            have HL := Lib.hid hL
            clear v1 v2 hL e1 e2
            go_wp2_with fail
            go_region
            all_goals go_wp2_with fail
            all_goals
              (refine bodyPost_ret (v := .tuple #[.int .i64 (k : Int), .int .i64 (q : Int), .int .i64 (o : Int), .bool true]) ?_ rfl ⟨.inl ⟨k, q, ⟨hlt, hqT, HL.out, HRow.out, fun p' w' h1 h2 => HR.out p' w' h1 (by rw [← HT.out]; exact h2)⟩, by rw [Ho.out]⟩, (Hb1.out.trans (Hbz.out.mono Hb1.out.size)).drew⟩
               simp [results, Try.results127, go_sem])
          · have v1 : byteP (nthN ps k) q = 120 := by unfold byteP; rw [e1]; rfl
            have v2 : byteP (nthN ps k) o = 46 := by unfold byteP; rw [e2]; rfl
            rw [v1] at hi1
            rw [v2] at hi2
            have hL : ¬ Like2 hs ps k q := by unfold Like2; rw [Ho.out, e1, e2]; decide
            have HL := Lib.hid hL
            clear v1 v2 hL e1 e2
            go_wp2_with fail
            go_region
            all_goals go_wp2_with fail
            all_goals
              (refine bodyPost_ret (v := .tuple #[.int .i64 (k : Int), .int .i64 (q : Int), .int .i64 (o : Int), .bool true]) ?_ rfl ⟨.inl ⟨k, q, ⟨hlt, hqT, HL.out, HRow.out, fun p' w' h1 h2 => HR.out p' w' h1 (by rw [← HT.out]; exact h2)⟩, by rw [Ho.out]⟩, (Hb1.out.trans (Hbz.out.mono Hb1.out.size)).drew⟩
               simp [results, Try.results127, go_sem])
          · have v1 : byteP (nthN ps k) q = 120 := by unfold byteP; rw [e1]; rfl
            have v2 : byteP (nthN ps k) o = 120 := by unfold byteP; rw [e2]; rfl
            rw [v1] at hi1
            rw [v2] at hi2
            have hL : Like2 hs ps k q := by unfold Like2; rw [Ho.out, e1, e2]
            have HL := Lib.hid hL
            clear v1 v2 hL e1 e2
            go_wp2_with fail
            go_region
            all_goals go_wp2_with fail
            all_goals go_roundw
            case rel => exact ⟨q + 1, by omega, by go_num, Hbz.out.drew, fun w' h => by
              rcases Nat.lt_or_ge w' q with h3 | h3
              · exact HRow.out w' h3
              · obtain rfl : w' = q := by omega
                exact HL.out⟩
            case measure => simp [intOf]; omega
        · obtain rfl : q = T := by omega
          go_wp2_with fail
          go_roundw
          case rel => exact ⟨k + 1, by omega, by go_num, hbz, fun p' w' h1 h2 => by
            rcases Nat.lt_or_ge p' k with h3 | h3
            · exact HR.out p' w' h3 h2
            · obtain rfl : p' = k := by omega
              exact hrow w' h2⟩
          case measure => simp [intOf]; omega
    · obtain rfl : k = ps.length := by omega
      go_wp2_with fail
      refine bodyPost_ret (v := .tuple #[.int .i64 0, .int .i64 0, .int .i64 0, .bool false]) ?_ rfl ⟨.inr ⟨fun p' w' h1 h2 => hrows p' w' h1 (by rw [← HT.out]; exact h2), rfl⟩, Hb1.out.trans (hbw.mono Hb1.out.size)⟩
      simp [results, Try.results127, go_sem]
end Go.Proofs.Ytdmgffoikebgkaa
/- Harness ties: Unweave, Part, Apart. -/
namespace Go.Proofs.Ytdmgffoikebgkaa
open Go.RowKit Go.Shelf
attribute [local go_sem] Oper.semAt_some

/-- what Unweave says: a design, or that two warps of one hook part -/
def UnwR (n L : Nat) (hs ps : List Nat) (w : World) (e : Ending) (w' : World) : Prop :=
  (NoPart hs ps ∧ ∃ g cap, e = .returned (.tuple #[.agg #[.int .i64 (n : Int), .slice (some ⟨g, 0, none⟩) L cap], .int .i64 0]) ∧ NatsAt w' g 0 (dsnL hs ps) ∧ w.heap.size ≤ g ∧ g < w'.heap.size ∧ Below w.heap.size w w') ∨
  ((∃ p q, PartAt hs ps p q) ∧ e = .returned (.tuple #[.agg #[.int .i64 0, .slice none 0 0], .int .i64 9]) ∧ Below w.heap.size w w')
set_option maxRecDepth 100000 in
set_option maxHeartbeats 4000000 in
theorem Unweave_any (n b off c b2 off2 c2 T L : Nat) (hs ps : List Nat) (w : World) (hT : hs.length = T) (hL : ps.length = L) (hv : TAt w b off n hs) (hc : ClAt w b2 off2 T ps) (hl0 : 1 ≤ L) (hl : L ≤ 60) :
    Calls Try.prog 48 #[.agg #[.int .i64 (n : Int), .slice (some ⟨b, off, none⟩) T c], .slice (some ⟨b2, off2, none⟩) L c2] w (UnwR n L hs ps w) := by
  have hb1 : Below w.heap.size w ((w.alloc (.cells #[.int .i64 (n : Int), .slice (some ⟨b, off, none⟩) T c] 26)).alloc (.cells #[.int .i64 0, .slice none 0 0] 37)) := ((Below.refl _ _).alloc (Nat.le_refl _) _).alloc (by simp) _
  have HB := Lib.hid ((BoxAt.new w #[.int .i64 (n : Int), .slice (some ⟨b, off, none⟩) T c] 26).next ((Below.refl _ _).alloc (Nat.le_refl _) (.cells #[.int .i64 0, .slice none 0 0] 37)))
  have HR := Lib.hid (show BoxAt _ (w.heap.size + 1) _ _ by have := BoxAt.new (w.alloc (.cells #[.int .i64 (n : Int), .slice (some ⟨b, off, none⟩) T c] 26)) #[.int .i64 0, .slice none 0 0] 37; rw [World.size_alloc] at this; exact this)
  have H1 := Lib.hid (show Calls Try.prog 126 #[.agg #[.int .i64 (n : Int), .slice (some ⟨b, off, none⟩) T c], .slice (some ⟨b2, off2, none⟩) L c2] _ _ by have := checkWoven_ok n b off c b2 off2 c2 T hs ps _ hT (hv.next hb1) (hc.next hb1) (by omega) (by omega); rw [hL] at this; exact this)
  have H2 := fun W (hb : Below w.heap.size w W) => part_any n b off c b2 off2 c2 T hs ps W hT (hv.next hb) (hc.next hb) (by omega)
  have H3 := fun W (hb : Below w.heap.size w W) => design_any n b off c b2 off2 c2 T hs ps W hT (hv.next hb) (hc.next hb) (by omega) (by omega)
  simp only [hL] at H2 H3
  have H2' := Lib.hid H2
  have H3' := Lib.hid H3
  have Hb1 := Lib.hid hb1
  clear hb1 hv hc H2 H3 hT hL
  go_enter Try.func48, Try.ntmps48
  go_wp2_with fail
  refine H1.out.mono ?_
  rintro e W1 ⟨rfl, hb⟩
  have hB1 := HB.out.next hb
  have hR1 := HR.out.next hb
  have x0 := hB1.cell' 0 rfl
  have x1 := hB1.cell' 1 rfl
  have hbw := Hb1.out.trans (hb.mono (by simp; omega))
  have Hp := Lib.hid (H2'.out W1 hbw)
  have HB1 := Lib.hid hB1
  have HR1 := Lib.hid hR1
  have Hbw := Lib.hid hbw
  clear hb hB1 hR1 hbw H1 HB HR
  go_wp2_with fail
  refine Hp.out.mono ?_
  rintro e W2 ⟨hP, hb2⟩
  have hB2 := HB1.out.next hb2
  have hR2 := HR1.out.next hb2
  have x0 := hB2.cell' 0 rfl
  have x1 := hB2.cell' 1 rfl
  have r0 := hR2.cell' 0 rfl
  have r1 := hR2.cell' 1 rfl
  have rf0 := hR2.frozen 0
  have rf1 := hR2.frozen 1
  have hbw := Hbw.out.trans (hb2.mono Hbw.out.size)
  have Hbw := Lib.hid hbw
  have HR2 := Lib.hid hR2
  clear hB2 hR2 hbw HB1 HR1 hb2
  rcases hP with ⟨p, q, hpa, rfl⟩ | ⟨hno, rfl⟩
  · have Hpa := Lib.hid hpa
    clear hpa
    go_wp2_with fail
    refine bodyPost_ret (v := .tuple #[.agg #[.int .i64 0, .slice none 0 0], .int .i64 9]) ?_ rfl (.inr ⟨⟨p, q, Hpa.out⟩, rfl, ?_⟩)
    · have hb3 := (HR2.out.set 0 (.int .i64 0)).set 1 (.slice none 0 0)
      have d0 := hb3.cell' (v := .int .i64 0) 0 rfl
      have d1 := hb3.cell' (v := .slice none 0 0) 1 rfl
      simp [results, Try.results48, go_sem, d0, d1]
    · exact (Hbw.out.setCell (by simp) _).setCell (by simp) _
  · have Hno := Lib.hid hno
    have Hd := Lib.hid (H3'.out W2 Hbw.out)
    clear hno
    go_wp2_with fail
    refine Hd.out.mono ?_
    rintro e W3 ⟨g, cap, rfl, hrow, hb3⟩
    obtain ⟨hn, hg1, hg2⟩ := nats_of_row hrow (by omega)
    have hR3 := HR2.out.next hb3
    have r0 := hR3.cell' 0 rfl
    have r1 := hR3.cell' 1 rfl
    have rf0 := hR3.frozen 0
    have rf1 := hR3.frozen 1
    have Hn := Lib.hid hn
    have HR3 := Lib.hid hR3
    have hlt : w.heap.size + 1 < W2.heap.size := HR2.out.lt
    have Hbw := Lib.hid (Hbw.out.trans (hb3.mono Hbw.out.size))
    clear hn hrow hb3 hR3 HR2 x0 x1
    go_wp2_with fail
    refine bodyPost_ret (v := .tuple #[.agg #[.int .i64 (n : Int), .slice (some ⟨g, 0, none⟩) L cap], .int .i64 0]) ?_ rfl (.inl ⟨Hno.out, g, cap, rfl, ?_, by omega, ?_, ?_⟩)
    · have hb3 := (HR3.out.set 0 (.int .i64 (n : Int))).set 1 (.slice (some ⟨g, 0, none⟩) L cap)
      have d0 := hb3.cell' (v := .int .i64 (n : Int)) 0 rfl
      have d1 := hb3.cell' (v := .slice (some ⟨g, 0, none⟩) L cap) 1 rfl
      simp [results, Try.results48, go_sem, d0, d1]
    · exact nats_setB (nats_setB Hn.out _ _ _ (by omega)) _ _ _ (by omega)
    · simp only [setCell_size]; exact hg1
    · exact (Hbw.out.setCell (by simp) _).setCell (by simp) _
/-- what Part says -/
def PrtR (hs ps : List Nat) (e : Ending) : Prop :=
  (NoPart hs ps ∧ e = .returned (.tuple #[.int .i64 0, .int .i64 0, .int .i64 0, .int .i64 7])) ∨
  ∃ p q : Nat, PartAt hs ps p q ∧ e = .returned (.tuple #[.int .i64 (p : Int), .int .i64 (q : Int), .int .i64 (fstI (nthN hs) q : Int), .int .i64 0])
set_option maxRecDepth 100000 in
set_option maxHeartbeats 4000000 in
theorem Part_any (n b off c b2 off2 c2 T L : Nat) (hs ps : List Nat) (w : World) (hT : hs.length = T) (hL : ps.length = L) (hv : TAt w b off n hs) (hc : ClAt w b2 off2 T ps) (hl0 : 1 ≤ L) (hl : L ≤ 60) :
    Calls Try.prog 49 #[.agg #[.int .i64 (n : Int), .slice (some ⟨b, off, none⟩) T c], .slice (some ⟨b2, off2, none⟩) L c2] w fun e w' => PrtR hs ps e ∧ Below w.heap.size w w' := by
  have hb1 : Below w.heap.size w (w.alloc (.cells #[.int .i64 (n : Int), .slice (some ⟨b, off, none⟩) T c] 26)) := (Below.refl _ _).alloc (Nat.le_refl _) _
  have HB := Lib.hid (show BoxAt _ _ _ _ from BoxAt.new w #[.int .i64 (n : Int), .slice (some ⟨b, off, none⟩) T c] 26)
  have H1 := Lib.hid (show Calls Try.prog 126 #[.agg #[.int .i64 (n : Int), .slice (some ⟨b, off, none⟩) T c], .slice (some ⟨b2, off2, none⟩) L c2] _ _ by have := checkWoven_ok n b off c b2 off2 c2 T hs ps _ hT (hv.next hb1) (hc.next hb1) (by omega) (by omega); rw [hL] at this; exact this)
  have H2 := fun W (hb : Below w.heap.size w W) => part_any n b off c b2 off2 c2 T hs ps W hT (hv.next hb) (hc.next hb) (by omega)
  simp only [hL] at H2
  have H2' := Lib.hid H2
  have Hb1 := Lib.hid hb1
  clear hb1 hv hc H2 hT hL
  go_enter Try.func49, Try.ntmps49
  go_wp2_with fail
  refine H1.out.mono ?_
  rintro e W1 ⟨rfl, hb⟩
  have hB1 := HB.out.next hb
  have x0 := hB1.cell' 0 rfl
  have x1 := hB1.cell' 1 rfl
  have hbw := Hb1.out.trans (hb.mono (by simp))
  have Hp := Lib.hid (H2'.out W1 hbw)
  have Hbw := Lib.hid hbw
  clear hb hB1 hbw H1 HB
  go_wp2_with fail
  refine Hp.out.mono ?_
  rintro e W2 ⟨hP, hb2⟩
  have Hbw := Lib.hid (Hbw.out.trans (hb2.mono Hbw.out.size))
  clear hb2
  rcases hP with ⟨p, q, hpa, rfl⟩ | ⟨hno, rfl⟩
  · have Hpa := Lib.hid hpa
    clear hpa
    obtain ⟨o, ho⟩ : ∃ o, fstI (nthN hs) q = o := ⟨_, rfl⟩
    rw [ho]
    have Ho := Lib.hid ho
    clear ho
    go_wp2_with fail
    refine bodyPost_ret (v := .tuple #[.int .i64 (p : Int), .int .i64 (q : Int), .int .i64 (o : Int), .int .i64 0]) ?_ rfl ⟨.inr ⟨p, q, Hpa.out, by rw [Ho.out]⟩, Hbw.out⟩
    simp [results, Try.results49, go_sem]
  · have Hno := Lib.hid hno
    clear hno
    go_wp2_with fail
    refine bodyPost_ret (v := .tuple #[.int .i64 0, .int .i64 0, .int .i64 0, .int .i64 7]) ?_ rfl ⟨.inl ⟨Hno.out, rfl⟩, Hbw.out⟩
    simp [results, Try.results49, go_sem]
/-- the first warps of all hooks -/
def apL (hs : List Nat) (k : Nat) : List Nat := (List.range k).map fun h => (firstH hs h).getD 0
theorem apL_succ (hs : List Nat) (k : Nat) : apL hs (k + 1) = apL hs k ++ [(firstH hs k).getD 0] := by simp [apL, List.range_succ]
theorem apL_len (hs : List Nat) (k : Nat) : (apL hs k).length = k := by simp [apL]
structure ApAt (w0 : World) (B M q s : Nat) (m T g cap : Nat) (hs : List Nat) (k : Nat) (v : Value) (W : World) : Prop where
  box : BoxAt W B #[.int .i64 (m : Int), .slice (some ⟨g, 0, none⟩) T cap] 159
  map : IMap W M q s (firstG hs hs.length)
  row : W.ownsRow (M + 1) 3 1 v k ((apL hs k).map natV)
  lt : B < M + 1
  b : Below w0.heap.size w0 W
theorem ApAt.grew {w0 W W' : World} {B M q s m T g cap k g5 cap5 : Nat} {hs : List Nat} {v : Value} (h : ApAt w0 B M q s m T g cap hs k v W) (hB : w0.heap.size ≤ B)
    (hg : Grew (M + 1) 3 1 W W' v g5 cap5 (k + 1) ((apL hs k).map natV ++ [natV ((firstH hs k).getD 0)])) :
    ApAt w0 B M q s m T g cap hs (k + 1) (.slice (some ⟨g5, 0, none⟩) (k + 1) cap5) W' := by
  have hn : ∀ j, j < M + 1 → some j ≠ v.ownBlock := fun j hj => own_far h.row hj
  have hr := hg.row
  refine ⟨h.box.kept hg.grow (hn _ h.lt), h.map.grown hg.grow (hn _ (by omega)), ?_, h.lt, h.b.grown hg.grow h.b.size (fun j hj => by have := (ownBlock_ge h.row hj).1; have := h.lt; omega)⟩
  rw [apL_succ, List.map_append]; exact hr
set_option maxRecDepth 100000 in
set_option maxHeartbeats 4000000 in
theorem Apart_any (b off c n : Nat) (ps : List Nat) (w : World) (h : ClAt w b off n ps) (hl0 : 1 ≤ ps.length) (hl : ps.length ≤ 60) (hn0 : 1 ≤ n) (hn1 : n ≤ 96) (hF : cntF (colL ps) n ≤ 24) :
    Calls Try.prog 55 #[.slice (some ⟨b, off, none⟩) ps.length c] w fun e w' =>
      ∃ g cap, e = .returned (.tuple #[.slice (some ⟨g, 0, none⟩) (cntF (colL ps) n) cap, .int .i64 0]) ∧ NatsAt w' g 0 (apL (fewL ps n) (cntF (colL ps) n)) ∧ w.heap.size ≤ g ∧ g < w'.heap.size ∧ Below w.heap.size w w' := by
  have HW := Lib.hid (fewest_any b off c n ps _ h hl0 hl hn0 hn1 hF)
  have hcp := cntF_pos (key := colL ps) hn0
  have hTa := fun W g (a : NatsAt W g 0 (fewL ps n)) (b : g < W.heap.size) => few_tat a b hn0 hn1 hF
  obtain ⟨m, hm⟩ : ∃ m, cntF (colL ps) n = m := ⟨_, rfl⟩
  have hflt : ∀ k, k < m → ((firstH (fewL ps n) k).getD 0) ≤ 1000 := fun k _ => by
    cases e : firstH (fewL ps n) k with
    | none => simp
    | some o =>
      unfold firstH at e
      have := List.mem_of_find?_eq_some e
      rw [fewL_len] at this
      simp at this ⊢
      omega
  simp only [hm] at HW hcp hTa hF
  have Hm := Lib.hid hm
  have Hflt := Lib.hid hflt
  have HTa := Lib.hid hTa
  clear h hm hflt hTa
  go_enter Try.func55, Try.ntmps55
  go_wp2_with fail
  refine HW.out.mono ?_
  rintro e W1 ⟨v, rfl, hrow, hb1⟩
  obtain ⟨g, cap, rfl⟩ := row_slice hrow (by omega)
  obtain ⟨hn, hgg, hgl⟩ := nats_of_row hrow (by omega)
  have hz1 := hb1.size
  have hbX : Below W1.heap.size W1 (W1.alloc (.cells #[.int .i64 (m : Int), .slice (some ⟨g, 0, none⟩) n cap] 159)) := (Below.refl _ _).alloc (Nat.le_refl _) _
  have hnX := hn.below hbX hgg
  have hgX : g < (W1.alloc (.cells #[.int .i64 (m : Int), .slice (some ⟨g, 0, none⟩) n cap] 159)).heap.size := Nat.lt_of_lt_of_le hgg hbX.size
  have HFi := Lib.hid (firsts_any m g 0 cap (fewL ps n) _ (HTa.out _ g hnX hgX))
  rw [fewL_len] at HFi
  have HBx := Lib.hid (show BoxAt _ _ _ _ from BoxAt.new W1 #[.int .i64 (m : Int), .slice (some ⟨g, 0, none⟩) n cap] 159)
  have Hbw := Lib.hid (hb1.trans (hbX.mono hb1.size))
  clear hrow hn hgg hb1 hbX hnX hgX HW
  go_wp2_with fail
  refine HFi.out.mono ?_
  rintro e W2 ⟨mb, kq, sq, rfl, hmap, hmb, hb2⟩
  simp only [World.size_alloc] at hmb
  have hA0 : ApAt w W1.heap.size mb kq sq m n g cap (fewL ps n) 0 (.slice none 0 0) W2 :=
    ⟨HBx.out.next hb2, by rw [fewL_len]; exact hmap, World.ownsRow_nil _ _ _ _, by omega, Hbw.out.trans (hb2.mono Hbw.out.size)⟩
  obtain ⟨B, hB⟩ : ∃ B, W1.heap.size = B := ⟨_, rfl⟩
  rw [hB] at hA0 hmb hz1
  have y0 := hA0.box.cell' (v := .int .i64 (m : Int)) 0 rfl
  have HA0 := Lib.hid hA0
  rw [hB]
  clear hA0 hmap hb2 HBx HFi Hbw hB
  go_wp2_with fail
  go_loopw [7, 22] (fun v i wr => ∃ k : Nat, k ≤ m ∧ i = .int .i64 (k : Int) ∧ ApAt w B mb kq sq m n g cap (fewL ps n) k v wr) (fun _ i _ => m - (intOf i).toNat)
  case atStart => exact ⟨0, Nat.zero_le _, rfl, HA0.out⟩
  case round =>
    obtain ⟨k, hk, rfl, hA⟩ := hrel
    clear HA0 y0
    by_cases hlt : k < m
    · have hlk := hA.map.look1 (X := (k : Int)) (by omega)
      rw [firstG_all] at hlk
      have hfl := Hflt.out k hlt
      obtain ⟨x, hx⟩ : ∃ x, (firstH (fewL ps n) k).getD 0 = x := ⟨_, rfl⟩
      rw [hx] at hlk hfl
      have Hx := Lib.hid hx
      have hzm := hA.map.lt
      have HA := Lib.hid hA
      clear hx hA
      go_wp2_with (at_builtin; refine Shut.out ?_)
      unfold Shut
      refine app_one elemInt rfl _ _ rfl (mb + 1) u7 k ((apL (fewL ps n) k).map natV) #[.int .i64 (x : Int)] rfl HA.out.row rfl rfl (by simp [Value.oneCell']) (by omega) (by decide) (by omega) ?_
      intro g5 cap5 W5 hg5
      have HA5 := Lib.hid (HA.out.grew hz1 (by rw [Hx.out]; exact hg5))
      clear hg5 HA
      go_wp2_with fail
      go_roundw
      case rel => exact ⟨k + 1, by omega, by go_num, HA5.out⟩
      case measure => simp [intOf]; omega
    · obtain rfl : k = m := by omega
      obtain ⟨g5, cap5, rfl⟩ := row_slice hA.row (by omega)
      obtain ⟨hn5, hg5a, hg5b⟩ := nats_of_row hA.row (by omega)
      have hlb := hA.lt
      have HN := Lib.hid hn5
      have Hb := Lib.hid hA.b
      clear hA hn5
      go_wp2_with fail
      go_ret2
      rw [Hm.out]
      exact ⟨g5, cap5, rfl, HN.out, by omega, hg5a, Hb.out⟩
end Go.Proofs.Ytdmgffoikebgkaa
