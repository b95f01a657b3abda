/- Floats of the reference. -/
import Derived.Test.YtjobbleabepaiaaXA
import Derived.Test.YtjobbleabepaiaaWO
namespace Go.Proofs.Ytjobbleabepaiaa
open Go.RowKit

/-- the floats of one ring, up to a place -/
def ringTo (mk : Nat → Nat → Bool → Fl) (bd : Int) (m p : Nat) : Nat → List Fl
  | 0 => []
  | k + 1 => ringTo mk bd m p k ++ (if lenAt m p k = 0 ∨ (lenAt m p k : Int) ≤ bd then [] else [mk k (lenAt m p k) (bitN p k)])
theorem ringTo_len (mk : Nat → Nat → Bool → Fl) (bd : Int) (m p : Nat) : ∀ k, (ringTo mk bd m p k).length ≤ k
  | 0 => by simp [ringTo]
  | k + 1 => by
    have := ringTo_len mk bd m p k
    simp only [ringTo, List.length_append]
    split <;> simp <;> omega
theorem ringTo_eq (mk : Nat → Nat → Bool → Fl) (bd : Int) (m p : Nat) (hm : 1 ≤ m) (hp : p < 2 ^ m) : ringTo mk bd m p m = ringFl (fun r => mk r.first r.length r.lifted) bd (runsOf m p) := by
  cases ha : alikeB m p with
  | true =>
    have hb : ∀ k, k < m → begins m p k = false := fun k hk => by
      cases hbk : begins m p k with
      | false => rfl
      | true => have := begins_not_alike hm hp hk hbk; rw [ha] at this; cases this
    have h : ∀ k, 1 ≤ k → k ≤ m → ringTo mk bd m p k = if (1000 : Int) ≤ bd then [] else [mk 0 1000 (bitN p 0)] := by
      intro k hk hkm
      induction k with
      | zero => omega
      | succ k ih =>
        by_cases hk0 : k = 0
        · subst hk0
          have e : lenAt m p 0 = 1000 := by unfold lenAt; rw [if_neg (by simp [hb 0 (by omega)]), if_pos ⟨ha, rfl⟩]
          simp [ringTo, e]
        · have e : lenAt m p k = 0 := by unfold lenAt; rw [if_neg (by simp [hb k (by omega)]), if_neg (fun h => hk0 h.2)]
          rw [ringTo, if_pos (.inl e), List.append_nil]
          exact ih (by omega) (by omega)
    rw [h m hm (Nat.le_refl _)]
    unfold runsOf ringFl
    rw [if_pos ha]
    by_cases hbd : (1000 : Int) ≤ bd
    · rw [if_pos hbd]
      have hd : decide (bd < ((1000 : Nat) : Int)) = false := by rw [decide_eq_false_iff_not]; omega
      simp only [List.filter_cons, List.filter_nil, hd]; rfl
    · rw [if_neg hbd]
      have hd : decide (bd < ((1000 : Nat) : Int)) = true := by rw [decide_eq_true_iff]; omega
      simp only [List.filter_cons, List.filter_nil, hd]; rfl
  | false =>
    have h : ∀ k, k ≤ m → ringTo mk bd m p k = ringFl (fun r => mk r.first r.length r.lifted) bd (runsTo m p k) := by
      intro k
      induction k with
      | zero => intro _; simp [ringTo, runsTo, ringFl]
      | succ k ih =>
        intro hkm
        rw [ringTo, ih (by omega)]
        cases hbk : begins m p k with
        | false =>
          have e : lenAt m p k = 0 := by unfold lenAt; rw [if_neg (by simp [hbk]), if_neg (fun h => by rw [ha] at h; simp at h)]
          rw [if_pos (.inl e), List.append_nil, runsTo_no hbk]
        | true =>
          have e : lenAt m p k = lenF m p k := by unfold lenAt; rw [if_pos hbk]
          obtain ⟨⟨h1, _⟩, _⟩ := lenF_spec (by omega) hbk (show k < m by omega)
          rw [runsTo_yes hbk, ringFl_step, e]
          by_cases hlt : bd < ((lenF m p k : Nat) : Int)
          · rw [if_neg (by omega), if_pos hlt]
          · rw [if_pos (.inr (by omega)), if_neg hlt]
    rw [h m (Nat.le_refl _)]
    unfold runsOf
    rw [if_neg (by simp [ha])]
/-- a table that lies apart from a block, and below a bound -/
structure TabB (W : World) (E T g N m : Nat) (f : Nat → Nat → Bool) : Prop where
  g1 : g ≠ E ∧ g < T ∧ T ≤ W.heap.size
  r : ∀ i, i < N → ∃ b c, b ≠ E ∧ b < T ∧ W.cell? ⟨g, i, none⟩ = some (.slice (some ⟨b, 0, none⟩) m c) ∧ ∀ j, j < m → W.cell? ⟨b, j, none⟩ = some (.bool (f i j))
theorem TabB.below {W W' : World} {E T g N m : Nat} {f : Nat → Nat → Bool} (h : TabB W E T g N m f) (hb : Below W.heap.size W W') : TabB W' E T g N m f := by
  obtain ⟨h1, h2, h3⟩ := h.g1
  refine ⟨⟨h1, h2, Nat.le_trans h3 hb.size⟩, fun i hi => ?_⟩
  obtain ⟨b, c, a1, a2, a3, a4⟩ := h.r i hi
  exact ⟨b, c, a1, a2, (hb.cell (p := ⟨g, i, none⟩) (Nat.lt_of_lt_of_le h2 h3)).trans a3, fun j hj => (hb.cell (p := ⟨b, j, none⟩) (Nat.lt_of_lt_of_le a2 h3)).trans (a4 j hj)⟩
/-- a row that lies in that block, or behind that bound -/
def Far (v : Value) (E T : Nat) : Prop := ∀ x, v.ownBlock = some x → x = E ∨ T ≤ x
theorem TabB.grown {W W' : World} {E T g N m : Nat} {f : Nat → Nat → Bool} {v : Value} (h : TabB W E T g N m f) (hf : Far v E T) (hg : W.grownBy W' v.ownBlock) : TabB W' E T g N m f := by
  obtain ⟨h1, h2, h3⟩ := h.g1
  have hne : ∀ x, x ≠ E → x < T → some x ≠ v.ownBlock := fun x a b e => by
    rcases hf x e.symm with h | h
    · exact a h
    · omega
  have hc : ∀ x j, x ≠ E → x < T → W'.cell? ⟨x, j, none⟩ = W.cell? ⟨x, j, none⟩ := fun x j a b => World.cell?_of_block (w := W) (a := ⟨x, j, none⟩) (hg.block x (Nat.lt_of_lt_of_le b h3) (hne x a b))
  refine ⟨⟨h1, h2, Nat.le_trans h3 hg.size⟩, fun i hi => ?_⟩
  obtain ⟨b, c, a1, a2, a3, a4⟩ := h.r i hi
  exact ⟨b, c, a1, a2, (hc g i h1 h2).trans a3, fun j hj => (hc b j a1 a2).trans (a4 j hj)⟩
theorem TabB.of {W : World} {E g N m : Nat} {f : Nat → Nat → Bool} {t : TypeId} {fr : Nat × Nat} (h : TabAt W g N m f) (hE : W.heap[E]? = some (.cells #[] t fr)) (hN : 1 ≤ N) (hm : 1 ≤ m) : TabB W E W.heap.size g N m f := by
  have hno : ∀ j, W.cell? ⟨E, j, none⟩ = none := fun j => by simp [World.cell?, hE]
  refine ⟨⟨?_, h.lt, Nat.le_refl _⟩, fun i hi => ?_⟩
  · rintro rfl
    obtain ⟨b, c, h1, _⟩ := h.r 0 (by omega)
    rw [hno] at h1; cases h1
  · obtain ⟨b, c, h1, h2⟩ := h.r i hi
    refine ⟨b, c, ?_, h2.lt, h1, h2.c⟩
    rintro rfl
    have := h2.c 0 (by omega)
    rw [hno] at this; cases this

set_option maxRecDepth 100000 in
set_option maxHeartbeats 8000000 in
theorem refFloatsW_any (n b off c : Nat) (xs : List Nat) (bd : Int) (w : World) (hv : VAt w b off c n xs) :
    Calls Try.prog 26 #[.agg #[.int .i64 (n : Int), .slice (some ⟨b, off, none⟩) xs.length c], .bool false, .int .i64 bd] w
      fun e w' => ∃ v, e = .returned v ∧ w'.ownsRow w.heap.size 87 4 v (upTo (flW n xs bd) xs.length).length (flCells (upTo (flW n xs bd) xs.length)) ∧ Below w.heap.size w w' := by
  obtain ⟨i0, hi, hz0, hz1, hz2⟩ := info_parts Try.info87
  have n0 := hv.ok.n0
  have n1 := hv.ok.n1
  have l0 := hv.ok.l0
  have l1 := hv.ok.l1
  have hrow : ∀ i, ringTo (fun k l t => ⟨i, k, l, t⟩) bd n (nthN xs i) n = flW n xs bd i := fun i => ringTo_eq _ bd n (nthN xs i) n0 (hv.ok.lt i)
  have HRow := Lib.hid hrow
  have hlen : ∀ i, (upTo (flW n xs bd) i).length ≤ 60 * i := fun i => upTo_len (flW n xs bd) (fun i => Nat.le_trans (ringFl_len _ _ _) (runsOf_len n (nthN xs i) (by omega) (by omega))) i
  have HLen := Lib.hid hlen
  have HV := Lib.hid hv
  have HB1 : Hid (Below w.heap.size w ((w.alloc (.cells #[.int .i64 (n : Int), .slice (some ⟨b, off, none⟩) xs.length c] 24)).alloc (.cells #[] 87))) := Lib.hid (((Below.refl _ _).alloc (Nat.le_refl _) _).alloc (by simp) _)
  have d0 : ((w.alloc (.cells #[.int .i64 (n : Int), .slice (some ⟨b, off, none⟩) xs.length c] 24)).alloc (.cells #[] 87)).cell? ⟨w.heap.size, 0, none⟩ = some (.int .i64 (n : Int)) :=
    ((below_new1 (w.alloc (.cells #[.int .i64 (n : Int), .slice (some ⟨b, off, none⟩) xs.length c] 24)) (.cells #[] 87)).cell (p := ⟨w.heap.size, 0, none⟩) (by simp)).trans (by simp)
  have d1 : ((w.alloc (.cells #[.int .i64 (n : Int), .slice (some ⟨b, off, none⟩) xs.length c] 24)).alloc (.cells #[] 87)).cell? ⟨w.heap.size, 1, none⟩ = some (.slice (some ⟨b, off, none⟩) xs.length c) :=
    ((below_new1 (w.alloc (.cells #[.int .i64 (n : Int), .slice (some ⟨b, off, none⟩) xs.length c] 24)) (.cells #[] 87)).cell (p := ⟨w.heap.size, 1, none⟩) (by simp)).trans (by simp)
  have hE : ((w.alloc (.cells #[.int .i64 (n : Int), .slice (some ⟨b, off, none⟩) xs.length c] 24)).alloc (.cells #[] 87)).heap[w.heap.size + 1]? = some (.cells #[] 87 (0, 0)) := by
    have := heap_alloc_new (w.alloc (.cells #[.int .i64 (n : Int), .slice (some ⟨b, off, none⟩) xs.length c] 24)) (.cells #[] 87)
    rwa [World.size_alloc] at this
  have HE := Lib.hid hE
  have HT := fun W (hB : Below w.heap.size w W) => Table_any n b off c xs W (by omega) (by omega) (HV.out.below hB).at' (HV.out.below hB).lt HV.out.ok.lt'
  have HTh := Lib.hid HT
  clear hv hrow hlen hE HT
  go_enter Try.func26, Try.ntmps26
  go_wp2_with fail
  refine (HTh.out _ HB1.out).mono ?_
  rintro e w1 ⟨g, gc, rfl, hT1, hb1⟩
  have hE1 : w1.heap[w.heap.size + 1]? = some (.cells #[] 87 (0, 0)) := (hb1.block _ (by simp)).trans HE.out
  have hTB := TabB.of hT1 hE1 l0 n0
  have hown0 : w1.ownsRow (w.heap.size + 1) 87 4 (.slice (some ⟨w.heap.size + 1, 0, none⟩) 0 0) 0 [] := ⟨by simp, .inr ⟨w.heap.size + 1, 0, #[], rfl, Nat.le_refl _, hE1, Nat.le_refl _, Nat.zero_le _, by simp, by simp⟩⟩
  have hBel : Below w.heap.size w w1 := HB1.out.trans (hb1.mono HB1.out.size)
  have hTs : w.heap.size + 1 < w1.heap.size := by have := hb1.size; simp at this; omega
  obtain ⟨T, hTe⟩ : ∃ T, w1.heap.size = T := ⟨_, rfl⟩
  rw [hTe] at hTB hTs
  have HTB := Lib.hid hTB
  have HO := Lib.hid hown0
  have HBel := Lib.hid hBel
  clear hT1 hb1 hE1 hTB hown0 hBel hTe d0 d1
  go_wp2_with fail
  go_loopw [7, 9] (fun v i wr => ∃ (k g3 c3 : Nat), k ≤ xs.length ∧ i = .int .i64 k ∧ v = .slice (some ⟨g3, 0, none⟩) (upTo (flW n xs bd) k).length c3 ∧ Far v (w.heap.size + 1) T ∧ wr.ownsRow (w.heap.size + 1) 87 4 v (upTo (flW n xs bd) k).length (flCells (upTo (flW n xs bd) k)) ∧ TabB wr (w.heap.size + 1) T g xs.length n (fun i j => bitN (nthN xs i) j) ∧ Below w.heap.size w wr) (fun _ i _ => xs.length - (intOf i).toNat)
  case atStart =>
    exact ⟨0, w.heap.size + 1, 0, Nat.zero_le _, rfl, rfl, fun x hx => by simp [Value.ownBlock] at hx; exact .inl hx.symm, HO.out, HTB.out, HBel.out⟩
  case round =>
    obtain ⟨k, g3, c3, hk, rfl, rfl, hfar, hrow, htab, hB⟩ := hrel
    obtain ⟨wo, rfl⟩ : ∃ wo : World, wo = wr := ⟨_, rfl⟩
    have HFar := Lib.hid hfar
    have HRw := Lib.hid hrow
    have HTab := Lib.hid htab
    have HB := Lib.hid hB
    have hul := HLen.out k
    obtain ⟨us, hus⟩ : ∃ us, upTo (flW n xs bd) k = us := ⟨_, rfl⟩
    rw [hus] at hul HFar HRw
    rw [hus]
    have HUS := Lib.hid hus
    clear hfar hrow htab hB hus
    by_cases hlt : k < xs.length
    · go_wp2_with fail
      go_loopw [7, 10] (fun v i wi => ∃ (h g3 c3 : Nat), h ≤ n ∧ i = .int .i64 h ∧ v = .slice (some ⟨g3, 0, none⟩) (us ++ ringTo (fun k' l t => ⟨k, k', l, t⟩) bd n (nthN xs k) h).length c3 ∧ Far v (w.heap.size + 1) T ∧ wi.ownsRow (w.heap.size + 1) 87 4 v (us ++ ringTo (fun k' l t => ⟨k, k', l, t⟩) bd n (nthN xs k) h).length (flCells (us ++ ringTo (fun k' l t => ⟨k, k', l, t⟩) bd n (nthN xs k) h)) ∧ TabB wi (w.heap.size + 1) T g xs.length n (fun i j => bitN (nthN xs i) j) ∧ Below w.heap.size w wi) (fun _ i _ => n - (intOf i).toNat)
      case atStart =>
        refine ⟨0, g3, c3, Nat.zero_le _, rfl, by simp [ringTo], HFar.out, ?_, HTab.out, HB.out⟩
        simpa [ringTo] using HRw.out
      case round =>
        obtain ⟨h, g4, c4, hh, rfl, rfl, hfar, hrow, htab, hB2⟩ := hrel
        obtain ⟨bi, ci, _, _, e1, e2⟩ := htab.r k hlt
        have htl := htab.g1.2.2
        have hrl := ringTo_len (fun k' l t => (⟨k, k', l, t⟩ : Fl)) bd n (nthN xs k) h
        have hk0 : (0 : Int) ≤ (k : Int) := by omega
        have hk1 : (k : Int) < (xs.length : Int) := by omega
        have HFar2 := Lib.hid hfar
        have HRw2 := Lib.hid hrow
        have HTab2 := Lib.hid htab
        have HB2 := Lib.hid hB2
        clear hfar hrow htab hB2 HFar HRw HTab HB
        by_cases hhl : h < n
        · have hba : BoolsAt wr bi n (fun j => bitN (nthN xs k) j) := ⟨e2, World.block_lt_of_cell? wr ⟨bi, h, none⟩ (e2 h hhl)⟩
          have e3 := e2 h hhl
          have HL := Lib.hid (Length_any bi ci n (nthN xs k) h _ wr n0 (by omega) (HV.out.ok.lt k) hhl hba (fun j _ => rfl))
          have hst : ringTo (fun k' l t => (⟨k, k', l, t⟩ : Fl)) bd n (nthN xs k) (h + 1) = ringTo (fun k' l t => ⟨k, k', l, t⟩) bd n (nthN xs k) h ++ (if lenAt n (nthN xs k) h = 0 ∨ (lenAt n (nthN xs k) h : Int) ≤ bd then [] else [⟨k, h, lenAt n (nthN xs k) h, bitN (nthN xs k) h⟩]) := rfl
          obtain ⟨L, hL⟩ : ∃ L, lenAt n (nthN xs k) h = L := ⟨_, rfl⟩
          obtain ⟨bt, hbt⟩ : ∃ bt, bitN (nthN xs k) h = bt := ⟨_, rfl⟩
          rw [hL] at HL
          rw [hL, hbt] at hst
          rw [hbt] at e3
          obtain ⟨rs, hrs⟩ : ∃ rs, us ++ ringTo (fun k' l t => (⟨k, k', l, t⟩ : Fl)) bd n (nthN xs k) h = rs := ⟨_, rfl⟩
          have hrsl : rs.length ≤ 4000 := by rw [← hrs, List.length_append]; omega
          rw [hrs] at HFar2 HRw2
          rw [hrs]
          have HRS := Lib.hid hrs
          have HST := Lib.hid hst
          have hh0 : (0 : Int) ≤ (h : Int) := by omega
          have hh1 : (h : Int) < (n : Int) := by omega
          have hz3 : bi < wr.heap.size := hba.lt
          have hz4 : g < wr.heap.size := World.block_lt_of_cell? wr ⟨g, k, none⟩ e1
          clear hba e2 hL hbt hrs hst hrl
          go_wp2_with fail
          refine HL.out.mono ?_
          rintro e w3 ⟨rfl, hb3⟩
          have e1' := cell_lift hb3 hz4 e1
          have e3' := cell_lift hb3 hz3 e3
          have HTab3 := Lib.hid (HTab2.out.below hb3)
          have HRw3 := Lib.hid (ownsRow_next HRw2.out hb3)
          have HB3 := Lib.hid (HB2.out.trans (hb3.mono HB2.out.size))
          have hs3 := hb3.size
          clear hb3 e1 e3 HTab2 HRw2 HB2 HL
          by_cases hskip : L = 0 ∨ (L : Int) ≤ bd
          · have HSK := Lib.hid hskip
            have hfin : us ++ ringTo (fun k' l t => (⟨k, k', l, t⟩ : Fl)) bd n (nthN xs k) (h + 1) = rs := by rw [HST.out, if_pos hskip, List.append_nil, HRS.out]
            have HFin := Lib.hid hfin
            clear hskip hfin
            by_cases hL0 : L = 0
            · have hLz : ((L : Int) == 0) = true := by simp [hL0]
              clear hL0
              go_wp2_with fail
              go_roundw
              case rel => exact ⟨h + 1, g4, c4, by omega, by go_num, by rw [HFin.out], HFar2.out, by rw [HFin.out]; exact HRw3.out, HTab3.out, HB3.out⟩
              case measure => simp [intOf]; omega
            · have hLz : ((L : Int) == 0) = false := by rw [beq_eq_false_iff_ne]; omega
              have hLb : (L : Int) ≤ bd := by rcases HSK.out with h | h <;> omega
              clear hL0
              go_wp2_with fail
              go_roundw
              case rel => exact ⟨h + 1, g4, c4, by omega, by go_num, by rw [HFin.out], HFar2.out, by rw [HFin.out]; exact HRw3.out, HTab3.out, HB3.out⟩
              case measure => simp [intOf]; omega
          · have hLz : ((L : Int) == 0) = false := by rw [beq_eq_false_iff_ne]; omega
            have hLb : ¬ (L : Int) ≤ bd := fun h => hskip (.inr h)
            have hLb' : bd < (L : Int) := by omega
            have hfin : us ++ ringTo (fun k' l t => (⟨k, k', l, t⟩ : Fl)) bd n (nthN xs k) (h + 1) = rs ++ [⟨k, h, L, bt⟩] := by rw [HST.out, if_neg hskip, ← List.append_assoc, HRS.out]
            have HFin := Lib.hid hfin
            clear hskip hfin hLb
            go_wp2_with (at_builtin; refine Shut.out ?_)
            unfold Shut
            have hbk : ((w3.alloc (.cells #[.int .i64 (k : Int), .int .i64 (h : Int), .int .i64 (L : Int), .bool bt] 87)).alloc (.cells #[.int .i64 (k : Int), .int .i64 (h : Int), .int .i64 (L : Int), .bool bt] 87)).heap[w3.heap.size + 1]? = some (.cells #[.int .i64 (k : Int), .int .i64 (h : Int), .int .i64 (L : Int), .bool bt] 87 (0, 0)) := by
              have := heap_alloc_new (w3.alloc (.cells #[.int .i64 (k : Int), .int .i64 (h : Int), .int .i64 (L : Int), .bool bt] 87)) (.cells #[.int .i64 (k : Int), .int .i64 (h : Int), .int .i64 (L : Int), .bool bt] 87)
              rwa [World.size_alloc] at this
            have hbel2 : ∀ o o', Below w3.heap.size w3 ((w3.alloc o).alloc o') := fun o o' => ((Below.refl _ _).alloc (Nat.le_refl _) o).alloc (by simp) o'
            refine wpList_append_lies _ rfl _ _ 31 rfl (w.heap.size + 1) 87 i0 (.agg #[.int .i64 0, .int .i64 0, .int .i64 0, .bool false]) 4 32 Try.underlying31 hi hz0 hz1 hz2 rfl (by decide) (.slice (some ⟨g4, 0, none⟩) rs.length c4) rs.length (flCells rs) rfl ((HRw3.out.alloc _).alloc _) ⟨w3.heap.size + 1, 0, none⟩ 1 1 [.int .i64 (k : Int), .int .i64 (h : Int), .int .i64 (L : Int), .bool bt] rfl rfl (World.news_of_block (cs := #[.int .i64 (k : Int), .int .i64 (h : Int), .int .i64 (L : Int), .bool bt]) (t := 87) (fr := (0, 0)) hbk) (by simp [Value.oneCell']) (by decide) (by unfold maxLen; omega) (by omega) (by simp; omega) (w3.heap.size + 2) (by simp) ?_
            intro g5 cap w5 hown1 hgrow hat hglt
            have htab5 := (HTab3.out.below (hbel2 _ _)).grown HFar2.out hgrow
            have hrow5 : w5.ownsRow (w.heap.size + 1) 87 4 (.slice (some ⟨g5, 0, none⟩) (rs ++ [(⟨k, h, L, bt⟩ : Fl)]).length cap) (rs ++ [(⟨k, h, L, bt⟩ : Fl)]).length (flCells (rs ++ [(⟨k, h, L, bt⟩ : Fl)])) := by
              rw [flCells_snoc, List.length_append, List.length_singleton]; exact hown1
            have hfar5 : Far (.slice (some ⟨g5, 0, none⟩) (rs ++ [(⟨k, h, L, bt⟩ : Fl)]).length cap) (w.heap.size + 1) T := fun x hx => by
              simp [Value.ownBlock] at hx
              subst hx
              rcases hat with h | h
              · exact HFar2.out _ h
              · right; omega
            have hB5 : Below w.heap.size w w5 := (HB3.out.trans ((hbel2 _ _).mono (by omega))).grown hgrow (by simp; omega) (fun j hj => by have := (HRw3.out.lt j hj).1; omega)
            have HTab5 := Lib.hid htab5
            have HRow5 := Lib.hid hrow5
            have HFar5 := Lib.hid hfar5
            have HB5 := Lib.hid hB5
            clear htab5 hrow5 hfar5 hB5 hown1 hgrow hat hbk hbel2 e1' e3'
            have hlen5 : (rs ++ [(⟨k, h, L, bt⟩ : Fl)]).length = rs.length + 1 := by simp
            have HLen5 := Lib.hid hlen5
            clear hlen5
            go_wp2
            go_roundw
            case rel => exact ⟨h + 1, g5, cap, by omega, by go_num, by rw [HFin.out, HLen5.out], by rw [← HLen5.out]; exact HFar5.out, by rw [HFin.out, ← HLen5.out]; exact HRow5.out, HTab5.out, HB5.out⟩
            case measure => simp [intOf]; omega
        · obtain rfl : h = n := by omega
          have hfin : us ++ ringTo (fun k' l t => (⟨k, k', l, t⟩ : Fl)) bd h (nthN xs k) h = upTo (flW h xs bd) (k + 1) := by rw [HRow.out, upTo_succ, HUS.out]
          have HFin := Lib.hid hfin
          clear hfin e2
          rw [HFin.out] at HFar2 HRw2 ⊢
          go_wp2
          go_roundw
          case rel => exact ⟨k + 1, g4, c4, by omega, by go_num, rfl, HFar2.out, HRw2.out, HTab2.out, HB2.out⟩
          case measure => simp [intOf]; omega
    · obtain rfl : k = xs.length := by omega
      rw [← HUS.out] at HRw ⊢
      go_wp2
      go_ret
      exact ⟨_, rfl, ownsRow_base HRw.out (by omega), HB.out⟩
end Go.Proofs.Ytjobbleabepaiaa
