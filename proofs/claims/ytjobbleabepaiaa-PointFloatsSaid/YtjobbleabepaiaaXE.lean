/- Floats of the reference, along hooks; Longest of the reference. -/
import Derived.Test.YtjobbleabepaiaaXB
import Derived.Test.YtjobbleabepaiaaVN
namespace Go.Proofs.Ytjobbleabepaiaa
open Go.RowKit

set_option maxRecDepth 100000 in
set_option maxHeartbeats 8000000 in
theorem refFloatsH_any (n b off c : Nat) (xs : List Nat) (bd : Int) (w : World) (hv : VAt w b off c n xs) :
    Calls Try.prog 26 #[.agg #[.int .i64 (n : Int), .slice (some ⟨b, off, none⟩) xs.length c], .bool true, .int .i64 bd] w
      fun e w' => ∃ v, e = .returned v ∧ w'.ownsRow w.heap.size 87 4 v (upTo (flH xs bd) n).length (flCells (upTo (flH xs bd) n)) ∧ Below w.heap.size w w' := by
  obtain ⟨i0, hi, hz0, hz1, hz2⟩ := info_parts Try.info87
  have n0 := hv.ok.n0
  have n1 := hv.ok.n1
  have l0 := hv.ok.l0
  have l1 := hv.ok.l1
  have hrow : ∀ i, ringTo (fun k l t => ⟨k, i, l, t⟩) bd xs.length (colTo xs i xs.length) xs.length = flH xs bd i := fun i => ringTo_eq _ bd xs.length (colTo xs i xs.length) l0 (colTo_lt xs i xs.length)
  have HRow := Lib.hid hrow
  have hlen : ∀ i, (upTo (flH xs bd) i).length ≤ 60 * i := fun i => upTo_len (flH xs bd) (fun i => Nat.le_trans (ringFl_len _ _ _) (runsOf_len xs.length (colTo xs i xs.length) (by omega) (by omega))) i
  have HLen := Lib.hid hlen
  have hcol : ∀ k j, j < xs.length → bitN (nthN xs j) k = bitN (colTo xs k xs.length) j := fun k j hj => by
    have := colTo_bit xs k xs.length j
    unfold bitN at this ⊢
    rw [this]; simp [hj]
  have HV := Lib.hid hv
  have HB1 : Hid (Below w.heap.size w ((w.alloc (.cells #[.int .i64 (n : Int), .slice (some ⟨b, off, none⟩) xs.length c] 24)).alloc (.cells #[] 87))) := Lib.hid (((Below.refl _ _).alloc (Nat.le_refl _) _).alloc (by simp) _)
  have d0 : ((w.alloc (.cells #[.int .i64 (n : Int), .slice (some ⟨b, off, none⟩) xs.length c] 24)).alloc (.cells #[] 87)).cell? ⟨w.heap.size, 0, none⟩ = some (.int .i64 (n : Int)) :=
    ((below_new1 (w.alloc (.cells #[.int .i64 (n : Int), .slice (some ⟨b, off, none⟩) xs.length c] 24)) (.cells #[] 87)).cell (p := ⟨w.heap.size, 0, none⟩) (by simp)).trans (by simp)
  have d1 : ((w.alloc (.cells #[.int .i64 (n : Int), .slice (some ⟨b, off, none⟩) xs.length c] 24)).alloc (.cells #[] 87)).cell? ⟨w.heap.size, 1, none⟩ = some (.slice (some ⟨b, off, none⟩) xs.length c) :=
    ((below_new1 (w.alloc (.cells #[.int .i64 (n : Int), .slice (some ⟨b, off, none⟩) xs.length c] 24)) (.cells #[] 87)).cell (p := ⟨w.heap.size, 1, none⟩) (by simp)).trans (by simp)
  have hE : ((w.alloc (.cells #[.int .i64 (n : Int), .slice (some ⟨b, off, none⟩) xs.length c] 24)).alloc (.cells #[] 87)).heap[w.heap.size + 1]? = some (.cells #[] 87 (0, 0)) := by
    have := heap_alloc_new (w.alloc (.cells #[.int .i64 (n : Int), .slice (some ⟨b, off, none⟩) xs.length c] 24)) (.cells #[] 87)
    rwa [World.size_alloc] at this
  have HE := Lib.hid hE
  have HT := fun W (hB : Below w.heap.size w W) => Table_any n b off c xs W (by omega) (by omega) (HV.out.below hB).at' (HV.out.below hB).lt HV.out.ok.lt'
  have HTh := Lib.hid HT
  clear hv hrow hlen hE HT
  go_enter Try.func26, Try.ntmps26
  go_wp2_with fail
  refine (HTh.out _ HB1.out).mono ?_
  rintro e w0 ⟨g0, gc0, rfl, hT0, hb0⟩
  have HT0 := Lib.hid hT0
  have HB0 := Lib.hid hb0
  clear hT0 hb0 d0 d1
  go_wp2_with fail
  refine (Over_any g0 xs.length n gc0 _ w0 l0 (by omega) (by omega) HT0.out).mono ?_
  rintro e w1 ⟨g, gc, rfl, hT1, hb1'⟩
  have hb1 := HB0.out.trans (hb1'.mono HB0.out.size)
  clear hb1'
  have hE1 : w1.heap[w.heap.size + 1]? = some (.cells #[] 87 (0, 0)) := (hb1.block _ (by simp)).trans HE.out
  have hTB := TabB.of hT1 hE1 n0 l0
  have hown0 : w1.ownsRow (w.heap.size + 1) 87 4 (.slice (some ⟨w.heap.size + 1, 0, none⟩) 0 0) 0 [] := ⟨by simp, .inr ⟨w.heap.size + 1, 0, #[], rfl, Nat.le_refl _, hE1, Nat.le_refl _, Nat.zero_le _, by simp, by simp⟩⟩
  have hBel : Below w.heap.size w w1 := HB1.out.trans (hb1.mono HB1.out.size)
  have hTs : w.heap.size + 1 < w1.heap.size := by have := hb1.size; simp at this; omega
  obtain ⟨T, hTe⟩ : ∃ T, w1.heap.size = T := ⟨_, rfl⟩
  rw [hTe] at hTB hTs
  have HTB := Lib.hid hTB
  have HO := Lib.hid hown0
  have HBel := Lib.hid hBel
  clear hT1 hb1 hE1 hTB hown0 hBel hTe
  go_wp2_with fail
  go_loopw [7, 9] (fun v i wr => ∃ (k g3 c3 : Nat), k ≤ n ∧ i = .int .i64 k ∧ v = .slice (some ⟨g3, 0, none⟩) (upTo (flH xs bd) k).length c3 ∧ Far v (w.heap.size + 1) T ∧ wr.ownsRow (w.heap.size + 1) 87 4 v (upTo (flH xs bd) k).length (flCells (upTo (flH xs bd) k)) ∧ TabB wr (w.heap.size + 1) T g n xs.length (fun i j => bitN (nthN xs j) i) ∧ Below w.heap.size w wr) (fun _ i _ => n - (intOf i).toNat)
  case atStart =>
    exact ⟨0, w.heap.size + 1, 0, Nat.zero_le _, rfl, rfl, fun x hx => by simp [Value.ownBlock] at hx; exact .inl hx.symm, HO.out, HTB.out, HBel.out⟩
  case round =>
    obtain ⟨k, g3, c3, hk, rfl, rfl, hfar, hrow, htab, hB⟩ := hrel
    obtain ⟨wo, rfl⟩ : ∃ wo : World, wo = wr := ⟨_, rfl⟩
    have HFar := Lib.hid hfar
    have HRw := Lib.hid hrow
    have HTab := Lib.hid htab
    have HB := Lib.hid hB
    have hul := HLen.out k
    obtain ⟨us, hus⟩ : ∃ us, upTo (flH xs bd) k = us := ⟨_, rfl⟩
    rw [hus] at hul HFar HRw
    rw [hus]
    have HUS := Lib.hid hus
    clear hfar hrow htab hB hus
    by_cases hlt : k < n
    · go_wp2_with fail
      go_loopw [7, 10] (fun v i wi => ∃ (h g3 c3 : Nat), h ≤ xs.length ∧ i = .int .i64 h ∧ v = .slice (some ⟨g3, 0, none⟩) (us ++ ringTo (fun k' l t => ⟨k', k, l, t⟩) bd xs.length (colTo xs k xs.length) h).length c3 ∧ Far v (w.heap.size + 1) T ∧ wi.ownsRow (w.heap.size + 1) 87 4 v (us ++ ringTo (fun k' l t => ⟨k', k, l, t⟩) bd xs.length (colTo xs k xs.length) h).length (flCells (us ++ ringTo (fun k' l t => ⟨k', k, l, t⟩) bd xs.length (colTo xs k xs.length) h)) ∧ TabB wi (w.heap.size + 1) T g n xs.length (fun i j => bitN (nthN xs j) i) ∧ Below w.heap.size w wi) (fun _ i _ => xs.length - (intOf i).toNat)
      case atStart =>
        refine ⟨0, g3, c3, Nat.zero_le _, rfl, by simp [ringTo], HFar.out, ?_, HTab.out, HB.out⟩
        simpa [ringTo] using HRw.out
      case round =>
        obtain ⟨h, g4, c4, hh, rfl, rfl, hfar, hrow, htab, hB2⟩ := hrel
        obtain ⟨bi, ci, _, _, e1, e2⟩ := htab.r k hlt
        have htl := htab.g1.2.2
        have hrl := ringTo_len (fun k' l t => (⟨k', k, l, t⟩ : Fl)) bd xs.length (colTo xs k xs.length) h
        have hk0 : (0 : Int) ≤ (k : Int) := by omega
        have hk1 : (k : Int) < (n : Int) := by omega
        have HFar2 := Lib.hid hfar
        have HRw2 := Lib.hid hrow
        have HTab2 := Lib.hid htab
        have HB2 := Lib.hid hB2
        clear hfar hrow htab hB2 HFar HRw HTab HB
        by_cases hhl : h < xs.length
        · have hba : BoolsAt wr bi xs.length (fun j => bitN (nthN xs j) k) := ⟨e2, World.block_lt_of_cell? wr ⟨bi, h, none⟩ (e2 h hhl)⟩
          have e3 := e2 h hhl
          have e3c : bitN (nthN xs h) k = bitN (colTo xs k xs.length) h := hcol k h hhl
          rw [e3c] at e3
          have HL := Lib.hid (Length_any bi ci xs.length (colTo xs k xs.length) h _ wr l0 (by omega) (colTo_lt xs k xs.length) hhl hba (hcol k))
          have hst : ringTo (fun k' l t => (⟨k', k, l, t⟩ : Fl)) bd xs.length (colTo xs k xs.length) (h + 1) = ringTo (fun k' l t => ⟨k', k, l, t⟩) bd xs.length (colTo xs k xs.length) h ++ (if lenAt xs.length (colTo xs k xs.length) h = 0 ∨ (lenAt xs.length (colTo xs k xs.length) h : Int) ≤ bd then [] else [⟨h, k, lenAt xs.length (colTo xs k xs.length) h, bitN (colTo xs k xs.length) h⟩]) := rfl
          obtain ⟨L, hL⟩ : ∃ L, lenAt xs.length (colTo xs k xs.length) h = L := ⟨_, rfl⟩
          obtain ⟨bt, hbt⟩ : ∃ bt, bitN (colTo xs k xs.length) h = bt := ⟨_, rfl⟩
          rw [hL] at HL
          rw [hL, hbt] at hst
          rw [hbt] at e3
          obtain ⟨rs, hrs⟩ : ∃ rs, us ++ ringTo (fun k' l t => (⟨k', k, l, t⟩ : Fl)) bd xs.length (colTo xs k xs.length) h = rs := ⟨_, rfl⟩
          have hrsl : rs.length ≤ 4000 := by rw [← hrs, List.length_append]; omega
          rw [hrs] at HFar2 HRw2
          rw [hrs]
          have HRS := Lib.hid hrs
          have HST := Lib.hid hst
          have hh0 : (0 : Int) ≤ (h : Int) := by omega
          have hh1 : (h : Int) < (xs.length : Int) := by omega
          have hz3 : bi < wr.heap.size := hba.lt
          have hz4 : g < wr.heap.size := World.block_lt_of_cell? wr ⟨g, k, none⟩ e1
          clear hba e2 e3c hL hbt hrs hst hrl
          go_wp2_with fail
          refine HL.out.mono ?_
          rintro e w3 ⟨rfl, hb3⟩
          have e1' := cell_lift hb3 hz4 e1
          have e3' := cell_lift hb3 hz3 e3
          have HTab3 := Lib.hid (HTab2.out.below hb3)
          have HRw3 := Lib.hid (ownsRow_next HRw2.out hb3)
          have HB3 := Lib.hid (HB2.out.trans (hb3.mono HB2.out.size))
          have hs3 := hb3.size
          clear hb3 e1 e3 HTab2 HRw2 HB2 HL
          by_cases hskip : L = 0 ∨ (L : Int) ≤ bd
          · have HSK := Lib.hid hskip
            have hfin : us ++ ringTo (fun k' l t => (⟨k', k, l, t⟩ : Fl)) bd xs.length (colTo xs k xs.length) (h + 1) = rs := by rw [HST.out, if_pos hskip, List.append_nil, HRS.out]
            have HFin := Lib.hid hfin
            clear hskip hfin
            by_cases hL0 : L = 0
            · have hLz : ((L : Int) == 0) = true := by simp [hL0]
              clear hL0
              go_wp2_with fail
              go_roundw
              case rel => exact ⟨h + 1, g4, c4, by omega, by go_num, by rw [HFin.out], HFar2.out, by rw [HFin.out]; exact HRw3.out, HTab3.out, HB3.out⟩
              case measure => simp [intOf]; omega
            · have hLz : ((L : Int) == 0) = false := by rw [beq_eq_false_iff_ne]; omega
              have hLb : (L : Int) ≤ bd := by rcases HSK.out with h | h <;> omega
              clear hL0
              go_wp2_with fail
              go_roundw
              case rel => exact ⟨h + 1, g4, c4, by omega, by go_num, by rw [HFin.out], HFar2.out, by rw [HFin.out]; exact HRw3.out, HTab3.out, HB3.out⟩
              case measure => simp [intOf]; omega
          · have hLz : ((L : Int) == 0) = false := by rw [beq_eq_false_iff_ne]; omega
            have hLb : ¬ (L : Int) ≤ bd := fun h => hskip (.inr h)
            have hLb' : bd < (L : Int) := by omega
            have hfin : us ++ ringTo (fun k' l t => (⟨k', k, l, t⟩ : Fl)) bd xs.length (colTo xs k xs.length) (h + 1) = rs ++ [⟨h, k, L, bt⟩] := by rw [HST.out, if_neg hskip, ← List.append_assoc, HRS.out]
            have HFin := Lib.hid hfin
            clear hskip hfin hLb
            go_wp2_with (at_builtin; refine Shut.out ?_)
            unfold Shut
            have hbk : ((w3.alloc (.cells #[.int .i64 (h : Int), .int .i64 (k : Int), .int .i64 (L : Int), .bool bt] 87)).alloc (.cells #[.int .i64 (h : Int), .int .i64 (k : Int), .int .i64 (L : Int), .bool bt] 87)).heap[w3.heap.size + 1]? = some (.cells #[.int .i64 (h : Int), .int .i64 (k : Int), .int .i64 (L : Int), .bool bt] 87 (0, 0)) := by
              have := heap_alloc_new (w3.alloc (.cells #[.int .i64 (h : Int), .int .i64 (k : Int), .int .i64 (L : Int), .bool bt] 87)) (.cells #[.int .i64 (h : Int), .int .i64 (k : Int), .int .i64 (L : Int), .bool bt] 87)
              rwa [World.size_alloc] at this
            have hbel2 : ∀ o o', Below w3.heap.size w3 ((w3.alloc o).alloc o') := fun o o' => ((Below.refl _ _).alloc (Nat.le_refl _) o).alloc (by simp) o'
            refine wpList_append_lies _ rfl _ _ 31 rfl (w.heap.size + 1) 87 i0 (.agg #[.int .i64 0, .int .i64 0, .int .i64 0, .bool false]) 4 32 Try.underlying31 hi hz0 hz1 hz2 rfl (by decide) (.slice (some ⟨g4, 0, none⟩) rs.length c4) rs.length (flCells rs) rfl ((HRw3.out.alloc _).alloc _) ⟨w3.heap.size + 1, 0, none⟩ 1 1 [.int .i64 (h : Int), .int .i64 (k : Int), .int .i64 (L : Int), .bool bt] rfl rfl (World.news_of_block (cs := #[.int .i64 (h : Int), .int .i64 (k : Int), .int .i64 (L : Int), .bool bt]) (t := 87) (fr := (0, 0)) hbk) (by simp [Value.oneCell']) (by decide) (by unfold maxLen; omega) (by omega) (by simp; omega) (w3.heap.size + 2) (by simp) ?_
            intro g5 cap w5 hown1 hgrow hat hglt
            have htab5 := (HTab3.out.below (hbel2 _ _)).grown HFar2.out hgrow
            have hrow5 : w5.ownsRow (w.heap.size + 1) 87 4 (.slice (some ⟨g5, 0, none⟩) (rs ++ [(⟨h, k, L, bt⟩ : Fl)]).length cap) (rs ++ [(⟨h, k, L, bt⟩ : Fl)]).length (flCells (rs ++ [(⟨h, k, L, bt⟩ : Fl)])) := by
              rw [flCells_snoc, List.length_append, List.length_singleton]; exact hown1
            have hfar5 : Far (.slice (some ⟨g5, 0, none⟩) (rs ++ [(⟨h, k, L, bt⟩ : Fl)]).length cap) (w.heap.size + 1) T := fun x hx => by
              simp [Value.ownBlock] at hx
              subst hx
              rcases hat with h | h
              · exact HFar2.out _ h
              · right; omega
            have hB5 : Below w.heap.size w w5 := (HB3.out.trans ((hbel2 _ _).mono (by omega))).grown hgrow (by simp; omega) (fun j hj => by have := (HRw3.out.lt j hj).1; omega)
            have HTab5 := Lib.hid htab5
            have HRow5 := Lib.hid hrow5
            have HFar5 := Lib.hid hfar5
            have HB5 := Lib.hid hB5
            clear htab5 hrow5 hfar5 hB5 hown1 hgrow hat hbk hbel2 e1' e3'
            have hlen5 : (rs ++ [(⟨h, k, L, bt⟩ : Fl)]).length = rs.length + 1 := by simp
            have HLen5 := Lib.hid hlen5
            clear hlen5
            go_wp2
            go_roundw
            case rel => exact ⟨h + 1, g5, cap, by omega, by go_num, by rw [HFin.out, HLen5.out], by rw [← HLen5.out]; exact HFar5.out, by rw [HFin.out, ← HLen5.out]; exact HRow5.out, HTab5.out, HB5.out⟩
            case measure => simp [intOf]; omega
        · obtain rfl : h = xs.length := by omega
          have hfin : us ++ ringTo (fun k' l t => (⟨k', k, l, t⟩ : Fl)) bd xs.length (colTo xs k xs.length) xs.length = upTo (flH xs bd) (k + 1) := by rw [HRow.out, upTo_succ, HUS.out]
          have HFin := Lib.hid hfin
          clear hfin e2
          rw [HFin.out] at HFar2 HRw2 ⊢
          go_wp2
          go_roundw
          case rel => exact ⟨k + 1, g4, c4, by omega, by go_num, rfl, HFar2.out, HRw2.out, HTab2.out, HB2.out⟩
          case measure => simp [intOf]; omega
    · obtain rfl : k = n := by omega
      rw [← HUS.out] at HRw ⊢
      go_wp2
      go_ret
      exact ⟨_, rfl, ownsRow_base HRw.out (by omega), HB.out⟩

set_option maxRecDepth 100000 in
set_option maxHeartbeats 4000000 in
theorem refLongest_core (h : Int) (p : Option Addr) (l c : Nat) (wp lf : Bool) (fs : List Fl) (w : World) (hfn : fs.length ≤ 100000) (hfm : ∀ i, i < fs.length → (nthF fs i).length ≤ 1000)
    (HF : ∀ W, Below w.heap.size w W → Calls Try.prog 26 #[.agg #[.int .i64 h, .slice p l c], .bool wp, .int .i64 0] W
      fun e w' => ∃ v, e = .returned v ∧ w'.ownsRow W.heap.size 87 4 v fs.length (flCells fs) ∧ Below W.heap.size W w') :
    Calls Try.prog 27 #[.agg #[.int .i64 h, .slice p l c], .bool wp, .bool lf] w fun e w' => e = .returned (.int .i64 (maxF fs lf : Int)) ∧ Below w.heap.size w w' := by
  have HFh := Lib.hid HF
  have HM := Lib.hid hfm
  have HB1 : Hid (Below w.heap.size w (w.alloc (.cells #[.int .i64 h, .slice p l c] 24))) := Lib.hid ((Below.refl _ _).alloc (Nat.le_refl _) _)
  clear HF hfm
  go_enter Try.func27, Try.ntmps27
  go_wp2_with fail
  refine (HFh.out _ HB1.out).mono ?_
  rintro e w1 ⟨v, rfl, hrow, hb1⟩
  obtain ⟨q, cap, rfl, hFl⟩ := Fls.of_row hrow
  have HFl := Lib.hid hFl
  have HB := Lib.hid (HB1.out.trans (hb1.mono HB1.out.size))
  clear hrow hb1 hFl
  go_wp2_with fail
  go_loopw [8, 9] (fun mo i wr => ∃ k : Nat, k ≤ fs.length ∧ i = .int .i64 k ∧ mo = .int .i64 (maxF (fs.take k) lf : Int) ∧ Below w1.heap.size w1 wr) (fun _ i _ => fs.length - (intOf i).toNat)
  case atStart => exact ⟨0, Nat.zero_le _, rfl, by simp [maxF], Below.refl _ _⟩
  case round =>
    obtain ⟨k, hk, rfl, rfl, hBr⟩ := hrel
    have HBr := Lib.hid hBr
    clear hBr
    by_cases hlt : k < fs.length
    · obtain ⟨g, rfl, hFA⟩ := HFl.out (by omega)
      have hFr := hFA.below HBr.out hFA.lt
      have x2 := hFr.c2 k hlt
      have x3 := hFr.c3 k hlt
      have hml := HM.out k hlt
      have hsn := maxF_snoc (fs.take k) (nthF fs k) lf
      rw [← take_nthF fs k hlt] at hsn
      have hGl : maxF (fs.take k) lf ≤ 1000 := maxF_le _ _ _ fun x hx => by
        obtain ⟨i, hi, rfl⟩ := List.mem_iff_getElem.1 (List.mem_of_mem_take hx)
        have := HM.out i hi
        rwa [nthF_get fs i hi] at this
      obtain ⟨f, hf⟩ : ∃ f, nthF fs k = f := ⟨_, rfl⟩
      rw [hf] at x2 x3 hml hsn
      obtain ⟨G, hG⟩ : ∃ G, maxF (fs.take k) lf = G := ⟨_, rfl⟩
      rw [hG] at hsn hGl
      rw [hG]
      obtain ⟨bt, hbt⟩ : ∃ bt, f.lifted = bt := ⟨_, rfl⟩
      rw [hbt] at x3 hsn
      have hk0 : (0 : Int) ≤ (k : Int) := by omega
      have hk1 : (k : Int) < (fs.length : Int) := by omega
      have HSn := Lib.hid hsn
      clear hFA hFr hf hG hbt hsn
      by_cases hbb : bt = lf
      · subst hbb
        have hs2 : maxF (fs.take (k + 1)) bt = max G f.length := by rw [HSn.out, if_pos rfl]
        have HS2 := Lib.hid hs2
        clear hs2
        by_cases hle : G < f.length
        · have hmx : max G f.length = f.length := by omega
          have HMX := Lib.hid hmx
          clear hmx
          go_wp2_with fail
          go_roundw
          case rel => exact ⟨k + 1, by omega, by go_num, by rw [HS2.out, HMX.out], HBr.out⟩
          case measure => simp [intOf]; omega
        · have hmx : max G f.length = G := by omega
          have HMX := Lib.hid hmx
          clear hmx
          go_wp2_with fail
          go_roundw
          case rel => exact ⟨k + 1, by omega, by go_num, by rw [HS2.out, HMX.out], HBr.out⟩
          case measure => simp [intOf]; omega
      · have hs2 : maxF (fs.take (k + 1)) lf = G := by rw [HSn.out, if_neg hbb]
        have HS2 := Lib.hid hs2
        have hbu : bt = !lf := by
          revert hbb
          cases bt <;> cases lf <;> simp
        subst hbu
        clear hs2 hbb HSn
        cases lf
        all_goals go_wp2_with fail
        all_goals go_roundw
        all_goals first
          | (simp [intOf]; omega)
          | exact ⟨k + 1, by omega, by go_num, by rw [HS2.out], HBr.out⟩
    · obtain rfl : k = fs.length := by omega
      rw [List.take_length]
      go_wp2
      go_ret
      exact ⟨rfl, HB.out.trans (HBr.out.mono HB.out.size)⟩
theorem refLongest_any (n b off c : Nat) (xs : List Nat) (wp lf : Bool) (w : World) (hv : VAt w b off c n xs) :
    Calls Try.prog 27 #[.agg #[.int .i64 (n : Int), .slice (some ⟨b, off, none⟩) xs.length c], .bool wp, .bool lf] w
      fun e w' => e = .returned (.int .i64 (doneM n xs 2 (if wp then 2 else 1) lf : Int)) ∧ Below w.heap.size w w' := by
  have n0 := hv.ok.n0
  have n1 := hv.ok.n1
  have l0 := hv.ok.l0
  have l1 := hv.ok.l1
  cases wp with
  | false =>
    have e : doneM n xs 2 1 lf = maxF (upTo (flW n xs 0) xs.length) lf := by unfold doneM floatsAl; simp
    have := refLongest_core n (some ⟨b, off, none⟩) xs.length c false lf (upTo (flW n xs 0) xs.length) w (by have := flW_all_len n xs 0 n0 n1 l1; omega) (fun i hi => (flW_mem n0 n1 (nthF_mem _ i hi)).2.2) (fun W hB => refFloatsW_any n b off c xs 0 W (hv.below hB))
    rw [← e] at this
    exact this
  | true =>
    have e : doneM n xs 2 2 lf = maxF (upTo (flH xs 0) n) lf := by unfold doneM floatsAl; simp
    have := refLongest_core n (some ⟨b, off, none⟩) xs.length c true lf (upTo (flH xs 0) n) w (by have := flH_all_len n xs 0 n1 l0 l1; omega) (fun i hi => (flH_mem l0 l1 (nthF_mem _ i hi)).2.2) (fun W hB => refFloatsH_any n b off c xs 0 W (hv.below hB))
    rw [← e] at this
    exact this
end Go.Proofs.Ytjobbleabepaiaa
