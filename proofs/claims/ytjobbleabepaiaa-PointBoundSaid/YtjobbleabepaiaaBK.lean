/- A paper's design, whose rows are new. -/
import Derived.Test.YtjobbleabepaiaaXO
namespace Go.Proofs.Ytjobbleabepaiaa
open Go.RowKit

/-- a valid design that was made of a paper: its rows are new -/
def PaperF (n : Nat) (w : World) (e : Ending) (w' : World) : Prop :=
  ∃ b off c ys, e = .returned (.agg #[.int .i64 (n : Int), .slice (some ⟨b, off, none⟩) ys.length c]) ∧ ys.length ≤ 20 ∧ VAt w' b off c n ys ∧ w.heap.size ≤ b ∧ Below w.heap.size w w'
set_option maxRecDepth 100000 in
set_option maxHeartbeats 2000000 in
theorem paperDesign_new (hk H l c : Nat) (p : Option Addr) (us : List Nat) (w : World) (hH : 1 ≤ H) (hH2 : H ≤ 24) (hk2 : hk < 256) (hu : U16At w (.slice p l c) us) :
    Calls Try.prog 59 #[.agg #[.int .u8 (hk : Int), .slice p l c], .int .i64 (H : Int)] w (PaperF (paperN hk H) w) := by
  obtain ⟨i0, hi, hz0, hz1, hz2⟩ := info_parts Try.info3
  have hs1 : ¬ H = 0 := by omega
  have he : (hk : Int) % (H : Int) = ((hk % H : Nat) : Int) := (Int.natCast_emod hk H).symm
  have hm : hk % H < H := Nat.mod_lt _ (by omega)
  unfold paperN
  obtain ⟨m, hm'⟩ : ∃ m, m = hk % H := ⟨_, rfl⟩
  rw [← hm'] at he hm ⊢
  clear hm'
  go_enter Try.func59, Try.ntmps59
  go_wp2_with fail
  have hn : 1 + (m : Int) = ((1 + m : Nat) : Int) := by omega
  rw [hn]
  clear hn he
  obtain ⟨n, hn⟩ : ∃ n, n = 1 + m := ⟨_, rfl⟩
  have hn1 : 1 ≤ n := by omega
  have hn2 : n ≤ 24 := by omega
  rw [← hn]
  have HN := Lib.hid hn
  clear hn hm
  have hMk := Mk.new ((w.alloc (.cells #[.int .u8 (hk : Int), .slice p l c] 81)).alloc (.cells #[.int .i64 0, .slice none 0 0] 24)) n
  obtain ⟨W1, hW1e⟩ : ∃ W1, W1 = (w.alloc (.cells #[.int .u8 (hk : Int), .slice p l c] 81)).alloc (.cells #[.int .i64 0, .slice none 0 0] 24) := ⟨_, rfl⟩
  have hB1 : Below w.heap.size w W1 := by rw [hW1e]; exact below2 w _ _
  have hQ : ResBox W1 (w.heap.size + 1) := by
    rw [hW1e]
    have := ResBox.new (w.alloc (.cells #[.int .u8 (hk : Int), .slice p l c] 81))
    rwa [World.size_alloc] at this
  have hs1 : W1.heap.size = w.heap.size + 1 + 1 := by rw [hW1e]; simp
  have hA : W1.cell? ⟨w.heap.size, 1, none⟩ = some (.slice p l c) := by
    rw [hW1e]
    exact (((Below.refl (w.heap.size + 1) (w.alloc (.cells #[.int .u8 (hk : Int), .slice p l c] 81))).alloc (by simp) _).cell (p := ⟨w.heap.size, 1, none⟩) (by simp)).trans (by simp)
  rw [← hW1e] at hMk ⊢
  rw [hs1] at hMk
  have HMk := Lib.hid hMk
  have HB1 := Lib.hid hB1
  have HQ := Lib.hid hQ
  have HA := Lib.hid hA
  have HU := Lib.hid hu
  have hlu : l = us.length := by
    obtain ⟨p', c', e, _⟩ := hu
    simp at e; exact e.2.1
  have hll : l ≤ 9223372036854775807 := by
    obtain ⟨p', c', e, h2, _⟩ := hu
    omega
  have HLU := Lib.hid hlu
  clear hW1e hMk hB1 hQ hs1 hA hu hlu
  go_loopw [6] (fun i wr => ∃ (k : Nat) (rows : List Nat) (v : Value), k ≤ 20 ∧ i = .int .i64 k ∧ rows.length = k ∧ (∀ i, nthN rows i < 2 ^ n) ∧ Mk W1 (w.heap.size + 1 + 1) n rows v wr) (fun i _ => 20 - (intOf i).toNat)
  case atStart => exact ⟨0, [], _, by omega, rfl, rfl, fun i => by simp [nthN]; exact Nat.pow_pos (by decide), HMk.out⟩
  case round =>
    obtain ⟨k, rows, v, hk20, rfl, hlen, hlt2, hM⟩ := hrel
    have HLen := Lib.hid hlen
    have HLt := Lib.hid hlt2
    have d1 := (hM.below.cell (p := ⟨w.heap.size, 1, none⟩) (by simp; omega)).trans HA.out
    have g0 := hM.r.c1
    have g1 := hM.r.f 1
    have g2 := hM.r.c0
    have hz : w.heap.size + 1 + 1 < wr.heap.size := hM.r.lt
    have hBw : Below w.heap.size w wr := HB1.out.trans (hM.below.mono (by omega))
    have hU := HU.out.below hBw
    have HM := Lib.hid hM
    have HRow := Lib.hid hM.row
    have hnr := hM.far (Nat.le_refl _)
    obtain ⟨hp1, hp2⟩ := pow_bds n (by omega)
    clear hlen hlt2 hM hBw
    by_cases hin : k < l ∧ (k = 0 ∨ k < 20)
    · obtain ⟨p', c', e, _, hv6, hx⟩ := hU
      simp at e
      obtain ⟨rfl, hle, rfl⟩ := e
      clear hle
      obtain ⟨b, off, rfl, hb, hcall⟩ := hx (by have := HLU.out; omega)
      have hc := hcall k (by have := HLU.out; omega)
      clear hcall
      have hX := hv6 k
      obtain ⟨X, hXe⟩ : ∃ X, X = nthN us k := ⟨_, rfl⟩
      rw [← hXe] at hc hX
      have hkl : k < l := hin.1
      have hk0 : (0 : Int) ≤ (k : Int) := by omega
      have hk1 : (k : Int) < (l : Int) := by omega
      have hval := mixV_val X n hX hn2
      obtain ⟨Z, hZ⟩ : ∃ Z, Z = mixV X n := ⟨_, rfl⟩
      have HZ := Lib.hid (show Z < 2 ^ n by rw [hZ]; exact mixV_lt X n)
      rw [← hZ] at hval
      clear hv6 hx hXe hZ
      by_cases hk00 : k = 0
      · subst hk00
        clear hin
        rw [Nat.add_zero] at hc
        go_wp2_with (at_builtin; refine Shut.out ?_)
        unfold Shut
        refine wpList_append_lies _ rfl _ _ 22 rfl (w.heap.size + 1 + 1 + 1) 3 i0 (.int .i64 0) 1 8 Try.underlying22 hi hz0 hz1 hz2 rfl (by omega) v rows.length (rows.map natV) rfl (HRow.out.alloc _) ⟨wr.heap.size, 0, none⟩ 1 1 [.int .i64 (Z : Int)] rfl rfl (World.news_of_block (cs := #[.int .i64 (Z : Int)]) (t := 3) (fr := (0, 0)) (heap_alloc_new wr _)) (by simp [Value.oneCell']) (by omega) (by rw [HLen.out]; unfold maxLen; omega) (by rw [HLen.out]; omega) (by simp; omega) (wr.heap.size + 1) (by simp) ?_
        intro g5 cap w5 hown1 hgrow hat hglt
        have hBA := (HM.out.next ((Below.refl wr.heap.size wr).alloc (Nat.le_refl _) (.cells #[.int .i64 (Z : Int)] 3))).grew (rows' := rows ++ [Z]) hgrow (by rw [List.length_append, List.length_singleton, List.map_append]; exact hown1)
        have hr5 : RBox w5 (w.heap.size + 1 + 1) n v := (hgrow.block _ (by simp; omega) hnr).trans ((Below.heap_alloc _ _ _ hz).trans HM.out.r)
        have f5 := hr5.f 1
        have c5 := hr5.c1
        have HBA := Lib.hid hBA
        have HNew : Hid ((rows ++ [Z]).length = 0 + 1 ∧ ∀ i, nthN (rows ++ [Z]) i < 2 ^ n) := Lib.hid ⟨by rw [List.length_append, HLen.out]; rfl, fun i => nthN_push rows Z n i HLt.out HZ.out⟩
        clear hBA hr5 hown1 hgrow hat hval
        go_wp2_with fail
        go_roundw
        case rel => exact ⟨0 + 1, rows ++ [Z], _, by omega, by go_num, HNew.out.1, HNew.out.2, HBA.out⟩
        case measure => simp [intOf]
      · have hk02 : k < 20 := by omega
        have hk03 : ((k : Int) == 0) = false := by rw [beq_eq_false_iff_ne]; omega
        clear hin
        go_wp2_with (at_builtin; refine Shut.out ?_)
        unfold Shut
        refine wpList_append_lies _ rfl _ _ 22 rfl (w.heap.size + 1 + 1 + 1) 3 i0 (.int .i64 0) 1 8 Try.underlying22 hi hz0 hz1 hz2 rfl (by omega) v rows.length (rows.map natV) rfl (HRow.out.alloc _) ⟨wr.heap.size, 0, none⟩ 1 1 [.int .i64 (Z : Int)] rfl rfl (World.news_of_block (cs := #[.int .i64 (Z : Int)]) (t := 3) (fr := (0, 0)) (heap_alloc_new wr _)) (by simp [Value.oneCell']) (by omega) (by rw [HLen.out]; unfold maxLen; omega) (by rw [HLen.out]; omega) (by simp; omega) (wr.heap.size + 1) (by simp) ?_
        intro g5 cap w5 hown1 hgrow hat hglt
        have hBA := (HM.out.next ((Below.refl wr.heap.size wr).alloc (Nat.le_refl _) (.cells #[.int .i64 (Z : Int)] 3))).grew (rows' := rows ++ [Z]) hgrow (by rw [List.length_append, List.length_singleton, List.map_append]; exact hown1)
        have hr5 : RBox w5 (w.heap.size + 1 + 1) n v := (hgrow.block _ (by simp; omega) hnr).trans ((Below.heap_alloc _ _ _ hz).trans HM.out.r)
        have f5 := hr5.f 1
        have c5 := hr5.c1
        have HBA := Lib.hid hBA
        have HNew : Hid ((rows ++ [Z]).length = k + 1 ∧ ∀ i, nthN (rows ++ [Z]) i < 2 ^ n) := Lib.hid ⟨by rw [List.length_append, HLen.out]; rfl, fun i => nthN_push rows Z n i HLt.out HZ.out⟩
        clear hBA hr5 hown1 hgrow hat hval
        go_wp2_with fail
        go_roundw
        case rel => exact ⟨k + 1, rows ++ [Z], _, by omega, by go_num, HNew.out.1, HNew.out.2, HBA.out⟩
        case measure => simp [intOf]; omega
    · by_cases hk00 : k = 0 ∧ l = 0
      · obtain ⟨rfl, rfl⟩ := hk00
        have hval : bits .and .i64 (bits .or .i64 37 2424832) (2 ^ n - 1) = ((mixV 37 n : Nat) : Int) := mixV_val 37 n (by omega) hn2
        obtain ⟨Z, hZ⟩ : ∃ Z, Z = mixV 37 n := ⟨_, rfl⟩
        have HZ := Lib.hid (show Z < 2 ^ n by rw [hZ]; exact mixV_lt 37 n)
        rw [← hZ] at hval
        clear hin hU hZ
        go_wp2_with (at_builtin; refine Shut.out ?_)
        unfold Shut
        refine wpList_append_lies _ rfl _ _ 22 rfl (w.heap.size + 1 + 1 + 1) 3 i0 (.int .i64 0) 1 8 Try.underlying22 hi hz0 hz1 hz2 rfl (by omega) v rows.length (rows.map natV) rfl (HRow.out.alloc _) ⟨wr.heap.size, 0, none⟩ 1 1 [.int .i64 (Z : Int)] rfl rfl (World.news_of_block (cs := #[.int .i64 (Z : Int)]) (t := 3) (fr := (0, 0)) (heap_alloc_new wr _)) (by simp [Value.oneCell']) (by omega) (by rw [HLen.out]; unfold maxLen; omega) (by rw [HLen.out]; omega) (by simp; omega) (wr.heap.size + 1) (by simp) ?_
        intro g5 cap w5 hown1 hgrow hat hglt
        have hBA := (HM.out.next ((Below.refl wr.heap.size wr).alloc (Nat.le_refl _) (.cells #[.int .i64 (Z : Int)] 3))).grew (rows' := rows ++ [Z]) hgrow (by rw [List.length_append, List.length_singleton, List.map_append]; exact hown1)
        have hr5 : RBox w5 (w.heap.size + 1 + 1) n v := (hgrow.block _ (by simp; omega) hnr).trans ((Below.heap_alloc _ _ _ hz).trans HM.out.r)
        have f5 := hr5.f 1
        have c5 := hr5.c1
        have HBA := Lib.hid hBA
        have HNew : Hid ((rows ++ [Z]).length = 0 + 1 ∧ ∀ i, nthN (rows ++ [Z]) i < 2 ^ n) := Lib.hid ⟨by rw [List.length_append, HLen.out]; rfl, fun i => nthN_push rows Z n i HLt.out HZ.out⟩
        clear hBA hr5 hown1 hgrow hat hval
        go_wp2_with fail
        go_roundw
        case rel => exact ⟨0 + 1, rows ++ [Z], _, by omega, by go_num, HNew.out.1, HNew.out.2, HBA.out⟩
        case measure => simp [intOf]
      · have hk01 : ¬ k = 0 := fun e => by
          by_cases h : l = 0
          · exact hk00 ⟨e, h⟩
          · exact hin ⟨by omega, .inl e⟩
        have hk03 : ((k : Int) == 0) = false := by rw [beq_eq_false_iff_ne]; omega
        have h5 := (HM.out).reads (by rw [HLen.out]; omega)
        obtain ⟨q, cc, rfl, hRd, hfar⟩ := h5
        have qb := HQ.out.below HM.out.below (by omega)
        have k0 := qb.c0
        have k1 := qb.c1
        have k2 := qb.f 0
        have k3 := qb.f 1
        have HBw := Lib.hid (HB1.out.trans (HM.out.below.mono (by omega)))
        have HRd := Lib.hid hRd
        have Hfar := Lib.hid hfar
        have hV : Valid n rows := ⟨hn1, hn2, by rw [HLen.out]; omega, by rw [HLen.out]; omega, HLt.out⟩
        have HV := Lib.hid hV
        have hno : ¬ (k < l ∧ k < 20) := fun e => hin ⟨e.1, .inr e.2⟩
        have HQ2 := Lib.hid qb
        have hPD : PaperF n w (.returned (.agg #[.int .i64 (n : Int), .slice q rows.length cc])) ((wr.setCell ⟨w.heap.size + 1, 0, none⟩ (.int .i64 (n : Int))).setCell ⟨w.heap.size + 1, 1, none⟩ (.slice q rows.length cc)) := by
          have hrd := (HRd.out.set ⟨w.heap.size + 1, 0, none⟩ (.int .i64 (n : Int)) (fun a e => by have := Hfar.out a e; simp; omega)).set ⟨w.heap.size + 1, 1, none⟩ (.slice q rows.length cc) (fun a e => by have := Hfar.out a e; simp; omega)
          obtain ⟨b, off, rfl, hva⟩ := vat_of_reads hrd HV.out
          exact ⟨b, off, cc, rows, rfl, by rw [HLen.out]; omega, hva, (by have := Hfar.out ⟨b, off, none⟩ rfl; simp at this; omega), (HBw.out.setCell (by simp) _).setCell (by simp) _⟩
        have HPD := Lib.hid hPD
        by_cases hkl : k < l
        · have hk20' : ¬ k < 20 := by omega
          clear hin hk00 qb hRd hfar hV hno hU hPD
          go_wp2_with fail
          rw [← HN.out]
          refine bodyPost_ret (v := .agg #[.int .i64 (n : Int), .slice q rows.length cc]) ?_ rfl HPD.out
          simp [results, Try.results59, go_sem, k0, k1]
        · clear hin hk00 qb hRd hfar hV hno hU hPD
          go_wp2_with fail
          rw [← HN.out]
          refine bodyPost_ret (v := .agg #[.int .i64 (n : Int), .slice q rows.length cc]) ?_ rfl HPD.out
          simp [results, Try.results59, go_sem, k0, k1]
end Go.Proofs.Ytjobbleabepaiaa
