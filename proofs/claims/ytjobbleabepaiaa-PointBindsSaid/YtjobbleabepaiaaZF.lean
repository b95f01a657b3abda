/- PointBinds: the walks, of a small design. -/
import Derived.Test.YtjobbleabepaiaaZE
import Derived.Test.YtjobbleabepaiaaXI
import Derived.Deep.RegionHeld3
namespace Go.Proofs.Ytjobbleabepaiaa
open Go.RowKit Go.Shelf

/-- what Bind answers to copies of its arguments, if each pick can be bound -/
def BindGives (n : Nat) (xs fs : List Int) (m : Int) (zs : List Int) (sum : Nat) : Prop :=
  ∀ W p c q fc, Reads W (.slice p xs.length c) xs → Reads W (.slice q fs.length fc) fs → Calls Try.prog 29 #[.agg #[.int .i64 (n : Int), .slice p xs.length c], .slice q fs.length fc, .int .i64 m] W
    fun e w' => ∃ pa ca, e = .returned (.tuple #[.agg #[.int .i64 (n : Int), .slice pa xs.length ca], .int .i64 (sum : Int), .int .i64 0]) ∧ Reads w' (.slice pa xs.length ca) zs ∧ Below W.heap.size W w'
theorem Mk.reads2 {W1 W : World} {D n : Nat} {rows : List Nat} {v : Value} (h : Mk W1 D n rows v W) (hl : rows.length ≤ 1000) : ∃ p c, v = .slice p rows.length c ∧ Reads W (.slice p rows.length c) (ints rows) := by
  obtain ⟨p, c, e, hr, _⟩ := h.reads hl
  exact ⟨p, c, e, hr⟩
set_option maxRecDepth 100000 in
set_option maxHeartbeats 8000000 in
theorem PointBinds_good (n : Nat) (pb po c : Nat) (fb fo fc : Nat) (xs fs : List Int) (ys gs : List Nat) (m : Nat) (w : World) (hxe : xs = ints ys) (hge : fs = ints gs) (hv : Valid n ys) (hgv : ∀ i, nthN gs i < 2 ^ n) (hn : n ≤ 24) (hx : xs.length ≤ 70) (hf : fs.length ≤ 70) (hfl : fs.length = xs.length) (hck : checkE n xs = 0) (hr : Reads w (.slice (some ⟨pb, po, none⟩) xs.length c) xs) (hpb : pb < w.heap.size) (hpn : NatsAt w pb po ys) (hfb : fb < w.heap.size) (hfi : IntsAt w fb fo fs) (hfn : NatsAt w fb fo gs) (hro : rowsOk n fs = true) (hm1 : 1 ≤ m) (hm2 : m ≤ 24) (h9 : n ≤ 9) (h6 : xs.length ≤ 6) (zs : List Int) (sum : Nat) (hzs : zs = ints (bindRows n m ys gs xs.length)) (hsum : sum = bindSum n m ys gs xs.length) (hall : ∀ i, i < ys.length → bindN n (nthN ys i) (nthN gs i) m < never) (hb : BindGives n xs fs m zs sum) : pbCalls n (some ⟨pb, po, none⟩) xs.length c (some ⟨fb, fo, none⟩) fs.length fc m w := by
  obtain ⟨i0, hi, hz0, hz1, hz2⟩ := info_parts Try.info3
  have hd : decide (70 < xs.length) = false := by simp; omega
  have Hlg := fun W h1 => large_len (some ⟨pb, po, none⟩) xs.length c (w.heap.size + 1) W h1
  rw [hd] at Hlg
  have HL := Lib.hid Hlg
  have HR := Lib.hid hr
  have HFR := Lib.hid (show Reads w (.slice (some ⟨fb, fo, none⟩) fs.length fc) fs from ⟨_, fc, rfl, by omega, fun _ => ⟨fb, fo, rfl, hfb, hfi⟩⟩)
  have HFI := Lib.hid hfi
  have HCK := Lib.hid hck
  have HFL := Lib.hid hfl
  have fl1 : ((fs.length : Int) != (xs.length : Int)) = false := by rw [hfl]; simp
  have fl2 : (fs.length != xs.length) = false := by rw [hfl]; simp
  obtain ⟨hp1, hp2⟩ := pow_bds n hn
  have HBd := Lib.hid hb
  have hf2 : decide ((70 : Int) < (fs.length : Int)) = false := by simp; omega
  have hf3 : decide (70 < fs.length) = false := by simp; omega
  have HRO := Lib.hid (rowsOk_all hro)
  clear hro
  have HIB : Hid (∀ W, Calls Try.prog 24 #[.int .i64 (m : Int), .int .i64 1, .int .i64 24] W fun e w' => e = .returned (.bool true) ∧ W = w') := Lib.hid (fun W => by
    have := In_any (m : Int) 1 24 W
    rwa [show (decide ((1 : Int) ≤ (m : Int)) && decide ((m : Int) ≤ 24)) = true by simp; omega] at this)
  have HV := Lib.hid hv
  have HGV := Lib.hid hgv
  have HPN := Lib.hid hpn
  have HFN := Lib.hid hfn
  have HXL := Lib.hid (show xs.length = ys.length by rw [hxe, ints_len])
  have HGL := Lib.hid (show fs.length = gs.length by rw [hge, ints_len])
  have d9 : decide ((9 : Int) < (n : Int)) = false := by simp; omega
  have d9' : decide (9 < n) = false := by simp; omega
  have d6 : decide ((6 : Int) < (xs.length : Int)) = false := by simp; omega
  have d6' : decide (6 < xs.length) = false := by simp; omega
  clear hxe hge hv hgv hpn hfn
  have HZ := Lib.hid hzs
  have HSM := Lib.hid hsum
  have HAll := Lib.hid hall
  clear hzs hsum hall
  clear hd Hlg hr hck hfl hfi hb
  go_enter Try.func4, Try.ntmps4
  go_wp2_with fail
  refine (HL.out _ ?_).mono ?_
  · have := (ArgBox.new (w.alloc (.cells #[.int .i64 (n : Int), .slice (some ⟨pb, po, none⟩) xs.length c] 24)) (n : Int) (some ⟨pb, po, none⟩) xs.length c).c1
    rw [World.size_alloc] at this
    exact this
  rintro e w1 ⟨rfl, rfl⟩
  obtain ⟨W1, hW1⟩ : ∃ W1, (w.alloc (.cells #[.int .i64 (n : Int), .slice (some ⟨pb, po, none⟩) xs.length c] 24)).alloc (.cells #[.int .i64 (n : Int), .slice (some ⟨pb, po, none⟩) xs.length c] 24) = W1 := ⟨_, rfl⟩
  have hb1 : Below w.heap.size w W1 := by rw [← hW1]; exact below2 w _ _
  have S1 : Boxes w [⟨w.heap.size, (n : Int), some ⟨pb, po, none⟩, xs.length, c, xs⟩] W1 := ⟨fun x hx => by
    simp at hx; subst hx
    exact ⟨by rw [← hW1]; exact (ArgBox.new w (n : Int) (some ⟨pb, po, none⟩) xs.length c).below (below1 _ _), HR.out.below hb1⟩, hb1⟩
  rw [hW1]
  have a1 := S1.get (x := ⟨w.heap.size, (n : Int), some ⟨pb, po, none⟩, xs.length, c, xs⟩) (by simp)
  clear hW1 hb1 HL
  go_wp2_with fail
  refine (S1.plain (refCheck_any (n : Int) (.slice (some ⟨pb, po, none⟩) xs.length c) xs W1 (S1.all ⟨w.heap.size, (n : Int), some ⟨pb, po, none⟩, xs.length, c, xs⟩ (by simp)).r)).mono ?_
  rintro e w2 ⟨rfl, S2⟩
  have a2 := S2.get (x := ⟨w.heap.size, (n : Int), some ⟨pb, po, none⟩, xs.length, c, xs⟩) (by simp)
  clear S1 a1
  rw [HCK.out]
  go_wp2_with fail
  have S2' := Lib.hid S2
  clear S2 a2 HCK
  go_loopw [7, 8] (fun u i wr => ∃ k : Nat, k ≤ fs.length ∧ u = .int .i64 0 ∧ i = .int .i64 k ∧ Boxes w [⟨w.heap.size, (n : Int), some ⟨pb, po, none⟩, xs.length, c, xs⟩] wr) (fun _ i _ => fs.length - (intOf i).toNat)
  case atStart => exact ⟨0, Nat.zero_le _, rfl, rfl, S2'.out⟩
  case round =>
    obtain ⟨k, hk, rfl, rfl, hS3⟩ := hrel
    have S3 := Lib.hid hS3
    clear hS3
    by_cases hlt : k < fs.length
    · have hok := HRO.out k hlt
      have hc := (HFI.out.below S3.out.below hfb) k hlt
      have a3 := S3.out.get (x := ⟨w.heap.size, (n : Int), some ⟨pb, po, none⟩, xs.length, c, xs⟩) (by simp)
      have hk0 : (0 : Int) ≤ (k : Int) := by omega
      have hk1 : (k : Int) < (fs.length : Int) := by omega
      have hu : IntKind.u64.wrap (n : Int) = (n : Int) := IntWalk.u64_in _ (by omega)
      have hmn : min n 64 = n := by omega
      have hw1 : IntKind.i64.wrap (2 ^ n) = 2 ^ n := IntWalk.i64_in _ (by omega)
      have hw2 : IntKind.i64.wrap (2 ^ n - 1) = 2 ^ n - 1 := IntWalk.i64_in _ (by omega)
      have HI : ∀ w, Calls Try.prog 24 #[.int .i64 (nthI fs k), .int .i64 0, .int .i64 (2 ^ n - 1)] w fun e w' => e = .returned (.bool true) ∧ w = w' := fun w => by
        have := In_any (nthI fs k) 0 (2 ^ n - 1) w
        rwa [show (decide (0 ≤ nthI fs k) && decide (nthI fs k ≤ 2 ^ n - 1)) = true by simp; omega] at this
      have Hok := Lib.hid hok
      clear hok
      go_wp2_with fail
      go_region_with (go_at_call 24; refine (HI _).mono ?_; rintro e w' ⟨rfl, rfl⟩)
      all_goals clear hu hmn hw1 hw2 hc a3
      all_goals go_wp2_with fail
      all_goals go_roundw
      all_goals first
        | (simp [intOf]; omega)
        | exact ⟨k + 1, by omega, rfl, by go_num, S3.out.drew⟩
    · have S2 := S3.out
      have a2 := S2.get (x := ⟨w.heap.size, (n : Int), some ⟨pb, po, none⟩, xs.length, c, xs⟩) (by simp)
      clear S3
      go_wp2_with fail
      refine (HIB.out _).mono ?_
      rintro e wq ⟨rfl, rfl⟩
      go_wp2_with fail
      refine (own_any (n : Int) (some ⟨pb, po, none⟩) c xs _ (by omega) (S2.all ⟨w.heap.size, (n : Int), some ⟨pb, po, none⟩, xs.length, c, xs⟩ (by simp)).r).mono ?_
      rintro e w3 ⟨p2, c2, rfl, hr2, hb3⟩
      have S3 := S2.next hb3
      have R2 := Lib.hid hr2
      have b3 := S3.get (x := ⟨w.heap.size, (n : Int), some ⟨pb, po, none⟩, xs.length, c, xs⟩) (by simp)
      clear S2 a2 hb3 hr2
      go_wp2_with fail
      refine (ints_any (some ⟨fb, fo, none⟩) fc fs w3 (by omega) (HFR.out.below S3.below)).mono ?_
      rintro e w4 ⟨q2, fc2, rfl, hr3, _, hb4⟩
      have S4 := (S3.next hb4).push (n : Int) p2 xs.length c2 xs (R2.out.below hb4)
      have R3 := Lib.hid (hr3.below (below1 w4 (.cells #[.int .i64 (n : Int), .slice p2 xs.length c2] 24)))
      clear S3 hb4 hr3 R2 b3
      go_wp2_with fail
      refine (HBd.out _ p2 c2 q2 fc2 (S4.all ⟨w4.heap.size, (n : Int), p2, xs.length, c2, xs⟩ (by simp)).r R3.out).mono ?_
      rintro e w5 ⟨pa, ca, rfl, hra, hb5⟩
      have S5 := (S4.next hb5).push (n : Int) pa xs.length ca zs (hra)
      have R4 := Lib.hid ((R3.out.below hb5).below (below1 w5 (.cells #[.int .i64 (n : Int), .slice pa xs.length ca] 24)))
      have a5 := (S4.next hb5).get (x := ⟨w4.heap.size, (n : Int), p2, xs.length, c2, xs⟩) (by simp)
      have b5 := (S4.next hb5).get (x := ⟨w.heap.size, (n : Int), some ⟨pb, po, none⟩, xs.length, c, xs⟩) (by simp)
      clear S4 hb5 R3 hra

      go_wp2_with fail
      refine (Same_reads (n : Int) p2 (some ⟨pb, po, none⟩) xs.length xs.length c2 c xs _ (S5.all ⟨w4.heap.size, (n : Int), p2, xs.length, c2, xs⟩ (by simp)).r (S5.all ⟨w.heap.size, (n : Int), some ⟨pb, po, none⟩, xs.length, c, xs⟩ (by simp)).r).mono ?_
      rintro e w6 ⟨rfl, hb6⟩
      have S6 := S5.next hb6
      have R5 := Lib.hid (R4.out.below hb6)
      clear S5 hb6 a5 b5 R4

      go_wp2_with fail
      refine (design_any 0 q2 fs.length fc2 w6).mono ?_
      rintro e w7 ⟨rfl, hb7⟩
      have S7 := S6.next hb7
      have R6 := Lib.hid (R5.out.below hb7)
      clear S6 hb7 R5
      go_wp2_with fail
      refine (design_any 0 (some ⟨fb, fo, none⟩) fs.length fc w7).mono ?_
      rintro e w8 ⟨rfl, hb8⟩
      have S8 := S7.next hb8
      have R7 := Lib.hid (R6.out.below hb8)
      clear S7 hb8 R6
      go_wp2_with fail
      refine (Same_reads 0 q2 (some ⟨fb, fo, none⟩) fs.length fs.length fc2 fc fs w8 R7.out (HFR.out.below S8.below)).mono ?_
      rintro e w9 ⟨rfl, hb9⟩
      have S9 := S8.next hb9
      have a9 := S9.get (x := ⟨w.heap.size, (n : Int), some ⟨pb, po, none⟩, xs.length, c, xs⟩) (by simp)
      clear S8 hb9 R7
      go_wp2_with fail
      have hMk := Mk.new w9 n
      have hB10 := below1 w9 (.cells #[.int .i64 (n : Int), .slice none 0 0] 24)
      obtain ⟨W10, hW10⟩ : ∃ W10, w9.alloc (.cells #[.int .i64 (n : Int), .slice none 0 0] 24) = W10 := ⟨_, rfl⟩
      rw [hW10] at hMk hB10 ⊢
      have HMk := Lib.hid hMk
      have HS9 := Lib.hid S9
      clear hW10 hMk hB10 S9 a9
      go_loopw [7, 15, 16] (fun u sm i wr => ∃ k : Nat, k ≤ xs.length ∧ i = .int .i64 k ∧ u = .int .i64 0 ∧ sm = .int .i64 (bindSum n m ys gs k : Int) ∧ ∃ v, Mk w9 w9.heap.size n (bindRows n m ys gs k) v wr) (fun _ _ i _ => xs.length - (intOf i).toNat)
      case atStart => exact ⟨0, Nat.zero_le _, rfl, rfl, rfl, _, HMk.out⟩
      case round =>
        obtain ⟨k, hk, rfl, rfl, rfl, v, hM⟩ := hrel
        have HM := Lib.hid hM
        have S := HS9.out.next hM.below
        have a := S.get (x := ⟨w.heap.size, (n : Int), some ⟨pb, po, none⟩, xs.length, c, xs⟩) (by simp)
        have HS := Lib.hid S
        have hlen := bindRows_len n m ys gs k
        have Hlen := Lib.hid hlen
        clear hM S hlen
        by_cases hlt : k < xs.length
        · have hlt2 : k < ys.length := by have := HXL.out; omega
          have hlt3 : k < gs.length := by have := HXL.out; have := HGL.out; have := HFL.out; omega
          have hltf : k < fs.length := by have := HFL.out; omega
          have x1 := (HPN.out.below HS.out.below hpb) k hlt2
          have x2 := (HFN.out.below HS.out.below hfb) k hlt3
          have hk0 : (0 : Int) ≤ (k : Int) := by omega
          have hk1 : (k : Int) < (xs.length : Int) := by omega
          have hk2 : (k : Int) < (fs.length : Int) := by omega
          have HRB := Lib.hid (fun W => refBind_any (nthN ys k) (nthN gs k) n m W HV.out.n0 hn (HV.out.lt k) (HGV.out k) (by omega))
          have HK := Lib.hid (fun W (h : Mk w9 w9.heap.size n (bindRows n m ys gs k) v W) => have S := HS9.out.next h.below
            (⟨(S.get (x := ⟨w.heap.size, (n : Int), some ⟨pb, po, none⟩, xs.length, c, xs⟩) (by simp)).1, (S.get (x := ⟨w.heap.size, (n : Int), some ⟨pb, po, none⟩, xs.length, c, xs⟩) (by simp)).2.1, (HPN.out.below S.below hpb) k hlt2, (HFN.out.below S.below hfb) k hlt3, h⟩ : W.cell? ⟨w.heap.size, 0, none⟩ = some (.int .i64 (n : Int)) ∧ W.cell? ⟨w.heap.size, 1, none⟩ = some (.slice (some ⟨pb, po, none⟩) xs.length c) ∧ W.cell? ⟨pb, po + k, none⟩ = some (.int .i64 (nthN ys k : Int)) ∧ W.cell? ⟨fb, fo + k, none⟩ = some (.int .i64 (nthN gs k : Int)) ∧ Mk w9 w9.heap.size n (bindRows n m ys gs k) v W))
          have HMd := Lib.hid (HM.out.next (below_drew1 wr))
          go_wp2_with fail
          clear x1 x2 a
          go_region_held3 (fun W => W.cell? ⟨w.heap.size, 0, none⟩ = some (.int .i64 (n : Int)) ∧ W.cell? ⟨w.heap.size, 1, none⟩ = some (.slice (some ⟨pb, po, none⟩) xs.length c) ∧ W.cell? ⟨pb, po + k, none⟩ = some (.int .i64 (nthN ys k : Int)) ∧ W.cell? ⟨fb, fo + k, none⟩ = some (.int .i64 (nthN gs k : Int)) ∧ Mk w9 w9.heap.size n (bindRows n m ys gs k) v W)
            ((first
              | exact HK.out _ HMd.out
              | (refine HK.out _ (Mk.next ?_ (by assumption)); go_split_ands; assumption)))
            ((first
              | (go_at_call 31; (with_reducible refine (HRB.out _).mono ?_); rintro e w11 ⟨B, L, fd, rfl, hF, hb11⟩)))
          have HF := Lib.hid hF
          have HM2 : Mk w9 w9.heap.size n (bindRows n m ys gs k) v w11 := by go_split_ands; assumption
          clear hF hb11 HK HMd
          obtain ⟨rfl, hB, hL⟩ := found_some HV.out.n0 hn HF.out (HAll.out k hlt2)
          have hBs := bindSum_le n m ys gs k
          have hk6 : k ≤ 6 := by omega
          have hLl : L ≤ 25 := by
            rw [hL]; have := bindN_le n (nthN ys k) (nthN gs k) m
            unfold never at this; unfold change; omega
          have Hrow := Lib.hid (show bindRows n m ys gs (k + 1) = bindRows n m ys gs k ++ [B] by rw [bindRows_succ, hB]; rfl)
          have Hsum := Lib.hid (show bindSum n m ys gs (k + 1) = bindSum n m ys gs k + L by rw [hL]; rfl)
          obtain ⟨sm, hsm⟩ : ∃ sm, sm = bindSum n m ys gs k := ⟨_, rfl⟩
          rw [← hsm] at hBs Hsum
          rw [← hsm]
          clear hB hL hsm HF
          have g0 := HM2.r.c1
          have g1 := HM2.r.f 1
          have hz : w9.heap.size < w11.heap.size := HM2.r.lt
          have HMr := Lib.hid HM2
          have HRow := Lib.hid HM2.row
          have hnr := HM2.far (Nat.le_refl _)
          have hn25 : k + 1 ≤ maxLen := by unfold maxLen; omega
          clear HM2
          go_wp2_with (at_builtin; refine Shut.out ?_)
          unfold Shut
          refine wpList_append_lies _ rfl _ _ 22 rfl (w9.heap.size + 1) 3 i0 _ 1 8 Try.underlying22 hi hz0 hz1 hz2 rfl (by omega) v (bindRows n m ys gs k).length ((bindRows n m ys gs k).map natV) rfl (HRow.out.alloc _) ⟨w11.heap.size, 0, none⟩ 1 1 [.int .i64 (B : Int)] rfl rfl (World.news_of_block (cs := #[.int .i64 (B : Int)]) (t := 3) (fr := (0, 0)) (heap_alloc_new w11 _)) (by simp [Value.oneCell']) (by omega) (by rw [Hlen.out]; exact hn25) (by rw [Hlen.out]; omega) (by simp; omega) (w11.heap.size + 1) (by simp) ?_
          intro g5 cap w5 hown1 hgrow hat hglt
          have hBA := (HMr.out.next ((Below.refl w11.heap.size w11).alloc (Nat.le_refl _) (.cells #[.int .i64 (B : Int)] 3))).grew (rows' := bindRows n m ys gs k ++ [B]) hgrow (by rw [List.length_append, List.length_singleton, List.map_append]; exact hown1)
          have hr5 : RBox w5 w9.heap.size n v := (hgrow.block _ (by simp; omega) hnr).trans ((Below.heap_alloc _ _ _ hz).trans HMr.out.r)
          have f5 := hr5.f 1
          have c5 := hr5.c1
          have HBA := Lib.hid hBA
          clear hBA hr5 hown1 hgrow hat
          go_wp2_with fail
          go_roundw
          case rel => exact ⟨k + 1, by omega, by go_num, rfl, congrArg (Value.int .i64) (by rw [Hsum.out]; omega), _, by rw [Hrow.out]; exact HBA.out⟩
          case measure => simp [intOf]; omega
        · obtain rfl : k = xs.length := by omega
          obtain ⟨pr, cr, rfl, hrr⟩ := HM.out.reads2 (by rw [Hlen.out]; omega)
          have c0 := HM.out.r.c0
          have c1 := HM.out.r.c1
          rw [Hlen.out] at hrr c1
          rw [← HZ.out] at hrr
          rw [← HSM.out]
          have HRR := Lib.hid hrr
          have a11 := HS.out.get (x := ⟨w5.heap.size, (n : Int), pa, xs.length, ca, zs⟩) (by simp)
          clear hrr hlt
          go_wp2_with fail
          refine (Same_reads (n : Int) pa pr xs.length xs.length ca cr zs wr (HS.out.all ⟨w5.heap.size, (n : Int), pa, xs.length, ca, zs⟩ (by simp)).r HRR.out).mono ?_
          rintro e w12 ⟨rfl, hb12⟩
          have S12 := HS.out.next hb12
          clear hb12 a11 a c0 c1
          go_wp2_with fail
          refine (known_any w12).mono ?_
          rintro e w13 ⟨rfl, hb13⟩
          go_wp2_with fail
          go_ret
          exact ⟨rfl, (S12.next hb13).below⟩
set_option maxRecDepth 100000 in
set_option maxHeartbeats 8000000 in
theorem PointBinds_nev (n : Nat) (pb po c : Nat) (fb fo fc : Nat) (xs fs : List Int) (ys gs : List Nat) (m : Nat) (w : World) (hxe : xs = ints ys) (hge : fs = ints gs) (hv : Valid n ys) (hgv : ∀ i, nthN gs i < 2 ^ n) (hn : n ≤ 24) (hx : xs.length ≤ 70) (hf : fs.length ≤ 70) (hfl : fs.length = xs.length) (hck : checkE n xs = 0) (hr : Reads w (.slice (some ⟨pb, po, none⟩) xs.length c) xs) (hpb : pb < w.heap.size) (hpn : NatsAt w pb po ys) (hfb : fb < w.heap.size) (hfi : IntsAt w fb fo fs) (hfn : NatsAt w fb fo gs) (hro : rowsOk n fs = true) (hm1 : 1 ≤ m) (hm2 : m ≤ 24) (h9 : n ≤ 9) (h6 : xs.length ≤ 6) (k0 : Nat) (hk0 : k0 < xs.length) (hall : ∀ i, i < k0 → bindN n (nthN ys i) (nthN gs i) m < never) (hnev : ¬ bindN n (nthN ys k0) (nthN gs k0) m < never) (hb : BindSays n xs fs m 9) : pbCalls n (some ⟨pb, po, none⟩) xs.length c (some ⟨fb, fo, none⟩) fs.length fc m w := by
  obtain ⟨i0, hi, hz0, hz1, hz2⟩ := info_parts Try.info3
  have hd : decide (70 < xs.length) = false := by simp; omega
  have Hlg := fun W h1 => large_len (some ⟨pb, po, none⟩) xs.length c (w.heap.size + 1) W h1
  rw [hd] at Hlg
  have HL := Lib.hid Hlg
  have HR := Lib.hid hr
  have HFR := Lib.hid (show Reads w (.slice (some ⟨fb, fo, none⟩) fs.length fc) fs from ⟨_, fc, rfl, by omega, fun _ => ⟨fb, fo, rfl, hfb, hfi⟩⟩)
  have HFI := Lib.hid hfi
  have HCK := Lib.hid hck
  have HFL := Lib.hid hfl
  have fl1 : ((fs.length : Int) != (xs.length : Int)) = false := by rw [hfl]; simp
  have fl2 : (fs.length != xs.length) = false := by rw [hfl]; simp
  obtain ⟨hp1, hp2⟩ := pow_bds n hn
  have HBd := Lib.hid hb
  have hf2 : decide ((70 : Int) < (fs.length : Int)) = false := by simp; omega
  have hf3 : decide (70 < fs.length) = false := by simp; omega
  have HRO := Lib.hid (rowsOk_all hro)
  clear hro
  have HIB : Hid (∀ W, Calls Try.prog 24 #[.int .i64 (m : Int), .int .i64 1, .int .i64 24] W fun e w' => e = .returned (.bool true) ∧ W = w') := Lib.hid (fun W => by
    have := In_any (m : Int) 1 24 W
    rwa [show (decide ((1 : Int) ≤ (m : Int)) && decide ((m : Int) ≤ 24)) = true by simp; omega] at this)
  have HV := Lib.hid hv
  have HGV := Lib.hid hgv
  have HPN := Lib.hid hpn
  have HFN := Lib.hid hfn
  have HXL := Lib.hid (show xs.length = ys.length by rw [hxe, ints_len])
  have HGL := Lib.hid (show fs.length = gs.length by rw [hge, ints_len])
  have d9 : decide ((9 : Int) < (n : Int)) = false := by simp; omega
  have d9' : decide (9 < n) = false := by simp; omega
  have d6 : decide ((6 : Int) < (xs.length : Int)) = false := by simp; omega
  have d6' : decide (6 < xs.length) = false := by simp; omega
  clear hxe hge hv hgv hpn hfn
  have HK0 := Lib.hid hk0
  have HNev := Lib.hid hnev
  have HAll := Lib.hid hall
  clear hk0 hnev hall
  clear hd Hlg hr hck hfl hfi hb
  go_enter Try.func4, Try.ntmps4
  go_wp2_with fail
  refine (HL.out _ ?_).mono ?_
  · have := (ArgBox.new (w.alloc (.cells #[.int .i64 (n : Int), .slice (some ⟨pb, po, none⟩) xs.length c] 24)) (n : Int) (some ⟨pb, po, none⟩) xs.length c).c1
    rw [World.size_alloc] at this
    exact this
  rintro e w1 ⟨rfl, rfl⟩
  obtain ⟨W1, hW1⟩ : ∃ W1, (w.alloc (.cells #[.int .i64 (n : Int), .slice (some ⟨pb, po, none⟩) xs.length c] 24)).alloc (.cells #[.int .i64 (n : Int), .slice (some ⟨pb, po, none⟩) xs.length c] 24) = W1 := ⟨_, rfl⟩
  have hb1 : Below w.heap.size w W1 := by rw [← hW1]; exact below2 w _ _
  have S1 : Boxes w [⟨w.heap.size, (n : Int), some ⟨pb, po, none⟩, xs.length, c, xs⟩] W1 := ⟨fun x hx => by
    simp at hx; subst hx
    exact ⟨by rw [← hW1]; exact (ArgBox.new w (n : Int) (some ⟨pb, po, none⟩) xs.length c).below (below1 _ _), HR.out.below hb1⟩, hb1⟩
  rw [hW1]
  have a1 := S1.get (x := ⟨w.heap.size, (n : Int), some ⟨pb, po, none⟩, xs.length, c, xs⟩) (by simp)
  clear hW1 hb1 HL
  go_wp2_with fail
  refine (S1.plain (refCheck_any (n : Int) (.slice (some ⟨pb, po, none⟩) xs.length c) xs W1 (S1.all ⟨w.heap.size, (n : Int), some ⟨pb, po, none⟩, xs.length, c, xs⟩ (by simp)).r)).mono ?_
  rintro e w2 ⟨rfl, S2⟩
  have a2 := S2.get (x := ⟨w.heap.size, (n : Int), some ⟨pb, po, none⟩, xs.length, c, xs⟩) (by simp)
  clear S1 a1
  rw [HCK.out]
  go_wp2_with fail
  have S2' := Lib.hid S2
  clear S2 a2 HCK
  go_loopw [7, 8] (fun u i wr => ∃ k : Nat, k ≤ fs.length ∧ u = .int .i64 0 ∧ i = .int .i64 k ∧ Boxes w [⟨w.heap.size, (n : Int), some ⟨pb, po, none⟩, xs.length, c, xs⟩] wr) (fun _ i _ => fs.length - (intOf i).toNat)
  case atStart => exact ⟨0, Nat.zero_le _, rfl, rfl, S2'.out⟩
  case round =>
    obtain ⟨k, hk, rfl, rfl, hS3⟩ := hrel
    have S3 := Lib.hid hS3
    clear hS3
    by_cases hlt : k < fs.length
    · have hok := HRO.out k hlt
      have hc := (HFI.out.below S3.out.below hfb) k hlt
      have a3 := S3.out.get (x := ⟨w.heap.size, (n : Int), some ⟨pb, po, none⟩, xs.length, c, xs⟩) (by simp)
      have hk0 : (0 : Int) ≤ (k : Int) := by omega
      have hk1 : (k : Int) < (fs.length : Int) := by omega
      have hu : IntKind.u64.wrap (n : Int) = (n : Int) := IntWalk.u64_in _ (by omega)
      have hmn : min n 64 = n := by omega
      have hw1 : IntKind.i64.wrap (2 ^ n) = 2 ^ n := IntWalk.i64_in _ (by omega)
      have hw2 : IntKind.i64.wrap (2 ^ n - 1) = 2 ^ n - 1 := IntWalk.i64_in _ (by omega)
      have HI : ∀ w, Calls Try.prog 24 #[.int .i64 (nthI fs k), .int .i64 0, .int .i64 (2 ^ n - 1)] w fun e w' => e = .returned (.bool true) ∧ w = w' := fun w => by
        have := In_any (nthI fs k) 0 (2 ^ n - 1) w
        rwa [show (decide (0 ≤ nthI fs k) && decide (nthI fs k ≤ 2 ^ n - 1)) = true by simp; omega] at this
      have Hok := Lib.hid hok
      clear hok
      go_wp2_with fail
      go_region_with (go_at_call 24; refine (HI _).mono ?_; rintro e w' ⟨rfl, rfl⟩)
      all_goals clear hu hmn hw1 hw2 hc a3
      all_goals go_wp2_with fail
      all_goals go_roundw
      all_goals first
        | (simp [intOf]; omega)
        | exact ⟨k + 1, by omega, rfl, by go_num, S3.out.drew⟩
    · have S2 := S3.out
      have a2 := S2.get (x := ⟨w.heap.size, (n : Int), some ⟨pb, po, none⟩, xs.length, c, xs⟩) (by simp)
      clear S3
      go_wp2_with fail
      refine (HIB.out _).mono ?_
      rintro e wq ⟨rfl, rfl⟩
      go_wp2_with fail
      refine (own_any (n : Int) (some ⟨pb, po, none⟩) c xs _ (by omega) (S2.all ⟨w.heap.size, (n : Int), some ⟨pb, po, none⟩, xs.length, c, xs⟩ (by simp)).r).mono ?_
      rintro e w3 ⟨p2, c2, rfl, hr2, hb3⟩
      have S3 := S2.next hb3
      have R2 := Lib.hid hr2
      have b3 := S3.get (x := ⟨w.heap.size, (n : Int), some ⟨pb, po, none⟩, xs.length, c, xs⟩) (by simp)
      clear S2 a2 hb3 hr2
      go_wp2_with fail
      refine (ints_any (some ⟨fb, fo, none⟩) fc fs w3 (by omega) (HFR.out.below S3.below)).mono ?_
      rintro e w4 ⟨q2, fc2, rfl, hr3, _, hb4⟩
      have S4 := (S3.next hb4).push (n : Int) p2 xs.length c2 xs (R2.out.below hb4)
      have R3 := Lib.hid (hr3.below (below1 w4 (.cells #[.int .i64 (n : Int), .slice p2 xs.length c2] 24)))
      clear S3 hb4 hr3 R2 b3
      go_wp2_with fail
      refine (HBd.out _ p2 c2 q2 fc2 (S4.all ⟨w4.heap.size, (n : Int), p2, xs.length, c2, xs⟩ (by simp)).r R3.out).mono ?_
      rintro e w5 ⟨rfl, hb5⟩
      have S5 := (S4.next hb5).push 0 none 0 0 [] (reads_nil _ _ _)
      have R4 := Lib.hid ((R3.out.below hb5).below (below1 w5 (.cells #[.int .i64 0, .slice none 0 0] 24)))
      have a5 := (S4.next hb5).get (x := ⟨w4.heap.size, (n : Int), p2, xs.length, c2, xs⟩) (by simp)
      have b5 := (S4.next hb5).get (x := ⟨w.heap.size, (n : Int), some ⟨pb, po, none⟩, xs.length, c, xs⟩) (by simp)
      clear S4 hb5 R3

      go_wp2_with fail
      refine (Same_reads (n : Int) p2 (some ⟨pb, po, none⟩) xs.length xs.length c2 c xs _ (S5.all ⟨w4.heap.size, (n : Int), p2, xs.length, c2, xs⟩ (by simp)).r (S5.all ⟨w.heap.size, (n : Int), some ⟨pb, po, none⟩, xs.length, c, xs⟩ (by simp)).r).mono ?_
      rintro e w6 ⟨rfl, hb6⟩
      have S6 := S5.next hb6
      have R5 := Lib.hid (R4.out.below hb6)
      clear S5 hb6 a5 b5 R4

      go_wp2_with fail
      refine (design_any 0 q2 fs.length fc2 w6).mono ?_
      rintro e w7 ⟨rfl, hb7⟩
      have S7 := S6.next hb7
      have R6 := Lib.hid (R5.out.below hb7)
      clear S6 hb7 R5
      go_wp2_with fail
      refine (design_any 0 (some ⟨fb, fo, none⟩) fs.length fc w7).mono ?_
      rintro e w8 ⟨rfl, hb8⟩
      have S8 := S7.next hb8
      have R7 := Lib.hid (R6.out.below hb8)
      clear S7 hb8 R6
      go_wp2_with fail
      refine (Same_reads 0 q2 (some ⟨fb, fo, none⟩) fs.length fs.length fc2 fc fs w8 R7.out (HFR.out.below S8.below)).mono ?_
      rintro e w9 ⟨rfl, hb9⟩
      have S9 := S8.next hb9
      have a9 := S9.get (x := ⟨w.heap.size, (n : Int), some ⟨pb, po, none⟩, xs.length, c, xs⟩) (by simp)
      clear S8 hb9 R7
      go_wp2_with fail
      have hMk := Mk.new w9 n
      have hB10 := below1 w9 (.cells #[.int .i64 (n : Int), .slice none 0 0] 24)
      obtain ⟨W10, hW10⟩ : ∃ W10, w9.alloc (.cells #[.int .i64 (n : Int), .slice none 0 0] 24) = W10 := ⟨_, rfl⟩
      rw [hW10] at hMk hB10 ⊢
      have HMk := Lib.hid hMk
      have HS9 := Lib.hid S9
      clear hW10 hMk hB10 S9 a9
      go_loopw [7, 15, 16] (fun u sm i wr => ∃ k : Nat, k ≤ xs.length ∧ i = .int .i64 k ∧ ((u = .int .i64 0 ∧ k ≤ k0 ∧ sm = .int .i64 (bindSum n m ys gs k : Int) ∧ ∃ v, Mk w9 w9.heap.size n (bindRows n m ys gs k) v wr) ∨ (u = .int .i64 9 ∧ (∃ z : Int, sm = .int .i64 z) ∧ Below w9.heap.size w9 wr))) (fun _ _ i _ => xs.length - (intOf i).toNat)
      case atStart => exact ⟨0, Nat.zero_le _, rfl, .inl ⟨rfl, Nat.zero_le _, rfl, _, HMk.out⟩⟩
      case round =>
        obtain ⟨k, hk, rfl, hor⟩ := hrel
        rcases hor with ⟨rfl, hk0', rfl, v, hM⟩ | ⟨rfl, ⟨z, rfl⟩, hBw⟩
        · have HM := Lib.hid hM
          have S := HS9.out.next hM.below
          have a := S.get (x := ⟨w.heap.size, (n : Int), some ⟨pb, po, none⟩, xs.length, c, xs⟩) (by simp)
          have HS := Lib.hid S
          have hlen := bindRows_len n m ys gs k
          have Hlen := Lib.hid hlen
          have hlt : k < xs.length := by have := HK0.out; omega
          clear hM S hlen
          · have hlt2 : k < ys.length := by have := HXL.out; omega
            have hlt3 : k < gs.length := by have := HXL.out; have := HGL.out; have := HFL.out; omega
            have hltf : k < fs.length := by have := HFL.out; omega
            have x1 := (HPN.out.below HS.out.below hpb) k hlt2
            have x2 := (HFN.out.below HS.out.below hfb) k hlt3
            have hk0 : (0 : Int) ≤ (k : Int) := by omega
            have hk1 : (k : Int) < (xs.length : Int) := by omega
            have hk2 : (k : Int) < (fs.length : Int) := by omega
            have HRB := Lib.hid (fun W => refBind_any (nthN ys k) (nthN gs k) n m W HV.out.n0 hn (HV.out.lt k) (HGV.out k) (by omega))
            have HK := Lib.hid (fun W (h : Mk w9 w9.heap.size n (bindRows n m ys gs k) v W) => have S := HS9.out.next h.below
              (⟨(S.get (x := ⟨w.heap.size, (n : Int), some ⟨pb, po, none⟩, xs.length, c, xs⟩) (by simp)).1, (S.get (x := ⟨w.heap.size, (n : Int), some ⟨pb, po, none⟩, xs.length, c, xs⟩) (by simp)).2.1, (HPN.out.below S.below hpb) k hlt2, (HFN.out.below S.below hfb) k hlt3, h⟩ : W.cell? ⟨w.heap.size, 0, none⟩ = some (.int .i64 (n : Int)) ∧ W.cell? ⟨w.heap.size, 1, none⟩ = some (.slice (some ⟨pb, po, none⟩) xs.length c) ∧ W.cell? ⟨pb, po + k, none⟩ = some (.int .i64 (nthN ys k : Int)) ∧ W.cell? ⟨fb, fo + k, none⟩ = some (.int .i64 (nthN gs k : Int)) ∧ Mk w9 w9.heap.size n (bindRows n m ys gs k) v W))
            have HMd := Lib.hid (HM.out.next (below_drew1 wr))
            go_wp2_with fail
            clear x1 x2 a
            go_region_held3 (fun W => W.cell? ⟨w.heap.size, 0, none⟩ = some (.int .i64 (n : Int)) ∧ W.cell? ⟨w.heap.size, 1, none⟩ = some (.slice (some ⟨pb, po, none⟩) xs.length c) ∧ W.cell? ⟨pb, po + k, none⟩ = some (.int .i64 (nthN ys k : Int)) ∧ W.cell? ⟨fb, fo + k, none⟩ = some (.int .i64 (nthN gs k : Int)) ∧ Mk w9 w9.heap.size n (bindRows n m ys gs k) v W)
              ((first
                | exact HK.out _ HMd.out
                | (refine HK.out _ (Mk.next ?_ (by assumption)); go_split_ands; assumption)))
              ((first
                | (go_at_call 31; (with_reducible refine (HRB.out _).mono ?_); rintro e w11 ⟨B, L, fd, rfl, hF, hb11⟩)))
            have HF := Lib.hid hF
            have HM2 : Mk w9 w9.heap.size n (bindRows n m ys gs k) v w11 := by go_split_ands; assumption
            clear hF hb11 HK HMd
            by_cases hkk : k < k0
            · skip
              obtain ⟨rfl, hB, hL⟩ := found_some HV.out.n0 hn HF.out (HAll.out k hkk)
              have hBs := bindSum_le n m ys gs k
              have hk6 : k ≤ 6 := by omega
              have hLl : L ≤ 25 := by
                rw [hL]; have := bindN_le n (nthN ys k) (nthN gs k) m
                unfold never at this; unfold change; omega
              have Hrow := Lib.hid (show bindRows n m ys gs (k + 1) = bindRows n m ys gs k ++ [B] by rw [bindRows_succ, hB]; rfl)
              have Hsum := Lib.hid (show bindSum n m ys gs (k + 1) = bindSum n m ys gs k + L by rw [hL]; rfl)
              obtain ⟨sm, hsm⟩ : ∃ sm, sm = bindSum n m ys gs k := ⟨_, rfl⟩
              rw [← hsm] at hBs Hsum
              rw [← hsm]
              clear hB hL hsm HF
              have g0 := HM2.r.c1
              have g1 := HM2.r.f 1
              have hz : w9.heap.size < w11.heap.size := HM2.r.lt
              have HMr := Lib.hid HM2
              have HRow := Lib.hid HM2.row
              have hnr := HM2.far (Nat.le_refl _)
              have hn25 : k + 1 ≤ maxLen := by unfold maxLen; omega
              clear HM2
              go_wp2_with (at_builtin; refine Shut.out ?_)
              unfold Shut
              refine wpList_append_lies _ rfl _ _ 22 rfl (w9.heap.size + 1) 3 i0 _ 1 8 Try.underlying22 hi hz0 hz1 hz2 rfl (by omega) v (bindRows n m ys gs k).length ((bindRows n m ys gs k).map natV) rfl (HRow.out.alloc _) ⟨w11.heap.size, 0, none⟩ 1 1 [.int .i64 (B : Int)] rfl rfl (World.news_of_block (cs := #[.int .i64 (B : Int)]) (t := 3) (fr := (0, 0)) (heap_alloc_new w11 _)) (by simp [Value.oneCell']) (by omega) (by rw [Hlen.out]; exact hn25) (by rw [Hlen.out]; omega) (by simp; omega) (w11.heap.size + 1) (by simp) ?_
              intro g5 cap w5 hown1 hgrow hat hglt
              have hBA := (HMr.out.next ((Below.refl w11.heap.size w11).alloc (Nat.le_refl _) (.cells #[.int .i64 (B : Int)] 3))).grew (rows' := bindRows n m ys gs k ++ [B]) hgrow (by rw [List.length_append, List.length_singleton, List.map_append]; exact hown1)
              have hr5 : RBox w5 w9.heap.size n v := (hgrow.block _ (by simp; omega) hnr).trans ((Below.heap_alloc _ _ _ hz).trans HMr.out.r)
              have f5 := hr5.f 1
              have c5 := hr5.c1
              have HBA := Lib.hid hBA
              clear hBA hr5 hown1 hgrow hat
              go_wp2_with fail
              go_roundw
              case rel => exact ⟨k + 1, by omega, by go_num, .inl ⟨rfl, by omega, congrArg (Value.int .i64) (by rw [Hsum.out]; omega), _, by rw [Hrow.out]; exact HBA.out⟩⟩
              case measure => simp [intOf]; omega
            · obtain rfl : k = k0 := by omega
              obtain ⟨rfl, rfl, rfl⟩ := found_none HV.out.n0 hn HF.out HNev.out
              have hBs := bindSum_le n m ys gs k
              have hk6 : k ≤ 6 := by omega
              obtain ⟨sm, hsm⟩ : ∃ sm, sm = bindSum n m ys gs k := ⟨_, rfl⟩
              rw [← hsm] at hBs
              rw [← hsm]
              clear hsm HF
              have g0 := HM2.r.c1
              have g1 := HM2.r.f 1
              have hz : w9.heap.size < w11.heap.size := HM2.r.lt
              have HMr := Lib.hid HM2
              have HRow := Lib.hid HM2.row
              have hnr := HM2.far (Nat.le_refl _)
              have hn25 : k + 1 ≤ maxLen := by unfold maxLen; omega
              clear HM2
              go_wp2_with (at_builtin; refine Shut.out ?_)
              unfold Shut
              refine wpList_append_lies _ rfl _ _ 22 rfl (w9.heap.size + 1) 3 i0 _ 1 8 Try.underlying22 hi hz0 hz1 hz2 rfl (by omega) v (bindRows n m ys gs k).length ((bindRows n m ys gs k).map natV) rfl (HRow.out.alloc _) ⟨w11.heap.size, 0, none⟩ 1 1 [.int .i64 (0 : Int)] rfl rfl (World.news_of_block (cs := #[.int .i64 (0 : Int)]) (t := 3) (fr := (0, 0)) (heap_alloc_new w11 _)) (by simp [Value.oneCell']) (by omega) (by rw [Hlen.out]; exact hn25) (by rw [Hlen.out]; omega) (by simp; omega) (w11.heap.size + 1) (by simp) ?_
              intro g5 cap w5 hown1 hgrow hat hglt
              have hBA := (HMr.out.next ((Below.refl w11.heap.size w11).alloc (Nat.le_refl _) (.cells #[.int .i64 (0 : Int)] 3))).grew (rows' := bindRows n m ys gs k ++ [0]) hgrow (by rw [List.length_append, List.length_singleton, List.map_append]; exact hown1)
              have hr5 : RBox w5 w9.heap.size n v := (hgrow.block _ (by simp; omega) hnr).trans ((Below.heap_alloc _ _ _ hz).trans HMr.out.r)
              have f5 := hr5.f 1
              have c5 := hr5.c1
              have HBA := Lib.hid hBA
              clear hBA hr5 hown1 hgrow hat
              go_wp2_with fail
              go_roundw
              case rel => exact ⟨k + 1, by omega, by go_num, .inr ⟨rfl, ⟨_, rfl⟩, HBA.out.below⟩⟩
              case measure => simp [intOf]; omega
        · have S := HS9.out.next hBw
          have a11 := S.get (x := ⟨w5.heap.size, 0, none, 0, 0, []⟩) (by simp)
          have a := S.get (x := ⟨w.heap.size, (n : Int), some ⟨pb, po, none⟩, xs.length, c, xs⟩) (by simp)
          have HS := Lib.hid S
          clear S hBw
          by_cases hlt : k < xs.length
          · have z0 : decide ((k : Int) < (xs.length : Int)) = true := by simp; omega
            have z1 : decide (k < xs.length) = true := by simpa using hlt
            clear hlt
            go_wp2_with fail
            refine (none_any none 0 _).mono ?_
            rintro e w12 ⟨rfl, hb12⟩
            have S12 := HS.out.next hb12
            clear hb12 a11 a
            go_wp2_with fail
            refine (known_any w12).mono ?_
            rintro e w13 ⟨rfl, hb13⟩
            go_wp2_with fail
            go_ret
            exact ⟨rfl, (S12.next hb13).below⟩
          · have z0 : decide ((k : Int) < (xs.length : Int)) = false := by simp; omega
            have z1 : decide (k < xs.length) = false := by simpa using hlt
            clear hlt
            go_wp2_with fail
            refine (none_any none 0 _).mono ?_
            rintro e w12 ⟨rfl, hb12⟩
            have S12 := HS.out.next hb12
            clear hb12 a11 a
            go_wp2_with fail
            refine (known_any w12).mono ?_
            rintro e w13 ⟨rfl, hb13⟩
            go_wp2_with fail
            go_ret
            exact ⟨rfl, (S12.next hb13).below⟩
end Go.Proofs.Ytjobbleabepaiaa
