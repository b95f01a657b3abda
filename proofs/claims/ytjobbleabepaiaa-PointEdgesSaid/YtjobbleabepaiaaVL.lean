/- Proof, of designs that are valid. -/
import Derived.Test.YtjobbleabepaiaaVI
import Derived.Deep.AppendLies
import Derived.Maps.AppendAt
namespace Go.Proofs.Ytjobbleabepaiaa
open Go.RowKit

theorem win_div (l n m : Nat) : (min (l : Int) (n : Int)) / ((m : Int) + 1) = ((min l n / (m + 1) : Nat) : Int) := by
  rw [show (min (l : Int) (n : Int)) = ((min l n : Nat) : Int) by omega, show (m : Int) + 1 = ((m + 1 : Nat) : Int) by omega]
  exact (Int.natCast_ediv _ _).symm
theorem win_rem (h k m n : Nat) : ((h : Int) + (k : Int) * ((m : Int) + 1)) % (n : Int) = (((h + k * (m + 1)) % n : Nat) : Int) := by
  rw [show (h : Int) + (k : Int) * ((m : Int) + 1) = ((h + k * (m + 1) : Nat) : Int) by rw [Int.natCast_add, Int.natCast_mul]; rfl]
  exact (Int.natCast_emod _ _).symm

set_option maxRecDepth 100000 in
set_option maxHeartbeats 4000000 in
theorem Proof_ok (n b off c m : Nat) (xs : List Nat) (w : World) (hv : VAt w b off c n xs) (hm1 : 1 ≤ m) (hm : m ≤ 24) :
    Calls Try.prog 33 #[.agg #[.int .i64 (n : Int), .slice (some ⟨b, off, none⟩) xs.length c], .int .i64 (m : Int)] w
      fun e w' => ∃ v, e = .returned (.tuple #[v, .int .i64 0]) ∧ w'.ownsRow w.heap.size 87 4 v (proofN n m xs).length (flCells (proofN n m xs)) ∧ Below w.heap.size w w' := by
  have Hc := fun o => check_box n (some ⟨b, off, none⟩) c (ints xs) w o (by rw [ints_len]; exact hv.reads) 0 hv.ok.check
  rw [ints_len] at Hc
  have n0 := hv.ok.n0
  have n1 := hv.ok.n1
  have l1 := hv.ok.l1
  have Hib := fun W => isBound_any (m : Int) W
  have hbd : (decide (1 ≤ (m : Int)) && decide ((m : Int) ≤ 24)) = true := by simp; omega
  rw [hbd] at Hib
  have HV := Lib.hid hv
  obtain ⟨fs, hfs⟩ : ∃ fs, upTo (flW n xs m) xs.length = fs := ⟨_, rfl⟩
  have hfn : fs.length ≤ 3600 := by rw [← hfs]; exact flW_all_len n xs m n0 n1 l1
  have hfm : ∀ i, i < fs.length → (nthF fs i).hook < n ∧ (nthF fs i).length ≤ 1000 := fun i hi => by
    have := nthF_mem fs i hi
    obtain ⟨x, hx⟩ : ∃ x, nthF fs i = x := ⟨_, rfl⟩
    rw [hx, ← hfs] at this
    rw [hx]
    exact (flW_mem n0 n1 this).2
  have hpf : proofN n m xs = winsTo n m fs fs.length := by unfold proofN; rw [hfs]
  rw [hpf]
  have HF : Hid (∀ (bb : Nat) (W : World), VAt W b off c n xs → W.cell? ⟨bb, 0, none⟩ = some (.int .i64 (m : Int)) → Calls Try.prog 67 #[.agg #[.int .i64 (n : Int), .slice (some ⟨b, off, none⟩) xs.length c], .int .i64 1, .func (.func 101) #[] #[.pointer (some ⟨bb, 0, none⟩)]] W
      fun e w' => ∃ v, e = .returned v ∧ w'.ownsRow W.heap.size 87 4 v fs.length (flCells fs) ∧ Below W.heap.size W w') := Lib.hid (by
    intro bb W hW hb
    have := floatsW_any n b off c bb m xs W ⟨hW.ok.n0, hW.ok.n1⟩ hW.ok.l1 hW.lt hW.at' hW.ok.lt' hb
    rw [hfs] at this
    exact this)
  have HM := Lib.hid hfm
  clear hv hfs hfm hpf hbd
  go_enter Try.func33, Try.ntmps33
  go_wp2_with (first | (go_at_call 66; refine (Hc _).mono ?_; rintro e w' ⟨rfl, hb1⟩) | (go_at_call 70; refine (Hib _).mono ?_; rintro e w2 ⟨rfl, rfl⟩))
  have hd0 : w'.cell? ⟨w.heap.size, 0, none⟩ = some (.int .i64 (n : Int)) := (hb1.cell (p := ⟨w.heap.size, 0, none⟩) (by simp)).trans (by simp)
  have hd1 : w'.cell? ⟨w.heap.size, 1, none⟩ = some (.slice (some ⟨b, off, none⟩) xs.length c) := (hb1.cell (p := ⟨w.heap.size, 1, none⟩) (by simp)).trans (by simp)
  have hz : w.heap.size < w'.heap.size := by have := hb1.size; simp at this; omega
  have ha : Below w'.heap.size w' (w'.alloc (.cells #[.int .i64 (m : Int)] 3)) := (Below.refl _ _).alloc (Nat.le_refl _) _
  have hd0a := (ha.cell (p := ⟨w.heap.size, 0, none⟩) hz).trans hd0
  have hd1a := (ha.cell (p := ⟨w.heap.size, 1, none⟩) hz).trans hd1
  have hBa : Below w.heap.size w (w'.alloc (.cells #[.int .i64 (m : Int)] 3)) := (((Below.refl w.heap.size w).alloc (Nat.le_refl _) _).trans (hb1.mono (by omega))).trans (ha.mono (by omega))
  have HVa : Hid (VAt (w'.alloc (.cells #[.int .i64 (m : Int)] 3)).drew b off c n xs) := Lib.hid (HV.out.below hBa.drew)
  go_region_with (first | (go_at_call 68; refine (longerThan_any _ _).mono ?_; rintro e w2 ⟨rfl, rfl⟩) | (go_at_call 67; refine (HF.out w'.heap.size _ HVa.out (by simp)).mono ?_; rintro e w3 ⟨v, rfl, hrow, hb3⟩; obtain ⟨p, cap, rfl, hFl⟩ := Fls.of_row hrow; have HFl := Lib.hid hFl; have HB3 := Lib.hid hb3; clear hrow hFl hb3))
  all_goals go_wp2_with fail
  all_goals
    (have hP0 : PAt w n b off c xs p fs w3.heap.size (.slice none 0 0) (winsTo n m fs 0) w3 := by
       refine ⟨⟨(HB3.out.cell (p := ⟨w.heap.size, 0, none⟩) (by simp; omega)).trans hd0a, (HB3.out.cell (p := ⟨w.heap.size, 1, none⟩) (by simp; omega)).trans hd1a⟩, fun hp => ?_, World.ownsRow_nil _ _ _ _, hBa.drew.trans (HB3.out.mono hBa.drew.size), ?_, Nat.le_refl _⟩
       · obtain ⟨g, e, h⟩ := HFl.out hp
         exact ⟨g, e, h.lt, h⟩
       · have := HB3.out.size
         simp at this
         omega
     have HP0 := Lib.hid hP0
     obtain ⟨B, hB⟩ : ∃ B, w3.heap.size = B := ⟨_, rfl⟩
     rw [hB] at HP0
     clear hP0 hd0 hd1 hd0a hd1a hBa HVa ha hB
     simp only [List.getElem_toArray, List.getElem_cons_succ, List.getElem_cons_zero, Act.put, List.setIfInBounds_toArray, List.set_cons_succ, List.set_cons_zero]
     go_loopw [7, 30] (fun v i wr => ∃ k : Nat, k ≤ fs.length ∧ i = .int .i64 k ∧ PAt w n b off c xs p fs B v (winsTo n m fs k) wr) (fun _ i _ => fs.length - (intOf i).toNat)
     case atStart => exact ⟨0, Nat.zero_le _, rfl, HP0.out⟩
     case round =>
       obtain ⟨k, hk, rfl, hT⟩ := hrel
       clear HP0
       by_cases hlt : k < fs.length
       · obtain ⟨g, rfl, hgB, hFA⟩ := hT.fl (by omega)
         obtain ⟨f, hf⟩ : ∃ f, f = nthF fs k := ⟨_, rfl⟩
         have c0 := hFA.c0 k hlt
         have c1 := hFA.c1 k hlt
         have c2 := hFA.c2 k hlt
         have c3 := hFA.c3 k hlt
         have hfk := HM.out k hlt
         rw [← hf] at c0 c1 c2 c3 hfk
         obtain ⟨hfh, hfl⟩ := hfk
         have hk0 : (0 : Int) ≤ (k : Int) := by omega
         have hk1 : (k : Int) < (fs.length : Int) := by omega
         have hws : (winsTo n m fs k).length ≤ k * 24 := winsTo_len n m fs n1 k
         obtain ⟨ws, hwe⟩ : ∃ ws, winsTo n m fs k = ws := ⟨_, rfl⟩
         rw [hwe] at hT hws
         have HWE := Lib.hid hwe
         have HF2 := Lib.hid hf
         have d0 := hT.d.c0
         have d1 := hT.d.c1
         have hq := win_div f.length n m
         obtain ⟨q, hqe⟩ : ∃ q, min f.length n / (m + 1) = q := ⟨_, rfl⟩
         rw [hqe] at hq
         have hq24 : q * (m + 1) ≤ 24 := by
           have h1 := Nat.div_mul_le_self (min f.length n) (m + 1)
           rw [hqe] at h1
           omega
         have hqq : q ≤ 24 := by
           have : q * 1 ≤ q * (m + 1) := Nat.mul_le_mul_left q (by omega)
           omega
         have HT := Lib.hid hT
         have HQE := Lib.hid hqe
         have hzr : w.heap.size < wr.heap.size := hT.d.lt
         clear hT hwe hf hFA hqe
         obtain ⟨M, hM, hMM, hMq⟩ : ∃ M : Int, (min (f.length : Int) (n : Int)) = M ∧ ((f.length ≤ n ∧ M = f.length) ∨ (n < f.length ∧ M = n)) ∧ M / ((m : Int) + 1) = q := ⟨_, rfl, by omega, hq⟩
         clear hM hq
         rcases hMM with ⟨hle, rfl⟩ | ⟨hle, rfl⟩
         all_goals go_wp2_with fail
         all_goals
           (have hT0 := HT.out.next (((Below.refl wr.heap.size wr).alloc (Nat.le_refl _) (.cells #[.int .i64 (f.pick : Int), .int .i64 (f.hook : Int), .int .i64 (f.length : Int), .bool f.lifted] 87)))
            have hX0 := FBox.new wr f
            have hne0 : u7.ownBlock ≠ some wr.heap.size := fun h => by
              have := (HT.out.row.lt _ h).2
              omega
            have HT0 := Lib.hid hT0
            have HX0 := Lib.hid hX0
            clear hT0 hX0 c0 c1 c2 c3 d0 d1 hle hMq
            obtain ⟨E, hE⟩ : ∃ E, wr.heap.size = E := ⟨_, rfl⟩
            rw [hE] at HX0 hne0
            obtain ⟨W0, hW0⟩ : ∃ W0, (wr.alloc (.cells #[.int .i64 (f.pick : Int), .int .i64 (f.hook : Int), .int .i64 (f.length : Int), .bool f.lifted] 87)) = W0 := ⟨_, rfl⟩
            rw [hW0] at HT0 HX0 ⊢
            rw [hE]
            clear hW0 hE hzr HT
            go_loopw [7, 41] (fun v a wi => ∃ l : Nat, l ≤ q ∧ a = .int .i64 l ∧ PAt w n b off c xs (some ⟨g, 0, none⟩) fs B v (ws ++ winTo n m f l) wi ∧ FBox wi E f ∧ v.ownBlock ≠ some E) (fun _ a _ => q - (intOf a).toNat)
            case atStart => exact ⟨0, Nat.zero_le _, rfl, by simpa [winTo] using HT0.out, HX0.out, hne0⟩
            case round =>
              obtain ⟨l, hl, rfl, hS, hX, hne⟩ := hrel
              clear HT0 HX0 hne0
              by_cases hll : l < q
              · have e0 := hS.d.c0
                have x0 := hX.c0
                have x1 := hX.c1
                have x3 := hX.c3
                have hl0 : (0 : Int) ≤ (l : Int) := by omega
                have hm0 : (0 : Int) ≤ (l : Int) * ((m : Int) + 1) := by
                  rw [show (l : Int) * ((m : Int) + 1) = ((l * (m + 1) : Nat) : Int) by rw [Int.natCast_mul]; rfl]; omega
                have hm2 : (l : Int) * ((m : Int) + 1) ≤ 24 := by
                  rw [show (l : Int) * ((m : Int) + 1) = ((l * (m + 1) : Nat) : Int) by rw [Int.natCast_mul]; rfl]
                  have := Nat.mul_le_mul_right (m + 1) hl
                  omega
                have hn0 : ¬ (n : Int) = 0 := by omega
                have hrem := win_rem f.hook l m n
                obtain ⟨r, hr⟩ : ∃ r, (f.hook + l * (m + 1)) % n = r := ⟨_, rfl⟩
                rw [hr] at hrem
                have hlen := winTo_succ n m f l
                rw [hr] at hlen
                have hsl : (winTo n m f l).length = l := by simp [winTo]
                obtain ⟨us, hus⟩ : ∃ us, ws ++ winTo n m f l = us := ⟨_, rfl⟩
                have hul : us.length ≤ 90000 := by rw [← hus, List.length_append, hsl]; omega
                rw [hus] at hS
                have HU : Hid (ws ++ winTo n m f (l + 1) = us ++ [⟨f.pick, r, m + 1, f.lifted⟩]) := Lib.hid (by rw [hlen, ← List.append_assoc, hus])
                obtain ⟨i0, hi, hz0, hz1, hz2⟩ := info_parts Try.info87
                have HS := Lib.hid hS
                have HX := Lib.hid hX
                have Hne := Lib.hid hne
                clear hS hX hne hr hlen hsl hus
                go_wp2_with (at_builtin; refine Shut.out ?_)
                unfold Shut
                have hAl := (Below.refl wr.heap.size wr).alloc (Nat.le_refl _) (.cells #[.int .i64 (f.pick : Int), .int .i64 (r : Int), .int .i64 ((m : Int) + 1), .bool f.lifted] 87)
                have HAl := Lib.hid hAl
                clear hAl
                refine wpList_append_lies _ rfl _ _ 31 rfl B 87 i0 (.agg #[.int .i64 0, .int .i64 0, .int .i64 0, .bool false]) 4 32 Try.underlying31 hi hz0 hz1 hz2 rfl (by decide) u7 us.length (flCells us) rfl (HS.out.next HAl.out).row ⟨wr.heap.size, 0, none⟩ 1 1 [.int .i64 (f.pick : Int), .int .i64 (r : Int), .int .i64 ((m : Int) + 1), .bool f.lifted] rfl rfl ?c1 ?c2 (by decide) ?c3 ?c4 ?c5 (wr.heap.size + 1) ?c6 ?_
                case c1 => exact World.news_of_block (cs := #[.int .i64 (f.pick : Int), .int .i64 (r : Int), .int .i64 ((m : Int) + 1), .bool f.lifted]) (t := 87) (fr := (0, 0)) (heap_alloc_new wr _)
                case c2 => simp [Value.oneCell']
                case c3 => unfold maxLen; omega
                case c4 => omega
                case c5 => have := HS.out.hi; simp; omega
                case c6 => simp
                intro g2 cap2 w5 hown1 hgrow hat hglt
                have hS5 : PAt w n b off c xs (some ⟨g, 0, none⟩) fs B (.slice (some ⟨g2, 0, none⟩) (us.length + 1) cap2) (us ++ [⟨f.pick, r, m + 1, f.lifted⟩]) w5 := by
                  refine (HS.out.next HAl.out).grew hgrow ?_
                  rw [List.length_append, List.length_singleton, flCells_snoc]
                  exact hown1
                have hX5 : FBox w5 E f := (hgrow.block E (by have := HX.out.lt; simp; omega) (Ne.symm Hne.out)).trans ((Below.heap_alloc _ _ _ HX.out.lt).trans HX.out)
                have hne5 : (Value.slice (some ⟨g2, 0, none⟩) (us.length + 1) cap2).ownBlock ≠ some E := by
                  rcases hat with h | h
                  · have : (Value.slice (some ⟨g2, 0, none⟩) (us.length + 1) cap2).ownBlock = u7.ownBlock := by simpa [Value.ownBlock] using h.symm
                    rw [this]; exact Hne.out
                  · have := HX.out.lt; simp [Value.ownBlock]; omega
                have HS5 := Lib.hid hS5
                have HX5 := Lib.hid hX5
                have Hne5 := Lib.hid hne5
                clear hS5 hX5 hne5 hown1 hgrow hat
                go_wp2
                go_roundw
                case rel => exact ⟨l + 1, by omega, by go_num, by rw [HU.out]; exact HS5.out, HX5.out, Hne5.out⟩
                case measure => simp [intOf]; omega
              · obtain rfl : l = q := by omega
                have hWW : ws ++ winTo n m f l = winsTo n m fs (k + 1) := by
                  rw [winsTo_succ, HWE.out, ← HF2.out, winOf, HQE.out]
                rw [hWW] at hS
                have HS := Lib.hid hS
                clear hS hX hne hWW
                go_wp2
                go_roundw
                case rel => exact ⟨k + 1, by omega, by go_num, HS.out⟩
                case measure => simp [intOf]; omega)
       · obtain rfl : k = fs.length := by omega
         have HT := Lib.hid hT
         clear hT
         go_wp2
         go_ret2
         exact ⟨_, rfl, ownsRow_base HT.out.row (Nat.le_of_lt HT.out.lo), HT.out.below⟩)
end Go.Proofs.Ytjobbleabepaiaa
