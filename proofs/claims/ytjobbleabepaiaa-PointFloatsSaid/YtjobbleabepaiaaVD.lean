/- Bind, where a pick cannot be bound. -/
import Derived.Test.YtjobbleabepaiaaVC
import Derived.Test.YtjobbleabepaiaaWD
import Derived.Test.YtjobbleabepaiaaWU
import Derived.Deep.AppendLies
import Derived.Maps.AppendAt
import Derived.Deep.RegionLaw
import Derived.KernelRfl
namespace Go.Proofs.Ytjobbleabepaiaa
open Go.RowKit

set_option maxRecDepth 100000 in
set_option maxHeartbeats 4000000 in
theorem Bind_nev (k0 n b off c fb fo fc m : Nat) (xs fs : List Nat) (w : World) (hv : VAt w b off c n xs) (hfl : fs.length = xs.length) (hfat : NatsAt w fb fo fs) (hfb : fb < w.heap.size) (hff : ∀ i, nthN fs i < 2 ^ n) (hm1 : 1 ≤ m) (hm : m ≤ 24)
    (hk0l : k0 < xs.length) (hall : ∀ i, i < k0 → bindN n (nthN xs i) (nthN fs i) m < never) (hnev : bindN n (nthN xs k0) (nthN fs k0) m = never) :
    Calls Try.prog 29 #[.agg #[.int .i64 (n : Int), .slice (some ⟨b, off, none⟩) xs.length c], .slice (some ⟨fb, fo, none⟩) xs.length fc, .int .i64 (m : Int)] w (ErrB 9 w) := by
  have Hc := fun o o2 => check_res n (some ⟨b, off, none⟩) c (ints xs) w o o2 (by rw [ints_len]; exact hv.reads) 0 hv.ok.check
  simp only [ints_len] at Hc
  have n0 := hv.ok.n0
  have n1 := hv.ok.n1
  have l0 := hv.ok.l0
  have l1 := hv.ok.l1
  have Har : ∀ W, Below w.heap.size w W → Calls Try.prog 65 #[.int .i64 (n : Int), .slice (some ⟨fb, fo, none⟩) xs.length fc] W fun e w' => e = .returned (.bool true) ∧ W = w' := fun W hB => by
    have h1 := areRows_any n fb fo fc (ints fs) W n1 (by rw [ints_len]; omega) ((hfat.below hB hfb).ints)
    rw [ints_len, hfl] at h1
    have h2 : rowsOk n (ints fs) = true := by
      unfold rowsOk ints
      rw [List.all_eq_true]
      intro x hx
      obtain ⟨y, hy, rfl⟩ := List.mem_map.1 hx
      obtain ⟨i, hi, rfl⟩ := List.mem_iff_getElem.1 hy
      have := hff i
      rw [nthN_get _ _ hi] at this
      have e : (2 : Int) ^ n = ((2 ^ n : Nat) : Int) := (Int.natCast_pow 2 n).symm
      rw [e]
      simp
      exact_mod_cast this
    rw [h2] at h1
    exact h1
  have Hib := fun W => isBound_any (m : Int) W
  have hbd : (decide (1 ≤ (m : Int)) && decide ((m : Int) ≤ 24)) = true := by simp; omega
  rw [hbd] at Hib
  have HV := Lib.hid hv
  have HA := Lib.hid hall
  have HF := Lib.hid hfat
  have Hfl := Lib.hid hfl
  have HFF := Lib.hid hff
  clear hv hall hfat hfl hff hbd
  go_enter Try.func29, Try.ntmps29
  go_wp2_with fail
  refine (Hc _ _).mono ?_
  rintro e w1 ⟨rfl, hb1⟩
  obtain ⟨q, hD, hB⟩ := res_facts hb1
  have d0 := hD.c0
  have d1 := hD.c1
  have k0 := q.c0
  have k2 := q.f 0
  have Hq := Lib.hid q
  have Hd := Lib.hid hD
  have Hb := Lib.hid hB
  clear hb1 q hB hD
  go_wp2_with fail
  refine (Har _ Hb.out).mono ?_
  rintro e w2 ⟨rfl, rfl⟩
  go_wp2_with fail
  refine (Hib _).mono ?_
  rintro e w2 ⟨rfl, rfl⟩
  go_wp2_with fail
  have hS : BindAt w n b off c xs (bindRows n m xs fs 0) (.slice none 0 0) (w1.setCell ⟨w.heap.size + 1, 0, none⟩ (.int .i64 (n : Int))) := by
    have e : ∀ j, (w1.setCell ⟨w.heap.size + 1, 0, none⟩ (.int .i64 (n : Int))).cell? ⟨w.heap.size, j, none⟩ = w1.cell? ⟨w.heap.size, j, none⟩ := fun j => World.cell?_of_block (w := w1) (Below.heap_setCell _ _ _ _ (by simp))
    exact ⟨⟨(e 0).trans d0, (e 1).trans d1⟩, RBox.of_res Hq.out n, World.ownsRow_nil _ _ _ _, Hb.out.setCell (by simp) _⟩
  obtain ⟨W2, hW2⟩ : ∃ W2, W2 = w1.setCell ⟨w.heap.size + 1, 0, none⟩ (.int .i64 (n : Int)) := ⟨_, rfl⟩
  rw [← hW2] at hS ⊢
  have HS := Lib.hid hS
  clear hW2 hS d0 d1 k0 k2 Hq Hd Hb
  go_loopw [7, 42] (fun cv i wr => ∃ k : Nat, k ≤ k0 ∧ i = .int .i64 k ∧ cv = .int .i64 (bindSum n m xs fs k : Int) ∧ ∃ v, BindAt w n b off c xs (bindRows n m xs fs k) v wr) (fun _ i _ => xs.length - (intOf i).toNat)
  case atStart => exact ⟨0, Nat.zero_le _, rfl, rfl, _, HS.out⟩
  case round =>
    obtain ⟨k, hk, rfl, rfl, v, hT⟩ := hrel
    have d0 := hT.d.c0
    have d1 := hT.d.c1
    have HT := Lib.hid hT
    clear hT
    have hkx : k < xs.length := by omega
    have hf := (HF.out.below HT.out.below hfb) k (by have := Hfl.out; omega)
    have hk0 : (0 : Int) ≤ (k : Int) := by omega
    have hk1 : (k : Int) < (xs.length : Int) := by omega
    have Hpk := fun W (h : Below w.heap.size w W) => pick_any n b off c xs k W (HV.out.below h).lt (by omega) (HV.out.below h).at' hkx
    have hfk : nthN fs k < 16777216 := Nat.lt_of_lt_of_le (HFF.out k) (Nat.le_trans (Nat.pow_le_pow_right (by decide) n1) (by decide))
    have Hbn := fun W => bind_any n (nthN xs k) (nthN fs k) m W n0 n1 hm1 hm (HV.out.ok.lt' k) hfk
    unfold bnd at Hbn
    have hlf : fb < w.heap.size := hfb
    have HK : Hid (∀ W, BindAt w n b off c xs (bindRows n m xs fs k) v W → W.cell? ⟨w.heap.size, 0, none⟩ = some (.int .i64 (n : Int)) ∧ W.cell? ⟨w.heap.size, 1, none⟩ = some (.slice (some ⟨b, off, none⟩) xs.length c) ∧ W.cell? ⟨fb, fo + k, none⟩ = some (.int .i64 (nthN fs k : Int)) ∧ BindAt w n b off c xs (bindRows n m xs fs k) v W) :=
      Lib.hid (fun W h => ⟨h.d.c0, h.d.c1, (HF.out.below h.below hfb) k (by have := Hfl.out; omega), h⟩)
    have HTd := Lib.hid HT.out.drew
    clear hfk
    go_wp2_with fail
    go_region_held3 (fun w' => w'.cell? ⟨w.heap.size, 0, none⟩ = some (.int .i64 (n : Int)) ∧ w'.cell? ⟨w.heap.size, 1, none⟩ = some (.slice (some ⟨b, off, none⟩) xs.length c) ∧ w'.cell? ⟨fb, fo + k, none⟩ = some (.int .i64 (nthN fs k : Int)) ∧ BindAt w n b off c xs (bindRows n m xs fs k) v w')
      (first | exact HK.out _ HTd.out | (refine HK.out _ (BindAt.next ?_ (by assumption)); go_split_ands; assumption))
      (first | (go_at_call 71; (with_reducible refine (Hpk _ ?_).mono ?_); rotate_left 1; rintro e w3 ⟨rfl, hb3⟩; rotate_left 1; (first | exact HTd.out.below | (go_split_ands; exact BindAt.below (by assumption)))) | (go_at_call 72; (with_reducible refine (Hbn _).mono ?_); rintro e w4 ⟨rfl, hb4⟩))
    have hT4 : BindAt w n b off c xs (bindRows n m xs fs k) v w4 := by go_split_ands; assumption
    obtain ⟨C, hC⟩ : ∃ C, C = bindN n (nthN xs k) (nthN fs k) m := ⟨_, rfl⟩
    rw [← hC]
    by_cases hlt : k < k0
    · have hCn : (C : Int) < 419430400 := by have := HA.out k hlt; rw [← hC] at this; unfold never at this; omega
      have hCge : decide ((419430400 : Int) ≤ (C : Int)) = false := by simp; omega
      have hCb : C < 9223372036854775808 := by omega
      have HC' := Lib.hid hC
      have HT4 := Lib.hid hT4
      have Hcr := fun W => choiceRow_any C W hCb
      have Hcc := fun W => choiceChanges_any C W hCb
      have f0 := hT4.r.c1
      have f1 := hT4.r.f 1
      have hzz : w.heap.size + 1 < w4.heap.size := hT4.r.lt
      obtain ⟨i0, hi, hz0, hz1, hz2⟩ := info_parts Try.info3
      have hrl : (bindRows n m xs fs k).length = k := bindRows_len n m xs fs k
      have HRow := Lib.hid hT4.row
      have Hrl := Lib.hid hrl
      clear hC hT4 hf d0 d1 hrl hb3 hb4
      have hsz4 : w.heap.size + 1 + 1 ≤ w4.heap.size := hzz
      have hnr : some (w.heap.size + 1) ≠ v.ownBlock := HT4.out.r.not_row (by decide) HRow.out
      have hn25 : k + 1 ≤ maxLen := by unfold maxLen; omega
      have hCmod : C % 16777216 < 16777216 := Nat.mod_lt _ (by decide)
      go_wp2_with fail
      go_region_law
        (first
          | (go_simp; go_at_call 73; (with_reducible refine (Hcr _).mono ?_); rintro e w5 ⟨rfl, rfl⟩)
          | ((refine step_append_lies _ (by rfl) _ _ _ (by rfl) (w.heap.size + 1 + 1) 3 i0 _ 1 8 Try.underlying22 hi hz0 hz1 hz2 rfl (by omega) v (bindRows n m xs fs k).length ((bindRows n m xs fs k).map natV) (by rfl) ((HRow.out.alloc _).drew)
                  ⟨w4.heap.size, 0, none⟩ 1 1 [.int .i64 ((C % 16777216 : Nat) : Int)] (by rfl) (by rfl) (World.news_of_block (cs := #[.int .i64 ((C % 16777216 : Nat) : Int)]) (t := 3) (fr := (0, 0)) (heap_alloc_new w4 _)) (by simp [Value.oneCell'])
                  (by omega) (by rw [Hrl.out]; exact hn25) (by rw [Hrl.out]; omega) (by simp; omega) (w4.heap.size + 1) (by simp) ?_; intro g cap w5 hown1 hgrow hat hglt)
             have hBA := (HT4.out.next (((Below.refl w4.heap.size w4).alloc (Nat.le_refl _) (.cells #[.int .i64 ((C % 16777216 : Nat) : Int)] 3)).drew)).grew (rows' := bindRows n m xs fs k ++ [C % 16777216]) hgrow (by rw [List.length_append, List.length_singleton, List.map_append]; exact hown1)
             have hr5 : RBox w5 (w.heap.size + 1) n v := (hgrow.block _ (by simp; omega) hnr).trans ((Below.heap_alloc _ _ _ hzz).trans HT4.out.r)
             have f5 := hr5.f 1
             have c5 := hr5.c1
             have HBA := Lib.hid hBA
             clear hBA hr5 hown1 hgrow hat))
      all_goals
        (obtain ⟨W5, hW5⟩ : ∃ W5, W5 = w5.setCell ⟨w.heap.size + 1, 1, none⟩ (.slice (some ⟨g, 0, none⟩) ((bindRows n m xs fs k).length + 1) cap) := ⟨_, rfl⟩
         rw [← hW5] at HBA ⊢
         clear hW5 f5 c5
         have hS1 := bindSum_le n m xs fs k
         have hS2 : k * 25 ≤ 1500 := by omega
         have hS3 : C / 16777216 ≤ 25 := by omega
         go_wp2_with fail
         refine (Hcc _).mono ?_
         rintro e w6 ⟨rfl, rfl⟩
         go_wp2_with fail)
      all_goals
        (refine ⟨⟨k + 1, by omega, by go_num, ?_, _, by rw [bindRows_succ, ← HC'.out]; exact HBA.out⟩, ?_⟩
         · exact congrArg (Value.int .i64) (bindSum_cast n m xs fs k C HC'.out)
         · simp [intOf]; omega)
    · obtain rfl : k = k0 := by omega
      rw [hnev] at hC
      unfold never at hC
      subst hC
      have k0' := hT4.r.c0
      have k1' := hT4.r.c1
      have f0 := hT4.r.f 0
      have f1 := hT4.r.f 1
      have HT4 := Lib.hid hT4
      clear hT4 hf d0 d1 hb3 hb4
      go_wp2_with fail
      refine bodyPost_ret (v := .tuple #[.agg #[.int .i64 0, .slice none 0 0], .int .i64 0, .int .i64 9]) ?_ rfl ⟨rfl, ?_⟩
      · simp [results, Try.results29, go_sem, k0', k1']
      · exact (HT4.out.below.setCell (by simp) _).setCell (by simp) _
end Go.Proofs.Ytjobbleabepaiaa
