/- Mirror, Flip, Back of the reference. -/
import Derived.Test.YtjobbleabepaiaaXI
import Derived.Test.YtjobbleabepaiaaVH
namespace Go.Proofs.Ytjobbleabepaiaa
open Go.RowKit

/-- the mirror, up to some pick -/
def mF (xs : List Nat) (n k i j : Nat) : Bool := if i < k then bitN (nthN xs i) (n - 1 - j) else bitN (nthN xs i) j
theorem mF_step (xs : List Nat) (n k : Nat) : upd (mF xs n k) k (fun j => mF xs n k k (n - 1 - j)) = mF xs n (k + 1) := by
  funext i j
  by_cases e : i = k
  · subst e; rw [upd_at]; simp [mF]
  · rw [upd_ne _ _ _ _ e]
    unfold mF
    by_cases h : i < k
    · rw [if_pos h, if_pos (by omega)]
    · rw [if_neg h, if_neg (by omega)]
theorem upd_same {α : Type} (x : α) (k : Nat) : upd (fun _ => x) k x = fun _ => x := by
  funext j; unfold upd; split <;> rfl
theorem painted_congr {f g : Nat → Nat → Bool} {N m : Nat} (h : ∀ i, i < N → ∀ j, j < m → f i j = g i j) : painted f N m = painted g N m := by
  have hr : ∀ i, i < N → ∀ k, k ≤ m → rowTo (f i) k = rowTo (g i) k := fun i hi k => by
    induction k with
    | zero => intro _; rfl
    | succ k ih => intro hk; simp only [rowTo, ih (by omega), h i hi k (by omega)]
  unfold painted
  refine List.map_congr_left fun i hi => ?_
  exact hr i (by simpa using hi) m (Nat.le_refl _)
theorem below_lt {B : Nat} {W W' : World} (h : Below B W W') {k : Nat} (hk : k < W.heap.size) : k < W'.heap.size := Nat.lt_of_lt_of_le hk h.size

set_option maxRecDepth 100000 in
set_option maxHeartbeats 4000000 in
theorem refMirror_any (n b off c : Nat) (xs : List Nat) (w : World) (hv : VAt w b off c n xs) :
    Calls Try.prog 40 #[.agg #[.int .i64 (n : Int), .slice (some ⟨b, off, none⟩) xs.length c]] w (CopyN (n : Int) (ints (painted (miG xs n) xs.length n)) w) := by
  have l1 := hv.ok.l1
  have n1 := hv.ok.n1
  have HV := Lib.hid hv
  clear hv
  go_enter Try.func40, Try.ntmps40
  go_wp2_with fail
  obtain ⟨W1, hW1e⟩ : ∃ W1, W1 = (w.alloc (.cells #[.int .i64 (n : Int), .slice (some ⟨b, off, none⟩) xs.length c] 24)).alloc (.cells #[.int .i64 0, .slice none 0 0] 24) := ⟨_, rfl⟩
  have hB1 : Below w.heap.size w W1 := by rw [hW1e]; exact below2 w _ _
  have hQ : ResBox W1 (w.heap.size + 1) := by
    rw [hW1e]
    have := ResBox.new (w.alloc (.cells #[.int .i64 (n : Int), .slice (some ⟨b, off, none⟩) xs.length c] 24))
    rwa [World.size_alloc] at this
  have hs1 : W1.heap.size = w.heap.size + 2 := by rw [hW1e]; simp
  rw [← hW1e]
  have HB1 := Lib.hid hB1
  have HQ := Lib.hid hQ
  have Hs1 := Lib.hid hs1
  clear hW1e hB1 hQ hs1
  have hV1 := HV.out.below HB1.out
  have HV1 := Lib.hid hV1
  clear hV1
  refine (Table_own n b off c xs W1 (by omega) (by omega) HV1.out.at' HV1.out.lt HV1.out.ok.lt').mono ?_
  rintro e w2 ⟨g, gc, bs, cs, rfl, hT, hb2⟩
  have HT := Lib.hid hT
  have HB2 := Lib.hid hb2
  clear hT hb2
  go_wp2_with fail
  go_loopw [4] (fun i wr => ∃ k : Nat, k ≤ xs.length ∧ i = .int .i64 k ∧ ∃ bs cs, OwnTab wr W1.heap.size g xs.length (fun _ => n) bs cs (mF xs n k) ∧ Below W1.heap.size W1 wr) (fun i _ => xs.length - (intOf i).toNat)
  case atStart => exact ⟨0, Nat.zero_le _, rfl, bs, cs, HT.out, HB2.out⟩
  case round =>
    obtain ⟨k, hk, rfl, bs, cs, hT, hB⟩ := hrel
    have HT := Lib.hid hT
    have HB := Lib.hid hB
    clear hT hB
    by_cases hlt : k < xs.length
    · have hc := HT.out.cell k hlt
      have hk0 : (0 : Int) ≤ (k : Int) := by omega
      have hk1 : (k : Int) < (xs.length : Int) := by omega
      go_wp2_with fail
      refine (Reverse_any (bs k) (cs k) n (mF xs n k k) wr (by omega) (HT.out.bools k hlt)).mono ?_
      rintro e w3 ⟨b3, c3, rfl, ho3, hb3⟩
      have hT3 := HT.out.next hb3
      have hc3 := hT3.cell k hlt
      have hf3 := hT3.frozen k
      have hset := hT3.set k n b3 c3 (fun j => mF xs n k k (n - 1 - j)) hlt (own_base ho3 (Nat.le_trans (Nat.le_refl _) HB.out.size)) (fun j hj _ e => by have h1 := (HT.out.rlt j hj).2; have h2 := (ho3.lt b3 rfl).1; omega)
      rw [mF_step, upd_same] at hset
      have HSet := Lib.hid hset
      have hgB := hT3.gB
      have HB3 := Lib.hid ((HB.out.trans (hb3.mono HB.out.size)).setCell (p := ⟨g, k, none⟩) hgB (.slice (some ⟨b3, 0, none⟩) n c3))
      clear hset hT3 hb3 ho3
      go_wp2_with fail
      go_roundw
      case rel => exact ⟨k + 1, by omega, by go_num, _, _, HSet.out, HB3.out⟩
      case measure => simp [intOf]; omega
    · obtain rfl : k = xs.length := by omega
      have HD := Lib.hid (Design_any g xs.length n gc (mF xs n xs.length) wr HV1.out.ok.l0 (by omega) n1 (HT.out.tab n (fun _ _ => rfl)))
      have HP := Lib.hid (show painted (mF xs n xs.length) xs.length n = painted (miG xs n) xs.length n from painted_congr fun i hi j hj => by simp [mF, miG, hi])
      go_wp2_with fail
      refine HD.out.mono ?_
      rintro e w4 ⟨p, cc, rfl, hR4, hp4, hb4⟩
      have HP4 := Lib.hid hp4
      have HB4 := Lib.hid (HB.out.trans (hb4.mono HB.out.size))
      have q := HQ.out.below HB4.out (by rw [Hs1.out]; omega)
      have k0 := q.c0
      have k1 := q.c1
      have k2 := q.f 0
      have k3 := q.f 1
      have HR4 := Lib.hid hR4
      clear hb4 q hR4 hp4
      go_wp2_with fail
      have hs : w.heap.size + 2 ≤ wr.heap.size := by have := HB.out.size; have := Hs1.out; omega
      refine bodyPost_ret (v := .agg #[.int .i64 (n : Int), .slice p (ints (painted (mF xs n xs.length) xs.length n)).length cc]) ?_ rfl ⟨p, cc, by rw [HP.out], ?_, fun a e => by have := HP4.out a e; omega, ((HB1.out.trans (HB4.out.mono HB1.out.size)).setCell (by simp) _).setCell (by simp) _⟩
      · simp [results, Try.results40, go_sem, k0, k1]
      · rw [← HP.out]
        exact (HR4.out.set _ _ (fun a e => by have := HP4.out a e; simp; omega)).set _ _ (fun a e => by have := HP4.out a e; simp; omega)

theorem rowTo_bits (x n : Nat) (hx : x < 2 ^ n) : rowTo (bitN x) n = x := by
  apply Nat.eq_of_testBit_eq
  intro j
  rw [rowTo_bit]
  by_cases hj : j < n
  · simp [hj, bitN]
  · rw [Nat.testBit_lt_two_pow (Nat.lt_of_lt_of_le hx (Nat.pow_le_pow_right (by decide) (by omega)))]
    simp [hj]
theorem rowTo_not (x n : Nat) (hx : x < 2 ^ n) : rowTo (fun j => !bitN x j) n = 2 ^ n - 1 - x := by
  apply Nat.eq_of_testBit_eq
  intro j
  rw [rowTo_bit, show 2 ^ n - 1 - x = 2 ^ n - (x + 1) by omega, Nat.testBit_two_pow_sub_succ hx]
  rfl
theorem flG_row {n : Nat} {xs : List Nat} (hv : Valid n xs) (k : Nat) : rowTo (flG xs k) n = nthN xs (xs.length - 1 - k) := rowTo_bits _ _ (hv.lt _)
theorem baG_row {n : Nat} {xs : List Nat} (hv : Valid n xs) (k : Nat) : rowTo (baG xs k) n = 2 ^ n - 1 - nthN xs k := rowTo_not _ _ (hv.lt _)

set_option maxRecDepth 100000 in
set_option maxHeartbeats 4000000 in
theorem refFlip_any (n b off c : Nat) (xs : List Nat) (w : World) (hv : VAt w b off c n xs) :
    Calls Try.prog 41 #[.agg #[.int .i64 (n : Int), .slice (some ⟨b, off, none⟩) xs.length c]] w (CopyN (n : Int) (ints (painted (flG xs) xs.length n)) w) := by
  obtain ⟨i0, hi, hz0, hz1, hz2⟩ := info_parts Try.info3
  have l1 := hv.ok.l1
  have l0 := hv.ok.l0
  have n1 := hv.ok.n1
  have HV := Lib.hid hv
  clear hv
  go_enter Try.func41, Try.ntmps41
  go_wp2_with fail
  have hMk := Mk.new ((w.alloc (.cells #[.int .i64 (n : Int), .slice (some ⟨b, off, none⟩) xs.length c] 24)).alloc (.cells #[.int .i64 0, .slice none 0 0] 24)) n
  obtain ⟨W1, hW1e⟩ : ∃ W1, W1 = (w.alloc (.cells #[.int .i64 (n : Int), .slice (some ⟨b, off, none⟩) xs.length c] 24)).alloc (.cells #[.int .i64 0, .slice none 0 0] 24) := ⟨_, rfl⟩
  have hB1 : Below w.heap.size w W1 := by rw [hW1e]; exact below2 w _ _
  have hQ : ResBox W1 (w.heap.size + 1) := by
    rw [hW1e]
    have := ResBox.new (w.alloc (.cells #[.int .i64 (n : Int), .slice (some ⟨b, off, none⟩) xs.length c] 24))
    rwa [World.size_alloc] at this
  have hs1 : W1.heap.size = w.heap.size + 1 + 1 := by rw [hW1e]; simp
  have hA : W1.cell? ⟨w.heap.size, 1, none⟩ = some (.slice (some ⟨b, off, none⟩) xs.length c) := by
    rw [hW1e]
    exact (((Below.refl (w.heap.size + 1) (w.alloc (.cells #[.int .i64 (n : Int), .slice (some ⟨b, off, none⟩) xs.length c] 24))).alloc (by simp) _).cell (p := ⟨w.heap.size, 1, none⟩) (by simp)).trans (by simp)
  rw [← hW1e] at hMk ⊢
  rw [hs1] at hMk
  have HMk := Lib.hid hMk
  have HB1 := Lib.hid hB1
  have HQ := Lib.hid hQ
  have HA := Lib.hid hA
  clear hW1e hMk hB1 hQ hs1 hA
  go_loopw [4] (fun i wr => ∃ k : Nat, k ≤ xs.length ∧ i = .int .i64 ((xs.length : Int) - 1 - (k : Int)) ∧ ∃ v, Mk W1 (w.heap.size + 1 + 1) n (painted (flG xs) k n) v wr) (fun i _ => (intOf i + 1).toNat)
  case atStart => exact ⟨0, Nat.zero_le _, by simp, _, HMk.out⟩
  case round =>
    obtain ⟨k, hk, rfl, v, hM⟩ := hrel
    have Hlen := Lib.hid (painted_len (flG xs) k n)
    by_cases hlt : k < xs.length
    · have hBw : Below w.heap.size w wr := HB1.out.trans (hM.below.mono (by omega))
      have d1 := (hM.below.cell (p := ⟨w.heap.size, 1, none⟩) (by simp; omega)).trans HA.out
      have hrw := flG_row HV.out.ok k
      rw [show (xs.length : Int) - 1 - (k : Int) = ((xs.length - 1 - k : Nat) : Int) by omega]
      obtain ⟨j, hj⟩ : ∃ j, j = xs.length - 1 - k := ⟨_, rfl⟩
      have hjl : j < xs.length := by omega
      have hc := (HV.out.below hBw).at' j hjl
      have hk0 : (0 : Int) ≤ (j : Int) := by omega
      have hk1 : (j : Int) < (xs.length : Int) := by omega
      rw [← hj] at hrw ⊢
      have g0 := hM.r.c1
      have g1 := hM.r.f 1
      have hz : w.heap.size + 1 + 1 < wr.heap.size := hM.r.lt
      have HM := Lib.hid hM
      have HRow := Lib.hid hM.row
      have hnr := hM.far (Nat.le_refl _)
      have hn25 : k + 1 ≤ maxLen := by unfold maxLen; omega
      obtain ⟨X, hX⟩ : ∃ X, X = nthN xs j := ⟨_, rfl⟩
      rw [← hX] at hc hrw
      have HX := Lib.hid hrw
      have HJ := Lib.hid hj
      clear hM hBw hX hrw hj
      go_wp2_with fail
      go_region_law
        ((refine step_append_lies _ (by rfl) _ _ _ (by rfl) (w.heap.size + 1 + 1 + 1) 3 i0 _ 1 8 Try.underlying22 hi hz0 hz1 hz2 rfl (by omega) v (painted (flG xs) k n).length ((painted (flG xs) k n).map natV) (by rfl) ((HRow.out.alloc _).drew)
                  ⟨wr.heap.size, 0, none⟩ 1 1 [.int .i64 (X : Int)] (by rfl) (by rfl) (World.news_of_block (cs := #[.int .i64 (X : Int)]) (t := 3) (fr := (0, 0)) (heap_alloc_new wr _)) (by simp [Value.oneCell'])
                  (by omega) (by rw [Hlen.out]; exact hn25) (by rw [Hlen.out]; omega) (by simp; omega) (wr.heap.size + 1) (by simp) ?_; intro g5 cap w5 hown1 hgrow hat hglt)
         have hBA := (HM.out.next (((Below.refl wr.heap.size wr).alloc (Nat.le_refl _) (.cells #[.int .i64 (X : Int)] 3)).drew)).grew (rows' := painted (flG xs) k n ++ [X]) hgrow (by rw [List.length_append, List.length_singleton, List.map_append]; exact hown1)
         have hr5 : RBox w5 (w.heap.size + 1 + 1) n v := (hgrow.block _ (by simp; omega) hnr).trans ((Below.heap_alloc _ _ _ hz).trans HM.out.r)
         have f5 := hr5.f 1
         have c5 := hr5.c1
         have HBA := Lib.hid hBA
         clear hBA hr5 hown1 hgrow hat)
      all_goals
        (obtain ⟨W5, hW5⟩ : ∃ W5, W5 = w5.setCell ⟨w.heap.size + 1 + 1, 1, none⟩ (.slice (some ⟨g5, 0, none⟩) ((painted (flG xs) k n).length + 1) cap) := ⟨_, rfl⟩
         rw [← hW5] at HBA ⊢
         clear hW5 f5 c5
         go_wp2_with fail
         go_roundw)
      all_goals first
        | (simp [intOf]; done)
        | exact ⟨k + 1, by omega, congrArg (Value.int .i64) (by have := HJ.out; omega), _, by rw [painted_succ, HX.out]; exact HBA.out⟩
    · obtain rfl : k = xs.length := by omega
      rw [show (xs.length : Int) - 1 - (xs.length : Int) = -1 by omega]
      have h5 := hM.reads (by rw [Hlen.out]; omega)
      rw [Hlen.out] at h5
      obtain ⟨p, cc, rfl, hRd, hfar⟩ := h5
      have f0 := hM.r.c0
      have f1 := hM.r.c1
      have q := HQ.out.below hM.below (by omega)
      have k0 := q.c0
      have k1 := q.c1
      have k2 := q.f 0
      have k3 := q.f 1
      have HBw := Lib.hid (HB1.out.trans (hM.below.mono (by omega)))
      have HRd := Lib.hid hRd
      have Hfar := Lib.hid hfar
      clear hM q hRd hfar
      go_wp2_with fail
      refine bodyPost_ret (v := .agg #[.int .i64 (n : Int), .slice p xs.length cc]) ?_ rfl ⟨p, cc, by rw [ints_len, painted_len], ?_, fun a e => by have := Hfar.out a e; omega, (HBw.out.setCell (by simp) _).setCell (by simp) _⟩
      · simp [results, Try.results41, go_sem, k0, k1]
      · rw [ints_len, painted_len]
        exact (HRd.out.set _ _ (fun a e => by have := Hfar.out a e; simp; omega)).set _ _ (fun a e => by have := Hfar.out a e; simp; omega)
set_option maxRecDepth 100000 in
set_option maxHeartbeats 4000000 in
theorem refBack_any (n b off c : Nat) (xs : List Nat) (w : World) (hv : VAt w b off c n xs) :
    Calls Try.prog 42 #[.agg #[.int .i64 (n : Int), .slice (some ⟨b, off, none⟩) xs.length c]] w (CopyN (n : Int) (ints (painted (baG xs) xs.length n)) w) := by
  obtain ⟨i0, hi, hz0, hz1, hz2⟩ := info_parts Try.info3
  have l1 := hv.ok.l1
  have l0 := hv.ok.l0
  have n1 := hv.ok.n1
  have HV := Lib.hid hv
  clear hv
  go_enter Try.func42, Try.ntmps42
  go_wp2_with fail
  have hMk := Mk.new ((w.alloc (.cells #[.int .i64 (n : Int), .slice (some ⟨b, off, none⟩) xs.length c] 24)).alloc (.cells #[.int .i64 0, .slice none 0 0] 24)) n
  obtain ⟨W1, hW1e⟩ : ∃ W1, W1 = (w.alloc (.cells #[.int .i64 (n : Int), .slice (some ⟨b, off, none⟩) xs.length c] 24)).alloc (.cells #[.int .i64 0, .slice none 0 0] 24) := ⟨_, rfl⟩
  have hB1 : Below w.heap.size w W1 := by rw [hW1e]; exact below2 w _ _
  have hQ : ResBox W1 (w.heap.size + 1) := by
    rw [hW1e]
    have := ResBox.new (w.alloc (.cells #[.int .i64 (n : Int), .slice (some ⟨b, off, none⟩) xs.length c] 24))
    rwa [World.size_alloc] at this
  have hs1 : W1.heap.size = w.heap.size + 1 + 1 := by rw [hW1e]; simp
  have hA : W1.cell? ⟨w.heap.size, 0, none⟩ = some (.int .i64 (n : Int)) ∧ W1.cell? ⟨w.heap.size, 1, none⟩ = some (.slice (some ⟨b, off, none⟩) xs.length c) := by
    rw [hW1e]
    refine ⟨?_, ?_⟩
    · exact (((Below.refl (w.heap.size + 1) (w.alloc (.cells #[.int .i64 (n : Int), .slice (some ⟨b, off, none⟩) xs.length c] 24))).alloc (by simp) _).cell (p := ⟨w.heap.size, 0, none⟩) (by simp)).trans (by simp)
    exact (((Below.refl (w.heap.size + 1) (w.alloc (.cells #[.int .i64 (n : Int), .slice (some ⟨b, off, none⟩) xs.length c] 24))).alloc (by simp) _).cell (p := ⟨w.heap.size, 1, none⟩) (by simp)).trans (by simp)
  rw [← hW1e] at hMk ⊢
  rw [hs1] at hMk
  have HMk := Lib.hid hMk
  have HB1 := Lib.hid hB1
  have HQ := Lib.hid hQ
  have HA := Lib.hid hA
  clear hW1e hMk hB1 hQ hs1 hA
  go_loopw [4] (fun i wr => ∃ k : Nat, k ≤ xs.length ∧ i = .int .i64 k ∧ ∃ v, Mk W1 (w.heap.size + 1 + 1) n (painted (baG xs) k n) v wr) (fun i _ => xs.length - (intOf i).toNat)
  case atStart => exact ⟨0, Nat.zero_le _, rfl, _, HMk.out⟩
  case round =>
    obtain ⟨k, hk, rfl, v, hM⟩ := hrel
    have Hlen := Lib.hid (painted_len (baG xs) k n)
    by_cases hlt : k < xs.length
    · have hBw : Below w.heap.size w wr := HB1.out.trans (hM.below.mono (by omega))
      have d1 := (hM.below.cell (p := ⟨w.heap.size, 1, none⟩) (by simp; omega)).trans HA.out.2
      have d0 := (hM.below.cell (p := ⟨w.heap.size, 0, none⟩) (by simp; omega)).trans HA.out.1
      have hrw := baG_row HV.out.ok k
      have hc := (HV.out.below hBw).at' k hlt
      have hxl := HV.out.ok.lt k
      have hk0 : (0 : Int) ≤ (k : Int) := by omega
      have hk1 : (k : Int) < (xs.length : Int) := by omega
      have g0 := hM.r.c1
      have g1 := hM.r.f 1
      have hz : w.heap.size + 1 + 1 < wr.heap.size := hM.r.lt
      have HM := Lib.hid hM
      have HRow := Lib.hid hM.row
      have hnr := hM.far (Nat.le_refl _)
      have hn25 : k + 1 ≤ maxLen := by unfold maxLen; omega
      obtain ⟨Y, hY⟩ : ∃ Y, Y = nthN xs k := ⟨_, rfl⟩
      rw [← hY] at hc hrw hxl
      obtain ⟨X, hX⟩ : ∃ X, X = 2 ^ n - 1 - Y := ⟨_, rfl⟩
      rw [← hX] at hrw
      have HX := Lib.hid hrw
      obtain ⟨hp1, hp2⟩ := pow_bds n (by omega)
      have hu : IntKind.u64.wrap (n : Int) = (n : Int) := IntWalk.u64_in _ (by omega)
      have hmn : min n 64 = n := by omega
      have hw1 : IntKind.i64.wrap (2 ^ n) = 2 ^ n := IntWalk.i64_in _ (by omega)
      have hw2 : IntKind.i64.wrap (2 ^ n - 1) = 2 ^ n - 1 := IntWalk.i64_in _ (by omega)
      have hcast : (2 : Int) ^ n - 1 - (Y : Int) = (X : Int) := by
        have e : (2 : Int) ^ n = ((2 ^ n : Nat) : Int) := (Int.natCast_pow 2 n).symm
        rw [e]; omega
      have hw3 : IntKind.i64.wrap (2 ^ n - 1 - (Y : Int)) = (X : Int) := by
        rw [hcast]; exact IntWalk.i64_in _ (by omega)
      clear hM hBw hX hrw hY hxl hp1 hp2 hcast
      go_wp2_with fail
      go_region_law
        ((refine step_append_lies _ (by rfl) _ _ _ (by rfl) (w.heap.size + 1 + 1 + 1) 3 i0 _ 1 8 Try.underlying22 hi hz0 hz1 hz2 rfl (by omega) v (painted (baG xs) k n).length ((painted (baG xs) k n).map natV) (by rfl) ((HRow.out.alloc _).drew)
                  ⟨wr.heap.size, 0, none⟩ 1 1 [.int .i64 (X : Int)] (by rfl) (by rfl) (World.news_of_block (cs := #[.int .i64 (X : Int)]) (t := 3) (fr := (0, 0)) (heap_alloc_new wr _)) (by simp [Value.oneCell'])
                  (by omega) (by rw [Hlen.out]; exact hn25) (by rw [Hlen.out]; omega) (by simp; omega) (wr.heap.size + 1) (by simp) ?_; intro g5 cap w5 hown1 hgrow hat hglt)
         have hBA := (HM.out.next (((Below.refl wr.heap.size wr).alloc (Nat.le_refl _) (.cells #[.int .i64 (X : Int)] 3)).drew)).grew (rows' := painted (baG xs) k n ++ [X]) hgrow (by rw [List.length_append, List.length_singleton, List.map_append]; exact hown1)
         have hr5 : RBox w5 (w.heap.size + 1 + 1) n v := (hgrow.block _ (by simp; omega) hnr).trans ((Below.heap_alloc _ _ _ hz).trans HM.out.r)
         have f5 := hr5.f 1
         have c5 := hr5.c1
         have HBA := Lib.hid hBA
         clear hBA hr5 hown1 hgrow hat)
      all_goals
        (obtain ⟨W5, hW5⟩ : ∃ W5, W5 = w5.setCell ⟨w.heap.size + 1 + 1, 1, none⟩ (.slice (some ⟨g5, 0, none⟩) ((painted (baG xs) k n).length + 1) cap) := ⟨_, rfl⟩
         rw [← hW5] at HBA ⊢
         clear hW5 f5 c5 hu hmn hw1 hw2 hw3
         go_wp2_with fail
         go_roundw)
      all_goals first
        | (simp [intOf]; omega)
        | exact ⟨k + 1, by omega, by go_num, _, by rw [painted_succ, HX.out]; exact HBA.out⟩
    · obtain rfl : k = xs.length := by omega
      have d1 := (hM.below.cell (p := ⟨w.heap.size, 1, none⟩) (by simp; omega)).trans HA.out.2
      have h5 := hM.reads (by rw [Hlen.out]; omega)
      rw [Hlen.out] at h5
      obtain ⟨p, cc, rfl, hRd, hfar⟩ := h5
      have f0 := hM.r.c0
      have f1 := hM.r.c1
      have q := HQ.out.below hM.below (by omega)
      have k0 := q.c0
      have k1 := q.c1
      have k2 := q.f 0
      have k3 := q.f 1
      have HBw := Lib.hid (HB1.out.trans (hM.below.mono (by omega)))
      have HRd := Lib.hid hRd
      have Hfar := Lib.hid hfar
      clear hM q hRd hfar
      go_wp2_with fail
      refine bodyPost_ret (v := .agg #[.int .i64 (n : Int), .slice p xs.length cc]) ?_ rfl ⟨p, cc, by rw [ints_len, painted_len], ?_, fun a e => by have := Hfar.out a e; omega, (HBw.out.setCell (by simp) _).setCell (by simp) _⟩
      · simp [results, Try.results42, go_sem, k0, k1]
      · rw [ints_len, painted_len]
        exact (HRd.out.set _ _ (fun a e => by have := Hfar.out a e; simp; omega)).set _ _ (fun a e => by have := Hfar.out a e; simp; omega)
end Go.Proofs.Ytjobbleabepaiaa
