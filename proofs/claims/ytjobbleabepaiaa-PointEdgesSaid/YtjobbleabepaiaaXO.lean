/- The plain statements' own functions: lifted, is, right. -/
import Derived.Test.YtjobbleabepaiaaXL
import Derived.Deep.QuietTactic
import Derived.BigQuiet
namespace Go.Proofs.Ytjobbleabepaiaa
open Go.RowKit

/-- a point of a design that goes round -/
def pt (n : Nat) (xs : List Nat) (i j : Nat) : Bool := bitN (nthN xs (i % xs.length)) (j % n)
theorem tmod_eq (z : Int) (m : Nat) (h : 0 ≤ z) : z.tmod (m : Int) = ((z.toNat % m : Nat) : Int) := by
  rw [Int.tmod_eq_emod_of_nonneg h, Int.natCast_emod, Int.toNat_of_nonneg h]

set_option maxHeartbeats 2000000 in
theorem lifted_any (n b off c : Nat) (xs : List Nat) (z y : Int) (w : World) (hv : VAt w b off c n xs) (hz : 0 ≤ z) (hy : 0 ≤ y) :
    Calls Try.prog 63 #[.agg #[.int .i64 (n : Int), .slice (some ⟨b, off, none⟩) xs.length c], .int .i64 z, .int .i64 y] w fun e w' => e = .returned (.bool (pt n xs z.toNat y.toNat)) ∧ Below w.heap.size w w' := by
  have l0 := hv.ok.l0
  have l1 := hv.ok.l1
  have n0 := hv.ok.n0
  have n1 := hv.ok.n1
  have e1 := tmod_eq z xs.length hz
  have e2 := tmod_eq y n hy
  have g1 : z.toNat % xs.length < xs.length := Nat.mod_lt _ (by omega)
  have g2 : y.toNat % n < n := Nat.mod_lt _ (by omega)
  have hp : pt n xs z.toNat y.toNat = bitN (nthN xs (z.toNat % xs.length)) (y.toNat % n) := rfl
  rw [hp]
  obtain ⟨I, hI⟩ : ∃ I, I = z.toNat % xs.length := ⟨_, rfl⟩
  obtain ⟨J, hJ⟩ : ∃ J, J = y.toNat % n := ⟨_, rfl⟩
  rw [← hI] at e1 g1 ⊢
  rw [← hJ] at e2 g2 ⊢
  have hc := (hv.below (below1 w (.cells #[.int .i64 (n : Int), .slice (some ⟨b, off, none⟩) xs.length c] 24))).at' I g1
  have hx := hv.ok.lt' I
  have hs0 : ¬ xs.length = 0 := by omega
  have hs1 : ¬ n = 0 := by omega
  have hu : IntKind.u64.wrap (J : Int) = (J : Int) := IntWalk.u64_in _ (by omega)
  have hk0 : (0 : Int) ≤ (I : Int) := by omega
  have hk1 : (I : Int) < (xs.length : Int) := by omega
  have hj64 : J < 64 := by omega
  have hmn : min J 64 = J := by omega
  have HX := Lib.hid hx
  clear hv hp hI hJ hx
  go_enter Try.func63, Try.ntmps63
  go_wp2_with fail
  go_region
  all_goals
    (clear e1 e2 hu hmn
     go_wp2
     go_ret
     exact ⟨ret_bool (shr_bit _ J (by have := HX.out; omega)), (below1 w _).drew⟩)

set_option maxRecDepth 100000 in
set_option maxHeartbeats 2000000 in
theorem is_reads (h : Int) (p p2 : Option Addr) (l l2 c c2 : Nat) (xs : List Int) (w : World) (hx : Reads w (.slice p l c) xs) (hy : Reads w (.slice p2 l2 c2) xs) :
    Calls Try.prog 64 #[.agg #[.int .i64 h, .slice p l c], .agg #[.int .i64 h, .slice p2 l2 c2]] w fun e w' => e = .returned (.bool true) ∧ Below w.heap.size w w' := by
  obtain rfl := reads_len hx
  obtain rfl := reads_len hy
  have HB := Lib.hid (below2 w (.cells #[.int .i64 h, .slice p xs.length c] 24) (.cells #[.int .i64 h, .slice p2 xs.length c2] 24))
  obtain ⟨q, cx, ex, hxl, hxr⟩ := hx
  obtain ⟨q2, cy, ey, _, hyr⟩ := hy
  simp at ex ey
  obtain ⟨rfl, rfl⟩ := ex
  obtain ⟨rfl, rfl⟩ := ey
  have HX := Lib.hid hxr
  have HY := Lib.hid hyr
  have hT : TwoAt w (.slice p xs.length c) (.slice p2 xs.length c2) ((w.alloc (.cells #[.int .i64 h, .slice p xs.length c] 24)).alloc (.cells #[.int .i64 h, .slice p2 xs.length c2] 24)) := by
    refine ⟨?_, ?_, HB.out⟩
    · exact (((Below.refl (w.heap.size + 1) (w.alloc (.cells #[.int .i64 h, .slice p xs.length c] 24))).alloc (by simp) _).cell (p := ⟨w.heap.size, 1, none⟩) (by simp)).trans (by simp)
    · have := (ArgBox.new (w.alloc (.cells #[.int .i64 h, .slice p xs.length c] 24)) h p2 xs.length c2).c1
      rwa [World.size_alloc] at this
  have HT := Lib.hid hT
  clear hxr hyr hT
  go_enter Try.func64, Try.ntmps64
  go_wp2
  go_loopw [5] (fun i wr => ∃ k : Nat, k ≤ xs.length ∧ i = .int .i64 k ∧ TwoAt w (.slice p xs.length c) (.slice p2 xs.length c2) wr) (fun i _ => xs.length - (intOf i).toNat)
  case atStart => exact ⟨0, Nat.zero_le _, rfl, HT.out⟩
  case round =>
    obtain ⟨k, hk, rfl, hT⟩ := hrel
    have g1 := hT.c1
    have g2 := hT.c2
    have HT := Lib.hid hT
    clear hT
    by_cases hlt : k < xs.length
    · obtain ⟨b1, o1, rfl, hb1, hi1⟩ := HX.out (by omega)
      obtain ⟨b2, o2, rfl, hb2, hi2⟩ := HY.out (by omega)
      have x1 := (hi1.below HT.out.below hb1) k hlt
      have x2 := (hi2.below HT.out.below hb2) k hlt
      have hk0 : (0 : Int) ≤ (k : Int) := by omega
      have hk1 : (k : Int) < (xs.length : Int) := by omega
      clear hi1 hi2
      go_wp2
      go_region
      all_goals go_wp2
      all_goals go_roundw
      all_goals first | (simp [intOf]; omega) | exact ⟨k + 1, by omega, by go_num, HT.out.drew⟩
    · go_wp2
      go_ret
      exact ⟨rfl, HT.out.below⟩

set_option maxHeartbeats 2000000 in
theorem right_any (n b off c : Nat) (xs : List Nat) (w : World) (hv : VAt w b off c n xs) :
    Calls Try.prog 61 #[.agg #[.int .i64 (n : Int), .slice (some ⟨b, off, none⟩) xs.length c], .int .i64 (n : Int), .int .i64 (xs.length : Int)] w fun e w' => e = .returned (.bool true) ∧ Below w.heap.size w w' := by
  have l1 := hv.ok.l1
  have n1 := hv.ok.n1
  have hV1 := hv.below (below1 w (.cells #[.int .i64 (n : Int), .slice (some ⟨b, off, none⟩) xs.length c] 24))
  have d1 : (w.alloc (.cells #[.int .i64 (n : Int), .slice (some ⟨b, off, none⟩) xs.length c] 24)).cell? ⟨w.heap.size, 1, none⟩ = some (.slice (some ⟨b, off, none⟩) xs.length c) := by simp
  have HB := Lib.hid (below1 w (.cells #[.int .i64 (n : Int), .slice (some ⟨b, off, none⟩) xs.length c] 24))
  obtain ⟨hp1, hp2⟩ := pow_bds n (by omega)
  have HV := Lib.hid hV1
  clear hv hV1
  go_enter Try.func61, Try.ntmps61
  go_wp2
  go_loop [7] (fun i => ∃ k : Nat, k ≤ xs.length ∧ i = .int .i64 k) (fun i => xs.length - (intOf i).toNat)
  case atStart => exact ⟨0, Nat.zero_le _, rfl⟩
  case round =>
    obtain ⟨k, hk, rfl⟩ := hrel
    by_cases hlt : k < xs.length
    · have hc := HV.out.at' k hlt
      have hk0 : (0 : Int) ≤ (k : Int) := by omega
      have hk1 : (k : Int) < (xs.length : Int) := by omega
      have h0 : ¬ ((nthN xs k : Nat) : Int) < 0 := by omega
      have h1 : ((nthN xs k : Nat) : Int) < 2 ^ n := by
        have e : (2 : Int) ^ n = ((2 ^ n : Nat) : Int) := (Int.natCast_pow 2 n).symm
        rw [e]; have := HV.out.ok.lt k; exact_mod_cast this
      go_wp2
      go_round
      case rel => exact ⟨k + 1, by omega, by go_num⟩
      case measure => simp [intOf]; omega
    · go_wp2
      go_ret
      exact ⟨rfl, HB.out⟩

/-- a paper's rows in memory -/
def U16At (W : World) (v : Value) (us : List Nat) : Prop :=
  ∃ p c, v = .slice p us.length c ∧ us.length ≤ 9223372036854775807 ∧ (∀ i, nthN us i < 65536) ∧ (0 < us.length → ∃ b off, p = some ⟨b, off, none⟩ ∧ b < W.heap.size ∧ ∀ i, i < us.length → W.cell? ⟨b, off + i, none⟩ = some (.int .u16 (nthN us i : Int)))
theorem U16At.below {W W' : World} {v : Value} {us : List Nat} (h : U16At W v us) (hb : Below W.heap.size W W') : U16At W' v us := by
  obtain ⟨p, c, e, hl, hv, hx⟩ := h
  refine ⟨p, c, e, hl, hv, fun h0 => ?_⟩
  obtain ⟨b, off, e2, hlt, hc⟩ := hx h0
  exact ⟨b, off, e2, Nat.lt_of_lt_of_le hlt hb.size, fun i hi => (hb.cell (p := ⟨b, off + i, none⟩) hlt).trans (hc i hi)⟩
/-- a valid design that was made of a paper -/
def PaperD (n : Nat) (w : World) (e : Ending) (w' : World) : Prop :=
  ∃ b off c ys, e = .returned (.agg #[.int .i64 (n : Int), .slice (some ⟨b, off, none⟩) ys.length c]) ∧ ys.length ≤ 20 ∧ VAt w' b off c n ys ∧ Below w.heap.size w w'
def paperN (hk H : Nat) : Nat := 1 + hk % H

theorem nthN_push (rows : List Nat) (Z n i : Nat) (h : ∀ i, nthN rows i < 2 ^ n) (hz : Z < 2 ^ n) : nthN (rows ++ [Z]) i < 2 ^ n := by
  unfold nthN at *
  by_cases hi : i < rows.length
  · rw [List.getElem?_append_left hi]; exact h i
  · by_cases he : i = rows.length
    · subst he; simpa using hz
    · rw [List.getElem?_eq_none (by simp; omega)]; exact Nat.pow_pos (by decide)
/-- a paper's row on so many hooks -/
def mixV (X n : Nat) : Nat := (X ||| X * 65536) &&& (2 ^ n - 1)
theorem mixV_lt (X n : Nat) : mixV X n < 2 ^ n := Nat.and_lt_two_pow _ (by have := Nat.pow_pos (n := n) (show 0 < 2 by decide); omega)
theorem mixV_val (X n : Nat) (hX : X < 65536) (hn : n ≤ 24) : bits .and .i64 (bits .or .i64 (X : Int) ((X : Int) * 65536)) (2 ^ n - 1) = ((mixV X n : Nat) : Int) := by
  have h1 : (X : Int) * 65536 = ((X * 65536 : Nat) : Int) := by omega
  have h2 : (2 : Int) ^ n - 1 = ((2 ^ n - 1 : Nat) : Int) := by
    have e : (2 : Int) ^ n = ((2 ^ n : Nat) : Int) := (Int.natCast_pow 2 n).symm
    have := Nat.pow_pos (n := n) (show 0 < 2 by decide)
    rw [e]; omega
  have h3 : (2 : Nat) ^ n ≤ 16777216 := Nat.le_trans (Nat.pow_le_pow_right (by decide) hn) (by decide)
  have h4 : X ||| X * 65536 < 2 ^ 33 := Nat.or_lt_two_pow (by omega) (by omega)
  rw [h1, i64_or_nat _ _ (by omega) (by omega), h2, i64_and_nat _ _ (by omega) (by omega)]
  rfl

set_option maxRecDepth 100000 in
set_option maxHeartbeats 2000000 in
theorem paperDesign_any (hk H l c : Nat) (p : Option Addr) (us : List Nat) (w : World) (hH : 1 ≤ H) (hH2 : H ≤ 24) (hk2 : hk < 256) (hu : U16At w (.slice p l c) us) :
    Calls Try.prog 59 #[.agg #[.int .u8 (hk : Int), .slice p l c], .int .i64 (H : Int)] w (PaperD (paperN hk H) w) := by
  obtain ⟨i0, hi, hz0, hz1, hz2⟩ := info_parts Try.info3
  have hs1 : ¬ H = 0 := by omega
  have he : (hk : Int) % (H : Int) = ((hk % H : Nat) : Int) := (Int.natCast_emod hk H).symm
  have hm : hk % H < H := Nat.mod_lt _ (by omega)
  unfold paperN
  obtain ⟨m, hm'⟩ : ∃ m, m = hk % H := ⟨_, rfl⟩
  rw [← hm'] at he hm ⊢
  clear hm'
  go_enter Try.func59, Try.ntmps59
  go_wp2_with fail
  have hn : 1 + (m : Int) = ((1 + m : Nat) : Int) := by omega
  rw [hn]
  clear hn he
  obtain ⟨n, hn⟩ : ∃ n, n = 1 + m := ⟨_, rfl⟩
  have hn1 : 1 ≤ n := by omega
  have hn2 : n ≤ 24 := by omega
  rw [← hn]
  have HN := Lib.hid hn
  clear hn hm
  have hMk := Mk.new ((w.alloc (.cells #[.int .u8 (hk : Int), .slice p l c] 81)).alloc (.cells #[.int .i64 0, .slice none 0 0] 24)) n
  obtain ⟨W1, hW1e⟩ : ∃ W1, W1 = (w.alloc (.cells #[.int .u8 (hk : Int), .slice p l c] 81)).alloc (.cells #[.int .i64 0, .slice none 0 0] 24) := ⟨_, rfl⟩
  have hB1 : Below w.heap.size w W1 := by rw [hW1e]; exact below2 w _ _
  have hQ : ResBox W1 (w.heap.size + 1) := by
    rw [hW1e]
    have := ResBox.new (w.alloc (.cells #[.int .u8 (hk : Int), .slice p l c] 81))
    rwa [World.size_alloc] at this
  have hs1 : W1.heap.size = w.heap.size + 1 + 1 := by rw [hW1e]; simp
  have hA : W1.cell? ⟨w.heap.size, 1, none⟩ = some (.slice p l c) := by
    rw [hW1e]
    exact (((Below.refl (w.heap.size + 1) (w.alloc (.cells #[.int .u8 (hk : Int), .slice p l c] 81))).alloc (by simp) _).cell (p := ⟨w.heap.size, 1, none⟩) (by simp)).trans (by simp)
  rw [← hW1e] at hMk ⊢
  rw [hs1] at hMk
  have HMk := Lib.hid hMk
  have HB1 := Lib.hid hB1
  have HQ := Lib.hid hQ
  have HA := Lib.hid hA
  have HU := Lib.hid hu
  have hlu : l = us.length := by
    obtain ⟨p', c', e, _⟩ := hu
    simp at e; exact e.2.1
  have hll : l ≤ 9223372036854775807 := by
    obtain ⟨p', c', e, h2, _⟩ := hu
    omega
  have HLU := Lib.hid hlu
  clear hW1e hMk hB1 hQ hs1 hA hu hlu
  go_loopw [6] (fun i wr => ∃ (k : Nat) (rows : List Nat) (v : Value), k ≤ 20 ∧ i = .int .i64 k ∧ rows.length = k ∧ (∀ i, nthN rows i < 2 ^ n) ∧ Mk W1 (w.heap.size + 1 + 1) n rows v wr) (fun i _ => 20 - (intOf i).toNat)
  case atStart => exact ⟨0, [], _, by omega, rfl, rfl, fun i => by simp [nthN]; exact Nat.pow_pos (by decide), HMk.out⟩
  case round =>
    obtain ⟨k, rows, v, hk20, rfl, hlen, hlt2, hM⟩ := hrel
    have HLen := Lib.hid hlen
    have HLt := Lib.hid hlt2
    have d1 := (hM.below.cell (p := ⟨w.heap.size, 1, none⟩) (by simp; omega)).trans HA.out
    have g0 := hM.r.c1
    have g1 := hM.r.f 1
    have g2 := hM.r.c0
    have hz : w.heap.size + 1 + 1 < wr.heap.size := hM.r.lt
    have hBw : Below w.heap.size w wr := HB1.out.trans (hM.below.mono (by omega))
    have hU := HU.out.below hBw
    have HM := Lib.hid hM
    have HRow := Lib.hid hM.row
    have hnr := hM.far (Nat.le_refl _)
    obtain ⟨hp1, hp2⟩ := pow_bds n (by omega)
    clear hlen hlt2 hM hBw
    by_cases hin : k < l ∧ (k = 0 ∨ k < 20)
    · obtain ⟨p', c', e, _, hv6, hx⟩ := hU
      simp at e
      obtain ⟨rfl, hle, rfl⟩ := e
      clear hle
      obtain ⟨b, off, rfl, hb, hcall⟩ := hx (by have := HLU.out; omega)
      have hc := hcall k (by have := HLU.out; omega)
      clear hcall
      have hX := hv6 k
      obtain ⟨X, hXe⟩ : ∃ X, X = nthN us k := ⟨_, rfl⟩
      rw [← hXe] at hc hX
      have hkl : k < l := hin.1
      have hk0 : (0 : Int) ≤ (k : Int) := by omega
      have hk1 : (k : Int) < (l : Int) := by omega
      have hval := mixV_val X n hX hn2
      obtain ⟨Z, hZ⟩ : ∃ Z, Z = mixV X n := ⟨_, rfl⟩
      have HZ := Lib.hid (show Z < 2 ^ n by rw [hZ]; exact mixV_lt X n)
      rw [← hZ] at hval
      clear hv6 hx hXe hZ
      by_cases hk00 : k = 0
      · subst hk00
        clear hin
        rw [Nat.add_zero] at hc
        go_wp2_with (at_builtin; refine Shut.out ?_)
        unfold Shut
        refine wpList_append_lies _ rfl _ _ 22 rfl (w.heap.size + 1 + 1 + 1) 3 i0 (.int .i64 0) 1 8 Try.underlying22 hi hz0 hz1 hz2 rfl (by omega) v rows.length (rows.map natV) rfl (HRow.out.alloc _) ⟨wr.heap.size, 0, none⟩ 1 1 [.int .i64 (Z : Int)] rfl rfl (World.news_of_block (cs := #[.int .i64 (Z : Int)]) (t := 3) (fr := (0, 0)) (heap_alloc_new wr _)) (by simp [Value.oneCell']) (by omega) (by rw [HLen.out]; unfold maxLen; omega) (by rw [HLen.out]; omega) (by simp; omega) (wr.heap.size + 1) (by simp) ?_
        intro g5 cap w5 hown1 hgrow hat hglt
        have hBA := (HM.out.next ((Below.refl wr.heap.size wr).alloc (Nat.le_refl _) (.cells #[.int .i64 (Z : Int)] 3))).grew (rows' := rows ++ [Z]) hgrow (by rw [List.length_append, List.length_singleton, List.map_append]; exact hown1)
        have hr5 : RBox w5 (w.heap.size + 1 + 1) n v := (hgrow.block _ (by simp; omega) hnr).trans ((Below.heap_alloc _ _ _ hz).trans HM.out.r)
        have f5 := hr5.f 1
        have c5 := hr5.c1
        have HBA := Lib.hid hBA
        have HNew : Hid ((rows ++ [Z]).length = 0 + 1 ∧ ∀ i, nthN (rows ++ [Z]) i < 2 ^ n) := Lib.hid ⟨by rw [List.length_append, HLen.out]; rfl, fun i => nthN_push rows Z n i HLt.out HZ.out⟩
        clear hBA hr5 hown1 hgrow hat hval
        go_wp2_with fail
        go_roundw
        case rel => exact ⟨0 + 1, rows ++ [Z], _, by omega, by go_num, HNew.out.1, HNew.out.2, HBA.out⟩
        case measure => simp [intOf]
      · have hk02 : k < 20 := by omega
        have hk03 : ((k : Int) == 0) = false := by rw [beq_eq_false_iff_ne]; omega
        clear hin
        go_wp2_with (at_builtin; refine Shut.out ?_)
        unfold Shut
        refine wpList_append_lies _ rfl _ _ 22 rfl (w.heap.size + 1 + 1 + 1) 3 i0 (.int .i64 0) 1 8 Try.underlying22 hi hz0 hz1 hz2 rfl (by omega) v rows.length (rows.map natV) rfl (HRow.out.alloc _) ⟨wr.heap.size, 0, none⟩ 1 1 [.int .i64 (Z : Int)] rfl rfl (World.news_of_block (cs := #[.int .i64 (Z : Int)]) (t := 3) (fr := (0, 0)) (heap_alloc_new wr _)) (by simp [Value.oneCell']) (by omega) (by rw [HLen.out]; unfold maxLen; omega) (by rw [HLen.out]; omega) (by simp; omega) (wr.heap.size + 1) (by simp) ?_
        intro g5 cap w5 hown1 hgrow hat hglt
        have hBA := (HM.out.next ((Below.refl wr.heap.size wr).alloc (Nat.le_refl _) (.cells #[.int .i64 (Z : Int)] 3))).grew (rows' := rows ++ [Z]) hgrow (by rw [List.length_append, List.length_singleton, List.map_append]; exact hown1)
        have hr5 : RBox w5 (w.heap.size + 1 + 1) n v := (hgrow.block _ (by simp; omega) hnr).trans ((Below.heap_alloc _ _ _ hz).trans HM.out.r)
        have f5 := hr5.f 1
        have c5 := hr5.c1
        have HBA := Lib.hid hBA
        have HNew : Hid ((rows ++ [Z]).length = k + 1 ∧ ∀ i, nthN (rows ++ [Z]) i < 2 ^ n) := Lib.hid ⟨by rw [List.length_append, HLen.out]; rfl, fun i => nthN_push rows Z n i HLt.out HZ.out⟩
        clear hBA hr5 hown1 hgrow hat hval
        go_wp2_with fail
        go_roundw
        case rel => exact ⟨k + 1, rows ++ [Z], _, by omega, by go_num, HNew.out.1, HNew.out.2, HBA.out⟩
        case measure => simp [intOf]; omega
    · by_cases hk00 : k = 0 ∧ l = 0
      · obtain ⟨rfl, rfl⟩ := hk00
        have hval : bits .and .i64 (bits .or .i64 37 2424832) (2 ^ n - 1) = ((mixV 37 n : Nat) : Int) := mixV_val 37 n (by omega) hn2
        obtain ⟨Z, hZ⟩ : ∃ Z, Z = mixV 37 n := ⟨_, rfl⟩
        have HZ := Lib.hid (show Z < 2 ^ n by rw [hZ]; exact mixV_lt 37 n)
        rw [← hZ] at hval
        clear hin hU hZ
        go_wp2_with (at_builtin; refine Shut.out ?_)
        unfold Shut
        refine wpList_append_lies _ rfl _ _ 22 rfl (w.heap.size + 1 + 1 + 1) 3 i0 (.int .i64 0) 1 8 Try.underlying22 hi hz0 hz1 hz2 rfl (by omega) v rows.length (rows.map natV) rfl (HRow.out.alloc _) ⟨wr.heap.size, 0, none⟩ 1 1 [.int .i64 (Z : Int)] rfl rfl (World.news_of_block (cs := #[.int .i64 (Z : Int)]) (t := 3) (fr := (0, 0)) (heap_alloc_new wr _)) (by simp [Value.oneCell']) (by omega) (by rw [HLen.out]; unfold maxLen; omega) (by rw [HLen.out]; omega) (by simp; omega) (wr.heap.size + 1) (by simp) ?_
        intro g5 cap w5 hown1 hgrow hat hglt
        have hBA := (HM.out.next ((Below.refl wr.heap.size wr).alloc (Nat.le_refl _) (.cells #[.int .i64 (Z : Int)] 3))).grew (rows' := rows ++ [Z]) hgrow (by rw [List.length_append, List.length_singleton, List.map_append]; exact hown1)
        have hr5 : RBox w5 (w.heap.size + 1 + 1) n v := (hgrow.block _ (by simp; omega) hnr).trans ((Below.heap_alloc _ _ _ hz).trans HM.out.r)
        have f5 := hr5.f 1
        have c5 := hr5.c1
        have HBA := Lib.hid hBA
        have HNew : Hid ((rows ++ [Z]).length = 0 + 1 ∧ ∀ i, nthN (rows ++ [Z]) i < 2 ^ n) := Lib.hid ⟨by rw [List.length_append, HLen.out]; rfl, fun i => nthN_push rows Z n i HLt.out HZ.out⟩
        clear hBA hr5 hown1 hgrow hat hval
        go_wp2_with fail
        go_roundw
        case rel => exact ⟨0 + 1, rows ++ [Z], _, by omega, by go_num, HNew.out.1, HNew.out.2, HBA.out⟩
        case measure => simp [intOf]
      · have hk01 : ¬ k = 0 := fun e => by
          by_cases h : l = 0
          · exact hk00 ⟨e, h⟩
          · exact hin ⟨by omega, .inl e⟩
        have hk03 : ((k : Int) == 0) = false := by rw [beq_eq_false_iff_ne]; omega
        have h5 := (HM.out).reads (by rw [HLen.out]; omega)
        obtain ⟨q, cc, rfl, hRd, hfar⟩ := h5
        have qb := HQ.out.below HM.out.below (by omega)
        have k0 := qb.c0
        have k1 := qb.c1
        have k2 := qb.f 0
        have k3 := qb.f 1
        have HBw := Lib.hid (HB1.out.trans (HM.out.below.mono (by omega)))
        have HRd := Lib.hid hRd
        have Hfar := Lib.hid hfar
        have hV : Valid n rows := ⟨hn1, hn2, by rw [HLen.out]; omega, by rw [HLen.out]; omega, HLt.out⟩
        have HV := Lib.hid hV
        have hno : ¬ (k < l ∧ k < 20) := fun e => hin ⟨e.1, .inr e.2⟩
        have HQ2 := Lib.hid qb
        have hPD : PaperD n w (.returned (.agg #[.int .i64 (n : Int), .slice q rows.length cc])) ((wr.setCell ⟨w.heap.size + 1, 0, none⟩ (.int .i64 (n : Int))).setCell ⟨w.heap.size + 1, 1, none⟩ (.slice q rows.length cc)) := by
          have hrd := (HRd.out.set ⟨w.heap.size + 1, 0, none⟩ (.int .i64 (n : Int)) (fun a e => by have := Hfar.out a e; simp; omega)).set ⟨w.heap.size + 1, 1, none⟩ (.slice q rows.length cc) (fun a e => by have := Hfar.out a e; simp; omega)
          obtain ⟨b, off, rfl, hva⟩ := vat_of_reads hrd HV.out
          exact ⟨b, off, cc, rows, rfl, by rw [HLen.out]; omega, hva, (HBw.out.setCell (by simp) _).setCell (by simp) _⟩
        have HPD := Lib.hid hPD
        by_cases hkl : k < l
        · have hk20' : ¬ k < 20 := by omega
          clear hin hk00 qb hRd hfar hV hno hU hPD
          go_wp2_with fail
          rw [← HN.out]
          refine bodyPost_ret (v := .agg #[.int .i64 (n : Int), .slice q rows.length cc]) ?_ rfl HPD.out
          simp [results, Try.results59, go_sem, k0, k1]
        · clear hin hk00 qb hRd hfar hV hno hU hPD
          go_wp2_with fail
          rw [← HN.out]
          refine bodyPost_ret (v := .agg #[.int .i64 (n : Int), .slice q rows.length cc]) ?_ rfl HPD.out
          simp [results, Try.results59, go_sem, k0, k1]
end Go.Proofs.Ytjobbleabepaiaa
