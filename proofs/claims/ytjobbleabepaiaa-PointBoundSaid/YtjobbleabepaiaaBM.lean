/- PointBound: the walk. -/
import Derived.Test.YtjobbleabepaiaaBL
import Derived.Deep.RegionHeld3
import Derived.Deep.DeepCutAuto
import Derived.Deep.QuietTactic
import Derived.BigQuiet
namespace Go.Proofs.Ytjobbleabepaiaa
open Go.RowKit Go.Shelf

set_option maxRecDepth 100000 in
set_option maxHeartbeats 4000000 in
theorem PointBound_any (hk l c : Nat) (p : Option Addr) (us : List Nat) (fl fc : Nat) (fp : Option Addr) (gs : List Nat) (T0 T1 T2 : Nat) (w : World) (hk2 : hk < 256) (ht0 : T0 < 256) (ht1 : T1 < 256) (ht2 : T2 < 256) (hu : U16At w (.slice p l c) us) (hg : U16At w (.slice fp fl fc) gs) :
    Calls Try.prog 10 #[.agg #[.int .u8 (hk : Int), .slice p l c], .slice fp fl fc, .agg #[.int .u8 (T0 : Int), .int .u8 (T1 : Int), .int .u8 (T2 : Int)]] w fun e w' => e = .returned (.bool true) ∧ Below w.heap.size w w' := by
  have hfl : fl = gs.length ∧ fl ≤ 9223372036854775807 := by
    obtain ⟨p', c', e, hl, _⟩ := hg
    simp at e; omega
  obtain ⟨rfl, hgl⟩ := hfl
  have HGl := Lib.hid hgl
  clear hgl
  obtain ⟨Wa, hWa⟩ : ∃ Wa, (w.alloc (.cells #[.int .u8 (hk : Int), .slice p l c] 81)).alloc (.cells #[.int .u8 (T0 : Int), .int .u8 (T1 : Int), .int .u8 (T2 : Int)] 82) = Wa := ⟨_, rfl⟩
  have hBa : Below w.heap.size w Wa := by rw [← hWa]; exact below2 w _ _
  have hsa : Wa.heap.size = w.heap.size + 1 + 1 := by rw [← hWa]; simp
  have hc0 : Wa.cell? ⟨w.heap.size, 0, none⟩ = some (.int .u8 (hk : Int)) ∧ Wa.cell? ⟨w.heap.size, 1, none⟩ = some (.slice p l c) := by
    rw [← hWa]
    have e : ∀ j, ((w.alloc (.cells #[.int .u8 (hk : Int), .slice p l c] 81)).alloc (.cells #[.int .u8 (T0 : Int), .int .u8 (T1 : Int), .int .u8 (T2 : Int)] 82)).cell? ⟨w.heap.size, j, none⟩ = (w.alloc (.cells #[.int .u8 (hk : Int), .slice p l c] 81)).cell? ⟨w.heap.size, j, none⟩ := fun j => (below1 _ _).cell (p := ⟨w.heap.size, j, none⟩) (by simp)
    rw [e, e]
    exact ⟨by simp, by simp⟩
  have hct : Wa.cell? ⟨w.heap.size + 1, 0, none⟩ = some (.int .u8 (T0 : Int)) ∧ Wa.cell? ⟨w.heap.size + 1, 1, none⟩ = some (.int .u8 (T1 : Int)) ∧ Wa.cell? ⟨w.heap.size + 1, 2, none⟩ = some (.int .u8 (T2 : Int)) := by
    rw [← hWa]
    have := World.size_alloc w (.cells #[.int .u8 (hk : Int), .slice p l c] 81)
    rw [← this]
    exact ⟨by simp, by simp, by simp⟩
  have HWa := Lib.hid hWa
  have HBa := Lib.hid hBa
  have Hsa := Lib.hid hsa
  have HT := Lib.hid hct
  have HU := Lib.hid hu
  have HG := Lib.hid hg
  have HK := Lib.hid (fun (W : World) (h : Aft Wa W) => (⟨(h.b.cell (p := ⟨w.heap.size, 0, none⟩) (by simp; omega)).trans hc0.1, (h.b.cell (p := ⟨w.heap.size, 1, none⟩) (by simp; omega)).trans hc0.2, (h.b.cell (p := ⟨w.heap.size + 1, 0, none⟩) (by simp; omega)).trans hct.1, h⟩ :
    W.cell? ⟨w.heap.size, 0, none⟩ = some (.int .u8 (hk : Int)) ∧ W.cell? ⟨w.heap.size, 1, none⟩ = some (.slice p l c) ∧ W.cell? ⟨w.heap.size + 1, 0, none⟩ = some (.int .u8 (T0 : Int)) ∧ Aft Wa W))
  have HD := Lib.hid (fun (W : World) (h : Aft Wa W) => show Calls Try.prog 59 #[.agg #[.int .u8 (hk : Int), .slice p l c], .int .i64 24] W (PaperF (paperN hk 24) W) from paperDesign_new hk 24 l c p us W (by omega) (by omega) hk2 (hu.below (hBa.trans (h.b.mono hBa.size))))
  obtain ⟨n, hn⟩ : ∃ n, paperN hk 24 = n := ⟨_, rfl⟩
  rw [hn] at HD
  have H0 := Lib.hid (Aft.refl Wa).drew
  have HA := Lib.hid ((Aft.refl Wa).alloc (.cells #[.int .i64 0, .slice none 0 0] 24)).drew
  have HL := Lib.hid ((Aft.refl Wa).alloc (.cells #[] 3)).drew
  have HAL := Lib.hid (((Aft.refl Wa).alloc (.cells #[.int .i64 0, .slice none 0 0] 24)).alloc (.cells #[] 3)).drew
  have HLA := Lib.hid (((Aft.refl Wa).alloc (.cells #[] 3)).alloc (.cells #[.int .i64 0, .slice none 0 0] 24)).drew
  have HqA := Lib.hid (fun (w5 : World) (hb : Below ((Wa.alloc (.cells #[.int .i64 0, .slice none 0 0] 24)).drew).heap.size ((Wa.alloc (.cells #[.int .i64 0, .slice none 0 0] 24)).drew) w5) => obj_in (X := (Wa.alloc (.cells #[.int .i64 0, .slice none 0 0] 24)).drew) (D := Wa.heap.size) (World.alloc_heap_new Wa _) hb)
  have HqAL := Lib.hid (fun (w5 : World) (hb : Below (((Wa.alloc (.cells #[.int .i64 0, .slice none 0 0] 24)).alloc (.cells #[] 3)).drew).heap.size (((Wa.alloc (.cells #[.int .i64 0, .slice none 0 0] 24)).alloc (.cells #[] 3)).drew) w5) => obj_in (X := ((Wa.alloc (.cells #[.int .i64 0, .slice none 0 0] 24)).alloc (.cells #[] 3)).drew) (D := Wa.heap.size) ((Below.heap_alloc _ _ _ (by simp)).trans (World.alloc_heap_new Wa _)) hb)
  have HqLA := Lib.hid (fun (w5 : World) (hb : Below (((Wa.alloc (.cells #[] 3)).alloc (.cells #[.int .i64 0, .slice none 0 0] 24)).drew).heap.size (((Wa.alloc (.cells #[] 3)).alloc (.cells #[.int .i64 0, .slice none 0 0] 24)).drew) w5) => obj_in (X := ((Wa.alloc (.cells #[] 3)).alloc (.cells #[.int .i64 0, .slice none 0 0] 24)).drew) (D := Wa.heap.size + 1) (by have := World.alloc_heap_new (Wa.alloc (.cells #[] 3)) (.cells #[.int .i64 0, .slice none 0 0] 24); rw [World.size_alloc] at this; exact this) hb)
  have HhD : Hid (((Wa.alloc (.cells #[] 3)).alloc (.cells #[.int .i64 0, .slice none 0 0] 24)).drew.heap[Wa.heap.size + 1]? = some (.cells #[.int .i64 0, .slice none 0 0] 24 (0, 0))) := Lib.hid (by have := World.alloc_heap_new (Wa.alloc (.cells #[] 3)) (.cells #[.int .i64 0, .slice none 0 0] 24); rw [World.size_alloc] at this; exact this)
  have HhL : Hid (((Wa.alloc (.cells #[.int .i64 0, .slice none 0 0] 24)).alloc (.cells #[] 3)).drew.heap[Wa.heap.size + 1]? = some (.cells #[] 3 (0, 0))) := Lib.hid (by have := World.alloc_heap_new (Wa.alloc (.cells #[.int .i64 0, .slice none 0 0] 24)) (.cells #[] 3); rw [World.size_alloc] at this; exact this)
  clear hWa hBa hsa hc0 hct hu hg hn
  go_enter Try.func10, Try.ntmps10
  go_upto_region 1 with fail
  rw [HWa.out]
  go_cut [7, 8, 9] (fun s7 s8 s9 wx => ∃ (D b off cd g : Nat) (ys : List Nat), s7 = .pointer (some ⟨D, 0, none⟩) ∧ s8 = .slice (some ⟨g, 0, none⟩) 0 0 ∧ s9 = .int .i64 (1 + (T0 : Int) % 8) ∧ Valid n ys ∧ ys.length ≤ 20 ∧ Aft Wa wx ∧ PB0 w Wa.heap.size n D b off cd ys [] (.slice (some ⟨g, 0, none⟩) 0 0) wx)
  case first => as_aux_lemma =>
    have e0 : IntKind.i64.wrap (T0 : Int) = (T0 : Int) := IntWalk.i64_in _ (by omega)
    have e1 : (T0 : Int).tmod 8 = (T0 : Int) % 8 := Int.tmod_eq_emod_of_nonneg (by omega)
    have e2 : IntKind.i64.wrap (1 + (T0 : Int) % 8) = 1 + (T0 : Int) % 8 := IntWalk.i64_in _ (by omega)
    go_region_held3 (fun W => W.cell? ⟨w.heap.size, 0, none⟩ = some (.int .u8 (hk : Int)) ∧ W.cell? ⟨w.heap.size, 1, none⟩ = some (.slice p l c) ∧ W.cell? ⟨w.heap.size + 1, 0, none⟩ = some (.int .u8 (T0 : Int)) ∧ Aft Wa W)
      ((first
        | exact HK.out _ H0.out
        | exact HK.out _ HA.out
        | exact HK.out _ HL.out
        | exact HK.out _ HAL.out
        | exact HK.out _ HLA.out
        | exact HK.out _ (H0.out.next hb5)
        | exact HK.out _ (HA.out.next hb5)
        | exact HK.out _ (HL.out.next hb5)
        | exact HK.out _ (HAL.out.next hb5)
        | exact HK.out _ (HLA.out.next hb5)
        | exact HK.out _ ((H0.out.next hb5).alloc _)
        | exact HK.out _ ((HA.out.next hb5).alloc _)
        | exact HK.out _ ((HL.out.next hb5).alloc _)
        | exact HK.out _ (((H0.out.next hb5).alloc _).alloc _)
        | exact HK.out _ ((HA.out.next hb5).set2 (Nat.le_refl _) _ _)
        | exact HK.out _ ((HAL.out.next hb5).set2 (Nat.le_refl _) _ _)
        | exact HK.out _ ((HLA.out.next hb5).set2 (Nat.le_succ _) _ _)
        | exact HK.out _ (((H0.out.next hb5).alloc _).set2 (H0.out.next hb5).b.size _ _)
        | exact HK.out _ (((HL.out.next hb5).alloc _).set2 (HL.out.next hb5).b.size _ _)
        | exact HK.out _ ((((H0.out.next hb5).alloc _).alloc _).set2 (H0.out.next hb5).b.size _ _)
        | exact HK.out _ ((((H0.out.next hb5).alloc _).alloc _).set2 (Nat.le_succ_of_le (H0.out.next hb5).b.size) _ _)
        | exact HK.out _ (((HA.out.next hb5).alloc _).set2 (Nat.le_refl _) _ _)
        | exact HK.out _ (((HA.out.next hb5).set2 (Nat.le_refl _) _ _).alloc _)
        | exact HK.out _ ((((H0.out.next hb5).alloc _).set2 (H0.out.next hb5).b.size _ _).alloc _)))
      ((go_at_call 59; (with_reducible refine (HD.out _ ?_).mono ?_); rotate_left 1; rintro e w5 ⟨b, off, cd, ys, rfl, hl20, hva, hge, hb5⟩; (try have q5 := HqA.out _ hb5); (try have q5 := HqAL.out _ hb5); (try have q5 := HqLA.out _ hb5); rotate_left 1; (first | exact H0.out | exact HA.out | exact HL.out | exact HAL.out | exact HLA.out)))
    all_goals go_wp2_with fail
    all_goals go_meet
    all_goals have hBa := HBa.out
    all_goals first
      | exact ⟨_, b, off, cd, _, ys, rfl, rfl, rfl, hva.ok, hl20, ((H0.out.next hb5).alloc _).alloc _, pb1 hBa (H0.out.next hb5) hva⟩
      | exact ⟨_, b, off, cd, _, ys, rfl, rfl, rfl, hva.ok, hl20, ((H0.out.next hb5).alloc _).alloc _, pb2 hBa (H0.out.next hb5) hva⟩
      | exact ⟨_, b, off, cd, _, ys, rfl, rfl, rfl, hva.ok, hl20, (HL.out.next hb5).alloc _, pb4 hBa (HL.out.next hb5) hva ((hb5.block _ (by simp)).trans (World.alloc_heap_new Wa _)) (Nat.le_refl _) (by simp at hge; omega)⟩
      | exact ⟨_, b, off, cd, _, ys, rfl, rfl, rfl, hva.ok, hl20, ((HA.out.next hb5).set2 (Nat.le_refl _) _ _).alloc _, pb6 hBa (HA.out.next hb5) hva ((hb5.block _ (by simp)).trans (World.alloc_heap_new Wa _)) (Nat.le_refl _) (by simp at hge; omega)⟩
      | exact ⟨_, b, off, cd, _, ys, rfl, rfl, rfl, hva.ok, hl20, (HLA.out.next hb5).set2 (Nat.le_succ _) _ _, pb5 hBa (HLA.out.next hb5) hva ((hb5.block _ (by simp)).trans HhD.out) (Nat.le_succ _) (by simp at hge; omega) ((hb5.block _ (by simp; omega)).trans ((Below.heap_alloc _ _ _ (by simp)).trans (World.alloc_heap_new Wa _))) (Nat.le_refl _) (by simp at hge; omega) (by omega)⟩
      | exact ⟨_, b, off, cd, _, ys, rfl, rfl, rfl, hva.ok, hl20, (HAL.out.next hb5).set2 (Nat.le_refl _) _ _, pb5 hBa (HAL.out.next hb5) hva ((hb5.block _ (by simp; omega)).trans ((Below.heap_alloc _ _ _ (by simp)).trans (World.alloc_heap_new Wa _))) (Nat.le_refl _) (by simp at hge; omega) ((hb5.block _ (by simp)).trans HhL.out) (Nat.le_succ _) (by simp at hge; omega) (by omega)⟩
  case rest => as_aux_lemma =>
    obtain ⟨D, b, off, cd, g, ys, rfl, rfl, rfl, hyv, hl20, hA1, hP1⟩ := hcut
    obtain ⟨m, hm⟩ : ∃ m, m = 1 + T0 % 8 := ⟨_, rfl⟩
    have hm1 : 1 ≤ m := by omega
    have hm2 : m ≤ 8 := by omega
    have hme : 1 + (T0 : Int) % 8 = (m : Int) := by omega
    rw [hme]
    have HA1 := Lib.hid hA1
    have HP1 := Lib.hid hP1
    have HV := Lib.hid hyv
    have n0 := hyv.n0
    have n1 := hyv.n1
    clear hm hme hA1 hP1 hyv HA HL HAL HLA HqA HqAL HqLA HhD HhL HD HK H0 HU
    obtain ⟨i0, hi, hz0, hz1, hz2⟩ := info_parts Try.info3
    obtain ⟨hp1, hp2⟩ := pow_bds n n1
    go_wp2_with fail
    go_loopw [8, 10] (fun kv i wr => ∃ (k : Nat) (rows : List Nat), k ≤ ys.length ∧ i = .int .i64 k ∧ rows.length = k ∧ (∀ i, nthN rows i < 2 ^ n) ∧ Aft Wa wr ∧ PB0 w Wa.heap.size n D b off cd ys rows kv wr) (fun _ i _ => ys.length - (intOf i).toNat)
    case atStart => exact ⟨0, [], Nat.zero_le _, rfl, rfl, (fun i => by simp [nthN]; exact Nat.pow_pos (by decide)), HA1.out, HP1.out⟩
    case round =>
      obtain ⟨k, rows, hk, rfl, hlen, hlt2, hA2, hP2⟩ := hrel
      have HA2 := Lib.hid hA2
      have HP2 := Lib.hid hP2
      have HLen := Lib.hid hlen
      have HLt := Lib.hid hlt2
      have q0 := hP2.s.get (x := ⟨D, n, some ⟨b, off, none⟩, ys.length, cd, ints ys⟩) (by simp)
      clear hA2 hP2 hlen hlt2 HA1 HP1
      by_cases hlt : k < ys.length
      · as_aux_lemma =>
        go_upto_if 41 with (fail)
        go_cut [11] (fun s11 wx => ∃ Z : Nat, s11 = .int .i64 (Z : Int) ∧ Z < 2 ^ n ∧ Aft Wa wx ∧ PB0 w Wa.heap.size n D b off cd ys rows u8 wx)
        case first =>
          by_cases hfl0 : 0 < gs.length
          · have hd0 : decide (0 < gs.length) = true := by simpa using hfl0
            obtain ⟨p', c', e, _, hv6, hx⟩ := HG.out
            simp at e
            obtain ⟨rfl, rfl⟩ := e
            obtain ⟨fb, fo, rfl, hfb, hcells⟩ := hx hfl0
            obtain ⟨I, hI⟩ : ∃ I, I = k % gs.length := ⟨_, rfl⟩
            have hIl : I < gs.length := by rw [hI]; exact Nat.mod_lt _ hfl0
            have hc := (HP2.out.s.below.cell (p := ⟨fb, fo + I, none⟩) hfb).trans (hcells I hIl)
            have hX := hv6 I
            obtain ⟨X, hXe⟩ : ∃ X, X = nthN gs I := ⟨_, rfl⟩
            rw [← hXe] at hc hX
            have e1 := tmod_eq (k : Int) gs.length (by omega)
            rw [Int.toNat_natCast, ← hI] at e1
            have hgl := HGl.out
            have hs1 : ¬ gs.length = 0 := by omega
            have hi0 : (0 : Int) ≤ (I : Int) := by omega
            have hi1 : (I : Int) < (gs.length : Int) := by omega
            have hXw : IntKind.i64.wrap (X : Int) = (X : Int) := IntWalk.i64_in _ (by omega)
            have hmn : min n 64 = n := by omega
            have hun : IntKind.u64.wrap (n : Int) = (n : Int) := IntWalk.u64_in _ (by omega)
            have hwp : IntKind.i64.wrap ((2 : Int) ^ n) = (2 : Int) ^ n := IntWalk.i64_in _ (by omega)
            have hwp1 : IntKind.i64.wrap ((2 : Int) ^ n - 1) = (2 : Int) ^ n - 1 := IntWalk.i64_in _ (by omega)
            have hw1 : IntKind.i64.wrap 1 = 1 := by decide
            have hval : bits .and .i64 (X : Int) ((2 : Int) ^ n - 1) = ((X &&& (2 ^ n - 1) : Nat) : Int) := by
              have h2 : (2 : Int) ^ n - 1 = ((2 ^ n - 1 : Nat) : Int) := by
                have e : (2 : Int) ^ n = ((2 ^ n : Nat) : Int) := (Int.natCast_pow 2 n).symm
                have := Nat.pow_pos (n := n) (show 0 < 2 by decide)
                rw [e]; omega
              have h3 : (2 : Nat) ^ n ≤ 16777216 := Nat.le_trans (Nat.pow_le_pow_right (by decide) n1) (by decide)
              rw [h2, i64_and_nat _ _ (by omega) (by omega)]
            obtain ⟨Z, hZ⟩ : ∃ Z, Z = X &&& (2 ^ n - 1) := ⟨_, rfl⟩
            have HZ := Lib.hid (show Z < 2 ^ n by rw [hZ]; exact Nat.and_lt_two_pow _ (by have := Nat.pow_pos (n := n) (show 0 < 2 by decide); omega))
            rw [← hZ] at hval
            clear hv6 hx hXe hZ hI hcells hgl
            go_wp2_with fail
            go_quiet (fail)
            have HAq := Lib.hid (fun a => HA2.out.next (below_drewN wr wr.heap.size a))
            have HPq := Lib.hid (fun a => HP2.out.next (below_drewN wr wr.heap.size a))
            clear e1 hs1 hXw hmn hun hwp hwp1 hw1
            go_wp2_with fail
            go_meet
            exact ⟨Z, rfl, HZ.out, HAq.out _, HPq.out _⟩
          · have hd0 : decide (0 < gs.length) = false := by simpa using hfl0
            have HZ := Lib.hid (show 0 < 2 ^ n from Nat.pow_pos (by decide))
            go_wp2_with fail
            go_meet
            exact ⟨0, rfl, HZ.out, HA2.out, HP2.out⟩
        case rest =>
          obtain ⟨Z, rfl, hZl, hA3, hP3⟩ := hcut
          have HA3 := Lib.hid hA3
          have HP3 := Lib.hid hP3
          have HZl := Lib.hid hZl
          have HRow := Lib.hid hP3.r
          have hbs := hA3.b.size
          clear hA3 hP3 hZl q0 HA2 HP2
          go_wp2_with (at_builtin; refine Shut.out ?_)
          unfold Shut
          refine wpList_append_lies _ rfl _ _ 22 rfl Wa.heap.size 3 i0 (.int .i64 0) 1 8 Try.underlying22 hi hz0 hz1 hz2 rfl (by omega) u8 rows.length (rows.map natV) rfl (HRow.out.alloc _) ⟨wc.heap.size, 0, none⟩ 1 1 [.int .i64 (Z : Int)] rfl rfl (World.news_of_block (cs := #[.int .i64 (Z : Int)]) (t := 3) (fr := (0, 0)) (heap_alloc_new wc _)) (by simp [Value.oneCell']) (by omega) (by rw [HLen.out]; unfold maxLen; omega) (by rw [HLen.out]; omega) (by simp; omega) (wc.heap.size + 1) (by simp) ?_
          intro g5 cap w5 hown1 hgrow hat hglt
          have hPA := (HP3.out.next ((Below.refl wc.heap.size wc).alloc (Nat.le_refl _) (.cells #[.int .i64 (Z : Int)] 3))).grew (rows' := rows ++ [Z]) hgrow (by rw [List.length_append, List.length_singleton, List.map_append]; exact hown1) (by
            rcases hat with h | h
            · exact .inl (by rw [h]; rfl)
            · exact .inr ⟨g5, rfl, by simp; omega⟩)
          have hA5 : Aft Wa w5 := ⟨(HA3.out.alloc (.cells #[.int .i64 (Z : Int)] 3)).b.grown hgrow ((HA3.out.alloc (.cells #[.int .i64 (Z : Int)] 3)).b.size) (fun j hj => (ownBlock_ge HRow.out hj).1)⟩
          have HPA := Lib.hid hPA
          have HA5 := Lib.hid hA5
          have HNew : Hid ((rows ++ [Z]).length = k + 1 ∧ ∀ i, nthN (rows ++ [Z]) i < 2 ^ n) := Lib.hid ⟨by rw [List.length_append, HLen.out]; rfl, fun i => nthN_push rows Z n i HLt.out HZl.out⟩
          clear hPA hA5 hown1 hgrow hat hglt
          go_wp2_with fail
          go_roundw
          case rel => exact ⟨k + 1, rows ++ [Z], by omega, by go_num, HNew.out.1, HNew.out.2, HA5.out, HPA.out⟩
          case measure => simp [intOf]; omega
      · as_aux_lemma =>
        obtain rfl : k = ys.length := by omega
        have hlr := HLen.out
        have l1 := HV.out.l1
        have l0 := HV.out.l0
        obtain ⟨gk, ck, rfl, _, _⟩ := row_form HP2.out.r (by omega)
        rw [hlr]
        have HKs := Lib.hid (row_reads hlr (by omega) (by have := HP2.out.r; rw [hlr] at this; exact this))
        obtain ⟨h, S, E, AF, hcase, hask⟩ := bind_one HV.out hlr HLt.out hm1 (by omega)
        have HCase := Lib.hid hcase
        have HAsk := Lib.hid hask
        have HInts := Lib.hid (ints_len_any rows hlr (by omega))
        have HS := Lib.hid HP2.out.s
        have HLr := Lib.hid hlr
        clear hcase hask HP2 hlr q0 HLen
        have q0 := HS.out.get (x := ⟨D, n, some ⟨b, off, none⟩, ys.length, cd, ints ys⟩) (by simp)
        go_wp2_with fail
        refine (own_len (n := n) ys rfl (by omega) _ (some ⟨b, off, none⟩) cd (HS.out.all ⟨D, n, some ⟨b, off, none⟩, ys.length, cd, ints ys⟩ (by simp)).r).mono ?_
        rintro e w6 ⟨p1, c1, rfl, hr1, hb6⟩
        obtain ⟨b1, o1, rfl, hv1⟩ := vat_of_reads hr1 HV.out
        have HV1 := Lib.hid hv1
        have HS6 := Lib.hid (HS.out.next hb6)
        have HKs6 := Lib.hid (HKs.out.below hb6)
        have HA6 := Lib.hid (HA2.out.next hb6)
        clear HS HKs HA2 q0 hr1 hv1 hb6
        go_wp2_with fail
        refine (HInts.out _ _ _ HKs6.out).mono ?_
        rintro e w7 ⟨p2, c2, rfl, hr2, hb7⟩
        have HR2 := Lib.hid hr2
        have HV7 := Lib.hid (HV1.out.below hb7)
        have HS7 := Lib.hid (HS6.out.next hb7)
        have HKs7 := Lib.hid (HKs6.out.below hb7)
        have HA7 := Lib.hid (HA6.out.next hb7)
        clear HS6 HKs6 HA6 HV1 hb7 hr2 HInts
        go_wp2_with fail
        refine (HAsk.out w7 b1 o1 c1 p2 c2 HV7.out HR2.out).mono ?_
        rintro e w8 ⟨pr, kk, rfl, hr8, hb8⟩
        have HS8 := Lib.hid ((HS7.out.next hb8).push h pr AF.length kk AF hr8)
        have HKs8 := Lib.hid ((HKs7.out.below hb8).below (below1 _ (.cells #[.int .i64 h, .slice pr AF.length kk] 24)))
        have HA8 := Lib.hid ((HA7.out.next hb8).alloc (.cells #[.int .i64 h, .slice pr AF.length kk] 24))
        clear HS7 HKs7 HA7 HV7 HR2 HAsk hb8 hr8
        have q0 := HS8.out.get (x := ⟨D, n, some ⟨b, off, none⟩, ys.length, cd, ints ys⟩) (by simp)
        go_wp2_with fail
        obtain ⟨BA, hBA⟩ : ∃ BA, w8.heap.size = BA := ⟨_, rfl⟩
        obtain ⟨W8, hW8⟩ : ∃ W8, w8.alloc (.cells #[.int .i64 h, .slice pr AF.length kk] 24) = W8 := ⟨_, rfl⟩
        rw [hBA, hW8] at HS8
        rw [hW8] at HKs8 HA8
        rw [hBA, hW8]
        clear hBA hW8 q0
        refine (own_len (n := n) ys rfl (by omega) _ (some ⟨b, off, none⟩) cd (HS8.out.all ⟨D, n, some ⟨b, off, none⟩, ys.length, cd, ints ys⟩ (by simp)).r).mono ?_
        rintro e w9 ⟨p3, c3, rfl, hr3, hb9⟩
        obtain ⟨b3, o3, rfl, hv3⟩ := vat_of_reads hr3 HV.out
        have HV3 := Lib.hid hv3
        have HS9 := Lib.hid (HS8.out.next hb9)
        have HKs9 := Lib.hid (HKs8.out.below hb9)
        have HA9 := Lib.hid (HA8.out.next hb9)
        clear HS8 HKs8 HA8 hb9 hr3 hv3
        go_wp2_with fail
        refine (Proof_ok n b3 o3 c3 m ys w9 HV3.out hm1 (by omega)).mono ?_
        rintro e w10 ⟨v, rfl, hrow, hb10⟩
        obtain ⟨ws, hws⟩ : ∃ ws, ws = proofN n m ys := ⟨_, rfl⟩
        have hlen : ws.length ≤ 480 := by
          have h1 := proof_len (n := n) (m := m) (ys := ys) HV.out.n0
          have h2 : ys.length * n ≤ 20 * 24 := Nat.mul_le_mul hl20 n1
          rw [hws]; omega
        have HAp := Lib.hid (show Apart n m ys ws from hws ▸ apart_of HV.out.n0 HV.out.lt)
        rw [← hws] at hrow
        obtain ⟨pv, capv, rfl, hfl⟩ := Fls.of_row hrow
        have HFl := Lib.hid hfl
        have HWs := Lib.hid hws
        have HS10 := Lib.hid (HS9.out.next hb10)
        have HKs10 := Lib.hid (HKs9.out.below hb10)
        have HA10 := Lib.hid (HA9.out.next hb10)
        clear HS9 HKs9 HA9 HV3 hb10 hrow hws hfl
        have q0 := HS10.out.get (x := ⟨D, n, some ⟨b, off, none⟩, ys.length, cd, ints ys⟩) (by simp)
        have hl0 : (0 : Int) ≤ (ws.length : Int) := by omega
        have hl9 : (ws.length : Int) ≤ 1000 := by omega
        go_wp2_with fail
        refine (own_row_any (n := n) ys rfl (by omega) (by omega) w10 _ _ (HS10.out.all ⟨D, n, some ⟨b, off, none⟩, ys.length, cd, ints ys⟩ (by simp)).r).mono ?_
        rintro e w11 ⟨go, co, rfl, hro, hgo, hb11⟩
        go_wp2_with fail
        have HP0 := Lib.hid (PB2.start (n := n) hro hgo.2 hb11)
        obtain ⟨BO, hBO⟩ : ∃ BO, w11.heap.size = BO := ⟨_, rfl⟩
        obtain ⟨W11, hW11⟩ : ∃ W11, w11.alloc (.cells #[.int .i64 (n : Int), .slice (some ⟨go, 0, none⟩) ys.length co] 24) = W11 := ⟨_, rfl⟩
        rw [hBO, hW11] at HP0
        rw [hBO, hW11]
        have HT10 := Lib.hid (fun (W : World) (hw : Aft w10 W) (j : Nat) => (hw.b.cell (p := ⟨w.heap.size + 1, j, none⟩) (by have := HA10.out.b.size; have := Hsa.out; simp; omega)).trans (HA10.out.b.cell (p := ⟨w.heap.size + 1, j, none⟩) (by have := Hsa.out; simp; omega)))
        clear hro hgo hb11 hBO hW11 q0 hl0 hl9
        go_loopw [18] (fun kk wr => ∃ (q : Nat) (zs : List Nat), q ≤ 2 ∧ kk = .int .i64 (q : Int) ∧ Other n ys rows zs ∧ PB2 w10 BO n go co ys.length zs wr) (fun kk _ => 2 - (intOf kk).toNat)
        case atStart => exact ⟨0, ys, by omega, rfl, Other.start HV.out rows, HP0.out⟩
        case round =>
          obtain ⟨q, zs, hq, rfl, hO, hP2⟩ := hrel
          have HO := Lib.hid hO
          have HP2 := Lib.hid hP2
          clear hO hP2 HP0
          by_cases hq2 : q < 2
          · as_aux_lemma =>
            have htt : ∃ T : Nat, T < 256 ∧ wr.cell? ⟨w.heap.size + 1, 1 + q, none⟩ = some (.int .u8 (T : Int)) := by
              obtain h | h : q = 0 ∨ q = 1 := by omega
              · subst h; exact ⟨T1, ht1, (HT10.out wr HP2.out.a 1).trans HT.out.2.1⟩
              · subst h; exact ⟨T2, ht2, (HT10.out wr HP2.out.a 2).trans HT.out.2.2⟩
            obtain ⟨T, hT, hct⟩ := htt
            have d0 := ((HS10.out.next HP2.out.a.b)).get (x := ⟨D, n, some ⟨b, off, none⟩, ys.length, cd, ints ys⟩) (by simp)
            have z0 := HP2.out.o.c0
            have z1 := HP2.out.o.c1
            obtain ⟨I, hI⟩ : ∃ I, I = T % ys.length := ⟨_, rfl⟩
            obtain ⟨bt, hbt⟩ : ∃ bt, bt = T / 8 % n := ⟨_, rfl⟩
            have hIl : I < ys.length := by rw [hI]; exact Nat.mod_lt _ (by omega)
            have hbn : bt < n := by rw [hbt]; exact Nat.mod_lt _ (by omega)
            have hkc := reads_cell HLr.out (HKs10.out.below HP2.out.a.b) hIl
            have hzl := HO.out.l
            have hoc := row_cell HP2.out.r (j := I) (by omega)
            obtain ⟨X, hX⟩ : ∃ X, X = nthN rows I := ⟨_, rfl⟩
            obtain ⟨Zi, hZi⟩ : ∃ Zi, Zi = nthN zs I := ⟨_, rfl⟩
            rw [← hX] at hkc
            rw [← hZi] at hoc
            have hXl : X < 16777216 := by rw [hX]; exact Nat.lt_of_lt_of_le (HLt.out I) (Nat.le_trans (Nat.pow_le_pow_right (by decide) n1) (by decide))
            have hZl : Zi < 16777216 := by rw [hZi]; exact HO.out.v.lt' I
            have hb2 : 2 ^ bt ≤ 16777216 := Nat.le_trans (Nat.pow_le_pow_right (by decide) (show bt ≤ 24 by omega)) (by decide)
            have hand : bits .and .i64 (X : Int) ((2 : Int) ^ bt) = ((X &&& 2 ^ bt : Nat) : Int) := by rw [← two_pow_cast, i64_and_nat _ _ (by omega) (by omega)]
            have hxor : bits .xor .i64 (Zi : Int) ((2 : Int) ^ bt) = ((Zi ^^^ 2 ^ bt : Nat) : Int) := by rw [← two_pow_cast, i64_xor_nat _ _ (by omega) (by omega)]
            have e0 : IntKind.i64.wrap (T : Int) = (T : Int) := IntWalk.i64_in _ (by omega)
            have e1 := tmod_eq (T : Int) ys.length (by omega)
            rw [Int.toNat_natCast, ← hI] at e1
            have e2 : (T : Int).tdiv 8 = ((T / 8 : Nat) : Int) := by rw [Int.tdiv_eq_ediv_of_nonneg (by omega)]; omega
            obtain ⟨T8, hT8⟩ : ∃ T8, T8 = T / 8 := ⟨_, rfl⟩
            rw [← hT8] at e2 hbt
            have e3 := tmod_eq (T8 : Int) n (by omega)
            rw [Int.toNat_natCast, ← hbt] at e3
            have e4 : IntKind.i64.wrap (T8 : Int) = (T8 : Int) := IntWalk.i64_in _ (by omega)
            have hun : IntKind.u64.wrap (bt : Int) = (bt : Int) := IntWalk.u64_in _ (by omega)
            have hmn : min bt 64 = bt := by omega
            obtain ⟨hb3, hb4⟩ := pow_bds bt (by omega)
            have hwp : IntKind.i64.wrap ((2 : Int) ^ bt) = (2 : Int) ^ bt := IntWalk.i64_in _ (by omega)
            have hw1 : IntKind.i64.wrap 1 = 1 := by decide
            have hwq : IntKind.i64.wrap (1 + (q : Int)) = 1 + (q : Int) := IntWalk.i64_in _ (by omega)
            have hqn : (1 + (q : Int)).toNat = 1 + q := by omega
            have hq0 : (0 : Int) ≤ 1 + (q : Int) := by omega
            have hq3 : 1 + (q : Int) < 3 := by omega
            have hs1 : ¬ ys.length = 0 := by omega
            have hs2 : ¬ n = 0 := by omega
            have hi0 : (0 : Int) ≤ (I : Int) := by omega
            have hi1 : (I : Int) < (ys.length : Int) := by omega
            have HX := Lib.hid hX
            have HZi := Lib.hid hZi
            clear hI hbt hX hZi hT8 hzl
            by_cases hx0 : X &&& 2 ^ bt = 0
            · have hb0 : (((X &&& 2 ^ bt : Nat) : Int) == 0) = true := by rw [beq_iff_eq]; omega
              have HNx := Lib.hid (show Other n ys rows (zs.set I (Zi ^^^ 2 ^ bt)) from by rw [HZi.out]; exact HO.out.flip hIl hbn (by rw [← HX.out]; exact hx0))
              obtain ⟨A, hA⟩ : ∃ A, A = X &&& 2 ^ bt := ⟨_, rfl⟩
              obtain ⟨Y, hY⟩ : ∃ Y, Y = Zi ^^^ 2 ^ bt := ⟨_, rfl⟩
              rw [← hA] at hand hb0
              rw [← hY] at hxor HNx
              clear hx0 hA hY
              go_wp2_with fail
              go_quiet (fail)
              have HPq := Lib.hid (fun a => HP2.out.next (below_drewN wr wr.heap.size a))
              clear e0 e1 e2 e3 e4 hun hmn hwp hw1 hwq hqn hs1 hs2
              go_wp2_with fail
              go_roundw
              case rel => exact ⟨q + 1, _, by omega, by go_num, HNx.out, (HPq.out _).write I Y⟩
              case measure => simp [intOf]; omega
            · have hb0 : (((X &&& 2 ^ bt : Nat) : Int) == 0) = false := by rw [beq_eq_false_iff_ne]; omega
              obtain ⟨A, hA⟩ : ∃ A, A = X &&& 2 ^ bt := ⟨_, rfl⟩
              rw [← hA] at hand hb0
              clear hx0 hA
              go_wp2_with fail
              go_quiet (fail)
              have HPq := Lib.hid (fun a => HP2.out.next (below_drewN wr wr.heap.size a))
              clear e0 e1 e2 e3 e4 hun hmn hwp hw1 hwq hqn hs1 hs2
              go_wp2_with fail
              go_roundw
              case rel => exact ⟨q + 1, zs, by omega, by go_num, HO.out, HPq.out _⟩
              case measure => simp [intOf]; omega
          · as_aux_lemma =>
            obtain rfl : q = 2 := by omega
            have HS12 := Lib.hid (HS10.out.next HP2.out.a.b)
            have z0 := HP2.out.o.c0
            have z1 := HP2.out.o.c1
            have hzl := Lib.hid HO.out.l
            have d0 := HS12.out.get (x := ⟨D, n, some ⟨b, off, none⟩, ys.length, cd, ints ys⟩) (by simp)
            rcases HCase.out with ⟨rfl, rfl, rfl, rfl, k0, hk0, hn0⟩ | ⟨rfl, ax, rfl, rfl, hfix⟩
            · as_aux_lemma =>
              have qa := HS12.out.get (x := ⟨BA, 0, pr, ([] : List Int).length, kk, []⟩) (by simp)
              simp only [List.length_nil] at qa
              have HNo := Lib.hid (HO.out.never HV.out hk0 hn0)
              clear hk0 hn0
              go_wp2_with fail
              refine (none_any pr kk _).mono ?_
              rintro e w12 ⟨rfl, hb12⟩
              have HP12 := Lib.hid (HP2.out.next hb12)
              have HS13 := Lib.hid (HS12.out.next hb12)
              clear z0 z1 d0 qa hb12 HS12
              have z0 := HP12.out.o.c0
              have z1 := HP12.out.o.c1
              go_wp2_with fail
              refine (bound_len w12 hzl.out (HP12.out.vat hzl.out (by omega) HO.out.v) (by omega)).mono ?_
              rintro e w13 ⟨⟨B, rfl, hBi⟩, hb13⟩
              have hBf : B = false := by
                cases B with
                | false => rfl
                | true => exact absurd (hBi.1 rfl) HNo.out
              subst hBf
              have HS14 := Lib.hid (HS13.out.next hb13)
              clear hBi hb13 z0 z1
              go_wp2_with fail
              refine (known_any _).mono ?_
              rintro e wz ⟨rfl, hbz⟩
              have SZ := Lib.hid (HS14.out.next hbz)
              clear hbz HS14
              go_wp2_with fail
              go_ret
              exact ⟨rfl, SZ.out.below⟩
            · as_aux_lemma =>
              have qa := HS12.out.get (x := ⟨BA, n, pr, (ints ax).length, kk, ints ax⟩) (by simp)
              rw [ints_len, hfix.l] at qa
              obtain ⟨ab, ao, hpr, _⟩ := vat_of_reads (ys := ax) (by have := (HS12.out.all ⟨BA, n, pr, (ints ax).length, kk, ints ax⟩ (by simp)).r; rw [ints_len] at this; exact this) hfix.v
              have HFix := Lib.hid hfix
              clear hfix
              subst hpr
              have HVa := Lib.hid (fun (W : World) (hS : Boxes w [⟨BA, n, some ⟨ab, ao, none⟩, (ints ax).length, kk, ints ax⟩, ⟨D, n, some ⟨b, off, none⟩, ys.length, cd, ints ys⟩] W) => vat_of (W := W) (by have := (hS.all ⟨BA, n, some ⟨ab, ao, none⟩, (ints ax).length, kk, ints ax⟩ (by simp)).r; rw [ints_len] at this; exact this) HFix.out.v)
              have HVd := Lib.hid (fun (W : World) (hS : Boxes w [⟨BA, n, some ⟨ab, ao, none⟩, (ints ax).length, kk, ints ax⟩, ⟨D, n, some ⟨b, off, none⟩, ys.length, cd, ints ys⟩] W) => hS.vat (B := D) (b := b) (off := off) (c := cd) (by simp) HV.out)
              clear z0 z1 qa d0
              go_upto_region 22 with fail
              go_cut [178] (fun s178 wx => s178 = .bool false ∧ PB2 w10 BO n go co ys.length zs wx)
              case first => as_aux_lemma =>
                have z0 := HP2.out.o.c0
                have z1 := HP2.out.o.c1
                have d0 := HS12.out.get (x := ⟨D, n, some ⟨b, off, none⟩, ys.length, cd, ints ys⟩) (by simp)
                have qa := HS12.out.get (x := ⟨BA, n, some ⟨ab, ao, none⟩, (ints ax).length, kk, ints ax⟩) (by simp)
                rw [ints_len, HFix.out.l] at qa
                go_wp2_with fail
                refine (right_len2 _ HFix.out.l (HVa.out _ HS12.out)).mono ?_
                rintro e w12 ⟨rfl, hb12⟩
                have HP12 := Lib.hid (HP2.out.next hb12)
                have HS13 := Lib.hid (HS12.out.next hb12)
                clear z0 z1 d0 qa hb12 HS12
                have d0 := HS13.out.get (x := ⟨D, n, some ⟨b, off, none⟩, ys.length, cd, ints ys⟩) (by simp)
                have qa := HS13.out.get (x := ⟨BA, n, some ⟨ab, ao, none⟩, (ints ax).length, kk, ints ax⟩) (by simp)
                rw [ints_len, HFix.out.l] at qa
                go_wp2_with fail
                refine (bound_len w12 HFix.out.l (HVa.out _ HS13.out) (by omega)).mono ?_
                rintro e w13 ⟨⟨B, rfl, hBi⟩, hb13⟩
                have hBt : B = true := hBi.2 fun i hi => (HFix.out.ok i (by have := HFix.out.l; omega)).2
                subst hBt
                have HP13 := Lib.hid (HP12.out.next hb13)
                have HS14 := Lib.hid (HS13.out.next hb13)
                clear hBi d0 qa hb13 HS13 HP12
                have d0 := HS14.out.get (x := ⟨D, n, some ⟨b, off, none⟩, ys.length, cd, ints ys⟩) (by simp)
                have qa := HS14.out.get (x := ⟨BA, n, some ⟨ab, ao, none⟩, (ints ax).length, kk, ints ax⟩) (by simp)
                rw [ints_len, HFix.out.l] at qa
                have hss : ((S : Int) != (S : Int)) = false := by simp
                go_wp2_with fail
                refine (changes_len (-1) w13 rfl HFix.out.l (HVd.out _ HS14.out) (HVa.out _ HS14.out)).mono ?_
                rintro e w14 ⟨rfl, hb14⟩
                rw [← HFix.out.s]
                have HP14 := Lib.hid (HP13.out.next hb14)
                have HS15 := Lib.hid (HS14.out.next hb14)
                clear d0 qa hb14 HS14 HP13
                have z0 := HP14.out.o.c0
                have z1 := HP14.out.o.c1
                go_wp2_with fail
                refine (bound_len w14 hzl.out (HP14.out.vat hzl.out (by omega) HO.out.v) (by omega)).mono ?_
                rintro e w15 ⟨⟨B, rfl, hBi⟩, hb15⟩
                have HP15 := Lib.hid (HP14.out.next hb15)
                have HS16 := Lib.hid (HS15.out.next hb15)
                clear z0 z1 hb15 HS15 HP14
                cases B with
                | false =>
                  clear hBi
                  go_wp2_with fail
                  go_meet
                  exact ⟨rfl, HP15.out⟩
                | true =>
                  have hle := HO.out.more HFix.out (hBi.1 rfl)
                  have z0 := HP15.out.o.c0
                  have z1 := HP15.out.o.c1
                  have d0 := HS16.out.get (x := ⟨D, n, some ⟨b, off, none⟩, ys.length, cd, ints ys⟩) (by simp)
                  clear hBi
                  go_wp2_with fail
                  refine (changes_len (-1) w15 rfl hzl.out (HVd.out _ HS16.out) (HP15.out.vat hzl.out (by omega) HO.out.v)).mono ?_
                  rintro e w16 ⟨rfl, hb16⟩
                  obtain ⟨C, hC⟩ : ∃ C, C = chAll (-1) n ys zs ys.length := ⟨_, rfl⟩
                  rw [← hC] at hle ⊢
                  have hcs : decide ((C : Int) < (S : Int)) = false := by simp; omega
                  have HCS := Lib.hid (show decide (C < S) = false by simp; omega)
                  have HP16 := Lib.hid (HP15.out.next hb16)
                  clear hC hle z0 z1 d0 hb16
                  go_wp2_with fail
                  go_meet
                  exact ⟨congrArg Value.bool HCS.out, HP16.out⟩
              case rest => as_aux_lemma =>
                obtain ⟨rfl, hPx⟩ := hcut
                have HPx := Lib.hid hPx
                have HSx := Lib.hid (HS10.out.next hPx.a.b)
                clear hPx HP2 HS12
                have d0 := HSx.out.get (x := ⟨D, n, some ⟨b, off, none⟩, ys.length, cd, ints ys⟩) (by simp)
                have hmk := run_make_row' (P := Try.prog) 22 3 (.int .i64 0) 8 Try.underlying22 Try.info3 rfl .i64 .i64 ys.length (by omega) (by omega)
                have hl00 : (0 : Int) ≤ (ys.length : Int) := by omega
                go_wp2_with fail
                clear hmk hl00 d0
                obtain ⟨RW, hRW⟩ : ∃ RW, wc.heap.size = RW := ⟨_, rfl⟩
                obtain ⟨W12, hW12⟩ : ∃ W12, wc.alloc (.cells (madeCells #[.int .i64 0] ys.length) 3) = W12 := ⟨_, rfl⟩
                have HQ0 := Lib.hid (PB3.start wc ys.length)
                rw [hW12, hRW] at HQ0
                rw [hW12, hRW]
                clear hW12 hRW
                go_loopw [22] (fun i wr => ∃ (k : Nat) (cs : List Nat), k ≤ ws.length ∧ i = .int .i64 (k : Int) ∧ Cnt ws ys.length k cs ∧ PB3 wc RW cs wr) (fun i _ => ws.length - (intOf i).toNat)
                case atStart => exact ⟨0, _, Nat.zero_le _, rfl, Cnt.start ws ys.length, HQ0.out⟩
                case round =>
                  obtain ⟨k, cs, hk, rfl, hC, hQ⟩ := hrel
                  have HC := Lib.hid hC
                  have HQ := Lib.hid hQ
                  clear hC hQ HQ0
                  by_cases hlt : k < ws.length
                  · as_aux_lemma =>
                    obtain ⟨gw, rfl, hFA⟩ := HFl.out (by omega)
                    have hFA2 := (hFA.below HPx.out.a.b hFA.lt).below HQ.out.a.b (Nat.lt_of_lt_of_le hFA.lt HPx.out.a.b.size)
                    have c0 := hFA2.c0 k hlt
                    have hP := (HAp.out.each k hlt).1
                    obtain ⟨P, hPe⟩ : ∃ P, (nthF ws k).pick = P := ⟨_, rfl⟩
                    rw [hPe] at c0 hP
                    have r0 := HQ.out.nb.cell (i := P) (by have := HC.out.l; omega)
                    have r1 := HQ.out.nb.frozen P
                    obtain ⟨V, hV⟩ : ∃ V, V = nthN cs P := ⟨_, rfl⟩
                    rw [← hV] at r0
                    have hVl : V ≤ 480 := by rw [hV, HC.out.c P hP]; have := cntTo_le ws P k; omega
                    have hk0 : (0 : Int) ≤ (k : Int) := by omega
                    have hk1 : (k : Int) < (ws.length : Int) := by omega
                    have hP0 : decide ((P : Int) < 0) = false := by simp
                    have hP1 : decide ((ys.length : Int) ≤ (P : Int)) = false := by simp; omega
                    have hP2 : (0 : Int) ≤ (P : Int) := by omega
                    have hP3 : (P : Int) < (ys.length : Int) := by omega
                    have HCn := Lib.hid (HC.out.step hPe hP)
                    have HQn := Lib.hid (HQ.out.write P (V + 1) (by have := HC.out.l; omega))
                    rw [← hV] at HCn
                    have hVc : ((V + 1 : Nat) : Int) = (V : Int) + 1 := by omega
                    rw [hVc] at HQn
                    clear hPe hV hFA2 hVc
                    go_wp2_with fail
                    go_roundw
                    case rel => exact ⟨k + 1, _, by omega, by go_num, HCn.out, HQn.out⟩
                    case measure => simp [intOf]; omega
                  · as_aux_lemma =>
                    obtain rfl : k = ws.length := by omega
                    have HSy := Lib.hid (HSx.out.next HQ.out.a.b)
                    go_wp2_with fail
                    go_loopw [23] (fun i wz => ∃ k : Nat, k ≤ ys.length ∧ i = .int .i64 (k : Int) ∧ PB3 wc RW cs wz) (fun i _ => ys.length - (intOf i).toNat)
                    case atStart => exact ⟨0, Nat.zero_le _, rfl, HQ.out⟩
                    case round =>
                      obtain ⟨k, hk, rfl, hQz⟩ := hrel
                      have HQz := Lib.hid hQz
                      clear hQz
                      have d0 := (HSx.out.next HQz.out.a.b).get (x := ⟨D, n, some ⟨b, off, none⟩, ys.length, cd, ints ys⟩) (by simp)
                      by_cases hlt2 : k < ys.length
                      · as_aux_lemma =>
                        obtain ⟨A, hA⟩ : ∃ A, A = nthN ax k := ⟨_, rfl⟩
                        obtain ⟨Y, hY⟩ : ∃ Y, Y = nthN ys k := ⟨_, rfl⟩
                        obtain ⟨Kx, hKx⟩ : ∃ Kx, Kx = nthN rows k := ⟨_, rfl⟩
                        obtain ⟨Cw, hCw⟩ : ∃ Cw, Cw = nthN cs k := ⟨_, rfl⟩
                        obtain ⟨Cc, hCc⟩ : ∃ Cc, Cc = chAll (k : Int) n ys ax ys.length := ⟨_, rfl⟩
                        have hKl : Kx < 16777216 := by rw [hKx]; exact Nat.lt_of_lt_of_le (HLt.out k) (Nat.le_trans (Nat.pow_le_pow_right (by decide) n1) (by decide))
                        have hAl : A < 16777216 := by rw [hA]; exact HFix.out.v.lt' k
                        have hYl : Y < 16777216 := by rw [hY]; exact HV.out.lt' k
                        have hst := fixed_stays HV.out HFix.out hlt2
                        rw [← hA, ← hY, ← hKx] at hst
                        have hx1 : bits .xor .i64 (A : Int) (Y : Int) = ((A ^^^ Y : Nat) : Int) := i64_xor_nat _ _ (by omega) (by omega)
                        have hXYl : A ^^^ Y < 2 ^ 24 := Nat.xor_lt_two_pow (by omega) (by omega)
                        obtain ⟨XY, hXY⟩ : ∃ XY, XY = A ^^^ Y := ⟨_, rfl⟩
                        rw [← hXY] at hst hx1 hXYl
                        have hx2 : bits .and .i64 (XY : Int) (Kx : Int) = 0 := by rw [i64_and_nat _ _ (by omega) (by omega), hst]; rfl
                        have hen := enough HV.out HFix.out hlt2
                        rw [← HWs.out, ← HC.out.c k hlt2, ← hCw, ← hCc] at hen
                        have hcs : decide ((Cc : Int) < (Cw : Int)) = false := by simp; omega
                        have HCN := Lib.hid (show decide (Cc < Cw) = false by simp; omega)
                        have HK := Lib.hid (fun (W : World) (hw : PB3 wc RW cs W) => (⟨((HSx.out.next hw.a.b).get (x := ⟨BA, n, some ⟨ab, ao, none⟩, (ints ax).length, kk, ints ax⟩) (by simp)).1,
                          (by have := ((HSx.out.next hw.a.b).get (x := ⟨BA, n, some ⟨ab, ao, none⟩, (ints ax).length, kk, ints ax⟩) (by simp)).2.1; simp only [ints_len, HFix.out.l] at this; exact this),
                          ((HSx.out.next hw.a.b).get (x := ⟨D, n, some ⟨b, off, none⟩, ys.length, cd, ints ys⟩) (by simp)).1, ((HSx.out.next hw.a.b).get (x := ⟨D, n, some ⟨b, off, none⟩, ys.length, cd, ints ys⟩) (by simp)).2.1,
                          (by rw [hA]; exact (HVa.out _ (HSx.out.next hw.a.b)).at' k (by rw [HFix.out.l]; exact hlt2)), (by rw [hY]; exact (HVd.out _ (HSx.out.next hw.a.b)).at' k hlt2),
                          (by rw [hKx]; exact reads_cell HLr.out ((HKs10.out.below HPx.out.a.b).below hw.a.b) hlt2), (by rw [hCw]; exact hw.nb.cell (by rw [HC.out.l]; exact hlt2)), hw⟩ :
                          W.cell? ⟨BA, 0, none⟩ = some (.int .i64 (n : Int)) ∧ W.cell? ⟨BA, 1, none⟩ = some (.slice (some ⟨ab, ao, none⟩) ys.length kk) ∧ W.cell? ⟨D, 0, none⟩ = some (.int .i64 (n : Int)) ∧ W.cell? ⟨D, 1, none⟩ = some (.slice (some ⟨b, off, none⟩) ys.length cd) ∧
                          W.cell? ⟨ab, ao + k, none⟩ = some (.int .i64 (A : Int)) ∧ W.cell? ⟨b, off + k, none⟩ = some (.int .i64 (Y : Int)) ∧ W.cell? ⟨gk, k, none⟩ = some (.int .i64 (Kx : Int)) ∧ W.cell? ⟨RW, k, none⟩ = some (.int .i64 (Cw : Int)) ∧ PB3 wc RW cs W))
                        have HCh := Lib.hid (fun (W : World) (hw : PB3 wc RW cs W) => changes_len (k : Int) W rfl HFix.out.l (HVd.out _ (HSx.out.next hw.a.b)) (HVa.out _ (HSx.out.next hw.a.b)))
                        rw [← hCc] at HCh
                        have HQd := Lib.hid (HQz.out.next (below_drew1 _))
                        have hk0 : (0 : Int) ≤ (k : Int) := by omega
                        have hk1 : (k : Int) < (ys.length : Int) := by omega
                        clear hA hY hKx hCw hCc hst hXY hen hKl hAl hYl hXYl
                        go_wp2_with fail
                        go_region_held3 (fun W => W.cell? ⟨BA, 0, none⟩ = some (.int .i64 (n : Int)) ∧ W.cell? ⟨BA, 1, none⟩ = some (.slice (some ⟨ab, ao, none⟩) ys.length kk) ∧ W.cell? ⟨D, 0, none⟩ = some (.int .i64 (n : Int)) ∧ W.cell? ⟨D, 1, none⟩ = some (.slice (some ⟨b, off, none⟩) ys.length cd) ∧
                            W.cell? ⟨ab, ao + k, none⟩ = some (.int .i64 (A : Int)) ∧ W.cell? ⟨b, off + k, none⟩ = some (.int .i64 (Y : Int)) ∧ W.cell? ⟨gk, k, none⟩ = some (.int .i64 (Kx : Int)) ∧ W.cell? ⟨RW, k, none⟩ = some (.int .i64 (Cw : Int)) ∧ PB3 wc RW cs W)
                          ((first
                            | exact HK.out _ HQd.out
                            | (refine HK.out _ (PB3.next ?_ (by assumption)); go_split_ands; assumption)))
                          ((go_at_call 62; (with_reducible refine (HCh.out _ ?_).mono ?_); rotate_left 1; rintro e w15 ⟨rfl, hb15⟩; rotate_left 1; (first | exact HQd.out | (go_split_ands; assumption))))
                        all_goals have HQn := Lib.hid (show PB3 wc RW cs _ from (by go_split_ands; assumption))
                        all_goals clear hx1 hx2
                        all_goals have hcn := HCN.out
                        all_goals (try simp only [hcn])
                        all_goals go_wp2_with fail
                        all_goals go_roundw
                        all_goals first
                          | (simp [intOf]; omega)
                          | exact ⟨k + 1, by omega, by go_num, HQn.out⟩
                      · obtain rfl : k = ys.length := by omega
                        have HSz := Lib.hid (HSx.out.next HQz.out.a.b)
                        go_wp2_with fail
                        refine (known_any _).mono ?_
                        rintro e wz ⟨rfl, hbz⟩
                        have SZ := Lib.hid (HSz.out.next hbz)
                        clear hbz HSz
                        go_wp2_with fail
                        go_ret
                        exact ⟨rfl, SZ.out.below⟩
end Go.Proofs.Ytjobbleabepaiaa
