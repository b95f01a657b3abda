/- PointLayers: the walk. -/
import Derived.Test.YtjobbleabepaiaaYA
import Derived.Test.YtjobbleabepaiaaXR
import Derived.Test.YtjobbleabepaiaaRC
import Derived.Test.YtjobbleabepaiaaYO
import Derived.Deep.RegionHeld3
import Derived.Deep.DeepCutAuto
import Derived.KernelRfl
namespace Go.Proofs.Ytjobbleabepaiaa
open Go.RowKit Go.Shelf

/-- a paper's design -/
def PapE (hk : Nat) (h : Int) (xs : List Int) : Prop := h = ((paperN hk 24 : Nat) : Int) ∧ ∃ ys, xs = ints ys ∧ Valid (paperN hk 24) ys ∧ ys.length ≤ 20
def papLop (src : Nat → Nat) (j : Nat) : Op := .load 81 (.tmp (src j))
def papCop (ld : Nat → Nat) (j : Nat) : Op := .call { callee := .value (.func 59), args := #[.tmp (ld j), .const (.int .i64 24)], argTypes := #[81, 3] }
theorem region_papers {id : Nat} {ops : Array Oper} {Q : Exit → Act → World → Prop} {a : Act} {w : World} (k : Nat) (hk l c : Nat → Nat) (p : Nat → Option Addr) (us : Nat → List Nat) (B : Nat → Nat) (src ld cs ps : Nat → Nat) (ds : List Nat)
    (hsize : ops.size = 4 * k) (hops : ∀ j, j < k → LaneOps ops k ld cs ps (papLop src) (papCop ld) j) (S : Slots k ld cs ps) (hin : ∀ j, j < k → ld j ∈ ds ∧ cs j ∈ ds ∧ ps j ∈ ds)
    (hb : backB ops = true) (hnd : ds.Nodup) (hsz : ∀ d ∈ ds, d < a.tmps.size) (hout : ∀ j, j < k → a.eval (.tmp (src j)) = .pointer (some ⟨B j, 0, none⟩) ∧ src j ∉ ds) (hdst : dstB ops ds = true)
    (hbox : ∀ j, j < k → w.cell? ⟨B j, 0, none⟩ = some (.int .u8 (hk j : Int)) ∧ w.cell? ⟨B j, 1, none⟩ = some (.slice (p j) (l j) (c j)) ∧ B j < w.heap.size) (hu : ∀ j, j < k → hk j < 256 ∧ U16At w (.slice (p j) (l j) (c j)) (us j))
    (hend : ∀ v W, (∀ j, j < k → ∃ b bb bo c ys, v (ps j) = .pointer (some ⟨b, 0, none⟩) ∧ ArgBox W b (paperN (hk j) 24 : Nat) (some ⟨bb, bo, none⟩) ys.length c ∧ VAt W bb bo c (paperN (hk j) 24) ys ∧ ys.length ≤ 20) → Below w.heap.size w W → Q .normal (laid a ds v) W) :
    (Code.region id ops true).wp Try.prog Q a w := by
  refine region_lanes k (fun j => .agg #[.int .u8 (hk j : Int), .slice (p j) (l j) (c j)]) (fun j => PapE (hk j)) ld cs ps (papLop src) (papCop ld) ds ((List.range k).map fun j => (src j, .pointer (some ⟨B j, 0, none⟩)))
    hsize hops S hin hb hnd hsz ?_ hdst ?_ ?_ ?_
  · intro q hq
    obtain ⟨j, hj, rfl⟩ := List.mem_map.1 hq
    exact hout j (by simpa using hj)
  · intro j hj a' W K ty pos aft hq hB hK
    have hs := hq (src j, .pointer (some ⟨B j, 0, none⟩)) (List.mem_map.2 ⟨j, by simpa using hj, rfl⟩)
    obtain ⟨h0, h1, hlt⟩ := hbox j hj
    exact step_load81 _ _ _ _ _ hs ((hB.cell (p := ⟨B j, 0, none⟩) hlt).trans h0) ((hB.cell (p := ⟨B j, 1, none⟩) hlt).trans h1) hK
  · intro j hj a' W K ty pos aft hs hB hK
    have hc := paperDesign_far (hk j) 24 (l j) (c j) (p j) (us j) W (by omega) (by omega) (hu j hj).1 ((hu j hj).2.below hB)
    have hK2 : ∀ e w', PaperF (paperN (hk j) 24) W e w' → ∃ v, e = .returned v ∧ K (a'.put (some (cs j)) v) w' := by
      rintro e w' ⟨b, off, cc, ys, rfl, hl, hv, hB', hf⟩
      exact ⟨_, rfl, hK _ _ _ _ _ _ ⟨rfl, ys, rfl, hv.ok, hl⟩ hv.reads (fun y e => by simp at e; subst e; exact hf) hB'⟩
    revert hs hc hK2
    exact @step_call59 Q K a' W (cs j) (ld j) #[81, 3] ty pos aft _ _ _
  · intro v W hl hB
    refine hend v W (fun j hj => ?_) hB
    obtain ⟨b, h, p, l, c, xs, e1, ⟨rfl, ys, rfl, hv, hl20⟩, e3, e4⟩ := hl j hj
    obtain rfl : l = ys.length := by rw [reads_len e4, ints_len]
    obtain ⟨bb, bo, rfl, hva⟩ := vat_of_reads e4 hv
    exact ⟨b, bb, bo, c, ys, e1, e3, hva, hl20⟩
set_option maxRecDepth 100000 in
set_option maxHeartbeats 8000000 in
theorem PointLayers_any (hk l c hk2 l2 c2 l3 c3 : Nat) (p p2 p3 : Option Addr) (us us2 us3 : List Nat) (w : World) (hk0 : hk < 256) (hk20 : hk2 < 256) (hu : U16At w (.slice p l c) us) (hu2 : U16At w (.slice p2 l2 c2) us2) (hu3 : U16At w (.slice p3 l3 c3) us3) :
    Calls Try.prog 15 #[.agg #[.int .u8 (hk : Int), .slice p l c], .agg #[.int .u8 (hk2 : Int), .slice p2 l2 c2], .slice p3 l3 c3] w fun e w' => e = .returned (.bool true) ∧ Below w.heap.size w w' := by
  have HU := Lib.hid hu
  have HU2 := Lib.hid hu2
  have HU3 := Lib.hid hu3
  have HK := Lib.hid hk0
  have HK2 := Lib.hid hk20
  clear hu hu2 hu3 hk0 hk20
  obtain ⟨i0, hi, hzI0, hzI1, hzI2⟩ := info_parts Try.info3
  go_enter Try.func15, Try.ntmps15
  go_wp2_with fail
  have hB1 := below2 w (.cells #[.int .u8 (hk : Int), .slice p l c] 81) (.cells #[.int .u8 (hk2 : Int), .slice p2 l2 c2] 81)
  have f1 := two_cells w (.int .u8 (hk : Int)) (.slice p l c) 81
  have f2 := two_cells (w.alloc (.cells #[.int .u8 (hk : Int), .slice p l c] 81)) (.int .u8 (hk2 : Int)) (.slice p2 l2 c2) 81
  have f3 := (below1 (w.alloc (.cells #[.int .u8 (hk : Int), .slice p l c] 81)) (.cells #[.int .u8 (hk2 : Int), .slice p2 l2 c2] 81)).cell (p := ⟨w.heap.size, 0, none⟩) (by simp)
  have f4 := (below1 (w.alloc (.cells #[.int .u8 (hk : Int), .slice p l c] 81)) (.cells #[.int .u8 (hk2 : Int), .slice p2 l2 c2] 81)).cell (p := ⟨w.heap.size, 1, none⟩) (by simp)
  have hz1 : ((w.alloc (.cells #[.int .u8 (hk : Int), .slice p l c] 81)).alloc (.cells #[.int .u8 (hk2 : Int), .slice p2 l2 c2] 81)).heap.size = w.heap.size + 1 + 1 := by simp
  rw [f1.1] at f3
  rw [f1.2] at f4
  simp only [World.size_alloc] at f2
  obtain ⟨W1, hW1⟩ : ∃ W1, (w.alloc (.cells #[.int .u8 (hk : Int), .slice p l c] 81)).alloc (.cells #[.int .u8 (hk2 : Int), .slice p2 l2 c2] 81) = W1 := ⟨_, rfl⟩
  rw [hW1] at hB1 f2 f3 f4 hz1 ⊢
  clear hW1 f1
  refine region_papers 2 (tri hk hk2 0) (tri l l2 0) (tri c c2 0) (tri p p2 none) (tri us us2 []) (tri w.heap.size (w.heap.size + 1) 0) (tri 3 4 0) (tri 25 27 0) (tri 26 28 0) (tri 7 8 0) [25, 27, 26, 28, 7, 8] rfl ?hops (slots_of (by decide)) (by decide) (by kernel_rfl) (by decide) ?hsz ?hout (by kernel_rfl) ?hbox ?hu ?hend
  case hops =>
    intro j hj
    match j, hj with
    | 0, _ => exact ⟨⟨_, _, _, rfl⟩, ⟨_, _, _, rfl, by kernel_rfl⟩, ⟨_, _, _, rfl⟩, ⟨_, _, _, rfl, by kernel_rfl, by kernel_rfl⟩⟩
    | 1, _ => exact ⟨⟨_, _, _, rfl⟩, ⟨_, _, _, rfl, by kernel_rfl⟩, ⟨_, _, _, rfl⟩, ⟨_, _, _, rfl, by kernel_rfl, by kernel_rfl⟩⟩
    | j + 2, h => omega
  case hsz => intro d hd; simp only [List.mem_cons, List.not_mem_nil, or_false] at hd; show d < 182; omega
  case hout =>
    intro j hj
    match j, hj with
    | 0, _ => exact ⟨rfl, by decide⟩
    | 1, _ => exact ⟨rfl, by decide⟩
    | j + 2, h => omega
  case hbox =>
    intro j hj
    match j, hj with
    | 0, _ => exact ⟨f3, f4, by show w.heap.size < _; omega⟩
    | 1, _ => exact ⟨f2.1, f2.2, by show w.heap.size + 1 < _; omega⟩
    | j + 2, h => omega
  case hu =>
    intro j hj
    match j, hj with
    | 0, _ => exact ⟨HK.out, HU.out.below hB1⟩
    | 1, _ => exact ⟨HK2.out, HU2.out.below hB1⟩
    | j + 2, h => omega
  case hend =>
    intro v W hl hB
    have h0 := hl 0 (by omega)
    have h1 := hl 1 (by omega)
    simp only [tri] at h0 h1
    clear hl
    obtain ⟨B1, b1, o1, cc1, gx, e1, a1, v1, lg⟩ := h0
    obtain ⟨B2, b2, o2, cc2, fx, e2, a2, v2, lf⟩ := h1
    simp only [laid, List.foldl, Act.put, List.setIfInBounds_toArray, List.set_cons_succ, List.set_cons_zero, e1, e2]
    obtain ⟨gn, hgn⟩ : ∃ gn, gn = paperN hk 24 := ⟨_, rfl⟩
    obtain ⟨fn, hfn⟩ : ∃ fn, fn = paperN hk2 24 := ⟨_, rfl⟩
    rw [← hgn] at a1 v1
    rw [← hfn] at a2 v2
    have S1 : Boxes w [⟨B2, fn, some ⟨b2, o2, none⟩, fx.length, cc2, ints fx⟩, ⟨B1, gn, some ⟨b1, o1, none⟩, gx.length, cc1, ints gx⟩] W :=
      ⟨fun x hx => by simp at hx; rcases hx with rfl | rfl <;> first | exact ⟨a2, v2.reads⟩ | exact ⟨a1, v1.reads⟩, hB1.trans (hB.mono (by omega))⟩
    have Hg := Lib.hid v1.ok
    have Hf := Lib.hid v2.ok
    obtain ⟨u25, hu25⟩ : ∃ u, v 25 = u := ⟨_, rfl⟩
    obtain ⟨u26, hu26⟩ : ∃ u, v 26 = u := ⟨_, rfl⟩
    obtain ⟨u27, hu27⟩ : ∃ u, v 27 = u := ⟨_, rfl⟩
    obtain ⟨u28, hu28⟩ : ∃ u, v 28 = u := ⟨_, rfl⟩
    rw [hu25, hu26, hu27, hu28]
    have fn0 := Hf.out.n0
    have fn1 := Hf.out.n1
    have fl0 := Hf.out.l0
    have c0 := a2.c0
    have c1 := a2.c1
    have clt := a2.lt
    have hM0 := Mk.new W fn
    have HM0 := Lib.hid hM0
    have HU4 := Lib.hid (HU3.out.below S1.below)
    have hl3 : l3 = us3.length ∧ l3 ≤ 9223372036854775807 := by
      obtain ⟨p', c', e, h2, _⟩ := HU3.out
      simp at e; omega
    have HL3 := Lib.hid hl3.1
    have hl3b := hl3.2
    have hC0 := Lib.hid c0
    have hC1 := Lib.hid c1
    have HS1 := Lib.hid S1
    clear hu25 hu26 hu27 hu28 e1 e2 a1 a2 v1 v2 hgn hfn hB f2 f3 f4 hB1 HU HU2 HK HK2 hM0 HU3 hl3 S1
    go_wp2_with fail
    clear c0 c1
    go_loopw [10] (fun i wr => ∃ (k : Nat) (rows : List Nat) (v : Value), k ≤ fx.length ∧ i = .int .i64 k ∧ rows.length = k ∧ (∀ i, nthN rows i < 2 ^ fn) ∧ Mk W W.heap.size fn rows v wr) (fun i _ => fx.length - (intOf i).toNat)
    case atStart => exact ⟨0, [], _, by omega, rfl, rfl, fun i => by simp [nthN]; exact Nat.pow_pos (by decide), HM0.out⟩
    case round =>
      obtain ⟨k, rows, v, hk20, rfl, hlen, hlt2, hM⟩ := hrel
      have HLen := Lib.hid hlen
      have HLt := Lib.hid hlt2
      have d0 := (hM.below.cell (p := ⟨B2, 0, none⟩) clt).trans hC0.out
      have d1 := (hM.below.cell (p := ⟨B2, 1, none⟩) clt).trans hC1.out
      have g0 := hM.r.c1
      have g1 := hM.r.f 1
      have g2 := hM.r.c0
      have hz : W.heap.size < wr.heap.size := hM.r.lt
      have hU := HU4.out.below hM.below
      have HM := Lib.hid hM
      have HRow := Lib.hid hM.row
      have hnr := hM.far (Nat.le_refl _)
      obtain ⟨hp1, hp2⟩ := pow_bds fn (by omega)
      clear hlen hlt2 hM
      by_cases hkl : k < fx.length
      · by_cases h30 : l3 = 0
        · subst h30
          have HZ : Hid (0 < 2 ^ fn) := Lib.hid (Nat.pow_pos (by decide))
          clear hU
          obtain ⟨Wr, hWr⟩ : ∃ Wr, Wr = wr := ⟨_, rfl⟩
          have hMr : Mk W W.heap.size fn rows v Wr := by rw [hWr]; exact HM.out
          rw [← hWr]
          clear hWr d0 d1 g0 g1 g2 HRow hz HM
          have d1 := (hMr.below.cell (p := ⟨B2, 1, none⟩) clt).trans hC1.out
          have g0 := hMr.r.c1
          have g1 := hMr.r.f 1
          have g2 := hMr.r.c0
          have hz : W.heap.size < Wr.heap.size := hMr.r.lt
          have HM := Lib.hid hMr
          have HRow := Lib.hid hMr.row
          clear hMr
          go_wp2_with (at_builtin; refine Shut.out ?_)
          unfold Shut
          refine wpList_append_lies _ rfl _ _ 22 rfl (W.heap.size + 1) 3 i0 (.int .i64 0) 1 8 Try.underlying22 hi hzI0 hzI1 hzI2 rfl (by omega) v rows.length (rows.map natV) rfl (HRow.out.alloc _) ⟨Wr.heap.size, 0, none⟩ 1 1 [.int .i64 0] rfl rfl (World.news_of_block (cs := #[.int .i64 0]) (t := 3) (fr := (0, 0)) (heap_alloc_new Wr _)) (by simp [Value.oneCell']) (by omega) (by rw [HLen.out]; unfold maxLen; omega) (by rw [HLen.out]; omega) (by simp; omega) (Wr.heap.size + 1) (by simp) ?_
          intro g5 cap w5 hown1 hgrow hat hglt
          have hBA := (HM.out.next ((Below.refl Wr.heap.size Wr).alloc (Nat.le_refl _) (.cells #[.int .i64 0] 3))).grew (rows' := rows ++ [0]) hgrow (by rw [List.length_append, List.length_singleton, List.map_append]; exact hown1)
          have hr5 : RBox w5 W.heap.size fn v := (hgrow.block _ (by simp; omega) hnr).trans ((Below.heap_alloc _ _ _ hz).trans HM.out.r)
          have f5 := hr5.f 1
          have c5 := hr5.c1
          have HBA := Lib.hid hBA
          have HNew : Hid ((rows ++ [0]).length = k + 1 ∧ ∀ i, nthN (rows ++ [0]) i < 2 ^ fn) := Lib.hid ⟨by rw [List.length_append, HLen.out]; rfl, fun i => nthN_push rows 0 fn i HLt.out HZ.out⟩
          clear hBA hr5 hown1 hgrow hat
          go_wp2_with fail
          go_roundw
          case rel => exact ⟨k + 1, rows ++ [0], _, by omega, by go_num, HNew.out.1, HNew.out.2, HBA.out⟩
          case measure => simp [intOf]; omega
        · obtain ⟨p', c', e, _, hv6, hx⟩ := hU
          simp at e
          obtain ⟨rfl, hle, rfl⟩ := e
          clear hle
          obtain ⟨b, off, rfl, hb, hcall⟩ := hx (by have := HL3.out; omega)
          obtain ⟨r, hr⟩ : ∃ r, k % l3 = r := ⟨_, rfl⟩
          have hrl : r < l3 := by rw [← hr]; exact Nat.mod_lt _ (by omega)
          have hc := hcall r (by have := HL3.out; omega)
          clear hcall
          have hX := hv6 r
          obtain ⟨X, hXe⟩ : ∃ X, X = nthN us3 r := ⟨_, rfl⟩
          rw [← hXe] at hc hX
          have hk0 : (0 : Int) ≤ (r : Int) := by omega
          have hk1 : (r : Int) < (l3 : Int) := by omega
          have hmod := tmod_cast k l3
          have hmod2 : (k : Int) % (l3 : Int) = (r : Int) := by rw [← hr]; exact (Int.natCast_emod _ _).symm
          rw [hr] at hmod
          have hu : IntKind.u64.wrap (fn : Int) = (fn : Int) := IntWalk.u64_in _ (by omega)
          have hmn : min fn 64 = fn := by omega
          have hw1 : IntKind.i64.wrap (2 ^ fn) = 2 ^ fn := IntWalk.i64_in _ (by omega)
          have hw2 : IntKind.i64.wrap (2 ^ fn - 1) = 2 ^ fn - 1 := IntWalk.i64_in _ (by omega)
          have hw3 : IntKind.i64.wrap ((X : Int) * 257) = (X : Int) * 257 := IntWalk.i64_in _ (by omega)
          have hw4 : IntKind.i64.wrap (X : Int) = (X : Int) := IntWalk.i64_in _ (by omega)
          have hl0 : (0 : Int) < (l3 : Int) := by omega
          have hl0' : ¬ (l3 : Int) = 0 := by omega
          have hval : bits .and .i64 ((X : Int) * 257) (2 ^ fn - 1) = (((X * 257) &&& (2 ^ fn - 1) : Nat) : Int) := by
            have h2 : (2 : Int) ^ fn - 1 = ((2 ^ fn - 1 : Nat) : Int) := by
              have e : (2 : Int) ^ fn = ((2 ^ fn : Nat) : Int) := (Int.natCast_pow 2 fn).symm
              have := Nat.pow_pos (n := fn) (show 0 < 2 by decide)
              rw [e]; omega
            have h3 : (2 : Nat) ^ fn ≤ 16777216 := Nat.le_trans (Nat.pow_le_pow_right (by decide) fn1) (by decide)
            rw [h2, show (X : Int) * 257 = ((X * 257 : Nat) : Int) by omega, i64_and_nat _ _ (by omega) (by omega)]
          obtain ⟨Z, hZ⟩ : ∃ Z, Z = (X * 257) &&& (2 ^ fn - 1) := ⟨_, rfl⟩
          have HZ := Lib.hid (show Z < 2 ^ fn by rw [hZ]; exact Nat.and_lt_two_pow _ (by have := Nat.pow_pos (n := fn) (show 0 < 2 by decide); omega))
          rw [← hZ] at hval
          clear hZ hXe hv6 hr hx
          go_wp2_with fail
          go_region
          clear hmod hmod2 hu hmn hw1 hw2 hw3 hw4 hval hc
          obtain ⟨Wr, hWr⟩ : ∃ Wr, Wr = wr.drew := ⟨_, rfl⟩
          have hMr : Mk W W.heap.size fn rows v Wr := by rw [hWr]; exact HM.out.next (below_drew1 wr)
          rw [← hWr]
          clear hWr d0 d1 g0 g1 g2 HRow hz HM
          have d1 := (hMr.below.cell (p := ⟨B2, 1, none⟩) clt).trans hC1.out
          have g0 := hMr.r.c1
          have g1 := hMr.r.f 1
          have g2 := hMr.r.c0
          have hz : W.heap.size < Wr.heap.size := hMr.r.lt
          have HM := Lib.hid hMr
          have HRow := Lib.hid hMr.row
          clear hMr
          go_wp2_with (at_builtin; refine Shut.out ?_)
          unfold Shut
          refine wpList_append_lies _ rfl _ _ 22 rfl (W.heap.size + 1) 3 i0 (.int .i64 0) 1 8 Try.underlying22 hi hzI0 hzI1 hzI2 rfl (by omega) v rows.length (rows.map natV) rfl (HRow.out.alloc _) ⟨Wr.heap.size, 0, none⟩ 1 1 [.int .i64 (Z : Int)] rfl rfl (World.news_of_block (cs := #[.int .i64 (Z : Int)]) (t := 3) (fr := (0, 0)) (heap_alloc_new Wr _)) (by simp [Value.oneCell']) (by omega) (by rw [HLen.out]; unfold maxLen; omega) (by rw [HLen.out]; omega) (by simp; omega) (Wr.heap.size + 1) (by simp) ?_
          intro g5 cap w5 hown1 hgrow hat hglt
          have hBA := (HM.out.next ((Below.refl Wr.heap.size Wr).alloc (Nat.le_refl _) (.cells #[.int .i64 (Z : Int)] 3))).grew (rows' := rows ++ [Z]) hgrow (by rw [List.length_append, List.length_singleton, List.map_append]; exact hown1)
          have hr5 : RBox w5 W.heap.size fn v := (hgrow.block _ (by simp; omega) hnr).trans ((Below.heap_alloc _ _ _ hz).trans HM.out.r)
          have f5 := hr5.f 1
          have c5 := hr5.c1
          have HBA := Lib.hid hBA
          have HNew : Hid ((rows ++ [Z]).length = k + 1 ∧ ∀ i, nthN (rows ++ [Z]) i < 2 ^ fn) := Lib.hid ⟨by rw [List.length_append, HLen.out]; rfl, fun i => nthN_push rows Z fn i HLt.out HZ.out⟩
          clear hBA hr5 hown1 hgrow hat
          go_wp2_with fail
          go_roundw
          case rel => exact ⟨k + 1, rows ++ [Z], _, by omega, by go_num, HNew.out.1, HNew.out.2, HBA.out⟩
          case measure => simp [intOf]; omega
      · obtain rfl : k = fx.length := by omega
        have h5 := HM.out.reads (by rw [HLen.out]; omega)
        obtain ⟨q, cc, rfl, hRd, hfar⟩ := h5
        have hV : Valid fn rows := ⟨fn0, fn1, by rw [HLen.out]; omega, by rw [HLen.out]; omega, HLt.out⟩
        obtain ⟨bm, om, rfl, hvm⟩ := vat_of_reads hRd hV
        have HV := Lib.hid hV
        have hS2 : Boxes w [⟨W.heap.size, fn, some ⟨bm, om, none⟩, rows.length, cc, ints rows⟩, ⟨B2, fn, some ⟨b2, o2, none⟩, fx.length, cc2, ints fx⟩, ⟨B1, gn, some ⟨b1, o1, none⟩, gx.length, cc1, ints gx⟩] wr := by
          have hs := HS1.out.next HM.out.below
          refine ⟨fun x hx => ?_, hs.below⟩
          rcases List.mem_cons.1 hx with rfl | hx
          · exact ⟨⟨g2, g0⟩, hRd⟩
          · exact hs.all x hx
        have HS2 := Lib.hid hS2
        clear hS2 hvm hV hRd hfar HM HRow HLt hnr g0 g1 g2 hz hU hp1 hp2 HM0 HS1 hC0 hC1 HU4 HL3 hl3b d0 hkl
        obtain ⟨BM, hBM⟩ : ∃ BM, BM = W.heap.size := ⟨_, rfl⟩
        rw [← hBM] at HS2 ⊢
        clear hBM
        go_wp2_with fail
        clear d1
        obtain ⟨ls, hls⟩ : ∃ ls, ls = painted (layG gx gn fx rows) fx.length fn := ⟨_, rfl⟩
        have HLy := Lib.hid (fun (W : World) (gb go gc fb fo fc mb mo mc : Nat) (h1 : VAt W gb go gc gn gx) (h2 : VAt W fb fo fc fn fx) (h3 : VAt W mb mo mc fn rows) => Lay_ok gn gb go gc fn fb fo fc mb mo mc gx fx rows W h1 h2 h3 HLen.out)
        rw [← hls] at HLy
        have lls : ls.length = fx.length := by rw [hls, painted_len]
        have Vls : Valid fn ls := by rw [hls]; exact painted_valid Hf.out _
        have Hls := Lib.hid hls
        have Hlls := Lib.hid lls
        have HVls := Lib.hid Vls
        clear hls lls Vls
        refine region_call3 7 B1 8 B2 9 BM ⟨gn, gx⟩ ⟨fn, fx⟩ ⟨fn, rows⟩ ⟨fn, ls⟩ (.call { callee := .value (.func 55), args := #[.tmp 65, .tmp 67, .tmp 69], argTypes := #[24, 24, 24] }) [64, 65, 66, 67, 68, 69, 70, 63, 71, 72, 12, 0, 13] [64, 65, 66, 67, 68, 69, 70, 63, 71, 72, 12, 13] rfl ?hops (by decide) (by decide) (by kernel_rfl) (by decide) ?hsz ⟨⟨rfl, rfl, rfl⟩, by decide, by decide, by decide⟩ (HS2.out.boxD (b := b1) (off := o1) (c := cc1) (by simp) Hg.out) (HS2.out.boxD (b := b2) (off := o2) (c := cc2) (by simp) Hf.out) (HS2.out.boxD (b := bm) (off := om) (c := cc) (by simp) HV.out) ?hcall ?hend (by show ls.length ≤ 1000; have := Hlls.out; omega)
        case hops =>
          intro i hi
          match i, hi with
          | 0, _ => exact ⟨_, _, _, rfl, fun j hj => by cases hj⟩
          | 1, _ => exact ⟨_, _, _, rfl, fun j hj => by cases hj; kernel_rfl⟩
          | 2, _ => exact ⟨_, _, _, rfl, fun j hj => by cases hj⟩
          | 3, _ => exact ⟨_, _, _, rfl, fun j hj => by cases hj; kernel_rfl⟩
          | 4, _ => exact ⟨_, _, _, rfl, fun j hj => by cases hj⟩
          | 5, _ => exact ⟨_, _, _, rfl, fun j hj => by cases hj; kernel_rfl⟩
          | 6, _ => exact ⟨_, _, _, rfl, fun j hj => by cases hj⟩
          | 7, _ => exact ⟨_, _, _, rfl, fun j hj => by cases hj; kernel_rfl⟩
          | 8, _ => exact ⟨_, _, _, rfl, fun j hj => by cases hj; kernel_rfl⟩
          | 9, _ => exact ⟨_, _, _, rfl, fun j hj => by cases hj; kernel_rfl⟩
          | 10, _ => exact ⟨_, _, _, rfl, fun j hj => by cases hj⟩
          | 11, _ => exact ⟨_, _, _, rfl, fun j hj => by cases hj⟩
          | 12, _ => exact ⟨_, _, _, rfl, fun j hj => by cases hj; kernel_rfl⟩
          | n + 13, h => omega
        case hsz => intro d hd; simp only [List.mem_cons, List.not_mem_nil, or_false] at hd; show d < 182; omega
        case hcall => exact fun ty pos aft e outs => flow_call55 (j1 := 1) (j2 := 3) (j3 := 5) (fun _ _ h => h) (fun _ _ h => h) (fun _ _ h => h) rfl ⟨depAt_of (by kernel_rfl) e, depAt_of (by kernel_rfl) e, depAt_of (by kernel_rfl) e⟩ HLy.out
        case hend =>
          rintro v3 W3 ⟨BL, pL, cL, e1, aL, rL⟩ e2 hB3
          simp only [atL, List.getD_cons_succ, List.getD_cons_zero] at e1 e2
          obtain ⟨bL, oL, rfl, S3⟩ := HS2.out.cons hB3 aL rL HVls.out
          simp only [laid, List.foldl, Act.put, List.setIfInBounds_toArray, List.set_cons_succ, List.set_cons_zero, e1, e2]
          obtain ⟨v3u63, hv3u63⟩ : ∃ u, v3 63 = u := ⟨_, rfl⟩
          obtain ⟨v3u64, hv3u64⟩ : ∃ u, v3 64 = u := ⟨_, rfl⟩
          obtain ⟨v3u65, hv3u65⟩ : ∃ u, v3 65 = u := ⟨_, rfl⟩
          obtain ⟨v3u66, hv3u66⟩ : ∃ u, v3 66 = u := ⟨_, rfl⟩
          obtain ⟨v3u67, hv3u67⟩ : ∃ u, v3 67 = u := ⟨_, rfl⟩
          obtain ⟨v3u68, hv3u68⟩ : ∃ u, v3 68 = u := ⟨_, rfl⟩
          obtain ⟨v3u69, hv3u69⟩ : ∃ u, v3 69 = u := ⟨_, rfl⟩
          obtain ⟨v3u70, hv3u70⟩ : ∃ u, v3 70 = u := ⟨_, rfl⟩
          obtain ⟨v3u71, hv3u71⟩ : ∃ u, v3 71 = u := ⟨_, rfl⟩
          obtain ⟨v3u72, hv3u72⟩ : ∃ u, v3 72 = u := ⟨_, rfl⟩
          rw [hv3u63, hv3u64, hv3u65, hv3u66, hv3u67, hv3u68, hv3u69, hv3u70, hv3u71, hv3u72]
          clear hv3u63 hv3u64 hv3u65 hv3u66 hv3u67 hv3u68 hv3u69 hv3u70 hv3u71 hv3u72
          clear e1 e2 aL rL hB3
          have a3 := S3.get (x := ⟨BL, fn, some ⟨bL, oL, none⟩, ls.length, cL, ints ls⟩) (by simp)
          have a4 := S3.get (x := ⟨B2, fn, some ⟨b2, o2, none⟩, fx.length, cc2, ints fx⟩) (by simp)
          have HS3 := Lib.hid S3
          clear S3 v3
          go_wp2_with fail
          refine (HS3.out.plain (right_len fn bL oL cL fx.length ls _ (HS3.out.vat (B := BL) (by simp) HVls.out) Hlls.out)).mono ?_
          rintro e W4 ⟨rfl, S4⟩
          have HS4 := Lib.hid S4
          clear a3 a4 HS3 S4
          go_wp2_with fail
          have Hpt := Lib.hid (fun (i j : Nat) (hi : i < fx.length) (hj : j < fn) => pt_lay gx gn fx rows fn i j HLen.out hi hj)
          rw [← Hls.out] at Hpt
          go_loopw [14] (fun i wr => ∃ k : Nat, k ≤ fx.length ∧ i = .int .i64 k ∧ Boxes w [⟨BL, fn, some ⟨bL, oL, none⟩, ls.length, cL, ints ls⟩, ⟨BM, fn, some ⟨bm, om, none⟩, rows.length, cc, ints rows⟩, ⟨B2, fn, some ⟨b2, o2, none⟩, fx.length, cc2, ints fx⟩, ⟨B1, gn, some ⟨b1, o1, none⟩, gx.length, cc1, ints gx⟩] wr) (fun i _ => fx.length - (intOf i).toNat)
          case atStart => exact ⟨0, Nat.zero_le _, rfl, HS4.out⟩
          case round =>
            obtain ⟨k, hk, rfl, Sr⟩ := hrel
            have a4 := Sr.get (x := ⟨B2, fn, some ⟨b2, o2, none⟩, fx.length, cc2, ints fx⟩) (by simp)
            have HSr := Lib.hid Sr
            clear Sr HS4
            by_cases hkl : k < fx.length
            · go_wp2_with fail
              clear a4
              go_loopw [15] (fun i wi => ∃ j : Nat, j ≤ fn ∧ i = .int .i64 j ∧ Boxes w [⟨BL, fn, some ⟨bL, oL, none⟩, ls.length, cL, ints ls⟩, ⟨BM, fn, some ⟨bm, om, none⟩, rows.length, cc, ints rows⟩, ⟨B2, fn, some ⟨b2, o2, none⟩, fx.length, cc2, ints fx⟩, ⟨B1, gn, some ⟨b1, o1, none⟩, gx.length, cc1, ints gx⟩] wi) (fun i _ => fn - (intOf i).toNat)
              case atStart => exact ⟨0, Nat.zero_le _, rfl, HSr.out⟩
              case round =>
                obtain ⟨j, hj, rfl, Si⟩ := hrel
                have a4 := Si.get (x := ⟨B2, fn, some ⟨b2, o2, none⟩, fx.length, cc2, ints fx⟩) (by simp)
                have a5 := Si.get (x := ⟨B1, gn, some ⟨b1, o1, none⟩, gx.length, cc1, ints gx⟩) (by simp)
                have HSi := Lib.hid Si
                clear Si HSr
                by_cases hjl : j < fn
                · have hp := Hpt.out k j hkl hjl
                  have Lg := Lib.hid (fun (W : World) (h : Boxes w [⟨BL, fn, some ⟨bL, oL, none⟩, ls.length, cL, ints ls⟩, ⟨BM, fn, some ⟨bm, om, none⟩, rows.length, cc, ints rows⟩, ⟨B2, fn, some ⟨b2, o2, none⟩, fx.length, cc2, ints fx⟩, ⟨B1, gn, some ⟨b1, o1, none⟩, gx.length, cc1, ints gx⟩] W) => h.plain (lifted_any gn b1 o1 cc1 gx (k : Int) (j : Int) W (h.vat (B := B1) (by simp) Hg.out) (by omega) (by omega)))
                  have Lm := Lib.hid (fun (W : World) (h : Boxes w [⟨BL, fn, some ⟨bL, oL, none⟩, ls.length, cL, ints ls⟩, ⟨BM, fn, some ⟨bm, om, none⟩, rows.length, cc, ints rows⟩, ⟨B2, fn, some ⟨b2, o2, none⟩, fx.length, cc2, ints fx⟩, ⟨B1, gn, some ⟨b1, o1, none⟩, gx.length, cc1, ints gx⟩] W) => h.plain (lifted_any fn bm om cc rows (k : Int) (j : Int) W (h.vat (B := BM) (by simp) HV.out) (by omega) (by omega)))
                  have Lf := Lib.hid (fun (W : World) (h : Boxes w [⟨BL, fn, some ⟨bL, oL, none⟩, ls.length, cL, ints ls⟩, ⟨BM, fn, some ⟨bm, om, none⟩, rows.length, cc, ints rows⟩, ⟨B2, fn, some ⟨b2, o2, none⟩, fx.length, cc2, ints fx⟩, ⟨B1, gn, some ⟨b1, o1, none⟩, gx.length, cc1, ints gx⟩] W) => h.plain (lifted_any fn b2 o2 cc2 fx (k : Int) (j : Int) W (h.vat (B := B2) (by simp) Hf.out) (by omega) (by omega)))
                  have Ll := Lib.hid (fun (W : World) (h : Boxes w [⟨BL, fn, some ⟨bL, oL, none⟩, ls.length, cL, ints ls⟩, ⟨BM, fn, some ⟨bm, om, none⟩, rows.length, cc, ints rows⟩, ⟨B2, fn, some ⟨b2, o2, none⟩, fx.length, cc2, ints fx⟩, ⟨B1, gn, some ⟨b1, o1, none⟩, gx.length, cc1, ints gx⟩] W) => h.plain (lifted_any fn bL oL cL ls (k : Int) (j : Int) W (h.vat (B := BL) (by simp) HVls.out) (by omega) (by omega)))
                  simp only [Int.toNat_natCast] at Lg Lm Lf Ll
                  rw [hp] at Ll
                  clear hp
                  obtain ⟨pg, hpg⟩ : ∃ b, pt gn gx k j = b := ⟨_, rfl⟩
                  obtain ⟨pm, hpm⟩ : ∃ b, pt fn rows k j = b := ⟨_, rfl⟩
                  obtain ⟨pf, hpf⟩ : ∃ b, pt fn fx k j = b := ⟨_, rfl⟩
                  rw [hpg] at Lg Ll
                  rw [hpm] at Lm Ll
                  rw [hpf] at Lf Ll
                  clear hpg hpm hpf
                  go_wp2_with fail
                  refine (Lg.out _ HSi.out).mono ?_
                  rintro e W5 ⟨rfl, S5⟩
                  have a6 := S5.get (x := ⟨BM, fn, some ⟨bm, om, none⟩, rows.length, cc, ints rows⟩) (by simp)
                  have HS5 := Lib.hid S5
                  clear S5 a4 a5 HSi
                  go_wp2_with fail
                  refine (Lm.out _ HS5.out).mono ?_
                  rintro e W6 ⟨rfl, S6⟩
                  have HS6 := Lib.hid S6
                  clear S6 a6 HS5
                  cases pm with
                  | true =>
                    have a7 := HS6.out.get (x := ⟨B2, fn, some ⟨b2, o2, none⟩, fx.length, cc2, ints fx⟩) (by simp)
                    go_wp2_with fail
                    refine (Lf.out _ HS6.out).mono ?_
                    rintro e W7 ⟨rfl, S7⟩
                    have a8 := S7.get (x := ⟨BL, fn, some ⟨bL, oL, none⟩, ls.length, cL, ints ls⟩) (by simp)
                    have HS7 := Lib.hid S7
                    have hne : (pf != pf) = false := by simp
                    clear S7 a7 HS6
                    simp only [if_true] at Ll
                    go_wp2_with fail
                    refine (Ll.out _ HS7.out).mono ?_
                    rintro e W8 ⟨rfl, S8⟩
                    have HS8 := Lib.hid S8
                    clear S8 a8 HS7
                    go_wp2_with fail
                    go_roundw
                    case rel => exact ⟨j + 1, by omega, by go_num, HS8.out⟩
                    case measure => simp [intOf]; omega
                  | false =>
                    have a8 := HS6.out.get (x := ⟨BL, fn, some ⟨bL, oL, none⟩, ls.length, cL, ints ls⟩) (by simp)
                    have hne : (pg != pg) = false := by simp
                    simp only [Bool.false_eq_true, if_false] at Ll
                    go_wp2_with fail
                    refine (Ll.out _ HS6.out).mono ?_
                    rintro e W8 ⟨rfl, S8⟩
                    have HS8 := Lib.hid S8
                    clear S8 a8 HS6
                    go_wp2_with fail
                    go_roundw
                    case rel => exact ⟨j + 1, by omega, by go_num, HS8.out⟩
                    case measure => simp [intOf]; omega
                · obtain rfl : j = fn := by omega
                  go_wp2_with fail
                  go_roundw
                  case rel => exact ⟨k + 1, by omega, by go_num, HSi.out⟩
                  case measure => simp [intOf]; omega
            · obtain rfl : k = fx.length := by omega
              go_wp2_with fail
              clear a4
              have lr : rows.length = fx.length := HLen.out
              obtain ⟨bs, hbs⟩ : ∃ bs, bs = painted (baG rows) rows.length fn := ⟨_, rfl⟩
              have lbs : bs.length = rows.length := by rw [hbs, painted_len]
              have Vbs : Valid fn bs := by rw [hbs]; exact painted_valid HV.out _
              have HVbs := Lib.hid Vbs
              have Hlbs := Lib.hid lbs
              have HLy1 := Lib.hid (fun (W : World) (gb go gc fb fo fc mb mo mc : Nat) (h1 : VAt W gb go gc fn fx) (h2 : VAt W fb fo fc fn fx) (h3 : VAt W mb mo mc fn rows) => Lay_ok fn gb go gc fn fb fo fc mb mo mc fx fx rows W h1 h2 h3 HLen.out)
              rw [lay_same Hf.out rows] at HLy1
              have HBk := Lib.hid (fun (W : World) (b off c : Nat) (h : VAt W b off c fn rows) => Back_ok fn b off c rows W h)
              rw [← hbs] at HBk
              have HLy2 := Lib.hid (fun (W : World) (gb go gc fb fo fc mb mo mc : Nat) (h1 : VAt W gb go gc fn fx) (h2 : VAt W fb fo fc fn ls) (h3 : VAt W mb mo mc fn bs) => Lay_ok fn gb go gc fn fb fo fc mb mo mc fx ls bs W h1 h2 h3 (by rw [Hlbs.out, HLen.out, Hlls.out]))
              rw [lay_again gx gn rows ls bs Hls.out hbs HLen.out] at HLy2
              have HLy3 := Lib.hid (fun (W : World) (gb go gc fb fo fc mb mo mc : Nat) (h1 : VAt W gb go gc fn ls) (h2 : VAt W fb fo fc fn fx) (h3 : VAt W mb mo mc fn rows) => Lay_ok fn gb go gc fn fb fo fc mb mo mc ls fx rows W h1 h2 h3 HLen.out)
              rw [lay_once gx gn rows ls Hls.out] at HLy3
              clear hbs lbs Vbs lr
              refine region_call3 8 B2 8 B2 9 BM ⟨fn, fx⟩ ⟨fn, fx⟩ ⟨fn, rows⟩ ⟨fn, fx⟩ (.call { callee := .value (.func 55), args := #[.tmp 118, .tmp 120, .tmp 122], argTypes := #[24, 24, 24] }) [117, 118, 119, 120, 121, 122, 123, 116, 124, 125, 17, 0, 18] [117, 118, 119, 120, 121, 122, 123, 116, 124, 125, 17, 18] rfl ?hops (by decide) (by decide) (by kernel_rfl) (by decide) ?hsz ⟨⟨rfl, rfl, rfl⟩, by decide, by decide, by decide⟩ (HSr.out.boxD (B := B2) (b := b2) (off := o2) (c := cc2) (by simp) Hf.out) (HSr.out.boxD (B := B2) (b := b2) (off := o2) (c := cc2) (by simp) Hf.out) (HSr.out.boxD (B := BM) (b := bm) (off := om) (c := cc) (by simp) HV.out) ?hcall ?hend (by show fx.length ≤ 1000; have := Hlls.out; omega)
              case hops =>
                intro i hi
                match i, hi with
                | 0, _ => exact ⟨_, _, _, rfl, fun j hj => by cases hj⟩
                | 1, _ => exact ⟨_, _, _, rfl, fun j hj => by cases hj; kernel_rfl⟩
                | 2, _ => exact ⟨_, _, _, rfl, fun j hj => by cases hj⟩
                | 3, _ => exact ⟨_, _, _, rfl, fun j hj => by cases hj; kernel_rfl⟩
                | 4, _ => exact ⟨_, _, _, rfl, fun j hj => by cases hj⟩
                | 5, _ => exact ⟨_, _, _, rfl, fun j hj => by cases hj; kernel_rfl⟩
                | 6, _ => exact ⟨_, _, _, rfl, fun j hj => by cases hj⟩
                | 7, _ => exact ⟨_, _, _, rfl, fun j hj => by cases hj; kernel_rfl⟩
                | 8, _ => exact ⟨_, _, _, rfl, fun j hj => by cases hj; kernel_rfl⟩
                | 9, _ => exact ⟨_, _, _, rfl, fun j hj => by cases hj; kernel_rfl⟩
                | 10, _ => exact ⟨_, _, _, rfl, fun j hj => by cases hj⟩
                | 11, _ => exact ⟨_, _, _, rfl, fun j hj => by cases hj⟩
                | 12, _ => exact ⟨_, _, _, rfl, fun j hj => by cases hj; kernel_rfl⟩
                | n + 13, h => omega
              case hsz => intro d hd; simp only [List.mem_cons, List.not_mem_nil, or_false] at hd; show d < 182; omega
              case hcall => exact fun ty pos aft e outs => flow_call55 (j1 := 1) (j2 := 3) (j3 := 5) (fun _ _ h => h) (fun _ _ h => h) (fun _ _ h => h) rfl ⟨depAt_of (by kernel_rfl) e, depAt_of (by kernel_rfl) e, depAt_of (by kernel_rfl) e⟩ HLy1.out
              case hend =>
                rintro v4 WS ⟨BS, pS, cS, e1, aL, rL⟩ e2 hB3
                simp only [atL, List.getD_cons_succ, List.getD_cons_zero] at e1 e2
                obtain ⟨bS, oS, rfl, SS⟩ := HSr.out.cons hB3 aL rL Hf.out
                simp only [laid, List.foldl, Act.put, List.setIfInBounds_toArray, List.set_cons_succ, List.set_cons_zero, e1, e2]
                obtain ⟨v4u117, hv4u117⟩ : ∃ u, v4 117 = u := ⟨_, rfl⟩
                obtain ⟨v4u118, hv4u118⟩ : ∃ u, v4 118 = u := ⟨_, rfl⟩
                obtain ⟨v4u119, hv4u119⟩ : ∃ u, v4 119 = u := ⟨_, rfl⟩
                obtain ⟨v4u120, hv4u120⟩ : ∃ u, v4 120 = u := ⟨_, rfl⟩
                obtain ⟨v4u121, hv4u121⟩ : ∃ u, v4 121 = u := ⟨_, rfl⟩
                obtain ⟨v4u122, hv4u122⟩ : ∃ u, v4 122 = u := ⟨_, rfl⟩
                obtain ⟨v4u123, hv4u123⟩ : ∃ u, v4 123 = u := ⟨_, rfl⟩
                obtain ⟨v4u116, hv4u116⟩ : ∃ u, v4 116 = u := ⟨_, rfl⟩
                obtain ⟨v4u124, hv4u124⟩ : ∃ u, v4 124 = u := ⟨_, rfl⟩
                obtain ⟨v4u125, hv4u125⟩ : ∃ u, v4 125 = u := ⟨_, rfl⟩
                rw [hv4u117, hv4u118, hv4u119, hv4u120, hv4u121, hv4u122, hv4u123, hv4u116, hv4u124, hv4u125]
                clear hv4u117 hv4u118 hv4u119 hv4u120 hv4u121 hv4u122 hv4u123 hv4u116 hv4u124 hv4u125
                clear e1 e2 aL rL hB3 v4
                have HSS := Lib.hid SS
                clear SS HSr
                have a3 := HSS.out.get (x := ⟨BM, fn, some ⟨bm, om, none⟩, rows.length, cc, ints rows⟩) (by simp)
                go_wp2_with fail
                refine (HSS.out.own (B := BM) (b := bm) (off := om) (c := cc) (by simp) HV.out).mono ?_
                rintro e W9 ⟨bn, on, cn, rfl, vn, S9⟩
                have HS9 := Lib.hid S9
                clear a3 S9 HSS
                go_wp2_with fail
                refine (HS9.out.okd (HBk.out _ _ _ _ vn) (by have := Hlbs.out; have := HLen.out; omega)).mono ?_
                rintro e W10 ⟨RK, rfl, T10, S10⟩
                clear T10 HS9 vn
                go_wp2_with fail
                obtain ⟨BK, hBK⟩ : ∃ BK, BK = W10.heap.size := ⟨_, rfl⟩
                rw [← hBK] at S10 ⊢
                have HSK := Lib.hid S10
                clear hBK S10
                refine region_call2 8 B2 12 BL 19 BK ⟨fn, fx⟩ ⟨fn, ls⟩ ⟨fn, bs⟩ ⟨fn, ls⟩ (.call { callee := .value (.func 55), args := #[.tmp 134, .tmp 136, .tmp 137], argTypes := #[24, 24, 24] }) [133, 134, 135, 136, 137, 138, 132, 139, 140, 21, 0, 22] [133, 134, 135, 136, 137, 138, 132, 139, 140, 21, 22] rfl ?hops (by decide) (by decide) (by kernel_rfl) (by decide) ?hsz ⟨⟨rfl, rfl, rfl⟩, by decide, by decide, by decide⟩ (HSK.out.boxD (B := B2) (b := b2) (off := o2) (c := cc2) (by simp) Hf.out) (HSK.out.boxD (B := BL) (b := bL) (off := oL) (c := cL) (by simp) HVls.out) (HSK.out.boxD (B := BK) (b := RK) (off := 0) (c := bs.length) (by simp) HVbs.out) ?hcall ?hend (by show ls.length ≤ 1000; have := Hlls.out; omega)
                case hops =>
                  intro i hi
                  match i, hi with
                  | 0, _ => exact ⟨_, _, _, rfl, fun j hj => by cases hj⟩
                  | 1, _ => exact ⟨_, _, _, rfl, fun j hj => by cases hj; kernel_rfl⟩
                  | 2, _ => exact ⟨_, _, _, rfl, fun j hj => by cases hj⟩
                  | 3, _ => exact ⟨_, _, _, rfl, fun j hj => by cases hj; kernel_rfl⟩
                  | 4, _ => exact ⟨_, _, _, rfl, fun j hj => by cases hj⟩
                  | 5, _ => exact ⟨_, _, _, rfl, fun j hj => by cases hj⟩
                  | 6, _ => exact ⟨_, _, _, rfl, fun j hj => by cases hj; kernel_rfl⟩
                  | 7, _ => exact ⟨_, _, _, rfl, fun j hj => by cases hj; kernel_rfl⟩
                  | 8, _ => exact ⟨_, _, _, rfl, fun j hj => by cases hj; kernel_rfl⟩
                  | 9, _ => exact ⟨_, _, _, rfl, fun j hj => by cases hj⟩
                  | 10, _ => exact ⟨_, _, _, rfl, fun j hj => by cases hj⟩
                  | 11, _ => exact ⟨_, _, _, rfl, fun j hj => by cases hj; kernel_rfl⟩
                  | n + 12, h => omega
                case hsz => intro d hd; simp only [List.mem_cons, List.not_mem_nil, or_false] at hd; show d < 182; omega
                case hcall => exact fun ty pos aft e outs => flow_call55 (j1 := 1) (j2 := 3) (j3 := 4) (fun _ _ h => h) (fun _ _ h => h) (fun _ _ h => h) rfl ⟨depAt_of (by kernel_rfl) e, depAt_of (by kernel_rfl) e, depAt_of (by kernel_rfl) e⟩ HLy2.out
                case hend =>
                  rintro v5 WA ⟨BA, pA, cA, e1, aL, rL⟩ e2 hB3
                  simp only [atL, List.getD_cons_succ, List.getD_cons_zero] at e1 e2
                  obtain ⟨bA, oA, rfl, SA⟩ := HSK.out.cons hB3 aL rL HVls.out
                  simp only [laid, List.foldl, Act.put, List.setIfInBounds_toArray, List.set_cons_succ, List.set_cons_zero, e1, e2]
                  obtain ⟨v5u133, hv5u133⟩ : ∃ u, v5 133 = u := ⟨_, rfl⟩
                  obtain ⟨v5u134, hv5u134⟩ : ∃ u, v5 134 = u := ⟨_, rfl⟩
                  obtain ⟨v5u135, hv5u135⟩ : ∃ u, v5 135 = u := ⟨_, rfl⟩
                  obtain ⟨v5u136, hv5u136⟩ : ∃ u, v5 136 = u := ⟨_, rfl⟩
                  obtain ⟨v5u137, hv5u137⟩ : ∃ u, v5 137 = u := ⟨_, rfl⟩
                  obtain ⟨v5u138, hv5u138⟩ : ∃ u, v5 138 = u := ⟨_, rfl⟩
                  obtain ⟨v5u132, hv5u132⟩ : ∃ u, v5 132 = u := ⟨_, rfl⟩
                  obtain ⟨v5u139, hv5u139⟩ : ∃ u, v5 139 = u := ⟨_, rfl⟩
                  obtain ⟨v5u140, hv5u140⟩ : ∃ u, v5 140 = u := ⟨_, rfl⟩
                  rw [hv5u133, hv5u134, hv5u135, hv5u136, hv5u137, hv5u138, hv5u132, hv5u139, hv5u140]
                  clear hv5u133 hv5u134 hv5u135 hv5u136 hv5u137 hv5u138 hv5u132 hv5u139 hv5u140
                  clear e1 e2 aL rL hB3 v5
                  have HSA := Lib.hid SA
                  clear SA HSK
                  go_wp2_with fail
                  refine region_call2 12 BL 8 B2 9 BM ⟨fn, ls⟩ ⟨fn, fx⟩ ⟨fn, rows⟩ ⟨fn, ls⟩ (.call { callee := .value (.func 55), args := #[.tmp 143, .tmp 145, .tmp 146], argTypes := #[24, 24, 24] }) [142, 143, 144, 145, 146, 147, 141, 148, 149, 23, 0, 24] [142, 143, 144, 145, 146, 147, 141, 148, 149, 23, 24] rfl ?hops (by decide) (by decide) (by kernel_rfl) (by decide) ?hsz ⟨⟨rfl, rfl, rfl⟩, by decide, by decide, by decide⟩ (HSA.out.boxD (B := BL) (b := bL) (off := oL) (c := cL) (by simp) HVls.out) (HSA.out.boxD (B := B2) (b := b2) (off := o2) (c := cc2) (by simp) Hf.out) (HSA.out.boxD (B := BM) (b := bm) (off := om) (c := cc) (by simp) HV.out) ?hcall ?hend (by show ls.length ≤ 1000; have := Hlls.out; omega)
                  case hops =>
                    intro i hi
                    match i, hi with
                    | 0, _ => exact ⟨_, _, _, rfl, fun j hj => by cases hj⟩
                    | 1, _ => exact ⟨_, _, _, rfl, fun j hj => by cases hj; kernel_rfl⟩
                    | 2, _ => exact ⟨_, _, _, rfl, fun j hj => by cases hj⟩
                    | 3, _ => exact ⟨_, _, _, rfl, fun j hj => by cases hj; kernel_rfl⟩
                    | 4, _ => exact ⟨_, _, _, rfl, fun j hj => by cases hj⟩
                    | 5, _ => exact ⟨_, _, _, rfl, fun j hj => by cases hj⟩
                    | 6, _ => exact ⟨_, _, _, rfl, fun j hj => by cases hj; kernel_rfl⟩
                    | 7, _ => exact ⟨_, _, _, rfl, fun j hj => by cases hj; kernel_rfl⟩
                    | 8, _ => exact ⟨_, _, _, rfl, fun j hj => by cases hj; kernel_rfl⟩
                    | 9, _ => exact ⟨_, _, _, rfl, fun j hj => by cases hj⟩
                    | 10, _ => exact ⟨_, _, _, rfl, fun j hj => by cases hj⟩
                    | 11, _ => exact ⟨_, _, _, rfl, fun j hj => by cases hj; kernel_rfl⟩
                    | n + 12, h => omega
                  case hsz => intro d hd; simp only [List.mem_cons, List.not_mem_nil, or_false] at hd; show d < 182; omega
                  case hcall => exact fun ty pos aft e outs => flow_call55 (j1 := 1) (j2 := 3) (j3 := 4) (fun _ _ h => h) (fun _ _ h => h) (fun _ _ h => h) rfl ⟨depAt_of (by kernel_rfl) e, depAt_of (by kernel_rfl) e, depAt_of (by kernel_rfl) e⟩ HLy3.out
                  case hend =>
                    rintro v6 WO ⟨BO, pO, cO, e1, aL, rL⟩ e2 hB3
                    simp only [atL, List.getD_cons_succ, List.getD_cons_zero] at e1 e2
                    obtain ⟨bO, oO, rfl, SO⟩ := HSA.out.cons hB3 aL rL HVls.out
                    simp only [laid, List.foldl, Act.put, List.setIfInBounds_toArray, List.set_cons_succ, List.set_cons_zero, e1, e2]
                    obtain ⟨v6u142, hv6u142⟩ : ∃ u, v6 142 = u := ⟨_, rfl⟩
                    obtain ⟨v6u143, hv6u143⟩ : ∃ u, v6 143 = u := ⟨_, rfl⟩
                    obtain ⟨v6u144, hv6u144⟩ : ∃ u, v6 144 = u := ⟨_, rfl⟩
                    obtain ⟨v6u145, hv6u145⟩ : ∃ u, v6 145 = u := ⟨_, rfl⟩
                    obtain ⟨v6u146, hv6u146⟩ : ∃ u, v6 146 = u := ⟨_, rfl⟩
                    obtain ⟨v6u147, hv6u147⟩ : ∃ u, v6 147 = u := ⟨_, rfl⟩
                    obtain ⟨v6u141, hv6u141⟩ : ∃ u, v6 141 = u := ⟨_, rfl⟩
                    obtain ⟨v6u148, hv6u148⟩ : ∃ u, v6 148 = u := ⟨_, rfl⟩
                    obtain ⟨v6u149, hv6u149⟩ : ∃ u, v6 149 = u := ⟨_, rfl⟩
                    rw [hv6u142, hv6u143, hv6u144, hv6u145, hv6u146, hv6u147, hv6u141, hv6u148, hv6u149]
                    clear hv6u142 hv6u143 hv6u144 hv6u145 hv6u146 hv6u147 hv6u141 hv6u148 hv6u149
                    clear e1 e2 aL rL hB3 v6
                    have HSO := Lib.hid SO
                    clear SO HSA
                    have q1 := HSO.out.get (x := ⟨BS, fn, some ⟨bS, oS, none⟩, fx.length, cS, ints fx⟩) (by simp)
                    have q2 := HSO.out.get (x := ⟨B2, fn, some ⟨b2, o2, none⟩, fx.length, cc2, ints fx⟩) (by simp)
                    go_wp2_with fail
                    refine (HSO.out.plain (is_reads fn (some ⟨bS, oS, none⟩) (some ⟨b2, o2, none⟩) fx.length fx.length cS cc2 (ints fx) _ (HSO.out.all ⟨BS, fn, some ⟨bS, oS, none⟩, fx.length, cS, ints fx⟩ (by simp)).r (HSO.out.all ⟨B2, fn, some ⟨b2, o2, none⟩, fx.length, cc2, ints fx⟩ (by simp)).r)).mono ?_
                    rintro e W12 ⟨rfl, S12⟩
                    have HS12 := Lib.hid S12
                    clear q1 q2 S12 HSO
                    have q1 := HS12.out.get (x := ⟨BA, fn, some ⟨bA, oA, none⟩, ls.length, cA, ints ls⟩) (by simp)
                    have q2 := HS12.out.get (x := ⟨BL, fn, some ⟨bL, oL, none⟩, ls.length, cL, ints ls⟩) (by simp)
                    go_wp2_with fail
                    refine (HS12.out.plain (is_reads fn (some ⟨bA, oA, none⟩) (some ⟨bL, oL, none⟩) ls.length ls.length cA cL (ints ls) _ (HS12.out.all ⟨BA, fn, some ⟨bA, oA, none⟩, ls.length, cA, ints ls⟩ (by simp)).r (HS12.out.all ⟨BL, fn, some ⟨bL, oL, none⟩, ls.length, cL, ints ls⟩ (by simp)).r)).mono ?_
                    rintro e W13 ⟨rfl, S13⟩
                    have HS13 := Lib.hid S13
                    clear q1 q2 S13 HS12
                    have q1 := HS13.out.get (x := ⟨BO, fn, some ⟨bO, oO, none⟩, ls.length, cO, ints ls⟩) (by simp)
                    have q2 := HS13.out.get (x := ⟨BL, fn, some ⟨bL, oL, none⟩, ls.length, cL, ints ls⟩) (by simp)
                    go_wp2_with fail
                    refine (HS13.out.plain (is_reads fn (some ⟨bO, oO, none⟩) (some ⟨bL, oL, none⟩) ls.length ls.length cO cL (ints ls) _ (HS13.out.all ⟨BO, fn, some ⟨bO, oO, none⟩, ls.length, cO, ints ls⟩ (by simp)).r (HS13.out.all ⟨BL, fn, some ⟨bL, oL, none⟩, ls.length, cL, ints ls⟩ (by simp)).r)).mono ?_
                    rintro e W14 ⟨rfl, S14⟩
                    have HS14 := Lib.hid S14
                    clear q1 q2 S14 HS13
                    go_wp2_with fail
                    refine (known_any _).mono ?_
                    rintro e wz ⟨rfl, hbz⟩
                    have SZ := Lib.hid (HS14.out.next hbz)
                    clear HS14 hbz
                    go_wp2_with fail
                    go_ret
                    exact ⟨rfl, SZ.out.below⟩
end Go.Proofs.Ytjobbleabepaiaa
