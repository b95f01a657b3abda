/- PointJoins: the walk. -/
import Derived.Test.YtjobbleabepaiaaJF
import Derived.Deep.DeepCutAuto
import Derived.KernelRfl
namespace Go.Proofs.Ytjobbleabepaiaa
open Go.RowKit Go.Shelf

set_option maxRecDepth 100000 in
set_option maxHeartbeats 8000000 in
theorem PointJoins_walk (gh fh : Int) (gp fp : Option Addr) (gc fc : Nat) (gx fx : List Int) (w : World)
    (lg : gx.length ≤ 70) (lf : fx.length ≤ 70) (hrg : Reads w (.slice gp gx.length gc) gx) (hrf : Reads w (.slice fp fx.length fc) fx)
    (e0 e2 : Int) (he0 : firstE [⟨gh, gp, gc, gx⟩, ⟨fh, fp, fc, fx⟩] = e0) (he2 : firstE [⟨gh, gp, gc, gx⟩] = e2)
    (hb0 : e0 = 0 → 1 ≤ gh ∧ gh ≤ 24 ∧ 1 ≤ fh ∧ fh ≤ 24) (hb2 : e2 = 0 → 1 ≤ gh ∧ gh ≤ 24)
    (x0 x1 r0 r1 r2 : Int) (hx0 : x0 = if e0 = 0 ∧ gx.length ≠ fx.length then 4 else e0) (hr0 : r0 = if x0 = 0 ∧ 24 < gh + fh then 8 else x0)
    (hx1 : x1 = if e0 = 0 ∧ gh ≠ fh then 4 else e0) (hr1 : r1 = if x1 = 0 ∧ 60 < gx.length + fx.length then 8 else x1)
    (hr2 : r2 = if e2 = 0 ∧ 24 < gh + max 0 (gh - 2) then 8 else e2)
    (h0 h1 h2 : Int) (z0 z1 z2 : List Int) (hz0 : r0 ≠ 0 → h0 = 0 ∧ z0 = []) (hz1 : r1 ≠ 0 → h1 = 0 ∧ z1 = []) (hz2 : r2 ≠ 0 → h2 = 0 ∧ z2 = [])
    (hB : ∀ (W : World) (a1 : Option Addr) (k1 : Nat) (a2 : Option Addr) (k2 : Nat), Reads W (.slice a1 gx.length k1) gx → Reads W (.slice a2 fx.length k2) fx → Calls Try.prog 44 #[.agg #[.int .i64 gh, .slice a1 gx.length k1], .agg #[.int .i64 fh, .slice a2 fx.length k2]] W (Res h0 z0 r0 W))
    (hA : ∀ (W : World) (a1 : Option Addr) (k1 : Nat) (a2 : Option Addr) (k2 : Nat), Reads W (.slice a1 gx.length k1) gx → Reads W (.slice a2 fx.length k2) fx → Calls Try.prog 45 #[.agg #[.int .i64 gh, .slice a1 gx.length k1], .agg #[.int .i64 fh, .slice a2 fx.length k2]] W (Res h1 z1 r1 W))
    (hR : ∀ (W : World) (a1 : Option Addr) (k1 : Nat), Reads W (.slice a1 gx.length k1) gx → Calls Try.prog 46 #[.agg #[.int .i64 gh, .slice a1 gx.length k1]] W (Res h2 z2 r2 W))
    (gB : r0 = 0 → ∀ (W : World) (a1 : Option Addr) (k1 : Nat) (a2 : Option Addr) (k2 : Nat), Reads W (.slice a1 gx.length k1) gx → Reads W (.slice a2 fx.length k2) fx → Calls Try.prog 48 #[.agg #[.int .i64 gh, .slice a1 gx.length k1], .agg #[.int .i64 fh, .slice a2 fx.length k2]] W (CopyN h0 z0 W))
    (gA : r1 = 0 → ∀ (W : World) (a1 : Option Addr) (k1 : Nat) (a2 : Option Addr) (k2 : Nat), Reads W (.slice a1 gx.length k1) gx → Reads W (.slice a2 fx.length k2) fx → Calls Try.prog 49 #[.agg #[.int .i64 gh, .slice a1 gx.length k1], .agg #[.int .i64 fh, .slice a2 fx.length k2]] W (CopyN h1 z1 W))
    (gR : r2 = 0 → ∀ (W : World) (a1 : Option Addr) (k1 : Nat), Reads W (.slice a1 gx.length k1) gx → Calls Try.prog 50 #[.agg #[.int .i64 gh, .slice a1 gx.length k1]] W (CopyN h2 z2 W)) :
    Calls Try.prog 7 #[.agg #[.int .i64 gh, .slice gp gx.length gc], .agg #[.int .i64 fh, .slice fp fx.length fc]] w fun e w' => e = .returned (.bool true) ∧ Below w.heap.size w w' := by
  have HS := Lib.hid (joins_start gh fh gp fp gc fc gx fx w hrg hrf)
  have HLs := Lib.hid (joins_ls gh fh gp fp gc fc gx.length fx.length w)
  have HLen : Hid (∀ i, i < [gx.length, fx.length].length → nthN [gx.length, fx.length] i ≤ 70) := Lib.hid (len2_le lg lf)
  have HB := Lib.hid hB
  have HA := Lib.hid hA
  have HR := Lib.hid hR
  have GB := Lib.hid gB
  have GA := Lib.hid gA
  have GR := Lib.hid gR
  have HE0 := Lib.hid he0
  have HE2 := Lib.hid he2
  have HZ0 := Lib.hid hz0
  have HZ1 := Lib.hid hz1
  have HZ2 := Lib.hid hz2
  have HB0 := Lib.hid hb0
  have HB2 := Lib.hid hb2
  have HX0 := Lib.hid hx0
  have HX1 := Lib.hid hx1
  have HR0 := Lib.hid hr0
  have HR1 := Lib.hid hr1
  have HR2 := Lib.hid hr2
  clear hB hA hR gB gA gR he0 he2 hz0 hz1 hz2 hb0 hb2 hx0 hx1 hr0 hr1 hr2 hrg hrf
  go_enter Try.func7, Try.ntmps7
  go_wp2_with fail
  refine (large_no (w.heap.size + 1 + 1) 2 [gx.length, fx.length] _ (by simp) HLs.out HLen.out).mono ?_
  rintro e w1 ⟨rfl, rfl⟩
  clear HLs HLen
  obtain ⟨W1, hW1⟩ : ∃ W1, joins_w gh fh gp fp gc fc gx.length fx.length w = W1 := ⟨_, rfl⟩
  rw [hW1] at HS ⊢
  clear hW1
  go_wp2_with fail
  refine region_own 2 (tri ⟨w.heap.size, gh, gp, gx.length, gc, gx⟩ ⟨w.heap.size + 1, fh, fp, fx.length, fc, fx⟩ ⟨w.heap.size + 1, fh, fp, fx.length, fc, fx⟩) (tri 2 3 3) (tri 20 22 22) (tri 21 23 23) (tri 5 6 6) [20, 22, 21, 23, 5, 6] rfl ?hops (slots_of (by decide)) (by decide) (by kernel_rfl) (by decide) ?hsz ?hout (by kernel_rfl) ?hbox ?hlen ?hend
  case hops =>
    intro j hj
    match j, hj with
    | 0, _ => exact ⟨⟨_, _, _, rfl⟩, ⟨_, _, _, rfl, by kernel_rfl⟩, ⟨_, _, _, rfl⟩, ⟨_, _, _, rfl, by kernel_rfl, by kernel_rfl⟩⟩
    | 1, _ => exact ⟨⟨_, _, _, rfl⟩, ⟨_, _, _, rfl, by kernel_rfl⟩, ⟨_, _, _, rfl⟩, ⟨_, _, _, rfl, by kernel_rfl, by kernel_rfl⟩⟩
    | j + 2, h => omega
  case hsz => intro d hd; simp only [List.mem_cons, List.not_mem_nil, or_false] at hd; show d < 176; omega
  case hout =>
    intro j hj
    match j, hj with
    | 0, _ => exact ⟨rfl, by decide⟩
    | 1, _ => exact ⟨rfl, by decide⟩
    | j + 2, h => omega
  case hbox =>
    intro j hj
    match j, hj with
    | 0, _ => exact HS.out.all ⟨w.heap.size, gh, gp, gx.length, gc, gx⟩ (by simp)
    | 1, _ => exact HS.out.all ⟨w.heap.size + 1, fh, fp, fx.length, fc, fx⟩ (by simp)
    | j + 2, h => omega
  case hlen =>
    intro j hj
    match j, hj with
    | 0, _ => exact Nat.le_trans lg (by decide)
    | 1, _ => exact Nat.le_trans lf (by decide)
    | j + 2, h => omega
  case hend =>
    intro v W hl hB
    have h0' := hl 0 (by omega)
    have h1' := hl 1 (by omega)
    simp only [tri] at h0' h1'
    clear hl
    obtain ⟨b0, p0, c0, e0', a0, rd0⟩ := h0'
    obtain ⟨b1, p1, c1, e1', a1, rd1⟩ := h1'
    simp only [laid, List.foldl, Act.put, List.setIfInBounds_toArray, List.set_cons_succ, List.set_cons_zero, e0', e1']
    obtain ⟨vu20, hvu20⟩ : ∃ u, v 20 = u := ⟨_, rfl⟩
    obtain ⟨vu21, hvu21⟩ : ∃ u, v 21 = u := ⟨_, rfl⟩
    obtain ⟨vu22, hvu22⟩ : ∃ u, v 22 = u := ⟨_, rfl⟩
    obtain ⟨vu23, hvu23⟩ : ∃ u, v 23 = u := ⟨_, rfl⟩
    rw [hvu20, hvu21, hvu22, hvu23]
    clear hvu20 hvu21 hvu22 hvu23
    have HS1 : Hid (Boxes w [⟨b1, fh, p1, fx.length, c1, fx⟩, ⟨b0, gh, p0, gx.length, c0, gx⟩, ⟨w.heap.size + 1, fh, fp, fx.length, fc, fx⟩, ⟨w.heap.size, gh, gp, gx.length, gc, gx⟩] W) := Lib.hid (((HS.out.next hB).addJ a0 rd0).addJ a1 rd1)
    clear e0' e1' a0 a1 rd0 rd1 hB HS v
    have t0 := HS1.out.get (x := ⟨b0, gh, p0, gx.length, c0, gx⟩) (by simp)
    have t1 := HS1.out.get (x := ⟨b1, fh, p1, fx.length, c1, fx⟩) (by simp)
    go_wp2_with fail
    refine (HB.out _ p0 c0 p1 c1 (HS1.out.all ⟨b0, gh, p0, gx.length, c0, gx⟩ (by simp)).r (HS1.out.all ⟨b1, fh, p1, fx.length, c1, fx⟩ (by simp)).r).mono ?_
    rintro e W2 ⟨q0, k0, rfl, rq, hb⟩
    have S2 := (HS1.out.next hb).push h0 q0 z0.length k0 z0 rq
    obtain ⟨BL0, hBL0⟩ : ∃ BL0, W2.heap.size = BL0 := ⟨_, rfl⟩
    obtain ⟨W2b, hW2b⟩ : ∃ W2b, W2.alloc (.cells #[.int .i64 h0, .slice q0 z0.length k0] 24) = W2b := ⟨_, rfl⟩
    rw [hBL0, hW2b] at S2
    clear t0 t1
    have t0 := S2.get (x := ⟨b0, gh, p0, gx.length, c0, gx⟩) (by simp)
    have t1 := S2.get (x := ⟨b1, fh, p1, fx.length, c1, fx⟩) (by simp)
    have HS2 := Lib.hid S2
    clear S2 hb HS1 HB rq
    go_wp2_with fail
    clear hBL0 hW2b
    refine (HA.out _ p0 c0 p1 c1 (HS2.out.all ⟨b0, gh, p0, gx.length, c0, gx⟩ (by simp)).r (HS2.out.all ⟨b1, fh, p1, fx.length, c1, fx⟩ (by simp)).r).mono ?_
    rintro e W3 ⟨q1, k1, rfl, rq, hb⟩
    have S3 := (HS2.out.next hb).push h1 q1 z1.length k1 z1 rq
    obtain ⟨BL1, hBL1⟩ : ∃ BL1, W3.heap.size = BL1 := ⟨_, rfl⟩
    obtain ⟨W3b, hW3b⟩ : ∃ W3b, W3.alloc (.cells #[.int .i64 h1, .slice q1 z1.length k1] 24) = W3b := ⟨_, rfl⟩
    rw [hBL1, hW3b] at S3
    clear t0 t1
    have t0 := S3.get (x := ⟨b0, gh, p0, gx.length, c0, gx⟩) (by simp)
    have HS3 := Lib.hid S3
    clear S3 hb HS2 HA rq
    go_wp2_with fail
    clear hBL1 hW3b
    refine (HR.out _ p0 c0 (HS3.out.all ⟨b0, gh, p0, gx.length, c0, gx⟩ (by simp)).r).mono ?_
    rintro e W4 ⟨q2, k2, rfl, rq, hb⟩
    have S4 := (HS3.out.next hb).push h2 q2 z2.length k2 z2 rq
    obtain ⟨BL2, hBL2⟩ : ∃ BL2, W4.heap.size = BL2 := ⟨_, rfl⟩
    obtain ⟨W4b, hW4b⟩ : ∃ W4b, W4.alloc (.cells #[.int .i64 h2, .slice q2 z2.length k2] 24) = W4b := ⟨_, rfl⟩
    rw [hBL2, hW4b] at S4
    clear t0
    have t0 := S4.get (x := ⟨b0, gh, p0, gx.length, c0, gx⟩) (by simp)
    have t1 := S4.get (x := ⟨w.heap.size, gh, gp, gx.length, gc, gx⟩) (by simp)
    have HS4 := Lib.hid S4
    clear S4 hb HS3 HR rq
    go_wp2_with fail
    clear hBL2 hW4b
    refine (Same_reads gh p0 gp gx.length gx.length c0 gc gx _ (HS4.out.all ⟨b0, gh, p0, gx.length, c0, gx⟩ (by simp)).r (HS4.out.all ⟨w.heap.size, gh, gp, gx.length, gc, gx⟩ (by simp)).r).mono ?_
    rintro e W5 ⟨rfl, hb⟩
    have HS5 := Lib.hid (HS4.out.next hb)
    clear hb HS4 t0 t1
    have t0 := HS5.out.get (x := ⟨b1, fh, p1, fx.length, c1, fx⟩) (by simp)
    have t1 := HS5.out.get (x := ⟨w.heap.size + 1, fh, fp, fx.length, fc, fx⟩) (by simp)
    go_wp2_with fail
    refine (Same_reads fh p1 fp fx.length fx.length c1 fc fx _ (HS5.out.all ⟨b1, fh, p1, fx.length, c1, fx⟩ (by simp)).r (HS5.out.all ⟨w.heap.size + 1, fh, fp, fx.length, fc, fx⟩ (by simp)).r).mono ?_
    rintro e W6 ⟨rfl, hb⟩
    have HS6 := Lib.hid (HS5.out.next hb)
    clear hb HS5 t0 t1
    go_wp2_with fail
    refine region_errs14 2 w.heap.size 3 (w.heap.size + 1) ⟨gh, gp, gc, gx⟩ ⟨fh, fp, fc, fx⟩ e0 e2 [51, 52, 53, 54, 55, 56, 57, 58, 59, 60, 61, 62, 13, 0] [51, 52, 53, 54, 55, 56, 57, 58, 59, 60, 61, 62, 13] rfl ?hops (by decide) (by decide) (by kernel_rfl) (by decide) ?hsz ⟨⟨rfl, rfl⟩, by decide, by decide⟩ ?h0 ?h1 HE0.out HE2.out ?hend
    case hops =>
      intro i hi
      match i, hi with
      | 0, _ => refine ⟨_, _, _, rfl, fun j hj => ?_⟩; simp [sr14, Sr.srcs] at hj
      | 1, _ => refine ⟨_, _, _, rfl, fun j hj => ?_⟩; simp [sr14, Sr.srcs] at hj
      | 2, _ => refine ⟨_, _, _, rfl, fun j hj => ?_⟩; simp [sr14, Sr.srcs] at hj; rcases hj with rfl | rfl <;> kernel_rfl
      | 3, _ => refine ⟨_, _, _, rfl, fun j hj => ?_⟩; simp [sr14, Sr.srcs] at hj; subst hj; kernel_rfl
      | 4, _ => refine ⟨_, _, _, rfl, fun j hj => ?_⟩; simp [sr14, Sr.srcs] at hj
      | 5, _ => refine ⟨_, _, _, rfl, fun j hj => ?_⟩; simp [sr14, Sr.srcs] at hj
      | 6, _ => refine ⟨_, _, _, rfl, fun j hj => ?_⟩; simp [sr14, Sr.srcs] at hj; rcases hj with rfl | rfl <;> kernel_rfl
      | 7, _ => refine ⟨_, _, _, rfl, fun j hj => ?_⟩; simp [sr14, Sr.srcs] at hj; subst hj; kernel_rfl
      | 8, _ => refine ⟨_, _, _, rfl, fun j hj => ?_⟩; simp [sr14, Sr.srcs] at hj
      | 9, _ => refine ⟨_, _, _, rfl, fun j hj => ?_⟩; simp [sr14, Sr.srcs] at hj; subst hj; kernel_rfl
      | 10, _ => refine ⟨_, _, _, rfl, fun j hj => ?_⟩; simp [sr14, Sr.srcs] at hj; subst hj; kernel_rfl
      | 11, _ => refine ⟨_, _, _, rfl, fun j hj => ?_⟩; simp [sr14, Sr.srcs] at hj; rcases hj with rfl | rfl | rfl <;> kernel_rfl
      | 12, _ => refine ⟨_, _, _, rfl, fun j hj => ?_⟩; simp [sr14, Sr.srcs] at hj
      | 13, _ => refine ⟨_, _, _, rfl, fun j hj => ?_⟩; simp [sr14, Sr.srcs] at hj
      | n + 14, h => omega
    case hsz => intro d hd; simp only [List.mem_cons, List.not_mem_nil, or_false] at hd; show d < 176; omega
    case h0 => exact ⟨(HS6.out.all ⟨w.heap.size, gh, gp, gx.length, gc, gx⟩ (by simp)).a, (HS6.out.all ⟨w.heap.size, gh, gp, gx.length, gc, gx⟩ (by simp)).r⟩
    case h1 => exact ⟨(HS6.out.all ⟨w.heap.size + 1, fh, fp, fx.length, fc, fx⟩ (by simp)).a, (HS6.out.all ⟨w.heap.size + 1, fh, fp, fx.length, fc, fx⟩ (by simp)).r⟩
    case hend =>
      rintro v W ⟨D, e12, hlo, hdue⟩ hB
      simp only [atL, List.getD_cons_succ, List.getD_cons_zero] at e12
      simp only [laid, List.foldl, Act.put, List.setIfInBounds_toArray, List.set_cons_succ, List.set_cons_zero, e12]
      obtain ⟨vu51, hvu51⟩ : ∃ u, v 51 = u := ⟨_, rfl⟩
      obtain ⟨vu52, hvu52⟩ : ∃ u, v 52 = u := ⟨_, rfl⟩
      obtain ⟨vu53, hvu53⟩ : ∃ u, v 53 = u := ⟨_, rfl⟩
      obtain ⟨vu54, hvu54⟩ : ∃ u, v 54 = u := ⟨_, rfl⟩
      obtain ⟨vu55, hvu55⟩ : ∃ u, v 55 = u := ⟨_, rfl⟩
      obtain ⟨vu56, hvu56⟩ : ∃ u, v 56 = u := ⟨_, rfl⟩
      obtain ⟨vu57, hvu57⟩ : ∃ u, v 57 = u := ⟨_, rfl⟩
      obtain ⟨vu58, hvu58⟩ : ∃ u, v 58 = u := ⟨_, rfl⟩
      obtain ⟨vu59, hvu59⟩ : ∃ u, v 59 = u := ⟨_, rfl⟩
      obtain ⟨vu60, hvu60⟩ : ∃ u, v 60 = u := ⟨_, rfl⟩
      obtain ⟨vu61, hvu61⟩ : ∃ u, v 61 = u := ⟨_, rfl⟩
      obtain ⟨vu62, hvu62⟩ : ∃ u, v 62 = u := ⟨_, rfl⟩
      rw [hvu51, hvu52, hvu53, hvu54, hvu55, hvu56, hvu57, hvu58, hvu59, hvu60, hvu61, hvu62]
      clear hvu51 hvu52 hvu53 hvu54 hvu55 hvu56 hvu57 hvu58 hvu59 hvu60 hvu61 hvu62
      have HD := Lib.hid hdue
      have HBD := Lib.hid hB
      have HLo := Lib.hid hlo
      clear e12 hdue hB hlo v
      go_upto_region 11 with fail
      have hJ : JW W6 D W.heap.size e0 e0 e2 ⟨0, 0, none, 0, 0, []⟩ ⟨0, 0, none, 0, 0, []⟩ ⟨0, 0, none, 0, 0, []⟩ (W.alloc (.cells #[.int .i64 0, .slice none 0 0, .int .i64 0, .slice none 0 0, .int .i64 0, .slice none 0 0] 65)) := by
        have hD : D < W.heap.size := (Array.getElem?_eq_some_iff.1 HD.out).1
        refine ⟨HBD.out.alloc HBD.out.size _, ((below_new1 W _).block D hD).trans HD.out, heap_alloc_new W _, reads_nil _ _ _, reads_nil _ _ _, reads_nil _ _ _, ?_, ?_, ?_, HLo.out, hD⟩ <;> (intro a e; cases e)
      obtain ⟨E, hE⟩ : ∃ E, W.heap.size = E := ⟨_, rfl⟩
      obtain ⟨V, hV⟩ : ∃ V, W.alloc (.cells #[.int .i64 0, .slice none 0 0, .int .i64 0, .slice none 0 0, .int .i64 0, .slice none 0 0] 65) = V := ⟨_, rfl⟩
      obtain ⟨ZZ, hZZ⟩ : ∃ ZZ : BX, (⟨0, 0, none, 0, 0, []⟩ : BX) = ZZ := ⟨_, rfl⟩
      rw [hV, hE, hZZ] at hJ
      rw [hV, hE]
      have HJ := Lib.hid hJ
      have HZZ := Lib.hid hZZ
      clear hJ hV hE hZZ HD HBD HLo
      go_cut [75] (fun s75 wx => s75 = .bool (decide (e0 = 0 ∧ gx.length ≠ fx.length)) ∧ JW W6 D E e0 e0 e2 ZZ ZZ ZZ wx)
      case first => as_aux_lemma =>
        have c := HJ.out.cells
        have cz := HJ.out.thaw
        have t0 := (HS6.out.next HJ.out.b).get (x := ⟨w.heap.size, gh, gp, gx.length, gc, gx⟩) (by simp)
        have t1 := (HS6.out.next HJ.out.b).get (x := ⟨w.heap.size + 1, fh, fp, fx.length, fc, fx⟩) (by simp)
        by_cases he : e0 = 0
        · have hz : (e0 == 0) = true := by simpa using he
          have HE := Lib.hid he
          clear he
          by_cases hq : gx.length ≠ fx.length
          · have HQ := Lib.hid hq
            have hqb : ((gx.length : Int) != (fx.length : Int)) = true := by rw [bne_iff_ne]; omega
            clear hq
            go_wp2_with fail
            go_meet
            exact ⟨congrArg Value.bool (decide_eq_true (p := e0 = 0 ∧ gx.length ≠ fx.length) ⟨HE.out, HQ.out⟩).symm, HJ.out⟩
          · have HQ := Lib.hid hq
            have hqb : ((gx.length : Int) != (fx.length : Int)) = false := by rw [bne_eq_false_iff_eq]; omega
            clear hq
            go_wp2_with fail
            go_meet
            exact ⟨congrArg Value.bool (decide_eq_false (p := e0 = 0 ∧ gx.length ≠ fx.length) (fun h => absurd h.2 (by have h1 := HQ.out; omega))).symm, HJ.out⟩
        · have hz : (e0 == 0) = false := by simpa using he
          have HE := Lib.hid he
          clear he
          go_wp2_with fail
          go_meet
          exact ⟨congrArg Value.bool (decide_eq_false (p := e0 = 0 ∧ gx.length ≠ fx.length) (fun h => HE.out h.1)).symm, HJ.out⟩
      case rest => as_aux_lemma =>
        obtain ⟨rfl, hJ⟩ := hcut
        clear HJ
        have HJ := Lib.hid hJ
        clear hJ
        go_upto_if 75 with fail
        go_cut [] (fun wx => JW W6 D E x0 e0 e2 ZZ ZZ ZZ wx)
        case first => as_aux_lemma =>
          have c := HJ.out.cells
          have cz := HJ.out.thaw
          have t0 := (HS6.out.next HJ.out.b).get (x := ⟨w.heap.size, gh, gp, gx.length, gc, gx⟩) (by simp)
          have t1 := (HS6.out.next HJ.out.b).get (x := ⟨w.heap.size + 1, fh, fp, fx.length, fc, fx⟩) (by simp)
          by_cases hq : e0 = 0 ∧ gx.length ≠ fx.length
          · have HQ := Lib.hid hq
            have hqb : decide (e0 = 0 ∧ gx.length ≠ fx.length) = true := decide_eq_true hq
            clear hq
            go_wp2_with fail
            go_meet
            rw [HX0.out, if_pos HQ.out]
            exact HJ.out.set0 4
          · have HQ := Lib.hid hq
            have hqb : decide (e0 = 0 ∧ gx.length ≠ fx.length) = false := decide_eq_false hq
            clear hq
            go_wp2_with fail
            go_meet
            rw [HX0.out, if_neg HQ.out]
            exact HJ.out
        case rest => as_aux_lemma =>
          clear HJ
          have HJ := Lib.hid hcut
          clear hcut
          go_upto_region 13 with fail
          go_cut [87] (fun s87 wx => s87 = .bool (decide (x0 = 0 ∧ 24 < gh + fh)) ∧ JW W6 D E x0 e0 e2 ZZ ZZ ZZ wx)
          case first => as_aux_lemma =>
            have c := HJ.out.cells
            have cz := HJ.out.thaw
            have t0 := (HS6.out.next HJ.out.b).get (x := ⟨w.heap.size, gh, gp, gx.length, gc, gx⟩) (by simp)
            have t1 := (HS6.out.next HJ.out.b).get (x := ⟨w.heap.size + 1, fh, fp, fx.length, fc, fx⟩) (by simp)
            by_cases he : x0 = 0
            · have hz : (x0 == 0) = true := by simpa using he
              have HE := Lib.hid he
              have he0 : e0 = 0 := by
                rw [HX0.out] at he
                by_cases h : e0 = 0 ∧ gx.length ≠ fx.length
                · rw [if_pos h] at he; omega
                · rw [if_neg h] at he; exact he
              obtain ⟨v1, v2, v3, v4⟩ := HB0.out he0
              clear he0
              clear he
              by_cases hq : 24 < gh + fh
              · have HQ := Lib.hid hq
                have hqb : decide (24 < gh + fh) = true := decide_eq_true hq
                clear hq
                go_wp2_with fail
                go_meet
                exact ⟨congrArg Value.bool (decide_eq_true (p := x0 = 0 ∧ 24 < gh + fh) ⟨HE.out, HQ.out⟩).symm, HJ.out⟩
              · have HQ := Lib.hid hq
                have hqb : decide (24 < gh + fh) = false := decide_eq_false hq
                clear hq
                go_wp2_with fail
                go_meet
                exact ⟨congrArg Value.bool (decide_eq_false (p := x0 = 0 ∧ 24 < gh + fh) (fun h => absurd h.2 (by have h1 := HQ.out; omega))).symm, HJ.out⟩
            · have hz : (x0 == 0) = false := by simpa using he
              have HE := Lib.hid he
              clear he
              go_wp2_with fail
              go_meet
              exact ⟨congrArg Value.bool (decide_eq_false (p := x0 = 0 ∧ 24 < gh + fh) (fun h => HE.out h.1)).symm, HJ.out⟩
          case rest => as_aux_lemma =>
            obtain ⟨rfl, hJ⟩ := hcut
            clear HJ
            have HJ := Lib.hid hJ
            clear hJ
            go_upto_if 87 with fail
            go_cut [] (fun wx => JW W6 D E r0 e0 e2 ZZ ZZ ZZ wx)
            case first => as_aux_lemma =>
              have c := HJ.out.cells
              have cz := HJ.out.thaw
              have t0 := (HS6.out.next HJ.out.b).get (x := ⟨w.heap.size, gh, gp, gx.length, gc, gx⟩) (by simp)
              have t1 := (HS6.out.next HJ.out.b).get (x := ⟨w.heap.size + 1, fh, fp, fx.length, fc, fx⟩) (by simp)
              by_cases hq : x0 = 0 ∧ 24 < gh + fh
              · have HQ := Lib.hid hq
                have hqb : decide (x0 = 0 ∧ 24 < gh + fh) = true := decide_eq_true hq
                clear hq
                go_wp2_with fail
                go_meet
                rw [HR0.out, if_pos HQ.out]
                exact HJ.out.set0 8
              · have HQ := Lib.hid hq
                have hqb : decide (x0 = 0 ∧ 24 < gh + fh) = false := decide_eq_false hq
                clear hq
                go_wp2_with fail
                go_meet
                rw [HR0.out, if_neg HQ.out]
                exact HJ.out
            case rest => as_aux_lemma =>
              clear HJ
              have HJ := Lib.hid hcut
              clear hcut
              go_upto_region 15 with fail
              go_cut [98] (fun s98 wx => s98 = .bool (decide (e0 = 0 ∧ gh ≠ fh)) ∧ JW W6 D E r0 e0 e2 ZZ ZZ ZZ wx)
              case first => as_aux_lemma =>
                have c := HJ.out.cells
                have cz := HJ.out.thaw
                have t0 := (HS6.out.next HJ.out.b).get (x := ⟨w.heap.size, gh, gp, gx.length, gc, gx⟩) (by simp)
                have t1 := (HS6.out.next HJ.out.b).get (x := ⟨w.heap.size + 1, fh, fp, fx.length, fc, fx⟩) (by simp)
                by_cases he : e0 = 0
                · have hz : (e0 == 0) = true := by simpa using he
                  have HE := Lib.hid he
                  clear he
                  by_cases hq : gh ≠ fh
                  · have HQ := Lib.hid hq
                    have hqb : (gh != fh) = true := by rw [bne_iff_ne]; exact hq
                    clear hq
                    go_wp2_with fail
                    go_meet
                    exact ⟨congrArg Value.bool (decide_eq_true (p := e0 = 0 ∧ gh ≠ fh) ⟨HE.out, HQ.out⟩).symm, HJ.out⟩
                  · have HQ := Lib.hid hq
                    have hqb : (gh != fh) = false := by rw [bne_eq_false_iff_eq]; omega
                    clear hq
                    go_wp2_with fail
                    go_meet
                    exact ⟨congrArg Value.bool (decide_eq_false (p := e0 = 0 ∧ gh ≠ fh) (fun h => absurd h.2 (by have h1 := HQ.out; omega))).symm, HJ.out⟩
                · have hz : (e0 == 0) = false := by simpa using he
                  have HE := Lib.hid he
                  clear he
                  go_wp2_with fail
                  go_meet
                  exact ⟨congrArg Value.bool (decide_eq_false (p := e0 = 0 ∧ gh ≠ fh) (fun h => HE.out h.1)).symm, HJ.out⟩
              case rest => as_aux_lemma =>
                obtain ⟨rfl, hJ⟩ := hcut
                clear HJ
                have HJ := Lib.hid hJ
                clear hJ
                go_upto_if 98 with fail
                go_cut [] (fun wx => JW W6 D E r0 x1 e2 ZZ ZZ ZZ wx)
                case first => as_aux_lemma =>
                  have c := HJ.out.cells
                  have cz := HJ.out.thaw
                  have t0 := (HS6.out.next HJ.out.b).get (x := ⟨w.heap.size, gh, gp, gx.length, gc, gx⟩) (by simp)
                  have t1 := (HS6.out.next HJ.out.b).get (x := ⟨w.heap.size + 1, fh, fp, fx.length, fc, fx⟩) (by simp)
                  by_cases hq : e0 = 0 ∧ gh ≠ fh
                  · have HQ := Lib.hid hq
                    have hqb : decide (e0 = 0 ∧ gh ≠ fh) = true := decide_eq_true hq
                    clear hq
                    go_wp2_with fail
                    go_meet
                    rw [HX1.out, if_pos HQ.out]
                    exact HJ.out.set1 4
                  · have HQ := Lib.hid hq
                    have hqb : decide (e0 = 0 ∧ gh ≠ fh) = false := decide_eq_false hq
                    clear hq
                    go_wp2_with fail
                    go_meet
                    rw [HX1.out, if_neg HQ.out]
                    exact HJ.out
                case rest => as_aux_lemma =>
                  clear HJ
                  have HJ := Lib.hid hcut
                  clear hcut
                  go_upto_region 17 with fail
                  go_cut [112] (fun s112 wx => s112 = .bool (decide (x1 = 0 ∧ 60 < gx.length + fx.length)) ∧ JW W6 D E r0 x1 e2 ZZ ZZ ZZ wx)
                  case first => as_aux_lemma =>
                    have c := HJ.out.cells
                    have cz := HJ.out.thaw
                    have t0 := (HS6.out.next HJ.out.b).get (x := ⟨w.heap.size, gh, gp, gx.length, gc, gx⟩) (by simp)
                    have t1 := (HS6.out.next HJ.out.b).get (x := ⟨w.heap.size + 1, fh, fp, fx.length, fc, fx⟩) (by simp)
                    by_cases he : x1 = 0
                    · have hz : (x1 == 0) = true := by simpa using he
                      have HE := Lib.hid he
                      clear he
                      by_cases hq : 60 < gx.length + fx.length
                      · have HQ := Lib.hid hq
                        have hqb : decide ((60 : Int) < (gx.length : Int) + (fx.length : Int)) = true := decide_eq_true (by omega)
                        clear hq
                        go_wp2_with fail
                        go_meet
                        exact ⟨congrArg Value.bool (decide_eq_true (p := x1 = 0 ∧ 60 < gx.length + fx.length) ⟨HE.out, HQ.out⟩).symm, HJ.out⟩
                      · have HQ := Lib.hid hq
                        have hqb : decide ((60 : Int) < (gx.length : Int) + (fx.length : Int)) = false := decide_eq_false (by omega)
                        clear hq
                        go_wp2_with fail
                        go_meet
                        exact ⟨congrArg Value.bool (decide_eq_false (p := x1 = 0 ∧ 60 < gx.length + fx.length) (fun h => absurd h.2 (by have h1 := HQ.out; omega))).symm, HJ.out⟩
                    · have hz : (x1 == 0) = false := by simpa using he
                      have HE := Lib.hid he
                      clear he
                      go_wp2_with fail
                      go_meet
                      exact ⟨congrArg Value.bool (decide_eq_false (p := x1 = 0 ∧ 60 < gx.length + fx.length) (fun h => HE.out h.1)).symm, HJ.out⟩
                  case rest => as_aux_lemma =>
                    obtain ⟨rfl, hJ⟩ := hcut
                    clear HJ
                    have HJ := Lib.hid hJ
                    clear hJ
                    go_upto_if 112 with fail
                    go_cut [] (fun wx => JW W6 D E r0 r1 e2 ZZ ZZ ZZ wx)
                    case first => as_aux_lemma =>
                      have c := HJ.out.cells
                      have cz := HJ.out.thaw
                      have t0 := (HS6.out.next HJ.out.b).get (x := ⟨w.heap.size, gh, gp, gx.length, gc, gx⟩) (by simp)
                      have t1 := (HS6.out.next HJ.out.b).get (x := ⟨w.heap.size + 1, fh, fp, fx.length, fc, fx⟩) (by simp)
                      by_cases hq : x1 = 0 ∧ 60 < gx.length + fx.length
                      · have HQ := Lib.hid hq
                        have hqb : decide (x1 = 0 ∧ 60 < gx.length + fx.length) = true := decide_eq_true hq
                        clear hq
                        go_wp2_with fail
                        go_meet
                        rw [HR1.out, if_pos HQ.out]
                        exact HJ.out.set1 8
                      · have HQ := Lib.hid hq
                        have hqb : decide (x1 = 0 ∧ 60 < gx.length + fx.length) = false := decide_eq_false hq
                        clear hq
                        go_wp2_with fail
                        go_meet
                        rw [HR1.out, if_neg HQ.out]
                        exact HJ.out
                    case rest => as_aux_lemma =>
                      clear HJ
                      have HJ := Lib.hid hcut
                      clear hcut
                      go_upto_region 19 with fail
                      go_cut [126] (fun s126 wx => s126 = .bool (decide (e2 = 0 ∧ 24 < gh + max 0 (gh - 2))) ∧ JW W6 D E r0 r1 e2 ZZ ZZ ZZ wx)
                      case first => as_aux_lemma =>
                        have c := HJ.out.cells
                        have cz := HJ.out.thaw
                        have t0 := (HS6.out.next HJ.out.b).get (x := ⟨w.heap.size, gh, gp, gx.length, gc, gx⟩) (by simp)
                        have t1 := (HS6.out.next HJ.out.b).get (x := ⟨w.heap.size + 1, fh, fp, fx.length, fc, fx⟩) (by simp)
                        by_cases he : e2 = 0
                        · have hz : (e2 == 0) = true := by simpa using he
                          have HE := Lib.hid he
                          obtain ⟨v1, v2⟩ := HB2.out he
                          clear he
                          by_cases hq : 0 < gh - 2
                          · have HQ := Lib.hid hq
                            go_wp2_with fail
                            all_goals go_meet
                            all_goals first
                              | exact ⟨congrArg Value.bool (decide_eq_decide.2 ⟨fun h => ⟨HE.out, by rw [Int.max_eq_right (by omega)]; exact h⟩, fun h => by have h2 := h.2; rw [Int.max_eq_right (by omega)] at h2; exact h2⟩), HJ.out⟩
                              | (exfalso; omega)
                          · have HQ := Lib.hid hq
                            go_wp2_with fail
                            all_goals go_meet
                            all_goals first
                              | exact ⟨congrArg Value.bool (decide_eq_false (p := e2 = 0 ∧ 24 < gh + max 0 (gh - 2)) (fun h => by have h2 := h.2; rw [Int.max_eq_left (by omega)] at h2; omega)).symm, HJ.out⟩
                              | exact ⟨congrArg Value.bool (decide_eq_decide.2 ⟨fun h => absurd h (by omega), fun h => by have h2 := h.2; rw [Int.max_eq_left (by omega)] at h2; exact absurd h2 (by omega)⟩), HJ.out⟩
                              | (exfalso; omega)
                        · have hz : (e2 == 0) = false := by simpa using he
                          have HE := Lib.hid he
                          clear he
                          go_wp2_with fail
                          go_meet
                          exact ⟨congrArg Value.bool (decide_eq_false (p := e2 = 0 ∧ 24 < gh + max 0 (gh - 2)) (fun h => HE.out h.1)).symm, HJ.out⟩
                      case rest => as_aux_lemma =>
                        obtain ⟨rfl, hJ⟩ := hcut
                        clear HJ
                        have HJ := Lib.hid hJ
                        clear hJ
                        go_upto_if 126 with fail
                        go_cut [] (fun wx => JW W6 D E r0 r1 r2 ZZ ZZ ZZ wx)
                        case first => as_aux_lemma =>
                          have c := HJ.out.cells
                          have cz := HJ.out.thaw
                          have t0 := (HS6.out.next HJ.out.b).get (x := ⟨w.heap.size, gh, gp, gx.length, gc, gx⟩) (by simp)
                          have t1 := (HS6.out.next HJ.out.b).get (x := ⟨w.heap.size + 1, fh, fp, fx.length, fc, fx⟩) (by simp)
                          by_cases hq : e2 = 0 ∧ 24 < gh + max 0 (gh - 2)
                          · have HQ := Lib.hid hq
                            have hqb : decide (e2 = 0 ∧ 24 < gh + max 0 (gh - 2)) = true := decide_eq_true hq
                            clear hq
                            go_wp2_with fail
                            go_meet
                            rw [HR2.out, if_pos HQ.out]
                            exact HJ.out.set2 8
                          · have HQ := Lib.hid hq
                            have hqb : decide (e2 = 0 ∧ 24 < gh + max 0 (gh - 2)) = false := decide_eq_false hq
                            clear hq
                            go_wp2_with fail
                            go_meet
                            rw [HR2.out, if_neg HQ.out]
                            exact HJ.out
                        case rest => as_aux_lemma =>
                          clear HJ
                          have HJ := Lib.hid hcut
                          clear hcut
                          have c := HJ.out.cells
                          go_upto_if 130 with fail
                          go_cut [] (fun wx => ∃ u : BX, (r0 = 0 → u.h = h0 ∧ u.xs = z0) ∧ JW W6 D E r0 r1 r2 u ZZ ZZ wx)
                          case first => as_aux_lemma =>
                            clear c
                            have c := HJ.out.cells
                            have cz := HJ.out.thaw
                            have t0 := (HS6.out.next HJ.out.b).get (x := ⟨w.heap.size, gh, gp, gx.length, gc, gx⟩) (by simp)
                            have t1 := (HS6.out.next HJ.out.b).get (x := ⟨w.heap.size + 1, fh, fp, fx.length, fc, fx⟩) (by simp)
                            by_cases he : r0 = 0
                            · have hz : (r0 == 0) = true := by simpa using he
                              have HE := Lib.hid he
                              clear he
                              go_wp2_with fail
                              refine (GB.out HE.out _ gp gc fp fc ((HS6.out.next HJ.out.b).all ⟨w.heap.size, gh, gp, gx.length, gc, gx⟩ (by simp)).r ((HS6.out.next HJ.out.b).all ⟨w.heap.size + 1, fh, fp, fx.length, fc, fx⟩ (by simp)).r).mono ?_
                              rintro e W7 ⟨pu, cu, rfl, hru, hfu, hbu⟩
                              have hJ7 := HJ.out.next hbu
                              have hEl := HJ.out.lt.2
                              have cy := hJ7.wants
                              have cz7 := hJ7.thaw
                              have HJ7 := Lib.hid (hJ7.put0 ⟨0, h0, pu, z0.length, cu, z0⟩ hru (fun a e => by have := hfu a e; omega))
                              clear hJ7 hbu hru hfu hEl c cz t0 t1
                              go_wp2_with fail
                              go_meet
                              exact ⟨_, fun _ => ⟨rfl, rfl⟩, HJ7.out⟩
                            · have hz : (r0 == 0) = false := by simpa using he
                              have HE := Lib.hid he
                              clear he
                              go_wp2_with fail
                              go_meet
                              exact ⟨ZZ, fun h => absurd h HE.out, HJ.out⟩
                          case rest => as_aux_lemma =>
                            obtain ⟨u0, hu0, hJ⟩ := hcut
                            clear HJ c
                            have HJ := Lib.hid hJ
                            have HU0 := Lib.hid hu0
                            clear hJ hu0
                            have c := HJ.out.cells
                            go_upto_if 137 with fail
                            go_cut [] (fun wx => ∃ u : BX, (r1 = 0 → u.h = h1 ∧ u.xs = z1) ∧ JW W6 D E r0 r1 r2 u0 u ZZ wx)
                            case first => as_aux_lemma =>
                              clear c
                              have c := HJ.out.cells
                              have cz := HJ.out.thaw
                              have t0 := (HS6.out.next HJ.out.b).get (x := ⟨w.heap.size, gh, gp, gx.length, gc, gx⟩) (by simp)
                              have t1 := (HS6.out.next HJ.out.b).get (x := ⟨w.heap.size + 1, fh, fp, fx.length, fc, fx⟩) (by simp)
                              by_cases he : r1 = 0
                              · have hz : (r1 == 0) = true := by simpa using he
                                have HE := Lib.hid he
                                clear he
                                go_wp2_with fail
                                refine (GA.out HE.out _ gp gc fp fc ((HS6.out.next HJ.out.b).all ⟨w.heap.size, gh, gp, gx.length, gc, gx⟩ (by simp)).r ((HS6.out.next HJ.out.b).all ⟨w.heap.size + 1, fh, fp, fx.length, fc, fx⟩ (by simp)).r).mono ?_
                                rintro e W7 ⟨pu, cu, rfl, hru, hfu, hbu⟩
                                have hJ7 := HJ.out.next hbu
                                have hEl := HJ.out.lt.2
                                have cy := hJ7.wants
                                have cz7 := hJ7.thaw
                                have HJ7 := Lib.hid (hJ7.put1 ⟨0, h1, pu, z1.length, cu, z1⟩ hru (fun a e => by have := hfu a e; omega))
                                clear hJ7 hbu hru hfu hEl c cz t0 t1
                                go_wp2_with fail
                                go_meet
                                exact ⟨_, fun _ => ⟨rfl, rfl⟩, HJ7.out⟩
                              · have hz : (r1 == 0) = false := by simpa using he
                                have HE := Lib.hid he
                                clear he
                                go_wp2_with fail
                                go_meet
                                exact ⟨ZZ, fun h => absurd h HE.out, HJ.out⟩
                            case rest => as_aux_lemma =>
                              obtain ⟨u1, hu1, hJ⟩ := hcut
                              clear HJ c
                              have HJ := Lib.hid hJ
                              have HU1 := Lib.hid hu1
                              clear hJ hu1
                              have c := HJ.out.cells
                              go_upto_if 144 with fail
                              go_cut [] (fun wx => ∃ u : BX, (r2 = 0 → u.h = h2 ∧ u.xs = z2) ∧ JW W6 D E r0 r1 r2 u0 u1 u wx)
                              case first => as_aux_lemma =>
                                clear c
                                have c := HJ.out.cells
                                have cz := HJ.out.thaw
                                have t0 := (HS6.out.next HJ.out.b).get (x := ⟨w.heap.size, gh, gp, gx.length, gc, gx⟩) (by simp)
                                have t1 := (HS6.out.next HJ.out.b).get (x := ⟨w.heap.size + 1, fh, fp, fx.length, fc, fx⟩) (by simp)
                                by_cases he : r2 = 0
                                · have hz : (r2 == 0) = true := by simpa using he
                                  have HE := Lib.hid he
                                  clear he
                                  go_wp2_with fail
                                  refine (GR.out HE.out _ gp gc ((HS6.out.next HJ.out.b).all ⟨w.heap.size, gh, gp, gx.length, gc, gx⟩ (by simp)).r).mono ?_
                                  rintro e W7 ⟨pu, cu, rfl, hru, hfu, hbu⟩
                                  have hJ7 := HJ.out.next hbu
                                  have hEl := HJ.out.lt.2
                                  have cy := hJ7.wants
                                  have cz7 := hJ7.thaw
                                  have HJ7 := Lib.hid (hJ7.put2 ⟨0, h2, pu, z2.length, cu, z2⟩ hru (fun a e => by have := hfu a e; omega))
                                  clear hJ7 hbu hru hfu hEl c cz t0 t1
                                  go_wp2_with fail
                                  go_meet
                                  exact ⟨_, fun _ => ⟨rfl, rfl⟩, HJ7.out⟩
                                · have hz : (r2 == 0) = false := by simpa using he
                                  have HE := Lib.hid he
                                  clear he
                                  go_wp2_with fail
                                  go_meet
                                  exact ⟨ZZ, fun h => absurd h HE.out, HJ.out⟩
                              case rest => as_aux_lemma =>
                                obtain ⟨u2, hu2, hJ⟩ := hcut
                                clear HJ c
                                have HJ := Lib.hid hJ
                                have HU2 := Lib.hid hu2
                                clear hJ hu2
                                have c := HJ.out.cells
                                have cw := HJ.out.wants
                                have t0 := (HS6.out.next HJ.out.b).get (x := ⟨BL0, h0, q0, z0.length, k0, z0⟩) (by simp)
                                go_wp2_with fail
                                refine (gets_any h0 r0 u0.h q0 u0.p z0.length u0.l k0 u0.c z0 u0.xs _ ((HS6.out.next HJ.out.b).all ⟨BL0, h0, q0, z0.length, k0, z0⟩ (by simp)).r HJ.out.r0 HZ0.out HU0.out).mono ?_
                                rintro e V0 ⟨rfl, hb⟩
                                have hJ := HJ.out.next hb
                                clear hb c cw t0 HJ
                                have HJ := Lib.hid hJ
                                clear hJ
                                have c := HJ.out.cells
                                have cw := HJ.out.wants
                                have t0 := (HS6.out.next HJ.out.b).get (x := ⟨BL1, h1, q1, z1.length, k1, z1⟩) (by simp)
                                go_wp2_with fail
                                refine (gets_any h1 r1 u1.h q1 u1.p z1.length u1.l k1 u1.c z1 u1.xs _ ((HS6.out.next HJ.out.b).all ⟨BL1, h1, q1, z1.length, k1, z1⟩ (by simp)).r HJ.out.r1 HZ1.out HU1.out).mono ?_
                                rintro e V1 ⟨rfl, hb⟩
                                have hJ := HJ.out.next hb
                                clear hb c cw t0 HJ
                                have HJ := Lib.hid hJ
                                clear hJ
                                have c := HJ.out.cells
                                have cw := HJ.out.wants
                                have t0 := (HS6.out.next HJ.out.b).get (x := ⟨BL2, h2, q2, z2.length, k2, z2⟩) (by simp)
                                go_wp2_with fail
                                refine (gets_any h2 r2 u2.h q2 u2.p z2.length u2.l k2 u2.c z2 u2.xs _ ((HS6.out.next HJ.out.b).all ⟨BL2, h2, q2, z2.length, k2, z2⟩ (by simp)).r HJ.out.r2 HZ2.out HU2.out).mono ?_
                                rintro e V2 ⟨rfl, hb⟩
                                have hJ := HJ.out.next hb
                                clear hb c cw t0 HJ
                                have HJ := Lib.hid hJ
                                clear hJ
                                go_wp2_with fail
                                refine (known_any _).mono ?_
                                rintro e V3 ⟨rfl, hb⟩
                                have HZ := Lib.hid ((HS6.out.next (HJ.out.next hb).b).below)
                                clear hb HJ
                                go_wp2_with fail
                                go_ret
                                exact ⟨rfl, HZ.out⟩
end Go.Proofs.Ytjobbleabepaiaa
