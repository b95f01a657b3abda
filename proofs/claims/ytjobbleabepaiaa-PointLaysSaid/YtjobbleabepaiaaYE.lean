/- PointLays: the walk, by the two first errors. -/
import Derived.Test.YtjobbleabepaiaaYD
namespace Go.Proofs.Ytjobbleabepaiaa
open Go.RowKit Go.Shelf
set_option maxRecDepth 100000 in
set_option maxHeartbeats 8000000 in
theorem PointLays_c1 (gh fh mh : Int) (gp fp mp : Option Addr) (gc fc mc : Nat) (gx fx mx : List Int) (e3 : Int) (he30 : e3 ≠ 0) (e2 : Int) (he20 : e2 ≠ 0) (w : World)
    (lg : gx.length ≤ 70) (lf : fx.length ≤ 70) (lm : mx.length ≤ 70) (hrg : Reads w (.slice gp gx.length gc) gx) (hrf : Reads w (.slice fp fx.length fc) fx) (hrm : Reads w (.slice mp mx.length mc) mx)
    (he3 : firstE [⟨gh, gp, gc, gx⟩, ⟨fh, fp, fc, fx⟩, ⟨mh, mp, mc, mx⟩] = e3) (he2 : firstE [⟨fh, fp, fc, fx⟩, ⟨mh, mp, mc, mx⟩] = e2)
    (hLay : ∀ (W : World) (q1 : Option Addr) (k1 : Nat) (q2 : Option Addr) (k2 : Nat) (q3 : Option Addr) (k3 : Nat), Reads W (.slice q1 gx.length k1) gx → Reads W (.slice q2 fx.length k2) fx → Reads W (.slice q3 mx.length k3) mx → Calls Try.prog 55 #[.agg #[.int .i64 gh, .slice q1 gx.length k1], .agg #[.int .i64 fh, .slice q2 fx.length k2], .agg #[.int .i64 mh, .slice q3 mx.length k3]] W (ErrD e3 W))
    (hDif : ∀ (W : World) (q2 : Option Addr) (k2 : Nat) (q3 : Option Addr) (k3 : Nat), Reads W (.slice q2 fx.length k2) fx → Reads W (.slice q3 mx.length k3) mx → Calls Try.prog 56 #[.agg #[.int .i64 fh, .slice q2 fx.length k2], .agg #[.int .i64 mh, .slice q3 mx.length k3]] W (ErrF e2 W)) :
    Calls Try.prog 9 #[.agg #[.int .i64 gh, .slice gp gx.length gc], .agg #[.int .i64 fh, .slice fp fx.length fc], .agg #[.int .i64 mh, .slice mp mx.length mc]] w fun e w' => e = .returned (.bool true) ∧ Below w.heap.size w w' := by
  obtain ⟨hS0, hLs⟩ := lays_start gh fh mh gp fp mp gc fc mc gx fx mx w hrg hrf hrm
  have HS := Lib.hid hS0
  have HLs := Lib.hid hLs
  clear hS0 hLs
  have HLen : Hid (∀ i, i < [gx.length, fx.length, mx.length].length → nthN [gx.length, fx.length, mx.length] i ≤ 70) := Lib.hid (len3_le lg lf lm)
  have hz3 : (e3 == 0) = false := by simpa using he30
  have hz2 : (e2 == 0) = false := by simpa using he20
  have hn2 : (e2 != 0) = true := by simpa using he20
  have HLay := Lib.hid hLay
  have HDif := Lib.hid hDif
  have HE3 := Lib.hid he3
  have HE2 := Lib.hid he2
  have HE30 := Lib.hid he30
  have HE20 := Lib.hid he20
  have HZ3 := Lib.hid hz3
  have HZ2 := Lib.hid hz2
  have HN2 := Lib.hid hn2
  clear hLay hDif he3 he2 he30 he20 hz3 hz2 hn2 hrg hrf hrm
  go_enter Try.func9, Try.ntmps9
  go_wp2_with fail
  refine (large_no (w.heap.size + 1 + 1 + 1) 3 [gx.length, fx.length, mx.length] _ (by simp) HLs.out HLen.out).mono ?_
  rintro e w1 ⟨rfl, rfl⟩
  clear HLs HLen
  obtain ⟨W1, hW1⟩ : ∃ W1, lays_w gh fh mh gp fp mp gc fc mc gx.length fx.length mx.length w = W1 := ⟨_, rfl⟩
  rw [hW1] at HS ⊢
  clear hW1
  go_wp2_with fail
  refine region_own 3 (tri ⟨w.heap.size, gh, gp, gx.length, gc, gx⟩ ⟨w.heap.size + 1, fh, fp, fx.length, fc, fx⟩ ⟨w.heap.size + 1 + 1, mh, mp, mx.length, mc, mx⟩) (tri 3 4 5) (tri 32 34 36) (tri 33 35 37) (tri 7 8 9) [32, 34, 36, 33, 35, 37, 7, 8, 9] rfl ?hops (slots_of (by decide)) (by decide) (by kernel_rfl) (by decide) ?hsz ?hout (by kernel_rfl) ?hbox ?hlen ?hend
  case hops =>
    intro j hj
    match j, hj with
    | 0, _ => exact ⟨⟨_, _, _, rfl⟩, ⟨_, _, _, rfl, by kernel_rfl⟩, ⟨_, _, _, rfl⟩, ⟨_, _, _, rfl, by kernel_rfl, by kernel_rfl⟩⟩
    | 1, _ => exact ⟨⟨_, _, _, rfl⟩, ⟨_, _, _, rfl, by kernel_rfl⟩, ⟨_, _, _, rfl⟩, ⟨_, _, _, rfl, by kernel_rfl, by kernel_rfl⟩⟩
    | 2, _ => exact ⟨⟨_, _, _, rfl⟩, ⟨_, _, _, rfl, by kernel_rfl⟩, ⟨_, _, _, rfl⟩, ⟨_, _, _, rfl, by kernel_rfl, by kernel_rfl⟩⟩
    | j + 3, h => omega
  case hsz => intro d hd; simp only [List.mem_cons, List.not_mem_nil, or_false] at hd; show d < 187; omega
  case hout =>
    intro j hj
    match j, hj with
    | 0, _ => exact ⟨rfl, by decide⟩
    | 1, _ => exact ⟨rfl, by decide⟩
    | 2, _ => exact ⟨rfl, by decide⟩
    | j + 3, h => omega
  case hbox =>
    intro j hj
    match j, hj with
    | 0, _ => exact HS.out.all ⟨w.heap.size, gh, gp, gx.length, gc, gx⟩ (by simp)
    | 1, _ => exact HS.out.all ⟨w.heap.size + 1, fh, fp, fx.length, fc, fx⟩ (by simp)
    | 2, _ => exact HS.out.all ⟨w.heap.size + 1 + 1, mh, mp, mx.length, mc, mx⟩ (by simp)
    | j + 3, h => omega
  case hlen =>
    intro j hj
    match j, hj with
    | 0, _ => exact Nat.le_trans lg (by decide)
    | 1, _ => exact Nat.le_trans lf (by decide)
    | 2, _ => exact Nat.le_trans lm (by decide)
    | j + 3, h => omega
  case hend =>
    intro v W hl hB
    have h0 := hl 0 (by omega)
    have h1 := hl 1 (by omega)
    have h2 := hl 2 (by omega)
    simp only [tri] at h0 h1 h2
    clear hl
    obtain ⟨b0, p0, c0, e0, a0, r0⟩ := h0
    obtain ⟨b1, p1, c1, e1, a1, r1⟩ := h1
    obtain ⟨b2, p2, c2, e2, a2, r2⟩ := h2
    simp only [laid, List.foldl, Act.put, List.setIfInBounds_toArray, List.set_cons_succ, List.set_cons_zero, e0, e1, e2]
    obtain ⟨vu32, hvu32⟩ : ∃ u, v 32 = u := ⟨_, rfl⟩
    obtain ⟨vu33, hvu33⟩ : ∃ u, v 33 = u := ⟨_, rfl⟩
    obtain ⟨vu34, hvu34⟩ : ∃ u, v 34 = u := ⟨_, rfl⟩
    obtain ⟨vu35, hvu35⟩ : ∃ u, v 35 = u := ⟨_, rfl⟩
    obtain ⟨vu36, hvu36⟩ : ∃ u, v 36 = u := ⟨_, rfl⟩
    obtain ⟨vu37, hvu37⟩ : ∃ u, v 37 = u := ⟨_, rfl⟩
    rw [hvu32, hvu33, hvu34, hvu35, hvu36, hvu37]
    clear hvu32 hvu33 hvu34 hvu35 hvu36 hvu37
    have HS1 : Hid (Boxes w [⟨b2, mh, p2, mx.length, c2, mx⟩, ⟨b1, fh, p1, fx.length, c1, fx⟩, ⟨b0, gh, p0, gx.length, c0, gx⟩, ⟨w.heap.size + 1 + 1, mh, mp, mx.length, mc, mx⟩, ⟨w.heap.size + 1, fh, fp, fx.length, fc, fx⟩, ⟨w.heap.size, gh, gp, gx.length, gc, gx⟩] W) := Lib.hid ((((HS.out.next hB).add a0 r0).add a1 r1).add a2 r2)
    clear e0 e1 e2 a0 a1 a2 r0 r1 r2 hB HS v
    have q0 := HS1.out.get (x := ⟨b0, gh, p0, gx.length, c0, gx⟩) (by simp)
    have q1 := HS1.out.get (x := ⟨b1, fh, p1, fx.length, c1, fx⟩) (by simp)
    have q2 := HS1.out.get (x := ⟨b2, mh, p2, mx.length, c2, mx⟩) (by simp)
    go_wp2_with fail
    refine (HLay.out _ p0 c0 p1 c1 p2 c2 (HS1.out.all ⟨b0, gh, p0, gx.length, c0, gx⟩ (by simp)).r (HS1.out.all ⟨b1, fh, p1, fx.length, c1, fx⟩ (by simp)).r (HS1.out.all ⟨b2, mh, p2, mx.length, c2, mx⟩ (by simp)).r).mono ?_
    rintro e W2 ⟨rfl, hb⟩
    have S2 := HS1.out.next hb
    clear q0 q1 q2
    have q1 := S2.get (x := ⟨b1, fh, p1, fx.length, c1, fx⟩) (by simp)
    have q2 := S2.get (x := ⟨b2, mh, p2, mx.length, c2, mx⟩) (by simp)
    have HS2 := Lib.hid (S2.push 0 none 0 0 [] (reads_nil _ _ _))
    clear S2 hb HS1 HLay
    go_wp2_with fail
    refine (HDif.out _ p1 c1 p2 c2 (HS2.out.all ⟨b1, fh, p1, fx.length, c1, fx⟩ (by simp)).r (HS2.out.all ⟨b2, mh, p2, mx.length, c2, mx⟩ (by simp)).r).mono ?_
    rintro e W3 ⟨rfl, hb⟩
    obtain ⟨BL, hBL⟩ : ∃ BL, W2.heap.size = BL := ⟨_, rfl⟩
    have S3 := HS2.out.next hb
    rw [hBL] at S3 ⊢
    have HS3 := Lib.hid S3
    clear S3 hb hBL HS2 HDif q1 q2
    have q0 := HS3.out.get (x := ⟨b0, gh, p0, gx.length, c0, gx⟩) (by simp)
    have q1 := HS3.out.get (x := ⟨w.heap.size, gh, gp, gx.length, gc, gx⟩) (by simp)
    go_wp2_with fail
    refine (Same_reads gh p0 gp gx.length gx.length c0 gc gx _ (HS3.out.all ⟨b0, gh, p0, gx.length, c0, gx⟩ (by simp)).r (HS3.out.all ⟨w.heap.size, gh, gp, gx.length, gc, gx⟩ (by simp)).r).mono ?_
    rintro e W4 ⟨rfl, hb⟩
    have HS4 := Lib.hid (HS3.out.next hb)
    clear hb HS3 q0 q1
    have q0 := HS4.out.get (x := ⟨b1, fh, p1, fx.length, c1, fx⟩) (by simp)
    have q1 := HS4.out.get (x := ⟨w.heap.size + 1, fh, fp, fx.length, fc, fx⟩) (by simp)
    go_wp2_with fail
    refine (Same_reads fh p1 fp fx.length fx.length c1 fc fx _ (HS4.out.all ⟨b1, fh, p1, fx.length, c1, fx⟩ (by simp)).r (HS4.out.all ⟨w.heap.size + 1, fh, fp, fx.length, fc, fx⟩ (by simp)).r).mono ?_
    rintro e W5 ⟨rfl, hb⟩
    have HS5 := Lib.hid (HS4.out.next hb)
    clear hb HS4 q0 q1
    have q0 := HS5.out.get (x := ⟨b2, mh, p2, mx.length, c2, mx⟩) (by simp)
    have q1 := HS5.out.get (x := ⟨w.heap.size + 1 + 1, mh, mp, mx.length, mc, mx⟩) (by simp)
    go_wp2_with fail
    refine (Same_reads mh p2 mp mx.length mx.length c2 mc mx _ (HS5.out.all ⟨b2, mh, p2, mx.length, c2, mx⟩ (by simp)).r (HS5.out.all ⟨w.heap.size + 1 + 1, mh, mp, mx.length, mc, mx⟩ (by simp)).r).mono ?_
    rintro e W6 ⟨rfl, hb⟩
    have HS6 := Lib.hid (HS5.out.next hb)
    clear hb HS5 q0 q1
    go_wp2_with fail
    refine region_first14 3 w.heap.size 4 (w.heap.size + 1) 5 (w.heap.size + 1 + 1) ⟨gh, gp, gc, gx⟩ ⟨fh, fp, fc, fx⟩ ⟨mh, mp, mc, mx⟩ e3 e2 [69, 70, 71, 72, 73, 74, 75, 76, 77, 78, 18, 16, 17, 0] [69, 70, 71, 72, 73, 74, 75, 76, 77, 78, 18, 16, 17] rfl ?hops (by decide) (by decide) (by kernel_rfl) (by decide) ?hsz ⟨⟨rfl, rfl, rfl⟩, by decide, by decide, by decide⟩ ?h0 ?h1 ?h2 HE3.out HE2.out ?hend
    case hops =>
      intro i hi
      match i, hi with
      | 0, _ => refine ⟨_, _, _, rfl, fun j hj => ?_⟩; simp [sq14, Sq.srcs] at hj
      | 1, _ => refine ⟨_, _, _, rfl, fun j hj => ?_⟩; simp [sq14, Sq.srcs] at hj
      | 2, _ => refine ⟨_, _, _, rfl, fun j hj => ?_⟩; simp [sq14, Sq.srcs] at hj
      | 3, _ => refine ⟨_, _, _, rfl, fun j hj => ?_⟩; simp [sq14, Sq.srcs] at hj; rcases hj with rfl | rfl | rfl <;> kernel_rfl
      | 4, _ => refine ⟨_, _, _, rfl, fun j hj => ?_⟩; simp [sq14, Sq.srcs] at hj; subst hj; kernel_rfl
      | 5, _ => refine ⟨_, _, _, rfl, fun j hj => ?_⟩; simp [sq14, Sq.srcs] at hj
      | 6, _ => refine ⟨_, _, _, rfl, fun j hj => ?_⟩; simp [sq14, Sq.srcs] at hj
      | 7, _ => refine ⟨_, _, _, rfl, fun j hj => ?_⟩; simp [sq14, Sq.srcs] at hj; rcases hj with rfl | rfl <;> kernel_rfl
      | 8, _ => refine ⟨_, _, _, rfl, fun j hj => ?_⟩; simp [sq14, Sq.srcs] at hj; subst hj; kernel_rfl
      | 9, _ => refine ⟨_, _, _, rfl, fun j hj => ?_⟩; simp [sq14, Sq.srcs] at hj
      | 10, _ => refine ⟨_, _, _, rfl, fun j hj => ?_⟩; simp [sq14, Sq.srcs] at hj
      | 11, _ => refine ⟨_, _, _, rfl, fun j hj => ?_⟩; simp [sq14, Sq.srcs] at hj; subst hj; kernel_rfl
      | 12, _ => refine ⟨_, _, _, rfl, fun j hj => ?_⟩; simp [sq14, Sq.srcs] at hj; subst hj; kernel_rfl
      | 13, _ => refine ⟨_, _, _, rfl, fun j hj => ?_⟩; simp [sq14, Sq.srcs] at hj
      | n + 14, h => omega
    case hsz => intro d hd; simp only [List.mem_cons, List.not_mem_nil, or_false] at hd; show d < 187; omega
    case h0 => exact ⟨(HS6.out.all ⟨w.heap.size, gh, gp, gx.length, gc, gx⟩ (by simp)).a, (HS6.out.all ⟨w.heap.size, gh, gp, gx.length, gc, gx⟩ (by simp)).r⟩
    case h1 => exact ⟨(HS6.out.all ⟨w.heap.size + 1, fh, fp, fx.length, fc, fx⟩ (by simp)).a, (HS6.out.all ⟨w.heap.size + 1, fh, fp, fx.length, fc, fx⟩ (by simp)).r⟩
    case h2 => exact ⟨(HS6.out.all ⟨w.heap.size + 1 + 1, mh, mp, mx.length, mc, mx⟩ (by simp)).a, (HS6.out.all ⟨w.heap.size + 1 + 1, mh, mp, mx.length, mc, mx⟩ (by simp)).r⟩
    case hend =>
      rintro v W ⟨BD, pD, cD, e10, hlo, hblk⟩ e11 e12 hB
      simp only [atL, List.getD_cons_succ, List.getD_cons_zero] at e10 e11 e12
      simp only [laid, List.foldl, Act.put, List.setIfInBounds_toArray, List.set_cons_succ, List.set_cons_zero, e10, e11, e12]
      obtain ⟨vu69, hvu69⟩ : ∃ u, v 69 = u := ⟨_, rfl⟩
      obtain ⟨vu70, hvu70⟩ : ∃ u, v 70 = u := ⟨_, rfl⟩
      obtain ⟨vu71, hvu71⟩ : ∃ u, v 71 = u := ⟨_, rfl⟩
      obtain ⟨vu72, hvu72⟩ : ∃ u, v 72 = u := ⟨_, rfl⟩
      obtain ⟨vu73, hvu73⟩ : ∃ u, v 73 = u := ⟨_, rfl⟩
      obtain ⟨vu74, hvu74⟩ : ∃ u, v 74 = u := ⟨_, rfl⟩
      obtain ⟨vu75, hvu75⟩ : ∃ u, v 75 = u := ⟨_, rfl⟩
      obtain ⟨vu76, hvu76⟩ : ∃ u, v 76 = u := ⟨_, rfl⟩
      obtain ⟨vu77, hvu77⟩ : ∃ u, v 77 = u := ⟨_, rfl⟩
      obtain ⟨vu78, hvu78⟩ : ∃ u, v 78 = u := ⟨_, rfl⟩
      rw [hvu69, hvu70, hvu71, hvu72, hvu73, hvu74, hvu75, hvu76, hvu77, hvu78]
      clear hvu69 hvu70 hvu71 hvu72 hvu73 hvu74 hvu75 hvu76 hvu77 hvu78
      have HS8 : Hid (Boxes w [⟨BD, 0, pD, 0, cD, []⟩, ⟨BL, 0, none, 0, 0, []⟩, ⟨b2, mh, p2, mx.length, c2, mx⟩, ⟨b1, fh, p1, fx.length, c1, fx⟩, ⟨b0, gh, p0, gx.length, c0, gx⟩, ⟨w.heap.size + 1 + 1, mh, mp, mx.length, mc, mx⟩, ⟨w.heap.size + 1, fh, fp, fx.length, fc, fx⟩, ⟨w.heap.size, gh, gp, gx.length, gc, gx⟩] W) := Lib.hid ((HS6.out.next hB).add (ArgBox.of_blk hblk) (reads_nil W pD cD))
      clear e10 e11 e12 hlo hblk hB v HS6
      have hz3 := HZ3.out
      have q0 := HS8.out.get (x := ⟨BL, 0, none, 0, 0, []⟩) (by simp)
      have q1 := HS8.out.get (x := ⟨BD, 0, pD, 0, cD, []⟩) (by simp)
      go_wp2_with fail
      refine (gets_none none 0 e3 HE30.out _ _ 0 pD 0 cD rfl).mono ?_
      rintro e W9 ⟨rfl, hb⟩
      have HS9 := Lib.hid (HS8.out.next hb)
      clear hb HS8 q0 q1 hz3
      have hz2 := HZ2.out
      have hn2 := HN2.out
      go_wp2_with fail
      refine (known_any _).mono ?_
      rintro e wz ⟨rfl, hbz⟩
      have SZ := Lib.hid (HS9.out.next hbz)
      clear HS9 hbz
      go_wp2_with fail
      go_ret
      exact ⟨rfl, SZ.out.below⟩
set_option maxRecDepth 100000 in
set_option maxHeartbeats 8000000 in
theorem PointLays_c2a (gh fh mh : Int) (gp fp mp : Option Addr) (gc fc mc : Nat) (gx fx mx : List Int) (w : World)
    (lg : gx.length ≤ 70) (lf : fx.length ≤ 70) (lm : mx.length ≤ 70) (hrg : Reads w (.slice gp gx.length gc) gx) (hrf : Reads w (.slice fp fx.length fc) fx) (hrm : Reads w (.slice mp mx.length mc) mx)
    (he3 : firstE [⟨gh, gp, gc, gx⟩, ⟨fh, fp, fc, fx⟩, ⟨mh, mp, mc, mx⟩] = 0) (he2 : firstE [⟨fh, fp, fc, fx⟩, ⟨mh, mp, mc, mx⟩] = 0)
    (hLay : ∀ (W : World) (q1 : Option Addr) (k1 : Nat) (q2 : Option Addr) (k2 : Nat) (q3 : Option Addr) (k3 : Nat), Reads W (.slice q1 gx.length k1) gx → Reads W (.slice q2 fx.length k2) fx → Reads W (.slice q3 mx.length k3) mx → Calls Try.prog 55 #[.agg #[.int .i64 gh, .slice q1 gx.length k1], .agg #[.int .i64 fh, .slice q2 fx.length k2], .agg #[.int .i64 mh, .slice q3 mx.length k3]] W (ErrD 4 W))
    (hDif : ∀ (W : World) (q2 : Option Addr) (k2 : Nat) (q3 : Option Addr) (k3 : Nat), Reads W (.slice q2 fx.length k2) fx → Reads W (.slice q3 mx.length k3) mx → Calls Try.prog 56 #[.agg #[.int .i64 fh, .slice q2 fx.length k2], .agg #[.int .i64 mh, .slice q3 mx.length k3]] W (ErrF 4 W))
    (hlk : decide (fh = mh ∧ fx.length = mx.length) = false) :
    Calls Try.prog 9 #[.agg #[.int .i64 gh, .slice gp gx.length gc], .agg #[.int .i64 fh, .slice fp fx.length fc], .agg #[.int .i64 mh, .slice mp mx.length mc]] w fun e w' => e = .returned (.bool true) ∧ Below w.heap.size w w' := by
  obtain ⟨hS0, hLs⟩ := lays_start gh fh mh gp fp mp gc fc mc gx fx mx w hrg hrf hrm
  have HS := Lib.hid hS0
  have HLs := Lib.hid hLs
  clear hS0 hLs
  have HLen : Hid (∀ i, i < [gx.length, fx.length, mx.length].length → nthN [gx.length, fx.length, mx.length] i ≤ 70) := Lib.hid (len3_le lg lf lm)
  have HLay := Lib.hid hLay
  have HDif := Lib.hid hDif
  have HE3 := Lib.hid he3
  have HE2 := Lib.hid he2
  have HLK := Lib.hid hlk
  clear hLay hDif he3 he2 hlk hrg hrf hrm
  go_enter Try.func9, Try.ntmps9
  go_wp2_with fail
  refine (large_no (w.heap.size + 1 + 1 + 1) 3 [gx.length, fx.length, mx.length] _ (by simp) HLs.out HLen.out).mono ?_
  rintro e w1 ⟨rfl, rfl⟩
  clear HLs HLen
  obtain ⟨W1, hW1⟩ : ∃ W1, lays_w gh fh mh gp fp mp gc fc mc gx.length fx.length mx.length w = W1 := ⟨_, rfl⟩
  rw [hW1] at HS ⊢
  clear hW1
  go_wp2_with fail
  refine region_own 3 (tri ⟨w.heap.size, gh, gp, gx.length, gc, gx⟩ ⟨w.heap.size + 1, fh, fp, fx.length, fc, fx⟩ ⟨w.heap.size + 1 + 1, mh, mp, mx.length, mc, mx⟩) (tri 3 4 5) (tri 32 34 36) (tri 33 35 37) (tri 7 8 9) [32, 34, 36, 33, 35, 37, 7, 8, 9] rfl ?hops (slots_of (by decide)) (by decide) (by kernel_rfl) (by decide) ?hsz ?hout (by kernel_rfl) ?hbox ?hlen ?hend
  case hops =>
    intro j hj
    match j, hj with
    | 0, _ => exact ⟨⟨_, _, _, rfl⟩, ⟨_, _, _, rfl, by kernel_rfl⟩, ⟨_, _, _, rfl⟩, ⟨_, _, _, rfl, by kernel_rfl, by kernel_rfl⟩⟩
    | 1, _ => exact ⟨⟨_, _, _, rfl⟩, ⟨_, _, _, rfl, by kernel_rfl⟩, ⟨_, _, _, rfl⟩, ⟨_, _, _, rfl, by kernel_rfl, by kernel_rfl⟩⟩
    | 2, _ => exact ⟨⟨_, _, _, rfl⟩, ⟨_, _, _, rfl, by kernel_rfl⟩, ⟨_, _, _, rfl⟩, ⟨_, _, _, rfl, by kernel_rfl, by kernel_rfl⟩⟩
    | j + 3, h => omega
  case hsz => intro d hd; simp only [List.mem_cons, List.not_mem_nil, or_false] at hd; show d < 187; omega
  case hout =>
    intro j hj
    match j, hj with
    | 0, _ => exact ⟨rfl, by decide⟩
    | 1, _ => exact ⟨rfl, by decide⟩
    | 2, _ => exact ⟨rfl, by decide⟩
    | j + 3, h => omega
  case hbox =>
    intro j hj
    match j, hj with
    | 0, _ => exact HS.out.all ⟨w.heap.size, gh, gp, gx.length, gc, gx⟩ (by simp)
    | 1, _ => exact HS.out.all ⟨w.heap.size + 1, fh, fp, fx.length, fc, fx⟩ (by simp)
    | 2, _ => exact HS.out.all ⟨w.heap.size + 1 + 1, mh, mp, mx.length, mc, mx⟩ (by simp)
    | j + 3, h => omega
  case hlen =>
    intro j hj
    match j, hj with
    | 0, _ => exact Nat.le_trans lg (by decide)
    | 1, _ => exact Nat.le_trans lf (by decide)
    | 2, _ => exact Nat.le_trans lm (by decide)
    | j + 3, h => omega
  case hend =>
    intro v W hl hB
    have h0 := hl 0 (by omega)
    have h1 := hl 1 (by omega)
    have h2 := hl 2 (by omega)
    simp only [tri] at h0 h1 h2
    clear hl
    obtain ⟨b0, p0, c0, e0, a0, r0⟩ := h0
    obtain ⟨b1, p1, c1, e1, a1, r1⟩ := h1
    obtain ⟨b2, p2, c2, e2, a2, r2⟩ := h2
    simp only [laid, List.foldl, Act.put, List.setIfInBounds_toArray, List.set_cons_succ, List.set_cons_zero, e0, e1, e2]
    obtain ⟨vu32, hvu32⟩ : ∃ u, v 32 = u := ⟨_, rfl⟩
    obtain ⟨vu33, hvu33⟩ : ∃ u, v 33 = u := ⟨_, rfl⟩
    obtain ⟨vu34, hvu34⟩ : ∃ u, v 34 = u := ⟨_, rfl⟩
    obtain ⟨vu35, hvu35⟩ : ∃ u, v 35 = u := ⟨_, rfl⟩
    obtain ⟨vu36, hvu36⟩ : ∃ u, v 36 = u := ⟨_, rfl⟩
    obtain ⟨vu37, hvu37⟩ : ∃ u, v 37 = u := ⟨_, rfl⟩
    rw [hvu32, hvu33, hvu34, hvu35, hvu36, hvu37]
    clear hvu32 hvu33 hvu34 hvu35 hvu36 hvu37
    have HS1 : Hid (Boxes w [⟨b2, mh, p2, mx.length, c2, mx⟩, ⟨b1, fh, p1, fx.length, c1, fx⟩, ⟨b0, gh, p0, gx.length, c0, gx⟩, ⟨w.heap.size + 1 + 1, mh, mp, mx.length, mc, mx⟩, ⟨w.heap.size + 1, fh, fp, fx.length, fc, fx⟩, ⟨w.heap.size, gh, gp, gx.length, gc, gx⟩] W) := Lib.hid ((((HS.out.next hB).add a0 r0).add a1 r1).add a2 r2)
    clear e0 e1 e2 a0 a1 a2 r0 r1 r2 hB HS v
    have q0 := HS1.out.get (x := ⟨b0, gh, p0, gx.length, c0, gx⟩) (by simp)
    have q1 := HS1.out.get (x := ⟨b1, fh, p1, fx.length, c1, fx⟩) (by simp)
    have q2 := HS1.out.get (x := ⟨b2, mh, p2, mx.length, c2, mx⟩) (by simp)
    go_wp2_with fail
    refine (HLay.out _ p0 c0 p1 c1 p2 c2 (HS1.out.all ⟨b0, gh, p0, gx.length, c0, gx⟩ (by simp)).r (HS1.out.all ⟨b1, fh, p1, fx.length, c1, fx⟩ (by simp)).r (HS1.out.all ⟨b2, mh, p2, mx.length, c2, mx⟩ (by simp)).r).mono ?_
    rintro e W2 ⟨rfl, hb⟩
    have S2 := HS1.out.next hb
    clear q0 q1 q2
    have q1 := S2.get (x := ⟨b1, fh, p1, fx.length, c1, fx⟩) (by simp)
    have q2 := S2.get (x := ⟨b2, mh, p2, mx.length, c2, mx⟩) (by simp)
    have HS2 := Lib.hid (S2.push 0 none 0 0 [] (reads_nil _ _ _))
    clear S2 hb HS1 HLay
    go_wp2_with fail
    refine (HDif.out _ p1 c1 p2 c2 (HS2.out.all ⟨b1, fh, p1, fx.length, c1, fx⟩ (by simp)).r (HS2.out.all ⟨b2, mh, p2, mx.length, c2, mx⟩ (by simp)).r).mono ?_
    rintro e W3 ⟨rfl, hb⟩
    obtain ⟨BL, hBL⟩ : ∃ BL, W2.heap.size = BL := ⟨_, rfl⟩
    have S3 := HS2.out.next hb
    rw [hBL] at S3 ⊢
    have HS3 := Lib.hid S3
    clear S3 hb hBL HS2 HDif q1 q2
    have q0 := HS3.out.get (x := ⟨b0, gh, p0, gx.length, c0, gx⟩) (by simp)
    have q1 := HS3.out.get (x := ⟨w.heap.size, gh, gp, gx.length, gc, gx⟩) (by simp)
    go_wp2_with fail
    refine (Same_reads gh p0 gp gx.length gx.length c0 gc gx _ (HS3.out.all ⟨b0, gh, p0, gx.length, c0, gx⟩ (by simp)).r (HS3.out.all ⟨w.heap.size, gh, gp, gx.length, gc, gx⟩ (by simp)).r).mono ?_
    rintro e W4 ⟨rfl, hb⟩
    have HS4 := Lib.hid (HS3.out.next hb)
    clear hb HS3 q0 q1
    have q0 := HS4.out.get (x := ⟨b1, fh, p1, fx.length, c1, fx⟩) (by simp)
    have q1 := HS4.out.get (x := ⟨w.heap.size + 1, fh, fp, fx.length, fc, fx⟩) (by simp)
    go_wp2_with fail
    refine (Same_reads fh p1 fp fx.length fx.length c1 fc fx _ (HS4.out.all ⟨b1, fh, p1, fx.length, c1, fx⟩ (by simp)).r (HS4.out.all ⟨w.heap.size + 1, fh, fp, fx.length, fc, fx⟩ (by simp)).r).mono ?_
    rintro e W5 ⟨rfl, hb⟩
    have HS5 := Lib.hid (HS4.out.next hb)
    clear hb HS4 q0 q1
    have q0 := HS5.out.get (x := ⟨b2, mh, p2, mx.length, c2, mx⟩) (by simp)
    have q1 := HS5.out.get (x := ⟨w.heap.size + 1 + 1, mh, mp, mx.length, mc, mx⟩) (by simp)
    go_wp2_with fail
    refine (Same_reads mh p2 mp mx.length mx.length c2 mc mx _ (HS5.out.all ⟨b2, mh, p2, mx.length, c2, mx⟩ (by simp)).r (HS5.out.all ⟨w.heap.size + 1 + 1, mh, mp, mx.length, mc, mx⟩ (by simp)).r).mono ?_
    rintro e W6 ⟨rfl, hb⟩
    have HS6 := Lib.hid (HS5.out.next hb)
    clear hb HS5 q0 q1
    go_wp2_with fail
    refine region_first14 3 w.heap.size 4 (w.heap.size + 1) 5 (w.heap.size + 1 + 1) ⟨gh, gp, gc, gx⟩ ⟨fh, fp, fc, fx⟩ ⟨mh, mp, mc, mx⟩ 0 0 [69, 70, 71, 72, 73, 74, 75, 76, 77, 78, 18, 16, 17, 0] [69, 70, 71, 72, 73, 74, 75, 76, 77, 78, 18, 16, 17] rfl ?hops (by decide) (by decide) (by kernel_rfl) (by decide) ?hsz ⟨⟨rfl, rfl, rfl⟩, by decide, by decide, by decide⟩ ?h0 ?h1 ?h2 HE3.out HE2.out ?hend
    case hops =>
      intro i hi
      match i, hi with
      | 0, _ => refine ⟨_, _, _, rfl, fun j hj => ?_⟩; simp [sq14, Sq.srcs] at hj
      | 1, _ => refine ⟨_, _, _, rfl, fun j hj => ?_⟩; simp [sq14, Sq.srcs] at hj
      | 2, _ => refine ⟨_, _, _, rfl, fun j hj => ?_⟩; simp [sq14, Sq.srcs] at hj
      | 3, _ => refine ⟨_, _, _, rfl, fun j hj => ?_⟩; simp [sq14, Sq.srcs] at hj; rcases hj with rfl | rfl | rfl <;> kernel_rfl
      | 4, _ => refine ⟨_, _, _, rfl, fun j hj => ?_⟩; simp [sq14, Sq.srcs] at hj; subst hj; kernel_rfl
      | 5, _ => refine ⟨_, _, _, rfl, fun j hj => ?_⟩; simp [sq14, Sq.srcs] at hj
      | 6, _ => refine ⟨_, _, _, rfl, fun j hj => ?_⟩; simp [sq14, Sq.srcs] at hj
      | 7, _ => refine ⟨_, _, _, rfl, fun j hj => ?_⟩; simp [sq14, Sq.srcs] at hj; rcases hj with rfl | rfl <;> kernel_rfl
      | 8, _ => refine ⟨_, _, _, rfl, fun j hj => ?_⟩; simp [sq14, Sq.srcs] at hj; subst hj; kernel_rfl
      | 9, _ => refine ⟨_, _, _, rfl, fun j hj => ?_⟩; simp [sq14, Sq.srcs] at hj
      | 10, _ => refine ⟨_, _, _, rfl, fun j hj => ?_⟩; simp [sq14, Sq.srcs] at hj
      | 11, _ => refine ⟨_, _, _, rfl, fun j hj => ?_⟩; simp [sq14, Sq.srcs] at hj; subst hj; kernel_rfl
      | 12, _ => refine ⟨_, _, _, rfl, fun j hj => ?_⟩; simp [sq14, Sq.srcs] at hj; subst hj; kernel_rfl
      | 13, _ => refine ⟨_, _, _, rfl, fun j hj => ?_⟩; simp [sq14, Sq.srcs] at hj
      | n + 14, h => omega
    case hsz => intro d hd; simp only [List.mem_cons, List.not_mem_nil, or_false] at hd; show d < 187; omega
    case h0 => exact ⟨(HS6.out.all ⟨w.heap.size, gh, gp, gx.length, gc, gx⟩ (by simp)).a, (HS6.out.all ⟨w.heap.size, gh, gp, gx.length, gc, gx⟩ (by simp)).r⟩
    case h1 => exact ⟨(HS6.out.all ⟨w.heap.size + 1, fh, fp, fx.length, fc, fx⟩ (by simp)).a, (HS6.out.all ⟨w.heap.size + 1, fh, fp, fx.length, fc, fx⟩ (by simp)).r⟩
    case h2 => exact ⟨(HS6.out.all ⟨w.heap.size + 1 + 1, mh, mp, mx.length, mc, mx⟩ (by simp)).a, (HS6.out.all ⟨w.heap.size + 1 + 1, mh, mp, mx.length, mc, mx⟩ (by simp)).r⟩
    case hend =>
      rintro v W ⟨BD, pD, cD, e10, hlo, hblk⟩ e11 e12 hB
      simp only [atL, List.getD_cons_succ, List.getD_cons_zero] at e10 e11 e12
      simp only [laid, List.foldl, Act.put, List.setIfInBounds_toArray, List.set_cons_succ, List.set_cons_zero, e10, e11, e12]
      obtain ⟨vu69, hvu69⟩ : ∃ u, v 69 = u := ⟨_, rfl⟩
      obtain ⟨vu70, hvu70⟩ : ∃ u, v 70 = u := ⟨_, rfl⟩
      obtain ⟨vu71, hvu71⟩ : ∃ u, v 71 = u := ⟨_, rfl⟩
      obtain ⟨vu72, hvu72⟩ : ∃ u, v 72 = u := ⟨_, rfl⟩
      obtain ⟨vu73, hvu73⟩ : ∃ u, v 73 = u := ⟨_, rfl⟩
      obtain ⟨vu74, hvu74⟩ : ∃ u, v 74 = u := ⟨_, rfl⟩
      obtain ⟨vu75, hvu75⟩ : ∃ u, v 75 = u := ⟨_, rfl⟩
      obtain ⟨vu76, hvu76⟩ : ∃ u, v 76 = u := ⟨_, rfl⟩
      obtain ⟨vu77, hvu77⟩ : ∃ u, v 77 = u := ⟨_, rfl⟩
      obtain ⟨vu78, hvu78⟩ : ∃ u, v 78 = u := ⟨_, rfl⟩
      rw [hvu69, hvu70, hvu71, hvu72, hvu73, hvu74, hvu75, hvu76, hvu77, hvu78]
      clear hvu69 hvu70 hvu71 hvu72 hvu73 hvu74 hvu75 hvu76 hvu77 hvu78
      have HS8 : Hid (Boxes w [⟨BD, 0, pD, 0, cD, []⟩, ⟨BL, 0, none, 0, 0, []⟩, ⟨b2, mh, p2, mx.length, c2, mx⟩, ⟨b1, fh, p1, fx.length, c1, fx⟩, ⟨b0, gh, p0, gx.length, c0, gx⟩, ⟨w.heap.size + 1 + 1, mh, mp, mx.length, mc, mx⟩, ⟨w.heap.size + 1, fh, fp, fx.length, fc, fx⟩, ⟨w.heap.size, gh, gp, gx.length, gc, gx⟩] W) := Lib.hid ((HS6.out.next hB).add (ArgBox.of_blk hblk) (reads_nil W pD cD))
      clear e10 e11 e12 hlo hblk hB v HS6
      have q0 := HS8.out.get (x := ⟨w.heap.size + 1, fh, fp, fx.length, fc, fx⟩) (by simp)
      have q1 := HS8.out.get (x := ⟨w.heap.size + 1 + 1, mh, mp, mx.length, mc, mx⟩) (by simp)
      have hlike := fun W => Like_any fh mh fp mp fx.length mx.length fc mc W
      rw [HLK.out] at hlike
      have HLike := Lib.hid hlike
      clear hlike
      go_wp2_with fail
      refine (HLike.out _).mono ?_
      rintro e W9 ⟨rfl, hb⟩
      have HS9 := Lib.hid (HS8.out.next hb)
      clear hb HS8 q0 q1
      have q0 := HS9.out.get (x := ⟨BL, 0, none, 0, 0, []⟩) (by simp)
      have q1 := HS9.out.get (x := ⟨BD, 0, pD, 0, cD, []⟩) (by simp)
      go_wp2_with fail
      refine (gets_none none 0 4 (by decide) _ _ 0 pD 0 cD rfl).mono ?_
      rintro e W10 ⟨rfl, hb⟩
      have HS10 := Lib.hid (HS9.out.next hb)
      clear hb HS9 q0 q1
      have q0 := HS10.out.get (x := ⟨w.heap.size + 1, fh, fp, fx.length, fc, fx⟩) (by simp)
      have q1 := HS10.out.get (x := ⟨w.heap.size + 1 + 1, mh, mp, mx.length, mc, mx⟩) (by simp)
      go_wp2_with fail
      refine (HLike.out _).mono ?_
      rintro e W11 ⟨rfl, hb⟩
      have HS11 := Lib.hid (HS10.out.next hb)
      clear hb HS10 q0 q1 HLike
      go_wp2_with fail
      refine (known_any _).mono ?_
      rintro e wz ⟨rfl, hbz⟩
      have SZ := Lib.hid (HS11.out.next hbz)
      clear HS11 hbz
      go_wp2_with fail
      go_ret
      exact ⟨rfl, SZ.out.below⟩
set_option maxRecDepth 100000 in
set_option maxHeartbeats 8000000 in
theorem PointLays_c2b (gh fh mh : Int) (gp fp mp : Option Addr) (gc fc mc : Nat) (gx fx mx : List Int) (e3 : Int) (he30 : e3 ≠ 0) (w : World)
    (lg : gx.length ≤ 70) (lf : fx.length ≤ 70) (lm : mx.length ≤ 70) (hrg : Reads w (.slice gp gx.length gc) gx) (hrf : Reads w (.slice fp fx.length fc) fx) (hrm : Reads w (.slice mp mx.length mc) mx)
    (he3 : firstE [⟨gh, gp, gc, gx⟩, ⟨fh, fp, fc, fx⟩, ⟨mh, mp, mc, mx⟩] = e3) (he2 : firstE [⟨fh, fp, fc, fx⟩, ⟨mh, mp, mc, mx⟩] = 0)
    (hLay : ∀ (W : World) (q1 : Option Addr) (k1 : Nat) (q2 : Option Addr) (k2 : Nat) (q3 : Option Addr) (k3 : Nat), Reads W (.slice q1 gx.length k1) gx → Reads W (.slice q2 fx.length k2) fx → Reads W (.slice q3 mx.length k3) mx → Calls Try.prog 55 #[.agg #[.int .i64 gh, .slice q1 gx.length k1], .agg #[.int .i64 fh, .slice q2 fx.length k2], .agg #[.int .i64 mh, .slice q3 mx.length k3]] W (ErrD e3 W))
    (hDif : ∀ (W : World) (q2 : Option Addr) (k2 : Nat) (q3 : Option Addr) (k3 : Nat), Reads W (.slice q2 fx.length k2) fx → Reads W (.slice q3 mx.length k3) mx → Calls Try.prog 56 #[.agg #[.int .i64 fh, .slice q2 fx.length k2], .agg #[.int .i64 mh, .slice q3 mx.length k3]] W (ErrF 4 W))
    (hlk : decide (fh = mh ∧ fx.length = mx.length) = false) :
    Calls Try.prog 9 #[.agg #[.int .i64 gh, .slice gp gx.length gc], .agg #[.int .i64 fh, .slice fp fx.length fc], .agg #[.int .i64 mh, .slice mp mx.length mc]] w fun e w' => e = .returned (.bool true) ∧ Below w.heap.size w w' := by
  obtain ⟨hS0, hLs⟩ := lays_start gh fh mh gp fp mp gc fc mc gx fx mx w hrg hrf hrm
  have HS := Lib.hid hS0
  have HLs := Lib.hid hLs
  clear hS0 hLs
  have HLen : Hid (∀ i, i < [gx.length, fx.length, mx.length].length → nthN [gx.length, fx.length, mx.length] i ≤ 70) := Lib.hid (len3_le lg lf lm)
  have hz3 : (e3 == 0) = false := by simpa using he30
  have HLay := Lib.hid hLay
  have HDif := Lib.hid hDif
  have HE3 := Lib.hid he3
  have HE2 := Lib.hid he2
  have HE30 := Lib.hid he30
  have HZ3 := Lib.hid hz3
  have HLK := Lib.hid hlk
  clear hLay hDif he3 he2 he30 hz3 hlk hrg hrf hrm
  go_enter Try.func9, Try.ntmps9
  go_wp2_with fail
  refine (large_no (w.heap.size + 1 + 1 + 1) 3 [gx.length, fx.length, mx.length] _ (by simp) HLs.out HLen.out).mono ?_
  rintro e w1 ⟨rfl, rfl⟩
  clear HLs HLen
  obtain ⟨W1, hW1⟩ : ∃ W1, lays_w gh fh mh gp fp mp gc fc mc gx.length fx.length mx.length w = W1 := ⟨_, rfl⟩
  rw [hW1] at HS ⊢
  clear hW1
  go_wp2_with fail
  refine region_own 3 (tri ⟨w.heap.size, gh, gp, gx.length, gc, gx⟩ ⟨w.heap.size + 1, fh, fp, fx.length, fc, fx⟩ ⟨w.heap.size + 1 + 1, mh, mp, mx.length, mc, mx⟩) (tri 3 4 5) (tri 32 34 36) (tri 33 35 37) (tri 7 8 9) [32, 34, 36, 33, 35, 37, 7, 8, 9] rfl ?hops (slots_of (by decide)) (by decide) (by kernel_rfl) (by decide) ?hsz ?hout (by kernel_rfl) ?hbox ?hlen ?hend
  case hops =>
    intro j hj
    match j, hj with
    | 0, _ => exact ⟨⟨_, _, _, rfl⟩, ⟨_, _, _, rfl, by kernel_rfl⟩, ⟨_, _, _, rfl⟩, ⟨_, _, _, rfl, by kernel_rfl, by kernel_rfl⟩⟩
    | 1, _ => exact ⟨⟨_, _, _, rfl⟩, ⟨_, _, _, rfl, by kernel_rfl⟩, ⟨_, _, _, rfl⟩, ⟨_, _, _, rfl, by kernel_rfl, by kernel_rfl⟩⟩
    | 2, _ => exact ⟨⟨_, _, _, rfl⟩, ⟨_, _, _, rfl, by kernel_rfl⟩, ⟨_, _, _, rfl⟩, ⟨_, _, _, rfl, by kernel_rfl, by kernel_rfl⟩⟩
    | j + 3, h => omega
  case hsz => intro d hd; simp only [List.mem_cons, List.not_mem_nil, or_false] at hd; show d < 187; omega
  case hout =>
    intro j hj
    match j, hj with
    | 0, _ => exact ⟨rfl, by decide⟩
    | 1, _ => exact ⟨rfl, by decide⟩
    | 2, _ => exact ⟨rfl, by decide⟩
    | j + 3, h => omega
  case hbox =>
    intro j hj
    match j, hj with
    | 0, _ => exact HS.out.all ⟨w.heap.size, gh, gp, gx.length, gc, gx⟩ (by simp)
    | 1, _ => exact HS.out.all ⟨w.heap.size + 1, fh, fp, fx.length, fc, fx⟩ (by simp)
    | 2, _ => exact HS.out.all ⟨w.heap.size + 1 + 1, mh, mp, mx.length, mc, mx⟩ (by simp)
    | j + 3, h => omega
  case hlen =>
    intro j hj
    match j, hj with
    | 0, _ => exact Nat.le_trans lg (by decide)
    | 1, _ => exact Nat.le_trans lf (by decide)
    | 2, _ => exact Nat.le_trans lm (by decide)
    | j + 3, h => omega
  case hend =>
    intro v W hl hB
    have h0 := hl 0 (by omega)
    have h1 := hl 1 (by omega)
    have h2 := hl 2 (by omega)
    simp only [tri] at h0 h1 h2
    clear hl
    obtain ⟨b0, p0, c0, e0, a0, r0⟩ := h0
    obtain ⟨b1, p1, c1, e1, a1, r1⟩ := h1
    obtain ⟨b2, p2, c2, e2, a2, r2⟩ := h2
    simp only [laid, List.foldl, Act.put, List.setIfInBounds_toArray, List.set_cons_succ, List.set_cons_zero, e0, e1, e2]
    obtain ⟨vu32, hvu32⟩ : ∃ u, v 32 = u := ⟨_, rfl⟩
    obtain ⟨vu33, hvu33⟩ : ∃ u, v 33 = u := ⟨_, rfl⟩
    obtain ⟨vu34, hvu34⟩ : ∃ u, v 34 = u := ⟨_, rfl⟩
    obtain ⟨vu35, hvu35⟩ : ∃ u, v 35 = u := ⟨_, rfl⟩
    obtain ⟨vu36, hvu36⟩ : ∃ u, v 36 = u := ⟨_, rfl⟩
    obtain ⟨vu37, hvu37⟩ : ∃ u, v 37 = u := ⟨_, rfl⟩
    rw [hvu32, hvu33, hvu34, hvu35, hvu36, hvu37]
    clear hvu32 hvu33 hvu34 hvu35 hvu36 hvu37
    have HS1 : Hid (Boxes w [⟨b2, mh, p2, mx.length, c2, mx⟩, ⟨b1, fh, p1, fx.length, c1, fx⟩, ⟨b0, gh, p0, gx.length, c0, gx⟩, ⟨w.heap.size + 1 + 1, mh, mp, mx.length, mc, mx⟩, ⟨w.heap.size + 1, fh, fp, fx.length, fc, fx⟩, ⟨w.heap.size, gh, gp, gx.length, gc, gx⟩] W) := Lib.hid ((((HS.out.next hB).add a0 r0).add a1 r1).add a2 r2)
    clear e0 e1 e2 a0 a1 a2 r0 r1 r2 hB HS v
    have q0 := HS1.out.get (x := ⟨b0, gh, p0, gx.length, c0, gx⟩) (by simp)
    have q1 := HS1.out.get (x := ⟨b1, fh, p1, fx.length, c1, fx⟩) (by simp)
    have q2 := HS1.out.get (x := ⟨b2, mh, p2, mx.length, c2, mx⟩) (by simp)
    go_wp2_with fail
    refine (HLay.out _ p0 c0 p1 c1 p2 c2 (HS1.out.all ⟨b0, gh, p0, gx.length, c0, gx⟩ (by simp)).r (HS1.out.all ⟨b1, fh, p1, fx.length, c1, fx⟩ (by simp)).r (HS1.out.all ⟨b2, mh, p2, mx.length, c2, mx⟩ (by simp)).r).mono ?_
    rintro e W2 ⟨rfl, hb⟩
    have S2 := HS1.out.next hb
    clear q0 q1 q2
    have q1 := S2.get (x := ⟨b1, fh, p1, fx.length, c1, fx⟩) (by simp)
    have q2 := S2.get (x := ⟨b2, mh, p2, mx.length, c2, mx⟩) (by simp)
    have HS2 := Lib.hid (S2.push 0 none 0 0 [] (reads_nil _ _ _))
    clear S2 hb HS1 HLay
    go_wp2_with fail
    refine (HDif.out _ p1 c1 p2 c2 (HS2.out.all ⟨b1, fh, p1, fx.length, c1, fx⟩ (by simp)).r (HS2.out.all ⟨b2, mh, p2, mx.length, c2, mx⟩ (by simp)).r).mono ?_
    rintro e W3 ⟨rfl, hb⟩
    obtain ⟨BL, hBL⟩ : ∃ BL, W2.heap.size = BL := ⟨_, rfl⟩
    have S3 := HS2.out.next hb
    rw [hBL] at S3 ⊢
    have HS3 := Lib.hid S3
    clear S3 hb hBL HS2 HDif q1 q2
    have q0 := HS3.out.get (x := ⟨b0, gh, p0, gx.length, c0, gx⟩) (by simp)
    have q1 := HS3.out.get (x := ⟨w.heap.size, gh, gp, gx.length, gc, gx⟩) (by simp)
    go_wp2_with fail
    refine (Same_reads gh p0 gp gx.length gx.length c0 gc gx _ (HS3.out.all ⟨b0, gh, p0, gx.length, c0, gx⟩ (by simp)).r (HS3.out.all ⟨w.heap.size, gh, gp, gx.length, gc, gx⟩ (by simp)).r).mono ?_
    rintro e W4 ⟨rfl, hb⟩
    have HS4 := Lib.hid (HS3.out.next hb)
    clear hb HS3 q0 q1
    have q0 := HS4.out.get (x := ⟨b1, fh, p1, fx.length, c1, fx⟩) (by simp)
    have q1 := HS4.out.get (x := ⟨w.heap.size + 1, fh, fp, fx.length, fc, fx⟩) (by simp)
    go_wp2_with fail
    refine (Same_reads fh p1 fp fx.length fx.length c1 fc fx _ (HS4.out.all ⟨b1, fh, p1, fx.length, c1, fx⟩ (by simp)).r (HS4.out.all ⟨w.heap.size + 1, fh, fp, fx.length, fc, fx⟩ (by simp)).r).mono ?_
    rintro e W5 ⟨rfl, hb⟩
    have HS5 := Lib.hid (HS4.out.next hb)
    clear hb HS4 q0 q1
    have q0 := HS5.out.get (x := ⟨b2, mh, p2, mx.length, c2, mx⟩) (by simp)
    have q1 := HS5.out.get (x := ⟨w.heap.size + 1 + 1, mh, mp, mx.length, mc, mx⟩) (by simp)
    go_wp2_with fail
    refine (Same_reads mh p2 mp mx.length mx.length c2 mc mx _ (HS5.out.all ⟨b2, mh, p2, mx.length, c2, mx⟩ (by simp)).r (HS5.out.all ⟨w.heap.size + 1 + 1, mh, mp, mx.length, mc, mx⟩ (by simp)).r).mono ?_
    rintro e W6 ⟨rfl, hb⟩
    have HS6 := Lib.hid (HS5.out.next hb)
    clear hb HS5 q0 q1
    go_wp2_with fail
    refine region_first14 3 w.heap.size 4 (w.heap.size + 1) 5 (w.heap.size + 1 + 1) ⟨gh, gp, gc, gx⟩ ⟨fh, fp, fc, fx⟩ ⟨mh, mp, mc, mx⟩ e3 0 [69, 70, 71, 72, 73, 74, 75, 76, 77, 78, 18, 16, 17, 0] [69, 70, 71, 72, 73, 74, 75, 76, 77, 78, 18, 16, 17] rfl ?hops (by decide) (by decide) (by kernel_rfl) (by decide) ?hsz ⟨⟨rfl, rfl, rfl⟩, by decide, by decide, by decide⟩ ?h0 ?h1 ?h2 HE3.out HE2.out ?hend
    case hops =>
      intro i hi
      match i, hi with
      | 0, _ => refine ⟨_, _, _, rfl, fun j hj => ?_⟩; simp [sq14, Sq.srcs] at hj
      | 1, _ => refine ⟨_, _, _, rfl, fun j hj => ?_⟩; simp [sq14, Sq.srcs] at hj
      | 2, _ => refine ⟨_, _, _, rfl, fun j hj => ?_⟩; simp [sq14, Sq.srcs] at hj
      | 3, _ => refine ⟨_, _, _, rfl, fun j hj => ?_⟩; simp [sq14, Sq.srcs] at hj; rcases hj with rfl | rfl | rfl <;> kernel_rfl
      | 4, _ => refine ⟨_, _, _, rfl, fun j hj => ?_⟩; simp [sq14, Sq.srcs] at hj; subst hj; kernel_rfl
      | 5, _ => refine ⟨_, _, _, rfl, fun j hj => ?_⟩; simp [sq14, Sq.srcs] at hj
      | 6, _ => refine ⟨_, _, _, rfl, fun j hj => ?_⟩; simp [sq14, Sq.srcs] at hj
      | 7, _ => refine ⟨_, _, _, rfl, fun j hj => ?_⟩; simp [sq14, Sq.srcs] at hj; rcases hj with rfl | rfl <;> kernel_rfl
      | 8, _ => refine ⟨_, _, _, rfl, fun j hj => ?_⟩; simp [sq14, Sq.srcs] at hj; subst hj; kernel_rfl
      | 9, _ => refine ⟨_, _, _, rfl, fun j hj => ?_⟩; simp [sq14, Sq.srcs] at hj
      | 10, _ => refine ⟨_, _, _, rfl, fun j hj => ?_⟩; simp [sq14, Sq.srcs] at hj
      | 11, _ => refine ⟨_, _, _, rfl, fun j hj => ?_⟩; simp [sq14, Sq.srcs] at hj; subst hj; kernel_rfl
      | 12, _ => refine ⟨_, _, _, rfl, fun j hj => ?_⟩; simp [sq14, Sq.srcs] at hj; subst hj; kernel_rfl
      | 13, _ => refine ⟨_, _, _, rfl, fun j hj => ?_⟩; simp [sq14, Sq.srcs] at hj
      | n + 14, h => omega
    case hsz => intro d hd; simp only [List.mem_cons, List.not_mem_nil, or_false] at hd; show d < 187; omega
    case h0 => exact ⟨(HS6.out.all ⟨w.heap.size, gh, gp, gx.length, gc, gx⟩ (by simp)).a, (HS6.out.all ⟨w.heap.size, gh, gp, gx.length, gc, gx⟩ (by simp)).r⟩
    case h1 => exact ⟨(HS6.out.all ⟨w.heap.size + 1, fh, fp, fx.length, fc, fx⟩ (by simp)).a, (HS6.out.all ⟨w.heap.size + 1, fh, fp, fx.length, fc, fx⟩ (by simp)).r⟩
    case h2 => exact ⟨(HS6.out.all ⟨w.heap.size + 1 + 1, mh, mp, mx.length, mc, mx⟩ (by simp)).a, (HS6.out.all ⟨w.heap.size + 1 + 1, mh, mp, mx.length, mc, mx⟩ (by simp)).r⟩
    case hend =>
      rintro v W ⟨BD, pD, cD, e10, hlo, hblk⟩ e11 e12 hB
      simp only [atL, List.getD_cons_succ, List.getD_cons_zero] at e10 e11 e12
      simp only [laid, List.foldl, Act.put, List.setIfInBounds_toArray, List.set_cons_succ, List.set_cons_zero, e10, e11, e12]
      obtain ⟨vu69, hvu69⟩ : ∃ u, v 69 = u := ⟨_, rfl⟩
      obtain ⟨vu70, hvu70⟩ : ∃ u, v 70 = u := ⟨_, rfl⟩
      obtain ⟨vu71, hvu71⟩ : ∃ u, v 71 = u := ⟨_, rfl⟩
      obtain ⟨vu72, hvu72⟩ : ∃ u, v 72 = u := ⟨_, rfl⟩
      obtain ⟨vu73, hvu73⟩ : ∃ u, v 73 = u := ⟨_, rfl⟩
      obtain ⟨vu74, hvu74⟩ : ∃ u, v 74 = u := ⟨_, rfl⟩
      obtain ⟨vu75, hvu75⟩ : ∃ u, v 75 = u := ⟨_, rfl⟩
      obtain ⟨vu76, hvu76⟩ : ∃ u, v 76 = u := ⟨_, rfl⟩
      obtain ⟨vu77, hvu77⟩ : ∃ u, v 77 = u := ⟨_, rfl⟩
      obtain ⟨vu78, hvu78⟩ : ∃ u, v 78 = u := ⟨_, rfl⟩
      rw [hvu69, hvu70, hvu71, hvu72, hvu73, hvu74, hvu75, hvu76, hvu77, hvu78]
      clear hvu69 hvu70 hvu71 hvu72 hvu73 hvu74 hvu75 hvu76 hvu77 hvu78
      have HS8 : Hid (Boxes w [⟨BD, 0, pD, 0, cD, []⟩, ⟨BL, 0, none, 0, 0, []⟩, ⟨b2, mh, p2, mx.length, c2, mx⟩, ⟨b1, fh, p1, fx.length, c1, fx⟩, ⟨b0, gh, p0, gx.length, c0, gx⟩, ⟨w.heap.size + 1 + 1, mh, mp, mx.length, mc, mx⟩, ⟨w.heap.size + 1, fh, fp, fx.length, fc, fx⟩, ⟨w.heap.size, gh, gp, gx.length, gc, gx⟩] W) := Lib.hid ((HS6.out.next hB).add (ArgBox.of_blk hblk) (reads_nil W pD cD))
      clear e10 e11 e12 hlo hblk hB v HS6
      have hz3 := HZ3.out
      have q0 := HS8.out.get (x := ⟨BL, 0, none, 0, 0, []⟩) (by simp)
      have q1 := HS8.out.get (x := ⟨BD, 0, pD, 0, cD, []⟩) (by simp)
      go_wp2_with fail
      refine (gets_none none 0 e3 HE30.out _ _ 0 pD 0 cD rfl).mono ?_
      rintro e W9 ⟨rfl, hb⟩
      have HS9 := Lib.hid (HS8.out.next hb)
      clear hb HS8 q0 q1 hz3
      have q0 := HS9.out.get (x := ⟨w.heap.size + 1, fh, fp, fx.length, fc, fx⟩) (by simp)
      have q1 := HS9.out.get (x := ⟨w.heap.size + 1 + 1, mh, mp, mx.length, mc, mx⟩) (by simp)
      have hlike := fun W => Like_any fh mh fp mp fx.length mx.length fc mc W
      rw [HLK.out] at hlike
      have HLike := Lib.hid hlike
      clear hlike
      go_wp2_with fail
      refine (HLike.out _).mono ?_
      rintro e W11 ⟨rfl, hb⟩
      have HS11 := Lib.hid (HS9.out.next hb)
      clear hb HS9 q0 q1 HLike
      go_wp2_with fail
      refine (known_any _).mono ?_
      rintro e wz ⟨rfl, hbz⟩
      have SZ := Lib.hid (HS11.out.next hbz)
      clear HS11 hbz
      go_wp2_with fail
      go_ret
      exact ⟨rfl, SZ.out.below⟩
end Go.Proofs.Ytjobbleabepaiaa
