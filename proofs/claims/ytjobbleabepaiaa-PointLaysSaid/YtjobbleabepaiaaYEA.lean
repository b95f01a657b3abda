/- PointLays: the walk, by the two first errors. -/
import Derived.Test.YtjobbleabepaiaaYD
namespace Go.Proofs.Ytjobbleabepaiaa
open Go.RowKit Go.Shelf
set_option maxRecDepth 100000 in
set_option maxHeartbeats 8000000 in
theorem PointLays_A (gh fh mh : Int) (gp fp mp : Option Addr) (gc fc mc : Nat) (gx fx mx : List Int) (w : World) (n : Nat) (zs : List Nat) (m : Nat) (F M : Nat → Nat → Bool) (hm24 : m ≤ 24) (hN60 : fx.length ≤ 60)
    (lg : gx.length ≤ 70) (lf : fx.length ≤ 70) (lm : mx.length ≤ 70) (hrg : Reads w (.slice gp gx.length gc) gx) (hrf : Reads w (.slice fp fx.length fc) fx) (hrm : Reads w (.slice mp mx.length mc) mx)
    (he3 : firstE [⟨gh, gp, gc, gx⟩, ⟨fh, fp, fc, fx⟩, ⟨mh, mp, mc, mx⟩] = 0) (he2 : firstE [⟨fh, fp, fc, fx⟩, ⟨mh, mp, mc, mx⟩] = 0)
    (hLay : ∀ (W : World) (q1 : Option Addr) (k1 : Nat) (q2 : Option Addr) (k2 : Nat) (q3 : Option Addr) (k3 : Nat), Reads W (.slice q1 gx.length k1) gx → Reads W (.slice q2 fx.length k2) fx → Reads W (.slice q3 mx.length k3) mx → Calls Try.prog 55 #[.agg #[.int .i64 gh, .slice q1 gx.length k1], .agg #[.int .i64 fh, .slice q2 fx.length k2], .agg #[.int .i64 mh, .slice q3 mx.length k3]] W (OkD n zs W))
    (hDif : ∀ (W : World) (q2 : Option Addr) (k2 : Nat) (q3 : Option Addr) (k3 : Nat), Reads W (.slice q2 fx.length k2) fx → Reads W (.slice q3 mx.length k3) mx → Calls Try.prog 56 #[.agg #[.int .i64 fh, .slice q2 fx.length k2], .agg #[.int .i64 mh, .slice q3 mx.length k3]] W (fun e w' => e = .returned (.tuple #[.int .i64 ((dfAll (fun i j => F i j != M i j) m fx.length).1 : Int), .int .i64 ((dfAll (fun i j => F i j != M i j) m fx.length).2.1 : Int), .int .i64 ((dfAll (fun i j => F i j != M i j) m fx.length).2.2 : Int), .int .i64 0]) ∧ Below W.heap.size W w'))
    (hlk : decide (fh = mh ∧ fx.length = mx.length) = true)
    (hlz : zs.length ≤ 1000) (hRef : ∀ (W : World) (q1 : Option Addr) (k1 : Nat) (q2 : Option Addr) (k2 : Nat) (q3 : Option Addr) (k3 : Nat), Reads W (.slice q1 gx.length k1) gx → Reads W (.slice q2 fx.length k2) fx → Reads W (.slice q3 mx.length k3) mx → Calls Try.prog 58 #[.agg #[.int .i64 gh, .slice q1 gx.length k1], .agg #[.int .i64 fh, .slice q2 fx.length k2], .agg #[.int .i64 mh, .slice q3 mx.length k3]] W (CopyN (n : Int) (ints zs) W))
    (hTF : ∀ (W : World) (q : Option Addr) (k : Nat), Reads W (.slice q fx.length k) fx → Calls Try.prog 52 #[.agg #[.int .i64 fh, .slice q fx.length k]] W fun e w' => ∃ g c, e = .returned (.slice (some ⟨g, 0, none⟩) fx.length c) ∧ TabAt w' g fx.length m F ∧ Below W.heap.size W w')
    (hTM : ∀ (W : World) (q : Option Addr) (k : Nat), Reads W (.slice q mx.length k) mx → Calls Try.prog 52 #[.agg #[.int .i64 mh, .slice q mx.length k]] W fun e w' => ∃ g c, e = .returned (.slice (some ⟨g, 0, none⟩) fx.length c) ∧ TabAt w' g fx.length m M ∧ Below W.heap.size W w') :
    Calls Try.prog 9 #[.agg #[.int .i64 gh, .slice gp gx.length gc], .agg #[.int .i64 fh, .slice fp fx.length fc], .agg #[.int .i64 mh, .slice mp mx.length mc]] w fun e w' => e = .returned (.bool true) ∧ Below w.heap.size w w' := by
  obtain ⟨hS0, hLs⟩ := lays_start gh fh mh gp fp mp gc fc mc gx fx mx w hrg hrf hrm
  have HS := Lib.hid hS0
  have HLs := Lib.hid hLs
  clear hS0 hLs
  have HLen : Hid (∀ i, i < [gx.length, fx.length, mx.length].length → nthN [gx.length, fx.length, mx.length] i ≤ 70) := Lib.hid (len3_le lg lf lm)
  have HLay := Lib.hid hLay
  have HDif := Lib.hid hDif
  have HE3 := Lib.hid he3
  have HE2 := Lib.hid he2
  have HLK := Lib.hid hlk
  have HRef := Lib.hid hRef
  have HLZ := Lib.hid hlz
  have HTF := Lib.hid hTF
  have HTM := Lib.hid hTM
  clear hLay hDif he3 he2 hlk hRef hlz hTF hTM hrg hrf hrm
  go_enter Try.func9, Try.ntmps9
  go_wp2_with fail
  refine (large_no (w.heap.size + 1 + 1 + 1) 3 [gx.length, fx.length, mx.length] _ (by simp) HLs.out HLen.out).mono ?_
  rintro e w1 ⟨rfl, rfl⟩
  clear HLs HLen
  obtain ⟨W1, hW1⟩ : ∃ W1, lays_w gh fh mh gp fp mp gc fc mc gx.length fx.length mx.length w = W1 := ⟨_, rfl⟩
  rw [hW1] at HS ⊢
  clear hW1
  go_wp2_with fail
  refine region_own 3 (tri ⟨w.heap.size, gh, gp, gx.length, gc, gx⟩ ⟨w.heap.size + 1, fh, fp, fx.length, fc, fx⟩ ⟨w.heap.size + 1 + 1, mh, mp, mx.length, mc, mx⟩) (tri 3 4 5) (tri 32 34 36) (tri 33 35 37) (tri 7 8 9) [32, 34, 36, 33, 35, 37, 7, 8, 9] rfl ?hops (slots_of (by decide)) (by decide) (by kernel_rfl) (by decide) ?hsz ?hout (by kernel_rfl) ?hbox ?hlen ?hend
  case hops =>
    intro j hj
    match j, hj with
    | 0, _ => exact ⟨⟨_, _, _, rfl⟩, ⟨_, _, _, rfl, by kernel_rfl⟩, ⟨_, _, _, rfl⟩, ⟨_, _, _, rfl, by kernel_rfl, by kernel_rfl⟩⟩
    | 1, _ => exact ⟨⟨_, _, _, rfl⟩, ⟨_, _, _, rfl, by kernel_rfl⟩, ⟨_, _, _, rfl⟩, ⟨_, _, _, rfl, by kernel_rfl, by kernel_rfl⟩⟩
    | 2, _ => exact ⟨⟨_, _, _, rfl⟩, ⟨_, _, _, rfl, by kernel_rfl⟩, ⟨_, _, _, rfl⟩, ⟨_, _, _, rfl, by kernel_rfl, by kernel_rfl⟩⟩
    | j + 3, h => omega
  case hsz => intro d hd; simp only [List.mem_cons, List.not_mem_nil, or_false] at hd; show d < 187; omega
  case hout =>
    intro j hj
    match j, hj with
    | 0, _ => exact ⟨rfl, by decide⟩
    | 1, _ => exact ⟨rfl, by decide⟩
    | 2, _ => exact ⟨rfl, by decide⟩
    | j + 3, h => omega
  case hbox =>
    intro j hj
    match j, hj with
    | 0, _ => exact HS.out.all ⟨w.heap.size, gh, gp, gx.length, gc, gx⟩ (by simp)
    | 1, _ => exact HS.out.all ⟨w.heap.size + 1, fh, fp, fx.length, fc, fx⟩ (by simp)
    | 2, _ => exact HS.out.all ⟨w.heap.size + 1 + 1, mh, mp, mx.length, mc, mx⟩ (by simp)
    | j + 3, h => omega
  case hlen =>
    intro j hj
    match j, hj with
    | 0, _ => exact Nat.le_trans lg (by decide)
    | 1, _ => exact Nat.le_trans lf (by decide)
    | 2, _ => exact Nat.le_trans lm (by decide)
    | j + 3, h => omega
  case hend =>
    intro v W hl hB
    have h0 := hl 0 (by omega)
    have h1 := hl 1 (by omega)
    have h2 := hl 2 (by omega)
    simp only [tri] at h0 h1 h2
    clear hl
    obtain ⟨b0, p0, c0, e0, a0, r0⟩ := h0
    obtain ⟨b1, p1, c1, e1, a1, r1⟩ := h1
    obtain ⟨b2, p2, c2, e2, a2, r2⟩ := h2
    simp only [laid, List.foldl, Act.put, List.setIfInBounds_toArray, List.set_cons_succ, List.set_cons_zero, e0, e1, e2]
    obtain ⟨vu32, hvu32⟩ : ∃ u, v 32 = u := ⟨_, rfl⟩
    obtain ⟨vu33, hvu33⟩ : ∃ u, v 33 = u := ⟨_, rfl⟩
    obtain ⟨vu34, hvu34⟩ : ∃ u, v 34 = u := ⟨_, rfl⟩
    obtain ⟨vu35, hvu35⟩ : ∃ u, v 35 = u := ⟨_, rfl⟩
    obtain ⟨vu36, hvu36⟩ : ∃ u, v 36 = u := ⟨_, rfl⟩
    obtain ⟨vu37, hvu37⟩ : ∃ u, v 37 = u := ⟨_, rfl⟩
    rw [hvu32, hvu33, hvu34, hvu35, hvu36, hvu37]
    clear hvu32 hvu33 hvu34 hvu35 hvu36 hvu37
    have HS1 : Hid (Boxes w [⟨b2, mh, p2, mx.length, c2, mx⟩, ⟨b1, fh, p1, fx.length, c1, fx⟩, ⟨b0, gh, p0, gx.length, c0, gx⟩, ⟨w.heap.size + 1 + 1, mh, mp, mx.length, mc, mx⟩, ⟨w.heap.size + 1, fh, fp, fx.length, fc, fx⟩, ⟨w.heap.size, gh, gp, gx.length, gc, gx⟩] W) := Lib.hid ((((HS.out.next hB).add a0 r0).add a1 r1).add a2 r2)
    clear e0 e1 e2 a0 a1 a2 r0 r1 r2 hB HS v
    have q0 := HS1.out.get (x := ⟨b0, gh, p0, gx.length, c0, gx⟩) (by simp)
    have q1 := HS1.out.get (x := ⟨b1, fh, p1, fx.length, c1, fx⟩) (by simp)
    have q2 := HS1.out.get (x := ⟨b2, mh, p2, mx.length, c2, mx⟩) (by simp)
    go_wp2_with fail
    refine (HLay.out _ p0 c0 p1 c1 p2 c2 (HS1.out.all ⟨b0, gh, p0, gx.length, c0, gx⟩ (by simp)).r (HS1.out.all ⟨b1, fh, p1, fx.length, c1, fx⟩ (by simp)).r (HS1.out.all ⟨b2, mh, p2, mx.length, c2, mx⟩ (by simp)).r).mono ?_
    rintro e W2 ⟨R, rfl, _, hn, hb⟩
    have S2 := HS1.out.next hb
    clear q0 q1 q2
    have q1 := S2.get (x := ⟨b1, fh, p1, fx.length, c1, fx⟩) (by simp)
    have q2 := S2.get (x := ⟨b2, mh, p2, mx.length, c2, mx⟩) (by simp)
    have HS2 := Lib.hid (S2.push n (some ⟨R, 0, none⟩) zs.length zs.length (ints zs) (blk_reads hn HLZ.out _))
    clear S2 hb HS1 HLay hn
    go_wp2_with fail
    refine (HDif.out _ p1 c1 p2 c2 (HS2.out.all ⟨b1, fh, p1, fx.length, c1, fx⟩ (by simp)).r (HS2.out.all ⟨b2, mh, p2, mx.length, c2, mx⟩ (by simp)).r).mono ?_
    rintro e W3 ⟨rfl, hb⟩
    obtain ⟨BL, hBL⟩ : ∃ BL, W2.heap.size = BL := ⟨_, rfl⟩
    have S3 := HS2.out.next hb
    rw [hBL] at S3 ⊢
    have HS3 := Lib.hid S3
    clear S3 hb hBL HS2 HDif q1 q2
    obtain ⟨D, hD⟩ : ∃ D, D = dfAll (fun i j => F i j != M i j) m fx.length := ⟨_, rfl⟩
    rw [← hD]
    have HD := Lib.hid hD
    clear hD
    have q0 := HS3.out.get (x := ⟨b0, gh, p0, gx.length, c0, gx⟩) (by simp)
    have q1 := HS3.out.get (x := ⟨w.heap.size, gh, gp, gx.length, gc, gx⟩) (by simp)
    go_wp2_with fail
    refine (Same_reads gh p0 gp gx.length gx.length c0 gc gx _ (HS3.out.all ⟨b0, gh, p0, gx.length, c0, gx⟩ (by simp)).r (HS3.out.all ⟨w.heap.size, gh, gp, gx.length, gc, gx⟩ (by simp)).r).mono ?_
    rintro e W4 ⟨rfl, hb⟩
    have HS4 := Lib.hid (HS3.out.next hb)
    clear hb HS3 q0 q1
    have q0 := HS4.out.get (x := ⟨b1, fh, p1, fx.length, c1, fx⟩) (by simp)
    have q1 := HS4.out.get (x := ⟨w.heap.size + 1, fh, fp, fx.length, fc, fx⟩) (by simp)
    go_wp2_with fail
    refine (Same_reads fh p1 fp fx.length fx.length c1 fc fx _ (HS4.out.all ⟨b1, fh, p1, fx.length, c1, fx⟩ (by simp)).r (HS4.out.all ⟨w.heap.size + 1, fh, fp, fx.length, fc, fx⟩ (by simp)).r).mono ?_
    rintro e W5 ⟨rfl, hb⟩
    have HS5 := Lib.hid (HS4.out.next hb)
    clear hb HS4 q0 q1
    have q0 := HS5.out.get (x := ⟨b2, mh, p2, mx.length, c2, mx⟩) (by simp)
    have q1 := HS5.out.get (x := ⟨w.heap.size + 1 + 1, mh, mp, mx.length, mc, mx⟩) (by simp)
    go_wp2_with fail
    refine (Same_reads mh p2 mp mx.length mx.length c2 mc mx _ (HS5.out.all ⟨b2, mh, p2, mx.length, c2, mx⟩ (by simp)).r (HS5.out.all ⟨w.heap.size + 1 + 1, mh, mp, mx.length, mc, mx⟩ (by simp)).r).mono ?_
    rintro e W6 ⟨rfl, hb⟩
    have HS6 := Lib.hid (HS5.out.next hb)
    clear hb HS5 q0 q1
    go_wp2_with fail
    refine region_first14 3 w.heap.size 4 (w.heap.size + 1) 5 (w.heap.size + 1 + 1) ⟨gh, gp, gc, gx⟩ ⟨fh, fp, fc, fx⟩ ⟨mh, mp, mc, mx⟩ 0 0 [69, 70, 71, 72, 73, 74, 75, 76, 77, 78, 18, 16, 17, 0] [69, 70, 71, 72, 73, 74, 75, 76, 77, 78, 18, 16, 17] rfl ?hops (by decide) (by decide) (by kernel_rfl) (by decide) ?hsz ⟨⟨rfl, rfl, rfl⟩, by decide, by decide, by decide⟩ ?h0 ?h1 ?h2 HE3.out HE2.out ?hend
    case hops =>
      intro i hi
      match i, hi with
      | 0, _ => refine ⟨_, _, _, rfl, fun j hj => ?_⟩; simp [sq14, Sq.srcs] at hj
      | 1, _ => refine ⟨_, _, _, rfl, fun j hj => ?_⟩; simp [sq14, Sq.srcs] at hj
      | 2, _ => refine ⟨_, _, _, rfl, fun j hj => ?_⟩; simp [sq14, Sq.srcs] at hj
      | 3, _ => refine ⟨_, _, _, rfl, fun j hj => ?_⟩; simp [sq14, Sq.srcs] at hj; rcases hj with rfl | rfl | rfl <;> kernel_rfl
      | 4, _ => refine ⟨_, _, _, rfl, fun j hj => ?_⟩; simp [sq14, Sq.srcs] at hj; subst hj; kernel_rfl
      | 5, _ => refine ⟨_, _, _, rfl, fun j hj => ?_⟩; simp [sq14, Sq.srcs] at hj
      | 6, _ => refine ⟨_, _, _, rfl, fun j hj => ?_⟩; simp [sq14, Sq.srcs] at hj
      | 7, _ => refine ⟨_, _, _, rfl, fun j hj => ?_⟩; simp [sq14, Sq.srcs] at hj; rcases hj with rfl | rfl <;> kernel_rfl
      | 8, _ => refine ⟨_, _, _, rfl, fun j hj => ?_⟩; simp [sq14, Sq.srcs] at hj; subst hj; kernel_rfl
      | 9, _ => refine ⟨_, _, _, rfl, fun j hj => ?_⟩; simp [sq14, Sq.srcs] at hj
      | 10, _ => refine ⟨_, _, _, rfl, fun j hj => ?_⟩; simp [sq14, Sq.srcs] at hj
      | 11, _ => refine ⟨_, _, _, rfl, fun j hj => ?_⟩; simp [sq14, Sq.srcs] at hj; subst hj; kernel_rfl
      | 12, _ => refine ⟨_, _, _, rfl, fun j hj => ?_⟩; simp [sq14, Sq.srcs] at hj; subst hj; kernel_rfl
      | 13, _ => refine ⟨_, _, _, rfl, fun j hj => ?_⟩; simp [sq14, Sq.srcs] at hj
      | n + 14, h => omega
    case hsz => intro d hd; simp only [List.mem_cons, List.not_mem_nil, or_false] at hd; show d < 187; omega
    case h0 => exact ⟨(HS6.out.all ⟨w.heap.size, gh, gp, gx.length, gc, gx⟩ (by simp)).a, (HS6.out.all ⟨w.heap.size, gh, gp, gx.length, gc, gx⟩ (by simp)).r⟩
    case h1 => exact ⟨(HS6.out.all ⟨w.heap.size + 1, fh, fp, fx.length, fc, fx⟩ (by simp)).a, (HS6.out.all ⟨w.heap.size + 1, fh, fp, fx.length, fc, fx⟩ (by simp)).r⟩
    case h2 => exact ⟨(HS6.out.all ⟨w.heap.size + 1 + 1, mh, mp, mx.length, mc, mx⟩ (by simp)).a, (HS6.out.all ⟨w.heap.size + 1 + 1, mh, mp, mx.length, mc, mx⟩ (by simp)).r⟩
    case hend =>
      rintro v W ⟨BD, pD, cD, e10, hlo, hblk⟩ e11 e12 hB
      simp only [atL, List.getD_cons_succ, List.getD_cons_zero] at e10 e11 e12
      simp only [laid, List.foldl, Act.put, List.setIfInBounds_toArray, List.set_cons_succ, List.set_cons_zero, e10, e11, e12]
      obtain ⟨vu69, hvu69⟩ : ∃ u, v 69 = u := ⟨_, rfl⟩
      obtain ⟨vu70, hvu70⟩ : ∃ u, v 70 = u := ⟨_, rfl⟩
      obtain ⟨vu71, hvu71⟩ : ∃ u, v 71 = u := ⟨_, rfl⟩
      obtain ⟨vu72, hvu72⟩ : ∃ u, v 72 = u := ⟨_, rfl⟩
      obtain ⟨vu73, hvu73⟩ : ∃ u, v 73 = u := ⟨_, rfl⟩
      obtain ⟨vu74, hvu74⟩ : ∃ u, v 74 = u := ⟨_, rfl⟩
      obtain ⟨vu75, hvu75⟩ : ∃ u, v 75 = u := ⟨_, rfl⟩
      obtain ⟨vu76, hvu76⟩ : ∃ u, v 76 = u := ⟨_, rfl⟩
      obtain ⟨vu77, hvu77⟩ : ∃ u, v 77 = u := ⟨_, rfl⟩
      obtain ⟨vu78, hvu78⟩ : ∃ u, v 78 = u := ⟨_, rfl⟩
      rw [hvu69, hvu70, hvu71, hvu72, hvu73, hvu74, hvu75, hvu76, hvu77, hvu78]
      clear hvu69 hvu70 hvu71 hvu72 hvu73 hvu74 hvu75 hvu76 hvu77 hvu78
      have HS8 : Hid (Boxes w [⟨BD, 0, pD, 0, cD, []⟩, ⟨BL, n, some ⟨R, 0, none⟩, zs.length, zs.length, ints zs⟩, ⟨b2, mh, p2, mx.length, c2, mx⟩, ⟨b1, fh, p1, fx.length, c1, fx⟩, ⟨b0, gh, p0, gx.length, c0, gx⟩, ⟨w.heap.size + 1 + 1, mh, mp, mx.length, mc, mx⟩, ⟨w.heap.size + 1, fh, fp, fx.length, fc, fx⟩, ⟨w.heap.size, gh, gp, gx.length, gc, gx⟩] W) := Lib.hid ((HS6.out.next hB).add (ArgBox.of_blk hblk) (reads_nil W pD cD))
      have HB8 := Lib.hid hB
      have HK8 := Lib.hid hblk
      have HLo := Lib.hid hlo
      clear e10 e11 e12 hlo hblk hB v
      have q0 := HS8.out.get (x := ⟨w.heap.size + 1, fh, fp, fx.length, fc, fx⟩) (by simp)
      have q1 := HS8.out.get (x := ⟨w.heap.size + 1 + 1, mh, mp, mx.length, mc, mx⟩) (by simp)
      have hlike := fun W => Like_any fh mh fp mp fx.length mx.length fc mc W
      rw [HLK.out] at hlike
      have HLike := Lib.hid hlike
      clear hlike
      go_wp2_with fail
      refine (HLike.out _).mono ?_
      rintro e W9 ⟨rfl, hb⟩
      have HS9 := Lib.hid (HS8.out.next hb)
      clear HS8 q0 q1
      have q0 := HS9.out.get (x := ⟨w.heap.size, gh, gp, gx.length, gc, gx⟩) (by simp)
      have q1 := HS9.out.get (x := ⟨w.heap.size + 1, fh, fp, fx.length, fc, fx⟩) (by simp)
      have q2 := HS9.out.get (x := ⟨w.heap.size + 1 + 1, mh, mp, mx.length, mc, mx⟩) (by simp)
      go_wp2_with fail
      refine (HRef.out _ gp gc fp fc mp mc (HS9.out.all ⟨w.heap.size, gh, gp, gx.length, gc, gx⟩ (by simp)).r (HS9.out.all ⟨w.heap.size + 1, fh, fp, fx.length, fc, fx⟩ (by simp)).r (HS9.out.all ⟨w.heap.size + 1 + 1, mh, mp, mx.length, mc, mx⟩ (by simp)).r).mono ?_
      rintro e W10 ⟨pr, cr, rfl, hr, hfar, hb10⟩
      rw [ints_len] at hr ⊢
      have hDlt := (Array.getElem?_eq_some_iff.1 HK8.out).1
      have hk10 : W10.heap[BD]? = some (.cells #[.int .i64 0, .slice pD 0 cD] 24 (0, 0)) := (hb10.block BD (by have := hb.size; omega)).trans ((hb.block BD hDlt).trans HK8.out)
      have z0 : W10.cell? ⟨BD, 0, none⟩ = some (.int .i64 0) := by simp [World.cell?, hk10]
      have z1 : W10.cell? ⟨BD, 1, none⟩ = some (.slice pD 0 cD) := by simp [World.cell?, hk10]
      have z2 : W10.frozen? ⟨BD, 0, none⟩ = false := by simp [World.frozen?, hk10]
      have z3 : W10.frozen? ⟨BD, 1, none⟩ = false := by simp [World.frozen?, hk10]
      have z4 := (Array.getElem?_eq_some_iff.1 hk10).1
      have hfr := filled_again (n := (n : Int)) (v := .slice pr zs.length cr) hk10
      have hB12 := ((HB8.out.trans ((hb.trans (hb10.mono hb.size)).mono HB8.out.size)).setCell (p := ⟨BD, 0, none⟩) HLo.out (.int .i64 (n : Int))).setCell (p := ⟨BD, 1, none⟩) HLo.out (.slice pr zs.length cr)
      have S12 := (HS6.out.next hB12).add (ArgBox.of_blk hfr) (filled_reads hr (fun a e => by have := hfar a e; have := hb.size; omega))
      have HSA := Lib.hid S12
      clear S12 hB12 hfr hk10 hr hfar hb10 hb hDlt HS9 HB8 HK8 HLo q0 q1 q2
      have q0 := HSA.out.get (x := ⟨BL, n, some ⟨R, 0, none⟩, zs.length, zs.length, ints zs⟩) (by simp)
      have q1 := HSA.out.get (x := ⟨BD, n, pr, zs.length, cr, ints zs⟩) (by simp)
      go_wp2_with fail
      clear z0 z1 z2 z3 z4
      obtain ⟨W12, hW12⟩ : ∃ W12, (W10.setCell ⟨BD, 0, none⟩ (.int .i64 (n : Int))).setCell ⟨BD, 1, none⟩ (.slice pr zs.length cr) = W12 := ⟨_, rfl⟩
      rw [hW12] at HSA q0 q1 ⊢
      clear hW12
      refine (gets_reads (n : Int) (some ⟨R, 0, none⟩) pr zs.length zs.length zs.length cr (ints zs) _ (HSA.out.all ⟨BL, n, some ⟨R, 0, none⟩, zs.length, zs.length, ints zs⟩ (by simp)).r (HSA.out.all ⟨BD, n, pr, zs.length, cr, ints zs⟩ (by simp)).r).mono ?_
      rintro e W13 ⟨rfl, hb⟩
      have HSB := Lib.hid (HSA.out.next hb)
      clear hb HSA q0 q1
      have q0 := HSB.out.get (x := ⟨w.heap.size + 1, fh, fp, fx.length, fc, fx⟩) (by simp)
      have q1 := HSB.out.get (x := ⟨w.heap.size + 1 + 1, mh, mp, mx.length, mc, mx⟩) (by simp)
      go_wp2_with fail
      refine (HLike.out _).mono ?_
      rintro e W11 ⟨rfl, hb⟩
      have HS11 := Lib.hid (HSB.out.next hb)
      clear hb HSB q0 q1 HLike
      go_wp2_with fail
      have hlk := HLK.out
      have hlen : mx.length = fx.length := by simpa using (of_decide_eq_true hlk).2.symm
      have HLen2 := Lib.hid hlen
      clear hlk hlen
      have HK := Lib.hid (fun (W : World) (h : Boxes w [⟨BD, n, pr, zs.length, cr, ints zs⟩, ⟨BL, n, some ⟨R, 0, none⟩, zs.length, zs.length, ints zs⟩, ⟨b2, mh, p2, mx.length, c2, mx⟩, ⟨b1, fh, p1, fx.length, c1, fx⟩, ⟨b0, gh, p0, gx.length, c0, gx⟩, ⟨w.heap.size + 1 + 1, mh, mp, mx.length, mc, mx⟩, ⟨w.heap.size + 1, fh, fp, fx.length, fc, fx⟩, ⟨w.heap.size, gh, gp, gx.length, gc, gx⟩] W) => (⟨(h.get (x := ⟨w.heap.size + 1, fh, fp, fx.length, fc, fx⟩) (by simp)).1, (h.get (x := ⟨w.heap.size + 1, fh, fp, fx.length, fc, fx⟩) (by simp)).2.1, (h.get (x := ⟨w.heap.size + 1 + 1, mh, mp, mx.length, mc, mx⟩) (by simp)).1, (h.get (x := ⟨w.heap.size + 1 + 1, mh, mp, mx.length, mc, mx⟩) (by simp)).2.1, h⟩ : W.cell? ⟨w.heap.size + 1, 0, none⟩ = some (.int .i64 fh) ∧ W.cell? ⟨w.heap.size + 1, 1, none⟩ = some (.slice fp fx.length fc) ∧ W.cell? ⟨w.heap.size + 1 + 1, 0, none⟩ = some (.int .i64 mh) ∧ W.cell? ⟨w.heap.size + 1 + 1, 1, none⟩ = some (.slice mp mx.length mc) ∧ Boxes w [⟨BD, n, pr, zs.length, cr, ints zs⟩, ⟨BL, n, some ⟨R, 0, none⟩, zs.length, zs.length, ints zs⟩, ⟨b2, mh, p2, mx.length, c2, mx⟩, ⟨b1, fh, p1, fx.length, c1, fx⟩, ⟨b0, gh, p0, gx.length, c0, gx⟩, ⟨w.heap.size + 1 + 1, mh, mp, mx.length, mc, mx⟩, ⟨w.heap.size + 1, fh, fp, fx.length, fc, fx⟩, ⟨w.heap.size, gh, gp, gx.length, gc, gx⟩] W))
      have H0 := Lib.hid (HS11.out.drew)
      have Hf := Lib.hid (fun (W : World) (h : Boxes w [⟨BD, n, pr, zs.length, cr, ints zs⟩, ⟨BL, n, some ⟨R, 0, none⟩, zs.length, zs.length, ints zs⟩, ⟨b2, mh, p2, mx.length, c2, mx⟩, ⟨b1, fh, p1, fx.length, c1, fx⟩, ⟨b0, gh, p0, gx.length, c0, gx⟩, ⟨w.heap.size + 1 + 1, mh, mp, mx.length, mc, mx⟩, ⟨w.heap.size + 1, fh, fp, fx.length, fc, fx⟩, ⟨w.heap.size, gh, gp, gx.length, gc, gx⟩] W) => HTF.out W fp fc (h.all ⟨w.heap.size + 1, fh, fp, fx.length, fc, fx⟩ (by simp)).r)
      have Hm := Lib.hid (fun (W : World) (h : Boxes w [⟨BD, n, pr, zs.length, cr, ints zs⟩, ⟨BL, n, some ⟨R, 0, none⟩, zs.length, zs.length, ints zs⟩, ⟨b2, mh, p2, mx.length, c2, mx⟩, ⟨b1, fh, p1, fx.length, c1, fx⟩, ⟨b0, gh, p0, gx.length, c0, gx⟩, ⟨w.heap.size + 1 + 1, mh, mp, mx.length, mc, mx⟩, ⟨w.heap.size + 1, fh, fp, fx.length, fc, fx⟩, ⟨w.heap.size, gh, gp, gx.length, gc, gx⟩] W) => HTM.out W mp mc (h.all ⟨w.heap.size + 1 + 1, mh, mp, mx.length, mc, mx⟩ (by simp)).r)
      clear HS11
      go_cut [19, 20] (fun s19 s20 wx => ∃ (g1 k1 g2 k2 : Nat), s19 = .slice (some ⟨g1, 0, none⟩) fx.length k1 ∧ s20 = .slice (some ⟨g2, 0, none⟩) fx.length k2 ∧ TwoT w [⟨BD, n, pr, zs.length, cr, ints zs⟩, ⟨BL, n, some ⟨R, 0, none⟩, zs.length, zs.length, ints zs⟩, ⟨b2, mh, p2, mx.length, c2, mx⟩, ⟨b1, fh, p1, fx.length, c1, fx⟩, ⟨b0, gh, p0, gx.length, c0, gx⟩, ⟨w.heap.size + 1 + 1, mh, mp, mx.length, mc, mx⟩, ⟨w.heap.size + 1, fh, fp, fx.length, fc, fx⟩, ⟨w.heap.size, gh, gp, gx.length, gc, gx⟩] g1 g2 fx.length fx.length m F M wx)
      case first =>
        go_region_held3 (fun W => W.cell? ⟨w.heap.size + 1, 0, none⟩ = some (.int .i64 fh) ∧ W.cell? ⟨w.heap.size + 1, 1, none⟩ = some (.slice fp fx.length fc) ∧ W.cell? ⟨w.heap.size + 1 + 1, 0, none⟩ = some (.int .i64 mh) ∧ W.cell? ⟨w.heap.size + 1 + 1, 1, none⟩ = some (.slice mp mx.length mc) ∧ Boxes w [⟨BD, n, pr, zs.length, cr, ints zs⟩, ⟨BL, n, some ⟨R, 0, none⟩, zs.length, zs.length, ints zs⟩, ⟨b2, mh, p2, mx.length, c2, mx⟩, ⟨b1, fh, p1, fx.length, c1, fx⟩, ⟨b0, gh, p0, gx.length, c0, gx⟩, ⟨w.heap.size + 1 + 1, mh, mp, mx.length, mc, mx⟩, ⟨w.heap.size + 1, fh, fp, fx.length, fc, fx⟩, ⟨w.heap.size, gh, gp, gx.length, gc, gx⟩] W)
          ((first
            | exact HK.out _ H0.out
            | (refine HK.out _ (Boxes.next ?_ (by assumption)); go_split_ands; assumption)))
          ((first
            | (go_at_call 52; (with_reducible refine (Hf.out _ ?_).mono ?_); rotate_left 1; rintro e wg ⟨g1, k1, rfl, hTf, hbf⟩; rotate_left 1; (first | exact H0.out | (go_split_ands; assumption)))
            | (go_at_call 52; (with_reducible refine (Hm.out _ ?_).mono ?_); rotate_left 1; rintro e wm ⟨g2, k2, rfl, hTm, hbm⟩; rotate_left 1; (first | exact H0.out | (go_split_ands; assumption)))))
        all_goals (go_wp2_with fail; go_meet)
        all_goals exact ⟨g1, k1, g2, k2, rfl, rfl, TwoT.mk (by go_split_ands; assumption) (by first | exact hTf | exact hTf.below hbm) (by first | exact hTm | exact hTm.below hbf)⟩
      case rest =>
        obtain ⟨g1, k1, g2, k2, rfl, rfl, hS⟩ := hcut
        have HS := Lib.hid hS
        clear hS HK H0 Hf Hm HTF HTM
        obtain ⟨DD, hDD⟩ : ∃ DD, DD = (fun i j => F i j != M i j) := ⟨_, rfl⟩
        rw [← hDD] at HD
        have HDD := Lib.hid hDD
        clear hDD
        go_wp2_with fail
        go_loopw [21, 22, 23, 24] (fun sn sp sh si wr => ∃ k : Nat, k ≤ fx.length ∧ si = .int .i64 k ∧ sn = .int .i64 ((dfAll DD m k).1 : Int) ∧ sp = .int .i64 ((dfAll DD m k).2.1 : Int) ∧ sh = .int .i64 ((dfAll DD m k).2.2 : Int) ∧ TwoT w [⟨BD, n, pr, zs.length, cr, ints zs⟩, ⟨BL, n, some ⟨R, 0, none⟩, zs.length, zs.length, ints zs⟩, ⟨b2, mh, p2, mx.length, c2, mx⟩, ⟨b1, fh, p1, fx.length, c1, fx⟩, ⟨b0, gh, p0, gx.length, c0, gx⟩, ⟨w.heap.size + 1 + 1, mh, mp, mx.length, mc, mx⟩, ⟨w.heap.size + 1, fh, fp, fx.length, fc, fx⟩, ⟨w.heap.size, gh, gp, gx.length, gc, gx⟩] g1 g2 fx.length fx.length m F M wr) (fun _ _ _ i _ => fx.length - (intOf i).toNat)
        case atStart => exact ⟨0, Nat.zero_le _, rfl, rfl, rfl, rfl, HS.out⟩
        case round =>
          obtain ⟨k, hk, rfl, rfl, rfl, rfl, hT⟩ := hrel
          have HT := Lib.hid hT
          clear hT HS
          by_cases hlt : k < fx.length
          · obtain ⟨bf, cf, ef, Bf⟩ := HT.out.f.r k hlt
            have HBf := Lib.hid Bf
            clear Bf
            have hcnt := dfAll_le DD m k
            have hmul : k * m ≤ 1440 := by
              have h1 : k * m ≤ 60 * 24 := Nat.mul_le_mul (by omega) hm24
              omega
            obtain ⟨wo, rfl⟩ : ∃ wo : World, wo = wr := ⟨_, rfl⟩
            have HS0 := Lib.hid (show dfRow (DD k) k (dfAll DD m k) 0 = dfAll DD m k from rfl)
            have HEnd := Lib.hid (show dfRow (DD k) k (dfAll DD m k) m = dfAll DD m (k + 1) from rfl)
            have Hle := Lib.hid (fun j => dfRow_le (DD k) k (dfAll DD m k) j)
            have hc0 : (dfAll DD m k).1 ≤ 1440 := by omega
            have Hc0 := Lib.hid hc0
            have hk0 : (0 : Int) ≤ (k : Int) := by omega
            have hk1 : (k : Int) < (fx.length : Int) := by omega
            clear hcnt hmul hc0
            go_wp2_with fail
            go_loopw [21, 22, 23, 25] (fun sn sp sh si wi => ∃ j : Nat, j ≤ m ∧ si = .int .i64 j ∧ sn = .int .i64 ((dfRow (DD k) k (dfAll DD m k) j).1 : Int) ∧ sp = .int .i64 ((dfRow (DD k) k (dfAll DD m k) j).2.1 : Int) ∧ sh = .int .i64 ((dfRow (DD k) k (dfAll DD m k) j).2.2 : Int) ∧ TwoT w [⟨BD, n, pr, zs.length, cr, ints zs⟩, ⟨BL, n, some ⟨R, 0, none⟩, zs.length, zs.length, ints zs⟩, ⟨b2, mh, p2, mx.length, c2, mx⟩, ⟨b1, fh, p1, fx.length, c1, fx⟩, ⟨b0, gh, p0, gx.length, c0, gx⟩, ⟨w.heap.size + 1 + 1, mh, mp, mx.length, mc, mx⟩, ⟨w.heap.size + 1, fh, fp, fx.length, fc, fx⟩, ⟨w.heap.size, gh, gp, gx.length, gc, gx⟩] g1 g2 fx.length fx.length m F M wi) (fun _ _ _ i _ => m - (intOf i).toNat)
            case atStart => exact ⟨0, Nat.zero_le _, rfl, rfl, rfl, rfl, HT.out⟩
            case round =>
              obtain ⟨j, hj, rfl, rfl, rfl, rfl, hT3⟩ := hrel
              have HT3 := Lib.hid hT3
              clear hT3 HT ef HBf
              obtain ⟨bf, cf, ef, Bf⟩ := HT3.out.f.r k hlt
              obtain ⟨bm, cm, em, Bm⟩ := HT3.out.t.r k hlt
              have HBf := Lib.hid Bf
              have HBm := Lib.hid Bm
              clear Bf Bm
              by_cases hjl : j < m
              · have hcnt : (dfRow (DD k) k (dfAll DD m k) j).1 ≤ 1464 := by have := Hle.out j; have := Hc0.out; omega
                obtain ⟨q, hq⟩ : ∃ q, q = dfRow (DD k) k (dfAll DD m k) j := ⟨_, rfl⟩
                have Hsk := Lib.hid (fun (h : DD k j = false) => dfRow_skip (D := DD k) (i := k) (s := dfAll DD m k) h)
                have Hfi := Lib.hid (fun (h : DD k j = true) => dfRow_first (D := DD k) (i := k) (s := dfAll DD m k) h)
                have Hmo := Lib.hid (fun (h : DD k j = true) => dfRow_more (D := DD k) (i := k) (s := dfAll DD m k) h)
                rw [← hq] at hcnt Hsk Hfi Hmo
                rw [← hq]
                clear hq
                have hDe : DD k j = (F k j != M k j) := by rw [HDD.out]
                have xf := HBf.out.c j hjl
                have xm := HBm.out.c j hjl
                have hj0 : (0 : Int) ≤ (j : Int) := by omega
                have hj1 : (j : Int) < (m : Int) := by omega
                obtain ⟨A, hA⟩ : ∃ A, A = F k j := ⟨_, rfl⟩
                obtain ⟨B, hB⟩ : ∃ B, B = M k j := ⟨_, rfl⟩
                rw [← hA] at hDe xf
                rw [← hB] at hDe xm
                clear hA hB
                have HTd := Lib.hid (HT3.out.next (below_drew1 wr))
                by_cases hd : DD k j = true
                · have hBA : B = !A := by rw [hd] at hDe; cases A <;> cases B <;> simp at hDe ⊢
                  subst hBA
                  have hbb : (A == !A) = false := by cases A <;> rfl
                  have HDt := Lib.hid hd
                  clear hd hDe
                  by_cases hq0 : q.1 = 0
                  · have hqb : ((q.1 : Int) == 0) = true := by rw [beq_iff_eq]; omega
                    have HF := Lib.hid (Hfi.out HDt.out hq0)
                    have HQ0 := Lib.hid hq0
                    clear hq0
                    go_wp2_with fail
                    all_goals go_region
                    all_goals go_wp2_with fail
                    all_goals go_roundw
                    all_goals first
                      | (simp [intOf]; omega)
                      | exact ⟨j + 1, by omega, by go_num, congrArg (Value.int .i64) (by rw [HF.out, HQ0.out]; rfl), congrArg (Value.int .i64) (by rw [HF.out]), congrArg (Value.int .i64) (by rw [HF.out]), HTd.out⟩
                  · have hqb : ((q.1 : Int) == 0) = false := by rw [beq_eq_false_iff_ne]; omega
                    have HF := Lib.hid (Hmo.out HDt.out hq0)
                    clear hq0
                    go_wp2_with fail
                    all_goals go_region
                    all_goals go_wp2_with fail
                    all_goals go_roundw
                    all_goals first
                      | (simp [intOf]; omega)
                      | exact ⟨j + 1, by omega, by go_num, congrArg (Value.int .i64) (by rw [HF.out]; omega), congrArg (Value.int .i64) (by rw [HF.out]), congrArg (Value.int .i64) (by rw [HF.out]), HTd.out⟩
                · have hBA : B = A := by
                    have : DD k j = false := by simpa using hd
                    rw [this] at hDe; cases A <;> cases B <;> simp at hDe ⊢
                  have HDt := Lib.hid (show DD k j = false by simpa using hd)
                  subst hBA
                  have hbb : (B == B) = true := by cases B <;> rfl
                  clear hd hDe
                  have HF := Lib.hid (Hsk.out HDt.out)
                  go_wp2_with fail
                  all_goals go_region
                  all_goals go_wp2_with fail
                  all_goals go_roundw
                  all_goals first
                    | (simp [intOf]; omega)
                    | exact ⟨j + 1, by omega, by go_num, by rw [HF.out], by rw [HF.out], by rw [HF.out], HTd.out⟩
              · obtain rfl : j = m := by omega
                rw [HEnd.out]
                go_wp2_with fail
                go_roundw
                case rel => exact ⟨k + 1, by omega, by go_num, rfl, rfl, rfl, HT3.out⟩
                case measure => simp [intOf]; omega
          · obtain rfl : k = fx.length := by omega
            have hDe := HD.out
            rw [← hDe]
            have HZ := Lib.hid HT.out.s
            clear hDe
            go_wp2_with fail
            refine (known_any _).mono ?_
            rintro e wz ⟨rfl, hbz⟩
            have SZ := Lib.hid (HZ.out.next hbz)
            clear HZ hbz
            go_wp2_with fail
            go_ret
            exact ⟨rfl, SZ.out.below⟩
end Go.Proofs.Ytjobbleabepaiaa
