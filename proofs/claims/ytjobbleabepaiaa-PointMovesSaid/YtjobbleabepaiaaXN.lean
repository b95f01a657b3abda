/- PointMoves: the walk, of a valid design. -/
import Derived.Test.YtjobbleabepaiaaXM
import Derived.Deep.RegionHeld3
namespace Go.Proofs.Ytjobbleabepaiaa
open Go.RowKit

set_option maxRecDepth 100000 in
set_option maxHeartbeats 4000000 in
theorem PointMoves_in (n b off c P Q : Nat) (ys : List Nat) (w : World) (hva : VAt w b off c n ys) (hP : P < ys.length) (hQ : Q < n) :
    Calls Try.prog 6 #[.agg #[.int .i64 (n : Int), .slice (some ⟨b, off, none⟩) ys.length c], .int .i64 (P : Int), .int .i64 (Q : Int)] w fun e w' => e = .returned (.bool true) ∧ Below w.heap.size w w' := by
  have l1 := hva.ok.l1
  have n1 := hva.ok.n1
  have hd : decide (70 < ys.length) = false := by simp; omega
  have Hlg := fun W h1 => large_len (some ⟨b, off, none⟩) ys.length c (w.heap.size + 1) W h1
  rw [hd] at Hlg
  have HL := Lib.hid Hlg
  have HV := Lib.hid hva
  clear hd Hlg hva
  have HIN1 : Hid (∀ W, Calls Try.prog 24 #[.int .i64 (P : Int), .int .i64 0, .int .i64 ((ys.length : Int) - 1)] W fun e w' => e = .returned (.bool true) ∧ W = w') := Lib.hid (fun W => by
    have := In_any (P : Int) 0 ((ys.length : Int) - 1) W
    rwa [show (decide ((0 : Int) ≤ (P : Int)) && decide ((P : Int) ≤ (ys.length : Int) - 1)) = true by simp; omega] at this)
  have HIN2 : Hid (∀ W, Calls Try.prog 24 #[.int .i64 (Q : Int), .int .i64 0, .int .i64 ((n : Int) - 1)] W fun e w' => e = .returned (.bool true) ∧ W = w') := Lib.hid (fun W => by
    have := In_any (Q : Int) 0 ((n : Int) - 1) W
    rwa [show (decide ((0 : Int) ≤ (Q : Int)) && decide ((Q : Int) ≤ (n : Int) - 1)) = true by simp; omega] at this)
  go_enter Try.func6, Try.ntmps6
  go_wp2_with fail
  refine (HL.out _ ?_).mono ?_
  · have := (ArgBox.new (w.alloc (.cells #[.int .i64 (n : Int), .slice (some ⟨b, off, none⟩) ys.length c] 24)) n (some ⟨b, off, none⟩) ys.length c).c1
    rw [World.size_alloc] at this
    exact this
  rintro e w1 ⟨rfl, rfl⟩
  obtain ⟨W1, hW1⟩ : ∃ W1, (w.alloc (.cells #[.int .i64 (n : Int), .slice (some ⟨b, off, none⟩) ys.length c] 24)).alloc (.cells #[.int .i64 (n : Int), .slice (some ⟨b, off, none⟩) ys.length c] 24) = W1 := ⟨_, rfl⟩
  have hA1 : ArgBox W1 w.heap.size n (some ⟨b, off, none⟩) ys.length c := by rw [← hW1]; exact (ArgBox.new w n (some ⟨b, off, none⟩) ys.length c).below (below1 _ _)
  have hb1 : Below w.heap.size w W1 := by rw [← hW1]; exact below2 w _ _
  have HR1 := Lib.hid (HV.out.below hb1).reads
  rw [hW1]
  have a0 := hA1.c0
  have a1 := hA1.c1
  have HS1 := Lib.hid (show Boxes w [⟨w.heap.size, n, some ⟨b, off, none⟩, ys.length, c, ints ys⟩] W1 from ⟨fun x hx => by simp at hx; subst hx; exact ⟨hA1, HR1.out⟩, hb1⟩)
  clear hW1 hA1 hb1 HL
  go_wp2_with fail
  refine (own_reads n (some ⟨b, off, none⟩) ys.length c (ints ys) _ (by omega) HR1.out).mono ?_
  rintro e w2 ⟨p2, c2, rfl, hr2, hb⟩
  have hS2 := HS1.out.next hb
  have a1 := (hS2.all ⟨w.heap.size, n, some ⟨b, off, none⟩, ys.length, c, ints ys⟩ (by simp)).a
  have a1x := a1.c0
  have a1y := a1.c1
  have a1l := a1.lt
  clear a1
  have HS2 := Lib.hid (hS2.push n p2 ys.length c2 (ints ys) hr2)
  clear hS2 hb HS1 a0 a1 hr2 HR1
  go_wp2_with fail
  obtain ⟨bb, bo, rfl, _⟩ := vat_of_reads (HS2.out.all ⟨w2.heap.size, n, p2, ys.length, c2, ints ys⟩ (by simp)).r HV.out.ok
  obtain ⟨ms, hms⟩ : ∃ ms, ms = painted (miG ys n) ys.length n := ⟨_, rfl⟩
  have lms : ms.length ≤ 1000 := by rw [hms, painted_len]; omega
  obtain ⟨fs, hfs⟩ : ∃ fs, fs = painted (flG ys) ys.length n := ⟨_, rfl⟩
  have lfs : fs.length ≤ 1000 := by rw [hfs, painted_len]; omega
  obtain ⟨ks, hks⟩ : ∃ ks, ks = painted (baG ys) ys.length n := ⟨_, rfl⟩
  have lks : ks.length ≤ 1000 := by rw [hks, painted_len]; omega
  obtain ⟨ts, hts⟩ : ∃ ts, ts = painted (shG ys n P Q) ys.length n := ⟨_, rfl⟩
  have lts : ts.length ≤ 1000 := by rw [hts, painted_len]; omega
  have HM := Lib.hid (fun W (h : VAt W bb bo c2 n ys) => Mirror_ok n bb bo c2 ys W h)
  have HF := Lib.hid (fun W (h : VAt W bb bo c2 n ys) => Flip_ok n bb bo c2 ys W h)
  have HK := Lib.hid (fun W (h : VAt W bb bo c2 n ys) => Back_ok n bb bo c2 ys W h)
  have HM2 := Lib.hid (fun W (h : VAt W b off c n ys) => refMirror_any n b off c ys W h)
  have HF2 := Lib.hid (fun W (h : VAt W b off c n ys) => refFlip_any n b off c ys W h)
  have HK2 := Lib.hid (fun W (h : VAt W b off c n ys) => refBack_any n b off c ys W h)
  have HT := Lib.hid (fun W (h : VAt W bb bo c2 n ys) => Shift_ok n bb bo c2 P Q ys W h hP hQ)
  have HT2 := Lib.hid (fun W (h : VAt W b off c n ys) => refShift_any n b off c P Q ys W h hP hQ)
  rw [← hts] at HT HT2
  clear hts hP hQ
  rw [← hms] at HM HM2
  rw [← hfs] at HF HF2
  rw [← hks] at HK HK2
  clear hms hfs hks
  have HRC := Lib.hid (fun W hr => refCheck_any n (.slice (some ⟨b, off, none⟩) ys.length c) (ints ys) W hr)
  rw [HV.out.ok.check] at HRC
  refine (HM.out _ (vat_of (HS2.out.all ⟨w2.heap.size, n, some ⟨bb, bo, none⟩, ys.length, c2, ints ys⟩ (by simp)).r HV.out.ok)).mono ?_
  rintro e w3 ⟨Rm, rfl, _, hn, hb⟩
  have hS3 := HS2.out.next hb
  have a2 := (hS3.all ⟨w2.heap.size, n, some ⟨bb, bo, none⟩, ys.length, c2, ints ys⟩ (by simp)).a
  have a2x := a2.c0
  have a2y := a2.c1
  have a2l := a2.lt
  clear a2
  have HS3 := Lib.hid (hS3.push n (some ⟨Rm, 0, none⟩) ms.length ms.length (ints ms) (blk_reads hn lms _))
  clear hS3 hb HS2 a1x a1y a1l hn HM
  go_wp2_with fail
  refine (HF.out _ (vat_of (HS3.out.all ⟨w2.heap.size, n, some ⟨bb, bo, none⟩, ys.length, c2, ints ys⟩ (by simp)).r HV.out.ok)).mono ?_
  rintro e w4 ⟨Rf, rfl, _, hn, hb⟩
  have hS4 := HS3.out.next hb
  have a3 := (hS4.all ⟨w2.heap.size, n, some ⟨bb, bo, none⟩, ys.length, c2, ints ys⟩ (by simp)).a
  have a3x := a3.c0
  have a3y := a3.c1
  have a3l := a3.lt
  clear a3
  have HS4 := Lib.hid (hS4.push n (some ⟨Rf, 0, none⟩) fs.length fs.length (ints fs) (blk_reads hn lfs _))
  clear hS4 hb HS3 a2x a2y a2l hn HF
  go_wp2_with fail
  refine (HK.out _ (vat_of (HS4.out.all ⟨w2.heap.size, n, some ⟨bb, bo, none⟩, ys.length, c2, ints ys⟩ (by simp)).r HV.out.ok)).mono ?_
  rintro e w5 ⟨Rk, rfl, _, hn, hb⟩
  have hS5 := HS4.out.next hb
  have a4 := (hS5.all ⟨w2.heap.size, n, some ⟨bb, bo, none⟩, ys.length, c2, ints ys⟩ (by simp)).a
  have a4x := a4.c0
  have a4y := a4.c1
  have a4l := a4.lt
  clear a4
  have HS5 := Lib.hid (hS5.push n (some ⟨Rk, 0, none⟩) ks.length ks.length (ints ks) (blk_reads hn lks _))
  clear hS5 hb HS4 a3x a3y a3l hn HK
  go_wp2_with fail
  refine (HT.out _ (vat_of (HS5.out.all ⟨w2.heap.size, n, some ⟨bb, bo, none⟩, ys.length, c2, ints ys⟩ (by simp)).r HV.out.ok)).mono ?_
  rintro e w6 ⟨Rt, rfl, _, hn, hb⟩
  have hS6 := HS5.out.next hb
  have a5 := (hS6.all ⟨w.heap.size, n, some ⟨b, off, none⟩, ys.length, c, ints ys⟩ (by simp)).a
  have a5x := a5.c0
  have a5y := a5.c1
  have a5l := a5.lt
  clear a5
  have HS6 := Lib.hid (hS6.push n (some ⟨Rt, 0, none⟩) ts.length ts.length (ints ts) (blk_reads hn lts _))
  clear hS6 hb HS5 a4x a4y a4l hn HT
  go_wp2_with fail
  refine (HRC.out _ (HS6.out.all ⟨w.heap.size, n, some ⟨b, off, none⟩, ys.length, c, ints ys⟩ (by simp)).r).mono ?_
  rintro e w7 ⟨rfl, hb⟩
  have hS7 := HS6.out.next hb
  have a6 := (hS7.all ⟨w2.heap.size, n, some ⟨bb, bo, none⟩, ys.length, c2, ints ys⟩ (by simp)).a
  have a6x := a6.c0
  have a6y := a6.c1
  have a6l := a6.lt
  clear a6
  have a7 := (hS7.all ⟨w.heap.size, n, some ⟨b, off, none⟩, ys.length, c, ints ys⟩ (by simp)).a
  have a7x := a7.c0
  have a7y := a7.c1
  have a7l := a7.lt
  clear a7
  have HS7 := Lib.hid hS7
  clear hS7 hb HS6 a5x a5y a5l HRC
  go_wp2_with fail
  refine (Same_reads n (some ⟨bb, bo, none⟩) (some ⟨b, off, none⟩) ys.length ys.length c2 c (ints ys) _ (HS7.out.all ⟨w2.heap.size, n, some ⟨bb, bo, none⟩, ys.length, c2, ints ys⟩ (by simp)).r (HS7.out.all ⟨w.heap.size, n, some ⟨b, off, none⟩, ys.length, c, ints ys⟩ (by simp)).r).mono ?_
  rintro e w8 ⟨rfl, hb⟩
  have hS8 := HS7.out.next hb
  have HS8 := Lib.hid hS8
  clear hS8 hb HS7 a6x a6y a6l a7x a7y a7l 
  go_wp2_with fail
  have HS := Lib.hid (show Boxes w [⟨w6.heap.size, n, some ⟨Rt, 0, none⟩, ts.length, ts.length, ints ts⟩, ⟨w5.heap.size, n, some ⟨Rk, 0, none⟩, ks.length, ks.length, ints ks⟩, ⟨w4.heap.size, n, some ⟨Rf, 0, none⟩, fs.length, fs.length, ints fs⟩, ⟨w3.heap.size, n, some ⟨Rm, 0, none⟩, ms.length, ms.length, ints ms⟩, ⟨w2.heap.size, n, some ⟨bb, bo, none⟩, ys.length, c2, ints ys⟩, ⟨w.heap.size, n, some ⟨b, off, none⟩, ys.length, c, ints ys⟩] w8 from HS8.out)
  have HKp : Hid (∀ W, Boxes w [⟨w6.heap.size, n, some ⟨Rt, 0, none⟩, ts.length, ts.length, ints ts⟩, ⟨w5.heap.size, n, some ⟨Rk, 0, none⟩, ks.length, ks.length, ints ks⟩, ⟨w4.heap.size, n, some ⟨Rf, 0, none⟩, fs.length, fs.length, ints fs⟩, ⟨w3.heap.size, n, some ⟨Rm, 0, none⟩, ms.length, ms.length, ints ms⟩, ⟨w2.heap.size, n, some ⟨bb, bo, none⟩, ys.length, c2, ints ys⟩, ⟨w.heap.size, n, some ⟨b, off, none⟩, ys.length, c, ints ys⟩] W → W.cell? ⟨w3.heap.size, 0, none⟩ = some (.int .i64 (n : Int)) ∧ W.cell? ⟨w3.heap.size, 1, none⟩ = some (.slice (some ⟨Rm, 0, none⟩) ms.length ms.length) ∧ W.cell? ⟨w4.heap.size, 0, none⟩ = some (.int .i64 (n : Int)) ∧ W.cell? ⟨w4.heap.size, 1, none⟩ = some (.slice (some ⟨Rf, 0, none⟩) fs.length fs.length) ∧ W.cell? ⟨w5.heap.size, 0, none⟩ = some (.int .i64 (n : Int)) ∧ W.cell? ⟨w5.heap.size, 1, none⟩ = some (.slice (some ⟨Rk, 0, none⟩) ks.length ks.length) ∧ W.cell? ⟨w.heap.size, 0, none⟩ = some (.int .i64 (n : Int)) ∧ W.cell? ⟨w.heap.size, 1, none⟩ = some (.slice (some ⟨b, off, none⟩) ys.length c) ∧ Boxes w [⟨w6.heap.size, n, some ⟨Rt, 0, none⟩, ts.length, ts.length, ints ts⟩, ⟨w5.heap.size, n, some ⟨Rk, 0, none⟩, ks.length, ks.length, ints ks⟩, ⟨w4.heap.size, n, some ⟨Rf, 0, none⟩, fs.length, fs.length, ints fs⟩, ⟨w3.heap.size, n, some ⟨Rm, 0, none⟩, ms.length, ms.length, ints ms⟩, ⟨w2.heap.size, n, some ⟨bb, bo, none⟩, ys.length, c2, ints ys⟩, ⟨w.heap.size, n, some ⟨b, off, none⟩, ys.length, c, ints ys⟩] W) := Lib.hid (fun W h => ⟨(h.all ⟨w3.heap.size, n, some ⟨Rm, 0, none⟩, ms.length, ms.length, ints ms⟩ (by simp)).a.c0, (h.all ⟨w3.heap.size, n, some ⟨Rm, 0, none⟩, ms.length, ms.length, ints ms⟩ (by simp)).a.c1, (h.all ⟨w4.heap.size, n, some ⟨Rf, 0, none⟩, fs.length, fs.length, ints fs⟩ (by simp)).a.c0, (h.all ⟨w4.heap.size, n, some ⟨Rf, 0, none⟩, fs.length, fs.length, ints fs⟩ (by simp)).a.c1, (h.all ⟨w5.heap.size, n, some ⟨Rk, 0, none⟩, ks.length, ks.length, ints ks⟩ (by simp)).a.c0, (h.all ⟨w5.heap.size, n, some ⟨Rk, 0, none⟩, ks.length, ks.length, ints ks⟩ (by simp)).a.c1, (h.all ⟨w.heap.size, n, some ⟨b, off, none⟩, ys.length, c, ints ys⟩ (by simp)).a.c0, (h.all ⟨w.heap.size, n, some ⟨b, off, none⟩, ys.length, c, ints ys⟩ (by simp)).a.c1, h⟩)
  have HGM := Lib.hid (fun (W : World) (pz : Option Addr) (cz : Nat) (h : Boxes w [⟨w6.heap.size, n, some ⟨Rt, 0, none⟩, ts.length, ts.length, ints ts⟩, ⟨w5.heap.size, n, some ⟨Rk, 0, none⟩, ks.length, ks.length, ints ks⟩, ⟨w4.heap.size, n, some ⟨Rf, 0, none⟩, fs.length, fs.length, ints fs⟩, ⟨w3.heap.size, n, some ⟨Rm, 0, none⟩, ms.length, ms.length, ints ms⟩, ⟨w2.heap.size, n, some ⟨bb, bo, none⟩, ys.length, c2, ints ys⟩, ⟨w.heap.size, n, some ⟨b, off, none⟩, ys.length, c, ints ys⟩] W) (hr : Reads W (.slice pz (ints ms).length cz) (ints ms)) => gets_reads n (some ⟨Rm, 0, none⟩) pz ms.length (ints ms).length ms.length cz (ints ms) W (h.all ⟨w3.heap.size, n, some ⟨Rm, 0, none⟩, ms.length, ms.length, ints ms⟩ (by simp)).r hr)
  have HGF := Lib.hid (fun (W : World) (pz : Option Addr) (cz : Nat) (h : Boxes w [⟨w6.heap.size, n, some ⟨Rt, 0, none⟩, ts.length, ts.length, ints ts⟩, ⟨w5.heap.size, n, some ⟨Rk, 0, none⟩, ks.length, ks.length, ints ks⟩, ⟨w4.heap.size, n, some ⟨Rf, 0, none⟩, fs.length, fs.length, ints fs⟩, ⟨w3.heap.size, n, some ⟨Rm, 0, none⟩, ms.length, ms.length, ints ms⟩, ⟨w2.heap.size, n, some ⟨bb, bo, none⟩, ys.length, c2, ints ys⟩, ⟨w.heap.size, n, some ⟨b, off, none⟩, ys.length, c, ints ys⟩] W) (hr : Reads W (.slice pz (ints fs).length cz) (ints fs)) => gets_reads n (some ⟨Rf, 0, none⟩) pz fs.length (ints fs).length fs.length cz (ints fs) W (h.all ⟨w4.heap.size, n, some ⟨Rf, 0, none⟩, fs.length, fs.length, ints fs⟩ (by simp)).r hr)
  have HGK := Lib.hid (fun (W : World) (pz : Option Addr) (cz : Nat) (h : Boxes w [⟨w6.heap.size, n, some ⟨Rt, 0, none⟩, ts.length, ts.length, ints ts⟩, ⟨w5.heap.size, n, some ⟨Rk, 0, none⟩, ks.length, ks.length, ints ks⟩, ⟨w4.heap.size, n, some ⟨Rf, 0, none⟩, fs.length, fs.length, ints fs⟩, ⟨w3.heap.size, n, some ⟨Rm, 0, none⟩, ms.length, ms.length, ints ms⟩, ⟨w2.heap.size, n, some ⟨bb, bo, none⟩, ys.length, c2, ints ys⟩, ⟨w.heap.size, n, some ⟨b, off, none⟩, ys.length, c, ints ys⟩] W) (hr : Reads W (.slice pz (ints ks).length cz) (ints ks)) => gets_reads n (some ⟨Rk, 0, none⟩) pz ks.length (ints ks).length ks.length cz (ints ks) W (h.all ⟨w5.heap.size, n, some ⟨Rk, 0, none⟩, ks.length, ks.length, ints ks⟩ (by simp)).r hr)
  have hd0 := HKp.out _ (HS.out.next (below_drew1 w8))
  have HSd := Lib.hid (HS.out.next (below_drew1 w8))
  clear HS8 hd0
  go_region_held3 (fun w' => w'.cell? ⟨w3.heap.size, 0, none⟩ = some (.int .i64 (n : Int)) ∧ w'.cell? ⟨w3.heap.size, 1, none⟩ = some (.slice (some ⟨Rm, 0, none⟩) ms.length ms.length) ∧ w'.cell? ⟨w4.heap.size, 0, none⟩ = some (.int .i64 (n : Int)) ∧ w'.cell? ⟨w4.heap.size, 1, none⟩ = some (.slice (some ⟨Rf, 0, none⟩) fs.length fs.length) ∧ w'.cell? ⟨w5.heap.size, 0, none⟩ = some (.int .i64 (n : Int)) ∧ w'.cell? ⟨w5.heap.size, 1, none⟩ = some (.slice (some ⟨Rk, 0, none⟩) ks.length ks.length) ∧ w'.cell? ⟨w.heap.size, 0, none⟩ = some (.int .i64 (n : Int)) ∧ w'.cell? ⟨w.heap.size, 1, none⟩ = some (.slice (some ⟨b, off, none⟩) ys.length c) ∧ Boxes w [⟨w6.heap.size, n, some ⟨Rt, 0, none⟩, ts.length, ts.length, ints ts⟩, ⟨w5.heap.size, n, some ⟨Rk, 0, none⟩, ks.length, ks.length, ints ks⟩, ⟨w4.heap.size, n, some ⟨Rf, 0, none⟩, fs.length, fs.length, ints fs⟩, ⟨w3.heap.size, n, some ⟨Rm, 0, none⟩, ms.length, ms.length, ints ms⟩, ⟨w2.heap.size, n, some ⟨bb, bo, none⟩, ys.length, c2, ints ys⟩, ⟨w.heap.size, n, some ⟨b, off, none⟩, ys.length, c, ints ys⟩] w')
    ((first
        | exact HKp.out _ HSd.out
        | (refine HKp.out _ (Boxes.next ?_ (by assumption)); go_split_ands; assumption)))
    ((first
        | (go_at_call 40; (with_reducible refine (HM2.out _ ?_).mono ?_); rotate_left 1; rintro e wm ⟨pm, cm, rfl, hrm, _, hbm⟩; rotate_left 1; (first | exact HV.out.below HSd.out.below | (go_split_ands; exact HV.out.below (Boxes.below (by assumption)))))
        | (go_at_call 41; (with_reducible refine (HF2.out _ ?_).mono ?_); rotate_left 1; rintro e wf ⟨pf, cf, rfl, hrf, _, hbf⟩; rotate_left 1; (first | exact HV.out.below HSd.out.below | (go_split_ands; exact HV.out.below (Boxes.below (by assumption)))))
        | (go_at_call 42; (with_reducible refine (HK2.out _ ?_).mono ?_); rotate_left 1; rintro e wk ⟨pk, ck, rfl, hrk, _, hbk⟩; rotate_left 1; (first | exact HV.out.below HSd.out.below | (go_split_ands; exact HV.out.below (Boxes.below (by assumption)))))
        | (go_at_call 39; (with_reducible refine (HGM.out _ _ _ ?_ (by assumption)).mono ?_); rotate_left 1; rintro e wg1 ⟨rfl, hbg1⟩; rotate_left 1; (go_split_ands; assumption))
        | (go_at_call 39; (with_reducible refine (HGF.out _ _ _ ?_ (by assumption)).mono ?_); rotate_left 1; rintro e wg2 ⟨rfl, hbg2⟩; rotate_left 1; (go_split_ands; assumption))
        | (go_at_call 39; (with_reducible refine (HGK.out _ _ _ ?_ (by assumption)).mono ?_); rotate_left 1; rintro e wg3 ⟨rfl, hbg3⟩; rotate_left 1; (go_split_ands; assumption))))
  have hT : Boxes w [⟨w6.heap.size, n, some ⟨Rt, 0, none⟩, ts.length, ts.length, ints ts⟩, ⟨w5.heap.size, n, some ⟨Rk, 0, none⟩, ks.length, ks.length, ints ks⟩, ⟨w4.heap.size, n, some ⟨Rf, 0, none⟩, fs.length, fs.length, ints fs⟩, ⟨w3.heap.size, n, some ⟨Rm, 0, none⟩, ms.length, ms.length, ints ms⟩, ⟨w2.heap.size, n, some ⟨bb, bo, none⟩, ys.length, c2, ints ys⟩, ⟨w.heap.size, n, some ⟨b, off, none⟩, ys.length, c, ints ys⟩] wg3 := by go_split_ands; assumption
  have HT3 := Lib.hid hT
  clear hT hbm hbf hbk hbg1 hbg2 hbg3 HS HSd HKp HM2 HF2 HK2 HGM HGF HGK hrm hrf hrk
  have z0x := (HT3.out.all ⟨w.heap.size, n, some ⟨b, off, none⟩, ys.length, c, ints ys⟩ (by simp)).a.c0
  have z1x := (HT3.out.all ⟨w.heap.size, n, some ⟨b, off, none⟩, ys.length, c, ints ys⟩ (by simp)).a.c1
  go_wp2_with fail
  refine (HIN1.out _).mono ?_
  rintro e wq ⟨rfl, rfl⟩
  go_wp2_with fail
  refine (HIN2.out _).mono ?_
  rintro e wq ⟨rfl, rfl⟩
  clear z0x z1x
  have HKq : Hid (∀ W, Boxes w [⟨w6.heap.size, n, some ⟨Rt, 0, none⟩, ts.length, ts.length, ints ts⟩, ⟨w5.heap.size, n, some ⟨Rk, 0, none⟩, ks.length, ks.length, ints ks⟩, ⟨w4.heap.size, n, some ⟨Rf, 0, none⟩, fs.length, fs.length, ints fs⟩, ⟨w3.heap.size, n, some ⟨Rm, 0, none⟩, ms.length, ms.length, ints ms⟩, ⟨w2.heap.size, n, some ⟨bb, bo, none⟩, ys.length, c2, ints ys⟩, ⟨w.heap.size, n, some ⟨b, off, none⟩, ys.length, c, ints ys⟩] W → W.cell? ⟨w6.heap.size, 0, none⟩ = some (.int .i64 (n : Int)) ∧ W.cell? ⟨w6.heap.size, 1, none⟩ = some (.slice (some ⟨Rt, 0, none⟩) ts.length ts.length) ∧ W.cell? ⟨w.heap.size, 0, none⟩ = some (.int .i64 (n : Int)) ∧ W.cell? ⟨w.heap.size, 1, none⟩ = some (.slice (some ⟨b, off, none⟩) ys.length c) ∧ Boxes w [⟨w6.heap.size, n, some ⟨Rt, 0, none⟩, ts.length, ts.length, ints ts⟩, ⟨w5.heap.size, n, some ⟨Rk, 0, none⟩, ks.length, ks.length, ints ks⟩, ⟨w4.heap.size, n, some ⟨Rf, 0, none⟩, fs.length, fs.length, ints fs⟩, ⟨w3.heap.size, n, some ⟨Rm, 0, none⟩, ms.length, ms.length, ints ms⟩, ⟨w2.heap.size, n, some ⟨bb, bo, none⟩, ys.length, c2, ints ys⟩, ⟨w.heap.size, n, some ⟨b, off, none⟩, ys.length, c, ints ys⟩] W) := Lib.hid (fun W h => ⟨(h.all ⟨w6.heap.size, n, some ⟨Rt, 0, none⟩, ts.length, ts.length, ints ts⟩ (by simp)).a.c0, (h.all ⟨w6.heap.size, n, some ⟨Rt, 0, none⟩, ts.length, ts.length, ints ts⟩ (by simp)).a.c1, (h.all ⟨w.heap.size, n, some ⟨b, off, none⟩, ys.length, c, ints ys⟩ (by simp)).a.c0, (h.all ⟨w.heap.size, n, some ⟨b, off, none⟩, ys.length, c, ints ys⟩ (by simp)).a.c1, h⟩)
  have HGT := Lib.hid (fun (W : World) (pz : Option Addr) (cz : Nat) (h : Boxes w [⟨w6.heap.size, n, some ⟨Rt, 0, none⟩, ts.length, ts.length, ints ts⟩, ⟨w5.heap.size, n, some ⟨Rk, 0, none⟩, ks.length, ks.length, ints ks⟩, ⟨w4.heap.size, n, some ⟨Rf, 0, none⟩, fs.length, fs.length, ints fs⟩, ⟨w3.heap.size, n, some ⟨Rm, 0, none⟩, ms.length, ms.length, ints ms⟩, ⟨w2.heap.size, n, some ⟨bb, bo, none⟩, ys.length, c2, ints ys⟩, ⟨w.heap.size, n, some ⟨b, off, none⟩, ys.length, c, ints ys⟩] W) (hr : Reads W (.slice pz (ints ts).length cz) (ints ts)) => gets_reads n (some ⟨Rt, 0, none⟩) pz ts.length (ints ts).length ts.length cz (ints ts) W (h.all ⟨w6.heap.size, n, some ⟨Rt, 0, none⟩, ts.length, ts.length, ints ts⟩ (by simp)).r hr)
  have HSe := Lib.hid (HT3.out.next (below_drew1 wg3))
  clear HT3
  go_wp2_with fail
  go_region_held3 (fun w' => w'.cell? ⟨w6.heap.size, 0, none⟩ = some (.int .i64 (n : Int)) ∧ w'.cell? ⟨w6.heap.size, 1, none⟩ = some (.slice (some ⟨Rt, 0, none⟩) ts.length ts.length) ∧ w'.cell? ⟨w.heap.size, 0, none⟩ = some (.int .i64 (n : Int)) ∧ w'.cell? ⟨w.heap.size, 1, none⟩ = some (.slice (some ⟨b, off, none⟩) ys.length c) ∧ Boxes w [⟨w6.heap.size, n, some ⟨Rt, 0, none⟩, ts.length, ts.length, ints ts⟩, ⟨w5.heap.size, n, some ⟨Rk, 0, none⟩, ks.length, ks.length, ints ks⟩, ⟨w4.heap.size, n, some ⟨Rf, 0, none⟩, fs.length, fs.length, ints fs⟩, ⟨w3.heap.size, n, some ⟨Rm, 0, none⟩, ms.length, ms.length, ints ms⟩, ⟨w2.heap.size, n, some ⟨bb, bo, none⟩, ys.length, c2, ints ys⟩, ⟨w.heap.size, n, some ⟨b, off, none⟩, ys.length, c, ints ys⟩] w')
    ((first
        | exact HKq.out _ HSe.out
        | (refine HKq.out _ (Boxes.next ?_ (by assumption)); go_split_ands; assumption)))
    ((first
        | (go_at_call 43; (with_reducible refine (HT2.out _ ?_).mono ?_); rotate_left 1; rintro e wt ⟨pt, ct, rfl, hrt, _, hbt⟩; rotate_left 1; (first | exact HV.out.below HSe.out.below | (go_split_ands; exact HV.out.below (Boxes.below (by assumption)))))
        | (go_at_call 39; (with_reducible refine (HGT.out _ _ _ ?_ (by assumption)).mono ?_); rotate_left 1; rintro e wg4 ⟨rfl, hbg4⟩; rotate_left 1; (go_split_ands; assumption))
        | (go_at_call 17; (with_reducible refine (known_any _).mono ?_); rintro e wz ⟨rfl, hbz⟩)))
  have hT5 : Boxes w [⟨w6.heap.size, n, some ⟨Rt, 0, none⟩, ts.length, ts.length, ints ts⟩, ⟨w5.heap.size, n, some ⟨Rk, 0, none⟩, ks.length, ks.length, ints ks⟩, ⟨w4.heap.size, n, some ⟨Rf, 0, none⟩, fs.length, fs.length, ints fs⟩, ⟨w3.heap.size, n, some ⟨Rm, 0, none⟩, ms.length, ms.length, ints ms⟩, ⟨w2.heap.size, n, some ⟨bb, bo, none⟩, ys.length, c2, ints ys⟩, ⟨w.heap.size, n, some ⟨b, off, none⟩, ys.length, c, ints ys⟩] wz := by go_split_ands; assumption
  have HT5 := Lib.hid hT5
  clear hT5
  go_wp2_with fail
  go_ret
  exact ⟨rfl, HT5.out.below⟩

set_option maxRecDepth 100000 in
set_option maxHeartbeats 4000000 in
theorem PointMoves_out (n b off c : Nat) (P Q : Int) (ys : List Nat) (w : World) (hva : VAt w b off c n ys) (hpq : P < 0 ∨ (ys.length : Int) ≤ P ∨ Q < 0 ∨ (n : Int) ≤ Q) :
    Calls Try.prog 6 #[.agg #[.int .i64 (n : Int), .slice (some ⟨b, off, none⟩) ys.length c], .int .i64 P, .int .i64 Q] w fun e w' => e = .returned (.bool true) ∧ Below w.heap.size w w' := by
  have l1 := hva.ok.l1
  have n1 := hva.ok.n1
  have hd : decide (70 < ys.length) = false := by simp; omega
  have Hlg := fun W h1 => large_len (some ⟨b, off, none⟩) ys.length c (w.heap.size + 1) W h1
  rw [hd] at Hlg
  have HL := Lib.hid Hlg
  have HV := Lib.hid hva
  clear hd Hlg hva
  have HPQ := Lib.hid hpq
  clear hpq
  go_enter Try.func6, Try.ntmps6
  go_wp2_with fail
  refine (HL.out _ ?_).mono ?_
  · have := (ArgBox.new (w.alloc (.cells #[.int .i64 (n : Int), .slice (some ⟨b, off, none⟩) ys.length c] 24)) n (some ⟨b, off, none⟩) ys.length c).c1
    rw [World.size_alloc] at this
    exact this
  rintro e w1 ⟨rfl, rfl⟩
  obtain ⟨W1, hW1⟩ : ∃ W1, (w.alloc (.cells #[.int .i64 (n : Int), .slice (some ⟨b, off, none⟩) ys.length c] 24)).alloc (.cells #[.int .i64 (n : Int), .slice (some ⟨b, off, none⟩) ys.length c] 24) = W1 := ⟨_, rfl⟩
  have hA1 : ArgBox W1 w.heap.size n (some ⟨b, off, none⟩) ys.length c := by rw [← hW1]; exact (ArgBox.new w n (some ⟨b, off, none⟩) ys.length c).below (below1 _ _)
  have hb1 : Below w.heap.size w W1 := by rw [← hW1]; exact below2 w _ _
  have HR1 := Lib.hid (HV.out.below hb1).reads
  rw [hW1]
  have a0 := hA1.c0
  have a1 := hA1.c1
  have HS1 := Lib.hid (show Boxes w [⟨w.heap.size, n, some ⟨b, off, none⟩, ys.length, c, ints ys⟩] W1 from ⟨fun x hx => by simp at hx; subst hx; exact ⟨hA1, HR1.out⟩, hb1⟩)
  clear hW1 hA1 hb1 HL
  go_wp2_with fail
  refine (own_reads n (some ⟨b, off, none⟩) ys.length c (ints ys) _ (by omega) HR1.out).mono ?_
  rintro e w2 ⟨p2, c2, rfl, hr2, hb⟩
  have hS2 := HS1.out.next hb
  have a1 := (hS2.all ⟨w.heap.size, n, some ⟨b, off, none⟩, ys.length, c, ints ys⟩ (by simp)).a
  have a1x := a1.c0
  have a1y := a1.c1
  have a1l := a1.lt
  clear a1
  have HS2 := Lib.hid (hS2.push n p2 ys.length c2 (ints ys) hr2)
  clear hS2 hb HS1 a0 a1 hr2 HR1
  go_wp2_with fail
  obtain ⟨bb, bo, rfl, _⟩ := vat_of_reads (HS2.out.all ⟨w2.heap.size, n, p2, ys.length, c2, ints ys⟩ (by simp)).r HV.out.ok
  obtain ⟨ms, hms⟩ : ∃ ms, ms = painted (miG ys n) ys.length n := ⟨_, rfl⟩
  have lms : ms.length ≤ 1000 := by rw [hms, painted_len]; omega
  obtain ⟨fs, hfs⟩ : ∃ fs, fs = painted (flG ys) ys.length n := ⟨_, rfl⟩
  have lfs : fs.length ≤ 1000 := by rw [hfs, painted_len]; omega
  obtain ⟨ks, hks⟩ : ∃ ks, ks = painted (baG ys) ys.length n := ⟨_, rfl⟩
  have lks : ks.length ≤ 1000 := by rw [hks, painted_len]; omega
  have HM := Lib.hid (fun W (h : VAt W bb bo c2 n ys) => Mirror_ok n bb bo c2 ys W h)
  have HF := Lib.hid (fun W (h : VAt W bb bo c2 n ys) => Flip_ok n bb bo c2 ys W h)
  have HK := Lib.hid (fun W (h : VAt W bb bo c2 n ys) => Back_ok n bb bo c2 ys W h)
  have HM2 := Lib.hid (fun W (h : VAt W b off c n ys) => refMirror_any n b off c ys W h)
  have HF2 := Lib.hid (fun W (h : VAt W b off c n ys) => refFlip_any n b off c ys W h)
  have HK2 := Lib.hid (fun W (h : VAt W b off c n ys) => refBack_any n b off c ys W h)
  have HT := Lib.hid (fun W (h : VAt W bb bo c2 n ys) => Shift_rng n bb bo c2 ys P Q W h HPQ.out)
  rw [← hms] at HM HM2
  rw [← hfs] at HF HF2
  rw [← hks] at HK HK2
  clear hms hfs hks
  have HRC := Lib.hid (fun W hr => refCheck_any n (.slice (some ⟨b, off, none⟩) ys.length c) (ints ys) W hr)
  rw [HV.out.ok.check] at HRC
  refine (HM.out _ (vat_of (HS2.out.all ⟨w2.heap.size, n, some ⟨bb, bo, none⟩, ys.length, c2, ints ys⟩ (by simp)).r HV.out.ok)).mono ?_
  rintro e w3 ⟨Rm, rfl, _, hn, hb⟩
  have hS3 := HS2.out.next hb
  have a2 := (hS3.all ⟨w2.heap.size, n, some ⟨bb, bo, none⟩, ys.length, c2, ints ys⟩ (by simp)).a
  have a2x := a2.c0
  have a2y := a2.c1
  have a2l := a2.lt
  clear a2
  have HS3 := Lib.hid (hS3.push n (some ⟨Rm, 0, none⟩) ms.length ms.length (ints ms) (blk_reads hn lms _))
  clear hS3 hb HS2 a1x a1y a1l hn HM
  go_wp2_with fail
  refine (HF.out _ (vat_of (HS3.out.all ⟨w2.heap.size, n, some ⟨bb, bo, none⟩, ys.length, c2, ints ys⟩ (by simp)).r HV.out.ok)).mono ?_
  rintro e w4 ⟨Rf, rfl, _, hn, hb⟩
  have hS4 := HS3.out.next hb
  have a3 := (hS4.all ⟨w2.heap.size, n, some ⟨bb, bo, none⟩, ys.length, c2, ints ys⟩ (by simp)).a
  have a3x := a3.c0
  have a3y := a3.c1
  have a3l := a3.lt
  clear a3
  have HS4 := Lib.hid (hS4.push n (some ⟨Rf, 0, none⟩) fs.length fs.length (ints fs) (blk_reads hn lfs _))
  clear hS4 hb HS3 a2x a2y a2l hn HF
  go_wp2_with fail
  refine (HK.out _ (vat_of (HS4.out.all ⟨w2.heap.size, n, some ⟨bb, bo, none⟩, ys.length, c2, ints ys⟩ (by simp)).r HV.out.ok)).mono ?_
  rintro e w5 ⟨Rk, rfl, _, hn, hb⟩
  have hS5 := HS4.out.next hb
  have a4 := (hS5.all ⟨w2.heap.size, n, some ⟨bb, bo, none⟩, ys.length, c2, ints ys⟩ (by simp)).a
  have a4x := a4.c0
  have a4y := a4.c1
  have a4l := a4.lt
  clear a4
  have HS5 := Lib.hid (hS5.push n (some ⟨Rk, 0, none⟩) ks.length ks.length (ints ks) (blk_reads hn lks _))
  clear hS5 hb HS4 a3x a3y a3l hn HK
  go_wp2_with fail
  refine (HT.out _ (vat_of (HS5.out.all ⟨w2.heap.size, n, some ⟨bb, bo, none⟩, ys.length, c2, ints ys⟩ (by simp)).r HV.out.ok)).mono ?_
  rintro e w6 ⟨rfl, hb⟩
  have hS6 := HS5.out.next hb
  have a5 := (hS6.all ⟨w.heap.size, n, some ⟨b, off, none⟩, ys.length, c, ints ys⟩ (by simp)).a
  have a5x := a5.c0
  have a5y := a5.c1
  have a5l := a5.lt
  clear a5
  have HS6 := Lib.hid (hS6.push 0 none 0 0 [] (reads_nil _ _ _))
  clear hS6 hb HS5 a4x a4y a4l HT
  go_wp2_with fail
  refine (HRC.out _ (HS6.out.all ⟨w.heap.size, n, some ⟨b, off, none⟩, ys.length, c, ints ys⟩ (by simp)).r).mono ?_
  rintro e w7 ⟨rfl, hb⟩
  have hS7 := HS6.out.next hb
  have a6 := (hS7.all ⟨w2.heap.size, n, some ⟨bb, bo, none⟩, ys.length, c2, ints ys⟩ (by simp)).a
  have a6x := a6.c0
  have a6y := a6.c1
  have a6l := a6.lt
  clear a6
  have a7 := (hS7.all ⟨w.heap.size, n, some ⟨b, off, none⟩, ys.length, c, ints ys⟩ (by simp)).a
  have a7x := a7.c0
  have a7y := a7.c1
  have a7l := a7.lt
  clear a7
  have HS7 := Lib.hid hS7
  clear hS7 hb HS6 a5x a5y a5l HRC
  go_wp2_with fail
  refine (Same_reads n (some ⟨bb, bo, none⟩) (some ⟨b, off, none⟩) ys.length ys.length c2 c (ints ys) _ (HS7.out.all ⟨w2.heap.size, n, some ⟨bb, bo, none⟩, ys.length, c2, ints ys⟩ (by simp)).r (HS7.out.all ⟨w.heap.size, n, some ⟨b, off, none⟩, ys.length, c, ints ys⟩ (by simp)).r).mono ?_
  rintro e w8 ⟨rfl, hb⟩
  have hS8 := HS7.out.next hb
  have HS8 := Lib.hid hS8
  clear hS8 hb HS7 a6x a6y a6l a7x a7y a7l 
  go_wp2_with fail
  have HS := Lib.hid (show Boxes w [⟨w6.heap.size, 0, none, 0, 0, []⟩, ⟨w5.heap.size, n, some ⟨Rk, 0, none⟩, ks.length, ks.length, ints ks⟩, ⟨w4.heap.size, n, some ⟨Rf, 0, none⟩, fs.length, fs.length, ints fs⟩, ⟨w3.heap.size, n, some ⟨Rm, 0, none⟩, ms.length, ms.length, ints ms⟩, ⟨w2.heap.size, n, some ⟨bb, bo, none⟩, ys.length, c2, ints ys⟩, ⟨w.heap.size, n, some ⟨b, off, none⟩, ys.length, c, ints ys⟩] w8 from HS8.out)
  have HKp : Hid (∀ W, Boxes w [⟨w6.heap.size, 0, none, 0, 0, []⟩, ⟨w5.heap.size, n, some ⟨Rk, 0, none⟩, ks.length, ks.length, ints ks⟩, ⟨w4.heap.size, n, some ⟨Rf, 0, none⟩, fs.length, fs.length, ints fs⟩, ⟨w3.heap.size, n, some ⟨Rm, 0, none⟩, ms.length, ms.length, ints ms⟩, ⟨w2.heap.size, n, some ⟨bb, bo, none⟩, ys.length, c2, ints ys⟩, ⟨w.heap.size, n, some ⟨b, off, none⟩, ys.length, c, ints ys⟩] W → W.cell? ⟨w3.heap.size, 0, none⟩ = some (.int .i64 (n : Int)) ∧ W.cell? ⟨w3.heap.size, 1, none⟩ = some (.slice (some ⟨Rm, 0, none⟩) ms.length ms.length) ∧ W.cell? ⟨w4.heap.size, 0, none⟩ = some (.int .i64 (n : Int)) ∧ W.cell? ⟨w4.heap.size, 1, none⟩ = some (.slice (some ⟨Rf, 0, none⟩) fs.length fs.length) ∧ W.cell? ⟨w5.heap.size, 0, none⟩ = some (.int .i64 (n : Int)) ∧ W.cell? ⟨w5.heap.size, 1, none⟩ = some (.slice (some ⟨Rk, 0, none⟩) ks.length ks.length) ∧ W.cell? ⟨w.heap.size, 0, none⟩ = some (.int .i64 (n : Int)) ∧ W.cell? ⟨w.heap.size, 1, none⟩ = some (.slice (some ⟨b, off, none⟩) ys.length c) ∧ Boxes w [⟨w6.heap.size, 0, none, 0, 0, []⟩, ⟨w5.heap.size, n, some ⟨Rk, 0, none⟩, ks.length, ks.length, ints ks⟩, ⟨w4.heap.size, n, some ⟨Rf, 0, none⟩, fs.length, fs.length, ints fs⟩, ⟨w3.heap.size, n, some ⟨Rm, 0, none⟩, ms.length, ms.length, ints ms⟩, ⟨w2.heap.size, n, some ⟨bb, bo, none⟩, ys.length, c2, ints ys⟩, ⟨w.heap.size, n, some ⟨b, off, none⟩, ys.length, c, ints ys⟩] W) := Lib.hid (fun W h => ⟨(h.all ⟨w3.heap.size, n, some ⟨Rm, 0, none⟩, ms.length, ms.length, ints ms⟩ (by simp)).a.c0, (h.all ⟨w3.heap.size, n, some ⟨Rm, 0, none⟩, ms.length, ms.length, ints ms⟩ (by simp)).a.c1, (h.all ⟨w4.heap.size, n, some ⟨Rf, 0, none⟩, fs.length, fs.length, ints fs⟩ (by simp)).a.c0, (h.all ⟨w4.heap.size, n, some ⟨Rf, 0, none⟩, fs.length, fs.length, ints fs⟩ (by simp)).a.c1, (h.all ⟨w5.heap.size, n, some ⟨Rk, 0, none⟩, ks.length, ks.length, ints ks⟩ (by simp)).a.c0, (h.all ⟨w5.heap.size, n, some ⟨Rk, 0, none⟩, ks.length, ks.length, ints ks⟩ (by simp)).a.c1, (h.all ⟨w.heap.size, n, some ⟨b, off, none⟩, ys.length, c, ints ys⟩ (by simp)).a.c0, (h.all ⟨w.heap.size, n, some ⟨b, off, none⟩, ys.length, c, ints ys⟩ (by simp)).a.c1, h⟩)
  have HGM := Lib.hid (fun (W : World) (pz : Option Addr) (cz : Nat) (h : Boxes w [⟨w6.heap.size, 0, none, 0, 0, []⟩, ⟨w5.heap.size, n, some ⟨Rk, 0, none⟩, ks.length, ks.length, ints ks⟩, ⟨w4.heap.size, n, some ⟨Rf, 0, none⟩, fs.length, fs.length, ints fs⟩, ⟨w3.heap.size, n, some ⟨Rm, 0, none⟩, ms.length, ms.length, ints ms⟩, ⟨w2.heap.size, n, some ⟨bb, bo, none⟩, ys.length, c2, ints ys⟩, ⟨w.heap.size, n, some ⟨b, off, none⟩, ys.length, c, ints ys⟩] W) (hr : Reads W (.slice pz (ints ms).length cz) (ints ms)) => gets_reads n (some ⟨Rm, 0, none⟩) pz ms.length (ints ms).length ms.length cz (ints ms) W (h.all ⟨w3.heap.size, n, some ⟨Rm, 0, none⟩, ms.length, ms.length, ints ms⟩ (by simp)).r hr)
  have HGF := Lib.hid (fun (W : World) (pz : Option Addr) (cz : Nat) (h : Boxes w [⟨w6.heap.size, 0, none, 0, 0, []⟩, ⟨w5.heap.size, n, some ⟨Rk, 0, none⟩, ks.length, ks.length, ints ks⟩, ⟨w4.heap.size, n, some ⟨Rf, 0, none⟩, fs.length, fs.length, ints fs⟩, ⟨w3.heap.size, n, some ⟨Rm, 0, none⟩, ms.length, ms.length, ints ms⟩, ⟨w2.heap.size, n, some ⟨bb, bo, none⟩, ys.length, c2, ints ys⟩, ⟨w.heap.size, n, some ⟨b, off, none⟩, ys.length, c, ints ys⟩] W) (hr : Reads W (.slice pz (ints fs).length cz) (ints fs)) => gets_reads n (some ⟨Rf, 0, none⟩) pz fs.length (ints fs).length fs.length cz (ints fs) W (h.all ⟨w4.heap.size, n, some ⟨Rf, 0, none⟩, fs.length, fs.length, ints fs⟩ (by simp)).r hr)
  have HGK := Lib.hid (fun (W : World) (pz : Option Addr) (cz : Nat) (h : Boxes w [⟨w6.heap.size, 0, none, 0, 0, []⟩, ⟨w5.heap.size, n, some ⟨Rk, 0, none⟩, ks.length, ks.length, ints ks⟩, ⟨w4.heap.size, n, some ⟨Rf, 0, none⟩, fs.length, fs.length, ints fs⟩, ⟨w3.heap.size, n, some ⟨Rm, 0, none⟩, ms.length, ms.length, ints ms⟩, ⟨w2.heap.size, n, some ⟨bb, bo, none⟩, ys.length, c2, ints ys⟩, ⟨w.heap.size, n, some ⟨b, off, none⟩, ys.length, c, ints ys⟩] W) (hr : Reads W (.slice pz (ints ks).length cz) (ints ks)) => gets_reads n (some ⟨Rk, 0, none⟩) pz ks.length (ints ks).length ks.length cz (ints ks) W (h.all ⟨w5.heap.size, n, some ⟨Rk, 0, none⟩, ks.length, ks.length, ints ks⟩ (by simp)).r hr)
  have hd0 := HKp.out _ (HS.out.next (below_drew1 w8))
  have HSd := Lib.hid (HS.out.next (below_drew1 w8))
  clear HS8 hd0
  go_region_held3 (fun w' => w'.cell? ⟨w3.heap.size, 0, none⟩ = some (.int .i64 (n : Int)) ∧ w'.cell? ⟨w3.heap.size, 1, none⟩ = some (.slice (some ⟨Rm, 0, none⟩) ms.length ms.length) ∧ w'.cell? ⟨w4.heap.size, 0, none⟩ = some (.int .i64 (n : Int)) ∧ w'.cell? ⟨w4.heap.size, 1, none⟩ = some (.slice (some ⟨Rf, 0, none⟩) fs.length fs.length) ∧ w'.cell? ⟨w5.heap.size, 0, none⟩ = some (.int .i64 (n : Int)) ∧ w'.cell? ⟨w5.heap.size, 1, none⟩ = some (.slice (some ⟨Rk, 0, none⟩) ks.length ks.length) ∧ w'.cell? ⟨w.heap.size, 0, none⟩ = some (.int .i64 (n : Int)) ∧ w'.cell? ⟨w.heap.size, 1, none⟩ = some (.slice (some ⟨b, off, none⟩) ys.length c) ∧ Boxes w [⟨w6.heap.size, 0, none, 0, 0, []⟩, ⟨w5.heap.size, n, some ⟨Rk, 0, none⟩, ks.length, ks.length, ints ks⟩, ⟨w4.heap.size, n, some ⟨Rf, 0, none⟩, fs.length, fs.length, ints fs⟩, ⟨w3.heap.size, n, some ⟨Rm, 0, none⟩, ms.length, ms.length, ints ms⟩, ⟨w2.heap.size, n, some ⟨bb, bo, none⟩, ys.length, c2, ints ys⟩, ⟨w.heap.size, n, some ⟨b, off, none⟩, ys.length, c, ints ys⟩] w')
    ((first
        | exact HKp.out _ HSd.out
        | (refine HKp.out _ (Boxes.next ?_ (by assumption)); go_split_ands; assumption)))
    ((first
        | (go_at_call 40; (with_reducible refine (HM2.out _ ?_).mono ?_); rotate_left 1; rintro e wm ⟨pm, cm, rfl, hrm, _, hbm⟩; rotate_left 1; (first | exact HV.out.below HSd.out.below | (go_split_ands; exact HV.out.below (Boxes.below (by assumption)))))
        | (go_at_call 41; (with_reducible refine (HF2.out _ ?_).mono ?_); rotate_left 1; rintro e wf ⟨pf, cf, rfl, hrf, _, hbf⟩; rotate_left 1; (first | exact HV.out.below HSd.out.below | (go_split_ands; exact HV.out.below (Boxes.below (by assumption)))))
        | (go_at_call 42; (with_reducible refine (HK2.out _ ?_).mono ?_); rotate_left 1; rintro e wk ⟨pk, ck, rfl, hrk, _, hbk⟩; rotate_left 1; (first | exact HV.out.below HSd.out.below | (go_split_ands; exact HV.out.below (Boxes.below (by assumption)))))
        | (go_at_call 39; (with_reducible refine (HGM.out _ _ _ ?_ (by assumption)).mono ?_); rotate_left 1; rintro e wg1 ⟨rfl, hbg1⟩; rotate_left 1; (go_split_ands; assumption))
        | (go_at_call 39; (with_reducible refine (HGF.out _ _ _ ?_ (by assumption)).mono ?_); rotate_left 1; rintro e wg2 ⟨rfl, hbg2⟩; rotate_left 1; (go_split_ands; assumption))
        | (go_at_call 39; (with_reducible refine (HGK.out _ _ _ ?_ (by assumption)).mono ?_); rotate_left 1; rintro e wg3 ⟨rfl, hbg3⟩; rotate_left 1; (go_split_ands; assumption))))
  have hT : Boxes w [⟨w6.heap.size, 0, none, 0, 0, []⟩, ⟨w5.heap.size, n, some ⟨Rk, 0, none⟩, ks.length, ks.length, ints ks⟩, ⟨w4.heap.size, n, some ⟨Rf, 0, none⟩, fs.length, fs.length, ints fs⟩, ⟨w3.heap.size, n, some ⟨Rm, 0, none⟩, ms.length, ms.length, ints ms⟩, ⟨w2.heap.size, n, some ⟨bb, bo, none⟩, ys.length, c2, ints ys⟩, ⟨w.heap.size, n, some ⟨b, off, none⟩, ys.length, c, ints ys⟩] wg3 := by go_split_ands; assumption
  have HT3 := Lib.hid hT
  clear hT hbm hbf hbk hbg1 hbg2 hbg3 HS HSd HKp HM2 HF2 HK2 HGM HGF HGK hrm hrf hrk
  have z0x := (HT3.out.all ⟨w.heap.size, n, some ⟨b, off, none⟩, ys.length, c, ints ys⟩ (by simp)).a.c0
  have z1x := (HT3.out.all ⟨w.heap.size, n, some ⟨b, off, none⟩, ys.length, c, ints ys⟩ (by simp)).a.c1
  cases hP1 : (decide (0 ≤ P) && decide (P ≤ (ys.length : Int) - 1)) with
  | false =>
    have HI := Lib.hid (fun W => In_any P 0 ((ys.length : Int) - 1) W)
    rw [hP1] at HI
    clear hP1
    have hs0 := (HT3.out.all ⟨w6.heap.size, 0, none, 0, 0, []⟩ (by simp)).a.c0
    have hs1 := (HT3.out.all ⟨w6.heap.size, 0, none, 0, 0, []⟩ (by simp)).a.c1
    go_wp2_with fail
    refine (HI.out _).mono ?_
    rintro e wq ⟨rfl, rfl⟩
    go_wp2_with fail
    refine (none_any none 0 _).mono ?_
    rintro e wn ⟨rfl, hbn⟩
    have HT4 := Lib.hid (HT3.out.next hbn)
    clear hbn
    go_wp2_with fail
    refine (known_any _).mono ?_
    rintro e wz ⟨rfl, hbz⟩
    have HT5 := Lib.hid (HT4.out.next hbz)
    clear hbz
    go_wp2_with fail
    go_ret
    exact ⟨rfl, HT5.out.below⟩
  | true =>
    have HI := Lib.hid (fun W => In_any P 0 ((ys.length : Int) - 1) W)
    rw [hP1] at HI
    have hQ1 : (decide (0 ≤ Q) && decide (Q ≤ (n : Int) - 1)) = false := by
      have := HPQ.out
      simp at hP1 ⊢
      omega
    have HJ := Lib.hid (fun W => In_any Q 0 ((n : Int) - 1) W)
    rw [hQ1] at HJ
    clear hP1 hQ1
    have hs0 := (HT3.out.all ⟨w6.heap.size, 0, none, 0, 0, []⟩ (by simp)).a.c0
    have hs1 := (HT3.out.all ⟨w6.heap.size, 0, none, 0, 0, []⟩ (by simp)).a.c1
    go_wp2_with fail
    refine (HI.out _).mono ?_
    rintro e wq ⟨rfl, rfl⟩
    go_wp2_with fail
    refine (HJ.out _).mono ?_
    rintro e wq ⟨rfl, rfl⟩
    go_wp2_with fail
    refine (none_any none 0 _).mono ?_
    rintro e wn ⟨rfl, hbn⟩
    have HT4 := Lib.hid (HT3.out.next hbn)
    clear hbn
    go_wp2_with fail
    refine (known_any _).mono ?_
    rintro e wz ⟨rfl, hbz⟩
    have HT5 := Lib.hid (HT4.out.next hbz)
    clear hbz
    go_wp2_with fail
    go_ret
    exact ⟨rfl, HT5.out.below⟩

/-- PointMoves, whatever the design and the shift -/
theorem PointMoves_any (h : Int) (p : Option Addr) (c : Nat) (xs : List Int) (P Q : Int) (w : World) (hr : Reads w (.slice p xs.length c) xs) :
    Calls Try.prog 6 #[.agg #[.int .i64 h, .slice p xs.length c], .int .i64 P, .int .i64 Q] w fun e w' => e = .returned (.bool true) ∧ Below w.heap.size w w' := by
  by_cases hlg : 70 < xs.length
  · exact PointMoves_large h p xs.length c P Q w hlg
  · by_cases hck : checkE h xs = 0
    · obtain ⟨n, ys, rfl, rfl, hv⟩ := valid_of_check hck
      rw [ints_len] at hr ⊢
      obtain ⟨b, off, rfl, hva⟩ := vat_of_reads hr hv
      by_cases hpq : P < 0 ∨ (ys.length : Int) ≤ P ∨ Q < 0 ∨ (n : Int) ≤ Q
      · exact PointMoves_out n b off c P Q ys w hva hpq
      · obtain ⟨P', rfl⟩ := Int.eq_ofNat_of_zero_le (show 0 ≤ P by omega)
        obtain ⟨Q', rfl⟩ := Int.eq_ofNat_of_zero_le (show 0 ≤ Q by omega)
        exact PointMoves_in n b off c P' Q' ys w hva (by omega) (by omega)
    · exact PointMoves_bad h p c xs P Q w (by omega) hck hr
end Go.Proofs.Ytjobbleabepaiaa
