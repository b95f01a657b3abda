/- PointFloats: the walk. -/
import Derived.Test.YtjobbleabepaiaaXD
import Derived.Test.YtjobbleabepaiaaXE
import Derived.Deep.RegionHeld3
namespace Go.Proofs.Ytjobbleabepaiaa
open Go.RowKit

/-- the longest floats in a box -/
structure LBox4 (W : World) (B : Nat) (x0 x1 x2 x3 : Nat) : Prop where
  q0 : W.cell? ⟨B, 0, none⟩ = some (.int .i64 (x0 : Int))
  q1 : W.cell? ⟨B, 1, none⟩ = some (.int .i64 (x1 : Int))
  q2 : W.cell? ⟨B, 2, none⟩ = some (.int .i64 (x2 : Int))
  q3 : W.cell? ⟨B, 3, none⟩ = some (.int .i64 (x3 : Int))
theorem LBox4.next {W W' : World} {B x0 x1 x2 x3 : Nat} (h : LBox4 W B x0 x1 x2 x3) (hb : Below W.heap.size W W') : LBox4 W' B x0 x1 x2 x3 :=
  have hl := World.block_lt_of_cell? W ⟨B, 0, none⟩ h.q0
  ⟨cell_lift hb hl h.q0, cell_lift hb hl h.q1, cell_lift hb hl h.q2, cell_lift hb hl h.q3⟩
theorem LBox4.new (W : World) (x0 x1 x2 x3 : Nat) : LBox4 (W.alloc (.cells #[.int .i64 (x0 : Int), .int .i64 (x1 : Int), .int .i64 (x2 : Int), .int .i64 (x3 : Int)] 35)) W.heap.size x0 x1 x2 x3 := ⟨by simp, by simp, by simp, by simp⟩
/-- what the end of PointFloats looks at -/
structure FK (w0 : World) (B n b off c : Nat) (ys : List Nat) (x0 x1 x2 x3 : Nat) (W : World) : Prop where
  a : ArgBox W w0.heap.size n (some ⟨b, off, none⟩) ys.length c
  q : LBox4 W B x0 x1 x2 x3
  v : VAt W b off c n ys
  below : Below w0.heap.size w0 W
theorem FK.next {w0 : World} {B n b off c : Nat} {ys : List Nat} {x0 x1 x2 x3 : Nat} {W W' : World} (h : FK w0 B n b off c ys x0 x1 x2 x3 W) (hb : Below W.heap.size W W') : FK w0 B n b off c ys x0 x1 x2 x3 W' :=
  ⟨h.a.below hb, h.q.next hb, h.v.below hb, h.below.trans (hb.mono h.below.size)⟩

set_option maxRecDepth 100000 in
set_option maxHeartbeats 4000000 in
theorem PointFloats_large (h : Int) (p : Option Addr) (l c : Nat) (al bd : Int) (w : World) (hlg : 70 < l) :
    Calls Try.prog 3 #[.agg #[.int .i64 h, .slice p l c], .int .i64 al, .int .i64 bd] w fun e w' => e = .returned (.bool true) ∧ Below w.heap.size w w' := by
  have hd : decide (70 < l) = true := by simpa using hlg
  have Hlg := fun W h1 => large_len p l c (w.heap.size + 1) W h1
  rw [hd] at Hlg
  have HL := Lib.hid Hlg
  clear hd hlg Hlg
  go_enter Try.func3, Try.ntmps3
  go_wp2_with fail
  refine (HL.out _ ?_).mono ?_
  · have := (ArgBox.new (w.alloc (.cells #[.int .i64 h, .slice p l c] 24)) h p l c).c1
    rw [World.size_alloc] at this
    exact this
  rintro e w1 ⟨rfl, rfl⟩
  go_wp2_with fail
  refine (known_any _).mono ?_
  rintro e w2 ⟨rfl, hb2⟩
  go_wp2_with fail
  go_ret
  exact ⟨rfl, (((Below.refl _ _).alloc (Nat.le_refl _) _).alloc (by simp) _).trans (hb2.mono (by simp; omega))⟩

set_option maxRecDepth 100000 in
set_option maxHeartbeats 4000000 in
theorem PointFloats_bad (h : Int) (p : Option Addr) (c : Nat) (xs : List Int) (al bd : Int) (w : World) (hlg : xs.length ≤ 70) (hck : checkE h xs ≠ 0) (hr : Reads w (.slice p xs.length c) xs) :
    Calls Try.prog 3 #[.agg #[.int .i64 h, .slice p xs.length c], .int .i64 al, .int .i64 bd] w fun e w' => e = .returned (.bool true) ∧ Below w.heap.size w w' := by
  have hd : decide (70 < xs.length) = false := by simp; omega
  have Hlg := fun W h1 => large_len p xs.length c (w.heap.size + 1) W h1
  rw [hd] at Hlg
  have HR := Lib.hid hr
  have HCK := Lib.hid hck
  have HL := Lib.hid Hlg
  clear hd Hlg hr hck
  go_enter Try.func3, Try.ntmps3
  go_wp2_with fail
  refine (HL.out _ ?_).mono ?_
  · have := (ArgBox.new (w.alloc (.cells #[.int .i64 h, .slice p xs.length c] 24)) h p xs.length c).c1
    rw [World.size_alloc] at this
    exact this
  rintro e w1 ⟨rfl, rfl⟩
  obtain ⟨W1, hW1⟩ : ∃ W1, (w.alloc (.cells #[.int .i64 h, .slice p xs.length c] 24)).alloc (.cells #[.int .i64 h, .slice p xs.length c] 24) = W1 := ⟨_, rfl⟩
  have hA1 : ArgBox W1 w.heap.size h p xs.length c := by rw [← hW1]; exact (ArgBox.new w h p xs.length c).below (below1 _ _)
  have hb1 : Below w.heap.size w W1 := by rw [← hW1]; exact below2 w _ _
  have HR1 := Lib.hid (HR.out.below hb1)
  rw [hW1]
  have a0 := hA1.c0
  have a1 := hA1.c1
  have HA1 := Lib.hid hA1
  have HB1 := Lib.hid hb1
  have hown := own_any h p c xs W1 (by omega) HR1.out
  unfold CopyD at hown
  have HO := Lib.hid hown
  clear hW1 hA1 hb1 HL hown
  go_wp2_with fail
  refine HO.out.mono ?_
  rintro e w2 ⟨p2, c2, rfl, hr2, hb2⟩
  have HR2 := Lib.hid hr2
  have HB2 := Lib.hid hb2
  have hA2 := HA1.out.below hb2
  have b0 := hA2.c0
  have b1 := hA2.c1
  have hz2 := hA2.lt
  have HA2 := Lib.hid hA2
  clear hr2 hb2 hA2 a0 a1 HO
  go_wp2_with fail
  have hS : LS w w2.heap.size h p p2 c c2 xs.length xs (w2.alloc (.cells #[.int .i64 h, .slice p2 xs.length c2] 24)) :=
    ⟨HA2.out.below (below1 _ _), ArgBox.new _ _ _ _ _, (HR1.out.below HB2.out).below (below1 _ _), HR2.out.below (below1 _ _), (HB1.out.trans (HB2.out.mono HB1.out.size)).trans ((below1 w2 _).mono (by have := HB1.out.size; have := HB2.out.size; omega))⟩
  obtain ⟨W2, hW2⟩ : ∃ W2, w2.alloc (.cells #[.int .i64 h, .slice p2 xs.length c2] 24) = W2 := ⟨_, rfl⟩
  rw [hW2] at hS ⊢
  have HS := Lib.hid hS
  clear hW2 hS HR2 HB2 HA2 HA1 HB1 HR1 HR b0 b1 hz2
  have hck := HCK.out
  have Hfl := Floats_err h p2 c2 xs al bd
  have hnz : (checkE h xs != 0) = true := by simpa using hck
  have hnz2 : (checkE h xs == 0) = false := by simpa using hck
  have Hfe := fun W (hr : Reads W (.slice p2 xs.length c2) xs) => Floats_err h p2 c2 xs al bd W hr hck
  have Hln := fun W (hr : Reads W (.slice p2 xs.length c2) xs) => Longest_err h p2 c2 xs W hr (checkE h xs) rfl hck
  have Hch := fun W (hr : Reads W (.slice p2 xs.length c2) xs) => Check_any h (.slice p2 xs.length c2) xs W hr
  have Hrc := fun W (hr : Reads W (.slice p xs.length c) xs) => refCheck_any h (.slice p xs.length c) xs W hr
  obtain ⟨ce, hce⟩ : ∃ ce, checkE h xs = ce := ⟨_, rfl⟩
  rw [hce] at Hfe Hln Hch Hrc hnz hnz2
  have HFE := Lib.hid Hfe
  have HLN := Lib.hid Hln
  have HCH := Lib.hid Hch
  have HRC := Lib.hid Hrc
  clear hce Hfe Hln Hch Hrc hck HCK Hfl
  refine (HCH.out _ HS.out.r2).mono ?_
  rintro e w3 ⟨rfl, hb3⟩
  have HS3 := Lib.hid (HS.out.next hb3)
  have b0 := HS3.out.b.c0
  have b1 := HS3.out.b.c1
  clear hb3 HS HCH
  go_wp2_with fail
  refine (HFE.out _ HS3.out.r2).mono ?_
  rintro e w4 ⟨rfl, hb4⟩
  have HS4 := Lib.hid (HS3.out.next hb4)
  clear hb4 HS3 HFE b0 b1
  have b0 := HS4.out.b.c0
  have b1 := HS4.out.b.c1
  go_wp2_with fail
  refine (HLN.out _ HS4.out.r2).mono ?_
  rintro e w5 ⟨rfl, hb5⟩
  have HS5 := Lib.hid (HS4.out.next hb5)
  clear hb5 HS4 HLN b0 b1
  have a0 := HS5.out.a.c0
  have a1 := HS5.out.a.c1
  have hz5 := HS5.out.a.lt
  go_wp2_with fail
  obtain ⟨W5, hW5⟩ : ∃ W5, w5.alloc (.cells #[.int .i64 0, .int .i64 0, .int .i64 0, .int .i64 0] 35) = W5 := ⟨_, rfl⟩
  have hQ : LBox4 W5 w5.heap.size 0 0 0 0 := by rw [← hW5]; exact LBox4.new w5 0 0 0 0
  have hS5 := HS5.out.next (below1 w5 (.cells #[.int .i64 0, .int .i64 0, .int .i64 0, .int .i64 0] 35))
  rw [hW5] at hS5 ⊢
  have HQ := Lib.hid hQ
  have HS6 := Lib.hid hS5
  clear hQ hS5 hW5 a0 a1 HS5 hz5
  refine (HRC.out _ HS6.out.r).mono ?_
  rintro e w7 ⟨rfl, hb7⟩
  have HS7 := Lib.hid (HS6.out.next hb7)
  have HQ7 := Lib.hid (HQ.out.next hb7)
  clear hb7 HS6 HQ HRC
  have a0 := HS7.out.a.c0
  have a1 := HS7.out.a.c1
  have b0 := HS7.out.b.c0
  have b1 := HS7.out.b.c1
  go_wp2_with fail
  have Hsm := Same_any h h p2 p c2 c xs xs w7 HS7.out.r2 HS7.out.r
  rw [show decide (h = h ∧ xs = xs) = true by simp] at Hsm
  have HSM := Lib.hid Hsm
  clear Hsm
  refine HSM.out.mono ?_
  rintro e w8 ⟨rfl, hb8⟩
  have HS8 := Lib.hid (HS7.out.next hb8)
  have HQ8 := Lib.hid (HQ7.out.next hb8)
  clear a0 a1 b0 b1 HSM hb8 HS7 HQ7
  have q0 := HQ8.out.q0
  have q1 := HQ8.out.q1
  have q2 := HQ8.out.q2
  have q3 := HQ8.out.q3
  go_wp2_with fail
  refine (known_any _).mono ?_
  rintro e w9 ⟨rfl, hb9⟩
  go_wp2_with fail
  go_ret
  exact ⟨rfl, (HS8.out.next hb9).below⟩

set_option maxRecDepth 100000 in
set_option maxHeartbeats 8000000 in
theorem PointFloats_along (n b off c : Nat) (ys : List Nat) (al bd : Int) (w : World) (hva : VAt w b off c n ys) (h1 : al ≠ 1) (h2 : al ≠ 2) :
    Calls Try.prog 3 #[.agg #[.int .i64 (n : Int), .slice (some ⟨b, off, none⟩) ys.length c], .int .i64 al, .int .i64 bd] w fun e w' => e = .returned (.bool true) ∧ Below w.heap.size w w' := by
  have l1 := hva.ok.l1
  have n1 := hva.ok.n1
  have hd : decide (70 < ys.length) = false := by simp; omega
  have Hlg := fun W h1 => large_len (some ⟨b, off, none⟩) ys.length c (w.heap.size + 1) W h1
  rw [hd] at Hlg
  have HV := Lib.hid hva
  have HR := Lib.hid hva.reads
  have H1 := Lib.hid h1
  have H2 := Lib.hid h2
  clear h1 h2
  have HL := Lib.hid Hlg
  clear hd Hlg hva
  go_enter Try.func3, Try.ntmps3
  go_wp2_with fail
  refine (HL.out _ ?_).mono ?_
  · have := (ArgBox.new (w.alloc (.cells #[.int .i64 (n : Int), .slice (some ⟨b, off, none⟩) ys.length c] 24)) (n : Int) (some ⟨b, off, none⟩) ys.length c).c1
    rw [World.size_alloc] at this
    exact this
  rintro e w1 ⟨rfl, rfl⟩
  obtain ⟨W1, hW1⟩ : ∃ W1, (w.alloc (.cells #[.int .i64 (n : Int), .slice (some ⟨b, off, none⟩) ys.length c] 24)).alloc (.cells #[.int .i64 (n : Int), .slice (some ⟨b, off, none⟩) ys.length c] 24) = W1 := ⟨_, rfl⟩
  have hA1 : ArgBox W1 w.heap.size (n : Int) (some ⟨b, off, none⟩) ys.length c := by rw [← hW1]; exact (ArgBox.new w (n : Int) (some ⟨b, off, none⟩) ys.length c).below (below1 _ _)
  have hb1 : Below w.heap.size w W1 := by rw [← hW1]; exact below2 w _ _
  have HR1 := Lib.hid (HR.out.below hb1)
  rw [hW1]
  have a0 := hA1.c0
  have a1 := hA1.c1
  have HA1 := Lib.hid hA1
  have HB1 := Lib.hid hb1
  have hown := own_any (n : Int) (some ⟨b, off, none⟩) c (ints ys) W1 (by rw [ints_len]; omega) (by rw [ints_len]; exact HR1.out)
  unfold CopyD at hown
  simp only [ints_len] at hown
  have HO := Lib.hid hown
  clear hW1 hA1 hb1 HL hown
  go_wp2_with fail
  refine HO.out.mono ?_
  rintro e w2 ⟨p2, c2, rfl, hr2, hb2⟩
  have HR2 := Lib.hid hr2
  have HB2 := Lib.hid hb2
  have hA2 := HA1.out.below hb2
  have b0 := hA2.c0
  have b1 := hA2.c1
  have hz2 := hA2.lt
  have HA2 := Lib.hid hA2
  clear hr2 hb2 hA2 a0 a1 HO
  go_wp2_with fail
  have hS : LS w w2.heap.size (n : Int) (some ⟨b, off, none⟩) p2 c c2 ys.length (ints ys) (w2.alloc (.cells #[.int .i64 (n : Int), .slice p2 ys.length c2] 24)) :=
    ⟨HA2.out.below (below1 _ _), ArgBox.new _ _ _ _ _, (HR1.out.below HB2.out).below (below1 _ _), HR2.out.below (below1 _ _), (HB1.out.trans (HB2.out.mono HB1.out.size)).trans ((below1 w2 _).mono (by have := HB1.out.size; have := HB2.out.size; omega))⟩
  obtain ⟨W2, hW2⟩ : ∃ W2, w2.alloc (.cells #[.int .i64 (n : Int), .slice p2 ys.length c2] 24) = W2 := ⟨_, rfl⟩
  rw [hW2] at hS ⊢
  have HS := Lib.hid hS
  clear hW2 hS HR2 HB2 HA2 HA1 HB1 HR1 HR b0 b1 hz2
  obtain ⟨bb, bo, rfl, hv2⟩ := vat_of_reads HS.out.r2 HV.out.ok
  have Hch := fun W (hr : Reads W (.slice (some ⟨bb, bo, none⟩) ys.length c2) (ints ys)) => Check_any n (.slice (some ⟨bb, bo, none⟩) ys.length c2) (ints ys) W hr
  have Hrc := fun W (hr : Reads W (.slice (some ⟨b, off, none⟩) ys.length c) (ints ys)) => refCheck_any n (.slice (some ⟨b, off, none⟩) ys.length c) (ints ys) W hr
  rw [HV.out.ok.check] at Hch Hrc
  have HCH := Lib.hid Hch
  have HRC := Lib.hid Hrc
  have HV2 := Lib.hid hv2
  clear Hch Hrc hv2
  refine (HCH.out _ HS.out.r2).mono ?_
  rintro e w3 ⟨rfl, hb3⟩
  have HS3 := Lib.hid (HS.out.next hb3)
  have HV3 := Lib.hid (HV2.out.below hb3)
  have b0 := HS3.out.b.c0
  have b1 := HS3.out.b.c1
  clear hb3 HS HCH HV2
  go_wp2_with fail
  have Hfl := Floats_bad n (some ⟨bb, bo, none⟩) c2 (ints ys) al bd 2 w3 (by rw [ints_len]; exact HV3.out.reads) HV.out.ok.check (.inl ⟨H1.out, H2.out, rfl⟩)
  rw [ints_len] at Hfl
  have HFL := Lib.hid Hfl
  clear Hfl
  refine HFL.out.mono ?_
  rintro e w4 ⟨rfl, hb4⟩
  clear HFL
  have HS4 := Lib.hid (HS3.out.next hb4)
  have HV4 := Lib.hid (HV3.out.below hb4)
  clear hb4 HS3 HV3 b0 b1
  have b0 := HS4.out.b.c0
  have b1 := HS4.out.b.c1
  go_wp2_with fail
  have hln := Longest_ok n bb bo c2 ys w4 HV4.out
  have Hr1 := fun W (h : VAt W b off c n ys) => refLongest_any n b off c ys false false W h
  have Hr2 := fun W (h : VAt W b off c n ys) => refLongest_any n b off c ys false true W h
  have Hr3 := fun W (h : VAt W b off c n ys) => refLongest_any n b off c ys true true W h
  have Hr4 := fun W (h : VAt W b off c n ys) => refLongest_any n b off c ys true false W h
  simp only [Bool.false_eq_true, if_false, if_true] at Hr1 Hr2 Hr3 Hr4
  obtain ⟨x0, g0⟩ : ∃ x, doneM n ys 2 1 false = x := ⟨_, rfl⟩
  obtain ⟨x1, g1⟩ : ∃ x, doneM n ys 2 1 true = x := ⟨_, rfl⟩
  obtain ⟨x2, g2⟩ : ∃ x, doneM n ys 2 2 true = x := ⟨_, rfl⟩
  obtain ⟨x3, g3⟩ : ∃ x, doneM n ys 2 2 false = x := ⟨_, rfl⟩
  rw [g0, g1, g2, g3] at hln
  rw [g0] at Hr1
  rw [g1] at Hr2
  rw [g2] at Hr3
  rw [g3] at Hr4
  have HLN := Lib.hid hln
  have HR1 := Lib.hid Hr1
  have HR2 := Lib.hid Hr2
  have HR3 := Lib.hid Hr3
  have HR4 := Lib.hid Hr4
  clear hln Hr1 Hr2 Hr3 Hr4 g0 g1 g2 g3
  refine HLN.out.mono ?_
  rintro e w5 ⟨rfl, hb5⟩
  have HS5 := Lib.hid (HS4.out.next hb5)
  clear hb5 HS4 HLN b0 b1 HV4
  have a0 := HS5.out.a.c0
  have a1 := HS5.out.a.c1
  have hz5 := HS5.out.a.lt
  go_wp2_with fail
  obtain ⟨W5, hW5⟩ : ∃ W5, w5.alloc (.cells #[.int .i64 (x0 : Int), .int .i64 (x1 : Int), .int .i64 (x2 : Int), .int .i64 (x3 : Int)] 35) = W5 := ⟨_, rfl⟩
  have hQ : LBox4 W5 w5.heap.size x0 x1 x2 x3 := by rw [← hW5]; exact LBox4.new w5 x0 x1 x2 x3
  have hb5' : Below w5.heap.size w5 W5 := by rw [← hW5]; exact below1 w5 _
  have hS5 := HS5.out.next hb5'
  rw [hW5]
  obtain ⟨Bq, hBq⟩ : ∃ Bq, w5.heap.size = Bq := ⟨_, rfl⟩
  rw [hBq] at hQ ⊢
  have HQ := Lib.hid hQ
  have HS6 := Lib.hid hS5
  clear hQ hS5 hW5 a0 a1 HS5 hz5 hb5' hBq
  refine (HRC.out _ HS6.out.r).mono ?_
  rintro e w7 ⟨rfl, hb7⟩
  have HS7 := Lib.hid (HS6.out.next hb7)
  have HQ7 := Lib.hid (HQ.out.next hb7)
  clear hb7 HS6 HQ HRC
  have a0 := HS7.out.a.c0
  have a1 := HS7.out.a.c1
  have b0 := HS7.out.b.c0
  have b1 := HS7.out.b.c1
  go_wp2_with fail
  have Hsm := Same_any n n (some ⟨bb, bo, none⟩) (some ⟨b, off, none⟩) c2 c (ints ys) (ints ys) w7 (by rw [ints_len]; exact HS7.out.r2) (by rw [ints_len]; exact HS7.out.r)
  rw [show decide ((n : Int) = (n : Int) ∧ ints ys = ints ys) = true by simp] at Hsm
  simp only [ints_len] at Hsm
  have HSM := Lib.hid Hsm
  clear Hsm
  refine HSM.out.mono ?_
  rintro e w8 ⟨rfl, hb8⟩
  have HS8 := Lib.hid (HS7.out.next hb8)
  have HQ8 := Lib.hid (HQ7.out.next hb8)
  clear a0 a1 b0 b1 HSM hb8 HS7 HQ7
  have a0 := HS8.out.a.c0
  have a1 := HS8.out.a.c1
  have e1 : (al != 1) = true := by simpa using H1.out
  have e2 : (al != 2) = true := by simpa using H2.out
  go_wp2_with fail
  clear e1 e2
  have HZ0 : Hid (FK w Bq n b off c ys x0 x1 x2 x3 w8) := Lib.hid ⟨HS8.out.a, HQ8.out, HV.out.below HS8.out.below, HS8.out.below⟩
  have HZ : Hid (∀ W, FK w Bq n b off c ys x0 x1 x2 x3 W → (W.cell? ⟨w.heap.size, 0, none⟩ = some (.int .i64 (n : Int)) ∧ W.cell? ⟨w.heap.size, 1, none⟩ = some (.slice (some ⟨b, off, none⟩) ys.length c)) ∧ (W.cell? ⟨Bq, 0, none⟩ = some (.int .i64 (x0 : Int)) ∧ W.cell? ⟨Bq, 1, none⟩ = some (.int .i64 (x1 : Int)) ∧ W.cell? ⟨Bq, 2, none⟩ = some (.int .i64 (x2 : Int)) ∧ W.cell? ⟨Bq, 3, none⟩ = some (.int .i64 (x3 : Int))) ∧ FK w Bq n b off c ys x0 x1 x2 x3 W) :=
    Lib.hid fun W h => ⟨⟨h.a.c0, h.a.c1⟩, ⟨h.q.q0, h.q.q1, h.q.q2, h.q.q3⟩, h⟩
  clear HS8 HQ8 a0 a1
  go_region_held3 (fun W => (W.cell? ⟨w.heap.size, 0, none⟩ = some (.int .i64 (n : Int)) ∧ W.cell? ⟨w.heap.size, 1, none⟩ = some (.slice (some ⟨b, off, none⟩) ys.length c)) ∧ (W.cell? ⟨Bq, 0, none⟩ = some (.int .i64 (x0 : Int)) ∧ W.cell? ⟨Bq, 1, none⟩ = some (.int .i64 (x1 : Int)) ∧ W.cell? ⟨Bq, 2, none⟩ = some (.int .i64 (x2 : Int)) ∧ W.cell? ⟨Bq, 3, none⟩ = some (.int .i64 (x3 : Int))) ∧ FK w Bq n b off c ys x0 x1 x2 x3 W)
    ((first
      | exact HZ.out _ (HZ0.out.next (Below.refl _ _).drew)
      | (refine HZ.out _ (FK.next ?_ (by assumption)); go_split_ands; assumption)))
    ((first
      | (go_at_call 27; (with_reducible refine (HR1.out _ ?_).mono ?_); rotate_left 1; rintro e ws ⟨rfl, hbs⟩; rotate_left 1; (first | exact (HZ0.out.next (Below.refl _ _).drew).v | (go_split_ands; exact FK.v (by assumption))))
      | (go_at_call 27; (with_reducible refine (HR2.out _ ?_).mono ?_); rotate_left 1; rintro e ws ⟨rfl, hbs⟩; rotate_left 1; (first | exact (HZ0.out.next (Below.refl _ _).drew).v | (go_split_ands; exact FK.v (by assumption))))
      | (go_at_call 27; (with_reducible refine (HR3.out _ ?_).mono ?_); rotate_left 1; rintro e ws ⟨rfl, hbs⟩; rotate_left 1; (first | exact (HZ0.out.next (Below.refl _ _).drew).v | (go_split_ands; exact FK.v (by assumption))))
      | (go_at_call 27; (with_reducible refine (HR4.out _ ?_).mono ?_); rotate_left 1; rintro e ws ⟨rfl, hbs⟩; rotate_left 1; (first | exact (HZ0.out.next (Below.refl _ _).drew).v | (go_split_ands; exact FK.v (by assumption))))
      | (go_at_call 17; refine (known_any _).mono ?_; rintro e wk ⟨rfl, hbk⟩)))
  all_goals go_wp2_with fail
  all_goals go_ret
  all_goals (go_split_ands; exact ⟨ret_bool rfl, FK.below (by assumption)⟩)

set_option maxRecDepth 100000 in
set_option maxHeartbeats 8000000 in
theorem PointFloats_bound1 (n b off c : Nat) (ys : List Nat) (bd : Int) (w : World) (hva : VAt w b off c n ys) (h2 : bd < 0 ∨ 1000 < bd) :
    Calls Try.prog 3 #[.agg #[.int .i64 (n : Int), .slice (some ⟨b, off, none⟩) ys.length c], .int .i64 1, .int .i64 bd] w fun e w' => e = .returned (.bool true) ∧ Below w.heap.size w w' := by
  have l1 := hva.ok.l1
  have n1 := hva.ok.n1
  have hd : decide (70 < ys.length) = false := by simp; omega
  have Hlg := fun W h1 => large_len (some ⟨b, off, none⟩) ys.length c (w.heap.size + 1) W h1
  rw [hd] at Hlg
  have HV := Lib.hid hva
  have HR := Lib.hid hva.reads
  have H2 := Lib.hid h2
  clear h2
  have HL := Lib.hid Hlg
  clear hd Hlg hva
  go_enter Try.func3, Try.ntmps3
  go_wp2_with fail
  refine (HL.out _ ?_).mono ?_
  · have := (ArgBox.new (w.alloc (.cells #[.int .i64 (n : Int), .slice (some ⟨b, off, none⟩) ys.length c] 24)) (n : Int) (some ⟨b, off, none⟩) ys.length c).c1
    rw [World.size_alloc] at this
    exact this
  rintro e w1 ⟨rfl, rfl⟩
  obtain ⟨W1, hW1⟩ : ∃ W1, (w.alloc (.cells #[.int .i64 (n : Int), .slice (some ⟨b, off, none⟩) ys.length c] 24)).alloc (.cells #[.int .i64 (n : Int), .slice (some ⟨b, off, none⟩) ys.length c] 24) = W1 := ⟨_, rfl⟩
  have hA1 : ArgBox W1 w.heap.size (n : Int) (some ⟨b, off, none⟩) ys.length c := by rw [← hW1]; exact (ArgBox.new w (n : Int) (some ⟨b, off, none⟩) ys.length c).below (below1 _ _)
  have hb1 : Below w.heap.size w W1 := by rw [← hW1]; exact below2 w _ _
  have HR1 := Lib.hid (HR.out.below hb1)
  rw [hW1]
  have a0 := hA1.c0
  have a1 := hA1.c1
  have HA1 := Lib.hid hA1
  have HB1 := Lib.hid hb1
  have hown := own_any (n : Int) (some ⟨b, off, none⟩) c (ints ys) W1 (by rw [ints_len]; omega) (by rw [ints_len]; exact HR1.out)
  unfold CopyD at hown
  simp only [ints_len] at hown
  have HO := Lib.hid hown
  clear hW1 hA1 hb1 HL hown
  go_wp2_with fail
  refine HO.out.mono ?_
  rintro e w2 ⟨p2, c2, rfl, hr2, hb2⟩
  have HR2 := Lib.hid hr2
  have HB2 := Lib.hid hb2
  have hA2 := HA1.out.below hb2
  have b0 := hA2.c0
  have b1 := hA2.c1
  have hz2 := hA2.lt
  have HA2 := Lib.hid hA2
  clear hr2 hb2 hA2 a0 a1 HO
  go_wp2_with fail
  have hS : LS w w2.heap.size (n : Int) (some ⟨b, off, none⟩) p2 c c2 ys.length (ints ys) (w2.alloc (.cells #[.int .i64 (n : Int), .slice p2 ys.length c2] 24)) :=
    ⟨HA2.out.below (below1 _ _), ArgBox.new _ _ _ _ _, (HR1.out.below HB2.out).below (below1 _ _), HR2.out.below (below1 _ _), (HB1.out.trans (HB2.out.mono HB1.out.size)).trans ((below1 w2 _).mono (by have := HB1.out.size; have := HB2.out.size; omega))⟩
  obtain ⟨W2, hW2⟩ : ∃ W2, w2.alloc (.cells #[.int .i64 (n : Int), .slice p2 ys.length c2] 24) = W2 := ⟨_, rfl⟩
  rw [hW2] at hS ⊢
  have HS := Lib.hid hS
  clear hW2 hS HR2 HB2 HA2 HA1 HB1 HR1 HR b0 b1 hz2
  obtain ⟨bb, bo, rfl, hv2⟩ := vat_of_reads HS.out.r2 HV.out.ok
  have Hch := fun W (hr : Reads W (.slice (some ⟨bb, bo, none⟩) ys.length c2) (ints ys)) => Check_any n (.slice (some ⟨bb, bo, none⟩) ys.length c2) (ints ys) W hr
  have Hrc := fun W (hr : Reads W (.slice (some ⟨b, off, none⟩) ys.length c) (ints ys)) => refCheck_any n (.slice (some ⟨b, off, none⟩) ys.length c) (ints ys) W hr
  rw [HV.out.ok.check] at Hch Hrc
  have HCH := Lib.hid Hch
  have HRC := Lib.hid Hrc
  have HV2 := Lib.hid hv2
  clear Hch Hrc hv2
  refine (HCH.out _ HS.out.r2).mono ?_
  rintro e w3 ⟨rfl, hb3⟩
  have HS3 := Lib.hid (HS.out.next hb3)
  have HV3 := Lib.hid (HV2.out.below hb3)
  have b0 := HS3.out.b.c0
  have b1 := HS3.out.b.c1
  clear hb3 HS HCH HV2
  go_wp2_with fail
  have Hfl := Floats_bad n (some ⟨bb, bo, none⟩) c2 (ints ys) 1 bd 3 w3 (by rw [ints_len]; exact HV3.out.reads) HV.out.ok.check (.inr ⟨by omega, H2.out, rfl⟩)
  rw [ints_len] at Hfl
  have HFL := Lib.hid Hfl
  clear Hfl
  refine HFL.out.mono ?_
  rintro e w4 ⟨rfl, hb4⟩
  clear HFL
  have HS4 := Lib.hid (HS3.out.next hb4)
  have HV4 := Lib.hid (HV3.out.below hb4)
  clear hb4 HS3 HV3 b0 b1
  have b0 := HS4.out.b.c0
  have b1 := HS4.out.b.c1
  go_wp2_with fail
  have hln := Longest_ok n bb bo c2 ys w4 HV4.out
  have Hr1 := fun W (h : VAt W b off c n ys) => refLongest_any n b off c ys false false W h
  have Hr2 := fun W (h : VAt W b off c n ys) => refLongest_any n b off c ys false true W h
  have Hr3 := fun W (h : VAt W b off c n ys) => refLongest_any n b off c ys true true W h
  have Hr4 := fun W (h : VAt W b off c n ys) => refLongest_any n b off c ys true false W h
  simp only [Bool.false_eq_true, if_false, if_true] at Hr1 Hr2 Hr3 Hr4
  obtain ⟨x0, g0⟩ : ∃ x, doneM n ys 2 1 false = x := ⟨_, rfl⟩
  obtain ⟨x1, g1⟩ : ∃ x, doneM n ys 2 1 true = x := ⟨_, rfl⟩
  obtain ⟨x2, g2⟩ : ∃ x, doneM n ys 2 2 true = x := ⟨_, rfl⟩
  obtain ⟨x3, g3⟩ : ∃ x, doneM n ys 2 2 false = x := ⟨_, rfl⟩
  rw [g0, g1, g2, g3] at hln
  rw [g0] at Hr1
  rw [g1] at Hr2
  rw [g2] at Hr3
  rw [g3] at Hr4
  have HLN := Lib.hid hln
  have HR1 := Lib.hid Hr1
  have HR2 := Lib.hid Hr2
  have HR3 := Lib.hid Hr3
  have HR4 := Lib.hid Hr4
  clear hln Hr1 Hr2 Hr3 Hr4 g0 g1 g2 g3
  refine HLN.out.mono ?_
  rintro e w5 ⟨rfl, hb5⟩
  have HS5 := Lib.hid (HS4.out.next hb5)
  clear hb5 HS4 HLN b0 b1 HV4
  have a0 := HS5.out.a.c0
  have a1 := HS5.out.a.c1
  have hz5 := HS5.out.a.lt
  go_wp2_with fail
  obtain ⟨W5, hW5⟩ : ∃ W5, w5.alloc (.cells #[.int .i64 (x0 : Int), .int .i64 (x1 : Int), .int .i64 (x2 : Int), .int .i64 (x3 : Int)] 35) = W5 := ⟨_, rfl⟩
  have hQ : LBox4 W5 w5.heap.size x0 x1 x2 x3 := by rw [← hW5]; exact LBox4.new w5 x0 x1 x2 x3
  have hb5' : Below w5.heap.size w5 W5 := by rw [← hW5]; exact below1 w5 _
  have hS5 := HS5.out.next hb5'
  rw [hW5]
  obtain ⟨Bq, hBq⟩ : ∃ Bq, w5.heap.size = Bq := ⟨_, rfl⟩
  rw [hBq] at hQ ⊢
  have HQ := Lib.hid hQ
  have HS6 := Lib.hid hS5
  clear hQ hS5 hW5 a0 a1 HS5 hz5 hb5' hBq
  refine (HRC.out _ HS6.out.r).mono ?_
  rintro e w7 ⟨rfl, hb7⟩
  have HS7 := Lib.hid (HS6.out.next hb7)
  have HQ7 := Lib.hid (HQ.out.next hb7)
  clear hb7 HS6 HQ HRC
  have a0 := HS7.out.a.c0
  have a1 := HS7.out.a.c1
  have b0 := HS7.out.b.c0
  have b1 := HS7.out.b.c1
  go_wp2_with fail
  have Hsm := Same_any n n (some ⟨bb, bo, none⟩) (some ⟨b, off, none⟩) c2 c (ints ys) (ints ys) w7 (by rw [ints_len]; exact HS7.out.r2) (by rw [ints_len]; exact HS7.out.r)
  rw [show decide ((n : Int) = (n : Int) ∧ ints ys = ints ys) = true by simp] at Hsm
  simp only [ints_len] at Hsm
  have HSM := Lib.hid Hsm
  clear Hsm
  refine HSM.out.mono ?_
  rintro e w8 ⟨rfl, hb8⟩
  have HS8 := Lib.hid (HS7.out.next hb8)
  have HQ8 := Lib.hid (HQ7.out.next hb8)
  clear a0 a1 b0 b1 HSM hb8 HS7 HQ7
  have a0 := HS8.out.a.c0
  have a1 := HS8.out.a.c1
  have Hin := fun W => In_any bd 0 1000 W
  rw [show (decide (0 ≤ bd) && decide (bd ≤ 1000)) = false by have := H2.out; simp; omega] at Hin
  have HIN := Lib.hid Hin
  clear Hin
  go_wp2_with fail
  refine (HIN.out _).mono ?_
  rintro e w9 ⟨rfl, rfl⟩
  go_wp2_with fail
  have HZ0 : Hid (FK w Bq n b off c ys x0 x1 x2 x3 w8) := Lib.hid ⟨HS8.out.a, HQ8.out, HV.out.below HS8.out.below, HS8.out.below⟩
  have HZ : Hid (∀ W, FK w Bq n b off c ys x0 x1 x2 x3 W → (W.cell? ⟨w.heap.size, 0, none⟩ = some (.int .i64 (n : Int)) ∧ W.cell? ⟨w.heap.size, 1, none⟩ = some (.slice (some ⟨b, off, none⟩) ys.length c)) ∧ (W.cell? ⟨Bq, 0, none⟩ = some (.int .i64 (x0 : Int)) ∧ W.cell? ⟨Bq, 1, none⟩ = some (.int .i64 (x1 : Int)) ∧ W.cell? ⟨Bq, 2, none⟩ = some (.int .i64 (x2 : Int)) ∧ W.cell? ⟨Bq, 3, none⟩ = some (.int .i64 (x3 : Int))) ∧ FK w Bq n b off c ys x0 x1 x2 x3 W) :=
    Lib.hid fun W h => ⟨⟨h.a.c0, h.a.c1⟩, ⟨h.q.q0, h.q.q1, h.q.q2, h.q.q3⟩, h⟩
  clear HS8 HQ8 a0 a1
  go_region_held3 (fun W => (W.cell? ⟨w.heap.size, 0, none⟩ = some (.int .i64 (n : Int)) ∧ W.cell? ⟨w.heap.size, 1, none⟩ = some (.slice (some ⟨b, off, none⟩) ys.length c)) ∧ (W.cell? ⟨Bq, 0, none⟩ = some (.int .i64 (x0 : Int)) ∧ W.cell? ⟨Bq, 1, none⟩ = some (.int .i64 (x1 : Int)) ∧ W.cell? ⟨Bq, 2, none⟩ = some (.int .i64 (x2 : Int)) ∧ W.cell? ⟨Bq, 3, none⟩ = some (.int .i64 (x3 : Int))) ∧ FK w Bq n b off c ys x0 x1 x2 x3 W)
    ((first
      | exact HZ.out _ (HZ0.out.next (Below.refl _ _).drew)
      | (refine HZ.out _ (FK.next ?_ (by assumption)); go_split_ands; assumption)))
    ((first
      | (go_at_call 27; (with_reducible refine (HR1.out _ ?_).mono ?_); rotate_left 1; rintro e ws ⟨rfl, hbs⟩; rotate_left 1; (first | exact (HZ0.out.next (Below.refl _ _).drew).v | (go_split_ands; exact FK.v (by assumption))))
      | (go_at_call 27; (with_reducible refine (HR2.out _ ?_).mono ?_); rotate_left 1; rintro e ws ⟨rfl, hbs⟩; rotate_left 1; (first | exact (HZ0.out.next (Below.refl _ _).drew).v | (go_split_ands; exact FK.v (by assumption))))
      | (go_at_call 27; (with_reducible refine (HR3.out _ ?_).mono ?_); rotate_left 1; rintro e ws ⟨rfl, hbs⟩; rotate_left 1; (first | exact (HZ0.out.next (Below.refl _ _).drew).v | (go_split_ands; exact FK.v (by assumption))))
      | (go_at_call 27; (with_reducible refine (HR4.out _ ?_).mono ?_); rotate_left 1; rintro e ws ⟨rfl, hbs⟩; rotate_left 1; (first | exact (HZ0.out.next (Below.refl _ _).drew).v | (go_split_ands; exact FK.v (by assumption))))
      | (go_at_call 17; refine (known_any _).mono ?_; rintro e wk ⟨rfl, hbk⟩)))
  all_goals go_wp2_with fail
  all_goals go_ret
  all_goals (go_split_ands; exact ⟨ret_bool rfl, FK.below (by assumption)⟩)

set_option maxRecDepth 100000 in
set_option maxHeartbeats 8000000 in
theorem PointFloats_bound2 (n b off c : Nat) (ys : List Nat) (bd : Int) (w : World) (hva : VAt w b off c n ys) (h2 : bd < 0 ∨ 1000 < bd) :
    Calls Try.prog 3 #[.agg #[.int .i64 (n : Int), .slice (some ⟨b, off, none⟩) ys.length c], .int .i64 2, .int .i64 bd] w fun e w' => e = .returned (.bool true) ∧ Below w.heap.size w w' := by
  have l1 := hva.ok.l1
  have n1 := hva.ok.n1
  have hd : decide (70 < ys.length) = false := by simp; omega
  have Hlg := fun W h1 => large_len (some ⟨b, off, none⟩) ys.length c (w.heap.size + 1) W h1
  rw [hd] at Hlg
  have HV := Lib.hid hva
  have HR := Lib.hid hva.reads
  have H2 := Lib.hid h2
  clear h2
  have HL := Lib.hid Hlg
  clear hd Hlg hva
  go_enter Try.func3, Try.ntmps3
  go_wp2_with fail
  refine (HL.out _ ?_).mono ?_
  · have := (ArgBox.new (w.alloc (.cells #[.int .i64 (n : Int), .slice (some ⟨b, off, none⟩) ys.length c] 24)) (n : Int) (some ⟨b, off, none⟩) ys.length c).c1
    rw [World.size_alloc] at this
    exact this
  rintro e w1 ⟨rfl, rfl⟩
  obtain ⟨W1, hW1⟩ : ∃ W1, (w.alloc (.cells #[.int .i64 (n : Int), .slice (some ⟨b, off, none⟩) ys.length c] 24)).alloc (.cells #[.int .i64 (n : Int), .slice (some ⟨b, off, none⟩) ys.length c] 24) = W1 := ⟨_, rfl⟩
  have hA1 : ArgBox W1 w.heap.size (n : Int) (some ⟨b, off, none⟩) ys.length c := by rw [← hW1]; exact (ArgBox.new w (n : Int) (some ⟨b, off, none⟩) ys.length c).below (below1 _ _)
  have hb1 : Below w.heap.size w W1 := by rw [← hW1]; exact below2 w _ _
  have HR1 := Lib.hid (HR.out.below hb1)
  rw [hW1]
  have a0 := hA1.c0
  have a1 := hA1.c1
  have HA1 := Lib.hid hA1
  have HB1 := Lib.hid hb1
  have hown := own_any (n : Int) (some ⟨b, off, none⟩) c (ints ys) W1 (by rw [ints_len]; omega) (by rw [ints_len]; exact HR1.out)
  unfold CopyD at hown
  simp only [ints_len] at hown
  have HO := Lib.hid hown
  clear hW1 hA1 hb1 HL hown
  go_wp2_with fail
  refine HO.out.mono ?_
  rintro e w2 ⟨p2, c2, rfl, hr2, hb2⟩
  have HR2 := Lib.hid hr2
  have HB2 := Lib.hid hb2
  have hA2 := HA1.out.below hb2
  have b0 := hA2.c0
  have b1 := hA2.c1
  have hz2 := hA2.lt
  have HA2 := Lib.hid hA2
  clear hr2 hb2 hA2 a0 a1 HO
  go_wp2_with fail
  have hS : LS w w2.heap.size (n : Int) (some ⟨b, off, none⟩) p2 c c2 ys.length (ints ys) (w2.alloc (.cells #[.int .i64 (n : Int), .slice p2 ys.length c2] 24)) :=
    ⟨HA2.out.below (below1 _ _), ArgBox.new _ _ _ _ _, (HR1.out.below HB2.out).below (below1 _ _), HR2.out.below (below1 _ _), (HB1.out.trans (HB2.out.mono HB1.out.size)).trans ((below1 w2 _).mono (by have := HB1.out.size; have := HB2.out.size; omega))⟩
  obtain ⟨W2, hW2⟩ : ∃ W2, w2.alloc (.cells #[.int .i64 (n : Int), .slice p2 ys.length c2] 24) = W2 := ⟨_, rfl⟩
  rw [hW2] at hS ⊢
  have HS := Lib.hid hS
  clear hW2 hS HR2 HB2 HA2 HA1 HB1 HR1 HR b0 b1 hz2
  obtain ⟨bb, bo, rfl, hv2⟩ := vat_of_reads HS.out.r2 HV.out.ok
  have Hch := fun W (hr : Reads W (.slice (some ⟨bb, bo, none⟩) ys.length c2) (ints ys)) => Check_any n (.slice (some ⟨bb, bo, none⟩) ys.length c2) (ints ys) W hr
  have Hrc := fun W (hr : Reads W (.slice (some ⟨b, off, none⟩) ys.length c) (ints ys)) => refCheck_any n (.slice (some ⟨b, off, none⟩) ys.length c) (ints ys) W hr
  rw [HV.out.ok.check] at Hch Hrc
  have HCH := Lib.hid Hch
  have HRC := Lib.hid Hrc
  have HV2 := Lib.hid hv2
  clear Hch Hrc hv2
  refine (HCH.out _ HS.out.r2).mono ?_
  rintro e w3 ⟨rfl, hb3⟩
  have HS3 := Lib.hid (HS.out.next hb3)
  have HV3 := Lib.hid (HV2.out.below hb3)
  have b0 := HS3.out.b.c0
  have b1 := HS3.out.b.c1
  clear hb3 HS HCH HV2
  go_wp2_with fail
  have Hfl := Floats_bad n (some ⟨bb, bo, none⟩) c2 (ints ys) 2 bd 3 w3 (by rw [ints_len]; exact HV3.out.reads) HV.out.ok.check (.inr ⟨by omega, H2.out, rfl⟩)
  rw [ints_len] at Hfl
  have HFL := Lib.hid Hfl
  clear Hfl
  refine HFL.out.mono ?_
  rintro e w4 ⟨rfl, hb4⟩
  clear HFL
  have HS4 := Lib.hid (HS3.out.next hb4)
  have HV4 := Lib.hid (HV3.out.below hb4)
  clear hb4 HS3 HV3 b0 b1
  have b0 := HS4.out.b.c0
  have b1 := HS4.out.b.c1
  go_wp2_with fail
  have hln := Longest_ok n bb bo c2 ys w4 HV4.out
  have Hr1 := fun W (h : VAt W b off c n ys) => refLongest_any n b off c ys false false W h
  have Hr2 := fun W (h : VAt W b off c n ys) => refLongest_any n b off c ys false true W h
  have Hr3 := fun W (h : VAt W b off c n ys) => refLongest_any n b off c ys true true W h
  have Hr4 := fun W (h : VAt W b off c n ys) => refLongest_any n b off c ys true false W h
  simp only [Bool.false_eq_true, if_false, if_true] at Hr1 Hr2 Hr3 Hr4
  obtain ⟨x0, g0⟩ : ∃ x, doneM n ys 2 1 false = x := ⟨_, rfl⟩
  obtain ⟨x1, g1⟩ : ∃ x, doneM n ys 2 1 true = x := ⟨_, rfl⟩
  obtain ⟨x2, g2⟩ : ∃ x, doneM n ys 2 2 true = x := ⟨_, rfl⟩
  obtain ⟨x3, g3⟩ : ∃ x, doneM n ys 2 2 false = x := ⟨_, rfl⟩
  rw [g0, g1, g2, g3] at hln
  rw [g0] at Hr1
  rw [g1] at Hr2
  rw [g2] at Hr3
  rw [g3] at Hr4
  have HLN := Lib.hid hln
  have HR1 := Lib.hid Hr1
  have HR2 := Lib.hid Hr2
  have HR3 := Lib.hid Hr3
  have HR4 := Lib.hid Hr4
  clear hln Hr1 Hr2 Hr3 Hr4 g0 g1 g2 g3
  refine HLN.out.mono ?_
  rintro e w5 ⟨rfl, hb5⟩
  have HS5 := Lib.hid (HS4.out.next hb5)
  clear hb5 HS4 HLN b0 b1 HV4
  have a0 := HS5.out.a.c0
  have a1 := HS5.out.a.c1
  have hz5 := HS5.out.a.lt
  go_wp2_with fail
  obtain ⟨W5, hW5⟩ : ∃ W5, w5.alloc (.cells #[.int .i64 (x0 : Int), .int .i64 (x1 : Int), .int .i64 (x2 : Int), .int .i64 (x3 : Int)] 35) = W5 := ⟨_, rfl⟩
  have hQ : LBox4 W5 w5.heap.size x0 x1 x2 x3 := by rw [← hW5]; exact LBox4.new w5 x0 x1 x2 x3
  have hb5' : Below w5.heap.size w5 W5 := by rw [← hW5]; exact below1 w5 _
  have hS5 := HS5.out.next hb5'
  rw [hW5]
  obtain ⟨Bq, hBq⟩ : ∃ Bq, w5.heap.size = Bq := ⟨_, rfl⟩
  rw [hBq] at hQ ⊢
  have HQ := Lib.hid hQ
  have HS6 := Lib.hid hS5
  clear hQ hS5 hW5 a0 a1 HS5 hz5 hb5' hBq
  refine (HRC.out _ HS6.out.r).mono ?_
  rintro e w7 ⟨rfl, hb7⟩
  have HS7 := Lib.hid (HS6.out.next hb7)
  have HQ7 := Lib.hid (HQ.out.next hb7)
  clear hb7 HS6 HQ HRC
  have a0 := HS7.out.a.c0
  have a1 := HS7.out.a.c1
  have b0 := HS7.out.b.c0
  have b1 := HS7.out.b.c1
  go_wp2_with fail
  have Hsm := Same_any n n (some ⟨bb, bo, none⟩) (some ⟨b, off, none⟩) c2 c (ints ys) (ints ys) w7 (by rw [ints_len]; exact HS7.out.r2) (by rw [ints_len]; exact HS7.out.r)
  rw [show decide ((n : Int) = (n : Int) ∧ ints ys = ints ys) = true by simp] at Hsm
  simp only [ints_len] at Hsm
  have HSM := Lib.hid Hsm
  clear Hsm
  refine HSM.out.mono ?_
  rintro e w8 ⟨rfl, hb8⟩
  have HS8 := Lib.hid (HS7.out.next hb8)
  have HQ8 := Lib.hid (HQ7.out.next hb8)
  clear a0 a1 b0 b1 HSM hb8 HS7 HQ7
  have a0 := HS8.out.a.c0
  have a1 := HS8.out.a.c1
  have Hin := fun W => In_any bd 0 1000 W
  rw [show (decide (0 ≤ bd) && decide (bd ≤ 1000)) = false by have := H2.out; simp; omega] at Hin
  have HIN := Lib.hid Hin
  clear Hin
  go_wp2_with fail
  refine (HIN.out _).mono ?_
  rintro e w9 ⟨rfl, rfl⟩
  go_wp2_with fail
  have HZ0 : Hid (FK w Bq n b off c ys x0 x1 x2 x3 w8) := Lib.hid ⟨HS8.out.a, HQ8.out, HV.out.below HS8.out.below, HS8.out.below⟩
  have HZ : Hid (∀ W, FK w Bq n b off c ys x0 x1 x2 x3 W → (W.cell? ⟨w.heap.size, 0, none⟩ = some (.int .i64 (n : Int)) ∧ W.cell? ⟨w.heap.size, 1, none⟩ = some (.slice (some ⟨b, off, none⟩) ys.length c)) ∧ (W.cell? ⟨Bq, 0, none⟩ = some (.int .i64 (x0 : Int)) ∧ W.cell? ⟨Bq, 1, none⟩ = some (.int .i64 (x1 : Int)) ∧ W.cell? ⟨Bq, 2, none⟩ = some (.int .i64 (x2 : Int)) ∧ W.cell? ⟨Bq, 3, none⟩ = some (.int .i64 (x3 : Int))) ∧ FK w Bq n b off c ys x0 x1 x2 x3 W) :=
    Lib.hid fun W h => ⟨⟨h.a.c0, h.a.c1⟩, ⟨h.q.q0, h.q.q1, h.q.q2, h.q.q3⟩, h⟩
  clear HS8 HQ8 a0 a1
  go_region_held3 (fun W => (W.cell? ⟨w.heap.size, 0, none⟩ = some (.int .i64 (n : Int)) ∧ W.cell? ⟨w.heap.size, 1, none⟩ = some (.slice (some ⟨b, off, none⟩) ys.length c)) ∧ (W.cell? ⟨Bq, 0, none⟩ = some (.int .i64 (x0 : Int)) ∧ W.cell? ⟨Bq, 1, none⟩ = some (.int .i64 (x1 : Int)) ∧ W.cell? ⟨Bq, 2, none⟩ = some (.int .i64 (x2 : Int)) ∧ W.cell? ⟨Bq, 3, none⟩ = some (.int .i64 (x3 : Int))) ∧ FK w Bq n b off c ys x0 x1 x2 x3 W)
    ((first
      | exact HZ.out _ (HZ0.out.next (Below.refl _ _).drew)
      | (refine HZ.out _ (FK.next ?_ (by assumption)); go_split_ands; assumption)))
    ((first
      | (go_at_call 27; (with_reducible refine (HR1.out _ ?_).mono ?_); rotate_left 1; rintro e ws ⟨rfl, hbs⟩; rotate_left 1; (first | exact (HZ0.out.next (Below.refl _ _).drew).v | (go_split_ands; exact FK.v (by assumption))))
      | (go_at_call 27; (with_reducible refine (HR2.out _ ?_).mono ?_); rotate_left 1; rintro e ws ⟨rfl, hbs⟩; rotate_left 1; (first | exact (HZ0.out.next (Below.refl _ _).drew).v | (go_split_ands; exact FK.v (by assumption))))
      | (go_at_call 27; (with_reducible refine (HR3.out _ ?_).mono ?_); rotate_left 1; rintro e ws ⟨rfl, hbs⟩; rotate_left 1; (first | exact (HZ0.out.next (Below.refl _ _).drew).v | (go_split_ands; exact FK.v (by assumption))))
      | (go_at_call 27; (with_reducible refine (HR4.out _ ?_).mono ?_); rotate_left 1; rintro e ws ⟨rfl, hbs⟩; rotate_left 1; (first | exact (HZ0.out.next (Below.refl _ _).drew).v | (go_split_ands; exact FK.v (by assumption))))
      | (go_at_call 17; refine (known_any _).mono ?_; rintro e wk ⟨rfl, hbk⟩)))
  all_goals go_wp2_with fail
  all_goals go_ret
  all_goals (go_split_ands; exact ⟨ret_bool rfl, FK.below (by assumption)⟩)

set_option maxRecDepth 100000 in
set_option maxHeartbeats 8000000 in
theorem PointFloats_weft (n b off c : Nat) (ys : List Nat) (m : Nat) (w : World) (hva : VAt w b off c n ys) (hm : m ≤ 1000) :
    Calls Try.prog 3 #[.agg #[.int .i64 (n : Int), .slice (some ⟨b, off, none⟩) ys.length c], .int .i64 1, .int .i64 (m : Int)] w fun e w' => e = .returned (.bool true) ∧ Below w.heap.size w w' := by
  have l1 := hva.ok.l1
  have n1 := hva.ok.n1
  have hd : decide (70 < ys.length) = false := by simp; omega
  have Hlg := fun W h1 => large_len (some ⟨b, off, none⟩) ys.length c (w.heap.size + 1) W h1
  rw [hd] at Hlg
  have HV := Lib.hid hva
  have HR := Lib.hid hva.reads
  have HL := Lib.hid Hlg
  clear hd Hlg hva
  go_enter Try.func3, Try.ntmps3
  go_wp2_with fail
  refine (HL.out _ ?_).mono ?_
  · have := (ArgBox.new (w.alloc (.cells #[.int .i64 (n : Int), .slice (some ⟨b, off, none⟩) ys.length c] 24)) (n : Int) (some ⟨b, off, none⟩) ys.length c).c1
    rw [World.size_alloc] at this
    exact this
  rintro e w1 ⟨rfl, rfl⟩
  obtain ⟨W1, hW1⟩ : ∃ W1, (w.alloc (.cells #[.int .i64 (n : Int), .slice (some ⟨b, off, none⟩) ys.length c] 24)).alloc (.cells #[.int .i64 (n : Int), .slice (some ⟨b, off, none⟩) ys.length c] 24) = W1 := ⟨_, rfl⟩
  have hA1 : ArgBox W1 w.heap.size (n : Int) (some ⟨b, off, none⟩) ys.length c := by rw [← hW1]; exact (ArgBox.new w (n : Int) (some ⟨b, off, none⟩) ys.length c).below (below1 _ _)
  have hb1 : Below w.heap.size w W1 := by rw [← hW1]; exact below2 w _ _
  have HR1 := Lib.hid (HR.out.below hb1)
  rw [hW1]
  have a0 := hA1.c0
  have a1 := hA1.c1
  have HA1 := Lib.hid hA1
  have HB1 := Lib.hid hb1
  have hown := own_any (n : Int) (some ⟨b, off, none⟩) c (ints ys) W1 (by rw [ints_len]; omega) (by rw [ints_len]; exact HR1.out)
  unfold CopyD at hown
  simp only [ints_len] at hown
  have HO := Lib.hid hown
  clear hW1 hA1 hb1 HL hown
  go_wp2_with fail
  refine HO.out.mono ?_
  rintro e w2 ⟨p2, c2, rfl, hr2, hb2⟩
  have HR2 := Lib.hid hr2
  have HB2 := Lib.hid hb2
  have hA2 := HA1.out.below hb2
  have b0 := hA2.c0
  have b1 := hA2.c1
  have hz2 := hA2.lt
  have HA2 := Lib.hid hA2
  clear hr2 hb2 hA2 a0 a1 HO
  go_wp2_with fail
  have hS : LS w w2.heap.size (n : Int) (some ⟨b, off, none⟩) p2 c c2 ys.length (ints ys) (w2.alloc (.cells #[.int .i64 (n : Int), .slice p2 ys.length c2] 24)) :=
    ⟨HA2.out.below (below1 _ _), ArgBox.new _ _ _ _ _, (HR1.out.below HB2.out).below (below1 _ _), HR2.out.below (below1 _ _), (HB1.out.trans (HB2.out.mono HB1.out.size)).trans ((below1 w2 _).mono (by have := HB1.out.size; have := HB2.out.size; omega))⟩
  obtain ⟨W2, hW2⟩ : ∃ W2, w2.alloc (.cells #[.int .i64 (n : Int), .slice p2 ys.length c2] 24) = W2 := ⟨_, rfl⟩
  rw [hW2] at hS ⊢
  have HS := Lib.hid hS
  clear hW2 hS HR2 HB2 HA2 HA1 HB1 HR1 HR b0 b1 hz2
  obtain ⟨bb, bo, rfl, hv2⟩ := vat_of_reads HS.out.r2 HV.out.ok
  have Hch := fun W (hr : Reads W (.slice (some ⟨bb, bo, none⟩) ys.length c2) (ints ys)) => Check_any n (.slice (some ⟨bb, bo, none⟩) ys.length c2) (ints ys) W hr
  have Hrc := fun W (hr : Reads W (.slice (some ⟨b, off, none⟩) ys.length c) (ints ys)) => refCheck_any n (.slice (some ⟨b, off, none⟩) ys.length c) (ints ys) W hr
  rw [HV.out.ok.check] at Hch Hrc
  have HCH := Lib.hid Hch
  have HRC := Lib.hid Hrc
  have HV2 := Lib.hid hv2
  clear Hch Hrc hv2
  refine (HCH.out _ HS.out.r2).mono ?_
  rintro e w3 ⟨rfl, hb3⟩
  have HS3 := Lib.hid (HS.out.next hb3)
  have HV3 := Lib.hid (HV2.out.below hb3)
  have b0 := HS3.out.b.c0
  have b1 := HS3.out.b.c1
  clear hb3 HS HCH HV2
  go_wp2_with fail
  have Hfl := FloatsW_ok n bb bo c2 ys m w3 HV3.out hm
  obtain ⟨fs, hfs⟩ : ∃ fs, upTo (flW n ys m) ys.length = fs := ⟨_, rfl⟩
  have hfn : fs.length ≤ 100000 := by rw [← hfs]; have := flW_all_len n ys m HV.out.ok.n0 n1 l1; omega
  have Hrf := fun W (h : VAt W b off c n ys) => refFloatsW_any n b off c ys m W h
  rw [hfs] at Hfl Hrf
  have HRF := Lib.hid Hrf
  have HFL := Lib.hid Hfl
  clear Hfl Hrf hfs
  refine HFL.out.mono ?_
  rintro e w4 ⟨v4, rfl, hrow4, hb4⟩
  obtain ⟨p4, cap4, rfl, hF4⟩ := Fls.of_row hrow4
  have HF4 := Lib.hid hF4
  clear HFL hrow4 hF4
  have HS4 := Lib.hid (HS3.out.next hb4)
  have HV4 := Lib.hid (HV3.out.below hb4)
  clear hb4 HS3 HV3 b0 b1
  have b0 := HS4.out.b.c0
  have b1 := HS4.out.b.c1
  go_wp2_with fail
  have hln := Longest_ok n bb bo c2 ys w4 HV4.out
  have Hr1 := fun W (h : VAt W b off c n ys) => refLongest_any n b off c ys false false W h
  have Hr2 := fun W (h : VAt W b off c n ys) => refLongest_any n b off c ys false true W h
  have Hr3 := fun W (h : VAt W b off c n ys) => refLongest_any n b off c ys true true W h
  have Hr4 := fun W (h : VAt W b off c n ys) => refLongest_any n b off c ys true false W h
  simp only [Bool.false_eq_true, if_false, if_true] at Hr1 Hr2 Hr3 Hr4
  obtain ⟨x0, g0⟩ : ∃ x, doneM n ys 2 1 false = x := ⟨_, rfl⟩
  obtain ⟨x1, g1⟩ : ∃ x, doneM n ys 2 1 true = x := ⟨_, rfl⟩
  obtain ⟨x2, g2⟩ : ∃ x, doneM n ys 2 2 true = x := ⟨_, rfl⟩
  obtain ⟨x3, g3⟩ : ∃ x, doneM n ys 2 2 false = x := ⟨_, rfl⟩
  rw [g0, g1, g2, g3] at hln
  rw [g0] at Hr1
  rw [g1] at Hr2
  rw [g2] at Hr3
  rw [g3] at Hr4
  have HLN := Lib.hid hln
  have HR1 := Lib.hid Hr1
  have HR2 := Lib.hid Hr2
  have HR3 := Lib.hid Hr3
  have HR4 := Lib.hid Hr4
  clear hln Hr1 Hr2 Hr3 Hr4 g0 g1 g2 g3
  refine HLN.out.mono ?_
  rintro e w5 ⟨rfl, hb5⟩
  have HS5 := Lib.hid (HS4.out.next hb5)
  have HK5 := Lib.hid hb5
  clear hb5 HS4 HLN b0 b1 HV4
  have a0 := HS5.out.a.c0
  have a1 := HS5.out.a.c1
  have hz5 := HS5.out.a.lt
  go_wp2_with fail
  obtain ⟨W5, hW5⟩ : ∃ W5, w5.alloc (.cells #[.int .i64 (x0 : Int), .int .i64 (x1 : Int), .int .i64 (x2 : Int), .int .i64 (x3 : Int)] 35) = W5 := ⟨_, rfl⟩
  have hQ : LBox4 W5 w5.heap.size x0 x1 x2 x3 := by rw [← hW5]; exact LBox4.new w5 x0 x1 x2 x3
  have hb5' : Below w5.heap.size w5 W5 := by rw [← hW5]; exact below1 w5 _
  have hS5 := HS5.out.next hb5'
  have HK6 := Lib.hid (below_thru HK5.out hb5')
  rw [hW5]
  obtain ⟨Bq, hBq⟩ : ∃ Bq, w5.heap.size = Bq := ⟨_, rfl⟩
  rw [hBq] at hQ ⊢
  have HQ := Lib.hid hQ
  have HS6 := Lib.hid hS5
  clear hQ hS5 hW5 a0 a1 HS5 hz5 hb5' hBq
  refine (HRC.out _ HS6.out.r).mono ?_
  rintro e w7 ⟨rfl, hb7⟩
  have HS7 := Lib.hid (HS6.out.next hb7)
  have HQ7 := Lib.hid (HQ.out.next hb7)
  have HK7 := Lib.hid (below_thru HK6.out hb7)
  clear hb7 HS6 HQ HRC
  have a0 := HS7.out.a.c0
  have a1 := HS7.out.a.c1
  have b0 := HS7.out.b.c0
  have b1 := HS7.out.b.c1
  go_wp2_with fail
  have Hsm := Same_any n n (some ⟨bb, bo, none⟩) (some ⟨b, off, none⟩) c2 c (ints ys) (ints ys) w7 (by rw [ints_len]; exact HS7.out.r2) (by rw [ints_len]; exact HS7.out.r)
  rw [show decide ((n : Int) = (n : Int) ∧ ints ys = ints ys) = true by simp] at Hsm
  simp only [ints_len] at Hsm
  have HSM := Lib.hid Hsm
  clear Hsm
  refine HSM.out.mono ?_
  rintro e w8 ⟨rfl, hb8⟩
  have HS8 := Lib.hid (HS7.out.next hb8)
  have HQ8 := Lib.hid (HQ7.out.next hb8)
  have HK8 := Lib.hid (below_thru HK7.out hb8)
  clear a0 a1 b0 b1 HSM hb8 HS7 HQ7
  have a0 := HS8.out.a.c0
  have a1 := HS8.out.a.c1
  have Hin := fun W => In_any (m : Int) 0 1000 W
  rw [show (decide ((0 : Int) ≤ (m : Int)) && decide ((m : Int) ≤ 1000)) = true by simp; omega] at Hin
  have HIN := Lib.hid Hin
  clear Hin
  go_wp2_with fail
  refine (HIN.out _).mono ?_
  rintro e w9 ⟨rfl, rfl⟩
  go_wp2_with fail
  refine (HRF.out w8 (HV.out.below HS8.out.below)).mono ?_
  rintro e w9 ⟨v9, rfl, hrow9, hb9⟩
  obtain ⟨p9, cap9, rfl, hF9⟩ := Fls.of_row hrow9
  have HS9 := Lib.hid (HS8.out.next hb9)
  have HQ9 := Lib.hid (HQ8.out.next hb9)
  have HK9 := Lib.hid (below_thru HK8.out hb9)
  have HF9 := Lib.hid hF9
  clear hb9 hrow9 hF9 HS8 HQ8 HK8 a0 a1 HRF
  go_wp2_with fail
  refine (Alike_same p4 p9 cap4 cap9 fs w9 hfn (fun h0 => by obtain ⟨g, e, hf⟩ := HF4.out h0; exact ⟨g, e, hf.below HK9.out hf.lt⟩) HF9.out).mono ?_
  rintro e w10 ⟨rfl, hb10⟩
  have HS10 := Lib.hid (HS9.out.next hb10)
  have HQ10 := Lib.hid (HQ9.out.next hb10)
  clear hb10 HS9 HQ9 HK9 HF9
  have a0 := HS10.out.a.c0
  have a1 := HS10.out.a.c1
  go_wp2_with fail
  have HZ0 : Hid (FK w Bq n b off c ys x0 x1 x2 x3 w10) := Lib.hid ⟨HS10.out.a, HQ10.out, HV.out.below HS10.out.below, HS10.out.below⟩
  have HZ : Hid (∀ W, FK w Bq n b off c ys x0 x1 x2 x3 W → (W.cell? ⟨w.heap.size, 0, none⟩ = some (.int .i64 (n : Int)) ∧ W.cell? ⟨w.heap.size, 1, none⟩ = some (.slice (some ⟨b, off, none⟩) ys.length c)) ∧ (W.cell? ⟨Bq, 0, none⟩ = some (.int .i64 (x0 : Int)) ∧ W.cell? ⟨Bq, 1, none⟩ = some (.int .i64 (x1 : Int)) ∧ W.cell? ⟨Bq, 2, none⟩ = some (.int .i64 (x2 : Int)) ∧ W.cell? ⟨Bq, 3, none⟩ = some (.int .i64 (x3 : Int))) ∧ FK w Bq n b off c ys x0 x1 x2 x3 W) :=
    Lib.hid fun W h => ⟨⟨h.a.c0, h.a.c1⟩, ⟨h.q.q0, h.q.q1, h.q.q2, h.q.q3⟩, h⟩
  clear HS10 HQ10 a0 a1
  go_region_held3 (fun W => (W.cell? ⟨w.heap.size, 0, none⟩ = some (.int .i64 (n : Int)) ∧ W.cell? ⟨w.heap.size, 1, none⟩ = some (.slice (some ⟨b, off, none⟩) ys.length c)) ∧ (W.cell? ⟨Bq, 0, none⟩ = some (.int .i64 (x0 : Int)) ∧ W.cell? ⟨Bq, 1, none⟩ = some (.int .i64 (x1 : Int)) ∧ W.cell? ⟨Bq, 2, none⟩ = some (.int .i64 (x2 : Int)) ∧ W.cell? ⟨Bq, 3, none⟩ = some (.int .i64 (x3 : Int))) ∧ FK w Bq n b off c ys x0 x1 x2 x3 W)
    ((first
      | exact HZ.out _ (HZ0.out.next (Below.refl _ _).drew)
      | (refine HZ.out _ (FK.next ?_ (by assumption)); go_split_ands; assumption)))
    ((first
      | (go_at_call 27; (with_reducible refine (HR1.out _ ?_).mono ?_); rotate_left 1; rintro e ws ⟨rfl, hbs⟩; rotate_left 1; (first | exact (HZ0.out.next (Below.refl _ _).drew).v | (go_split_ands; exact FK.v (by assumption))))
      | (go_at_call 27; (with_reducible refine (HR2.out _ ?_).mono ?_); rotate_left 1; rintro e ws ⟨rfl, hbs⟩; rotate_left 1; (first | exact (HZ0.out.next (Below.refl _ _).drew).v | (go_split_ands; exact FK.v (by assumption))))
      | (go_at_call 27; (with_reducible refine (HR3.out _ ?_).mono ?_); rotate_left 1; rintro e ws ⟨rfl, hbs⟩; rotate_left 1; (first | exact (HZ0.out.next (Below.refl _ _).drew).v | (go_split_ands; exact FK.v (by assumption))))
      | (go_at_call 27; (with_reducible refine (HR4.out _ ?_).mono ?_); rotate_left 1; rintro e ws ⟨rfl, hbs⟩; rotate_left 1; (first | exact (HZ0.out.next (Below.refl _ _).drew).v | (go_split_ands; exact FK.v (by assumption))))
      | (go_at_call 17; refine (known_any _).mono ?_; rintro e wk ⟨rfl, hbk⟩)))
  all_goals go_wp2_with fail
  all_goals go_ret
  all_goals (go_split_ands; exact ⟨ret_bool rfl, FK.below (by assumption)⟩)

set_option maxRecDepth 100000 in
set_option maxHeartbeats 8000000 in
theorem PointFloats_warp (n b off c : Nat) (ys : List Nat) (m : Nat) (w : World) (hva : VAt w b off c n ys) (hm : m ≤ 1000) :
    Calls Try.prog 3 #[.agg #[.int .i64 (n : Int), .slice (some ⟨b, off, none⟩) ys.length c], .int .i64 2, .int .i64 (m : Int)] w fun e w' => e = .returned (.bool true) ∧ Below w.heap.size w w' := by
  have l1 := hva.ok.l1
  have n1 := hva.ok.n1
  have hd : decide (70 < ys.length) = false := by simp; omega
  have Hlg := fun W h1 => large_len (some ⟨b, off, none⟩) ys.length c (w.heap.size + 1) W h1
  rw [hd] at Hlg
  have HV := Lib.hid hva
  have HR := Lib.hid hva.reads
  have HL := Lib.hid Hlg
  clear hd Hlg hva
  go_enter Try.func3, Try.ntmps3
  go_wp2_with fail
  refine (HL.out _ ?_).mono ?_
  · have := (ArgBox.new (w.alloc (.cells #[.int .i64 (n : Int), .slice (some ⟨b, off, none⟩) ys.length c] 24)) (n : Int) (some ⟨b, off, none⟩) ys.length c).c1
    rw [World.size_alloc] at this
    exact this
  rintro e w1 ⟨rfl, rfl⟩
  obtain ⟨W1, hW1⟩ : ∃ W1, (w.alloc (.cells #[.int .i64 (n : Int), .slice (some ⟨b, off, none⟩) ys.length c] 24)).alloc (.cells #[.int .i64 (n : Int), .slice (some ⟨b, off, none⟩) ys.length c] 24) = W1 := ⟨_, rfl⟩
  have hA1 : ArgBox W1 w.heap.size (n : Int) (some ⟨b, off, none⟩) ys.length c := by rw [← hW1]; exact (ArgBox.new w (n : Int) (some ⟨b, off, none⟩) ys.length c).below (below1 _ _)
  have hb1 : Below w.heap.size w W1 := by rw [← hW1]; exact below2 w _ _
  have HR1 := Lib.hid (HR.out.below hb1)
  rw [hW1]
  have a0 := hA1.c0
  have a1 := hA1.c1
  have HA1 := Lib.hid hA1
  have HB1 := Lib.hid hb1
  have hown := own_any (n : Int) (some ⟨b, off, none⟩) c (ints ys) W1 (by rw [ints_len]; omega) (by rw [ints_len]; exact HR1.out)
  unfold CopyD at hown
  simp only [ints_len] at hown
  have HO := Lib.hid hown
  clear hW1 hA1 hb1 HL hown
  go_wp2_with fail
  refine HO.out.mono ?_
  rintro e w2 ⟨p2, c2, rfl, hr2, hb2⟩
  have HR2 := Lib.hid hr2
  have HB2 := Lib.hid hb2
  have hA2 := HA1.out.below hb2
  have b0 := hA2.c0
  have b1 := hA2.c1
  have hz2 := hA2.lt
  have HA2 := Lib.hid hA2
  clear hr2 hb2 hA2 a0 a1 HO
  go_wp2_with fail
  have hS : LS w w2.heap.size (n : Int) (some ⟨b, off, none⟩) p2 c c2 ys.length (ints ys) (w2.alloc (.cells #[.int .i64 (n : Int), .slice p2 ys.length c2] 24)) :=
    ⟨HA2.out.below (below1 _ _), ArgBox.new _ _ _ _ _, (HR1.out.below HB2.out).below (below1 _ _), HR2.out.below (below1 _ _), (HB1.out.trans (HB2.out.mono HB1.out.size)).trans ((below1 w2 _).mono (by have := HB1.out.size; have := HB2.out.size; omega))⟩
  obtain ⟨W2, hW2⟩ : ∃ W2, w2.alloc (.cells #[.int .i64 (n : Int), .slice p2 ys.length c2] 24) = W2 := ⟨_, rfl⟩
  rw [hW2] at hS ⊢
  have HS := Lib.hid hS
  clear hW2 hS HR2 HB2 HA2 HA1 HB1 HR1 HR b0 b1 hz2
  obtain ⟨bb, bo, rfl, hv2⟩ := vat_of_reads HS.out.r2 HV.out.ok
  have Hch := fun W (hr : Reads W (.slice (some ⟨bb, bo, none⟩) ys.length c2) (ints ys)) => Check_any n (.slice (some ⟨bb, bo, none⟩) ys.length c2) (ints ys) W hr
  have Hrc := fun W (hr : Reads W (.slice (some ⟨b, off, none⟩) ys.length c) (ints ys)) => refCheck_any n (.slice (some ⟨b, off, none⟩) ys.length c) (ints ys) W hr
  rw [HV.out.ok.check] at Hch Hrc
  have HCH := Lib.hid Hch
  have HRC := Lib.hid Hrc
  have HV2 := Lib.hid hv2
  clear Hch Hrc hv2
  refine (HCH.out _ HS.out.r2).mono ?_
  rintro e w3 ⟨rfl, hb3⟩
  have HS3 := Lib.hid (HS.out.next hb3)
  have HV3 := Lib.hid (HV2.out.below hb3)
  have b0 := HS3.out.b.c0
  have b1 := HS3.out.b.c1
  clear hb3 HS HCH HV2
  go_wp2_with fail
  have Hfl := FloatsH_ok n bb bo c2 ys m w3 HV3.out hm
  obtain ⟨fs, hfs⟩ : ∃ fs, upTo (flH ys m) n = fs := ⟨_, rfl⟩
  have hfn : fs.length ≤ 100000 := by rw [← hfs]; have := flH_all_len n ys m n1 HV.out.ok.l0 l1; omega
  have Hrf := fun W (h : VAt W b off c n ys) => refFloatsH_any n b off c ys m W h
  rw [hfs] at Hfl Hrf
  have HRF := Lib.hid Hrf
  have HFL := Lib.hid Hfl
  clear Hfl Hrf hfs
  refine HFL.out.mono ?_
  rintro e w4 ⟨v4, rfl, hrow4, hb4⟩
  obtain ⟨p4, cap4, rfl, hF4⟩ := Fls.of_row hrow4
  have HF4 := Lib.hid hF4
  clear HFL hrow4 hF4
  have HS4 := Lib.hid (HS3.out.next hb4)
  have HV4 := Lib.hid (HV3.out.below hb4)
  clear hb4 HS3 HV3 b0 b1
  have b0 := HS4.out.b.c0
  have b1 := HS4.out.b.c1
  go_wp2_with fail
  have hln := Longest_ok n bb bo c2 ys w4 HV4.out
  have Hr1 := fun W (h : VAt W b off c n ys) => refLongest_any n b off c ys false false W h
  have Hr2 := fun W (h : VAt W b off c n ys) => refLongest_any n b off c ys false true W h
  have Hr3 := fun W (h : VAt W b off c n ys) => refLongest_any n b off c ys true true W h
  have Hr4 := fun W (h : VAt W b off c n ys) => refLongest_any n b off c ys true false W h
  simp only [Bool.false_eq_true, if_false, if_true] at Hr1 Hr2 Hr3 Hr4
  obtain ⟨x0, g0⟩ : ∃ x, doneM n ys 2 1 false = x := ⟨_, rfl⟩
  obtain ⟨x1, g1⟩ : ∃ x, doneM n ys 2 1 true = x := ⟨_, rfl⟩
  obtain ⟨x2, g2⟩ : ∃ x, doneM n ys 2 2 true = x := ⟨_, rfl⟩
  obtain ⟨x3, g3⟩ : ∃ x, doneM n ys 2 2 false = x := ⟨_, rfl⟩
  rw [g0, g1, g2, g3] at hln
  rw [g0] at Hr1
  rw [g1] at Hr2
  rw [g2] at Hr3
  rw [g3] at Hr4
  have HLN := Lib.hid hln
  have HR1 := Lib.hid Hr1
  have HR2 := Lib.hid Hr2
  have HR3 := Lib.hid Hr3
  have HR4 := Lib.hid Hr4
  clear hln Hr1 Hr2 Hr3 Hr4 g0 g1 g2 g3
  refine HLN.out.mono ?_
  rintro e w5 ⟨rfl, hb5⟩
  have HS5 := Lib.hid (HS4.out.next hb5)
  have HK5 := Lib.hid hb5
  clear hb5 HS4 HLN b0 b1 HV4
  have a0 := HS5.out.a.c0
  have a1 := HS5.out.a.c1
  have hz5 := HS5.out.a.lt
  go_wp2_with fail
  obtain ⟨W5, hW5⟩ : ∃ W5, w5.alloc (.cells #[.int .i64 (x0 : Int), .int .i64 (x1 : Int), .int .i64 (x2 : Int), .int .i64 (x3 : Int)] 35) = W5 := ⟨_, rfl⟩
  have hQ : LBox4 W5 w5.heap.size x0 x1 x2 x3 := by rw [← hW5]; exact LBox4.new w5 x0 x1 x2 x3
  have hb5' : Below w5.heap.size w5 W5 := by rw [← hW5]; exact below1 w5 _
  have hS5 := HS5.out.next hb5'
  have HK6 := Lib.hid (below_thru HK5.out hb5')
  rw [hW5]
  obtain ⟨Bq, hBq⟩ : ∃ Bq, w5.heap.size = Bq := ⟨_, rfl⟩
  rw [hBq] at hQ ⊢
  have HQ := Lib.hid hQ
  have HS6 := Lib.hid hS5
  clear hQ hS5 hW5 a0 a1 HS5 hz5 hb5' hBq
  refine (HRC.out _ HS6.out.r).mono ?_
  rintro e w7 ⟨rfl, hb7⟩
  have HS7 := Lib.hid (HS6.out.next hb7)
  have HQ7 := Lib.hid (HQ.out.next hb7)
  have HK7 := Lib.hid (below_thru HK6.out hb7)
  clear hb7 HS6 HQ HRC
  have a0 := HS7.out.a.c0
  have a1 := HS7.out.a.c1
  have b0 := HS7.out.b.c0
  have b1 := HS7.out.b.c1
  go_wp2_with fail
  have Hsm := Same_any n n (some ⟨bb, bo, none⟩) (some ⟨b, off, none⟩) c2 c (ints ys) (ints ys) w7 (by rw [ints_len]; exact HS7.out.r2) (by rw [ints_len]; exact HS7.out.r)
  rw [show decide ((n : Int) = (n : Int) ∧ ints ys = ints ys) = true by simp] at Hsm
  simp only [ints_len] at Hsm
  have HSM := Lib.hid Hsm
  clear Hsm
  refine HSM.out.mono ?_
  rintro e w8 ⟨rfl, hb8⟩
  have HS8 := Lib.hid (HS7.out.next hb8)
  have HQ8 := Lib.hid (HQ7.out.next hb8)
  have HK8 := Lib.hid (below_thru HK7.out hb8)
  clear a0 a1 b0 b1 HSM hb8 HS7 HQ7
  have a0 := HS8.out.a.c0
  have a1 := HS8.out.a.c1
  have Hin := fun W => In_any (m : Int) 0 1000 W
  rw [show (decide ((0 : Int) ≤ (m : Int)) && decide ((m : Int) ≤ 1000)) = true by simp; omega] at Hin
  have HIN := Lib.hid Hin
  clear Hin
  go_wp2_with fail
  refine (HIN.out _).mono ?_
  rintro e w9 ⟨rfl, rfl⟩
  go_wp2_with fail
  refine (HRF.out w8 (HV.out.below HS8.out.below)).mono ?_
  rintro e w9 ⟨v9, rfl, hrow9, hb9⟩
  obtain ⟨p9, cap9, rfl, hF9⟩ := Fls.of_row hrow9
  have HS9 := Lib.hid (HS8.out.next hb9)
  have HQ9 := Lib.hid (HQ8.out.next hb9)
  have HK9 := Lib.hid (below_thru HK8.out hb9)
  have HF9 := Lib.hid hF9
  clear hb9 hrow9 hF9 HS8 HQ8 HK8 a0 a1 HRF
  go_wp2_with fail
  refine (Alike_same p4 p9 cap4 cap9 fs w9 hfn (fun h0 => by obtain ⟨g, e, hf⟩ := HF4.out h0; exact ⟨g, e, hf.below HK9.out hf.lt⟩) HF9.out).mono ?_
  rintro e w10 ⟨rfl, hb10⟩
  have HS10 := Lib.hid (HS9.out.next hb10)
  have HQ10 := Lib.hid (HQ9.out.next hb10)
  clear hb10 HS9 HQ9 HK9 HF9
  have a0 := HS10.out.a.c0
  have a1 := HS10.out.a.c1
  go_wp2_with fail
  have HZ0 : Hid (FK w Bq n b off c ys x0 x1 x2 x3 w10) := Lib.hid ⟨HS10.out.a, HQ10.out, HV.out.below HS10.out.below, HS10.out.below⟩
  have HZ : Hid (∀ W, FK w Bq n b off c ys x0 x1 x2 x3 W → (W.cell? ⟨w.heap.size, 0, none⟩ = some (.int .i64 (n : Int)) ∧ W.cell? ⟨w.heap.size, 1, none⟩ = some (.slice (some ⟨b, off, none⟩) ys.length c)) ∧ (W.cell? ⟨Bq, 0, none⟩ = some (.int .i64 (x0 : Int)) ∧ W.cell? ⟨Bq, 1, none⟩ = some (.int .i64 (x1 : Int)) ∧ W.cell? ⟨Bq, 2, none⟩ = some (.int .i64 (x2 : Int)) ∧ W.cell? ⟨Bq, 3, none⟩ = some (.int .i64 (x3 : Int))) ∧ FK w Bq n b off c ys x0 x1 x2 x3 W) :=
    Lib.hid fun W h => ⟨⟨h.a.c0, h.a.c1⟩, ⟨h.q.q0, h.q.q1, h.q.q2, h.q.q3⟩, h⟩
  clear HS10 HQ10 a0 a1
  go_region_held3 (fun W => (W.cell? ⟨w.heap.size, 0, none⟩ = some (.int .i64 (n : Int)) ∧ W.cell? ⟨w.heap.size, 1, none⟩ = some (.slice (some ⟨b, off, none⟩) ys.length c)) ∧ (W.cell? ⟨Bq, 0, none⟩ = some (.int .i64 (x0 : Int)) ∧ W.cell? ⟨Bq, 1, none⟩ = some (.int .i64 (x1 : Int)) ∧ W.cell? ⟨Bq, 2, none⟩ = some (.int .i64 (x2 : Int)) ∧ W.cell? ⟨Bq, 3, none⟩ = some (.int .i64 (x3 : Int))) ∧ FK w Bq n b off c ys x0 x1 x2 x3 W)
    ((first
      | exact HZ.out _ (HZ0.out.next (Below.refl _ _).drew)
      | (refine HZ.out _ (FK.next ?_ (by assumption)); go_split_ands; assumption)))
    ((first
      | (go_at_call 27; (with_reducible refine (HR1.out _ ?_).mono ?_); rotate_left 1; rintro e ws ⟨rfl, hbs⟩; rotate_left 1; (first | exact (HZ0.out.next (Below.refl _ _).drew).v | (go_split_ands; exact FK.v (by assumption))))
      | (go_at_call 27; (with_reducible refine (HR2.out _ ?_).mono ?_); rotate_left 1; rintro e ws ⟨rfl, hbs⟩; rotate_left 1; (first | exact (HZ0.out.next (Below.refl _ _).drew).v | (go_split_ands; exact FK.v (by assumption))))
      | (go_at_call 27; (with_reducible refine (HR3.out _ ?_).mono ?_); rotate_left 1; rintro e ws ⟨rfl, hbs⟩; rotate_left 1; (first | exact (HZ0.out.next (Below.refl _ _).drew).v | (go_split_ands; exact FK.v (by assumption))))
      | (go_at_call 27; (with_reducible refine (HR4.out _ ?_).mono ?_); rotate_left 1; rintro e ws ⟨rfl, hbs⟩; rotate_left 1; (first | exact (HZ0.out.next (Below.refl _ _).drew).v | (go_split_ands; exact FK.v (by assumption))))
      | (go_at_call 17; refine (known_any _).mono ?_; rintro e wk ⟨rfl, hbk⟩)))
  all_goals go_wp2_with fail
  all_goals go_ret
  all_goals (go_split_ands; exact ⟨ret_bool rfl, FK.below (by assumption)⟩)

/-- PointFloats, whatever the design, the direction and the bound -/
theorem PointFloats_any (h : Int) (p : Option Addr) (c : Nat) (xs : List Int) (al bd : Int) (w : World) (hr : Reads w (.slice p xs.length c) xs) :
    Calls Try.prog 3 #[.agg #[.int .i64 h, .slice p xs.length c], .int .i64 al, .int .i64 bd] w fun e w' => e = .returned (.bool true) ∧ Below w.heap.size w w' := by
  by_cases hlg : 70 < xs.length
  · exact PointFloats_large h p xs.length c al bd w hlg
  · by_cases hck : checkE h xs = 0
    · obtain ⟨n, ys, rfl, rfl, hv⟩ := valid_of_check hck
      rw [ints_len] at hr ⊢
      obtain ⟨b, off, rfl, hva⟩ := vat_of_reads hr hv
      by_cases hal : al = 1 ∨ al = 2
      · by_cases hbd : bd < 0 ∨ 1000 < bd
        · rcases hal with rfl | rfl
          · exact PointFloats_bound1 n b off c ys bd w hva hbd
          · exact PointFloats_bound2 n b off c ys bd w hva hbd
        · obtain ⟨m, rfl⟩ := Int.eq_ofNat_of_zero_le (show 0 ≤ bd by omega)
          rcases hal with rfl | rfl
          · exact PointFloats_weft n b off c ys m w hva (by omega)
          · exact PointFloats_warp n b off c ys m w hva (by omega)
      · exact PointFloats_along n b off c ys al bd w hva (fun h => hal (.inl h)) (fun h => hal (.inr h))
    · exact PointFloats_bad h p c xs al bd w (by omega) hck hr
end Go.Proofs.Ytjobbleabepaiaa
