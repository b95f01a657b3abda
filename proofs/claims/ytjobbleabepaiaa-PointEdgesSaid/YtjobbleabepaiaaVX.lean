/- PointLeasts: the walk. -/
import Derived.Test.YtjobbleabepaiaaVP
import Derived.Test.YtjobbleabepaiaaVR
import Derived.Test.YtjobbleabepaiaaVV
namespace Go.Proofs.Ytjobbleabepaiaa
open Go.RowKit

/-- what a law's argument box holds -/
structure ArgBox (W : World) (B : Nat) (h : Int) (p : Option Addr) (l c : Nat) : Prop where
  c0 : W.cell? ⟨B, 0, none⟩ = some (.int .i64 h)
  c1 : W.cell? ⟨B, 1, none⟩ = some (.slice p l c)
theorem ArgBox.lt {W : World} {B : Nat} {h : Int} {p : Option Addr} {l c : Nat} (a : ArgBox W B h p l c) : B < W.heap.size := World.block_lt_of_cell? W ⟨B, 0, none⟩ a.c0
theorem ArgBox.below {W W' : World} {B : Nat} {h : Int} {p : Option Addr} {l c : Nat} (a : ArgBox W B h p l c) (hb : Below W.heap.size W W') : ArgBox W' B h p l c :=
  ⟨cell_lift hb a.lt a.c0, cell_lift hb a.lt a.c1⟩
theorem ArgBox.new (W : World) (h : Int) (p : Option Addr) (l c : Nat) : ArgBox (W.alloc (.cells #[.int .i64 h, .slice p l c] 24)) W.heap.size h p l c := ⟨by simp, by simp⟩

/-- an argument and its copy, each in a box -/
structure LS (w0 : World) (B2 : Nat) (h : Int) (p p2 : Option Addr) (c c2 l : Nat) (xs : List Int) (W : World) : Prop where
  a : ArgBox W w0.heap.size h p l c
  b : ArgBox W B2 h p2 l c2
  r : Reads W (.slice p l c) xs
  r2 : Reads W (.slice p2 l c2) xs
  below : Below w0.heap.size w0 W
theorem LS.next {w0 : World} {B2 : Nat} {h : Int} {p p2 : Option Addr} {c c2 l : Nat} {xs : List Int} {W W' : World} (s : LS w0 B2 h p p2 c c2 l xs W) (hb : Below W.heap.size W W') : LS w0 B2 h p p2 c c2 l xs W' :=
  ⟨s.a.below hb, s.b.below hb, s.r.below hb, s.r2.below hb, s.below.trans (hb.mono s.below.size)⟩
/-- large of one design -/
theorem large_len (p : Option Addr) (l c B : Nat) (w : World) (h1 : w.cell? ⟨B, 1, none⟩ = some (.slice p l c)) :
    Calls Try.prog 16 #[.slice (some ⟨B, 0, none⟩) 1 1] w fun e w' => e = .returned (.bool (decide (70 < l))) ∧ w = w' := by
  by_cases hb : 70 < l
  · have hd : decide ((70 : Int) < (l : Int)) = true := by simp; omega
    have Hb := Lib.hid hb
    clear hb
    go_enter Try.func16, Try.ntmps16
    go_wp2
    go_loop [3] (fun i => i = .int .i64 0) (fun i => 0)
    case atStart => rfl
    case round =>
      subst hrel
      go_wp2
      go_ret
      exact ⟨ret_bool (by simp [Hb.out]), rfl⟩
  · have hd : decide ((70 : Int) < (l : Int)) = false := by simp; omega
    have Hb := Lib.hid hb
    clear hb
    go_enter Try.func16, Try.ntmps16
    go_wp2
    go_loop [3] (fun i => i = .int .i64 0 ∨ i = .int .i64 1) (fun i => 1 - (intOf i).toNat)
    case atStart => exact .inl rfl
    case round =>
      rcases hrel with rfl | rfl
      · go_wp2
        go_round
        case rel => exact .inr rfl
        case measure => simp [intOf]
      · go_wp2
        go_ret
        exact ⟨ret_bool (by simp [Hb.out]), rfl⟩

set_option maxRecDepth 100000 in
set_option maxHeartbeats 4000000 in
theorem PointLeasts_large (h : Int) (p : Option Addr) (l c : Nat) (w : World) (hlg : 70 < l) :
    Calls Try.prog 8 #[.agg #[.int .i64 h, .slice p l c]] w fun e w' => e = .returned (.bool true) ∧ Below w.heap.size w w' := by
  have hd : decide (70 < l) = true := by simpa using hlg
  have Hlg := fun W h1 => large_len p l c (w.heap.size + 1) W h1
  rw [hd] at Hlg
  have HL := Lib.hid Hlg
  clear hd hlg Hlg
  go_enter Try.func8, Try.ntmps8
  go_wp2_with fail
  refine (HL.out _ ?_).mono ?_
  · have := (ArgBox.new (w.alloc (.cells #[.int .i64 h, .slice p l c] 24)) h p l c).c1
    rw [World.size_alloc] at this
    exact this
  rintro e w1 ⟨rfl, rfl⟩
  go_wp2_with fail
  refine (known_any _).mono ?_
  rintro e w2 ⟨rfl, hb2⟩
  go_wp2_with fail
  go_ret
  exact ⟨rfl, (((Below.refl _ _).alloc (Nat.le_refl _) _).alloc (by simp) _).trans (hb2.mono (by simp; omega))⟩

set_option maxRecDepth 100000 in
set_option maxHeartbeats 4000000 in
theorem PointLeasts_bad (h : Int) (p : Option Addr) (c : Nat) (xs : List Int) (w : World) (hlg : xs.length ≤ 70) (hck : checkE h xs ≠ 0) (hr : Reads w (.slice p xs.length c) xs) :
    Calls Try.prog 8 #[.agg #[.int .i64 h, .slice p xs.length c]] w fun e w' => e = .returned (.bool true) ∧ Below w.heap.size w w' := by
  have hd : decide (70 < xs.length) = false := by simp; omega
  have Hlg := fun W h1 => large_one h p xs.length c (w.heap.size + 1) W (by omega) h1
  rw [hd] at Hlg
  have HL := Lib.hid Hlg
  have HR := Lib.hid hr
  have HCK := Lib.hid hck
  clear hd Hlg hr hck
  go_enter Try.func8, Try.ntmps8
  go_wp2_with fail
  refine (HL.out _ ?_).mono ?_
  · have := (ArgBox.new (w.alloc (.cells #[.int .i64 h, .slice p xs.length c] 24)) h p xs.length c).c1
    rw [World.size_alloc] at this
    exact this
  rintro e w1 ⟨rfl, rfl⟩
  obtain ⟨W1, hW1⟩ : ∃ W1, (w.alloc (.cells #[.int .i64 h, .slice p xs.length c] 24)).alloc (.cells #[.int .i64 h, .slice p xs.length c] 24) = W1 := ⟨_, rfl⟩
  have hA1 : ArgBox W1 w.heap.size h p xs.length c := by rw [← hW1]; exact (ArgBox.new w h p xs.length c).below (below1 _ _)
  have hb1 : Below w.heap.size w W1 := by rw [← hW1]; exact below2 w _ _
  have HR1 := Lib.hid (HR.out.below hb1)
  rw [hW1]
  have a0 := hA1.c0
  have a1 := hA1.c1
  have HA1 := Lib.hid hA1
  have HB1 := Lib.hid hb1
  clear hW1 hA1 hb1 HL
  go_wp2_with fail
  refine (own_any h p c xs _ (by omega) HR1.out).mono ?_
  rintro e w2 ⟨p2, c2, rfl, hr2, hb2⟩
  have HR2 := Lib.hid hr2
  have HB2 := Lib.hid hb2
  have hA2 := HA1.out.below hb2
  have b0 := hA2.c0
  have b1 := hA2.c1
  have hz2 := hA2.lt
  have HA2 := Lib.hid hA2
  clear hr2 hb2 hA2 a0 a1
  go_wp2_with fail
  have hS : LS w w2.heap.size h p p2 c c2 xs.length xs (w2.alloc (.cells #[.int .i64 h, .slice p2 xs.length c2] 24)) :=
    ⟨HA2.out.below (below1 _ _), ArgBox.new _ _ _ _ _, (HR1.out.below HB2.out).below (below1 _ _), HR2.out.below (below1 _ _), (HB1.out.trans (HB2.out.mono HB1.out.size)).trans ((below1 w2 _).mono (by have := HB1.out.size; have := HB2.out.size; omega))⟩
  obtain ⟨W2, hW2⟩ : ∃ W2, w2.alloc (.cells #[.int .i64 h, .slice p2 xs.length c2] 24) = W2 := ⟨_, rfl⟩
  rw [hW2] at hS ⊢
  have HS := Lib.hid hS
  clear hW2 hS HR2 HB2 HA2 HA1 HB1 HR1 HR b0 b1 hz2
  have hck := HCK.out
  have Hle := Least_err h p2 c2 xs W2 HS.out.r2 hck
  have hnz : (checkE h xs != 0) = true := by simpa using hck
  obtain ⟨ce, hce⟩ : ∃ ce, checkE h xs = ce := ⟨_, rfl⟩
  rw [hce] at Hle hnz
  have HCE := Lib.hid hce
  have HLE := Lib.hid Hle
  clear hce Hle hck HCK
  refine HLE.out.mono ?_
  rintro e w3 ⟨rfl, hb3⟩
  have HS3 := Lib.hid (HS.out.next hb3)
  have a0 := HS3.out.a.c0
  have a1 := HS3.out.a.c1
  have b0 := HS3.out.b.c0
  have b1 := HS3.out.b.c1
  clear hb3 HS HLE
  go_wp2_with fail
  have Hsm := Same_any h h p2 p c2 c xs xs w3 HS3.out.r2 HS3.out.r
  rw [show decide (h = h ∧ xs = xs) = true by simp] at Hsm
  have HSM := Lib.hid Hsm
  clear Hsm
  refine HSM.out.mono ?_
  rintro e w4 ⟨rfl, hb4⟩
  have HS4 := Lib.hid (HS3.out.next hb4)
  clear a0 a1 b0 b1 HSM hb4 HS3
  have a0 := HS4.out.a.c0
  have a1 := HS4.out.a.c1
  go_wp2_with fail
  refine (refCheck_any h (.slice p xs.length c) xs w4 HS4.out.r).mono ?_
  rintro e w5 ⟨rfl, hb5⟩
  rw [HCE.out]
  have HS5 := Lib.hid (HS4.out.next hb5)
  clear a0 a1 hb5 HS4
  go_wp2_with fail
  refine (known_any _).mono ?_
  rintro e w6 ⟨rfl, hb6⟩
  go_wp2_with fail
  go_ret
  exact ⟨rfl, (HS5.out.next hb6).below⟩

set_option maxRecDepth 100000 in
set_option maxHeartbeats 4000000 in
theorem PointLeasts_ok (n b off c : Nat) (ys : List Nat) (w : World) (hva : VAt w b off c n ys) :
    Calls Try.prog 8 #[.agg #[.int .i64 (n : Int), .slice (some ⟨b, off, none⟩) ys.length c]] w fun e w' => e = .returned (.bool true) ∧ Below w.heap.size w w' := by
  have l1 := hva.ok.l1
  have n1 := hva.ok.n1
  have hd : decide (70 < ys.length) = false := by simp; omega
  have Hlg := fun W h1 => large_one n (some ⟨b, off, none⟩) ys.length c (w.heap.size + 1) W (by omega) h1
  rw [hd] at Hlg
  have HL := Lib.hid Hlg
  have HV := Lib.hid hva
  clear hd Hlg hva
  go_enter Try.func8, Try.ntmps8
  go_wp2_with fail
  refine (HL.out _ ?_).mono ?_
  · have := (ArgBox.new (w.alloc (.cells #[.int .i64 (n : Int), .slice (some ⟨b, off, none⟩) ys.length c] 24)) n (some ⟨b, off, none⟩) ys.length c).c1
    rw [World.size_alloc] at this
    exact this
  rintro e w1 ⟨rfl, rfl⟩
  obtain ⟨W1, hW1⟩ : ∃ W1, (w.alloc (.cells #[.int .i64 (n : Int), .slice (some ⟨b, off, none⟩) ys.length c] 24)).alloc (.cells #[.int .i64 (n : Int), .slice (some ⟨b, off, none⟩) ys.length c] 24) = W1 := ⟨_, rfl⟩
  have hA1 : ArgBox W1 w.heap.size n (some ⟨b, off, none⟩) ys.length c := by rw [← hW1]; exact (ArgBox.new w n (some ⟨b, off, none⟩) ys.length c).below (below1 _ _)
  have hb1 : Below w.heap.size w W1 := by rw [← hW1]; exact below2 w _ _
  have HR1 := Lib.hid (HV.out.below hb1).reads
  rw [hW1]
  have a0 := hA1.c0
  have a1 := hA1.c1
  have HA1 := Lib.hid hA1
  have HB1 := Lib.hid hb1
  have hown := own_any n (some ⟨b, off, none⟩) c (ints ys) W1 (by rw [ints_len]; omega) (by rw [ints_len]; exact HR1.out)
  unfold CopyD at hown
  simp only [ints_len] at hown
  have HO := Lib.hid hown
  clear hW1 hA1 hb1 HL hown
  go_wp2_with fail
  refine HO.out.mono ?_
  rintro e w2 ⟨p2, c2, rfl, hr2, hb2⟩
  have HR2 := Lib.hid hr2
  have HB2 := Lib.hid hb2
  have hA2 := HA1.out.below hb2
  have b0 := hA2.c0
  have b1 := hA2.c1
  have hz2 := hA2.lt
  have HA2 := Lib.hid hA2
  clear hr2 hb2 hA2 a0 a1 HO
  go_wp2_with fail
  have hS : LS w w2.heap.size n (some ⟨b, off, none⟩) p2 c c2 ys.length (ints ys) (w2.alloc (.cells #[.int .i64 (n : Int), .slice p2 ys.length c2] 24)) :=
    ⟨HA2.out.below (below1 _ _), ArgBox.new _ _ _ _ _, (HR1.out.below HB2.out).below (below1 _ _), HR2.out.below (below1 _ _), (HB1.out.trans (HB2.out.mono HB1.out.size)).trans ((below1 w2 _).mono (by have := HB1.out.size; have := HB2.out.size; omega))⟩
  obtain ⟨W2, hW2⟩ : ∃ W2, w2.alloc (.cells #[.int .i64 (n : Int), .slice p2 ys.length c2] 24) = W2 := ⟨_, rfl⟩
  rw [hW2] at hS ⊢
  have HS := Lib.hid hS
  clear hW2 hS HR2 HB2 HA2 HA1 HB1 HR1 b0 b1 hz2
  obtain ⟨bb, bo, rfl, hv2⟩ := vat_of_reads HS.out.r2 HV.out.ok
  have Hle := Least_ok n bb bo c2 ys W2 hv2
  have hlr := least_rows HV.out.ok
  have hlh := least_hooks HV.out.ok
  obtain ⟨A, hAe⟩ : ∃ A, leastN (fun k => repB ys n k 0) ys.length = A := ⟨_, rfl⟩
  obtain ⟨C, hCe⟩ : ∃ C, leastN (fun k => repB ys n 0 k) n = C := ⟨_, rfl⟩
  rw [hAe, hCe] at Hle
  rw [hAe] at hlr
  rw [hCe] at hlh
  have HLR := Lib.hid hlr
  have HLH := Lib.hid hlh
  have HLE := Lib.hid Hle
  clear hAe hCe Hle hlr hlh hv2
  refine HLE.out.mono ?_
  rintro e w3 ⟨rfl, hb3⟩
  have HS3 := Lib.hid (HS.out.next hb3)
  have a0 := HS3.out.a.c0
  have a1 := HS3.out.a.c1
  have b0 := HS3.out.b.c0
  have b1 := HS3.out.b.c1
  clear hb3 HS HLE
  go_wp2_with fail
  have Hsm := Same_any n n (some ⟨bb, bo, none⟩) (some ⟨b, off, none⟩) c2 c (ints ys) (ints ys) w3 (by rw [ints_len]; exact HS3.out.r2) (by rw [ints_len]; exact HS3.out.r)
  rw [show decide ((n : Int) = (n : Int) ∧ ints ys = ints ys) = true by simp] at Hsm
  simp only [ints_len] at Hsm
  have HSM := Lib.hid Hsm
  clear Hsm
  refine HSM.out.mono ?_
  rintro e w4 ⟨rfl, hb4⟩
  have HS4 := Lib.hid (HS3.out.next hb4)
  clear a0 a1 b0 b1 HSM hb4 HS3
  have a0 := HS4.out.a.c0
  have a1 := HS4.out.a.c1
  go_wp2_with fail
  have Hrc := refCheck_any n (.slice (some ⟨b, off, none⟩) ys.length c) (ints ys) w4 HS4.out.r
  rw [HV.out.ok.check] at Hrc
  have HRC := Lib.hid Hrc
  clear Hrc
  refine HRC.out.mono ?_
  rintro e w5 ⟨rfl, hb5⟩
  have HS5 := Lib.hid (HS4.out.next hb5)
  clear a0 a1 hb5 HS4 HRC
  have a0 := HS5.out.a.c0
  have a1 := HS5.out.a.c1
  go_wp2_with fail
  have HV5 := Lib.hid (HV.out.below HS5.out.below)
  refine (Table_any n b off c ys w5 (by omega) (by omega) HV5.out.at' HV5.out.lt HV5.out.ok.lt').mono ?_
  rintro e w6 ⟨g, gc, rfl, hT6, hb6⟩
  have HS6 := Lib.hid (HS5.out.next hb6)
  have HT6 := Lib.hid hT6
  clear a0 a1 hb6 hT6 HV5 HS5
  go_wp2_with fail
  refine (refLeast_any g ys.length n gc A _ w6 (by omega) (by omega) HLR.out.1 HLR.out.2.1 HT6.out HLR.out.2.2.1 HLR.out.2.2.2).mono ?_
  rintro e w7 ⟨rfl, hb7⟩
  have HS7 := Lib.hid (HS6.out.next hb7)
  have HT7 := Lib.hid (HT6.out.below hb7)
  clear hb7 HS6 HT6
  go_wp2_with fail
  refine (Over_any g ys.length n gc _ w7 HV.out.ok.l0 (by omega) (by omega) HT7.out).mono ?_
  rintro e w8 ⟨g2, gc2, rfl, hT8, hb8⟩
  have HS8 := Lib.hid (HS7.out.next hb8)
  have HT8 := Lib.hid hT8
  clear hb8 HS7 HT7 hT8
  go_wp2_with fail
  refine (refLeast_any g2 n ys.length gc2 C _ w8 (by omega) (by omega) HLH.out.1 HLH.out.2.1 HT8.out HLH.out.2.2.1 HLH.out.2.2.2).mono ?_
  rintro e w9 ⟨rfl, hb9⟩
  have HS9 := Lib.hid (HS8.out.next hb9)
  clear hb9 HS8 HT8
  go_wp2_with fail
  refine (known_any _).mono ?_
  rintro e w10 ⟨rfl, hb10⟩
  go_wp2_with fail
  go_ret
  exact ⟨rfl, (HS9.out.next hb10).below⟩
/-- PointLeasts, whatever the design -/
theorem PointLeasts_any (h : Int) (p : Option Addr) (c : Nat) (xs : List Int) (w : World) (hr : Reads w (.slice p xs.length c) xs) :
    Calls Try.prog 8 #[.agg #[.int .i64 h, .slice p xs.length c]] w fun e w' => e = .returned (.bool true) ∧ Below w.heap.size w w' := by
  by_cases hlg : 70 < xs.length
  · exact PointLeasts_large h p xs.length c w hlg
  · by_cases hck : checkE h xs = 0
    · obtain ⟨n, ys, rfl, rfl, hv⟩ := valid_of_check hck
      rw [ints_len] at hr ⊢
      obtain ⟨b, off, rfl, hva⟩ := vat_of_reads hr hv
      exact PointLeasts_ok n b off c ys w hva
    · exact PointLeasts_bad h p c xs w (by omega) hck hr
end Go.Proofs.Ytjobbleabepaiaa
