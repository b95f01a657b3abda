/- PointProofs: the walk. -/
import Derived.Test.YtjobbleabepaiaaVX
import Derived.Test.YtjobbleabepaiaaXC
namespace Go.Proofs.Ytjobbleabepaiaa
open Go.RowKit

theorem proofN_len {n m : Nat} {xs : List Nat} (hn : 1 ≤ n) (hn2 : n ≤ 24) (hl : xs.length ≤ 60) : (proofN n m xs).length ≤ 100000 := by
  have h1 := flW_all_len n xs m hn hn2 hl
  have h2 := winsTo_len n m (upTo (flW n xs m) xs.length) hn2 (upTo (flW n xs m) xs.length).length
  unfold proofN
  omega

set_option maxRecDepth 100000 in
set_option maxHeartbeats 4000000 in
theorem PointProofs_large (h : Int) (p : Option Addr) (l c : Nat) (bd : Int) (w : World) (hlg : 70 < l) :
    Calls Try.prog 5 #[.agg #[.int .i64 h, .slice p l c], .int .i64 bd] w fun e w' => e = .returned (.bool true) ∧ Below w.heap.size w w' := by
  have hd : decide (70 < l) = true := by simpa using hlg
  have Hlg := fun W h1 => large_len p l c (w.heap.size + 1) W h1
  rw [hd] at Hlg
  have HL := Lib.hid Hlg
  clear hd hlg Hlg
  go_enter Try.func5, Try.ntmps5
  go_wp2_with fail
  refine (HL.out _ ?_).mono ?_
  · have := (ArgBox.new (w.alloc (.cells #[.int .i64 h, .slice p l c] 24)) h p l c).c1
    rw [World.size_alloc] at this
    exact this
  rintro e w1 ⟨rfl, rfl⟩
  go_wp2_with fail
  refine (known_any _).mono ?_
  rintro e w2 ⟨rfl, hb2⟩
  go_wp2_with fail
  go_ret
  exact ⟨rfl, (((Below.refl _ _).alloc (Nat.le_refl _) _).alloc (by simp) _).trans (hb2.mono (by simp; omega))⟩

/-- what Proof owes, of a copy -/
def ProofErr (h : Int) (p2 : Option Addr) (l c2 : Nat) (bd r : Int) (W : World) : Prop :=
  Calls Try.prog 33 #[.agg #[.int .i64 h, .slice p2 l c2], .int .i64 bd] W fun e w' => e = .returned (.tuple #[.slice none 0 0, .int .i64 r]) ∧ Below W.heap.size W w'

set_option maxRecDepth 100000 in
set_option maxHeartbeats 4000000 in
theorem PointProofs_bad (h : Int) (p : Option Addr) (c : Nat) (xs : List Int) (bd : Int) (w : World) (hlg : xs.length ≤ 70) (hck : checkE h xs ≠ 0) (hr : Reads w (.slice p xs.length c) xs) :
    Calls Try.prog 5 #[.agg #[.int .i64 h, .slice p xs.length c], .int .i64 bd] w fun e w' => e = .returned (.bool true) ∧ Below w.heap.size w w' := by
  have hd : decide (70 < xs.length) = false := by simp; omega
  have Hlg := fun W h1 => large_len p xs.length c (w.heap.size + 1) W h1
  rw [hd] at Hlg
  have HL := Lib.hid Hlg
  have HR := Lib.hid hr
  have HCK := Lib.hid hck
  clear hd Hlg hr hck
  go_enter Try.func5, Try.ntmps5
  go_wp2_with fail
  refine (HL.out _ ?_).mono ?_
  · have := (ArgBox.new (w.alloc (.cells #[.int .i64 h, .slice p xs.length c] 24)) h p xs.length c).c1
    rw [World.size_alloc] at this
    exact this
  rintro e w1 ⟨rfl, rfl⟩
  obtain ⟨W1, hW1⟩ : ∃ W1, (w.alloc (.cells #[.int .i64 h, .slice p xs.length c] 24)).alloc (.cells #[.int .i64 h, .slice p xs.length c] 24) = W1 := ⟨_, rfl⟩
  have hA1 : ArgBox W1 w.heap.size h p xs.length c := by rw [← hW1]; exact (ArgBox.new w h p xs.length c).below (below1 _ _)
  have hb1 : Below w.heap.size w W1 := by rw [← hW1]; exact below2 w _ _
  have HR1 := Lib.hid (HR.out.below hb1)
  rw [hW1]
  have a0 := hA1.c0
  have a1 := hA1.c1
  have HA1 := Lib.hid hA1
  have HB1 := Lib.hid hb1
  clear hW1 hA1 hb1 HL
  go_wp2_with fail
  refine (own_any h p c xs _ (by omega) HR1.out).mono ?_
  rintro e w2 ⟨p2, c2, rfl, hr2, hb2⟩
  have HR2 := Lib.hid hr2
  have HB2 := Lib.hid hb2
  have hA2 := HA1.out.below hb2
  have b0 := hA2.c0
  have b1 := hA2.c1
  have hz2 := hA2.lt
  have HA2 := Lib.hid hA2
  clear hr2 hb2 hA2 a0 a1
  go_wp2_with fail
  have hS : LS w w2.heap.size h p p2 c c2 xs.length xs (w2.alloc (.cells #[.int .i64 h, .slice p2 xs.length c2] 24)) :=
    ⟨HA2.out.below (below1 _ _), ArgBox.new _ _ _ _ _, (HR1.out.below HB2.out).below (below1 _ _), HR2.out.below (below1 _ _), (HB1.out.trans (HB2.out.mono HB1.out.size)).trans ((below1 w2 _).mono (by have := HB1.out.size; have := HB2.out.size; omega))⟩
  obtain ⟨W2, hW2⟩ : ∃ W2, w2.alloc (.cells #[.int .i64 h, .slice p2 xs.length c2] 24) = W2 := ⟨_, rfl⟩
  rw [hW2] at hS ⊢
  have HS := Lib.hid hS
  clear hW2 hS HR2 HB2 HA2 HA1 HB1 HR1 HR b0 b1 hz2
  have hck := HCK.out
  have Hle := Proof_err h p2 c2 xs bd W2 HS.out.r2 hck
  have hnz : (checkE h xs != 0) = true := by simpa using hck
  have hnz2 : (checkE h xs == 0) = false := by simpa using hck
  obtain ⟨ce, hce⟩ : ∃ ce, checkE h xs = ce := ⟨_, rfl⟩
  rw [hce] at Hle hnz hnz2
  have HCE := Lib.hid hce
  have HLE := Lib.hid Hle
  clear hce Hle hck HCK
  refine HLE.out.mono ?_
  rintro e w3 ⟨rfl, hb3⟩
  have HS3 := Lib.hid (HS.out.next hb3)
  have a0 := HS3.out.a.c0
  have a1 := HS3.out.a.c1
  clear hb3 HS HLE
  go_wp2_with fail
  refine (refCheck_any h (.slice p xs.length c) xs w3 HS3.out.r).mono ?_
  rintro e w4 ⟨rfl, hb4⟩
  rw [HCE.out]
  have HS4 := Lib.hid (HS3.out.next hb4)
  clear a0 a1 hb4 HS3
  have a0 := HS4.out.a.c0
  have a1 := HS4.out.a.c1
  have b0 := HS4.out.b.c0
  have b1 := HS4.out.b.c1
  go_wp2_with fail
  have Hsm := Same_any h h p2 p c2 c xs xs w4 HS4.out.r2 HS4.out.r
  rw [show decide (h = h ∧ xs = xs) = true by simp] at Hsm
  have HSM := Lib.hid Hsm
  clear Hsm
  refine HSM.out.mono ?_
  rintro e w5 ⟨rfl, hb5⟩
  have HS5 := Lib.hid (HS4.out.next hb5)
  clear a0 a1 b0 b1 HSM hb5 HS4
  go_wp2_with fail
  refine (known_any _).mono ?_
  rintro e w6 ⟨rfl, hb6⟩
  go_wp2_with fail
  go_ret
  exact ⟨rfl, (HS5.out.next hb6).below⟩

set_option maxRecDepth 100000 in
set_option maxHeartbeats 4000000 in
theorem PointProofs_valid (n b off c : Nat) (ys : List Nat) (bd : Int) (w : World) (hva : VAt w b off c n ys) :
    Calls Try.prog 5 #[.agg #[.int .i64 (n : Int), .slice (some ⟨b, off, none⟩) ys.length c], .int .i64 bd] w fun e w' => e = .returned (.bool true) ∧ Below w.heap.size w w' := by
  have l1 := hva.ok.l1
  have n1 := hva.ok.n1
  have hd : decide (70 < ys.length) = false := by simp; omega
  have Hlg := fun W h1 => large_len (some ⟨b, off, none⟩) ys.length c (w.heap.size + 1) W h1
  rw [hd] at Hlg
  have HL := Lib.hid Hlg
  have HV := Lib.hid hva
  clear hd Hlg hva
  go_enter Try.func5, Try.ntmps5
  go_wp2_with fail
  refine (HL.out _ ?_).mono ?_
  · have := (ArgBox.new (w.alloc (.cells #[.int .i64 (n : Int), .slice (some ⟨b, off, none⟩) ys.length c] 24)) n (some ⟨b, off, none⟩) ys.length c).c1
    rw [World.size_alloc] at this
    exact this
  rintro e w1 ⟨rfl, rfl⟩
  obtain ⟨W1, hW1⟩ : ∃ W1, (w.alloc (.cells #[.int .i64 (n : Int), .slice (some ⟨b, off, none⟩) ys.length c] 24)).alloc (.cells #[.int .i64 (n : Int), .slice (some ⟨b, off, none⟩) ys.length c] 24) = W1 := ⟨_, rfl⟩
  have hA1 : ArgBox W1 w.heap.size n (some ⟨b, off, none⟩) ys.length c := by rw [← hW1]; exact (ArgBox.new w n (some ⟨b, off, none⟩) ys.length c).below (below1 _ _)
  have hb1 : Below w.heap.size w W1 := by rw [← hW1]; exact below2 w _ _
  have HR1 := Lib.hid (HV.out.below hb1).reads
  rw [hW1]
  have a0 := hA1.c0
  have a1 := hA1.c1
  have HA1 := Lib.hid hA1
  have HB1 := Lib.hid hb1
  have hown := own_any n (some ⟨b, off, none⟩) c (ints ys) W1 (by rw [ints_len]; omega) (by rw [ints_len]; exact HR1.out)
  unfold CopyD at hown
  simp only [ints_len] at hown
  have HO := Lib.hid hown
  clear hW1 hA1 hb1 HL hown
  go_wp2_with fail
  refine HO.out.mono ?_
  rintro e w2 ⟨p2, c2, rfl, hr2, hb2⟩
  have HR2 := Lib.hid hr2
  have HB2 := Lib.hid hb2
  have hA2 := HA1.out.below hb2
  have b0 := hA2.c0
  have b1 := hA2.c1
  have hz2 := hA2.lt
  have HA2 := Lib.hid hA2
  clear hr2 hb2 hA2 a0 a1 HO
  go_wp2_with fail
  have hS : LS w w2.heap.size n (some ⟨b, off, none⟩) p2 c c2 ys.length (ints ys) (w2.alloc (.cells #[.int .i64 (n : Int), .slice p2 ys.length c2] 24)) :=
    ⟨HA2.out.below (below1 _ _), ArgBox.new _ _ _ _ _, (HR1.out.below HB2.out).below (below1 _ _), HR2.out.below (below1 _ _), (HB1.out.trans (HB2.out.mono HB1.out.size)).trans ((below1 w2 _).mono (by have := HB1.out.size; have := HB2.out.size; omega))⟩
  obtain ⟨W2, hW2⟩ : ∃ W2, w2.alloc (.cells #[.int .i64 (n : Int), .slice p2 ys.length c2] 24) = W2 := ⟨_, rfl⟩
  rw [hW2] at hS ⊢
  have HS := Lib.hid hS
  clear hW2 hS HR2 HB2 HA2 HA1 HB1 HR1 b0 b1 hz2
  obtain ⟨bb, bo, rfl, hv2⟩ := vat_of_reads HS.out.r2 HV.out.ok
  cases hbd : (decide (1 ≤ bd) && decide (bd ≤ 24)) with
  | false =>
    have Hpb := Proof_bad n (some ⟨bb, bo, none⟩) c2 (ints ys) bd W2 (by rw [ints_len]; exact hv2.reads) HV.out.ok.check hbd
    rw [ints_len] at Hpb
    have HPB := Lib.hid Hpb
    have Hin := fun W => In_any bd 1 24 W
    rw [hbd] at Hin
    have HIN := Lib.hid Hin
    clear hbd Hpb Hin hv2
    refine HPB.out.mono ?_
    rintro e w3 ⟨rfl, hb3⟩
    have HS3 := Lib.hid (HS.out.next hb3)
    have a0 := HS3.out.a.c0
    have a1 := HS3.out.a.c1
    clear hb3 HS HPB
    go_wp2_with fail
    have Hrc := refCheck_any n (.slice (some ⟨b, off, none⟩) ys.length c) (ints ys) w3 HS3.out.r
    rw [HV.out.ok.check] at Hrc
    have HRC := Lib.hid Hrc
    clear Hrc
    refine HRC.out.mono ?_
    rintro e w4 ⟨rfl, hb4⟩
    have HS4 := Lib.hid (HS3.out.next hb4)
    clear a0 a1 hb4 HS3 HRC
    have a0 := HS4.out.a.c0
    have a1 := HS4.out.a.c1
    have b0 := HS4.out.b.c0
    have b1 := HS4.out.b.c1
    go_wp2_with fail
    refine (HIN.out _).mono ?_
    rintro e w5 ⟨rfl, rfl⟩
    go_wp2_with fail
    have Hsm := Same_any n n (some ⟨bb, bo, none⟩) (some ⟨b, off, none⟩) c2 c (ints ys) (ints ys) w4 (by rw [ints_len]; exact HS4.out.r2) (by rw [ints_len]; exact HS4.out.r)
    rw [show decide ((n : Int) = (n : Int) ∧ ints ys = ints ys) = true by simp] at Hsm
    simp only [ints_len] at Hsm
    have HSM := Lib.hid Hsm
    clear Hsm
    refine HSM.out.mono ?_
    rintro e w5 ⟨rfl, hb5⟩
    have HS5 := Lib.hid (HS4.out.next hb5)
    clear a0 a1 b0 b1 HSM hb5 HS4
    go_wp2_with fail
    refine (known_any _).mono ?_
    rintro e w6 ⟨rfl, hb6⟩
    go_wp2_with fail
    go_ret
    exact ⟨rfl, (HS5.out.next hb6).below⟩
  | true =>
    obtain ⟨m, hme⟩ : ∃ m : Nat, bd = (m : Int) := by
      simp at hbd
      exact ⟨bd.toNat, by omega⟩
    subst hme
    have hm : 1 ≤ m ∧ m ≤ 24 := by simp at hbd; omega
    have Hpb := Proof_ok n bb bo c2 m ys W2 hv2 hm.1 hm.2
    have hpl := proofN_len (m := m) HV.out.ok.n0 n1 l1
    have Hrp := fun W (h : VAt W b off c n ys) => refProof_any n b off c m ys W h hm.2
    obtain ⟨fs, hfs⟩ : ∃ fs, proofN n m ys = fs := ⟨_, rfl⟩
    rw [hfs] at Hpb hpl Hrp
    have HPB := Lib.hid Hpb
    have HRP := Lib.hid Hrp
    have Hin := fun W => In_any (m : Int) 1 24 W
    rw [hbd] at Hin
    have HIN := Lib.hid Hin
    clear hbd Hpb Hin hv2 hfs Hrp
    refine HPB.out.mono ?_
    rintro e w3 ⟨v3, rfl, hrow3, hb3⟩
    obtain ⟨p3, cap3, rfl, hF3⟩ := Fls.of_row hrow3
    have HS3 := Lib.hid (HS.out.next hb3)
    have HF3 := Lib.hid hF3
    have a0 := HS3.out.a.c0
    have a1 := HS3.out.a.c1
    clear hb3 HS HPB hrow3 hF3
    go_wp2_with fail
    have Hrc := refCheck_any n (.slice (some ⟨b, off, none⟩) ys.length c) (ints ys) w3 HS3.out.r
    rw [HV.out.ok.check] at Hrc
    have HRC := Lib.hid Hrc
    clear Hrc
    refine HRC.out.mono ?_
    rintro e w4 ⟨rfl, hb4⟩
    have HS4 := Lib.hid (HS3.out.next hb4)
    have HB34 := Lib.hid hb4
    clear a0 a1 hb4 HS3 HRC
    have a0 := HS4.out.a.c0
    have a1 := HS4.out.a.c1
    have b0 := HS4.out.b.c0
    have b1 := HS4.out.b.c1
    go_wp2_with fail
    refine (HIN.out _).mono ?_
    rintro e w5 ⟨rfl, rfl⟩
    go_wp2_with fail
    have Hsm := Same_any n n (some ⟨bb, bo, none⟩) (some ⟨b, off, none⟩) c2 c (ints ys) (ints ys) w4 (by rw [ints_len]; exact HS4.out.r2) (by rw [ints_len]; exact HS4.out.r)
    rw [show decide ((n : Int) = (n : Int) ∧ ints ys = ints ys) = true by simp] at Hsm
    simp only [ints_len] at Hsm
    have HSM := Lib.hid Hsm
    clear Hsm
    refine HSM.out.mono ?_
    rintro e w5 ⟨rfl, hb5⟩
    have HS5 := Lib.hid (HS4.out.next hb5)
    have HB35 := Lib.hid (below_thru HB34.out hb5)
    clear a0 a1 b0 b1 HSM hb5 HS4 HB34
    have a0 := HS5.out.a.c0
    have a1 := HS5.out.a.c1
    go_wp2_with fail
    refine (HRP.out w5 (HV.out.below HS5.out.below)).mono ?_
    rintro e w6 ⟨v6, rfl, hrow6, hb6⟩
    obtain ⟨p6, cap6, rfl, hF6⟩ := Fls.of_row hrow6
    have HS6 := Lib.hid (HS5.out.next hb6)
    have HF6 := Lib.hid hF6
    have HB36 := Lib.hid (below_thru HB35.out hb6)
    clear a0 a1 hb6 HS5 hrow6 hF6 HB35 HRP
    go_wp2_with fail
    refine (Alike_same p3 p6 cap3 cap6 fs w6 hpl (fun h0 => by obtain ⟨g, e, hf⟩ := HF3.out h0; exact ⟨g, e, hf.below HB36.out hf.lt⟩) HF6.out).mono ?_
    rintro e w7 ⟨rfl, hb7⟩
    have HS7 := Lib.hid (HS6.out.next hb7)
    clear hb7 HS6
    go_wp2_with fail
    refine (known_any _).mono ?_
    rintro e w8 ⟨rfl, hb8⟩
    go_wp2_with fail
    go_ret
    exact ⟨rfl, (HS7.out.next hb8).below⟩
/-- PointProofs, whatever the design and the bound -/
theorem PointProofs_any (h : Int) (p : Option Addr) (c : Nat) (xs : List Int) (bd : Int) (w : World) (hr : Reads w (.slice p xs.length c) xs) :
    Calls Try.prog 5 #[.agg #[.int .i64 h, .slice p xs.length c], .int .i64 bd] w fun e w' => e = .returned (.bool true) ∧ Below w.heap.size w w' := by
  by_cases hlg : 70 < xs.length
  · exact PointProofs_large h p xs.length c bd w hlg
  · by_cases hck : checkE h xs = 0
    · obtain ⟨n, ys, rfl, rfl, hv⟩ := valid_of_check hck
      rw [ints_len] at hr ⊢
      obtain ⟨b, off, rfl, hva⟩ := vat_of_reads hr hv
      exact PointProofs_valid n b off c ys bd w hva
    · exact PointProofs_bad h p c xs bd w (by omega) hck hr
end Go.Proofs.Ytjobbleabepaiaa
