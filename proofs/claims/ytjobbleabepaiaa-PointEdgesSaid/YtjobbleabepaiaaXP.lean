/- Differ. -/
import Derived.Test.YtjobbleabepaiaaXO
import Derived.Test.YtjobbleabepaiaaVG
import Derived.Deep.RegionHeld3
namespace Go.Proofs.Ytjobbleabepaiaa
open Go.RowKit Go.Shelf

/-- how many points are different, and the first one: along a pick, and in all -/
def dfRow (D : Nat → Bool) (i : Nat) (s : Nat × Nat × Nat) : Nat → Nat × Nat × Nat
  | 0 => s
  | j + 1 => if D j then ((dfRow D i s j).1 + 1, if (dfRow D i s j).1 = 0 then (i, j) else (dfRow D i s j).2) else dfRow D i s j
def dfAll (D : Nat → Nat → Bool) (n : Nat) : Nat → Nat × Nat × Nat
  | 0 => (0, 0, 0)
  | i + 1 => dfRow (D i) i (dfAll D n i) n
theorem dfRow_le (D : Nat → Bool) (i : Nat) (s : Nat × Nat × Nat) : ∀ j, (dfRow D i s j).1 ≤ s.1 + j
  | 0 => Nat.le_refl _
  | j + 1 => by
    have := dfRow_le D i s j
    simp only [dfRow]
    split
    · simp; omega
    · omega
theorem dfAll_le (D : Nat → Nat → Bool) (n : Nat) : ∀ i, (dfAll D n i).1 ≤ i * n
  | 0 => by simp [dfAll]
  | i + 1 => by
    have h1 := dfAll_le D n i
    have h2 := dfRow_le (D i) i (dfAll D n i) n
    simp only [dfAll]
    rw [Nat.add_mul]; omega
theorem dfRow_skip {D : Nat → Bool} {i : Nat} {s : Nat × Nat × Nat} {j : Nat} (h : D j = false) : dfRow D i s (j + 1) = dfRow D i s j := by simp [dfRow, h]
theorem dfRow_first {D : Nat → Bool} {i : Nat} {s : Nat × Nat × Nat} {j : Nat} (h : D j = true) (h0 : (dfRow D i s j).1 = 0) : dfRow D i s (j + 1) = (1, i, j) := by simp [dfRow, h, h0]
theorem dfRow_more {D : Nat → Bool} {i : Nat} {s : Nat × Nat × Nat} {j : Nat} (h : D j = true) (h0 : (dfRow D i s j).1 ≠ 0) : dfRow D i s (j + 1) = ((dfRow D i s j).1 + 1, (dfRow D i s j).2) := by simp [dfRow, h, h0]
/-- which points of two designs are different -/
def dfB (xs ys : List Nat) (i j : Nat) : Bool := bitN (nthN xs i) j != bitN (nthN ys i) j

theorem check_two (d e : Dsg) (W : World) (hr : Reads W d.v d.xs) (hs : Reads W e.v e.xs) :
    Calls Try.prog 66 #[.slice (some ⟨W.heap.size, 0, none⟩) 2 2] (W.alloc (.cells #[.int .i64 d.hooks, .slice d.p d.xs.length d.cap, .int .i64 e.hooks, .slice e.p e.xs.length e.cap] 24))
      fun e' w' => e' = .returned (.int .i64 (firstE [d, e])) ∧ Below W.heap.size W w' := by
  refine (check_any W.heap.size 2 [d, e] _ (by simp) (DsAt_two W d e hr hs)).mono ?_
  rintro e' w' ⟨rfl, hb⟩
  exact ⟨rfl, ((Below.refl _ _).alloc (Nat.le_refl _) _).trans (hb.mono (by simp))⟩
/-- check of two designs, behind two boxes -/
theorem check_res2 (d e : Dsg) (w : World) (o1 o2 : Obj) (hr : Reads w d.v d.xs) (hs : Reads w e.v e.xs) (r : Int) (he : firstE [d, e] = r) :
    Calls Try.prog 66 #[.slice (some ⟨w.heap.size + 1 + 1, 0, none⟩) 2 2] (((w.alloc o1).alloc o2).alloc (.cells #[.int .i64 d.hooks, .slice d.p d.xs.length d.cap, .int .i64 e.hooks, .slice e.p e.xs.length e.cap] 24))
      fun e' w' => e' = .returned (.int .i64 r) ∧ Below (w.heap.size + 1 + 1) ((w.alloc o1).alloc o2) w' := by
  have hb := below2 w o1 o2
  have := check_two d e ((w.alloc o1).alloc o2) (hr.below hb) (hs.below hb)
  simp only [World.size_alloc] at this
  rw [he] at this
  exact this
/-- two designs in boxes -/
structure TwoD (w0 : World) (n b off c b2 o2 c2 : Nat) (xs ys : List Nat) (W : World) : Prop where
  d : DBox W w0.heap.size n b off c xs
  e : DBox W (w0.heap.size + 1) n b2 o2 c2 ys
  below : Below w0.heap.size w0 W
theorem TwoD.next {w0 W W' : World} {n b off c b2 o2 c2 : Nat} {xs ys : List Nat} (h : TwoD w0 n b off c b2 o2 c2 xs ys W) (hb : Below W.heap.size W W') : TwoD w0 n b off c b2 o2 c2 xs ys W' :=
  ⟨h.d.below hb h.d.lt, h.e.below hb h.e.lt, h.below.trans (hb.mono h.below.size)⟩
theorem TwoD.new (w : World) (n b off c b2 o2 c2 : Nat) (xs ys : List Nat) : TwoD w n b off c b2 o2 c2 xs ys ((w.alloc (.cells #[.int .i64 (n : Int), .slice (some ⟨b, off, none⟩) xs.length c] 24)).alloc (.cells #[.int .i64 (n : Int), .slice (some ⟨b2, o2, none⟩) ys.length c2] 24)) := by
  have h1 := DBox.new w n b off c xs
  have h2 := DBox.new (w.alloc (dObj n b off c xs)) n b2 o2 c2 ys
  rw [World.size_alloc] at h2
  exact ⟨h1.below (below1 _ _) h1.lt, h2, below2 w _ _⟩

set_option maxRecDepth 100000 in
set_option maxHeartbeats 4000000 in
theorem Differ_ok (n b off c b2 o2 c2 : Nat) (xs ys : List Nat) (w : World) (hv : VAt w b off c n xs) (hv2 : VAt w b2 o2 c2 n ys) (hl : ys.length = xs.length) :
    Calls Try.prog 56 #[.agg #[.int .i64 (n : Int), .slice (some ⟨b, off, none⟩) xs.length c], .agg #[.int .i64 (n : Int), .slice (some ⟨b2, o2, none⟩) ys.length c2]] w
      fun e w' => e = .returned (.tuple #[.int .i64 ((dfAll (dfB xs ys) n xs.length).1 : Int), .int .i64 ((dfAll (dfB xs ys) n xs.length).2.1 : Int), .int .i64 ((dfAll (dfB xs ys) n xs.length).2.2 : Int), .int .i64 0]) ∧ Below w.heap.size w w' := by
  have l1 := hv.ok.l1
  have n1 := hv.ok.n1
  have Hc := Lib.hid (check_res2 ⟨n, some ⟨b, off, none⟩, c, ints xs⟩ ⟨n, some ⟨b2, o2, none⟩, c2, ints ys⟩ w (.cells #[.int .i64 (n : Int), .slice (some ⟨b, off, none⟩) xs.length c] 24) (.cells #[.int .i64 (n : Int), .slice (some ⟨b2, o2, none⟩) ys.length c2] 24) (by unfold Dsg.v; rw [ints_len]; exact hv.reads) (by unfold Dsg.v; rw [ints_len]; exact hv2.reads) 0 (by simp [firstE, Dsg.e, hv.ok.check, hv2.ok.check]))
  simp only [ints_len] at Hc
  have hsm := fun W => sameSize_any n n (some ⟨b, off, none⟩) (some ⟨b2, o2, none⟩) xs.length ys.length c c2 W
  rw [show decide ((n : Int) = (n : Int) ∧ xs.length = ys.length) = true by simp [hl]] at hsm
  have HSm := Lib.hid hsm
  have HT0 := Lib.hid (TwoD.new w n b off c b2 o2 c2 xs ys)
  have HV := Lib.hid hv
  have HV2 := Lib.hid hv2
  have HL := Lib.hid hl
  clear hsm hv hv2 hl
  obtain ⟨D, hD⟩ : ∃ D, D = dfB xs ys := ⟨_, rfl⟩
  rw [← hD]
  have HDf := Lib.hid hD
  clear hD
  go_enter Try.func56, Try.ntmps56
  go_wp2_with fail
  refine Hc.out.mono ?_
  rintro e w1 ⟨rfl, hb1⟩
  have hT := HT0.out.next (hb1.mono (by simp))
  have d0 := hT.d.c0
  have d1 := hT.d.c1
  have f0 := hT.e.c0
  have f1 := hT.e.c1
  have HT := Lib.hid hT
  clear hb1 hT
  go_wp2_with fail
  refine (HSm.out _).mono ?_
  rintro e w2 ⟨rfl, hb2⟩
  have hT := HT.out.next hb2
  have z0 := hT.d.c0
  have z1 := hT.d.c1
  have HT2 := Lib.hid hT
  clear hb2 hT d0 d1 f0 f1 HT
  go_wp2_with fail
  clear z0 z1
  go_loopw [4, 5, 6, 25] (fun m p h i wr => ∃ k : Nat, k ≤ xs.length ∧ i = .int .i64 k ∧ m = .int .i64 ((dfAll D n k).1 : Int) ∧ p = .int .i64 ((dfAll D n k).2.1 : Int) ∧ h = .int .i64 ((dfAll D n k).2.2 : Int) ∧ TwoD w n b off c b2 o2 c2 xs ys wr) (fun _ _ _ i _ => xs.length - (intOf i).toNat)
  case atStart => exact ⟨0, Nat.zero_le _, rfl, rfl, rfl, rfl, HT2.out⟩
  case round =>
    obtain ⟨k, hk, rfl, rfl, rfl, rfl, hT⟩ := hrel
    have d0 := hT.d.c0
    have HT := Lib.hid hT
    clear hT HT2
    by_cases hlt : k < xs.length
    · have hcnt := dfAll_le D n k
      have hmul : k * n ≤ 1440 := by
        have h1 : k * n ≤ 60 * 24 := Nat.mul_le_mul (by omega) n1
        omega
      obtain ⟨wo, rfl⟩ : ∃ wo : World, wo = wr := ⟨_, rfl⟩
      have hs0 : dfRow (D k) k (dfAll D n k) 0 = dfAll D n k := rfl
      have hend : dfRow (D k) k (dfAll D n k) n = dfAll D n (k + 1) := rfl
      have HS0 := Lib.hid hs0
      have HEnd := Lib.hid hend
      have Hle := Lib.hid (fun j => dfRow_le (D k) k (dfAll D n k) j)
      have hc0 : (dfAll D n k).1 ≤ 1440 := by omega
      have Hc0 := Lib.hid hc0
      clear hs0 hend hcnt hmul hc0
      go_wp2_with fail
      clear d0
      go_loopw [4, 5, 6, 30] (fun m p h i wi => ∃ j : Nat, j ≤ n ∧ i = .int .i64 j ∧ m = .int .i64 ((dfRow (D k) k (dfAll D n k) j).1 : Int) ∧ p = .int .i64 ((dfRow (D k) k (dfAll D n k) j).2.1 : Int) ∧ h = .int .i64 ((dfRow (D k) k (dfAll D n k) j).2.2 : Int) ∧ TwoD w n b off c b2 o2 c2 xs ys wi) (fun _ _ _ i _ => n - (intOf i).toNat)
      case atStart => exact ⟨0, Nat.zero_le _, rfl, rfl, rfl, rfl, HT.out⟩
      case round =>
        obtain ⟨j, hj, rfl, rfl, rfl, rfl, hT3⟩ := hrel
        have HT3 := Lib.hid hT3
        clear hT3 HT
        by_cases hjl : j < n
        · have hcnt : (dfRow (D k) k (dfAll D n k) j).1 ≤ 1464 := by have := Hle.out j; have := Hc0.out; omega
          obtain ⟨q, hq⟩ : ∃ q, q = dfRow (D k) k (dfAll D n k) j := ⟨_, rfl⟩
          have Hsk := Lib.hid (fun (h : D k j = false) => dfRow_skip (D := D k) (i := k) (s := dfAll D n k) h)
          have Hfi := Lib.hid (fun (h : D k j = true) => dfRow_first (D := D k) (i := k) (s := dfAll D n k) h)
          have Hmo := Lib.hid (fun (h : D k j = true) => dfRow_more (D := D k) (i := k) (s := dfAll D n k) h)
          rw [← hq] at hcnt Hsk Hfi Hmo
          rw [← hq]
          clear hq
          have hDe : D k j = (bitN (nthN xs k) j != bitN (nthN ys k) j) := by rw [HDf.out]; rfl
          have H1 := Lib.hid (fun W (h : TwoD w n b off c b2 o2 c2 xs ys W) => paperLifted_any n b off c xs k j W (HV.out.below h.below).lt (by omega) (HV.out.below h.below).at' hlt (by have := HV.out.ok.lt' k; omega) (by omega))
          have H2 := Lib.hid (fun W (h : TwoD w n b off c b2 o2 c2 xs ys W) => paperLifted_any n b2 o2 c2 ys k j W (HV2.out.below h.below).lt (by have := HL.out; omega) (HV2.out.below h.below).at' (by have := HL.out; omega) (by have := HV2.out.ok.lt' k; omega) (by omega))
          obtain ⟨A, hA⟩ : ∃ A, A = bitN (nthN xs k) j := ⟨_, rfl⟩
          obtain ⟨B, hB⟩ : ∃ B, B = bitN (nthN ys k) j := ⟨_, rfl⟩
          rw [← hA] at hDe H1
          rw [← hB] at hDe H2
          clear hA hB
          have HK := Lib.hid (fun W (h : TwoD w n b off c b2 o2 c2 xs ys W) => (⟨h.d.c0, h.d.c1, h.e.c0, h.e.c1, h⟩ : W.cell? ⟨w.heap.size, 0, none⟩ = some (.int .i64 (n : Int)) ∧ W.cell? ⟨w.heap.size, 1, none⟩ = some (.slice (some ⟨b, off, none⟩) xs.length c) ∧ W.cell? ⟨w.heap.size + 1, 0, none⟩ = some (.int .i64 (n : Int)) ∧ W.cell? ⟨w.heap.size + 1, 1, none⟩ = some (.slice (some ⟨b2, o2, none⟩) ys.length c2) ∧ TwoD w n b off c b2 o2 c2 xs ys W))
          have HTd := Lib.hid (HT3.out.next (below_drew1 wr))
          by_cases hd : D k j = true
          · have hBA : B = !A := by rw [hd] at hDe; cases A <;> cases B <;> simp at hDe ⊢
            subst hBA
            have HDt := Lib.hid hd
            clear hd hDe
            go_wp2_with fail
            go_region_held3 (fun w' => w'.cell? ⟨w.heap.size, 0, none⟩ = some (.int .i64 (n : Int)) ∧ w'.cell? ⟨w.heap.size, 1, none⟩ = some (.slice (some ⟨b, off, none⟩) xs.length c) ∧ w'.cell? ⟨w.heap.size + 1, 0, none⟩ = some (.int .i64 (n : Int)) ∧ w'.cell? ⟨w.heap.size + 1, 1, none⟩ = some (.slice (some ⟨b2, o2, none⟩) ys.length c2) ∧ TwoD w n b off c b2 o2 c2 xs ys w')
              ((first
                | exact HK.out _ HTd.out
                | (refine HK.out _ (TwoD.next ?_ (by assumption)); go_split_ands; assumption)))
              ((first
                | (go_at_call 79; (with_reducible refine (H1.out _ ?_).mono ?_); rotate_left 1; rintro e w5 ⟨rfl, hb5⟩; rotate_left 1; (first | exact HTd.out | (go_split_ands; assumption)))
                | (go_at_call 79; (with_reducible refine (H2.out _ ?_).mono ?_); rotate_left 1; rintro e w6 ⟨rfl, hb6⟩; rotate_left 1; (first | exact HTd.out | (go_split_ands; assumption)))))
            all_goals clear HTd
            by_cases hq0 : q.1 = 0
            · have hqb : ((q.1 : Int) == 0) = true := by rw [beq_iff_eq]; omega
              have HF := Lib.hid (Hfi.out HDt.out hq0)
              have HQ0 := Lib.hid hq0
              clear hq0
              all_goals go_wp2_with fail
              all_goals go_roundw
              all_goals first
                | (simp [intOf]; omega)
                | exact ⟨j + 1, by omega, by go_num, congrArg (Value.int .i64) (by rw [HF.out, HQ0.out]; rfl), congrArg (Value.int .i64) (by rw [HF.out]), congrArg (Value.int .i64) (by rw [HF.out]), (by go_split_ands; assumption)⟩
            · have hqb : ((q.1 : Int) == 0) = false := by rw [beq_eq_false_iff_ne]; omega
              have HF := Lib.hid (Hmo.out HDt.out hq0)
              clear hq0
              all_goals go_wp2_with fail
              all_goals go_roundw
              all_goals first
                | (simp [intOf]; omega)
                | exact ⟨j + 1, by omega, by go_num, congrArg (Value.int .i64) (by rw [HF.out]; omega), congrArg (Value.int .i64) (by rw [HF.out]), congrArg (Value.int .i64) (by rw [HF.out]), (by go_split_ands; assumption)⟩
          · have hBA : B = A := by
              have : D k j = false := by simpa using hd
              rw [this] at hDe; cases A <;> cases B <;> simp at hDe ⊢
            have HDt := Lib.hid (show D k j = false by simpa using hd)
            subst hBA
            clear hd hDe
            go_wp2_with fail
            go_region_held3 (fun w' => w'.cell? ⟨w.heap.size, 0, none⟩ = some (.int .i64 (n : Int)) ∧ w'.cell? ⟨w.heap.size, 1, none⟩ = some (.slice (some ⟨b, off, none⟩) xs.length c) ∧ w'.cell? ⟨w.heap.size + 1, 0, none⟩ = some (.int .i64 (n : Int)) ∧ w'.cell? ⟨w.heap.size + 1, 1, none⟩ = some (.slice (some ⟨b2, o2, none⟩) ys.length c2) ∧ TwoD w n b off c b2 o2 c2 xs ys w')
              ((first
                | exact HK.out _ HTd.out
                | (refine HK.out _ (TwoD.next ?_ (by assumption)); go_split_ands; assumption)))
              ((first
                | (go_at_call 79; (with_reducible refine (H1.out _ ?_).mono ?_); rotate_left 1; rintro e w5 ⟨rfl, hb5⟩; rotate_left 1; (first | exact HTd.out | (go_split_ands; assumption)))
                | (go_at_call 79; (with_reducible refine (H2.out _ ?_).mono ?_); rotate_left 1; rintro e w6 ⟨rfl, hb6⟩; rotate_left 1; (first | exact HTd.out | (go_split_ands; assumption)))))
            all_goals clear HTd
            have HF := Lib.hid (Hsk.out HDt.out)
            all_goals go_wp2_with fail
            all_goals go_roundw
            all_goals first
              | (simp [intOf]; omega)
              | exact ⟨j + 1, by omega, by go_num, by rw [HF.out], by rw [HF.out], by rw [HF.out], (by go_split_ands; assumption)⟩
        · obtain rfl : j = n := by omega
          rw [HEnd.out]
          go_wp2_with fail
          go_roundw
          case rel => exact ⟨k + 1, by omega, by go_num, rfl, rfl, rfl, HT3.out⟩
          case measure => simp [intOf]; omega
    · obtain rfl : k = xs.length := by omega
      go_wp2_with fail
      refine bodyPost_ret (v := .tuple #[.int .i64 ((dfAll D n xs.length).1 : Int), .int .i64 ((dfAll D n xs.length).2.1 : Int), .int .i64 ((dfAll D n xs.length).2.2 : Int), .int .i64 0]) ?_ rfl ⟨rfl, HT.out.below⟩
      simp [results, Try.results56, go_sem]
end Go.Proofs.Ytjobbleabepaiaa
