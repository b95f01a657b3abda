/- Reflect. · Lay. -/
import Derived.Test.YtdmgffoikebgkaaWO
namespace Go.Proofs.Ytdmgffoikebgkaa
section
open Go.RowKit Go.Shelf

/-- the hooks of a point repeat -/
def reflHooks (n : Nat) : Nat := if 2 < n then 2 * n - 2 else n
def reflG (xs : List Nat) (n : Nat) (i j : Nat) : Bool := bitN (nthN xs i) (if n ≤ j then reflHooks n - j else j)
set_option maxHeartbeats 1000000 in
theorem reflect1_any (n b off c B0 B1 K : Nat) (xs : List Nat) (i j : Nat) (w : World) (hv : VAt w b off c n xs) (hD : DBox w B0 n b off c xs) (hK : w.cell? ⟨B1, 0, none⟩ = some (.int .i64 (K : Int))) (hKe : K = reflHooks n) (hi : i < xs.length) (hj : j < K) :
    Calls Try.prog 149 #[.int .i64 (i : Int), .int .i64 (j : Int), .pointer (some ⟨B0, 0, none⟩), .pointer (some ⟨B1, 0, none⟩)] w
      fun e w' => e = .returned (.bool (reflG xs n i j)) ∧ Below w.heap.size w w' := by
  have h0 := hD.c0
  have h1 := hD.c1
  have n0 := hv.ok.n0
  have n1 := hv.ok.n1
  have l1 := hv.ok.l1
  have hK2 : K ≤ 46 := by rw [hKe]; unfold reflHooks; split <;> omega
  have HV := Lib.hid hv
  by_cases hjn : n ≤ j
  · have he : reflG xs n i j = bitN (nthN xs i) (K - j) := by unfold reflG; rw [if_pos hjn, hKe]
    have He := Lib.hid he
    have HL := fun (y : Int) h2 h3 => paperLifted_int n b off c xs i y w hv.lt (by omega) hv.at' (by omega) (by omega) hv.ok.lt' h2 h3
    clear hv hD he hKe
    have hz : ((K : Int) - j).toNat = K - j := by omega
    have Hz := Lib.hid hz
    clear hz
    go_enter Try.func149, Try.ntmps149
    go_wp2_with fail
    refine (HL _ ?_ ?_).mono ?_
    · omega
    · omega
    rintro e w' ⟨rfl, hb1⟩
    go_wp2_with fail
    go_ret
    exact ⟨ret_bool (by rw [He.out]), hb1⟩
  · have he : reflG xs n i j = bitN (nthN xs i) j := by unfold reflG; rw [if_neg hjn]
    have He := Lib.hid he
    have HL := fun (y : Int) h2 h3 => paperLifted_int n b off c xs i y w hv.lt (by omega) hv.at' (by omega) (by omega) hv.ok.lt' h2 h3
    clear hv hD he hKe
    go_enter Try.func149, Try.ntmps149
    go_wp2_with fail
    refine (HL _ ?_ ?_).mono ?_
    · omega
    · omega
    rintro e w' ⟨rfl, hb1⟩
    go_wp2_with fail
    go_ret
    exact ⟨ret_bool (by rw [He.out]), hb1⟩
/-- what every walk of a function on one design has behind its check -/
theorem res_facts {w w1 : World} {n b off c : Nat} {xs : List Nat} (hb1 : Below (w.heap.size + 1 + 1) ((w.alloc (.cells #[.int .i64 (n : Int), .slice (some ⟨b, off, none⟩) xs.length c] 37)).alloc (.cells #[.int .i64 0, .slice none 0 0] 37)) w1) :
    ResBox w1 (w.heap.size + 1) ∧ DBox w1 w.heap.size n b off c xs ∧ Below w.heap.size w w1 := by
  refine ⟨((ResBox.new (w.alloc (.cells #[.int .i64 (n : Int), .slice (some ⟨b, off, none⟩) xs.length c] 37))).below hb1 (by simp)) |> (fun h => by simpa using h), ⟨?_, ?_⟩, (((Below.refl w.heap.size w).alloc (Nat.le_refl _) _).alloc (by simp) _).trans (hb1.mono (by omega))⟩
  · exact (hb1.cell (p := ⟨w.heap.size, 0, none⟩) (by show w.heap.size < w.heap.size + 1 + 1; omega)).trans (by simp)
  · exact (hb1.cell (p := ⟨w.heap.size, 1, none⟩) (by show w.heap.size < w.heap.size + 1 + 1; omega)).trans (by simp)
set_option maxHeartbeats 1000000 in
theorem Reflect_ok (n b off c : Nat) (xs : List Nat) (w : World) (hv : VAt w b off c n xs) (hK : reflHooks n ≤ 24) :
    Calls Try.prog 74 #[.agg #[.int .i64 (n : Int), .slice (some ⟨b, off, none⟩) xs.length c]] w (OkD (reflHooks n) (painted (reflG xs n) xs.length (reflHooks n)) w) := by
  have Hc := fun o o2 => check_res n (some ⟨b, off, none⟩) c (ints xs) w o o2 (by rw [ints_len]; exact hv.reads) 0 hv.ok.check
  simp only [ints_len] at Hc
  have HV := Lib.hid hv
  have n0 := hv.ok.n0
  have n1 := hv.ok.n1
  have l1 := hv.ok.l1
  have heg := enters_of Try.func149 (by kernel_rfl) rfl
  obtain ⟨K, hKe⟩ : ∃ K, K = reflHooks n := ⟨_, rfl⟩
  rw [← hKe] at hK ⊢
  have HKe := Lib.hid hKe
  clear hv hKe
  go_enter Try.func74, Try.ntmps74
  go_wp2_with fail
  refine (Hc _ _).mono ?_
  rintro e w1 ⟨rfl, hb1⟩
  obtain ⟨q, hD, hB⟩ := res_facts hb1
  have d0 := hD.c0
  have d1 := hD.c1
  have Hq := Lib.hid q
  have Hd := Lib.hid hD
  have Hb := Lib.hid hB
  have hzw : w.heap.size + 1 < w1.heap.size := q.lt
  clear hb1 q hB hD
  have a0 : ∀ v, (w1.alloc (.cells #[.int .i64 v] 3)).cell? ⟨w.heap.size, 0, none⟩ = some (.int .i64 (n : Int)) := fun v => cell_lift' d0 ((Below.refl _ _).alloc (Nat.le_refl _) _) (Nat.le_refl _)
  have a1 : ∀ v, (w1.alloc (.cells #[.int .i64 v] 3)).cell? ⟨w.heap.size, 1, none⟩ = some (.slice (some ⟨b, off, none⟩) xs.length c) := fun v => cell_lift' d1 ((Below.refl _ _).alloc (Nat.le_refl _) _) (Nat.le_refl _)
  have hB2 : Below w1.heap.size w1 (w1.alloc (.cells #[.int .i64 (K : Int)] 3)) := (Below.refl _ _).alloc (Nat.le_refl _) _
  have HC : Cond 149 #[.pointer (some ⟨w.heap.size, 0, none⟩), .pointer (some ⟨w1.heap.size, 0, none⟩)] xs.length K (reflG xs n) (w1.alloc (.cells #[.int .i64 (K : Int)] 3)) := by
    intro W i j hB hi hj
    refine reflect1_any n b off c _ _ K xs i j W (((HV.out.below Hb.out).below hB2).below hB) ((Hd.out.below hB2 Hd.out.lt).below hB (Nat.lt_of_lt_of_le Hd.out.lt hB2.size)) (cell_lift' (cell_box1 _ _ _) hB (Nat.le_refl _)) HKe.out hi hj
  have HP := Lib.hid (paint_any 149 _ heg xs.length K (reflG xs n) _ l1 hK HC)
  have HQ2 := Lib.hid (Hq.out.below hB2 Hq.out.lt)
  have HB2 := Lib.hid (Hb.out.trans (hB2.mono Hb.out.size))
  clear HC hB2
  have hk2 : (if 2 < n then (2 : Int) * n - 2 else n) = (K : Int) := by rw [HKe.out]; unfold reflHooks; split <;> omega
  have Hk2 := Lib.hid hk2
  clear hk2
  by_cases h2 : 2 < n
  · have hk3 : (2 : Int) * n - 2 ≤ 24 := by have := Hk2.out; rw [if_pos h2] at this; omega
    go_wp2_with fail
    have eK : (2 : Int) * n - 2 = (K : Int) := by have := Hk2.out; rw [if_pos h2] at this; exact this
    rw [eK]
    refine HP.out.mono ?_
    rintro e w3 ⟨R, rfl, hR0, hR1, hR2⟩
    have q6 := HQ2.out.below hR2 HQ2.out.lt
    have k0 := q6.c0
    have k1 := q6.c1
    have k2 := q6.f 0
    have k3 := q6.f 1
    have HR0 := Lib.hid hR0
    have HR1 := Lib.hid hR1
    have HR2 := Lib.hid hR2
    clear hR0 hR1 hR2 q6 eK
    go_wp2_with fail
    refine bodyPost_ret (v := .tuple #[.agg #[.int .i64 (K : Int), .slice (some ⟨R, 0, none⟩) xs.length xs.length], .int .i64 0]) ?_ rfl ⟨R, by rw [painted_len], ?_, ?_, ?_⟩
    · simp [results, Try.results74, go_sem, k0, k1]
    · exact Nat.le_trans HB2.out.size HR0.out
    · have hz := HR0.out
      simp only [World.size_alloc] at hz
      exact (Below.heap_setCell _ _ _ _ (by simp; omega)).trans ((Below.heap_setCell _ _ _ _ (by simp; omega)).trans HR1.out)
    · exact ((HB2.out.trans (HR2.out.mono HB2.out.size)).setCell (by simp) _).setCell (by simp) _
  · have hk3 : (n : Int) ≤ 24 := by omega
    have eK : n = K := by have := Hk2.out; rw [if_neg h2] at this; omega
    have EK := Lib.hid eK
    clear eK
    go_wp2_with fail
    obtain rfl : n = K := EK.out
    refine HP.out.mono ?_
    rintro e w3 ⟨R, rfl, hR0, hR1, hR2⟩
    have q6 := HQ2.out.below hR2 HQ2.out.lt
    have k0 := q6.c0
    have k1 := q6.c1
    have k2 := q6.f 0
    have k3 := q6.f 1
    have HR0 := Lib.hid hR0
    have HR1 := Lib.hid hR1
    have HR2 := Lib.hid hR2
    clear hR0 hR1 hR2 q6
    go_wp2_with fail
    refine bodyPost_ret (v := .tuple #[.agg #[.int .i64 (n : Int), .slice (some ⟨R, 0, none⟩) xs.length xs.length], .int .i64 0]) ?_ rfl ⟨R, by rw [painted_len], ?_, ?_, ?_⟩
    · simp [results, Try.results74, go_sem, k0, k1]
    · exact Nat.le_trans HB2.out.size HR0.out
    · have hz := HR0.out
      simp only [World.size_alloc] at hz
      exact (Below.heap_setCell _ _ _ _ (by simp; omega)).trans ((Below.heap_setCell _ _ _ _ (by simp; omega)).trans HR1.out)
    · exact ((HB2.out.trans (HR2.out.mono HB2.out.size)).setCell (by simp) _).setCell (by simp) _
end
end Go.Proofs.Ytdmgffoikebgkaa
