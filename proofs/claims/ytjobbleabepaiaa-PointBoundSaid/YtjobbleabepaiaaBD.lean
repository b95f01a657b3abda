/- How many points of two designs are different, and whether a design is bound: point by point. -/
import Derived.Test.YtjobbleabepaiaaXP
import Derived.Test.YtjobbleabepaiaaZB
namespace Go.Proofs.Ytjobbleabepaiaa
open Go.RowKit Go.Shelf

def chSel (pick : Int) (i : Nat) : Bool := decide (pick < 0) || decide (pick = (i : Int))
def chAll (pick : Int) (n : Nat) (xs ys : List Nat) : Nat → Nat
  | 0 => 0
  | i + 1 => chAll pick n xs ys i + if chSel pick i then ham (nthN xs i) (nthN ys i) n else 0
theorem chAll_le (pick : Int) (n : Nat) (xs ys : List Nat) : ∀ k, chAll pick n xs ys k ≤ k * n
  | 0 => Nat.zero_le _
  | k + 1 => by
    have h1 := chAll_le pick n xs ys k
    have h2 := ham_le (nthN xs k) (nthN ys k) n
    rw [chAll, Nat.add_mul]; split <;> omega

set_option maxRecDepth 100000 in
set_option maxHeartbeats 4000000 in
theorem changes_any (n b off c b2 o2 c2 : Nat) (xs ys : List Nat) (pick : Int) (w : World) (hv : VAt w b off c n xs) (hv2 : VAt w b2 o2 c2 n ys) (hl : ys.length = xs.length) :
    Calls Try.prog 62 #[.agg #[.int .i64 (n : Int), .slice (some ⟨b, off, none⟩) xs.length c], .agg #[.int .i64 (n : Int), .slice (some ⟨b2, o2, none⟩) ys.length c2], .int .i64 pick] w
      fun e w' => e = .returned (.int .i64 (chAll pick n xs ys xs.length : Int)) ∧ Below w.heap.size w w' := by
  have l1 := hv.ok.l1
  have n1 := hv.ok.n1
  have HT0 := Lib.hid (TwoD.new w n b off c b2 o2 c2 xs ys)
  have HV := Lib.hid hv
  have HV2 := Lib.hid hv2
  have HL := Lib.hid hl
  clear hv hv2 hl
  go_enter Try.func62, Try.ntmps62
  go_wp2_with fail
  go_loopw [7, 8] (fun m i wr => ∃ k : Nat, k ≤ xs.length ∧ i = .int .i64 k ∧ m = .int .i64 (chAll pick n xs ys k : Int) ∧ TwoD w n b off c b2 o2 c2 xs ys wr) (fun _ i _ => xs.length - (intOf i).toNat)
  case atStart => exact ⟨0, Nat.zero_le _, rfl, rfl, HT0.out⟩
  case round =>
    obtain ⟨k, hk, rfl, rfl, hT⟩ := hrel
    have d0 := hT.d.c0
    have d1 := hT.d.c1
    have HT := Lib.hid hT
    clear hT HT0
    by_cases hlt : k < xs.length
    · have hcnt := chAll_le pick n xs ys k
      have hmul : k * n ≤ 1440 := by
        have h1 : k * n ≤ 60 * 24 := Nat.mul_le_mul (by omega) n1
        omega
      have Hc0 := Lib.hid (show chAll pick n xs ys k ≤ 1440 by omega)
      have HSt := Lib.hid (show chAll pick n xs ys (k + 1) = chAll pick n xs ys k + if chSel pick k then ham (nthN xs k) (nthN ys k) n else 0 from rfl)
      clear hcnt hmul
      obtain ⟨C, hC⟩ : ∃ C, C = chAll pick n xs ys k := ⟨_, rfl⟩
      rw [← hC] at Hc0 HSt ⊢
      clear hC
      cases hsel : chSel pick k with
      | false =>
        rw [hsel] at HSt
        have hp0 : ¬ pick < 0 := fun h => by simp [chSel, h] at hsel
        have hp1 : (pick == (k : Int)) = false := by
          rw [beq_eq_false_iff_ne]; intro h; simp [chSel, h] at hsel
        clear hsel
        go_wp2_with fail
        go_loopw [7, 9] (fun m h wi => m = .int .i64 (C : Int) ∧ h = .int .i64 0 ∧ TwoD w n b off c b2 o2 c2 xs ys wi) (fun _ _ _ => 0)
        case atStart => exact ⟨rfl, rfl, HT.out⟩
        case round =>
          obtain ⟨rfl, rfl, hT3⟩ := hrel
          have z0 := hT3.d.c0
          have HT3 := Lib.hid hT3
          clear hT3 HT
          go_wp2_with fail
          all_goals exact ⟨⟨k + 1, by omega, by go_num, congrArg (Value.int .i64) (by rw [HSt.out]; simp), HT3.out⟩, by simp [intOf]; omega⟩
      | true =>
        rw [hsel] at HSt
        have hpk : pick < 0 ∨ pick = (k : Int) := by
          by_cases h : pick < 0
          · exact .inl h
          · simp [chSel, h] at hsel; exact .inr hsel
        clear hsel
        go_wp2_with fail
        go_loopw [7, 9] (fun m h wi => ∃ j : Nat, j ≤ n ∧ h = .int .i64 j ∧ m = .int .i64 ((C + ham (nthN xs k) (nthN ys k) j : Nat) : Int) ∧ TwoD w n b off c b2 o2 c2 xs ys wi) (fun _ h _ => n - (intOf h).toNat)
        case atStart => exact ⟨0, Nat.zero_le _, rfl, by simp [ham], HT.out⟩
        case round =>
          obtain ⟨j, hj, rfl, rfl, hT3⟩ := hrel
          have z0 := hT3.d.c0
          have hham := ham_le (nthN xs k) (nthN ys k) j
          have HT3 := Lib.hid hT3
          clear hT3 HT
          by_cases hjl : j < n
          · have HSn := Lib.hid (show ham (nthN xs k) (nthN ys k) (j + 1) = ham (nthN xs k) (nthN ys k) j + if (bitN (nthN xs k) j).toNat = (bitN (nthN ys k) j).toNat then 0 else 1 from rfl)
            obtain ⟨q, hq⟩ : ∃ q, q = ham (nthN xs k) (nthN ys k) j := ⟨_, rfl⟩
            rw [← hq] at HSn hham ⊢
            clear hq
            have hC := Hc0.out
            have H1 := Lib.hid (fun W (h : TwoD w n b off c b2 o2 c2 xs ys W) => lifted_any n b off c xs (k : Int) (j : Int) W (HV.out.below h.below) (by omega) (by omega))
            have H2 := Lib.hid (fun W (h : TwoD w n b off c b2 o2 c2 xs ys W) => lifted_any n b2 o2 c2 ys (k : Int) (j : Int) W (HV2.out.below h.below) (by omega) (by omega))
            have e1 : pt n xs (k : Int).toNat (j : Int).toNat = bitN (nthN xs k) j := by unfold pt; rw [Int.toNat_natCast, Int.toNat_natCast, Nat.mod_eq_of_lt hlt, Nat.mod_eq_of_lt hjl]
            have e2 : pt n ys (k : Int).toNat (j : Int).toNat = bitN (nthN ys k) j := by unfold pt; rw [Int.toNat_natCast, Int.toNat_natCast, Nat.mod_eq_of_lt (by rw [HL.out]; exact hlt), Nat.mod_eq_of_lt hjl]
            rw [e1] at H1
            rw [e2] at H2
            clear e1 e2
            obtain ⟨A, hA⟩ : ∃ A, A = bitN (nthN xs k) j := ⟨_, rfl⟩
            obtain ⟨B, hB⟩ : ∃ B, B = bitN (nthN ys k) j := ⟨_, rfl⟩
            rw [← hA, ← hB] at HSn
            rw [← hA] at H1
            rw [← hB] at H2
            clear hA hB
            have HK := Lib.hid (fun W (h : TwoD w n b off c b2 o2 c2 xs ys W) => (⟨h.d.c0, h.d.c1, h.e.c0, h.e.c1, h⟩ : W.cell? ⟨w.heap.size, 0, none⟩ = some (.int .i64 (n : Int)) ∧ W.cell? ⟨w.heap.size, 1, none⟩ = some (.slice (some ⟨b, off, none⟩) xs.length c) ∧ W.cell? ⟨w.heap.size + 1, 0, none⟩ = some (.int .i64 (n : Int)) ∧ W.cell? ⟨w.heap.size + 1, 1, none⟩ = some (.slice (some ⟨b2, o2, none⟩) ys.length c2) ∧ TwoD w n b off c b2 o2 c2 xs ys W))
            have HTd := Lib.hid (HT3.out.next (below_drew1 wr))
            have hpn : pick < 0 ∨ ((¬ pick < 0) ∧ (pick == (k : Int)) = true) := by
              by_cases h : pick < 0
              · exact .inl h
              · rcases hpk with h2 | h2
                · exact .inl h2
                · exact .inr ⟨h, by simpa using h2⟩
            clear hpk
            by_cases hAB : B = A
            · subst hAB
              have HSn2 : Hid (ham (nthN xs k) (nthN ys k) (j + 1) = q) := Lib.hid (by rw [HSn.out, if_pos rfl, Nat.add_zero])
              have hbb : (B != B) = false := by cases B <;> rfl
              clear HSn
              rcases hpn with hneg | ⟨hge, hpe⟩
              · skip
                go_wp2_with fail
                go_region_held3 (fun w' => w'.cell? ⟨w.heap.size, 0, none⟩ = some (.int .i64 (n : Int)) ∧ w'.cell? ⟨w.heap.size, 1, none⟩ = some (.slice (some ⟨b, off, none⟩) xs.length c) ∧ w'.cell? ⟨w.heap.size + 1, 0, none⟩ = some (.int .i64 (n : Int)) ∧ w'.cell? ⟨w.heap.size + 1, 1, none⟩ = some (.slice (some ⟨b2, o2, none⟩) ys.length c2) ∧ TwoD w n b off c b2 o2 c2 xs ys w')
                  ((first
                    | exact HK.out _ HTd.out
                    | (refine HK.out _ (TwoD.next ?_ (by assumption)); go_split_ands; assumption)))
                  ((first
                    | (go_at_call 63; (with_reducible refine (H1.out _ ?_).mono ?_); rotate_left 1; rintro e w5 ⟨rfl, hb5⟩; rotate_left 1; (first | exact HTd.out | (go_split_ands; assumption)))
                    | (go_at_call 63; (with_reducible refine (H2.out _ ?_).mono ?_); rotate_left 1; rintro e w6 ⟨rfl, hb6⟩; rotate_left 1; (first | exact HTd.out | (go_split_ands; assumption)))))
                all_goals clear HTd
                all_goals go_wp2_with fail
                all_goals go_roundw
                all_goals first
                  | (simp [intOf]; omega)
                  | exact ⟨j + 1, by omega, by go_num, congrArg (Value.int .i64) (by rw [HSn2.out]; omega), (by go_split_ands; assumption)⟩
              · skip
                go_wp2_with fail
                go_region_held3 (fun w' => w'.cell? ⟨w.heap.size, 0, none⟩ = some (.int .i64 (n : Int)) ∧ w'.cell? ⟨w.heap.size, 1, none⟩ = some (.slice (some ⟨b, off, none⟩) xs.length c) ∧ w'.cell? ⟨w.heap.size + 1, 0, none⟩ = some (.int .i64 (n : Int)) ∧ w'.cell? ⟨w.heap.size + 1, 1, none⟩ = some (.slice (some ⟨b2, o2, none⟩) ys.length c2) ∧ TwoD w n b off c b2 o2 c2 xs ys w')
                  ((first
                    | exact HK.out _ HTd.out
                    | (refine HK.out _ (TwoD.next ?_ (by assumption)); go_split_ands; assumption)))
                  ((first
                    | (go_at_call 63; (with_reducible refine (H1.out _ ?_).mono ?_); rotate_left 1; rintro e w5 ⟨rfl, hb5⟩; rotate_left 1; (first | exact HTd.out | (go_split_ands; assumption)))
                    | (go_at_call 63; (with_reducible refine (H2.out _ ?_).mono ?_); rotate_left 1; rintro e w6 ⟨rfl, hb6⟩; rotate_left 1; (first | exact HTd.out | (go_split_ands; assumption)))))
                all_goals clear HTd
                all_goals go_wp2_with fail
                all_goals go_roundw
                all_goals first
                  | (simp [intOf]; omega)
                  | exact ⟨j + 1, by omega, by go_num, congrArg (Value.int .i64) (by rw [HSn2.out]; omega), (by go_split_ands; assumption)⟩
            · have hBA : B = !A := by cases A <;> cases B <;> simp at hAB ⊢
              subst hBA
              have HSn2 : Hid (ham (nthN xs k) (nthN ys k) (j + 1) = q + 1) := Lib.hid (by rw [HSn.out, if_neg (by cases A <;> simp)])
              have hbb : (A != !A) = true := by cases A <;> rfl
              clear hAB HSn
              rcases hpn with hneg | ⟨hge, hpe⟩
              · skip
                go_wp2_with fail
                go_region_held3 (fun w' => w'.cell? ⟨w.heap.size, 0, none⟩ = some (.int .i64 (n : Int)) ∧ w'.cell? ⟨w.heap.size, 1, none⟩ = some (.slice (some ⟨b, off, none⟩) xs.length c) ∧ w'.cell? ⟨w.heap.size + 1, 0, none⟩ = some (.int .i64 (n : Int)) ∧ w'.cell? ⟨w.heap.size + 1, 1, none⟩ = some (.slice (some ⟨b2, o2, none⟩) ys.length c2) ∧ TwoD w n b off c b2 o2 c2 xs ys w')
                  ((first
                    | exact HK.out _ HTd.out
                    | (refine HK.out _ (TwoD.next ?_ (by assumption)); go_split_ands; assumption)))
                  ((first
                    | (go_at_call 63; (with_reducible refine (H1.out _ ?_).mono ?_); rotate_left 1; rintro e w5 ⟨rfl, hb5⟩; rotate_left 1; (first | exact HTd.out | (go_split_ands; assumption)))
                    | (go_at_call 63; (with_reducible refine (H2.out _ ?_).mono ?_); rotate_left 1; rintro e w6 ⟨rfl, hb6⟩; rotate_left 1; (first | exact HTd.out | (go_split_ands; assumption)))))
                all_goals clear HTd
                all_goals go_wp2_with fail
                all_goals go_roundw
                all_goals first
                  | (simp [intOf]; omega)
                  | exact ⟨j + 1, by omega, by go_num, congrArg (Value.int .i64) (by rw [HSn2.out]; omega), (by go_split_ands; assumption)⟩
              · skip
                go_wp2_with fail
                go_region_held3 (fun w' => w'.cell? ⟨w.heap.size, 0, none⟩ = some (.int .i64 (n : Int)) ∧ w'.cell? ⟨w.heap.size, 1, none⟩ = some (.slice (some ⟨b, off, none⟩) xs.length c) ∧ w'.cell? ⟨w.heap.size + 1, 0, none⟩ = some (.int .i64 (n : Int)) ∧ w'.cell? ⟨w.heap.size + 1, 1, none⟩ = some (.slice (some ⟨b2, o2, none⟩) ys.length c2) ∧ TwoD w n b off c b2 o2 c2 xs ys w')
                  ((first
                    | exact HK.out _ HTd.out
                    | (refine HK.out _ (TwoD.next ?_ (by assumption)); go_split_ands; assumption)))
                  ((first
                    | (go_at_call 63; (with_reducible refine (H1.out _ ?_).mono ?_); rotate_left 1; rintro e w5 ⟨rfl, hb5⟩; rotate_left 1; (first | exact HTd.out | (go_split_ands; assumption)))
                    | (go_at_call 63; (with_reducible refine (H2.out _ ?_).mono ?_); rotate_left 1; rintro e w6 ⟨rfl, hb6⟩; rotate_left 1; (first | exact HTd.out | (go_split_ands; assumption)))))
                all_goals clear HTd
                all_goals go_wp2_with fail
                all_goals go_roundw
                all_goals first
                  | (simp [intOf]; omega)
                  | exact ⟨j + 1, by omega, by go_num, congrArg (Value.int .i64) (by rw [HSn2.out]; omega), (by go_split_ands; assumption)⟩
          · obtain rfl : j = n := by omega
            go_wp2_with fail
            all_goals exact ⟨⟨k + 1, by omega, by go_num, congrArg (Value.int .i64) (by rw [HSt.out]; simp), HT3.out⟩, by simp [intOf]; omega⟩
    · obtain rfl : k = xs.length := by omega
      go_wp2_with fail
      go_ret
      exact ⟨rfl, HT.out.below⟩
end Go.Proofs.Ytjobbleabepaiaa
namespace Go.Proofs.Ytjobbleabepaiaa
open Go.RowKit Go.Shelf
/-- one design in a box -/
structure OneD (w0 : World) (n b off c : Nat) (xs : List Nat) (W : World) : Prop where
  d : DBox W w0.heap.size n b off c xs
  below : Below w0.heap.size w0 W
theorem OneD.next {w0 W W' : World} {n b off c : Nat} {xs : List Nat} (h : OneD w0 n b off c xs W) (hb : Below W.heap.size W W') : OneD w0 n b off c xs W' :=
  ⟨h.d.below hb h.d.lt, h.below.trans (hb.mono h.below.size)⟩
theorem OneD.drew {w0 W : World} {n b off c : Nat} {xs : List Nat} (h : OneD w0 n b off c xs W) : OneD w0 n b off c xs W.drew := h.next (below_drew1 W)
theorem OneD.new (w : World) (n b off c : Nat) (xs : List Nat) : OneD w n b off c xs (w.alloc (.cells #[.int .i64 (n : Int), .slice (some ⟨b, off, none⟩) xs.length c] 24)) :=
  ⟨DBox.new w n b off c xs, below1 w _⟩
theorem not_bound {x n m j t : Nat} (hj : j < n) (hal : ∀ u, u < t → bitN x ((j + u) % n) = bitN x j) (ht : m < t ∨ n < t) : ¬ BoundUp x n m := by
  intro h
  obtain ⟨u, hu, hne⟩ := h j hj
  by_cases hut : u < t
  · exact hne (hal u hut)
  · have hlt := Nat.mod_lt u (show 0 < n by omega)
    have := hal (u % n) (by omega)
    rw [Nat.add_mod_mod] at this
    exact hne this
/-- whether all rows are bound -/
def BoundRes (n m : Nat) (xs : List Nat) (e : Ending) : Prop := ∃ B : Bool, e = .returned (.bool B) ∧ (B = true ↔ ∀ i, i < xs.length → BoundUp (nthN xs i) n m)
theorem BoundRes.no {n m k : Nat} {xs : List Nat} (hk : k < xs.length) (h : ¬ BoundUp (nthN xs k) n m) : BoundRes n m xs (.returned (.bool false)) :=
  ⟨false, rfl, by simp only [Bool.false_eq_true, false_iff]; exact fun h2 => h (h2 k hk)⟩
theorem BoundRes.yes {n m : Nat} {xs : List Nat} (h : ∀ i, i < xs.length → BoundUp (nthN xs i) n m) : BoundRes n m xs (.returned (.bool true)) :=
  ⟨true, rfl, by simp only [true_iff]; exact h⟩

set_option maxRecDepth 100000 in
set_option maxHeartbeats 4000000 in
theorem bound_any (n b off c m : Nat) (xs : List Nat) (w : World) (hv : VAt w b off c n xs) (hm : m ≤ 24) :
    Calls Try.prog 60 #[.agg #[.int .i64 (n : Int), .slice (some ⟨b, off, none⟩) xs.length c], .int .i64 (m : Int)] w
      fun e w' => BoundRes n m xs e ∧ Below w.heap.size w w' := by
  have l1 := hv.ok.l1
  have n1 := hv.ok.n1
  have n0 := hv.ok.n0
  have HT0 := Lib.hid (OneD.new w n b off c xs)
  have HV := Lib.hid hv
  clear hv
  go_enter Try.func60, Try.ntmps60
  go_wp2_with fail
  go_loopw [5] (fun i wr => ∃ k : Nat, k ≤ xs.length ∧ i = .int .i64 k ∧ (∀ q, q < k → BoundUp (nthN xs q) n m) ∧ OneD w n b off c xs wr) (fun i _ => xs.length - (intOf i).toNat)
  case atStart => exact ⟨0, Nat.zero_le _, rfl, fun q hq => by omega, HT0.out⟩
  case round =>
    obtain ⟨k, hk, rfl, hbd, hT⟩ := hrel
    have d1 := hT.d.c1
    have HT := Lib.hid hT
    have HBd := Lib.hid hbd
    clear hT HT0 hbd
    by_cases hlt : k < xs.length
    · obtain ⟨x, hx⟩ : ∃ x, x = nthN xs k := ⟨_, rfl⟩
      have HX := Lib.hid hx
      go_wp2_with fail
      go_loopw [6] (fun h wi => ∃ j : Nat, j ≤ n ∧ h = .int .i64 j ∧ (∀ q, q < j → ∃ t, t ≤ m ∧ bitN x ((q + t) % n) ≠ bitN x q) ∧ OneD w n b off c xs wi) (fun h _ => n - (intOf h).toNat)
      case atStart => exact ⟨0, Nat.zero_le _, rfl, fun q hq => by omega, HT.out⟩
      case round =>
        obtain ⟨j, hj, rfl, hrow, hT2⟩ := hrel
        have z0 := hT2.d.c0
        have HT2 := Lib.hid hT2
        have HRow := Lib.hid hrow
        clear hT2 HT hrow d1
        by_cases hjl : j < n
        · go_wp2_with fail
          go_loopw [7] (fun t wz => ∃ T : Nat, 1 ≤ T ∧ T ≤ n + 1 ∧ t = .int .i64 T ∧ (∀ u, u < T → bitN x ((j + u) % n) = bitN x j) ∧ OneD w n b off c xs wz) (fun t _ => n + 1 - (intOf t).toNat)
          case atStart =>
            refine ⟨1, Nat.le_refl _, by omega, rfl, fun u hu => ?_, HT2.out⟩
            obtain rfl : u = 0 := by omega
            rw [Nat.add_zero, Nat.mod_eq_of_lt hjl]
          case round =>
            obtain ⟨T, hT1, hT2', rfl, hal, hT3⟩ := hrel
            have y0 := hT3.d.c0
            have HT3 := Lib.hid hT3
            have HAl := Lib.hid hal
            clear hT3 hal HT2 z0
            by_cases hTn : T ≤ n
            · have hTn2 : (T : Int) ≤ (n : Int) := by omega
              have H1 := Lib.hid (fun W (h : OneD w n b off c xs W) => lifted_any n b off c xs (k : Int) ((j : Int) + (T : Int)) W (HV.out.below h.below) (by omega) (by omega))
              have H2 := Lib.hid (fun W (h : OneD w n b off c xs W) => lifted_any n b off c xs (k : Int) (j : Int) W (HV.out.below h.below) (by omega) (by omega))
              have e1 : pt n xs (k : Int).toNat ((j : Int) + (T : Int)).toNat = bitN x ((j + T) % n) := by unfold pt; rw [Int.toNat_natCast, Nat.mod_eq_of_lt hlt, ← HX.out, show ((j : Int) + (T : Int)).toNat = j + T by omega]
              have e2 : pt n xs (k : Int).toNat (j : Int).toNat = bitN x j := by unfold pt; rw [Int.toNat_natCast, Int.toNat_natCast, Nat.mod_eq_of_lt hlt, Nat.mod_eq_of_lt hjl, ← HX.out]
              rw [e1] at H1
              rw [e2] at H2
              have hwr : IntKind.i64.wrap ((j : Int) + (T : Int)) = (j : Int) + (T : Int) := IntWalk.i64_in _ (by omega)
              rw [← hwr] at H1
              clear e1 e2 hwr
              obtain ⟨A, hA⟩ : ∃ A, A = bitN x ((j + T) % n) := ⟨_, rfl⟩
              obtain ⟨B, hB⟩ : ∃ B, B = bitN x j := ⟨_, rfl⟩
              rw [← hA] at H1
              rw [← hB] at H2
              have HA := Lib.hid hA
              have HB := Lib.hid hB
              clear hA hB
              have HK := Lib.hid (fun W (h : OneD w n b off c xs W) => (⟨h.d.c0, h.d.c1, h⟩ : W.cell? ⟨w.heap.size, 0, none⟩ = some (.int .i64 (n : Int)) ∧ W.cell? ⟨w.heap.size, 1, none⟩ = some (.slice (some ⟨b, off, none⟩) xs.length c) ∧ OneD w n b off c xs W))
              have HTd := Lib.hid (HT3.out.next (below_drew1 wr))
              by_cases hAB : A = B
              · subst hAB
                have HN := Lib.hid (show ∀ u, u < T + 1 → bitN x ((j + u) % n) = bitN x j from fun u hu => by
                  by_cases h : u < T
                  · exact HAl.out u h
                  · obtain rfl : u = T := by omega
                    rw [← HA.out, HB.out])
                go_wp2_with fail
                go_region_held3 (fun w' => w'.cell? ⟨w.heap.size, 0, none⟩ = some (.int .i64 (n : Int)) ∧ w'.cell? ⟨w.heap.size, 1, none⟩ = some (.slice (some ⟨b, off, none⟩) xs.length c) ∧ OneD w n b off c xs w')
                  ((first
                    | exact HK.out _ HTd.out
                    | (refine HK.out _ (OneD.next ?_ (by assumption)); go_split_ands; assumption)))
                  ((first
                    | (go_at_call 63; (with_reducible refine (H1.out _ ?_).mono ?_); rotate_left 1; rintro e w5 ⟨rfl, hb5⟩; rotate_left 1; (first | exact HTd.out | (go_split_ands; assumption)))
                    | (go_at_call 63; (with_reducible refine (H2.out _ ?_).mono ?_); rotate_left 1; rintro e w6 ⟨rfl, hb6⟩; rotate_left 1; (first | exact HTd.out | (go_split_ands; assumption)))))
                all_goals clear HTd
                all_goals have HTz := Lib.hid (show OneD w n b off c xs _ from (by go_split_ands; assumption))
                all_goals go_wp2_with fail
                all_goals go_roundw
                all_goals first
                  | (simp [intOf]; omega)
                  | exact ⟨T + 1, by omega, by omega, by go_num, HN.out, HTz.out⟩
              · have hAB2 : (A == B) = false := by simpa using hAB
                have HAB := Lib.hid hAB
                clear hAB
                go_wp2_with fail
                go_region_held3 (fun w' => w'.cell? ⟨w.heap.size, 0, none⟩ = some (.int .i64 (n : Int)) ∧ w'.cell? ⟨w.heap.size, 1, none⟩ = some (.slice (some ⟨b, off, none⟩) xs.length c) ∧ OneD w n b off c xs w')
                  ((first
                    | exact HK.out _ HTd.out
                    | (refine HK.out _ (OneD.next ?_ (by assumption)); go_split_ands; assumption)))
                  ((first
                    | (go_at_call 63; (with_reducible refine (H1.out _ ?_).mono ?_); rotate_left 1; rintro e w5 ⟨rfl, hb5⟩; rotate_left 1; (first | exact HTd.out | (go_split_ands; assumption)))
                    | (go_at_call 63; (with_reducible refine (H2.out _ ?_).mono ?_); rotate_left 1; rintro e w6 ⟨rfl, hb6⟩; rotate_left 1; (first | exact HTd.out | (go_split_ands; assumption)))))
                all_goals clear HTd
                all_goals have HTz := Lib.hid (show OneD w n b off c xs _ from (by go_split_ands; assumption))
                all_goals have q0 := HTz.out.d.c0
                all_goals
                  by_cases hTm : T ≤ m
                  · have hTm2 : (T : Int) ≤ (m : Int) := by omega
                    have HN := Lib.hid (show ∀ q, q < j + 1 → ∃ t, t ≤ m ∧ bitN x ((q + t) % n) ≠ bitN x q from fun q hq => by
                      by_cases h : q < j
                      · exact HRow.out q h
                      · obtain rfl : q = j := by omega
                        exact ⟨T, hTm, by rw [← HA.out, ← HB.out]; exact HAB.out⟩)
                    go_wp2_with fail
                    go_roundw
                    case rel => exact ⟨j + 1, by omega, by go_num, HN.out, HTz.out⟩
                    case measure => simp [intOf]; omega
                  · have hTm2 : ¬ (T : Int) ≤ (m : Int) := by omega
                    have HN := Lib.hid (show ¬ BoundUp (nthN xs k) n m from by rw [← HX.out]; exact not_bound hjl HAl.out (.inl (by omega)))
                    go_wp2_with fail
                    go_ret
                    exact ⟨BoundRes.no hlt HN.out, HTz.out.below⟩
            · have hTn2 : ¬ (T : Int) ≤ (n : Int) := by omega
              have HN := Lib.hid (show ¬ BoundUp (nthN xs k) n m from by rw [← HX.out]; exact not_bound hjl HAl.out (.inr (by omega)))
              by_cases hTm : T ≤ m
              · have hTm2 : (T : Int) ≤ (m : Int) := by omega
                go_wp2_with fail
                all_goals go_region
                all_goals go_wp2_with fail
                all_goals go_ret
                all_goals exact ⟨BoundRes.no hlt HN.out, HT3.out.drew.below⟩
              · have hTm2 : ¬ (T : Int) ≤ (m : Int) := by omega
                go_wp2_with fail
                all_goals go_region
                all_goals go_wp2_with fail
                all_goals go_ret
                all_goals exact ⟨BoundRes.no hlt HN.out, HT3.out.drew.below⟩
        · obtain rfl : j = n := by omega
          have HN := Lib.hid (show ∀ q, q < k + 1 → BoundUp (nthN xs q) j m from fun q hq => by
            by_cases h : q < k
            · exact HBd.out q h
            · obtain rfl : q = k := by omega
              rw [← HX.out]; exact HRow.out)
          go_wp2_with fail
          go_roundw
          case rel => exact ⟨k + 1, by omega, by go_num, HN.out, HT2.out⟩
          case measure => simp [intOf]; omega
    · obtain rfl : k = xs.length := by omega
      go_wp2_with fail
      go_ret
      exact ⟨BoundRes.yes HBd.out, HT.out.below⟩
end Go.Proofs.Ytjobbleabepaiaa
