/- The law's helpers: In, Check of the reference, large, ints, own. · ints and own: copies. -/
import Derived.Test.YtjobbleabepaiaaVI
import Derived.Maps.AppendAt
import Derived.Deep.RegionWith
import Derived.Deep.AppendLies
import Derived.Test.YtjobbleabepaiaaWO
namespace Go.Proofs.Ytjobbleabepaiaa
section
open Go.RowKit

theorem below_drewN (W : World) (k : Nat) : ∀ j, Below k W (W.drewN j)
  | 0 => Below.refl _ _
  | j + 1 => (below_drewN W k j).drew
theorem In_any (n a c : Int) (w : World) :
    Calls Try.prog 24 #[.int .i64 n, .int .i64 a, .int .i64 c] w fun e w' => e = .returned (.bool (decide (a ≤ n) && decide (n ≤ c))) ∧ w = w' := by
  go_enter Try.func24, Try.ntmps24
  go_wp2
  all_goals go_ret
  · have h : a ≤ n := by assumption
    exact ⟨ret_bool (by simp [h]), rfl⟩
  · have h : n < a := by assumption
    exact ⟨ret_bool (by simp; omega), rfl⟩

set_option maxHeartbeats 1000000 in
theorem refCheck_any (h : Int) (v : Value) (xs : List Int) (w : World) (hv : Reads w v xs) :
    Calls Try.prog 22 #[.agg #[.int .i64 h, v]] w fun e w' => e = .returned (.int .i64 (checkE h xs)) ∧ Below w.heap.size w w' := by
  obtain ⟨p, c, rfl, hl, hx⟩ := hv
  by_cases h1 : h < 1 ∨ 24 < h
  · have he : checkE h xs = 2 := by simp [checkE, h1]
    have hb : (decide (1 ≤ h) && decide (h ≤ 24)) = false := by simp; omega
    have Hin := fun w => In_any h 1 24 w
    rw [hb] at Hin
    have He := Lib.hid he
    clear he hb h1 hx
    go_enter Try.func22, Try.ntmps22
    go_wp2_with fail
    refine (Hin _).mono ?_
    rintro e w' ⟨rfl, rfl⟩
    go_wp2
    go_ret
    exact ⟨ret_int He.out.symm, (Below.refl _ _).alloc (Nat.le_refl _) _⟩
  · obtain ⟨n, rfl⟩ := Int.eq_ofNat_of_zero_le (show 0 ≤ h by omega)
    have g1 : (1 : Int) ≤ (n : Int) := by omega
    have g2 : (n : Int) ≤ 24 := by omega
    have hb : (decide (1 ≤ (n : Int)) && decide ((n : Int) ≤ 24)) = true := by simp; omega
    have Hin := fun w => In_any (n : Int) 1 24 w
    rw [hb] at Hin
    clear hb
    by_cases h2 : 60 < xs.length
    · have he : checkE n xs = 5 := by rw [checkE, if_neg h1, if_pos h2]
      have He := Lib.hid he; clear he
      clear h1 hx
      go_enter Try.func22, Try.ntmps22
      go_wp2_with fail
      refine (Hin _).mono ?_
      rintro e w' ⟨rfl, rfl⟩
      go_wp2
      go_ret
      exact ⟨ret_int He.out.symm, (Below.refl _ _).alloc (Nat.le_refl _) _⟩
    · by_cases h3 : xs.length = 0
      · have he : checkE n xs = 7 := by rw [checkE, if_neg h1, if_neg h2, if_pos h3]
        have He := Lib.hid he; clear he
        obtain rfl : xs = [] := List.eq_nil_of_length_eq_zero h3
        clear h1 hx h2 hl h3
        go_enter Try.func22, Try.ntmps22
        go_wp2_with fail
        refine (Hin _).mono ?_
        rintro e w' ⟨rfl, rfl⟩
        go_wp2
        go_ret
        exact ⟨ret_int He.out.symm, (Below.refl _ _).alloc (Nat.le_refl _) _⟩
      · obtain ⟨b, off, rfl, hb, hx⟩ := hx (by omega)
        have h3' : 0 < xs.length := by omega
        have h2' : xs.length ≤ 60 := by omega
        have hx1 : IntsAt (w.alloc (.cells #[.int .i64 (n : Int), .slice (some ⟨b, off, none⟩) xs.length c] 24)) b off xs := hx.below ((Below.refl _ _).alloc (Nat.le_refl _) _) hb
        have he : checkE n xs = if rowsOk n xs then 0 else 2 := by rw [checkE, if_neg h1, if_neg h2, if_neg h3]; simp
        have He := Lib.hid he
        have hz60 : ((xs.length : Int) == 0) = false := by rw [beq_eq_false_iff_ne]; omega
        have hd60 : decide ((60 : Int) < (xs.length : Int)) = false := by simp; omega
        obtain ⟨hp1, hp2⟩ := pow_bds n (by omega)
        obtain ⟨W1, hW1⟩ : ∃ W1, w.alloc (.cells #[.int .i64 (n : Int), .slice (some ⟨b, off, none⟩) xs.length c] 24) = W1 := ⟨_, rfl⟩
        have d0 : W1.cell? ⟨w.heap.size, 0, none⟩ = some (.int .i64 (n : Int)) := by rw [← hW1]; simp
        have d1 : W1.cell? ⟨w.heap.size, 1, none⟩ = some (.slice (some ⟨b, off, none⟩) xs.length c) := by rw [← hW1]; simp
        have HB : Hid (Below w.heap.size w W1) := Lib.hid (by rw [← hW1]; exact (Below.refl _ _).alloc (Nat.le_refl _) _)
        rw [hW1] at hx1
        have HX := Lib.hid hx1
        have HW := Lib.hid hW1
        clear h1 h2 h3 hx he hx1 hW1
        go_enter Try.func22, Try.ntmps22
        go_wp2_with fail
        refine (Hin _).mono ?_
        rintro e w' ⟨rfl, rfl⟩
        rw [HW.out]
        go_wp2
        go_loopw [3] (fun i wr => ∃ k : Nat, k ≤ xs.length ∧ i = .int .i64 k ∧ rowsOk n (xs.take k) = true ∧ ∃ j, wr = W1.drewN j) (fun i _ => xs.length - (intOf i).toNat)
        case atStart => exact ⟨0, Nat.zero_le _, rfl, by simp [rowsOk], 0, rfl⟩
        case round =>
          obtain ⟨k, hk, rfl, hr, j, rfl⟩ := hrel
          have Hr := Lib.hid hr; clear hr
          by_cases hlt : k < xs.length
          · have hc := HX.out k hlt
            have hk0 : (0 : Int) ≤ (k : Int) := by omega
            have hk1 : (k : Int) < (xs.length : Int) := by omega
            have hu : IntKind.u64.wrap (n : Int) = (n : Int) := IntWalk.u64_in _ (by omega)
            have hmn : min n 64 = n := by omega
            have hw1 : IntKind.i64.wrap (2 ^ n) = 2 ^ n := IntWalk.i64_in _ (by omega)
            have hw2 : IntKind.i64.wrap (2 ^ n - 1) = 2 ^ n - 1 := IntWalk.i64_in _ (by omega)
            by_cases hok : 0 ≤ nthI xs k ∧ nthI xs k < 2 ^ n
            · have HI : ∀ w, Calls Try.prog 24 #[.int .i64 (nthI xs k), .int .i64 0, .int .i64 (2 ^ n - 1)] w fun e w' => e = .returned (.bool true) ∧ w = w' := fun w => by
                have := In_any (nthI xs k) 0 (2 ^ n - 1) w
                rwa [show (decide (0 ≤ nthI xs k) && decide (nthI xs k ≤ 2 ^ n - 1)) = true by simp; omega] at this
              have Hok := Lib.hid hok
              clear hok
              go_wp2_with fail
              go_region_with (go_at_call 24; refine (HI _).mono ?_; rintro e w' ⟨rfl, rfl⟩)
              all_goals clear hu hmn hw1 hw2
              all_goals go_wp2
              all_goals go_roundw
              all_goals first | (simp [intOf]; omega) | exact ⟨k + 1, by omega, by go_num, rowsOk_step n xs k hlt Hr.out Hok.out.1 Hok.out.2, _, rfl⟩
            · have HI : ∀ w, Calls Try.prog 24 #[.int .i64 (nthI xs k), .int .i64 0, .int .i64 (2 ^ n - 1)] w fun e w' => e = .returned (.bool false) ∧ w = w' := fun w => by
                have := In_any (nthI xs k) 0 (2 ^ n - 1) w
                rwa [show (decide (0 ≤ nthI xs k) && decide (nthI xs k ≤ 2 ^ n - 1)) = false by simp; omega] at this
              have Hno := Lib.hid (rowsOk_false n xs k hlt (by omega))
              clear hok
              go_wp2_with fail
              go_region_with (go_at_call 24; refine (HI _).mono ?_; rintro e w' ⟨rfl, rfl⟩)
              all_goals clear hu hmn hw1 hw2
              all_goals go_wp2
              all_goals go_ret
              all_goals exact ⟨ret_int (by rw [He.out, Hno.out]; rfl), HB.out.trans (below_drewN _ _ _)⟩
          · go_wp2
            go_ret
            exact ⟨ret_int (by rw [He.out, show rowsOk n xs = true by rw [← Hr.out, take_end xs k hk hlt]]; rfl), HB.out.trans (below_drewN _ _ _)⟩

/-- large of one design -/
theorem large_one (_h : Int) (p : Option Addr) (l c B : Nat) (w : World) (hl : l ≤ 17592186044416) (h1 : w.cell? ⟨B, 1, none⟩ = some (.slice p l c)) :
    Calls Try.prog 16 #[.slice (some ⟨B, 0, none⟩) 1 1] w fun e w' => e = .returned (.bool (decide (70 < l))) ∧ w = w' := by
  by_cases hb : 70 < l
  · have hd : decide ((70 : Int) < (l : Int)) = true := by simp; omega
    have Hb := Lib.hid hb
    clear hb
    go_enter Try.func16, Try.ntmps16
    go_wp2
    go_loop [3] (fun i => i = .int .i64 0) (fun i => 0)
    case atStart => rfl
    case round =>
      subst hrel
      go_wp2
      go_ret
      exact ⟨ret_bool (by simp [Hb.out]), rfl⟩
  · have hd : decide ((70 : Int) < (l : Int)) = false := by simp; omega
    have Hb := Lib.hid hb
    clear hb
    go_enter Try.func16, Try.ntmps16
    go_wp2
    go_loop [3] (fun i => i = .int .i64 0 ∨ i = .int .i64 1) (fun i => 1 - (intOf i).toNat)
    case atStart => exact .inl rfl
    case round =>
      rcases hrel with rfl | rfl
      · go_wp2
        go_round
        case rel => exact .inr rfl
        case measure => simp [intOf]
      · go_wp2
        go_ret
        exact ⟨ret_bool (by simp [Hb.out]), rfl⟩

theorem appendNil (g c : Nat) (w : World) (_hg : w.heap[g]? = some (.cells #[] 3 (0, 0))) : (Builtin.append_ #[22, 22] 22 #[.slice (some ⟨g, 0, none⟩) 0 0, .slice none 0 c]).run Try.prog w = .ok (.slice (some ⟨g, 0, none⟩) 0 0) w := by
  obtain ⟨i0, hi, hz0, hz1, hz2⟩ := info_parts Try.info3
  simp [Builtin.append_, run_underlying Try.underlying22, sizeOf, typeInfo, hi, Builtin.lenOf, Builtin.firstCells, storeCells]
end
end Go.Proofs.Ytjobbleabepaiaa
namespace Go.Proofs.Ytjobbleabepaiaa
section
open Go.RowKit

/-- a copy of a slice -/
def CopyOf (xs : List Int) (w : World) (e : Ending) (w' : World) : Prop := ∃ p c, e = .returned (.slice p xs.length c) ∧ Reads w' (.slice p xs.length c) xs ∧ (∀ a, p = some a → w.heap.size ≤ a.block) ∧ Below w.heap.size w w'
theorem CopyOf.form {W : World} {B : Nat} {v : Value} {xs : List Int} (hlx : xs.length ≤ 17592186044416) (h : W.ownsRow B 3 1 v xs.length (xs.map (Value.int .i64))) : ∃ p c, v = .slice p xs.length c ∧ Reads W (.slice p xs.length c) xs ∧ (∀ a, p = some a → B ≤ a.block) := by
  have h0 := h
  obtain ⟨hl, ⟨rfl, hz⟩ | ⟨g, cap, cur, rfl, hg, hh, h1, h2, r⟩⟩ := h
  · obtain rfl : xs = [] := List.eq_nil_of_length_eq_zero hz
    exact ⟨_, _, rfl, ⟨_, _, rfl, by simp, fun h => by simp at h⟩, fun a h => by simp at h⟩
  · refine ⟨_, _, rfl, ⟨_, _, rfl, hlx, fun _ => ⟨g, 0, rfl, (Array.getElem?_eq_some_iff.1 hh).1, fun i hi => ?_⟩⟩, fun a h => by obtain rfl := Option.some.inj h; exact hg⟩
    have := h0.cellAt (0 + i) (by omega)
    rw [this, Nat.zero_add, List.getElem?_map, List.getElem?_eq_getElem hi, nthI_get xs i hi]
    rfl
theorem addr_add (b o j : Nat) : (⟨b, o, none⟩ : Addr).add j = ⟨b, o + j, none⟩ := by
  unfold Addr.add
  by_cases h : j = 0
  · simp [h]
  · simp [h]
set_option maxHeartbeats 1000000 in
theorem ints_any (p : Option Addr) (c : Nat) (xs : List Int) (w : World) (hl : xs.length ≤ 100000) (hr : Reads w (.slice p xs.length c) xs) :
    Calls Try.prog 28 #[.slice p xs.length c] w (CopyOf xs w) := by
  obtain ⟨i0, hi, hz0, hz1, hz2⟩ := info_parts Try.info3
  have hnew : (w.alloc (.cells #[] 3)).heap[w.heap.size]? = some (.cells #[] 3 (0, 0)) := heap_alloc_new w _
  have hB : Below w.heap.size w (w.alloc (.cells #[] 3)) := (Below.refl _ _).alloc (Nat.le_refl _) _
  by_cases hp : xs.length = 0
  · obtain rfl : xs = [] := List.eq_nil_of_length_eq_zero hp
    cases p with
    | none =>
      have hap := appendNil w.heap.size c _ hnew
      have HB := Lib.hid hB
      clear hr hnew hB hp
      go_enter Try.func28, Try.ntmps28
      go_wp2
      go_ret
      exact ⟨_, _, rfl, ⟨_, _, rfl, by simp, fun h => by simp at h⟩, fun a h => by obtain rfl := Option.some.inj h; exact Nat.le_refl _, HB.out⟩
    | some ad =>
      have HB := Lib.hid hB
      have HN := Lib.hid hnew
      clear hr hnew hB hp
      go_enter Try.func28, Try.ntmps28
      go_wp2_with (at_builtin; refine Shut.out ?_)
      unfold Shut
      refine wpList_append_own_at _ rfl _ _ 22 rfl w.heap.size 3 i0 _ 1 8 Try.underlying22 hi hz0 hz1 hz2 rfl (by omega) (.slice (some ⟨w.heap.size, 0, none⟩) 0 0) 0 [] rfl (World.ownsRow_made w #[] 0 (Nat.le_refl _) (Nat.zero_le _) rfl) ad 0 c [] rfl rfl (fun j u h => by simp at h) (fun u h => by simp at h) (by unfold maxLen; omega) (by omega) (by simp) ?_
      intro v' w' hown hgrow hnil hat
      have hb : Below w.heap.size w w' := HB.out.grown hgrow (by simp) (fun k hk => by simp [Value.ownBlock] at hk; omega)
      have HB2 := Lib.hid hb
      have hform := CopyOf.form (xs := []) (by simp) hown
      obtain ⟨p2, c2, rfl, hr2, hp2⟩ := hform
      have HP2 := Lib.hid hp2
      have HR2 := Lib.hid hr2
      clear hown hgrow hnil hat hb hr2 hp2
      go_wp2
      go_ret
      exact ⟨_, _, rfl, HR2.out, HP2.out, HB2.out⟩
  · obtain ⟨q, c1, e1, hxl, hx⟩ := hr
    simp at e1
    obtain ⟨rfl, rfl⟩ := e1
    obtain ⟨b, off, rfl, hb, hi2⟩ := hx (by omega)
    have hi3 := hi2.below hB hb
    have HB := Lib.hid hB
    have HI := Lib.hid hi3
    clear hnew hB hp hx hi2 hi3 hxl
    go_enter Try.func28, Try.ntmps28
    go_wp2_with (at_builtin; refine Shut.out ?_)
    unfold Shut
    refine wpList_append_own_at _ rfl _ _ 22 rfl w.heap.size 3 i0 _ 1 8 Try.underlying22 hi hz0 hz1 hz2 rfl (by omega) (.slice (some ⟨w.heap.size, 0, none⟩) 0 0) 0 [] rfl (World.ownsRow_made w #[] 0 (Nat.le_refl _) (Nat.zero_le _) rfl) ⟨b, off, none⟩ xs.length c (xs.map (Value.int .i64)) rfl (by simp) (fun j u h => ?c1) (fun u h => ?c2) (by unfold maxLen; omega) (by omega) (by simp) ?_
    case c1 =>
      rw [List.getElem?_map] at h
      obtain ⟨x, hx, rfl⟩ := Option.map_eq_some_iff.1 h
      obtain ⟨hj, e⟩ := List.getElem?_eq_some_iff.1 hx
      rw [addr_add, HI.out j hj, nthI_get xs j hj, e]
    case c2 =>
      obtain ⟨x, _, rfl⟩ := List.mem_map.1 h
      rfl
    intro v' w' hown hgrow hnil hat
    have hb2 : Below w.heap.size w w' := HB.out.grown hgrow (by simp) (fun k hk => by simp [Value.ownBlock] at hk; omega)
    have HB2 := Lib.hid hb2
    rw [Nat.zero_add, List.nil_append] at hown
    have hform := CopyOf.form (by omega) hown
    obtain ⟨p2, c2, rfl, hr2, hp2⟩ := hform
    have HP2 := Lib.hid hp2
    have HR2 := Lib.hid hr2
    clear hown hgrow hnil hat hb2 hr2 hp2
    go_wp2
    go_ret
    exact ⟨_, _, rfl, HR2.out, HP2.out, HB2.out⟩
theorem Reads.set {W : World} {p : Option Addr} {n c : Nat} {xs : List Int} (h : Reads W (.slice p n c) xs) (q : Addr) (u : Value) (hne : ∀ a, p = some a → a.block ≠ q.block) : Reads (W.setCell q u) (.slice p n c) xs := by
  obtain ⟨p', c', e, hl, hx⟩ := h
  refine ⟨p', c', e, hl, fun h0 => ?_⟩
  obtain ⟨b, off, rfl, hb, hi⟩ := hx h0
  have hpe : p = some ⟨b, off, none⟩ := by
    simp at e; exact e.1
  have hbq := hne _ hpe
  refine ⟨b, off, rfl, ?_, fun i hi' => (World.cell?_of_block (w := W) (a := ⟨b, off + i, none⟩) (Below.heap_setCell W q u b hbq)).trans (hi i hi')⟩
  simpa [World.setCell] using hb
/-- a copy of a design -/
def CopyD (h : Int) (xs : List Int) (w : World) (e : Ending) (w' : World) : Prop := ∃ p c, e = .returned (.agg #[.int .i64 h, .slice p xs.length c]) ∧ Reads w' (.slice p xs.length c) xs ∧ Below w.heap.size w w'
set_option maxHeartbeats 1000000 in
theorem own_any (h : Int) (p : Option Addr) (c : Nat) (xs : List Int) (w : World) (hl : xs.length ≤ 100000) (hr : Reads w (.slice p xs.length c) xs) :
    Calls Try.prog 18 #[.agg #[.int .i64 h, .slice p xs.length c]] w (CopyD h xs w) := by
  have hB : Below w.heap.size w ((w.alloc (.cells #[.int .i64 h, .slice p xs.length c] 24)).alloc (.cells #[.int .i64 0, .slice none 0 0] 24)).drew := (((Below.refl _ _).alloc (Nat.le_refl _) _).alloc (by simp) _).drew
  have hi := ints_any p c xs _ hl (hr.below hB)
  have HI := Lib.hid hi
  have HB := Lib.hid hB
  have Q : Hid (ResBox ((w.alloc (.cells #[.int .i64 h, .slice p xs.length c] 24)).alloc (.cells #[.int .i64 0, .slice none 0 0] 24)).drew (w.heap.size + 1)) := Lib.hid (by
    have := ResBox.new (w.alloc (.cells #[.int .i64 h, .slice p xs.length c] 24))
    rw [World.size_alloc] at this
    exact this)
  have D0 : Hid (((w.alloc (.cells #[.int .i64 h, .slice p xs.length c] 24)).alloc (.cells #[.int .i64 0, .slice none 0 0] 24)).drew.cell? ⟨w.heap.size, 0, none⟩ = some (.int .i64 h)) := Lib.hid (by
    refine (((Below.refl (w.heap.size + 1) (w.alloc (.cells #[.int .i64 h, .slice p xs.length c] 24))).alloc (by simp) _).drew.cell (p := ⟨w.heap.size, 0, none⟩) (by simp)).trans (by simp))
  clear hi hB hr
  go_enter Try.func18, Try.ntmps18
  go_wp2_with fail
  go_region_with (go_at_call 28; (with_reducible refine HI.out.mono ?_); rintro e w3 ⟨p3, c3, rfl, hr3, hp3, hb3⟩; have q := ResBox.below Q.out hb3 (by simp); have d03 := cell_lift hb3 (by simp; omega) D0.out; have k0 := q.c0; have k1 := q.c1; have k2 := q.f 0; have k3 := q.f 1; have HR3 := Lib.hid hr3; have HB3 := Lib.hid hb3; have HP3 := Lib.hid hp3; clear q hr3 hb3 hp3)
  all_goals go_wp2
  all_goals refine bodyPost_ret (v := .agg #[.int .i64 h, .slice p3 xs.length c3]) ?_ rfl ⟨p3, c3, rfl, ?_, ?_⟩
  all_goals first
    | exact (((HB.out.trans (HB3.out.mono HB.out.size)).setCell (by simp) _).setCell (by simp) _)
    | exact (HR3.out.set _ _ (fun a e => by have := HP3.out a e; simp at this ⊢; omega)).set _ _ (fun a e => by have := HP3.out a e; simp at this ⊢; omega)
    | simp [results, Try.results18, go_sem, k0, k1]
end
end Go.Proofs.Ytjobbleabepaiaa
