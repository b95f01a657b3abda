/- ints and own: copies. -/
import Derived.Test.YtjobbleabepaiaaVQ
import Derived.Deep.AppendLies
import Derived.Test.YtjobbleabepaiaaWO
namespace Go.Proofs.Ytjobbleabepaiaa
open Go.RowKit

/-- a copy of a slice -/
def CopyOf (xs : List Int) (w : World) (e : Ending) (w' : World) : Prop := ∃ p c, e = .returned (.slice p xs.length c) ∧ Reads w' (.slice p xs.length c) xs ∧ (∀ a, p = some a → w.heap.size ≤ a.block) ∧ Below w.heap.size w w'
theorem CopyOf.form {W : World} {B : Nat} {v : Value} {xs : List Int} (hlx : xs.length ≤ 17592186044416) (h : W.ownsRow B 3 1 v xs.length (xs.map (Value.int .i64))) : ∃ p c, v = .slice p xs.length c ∧ Reads W (.slice p xs.length c) xs ∧ (∀ a, p = some a → B ≤ a.block) := by
  have h0 := h
  obtain ⟨hl, ⟨rfl, hz⟩ | ⟨g, cap, cur, rfl, hg, hh, h1, h2, r⟩⟩ := h
  · obtain rfl : xs = [] := List.eq_nil_of_length_eq_zero hz
    exact ⟨_, _, rfl, ⟨_, _, rfl, by simp, fun h => by simp at h⟩, fun a h => by simp at h⟩
  · refine ⟨_, _, rfl, ⟨_, _, rfl, hlx, fun _ => ⟨g, 0, rfl, (Array.getElem?_eq_some_iff.1 hh).1, fun i hi => ?_⟩⟩, fun a h => by obtain rfl := Option.some.inj h; exact hg⟩
    have := h0.cellAt (0 + i) (by omega)
    rw [this, Nat.zero_add, List.getElem?_map, List.getElem?_eq_getElem hi, nthI_get xs i hi]
    rfl
theorem addr_add (b o j : Nat) : (⟨b, o, none⟩ : Addr).add j = ⟨b, o + j, none⟩ := by
  unfold Addr.add
  by_cases h : j = 0
  · simp [h]
  · simp [h]
set_option maxHeartbeats 1000000 in
theorem ints_any (p : Option Addr) (c : Nat) (xs : List Int) (w : World) (hl : xs.length ≤ 100000) (hr : Reads w (.slice p xs.length c) xs) :
    Calls Try.prog 28 #[.slice p xs.length c] w (CopyOf xs w) := by
  obtain ⟨i0, hi, hz0, hz1, hz2⟩ := info_parts Try.info3
  have hnew : (w.alloc (.cells #[] 3)).heap[w.heap.size]? = some (.cells #[] 3 (0, 0)) := heap_alloc_new w _
  have hB : Below w.heap.size w (w.alloc (.cells #[] 3)) := (Below.refl _ _).alloc (Nat.le_refl _) _
  by_cases hp : xs.length = 0
  · obtain rfl : xs = [] := List.eq_nil_of_length_eq_zero hp
    cases p with
    | none =>
      have hap := appendNil w.heap.size c _ hnew
      have HB := Lib.hid hB
      clear hr hnew hB hp
      go_enter Try.func28, Try.ntmps28
      go_wp2
      go_ret
      exact ⟨_, _, rfl, ⟨_, _, rfl, by simp, fun h => by simp at h⟩, fun a h => by obtain rfl := Option.some.inj h; exact Nat.le_refl _, HB.out⟩
    | some ad =>
      have HB := Lib.hid hB
      have HN := Lib.hid hnew
      clear hr hnew hB hp
      go_enter Try.func28, Try.ntmps28
      go_wp2_with (at_builtin; refine Shut.out ?_)
      unfold Shut
      refine wpList_append_own_at _ rfl _ _ 22 rfl w.heap.size 3 i0 _ 1 8 Try.underlying22 hi hz0 hz1 hz2 rfl (by omega) (.slice (some ⟨w.heap.size, 0, none⟩) 0 0) 0 [] rfl (World.ownsRow_made w #[] 0 (Nat.le_refl _) (Nat.zero_le _) rfl) ad 0 c [] rfl rfl (fun j u h => by simp at h) (fun u h => by simp at h) (by unfold maxLen; omega) (by omega) (by simp) ?_
      intro v' w' hown hgrow hnil hat
      have hb : Below w.heap.size w w' := HB.out.grown hgrow (by simp) (fun k hk => by simp [Value.ownBlock] at hk; omega)
      have HB2 := Lib.hid hb
      have hform := CopyOf.form (xs := []) (by simp) hown
      obtain ⟨p2, c2, rfl, hr2, hp2⟩ := hform
      have HP2 := Lib.hid hp2
      have HR2 := Lib.hid hr2
      clear hown hgrow hnil hat hb hr2 hp2
      go_wp2
      go_ret
      exact ⟨_, _, rfl, HR2.out, HP2.out, HB2.out⟩
  · obtain ⟨q, c1, e1, hxl, hx⟩ := hr
    simp at e1
    obtain ⟨rfl, rfl⟩ := e1
    obtain ⟨b, off, rfl, hb, hi2⟩ := hx (by omega)
    have hi3 := hi2.below hB hb
    have HB := Lib.hid hB
    have HI := Lib.hid hi3
    clear hnew hB hp hx hi2 hi3 hxl
    go_enter Try.func28, Try.ntmps28
    go_wp2_with (at_builtin; refine Shut.out ?_)
    unfold Shut
    refine wpList_append_own_at _ rfl _ _ 22 rfl w.heap.size 3 i0 _ 1 8 Try.underlying22 hi hz0 hz1 hz2 rfl (by omega) (.slice (some ⟨w.heap.size, 0, none⟩) 0 0) 0 [] rfl (World.ownsRow_made w #[] 0 (Nat.le_refl _) (Nat.zero_le _) rfl) ⟨b, off, none⟩ xs.length c (xs.map (Value.int .i64)) rfl (by simp) (fun j u h => ?c1) (fun u h => ?c2) (by unfold maxLen; omega) (by omega) (by simp) ?_
    case c1 =>
      rw [List.getElem?_map] at h
      obtain ⟨x, hx, rfl⟩ := Option.map_eq_some_iff.1 h
      obtain ⟨hj, e⟩ := List.getElem?_eq_some_iff.1 hx
      rw [addr_add, HI.out j hj, nthI_get xs j hj, e]
    case c2 =>
      obtain ⟨x, _, rfl⟩ := List.mem_map.1 h
      rfl
    intro v' w' hown hgrow hnil hat
    have hb2 : Below w.heap.size w w' := HB.out.grown hgrow (by simp) (fun k hk => by simp [Value.ownBlock] at hk; omega)
    have HB2 := Lib.hid hb2
    rw [Nat.zero_add, List.nil_append] at hown
    have hform := CopyOf.form (by omega) hown
    obtain ⟨p2, c2, rfl, hr2, hp2⟩ := hform
    have HP2 := Lib.hid hp2
    have HR2 := Lib.hid hr2
    clear hown hgrow hnil hat hb2 hr2 hp2
    go_wp2
    go_ret
    exact ⟨_, _, rfl, HR2.out, HP2.out, HB2.out⟩
theorem Reads.set {W : World} {p : Option Addr} {n c : Nat} {xs : List Int} (h : Reads W (.slice p n c) xs) (q : Addr) (u : Value) (hne : ∀ a, p = some a → a.block ≠ q.block) : Reads (W.setCell q u) (.slice p n c) xs := by
  obtain ⟨p', c', e, hl, hx⟩ := h
  refine ⟨p', c', e, hl, fun h0 => ?_⟩
  obtain ⟨b, off, rfl, hb, hi⟩ := hx h0
  have hpe : p = some ⟨b, off, none⟩ := by
    simp at e; exact e.1
  have hbq := hne _ hpe
  refine ⟨b, off, rfl, ?_, fun i hi' => (World.cell?_of_block (w := W) (a := ⟨b, off + i, none⟩) (Below.heap_setCell W q u b hbq)).trans (hi i hi')⟩
  simpa [World.setCell] using hb
/-- a copy of a design -/
def CopyD (h : Int) (xs : List Int) (w : World) (e : Ending) (w' : World) : Prop := ∃ p c, e = .returned (.agg #[.int .i64 h, .slice p xs.length c]) ∧ Reads w' (.slice p xs.length c) xs ∧ Below w.heap.size w w'
set_option maxHeartbeats 1000000 in
theorem own_any (h : Int) (p : Option Addr) (c : Nat) (xs : List Int) (w : World) (hl : xs.length ≤ 100000) (hr : Reads w (.slice p xs.length c) xs) :
    Calls Try.prog 18 #[.agg #[.int .i64 h, .slice p xs.length c]] w (CopyD h xs w) := by
  have hB : Below w.heap.size w ((w.alloc (.cells #[.int .i64 h, .slice p xs.length c] 24)).alloc (.cells #[.int .i64 0, .slice none 0 0] 24)).drew := (((Below.refl _ _).alloc (Nat.le_refl _) _).alloc (by simp) _).drew
  have hi := ints_any p c xs _ hl (hr.below hB)
  have HI := Lib.hid hi
  have HB := Lib.hid hB
  have Q : Hid (ResBox ((w.alloc (.cells #[.int .i64 h, .slice p xs.length c] 24)).alloc (.cells #[.int .i64 0, .slice none 0 0] 24)).drew (w.heap.size + 1)) := Lib.hid (by
    have := ResBox.new (w.alloc (.cells #[.int .i64 h, .slice p xs.length c] 24))
    rw [World.size_alloc] at this
    exact this)
  have D0 : Hid (((w.alloc (.cells #[.int .i64 h, .slice p xs.length c] 24)).alloc (.cells #[.int .i64 0, .slice none 0 0] 24)).drew.cell? ⟨w.heap.size, 0, none⟩ = some (.int .i64 h)) := Lib.hid (by
    refine (((Below.refl (w.heap.size + 1) (w.alloc (.cells #[.int .i64 h, .slice p xs.length c] 24))).alloc (by simp) _).drew.cell (p := ⟨w.heap.size, 0, none⟩) (by simp)).trans (by simp))
  clear hi hB hr
  go_enter Try.func18, Try.ntmps18
  go_wp2_with fail
  go_region_with (go_at_call 28; (with_reducible refine HI.out.mono ?_); rintro e w3 ⟨p3, c3, rfl, hr3, hp3, hb3⟩; have q := ResBox.below Q.out hb3 (by simp); have d03 := cell_lift hb3 (by simp; omega) D0.out; have k0 := q.c0; have k1 := q.c1; have k2 := q.f 0; have k3 := q.f 1; have HR3 := Lib.hid hr3; have HB3 := Lib.hid hb3; have HP3 := Lib.hid hp3; clear q hr3 hb3 hp3)
  all_goals go_wp2
  all_goals refine bodyPost_ret (v := .agg #[.int .i64 h, .slice p3 xs.length c3]) ?_ rfl ⟨p3, c3, rfl, ?_, ?_⟩
  all_goals first
    | exact (((HB.out.trans (HB3.out.mono HB.out.size)).setCell (by simp) _).setCell (by simp) _)
    | exact (HR3.out.set _ _ (fun a e => by have := HP3.out a e; simp at this ⊢; omega)).set _ _ (fun a e => by have := HP3.out a e; simp at this ⊢; omega)
    | simp [results, Try.results18, go_sem, k0, k1]
end Go.Proofs.Ytjobbleabepaiaa
