/- Design of the reference. -/
import Derived.Test.YtjobbleabepaiaaXH
import Derived.Test.YtjobbleabepaiaaVP
namespace Go.Proofs.Ytjobbleabepaiaa
open Go.RowKit

/-- a design that is filled row by row, in a box of its own behind W1 -/
structure Mk (W1 : World) (D n : Nat) (rows : List Nat) (v : Value) (W : World) : Prop where
  r : RBox W D n v
  row : W.ownsRow (D + 1) 3 1 v rows.length (rows.map natV)
  below : Below D W1 W
theorem Mk.new (W : World) (n : Nat) : Mk W W.heap.size n [] (.slice none 0 0) (W.alloc (.cells #[.int .i64 (n : Int), .slice none 0 0] 24)) :=
  ⟨World.alloc_heap_new W _, World.ownsRow_nil _ _ _ _, (Below.refl _ _).alloc (Nat.le_refl _) _⟩
section
variable {W1 W W' : World} {D n : Nat} {rows rows' : List Nat} {v v' : Value}
theorem Mk.next (h : Mk W1 D n rows v W) (hb : Below W.heap.size W W') : Mk W1 D n rows v W' :=
  ⟨(hb.block _ h.r.lt).trans h.r, own_below h.row hb, h.below.trans (hb.mono (by have := h.r.lt; omega))⟩
theorem Mk.far (h : Mk W1 D n rows v W) {j : Nat} (hj : j ≤ D) : some j ≠ v.ownBlock := ownsRow_far h.row (by omega)
theorem Mk.grew (h : Mk W1 D n rows v W) (hg : W.grownBy W' v.ownBlock) (hown : W'.ownsRow (D + 1) 3 1 v' rows'.length (rows'.map natV)) : Mk W1 D n rows' v' (W'.setCell ⟨D, 1, none⟩ v') := by
  have hr := (hg.block D h.r.lt (h.far (Nat.le_refl _))).trans h.r
  refine ⟨RBox.set1 hr v', own_set hown _ _ (ownsRow_far hown (by simp)), ?_⟩
  exact (h.below.grown hg (by have := h.r.lt; omega) (fun k hk => by have := (h.row.lt k hk).1; omega)).setCell (Nat.le_refl _) _
theorem Mk.slice (h : Mk W1 D n rows v W) : ∃ p a c, v = .slice p a c := by
  obtain ⟨_, ⟨h, _⟩ | ⟨g, cap, cur, h, _⟩⟩ := h.row
  · exact ⟨_, _, _, h⟩
  · exact ⟨_, _, _, h⟩
/-- what was filled, as a list -/
theorem Mk.reads (h : Mk W1 D n rows v W) (hl : rows.length ≤ 1000) : ∃ p c, v = .slice p rows.length c ∧ Reads W (.slice p rows.length c) (ints rows) ∧ (∀ a, p = some a → D < a.block) := by
  have hm : rows.map natV = (ints rows).map (Value.int .i64) := by simp [ints, natV]
  have h2 : W.ownsRow (D + 1) 3 1 v (ints rows).length ((ints rows).map (Value.int .i64)) := by
    rw [ints_len, ← hm]; exact h.row
  obtain ⟨p, c, h3, h4, h5⟩ := CopyOf.form (by rw [ints_len]; omega) h2
  rw [ints_len] at h3 h4
  exact ⟨p, c, h3, h4, fun a ha => by have := h5 a ha; omega⟩
end
/-- a new design -/
def CopyN (h : Int) (xs : List Int) (w : World) (e : Ending) (w' : World) : Prop := ∃ p c, e = .returned (.agg #[.int .i64 h, .slice p xs.length c]) ∧ Reads w' (.slice p xs.length c) xs ∧ (∀ a, p = some a → w.heap.size ≤ a.block) ∧ Below w.heap.size w w'
theorem painted_succ (f : Nat → Nat → Bool) (k m : Nat) : painted f (k + 1) m = painted f k m ++ [rowTo (f k) m] := by simp [painted, List.range_succ]

set_option maxRecDepth 100000 in
set_option maxHeartbeats 4000000 in
theorem Design_any (g N m c : Nat) (f : Nat → Nat → Bool) (w : World) (hN1 : 1 ≤ N) (hN : N ≤ 60) (hm : m ≤ 24) (hT : TabAt w g N m f) :
    Calls Try.prog 84 #[.slice (some ⟨g, 0, none⟩) N c] w (CopyN (m : Int) (ints (painted f N m)) w) := by
  obtain ⟨i0, hi, hz0, hz1, hz2⟩ := info_parts Try.info3
  have hT1 := hT.below (below1 w (.cells #[.int .i64 0, .slice none 0 0] 24))
  obtain ⟨b0, c0, h0, _⟩ := hT1.r 0 (by omega)
  have hN0 : (0 : Int) < (N : Int) := by omega
  have HT := Lib.hid hT
  clear hT hT1
  go_enter Try.func84, Try.ntmps84
  go_wp2_with fail
  have hMk := Mk.new (w.alloc (.cells #[.int .i64 0, .slice none 0 0] 24)) m
  rw [World.size_alloc] at hMk
  have hW1 : Below w.heap.size w (w.alloc (.cells #[.int .i64 0, .slice none 0 0] 24)) := below1 _ _
  have hQ := ResBox.new w
  obtain ⟨W1, hW1e⟩ : ∃ W1, W1 = w.alloc (.cells #[.int .i64 0, .slice none 0 0] 24) := ⟨_, rfl⟩
  rw [← hW1e] at hMk hW1 hQ h0 ⊢
  have HMk := Lib.hid hMk
  have HW1 := Lib.hid hW1
  have HQ := Lib.hid hQ
  clear hW1e hMk hW1 hQ h0
  go_loopw [4] (fun i wr => ∃ k : Nat, k ≤ N ∧ i = .int .i64 k ∧ ∃ v, Mk W1 (w.heap.size + 1) m (painted f k m) v wr) (fun i _ => N - (intOf i).toNat)
  case atStart => exact ⟨0, Nat.zero_le _, rfl, _, HMk.out⟩
  case round =>
    obtain ⟨k, hk, rfl, v, hM⟩ := hrel
    have hlen : (painted f k m).length = k := painted_len _ _ _
    have Hlen := Lib.hid hlen
    clear hlen
    by_cases hlt : k < N
    · have hBw : Below w.heap.size w wr := HW1.out.trans (hM.below.mono (by omega))
      have hTr := (HT.out.below hBw).r k hlt
      obtain ⟨bk, ck, hck, hbk⟩ := hTr
      have Hr := refRow_any bk ck m (f k) wr.drew hm (hbk.below (Below.refl _ _).drew hbk.lt)
      have hk0 : (0 : Int) ≤ (k : Int) := by omega
      have hk1 : (k : Int) < (N : Int) := by omega
      have g0 := hM.r.c1
      have g1 := hM.r.f 1
      have hz : w.heap.size + 1 < wr.heap.size := hM.r.lt
      have HM := Lib.hid hM
      have HRow := Lib.hid hM.row
      have hnr := hM.far (Nat.le_refl _)
      have hn25 : k + 1 ≤ maxLen := by unfold maxLen; omega
      obtain ⟨X, hX⟩ : ∃ X, X = rowTo (f k) m := ⟨_, rfl⟩
      rw [← hX] at Hr
      have HX := Lib.hid hX
      clear hM hBw hX hbk
      go_wp2_with fail
      go_region_law
        (first
          | (go_simp; go_at_call 105; (with_reducible refine Hr.mono ?_); rintro e w5 ⟨rfl, rfl⟩)
          | ((refine step_append_lies _ (by rfl) _ _ _ (by rfl) (w.heap.size + 1 + 1) 3 i0 _ 1 8 Try.underlying22 hi hz0 hz1 hz2 rfl (by omega) v (painted f k m).length ((painted f k m).map natV) (by rfl) ((HRow.out.alloc _).drew)
                  ⟨wr.heap.size, 0, none⟩ 1 1 [.int .i64 (X : Int)] (by rfl) (by rfl) (World.news_of_block (cs := #[.int .i64 (X : Int)]) (t := 3) (fr := (0, 0)) (heap_alloc_new wr _)) (by simp [Value.oneCell'])
                  (by omega) (by rw [Hlen.out]; exact hn25) (by rw [Hlen.out]; omega) (by simp; omega) (wr.heap.size + 1) (by simp) ?_; intro g5 cap w5 hown1 hgrow hat hglt)
             have hBA := (HM.out.next (((Below.refl wr.heap.size wr).alloc (Nat.le_refl _) (.cells #[.int .i64 (X : Int)] 3)).drew)).grew (rows' := painted f k m ++ [X]) hgrow (by rw [List.length_append, List.length_singleton, List.map_append]; exact hown1)
             have hr5 : RBox w5 (w.heap.size + 1) m v := (hgrow.block _ (by simp; omega) hnr).trans ((Below.heap_alloc _ _ _ hz).trans HM.out.r)
             have f5 := hr5.f 1
             have c5 := hr5.c1
             have HBA := Lib.hid hBA
             clear hBA hr5 hown1 hgrow hat))
      all_goals
        (obtain ⟨W5, hW5⟩ : ∃ W5, W5 = w5.setCell ⟨w.heap.size + 1, 1, none⟩ (.slice (some ⟨g5, 0, none⟩) ((painted f k m).length + 1) cap) := ⟨_, rfl⟩
         rw [← hW5] at HBA ⊢
         clear hW5 f5 c5
         go_wp2_with fail
         go_roundw)
      all_goals first
        | (simp [intOf]; omega)
        | exact ⟨k + 1, by omega, by go_num, _, by rw [painted_succ, ← HX.out]; exact HBA.out⟩
    · obtain rfl : k = N := by omega
      have h5 := hM.reads (by rw [Hlen.out]; omega)
      rw [Hlen.out] at h5
      obtain ⟨p, cc, rfl, hRd, hfar⟩ := h5
      have f0 := hM.r.c0
      have f1 := hM.r.c1
      have q := HQ.out.below hM.below (by omega)
      have k0 := q.c0
      have k1 := q.c1
      have k2 := q.f 0
      have k3 := q.f 1
      have HBw := Lib.hid (HW1.out.trans (hM.below.mono (by omega)))
      have HRd := Lib.hid hRd
      have Hfar := Lib.hid hfar
      clear hM q hRd hfar
      go_wp2_with fail
      refine bodyPost_ret (v := .agg #[.int .i64 (m : Int), .slice p k cc]) ?_ rfl ⟨p, cc, by rw [ints_len, painted_len], ?_, fun a e => by have := Hfar.out a e; omega, (HBw.out.setCell (by simp) _).setCell (by simp) _⟩
      · simp [results, Try.results84, go_sem, k0, k1]
      · rw [ints_len, painted_len]
        exact (HRd.out.set _ _ (fun a e => by have := Hfar.out a e; simp; omega)).set _ _ (fun a e => by have := Hfar.out a e; simp; omega)
end Go.Proofs.Ytjobbleabepaiaa
