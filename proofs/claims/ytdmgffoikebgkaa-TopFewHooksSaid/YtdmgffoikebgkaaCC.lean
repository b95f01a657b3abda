/- Punch: the chain of a valid design. -/
import Derived.Test.YtdmgffoikebgkaaCB
namespace Go.Proofs.Ytdmgffoikebgkaa
open Go.RowKit Go.Shelf

theorem Try.info128 : (Try.prog.info? 128).map (fun i => (i.zero, i.size, i.bytes)) = some (some (.agg #[.int .i64 0, .int .i64 0, .bool false]), 3, 24) := by kernel_rfl
theorem elemCard : ElemT 112 128 3 24 := by
  obtain ⟨i, hi, hz0, hz1, hz2⟩ := info_parts Try.info128
  exact ⟨i, _, Try.underlying112, hi, hz0, hz1, hz2, rfl, by decide⟩
theorem rowsOk_valid {n : Nat} {xs : List Nat} (h : Valid n xs) : rowsOk n (ints xs) = true := by
  have hc := h.check
  have h0 := h.n0; have h1 := h.n1; have h2 := h.l0; have h3 := h.l1
  unfold checkE at hc
  rw [if_neg (by omega), if_neg (by rw [ints_len]; omega), if_neg (by rw [ints_len]; omega)] at hc
  cases hr : rowsOk n (ints xs) with
  | true => rfl
  | false => rw [show ((n : Int)).toNat = n by omega, hr] at hc; simp at hc
/-- the cards that are punched -/
def punched (xs : List Nat) (k : Nat) : List Card := (List.range k).map fun i => ⟨i, nthN xs i, false⟩
theorem punched_len (xs : List Nat) (k : Nat) : (punched xs k).length = k := by simp [punched]
theorem punched_succ (xs : List Nat) (k : Nat) : punched xs (k + 1) = punched xs k ++ [⟨k, nthN xs k, false⟩] := by simp [punched, List.range_succ]
theorem punched_nth (xs : List Nat) (k i : Nat) (h : i < k) : nthC (punched xs k) i = ⟨i, nthN xs i, false⟩ := by
  rw [nthC_get _ _ (by rw [punched_len]; exact h)]; simp [punched]
theorem punched_ok {n : Nat} {xs : List Nat} (h : Valid n xs) : ChainOk n (punched xs xs.length) := by
  refine ⟨h.n0, h.n1, by rw [punched_len]; exact h.l0, by rw [punched_len]; exact h.l1, fun i => ?_, fun i => ?_⟩
  all_goals by_cases hi : i < xs.length
  · rw [punched_nth _ _ _ hi]; exact h.lt i
  · have : nthC (punched xs xs.length) i = ⟨0, 0, false⟩ := by unfold nthC; rw [List.getElem?_eq_none (by rw [punched_len]; omega)]; rfl
    rw [this]; exact Nat.pow_pos (by decide)
  · rw [punched_nth _ _ _ hi]; have := h.l1; show i < 60; omega
  · have : nthC (punched xs xs.length) i = ⟨0, 0, false⟩ := by unfold nthC; rw [List.getElem?_eq_none (by rw [punched_len]; omega)]; rfl
    rw [this]; decide
/-- what Punch keeps between two rows -/
structure PuAt (w0 : World) (n b off c l : Nat) (v : Value) (cs : List Card) (W : World) : Prop where
  arg : BoxAt W w0.heap.size #[.int .i64 (n : Int), .slice (some ⟨b, off, none⟩) l c] 37
  res : BoxAt W (w0.heap.size + 1) #[.int .i64 0, .slice none 0 0] 114
  box : BoxAt W (w0.heap.size + 2) #[.int .i64 (n : Int), v] 114
  row : W.ownsRow (w0.heap.size + 3) 128 3 v cs.length (cardCells cs)
  b : Below w0.heap.size w0 W
theorem PuAt.next {w0 W W' : World} {n b off c l : Nat} {v : Value} {cs : List Card} (h : PuAt w0 n b off c l v cs W) (hb : Below W.heap.size W W') : PuAt w0 n b off c l v cs W' :=
  ⟨h.arg.next hb, h.res.next hb, h.box.next hb, own_next h.row hb, h.b.trans (hb.mono h.b.size)⟩
theorem PuAt.size {w0 W : World} {n b off c l : Nat} {v : Value} {cs : List Card} (h : PuAt w0 n b off c l v cs W) : w0.heap.size + 3 ≤ W.heap.size := by have := h.box.lt; omega
/-- behind an append the row is that of another slice, which does not lie in the box yet -/
theorem PuAt.grew {w0 W W' : World} {n b off c l g5 cap : Nat} {v : Value} {cs : List Card} {card : Card} (h : PuAt w0 n b off c l v cs W) (hg : Grew (w0.heap.size + 3) 128 3 W W' v g5 cap (cs.length + 1) (cardCells cs ++ card.cells)) :
    BoxAt W' (w0.heap.size + 2) #[.int .i64 (n : Int), v] 114 ∧ PuAt w0 n b off c l (.slice (some ⟨g5, 0, none⟩) (cs.length + 1) cap) (cs ++ [card]) (W'.setCell ⟨w0.heap.size + 2, 1, none⟩ (.slice (some ⟨g5, 0, none⟩) (cs.length + 1) cap)) := by
  have hn : ∀ j, j < w0.heap.size + 3 → some j ≠ v.ownBlock := fun j hj => own_far h.row hj
  have hb := h.box.kept hg.grow (hn _ (by omega))
  refine ⟨hb, ⟨(h.arg.kept hg.grow (hn _ (by omega))).other _ _ (by simp), (h.res.kept hg.grow (hn _ (by omega))).other _ _ (by simp), hb.set 1 _, ?_, ?_⟩⟩
  · have hr := hg.row
    rw [List.length_append, List.length_singleton, cardCells_snoc]
    obtain ⟨hl, h2⟩ := hr
    refine ⟨hl, ?_⟩
    rcases h2 with h2 | ⟨q, cap', cur, e, hq, hh, r⟩
    · exact .inl h2
    · refine .inr ⟨q, cap', cur, e, hq, (Below.heap_setCell _ _ _ _ (by simp; omega)).trans hh, r⟩
  · exact (h.b.grown hg.grow h.b.size (fun j hj => by have := (ownBlock_ge h.row hj).1; omega)).setCell (by simp) _

set_option maxHeartbeats 2000000 in
theorem Punch_ok (n b off c : Nat) (xs : List Nat) (w : World) (hv : VAt w b off c n xs) :
    Calls Try.prog 81 #[.agg #[.int .i64 (n : Int), .slice (some ⟨b, off, none⟩) xs.length c]] w fun e w' =>
      ∃ g cap, e = .returned (.tuple #[.agg #[.int .i64 (n : Int), .slice (some ⟨g, 0, none⟩) xs.length cap], .int .i64 0]) ∧ w'.ownsRow w.heap.size 128 3 (.slice (some ⟨g, 0, none⟩) xs.length cap) xs.length (cardCells (punched xs xs.length)) ∧ Below w.heap.size w w' := by
  have l1 := hv.ok.l1
  have l0 := hv.ok.l0
  have n0 := hv.ok.n0
  have n1 := hv.ok.n1
  have hd1 : (decide (1 ≤ (n : Int)) && decide ((n : Int) ≤ 24)) = true := by simp; omega
  have hd2 : ((xs.length : Int) == 0) = false := by rw [beq_eq_false_iff_ne]; omega
  have hd3 : decide ((60 : Int) < (xs.length : Int)) = false := by simp; omega
  have HI := fun W => hd1 ▸ isHooks_any (n : Int) W
  have HR := fun W (h : NatsAt W b off xs) => by
    have := chainRows_any n b off c (ints xs) W n1 (by rw [ints_len]; omega) h.ints
    rw [rowsOk_valid hv.ok, ints_len] at this
    exact this
  have HV := Lib.hid hv
  clear hd1 hv
  have hbA : Below w.heap.size w ((w.alloc (.cells #[.int .i64 (n : Int), .slice (some ⟨b, off, none⟩) xs.length c] 37)).alloc (.cells #[.int .i64 0, .slice none 0 0] 114)) := ((Below.refl _ _).alloc (Nat.le_refl _) _).alloc (by simp) _
  have HX := Lib.hid (HV.out.below hbA).at'
  have hP0 : PuAt w n b off c xs.length (.slice none 0 0) (punched xs 0) (((w.alloc (.cells #[.int .i64 (n : Int), .slice (some ⟨b, off, none⟩) xs.length c] 37)).alloc (.cells #[.int .i64 0, .slice none 0 0] 114)).alloc (.cells #[.int .i64 (n : Int), .slice none 0 0] 114)) := by
    refine ⟨((BoxAt.new _ _ _).below ((Below.refl (w.heap.size + 1) _).alloc (by simp) _) (by omega)).below ((Below.refl (w.heap.size + 1) _).alloc (by simp) _) (by omega), ?_, ?_, World.ownsRow_nil _ _ _ _, hbA.alloc (by simp; omega) _⟩
    · have := BoxAt.new (w.alloc (.cells #[.int .i64 (n : Int), .slice (some ⟨b, off, none⟩) xs.length c] 37)) #[.int .i64 0, .slice none 0 0] 114
      rw [World.size_alloc] at this
      exact this.below ((Below.refl (w.heap.size + 2) _).alloc (by simp) _) (by omega)
    · have := BoxAt.new ((w.alloc (.cells #[.int .i64 (n : Int), .slice (some ⟨b, off, none⟩) xs.length c] 37)).alloc (.cells #[.int .i64 0, .slice none 0 0] 114)) #[.int .i64 (n : Int), .slice none 0 0] 114
      simpa using this
  have HP0 := Lib.hid hP0
  clear hbA hP0
  go_enter Try.func81, Try.ntmps81
  go_wp2_with fail
  refine (HI _).mono ?_
  rintro e w' ⟨rfl, rfl⟩
  go_wp2_with fail
  refine (HR _ HX.out).mono ?_
  rintro e w' ⟨rfl, rfl⟩
  go_wp2_with fail
  go_loopw [5, 6, 35] (fun _ _ i wr => ∃ (k : Nat) (v : Value), k ≤ xs.length ∧ i = .int .i64 k ∧ PuAt w n b off c xs.length v (punched xs k) wr) (fun _ _ i _ => xs.length - (intOf i).toNat)
  case atStart => exact ⟨0, _, Nat.zero_le _, rfl, HP0.out⟩
  case round =>
    obtain ⟨k, v, hk, rfl, hT⟩ := hrel
    clear HP0 HX
    obtain ⟨cs, hcs⟩ : ∃ cs, punched xs k = cs := ⟨_, rfl⟩
    have hrl : cs.length = k := by rw [← hcs]; exact punched_len _ _
    have Hnx := Lib.hid (show punched xs (k + 1) = cs ++ [⟨k, nthN xs k, false⟩] by rw [punched_succ, hcs])
    rw [hcs] at hT
    have Hrl := Lib.hid hrl
    have Hcs := Lib.hid hcs
    clear hcs hrl
    by_cases hlt : k < xs.length
    · have hc := (HV.out.below hT.b).at' k hlt
      have b1 : wr.cell? ⟨w.heap.size + 2, 1, none⟩ = some v := hT.box.cell' 1 rfl
      have HT := Lib.hid hT
      have hz : w.heap.size + 3 ≤ wr.heap.size := hT.size
      clear hT
      go_wp2_with (at_builtin; refine Shut.out ?_)
      unfold Shut
      refine app_one elemCard rfl _ _ rfl (w.heap.size + 3) v cs.length (cardCells cs) (Card.mk k (nthN xs k) false).cells.toArray rfl HT.out.row rfl rfl (by simp [Card.cells, Value.oneCell']) (by rw [Hrl.out]; omega) (by decide) HT.out.size ?_
      intro g5 cap w5 hg
      obtain ⟨hbx, hT5⟩ := HT.out.grew hg
      have f1 := hbx.frozen 1
      have c1 : w5.cell? ⟨w.heap.size + 2, 1, none⟩ = some v := hbx.cell' 1 rfl
      have HT5 := Lib.hid hT5
      clear hg hT5 hbx
      go_wp2_with fail
      go_roundw
      case rel => exact ⟨k + 1, _, by omega, by go_num, by rw [Hnx.out]; exact HT5.out⟩
      case measure => simp [intOf]; omega
    · obtain rfl : k = xs.length := by omega
      obtain ⟨g, cap, rfl⟩ : ∃ g cap, v = .slice (some ⟨g, 0, none⟩) xs.length cap := by
        obtain ⟨_, ⟨h, h0⟩ | ⟨g, cap, cur, h, _⟩⟩ := hT.row
        · rw [Hrl.out] at h0; omega
        · rw [Hrl.out] at h; exact ⟨g, cap, h⟩
      have b0 : wr.cell? ⟨w.heap.size + 2, 0, none⟩ = some (.int .i64 (n : Int)) := hT.box.cell' 0 rfl
      have b1 : wr.cell? ⟨w.heap.size + 2, 1, none⟩ = some (.slice (some ⟨g, 0, none⟩) xs.length cap) := hT.box.cell' 1 rfl
      have r0 : wr.cell? ⟨w.heap.size + 1, 0, none⟩ = some (.int .i64 0) := hT.res.cell' 0 rfl
      have r1 : wr.cell? ⟨w.heap.size + 1, 1, none⟩ = some (.slice none 0 0) := hT.res.cell' 1 rfl
      have f0 := hT.res.frozen 0
      have f1 := hT.res.frozen 1
      have HT := Lib.hid hT
      clear hT
      go_wp2_with fail
      refine bodyPost_ret (v := .tuple #[.agg #[.int .i64 (n : Int), .slice (some ⟨g, 0, none⟩) xs.length cap], .int .i64 0]) ?_ rfl ⟨g, cap, rfl, ?_, ?_⟩
      · simp [results, Try.results81, go_sem, r0, r1]
      · have h := HT.out.row
        have hf : ∀ j, j < w.heap.size + 3 → some j ≠ (Value.slice (some ⟨g, 0, none⟩) xs.length cap).ownBlock := fun j hj => own_far h hj
        rw [Hrl.out, ← Hcs.out] at h
        exact own_base (own_set (own_set h _ _ (hf _ (by simp))) _ _ (hf _ (by simp))) (by omega)
      · exact (HT.out.b.setCell (by simp) _).setCell (by simp) _
end Go.Proofs.Ytdmgffoikebgkaa
