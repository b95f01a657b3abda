/- Above: errors; Grow of nil. -/
import Derived.Test.YtjobbleabepaiaaXV
import Derived.Lib.AppendZeros
namespace Go.Proofs.Ytjobbleabepaiaa
open Go.RowKit Go.Shelf

set_option maxHeartbeats 1000000 in
theorem Above_err (d e : Dsg) (w : World) (hr : Reads w d.v d.xs) (hs : Reads w e.v e.xs) (r : Int) (he : firstE [d, e] = r) (hne : r ≠ 0) :
    Calls Try.prog 45 #[.agg #[.int .i64 d.hooks, .slice d.p d.xs.length d.cap], .agg #[.int .i64 e.hooks, .slice e.p e.xs.length e.cap]] w (ErrD r w) := by
  have hne' : (r != 0) = true := by simpa using hne
  have Hc := fun o1 o2 o3 => check_res23 d e w o1 o2 o3 hr hs r he
  clear he hr hs hne
  go_enter Try.func45, Try.ntmps45
  go_wp2_with fail
  refine (Hc _ _ _).mono ?_
  rintro e' w1 ⟨rfl, hb1⟩
  obtain ⟨q, hB⟩ := res_box3 hb1
  have k0 := q.c0
  have k1 := q.c1
  have k2 := q.f 0
  have k3 := q.f 1
  have Hb := Lib.hid hB
  clear hb1 q hB
  go_wp2_with fail
  refine bodyPost_ret (v := .tuple #[.agg #[.int .i64 0, .slice none 0 0], .int .i64 r]) ?_ rfl ⟨rfl, ?_⟩
  · simp [results, Try.results45, go_sem, k0, k1]
  · exact (Hb.out.setCell (by simp; omega) _).setCell (by simp; omega) _
theorem Above_bad (an ab ao ac bn bb bo bc : Nat) (ax bx : List Nat) (w : World) (ha : VAt w ab ao ac an ax) (hb : VAt w bb bo bc bn bx) (r : Int) (hr : (an ≠ bn ∧ r = 4) ∨ (an = bn ∧ 60 < ax.length + bx.length ∧ r = 8)) :
    Calls Try.prog 45 #[.agg #[.int .i64 (an : Int), .slice (some ⟨ab, ao, none⟩) ax.length ac], .agg #[.int .i64 (bn : Int), .slice (some ⟨bb, bo, none⟩) bx.length bc]] w (ErrD r w) := by
  have Hc := fun o1 o2 o3 => check_res23 ⟨an, some ⟨ab, ao, none⟩, ac, ints ax⟩ ⟨bn, some ⟨bb, bo, none⟩, bc, ints bx⟩ w o1 o2 o3 (by unfold Dsg.v; rw [ints_len]; exact ha.reads) (by unfold Dsg.v; rw [ints_len]; exact hb.reads) 0 (by simp [firstE, Dsg.e, ha.ok.check, hb.ok.check])
  simp only [ints_len] at Hc
  have n1 := ha.ok.n1
  have n2 := hb.ok.n1
  rcases hr with ⟨hne, rfl⟩ | ⟨heq, hbig, rfl⟩
  · have ht : ((an : Int) != (bn : Int)) = true := by rw [bne_iff_ne]; omega
    clear ha hb hne
    go_enter Try.func45, Try.ntmps45
    go_wp2_with fail
    refine (Hc _ _ _).mono ?_
    rintro e' w1 ⟨rfl, hb1⟩
    obtain ⟨q, da, db, hB⟩ := res_facts2 hb1
    have a0 := da.c0
    have b0 := db.c0
    have k0 := q.c0
    have k1 := q.c1
    have k2 := q.f 0
    have k3 := q.f 1
    have Hb := Lib.hid hB
    clear hb1 q hB da db
    go_wp2_with fail
    refine bodyPost_ret (v := .tuple #[.agg #[.int .i64 0, .slice none 0 0], .int .i64 4]) ?_ rfl ⟨rfl, ?_⟩
    · simp [results, Try.results45, go_sem, k0, k1]
    · exact (Hb.out.setCell (by simp; omega) _).setCell (by simp; omega) _
  · have ht : ((an : Int) != (bn : Int)) = false := by rw [heq]; simp
    have hd : decide ((60 : Int) < (ax.length : Int) + (bx.length : Int)) = true := by simp; omega
    have l1 := ha.ok.l1
    have l2 := hb.ok.l1
    clear ha hb heq
    go_enter Try.func45, Try.ntmps45
    go_wp2_with fail
    refine (Hc _ _ _).mono ?_
    rintro e' w1 ⟨rfl, hb1⟩
    obtain ⟨q, da, db, hB⟩ := res_facts2 hb1
    have a0 := da.c0
    have a1 := da.c1
    have b0 := db.c0
    have b1 := db.c1
    have k0 := q.c0
    have k1 := q.c1
    have k2 := q.f 0
    have k3 := q.f 1
    have Hb := Lib.hid hB
    clear hb1 q hB da db
    go_wp2_with fail
    refine bodyPost_ret (v := .tuple #[.agg #[.int .i64 0, .slice none 0 0], .int .i64 8]) ?_ rfl ⟨rfl, ?_⟩
    · simp [results, Try.results45, go_sem, k0, k1]
    · exact (Hb.out.setCell (by simp; omega) _).setCell (by simp; omega) _
end Go.Proofs.Ytjobbleabepaiaa
namespace Go.Proofs.Ytjobbleabepaiaa
open Go.RowKit Go.Shelf

set_option maxRecDepth 100000 in
set_option maxHeartbeats 1000000 in
theorem grow_nil (n : Nat) (w : World) (h0 : 0 < n) (h1 : n ≤ 120) :
    Calls Try.prog 106 #[.slice none 0 0, .int .i64 (n : Int)] w fun e w' => ∃ v, e = .returned v ∧ w'.ownsRow w.heap.size 3 1 v 0 [] ∧ Below w.heap.size w w' := by
  have d0 : decide ((n : Int) < 0) = false := by simp
  have d1 : decide ((0 : Int) < (n : Int)) = true := by simp; omega
  go_enter Try.func106, Try.ntmps106
  obtain ⟨i0, hi, hz0, hz1, hz2⟩ := info_parts Try.info3
  have hz := Lib.run_append_nil_zeros (P := Try.prog) w 22 3 22 3 i0 (.int .i64 0) .i64 .i64 Try.underlying22 Try.underlying3 hi hz0 n h0 (by omega) (by omega) (by rw [hz2]; omega)
  obtain ⟨C, hC⟩ : ∃ C, grownCap w n 0 3 = C := ⟨_, rfl⟩
  obtain ⟨W, hW⟩ : ∃ W, w.drew.alloc (.cells (Builtin.zeroCells (Value.int .i64 0).cells n ++ Builtin.zeroCells (Value.int .i64 0).cells (C - n)) 3) = W := ⟨_, rfl⟩
  rw [hC, hW] at hz
  have hge := grownCap_ge w n 0 3
  have hmx := grownCap_le_maxLen w n 0 3 (by unfold maxLen; omega)
  rw [hC] at hge hmx
  have hown : W.ownsRow w.heap.size 3 1 (.slice (some ⟨w.heap.size, 0, none⟩) 0 C) 0 [] := by
    refine ⟨rfl, .inr ⟨w.heap.size, C, Builtin.zeroCells (Value.int .i64 0).cells n ++ Builtin.zeroCells (Value.int .i64 0).cells (C - n), rfl, Nat.le_refl _, ?_, Nat.zero_le _, hmx, ?_, by simp⟩⟩
    · rw [← hW]; exact Array.getElem?_push_size (xs := w.drew.heap)
    · simp [size_zeroCells, Value.cells]; omega
  have hB : Below w.heap.size w W := by rw [← hW]; exact (Below.refl _ _).drew.alloc (Nat.le_refl _) _
  have Hz := Lib.hid hz
  have HO := Lib.hid hown
  have HB := Lib.hid hB
  clear hz hi hz0 hz1 hz2 hC hW hown hB hge hmx
  go_wp2_with (at_builtin; refine Lib.wpList_append_run _ rfl _ _ _ _ rfl _ _ rfl rfl _ _ Hz.out ?_)
  refine bodyPost_ret (v := .slice (some ⟨w.heap.size, 0, none⟩) 0 C) ?_ rfl ⟨_, rfl, HO.out, HB.out⟩
  simp [results, Try.results106, go_sem]
end Go.Proofs.Ytjobbleabepaiaa
