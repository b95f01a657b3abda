/- The calls of known, each at its own arguments. -/
import Derived.Test.YtjobbleabepaiaaVD
import Derived.Test.YtjobbleabepaiaaVG
import Derived.Test.YtjobbleabepaiaaVK
import Derived.Test.YtjobbleabepaiaaVL
import Derived.Test.YtjobbleabepaiaaVN
import Derived.Test.YtjobbleabepaiaaWV
namespace Go.Proofs.Ytjobbleabepaiaa
open Go.RowKit Go.Shelf

/-- design of a slice -/
theorem design_any (h : Int) (p : Option Addr) (n c : Nat) (w : World) :
    Calls Try.prog 30 #[.int .i64 h, .slice p n c] w fun e w' => e = .returned (.agg #[.int .i64 h, .slice p n c]) ∧ Below w.heap.size w w' := by
  go_enter Try.func30, Try.ntmps30
  go_wp2
  refine bodyPost_ret (v := .agg #[.int .i64 h, .slice p n c]) (by simp [results, Try.results30, go_sem]) rfl ⟨rfl, ?_⟩
  exact (Below.refl _ _).alloc (Nat.le_refl _) _

/-- rows in memory, from a block's first cell on -/
structure RowsAt (W : World) (b : Nat) (xs : List Nat) : Prop where
  at' : NatsAt W b 0 xs
  lt : b < W.heap.size
theorem RowsAt.below {W W' : World} {b : Nat} {xs : List Nat} (h : RowsAt W b xs) (hb : Below W.heap.size W W') : RowsAt W' b xs := ⟨h.at'.below hb h.lt, Nat.lt_of_lt_of_le h.lt hb.size⟩
theorem RowsAt.of_blk {W : World} {b : Nat} {xs : List Nat} (h : NatBlk W b xs) : RowsAt W b xs := ⟨h.natsAt, h.lt⟩
theorem RowsAt.of_own {W : World} {B : Nat} {v : Value} {xs : List Nat} (h : W.ownsRow B 3 1 v xs.length (xs.map natV)) (hl : 0 < xs.length) : ∃ g cap, v = .slice (some ⟨g, 0, none⟩) xs.length cap ∧ B ≤ g ∧ RowsAt W g xs := by
  have h0 := h
  obtain ⟨hl, ⟨rfl, hz⟩ | ⟨g, cap, cur, rfl, hg, hh, r⟩⟩ := h
  · omega
  · refine ⟨g, cap, rfl, hg, fun i hi => ?_, (Array.getElem?_eq_some_iff.1 hh).1⟩
    have := h0.cellAt (0 + i) (by omega)
    rw [this]
    simp [natV, nthN, hi]
theorem RowsAt.reads {W : World} {b : Nat} {xs : List Nat} (h : RowsAt W b xs) (hl : xs.length ≤ 1000) (c : Nat) : Reads W (.slice (some ⟨b, 0, none⟩) xs.length c) (ints xs) :=
  ⟨_, c, by rw [ints_len], by rw [ints_len]; omega, fun _ => ⟨b, 0, rfl, h.lt, h.at'.ints⟩⟩
def validB (n : Nat) (xs : List Nat) : Bool := decide (1 ≤ n) && decide (n ≤ 24) && decide (1 ≤ xs.length) && decide (xs.length ≤ 60) && xs.all fun x => decide (x < 2 ^ n)
theorem Valid.of {n : Nat} {xs : List Nat} (h : validB n xs = true) : Valid n xs := by
  simp only [validB, Bool.and_eq_true, decide_eq_true_eq, List.all_eq_true] at h
  obtain ⟨⟨⟨⟨h1, h2⟩, h3⟩, h4⟩, h5⟩ := h
  refine ⟨h1, h2, h3, h4, fun i => ?_⟩
  by_cases hi : i < xs.length
  · exact h5 _ (nthN_mem xs i hi)
  · have : nthN xs i = 0 := by simp [nthN]; rw [List.getElem?_eq_none (by omega)]; rfl
    rw [this]; exact Nat.pow_pos (by decide)
theorem VAt.of {W : World} {b c n : Nat} {xs : List Nat} (h : RowsAt W b xs) (hv : validB n xs = true) : VAt W b 0 c n xs := ⟨h.at', h.lt, Valid.of hv⟩

def kFloats : List Fl := upTo (flW 6 [7, 56, 0, 21] 2) 4
def kProof : List Fl := proofN 6 2 [7, 56, 0, 21]
theorem kFloats_eq : kFloats = [⟨0, 0, 3, true⟩, ⟨0, 3, 3, false⟩, ⟨1, 0, 3, false⟩, ⟨1, 3, 3, true⟩, ⟨2, 0, 1000, false⟩] := by decide +kernel
theorem kProof_eq : kProof = [⟨0, 0, 3, true⟩, ⟨0, 3, 3, false⟩, ⟨1, 0, 3, false⟩, ⟨1, 3, 3, true⟩, ⟨2, 0, 3, false⟩, ⟨2, 3, 3, false⟩] := by decide +kernel
theorem kLongest_eq : doneM 6 [7, 56, 0, 21] 2 1 false = 1000 ∧ doneM 6 [7, 56, 0, 21] 2 1 true = 3 ∧ doneM 6 [7, 56, 0, 21] 2 2 true = 2 ∧ doneM 6 [7, 56, 0, 21] 2 2 false = 3 := by decide +kernel
theorem kBind_eq : bindRows 6 2 [7, 56, 0, 21] [0, 0, 0, 0] 4 = [11, 25, 9, 21] ∧ bindSum 6 2 [7, 56, 0, 21] [0, 0, 0, 0] 4 = 6 := by decide +kernel
theorem kLeast_eq : leastN (fun k => repB [21, 42] 6 k 0) 2 = 2 ∧ leastN (fun k => repB [21, 42] 6 0 k) 6 = 2 := by decide +kernel
theorem kShift_eq : painted (shG [21, 42] 6 0 1) 2 6 = [42, 21] := by decide +kernel
theorem kReflect_eq : painted (reflG [3] 4) 1 6 = [35] := by decide +kernel
theorem kLay_eq : painted (layG [1, 2] 2 [15, 15] [6, 6]) 2 4 = [7, 14] := by decide +kernel
theorem kNever : (∀ i, i < 4 → bindN 6 (nthN [7, 56, 0, 21] i) (nthN [0, 0, 0, 0] i) 2 < never) ∧ (∀ i, i < 2 → bindN 6 (nthN [7, 56, 0, 21] i) (nthN [0, 0, 63, 0] i) 2 < never) ∧ bindN 6 (nthN [7, 56, 0, 21] 2) (nthN [0, 0, 63, 0] 2) 2 = never := by decide +kernel

theorem k_floats (b c : Nat) (w : World) (h : RowsAt w b [7, 56, 0, 21]) :
    Calls Try.prog 20 #[.agg #[.int .i64 6, .slice (some ⟨b, 0, none⟩) 4 c], .int .i64 1, .int .i64 2] w
      fun e w' => ∃ g cap, e = .returned (.tuple #[.slice (some ⟨g, 0, none⟩) 5 cap, .int .i64 0]) ∧ FlsAt w' g kFloats ∧ Below w.heap.size w w' := by
  have H : Calls Try.prog 20 #[.agg #[.int .i64 6, .slice (some ⟨b, 0, none⟩) 4 c], .int .i64 1, .int .i64 2] w
      fun e w' => ∃ v, e = .returned (.tuple #[v, .int .i64 0]) ∧ w'.ownsRow w.heap.size 87 4 v kFloats.length (flCells kFloats) ∧ Below w.heap.size w w' := FloatsW_ok 6 b 0 c [7, 56, 0, 21] 2 w (VAt.of h (by decide)) (by omega)
  have hl : kFloats.length = 5 := by rw [kFloats_eq]; rfl
  refine H.mono ?_
  rintro e w' ⟨v, rfl, hr, hb⟩
  obtain ⟨p, cap, rfl, hF⟩ := Fls.of_row hr
  obtain ⟨g, rfl, hf⟩ := hF (by omega)
  exact ⟨g, cap, by rw [hl], hf, hb⟩
theorem k_proof (b c : Nat) (w : World) (h : RowsAt w b [7, 56, 0, 21]) :
    Calls Try.prog 33 #[.agg #[.int .i64 6, .slice (some ⟨b, 0, none⟩) 4 c], .int .i64 2] w
      fun e w' => ∃ g cap, e = .returned (.tuple #[.slice (some ⟨g, 0, none⟩) 6 cap, .int .i64 0]) ∧ FlsAt w' g kProof ∧ Below w.heap.size w w' := by
  have H : Calls Try.prog 33 #[.agg #[.int .i64 6, .slice (some ⟨b, 0, none⟩) 4 c], .int .i64 2] w
      fun e w' => ∃ v, e = .returned (.tuple #[v, .int .i64 0]) ∧ w'.ownsRow w.heap.size 87 4 v kProof.length (flCells kProof) ∧ Below w.heap.size w w' := Proof_ok 6 b 0 c 2 [7, 56, 0, 21] w (VAt.of h (by decide)) (by omega) (by omega)
  have hl : kProof.length = 6 := by rw [kProof_eq]; rfl
  refine H.mono ?_
  rintro e w' ⟨v, rfl, hr, hb⟩
  obtain ⟨p, cap, rfl, hF⟩ := Fls.of_row hr
  obtain ⟨g, rfl, hf⟩ := hF (by omega)
  exact ⟨g, cap, by rw [hl], hf, hb⟩
theorem k_longest (b c : Nat) (w : World) (h : RowsAt w b [7, 56, 0, 21]) :
    Calls Try.prog 21 #[.agg #[.int .i64 6, .slice (some ⟨b, 0, none⟩) 4 c]] w
      fun e w' => e = .returned (.tuple #[.agg #[.int .i64 1000, .int .i64 3, .int .i64 2, .int .i64 3], .int .i64 0]) ∧ Below w.heap.size w w' := by
  have H := Longest_ok 6 b 0 c [7, 56, 0, 21] w (VAt.of h (by decide))
  obtain ⟨h1, h2, h3, h4⟩ := kLongest_eq
  rw [h1, h2, h3, h4] at H
  exact H
theorem k_bind (b c fb fc : Nat) (w : World) (h : RowsAt w b [7, 56, 0, 21]) (hf : RowsAt w fb [0, 0, 0, 0]) :
    Calls Try.prog 29 #[.agg #[.int .i64 6, .slice (some ⟨b, 0, none⟩) 4 c], .slice (some ⟨fb, 0, none⟩) 4 fc, .int .i64 2] w
      fun e w' => ∃ g cap, e = .returned (.tuple #[.agg #[.int .i64 6, .slice (some ⟨g, 0, none⟩) 4 cap], .int .i64 6, .int .i64 0]) ∧ w.heap.size ≤ g ∧ RowsAt w' g [11, 25, 9, 21] ∧ Below w.heap.size w w' := by
  have H := Bind_ok 6 b 0 c fb 0 fc 2 [7, 56, 0, 21] [0, 0, 0, 0] w (VAt.of h (by decide)) rfl hf.at' hf.lt (fun i => (Valid.of (n := 6) (xs := [0, 0, 0, 0]) (by decide)).lt i) (by omega) (by omega) kNever.1
  have e1 : bindRows 6 2 [7, 56, 0, 21] [0, 0, 0, 0] [7, 56, 0, 21].length = [11, 25, 9, 21] := kBind_eq.1
  have e2 : bindSum 6 2 [7, 56, 0, 21] [0, 0, 0, 0] [7, 56, 0, 21].length = 6 := kBind_eq.2
  rw [e1, e2] at H
  refine Calls.mono H ?_
  rintro e w' ⟨v, rfl, hr, hb⟩
  obtain ⟨g, cap, rfl, hg, hR⟩ := RowsAt.of_own (xs := [11, 25, 9, 21]) hr (by decide)
  exact ⟨g, cap, rfl, hg, hR, hb⟩
theorem k_bind_no (b c fb fc : Nat) (w : World) (h : RowsAt w b [7, 56, 0, 21]) (hf : RowsAt w fb [0, 0, 63, 0]) :
    Calls Try.prog 29 #[.agg #[.int .i64 6, .slice (some ⟨b, 0, none⟩) 4 c], .slice (some ⟨fb, 0, none⟩) 4 fc, .int .i64 2] w
      fun e w' => e = .returned (.tuple #[.agg #[.int .i64 0, .slice none 0 0], .int .i64 0, .int .i64 9]) ∧ Below w.heap.size w w' :=
  Bind_nev 2 6 b 0 c fb 0 fc 2 [7, 56, 0, 21] [0, 0, 63, 0] w (VAt.of h (by decide)) rfl hf.at' hf.lt (fun i => (Valid.of (n := 6) (xs := [0, 0, 63, 0]) (by decide)).lt i) (by omega) (by omega) (by decide) kNever.2.1 kNever.2.2
theorem k_least (b c : Nat) (w : World) (h : RowsAt w b [21, 42]) :
    Calls Try.prog 51 #[.agg #[.int .i64 6, .slice (some ⟨b, 0, none⟩) 2 c]] w
      fun e w' => e = .returned (.tuple #[.int .i64 2, .int .i64 2, .int .i64 0]) ∧ Below w.heap.size w w' := by
  have H := Least_ok 6 b 0 c [21, 42] w (VAt.of h (by decide))
  have e1 : leastN (fun k => repB [21, 42] 6 k 0) [21, 42].length = 2 := kLeast_eq.1
  rw [e1, kLeast_eq.2] at H
  exact H
theorem okD_rows {n : Nat} {ys : List Nat} {w : World} {e : Ending} {w' : World} (h : OkD n ys w e w') :
    ∃ g, e = .returned (.tuple #[.agg #[.int .i64 (n : Int), .slice (some ⟨g, 0, none⟩) ys.length ys.length], .int .i64 0]) ∧ RowsAt w' g ys ∧ Below w.heap.size w w' := by
  obtain ⟨R, rfl, _, h1, h2⟩ := h
  exact ⟨R, rfl, RowsAt.of_blk h1, h2⟩
theorem k_shift (b c : Nat) (w : World) (h : RowsAt w b [21, 42]) :
    Calls Try.prog 38 #[.agg #[.int .i64 6, .slice (some ⟨b, 0, none⟩) 2 c], .int .i64 0, .int .i64 1] w
      fun e w' => ∃ g, e = .returned (.tuple #[.agg #[.int .i64 6, .slice (some ⟨g, 0, none⟩) 2 2], .int .i64 0]) ∧ RowsAt w' g [42, 21] ∧ Below w.heap.size w w' := by
  have H := Shift_ok 6 b 0 c 0 1 [21, 42] w (VAt.of h (by decide)) (by decide) (by decide)
  have e1 : painted (shG [21, 42] 6 0 1) [21, 42].length 6 = [42, 21] := kShift_eq
  rw [e1] at H
  exact Calls.mono H fun _ _ h => okD_rows h
theorem k_reflect (b c : Nat) (w : World) (h : RowsAt w b [3]) :
    Calls Try.prog 46 #[.agg #[.int .i64 4, .slice (some ⟨b, 0, none⟩) 1 c]] w
      fun e w' => ∃ g, e = .returned (.tuple #[.agg #[.int .i64 6, .slice (some ⟨g, 0, none⟩) 1 1], .int .i64 0]) ∧ RowsAt w' g [35] ∧ Below w.heap.size w w' := by
  have H := Reflect_ok 4 b 0 c [3] w (VAt.of h (by decide)) (by decide)
  have e1 : painted (reflG [3] 4) [3].length (reflHooks 4) = [35] := kReflect_eq
  rw [e1] at H
  exact Calls.mono H fun _ _ h => okD_rows h
theorem k_lay (b1 c1 b2 c2 b3 c3 : Nat) (w : World) (h1 : RowsAt w b1 [1, 2]) (h2 : RowsAt w b2 [15, 15]) (h3 : RowsAt w b3 [6, 6]) :
    Calls Try.prog 55 #[.agg #[.int .i64 2, .slice (some ⟨b1, 0, none⟩) 2 c1], .agg #[.int .i64 4, .slice (some ⟨b2, 0, none⟩) 2 c2], .agg #[.int .i64 4, .slice (some ⟨b3, 0, none⟩) 2 c3]] w
      fun e w' => ∃ g, e = .returned (.tuple #[.agg #[.int .i64 4, .slice (some ⟨g, 0, none⟩) 2 2], .int .i64 0]) ∧ RowsAt w' g [7, 14] ∧ Below w.heap.size w w' := by
  have H := Lay_ok 2 b1 0 c1 4 b2 0 c2 b3 0 c3 [1, 2] [15, 15] [6, 6] w (VAt.of h1 (by decide)) (VAt.of h2 (by decide)) (VAt.of h3 (by decide)) rfl
  have e1 : painted (layG [1, 2] 2 [15, 15] [6, 6]) [15, 15].length 4 = [7, 14] := kLay_eq
  rw [e1] at H
  exact Calls.mono H fun _ _ h => okD_rows h
theorem k_same (h : Int) (b1 c1 b2 c2 n : Nat) (xs : List Nat) (w : World) (hn : n = xs.length) (hl : xs.length ≤ 1000) (h1 : RowsAt w b1 xs) (h2 : RowsAt w b2 xs) :
    Calls Try.prog 23 #[.agg #[.int .i64 h, .slice (some ⟨b1, 0, none⟩) n c1], .agg #[.int .i64 h, .slice (some ⟨b2, 0, none⟩) n c2]] w fun e w' => e = .returned (.bool true) ∧ Below w.heap.size w w' := by
  subst hn
  have H := Same_any h h (some ⟨b1, 0, none⟩) (some ⟨b2, 0, none⟩) c1 c2 (ints xs) (ints xs) w (by rw [ints_len]; exact h1.reads hl c1) (by rw [ints_len]; exact h2.reads hl c2)
  rw [ints_len] at H
  simpa using H
end Go.Proofs.Ytjobbleabepaiaa
