/- floats: all floats of a design along picks, or along hooks. · floats along hooks. -/
import Derived.Laws.EntriesVeiled
import Derived.Test.YtdmgffoikebgkaaTb01
import Derived.Test.YtdmgffoikebgkaaTb02
import Derived.Test.YtdmgffoikebgkaaTb03
import Derived.Test.YtdmgffoikebgkaaTb04
import Derived.Test.YtdmgffoikebgkaaTb05
import Derived.Test.YtdmgffoikebgkaaTb06
import Derived.Test.YtdmgffoikebgkaaTb07
import Derived.Test.YtdmgffoikebgkaaTb08
import Derived.Test.YtdmgffoikebgkaaTb09
import Derived.Test.YtdmgffoikebgkaaTb10
import Derived.Test.YtdmgffoikebgkaaTb11
import Derived.Test.YtdmgffoikebgkaaTb12
import Derived.Test.YtdmgffoikebgkaaTb13
import Derived.Test.YtdmgffoikebgkaaTb14
import Derived.Test.YtdmgffoikebgkaaTb15
import Derived.Test.YtdmgffoikebgkaaTb16
import Derived.Test.YtdmgffoikebgkaaTb17
import Derived.Test.YtdmgffoikebgkaaTb18
import Derived.Test.YtdmgffoikebgkaaTb19
import Derived.Test.YtdmgffoikebgkaaTb20
import Derived.Deep.RegionWith
import Derived.LoopNIn
import Derived.Maps.OwnIn
import Derived.Deep.RegionHeld3
import Derived.Maps.OwnOps
import Derived.Maps.Views
import Derived.DeepKeys4
import Derived.KernelRfl
import Derived.Maps.AppendAt
import Derived.Deep.AppendLies
import Derived.Deep.RegionLaw
import Derived.Deep.DeepCutAuto
import Derived.Deep.QuietTactic
import Derived.BigQuiet
import Derived.Laws.IdiomStrings
namespace Go.Proofs.Ytdmgffoikebgkaa
section
open Go.RowKit Go.Shelf
attribute [local go_sem] Oper.semAt_some

/-- the floats of one ring -/
def ringFl (mk : Run → Fl) (m : Int) (rs : List Run) : List Fl := (rs.filter fun r => decide (m < (r.length : Int))).map mk
theorem ringFl_len (mk : Run → Fl) (m : Int) (rs : List Run) : (ringFl mk m rs).length ≤ rs.length := by
  unfold ringFl; rw [List.length_map]; exact List.length_filter_le _ _
theorem ringFl_yes (mk : Run → Fl) (m : Int) (rs : List Run) (r : Run) (h : m < (r.length : Int)) : ringFl mk m (rs ++ [r]) = ringFl mk m rs ++ [mk r] := by
  simp [ringFl, List.filter_append, h]
theorem ringFl_no (mk : Run → Fl) (m : Int) (rs : List Run) (r : Run) (h : ¬ m < (r.length : Int)) : ringFl mk m (rs ++ [r]) = ringFl mk m rs := by
  simp [ringFl, List.filter_append, h]
theorem ringFl_step (mk : Run → Fl) (m : Int) (rs : List Run) (r : Run) : ringFl mk m (rs ++ [r]) = ringFl mk m rs ++ (if m < (r.length : Int) then [mk r] else []) := by
  by_cases h : m < (r.length : Int)
  · rw [ringFl_yes mk m rs r h, if_pos h]
  · rw [ringFl_no mk m rs r h, if_neg h, List.append_nil]
end
end Go.Proofs.Ytdmgffoikebgkaa
namespace Go.Proofs.Ytdmgffoikebgkaa
section
open Go.RowKit Go.Shelf
attribute [local go_sem] Oper.semAt_some
end
end Go.Proofs.Ytdmgffoikebgkaa
/- Floats. · Floats, Proof, Longest. -/
namespace Go.Proofs.Ytdmgffoikebgkaa
section
open Go.RowKit

theorem valid_of_check {h : Int} {is : List Int} (hc : checkE h is = 0) : ∃ n xs, h = ((n : Nat) : Int) ∧ is = ints xs ∧ Valid n xs := by
  unfold checkE at hc
  by_cases h1 : h < 1 ∨ 24 < h
  · rw [if_pos h1] at hc; omega
  rw [if_neg h1] at hc
  by_cases h2 : 60 < is.length
  · rw [if_pos h2] at hc; omega
  rw [if_neg h2] at hc
  by_cases h3 : is.length = 0
  · rw [if_pos h3] at hc; omega
  rw [if_neg h3] at hc
  by_cases h4 : rowsOk h.toNat is = true
  · obtain ⟨n, rfl⟩ := Int.eq_ofNat_of_zero_le (show 0 ≤ h by omega)
    have hall : ∀ x ∈ is, 0 ≤ x ∧ x < 2 ^ n := by
      intro x hx
      have := (List.all_eq_true.1 h4) x hx
      simpa using this
    refine ⟨n, is.map Int.toNat, rfl, ?_, by omega, by omega, by simp; omega, by simp; omega, fun i => ?_⟩
    · unfold ints
      rw [List.map_map]
      conv => lhs; rw [← List.map_id is]
      refine List.map_congr_left fun x hx => ?_
      have := (hall x hx).1
      simp; omega
    · by_cases hi : i < is.length
      · rw [nthN_get _ _ (by simpa using hi)]
        have := hall is[i] (List.getElem_mem _)
        simp only [List.getElem_map]
        have e : (2 : Int) ^ n = ((2 ^ n : Nat) : Int) := (Int.natCast_pow 2 n).symm
        rw [e] at this
        omega
      · have : nthN (is.map Int.toNat) i = 0 := by simp [nthN]; rw [List.getElem?_eq_none (by omega)]; rfl
        rw [this]
        exact Nat.pow_pos (by decide)
  · rw [if_neg h4] at hc; omega
end
end Go.Proofs.Ytdmgffoikebgkaa
namespace Go.Proofs.Ytdmgffoikebgkaa
section
open Go.RowKit

end
end Go.Proofs.Ytdmgffoikebgkaa
/- Harness ties: the hooks of one group, one after the other, and Make, at the group of the document's example. -/
namespace Go.Proofs.Ytdmgffoikebgkaa
open Go.RowKit Go.Shelf
attribute [local go_sem] Oper.semAt_some

def intV (n : Int) : Value := .int .i64 n
end Go.Proofs.Ytdmgffoikebgkaa
/- Floats in memory; the windows of Proof. -/
namespace Go.Proofs.Ytdmgffoikebgkaa
open Go.RowKit

theorem ownsRow_next {W W' : World} {base e size k : Nat} {v : Value} {xs : List Value} (h : W.ownsRow base e size v k xs) (hb : Below W.heap.size W W') : W'.ownsRow base e size v k xs := by
  obtain ⟨hl, h2⟩ := h
  refine ⟨hl, ?_⟩
  rcases h2 with h2 | ⟨g, cap, cur, e, hg, hh, r⟩
  · exact .inl h2
  · exact .inr ⟨g, cap, cur, e, hg, (hb.block _ (Array.getElem?_eq_some_iff.1 hh).1).trans hh, r⟩
end Go.Proofs.Ytdmgffoikebgkaa
/- Differ. -/
namespace Go.Proofs.Ytdmgffoikebgkaa
open Go.RowKit Go.Shelf

end Go.Proofs.Ytdmgffoikebgkaa
/- (after texts BA, BB, BC, BD, BF, ZB, XA of the first seat) What Bind makes: a bound design with the fewest changes; what a bound row is woven as. -/
namespace Go.Proofs.Ytdmgffoikebgkaa
open Go.RowKit

section
variable (p f h L : Nat) (now : List Nat) (a : Bool) (next0 : List Nat)
end
end Go.Proofs.Ytdmgffoikebgkaa
/- TopBound: which rows can be bound; Bind, Floats and Differ for its designs; a byte. -/
namespace Go.Proofs.Ytdmgffoikebgkaa
open Go.RowKit Go.Shelf
attribute [local go_sem] Oper.semAt_some

theorem con_free (p x : Nat) (s : Nat) : con p 0 x s = 0 := (con_zero s).2 fun j _ _ => by simp [bitN]
end Go.Proofs.Ytdmgffoikebgkaa
/- The reference of chapter 1: In, Check, Points, Table, Length, Bound. -/
namespace Go.Proofs.Ytdmgffoikebgkaa
open Go.RowKit

theorem In_any (n a c : Int) (w : World) :
    Calls Try.prog 180 #[.int .i64 n, .int .i64 a, .int .i64 c] w fun e w' => e = .returned (.bool (decide (a ≤ n) && decide (n ≤ c))) ∧ w = w' := by
  go_enter Try.func180, Try.ntmps180
  go_wp2
  all_goals go_ret
  · have h : a ≤ n := by assumption
    exact ⟨ret_bool (by simp [h]), rfl⟩
  · have h : n < a := by assumption
    exact ⟨ret_bool (by simp; omega), rfl⟩

set_option maxHeartbeats 1000000 in
theorem refCheck_any (h : Int) (v : Value) (xs : List Int) (w : World) (hv : Reads w v xs) :
    Calls Try.prog 122 #[.agg #[.int .i64 h, v]] w fun e w' => e = .returned (.int .i64 (checkE h xs)) ∧ Below w.heap.size w w' := by
  obtain ⟨p, c, rfl, hl, hx⟩ := hv
  by_cases h1 : h < 1 ∨ 24 < h
  · have he : checkE h xs = 2 := by simp [checkE, h1]
    have hb : (decide (1 ≤ h) && decide (h ≤ 24)) = false := by simp; omega
    have Hin := fun w => In_any h 1 24 w
    rw [hb] at Hin
    have He := Lib.hid he
    clear he hb h1 hx
    go_enter Try.func122, Try.ntmps122
    go_wp2_with fail
    refine (Hin _).mono ?_
    rintro e w' ⟨rfl, rfl⟩
    go_wp2
    go_ret
    exact ⟨ret_int He.out.symm, (Below.refl _ _).alloc (Nat.le_refl _) _⟩
  · obtain ⟨n, rfl⟩ := Int.eq_ofNat_of_zero_le (show 0 ≤ h by omega)
    have g1 : (1 : Int) ≤ (n : Int) := by omega
    have g2 : (n : Int) ≤ 24 := by omega
    have hb : (decide (1 ≤ (n : Int)) && decide ((n : Int) ≤ 24)) = true := by simp; omega
    have Hin := fun w => In_any (n : Int) 1 24 w
    rw [hb] at Hin
    clear hb
    by_cases h2 : 60 < xs.length
    · have he : checkE n xs = 5 := by rw [checkE, if_neg h1, if_pos h2]
      have He := Lib.hid he; clear he
      clear h1 hx
      go_enter Try.func122, Try.ntmps122
      go_wp2_with fail
      refine (Hin _).mono ?_
      rintro e w' ⟨rfl, rfl⟩
      go_wp2
      go_ret
      exact ⟨ret_int He.out.symm, (Below.refl _ _).alloc (Nat.le_refl _) _⟩
    · by_cases h3 : xs.length = 0
      · have he : checkE n xs = 7 := by rw [checkE, if_neg h1, if_neg h2, if_pos h3]
        have He := Lib.hid he; clear he
        obtain rfl : xs = [] := List.eq_nil_of_length_eq_zero h3
        clear h1 hx h2 hl h3
        go_enter Try.func122, Try.ntmps122
        go_wp2_with fail
        refine (Hin _).mono ?_
        rintro e w' ⟨rfl, rfl⟩
        go_wp2
        go_ret
        exact ⟨ret_int He.out.symm, (Below.refl _ _).alloc (Nat.le_refl _) _⟩
      · obtain ⟨b, off, rfl, hb, hx⟩ := hx (by omega)
        have h3' : 0 < xs.length := by omega
        have h2' : xs.length ≤ 60 := by omega
        have hx1 : IntsAt (w.alloc (.cells #[.int .i64 (n : Int), .slice (some ⟨b, off, none⟩) xs.length c] 37)) b off xs := hx.below ((Below.refl _ _).alloc (Nat.le_refl _) _) hb
        have he : checkE n xs = if rowsOk n xs then 0 else 2 := by rw [checkE, if_neg h1, if_neg h2, if_neg h3]; simp
        have He := Lib.hid he
        have hz60 : ((xs.length : Int) == 0) = false := by rw [beq_eq_false_iff_ne]; omega
        have hd60 : decide ((60 : Int) < (xs.length : Int)) = false := by simp; omega
        obtain ⟨hp1, hp2⟩ := pow_bds n (by omega)
        obtain ⟨W1, hW1⟩ : ∃ W1, w.alloc (.cells #[.int .i64 (n : Int), .slice (some ⟨b, off, none⟩) xs.length c] 37) = W1 := ⟨_, rfl⟩
        have d0 : W1.cell? ⟨w.heap.size, 0, none⟩ = some (.int .i64 (n : Int)) := by rw [← hW1]; simp
        have d1 : W1.cell? ⟨w.heap.size, 1, none⟩ = some (.slice (some ⟨b, off, none⟩) xs.length c) := by rw [← hW1]; simp
        have HB : Hid (Below w.heap.size w W1) := Lib.hid (by rw [← hW1]; exact (Below.refl _ _).alloc (Nat.le_refl _) _)
        rw [hW1] at hx1
        have HX := Lib.hid hx1
        have HW := Lib.hid hW1
        clear h1 h2 h3 hx he hx1 hW1
        go_enter Try.func122, Try.ntmps122
        go_wp2_with fail
        refine (Hin _).mono ?_
        rintro e w' ⟨rfl, rfl⟩
        rw [HW.out]
        go_wp2
        go_loopw [3] (fun i wr => ∃ k : Nat, k ≤ xs.length ∧ i = .int .i64 k ∧ rowsOk n (xs.take k) = true ∧ ∃ j, wr = W1.drewN j) (fun i _ => xs.length - (intOf i).toNat)
        case atStart => exact ⟨0, Nat.zero_le _, rfl, by simp [rowsOk], 0, rfl⟩
        case round =>
          obtain ⟨k, hk, rfl, hr, j, rfl⟩ := hrel
          have Hr := Lib.hid hr; clear hr
          by_cases hlt : k < xs.length
          · have hc := HX.out k hlt
            have hk0 : (0 : Int) ≤ (k : Int) := by omega
            have hk1 : (k : Int) < (xs.length : Int) := by omega
            have hu : IntKind.u64.wrap (n : Int) = (n : Int) := IntWalk.u64_in _ (by omega)
            have hmn : min n 64 = n := by omega
            have hw1 : IntKind.i64.wrap (2 ^ n) = 2 ^ n := IntWalk.i64_in _ (by omega)
            have hw2 : IntKind.i64.wrap (2 ^ n - 1) = 2 ^ n - 1 := IntWalk.i64_in _ (by omega)
            by_cases hok : 0 ≤ nthI xs k ∧ nthI xs k < 2 ^ n
            · have HI : ∀ w, Calls Try.prog 180 #[.int .i64 (nthI xs k), .int .i64 0, .int .i64 (2 ^ n - 1)] w fun e w' => e = .returned (.bool true) ∧ w = w' := fun w => by
                have := In_any (nthI xs k) 0 (2 ^ n - 1) w
                rwa [show (decide (0 ≤ nthI xs k) && decide (nthI xs k ≤ 2 ^ n - 1)) = true by simp; omega] at this
              have Hok := Lib.hid hok
              clear hok
              go_wp2_with fail
              go_region_with (go_at_call 180; refine (HI _).mono ?_; rintro e w' ⟨rfl, rfl⟩)
              all_goals clear hu hmn hw1 hw2
              all_goals go_wp2
              all_goals go_roundw
              all_goals first | (simp [intOf]; omega) | exact ⟨k + 1, by omega, by go_num, rowsOk_step n xs k hlt Hr.out Hok.out.1 Hok.out.2, _, rfl⟩
            · have HI : ∀ w, Calls Try.prog 180 #[.int .i64 (nthI xs k), .int .i64 0, .int .i64 (2 ^ n - 1)] w fun e w' => e = .returned (.bool false) ∧ w = w' := fun w => by
                have := In_any (nthI xs k) 0 (2 ^ n - 1) w
                rwa [show (decide (0 ≤ nthI xs k) && decide (nthI xs k ≤ 2 ^ n - 1)) = false by simp; omega] at this
              have Hno := Lib.hid (rowsOk_false n xs k hlt (by omega))
              clear hok
              go_wp2_with fail
              go_region_with (go_at_call 180; refine (HI _).mono ?_; rintro e w' ⟨rfl, rfl⟩)
              all_goals clear hu hmn hw1 hw2
              all_goals go_wp2
              all_goals go_ret
              all_goals exact ⟨ret_int (by rw [He.out, Hno.out]; rfl), HB.out.trans (below_drewN _ _ _)⟩
          · go_wp2
            go_ret
            exact ⟨ret_int (by rw [He.out, show rowsOk n xs = true by rw [← Hr.out, take_end xs k hk hlt]]; rfl), HB.out.trans (below_drewN _ _ _)⟩

theorem tInfo77 : (Try.prog.info? 168).map (fun i => (i.zero, i.size, i.bytes)) = some (some (.slice none 0 0), 1, 24) := by kernel_rfl
/-- a table in memory: so many rows of so many bools -/
structure TabAt (W : World) (g N m : Nat) (f : Nat → Nat → Bool) : Prop where
  r : ∀ i, i < N → ∃ b c, W.cell? ⟨g, i, none⟩ = some (.slice (some ⟨b, 0, none⟩) m c) ∧ BoolsAt W b m (f i)
  lt : g < W.heap.size
theorem TabAt.below {W W' : World} {g N m : Nat} {f : Nat → Nat → Bool} (h : TabAt W g N m f) (hb : Below W.heap.size W W') : TabAt W' g N m f :=
  ⟨fun i hi => by obtain ⟨b, c, h1, h2⟩ := h.r i hi; exact ⟨b, c, (hb.cell (p := ⟨g, i, none⟩) h.lt).trans h1, h2.below hb h2.lt⟩, Nat.lt_of_lt_of_le h.lt hb.size⟩
/-- rows of a table that is being made -/
def RowsIn (W : World) (v : Value) (sl : List Value) (k m : Nat) (f : Nat → Nat → Bool) : Prop :=
  ∀ i, i < k → ∃ b c, sl[i]? = some (.slice (some ⟨b, 0, none⟩) m c) ∧ some b ≠ v.ownBlock ∧ BoolsAt W b m (f i)
theorem RowsIn.below {W W' : World} {v : Value} {sl : List Value} {k m : Nat} {f : Nat → Nat → Bool} (h : RowsIn W v sl k m f) (hb : Below W.heap.size W W') : RowsIn W' v sl k m f := fun i hi => by
  obtain ⟨b, c, h1, h2, h3⟩ := h i hi
  exact ⟨b, c, h1, h2, h3.below hb h3.lt⟩
theorem RowsIn.grow {W w5 : World} {v v' : Value} {sl : List Value} {k m b c H : Nat} {f : Nat → Nat → Bool} (h : RowsIn W v sl k m f) (hsl : sl.length = k) (hg : W.grownBy w5 v.ownBlock) (hb : BoolsAt W b m (f k)) (hbv : some b ≠ v.ownBlock)
    (hv' : v'.ownBlock = v.ownBlock ∨ v'.ownBlock = some H) (hH : W.heap.size ≤ H) : RowsIn w5 v' (sl ++ [.slice (some ⟨b, 0, none⟩) m c]) (k + 1) m f := fun i hi => by
  have hne : ∀ x, x < W.heap.size → some x ≠ v.ownBlock → some x ≠ v'.ownBlock := fun x hx hxv => by
    rcases hv' with e | e
    · rw [e]; exact hxv
    · rw [e]; intro h; simp at h; omega
  by_cases hik : i = k
  · subst hik
    refine ⟨b, c, by rw [List.getElem?_append_right (by omega), hsl]; simp, hne _ hb.lt hbv, hb.kept hg hbv⟩
  · obtain ⟨b', c', h1, h2, h3⟩ := h i (by omega)
    exact ⟨b', c', by rw [List.getElem?_append_left (by omega)]; exact h1, hne _ h3.lt h2, h3.kept hg h2⟩
theorem TabAt.of_rows {W : World} {B g c N m : Nat} {sl : List Value} {f : Nat → Nat → Bool} (h : W.ownsRow B 168 1 (.slice (some ⟨g, 0, none⟩) N c) N sl) (hr : RowsIn W (.slice (some ⟨g, 0, none⟩) N c) sl N m f) : TabAt W g N m f := by
  refine ⟨fun i hi => ?_, (h.lt g rfl).2⟩
  obtain ⟨b, c, h1, _, h3⟩ := hr i hi
  exact ⟨b, c, by rw [h.cellAt i (by omega), h1], h3⟩

theorem below_new1 (W : World) (o : Obj) : Below W.heap.size W (W.alloc o) := (Below.refl _ _).alloc (Nat.le_refl _) o
set_option maxRecDepth 100000 in
set_option maxHeartbeats 4000000 in
theorem Table_any (n b off c : Nat) (xs : List Nat) (w : World) (hn : n ≤ 60) (hl : xs.length ≤ 1000) (hx : NatsAt w b off xs) (hb : b < w.heap.size) (hv : ∀ i, nthN xs i < 16777216) :
    Calls Try.prog 123 #[.agg #[.int .i64 (n : Int), .slice (some ⟨b, off, none⟩) xs.length c]] w
      fun e w' => ∃ g c, e = .returned (.slice (some ⟨g, 0, none⟩) xs.length c) ∧ TabAt w' g xs.length n (fun i j => bitN (nthN xs i) j) ∧ Below w.heap.size w w' := by
  obtain ⟨i0, hi, hz0, hz1, hz2⟩ := info_parts tInfo77
  have HX := Lib.hid hx
  have HVl := Lib.hid hv
  clear hx hv
  go_enter Try.func123, Try.ntmps123
  go_wp2
  go_loopw [3, 4] (fun v i wr => ∃ (k g c2 : Nat) (sl : List Value), k ≤ xs.length ∧ i = .int .i64 k ∧ v = .slice (some ⟨g, 0, none⟩) k c2 ∧ wr.ownsRow (w.heap.size + 1) 168 1 (.slice (some ⟨g, 0, none⟩) k c2) k sl ∧ RowsIn wr (.slice (some ⟨g, 0, none⟩) k c2) sl k n (fun i j => bitN (nthN xs i) j) ∧
      wr.cell? ⟨w.heap.size, 0, none⟩ = some (.int .i64 (n : Int)) ∧ wr.cell? ⟨w.heap.size, 1, none⟩ = some (.slice (some ⟨b, off, none⟩) xs.length c) ∧ Below w.heap.size w wr) (fun _ i _ => xs.length - (intOf i).toNat)
  case atStart =>
    have h1 := World.ownsRow_made (base := w.heap.size + 1) (e := 168) (size := 1) (w.alloc (.cells #[.int .i64 (n : Int), .slice (some ⟨b, off, none⟩) xs.length c] 37)) #[] 0 (by simp) (Nat.zero_le _) rfl
    rw [World.size_alloc] at h1
    refine ⟨0, w.heap.size + 1, 0, [], Nat.zero_le _, rfl, rfl, h1, fun i hi => by omega, ?_, ?_, ((Below.refl _ _).alloc (Nat.le_refl _) _).alloc (by simp) _⟩
    · exact (((Below.refl (w.heap.size + 1) (w.alloc (.cells #[.int .i64 (n : Int), .slice (some ⟨b, off, none⟩) xs.length c] 37))).alloc (by simp) _).cell (p := ⟨w.heap.size, 0, none⟩) (by simp)).trans (by simp)
    · exact (((Below.refl (w.heap.size + 1) (w.alloc (.cells #[.int .i64 (n : Int), .slice (some ⟨b, off, none⟩) xs.length c] 37))).alloc (by simp) _).cell (p := ⟨w.heap.size, 1, none⟩) (by simp)).trans (by simp)
  case round =>
    obtain ⟨k, g, c2, sl, hk, rfl, rfl, hrow, hin, d0, d1, hB⟩ := hrel
    by_cases hlt : k < xs.length
    · have hc := (HX.out.below hB hb) k hlt
      have hk0 : (0 : Int) ≤ (k : Int) := by omega
      have hk1 : (k : Int) < (xs.length : Int) := by omega
      have Hp := fun W => Points_any (nthN xs k) n W (HVl.out k) hn
      have hz : w.heap.size < wr.heap.size := World.block_lt_of_cell? wr ⟨w.heap.size, 0, none⟩ d0
      have hgl := (hrow.lt g rfl).2
      have HRow := Lib.hid hrow
      have HIn := Lib.hid hin
      have HB := Lib.hid hB
      have hsll : sl.length = k := by have := hrow.1; omega
      have HSl := Lib.hid hsll
      have HD := Lib.hid (And.intro d0 d1)
      clear hrow hin hB hsll
      go_wp2_with fail
      go_region_law
        (first
          | (go_simp; go_at_call 136; (with_reducible refine (Hp _).mono ?_); rintro e w3 ⟨b3, c3, rfl, hb3, hbo3, hbl3⟩; have hs3 : wr.heap.size ≤ w3.heap.size := hbl3.size; have hb3' : wr.heap.size ≤ b3 := hb3; have HB3 := Lib.hid hbl3; have HBO := Lib.hid hbo3; clear hbl3 hbo3)
          | ((refine step_append_lies _ (by rfl) _ _ _ (by rfl) (w.heap.size + 1) 168 i0 _ 1 24 Try.underlying166 hi hz0 hz1 hz2 rfl (by omega) (.slice (some ⟨g, 0, none⟩) k c2) k sl (by rfl) ((ownsRow_next HRow.out ((Below.refl _ _).drew.trans HB3.out)).alloc _)
                  ⟨w3.heap.size, 0, none⟩ 1 1 [.slice (some ⟨b3, 0, none⟩) n c3] (by rfl) (by rfl) (World.news_of_block (cs := #[.slice (some ⟨b3, 0, none⟩) n c3]) (t := 168) (fr := (0, 0)) (heap_alloc_new w3 _)) (by simp [Value.oneCell'])
                  (by omega) (by unfold maxLen; omega) (by omega) (by simp; omega) (w3.heap.size + 1) (by simp) ?_; intro g5 cap w5 hown1 hgrow hat hglt)))
      all_goals
        (have hX : Below wr.heap.size wr (w3.alloc (.cells #[.slice (some ⟨b3, 0, none⟩) n c3] 168)) := (((Below.refl _ wr).drew).trans HB3.out).alloc hs3 _
         have hin5 : RowsIn w5 (.slice (some ⟨g5, 0, none⟩) (k + 1) cap) (sl ++ [.slice (some ⟨b3, 0, none⟩) n c3]) (k + 1) n (fun i j => bitN (nthN xs i) j) :=
           (HIn.out.below hX).grow (H := w3.heap.size + 1) HSl.out hgrow (HBO.out.below (below_new1 w3 _) HBO.out.lt) (by simp [Value.ownBlock]; omega) (hat.imp (fun h => by simpa [Value.ownBlock] using h.symm) (fun h => by simp [Value.ownBlock, h])) (by simp)
         have hB5 : Below (w.heap.size + 1) wr w5 := (hX.mono (by omega)).grown hgrow (by simp; omega) (fun j hj => (HRow.out.lt j hj).1)
         have e0 := (hB5.cell (p := ⟨w.heap.size, 0, none⟩) (by simp)).trans HD.out.1
         have e1 := (hB5.cell (p := ⟨w.heap.size, 1, none⟩) (by simp)).trans HD.out.2
         have HR5 := Lib.hid hown1
         have HI5 := Lib.hid hin5
         have HBB := Lib.hid (HB.out.trans (hB5.mono (by omega)))
         have HE := Lib.hid (And.intro e0 e1)
         clear hX hin5 hB5 e0 e1 hown1 hgrow hat)
      all_goals go_wp2
      all_goals go_roundw
      all_goals first
        | (simp [intOf]; omega)
        | exact ⟨k + 1, g5, cap, _, by omega, by go_num, rfl, HR5.out, HI5.out, HE.out.1, HE.out.2, HBB.out⟩
    · obtain rfl : k = xs.length := by omega
      have HT := Lib.hid (TabAt.of_rows hrow hin)
      have HB := Lib.hid hB
      clear hrow hin hB
      go_wp2
      go_ret
      exact ⟨g, c2, rfl, HT.out, HB.out⟩
end Go.Proofs.Ytdmgffoikebgkaa
/- TieThreads: its regions that draw their order. -/
namespace Go.Proofs.Ytdmgffoikebgkaa
open Go.RowKit Go.Shelf
attribute [local go_sem] Oper.semAt_some

/-- the strings of a cloth -/
structure ClS (ss : List ByteArray) (n : Nat) (ps : List Nat) : Prop where
  len : ss.length = ps.length
  str : ∀ i, i < ps.length → StrB (nthB ss i) n (nthN ps i)
theorem ClS.at {ss : List ByteArray} {n : Nat} {ps : List Nat} {W : World} {b : Nat} (h : ClS ss n ps) (hx : StrsAt W b 0 ss) (hb : b < W.heap.size) : ClAt W b 0 n ps :=
  ⟨fun i hi => ⟨_, h.str i hi, hx i (by rw [h.len]; exact hi)⟩, hb⟩
end Go.Proofs.Ytdmgffoikebgkaa
/- TieThreads: its mathematics. -/
namespace Go.Proofs.Ytdmgffoikebgkaa
open Go.RowKit Go.Shelf
attribute [local go_sem] Oper.semAt_some

theorem cloth_ClS (hs xs : List Nat) (h0 : 1 ≤ hs.length) (h1 : hs.length ≤ 96) : ClS (clothS hs xs) hs.length (pks hs xs) := by
  refine ⟨by rw [clothS_len, pks_len], fun i hi => ?_⟩
  rw [pks_len] at hi
  rw [clothS_nth _ _ _ hi, pks_nth _ _ hi]
  exact pick_strB hs _ h0 h1
end Go.Proofs.Ytdmgffoikebgkaa
/- Chapter 3: any harness: its error, a copy of it, harnesses compared. -/
namespace Go.Proofs.Ytdmgffoikebgkaa
open Go.RowKit Go.Shelf
attribute [local go_sem] Oper.semAt_some

def frB (lo hi : Int) (xs : List Int) : Bool := xs.all fun x => decide (lo ≤ x) && decide (x ≤ hi)
theorem frB_step (lo hi : Int) (xs : List Int) (k : Nat) (h : k < xs.length) (hr : frB lo hi (xs.take k) = true) (h0 : lo ≤ nthI xs k) (h1 : nthI xs k ≤ hi) : frB lo hi (xs.take (k + 1)) = true := by
  unfold frB at *
  rw [takeI_succ xs k h, List.all_append, hr]
  simp [h0, h1]
theorem frB_false (lo hi : Int) (xs : List Int) (k : Nat) (h : k < xs.length) (hb : nthI xs k < lo ∨ hi < nthI xs k) : frB lo hi xs = false := by
  unfold frB
  rw [List.all_eq_false]
  refine ⟨nthI xs k, nthI_mem xs k h, ?_⟩
  simp
  omega
set_option maxHeartbeats 1000000 in
theorem areFrom_any (lo hi : Int) (b off c : Nat) (xs : List Int) (w : World) (hl : xs.length ≤ 1000) (hx : IntsAt w b off xs) :
    Calls Try.prog 111 #[.int .i64 lo, .int .i64 hi, .slice (some ⟨b, off, none⟩) xs.length c] w fun e w' => e = .returned (.bool (frB lo hi xs)) ∧ w = w' := by
  go_enter Try.func111, Try.ntmps111
  go_wp2
  go_loop [8, 11] (fun _ i => ∃ k : Nat, k ≤ xs.length ∧ i = .int .i64 k ∧ frB lo hi (xs.take k) = true) (fun _ i => xs.length - (intOf i).toNat)
  case atStart => exact ⟨0, Nat.zero_le _, rfl, by simp [frB]⟩
  case round =>
    obtain ⟨k, hk, rfl, hr⟩ := hrel
    have Hr := Lib.hid hr; clear hr
    by_cases hlt : k < xs.length
    · have hc := hx k hlt
      by_cases h1 : nthI xs k < lo
      · have d1 : decide (nthI xs k < lo) = true := decide_eq_true h1
        have Hf := Lib.hid (frB_false lo hi xs k hlt (.inl h1))
        clear h1
        go_wp2
        go_ret
        exact ⟨ret_bool Hf.out.symm, rfl⟩
      · have d1 : decide (nthI xs k < lo) = false := decide_eq_false h1
        by_cases h2 : hi < nthI xs k
        · have d2 : decide (hi < nthI xs k) = true := decide_eq_true h2
          have Hf := Lib.hid (frB_false lo hi xs k hlt (.inr h2))
          clear h1 h2
          go_wp2
          go_ret
          exact ⟨ret_bool Hf.out.symm, rfl⟩
        · have d2 : decide (hi < nthI xs k) = false := decide_eq_false h2
          have Hs := Lib.hid (frB_step lo hi xs k hlt Hr.out (by omega) (by omega))
          clear h1 h2
          go_wp2
          all_goals go_round
          case rel => exact ⟨k + 1, by omega, by go_num, Hs.out⟩
          case measure => simp [intOf]; omega
    · go_wp2
      go_ret
      exact ⟨ret_bool (by rw [← Hr.out, take_end xs k hk hlt]), rfl⟩
/-- the error of a harness -/
def chkT (h : Int) (xs : List Int) : Int :=
  if h < 1 ∨ 24 < h then 2 else if 96 < xs.length then 5 else if xs.length = 0 then 7 else if frB 0 (h - 1) xs then 0 else 2
theorem frB_one (x : Int) : frB 1 24 [x] = (decide (1 ≤ x) && decide (x ≤ 24)) := by simp [frB]
set_option maxHeartbeats 1000000 in
theorem tieCheck_any (h : Int) (v : Value) (xs : List Int) (w : World) (hv : Reads w v xs) :
    Calls Try.prog 29 #[.agg #[.int .i64 h, v]] w fun e w' => e = .returned (.int .i64 (chkT h xs)) ∧ Below w.heap.size w w' := by
  obtain ⟨p, c, rfl, hl, hx⟩ := hv
  have hbb : Below w.heap.size w ((w.alloc (.cells #[.int .i64 h, .slice p xs.length c] 26)).alloc (.cells #[.int .i64 h] 3)) := ((Below.refl _ _).alloc (Nat.le_refl _) _).alloc (by simp) _
  have h1x : BoxAt ((w.alloc (.cells #[.int .i64 h, .slice p xs.length c] 26)).alloc (.cells #[.int .i64 h] 3)) (w.heap.size + 1) #[.int .i64 h] 3 := by
    have := BoxAt.new (w.alloc (.cells #[.int .i64 h, .slice p xs.length c] 26)) #[.int .i64 h] 3
    rwa [World.size_alloc] at this
  have HA := areFrom_any 1 24 (w.heap.size + 1) 0 1 [h] _ (by simp) (fun i hi => by
    obtain rfl : i = 0 := by simpa using hi
    exact h1x.cell' 0 rfl)
  rw [frB_one] at HA
  have Hbb := Lib.hid hbb
  have HA' := Lib.hid HA
  clear h1x HA hbb
  by_cases h1 : h < 1 ∨ 24 < h
  · have He := Lib.hid (show chkT h xs = 2 by simp [chkT, h1])
    have hdd : (decide (1 ≤ h) && decide (h ≤ 24)) = false := by
      rcases h1 with h1 | h1
      · rw [decide_eq_false (by omega)]; rfl
      · rw [show decide (h ≤ 24) = false from decide_eq_false (by omega), Bool.and_false]
    rw [hdd] at HA'
    clear h1 hdd hx
    go_enter Try.func29, Try.ntmps29
    go_wp2_with fail
    refine HA'.out.mono ?_
    rintro e w' ⟨rfl, rfl⟩
    go_wp2_with fail
    go_ret
    exact ⟨ret_int He.out.symm, Hbb.out⟩
  · have hdd : (decide (1 ≤ h) && decide (h ≤ 24)) = true := by
      rw [decide_eq_true (by omega), decide_eq_true (by omega)]; rfl
    rw [hdd] at HA'
    by_cases h2 : 96 < xs.length
    · have He := Lib.hid (show chkT h xs = 5 by rw [chkT, if_neg h1, if_pos h2])
      have hd2 : decide ((96 : Int) < (xs.length : Int)) = true := decide_eq_true (by omega)
      have hd3 : decide (96 < xs.length) = true := decide_eq_true h2
      clear h1 hdd hx
      go_enter Try.func29, Try.ntmps29
      go_wp2_with fail
      refine HA'.out.mono ?_
      rintro e w' ⟨rfl, rfl⟩
      go_wp2_with fail
      go_ret
      exact ⟨ret_int He.out.symm, Hbb.out⟩
    · by_cases h3 : xs.length = 0
      · have He := Lib.hid (show chkT h xs = 7 by rw [chkT, if_neg h1, if_neg h2, if_pos h3])
        obtain rfl : xs = [] := List.eq_nil_of_length_eq_zero h3
        clear h1 h2 h3 hdd hx hl
        go_enter Try.func29, Try.ntmps29
        go_wp2_with fail
        refine HA'.out.mono ?_
        rintro e w' ⟨rfl, rfl⟩
        go_wp2_with fail
        go_ret
        exact ⟨ret_int He.out.symm, Hbb.out⟩
      · obtain ⟨b, off, rfl, hb, hx⟩ := hx (by omega)
        have He := Lib.hid (show chkT h xs = if frB 0 (h - 1) xs then 0 else 2 by rw [chkT, if_neg h1, if_neg h2, if_neg h3])
        have H2 := Lib.hid (areFrom_any 0 (h - 1) b off c xs _ (by omega) (hx.below Hbb.out hb))
        have hl2 : xs.length ≤ 96 := by omega
        have hl3 : 0 < xs.length := by omega
        have hw1 : IntKind.i64.wrap (h - 1) = h - 1 := IntWalk.i64_in _ (by omega)
        obtain ⟨L, hL⟩ : ∃ L, xs.length = L := ⟨_, rfl⟩
        rw [hL] at H2 hl2 hl3 HA' Hbb ⊢
        have hd3 : ((L : Int) == 0) = false := by simp; omega
        clear h2 h3 hdd hx hl hL
        have h1' : 1 ≤ h ∧ h ≤ 24 := by omega
        clear h1
        cases hr : frB 0 (h - 1) xs
        all_goals
          rw [hr] at H2 He
          clear hr
          go_enter Try.func29, Try.ntmps29
          go_wp2_with fail
          refine HA'.out.mono ?_
          rintro e w' ⟨rfl, rfl⟩
          go_wp2_with fail
          refine H2.out.mono ?_
          rintro e w' ⟨rfl, rfl⟩
          go_wp2_with fail
          go_ret
          exact ⟨ret_int (by rw [He.out]; rfl), Hbb.out⟩
end Go.Proofs.Ytdmgffoikebgkaa
/- Chapter 3: any harness: the reference's error, a copy of it, harnesses compared, one that is too large. -/
namespace Go.Proofs.Ytdmgffoikebgkaa
open Go.RowKit Go.Shelf
attribute [local go_sem] Oper.semAt_some

theorem Reads.next {w w' : World} {v : Value} {xs : List Int} (h : Reads w v xs) (hb : Below w.heap.size w w') : Reads w' v xs := by
  obtain ⟨p, c, rfl, hl, hx⟩ := h
  refine ⟨p, c, rfl, hl, fun h0 => ?_⟩
  obtain ⟨b, off, rfl, h1, h2⟩ := hx h0
  exact ⟨b, off, rfl, Nat.lt_of_lt_of_le h1 hb.size, h2.below hb h1⟩
theorem refIn3_any (n lo hi : Int) (w : World) : Calls Try.prog 44 #[.int .i64 n, .int .i64 lo, .int .i64 hi] w fun e w' => e = .returned (.bool (decide (lo ≤ n) && decide (n ≤ hi))) ∧ w' = w := by
  by_cases h1 : lo ≤ n
  · have d1 : decide (lo ≤ n) = true := decide_eq_true h1
    by_cases h2 : n ≤ hi
    · have d2 : decide (n ≤ hi) = true := decide_eq_true h2
      have Hd := Lib.hid (And.intro d1 d2)
      clear h1 h2
      go_enter Try.func44, Try.ntmps44
      go_wp2_with fail
      go_ret
      exact ⟨ret_bool (by rw [Hd.out.1, Hd.out.2]; rfl), rfl⟩
    · have d2 : decide (n ≤ hi) = false := decide_eq_false h2
      have Hd := Lib.hid (And.intro d1 d2)
      clear h1 h2
      go_enter Try.func44, Try.ntmps44
      go_wp2_with fail
      go_ret
      exact ⟨ret_bool (by rw [Hd.out.1, Hd.out.2]; rfl), rfl⟩
  · have d1 : decide (lo ≤ n) = false := decide_eq_false h1
    have Hd := Lib.hid d1
    clear h1
    go_enter Try.func44, Try.ntmps44
    go_wp2_with fail
    go_ret
    exact ⟨ret_bool (by rw [Hd.out]; rfl), rfl⟩
set_option maxHeartbeats 1000000 in
theorem refCheck3_any (h : Int) (v : Value) (xs : List Int) (w : World) (hv : Reads w v xs) :
    Calls Try.prog 33 #[.agg #[.int .i64 h, v]] w fun e w' => e = .returned (.int .i64 (chkT h xs)) ∧ Below w.heap.size w w' := by
  obtain ⟨p, c, rfl, hl, hx⟩ := hv
  have hbb : Below w.heap.size w (w.alloc (.cells #[.int .i64 h, .slice p xs.length c] 26)) := (Below.refl _ _).alloc (Nat.le_refl _) _
  have hbx : BoxAt (w.alloc (.cells #[.int .i64 h, .slice p xs.length c] 26)) w.heap.size #[.int .i64 h, .slice p xs.length c] 26 := BoxAt.new _ _ _
  have HA := Lib.hid (refIn3_any h 1 24 (w.alloc (.cells #[.int .i64 h, .slice p xs.length c] 26)))
  have Hbb := Lib.hid hbb
  have HB := Lib.hid hbx
  clear hbb hbx
  by_cases h1 : h < 1 ∨ 24 < h
  · have He := Lib.hid (show chkT h xs = 2 by simp [chkT, h1])
    have hdd : (decide (1 ≤ h) && decide (h ≤ 24)) = false := by
      rcases h1 with h1 | h1
      · rw [decide_eq_false (by omega)]; rfl
      · rw [show decide (h ≤ 24) = false from decide_eq_false (by omega), Bool.and_false]
    rw [hdd] at HA
    clear h1 hdd hx
    go_enter Try.func33, Try.ntmps33
    go_wp2_with fail
    refine HA.out.mono ?_
    rintro e w' ⟨rfl, rfl⟩
    go_wp2_with fail
    go_ret
    exact ⟨ret_int He.out.symm, Hbb.out⟩
  · have hdd : (decide (1 ≤ h) && decide (h ≤ 24)) = true := by
      rw [decide_eq_true (by omega), decide_eq_true (by omega)]; rfl
    rw [hdd] at HA
    by_cases h2 : 96 < xs.length
    · have He := Lib.hid (show chkT h xs = 5 by rw [chkT, if_neg h1, if_pos h2])
      have hd2 : decide ((96 : Int) < (xs.length : Int)) = true := decide_eq_true (by omega)
      have hd3 : decide (96 < xs.length) = true := decide_eq_true h2
      clear h1 hdd hx
      go_enter Try.func33, Try.ntmps33
      go_wp2_with fail
      refine HA.out.mono ?_
      rintro e w' ⟨rfl, rfl⟩
      go_wp2_with fail
      go_ret
      exact ⟨ret_int He.out.symm, Hbb.out⟩
    · by_cases h3 : xs.length = 0
      · have He := Lib.hid (show chkT h xs = 7 by rw [chkT, if_neg h1, if_neg h2, if_pos h3])
        obtain rfl : xs = [] := List.eq_nil_of_length_eq_zero h3
        clear h1 h2 h3 hdd hx hl
        go_enter Try.func33, Try.ntmps33
        go_wp2_with fail
        refine HA.out.mono ?_
        rintro e w' ⟨rfl, rfl⟩
        go_wp2_with fail
        go_ret
        exact ⟨ret_int He.out.symm, Hbb.out⟩
      · obtain ⟨b, off, rfl, hb, hx⟩ := hx (by omega)
        have He := Lib.hid (show chkT h xs = if frB 0 (h - 1) xs then 0 else 2 by rw [chkT, if_neg h1, if_neg h2, if_neg h3])
        have HX := Lib.hid (hx.below Hbb.out hb)
        have hl2 : xs.length ≤ 96 := by omega
        have hl3 : 0 < xs.length := by omega
        have hw1 : IntKind.i64.wrap (h - 1) = h - 1 := IntWalk.i64_in _ (by omega)
        obtain ⟨L, hL⟩ : ∃ L, xs.length = L := ⟨_, rfl⟩
        rw [hL] at hl2 hl3 HA Hbb HB HX ⊢
        have hd3 : ((L : Int) == 0) = false := by simp; omega
        have HL := Lib.hid hL
        clear h2 h3 hdd hx hl hL
        have h1' : 1 ≤ h ∧ h ≤ 24 := by omega
        clear h1
        obtain ⟨W0, hW0⟩ : ∃ W0, W0 = w.alloc (.cells #[.int .i64 h, .slice (some ⟨b, off, none⟩) L c] 26) := ⟨_, rfl⟩
        rw [← hW0] at HA HB HX Hbb
        have HW0 := Lib.hid hW0
        clear hW0
        go_enter Try.func33, Try.ntmps33
        go_upto_region 1 with fail
        rw [← HW0.out]
        have b0 := HB.out.cell' 0 rfl
        have b1 := HB.out.cell' 1 rfl
        go_wp2_with fail
        refine HA.out.mono ?_
        rintro e w' ⟨rfl, rfl⟩
        clear b0
        go_wp2_with fail
        go_loopw [3] (fun i wr => ∃ k : Nat, k ≤ L ∧ i = .int .i64 (k : Int) ∧ frB 0 (h - 1) (xs.take k) = true ∧ Below w.heap.size w wr ∧ BoxAt wr w.heap.size #[.int .i64 h, .slice (some ⟨b, off, none⟩) L c] 26 ∧ IntsAt wr b off xs) (fun i _ => L - (intOf i).toNat)
        case atStart => exact ⟨0, Nat.zero_le _, rfl, by simp [frB], Hbb.out, HB.out, HX.out⟩
        case round =>
          obtain ⟨k, hk, rfl, hr, hbw, hbx, hix⟩ := hrel
          have b0 := hbx.cell' 0 rfl
          have b1 := hbx.cell' 1 rfl
          have Hr := Lib.hid hr
          have Hm := Lib.hid (And.intro hbw (And.intro hbx hix))
          clear hr hbw hbx hix HX HB Hbb HA
          by_cases hlt : k < L
          · have hcx := Hm.out.2.2 k (by rw [HL.out]; exact hlt)
            by_cases hin : 0 ≤ nthI xs k ∧ nthI xs k ≤ h - 1
            · have Hs := Lib.hid (frB_step 0 (h - 1) xs k (by rw [HL.out]; exact hlt) Hr.out hin.1 hin.2)
              obtain ⟨x, hx⟩ : ∃ x, nthI xs k = x := ⟨_, rfl⟩
              rw [hx] at hcx hin
              have hI := fun W => refIn3_any x 0 (h - 1) W
              rw [decide_eq_true hin.1, decide_eq_true hin.2] at hI
              have HI := Lib.hid hI
              clear hx hin hI
              go_upto_region 10 with fail
              go_quiet (exact Calls.quiet_of_same (HI.out _))
              all_goals go_wp2_with fail
              all_goals exact ⟨⟨k + 1, by omega, by go_num, Hs.out, Hm.out.1.trans ((below_drewN _ _ _).mono Hm.out.1.size), Hm.out.2.1.next (below_drewN _ _ _), Hm.out.2.2⟩, by simp [intOf]; omega⟩
            · have Hf := Lib.hid (frB_false 0 (h - 1) xs k (by rw [HL.out]; exact hlt) (by omega))
              obtain ⟨x, hx⟩ : ∃ x, nthI xs k = x := ⟨_, rfl⟩
              rw [hx] at hcx hin
              have hI := fun W => refIn3_any x 0 (h - 1) W
              have hd : (decide (0 ≤ x) && decide (x ≤ h - 1)) = false := by
                by_cases c : 0 ≤ x
                · rw [show decide (x ≤ h - 1) = false from decide_eq_false (by omega), Bool.and_false]
                · rw [show decide (0 ≤ x) = false from decide_eq_false c]; rfl
              rw [hd] at hI
              have HI := Lib.hid hI
              clear hx hin hI hd
              go_upto_region 10 with fail
              go_quiet (exact Calls.quiet_of_same (HI.out _))
              all_goals go_wp2_with fail
              all_goals go_ret
              all_goals exact ⟨ret_int (by rw [He.out, Hf.out]; rfl), Hm.out.1.trans ((below_drewN _ _ _).mono Hm.out.1.size)⟩
          · have hke : k = L := by omega
            have Hf := Lib.hid (show frB 0 (h - 1) xs = true from by rw [← Hr.out, hke, ← HL.out, List.take_length])
            have hkd : decide ((k : Int) < (L : Int)) = false := decide_eq_false (by omega)
            clear hke
            go_wp2_with fail
            go_ret
            exact ⟨ret_int (by rw [He.out, Hf.out]; rfl), Hm.out.1⟩
end Go.Proofs.Ytdmgffoikebgkaa
/- Chapter 3: a copy of any harness; harnesses compared. -/
namespace Go.Proofs.Ytdmgffoikebgkaa
open Go.RowKit Go.Shelf
attribute [local go_sem] Oper.semAt_some

theorem ints_news {W : World} {b off : Nat} {xs : List Int} (h : IntsAt W b off xs) : ∀ j u, (xs.map intV)[j]? = some u → W.cell? ((⟨b, off, none⟩ : Addr).add j) = some u := by
  intro j u hj
  simp only [List.getElem?_map, Option.map_eq_some_iff] at hj
  obtain ⟨x, hx, rfl⟩ := hj
  have hjl : j < xs.length := (List.getElem?_eq_some_iff.1 hx).1
  have := h j hjl
  rw [nthI, hx] at this
  rw [show (⟨b, off, none⟩ : Addr).add j = ⟨b, off + j, none⟩ by unfold Addr.add; split <;> simp_all]
  exact this
set_option maxHeartbeats 2000000 in
theorem tieOwnI_ok (h : Int) (b off c : Nat) (xs : List Int) (w : World) (h0 : 0 < xs.length) (hl : xs.length ≤ 1000) (hx : IntsAt w b off xs) (hgl : b < w.heap.size) :
    Calls Try.prog 28 #[.agg #[.int .i64 h, .slice (some ⟨b, off, none⟩) xs.length c]] w fun e w' =>
      ∃ g' cap, e = .returned (.agg #[.int .i64 h, .slice (some ⟨g', 0, none⟩) xs.length cap]) ∧ w'.ownsRow (w.heap.size + 2) 3 1 (.slice (some ⟨g', 0, none⟩) xs.length cap) xs.length (xs.map intV) ∧ Below w.heap.size w w' := by
  have hbb : Below w.heap.size w ((w.alloc (.cells #[.int .i64 h, .slice (some ⟨b, off, none⟩) xs.length c] 26)).alloc (.cells #[.int .i64 0, .slice none 0 0] 26)) := ((Below.refl _ _).alloc (Nat.le_refl _) _).alloc (by simp) _
  have ho1 : BoxAt ((w.alloc (.cells #[.int .i64 h, .slice (some ⟨b, off, none⟩) xs.length c] 26)).alloc (.cells #[.int .i64 0, .slice none 0 0] 26)) w.heap.size #[.int .i64 h, .slice (some ⟨b, off, none⟩) xs.length c] 26 := (BoxAt.new _ _ _).next ((Below.refl _ _).alloc (Nat.le_refl _) _)
  have ho2 : BoxAt ((w.alloc (.cells #[.int .i64 h, .slice (some ⟨b, off, none⟩) xs.length c] 26)).alloc (.cells #[.int .i64 0, .slice none 0 0] 26)) (w.heap.size + 1) #[.int .i64 0, .slice none 0 0] 26 := by
    have := BoxAt.new (w.alloc (.cells #[.int .i64 h, .slice (some ⟨b, off, none⟩) xs.length c] 26)) #[.int .i64 0, .slice none 0 0] 26
    rwa [World.size_alloc] at this
  obtain ⟨W0, hW0⟩ : ∃ W0, W0 = (w.alloc (.cells #[.int .i64 h, .slice (some ⟨b, off, none⟩) xs.length c] 26)).alloc (.cells #[.int .i64 0, .slice none 0 0] 26) := ⟨_, rfl⟩
  have HW0 := Lib.hid hW0
  have hs0 : W0.heap.size = w.heap.size + 2 := by rw [hW0]; simp
  rw [← hW0] at ho1 ho2 hbb
  have Hs0 := Lib.hid hs0
  have HX := Lib.hid ((hx.below hbb hgl).below ((Below.refl _ _).alloc (Nat.le_refl _) (.cells #[] 3)) (show b < W0.heap.size by omega))
  have HO1 := Lib.hid ho1
  have HO2 := Lib.hid ho2
  have Hbb := Lib.hid hbb
  have k0 := ho1.cell' (v := .int .i64 h) 0 rfl
  have k1 := ho1.cell' (v := .slice (some ⟨b, off, none⟩) xs.length c) 1 rfl
  have z1 : w.heap.size < W0.heap.size := by omega
  have z2 : w.heap.size + 1 < W0.heap.size := by omega
  clear ho1 ho2 hbb hx hW0 hs0
  go_enter Try.func28, Try.ntmps28
  go_wp2
  rw [← HW0.out]
  go_region_law
    ((refine step_copy elemInt (by rfl) _ _ (by rfl) (by rfl) ⟨b, off, none⟩ xs.length c (xs.map intV) (by rfl) (by simp) (by simp [intV, Value.oneCell']) h0 (by omega) (by decide) (ints_news HX.out) ?_; intro g5 cap w5 hr hb5)
     have hb2 := HO2.out.next hb5
     have c0 : w5.cell? ⟨w.heap.size + 1, 0, none⟩ = some (.int .i64 0) := hb2.cell' 0 rfl
     have c1 : w5.cell? ⟨w.heap.size + 1, 1, none⟩ = some (.slice none 0 0) := hb2.cell' 1 rfl
     have f0 := hb2.frozen 0
     have f1 := hb2.frozen 1
     have hb1 := HO1.out.next hb5
     have k0 := hb1.cell' (v := .int .i64 h) 0 rfl
     have k1 := hb1.cell' (v := .slice (some ⟨b, off, none⟩) xs.length c) 1 rfl
     have Hb2 := Lib.hid hb2
     have Hr := Lib.hid hr
     have Hb5 := Lib.hid hb5
     clear hb2 hb1 hr hb5)
  all_goals go_wp2
  all_goals refine bodyPost_ret (v := .agg #[.int .i64 h, .slice (some ⟨g5, 0, none⟩) xs.length cap]) ?_ rfl ⟨g5, cap, rfl, ?_, ?_⟩
  all_goals first
    | (have hb3 := (Hb2.out.set 0 (.int .i64 h)).set 1 (.slice (some ⟨g5, 0, none⟩) xs.length cap)
       have d0 := hb3.cell' (v := .int .i64 h) 0 rfl
       have d1 := hb3.cell' (v := .slice (some ⟨g5, 0, none⟩) xs.length cap) 1 rfl
       simp [results, Try.results28, go_sem, d0, d1]; done)
    | (have hn := own_far Hr.out z2
       exact own_base (own_set (own_set Hr.out _ _ hn) _ _ hn) (by rw [Hs0.out]; omega))
    | exact ((Hbb.out.trans (Hb5.out.mono (by rw [Hs0.out]; omega))).setCell (by simp) _).setCell (by simp) _
end Go.Proofs.Ytdmgffoikebgkaa
/- Chapter 3: a copy of any harness, also of one without warps; harnesses compared; one that is too large. -/
namespace Go.Proofs.Ytdmgffoikebgkaa
open Go.RowKit Go.Shelf
attribute [local go_sem] Oper.semAt_some

set_option maxHeartbeats 2000000 in
theorem tieOwnN_ok (h : Int) (p : Option Addr) (c : Nat) (w : World) :
    Calls Try.prog 28 #[.agg #[.int .i64 h, .slice p 0 c]] w fun e w' => ∃ g, e = .returned (.agg #[.int .i64 h, .slice (some ⟨g, 0, none⟩) 0 0]) ∧ (w.heap.size ≤ g ∧ g < w'.heap.size) ∧ Below w.heap.size w w' := by
  have hbb : Below w.heap.size w ((w.alloc (.cells #[.int .i64 h, .slice p 0 c] 26)).alloc (.cells #[.int .i64 0, .slice none 0 0] 26)) := ((Below.refl _ _).alloc (Nat.le_refl _) _).alloc (by simp) _
  have ho1 : BoxAt ((w.alloc (.cells #[.int .i64 h, .slice p 0 c] 26)).alloc (.cells #[.int .i64 0, .slice none 0 0] 26)) w.heap.size #[.int .i64 h, .slice p 0 c] 26 := (BoxAt.new _ _ _).next ((Below.refl _ _).alloc (Nat.le_refl _) _)
  have ho2 : BoxAt ((w.alloc (.cells #[.int .i64 h, .slice p 0 c] 26)).alloc (.cells #[.int .i64 0, .slice none 0 0] 26)) (w.heap.size + 1) #[.int .i64 0, .slice none 0 0] 26 := by
    have := BoxAt.new (w.alloc (.cells #[.int .i64 h, .slice p 0 c] 26)) #[.int .i64 0, .slice none 0 0] 26
    rwa [World.size_alloc] at this
  obtain ⟨W0, hW0⟩ : ∃ W0, W0 = (w.alloc (.cells #[.int .i64 h, .slice p 0 c] 26)).alloc (.cells #[.int .i64 0, .slice none 0 0] 26) := ⟨_, rfl⟩
  have hs0 : W0.heap.size = w.heap.size + 2 := by rw [hW0]; simp
  have HW0 := Lib.hid hW0
  rw [← hW0] at ho1 ho2 hbb
  have Hs0 := Lib.hid hs0
  have hb5 : Below W0.heap.size W0 (W0.alloc (.cells #[] 3)) := (Below.refl _ _).alloc (Nat.le_refl _) _
  have hb2 := ho2.next hb5
  have hb1 := ho1.next hb5
  have c0 := ho2.cell' (v := .int .i64 0) 0 rfl
  have c1 := ho2.cell' (v := .slice none 0 0) 1 rfl
  have f0 := ho2.frozen 0
  have f1 := ho2.frozen 1
  have k0 := ho1.cell' (v := .int .i64 h) 0 rfl
  have k1 := ho1.cell' (v := .slice p 0 c) 1 rfl
  have c0' := hb2.cell' (v := .int .i64 0) 0 rfl
  have c1' := hb2.cell' (v := .slice none 0 0) 1 rfl
  have f0' := hb2.frozen 0
  have f1' := hb2.frozen 1
  have k0' := hb1.cell' (v := .int .i64 h) 0 rfl
  have k1' := hb1.cell' (v := .slice p 0 c) 1 rfl
  have Hbb := Lib.hid (hbb.trans (hb5.mono (by omega)))
  have Hb2 := Lib.hid hb2
  have z2 : ¬ W0.heap.size = w.heap.size + 1 := by omega
  clear ho1 ho2 hbb hW0 hb5 hb2 hb1 hs0
  cases p
  all_goals
    go_enter Try.func28, Try.ntmps28
    go_wp2_with fail
    rw [← HW0.out]
    go_region
    all_goals go_wp2_with fail
    all_goals refine bodyPost_ret (v := .agg #[.int .i64 h, .slice (some ⟨W0.heap.size, 0, none⟩) 0 0]) ?_ rfl ⟨_, rfl, ?_, ?_⟩
    all_goals first
      | (have hb3 := (Hb2.out.set 0 (.int .i64 h)).set 1 (.slice (some ⟨W0.heap.size, 0, none⟩) 0 0)
         have d0 := hb3.cell' (v := .int .i64 h) 0 rfl
         have d1 := hb3.cell' (v := .slice (some ⟨W0.heap.size, 0, none⟩) 0 0) 1 rfl
         simp [results, Try.results28, go_sem, d0, d1]; done)
      | exact ((Hbb.out.drew).setCell (by simp) _).setCell (by simp) _
      | (have := Hs0.out; simp; omega)
theorem ints_of_row {w : World} {B g n cap : Nat} {xs : List Int} (h : w.ownsRow B 3 1 (.slice (some ⟨g, 0, none⟩) n cap) n (xs.map intV)) (_h0 : 0 < n) : IntsAt w g 0 xs ∧ g < w.heap.size ∧ B ≤ g := by
  have h1 := h
  obtain ⟨hl, ⟨h2, _⟩ | ⟨g', cap', cur, e, hg, hh, r⟩⟩ := h
  · simp at h2
  · simp at e
    obtain ⟨rfl, rfl⟩ := e
    refine ⟨fun i hi => ?_, (Array.getElem?_eq_some_iff.1 hh).1, hg⟩
    rw [Nat.zero_add, h1.cellAt i (by simp at hl; omega), nthI_get _ _ hi]
    simp [hi, intV]
/-- a copy of a harness -/
def CpyT (h : Int) (xs : List Int) (w : World) (e : Ending) (w' : World) : Prop := ∃ g cap, e = .returned (.agg #[.int .i64 h, .slice (some ⟨g, 0, none⟩) xs.length cap]) ∧ Reads w' (.slice (some ⟨g, 0, none⟩) xs.length cap) xs ∧ w.heap.size ≤ g ∧ g < w'.heap.size ∧ Below w.heap.size w w'
theorem tieOwn_any (h : Int) (p : Option Addr) (c : Nat) (xs : List Int) (w : World) (hl : xs.length ≤ 1000) (hr : Reads w (.slice p xs.length c) xs) :
    Calls Try.prog 28 #[.agg #[.int .i64 h, .slice p xs.length c]] w (CpyT h xs w) := by
  by_cases h0 : xs.length = 0
  · obtain rfl : xs = [] := List.eq_nil_of_length_eq_zero h0
    refine (tieOwnN_ok h p c w).mono ?_
    rintro e w' ⟨g, rfl, hg, hb⟩
    exact ⟨g, 0, rfl, ⟨_, _, rfl, by simp, fun h => absurd h (by simp)⟩, hg.1, hg.2, hb⟩
  · obtain ⟨p', c', hv, hl2, hx⟩ := hr
    simp only [Value.slice.injEq, true_and] at hv
    obtain ⟨rfl, rfl⟩ := hv
    obtain ⟨b, off, rfl, hb, hx⟩ := hx (by omega)
    refine (tieOwnI_ok h b off c xs w (by omega) hl hx hb).mono ?_
    rintro e w' ⟨g, cap, rfl, h1, h2⟩
    obtain ⟨a1, a2, a3⟩ := ints_of_row h1 (by omega)
    exact ⟨g, cap, rfl, ⟨_, _, rfl, hl2, fun _ => ⟨g, 0, rfl, a2, a1⟩⟩, by omega, a2, h2⟩
end Go.Proofs.Ytdmgffoikebgkaa
/- Chapter 3: any two harnesses side by side. -/
namespace Go.Proofs.Ytdmgffoikebgkaa
open Go.RowKit Go.Shelf
attribute [local go_sem] Oper.semAt_some

theorem chkT_ok {h : Int} {xs : List Int} (hc : chkT h xs = 0) : 1 ≤ h ∧ h ≤ 24 ∧ 0 < xs.length ∧ xs.length ≤ 96 ∧ frB 0 (h - 1) xs = true := by
  unfold chkT at hc
  split at hc
  · cases hc
  · split at hc
    · cases hc
    · split at hc
      · cases hc
      · split at hc
        · refine ⟨by omega, by omega, by omega, by omega, by assumption⟩
        · cases hc
end Go.Proofs.Ytdmgffoikebgkaa
/- TieBound: its mathematics. -/
namespace Go.Proofs.Ytdmgffoikebgkaa
open Go.RowKit Go.Shelf

theorem bind_some {n m p : Nat} (h0 : 1 ≤ n) (h1 : n ≤ 24) {x : Nat} (hx : x < 2 ^ n) (hb : BoundUp x n m) : bindN n p 0 m < never := by
  have := bindN_le_row (p := p) (f := 0) (x := x) h0 h1 hx ⟨con_free _ _ _, hb⟩
  have h3 := ham_le p x n
  have h4 : 2 ^ n ≤ 2 ^ 24 := Nat.pow_le_pow_right (by decide) h1
  unfold never change at *
  omega
end Go.Proofs.Ytdmgffoikebgkaa
/- Chapter 3: Repeat and Mirrors of any harness; harnesses compared; none; too large. -/
namespace Go.Proofs.Ytdmgffoikebgkaa
open Go.RowKit Go.Shelf
attribute [local go_sem] Oper.semAt_some

/-- the hooks of a valid harness -/
def hkN (xs : List Int) : List Nat := xs.map Int.toNat
theorem hkN_len (xs : List Int) : (hkN xs).length = xs.length := by simp [hkN]
theorem hkN_nth {h : Int} {xs : List Int} (hc : chkT h xs = 0) {i : Nat} (hi : i < xs.length) : nthI xs i = (nthN (hkN xs) i : Int) ∧ (nthN (hkN xs) i : Int) < h := by
  obtain ⟨_, _, _, _, hf⟩ := chkT_ok hc
  unfold frB at hf
  rw [List.all_eq_true] at hf
  have := hf _ (nthI_mem xs i hi)
  simp at this
  have e : nthN (hkN xs) i = (nthI xs i).toNat := by simp [nthN, hkN, nthI, hi]
  rw [e]
  omega
theorem hkN_tat {h : Int} {xs : List Int} {b off : Nat} {W : World} (hc : chkT h xs = 0) (hx : IntsAt W b off xs) (hb : b < W.heap.size) : TAt W b off h.toNat (hkN xs) := by
  obtain ⟨h1, h2, h3, h4, _⟩ := chkT_ok hc
  refine ⟨fun i hi => ?_, hb, by omega, by omega, by rw [hkN_len]; omega, by rw [hkN_len]; exact h4, fun i hi => ?_⟩
  · rw [hkN_len] at hi
    rw [hx i hi, (hkN_nth hc hi).1]
  · rw [hkN_len] at hi
    have := (hkN_nth hc hi).2
    omega
set_option maxHeartbeats 1000000 in
theorem refSame3_eq (h : Int) (p p' : Option Addr) (c c' : Nat) (xs : List Int) (w : World) (hl : xs.length ≤ 1000) (h1 : Reads w (.slice p xs.length c) xs) (h2 : Reads w (.slice p' xs.length c') xs) :
    Calls Try.prog 26 #[.agg #[.int .i64 h, .slice p xs.length c], .agg #[.int .i64 h, .slice p' xs.length c']] w fun e w' => e = .returned (.bool true) ∧ Below w.heap.size w w' := by
  obtain ⟨w0, hw0⟩ : ∃ w0, w0 = (w.alloc (.cells #[.int .i64 h, .slice p xs.length c] 26)).alloc (.cells #[.int .i64 h, .slice p' xs.length c'] 26) := ⟨_, rfl⟩
  have hb0 : Below w.heap.size w w0 := by rw [hw0]; exact ((Below.refl _ _).alloc (Nat.le_refl _) _).alloc (by simp) _
  have hx : BoxAt w0 w.heap.size #[.int .i64 h, .slice p xs.length c] 26 := by rw [hw0]; exact (BoxAt.new w _ _).next ((Below.refl _ _).alloc (Nat.le_refl _) _)
  have hy : BoxAt w0 (w.heap.size + 1) #[.int .i64 h, .slice p' xs.length c'] 26 := by
    rw [hw0]; have := BoxAt.new (w.alloc (.cells #[.int .i64 h, .slice p xs.length c] 26)) #[.int .i64 h, .slice p' xs.length c'] 26; rw [World.size_alloc] at this; exact this
  have HM := Lib.hid (show Below w.heap.size w w0 ∧ BoxAt w0 w.heap.size #[.int .i64 h, .slice p xs.length c] 26 ∧ BoxAt w0 (w.heap.size + 1) #[.int .i64 h, .slice p' xs.length c'] 26 ∧ Reads w0 (.slice p xs.length c) xs ∧ Reads w0 (.slice p' xs.length c') xs from ⟨hb0, hx, hy, h1.next hb0, h2.next hb0⟩)
  have HW0 := Lib.hid hw0
  have hx0 := hx.cell' 0 rfl
  have hx1 := hx.cell' 1 rfl
  have hy0 := hy.cell' 0 rfl
  have hy1 := hy.cell' 1 rfl
  clear h1 h2 hw0 hb0 hx hy
  go_enter Try.func26, Try.ntmps26
  go_upto_region 1 with fail
  rw [← HW0.out]
  go_wp2_with fail
  clear hx0 hx1 hy0 hy1
  go_loopw [5] (fun i wr => ∃ k : Nat, k ≤ xs.length ∧ i = .int .i64 (k : Int) ∧ Below w.heap.size w wr ∧ BoxAt wr w.heap.size #[.int .i64 h, .slice p xs.length c] 26 ∧ BoxAt wr (w.heap.size + 1) #[.int .i64 h, .slice p' xs.length c'] 26 ∧ Reads wr (.slice p xs.length c) xs ∧ Reads wr (.slice p' xs.length c') xs) (fun i _ => xs.length - (intOf i).toNat)
  case atStart => exact ⟨0, Nat.zero_le _, rfl, HM.out⟩
  case round =>
    obtain ⟨k, hk, rfl, hS⟩ := hrel
    have hx1 := hS.2.1.cell' 1 rfl
    have hy1 := hS.2.2.1.cell' 1 rfl
    by_cases hlt : k < xs.length
    · obtain ⟨q1, d1, e1, _, r1⟩ := hS.2.2.2.1
      simp only [Value.slice.injEq, true_and] at e1
      obtain ⟨rfl, rfl⟩ := e1
      obtain ⟨b1, o1, rfl, _, r1⟩ := r1 (by omega)
      obtain ⟨q2, d2, e2, _, r2⟩ := hS.2.2.2.2
      simp only [Value.slice.injEq, true_and] at e2
      obtain ⟨rfl, rfl⟩ := e2
      obtain ⟨b2, o2, rfl, _, r2⟩ := r2 (by omega)
      have u1 := r1 k hlt
      have u2 := r2 k hlt
      obtain ⟨z, hz⟩ : ∃ z, nthI xs k = z := ⟨_, rfl⟩
      rw [hz] at u1 u2
      have Hr := Lib.hid hS
      clear hS hz r1 r2 HM
      go_upto_region 6 with fail
      go_quiet (fail)
      all_goals go_wp2_with fail
      all_goals exact ⟨⟨k + 1, by omega, by go_num, Hr.out.1.trans ((below_drewN _ _ _).mono Hr.out.1.size), Hr.out.2.1.next (below_drewN _ _ _), Hr.out.2.2.1.next (below_drewN _ _ _), Hr.out.2.2.2.1.next (below_drewN _ _ _), Hr.out.2.2.2.2.next (below_drewN _ _ _)⟩, by simp [intOf]; omega⟩
    · have hkd : decide ((k : Int) < (xs.length : Int)) = false := decide_eq_false (by omega)
      have Hb := Lib.hid hS.1
      clear hS HM
      go_wp2_with fail
      go_ret
      exact ⟨rfl, Hb.out⟩
end Go.Proofs.Ytdmgffoikebgkaa
/- TieBesides: its regions; what is due. -/
namespace Go.Proofs.Ytdmgffoikebgkaa
open Go.RowKit Go.Shelf
attribute [local go_sem] Oper.semAt_some

theorem Reads.far {W W' : World} {g B L c : Nat} {xs : List Int} (h : Reads W (.slice (some ⟨g, 0, none⟩) L c) xs) (hB : SetAt B W W') (hne : g ≠ B) : Reads W' (.slice (some ⟨g, 0, none⟩) L c) xs := by
  obtain ⟨p, c', hv, hl, hx⟩ := h
  refine ⟨p, c', hv, hl, fun h0 => ?_⟩
  obtain ⟨b, off, rfl, h1, h2⟩ := hx h0
  simp only [Value.slice.injEq, Option.some.injEq, Addr.mk.injEq] at hv
  obtain ⟨⟨rfl, rfl, _⟩, _⟩ := hv
  exact ⟨_, _, rfl, by rw [hB.size]; exact h1, fun i hi => (World.cell?_of_block (w := W) (hB.other _ hne)).trans (h2 i hi)⟩
/-- a row of the region's own that reads as some numbers -/
def memRd (L : Nat) (xs : List Int) : Mem := ⟨fun h W => Reads W (.slice (some ⟨h.b, 0, none⟩) L h.c) xs, fun h => [h.b], fun _ _ _ h hb => h.next hb, fun _ _ _ _ h hn hB => h.far hB (fun e => hn (by simp [e]))⟩
end Go.Proofs.Ytdmgffoikebgkaa
/- TieBesides: for any two harnesses with at most 110 warps the error of the first, the two side by side, after how many warps the first repeats, and where it is its own mirror, or their errors, are what the reference says, and the harnesses are not changed; for larger ones the law's fixed examples come out. No condition: whatever the harnesses. -/
namespace Go.Proofs.Ytdmgffoikebgkaa
open Go.ChangeShapes Go.WideShapes Go.ChangeAt Go.RowKit Go.Joins

theorem cells3' : Try.prog.cellsOf 3 = 1 := by kernel_rfl
theorem cells26' : Try.prog.cellsOf 26 = 2 := by kernel_rfl
/-- what a slice of integers that came in holds -/
theorem reads_of_trod {H : Type} {enc : TypeId × Value → H} {W : World} {n : Nat} {v : Value} {y : DataW H × List MemPlace} (h : DataW.trod enc Try.prog W 0 (fun _ => true) true n 24 [v] = some y) :
    ∃ p l c, v = .slice p l c ∧ (l ≤ 110 → ∃ xs : List Int, xs.length = l ∧ Reads W (.slice p l c) xs) := by
  rcases open_ints Try.underlying24 Try.underlying3 cells3' h with ⟨hv, _⟩ | ⟨a, len, cap, zs, hv, _, hlc, _, hz, _, hc, _⟩
  · obtain rfl : v = .slice none 0 0 := by simpa using hv
    exact ⟨none, 0, 0, rfl, fun _ => ⟨[], rfl, none, 0, rfl, by simp, fun h => by simp at h⟩⟩
  · obtain rfl : v = .slice (some a) len cap := by simpa using hv
    have hz' : zs.length = cap := by simpa using hz
    refine ⟨some a, len, cap, rfl, fun hl => ⟨zs.take len, by simp; omega, some a, cap, by simp; omega, by simp; omega, fun h0 => ?_⟩⟩
    have hl0 : 0 < len := by simp at h0; omega
    have hc0 := hc 0 (by omega)
    have he0 : a.add 0 = a := by simp [Addr.add]
    rw [he0] at hc0
    have hsp := spot_none hc0
    obtain ⟨b, off, sp⟩ := a
    simp only at hsp
    subst hsp
    refine ⟨b, off, rfl, World.block_lt_of_cell? W ⟨b, off, none⟩ hc0, fun i hi => ?_⟩
    have hil : i < len := by simp at hi; omega
    have := hc i (by omega)
    rw [addr_add] at this
    rw [this, nthI_get _ _ hi]
    simp [List.getElem?_eq_getElem (show i < zs.length by omega)]
end Go.Proofs.Ytdmgffoikebgkaa
/- Chapter 3: a copy of any design. -/
namespace Go.Proofs.Ytdmgffoikebgkaa
open Go.RowKit Go.Shelf
attribute [local go_sem] Oper.semAt_some

set_option maxHeartbeats 2000000 in
theorem dsOwnI_ok (h : Int) (b off c : Nat) (xs : List Int) (w : World) (h0 : 0 < xs.length) (hl : xs.length ≤ 1000) (hx : IntsAt w b off xs) (hgl : b < w.heap.size) :
    Calls Try.prog 37 #[.agg #[.int .i64 h, .slice (some ⟨b, off, none⟩) xs.length c]] w fun e w' =>
      ∃ g' cap, e = .returned (.agg #[.int .i64 h, .slice (some ⟨g', 0, none⟩) xs.length cap]) ∧ w'.ownsRow (w.heap.size + 2) 3 1 (.slice (some ⟨g', 0, none⟩) xs.length cap) xs.length (xs.map intV) ∧ Below w.heap.size w w' := by
  have hbb : Below w.heap.size w ((w.alloc (.cells #[.int .i64 h, .slice (some ⟨b, off, none⟩) xs.length c] 37)).alloc (.cells #[.int .i64 0, .slice none 0 0] 37)) := ((Below.refl _ _).alloc (Nat.le_refl _) _).alloc (by simp) _
  have ho1 : BoxAt ((w.alloc (.cells #[.int .i64 h, .slice (some ⟨b, off, none⟩) xs.length c] 37)).alloc (.cells #[.int .i64 0, .slice none 0 0] 37)) w.heap.size #[.int .i64 h, .slice (some ⟨b, off, none⟩) xs.length c] 37 := (BoxAt.new _ _ _).next ((Below.refl _ _).alloc (Nat.le_refl _) _)
  have ho2 : BoxAt ((w.alloc (.cells #[.int .i64 h, .slice (some ⟨b, off, none⟩) xs.length c] 37)).alloc (.cells #[.int .i64 0, .slice none 0 0] 37)) (w.heap.size + 1) #[.int .i64 0, .slice none 0 0] 37 := by
    have := BoxAt.new (w.alloc (.cells #[.int .i64 h, .slice (some ⟨b, off, none⟩) xs.length c] 37)) #[.int .i64 0, .slice none 0 0] 37
    rwa [World.size_alloc] at this
  obtain ⟨W0, hW0⟩ : ∃ W0, W0 = (w.alloc (.cells #[.int .i64 h, .slice (some ⟨b, off, none⟩) xs.length c] 37)).alloc (.cells #[.int .i64 0, .slice none 0 0] 37) := ⟨_, rfl⟩
  have HW0 := Lib.hid hW0
  have hs0 : W0.heap.size = w.heap.size + 2 := by rw [hW0]; simp
  rw [← hW0] at ho1 ho2 hbb
  have Hs0 := Lib.hid hs0
  have HX := Lib.hid ((hx.below hbb hgl).below ((Below.refl _ _).alloc (Nat.le_refl _) (.cells #[] 3)) (show b < W0.heap.size by omega))
  have HO1 := Lib.hid ho1
  have HO2 := Lib.hid ho2
  have Hbb := Lib.hid hbb
  have k0 := ho1.cell' (v := .int .i64 h) 0 rfl
  have k1 := ho1.cell' (v := .slice (some ⟨b, off, none⟩) xs.length c) 1 rfl
  have z1 : w.heap.size < W0.heap.size := by omega
  have z2 : w.heap.size + 1 < W0.heap.size := by omega
  clear ho1 ho2 hbb hx hW0 hs0
  go_enter Try.func37, Try.ntmps37
  go_wp2
  rw [← HW0.out]
  go_region_law
    ((refine step_copy elemInt (by rfl) _ _ (by rfl) (by rfl) ⟨b, off, none⟩ xs.length c (xs.map intV) (by rfl) (by simp) (by simp [intV, Value.oneCell']) h0 (by omega) (by decide) (ints_news HX.out) ?_; intro g5 cap w5 hr hb5)
     have hb2 := HO2.out.next hb5
     have c0 : w5.cell? ⟨w.heap.size + 1, 0, none⟩ = some (.int .i64 0) := hb2.cell' 0 rfl
     have c1 : w5.cell? ⟨w.heap.size + 1, 1, none⟩ = some (.slice none 0 0) := hb2.cell' 1 rfl
     have f0 := hb2.frozen 0
     have f1 := hb2.frozen 1
     have hb1 := HO1.out.next hb5
     have k0 := hb1.cell' (v := .int .i64 h) 0 rfl
     have k1 := hb1.cell' (v := .slice (some ⟨b, off, none⟩) xs.length c) 1 rfl
     have Hb2 := Lib.hid hb2
     have Hr := Lib.hid hr
     have Hb5 := Lib.hid hb5
     clear hb2 hb1 hr hb5)
  all_goals go_wp2
  all_goals refine bodyPost_ret (v := .agg #[.int .i64 h, .slice (some ⟨g5, 0, none⟩) xs.length cap]) ?_ rfl ⟨g5, cap, rfl, ?_, ?_⟩
  all_goals first
    | (have hb3 := (Hb2.out.set 0 (.int .i64 h)).set 1 (.slice (some ⟨g5, 0, none⟩) xs.length cap)
       have d0 := hb3.cell' (v := .int .i64 h) 0 rfl
       have d1 := hb3.cell' (v := .slice (some ⟨g5, 0, none⟩) xs.length cap) 1 rfl
       simp [results, Try.results37, go_sem, d0, d1]; done)
    | (have hn := own_far Hr.out z2
       exact own_base (own_set (own_set Hr.out _ _ hn) _ _ hn) (by rw [Hs0.out]; omega))
    | exact ((Hbb.out.trans (Hb5.out.mono (by rw [Hs0.out]; omega))).setCell (by simp) _).setCell (by simp) _
set_option maxHeartbeats 2000000 in
theorem dsOwnN_ok (h : Int) (p : Option Addr) (c : Nat) (w : World) :
    Calls Try.prog 37 #[.agg #[.int .i64 h, .slice p 0 c]] w fun e w' => ∃ g, e = .returned (.agg #[.int .i64 h, .slice (some ⟨g, 0, none⟩) 0 0]) ∧ (w.heap.size ≤ g ∧ g < w'.heap.size) ∧ Below w.heap.size w w' := by
  have hbb : Below w.heap.size w ((w.alloc (.cells #[.int .i64 h, .slice p 0 c] 37)).alloc (.cells #[.int .i64 0, .slice none 0 0] 37)) := ((Below.refl _ _).alloc (Nat.le_refl _) _).alloc (by simp) _
  have ho1 : BoxAt ((w.alloc (.cells #[.int .i64 h, .slice p 0 c] 37)).alloc (.cells #[.int .i64 0, .slice none 0 0] 37)) w.heap.size #[.int .i64 h, .slice p 0 c] 37 := (BoxAt.new _ _ _).next ((Below.refl _ _).alloc (Nat.le_refl _) _)
  have ho2 : BoxAt ((w.alloc (.cells #[.int .i64 h, .slice p 0 c] 37)).alloc (.cells #[.int .i64 0, .slice none 0 0] 37)) (w.heap.size + 1) #[.int .i64 0, .slice none 0 0] 37 := by
    have := BoxAt.new (w.alloc (.cells #[.int .i64 h, .slice p 0 c] 37)) #[.int .i64 0, .slice none 0 0] 37
    rwa [World.size_alloc] at this
  obtain ⟨W0, hW0⟩ : ∃ W0, W0 = (w.alloc (.cells #[.int .i64 h, .slice p 0 c] 37)).alloc (.cells #[.int .i64 0, .slice none 0 0] 37) := ⟨_, rfl⟩
  have hs0 : W0.heap.size = w.heap.size + 2 := by rw [hW0]; simp
  have HW0 := Lib.hid hW0
  rw [← hW0] at ho1 ho2 hbb
  have Hs0 := Lib.hid hs0
  have hb5 : Below W0.heap.size W0 (W0.alloc (.cells #[] 3)) := (Below.refl _ _).alloc (Nat.le_refl _) _
  have hb2 := ho2.next hb5
  have hb1 := ho1.next hb5
  have c0 := ho2.cell' (v := .int .i64 0) 0 rfl
  have c1 := ho2.cell' (v := .slice none 0 0) 1 rfl
  have f0 := ho2.frozen 0
  have f1 := ho2.frozen 1
  have k0 := ho1.cell' (v := .int .i64 h) 0 rfl
  have k1 := ho1.cell' (v := .slice p 0 c) 1 rfl
  have c0' := hb2.cell' (v := .int .i64 0) 0 rfl
  have c1' := hb2.cell' (v := .slice none 0 0) 1 rfl
  have f0' := hb2.frozen 0
  have f1' := hb2.frozen 1
  have k0' := hb1.cell' (v := .int .i64 h) 0 rfl
  have k1' := hb1.cell' (v := .slice p 0 c) 1 rfl
  have Hbb := Lib.hid (hbb.trans (hb5.mono (by omega)))
  have Hb2 := Lib.hid hb2
  have z2 : ¬ W0.heap.size = w.heap.size + 1 := by omega
  clear ho1 ho2 hbb hW0 hb5 hb2 hb1 hs0
  cases p
  all_goals
    go_enter Try.func37, Try.ntmps37
    go_wp2_with fail
    rw [← HW0.out]
    go_region
    all_goals go_wp2_with fail
    all_goals refine bodyPost_ret (v := .agg #[.int .i64 h, .slice (some ⟨W0.heap.size, 0, none⟩) 0 0]) ?_ rfl ⟨_, rfl, ?_, ?_⟩
    all_goals first
      | (have hb3 := (Hb2.out.set 0 (.int .i64 h)).set 1 (.slice (some ⟨W0.heap.size, 0, none⟩) 0 0)
         have d0 := hb3.cell' (v := .int .i64 h) 0 rfl
         have d1 := hb3.cell' (v := .slice (some ⟨W0.heap.size, 0, none⟩) 0 0) 1 rfl
         simp [results, Try.results37, go_sem, d0, d1]; done)
      | exact ((Hbb.out.drew).setCell (by simp) _).setCell (by simp) _
      | (have := Hs0.out; simp; omega)
theorem dsOwn_any (h : Int) (p : Option Addr) (c : Nat) (xs : List Int) (w : World) (hl : xs.length ≤ 1000) (hr : Reads w (.slice p xs.length c) xs) :
    Calls Try.prog 37 #[.agg #[.int .i64 h, .slice p xs.length c]] w (CpyT h xs w) := by
  by_cases h0 : xs.length = 0
  · obtain rfl : xs = [] := List.eq_nil_of_length_eq_zero h0
    refine (dsOwnN_ok h p c w).mono ?_
    rintro e w' ⟨g, rfl, hg, hb⟩
    exact ⟨g, 0, rfl, ⟨_, _, rfl, by simp, fun h => absurd h (by simp)⟩, hg.1, hg.2, hb⟩
  · obtain ⟨p', c', hv, hl2, hx⟩ := hr
    simp only [Value.slice.injEq, true_and] at hv
    obtain ⟨rfl, rfl⟩ := hv
    obtain ⟨b, off, rfl, hb, hx⟩ := hx (by omega)
    refine (dsOwnI_ok h b off c xs w (by omega) hl hx hb).mono ?_
    rintro e w' ⟨g, cap, rfl, h1, h2⟩
    obtain ⟨a1, a2, a3⟩ := ints_of_row h1 (by omega)
    exact ⟨g, cap, rfl, ⟨_, _, rfl, hl2, fun _ => ⟨g, 0, rfl, a2, a1⟩⟩, by omega, a2, h2⟩
end Go.Proofs.Ytdmgffoikebgkaa
/- Chapter 3: the error of a harness and a design, the program's and the reference's. -/
namespace Go.Proofs.Ytdmgffoikebgkaa
open Go.RowKit Go.Shelf
attribute [local go_sem] Oper.semAt_some

/-- the error of a harness and a design -/
def wovE (n1 n2 : Int) (xs ys : List Int) : Int :=
  if chkT n1 xs ≠ 0 then chkT n1 xs else if checkE n2 ys ≠ 0 then checkE n2 ys else if n2 ≠ n1 then 4 else 0
set_option maxRecDepth 100000 in
set_option maxHeartbeats 1000000 in
theorem checkDesign_any (n1 n2 : Int) (p1 p2 : Option Addr) (c1 c2 : Nat) (xs ys : List Int) (w : World) (hr1 : Reads w (.slice p1 xs.length c1) xs) (hr2 : Reads w (.slice p2 ys.length c2) ys) :
    Calls Try.prog 118 #[.agg #[.int .i64 n1, .slice p1 xs.length c1], .agg #[.int .i64 n2, .slice p2 ys.length c2]] w fun e w' => e = .returned (.int .i64 (wovE n1 n2 xs ys)) ∧ Below w.heap.size w w' := by
  obtain ⟨w0, hw0⟩ : ∃ w0, w0 = (w.alloc (.cells #[.int .i64 n1, .slice p1 xs.length c1] 26)).alloc (.cells #[.int .i64 n2, .slice p2 ys.length c2] 37) := ⟨_, rfl⟩
  have hb0 : Below w.heap.size w w0 := by rw [hw0]; exact ((Below.refl _ _).alloc (Nat.le_refl _) _).alloc (by simp) _
  have hA : BoxAt w0 w.heap.size #[.int .i64 n1, .slice p1 xs.length c1] 26 := by rw [hw0]; exact (BoxAt.new w _ _).next ((Below.refl _ _).alloc (Nat.le_refl _) _)
  have hP : BoxAt w0 (w.heap.size + 1) #[.int .i64 n2, .slice p2 ys.length c2] 37 := by
    rw [hw0]; have := BoxAt.new (w.alloc (.cells #[.int .i64 n1, .slice p1 xs.length c1] 26)) #[.int .i64 n2, .slice p2 ys.length c2] 37; rw [World.size_alloc] at this; exact this
  obtain ⟨k1, hk1⟩ : ∃ k1, chkT n1 xs = k1 := ⟨_, rfl⟩
  obtain ⟨k2, hk2⟩ : ∃ k2, checkE n2 ys = k2 := ⟨_, rfl⟩
  have HE := Lib.hid (show wovE n1 n2 xs ys = if k1 ≠ 0 then k1 else if k2 ≠ 0 then k2 else if n2 ≠ n1 then 4 else 0 by unfold wovE; rw [hk1, hk2])
  have HW0 := Lib.hid hw0
  have Hb0 := Lib.hid hb0
  have HP := Lib.hid hP
  have HA := Lib.hid hA
  have HR2 := Lib.hid (hr2.next hb0)
  have H1 := tieCheck_any n1 _ xs w0 (hr1.next hb0)
  rw [hk1] at H1
  have Hk2 := Lib.hid hk2
  have a0 := hA.cell' 0 rfl
  have a1 := hA.cell' 1 rfl
  clear hw0 hb0 hA hP hr1 hr2 hk1 hk2
  go_enter Try.func118, Try.ntmps118
  go_upto_region 1 with fail
  rw [← HW0.out]
  go_wp2_with fail
  refine H1.mono ?_
  rintro e W1 ⟨rfl, hb1⟩
  have Hb1 := Lib.hid (Hb0.out.trans (hb1.mono Hb0.out.size))
  have HA1 := Lib.hid (HA.out.next hb1)
  have HP1 := Lib.hid (HP.out.next hb1)
  have HR3 := Lib.hid (HR2.out.next hb1)
  clear hb1 a0 a1 H1 HA HP HR2 Hb0 HW0
  by_cases q1 : k1 = 0
  · subst q1
    have b0 := HP1.out.cell' 0 rfl
    have b1 := HP1.out.cell' 1 rfl
    have H2 := Check_any n2 _ ys W1 HR3.out
    rw [Hk2.out] at H2
    go_wp2_with fail
    refine H2.mono ?_
    rintro e W2 ⟨rfl, hb2⟩
    have Hb2 := Lib.hid (Hb1.out.trans (hb2.mono Hb1.out.size))
    have a0 := (HA1.out.next hb2).cell' 0 rfl
    have c0 := (HP1.out.next hb2).cell' 0 rfl
    clear hb2 b0 b1 H2 HA1 HP1
    by_cases q2 : k2 = 0
    · subst q2
      by_cases q3 : n2 = n1
      · have hb : (n2 != n1) = false := by simp [q3]
        have He := Lib.hid (show wovE n1 n2 xs ys = 0 by rw [HE.out]; simp [q3])
        clear q3
        go_wp2_with fail
        go_ret
        exact ⟨by rw [He.out]; rfl, Hb2.out⟩
      · have hb : (n2 != n1) = true := by simp [q3]
        have He := Lib.hid (show wovE n1 n2 xs ys = 4 by rw [HE.out]; simp [q3])
        clear q3
        go_wp2_with fail
        go_ret
        exact ⟨by rw [He.out]; rfl, Hb2.out⟩
    · have hb : (k2 != 0) = true := by simp [q2]
      have He := Lib.hid (show wovE n1 n2 xs ys = k2 by rw [HE.out]; simp [q2])
      clear q2
      go_wp2_with fail
      go_ret
      exact ⟨by rw [He.out]; rfl, Hb2.out⟩
  · have hb : (k1 != 0) = true := by simp [q1]
    have He := Lib.hid (show wovE n1 n2 xs ys = k1 by rw [HE.out]; simp [q1])
    clear q1
    go_wp2_with fail
    go_ret
    exact ⟨by rw [He.out]; rfl, Hb1.out⟩
set_option maxRecDepth 100000 in
set_option maxHeartbeats 1000000 in
theorem woven_any (n1 n2 : Int) (p1 p2 : Option Addr) (c1 c2 : Nat) (xs ys : List Int) (w : World) (hr1 : Reads w (.slice p1 xs.length c1) xs) (hr2 : Reads w (.slice p2 ys.length c2) ys) :
    Calls Try.prog 41 #[.agg #[.int .i64 n1, .slice p1 xs.length c1], .agg #[.int .i64 n2, .slice p2 ys.length c2]] w fun e w' => e = .returned (.int .i64 (wovE n1 n2 xs ys)) ∧ Below w.heap.size w w' := by
  obtain ⟨w0, hw0⟩ : ∃ w0, w0 = (w.alloc (.cells #[.int .i64 n1, .slice p1 xs.length c1] 26)).alloc (.cells #[.int .i64 n2, .slice p2 ys.length c2] 37) := ⟨_, rfl⟩
  have hb0 : Below w.heap.size w w0 := by rw [hw0]; exact ((Below.refl _ _).alloc (Nat.le_refl _) _).alloc (by simp) _
  have hA : BoxAt w0 w.heap.size #[.int .i64 n1, .slice p1 xs.length c1] 26 := by rw [hw0]; exact (BoxAt.new w _ _).next ((Below.refl _ _).alloc (Nat.le_refl _) _)
  have hP : BoxAt w0 (w.heap.size + 1) #[.int .i64 n2, .slice p2 ys.length c2] 37 := by
    rw [hw0]; have := BoxAt.new (w.alloc (.cells #[.int .i64 n1, .slice p1 xs.length c1] 26)) #[.int .i64 n2, .slice p2 ys.length c2] 37; rw [World.size_alloc] at this; exact this
  obtain ⟨k1, hk1⟩ : ∃ k1, chkT n1 xs = k1 := ⟨_, rfl⟩
  obtain ⟨k2, hk2⟩ : ∃ k2, checkE n2 ys = k2 := ⟨_, rfl⟩
  have HE := Lib.hid (show wovE n1 n2 xs ys = if k1 ≠ 0 then k1 else if k2 ≠ 0 then k2 else if n2 ≠ n1 then 4 else 0 by unfold wovE; rw [hk1, hk2])
  have HW0 := Lib.hid hw0
  have Hb0 := Lib.hid hb0
  have HP := Lib.hid hP
  have HA := Lib.hid hA
  have HR2 := Lib.hid (hr2.next hb0)
  have H1 := refCheck3_any n1 _ xs w0 (hr1.next hb0)
  rw [hk1] at H1
  have Hk2 := Lib.hid hk2
  have a0 := hA.cell' 0 rfl
  have a1 := hA.cell' 1 rfl
  clear hw0 hb0 hA hP hr1 hr2 hk1 hk2
  go_enter Try.func41, Try.ntmps41
  go_upto_region 1 with fail
  rw [← HW0.out]
  go_wp2_with fail
  refine H1.mono ?_
  rintro e W1 ⟨rfl, hb1⟩
  have Hb1 := Lib.hid (Hb0.out.trans (hb1.mono Hb0.out.size))
  have HA1 := Lib.hid (HA.out.next hb1)
  have HP1 := Lib.hid (HP.out.next hb1)
  have HR3 := Lib.hid (HR2.out.next hb1)
  clear hb1 a0 a1 H1 HA HP HR2 Hb0 HW0
  by_cases q1 : k1 = 0
  · subst q1
    have b0 := HP1.out.cell' 0 rfl
    have b1 := HP1.out.cell' 1 rfl
    have H2 := refCheck_any n2 _ ys W1 HR3.out
    rw [Hk2.out] at H2
    go_wp2_with fail
    refine H2.mono ?_
    rintro e W2 ⟨rfl, hb2⟩
    have Hb2 := Lib.hid (Hb1.out.trans (hb2.mono Hb1.out.size))
    have a0 := (HA1.out.next hb2).cell' 0 rfl
    have c0 := (HP1.out.next hb2).cell' 0 rfl
    clear hb2 b0 b1 H2 HA1 HP1
    by_cases q2 : k2 = 0
    · subst q2
      by_cases q3 : n2 = n1
      · have hb : (n2 != n1) = false := by simp [q3]
        have He := Lib.hid (show wovE n1 n2 xs ys = 0 by rw [HE.out]; simp [q3])
        clear q3
        go_wp2_with fail
        go_ret
        exact ⟨by rw [He.out]; rfl, Hb2.out⟩
      · have hb : (n2 != n1) = true := by simp [q3]
        have He := Lib.hid (show wovE n1 n2 xs ys = 4 by rw [HE.out]; simp [q3])
        clear q3
        go_wp2_with fail
        go_ret
        exact ⟨by rw [He.out]; rfl, Hb2.out⟩
    · have hb : (k2 != 0) = true := by simp [q2]
      have He := Lib.hid (show wovE n1 n2 xs ys = k2 by rw [HE.out]; simp [q2])
      clear q2
      go_wp2_with fail
      go_ret
      exact ⟨by rw [He.out]; rfl, Hb2.out⟩
  · have hb : (k1 != 0) = true := by simp [q1]
    have He := Lib.hid (show wovE n1 n2 xs ys = k1 by rw [HE.out]; simp [q1])
    clear q1
    go_wp2_with fail
    go_ret
    exact ⟨by rw [He.out]; rfl, Hb1.out⟩
end Go.Proofs.Ytdmgffoikebgkaa
