/- Harness ties: the hooks of one group that begins with the first hook. -/
import Derived.Test.YtdmgffoikebgkaaTb05
import Derived.Test.YtdmgffoikebgkaaTb06
import Derived.Test.YtdmgffoikebgkaaTb02
import Derived.Test.YtdmgffoikebgkaaTb08
import Derived.Test.YtdmgffoikebgkaaTb04
import Derived.Deep.DeepCutAuto
import Derived.Deep.QuietTactic
import Derived.BigQuiet
namespace Go.Proofs.Ytdmgffoikebgkaa
open Go.RowKit Go.Shelf
attribute [local go_sem] Oper.semAt_some

def onceT (L y : Nat) : Nat := if y = 2 ∧ 1 < L then 2 * L else L + 1
def hookT (L y k : Nat) : Nat := min (k % onceT L y) (2 * L - k % onceT L y)
def grpL (L y t : Nat) : List Nat := (List.range (onceT L y * t)).map (hookT L y)
def grpV (L y t : Nat) : Array Value := #[.int .i64 0, .int .i64 (L : Int), .int .i64 (y : Int), .int .i64 (t : Int)]
theorem onceT_pos (L y : Nat) : 1 ≤ onceT L y ∧ onceT L y ≤ 2 * L + 1 := by unfold onceT; split <;> omega
theorem onceT_back (L y k : Nat) : k % onceT L y ≤ 2 * L := by
  have h := onceT_pos L y
  have := Nat.mod_lt k (show 0 < onceT L y by omega)
  omega
theorem grpL_len (L y t : Nat) : (grpL L y t).length = onceT L y * t := by simp [grpL]
theorem grpL_take (L y t k : Nat) (h : k < onceT L y * t) : (grpL L y t).take (k + 1) = (grpL L y t).take k ++ [hookT L y k] := by
  rw [List.take_add_one]; simp [grpL, h]
theorem grpL_pre (L y t k : Nat) (h : k < onceT L y * t) : ((grpL L y t).take k ++ [hookT L y k]) <+: grpL L y t := by
  rw [← grpL_take L y t k h]; exact List.take_prefix _ _
set_option maxHeartbeats 1000000 in
theorem grp_iter (L y t n size : Nat) (hL : L < 24) (hy : y = 1 ∨ y = 2) (ht : 1 ≤ t ∧ t ≤ 8) :
    Iter Try.prog n (n - 1) 113 #[.agg (grpV L y t)] (fun x : Nat => #[.int .i64 (x : Int)]) (grpL L y t) size := by
  intro l J W hW hJ hY h0
  subst hW
  refine callsIn_of_wp Try.func113 rfl trivial ?_ rfl
  simp only [Try.ntmps113, List.size_toArray, List.length_cons, List.length_nil, Nat.reduceAdd, Nat.reduceSub, Array.replicate_succ, Array.replicate_zero, List.push_toArray, List.append_toArray, List.nil_append, List.cons_append]
  have hB0 : BoxAt (W.alloc (.cells (grpV L y t) 152)) W.heap.size (grpV L y t) 152 := BoxAt.new _ _ _
  have hJ0 : J [] (W.alloc (.cells (grpV L y t) 152)) := hJ _ _ _ h0 ((Below.refl _ _).alloc (Nat.le_refl _) _)
  have hpos := onceT_pos L y
  have hback := onceT_back L y
  have hpre := grpL_pre L y t
  have htk := grpL_take L y t
  have hlen := grpL_len L y t
  have hhk : ∀ k, hookT L y k = min (k % onceT L y) (2 * L - k % onceT L y) := fun _ => rfl
  have hcase : (y = 1 ∧ onceT L y = L + 1) ∨ (y = 2 ∧ ¬ (1 : Int) < (L : Int) ∧ onceT L y = L + 1) ∨ (y = 2 ∧ (1 : Int) < (L : Int) ∧ onceT L y = 2 * L) := by
    unfold onceT
    rcases hy with rfl | rfl
    · exact .inl ⟨rfl, by simp⟩
    · by_cases h1 : 1 < L
      · exact .inr (.inr ⟨rfl, by omega, by simp [h1]⟩)
      · exact .inr (.inl ⟨rfl, by omega, by simp [h1]⟩)
  obtain ⟨o, ho⟩ : ∃ o, onceT L y = o := ⟨_, rfl⟩
  rw [ho] at hpos hback hpre htk hhk hcase hlen
  have hmulN : o * t ≤ 49 * 8 := Nat.mul_le_mul (by omega) ht.2
  obtain ⟨N, hN⟩ : ∃ N, o * t = N := ⟨_, rfl⟩
  rw [hN] at hmulN hlen hpre htk
  have hmul : (o : Int) * (t : Int) = (N : Int) := by rw [← hN]; exact (Int.natCast_mul _ _).symm
  have HB0 := Lib.hid hB0
  have HJ0 := Lib.hid hJ0
  have HPre := Lib.hid hpre
  have HTk := Lib.hid htk
  have HHk := Lib.hid hhk
  have HLen := Lib.hid hlen
  have HMul := Lib.hid hmul
  clear hB0 hJ0 hpre htk hhk ho hlen hN hmul
  unfold grpV at HB0 HJ0 ⊢
  rcases hcase with ⟨rfl, rfl⟩ | ⟨rfl, hl1, rfl⟩ | ⟨rfl, hl1, rfl⟩
  · have hw : wrap64 (((L : Int) + 1) * (t : Int)) = (N : Int) := by
      have := HMul.out
      push_cast at this
      rw [this]; unfold wrap64; omega
    have hz0 : ¬ ((L : Int) < 0) := by omega
    gi_wp2_with fail
    gi_loopw [38] (fun i wr => ∃ k : Nat, k ≤ N ∧ i = .int .i64 k ∧ wr.cell? ⟨W.heap.size, 0, none⟩ = some (.int .i64 0) ∧ J ((grpL L 1 t).take k) wr) (fun i _ => N - (intOf i).toNat)
    case atStart => exact ⟨0, Nat.zero_le _, rfl, BoxAt.cell' HB0.out 0 rfl, HJ0.out⟩
    case round =>
      obtain ⟨k, hk, rfl, c0, hJ2⟩ := hrel
      clear HB0 HJ0
      by_cases hlt : k < N
      · obtain ⟨fn, tmps, assign, body, hy, hR⟩ := hY ((grpL L 1 t).take k) (hookT L 1 k) _ hJ2 (HPre.out k hlt) (World.block_lt_of_cell? _ _ c0)
        clear hJ2 hw
        have hrl : k % (L + 1) < (L + 1) := Nat.mod_lt _ (by omega)
        have hrb := hback k
        have hhk := HHk.out k
        have hrm : (k : Int).tmod ((L : Int) + 1) = ((k % (L + 1) : Nat) : Int) := by
          rw [show ((L : Int) + 1) = (((L + 1) : Nat) : Int) by push_cast; rfl]
          exact tmod_nn _ _
        obtain ⟨r, hr⟩ : ∃ r, k % (L + 1) = r := ⟨_, rfl⟩
        rw [hr] at hrl hrb hhk hrm
        have hoz : ¬ ((L : Int) + 1) = 0 := by omega
        have hltI : (k : Int) < (N : Int) := by omega
        have Hy := Lib.hid hy
        have Htk := Lib.hid (HTk.out k hlt)
        have Hhk := Lib.hid hhk
        clear hy hr hhk hback
        by_cases hle : (r : Int) ≤ 2 * (L : Int) - (r : Int)
        · have hn : hookT L 1 k = r := by rw [Hhk.out]; omega
          have hy2 : (Instr.yield l #[.int .i64 (r : Int)]).run Try.prog wr = .ok (.round l fn tmps assign body) wr := by rw [← hn]; exact Hy.out
          clear hn
          gi_wp2_with fail
          refine ⟨fun h => by simp [Fence.wide] at h, hR.mono ?_⟩
          rintro e W3 ⟨rfl, hJ3, hz3, hk3⟩
          have HJ3 := Lib.hid hJ3
          have c3 := (hk3 0).trans c0
          clear hJ3
          gi_wp2_with fail
          go_roundw
          case rel => exact ⟨k + 1, by omega, by go_num, c3, by rw [Htk.out]; exact HJ3.out⟩
          case measure => simp [intOf]; omega
        · exfalso; omega
      · obtain rfl : k = N := by omega
        have HJ := Lib.hid hJ2
        have hltI : ¬ (k : Int) < (k : Int) := by omega
        clear hJ2
        gi_wp2_with fail
        go_end0
        refine ⟨⟨_, rfl⟩, ?_⟩
        have e : (grpL L 1 t).take k = grpL L 1 t := List.take_of_length_le (by rw [HLen.out]; exact Nat.le_refl _)
        rw [← e]; exact HJ.out
  · have hw : wrap64 (((L : Int) + 1) * (t : Int)) = (N : Int) := by
      have := HMul.out
      push_cast at this
      rw [this]; unfold wrap64; omega
    have hz0 : ¬ ((L : Int) < 0) := by omega
    gi_wp2_with fail
    gi_loopw [38] (fun i wr => ∃ k : Nat, k ≤ N ∧ i = .int .i64 k ∧ wr.cell? ⟨W.heap.size, 0, none⟩ = some (.int .i64 0) ∧ J ((grpL L 2 t).take k) wr) (fun i _ => N - (intOf i).toNat)
    case atStart => exact ⟨0, Nat.zero_le _, rfl, BoxAt.cell' HB0.out 0 rfl, HJ0.out⟩
    case round =>
      obtain ⟨k, hk, rfl, c0, hJ2⟩ := hrel
      clear HB0 HJ0
      by_cases hlt : k < N
      · obtain ⟨fn, tmps, assign, body, hy, hR⟩ := hY ((grpL L 2 t).take k) (hookT L 2 k) _ hJ2 (HPre.out k hlt) (World.block_lt_of_cell? _ _ c0)
        clear hJ2 hw
        have hrl : k % (L + 1) < (L + 1) := Nat.mod_lt _ (by omega)
        have hrb := hback k
        have hhk := HHk.out k
        have hrm : (k : Int).tmod ((L : Int) + 1) = ((k % (L + 1) : Nat) : Int) := by
          rw [show ((L : Int) + 1) = (((L + 1) : Nat) : Int) by push_cast; rfl]
          exact tmod_nn _ _
        obtain ⟨r, hr⟩ : ∃ r, k % (L + 1) = r := ⟨_, rfl⟩
        rw [hr] at hrl hrb hhk hrm
        have hoz : ¬ ((L : Int) + 1) = 0 := by omega
        have hltI : (k : Int) < (N : Int) := by omega
        have Hy := Lib.hid hy
        have Htk := Lib.hid (HTk.out k hlt)
        have Hhk := Lib.hid hhk
        clear hy hr hhk hback
        by_cases hle : (r : Int) ≤ 2 * (L : Int) - (r : Int)
        · have hn : hookT L 2 k = r := by rw [Hhk.out]; omega
          have hy2 : (Instr.yield l #[.int .i64 (r : Int)]).run Try.prog wr = .ok (.round l fn tmps assign body) wr := by rw [← hn]; exact Hy.out
          clear hn
          gi_wp2_with fail
          refine ⟨fun h => by simp [Fence.wide] at h, hR.mono ?_⟩
          rintro e W3 ⟨rfl, hJ3, hz3, hk3⟩
          have HJ3 := Lib.hid hJ3
          have c3 := (hk3 0).trans c0
          clear hJ3
          gi_wp2_with fail
          go_roundw
          case rel => exact ⟨k + 1, by omega, by go_num, c3, by rw [Htk.out]; exact HJ3.out⟩
          case measure => simp [intOf]; omega
        · exfalso; omega
      · obtain rfl : k = N := by omega
        have HJ := Lib.hid hJ2
        have hltI : ¬ (k : Int) < (k : Int) := by omega
        clear hJ2
        gi_wp2_with fail
        go_end0
        refine ⟨⟨_, rfl⟩, ?_⟩
        have e : (grpL L 2 t).take k = grpL L 2 t := List.take_of_length_le (by rw [HLen.out]; exact Nat.le_refl _)
        rw [← e]; exact HJ.out
  · have hw : wrap64 ((2 * (L : Int)) * (t : Int)) = (N : Int) := by
      have := HMul.out
      push_cast at this
      rw [this]; unfold wrap64; omega
    have hz0 : ¬ ((L : Int) < 0) := by omega
    gi_wp2_with fail
    gi_loopw [38] (fun i wr => ∃ k : Nat, k ≤ N ∧ i = .int .i64 k ∧ wr.cell? ⟨W.heap.size, 0, none⟩ = some (.int .i64 0) ∧ J ((grpL L 2 t).take k) wr) (fun i _ => N - (intOf i).toNat)
    case atStart => exact ⟨0, Nat.zero_le _, rfl, BoxAt.cell' HB0.out 0 rfl, HJ0.out⟩
    case round =>
      obtain ⟨k, hk, rfl, c0, hJ2⟩ := hrel
      clear HB0 HJ0
      by_cases hlt : k < N
      · obtain ⟨fn, tmps, assign, body, hy, hR⟩ := hY ((grpL L 2 t).take k) (hookT L 2 k) _ hJ2 (HPre.out k hlt) (World.block_lt_of_cell? _ _ c0)
        clear hJ2 hw
        have hrl : k % (2 * L) < (2 * L) := Nat.mod_lt _ (by omega)
        have hrb := hback k
        have hhk := HHk.out k
        have hrm : (k : Int).tmod (2 * (L : Int)) = ((k % (2 * L) : Nat) : Int) := by
          rw [show (2 * (L : Int)) = (((2 * L) : Nat) : Int) by push_cast; rfl]
          exact tmod_nn _ _
        obtain ⟨r, hr⟩ : ∃ r, k % (2 * L) = r := ⟨_, rfl⟩
        rw [hr] at hrl hrb hhk hrm
        have hoz : ¬ (2 * (L : Int)) = 0 := by omega
        have hltI : (k : Int) < (N : Int) := by omega
        have Hy := Lib.hid hy
        have Htk := Lib.hid (HTk.out k hlt)
        have Hhk := Lib.hid hhk
        clear hy hr hhk hback
        by_cases hle : (r : Int) ≤ 2 * (L : Int) - (r : Int)
        · have hn : hookT L 2 k = r := by rw [Hhk.out]; omega
          have hy2 : (Instr.yield l #[.int .i64 (r : Int)]).run Try.prog wr = .ok (.round l fn tmps assign body) wr := by rw [← hn]; exact Hy.out
          clear hn
          gi_wp2_with fail
          refine ⟨fun h => by simp [Fence.wide] at h, hR.mono ?_⟩
          rintro e W3 ⟨rfl, hJ3, hz3, hk3⟩
          have HJ3 := Lib.hid hJ3
          have c3 := (hk3 0).trans c0
          clear hJ3
          gi_wp2_with fail
          go_roundw
          case rel => exact ⟨k + 1, by omega, by go_num, c3, by rw [Htk.out]; exact HJ3.out⟩
          case measure => simp [intOf]; omega
        · have hle2 : (2 : Int) * (L : Int) - (r : Int) < (r : Int) := by omega
          have hn : ((hookT L 2 k : Nat) : Int) = 2 * (L : Int) - (r : Int) := by rw [Hhk.out]; omega
          have hy2 : (Instr.yield l #[.int .i64 (2 * (L : Int) - (r : Int))]).run Try.prog wr = .ok (.round l fn tmps assign body) wr := by rw [← hn]; exact Hy.out
          clear hn
          clear hle
          gi_wp2_with fail
          refine ⟨fun h => by simp [Fence.wide] at h, hR.mono ?_⟩
          rintro e W3 ⟨rfl, hJ3, hz3, hk3⟩
          have HJ3 := Lib.hid hJ3
          have c3 := (hk3 0).trans c0
          clear hJ3
          gi_wp2_with fail
          go_roundw
          case rel => exact ⟨k + 1, by omega, by go_num, c3, by rw [Htk.out]; exact HJ3.out⟩
          case measure => simp [intOf]; omega
      · obtain rfl : k = N := by omega
        have HJ := Lib.hid hJ2
        have hltI : ¬ (k : Int) < (k : Int) := by omega
        clear hJ2
        gi_wp2_with fail
        go_end0
        refine ⟨⟨_, rfl⟩, ?_⟩
        have e : (grpL L 2 t).take k = grpL L 2 t := List.take_of_length_le (by rw [HLen.out]; exact Nat.le_refl _)
        rw [← e]; exact HJ.out
end Go.Proofs.Ytdmgffoikebgkaa
/- Harness ties: Make with one group that begins with the first hook. -/
namespace Go.Proofs.Ytdmgffoikebgkaa
open Go.RowKit Go.Shelf
attribute [local go_sem] Oper.semAt_some

set_option maxHeartbeats 1000000 in
theorem grpIsOf (L y t : Nat) (w : World) (hL : L < 24) (hy : y = 1 ∨ y = 2) (ht : 1 ≤ t ∧ t ≤ 8) : Calls Try.prog 112 #[.agg (grpV L y t), .int .i64 ((L : Int) + 1)] w fun e w' => e = .returned (.bool true) ∧ Below w.heap.size w w' := by
  have H1 := Lib.hid (areFrom_true 0 L (w.heap.size + 1) 0 2 [0, L] ((w.alloc (.cells (grpV L y t) 152)).alloc (.cells #[.int .i64 0, .int .i64 (L : Int)] 3)) (by simp) (fun i hi => by
    have : i = 0 ∨ i = 1 := by simp at hi; omega
    rcases this with rfl | rfl <;> simp [nthN]) (fun i hi => by
    have : i = 0 ∨ i = 1 := by simp at hi; omega
    rcases this with rfl | rfl <;> simp [nthN]))
  have h2 := areFrom_one 1 8 ((w.alloc (.cells (grpV L y t) 152)).alloc (.cells #[.int .i64 0, .int .i64 (L : Int)] 3)).heap.size 0 1 t (((w.alloc (.cells (grpV L y t) 152)).alloc (.cells #[.int .i64 0, .int .i64 (L : Int)] 3)).alloc (.cells #[.int .i64 (t : Int)] 3)) (BoxAt.cell' (BoxAt.new _ _ _) 0 rfl) (by omega) (by omega)
  simp only [World.size_alloc] at h2
  have H2 := Lib.hid h2
  clear h2
  unfold grpV at H1 H2
  unfold grpV
  have hLs : (L : Int) + 1 - 1 = (L : Int) := by omega
  go_enter Try.func112, Try.ntmps112
  rcases hy with rfl | rfl
  · have hc : ((1 : Nat) : Int) = 1 := rfl
    simp only [hc] at H1 H2 ⊢
    go_wp2_with fail
    refine H1.out.mono ?_
    rintro e w' ⟨rfl, rfl⟩
    go_wp2_with fail
    refine H2.out.mono ?_
    rintro e w' ⟨rfl, rfl⟩
    go_wp2_with fail
    go_ret
    exact ⟨rfl, (((Below.refl _ _).alloc (Nat.le_refl _) _).alloc (by simp) _).alloc (by simp; omega) _⟩
  · have hc : ((2 : Nat) : Int) = 2 := rfl
    simp only [hc] at H1 H2 ⊢
    go_wp2_with fail
    refine H1.out.mono ?_
    rintro e w' ⟨rfl, rfl⟩
    go_wp2_with fail
    refine H2.out.mono ?_
    rintro e w' ⟨rfl, rfl⟩
    go_wp2_with fail
    go_ret
    exact ⟨rfl, (((Below.refl _ _).alloc (Nat.le_refl _) _).alloc (by simp) _).alloc (by simp; omega) _⟩
/-- what Make keeps between two warps -/
structure MgAt (w0 : World) (h : Int) (S : Nat) (v : Value) (pre : List Nat) (W : World) : Prop where
  box : BoxAt W w0.heap.size #[.int .i64 h, v] 26
  row : W.ownsRow (w0.heap.size + 1) 3 1 v pre.length (pre.map natV)
  b : Below w0.heap.size w0 W
  far : v.ownBlock ≠ some S
theorem MgAt.calm {w0 W W' : World} {S n : Nat} {v : Value} {pre : List Nat} {hk : Int} (h : MgAt w0 hk S v pre W) (hc : Calm n W W') (hn : w0.heap.size ≤ n) : MgAt w0 hk S v pre W' :=
  ⟨h.box.calm hc, own_calm h.row hc, (hc.mono hn).below h.b (Nat.le_refl _), h.far⟩
theorem MgAt.grew {w0 W W' : World} {S g5 cap : Nat} {v : Value} {pre : List Nat} {z : Nat} {hk : Int} (h : MgAt w0 hk S v pre W) (hS : S < W.heap.size)
    (hg : Grew (w0.heap.size + 1) 3 1 W W' v g5 cap (pre.length + 1) (pre.map natV ++ [.int .i64 (z : Int)])) :
    BoxAt W' w0.heap.size #[.int .i64 hk, v] 26 ∧ MgAt w0 hk S (.slice (some ⟨g5, 0, none⟩) (pre.length + 1) cap) (pre ++ [z]) (W'.setCell ⟨w0.heap.size, 1, none⟩ (.slice (some ⟨g5, 0, none⟩) (pre.length + 1) cap))
      ∧ KeepsOthers W W' ∧ ∀ j, W'.cell? ⟨S, j, none⟩ = W.cell? ⟨S, j, none⟩ := by
  have hn : ∀ j, j < w0.heap.size + 1 → some j ≠ v.ownBlock := fun j hj => own_far h.row hj
  have hb := h.box.kept hg.grow (hn _ (by omega))
  refine ⟨hb, ⟨hb.set 1 _, ?_, ?_, ?_⟩, own_others h.row hg.grow, fun j => World.cell?_of_block (w := W) (hg.grow.block S hS (fun e => h.far e.symm))⟩
  · have hr := hg.row
    have := own_set hr ⟨w0.heap.size, 1, none⟩ (.slice (some ⟨g5, 0, none⟩) (pre.length + 1) cap) (own_far hr (by simp))
    rw [List.length_append, List.length_singleton, List.map_append]
    exact this
  · exact (h.b.grown hg.grow h.b.size (fun j hj => by have := (ownBlock_ge h.row hj).1; omega)).setCell (by simp) _
  · intro e
    simp [Value.ownBlock] at e
    subst e
    rcases hg.at' with h1 | h1
    · exact h.far h1
    · omega
set_option maxRecDepth 100000 in
set_option maxHeartbeats 2000000 in
theorem grpMake (L y t g : Nat) (w : World) (hL : L < 24) (hy : y = 1 ∨ y = 2) (ht : 1 ≤ t ∧ t ≤ 8) (hN : onceT L y * t ≤ 96) (hx : BoxAt w g (grpV L y t) 32) :
    Calls Try.prog 24 #[.int .i64 ((L : Int) + 1), .slice (some ⟨g, 0, none⟩) 1 1] w fun e w' =>
      ∃ v, e = .returned (.tuple #[.agg #[.int .i64 ((L : Int) + 1), v], .int .i64 0, .int .i64 0]) ∧ w'.ownsRow w.heap.size 3 1 v (grpL L y t).length ((grpL L y t).map natV) ∧ Below w.heap.size w w' := by
  have hgl := hx.lt
  have HX := Lib.hid hx
  have HA := Lib.hid (areFrom_one 1 24 (w.heap.size + 1) 0 1 (L + 1) ((w.alloc (.cells #[.int .i64 0, .slice none 0 0] 26)).alloc (.cells #[.int .i64 ((L + 1 : Nat) : Int)] 3)) (by simp) (by omega) (by omega))
  have x0 := hx.cell' (v := .int .i64 0) 0 rfl
  have x1 := hx.cell' (v := .int .i64 (L : Int)) 1 rfl
  have x2 := hx.cell' (v := .int .i64 (y : Int)) 2 rfl
  have x3 := hx.cell' (v := .int .i64 (t : Int)) 3 rfl
  have hne : ¬ g = w.heap.size := by omega
  have hNp : 0 < (grpL L y t).length := by rw [grpL_len]; exact Nat.mul_pos (onceT_pos L y).1 ht.1
  have hNl : (grpL L y t).length ≤ 96 := by rw [grpL_len]; exact hN
  clear hx
  obtain ⟨nf, _⟩ : ∃ nf : Nat, nf = nf := ⟨3, rfl⟩
  refine (callsIn_wide (n := nf)).1 ?_
  refine callsIn_of_wp_marks Try.func24 rfl trivial ?_ rfl
  simp only [Try.ntmps24, List.size_toArray, List.length_cons, List.length_nil, Nat.reduceAdd, Nat.reduceSub, Array.replicate_succ, Array.replicate_zero, List.push_toArray, List.append_toArray, List.nil_append, List.cons_append]
  gi_wp2_with fail
  refine wideCall HA.out ?_
  rintro e w' ⟨rfl, rfl⟩
  gi_wp2_with fail
  refine wpIn_loop_rounds 2 ?_
  rw [roundsIn_succ]
  gi_wp2_with fail
  refine wideCall (grpIsOf L y t _ hL hy ht) ?_
  rintro e w1 ⟨rfl, hb⟩
  have hbx : BoxAt w1 (w.heap.size + 1 + 1) (grpV L y t) 32 := by
    have := BoxAt.next (BoxAt.new ((w.alloc (.cells #[.int .i64 ((L : Int) + 1), .slice none 0 0] 26)).alloc (.cells #[.int .i64 ((L : Int) + 1)] 3)) (grpV L y t) 32) hb
    rwa [World.size_alloc, World.size_alloc] at this
  have hrb : BoxAt w1 w.heap.size #[.int .i64 ((L : Int) + 1), .slice none 0 0] 26 :=
    BoxAt.below (BoxAt.new w #[.int .i64 ((L : Int) + 1), .slice none 0 0] 26) ((((Below.refl (w.heap.size + 1) _).alloc (by simp) (.cells #[.int .i64 ((L : Int) + 1)] 3)).alloc (by simp) (.cells (grpV L y t) 32)).trans (hb.mono (by simp))) (by omega)
  have hbw : Below w.heap.size w w1 := ((((Below.refl w.heap.size w).alloc (Nat.le_refl _) (.cells #[.int .i64 ((L : Int) + 1), .slice none 0 0] 26)).alloc (by simp) (.cells #[.int .i64 ((L : Int) + 1)] 3)).alloc (by simp; omega) (.cells (grpV L y t) 32)).trans (hb.mono (by simp; omega))
  have y0 := hbx.cell' (v := .int .i64 0) 0 rfl
  have y1 := hbx.cell' (v := .int .i64 (L : Int)) 1 rfl
  have y2 := hbx.cell' (v := .int .i64 (y : Int)) 2 rfl
  have y3 := hbx.cell' (v := .int .i64 (t : Int)) 3 rfl
  have hM0 : MgAt w ((L : Int) + 1) (w1.heap.size + 2) (.slice none 0 0) [] w1 := ⟨hrb, World.ownsRow_nil _ _ _ _, hbw, by simp [Value.ownBlock]⟩
  have HM0 := Lib.hid hM0
  have hz := hbx.lt
  clear hb hbx hrb hbw hM0 HA HX x0 x1 x2 x3
  gi_wp2_with fail
  refine rangeB (gf := 113) (rb := #[.agg (grpV L y t)]) rfl (enters_of Try.func113 (by kernel_rfl) rfl) (encs := fun x : Nat => #[.int .i64 (x : Int)]) (xs := grpL L y t) (B := w1.heap.size) (Nat.le_refl _) (fun _ => rfl)
    (grp_iter L y t _ _ hL hy ht)
    (fun pre W' => ∃ v, MgAt w ((L : Int) + 1) (w1.heap.size + 2) v pre W')
    ?stable ?start2
    (fun x a1 _ => a1 = { tmps := #[Value.int IntKind.i64 ((L : Int) + 1), Value.slice (some ⟨g, 0, none⟩) 1 1, undef, undef, Value.pointer (some ⟨w.heap.size, 0, none⟩), Value.int IntKind.i64 0, Value.int IntKind.i64 0, Value.int IntKind.i64 0, Value.pointer (some ⟨w.heap.size + 1 + 1, 0, none⟩), .int .i64 (x : Int), Value.int IntKind.i64 ((L : Int) + 1), Value.slice (some ⟨w.heap.size + 1, 0, none⟩) 1 1, Value.bool true, Value.bool false, undef, Value.slice (some ⟨g, 0, none⟩) 1 1, Value.int IntKind.i64 1, Value.bool false, undef, Value.slice (some ⟨g, 0, none⟩) 1 1, Value.int IntKind.i64 1, Value.bool false, undef, Value.int IntKind.i64 ((L : Int) + 1), Value.pointer (some ⟨w.heap.size, 0, none⟩), Value.slice (some ⟨g, 0, none⟩) 1 1, Value.int IntKind.i64 1, Value.int IntKind.i64 0, Value.bool true, Value.int IntKind.i64 0, Value.pointer (some ⟨g, 0, none⟩), Value.agg #[Value.int IntKind.i64 0, Value.int IntKind.i64 (L : Int), Value.int IntKind.i64 (y : Int), Value.int IntKind.i64 (t : Int)], Value.agg #[Value.int IntKind.i64 0, Value.int IntKind.i64 (L : Int), Value.int IntKind.i64 (y : Int), Value.int IntKind.i64 (t : Int)], Value.agg #[Value.int IntKind.i64 0, Value.int IntKind.i64 (L : Int), Value.int IntKind.i64 (y : Int), Value.int IntKind.i64 (t : Int)], Value.int IntKind.i64 ((L : Int) + 1), Value.bool true, Value.bool false, undef, undef, Value.agg #[Value.int IntKind.i64 0, Value.int IntKind.i64 (L : Int), Value.int IntKind.i64 (y : Int), Value.int IntKind.i64 (t : Int)], Value.agg #[Value.int IntKind.i64 0, Value.int IntKind.i64 (L : Int), Value.int IntKind.i64 (y : Int), Value.int IntKind.i64 (t : Int)], Value.func (Fn.func 113) #[Value.agg #[Value.int IntKind.i64 0, Value.int IntKind.i64 (L : Int), Value.int IntKind.i64 (y : Int), Value.int IntKind.i64 (t : Int)]] #[], .int .i64 (x : Int), undef, undef, undef, undef, undef, undef, undef, undef, undef, undef, undef, undef, undef, undef], defers := [] })
    ?stableA ?assign ?body ?done
  case stable =>
    rintro s A A' ⟨v, a1⟩ hc
    exact ⟨v, a1.calm hc (by omega)⟩
  case start2 => exact ⟨_, HM0.out⟩
  case stableA => exact fun _ _ _ _ h _ => h
  case assign =>
    intro l x W' K hK
    gi_wp2
    exact hK _ _ (Below.refl _ _) rfl
  case body =>
    rintro l pre x _ W' ⟨v, hf⟩ rfl hpre hsz
    have hlen : pre.length ≤ 96 := by have := prefix_len hpre; rw [grpL_len, List.length_append] at this; omega
    have b1 : W'.cell? ⟨w.heap.size, 1, none⟩ = some v := hf.box.cell' 1 rfl
    have HF := Lib.hid hf
    have hzz : w.heap.size < W'.heap.size := hf.box.lt
    clear hf HM0 y0 y1 y2 y3
    gi_wp2_with (gi_at_builtin; refine Shut.out ?_)
    unfold Shut
    refine app_oneIn elemInt rfl _ _ rfl (w.heap.size + 1) v pre.length (pre.map natV) #[.int .i64 (x : Int)] rfl HF.out.row rfl rfl (by simp [Value.oneCell']) (by omega) (by decide) (by omega) ?_
    intro g5 cap w5 hg
    obtain ⟨hbx, hM, hko, hkc⟩ := HF.out.grew hsz hg
    have f1 := hbx.frozen 1
    have c1 : w5.cell? ⟨w.heap.size, 1, none⟩ = some v := hbx.cell' 1 rfl
    have HM := Lib.hid hM
    have HK := Lib.hid (hko.trans (KeepsOthers.setCell w5 ⟨w.heap.size, 1, none⟩ (.slice (some ⟨g5, 0, none⟩) (pre.length + 1) cap)))
    have HC := Lib.hid hkc
    clear hg hM hbx hko hkc
    gi_wp2_with fail
    refine ⟨HK.out.from _, ⟨_, HM.out⟩, fun j => ?_⟩
    exact (World.cell?_of_block (w := w5) (Below.heap_setCell _ _ _ _ (by simp; omega))).trans (HC.out j)
  case done =>
    rintro W' hlt' ⟨v, hf⟩ hD
    obtain ⟨g5, cap, rfl⟩ : ∃ g5 cap, v = .slice (some ⟨g5, 0, none⟩) (grpL L y t).length cap := by
      exact row_slice hf.row hNp
    have b0 : W'.cell? ⟨w.heap.size, 0, none⟩ = some (.int .i64 ((L : Int) + 1)) := hf.box.cell' 0 rfl
    have b1 : W'.cell? ⟨w.heap.size, 1, none⟩ = some (.slice (some ⟨g5, 0, none⟩) (grpL L y t).length cap) := hf.box.cell' 1 rfl
    have f0 := hf.box.frozen 0
    have f1 := hf.box.frozen 1
    have HF := Lib.hid hf
    have hzz : w.heap.size < w1.heap.size := by omega
    clear hf HM0 y0 y1 y2 y3
    gi_wp2
    rw [roundsIn_succ]
    gi_wp2
    obtain ⟨X, hX⟩ : ∃ X, (W'.setCell ⟨w.heap.size, 0, none⟩ (.int .i64 ((L : Int) + 1))).setCell ⟨w.heap.size, 1, none⟩ (.slice (some ⟨g5, 0, none⟩) (grpL L y t).length cap) = X := ⟨_, rfl⟩
    have hKX : X.heap[w1.heap.size]? = some (.deferred (some [])) := by
      rw [← hX]
      exact ((KeepsOthers.setCell W' ⟨w.heap.size, 0, none⟩ (.int .i64 ((L : Int) + 1))).trans (KeepsOthers.setCell _ ⟨w.heap.size, 1, none⟩ (.slice (some ⟨g5, 0, none⟩) (grpL L y t).length cap))).same _ _ hD rfl
    have hBX : BoxAt X w.heap.size #[.int .i64 ((L : Int) + 1), .slice (some ⟨g5, 0, none⟩) (grpL L y t).length cap] 26 := by rw [← hX]; exact (HF.out.box.set 0 _).set 1 _
    have hbX : Below w.heap.size w X := by rw [← hX]; exact (HF.out.b.setCell (by simp) _).setCell (by simp) _
    have hrX : X.ownsRow w.heap.size 3 1 (.slice (some ⟨g5, 0, none⟩) (grpL L y t).length cap) (grpL L y t).length ((grpL L y t).map natV) := by
      rw [← hX]
      have h := HF.out.row
      have hn := own_far h (show w.heap.size < w.heap.size + 1 by omega)
      exact own_base (own_set (own_set h ⟨w.heap.size, 0, none⟩ _ hn) ⟨w.heap.size, 1, none⟩ _ hn) (by omega)
    rw [hX]
    refine leaves_marks (B := w.heap.size) (v := .tuple #[.agg #[.int .i64 ((L : Int) + 1), .slice (some ⟨g5, 0, none⟩) (grpL L y t).length cap], .int .i64 0, .int .i64 0]) [w1.heap.size] _ (fun D hD' => ?_) (by simp) fun w' hc => ⟨?_, _, rfl, own_calm hrX hc, hc.below hbX (Nat.le_refl _)⟩
    · obtain rfl : D = w1.heap.size := by simpa using hD'
      exact ⟨by omega, hKX⟩
    · have e0 := (hBX.calm hc).cell' (v := .int .i64 ((L : Int) + 1)) 0 rfl
      have e1 := (hBX.calm hc).cell' (v := .slice (some ⟨g5, 0, none⟩) (grpL L y t).length cap) 1 rfl
      simp [results, Try.f24, go_sem, e0, e1]
end Go.Proofs.Ytdmgffoikebgkaa
/- TopMirrored: point ties, their cloths and floats; the contracts that its walk uses. -/
namespace Go.Proofs.Ytdmgffoikebgkaa
open Go.RowKit Go.Shelf
attribute [local go_sem] Oper.semAt_some

theorem once_refl (M : Nat) : onceT M 2 = reflHooks (M + 1) := by
  unfold onceT reflHooks
  by_cases h : 1 < M
  · rw [if_pos ⟨rfl, h⟩, if_pos (by omega)]; omega
  · rw [if_neg (by simp [h]), if_neg (by omega)]
theorem once_two (M : Nat) : onceT M 2 = if 1 < M then 2 * M else M + 1 := by unfold onceT; simp
theorem grpL_nth (L y t i : Nat) (h : i < onceT L y * t) : nthN (grpL L y t) i = hookT L y i := by
  rw [nthN_get _ _ (by rw [grpL_len]; exact h)]; simp [grpL]
theorem grpL_lt (L y t i : Nat) (h : i < onceT L y * t) : nthN (grpL L y t) i < L + 1 := by
  rw [grpL_nth _ _ _ _ h]
  have h1 := onceT_back L y i
  unfold hookT
  omega
theorem bit_rowTo (f : Nat → Bool) (k j : Nat) : bitN (rowTo f k) j = (decide (j < k) && f j) := rowTo_bit f k j
theorem painted_nthT (g : Nat → Nat → Bool) (np nh i : Nat) (h : i < np) : nthN (painted g np nh) i = rowTo (g i) nh := by
  rw [nthN_get _ _ (by rw [painted_len]; exact h)]; simp [painted]
/-- the tie is its own mirror -/
theorem hook_mir (M m k : Nat) (_hm : 1 ≤ m) (hk : k ≤ onceT M 2 * m) : hookT M 2 ((onceT M 2 * m - k) % (onceT M 2 * m)) = hookT M 2 k := by
  have ho := once_two M
  have hp := onceT_pos M 2
  obtain ⟨K, hK⟩ : ∃ K, onceT M 2 = K := ⟨_, rfl⟩
  unfold hookT
  rw [hK] at hk hp ho ⊢
  have h1 : (K * m - k) % (K * m) % K = (K * m - k) % K := Nat.mod_mod_of_dvd _ (Nat.dvd_mul_right K m)
  rw [h1]
  have hd := Nat.div_add_mod k K
  have hr := Nat.mod_lt k (show 0 < K by omega)
  obtain ⟨q, hq⟩ : ∃ q, k / K = q := ⟨_, rfl⟩
  obtain ⟨r, hre⟩ : ∃ r, k % K = r := ⟨_, rfl⟩
  rw [hq, hre] at hd
  rw [hre] at hr ⊢
  by_cases h0 : r = 0
  · have e : K * m - k = K * (m - q) := by rw [Nat.mul_sub]; omega
    rw [e, Nat.mul_mod_right, h0]
  · have hqm : q < m := by
      refine Classical.byContradiction fun h => ?_
      have : K * m ≤ K * q := Nat.mul_le_mul_left _ (by omega)
      omega
    have e : K * m - k = K * (m - q - 1) + (K - r) := by
      have h2 : K * m = K * (m - q - 1) + K * q + K := by
        have : m = (m - q - 1) + q + 1 := by omega
        calc K * m = K * ((m - q - 1) + q + 1) := by rw [← this]
          _ = K * (m - q - 1) + K * q + K := by rw [Nat.mul_add, Nat.mul_add, Nat.mul_one]
      omega
    rw [e, Nat.mul_add_mod, Nat.mod_eq_of_lt (show K - r < K by omega)]
    split at ho <;> omega
theorem mir_point (M m : Nat) (hm : 1 ≤ m) : mirAt (grpL M 2 m) 0 = true := by
  refine likeB_yes fun k hk => ?_
  rw [grpL_len] at hk
  unfold aroundN
  rw [grpL_len]
  have e : (((0 : Nat) : Int) - (k : Int) + ((onceT M 2 * m : Nat) : Int)).toNat = onceT M 2 * m - k := by omega
  rw [e, grpL_nth _ _ _ _ hk, grpL_nth _ _ _ _ (Nat.mod_lt _ (by omega)), hook_mir M m k hm (by omega)]

/-- floats in memory that are read -/
def FlP (W : World) (p : Option Addr) (fs : List Fl) : Prop := 0 < fs.length → ∃ g, p = some ⟨g, 0, none⟩ ∧ FlsAt W g fs
theorem FlP.next {W W' : World} {p : Option Addr} {fs : List Fl} (h : FlP W p fs) (hb : Below W.heap.size W W') : FlP W' p fs := fun h0 => by
  obtain ⟨g, e, hf⟩ := h h0
  exact ⟨g, e, hf.below hb hf.lt⟩
theorem FlP.far {W W' : World} {p : Option Addr} {fs : List Fl} {B : Nat} (h : FlP W p fs) (hB : SetAt B W W') (hne : ∀ a, p = some a → a.block ≠ B) : FlP W' p fs := fun h0 => by
  obtain ⟨g, rfl, hf⟩ := h h0
  have hg : g ≠ B := hne _ rfl
  have hc : ∀ j, W'.cell? ⟨g, j, none⟩ = W.cell? ⟨g, j, none⟩ := fun j => World.cell?_of_block (w := W) (hB.other g hg)
  exact ⟨g, rfl, ⟨fun i hi => (hc _).trans (hf.c0 i hi), fun i hi => (hc _).trans (hf.c1 i hi), fun i hi => (hc _).trans (hf.c2 i hi), fun i hi => (hc _).trans (hf.c3 i hi), by rw [hB.size]; exact hf.lt⟩⟩
/-- a row of picks of the region's own -/
def memStrs (ss : List ByteArray) : Mem := ⟨fun h W => StrsAt W h.b 0 ss ∧ h.b < W.heap.size, fun h => [h.b], fun _ _ _ ⟨h, l⟩ hb => ⟨h.below hb l, Nat.lt_of_lt_of_le l hb.size⟩, fun h W _ B ⟨hp, l⟩ hn hB => ⟨fun i hi => (World.cell?_of_block (w := W) (hB.other h.b (fun e => hn (by simp [e])))).trans (hp i hi), by rw [hB.size]; exact l⟩⟩
theorem call24g (N M y m T g : Nat) (w : World) (hN : N = M + 1) (hM : M < 24) (hy : y = 1 ∨ y = 2) (hm : 1 ≤ m ∧ m ≤ 8) (hT : onceT M y * m = T) (hT2 : T ≤ 96) (hx : BoxAt w g (grpV M y m) 32) :
    Calls Try.prog 24 #[.int .i64 (N : Int), .slice (some ⟨g, 0, none⟩) 1 1] w fun e w' =>
      ∃ g' cap, e = .returned (.tuple #[.agg #[.int .i64 (N : Int), .slice (some ⟨g', 0, none⟩) T cap], .int .i64 0, .int .i64 0]) ∧ NatsAt w' g' 0 (grpL M y m) ∧ w.heap.size ≤ g' ∧ g' < w'.heap.size ∧ Below w.heap.size w w' := by
  subst hN hT
  have hc : ((M + 1 : Nat) : Int) = (M : Int) + 1 := by omega
  have hp := onceT_pos M y
  rw [hc]
  refine (grpMake M y m g w hM hy hm hT2 hx).mono ?_
  rintro e w' ⟨v, rfl, h1, h2⟩
  have h0 : 0 < (grpL M y m).length := by rw [grpL_len]; exact Nat.mul_pos hp.1 hm.1
  obtain ⟨g', cap, rfl⟩ := row_slice h1 h0
  obtain ⟨a, b, d⟩ := nats_of_row h1 h0
  rw [grpL_len]
  exact ⟨g', cap, rfl, a, d, b, h2⟩
theorem call74 (n L b c R : Nat) (xs : List Nat) (W : World) (hL : xs.length = L) (hv : Valid n xs) (hR : reflHooks n = R) (hR2 : R ≤ 24) (hx : NatsAt W b 0 xs) (hb : b < W.heap.size) :
    Calls Try.prog 74 #[.agg #[.int .i64 (n : Int), .slice (some ⟨b, 0, none⟩) L c]] W fun e w' =>
      ∃ g cap, e = .returned (.tuple #[.agg #[.int .i64 (R : Int), .slice (some ⟨g, 0, none⟩) L cap], .int .i64 0]) ∧ NatsAt w' g 0 (painted (reflG xs n) L R) ∧ W.heap.size ≤ g ∧ g < w'.heap.size ∧ Below W.heap.size W w' := by
  subst hL hR
  refine (Reflect_ok n b 0 c xs W ⟨hx, hb, hv⟩ hR2).mono ?_
  rintro e w' ⟨r, rfl, h1, h2, h3⟩
  rw [painted_len]
  exact ⟨r, _, rfl, h2.nats, h1, h2.lt, h3⟩
theorem call32 (n M m T b c : Nat) (W : World) (hm : 1 ≤ m) (hT : onceT M 2 * m = T) (hv : TAt W b 0 n (grpL M 2 m)) :
    Calls Try.prog 32 #[.agg #[.int .i64 (n : Int), .slice (some ⟨b, 0, none⟩) T c]] W fun e w' => e = .returned (.tuple #[.int .i64 0, .int .i64 0]) ∧ Below W.heap.size W w' := by
  subst hT
  have h := Mirrors_ok n b 0 c (grpL M 2 m) W hv
  rw [grpL_len] at h
  refine h.mono ?_
  rintro e w' ⟨h1, h2⟩
  refine ⟨?_, h2⟩
  have hm0 := mir_point M m hm
  have h0 := hv.l0
  rcases h1 with ⟨s, _, _, hl, rfl⟩ | ⟨hl, _⟩
  · by_cases hs : s = 0
    · rw [hs]; rfl
    · rw [hl 0 (by omega)] at hm0; cases hm0
  · rw [hl 0 (by omega)] at hm0; cases hm0
end Go.Proofs.Ytdmgffoikebgkaa
/- TopMirrored: its regions that draw their order. -/
namespace Go.Proofs.Ytdmgffoikebgkaa
open Go.RowKit Go.Shelf
attribute [local go_sem] Oper.semAt_some

end Go.Proofs.Ytdmgffoikebgkaa
/- TopMirrored: the walk. -/
namespace Go.Proofs.Ytdmgffoikebgkaa
open Go.RowKit Go.Shelf
attribute [local go_sem] Oper.semAt_some

theorem loomL_bdM (m l : Nat) (hm : 1 ≤ m) : 1 ≤ loomL m l ∧ loomL m l ≤ m := by unfold loomL; split <;> omega
theorem dsTo_validM (n : Nat) (rs : List Nat) (k : Nat) (hn : 1 ≤ n) (hn2 : n ≤ 24) (hk : 1 ≤ k) (hk2 : k ≤ 60) : Valid n (dsTo n rs k) := by
  refine ⟨hn, hn2, by rw [dsTo_len]; exact hk, by rw [dsTo_len]; exact hk2, fun i => ?_⟩
  by_cases hi : i < k
  · rw [nthN_get _ _ (by rw [dsTo_len]; exact hi)]
    simp only [dsTo, List.getElem_map, List.getElem_range, dsG]
    have h2 : 0 < (2 : Nat) ^ n := Nat.pow_pos (by decide)
    exact Nat.lt_of_le_of_lt Nat.and_le_right (by omega)
  · have : nthN (dsTo n rs k) i = 0 := by unfold nthN; rw [List.getElem?_eq_none (by rw [dsTo_len]; omega)]; rfl
    rw [this]; exact Nat.pow_pos (by decide)
end Go.Proofs.Ytdmgffoikebgkaa
