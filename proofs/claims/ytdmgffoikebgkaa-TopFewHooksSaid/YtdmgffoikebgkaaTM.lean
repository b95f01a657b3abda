/- Harness ties: the hooks of one group that begins with the first hook. -/
import Derived.Test.YtdmgffoikebgkaaTC
import Derived.Test.YtdmgffoikebgkaaPN
import Derived.Test.YtdmgffoikebgkaaRG
import Derived.Test.YtdmgffoikebgkaaHA
import Derived.Test.YtdmgffoikebgkaaTH
import Derived.Test.YtdmgffoikebgkaaPH
import Derived.Test.YtdmgffoikebgkaaWV
import Derived.Test.YtdmgffoikebgkaaHJ
import Derived.Test.YtdmgffoikebgkaaVI
import Derived.Deep.DeepCutAuto
import Derived.Deep.QuietTactic
import Derived.BigQuiet
namespace Go.Proofs.Ytdmgffoikebgkaa
open Go.RowKit Go.Shelf
attribute [local go_sem] Oper.semAt_some

def onceT (L y : Nat) : Nat := if y = 2 ∧ 1 < L then 2 * L else L + 1
def hookT (L y k : Nat) : Nat := min (k % onceT L y) (2 * L - k % onceT L y)
def grpL (L y t : Nat) : List Nat := (List.range (onceT L y * t)).map (hookT L y)
def grpV (L y t : Nat) : Array Value := #[.int .i64 0, .int .i64 (L : Int), .int .i64 (y : Int), .int .i64 (t : Int)]
theorem onceT_pos (L y : Nat) : 1 ≤ onceT L y ∧ onceT L y ≤ 2 * L + 1 := by unfold onceT; split <;> omega
theorem onceT_back (L y k : Nat) : k % onceT L y ≤ 2 * L := by
  have h := onceT_pos L y
  have := Nat.mod_lt k (show 0 < onceT L y by omega)
  omega
theorem grpL_len (L y t : Nat) : (grpL L y t).length = onceT L y * t := by simp [grpL]
theorem grpL_take (L y t k : Nat) (h : k < onceT L y * t) : (grpL L y t).take (k + 1) = (grpL L y t).take k ++ [hookT L y k] := by
  rw [List.take_add_one]; simp [grpL, h]
theorem grpL_pre (L y t k : Nat) (h : k < onceT L y * t) : ((grpL L y t).take k ++ [hookT L y k]) <+: grpL L y t := by
  rw [← grpL_take L y t k h]; exact List.take_prefix _ _
set_option maxHeartbeats 1000000 in
theorem grp_iter (L y t n size : Nat) (hL : L < 24) (hy : y = 1 ∨ y = 2) (ht : 1 ≤ t ∧ t ≤ 8) :
    Iter Try.prog n (n - 1) 113 #[.agg (grpV L y t)] (fun x : Nat => #[.int .i64 (x : Int)]) (grpL L y t) size := by
  intro l J W hW hJ hY h0
  subst hW
  refine callsIn_of_wp Try.func113 rfl trivial ?_ rfl
  simp only [Try.ntmps113, List.size_toArray, List.length_cons, List.length_nil, Nat.reduceAdd, Nat.reduceSub, Array.replicate_succ, Array.replicate_zero, List.push_toArray, List.append_toArray, List.nil_append, List.cons_append]
  have hB0 : BoxAt (W.alloc (.cells (grpV L y t) 152)) W.heap.size (grpV L y t) 152 := BoxAt.new _ _ _
  have hJ0 : J [] (W.alloc (.cells (grpV L y t) 152)) := hJ _ _ _ h0 ((Below.refl _ _).alloc (Nat.le_refl _) _)
  have hpos := onceT_pos L y
  have hback := onceT_back L y
  have hpre := grpL_pre L y t
  have htk := grpL_take L y t
  have hlen := grpL_len L y t
  have hhk : ∀ k, hookT L y k = min (k % onceT L y) (2 * L - k % onceT L y) := fun _ => rfl
  have hcase : (y = 1 ∧ onceT L y = L + 1) ∨ (y = 2 ∧ ¬ (1 : Int) < (L : Int) ∧ onceT L y = L + 1) ∨ (y = 2 ∧ (1 : Int) < (L : Int) ∧ onceT L y = 2 * L) := by
    unfold onceT
    rcases hy with rfl | rfl
    · exact .inl ⟨rfl, by simp⟩
    · by_cases h1 : 1 < L
      · exact .inr (.inr ⟨rfl, by omega, by simp [h1]⟩)
      · exact .inr (.inl ⟨rfl, by omega, by simp [h1]⟩)
  obtain ⟨o, ho⟩ : ∃ o, onceT L y = o := ⟨_, rfl⟩
  rw [ho] at hpos hback hpre htk hhk hcase hlen
  have hmulN : o * t ≤ 49 * 8 := Nat.mul_le_mul (by omega) ht.2
  obtain ⟨N, hN⟩ : ∃ N, o * t = N := ⟨_, rfl⟩
  rw [hN] at hmulN hlen hpre htk
  have hmul : (o : Int) * (t : Int) = (N : Int) := by rw [← hN]; exact (Int.natCast_mul _ _).symm
  have HB0 := Lib.hid hB0
  have HJ0 := Lib.hid hJ0
  have HPre := Lib.hid hpre
  have HTk := Lib.hid htk
  have HHk := Lib.hid hhk
  have HLen := Lib.hid hlen
  have HMul := Lib.hid hmul
  clear hB0 hJ0 hpre htk hhk ho hlen hN hmul
  unfold grpV at HB0 HJ0 ⊢
  rcases hcase with ⟨rfl, rfl⟩ | ⟨rfl, hl1, rfl⟩ | ⟨rfl, hl1, rfl⟩
  · have hw : wrap64 (((L : Int) + 1) * (t : Int)) = (N : Int) := by
      have := HMul.out
      push_cast at this
      rw [this]; unfold wrap64; omega
    have hz0 : ¬ ((L : Int) < 0) := by omega
    gi_wp2_with fail
    gi_loopw [38] (fun i wr => ∃ k : Nat, k ≤ N ∧ i = .int .i64 k ∧ wr.cell? ⟨W.heap.size, 0, none⟩ = some (.int .i64 0) ∧ J ((grpL L 1 t).take k) wr) (fun i _ => N - (intOf i).toNat)
    case atStart => exact ⟨0, Nat.zero_le _, rfl, BoxAt.cell' HB0.out 0 rfl, HJ0.out⟩
    case round =>
      obtain ⟨k, hk, rfl, c0, hJ2⟩ := hrel
      clear HB0 HJ0
      by_cases hlt : k < N
      · obtain ⟨fn, tmps, assign, body, hy, hR⟩ := hY ((grpL L 1 t).take k) (hookT L 1 k) _ hJ2 (HPre.out k hlt) (World.block_lt_of_cell? _ _ c0)
        clear hJ2 hw
        have hrl : k % (L + 1) < (L + 1) := Nat.mod_lt _ (by omega)
        have hrb := hback k
        have hhk := HHk.out k
        have hrm : (k : Int).tmod ((L : Int) + 1) = ((k % (L + 1) : Nat) : Int) := by
          rw [show ((L : Int) + 1) = (((L + 1) : Nat) : Int) by push_cast; rfl]
          exact tmod_nn _ _
        obtain ⟨r, hr⟩ : ∃ r, k % (L + 1) = r := ⟨_, rfl⟩
        rw [hr] at hrl hrb hhk hrm
        have hoz : ¬ ((L : Int) + 1) = 0 := by omega
        have hltI : (k : Int) < (N : Int) := by omega
        have Hy := Lib.hid hy
        have Htk := Lib.hid (HTk.out k hlt)
        have Hhk := Lib.hid hhk
        clear hy hr hhk hback
        by_cases hle : (r : Int) ≤ 2 * (L : Int) - (r : Int)
        · have hn : hookT L 1 k = r := by rw [Hhk.out]; omega
          have hy2 : (Instr.yield l #[.int .i64 (r : Int)]).run Try.prog wr = .ok (.round l fn tmps assign body) wr := by rw [← hn]; exact Hy.out
          clear hn
          gi_wp2_with fail
          refine ⟨fun h => by simp [Fence.wide] at h, hR.mono ?_⟩
          rintro e W3 ⟨rfl, hJ3, hz3, hk3⟩
          have HJ3 := Lib.hid hJ3
          have c3 := (hk3 0).trans c0
          clear hJ3
          gi_wp2_with fail
          go_roundw
          case rel => exact ⟨k + 1, by omega, by go_num, c3, by rw [Htk.out]; exact HJ3.out⟩
          case measure => simp [intOf]; omega
        · exfalso; omega
      · obtain rfl : k = N := by omega
        have HJ := Lib.hid hJ2
        have hltI : ¬ (k : Int) < (k : Int) := by omega
        clear hJ2
        gi_wp2_with fail
        go_end0
        refine ⟨⟨_, rfl⟩, ?_⟩
        have e : (grpL L 1 t).take k = grpL L 1 t := List.take_of_length_le (by rw [HLen.out]; exact Nat.le_refl _)
        rw [← e]; exact HJ.out
  · have hw : wrap64 (((L : Int) + 1) * (t : Int)) = (N : Int) := by
      have := HMul.out
      push_cast at this
      rw [this]; unfold wrap64; omega
    have hz0 : ¬ ((L : Int) < 0) := by omega
    gi_wp2_with fail
    gi_loopw [38] (fun i wr => ∃ k : Nat, k ≤ N ∧ i = .int .i64 k ∧ wr.cell? ⟨W.heap.size, 0, none⟩ = some (.int .i64 0) ∧ J ((grpL L 2 t).take k) wr) (fun i _ => N - (intOf i).toNat)
    case atStart => exact ⟨0, Nat.zero_le _, rfl, BoxAt.cell' HB0.out 0 rfl, HJ0.out⟩
    case round =>
      obtain ⟨k, hk, rfl, c0, hJ2⟩ := hrel
      clear HB0 HJ0
      by_cases hlt : k < N
      · obtain ⟨fn, tmps, assign, body, hy, hR⟩ := hY ((grpL L 2 t).take k) (hookT L 2 k) _ hJ2 (HPre.out k hlt) (World.block_lt_of_cell? _ _ c0)
        clear hJ2 hw
        have hrl : k % (L + 1) < (L + 1) := Nat.mod_lt _ (by omega)
        have hrb := hback k
        have hhk := HHk.out k
        have hrm : (k : Int).tmod ((L : Int) + 1) = ((k % (L + 1) : Nat) : Int) := by
          rw [show ((L : Int) + 1) = (((L + 1) : Nat) : Int) by push_cast; rfl]
          exact tmod_nn _ _
        obtain ⟨r, hr⟩ : ∃ r, k % (L + 1) = r := ⟨_, rfl⟩
        rw [hr] at hrl hrb hhk hrm
        have hoz : ¬ ((L : Int) + 1) = 0 := by omega
        have hltI : (k : Int) < (N : Int) := by omega
        have Hy := Lib.hid hy
        have Htk := Lib.hid (HTk.out k hlt)
        have Hhk := Lib.hid hhk
        clear hy hr hhk hback
        by_cases hle : (r : Int) ≤ 2 * (L : Int) - (r : Int)
        · have hn : hookT L 2 k = r := by rw [Hhk.out]; omega
          have hy2 : (Instr.yield l #[.int .i64 (r : Int)]).run Try.prog wr = .ok (.round l fn tmps assign body) wr := by rw [← hn]; exact Hy.out
          clear hn
          gi_wp2_with fail
          refine ⟨fun h => by simp [Fence.wide] at h, hR.mono ?_⟩
          rintro e W3 ⟨rfl, hJ3, hz3, hk3⟩
          have HJ3 := Lib.hid hJ3
          have c3 := (hk3 0).trans c0
          clear hJ3
          gi_wp2_with fail
          go_roundw
          case rel => exact ⟨k + 1, by omega, by go_num, c3, by rw [Htk.out]; exact HJ3.out⟩
          case measure => simp [intOf]; omega
        · exfalso; omega
      · obtain rfl : k = N := by omega
        have HJ := Lib.hid hJ2
        have hltI : ¬ (k : Int) < (k : Int) := by omega
        clear hJ2
        gi_wp2_with fail
        go_end0
        refine ⟨⟨_, rfl⟩, ?_⟩
        have e : (grpL L 2 t).take k = grpL L 2 t := List.take_of_length_le (by rw [HLen.out]; exact Nat.le_refl _)
        rw [← e]; exact HJ.out
  · have hw : wrap64 ((2 * (L : Int)) * (t : Int)) = (N : Int) := by
      have := HMul.out
      push_cast at this
      rw [this]; unfold wrap64; omega
    have hz0 : ¬ ((L : Int) < 0) := by omega
    gi_wp2_with fail
    gi_loopw [38] (fun i wr => ∃ k : Nat, k ≤ N ∧ i = .int .i64 k ∧ wr.cell? ⟨W.heap.size, 0, none⟩ = some (.int .i64 0) ∧ J ((grpL L 2 t).take k) wr) (fun i _ => N - (intOf i).toNat)
    case atStart => exact ⟨0, Nat.zero_le _, rfl, BoxAt.cell' HB0.out 0 rfl, HJ0.out⟩
    case round =>
      obtain ⟨k, hk, rfl, c0, hJ2⟩ := hrel
      clear HB0 HJ0
      by_cases hlt : k < N
      · obtain ⟨fn, tmps, assign, body, hy, hR⟩ := hY ((grpL L 2 t).take k) (hookT L 2 k) _ hJ2 (HPre.out k hlt) (World.block_lt_of_cell? _ _ c0)
        clear hJ2 hw
        have hrl : k % (2 * L) < (2 * L) := Nat.mod_lt _ (by omega)
        have hrb := hback k
        have hhk := HHk.out k
        have hrm : (k : Int).tmod (2 * (L : Int)) = ((k % (2 * L) : Nat) : Int) := by
          rw [show (2 * (L : Int)) = (((2 * L) : Nat) : Int) by push_cast; rfl]
          exact tmod_nn _ _
        obtain ⟨r, hr⟩ : ∃ r, k % (2 * L) = r := ⟨_, rfl⟩
        rw [hr] at hrl hrb hhk hrm
        have hoz : ¬ (2 * (L : Int)) = 0 := by omega
        have hltI : (k : Int) < (N : Int) := by omega
        have Hy := Lib.hid hy
        have Htk := Lib.hid (HTk.out k hlt)
        have Hhk := Lib.hid hhk
        clear hy hr hhk hback
        by_cases hle : (r : Int) ≤ 2 * (L : Int) - (r : Int)
        · have hn : hookT L 2 k = r := by rw [Hhk.out]; omega
          have hy2 : (Instr.yield l #[.int .i64 (r : Int)]).run Try.prog wr = .ok (.round l fn tmps assign body) wr := by rw [← hn]; exact Hy.out
          clear hn
          gi_wp2_with fail
          refine ⟨fun h => by simp [Fence.wide] at h, hR.mono ?_⟩
          rintro e W3 ⟨rfl, hJ3, hz3, hk3⟩
          have HJ3 := Lib.hid hJ3
          have c3 := (hk3 0).trans c0
          clear hJ3
          gi_wp2_with fail
          go_roundw
          case rel => exact ⟨k + 1, by omega, by go_num, c3, by rw [Htk.out]; exact HJ3.out⟩
          case measure => simp [intOf]; omega
        · have hle2 : (2 : Int) * (L : Int) - (r : Int) < (r : Int) := by omega
          have hn : ((hookT L 2 k : Nat) : Int) = 2 * (L : Int) - (r : Int) := by rw [Hhk.out]; omega
          have hy2 : (Instr.yield l #[.int .i64 (2 * (L : Int) - (r : Int))]).run Try.prog wr = .ok (.round l fn tmps assign body) wr := by rw [← hn]; exact Hy.out
          clear hn
          clear hle
          gi_wp2_with fail
          refine ⟨fun h => by simp [Fence.wide] at h, hR.mono ?_⟩
          rintro e W3 ⟨rfl, hJ3, hz3, hk3⟩
          have HJ3 := Lib.hid hJ3
          have c3 := (hk3 0).trans c0
          clear hJ3
          gi_wp2_with fail
          go_roundw
          case rel => exact ⟨k + 1, by omega, by go_num, c3, by rw [Htk.out]; exact HJ3.out⟩
          case measure => simp [intOf]; omega
      · obtain rfl : k = N := by omega
        have HJ := Lib.hid hJ2
        have hltI : ¬ (k : Int) < (k : Int) := by omega
        clear hJ2
        gi_wp2_with fail
        go_end0
        refine ⟨⟨_, rfl⟩, ?_⟩
        have e : (grpL L 2 t).take k = grpL L 2 t := List.take_of_length_le (by rw [HLen.out]; exact Nat.le_refl _)
        rw [← e]; exact HJ.out
end Go.Proofs.Ytdmgffoikebgkaa
/- Harness ties: Make with one group that begins with the first hook. -/
namespace Go.Proofs.Ytdmgffoikebgkaa
open Go.RowKit Go.Shelf
attribute [local go_sem] Oper.semAt_some

set_option maxHeartbeats 1000000 in
theorem grpIsOf (L y t : Nat) (w : World) (hL : L < 24) (hy : y = 1 ∨ y = 2) (ht : 1 ≤ t ∧ t ≤ 8) : Calls Try.prog 112 #[.agg (grpV L y t), .int .i64 ((L : Int) + 1)] w fun e w' => e = .returned (.bool true) ∧ Below w.heap.size w w' := by
  have H1 := Lib.hid (areFrom_true 0 L (w.heap.size + 1) 0 2 [0, L] ((w.alloc (.cells (grpV L y t) 152)).alloc (.cells #[.int .i64 0, .int .i64 (L : Int)] 3)) (by simp) (fun i hi => by
    have : i = 0 ∨ i = 1 := by simp at hi; omega
    rcases this with rfl | rfl <;> simp [nthN]) (fun i hi => by
    have : i = 0 ∨ i = 1 := by simp at hi; omega
    rcases this with rfl | rfl <;> simp [nthN]))
  have h2 := areFrom_one 1 8 ((w.alloc (.cells (grpV L y t) 152)).alloc (.cells #[.int .i64 0, .int .i64 (L : Int)] 3)).heap.size 0 1 t (((w.alloc (.cells (grpV L y t) 152)).alloc (.cells #[.int .i64 0, .int .i64 (L : Int)] 3)).alloc (.cells #[.int .i64 (t : Int)] 3)) (BoxAt.cell' (BoxAt.new _ _ _) 0 rfl) (by omega) (by omega)
  simp only [World.size_alloc] at h2
  have H2 := Lib.hid h2
  clear h2
  unfold grpV at H1 H2
  unfold grpV
  have hLs : (L : Int) + 1 - 1 = (L : Int) := by omega
  go_enter Try.func112, Try.ntmps112
  rcases hy with rfl | rfl
  · have hc : ((1 : Nat) : Int) = 1 := rfl
    simp only [hc] at H1 H2 ⊢
    go_wp2_with fail
    refine H1.out.mono ?_
    rintro e w' ⟨rfl, rfl⟩
    go_wp2_with fail
    refine H2.out.mono ?_
    rintro e w' ⟨rfl, rfl⟩
    go_wp2_with fail
    go_ret
    exact ⟨rfl, (((Below.refl _ _).alloc (Nat.le_refl _) _).alloc (by simp) _).alloc (by simp; omega) _⟩
  · have hc : ((2 : Nat) : Int) = 2 := rfl
    simp only [hc] at H1 H2 ⊢
    go_wp2_with fail
    refine H1.out.mono ?_
    rintro e w' ⟨rfl, rfl⟩
    go_wp2_with fail
    refine H2.out.mono ?_
    rintro e w' ⟨rfl, rfl⟩
    go_wp2_with fail
    go_ret
    exact ⟨rfl, (((Below.refl _ _).alloc (Nat.le_refl _) _).alloc (by simp) _).alloc (by simp; omega) _⟩
/-- what Make keeps between two warps -/
structure MgAt (w0 : World) (h : Int) (S : Nat) (v : Value) (pre : List Nat) (W : World) : Prop where
  box : BoxAt W w0.heap.size #[.int .i64 h, v] 26
  row : W.ownsRow (w0.heap.size + 1) 3 1 v pre.length (pre.map natV)
  b : Below w0.heap.size w0 W
  far : v.ownBlock ≠ some S
theorem MgAt.calm {w0 W W' : World} {S n : Nat} {v : Value} {pre : List Nat} {hk : Int} (h : MgAt w0 hk S v pre W) (hc : Calm n W W') (hn : w0.heap.size ≤ n) : MgAt w0 hk S v pre W' :=
  ⟨h.box.calm hc, own_calm h.row hc, (hc.mono hn).below h.b (Nat.le_refl _), h.far⟩
theorem MgAt.grew {w0 W W' : World} {S g5 cap : Nat} {v : Value} {pre : List Nat} {z : Nat} {hk : Int} (h : MgAt w0 hk S v pre W) (hS : S < W.heap.size)
    (hg : Grew (w0.heap.size + 1) 3 1 W W' v g5 cap (pre.length + 1) (pre.map natV ++ [.int .i64 (z : Int)])) :
    BoxAt W' w0.heap.size #[.int .i64 hk, v] 26 ∧ MgAt w0 hk S (.slice (some ⟨g5, 0, none⟩) (pre.length + 1) cap) (pre ++ [z]) (W'.setCell ⟨w0.heap.size, 1, none⟩ (.slice (some ⟨g5, 0, none⟩) (pre.length + 1) cap))
      ∧ KeepsOthers W W' ∧ ∀ j, W'.cell? ⟨S, j, none⟩ = W.cell? ⟨S, j, none⟩ := by
  have hn : ∀ j, j < w0.heap.size + 1 → some j ≠ v.ownBlock := fun j hj => own_far h.row hj
  have hb := h.box.kept hg.grow (hn _ (by omega))
  refine ⟨hb, ⟨hb.set 1 _, ?_, ?_, ?_⟩, own_others h.row hg.grow, fun j => World.cell?_of_block (w := W) (hg.grow.block S hS (fun e => h.far e.symm))⟩
  · have hr := hg.row
    have := own_set hr ⟨w0.heap.size, 1, none⟩ (.slice (some ⟨g5, 0, none⟩) (pre.length + 1) cap) (own_far hr (by simp))
    rw [List.length_append, List.length_singleton, List.map_append]
    exact this
  · exact (h.b.grown hg.grow h.b.size (fun j hj => by have := (ownBlock_ge h.row hj).1; omega)).setCell (by simp) _
  · intro e
    simp [Value.ownBlock] at e
    subst e
    rcases hg.at' with h1 | h1
    · exact h.far h1
    · omega
set_option maxRecDepth 100000 in
set_option maxHeartbeats 2000000 in
theorem grpMake (L y t g : Nat) (w : World) (hL : L < 24) (hy : y = 1 ∨ y = 2) (ht : 1 ≤ t ∧ t ≤ 8) (hN : onceT L y * t ≤ 96) (hx : BoxAt w g (grpV L y t) 32) :
    Calls Try.prog 24 #[.int .i64 ((L : Int) + 1), .slice (some ⟨g, 0, none⟩) 1 1] w fun e w' =>
      ∃ v, e = .returned (.tuple #[.agg #[.int .i64 ((L : Int) + 1), v], .int .i64 0, .int .i64 0]) ∧ w'.ownsRow w.heap.size 3 1 v (grpL L y t).length ((grpL L y t).map natV) ∧ Below w.heap.size w w' := by
  have hgl := hx.lt
  have HX := Lib.hid hx
  have HA := Lib.hid (areFrom_one 1 24 (w.heap.size + 1) 0 1 (L + 1) ((w.alloc (.cells #[.int .i64 0, .slice none 0 0] 26)).alloc (.cells #[.int .i64 ((L + 1 : Nat) : Int)] 3)) (by simp) (by omega) (by omega))
  have x0 := hx.cell' (v := .int .i64 0) 0 rfl
  have x1 := hx.cell' (v := .int .i64 (L : Int)) 1 rfl
  have x2 := hx.cell' (v := .int .i64 (y : Int)) 2 rfl
  have x3 := hx.cell' (v := .int .i64 (t : Int)) 3 rfl
  have hne : ¬ g = w.heap.size := by omega
  have hNp : 0 < (grpL L y t).length := by rw [grpL_len]; exact Nat.mul_pos (onceT_pos L y).1 ht.1
  have hNl : (grpL L y t).length ≤ 96 := by rw [grpL_len]; exact hN
  clear hx
  obtain ⟨nf, _⟩ : ∃ nf : Nat, nf = nf := ⟨3, rfl⟩
  refine (callsIn_wide (n := nf)).1 ?_
  refine callsIn_of_wp_marks Try.func24 rfl trivial ?_ rfl
  simp only [Try.ntmps24, List.size_toArray, List.length_cons, List.length_nil, Nat.reduceAdd, Nat.reduceSub, Array.replicate_succ, Array.replicate_zero, List.push_toArray, List.append_toArray, List.nil_append, List.cons_append]
  gi_wp2_with fail
  refine wideCall HA.out ?_
  rintro e w' ⟨rfl, rfl⟩
  gi_wp2_with fail
  refine wpIn_loop_rounds 2 ?_
  rw [roundsIn_succ]
  gi_wp2_with fail
  refine wideCall (grpIsOf L y t _ hL hy ht) ?_
  rintro e w1 ⟨rfl, hb⟩
  have hbx : BoxAt w1 (w.heap.size + 1 + 1) (grpV L y t) 32 := by
    have := BoxAt.next (BoxAt.new ((w.alloc (.cells #[.int .i64 ((L : Int) + 1), .slice none 0 0] 26)).alloc (.cells #[.int .i64 ((L : Int) + 1)] 3)) (grpV L y t) 32) hb
    rwa [World.size_alloc, World.size_alloc] at this
  have hrb : BoxAt w1 w.heap.size #[.int .i64 ((L : Int) + 1), .slice none 0 0] 26 :=
    BoxAt.below (BoxAt.new w #[.int .i64 ((L : Int) + 1), .slice none 0 0] 26) ((((Below.refl (w.heap.size + 1) _).alloc (by simp) (.cells #[.int .i64 ((L : Int) + 1)] 3)).alloc (by simp) (.cells (grpV L y t) 32)).trans (hb.mono (by simp))) (by omega)
  have hbw : Below w.heap.size w w1 := ((((Below.refl w.heap.size w).alloc (Nat.le_refl _) (.cells #[.int .i64 ((L : Int) + 1), .slice none 0 0] 26)).alloc (by simp) (.cells #[.int .i64 ((L : Int) + 1)] 3)).alloc (by simp; omega) (.cells (grpV L y t) 32)).trans (hb.mono (by simp; omega))
  have y0 := hbx.cell' (v := .int .i64 0) 0 rfl
  have y1 := hbx.cell' (v := .int .i64 (L : Int)) 1 rfl
  have y2 := hbx.cell' (v := .int .i64 (y : Int)) 2 rfl
  have y3 := hbx.cell' (v := .int .i64 (t : Int)) 3 rfl
  have hM0 : MgAt w ((L : Int) + 1) (w1.heap.size + 2) (.slice none 0 0) [] w1 := ⟨hrb, World.ownsRow_nil _ _ _ _, hbw, by simp [Value.ownBlock]⟩
  have HM0 := Lib.hid hM0
  have hz := hbx.lt
  clear hb hbx hrb hbw hM0 HA HX x0 x1 x2 x3
  gi_wp2_with fail
  refine rangeB (gf := 113) (rb := #[.agg (grpV L y t)]) rfl (enters_of Try.func113 (by kernel_rfl) rfl) (encs := fun x : Nat => #[.int .i64 (x : Int)]) (xs := grpL L y t) (B := w1.heap.size) (Nat.le_refl _) (fun _ => rfl)
    (grp_iter L y t _ _ hL hy ht)
    (fun pre W' => ∃ v, MgAt w ((L : Int) + 1) (w1.heap.size + 2) v pre W')
    ?stable ?start2
    (fun x a1 _ => a1 = { tmps := #[Value.int IntKind.i64 ((L : Int) + 1), Value.slice (some ⟨g, 0, none⟩) 1 1, undef, undef, Value.pointer (some ⟨w.heap.size, 0, none⟩), Value.int IntKind.i64 0, Value.int IntKind.i64 0, Value.int IntKind.i64 0, Value.pointer (some ⟨w.heap.size + 1 + 1, 0, none⟩), .int .i64 (x : Int), Value.int IntKind.i64 ((L : Int) + 1), Value.slice (some ⟨w.heap.size + 1, 0, none⟩) 1 1, Value.bool true, Value.bool false, undef, Value.slice (some ⟨g, 0, none⟩) 1 1, Value.int IntKind.i64 1, Value.bool false, undef, Value.slice (some ⟨g, 0, none⟩) 1 1, Value.int IntKind.i64 1, Value.bool false, undef, Value.int IntKind.i64 ((L : Int) + 1), Value.pointer (some ⟨w.heap.size, 0, none⟩), Value.slice (some ⟨g, 0, none⟩) 1 1, Value.int IntKind.i64 1, Value.int IntKind.i64 0, Value.bool true, Value.int IntKind.i64 0, Value.pointer (some ⟨g, 0, none⟩), Value.agg #[Value.int IntKind.i64 0, Value.int IntKind.i64 (L : Int), Value.int IntKind.i64 (y : Int), Value.int IntKind.i64 (t : Int)], Value.agg #[Value.int IntKind.i64 0, Value.int IntKind.i64 (L : Int), Value.int IntKind.i64 (y : Int), Value.int IntKind.i64 (t : Int)], Value.agg #[Value.int IntKind.i64 0, Value.int IntKind.i64 (L : Int), Value.int IntKind.i64 (y : Int), Value.int IntKind.i64 (t : Int)], Value.int IntKind.i64 ((L : Int) + 1), Value.bool true, Value.bool false, undef, undef, Value.agg #[Value.int IntKind.i64 0, Value.int IntKind.i64 (L : Int), Value.int IntKind.i64 (y : Int), Value.int IntKind.i64 (t : Int)], Value.agg #[Value.int IntKind.i64 0, Value.int IntKind.i64 (L : Int), Value.int IntKind.i64 (y : Int), Value.int IntKind.i64 (t : Int)], Value.func (Fn.func 113) #[Value.agg #[Value.int IntKind.i64 0, Value.int IntKind.i64 (L : Int), Value.int IntKind.i64 (y : Int), Value.int IntKind.i64 (t : Int)]] #[], .int .i64 (x : Int), undef, undef, undef, undef, undef, undef, undef, undef, undef, undef, undef, undef, undef, undef], defers := [] })
    ?stableA ?assign ?body ?done
  case stable =>
    rintro s A A' ⟨v, a1⟩ hc
    exact ⟨v, a1.calm hc (by omega)⟩
  case start2 => exact ⟨_, HM0.out⟩
  case stableA => exact fun _ _ _ _ h _ => h
  case assign =>
    intro l x W' K hK
    gi_wp2
    exact hK _ _ (Below.refl _ _) rfl
  case body =>
    rintro l pre x _ W' ⟨v, hf⟩ rfl hpre hsz
    have hlen : pre.length ≤ 96 := by have := prefix_len hpre; rw [grpL_len, List.length_append] at this; omega
    have b1 : W'.cell? ⟨w.heap.size, 1, none⟩ = some v := hf.box.cell' 1 rfl
    have HF := Lib.hid hf
    have hzz : w.heap.size < W'.heap.size := hf.box.lt
    clear hf HM0 y0 y1 y2 y3
    gi_wp2_with (gi_at_builtin; refine Shut.out ?_)
    unfold Shut
    refine app_oneIn elemInt rfl _ _ rfl (w.heap.size + 1) v pre.length (pre.map natV) #[.int .i64 (x : Int)] rfl HF.out.row rfl rfl (by simp [Value.oneCell']) (by omega) (by decide) (by omega) ?_
    intro g5 cap w5 hg
    obtain ⟨hbx, hM, hko, hkc⟩ := HF.out.grew hsz hg
    have f1 := hbx.frozen 1
    have c1 : w5.cell? ⟨w.heap.size, 1, none⟩ = some v := hbx.cell' 1 rfl
    have HM := Lib.hid hM
    have HK := Lib.hid (hko.trans (KeepsOthers.setCell w5 ⟨w.heap.size, 1, none⟩ (.slice (some ⟨g5, 0, none⟩) (pre.length + 1) cap)))
    have HC := Lib.hid hkc
    clear hg hM hbx hko hkc
    gi_wp2_with fail
    refine ⟨HK.out.from _, ⟨_, HM.out⟩, fun j => ?_⟩
    exact (World.cell?_of_block (w := w5) (Below.heap_setCell _ _ _ _ (by simp; omega))).trans (HC.out j)
  case done =>
    rintro W' hlt' ⟨v, hf⟩ hD
    obtain ⟨g5, cap, rfl⟩ : ∃ g5 cap, v = .slice (some ⟨g5, 0, none⟩) (grpL L y t).length cap := by
      exact row_slice hf.row hNp
    have b0 : W'.cell? ⟨w.heap.size, 0, none⟩ = some (.int .i64 ((L : Int) + 1)) := hf.box.cell' 0 rfl
    have b1 : W'.cell? ⟨w.heap.size, 1, none⟩ = some (.slice (some ⟨g5, 0, none⟩) (grpL L y t).length cap) := hf.box.cell' 1 rfl
    have f0 := hf.box.frozen 0
    have f1 := hf.box.frozen 1
    have HF := Lib.hid hf
    have hzz : w.heap.size < w1.heap.size := by omega
    clear hf HM0 y0 y1 y2 y3
    gi_wp2
    rw [roundsIn_succ]
    gi_wp2
    obtain ⟨X, hX⟩ : ∃ X, (W'.setCell ⟨w.heap.size, 0, none⟩ (.int .i64 ((L : Int) + 1))).setCell ⟨w.heap.size, 1, none⟩ (.slice (some ⟨g5, 0, none⟩) (grpL L y t).length cap) = X := ⟨_, rfl⟩
    have hKX : X.heap[w1.heap.size]? = some (.deferred (some [])) := by
      rw [← hX]
      exact ((KeepsOthers.setCell W' ⟨w.heap.size, 0, none⟩ (.int .i64 ((L : Int) + 1))).trans (KeepsOthers.setCell _ ⟨w.heap.size, 1, none⟩ (.slice (some ⟨g5, 0, none⟩) (grpL L y t).length cap))).same _ _ hD rfl
    have hBX : BoxAt X w.heap.size #[.int .i64 ((L : Int) + 1), .slice (some ⟨g5, 0, none⟩) (grpL L y t).length cap] 26 := by rw [← hX]; exact (HF.out.box.set 0 _).set 1 _
    have hbX : Below w.heap.size w X := by rw [← hX]; exact (HF.out.b.setCell (by simp) _).setCell (by simp) _
    have hrX : X.ownsRow w.heap.size 3 1 (.slice (some ⟨g5, 0, none⟩) (grpL L y t).length cap) (grpL L y t).length ((grpL L y t).map natV) := by
      rw [← hX]
      have h := HF.out.row
      have hn := own_far h (show w.heap.size < w.heap.size + 1 by omega)
      exact own_base (own_set (own_set h ⟨w.heap.size, 0, none⟩ _ hn) ⟨w.heap.size, 1, none⟩ _ hn) (by omega)
    rw [hX]
    refine leaves_marks (B := w.heap.size) (v := .tuple #[.agg #[.int .i64 ((L : Int) + 1), .slice (some ⟨g5, 0, none⟩) (grpL L y t).length cap], .int .i64 0, .int .i64 0]) [w1.heap.size] _ (fun D hD' => ?_) (by simp) fun w' hc => ⟨?_, _, rfl, own_calm hrX hc, hc.below hbX (Nat.le_refl _)⟩
    · obtain rfl : D = w1.heap.size := by simpa using hD'
      exact ⟨by omega, hKX⟩
    · have e0 := (hBX.calm hc).cell' (v := .int .i64 ((L : Int) + 1)) 0 rfl
      have e1 := (hBX.calm hc).cell' (v := .slice (some ⟨g5, 0, none⟩) (grpL L y t).length cap) 1 rfl
      simp [results, Try.f24, go_sem, e0, e1]
end Go.Proofs.Ytdmgffoikebgkaa
/- TopMirrored: point ties, their cloths and floats; the contracts that its walk uses. -/
namespace Go.Proofs.Ytdmgffoikebgkaa
open Go.RowKit Go.Shelf
attribute [local go_sem] Oper.semAt_some

/-- one point of a ring -/
def ringT (s p i : Nat) : Bool := bitN p (i % s)
def RunT (g : Nat → Bool) (v : Bool) (k : Nat) : Prop := ∃ f, ∀ j, j < k → g (f + j) = v
theorem bits_eqT {s p q : Nat} (hp : p < 2 ^ s) (hq : q < 2 ^ s) (h : ∀ j, j < s → bitN p j = bitN q j) : p = q := by
  refine Nat.eq_of_testBit_eq fun j => ?_
  by_cases hj : j < s
  · exact h j hj
  · rw [Nat.testBit_lt_two_pow (Nat.lt_of_lt_of_le hp (Nat.pow_le_pow_right (by decide) (by omega))), Nat.testBit_lt_two_pow (Nat.lt_of_lt_of_le hq (Nat.pow_le_pow_right (by decide) (by omega)))]
theorem alike_iffT {s p : Nat} (hs : 0 < s) (hp : p < 2 ^ s) : alikeB s p = true ↔ ∀ j, j < s → bitN p j = bitN p 0 := by
  have h2 : 0 < 2 ^ s := Nat.pow_pos (by decide)
  have h0 : ∀ j, bitN 0 j = false := fun j => by simp [bitN]
  have h1 : ∀ j, j < s → bitN (2 ^ s - 1) j = true := fun j hj => by simp [bitN, hj]
  constructor
  · intro h j hj
    unfold alikeB at h
    rw [Bool.or_eq_true, beq_iff_eq, beq_iff_eq] at h
    rcases h with rfl | rfl
    · rw [h0, h0]
    · rw [h1 j hj, h1 0 hs]
  · intro h
    unfold alikeB
    rw [Bool.or_eq_true, beq_iff_eq, beq_iff_eq]
    cases hv : bitN p 0 with
    | false => exact .inl (bits_eqT hp h2 fun j hj => by rw [h j hj, hv, h0])
    | true => exact .inr (bits_eqT hp (by omega) fun j hj => by rw [h j hj, hv, h1 j hj])
theorem leastT {P : Nat → Prop} (n : Nat) (h : P n) : ∃ o, o ≤ n ∧ P o ∧ ∀ i, i < o → ¬ P i := by
  induction n using Nat.strongRecOn with
  | ind n ih =>
    by_cases hex : ∃ i, i < n ∧ P i
    · obtain ⟨i, hi, hP⟩ := hex
      obtain ⟨o, h1, h2, h3⟩ := ih i hi hP
      exact ⟨o, by omega, h2, h3⟩
    · exact ⟨n, Nat.le_refl _, h, fun i hi hP => hex ⟨i, hi, hP⟩⟩
theorem mod_shiftT (s a b : Nat) : (a % s + b) % s = (a + b) % s := by rw [Nat.mod_add_mod]
/-- a run of a ring that is long enough, just if there is a window -/
theorem run_iffT {s p k : Nat} (v : Bool) (hs : 0 < s) (hs2 : s ≤ 1000) (hp : p < 2 ^ s) (hk : 1 ≤ k) :
    (∃ r, r ∈ runsOf s p ∧ r.lifted = v ∧ k ≤ r.length) ↔ (k ≤ 1000 ∧ RunT (ringT s p) v k) := by
  by_cases ha : alikeB s p = true
  · have hal := (alike_iffT hs hp).1 ha
    have e : runsOf s p = [⟨0, 1000, bitN p 0⟩] := by unfold runsOf; rw [if_pos ha]
    rw [e]
    constructor
    · rintro ⟨r, hr, h1, h2⟩
      simp at hr
      subst hr
      exact ⟨h2, 0, fun j _ => by unfold ringT; rw [hal _ (Nat.mod_lt _ hs)]; exact h1⟩
    · rintro ⟨h1, f, hf⟩
      refine ⟨_, List.mem_singleton.2 rfl, ?_, h1⟩
      have := hf 0 hk
      unfold ringT at this
      rw [hal _ (Nat.mod_lt _ hs)] at this
      exact this
  · have e : runsOf s p = runsTo s p s := by unfold runsOf; rw [if_neg ha]
    rw [e]
    constructor
    · rintro ⟨r, hr, h1, h2⟩
      obtain ⟨q1, q2, q3⟩ := runsTo_mem hr
      obtain ⟨⟨_, l2⟩, l3, _⟩ := lenF_spec hs q2 q1
      have hlen : r.length = lenF s p r.first := by rw [q3]
      have hlif : r.lifted = bitN p r.first := by rw [q3]
      refine ⟨by omega, r.first, fun j hj => ?_⟩
      unfold ringT
      by_cases h0 : j = 0
      · subst h0
        rw [Nat.add_zero, Nat.mod_eq_of_lt q1, ← hlif]; exact h1
      · rw [l3 j (by omega) (by omega), ← hlif]; exact h1
    · rintro ⟨_, f, hf⟩
      have hex : ∃ x, x < s ∧ bitN p x ≠ v := by
        refine Classical.byContradiction fun hne => ha ((alike_iffT hs hp).2 fun j hj => ?_)
        have hall : ∀ x, x < s → bitN p x = v := fun x hx => Classical.byContradiction fun h => hne ⟨x, hx, h⟩
        rw [hall j hj, hall 0 hs]
      obtain ⟨x, hx, hxv⟩ := hex
      -- walk back from the window
      have hP : ∃ t, ringT s p (f + s * (f + 1 + s) - 1 - t) ≠ v ∧ t < s := by
        let F := f + s * (f + 1 + s) - 1
        have hF : s * (f + 1 + s) ≥ s := Nat.le_mul_of_pos_right _ (by omega)
        by_cases h : x ≤ F % s
        · refine ⟨F % s - x, ?_, by have := Nat.mod_lt F hs; omega⟩
          have e1 : F - (F % s - x) = s * (F / s) + x := by have := Nat.div_add_mod F s; omega
          show ringT s p (F - (F % s - x)) ≠ v
          rw [e1]
          unfold ringT
          rw [Nat.mul_add_mod, Nat.mod_eq_of_lt hx]
          exact hxv
        · have hFs : s ≤ F := by
            have : s * (f + 1 + s) ≥ s + 1 := by
              have h3 : s * (f + 1 + s) = s * (f + s) + s := by rw [show f + 1 + s = (f + s) + 1 by omega, Nat.mul_succ]
              have h4 : s * (f + s) ≥ 1 := Nat.mul_pos hs (by omega)
              omega
            show s ≤ f + s * (f + 1 + s) - 1
            omega
          have hd : 1 ≤ F / s := (Nat.le_div_iff_mul_le hs).2 (by omega)
          refine ⟨F % s + s - x, ?_, by have := Nat.mod_lt F hs; omega⟩
          have h3 : s * (F / s) = s * (F / s - 1) + s := by rw [← Nat.mul_succ]; congr 1; omega
          have e1 : F - (F % s + s - x) = s * (F / s - 1) + x := by have := Nat.div_add_mod F s; omega
          show ringT s p (F - (F % s + s - x)) ≠ v
          rw [e1]
          unfold ringT
          rw [Nat.mul_add_mod, Nat.mod_eq_of_lt hx]
          exact hxv
      have hF : s * (f + 1 + s) ≥ s + 1 := by
        have h3 : s * (f + 1 + s) = s * (f + s) + s := by rw [show f + 1 + s = (f + s) + 1 by omega, Nat.mul_succ]
        have h4 : s * (f + s) ≥ 1 := Nat.mul_pos hs (by omega)
        omega
      have hXm : ∀ y, ringT s p (s * (f + 1 + s) + y) = ringT s p y := fun y => by unfold ringT; rw [Nat.mul_add_mod]
      obtain ⟨X, hX⟩ : ∃ X, s * (f + 1 + s) = X := ⟨_, rfl⟩
      rw [hX] at hP hF hXm
      clear hX
      obtain ⟨t0, ht0, hts⟩ := hP
      obtain ⟨t, htle, htv, htm⟩ := leastT (P := fun t => ringT s p (f + X - 1 - t) ≠ v) t0 ht0
      obtain ⟨B, hB⟩ : ∃ B, B = f + X - t := ⟨_, rfl⟩
      have hBs : 1 ≤ B := by omega
      have hBv : ringT s p (B - 1) ≠ v := by rw [hB, show f + X - t - 1 = f + X - 1 - t by omega]; exact htv
      have hrun : ∀ i, i < t + k → ringT s p (B + i) = v := fun i hi => by
        by_cases h : i < t
        · have := htm (t - 1 - i) (by omega)
          rw [Classical.not_not] at this
          have e1 : B + i = f + X - 1 - (t - 1 - i) := by omega
          rw [e1]
          exact this
        · have h1 := hf (i - t) (by omega)
          have e1 : B + i = X + (f + (i - t)) := by omega
          rw [e1, hXm]
          exact h1
      have hb0 : B % s < s := Nat.mod_lt _ hs
      have hv0 : bitN p (B % s) = v := by have := hrun 0 (by omega); unfold ringT at this; simpa using this
      have hbeg : begins s p (B % s) = true := by
        unfold begins
        rw [bne_iff_ne, hv0]
        have e1 : (B % s + s - 1) % s = (B - 1) % s := by
          rw [show B % s + s - 1 = B % s + (s - 1) by omega, mod_shiftT, show B + (s - 1) = (B - 1) + s by omega, Nat.add_mod_right]
        rw [e1]
        exact hBv
      obtain ⟨⟨l1, l2⟩, _, l4⟩ := lenF_spec hs hbeg hb0
      refine ⟨⟨B % s, lenF s p (B % s), bitN p (B % s)⟩, ?_, hv0, ?_⟩
      · unfold runsTo
        rw [List.mem_map]
        exact ⟨B % s, by rw [List.mem_filter]; exact ⟨by simpa using hb0, hbeg⟩, rfl⟩
      · show k ≤ lenF s p (B % s)
        refine Classical.byContradiction fun h => ?_
        have := hrun (lenF s p (B % s)) (by omega)
        unfold ringT at this
        rw [← mod_shiftT] at this
        exact l4 (this.trans hv0.symm)
theorem eq_of_leT {a b : Nat} (h : ∀ k, 1 ≤ k → (k ≤ a ↔ k ≤ b)) : a = b := by
  have h1 : a ≤ b := by
    by_cases h0 : a = 0
    · omega
    · exact (h a (by omega)).1 (Nat.le_refl _)
  have h2 : b ≤ a := by
    by_cases h0 : b = 0
    · omega
    · exact (h b (by omega)).2 (Nat.le_refl _)
  omega

theorem once_refl (M : Nat) : onceT M 2 = reflHooks (M + 1) := by
  unfold onceT reflHooks
  by_cases h : 1 < M
  · rw [if_pos ⟨rfl, h⟩, if_pos (by omega)]; omega
  · rw [if_neg (by simp [h]), if_neg (by omega)]
theorem once_two (M : Nat) : onceT M 2 = if 1 < M then 2 * M else M + 1 := by unfold onceT; simp
theorem once_str (K : Nat) (hK : 1 ≤ K) : onceT (K - 1) 1 = K := by unfold onceT; rw [if_neg (by simp)]; omega
theorem hook_str (K i : Nat) (hK : 1 ≤ K) : hookT (K - 1) 1 i = i % K := by
  unfold hookT; rw [once_str K hK]
  have := Nat.mod_lt i (show 0 < K by omega)
  omega
theorem grpL_nth (L y t i : Nat) (h : i < onceT L y * t) : nthN (grpL L y t) i = hookT L y i := by
  rw [nthN_get _ _ (by rw [grpL_len]; exact h)]; simp [grpL]
theorem grpL_lt (L y t i : Nat) (h : i < onceT L y * t) : nthN (grpL L y t) i < L + 1 := by
  rw [grpL_nth _ _ _ _ h]
  have h1 := onceT_back L y i
  unfold hookT
  omega
theorem bit_rowTo (f : Nat → Bool) (k j : Nat) : bitN (rowTo f k) j = (decide (j < k) && f j) := rowTo_bit f k j
theorem painted_nthT (g : Nat → Nat → Bool) (np nh i : Nat) (h : i < np) : nthN (painted g np nh) i = rowTo (g i) nh := by
  rw [nthN_get _ _ (by rw [painted_len]; exact h)]; simp [painted]
/-- the cloth of a point tie is that of the reflected design by a straight tie -/
theorem cloth_refl (M m : Nat) (xs : List Nat) : clothS (grpL (onceT M 2 - 1) 1 m) (painted (reflG xs (M + 1)) xs.length (reflHooks (M + 1))) = clothS (grpL M 2 m) xs := by
  have hK := onceT_pos M 2
  unfold clothS
  rw [painted_len]
  refine List.map_congr_left fun i hi => ?_
  have hi : i < xs.length := by simpa using hi
  rw [painted_nthT _ _ _ _ hi]
  unfold pickS clothL
  rw [grpL_len, grpL_len, once_str _ hK.1]
  congr 1
  refine List.map_congr_left fun j hj => ?_
  have hj : j < onceT M 2 * m := by simpa using hj
  unfold clothB
  rw [grpL_nth _ _ _ _ (by rw [once_str _ hK.1]; exact hj), grpL_nth _ _ _ _ hj, hook_str _ _ hK.1, bit_rowTo]
  have hr := Nat.mod_lt j (show 0 < onceT M 2 by omega)
  rw [show decide (j % onceT M 2 < reflHooks (M + 1)) = true by rw [← once_refl]; exact decide_eq_true hr, Bool.true_and]
  unfold reflG
  rw [← once_refl]
  have e : (if M + 1 ≤ j % onceT M 2 then onceT M 2 - j % onceT M 2 else j % onceT M 2) = hookT M 2 j := by
    unfold hookT
    have ho := once_two M
    obtain ⟨r, hre⟩ : ∃ r, j % onceT M 2 = r := ⟨_, rfl⟩
    rw [hre] at hr ⊢
    rw [ho] at hr ⊢
    split at hr <;> split <;> simp_all <;> omega
  rw [e]
/-- the tie is its own mirror -/
theorem hook_mir (M m k : Nat) (_hm : 1 ≤ m) (hk : k ≤ onceT M 2 * m) : hookT M 2 ((onceT M 2 * m - k) % (onceT M 2 * m)) = hookT M 2 k := by
  have ho := once_two M
  have hp := onceT_pos M 2
  obtain ⟨K, hK⟩ : ∃ K, onceT M 2 = K := ⟨_, rfl⟩
  unfold hookT
  rw [hK] at hk hp ho ⊢
  have h1 : (K * m - k) % (K * m) % K = (K * m - k) % K := Nat.mod_mod_of_dvd _ (Nat.dvd_mul_right K m)
  rw [h1]
  have hd := Nat.div_add_mod k K
  have hr := Nat.mod_lt k (show 0 < K by omega)
  obtain ⟨q, hq⟩ : ∃ q, k / K = q := ⟨_, rfl⟩
  obtain ⟨r, hre⟩ : ∃ r, k % K = r := ⟨_, rfl⟩
  rw [hq, hre] at hd
  rw [hre] at hr ⊢
  by_cases h0 : r = 0
  · have e : K * m - k = K * (m - q) := by rw [Nat.mul_sub]; omega
    rw [e, Nat.mul_mod_right, h0]
  · have hqm : q < m := by
      refine Classical.byContradiction fun h => ?_
      have : K * m ≤ K * q := Nat.mul_le_mul_left _ (by omega)
      omega
    have e : K * m - k = K * (m - q - 1) + (K - r) := by
      have h2 : K * m = K * (m - q - 1) + K * q + K := by
        have : m = (m - q - 1) + q + 1 := by omega
        calc K * m = K * ((m - q - 1) + q + 1) := by rw [← this]
          _ = K * (m - q - 1) + K * q + K := by rw [Nat.mul_add, Nat.mul_add, Nat.mul_one]
      omega
    rw [e, Nat.mul_add_mod, Nat.mod_eq_of_lt (show K - r < K by omega)]
    split at ho <;> omega
theorem mir_point (M m : Nat) (hm : 1 ≤ m) : mirAt (grpL M 2 m) 0 = true := by
  refine likeB_yes fun k hk => ?_
  rw [grpL_len] at hk
  unfold aroundN
  rw [grpL_len]
  have e : (((0 : Nat) : Int) - (k : Int) + ((onceT M 2 * m : Nat) : Int)).toNat = onceT M 2 * m - k := by omega
  rw [e, grpL_nth _ _ _ _ hk, grpL_nth _ _ _ _ (Nat.mod_lt _ (by omega)), hook_mir M m k hm (by omega)]

/-- the longest of some floats -/
def maxT (fs : List Fl) : Nat := fs.foldl (fun a f => max a f.length) 0
theorem maxT_snoc (fs : List Fl) (f : Fl) : maxT (fs ++ [f]) = max (maxT fs) f.length := by unfold maxT; rw [List.foldl_append]; rfl
theorem maxT_iff (k : Nat) (hk : 1 ≤ k) (fs : List Fl) : k ≤ maxT fs ↔ ∃ f, f ∈ fs ∧ k ≤ f.length := by
  have key : ∀ (fs : List Fl) (m : Nat), k ≤ fs.foldl (fun a f => max a f.length) m ↔ (k ≤ m ∨ ∃ f, f ∈ fs ∧ k ≤ f.length) := by
    intro fs
    induction fs with
    | nil => intro m; simp
    | cons x fs ih =>
      intro m
      rw [List.foldl_cons, ih]
      constructor
      · rintro (h | ⟨f, h1, h2⟩)
        · by_cases h3 : k ≤ m
          · exact .inl h3
          · exact .inr ⟨x, by simp, by omega⟩
        · exact .inr ⟨f, by simp [h1], h2⟩
      · rintro (h | ⟨f, h1, h3⟩)
        · exact .inl (by omega)
        · rcases List.mem_cons.1 h1 with rfl | h1
          · exact .inl (by omega)
          · exact .inr ⟨f, h1, h3⟩
  unfold maxT
  rw [key fs 0]
  constructor
  · rintro (h | h)
    · omega
    · exact h
  · exact .inr
theorem max_floats (hs xs : List Nat) (L k : Nat) (hk : 1 ≤ k) (h0 : 1 ≤ hs.length) (h1 : hs.length ≤ 1000) :
    k ≤ maxT (upTo (flO hs xs 1) L) ↔ ∃ i v, i < L ∧ max k 2 ≤ 1000 ∧ RunT (ringT hs.length (pickP hs (nthN xs i))) v (max k 2) := by
  rw [maxT_iff k hk]
  have hb : ∀ i, pickP hs (nthN xs i) < 2 ^ hs.length := fun i => rowTo_lt _ _
  constructor
  · rintro ⟨f, hf, hkf⟩
    obtain ⟨i, hi, hf⟩ := upTo_mem hf
    unfold flO flT at hf
    rw [List.mem_filter, List.mem_map] at hf
    obtain ⟨⟨r, hr, rfl⟩, hlt⟩ := hf
    have hlt : 1 < r.length := of_decide_eq_true hlt
    have hkr : k ≤ r.length := hkf
    have := (run_iffT (k := max k 2) r.lifted (by omega) h1 (hb i) (by omega)).1 ⟨r, hr, rfl, by omega⟩
    exact ⟨i, r.lifted, hi, this.1, this.2⟩
  · rintro ⟨i, v, hi, h3, h4⟩
    obtain ⟨r, hr, _, h5⟩ := (run_iffT (k := max k 2) v (by omega) h1 (hb i) (by omega)).2 ⟨h3, h4⟩
    refine ⟨flR i r, ?_, by show k ≤ r.length; omega⟩
    unfold upTo
    rw [List.mem_flatMap]
    refine ⟨i, by simpa using hi, ?_⟩
    unfold flO flT
    rw [List.mem_filter, List.mem_map]
    exact ⟨⟨r, hr, rfl⟩, decide_eq_true (show 1 < r.length by omega)⟩
theorem ring_twice (hs : List Nat) (row i : Nat) (h0 : 1 ≤ hs.length) : ringT (hs ++ hs).length (pickP (hs ++ hs) row) i = ringT hs.length (pickP hs row) i := by
  unfold ringT
  have hl : (hs ++ hs).length = hs.length + hs.length := List.length_append
  have h1 := Nat.mod_lt i (show 0 < (hs ++ hs).length by omega)
  rw [pickP_bit _ _ _ h1, pickP_bit _ _ _ (Nat.mod_lt _ (by omega))]
  have h2 : i % hs.length = (i % (hs ++ hs).length) % hs.length := by
    rw [hl, show hs.length + hs.length = hs.length * 2 by omega, Nat.mod_mul_right_mod]
  rw [h2]
  obtain ⟨j, hj⟩ : ∃ j, i % (hs ++ hs).length = j := ⟨_, rfl⟩
  rw [hj] at h1 ⊢
  congr 1
  unfold nthN
  by_cases h : j < hs.length
  · rw [List.getElem?_append_left h, Nat.mod_eq_of_lt h]
  · rw [List.getElem?_append_right (by omega)]
    have e : j % hs.length = j - hs.length := by rw [Nat.mod_eq_sub_mod (by omega), Nat.mod_eq_of_lt (by omega)]
    rw [e]
/-- beside itself it has the same longest float -/
theorem max_twice (hs xs : List Nat) (L : Nat) (h0 : 1 ≤ hs.length) (h1 : hs.length ≤ 96) : maxT (upTo (flO (hs ++ hs) xs 1) L) = maxT (upTo (flO hs xs 1) L) := by
  refine eq_of_leT fun k hk => ?_
  have hl : (hs ++ hs).length = hs.length + hs.length := List.length_append
  rw [max_floats _ _ _ _ hk (by omega) (by omega), max_floats _ _ _ _ hk h0 (by omega)]
  have e : ∀ i, ringT (hs ++ hs).length (pickP (hs ++ hs) (nthN xs i)) = ringT hs.length (pickP hs (nthN xs i)) := fun i => funext fun j => ring_twice hs _ j h0
  simp only [e]

/-- floats in memory that are read -/
def FlP (W : World) (p : Option Addr) (fs : List Fl) : Prop := 0 < fs.length → ∃ g, p = some ⟨g, 0, none⟩ ∧ FlsAt W g fs
theorem FlP.next {W W' : World} {p : Option Addr} {fs : List Fl} (h : FlP W p fs) (hb : Below W.heap.size W W') : FlP W' p fs := fun h0 => by
  obtain ⟨g, e, hf⟩ := h h0
  exact ⟨g, e, hf.below hb hf.lt⟩
theorem FlP.far {W W' : World} {p : Option Addr} {fs : List Fl} {B : Nat} (h : FlP W p fs) (hB : SetAt B W W') (hne : ∀ a, p = some a → a.block ≠ B) : FlP W' p fs := fun h0 => by
  obtain ⟨g, rfl, hf⟩ := h h0
  have hg : g ≠ B := hne _ rfl
  have hc : ∀ j, W'.cell? ⟨g, j, none⟩ = W.cell? ⟨g, j, none⟩ := fun j => World.cell?_of_block (w := W) (hB.other g hg)
  exact ⟨g, rfl, ⟨fun i hi => (hc _).trans (hf.c0 i hi), fun i hi => (hc _).trans (hf.c1 i hi), fun i hi => (hc _).trans (hf.c2 i hi), fun i hi => (hc _).trans (hf.c3 i hi), by rw [hB.size]; exact hf.lt⟩⟩
/-- a row of floats of the region's own -/
def memFls (fs : List Fl) : Mem := ⟨fun h W => FlP W h.p fs, fun h => match h.p with | some a => [a.block] | none => [], fun _ _ _ h hb => h.next hb, fun h _ _ B hp hn hB => hp.far hB fun a e => by
  rw [e] at hn
  intro e2
  exact hn (by simp [e2])⟩
/-- a row of picks of the region's own -/
def memStrs (ss : List ByteArray) : Mem := ⟨fun h W => StrsAt W h.b 0 ss ∧ h.b < W.heap.size, fun h => [h.b], fun _ _ _ ⟨h, l⟩ hb => ⟨h.below hb l, Nat.lt_of_lt_of_le l hb.size⟩, fun h W _ B ⟨hp, l⟩ hn hB => ⟨fun i hi => (World.cell?_of_block (w := W) (hB.other h.b (fun e => hn (by simp [e])))).trans (hp i hi), by rw [hB.size]; exact l⟩⟩
theorem call24g (N M y m T g : Nat) (w : World) (hN : N = M + 1) (hM : M < 24) (hy : y = 1 ∨ y = 2) (hm : 1 ≤ m ∧ m ≤ 8) (hT : onceT M y * m = T) (hT2 : T ≤ 96) (hx : BoxAt w g (grpV M y m) 32) :
    Calls Try.prog 24 #[.int .i64 (N : Int), .slice (some ⟨g, 0, none⟩) 1 1] w fun e w' =>
      ∃ g' cap, e = .returned (.tuple #[.agg #[.int .i64 (N : Int), .slice (some ⟨g', 0, none⟩) T cap], .int .i64 0, .int .i64 0]) ∧ NatsAt w' g' 0 (grpL M y m) ∧ w.heap.size ≤ g' ∧ g' < w'.heap.size ∧ Below w.heap.size w w' := by
  subst hN hT
  have hc : ((M + 1 : Nat) : Int) = (M : Int) + 1 := by omega
  have hp := onceT_pos M y
  rw [hc]
  refine (grpMake M y m g w hM hy hm hT2 hx).mono ?_
  rintro e w' ⟨v, rfl, h1, h2⟩
  have h0 : 0 < (grpL M y m).length := by rw [grpL_len]; exact Nat.mul_pos hp.1 hm.1
  obtain ⟨g', cap, rfl⟩ := row_slice h1 h0
  obtain ⟨a, b, d⟩ := nats_of_row h1 h0
  rw [grpL_len]
  exact ⟨g', cap, rfl, a, d, b, h2⟩
theorem call74 (n L b c R : Nat) (xs : List Nat) (W : World) (hL : xs.length = L) (hv : Valid n xs) (hR : reflHooks n = R) (hR2 : R ≤ 24) (hx : NatsAt W b 0 xs) (hb : b < W.heap.size) :
    Calls Try.prog 74 #[.agg #[.int .i64 (n : Int), .slice (some ⟨b, 0, none⟩) L c]] W fun e w' =>
      ∃ g cap, e = .returned (.tuple #[.agg #[.int .i64 (R : Int), .slice (some ⟨g, 0, none⟩) L cap], .int .i64 0]) ∧ NatsAt w' g 0 (painted (reflG xs n) L R) ∧ W.heap.size ≤ g ∧ g < w'.heap.size ∧ Below W.heap.size W w' := by
  subst hL hR
  refine (Reflect_ok n b 0 c xs W ⟨hx, hb, hv⟩ hR2).mono ?_
  rintro e w' ⟨r, rfl, h1, h2, h3⟩
  rw [painted_len]
  exact ⟨r, _, rfl, h2.nats, h1, h2.lt, h3⟩
theorem call32 (n M m T b c : Nat) (W : World) (hm : 1 ≤ m) (hT : onceT M 2 * m = T) (hv : TAt W b 0 n (grpL M 2 m)) :
    Calls Try.prog 32 #[.agg #[.int .i64 (n : Int), .slice (some ⟨b, 0, none⟩) T c]] W fun e w' => e = .returned (.tuple #[.int .i64 0, .int .i64 0]) ∧ Below W.heap.size W w' := by
  subst hT
  have h := Mirrors_ok n b 0 c (grpL M 2 m) W hv
  rw [grpL_len] at h
  refine h.mono ?_
  rintro e w' ⟨h1, h2⟩
  refine ⟨?_, h2⟩
  have hm0 := mir_point M m hm
  have h0 := hv.l0
  rcases h1 with ⟨s, _, _, hl, rfl⟩ | ⟨hl, _⟩
  · by_cases hs : s = 0
    · rw [hs]; rfl
    · rw [hl 0 (by omega)] at hm0; cases hm0
  · rw [hl 0 (by omega)] at hm0; cases hm0
theorem call30 (n T T2 b c b2 c2 : Nat) (hs : List Nat) (W : World) (hT : hs.length = T) (hT2 : T + T = T2) (hl : T2 ≤ 96) (hv : TAt W b 0 n hs) (hv2 : TAt W b2 0 n hs) :
    Calls Try.prog 30 #[.agg #[.int .i64 (n : Int), .slice (some ⟨b, 0, none⟩) T c], .agg #[.int .i64 (n : Int), .slice (some ⟨b2, 0, none⟩) T c2]] W fun e w' =>
      ∃ g cap, e = .returned (.tuple #[.agg #[.int .i64 (n : Int), .slice (some ⟨g, 0, none⟩) T2 cap], .int .i64 0]) ∧ NatsAt w' g 0 (hs ++ hs) ∧ W.heap.size ≤ g ∧ g < w'.heap.size ∧ Below W.heap.size W w' := by
  subst hT hT2
  exact Beside_ok26 n b 0 c b2 0 c2 hs hs W hv hv2 hl
theorem call39 (n T L F b c b2 c2 : Nat) (hs xs : List Nat) (W : World) (hT : hs.length = T) (hL : xs.length = L) (hF : (upTo (flO hs xs 1) L).length = F) (hv : TAt W b 0 n hs) (hx : VAt W b2 0 c2 n xs) :
    Calls Try.prog 39 #[.agg #[.int .i64 (n : Int), .slice (some ⟨b, 0, none⟩) T c], .agg #[.int .i64 (n : Int), .slice (some ⟨b2, 0, none⟩) L c2], .int .i64 1] W fun e w' =>
      ∃ p cap, e = .returned (.tuple #[.slice p F cap, .int .i64 0]) ∧ FlP w' p (upTo (flO hs xs 1) L) ∧ (∀ a, p = some a → W.heap.size ≤ a.block ∧ a.block < w'.heap.size) ∧ Below W.heap.size W w' := by
  subst hT hL hF
  refine (tieFloats_ok n b 0 c b2 0 c2 1 hs xs W hv hx (by omega)).mono ?_
  rintro e w' ⟨v, rfl, h1, h2⟩
  obtain ⟨p, cap, rfl, hf⟩ := Fls.of_row h1
  refine ⟨p, cap, rfl, hf, fun a e => ?_, h2⟩
  subst e
  exact ownBlock_ge h1 (show (Value.slice (some a) _ cap).ownBlock = some a.block from rfl)
theorem bd_fls {fs : List Fl} {p : Option Addr} {c A B : Nat} (h : ∀ a, p = some a → A ≤ a.block ∧ a.block < B) : ∀ b ∈ (memFls fs).bl ⟨0, c, 0, 0, p⟩, A ≤ b ∧ b < B := fun b hb => by
  cases p with
  | none => cases hb
  | some a =>
    have hb2 : b ∈ [a.block] := hb
    rw [List.mem_singleton] at hb2
    subst hb2
    exact h a rfl
end Go.Proofs.Ytdmgffoikebgkaa
/- TopMirrored: its regions that draw their order. -/
namespace Go.Proofs.Ytdmgffoikebgkaa
open Go.RowKit Go.Shelf
attribute [local go_sem] Oper.semAt_some

def region_tm7U : List (List Nat) := [[], [1], [], [3], [1, 3, 4], [1, 3, 4], [1, 3, 4], [1, 3, 4], [1, 3, 4], [1, 3, 4]]
def region_tm7X (N L g2 q2 g6 q6 T : Nat) : Nat → (Nat → Hd) → Value
  | 0, _ => .agg #[.int .i64 (N : Int), .slice (some ⟨g6, 0, none⟩) T q6]
  | 1, hds => .agg #[.int .i64 (N : Int), .slice (some ⟨(hds 1).b, 0, none⟩) T (hds 1).c]
  | 2, _ => .agg #[.int .i64 (N : Int), .slice (some ⟨g2, 0, none⟩) L q2]
  | 3, hds => .agg #[.int .i64 (N : Int), .slice (some ⟨(hds 3).b, 0, none⟩) L (hds 3).c]
  | 4, hds => .tuple #[.slice (some ⟨(hds 4).b, 0, none⟩) L (hds 4).c, .int .i64 0]
  | 5, hds => .tuple #[.slice (some ⟨(hds 4).b, 0, none⟩) L (hds 4).c, .int .i64 0]
  | 6, hds => .slice (some ⟨(hds 4).b, 0, none⟩) L (hds 4).c
  | 7, _ => .int .i64 0
  | 8, hds => .slice (some ⟨(hds 4).b, 0, none⟩) L (hds 4).c
  | 9, _ => .int .i64 0
  | _ + 10, _ => undef
theorem region_tm7X.congr (N L g2 q2 g6 q6 T : Nat) : ∀ i hds hds', (∀ r ∈ uOf region_tm7U i, hds r = hds' r) → region_tm7X N L g2 q2 g6 q6 T i hds = region_tm7X N L g2 q2 g6 q6 T i hds'
  | 0, _, _, _ => rfl
  | 1, hds, hds', h => by simp only [region_tm7X, h 1 (show 1 ∈ uOf region_tm7U 1 by decide)]
  | 2, _, _, _ => rfl
  | 3, hds, hds', h => by simp only [region_tm7X, h 3 (show 3 ∈ uOf region_tm7U 3 by decide)]
  | 4, hds, hds', h => by simp only [region_tm7X, h 4 (show 4 ∈ uOf region_tm7U 4 by decide)]
  | 5, hds, hds', h => by simp only [region_tm7X, h 4 (show 4 ∈ uOf region_tm7U 5 by decide)]
  | 6, hds, hds', h => by simp only [region_tm7X, h 4 (show 4 ∈ uOf region_tm7U 6 by decide)]
  | 7, _, _, _ => rfl
  | 8, hds, hds', h => by simp only [region_tm7X, h 4 (show 4 ∈ uOf region_tm7U 8 by decide)]
  | 9, _, _, _ => rfl
  | _ + 10, _, _, _ => rfl
def region_tm7M (DS HS : List Nat) : Nat → Mem
  | 1 => memNats HS
  | 3 => memNats DS
  | 4 => memStrs (clothS HS DS)
  | _ => memNone
def region_tm7S  : Nat → Option Sto
  | _ => none
set_option maxRecDepth 8000 in
set_option maxHeartbeats 2000000 in
theorem region_tm7 {id : Nat} {ops : Array Oper} {Q : Exit → Act → World → Prop} {a : Act} {w : World} (N L g2 q2 D g6 q6 E T : Nat) (DS HS : List Nat) (hDl : DS.length = L) (hVd : Valid N DS) (hn2 : NatsAt w g2 0 DS) (hg2 : g2 < w.heap.size) (hTl : HS.length = T) (hT0 : 1 ≤ T) (hT1 : T ≤ 96) (_hTA : ∀ W b, NatsAt W b 0 HS → b < W.heap.size → TAt W b 0 N HS) (hn6 : NatsAt w g6 0 HS) (hg6 : g6 < w.heap.size) (hk : ∀ i, i < T → nthN HS i < N) (hD : BoxAt w D #[.int .i64 (N : Int), .slice (some ⟨g2, 0, none⟩) L q2] 37) (hE : BoxAt w E #[.int .i64 (N : Int), .slice (some ⟨g6, 0, none⟩) T q6] 26)
    (gsize : ops.size = 10)
    (gops : IsOp ops 0 (some 89) (.load 26 (.tmp 6)) none [] ∧ IsOp ops 1 (some 90) (.call { callee := .value (.func 100), args := #[.tmp 89], argTypes := #[26] }) none [0] ∧ IsOp ops 2 (some 91) (.load 37 (.tmp 5)) none [] ∧ IsOp ops 3 (some 92) (.call { callee := .value (.func 96), args := #[.tmp 91], argTypes := #[37] }) none [2] ∧ IsOp ops 4 (some 93) (.call { callee := .value (.func 38), args := #[.tmp 90, .tmp 92], argTypes := #[26, 37] }) none [1, 3] ∧ IsOp ops 5 (some 88) (.move (.tmp 93)) none [4] ∧ IsOp ops 6 (some 94) (.extract (.tmp 88) 0) none [5] ∧ IsOp ops 7 (some 95) (.extract (.tmp 88) 1) none [5] ∧ IsOp ops 8 (some 14) (.assign (.tmp 94)) none [6] ∧ IsOp ops 9 (some 15) (.assign (.tmp 95)) none [7])
    (gbk : backB ops = true) (gds : dstsB ops (dOf [some 89, some 90, some 91, some 92, some 93, some 88, some 94, some 95, some 14, some 15]) = true) (gus : useB ops (uOf region_tm7U) (kOf [0, 1, 0, 1, 1, 0, 0, 0, 0, 0]) = true) (ggd : plainB ops = true) (gsz : ∀ e ∈ [89, 90, 91, 92, 93, 88, 94, 95, 14, 15], e < a.tmps.size)
    (gout : a.eval (.tmp 6) = .pointer (some ⟨E, 0, none⟩) ∧ a.eval (.tmp 5) = .pointer (some ⟨D, 0, none⟩))
    (gend : ∀ (g90 q90 G90 Q90 g92 q92 G92 Q92 g93 q93 G93 Q93 : Nat) (P90 P92 P93 : Option Addr) (u89 u90 u91 u92 u93 u88 u94 u95 : Value) (W : World), Below w.heap.size w W → (memNats HS).P ⟨g90, q90, G90, Q90, P90⟩ W → (∀ b ∈ (memNats HS).bl ⟨g90, q90, G90, Q90, P90⟩, w.heap.size ≤ b ∧ b < W.heap.size) → (memNats DS).P ⟨g92, q92, G92, Q92, P92⟩ W → (∀ b ∈ (memNats DS).bl ⟨g92, q92, G92, Q92, P92⟩, w.heap.size ≤ b ∧ b < W.heap.size) → (memStrs (clothS HS DS)).P ⟨g93, q93, G93, Q93, P93⟩ W → (∀ b ∈ (memStrs (clothS HS DS)).bl ⟨g93, q93, G93, Q93, P93⟩, w.heap.size ≤ b ∧ b < W.heap.size) → Q .normal (putL a [(89, u89), (90, u90), (91, u91), (92, u92), (93, u93), (88, u88), (94, u94), (95, u95), (14, .slice (some ⟨g93, 0, none⟩) L q93), (15, .int .i64 0)]) W) :
    (Code.region id ops true).wp Try.prog Q a w := by
  obtain ⟨iop0, iop1, iop2, iop3, iop4, iop5, iop6, iop7, iop8, iop9⟩ := gops
  obtain ⟨o6, o5⟩ := gout
  refine region_all (RSp.of 10 [some 89, some 90, some 91, some 92, some 93, some 88, some 94, some 95, some 14, some 15] (fun _ => true) (region_tm7X N L g2 q2 g6 q6 T) region_tm7U [0, 1, 0, 1, 1, 0, 0, 0, 0, 0] (region_tm7M DS HS) (region_tm7S )) [(6, .pointer (some ⟨E, 0, none⟩)), (5, .pointer (some ⟨D, 0, none⟩))] [89, 90, 91, 92, 93, 88, 94, 95, 14, 15] (RSp.of_fit gsize.symm gbk gds gus ggd (by decide) ?_) (RSp.of_ok _ (region_tm7X.congr N L g2 q2 g6 q6 T) ?_) gsz ?_ ?_ ?_
  · intro p hp
    have hp2 : p ∈ ([] : List (Nat × Nat)) := hp
    cases hp2
  · intro i s hds
    match i, hds with
    | 0, hds => cases hds
    | 1, hds => cases hds
    | 2, hds => cases hds
    | 3, hds => cases hds
    | 4, hds => cases hds
    | 5, hds => cases hds
    | 6, hds => cases hds
    | 7, hds => cases hds
    | 8, hds => cases hds
    | 9, hds => cases hds
    | _ + 10, hds => cases hds
  · intro q hq
    simp only [List.mem_cons, List.not_mem_nil, or_false] at hq
    rcases hq with rfl | rfl
    · exact ⟨o6, by simp⟩
    · exact ⟨o5, by simp⟩
  · intro i o ho _
    have hi : i < 10 := by rw [← gsize]; exact (Array.getElem?_eq_some_iff.1 ho).1
    match i, hi with
    | 0, _ =>
      obtain ⟨ty, pos, aft, e, hdp⟩ := iop0
      rw [e] at ho
      obtain rfl := Option.some.inj ho
      intro a' hds W K hB lq ld hmem hK
      have e6 : a'.eval (.tmp 6) = .pointer (some ⟨E, 0, none⟩) := by rw [eval_tmp]; exact lq (6, .pointer (some ⟨E, 0, none⟩)) (by simp)
      have HK := Lib.hid (show K (a'.put (some 89) (.agg #[.int .i64 (N : Int), .slice (some ⟨g6, 0, none⟩) T q6])) W from hK W (Below.refl _ _) trivial)
      clear hK ld lq hmem
      have c0 := (hE.next hB).cell' 0 rfl
      have c1 := (hE.next hB).cell' 1 rfl
      unfold Oper.wp
      simp only [execOp, e6]
      go_simp
      exact HK.out
    | 1, _ =>
      obtain ⟨ty, pos, aft, e, hdp⟩ := iop1
      rw [e] at ho
      obtain rfl := Option.some.inj ho
      intro a' hds W K hB lq ld hmem hK
      have e89 : a'.eval (.tmp 89) = .agg #[.int .i64 (N : Int), .slice (some ⟨g6, 0, none⟩) T q6] := by rw [eval_tmp]; exact ld 0 89 (List.all_eq_true.1 hdp 0 (by decide)) rfl
      have HK := Lib.hid (show ∀ hh W', Below W.heap.size W W' → (memNats HS).P hh W' → (∀ b ∈ (memNats HS).bl hh, W.heap.size ≤ b ∧ b < W'.heap.size) → K (a'.put (some 90) (.agg #[.int .i64 (N : Int), .slice (some ⟨hh.b, 0, none⟩) T hh.c])) W' from fun hh W' h1 h2 h3 => by
        have h4 : K (a'.put (some 90) (region_tm7X N L g2 q2 g6 q6 T 1 (updH hds 1 hh))) W' := hK hh W' h1 h2 h3 trivial
        simp only [region_tm7X, updH_same] at h4
        exact h4)
      clear hK ld lq hmem
      refine step_call (vals := #[.agg #[.int .i64 (N : Int), .slice (some ⟨g6, 0, none⟩) T q6]]) (by exact ⟨_, _, Try.func100, by kernel_rfl, rfl⟩) (by simp only [List.map_toArray, List.map_cons, List.map_nil, e89]) (call100 N T g6 q6 HS W hTl hT0 hT1 (hn6.below hB hg6) (Nat.lt_of_lt_of_le hg6 hB.size)) ?_
      rintro e w' ⟨g, cap, rfl, hn, hl, hg, hb'⟩
      exact ⟨_, rfl, HK.out ⟨g, cap, 0, 0, none⟩ _ hb' ⟨hn, hg⟩ (bd_one hl hg)⟩
    | 2, _ =>
      obtain ⟨ty, pos, aft, e, hdp⟩ := iop2
      rw [e] at ho
      obtain rfl := Option.some.inj ho
      intro a' hds W K hB lq ld hmem hK
      have e5 : a'.eval (.tmp 5) = .pointer (some ⟨D, 0, none⟩) := by rw [eval_tmp]; exact lq (5, .pointer (some ⟨D, 0, none⟩)) (by simp)
      have HK := Lib.hid (show K (a'.put (some 91) (.agg #[.int .i64 (N : Int), .slice (some ⟨g2, 0, none⟩) L q2])) W from hK W (Below.refl _ _) trivial)
      clear hK ld lq hmem
      have c0 := (hD.next hB).cell' 0 rfl
      have c1 := (hD.next hB).cell' 1 rfl
      unfold Oper.wp
      simp only [execOp, e5]
      go_simp
      exact HK.out
    | 3, _ =>
      obtain ⟨ty, pos, aft, e, hdp⟩ := iop3
      rw [e] at ho
      obtain rfl := Option.some.inj ho
      intro a' hds W K hB lq ld hmem hK
      have e91 : a'.eval (.tmp 91) = .agg #[.int .i64 (N : Int), .slice (some ⟨g2, 0, none⟩) L q2] := by rw [eval_tmp]; exact ld 2 91 (List.all_eq_true.1 hdp 2 (by decide)) rfl
      have HK := Lib.hid (show ∀ hh W', Below W.heap.size W W' → (memNats DS).P hh W' → (∀ b ∈ (memNats DS).bl hh, W.heap.size ≤ b ∧ b < W'.heap.size) → K (a'.put (some 92) (.agg #[.int .i64 (N : Int), .slice (some ⟨hh.b, 0, none⟩) L hh.c])) W' from fun hh W' h1 h2 h3 => by
        have h4 : K (a'.put (some 92) (region_tm7X N L g2 q2 g6 q6 T 3 (updH hds 3 hh))) W' := hK hh W' h1 h2 h3 trivial
        simp only [region_tm7X, updH_same] at h4
        exact h4)
      clear hK ld lq hmem
      refine step_call (vals := #[.agg #[.int .i64 (N : Int), .slice (some ⟨g2, 0, none⟩) L q2]]) (by exact ⟨_, _, Try.func96, by kernel_rfl, rfl⟩) (by simp only [List.map_toArray, List.map_cons, List.map_nil, e91]) (call96 N L g2 q2 DS W hDl hVd (hn2.below hB hg2) (Nat.lt_of_lt_of_le hg2 hB.size)) ?_
      rintro e w' ⟨g, cap, rfl, hn, hl, hg, hb'⟩
      exact ⟨_, rfl, HK.out ⟨g, cap, 0, 0, none⟩ _ hb' ⟨hn, hg⟩ (bd_one hl hg)⟩
    | 4, _ =>
      obtain ⟨ty, pos, aft, e, hdp⟩ := iop4
      rw [e] at ho
      obtain rfl := Option.some.inj ho
      intro a' hds W K hB lq ld hmem hK
      have e90 : a'.eval (.tmp 90) = .agg #[.int .i64 (N : Int), .slice (some ⟨(hds 1).b, 0, none⟩) T (hds 1).c] := by rw [eval_tmp]; exact ld 1 90 (List.all_eq_true.1 hdp 1 (by decide)) rfl
      have e92 : a'.eval (.tmp 92) = .agg #[.int .i64 (N : Int), .slice (some ⟨(hds 3).b, 0, none⟩) L (hds 3).c] := by rw [eval_tmp]; exact ld 3 92 (List.all_eq_true.1 hdp 3 (by decide)) rfl
      have HK := Lib.hid (show ∀ hh W', Below W.heap.size W W' → (memStrs (clothS HS DS)).P hh W' → (∀ b ∈ (memStrs (clothS HS DS)).bl hh, W.heap.size ≤ b ∧ b < W'.heap.size) → K (a'.put (some 93) (.tuple #[.slice (some ⟨hh.b, 0, none⟩) L hh.c, .int .i64 0])) W' from fun hh W' h1 h2 h3 => by
        have h4 : K (a'.put (some 93) (region_tm7X N L g2 q2 g6 q6 T 4 (updH hds 4 hh))) W' := hK hh W' h1 h2 h3 trivial
        simp only [region_tm7X, updH_same] at h4
        exact h4)
      have m90   := (hmem 1 (show 1 ∈ uOf region_tm7U 4 by decide) (by decide)).1
      have m92   := (hmem 3 (show 3 ∈ uOf region_tm7U 4 by decide) (by decide)).1
      clear hK ld lq hmem
      refine step_call (vals := #[.agg #[.int .i64 (N : Int), .slice (some ⟨(hds 1).b, 0, none⟩) T (hds 1).c], .agg #[.int .i64 (N : Int), .slice (some ⟨(hds 3).b, 0, none⟩) L (hds 3).c]]) (by exact ⟨_, _, Try.func38, by kernel_rfl, rfl⟩) (by simp only [List.map_toArray, List.map_cons, List.map_nil, e90, e92]) (call38 N T L (hds 1).b (hds 1).c (hds 3).b (hds 3).c HS DS W hTl hDl hT0 hT1 hk hVd m90.1 m90.2 m92.1 m92.2) ?_
      rintro e w' ⟨g, cap, rfl, hn, hl, hg, hb'⟩
      exact ⟨_, rfl, HK.out ⟨g, cap, 0, 0, none⟩ _ hb' ⟨hn, hg⟩ (bd_one hl hg)⟩
    | 5, _ =>
      obtain ⟨ty, pos, aft, e, hdp⟩ := iop5
      rw [e] at ho
      obtain rfl := Option.some.inj ho
      intro a' hds W K hB lq ld hmem hK
      have e93 : a'.eval (.tmp 93) = .tuple #[.slice (some ⟨(hds 4).b, 0, none⟩) L (hds 4).c, .int .i64 0] := by rw [eval_tmp]; exact ld 4 93 (List.all_eq_true.1 hdp 4 (by decide)) rfl
      have HK := Lib.hid (show K (a'.put (some 88) (.tuple #[.slice (some ⟨(hds 4).b, 0, none⟩) L (hds 4).c, .int .i64 0])) W from hK W (Below.refl _ _) trivial)
      clear hK ld lq hmem
      unfold Oper.wp
      simp only [execOp, e93]
      exact HK.out
    | 6, _ =>
      obtain ⟨ty, pos, aft, e, hdp⟩ := iop6
      rw [e] at ho
      obtain rfl := Option.some.inj ho
      intro a' hds W K hB lq ld hmem hK
      have e88 : a'.eval (.tmp 88) = .tuple #[.slice (some ⟨(hds 4).b, 0, none⟩) L (hds 4).c, .int .i64 0] := by rw [eval_tmp]; exact ld 5 88 (List.all_eq_true.1 hdp 5 (by decide)) rfl
      have HK := Lib.hid (show K (a'.put (some 94) (.slice (some ⟨(hds 4).b, 0, none⟩) L (hds 4).c)) W from hK W (Below.refl _ _) trivial)
      clear hK ld lq hmem
      unfold Oper.wp
      simp only [execOp, e88]
      exact HK.out
    | 7, _ =>
      obtain ⟨ty, pos, aft, e, hdp⟩ := iop7
      rw [e] at ho
      obtain rfl := Option.some.inj ho
      intro a' hds W K hB lq ld hmem hK
      have e88 : a'.eval (.tmp 88) = .tuple #[.slice (some ⟨(hds 4).b, 0, none⟩) L (hds 4).c, .int .i64 0] := by rw [eval_tmp]; exact ld 5 88 (List.all_eq_true.1 hdp 5 (by decide)) rfl
      have HK := Lib.hid (show K (a'.put (some 95) (.int .i64 0)) W from hK W (Below.refl _ _) trivial)
      clear hK ld lq hmem
      unfold Oper.wp
      simp only [execOp, e88]
      exact HK.out
    | 8, _ =>
      obtain ⟨ty, pos, aft, e, hdp⟩ := iop8
      rw [e] at ho
      obtain rfl := Option.some.inj ho
      intro a' hds W K hB lq ld hmem hK
      have e94 : a'.eval (.tmp 94) = .slice (some ⟨(hds 4).b, 0, none⟩) L (hds 4).c := by rw [eval_tmp]; exact ld 6 94 (List.all_eq_true.1 hdp 6 (by decide)) rfl
      have HK := Lib.hid (show K (a'.put (some 14) (.slice (some ⟨(hds 4).b, 0, none⟩) L (hds 4).c)) W from hK W (Below.refl _ _) trivial)
      clear hK ld lq hmem
      unfold Oper.wp
      simp only [execOp, e94]
      exact HK.out
    | 9, _ =>
      obtain ⟨ty, pos, aft, e, hdp⟩ := iop9
      rw [e] at ho
      obtain rfl := Option.some.inj ho
      intro a' hds W K hB lq ld hmem hK
      have e95 : a'.eval (.tmp 95) = .int .i64 0 := by rw [eval_tmp]; exact ld 7 95 (List.all_eq_true.1 hdp 7 (by decide)) rfl
      have HK := Lib.hid (show K (a'.put (some 15) (.int .i64 0)) W from hK W (Below.refl _ _) trivial)
      clear hK ld lq hmem
      unfold Oper.wp
      simp only [execOp, e95]
      exact HK.out
    | i + 10, h => omega
  · intro hds v W hO
    have hfin := gend (hds 1).b (hds 1).c (hds 1).b2 (hds 1).c2 (hds 3).b (hds 3).c (hds 3).b2 (hds 3).c2 (hds 4).b (hds 4).c (hds 4).b2 (hds 4).c2 (hds 1).p (hds 3).p (hds 4).p (v 89) (v 90) (v 91) (v 92) (v 93) (v 88) (v 94) (v 95) W hO.b (hO.m 1 (by show 1 < 10; decide) rfl).1 (hO.m 1 (by show 1 < 10; decide) rfl).2 (hO.m 3 (by show 3 < 10; decide) rfl).1 (hO.m 3 (by show 3 < 10; decide) rfl).2 (hO.m 4 (by show 4 < 10; decide) rfl).1 (hO.m 4 (by show 4 < 10; decide) rfl).2
    rw [← laid_putL _ a v ?_] at hfin
    · exact hfin
    · intro p hp
      simp only [List.mem_cons, List.not_mem_nil, or_false] at hp
      rcases hp with rfl | rfl | rfl | rfl | rfl | rfl | rfl | rfl | rfl | rfl
      · rfl
      · rfl
      · rfl
      · rfl
      · rfl
      · rfl
      · rfl
      · rfl
      · exact hO.x 8 (show 8 < 10 by decide) 14 rfl
      · exact hO.x 9 (show 9 < 10 by decide) 15 rfl
def region_tm23U : List (List Nat) := [[], [1], [], [3], [1, 3, 4], [1, 3, 4], [1, 3, 4], [1, 3, 4], [8], [1, 3, 4, 8], [1, 3, 4]]
def region_tm23X (N g6 q6 T T2 : Nat) : Nat → (Nat → Hd) → Value
  | 0, _ => .agg #[.int .i64 (N : Int), .slice (some ⟨g6, 0, none⟩) T q6]
  | 1, hds => .agg #[.int .i64 (N : Int), .slice (some ⟨(hds 1).b, 0, none⟩) T (hds 1).c]
  | 2, _ => .agg #[.int .i64 (N : Int), .slice (some ⟨g6, 0, none⟩) T q6]
  | 3, hds => .agg #[.int .i64 (N : Int), .slice (some ⟨(hds 3).b, 0, none⟩) T (hds 3).c]
  | 4, hds => .tuple #[.agg #[.int .i64 (N : Int), .slice (some ⟨(hds 4).b, 0, none⟩) T2 (hds 4).c], .int .i64 0]
  | 5, hds => .tuple #[.agg #[.int .i64 (N : Int), .slice (some ⟨(hds 4).b, 0, none⟩) T2 (hds 4).c], .int .i64 0]
  | 6, hds => .agg #[.int .i64 (N : Int), .slice (some ⟨(hds 4).b, 0, none⟩) T2 (hds 4).c]
  | 7, _ => .int .i64 0
  | 8, hds => .pointer (some ⟨(hds 8).b, 0, none⟩)
  | 9, _ => undef
  | 10, _ => .int .i64 0
  | _ + 11, _ => undef
theorem region_tm23X.congr (N g6 q6 T T2 : Nat) : ∀ i hds hds', (∀ r ∈ uOf region_tm23U i, hds r = hds' r) → region_tm23X N g6 q6 T T2 i hds = region_tm23X N g6 q6 T T2 i hds'
  | 0, _, _, _ => rfl
  | 1, hds, hds', h => by simp only [region_tm23X, h 1 (show 1 ∈ uOf region_tm23U 1 by decide)]
  | 2, _, _, _ => rfl
  | 3, hds, hds', h => by simp only [region_tm23X, h 3 (show 3 ∈ uOf region_tm23U 3 by decide)]
  | 4, hds, hds', h => by simp only [region_tm23X, h 4 (show 4 ∈ uOf region_tm23U 4 by decide)]
  | 5, hds, hds', h => by simp only [region_tm23X, h 4 (show 4 ∈ uOf region_tm23U 5 by decide)]
  | 6, hds, hds', h => by simp only [region_tm23X, h 4 (show 4 ∈ uOf region_tm23U 6 by decide)]
  | 7, _, _, _ => rfl
  | 8, hds, hds', h => by simp only [region_tm23X, h 8 (show 8 ∈ uOf region_tm23U 8 by decide)]
  | 9, _, _, _ => rfl
  | 10, _, _, _ => rfl
  | _ + 11, _, _, _ => rfl
def region_tm23M (HS : List Nat) : Nat → Mem
  | 1 => memNats HS
  | 3 => memNats HS
  | 4 => memNats (HS ++ HS)
  | 8 => memBox 2 26
  | _ => memNone
def region_tm23S (N T2 : Nat) : Nat → Option Sto
  | 9 => some ⟨8, 26, fun hds => #[.int .i64 (N : Int), .slice (some ⟨(hds 4).b, 0, none⟩) T2 (hds 4).c]⟩
  | _ => none
set_option maxRecDepth 8000 in
set_option maxHeartbeats 2000000 in
theorem region_tm23 {id : Nat} {ops : Array Oper} {Q : Exit → Act → World → Prop} {a : Act} {w : World} (N g6 q6 E T T2 : Nat) (HS : List Nat) (hTl : HS.length = T) (hT0 : 1 ≤ T) (hT1 : T ≤ 96) (hTA : ∀ W b, NatsAt W b 0 HS → b < W.heap.size → TAt W b 0 N HS) (hn6 : NatsAt w g6 0 HS) (hg6 : g6 < w.heap.size) (hT2 : T + T = T2) (hT3 : T2 ≤ 96) (hE : BoxAt w E #[.int .i64 (N : Int), .slice (some ⟨g6, 0, none⟩) T q6] 26)
    (gsize : ops.size = 11)
    (gops : IsOp ops 0 (some 171) (.load 26 (.tmp 6)) none [] ∧ IsOp ops 1 (some 172) (.call { callee := .value (.func 100), args := #[.tmp 171], argTypes := #[26] }) none [0] ∧ IsOp ops 2 (some 173) (.load 26 (.tmp 6)) none [] ∧ IsOp ops 3 (some 174) (.call { callee := .value (.func 100), args := #[.tmp 173], argTypes := #[26] }) none [2] ∧ IsOp ops 4 (some 175) (.call { callee := .value (.func 30), args := #[.tmp 172, .tmp 174], argTypes := #[26, 26] }) none [1, 3] ∧ IsOp ops 5 (some 170) (.move (.tmp 175)) none [4] ∧ IsOp ops 6 (some 176) (.extract (.tmp 170) 0) none [5] ∧ IsOp ops 7 (some 177) (.extract (.tmp 170) 1) none [5] ∧ IsOp ops 8 (some 23) (.alloc 26) none [] ∧ IsOp ops 9 none (.store 26 (.tmp 23) (.tmp 176)) none [6, 8] ∧ IsOp ops 10 (some 24) (.assign (.tmp 177)) none [7])
    (gbk : backB ops = true) (gds : dstsB ops (dOf [some 171, some 172, some 173, some 174, some 175, some 170, some 176, some 177, some 23, none, some 24]) = true) (gus : useB ops (uOf region_tm23U) (kOf [0, 1, 0, 1, 1, 0, 0, 0, 1, 10, 0]) = true) (ggd : plainB ops = true) (gsz : ∀ e ∈ [171, 172, 173, 174, 175, 170, 176, 177, 23, 24], e < a.tmps.size)
    (gout : a.eval (.tmp 6) = .pointer (some ⟨E, 0, none⟩))
    (gend : ∀ (g172 q172 G172 Q172 g174 q174 G174 Q174 g175 q175 G175 Q175 g23 _q23 _G23 _Q23 : Nat) (P172 P174 P175 _P23 : Option Addr) (u171 u172 u173 u174 u175 u170 u176 u177 : Value) (W : World), Below w.heap.size w W → (memNats HS).P ⟨g172, q172, G172, Q172, P172⟩ W → (∀ b ∈ (memNats HS).bl ⟨g172, q172, G172, Q172, P172⟩, w.heap.size ≤ b ∧ b < W.heap.size) → (memNats HS).P ⟨g174, q174, G174, Q174, P174⟩ W → (∀ b ∈ (memNats HS).bl ⟨g174, q174, G174, Q174, P174⟩, w.heap.size ≤ b ∧ b < W.heap.size) → (memNats (HS ++ HS)).P ⟨g175, q175, G175, Q175, P175⟩ W → (∀ b ∈ (memNats (HS ++ HS)).bl ⟨g175, q175, G175, Q175, P175⟩, w.heap.size ≤ b ∧ b < W.heap.size) → w.heap.size ≤ g23 → g23 < W.heap.size → BoxAt W g23 #[.int .i64 (N : Int), .slice (some ⟨g175, 0, none⟩) T2 q175] 26 → Q .normal (putL a [(171, u171), (172, u172), (173, u173), (174, u174), (175, u175), (170, u170), (176, u176), (177, u177), (23, .pointer (some ⟨g23, 0, none⟩)), (24, .int .i64 0)]) W) :
    (Code.region id ops true).wp Try.prog Q a w := by
  obtain ⟨iop0, iop1, iop2, iop3, iop4, iop5, iop6, iop7, iop8, iop9, iop10⟩ := gops
  have o6 := gout
  refine region_all (RSp.of 11 [some 171, some 172, some 173, some 174, some 175, some 170, some 176, some 177, some 23, none, some 24] (fun _ => true) (region_tm23X N g6 q6 T T2) region_tm23U [0, 1, 0, 1, 1, 0, 0, 0, 1, 10, 0] (region_tm23M HS) (region_tm23S N T2)) [(6, .pointer (some ⟨E, 0, none⟩))] [171, 172, 173, 174, 175, 170, 176, 177, 23, 24] (RSp.of_fit gsize.symm gbk gds gus ggd (by decide) ?_) (RSp.of_ok _ (region_tm23X.congr N g6 q6 T T2) ?_) gsz ?_ ?_ ?_
  · intro p hp
    have hp2 : p ∈ [(9, 8)] := hp
    simp only [List.mem_cons, List.not_mem_nil, or_false] at hp2
    rcases hp2 with rfl
    · refine ⟨rfl, (show 8 ∈ uOf region_tm23U 9 by decide), fun _ => rfl, fun j hj hm => ?_⟩
      match j, hj with
      | 0, _ => rfl
      | 1, _ => rfl
      | 2, _ => rfl
      | 3, _ => rfl
      | 4, _ => rfl
      | 5, _ => rfl
      | 6, _ => rfl
      | 7, _ => rfl
      | 8, _ => rfl
      | 9, hj => exact absurd rfl hj
      | 10, _ => rfl
      | _ + 11, _ => rfl
  · intro i s hds
    match i, hds with
    | 0, hds => cases hds
    | 1, hds => cases hds
    | 2, hds => cases hds
    | 3, hds => cases hds
    | 4, hds => cases hds
    | 5, hds => cases hds
    | 6, hds => cases hds
    | 7, hds => cases hds
    | 8, hds => cases hds
    | 9, hds =>
      obtain rfl := Option.some.inj hds
      refine ⟨(show 8 ∈ uOf region_tm23U 9 by decide), fun _ => rfl, fun hds hds' h => ?_⟩
      simp only [h 4 (show 4 ∈ uOf region_tm23U 9 by decide)]
    | 10, hds => cases hds
    | _ + 11, hds => cases hds
  · intro q hq
    simp only [List.mem_cons, List.not_mem_nil, or_false] at hq
    subst hq
    · exact ⟨o6, by simp⟩
  · intro i o ho _
    have hi : i < 11 := by rw [← gsize]; exact (Array.getElem?_eq_some_iff.1 ho).1
    match i, hi with
    | 0, _ =>
      obtain ⟨ty, pos, aft, e, hdp⟩ := iop0
      rw [e] at ho
      obtain rfl := Option.some.inj ho
      intro a' hds W K hB lq ld hmem hK
      have e6 : a'.eval (.tmp 6) = .pointer (some ⟨E, 0, none⟩) := by rw [eval_tmp]; exact lq (6, .pointer (some ⟨E, 0, none⟩)) (by simp)
      have HK := Lib.hid (show K (a'.put (some 171) (.agg #[.int .i64 (N : Int), .slice (some ⟨g6, 0, none⟩) T q6])) W from hK W (Below.refl _ _) trivial)
      clear hK ld lq hmem
      have c0 := (hE.next hB).cell' 0 rfl
      have c1 := (hE.next hB).cell' 1 rfl
      unfold Oper.wp
      simp only [execOp, e6]
      go_simp
      exact HK.out
    | 1, _ =>
      obtain ⟨ty, pos, aft, e, hdp⟩ := iop1
      rw [e] at ho
      obtain rfl := Option.some.inj ho
      intro a' hds W K hB lq ld hmem hK
      have e171 : a'.eval (.tmp 171) = .agg #[.int .i64 (N : Int), .slice (some ⟨g6, 0, none⟩) T q6] := by rw [eval_tmp]; exact ld 0 171 (List.all_eq_true.1 hdp 0 (by decide)) rfl
      have HK := Lib.hid (show ∀ hh W', Below W.heap.size W W' → (memNats HS).P hh W' → (∀ b ∈ (memNats HS).bl hh, W.heap.size ≤ b ∧ b < W'.heap.size) → K (a'.put (some 172) (.agg #[.int .i64 (N : Int), .slice (some ⟨hh.b, 0, none⟩) T hh.c])) W' from fun hh W' h1 h2 h3 => by
        have h4 : K (a'.put (some 172) (region_tm23X N g6 q6 T T2 1 (updH hds 1 hh))) W' := hK hh W' h1 h2 h3 trivial
        simp only [region_tm23X, updH_same] at h4
        exact h4)
      clear hK ld lq hmem
      refine step_call (vals := #[.agg #[.int .i64 (N : Int), .slice (some ⟨g6, 0, none⟩) T q6]]) (by exact ⟨_, _, Try.func100, by kernel_rfl, rfl⟩) (by simp only [List.map_toArray, List.map_cons, List.map_nil, e171]) (call100 N T g6 q6 HS W hTl hT0 hT1 (hn6.below hB hg6) (Nat.lt_of_lt_of_le hg6 hB.size)) ?_
      rintro e w' ⟨g, cap, rfl, hn, hl, hg, hb'⟩
      exact ⟨_, rfl, HK.out ⟨g, cap, 0, 0, none⟩ _ hb' ⟨hn, hg⟩ (bd_one hl hg)⟩
    | 2, _ =>
      obtain ⟨ty, pos, aft, e, hdp⟩ := iop2
      rw [e] at ho
      obtain rfl := Option.some.inj ho
      intro a' hds W K hB lq ld hmem hK
      have e6 : a'.eval (.tmp 6) = .pointer (some ⟨E, 0, none⟩) := by rw [eval_tmp]; exact lq (6, .pointer (some ⟨E, 0, none⟩)) (by simp)
      have HK := Lib.hid (show K (a'.put (some 173) (.agg #[.int .i64 (N : Int), .slice (some ⟨g6, 0, none⟩) T q6])) W from hK W (Below.refl _ _) trivial)
      clear hK ld lq hmem
      have c0 := (hE.next hB).cell' 0 rfl
      have c1 := (hE.next hB).cell' 1 rfl
      unfold Oper.wp
      simp only [execOp, e6]
      go_simp
      exact HK.out
    | 3, _ =>
      obtain ⟨ty, pos, aft, e, hdp⟩ := iop3
      rw [e] at ho
      obtain rfl := Option.some.inj ho
      intro a' hds W K hB lq ld hmem hK
      have e173 : a'.eval (.tmp 173) = .agg #[.int .i64 (N : Int), .slice (some ⟨g6, 0, none⟩) T q6] := by rw [eval_tmp]; exact ld 2 173 (List.all_eq_true.1 hdp 2 (by decide)) rfl
      have HK := Lib.hid (show ∀ hh W', Below W.heap.size W W' → (memNats HS).P hh W' → (∀ b ∈ (memNats HS).bl hh, W.heap.size ≤ b ∧ b < W'.heap.size) → K (a'.put (some 174) (.agg #[.int .i64 (N : Int), .slice (some ⟨hh.b, 0, none⟩) T hh.c])) W' from fun hh W' h1 h2 h3 => by
        have h4 : K (a'.put (some 174) (region_tm23X N g6 q6 T T2 3 (updH hds 3 hh))) W' := hK hh W' h1 h2 h3 trivial
        simp only [region_tm23X, updH_same] at h4
        exact h4)
      clear hK ld lq hmem
      refine step_call (vals := #[.agg #[.int .i64 (N : Int), .slice (some ⟨g6, 0, none⟩) T q6]]) (by exact ⟨_, _, Try.func100, by kernel_rfl, rfl⟩) (by simp only [List.map_toArray, List.map_cons, List.map_nil, e173]) (call100 N T g6 q6 HS W hTl hT0 hT1 (hn6.below hB hg6) (Nat.lt_of_lt_of_le hg6 hB.size)) ?_
      rintro e w' ⟨g, cap, rfl, hn, hl, hg, hb'⟩
      exact ⟨_, rfl, HK.out ⟨g, cap, 0, 0, none⟩ _ hb' ⟨hn, hg⟩ (bd_one hl hg)⟩
    | 4, _ =>
      obtain ⟨ty, pos, aft, e, hdp⟩ := iop4
      rw [e] at ho
      obtain rfl := Option.some.inj ho
      intro a' hds W K hB lq ld hmem hK
      have e172 : a'.eval (.tmp 172) = .agg #[.int .i64 (N : Int), .slice (some ⟨(hds 1).b, 0, none⟩) T (hds 1).c] := by rw [eval_tmp]; exact ld 1 172 (List.all_eq_true.1 hdp 1 (by decide)) rfl
      have e174 : a'.eval (.tmp 174) = .agg #[.int .i64 (N : Int), .slice (some ⟨(hds 3).b, 0, none⟩) T (hds 3).c] := by rw [eval_tmp]; exact ld 3 174 (List.all_eq_true.1 hdp 3 (by decide)) rfl
      have HK := Lib.hid (show ∀ hh W', Below W.heap.size W W' → (memNats (HS ++ HS)).P hh W' → (∀ b ∈ (memNats (HS ++ HS)).bl hh, W.heap.size ≤ b ∧ b < W'.heap.size) → K (a'.put (some 175) (.tuple #[.agg #[.int .i64 (N : Int), .slice (some ⟨hh.b, 0, none⟩) T2 hh.c], .int .i64 0])) W' from fun hh W' h1 h2 h3 => by
        have h4 : K (a'.put (some 175) (region_tm23X N g6 q6 T T2 4 (updH hds 4 hh))) W' := hK hh W' h1 h2 h3 trivial
        simp only [region_tm23X, updH_same] at h4
        exact h4)
      have m172   := (hmem 1 (show 1 ∈ uOf region_tm23U 4 by decide) (by decide)).1
      have m174   := (hmem 3 (show 3 ∈ uOf region_tm23U 4 by decide) (by decide)).1
      clear hK ld lq hmem
      refine step_call (vals := #[.agg #[.int .i64 (N : Int), .slice (some ⟨(hds 1).b, 0, none⟩) T (hds 1).c], .agg #[.int .i64 (N : Int), .slice (some ⟨(hds 3).b, 0, none⟩) T (hds 3).c]]) (by exact ⟨_, _, Try.func30, by kernel_rfl, rfl⟩) (by simp only [List.map_toArray, List.map_cons, List.map_nil, e172, e174]) (call30 N T T2 (hds 1).b (hds 1).c (hds 3).b (hds 3).c HS W hTl hT2 hT3 (hTA W _ m172.1 m172.2) (hTA W _ m174.1 m174.2)) ?_
      rintro e w' ⟨g, cap, rfl, hn, hl, hg, hb'⟩
      exact ⟨_, rfl, HK.out ⟨g, cap, 0, 0, none⟩ _ hb' ⟨hn, hg⟩ (bd_one hl hg)⟩
    | 5, _ =>
      obtain ⟨ty, pos, aft, e, hdp⟩ := iop5
      rw [e] at ho
      obtain rfl := Option.some.inj ho
      intro a' hds W K hB lq ld hmem hK
      have e175 : a'.eval (.tmp 175) = .tuple #[.agg #[.int .i64 (N : Int), .slice (some ⟨(hds 4).b, 0, none⟩) T2 (hds 4).c], .int .i64 0] := by rw [eval_tmp]; exact ld 4 175 (List.all_eq_true.1 hdp 4 (by decide)) rfl
      have HK := Lib.hid (show K (a'.put (some 170) (.tuple #[.agg #[.int .i64 (N : Int), .slice (some ⟨(hds 4).b, 0, none⟩) T2 (hds 4).c], .int .i64 0])) W from hK W (Below.refl _ _) trivial)
      clear hK ld lq hmem
      unfold Oper.wp
      simp only [execOp, e175]
      exact HK.out
    | 6, _ =>
      obtain ⟨ty, pos, aft, e, hdp⟩ := iop6
      rw [e] at ho
      obtain rfl := Option.some.inj ho
      intro a' hds W K hB lq ld hmem hK
      have e170 : a'.eval (.tmp 170) = .tuple #[.agg #[.int .i64 (N : Int), .slice (some ⟨(hds 4).b, 0, none⟩) T2 (hds 4).c], .int .i64 0] := by rw [eval_tmp]; exact ld 5 170 (List.all_eq_true.1 hdp 5 (by decide)) rfl
      have HK := Lib.hid (show K (a'.put (some 176) (.agg #[.int .i64 (N : Int), .slice (some ⟨(hds 4).b, 0, none⟩) T2 (hds 4).c])) W from hK W (Below.refl _ _) trivial)
      clear hK ld lq hmem
      unfold Oper.wp
      simp only [execOp, e170]
      exact HK.out
    | 7, _ =>
      obtain ⟨ty, pos, aft, e, hdp⟩ := iop7
      rw [e] at ho
      obtain rfl := Option.some.inj ho
      intro a' hds W K hB lq ld hmem hK
      have e170 : a'.eval (.tmp 170) = .tuple #[.agg #[.int .i64 (N : Int), .slice (some ⟨(hds 4).b, 0, none⟩) T2 (hds 4).c], .int .i64 0] := by rw [eval_tmp]; exact ld 5 170 (List.all_eq_true.1 hdp 5 (by decide)) rfl
      have HK := Lib.hid (show K (a'.put (some 177) (.int .i64 0)) W from hK W (Below.refl _ _) trivial)
      clear hK ld lq hmem
      unfold Oper.wp
      simp only [execOp, e170]
      exact HK.out
    | 8, _ =>
      obtain ⟨ty, pos, aft, e, hdp⟩ := iop8
      rw [e] at ho
      obtain rfl := Option.some.inj ho
      intro a' hds W K hB lq ld hmem hK
      have HK := Lib.hid (show ∀ hh W', Below W.heap.size W W' → (memBox 2 26).P hh W' → (∀ b ∈ (memBox 2 26).bl hh, W.heap.size ≤ b ∧ b < W'.heap.size) → K (a'.put (some 23) (.pointer (some ⟨hh.b, 0, none⟩))) W' from fun hh W' h1 h2 h3 => by
        have h4 : K (a'.put (some 23) (region_tm23X N g6 q6 T T2 8 (updH hds 8 hh))) W' := hK hh W' h1 h2 h3 trivial
        simp only [region_tm23X, updH_same] at h4
        exact h4)
      clear hK ld lq hmem
      have hfin := Lib.hid (HK.out ⟨W.heap.size, 0, 0, 0, none⟩ _ ((Below.refl _ _).alloc (Nat.le_refl _) (.cells #[.int .i64 0, .slice none 0 0] 26)) ⟨_, rfl, BoxAt.new W #[.int .i64 0, .slice none 0 0] 26⟩ (bd_one (Nat.le_refl _) (by simp)))
      clear HK
      unfold Oper.wp
      simp only [execOp]
      go_simp
      exact hfin.out
    | 9, _ =>
      obtain ⟨ty, pos, aft, e, hdp⟩ := iop9
      rw [e] at ho
      obtain rfl := Option.some.inj ho
      intro a' hds W K hB lq ld hmem hK
      have e23 : a'.eval (.tmp 23) = .pointer (some ⟨(hds 8).b, 0, none⟩) := by rw [eval_tmp]; exact ld 8 23 (List.all_eq_true.1 hdp 8 (by decide)) rfl
      have e176 : a'.eval (.tmp 176) = .agg #[.int .i64 (N : Int), .slice (some ⟨(hds 4).b, 0, none⟩) T2 (hds 4).c] := by rw [eval_tmp]; exact ld 6 176 (List.all_eq_true.1 hdp 6 (by decide)) rfl
      obtain ⟨⟨vs, hvs, hbx⟩, _⟩ := hmem 8 (show 8 ∈ uOf region_tm23U 9 by decide) (by decide)
      have hvl : vs.toList.length = 2 := by simpa using hvs
      obtain ⟨v0, v1, rfl⟩ : ∃ v0 v1, vs = #[v0, v1] := by
        cases vs with
        | mk l =>
          match l, hvl with
          | [v0, v1], _ => exact ⟨_, _, rfl⟩
      have HK := Lib.hid (show ∀ W', SetAt (hds 8).b W W' → (memBox 2 26).P (hds 8) W' → BoxAt W' (hds 8).b #[.int .i64 (N : Int), .slice (some ⟨(hds 4).b, 0, none⟩) T2 (hds 4).c] 26 → K a' W' from hK)
      clear hK ld lq hmem
      have hfin := Lib.hid (HK.out _ (((SetAt.refl (hds 8).b W).cell 0 (.int .i64 (N : Int))).cell 1 (.slice (some ⟨(hds 4).b, 0, none⟩) T2 (hds 4).c)) ⟨_, rfl, ((hbx).set 0 (.int .i64 (N : Int))).set 1 (.slice (some ⟨(hds 4).b, 0, none⟩) T2 (hds 4).c)⟩ (((hbx).set 0 (.int .i64 (N : Int))).set 1 (.slice (some ⟨(hds 4).b, 0, none⟩) T2 (hds 4).c)))
      have c0 := hbx.cell' 0 rfl
      have f0 := hbx.frozen 0
      have c1 := hbx.cell' 1 rfl
      have f1 := hbx.frozen 1
      have hlt := hbx.lt
      clear hbx hvl hvs HK
      generalize (hds 8).b = B at *
      unfold Oper.wp
      simp only [execOp, e23, e176]
      clear e23 e176
      go_simp
      exact hfin.out
    | 10, _ =>
      obtain ⟨ty, pos, aft, e, hdp⟩ := iop10
      rw [e] at ho
      obtain rfl := Option.some.inj ho
      intro a' hds W K hB lq ld hmem hK
      have e177 : a'.eval (.tmp 177) = .int .i64 0 := by rw [eval_tmp]; exact ld 7 177 (List.all_eq_true.1 hdp 7 (by decide)) rfl
      have HK := Lib.hid (show K (a'.put (some 24) (.int .i64 0)) W from hK W (Below.refl _ _) trivial)
      clear hK ld lq hmem
      unfold Oper.wp
      simp only [execOp, e177]
      exact HK.out
    | i + 11, h => omega
  · intro hds v W hO
    have hfin := gend (hds 1).b (hds 1).c (hds 1).b2 (hds 1).c2 (hds 3).b (hds 3).c (hds 3).b2 (hds 3).c2 (hds 4).b (hds 4).c (hds 4).b2 (hds 4).c2 (hds 8).b (hds 8).c (hds 8).b2 (hds 8).c2 (hds 1).p (hds 3).p (hds 4).p (hds 8).p (v 171) (v 172) (v 173) (v 174) (v 175) (v 170) (v 176) (v 177) W hO.b (hO.m 1 (by show 1 < 11; decide) rfl).1 (hO.m 1 (by show 1 < 11; decide) rfl).2 (hO.m 3 (by show 3 < 11; decide) rfl).1 (hO.m 3 (by show 3 < 11; decide) rfl).2 (hO.m 4 (by show 4 < 11; decide) rfl).1 (hO.m 4 (by show 4 < 11; decide) rfl).2 ((hO.m 8 (by show 8 < 11; decide) rfl).2 _ (by show _ ∈ [_]; simp)).1 ((hO.m 8 (by show 8 < 11; decide) rfl).2 _ (by show _ ∈ [_]; simp)).2 (hO.s 9 (by show 9 < 11; decide) rfl)
    rw [← laid_putL _ a v ?_] at hfin
    · exact hfin
    · intro p hp
      simp only [List.mem_cons, List.not_mem_nil, or_false] at hp
      rcases hp with rfl | rfl | rfl | rfl | rfl | rfl | rfl | rfl | rfl | rfl
      · rfl
      · rfl
      · rfl
      · rfl
      · rfl
      · rfl
      · rfl
      · rfl
      · exact hO.x 8 (show 8 < 11 by decide) 23 rfl
      · exact hO.x 10 (show 10 < 11 by decide) 24 rfl
def region_tm24U : List (List Nat) := [[], [], [2], [2, 3], [2, 3], [2, 3], [2, 3], [2, 3], [2, 3]]
def region_tm24X (N L g2 q2 g6 q6 T F : Nat) : Nat → (Nat → Hd) → Value
  | 0, _ => .agg #[.int .i64 (N : Int), .slice (some ⟨g6, 0, none⟩) T q6]
  | 1, _ => .agg #[.int .i64 (N : Int), .slice (some ⟨g2, 0, none⟩) L q2]
  | 2, hds => .agg #[.int .i64 (N : Int), .slice (some ⟨(hds 2).b, 0, none⟩) L (hds 2).c]
  | 3, hds => .tuple #[.slice (hds 3).p F (hds 3).c, .int .i64 0]
  | 4, hds => .tuple #[.slice (hds 3).p F (hds 3).c, .int .i64 0]
  | 5, hds => .slice (hds 3).p F (hds 3).c
  | 6, _ => .int .i64 0
  | 7, hds => .slice (hds 3).p F (hds 3).c
  | 8, _ => .int .i64 0
  | _ + 9, _ => undef
theorem region_tm24X.congr (N L g2 q2 g6 q6 T F : Nat) : ∀ i hds hds', (∀ r ∈ uOf region_tm24U i, hds r = hds' r) → region_tm24X N L g2 q2 g6 q6 T F i hds = region_tm24X N L g2 q2 g6 q6 T F i hds'
  | 0, _, _, _ => rfl
  | 1, _, _, _ => rfl
  | 2, hds, hds', h => by simp only [region_tm24X, h 2 (show 2 ∈ uOf region_tm24U 2 by decide)]
  | 3, hds, hds', h => by simp only [region_tm24X, h 3 (show 3 ∈ uOf region_tm24U 3 by decide)]
  | 4, hds, hds', h => by simp only [region_tm24X, h 3 (show 3 ∈ uOf region_tm24U 4 by decide)]
  | 5, hds, hds', h => by simp only [region_tm24X, h 3 (show 3 ∈ uOf region_tm24U 5 by decide)]
  | 6, _, _, _ => rfl
  | 7, hds, hds', h => by simp only [region_tm24X, h 3 (show 3 ∈ uOf region_tm24U 7 by decide)]
  | 8, _, _, _ => rfl
  | _ + 9, _, _, _ => rfl
def region_tm24M (L : Nat) (DS HS : List Nat) : Nat → Mem
  | 2 => memNats DS
  | 3 => memFls (upTo (flO HS DS 1) L)
  | _ => memNone
def region_tm24S  : Nat → Option Sto
  | _ => none
set_option maxRecDepth 8000 in
set_option maxHeartbeats 2000000 in
theorem region_tm24 {id : Nat} {ops : Array Oper} {Q : Exit → Act → World → Prop} {a : Act} {w : World} (N L g2 q2 D g6 q6 E T F : Nat) (DS HS : List Nat) (hDl : DS.length = L) (hVd : Valid N DS) (hn2 : NatsAt w g2 0 DS) (hg2 : g2 < w.heap.size) (hTl : HS.length = T) (_hT0 : 1 ≤ T) (_hT1 : T ≤ 96) (hTA : ∀ W b, NatsAt W b 0 HS → b < W.heap.size → TAt W b 0 N HS) (hn6 : NatsAt w g6 0 HS) (hg6 : g6 < w.heap.size) (hF : (upTo (flO HS DS 1) L).length = F) (hD : BoxAt w D #[.int .i64 (N : Int), .slice (some ⟨g2, 0, none⟩) L q2] 37) (hE : BoxAt w E #[.int .i64 (N : Int), .slice (some ⟨g6, 0, none⟩) T q6] 26)
    (gsize : ops.size = 9)
    (gops : IsOp ops 0 (some 179) (.load 26 (.tmp 6)) none [] ∧ IsOp ops 1 (some 180) (.load 37 (.tmp 5)) none [] ∧ IsOp ops 2 (some 181) (.call { callee := .value (.func 96), args := #[.tmp 180], argTypes := #[37] }) none [1] ∧ IsOp ops 3 (some 182) (.call { callee := .value (.func 39), args := #[.tmp 179, .tmp 181, .const (.int .i64 1)], argTypes := #[26, 37, 3] }) none [0, 2] ∧ IsOp ops 4 (some 178) (.move (.tmp 182)) none [3] ∧ IsOp ops 5 (some 183) (.extract (.tmp 178) 0) none [4] ∧ IsOp ops 6 (some 184) (.extract (.tmp 178) 1) none [4] ∧ IsOp ops 7 (some 25) (.assign (.tmp 183)) none [5] ∧ IsOp ops 8 (some 26) (.assign (.tmp 184)) none [6])
    (gbk : backB ops = true) (gds : dstsB ops (dOf [some 179, some 180, some 181, some 182, some 178, some 183, some 184, some 25, some 26]) = true) (gus : useB ops (uOf region_tm24U) (kOf [0, 0, 1, 1, 0, 0, 0, 0, 0]) = true) (ggd : plainB ops = true) (gsz : ∀ e ∈ [179, 180, 181, 182, 178, 183, 184, 25, 26], e < a.tmps.size)
    (gout : a.eval (.tmp 6) = .pointer (some ⟨E, 0, none⟩) ∧ a.eval (.tmp 5) = .pointer (some ⟨D, 0, none⟩))
    (gend : ∀ (g181 q181 G181 Q181 g182 q182 G182 Q182 : Nat) (P181 P182 : Option Addr) (u179 u180 u181 u182 u178 u183 u184 : Value) (W : World), Below w.heap.size w W → (memNats DS).P ⟨g181, q181, G181, Q181, P181⟩ W → (∀ b ∈ (memNats DS).bl ⟨g181, q181, G181, Q181, P181⟩, w.heap.size ≤ b ∧ b < W.heap.size) → (memFls (upTo (flO HS DS 1) L)).P ⟨g182, q182, G182, Q182, P182⟩ W → (∀ b ∈ (memFls (upTo (flO HS DS 1) L)).bl ⟨g182, q182, G182, Q182, P182⟩, w.heap.size ≤ b ∧ b < W.heap.size) → Q .normal (putL a [(179, u179), (180, u180), (181, u181), (182, u182), (178, u178), (183, u183), (184, u184), (25, .slice P182 F q182), (26, .int .i64 0)]) W) :
    (Code.region id ops true).wp Try.prog Q a w := by
  obtain ⟨iop0, iop1, iop2, iop3, iop4, iop5, iop6, iop7, iop8⟩ := gops
  obtain ⟨o6, o5⟩ := gout
  refine region_all (RSp.of 9 [some 179, some 180, some 181, some 182, some 178, some 183, some 184, some 25, some 26] (fun _ => true) (region_tm24X N L g2 q2 g6 q6 T F) region_tm24U [0, 0, 1, 1, 0, 0, 0, 0, 0] (region_tm24M L DS HS) (region_tm24S )) [(6, .pointer (some ⟨E, 0, none⟩)), (5, .pointer (some ⟨D, 0, none⟩))] [179, 180, 181, 182, 178, 183, 184, 25, 26] (RSp.of_fit gsize.symm gbk gds gus ggd (by decide) ?_) (RSp.of_ok _ (region_tm24X.congr N L g2 q2 g6 q6 T F) ?_) gsz ?_ ?_ ?_
  · intro p hp
    have hp2 : p ∈ ([] : List (Nat × Nat)) := hp
    cases hp2
  · intro i s hds
    match i, hds with
    | 0, hds => cases hds
    | 1, hds => cases hds
    | 2, hds => cases hds
    | 3, hds => cases hds
    | 4, hds => cases hds
    | 5, hds => cases hds
    | 6, hds => cases hds
    | 7, hds => cases hds
    | 8, hds => cases hds
    | _ + 9, hds => cases hds
  · intro q hq
    simp only [List.mem_cons, List.not_mem_nil, or_false] at hq
    rcases hq with rfl | rfl
    · exact ⟨o6, by simp⟩
    · exact ⟨o5, by simp⟩
  · intro i o ho _
    have hi : i < 9 := by rw [← gsize]; exact (Array.getElem?_eq_some_iff.1 ho).1
    match i, hi with
    | 0, _ =>
      obtain ⟨ty, pos, aft, e, hdp⟩ := iop0
      rw [e] at ho
      obtain rfl := Option.some.inj ho
      intro a' hds W K hB lq ld hmem hK
      have e6 : a'.eval (.tmp 6) = .pointer (some ⟨E, 0, none⟩) := by rw [eval_tmp]; exact lq (6, .pointer (some ⟨E, 0, none⟩)) (by simp)
      have HK := Lib.hid (show K (a'.put (some 179) (.agg #[.int .i64 (N : Int), .slice (some ⟨g6, 0, none⟩) T q6])) W from hK W (Below.refl _ _) trivial)
      clear hK ld lq hmem
      have c0 := (hE.next hB).cell' 0 rfl
      have c1 := (hE.next hB).cell' 1 rfl
      unfold Oper.wp
      simp only [execOp, e6]
      go_simp
      exact HK.out
    | 1, _ =>
      obtain ⟨ty, pos, aft, e, hdp⟩ := iop1
      rw [e] at ho
      obtain rfl := Option.some.inj ho
      intro a' hds W K hB lq ld hmem hK
      have e5 : a'.eval (.tmp 5) = .pointer (some ⟨D, 0, none⟩) := by rw [eval_tmp]; exact lq (5, .pointer (some ⟨D, 0, none⟩)) (by simp)
      have HK := Lib.hid (show K (a'.put (some 180) (.agg #[.int .i64 (N : Int), .slice (some ⟨g2, 0, none⟩) L q2])) W from hK W (Below.refl _ _) trivial)
      clear hK ld lq hmem
      have c0 := (hD.next hB).cell' 0 rfl
      have c1 := (hD.next hB).cell' 1 rfl
      unfold Oper.wp
      simp only [execOp, e5]
      go_simp
      exact HK.out
    | 2, _ =>
      obtain ⟨ty, pos, aft, e, hdp⟩ := iop2
      rw [e] at ho
      obtain rfl := Option.some.inj ho
      intro a' hds W K hB lq ld hmem hK
      have e180 : a'.eval (.tmp 180) = .agg #[.int .i64 (N : Int), .slice (some ⟨g2, 0, none⟩) L q2] := by rw [eval_tmp]; exact ld 1 180 (List.all_eq_true.1 hdp 1 (by decide)) rfl
      have HK := Lib.hid (show ∀ hh W', Below W.heap.size W W' → (memNats DS).P hh W' → (∀ b ∈ (memNats DS).bl hh, W.heap.size ≤ b ∧ b < W'.heap.size) → K (a'.put (some 181) (.agg #[.int .i64 (N : Int), .slice (some ⟨hh.b, 0, none⟩) L hh.c])) W' from fun hh W' h1 h2 h3 => by
        have h4 : K (a'.put (some 181) (region_tm24X N L g2 q2 g6 q6 T F 2 (updH hds 2 hh))) W' := hK hh W' h1 h2 h3 trivial
        simp only [region_tm24X, updH_same] at h4
        exact h4)
      clear hK ld lq hmem
      refine step_call (vals := #[.agg #[.int .i64 (N : Int), .slice (some ⟨g2, 0, none⟩) L q2]]) (by exact ⟨_, _, Try.func96, by kernel_rfl, rfl⟩) (by simp only [List.map_toArray, List.map_cons, List.map_nil, e180]) (call96 N L g2 q2 DS W hDl hVd (hn2.below hB hg2) (Nat.lt_of_lt_of_le hg2 hB.size)) ?_
      rintro e w' ⟨g, cap, rfl, hn, hl, hg, hb'⟩
      exact ⟨_, rfl, HK.out ⟨g, cap, 0, 0, none⟩ _ hb' ⟨hn, hg⟩ (bd_one hl hg)⟩
    | 3, _ =>
      obtain ⟨ty, pos, aft, e, hdp⟩ := iop3
      rw [e] at ho
      obtain rfl := Option.some.inj ho
      intro a' hds W K hB lq ld hmem hK
      have e179 : a'.eval (.tmp 179) = .agg #[.int .i64 (N : Int), .slice (some ⟨g6, 0, none⟩) T q6] := by rw [eval_tmp]; exact ld 0 179 (List.all_eq_true.1 hdp 0 (by decide)) rfl
      have e181 : a'.eval (.tmp 181) = .agg #[.int .i64 (N : Int), .slice (some ⟨(hds 2).b, 0, none⟩) L (hds 2).c] := by rw [eval_tmp]; exact ld 2 181 (List.all_eq_true.1 hdp 2 (by decide)) rfl
      have HK := Lib.hid (show ∀ hh W', Below W.heap.size W W' → (memFls (upTo (flO HS DS 1) L)).P hh W' → (∀ b ∈ (memFls (upTo (flO HS DS 1) L)).bl hh, W.heap.size ≤ b ∧ b < W'.heap.size) → K (a'.put (some 182) (.tuple #[.slice hh.p F hh.c, .int .i64 0])) W' from fun hh W' h1 h2 h3 => by
        have h4 : K (a'.put (some 182) (region_tm24X N L g2 q2 g6 q6 T F 3 (updH hds 3 hh))) W' := hK hh W' h1 h2 h3 trivial
        simp only [region_tm24X, updH_same] at h4
        exact h4)
      have m181   := (hmem 2 (show 2 ∈ uOf region_tm24U 3 by decide) (by decide)).1
      clear hK ld lq hmem
      refine step_call (vals := #[.agg #[.int .i64 (N : Int), .slice (some ⟨g6, 0, none⟩) T q6], .agg #[.int .i64 (N : Int), .slice (some ⟨(hds 2).b, 0, none⟩) L (hds 2).c], .int .i64 1]) (by exact ⟨_, _, Try.func39, by kernel_rfl, rfl⟩) (by simp only [List.map_toArray, List.map_cons, List.map_nil, e179, e181]; rfl) (call39 N T L F g6 q6 (hds 2).b (hds 2).c HS DS W hTl hDl hF (hTA W _ (hn6.below hB hg6) (Nat.lt_of_lt_of_le hg6 hB.size)) ⟨m181.1, m181.2, hVd⟩) ?_
      rintro e w' ⟨p, cap, rfl, hf, hbl, hb'⟩
      exact ⟨_, rfl, HK.out ⟨0, cap, 0, 0, p⟩ _ hb' hf (bd_fls hbl)⟩
    | 4, _ =>
      obtain ⟨ty, pos, aft, e, hdp⟩ := iop4
      rw [e] at ho
      obtain rfl := Option.some.inj ho
      intro a' hds W K hB lq ld hmem hK
      have e182 : a'.eval (.tmp 182) = .tuple #[.slice (hds 3).p F (hds 3).c, .int .i64 0] := by rw [eval_tmp]; exact ld 3 182 (List.all_eq_true.1 hdp 3 (by decide)) rfl
      have HK := Lib.hid (show K (a'.put (some 178) (.tuple #[.slice (hds 3).p F (hds 3).c, .int .i64 0])) W from hK W (Below.refl _ _) trivial)
      clear hK ld lq hmem
      unfold Oper.wp
      simp only [execOp, e182]
      exact HK.out
    | 5, _ =>
      obtain ⟨ty, pos, aft, e, hdp⟩ := iop5
      rw [e] at ho
      obtain rfl := Option.some.inj ho
      intro a' hds W K hB lq ld hmem hK
      have e178 : a'.eval (.tmp 178) = .tuple #[.slice (hds 3).p F (hds 3).c, .int .i64 0] := by rw [eval_tmp]; exact ld 4 178 (List.all_eq_true.1 hdp 4 (by decide)) rfl
      have HK := Lib.hid (show K (a'.put (some 183) (.slice (hds 3).p F (hds 3).c)) W from hK W (Below.refl _ _) trivial)
      clear hK ld lq hmem
      unfold Oper.wp
      simp only [execOp, e178]
      exact HK.out
    | 6, _ =>
      obtain ⟨ty, pos, aft, e, hdp⟩ := iop6
      rw [e] at ho
      obtain rfl := Option.some.inj ho
      intro a' hds W K hB lq ld hmem hK
      have e178 : a'.eval (.tmp 178) = .tuple #[.slice (hds 3).p F (hds 3).c, .int .i64 0] := by rw [eval_tmp]; exact ld 4 178 (List.all_eq_true.1 hdp 4 (by decide)) rfl
      have HK := Lib.hid (show K (a'.put (some 184) (.int .i64 0)) W from hK W (Below.refl _ _) trivial)
      clear hK ld lq hmem
      unfold Oper.wp
      simp only [execOp, e178]
      exact HK.out
    | 7, _ =>
      obtain ⟨ty, pos, aft, e, hdp⟩ := iop7
      rw [e] at ho
      obtain rfl := Option.some.inj ho
      intro a' hds W K hB lq ld hmem hK
      have e183 : a'.eval (.tmp 183) = .slice (hds 3).p F (hds 3).c := by rw [eval_tmp]; exact ld 5 183 (List.all_eq_true.1 hdp 5 (by decide)) rfl
      have HK := Lib.hid (show K (a'.put (some 25) (.slice (hds 3).p F (hds 3).c)) W from hK W (Below.refl _ _) trivial)
      clear hK ld lq hmem
      unfold Oper.wp
      simp only [execOp, e183]
      exact HK.out
    | 8, _ =>
      obtain ⟨ty, pos, aft, e, hdp⟩ := iop8
      rw [e] at ho
      obtain rfl := Option.some.inj ho
      intro a' hds W K hB lq ld hmem hK
      have e184 : a'.eval (.tmp 184) = .int .i64 0 := by rw [eval_tmp]; exact ld 6 184 (List.all_eq_true.1 hdp 6 (by decide)) rfl
      have HK := Lib.hid (show K (a'.put (some 26) (.int .i64 0)) W from hK W (Below.refl _ _) trivial)
      clear hK ld lq hmem
      unfold Oper.wp
      simp only [execOp, e184]
      exact HK.out
    | i + 9, h => omega
  · intro hds v W hO
    have hfin := gend (hds 2).b (hds 2).c (hds 2).b2 (hds 2).c2 (hds 3).b (hds 3).c (hds 3).b2 (hds 3).c2 (hds 2).p (hds 3).p (v 179) (v 180) (v 181) (v 182) (v 178) (v 183) (v 184) W hO.b (hO.m 2 (by show 2 < 9; decide) rfl).1 (hO.m 2 (by show 2 < 9; decide) rfl).2 (hO.m 3 (by show 3 < 9; decide) rfl).1 (hO.m 3 (by show 3 < 9; decide) rfl).2
    rw [← laid_putL _ a v ?_] at hfin
    · exact hfin
    · intro p hp
      simp only [List.mem_cons, List.not_mem_nil, or_false] at hp
      rcases hp with rfl | rfl | rfl | rfl | rfl | rfl | rfl | rfl | rfl
      · rfl
      · rfl
      · rfl
      · rfl
      · rfl
      · rfl
      · rfl
      · exact hO.x 7 (show 7 < 9 by decide) 25 rfl
      · exact hO.x 8 (show 8 < 9 by decide) 26 rfl
end Go.Proofs.Ytdmgffoikebgkaa
/- TopMirrored: the walk. -/
namespace Go.Proofs.Ytdmgffoikebgkaa
open Go.RowKit Go.Shelf
attribute [local go_sem] Oper.semAt_some

theorem loomL_bdM (m l : Nat) (hm : 1 ≤ m) : 1 ≤ loomL m l ∧ loomL m l ≤ m := by unfold loomL; split <;> omega
theorem dsTo_validM (n : Nat) (rs : List Nat) (k : Nat) (hn : 1 ≤ n) (hn2 : n ≤ 24) (hk : 1 ≤ k) (hk2 : k ≤ 60) : Valid n (dsTo n rs k) := by
  refine ⟨hn, hn2, by rw [dsTo_len]; exact hk, by rw [dsTo_len]; exact hk2, fun i => ?_⟩
  by_cases hi : i < k
  · rw [nthN_get _ _ (by rw [dsTo_len]; exact hi)]
    simp only [dsTo, List.getElem_map, List.getElem_range, dsG]
    have h2 : 0 < (2 : Nat) ^ n := Nat.pow_pos (by decide)
    exact Nat.lt_of_le_of_lt Nat.and_le_right (by omega)
  · have : nthN (dsTo n rs k) i = 0 := by unfold nthN; rw [List.getElem?_eq_none (by rw [dsTo_len]; omega)]; rfl
    rw [this]; exact Nat.pow_pos (by decide)
/-- the design and its harness in memory -/
structure TmS (w : World) (D g2 q2 E g6 q6 N L T : Nat) (DS HS : List Nat) (W : World) : Prop where
  d : BoxAt W D #[.int .i64 (N : Int), .slice (some ⟨g2, 0, none⟩) L q2] 37
  e : BoxAt W E #[.int .i64 (N : Int), .slice (some ⟨g6, 0, none⟩) T q6] 26
  nd : NatsAt W g2 0 DS
  nh : NatsAt W g6 0 HS
  l2 : g2 < W.heap.size
  l6 : g6 < W.heap.size
  b : Below w.heap.size w W
theorem TmS.next {w : World} {D g2 q2 E g6 q6 N L T : Nat} {DS HS : List Nat} {W W' : World} (h : TmS w D g2 q2 E g6 q6 N L T DS HS W) (hb : Below W.heap.size W W') : TmS w D g2 q2 E g6 q6 N L T DS HS W' :=
  ⟨h.d.next hb, h.e.next hb, h.nd.below hb h.l2, h.nh.below hb h.l6, Nat.lt_of_lt_of_le h.l2 hb.size, Nat.lt_of_lt_of_le h.l6 hb.size, h.b.trans (hb.mono h.b.size)⟩
/-- floats in memory, off a block -/
def FlX (W : World) (X : Nat) (p : Option Addr) (fs : List Fl) : Prop := 0 < fs.length → ∃ g, p = some ⟨g, 0, none⟩ ∧ g ≠ X ∧ FlsAt W g fs
theorem FlX.of {W W' : World} {X : Nat} {p : Option Addr} {fs : List Fl} (h : FlP W p fs) (hb : Below W.heap.size W W') (hX : X = W.heap.size) : FlX W' X p fs := fun h0 => by
  obtain ⟨g, e, hf⟩ := h h0
  have := hf.lt
  exact ⟨g, e, by omega, hf.below hb hf.lt⟩
theorem FlX.next {W W' : World} {X : Nat} {p : Option Addr} {fs : List Fl} (h : FlX W X p fs) (hb : Below W.heap.size W W') : FlX W' X p fs := fun h0 => by
  obtain ⟨g, e, hx, hf⟩ := h h0
  exact ⟨g, e, hx, hf.below hb hf.lt⟩
theorem FlX.set {W : World} {X k : Nat} {v : Value} {p : Option Addr} {fs : List Fl} (h : FlX W X p fs) : FlX (W.setCell ⟨X, k, none⟩ v) X p fs := fun h0 => by
  obtain ⟨g, e, hx, hf⟩ := h h0
  have hc : ∀ j, (W.setCell ⟨X, k, none⟩ v).cell? ⟨g, j, none⟩ = W.cell? ⟨g, j, none⟩ := fun j => World.cell?_of_block (w := W) (Below.heap_setCell _ _ _ _ (by simpa using hx))
  exact ⟨g, e, hx, ⟨fun i hi => (hc _).trans (hf.c0 i hi), fun i hi => (hc _).trans (hf.c1 i hi), fun i hi => (hc _).trans (hf.c2 i hi), fun i hi => (hc _).trans (hf.c3 i hi), by rw [World.size_setCell]; exact hf.lt⟩⟩
/-- the two longest so far -/
structure MxAt (w : World) (X a b : Nat) (p1 p2 : Option Addr) (fs1 fs2 : List Fl) (W : World) : Prop where
  box : BoxAt W X #[.int .i64 (a : Int), .int .i64 (b : Int)] 147
  h1 : FlX W X p1 fs1
  h2 : FlX W X p2 fs2
  b : Below w.heap.size w W
  lo : w.heap.size ≤ X
theorem MxAt.next {w W W' : World} {X a b : Nat} {p1 p2 : Option Addr} {fs1 fs2 : List Fl} (h : MxAt w X a b p1 p2 fs1 fs2 W) (hb : Below W.heap.size W W') : MxAt w X a b p1 p2 fs1 fs2 W' :=
  ⟨h.box.next hb, h.h1.next hb, h.h2.next hb, h.b.trans (hb.mono h.b.size), h.lo⟩
theorem MxAt.set0 {w W : World} {X a b : Nat} {p1 p2 : Option Addr} {fs1 fs2 : List Fl} (h : MxAt w X a b p1 p2 fs1 fs2 W) (v : Nat) : MxAt w X v b p1 p2 fs1 fs2 (W.setCell ⟨X, 0, none⟩ (.int .i64 (v : Int))) :=
  ⟨h.box.set 0 _, h.h1.set, h.h2.set, h.b.setCell (by simpa using h.lo) _, h.lo⟩
theorem MxAt.set1 {w W : World} {X a b : Nat} {p1 p2 : Option Addr} {fs1 fs2 : List Fl} (h : MxAt w X a b p1 p2 fs1 fs2 W) (v : Nat) : MxAt w X a v p1 p2 fs1 fs2 (W.setCell ⟨X, 1, none⟩ (.int .i64 (v : Int))) :=
  ⟨h.box.set 1 _, h.h1.set, h.h2.set, h.b.setCell (by simpa using h.lo) _, h.lo⟩
theorem maxT_take (fs : List Fl) (k : Nat) (h : k < fs.length) : maxT (fs.take (k + 1)) = max (maxT (fs.take k)) (nthF fs k).length := by
  rw [List.take_succ_eq_append_getElem h, maxT_snoc, nthF_get fs k h]
set_option maxRecDepth 100000 in
set_option maxHeartbeats 8000000 in
theorem TopMirrored_any (H : Nat) (p1 p2 p3 : Option Addr) (c1 c2 c3 : Nat) (ws rs sd : List Nat) (y : Nat) (w : World) (hH : H < 256) (hr : WordRow w p2 rs) (hrl : rs.length ≤ 9223372036854775807) (hy : y < 256) :
    Calls Try.prog 22 #[.agg (loomA H p1 p2 p3 ws.length c1 rs.length c2 sd.length c3), .int .u8 (y : Int)] w fun e w' => e = .returned (.bool true) ∧ Below w.heap.size w w' := by
  obtain ⟨w0, hw0⟩ : ∃ w0, w0 = w.alloc (.cells (loomA H p1 p2 p3 ws.length c1 rs.length c2 sd.length c3) 137) := ⟨_, rfl⟩
  have hb0 : Below w.heap.size w w0 := by rw [hw0]; exact (Below.refl _ _).alloc (Nat.le_refl _) _
  have hA : BoxAt w0 w.heap.size (loomA H p1 p2 p3 ws.length c1 rs.length c2 sd.length c3) 137 := by rw [hw0]; exact BoxAt.new _ _ _
  obtain ⟨hk3, hk4⟩ := loomL_bdM 10 rs.length (by omega)
  have H95 : Calls Try.prog 95 #[.agg (loomA H p1 p2 p3 ws.length c1 rs.length c2 sd.length c3)] w0 (MadeL (loomN H) (loomL 10 rs.length) (dsTo (loomN H) rs (loomL 10 rs.length)) w0) :=
    (armDesign_any H p1 p2 p3 ws.length c1 c2 sd.length c3 rs w0 hH (WordRow.next hr hb0) hrl).mono (by
      rintro e w' ⟨v, rfl, h1, h2⟩
      obtain ⟨g, c, rfl⟩ := row_slice h1 (by omega)
      obtain ⟨h3, h4, h5⟩ := nats_of_row h1 (by omega)
      exact ⟨g, c, rfl, h3, h5, h4, h2⟩)
  obtain ⟨hN1, hN2⟩ := loomN_bd H
  have hVd := dsTo_validM (loomN H) rs (loomL 10 rs.length) hN1 (by omega) hk3 (by omega)
  have hDl := dsTo_len (loomN H) rs (loomL 10 rs.length)
  obtain ⟨L, hL⟩ : ∃ L, loomL 10 rs.length = L := ⟨_, rfl⟩
  obtain ⟨N, hN⟩ : ∃ N, loomN H = N := ⟨_, rfl⟩
  rw [hL] at hk3 hk4
  rw [hN, hL] at H95 hVd hDl
  rw [hN] at hN1 hN2
  obtain ⟨DS, hDS⟩ : ∃ DS, dsTo N rs L = DS := ⟨_, rfl⟩
  rw [hDS] at H95 hVd hDl
  clear hN hDS hL
  obtain ⟨M, hM⟩ : ∃ M, N = M + 1 := ⟨N - 1, by omega⟩
  have hMi : (N : Int) - 1 = (M : Int) := by omega
  obtain ⟨m, hm⟩ : ∃ m, 1 + y % 2 = m := ⟨_, rfl⟩
  have hm1 : 1 ≤ m := by omega
  have hm2 : m ≤ 2 := by omega
  have hmI : (1 : Int) + (y : Int) % 2 = (m : Int) := by omega
  have hko := onceT_pos M 2
  obtain ⟨K, hK⟩ : ∃ K, onceT M 2 = K := ⟨_, rfl⟩
  obtain ⟨T, hT⟩ : ∃ T, K * m = T := ⟨_, rfl⟩
  obtain ⟨HS, hHS⟩ : ∃ HS, grpL M 2 m = HS := ⟨_, rfl⟩
  rw [hK] at hko
  have hKR : reflHooks N = K := by rw [hM, ← once_refl, hK]
  have hTb : 1 ≤ T ∧ T ≤ 46 := by
    have h1 : K * 1 ≤ K * m := Nat.mul_le_mul_left _ hm1
    have h2 : K * m ≤ K * 2 := Nat.mul_le_mul_left _ hm2
    have hK2 : K ≤ 2 * M + 1 := hko.2
    omega
  have hHl : HS.length = T := by rw [← hHS, grpL_len, hK, hT]
  have hHk : ∀ i, i < T → nthN HS i < N := fun i hi => by rw [← hHS, hM]; exact grpL_lt _ _ _ _ (by rw [hK, hT]; exact hi)
  have hTA : ∀ W b, NatsAt W b 0 HS → b < W.heap.size → TAt W b 0 N HS := fun W b h1 h2 => ⟨h1, h2, hN1, by omega, by rw [hHl]; omega, by rw [hHl]; omega, fun i hi => hHk i (by rw [← hHl]; exact hi)⟩
  have hCl : clothS (grpL (K - 1) 1 m) (painted (reflG DS N) L K) = clothS HS DS := by
    have := cloth_refl M m DS
    rw [hK, ← hM, hKR, hHS, hDl] at this
    exact this
  have hMr : ∀ k, k < T → nthN HS ((T - k) % T) = nthN HS k := fun k hk => by
    have h1 := hook_mir M m k hm1 (by rw [hK, hT]; omega)
    rw [hK, hT] at h1
    rw [← hHS, grpL_nth _ _ _ _ (by rw [hK, hT]; exact Nat.mod_lt _ (by omega)), grpL_nth _ _ _ _ (by rw [hK, hT]; exact hk)]
    exact h1
  have HM := Lib.hid hM
  have HMi := Lib.hid hMi
  have HmI := Lib.hid hmI
  have HKe := Lib.hid hK
  have HTe := Lib.hid hT
  have HHS := Lib.hid hHS
  have HKR := Lib.hid hKR
  have HHl := Lib.hid hHl
  have HHk := Lib.hid hHk
  have HTA := Lib.hid hTA
  have HCl := Lib.hid hCl
  have HMr := Lib.hid hMr
  have HW0 := Lib.hid hw0
  have Hb0 := Lib.hid hb0
  have a0 := hA.cell' 0 rfl
  have a1 := hA.cell' 1 rfl
  have a2 := hA.cell' 2 rfl
  have a3 := hA.cell' 3 rfl
  unfold loomA at HW0 H95 a0 a1 a2 a3 ⊢
  have HVd := Lib.hid hVd
  have HDl := Lib.hid hDl
  have H95' := Lib.hid H95
  have hK1 : 1 ≤ K := hko.1
  have hK2 : K ≤ 23 := by omega
  obtain ⟨hT1, hT2⟩ := hTb
  have hM2 : M < 24 := by omega
  clear hw0 hb0 hA hr hVd hDl H95 hM hMi hmI hK hT hHS hKR hHl hHk hTA hCl hMr hko hm
  go_enter Try.func22, Try.ntmps22
  go_wp2_with fail
  rw [← HW0.out]
  go_wp2_with fail
  refine H95'.out.mono ?_
  rintro e W1 ⟨g2, q2, rfl, hn2, hl2, hg2, hb1⟩
  clear HW0 H95' a0 a1 a2 a3
  go_upto_region 2 with fail
  obtain ⟨W2, hW2⟩ : ∃ W2, W2 = W1.alloc (.cells #[.int .i64 (N : Int), .slice (some ⟨g2, 0, none⟩) L q2] 37) := ⟨_, rfl⟩
  obtain ⟨D, hD⟩ : ∃ D, D = W1.heap.size := ⟨_, rfl⟩
  rw [← hW2, ← hD]
  have hbW2 : Below W1.heap.size W1 W2 := by rw [hW2]; exact (Below.refl _ _).alloc (Nat.le_refl _) _
  have hxD : BoxAt W2 D #[.int .i64 (N : Int), .slice (some ⟨g2, 0, none⟩) L q2] 37 := by rw [hW2, hD]; exact BoxAt.new _ _ _
  have z0 := hxD.cell' 0 rfl
  have hMi := HMi.out
  have hmI := HmI.out
  have Hn2 := Lib.hid (hn2.below hbW2 hg2)
  have hg22 : g2 < W2.heap.size := Nat.lt_of_lt_of_le hg2 hbW2.size
  have Hb2 := Lib.hid (Hb0.out.trans ((hb1.trans (hbW2.mono hb1.size)).mono Hb0.out.size))
  have HD2 := Lib.hid hxD
  have Hb3' := Lib.hid (show Below W2.heap.size W2 (W2.alloc (.cells #[.int .i64 0, .int .i64 (M : Int), .int .i64 2, .int .i64 (m : Int)] 32)) from (Below.refl _ _).alloc (Nat.le_refl _) _)
  have H24 := Lib.hid (call24g N M 2 m T W2.heap.size (W2.alloc (.cells #[.int .i64 0, .int .i64 (M : Int), .int .i64 2, .int .i64 (m : Int)] 32)) HM.out hM2 (.inr rfl) ⟨hm1, by omega⟩ (by rw [HKe.out, HTe.out]) (by omega) (BoxAt.new _ _ _))
  clear hW2 hn2 hl2 hg2 hb1 hbW2 hxD hD Hb0
  go_wp2_with fail
  refine H24.out.mono ?_
  rintro e W3 ⟨g6, q6, rfl, hn6, hl6, hg6, hb3⟩
  have hb23 := Hb3'.out.trans (hb3.mono Hb3'.out.size)
  go_upto_region 3 with fail
  obtain ⟨W4, hW4⟩ : ∃ W4, W4 = W3.alloc (.cells #[.int .i64 (N : Int), .slice (some ⟨g6, 0, none⟩) T q6] 26) := ⟨_, rfl⟩
  obtain ⟨E, hE⟩ : ∃ E, E = W3.heap.size := ⟨_, rfl⟩
  rw [← hW4, ← hE]
  have hb34 : Below W3.heap.size W3 W4 := by rw [hW4]; exact (Below.refl _ _).alloc (Nat.le_refl _) _
  have hT4 : TmS w D g2 q2 E g6 q6 N L T DS HS W4 := ⟨(HD2.out.next hb23).next hb34, by rw [hW4, hE]; exact BoxAt.new _ _ _, (Hn2.out.below hb23 hg22).below hb34 (Nat.lt_of_lt_of_le hg22 hb23.size), (HHS.out ▸ hn6).below hb34 hg6,
    Nat.lt_of_lt_of_le hg22 (Nat.le_trans hb23.size hb34.size), Nat.lt_of_lt_of_le hg6 hb34.size, (Hb2.out.trans (hb23.mono Hb2.out.size)).trans (hb34.mono (Nat.le_trans Hb2.out.size hb23.size))⟩
  have H96 := Lib.hid (call96 N L g2 q2 DS W4 HDl.out HVd.out hT4.nd hT4.l2)
  have z0 := hT4.d.cell' 0 rfl
  have z1 := hT4.d.cell' 1 rfl
  have HT4 := Lib.hid hT4
  clear hn6 hl6 hg6 hb3 hb23 hW4 hE hb34 hT4 H24 Hb3' Hb2 HD2 Hn2 hg22 hMi
  go_wp2_with fail
  refine H96.out.mono ?_
  rintro e W5 ⟨g5, q5, rfl, hn5, hl5, hg5, hb5⟩
  have H74 := Lib.hid (call74 N L g5 q5 K DS W5 HDl.out HVd.out HKR.out (by omega) hn5 hg5)
  have HT5 := Lib.hid (HT4.out.next hb5)
  clear hn5 hl5 hg5 hb5 z0 z1 H96 HT4
  go_wp2_with fail
  refine H74.out.mono ?_
  rintro e W6 ⟨gr, qr, rfl, hnr, hlr, hgr, hb6⟩
  have HT6 := Lib.hid (HT5.out.next hb6)
  clear H74 HT5 hlr hb6
  go_upto_region 4 with fail
  obtain ⟨W7, hW7⟩ : ∃ W7, W7 = W6.alloc (.cells #[.int .i64 (K : Int), .slice (some ⟨gr, 0, none⟩) L qr] 37) := ⟨_, rfl⟩
  obtain ⟨R, hR⟩ : ∃ R, R = W6.heap.size := ⟨_, rfl⟩
  rw [← hW7, ← hR]
  have hb7 : Below W6.heap.size W6 W7 := by rw [hW7]; exact (Below.refl _ _).alloc (Nat.le_refl _) _
  have hxR : BoxAt W7 R #[.int .i64 (K : Int), .slice (some ⟨gr, 0, none⟩) L qr] 37 := by rw [hW7, hR]; exact BoxAt.new _ _ _
  have HT7 := Lib.hid (HT6.out.next hb7)
  have Hnr := Lib.hid (hnr.below hb7 hgr)
  have hgr7 : gr < W7.heap.size := Nat.lt_of_lt_of_le hgr hb7.size
  have r0 := hxR.cell' 0 rfl
  have HR7 := Lib.hid hxR
  have hKa : ¬ (K : Int) < 1 := by omega
  have hKb : ¬ (24 : Int) < (K : Int) := by omega
  clear hW7 hR hb7 hxR hnr hgr HT6
  go_upto_region 6 with fail
  clear hKa hKb
  obtain ⟨P, hP⟩ : ∃ P, K = P + 1 := ⟨K - 1, by omega⟩
  have hPi : (K : Int) - 1 = (P : Int) := by omega
  have HCl := Lib.hid (show clothS (grpL P 1 m) (painted (reflG DS N) L K) = clothS HS DS by have := HCl.out; rw [show K - 1 = P by omega] at this; exact this)
  have HoP := Lib.hid (show onceT P 1 * m = T by have := once_str K hK1; rw [show K - 1 = P by omega] at this; rw [this]; exact HTe.out)
  have HP := Lib.hid hP
  have Hb8' := Lib.hid (show Below W7.heap.size W7 (W7.alloc (.cells #[.int .i64 0, .int .i64 (P : Int), .int .i64 1, .int .i64 (m : Int)] 32)) from (Below.refl _ _).alloc (Nat.le_refl _) _)
  have H24 := Lib.hid (call24g K P 1 m T W7.heap.size (W7.alloc (.cells #[.int .i64 0, .int .i64 (P : Int), .int .i64 1, .int .i64 (m : Int)] 32)) hP (by omega) (.inl rfl) ⟨hm1, by omega⟩ HoP.out (by omega) (BoxAt.new _ _ _))
  clear hP
  go_wp2_with fail
  refine H24.out.mono ?_
  rintro e W8 ⟨gs, qs, rfl, hns, hls, hgs, hb8⟩
  have hb78 := Hb8'.out.trans (hb8.mono Hb8'.out.size)
  have HT8 := Lib.hid (HT7.out.next hb78)
  have HR8 := Lib.hid (HR7.out.next hb78)
  have Hnr := Lib.hid (Hnr.out.below hb78 hgr7)
  have hgr8 : gr < W8.heap.size := Nat.lt_of_lt_of_le hgr7 hb78.size
  clear H24 Hb8' hls hb8 hb78 HT7 HR7 hgr7 r0 hPi hmI
  go_upto_region 7 with fail
  obtain ⟨W9, hW9⟩ : ∃ W9, W9 = W8.alloc (.cells #[.int .i64 (K : Int), .slice (some ⟨gs, 0, none⟩) T qs] 26) := ⟨_, rfl⟩
  obtain ⟨S, hS⟩ : ∃ S, S = W8.heap.size := ⟨_, rfl⟩
  rw [← hW9, ← hS]
  have hb9 : Below W8.heap.size W8 W9 := by rw [hW9]; exact (Below.refl _ _).alloc (Nat.le_refl _) _
  have HS9 := Lib.hid (show BoxAt W9 S #[.int .i64 (K : Int), .slice (some ⟨gs, 0, none⟩) T qs] 26 by rw [hW9, hS]; exact BoxAt.new _ _ _)
  have HT9 := Lib.hid (HT8.out.next hb9)
  have HR9 := Lib.hid (HR8.out.next hb9)
  have Hnr := Lib.hid (Hnr.out.below hb9 hgr8)
  have hgr9 : gr < W9.heap.size := Nat.lt_of_lt_of_le hgr8 hb9.size
  have Hns := Lib.hid (hns.below hb9 hgs)
  have hgs9 : gs < W9.heap.size := Nat.lt_of_lt_of_le hgs hb9.size
  clear hW9 hS hb9 HT8 HR8 hgr8 hns hgs
  refine region_tm7 N L g2 q2 D g6 q6 E T DS HS HDl.out HVd.out HT9.out.nd HT9.out.l2 HHl.out hT1 (by omega) HTA.out HT9.out.nh HT9.out.l6 HHk.out HT9.out.d HT9.out.e rfl ?hops (by kernel_rfl) (by kernel_rfl) (by kernel_rfl) (by kernel_rfl) ?hsz ?hout ?hend
  case hops => exact ⟨⟨_, _, _, rfl, by kernel_rfl⟩, ⟨_, _, _, rfl, by kernel_rfl⟩, ⟨_, _, _, rfl, by kernel_rfl⟩, ⟨_, _, _, rfl, by kernel_rfl⟩, ⟨_, _, _, rfl, by kernel_rfl⟩, ⟨_, _, _, rfl, by kernel_rfl⟩, ⟨_, _, _, rfl, by kernel_rfl⟩, ⟨_, _, _, rfl, by kernel_rfl⟩, ⟨_, _, _, rfl, by kernel_rfl⟩, ⟨_, _, _, rfl, by kernel_rfl⟩⟩
  case hsz => intro d hd; simp only [List.mem_cons, List.not_mem_nil, or_false] at hd; show d < 245; omega
  case hout => exact ⟨rfl, rfl⟩
  case hend =>
    intro g90 q90 G90 Q90 g92 q92 G92 Q92 g93 q93 G93 Q93 P90 P92 P93 u89 u90 u91 u92 u93 u88 u94 u95 W10 hb10 hm90 hB90 hm92 hB92 hm93 hB93
    simp only [putL, List.foldl, Act.put, List.setIfInBounds_toArray, List.set_cons_succ, List.set_cons_zero]
    have HC10 := Lib.hid (show StrsAt W10 g93 0 (clothS HS DS) from hm93.1)
    have hg93 : g93 < W10.heap.size := hm93.2
    have hT10 := HT9.out.next hb10
    have hR10 := HR9.out.next hb10
    have hS10 := HS9.out.next hb10
    have s0 := hS10.cell' 0 rfl
    have s1 := hS10.cell' 1 rfl
    have r0 := hR10.cell' 0 rfl
    have r1 := hR10.cell' 1 rfl
    have hVr : Valid K (painted (reflG DS N) L K) := ⟨hK1, by omega, by rw [painted_len]; omega, by rw [painted_len]; omega, fun i => by
      by_cases hi : i < L
      · rw [painted_nthT _ _ _ _ hi]; exact rowTo_lt _ _
      · have : nthN (painted (reflG DS N) L K) i = 0 := by unfold nthN; rw [List.getElem?_eq_none (by rw [painted_len]; omega)]; rfl
        rw [this]; exact Nat.pow_pos (by decide)⟩
    have H38 := Lib.hid (call38 K T L gs qs gr qr (grpL P 1 m) (painted (reflG DS N) L K) W10 (by rw [grpL_len, HoP.out]) (painted_len _ _ _) hT1 (by omega) (fun i hi => by rw [HP.out]; exact grpL_lt _ _ _ _ (by rw [HoP.out]; exact hi)) hVr (Hns.out.below hb10 hgs9) (Nat.lt_of_lt_of_le hgs9 hb10.size) (Hnr.out.below hb10 hgr9) (Nat.lt_of_lt_of_le hgr9 hb10.size))
    have HT10 := Lib.hid hT10
    clear hb10 hm90 hB90 hm92 hB92 hm93 hB93 hT10 hR10 hS10 hVr HT9 HR9 HS9 Hnr hgr9 Hns hgs9
    go_wp2_with fail
    refine H38.out.mono ?_
    rintro e W11 ⟨gb, qb, rfl, hnb, hlb, hgb, hb11⟩
    have HC11 := Lib.hid (HC10.out.below hb11 hg93)
    have hg93b : g93 < W11.heap.size := Nat.lt_of_lt_of_le hg93 hb11.size
    have Hnb := Lib.hid (HCl.out ▸ hnb)
    have hT11 := HT10.out.next hb11
    have H100 := Lib.hid (call100 N T g6 q6 HS W11 HHl.out hT1 (by omega) hT11.nh hT11.l6)
    have z0 := hT11.e.cell' 0 rfl
    have z1 := hT11.e.cell' 1 rfl
    have HT11 := Lib.hid hT11
    clear hnb hlb hb11 H38 HT10 HC10 hg93 s0 s1 r0 r1 hT11
    go_wp2_with fail
    refine H100.out.mono ?_
    rintro e W12 ⟨gm, qm, rfl, hnm, hlm, hgm, hb12⟩
    have H32 := Lib.hid (call32 N M m T gm qm W12 hm1 (by rw [HKe.out, HTe.out]) (HHS.out.symm ▸ HTA.out W12 gm hnm hgm))
    have HC12 := Lib.hid (HC11.out.below hb12 hg93b)
    have hg93c : g93 < W12.heap.size := Nat.lt_of_lt_of_le hg93b hb12.size
    have Hnb2 := Lib.hid (Hnb.out.below hb12 hgb)
    have hgb2 : gb < W12.heap.size := Nat.lt_of_lt_of_le hgb hb12.size
    have HT12 := Lib.hid (HT11.out.next hb12)
    clear hnm hlm hgm hb12 HC11 hg93b Hnb hgb HT11 z0 z1 H100
    go_wp2_with fail
    refine H32.out.mono ?_
    rintro e W13 ⟨rfl, hb13⟩
    have hg93d : g93 < W13.heap.size := Nat.lt_of_lt_of_le hg93c hb13.size
    have hgb3 : gb < W13.heap.size := Nat.lt_of_lt_of_le hgb2 hb13.size
    have HC13 := Lib.hid (HC12.out.below hb13 hg93c)
    have H103 := Lib.hid (call103 L g93 q93 gb qb (clothS HS DS) W13 (by rw [clothS_len]; exact HDl.out) (by omega) HC13.out (Hnb2.out.below hb13 hgb2) hg93d hgb3)
    have HT13 := Lib.hid (HT12.out.next hb13)
    clear hb13 HC12 hg93c Hnb2 hgb2 HT12 H32 hgb3
    go_wp2_with fail
    refine H103.out.mono ?_
    rintro e W14 ⟨rfl, hb14⟩
    have hT14 := HT13.out.next hb14
    have HC14 := Lib.hid (HC13.out.below hb14 hg93d)
    have hg93e : g93 < W14.heap.size := Nat.lt_of_lt_of_le hg93d hb14.size
    have z1 := hT14.e.cell' 1 rfl
    have HT14 := Lib.hid hT14
    clear hb14 HT13 HC13 hg93d hT14 H103
    go_wp2_with fail
    clear z1
    go_loopw [21] (fun i wr => ∃ k : Nat, k ≤ L ∧ i = .int .i64 k ∧ Below W14.heap.size W14 wr) (fun i _ => L - (intOf i).toNat)
    case atStart => exact ⟨0, Nat.zero_le _, rfl, Below.refl _ _⟩
    case round =>
      obtain ⟨k, hk, rfl, hbw⟩ := hrel
      by_cases hlt : k < L
      · have hltI : (k : Int) < (L : Int) := by omega
        have HCw := Lib.hid (HC14.out.below hbw hg93e)
        have c0 := HCw.out k (by rw [clothS_len, HDl.out]; exact hlt)
        rw [Nat.zero_add] at c0
        have hsb : StrB (nthB (clothS HS DS) k) T (pickP HS (nthN DS k)) := by
          have := pick_strB HS (nthN DS k) (by rw [HHl.out]; exact hT1) (by rw [HHl.out]; omega)
          rw [HHl.out] at this
          rw [clothS_nth HS DS k (by rw [HDl.out]; exact hlt)]
          exact this
        obtain ⟨s, hs⟩ : ∃ s, nthB (clothS HS DS) k = s := ⟨_, rfl⟩
        rw [hs] at c0 hsb
        have hsz : (s.size : Int) = (T : Int) := by rw [hsb.size]
        have HSb := Lib.hid hsb
        have HBw := Lib.hid hbw
        have HSz := Lib.hid hsz
        clear hsb hbw
        go_wp2_with fail
        go_loopw [22] (fun i wr => ∃ l : Nat, l ≤ T ∧ i = .int .i64 l ∧ Below W14.heap.size W14 wr) (fun i _ => T - (intOf i).toNat)
        case atStart => exact ⟨0, Nat.zero_le _, rfl, HBw.out⟩
        case round =>
          obtain ⟨l, hl, rfl, hbv⟩ := hrel
          clear c0 HCw
          by_cases hlT : l < T
          · have hlTI : (l : Int) < (T : Int) := by omega
            have hq : (T - l) % T < T := Nat.mod_lt _ (by omega)
            have hby : byteP (pickP HS (nthN DS k)) ((T - l) % T) = byteP (pickP HS (nthN DS k)) l := by
              rw [byteP_eq, pickP_bit _ _ _ (by rw [HHl.out]; exact hq), pickP_bit _ _ _ (by rw [HHl.out]; exact hlT), HMr.out l hlT]
            obtain ⟨q, hqe⟩ : ∃ q, (T - l) % T = q := ⟨_, rfl⟩
            rw [hqe] at hq hby
            have hr1 : ((T : Int) - (l : Int)) % (T : Int) = (q : Int) := by
              rw [show (T : Int) - (l : Int) = ((T - l : Nat) : Int) by omega, ← Int.natCast_emod, hqe]
            have IK := fun W => HSb.out.idx hlT W
            have IQ := fun W => HSb.out.idx hq W
            have c0 := (HC14.out.below hbv hg93e) k (by rw [clothS_len, HDl.out]; exact hlt)
            rw [Nat.zero_add, hs] at c0
            have hn0 : ¬ T = 0 := by omega
            have HBv := Lib.hid hbv
            clear hqe hbv hs
            go_wp2_with fail
            go_quiet (fail)
            all_goals go_wp2_with fail
            all_goals go_roundw
            all_goals first | (simp [intOf]; omega) | exact ⟨l + 1, by omega, by go_num, HBv.out.trans ((below_drewN _ _ _).mono HBv.out.size)⟩
          · obtain rfl : l = T := by omega
            have HBv := Lib.hid hbv
            have hlTI : ¬ (l : Int) < (l : Int) := by omega
            clear hbv hs
            go_wp2_with fail
            go_roundw
            case rel => exact ⟨k + 1, by omega, by go_num, HBv.out⟩
            case measure => simp [intOf]; omega
      · obtain rfl : L = k := by omega
        have HT15 := Lib.hid (HT14.out.next hbw)
        have hltI : ¬ (L : Int) < (L : Int) := by omega
        clear hbw HC14 hg93e HT14
        go_upto_region 23 with fail
        obtain ⟨T2, hT2e⟩ : ∃ T2, T + T = T2 := ⟨_, rfl⟩
        refine region_tm23 N g6 q6 E T T2 HS HHl.out hT1 (by omega) HTA.out HT15.out.nh HT15.out.l6 hT2e (by omega) HT15.out.e rfl ?hops (by kernel_rfl) (by kernel_rfl) (by kernel_rfl) (by kernel_rfl) ?hsz ?hout ?hend
        case hops => exact ⟨⟨_, _, _, rfl, by kernel_rfl⟩, ⟨_, _, _, rfl, by kernel_rfl⟩, ⟨_, _, _, rfl, by kernel_rfl⟩, ⟨_, _, _, rfl, by kernel_rfl⟩, ⟨_, _, _, rfl, by kernel_rfl⟩, ⟨_, _, _, rfl, by kernel_rfl⟩, ⟨_, _, _, rfl, by kernel_rfl⟩, ⟨_, _, _, rfl, by kernel_rfl⟩, ⟨_, _, _, rfl, by kernel_rfl⟩, ⟨_, _, _, rfl, by kernel_rfl⟩, ⟨_, _, _, rfl, by kernel_rfl⟩⟩
        case hsz => intro d hd; simp only [List.mem_cons, List.not_mem_nil, or_false] at hd; show d < 245; omega
        case hout => exact rfl
        case hend =>
          intro g172 q172 G172 Q172 g174 q174 G174 Q174 g175 q175 G175 Q175 g23 q23 G23 Q23 P172 P174 P175 P23 u171 u172 u173 u174 u175 u170 u176 u177 W16 hb16 hm172 hB172 hm174 hB174 hm175 hB175 hl23 hu23 hst
          simp only [putL, List.foldl, Act.put, List.setIfInBounds_toArray, List.set_cons_succ, List.set_cons_zero]
          have HT16 := Lib.hid (HT15.out.next hb16)
          have HB16 := Lib.hid hst
          have Hn16 := Lib.hid (show NatsAt W16 g175 0 (HS ++ HS) from hm175.1)
          have hg16 : g175 < W16.heap.size := hm175.2
          clear hb16 hm172 hB172 hm174 hB174 hm175 hB175 hl23 hu23 hst HT15
          obtain ⟨F, hF⟩ : ∃ F, (upTo (flO HS DS 1) L).length = F := ⟨_, rfl⟩
          have hFb : F ≤ 46 * 10 := by
            have h1 := flO_len HS DS 1 (by rw [HHl.out]; exact hT1) L
            rw [hF, HHl.out] at h1
            exact Nat.le_trans h1 (Nat.mul_le_mul hT2 hk4)
          go_upto_region 24 with fail
          refine region_tm24 N L g2 q2 D g6 q6 E T F DS HS HDl.out HVd.out HT16.out.nd HT16.out.l2 HHl.out hT1 (by omega) HTA.out HT16.out.nh HT16.out.l6 hF HT16.out.d HT16.out.e rfl ?hops (by kernel_rfl) (by kernel_rfl) (by kernel_rfl) (by kernel_rfl) ?hsz ?hout ?hend
          case hops => exact ⟨⟨_, _, _, rfl, by kernel_rfl⟩, ⟨_, _, _, rfl, by kernel_rfl⟩, ⟨_, _, _, rfl, by kernel_rfl⟩, ⟨_, _, _, rfl, by kernel_rfl⟩, ⟨_, _, _, rfl, by kernel_rfl⟩, ⟨_, _, _, rfl, by kernel_rfl⟩, ⟨_, _, _, rfl, by kernel_rfl⟩, ⟨_, _, _, rfl, by kernel_rfl⟩, ⟨_, _, _, rfl, by kernel_rfl⟩⟩
          case hsz => intro d hd; simp only [List.mem_cons, List.not_mem_nil, or_false] at hd; show d < 245; omega
          case hout => exact ⟨rfl, rfl⟩
          case hend =>
            intro g181 q181 G181 Q181 g182 q182 G182 Q182 P181 P182 u179 u180 u181 u182 u178 u183 u184 W17 hb17 hm181 hB181 hm182 hB182
            simp only [putL, List.foldl, Act.put, List.setIfInBounds_toArray, List.set_cons_succ, List.set_cons_zero]
            obtain ⟨fs, hfs⟩ : ∃ fs, upTo (flO HS DS 1) L = fs := ⟨_, rfl⟩
            have HP1 := Lib.hid (show FlP W17 P182 fs by rw [← hfs]; exact hm182)
            have hmx : maxT (upTo (flO (HS ++ HS) DS 1) L) = maxT fs := by rw [← hfs]; exact max_twice HS DS L (by rw [HHl.out]; exact hT1) (by rw [HHl.out]; omega)
            rw [hfs] at hF
            have HF := Lib.hid hF
            have HT17 := Lib.hid (HT16.out.next hb17)
            have hB17 := HB16.out.next hb17
            have x0 := hB17.cell' 0 rfl
            have x1 := hB17.cell' 1 rfl
            have z0 := HT17.out.d.cell' 0 rfl
            have z1 := HT17.out.d.cell' 1 rfl
            obtain ⟨F2, hF2⟩ : ∃ F2, (upTo (flO (HS ++ HS) DS 1) L).length = F2 := ⟨_, rfl⟩
            have hll : (HS ++ HS).length = T2 := by rw [List.length_append, HHl.out]; exact hT2e
            have hF2b : F2 ≤ 92 * 10 := by
              have h1 := flO_len (HS ++ HS) DS 1 (by omega) L
              rw [hF2, hll] at h1
              exact Nat.le_trans h1 (Nat.mul_le_mul (by omega) hk4)
            have hTA2 : TAt W17 g175 0 N (HS ++ HS) := ⟨Hn16.out.below hb17 hg16, Nat.lt_of_lt_of_le hg16 hb17.size, hN1, by omega, by omega, by omega, fun i hi => by
              unfold nthN
              by_cases h : i < HS.length
              · rw [List.getElem?_append_left h]; exact HHk.out i (by rw [← HHl.out]; exact h)
              · rw [List.getElem?_append_right (by omega)]; exact HHk.out (i - HS.length) (by have := HHl.out; omega)⟩
            have H39 := Lib.hid (call39 N T2 L F2 g175 q175 g2 q2 (HS ++ HS) DS W17 hll HDl.out hF2 hTA2 ⟨HT17.out.nd, HT17.out.l2, HVd.out⟩)
            obtain ⟨fs2, hfs2⟩ : ∃ fs2, upTo (flO (HS ++ HS) DS 1) L = fs2 := ⟨_, rfl⟩
            rw [hfs2] at H39 hmx hF2
            have HF2 := Lib.hid hF2
            have HMx := Lib.hid hmx
            clear hb17 hm181 hB181 hm182 hB182 hfs hfs2 hmx hF hF2 hB17 hTA2 hll HT16 HB16 Hn16 hg16
            go_wp2_with fail
            refine H39.out.mono ?_
            rintro e W18 ⟨P2, q3, rfl, hP2, _, hb18⟩
            have HT18 := Lib.hid (HT17.out.next hb18)
            have HP1' := Lib.hid (HP1.out.next hb18)
            have HP2' := Lib.hid hP2
            clear hP2 hb18 x0 x1 z0 z1 H39 HT17 HP1
            go_upto_region 27 with fail
            obtain ⟨W19, hW19⟩ : ∃ W19, W19 = W18.alloc (.cells #[.int .i64 0, .int .i64 0] 147) := ⟨_, rfl⟩
            obtain ⟨X, hX⟩ : ∃ X, X = W18.heap.size := ⟨_, rfl⟩
            rw [← hW19, ← hX]
            have hb19 : Below W18.heap.size W18 W19 := by rw [hW19]; exact (Below.refl _ _).alloc (Nat.le_refl _) _
            have HM0 := Lib.hid (show MxAt w X 0 0 P182 P2 fs fs2 W19 from ⟨by rw [hW19, hX]; exact BoxAt.new _ _ _, FlX.of HP1'.out hb19 hX, FlX.of HP2'.out hb19 hX, HT18.out.b.trans (hb19.mono HT18.out.b.size), by have := HT18.out.b.size; omega⟩)
            clear hW19 hX hb19 HT18 HP1' HP2'
            go_wp2_with fail
            go_loopw [30] (fun i wr => ∃ k : Nat, k ≤ F ∧ i = .int .i64 k ∧ MxAt w X (maxT (fs.take k)) 0 P182 P2 fs fs2 wr) (fun i _ => F - (intOf i).toNat)
            case atStart => exact ⟨0, Nat.zero_le _, rfl, HM0.out⟩
            case round =>
              obtain ⟨k, hk, rfl, hM⟩ := hrel
              by_cases hlt : k < F
              · have hltI : (k : Int) < (F : Int) := by omega
                obtain ⟨g, hPe, hgX, hfl⟩ := hM.h1 (by rw [HF.out]; omega)
                have c2 := hfl.c2 k (by rw [HF.out]; exact hlt)
                have x0 := hM.box.cell' 0 rfl
                have f0 := hM.box.frozen 0
                have hX' := hM.box.lt
                have hst := maxT_take fs k (by rw [HF.out]; exact hlt)
                have HMk := Lib.hid hM
                obtain ⟨a, ha⟩ : ∃ a, maxT (fs.take k) = a := ⟨_, rfl⟩
                obtain ⟨v, hv⟩ : ∃ v, (nthF fs k).length = v := ⟨_, rfl⟩
                rw [ha] at x0 hst HMk
                rw [hv] at c2 hst
                subst hPe
                have hgX2 : ¬ g = X := hgX
                by_cases hc : a < v
                · have hcI : (a : Int) < (v : Int) := by omega
                  have Hst := Lib.hid (show maxT (fs.take (k + 1)) = v by omega)
                  clear hM hfl hst ha hv hgX HM0
                  go_wp2_with fail
                  go_region
                  all_goals go_wp2_with fail
                  all_goals go_roundw
                  all_goals first | exact ⟨k + 1, by omega, by go_num, by rw [Hst.out]; exact (HMk.out.set0 v).next (below_drew1 _)⟩ | (simp [intOf]; omega)
                · have hcI : ¬ (a : Int) < (v : Int) := by omega
                  have Hst := Lib.hid (show maxT (fs.take (k + 1)) = a by omega)
                  clear hM hfl hst ha hv hgX HM0
                  go_wp2_with fail
                  go_region
                  all_goals go_wp2_with fail
                  all_goals go_roundw
                  all_goals first | exact ⟨k + 1, by omega, by go_num, by rw [Hst.out]; exact (HMk.out.set0 a).next (below_drew1 _)⟩ | (simp [intOf]; omega)
              · obtain rfl : F = k := by omega
                have hltI : ¬ (F : Int) < (F : Int) := by omega
                have hM2 : MxAt w X (maxT fs) (maxT (fs2.take 0)) P182 P2 fs fs2 wr := by
                  rw [List.take_of_length_le (by rw [HF.out]; exact Nat.le_refl _)] at hM
                  exact hM
                have HM2 := Lib.hid hM2
                clear hM hM2 HM0
                go_wp2_with fail
                go_loopw [31] (fun i wr => ∃ k : Nat, k ≤ F2 ∧ i = .int .i64 k ∧ MxAt w X (maxT fs) (maxT (fs2.take k)) P182 P2 fs fs2 wr) (fun i _ => F2 - (intOf i).toNat)
                case atStart => exact ⟨0, Nat.zero_le _, rfl, HM2.out⟩
                case round =>
                  obtain ⟨k, hk, rfl, hM⟩ := hrel
                  by_cases hlt : k < F2
                  · have hltI : (k : Int) < (F2 : Int) := by omega
                    obtain ⟨g, hPe, hgX, hfl⟩ := hM.h2 (by rw [HF2.out]; omega)
                    have c2 := hfl.c2 k (by rw [HF2.out]; exact hlt)
                    have x0 := hM.box.cell' 1 rfl
                    have f0 := hM.box.frozen 1
                    have hX' := hM.box.lt
                    have hst := maxT_take fs2 k (by rw [HF2.out]; exact hlt)
                    have HMk := Lib.hid hM
                    obtain ⟨a, ha⟩ : ∃ a, maxT (fs2.take k) = a := ⟨_, rfl⟩
                    obtain ⟨v, hv⟩ : ∃ v, (nthF fs2 k).length = v := ⟨_, rfl⟩
                    rw [ha] at x0 hst HMk
                    rw [hv] at c2 hst
                    subst hPe
                    have hgX2 : ¬ g = X := hgX
                    by_cases hc : a < v
                    · have hcI : (a : Int) < (v : Int) := by omega
                      have Hst := Lib.hid (show maxT (fs2.take (k + 1)) = v by omega)
                      clear hM hfl hst ha hv hgX HM2
                      go_wp2_with fail
                      go_region
                      all_goals go_wp2_with fail
                      all_goals go_roundw
                      all_goals first | exact ⟨k + 1, by omega, by go_num, by rw [Hst.out]; exact (HMk.out.set1 v).next (below_drew1 _)⟩ | (simp [intOf]; omega)
                    · have hcI : ¬ (a : Int) < (v : Int) := by omega
                      have Hst := Lib.hid (show maxT (fs2.take (k + 1)) = a by omega)
                      clear hM hfl hst ha hv hgX HM2
                      go_wp2_with fail
                      go_region
                      all_goals go_wp2_with fail
                      all_goals go_roundw
                      all_goals first | exact ⟨k + 1, by omega, by go_num, by rw [Hst.out]; exact (HMk.out.set1 a).next (below_drew1 _)⟩ | (simp [intOf]; omega)
                  · obtain rfl : F2 = k := by omega
                    have hltI2 : ¬ (F2 : Int) < (F2 : Int) := by omega
                    rw [List.take_of_length_le (by rw [HF2.out]; exact Nat.le_refl _), HMx.out] at hM
                    have x0 := hM.box.cell' 0 rfl
                    have x1 := hM.box.cell' 1 rfl
                    have Hb := Lib.hid hM.b
                    clear hM HM2
                    go_wp2_with fail
                    refine (armPoint_any _).mono ?_
                    rintro e W30 ⟨rfl, hb30⟩
                    have Hb30 := Lib.hid (Hb.out.trans (hb30.mono Hb.out.size))
                    clear hb30 Hb x0 x1
                    go_wp2_with fail
                    refine (armTie_any _).mono ?_
                    rintro e W31 ⟨rfl, hb31⟩
                    have Hb31 := Lib.hid (Hb30.out.trans (hb31.mono Hb30.out.size))
                    clear hb31 Hb30
                    go_wp2_with fail
                    go_ret
                    exact ⟨rfl, Hb31.out⟩
end Go.Proofs.Ytdmgffoikebgkaa
