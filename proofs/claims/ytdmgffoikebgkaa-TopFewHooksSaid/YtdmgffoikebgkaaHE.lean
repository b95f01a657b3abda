/- The statements' helpers: a loom's harness. -/
import Derived.Test.YtdmgffoikebgkaaHC
namespace Go.Proofs.Ytdmgffoikebgkaa
open Go.RowKit Go.Shelf
attribute [local go_sem] Oper.semAt_some

def loomN (H : Nat) : Nat := H % 12 + 1
theorem loomN_bd (H : Nat) : 1 ≤ loomN H ∧ loomN H ≤ 12 := by unfold loomN; omega
/-- 1, or as many as there are, but no more than m -/
def loomL (m l : Nat) : Nat := if l = 0 then 1 else min l m
def hsG (n : Nat) (ws : List Nat) (i : Nat) : Nat := if i < ws.length then nthN ws i % n else 0
def hsTo (n : Nat) (ws : List Nat) (k : Nat) : List Nat := (List.range k).map (hsG n ws)
theorem hsTo_succ (n : Nat) (ws : List Nat) (k : Nat) : hsTo n ws (k + 1) = hsTo n ws k ++ [hsG n ws k] := by simp [hsTo, List.range_succ]
theorem hsTo_len (n : Nat) (ws : List Nat) (k : Nat) : (hsTo n ws k).length = k := by simp [hsTo]
/-- what the helper keeps between two warps -/
structure LoAt (w0 : World) (A : Array Value) (t n : Nat) (v : Value) (rows : List Nat) (W : World) : Prop where
  arg : BoxAt W w0.heap.size A 137
  res : BoxAt W (w0.heap.size + 1) #[.int .i64 0, .slice none 0 0] t
  box : BoxAt W (w0.heap.size + 2) #[.int .i64 (n : Int), v] t
  row : W.ownsRow (w0.heap.size + 3) 3 1 v rows.length (rows.map natV)
  b : Below w0.heap.size w0 W
theorem LoAt.next {w0 W W' : World} {A : Array Value} {t n : Nat} {v : Value} {rows : List Nat} (h : LoAt w0 A t n v rows W) (hb : Below W.heap.size W W') : LoAt w0 A t n v rows W' :=
  ⟨h.arg.next hb, h.res.next hb, h.box.next hb, own_next h.row hb, h.b.trans (hb.mono h.b.size)⟩
theorem LoAt.size {w0 W : World} {A : Array Value} {t n : Nat} {v : Value} {rows : List Nat} (h : LoAt w0 A t n v rows W) : w0.heap.size + 3 ≤ W.heap.size := h.box.lt
theorem LoAt.grew {w0 W W' : World} {A : Array Value} {t n g5 cap z : Nat} {v : Value} {rows : List Nat} (h : LoAt w0 A t n v rows W)
    (hg : Grew (w0.heap.size + 3) 3 1 W W' v g5 cap (rows.length + 1) (rows.map natV ++ [.int .i64 (z : Int)])) :
    BoxAt W' (w0.heap.size + 2) #[.int .i64 (n : Int), v] t ∧ LoAt w0 A t n (.slice (some ⟨g5, 0, none⟩) (rows.length + 1) cap) (rows ++ [z]) (W'.setCell ⟨w0.heap.size + 2, 1, none⟩ (.slice (some ⟨g5, 0, none⟩) (rows.length + 1) cap)) := by
  have hn : ∀ j, j < w0.heap.size + 3 → some j ≠ v.ownBlock := fun j hj => own_far h.row hj
  have hb := h.box.kept hg.grow (hn _ (by omega))
  refine ⟨hb, ⟨(h.arg.kept hg.grow (hn _ (by omega))).other _ _ (by simp), (h.res.kept hg.grow (hn _ (by omega))).other _ _ (by simp), hb.set 1 _, ?_, ?_⟩⟩
  · have hr := hg.row
    have := own_set hr ⟨w0.heap.size + 2, 1, none⟩ (.slice (some ⟨g5, 0, none⟩) (rows.length + 1) cap) (own_far hr (by simp))
    rw [List.length_append, List.length_singleton, List.map_append]
    exact this
  · exact (h.b.grown hg.grow h.b.size (fun j hj => by have := (ownBlock_ge h.row hj).1; omega)).setCell (by simp) _
def loomA (H : Nat) (p1 p2 p3 : Option Addr) (l1 c1 l2 c2 l3 c3 : Nat) : Array Value := #[.int .u8 (H : Int), .slice p1 l1 c1, .slice p2 l2 c2, .slice p3 l3 c3]
theorem mod12 (H : Nat) : ∃ m : Nat, (H : Int) % 12 = (m : Int) ∧ loomN H = m + 1 := ⟨H % 12, (Int.natCast_emod H 12).symm, rfl⟩

set_option maxRecDepth 100000 in
set_option maxHeartbeats 2000000 in
theorem armHarness_any (H : Nat) (p1 p2 p3 : Option Addr) (c1 l2 c2 l3 c3 : Nat) (ws : List Nat) (w : World) (hH : H < 256) (hw : ByteRow w p1 ws) (hl : ws.length ≤ 9223372036854775807) :
    Calls Try.prog 94 #[.agg (loomA H p1 p2 p3 ws.length c1 l2 c2 l3 c3)] w fun e w' =>
      ∃ v, e = .returned (.agg #[.int .i64 (loomN H : Int), v]) ∧ w'.ownsRow w.heap.size 3 1 v (loomL 30 ws.length) ((hsTo (loomN H) ws (loomL 30 ws.length)).map natV) ∧ Below w.heap.size w w' := by
  obtain ⟨m, hm1, hm2⟩ := mod12 H
  have hnb := loomN_bd H
  obtain ⟨n, hn⟩ : ∃ n, loomN H = n := ⟨_, rfl⟩
  rw [hn] at hm2 hnb ⊢
  have hn3 : (1 : Int) + (m : Int) = (n : Int) := by omega
  have hL0 : LoAt w (loomA H p1 p2 p3 ws.length c1 l2 c2 l3 c3) 26 n (.slice none 0 0) (hsTo n ws 0)
      (((w.alloc (.cells (loomA H p1 p2 p3 ws.length c1 l2 c2 l3 c3) 137)).alloc (.cells #[.int .i64 0, .slice none 0 0] 26)).alloc (.cells #[.int .i64 (n : Int), .slice none 0 0] 26)) := by
    have h2 := BoxAt.new (w.alloc (.cells (loomA H p1 p2 p3 ws.length c1 l2 c2 l3 c3) 137)) #[.int .i64 0, .slice none 0 0] 26
    have h3 := BoxAt.new ((w.alloc (.cells (loomA H p1 p2 p3 ws.length c1 l2 c2 l3 c3) 137)).alloc (.cells #[.int .i64 0, .slice none 0 0] 26)) #[.int .i64 (n : Int), .slice none 0 0] 26
    simp only [World.size_alloc] at h2 h3
    exact ⟨(BoxAt.new _ _ _).below (((Below.refl (w.heap.size + 1) _).alloc (by simp) _).alloc (by simp) _) (by omega), h2.below ((Below.refl (w.heap.size + 2) _).alloc (by simp) _) (by omega), h3, World.ownsRow_nil _ _ _ _,
      (((Below.refl _ _).alloc (Nat.le_refl _) _).alloc (by simp) _).alloc (by simp; omega) _⟩
  have HL0 := Lib.hid hL0
  have Hw := Lib.hid hw
  clear hL0 hw hn hm2
  unfold loomA at HL0 ⊢
  go_enter Try.func94, Try.ntmps94
  go_wp2
  clear hm1 hn3
  go_loopw [4] (fun i wr => ∃ (k : Nat) (v : Value), k ≤ loomL 30 ws.length ∧ i = .int .i64 k ∧ LoAt w #[.int .u8 (H : Int), .slice p1 ws.length c1, .slice p2 l2 c2, .slice p3 l3 c3] 26 n v (hsTo n ws k) wr) (fun i _ => loomL 30 ws.length - (intOf i).toNat)
  case atStart => exact ⟨0, _, Nat.zero_le _, rfl, HL0.out⟩
  case round =>
    obtain ⟨k, v, hk, rfl, hL⟩ := hrel
    clear HL0
    obtain ⟨rows, hrw⟩ : ∃ rows, hsTo n ws k = rows := ⟨_, rfl⟩
    have Hrl := Lib.hid (show rows.length = k by rw [← hrw]; exact hsTo_len _ _ _)
    have hsc := hsTo_succ n ws k
    rw [hrw] at hL hsc
    have Hrw := Lib.hid hrw
    clear hrw
    have hk30 : k ≤ 30 := by unfold loomL at hk; split at hk <;> omega
    have a1 : wr.cell? ⟨w.heap.size, 1, none⟩ = some (.slice p1 ws.length c1) := hL.arg.cell' 1 rfl
    have b0 : wr.cell? ⟨w.heap.size + 2, 0, none⟩ = some (.int .i64 (n : Int)) := hL.box.cell' 0 rfl
    have b1 : wr.cell? ⟨w.heap.size + 2, 1, none⟩ = some v := hL.box.cell' 1 rfl
    have hz : w.heap.size + 2 < wr.heap.size := hL.size
    have hz0 : w.heap.size < wr.heap.size := by omega
    by_cases hgo : k < loomL 30 ws.length
    · by_cases hl0 : ws.length = 0
      · have h0 : k = 0 := by unfold loomL at hgo; rw [if_pos hl0] at hgo; omega
        have hsc2 : hsTo n ws (k + 1) = rows ++ [0] := by rw [hsc]; simp [hsG, hl0]
        have hnl : ¬ (k : Int) < (ws.length : Int) := by omega
        have hd0 : ((k : Int) == 0) = true := by rw [h0]; rfl
        have HL := Lib.hid hL
        have Hsc := Lib.hid hsc2
        have Hgo := Lib.hid hgo
        clear hL hsc hsc2 hgo hl0 hk h0
        go_wp2_with (at_builtin; refine Shut.out ?_)
        unfold Shut
        refine app_one elemInt rfl _ _ rfl (w.heap.size + 2 + 1) v rows.length (rows.map natV) #[.int .i64 ((0 : Nat) : Int)] rfl HL.out.row rfl rfl (by simp [Value.oneCell']) (by have := Hrl.out; omega) (by decide) HL.out.size ?_
        intro g5 cap w5 hg
        obtain ⟨hbx, hL5⟩ := HL.out.grew hg
        have c1' : w5.cell? ⟨w.heap.size + 2, 1, none⟩ = some v := hbx.cell' 1 rfl
        have f1 := hbx.frozen 1
        have HL5 := Lib.hid hL5
        clear hg hL5 hbx
        go_wp2_with fail
        go_roundw
        case rel => exact ⟨k + 1, _, Hgo.out, by go_num, by rw [Hsc.out]; exact HL5.out⟩
        case measure => simp [intOf]; have := Hgo.out; omega
      · have hlt : k < ws.length := by unfold loomL at hgo; split at hgo <;> omega
        have hk2 : k < 30 := by unfold loomL at hgo; split at hgo <;> omega
        by_cases h0 : k = 0
        · have hd0 : ((k : Int) == 0) = true := by rw [h0]; rfl
          obtain ⟨b, off, rfl, hb, hc⟩ := ByteRow.next Hw.out hL.b (by omega)
          obtain ⟨e1, e2⟩ := hc k hlt
          have hsg : hsG n ws k = nthN ws k % n := by unfold hsG; rw [if_pos hlt]
          obtain ⟨x, hx⟩ : ∃ x, nthN ws k = x := ⟨_, rfl⟩
          rw [hx] at e1 e2 hsg
          rw [hsg] at hsc
          have hq : (x : Int) % (n : Int) = ((x % n : Nat) : Int) := (Int.natCast_emod x n).symm
          obtain ⟨y, hy⟩ : ∃ y, x % n = y := ⟨_, rfl⟩
          rw [hy] at hq hsc
          have hn0 : ¬ (n : Int) = 0 := by omega
          have HL := Lib.hid hL
          have Hsc := Lib.hid hsc
          have Hgo := Lib.hid hgo
          clear hL hsc hgo hk hc hsg hx hy h0 hl0
          go_wp2
          go_quiet (fail)
          go_wp2_with (at_builtin; refine Shut.out ?_)
          unfold Shut
          have HLd := Lib.hid (HL.out.next (below_drewN _ _ nq))
          refine app_one elemInt rfl _ _ rfl (w.heap.size + 2 + 1) v rows.length (rows.map natV) #[.int .i64 (y : Int)] rfl HLd.out.row rfl rfl (by simp [Value.oneCell']) (by have := Hrl.out; omega) (by decide) HLd.out.size ?_
          intro g5 cap w5 hg
          obtain ⟨hbx, hL5⟩ := HLd.out.grew hg
          have c1' : w5.cell? ⟨w.heap.size + 2, 1, none⟩ = some v := hbx.cell' 1 rfl
          have f1 := hbx.frozen 1
          have HL5 := Lib.hid hL5
          clear hg hL5 hbx
          go_wp2_with fail
          go_roundw
          case rel => exact ⟨k + 1, _, by have := Hgo.out; omega, by go_num, by rw [Hsc.out]; exact HL5.out⟩
          case measure => simp [intOf]; have := Hgo.out; omega
        · have hd0 : ((k : Int) == 0) = false := by rw [beq_eq_false_iff_ne]; omega
          obtain ⟨b, off, rfl, hb, hc⟩ := ByteRow.next Hw.out hL.b (by omega)
          obtain ⟨e1, e2⟩ := hc k hlt
          have hsg : hsG n ws k = nthN ws k % n := by unfold hsG; rw [if_pos hlt]
          obtain ⟨x, hx⟩ : ∃ x, nthN ws k = x := ⟨_, rfl⟩
          rw [hx] at e1 e2 hsg
          rw [hsg] at hsc
          have hq : (x : Int) % (n : Int) = ((x % n : Nat) : Int) := (Int.natCast_emod x n).symm
          obtain ⟨y, hy⟩ : ∃ y, x % n = y := ⟨_, rfl⟩
          rw [hy] at hq hsc
          have hn0 : ¬ (n : Int) = 0 := by omega
          have HL := Lib.hid hL
          have Hsc := Lib.hid hsc
          have Hgo := Lib.hid hgo
          clear hL hsc hgo hk hc hsg hx hy h0 hl0
          go_wp2
          go_quiet (fail)
          go_wp2_with (at_builtin; refine Shut.out ?_)
          unfold Shut
          have HLd := Lib.hid (HL.out.next (below_drewN _ _ nq))
          refine app_one elemInt rfl _ _ rfl (w.heap.size + 2 + 1) v rows.length (rows.map natV) #[.int .i64 (y : Int)] rfl HLd.out.row rfl rfl (by simp [Value.oneCell']) (by have := Hrl.out; omega) (by decide) HLd.out.size ?_
          intro g5 cap w5 hg
          obtain ⟨hbx, hL5⟩ := HLd.out.grew hg
          have c1' : w5.cell? ⟨w.heap.size + 2, 1, none⟩ = some v := hbx.cell' 1 rfl
          have f1 := hbx.frozen 1
          have HL5 := Lib.hid hL5
          clear hg hL5 hbx
          go_wp2_with fail
          go_roundw
          case rel => exact ⟨k + 1, _, by have := Hgo.out; omega, by go_num, by rw [Hsc.out]; exact HL5.out⟩
          case measure => simp [intOf]; have := Hgo.out; omega
    · have hnb2 : ¬ (k < ws.length ∧ k < 30) := by unfold loomL at hgo; split at hgo <;> omega
      have hd0 : ((k : Int) == 0) = false := by rw [beq_eq_false_iff_ne]; unfold loomL at hgo; split at hgo <;> omega
      have hke : k = loomL 30 ws.length := by omega
      have r0 : wr.cell? ⟨w.heap.size + 1, 0, none⟩ = some (.int .i64 0) := hL.res.cell' 0 rfl
      have r1 : wr.cell? ⟨w.heap.size + 1, 1, none⟩ = some (.slice none 0 0) := hL.res.cell' 1 rfl
      have f0 := hL.res.frozen 0
      have f1 := hL.res.frozen 1
      have HL := Lib.hid hL
      have Hke := Lib.hid hke
      obtain ⟨p, l, q, rfl⟩ : ∃ p l q, v = .slice p l q := by
        obtain ⟨_, ⟨h, h0⟩ | ⟨g, cap, cur, h, _⟩⟩ := hL.row
        · exact ⟨_, _, _, h⟩
        · exact ⟨_, _, _, h⟩
      have Hret := Lib.hid (show ∀ X : World, X = (wr.setCell ⟨w.heap.size + 1, 0, none⟩ (.int .i64 (n : Int))).setCell ⟨w.heap.size + 1, 1, none⟩ (.slice p l q) →
          (X.cell? ⟨w.heap.size + 1, 0, none⟩ = some (.int .i64 (n : Int)) ∧ X.cell? ⟨w.heap.size + 1, 1, none⟩ = some (.slice p l q)) ∧
          X.ownsRow w.heap.size 3 1 (.slice p l q) (loomL 30 ws.length) ((hsTo n ws (loomL 30 ws.length)).map natV) ∧ Below w.heap.size w X from by
        rintro X rfl
        have hb3 := (hL.res.set 0 (.int .i64 (n : Int))).set 1 (.slice p l q)
        have hn := own_far hL.row (show w.heap.size + 1 < w.heap.size + 3 by omega)
        refine ⟨⟨hb3.cell' 0 rfl, hb3.cell' 1 rfl⟩, ?_, (hL.b.setCell (by simp) _).setCell (by simp) _⟩
        have h := own_base (own_set (own_set hL.row ⟨w.heap.size + 1, 0, none⟩ (.int .i64 (n : Int)) hn) ⟨w.heap.size + 1, 1, none⟩ (.slice p l q) hn) (show w.heap.size ≤ w.heap.size + 3 by omega)
        rw [Hrl.out, hke] at h
        rw [← hke, Hrw.out]
        rw [hke]
        exact h)
      by_cases hlt : k < ws.length
      · have hk2 : ¬ (k : Int) < 30 := by omega
        clear hL hsc hgo hk hke
        go_wp2
        refine bodyPost_ret (v := .agg #[.int .i64 (n : Int), .slice p l q]) ?_ rfl ⟨_, rfl, (Hret.out _ rfl).2⟩
        obtain ⟨d0, d1⟩ := (Hret.out _ rfl).1
        simp [results, Try.results94, go_sem, d0, d1]
      · clear hL hsc hgo hk hke
        go_wp2
        refine bodyPost_ret (v := .agg #[.int .i64 (n : Int), .slice p l q]) ?_ rfl ⟨_, rfl, (Hret.out _ rfl).2⟩
        obtain ⟨d0, d1⟩ := (Hret.out _ rfl).1
        simp [results, Try.results94, go_sem, d0, d1]
end Go.Proofs.Ytdmgffoikebgkaa
/- The statements' helpers: a loom's design. -/
namespace Go.Proofs.Ytdmgffoikebgkaa
open Go.RowKit Go.Shelf
attribute [local go_sem] Oper.semAt_some

def WordRow (w : World) (p : Option Addr) (xs : List Nat) : Prop := 0 < xs.length → ∃ b off, p = some ⟨b, off, none⟩ ∧ b < w.heap.size ∧ ∀ i, i < xs.length → w.cell? ⟨b, off + i, none⟩ = some (.int .u16 (nthN xs i : Int)) ∧ nthN xs i < 65536
theorem WordRow.next {w w' : World} {p : Option Addr} {xs : List Nat} (h : WordRow w p xs) (hb : Below w.heap.size w w') : WordRow w' p xs := fun h0 => by
  obtain ⟨b, off, e, hl, hc⟩ := h h0
  exact ⟨b, off, e, Nat.lt_of_lt_of_le hl hb.size, fun i hi => ⟨(hb.cell (p := ⟨b, off + i, none⟩) hl).trans (hc i hi).1, (hc i hi).2⟩⟩
def dsG (n : Nat) (ws : List Nat) (i : Nat) : Nat := (if i < ws.length then nthN ws i else 21) &&& (2 ^ n - 1)
def dsTo (n : Nat) (ws : List Nat) (k : Nat) : List Nat := (List.range k).map (dsG n ws)
theorem dsTo_succ (n : Nat) (ws : List Nat) (k : Nat) : dsTo n ws (k + 1) = dsTo n ws k ++ [dsG n ws k] := by simp [dsTo, List.range_succ]
theorem dsTo_len (n : Nat) (ws : List Nat) (k : Nat) : (dsTo n ws k).length = k := by simp [dsTo]
theorem and_mask (n x : Nat) (hn : n ≤ 24) (hx : x < 65536) : bits .and .i64 (x : Int) ((2 : Int) ^ n - 1) = ((x &&& (2 ^ n - 1) : Nat) : Int) := by
  have h1 : (2 : Nat) ^ n ≤ 16777216 := Nat.le_trans (Nat.pow_le_pow_right (by decide) hn) (by decide)
  have h2 : 0 < (2 : Nat) ^ n := Nat.pow_pos (by decide)
  have e : (2 : Int) ^ n - 1 = ((2 ^ n - 1 : Nat) : Int) := by
    have : (2 : Int) ^ n = ((2 ^ n : Nat) : Int) := (Int.natCast_pow 2 n).symm
    omega
  rw [e]
  exact i64_and_nat x (2 ^ n - 1) (by omega) (by omega)
set_option maxRecDepth 100000 in
set_option maxHeartbeats 2000000 in
theorem armDesign_any (H : Nat) (p1 p2 p3 : Option Addr) (l1 c1 c2 l3 c3 : Nat) (ws : List Nat) (w : World) (hH : H < 256) (hw : WordRow w p2 ws) (hl : ws.length ≤ 9223372036854775807) :
    Calls Try.prog 95 #[.agg (loomA H p1 p2 p3 l1 c1 ws.length c2 l3 c3)] w fun e w' =>
      ∃ v, e = .returned (.agg #[.int .i64 (loomN H : Int), v]) ∧ w'.ownsRow w.heap.size 3 1 v (loomL 10 ws.length) ((dsTo (loomN H) ws (loomL 10 ws.length)).map natV) ∧ Below w.heap.size w w' := by
  obtain ⟨m, hm1, hm2⟩ := mod12 H
  have hnb := loomN_bd H
  obtain ⟨n, hn⟩ : ∃ n, loomN H = n := ⟨_, rfl⟩
  rw [hn] at hm2 hnb ⊢
  have hn3 : (1 : Int) + (m : Int) = (n : Int) := by omega
  have hL0 : LoAt w (loomA H p1 p2 p3 l1 c1 ws.length c2 l3 c3) 37 n (.slice none 0 0) (dsTo n ws 0)
      (((w.alloc (.cells (loomA H p1 p2 p3 l1 c1 ws.length c2 l3 c3) 137)).alloc (.cells #[.int .i64 0, .slice none 0 0] 37)).alloc (.cells #[.int .i64 (n : Int), .slice none 0 0] 37)) := by
    have h2 := BoxAt.new (w.alloc (.cells (loomA H p1 p2 p3 l1 c1 ws.length c2 l3 c3) 137)) #[.int .i64 0, .slice none 0 0] 37
    have h3 := BoxAt.new ((w.alloc (.cells (loomA H p1 p2 p3 l1 c1 ws.length c2 l3 c3) 137)).alloc (.cells #[.int .i64 0, .slice none 0 0] 37)) #[.int .i64 (n : Int), .slice none 0 0] 37
    simp only [World.size_alloc] at h2 h3
    exact ⟨(BoxAt.new _ _ _).below (((Below.refl (w.heap.size + 1) _).alloc (by simp) _).alloc (by simp) _) (by omega), h2.below ((Below.refl (w.heap.size + 2) _).alloc (by simp) _) (by omega), h3, World.ownsRow_nil _ _ _ _,
      (((Below.refl _ _).alloc (Nat.le_refl _) _).alloc (by simp) _).alloc (by simp; omega) _⟩
  have HL0 := Lib.hid hL0
  have Hw := Lib.hid hw
  clear hL0 hw hn hm2
  unfold loomA at HL0 ⊢
  obtain ⟨hp1, hp2⟩ := pow_bds n (by omega)
  go_enter Try.func95, Try.ntmps95
  go_wp2
  clear hm1 hn3
  go_loopw [4] (fun i wr => ∃ (k : Nat) (v : Value), k ≤ loomL 10 ws.length ∧ i = .int .i64 k ∧ LoAt w #[.int .u8 (H : Int), .slice p1 l1 c1, .slice p2 ws.length c2, .slice p3 l3 c3] 37 n v (dsTo n ws k) wr) (fun i _ => loomL 10 ws.length - (intOf i).toNat)
  case atStart => exact ⟨0, _, Nat.zero_le _, rfl, HL0.out⟩
  case round =>
    obtain ⟨k, v, hk, rfl, hL⟩ := hrel
    clear HL0
    obtain ⟨rows, hrw⟩ : ∃ rows, dsTo n ws k = rows := ⟨_, rfl⟩
    have Hrl := Lib.hid (show rows.length = k by rw [← hrw]; exact dsTo_len _ _ _)
    have hsc := dsTo_succ n ws k
    rw [hrw] at hL hsc
    have Hrw := Lib.hid hrw
    clear hrw
    have hk10 : k ≤ 10 := by unfold loomL at hk; split at hk <;> omega
    have a1 : wr.cell? ⟨w.heap.size, 2, none⟩ = some (.slice p2 ws.length c2) := hL.arg.cell' 2 rfl
    have b0 : wr.cell? ⟨w.heap.size + 2, 0, none⟩ = some (.int .i64 (n : Int)) := hL.box.cell' 0 rfl
    have b1 : wr.cell? ⟨w.heap.size + 2, 1, none⟩ = some v := hL.box.cell' 1 rfl
    have hz : w.heap.size + 2 < wr.heap.size := hL.size
    have hz0 : w.heap.size < wr.heap.size := by omega
    by_cases hgo : k < loomL 10 ws.length
    · by_cases hl0 : ws.length = 0
      · have h0 : k = 0 := by unfold loomL at hgo; rw [if_pos hl0] at hgo; omega
        have hsc2 : dsTo n ws (k + 1) = rows ++ [21 &&& (2 ^ n - 1)] := by rw [hsc]; simp [dsG, hl0]
        have hq : bits .and .i64 21 ((2 : Int) ^ n - 1) = ((21 &&& (2 ^ n - 1) : Nat) : Int) := and_mask n 21 (by omega) (by omega)
        obtain ⟨y, hy⟩ : ∃ y, 21 &&& (2 ^ n - 1) = y := ⟨_, rfl⟩
        rw [hy] at hq hsc2
        have hnl : ¬ (k : Int) < (ws.length : Int) := by omega
        have hd0 : ((k : Int) == 0) = true := by rw [h0]; rfl
        have HL := Lib.hid hL
        have Hsc := Lib.hid hsc2
        have Hgo := Lib.hid hgo
        clear hL hsc hsc2 hgo hl0 hk h0 hy
        go_wp2_with (at_builtin; refine Shut.out ?_)
        unfold Shut
        refine app_one elemInt rfl _ _ rfl (w.heap.size + 2 + 1) v rows.length (rows.map natV) #[.int .i64 (y : Int)] rfl HL.out.row rfl rfl (by simp [Value.oneCell']) (by have := Hrl.out; omega) (by decide) HL.out.size ?_
        intro g5 cap w5 hg
        obtain ⟨hbx, hL5⟩ := HL.out.grew hg
        have c1' : w5.cell? ⟨w.heap.size + 2, 1, none⟩ = some v := hbx.cell' 1 rfl
        have f1 := hbx.frozen 1
        have HL5 := Lib.hid hL5
        clear hg hL5 hbx
        go_wp2_with fail
        go_roundw
        case rel => exact ⟨k + 1, _, Hgo.out, by go_num, by rw [Hsc.out]; exact HL5.out⟩
        case measure => simp [intOf]; have := Hgo.out; omega
      · have hlt : k < ws.length := by unfold loomL at hgo; split at hgo <;> omega
        have hk2 : k < 10 := by unfold loomL at hgo; split at hgo <;> omega
        by_cases h0 : k = 0
        · have hd0 : ((k : Int) == 0) = true := by rw [h0]; rfl
          obtain ⟨b, off, rfl, hb, hc⟩ := WordRow.next Hw.out hL.b (by omega)
          obtain ⟨e1, e2⟩ := hc k hlt
          have hsg : dsG n ws k = nthN ws k &&& (2 ^ n - 1) := by unfold dsG; rw [if_pos hlt]
          obtain ⟨x, hx⟩ : ∃ x, nthN ws k = x := ⟨_, rfl⟩
          rw [hx] at e1 e2 hsg
          rw [hsg] at hsc
          have hq := and_mask n x (by omega) e2
          obtain ⟨y, hy⟩ : ∃ y, x &&& (2 ^ n - 1) = y := ⟨_, rfl⟩
          rw [hy] at hq hsc
          have HL := Lib.hid hL
          have Hsc := Lib.hid hsc
          have Hgo := Lib.hid hgo
          clear hL hsc hgo hk hc hsg hx hy h0 hl0
          go_wp2_with (at_builtin; refine Shut.out ?_)
          unfold Shut
          have HLd := HL
          refine app_one elemInt rfl _ _ rfl (w.heap.size + 2 + 1) v rows.length (rows.map natV) #[.int .i64 (y : Int)] rfl HLd.out.row rfl rfl (by simp [Value.oneCell']) (by have := Hrl.out; omega) (by decide) HLd.out.size ?_
          intro g5 cap w5 hg
          obtain ⟨hbx, hL5⟩ := HLd.out.grew hg
          have c1' : w5.cell? ⟨w.heap.size + 2, 1, none⟩ = some v := hbx.cell' 1 rfl
          have f1 := hbx.frozen 1
          have HL5 := Lib.hid hL5
          clear hg hL5 hbx
          go_wp2_with fail
          go_roundw
          case rel => exact ⟨k + 1, _, by have := Hgo.out; omega, by go_num, by rw [Hsc.out]; exact HL5.out⟩
          case measure => simp [intOf]; have := Hgo.out; omega
        · have hd0 : ((k : Int) == 0) = false := by rw [beq_eq_false_iff_ne]; omega
          obtain ⟨b, off, rfl, hb, hc⟩ := WordRow.next Hw.out hL.b (by omega)
          obtain ⟨e1, e2⟩ := hc k hlt
          have hsg : dsG n ws k = nthN ws k &&& (2 ^ n - 1) := by unfold dsG; rw [if_pos hlt]
          obtain ⟨x, hx⟩ : ∃ x, nthN ws k = x := ⟨_, rfl⟩
          rw [hx] at e1 e2 hsg
          rw [hsg] at hsc
          have hq := and_mask n x (by omega) e2
          obtain ⟨y, hy⟩ : ∃ y, x &&& (2 ^ n - 1) = y := ⟨_, rfl⟩
          rw [hy] at hq hsc
          have HL := Lib.hid hL
          have Hsc := Lib.hid hsc
          have Hgo := Lib.hid hgo
          clear hL hsc hgo hk hc hsg hx hy h0 hl0
          go_wp2_with (at_builtin; refine Shut.out ?_)
          unfold Shut
          have HLd := HL
          refine app_one elemInt rfl _ _ rfl (w.heap.size + 2 + 1) v rows.length (rows.map natV) #[.int .i64 (y : Int)] rfl HLd.out.row rfl rfl (by simp [Value.oneCell']) (by have := Hrl.out; omega) (by decide) HLd.out.size ?_
          intro g5 cap w5 hg
          obtain ⟨hbx, hL5⟩ := HLd.out.grew hg
          have c1' : w5.cell? ⟨w.heap.size + 2, 1, none⟩ = some v := hbx.cell' 1 rfl
          have f1 := hbx.frozen 1
          have HL5 := Lib.hid hL5
          clear hg hL5 hbx
          go_wp2_with fail
          go_roundw
          case rel => exact ⟨k + 1, _, by have := Hgo.out; omega, by go_num, by rw [Hsc.out]; exact HL5.out⟩
          case measure => simp [intOf]; have := Hgo.out; omega
    · have hnb2 : ¬ (k < ws.length ∧ k < 10) := by unfold loomL at hgo; split at hgo <;> omega
      have hd0 : ((k : Int) == 0) = false := by rw [beq_eq_false_iff_ne]; unfold loomL at hgo; split at hgo <;> omega
      have hke : k = loomL 10 ws.length := by omega
      have r0 : wr.cell? ⟨w.heap.size + 1, 0, none⟩ = some (.int .i64 0) := hL.res.cell' 0 rfl
      have r1 : wr.cell? ⟨w.heap.size + 1, 1, none⟩ = some (.slice none 0 0) := hL.res.cell' 1 rfl
      have f0 := hL.res.frozen 0
      have f1 := hL.res.frozen 1
      have HL := Lib.hid hL
      have Hke := Lib.hid hke
      obtain ⟨p, l, q, rfl⟩ : ∃ p l q, v = .slice p l q := by
        obtain ⟨_, ⟨h, h0⟩ | ⟨g, cap, cur, h, _⟩⟩ := hL.row
        · exact ⟨_, _, _, h⟩
        · exact ⟨_, _, _, h⟩
      have Hret := Lib.hid (show ∀ X : World, X = (wr.setCell ⟨w.heap.size + 1, 0, none⟩ (.int .i64 (n : Int))).setCell ⟨w.heap.size + 1, 1, none⟩ (.slice p l q) →
          (X.cell? ⟨w.heap.size + 1, 0, none⟩ = some (.int .i64 (n : Int)) ∧ X.cell? ⟨w.heap.size + 1, 1, none⟩ = some (.slice p l q)) ∧
          X.ownsRow w.heap.size 3 1 (.slice p l q) (loomL 10 ws.length) ((dsTo n ws (loomL 10 ws.length)).map natV) ∧ Below w.heap.size w X from by
        rintro X rfl
        have hb3 := (hL.res.set 0 (.int .i64 (n : Int))).set 1 (.slice p l q)
        have hn := own_far hL.row (show w.heap.size + 1 < w.heap.size + 3 by omega)
        refine ⟨⟨hb3.cell' 0 rfl, hb3.cell' 1 rfl⟩, ?_, (hL.b.setCell (by simp) _).setCell (by simp) _⟩
        have h := own_base (own_set (own_set hL.row ⟨w.heap.size + 1, 0, none⟩ (.int .i64 (n : Int)) hn) ⟨w.heap.size + 1, 1, none⟩ (.slice p l q) hn) (show w.heap.size ≤ w.heap.size + 3 by omega)
        rw [Hrl.out, hke] at h
        rw [← hke, Hrw.out]
        rw [hke]
        exact h)
      by_cases hlt : k < ws.length
      · have hk2 : ¬ (k : Int) < 10 := by omega
        clear hL hsc hgo hk hke
        go_wp2
        refine bodyPost_ret (v := .agg #[.int .i64 (n : Int), .slice p l q]) ?_ rfl ⟨_, rfl, (Hret.out _ rfl).2⟩
        obtain ⟨d0, d1⟩ := (Hret.out _ rfl).1
        simp [results, Try.results95, go_sem, d0, d1]
      · clear hL hsc hgo hk hke
        go_wp2
        refine bodyPost_ret (v := .agg #[.int .i64 (n : Int), .slice p l q]) ?_ rfl ⟨_, rfl, (Hret.out _ rfl).2⟩
        obtain ⟨d0, d1⟩ := (Hret.out _ rfl).1
        simp [results, Try.results95, go_sem, d0, d1]
end Go.Proofs.Ytdmgffoikebgkaa
