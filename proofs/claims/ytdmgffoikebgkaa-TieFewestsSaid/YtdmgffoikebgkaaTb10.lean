/- The helpers of chapter 3's statements: a loom's harness and design, copies. -/
import Derived.Test.YtdmgffoikebgkaaTb02
import Derived.Test.YtdmgffoikebgkaaTb08
import Derived.Test.YtdmgffoikebgkaaTb09
import Derived.Test.YtdmgffoikebgkaaTb04
import Derived.Test.YtdmgffoikebgkaaTb06
import Derived.Test.YtdmgffoikebgkaaTb01
import Derived.Test.YtdmgffoikebgkaaTb07
namespace Go.Proofs.Ytdmgffoikebgkaa
open Go.RowKit Go.Shelf
attribute [local go_sem] Oper.semAt_some

def lomN (H : Nat) : Nat := H % 16 + 1
theorem lomN_bd (H : Nat) : 1 ≤ lomN H ∧ lomN H ≤ 16 := by unfold lomN; omega
def lomA (H : Nat) (p1 p2 : Option Addr) (l1 c1 l2 c2 : Nat) : Array Value := #[.int .u8 (H : Int), .slice p1 l1 c1, .slice p2 l2 c2]
theorem mod16 (H : Nat) : ∃ m : Nat, (H : Int) % 16 = (m : Int) ∧ lomN H = m + 1 := ⟨H % 16, (Int.natCast_emod H 16).symm, rfl⟩
/-- what the helper keeps between two warps -/
structure LqAt (w0 : World) (A : Array Value) (t n : Nat) (v : Value) (rows : List Nat) (W : World) : Prop where
  arg : BoxAt W w0.heap.size A 92
  res : BoxAt W (w0.heap.size + 1) #[.int .i64 0, .slice none 0 0] t
  box : BoxAt W (w0.heap.size + 2) #[.int .i64 (n : Int), v] t
  row : W.ownsRow (w0.heap.size + 3) 3 1 v rows.length (rows.map natV)
  b : Below w0.heap.size w0 W
theorem LqAt.next {w0 W W' : World} {A : Array Value} {t n : Nat} {v : Value} {rows : List Nat} (h : LqAt w0 A t n v rows W) (hb : Below W.heap.size W W') : LqAt w0 A t n v rows W' :=
  ⟨h.arg.next hb, h.res.next hb, h.box.next hb, own_next h.row hb, h.b.trans (hb.mono h.b.size)⟩
theorem LqAt.size {w0 W : World} {A : Array Value} {t n : Nat} {v : Value} {rows : List Nat} (h : LqAt w0 A t n v rows W) : w0.heap.size + 3 ≤ W.heap.size := h.box.lt
theorem LqAt.grew {w0 W W' : World} {A : Array Value} {t n g5 cap z : Nat} {v : Value} {rows : List Nat} (h : LqAt w0 A t n v rows W)
    (hg : Grew (w0.heap.size + 3) 3 1 W W' v g5 cap (rows.length + 1) (rows.map natV ++ [.int .i64 (z : Int)])) :
    BoxAt W' (w0.heap.size + 2) #[.int .i64 (n : Int), v] t ∧ LqAt w0 A t n (.slice (some ⟨g5, 0, none⟩) (rows.length + 1) cap) (rows ++ [z]) (W'.setCell ⟨w0.heap.size + 2, 1, none⟩ (.slice (some ⟨g5, 0, none⟩) (rows.length + 1) cap)) := by
  have hn : ∀ j, j < w0.heap.size + 3 → some j ≠ v.ownBlock := fun j hj => own_far h.row hj
  have hb := h.box.kept hg.grow (hn _ (by omega))
  refine ⟨hb, ⟨(h.arg.kept hg.grow (hn _ (by omega))).other _ _ (by simp), (h.res.kept hg.grow (hn _ (by omega))).other _ _ (by simp), hb.set 1 _, ?_, ?_⟩⟩
  · have hr := hg.row
    have := own_set hr ⟨w0.heap.size + 2, 1, none⟩ (.slice (some ⟨g5, 0, none⟩) (rows.length + 1) cap) (own_far hr (by simp))
    rw [List.length_append, List.length_singleton, List.map_append]
    exact this
  · exact (h.b.grown hg.grow h.b.size (fun j hj => by have := (ownBlock_ge h.row hj).1; omega)).setCell (by simp) _
set_option maxRecDepth 100000 in
set_option maxHeartbeats 2000000 in
theorem lomHarness_any (H : Nat) (p1 p2 : Option Addr) (c1 l2 c2 : Nat) (ws : List Nat) (w : World) (hH : H < 256) (hw : ByteRow w p1 ws) (hl : ws.length ≤ 9223372036854775807) :
    Calls Try.prog 63 #[.agg (lomA H p1 p2 ws.length c1 l2 c2)] w fun e w' =>
      ∃ v, e = .returned (.agg #[.int .i64 (lomN H : Int), v]) ∧ w'.ownsRow w.heap.size 3 1 v (loomL 48 ws.length) ((hsTo (lomN H) ws (loomL 48 ws.length)).map natV) ∧ Below w.heap.size w w' := by
  obtain ⟨m, hm1, hm2⟩ := mod16 H
  have hnb := lomN_bd H
  obtain ⟨n, hn⟩ : ∃ n, lomN H = n := ⟨_, rfl⟩
  rw [hn] at hm2 hnb ⊢
  have hn3 : (1 : Int) + (m : Int) = (n : Int) := by omega
  have hL0 : LqAt w (lomA H p1 p2 ws.length c1 l2 c2) 26 n (.slice none 0 0) (hsTo n ws 0)
      (((w.alloc (.cells (lomA H p1 p2 ws.length c1 l2 c2) 92)).alloc (.cells #[.int .i64 0, .slice none 0 0] 26)).alloc (.cells #[.int .i64 (n : Int), .slice none 0 0] 26)) := by
    have h2 := BoxAt.new (w.alloc (.cells (lomA H p1 p2 ws.length c1 l2 c2) 92)) #[.int .i64 0, .slice none 0 0] 26
    have h3 := BoxAt.new ((w.alloc (.cells (lomA H p1 p2 ws.length c1 l2 c2) 92)).alloc (.cells #[.int .i64 0, .slice none 0 0] 26)) #[.int .i64 (n : Int), .slice none 0 0] 26
    simp only [World.size_alloc] at h2 h3
    exact ⟨(BoxAt.new _ _ _).below (((Below.refl (w.heap.size + 1) _).alloc (by simp) _).alloc (by simp) _) (by omega), h2.below ((Below.refl (w.heap.size + 2) _).alloc (by simp) _) (by omega), h3, World.ownsRow_nil _ _ _ _,
      (((Below.refl _ _).alloc (Nat.le_refl _) _).alloc (by simp) _).alloc (by simp; omega) _⟩
  have HL0 := Lib.hid hL0
  have Hw := Lib.hid hw
  clear hL0 hw hn hm2
  unfold lomA at HL0 ⊢
  go_enter Try.func63, Try.ntmps63
  go_wp2
  clear hm1 hn3
  go_loopw [4] (fun i wr => ∃ (k : Nat) (v : Value), k ≤ loomL 48 ws.length ∧ i = .int .i64 k ∧ LqAt w #[.int .u8 (H : Int), .slice p1 ws.length c1, .slice p2 l2 c2] 26 n v (hsTo n ws k) wr) (fun i _ => loomL 48 ws.length - (intOf i).toNat)
  case atStart => exact ⟨0, _, Nat.zero_le _, rfl, HL0.out⟩
  case round =>
    obtain ⟨k, v, hk, rfl, hL⟩ := hrel
    clear HL0
    obtain ⟨rows, hrw⟩ : ∃ rows, hsTo n ws k = rows := ⟨_, rfl⟩
    have Hrl := Lib.hid (show rows.length = k by rw [← hrw]; exact hsTo_len _ _ _)
    have hsc := hsTo_succ n ws k
    rw [hrw] at hL hsc
    have Hrw := Lib.hid hrw
    clear hrw
    have hk48 : k ≤ 48 := by unfold loomL at hk; split at hk <;> omega
    have a1 : wr.cell? ⟨w.heap.size, 1, none⟩ = some (.slice p1 ws.length c1) := hL.arg.cell' 1 rfl
    have b0 : wr.cell? ⟨w.heap.size + 2, 0, none⟩ = some (.int .i64 (n : Int)) := hL.box.cell' 0 rfl
    have b1 : wr.cell? ⟨w.heap.size + 2, 1, none⟩ = some v := hL.box.cell' 1 rfl
    have hz : w.heap.size + 2 < wr.heap.size := hL.size
    have hz0 : w.heap.size < wr.heap.size := by omega
    by_cases hgo : k < loomL 48 ws.length
    · by_cases hl0 : ws.length = 0
      · have h0 : k = 0 := by unfold loomL at hgo; rw [if_pos hl0] at hgo; omega
        have hsc2 : hsTo n ws (k + 1) = rows ++ [0] := by rw [hsc]; simp [hsG, hl0]
        have hnl : ¬ (k : Int) < (ws.length : Int) := by omega
        have hd0 : ((k : Int) == 0) = true := by rw [h0]; rfl
        have HL := Lib.hid hL
        have Hsc := Lib.hid hsc2
        have Hgo := Lib.hid hgo
        clear hL hsc hsc2 hgo hl0 hk h0
        go_wp2_with (at_builtin; refine Shut.out ?_)
        unfold Shut
        refine app_one elemInt rfl _ _ rfl (w.heap.size + 2 + 1) v rows.length (rows.map natV) #[.int .i64 ((0 : Nat) : Int)] rfl HL.out.row rfl rfl (by simp [Value.oneCell']) (by have := Hrl.out; omega) (by decide) HL.out.size ?_
        intro g5 cap w5 hg
        obtain ⟨hbx, hL5⟩ := HL.out.grew hg
        have c1' : w5.cell? ⟨w.heap.size + 2, 1, none⟩ = some v := hbx.cell' 1 rfl
        have f1 := hbx.frozen 1
        have HL5 := Lib.hid hL5
        clear hg hL5 hbx
        go_wp2_with fail
        go_roundw
        case rel => exact ⟨k + 1, _, Hgo.out, by go_num, by rw [Hsc.out]; exact HL5.out⟩
        case measure => simp [intOf]; have := Hgo.out; omega
      · have hlt : k < ws.length := by unfold loomL at hgo; split at hgo <;> omega
        have hk2 : k < 48 := by unfold loomL at hgo; split at hgo <;> omega
        by_cases h0 : k = 0
        · have hd0 : ((k : Int) == 0) = true := by rw [h0]; rfl
          obtain ⟨b, off, rfl, hb, hc⟩ := ByteRow.next Hw.out hL.b (by omega)
          obtain ⟨e1, e2⟩ := hc k hlt
          have hsg : hsG n ws k = nthN ws k % n := by unfold hsG; rw [if_pos hlt]
          obtain ⟨x, hx⟩ : ∃ x, nthN ws k = x := ⟨_, rfl⟩
          rw [hx] at e1 e2 hsg
          rw [hsg] at hsc
          have hq : (x : Int) % (n : Int) = ((x % n : Nat) : Int) := (Int.natCast_emod x n).symm
          obtain ⟨y, hy⟩ : ∃ y, x % n = y := ⟨_, rfl⟩
          rw [hy] at hq hsc
          have hn0 : ¬ (n : Int) = 0 := by omega
          have HL := Lib.hid hL
          have Hsc := Lib.hid hsc
          have Hgo := Lib.hid hgo
          clear hL hsc hgo hk hc hsg hx hy h0 hl0
          go_wp2
          go_quiet (fail)
          go_wp2_with (at_builtin; refine Shut.out ?_)
          unfold Shut
          have HLd := Lib.hid (HL.out.next (below_drewN _ _ nq))
          refine app_one elemInt rfl _ _ rfl (w.heap.size + 2 + 1) v rows.length (rows.map natV) #[.int .i64 (y : Int)] rfl HLd.out.row rfl rfl (by simp [Value.oneCell']) (by have := Hrl.out; omega) (by decide) HLd.out.size ?_
          intro g5 cap w5 hg
          obtain ⟨hbx, hL5⟩ := HLd.out.grew hg
          have c1' : w5.cell? ⟨w.heap.size + 2, 1, none⟩ = some v := hbx.cell' 1 rfl
          have f1 := hbx.frozen 1
          have HL5 := Lib.hid hL5
          clear hg hL5 hbx
          go_wp2_with fail
          go_roundw
          case rel => exact ⟨k + 1, _, by have := Hgo.out; omega, by go_num, by rw [Hsc.out]; exact HL5.out⟩
          case measure => simp [intOf]; have := Hgo.out; omega
        · have hd0 : ((k : Int) == 0) = false := by rw [beq_eq_false_iff_ne]; omega
          obtain ⟨b, off, rfl, hb, hc⟩ := ByteRow.next Hw.out hL.b (by omega)
          obtain ⟨e1, e2⟩ := hc k hlt
          have hsg : hsG n ws k = nthN ws k % n := by unfold hsG; rw [if_pos hlt]
          obtain ⟨x, hx⟩ : ∃ x, nthN ws k = x := ⟨_, rfl⟩
          rw [hx] at e1 e2 hsg
          rw [hsg] at hsc
          have hq : (x : Int) % (n : Int) = ((x % n : Nat) : Int) := (Int.natCast_emod x n).symm
          obtain ⟨y, hy⟩ : ∃ y, x % n = y := ⟨_, rfl⟩
          rw [hy] at hq hsc
          have hn0 : ¬ (n : Int) = 0 := by omega
          have HL := Lib.hid hL
          have Hsc := Lib.hid hsc
          have Hgo := Lib.hid hgo
          clear hL hsc hgo hk hc hsg hx hy h0 hl0
          go_wp2
          go_quiet (fail)
          go_wp2_with (at_builtin; refine Shut.out ?_)
          unfold Shut
          have HLd := Lib.hid (HL.out.next (below_drewN _ _ nq))
          refine app_one elemInt rfl _ _ rfl (w.heap.size + 2 + 1) v rows.length (rows.map natV) #[.int .i64 (y : Int)] rfl HLd.out.row rfl rfl (by simp [Value.oneCell']) (by have := Hrl.out; omega) (by decide) HLd.out.size ?_
          intro g5 cap w5 hg
          obtain ⟨hbx, hL5⟩ := HLd.out.grew hg
          have c1' : w5.cell? ⟨w.heap.size + 2, 1, none⟩ = some v := hbx.cell' 1 rfl
          have f1 := hbx.frozen 1
          have HL5 := Lib.hid hL5
          clear hg hL5 hbx
          go_wp2_with fail
          go_roundw
          case rel => exact ⟨k + 1, _, by have := Hgo.out; omega, by go_num, by rw [Hsc.out]; exact HL5.out⟩
          case measure => simp [intOf]; have := Hgo.out; omega
    · have hnb2 : ¬ (k < ws.length ∧ k < 48) := by unfold loomL at hgo; split at hgo <;> omega
      have hd0 : ((k : Int) == 0) = false := by rw [beq_eq_false_iff_ne]; unfold loomL at hgo; split at hgo <;> omega
      have hke : k = loomL 48 ws.length := by omega
      have r0 : wr.cell? ⟨w.heap.size + 1, 0, none⟩ = some (.int .i64 0) := hL.res.cell' 0 rfl
      have r1 : wr.cell? ⟨w.heap.size + 1, 1, none⟩ = some (.slice none 0 0) := hL.res.cell' 1 rfl
      have f0 := hL.res.frozen 0
      have f1 := hL.res.frozen 1
      have HL := Lib.hid hL
      have Hke := Lib.hid hke
      obtain ⟨p, l, q, rfl⟩ : ∃ p l q, v = .slice p l q := by
        obtain ⟨_, ⟨h, h0⟩ | ⟨g, cap, cur, h, _⟩⟩ := hL.row
        · exact ⟨_, _, _, h⟩
        · exact ⟨_, _, _, h⟩
      have Hret := Lib.hid (show ∀ X : World, X = (wr.setCell ⟨w.heap.size + 1, 0, none⟩ (.int .i64 (n : Int))).setCell ⟨w.heap.size + 1, 1, none⟩ (.slice p l q) →
          (X.cell? ⟨w.heap.size + 1, 0, none⟩ = some (.int .i64 (n : Int)) ∧ X.cell? ⟨w.heap.size + 1, 1, none⟩ = some (.slice p l q)) ∧
          X.ownsRow w.heap.size 3 1 (.slice p l q) (loomL 48 ws.length) ((hsTo n ws (loomL 48 ws.length)).map natV) ∧ Below w.heap.size w X from by
        rintro X rfl
        have hb3 := (hL.res.set 0 (.int .i64 (n : Int))).set 1 (.slice p l q)
        have hn := own_far hL.row (show w.heap.size + 1 < w.heap.size + 3 by omega)
        refine ⟨⟨hb3.cell' 0 rfl, hb3.cell' 1 rfl⟩, ?_, (hL.b.setCell (by simp) _).setCell (by simp) _⟩
        have h := own_base (own_set (own_set hL.row ⟨w.heap.size + 1, 0, none⟩ (.int .i64 (n : Int)) hn) ⟨w.heap.size + 1, 1, none⟩ (.slice p l q) hn) (show w.heap.size ≤ w.heap.size + 3 by omega)
        rw [Hrl.out, hke] at h
        rw [← hke, Hrw.out]
        rw [hke]
        exact h)
      by_cases hlt : k < ws.length
      · have hk2 : ¬ (k : Int) < 48 := by omega
        clear hL hsc hgo hk hke
        go_wp2
        refine bodyPost_ret (v := .agg #[.int .i64 (n : Int), .slice p l q]) ?_ rfl ⟨_, rfl, (Hret.out _ rfl).2⟩
        obtain ⟨d0, d1⟩ := (Hret.out _ rfl).1
        simp [results, Try.results63, go_sem, d0, d1]
      · clear hL hsc hgo hk hke
        go_wp2
        refine bodyPost_ret (v := .agg #[.int .i64 (n : Int), .slice p l q]) ?_ rfl ⟨_, rfl, (Hret.out _ rfl).2⟩
        obtain ⟨d0, d1⟩ := (Hret.out _ rfl).1
        simp [results, Try.results63, go_sem, d0, d1]
set_option maxRecDepth 100000 in
set_option maxHeartbeats 2000000 in
theorem lomDesign_any (H : Nat) (p1 p2 : Option Addr) (l1 c1 c2 : Nat) (ws : List Nat) (w : World) (hH : H < 256) (hw : WordRow w p2 ws) (hl : ws.length ≤ 9223372036854775807) :
    Calls Try.prog 64 #[.agg (lomA H p1 p2 l1 c1 ws.length c2)] w fun e w' =>
      ∃ v, e = .returned (.agg #[.int .i64 (lomN H : Int), v]) ∧ w'.ownsRow w.heap.size 3 1 v (loomL 12 ws.length) ((dsTo (lomN H) ws (loomL 12 ws.length)).map natV) ∧ Below w.heap.size w w' := by
  obtain ⟨m, hm1, hm2⟩ := mod16 H
  have hnb := lomN_bd H
  obtain ⟨n, hn⟩ : ∃ n, lomN H = n := ⟨_, rfl⟩
  rw [hn] at hm2 hnb ⊢
  have hn3 : (1 : Int) + (m : Int) = (n : Int) := by omega
  have hL0 : LqAt w (lomA H p1 p2 l1 c1 ws.length c2) 37 n (.slice none 0 0) (dsTo n ws 0)
      (((w.alloc (.cells (lomA H p1 p2 l1 c1 ws.length c2) 92)).alloc (.cells #[.int .i64 0, .slice none 0 0] 37)).alloc (.cells #[.int .i64 (n : Int), .slice none 0 0] 37)) := by
    have h2 := BoxAt.new (w.alloc (.cells (lomA H p1 p2 l1 c1 ws.length c2) 92)) #[.int .i64 0, .slice none 0 0] 37
    have h3 := BoxAt.new ((w.alloc (.cells (lomA H p1 p2 l1 c1 ws.length c2) 92)).alloc (.cells #[.int .i64 0, .slice none 0 0] 37)) #[.int .i64 (n : Int), .slice none 0 0] 37
    simp only [World.size_alloc] at h2 h3
    exact ⟨(BoxAt.new _ _ _).below (((Below.refl (w.heap.size + 1) _).alloc (by simp) _).alloc (by simp) _) (by omega), h2.below ((Below.refl (w.heap.size + 2) _).alloc (by simp) _) (by omega), h3, World.ownsRow_nil _ _ _ _,
      (((Below.refl _ _).alloc (Nat.le_refl _) _).alloc (by simp) _).alloc (by simp; omega) _⟩
  have HL0 := Lib.hid hL0
  have Hw := Lib.hid hw
  clear hL0 hw hn hm2
  unfold lomA at HL0 ⊢
  obtain ⟨hp1, hp2⟩ := pow_bds n (by omega)
  go_enter Try.func64, Try.ntmps64
  go_wp2
  clear hm1 hn3
  go_loopw [4] (fun i wr => ∃ (k : Nat) (v : Value), k ≤ loomL 12 ws.length ∧ i = .int .i64 k ∧ LqAt w #[.int .u8 (H : Int), .slice p1 l1 c1, .slice p2 ws.length c2] 37 n v (dsTo n ws k) wr) (fun i _ => loomL 12 ws.length - (intOf i).toNat)
  case atStart => exact ⟨0, _, Nat.zero_le _, rfl, HL0.out⟩
  case round =>
    obtain ⟨k, v, hk, rfl, hL⟩ := hrel
    clear HL0
    obtain ⟨rows, hrw⟩ : ∃ rows, dsTo n ws k = rows := ⟨_, rfl⟩
    have Hrl := Lib.hid (show rows.length = k by rw [← hrw]; exact dsTo_len _ _ _)
    have hsc := dsTo_succ n ws k
    rw [hrw] at hL hsc
    have Hrw := Lib.hid hrw
    clear hrw
    have hk12 : k ≤ 12 := by unfold loomL at hk; split at hk <;> omega
    have a1 : wr.cell? ⟨w.heap.size, 2, none⟩ = some (.slice p2 ws.length c2) := hL.arg.cell' 2 rfl
    have b0 : wr.cell? ⟨w.heap.size + 2, 0, none⟩ = some (.int .i64 (n : Int)) := hL.box.cell' 0 rfl
    have b1 : wr.cell? ⟨w.heap.size + 2, 1, none⟩ = some v := hL.box.cell' 1 rfl
    have hz : w.heap.size + 2 < wr.heap.size := hL.size
    have hz0 : w.heap.size < wr.heap.size := by omega
    by_cases hgo : k < loomL 12 ws.length
    · by_cases hl0 : ws.length = 0
      · have h0 : k = 0 := by unfold loomL at hgo; rw [if_pos hl0] at hgo; omega
        have hsc2 : dsTo n ws (k + 1) = rows ++ [21 &&& (2 ^ n - 1)] := by rw [hsc]; simp [dsG, hl0]
        have hq : bits .and .i64 21 ((2 : Int) ^ n - 1) = ((21 &&& (2 ^ n - 1) : Nat) : Int) := and_mask n 21 (by omega) (by omega)
        obtain ⟨y, hy⟩ : ∃ y, 21 &&& (2 ^ n - 1) = y := ⟨_, rfl⟩
        rw [hy] at hq hsc2
        have hnl : ¬ (k : Int) < (ws.length : Int) := by omega
        have hd0 : ((k : Int) == 0) = true := by rw [h0]; rfl
        have HL := Lib.hid hL
        have Hsc := Lib.hid hsc2
        have Hgo := Lib.hid hgo
        clear hL hsc hsc2 hgo hl0 hk h0 hy
        go_wp2_with (at_builtin; refine Shut.out ?_)
        unfold Shut
        refine app_one elemInt rfl _ _ rfl (w.heap.size + 2 + 1) v rows.length (rows.map natV) #[.int .i64 (y : Int)] rfl HL.out.row rfl rfl (by simp [Value.oneCell']) (by have := Hrl.out; omega) (by decide) HL.out.size ?_
        intro g5 cap w5 hg
        obtain ⟨hbx, hL5⟩ := HL.out.grew hg
        have c1' : w5.cell? ⟨w.heap.size + 2, 1, none⟩ = some v := hbx.cell' 1 rfl
        have f1 := hbx.frozen 1
        have HL5 := Lib.hid hL5
        clear hg hL5 hbx
        go_wp2_with fail
        go_roundw
        case rel => exact ⟨k + 1, _, Hgo.out, by go_num, by rw [Hsc.out]; exact HL5.out⟩
        case measure => simp [intOf]; have := Hgo.out; omega
      · have hlt : k < ws.length := by unfold loomL at hgo; split at hgo <;> omega
        have hk2 : k < 12 := by unfold loomL at hgo; split at hgo <;> omega
        by_cases h0 : k = 0
        · have hd0 : ((k : Int) == 0) = true := by rw [h0]; rfl
          obtain ⟨b, off, rfl, hb, hc⟩ := WordRow.next Hw.out hL.b (by omega)
          obtain ⟨e1, e2⟩ := hc k hlt
          have hsg : dsG n ws k = nthN ws k &&& (2 ^ n - 1) := by unfold dsG; rw [if_pos hlt]
          obtain ⟨x, hx⟩ : ∃ x, nthN ws k = x := ⟨_, rfl⟩
          rw [hx] at e1 e2 hsg
          rw [hsg] at hsc
          have hq := and_mask n x (by omega) e2
          obtain ⟨y, hy⟩ : ∃ y, x &&& (2 ^ n - 1) = y := ⟨_, rfl⟩
          rw [hy] at hq hsc
          have HL := Lib.hid hL
          have Hsc := Lib.hid hsc
          have Hgo := Lib.hid hgo
          clear hL hsc hgo hk hc hsg hx hy h0 hl0
          go_wp2_with (at_builtin; refine Shut.out ?_)
          unfold Shut
          have HLd := HL
          refine app_one elemInt rfl _ _ rfl (w.heap.size + 2 + 1) v rows.length (rows.map natV) #[.int .i64 (y : Int)] rfl HLd.out.row rfl rfl (by simp [Value.oneCell']) (by have := Hrl.out; omega) (by decide) HLd.out.size ?_
          intro g5 cap w5 hg
          obtain ⟨hbx, hL5⟩ := HLd.out.grew hg
          have c1' : w5.cell? ⟨w.heap.size + 2, 1, none⟩ = some v := hbx.cell' 1 rfl
          have f1 := hbx.frozen 1
          have HL5 := Lib.hid hL5
          clear hg hL5 hbx
          go_wp2_with fail
          go_roundw
          case rel => exact ⟨k + 1, _, by have := Hgo.out; omega, by go_num, by rw [Hsc.out]; exact HL5.out⟩
          case measure => simp [intOf]; have := Hgo.out; omega
        · have hd0 : ((k : Int) == 0) = false := by rw [beq_eq_false_iff_ne]; omega
          obtain ⟨b, off, rfl, hb, hc⟩ := WordRow.next Hw.out hL.b (by omega)
          obtain ⟨e1, e2⟩ := hc k hlt
          have hsg : dsG n ws k = nthN ws k &&& (2 ^ n - 1) := by unfold dsG; rw [if_pos hlt]
          obtain ⟨x, hx⟩ : ∃ x, nthN ws k = x := ⟨_, rfl⟩
          rw [hx] at e1 e2 hsg
          rw [hsg] at hsc
          have hq := and_mask n x (by omega) e2
          obtain ⟨y, hy⟩ : ∃ y, x &&& (2 ^ n - 1) = y := ⟨_, rfl⟩
          rw [hy] at hq hsc
          have HL := Lib.hid hL
          have Hsc := Lib.hid hsc
          have Hgo := Lib.hid hgo
          clear hL hsc hgo hk hc hsg hx hy h0 hl0
          go_wp2_with (at_builtin; refine Shut.out ?_)
          unfold Shut
          have HLd := HL
          refine app_one elemInt rfl _ _ rfl (w.heap.size + 2 + 1) v rows.length (rows.map natV) #[.int .i64 (y : Int)] rfl HLd.out.row rfl rfl (by simp [Value.oneCell']) (by have := Hrl.out; omega) (by decide) HLd.out.size ?_
          intro g5 cap w5 hg
          obtain ⟨hbx, hL5⟩ := HLd.out.grew hg
          have c1' : w5.cell? ⟨w.heap.size + 2, 1, none⟩ = some v := hbx.cell' 1 rfl
          have f1 := hbx.frozen 1
          have HL5 := Lib.hid hL5
          clear hg hL5 hbx
          go_wp2_with fail
          go_roundw
          case rel => exact ⟨k + 1, _, by have := Hgo.out; omega, by go_num, by rw [Hsc.out]; exact HL5.out⟩
          case measure => simp [intOf]; have := Hgo.out; omega
    · have hnb2 : ¬ (k < ws.length ∧ k < 12) := by unfold loomL at hgo; split at hgo <;> omega
      have hd0 : ((k : Int) == 0) = false := by rw [beq_eq_false_iff_ne]; unfold loomL at hgo; split at hgo <;> omega
      have hke : k = loomL 12 ws.length := by omega
      have r0 : wr.cell? ⟨w.heap.size + 1, 0, none⟩ = some (.int .i64 0) := hL.res.cell' 0 rfl
      have r1 : wr.cell? ⟨w.heap.size + 1, 1, none⟩ = some (.slice none 0 0) := hL.res.cell' 1 rfl
      have f0 := hL.res.frozen 0
      have f1 := hL.res.frozen 1
      have HL := Lib.hid hL
      have Hke := Lib.hid hke
      obtain ⟨p, l, q, rfl⟩ : ∃ p l q, v = .slice p l q := by
        obtain ⟨_, ⟨h, h0⟩ | ⟨g, cap, cur, h, _⟩⟩ := hL.row
        · exact ⟨_, _, _, h⟩
        · exact ⟨_, _, _, h⟩
      have Hret := Lib.hid (show ∀ X : World, X = (wr.setCell ⟨w.heap.size + 1, 0, none⟩ (.int .i64 (n : Int))).setCell ⟨w.heap.size + 1, 1, none⟩ (.slice p l q) →
          (X.cell? ⟨w.heap.size + 1, 0, none⟩ = some (.int .i64 (n : Int)) ∧ X.cell? ⟨w.heap.size + 1, 1, none⟩ = some (.slice p l q)) ∧
          X.ownsRow w.heap.size 3 1 (.slice p l q) (loomL 12 ws.length) ((dsTo n ws (loomL 12 ws.length)).map natV) ∧ Below w.heap.size w X from by
        rintro X rfl
        have hb3 := (hL.res.set 0 (.int .i64 (n : Int))).set 1 (.slice p l q)
        have hn := own_far hL.row (show w.heap.size + 1 < w.heap.size + 3 by omega)
        refine ⟨⟨hb3.cell' 0 rfl, hb3.cell' 1 rfl⟩, ?_, (hL.b.setCell (by simp) _).setCell (by simp) _⟩
        have h := own_base (own_set (own_set hL.row ⟨w.heap.size + 1, 0, none⟩ (.int .i64 (n : Int)) hn) ⟨w.heap.size + 1, 1, none⟩ (.slice p l q) hn) (show w.heap.size ≤ w.heap.size + 3 by omega)
        rw [Hrl.out, hke] at h
        rw [← hke, Hrw.out]
        rw [hke]
        exact h)
      by_cases hlt : k < ws.length
      · have hk2 : ¬ (k : Int) < 12 := by omega
        clear hL hsc hgo hk hke
        go_wp2
        refine bodyPost_ret (v := .agg #[.int .i64 (n : Int), .slice p l q]) ?_ rfl ⟨_, rfl, (Hret.out _ rfl).2⟩
        obtain ⟨d0, d1⟩ := (Hret.out _ rfl).1
        simp [results, Try.results64, go_sem, d0, d1]
      · clear hL hsc hgo hk hke
        go_wp2
        refine bodyPost_ret (v := .agg #[.int .i64 (n : Int), .slice p l q]) ?_ rfl ⟨_, rfl, (Hret.out _ rfl).2⟩
        obtain ⟨d0, d1⟩ := (Hret.out _ rfl).1
        simp [results, Try.results64, go_sem, d0, d1]
set_option maxHeartbeats 2000000 in
theorem tieOwn_ok (n g c : Nat) (cs : List Nat) (w : World) (h0 : 0 < cs.length) (hl : cs.length ≤ 1000) (hx : NatsAt w g 0 cs) (hgl : g < w.heap.size) :
    Calls Try.prog 28 #[.agg #[.int .i64 (n : Int), .slice (some ⟨g, 0, none⟩) cs.length c]] w fun e w' =>
      ∃ g' cap, e = .returned (.agg #[.int .i64 (n : Int), .slice (some ⟨g', 0, none⟩) cs.length cap]) ∧ w'.ownsRow (w.heap.size + 2) 3 1 (.slice (some ⟨g', 0, none⟩) cs.length cap) cs.length (cs.map natV) ∧ Below w.heap.size w w' := by
  have hO := OwnRow.new w n g 0 cs.length c 26
  have hbb : Below w.heap.size w ((w.alloc (.cells #[.int .i64 (n : Int), .slice (some ⟨g, 0, none⟩) cs.length c] 26)).alloc (.cells #[.int .i64 0, .slice none 0 0] 26)) := ((Below.refl _ _).alloc (Nat.le_refl _) _).alloc (by simp) _
  obtain ⟨W0, hW0⟩ : ∃ W0, W0 = (w.alloc (.cells #[.int .i64 (n : Int), .slice (some ⟨g, 0, none⟩) cs.length c] 26)).alloc (.cells #[.int .i64 0, .slice none 0 0] 26) := ⟨_, rfl⟩
  have HW0 := Lib.hid hW0
  have hs0 : W0.heap.size = w.heap.size + 2 := by rw [hW0]; simp
  rw [← hW0] at hO hbb
  have Hs0 := Lib.hid hs0
  have HX := Lib.hid ((hx.below hbb hgl).below ((Below.refl _ _).alloc (Nat.le_refl _) (.cells #[] 3)) (show g < W0.heap.size by omega))
  have HO := Lib.hid hO
  have Hbb := Lib.hid hbb
  have k0 := hO.b1.cell' (v := .int .i64 (n : Int)) 0 rfl
  have k1 := hO.b1.cell' (v := .slice (some ⟨g, 0, none⟩) cs.length c) 1 rfl
  have z1 : w.heap.size < W0.heap.size := by omega
  have z2 : w.heap.size + 1 < W0.heap.size := by omega
  clear hO hbb hx hW0 hs0
  go_enter Try.func28, Try.ntmps28
  go_wp2
  rw [← HW0.out]
  go_region_law
    ((refine step_copy elemInt (by rfl) _ _ (by rfl) (by rfl) ⟨g, 0, none⟩ cs.length c (cs.map natV) (by rfl) (by simp) (by simp [natV, Value.oneCell']) h0 (by omega) (by decide) (nats_news HX.out) ?_; intro g5 cap w5 hr hb5)
     have hb2 := HO.out.b2.next hb5
     have c0 : w5.cell? ⟨w.heap.size + 1, 0, none⟩ = some (.int .i64 0) := hb2.cell' 0 rfl
     have c1 : w5.cell? ⟨w.heap.size + 1, 1, none⟩ = some (.slice none 0 0) := hb2.cell' 1 rfl
     have f0 := hb2.frozen 0
     have f1 := hb2.frozen 1
     have hb1 := HO.out.b1.next hb5
     have k0 := hb1.cell' (v := .int .i64 (n : Int)) 0 rfl
     have k1 := hb1.cell' (v := .slice (some ⟨g, 0, none⟩) cs.length c) 1 rfl
     have Hb2 := Lib.hid hb2
     have Hr := Lib.hid hr
     have Hb5 := Lib.hid hb5
     clear hb2 hb1 hr hb5)
  all_goals go_wp2
  all_goals refine bodyPost_ret (v := .agg #[.int .i64 (n : Int), .slice (some ⟨g5, 0, none⟩) cs.length cap]) ?_ rfl ⟨g5, cap, rfl, ?_, ?_⟩
  all_goals first
    | (have hb3 := (Hb2.out.set 0 (.int .i64 (n : Int))).set 1 (.slice (some ⟨g5, 0, none⟩) cs.length cap)
       have d0 := hb3.cell' (v := .int .i64 (n : Int)) 0 rfl
       have d1 := hb3.cell' (v := .slice (some ⟨g5, 0, none⟩) cs.length cap) 1 rfl
       simp [results, Try.results28, go_sem, d0, d1]; done)
    | (have hn := own_far Hr.out z2
       exact own_base (own_set (own_set Hr.out _ _ hn) _ _ hn) (by rw [Hs0.out]; omega))
    | exact ((Hbb.out.trans (Hb5.out.mono (by rw [Hs0.out]; omega))).setCell (by simp) _).setCell (by simp) _
set_option maxHeartbeats 2000000 in
theorem tieOurs_ok (n g c : Nat) (cs : List Nat) (w : World) (h0 : 0 < cs.length) (hl : cs.length ≤ 1000) (hx : NatsAt w g 0 cs) (hgl : g < w.heap.size) :
    Calls Try.prog 37 #[.agg #[.int .i64 (n : Int), .slice (some ⟨g, 0, none⟩) cs.length c]] w fun e w' =>
      ∃ g' cap, e = .returned (.agg #[.int .i64 (n : Int), .slice (some ⟨g', 0, none⟩) cs.length cap]) ∧ w'.ownsRow (w.heap.size + 2) 3 1 (.slice (some ⟨g', 0, none⟩) cs.length cap) cs.length (cs.map natV) ∧ Below w.heap.size w w' := by
  have hO := OwnRow.new w n g 0 cs.length c 37
  have hbb : Below w.heap.size w ((w.alloc (.cells #[.int .i64 (n : Int), .slice (some ⟨g, 0, none⟩) cs.length c] 37)).alloc (.cells #[.int .i64 0, .slice none 0 0] 37)) := ((Below.refl _ _).alloc (Nat.le_refl _) _).alloc (by simp) _
  obtain ⟨W0, hW0⟩ : ∃ W0, W0 = (w.alloc (.cells #[.int .i64 (n : Int), .slice (some ⟨g, 0, none⟩) cs.length c] 37)).alloc (.cells #[.int .i64 0, .slice none 0 0] 37) := ⟨_, rfl⟩
  have HW0 := Lib.hid hW0
  have hs0 : W0.heap.size = w.heap.size + 2 := by rw [hW0]; simp
  rw [← hW0] at hO hbb
  have Hs0 := Lib.hid hs0
  have HX := Lib.hid ((hx.below hbb hgl).below ((Below.refl _ _).alloc (Nat.le_refl _) (.cells #[] 3)) (show g < W0.heap.size by omega))
  have HO := Lib.hid hO
  have Hbb := Lib.hid hbb
  have k0 := hO.b1.cell' (v := .int .i64 (n : Int)) 0 rfl
  have k1 := hO.b1.cell' (v := .slice (some ⟨g, 0, none⟩) cs.length c) 1 rfl
  have z1 : w.heap.size < W0.heap.size := by omega
  have z2 : w.heap.size + 1 < W0.heap.size := by omega
  clear hO hbb hx hW0 hs0
  go_enter Try.func37, Try.ntmps37
  go_wp2
  rw [← HW0.out]
  go_region_law
    ((refine step_copy elemInt (by rfl) _ _ (by rfl) (by rfl) ⟨g, 0, none⟩ cs.length c (cs.map natV) (by rfl) (by simp) (by simp [natV, Value.oneCell']) h0 (by omega) (by decide) (nats_news HX.out) ?_; intro g5 cap w5 hr hb5)
     have hb2 := HO.out.b2.next hb5
     have c0 : w5.cell? ⟨w.heap.size + 1, 0, none⟩ = some (.int .i64 0) := hb2.cell' 0 rfl
     have c1 : w5.cell? ⟨w.heap.size + 1, 1, none⟩ = some (.slice none 0 0) := hb2.cell' 1 rfl
     have f0 := hb2.frozen 0
     have f1 := hb2.frozen 1
     have hb1 := HO.out.b1.next hb5
     have k0 := hb1.cell' (v := .int .i64 (n : Int)) 0 rfl
     have k1 := hb1.cell' (v := .slice (some ⟨g, 0, none⟩) cs.length c) 1 rfl
     have Hb2 := Lib.hid hb2
     have Hr := Lib.hid hr
     have Hb5 := Lib.hid hb5
     clear hb2 hb1 hr hb5)
  all_goals go_wp2
  all_goals refine bodyPost_ret (v := .agg #[.int .i64 (n : Int), .slice (some ⟨g5, 0, none⟩) cs.length cap]) ?_ rfl ⟨g5, cap, rfl, ?_, ?_⟩
  all_goals first
    | (have hb3 := (Hb2.out.set 0 (.int .i64 (n : Int))).set 1 (.slice (some ⟨g5, 0, none⟩) cs.length cap)
       have d0 := hb3.cell' (v := .int .i64 (n : Int)) 0 rfl
       have d1 := hb3.cell' (v := .slice (some ⟨g5, 0, none⟩) cs.length cap) 1 rfl
       simp [results, Try.results37, go_sem, d0, d1]; done)
    | (have hn := own_far Hr.out z2
       exact own_base (own_set (own_set Hr.out _ _ hn) _ _ hn) (by rw [Hs0.out]; omega))
    | exact ((Hbb.out.trans (Hb5.out.mono (by rw [Hs0.out]; omega))).setCell (by simp) _).setCell (by simp) _
set_option maxHeartbeats 1000000 in
theorem call47 (L b c : Nat) (ss : List ByteArray) (w : World) (hL : ss.length = L) (h0 : 0 < L) (hl : L ≤ 60) (hx : StrsAt w b 0 ss) (hb : b < w.heap.size) :
    Calls Try.prog 47 #[.slice (some ⟨b, 0, none⟩) L c] w fun e w' =>
      ∃ g cap, e = .returned (.slice (some ⟨g, 0, none⟩) L cap) ∧ StrsAt w' g 0 ss ∧ w.heap.size ≤ g ∧ g < w'.heap.size ∧ Below w.heap.size w w' := by
  subst hL
  have hx1 := hx.below ((Below.refl _ _).alloc (Nat.le_refl _) (.cells #[] 9)) hb
  have HX := Lib.hid hx1
  clear hx hx1
  go_enter Try.func47, Try.ntmps47
  go_wp2_with (at_builtin; refine Shut.out ?_)
  unfold Shut
  refine app_copy elemStr rfl _ _ rfl rfl ⟨b, 0, none⟩ ss.length c (ss.map Value.string) rfl (by simp) (by simp [Value.oneCell']) h0 (by omega) (by decide) ?_ ?_
  · intro j u hj
    simp only [List.getElem?_map, Option.map_eq_some_iff] at hj
    obtain ⟨x, hx, rfl⟩ := hj
    have hjl : j < ss.length := (List.getElem?_eq_some_iff.1 hx).1
    have := HX.out j hjl
    rw [nthB, hx] at this
    rw [show (⟨b, 0, none⟩ : Addr).add j = ⟨b, 0 + j, none⟩ by unfold Addr.add; split <;> simp_all]
    exact this
  intro g cap w1 hr hb1
  have Hr := Lib.hid hr
  have Hb1 := Lib.hid hb1
  clear hr hb1
  go_wp2_with fail
  go_ret
  obtain ⟨a, b, d⟩ := strs_of_row Hr.out h0
  exact ⟨g, cap, rfl, a, d, b, Hb1.out⟩
theorem call28 (n L b c : Nat) (xs : List Nat) (W : World) (hL : xs.length = L) (h0 : 0 < L) (h1 : L ≤ 96) (hx : NatsAt W b 0 xs) (hb : b < W.heap.size) :
    Calls Try.prog 28 #[.agg #[.int .i64 (n : Int), .slice (some ⟨b, 0, none⟩) L c]] W (MadeL n L xs W) := by
  subst hL
  refine (tieOwn_ok n b c xs W h0 (by omega) hx hb).mono ?_
  rintro e w' ⟨g, cap, rfl, h1, h2⟩
  exact made_of rfl h0 (own_base h1 (by omega)) h2
theorem call37 (n L b c : Nat) (xs : List Nat) (W : World) (hL : xs.length = L) (hv : Valid n xs) (hx : NatsAt W b 0 xs) (hb : b < W.heap.size) :
    Calls Try.prog 37 #[.agg #[.int .i64 (n : Int), .slice (some ⟨b, 0, none⟩) L c]] W (MadeL n L xs W) := by
  subst hL
  have l0 := hv.l0
  have l1 := hv.l1
  refine (tieOurs_ok n b c xs W (by omega) (by omega) hx hb).mono ?_
  rintro e w' ⟨g, cap, rfl, h1, h2⟩
  exact made_of rfl (by omega) (own_base h1 (by omega)) h2
end Go.Proofs.Ytdmgffoikebgkaa
/- Beside. -/
namespace Go.Proofs.Ytdmgffoikebgkaa
open Go.RowKit Go.Shelf

/-- two designs side by side -/
def beG (an : Nat) (ax bx : List Nat) (i j : Nat) : Bool := if j < an then bitN (nthN ax i) j else bitN (nthN bx i) (j - an)
set_option maxHeartbeats 1000000 in
theorem beside1_any (an ab ao ac bn bb bo bc Ba Bb : Nat) (ax bx : List Nat) (i j : Nat) (w : World) (ha : VAt w ab ao ac an ax) (hb : VAt w bb bo bc bn bx) (da : DBox w Ba an ab ao ac ax) (db : DBox w Bb bn bb bo bc bx) (hl : bx.length = ax.length) (hi : i < ax.length) (hj : j < an + bn) :
    Calls Try.prog 147 #[.int .i64 (i : Int), .int .i64 (j : Int), .pointer (some ⟨Ba, 0, none⟩), .pointer (some ⟨Bb, 0, none⟩)] w fun e w' => e = .returned (.bool (beG an ax bx i j)) ∧ Below w.heap.size w w' := by
  have a0 := da.c0
  have a1 := da.c1
  have b0 := db.c0
  have b1 := db.c1
  have l1 := ha.ok.l1
  have l2 := hb.ok.l1
  have n1 := ha.ok.n1
  have n2 := hb.ok.n1
  by_cases hjn : j < an
  · have He := Lib.hid (show beG an ax bx i j = bitN (nthN ax i) j by unfold beG; rw [if_pos hjn])
    have HL := Lib.hid (paperLifted_any an ab ao ac ax i j w ha.lt (by omega) ha.at' hi (by have := ha.ok.lt' i; omega) (by omega))
    clear ha hb da db hl
    go_enter Try.func147, Try.ntmps147
    go_wp2_with fail
    refine HL.out.mono ?_
    rintro e w1 ⟨rfl, hb1⟩
    have Hb := Lib.hid hb1
    clear hb1
    go_wp2_with fail
    go_ret
    exact ⟨ret_bool (by rw [He.out]), Hb.out⟩
  · have He := Lib.hid (show beG an ax bx i j = bitN (nthN bx i) (j - an) by unfold beG; rw [if_neg hjn])
    have hs : (j : Int) - (an : Int) = ((j - an : Nat) : Int) := by omega
    have HL := Lib.hid (paperLifted_any bn bb bo bc bx i (j - an) w hb.lt (by omega) hb.at' (by omega) (by have := hb.ok.lt' i; omega) (by omega))
    have Hs := Lib.hid hs
    clear ha hb da db hl hs
    go_enter Try.func147, Try.ntmps147
    go_wp2_with fail
    rw [Hs.out]
    refine HL.out.mono ?_
    rintro e w1 ⟨rfl, hb1⟩
    have Hb := Lib.hid hb1
    clear hb1
    go_wp2_with fail
    go_ret
    exact ⟨ret_bool (by rw [He.out]), Hb.out⟩
theorem below_three (w : World) (o1 o2 o3 : Obj) : Below w.heap.size w (((w.alloc o1).alloc o2).alloc o3) :=
  (((Below.refl _ _).alloc (Nat.le_refl _) o1).alloc (by simp) o2).alloc (by simp; omega) o3
/-- check of two designs, behind three boxes -/
theorem check_res23 (d e : Dsg) (w : World) (o1 o2 o3 : Obj) (hr : Reads w d.v d.xs) (hs : Reads w e.v e.xs) (r : Int) (he : firstE [d, e] = r) :
    Calls Try.prog 137 #[.slice (some ⟨w.heap.size + 1 + 1 + 1, 0, none⟩) 2 2] ((((w.alloc o1).alloc o2).alloc o3).alloc (.cells #[.int .i64 d.hooks, .slice d.p d.xs.length d.cap, .int .i64 e.hooks, .slice e.p e.xs.length e.cap] 37))
      fun e' w' => e' = .returned (.int .i64 r) ∧ Below (w.heap.size + 1 + 1 + 1) (((w.alloc o1).alloc o2).alloc o3) w' := by
  have hb := below_three w o1 o2 o3
  have := check_two d e (((w.alloc o1).alloc o2).alloc o3) (hr.below hb) (hs.below hb)
  simp only [World.size_alloc] at this
  rw [he] at this
  exact this
theorem res_box3 {w w1 : World} {o1 o2 : Obj} (hb1 : Below (w.heap.size + 1 + 1 + 1) (((w.alloc o1).alloc o2).alloc rObj) w1) : ResBox w1 (w.heap.size + 1 + 1) ∧ Below w.heap.size w w1 := by
  have hr : ResBox (((w.alloc o1).alloc o2).alloc rObj) (w.heap.size + 1 + 1) := by
    have := ResBox.new ((w.alloc o1).alloc o2)
    unfold rObj; simpa using this
  exact ⟨hr.below hb1 (by omega), (below_three _ _ _ _).trans (hb1.mono (by omega))⟩
theorem res_facts2 {w w1 : World} {n1 b1 o1 c1 n2 b2 o2 c2 : Nat} {xs ys : List Nat} (hb1 : Below (w.heap.size + 1 + 1 + 1) (((w.alloc (dObj n1 b1 o1 c1 xs)).alloc (dObj n2 b2 o2 c2 ys)).alloc rObj) w1) :
    ResBox w1 (w.heap.size + 1 + 1) ∧ DBox w1 w.heap.size n1 b1 o1 c1 xs ∧ DBox w1 (w.heap.size + 1) n2 b2 o2 c2 ys ∧ Below w.heap.size w w1 := by
  obtain ⟨q, hB⟩ := res_box3 hb1
  have h1 := DBox.new w n1 b1 o1 c1 xs
  have h2 := DBox.new (w.alloc (dObj n1 b1 o1 c1 xs)) n2 b2 o2 c2 ys
  simp only [World.size_alloc] at h2
  have a : ∀ (W : World) (o : Obj), Below W.heap.size W (W.alloc o) := fun W o => (Below.refl _ _).alloc (Nat.le_refl _) o
  refine ⟨q, ?_, ?_, hB⟩
  · exact ((h1.below (a _ _) h1.lt).below (a _ _) (by simp <;> omega)).below hb1 (by omega)
  · exact (h2.below (a _ _) (by simp <;> omega)).below hb1 (by omega)

set_option maxHeartbeats 1000000 in
theorem Beside_ok (an ab ao ac bn bb bo bc : Nat) (ax bx : List Nat) (w : World) (ha : VAt w ab ao ac an ax) (hb : VAt w bb bo bc bn bx) (hl : bx.length = ax.length) (hs : an + bn ≤ 24) :
    Calls Try.prog 73 #[.agg #[.int .i64 (an : Int), .slice (some ⟨ab, ao, none⟩) ax.length ac], .agg #[.int .i64 (bn : Int), .slice (some ⟨bb, bo, none⟩) bx.length bc]] w (OkD (an + bn) (painted (beG an ax bx) ax.length (an + bn)) w) := by
  have Hc := fun o1 o2 o3 => check_res23 ⟨an, some ⟨ab, ao, none⟩, ac, ints ax⟩ ⟨bn, some ⟨bb, bo, none⟩, bc, ints bx⟩ w o1 o2 o3 (by unfold Dsg.v; rw [ints_len]; exact ha.reads) (by unfold Dsg.v; rw [ints_len]; exact hb.reads) 0 (by simp [firstE, Dsg.e, ha.ok.check, hb.ok.check])
  simp only [ints_len] at Hc
  have l1 := ha.ok.l1
  have ht : ((ax.length : Int) != (bx.length : Int)) = false := by rw [hl]; simp
  have hd : decide ((24 : Int) < (an : Int) + (bn : Int)) = false := by simp; omega
  have Hsum := Lib.hid (show (an : Int) + (bn : Int) = ((an + bn : Nat) : Int) by omega)
  have HA := Lib.hid ha
  have HB := Lib.hid hb
  have Hl := Lib.hid hl
  clear ha hb hl
  go_enter Try.func73, Try.ntmps73
  go_wp2_with fail
  refine (Hc _ _ _).mono ?_
  rintro e' w1 ⟨rfl, hb1⟩
  obtain ⟨q, da, db, hB⟩ := res_facts2 hb1
  have a0 := da.c0
  have a1 := da.c1
  have b0 := db.c0
  have b1 := db.c1
  have Hq := Lib.hid q
  have Hb := Lib.hid hB
  have HC : Cond 147 #[.pointer (some ⟨w.heap.size, 0, none⟩), .pointer (some ⟨w.heap.size + 1, 0, none⟩)] ax.length (an + bn) (beG an ax bx) w1 := by
    intro W i j h hi hj
    exact beside1_any an ab ao ac bn bb bo bc _ _ ax bx i j W (HA.out.below (Hb.out.trans (h.mono Hb.out.size))) (HB.out.below (Hb.out.trans (h.mono Hb.out.size))) (da.below h da.lt) (db.below h db.lt) Hl.out hi hj
  have HP := Lib.hid (paint_any 147 _ (enters_of Try.func147 (by kernel_rfl) rfl) ax.length (an + bn) (beG an ax bx) w1 l1 hs HC)
  clear HC hb1 q hB da db
  go_wp2_with fail
  rw [Hsum.out]
  refine HP.out.mono ?_
  rintro e' w3 ⟨R, rfl, hR0, hR1, hR2⟩
  have q6 := Hq.out.below hR2 Hq.out.lt
  have k0 := q6.c0
  have k1 := q6.c1
  have k2 := q6.f 0
  have k3 := q6.f 1
  have hql := Hq.out.lt
  have HR0 := Lib.hid hR0
  have HR1 := Lib.hid hR1
  have HR2 := Lib.hid hR2
  clear hR0 hR1 hR2 q6 a0 a1 b0 b1
  go_wp2_with fail
  refine bodyPost_ret (v := .tuple #[.agg #[.int .i64 ((an + bn : Nat) : Int), .slice (some ⟨R, 0, none⟩) ax.length ax.length], .int .i64 0]) ?_ rfl ⟨R, by rw [painted_len], ?_, ?_, ?_⟩
  · simp [results, Try.results73, go_sem, k0, k1]
  · exact Nat.le_trans Hb.out.size HR0.out
  · have hz := HR0.out
    exact (Below.heap_setCell _ _ _ _ (by simp; omega)).trans ((Below.heap_setCell _ _ _ _ (by simp; omega)).trans HR1.out)
  · exact ((Hb.out.trans (HR2.out.mono Hb.out.size)).setCell (by simp; omega) _).setCell (by simp; omega) _
end Go.Proofs.Ytdmgffoikebgkaa
/- A range over a closure: one law for the caller; slices.Backward; the first warps of hooks. -/
namespace Go.Proofs.Ytdmgffoikebgkaa
open Go.RowKit Go.Shelf
attribute [local go_sem] Oper.semAt_some

/-- what an iterator that is a closure owes to a caller; M: what it reads between two rounds -/
def IterC {α : Type} (P : Program) (n m : Nat) (gf : Nat) (lb : Array Value) (encs : α → Array Value) (xs : List α) (size : Nat) (M : World → Prop) : Prop :=
  ∀ (l : Nat) (J : List α → World → Prop) (W : World), W.heap.size = size →
    (∀ s A A', J s A → Below A.heap.size A A' → J s A') → (∀ s A, J s A → M A) →
    (∀ pre x W1, J pre W1 → (pre ++ [x]) <+: xs → YieldAt Fence.wide m P l (encs x) W1 fun e W' => e = .returned (.bool true) ∧ J (pre ++ [x]) W') →
    J [] W →
    CallsIn Fence.wide n P gf (#[.func (.yield l) #[] #[]] ++ lb) W fun e W' => (∃ v, e = .returned v) ∧ J xs W'
/-- how a round's body is left -/
def ownPostC {α : Type} (n : Nat) (I : List α → World → Prop) (xs : List α) (W : World) : Exit → Act → World → Prop
  | .normal, _, W' => KeepsFrom n W W' ∧ I xs W'
  | _, _, _ => False
theorem rangeC {P : Program} {α : Type} {g : Operand} {ps : Array Tmp} {assign body : Code} {Q : Exit → Act → World → Prop} {a : Act} {w : World} {n gf : Nat} {lb : Array Value} {M : World → Prop}
    (hg : a.eval g = .func (.func gf) #[] lb) (eg : Enters P gf) {encs : α → Array Value} {xs : List α} {B : Nat} (hB : B ≤ w.heap.size) (hps : ∀ x, (encs x).size = ps.size)
    (hseq : IterC P (n - 1) (n - 1 - 1) gf lb encs xs (w.heap.size + 2) M)
    (I : List α → World → Prop) (hI : ∀ s A A', I s A → Calm B A A' → I s A') (hM : ∀ s A, I s A → M A) (h0 : I [] w) (Ax : α → Act → World → Prop) (hAx : ∀ x a1 A A', Ax x a1 A → Calm B A A' → Ax x a1 A')
    (hassign : ∀ (l : Nat) (x : α) (W : World) (K : Act → World → Prop), (∀ a1 W1, Below W.heap.size W W1 → Ax x a1 W1 → K a1 W1) →
      assign.wpIn (Fence.wide.inRound l) (n - 1 - 1) P (Exit.then K (fun _ _ _ => False)) { tmps := (ps.zip (encs x)).foldl (fun t (p, v) => t.setIfInBounds p v) a.tmps, defers := [] } W)
    (hbody : ∀ (l : Nat) (pre : List α) (x : α) (a1 : Act) (W : World), I pre W → Ax x a1 W → (pre ++ [x]) <+: xs → w.heap.size + 2 ≤ W.heap.size → body.wpIn (Fence.wide.inRound l) (n - 1 - 1) P (ownPostC w.heap.size I (pre ++ [x]) W) a1 W)
    (hdone : ∀ (W : World), w.heap.size < W.heap.size → I xs W → W.heap[w.heap.size]? = some (.deferred (some [])) → Q .normal { a with defers := { target := .collected w.heap.size, args := #[] } :: a.defers } W) :
    (Code.rangeFunc g ps assign body).wpIn Fence.wide n P Q a w := by
  refine wpIn_rangeFunc fun fn hfn => ?_
  obtain ⟨rec, hrec⟩ : ∃ rec : LoopState → Loop, rec = fun st => { state := st, pending := none, fn, tmps := a.tmps, params := ps, assign, body, defers := w.heap.size } := ⟨_, rfl⟩
  obtain ⟨D, hD⟩ : ∃ D, D = w.heap.size := ⟨_, rfl⟩
  obtain ⟨W1, hW1⟩ : ∃ W1, (w.alloc (.deferred (some []))).alloc (.loop (rec .ready)) = W1 := ⟨_, rfl⟩
  have hs1 : W1.heap.size = D + 2 := by rw [← hW1, hD]; simp
  have hL1 : W1.heap[D + 1]? = some (.loop (rec .ready)) := by
    rw [← hW1, hD]; have := World.alloc_heap_new (w.alloc (.deferred (some []))) (.loop (rec .ready)); rwa [World.size_alloc] at this
  have hK1 : W1.heap[D]? = some (.deferred (some [])) := by
    rw [← hW1, hD]; exact (Below.heap_alloc _ _ _ (by simp)).trans (World.alloc_heap_new w _)
  have hb1 : Below w.heap.size w W1 := by rw [← hW1]; exact ((Below.refl _ w).alloc (Nat.le_refl _) _).alloc (by simp) _
  have hI1 : I [] W1 := hI _ _ _ h0 (Calm.of_below hb1)
  rw [← hD] at hseq hbody hdone hB
  refine ⟨D + 1, [{ target := .collected D, args := #[] }], W1, { target := .fn (.func gf) lb, args := #[.func (.yield (D + 1)) #[] #[]] }, W1, gf,
    #[.func (.yield (D + 1)) #[] #[]] ++ lb, W1, ?_, ?_, ?_, ?_, fun h => by simp [Fence.wide] at h, ?_⟩
  · rw [← hW1, hrec, hD]; exact run_enterLoop_outer _ _ _ _ _
  · simp only [resolve, hg]
    simp [go_sem]
  · intro f' _; trivial
  · simp [invoke, go_sem, eg _ _]
  · refine (hseq (D + 1) (fun pre W => I pre W ∧ D + 2 ≤ W.heap.size ∧ W.heap[D + 1]? = some (.loop (rec .ready)) ∧ W.heap[D]? = some (.deferred (some []))) W1 hs1 ?_ (fun s A h => hM s A h.1) ?_ ⟨hI1, by omega, hL1, hK1⟩).mono ?_
    · rintro s A A' ⟨hi, hz, hl, hk⟩ hb
      exact ⟨hI _ _ _ hi (Calm.of_below hb), Nat.le_trans hz hb.size, (hb.block _ (by omega)).trans hl, (hb.block _ (by omega)).trans hk⟩
    · rintro pre x W0 ⟨hi0, hz0, hl0, hk0⟩ hpre
      have hy := run_yield (P := P) (args := encs x) hl0 (by rw [hrec]; exact hps x)
      rw [hrec] at hy
      refine ⟨fn, _, assign, body, hy, roundIn_of_wpIn hfn (hassign _ x W0 _ fun a1 W hbA hax => ?_)⟩
      have hl : W.heap[D + 1]? = some (.loop (rec .ready)) := (hbA.block _ (by omega)).trans hl0
      have hk : W.heap[D]? = some (.deferred (some [])) := (hbA.block _ (by omega)).trans hk0
      have hi : I pre W := hI _ _ _ hi0 (Calm.of_below hbA)
      have hz : D + 2 ≤ W.heap.size := Nat.le_trans hz0 hbA.size
      refine ⟨_, run_beginRound hl (by rw [hrec]), ?_⟩
      have hbusy : (W.putObj (D + 1) (.loop { rec .ready with state := .busy })).heap[D + 1]? = some (.loop { rec .ready with state := .busy }) := World.putObj_heap_same (Array.getElem?_eq_some_iff.1 hl).1
      have hc2 : Calm B W (W.putObj (D + 1) (.loop { rec .ready with state := .busy })) := Calm.putObj _ hl rfl (by omega)
      refine wpIn_mono (hbody _ pre x a1 _ (hI _ _ _ hi hc2) (hAx _ _ _ _ hax hc2) hpre (by simpa using hz)) ?_
      rintro e a3 W3 hp
      cases e with
      | normal =>
        obtain ⟨hk3, hi3⟩ := hp
        have hl3 := hk3.same _ _ (Nat.le_succ _) hbusy rfl
        have hd3 := hk3.same _ _ (Nat.le_refl _) ((World.putObj_heap_other (by omega)).trans hk) rfl
        have hz3 : D + 2 ≤ W3.heap.size := Nat.le_trans (by simpa using hz) hk3.size
        have hr := run_endRound (P := P) none hl3
        rw [hrec] at hr hl3
        refine ⟨_, _, hr, rfl, ⟨hI _ _ _ hi3 (Calm.putObj _ hl3 rfl (by omega)), by simp; omega, ?_, (World.putObj_heap_other (by omega)).trans hd3⟩⟩
        · rw [hrec]; exact World.putObj_heap_same (by omega)
      | _ => exact hp.elim
    · rintro e W2 ⟨⟨v, rfl⟩, hi, hz, hl, hk⟩
      have hr := run_endLoop (P := P) hl (by rw [hrec]; simp)
      rw [hrec] at hr hl
      refine ⟨none, _, hr, ?_⟩
      have := hdone _ (by simp; omega) (hI _ _ _ hi (Calm.putObj (.loop { rec .ready with state := .exhausted }) hl rfl (by omega))) ((World.putObj_heap_other (by omega)).trans hk)
      rw [hrec] at this
      rw [← hD] at *
      exact this

/-- the places of a row, from the last one on -/
def backL (n k : Nat) : List Nat := (List.range k).map fun i => n - 1 - i
theorem backL_succ (n k : Nat) : backL n (k + 1) = backL n k ++ [n - 1 - k] := by simp [backL, List.range_succ]
theorem backL_len (n k : Nat) : (backL n k).length = k := by simp [backL]
theorem backL_pre (n : Nat) {k m : Nat} (hk : k ≤ m) : backL n k <+: backL n m := by
  induction hk with
  | refl => exact List.prefix_refl _
  | step _ ih => rw [backL_succ]; exact ih.trans (List.prefix_append _ _)
theorem backL_at {n m : Nat} {pre : List Nat} {x : Nat} (h : (pre ++ [x]) <+: backL n m) : pre = backL n pre.length ∧ x = n - 1 - pre.length ∧ pre.length < m := by
  obtain ⟨t, ht⟩ := h
  have hl : pre.length + 1 + t.length = m := by
    have := congrArg List.length ht
    rw [List.length_append, List.length_append, backL_len] at this
    simpa using this
  have h1 := backL_pre n (show pre.length + 1 ≤ m by omega)
  obtain ⟨t2, ht2⟩ := h1
  have h3 : pre ++ [x] = backL n (pre.length + 1) := by
    have : (pre ++ [x]) ++ t = backL n (pre.length + 1) ++ t2 := by rw [ht, ht2]
    exact (List.append_inj this (by simp [backL_len])).1
  rw [backL_succ] at h3
  have h4 := List.append_inj h3 (by simp [backL_len])
  exact ⟨h4.1, by simpa using h4.2, by omega⟩
def BackM (S b off c : Nat) (hs : List Nat) (W : World) : Prop := W.cell? ⟨S, 0, none⟩ = some (.slice (some ⟨b, off, none⟩) hs.length c) ∧ NatsAt W b off hs
set_option maxRecDepth 100000 in
set_option maxHeartbeats 1000000 in
theorem back_iter (S b off c : Nat) (hs : List Nat) (n size : Nat) (hl : hs.length ≤ 1000) :
    IterC Try.prog n (n - 1) 211 #[.pointer (some ⟨S, 0, none⟩)] (fun i : Nat => #[.int .i64 (i : Int), .int .i64 (nthN hs i : Int)]) (backL hs.length hs.length) size (BackM S b off c hs) := by
  intro L J W _ _ hM hY h0
  refine callsIn_of_wp Try.func211 rfl trivial ?_ rfl
  simp only [Try.ntmps211, List.size_toArray, List.length_cons, List.length_nil, Nat.reduceAdd, Nat.reduceSub, Array.replicate_succ, Array.replicate_zero, List.push_toArray, List.append_toArray, List.nil_append, List.cons_append]
  have h1 := (hM _ _ h0).1
  gi_wp2_with fail
  gi_loopw [3] (fun i wr => ∃ k : Nat, k ≤ hs.length ∧ i = .int .i64 ((hs.length : Int) - 1 - (k : Int)) ∧ J (backL hs.length k) wr) (fun i _ => (intOf i + 1).toNat)
  case atStart => exact ⟨0, Nat.zero_le _, by simp, h0⟩
  case round =>
    obtain ⟨k, hk, rfl, hJ⟩ := hrel
    obtain ⟨g1, g2⟩ := hM _ _ hJ
    clear h1 h0
    by_cases hlt : k < hs.length
    · obtain ⟨q, hq⟩ : ∃ q : Nat, (hs.length : Int) - 1 - (k : Int) = (q : Int) := ⟨hs.length - 1 - k, by omega⟩
      have hql : q < hs.length := by omega
      have hq2 : hs.length - 1 - k = q := by omega
      have hpre := backL_pre hs.length (show k + 1 ≤ hs.length by omega)
      rw [backL_succ, hq2] at hpre
      obtain ⟨fn, tmps, assign, body, hy, hR⟩ := hY _ q wr hJ hpre
      have hc := g2 q hql
      have d1 : decide ((0 : Int) ≤ (q : Int)) = true := by simp
      rw [hq]
      gi_wp2_with fail
      refine ⟨fun h => by simp [Fence.wide] at h, hR.mono ?_⟩
      rintro e W3 ⟨rfl, hJ3⟩
      gi_wp2_with fail
      go_roundw
      case rel => exact ⟨k + 1, by omega, by go_num, by rw [backL_succ, hq2]; exact hJ3⟩
      case measure => simp only [intOf]; omega
    · obtain rfl : k = hs.length := by omega
      have e1 : (hs.length : Int) - 1 - (hs.length : Int) = -1 := by omega
      rw [e1]
      gi_wp2_with fail
      go_end0
      exact ⟨⟨_, rfl⟩, hJ⟩
end Go.Proofs.Ytdmgffoikebgkaa
