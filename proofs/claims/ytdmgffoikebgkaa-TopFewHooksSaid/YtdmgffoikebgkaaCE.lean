/- Mend, of a chain that has a number of its own for each card. -/
import Derived.Test.YtdmgffoikebgkaaCD
namespace Go.Proofs.Ytdmgffoikebgkaa
open Go.RowKit Go.Shelf

def mendOne (cs : List Card) (f : Int → Option Nat) (m : Nat) : List Card :=
  match f (m : Int) with
  | some y => [⟨m, (nthC cs y).row, false⟩]
  | none => []
/-- the cards in the order of their numbers -/
def mendTo (cs : List Card) (f : Int → Option Nat) (k : Nat) : List Card := (List.range k).flatMap (mendOne cs f)
theorem mendTo_succ (cs : List Card) (f : Int → Option Nat) (k : Nat) : mendTo cs f (k + 1) = mendTo cs f k ++ mendOne cs f k := by
  simp [mendTo, List.range_succ]
theorem mendOne_len (cs : List Card) (f : Int → Option Nat) (m : Nat) : (mendOne cs f m).length ≤ 1 := by
  unfold mendOne; split <;> simp
theorem mendTo_len (cs : List Card) (f : Int → Option Nat) : ∀ k, (mendTo cs f k).length ≤ k
  | 0 => by simp [mendTo]
  | k + 1 => by rw [mendTo_succ, List.length_append]; have := mendTo_len cs f k; have := mendOne_len cs f k; omega
/-- what Mend keeps between two numbers -/
structure MeAt (w0 : World) (n g c : Nat) (cs : List Card) (mb B : Nat) (f : Int → Option Nat) (v : Value) (rows : List Card) (W : World) : Prop where
  arg : BoxAt W w0.heap.size #[.int .i64 (n : Int), .slice (some ⟨g, 0, none⟩) cs.length c] 114
  res : BoxAt W (w0.heap.size + 1) #[.int .i64 0, .slice none 0 0] 114
  box : BoxAt W B #[.int .i64 (n : Int), v] 114
  map : IMap W mb cs.length cs.length f
  row : W.ownsRow (B + 1) 128 3 v rows.length (cardCells rows)
  b : Below w0.heap.size w0 W
  lo : w0.heap.size + 1 < mb
  hi : mb < B
theorem MeAt.next {w0 W W' : World} {n g c mb B : Nat} {cs rows : List Card} {f : Int → Option Nat} {v : Value} (h : MeAt w0 n g c cs mb B f v rows W) (hb : Below W.heap.size W W') : MeAt w0 n g c cs mb B f v rows W' :=
  ⟨h.arg.next hb, h.res.next hb, h.box.next hb, h.map.next hb, own_next h.row hb, h.b.trans (hb.mono h.b.size), h.lo, h.hi⟩
theorem MeAt.size {w0 W : World} {n g c mb B : Nat} {cs rows : List Card} {f : Int → Option Nat} {v : Value} (h : MeAt w0 n g c cs mb B f v rows W) : B + 1 ≤ W.heap.size := h.box.lt
theorem MeAt.grew {w0 W W' : World} {n g c mb B g5 cap : Nat} {cs rows : List Card} {f : Int → Option Nat} {v : Value} {card : Card} (h : MeAt w0 n g c cs mb B f v rows W)
    (hg : Grew (B + 1) 128 3 W W' v g5 cap (rows.length + 1) (cardCells rows ++ card.cells)) :
    BoxAt W' B #[.int .i64 (n : Int), v] 114 ∧ MeAt w0 n g c cs mb B f (.slice (some ⟨g5, 0, none⟩) (rows.length + 1) cap) (rows ++ [card]) (W'.setCell ⟨B, 1, none⟩ (.slice (some ⟨g5, 0, none⟩) (rows.length + 1) cap)) := by
  have hn : ∀ j, j < B + 1 → some j ≠ v.ownBlock := fun j hj => own_far h.row hj
  have hb := h.box.kept hg.grow (hn _ (by omega))
  have hlo := h.lo
  have hhi := h.hi
  refine ⟨hb, ⟨(h.arg.kept hg.grow (hn _ (by omega))).other _ _ (by simp; omega), (h.res.kept hg.grow (hn _ (by omega))).other _ _ (by simp; omega), hb.set 1 _, (h.map.grown hg.grow (hn _ (by omega))).set _ _ (by simp; omega), ?_, ?_, h.lo, h.hi⟩⟩
  · have hr := hg.row
    have := own_set hr ⟨B, 1, none⟩ (.slice (some ⟨g5, 0, none⟩) (rows.length + 1) cap) (own_far hr (by simp))
    rw [List.length_append, List.length_singleton, cardCells_snoc]
    exact this
  · exact (h.b.grown hg.grow h.b.size (fun j hj => by have := (ownBlock_ge h.row hj).1; omega)).setCell (by simp; omega) _

set_option maxRecDepth 100000 in
set_option maxHeartbeats 2000000 in
theorem Mend_ok (n g c : Nat) (cs : List Card) (w : World) (hv : BAt w g n cs) (hd : Apart cs) :
    Calls Try.prog 82 #[.agg #[.int .i64 (n : Int), .slice (some ⟨g, 0, none⟩) cs.length c]] w fun e w' =>
      ∃ v f, e = .returned (.tuple #[.agg #[.int .i64 (n : Int), v], .int .i64 0]) ∧ PlaceOf cs cs.length f ∧ w'.ownsRow w.heap.size 128 3 v (mendTo cs f 60).length (cardCells (mendTo cs f 60)) ∧ Below w.heap.size w w' := by
  have l1 := hv.ok.l1
  have l0 := hv.ok.l0
  obtain ⟨w0, hw0⟩ : ∃ w0, w0 = (w.alloc (.cells #[.int .i64 (n : Int), .slice (some ⟨g, 0, none⟩) cs.length c] 114)).alloc (.cells #[.int .i64 0, .slice none 0 0] 114) := ⟨_, rfl⟩
  have hs0 : w0.heap.size = w.heap.size + 2 := by rw [hw0]; simp
  have hb1 : Below w.heap.size w w0 := by rw [hw0]; exact ((Below.refl _ _).alloc (Nat.le_refl _) _).alloc (by simp) _
  have hA : BoxAt w0 w.heap.size #[.int .i64 (n : Int), .slice (some ⟨g, 0, none⟩) cs.length c] 114 := by
    rw [hw0]; exact (BoxAt.new _ _ _).below ((Below.refl (w.heap.size + 1) _).alloc (by simp) _) (by omega)
  have hR : BoxAt w0 (w.heap.size + 1) #[.int .i64 0, .slice none 0 0] 114 := by
    rw [hw0]
    have := BoxAt.new (w.alloc (.cells #[.int .i64 (n : Int), .slice (some ⟨g, 0, none⟩) cs.length c] 114)) #[.int .i64 0, .slice none 0 0] 114
    rwa [World.size_alloc] at this
  have HC := Lib.hid (numbered_ok n g c cs w0 (hv.next hb1) hd)
  have HW0 := Lib.hid hw0
  have HA := Lib.hid hA
  have HR := Lib.hid hR
  have Hb1 := Lib.hid hb1
  have HV := Lib.hid hv
  have Hs0 := Lib.hid hs0
  clear hv hb1 hd hA hR hw0 hs0
  go_enter Try.func82, Try.ntmps82
  go_wp2_with fail
  rw [← HW0.out]
  refine HC.out.mono ?_
  rintro e w1 ⟨mb, f, rfl, hm, hp, hlo, hb⟩
  have hA1 := HA.out.next hb
  have hR1 := HR.out.next hb
  have k0 : w1.cell? ⟨w.heap.size, 0, none⟩ = some (.int .i64 (n : Int)) := hA1.cell' 0 rfl
  have hbw := Hb1.out.trans (hb.mono (by rw [Hs0.out]; omega))
  have hbn := (Below.refl _ _).alloc (Nat.le_refl w1.heap.size) (.cells #[.int .i64 (n : Int), .slice none 0 0] 114)
  have hM0 : MeAt w n g c cs mb w1.heap.size f (.slice none 0 0) (mendTo cs f 0) (w1.alloc (.cells #[.int .i64 (n : Int), .slice none 0 0] 114)) :=
    ⟨hA1.next hbn, hR1.next hbn, BoxAt.new _ _ _, hm.next hbn, World.ownsRow_nil _ _ _ _, hbw.alloc hbw.size _, by have := Hs0.out; omega, hm.lt⟩
  have HM0 := Lib.hid hM0
  have HP := Lib.hid hp
  obtain ⟨B, hB⟩ : ∃ B, w1.heap.size = B := ⟨_, rfl⟩
  rw [hB] at HM0
  have HB := Lib.hid hB
  clear hb hA1 hR1 hbw hbn hM0 hm hlo hp hB
  go_wp2_with fail
  rw [HB.out]
  go_loopw [22] (fun i wr => ∃ (k : Nat) (v : Value), k ≤ 60 ∧ i = .int .i64 k ∧ MeAt w n g c cs mb B f v (mendTo cs f k) wr) (fun i _ => 60 - (intOf i).toNat)
  case atStart => exact ⟨0, _, Nat.zero_le _, rfl, HM0.out⟩
  case round =>
    obtain ⟨k, v, hk, rfl, hT⟩ := hrel
    clear HM0
    obtain ⟨rows, hrw⟩ : ∃ rows, mendTo cs f k = rows := ⟨_, rfl⟩
    have Hrl := Lib.hid (show rows.length ≤ k by rw [← hrw]; exact mendTo_len _ _ _)
    have hsc := mendTo_succ cs f k
    rw [hrw] at hT hsc
    have Hrw := Lib.hid hrw
    clear hrw
    by_cases hlt : k < 60
    · have hlk := hT.map.look (X := (k : Int)) (by omega)
      cases hf : f (k : Int) with
      | none =>
        rw [hf] at hlk
        have hlk : (Instr.lookup 178 (.map (some mb)) (.int .i64 (k : Int)) true).run Try.prog wr = .ok (.tuple #[.int .i64 0, .bool false]) wr := hlk
        have Hsc := Lib.hid (show mendTo cs f (k + 1) = rows by rw [hsc]; simp [mendOne, hf])
        have HT := Lib.hid hT
        clear hT hsc hf
        go_wp2_with fail
        go_roundw
        case rel => exact ⟨k + 1, v, by omega, by go_num, by rw [Hsc.out]; exact HT.out⟩
        case measure => simp [intOf]; omega
      | some y =>
        rw [hf] at hlk
        have hlk : (Instr.lookup 178 (.map (some mb)) (.int .i64 (k : Int)) true).run Try.prog wr = .ok (.tuple #[.int .i64 (y : Int), .bool true]) wr := hlk
        have hy := ((HP.out _ _).1 hf).1
        have Hsc := Lib.hid (show mendTo cs f (k + 1) = rows ++ [⟨k, (nthC cs y).row, false⟩] by rw [hsc]; simp [mendOne, hf])
        have e1 := (HV.out.next hT.b).at'.c1 y hy
        have a1 : wr.cell? ⟨w.heap.size, 1, none⟩ = some (.slice (some ⟨g, 0, none⟩) cs.length c) := hT.arg.cell' 1 rfl
        have b1 : wr.cell? ⟨B, 1, none⟩ = some v := hT.box.cell' 1 rfl
        have hy0 : (0 : Int) ≤ (y : Int) := by omega
        have hy1 : (y : Int) < (cs.length : Int) := by omega
        obtain ⟨r, hr⟩ : ∃ r, (nthC cs y).row = r := ⟨_, rfl⟩
        rw [hr] at e1 Hsc
        have hz1 : B < wr.heap.size := hT.box.lt
        have hz2 : w.heap.size < wr.heap.size := hT.arg.lt
        have hz3 : g < wr.heap.size := (HV.out.next hT.b).at'.lt
        have HT := Lib.hid hT
        clear hT hsc hf hr
        go_wp2_with fail
        go_region_law
          ((refine step_one elemCard (by rfl) _ _ (by rfl) (B + 1) v rows.length (cardCells rows) (Card.mk k r false).cells.toArray (by rfl) HT.out.row (by rfl) (by rfl) (by simp [Card.cells, Value.oneCell']) (by have := Hrl.out; omega) (by decide) HT.out.size ?_; intro g5 cap w5 hg)
           obtain ⟨hbx, hT5⟩ := HT.out.grew hg
           have f1 := hbx.frozen 1
           have c1 : w5.cell? ⟨B, 1, none⟩ = some v := hbx.cell' 1 rfl
           have HT5 := Lib.hid hT5
           clear hg hT5 hbx)
        all_goals go_wp2_with fail
        all_goals go_roundw
        all_goals first | (simp [intOf]; omega) | exact ⟨k + 1, _, by omega, by go_num, by rw [Hsc.out]; exact HT5.out⟩
    · obtain rfl : k = 60 := by omega
      have b0 : wr.cell? ⟨B, 0, none⟩ = some (.int .i64 (n : Int)) := hT.box.cell' 0 rfl
      have b1 : wr.cell? ⟨B, 1, none⟩ = some v := hT.box.cell' 1 rfl
      have r0 : wr.cell? ⟨w.heap.size + 1, 0, none⟩ = some (.int .i64 0) := hT.res.cell' 0 rfl
      have r1 : wr.cell? ⟨w.heap.size + 1, 1, none⟩ = some (.slice none 0 0) := hT.res.cell' 1 rfl
      have f0 := hT.res.frozen 0
      have f1 := hT.res.frozen 1
      have hlo := hT.lo
      have hhi := hT.hi
      have HT := Lib.hid hT
      obtain ⟨p, l, q, rfl⟩ : ∃ p l q, v = .slice p l q := by
        obtain ⟨_, ⟨h, h0⟩ | ⟨g, cap, cur, h, _⟩⟩ := hT.row
        · exact ⟨_, _, _, h⟩
        · exact ⟨_, _, _, h⟩
      clear hT hsc
      go_wp2_with fail
      refine bodyPost_ret (v := .tuple #[.agg #[.int .i64 (n : Int), .slice p l q], .int .i64 0]) ?_ rfl ⟨_, f, rfl, HP.out, ?_, ?_⟩
      · simp [results, Try.results82, go_sem, r0, r1]
      · have h := HT.out.row
        have hf : ∀ j, j < B + 1 → some j ≠ (Value.slice p l q).ownBlock := fun j hj => own_far h hj
        rw [← Hrw.out] at h
        exact own_base (own_set (own_set h _ _ (hf _ (by simp; omega))) _ _ (hf _ (by simp; omega))) (by omega)
      · exact (HT.out.b.setCell (by simp) _).setCell (by simp) _
end Go.Proofs.Ytdmgffoikebgkaa
