/- Chains: what a card lifts; the belt; the row at the needles. -/
import Derived.Test.YtdmgffoikebgkaaCA
import Derived.Test.YtdmgffoikebgkaaKA
namespace Go.Proofs.Ytdmgffoikebgkaa
open Go.RowKit Go.Shelf

set_option maxHeartbeats 1000000 in
theorem chainCheck_ok (n g c : Nat) (cs : List Card) (w : World) (hv : BAt w g n cs) :
    Calls Try.prog 156 #[.agg #[.int .i64 (n : Int), .slice (some ⟨g, 0, none⟩) cs.length c]] w fun e w' => e = .returned (.int .i64 0) ∧ Below w.heap.size w w' := by
  have l1 := hv.ok.l1
  have l0 := hv.ok.l0
  have n0 := hv.ok.n0
  have n1 := hv.ok.n1
  have hd1 : (decide (1 ≤ (n : Int)) && decide ((n : Int) ≤ 24)) = true := by simp; omega
  have hd2 : ((cs.length : Int) == 0) = false := by rw [beq_eq_false_iff_ne]; omega
  have HI := fun W => hd1 ▸ isHooks_any (n : Int) W
  have hb1 : Below w.heap.size w (w.alloc (.cells #[.int .i64 (n : Int), .slice (some ⟨g, 0, none⟩) cs.length c] 114)) := (Below.refl _ _).alloc (Nat.le_refl _) _
  have HC := Lib.hid (areCards_ok n g c cs _ (hv.next hb1))
  have Hb1 := Lib.hid hb1
  clear hd1 hb1 hv
  go_enter Try.func156, Try.ntmps156
  go_wp2_with fail
  refine (HI _).mono ?_
  rintro e w' ⟨rfl, rfl⟩
  go_wp2_with fail
  refine HC.out.mono ?_
  rintro e w' ⟨rfl, hb⟩
  have Hb := Lib.hid hb
  clear hb
  go_wp2_with fail
  go_ret
  exact ⟨rfl, Hb1.out.trans (Hb.out.mono (by simp))⟩

/-- the row that a card lifts -/
def mirN (n x : Nat) : Nat := rowTo (fun j => bitN x (n - 1 - j)) n
def liftN (n : Nat) (c : Card) : Nat := if c.turned then mirN n c.row else c.row
theorem lift_step (x a k t : Nat) (hx : x < 16777216) (ha : a < 16777216) (hk : k < 24) :
    bits .or .i64 (a : Int) (wrap64 (bits .and .i64 ((x : Int) / 2 ^ t) 1 * 2 ^ k)) = ((a ||| (if bitN x t then 2 ^ k else 0) : Nat) : Int) := by
  rw [shr_bit' x t (by omega)]
  obtain ⟨h1, h2⟩ := pow_bds k (by omega)
  cases bitN x t with
  | false =>
    have : wrap64 (((false.toNat : Nat) : Int) * 2 ^ k) = ((0 : Nat) : Int) := by simp [Bool.toNat]; exact IntWalk.wrap64_in _ (by omega)
    rw [this, i64_or_nat a 0 (by omega) (by omega)]; simp
  | true =>
    have : wrap64 (((true.toNat : Nat) : Int) * 2 ^ k) = 2 ^ k := by rw [show ((true.toNat : Nat) : Int) = 1 from rfl, Int.one_mul]; exact IntWalk.wrap64_in _ (by omega)
    rw [this, or_step a k ha hk]; simp
set_option maxHeartbeats 1000000 in
theorem lifted_any (n : Nat) (c : Card) (w : World) (hn : n ≤ 24) (hr : c.row < 16777216) :
    Calls Try.prog 198 #[.int .i64 (n : Int), c.enc] w fun e w' => e = .returned (.int .i64 (liftN n c : Int)) ∧ Below w.heap.size w w' := by
  unfold Card.enc
  cases ht : c.turned with
  | false =>
    have he : liftN n c = c.row := by simp [liftN, ht]
    have He := Lib.hid he
    clear he ht
    go_enter Try.func198, Try.ntmps198
    go_wp2
    go_ret
    exact ⟨ret_int (by rw [He.out]), (Below.refl _ _).alloc (Nat.le_refl _) _⟩
  | true =>
    have he : liftN n c = rowTo (fun j => bitN c.row (n - 1 - j)) n := by simp [liftN, ht, mirN]
    have He := Lib.hid he
    clear he ht
    go_enter Try.func198, Try.ntmps198
    go_wp2
    go_loop [5, 13] (fun r i => ∃ k : Nat, k ≤ n ∧ i = .int .i64 k ∧ r = .int .i64 (rowTo (fun j => bitN c.row (n - 1 - j)) k : Int)) (fun _ i => n - (intOf i).toNat)
    case atStart => exact ⟨0, Nat.zero_le _, rfl, rfl⟩
    case round =>
      obtain ⟨k, hk, rfl, rfl⟩ := hrel
      by_cases hlt : k < n
      · go_wp2
        go_round
        case rel =>
          refine ⟨k + 1, by omega, by go_num, ?_⟩
          rw [lift_step c.row _ k (n - 1 - k) hr (Nat.lt_of_lt_of_le (rowTo_lt _ k) (Nat.le_trans (Nat.pow_le_pow_right (by decide) (show k ≤ 24 by omega)) (by decide))) (by omega)]
          rfl
        case measure => simp [intOf]; omega
      · go_wp2
        go_ret
        exact ⟨ret_int (by rw [He.out, show k = n by omega]), (Below.refl _ _).alloc (Nat.le_refl _) _⟩

set_option maxHeartbeats 400000 in
theorem after_any (r a s : Nat) (w : World) (hr : 0 < r) (hr2 : r ≤ 1000) (ha : a < 1000) (hs : s < 1000) :
    Calls Try.prog 160 #[.int .i64 (r : Int), .int .i64 (a : Int), .int .i64 (s : Int)] w fun e w' => e = .returned (.int .i64 (((a + s) % r : Nat) : Int)) ∧ w = w' := by
  have hr' : ¬ r = 0 := by omega
  go_enter Try.func160, Try.ntmps160
  go_wp2
  go_ret
  exact ⟨ret_int (by norm_cast), rfl⟩

set_option maxHeartbeats 400000 in
theorem beltOf_any (n g l c : Nat) (w : World) :
    Calls Try.prog 158 #[.agg #[.int .i64 (n : Int), .slice (some ⟨g, 0, none⟩) l c]] w fun e w' => e = .returned (.agg #[.int .i64 (n : Int), .int .i64 (l : Int), .slice (some ⟨g, 0, none⟩) l c]) ∧ Below w.heap.size w w' := by
  go_enter Try.func158, Try.ntmps158
  go_wp2
  refine bodyPost_ret (v := .agg #[.int .i64 (n : Int), .int .i64 (l : Int), .slice (some ⟨g, 0, none⟩) l c]) ?_ rfl ⟨rfl, ?_⟩
  · simp [results, Try.results158, go_sem]
  · exact ((Below.refl _ _).alloc (Nat.le_refl _) _).alloc (by simp) _

structure CylRow (W : World) (B n g l c a : Nat) (card : Card) : Prop where
  c0 : W.cell? ⟨B, 0, none⟩ = some (.int .i64 (n : Int))
  c2 : W.cell? ⟨B, 2, none⟩ = some (.slice (some ⟨g, 0, none⟩) l c)
  c3 : W.cell? ⟨B, 3, none⟩ = some (.int .i64 (a : Int))
  e0 : W.cell? ⟨g, a * 3, none⟩ = some (.int .i64 (card.num : Int))
  e1 : W.cell? ⟨g, a * 3 + 1, none⟩ = some (.int .i64 (card.row : Int))
  e2 : W.cell? ⟨g, a * 3 + 2, none⟩ = some (.bool card.turned)
theorem CylRow.next {W W' : World} {B n g l c a : Nat} {card : Card} (h : CylRow W B n g l c a card) (hb : Below W.heap.size W W') : CylRow W' B n g l c a card :=
  ⟨cell_next hb h.c0, cell_next hb h.c2, cell_next hb h.c3, cell_next hb h.e0, cell_next hb h.e1, cell_next hb h.e2⟩
theorem CylRow.drew {W : World} {B n g l c a : Nat} {card : Card} (h : CylRow W B n g l c a card) : CylRow W.drew B n g l c a card := ⟨h.c0, h.c2, h.c3, h.e0, h.e1, h.e2⟩
theorem CylRow.all {W : World} {B n g l c a : Nat} {card : Card} (h : CylRow W B n g l c a card) : W.cell? ⟨B, 0, none⟩ = some (.int .i64 (n : Int)) ∧ W.cell? ⟨B, 2, none⟩ = some (.slice (some ⟨g, 0, none⟩) l c) ∧ W.cell? ⟨B, 3, none⟩ = some (.int .i64 (a : Int)) ∧ W.cell? ⟨g, a * 3, none⟩ = some (.int .i64 (card.num : Int)) ∧ W.cell? ⟨g, a * 3 + 1, none⟩ = some (.int .i64 (card.row : Int)) ∧ W.cell? ⟨g, a * 3 + 2, none⟩ = some (.bool card.turned) := ⟨h.c0, h.c2, h.c3, h.e0, h.e1, h.e2⟩
set_option maxHeartbeats 1000000 in
theorem cylRow_any (n g c a : Nat) (cs : List Card) (w : World) (hv : BAt w g n cs) (ha : a < cs.length) :
    Calls Try.prog 159 #[.agg #[.int .i64 (n : Int), .int .i64 (cs.length : Int), .slice (some ⟨g, 0, none⟩) cs.length c, .int .i64 (a : Int)]] w fun e w' => e = .returned (.int .i64 (liftN n (nthC cs a) : Int)) ∧ Below w.heap.size w w' := by
  have l1 := hv.ok.l1
  have n1 := hv.ok.n1
  have hr := hv.ok.row' a
  obtain ⟨card, hcd⟩ : ∃ card, nthC cs a = card := ⟨_, rfl⟩
  have hvb := hv.at'.next ((Below.refl _ _).alloc (Nat.le_refl _) (.cells #[.int .i64 (n : Int), .int .i64 (cs.length : Int), .slice (some ⟨g, 0, none⟩) cs.length c, .int .i64 (a : Int)] 214))
  have e0 := hvb.c0 a ha
  have e1 := hvb.c1 a ha
  have e2 := hvb.c2 a ha
  rw [hcd] at e0 e1 e2 hr ⊢
  have HL := fun W => lifted_any n card W n1 hr
  unfold Card.enc at HL
  have ha0 : (0 : Int) ≤ (a : Int) := by omega
  have ha1 : (a : Int) < (cs.length : Int) := by omega
  have ha2 : (a : Int).toNat = a := by omega
  have hS : CylRow (w.alloc (.cells #[.int .i64 (n : Int), .int .i64 (cs.length : Int), .slice (some ⟨g, 0, none⟩) cs.length c, .int .i64 (a : Int)] 214)) w.heap.size n g cs.length c a card := ⟨by simp, by simp, by simp, e0, e1, e2⟩
  have HS := Lib.hid hS
  clear hcd hv hvb hS e0 e1 e2
  go_enter Try.func159, Try.ntmps159
  go_wp2
  go_region_held3 (fun w' => w'.cell? ⟨w.heap.size, 0, none⟩ = some (.int .i64 (n : Int)) ∧ w'.cell? ⟨w.heap.size, 2, none⟩ = some (.slice (some ⟨g, 0, none⟩) cs.length c) ∧ w'.cell? ⟨w.heap.size, 3, none⟩ = some (.int .i64 (a : Int)) ∧ w'.cell? ⟨g, a * 3, none⟩ = some (.int .i64 (card.num : Int)) ∧ w'.cell? ⟨g, a * 3 + 1, none⟩ = some (.int .i64 (card.row : Int)) ∧ w'.cell? ⟨g, a * 3 + 2, none⟩ = some (.bool card.turned))
    (first | exact HS.out.all | exact (HS.out.drew.next (by assumption)).all)
    (first | (go_at_call 198; refine (HL _).mono ?_; rintro e w' ⟨rfl, hb1⟩))
  all_goals go_wp2
  all_goals go_ret
  all_goals exact ⟨rfl, Below.trans (((Below.refl w.heap.size w).alloc (Nat.le_refl _) _).drew) (hb1.mono (by simp))⟩

set_option maxHeartbeats 400000 in
theorem areSteps_any (b off c : Nat) (xs : List Nat) (w : World) (hl : xs.length ≤ 1000) (hx : NatsAt w b off xs) (h3 : ∀ i, nthN xs i < 3) :
    Calls Try.prog 157 #[.slice (some ⟨b, off, none⟩) xs.length c] w fun e w' => e = .returned (.bool true) ∧ w = w' := by
  go_enter Try.func157, Try.ntmps157
  go_wp2
  go_loop [4, 7] (fun _ i => ∃ k : Nat, k ≤ xs.length ∧ i = .int .i64 k) (fun _ i => xs.length - (intOf i).toNat)
  case atStart => exact ⟨0, Nat.zero_le _, rfl⟩
  case round =>
    obtain ⟨k, hk, rfl⟩ := hrel
    by_cases hlt : k < xs.length
    · have hc := hx k hlt
      have h := h3 k
      have hd1 : decide ((3 : Int) ≤ (nthN xs k : Int)) = false := by simp; omega
      go_wp2
      go_round
      case rel => exact ⟨k + 1, by omega, by go_num⟩
      case measure => simp [intOf]; omega
    · go_wp2
      go_ret
      exact ⟨rfl, rfl⟩
theorem areSteps_nil (p : Option Addr) (c : Nat) (w : World) :
    Calls Try.prog 157 #[.slice p 0 c] w fun e w' => e = .returned (.bool true) ∧ w = w' := by
  go_enter Try.func157, Try.ntmps157
  go_wp2
  go_loop [4, 7] (fun _ i => i = .int .i64 0) (fun _ i => 0)
  case atStart => rfl
  case round =>
    subst hrel
    go_wp2
    go_ret
    exact ⟨rfl, rfl⟩

/-- the cylinder in its box -/
def cylB (n l g c a : Nat) : Array Value := #[.int .i64 (n : Int), .int .i64 (l : Int), .slice (some ⟨g, 0, none⟩) l c, .int .i64 (a : Int)]
/-- what Weave keeps between two steps: the belt in its box, the rows so far -/
structure WvAt (w0 : World) (B n g l c a : Nat) (v : Value) (rows : List Nat) (W : World) : Prop where
  cy : BoxAt W B (cylB n l g c a) 214
  row : W.ownsRow w0.heap.size 3 1 v rows.length (rows.map natV)
  b : Below w0.heap.size w0 W
  lo : w0.heap.size ≤ B
theorem WvAt.next {w0 W W' : World} {B n g l c a : Nat} {v : Value} {rows : List Nat} (h : WvAt w0 B n g l c a v rows W) (hb : Below W.heap.size W W') : WvAt w0 B n g l c a v rows W' :=
  ⟨h.cy.next hb, own_next h.row hb, h.b.trans (hb.mono h.b.size), h.lo⟩
theorem WvAt.grew {w0 W W' : World} {B n g l c a g5 cap z : Nat} {v : Value} {rows : List Nat} (h : WvAt w0 B n g l c a v rows W) (hg : Grew w0.heap.size 3 1 W W' v g5 cap (rows.length + 1) (rows.map natV ++ [.int .i64 (z : Int)])) :
    WvAt w0 B n g l c a (.slice (some ⟨g5, 0, none⟩) (rows.length + 1) cap) (rows ++ [z]) W' :=
  ⟨h.cy.kept hg.grow (h.cy.not_row (by decide) h.row), by have := hg.row; rw [List.length_append, List.length_singleton, List.map_append]; exact this, hg.below h.row (Nat.le_refl _) h.b.size h.b, h.lo⟩
theorem WvAt.put {w0 W : World} {B n g l c a : Nat} {v : Value} {rows : List Nat} (h : WvAt w0 B n g l c a v rows W) (a' : Nat) : WvAt w0 B n g l c a' v rows (W.setCell ⟨B, 3, none⟩ (.int .i64 (a' : Int))) := by
  refine ⟨by have := h.cy.set 3 (.int .i64 (a' : Int)); exact this, ?_, h.b.setCell h.lo _, h.lo⟩
  have hne := h.cy.not_row (by decide) h.row
  obtain ⟨hl, h2⟩ := h.row
  refine ⟨hl, ?_⟩
  rcases h2 with h2 | ⟨q, cap, cur, e, hq, hh, r⟩
  · exact .inl h2
  · refine .inr ⟨q, cap, cur, e, hq, (Below.heap_setCell _ _ _ _ ?_).trans hh, r⟩
    rintro rfl
    exact hne (by rw [e]; rfl)
/-- where the cylinder is behind so many steps, and what was woven -/
def cylTo (l : Nat) (xs : List Nat) (f : Nat) : Nat → Nat
  | 0 => f
  | k + 1 => (cylTo l xs f k + nthN xs k) % l
def wovenTo (n : Nat) (cs : List Card) (xs : List Nat) (f k : Nat) : List Nat := (List.range k).map fun i => liftN n (nthC cs (cylTo cs.length xs f i))
theorem wovenTo_succ (n : Nat) (cs : List Card) (xs : List Nat) (f k : Nat) : wovenTo n cs xs f (k + 1) = wovenTo n cs xs f k ++ [liftN n (nthC cs (cylTo cs.length xs f k))] := by
  simp [wovenTo, List.range_succ]
theorem wovenTo_len (n : Nat) (cs : List Card) (xs : List Nat) (f k : Nat) : (wovenTo n cs xs f k).length = k := by simp [wovenTo]
theorem cylTo_lt (l : Nat) (xs : List Nat) (f k : Nat) (hl : 0 < l) (hf : f < l) : cylTo l xs f k < l := by
  cases k with
  | zero => exact hf
  | succ k => exact Nat.mod_lt _ hl
set_option maxHeartbeats 2000000 in
theorem chainWeave_ok (n g c f b off cx : Nat) (cs : List Card) (xs : List Nat) (w : World) (hv : BAt w g n cs) (hf : f < cs.length) (hx : NatsAt w b off xs) (hxb : b < w.heap.size) (hl0 : 0 < xs.length) (hl : xs.length ≤ 60) (h3 : ∀ i, nthN xs i < 3) :
    Calls Try.prog 84 #[.agg #[.int .i64 (n : Int), .slice (some ⟨g, 0, none⟩) cs.length c], .int .i64 (f : Int), .slice (some ⟨b, off, none⟩) xs.length cx] w fun e w' =>
      ∃ v, e = .returned (.tuple #[v, .int .i64 (cylTo cs.length xs f xs.length : Int), .int .i64 0]) ∧ w'.ownsRow w.heap.size 3 1 v xs.length ((wovenTo n cs xs f xs.length).map natV) ∧ Below w.heap.size w w' := by
  have l1 := hv.ok.l1
  have l0 := hv.ok.l0
  have hd1 : ((0 : Int) != 0) = false := rfl
  have hb1 : Below w.heap.size w (w.alloc (.cells #[.int .i64 (n : Int), .slice (some ⟨g, 0, none⟩) cs.length c] 114)) := (Below.refl _ _).alloc (Nat.le_refl _) _
  have HC := Lib.hid (chainCheck_ok n g c cs _ (hv.next hb1))
  have HS := fun W (h : NatsAt W b off xs) => areSteps_any b off cx xs W (by omega) h h3
  have HB := fun W => beltOf_any n g cs.length c W
  have HV := Lib.hid hv
  have HX := Lib.hid hx
  clear hv hb1 hx
  go_enter Try.func84, Try.ntmps84
  go_wp2_with fail
  refine HC.out.mono ?_
  rintro e w1 ⟨rfl, hb⟩
  have k0 := box_cell hb 0 rfl
  have k1 := box_cell hb 1 rfl
  have hbw : Below w.heap.size w w1 := Below.trans ((Below.refl _ _).alloc (Nat.le_refl _) _) (hb.mono (by simp))
  have hx1 := HX.out.below hbw hxb
  have Hb := Lib.hid hbw
  have hd2 : (decide ((f : Int) < 0)) = false := by simp
  have hd3 : (decide ((cs.length : Int) ≤ (f : Int))) = false := by simp; omega
  have hd4 : decide ((60 : Int) < (xs.length : Int)) = false := by simp; omega
  have HX1 := Lib.hid hx1
  clear hb hbw hx1
  go_wp2_with fail
  refine (HS _ HX1.out).mono ?_
  rintro e w' ⟨rfl, rfl⟩
  go_wp2_with fail
  refine (HB _).mono ?_
  rintro e w2 ⟨rfl, hb2⟩
  have Hb2 := Lib.hid (Hb.out.trans (hb2.mono Hb.out.size))
  have hbA : Below w.heap.size w (w2.alloc (.cells (cylB n cs.length g c f) 214)) := Hb2.out.alloc Hb2.out.size _
  have hW0 : WvAt w w2.heap.size n g cs.length c f (.slice none 0 0) (wovenTo n cs xs f 0) (w2.alloc (.cells (cylB n cs.length g c f) 214)) :=
    ⟨BoxAt.new _ _ _, by rw [wovenTo_len]; exact World.ownsRow_nil _ _ _ _, hbA, Hb2.out.size⟩
  have HW0 := Lib.hid hW0
  obtain ⟨B, hB⟩ : ∃ B, w2.heap.size = B := ⟨_, rfl⟩
  rw [hB] at HW0
  have HBe := Lib.hid hB
  clear hb2 hbA hW0 hB
  go_wp2_with fail
  rw [HBe.out]
  go_loopw [6, 39] (fun v i wr => ∃ k : Nat, k ≤ xs.length ∧ i = .int .i64 k ∧ WvAt w B n g cs.length c (cylTo cs.length xs f k) v (wovenTo n cs xs f k) wr) (fun _ i _ => xs.length - (intOf i).toNat)
  case atStart => exact ⟨0, Nat.zero_le _, rfl, HW0.out⟩
  case round =>
    obtain ⟨k, hk, rfl, hT⟩ := hrel
    clear HW0
    obtain ⟨A, hA⟩ : ∃ A, cylTo cs.length xs f k = A := ⟨_, rfl⟩
    obtain ⟨rows, hrw⟩ : ∃ rows, wovenTo n cs xs f k = rows := ⟨_, rfl⟩
    have hAl : A < cs.length := by rw [← hA]; exact cylTo_lt _ _ _ _ (by omega) hf
    have hrl : rows.length = k := by rw [← hrw]; exact wovenTo_len _ _ _ _ _
    have Hnx := Lib.hid (show wovenTo n cs xs f (k + 1) = rows ++ [liftN n (nthC cs A)] by rw [wovenTo_succ, hA, hrw])
    have Hna := Lib.hid (show cylTo cs.length xs f (k + 1) = (A + nthN xs k) % cs.length by rw [← hA]; rfl)
    rw [hA, hrw] at hT
    by_cases hlt : k < xs.length
    · have hc := (HX.out.below hT.b hxb) k hlt
      have b0 := hT.cy.cell' 0 rfl
      have b1 := hT.cy.cell' 1 rfl
      have b2 := hT.cy.cell' 2 rfl
      have b3 := hT.cy.cell' 3 rfl
      have HR := Lib.hid (cylRow_any n g c A cs wr (HV.out.next hT.b) hAl)
      have HT := Lib.hid hT
      have Hrl := Lib.hid hrl
      clear hA hrw hT hrl
      go_wp2_with fail
      refine HR.out.mono ?_
      rintro e w3 ⟨rfl, hb3⟩
      have HT3 := Lib.hid (HT.out.next hb3)
      clear hb3
      go_wp2_with (at_builtin; refine Shut.out ?_)
      unfold Shut
      refine app_one elemInt rfl _ _ rfl w.heap.size u6 rows.length (rows.map natV) #[.int .i64 (liftN n (nthC cs A) : Int)] rfl HT3.out.row rfl rfl (by simp [Value.oneCell']) (by rw [Hrl.out]; omega) (by decide) HT3.out.b.size ?_
      intro g5 cap w5 hg
      have hT5 := HT3.out.grew hg
      have d1 := hT5.cy.cell' 1 rfl
      have d3 := hT5.cy.cell' 3 rfl
      have f3 := hT5.cy.frozen 3
      have hs := h3 k
      have HA := fun W => after_any cs.length A (nthN xs k) W (by omega) (by omega) (by omega) (by omega)
      have HT5 := Lib.hid hT5
      clear hg hT5
      go_wp2_with fail
      refine (HA _).mono ?_
      rintro e w' ⟨rfl, rfl⟩
      go_wp2_with fail
      go_roundw
      case rel => exact ⟨k + 1, by omega, by go_num, by rw [Hnx.out, Hna.out]; exact HT5.out.put _⟩
      case measure => simp [intOf]; omega
    · obtain rfl : k = xs.length := by omega
      have b3 : wr.cell? ⟨B, 3, none⟩ = some (.int .i64 (A : Int)) := hT.cy.cell' 3 rfl
      have HT := Lib.hid hT
      have Hrw := Lib.hid hrw
      have HAe := Lib.hid hA
      clear hT hrw hA hrl
      go_wp2
      go_region
      all_goals go_wp2
      all_goals go_ret3
      all_goals (have h4 := (HT.out.next (below_drew1 _)); refine ⟨u6, by rw [HAe.out]; rfl, ?_, h4.b⟩; have h5 := h4.row; rw [← Hrw.out, wovenTo_len] at h5; exact h5)
end Go.Proofs.Ytdmgffoikebgkaa
