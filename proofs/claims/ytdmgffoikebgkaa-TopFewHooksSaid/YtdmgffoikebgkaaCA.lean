/- Chains: cards in memory; Check of a chain that is valid; what lies on a row of cards. -/
import Derived.Test.YtdmgffoikebgkaaWE
namespace Go.Proofs.Ytdmgffoikebgkaa
open Go.RowKit

/-- a card -/
structure Card where
  num : Nat
  row : Nat
  turned : Bool
deriving DecidableEq, Repr
def Card.cells (c : Card) : List Value := [.int .i64 (c.num : Int), .int .i64 (c.row : Int), .bool c.turned]
def Card.enc (c : Card) : Value := .agg #[.int .i64 (c.num : Int), .int .i64 (c.row : Int), .bool c.turned]
def cardCells (cs : List Card) : List Value := cs.flatMap Card.cells
theorem cardCells_snoc (cs : List Card) (c : Card) : cardCells (cs ++ [c]) = cardCells cs ++ c.cells := by simp [cardCells]
theorem cardCells_len (cs : List Card) : (cardCells cs).length = cs.length * 3 := by
  induction cs with
  | nil => rfl
  | cons f fs ih => simp only [cardCells, List.flatMap_cons, List.length_append, List.length_cons] at *; simp [Card.cells] at *; omega
def nthC (cs : List Card) (i : Nat) : Card := cs[i]?.getD ⟨0, 0, false⟩
theorem nthC_get (cs : List Card) (i : Nat) (h : i < cs.length) : nthC cs i = cs[i] := by simp [nthC, h]
theorem cardCells_get : ∀ (fs : List Card) (i j : Nat), i < fs.length → j < 3 → (cardCells fs)[i * 3 + j]? = (nthC fs i).cells[j]?
  | [], i, j, h, _ => by simp at h
  | f :: fs, 0, j, _, hj => by
    have e : cardCells (f :: fs) = f.cells ++ cardCells fs := by simp [cardCells]
    rw [e, Nat.zero_mul, Nat.zero_add, List.getElem?_append_left (by simpa [Card.cells] using hj)]
    rfl
  | f :: fs, i + 1, j, h, hj => by
    have e : cardCells (f :: fs) = f.cells ++ cardCells fs := by simp [cardCells]
    have hl : f.cells.length = 3 := rfl
    rw [e, List.getElem?_append_right (by omega), hl, show (i + 1) * 3 + j - 3 = i * 3 + j by omega]
    exact cardCells_get fs i j (by simpa using h) hj
/-- the cells of a row of cards -/
structure CardsAt (w : World) (g : Nat) (cs : List Card) : Prop where
  c0 : ∀ i, i < cs.length → w.cell? ⟨g, i * 3, none⟩ = some (.int .i64 ((nthC cs i).num : Int))
  c1 : ∀ i, i < cs.length → w.cell? ⟨g, i * 3 + 1, none⟩ = some (.int .i64 ((nthC cs i).row : Int))
  c2 : ∀ i, i < cs.length → w.cell? ⟨g, i * 3 + 2, none⟩ = some (.bool (nthC cs i).turned)
  lt : g < w.heap.size
theorem CardsAt.below {k : Nat} {w w' : World} {g : Nat} {cs : List Card} (h : CardsAt w g cs) (hb : Below k w w') (hk : g < k) : CardsAt w' g cs :=
  ⟨fun i hi => (hb.cell (p := ⟨g, i * 3, none⟩) hk).trans (h.c0 i hi), fun i hi => (hb.cell (p := ⟨g, i * 3 + 1, none⟩) hk).trans (h.c1 i hi), fun i hi => (hb.cell (p := ⟨g, i * 3 + 2, none⟩) hk).trans (h.c2 i hi), Nat.lt_of_lt_of_le h.lt hb.size⟩
theorem CardsAt.next {w w' : World} {g : Nat} {cs : List Card} (h : CardsAt w g cs) (hb : Below w.heap.size w w') : CardsAt w' g cs := h.below hb h.lt
theorem CardsAt.of_row {w : World} {B g cap : Nat} {cs : List Card} (h : w.ownsRow B 128 3 (.slice (some ⟨g, 0, none⟩) cs.length cap) cs.length (cardCells cs)) (_h0 : 0 < cs.length) : CardsAt w g cs := by
  have h1 := h
  obtain ⟨hl, ⟨h2, _⟩ | ⟨g', cap', cur, e, hg, hh, r⟩⟩ := h
  · simp at h2
  · simp at e
    obtain ⟨rfl, rfl⟩ := e
    have hc : ∀ i j, i < cs.length → j < 3 → w.cell? ⟨g, i * 3 + j, none⟩ = (nthC cs i).cells[j]? := fun i j hi hj => by
      rw [h1.cellAt (i * 3 + j) (by omega), cardCells_get cs i j hi hj]
    exact ⟨fun i hi => hc i 0 hi (by omega), fun i hi => hc i 1 hi (by omega), fun i hi => hc i 2 hi (by omega), (Array.getElem?_eq_some_iff.1 hh).1⟩
/-- a chain that is valid -/
structure ChainOk (n : Nat) (cs : List Card) : Prop where
  n0 : 1 ≤ n
  n1 : n ≤ 24
  l0 : 1 ≤ cs.length
  l1 : cs.length ≤ 60
  row : ∀ i, (nthC cs i).row < 2 ^ n
  num : ∀ i, (nthC cs i).num < 60
theorem ChainOk.row' {n : Nat} {cs : List Card} (h : ChainOk n cs) (i : Nat) : (nthC cs i).row < 16777216 :=
  Nat.lt_of_lt_of_le (h.row i) (Nat.le_trans (Nat.pow_le_pow_right (by decide) h.n1) (by decide))
/-- a valid chain in memory -/
structure BAt (w : World) (g n : Nat) (cs : List Card) : Prop where
  at' : CardsAt w g cs
  ok : ChainOk n cs
theorem BAt.next {w w' : World} {g n : Nat} {cs : List Card} (h : BAt w g n cs) (hb : Below w.heap.size w w') : BAt w' g n cs := ⟨h.at'.next hb, h.ok⟩
theorem BAt.lt {w : World} {g n : Nat} {cs : List Card} (h : BAt w g n cs) : g < w.heap.size := h.at'.lt

set_option maxHeartbeats 400000 in
theorem isHooks_any (n : Int) (w : World) :
    Calls Try.prog 153 #[.int .i64 n] w fun e w' => e = .returned (.bool (decide (1 ≤ n) && decide (n ≤ 24))) ∧ w = w' := by
  go_enter Try.func153, Try.ntmps153
  go_wp2
  all_goals go_ret
  · have h : 1 ≤ n := by assumption
    exact ⟨ret_bool (by simp [h]), rfl⟩
  · have h : n < 1 := by assumption
    exact ⟨ret_bool (by simp; omega), rfl⟩

set_option maxHeartbeats 400000 in
theorem chainRows_any (n : Nat) (b off c : Nat) (xs : List Int) (w : World) (hn2 : n ≤ 24) (hl : xs.length ≤ 1000) (hx : IntsAt w b off xs) :
    Calls Try.prog 154 #[.int .i64 (n : Int), .slice (some ⟨b, off, none⟩) xs.length c] w fun e w' => e = .returned (.bool (rowsOk n xs)) ∧ w = w' := by
  obtain ⟨hp1, hp2⟩ := pow_bds n hn2
  go_enter Try.func154, Try.ntmps154
  go_wp2
  go_loop [6, 9] (fun _ i => ∃ k : Nat, k ≤ xs.length ∧ i = .int .i64 k ∧ rowsOk n (xs.take k) = true) (fun _ i => xs.length - (intOf i).toNat)
  case atStart => exact ⟨0, Nat.zero_le _, rfl, by simp [rowsOk]⟩
  case round =>
    obtain ⟨k, hk, rfl, hr⟩ := hrel
    have Hr := Lib.hid hr; clear hr
    by_cases hlt : k < xs.length
    · have hc := hx k hlt
      go_wp2
      · have h : nthI xs k < 0 ∨ 2 ^ n ≤ nthI xs k := by assumption
        go_ret
        exact ⟨ret_bool (rowsOk_false n xs k hlt h).symm, rfl⟩
      · have h : 0 ≤ nthI xs k ∧ nthI xs k < 2 ^ n := by assumption
        go_round
        case rel => exact ⟨k + 1, by omega, by go_num, rowsOk_step n xs k hlt Hr.out h.1 h.2⟩
        case measure => simp [intOf]; omega
      · have h : nthI xs k < 0 := by assumption
        go_ret
        exact ⟨ret_bool (rowsOk_false n xs k hlt (Or.inl h)).symm, rfl⟩
    · go_wp2
      go_ret
      exact ⟨ret_bool (by rw [← Hr.out, take_end xs k hk hlt]), rfl⟩
theorem rowsOk_one (n x : Nat) (h : x < 2 ^ n) : rowsOk n [(x : Int)] = true := by
  have e : (2 : Int) ^ n = ((2 ^ n : Nat) : Int) := (Int.natCast_pow 2 n).symm
  unfold rowsOk
  simp only [List.all_cons, List.all_nil, Bool.and_true]
  rw [e]
  simp
  exact_mod_cast h
/-- one row -/
theorem chainRow_one (n x B off c : Nat) (w : World) (hn : n ≤ 24) (h : x < 2 ^ n) (hc : w.cell? ⟨B, off, none⟩ = some (.int .i64 (x : Int))) :
    Calls Try.prog 154 #[.int .i64 (n : Int), .slice (some ⟨B, off, none⟩) 1 c] w fun e w' => e = .returned (.bool true) ∧ w = w' := by
  have := chainRows_any n B off c [(x : Int)] w hn (by simp) (fun i hi => by
    obtain rfl : i = 0 := by simpa using hi
    simpa [nthI] using hc)
  rw [rowsOk_one n x h] at this
  exact this

set_option maxHeartbeats 1000000 in
theorem areCards_ok (n g c : Nat) (cs : List Card) (w : World) (hv : BAt w g n cs) :
    Calls Try.prog 197 #[.int .i64 (n : Int), .slice (some ⟨g, 0, none⟩) cs.length c] w fun e w' => e = .returned (.bool true) ∧ Below w.heap.size w w' := by
  have l1 := hv.ok.l1
  have HV := Lib.hid hv
  clear hv
  go_enter Try.func197, Try.ntmps197
  go_wp2
  go_loopw [9] (fun i wr => ∃ k : Nat, k ≤ cs.length ∧ i = .int .i64 k ∧ Below w.heap.size w wr) (fun i _ => cs.length - (intOf i).toNat)
  case atStart => exact ⟨0, Nat.zero_le _, rfl, Below.refl _ _⟩
  case round =>
    obtain ⟨k, hk, rfl, hb⟩ := hrel
    have hvr := HV.out.next hb
    have Hb := Lib.hid hb
    by_cases hlt : k < cs.length
    · have c0 := hvr.at'.c0 k hlt
      have c1 := hvr.at'.c1 k hlt
      have c2 := hvr.at'.c2 k hlt
      have hnum := hvr.ok.num k
      have hrow := hvr.ok.row k
      have hn2 := hvr.ok.n1
      obtain ⟨card, hcd⟩ : ∃ card, nthC cs k = card := ⟨_, rfl⟩
      rw [hcd] at c0 c1 c2 hnum hrow
      have HC := fun W B (h : W.cell? ⟨B, 0, none⟩ = some (.int .i64 (card.row : Int))) => chainRow_one n card.row B 0 1 W hn2 hrow h
      have hd1 : ((card.num : Int) < -1) = False := eq_false (by omega)
      have hd2 : decide ((60 : Int) ≤ (card.num : Int)) = false := by simp; omega
      clear hcd hvr hb hn2
      go_wp2_with fail
      refine (HC _ _ (by simp)).mono ?_
      rintro e w' ⟨rfl, rfl⟩
      go_wp2
      go_roundw
      case rel => exact ⟨k + 1, by omega, by go_num, (Hb.out.alloc (by have := Hb.out.size; omega) _).alloc (by have := Hb.out.size; simp; omega) _⟩
      case measure => simp [intOf]; omega
    · go_wp2
      go_ret
      exact ⟨rfl, Hb.out⟩
end Go.Proofs.Ytdmgffoikebgkaa
