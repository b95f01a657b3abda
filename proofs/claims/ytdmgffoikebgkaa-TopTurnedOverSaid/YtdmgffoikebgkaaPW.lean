/- The contracts that TopPunched and TopTurnedOver use, each with the length as a letter of its own. -/
import Derived.Test.YtdmgffoikebgkaaPM
namespace Go.Proofs.Ytdmgffoikebgkaa
open Go.RowKit Go.Shelf

/-- a row of numbers of one's own -/
def RowL (W : World) (L : Nat) (xs : List Nat) (s : Value) (w' : World) : Prop := ∃ g c, s = .slice (some ⟨g, 0, none⟩) L c ∧ NatsAt w' g 0 xs ∧ W.heap.size ≤ g ∧ g < w'.heap.size
/-- what a helper leaves that makes a number and a row -/
def MadeL (n L : Nat) (xs : List Nat) (W : World) (e : Ending) (w' : World) : Prop := ∃ g c, e = .returned (.agg #[.int .i64 (n : Int), .slice (some ⟨g, 0, none⟩) L c]) ∧ NatsAt w' g 0 xs ∧ W.heap.size ≤ g ∧ g < w'.heap.size ∧ Below W.heap.size W w'
theorem made_of {n L B : Nat} {xs : List Nat} {W w' : World} {g c : Nat} (hB : B = W.heap.size) (h0 : 0 < L) (h1 : w'.ownsRow B 3 1 (.slice (some ⟨g, 0, none⟩) L c) L (xs.map natV)) (h2 : Below W.heap.size W w') : MadeL n L xs W (.returned (.agg #[.int .i64 (n : Int), .slice (some ⟨g, 0, none⟩) L c])) w' := by
  subst hB
  obtain ⟨a, b, d⟩ := nats_of_row h1 h0
  exact ⟨g, c, rfl, a, d, b, h2⟩
theorem call96 (n L b c : Nat) (xs : List Nat) (W : World) (hL : xs.length = L) (hv : Valid n xs) (hx : NatsAt W b 0 xs) (hb : b < W.heap.size) :
    Calls Try.prog 96 #[.agg #[.int .i64 (n : Int), .slice (some ⟨b, 0, none⟩) L c]] W (MadeL n L xs W) := by
  subst hL
  have l0 := hv.l0
  have l1 := hv.l1
  refine (armOwn_ok n b 0 c xs W (by omega) (by omega) hx hb).mono ?_
  rintro e w' ⟨g, cap, rfl, h1, h2⟩
  exact made_of rfl (by omega) h1 h2
theorem call100 (n L b c : Nat) (xs : List Nat) (W : World) (hL : xs.length = L) (h0 : 0 < L) (h1 : L ≤ 96) (hx : NatsAt W b 0 xs) (hb : b < W.heap.size) :
    Calls Try.prog 100 #[.agg #[.int .i64 (n : Int), .slice (some ⟨b, 0, none⟩) L c]] W (MadeL n L xs W) := by
  subst hL
  refine (armTied_ok n b 0 c xs W h0 (by omega) hx hb).mono ?_
  rintro e w' ⟨g, cap, rfl, h1, h2⟩
  exact made_of rfl (by omega) h1 h2
theorem call81 (n L b c : Nat) (xs : List Nat) (W : World) (hL : xs.length = L) (hv : Valid n xs) (hx : NatsAt W b 0 xs) (hb : b < W.heap.size) :
    Calls Try.prog 81 #[.agg #[.int .i64 (n : Int), .slice (some ⟨b, 0, none⟩) L c]] W fun e w' =>
      ∃ g cap, e = .returned (.tuple #[.agg #[.int .i64 (n : Int), .slice (some ⟨g, 0, none⟩) L cap], .int .i64 0]) ∧ CardBlk w' g (punched xs L) ∧ W.heap.size ≤ g ∧ Below W.heap.size W w' := by
  subst hL
  have l0 := hv.l0
  refine (Punch_ok n b 0 c xs W ⟨hx, hb, hv⟩).mono ?_
  rintro e w' ⟨g, cap, rfl, h1, h2⟩
  have hl := punched_len xs xs.length
  have h3 : w'.ownsRow W.heap.size 128 3 (.slice (some ⟨g, 0, none⟩) (punched xs xs.length).length cap) (punched xs xs.length).length (cardCells (punched xs xs.length)) := by rw [hl]; exact h1
  obtain ⟨h4, h5⟩ := CardBlk.of_row h3 (by omega)
  exact ⟨g, cap, rfl, h4, h5, h2⟩
theorem call97 (n L g c : Nat) (p : Option Addr) (cp : Nat) (sd xs : List Nat) (cs : List Card) (W : World) (hL : cs.length = L) (h0 : 0 < L) (hl : L ≤ 60) (hx : CardsAt W g cs) (hs : Shuf xs cs) (hsd : ByteRow W p sd) (hsl : sd.length ≤ 9223372036854775807) :
    Calls Try.prog 97 #[.agg #[.int .i64 (n : Int), .slice (some ⟨g, 0, none⟩) L c], .slice p sd.length cp] W fun e w' =>
      ∃ g' cap cs', e = .returned (.agg #[.int .i64 (n : Int), .slice (some ⟨g', 0, none⟩) L cap]) ∧ Shuf xs cs' ∧ CardBlk w' g' cs' ∧ W.heap.size ≤ g' ∧ Below W.heap.size W w' := by
  subst hL
  exact armShuffled_any n g c p cp sd xs cs W h0 hl hx hs hsd hsl
theorem call99 (n L g c : Nat) (cs : List Card) (W : World) (hL : cs.length = L) (h0 : 0 < L) (hl : L ≤ 60) (hx : CardsAt W g cs) :
    Calls Try.prog 99 #[.agg #[.int .i64 (n : Int), .slice (some ⟨g, 0, none⟩) L c]] W fun e w' =>
      ∃ g' cap, e = .returned (.agg #[.int .i64 (n : Int), .slice (some ⟨g', 0, none⟩) L cap]) ∧ CardBlk w' g' cs ∧ W.heap.size ≤ g' ∧ Below W.heap.size W w' := by
  subst hL
  refine (armBelt_ok n g c cs W h0 hl hx).mono ?_
  rintro e w' ⟨g', cap, rfl, h1, h2⟩
  obtain ⟨h4, h5⟩ := CardBlk.of_row h1 h0
  exact ⟨g', cap, rfl, h4, by omega, h2⟩
theorem call82 (n L g c : Nat) (xs : List Nat) (cs : List Card) (W : World) (hX : xs.length = L) (hL : cs.length = L) (hv : Valid n xs) (hx : CardsAt W g cs) (hs : Shuf xs cs) :
    Calls Try.prog 82 #[.agg #[.int .i64 (n : Int), .slice (some ⟨g, 0, none⟩) L c]] W fun e w' =>
      ∃ g' cap, e = .returned (.tuple #[.agg #[.int .i64 (n : Int), .slice (some ⟨g', 0, none⟩) L cap], .int .i64 0]) ∧ CardBlk w' g' (punched xs L) ∧ W.heap.size ≤ g' ∧ Below W.heap.size W w' := by
  subst hL
  have l0 := hv.l0
  have l1 := hv.l1
  refine (Mend_ok n g c cs W ⟨hx, hs.ok hv⟩ hs.apart).mono ?_
  rintro e w' ⟨v, f, rfl, hf, h1, h2⟩
  have hm := hs.mend hf 60
  rw [show min 60 xs.length = xs.length by omega, hX] at hm
  rw [hm, punched_len] at h1
  obtain ⟨g', cap, rfl⟩ := row_slice h1 (by omega)
  have h3 : w'.ownsRow W.heap.size 128 3 (.slice (some ⟨g', 0, none⟩) (punched xs cs.length).length cap) (punched xs cs.length).length (cardCells (punched xs cs.length)) := by rw [punched_len]; exact h1
  obtain ⟨h4, h5⟩ := CardBlk.of_row h3 (by rw [punched_len]; omega)
  exact ⟨g', cap, rfl, h4, h5, h2⟩
theorem call38 (n K L b c b2 c2 : Nat) (hs xs : List Nat) (W : World) (hK : hs.length = K) (hL : xs.length = L) (hk0 : 1 ≤ K) (hk1 : K ≤ 96) (hk : ∀ i, i < K → nthN hs i < n) (hv : Valid n xs) (h1 : NatsAt W b 0 hs) (h2 : b < W.heap.size) (h3 : NatsAt W b2 0 xs) (h4 : b2 < W.heap.size) :
    Calls Try.prog 38 #[.agg #[.int .i64 (n : Int), .slice (some ⟨b, 0, none⟩) K c], .agg #[.int .i64 (n : Int), .slice (some ⟨b2, 0, none⟩) L c2]] W fun e w' =>
      ∃ g cap, e = .returned (.tuple #[.slice (some ⟨g, 0, none⟩) L cap, .int .i64 0]) ∧ StrsAt w' g 0 (clothS hs xs) ∧ W.heap.size ≤ g ∧ g < w'.heap.size ∧ Below W.heap.size W w' := by
  subst hK hL
  have l0 := hv.l0
  refine (tieWeave_ok n b 0 c b2 0 c2 hs xs W ⟨h1, h2, hv.n0, hv.n1, hk0, hk1, hk⟩ ⟨h3, h4, hv⟩).mono ?_
  rintro e w' ⟨v, rfl, h5, h6⟩
  obtain ⟨g, cap, rfl⟩ := row_slice h5 (by omega)
  rw [← clothS_map] at h5
  obtain ⟨a, b, d⟩ := strs_of_row h5 (by omega)
  exact ⟨g, cap, rfl, a, d, b, h6⟩
theorem call101 (L : Nat) (W : World) (h0 : 0 < L) (hl : L ≤ 60) :
    Calls Try.prog 101 #[.int .i64 (L : Int), .int .i64 1] W fun e w' =>
      ∃ g cap, e = .returned (.slice (some ⟨g, 0, none⟩) L cap) ∧ NatsAt w' g 0 (List.replicate L 1) ∧ W.heap.size ≤ g ∧ g < w'.heap.size ∧ Below W.heap.size W w' := by
  refine (armRound_any L W hl).mono ?_
  rintro e w' ⟨v, rfl, h1, h2⟩
  obtain ⟨g, cap, rfl⟩ := row_slice h1 h0
  obtain ⟨a, b, d⟩ := nats_of_row h1 h0
  exact ⟨g, cap, rfl, a, d, b, h2⟩
theorem call84 (n L g c b cx : Nat) (cs : List Card) (W : World) (hL : cs.length = L) (hv : ChainOk n cs) (hc : CardsAt W g cs) (hx : NatsAt W b 0 (List.replicate L 1)) (hxb : b < W.heap.size) :
    Calls Try.prog 84 #[.agg #[.int .i64 (n : Int), .slice (some ⟨g, 0, none⟩) L c], .int .i64 0, .slice (some ⟨b, 0, none⟩) L cx] W fun e w' =>
      ∃ g' cap a, e = .returned (.tuple #[.slice (some ⟨g', 0, none⟩) L cap, .int .i64 (a : Int), .int .i64 0]) ∧ NatsAt w' g' 0 (wovenTo n cs (List.replicate L 1) 0 L) ∧ W.heap.size ≤ g' ∧ g' < w'.heap.size ∧ Below W.heap.size W w' := by
  subst hL
  have l0 := hv.l0
  have l1 := hv.l1
  have h := chainWeave_ok n g c 0 b 0 cx cs (List.replicate cs.length 1) W ⟨hc, hv⟩ (by omega) hx hxb (by simp; omega) (by simp; omega) (fun i => nthN_one3 _ _)
  rw [List.length_replicate] at h
  refine h.mono ?_
  rintro e w' ⟨v, rfl, h1, h2⟩
  obtain ⟨g', cap, rfl⟩ := row_slice h1 (by omega)
  obtain ⟨a, b, d⟩ := nats_of_row h1 (by omega)
  exact ⟨g', cap, _, rfl, a, d, b, h2⟩
theorem call102 (L b1 c1 b2 c2 : Nat) (xs ys : List Nat) (W : World) (h1 : xs.length = L) (h2 : ys.length = L) (hl : L ≤ 60) (hx : NatsAt W b1 0 xs) (hy : NatsAt W b2 0 ys) (hb1 : b1 < W.heap.size) (hb2 : b2 < W.heap.size) :
    Calls Try.prog 102 #[.slice (some ⟨b1, 0, none⟩) L c1, .slice (some ⟨b2, 0, none⟩) L c2] W fun e w' => e = .returned (.bool (decide (xs = ys))) ∧ Below W.heap.size W w' := by
  have h := armSame_any b1 0 c1 b2 0 c2 xs ys W (by omega) (by omega) hx hy hb1 hb2
  rw [h1, h2] at h
  exact h
theorem call103 (L b1 c1 b2 c2 : Nat) (xs : List ByteArray) (W : World) (h1 : xs.length = L) (hl : L ≤ 60) (hx : StrsAt W b1 0 xs) (hy : StrsAt W b2 0 xs) (hb1 : b1 < W.heap.size) (hb2 : b2 < W.heap.size) :
    Calls Try.prog 103 #[.slice (some ⟨b1, 0, none⟩) L c1, .slice (some ⟨b2, 0, none⟩) L c2] W fun e w' => e = .returned (.bool true) ∧ Below W.heap.size W w' := by
  have h := armLike_eq b1 0 c1 b2 0 c2 xs W (by omega) hx hy hb1 hb2
  rw [h1] at h
  exact h
end Go.Proofs.Ytdmgffoikebgkaa
