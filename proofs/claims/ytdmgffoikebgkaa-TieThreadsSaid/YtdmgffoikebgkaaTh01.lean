/- Regions that draw their order, read, make boxes, call what only adds to memory, and store into the boxes that they made: each operation once, whatever was done before. -/
import Derived.Test.YtdmgffoikebgkaaTb01
import Derived.Test.YtdmgffoikebgkaaTb02
import Derived.Test.YtdmgffoikebgkaaTb03
import Derived.Test.YtdmgffoikebgkaaTb04
import Derived.Test.YtdmgffoikebgkaaTb05
import Derived.Test.YtdmgffoikebgkaaTb06
import Derived.Test.YtdmgffoikebgkaaTb07
import Derived.Test.YtdmgffoikebgkaaTb08
import Derived.Test.YtdmgffoikebgkaaTb09
import Derived.Test.YtdmgffoikebgkaaTb10
import Derived.Test.YtdmgffoikebgkaaTb11
import Derived.Test.YtdmgffoikebgkaaTb12
import Derived.Test.YtdmgffoikebgkaaTb13
import Derived.Test.YtdmgffoikebgkaaTb14
import Derived.Test.YtdmgffoikebgkaaTb15
import Derived.Test.YtdmgffoikebgkaaTb16
import Derived.Test.YtdmgffoikebgkaaTb17
import Derived.Test.YtdmgffoikebgkaaTb18
import Derived.Test.YtdmgffoikebgkaaTb19
import Derived.Test.YtdmgffoikebgkaaTb20
import Derived.Laws.IdiomStrings
namespace Go.Proofs.Ytdmgffoikebgkaa
open Go.RowKit Go.Shelf

section
variable {R : RSp} {w : World} {ops : Array Oper} {L : Array Bool} {v : Nat → Value} {hs : Nat → Hd} {W W' : World} {i r : Nat} {o : Oper}
end
/-- the same for 'len' -/
def IsOpL (ops : Array Oper) (i : Nat) (dst : Option Nat) (op : Op) (g : Option (Nat × Bool)) (deps : List Nat) : Prop :=
  ∃ pos aft, ops[i]? = some ⟨dst, op, 3, pos, aft, g⟩ ∧ deps.all (depB ⟨dst, op, 3, pos, aft, g⟩) = true
end Go.Proofs.Ytdmgffoikebgkaa
/- Chapter 3: used hooks; equal designs and equal cloths. -/
namespace Go.Proofs.Ytdmgffoikebgkaa
open Go.RowKit Go.Shelf
attribute [local go_sem] Oper.semAt_some

/-- the bits of the hooks of the first k warps -/
def useL (hs : List Nat) : Nat → Nat
  | 0 => 0
  | k + 1 => useL hs k ||| 2 ^ nthN hs k
theorem useL_lt (hs : List Nat) (n : Nat) (h : ∀ i, i < hs.length → nthN hs i < n) : ∀ k, k ≤ hs.length → useL hs k < 2 ^ n
  | 0, _ => Nat.pow_pos (by decide)
  | k + 1, hk => Nat.or_lt_two_pow (useL_lt hs n h k (by omega)) (Nat.pow_lt_pow_right (by decide) (h k (by omega)))
theorem useL_bit (hs : List Nat) (j : Nat) : ∀ k, bitN (useL hs k) j = true ↔ ∃ i, i < k ∧ nthN hs i = j
  | 0 => by simp [useL, bitN]
  | k + 1 => by
    have ih := useL_bit hs j k
    unfold bitN at ih ⊢
    simp only [useL, Nat.testBit_or, Bool.or_eq_true, ih, Nat.testBit_two_pow, decide_eq_true_eq]
    constructor
    · rintro (⟨i, h1, h2⟩ | h)
      · exact ⟨i, by omega, h2⟩
      · exact ⟨k, by omega, h⟩
    · rintro ⟨i, h1, h2⟩
      by_cases e : i = k
      · subst e; exact .inr h2
      · exact .inl ⟨i, by omega, h2⟩
set_option maxRecDepth 100000 in
set_option maxHeartbeats 1000000 in
theorem used_ok (n b c T : Nat) (hs : List Nat) (w : World) (hT : hs.length = T) (hl : T ≤ 96) (hn : n ≤ 24) (hk : ∀ i, i < T → nthN hs i < n) (h1 : NatsAt w b 0 hs) (h2 : b < w.heap.size) :
    Calls Try.prog 66 #[.agg #[.int .i64 (n : Int), .slice (some ⟨b, 0, none⟩) T c]] w fun e w' => e = .returned (.int .i64 (useL hs T : Int)) ∧ Below w.heap.size w w' := by
  have hb0 : Below w.heap.size w (w.alloc (.cells #[.int .i64 (n : Int), .slice (some ⟨b, 0, none⟩) T c] 26)) := (Below.refl _ _).alloc (Nat.le_refl _) _
  have HX := Lib.hid (BoxAt.new w #[.int .i64 (n : Int), .slice (some ⟨b, 0, none⟩) T c] 26)
  have HN := Lib.hid (h1.below hb0 h2)
  have Hb0 := Lib.hid hb0
  have HT := Lib.hid hT
  have Hk := Lib.hid hk
  clear hb0 h1 h2 hT hk
  go_enter Try.func66, Try.ntmps66
  obtain ⟨w0, hw0⟩ : ∃ w0, w0 = w.alloc (.cells #[.int .i64 (n : Int), .slice (some ⟨b, 0, none⟩) T c] 26) := ⟨_, rfl⟩
  rw [← hw0] at HX HN Hb0
  have HW0 := Lib.hid hw0
  clear hw0
  go_upto_region 1 with fail
  rw [← HW0.out]
  go_wp2_with fail
  go_loopw [3, 4] (fun s i wr => ∃ k : Nat, k ≤ T ∧ i = .int .i64 (k : Int) ∧ s = .int .i64 (useL hs k : Int) ∧ wr = w0) (fun _ i _ => T - (intOf i).toNat)
  case atStart => exact ⟨0, Nat.zero_le _, rfl, rfl, rfl⟩
  case round =>
    obtain ⟨k, hk, rfl, rfl, rfl⟩ := hrel
    have x1 := HX.out.cell' 1 rfl
    by_cases hlt : k < T
    · have hc := HN.out k (by rw [HT.out]; exact hlt)
      rw [Nat.zero_add] at hc
      have hu : useL hs (k + 1) = useL hs k ||| 2 ^ nthN hs k := rfl
      have hul := useL_lt hs n (by rw [HT.out]; exact Hk.out) k (by rw [HT.out]; omega)
      have hp := Nat.le_trans (Nat.le_of_lt hul) (Nat.le_trans (Nat.pow_le_pow_right (by decide) hn) (show 2 ^ 24 ≤ 16777216 by decide))
      have hxk := Hk.out k hlt
      obtain ⟨x, hx⟩ : ∃ x, nthN hs k = x := ⟨_, rfl⟩
      obtain ⟨y, hy⟩ : ∃ y, useL hs k = y := ⟨_, rfl⟩
      rw [hx] at hc hu hxk
      rw [hy] at hu hp hul
      rw [hy]
      have hq := or_step y x (by have := Nat.lt_of_lt_of_le hul (Nat.le_trans (Nat.pow_le_pow_right (by decide) hn) (show 2 ^ 24 ≤ 16777216 by decide)); omega) (by omega)
      obtain ⟨hp1, hp2⟩ := pow_bds x (by omega)
      have hun : IntKind.u64.wrap (x : Int) = (x : Int) := IntWalk.u64_in _ (by omega)
      have hm64 : min x 64 = x := by omega
      have Hu := Lib.hid hu
      clear hu hx hy hul
      go_wp2_with fail
      go_roundw
      case rel => exact ⟨k + 1, by omega, by go_num, by rw [Hu.out], trivial⟩
      case measure => simp [intOf]; omega
    · obtain rfl : k = T := by omega
      go_wp2_with fail
      go_ret
      exact ⟨rfl, Hb0.out⟩
set_option maxRecDepth 100000 in
set_option maxHeartbeats 1000000 in
theorem tieSame_ok (L b c b2 c2 : Nat) (ss : List ByteArray) (w : World) (hL : ss.length = L) (hl : L ≤ 1000) (h1 : StrsAt w b 0 ss) (h3 : StrsAt w b2 0 ss) :
    Calls Try.prog 68 #[.slice (some ⟨b, 0, none⟩) L c, .slice (some ⟨b2, 0, none⟩) L c2] w fun e w' => e = .returned (.bool true) ∧ Below w.heap.size w w' := by
  have H1 := Lib.hid h1
  have H3 := Lib.hid h3
  have HL := Lib.hid hL
  clear h1 h3 hL
  go_enter Try.func68, Try.ntmps68
  go_wp2_with fail
  go_loopw [5] (fun i wr => ∃ k : Nat, k ≤ L ∧ i = .int .i64 (k : Int) ∧ Below w.heap.size w wr ∧ StrsAt wr b 0 ss ∧ StrsAt wr b2 0 ss) (fun i _ => L - (intOf i).toNat)
  case atStart => exact ⟨0, Nat.zero_le _, rfl, Below.refl _ _, H1.out, H3.out⟩
  case round =>
    obtain ⟨k, hk, rfl, hb, h1, h3⟩ := hrel
    by_cases hlt : k < L
    · have hc1 := h1 k (by rw [HL.out]; exact hlt)
      have hc3 := h3 k (by rw [HL.out]; exact hlt)
      rw [Nat.zero_add] at hc1 hc3
      have Hr := Lib.hid (And.intro hb (And.intro h1 h3))
      obtain ⟨s, hs⟩ : ∃ s, nthB ss k = s := ⟨_, rfl⟩
      rw [hs] at hc1 hc3
      clear hb h1 h3 hs
      go_wp2_with fail
      go_region
      all_goals
        (go_wp2_with fail
         exact ⟨⟨k + 1, by omega, by go_num, Hr.out.1.drew, Hr.out.2⟩, by simp [intOf]; omega⟩)
    · obtain rfl : k = L := by omega
      have Hb := Lib.hid hb
      go_wp2_with fail
      go_ret
      exact ⟨rfl, Hb.out⟩
set_option maxRecDepth 100000 in
set_option maxHeartbeats 1000000 in
theorem tieIs_ok (n L b c b2 c2 : Nat) (xs : List Nat) (w : World) (hL : xs.length = L) (hl : L ≤ 1000) (h1 : NatsAt w b 0 xs) (h2 : b < w.heap.size) (h3 : NatsAt w b2 0 xs) (h4 : b2 < w.heap.size) :
    Calls Try.prog 67 #[.agg #[.int .i64 (n : Int), .slice (some ⟨b, 0, none⟩) L c], .agg #[.int .i64 (n : Int), .slice (some ⟨b2, 0, none⟩) L c2]] w fun e w' => e = .returned (.bool true) ∧ Below w.heap.size w w' := by
  obtain ⟨w0, hw0⟩ : ∃ w0, w0 = (w.alloc (.cells #[.int .i64 (n : Int), .slice (some ⟨b, 0, none⟩) L c] 37)).alloc (.cells #[.int .i64 (n : Int), .slice (some ⟨b2, 0, none⟩) L c2] 37) := ⟨_, rfl⟩
  have hb0 : Below w.heap.size w w0 := by rw [hw0]; exact ((Below.refl _ _).alloc (Nat.le_refl _) _).alloc (by simp) _
  have hx : BoxAt w0 w.heap.size #[.int .i64 (n : Int), .slice (some ⟨b, 0, none⟩) L c] 37 := by
    rw [hw0]; exact (BoxAt.new w _ _).next ((Below.refl _ _).alloc (Nat.le_refl _) _)
  have hy : BoxAt w0 (w.heap.size + 1) #[.int .i64 (n : Int), .slice (some ⟨b2, 0, none⟩) L c2] 37 := by
    rw [hw0]; have := BoxAt.new (w.alloc (.cells #[.int .i64 (n : Int), .slice (some ⟨b, 0, none⟩) L c] 37)) #[.int .i64 (n : Int), .slice (some ⟨b2, 0, none⟩) L c2] 37; rw [World.size_alloc] at this; exact this
  have HX := Lib.hid hx
  have HY := Lib.hid hy
  have H1 := Lib.hid (h1.below hb0 h2)
  have H3 := Lib.hid (h3.below hb0 h4)
  have Hb0 := Lib.hid hb0
  have HW0 := Lib.hid hw0
  have HL := Lib.hid hL
  have Hg := Lib.hid (And.intro (Nat.lt_of_lt_of_le h2 hb0.size) (Nat.lt_of_lt_of_le h4 hb0.size))
  clear hb0 hw0 h1 h2 h3 h4 hL
  have x0 := hx.cell' 0 rfl
  have x1 := hx.cell' 1 rfl
  have y0 := hy.cell' 0 rfl
  have y1 := hy.cell' 1 rfl
  clear hx hy
  go_enter Try.func67, Try.ntmps67
  go_upto_region 1 with fail
  rw [← HW0.out]
  go_wp2_with fail
  clear x0 y0 x1 y1
  go_loopw [5] (fun i wr => ∃ k : Nat, k ≤ L ∧ i = .int .i64 (k : Int) ∧ Below w0.heap.size w0 wr) (fun i _ => L - (intOf i).toNat)
  case atStart => exact ⟨0, Nat.zero_le _, rfl, Below.refl _ _⟩
  case round =>
    obtain ⟨k, hk, rfl, hb⟩ := hrel
    have hX := HX.out.next hb
    have hY := HY.out.next hb
    have x1 := hX.cell' 1 rfl
    have y1 := hY.cell' 1 rfl
    clear hX hY
    by_cases hlt : k < L
    · have hc1 := (H1.out.below hb Hg.out.1) k (by rw [HL.out]; exact hlt)
      have hc3 := (H3.out.below hb Hg.out.2) k (by rw [HL.out]; exact hlt)
      rw [Nat.zero_add] at hc1 hc3
      have Hb := Lib.hid hb
      obtain ⟨x, hx⟩ : ∃ x, nthN xs k = x := ⟨_, rfl⟩
      rw [hx] at hc1 hc3
      clear hb hx
      go_wp2_with fail
      go_region
      all_goals
        (go_wp2_with fail
         exact ⟨⟨k + 1, by omega, by go_num, Hb.out.drew⟩, by simp [intOf]; omega⟩)
    · obtain rfl : k = L := by omega
      have Hb := Lib.hid hb
      go_wp2_with fail
      go_ret
      exact ⟨rfl, Hb0.out.trans (Hb.out.mono Hb0.out.size)⟩
end Go.Proofs.Ytdmgffoikebgkaa
/- TieThreads: its regions that draw their order. -/
namespace Go.Proofs.Ytdmgffoikebgkaa
open Go.RowKit Go.Shelf
attribute [local go_sem] Oper.semAt_some

/-- the strings of a cloth -/
structure ClS (ss : List ByteArray) (n : Nat) (ps : List Nat) : Prop where
  len : ss.length = ps.length
  str : ∀ i, i < ps.length → StrB (nthB ss i) n (nthN ps i)
theorem ClS.at {ss : List ByteArray} {n : Nat} {ps : List Nat} {W : World} {b : Nat} (h : ClS ss n ps) (hx : StrsAt W b 0 ss) (hb : b < W.heap.size) : ClAt W b 0 n ps :=
  ⟨fun i hi => ⟨_, h.str i hi, hx i (by rw [h.len]; exact hi)⟩, hb⟩
theorem tat_of {W : World} {N T b : Nat} {HS : List Nat} (hT : HS.length = T) (hT0 : 1 ≤ T) (hT1 : T ≤ 96) (hN0 : 1 ≤ N) (hN1 : N ≤ 24) (hk : ∀ i, i < T → nthN HS i < N) (h1 : NatsAt W b 0 HS) (h2 : b < W.heap.size) : TAt W b 0 N HS := by
  subst hT
  exact ⟨h1, h2, hN0, hN1, hT0, hT1, hk⟩
theorem part_no {hs ps : List Nat} {p q : Nat} (h : PartAt hs ps p q) (hn : NoPart hs ps) : False := h.ne (hn p q h.hp h.hw)
theorem call48n (N T L b c b2 c2 : Nat) (HS PS : List Nat) (SS : List ByteArray) (W : World) (hT : HS.length = T) (hPl : PS.length = L) (hSl : SS.length = L) (hT0 : 1 ≤ T) (hT1 : T ≤ 96) (hL0 : 0 < L) (hL6 : L ≤ 60) (hN0 : 1 ≤ N) (hN1 : N ≤ 24) (hk : ∀ i, i < T → nthN HS i < N) (hCl : ClS SS T PS) (hNP : NoPart HS PS)
    (h1 : NatsAt W b 0 HS) (h2 : b < W.heap.size) (h3 : StrsAt W b2 0 SS) (h4 : b2 < W.heap.size) :
    Calls Try.prog 48 #[.agg #[.int .i64 (N : Int), .slice (some ⟨b, 0, none⟩) T c], .slice (some ⟨b2, 0, none⟩) L c2] W fun e w' =>
      ∃ g cap, e = .returned (.tuple #[.agg #[.int .i64 (N : Int), .slice (some ⟨g, 0, none⟩) L cap], .int .i64 0]) ∧ NatsAt w' g 0 (dsnL HS PS) ∧ W.heap.size ≤ g ∧ g < w'.heap.size ∧ Below W.heap.size W w' := by
  refine (Unweave_any N b 0 c b2 0 c2 T L HS PS W hT hPl (tat_of hT hT0 hT1 hN0 hN1 hk h1 h2) (hCl.at h3 h4) hL0 hL6).mono ?_
  rintro e w' (⟨_, h⟩ | ⟨⟨p, q, h⟩, _⟩)
  · exact h
  · exact (part_no h hNP).elim
theorem call48p (N T L p q b c b2 c2 : Nat) (HS PS : List Nat) (SS : List ByteArray) (W : World) (hT : HS.length = T) (hPl : PS.length = L) (hSl : SS.length = L) (hT0 : 1 ≤ T) (hT1 : T ≤ 96) (hL0 : 0 < L) (hL6 : L ≤ 60) (hN0 : 1 ≤ N) (hN1 : N ≤ 24) (hk : ∀ i, i < T → nthN HS i < N) (hCl : ClS SS T PS) (hPA : PartAt HS PS p q)
    (h1 : NatsAt W b 0 HS) (h2 : b < W.heap.size) (h3 : StrsAt W b2 0 SS) (h4 : b2 < W.heap.size) :
    Calls Try.prog 48 #[.agg #[.int .i64 (N : Int), .slice (some ⟨b, 0, none⟩) T c], .slice (some ⟨b2, 0, none⟩) L c2] W fun e w' =>
      e = .returned (.tuple #[.agg #[.int .i64 0, .slice none 0 0], .int .i64 9]) ∧ Below W.heap.size W w' := by
  refine (Unweave_any N b 0 c b2 0 c2 T L HS PS W hT hPl (tat_of hT hT0 hT1 hN0 hN1 hk h1 h2) (hCl.at h3 h4) hL0 hL6).mono ?_
  rintro e w' (⟨hn, _⟩ | ⟨_, h⟩)
  · exact (part_no hPA hn).elim
  · exact h
theorem call49n (N T L b c b2 c2 : Nat) (HS PS : List Nat) (SS : List ByteArray) (W : World) (hT : HS.length = T) (hPl : PS.length = L) (hSl : SS.length = L) (hT0 : 1 ≤ T) (hT1 : T ≤ 96) (hL0 : 0 < L) (hL6 : L ≤ 60) (hN0 : 1 ≤ N) (hN1 : N ≤ 24) (hk : ∀ i, i < T → nthN HS i < N) (hCl : ClS SS T PS) (hNP : NoPart HS PS)
    (h1 : NatsAt W b 0 HS) (h2 : b < W.heap.size) (h3 : StrsAt W b2 0 SS) (h4 : b2 < W.heap.size) :
    Calls Try.prog 49 #[.agg #[.int .i64 (N : Int), .slice (some ⟨b, 0, none⟩) T c], .slice (some ⟨b2, 0, none⟩) L c2] W fun e w' =>
      e = .returned (.tuple #[.int .i64 0, .int .i64 0, .int .i64 0, .int .i64 7]) ∧ Below W.heap.size W w' := by
  refine (Part_any N b 0 c b2 0 c2 T L HS PS W hT hPl (tat_of hT hT0 hT1 hN0 hN1 hk h1 h2) (hCl.at h3 h4) hL0 hL6).mono ?_
  rintro e w' ⟨⟨_, h⟩ | ⟨p, q, h, _⟩, hb⟩
  · exact ⟨h, hb⟩
  · exact (part_no h hNP).elim
theorem call49p (N T L p q o b c b2 c2 : Nat) (HS PS : List Nat) (SS : List ByteArray) (W : World) (hT : HS.length = T) (hPl : PS.length = L) (hSl : SS.length = L) (hT0 : 1 ≤ T) (hT1 : T ≤ 96) (hL0 : 0 < L) (hL6 : L ≤ 60) (hN0 : 1 ≤ N) (hN1 : N ≤ 24) (hk : ∀ i, i < T → nthN HS i < N) (hCl : ClS SS T PS) (hPA : PartAt HS PS p q) (ho : fstI (nthN HS) q = o)
    (h1 : NatsAt W b 0 HS) (h2 : b < W.heap.size) (h3 : StrsAt W b2 0 SS) (h4 : b2 < W.heap.size) :
    Calls Try.prog 49 #[.agg #[.int .i64 (N : Int), .slice (some ⟨b, 0, none⟩) T c], .slice (some ⟨b2, 0, none⟩) L c2] W fun e w' =>
      e = .returned (.tuple #[.int .i64 (p : Int), .int .i64 (q : Int), .int .i64 (o : Int), .int .i64 0]) ∧ Below W.heap.size W w' := by
  refine (Part_any N b 0 c b2 0 c2 T L HS PS W hT hPl (tat_of hT hT0 hT1 hN0 hN1 hk h1 h2) (hCl.at h3 h4) hL0 hL6).mono ?_
  rintro e w' ⟨⟨hn, _⟩ | ⟨p', q', h, he⟩, hb⟩
  · exact (part_no hPA hn).elim
  · obtain ⟨rfl, rfl⟩ := part_uniq hPA h
    rw [ho] at he
    exact ⟨he, hb⟩
def region_tt1U : List (List Nat) := [[], [1], [], [3], [4], [5], [1, 4], [3, 5]]
def region_tt1X (Z N T L : Nat) (V0 V1 V2 : Value) (HS DS : List Nat) : Nat → (Nat → Hd) → Value
  | 0, _ => .agg #[V0, V1, V2]
  | 1, hds => .agg #[.int .i64 (N : Int), .slice (some ⟨(hds 1).b, 0, none⟩) T (hds 1).c]
  | 2, _ => .agg #[V0, V1, V2]
  | 3, hds => .agg #[.int .i64 (N : Int), .slice (some ⟨(hds 3).b, 0, none⟩) L (hds 3).c]
  | 4, hds => .pointer (some ⟨(hds 4).b, 0, none⟩)
  | 5, hds => .pointer (some ⟨(hds 5).b, 0, none⟩)
  | 6, _ => undef
  | 7, _ => undef
  | _ + 8, _ => undef
theorem region_tt1X.congr (Z N T L : Nat) (V0 V1 V2 : Value) (HS DS : List Nat) : ∀ i hds hds', (∀ r ∈ uOf region_tt1U i, hds r = hds' r) → region_tt1X Z N T L V0 V1 V2 HS DS i hds = region_tt1X Z N T L V0 V1 V2 HS DS i hds'
  | 0, _, _, _ => rfl
  | 1, hds, hds', h => by simp only [region_tt1X, h 1 (show 1 ∈ uOf region_tt1U 1 by decide)]
  | 2, _, _, _ => rfl
  | 3, hds, hds', h => by simp only [region_tt1X, h 3 (show 3 ∈ uOf region_tt1U 3 by decide)]
  | 4, hds, hds', h => by simp only [region_tt1X, h 4 (show 4 ∈ uOf region_tt1U 4 by decide)]
  | 5, hds, hds', h => by simp only [region_tt1X, h 5 (show 5 ∈ uOf region_tt1U 5 by decide)]
  | 6, _, _, _ => rfl
  | 7, _, _, _ => rfl
  | _ + 8, _, _, _ => rfl
def region_tt1M (Z N T L : Nat) (V0 V1 V2 : Value) (HS DS : List Nat) : Nat → Mem
  | 1 => memNats HS
  | 3 => memNats DS
  | 4 => memBox 2 26
  | 5 => memBox 2 37
  | _ => memNone
def region_tt1S (Z N T L : Nat) (V0 V1 V2 : Value) (HS DS : List Nat) : Nat → Option Sto
  | 6 => some ⟨4, 26, fun hds => #[.int .i64 (N : Int), .slice (some ⟨(hds 1).b, 0, none⟩) T (hds 1).c]⟩
  | 7 => some ⟨5, 37, fun hds => #[.int .i64 (N : Int), .slice (some ⟨(hds 3).b, 0, none⟩) L (hds 3).c]⟩
  | _ => none
set_option maxRecDepth 8000 in
set_option maxHeartbeats 2000000 in
theorem region_tt1 {id : Nat} {ops : Array Oper} {Q : Exit → Act → World → Prop} {a : Act} {w : World} (Z N T L : Nat) (V0 V1 V2 : Value) (HS DS : List Nat) (H63 : ∀ W, Below w.heap.size w W → Calls Try.prog 63 #[.agg #[V0, V1, V2]] W (MadeL N T HS W)) (H64 : ∀ W, Below w.heap.size w W → Calls Try.prog 64 #[.agg #[V0, V1, V2]] W (MadeL N L DS W)) (hZ : BoxAt w Z #[V0, V1, V2] 92)
    (gsize : ops.size = 8)
    (gops : IsOp ops 0 (some 28) (.load 92 (.tmp 2)) none [] ∧ IsOp ops 1 (some 29) (.call { callee := .value (.func 63), args := #[.tmp 28], argTypes := #[92] }) none [0] ∧ IsOp ops 2 (some 30) (.load 92 (.tmp 2)) none [] ∧ IsOp ops 3 (some 31) (.call { callee := .value (.func 64), args := #[.tmp 30], argTypes := #[92] }) none [2] ∧ IsOp ops 4 (some 5) (.alloc 26) none [] ∧ IsOp ops 5 (some 6) (.alloc 37) none [] ∧ IsOp ops 6 none (.store 26 (.tmp 5) (.tmp 29)) none [1, 4] ∧ IsOp ops 7 none (.store 37 (.tmp 6) (.tmp 31)) none [3, 5])
    (gbk : backB ops = true) (gds : dstsB ops (dOf [some 28, some 29, some 30, some 31, some 5, some 6, none, none]) = true) (gus : useB ops (uOf region_tt1U) (kOf [0, 1, 0, 1, 1, 1, 6, 7]) = true) (ggd : plainB ops = true) (gsz : ∀ e ∈ [28, 29, 30, 31, 5, 6], e < a.tmps.size)
    (gout : a.eval (.tmp 2) = .pointer (some ⟨Z, 0, none⟩))
    (gend : ∀ (g29 q29 G29 Q29 g31 q31 G31 Q31 g5 q5 G5 Q5 g6 q6 G6 Q6 : Nat) (P29 P31 P5 P6 : Option Addr) (u28 u29 u30 u31 : Value) (W : World), Below w.heap.size w W → (memNats HS).P ⟨g29, q29, G29, Q29, P29⟩ W → (∀ b ∈ (memNats HS).bl ⟨g29, q29, G29, Q29, P29⟩, w.heap.size ≤ b ∧ b < W.heap.size) → (memNats DS).P ⟨g31, q31, G31, Q31, P31⟩ W → (∀ b ∈ (memNats DS).bl ⟨g31, q31, G31, Q31, P31⟩, w.heap.size ≤ b ∧ b < W.heap.size) → w.heap.size ≤ g5 → g5 < W.heap.size → w.heap.size ≤ g6 → g6 < W.heap.size → BoxAt W g5 #[.int .i64 (N : Int), .slice (some ⟨g29, 0, none⟩) T q29] 26 → BoxAt W g6 #[.int .i64 (N : Int), .slice (some ⟨g31, 0, none⟩) L q31] 37 → Q .normal (putL a [(28, u28), (29, u29), (30, u30), (31, u31), (5, .pointer (some ⟨g5, 0, none⟩)), (6, .pointer (some ⟨g6, 0, none⟩))]) W) :
    (Code.region id ops true).wp Try.prog Q a w := by
  obtain ⟨iop0, iop1, iop2, iop3, iop4, iop5, iop6, iop7⟩ := gops
  have o2 := gout
  refine region_all (RSp.of 8 [some 28, some 29, some 30, some 31, some 5, some 6, none, none] (fun _ => true) (region_tt1X Z N T L V0 V1 V2 HS DS) region_tt1U [0, 1, 0, 1, 1, 1, 6, 7] (region_tt1M Z N T L V0 V1 V2 HS DS) (region_tt1S Z N T L V0 V1 V2 HS DS)) [(2, .pointer (some ⟨Z, 0, none⟩))] [28, 29, 30, 31, 5, 6] (RSp.of_fit gsize.symm gbk gds gus ggd (by decide) ?_) (RSp.of_ok _ (region_tt1X.congr Z N T L V0 V1 V2 HS DS) ?_) gsz ?_ ?_ ?_
  · intro p hp
    have hp2 : p ∈ [(6, 4), (7, 5)] := hp
    simp only [List.mem_cons, List.not_mem_nil, or_false] at hp2
    rcases hp2 with rfl | rfl
    · refine ⟨rfl, (show 4 ∈ uOf region_tt1U 6 by decide), fun _ => rfl, fun j hj hm => ?_⟩
      match j, hj, hm with
      | 0, _, _ => rfl
      | 1, _, _ => rfl
      | 2, _, _ => rfl
      | 3, _, _ => rfl
      | 4, _, _ => rfl
      | 5, _, _ => rfl
      | 6, hj, _ => exact absurd rfl hj
      | 7, _, hm => exact absurd hm (by decide)
      | _ + 8, _, _ => rfl
    · refine ⟨rfl, (show 5 ∈ uOf region_tt1U 7 by decide), fun _ => rfl, fun j hj hm => ?_⟩
      match j, hj, hm with
      | 0, _, _ => rfl
      | 1, _, _ => rfl
      | 2, _, _ => rfl
      | 3, _, _ => rfl
      | 4, _, _ => rfl
      | 5, _, _ => rfl
      | 6, _, hm => exact absurd hm (by decide)
      | 7, hj, _ => exact absurd rfl hj
      | _ + 8, _, _ => rfl
  · intro i s hds
    match i, hds with
    | 0, hds => cases hds
    | 1, hds => cases hds
    | 2, hds => cases hds
    | 3, hds => cases hds
    | 4, hds => cases hds
    | 5, hds => cases hds
    | 6, hds =>
      obtain rfl := Option.some.inj hds
      refine ⟨(show 4 ∈ uOf region_tt1U 6 by decide), fun _ => rfl, fun hds hds' h => ?_⟩
      simp only [h 1 (show 1 ∈ uOf region_tt1U 6 by decide)]
    | 7, hds =>
      obtain rfl := Option.some.inj hds
      refine ⟨(show 5 ∈ uOf region_tt1U 7 by decide), fun _ => rfl, fun hds hds' h => ?_⟩
      simp only [h 3 (show 3 ∈ uOf region_tt1U 7 by decide)]
    | _ + 8, hds => cases hds
  · intro q hq
    simp only [List.mem_cons, List.not_mem_nil, or_false] at hq
    subst hq
    · exact ⟨o2, by simp⟩
  · intro i o ho _
    have hi : i < 8 := by rw [← gsize]; exact (Array.getElem?_eq_some_iff.1 ho).1
    match i, hi with
    | 0, _ =>
      obtain ⟨ty, pos, aft, e, hdp⟩ := iop0
      rw [e] at ho
      obtain rfl := Option.some.inj ho
      intro a' hds W K hB lq ld hmem hK
      have e2 : a'.eval (.tmp 2) = .pointer (some ⟨Z, 0, none⟩) := by rw [eval_tmp]; exact lq (2, .pointer (some ⟨Z, 0, none⟩)) (by simp)
      have t2 := (eval_tmp a' 2).symm.trans e2
      have HK := Lib.hid (show K (a'.put (some 28) (.agg #[V0, V1, V2])) W from hK W (Below.refl _ _) trivial)
      clear hK ld lq hmem
      have c0 := (hZ.next hB).cell' 0 rfl
      have c1 := (hZ.next hB).cell' 1 rfl
      have c2 := (hZ.next hB).cell' 2 rfl
      unfold Oper.wp
      simp only [execOp, e2]
      go_simp
      exact HK.out
    | 1, _ =>
      obtain ⟨ty, pos, aft, e, hdp⟩ := iop1
      rw [e] at ho
      obtain rfl := Option.some.inj ho
      intro a' hds W K hB lq ld hmem hK
      have e28 : a'.eval (.tmp 28) = .agg #[V0, V1, V2] := by rw [eval_tmp]; exact ld 0 28 (List.all_eq_true.1 hdp 0 (by decide)) rfl
      have t28 := (eval_tmp a' 28).symm.trans e28
      have HK := Lib.hid (show ∀ hh W', Below W.heap.size W W' → (memNats HS).P hh W' → (∀ b ∈ (memNats HS).bl hh, W.heap.size ≤ b ∧ b < W'.heap.size) → K (a'.put (some 29) (.agg #[.int .i64 (N : Int), .slice (some ⟨hh.b, 0, none⟩) T hh.c])) W' from fun hh W' h1 h2 h3 => by
        have h4 : K (a'.put (some 29) (region_tt1X Z N T L V0 V1 V2 HS DS 1 (updH hds 1 hh))) W' := hK hh W' h1 h2 h3 trivial
        simp only [region_tt1X, updH_same] at h4
        exact h4)
      clear hK ld lq hmem
      refine step_call (vals := #[.agg #[V0, V1, V2]]) (by exact ⟨_, _, Try.func63, by kernel_rfl, rfl⟩) (by simp only [List.map_toArray, List.map_cons, List.map_nil, e28]) (H63 W hB) ?_
      rintro e w' ⟨g, cap, rfl, hn, hl, hg, hb'⟩
      exact ⟨_, rfl, HK.out ⟨g, cap, 0, 0, none⟩ _ hb' ⟨hn, hg⟩ (bd_one hl hg)⟩
    | 2, _ =>
      obtain ⟨ty, pos, aft, e, hdp⟩ := iop2
      rw [e] at ho
      obtain rfl := Option.some.inj ho
      intro a' hds W K hB lq ld hmem hK
      have e2 : a'.eval (.tmp 2) = .pointer (some ⟨Z, 0, none⟩) := by rw [eval_tmp]; exact lq (2, .pointer (some ⟨Z, 0, none⟩)) (by simp)
      have t2 := (eval_tmp a' 2).symm.trans e2
      have HK := Lib.hid (show K (a'.put (some 30) (.agg #[V0, V1, V2])) W from hK W (Below.refl _ _) trivial)
      clear hK ld lq hmem
      have c0 := (hZ.next hB).cell' 0 rfl
      have c1 := (hZ.next hB).cell' 1 rfl
      have c2 := (hZ.next hB).cell' 2 rfl
      unfold Oper.wp
      simp only [execOp, e2]
      go_simp
      exact HK.out
    | 3, _ =>
      obtain ⟨ty, pos, aft, e, hdp⟩ := iop3
      rw [e] at ho
      obtain rfl := Option.some.inj ho
      intro a' hds W K hB lq ld hmem hK
      have e30 : a'.eval (.tmp 30) = .agg #[V0, V1, V2] := by rw [eval_tmp]; exact ld 2 30 (List.all_eq_true.1 hdp 2 (by decide)) rfl
      have t30 := (eval_tmp a' 30).symm.trans e30
      have HK := Lib.hid (show ∀ hh W', Below W.heap.size W W' → (memNats DS).P hh W' → (∀ b ∈ (memNats DS).bl hh, W.heap.size ≤ b ∧ b < W'.heap.size) → K (a'.put (some 31) (.agg #[.int .i64 (N : Int), .slice (some ⟨hh.b, 0, none⟩) L hh.c])) W' from fun hh W' h1 h2 h3 => by
        have h4 : K (a'.put (some 31) (region_tt1X Z N T L V0 V1 V2 HS DS 3 (updH hds 3 hh))) W' := hK hh W' h1 h2 h3 trivial
        simp only [region_tt1X, updH_same] at h4
        exact h4)
      clear hK ld lq hmem
      refine step_call (vals := #[.agg #[V0, V1, V2]]) (by exact ⟨_, _, Try.func64, by kernel_rfl, rfl⟩) (by simp only [List.map_toArray, List.map_cons, List.map_nil, e30]) (H64 W hB) ?_
      rintro e w' ⟨g, cap, rfl, hn, hl, hg, hb'⟩
      exact ⟨_, rfl, HK.out ⟨g, cap, 0, 0, none⟩ _ hb' ⟨hn, hg⟩ (bd_one hl hg)⟩
    | 4, _ =>
      obtain ⟨ty, pos, aft, e, hdp⟩ := iop4
      rw [e] at ho
      obtain rfl := Option.some.inj ho
      intro a' hds W K hB lq ld hmem hK
      have HK := Lib.hid (show ∀ hh W', Below W.heap.size W W' → (memBox 2 26).P hh W' → (∀ b ∈ (memBox 2 26).bl hh, W.heap.size ≤ b ∧ b < W'.heap.size) → K (a'.put (some 5) (.pointer (some ⟨hh.b, 0, none⟩))) W' from fun hh W' h1 h2 h3 => by
        have h4 : K (a'.put (some 5) (region_tt1X Z N T L V0 V1 V2 HS DS 4 (updH hds 4 hh))) W' := hK hh W' h1 h2 h3 trivial
        simp only [region_tt1X, updH_same] at h4
        exact h4)
      clear hK ld lq hmem
      have hfin := Lib.hid (HK.out ⟨W.heap.size, 0, 0, 0, none⟩ _ ((Below.refl _ _).alloc (Nat.le_refl _) (.cells #[.int .i64 0, .slice none 0 0] 26)) ⟨_, rfl, BoxAt.new W #[.int .i64 0, .slice none 0 0] 26⟩ (bd_one (Nat.le_refl _) (by simp)))
      clear HK
      unfold Oper.wp
      simp only [execOp]
      go_simp
      exact hfin.out
    | 5, _ =>
      obtain ⟨ty, pos, aft, e, hdp⟩ := iop5
      rw [e] at ho
      obtain rfl := Option.some.inj ho
      intro a' hds W K hB lq ld hmem hK
      have HK := Lib.hid (show ∀ hh W', Below W.heap.size W W' → (memBox 2 37).P hh W' → (∀ b ∈ (memBox 2 37).bl hh, W.heap.size ≤ b ∧ b < W'.heap.size) → K (a'.put (some 6) (.pointer (some ⟨hh.b, 0, none⟩))) W' from fun hh W' h1 h2 h3 => by
        have h4 : K (a'.put (some 6) (region_tt1X Z N T L V0 V1 V2 HS DS 5 (updH hds 5 hh))) W' := hK hh W' h1 h2 h3 trivial
        simp only [region_tt1X, updH_same] at h4
        exact h4)
      clear hK ld lq hmem
      have hfin := Lib.hid (HK.out ⟨W.heap.size, 0, 0, 0, none⟩ _ ((Below.refl _ _).alloc (Nat.le_refl _) (.cells #[.int .i64 0, .slice none 0 0] 37)) ⟨_, rfl, BoxAt.new W #[.int .i64 0, .slice none 0 0] 37⟩ (bd_one (Nat.le_refl _) (by simp)))
      clear HK
      unfold Oper.wp
      simp only [execOp]
      go_simp
      exact hfin.out
    | 6, _ =>
      obtain ⟨ty, pos, aft, e, hdp⟩ := iop6
      rw [e] at ho
      obtain rfl := Option.some.inj ho
      intro a' hds W K hB lq ld hmem hK
      have e5 : a'.eval (.tmp 5) = .pointer (some ⟨(hds 4).b, 0, none⟩) := by rw [eval_tmp]; exact ld 4 5 (List.all_eq_true.1 hdp 4 (by decide)) rfl
      have t5 := (eval_tmp a' 5).symm.trans e5
      have e29 : a'.eval (.tmp 29) = .agg #[.int .i64 (N : Int), .slice (some ⟨(hds 1).b, 0, none⟩) T (hds 1).c] := by rw [eval_tmp]; exact ld 1 29 (List.all_eq_true.1 hdp 1 (by decide)) rfl
      have t29 := (eval_tmp a' 29).symm.trans e29
      obtain ⟨⟨vs, hvs, hbx⟩, _⟩ := hmem 4 (show 4 ∈ uOf region_tt1U 6 by decide) (by decide)
      have hvl : vs.toList.length = 2 := by simpa using hvs
      obtain ⟨v0, v1, rfl⟩ : ∃ v0 v1, vs = #[v0, v1] := by
        cases vs with
        | mk l =>
          match l, hvl with
          | [v0, v1], _ => exact ⟨_, _, rfl⟩
      have HK := Lib.hid (show ∀ W', SetAt (hds 4).b W W' → (memBox 2 26).P (hds 4) W' → BoxAt W' (hds 4).b #[.int .i64 (N : Int), .slice (some ⟨(hds 1).b, 0, none⟩) T (hds 1).c] 26 → K a' W' from hK)
      clear hK ld lq hmem
      have hfin := Lib.hid (HK.out _ (((SetAt.refl (hds 4).b W).cell 0 (.int .i64 (N : Int))).cell 1 (.slice (some ⟨(hds 1).b, 0, none⟩) T (hds 1).c)) ⟨_, rfl, ((hbx).set 0 (.int .i64 (N : Int))).set 1 (.slice (some ⟨(hds 1).b, 0, none⟩) T (hds 1).c)⟩ (((hbx).set 0 (.int .i64 (N : Int))).set 1 (.slice (some ⟨(hds 1).b, 0, none⟩) T (hds 1).c)))
      have c0 := hbx.cell' 0 rfl
      have f0 := hbx.frozen 0
      have c1 := hbx.cell' 1 rfl
      have f1 := hbx.frozen 1
      have hlt := hbx.lt
      clear hbx hvl hvs HK
      generalize (hds 4).b = B at *
      unfold Oper.wp
      simp only [execOp, e5, e29]
      clear e5 e29
      go_simp
      exact hfin.out
    | 7, _ =>
      obtain ⟨ty, pos, aft, e, hdp⟩ := iop7
      rw [e] at ho
      obtain rfl := Option.some.inj ho
      intro a' hds W K hB lq ld hmem hK
      have e6 : a'.eval (.tmp 6) = .pointer (some ⟨(hds 5).b, 0, none⟩) := by rw [eval_tmp]; exact ld 5 6 (List.all_eq_true.1 hdp 5 (by decide)) rfl
      have t6 := (eval_tmp a' 6).symm.trans e6
      have e31 : a'.eval (.tmp 31) = .agg #[.int .i64 (N : Int), .slice (some ⟨(hds 3).b, 0, none⟩) L (hds 3).c] := by rw [eval_tmp]; exact ld 3 31 (List.all_eq_true.1 hdp 3 (by decide)) rfl
      have t31 := (eval_tmp a' 31).symm.trans e31
      obtain ⟨⟨vs, hvs, hbx⟩, _⟩ := hmem 5 (show 5 ∈ uOf region_tt1U 7 by decide) (by decide)
      have hvl : vs.toList.length = 2 := by simpa using hvs
      obtain ⟨v0, v1, rfl⟩ : ∃ v0 v1, vs = #[v0, v1] := by
        cases vs with
        | mk l =>
          match l, hvl with
          | [v0, v1], _ => exact ⟨_, _, rfl⟩
      have HK := Lib.hid (show ∀ W', SetAt (hds 5).b W W' → (memBox 2 37).P (hds 5) W' → BoxAt W' (hds 5).b #[.int .i64 (N : Int), .slice (some ⟨(hds 3).b, 0, none⟩) L (hds 3).c] 37 → K a' W' from hK)
      clear hK ld lq hmem
      have hfin := Lib.hid (HK.out _ (((SetAt.refl (hds 5).b W).cell 0 (.int .i64 (N : Int))).cell 1 (.slice (some ⟨(hds 3).b, 0, none⟩) L (hds 3).c)) ⟨_, rfl, ((hbx).set 0 (.int .i64 (N : Int))).set 1 (.slice (some ⟨(hds 3).b, 0, none⟩) L (hds 3).c)⟩ (((hbx).set 0 (.int .i64 (N : Int))).set 1 (.slice (some ⟨(hds 3).b, 0, none⟩) L (hds 3).c)))
      have c0 := hbx.cell' 0 rfl
      have f0 := hbx.frozen 0
      have c1 := hbx.cell' 1 rfl
      have f1 := hbx.frozen 1
      have hlt := hbx.lt
      clear hbx hvl hvs HK
      generalize (hds 5).b = B at *
      unfold Oper.wp
      simp only [execOp, e6, e31]
      clear e6 e31
      go_simp
      exact hfin.out
    | i + 8, h => omega
  · intro hds v W hO
    have hfin := gend (hds 1).b (hds 1).c (hds 1).b2 (hds 1).c2 (hds 3).b (hds 3).c (hds 3).b2 (hds 3).c2 (hds 4).b (hds 4).c (hds 4).b2 (hds 4).c2 (hds 5).b (hds 5).c (hds 5).b2 (hds 5).c2 (hds 1).p (hds 3).p (hds 4).p (hds 5).p (v 28) (v 29) (v 30) (v 31) W hO.b (hO.m 1 (by show 1 < 8; decide) rfl).1 (hO.m 1 (by show 1 < 8; decide) rfl).2 (hO.m 3 (by show 3 < 8; decide) rfl).1 (hO.m 3 (by show 3 < 8; decide) rfl).2 ((hO.m 4 (by show 4 < 8; decide) rfl).2 _ (by show _ ∈ [_]; simp)).1 ((hO.m 4 (by show 4 < 8; decide) rfl).2 _ (by show _ ∈ [_]; simp)).2 ((hO.m 5 (by show 5 < 8; decide) rfl).2 _ (by show _ ∈ [_]; simp)).1 ((hO.m 5 (by show 5 < 8; decide) rfl).2 _ (by show _ ∈ [_]; simp)).2 (hO.s 6 (by show 6 < 8; decide) rfl) (hO.s 7 (by show 7 < 8; decide) rfl)
    rw [← laid_putL _ a v ?_] at hfin
    · exact hfin
    · intro p hp
      simp only [List.mem_cons, List.not_mem_nil, or_false] at hp
      rcases hp with rfl | rfl | rfl | rfl | rfl | rfl
      · rfl
      · rfl
      · rfl
      · rfl
      · exact hO.x 4 (show 4 < 8 by decide) 5 rfl
      · exact hO.x 5 (show 5 < 8 by decide) 6 rfl
def region_tt33U : List (List Nat) := [[], [1], [], [1, 3], [1, 3], [1, 3], [1, 3], [1, 3], [1, 3]]
def region_tt33X (N L g3 q3 F gh qh E T : Nat) (VS HS : List Nat) : Nat → (Nat → Hd) → Value
  | 0, _ => .agg #[.int .i64 (N : Int), .slice (some ⟨gh, 0, none⟩) T qh]
  | 1, hds => .agg #[.int .i64 (N : Int), .slice (some ⟨(hds 1).b, 0, none⟩) T (hds 1).c]
  | 2, _ => .agg #[.int .i64 (N : Int), .slice (some ⟨g3, 0, none⟩) L q3]
  | 3, hds => .tuple #[.slice (some ⟨(hds 3).b, 0, none⟩) L (hds 3).c, .int .i64 0]
  | 4, hds => .tuple #[.slice (some ⟨(hds 3).b, 0, none⟩) L (hds 3).c, .int .i64 0]
  | 5, hds => .slice (some ⟨(hds 3).b, 0, none⟩) L (hds 3).c
  | 6, _ => .int .i64 0
  | 7, hds => .slice (some ⟨(hds 3).b, 0, none⟩) L (hds 3).c
  | 8, _ => .int .i64 0
  | _ + 9, _ => undef
theorem region_tt33X.congr (N L g3 q3 F gh qh E T : Nat) (VS HS : List Nat) : ∀ i hds hds', (∀ r ∈ uOf region_tt33U i, hds r = hds' r) → region_tt33X N L g3 q3 F gh qh E T VS HS i hds = region_tt33X N L g3 q3 F gh qh E T VS HS i hds'
  | 0, _, _, _ => rfl
  | 1, hds, hds', h => by simp only [region_tt33X, h 1 (show 1 ∈ uOf region_tt33U 1 by decide)]
  | 2, _, _, _ => rfl
  | 3, hds, hds', h => by simp only [region_tt33X, h 3 (show 3 ∈ uOf region_tt33U 3 by decide)]
  | 4, hds, hds', h => by simp only [region_tt33X, h 3 (show 3 ∈ uOf region_tt33U 4 by decide)]
  | 5, hds, hds', h => by simp only [region_tt33X, h 3 (show 3 ∈ uOf region_tt33U 5 by decide)]
  | 6, _, _, _ => rfl
  | 7, hds, hds', h => by simp only [region_tt33X, h 3 (show 3 ∈ uOf region_tt33U 7 by decide)]
  | 8, _, _, _ => rfl
  | _ + 9, _, _, _ => rfl
def region_tt33M (N L g3 q3 F gh qh E T : Nat) (VS HS : List Nat) : Nat → Mem
  | 1 => memNats HS
  | 3 => memStrs (clothS HS VS)
  | _ => memNone
def region_tt33S (N L g3 q3 F gh qh E T : Nat) (VS HS : List Nat) : Nat → Option Sto
  | _ => none
set_option maxRecDepth 8000 in
set_option maxHeartbeats 2000000 in
theorem region_tt33 {id : Nat} {ops : Array Oper} {Q : Exit → Act → World → Prop} {a : Act} {w : World} (N L g3 q3 F gh qh E T : Nat) (VS HS : List Nat) (hVl : VS.length = L) (hVd : Valid N VS) (hn3 : NatsAt w g3 0 VS) (hg3 : g3 < w.heap.size) (hTl : HS.length = T) (hT0 : 1 ≤ T) (hT1 : T ≤ 96) (hn6 : NatsAt w gh 0 HS) (hg6 : gh < w.heap.size) (hk : ∀ i, i < T → nthN HS i < N) (hE : BoxAt w E #[.int .i64 (N : Int), .slice (some ⟨gh, 0, none⟩) T qh] 26) (hF : BoxAt w F #[.int .i64 (N : Int), .slice (some ⟨g3, 0, none⟩) L q3] 37)
    (gsize : ops.size = 9)
    (gops : IsOp ops 0 (some 218) (.load 26 (.tmp 5)) none [] ∧ IsOp ops 1 (some 219) (.call { callee := .value (.func 28), args := #[.tmp 218], argTypes := #[26] }) none [0] ∧ IsOp ops 2 (some 220) (.load 37 (.tmp 20)) none [] ∧ IsOp ops 3 (some 221) (.call { callee := .value (.func 38), args := #[.tmp 219, .tmp 220], argTypes := #[26, 37] }) none [1, 2] ∧ IsOp ops 4 (some 217) (.move (.tmp 221)) none [3] ∧ IsOp ops 5 (some 222) (.extract (.tmp 217) 0) none [4] ∧ IsOp ops 6 (some 223) (.extract (.tmp 217) 1) none [4] ∧ IsOp ops 7 (some 26) (.assign (.tmp 222)) none [5] ∧ IsOp ops 8 (some 27) (.assign (.tmp 223)) none [6])
    (gbk : backB ops = true) (gds : dstsB ops (dOf [some 218, some 219, some 220, some 221, some 217, some 222, some 223, some 26, some 27]) = true) (gus : useB ops (uOf region_tt33U) (kOf [0, 1, 0, 1, 0, 0, 0, 0, 0]) = true) (ggd : plainB ops = true) (gsz : ∀ e ∈ [218, 219, 220, 221, 217, 222, 223, 26, 27], e < a.tmps.size)
    (gout : a.eval (.tmp 5) = .pointer (some ⟨E, 0, none⟩) ∧ a.eval (.tmp 20) = .pointer (some ⟨F, 0, none⟩))
    (gend : ∀ (g219 q219 G219 Q219 g221 q221 G221 Q221 : Nat) (P219 P221 : Option Addr) (u218 u219 u220 u221 u217 u222 u223 : Value) (W : World), Below w.heap.size w W → (memNats HS).P ⟨g219, q219, G219, Q219, P219⟩ W → (∀ b ∈ (memNats HS).bl ⟨g219, q219, G219, Q219, P219⟩, w.heap.size ≤ b ∧ b < W.heap.size) → (memStrs (clothS HS VS)).P ⟨g221, q221, G221, Q221, P221⟩ W → (∀ b ∈ (memStrs (clothS HS VS)).bl ⟨g221, q221, G221, Q221, P221⟩, w.heap.size ≤ b ∧ b < W.heap.size) → Q .normal (putL a [(218, u218), (219, u219), (220, u220), (221, u221), (217, u217), (222, u222), (223, u223), (26, .slice (some ⟨g221, 0, none⟩) L q221), (27, .int .i64 0)]) W) :
    (Code.region id ops true).wp Try.prog Q a w := by
  obtain ⟨iop0, iop1, iop2, iop3, iop4, iop5, iop6, iop7, iop8⟩ := gops
  obtain ⟨o5, o20⟩ := gout
  refine region_all (RSp.of 9 [some 218, some 219, some 220, some 221, some 217, some 222, some 223, some 26, some 27] (fun _ => true) (region_tt33X N L g3 q3 F gh qh E T VS HS) region_tt33U [0, 1, 0, 1, 0, 0, 0, 0, 0] (region_tt33M N L g3 q3 F gh qh E T VS HS) (region_tt33S N L g3 q3 F gh qh E T VS HS)) [(5, .pointer (some ⟨E, 0, none⟩)), (20, .pointer (some ⟨F, 0, none⟩))] [218, 219, 220, 221, 217, 222, 223, 26, 27] (RSp.of_fit gsize.symm gbk gds gus ggd (by decide) ?_) (RSp.of_ok _ (region_tt33X.congr N L g3 q3 F gh qh E T VS HS) ?_) gsz ?_ ?_ ?_
  · intro p hp
    have hp2 : p ∈ ([] : List (Nat × Nat)) := hp
    cases hp2
  · intro i s hds
    match i, hds with
    | 0, hds => cases hds
    | 1, hds => cases hds
    | 2, hds => cases hds
    | 3, hds => cases hds
    | 4, hds => cases hds
    | 5, hds => cases hds
    | 6, hds => cases hds
    | 7, hds => cases hds
    | 8, hds => cases hds
    | _ + 9, hds => cases hds
  · intro q hq
    simp only [List.mem_cons, List.not_mem_nil, or_false] at hq
    rcases hq with rfl | rfl
    · exact ⟨o5, by simp⟩
    · exact ⟨o20, by simp⟩
  · intro i o ho _
    have hi : i < 9 := by rw [← gsize]; exact (Array.getElem?_eq_some_iff.1 ho).1
    match i, hi with
    | 0, _ =>
      obtain ⟨ty, pos, aft, e, hdp⟩ := iop0
      rw [e] at ho
      obtain rfl := Option.some.inj ho
      intro a' hds W K hB lq ld hmem hK
      have e5 : a'.eval (.tmp 5) = .pointer (some ⟨E, 0, none⟩) := by rw [eval_tmp]; exact lq (5, .pointer (some ⟨E, 0, none⟩)) (by simp)
      have t5 := (eval_tmp a' 5).symm.trans e5
      have HK := Lib.hid (show K (a'.put (some 218) (.agg #[.int .i64 (N : Int), .slice (some ⟨gh, 0, none⟩) T qh])) W from hK W (Below.refl _ _) trivial)
      clear hK ld lq hmem
      have c0 := (hE.next hB).cell' 0 rfl
      have c1 := (hE.next hB).cell' 1 rfl
      unfold Oper.wp
      simp only [execOp, e5]
      go_simp
      exact HK.out
    | 1, _ =>
      obtain ⟨ty, pos, aft, e, hdp⟩ := iop1
      rw [e] at ho
      obtain rfl := Option.some.inj ho
      intro a' hds W K hB lq ld hmem hK
      have e218 : a'.eval (.tmp 218) = .agg #[.int .i64 (N : Int), .slice (some ⟨gh, 0, none⟩) T qh] := by rw [eval_tmp]; exact ld 0 218 (List.all_eq_true.1 hdp 0 (by decide)) rfl
      have t218 := (eval_tmp a' 218).symm.trans e218
      have HK := Lib.hid (show ∀ hh W', Below W.heap.size W W' → (memNats HS).P hh W' → (∀ b ∈ (memNats HS).bl hh, W.heap.size ≤ b ∧ b < W'.heap.size) → K (a'.put (some 219) (.agg #[.int .i64 (N : Int), .slice (some ⟨hh.b, 0, none⟩) T hh.c])) W' from fun hh W' h1 h2 h3 => by
        have h4 : K (a'.put (some 219) (region_tt33X N L g3 q3 F gh qh E T VS HS 1 (updH hds 1 hh))) W' := hK hh W' h1 h2 h3 trivial
        simp only [region_tt33X, updH_same] at h4
        exact h4)
      clear hK ld lq hmem
      refine step_call (vals := #[.agg #[.int .i64 (N : Int), .slice (some ⟨gh, 0, none⟩) T qh]]) (by exact ⟨_, _, Try.func28, by kernel_rfl, rfl⟩) (by simp only [List.map_toArray, List.map_cons, List.map_nil, e218]) (call28 N T gh qh HS W hTl hT0 hT1 (hn6.below hB hg6) (Nat.lt_of_lt_of_le hg6 hB.size)) ?_
      rintro e w' ⟨g, cap, rfl, hn, hl, hg, hb'⟩
      exact ⟨_, rfl, HK.out ⟨g, cap, 0, 0, none⟩ _ hb' ⟨hn, hg⟩ (bd_one hl hg)⟩
    | 2, _ =>
      obtain ⟨ty, pos, aft, e, hdp⟩ := iop2
      rw [e] at ho
      obtain rfl := Option.some.inj ho
      intro a' hds W K hB lq ld hmem hK
      have e20 : a'.eval (.tmp 20) = .pointer (some ⟨F, 0, none⟩) := by rw [eval_tmp]; exact lq (20, .pointer (some ⟨F, 0, none⟩)) (by simp)
      have t20 := (eval_tmp a' 20).symm.trans e20
      have HK := Lib.hid (show K (a'.put (some 220) (.agg #[.int .i64 (N : Int), .slice (some ⟨g3, 0, none⟩) L q3])) W from hK W (Below.refl _ _) trivial)
      clear hK ld lq hmem
      have c0 := (hF.next hB).cell' 0 rfl
      have c1 := (hF.next hB).cell' 1 rfl
      unfold Oper.wp
      simp only [execOp, e20]
      go_simp
      exact HK.out
    | 3, _ =>
      obtain ⟨ty, pos, aft, e, hdp⟩ := iop3
      rw [e] at ho
      obtain rfl := Option.some.inj ho
      intro a' hds W K hB lq ld hmem hK
      have e219 : a'.eval (.tmp 219) = .agg #[.int .i64 (N : Int), .slice (some ⟨(hds 1).b, 0, none⟩) T (hds 1).c] := by rw [eval_tmp]; exact ld 1 219 (List.all_eq_true.1 hdp 1 (by decide)) rfl
      have t219 := (eval_tmp a' 219).symm.trans e219
      have e220 : a'.eval (.tmp 220) = .agg #[.int .i64 (N : Int), .slice (some ⟨g3, 0, none⟩) L q3] := by rw [eval_tmp]; exact ld 2 220 (List.all_eq_true.1 hdp 2 (by decide)) rfl
      have t220 := (eval_tmp a' 220).symm.trans e220
      have HK := Lib.hid (show ∀ hh W', Below W.heap.size W W' → (memStrs (clothS HS VS)).P hh W' → (∀ b ∈ (memStrs (clothS HS VS)).bl hh, W.heap.size ≤ b ∧ b < W'.heap.size) → K (a'.put (some 221) (.tuple #[.slice (some ⟨hh.b, 0, none⟩) L hh.c, .int .i64 0])) W' from fun hh W' h1 h2 h3 => by
        have h4 : K (a'.put (some 221) (region_tt33X N L g3 q3 F gh qh E T VS HS 3 (updH hds 3 hh))) W' := hK hh W' h1 h2 h3 trivial
        simp only [region_tt33X, updH_same] at h4
        exact h4)
      have m219   := (hmem 1 (show 1 ∈ uOf region_tt33U 3 by decide) (by decide)).1
      clear hK ld lq hmem
      refine step_call (vals := #[.agg #[.int .i64 (N : Int), .slice (some ⟨(hds 1).b, 0, none⟩) T (hds 1).c], .agg #[.int .i64 (N : Int), .slice (some ⟨g3, 0, none⟩) L q3]]) (by exact ⟨_, _, Try.func38, by kernel_rfl, rfl⟩) (by simp only [List.map_toArray, List.map_cons, List.map_nil, e219, e220]) (call38 N T L (hds 1).b (hds 1).c g3 q3 HS VS W hTl hVl hT0 hT1 hk hVd m219.1 m219.2 (hn3.below hB hg3) (Nat.lt_of_lt_of_le hg3 hB.size)) ?_
      rintro e w' ⟨g, cap, rfl, hn, hl, hg, hb'⟩
      exact ⟨_, rfl, HK.out ⟨g, cap, 0, 0, none⟩ _ hb' ⟨hn, hg⟩ (bd_one hl hg)⟩
    | 4, _ =>
      obtain ⟨ty, pos, aft, e, hdp⟩ := iop4
      rw [e] at ho
      obtain rfl := Option.some.inj ho
      intro a' hds W K hB lq ld hmem hK
      have e221 : a'.eval (.tmp 221) = .tuple #[.slice (some ⟨(hds 3).b, 0, none⟩) L (hds 3).c, .int .i64 0] := by rw [eval_tmp]; exact ld 3 221 (List.all_eq_true.1 hdp 3 (by decide)) rfl
      have t221 := (eval_tmp a' 221).symm.trans e221
      have HK := Lib.hid (show K (a'.put (some 217) (.tuple #[.slice (some ⟨(hds 3).b, 0, none⟩) L (hds 3).c, .int .i64 0])) W from hK W (Below.refl _ _) trivial)
      clear hK ld lq hmem
      unfold Oper.wp
      simp only [execOp, e221]
      exact HK.out
    | 5, _ =>
      obtain ⟨ty, pos, aft, e, hdp⟩ := iop5
      rw [e] at ho
      obtain rfl := Option.some.inj ho
      intro a' hds W K hB lq ld hmem hK
      have e217 : a'.eval (.tmp 217) = .tuple #[.slice (some ⟨(hds 3).b, 0, none⟩) L (hds 3).c, .int .i64 0] := by rw [eval_tmp]; exact ld 4 217 (List.all_eq_true.1 hdp 4 (by decide)) rfl
      have t217 := (eval_tmp a' 217).symm.trans e217
      have HK := Lib.hid (show K (a'.put (some 222) (.slice (some ⟨(hds 3).b, 0, none⟩) L (hds 3).c)) W from hK W (Below.refl _ _) trivial)
      clear hK ld lq hmem
      unfold Oper.wp
      simp only [execOp, e217]
      exact HK.out
    | 6, _ =>
      obtain ⟨ty, pos, aft, e, hdp⟩ := iop6
      rw [e] at ho
      obtain rfl := Option.some.inj ho
      intro a' hds W K hB lq ld hmem hK
      have e217 : a'.eval (.tmp 217) = .tuple #[.slice (some ⟨(hds 3).b, 0, none⟩) L (hds 3).c, .int .i64 0] := by rw [eval_tmp]; exact ld 4 217 (List.all_eq_true.1 hdp 4 (by decide)) rfl
      have t217 := (eval_tmp a' 217).symm.trans e217
      have HK := Lib.hid (show K (a'.put (some 223) (.int .i64 0)) W from hK W (Below.refl _ _) trivial)
      clear hK ld lq hmem
      unfold Oper.wp
      simp only [execOp, e217]
      exact HK.out
    | 7, _ =>
      obtain ⟨ty, pos, aft, e, hdp⟩ := iop7
      rw [e] at ho
      obtain rfl := Option.some.inj ho
      intro a' hds W K hB lq ld hmem hK
      have e222 : a'.eval (.tmp 222) = .slice (some ⟨(hds 3).b, 0, none⟩) L (hds 3).c := by rw [eval_tmp]; exact ld 5 222 (List.all_eq_true.1 hdp 5 (by decide)) rfl
      have t222 := (eval_tmp a' 222).symm.trans e222
      have HK := Lib.hid (show K (a'.put (some 26) (.slice (some ⟨(hds 3).b, 0, none⟩) L (hds 3).c)) W from hK W (Below.refl _ _) trivial)
      clear hK ld lq hmem
      unfold Oper.wp
      simp only [execOp, e222]
      exact HK.out
    | 8, _ =>
      obtain ⟨ty, pos, aft, e, hdp⟩ := iop8
      rw [e] at ho
      obtain rfl := Option.some.inj ho
      intro a' hds W K hB lq ld hmem hK
      have e223 : a'.eval (.tmp 223) = .int .i64 0 := by rw [eval_tmp]; exact ld 6 223 (List.all_eq_true.1 hdp 6 (by decide)) rfl
      have t223 := (eval_tmp a' 223).symm.trans e223
      have HK := Lib.hid (show K (a'.put (some 27) (.int .i64 0)) W from hK W (Below.refl _ _) trivial)
      clear hK ld lq hmem
      unfold Oper.wp
      simp only [execOp, e223]
      exact HK.out
    | i + 9, h => omega
  · intro hds v W hO
    have hfin := gend (hds 1).b (hds 1).c (hds 1).b2 (hds 1).c2 (hds 3).b (hds 3).c (hds 3).b2 (hds 3).c2 (hds 1).p (hds 3).p (v 218) (v 219) (v 220) (v 221) (v 217) (v 222) (v 223) W hO.b (hO.m 1 (by show 1 < 9; decide) rfl).1 (hO.m 1 (by show 1 < 9; decide) rfl).2 (hO.m 3 (by show 3 < 9; decide) rfl).1 (hO.m 3 (by show 3 < 9; decide) rfl).2
    rw [← laid_putL _ a v ?_] at hfin
    · exact hfin
    · intro p hp
      simp only [List.mem_cons, List.not_mem_nil, or_false] at hp
      rcases hp with rfl | rfl | rfl | rfl | rfl | rfl | rfl | rfl | rfl
      · rfl
      · rfl
      · rfl
      · rfl
      · rfl
      · rfl
      · rfl
      · exact hO.x 7 (show 7 < 9 by decide) 26 rfl
      · exact hO.x 8 (show 8 < 9 by decide) 27 rfl
end Go.Proofs.Ytdmgffoikebgkaa
/- TieThreads: its mathematics. -/
namespace Go.Proofs.Ytdmgffoikebgkaa
open Go.RowKit Go.Shelf
attribute [local go_sem] Oper.semAt_some

theorem cloth_ClS (hs xs : List Nat) (h0 : 1 ≤ hs.length) (h1 : hs.length ≤ 96) : ClS (clothS hs xs) hs.length (pks hs xs) := by
  refine ⟨by rw [clothS_len, pks_len], fun i hi => ?_⟩
  rw [pks_len] at hi
  rw [clothS_nth _ _ _ hi, pks_nth _ _ hi]
  exact pick_strB hs _ h0 h1
theorem pks_bit {hs xs : List Nat} {i j : Nat} (hi : i < xs.length) (hj : j < hs.length) : bitN (nthN (pks hs xs) i) j = bitN (nthN xs i) (nthN hs j) := by
  rw [pks_nth _ _ hi, pickP_bit _ _ _ hj]
theorem fst_lt {hs : List Nat} {w : Nat} (hw : w < hs.length) : fstI (nthN hs) w < hs.length := Nat.lt_of_le_of_lt (fstI_le w) hw
theorem pks_no (hs xs : List Nat) : NoPart hs (pks hs xs) := fun p w hp hw => by
  rw [pks_len] at hp
  unfold Like2
  rw [pks_bit hp hw, pks_bit hp (fst_lt hw), fstI_key (key := nthN hs)]
/-- the rows without the hooks that have no warps -/
def andL (U : Nat) (xs : List Nat) (k : Nat) : List Nat := (List.range xs.length).map fun i => if i < k then nthN xs i &&& U else nthN xs i
theorem andL_len (U : Nat) (xs : List Nat) (k : Nat) : (andL U xs k).length = xs.length := by simp [andL]
theorem andL_nth (U : Nat) (xs : List Nat) (k i : Nat) (hi : i < xs.length) : nthN (andL U xs k) i = if i < k then nthN xs i &&& U else nthN xs i := by
  rw [nthN_get _ _ (by rw [andL_len]; exact hi)]; simp [andL]
theorem andL_zero (U : Nat) (xs : List Nat) : andL U xs 0 = xs := by
  refine List.ext_getElem (andL_len _ _ _) fun i h1 h2 => ?_
  have := andL_nth U xs 0 i h2
  rw [nthN_get _ _ h1, nthN_get _ _ h2, if_neg (Nat.not_lt_zero _)] at this
  exact this
theorem andL_set (U : Nat) (xs : List Nat) (k : Nat) (hk : k < xs.length) : (andL U xs k).set k (nthN xs k &&& U) = andL U xs (k + 1) := by
  refine List.ext_getElem (by rw [List.length_set, andL_len, andL_len]) fun i h1 h2 => ?_
  have hi : i < xs.length := by rw [andL_len] at h2; exact h2
  have e1 := nthN_set (andL U xs k) k i (nthN xs k &&& U) (by rw [andL_len]; exact hk)
  have e2 := andL_nth U xs (k + 1) i hi
  rw [nthN_get _ _ h1] at e1
  rw [nthN_get _ _ h2] at e2
  rw [e1, e2]
  by_cases e : i = k
  · subst e; rw [if_pos rfl, if_pos (by omega)]
  · rw [if_neg e, andL_nth _ _ _ _ hi]
    by_cases h : i < k
    · rw [if_pos h, if_pos (by omega)]
    · rw [if_neg h, if_neg (by omega)]
theorem nat_ext {a b : Nat} (h : ∀ j, bitN a j = true ↔ bitN b j = true) : a = b := Nat.eq_of_testBit_eq fun j => Bool.eq_iff_iff.2 (h j)
theorem want_eq (hs xs : List Nat) : dsnL hs (pks hs xs) = andL (useL hs hs.length) xs xs.length := by
  refine List.ext_getElem (by rw [dsnL_len, pks_len, andL_len]) fun i h1 h2 => ?_
  have hi : i < xs.length := by rw [andL_len] at h2; exact h2
  rw [← nthN_get _ _ h1, ← nthN_get _ _ h2, dsnL_nth _ _ (by rw [pks_len]; exact hi), andL_nth _ _ _ _ hi, if_pos hi]
  refine nat_ext fun j => ?_
  have e : bitN (nthN xs i &&& useL hs hs.length) j = (bitN (nthN xs i) j && bitN (useL hs hs.length) j) := by unfold bitN; exact Nat.testBit_and _ _ _
  rw [e, drowN_bit, Bool.and_eq_true, useL_bit]
  constructor
  · rintro ⟨k, hk, h3, h4⟩
    rw [pks_bit hi hk, h3] at h4
    exact ⟨h4, k, hk, h3⟩
  · rintro ⟨h4, k, hk, h3⟩
    exact ⟨k, hk, h3, by rw [pks_bit hi hk, h3]; exact h4⟩
/-- the picks with one point changed -/
def chgL (ps : List Nat) (p w : Nat) : List Nat := ps.set p (nthN ps p ^^^ 2 ^ w)
theorem chgL_len (ps : List Nat) (p w : Nat) : (chgL ps p w).length = ps.length := List.length_set ..
theorem chgL_nth (ps : List Nat) (p w i : Nat) (hp : p < ps.length) : nthN (chgL ps p w) i = if i = p then nthN ps p ^^^ 2 ^ w else nthN ps i := nthN_set _ _ _ _ hp
theorem chg_bit (ps : List Nat) (p w i j : Nat) (hp : p < ps.length) : bitN (nthN (chgL ps p w) i) j = if i = p ∧ j = w then !bitN (nthN ps i) j else bitN (nthN ps i) j := by
  rw [chgL_nth _ _ _ _ hp]
  by_cases e : i = p
  · subst e
    rw [if_pos rfl]
    unfold bitN
    rw [Nat.testBit_xor, Nat.testBit_two_pow]
    by_cases e2 : j = w
    · subst e2; simp
    · rw [if_neg (by rintro ⟨_, h⟩; exact e2 h), decide_eq_false (fun h => e2 h.symm), Bool.xor_false]
  · rw [if_neg e, if_neg (by rintro ⟨h, _⟩; exact e h)]
/-- the warp has its hook for itself -/
def Alone (hs : List Nat) (w : Nat) : Prop := ∀ i, i < hs.length → i ≠ w → nthN hs i ≠ nthN hs w
theorem alone_no {hs ps : List Nat} {p w : Nat} (hp : p < ps.length) (hn : NoPart hs ps) (ha : Alone hs w) : NoPart hs (chgL ps p w) := fun i j hi hj => by
  rw [chgL_len] at hi
  have h := hn i j hi hj
  unfold Like2 at h ⊢
  rw [chg_bit _ _ _ _ _ hp, chg_bit _ _ _ _ _ hp]
  by_cases e : fstI (nthN hs) j = w
  · have : j = w := Decidable.byContradiction fun hne => ha j hj hne (by rw [← e]; exact (fstI_key (key := nthN hs) j).symm)
    rw [this] at e ⊢
    rw [e]
  · have e2 : j ≠ w := fun h2 => by
      subst h2
      have hk := fstI_key (key := nthN hs) j
      exact ha _ (fst_lt hj) e hk
    rw [if_neg (by rintro ⟨_, h⟩; exact e2 h), if_neg (by rintro ⟨_, h⟩; exact e h)]
    exact h
theorem least_of {P : Nat → Prop} [DecidablePred P] : ∀ n, P n → ∃ m, P m ∧ m ≤ n ∧ ∀ j, j < m → ¬ P j
  | 0, h => ⟨0, h, Nat.le_refl _, fun j hj => absurd hj (Nat.not_lt_zero _)⟩
  | n + 1, h => by
    by_cases hx : ∃ k, k ≤ n ∧ P k
    · obtain ⟨k, hk, hP⟩ := hx
      have : ∀ q, q ≤ n → P q → ∃ m, P m ∧ m ≤ q ∧ ∀ j, j < m → ¬ P j := fun q => by
        induction q using Nat.strongRecOn with
        | _ q ih =>
          intro hq hPq
          by_cases hy : ∃ j, j < q ∧ P j
          · obtain ⟨j, hj, hPj⟩ := hy
            obtain ⟨m, h1, h2, h3⟩ := ih j hj (by omega) hPj
            exact ⟨m, h1, by omega, h3⟩
          · exact ⟨q, hPq, Nat.le_refl _, fun j hj hP => hy ⟨j, hj, hP⟩⟩
      obtain ⟨m, h1, h2, h3⟩ := this k hk hP
      exact ⟨m, h1, by omega, h3⟩
    · exact ⟨n + 1, h, Nat.le_refl _, fun j hj hP => hx ⟨j, by omega, hP⟩⟩
theorem part_chg {hs ps : List Nat} {p w : Nat} (hp : p < ps.length) (hw : w < hs.length) (hn : NoPart hs ps) (ha : ¬ Alone hs w) :
    ∃ q, PartAt hs (chgL ps p w) p q ∧ q < hs.length ∧ nthN hs q = nthN hs w ∧ fstI (nthN hs) q = fstI (nthN hs) w ∧ fstI (nthN hs) w < q ∧ bitN (nthN (chgL ps p w) p) q ≠ bitN (nthN (chgL ps p w) p) (fstI (nthN hs) w) ∧ (w = fstI (nthN hs) w ∨ q = w) := by
  have key : ∀ q, q < hs.length → nthN hs q = nthN hs w → fstI (nthN hs) w < q → (q = w ∨ fstI (nthN hs) w = w) → (∀ j, j < q → nthN hs j = nthN hs w → j ≠ fstI (nthN hs) w → j ≠ w ∧ fstI (nthN hs) w ≠ w) →
      PartAt hs (chgL ps p w) p q ∧ bitN (nthN (chgL ps p w) p) q ≠ bitN (nthN (chgL ps p w) p) (fstI (nthN hs) w) := fun q hq hqk hlt hor hrow => by
    have hfq : fstI (nthN hs) q = fstI (nthN hs) w := fstI_eq hqk
    have hL := hn p q hp hq
    unfold Like2 at hL
    rw [hfq] at hL
    have hne : bitN (nthN (chgL ps p w) p) q ≠ bitN (nthN (chgL ps p w) p) (fstI (nthN hs) w) := by
      rw [chg_bit _ _ _ _ _ hp, chg_bit _ _ _ _ _ hp]
      rcases hor with e | e
      · rw [if_pos ⟨rfl, e⟩, if_neg (by rintro ⟨_, h⟩; omega), hL]
        simp
      · rw [if_neg (by rintro ⟨_, h⟩; omega), if_pos ⟨rfl, e⟩, hL]
        simp
    refine ⟨⟨by rw [chgL_len]; exact hp, hq, ?_, fun j hj => ?_, fun i j hi hj => ?_⟩, hne⟩
    · unfold Like2; rw [hfq]; exact hne
    · have h := hn p j hp (by omega)
      unfold Like2 at h ⊢
      by_cases e : nthN hs j = nthN hs w
      · have hfj : fstI (nthN hs) j = fstI (nthN hs) w := fstI_eq e
        rw [hfj] at h ⊢
        by_cases e2 : j = fstI (nthN hs) w
        · rw [e2]
        · obtain ⟨h1, h2⟩ := hrow j hj e e2
          rw [chg_bit _ _ _ _ _ hp, chg_bit _ _ _ _ _ hp, if_neg (by rintro ⟨_, h⟩; exact h1 h), if_neg (by rintro ⟨_, h⟩; exact h2 h)]
          exact h
      · have e2 : j ≠ w := fun h => e (by rw [h])
        have e3 : fstI (nthN hs) j ≠ w := fun h => e (by rw [← h]; exact (fstI_key (key := nthN hs) j).symm)
        rw [chg_bit _ _ _ _ _ hp, chg_bit _ _ _ _ _ hp, if_neg (by rintro ⟨_, h⟩; exact e2 h), if_neg (by rintro ⟨_, h⟩; exact e3 h)]
        exact h
    · have h := hn i j (by omega) hj
      unfold Like2 at h ⊢
      rw [chg_bit _ _ _ _ _ hp, chg_bit _ _ _ _ _ hp, if_neg (by rintro ⟨h, _⟩; omega), if_neg (by rintro ⟨h, _⟩; omega)]
      exact h
  have hle := fstI_le (key := nthN hs) w
  by_cases hf : fstI (nthN hs) w = w
  · have hex : ∃ i, i < hs.length ∧ i ≠ w ∧ nthN hs i = nthN hs w := Decidable.byContradiction fun h => ha fun i h1 h2 h3 => h ⟨i, h1, h2, h3⟩
    obtain ⟨i, h1, h2, h3⟩ := hex
    obtain ⟨m, ⟨m1, m2⟩, m3, m4⟩ := least_of (P := fun i => i ≠ w ∧ nthN hs i = nthN hs w) i ⟨h2, h3⟩
    have hwm : w < m := by
      rcases Nat.lt_trichotomy w m with h | h | h
      · exact h
      · exact absurd h.symm m1
      · exact absurd m2 (fstI_least (key := nthN hs) (k := w) (by rw [hf]; exact h))
    obtain ⟨k1, k2⟩ := key m (by omega) m2 (by rw [hf]; exact hwm) (.inr hf) fun j hj e1 e2 => by
      rw [hf] at e2
      exact absurd ⟨e2, e1⟩ (m4 j hj)
    exact ⟨m, k1, by omega, m2, fstI_eq m2, by rw [hf]; exact hwm, k2, .inl hf.symm⟩
  · have hlt : fstI (nthN hs) w < w := Nat.lt_of_le_of_ne hle hf
    obtain ⟨k1, k2⟩ := key w hw rfl hlt (.inl rfl) fun j hj _ _ => ⟨by omega, hf⟩
    exact ⟨w, k1, hw, rfl, rfl, hlt, k2, .inr rfl⟩
/-- one string of a cloth, as its bytes -/
theorem StrB.uniq {s s' : ByteArray} {n p : Nat} (h : StrB s n p) (h' : StrB s' n p) : s = s' := by
  have := h.list.trans h'.list.symm
  cases s; cases s'
  congr 1
  exact Array.toList_inj.1 this
theorem cls_eq {ss ss' : List ByteArray} {n : Nat} {ps : List Nat} (h : ClS ss n ps) (h' : ClS ss' n ps) : ss = ss' := by
  refine List.ext_getElem (by rw [h.len, h'.len]) fun i h1 h2 => ?_
  have hi : i < ps.length := by rw [← h.len]; exact h1
  have e := (h.str i hi).uniq (h'.str i hi)
  simpa [nthB, h1, h2] using e
/-- a design that was unwoven weaves the same cloth -/
theorem again_eq {hs ps : List Nat} {ss : List ByteArray} (h0 : 1 ≤ hs.length) (h1 : hs.length ≤ 96) (hn : NoPart hs ps) (hlt : ∀ i, i < ps.length → nthN ps i < 2 ^ hs.length) (hc : ClS ss hs.length ps) : clothS hs (dsnL hs ps) = ss := by
  refine cls_eq (ps := ps) ?_ hc
  have := cloth_ClS hs (dsnL hs ps) h0 h1
  have e : pks hs (dsnL hs ps) = ps := by
    refine List.ext_getElem (by rw [pks_len, dsnL_len]) fun i h2 h3 => ?_
    rw [← nthN_get _ _ h2, ← nthN_get _ _ h3]
    refine nat_ext fun j => ?_
    by_cases hj : j < hs.length
    · rw [pks_bit (by rw [dsnL_len]; exact h3) hj, dsnL_nth _ _ h3, drowN_bit]
      constructor
      · rintro ⟨k, hk, e1, e2⟩
        have a1 := hn i k h3 hk
        have a2 := hn i j h3 hj
        unfold Like2 at a1 a2
        rw [a2, ← fstI_eq (key := nthN hs) e1, ← a1]
        exact e2
      · intro h
        exact ⟨j, hj, rfl, h⟩
    · have z1 : bitN (nthN (pks hs (dsnL hs ps)) i) j = false := by
        rw [pks_nth _ _ (by rw [dsnL_len]; exact h3)]
        unfold bitN pickP
        rw [rowTo_bit, decide_eq_false hj]; rfl
      have z2 : bitN (nthN ps i) j = false := by
        unfold bitN
        exact Nat.testBit_lt_two_pow (Nat.lt_of_lt_of_le (hlt i h3) (Nat.pow_le_pow_right (by decide) (by omega)))
      rw [z1, z2]
  rw [e] at this
  exact this
end Go.Proofs.Ytdmgffoikebgkaa
/- TieThreads: rows that can be written. -/
namespace Go.Proofs.Ytdmgffoikebgkaa
open Go.RowKit Go.Shelf
attribute [local go_sem] Oper.semAt_some

/-- a row of strings that can be written -/
def StrRw (W : World) (g : Nat) (ss : List ByteArray) : Prop := ∃ cur : Array Value, W.heap[g]? = some (.cells cur 9 (0, 0)) ∧ ∀ i, i < ss.length → cur[i]? = some (.string (nthB ss i))
theorem StrRw.lt {W : World} {g : Nat} {ss : List ByteArray} (h : StrRw W g ss) : g < W.heap.size := by
  obtain ⟨cur, h1, _⟩ := h
  exact (Array.getElem?_eq_some_iff.1 h1).1
theorem StrRw.strs {W : World} {g : Nat} {ss : List ByteArray} (h : StrRw W g ss) : StrsAt W g 0 ss := fun i hi => by
  obtain ⟨cur, h1, h2⟩ := h
  rw [Nat.zero_add]
  simp [World.cell?, h1, h2 i hi]
theorem StrRw.frozen {W : World} {g : Nat} {ss : List ByteArray} (h : StrRw W g ss) (i : Nat) : W.frozen? ⟨g, i, none⟩ = false := by
  obtain ⟨cur, h1, _⟩ := h
  simp [World.frozen?, h1]
theorem StrRw.next {W W' : World} {g : Nat} {ss : List ByteArray} (h : StrRw W g ss) (hb : Below W.heap.size W W') : StrRw W' g ss := by
  have hl := h.lt
  obtain ⟨cur, h1, h2⟩ := h
  exact ⟨cur, (hb.block g hl).trans h1, h2⟩
theorem StrRw.far {W W' : World} {g B : Nat} {ss : List ByteArray} (h : StrRw W g ss) (hB : SetAt B W W') (hne : g ≠ B) : StrRw W' g ss := by
  obtain ⟨cur, h1, h2⟩ := h
  exact ⟨cur, (hB.other g hne).trans h1, h2⟩
theorem StrRw.at {W : World} {g : Nat} {ss : List ByteArray} (h : StrRw W g ss) {B j : Nat} (v : Value) (hne : g ≠ B) : StrRw (W.setCell ⟨B, j, none⟩ v) g ss := by
  obtain ⟨cur, h1, h2⟩ := h
  exact ⟨cur, (Below.heap_setCell W ⟨B, j, none⟩ v g hne).trans h1, h2⟩
theorem NatRow.at {W : World} {g : Nat} {xs : List Nat} (h : NatRow W g xs) {B j : Nat} (v : Value) (hne : g ≠ B) : NatRow (W.setCell ⟨B, j, none⟩ v) g xs := by
  obtain ⟨cur, h1, h2⟩ := h
  exact ⟨cur, (Below.heap_setCell W ⟨B, j, none⟩ v g hne).trans h1, h2⟩
theorem nthB_set (ss : List ByteArray) (i j : Nat) (s : ByteArray) (hi : i < ss.length) : nthB (ss.set i s) j = if j = i then s else nthB ss j := by
  unfold nthB
  by_cases e : j = i
  · subst e; simp [hi]
  · rw [if_neg e, List.getElem?_set_ne (Ne.symm e)]
theorem StrRw.set {W : World} {g : Nat} {ss : List ByteArray} (h : StrRw W g ss) (i : Nat) (s : ByteArray) (hi : i < ss.length) : StrRw (W.setCell ⟨g, i, none⟩ (.string s)) g (ss.set i s) := by
  obtain ⟨cur, h1, h2⟩ := h
  refine ⟨cur.setIfInBounds i (.string s), ?_, fun j hj => ?_⟩
  · simp [World.setCell, Array.getElem?_modify, h1]
  · rw [List.length_set] at hj
    rw [nthB_set _ _ _ _ hi]
    have hc := h2 i hi
    have hlt : i < cur.size := (Array.getElem?_eq_some_iff.1 hc).1
    by_cases e : j = i
    · subst e; simp [hlt]
    · rw [if_neg e, Array.getElem?_setIfInBounds_ne (by omega), h2 j hj]
theorem StrRw.of_row {w : World} {B g n cap : Nat} {ss : List ByteArray} (h : w.ownsRow B 9 1 (.slice (some ⟨g, 0, none⟩) n cap) n (ss.map Value.string)) (_h0 : 0 < n) : StrRw w g ss := by
  have h1 := h
  obtain ⟨hl, ⟨h2, _⟩ | ⟨g', cap', cur, e, hg, hh, r⟩⟩ := h
  · simp at h2
  · simp at e
    obtain ⟨rfl, rfl⟩ := e
    refine ⟨cur, hh, fun i hi => ?_⟩
    have e : w.cell? ⟨g, i, none⟩ = cur[i]? := by simp [World.cell?, hh]
    rw [← e, h1.cellAt i (by simp at hl; omega)]
    simp [nthB, hi]
/-- a row of strings of the region's own that can be written -/
def memStrRow (ss : List ByteArray) : Mem := ⟨fun h W => StrRw W h.b ss ∧ h.b < W.heap.size, fun h => [h.b], fun _ _ _ h hb => ⟨h.1.next hb, Nat.lt_of_lt_of_le h.2 hb.size⟩, fun h _ _ _ hp hn hB => ⟨hp.1.far hB (fun e => hn (by simp [e])), by rw [hB.size]; exact hp.2⟩⟩
theorem call38w (n K L b c b2 c2 : Nat) (hs xs : List Nat) (W : World) (hK : hs.length = K) (hL : xs.length = L) (hk0 : 1 ≤ K) (hk1 : K ≤ 96) (hk : ∀ i, i < K → nthN hs i < n) (hv : Valid n xs) (h1 : NatsAt W b 0 hs) (h2 : b < W.heap.size) (h3 : NatsAt W b2 0 xs) (h4 : b2 < W.heap.size) :
    Calls Try.prog 38 #[.agg #[.int .i64 (n : Int), .slice (some ⟨b, 0, none⟩) K c], .agg #[.int .i64 (n : Int), .slice (some ⟨b2, 0, none⟩) L c2]] W fun e w' =>
      ∃ g cap, e = .returned (.tuple #[.slice (some ⟨g, 0, none⟩) L cap, .int .i64 0]) ∧ StrRw w' g (clothS hs xs) ∧ W.heap.size ≤ g ∧ g < w'.heap.size ∧ Below W.heap.size W w' := by
  subst hK hL
  have l0 := hv.l0
  refine (tieWeave_ok n b 0 c b2 0 c2 hs xs W ⟨h1, h2, hv.n0, hv.n1, hk0, hk1, hk⟩ ⟨h3, h4, hv⟩).mono ?_
  rintro e w' ⟨v, rfl, h5, h6⟩
  obtain ⟨g, cap, rfl⟩ := row_slice h5 (by omega)
  rw [← clothS_map] at h5
  obtain ⟨a, b, d⟩ := strs_of_row h5 (by omega)
  exact ⟨g, cap, rfl, StrRw.of_row h5 (by omega), d, b, h6⟩
theorem call37w (n L b c : Nat) (xs : List Nat) (W : World) (hL : xs.length = L) (hv : Valid n xs) (hx : NatsAt W b 0 xs) (hb : b < W.heap.size) :
    Calls Try.prog 37 #[.agg #[.int .i64 (n : Int), .slice (some ⟨b, 0, none⟩) L c]] W fun e w' =>
      ∃ g cap, e = .returned (.agg #[.int .i64 (n : Int), .slice (some ⟨g, 0, none⟩) L cap]) ∧ NatRow w' g xs ∧ W.heap.size ≤ g ∧ g < w'.heap.size ∧ Below W.heap.size W w' := by
  subst hL
  have l0 := hv.l0
  have l1 := hv.l1
  refine (tieOurs_ok n b c xs W (by omega) (by omega) hx hb).mono ?_
  rintro e w' ⟨g, cap, rfl, h1, h2⟩
  obtain ⟨a1, a2, a3⟩ := nats_of_row h1 (by omega)
  exact ⟨g, cap, rfl, NatRow.of_row h1 (by omega), by omega, a2, h2⟩
def region_tt2wU : List (List Nat) := [[], [1], [], [3], [1, 3, 4], [1, 3, 4], [1, 3, 4], [1, 3, 4], [1, 3, 4], [1, 3, 4]]
def region_tt2wX (N L g2 q2 D gh qh E T : Nat) (DS HS : List Nat) : Nat → (Nat → Hd) → Value
  | 0, _ => .agg #[.int .i64 (N : Int), .slice (some ⟨gh, 0, none⟩) T qh]
  | 1, hds => .agg #[.int .i64 (N : Int), .slice (some ⟨(hds 1).b, 0, none⟩) T (hds 1).c]
  | 2, _ => .agg #[.int .i64 (N : Int), .slice (some ⟨g2, 0, none⟩) L q2]
  | 3, hds => .agg #[.int .i64 (N : Int), .slice (some ⟨(hds 3).b, 0, none⟩) L (hds 3).c]
  | 4, hds => .tuple #[.slice (some ⟨(hds 4).b, 0, none⟩) L (hds 4).c, .int .i64 0]
  | 5, hds => .tuple #[.slice (some ⟨(hds 4).b, 0, none⟩) L (hds 4).c, .int .i64 0]
  | 6, hds => .slice (some ⟨(hds 4).b, 0, none⟩) L (hds 4).c
  | 7, _ => .int .i64 0
  | 8, hds => .slice (some ⟨(hds 4).b, 0, none⟩) L (hds 4).c
  | 9, _ => .int .i64 0
  | _ + 10, _ => undef
theorem region_tt2wX.congr (N L g2 q2 D gh qh E T : Nat) (DS HS : List Nat) : ∀ i hds hds', (∀ r ∈ uOf region_tt2wU i, hds r = hds' r) → region_tt2wX N L g2 q2 D gh qh E T DS HS i hds = region_tt2wX N L g2 q2 D gh qh E T DS HS i hds'
  | 0, _, _, _ => rfl
  | 1, hds, hds', h => by simp only [region_tt2wX, h 1 (show 1 ∈ uOf region_tt2wU 1 by decide)]
  | 2, _, _, _ => rfl
  | 3, hds, hds', h => by simp only [region_tt2wX, h 3 (show 3 ∈ uOf region_tt2wU 3 by decide)]
  | 4, hds, hds', h => by simp only [region_tt2wX, h 4 (show 4 ∈ uOf region_tt2wU 4 by decide)]
  | 5, hds, hds', h => by simp only [region_tt2wX, h 4 (show 4 ∈ uOf region_tt2wU 5 by decide)]
  | 6, hds, hds', h => by simp only [region_tt2wX, h 4 (show 4 ∈ uOf region_tt2wU 6 by decide)]
  | 7, _, _, _ => rfl
  | 8, hds, hds', h => by simp only [region_tt2wX, h 4 (show 4 ∈ uOf region_tt2wU 8 by decide)]
  | 9, _, _, _ => rfl
  | _ + 10, _, _, _ => rfl
def region_tt2wM (N L g2 q2 D gh qh E T : Nat) (DS HS : List Nat) : Nat → Mem
  | 1 => memNats HS
  | 3 => memNats DS
  | 4 => memStrRow (clothS HS DS)
  | _ => memNone
def region_tt2wS (N L g2 q2 D gh qh E T : Nat) (DS HS : List Nat) : Nat → Option Sto
  | _ => none
set_option maxRecDepth 8000 in
set_option maxHeartbeats 2000000 in
theorem region_tt2w {id : Nat} {ops : Array Oper} {Q : Exit → Act → World → Prop} {a : Act} {w : World} (N L g2 q2 D gh qh E T : Nat) (DS HS : List Nat) (hDl : DS.length = L) (hVd : Valid N DS) (hn2 : NatsAt w g2 0 DS) (hg2 : g2 < w.heap.size) (hTl : HS.length = T) (hT0 : 1 ≤ T) (hT1 : T ≤ 96) (hn6 : NatsAt w gh 0 HS) (hg6 : gh < w.heap.size) (hk : ∀ i, i < T → nthN HS i < N) (hD : BoxAt w D #[.int .i64 (N : Int), .slice (some ⟨g2, 0, none⟩) L q2] 37) (hE : BoxAt w E #[.int .i64 (N : Int), .slice (some ⟨gh, 0, none⟩) T qh] 26)
    (gsize : ops.size = 10)
    (gops : IsOp ops 0 (some 33) (.load 26 (.tmp 5)) none [] ∧ IsOp ops 1 (some 34) (.call { callee := .value (.func 28), args := #[.tmp 33], argTypes := #[26] }) none [0] ∧ IsOp ops 2 (some 35) (.load 37 (.tmp 6)) none [] ∧ IsOp ops 3 (some 36) (.call { callee := .value (.func 37), args := #[.tmp 35], argTypes := #[37] }) none [2] ∧ IsOp ops 4 (some 37) (.call { callee := .value (.func 38), args := #[.tmp 34, .tmp 36], argTypes := #[26, 37] }) none [1, 3] ∧ IsOp ops 5 (some 32) (.move (.tmp 37)) none [4] ∧ IsOp ops 6 (some 38) (.extract (.tmp 32) 0) none [5] ∧ IsOp ops 7 (some 39) (.extract (.tmp 32) 1) none [5] ∧ IsOp ops 8 (some 7) (.assign (.tmp 38)) none [6] ∧ IsOp ops 9 (some 8) (.assign (.tmp 39)) none [7])
    (gbk : backB ops = true) (gds : dstsB ops (dOf [some 33, some 34, some 35, some 36, some 37, some 32, some 38, some 39, some 7, some 8]) = true) (gus : useB ops (uOf region_tt2wU) (kOf [0, 1, 0, 1, 1, 0, 0, 0, 0, 0]) = true) (ggd : plainB ops = true) (gsz : ∀ e ∈ [33, 34, 35, 36, 37, 32, 38, 39, 7, 8], e < a.tmps.size)
    (gout : a.eval (.tmp 5) = .pointer (some ⟨E, 0, none⟩) ∧ a.eval (.tmp 6) = .pointer (some ⟨D, 0, none⟩))
    (gend : ∀ (g34 q34 G34 Q34 g36 q36 G36 Q36 g37 q37 G37 Q37 : Nat) (P34 P36 P37 : Option Addr) (u33 u34 u35 u36 u37 u32 u38 u39 : Value) (W : World), Below w.heap.size w W → (memNats HS).P ⟨g34, q34, G34, Q34, P34⟩ W → (∀ b ∈ (memNats HS).bl ⟨g34, q34, G34, Q34, P34⟩, w.heap.size ≤ b ∧ b < W.heap.size) → (memNats DS).P ⟨g36, q36, G36, Q36, P36⟩ W → (∀ b ∈ (memNats DS).bl ⟨g36, q36, G36, Q36, P36⟩, w.heap.size ≤ b ∧ b < W.heap.size) → (memStrRow (clothS HS DS)).P ⟨g37, q37, G37, Q37, P37⟩ W → (∀ b ∈ (memStrRow (clothS HS DS)).bl ⟨g37, q37, G37, Q37, P37⟩, w.heap.size ≤ b ∧ b < W.heap.size) → Q .normal (putL a [(33, u33), (34, u34), (35, u35), (36, u36), (37, u37), (32, u32), (38, u38), (39, u39), (7, .slice (some ⟨g37, 0, none⟩) L q37), (8, .int .i64 0)]) W) :
    (Code.region id ops true).wp Try.prog Q a w := by
  obtain ⟨iop0, iop1, iop2, iop3, iop4, iop5, iop6, iop7, iop8, iop9⟩ := gops
  obtain ⟨o5, o6⟩ := gout
  refine region_all (RSp.of 10 [some 33, some 34, some 35, some 36, some 37, some 32, some 38, some 39, some 7, some 8] (fun _ => true) (region_tt2wX N L g2 q2 D gh qh E T DS HS) region_tt2wU [0, 1, 0, 1, 1, 0, 0, 0, 0, 0] (region_tt2wM N L g2 q2 D gh qh E T DS HS) (region_tt2wS N L g2 q2 D gh qh E T DS HS)) [(5, .pointer (some ⟨E, 0, none⟩)), (6, .pointer (some ⟨D, 0, none⟩))] [33, 34, 35, 36, 37, 32, 38, 39, 7, 8] (RSp.of_fit gsize.symm gbk gds gus ggd (by decide) ?_) (RSp.of_ok _ (region_tt2wX.congr N L g2 q2 D gh qh E T DS HS) ?_) gsz ?_ ?_ ?_
  · intro p hp
    have hp2 : p ∈ ([] : List (Nat × Nat)) := hp
    cases hp2
  · intro i s hds
    match i, hds with
    | 0, hds => cases hds
    | 1, hds => cases hds
    | 2, hds => cases hds
    | 3, hds => cases hds
    | 4, hds => cases hds
    | 5, hds => cases hds
    | 6, hds => cases hds
    | 7, hds => cases hds
    | 8, hds => cases hds
    | 9, hds => cases hds
    | _ + 10, hds => cases hds
  · intro q hq
    simp only [List.mem_cons, List.not_mem_nil, or_false] at hq
    rcases hq with rfl | rfl
    · exact ⟨o5, by simp⟩
    · exact ⟨o6, by simp⟩
  · intro i o ho _
    have hi : i < 10 := by rw [← gsize]; exact (Array.getElem?_eq_some_iff.1 ho).1
    match i, hi with
    | 0, _ =>
      obtain ⟨ty, pos, aft, e, hdp⟩ := iop0
      rw [e] at ho
      obtain rfl := Option.some.inj ho
      intro a' hds W K hB lq ld hmem hK
      have e5 : a'.eval (.tmp 5) = .pointer (some ⟨E, 0, none⟩) := by rw [eval_tmp]; exact lq (5, .pointer (some ⟨E, 0, none⟩)) (by simp)
      have t5 := (eval_tmp a' 5).symm.trans e5
      have HK := Lib.hid (show K (a'.put (some 33) (.agg #[.int .i64 (N : Int), .slice (some ⟨gh, 0, none⟩) T qh])) W from hK W (Below.refl _ _) trivial)
      clear hK ld lq hmem
      have c0 := (hE.next hB).cell' 0 rfl
      have c1 := (hE.next hB).cell' 1 rfl
      unfold Oper.wp
      simp only [execOp, e5]
      go_simp
      exact HK.out
    | 1, _ =>
      obtain ⟨ty, pos, aft, e, hdp⟩ := iop1
      rw [e] at ho
      obtain rfl := Option.some.inj ho
      intro a' hds W K hB lq ld hmem hK
      have e33 : a'.eval (.tmp 33) = .agg #[.int .i64 (N : Int), .slice (some ⟨gh, 0, none⟩) T qh] := by rw [eval_tmp]; exact ld 0 33 (List.all_eq_true.1 hdp 0 (by decide)) rfl
      have t33 := (eval_tmp a' 33).symm.trans e33
      have HK := Lib.hid (show ∀ hh W', Below W.heap.size W W' → (memNats HS).P hh W' → (∀ b ∈ (memNats HS).bl hh, W.heap.size ≤ b ∧ b < W'.heap.size) → K (a'.put (some 34) (.agg #[.int .i64 (N : Int), .slice (some ⟨hh.b, 0, none⟩) T hh.c])) W' from fun hh W' h1 h2 h3 => by
        have h4 : K (a'.put (some 34) (region_tt2wX N L g2 q2 D gh qh E T DS HS 1 (updH hds 1 hh))) W' := hK hh W' h1 h2 h3 trivial
        simp only [region_tt2wX, updH_same] at h4
        exact h4)
      clear hK ld lq hmem
      refine step_call (vals := #[.agg #[.int .i64 (N : Int), .slice (some ⟨gh, 0, none⟩) T qh]]) (by exact ⟨_, _, Try.func28, by kernel_rfl, rfl⟩) (by simp only [List.map_toArray, List.map_cons, List.map_nil, e33]) (call28 N T gh qh HS W hTl hT0 hT1 (hn6.below hB hg6) (Nat.lt_of_lt_of_le hg6 hB.size)) ?_
      rintro e w' ⟨g, cap, rfl, hn, hl, hg, hb'⟩
      exact ⟨_, rfl, HK.out ⟨g, cap, 0, 0, none⟩ _ hb' ⟨hn, hg⟩ (bd_one hl hg)⟩
    | 2, _ =>
      obtain ⟨ty, pos, aft, e, hdp⟩ := iop2
      rw [e] at ho
      obtain rfl := Option.some.inj ho
      intro a' hds W K hB lq ld hmem hK
      have e6 : a'.eval (.tmp 6) = .pointer (some ⟨D, 0, none⟩) := by rw [eval_tmp]; exact lq (6, .pointer (some ⟨D, 0, none⟩)) (by simp)
      have t6 := (eval_tmp a' 6).symm.trans e6
      have HK := Lib.hid (show K (a'.put (some 35) (.agg #[.int .i64 (N : Int), .slice (some ⟨g2, 0, none⟩) L q2])) W from hK W (Below.refl _ _) trivial)
      clear hK ld lq hmem
      have c0 := (hD.next hB).cell' 0 rfl
      have c1 := (hD.next hB).cell' 1 rfl
      unfold Oper.wp
      simp only [execOp, e6]
      go_simp
      exact HK.out
    | 3, _ =>
      obtain ⟨ty, pos, aft, e, hdp⟩ := iop3
      rw [e] at ho
      obtain rfl := Option.some.inj ho
      intro a' hds W K hB lq ld hmem hK
      have e35 : a'.eval (.tmp 35) = .agg #[.int .i64 (N : Int), .slice (some ⟨g2, 0, none⟩) L q2] := by rw [eval_tmp]; exact ld 2 35 (List.all_eq_true.1 hdp 2 (by decide)) rfl
      have t35 := (eval_tmp a' 35).symm.trans e35
      have HK := Lib.hid (show ∀ hh W', Below W.heap.size W W' → (memNats DS).P hh W' → (∀ b ∈ (memNats DS).bl hh, W.heap.size ≤ b ∧ b < W'.heap.size) → K (a'.put (some 36) (.agg #[.int .i64 (N : Int), .slice (some ⟨hh.b, 0, none⟩) L hh.c])) W' from fun hh W' h1 h2 h3 => by
        have h4 : K (a'.put (some 36) (region_tt2wX N L g2 q2 D gh qh E T DS HS 3 (updH hds 3 hh))) W' := hK hh W' h1 h2 h3 trivial
        simp only [region_tt2wX, updH_same] at h4
        exact h4)
      clear hK ld lq hmem
      refine step_call (vals := #[.agg #[.int .i64 (N : Int), .slice (some ⟨g2, 0, none⟩) L q2]]) (by exact ⟨_, _, Try.func37, by kernel_rfl, rfl⟩) (by simp only [List.map_toArray, List.map_cons, List.map_nil, e35]) (call37 N L g2 q2 DS W hDl hVd (hn2.below hB hg2) (Nat.lt_of_lt_of_le hg2 hB.size)) ?_
      rintro e w' ⟨g, cap, rfl, hn, hl, hg, hb'⟩
      exact ⟨_, rfl, HK.out ⟨g, cap, 0, 0, none⟩ _ hb' ⟨hn, hg⟩ (bd_one hl hg)⟩
    | 4, _ =>
      obtain ⟨ty, pos, aft, e, hdp⟩ := iop4
      rw [e] at ho
      obtain rfl := Option.some.inj ho
      intro a' hds W K hB lq ld hmem hK
      have e34 : a'.eval (.tmp 34) = .agg #[.int .i64 (N : Int), .slice (some ⟨(hds 1).b, 0, none⟩) T (hds 1).c] := by rw [eval_tmp]; exact ld 1 34 (List.all_eq_true.1 hdp 1 (by decide)) rfl
      have t34 := (eval_tmp a' 34).symm.trans e34
      have e36 : a'.eval (.tmp 36) = .agg #[.int .i64 (N : Int), .slice (some ⟨(hds 3).b, 0, none⟩) L (hds 3).c] := by rw [eval_tmp]; exact ld 3 36 (List.all_eq_true.1 hdp 3 (by decide)) rfl
      have t36 := (eval_tmp a' 36).symm.trans e36
      have HK := Lib.hid (show ∀ hh W', Below W.heap.size W W' → (memStrRow (clothS HS DS)).P hh W' → (∀ b ∈ (memStrRow (clothS HS DS)).bl hh, W.heap.size ≤ b ∧ b < W'.heap.size) → K (a'.put (some 37) (.tuple #[.slice (some ⟨hh.b, 0, none⟩) L hh.c, .int .i64 0])) W' from fun hh W' h1 h2 h3 => by
        have h4 : K (a'.put (some 37) (region_tt2wX N L g2 q2 D gh qh E T DS HS 4 (updH hds 4 hh))) W' := hK hh W' h1 h2 h3 trivial
        simp only [region_tt2wX, updH_same] at h4
        exact h4)
      have m34   := (hmem 1 (show 1 ∈ uOf region_tt2wU 4 by decide) (by decide)).1
      have m36   := (hmem 3 (show 3 ∈ uOf region_tt2wU 4 by decide) (by decide)).1
      clear hK ld lq hmem
      refine step_call (vals := #[.agg #[.int .i64 (N : Int), .slice (some ⟨(hds 1).b, 0, none⟩) T (hds 1).c], .agg #[.int .i64 (N : Int), .slice (some ⟨(hds 3).b, 0, none⟩) L (hds 3).c]]) (by exact ⟨_, _, Try.func38, by kernel_rfl, rfl⟩) (by simp only [List.map_toArray, List.map_cons, List.map_nil, e34, e36]) (call38w N T L (hds 1).b (hds 1).c (hds 3).b (hds 3).c HS DS W hTl hDl hT0 hT1 hk hVd m34.1 m34.2 m36.1 m36.2) ?_
      rintro e w' ⟨g, cap, rfl, hn, hl, hg, hb'⟩
      exact ⟨_, rfl, HK.out ⟨g, cap, 0, 0, none⟩ _ hb' ⟨hn, hg⟩ (bd_one hl hg)⟩
    | 5, _ =>
      obtain ⟨ty, pos, aft, e, hdp⟩ := iop5
      rw [e] at ho
      obtain rfl := Option.some.inj ho
      intro a' hds W K hB lq ld hmem hK
      have e37 : a'.eval (.tmp 37) = .tuple #[.slice (some ⟨(hds 4).b, 0, none⟩) L (hds 4).c, .int .i64 0] := by rw [eval_tmp]; exact ld 4 37 (List.all_eq_true.1 hdp 4 (by decide)) rfl
      have t37 := (eval_tmp a' 37).symm.trans e37
      have HK := Lib.hid (show K (a'.put (some 32) (.tuple #[.slice (some ⟨(hds 4).b, 0, none⟩) L (hds 4).c, .int .i64 0])) W from hK W (Below.refl _ _) trivial)
      clear hK ld lq hmem
      unfold Oper.wp
      simp only [execOp, e37]
      exact HK.out
    | 6, _ =>
      obtain ⟨ty, pos, aft, e, hdp⟩ := iop6
      rw [e] at ho
      obtain rfl := Option.some.inj ho
      intro a' hds W K hB lq ld hmem hK
      have e32 : a'.eval (.tmp 32) = .tuple #[.slice (some ⟨(hds 4).b, 0, none⟩) L (hds 4).c, .int .i64 0] := by rw [eval_tmp]; exact ld 5 32 (List.all_eq_true.1 hdp 5 (by decide)) rfl
      have t32 := (eval_tmp a' 32).symm.trans e32
      have HK := Lib.hid (show K (a'.put (some 38) (.slice (some ⟨(hds 4).b, 0, none⟩) L (hds 4).c)) W from hK W (Below.refl _ _) trivial)
      clear hK ld lq hmem
      unfold Oper.wp
      simp only [execOp, e32]
      exact HK.out
    | 7, _ =>
      obtain ⟨ty, pos, aft, e, hdp⟩ := iop7
      rw [e] at ho
      obtain rfl := Option.some.inj ho
      intro a' hds W K hB lq ld hmem hK
      have e32 : a'.eval (.tmp 32) = .tuple #[.slice (some ⟨(hds 4).b, 0, none⟩) L (hds 4).c, .int .i64 0] := by rw [eval_tmp]; exact ld 5 32 (List.all_eq_true.1 hdp 5 (by decide)) rfl
      have t32 := (eval_tmp a' 32).symm.trans e32
      have HK := Lib.hid (show K (a'.put (some 39) (.int .i64 0)) W from hK W (Below.refl _ _) trivial)
      clear hK ld lq hmem
      unfold Oper.wp
      simp only [execOp, e32]
      exact HK.out
    | 8, _ =>
      obtain ⟨ty, pos, aft, e, hdp⟩ := iop8
      rw [e] at ho
      obtain rfl := Option.some.inj ho
      intro a' hds W K hB lq ld hmem hK
      have e38 : a'.eval (.tmp 38) = .slice (some ⟨(hds 4).b, 0, none⟩) L (hds 4).c := by rw [eval_tmp]; exact ld 6 38 (List.all_eq_true.1 hdp 6 (by decide)) rfl
      have t38 := (eval_tmp a' 38).symm.trans e38
      have HK := Lib.hid (show K (a'.put (some 7) (.slice (some ⟨(hds 4).b, 0, none⟩) L (hds 4).c)) W from hK W (Below.refl _ _) trivial)
      clear hK ld lq hmem
      unfold Oper.wp
      simp only [execOp, e38]
      exact HK.out
    | 9, _ =>
      obtain ⟨ty, pos, aft, e, hdp⟩ := iop9
      rw [e] at ho
      obtain rfl := Option.some.inj ho
      intro a' hds W K hB lq ld hmem hK
      have e39 : a'.eval (.tmp 39) = .int .i64 0 := by rw [eval_tmp]; exact ld 7 39 (List.all_eq_true.1 hdp 7 (by decide)) rfl
      have t39 := (eval_tmp a' 39).symm.trans e39
      have HK := Lib.hid (show K (a'.put (some 8) (.int .i64 0)) W from hK W (Below.refl _ _) trivial)
      clear hK ld lq hmem
      unfold Oper.wp
      simp only [execOp, e39]
      exact HK.out
    | i + 10, h => omega
  · intro hds v W hO
    have hfin := gend (hds 1).b (hds 1).c (hds 1).b2 (hds 1).c2 (hds 3).b (hds 3).c (hds 3).b2 (hds 3).c2 (hds 4).b (hds 4).c (hds 4).b2 (hds 4).c2 (hds 1).p (hds 3).p (hds 4).p (v 33) (v 34) (v 35) (v 36) (v 37) (v 32) (v 38) (v 39) W hO.b (hO.m 1 (by show 1 < 10; decide) rfl).1 (hO.m 1 (by show 1 < 10; decide) rfl).2 (hO.m 3 (by show 3 < 10; decide) rfl).1 (hO.m 3 (by show 3 < 10; decide) rfl).2 (hO.m 4 (by show 4 < 10; decide) rfl).1 (hO.m 4 (by show 4 < 10; decide) rfl).2
    rw [← laid_putL _ a v ?_] at hfin
    · exact hfin
    · intro p hp
      simp only [List.mem_cons, List.not_mem_nil, or_false] at hp
      rcases hp with rfl | rfl | rfl | rfl | rfl | rfl | rfl | rfl | rfl | rfl
      · rfl
      · rfl
      · rfl
      · rfl
      · rfl
      · rfl
      · rfl
      · rfl
      · exact hO.x 8 (show 8 < 10 by decide) 7 rfl
      · exact hO.x 9 (show 9 < 10 by decide) 8 rfl
end Go.Proofs.Ytdmgffoikebgkaa
