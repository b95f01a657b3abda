/- TieFew: its regions that draw their order; contracts. -/
import Derived.Test.YtdmgffoikebgkaaTb01
import Derived.Test.YtdmgffoikebgkaaTb02
import Derived.Test.YtdmgffoikebgkaaTb03
import Derived.Test.YtdmgffoikebgkaaTb04
import Derived.Test.YtdmgffoikebgkaaTb05
import Derived.Test.YtdmgffoikebgkaaTb06
import Derived.Test.YtdmgffoikebgkaaTb07
import Derived.Test.YtdmgffoikebgkaaTb08
import Derived.Test.YtdmgffoikebgkaaTb09
import Derived.Test.YtdmgffoikebgkaaTb10
import Derived.Test.YtdmgffoikebgkaaTb11
import Derived.Test.YtdmgffoikebgkaaTb12
import Derived.Test.YtdmgffoikebgkaaTb13
import Derived.Test.YtdmgffoikebgkaaTb14
import Derived.Test.YtdmgffoikebgkaaTb15
import Derived.Test.YtdmgffoikebgkaaTb16
import Derived.Test.YtdmgffoikebgkaaTb17
import Derived.Test.YtdmgffoikebgkaaTb18
import Derived.Test.YtdmgffoikebgkaaTb19
import Derived.Test.YtdmgffoikebgkaaTb20
import Derived.Test.YtdmgffoikebgkaaTj01
namespace Go.Proofs.Ytdmgffoikebgkaa
open Go.RowKit Go.Shelf
attribute [local go_sem] Oper.semAt_some

theorem call55 (T L M b c : Nat) (PS : List Nat) (SS : List ByteArray) (W : World) (hPl : PS.length = L) (hSl : SS.length = L) (hT0 : 1 ≤ T) (hT1 : T ≤ 96) (hL0 : 1 ≤ L) (hL1 : L ≤ 60) (hM : cntF (colL PS) T = M) (hM1 : M ≤ 24) (hCl : ClS SS T PS) (hx : StrsAt W b 0 SS) (hb : b < W.heap.size) :
    Calls Try.prog 55 #[.slice (some ⟨b, 0, none⟩) L c] W fun e w' =>
      ∃ g cap, e = .returned (.tuple #[.slice (some ⟨g, 0, none⟩) M cap, .int .i64 0]) ∧ NatsAt w' g 0 (apL (fewL PS T) M) ∧ W.heap.size ≤ g ∧ g < w'.heap.size ∧ Below W.heap.size W w' := by
  subst hM hPl
  exact Apart_any b 0 c T PS W (hCl.at hx hb) hL0 hL1 hT0 hT1 hM1
theorem call48m (N T L b c b2 c2 : Nat) (HS PS : List Nat) (SS : List ByteArray) (W : World) (hT : HS.length = T) (hPl : PS.length = L) (hT0 : 1 ≤ T) (hT1 : T ≤ 96) (hL0 : 0 < L) (hL6 : L ≤ 60) (hN0 : 1 ≤ N) (hN1 : N ≤ 24) (hk : ∀ i, i < T → nthN HS i < N) (hCl : ClS SS T PS) (hNP : ¬ NoPart HS PS)
    (h1 : NatsAt W b 0 HS) (h2 : b < W.heap.size) (h3 : StrsAt W b2 0 SS) (h4 : b2 < W.heap.size) :
    Calls Try.prog 48 #[.agg #[.int .i64 (N : Int), .slice (some ⟨b, 0, none⟩) T c], .slice (some ⟨b2, 0, none⟩) L c2] W fun e w' =>
      e = .returned (.tuple #[.agg #[.int .i64 0, .slice none 0 0], .int .i64 9]) ∧ Below W.heap.size W w' := by
  refine (Unweave_any N b 0 c b2 0 c2 T L HS PS W hT hPl (tat_of hT hT0 hT1 hN0 hN1 hk h1 h2) (hCl.at h3 h4) hL0 hL6).mono ?_
  rintro e w' (⟨hn, _⟩ | ⟨_, h⟩)
  · exact (hNP hn).elim
  · exact h
theorem call49m (N T L b c b2 c2 : Nat) (HS PS : List Nat) (SS : List ByteArray) (W : World) (hT : HS.length = T) (hPl : PS.length = L) (hT0 : 1 ≤ T) (hT1 : T ≤ 96) (hL0 : 0 < L) (hL6 : L ≤ 60) (hN0 : 1 ≤ N) (hN1 : N ≤ 24) (hk : ∀ i, i < T → nthN HS i < N) (hCl : ClS SS T PS) (hNP : ¬ NoPart HS PS)
    (h1 : NatsAt W b 0 HS) (h2 : b < W.heap.size) (h3 : StrsAt W b2 0 SS) (h4 : b2 < W.heap.size) :
    Calls Try.prog 49 #[.agg #[.int .i64 (N : Int), .slice (some ⟨b, 0, none⟩) T c], .slice (some ⟨b2, 0, none⟩) L c2] W fun e w' =>
      ∃ p q o : Nat, e = .returned (.tuple #[.int .i64 (p : Int), .int .i64 (q : Int), .int .i64 (o : Int), .int .i64 0]) ∧ Below W.heap.size W w' := by
  refine (Part_any N b 0 c b2 0 c2 T L HS PS W hT hPl (tat_of hT hT0 hT1 hN0 hN1 hk h1 h2) (hCl.at h3 h4) hL0 hL6).mono ?_
  rintro e w' ⟨⟨hn, _⟩ | ⟨p, q, _, he⟩, hb⟩
  · exact (hNP hn).elim
  · exact ⟨p, q, _, he, hb⟩
/-- what TieFew has in memory behind Fewest and Apart -/
structure FwS (w : World) (P D g2 q2 E gh qh N L T A0 A1 : Nat) (DS HS : List Nat) (gc : Nat) (SS : List ByteArray) (gp : Nat) (AP : List Nat) (E9 g9 q9 E10 g10 q10 M : Nat) (FW DW : List Nat) (W : World) : Prop where
  s : TtS w P D g2 q2 E gh qh N L T A0 A1 DS HS W
  c : StrsAt W gc 0 SS
  lc : gc < W.heap.size
  p : NatL W gp AP
  e9 : BoxAt W E9 #[.int .i64 (M : Int), .slice (some ⟨g9, 0, none⟩) T q9] 26
  n9 : NatL W g9 FW
  e10 : BoxAt W E10 #[.int .i64 (M : Int), .slice (some ⟨g10, 0, none⟩) L q10] 37
  n10 : NatL W g10 DW
theorem FwS.next {w W W' : World} {P D g2 q2 E gh qh N L T A0 A1 : Nat} {DS HS : List Nat} {gc : Nat} {SS : List ByteArray} {gp : Nat} {AP : List Nat} {E9 g9 q9 E10 g10 q10 M : Nat} {FW DW : List Nat} (h : FwS w P D g2 q2 E gh qh N L T A0 A1 DS HS gc SS gp AP E9 g9 q9 E10 g10 q10 M FW DW W) (hb : Below W.heap.size W W') : FwS w P D g2 q2 E gh qh N L T A0 A1 DS HS gc SS gp AP E9 g9 q9 E10 g10 q10 M FW DW W' :=
  ⟨h.s.next hb, h.c.below hb h.lc, Nat.lt_of_lt_of_le h.lc hb.size, h.p.next hb, h.e9.next hb, h.n9.next hb, h.e10.next hb, h.n10.next hb⟩
theorem NatL.at {W : World} {g : Nat} {xs : List Nat} (h : NatL W g xs) {B j : Nat} (v : Value) (hne : g ≠ B) : NatL (W.setCell ⟨B, j, none⟩ v) g xs :=
  ⟨fun i hi => (World.cell?_of_block (w := W) (Below.heap_setCell W ⟨B, j, none⟩ v g hne)).trans (h.at' i hi), by simpa using h.lt⟩
theorem FwS.at {w W : World} {P D g2 q2 E gh qh N L T A0 A1 : Nat} {DS HS : List Nat} {gc : Nat} {SS : List ByteArray} {gp : Nat} {AP : List Nat} {E9 g9 q9 E10 g10 q10 M : Nat} {FW DW : List Nat} (h : FwS w P D g2 q2 E gh qh N L T A0 A1 DS HS gc SS gp AP E9 g9 q9 E10 g10 q10 M FW DW W) {B j : Nat} (v : Value) (hB : w.heap.size ≤ B ∧ P < B ∧ D < B ∧ E < B ∧ g2 < B ∧ gh < B ∧ gc < B ∧ gp < B ∧ E9 < B ∧ g9 < B ∧ E10 < B ∧ g10 < B) : FwS w P D g2 q2 E gh qh N L T A0 A1 DS HS gc SS gp AP E9 g9 q9 E10 g10 q10 M FW DW (W.setCell ⟨B, j, none⟩ v) := by
  obtain ⟨h0, h1, h2, h3, h4, h5, h6, h7, h8, h9, h10, h11⟩ := hB
  exact ⟨h.s.set v h0 h1 h2 h3 h4 h5, fun i hi => (World.cell?_of_block (w := W) (Below.heap_setCell W ⟨B, j, none⟩ v gc (by show gc ≠ B; omega))).trans (h.c i hi), by simpa using h.lc,
    h.p.at v (by omega), h.e9.other _ _ (by show E9 ≠ B; omega), h.n9.at v (by omega), h.e10.other _ _ (by show E10 ≠ B; omega), h.n10.at v (by omega)⟩
theorem FwS.ord {w W : World} {P D g2 q2 E gh qh N L T A0 A1 : Nat} {DS HS : List Nat} {gc : Nat} {SS : List ByteArray} {gp : Nat} {AP : List Nat} {E9 g9 q9 E10 g10 q10 M : Nat} {FW DW : List Nat} (h : FwS w P D g2 q2 E gh qh N L T A0 A1 DS HS gc SS gp AP E9 g9 q9 E10 g10 q10 M FW DW W) {B : Nat} (hB : W.heap.size ≤ B) : w.heap.size ≤ B ∧ P < B ∧ D < B ∧ E < B ∧ g2 < B ∧ gh < B ∧ gc < B ∧ gp < B ∧ E9 < B ∧ g9 < B ∧ E10 < B ∧ g10 < B :=
  ⟨Nat.le_trans h.s.b.size hB, Nat.lt_of_lt_of_le h.s.p.lt hB, Nat.lt_of_lt_of_le h.s.d.lt hB, Nat.lt_of_lt_of_le h.s.e.lt hB, Nat.lt_of_lt_of_le h.s.l2 hB, Nat.lt_of_lt_of_le h.s.lh hB, Nat.lt_of_lt_of_le h.lc hB, Nat.lt_of_lt_of_le h.p.lt hB, Nat.lt_of_lt_of_le h.e9.lt hB, Nat.lt_of_lt_of_le h.n9.lt hB, Nat.lt_of_lt_of_le h.e10.lt hB, Nat.lt_of_lt_of_le h.n10.lt hB⟩
def region_tf1U : List (List Nat) := [[], [1], [], [3], [4], [5], [1, 4], [3, 5]]
def region_tf1X (_Z N T L : Nat) (V0 V1 V2 : Value) (_HS _DS : List Nat) : Nat → (Nat → Hd) → Value
  | 0, _ => .agg #[V0, V1, V2]
  | 1, hds => .agg #[.int .i64 (N : Int), .slice (some ⟨(hds 1).b, 0, none⟩) T (hds 1).c]
  | 2, _ => .agg #[V0, V1, V2]
  | 3, hds => .agg #[.int .i64 (N : Int), .slice (some ⟨(hds 3).b, 0, none⟩) L (hds 3).c]
  | 4, hds => .pointer (some ⟨(hds 4).b, 0, none⟩)
  | 5, hds => .pointer (some ⟨(hds 5).b, 0, none⟩)
  | 6, _ => undef
  | 7, _ => undef
  | _ + 8, _ => undef
theorem region_tf1X.congr (Z N T L : Nat) (V0 V1 V2 : Value) (HS DS : List Nat) : ∀ i hds hds', (∀ r ∈ uOf region_tf1U i, hds r = hds' r) → region_tf1X Z N T L V0 V1 V2 HS DS i hds = region_tf1X Z N T L V0 V1 V2 HS DS i hds'
  | 0, _, _, _ => rfl
  | 1, hds, hds', h => by simp only [region_tf1X, h 1 (show 1 ∈ uOf region_tf1U 1 by decide)]
  | 2, _, _, _ => rfl
  | 3, hds, hds', h => by simp only [region_tf1X, h 3 (show 3 ∈ uOf region_tf1U 3 by decide)]
  | 4, hds, hds', h => by simp only [region_tf1X, h 4 (show 4 ∈ uOf region_tf1U 4 by decide)]
  | 5, hds, hds', h => by simp only [region_tf1X, h 5 (show 5 ∈ uOf region_tf1U 5 by decide)]
  | 6, _, _, _ => rfl
  | 7, _, _, _ => rfl
  | _ + 8, _, _, _ => rfl
def region_tf1M (_Z _N _T _L : Nat) (_V0 _V1 _V2 : Value) (HS DS : List Nat) : Nat → Mem
  | 1 => memNats HS
  | 3 => memNats DS
  | 4 => memBox 2 26
  | 5 => memBox 2 37
  | _ => memNone
def region_tf1S (_Z N T L : Nat) (_V0 _V1 _V2 : Value) (_HS _DS : List Nat) : Nat → Option Sto
  | 6 => some ⟨4, 26, fun hds => #[.int .i64 (N : Int), .slice (some ⟨(hds 1).b, 0, none⟩) T (hds 1).c]⟩
  | 7 => some ⟨5, 37, fun hds => #[.int .i64 (N : Int), .slice (some ⟨(hds 3).b, 0, none⟩) L (hds 3).c]⟩
  | _ => none
set_option maxRecDepth 8000 in
set_option maxHeartbeats 2000000 in
theorem region_tf1 {id : Nat} {ops : Array Oper} {Q : Exit → Act → World → Prop} {a : Act} {w : World} (Z N T L : Nat) (V0 V1 V2 : Value) (HS DS : List Nat) (H63 : ∀ W, Below w.heap.size w W → Calls Try.prog 63 #[.agg #[V0, V1, V2]] W (MadeL N T HS W)) (H64 : ∀ W, Below w.heap.size w W → Calls Try.prog 64 #[.agg #[V0, V1, V2]] W (MadeL N L DS W)) (hZ : BoxAt w Z #[V0, V1, V2] 92)
    (gsize : ops.size = 8)
    (gops : IsOp ops 0 (some 30) (.load 92 (.tmp 2)) none [] ∧ IsOp ops 1 (some 31) (.call { callee := .value (.func 63), args := #[.tmp 30], argTypes := #[92] }) none [0] ∧ IsOp ops 2 (some 32) (.load 92 (.tmp 2)) none [] ∧ IsOp ops 3 (some 33) (.call { callee := .value (.func 64), args := #[.tmp 32], argTypes := #[92] }) none [2] ∧ IsOp ops 4 (some 5) (.alloc 26) none [] ∧ IsOp ops 5 (some 6) (.alloc 37) none [] ∧ IsOp ops 6 none (.store 26 (.tmp 5) (.tmp 31)) none [1, 4] ∧ IsOp ops 7 none (.store 37 (.tmp 6) (.tmp 33)) none [3, 5])
    (gbk : backB ops = true) (gds : dstsB ops (dOf [some 30, some 31, some 32, some 33, some 5, some 6, none, none]) = true) (gus : useB ops (uOf region_tf1U) (kOf [0, 1, 0, 1, 1, 1, 6, 7]) = true) (ggd : plainB ops = true) (gsz : ∀ e ∈ [30, 31, 32, 33, 5, 6], e < a.tmps.size)
    (gout : a.eval (.tmp 2) = .pointer (some ⟨Z, 0, none⟩))
    (gend : ∀ (g31 q31 G31 Q31 g33 q33 G33 Q33 g5 q5 G5 Q5 g6 q6 G6 Q6 : Nat) (P31 P33 P5 P6 : Option Addr) (u30 u31 u32 u33 : Value) (W : World), Below w.heap.size w W → (memNats HS).P ⟨g31, q31, G31, Q31, P31⟩ W → (∀ b ∈ (memNats HS).bl ⟨g31, q31, G31, Q31, P31⟩, w.heap.size ≤ b ∧ b < W.heap.size) → (memNats DS).P ⟨g33, q33, G33, Q33, P33⟩ W → (∀ b ∈ (memNats DS).bl ⟨g33, q33, G33, Q33, P33⟩, w.heap.size ≤ b ∧ b < W.heap.size) → w.heap.size ≤ g5 → g5 < W.heap.size → w.heap.size ≤ g6 → g6 < W.heap.size → BoxAt W g5 #[.int .i64 (N : Int), .slice (some ⟨g31, 0, none⟩) T q31] 26 → BoxAt W g6 #[.int .i64 (N : Int), .slice (some ⟨g33, 0, none⟩) L q33] 37 → Q .normal (putL a [(30, u30), (31, u31), (32, u32), (33, u33), (5, .pointer (some ⟨g5, 0, none⟩)), (6, .pointer (some ⟨g6, 0, none⟩))]) W) :
    (Code.region id ops true).wp Try.prog Q a w := by
  obtain ⟨iop0, iop1, iop2, iop3, iop4, iop5, iop6, iop7⟩ := gops
  have o2 := gout
  refine region_all (RSp.of 8 [some 30, some 31, some 32, some 33, some 5, some 6, none, none] (fun _ => true) (region_tf1X Z N T L V0 V1 V2 HS DS) region_tf1U [0, 1, 0, 1, 1, 1, 6, 7] (region_tf1M Z N T L V0 V1 V2 HS DS) (region_tf1S Z N T L V0 V1 V2 HS DS)) [(2, .pointer (some ⟨Z, 0, none⟩))] [30, 31, 32, 33, 5, 6] (RSp.of_fit gsize.symm gbk gds gus ggd (by decide) ?_) (RSp.of_ok _ (region_tf1X.congr Z N T L V0 V1 V2 HS DS) ?_) gsz ?_ ?_ ?_
  · intro p hp
    have hp2 : p ∈ [(6, 4), (7, 5)] := hp
    simp only [List.mem_cons, List.not_mem_nil, or_false] at hp2
    rcases hp2 with rfl | rfl
    · refine ⟨rfl, (show 4 ∈ uOf region_tf1U 6 by decide), fun _ => rfl, fun j hj hm => ?_⟩
      match j, hj, hm with
      | 0, _, _ => rfl
      | 1, _, _ => rfl
      | 2, _, _ => rfl
      | 3, _, _ => rfl
      | 4, _, _ => rfl
      | 5, _, _ => rfl
      | 6, hj, _ => exact absurd rfl hj
      | 7, _, hm => exact absurd hm (by decide)
      | _ + 8, _, _ => rfl
    · refine ⟨rfl, (show 5 ∈ uOf region_tf1U 7 by decide), fun _ => rfl, fun j hj hm => ?_⟩
      match j, hj, hm with
      | 0, _, _ => rfl
      | 1, _, _ => rfl
      | 2, _, _ => rfl
      | 3, _, _ => rfl
      | 4, _, _ => rfl
      | 5, _, _ => rfl
      | 6, _, hm => exact absurd hm (by decide)
      | 7, hj, _ => exact absurd rfl hj
      | _ + 8, _, _ => rfl
  · intro i s hds
    match i, hds with
    | 0, hds => cases hds
    | 1, hds => cases hds
    | 2, hds => cases hds
    | 3, hds => cases hds
    | 4, hds => cases hds
    | 5, hds => cases hds
    | 6, hds =>
      obtain rfl := Option.some.inj hds
      refine ⟨(show 4 ∈ uOf region_tf1U 6 by decide), fun _ => rfl, fun hds hds' h => ?_⟩
      simp only [h 1 (show 1 ∈ uOf region_tf1U 6 by decide)]
    | 7, hds =>
      obtain rfl := Option.some.inj hds
      refine ⟨(show 5 ∈ uOf region_tf1U 7 by decide), fun _ => rfl, fun hds hds' h => ?_⟩
      simp only [h 3 (show 3 ∈ uOf region_tf1U 7 by decide)]
    | _ + 8, hds => cases hds
  · intro q hq
    simp only [List.mem_cons, List.not_mem_nil, or_false] at hq
    subst hq
    · exact ⟨o2, by simp⟩
  · intro i o ho _
    have hi : i < 8 := by rw [← gsize]; exact (Array.getElem?_eq_some_iff.1 ho).1
    match i, hi with
    | 0, _ =>
      obtain ⟨ty, pos, aft, e, hdp⟩ := iop0
      rw [e] at ho
      obtain rfl := Option.some.inj ho
      intro a' hds W K hB lq ld hmem hK
      have e2 : a'.eval (.tmp 2) = .pointer (some ⟨Z, 0, none⟩) := by rw [eval_tmp]; exact lq (2, .pointer (some ⟨Z, 0, none⟩)) (by simp)
      have t2 := (eval_tmp a' 2).symm.trans e2
      have HK := Lib.hid (show K (a'.put (some 30) (.agg #[V0, V1, V2])) W from hK W (Below.refl _ _) trivial)
      clear hK ld lq hmem
      have c0 := (hZ.next hB).cell' 0 rfl
      have c1 := (hZ.next hB).cell' 1 rfl
      have c2 := (hZ.next hB).cell' 2 rfl
      unfold Oper.wp
      simp only [execOp, e2]
      go_simp
      exact HK.out
    | 1, _ =>
      obtain ⟨ty, pos, aft, e, hdp⟩ := iop1
      rw [e] at ho
      obtain rfl := Option.some.inj ho
      intro a' hds W K hB lq ld hmem hK
      have e30 : a'.eval (.tmp 30) = .agg #[V0, V1, V2] := by rw [eval_tmp]; exact ld 0 30 (List.all_eq_true.1 hdp 0 (by decide)) rfl
      have t30 := (eval_tmp a' 30).symm.trans e30
      have HK := Lib.hid (show ∀ hh W', Below W.heap.size W W' → (memNats HS).P hh W' → (∀ b ∈ (memNats HS).bl hh, W.heap.size ≤ b ∧ b < W'.heap.size) → K (a'.put (some 31) (.agg #[.int .i64 (N : Int), .slice (some ⟨hh.b, 0, none⟩) T hh.c])) W' from fun hh W' h1 h2 h3 => by
        have h4 : K (a'.put (some 31) (region_tf1X Z N T L V0 V1 V2 HS DS 1 (updH hds 1 hh))) W' := hK hh W' h1 h2 h3 trivial
        simp only [region_tf1X, updH_same] at h4
        exact h4)
      clear hK ld lq hmem
      refine step_call (vals := #[.agg #[V0, V1, V2]]) (by exact ⟨_, _, Try.func63, by kernel_rfl, rfl⟩) (by simp only [List.map_toArray, List.map_cons, List.map_nil, e30]) (H63 W hB) ?_
      rintro e w' ⟨g, cap, rfl, hn, hl, hg, hb'⟩
      exact ⟨_, rfl, HK.out ⟨g, cap, 0, 0, none⟩ _ hb' ⟨hn, hg⟩ (bd_one hl hg)⟩
    | 2, _ =>
      obtain ⟨ty, pos, aft, e, hdp⟩ := iop2
      rw [e] at ho
      obtain rfl := Option.some.inj ho
      intro a' hds W K hB lq ld hmem hK
      have e2 : a'.eval (.tmp 2) = .pointer (some ⟨Z, 0, none⟩) := by rw [eval_tmp]; exact lq (2, .pointer (some ⟨Z, 0, none⟩)) (by simp)
      have t2 := (eval_tmp a' 2).symm.trans e2
      have HK := Lib.hid (show K (a'.put (some 32) (.agg #[V0, V1, V2])) W from hK W (Below.refl _ _) trivial)
      clear hK ld lq hmem
      have c0 := (hZ.next hB).cell' 0 rfl
      have c1 := (hZ.next hB).cell' 1 rfl
      have c2 := (hZ.next hB).cell' 2 rfl
      unfold Oper.wp
      simp only [execOp, e2]
      go_simp
      exact HK.out
    | 3, _ =>
      obtain ⟨ty, pos, aft, e, hdp⟩ := iop3
      rw [e] at ho
      obtain rfl := Option.some.inj ho
      intro a' hds W K hB lq ld hmem hK
      have e32 : a'.eval (.tmp 32) = .agg #[V0, V1, V2] := by rw [eval_tmp]; exact ld 2 32 (List.all_eq_true.1 hdp 2 (by decide)) rfl
      have t32 := (eval_tmp a' 32).symm.trans e32
      have HK := Lib.hid (show ∀ hh W', Below W.heap.size W W' → (memNats DS).P hh W' → (∀ b ∈ (memNats DS).bl hh, W.heap.size ≤ b ∧ b < W'.heap.size) → K (a'.put (some 33) (.agg #[.int .i64 (N : Int), .slice (some ⟨hh.b, 0, none⟩) L hh.c])) W' from fun hh W' h1 h2 h3 => by
        have h4 : K (a'.put (some 33) (region_tf1X Z N T L V0 V1 V2 HS DS 3 (updH hds 3 hh))) W' := hK hh W' h1 h2 h3 trivial
        simp only [region_tf1X, updH_same] at h4
        exact h4)
      clear hK ld lq hmem
      refine step_call (vals := #[.agg #[V0, V1, V2]]) (by exact ⟨_, _, Try.func64, by kernel_rfl, rfl⟩) (by simp only [List.map_toArray, List.map_cons, List.map_nil, e32]) (H64 W hB) ?_
      rintro e w' ⟨g, cap, rfl, hn, hl, hg, hb'⟩
      exact ⟨_, rfl, HK.out ⟨g, cap, 0, 0, none⟩ _ hb' ⟨hn, hg⟩ (bd_one hl hg)⟩
    | 4, _ =>
      obtain ⟨ty, pos, aft, e, hdp⟩ := iop4
      rw [e] at ho
      obtain rfl := Option.some.inj ho
      intro a' hds W K hB lq ld hmem hK
      have HK := Lib.hid (show ∀ hh W', Below W.heap.size W W' → (memBox 2 26).P hh W' → (∀ b ∈ (memBox 2 26).bl hh, W.heap.size ≤ b ∧ b < W'.heap.size) → K (a'.put (some 5) (.pointer (some ⟨hh.b, 0, none⟩))) W' from fun hh W' h1 h2 h3 => by
        have h4 : K (a'.put (some 5) (region_tf1X Z N T L V0 V1 V2 HS DS 4 (updH hds 4 hh))) W' := hK hh W' h1 h2 h3 trivial
        simp only [region_tf1X, updH_same] at h4
        exact h4)
      clear hK ld lq hmem
      have hfin := Lib.hid (HK.out ⟨W.heap.size, 0, 0, 0, none⟩ _ ((Below.refl _ _).alloc (Nat.le_refl _) (.cells #[.int .i64 0, .slice none 0 0] 26)) ⟨_, rfl, BoxAt.new W #[.int .i64 0, .slice none 0 0] 26⟩ (bd_one (Nat.le_refl _) (by simp)))
      clear HK
      unfold Oper.wp
      simp only [execOp]
      go_simp
      exact hfin.out
    | 5, _ =>
      obtain ⟨ty, pos, aft, e, hdp⟩ := iop5
      rw [e] at ho
      obtain rfl := Option.some.inj ho
      intro a' hds W K hB lq ld hmem hK
      have HK := Lib.hid (show ∀ hh W', Below W.heap.size W W' → (memBox 2 37).P hh W' → (∀ b ∈ (memBox 2 37).bl hh, W.heap.size ≤ b ∧ b < W'.heap.size) → K (a'.put (some 6) (.pointer (some ⟨hh.b, 0, none⟩))) W' from fun hh W' h1 h2 h3 => by
        have h4 : K (a'.put (some 6) (region_tf1X Z N T L V0 V1 V2 HS DS 5 (updH hds 5 hh))) W' := hK hh W' h1 h2 h3 trivial
        simp only [region_tf1X, updH_same] at h4
        exact h4)
      clear hK ld lq hmem
      have hfin := Lib.hid (HK.out ⟨W.heap.size, 0, 0, 0, none⟩ _ ((Below.refl _ _).alloc (Nat.le_refl _) (.cells #[.int .i64 0, .slice none 0 0] 37)) ⟨_, rfl, BoxAt.new W #[.int .i64 0, .slice none 0 0] 37⟩ (bd_one (Nat.le_refl _) (by simp)))
      clear HK
      unfold Oper.wp
      simp only [execOp]
      go_simp
      exact hfin.out
    | 6, _ =>
      obtain ⟨ty, pos, aft, e, hdp⟩ := iop6
      rw [e] at ho
      obtain rfl := Option.some.inj ho
      intro a' hds W K hB lq ld hmem hK
      have e5 : a'.eval (.tmp 5) = .pointer (some ⟨(hds 4).b, 0, none⟩) := by rw [eval_tmp]; exact ld 4 5 (List.all_eq_true.1 hdp 4 (by decide)) rfl
      have t5 := (eval_tmp a' 5).symm.trans e5
      have e31 : a'.eval (.tmp 31) = .agg #[.int .i64 (N : Int), .slice (some ⟨(hds 1).b, 0, none⟩) T (hds 1).c] := by rw [eval_tmp]; exact ld 1 31 (List.all_eq_true.1 hdp 1 (by decide)) rfl
      have t31 := (eval_tmp a' 31).symm.trans e31
      obtain ⟨⟨vs, hvs, hbx⟩, _⟩ := hmem 4 (show 4 ∈ uOf region_tf1U 6 by decide) (by decide)
      have hvl : vs.toList.length = 2 := by simpa using hvs
      obtain ⟨v0, v1, rfl⟩ : ∃ v0 v1, vs = #[v0, v1] := by
        cases vs with
        | mk l =>
          match l, hvl with
          | [v0, v1], _ => exact ⟨_, _, rfl⟩
      have HK := Lib.hid (show ∀ W', SetAt (hds 4).b W W' → (memBox 2 26).P (hds 4) W' → BoxAt W' (hds 4).b #[.int .i64 (N : Int), .slice (some ⟨(hds 1).b, 0, none⟩) T (hds 1).c] 26 → K a' W' from hK)
      clear hK ld lq hmem
      have hfin := Lib.hid (HK.out _ (((SetAt.refl (hds 4).b W).cell 0 (.int .i64 (N : Int))).cell 1 (.slice (some ⟨(hds 1).b, 0, none⟩) T (hds 1).c)) ⟨_, rfl, ((hbx).set 0 (.int .i64 (N : Int))).set 1 (.slice (some ⟨(hds 1).b, 0, none⟩) T (hds 1).c)⟩ (((hbx).set 0 (.int .i64 (N : Int))).set 1 (.slice (some ⟨(hds 1).b, 0, none⟩) T (hds 1).c)))
      have c0 := hbx.cell' 0 rfl
      have f0 := hbx.frozen 0
      have c1 := hbx.cell' 1 rfl
      have f1 := hbx.frozen 1
      have hlt := hbx.lt
      clear hbx hvl hvs HK
      generalize (hds 4).b = B at *
      unfold Oper.wp
      simp only [execOp, e5, e31]
      clear e5 e31
      go_simp
      exact hfin.out
    | 7, _ =>
      obtain ⟨ty, pos, aft, e, hdp⟩ := iop7
      rw [e] at ho
      obtain rfl := Option.some.inj ho
      intro a' hds W K hB lq ld hmem hK
      have e6 : a'.eval (.tmp 6) = .pointer (some ⟨(hds 5).b, 0, none⟩) := by rw [eval_tmp]; exact ld 5 6 (List.all_eq_true.1 hdp 5 (by decide)) rfl
      have t6 := (eval_tmp a' 6).symm.trans e6
      have e33 : a'.eval (.tmp 33) = .agg #[.int .i64 (N : Int), .slice (some ⟨(hds 3).b, 0, none⟩) L (hds 3).c] := by rw [eval_tmp]; exact ld 3 33 (List.all_eq_true.1 hdp 3 (by decide)) rfl
      have t33 := (eval_tmp a' 33).symm.trans e33
      obtain ⟨⟨vs, hvs, hbx⟩, _⟩ := hmem 5 (show 5 ∈ uOf region_tf1U 7 by decide) (by decide)
      have hvl : vs.toList.length = 2 := by simpa using hvs
      obtain ⟨v0, v1, rfl⟩ : ∃ v0 v1, vs = #[v0, v1] := by
        cases vs with
        | mk l =>
          match l, hvl with
          | [v0, v1], _ => exact ⟨_, _, rfl⟩
      have HK := Lib.hid (show ∀ W', SetAt (hds 5).b W W' → (memBox 2 37).P (hds 5) W' → BoxAt W' (hds 5).b #[.int .i64 (N : Int), .slice (some ⟨(hds 3).b, 0, none⟩) L (hds 3).c] 37 → K a' W' from hK)
      clear hK ld lq hmem
      have hfin := Lib.hid (HK.out _ (((SetAt.refl (hds 5).b W).cell 0 (.int .i64 (N : Int))).cell 1 (.slice (some ⟨(hds 3).b, 0, none⟩) L (hds 3).c)) ⟨_, rfl, ((hbx).set 0 (.int .i64 (N : Int))).set 1 (.slice (some ⟨(hds 3).b, 0, none⟩) L (hds 3).c)⟩ (((hbx).set 0 (.int .i64 (N : Int))).set 1 (.slice (some ⟨(hds 3).b, 0, none⟩) L (hds 3).c)))
      have c0 := hbx.cell' 0 rfl
      have f0 := hbx.frozen 0
      have c1 := hbx.cell' 1 rfl
      have f1 := hbx.frozen 1
      have hlt := hbx.lt
      clear hbx hvl hvs HK
      generalize (hds 5).b = B at *
      unfold Oper.wp
      simp only [execOp, e6, e33]
      clear e6 e33
      go_simp
      exact hfin.out
    | i + 8, h => omega
  · intro hds v W hO
    have hfin := gend (hds 1).b (hds 1).c (hds 1).b2 (hds 1).c2 (hds 3).b (hds 3).c (hds 3).b2 (hds 3).c2 (hds 4).b (hds 4).c (hds 4).b2 (hds 4).c2 (hds 5).b (hds 5).c (hds 5).b2 (hds 5).c2 (hds 1).p (hds 3).p (hds 4).p (hds 5).p (v 30) (v 31) (v 32) (v 33) W hO.b (hO.m 1 (by show 1 < 8; decide) rfl).1 (hO.m 1 (by show 1 < 8; decide) rfl).2 (hO.m 3 (by show 3 < 8; decide) rfl).1 (hO.m 3 (by show 3 < 8; decide) rfl).2 ((hO.m 4 (by show 4 < 8; decide) rfl).2 _ (by show _ ∈ [_]; simp)).1 ((hO.m 4 (by show 4 < 8; decide) rfl).2 _ (by show _ ∈ [_]; simp)).2 ((hO.m 5 (by show 5 < 8; decide) rfl).2 _ (by show _ ∈ [_]; simp)).1 ((hO.m 5 (by show 5 < 8; decide) rfl).2 _ (by show _ ∈ [_]; simp)).2 (hO.s 6 (by show 6 < 8; decide) rfl) (hO.s 7 (by show 7 < 8; decide) rfl)
    rw [← laid_putL _ a v ?_] at hfin
    · exact hfin
    · intro p hp
      simp only [List.mem_cons, List.not_mem_nil, or_false] at hp
      rcases hp with rfl | rfl | rfl | rfl | rfl | rfl
      · rfl
      · rfl
      · rfl
      · rfl
      · exact hO.x 4 (show 4 < 8 by decide) 5 rfl
      · exact hO.x 5 (show 5 < 8 by decide) 6 rfl
def region_tf2U : List (List Nat) := [[], [1], [], [3], [1, 3, 4], [1, 3, 4], [1, 3, 4], [1, 3, 4], [1, 3, 4], [1, 3, 4]]
def region_tf2X (N L g2 q2 _D gh qh _E T : Nat) (_DS _HS : List Nat) : Nat → (Nat → Hd) → Value
  | 0, _ => .agg #[.int .i64 (N : Int), .slice (some ⟨gh, 0, none⟩) T qh]
  | 1, hds => .agg #[.int .i64 (N : Int), .slice (some ⟨(hds 1).b, 0, none⟩) T (hds 1).c]
  | 2, _ => .agg #[.int .i64 (N : Int), .slice (some ⟨g2, 0, none⟩) L q2]
  | 3, hds => .agg #[.int .i64 (N : Int), .slice (some ⟨(hds 3).b, 0, none⟩) L (hds 3).c]
  | 4, hds => .tuple #[.slice (some ⟨(hds 4).b, 0, none⟩) L (hds 4).c, .int .i64 0]
  | 5, hds => .tuple #[.slice (some ⟨(hds 4).b, 0, none⟩) L (hds 4).c, .int .i64 0]
  | 6, hds => .slice (some ⟨(hds 4).b, 0, none⟩) L (hds 4).c
  | 7, _ => .int .i64 0
  | 8, hds => .slice (some ⟨(hds 4).b, 0, none⟩) L (hds 4).c
  | 9, _ => .int .i64 0
  | _ + 10, _ => undef
theorem region_tf2X.congr (N L g2 q2 D gh qh E T : Nat) (DS HS : List Nat) : ∀ i hds hds', (∀ r ∈ uOf region_tf2U i, hds r = hds' r) → region_tf2X N L g2 q2 D gh qh E T DS HS i hds = region_tf2X N L g2 q2 D gh qh E T DS HS i hds'
  | 0, _, _, _ => rfl
  | 1, hds, hds', h => by simp only [region_tf2X, h 1 (show 1 ∈ uOf region_tf2U 1 by decide)]
  | 2, _, _, _ => rfl
  | 3, hds, hds', h => by simp only [region_tf2X, h 3 (show 3 ∈ uOf region_tf2U 3 by decide)]
  | 4, hds, hds', h => by simp only [region_tf2X, h 4 (show 4 ∈ uOf region_tf2U 4 by decide)]
  | 5, hds, hds', h => by simp only [region_tf2X, h 4 (show 4 ∈ uOf region_tf2U 5 by decide)]
  | 6, hds, hds', h => by simp only [region_tf2X, h 4 (show 4 ∈ uOf region_tf2U 6 by decide)]
  | 7, _, _, _ => rfl
  | 8, hds, hds', h => by simp only [region_tf2X, h 4 (show 4 ∈ uOf region_tf2U 8 by decide)]
  | 9, _, _, _ => rfl
  | _ + 10, _, _, _ => rfl
def region_tf2M (_N _L _g2 _q2 _D _gh _qh _E _T : Nat) (DS HS : List Nat) : Nat → Mem
  | 1 => memNats HS
  | 3 => memNats DS
  | 4 => memStrs (clothS HS DS)
  | _ => memNone
def region_tf2S (_N _L _g2 _q2 _D _gh _qh _E _T : Nat) (_DS _HS : List Nat) : Nat → Option Sto
  | _ => none
set_option maxRecDepth 8000 in
set_option maxHeartbeats 2000000 in
theorem region_tf2 {id : Nat} {ops : Array Oper} {Q : Exit → Act → World → Prop} {a : Act} {w : World} (N L g2 q2 D gh qh E T : Nat) (DS HS : List Nat) (hDl : DS.length = L) (hVd : Valid N DS) (hn2 : NatsAt w g2 0 DS) (hg2 : g2 < w.heap.size) (hTl : HS.length = T) (hT0 : 1 ≤ T) (hT1 : T ≤ 96) (hn6 : NatsAt w gh 0 HS) (hg6 : gh < w.heap.size) (hk : ∀ i, i < T → nthN HS i < N) (hD : BoxAt w D #[.int .i64 (N : Int), .slice (some ⟨g2, 0, none⟩) L q2] 37) (hE : BoxAt w E #[.int .i64 (N : Int), .slice (some ⟨gh, 0, none⟩) T qh] 26)
    (gsize : ops.size = 10)
    (gops : IsOp ops 0 (some 35) (.load 26 (.tmp 5)) none [] ∧ IsOp ops 1 (some 36) (.call { callee := .value (.func 28), args := #[.tmp 35], argTypes := #[26] }) none [0] ∧ IsOp ops 2 (some 37) (.load 37 (.tmp 6)) none [] ∧ IsOp ops 3 (some 38) (.call { callee := .value (.func 37), args := #[.tmp 37], argTypes := #[37] }) none [2] ∧ IsOp ops 4 (some 39) (.call { callee := .value (.func 38), args := #[.tmp 36, .tmp 38], argTypes := #[26, 37] }) none [1, 3] ∧ IsOp ops 5 (some 34) (.move (.tmp 39)) none [4] ∧ IsOp ops 6 (some 40) (.extract (.tmp 34) 0) none [5] ∧ IsOp ops 7 (some 41) (.extract (.tmp 34) 1) none [5] ∧ IsOp ops 8 (some 7) (.assign (.tmp 40)) none [6] ∧ IsOp ops 9 (some 8) (.assign (.tmp 41)) none [7])
    (gbk : backB ops = true) (gds : dstsB ops (dOf [some 35, some 36, some 37, some 38, some 39, some 34, some 40, some 41, some 7, some 8]) = true) (gus : useB ops (uOf region_tf2U) (kOf [0, 1, 0, 1, 1, 0, 0, 0, 0, 0]) = true) (ggd : plainB ops = true) (gsz : ∀ e ∈ [35, 36, 37, 38, 39, 34, 40, 41, 7, 8], e < a.tmps.size)
    (gout : a.eval (.tmp 5) = .pointer (some ⟨E, 0, none⟩) ∧ a.eval (.tmp 6) = .pointer (some ⟨D, 0, none⟩))
    (gend : ∀ (g36 q36 G36 Q36 g38 q38 G38 Q38 g39 q39 G39 Q39 : Nat) (P36 P38 P39 : Option Addr) (u35 u36 u37 u38 u39 u34 u40 u41 : Value) (W : World), Below w.heap.size w W → (memNats HS).P ⟨g36, q36, G36, Q36, P36⟩ W → (∀ b ∈ (memNats HS).bl ⟨g36, q36, G36, Q36, P36⟩, w.heap.size ≤ b ∧ b < W.heap.size) → (memNats DS).P ⟨g38, q38, G38, Q38, P38⟩ W → (∀ b ∈ (memNats DS).bl ⟨g38, q38, G38, Q38, P38⟩, w.heap.size ≤ b ∧ b < W.heap.size) → (memStrs (clothS HS DS)).P ⟨g39, q39, G39, Q39, P39⟩ W → (∀ b ∈ (memStrs (clothS HS DS)).bl ⟨g39, q39, G39, Q39, P39⟩, w.heap.size ≤ b ∧ b < W.heap.size) → Q .normal (putL a [(35, u35), (36, u36), (37, u37), (38, u38), (39, u39), (34, u34), (40, u40), (41, u41), (7, .slice (some ⟨g39, 0, none⟩) L q39), (8, .int .i64 0)]) W) :
    (Code.region id ops true).wp Try.prog Q a w := by
  obtain ⟨iop0, iop1, iop2, iop3, iop4, iop5, iop6, iop7, iop8, iop9⟩ := gops
  obtain ⟨o5, o6⟩ := gout
  refine region_all (RSp.of 10 [some 35, some 36, some 37, some 38, some 39, some 34, some 40, some 41, some 7, some 8] (fun _ => true) (region_tf2X N L g2 q2 D gh qh E T DS HS) region_tf2U [0, 1, 0, 1, 1, 0, 0, 0, 0, 0] (region_tf2M N L g2 q2 D gh qh E T DS HS) (region_tf2S N L g2 q2 D gh qh E T DS HS)) [(5, .pointer (some ⟨E, 0, none⟩)), (6, .pointer (some ⟨D, 0, none⟩))] [35, 36, 37, 38, 39, 34, 40, 41, 7, 8] (RSp.of_fit gsize.symm gbk gds gus ggd (by decide) ?_) (RSp.of_ok _ (region_tf2X.congr N L g2 q2 D gh qh E T DS HS) ?_) gsz ?_ ?_ ?_
  · intro p hp
    have hp2 : p ∈ ([] : List (Nat × Nat)) := hp
    cases hp2
  · intro i s hds
    match i, hds with
    | 0, hds => cases hds
    | 1, hds => cases hds
    | 2, hds => cases hds
    | 3, hds => cases hds
    | 4, hds => cases hds
    | 5, hds => cases hds
    | 6, hds => cases hds
    | 7, hds => cases hds
    | 8, hds => cases hds
    | 9, hds => cases hds
    | _ + 10, hds => cases hds
  · intro q hq
    simp only [List.mem_cons, List.not_mem_nil, or_false] at hq
    rcases hq with rfl | rfl
    · exact ⟨o5, by simp⟩
    · exact ⟨o6, by simp⟩
  · intro i o ho _
    have hi : i < 10 := by rw [← gsize]; exact (Array.getElem?_eq_some_iff.1 ho).1
    match i, hi with
    | 0, _ =>
      obtain ⟨ty, pos, aft, e, hdp⟩ := iop0
      rw [e] at ho
      obtain rfl := Option.some.inj ho
      intro a' hds W K hB lq ld hmem hK
      have e5 : a'.eval (.tmp 5) = .pointer (some ⟨E, 0, none⟩) := by rw [eval_tmp]; exact lq (5, .pointer (some ⟨E, 0, none⟩)) (by simp)
      have t5 := (eval_tmp a' 5).symm.trans e5
      have HK := Lib.hid (show K (a'.put (some 35) (.agg #[.int .i64 (N : Int), .slice (some ⟨gh, 0, none⟩) T qh])) W from hK W (Below.refl _ _) trivial)
      clear hK ld lq hmem
      have c0 := (hE.next hB).cell' 0 rfl
      have c1 := (hE.next hB).cell' 1 rfl
      unfold Oper.wp
      simp only [execOp, e5]
      go_simp
      exact HK.out
    | 1, _ =>
      obtain ⟨ty, pos, aft, e, hdp⟩ := iop1
      rw [e] at ho
      obtain rfl := Option.some.inj ho
      intro a' hds W K hB lq ld hmem hK
      have e35 : a'.eval (.tmp 35) = .agg #[.int .i64 (N : Int), .slice (some ⟨gh, 0, none⟩) T qh] := by rw [eval_tmp]; exact ld 0 35 (List.all_eq_true.1 hdp 0 (by decide)) rfl
      have t35 := (eval_tmp a' 35).symm.trans e35
      have HK := Lib.hid (show ∀ hh W', Below W.heap.size W W' → (memNats HS).P hh W' → (∀ b ∈ (memNats HS).bl hh, W.heap.size ≤ b ∧ b < W'.heap.size) → K (a'.put (some 36) (.agg #[.int .i64 (N : Int), .slice (some ⟨hh.b, 0, none⟩) T hh.c])) W' from fun hh W' h1 h2 h3 => by
        have h4 : K (a'.put (some 36) (region_tf2X N L g2 q2 D gh qh E T DS HS 1 (updH hds 1 hh))) W' := hK hh W' h1 h2 h3 trivial
        simp only [region_tf2X, updH_same] at h4
        exact h4)
      clear hK ld lq hmem
      refine step_call (vals := #[.agg #[.int .i64 (N : Int), .slice (some ⟨gh, 0, none⟩) T qh]]) (by exact ⟨_, _, Try.func28, by kernel_rfl, rfl⟩) (by simp only [List.map_toArray, List.map_cons, List.map_nil, e35]) (call28 N T gh qh HS W hTl hT0 hT1 (hn6.below hB hg6) (Nat.lt_of_lt_of_le hg6 hB.size)) ?_
      rintro e w' ⟨g, cap, rfl, hn, hl, hg, hb'⟩
      exact ⟨_, rfl, HK.out ⟨g, cap, 0, 0, none⟩ _ hb' ⟨hn, hg⟩ (bd_one hl hg)⟩
    | 2, _ =>
      obtain ⟨ty, pos, aft, e, hdp⟩ := iop2
      rw [e] at ho
      obtain rfl := Option.some.inj ho
      intro a' hds W K hB lq ld hmem hK
      have e6 : a'.eval (.tmp 6) = .pointer (some ⟨D, 0, none⟩) := by rw [eval_tmp]; exact lq (6, .pointer (some ⟨D, 0, none⟩)) (by simp)
      have t6 := (eval_tmp a' 6).symm.trans e6
      have HK := Lib.hid (show K (a'.put (some 37) (.agg #[.int .i64 (N : Int), .slice (some ⟨g2, 0, none⟩) L q2])) W from hK W (Below.refl _ _) trivial)
      clear hK ld lq hmem
      have c0 := (hD.next hB).cell' 0 rfl
      have c1 := (hD.next hB).cell' 1 rfl
      unfold Oper.wp
      simp only [execOp, e6]
      go_simp
      exact HK.out
    | 3, _ =>
      obtain ⟨ty, pos, aft, e, hdp⟩ := iop3
      rw [e] at ho
      obtain rfl := Option.some.inj ho
      intro a' hds W K hB lq ld hmem hK
      have e37 : a'.eval (.tmp 37) = .agg #[.int .i64 (N : Int), .slice (some ⟨g2, 0, none⟩) L q2] := by rw [eval_tmp]; exact ld 2 37 (List.all_eq_true.1 hdp 2 (by decide)) rfl
      have t37 := (eval_tmp a' 37).symm.trans e37
      have HK := Lib.hid (show ∀ hh W', Below W.heap.size W W' → (memNats DS).P hh W' → (∀ b ∈ (memNats DS).bl hh, W.heap.size ≤ b ∧ b < W'.heap.size) → K (a'.put (some 38) (.agg #[.int .i64 (N : Int), .slice (some ⟨hh.b, 0, none⟩) L hh.c])) W' from fun hh W' h1 h2 h3 => by
        have h4 : K (a'.put (some 38) (region_tf2X N L g2 q2 D gh qh E T DS HS 3 (updH hds 3 hh))) W' := hK hh W' h1 h2 h3 trivial
        simp only [region_tf2X, updH_same] at h4
        exact h4)
      clear hK ld lq hmem
      refine step_call (vals := #[.agg #[.int .i64 (N : Int), .slice (some ⟨g2, 0, none⟩) L q2]]) (by exact ⟨_, _, Try.func37, by kernel_rfl, rfl⟩) (by simp only [List.map_toArray, List.map_cons, List.map_nil, e37]) (call37 N L g2 q2 DS W hDl hVd (hn2.below hB hg2) (Nat.lt_of_lt_of_le hg2 hB.size)) ?_
      rintro e w' ⟨g, cap, rfl, hn, hl, hg, hb'⟩
      exact ⟨_, rfl, HK.out ⟨g, cap, 0, 0, none⟩ _ hb' ⟨hn, hg⟩ (bd_one hl hg)⟩
    | 4, _ =>
      obtain ⟨ty, pos, aft, e, hdp⟩ := iop4
      rw [e] at ho
      obtain rfl := Option.some.inj ho
      intro a' hds W K hB lq ld hmem hK
      have e36 : a'.eval (.tmp 36) = .agg #[.int .i64 (N : Int), .slice (some ⟨(hds 1).b, 0, none⟩) T (hds 1).c] := by rw [eval_tmp]; exact ld 1 36 (List.all_eq_true.1 hdp 1 (by decide)) rfl
      have t36 := (eval_tmp a' 36).symm.trans e36
      have e38 : a'.eval (.tmp 38) = .agg #[.int .i64 (N : Int), .slice (some ⟨(hds 3).b, 0, none⟩) L (hds 3).c] := by rw [eval_tmp]; exact ld 3 38 (List.all_eq_true.1 hdp 3 (by decide)) rfl
      have t38 := (eval_tmp a' 38).symm.trans e38
      have HK := Lib.hid (show ∀ hh W', Below W.heap.size W W' → (memStrs (clothS HS DS)).P hh W' → (∀ b ∈ (memStrs (clothS HS DS)).bl hh, W.heap.size ≤ b ∧ b < W'.heap.size) → K (a'.put (some 39) (.tuple #[.slice (some ⟨hh.b, 0, none⟩) L hh.c, .int .i64 0])) W' from fun hh W' h1 h2 h3 => by
        have h4 : K (a'.put (some 39) (region_tf2X N L g2 q2 D gh qh E T DS HS 4 (updH hds 4 hh))) W' := hK hh W' h1 h2 h3 trivial
        simp only [region_tf2X, updH_same] at h4
        exact h4)
      have m36   := (hmem 1 (show 1 ∈ uOf region_tf2U 4 by decide) (by decide)).1
      have m38   := (hmem 3 (show 3 ∈ uOf region_tf2U 4 by decide) (by decide)).1
      clear hK ld lq hmem
      refine step_call (vals := #[.agg #[.int .i64 (N : Int), .slice (some ⟨(hds 1).b, 0, none⟩) T (hds 1).c], .agg #[.int .i64 (N : Int), .slice (some ⟨(hds 3).b, 0, none⟩) L (hds 3).c]]) (by exact ⟨_, _, Try.func38, by kernel_rfl, rfl⟩) (by simp only [List.map_toArray, List.map_cons, List.map_nil, e36, e38]) (call38 N T L (hds 1).b (hds 1).c (hds 3).b (hds 3).c HS DS W hTl hDl hT0 hT1 hk hVd m36.1 m36.2 m38.1 m38.2) ?_
      rintro e w' ⟨g, cap, rfl, hn, hl, hg, hb'⟩
      exact ⟨_, rfl, HK.out ⟨g, cap, 0, 0, none⟩ _ hb' ⟨hn, hg⟩ (bd_one hl hg)⟩
    | 5, _ =>
      obtain ⟨ty, pos, aft, e, hdp⟩ := iop5
      rw [e] at ho
      obtain rfl := Option.some.inj ho
      intro a' hds W K hB lq ld hmem hK
      have e39 : a'.eval (.tmp 39) = .tuple #[.slice (some ⟨(hds 4).b, 0, none⟩) L (hds 4).c, .int .i64 0] := by rw [eval_tmp]; exact ld 4 39 (List.all_eq_true.1 hdp 4 (by decide)) rfl
      have t39 := (eval_tmp a' 39).symm.trans e39
      have HK := Lib.hid (show K (a'.put (some 34) (.tuple #[.slice (some ⟨(hds 4).b, 0, none⟩) L (hds 4).c, .int .i64 0])) W from hK W (Below.refl _ _) trivial)
      clear hK ld lq hmem
      unfold Oper.wp
      simp only [execOp, e39]
      exact HK.out
    | 6, _ =>
      obtain ⟨ty, pos, aft, e, hdp⟩ := iop6
      rw [e] at ho
      obtain rfl := Option.some.inj ho
      intro a' hds W K hB lq ld hmem hK
      have e34 : a'.eval (.tmp 34) = .tuple #[.slice (some ⟨(hds 4).b, 0, none⟩) L (hds 4).c, .int .i64 0] := by rw [eval_tmp]; exact ld 5 34 (List.all_eq_true.1 hdp 5 (by decide)) rfl
      have t34 := (eval_tmp a' 34).symm.trans e34
      have HK := Lib.hid (show K (a'.put (some 40) (.slice (some ⟨(hds 4).b, 0, none⟩) L (hds 4).c)) W from hK W (Below.refl _ _) trivial)
      clear hK ld lq hmem
      unfold Oper.wp
      simp only [execOp, e34]
      exact HK.out
    | 7, _ =>
      obtain ⟨ty, pos, aft, e, hdp⟩ := iop7
      rw [e] at ho
      obtain rfl := Option.some.inj ho
      intro a' hds W K hB lq ld hmem hK
      have e34 : a'.eval (.tmp 34) = .tuple #[.slice (some ⟨(hds 4).b, 0, none⟩) L (hds 4).c, .int .i64 0] := by rw [eval_tmp]; exact ld 5 34 (List.all_eq_true.1 hdp 5 (by decide)) rfl
      have t34 := (eval_tmp a' 34).symm.trans e34
      have HK := Lib.hid (show K (a'.put (some 41) (.int .i64 0)) W from hK W (Below.refl _ _) trivial)
      clear hK ld lq hmem
      unfold Oper.wp
      simp only [execOp, e34]
      exact HK.out
    | 8, _ =>
      obtain ⟨ty, pos, aft, e, hdp⟩ := iop8
      rw [e] at ho
      obtain rfl := Option.some.inj ho
      intro a' hds W K hB lq ld hmem hK
      have e40 : a'.eval (.tmp 40) = .slice (some ⟨(hds 4).b, 0, none⟩) L (hds 4).c := by rw [eval_tmp]; exact ld 6 40 (List.all_eq_true.1 hdp 6 (by decide)) rfl
      have t40 := (eval_tmp a' 40).symm.trans e40
      have HK := Lib.hid (show K (a'.put (some 7) (.slice (some ⟨(hds 4).b, 0, none⟩) L (hds 4).c)) W from hK W (Below.refl _ _) trivial)
      clear hK ld lq hmem
      unfold Oper.wp
      simp only [execOp, e40]
      exact HK.out
    | 9, _ =>
      obtain ⟨ty, pos, aft, e, hdp⟩ := iop9
      rw [e] at ho
      obtain rfl := Option.some.inj ho
      intro a' hds W K hB lq ld hmem hK
      have e41 : a'.eval (.tmp 41) = .int .i64 0 := by rw [eval_tmp]; exact ld 7 41 (List.all_eq_true.1 hdp 7 (by decide)) rfl
      have t41 := (eval_tmp a' 41).symm.trans e41
      have HK := Lib.hid (show K (a'.put (some 8) (.int .i64 0)) W from hK W (Below.refl _ _) trivial)
      clear hK ld lq hmem
      unfold Oper.wp
      simp only [execOp, e41]
      exact HK.out
    | i + 10, h => omega
  · intro hds v W hO
    have hfin := gend (hds 1).b (hds 1).c (hds 1).b2 (hds 1).c2 (hds 3).b (hds 3).c (hds 3).b2 (hds 3).c2 (hds 4).b (hds 4).c (hds 4).b2 (hds 4).c2 (hds 1).p (hds 3).p (hds 4).p (v 35) (v 36) (v 37) (v 38) (v 39) (v 34) (v 40) (v 41) W hO.b (hO.m 1 (by show 1 < 10; decide) rfl).1 (hO.m 1 (by show 1 < 10; decide) rfl).2 (hO.m 3 (by show 3 < 10; decide) rfl).1 (hO.m 3 (by show 3 < 10; decide) rfl).2 (hO.m 4 (by show 4 < 10; decide) rfl).1 (hO.m 4 (by show 4 < 10; decide) rfl).2
    rw [← laid_putL _ a v ?_] at hfin
    · exact hfin
    · intro p hp
      simp only [List.mem_cons, List.not_mem_nil, or_false] at hp
      rcases hp with rfl | rfl | rfl | rfl | rfl | rfl | rfl | rfl | rfl | rfl
      · rfl
      · rfl
      · rfl
      · rfl
      · rfl
      · rfl
      · rfl
      · rfl
      · exact hO.x 8 (show 8 < 10 by decide) 7 rfl
      · exact hO.x 9 (show 9 < 10 by decide) 8 rfl
def region_tf9U : List (List Nat) := [[], [1], [], [1, 3], [1, 3], [1, 3], [1, 3], [1, 3], [1, 3]]
def region_tf9X (N L g3 q3 _F gh qh _E T : Nat) (_VS _HS : List Nat) : Nat → (Nat → Hd) → Value
  | 0, _ => .agg #[.int .i64 (N : Int), .slice (some ⟨gh, 0, none⟩) T qh]
  | 1, hds => .agg #[.int .i64 (N : Int), .slice (some ⟨(hds 1).b, 0, none⟩) T (hds 1).c]
  | 2, _ => .agg #[.int .i64 (N : Int), .slice (some ⟨g3, 0, none⟩) L q3]
  | 3, hds => .tuple #[.slice (some ⟨(hds 3).b, 0, none⟩) L (hds 3).c, .int .i64 0]
  | 4, hds => .tuple #[.slice (some ⟨(hds 3).b, 0, none⟩) L (hds 3).c, .int .i64 0]
  | 5, hds => .slice (some ⟨(hds 3).b, 0, none⟩) L (hds 3).c
  | 6, _ => .int .i64 0
  | 7, hds => .slice (some ⟨(hds 3).b, 0, none⟩) L (hds 3).c
  | 8, _ => .int .i64 0
  | _ + 9, _ => undef
theorem region_tf9X.congr (N L g3 q3 F gh qh E T : Nat) (VS HS : List Nat) : ∀ i hds hds', (∀ r ∈ uOf region_tf9U i, hds r = hds' r) → region_tf9X N L g3 q3 F gh qh E T VS HS i hds = region_tf9X N L g3 q3 F gh qh E T VS HS i hds'
  | 0, _, _, _ => rfl
  | 1, hds, hds', h => by simp only [region_tf9X, h 1 (show 1 ∈ uOf region_tf9U 1 by decide)]
  | 2, _, _, _ => rfl
  | 3, hds, hds', h => by simp only [region_tf9X, h 3 (show 3 ∈ uOf region_tf9U 3 by decide)]
  | 4, hds, hds', h => by simp only [region_tf9X, h 3 (show 3 ∈ uOf region_tf9U 4 by decide)]
  | 5, hds, hds', h => by simp only [region_tf9X, h 3 (show 3 ∈ uOf region_tf9U 5 by decide)]
  | 6, _, _, _ => rfl
  | 7, hds, hds', h => by simp only [region_tf9X, h 3 (show 3 ∈ uOf region_tf9U 7 by decide)]
  | 8, _, _, _ => rfl
  | _ + 9, _, _, _ => rfl
def region_tf9M (_N _L _g3 _q3 _F _gh _qh _E _T : Nat) (VS HS : List Nat) : Nat → Mem
  | 1 => memNats HS
  | 3 => memStrs (clothS HS VS)
  | _ => memNone
def region_tf9S (_N _L _g3 _q3 _F _gh _qh _E _T : Nat) (_VS _HS : List Nat) : Nat → Option Sto
  | _ => none
set_option maxRecDepth 8000 in
set_option maxHeartbeats 2000000 in
theorem region_tf9 {id : Nat} {ops : Array Oper} {Q : Exit → Act → World → Prop} {a : Act} {w : World} (N L g3 q3 F gh qh E T : Nat) (VS HS : List Nat) (hVl : VS.length = L) (hVd : Valid N VS) (hn3 : NatsAt w g3 0 VS) (hg3 : g3 < w.heap.size) (hTl : HS.length = T) (hT0 : 1 ≤ T) (hT1 : T ≤ 96) (hn6 : NatsAt w gh 0 HS) (hg6 : gh < w.heap.size) (hk : ∀ i, i < T → nthN HS i < N) (hE : BoxAt w E #[.int .i64 (N : Int), .slice (some ⟨gh, 0, none⟩) T qh] 26) (hF : BoxAt w F #[.int .i64 (N : Int), .slice (some ⟨g3, 0, none⟩) L q3] 37)
    (gsize : ops.size = 9)
    (gops : IsOp ops 0 (some 103) (.load 26 (.tmp 9)) none [] ∧ IsOp ops 1 (some 104) (.call { callee := .value (.func 28), args := #[.tmp 103], argTypes := #[26] }) none [0] ∧ IsOp ops 2 (some 105) (.load 37 (.tmp 10)) none [] ∧ IsOp ops 3 (some 106) (.call { callee := .value (.func 38), args := #[.tmp 104, .tmp 105], argTypes := #[26, 37] }) none [1, 2] ∧ IsOp ops 4 (some 102) (.move (.tmp 106)) none [3] ∧ IsOp ops 5 (some 107) (.extract (.tmp 102) 0) none [4] ∧ IsOp ops 6 (some 108) (.extract (.tmp 102) 1) none [4] ∧ IsOp ops 7 (some 14) (.assign (.tmp 107)) none [5] ∧ IsOp ops 8 (some 15) (.assign (.tmp 108)) none [6])
    (gbk : backB ops = true) (gds : dstsB ops (dOf [some 103, some 104, some 105, some 106, some 102, some 107, some 108, some 14, some 15]) = true) (gus : useB ops (uOf region_tf9U) (kOf [0, 1, 0, 1, 0, 0, 0, 0, 0]) = true) (ggd : plainB ops = true) (gsz : ∀ e ∈ [103, 104, 105, 106, 102, 107, 108, 14, 15], e < a.tmps.size)
    (gout : a.eval (.tmp 9) = .pointer (some ⟨E, 0, none⟩) ∧ a.eval (.tmp 10) = .pointer (some ⟨F, 0, none⟩))
    (gend : ∀ (g104 q104 G104 Q104 g106 q106 G106 Q106 : Nat) (P104 P106 : Option Addr) (u103 u104 u105 u106 u102 u107 u108 : Value) (W : World), Below w.heap.size w W → (memNats HS).P ⟨g104, q104, G104, Q104, P104⟩ W → (∀ b ∈ (memNats HS).bl ⟨g104, q104, G104, Q104, P104⟩, w.heap.size ≤ b ∧ b < W.heap.size) → (memStrs (clothS HS VS)).P ⟨g106, q106, G106, Q106, P106⟩ W → (∀ b ∈ (memStrs (clothS HS VS)).bl ⟨g106, q106, G106, Q106, P106⟩, w.heap.size ≤ b ∧ b < W.heap.size) → Q .normal (putL a [(103, u103), (104, u104), (105, u105), (106, u106), (102, u102), (107, u107), (108, u108), (14, .slice (some ⟨g106, 0, none⟩) L q106), (15, .int .i64 0)]) W) :
    (Code.region id ops true).wp Try.prog Q a w := by
  obtain ⟨iop0, iop1, iop2, iop3, iop4, iop5, iop6, iop7, iop8⟩ := gops
  obtain ⟨o9, o10⟩ := gout
  refine region_all (RSp.of 9 [some 103, some 104, some 105, some 106, some 102, some 107, some 108, some 14, some 15] (fun _ => true) (region_tf9X N L g3 q3 F gh qh E T VS HS) region_tf9U [0, 1, 0, 1, 0, 0, 0, 0, 0] (region_tf9M N L g3 q3 F gh qh E T VS HS) (region_tf9S N L g3 q3 F gh qh E T VS HS)) [(9, .pointer (some ⟨E, 0, none⟩)), (10, .pointer (some ⟨F, 0, none⟩))] [103, 104, 105, 106, 102, 107, 108, 14, 15] (RSp.of_fit gsize.symm gbk gds gus ggd (by decide) ?_) (RSp.of_ok _ (region_tf9X.congr N L g3 q3 F gh qh E T VS HS) ?_) gsz ?_ ?_ ?_
  · intro p hp
    have hp2 : p ∈ ([] : List (Nat × Nat)) := hp
    cases hp2
  · intro i s hds
    match i, hds with
    | 0, hds => cases hds
    | 1, hds => cases hds
    | 2, hds => cases hds
    | 3, hds => cases hds
    | 4, hds => cases hds
    | 5, hds => cases hds
    | 6, hds => cases hds
    | 7, hds => cases hds
    | 8, hds => cases hds
    | _ + 9, hds => cases hds
  · intro q hq
    simp only [List.mem_cons, List.not_mem_nil, or_false] at hq
    rcases hq with rfl | rfl
    · exact ⟨o9, by simp⟩
    · exact ⟨o10, by simp⟩
  · intro i o ho _
    have hi : i < 9 := by rw [← gsize]; exact (Array.getElem?_eq_some_iff.1 ho).1
    match i, hi with
    | 0, _ =>
      obtain ⟨ty, pos, aft, e, hdp⟩ := iop0
      rw [e] at ho
      obtain rfl := Option.some.inj ho
      intro a' hds W K hB lq ld hmem hK
      have e9 : a'.eval (.tmp 9) = .pointer (some ⟨E, 0, none⟩) := by rw [eval_tmp]; exact lq (9, .pointer (some ⟨E, 0, none⟩)) (by simp)
      have t9 := (eval_tmp a' 9).symm.trans e9
      have HK := Lib.hid (show K (a'.put (some 103) (.agg #[.int .i64 (N : Int), .slice (some ⟨gh, 0, none⟩) T qh])) W from hK W (Below.refl _ _) trivial)
      clear hK ld lq hmem
      have c0 := (hE.next hB).cell' 0 rfl
      have c1 := (hE.next hB).cell' 1 rfl
      unfold Oper.wp
      simp only [execOp, e9]
      go_simp
      exact HK.out
    | 1, _ =>
      obtain ⟨ty, pos, aft, e, hdp⟩ := iop1
      rw [e] at ho
      obtain rfl := Option.some.inj ho
      intro a' hds W K hB lq ld hmem hK
      have e103 : a'.eval (.tmp 103) = .agg #[.int .i64 (N : Int), .slice (some ⟨gh, 0, none⟩) T qh] := by rw [eval_tmp]; exact ld 0 103 (List.all_eq_true.1 hdp 0 (by decide)) rfl
      have t103 := (eval_tmp a' 103).symm.trans e103
      have HK := Lib.hid (show ∀ hh W', Below W.heap.size W W' → (memNats HS).P hh W' → (∀ b ∈ (memNats HS).bl hh, W.heap.size ≤ b ∧ b < W'.heap.size) → K (a'.put (some 104) (.agg #[.int .i64 (N : Int), .slice (some ⟨hh.b, 0, none⟩) T hh.c])) W' from fun hh W' h1 h2 h3 => by
        have h4 : K (a'.put (some 104) (region_tf9X N L g3 q3 F gh qh E T VS HS 1 (updH hds 1 hh))) W' := hK hh W' h1 h2 h3 trivial
        simp only [region_tf9X, updH_same] at h4
        exact h4)
      clear hK ld lq hmem
      refine step_call (vals := #[.agg #[.int .i64 (N : Int), .slice (some ⟨gh, 0, none⟩) T qh]]) (by exact ⟨_, _, Try.func28, by kernel_rfl, rfl⟩) (by simp only [List.map_toArray, List.map_cons, List.map_nil, e103]) (call28 N T gh qh HS W hTl hT0 hT1 (hn6.below hB hg6) (Nat.lt_of_lt_of_le hg6 hB.size)) ?_
      rintro e w' ⟨g, cap, rfl, hn, hl, hg, hb'⟩
      exact ⟨_, rfl, HK.out ⟨g, cap, 0, 0, none⟩ _ hb' ⟨hn, hg⟩ (bd_one hl hg)⟩
    | 2, _ =>
      obtain ⟨ty, pos, aft, e, hdp⟩ := iop2
      rw [e] at ho
      obtain rfl := Option.some.inj ho
      intro a' hds W K hB lq ld hmem hK
      have e10 : a'.eval (.tmp 10) = .pointer (some ⟨F, 0, none⟩) := by rw [eval_tmp]; exact lq (10, .pointer (some ⟨F, 0, none⟩)) (by simp)
      have t10 := (eval_tmp a' 10).symm.trans e10
      have HK := Lib.hid (show K (a'.put (some 105) (.agg #[.int .i64 (N : Int), .slice (some ⟨g3, 0, none⟩) L q3])) W from hK W (Below.refl _ _) trivial)
      clear hK ld lq hmem
      have c0 := (hF.next hB).cell' 0 rfl
      have c1 := (hF.next hB).cell' 1 rfl
      unfold Oper.wp
      simp only [execOp, e10]
      go_simp
      exact HK.out
    | 3, _ =>
      obtain ⟨ty, pos, aft, e, hdp⟩ := iop3
      rw [e] at ho
      obtain rfl := Option.some.inj ho
      intro a' hds W K hB lq ld hmem hK
      have e104 : a'.eval (.tmp 104) = .agg #[.int .i64 (N : Int), .slice (some ⟨(hds 1).b, 0, none⟩) T (hds 1).c] := by rw [eval_tmp]; exact ld 1 104 (List.all_eq_true.1 hdp 1 (by decide)) rfl
      have t104 := (eval_tmp a' 104).symm.trans e104
      have e105 : a'.eval (.tmp 105) = .agg #[.int .i64 (N : Int), .slice (some ⟨g3, 0, none⟩) L q3] := by rw [eval_tmp]; exact ld 2 105 (List.all_eq_true.1 hdp 2 (by decide)) rfl
      have t105 := (eval_tmp a' 105).symm.trans e105
      have HK := Lib.hid (show ∀ hh W', Below W.heap.size W W' → (memStrs (clothS HS VS)).P hh W' → (∀ b ∈ (memStrs (clothS HS VS)).bl hh, W.heap.size ≤ b ∧ b < W'.heap.size) → K (a'.put (some 106) (.tuple #[.slice (some ⟨hh.b, 0, none⟩) L hh.c, .int .i64 0])) W' from fun hh W' h1 h2 h3 => by
        have h4 : K (a'.put (some 106) (region_tf9X N L g3 q3 F gh qh E T VS HS 3 (updH hds 3 hh))) W' := hK hh W' h1 h2 h3 trivial
        simp only [region_tf9X, updH_same] at h4
        exact h4)
      have m104   := (hmem 1 (show 1 ∈ uOf region_tf9U 3 by decide) (by decide)).1
      clear hK ld lq hmem
      refine step_call (vals := #[.agg #[.int .i64 (N : Int), .slice (some ⟨(hds 1).b, 0, none⟩) T (hds 1).c], .agg #[.int .i64 (N : Int), .slice (some ⟨g3, 0, none⟩) L q3]]) (by exact ⟨_, _, Try.func38, by kernel_rfl, rfl⟩) (by simp only [List.map_toArray, List.map_cons, List.map_nil, e104, e105]) (call38 N T L (hds 1).b (hds 1).c g3 q3 HS VS W hTl hVl hT0 hT1 hk hVd m104.1 m104.2 (hn3.below hB hg3) (Nat.lt_of_lt_of_le hg3 hB.size)) ?_
      rintro e w' ⟨g, cap, rfl, hn, hl, hg, hb'⟩
      exact ⟨_, rfl, HK.out ⟨g, cap, 0, 0, none⟩ _ hb' ⟨hn, hg⟩ (bd_one hl hg)⟩
    | 4, _ =>
      obtain ⟨ty, pos, aft, e, hdp⟩ := iop4
      rw [e] at ho
      obtain rfl := Option.some.inj ho
      intro a' hds W K hB lq ld hmem hK
      have e106 : a'.eval (.tmp 106) = .tuple #[.slice (some ⟨(hds 3).b, 0, none⟩) L (hds 3).c, .int .i64 0] := by rw [eval_tmp]; exact ld 3 106 (List.all_eq_true.1 hdp 3 (by decide)) rfl
      have t106 := (eval_tmp a' 106).symm.trans e106
      have HK := Lib.hid (show K (a'.put (some 102) (.tuple #[.slice (some ⟨(hds 3).b, 0, none⟩) L (hds 3).c, .int .i64 0])) W from hK W (Below.refl _ _) trivial)
      clear hK ld lq hmem
      unfold Oper.wp
      simp only [execOp, e106]
      exact HK.out
    | 5, _ =>
      obtain ⟨ty, pos, aft, e, hdp⟩ := iop5
      rw [e] at ho
      obtain rfl := Option.some.inj ho
      intro a' hds W K hB lq ld hmem hK
      have e102 : a'.eval (.tmp 102) = .tuple #[.slice (some ⟨(hds 3).b, 0, none⟩) L (hds 3).c, .int .i64 0] := by rw [eval_tmp]; exact ld 4 102 (List.all_eq_true.1 hdp 4 (by decide)) rfl
      have t102 := (eval_tmp a' 102).symm.trans e102
      have HK := Lib.hid (show K (a'.put (some 107) (.slice (some ⟨(hds 3).b, 0, none⟩) L (hds 3).c)) W from hK W (Below.refl _ _) trivial)
      clear hK ld lq hmem
      unfold Oper.wp
      simp only [execOp, e102]
      exact HK.out
    | 6, _ =>
      obtain ⟨ty, pos, aft, e, hdp⟩ := iop6
      rw [e] at ho
      obtain rfl := Option.some.inj ho
      intro a' hds W K hB lq ld hmem hK
      have e102 : a'.eval (.tmp 102) = .tuple #[.slice (some ⟨(hds 3).b, 0, none⟩) L (hds 3).c, .int .i64 0] := by rw [eval_tmp]; exact ld 4 102 (List.all_eq_true.1 hdp 4 (by decide)) rfl
      have t102 := (eval_tmp a' 102).symm.trans e102
      have HK := Lib.hid (show K (a'.put (some 108) (.int .i64 0)) W from hK W (Below.refl _ _) trivial)
      clear hK ld lq hmem
      unfold Oper.wp
      simp only [execOp, e102]
      exact HK.out
    | 7, _ =>
      obtain ⟨ty, pos, aft, e, hdp⟩ := iop7
      rw [e] at ho
      obtain rfl := Option.some.inj ho
      intro a' hds W K hB lq ld hmem hK
      have e107 : a'.eval (.tmp 107) = .slice (some ⟨(hds 3).b, 0, none⟩) L (hds 3).c := by rw [eval_tmp]; exact ld 5 107 (List.all_eq_true.1 hdp 5 (by decide)) rfl
      have t107 := (eval_tmp a' 107).symm.trans e107
      have HK := Lib.hid (show K (a'.put (some 14) (.slice (some ⟨(hds 3).b, 0, none⟩) L (hds 3).c)) W from hK W (Below.refl _ _) trivial)
      clear hK ld lq hmem
      unfold Oper.wp
      simp only [execOp, e107]
      exact HK.out
    | 8, _ =>
      obtain ⟨ty, pos, aft, e, hdp⟩ := iop8
      rw [e] at ho
      obtain rfl := Option.some.inj ho
      intro a' hds W K hB lq ld hmem hK
      have e108 : a'.eval (.tmp 108) = .int .i64 0 := by rw [eval_tmp]; exact ld 6 108 (List.all_eq_true.1 hdp 6 (by decide)) rfl
      have t108 := (eval_tmp a' 108).symm.trans e108
      have HK := Lib.hid (show K (a'.put (some 15) (.int .i64 0)) W from hK W (Below.refl _ _) trivial)
      clear hK ld lq hmem
      unfold Oper.wp
      simp only [execOp, e108]
      exact HK.out
    | i + 9, h => omega
  · intro hds v W hO
    have hfin := gend (hds 1).b (hds 1).c (hds 1).b2 (hds 1).c2 (hds 3).b (hds 3).c (hds 3).b2 (hds 3).c2 (hds 1).p (hds 3).p (v 103) (v 104) (v 105) (v 106) (v 102) (v 107) (v 108) W hO.b (hO.m 1 (by show 1 < 9; decide) rfl).1 (hO.m 1 (by show 1 < 9; decide) rfl).2 (hO.m 3 (by show 3 < 9; decide) rfl).1 (hO.m 3 (by show 3 < 9; decide) rfl).2
    rw [← laid_putL _ a v ?_] at hfin
    · exact hfin
    · intro p hp
      simp only [List.mem_cons, List.not_mem_nil, or_false] at hp
      rcases hp with rfl | rfl | rfl | rfl | rfl | rfl | rfl | rfl | rfl
      · rfl
      · rfl
      · rfl
      · rfl
      · rfl
      · rfl
      · rfl
      · exact hO.x 7 (show 7 < 9 by decide) 14 rfl
      · exact hO.x 8 (show 8 < 9 by decide) 15 rfl
def region_tf30U : List (List Nat) := [[], [], [], [], [], [], [], [], [], [], [], [], [], []]
def region_tf30X (N _T _gh _qh E P _A0 A1 ya yb N1 yr ys yc : Nat) : Nat → (Nat → Hd) → Value
  | 0, _ => .int .i64 (ya : Int)
  | 1, _ => .int .i64 (yb : Int)
  | 2, _ => .pointer (some ⟨P, 1, none⟩)
  | 3, _ => .int .u8 (A1 : Int)
  | 4, _ => .int .i64 (A1 : Int)
  | 5, _ => .pointer (some ⟨E, 0, none⟩)
  | 6, _ => .int .i64 (N : Int)
  | 7, _ => .int .i64 (N1 : Int)
  | 8, _ => .int .i64 (yr : Int)
  | 9, _ => .int .i64 (ys : Int)
  | 10, _ => .pointer (some ⟨E, 0, none⟩)
  | 11, _ => .int .i64 (N : Int)
  | 12, _ => .int .i64 (yc : Int)
  | 13, _ => .int .i64 (yc : Int)
  | _ + 14, _ => undef
theorem region_tf30X.congr (N T gh qh E P A0 A1 ya yb N1 yr ys yc : Nat) : ∀ i hds hds', (∀ r ∈ uOf region_tf30U i, hds r = hds' r) → region_tf30X N T gh qh E P A0 A1 ya yb N1 yr ys yc i hds = region_tf30X N T gh qh E P A0 A1 ya yb N1 yr ys yc i hds'
  | 0, _, _, _ => rfl
  | 1, _, _, _ => rfl
  | 2, _, _, _ => rfl
  | 3, _, _, _ => rfl
  | 4, _, _, _ => rfl
  | 5, _, _, _ => rfl
  | 6, _, _, _ => rfl
  | 7, _, _, _ => rfl
  | 8, _, _, _ => rfl
  | 9, _, _, _ => rfl
  | 10, _, _, _ => rfl
  | 11, _, _, _ => rfl
  | 12, _, _, _ => rfl
  | 13, _, _, _ => rfl
  | _ + 14, _, _, _ => rfl
def region_tf30M (_N _T _gh _qh _E _P _A0 _A1 _ya _yb _N1 _yr _ys _yc : Nat) : Nat → Mem
  | _ => memNone
def region_tf30S (_N _T _gh _qh _E _P _A0 _A1 _ya _yb _N1 _yr _ys _yc : Nat) : Nat → Option Sto
  | _ => none
set_option maxRecDepth 8000 in
set_option maxHeartbeats 2000000 in
theorem region_tf30 {id : Nat} {ops : Array Oper} {Q : Exit → Act → World → Prop} {a : Act} {w : World} (N T gh qh E P A0 A1 ya yb N1 yr ys yc : Nat) (hA1 : A1 < 256) (hN0 : 2 ≤ N) (hN24 : N ≤ 24) (haN : ya < N) (h1 : ya + 1 ≤ yb) (h2 : yb ≤ ya + 1) (h3 : N1 + 1 ≤ N) (h4 : N ≤ N1 + 1) (hr : A1 % N1 = yr) (h5 : yb + yr ≤ ys) (h6 : ys ≤ yb + yr) (hb : ys % N = yc) (hE : BoxAt w E #[.int .i64 (N : Int), .slice (some ⟨gh, 0, none⟩) T qh] 26) (hP : BoxAt w P #[.int .u8 (A0 : Int), .int .u8 (A1 : Int)] 93)
    (gsize : ops.size = 14)
    (gops : IsOp ops 0 (some 199) (.move (.tmp 20)) none [] ∧ IsOp ops 1 (some 200) (.binOp .add 3 (.tmp 199) (.const (.int .i64 1)) 3) none [0] ∧ IsOp ops 2 (some 201) (.indexAddr 93 (.tmp 3) (.const (.int .i64 1))) none [] ∧ IsOp ops 3 (some 202) (.load 5 (.tmp 201)) none [2] ∧ IsOp ops 4 (some 203) (.convert 5 3 (.tmp 202)) none [3] ∧ IsOp ops 5 (some 204) (.fieldAddr 26 (.tmp 9) 0) none [] ∧ IsOp ops 6 (some 205) (.load 3 (.tmp 204)) none [5] ∧ IsOp ops 7 (some 206) (.binOp .sub 3 (.tmp 205) (.const (.int .i64 1)) 3) none [6] ∧ IsOp ops 8 (some 207) (.binOp .rem 3 (.tmp 203) (.tmp 206) 3) none [4, 7] ∧ IsOp ops 9 (some 208) (.binOp .add 3 (.tmp 200) (.tmp 207) 3) none [1, 8] ∧ IsOp ops 10 (some 209) (.fieldAddr 26 (.tmp 9) 0) none [] ∧ IsOp ops 11 (some 210) (.load 3 (.tmp 209)) none [10] ∧ IsOp ops 12 (some 211) (.binOp .rem 3 (.tmp 208) (.tmp 210) 3) none [9, 11] ∧ IsOp ops 13 (some 21) (.assign (.tmp 211)) none [12])
    (gbk : backB ops = true) (gds : dstsB ops (dOf [some 199, some 200, some 201, some 202, some 203, some 204, some 205, some 206, some 207, some 208, some 209, some 210, some 211, some 21]) = true) (gus : useB ops (uOf region_tf30U) (kOf [0, 0, 0, 0, 0, 0, 0, 0, 0, 0, 0, 0, 0, 0]) = true) (ggd : plainB ops = true) (gsz : ∀ e ∈ [199, 200, 201, 202, 203, 204, 205, 206, 207, 208, 209, 210, 211, 21], e < a.tmps.size)
    (gout : a.eval (.tmp 3) = .pointer (some ⟨P, 0, none⟩) ∧ a.eval (.tmp 9) = .pointer (some ⟨E, 0, none⟩) ∧ a.eval (.tmp 20) = .int .i64 (ya : Int))
    (gend : ∀ (u199 u200 u201 u202 u203 u204 u205 u206 u207 u208 u209 u210 u211 : Value) (W : World), Below w.heap.size w W → Q .normal (putL a [(199, u199), (200, u200), (201, u201), (202, u202), (203, u203), (204, u204), (205, u205), (206, u206), (207, u207), (208, u208), (209, u209), (210, u210), (211, u211), (21, .int .i64 (yc : Int))]) W) :
    (Code.region id ops true).wp Try.prog Q a w := by
  obtain ⟨iop0, iop1, iop2, iop3, iop4, iop5, iop6, iop7, iop8, iop9, iop10, iop11, iop12, iop13⟩ := gops
  obtain ⟨o3, o9, o20⟩ := gout
  refine region_all (RSp.of 14 [some 199, some 200, some 201, some 202, some 203, some 204, some 205, some 206, some 207, some 208, some 209, some 210, some 211, some 21] (fun _ => true) (region_tf30X N T gh qh E P A0 A1 ya yb N1 yr ys yc) region_tf30U [0, 0, 0, 0, 0, 0, 0, 0, 0, 0, 0, 0, 0, 0] (region_tf30M N T gh qh E P A0 A1 ya yb N1 yr ys yc) (region_tf30S N T gh qh E P A0 A1 ya yb N1 yr ys yc)) [(3, .pointer (some ⟨P, 0, none⟩)), (9, .pointer (some ⟨E, 0, none⟩)), (20, .int .i64 (ya : Int))] [199, 200, 201, 202, 203, 204, 205, 206, 207, 208, 209, 210, 211, 21] (RSp.of_fit gsize.symm gbk gds gus ggd (by decide) ?_) (RSp.of_ok _ (region_tf30X.congr N T gh qh E P A0 A1 ya yb N1 yr ys yc) ?_) gsz ?_ ?_ ?_
  · intro p hp
    have hp2 : p ∈ ([] : List (Nat × Nat)) := hp
    cases hp2
  · intro i s hds
    match i, hds with
    | 0, hds => cases hds
    | 1, hds => cases hds
    | 2, hds => cases hds
    | 3, hds => cases hds
    | 4, hds => cases hds
    | 5, hds => cases hds
    | 6, hds => cases hds
    | 7, hds => cases hds
    | 8, hds => cases hds
    | 9, hds => cases hds
    | 10, hds => cases hds
    | 11, hds => cases hds
    | 12, hds => cases hds
    | 13, hds => cases hds
    | _ + 14, hds => cases hds
  · intro q hq
    simp only [List.mem_cons, List.not_mem_nil, or_false] at hq
    rcases hq with rfl | rfl | rfl
    · exact ⟨o3, by simp⟩
    · exact ⟨o9, by simp⟩
    · exact ⟨o20, by simp⟩
  · intro i o ho _
    have hi : i < 14 := by rw [← gsize]; exact (Array.getElem?_eq_some_iff.1 ho).1
    match i, hi with
    | 0, _ =>
      obtain ⟨ty, pos, aft, e, hdp⟩ := iop0
      rw [e] at ho
      obtain rfl := Option.some.inj ho
      intro a' hds W K hB lq ld hmem hK
      have e20 : a'.eval (.tmp 20) = .int .i64 (ya : Int) := by rw [eval_tmp]; exact lq (20, .int .i64 (ya : Int)) (by simp)
      have t20 := (eval_tmp a' 20).symm.trans e20
      have HK := Lib.hid (show K (a'.put (some 199) (.int .i64 (ya : Int))) W from hK W (Below.refl _ _) trivial)
      clear hK ld lq hmem
      unfold Oper.wp
      simp only [execOp, e20]
      exact HK.out
    | 1, _ =>
      obtain ⟨ty, pos, aft, e, hdp⟩ := iop1
      rw [e] at ho
      obtain rfl := Option.some.inj ho
      intro a' hds W K hB lq ld hmem hK
      have e199 : a'.eval (.tmp 199) = .int .i64 (ya : Int) := by rw [eval_tmp]; exact ld 0 199 (List.all_eq_true.1 hdp 0 (by decide)) rfl
      have t199 := (eval_tmp a' 199).symm.trans e199
      have HK := Lib.hid (show K (a'.put (some 200) (.int .i64 (yb : Int))) W from hK W (Below.refl _ _) trivial)
      clear hK ld lq hmem
      unfold Oper.wp
      simp only [execOp, e199]
      go_simp
      rw [(by rw [IntWalk.i64_in _ (by omega)]; omega : IntKind.i64.wrap ((ya : Int) + 1) = ((yb : Nat) : Int))]; exact HK.out
    | 2, _ =>
      obtain ⟨ty, pos, aft, e, hdp⟩ := iop2
      rw [e] at ho
      obtain rfl := Option.some.inj ho
      intro a' hds W K hB lq ld hmem hK
      have e3 : a'.eval (.tmp 3) = .pointer (some ⟨P, 0, none⟩) := by rw [eval_tmp]; exact lq (3, .pointer (some ⟨P, 0, none⟩)) (by simp)
      have t3 := (eval_tmp a' 3).symm.trans e3
      have HK := Lib.hid (show K (a'.put (some 201) (.pointer (some ⟨P, 1, none⟩))) W from hK W (Below.refl _ _) trivial)
      clear hK ld lq hmem
      unfold Oper.wp
      simp only [execOp, e3]
      go_simp
      exact HK.out
    | 3, _ =>
      obtain ⟨ty, pos, aft, e, hdp⟩ := iop3
      rw [e] at ho
      obtain rfl := Option.some.inj ho
      intro a' hds W K hB lq ld hmem hK
      have e201 : a'.eval (.tmp 201) = .pointer (some ⟨P, 1, none⟩) := by rw [eval_tmp]; exact ld 2 201 (List.all_eq_true.1 hdp 2 (by decide)) rfl
      have t201 := (eval_tmp a' 201).symm.trans e201
      have HK := Lib.hid (show K (a'.put (some 202) (.int .u8 (A1 : Int))) W from hK W (Below.refl _ _) trivial)
      clear hK ld lq hmem
      have c1 := (hP.next hB).cell' 1 rfl
      have d1 := (hP.next hB).cell' (v := .int .u8 (A1 : Int)) 1 rfl
      unfold Oper.wp
      simp only [execOp, e201]
      go_simp
      exact HK.out
    | 4, _ =>
      obtain ⟨ty, pos, aft, e, hdp⟩ := iop4
      rw [e] at ho
      obtain rfl := Option.some.inj ho
      intro a' hds W K hB lq ld hmem hK
      have e202 : a'.eval (.tmp 202) = .int .u8 (A1 : Int) := by rw [eval_tmp]; exact ld 3 202 (List.all_eq_true.1 hdp 3 (by decide)) rfl
      have t202 := (eval_tmp a' 202).symm.trans e202
      have HK := Lib.hid (show K (a'.put (some 203) (.int .i64 (A1 : Int))) W from hK W (Below.refl _ _) trivial)
      clear hK ld lq hmem
      unfold Oper.wp
      simp only [execOp, e202]
      go_simp
      rw [show IntKind.i64.wrap (A1 : Int) = (A1 : Int) from IntWalk.i64_in _ (by omega)]; exact HK.out
    | 5, _ =>
      obtain ⟨ty, pos, aft, e, hdp⟩ := iop5
      rw [e] at ho
      obtain rfl := Option.some.inj ho
      intro a' hds W K hB lq ld hmem hK
      have e9 : a'.eval (.tmp 9) = .pointer (some ⟨E, 0, none⟩) := by rw [eval_tmp]; exact lq (9, .pointer (some ⟨E, 0, none⟩)) (by simp)
      have t9 := (eval_tmp a' 9).symm.trans e9
      have HK := Lib.hid (show K (a'.put (some 204) (.pointer (some ⟨E, 0, none⟩))) W from hK W (Below.refl _ _) trivial)
      clear hK ld lq hmem
      unfold Oper.wp
      simp only [execOp, e9]
      go_simp
      exact HK.out
    | 6, _ =>
      obtain ⟨ty, pos, aft, e, hdp⟩ := iop6
      rw [e] at ho
      obtain rfl := Option.some.inj ho
      intro a' hds W K hB lq ld hmem hK
      have e204 : a'.eval (.tmp 204) = .pointer (some ⟨E, 0, none⟩) := by rw [eval_tmp]; exact ld 5 204 (List.all_eq_true.1 hdp 5 (by decide)) rfl
      have t204 := (eval_tmp a' 204).symm.trans e204
      have HK := Lib.hid (show K (a'.put (some 205) (.int .i64 (N : Int))) W from hK W (Below.refl _ _) trivial)
      clear hK ld lq hmem
      have c0 := (hE.next hB).cell' 0 rfl
      unfold Oper.wp
      simp only [execOp, e204]
      go_simp
      exact HK.out
    | 7, _ =>
      obtain ⟨ty, pos, aft, e, hdp⟩ := iop7
      rw [e] at ho
      obtain rfl := Option.some.inj ho
      intro a' hds W K hB lq ld hmem hK
      have e205 : a'.eval (.tmp 205) = .int .i64 (N : Int) := by rw [eval_tmp]; exact ld 6 205 (List.all_eq_true.1 hdp 6 (by decide)) rfl
      have t205 := (eval_tmp a' 205).symm.trans e205
      have HK := Lib.hid (show K (a'.put (some 206) (.int .i64 (N1 : Int))) W from hK W (Below.refl _ _) trivial)
      clear hK ld lq hmem
      unfold Oper.wp
      simp only [execOp, e205]
      go_simp
      rw [(by rw [IntWalk.i64_in _ (by omega)]; omega : IntKind.i64.wrap ((N : Int) - 1) = ((N1 : Nat) : Int))]; exact HK.out
    | 8, _ =>
      obtain ⟨ty, pos, aft, e, hdp⟩ := iop8
      rw [e] at ho
      obtain rfl := Option.some.inj ho
      intro a' hds W K hB lq ld hmem hK
      have e203 : a'.eval (.tmp 203) = .int .i64 (A1 : Int) := by rw [eval_tmp]; exact ld 4 203 (List.all_eq_true.1 hdp 4 (by decide)) rfl
      have t203 := (eval_tmp a' 203).symm.trans e203
      have e206 : a'.eval (.tmp 206) = .int .i64 (N1 : Int) := by rw [eval_tmp]; exact ld 7 206 (List.all_eq_true.1 hdp 7 (by decide)) rfl
      have t206 := (eval_tmp a' 206).symm.trans e206
      have HK := Lib.hid (show K (a'.put (some 207) (.int .i64 (yr : Int))) W from hK W (Below.refl _ _) trivial)
      clear hK ld lq hmem
      have hy0 : ¬ (N1 : Int) = 0 := by omega
      have hr0 := tmod_nn A1 N1
      rw [hr] at hr0
      unfold Oper.wp
      simp only [execOp, e203, e206]
      go_simp
      rw [if_neg (show ¬ N1 = 0 by omega)]; go_simp; exact HK.out
    | 9, _ =>
      obtain ⟨ty, pos, aft, e, hdp⟩ := iop9
      rw [e] at ho
      obtain rfl := Option.some.inj ho
      intro a' hds W K hB lq ld hmem hK
      have e200 : a'.eval (.tmp 200) = .int .i64 (yb : Int) := by rw [eval_tmp]; exact ld 1 200 (List.all_eq_true.1 hdp 1 (by decide)) rfl
      have t200 := (eval_tmp a' 200).symm.trans e200
      have e207 : a'.eval (.tmp 207) = .int .i64 (yr : Int) := by rw [eval_tmp]; exact ld 8 207 (List.all_eq_true.1 hdp 8 (by decide)) rfl
      have t207 := (eval_tmp a' 207).symm.trans e207
      have HK := Lib.hid (show K (a'.put (some 208) (.int .i64 (ys : Int))) W from hK W (Below.refl _ _) trivial)
      clear hK ld lq hmem
      have hrl : yr < N1 := by rw [← hr]; exact Nat.mod_lt _ (by omega)
      unfold Oper.wp
      simp only [execOp, e200, e207]
      go_simp
      rw [(by rw [IntWalk.i64_in _ (by omega)]; omega : IntKind.i64.wrap ((yb : Int) + (yr : Int)) = ((ys : Nat) : Int))]; exact HK.out
    | 10, _ =>
      obtain ⟨ty, pos, aft, e, hdp⟩ := iop10
      rw [e] at ho
      obtain rfl := Option.some.inj ho
      intro a' hds W K hB lq ld hmem hK
      have e9 : a'.eval (.tmp 9) = .pointer (some ⟨E, 0, none⟩) := by rw [eval_tmp]; exact lq (9, .pointer (some ⟨E, 0, none⟩)) (by simp)
      have t9 := (eval_tmp a' 9).symm.trans e9
      have HK := Lib.hid (show K (a'.put (some 209) (.pointer (some ⟨E, 0, none⟩))) W from hK W (Below.refl _ _) trivial)
      clear hK ld lq hmem
      unfold Oper.wp
      simp only [execOp, e9]
      go_simp
      exact HK.out
    | 11, _ =>
      obtain ⟨ty, pos, aft, e, hdp⟩ := iop11
      rw [e] at ho
      obtain rfl := Option.some.inj ho
      intro a' hds W K hB lq ld hmem hK
      have e209 : a'.eval (.tmp 209) = .pointer (some ⟨E, 0, none⟩) := by rw [eval_tmp]; exact ld 10 209 (List.all_eq_true.1 hdp 10 (by decide)) rfl
      have t209 := (eval_tmp a' 209).symm.trans e209
      have HK := Lib.hid (show K (a'.put (some 210) (.int .i64 (N : Int))) W from hK W (Below.refl _ _) trivial)
      clear hK ld lq hmem
      have c0 := (hE.next hB).cell' 0 rfl
      unfold Oper.wp
      simp only [execOp, e209]
      go_simp
      exact HK.out
    | 12, _ =>
      obtain ⟨ty, pos, aft, e, hdp⟩ := iop12
      rw [e] at ho
      obtain rfl := Option.some.inj ho
      intro a' hds W K hB lq ld hmem hK
      have e208 : a'.eval (.tmp 208) = .int .i64 (ys : Int) := by rw [eval_tmp]; exact ld 9 208 (List.all_eq_true.1 hdp 9 (by decide)) rfl
      have t208 := (eval_tmp a' 208).symm.trans e208
      have e210 : a'.eval (.tmp 210) = .int .i64 (N : Int) := by rw [eval_tmp]; exact ld 11 210 (List.all_eq_true.1 hdp 11 (by decide)) rfl
      have t210 := (eval_tmp a' 210).symm.trans e210
      have HK := Lib.hid (show K (a'.put (some 211) (.int .i64 (yc : Int))) W from hK W (Below.refl _ _) trivial)
      clear hK ld lq hmem
      have hy0 : ¬ (N : Int) = 0 := by omega
      have hr0 := tmod_nn ys N
      rw [hb] at hr0
      unfold Oper.wp
      simp only [execOp, e208, e210]
      go_simp
      rw [if_neg (show ¬ N = 0 by omega)]; go_simp; exact HK.out
    | 13, _ =>
      obtain ⟨ty, pos, aft, e, hdp⟩ := iop13
      rw [e] at ho
      obtain rfl := Option.some.inj ho
      intro a' hds W K hB lq ld hmem hK
      have e211 : a'.eval (.tmp 211) = .int .i64 (yc : Int) := by rw [eval_tmp]; exact ld 12 211 (List.all_eq_true.1 hdp 12 (by decide)) rfl
      have t211 := (eval_tmp a' 211).symm.trans e211
      have HK := Lib.hid (show K (a'.put (some 21) (.int .i64 (yc : Int))) W from hK W (Below.refl _ _) trivial)
      clear hK ld lq hmem
      unfold Oper.wp
      simp only [execOp, e211]
      exact HK.out
    | i + 14, h => omega
  · intro hds v W hO
    have hfin := gend (v 199) (v 200) (v 201) (v 202) (v 203) (v 204) (v 205) (v 206) (v 207) (v 208) (v 209) (v 210) (v 211) W hO.b
    rw [← laid_putL _ a v ?_] at hfin
    · exact hfin
    · intro p hp
      simp only [List.mem_cons, List.not_mem_nil, or_false] at hp
      rcases hp with rfl | rfl | rfl | rfl | rfl | rfl | rfl | rfl | rfl | rfl | rfl | rfl | rfl | rfl
      · rfl
      · rfl
      · rfl
      · rfl
      · rfl
      · rfl
      · rfl
      · rfl
      · rfl
      · rfl
      · rfl
      · rfl
      · rfl
      · exact hO.x 13 (show 13 < 14 by decide) 21 rfl
end Go.Proofs.Ytdmgffoikebgkaa
/- Regions that draw their order and whose operations are guarded by tests with known values. -/
namespace Go.Proofs.Ytdmgffoikebgkaa
open Go.RowKit Go.Shelf

/-- each guard is a test among gl that an operation waits for, with the value that lets it run -/
def guardC (ops : Array Oper) (D : Nat → Option Nat) (gl : List (Nat × Bool)) : Bool := (List.range ops.size).all fun i => match ops[i]? with
  | some o => (match o.guard with
    | none => true
    | some q => depB o q.1 && gl.contains q && (D q.1).isSome && ((ops[q.1]?).bind (·.dst) == D q.1))
  | none => true
theorem RSp.of_fitC {ops : Array Oper} {n : Nat} {D : List (Option Nat)} {X : Nat → (Nat → Hd) → Value} {uses : List (List Nat)} {kind : List Nat} {mem : Nat → Mem} {sto : Nat → Option Sto} {gl : List (Nat × Bool)}
    (hn : n = ops.size) (hb : backB ops = true) (hd : dstsB ops (dOf D) = true) (hu : useB ops (uOf uses) (kOf kind) = true) (hg : guardC ops (dOf D) gl = true) (hnd : (D.filterMap id).Nodup)
    (hst : ∀ p ∈ storesOf kind, dOf D p.1 = none ∧ p.2 ∈ uOf uses p.1 ∧ (∀ h, (mem p.2).bl h = [h.b]) ∧ ∀ j, j ≠ p.1 → p.2 ∈ uOf uses j → sto j = none)
    (hX : ∀ p ∈ gl, ∀ hs, X p.1 hs = .bool p.2) :
    (RSp.of n D (fun _ => true) X uses kind mem sto).Fit ops (D.filterMap id) where
  n := hn
  back := hb
  dst := hd
  use := hu
  mem := fun _ _ _ h => dOf_mem h
  inj := fun _ _ _ h1 h2 => dOf_inj hnd h1 h2
  nd := hnd
  st := fun i t h => by
    obtain ⟨h1, h2, h3, h4⟩ := hst (i, t) (kOf_store h)
    refine ⟨h1, h2, h3, fun j hj hm hs W => ?_⟩
    show match sto j with | none => True | some s => BoxAt W (hs s.t).b (s.c hs) s.T
    rw [h4 j hj hm]
    trivial
  gd := fun i o ho => by
    have h := all_ops hg i o ho
    cases hgd : o.guard with
    | none => exact .inl ⟨rfl, rfl⟩
    | some q =>
      obtain ⟨j, b⟩ := q
      rw [hgd] at h
      simp only [Bool.and_eq_true, beq_iff_eq] at h
      obtain ⟨⟨⟨h2, h3⟩, h4⟩, h5⟩ := h
      obtain ⟨d, hd2⟩ := Option.isSome_iff_exists.1 h4
      refine .inr ⟨j, b, d, rfl, h2, hd2, h5.trans hd2, fun hs => ?_, fun h => by cases h⟩
      exact hX (j, b) (by simpa using h3) hs
end Go.Proofs.Ytdmgffoikebgkaa
/- Regions that draw their order, of whose operations some are passed over. -/
namespace Go.Proofs.Ytdmgffoikebgkaa
open Go.RowKit Go.Shelf

/-- the same, where some operations are passed over -/
def guardW (ops : Array Oper) (D : Nat → Option Nat) (wants : Nat → Bool) (gl : List (Nat × Bool)) : Bool := (List.range ops.size).all fun i => match ops[i]? with
  | some o => (match o.guard with
    | none => wants i
    | some q => depB o q.1 && gl.contains (q.1, if wants i then q.2 else !q.2) && (D q.1).isSome && ((ops[q.1]?).bind (·.dst) == D q.1))
  | none => true
theorem RSp.of_fitW {ops : Array Oper} {n : Nat} {D : List (Option Nat)} {X : Nat → (Nat → Hd) → Value} {uses : List (List Nat)} {kind : List Nat} {mem : Nat → Mem} {sto : Nat → Option Sto} {gl : List (Nat × Bool)} {wants : Nat → Bool}
    (hn : n = ops.size) (hb : backB ops = true) (hd : dstsB ops (dOf D) = true) (hu : useB ops (uOf uses) (kOf kind) = true) (hg : guardW ops (dOf D) wants gl = true) (hnd : (D.filterMap id).Nodup)
    (hst : ∀ p ∈ storesOf kind, dOf D p.1 = none ∧ p.2 ∈ uOf uses p.1 ∧ (∀ h, (mem p.2).bl h = [h.b]) ∧ ∀ j, j ≠ p.1 → p.2 ∈ uOf uses j → sto j = none)
    (hX : ∀ p ∈ gl, ∀ hs, X p.1 hs = .bool p.2)
    (hS : ∀ i, wants i = false → (kOf kind i).isMake = false ∧ ∀ hs, X i hs = undef) :
    (RSp.of n D wants X uses kind mem sto).Fit ops (D.filterMap id) where
  n := hn
  back := hb
  dst := hd
  use := hu
  mem := fun _ _ _ h => dOf_mem h
  inj := fun _ _ _ h1 h2 => dOf_inj hnd h1 h2
  nd := hnd
  st := fun i t h => by
    obtain ⟨h1, h2, h3, h4⟩ := hst (i, t) (kOf_store h)
    refine ⟨h1, h2, h3, fun j hj hm hs W => ?_⟩
    show match sto j with | none => True | some s => BoxAt W (hs s.t).b (s.c hs) s.T
    rw [h4 j hj hm]
    trivial
  gd := fun i o ho => by
    have h := all_ops hg i o ho
    cases hgd : o.guard with
    | none =>
      rw [hgd] at h
      exact .inl ⟨rfl, h⟩
    | some q =>
      obtain ⟨j, b⟩ := q
      rw [hgd] at h
      simp only [Bool.and_eq_true, beq_iff_eq] at h
      obtain ⟨⟨⟨h2, h3⟩, h4⟩, h5⟩ := h
      obtain ⟨d, hd2⟩ := Option.isSome_iff_exists.1 h4
      refine .inr ⟨j, b, d, rfl, h2, hd2, h5.trans hd2, fun hs => ?_, hS i⟩
      exact hX (j, if wants i then b else !b) (by simpa using h3) hs
end Go.Proofs.Ytdmgffoikebgkaa
