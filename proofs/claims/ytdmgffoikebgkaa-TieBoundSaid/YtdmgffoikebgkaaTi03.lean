/- TieBound: its regions that draw their order; contracts. -/
import Derived.Test.YtdmgffoikebgkaaTb01
import Derived.Test.YtdmgffoikebgkaaTb02
import Derived.Test.YtdmgffoikebgkaaTb03
import Derived.Test.YtdmgffoikebgkaaTb04
import Derived.Test.YtdmgffoikebgkaaTb05
import Derived.Test.YtdmgffoikebgkaaTb06
import Derived.Test.YtdmgffoikebgkaaTb07
import Derived.Test.YtdmgffoikebgkaaTb08
import Derived.Test.YtdmgffoikebgkaaTb09
import Derived.Test.YtdmgffoikebgkaaTb10
import Derived.Test.YtdmgffoikebgkaaTb11
import Derived.Test.YtdmgffoikebgkaaTb12
import Derived.Test.YtdmgffoikebgkaaTb13
import Derived.Test.YtdmgffoikebgkaaTb14
import Derived.Test.YtdmgffoikebgkaaTb15
import Derived.Test.YtdmgffoikebgkaaTb16
import Derived.Test.YtdmgffoikebgkaaTb17
import Derived.Test.YtdmgffoikebgkaaTb18
import Derived.Test.YtdmgffoikebgkaaTb19
import Derived.Test.YtdmgffoikebgkaaTb20
import Derived.Test.YtdmgffoikebgkaaTi02
namespace Go.Proofs.Ytdmgffoikebgkaa
open Go.RowKit Go.Shelf
attribute [local go_sem] Oper.semAt_some

theorem call69b (n L b c f m : Nat) (xs : List Nat) (W : World) (hL : xs.length = L) (hv : Valid n xs) (hm : 1 ≤ m) (hm2 : m ≤ 24) (hb : ∀ p, bindN n p 0 m < never) (hx : NatsAt W b 0 xs) (hbl : b < W.heap.size) (hf : NatsAt W f 0 (List.replicate L 0)) (hfb : f < W.heap.size) :
    Calls Try.prog 69 #[.agg #[.int .i64 (n : Int), .slice (some ⟨b, 0, none⟩) L c], .slice (some ⟨f, 0, none⟩) L L, .int .i64 (m : Int)] W fun e w' =>
      ∃ g cap, e = .returned (.tuple #[.agg #[.int .i64 (n : Int), .slice (some ⟨g, 0, none⟩) L cap], .int .i64 (smOf n m xs : Int), .int .i64 0]) ∧ NatsAt w' g 0 (zsOf n m xs) ∧ W.heap.size ≤ g ∧ g < w'.heap.size ∧ Below W.heap.size W w' := by
  subst hL
  refine (Bind_ok n b 0 c f 0 xs.length m xs (List.replicate xs.length 0) W ⟨hx, hbl, hv⟩ (by simp) hf hfb (fun i => by rw [zeros_nth]; exact Nat.pow_pos (by decide)) hm (by omega) (fun i _ => by rw [zeros_nth]; exact hb _)).mono ?_
  rintro e w' ⟨v, rfl, h3, h4⟩
  have l0 := hv.l0
  obtain ⟨g, cap, rfl⟩ := row_slice h3 (by omega)
  obtain ⟨a, b, d⟩ := nats_of_row h3 (by omega)
  exact ⟨g, cap, rfl, a, d, b, h4⟩
theorem call69v (n L b c f m : Nat) (xs : List Nat) (W : World) (hL : xs.length = L) (hv : Valid n xs) (hm : 1 ≤ m) (hm2 : m ≤ 24) (hb : ∀ p, bindN n p 0 m = never) (hx : NatsAt W b 0 xs) (hbl : b < W.heap.size) (hf : NatsAt W f 0 (List.replicate L 0)) (hfb : f < W.heap.size) :
    Calls Try.prog 69 #[.agg #[.int .i64 (n : Int), .slice (some ⟨b, 0, none⟩) L c], .slice (some ⟨f, 0, none⟩) L L, .int .i64 (m : Int)] W fun e w' =>
      e = .returned (.tuple #[.agg #[.int .i64 0, .slice none 0 0], .int .i64 0, .int .i64 9]) ∧ Below W.heap.size W w' := by
  subst hL
  have l0 := hv.l0
  exact Bind_nev 0 n b 0 c f 0 xs.length m xs (List.replicate xs.length 0) W ⟨hx, hbl, hv⟩ (by simp) hf hfb (fun i => by rw [zeros_nth]; exact Nat.pow_pos (by decide)) hm (by omega) l0 (fun i hi => by omega) (by rw [zeros_nth]; exact hb _)
theorem zs_bound {n m : Nat} {xs : List Nat} (hv : Valid n xs) (hb : ∀ p, bindN n p 0 m < never) : Valid n (zsOf n m xs) ∧ ∀ i, i < xs.length → nthN (zsOf n m xs) i < 2 ^ n ∧ BoundUp (nthN (zsOf n m xs) i) n m := by
  have h := bindFix_of (n := n) (m := m) (ks := List.replicate xs.length 0) hv fun i _ => by rw [zeros_nth]; exact hb _
  exact ⟨h.v, fun i hi => ⟨h.v.lt i, (h.ok i hi).2⟩⟩
def region_tb3U : List (List Nat) := [[], [1], [], [3], [3], [3], [3, 6], [], [1, 3, 6, 8], [1, 3, 6, 8], [1, 3, 6, 8], [1, 3, 6, 8], [1, 3, 6, 8], [13], [1, 3, 6, 8, 13], [1, 3, 6, 8], [1, 3, 6, 8]]
def region_tb3X (_Z N L m S : Nat) (V0 V1 V2 : Value) (_DS _ZS : List Nat) : Nat → (Nat → Hd) → Value
  | 0, _ => .agg #[V0, V1, V2]
  | 1, hds => .agg #[.int .i64 (N : Int), .slice (some ⟨(hds 1).b, 0, none⟩) L (hds 1).c]
  | 2, _ => .agg #[V0, V1, V2]
  | 3, hds => .agg #[.int .i64 (N : Int), .slice (some ⟨(hds 3).b, 0, none⟩) L (hds 3).c]
  | 4, hds => .slice (some ⟨(hds 3).b, 0, none⟩) L (hds 3).c
  | 5, _ => .int .i64 (L : Int)
  | 6, hds => .slice (some ⟨(hds 6).b, 0, none⟩) L L
  | 7, _ => .int .i64 (m : Int)
  | 8, hds => .tuple #[.agg #[.int .i64 (N : Int), .slice (some ⟨(hds 8).b, 0, none⟩) L (hds 8).c], .int .i64 (S : Int), .int .i64 0]
  | 9, hds => .tuple #[.agg #[.int .i64 (N : Int), .slice (some ⟨(hds 8).b, 0, none⟩) L (hds 8).c], .int .i64 (S : Int), .int .i64 0]
  | 10, hds => .agg #[.int .i64 (N : Int), .slice (some ⟨(hds 8).b, 0, none⟩) L (hds 8).c]
  | 11, _ => .int .i64 (S : Int)
  | 12, _ => .int .i64 0
  | 13, hds => .pointer (some ⟨(hds 13).b, 0, none⟩)
  | 14, _ => undef
  | 15, _ => .int .i64 (S : Int)
  | 16, _ => .int .i64 0
  | _ + 17, _ => undef
theorem region_tb3X.congr (Z N L m S : Nat) (V0 V1 V2 : Value) (DS ZS : List Nat) : ∀ i hds hds', (∀ r ∈ uOf region_tb3U i, hds r = hds' r) → region_tb3X Z N L m S V0 V1 V2 DS ZS i hds = region_tb3X Z N L m S V0 V1 V2 DS ZS i hds'
  | 0, _, _, _ => rfl
  | 1, hds, hds', h => by simp only [region_tb3X, h 1 (show 1 ∈ uOf region_tb3U 1 by decide)]
  | 2, _, _, _ => rfl
  | 3, hds, hds', h => by simp only [region_tb3X, h 3 (show 3 ∈ uOf region_tb3U 3 by decide)]
  | 4, hds, hds', h => by simp only [region_tb3X, h 3 (show 3 ∈ uOf region_tb3U 4 by decide)]
  | 5, _, _, _ => rfl
  | 6, hds, hds', h => by simp only [region_tb3X, h 6 (show 6 ∈ uOf region_tb3U 6 by decide)]
  | 7, _, _, _ => rfl
  | 8, hds, hds', h => by simp only [region_tb3X, h 8 (show 8 ∈ uOf region_tb3U 8 by decide)]
  | 9, hds, hds', h => by simp only [region_tb3X, h 8 (show 8 ∈ uOf region_tb3U 9 by decide)]
  | 10, hds, hds', h => by simp only [region_tb3X, h 8 (show 8 ∈ uOf region_tb3U 10 by decide)]
  | 11, _, _, _ => rfl
  | 12, _, _, _ => rfl
  | 13, hds, hds', h => by simp only [region_tb3X, h 13 (show 13 ∈ uOf region_tb3U 13 by decide)]
  | 14, _, _, _ => rfl
  | 15, _, _, _ => rfl
  | 16, _, _, _ => rfl
  | _ + 17, _, _, _ => rfl
def region_tb3M (_Z _N L _m _S : Nat) (_V0 _V1 _V2 : Value) (DS ZS : List Nat) : Nat → Mem
  | 1 => memNats DS
  | 3 => memNats DS
  | 6 => memNats (List.replicate L 0)
  | 8 => memNats ZS
  | 13 => memBox 2 37
  | _ => memNone
def region_tb3S (_Z N L _m _S : Nat) (_V0 _V1 _V2 : Value) (_DS _ZS : List Nat) : Nat → Option Sto
  | 14 => some ⟨13, 37, fun hds => #[.int .i64 (N : Int), .slice (some ⟨(hds 8).b, 0, none⟩) L (hds 8).c]⟩
  | _ => none
set_option maxRecDepth 8000 in
set_option maxHeartbeats 2000000 in
theorem region_tb3 {id : Nat} {ops : Array Oper} {Q : Exit → Act → World → Prop} {a : Act} {w : World} (Z N L m S : Nat) (V0 V1 V2 : Value) (DS ZS : List Nat) (H64 : ∀ W, Below w.heap.size w W → Calls Try.prog 64 #[.agg #[V0, V1, V2]] W (MadeL N L DS W)) (hL6 : L ≤ 60) (H69 : ∀ b c f W, NatsAt W b 0 DS → b < W.heap.size → NatsAt W f 0 (List.replicate L 0) → f < W.heap.size → Calls Try.prog 69 #[.agg #[.int .i64 (N : Int), .slice (some ⟨b, 0, none⟩) L c], .slice (some ⟨f, 0, none⟩) L L, .int .i64 (m : Int)] W fun e w' => ∃ g cap, e = .returned (.tuple #[.agg #[.int .i64 (N : Int), .slice (some ⟨g, 0, none⟩) L cap], .int .i64 (S : Int), .int .i64 0]) ∧ NatsAt w' g 0 ZS ∧ W.heap.size ≤ g ∧ g < w'.heap.size ∧ Below W.heap.size W w') (hZ : BoxAt w Z #[V0, V1, V2] 92)
    (gsize : ops.size = 17)
    (gops : IsOp ops 0 (some 39) (.load 92 (.tmp 2)) none [] ∧ IsOp ops 1 (some 40) (.call { callee := .value (.func 64), args := #[.tmp 39], argTypes := #[92] }) none [0] ∧ IsOp ops 2 (some 41) (.load 92 (.tmp 2)) none [] ∧ IsOp ops 3 (some 42) (.call { callee := .value (.func 64), args := #[.tmp 41], argTypes := #[92] }) none [2] ∧ IsOp ops 4 (some 43) (.field 37 (.tmp 42) 1) none [3] ∧ IsOpL ops 5 (some 44) (.call { callee := .builtin .len, args := #[.tmp 43], argTypes := #[24] }) none [4] ∧ IsOp ops 6 (some 45) (.makeSlice 24 (.tmp 44) (.tmp 44)) none [5] ∧ IsOp ops 7 (some 46) (.move (.tmp 6)) none [] ∧ IsOp ops 8 (some 47) (.call { callee := .value (.func 69), args := #[.tmp 40, .tmp 45, .tmp 46], argTypes := #[37, 24, 3] }) none [1, 6, 7] ∧ IsOp ops 9 (some 38) (.move (.tmp 47)) none [8] ∧ IsOp ops 10 (some 48) (.extract (.tmp 38) 0) none [9] ∧ IsOp ops 11 (some 49) (.extract (.tmp 38) 1) none [9] ∧ IsOp ops 12 (some 50) (.extract (.tmp 38) 2) none [9] ∧ IsOp ops 13 (some 10) (.alloc 37) none [] ∧ IsOp ops 14 none (.store 37 (.tmp 10) (.tmp 48)) none [10, 13] ∧ IsOp ops 15 (some 11) (.assign (.tmp 49)) none [11] ∧ IsOp ops 16 (some 12) (.assign (.tmp 50)) none [12])
    (gbk : backB ops = true) (gds : dstsB ops (dOf [some 39, some 40, some 41, some 42, some 43, some 44, some 45, some 46, some 47, some 38, some 48, some 49, some 50, some 10, none, some 11, some 12]) = true) (gus : useB ops (uOf region_tb3U) (kOf [0, 1, 0, 1, 0, 0, 1, 0, 1, 0, 0, 0, 0, 1, 15, 0, 0]) = true) (ggd : plainB ops = true) (gsz : ∀ e ∈ [39, 40, 41, 42, 43, 44, 45, 46, 47, 38, 48, 49, 50, 10, 11, 12], e < a.tmps.size)
    (gout : a.eval (.tmp 2) = .pointer (some ⟨Z, 0, none⟩) ∧ a.eval (.tmp 6) = .int .i64 (m : Int))
    (gend : ∀ (g40 q40 G40 Q40 g42 q42 G42 Q42 g45 q45 G45 Q45 g47 q47 G47 Q47 g10 q10 G10 Q10 : Nat) (P40 P42 P45 P47 P10 : Option Addr) (u39 u40 u41 u42 u43 u44 u45 u46 u47 u38 u48 u49 u50 : Value) (W : World), Below w.heap.size w W → (memNats DS).P ⟨g40, q40, G40, Q40, P40⟩ W → (∀ b ∈ (memNats DS).bl ⟨g40, q40, G40, Q40, P40⟩, w.heap.size ≤ b ∧ b < W.heap.size) → (memNats DS).P ⟨g42, q42, G42, Q42, P42⟩ W → (∀ b ∈ (memNats DS).bl ⟨g42, q42, G42, Q42, P42⟩, w.heap.size ≤ b ∧ b < W.heap.size) → (memNats (List.replicate L 0)).P ⟨g45, q45, G45, Q45, P45⟩ W → (∀ b ∈ (memNats (List.replicate L 0)).bl ⟨g45, q45, G45, Q45, P45⟩, w.heap.size ≤ b ∧ b < W.heap.size) → (memNats ZS).P ⟨g47, q47, G47, Q47, P47⟩ W → (∀ b ∈ (memNats ZS).bl ⟨g47, q47, G47, Q47, P47⟩, w.heap.size ≤ b ∧ b < W.heap.size) → w.heap.size ≤ g10 → g10 < W.heap.size → BoxAt W g10 #[.int .i64 (N : Int), .slice (some ⟨g47, 0, none⟩) L q47] 37 → Q .normal (putL a [(39, u39), (40, u40), (41, u41), (42, u42), (43, u43), (44, u44), (45, u45), (46, u46), (47, u47), (38, u38), (48, u48), (49, u49), (50, u50), (10, .pointer (some ⟨g10, 0, none⟩)), (11, .int .i64 (S : Int)), (12, .int .i64 0)]) W) :
    (Code.region id ops true).wp Try.prog Q a w := by
  obtain ⟨iop0, iop1, iop2, iop3, iop4, iop5, iop6, iop7, iop8, iop9, iop10, iop11, iop12, iop13, iop14, iop15, iop16⟩ := gops
  obtain ⟨o2, o6⟩ := gout
  refine region_all (RSp.of 17 [some 39, some 40, some 41, some 42, some 43, some 44, some 45, some 46, some 47, some 38, some 48, some 49, some 50, some 10, none, some 11, some 12] (fun _ => true) (region_tb3X Z N L m S V0 V1 V2 DS ZS) region_tb3U [0, 1, 0, 1, 0, 0, 1, 0, 1, 0, 0, 0, 0, 1, 15, 0, 0] (region_tb3M Z N L m S V0 V1 V2 DS ZS) (region_tb3S Z N L m S V0 V1 V2 DS ZS)) [(2, .pointer (some ⟨Z, 0, none⟩)), (6, .int .i64 (m : Int))] [39, 40, 41, 42, 43, 44, 45, 46, 47, 38, 48, 49, 50, 10, 11, 12] (RSp.of_fit gsize.symm gbk gds gus ggd (by decide) ?_) (RSp.of_ok _ (region_tb3X.congr Z N L m S V0 V1 V2 DS ZS) ?_) gsz ?_ ?_ ?_
  · intro p hp
    have hp2 : p ∈ [(14, 13)] := hp
    simp only [List.mem_cons, List.not_mem_nil, or_false] at hp2
    rcases hp2 with rfl
    · refine ⟨rfl, (show 13 ∈ uOf region_tb3U 14 by decide), fun _ => rfl, fun j hj hm => ?_⟩
      match j, hj with
      | 0, _ => rfl
      | 1, _ => rfl
      | 2, _ => rfl
      | 3, _ => rfl
      | 4, _ => rfl
      | 5, _ => rfl
      | 6, _ => rfl
      | 7, _ => rfl
      | 8, _ => rfl
      | 9, _ => rfl
      | 10, _ => rfl
      | 11, _ => rfl
      | 12, _ => rfl
      | 13, _ => rfl
      | 14, hj => exact absurd rfl hj
      | 15, _ => rfl
      | 16, _ => rfl
      | _ + 17, _ => rfl
  · intro i s hds
    match i, hds with
    | 0, hds => cases hds
    | 1, hds => cases hds
    | 2, hds => cases hds
    | 3, hds => cases hds
    | 4, hds => cases hds
    | 5, hds => cases hds
    | 6, hds => cases hds
    | 7, hds => cases hds
    | 8, hds => cases hds
    | 9, hds => cases hds
    | 10, hds => cases hds
    | 11, hds => cases hds
    | 12, hds => cases hds
    | 13, hds => cases hds
    | 14, hds =>
      obtain rfl := Option.some.inj hds
      refine ⟨(show 13 ∈ uOf region_tb3U 14 by decide), fun _ => rfl, fun hds hds' h => ?_⟩
      simp only [h 8 (show 8 ∈ uOf region_tb3U 14 by decide)]
    | 15, hds => cases hds
    | 16, hds => cases hds
    | _ + 17, hds => cases hds
  · intro q hq
    simp only [List.mem_cons, List.not_mem_nil, or_false] at hq
    rcases hq with rfl | rfl
    · exact ⟨o2, by simp⟩
    · exact ⟨o6, by simp⟩
  · intro i o ho _
    have hi : i < 17 := by rw [← gsize]; exact (Array.getElem?_eq_some_iff.1 ho).1
    match i, hi with
    | 0, _ =>
      obtain ⟨ty, pos, aft, e, hdp⟩ := iop0
      rw [e] at ho
      obtain rfl := Option.some.inj ho
      intro a' hds W K hB lq ld hmem hK
      have e2 : a'.eval (.tmp 2) = .pointer (some ⟨Z, 0, none⟩) := by rw [eval_tmp]; exact lq (2, .pointer (some ⟨Z, 0, none⟩)) (by simp)
      have t2 := (eval_tmp a' 2).symm.trans e2
      have HK := Lib.hid (show K (a'.put (some 39) (.agg #[V0, V1, V2])) W from hK W (Below.refl _ _) trivial)
      clear hK ld lq hmem
      have c0 := (hZ.next hB).cell' 0 rfl
      have c1 := (hZ.next hB).cell' 1 rfl
      have c2 := (hZ.next hB).cell' 2 rfl
      unfold Oper.wp
      simp only [execOp, e2]
      go_simp
      exact HK.out
    | 1, _ =>
      obtain ⟨ty, pos, aft, e, hdp⟩ := iop1
      rw [e] at ho
      obtain rfl := Option.some.inj ho
      intro a' hds W K hB lq ld hmem hK
      have e39 : a'.eval (.tmp 39) = .agg #[V0, V1, V2] := by rw [eval_tmp]; exact ld 0 39 (List.all_eq_true.1 hdp 0 (by decide)) rfl
      have t39 := (eval_tmp a' 39).symm.trans e39
      have HK := Lib.hid (show ∀ hh W', Below W.heap.size W W' → (memNats DS).P hh W' → (∀ b ∈ (memNats DS).bl hh, W.heap.size ≤ b ∧ b < W'.heap.size) → K (a'.put (some 40) (.agg #[.int .i64 (N : Int), .slice (some ⟨hh.b, 0, none⟩) L hh.c])) W' from fun hh W' h1 h2 h3 => by
        have h4 : K (a'.put (some 40) (region_tb3X Z N L m S V0 V1 V2 DS ZS 1 (updH hds 1 hh))) W' := hK hh W' h1 h2 h3 trivial
        simp only [region_tb3X, updH_same] at h4
        exact h4)
      clear hK ld lq hmem
      refine step_call (vals := #[.agg #[V0, V1, V2]]) (by exact ⟨_, _, Try.func64, by kernel_rfl, rfl⟩) (by simp only [List.map_toArray, List.map_cons, List.map_nil, e39]) (H64 W hB) ?_
      rintro e w' ⟨g, cap, rfl, hn, hl, hg, hb'⟩
      exact ⟨_, rfl, HK.out ⟨g, cap, 0, 0, none⟩ _ hb' ⟨hn, hg⟩ (bd_one hl hg)⟩
    | 2, _ =>
      obtain ⟨ty, pos, aft, e, hdp⟩ := iop2
      rw [e] at ho
      obtain rfl := Option.some.inj ho
      intro a' hds W K hB lq ld hmem hK
      have e2 : a'.eval (.tmp 2) = .pointer (some ⟨Z, 0, none⟩) := by rw [eval_tmp]; exact lq (2, .pointer (some ⟨Z, 0, none⟩)) (by simp)
      have t2 := (eval_tmp a' 2).symm.trans e2
      have HK := Lib.hid (show K (a'.put (some 41) (.agg #[V0, V1, V2])) W from hK W (Below.refl _ _) trivial)
      clear hK ld lq hmem
      have c0 := (hZ.next hB).cell' 0 rfl
      have c1 := (hZ.next hB).cell' 1 rfl
      have c2 := (hZ.next hB).cell' 2 rfl
      unfold Oper.wp
      simp only [execOp, e2]
      go_simp
      exact HK.out
    | 3, _ =>
      obtain ⟨ty, pos, aft, e, hdp⟩ := iop3
      rw [e] at ho
      obtain rfl := Option.some.inj ho
      intro a' hds W K hB lq ld hmem hK
      have e41 : a'.eval (.tmp 41) = .agg #[V0, V1, V2] := by rw [eval_tmp]; exact ld 2 41 (List.all_eq_true.1 hdp 2 (by decide)) rfl
      have t41 := (eval_tmp a' 41).symm.trans e41
      have HK := Lib.hid (show ∀ hh W', Below W.heap.size W W' → (memNats DS).P hh W' → (∀ b ∈ (memNats DS).bl hh, W.heap.size ≤ b ∧ b < W'.heap.size) → K (a'.put (some 42) (.agg #[.int .i64 (N : Int), .slice (some ⟨hh.b, 0, none⟩) L hh.c])) W' from fun hh W' h1 h2 h3 => by
        have h4 : K (a'.put (some 42) (region_tb3X Z N L m S V0 V1 V2 DS ZS 3 (updH hds 3 hh))) W' := hK hh W' h1 h2 h3 trivial
        simp only [region_tb3X, updH_same] at h4
        exact h4)
      clear hK ld lq hmem
      refine step_call (vals := #[.agg #[V0, V1, V2]]) (by exact ⟨_, _, Try.func64, by kernel_rfl, rfl⟩) (by simp only [List.map_toArray, List.map_cons, List.map_nil, e41]) (H64 W hB) ?_
      rintro e w' ⟨g, cap, rfl, hn, hl, hg, hb'⟩
      exact ⟨_, rfl, HK.out ⟨g, cap, 0, 0, none⟩ _ hb' ⟨hn, hg⟩ (bd_one hl hg)⟩
    | 4, _ =>
      obtain ⟨ty, pos, aft, e, hdp⟩ := iop4
      rw [e] at ho
      obtain rfl := Option.some.inj ho
      intro a' hds W K hB lq ld hmem hK
      have e42 : a'.eval (.tmp 42) = .agg #[.int .i64 (N : Int), .slice (some ⟨(hds 3).b, 0, none⟩) L (hds 3).c] := by rw [eval_tmp]; exact ld 3 42 (List.all_eq_true.1 hdp 3 (by decide)) rfl
      have t42 := (eval_tmp a' 42).symm.trans e42
      have HK := Lib.hid (show K (a'.put (some 43) (.slice (some ⟨(hds 3).b, 0, none⟩) L (hds 3).c)) W from hK W (Below.refl _ _) trivial)
      clear hK ld lq hmem
      unfold Oper.wp
      simp only [execOp, e42]
      go_simp
      exact HK.out
    | 5, _ =>
      obtain ⟨pos, aft, e, hdp⟩ := iop5
      rw [e] at ho
      obtain rfl := Option.some.inj ho
      intro a' hds W K hB lq ld hmem hK
      have e43 : a'.eval (.tmp 43) = .slice (some ⟨(hds 3).b, 0, none⟩) L (hds 3).c := by rw [eval_tmp]; exact ld 4 43 (List.all_eq_true.1 hdp 4 (by decide)) rfl
      have t43 := (eval_tmp a' 43).symm.trans e43
      have HK := Lib.hid (show K (a'.put (some 44) (.int .i64 (L : Int))) W from hK W (Below.refl _ _) trivial)
      clear hK ld lq hmem
      unfold Oper.wp
      simp only [execOp, e43]
      go_simp
      exact HK.out
    | 6, _ =>
      obtain ⟨ty, pos, aft, e, hdp⟩ := iop6
      rw [e] at ho
      obtain rfl := Option.some.inj ho
      intro a' hds W K hB lq ld hmem hK
      have e44 : a'.eval (.tmp 44) = .int .i64 (L : Int) := by rw [eval_tmp]; exact ld 5 44 (List.all_eq_true.1 hdp 5 (by decide)) rfl
      have t44 := (eval_tmp a' 44).symm.trans e44
      have HK := Lib.hid (show ∀ hh W', Below W.heap.size W W' → (memNats (List.replicate L 0)).P hh W' → (∀ b ∈ (memNats (List.replicate L 0)).bl hh, W.heap.size ≤ b ∧ b < W'.heap.size) → K (a'.put (some 45) (.slice (some ⟨hh.b, 0, none⟩) L L)) W' from fun hh W' h1 h2 h3 => by
        have h4 : K (a'.put (some 45) (region_tb3X Z N L m S V0 V1 V2 DS ZS 6 (updH hds 6 hh))) W' := hK hh W' h1 h2 h3 trivial
        simp only [region_tb3X, updH_same] at h4
        exact h4)
      clear hK ld lq hmem
      have hfin := Lib.hid (HK.out ⟨W.heap.size, 0, 0, 0, none⟩ _ ((Below.refl _ _).alloc (Nat.le_refl _) (.cells (madeCells #[.int .i64 0] L) 3)) ⟨(NatBlk.made W L).nats, (NatBlk.made W L).lt⟩ (bd_one (Nat.le_refl _) (by simp)))
      have hmk := run_make_row' (P := Try.prog) 24 3 (.int .i64 0) 8 Try.underlying24 Try.info3 rfl .i64 .i64 L (by omega) (by omega)
      clear HK
      unfold Oper.wp
      simp only [execOp, e44]
      go_simp
      exact hfin.out
    | 7, _ =>
      obtain ⟨ty, pos, aft, e, hdp⟩ := iop7
      rw [e] at ho
      obtain rfl := Option.some.inj ho
      intro a' hds W K hB lq ld hmem hK
      have e6 : a'.eval (.tmp 6) = .int .i64 (m : Int) := by rw [eval_tmp]; exact lq (6, .int .i64 (m : Int)) (by simp)
      have t6 := (eval_tmp a' 6).symm.trans e6
      have HK := Lib.hid (show K (a'.put (some 46) (.int .i64 (m : Int))) W from hK W (Below.refl _ _) trivial)
      clear hK ld lq hmem
      unfold Oper.wp
      simp only [execOp, e6]
      exact HK.out
    | 8, _ =>
      obtain ⟨ty, pos, aft, e, hdp⟩ := iop8
      rw [e] at ho
      obtain rfl := Option.some.inj ho
      intro a' hds W K hB lq ld hmem hK
      have e40 : a'.eval (.tmp 40) = .agg #[.int .i64 (N : Int), .slice (some ⟨(hds 1).b, 0, none⟩) L (hds 1).c] := by rw [eval_tmp]; exact ld 1 40 (List.all_eq_true.1 hdp 1 (by decide)) rfl
      have t40 := (eval_tmp a' 40).symm.trans e40
      have e45 : a'.eval (.tmp 45) = .slice (some ⟨(hds 6).b, 0, none⟩) L L := by rw [eval_tmp]; exact ld 6 45 (List.all_eq_true.1 hdp 6 (by decide)) rfl
      have t45 := (eval_tmp a' 45).symm.trans e45
      have e46 : a'.eval (.tmp 46) = .int .i64 (m : Int) := by rw [eval_tmp]; exact ld 7 46 (List.all_eq_true.1 hdp 7 (by decide)) rfl
      have t46 := (eval_tmp a' 46).symm.trans e46
      have HK := Lib.hid (show ∀ hh W', Below W.heap.size W W' → (memNats ZS).P hh W' → (∀ b ∈ (memNats ZS).bl hh, W.heap.size ≤ b ∧ b < W'.heap.size) → K (a'.put (some 47) (.tuple #[.agg #[.int .i64 (N : Int), .slice (some ⟨hh.b, 0, none⟩) L hh.c], .int .i64 (S : Int), .int .i64 0])) W' from fun hh W' h1 h2 h3 => by
        have h4 : K (a'.put (some 47) (region_tb3X Z N L m S V0 V1 V2 DS ZS 8 (updH hds 8 hh))) W' := hK hh W' h1 h2 h3 trivial
        simp only [region_tb3X, updH_same] at h4
        exact h4)
      have m40   := (hmem 1 (show 1 ∈ uOf region_tb3U 8 by decide) (by decide)).1
      have m42   := (hmem 3 (show 3 ∈ uOf region_tb3U 8 by decide) (by decide)).1
      have m45   := (hmem 6 (show 6 ∈ uOf region_tb3U 8 by decide) (by decide)).1
      clear hK ld lq hmem
      refine step_call (vals := #[.agg #[.int .i64 (N : Int), .slice (some ⟨(hds 1).b, 0, none⟩) L (hds 1).c], .slice (some ⟨(hds 6).b, 0, none⟩) L L, .int .i64 (m : Int)]) (by exact ⟨_, _, Try.func69, by kernel_rfl, rfl⟩) (by simp only [List.map_toArray, List.map_cons, List.map_nil, e40, e45, e46]) (H69 (hds 1).b (hds 1).c (hds 6).b W m40.1 m40.2 m45.1 m45.2) ?_
      rintro e w' ⟨g, cap, rfl, hn, hl, hg, hb'⟩
      exact ⟨_, rfl, HK.out ⟨g, cap, 0, 0, none⟩ _ hb' ⟨hn, hg⟩ (bd_one hl hg)⟩
    | 9, _ =>
      obtain ⟨ty, pos, aft, e, hdp⟩ := iop9
      rw [e] at ho
      obtain rfl := Option.some.inj ho
      intro a' hds W K hB lq ld hmem hK
      have e47 : a'.eval (.tmp 47) = .tuple #[.agg #[.int .i64 (N : Int), .slice (some ⟨(hds 8).b, 0, none⟩) L (hds 8).c], .int .i64 (S : Int), .int .i64 0] := by rw [eval_tmp]; exact ld 8 47 (List.all_eq_true.1 hdp 8 (by decide)) rfl
      have t47 := (eval_tmp a' 47).symm.trans e47
      have HK := Lib.hid (show K (a'.put (some 38) (.tuple #[.agg #[.int .i64 (N : Int), .slice (some ⟨(hds 8).b, 0, none⟩) L (hds 8).c], .int .i64 (S : Int), .int .i64 0])) W from hK W (Below.refl _ _) trivial)
      clear hK ld lq hmem
      unfold Oper.wp
      simp only [execOp, e47]
      exact HK.out
    | 10, _ =>
      obtain ⟨ty, pos, aft, e, hdp⟩ := iop10
      rw [e] at ho
      obtain rfl := Option.some.inj ho
      intro a' hds W K hB lq ld hmem hK
      have e38 : a'.eval (.tmp 38) = .tuple #[.agg #[.int .i64 (N : Int), .slice (some ⟨(hds 8).b, 0, none⟩) L (hds 8).c], .int .i64 (S : Int), .int .i64 0] := by rw [eval_tmp]; exact ld 9 38 (List.all_eq_true.1 hdp 9 (by decide)) rfl
      have t38 := (eval_tmp a' 38).symm.trans e38
      have HK := Lib.hid (show K (a'.put (some 48) (.agg #[.int .i64 (N : Int), .slice (some ⟨(hds 8).b, 0, none⟩) L (hds 8).c])) W from hK W (Below.refl _ _) trivial)
      clear hK ld lq hmem
      unfold Oper.wp
      simp only [execOp, e38]
      exact HK.out
    | 11, _ =>
      obtain ⟨ty, pos, aft, e, hdp⟩ := iop11
      rw [e] at ho
      obtain rfl := Option.some.inj ho
      intro a' hds W K hB lq ld hmem hK
      have e38 : a'.eval (.tmp 38) = .tuple #[.agg #[.int .i64 (N : Int), .slice (some ⟨(hds 8).b, 0, none⟩) L (hds 8).c], .int .i64 (S : Int), .int .i64 0] := by rw [eval_tmp]; exact ld 9 38 (List.all_eq_true.1 hdp 9 (by decide)) rfl
      have t38 := (eval_tmp a' 38).symm.trans e38
      have HK := Lib.hid (show K (a'.put (some 49) (.int .i64 (S : Int))) W from hK W (Below.refl _ _) trivial)
      clear hK ld lq hmem
      unfold Oper.wp
      simp only [execOp, e38]
      exact HK.out
    | 12, _ =>
      obtain ⟨ty, pos, aft, e, hdp⟩ := iop12
      rw [e] at ho
      obtain rfl := Option.some.inj ho
      intro a' hds W K hB lq ld hmem hK
      have e38 : a'.eval (.tmp 38) = .tuple #[.agg #[.int .i64 (N : Int), .slice (some ⟨(hds 8).b, 0, none⟩) L (hds 8).c], .int .i64 (S : Int), .int .i64 0] := by rw [eval_tmp]; exact ld 9 38 (List.all_eq_true.1 hdp 9 (by decide)) rfl
      have t38 := (eval_tmp a' 38).symm.trans e38
      have HK := Lib.hid (show K (a'.put (some 50) (.int .i64 0)) W from hK W (Below.refl _ _) trivial)
      clear hK ld lq hmem
      unfold Oper.wp
      simp only [execOp, e38]
      exact HK.out
    | 13, _ =>
      obtain ⟨ty, pos, aft, e, hdp⟩ := iop13
      rw [e] at ho
      obtain rfl := Option.some.inj ho
      intro a' hds W K hB lq ld hmem hK
      have HK := Lib.hid (show ∀ hh W', Below W.heap.size W W' → (memBox 2 37).P hh W' → (∀ b ∈ (memBox 2 37).bl hh, W.heap.size ≤ b ∧ b < W'.heap.size) → K (a'.put (some 10) (.pointer (some ⟨hh.b, 0, none⟩))) W' from fun hh W' h1 h2 h3 => by
        have h4 : K (a'.put (some 10) (region_tb3X Z N L m S V0 V1 V2 DS ZS 13 (updH hds 13 hh))) W' := hK hh W' h1 h2 h3 trivial
        simp only [region_tb3X, updH_same] at h4
        exact h4)
      clear hK ld lq hmem
      have hfin := Lib.hid (HK.out ⟨W.heap.size, 0, 0, 0, none⟩ _ ((Below.refl _ _).alloc (Nat.le_refl _) (.cells #[.int .i64 0, .slice none 0 0] 37)) ⟨_, rfl, BoxAt.new W #[.int .i64 0, .slice none 0 0] 37⟩ (bd_one (Nat.le_refl _) (by simp)))
      clear HK
      unfold Oper.wp
      simp only [execOp]
      go_simp
      exact hfin.out
    | 14, _ =>
      obtain ⟨ty, pos, aft, e, hdp⟩ := iop14
      rw [e] at ho
      obtain rfl := Option.some.inj ho
      intro a' hds W K hB lq ld hmem hK
      have e10 : a'.eval (.tmp 10) = .pointer (some ⟨(hds 13).b, 0, none⟩) := by rw [eval_tmp]; exact ld 13 10 (List.all_eq_true.1 hdp 13 (by decide)) rfl
      have t10 := (eval_tmp a' 10).symm.trans e10
      have e48 : a'.eval (.tmp 48) = .agg #[.int .i64 (N : Int), .slice (some ⟨(hds 8).b, 0, none⟩) L (hds 8).c] := by rw [eval_tmp]; exact ld 10 48 (List.all_eq_true.1 hdp 10 (by decide)) rfl
      have t48 := (eval_tmp a' 48).symm.trans e48
      obtain ⟨⟨vs, hvs, hbx⟩, _⟩ := hmem 13 (show 13 ∈ uOf region_tb3U 14 by decide) (by decide)
      have hvl : vs.toList.length = 2 := by simpa using hvs
      obtain ⟨v0, v1, rfl⟩ : ∃ v0 v1, vs = #[v0, v1] := by
        cases vs with
        | mk l =>
          match l, hvl with
          | [v0, v1], _ => exact ⟨_, _, rfl⟩
      have HK := Lib.hid (show ∀ W', SetAt (hds 13).b W W' → (memBox 2 37).P (hds 13) W' → BoxAt W' (hds 13).b #[.int .i64 (N : Int), .slice (some ⟨(hds 8).b, 0, none⟩) L (hds 8).c] 37 → K a' W' from hK)
      clear hK ld lq hmem
      have hfin := Lib.hid (HK.out _ (((SetAt.refl (hds 13).b W).cell 0 (.int .i64 (N : Int))).cell 1 (.slice (some ⟨(hds 8).b, 0, none⟩) L (hds 8).c)) ⟨_, rfl, ((hbx).set 0 (.int .i64 (N : Int))).set 1 (.slice (some ⟨(hds 8).b, 0, none⟩) L (hds 8).c)⟩ (((hbx).set 0 (.int .i64 (N : Int))).set 1 (.slice (some ⟨(hds 8).b, 0, none⟩) L (hds 8).c)))
      have c0 := hbx.cell' 0 rfl
      have f0 := hbx.frozen 0
      have c1 := hbx.cell' 1 rfl
      have f1 := hbx.frozen 1
      have hlt := hbx.lt
      clear hbx hvl hvs HK
      generalize (hds 13).b = B at *
      unfold Oper.wp
      simp only [execOp, e10, e48]
      clear e10 e48
      go_simp
      exact hfin.out
    | 15, _ =>
      obtain ⟨ty, pos, aft, e, hdp⟩ := iop15
      rw [e] at ho
      obtain rfl := Option.some.inj ho
      intro a' hds W K hB lq ld hmem hK
      have e49 : a'.eval (.tmp 49) = .int .i64 (S : Int) := by rw [eval_tmp]; exact ld 11 49 (List.all_eq_true.1 hdp 11 (by decide)) rfl
      have t49 := (eval_tmp a' 49).symm.trans e49
      have HK := Lib.hid (show K (a'.put (some 11) (.int .i64 (S : Int))) W from hK W (Below.refl _ _) trivial)
      clear hK ld lq hmem
      unfold Oper.wp
      simp only [execOp, e49]
      exact HK.out
    | 16, _ =>
      obtain ⟨ty, pos, aft, e, hdp⟩ := iop16
      rw [e] at ho
      obtain rfl := Option.some.inj ho
      intro a' hds W K hB lq ld hmem hK
      have e50 : a'.eval (.tmp 50) = .int .i64 0 := by rw [eval_tmp]; exact ld 12 50 (List.all_eq_true.1 hdp 12 (by decide)) rfl
      have t50 := (eval_tmp a' 50).symm.trans e50
      have HK := Lib.hid (show K (a'.put (some 12) (.int .i64 0)) W from hK W (Below.refl _ _) trivial)
      clear hK ld lq hmem
      unfold Oper.wp
      simp only [execOp, e50]
      exact HK.out
    | i + 17, h => omega
  · intro hds v W hO
    have hfin := gend (hds 1).b (hds 1).c (hds 1).b2 (hds 1).c2 (hds 3).b (hds 3).c (hds 3).b2 (hds 3).c2 (hds 6).b (hds 6).c (hds 6).b2 (hds 6).c2 (hds 8).b (hds 8).c (hds 8).b2 (hds 8).c2 (hds 13).b (hds 13).c (hds 13).b2 (hds 13).c2 (hds 1).p (hds 3).p (hds 6).p (hds 8).p (hds 13).p (v 39) (v 40) (v 41) (v 42) (v 43) (v 44) (v 45) (v 46) (v 47) (v 38) (v 48) (v 49) (v 50) W hO.b (hO.m 1 (by show 1 < 17; decide) rfl).1 (hO.m 1 (by show 1 < 17; decide) rfl).2 (hO.m 3 (by show 3 < 17; decide) rfl).1 (hO.m 3 (by show 3 < 17; decide) rfl).2 (hO.m 6 (by show 6 < 17; decide) rfl).1 (hO.m 6 (by show 6 < 17; decide) rfl).2 (hO.m 8 (by show 8 < 17; decide) rfl).1 (hO.m 8 (by show 8 < 17; decide) rfl).2 ((hO.m 13 (by show 13 < 17; decide) rfl).2 _ (by show _ ∈ [_]; simp)).1 ((hO.m 13 (by show 13 < 17; decide) rfl).2 _ (by show _ ∈ [_]; simp)).2 (hO.s 14 (by show 14 < 17; decide) rfl)
    rw [← laid_putL _ a v ?_] at hfin
    · exact hfin
    · intro p hp
      simp only [List.mem_cons, List.not_mem_nil, or_false] at hp
      rcases hp with rfl | rfl | rfl | rfl | rfl | rfl | rfl | rfl | rfl | rfl | rfl | rfl | rfl | rfl | rfl | rfl
      · rfl
      · rfl
      · rfl
      · rfl
      · rfl
      · rfl
      · rfl
      · rfl
      · rfl
      · rfl
      · rfl
      · rfl
      · rfl
      · exact hO.x 13 (show 13 < 17 by decide) 10 rfl
      · exact hO.x 15 (show 15 < 17 by decide) 11 rfl
      · exact hO.x 16 (show 16 < 17 by decide) 12 rfl
def region_tb3nU : List (List Nat) := [[], [1], [], [3], [3], [3], [3, 6], [], [1, 3, 6], [1, 3, 6], [1, 3, 6], [1, 3, 6], [1, 3, 6], [13], [1, 3, 6, 13], [1, 3, 6], [1, 3, 6]]
def region_tb3nX (_Z N L m : Nat) (V0 V1 V2 : Value) (_DS : List Nat) : Nat → (Nat → Hd) → Value
  | 0, _ => .agg #[V0, V1, V2]
  | 1, hds => .agg #[.int .i64 (N : Int), .slice (some ⟨(hds 1).b, 0, none⟩) L (hds 1).c]
  | 2, _ => .agg #[V0, V1, V2]
  | 3, hds => .agg #[.int .i64 (N : Int), .slice (some ⟨(hds 3).b, 0, none⟩) L (hds 3).c]
  | 4, hds => .slice (some ⟨(hds 3).b, 0, none⟩) L (hds 3).c
  | 5, _ => .int .i64 (L : Int)
  | 6, hds => .slice (some ⟨(hds 6).b, 0, none⟩) L L
  | 7, _ => .int .i64 (m : Int)
  | 8, _ => .tuple #[.agg #[.int .i64 0, .slice none 0 0], .int .i64 0, .int .i64 9]
  | 9, _ => .tuple #[.agg #[.int .i64 0, .slice none 0 0], .int .i64 0, .int .i64 9]
  | 10, _ => .agg #[.int .i64 0, .slice none 0 0]
  | 11, _ => .int .i64 0
  | 12, _ => .int .i64 9
  | 13, hds => .pointer (some ⟨(hds 13).b, 0, none⟩)
  | 14, _ => undef
  | 15, _ => .int .i64 0
  | 16, _ => .int .i64 9
  | _ + 17, _ => undef
theorem region_tb3nX.congr (Z N L m : Nat) (V0 V1 V2 : Value) (DS : List Nat) : ∀ i hds hds', (∀ r ∈ uOf region_tb3nU i, hds r = hds' r) → region_tb3nX Z N L m V0 V1 V2 DS i hds = region_tb3nX Z N L m V0 V1 V2 DS i hds'
  | 0, _, _, _ => rfl
  | 1, hds, hds', h => by simp only [region_tb3nX, h 1 (show 1 ∈ uOf region_tb3nU 1 by decide)]
  | 2, _, _, _ => rfl
  | 3, hds, hds', h => by simp only [region_tb3nX, h 3 (show 3 ∈ uOf region_tb3nU 3 by decide)]
  | 4, hds, hds', h => by simp only [region_tb3nX, h 3 (show 3 ∈ uOf region_tb3nU 4 by decide)]
  | 5, _, _, _ => rfl
  | 6, hds, hds', h => by simp only [region_tb3nX, h 6 (show 6 ∈ uOf region_tb3nU 6 by decide)]
  | 7, _, _, _ => rfl
  | 8, _, _, _ => rfl
  | 9, _, _, _ => rfl
  | 10, _, _, _ => rfl
  | 11, _, _, _ => rfl
  | 12, _, _, _ => rfl
  | 13, hds, hds', h => by simp only [region_tb3nX, h 13 (show 13 ∈ uOf region_tb3nU 13 by decide)]
  | 14, _, _, _ => rfl
  | 15, _, _, _ => rfl
  | 16, _, _, _ => rfl
  | _ + 17, _, _, _ => rfl
def region_tb3nM (_Z _N L _m : Nat) (_V0 _V1 _V2 : Value) (DS : List Nat) : Nat → Mem
  | 1 => memNats DS
  | 3 => memNats DS
  | 6 => memNats (List.replicate L 0)
  | 13 => memBox 2 37
  | _ => memNone
def region_tb3nS (_Z _N _L _m : Nat) (_V0 _V1 _V2 : Value) (_DS : List Nat) : Nat → Option Sto
  | 14 => some ⟨13, 37, fun _ => #[.int .i64 0, .slice none 0 0]⟩
  | _ => none
set_option maxRecDepth 8000 in
set_option maxHeartbeats 2000000 in
theorem region_tb3n {id : Nat} {ops : Array Oper} {Q : Exit → Act → World → Prop} {a : Act} {w : World} (Z N L m : Nat) (V0 V1 V2 : Value) (DS : List Nat) (H64 : ∀ W, Below w.heap.size w W → Calls Try.prog 64 #[.agg #[V0, V1, V2]] W (MadeL N L DS W)) (hL6 : L ≤ 60) (H69 : ∀ b c f W, NatsAt W b 0 DS → b < W.heap.size → NatsAt W f 0 (List.replicate L 0) → f < W.heap.size → Calls Try.prog 69 #[.agg #[.int .i64 (N : Int), .slice (some ⟨b, 0, none⟩) L c], .slice (some ⟨f, 0, none⟩) L L, .int .i64 (m : Int)] W fun e w' => e = .returned (.tuple #[.agg #[.int .i64 0, .slice none 0 0], .int .i64 0, .int .i64 9]) ∧ Below W.heap.size W w') (hZ : BoxAt w Z #[V0, V1, V2] 92)
    (gsize : ops.size = 17)
    (gops : IsOp ops 0 (some 39) (.load 92 (.tmp 2)) none [] ∧ IsOp ops 1 (some 40) (.call { callee := .value (.func 64), args := #[.tmp 39], argTypes := #[92] }) none [0] ∧ IsOp ops 2 (some 41) (.load 92 (.tmp 2)) none [] ∧ IsOp ops 3 (some 42) (.call { callee := .value (.func 64), args := #[.tmp 41], argTypes := #[92] }) none [2] ∧ IsOp ops 4 (some 43) (.field 37 (.tmp 42) 1) none [3] ∧ IsOpL ops 5 (some 44) (.call { callee := .builtin .len, args := #[.tmp 43], argTypes := #[24] }) none [4] ∧ IsOp ops 6 (some 45) (.makeSlice 24 (.tmp 44) (.tmp 44)) none [5] ∧ IsOp ops 7 (some 46) (.move (.tmp 6)) none [] ∧ IsOp ops 8 (some 47) (.call { callee := .value (.func 69), args := #[.tmp 40, .tmp 45, .tmp 46], argTypes := #[37, 24, 3] }) none [1, 6, 7] ∧ IsOp ops 9 (some 38) (.move (.tmp 47)) none [8] ∧ IsOp ops 10 (some 48) (.extract (.tmp 38) 0) none [9] ∧ IsOp ops 11 (some 49) (.extract (.tmp 38) 1) none [9] ∧ IsOp ops 12 (some 50) (.extract (.tmp 38) 2) none [9] ∧ IsOp ops 13 (some 10) (.alloc 37) none [] ∧ IsOp ops 14 none (.store 37 (.tmp 10) (.tmp 48)) none [10, 13] ∧ IsOp ops 15 (some 11) (.assign (.tmp 49)) none [11] ∧ IsOp ops 16 (some 12) (.assign (.tmp 50)) none [12])
    (gbk : backB ops = true) (gds : dstsB ops (dOf [some 39, some 40, some 41, some 42, some 43, some 44, some 45, some 46, some 47, some 38, some 48, some 49, some 50, some 10, none, some 11, some 12]) = true) (gus : useB ops (uOf region_tb3nU) (kOf [0, 1, 0, 1, 0, 0, 1, 0, 0, 0, 0, 0, 0, 1, 15, 0, 0]) = true) (ggd : plainB ops = true) (gsz : ∀ e ∈ [39, 40, 41, 42, 43, 44, 45, 46, 47, 38, 48, 49, 50, 10, 11, 12], e < a.tmps.size)
    (gout : a.eval (.tmp 2) = .pointer (some ⟨Z, 0, none⟩) ∧ a.eval (.tmp 6) = .int .i64 (m : Int))
    (gend : ∀ (g40 q40 G40 Q40 g42 q42 G42 Q42 g45 q45 G45 Q45 g10 q10 G10 Q10 : Nat) (P40 P42 P45 P10 : Option Addr) (u39 u40 u41 u42 u43 u44 u45 u46 u47 u38 u48 u49 u50 : Value) (W : World), Below w.heap.size w W → (memNats DS).P ⟨g40, q40, G40, Q40, P40⟩ W → (∀ b ∈ (memNats DS).bl ⟨g40, q40, G40, Q40, P40⟩, w.heap.size ≤ b ∧ b < W.heap.size) → (memNats DS).P ⟨g42, q42, G42, Q42, P42⟩ W → (∀ b ∈ (memNats DS).bl ⟨g42, q42, G42, Q42, P42⟩, w.heap.size ≤ b ∧ b < W.heap.size) → (memNats (List.replicate L 0)).P ⟨g45, q45, G45, Q45, P45⟩ W → (∀ b ∈ (memNats (List.replicate L 0)).bl ⟨g45, q45, G45, Q45, P45⟩, w.heap.size ≤ b ∧ b < W.heap.size) → w.heap.size ≤ g10 → g10 < W.heap.size → BoxAt W g10 #[.int .i64 0, .slice none 0 0] 37 → Q .normal (putL a [(39, u39), (40, u40), (41, u41), (42, u42), (43, u43), (44, u44), (45, u45), (46, u46), (47, u47), (38, u38), (48, u48), (49, u49), (50, u50), (10, .pointer (some ⟨g10, 0, none⟩)), (11, .int .i64 0), (12, .int .i64 9)]) W) :
    (Code.region id ops true).wp Try.prog Q a w := by
  obtain ⟨iop0, iop1, iop2, iop3, iop4, iop5, iop6, iop7, iop8, iop9, iop10, iop11, iop12, iop13, iop14, iop15, iop16⟩ := gops
  obtain ⟨o2, o6⟩ := gout
  refine region_all (RSp.of 17 [some 39, some 40, some 41, some 42, some 43, some 44, some 45, some 46, some 47, some 38, some 48, some 49, some 50, some 10, none, some 11, some 12] (fun _ => true) (region_tb3nX Z N L m V0 V1 V2 DS) region_tb3nU [0, 1, 0, 1, 0, 0, 1, 0, 0, 0, 0, 0, 0, 1, 15, 0, 0] (region_tb3nM Z N L m V0 V1 V2 DS) (region_tb3nS Z N L m V0 V1 V2 DS)) [(2, .pointer (some ⟨Z, 0, none⟩)), (6, .int .i64 (m : Int))] [39, 40, 41, 42, 43, 44, 45, 46, 47, 38, 48, 49, 50, 10, 11, 12] (RSp.of_fit gsize.symm gbk gds gus ggd (by decide) ?_) (RSp.of_ok _ (region_tb3nX.congr Z N L m V0 V1 V2 DS) ?_) gsz ?_ ?_ ?_
  · intro p hp
    have hp2 : p ∈ [(14, 13)] := hp
    simp only [List.mem_cons, List.not_mem_nil, or_false] at hp2
    rcases hp2 with rfl
    · refine ⟨rfl, (show 13 ∈ uOf region_tb3nU 14 by decide), fun _ => rfl, fun j hj hm => ?_⟩
      match j, hj with
      | 0, _ => rfl
      | 1, _ => rfl
      | 2, _ => rfl
      | 3, _ => rfl
      | 4, _ => rfl
      | 5, _ => rfl
      | 6, _ => rfl
      | 7, _ => rfl
      | 8, _ => rfl
      | 9, _ => rfl
      | 10, _ => rfl
      | 11, _ => rfl
      | 12, _ => rfl
      | 13, _ => rfl
      | 14, hj => exact absurd rfl hj
      | 15, _ => rfl
      | 16, _ => rfl
      | _ + 17, _ => rfl
  · intro i s hds
    match i, hds with
    | 0, hds => cases hds
    | 1, hds => cases hds
    | 2, hds => cases hds
    | 3, hds => cases hds
    | 4, hds => cases hds
    | 5, hds => cases hds
    | 6, hds => cases hds
    | 7, hds => cases hds
    | 8, hds => cases hds
    | 9, hds => cases hds
    | 10, hds => cases hds
    | 11, hds => cases hds
    | 12, hds => cases hds
    | 13, hds => cases hds
    | 14, hds =>
      obtain rfl := Option.some.inj hds
      refine ⟨(show 13 ∈ uOf region_tb3nU 14 by decide), fun _ => rfl, fun hds hds' h => ?_⟩
      rfl
    | 15, hds => cases hds
    | 16, hds => cases hds
    | _ + 17, hds => cases hds
  · intro q hq
    simp only [List.mem_cons, List.not_mem_nil, or_false] at hq
    rcases hq with rfl | rfl
    · exact ⟨o2, by simp⟩
    · exact ⟨o6, by simp⟩
  · intro i o ho _
    have hi : i < 17 := by rw [← gsize]; exact (Array.getElem?_eq_some_iff.1 ho).1
    match i, hi with
    | 0, _ =>
      obtain ⟨ty, pos, aft, e, hdp⟩ := iop0
      rw [e] at ho
      obtain rfl := Option.some.inj ho
      intro a' hds W K hB lq ld hmem hK
      have e2 : a'.eval (.tmp 2) = .pointer (some ⟨Z, 0, none⟩) := by rw [eval_tmp]; exact lq (2, .pointer (some ⟨Z, 0, none⟩)) (by simp)
      have t2 := (eval_tmp a' 2).symm.trans e2
      have HK := Lib.hid (show K (a'.put (some 39) (.agg #[V0, V1, V2])) W from hK W (Below.refl _ _) trivial)
      clear hK ld lq hmem
      have c0 := (hZ.next hB).cell' 0 rfl
      have c1 := (hZ.next hB).cell' 1 rfl
      have c2 := (hZ.next hB).cell' 2 rfl
      unfold Oper.wp
      simp only [execOp, e2]
      go_simp
      exact HK.out
    | 1, _ =>
      obtain ⟨ty, pos, aft, e, hdp⟩ := iop1
      rw [e] at ho
      obtain rfl := Option.some.inj ho
      intro a' hds W K hB lq ld hmem hK
      have e39 : a'.eval (.tmp 39) = .agg #[V0, V1, V2] := by rw [eval_tmp]; exact ld 0 39 (List.all_eq_true.1 hdp 0 (by decide)) rfl
      have t39 := (eval_tmp a' 39).symm.trans e39
      have HK := Lib.hid (show ∀ hh W', Below W.heap.size W W' → (memNats DS).P hh W' → (∀ b ∈ (memNats DS).bl hh, W.heap.size ≤ b ∧ b < W'.heap.size) → K (a'.put (some 40) (.agg #[.int .i64 (N : Int), .slice (some ⟨hh.b, 0, none⟩) L hh.c])) W' from fun hh W' h1 h2 h3 => by
        have h4 : K (a'.put (some 40) (region_tb3nX Z N L m V0 V1 V2 DS 1 (updH hds 1 hh))) W' := hK hh W' h1 h2 h3 trivial
        simp only [region_tb3nX, updH_same] at h4
        exact h4)
      clear hK ld lq hmem
      refine step_call (vals := #[.agg #[V0, V1, V2]]) (by exact ⟨_, _, Try.func64, by kernel_rfl, rfl⟩) (by simp only [List.map_toArray, List.map_cons, List.map_nil, e39]) (H64 W hB) ?_
      rintro e w' ⟨g, cap, rfl, hn, hl, hg, hb'⟩
      exact ⟨_, rfl, HK.out ⟨g, cap, 0, 0, none⟩ _ hb' ⟨hn, hg⟩ (bd_one hl hg)⟩
    | 2, _ =>
      obtain ⟨ty, pos, aft, e, hdp⟩ := iop2
      rw [e] at ho
      obtain rfl := Option.some.inj ho
      intro a' hds W K hB lq ld hmem hK
      have e2 : a'.eval (.tmp 2) = .pointer (some ⟨Z, 0, none⟩) := by rw [eval_tmp]; exact lq (2, .pointer (some ⟨Z, 0, none⟩)) (by simp)
      have t2 := (eval_tmp a' 2).symm.trans e2
      have HK := Lib.hid (show K (a'.put (some 41) (.agg #[V0, V1, V2])) W from hK W (Below.refl _ _) trivial)
      clear hK ld lq hmem
      have c0 := (hZ.next hB).cell' 0 rfl
      have c1 := (hZ.next hB).cell' 1 rfl
      have c2 := (hZ.next hB).cell' 2 rfl
      unfold Oper.wp
      simp only [execOp, e2]
      go_simp
      exact HK.out
    | 3, _ =>
      obtain ⟨ty, pos, aft, e, hdp⟩ := iop3
      rw [e] at ho
      obtain rfl := Option.some.inj ho
      intro a' hds W K hB lq ld hmem hK
      have e41 : a'.eval (.tmp 41) = .agg #[V0, V1, V2] := by rw [eval_tmp]; exact ld 2 41 (List.all_eq_true.1 hdp 2 (by decide)) rfl
      have t41 := (eval_tmp a' 41).symm.trans e41
      have HK := Lib.hid (show ∀ hh W', Below W.heap.size W W' → (memNats DS).P hh W' → (∀ b ∈ (memNats DS).bl hh, W.heap.size ≤ b ∧ b < W'.heap.size) → K (a'.put (some 42) (.agg #[.int .i64 (N : Int), .slice (some ⟨hh.b, 0, none⟩) L hh.c])) W' from fun hh W' h1 h2 h3 => by
        have h4 : K (a'.put (some 42) (region_tb3nX Z N L m V0 V1 V2 DS 3 (updH hds 3 hh))) W' := hK hh W' h1 h2 h3 trivial
        simp only [region_tb3nX, updH_same] at h4
        exact h4)
      clear hK ld lq hmem
      refine step_call (vals := #[.agg #[V0, V1, V2]]) (by exact ⟨_, _, Try.func64, by kernel_rfl, rfl⟩) (by simp only [List.map_toArray, List.map_cons, List.map_nil, e41]) (H64 W hB) ?_
      rintro e w' ⟨g, cap, rfl, hn, hl, hg, hb'⟩
      exact ⟨_, rfl, HK.out ⟨g, cap, 0, 0, none⟩ _ hb' ⟨hn, hg⟩ (bd_one hl hg)⟩
    | 4, _ =>
      obtain ⟨ty, pos, aft, e, hdp⟩ := iop4
      rw [e] at ho
      obtain rfl := Option.some.inj ho
      intro a' hds W K hB lq ld hmem hK
      have e42 : a'.eval (.tmp 42) = .agg #[.int .i64 (N : Int), .slice (some ⟨(hds 3).b, 0, none⟩) L (hds 3).c] := by rw [eval_tmp]; exact ld 3 42 (List.all_eq_true.1 hdp 3 (by decide)) rfl
      have t42 := (eval_tmp a' 42).symm.trans e42
      have HK := Lib.hid (show K (a'.put (some 43) (.slice (some ⟨(hds 3).b, 0, none⟩) L (hds 3).c)) W from hK W (Below.refl _ _) trivial)
      clear hK ld lq hmem
      unfold Oper.wp
      simp only [execOp, e42]
      go_simp
      exact HK.out
    | 5, _ =>
      obtain ⟨pos, aft, e, hdp⟩ := iop5
      rw [e] at ho
      obtain rfl := Option.some.inj ho
      intro a' hds W K hB lq ld hmem hK
      have e43 : a'.eval (.tmp 43) = .slice (some ⟨(hds 3).b, 0, none⟩) L (hds 3).c := by rw [eval_tmp]; exact ld 4 43 (List.all_eq_true.1 hdp 4 (by decide)) rfl
      have t43 := (eval_tmp a' 43).symm.trans e43
      have HK := Lib.hid (show K (a'.put (some 44) (.int .i64 (L : Int))) W from hK W (Below.refl _ _) trivial)
      clear hK ld lq hmem
      unfold Oper.wp
      simp only [execOp, e43]
      go_simp
      exact HK.out
    | 6, _ =>
      obtain ⟨ty, pos, aft, e, hdp⟩ := iop6
      rw [e] at ho
      obtain rfl := Option.some.inj ho
      intro a' hds W K hB lq ld hmem hK
      have e44 : a'.eval (.tmp 44) = .int .i64 (L : Int) := by rw [eval_tmp]; exact ld 5 44 (List.all_eq_true.1 hdp 5 (by decide)) rfl
      have t44 := (eval_tmp a' 44).symm.trans e44
      have HK := Lib.hid (show ∀ hh W', Below W.heap.size W W' → (memNats (List.replicate L 0)).P hh W' → (∀ b ∈ (memNats (List.replicate L 0)).bl hh, W.heap.size ≤ b ∧ b < W'.heap.size) → K (a'.put (some 45) (.slice (some ⟨hh.b, 0, none⟩) L L)) W' from fun hh W' h1 h2 h3 => by
        have h4 : K (a'.put (some 45) (region_tb3nX Z N L m V0 V1 V2 DS 6 (updH hds 6 hh))) W' := hK hh W' h1 h2 h3 trivial
        simp only [region_tb3nX, updH_same] at h4
        exact h4)
      clear hK ld lq hmem
      have hfin := Lib.hid (HK.out ⟨W.heap.size, 0, 0, 0, none⟩ _ ((Below.refl _ _).alloc (Nat.le_refl _) (.cells (madeCells #[.int .i64 0] L) 3)) ⟨(NatBlk.made W L).nats, (NatBlk.made W L).lt⟩ (bd_one (Nat.le_refl _) (by simp)))
      have hmk := run_make_row' (P := Try.prog) 24 3 (.int .i64 0) 8 Try.underlying24 Try.info3 rfl .i64 .i64 L (by omega) (by omega)
      clear HK
      unfold Oper.wp
      simp only [execOp, e44]
      go_simp
      exact hfin.out
    | 7, _ =>
      obtain ⟨ty, pos, aft, e, hdp⟩ := iop7
      rw [e] at ho
      obtain rfl := Option.some.inj ho
      intro a' hds W K hB lq ld hmem hK
      have e6 : a'.eval (.tmp 6) = .int .i64 (m : Int) := by rw [eval_tmp]; exact lq (6, .int .i64 (m : Int)) (by simp)
      have t6 := (eval_tmp a' 6).symm.trans e6
      have HK := Lib.hid (show K (a'.put (some 46) (.int .i64 (m : Int))) W from hK W (Below.refl _ _) trivial)
      clear hK ld lq hmem
      unfold Oper.wp
      simp only [execOp, e6]
      exact HK.out
    | 8, _ =>
      obtain ⟨ty, pos, aft, e, hdp⟩ := iop8
      rw [e] at ho
      obtain rfl := Option.some.inj ho
      intro a' hds W K hB lq ld hmem hK
      have e40 : a'.eval (.tmp 40) = .agg #[.int .i64 (N : Int), .slice (some ⟨(hds 1).b, 0, none⟩) L (hds 1).c] := by rw [eval_tmp]; exact ld 1 40 (List.all_eq_true.1 hdp 1 (by decide)) rfl
      have t40 := (eval_tmp a' 40).symm.trans e40
      have e45 : a'.eval (.tmp 45) = .slice (some ⟨(hds 6).b, 0, none⟩) L L := by rw [eval_tmp]; exact ld 6 45 (List.all_eq_true.1 hdp 6 (by decide)) rfl
      have t45 := (eval_tmp a' 45).symm.trans e45
      have e46 : a'.eval (.tmp 46) = .int .i64 (m : Int) := by rw [eval_tmp]; exact ld 7 46 (List.all_eq_true.1 hdp 7 (by decide)) rfl
      have t46 := (eval_tmp a' 46).symm.trans e46
      have m40   := (hmem 1 (show 1 ∈ uOf region_tb3nU 8 by decide) (by decide)).1
      have m42   := (hmem 3 (show 3 ∈ uOf region_tb3nU 8 by decide) (by decide)).1
      have m45   := (hmem 6 (show 6 ∈ uOf region_tb3nU 8 by decide) (by decide)).1
      have HK := Lib.hid (show ∀ W', Below W.heap.size W W' → K (a'.put (some 47) (.tuple #[.agg #[.int .i64 0, .slice none 0 0], .int .i64 0, .int .i64 9])) W' from fun W' h => hK W' h trivial)
      clear hK ld lq hmem
      refine step_call (vals := #[.agg #[.int .i64 (N : Int), .slice (some ⟨(hds 1).b, 0, none⟩) L (hds 1).c], .slice (some ⟨(hds 6).b, 0, none⟩) L L, .int .i64 (m : Int)]) (by exact ⟨_, _, Try.func69, by kernel_rfl, rfl⟩) (by simp only [List.map_toArray, List.map_cons, List.map_nil, e40, e45, e46]) (H69 (hds 1).b (hds 1).c (hds 6).b W m40.1 m40.2 m45.1 m45.2) ?_
      rintro e w' ⟨rfl, hb'⟩
      exact ⟨_, rfl, HK.out _ hb'⟩
    | 9, _ =>
      obtain ⟨ty, pos, aft, e, hdp⟩ := iop9
      rw [e] at ho
      obtain rfl := Option.some.inj ho
      intro a' hds W K hB lq ld hmem hK
      have e47 : a'.eval (.tmp 47) = .tuple #[.agg #[.int .i64 0, .slice none 0 0], .int .i64 0, .int .i64 9] := by rw [eval_tmp]; exact ld 8 47 (List.all_eq_true.1 hdp 8 (by decide)) rfl
      have t47 := (eval_tmp a' 47).symm.trans e47
      have HK := Lib.hid (show K (a'.put (some 38) (.tuple #[.agg #[.int .i64 0, .slice none 0 0], .int .i64 0, .int .i64 9])) W from hK W (Below.refl _ _) trivial)
      clear hK ld lq hmem
      unfold Oper.wp
      simp only [execOp, e47]
      exact HK.out
    | 10, _ =>
      obtain ⟨ty, pos, aft, e, hdp⟩ := iop10
      rw [e] at ho
      obtain rfl := Option.some.inj ho
      intro a' hds W K hB lq ld hmem hK
      have e38 : a'.eval (.tmp 38) = .tuple #[.agg #[.int .i64 0, .slice none 0 0], .int .i64 0, .int .i64 9] := by rw [eval_tmp]; exact ld 9 38 (List.all_eq_true.1 hdp 9 (by decide)) rfl
      have t38 := (eval_tmp a' 38).symm.trans e38
      have HK := Lib.hid (show K (a'.put (some 48) (.agg #[.int .i64 0, .slice none 0 0])) W from hK W (Below.refl _ _) trivial)
      clear hK ld lq hmem
      unfold Oper.wp
      simp only [execOp, e38]
      exact HK.out
    | 11, _ =>
      obtain ⟨ty, pos, aft, e, hdp⟩ := iop11
      rw [e] at ho
      obtain rfl := Option.some.inj ho
      intro a' hds W K hB lq ld hmem hK
      have e38 : a'.eval (.tmp 38) = .tuple #[.agg #[.int .i64 0, .slice none 0 0], .int .i64 0, .int .i64 9] := by rw [eval_tmp]; exact ld 9 38 (List.all_eq_true.1 hdp 9 (by decide)) rfl
      have t38 := (eval_tmp a' 38).symm.trans e38
      have HK := Lib.hid (show K (a'.put (some 49) (.int .i64 0)) W from hK W (Below.refl _ _) trivial)
      clear hK ld lq hmem
      unfold Oper.wp
      simp only [execOp, e38]
      exact HK.out
    | 12, _ =>
      obtain ⟨ty, pos, aft, e, hdp⟩ := iop12
      rw [e] at ho
      obtain rfl := Option.some.inj ho
      intro a' hds W K hB lq ld hmem hK
      have e38 : a'.eval (.tmp 38) = .tuple #[.agg #[.int .i64 0, .slice none 0 0], .int .i64 0, .int .i64 9] := by rw [eval_tmp]; exact ld 9 38 (List.all_eq_true.1 hdp 9 (by decide)) rfl
      have t38 := (eval_tmp a' 38).symm.trans e38
      have HK := Lib.hid (show K (a'.put (some 50) (.int .i64 9)) W from hK W (Below.refl _ _) trivial)
      clear hK ld lq hmem
      unfold Oper.wp
      simp only [execOp, e38]
      exact HK.out
    | 13, _ =>
      obtain ⟨ty, pos, aft, e, hdp⟩ := iop13
      rw [e] at ho
      obtain rfl := Option.some.inj ho
      intro a' hds W K hB lq ld hmem hK
      have HK := Lib.hid (show ∀ hh W', Below W.heap.size W W' → (memBox 2 37).P hh W' → (∀ b ∈ (memBox 2 37).bl hh, W.heap.size ≤ b ∧ b < W'.heap.size) → K (a'.put (some 10) (.pointer (some ⟨hh.b, 0, none⟩))) W' from fun hh W' h1 h2 h3 => by
        have h4 : K (a'.put (some 10) (region_tb3nX Z N L m V0 V1 V2 DS 13 (updH hds 13 hh))) W' := hK hh W' h1 h2 h3 trivial
        simp only [region_tb3nX, updH_same] at h4
        exact h4)
      clear hK ld lq hmem
      have hfin := Lib.hid (HK.out ⟨W.heap.size, 0, 0, 0, none⟩ _ ((Below.refl _ _).alloc (Nat.le_refl _) (.cells #[.int .i64 0, .slice none 0 0] 37)) ⟨_, rfl, BoxAt.new W #[.int .i64 0, .slice none 0 0] 37⟩ (bd_one (Nat.le_refl _) (by simp)))
      clear HK
      unfold Oper.wp
      simp only [execOp]
      go_simp
      exact hfin.out
    | 14, _ =>
      obtain ⟨ty, pos, aft, e, hdp⟩ := iop14
      rw [e] at ho
      obtain rfl := Option.some.inj ho
      intro a' hds W K hB lq ld hmem hK
      have e10 : a'.eval (.tmp 10) = .pointer (some ⟨(hds 13).b, 0, none⟩) := by rw [eval_tmp]; exact ld 13 10 (List.all_eq_true.1 hdp 13 (by decide)) rfl
      have t10 := (eval_tmp a' 10).symm.trans e10
      have e48 : a'.eval (.tmp 48) = .agg #[.int .i64 0, .slice none 0 0] := by rw [eval_tmp]; exact ld 10 48 (List.all_eq_true.1 hdp 10 (by decide)) rfl
      have t48 := (eval_tmp a' 48).symm.trans e48
      obtain ⟨⟨vs, hvs, hbx⟩, _⟩ := hmem 13 (show 13 ∈ uOf region_tb3nU 14 by decide) (by decide)
      have hvl : vs.toList.length = 2 := by simpa using hvs
      obtain ⟨v0, v1, rfl⟩ : ∃ v0 v1, vs = #[v0, v1] := by
        cases vs with
        | mk l =>
          match l, hvl with
          | [v0, v1], _ => exact ⟨_, _, rfl⟩
      have HK := Lib.hid (show ∀ W', SetAt (hds 13).b W W' → (memBox 2 37).P (hds 13) W' → BoxAt W' (hds 13).b #[.int .i64 0, .slice none 0 0] 37 → K a' W' from hK)
      clear hK ld lq hmem
      have hfin := Lib.hid (HK.out _ (((SetAt.refl (hds 13).b W).cell 0 (.int .i64 0)).cell 1 (.slice none 0 0)) ⟨_, rfl, ((hbx).set 0 (.int .i64 0)).set 1 (.slice none 0 0)⟩ (((hbx).set 0 (.int .i64 0)).set 1 (.slice none 0 0)))
      have c0 := hbx.cell' 0 rfl
      have f0 := hbx.frozen 0
      have c1 := hbx.cell' 1 rfl
      have f1 := hbx.frozen 1
      have hlt := hbx.lt
      clear hbx hvl hvs HK
      generalize (hds 13).b = B at *
      unfold Oper.wp
      simp only [execOp, e10, e48]
      clear e10 e48
      go_simp
      exact hfin.out
    | 15, _ =>
      obtain ⟨ty, pos, aft, e, hdp⟩ := iop15
      rw [e] at ho
      obtain rfl := Option.some.inj ho
      intro a' hds W K hB lq ld hmem hK
      have e49 : a'.eval (.tmp 49) = .int .i64 0 := by rw [eval_tmp]; exact ld 11 49 (List.all_eq_true.1 hdp 11 (by decide)) rfl
      have t49 := (eval_tmp a' 49).symm.trans e49
      have HK := Lib.hid (show K (a'.put (some 11) (.int .i64 0)) W from hK W (Below.refl _ _) trivial)
      clear hK ld lq hmem
      unfold Oper.wp
      simp only [execOp, e49]
      exact HK.out
    | 16, _ =>
      obtain ⟨ty, pos, aft, e, hdp⟩ := iop16
      rw [e] at ho
      obtain rfl := Option.some.inj ho
      intro a' hds W K hB lq ld hmem hK
      have e50 : a'.eval (.tmp 50) = .int .i64 9 := by rw [eval_tmp]; exact ld 12 50 (List.all_eq_true.1 hdp 12 (by decide)) rfl
      have t50 := (eval_tmp a' 50).symm.trans e50
      have HK := Lib.hid (show K (a'.put (some 12) (.int .i64 9)) W from hK W (Below.refl _ _) trivial)
      clear hK ld lq hmem
      unfold Oper.wp
      simp only [execOp, e50]
      exact HK.out
    | i + 17, h => omega
  · intro hds v W hO
    have hfin := gend (hds 1).b (hds 1).c (hds 1).b2 (hds 1).c2 (hds 3).b (hds 3).c (hds 3).b2 (hds 3).c2 (hds 6).b (hds 6).c (hds 6).b2 (hds 6).c2 (hds 13).b (hds 13).c (hds 13).b2 (hds 13).c2 (hds 1).p (hds 3).p (hds 6).p (hds 13).p (v 39) (v 40) (v 41) (v 42) (v 43) (v 44) (v 45) (v 46) (v 47) (v 38) (v 48) (v 49) (v 50) W hO.b (hO.m 1 (by show 1 < 17; decide) rfl).1 (hO.m 1 (by show 1 < 17; decide) rfl).2 (hO.m 3 (by show 3 < 17; decide) rfl).1 (hO.m 3 (by show 3 < 17; decide) rfl).2 (hO.m 6 (by show 6 < 17; decide) rfl).1 (hO.m 6 (by show 6 < 17; decide) rfl).2 ((hO.m 13 (by show 13 < 17; decide) rfl).2 _ (by show _ ∈ [_]; simp)).1 ((hO.m 13 (by show 13 < 17; decide) rfl).2 _ (by show _ ∈ [_]; simp)).2 (hO.s 14 (by show 14 < 17; decide) rfl)
    rw [← laid_putL _ a v ?_] at hfin
    · exact hfin
    · intro p hp
      simp only [List.mem_cons, List.not_mem_nil, or_false] at hp
      rcases hp with rfl | rfl | rfl | rfl | rfl | rfl | rfl | rfl | rfl | rfl | rfl | rfl | rfl | rfl | rfl | rfl
      · rfl
      · rfl
      · rfl
      · rfl
      · rfl
      · rfl
      · rfl
      · rfl
      · rfl
      · rfl
      · rfl
      · rfl
      · rfl
      · exact hO.x 13 (show 13 < 17 by decide) 10 rfl
      · exact hO.x 15 (show 15 < 17 by decide) 11 rfl
      · exact hO.x 16 (show 16 < 17 by decide) 12 rfl
def region_tb6U : List (List Nat) := [[], [1], [], [3], [1, 3, 4], [1, 3, 4], [1, 3, 4], [1, 3, 4], [1, 3, 4], [1, 3, 4]]
def region_tb6X (N L g2 q2 _D gh qh _E T : Nat) (_DS _HS : List Nat) : Nat → (Nat → Hd) → Value
  | 0, _ => .agg #[.int .i64 (N : Int), .slice (some ⟨gh, 0, none⟩) T qh]
  | 1, hds => .agg #[.int .i64 (N : Int), .slice (some ⟨(hds 1).b, 0, none⟩) T (hds 1).c]
  | 2, _ => .agg #[.int .i64 (N : Int), .slice (some ⟨g2, 0, none⟩) L q2]
  | 3, hds => .agg #[.int .i64 (N : Int), .slice (some ⟨(hds 3).b, 0, none⟩) L (hds 3).c]
  | 4, hds => .tuple #[.slice (some ⟨(hds 4).b, 0, none⟩) L (hds 4).c, .int .i64 0]
  | 5, hds => .tuple #[.slice (some ⟨(hds 4).b, 0, none⟩) L (hds 4).c, .int .i64 0]
  | 6, hds => .slice (some ⟨(hds 4).b, 0, none⟩) L (hds 4).c
  | 7, _ => .int .i64 0
  | 8, hds => .slice (some ⟨(hds 4).b, 0, none⟩) L (hds 4).c
  | 9, _ => .int .i64 0
  | _ + 10, _ => undef
theorem region_tb6X.congr (N L g2 q2 D gh qh E T : Nat) (DS HS : List Nat) : ∀ i hds hds', (∀ r ∈ uOf region_tb6U i, hds r = hds' r) → region_tb6X N L g2 q2 D gh qh E T DS HS i hds = region_tb6X N L g2 q2 D gh qh E T DS HS i hds'
  | 0, _, _, _ => rfl
  | 1, hds, hds', h => by simp only [region_tb6X, h 1 (show 1 ∈ uOf region_tb6U 1 by decide)]
  | 2, _, _, _ => rfl
  | 3, hds, hds', h => by simp only [region_tb6X, h 3 (show 3 ∈ uOf region_tb6U 3 by decide)]
  | 4, hds, hds', h => by simp only [region_tb6X, h 4 (show 4 ∈ uOf region_tb6U 4 by decide)]
  | 5, hds, hds', h => by simp only [region_tb6X, h 4 (show 4 ∈ uOf region_tb6U 5 by decide)]
  | 6, hds, hds', h => by simp only [region_tb6X, h 4 (show 4 ∈ uOf region_tb6U 6 by decide)]
  | 7, _, _, _ => rfl
  | 8, hds, hds', h => by simp only [region_tb6X, h 4 (show 4 ∈ uOf region_tb6U 8 by decide)]
  | 9, _, _, _ => rfl
  | _ + 10, _, _, _ => rfl
def region_tb6M (_N _L _g2 _q2 _D _gh _qh _E _T : Nat) (DS HS : List Nat) : Nat → Mem
  | 1 => memNats HS
  | 3 => memNats DS
  | 4 => memStrs (clothS HS DS)
  | _ => memNone
def region_tb6S (_N _L _g2 _q2 _D _gh _qh _E _T : Nat) (_DS _HS : List Nat) : Nat → Option Sto
  | _ => none
set_option maxRecDepth 8000 in
set_option maxHeartbeats 2000000 in
theorem region_tb6 {id : Nat} {ops : Array Oper} {Q : Exit → Act → World → Prop} {a : Act} {w : World} (N L g2 q2 D gh qh E T : Nat) (DS HS : List Nat) (hDl : DS.length = L) (hVd : Valid N DS) (hn2 : NatsAt w g2 0 DS) (hg2 : g2 < w.heap.size) (hTl : HS.length = T) (hT0 : 1 ≤ T) (hT1 : T ≤ 96) (hn6 : NatsAt w gh 0 HS) (hg6 : gh < w.heap.size) (hk : ∀ i, i < T → nthN HS i < N) (hD : BoxAt w D #[.int .i64 (N : Int), .slice (some ⟨g2, 0, none⟩) L q2] 37) (hE : BoxAt w E #[.int .i64 (N : Int), .slice (some ⟨gh, 0, none⟩) T qh] 26)
    (gsize : ops.size = 10)
    (gops : IsOp ops 0 (some 76) (.load 26 (.tmp 5)) none [] ∧ IsOp ops 1 (some 77) (.call { callee := .value (.func 28), args := #[.tmp 76], argTypes := #[26] }) none [0] ∧ IsOp ops 2 (some 78) (.load 37 (.tmp 10)) none [] ∧ IsOp ops 3 (some 79) (.call { callee := .value (.func 37), args := #[.tmp 78], argTypes := #[37] }) none [2] ∧ IsOp ops 4 (some 80) (.call { callee := .value (.func 38), args := #[.tmp 77, .tmp 79], argTypes := #[26, 37] }) none [1, 3] ∧ IsOp ops 5 (some 75) (.move (.tmp 80)) none [4] ∧ IsOp ops 6 (some 81) (.extract (.tmp 75) 0) none [5] ∧ IsOp ops 7 (some 82) (.extract (.tmp 75) 1) none [5] ∧ IsOp ops 8 (some 13) (.assign (.tmp 81)) none [6] ∧ IsOp ops 9 (some 14) (.assign (.tmp 82)) none [7])
    (gbk : backB ops = true) (gds : dstsB ops (dOf [some 76, some 77, some 78, some 79, some 80, some 75, some 81, some 82, some 13, some 14]) = true) (gus : useB ops (uOf region_tb6U) (kOf [0, 1, 0, 1, 1, 0, 0, 0, 0, 0]) = true) (ggd : plainB ops = true) (gsz : ∀ e ∈ [76, 77, 78, 79, 80, 75, 81, 82, 13, 14], e < a.tmps.size)
    (gout : a.eval (.tmp 5) = .pointer (some ⟨E, 0, none⟩) ∧ a.eval (.tmp 10) = .pointer (some ⟨D, 0, none⟩))
    (gend : ∀ (g77 q77 G77 Q77 g79 q79 G79 Q79 g80 q80 G80 Q80 : Nat) (P77 P79 P80 : Option Addr) (u76 u77 u78 u79 u80 u75 u81 u82 : Value) (W : World), Below w.heap.size w W → (memNats HS).P ⟨g77, q77, G77, Q77, P77⟩ W → (∀ b ∈ (memNats HS).bl ⟨g77, q77, G77, Q77, P77⟩, w.heap.size ≤ b ∧ b < W.heap.size) → (memNats DS).P ⟨g79, q79, G79, Q79, P79⟩ W → (∀ b ∈ (memNats DS).bl ⟨g79, q79, G79, Q79, P79⟩, w.heap.size ≤ b ∧ b < W.heap.size) → (memStrs (clothS HS DS)).P ⟨g80, q80, G80, Q80, P80⟩ W → (∀ b ∈ (memStrs (clothS HS DS)).bl ⟨g80, q80, G80, Q80, P80⟩, w.heap.size ≤ b ∧ b < W.heap.size) → Q .normal (putL a [(76, u76), (77, u77), (78, u78), (79, u79), (80, u80), (75, u75), (81, u81), (82, u82), (13, .slice (some ⟨g80, 0, none⟩) L q80), (14, .int .i64 0)]) W) :
    (Code.region id ops true).wp Try.prog Q a w := by
  obtain ⟨iop0, iop1, iop2, iop3, iop4, iop5, iop6, iop7, iop8, iop9⟩ := gops
  obtain ⟨o5, o10⟩ := gout
  refine region_all (RSp.of 10 [some 76, some 77, some 78, some 79, some 80, some 75, some 81, some 82, some 13, some 14] (fun _ => true) (region_tb6X N L g2 q2 D gh qh E T DS HS) region_tb6U [0, 1, 0, 1, 1, 0, 0, 0, 0, 0] (region_tb6M N L g2 q2 D gh qh E T DS HS) (region_tb6S N L g2 q2 D gh qh E T DS HS)) [(5, .pointer (some ⟨E, 0, none⟩)), (10, .pointer (some ⟨D, 0, none⟩))] [76, 77, 78, 79, 80, 75, 81, 82, 13, 14] (RSp.of_fit gsize.symm gbk gds gus ggd (by decide) ?_) (RSp.of_ok _ (region_tb6X.congr N L g2 q2 D gh qh E T DS HS) ?_) gsz ?_ ?_ ?_
  · intro p hp
    have hp2 : p ∈ ([] : List (Nat × Nat)) := hp
    cases hp2
  · intro i s hds
    match i, hds with
    | 0, hds => cases hds
    | 1, hds => cases hds
    | 2, hds => cases hds
    | 3, hds => cases hds
    | 4, hds => cases hds
    | 5, hds => cases hds
    | 6, hds => cases hds
    | 7, hds => cases hds
    | 8, hds => cases hds
    | 9, hds => cases hds
    | _ + 10, hds => cases hds
  · intro q hq
    simp only [List.mem_cons, List.not_mem_nil, or_false] at hq
    rcases hq with rfl | rfl
    · exact ⟨o5, by simp⟩
    · exact ⟨o10, by simp⟩
  · intro i o ho _
    have hi : i < 10 := by rw [← gsize]; exact (Array.getElem?_eq_some_iff.1 ho).1
    match i, hi with
    | 0, _ =>
      obtain ⟨ty, pos, aft, e, hdp⟩ := iop0
      rw [e] at ho
      obtain rfl := Option.some.inj ho
      intro a' hds W K hB lq ld hmem hK
      have e5 : a'.eval (.tmp 5) = .pointer (some ⟨E, 0, none⟩) := by rw [eval_tmp]; exact lq (5, .pointer (some ⟨E, 0, none⟩)) (by simp)
      have t5 := (eval_tmp a' 5).symm.trans e5
      have HK := Lib.hid (show K (a'.put (some 76) (.agg #[.int .i64 (N : Int), .slice (some ⟨gh, 0, none⟩) T qh])) W from hK W (Below.refl _ _) trivial)
      clear hK ld lq hmem
      have c0 := (hE.next hB).cell' 0 rfl
      have c1 := (hE.next hB).cell' 1 rfl
      unfold Oper.wp
      simp only [execOp, e5]
      go_simp
      exact HK.out
    | 1, _ =>
      obtain ⟨ty, pos, aft, e, hdp⟩ := iop1
      rw [e] at ho
      obtain rfl := Option.some.inj ho
      intro a' hds W K hB lq ld hmem hK
      have e76 : a'.eval (.tmp 76) = .agg #[.int .i64 (N : Int), .slice (some ⟨gh, 0, none⟩) T qh] := by rw [eval_tmp]; exact ld 0 76 (List.all_eq_true.1 hdp 0 (by decide)) rfl
      have t76 := (eval_tmp a' 76).symm.trans e76
      have HK := Lib.hid (show ∀ hh W', Below W.heap.size W W' → (memNats HS).P hh W' → (∀ b ∈ (memNats HS).bl hh, W.heap.size ≤ b ∧ b < W'.heap.size) → K (a'.put (some 77) (.agg #[.int .i64 (N : Int), .slice (some ⟨hh.b, 0, none⟩) T hh.c])) W' from fun hh W' h1 h2 h3 => by
        have h4 : K (a'.put (some 77) (region_tb6X N L g2 q2 D gh qh E T DS HS 1 (updH hds 1 hh))) W' := hK hh W' h1 h2 h3 trivial
        simp only [region_tb6X, updH_same] at h4
        exact h4)
      clear hK ld lq hmem
      refine step_call (vals := #[.agg #[.int .i64 (N : Int), .slice (some ⟨gh, 0, none⟩) T qh]]) (by exact ⟨_, _, Try.func28, by kernel_rfl, rfl⟩) (by simp only [List.map_toArray, List.map_cons, List.map_nil, e76]) (call28 N T gh qh HS W hTl hT0 hT1 (hn6.below hB hg6) (Nat.lt_of_lt_of_le hg6 hB.size)) ?_
      rintro e w' ⟨g, cap, rfl, hn, hl, hg, hb'⟩
      exact ⟨_, rfl, HK.out ⟨g, cap, 0, 0, none⟩ _ hb' ⟨hn, hg⟩ (bd_one hl hg)⟩
    | 2, _ =>
      obtain ⟨ty, pos, aft, e, hdp⟩ := iop2
      rw [e] at ho
      obtain rfl := Option.some.inj ho
      intro a' hds W K hB lq ld hmem hK
      have e10 : a'.eval (.tmp 10) = .pointer (some ⟨D, 0, none⟩) := by rw [eval_tmp]; exact lq (10, .pointer (some ⟨D, 0, none⟩)) (by simp)
      have t10 := (eval_tmp a' 10).symm.trans e10
      have HK := Lib.hid (show K (a'.put (some 78) (.agg #[.int .i64 (N : Int), .slice (some ⟨g2, 0, none⟩) L q2])) W from hK W (Below.refl _ _) trivial)
      clear hK ld lq hmem
      have c0 := (hD.next hB).cell' 0 rfl
      have c1 := (hD.next hB).cell' 1 rfl
      unfold Oper.wp
      simp only [execOp, e10]
      go_simp
      exact HK.out
    | 3, _ =>
      obtain ⟨ty, pos, aft, e, hdp⟩ := iop3
      rw [e] at ho
      obtain rfl := Option.some.inj ho
      intro a' hds W K hB lq ld hmem hK
      have e78 : a'.eval (.tmp 78) = .agg #[.int .i64 (N : Int), .slice (some ⟨g2, 0, none⟩) L q2] := by rw [eval_tmp]; exact ld 2 78 (List.all_eq_true.1 hdp 2 (by decide)) rfl
      have t78 := (eval_tmp a' 78).symm.trans e78
      have HK := Lib.hid (show ∀ hh W', Below W.heap.size W W' → (memNats DS).P hh W' → (∀ b ∈ (memNats DS).bl hh, W.heap.size ≤ b ∧ b < W'.heap.size) → K (a'.put (some 79) (.agg #[.int .i64 (N : Int), .slice (some ⟨hh.b, 0, none⟩) L hh.c])) W' from fun hh W' h1 h2 h3 => by
        have h4 : K (a'.put (some 79) (region_tb6X N L g2 q2 D gh qh E T DS HS 3 (updH hds 3 hh))) W' := hK hh W' h1 h2 h3 trivial
        simp only [region_tb6X, updH_same] at h4
        exact h4)
      clear hK ld lq hmem
      refine step_call (vals := #[.agg #[.int .i64 (N : Int), .slice (some ⟨g2, 0, none⟩) L q2]]) (by exact ⟨_, _, Try.func37, by kernel_rfl, rfl⟩) (by simp only [List.map_toArray, List.map_cons, List.map_nil, e78]) (call37 N L g2 q2 DS W hDl hVd (hn2.below hB hg2) (Nat.lt_of_lt_of_le hg2 hB.size)) ?_
      rintro e w' ⟨g, cap, rfl, hn, hl, hg, hb'⟩
      exact ⟨_, rfl, HK.out ⟨g, cap, 0, 0, none⟩ _ hb' ⟨hn, hg⟩ (bd_one hl hg)⟩
    | 4, _ =>
      obtain ⟨ty, pos, aft, e, hdp⟩ := iop4
      rw [e] at ho
      obtain rfl := Option.some.inj ho
      intro a' hds W K hB lq ld hmem hK
      have e77 : a'.eval (.tmp 77) = .agg #[.int .i64 (N : Int), .slice (some ⟨(hds 1).b, 0, none⟩) T (hds 1).c] := by rw [eval_tmp]; exact ld 1 77 (List.all_eq_true.1 hdp 1 (by decide)) rfl
      have t77 := (eval_tmp a' 77).symm.trans e77
      have e79 : a'.eval (.tmp 79) = .agg #[.int .i64 (N : Int), .slice (some ⟨(hds 3).b, 0, none⟩) L (hds 3).c] := by rw [eval_tmp]; exact ld 3 79 (List.all_eq_true.1 hdp 3 (by decide)) rfl
      have t79 := (eval_tmp a' 79).symm.trans e79
      have HK := Lib.hid (show ∀ hh W', Below W.heap.size W W' → (memStrs (clothS HS DS)).P hh W' → (∀ b ∈ (memStrs (clothS HS DS)).bl hh, W.heap.size ≤ b ∧ b < W'.heap.size) → K (a'.put (some 80) (.tuple #[.slice (some ⟨hh.b, 0, none⟩) L hh.c, .int .i64 0])) W' from fun hh W' h1 h2 h3 => by
        have h4 : K (a'.put (some 80) (region_tb6X N L g2 q2 D gh qh E T DS HS 4 (updH hds 4 hh))) W' := hK hh W' h1 h2 h3 trivial
        simp only [region_tb6X, updH_same] at h4
        exact h4)
      have m77   := (hmem 1 (show 1 ∈ uOf region_tb6U 4 by decide) (by decide)).1
      have m79   := (hmem 3 (show 3 ∈ uOf region_tb6U 4 by decide) (by decide)).1
      clear hK ld lq hmem
      refine step_call (vals := #[.agg #[.int .i64 (N : Int), .slice (some ⟨(hds 1).b, 0, none⟩) T (hds 1).c], .agg #[.int .i64 (N : Int), .slice (some ⟨(hds 3).b, 0, none⟩) L (hds 3).c]]) (by exact ⟨_, _, Try.func38, by kernel_rfl, rfl⟩) (by simp only [List.map_toArray, List.map_cons, List.map_nil, e77, e79]) (call38 N T L (hds 1).b (hds 1).c (hds 3).b (hds 3).c HS DS W hTl hDl hT0 hT1 hk hVd m77.1 m77.2 m79.1 m79.2) ?_
      rintro e w' ⟨g, cap, rfl, hn, hl, hg, hb'⟩
      exact ⟨_, rfl, HK.out ⟨g, cap, 0, 0, none⟩ _ hb' ⟨hn, hg⟩ (bd_one hl hg)⟩
    | 5, _ =>
      obtain ⟨ty, pos, aft, e, hdp⟩ := iop5
      rw [e] at ho
      obtain rfl := Option.some.inj ho
      intro a' hds W K hB lq ld hmem hK
      have e80 : a'.eval (.tmp 80) = .tuple #[.slice (some ⟨(hds 4).b, 0, none⟩) L (hds 4).c, .int .i64 0] := by rw [eval_tmp]; exact ld 4 80 (List.all_eq_true.1 hdp 4 (by decide)) rfl
      have t80 := (eval_tmp a' 80).symm.trans e80
      have HK := Lib.hid (show K (a'.put (some 75) (.tuple #[.slice (some ⟨(hds 4).b, 0, none⟩) L (hds 4).c, .int .i64 0])) W from hK W (Below.refl _ _) trivial)
      clear hK ld lq hmem
      unfold Oper.wp
      simp only [execOp, e80]
      exact HK.out
    | 6, _ =>
      obtain ⟨ty, pos, aft, e, hdp⟩ := iop6
      rw [e] at ho
      obtain rfl := Option.some.inj ho
      intro a' hds W K hB lq ld hmem hK
      have e75 : a'.eval (.tmp 75) = .tuple #[.slice (some ⟨(hds 4).b, 0, none⟩) L (hds 4).c, .int .i64 0] := by rw [eval_tmp]; exact ld 5 75 (List.all_eq_true.1 hdp 5 (by decide)) rfl
      have t75 := (eval_tmp a' 75).symm.trans e75
      have HK := Lib.hid (show K (a'.put (some 81) (.slice (some ⟨(hds 4).b, 0, none⟩) L (hds 4).c)) W from hK W (Below.refl _ _) trivial)
      clear hK ld lq hmem
      unfold Oper.wp
      simp only [execOp, e75]
      exact HK.out
    | 7, _ =>
      obtain ⟨ty, pos, aft, e, hdp⟩ := iop7
      rw [e] at ho
      obtain rfl := Option.some.inj ho
      intro a' hds W K hB lq ld hmem hK
      have e75 : a'.eval (.tmp 75) = .tuple #[.slice (some ⟨(hds 4).b, 0, none⟩) L (hds 4).c, .int .i64 0] := by rw [eval_tmp]; exact ld 5 75 (List.all_eq_true.1 hdp 5 (by decide)) rfl
      have t75 := (eval_tmp a' 75).symm.trans e75
      have HK := Lib.hid (show K (a'.put (some 82) (.int .i64 0)) W from hK W (Below.refl _ _) trivial)
      clear hK ld lq hmem
      unfold Oper.wp
      simp only [execOp, e75]
      exact HK.out
    | 8, _ =>
      obtain ⟨ty, pos, aft, e, hdp⟩ := iop8
      rw [e] at ho
      obtain rfl := Option.some.inj ho
      intro a' hds W K hB lq ld hmem hK
      have e81 : a'.eval (.tmp 81) = .slice (some ⟨(hds 4).b, 0, none⟩) L (hds 4).c := by rw [eval_tmp]; exact ld 6 81 (List.all_eq_true.1 hdp 6 (by decide)) rfl
      have t81 := (eval_tmp a' 81).symm.trans e81
      have HK := Lib.hid (show K (a'.put (some 13) (.slice (some ⟨(hds 4).b, 0, none⟩) L (hds 4).c)) W from hK W (Below.refl _ _) trivial)
      clear hK ld lq hmem
      unfold Oper.wp
      simp only [execOp, e81]
      exact HK.out
    | 9, _ =>
      obtain ⟨ty, pos, aft, e, hdp⟩ := iop9
      rw [e] at ho
      obtain rfl := Option.some.inj ho
      intro a' hds W K hB lq ld hmem hK
      have e82 : a'.eval (.tmp 82) = .int .i64 0 := by rw [eval_tmp]; exact ld 7 82 (List.all_eq_true.1 hdp 7 (by decide)) rfl
      have t82 := (eval_tmp a' 82).symm.trans e82
      have HK := Lib.hid (show K (a'.put (some 14) (.int .i64 0)) W from hK W (Below.refl _ _) trivial)
      clear hK ld lq hmem
      unfold Oper.wp
      simp only [execOp, e82]
      exact HK.out
    | i + 10, h => omega
  · intro hds v W hO
    have hfin := gend (hds 1).b (hds 1).c (hds 1).b2 (hds 1).c2 (hds 3).b (hds 3).c (hds 3).b2 (hds 3).c2 (hds 4).b (hds 4).c (hds 4).b2 (hds 4).c2 (hds 1).p (hds 3).p (hds 4).p (v 76) (v 77) (v 78) (v 79) (v 80) (v 75) (v 81) (v 82) W hO.b (hO.m 1 (by show 1 < 10; decide) rfl).1 (hO.m 1 (by show 1 < 10; decide) rfl).2 (hO.m 3 (by show 3 < 10; decide) rfl).1 (hO.m 3 (by show 3 < 10; decide) rfl).2 (hO.m 4 (by show 4 < 10; decide) rfl).1 (hO.m 4 (by show 4 < 10; decide) rfl).2
    rw [← laid_putL _ a v ?_] at hfin
    · exact hfin
    · intro p hp
      simp only [List.mem_cons, List.not_mem_nil, or_false] at hp
      rcases hp with rfl | rfl | rfl | rfl | rfl | rfl | rfl | rfl | rfl | rfl
      · rfl
      · rfl
      · rfl
      · rfl
      · rfl
      · rfl
      · rfl
      · rfl
      · exact hO.x 8 (show 8 < 10 by decide) 13 rfl
      · exact hO.x 9 (show 9 < 10 by decide) 14 rfl
def region_tb7U : List (List Nat) := [[], [1], [], [3], [], [1, 3, 5], [1, 3, 5], [1, 3, 5], [1, 3, 5], [1, 3, 5], [1, 3, 5]]
def region_tb7X (N L g2 q2 _D gh qh _E T V : Nat) (_DS _HS : List Nat) : Nat → (Nat → Hd) → Value
  | 0, _ => .agg #[.int .i64 (N : Int), .slice (some ⟨gh, 0, none⟩) T qh]
  | 1, hds => .agg #[.int .i64 (N : Int), .slice (some ⟨(hds 1).b, 0, none⟩) T (hds 1).c]
  | 2, _ => .agg #[.int .i64 (N : Int), .slice (some ⟨g2, 0, none⟩) L q2]
  | 3, hds => .agg #[.int .i64 (N : Int), .slice (some ⟨(hds 3).b, 0, none⟩) L (hds 3).c]
  | 4, _ => .int .i64 (V : Int)
  | 5, hds => .tuple #[.slice (hds 5).p 0 (hds 5).c, .int .i64 0]
  | 6, hds => .tuple #[.slice (hds 5).p 0 (hds 5).c, .int .i64 0]
  | 7, hds => .slice (hds 5).p 0 (hds 5).c
  | 8, _ => .int .i64 0
  | 9, hds => .slice (hds 5).p 0 (hds 5).c
  | 10, _ => .int .i64 0
  | _ + 11, _ => undef
theorem region_tb7X.congr (N L g2 q2 D gh qh E T V : Nat) (DS HS : List Nat) : ∀ i hds hds', (∀ r ∈ uOf region_tb7U i, hds r = hds' r) → region_tb7X N L g2 q2 D gh qh E T V DS HS i hds = region_tb7X N L g2 q2 D gh qh E T V DS HS i hds'
  | 0, _, _, _ => rfl
  | 1, hds, hds', h => by simp only [region_tb7X, h 1 (show 1 ∈ uOf region_tb7U 1 by decide)]
  | 2, _, _, _ => rfl
  | 3, hds, hds', h => by simp only [region_tb7X, h 3 (show 3 ∈ uOf region_tb7U 3 by decide)]
  | 4, _, _, _ => rfl
  | 5, hds, hds', h => by simp only [region_tb7X, h 5 (show 5 ∈ uOf region_tb7U 5 by decide)]
  | 6, hds, hds', h => by simp only [region_tb7X, h 5 (show 5 ∈ uOf region_tb7U 6 by decide)]
  | 7, hds, hds', h => by simp only [region_tb7X, h 5 (show 5 ∈ uOf region_tb7U 7 by decide)]
  | 8, _, _, _ => rfl
  | 9, hds, hds', h => by simp only [region_tb7X, h 5 (show 5 ∈ uOf region_tb7U 9 by decide)]
  | 10, _, _, _ => rfl
  | _ + 11, _, _, _ => rfl
def region_tb7M (_N _L _g2 _q2 _D _gh _qh _E _T _V : Nat) (DS HS : List Nat) : Nat → Mem
  | 1 => memNats HS
  | 3 => memNats DS
  | 5 => memNone
  | _ => memNone
def region_tb7S (_N _L _g2 _q2 _D _gh _qh _E _T _V : Nat) (_DS _HS : List Nat) : Nat → Option Sto
  | _ => none
set_option maxRecDepth 8000 in
set_option maxHeartbeats 2000000 in
theorem region_tb7 {id : Nat} {ops : Array Oper} {Q : Exit → Act → World → Prop} {a : Act} {w : World} (N L g2 q2 D gh qh E T V : Nat) (DS HS : List Nat) (hDl : DS.length = L) (hVd : Valid N DS) (hn2 : NatsAt w g2 0 DS) (hg2 : g2 < w.heap.size) (hTl : HS.length = T) (hT0 : 1 ≤ T) (hT1 : T ≤ 96) (hn6 : NatsAt w gh 0 HS) (hg6 : gh < w.heap.size) (hk : ∀ i, i < T → nthN HS i < N) (hN0 : 1 ≤ N) (hN1 : N ≤ 24) (hV : V ≤ 1000) (hF : upTo (flO HS DS V) L = []) (hD : BoxAt w D #[.int .i64 (N : Int), .slice (some ⟨g2, 0, none⟩) L q2] 37) (hE : BoxAt w E #[.int .i64 (N : Int), .slice (some ⟨gh, 0, none⟩) T qh] 26)
    (gsize : ops.size = 11)
    (gops : IsOp ops 0 (some 84) (.load 26 (.tmp 5)) none [] ∧ IsOp ops 1 (some 85) (.call { callee := .value (.func 28), args := #[.tmp 84], argTypes := #[26] }) none [0] ∧ IsOp ops 2 (some 86) (.load 37 (.tmp 10)) none [] ∧ IsOp ops 3 (some 87) (.call { callee := .value (.func 37), args := #[.tmp 86], argTypes := #[37] }) none [2] ∧ IsOp ops 4 (some 88) (.move (.tmp 7)) none [] ∧ IsOp ops 5 (some 89) (.call { callee := .value (.func 39), args := #[.tmp 85, .tmp 87, .tmp 88], argTypes := #[26, 37, 3] }) none [1, 3, 4] ∧ IsOp ops 6 (some 83) (.move (.tmp 89)) none [5] ∧ IsOp ops 7 (some 90) (.extract (.tmp 83) 0) none [6] ∧ IsOp ops 8 (some 91) (.extract (.tmp 83) 1) none [6] ∧ IsOp ops 9 (some 15) (.assign (.tmp 90)) none [7] ∧ IsOp ops 10 (some 16) (.assign (.tmp 91)) none [8])
    (gbk : backB ops = true) (gds : dstsB ops (dOf [some 84, some 85, some 86, some 87, some 88, some 89, some 83, some 90, some 91, some 15, some 16]) = true) (gus : useB ops (uOf region_tb7U) (kOf [0, 1, 0, 1, 0, 1, 0, 0, 0, 0, 0]) = true) (ggd : plainB ops = true) (gsz : ∀ e ∈ [84, 85, 86, 87, 88, 89, 83, 90, 91, 15, 16], e < a.tmps.size)
    (gout : a.eval (.tmp 5) = .pointer (some ⟨E, 0, none⟩) ∧ a.eval (.tmp 10) = .pointer (some ⟨D, 0, none⟩) ∧ a.eval (.tmp 7) = .int .i64 (V : Int))
    (gend : ∀ (g85 q85 G85 Q85 g87 q87 G87 Q87 g89 q89 G89 Q89 : Nat) (P85 P87 P89 : Option Addr) (u84 u85 u86 u87 u88 u89 u83 u90 u91 : Value) (W : World), Below w.heap.size w W → (memNats HS).P ⟨g85, q85, G85, Q85, P85⟩ W → (∀ b ∈ (memNats HS).bl ⟨g85, q85, G85, Q85, P85⟩, w.heap.size ≤ b ∧ b < W.heap.size) → (memNats DS).P ⟨g87, q87, G87, Q87, P87⟩ W → (∀ b ∈ (memNats DS).bl ⟨g87, q87, G87, Q87, P87⟩, w.heap.size ≤ b ∧ b < W.heap.size) → (memNone).P ⟨g89, q89, G89, Q89, P89⟩ W → (∀ b ∈ (memNone).bl ⟨g89, q89, G89, Q89, P89⟩, w.heap.size ≤ b ∧ b < W.heap.size) → Q .normal (putL a [(84, u84), (85, u85), (86, u86), (87, u87), (88, u88), (89, u89), (83, u83), (90, u90), (91, u91), (15, .slice P89 0 q89), (16, .int .i64 0)]) W) :
    (Code.region id ops true).wp Try.prog Q a w := by
  obtain ⟨iop0, iop1, iop2, iop3, iop4, iop5, iop6, iop7, iop8, iop9, iop10⟩ := gops
  obtain ⟨o5, o10, o7⟩ := gout
  refine region_all (RSp.of 11 [some 84, some 85, some 86, some 87, some 88, some 89, some 83, some 90, some 91, some 15, some 16] (fun _ => true) (region_tb7X N L g2 q2 D gh qh E T V DS HS) region_tb7U [0, 1, 0, 1, 0, 1, 0, 0, 0, 0, 0] (region_tb7M N L g2 q2 D gh qh E T V DS HS) (region_tb7S N L g2 q2 D gh qh E T V DS HS)) [(5, .pointer (some ⟨E, 0, none⟩)), (10, .pointer (some ⟨D, 0, none⟩)), (7, .int .i64 (V : Int))] [84, 85, 86, 87, 88, 89, 83, 90, 91, 15, 16] (RSp.of_fit gsize.symm gbk gds gus ggd (by decide) ?_) (RSp.of_ok _ (region_tb7X.congr N L g2 q2 D gh qh E T V DS HS) ?_) gsz ?_ ?_ ?_
  · intro p hp
    have hp2 : p ∈ ([] : List (Nat × Nat)) := hp
    cases hp2
  · intro i s hds
    match i, hds with
    | 0, hds => cases hds
    | 1, hds => cases hds
    | 2, hds => cases hds
    | 3, hds => cases hds
    | 4, hds => cases hds
    | 5, hds => cases hds
    | 6, hds => cases hds
    | 7, hds => cases hds
    | 8, hds => cases hds
    | 9, hds => cases hds
    | 10, hds => cases hds
    | _ + 11, hds => cases hds
  · intro q hq
    simp only [List.mem_cons, List.not_mem_nil, or_false] at hq
    rcases hq with rfl | rfl | rfl
    · exact ⟨o5, by simp⟩
    · exact ⟨o10, by simp⟩
    · exact ⟨o7, by simp⟩
  · intro i o ho _
    have hi : i < 11 := by rw [← gsize]; exact (Array.getElem?_eq_some_iff.1 ho).1
    match i, hi with
    | 0, _ =>
      obtain ⟨ty, pos, aft, e, hdp⟩ := iop0
      rw [e] at ho
      obtain rfl := Option.some.inj ho
      intro a' hds W K hB lq ld hmem hK
      have e5 : a'.eval (.tmp 5) = .pointer (some ⟨E, 0, none⟩) := by rw [eval_tmp]; exact lq (5, .pointer (some ⟨E, 0, none⟩)) (by simp)
      have t5 := (eval_tmp a' 5).symm.trans e5
      have HK := Lib.hid (show K (a'.put (some 84) (.agg #[.int .i64 (N : Int), .slice (some ⟨gh, 0, none⟩) T qh])) W from hK W (Below.refl _ _) trivial)
      clear hK ld lq hmem
      have c0 := (hE.next hB).cell' 0 rfl
      have c1 := (hE.next hB).cell' 1 rfl
      unfold Oper.wp
      simp only [execOp, e5]
      go_simp
      exact HK.out
    | 1, _ =>
      obtain ⟨ty, pos, aft, e, hdp⟩ := iop1
      rw [e] at ho
      obtain rfl := Option.some.inj ho
      intro a' hds W K hB lq ld hmem hK
      have e84 : a'.eval (.tmp 84) = .agg #[.int .i64 (N : Int), .slice (some ⟨gh, 0, none⟩) T qh] := by rw [eval_tmp]; exact ld 0 84 (List.all_eq_true.1 hdp 0 (by decide)) rfl
      have t84 := (eval_tmp a' 84).symm.trans e84
      have HK := Lib.hid (show ∀ hh W', Below W.heap.size W W' → (memNats HS).P hh W' → (∀ b ∈ (memNats HS).bl hh, W.heap.size ≤ b ∧ b < W'.heap.size) → K (a'.put (some 85) (.agg #[.int .i64 (N : Int), .slice (some ⟨hh.b, 0, none⟩) T hh.c])) W' from fun hh W' h1 h2 h3 => by
        have h4 : K (a'.put (some 85) (region_tb7X N L g2 q2 D gh qh E T V DS HS 1 (updH hds 1 hh))) W' := hK hh W' h1 h2 h3 trivial
        simp only [region_tb7X, updH_same] at h4
        exact h4)
      clear hK ld lq hmem
      refine step_call (vals := #[.agg #[.int .i64 (N : Int), .slice (some ⟨gh, 0, none⟩) T qh]]) (by exact ⟨_, _, Try.func28, by kernel_rfl, rfl⟩) (by simp only [List.map_toArray, List.map_cons, List.map_nil, e84]) (call28 N T gh qh HS W hTl hT0 hT1 (hn6.below hB hg6) (Nat.lt_of_lt_of_le hg6 hB.size)) ?_
      rintro e w' ⟨g, cap, rfl, hn, hl, hg, hb'⟩
      exact ⟨_, rfl, HK.out ⟨g, cap, 0, 0, none⟩ _ hb' ⟨hn, hg⟩ (bd_one hl hg)⟩
    | 2, _ =>
      obtain ⟨ty, pos, aft, e, hdp⟩ := iop2
      rw [e] at ho
      obtain rfl := Option.some.inj ho
      intro a' hds W K hB lq ld hmem hK
      have e10 : a'.eval (.tmp 10) = .pointer (some ⟨D, 0, none⟩) := by rw [eval_tmp]; exact lq (10, .pointer (some ⟨D, 0, none⟩)) (by simp)
      have t10 := (eval_tmp a' 10).symm.trans e10
      have HK := Lib.hid (show K (a'.put (some 86) (.agg #[.int .i64 (N : Int), .slice (some ⟨g2, 0, none⟩) L q2])) W from hK W (Below.refl _ _) trivial)
      clear hK ld lq hmem
      have c0 := (hD.next hB).cell' 0 rfl
      have c1 := (hD.next hB).cell' 1 rfl
      unfold Oper.wp
      simp only [execOp, e10]
      go_simp
      exact HK.out
    | 3, _ =>
      obtain ⟨ty, pos, aft, e, hdp⟩ := iop3
      rw [e] at ho
      obtain rfl := Option.some.inj ho
      intro a' hds W K hB lq ld hmem hK
      have e86 : a'.eval (.tmp 86) = .agg #[.int .i64 (N : Int), .slice (some ⟨g2, 0, none⟩) L q2] := by rw [eval_tmp]; exact ld 2 86 (List.all_eq_true.1 hdp 2 (by decide)) rfl
      have t86 := (eval_tmp a' 86).symm.trans e86
      have HK := Lib.hid (show ∀ hh W', Below W.heap.size W W' → (memNats DS).P hh W' → (∀ b ∈ (memNats DS).bl hh, W.heap.size ≤ b ∧ b < W'.heap.size) → K (a'.put (some 87) (.agg #[.int .i64 (N : Int), .slice (some ⟨hh.b, 0, none⟩) L hh.c])) W' from fun hh W' h1 h2 h3 => by
        have h4 : K (a'.put (some 87) (region_tb7X N L g2 q2 D gh qh E T V DS HS 3 (updH hds 3 hh))) W' := hK hh W' h1 h2 h3 trivial
        simp only [region_tb7X, updH_same] at h4
        exact h4)
      clear hK ld lq hmem
      refine step_call (vals := #[.agg #[.int .i64 (N : Int), .slice (some ⟨g2, 0, none⟩) L q2]]) (by exact ⟨_, _, Try.func37, by kernel_rfl, rfl⟩) (by simp only [List.map_toArray, List.map_cons, List.map_nil, e86]) (call37 N L g2 q2 DS W hDl hVd (hn2.below hB hg2) (Nat.lt_of_lt_of_le hg2 hB.size)) ?_
      rintro e w' ⟨g, cap, rfl, hn, hl, hg, hb'⟩
      exact ⟨_, rfl, HK.out ⟨g, cap, 0, 0, none⟩ _ hb' ⟨hn, hg⟩ (bd_one hl hg)⟩
    | 4, _ =>
      obtain ⟨ty, pos, aft, e, hdp⟩ := iop4
      rw [e] at ho
      obtain rfl := Option.some.inj ho
      intro a' hds W K hB lq ld hmem hK
      have e7 : a'.eval (.tmp 7) = .int .i64 (V : Int) := by rw [eval_tmp]; exact lq (7, .int .i64 (V : Int)) (by simp)
      have t7 := (eval_tmp a' 7).symm.trans e7
      have HK := Lib.hid (show K (a'.put (some 88) (.int .i64 (V : Int))) W from hK W (Below.refl _ _) trivial)
      clear hK ld lq hmem
      unfold Oper.wp
      simp only [execOp, e7]
      exact HK.out
    | 5, _ =>
      obtain ⟨ty, pos, aft, e, hdp⟩ := iop5
      rw [e] at ho
      obtain rfl := Option.some.inj ho
      intro a' hds W K hB lq ld hmem hK
      have e85 : a'.eval (.tmp 85) = .agg #[.int .i64 (N : Int), .slice (some ⟨(hds 1).b, 0, none⟩) T (hds 1).c] := by rw [eval_tmp]; exact ld 1 85 (List.all_eq_true.1 hdp 1 (by decide)) rfl
      have t85 := (eval_tmp a' 85).symm.trans e85
      have e87 : a'.eval (.tmp 87) = .agg #[.int .i64 (N : Int), .slice (some ⟨(hds 3).b, 0, none⟩) L (hds 3).c] := by rw [eval_tmp]; exact ld 3 87 (List.all_eq_true.1 hdp 3 (by decide)) rfl
      have t87 := (eval_tmp a' 87).symm.trans e87
      have e88 : a'.eval (.tmp 88) = .int .i64 (V : Int) := by rw [eval_tmp]; exact ld 4 88 (List.all_eq_true.1 hdp 4 (by decide)) rfl
      have t88 := (eval_tmp a' 88).symm.trans e88
      have HK := Lib.hid (show ∀ hh W', Below W.heap.size W W' → (memNone).P hh W' → (∀ b ∈ (memNone).bl hh, W.heap.size ≤ b ∧ b < W'.heap.size) → K (a'.put (some 89) (.tuple #[.slice hh.p 0 hh.c, .int .i64 0])) W' from fun hh W' h1 h2 h3 => by
        have h4 : K (a'.put (some 89) (region_tb7X N L g2 q2 D gh qh E T V DS HS 5 (updH hds 5 hh))) W' := hK hh W' h1 h2 h3 trivial
        simp only [region_tb7X, updH_same] at h4
        exact h4)
      have m85   := (hmem 1 (show 1 ∈ uOf region_tb7U 5 by decide) (by decide)).1
      have m87   := (hmem 3 (show 3 ∈ uOf region_tb7U 5 by decide) (by decide)).1
      clear hK ld lq hmem
      refine step_call (vals := #[.agg #[.int .i64 (N : Int), .slice (some ⟨(hds 1).b, 0, none⟩) T (hds 1).c], .agg #[.int .i64 (N : Int), .slice (some ⟨(hds 3).b, 0, none⟩) L (hds 3).c], .int .i64 (V : Int)]) (by exact ⟨_, _, Try.func39, by kernel_rfl, rfl⟩) (by simp only [List.map_toArray, List.map_cons, List.map_nil, e85, e87, e88]) (call39m N T L (hds 1).b (hds 1).c (hds 3).b (hds 3).c V HS DS W hTl hDl hV hF (tat_of hTl hT0 hT1 hN0 hN1 hk m85.1 m85.2) ⟨m87.1, m87.2, hVd⟩) ?_
      rintro e w' ⟨p, cap, rfl, hb'⟩
      exact ⟨_, rfl, HK.out ⟨0, cap, 0, 0, p⟩ _ hb' trivial (fun b hb2 => by cases hb2)⟩
    | 6, _ =>
      obtain ⟨ty, pos, aft, e, hdp⟩ := iop6
      rw [e] at ho
      obtain rfl := Option.some.inj ho
      intro a' hds W K hB lq ld hmem hK
      have e89 : a'.eval (.tmp 89) = .tuple #[.slice (hds 5).p 0 (hds 5).c, .int .i64 0] := by rw [eval_tmp]; exact ld 5 89 (List.all_eq_true.1 hdp 5 (by decide)) rfl
      have t89 := (eval_tmp a' 89).symm.trans e89
      have HK := Lib.hid (show K (a'.put (some 83) (.tuple #[.slice (hds 5).p 0 (hds 5).c, .int .i64 0])) W from hK W (Below.refl _ _) trivial)
      clear hK ld lq hmem
      unfold Oper.wp
      simp only [execOp, e89]
      exact HK.out
    | 7, _ =>
      obtain ⟨ty, pos, aft, e, hdp⟩ := iop7
      rw [e] at ho
      obtain rfl := Option.some.inj ho
      intro a' hds W K hB lq ld hmem hK
      have e83 : a'.eval (.tmp 83) = .tuple #[.slice (hds 5).p 0 (hds 5).c, .int .i64 0] := by rw [eval_tmp]; exact ld 6 83 (List.all_eq_true.1 hdp 6 (by decide)) rfl
      have t83 := (eval_tmp a' 83).symm.trans e83
      have HK := Lib.hid (show K (a'.put (some 90) (.slice (hds 5).p 0 (hds 5).c)) W from hK W (Below.refl _ _) trivial)
      clear hK ld lq hmem
      unfold Oper.wp
      simp only [execOp, e83]
      exact HK.out
    | 8, _ =>
      obtain ⟨ty, pos, aft, e, hdp⟩ := iop8
      rw [e] at ho
      obtain rfl := Option.some.inj ho
      intro a' hds W K hB lq ld hmem hK
      have e83 : a'.eval (.tmp 83) = .tuple #[.slice (hds 5).p 0 (hds 5).c, .int .i64 0] := by rw [eval_tmp]; exact ld 6 83 (List.all_eq_true.1 hdp 6 (by decide)) rfl
      have t83 := (eval_tmp a' 83).symm.trans e83
      have HK := Lib.hid (show K (a'.put (some 91) (.int .i64 0)) W from hK W (Below.refl _ _) trivial)
      clear hK ld lq hmem
      unfold Oper.wp
      simp only [execOp, e83]
      exact HK.out
    | 9, _ =>
      obtain ⟨ty, pos, aft, e, hdp⟩ := iop9
      rw [e] at ho
      obtain rfl := Option.some.inj ho
      intro a' hds W K hB lq ld hmem hK
      have e90 : a'.eval (.tmp 90) = .slice (hds 5).p 0 (hds 5).c := by rw [eval_tmp]; exact ld 7 90 (List.all_eq_true.1 hdp 7 (by decide)) rfl
      have t90 := (eval_tmp a' 90).symm.trans e90
      have HK := Lib.hid (show K (a'.put (some 15) (.slice (hds 5).p 0 (hds 5).c)) W from hK W (Below.refl _ _) trivial)
      clear hK ld lq hmem
      unfold Oper.wp
      simp only [execOp, e90]
      exact HK.out
    | 10, _ =>
      obtain ⟨ty, pos, aft, e, hdp⟩ := iop10
      rw [e] at ho
      obtain rfl := Option.some.inj ho
      intro a' hds W K hB lq ld hmem hK
      have e91 : a'.eval (.tmp 91) = .int .i64 0 := by rw [eval_tmp]; exact ld 8 91 (List.all_eq_true.1 hdp 8 (by decide)) rfl
      have t91 := (eval_tmp a' 91).symm.trans e91
      have HK := Lib.hid (show K (a'.put (some 16) (.int .i64 0)) W from hK W (Below.refl _ _) trivial)
      clear hK ld lq hmem
      unfold Oper.wp
      simp only [execOp, e91]
      exact HK.out
    | i + 11, h => omega
  · intro hds v W hO
    have hfin := gend (hds 1).b (hds 1).c (hds 1).b2 (hds 1).c2 (hds 3).b (hds 3).c (hds 3).b2 (hds 3).c2 (hds 5).b (hds 5).c (hds 5).b2 (hds 5).c2 (hds 1).p (hds 3).p (hds 5).p (v 84) (v 85) (v 86) (v 87) (v 88) (v 89) (v 83) (v 90) (v 91) W hO.b (hO.m 1 (by show 1 < 11; decide) rfl).1 (hO.m 1 (by show 1 < 11; decide) rfl).2 (hO.m 3 (by show 3 < 11; decide) rfl).1 (hO.m 3 (by show 3 < 11; decide) rfl).2 (hO.m 5 (by show 5 < 11; decide) rfl).1 (hO.m 5 (by show 5 < 11; decide) rfl).2
    rw [← laid_putL _ a v ?_] at hfin
    · exact hfin
    · intro p hp
      simp only [List.mem_cons, List.not_mem_nil, or_false] at hp
      rcases hp with rfl | rfl | rfl | rfl | rfl | rfl | rfl | rfl | rfl | rfl | rfl
      · rfl
      · rfl
      · rfl
      · rfl
      · rfl
      · rfl
      · rfl
      · rfl
      · rfl
      · exact hO.x 9 (show 9 < 11 by decide) 15 rfl
      · exact hO.x 10 (show 10 < 11 by decide) 16 rfl
def region_tb8U : List (List Nat) := [[], [], [], [], [], [], [], [], [], [], [], [], [], [], [14], [14], [14], [], [], [], [14], [14], [14], [14], [14], [14], [14], [14], [14]]
def region_tb8X (_Z N L T gh qh E gc qc c15 LL V : Nat) (p15 : Option Addr) (V0 V1 V2 : Value) (_DS : List Nat) : Nat → (Nat → Hd) → Value
  | 0, _ => .int .i64 0
  | 1, _ => .bool false
  | 2, _ => .bool false
  | 3, _ => .int .i64 0
  | 4, _ => .bool false
  | 5, _ => .bool false
  | 6, _ => .bool false
  | 7, _ => .slice p15 0 c15
  | 8, _ => .int .i64 0
  | 9, _ => .bool false
  | 10, _ => .bool false
  | 11, _ => .bool false
  | 12, _ => .slice (some ⟨gc, 0, none⟩) L qc
  | 13, _ => .agg #[V0, V1, V2]
  | 14, hds => .agg #[.int .i64 (N : Int), .slice (some ⟨(hds 14).b, 0, none⟩) L (hds 14).c]
  | 15, hds => .slice (some ⟨(hds 14).b, 0, none⟩) L (hds 14).c
  | 16, _ => .int .i64 (L : Int)
  | 17, _ => .pointer (some ⟨E, 1, none⟩)
  | 18, _ => .slice (some ⟨gh, 0, none⟩) T qh
  | 19, _ => .int .i64 (T : Int)
  | 20, _ => .bool true
  | 21, _ => .bool false
  | 22, _ => .bool false
  | 23, _ => .bool false
  | 24, _ => .slice (some ⟨gc, 0, none⟩) L qc
  | 25, _ => .int .i64 (LL : Int)
  | 26, _ => .int .i64 (V : Int)
  | 27, _ => .bool false
  | 28, _ => .bool false
  | _ + 29, _ => undef
theorem region_tb8X.congr (Z N L T gh qh E gc qc c15 LL V : Nat) (p15 : Option Addr) (V0 V1 V2 : Value) (DS : List Nat) : ∀ i hds hds', (∀ r ∈ uOf region_tb8U i, hds r = hds' r) → region_tb8X Z N L T gh qh E gc qc c15 LL V p15 V0 V1 V2 DS i hds = region_tb8X Z N L T gh qh E gc qc c15 LL V p15 V0 V1 V2 DS i hds'
  | 0, _, _, _ => rfl
  | 1, _, _, _ => rfl
  | 2, _, _, _ => rfl
  | 3, _, _, _ => rfl
  | 4, _, _, _ => rfl
  | 5, _, _, _ => rfl
  | 6, _, _, _ => rfl
  | 7, _, _, _ => rfl
  | 8, _, _, _ => rfl
  | 9, _, _, _ => rfl
  | 10, _, _, _ => rfl
  | 11, _, _, _ => rfl
  | 12, _, _, _ => rfl
  | 13, _, _, _ => rfl
  | 14, hds, hds', h => by simp only [region_tb8X, h 14 (show 14 ∈ uOf region_tb8U 14 by decide)]
  | 15, hds, hds', h => by simp only [region_tb8X, h 14 (show 14 ∈ uOf region_tb8U 15 by decide)]
  | 16, _, _, _ => rfl
  | 17, _, _, _ => rfl
  | 18, _, _, _ => rfl
  | 19, _, _, _ => rfl
  | 20, _, _, _ => rfl
  | 21, _, _, _ => rfl
  | 22, _, _, _ => rfl
  | 23, _, _, _ => rfl
  | 24, _, _, _ => rfl
  | 25, _, _, _ => rfl
  | 26, _, _, _ => rfl
  | 27, _, _, _ => rfl
  | 28, _, _, _ => rfl
  | _ + 29, _, _, _ => rfl
def region_tb8M (_Z _N _L _T _gh _qh _E _gc _qc _c15 _LL _V : Nat) (_p15 : Option Addr) (_V0 _V1 _V2 : Value) (DS : List Nat) : Nat → Mem
  | 14 => memNats DS
  | _ => memNone
def region_tb8S (_Z _N _L _T _gh _qh _E _gc _qc _c15 _LL _V : Nat) (_p15 : Option Addr) (_V0 _V1 _V2 : Value) (_DS : List Nat) : Nat → Option Sto
  | _ => none
set_option maxRecDepth 8000 in
set_option maxHeartbeats 2000000 in
theorem region_tb8 {id : Nat} {ops : Array Oper} {Q : Exit → Act → World → Prop} {a : Act} {w : World} (Z N L T gh qh E gc qc c15 LL V : Nat) (p15 : Option Addr) (V0 V1 V2 : Value) (DS : List Nat) (H64 : ∀ W, Below w.heap.size w W → Calls Try.prog 64 #[.agg #[V0, V1, V2]] W (MadeL N L DS W)) (hLV : LL ≤ V) (H65 : ∀ W, Below w.heap.size w W → Calls Try.prog 65 #[.slice (some ⟨gc, 0, none⟩) L qc, .int .i64 (L : Int), .int .i64 (T : Int)] W fun e w' => e = .returned (.bool true) ∧ Below W.heap.size W w') (H70 : ∀ W, Below w.heap.size w W → Calls Try.prog 70 #[.slice (some ⟨gc, 0, none⟩) L qc] W fun e w' => e = .returned (.int .i64 (LL : Int)) ∧ Below W.heap.size W w') (hZ : BoxAt w Z #[V0, V1, V2] 92) (hE : BoxAt w E #[.int .i64 (N : Int), .slice (some ⟨gh, 0, none⟩) T qh] 26)
    (gsize : ops.size = 29)
    (gops : IsOp ops 0 (some 92) (.move (.tmp 14)) none [] ∧ IsOp ops 1 (some 93) (.binOp .neq 27 (.tmp 92) (.const (.int .i64 0)) 27) none [0] ∧ IsOp ops 2 (some 94) (.move (.tmp 93)) none [1] ∧ IsOp ops 3 (some 95) (.move (.tmp 16)) (some (2, false)) [2] ∧ IsOp ops 4 (some 96) (.binOp .neq 27 (.tmp 95) (.const (.int .i64 0)) 27) (some (2, false)) [2, 3] ∧ IsOp ops 5 (some 97) (.pick (.tmp 94) (.const (.bool true)) (.tmp 96)) none [2, 4] ∧ IsOp ops 6 (some 98) (.move (.tmp 97)) none [5] ∧ IsOp ops 7 (some 99) (.move (.tmp 15)) (some (6, false)) [6] ∧ IsOpL ops 8 (some 100) (.call { callee := .builtin .len, args := #[.tmp 99], argTypes := #[52] }) (some (6, false)) [6, 7] ∧ IsOp ops 9 (some 101) (.binOp .neq 3 (.tmp 100) (.const (.int .i64 0)) 3) (some (6, false)) [6, 8] ∧ IsOp ops 10 (some 102) (.pick (.tmp 98) (.const (.bool true)) (.tmp 101)) none [6, 9] ∧ IsOp ops 11 (some 103) (.move (.tmp 102)) none [10] ∧ IsOp ops 12 (some 104) (.move (.tmp 13)) (some (11, false)) [11] ∧ IsOp ops 13 (some 105) (.load 92 (.tmp 2)) (some (11, false)) [11] ∧ IsOp ops 14 (some 106) (.call { callee := .value (.func 64), args := #[.tmp 105], argTypes := #[92] }) (some (11, false)) [11, 13] ∧ IsOp ops 15 (some 107) (.field 37 (.tmp 106) 1) (some (11, false)) [11, 14] ∧ IsOpL ops 16 (some 108) (.call { callee := .builtin .len, args := #[.tmp 107], argTypes := #[24] }) (some (11, false)) [11, 15] ∧ IsOp ops 17 (some 109) (.fieldAddr 26 (.tmp 5) 1) (some (11, false)) [11] ∧ IsOp ops 18 (some 110) (.load 24 (.tmp 109)) (some (11, false)) [11, 17] ∧ IsOpL ops 19 (some 111) (.call { callee := .builtin .len, args := #[.tmp 110], argTypes := #[24] }) (some (11, false)) [11, 18] ∧ IsOp ops 20 (some 112) (.call { callee := .value (.func 65), args := #[.tmp 104, .tmp 108, .tmp 111], argTypes := #[49, 3, 3] }) (some (11, false)) [11, 12, 16, 19] ∧ IsOp ops 21 (some 113) (.unOp .not 4 (.tmp 112)) (some (11, false)) [11, 20] ∧ IsOp ops 22 (some 114) (.pick (.tmp 103) (.const (.bool true)) (.tmp 113)) none [11, 21] ∧ IsOp ops 23 (some 115) (.move (.tmp 114)) none [22] ∧ IsOp ops 24 (some 116) (.move (.tmp 13)) (some (23, false)) [23] ∧ IsOp ops 25 (some 117) (.call { callee := .value (.func 70), args := #[.tmp 116], argTypes := #[49] }) (some (23, false)) [23, 24] ∧ IsOp ops 26 (some 118) (.move (.tmp 7)) (some (23, false)) [23] ∧ IsOp ops 27 (some 119) (.binOp .gtr 3 (.tmp 117) (.tmp 118) 3) (some (23, false)) [23, 25, 26] ∧ IsOp ops 28 (some 120) (.pick (.tmp 115) (.const (.bool true)) (.tmp 119)) none [23, 27])
    (gbk : backB ops = true) (gds : dstsB ops (dOf [some 92, some 93, some 94, some 95, some 96, some 97, some 98, some 99, some 100, some 101, some 102, some 103, some 104, some 105, some 106, some 107, some 108, some 109, some 110, some 111, some 112, some 113, some 114, some 115, some 116, some 117, some 118, some 119, some 120]) = true) (gus : useB ops (uOf region_tb8U) (kOf [0, 0, 0, 0, 0, 0, 0, 0, 0, 0, 0, 0, 0, 0, 1, 0, 0, 0, 0, 0, 0, 0, 0, 0, 0, 0, 0, 0, 0]) = true) (ggd : guardC ops (dOf [some 92, some 93, some 94, some 95, some 96, some 97, some 98, some 99, some 100, some 101, some 102, some 103, some 104, some 105, some 106, some 107, some 108, some 109, some 110, some 111, some 112, some 113, some 114, some 115, some 116, some 117, some 118, some 119, some 120]) [(2, false), (6, false), (11, false), (23, false)] = true) (gsz : ∀ e ∈ [92, 93, 94, 95, 96, 97, 98, 99, 100, 101, 102, 103, 104, 105, 106, 107, 108, 109, 110, 111, 112, 113, 114, 115, 116, 117, 118, 119, 120], e < a.tmps.size)
    (gout : a.eval (.tmp 14) = .int .i64 0 ∧ a.eval (.tmp 16) = .int .i64 0 ∧ a.eval (.tmp 15) = .slice p15 0 c15 ∧ a.eval (.tmp 13) = .slice (some ⟨gc, 0, none⟩) L qc ∧ a.eval (.tmp 2) = .pointer (some ⟨Z, 0, none⟩) ∧ a.eval (.tmp 5) = .pointer (some ⟨E, 0, none⟩) ∧ a.eval (.tmp 7) = .int .i64 (V : Int))
    (gend : ∀ (g106 q106 G106 Q106 : Nat) (P106 : Option Addr) (u92 u93 u94 u95 u96 u97 u98 u99 u100 u101 u102 u103 u104 u105 u106 u107 u108 u109 u110 u111 u112 u113 u114 u115 u116 u117 u118 u119 : Value) (W : World), Below w.heap.size w W → (memNats DS).P ⟨g106, q106, G106, Q106, P106⟩ W → (∀ b ∈ (memNats DS).bl ⟨g106, q106, G106, Q106, P106⟩, w.heap.size ≤ b ∧ b < W.heap.size) → Q .normal (putL a [(92, u92), (93, u93), (94, u94), (95, u95), (96, u96), (97, u97), (98, u98), (99, u99), (100, u100), (101, u101), (102, u102), (103, u103), (104, u104), (105, u105), (106, u106), (107, u107), (108, u108), (109, u109), (110, u110), (111, u111), (112, u112), (113, u113), (114, u114), (115, u115), (116, u116), (117, u117), (118, u118), (119, u119), (120, .bool false)]) W) :
    (Code.region id ops true).wp Try.prog Q a w := by
  obtain ⟨iop0, iop1, iop2, iop3, iop4, iop5, iop6, iop7, iop8, iop9, iop10, iop11, iop12, iop13, iop14, iop15, iop16, iop17, iop18, iop19, iop20, iop21, iop22, iop23, iop24, iop25, iop26, iop27, iop28⟩ := gops
  obtain ⟨o14, o16, o15, o13, o2, o5, o7⟩ := gout
  refine region_all (RSp.of 29 [some 92, some 93, some 94, some 95, some 96, some 97, some 98, some 99, some 100, some 101, some 102, some 103, some 104, some 105, some 106, some 107, some 108, some 109, some 110, some 111, some 112, some 113, some 114, some 115, some 116, some 117, some 118, some 119, some 120] (fun _ => true) (region_tb8X Z N L T gh qh E gc qc c15 LL V p15 V0 V1 V2 DS) region_tb8U [0, 0, 0, 0, 0, 0, 0, 0, 0, 0, 0, 0, 0, 0, 1, 0, 0, 0, 0, 0, 0, 0, 0, 0, 0, 0, 0, 0, 0] (region_tb8M Z N L T gh qh E gc qc c15 LL V p15 V0 V1 V2 DS) (region_tb8S Z N L T gh qh E gc qc c15 LL V p15 V0 V1 V2 DS)) [(14, .int .i64 0), (16, .int .i64 0), (15, .slice p15 0 c15), (13, .slice (some ⟨gc, 0, none⟩) L qc), (2, .pointer (some ⟨Z, 0, none⟩)), (5, .pointer (some ⟨E, 0, none⟩)), (7, .int .i64 (V : Int))] [92, 93, 94, 95, 96, 97, 98, 99, 100, 101, 102, 103, 104, 105, 106, 107, 108, 109, 110, 111, 112, 113, 114, 115, 116, 117, 118, 119, 120] (RSp.of_fitC gsize.symm gbk gds gus ggd (by decide) ?_ ?_) (RSp.of_ok _ (region_tb8X.congr Z N L T gh qh E gc qc c15 LL V p15 V0 V1 V2 DS) ?_) gsz ?_ ?_ ?_
  · intro p hp
    have hp2 : p ∈ ([] : List (Nat × Nat)) := hp
    cases hp2
  · intro j hj hds
    simp only [List.mem_cons, List.not_mem_nil, or_false] at hj
    rcases hj with rfl | rfl | rfl | rfl
    all_goals rfl
  · intro i s hds
    match i, hds with
    | 0, hds => cases hds
    | 1, hds => cases hds
    | 2, hds => cases hds
    | 3, hds => cases hds
    | 4, hds => cases hds
    | 5, hds => cases hds
    | 6, hds => cases hds
    | 7, hds => cases hds
    | 8, hds => cases hds
    | 9, hds => cases hds
    | 10, hds => cases hds
    | 11, hds => cases hds
    | 12, hds => cases hds
    | 13, hds => cases hds
    | 14, hds => cases hds
    | 15, hds => cases hds
    | 16, hds => cases hds
    | 17, hds => cases hds
    | 18, hds => cases hds
    | 19, hds => cases hds
    | 20, hds => cases hds
    | 21, hds => cases hds
    | 22, hds => cases hds
    | 23, hds => cases hds
    | 24, hds => cases hds
    | 25, hds => cases hds
    | 26, hds => cases hds
    | 27, hds => cases hds
    | 28, hds => cases hds
    | _ + 29, hds => cases hds
  · intro q hq
    simp only [List.mem_cons, List.not_mem_nil, or_false] at hq
    rcases hq with rfl | rfl | rfl | rfl | rfl | rfl | rfl
    · exact ⟨o14, by simp⟩
    · exact ⟨o16, by simp⟩
    · exact ⟨o15, by simp⟩
    · exact ⟨o13, by simp⟩
    · exact ⟨o2, by simp⟩
    · exact ⟨o5, by simp⟩
    · exact ⟨o7, by simp⟩
  · intro i o ho _
    have hi : i < 29 := by rw [← gsize]; exact (Array.getElem?_eq_some_iff.1 ho).1
    match i, hi with
    | 0, _ =>
      obtain ⟨ty, pos, aft, e, hdp⟩ := iop0
      rw [e] at ho
      obtain rfl := Option.some.inj ho
      intro a' hds W K hB lq ld hmem hK
      have e14 : a'.eval (.tmp 14) = .int .i64 0 := by rw [eval_tmp]; exact lq (14, .int .i64 0) (by simp)
      have t14 := (eval_tmp a' 14).symm.trans e14
      have HK := Lib.hid (show K (a'.put (some 92) (.int .i64 0)) W from hK W (Below.refl _ _) trivial)
      clear hK ld lq hmem
      unfold Oper.wp
      simp only [execOp, e14]
      exact HK.out
    | 1, _ =>
      obtain ⟨ty, pos, aft, e, hdp⟩ := iop1
      rw [e] at ho
      obtain rfl := Option.some.inj ho
      intro a' hds W K hB lq ld hmem hK
      have e92 : a'.eval (.tmp 92) = .int .i64 0 := by rw [eval_tmp]; exact ld 0 92 (List.all_eq_true.1 hdp 0 (by decide)) rfl
      have t92 := (eval_tmp a' 92).symm.trans e92
      have HK := Lib.hid (show K (a'.put (some 93) (.bool false)) W from hK W (Below.refl _ _) trivial)
      clear hK ld lq hmem
      unfold Oper.wp
      simp only [execOp, e92]
      go_simp
      exact HK.out
    | 2, _ =>
      obtain ⟨ty, pos, aft, e, hdp⟩ := iop2
      rw [e] at ho
      obtain rfl := Option.some.inj ho
      intro a' hds W K hB lq ld hmem hK
      have e93 : a'.eval (.tmp 93) = .bool false := by rw [eval_tmp]; exact ld 1 93 (List.all_eq_true.1 hdp 1 (by decide)) rfl
      have t93 := (eval_tmp a' 93).symm.trans e93
      have HK := Lib.hid (show K (a'.put (some 94) (.bool false)) W from hK W (Below.refl _ _) trivial)
      clear hK ld lq hmem
      unfold Oper.wp
      simp only [execOp, e93]
      exact HK.out
    | 3, _ =>
      obtain ⟨ty, pos, aft, e, hdp⟩ := iop3
      rw [e] at ho
      obtain rfl := Option.some.inj ho
      intro a' hds W K hB lq ld hmem hK
      have e16 : a'.eval (.tmp 16) = .int .i64 0 := by rw [eval_tmp]; exact lq (16, .int .i64 0) (by simp)
      have t16 := (eval_tmp a' 16).symm.trans e16
      have HK := Lib.hid (show K (a'.put (some 95) (.int .i64 0)) W from hK W (Below.refl _ _) trivial)
      clear hK ld lq hmem
      unfold Oper.wp
      simp only [execOp, e16]
      exact HK.out
    | 4, _ =>
      obtain ⟨ty, pos, aft, e, hdp⟩ := iop4
      rw [e] at ho
      obtain rfl := Option.some.inj ho
      intro a' hds W K hB lq ld hmem hK
      have e95 : a'.eval (.tmp 95) = .int .i64 0 := by rw [eval_tmp]; exact ld 3 95 (List.all_eq_true.1 hdp 3 (by decide)) rfl
      have t95 := (eval_tmp a' 95).symm.trans e95
      have HK := Lib.hid (show K (a'.put (some 96) (.bool false)) W from hK W (Below.refl _ _) trivial)
      clear hK ld lq hmem
      unfold Oper.wp
      simp only [execOp, e95]
      go_simp
      exact HK.out
    | 5, _ =>
      obtain ⟨ty, pos, aft, e, hdp⟩ := iop5
      rw [e] at ho
      obtain rfl := Option.some.inj ho
      intro a' hds W K hB lq ld hmem hK
      have e94 : a'.eval (.tmp 94) = .bool false := by rw [eval_tmp]; exact ld 2 94 (List.all_eq_true.1 hdp 2 (by decide)) rfl
      have t94 := (eval_tmp a' 94).symm.trans e94
      have e96 : a'.eval (.tmp 96) = .bool false := by rw [eval_tmp]; exact ld 4 96 (List.all_eq_true.1 hdp 4 (by decide)) rfl
      have t96 := (eval_tmp a' 96).symm.trans e96
      have HK := Lib.hid (show K (a'.put (some 97) (.bool false)) W from hK W (Below.refl _ _) trivial)
      clear hK ld lq hmem
      unfold Oper.wp
      simp only [execOp, e94, e96]
      go_simp
      exact HK.out
    | 6, _ =>
      obtain ⟨ty, pos, aft, e, hdp⟩ := iop6
      rw [e] at ho
      obtain rfl := Option.some.inj ho
      intro a' hds W K hB lq ld hmem hK
      have e97 : a'.eval (.tmp 97) = .bool false := by rw [eval_tmp]; exact ld 5 97 (List.all_eq_true.1 hdp 5 (by decide)) rfl
      have t97 := (eval_tmp a' 97).symm.trans e97
      have HK := Lib.hid (show K (a'.put (some 98) (.bool false)) W from hK W (Below.refl _ _) trivial)
      clear hK ld lq hmem
      unfold Oper.wp
      simp only [execOp, e97]
      exact HK.out
    | 7, _ =>
      obtain ⟨ty, pos, aft, e, hdp⟩ := iop7
      rw [e] at ho
      obtain rfl := Option.some.inj ho
      intro a' hds W K hB lq ld hmem hK
      have e15 : a'.eval (.tmp 15) = .slice p15 0 c15 := by rw [eval_tmp]; exact lq (15, .slice p15 0 c15) (by simp)
      have t15 := (eval_tmp a' 15).symm.trans e15
      have HK := Lib.hid (show K (a'.put (some 99) (.slice p15 0 c15)) W from hK W (Below.refl _ _) trivial)
      clear hK ld lq hmem
      unfold Oper.wp
      simp only [execOp, e15]
      exact HK.out
    | 8, _ =>
      obtain ⟨pos, aft, e, hdp⟩ := iop8
      rw [e] at ho
      obtain rfl := Option.some.inj ho
      intro a' hds W K hB lq ld hmem hK
      have e99 : a'.eval (.tmp 99) = .slice p15 0 c15 := by rw [eval_tmp]; exact ld 7 99 (List.all_eq_true.1 hdp 7 (by decide)) rfl
      have t99 := (eval_tmp a' 99).symm.trans e99
      have HK := Lib.hid (show K (a'.put (some 100) (.int .i64 0)) W from hK W (Below.refl _ _) trivial)
      clear hK ld lq hmem
      unfold Oper.wp
      simp only [execOp, e99]
      go_simp
      exact HK.out
    | 9, _ =>
      obtain ⟨ty, pos, aft, e, hdp⟩ := iop9
      rw [e] at ho
      obtain rfl := Option.some.inj ho
      intro a' hds W K hB lq ld hmem hK
      have e100 : a'.eval (.tmp 100) = .int .i64 0 := by rw [eval_tmp]; exact ld 8 100 (List.all_eq_true.1 hdp 8 (by decide)) rfl
      have t100 := (eval_tmp a' 100).symm.trans e100
      have HK := Lib.hid (show K (a'.put (some 101) (.bool false)) W from hK W (Below.refl _ _) trivial)
      clear hK ld lq hmem
      unfold Oper.wp
      simp only [execOp, e100]
      go_simp
      exact HK.out
    | 10, _ =>
      obtain ⟨ty, pos, aft, e, hdp⟩ := iop10
      rw [e] at ho
      obtain rfl := Option.some.inj ho
      intro a' hds W K hB lq ld hmem hK
      have e98 : a'.eval (.tmp 98) = .bool false := by rw [eval_tmp]; exact ld 6 98 (List.all_eq_true.1 hdp 6 (by decide)) rfl
      have t98 := (eval_tmp a' 98).symm.trans e98
      have e101 : a'.eval (.tmp 101) = .bool false := by rw [eval_tmp]; exact ld 9 101 (List.all_eq_true.1 hdp 9 (by decide)) rfl
      have t101 := (eval_tmp a' 101).symm.trans e101
      have HK := Lib.hid (show K (a'.put (some 102) (.bool false)) W from hK W (Below.refl _ _) trivial)
      clear hK ld lq hmem
      unfold Oper.wp
      simp only [execOp, e98, e101]
      go_simp
      exact HK.out
    | 11, _ =>
      obtain ⟨ty, pos, aft, e, hdp⟩ := iop11
      rw [e] at ho
      obtain rfl := Option.some.inj ho
      intro a' hds W K hB lq ld hmem hK
      have e102 : a'.eval (.tmp 102) = .bool false := by rw [eval_tmp]; exact ld 10 102 (List.all_eq_true.1 hdp 10 (by decide)) rfl
      have t102 := (eval_tmp a' 102).symm.trans e102
      have HK := Lib.hid (show K (a'.put (some 103) (.bool false)) W from hK W (Below.refl _ _) trivial)
      clear hK ld lq hmem
      unfold Oper.wp
      simp only [execOp, e102]
      exact HK.out
    | 12, _ =>
      obtain ⟨ty, pos, aft, e, hdp⟩ := iop12
      rw [e] at ho
      obtain rfl := Option.some.inj ho
      intro a' hds W K hB lq ld hmem hK
      have e13 : a'.eval (.tmp 13) = .slice (some ⟨gc, 0, none⟩) L qc := by rw [eval_tmp]; exact lq (13, .slice (some ⟨gc, 0, none⟩) L qc) (by simp)
      have t13 := (eval_tmp a' 13).symm.trans e13
      have HK := Lib.hid (show K (a'.put (some 104) (.slice (some ⟨gc, 0, none⟩) L qc)) W from hK W (Below.refl _ _) trivial)
      clear hK ld lq hmem
      unfold Oper.wp
      simp only [execOp, e13]
      exact HK.out
    | 13, _ =>
      obtain ⟨ty, pos, aft, e, hdp⟩ := iop13
      rw [e] at ho
      obtain rfl := Option.some.inj ho
      intro a' hds W K hB lq ld hmem hK
      have e2 : a'.eval (.tmp 2) = .pointer (some ⟨Z, 0, none⟩) := by rw [eval_tmp]; exact lq (2, .pointer (some ⟨Z, 0, none⟩)) (by simp)
      have t2 := (eval_tmp a' 2).symm.trans e2
      have HK := Lib.hid (show K (a'.put (some 105) (.agg #[V0, V1, V2])) W from hK W (Below.refl _ _) trivial)
      clear hK ld lq hmem
      have c0 := (hZ.next hB).cell' 0 rfl
      have c1 := (hZ.next hB).cell' 1 rfl
      have c2 := (hZ.next hB).cell' 2 rfl
      unfold Oper.wp
      simp only [execOp, e2]
      go_simp
      exact HK.out
    | 14, _ =>
      obtain ⟨ty, pos, aft, e, hdp⟩ := iop14
      rw [e] at ho
      obtain rfl := Option.some.inj ho
      intro a' hds W K hB lq ld hmem hK
      have e105 : a'.eval (.tmp 105) = .agg #[V0, V1, V2] := by rw [eval_tmp]; exact ld 13 105 (List.all_eq_true.1 hdp 13 (by decide)) rfl
      have t105 := (eval_tmp a' 105).symm.trans e105
      have HK := Lib.hid (show ∀ hh W', Below W.heap.size W W' → (memNats DS).P hh W' → (∀ b ∈ (memNats DS).bl hh, W.heap.size ≤ b ∧ b < W'.heap.size) → K (a'.put (some 106) (.agg #[.int .i64 (N : Int), .slice (some ⟨hh.b, 0, none⟩) L hh.c])) W' from fun hh W' h1 h2 h3 => by
        have h4 : K (a'.put (some 106) (region_tb8X Z N L T gh qh E gc qc c15 LL V p15 V0 V1 V2 DS 14 (updH hds 14 hh))) W' := hK hh W' h1 h2 h3 trivial
        simp only [region_tb8X, updH_same] at h4
        exact h4)
      clear hK ld lq hmem
      refine step_call (vals := #[.agg #[V0, V1, V2]]) (by exact ⟨_, _, Try.func64, by kernel_rfl, rfl⟩) (by simp only [List.map_toArray, List.map_cons, List.map_nil, e105]) (H64 W hB) ?_
      rintro e w' ⟨g, cap, rfl, hn, hl, hg, hb'⟩
      exact ⟨_, rfl, HK.out ⟨g, cap, 0, 0, none⟩ _ hb' ⟨hn, hg⟩ (bd_one hl hg)⟩
    | 15, _ =>
      obtain ⟨ty, pos, aft, e, hdp⟩ := iop15
      rw [e] at ho
      obtain rfl := Option.some.inj ho
      intro a' hds W K hB lq ld hmem hK
      have e106 : a'.eval (.tmp 106) = .agg #[.int .i64 (N : Int), .slice (some ⟨(hds 14).b, 0, none⟩) L (hds 14).c] := by rw [eval_tmp]; exact ld 14 106 (List.all_eq_true.1 hdp 14 (by decide)) rfl
      have t106 := (eval_tmp a' 106).symm.trans e106
      have HK := Lib.hid (show K (a'.put (some 107) (.slice (some ⟨(hds 14).b, 0, none⟩) L (hds 14).c)) W from hK W (Below.refl _ _) trivial)
      clear hK ld lq hmem
      unfold Oper.wp
      simp only [execOp, e106]
      go_simp
      exact HK.out
    | 16, _ =>
      obtain ⟨pos, aft, e, hdp⟩ := iop16
      rw [e] at ho
      obtain rfl := Option.some.inj ho
      intro a' hds W K hB lq ld hmem hK
      have e107 : a'.eval (.tmp 107) = .slice (some ⟨(hds 14).b, 0, none⟩) L (hds 14).c := by rw [eval_tmp]; exact ld 15 107 (List.all_eq_true.1 hdp 15 (by decide)) rfl
      have t107 := (eval_tmp a' 107).symm.trans e107
      have HK := Lib.hid (show K (a'.put (some 108) (.int .i64 (L : Int))) W from hK W (Below.refl _ _) trivial)
      clear hK ld lq hmem
      unfold Oper.wp
      simp only [execOp, e107]
      go_simp
      exact HK.out
    | 17, _ =>
      obtain ⟨ty, pos, aft, e, hdp⟩ := iop17
      rw [e] at ho
      obtain rfl := Option.some.inj ho
      intro a' hds W K hB lq ld hmem hK
      have e5 : a'.eval (.tmp 5) = .pointer (some ⟨E, 0, none⟩) := by rw [eval_tmp]; exact lq (5, .pointer (some ⟨E, 0, none⟩)) (by simp)
      have t5 := (eval_tmp a' 5).symm.trans e5
      have HK := Lib.hid (show K (a'.put (some 109) (.pointer (some ⟨E, 1, none⟩))) W from hK W (Below.refl _ _) trivial)
      clear hK ld lq hmem
      unfold Oper.wp
      simp only [execOp, e5]
      go_simp
      exact HK.out
    | 18, _ =>
      obtain ⟨ty, pos, aft, e, hdp⟩ := iop18
      rw [e] at ho
      obtain rfl := Option.some.inj ho
      intro a' hds W K hB lq ld hmem hK
      have e109 : a'.eval (.tmp 109) = .pointer (some ⟨E, 1, none⟩) := by rw [eval_tmp]; exact ld 17 109 (List.all_eq_true.1 hdp 17 (by decide)) rfl
      have t109 := (eval_tmp a' 109).symm.trans e109
      have HK := Lib.hid (show K (a'.put (some 110) (.slice (some ⟨gh, 0, none⟩) T qh)) W from hK W (Below.refl _ _) trivial)
      clear hK ld lq hmem
      have c1 := (hE.next hB).cell' 1 rfl
      unfold Oper.wp
      simp only [execOp, e109]
      go_simp
      exact HK.out
    | 19, _ =>
      obtain ⟨pos, aft, e, hdp⟩ := iop19
      rw [e] at ho
      obtain rfl := Option.some.inj ho
      intro a' hds W K hB lq ld hmem hK
      have e110 : a'.eval (.tmp 110) = .slice (some ⟨gh, 0, none⟩) T qh := by rw [eval_tmp]; exact ld 18 110 (List.all_eq_true.1 hdp 18 (by decide)) rfl
      have t110 := (eval_tmp a' 110).symm.trans e110
      have HK := Lib.hid (show K (a'.put (some 111) (.int .i64 (T : Int))) W from hK W (Below.refl _ _) trivial)
      clear hK ld lq hmem
      unfold Oper.wp
      simp only [execOp, e110]
      go_simp
      exact HK.out
    | 20, _ =>
      obtain ⟨ty, pos, aft, e, hdp⟩ := iop20
      rw [e] at ho
      obtain rfl := Option.some.inj ho
      intro a' hds W K hB lq ld hmem hK
      have e104 : a'.eval (.tmp 104) = .slice (some ⟨gc, 0, none⟩) L qc := by rw [eval_tmp]; exact ld 12 104 (List.all_eq_true.1 hdp 12 (by decide)) rfl
      have t104 := (eval_tmp a' 104).symm.trans e104
      have e108 : a'.eval (.tmp 108) = .int .i64 (L : Int) := by rw [eval_tmp]; exact ld 16 108 (List.all_eq_true.1 hdp 16 (by decide)) rfl
      have t108 := (eval_tmp a' 108).symm.trans e108
      have e111 : a'.eval (.tmp 111) = .int .i64 (T : Int) := by rw [eval_tmp]; exact ld 19 111 (List.all_eq_true.1 hdp 19 (by decide)) rfl
      have t111 := (eval_tmp a' 111).symm.trans e111
      have m106   := (hmem 14 (show 14 ∈ uOf region_tb8U 20 by decide) (by decide)).1
      have HK := Lib.hid (show ∀ W', Below W.heap.size W W' → K (a'.put (some 112) (.bool true)) W' from fun W' h => hK W' h trivial)
      clear hK ld lq hmem
      refine step_call (vals := #[.slice (some ⟨gc, 0, none⟩) L qc, .int .i64 (L : Int), .int .i64 (T : Int)]) (by exact ⟨_, _, Try.func65, by kernel_rfl, rfl⟩) (by simp only [List.map_toArray, List.map_cons, List.map_nil, e104, e108, e111]) (H65 W hB) ?_
      rintro e w' ⟨rfl, hb'⟩
      exact ⟨_, rfl, HK.out _ hb'⟩
    | 21, _ =>
      obtain ⟨ty, pos, aft, e, hdp⟩ := iop21
      rw [e] at ho
      obtain rfl := Option.some.inj ho
      intro a' hds W K hB lq ld hmem hK
      have e112 : a'.eval (.tmp 112) = .bool true := by rw [eval_tmp]; exact ld 20 112 (List.all_eq_true.1 hdp 20 (by decide)) rfl
      have t112 := (eval_tmp a' 112).symm.trans e112
      have HK := Lib.hid (show K (a'.put (some 113) (.bool false)) W from hK W (Below.refl _ _) trivial)
      clear hK ld lq hmem
      unfold Oper.wp
      simp only [execOp, e112]
      go_simp
      exact HK.out
    | 22, _ =>
      obtain ⟨ty, pos, aft, e, hdp⟩ := iop22
      rw [e] at ho
      obtain rfl := Option.some.inj ho
      intro a' hds W K hB lq ld hmem hK
      have e103 : a'.eval (.tmp 103) = .bool false := by rw [eval_tmp]; exact ld 11 103 (List.all_eq_true.1 hdp 11 (by decide)) rfl
      have t103 := (eval_tmp a' 103).symm.trans e103
      have e113 : a'.eval (.tmp 113) = .bool false := by rw [eval_tmp]; exact ld 21 113 (List.all_eq_true.1 hdp 21 (by decide)) rfl
      have t113 := (eval_tmp a' 113).symm.trans e113
      have HK := Lib.hid (show K (a'.put (some 114) (.bool false)) W from hK W (Below.refl _ _) trivial)
      clear hK ld lq hmem
      unfold Oper.wp
      simp only [execOp, e103, e113]
      go_simp
      exact HK.out
    | 23, _ =>
      obtain ⟨ty, pos, aft, e, hdp⟩ := iop23
      rw [e] at ho
      obtain rfl := Option.some.inj ho
      intro a' hds W K hB lq ld hmem hK
      have e114 : a'.eval (.tmp 114) = .bool false := by rw [eval_tmp]; exact ld 22 114 (List.all_eq_true.1 hdp 22 (by decide)) rfl
      have t114 := (eval_tmp a' 114).symm.trans e114
      have HK := Lib.hid (show K (a'.put (some 115) (.bool false)) W from hK W (Below.refl _ _) trivial)
      clear hK ld lq hmem
      unfold Oper.wp
      simp only [execOp, e114]
      exact HK.out
    | 24, _ =>
      obtain ⟨ty, pos, aft, e, hdp⟩ := iop24
      rw [e] at ho
      obtain rfl := Option.some.inj ho
      intro a' hds W K hB lq ld hmem hK
      have e13 : a'.eval (.tmp 13) = .slice (some ⟨gc, 0, none⟩) L qc := by rw [eval_tmp]; exact lq (13, .slice (some ⟨gc, 0, none⟩) L qc) (by simp)
      have t13 := (eval_tmp a' 13).symm.trans e13
      have HK := Lib.hid (show K (a'.put (some 116) (.slice (some ⟨gc, 0, none⟩) L qc)) W from hK W (Below.refl _ _) trivial)
      clear hK ld lq hmem
      unfold Oper.wp
      simp only [execOp, e13]
      exact HK.out
    | 25, _ =>
      obtain ⟨ty, pos, aft, e, hdp⟩ := iop25
      rw [e] at ho
      obtain rfl := Option.some.inj ho
      intro a' hds W K hB lq ld hmem hK
      have e116 : a'.eval (.tmp 116) = .slice (some ⟨gc, 0, none⟩) L qc := by rw [eval_tmp]; exact ld 24 116 (List.all_eq_true.1 hdp 24 (by decide)) rfl
      have t116 := (eval_tmp a' 116).symm.trans e116
      have m106   := (hmem 14 (show 14 ∈ uOf region_tb8U 25 by decide) (by decide)).1
      have HK := Lib.hid (show ∀ W', Below W.heap.size W W' → K (a'.put (some 117) (.int .i64 (LL : Int))) W' from fun W' h => hK W' h trivial)
      clear hK ld lq hmem
      refine step_call (vals := #[.slice (some ⟨gc, 0, none⟩) L qc]) (by exact ⟨_, _, Try.func70, by kernel_rfl, rfl⟩) (by simp only [List.map_toArray, List.map_cons, List.map_nil, e116]) (H70 W hB) ?_
      rintro e w' ⟨rfl, hb'⟩
      exact ⟨_, rfl, HK.out _ hb'⟩
    | 26, _ =>
      obtain ⟨ty, pos, aft, e, hdp⟩ := iop26
      rw [e] at ho
      obtain rfl := Option.some.inj ho
      intro a' hds W K hB lq ld hmem hK
      have e7 : a'.eval (.tmp 7) = .int .i64 (V : Int) := by rw [eval_tmp]; exact lq (7, .int .i64 (V : Int)) (by simp)
      have t7 := (eval_tmp a' 7).symm.trans e7
      have HK := Lib.hid (show K (a'.put (some 118) (.int .i64 (V : Int))) W from hK W (Below.refl _ _) trivial)
      clear hK ld lq hmem
      unfold Oper.wp
      simp only [execOp, e7]
      exact HK.out
    | 27, _ =>
      obtain ⟨ty, pos, aft, e, hdp⟩ := iop27
      rw [e] at ho
      obtain rfl := Option.some.inj ho
      intro a' hds W K hB lq ld hmem hK
      have e117 : a'.eval (.tmp 117) = .int .i64 (LL : Int) := by rw [eval_tmp]; exact ld 25 117 (List.all_eq_true.1 hdp 25 (by decide)) rfl
      have t117 := (eval_tmp a' 117).symm.trans e117
      have e118 : a'.eval (.tmp 118) = .int .i64 (V : Int) := by rw [eval_tmp]; exact ld 26 118 (List.all_eq_true.1 hdp 26 (by decide)) rfl
      have t118 := (eval_tmp a' 118).symm.trans e118
      have HK := Lib.hid (show K (a'.put (some 119) (.bool false)) W from hK W (Below.refl _ _) trivial)
      clear hK ld lq hmem
      have hdl : decide ((V : Int) < (LL : Int)) = false := decide_eq_false (by omega)
      have hdm : ¬ (V : Int) < (LL : Int) := by omega
      unfold Oper.wp
      simp only [execOp, e117, e118]
      go_simp
      exact HK.out
    | 28, _ =>
      obtain ⟨ty, pos, aft, e, hdp⟩ := iop28
      rw [e] at ho
      obtain rfl := Option.some.inj ho
      intro a' hds W K hB lq ld hmem hK
      have e115 : a'.eval (.tmp 115) = .bool false := by rw [eval_tmp]; exact ld 23 115 (List.all_eq_true.1 hdp 23 (by decide)) rfl
      have t115 := (eval_tmp a' 115).symm.trans e115
      have e119 : a'.eval (.tmp 119) = .bool false := by rw [eval_tmp]; exact ld 27 119 (List.all_eq_true.1 hdp 27 (by decide)) rfl
      have t119 := (eval_tmp a' 119).symm.trans e119
      have HK := Lib.hid (show K (a'.put (some 120) (.bool false)) W from hK W (Below.refl _ _) trivial)
      clear hK ld lq hmem
      unfold Oper.wp
      simp only [execOp, e115, e119]
      go_simp
      exact HK.out
    | i + 29, h => omega
  · intro hds v W hO
    have hfin := gend (hds 14).b (hds 14).c (hds 14).b2 (hds 14).c2 (hds 14).p (v 92) (v 93) (v 94) (v 95) (v 96) (v 97) (v 98) (v 99) (v 100) (v 101) (v 102) (v 103) (v 104) (v 105) (v 106) (v 107) (v 108) (v 109) (v 110) (v 111) (v 112) (v 113) (v 114) (v 115) (v 116) (v 117) (v 118) (v 119) W hO.b (hO.m 14 (by show 14 < 29; decide) rfl).1 (hO.m 14 (by show 14 < 29; decide) rfl).2
    rw [← laid_putL _ a v ?_] at hfin
    · exact hfin
    · intro p hp
      simp only [List.mem_cons, List.not_mem_nil, or_false] at hp
      rcases hp with rfl | rfl | rfl | rfl | rfl | rfl | rfl | rfl | rfl | rfl | rfl | rfl | rfl | rfl | rfl | rfl | rfl | rfl | rfl | rfl | rfl | rfl | rfl | rfl | rfl | rfl | rfl | rfl | rfl
      · rfl
      · rfl
      · rfl
      · rfl
      · rfl
      · rfl
      · rfl
      · rfl
      · rfl
      · rfl
      · rfl
      · rfl
      · rfl
      · rfl
      · rfl
      · rfl
      · rfl
      · rfl
      · rfl
      · rfl
      · rfl
      · rfl
      · rfl
      · rfl
      · rfl
      · rfl
      · rfl
      · rfl
      · exact hO.x 28 (show 28 < 29 by decide) 120 rfl
def region_tb12U : List (List Nat) := [[], [1], [], [1, 3], [1, 3], [1, 3], [1, 3], [1, 3], [1, 3]]
def region_tb12X (N L g3 q3 _O gh qh _E T : Nat) (_VS _HS : List Nat) : Nat → (Nat → Hd) → Value
  | 0, _ => .agg #[.int .i64 (N : Int), .slice (some ⟨gh, 0, none⟩) T qh]
  | 1, hds => .agg #[.int .i64 (N : Int), .slice (some ⟨(hds 1).b, 0, none⟩) T (hds 1).c]
  | 2, _ => .agg #[.int .i64 (N : Int), .slice (some ⟨g3, 0, none⟩) L q3]
  | 3, hds => .tuple #[.slice (some ⟨(hds 3).b, 0, none⟩) L (hds 3).c, .int .i64 0]
  | 4, hds => .tuple #[.slice (some ⟨(hds 3).b, 0, none⟩) L (hds 3).c, .int .i64 0]
  | 5, hds => .slice (some ⟨(hds 3).b, 0, none⟩) L (hds 3).c
  | 6, _ => .int .i64 0
  | 7, hds => .slice (some ⟨(hds 3).b, 0, none⟩) L (hds 3).c
  | 8, _ => .int .i64 0
  | _ + 9, _ => undef
theorem region_tb12X.congr (N L g3 q3 O gh qh E T : Nat) (VS HS : List Nat) : ∀ i hds hds', (∀ r ∈ uOf region_tb12U i, hds r = hds' r) → region_tb12X N L g3 q3 O gh qh E T VS HS i hds = region_tb12X N L g3 q3 O gh qh E T VS HS i hds'
  | 0, _, _, _ => rfl
  | 1, hds, hds', h => by simp only [region_tb12X, h 1 (show 1 ∈ uOf region_tb12U 1 by decide)]
  | 2, _, _, _ => rfl
  | 3, hds, hds', h => by simp only [region_tb12X, h 3 (show 3 ∈ uOf region_tb12U 3 by decide)]
  | 4, hds, hds', h => by simp only [region_tb12X, h 3 (show 3 ∈ uOf region_tb12U 4 by decide)]
  | 5, hds, hds', h => by simp only [region_tb12X, h 3 (show 3 ∈ uOf region_tb12U 5 by decide)]
  | 6, _, _, _ => rfl
  | 7, hds, hds', h => by simp only [region_tb12X, h 3 (show 3 ∈ uOf region_tb12U 7 by decide)]
  | 8, _, _, _ => rfl
  | _ + 9, _, _, _ => rfl
def region_tb12M (_N _L _g3 _q3 _O _gh _qh _E _T : Nat) (VS HS : List Nat) : Nat → Mem
  | 1 => memNats HS
  | 3 => memStrs (clothS HS VS)
  | _ => memNone
def region_tb12S (_N _L _g3 _q3 _O _gh _qh _E _T : Nat) (_VS _HS : List Nat) : Nat → Option Sto
  | _ => none
set_option maxRecDepth 8000 in
set_option maxHeartbeats 2000000 in
theorem region_tb12 {id : Nat} {ops : Array Oper} {Q : Exit → Act → World → Prop} {a : Act} {w : World} (N L g3 q3 O gh qh E T : Nat) (VS HS : List Nat) (hVl : VS.length = L) (hVd : Valid N VS) (hn3 : NatsAt w g3 0 VS) (hg3 : g3 < w.heap.size) (hTl : HS.length = T) (hT0 : 1 ≤ T) (hT1 : T ≤ 96) (hn6 : NatsAt w gh 0 HS) (hg6 : gh < w.heap.size) (hk : ∀ i, i < T → nthN HS i < N) (hE : BoxAt w E #[.int .i64 (N : Int), .slice (some ⟨gh, 0, none⟩) T qh] 26) (hF : BoxAt w O #[.int .i64 (N : Int), .slice (some ⟨g3, 0, none⟩) L q3] 37)
    (gsize : ops.size = 9)
    (gops : IsOp ops 0 (some 134) (.load 26 (.tmp 5)) none [] ∧ IsOp ops 1 (some 135) (.call { callee := .value (.func 28), args := #[.tmp 134], argTypes := #[26] }) none [0] ∧ IsOp ops 2 (some 136) (.load 37 (.tmp 17)) none [] ∧ IsOp ops 3 (some 137) (.call { callee := .value (.func 38), args := #[.tmp 135, .tmp 136], argTypes := #[26, 37] }) none [1, 2] ∧ IsOp ops 4 (some 133) (.move (.tmp 137)) none [3] ∧ IsOp ops 5 (some 138) (.extract (.tmp 133) 0) none [4] ∧ IsOp ops 6 (some 139) (.extract (.tmp 133) 1) none [4] ∧ IsOp ops 7 (some 13) (.assign (.tmp 138)) none [5] ∧ IsOp ops 8 (some 20) (.assign (.tmp 139)) none [6])
    (gbk : backB ops = true) (gds : dstsB ops (dOf [some 134, some 135, some 136, some 137, some 133, some 138, some 139, some 13, some 20]) = true) (gus : useB ops (uOf region_tb12U) (kOf [0, 1, 0, 1, 0, 0, 0, 0, 0]) = true) (ggd : plainB ops = true) (gsz : ∀ e ∈ [134, 135, 136, 137, 133, 138, 139, 13, 20], e < a.tmps.size)
    (gout : a.eval (.tmp 5) = .pointer (some ⟨E, 0, none⟩) ∧ a.eval (.tmp 17) = .pointer (some ⟨O, 0, none⟩))
    (gend : ∀ (g135 q135 G135 Q135 g137 q137 G137 Q137 : Nat) (P135 P137 : Option Addr) (u134 u135 u136 u137 u133 u138 u139 : Value) (W : World), Below w.heap.size w W → (memNats HS).P ⟨g135, q135, G135, Q135, P135⟩ W → (∀ b ∈ (memNats HS).bl ⟨g135, q135, G135, Q135, P135⟩, w.heap.size ≤ b ∧ b < W.heap.size) → (memStrs (clothS HS VS)).P ⟨g137, q137, G137, Q137, P137⟩ W → (∀ b ∈ (memStrs (clothS HS VS)).bl ⟨g137, q137, G137, Q137, P137⟩, w.heap.size ≤ b ∧ b < W.heap.size) → Q .normal (putL a [(134, u134), (135, u135), (136, u136), (137, u137), (133, u133), (138, u138), (139, u139), (13, .slice (some ⟨g137, 0, none⟩) L q137), (20, .int .i64 0)]) W) :
    (Code.region id ops true).wp Try.prog Q a w := by
  obtain ⟨iop0, iop1, iop2, iop3, iop4, iop5, iop6, iop7, iop8⟩ := gops
  obtain ⟨o5, o17⟩ := gout
  refine region_all (RSp.of 9 [some 134, some 135, some 136, some 137, some 133, some 138, some 139, some 13, some 20] (fun _ => true) (region_tb12X N L g3 q3 O gh qh E T VS HS) region_tb12U [0, 1, 0, 1, 0, 0, 0, 0, 0] (region_tb12M N L g3 q3 O gh qh E T VS HS) (region_tb12S N L g3 q3 O gh qh E T VS HS)) [(5, .pointer (some ⟨E, 0, none⟩)), (17, .pointer (some ⟨O, 0, none⟩))] [134, 135, 136, 137, 133, 138, 139, 13, 20] (RSp.of_fit gsize.symm gbk gds gus ggd (by decide) ?_) (RSp.of_ok _ (region_tb12X.congr N L g3 q3 O gh qh E T VS HS) ?_) gsz ?_ ?_ ?_
  · intro p hp
    have hp2 : p ∈ ([] : List (Nat × Nat)) := hp
    cases hp2
  · intro i s hds
    match i, hds with
    | 0, hds => cases hds
    | 1, hds => cases hds
    | 2, hds => cases hds
    | 3, hds => cases hds
    | 4, hds => cases hds
    | 5, hds => cases hds
    | 6, hds => cases hds
    | 7, hds => cases hds
    | 8, hds => cases hds
    | _ + 9, hds => cases hds
  · intro q hq
    simp only [List.mem_cons, List.not_mem_nil, or_false] at hq
    rcases hq with rfl | rfl
    · exact ⟨o5, by simp⟩
    · exact ⟨o17, by simp⟩
  · intro i o ho _
    have hi : i < 9 := by rw [← gsize]; exact (Array.getElem?_eq_some_iff.1 ho).1
    match i, hi with
    | 0, _ =>
      obtain ⟨ty, pos, aft, e, hdp⟩ := iop0
      rw [e] at ho
      obtain rfl := Option.some.inj ho
      intro a' hds W K hB lq ld hmem hK
      have e5 : a'.eval (.tmp 5) = .pointer (some ⟨E, 0, none⟩) := by rw [eval_tmp]; exact lq (5, .pointer (some ⟨E, 0, none⟩)) (by simp)
      have t5 := (eval_tmp a' 5).symm.trans e5
      have HK := Lib.hid (show K (a'.put (some 134) (.agg #[.int .i64 (N : Int), .slice (some ⟨gh, 0, none⟩) T qh])) W from hK W (Below.refl _ _) trivial)
      clear hK ld lq hmem
      have c0 := (hE.next hB).cell' 0 rfl
      have c1 := (hE.next hB).cell' 1 rfl
      unfold Oper.wp
      simp only [execOp, e5]
      go_simp
      exact HK.out
    | 1, _ =>
      obtain ⟨ty, pos, aft, e, hdp⟩ := iop1
      rw [e] at ho
      obtain rfl := Option.some.inj ho
      intro a' hds W K hB lq ld hmem hK
      have e134 : a'.eval (.tmp 134) = .agg #[.int .i64 (N : Int), .slice (some ⟨gh, 0, none⟩) T qh] := by rw [eval_tmp]; exact ld 0 134 (List.all_eq_true.1 hdp 0 (by decide)) rfl
      have t134 := (eval_tmp a' 134).symm.trans e134
      have HK := Lib.hid (show ∀ hh W', Below W.heap.size W W' → (memNats HS).P hh W' → (∀ b ∈ (memNats HS).bl hh, W.heap.size ≤ b ∧ b < W'.heap.size) → K (a'.put (some 135) (.agg #[.int .i64 (N : Int), .slice (some ⟨hh.b, 0, none⟩) T hh.c])) W' from fun hh W' h1 h2 h3 => by
        have h4 : K (a'.put (some 135) (region_tb12X N L g3 q3 O gh qh E T VS HS 1 (updH hds 1 hh))) W' := hK hh W' h1 h2 h3 trivial
        simp only [region_tb12X, updH_same] at h4
        exact h4)
      clear hK ld lq hmem
      refine step_call (vals := #[.agg #[.int .i64 (N : Int), .slice (some ⟨gh, 0, none⟩) T qh]]) (by exact ⟨_, _, Try.func28, by kernel_rfl, rfl⟩) (by simp only [List.map_toArray, List.map_cons, List.map_nil, e134]) (call28 N T gh qh HS W hTl hT0 hT1 (hn6.below hB hg6) (Nat.lt_of_lt_of_le hg6 hB.size)) ?_
      rintro e w' ⟨g, cap, rfl, hn, hl, hg, hb'⟩
      exact ⟨_, rfl, HK.out ⟨g, cap, 0, 0, none⟩ _ hb' ⟨hn, hg⟩ (bd_one hl hg)⟩
    | 2, _ =>
      obtain ⟨ty, pos, aft, e, hdp⟩ := iop2
      rw [e] at ho
      obtain rfl := Option.some.inj ho
      intro a' hds W K hB lq ld hmem hK
      have e17 : a'.eval (.tmp 17) = .pointer (some ⟨O, 0, none⟩) := by rw [eval_tmp]; exact lq (17, .pointer (some ⟨O, 0, none⟩)) (by simp)
      have t17 := (eval_tmp a' 17).symm.trans e17
      have HK := Lib.hid (show K (a'.put (some 136) (.agg #[.int .i64 (N : Int), .slice (some ⟨g3, 0, none⟩) L q3])) W from hK W (Below.refl _ _) trivial)
      clear hK ld lq hmem
      have c0 := (hF.next hB).cell' 0 rfl
      have c1 := (hF.next hB).cell' 1 rfl
      unfold Oper.wp
      simp only [execOp, e17]
      go_simp
      exact HK.out
    | 3, _ =>
      obtain ⟨ty, pos, aft, e, hdp⟩ := iop3
      rw [e] at ho
      obtain rfl := Option.some.inj ho
      intro a' hds W K hB lq ld hmem hK
      have e135 : a'.eval (.tmp 135) = .agg #[.int .i64 (N : Int), .slice (some ⟨(hds 1).b, 0, none⟩) T (hds 1).c] := by rw [eval_tmp]; exact ld 1 135 (List.all_eq_true.1 hdp 1 (by decide)) rfl
      have t135 := (eval_tmp a' 135).symm.trans e135
      have e136 : a'.eval (.tmp 136) = .agg #[.int .i64 (N : Int), .slice (some ⟨g3, 0, none⟩) L q3] := by rw [eval_tmp]; exact ld 2 136 (List.all_eq_true.1 hdp 2 (by decide)) rfl
      have t136 := (eval_tmp a' 136).symm.trans e136
      have HK := Lib.hid (show ∀ hh W', Below W.heap.size W W' → (memStrs (clothS HS VS)).P hh W' → (∀ b ∈ (memStrs (clothS HS VS)).bl hh, W.heap.size ≤ b ∧ b < W'.heap.size) → K (a'.put (some 137) (.tuple #[.slice (some ⟨hh.b, 0, none⟩) L hh.c, .int .i64 0])) W' from fun hh W' h1 h2 h3 => by
        have h4 : K (a'.put (some 137) (region_tb12X N L g3 q3 O gh qh E T VS HS 3 (updH hds 3 hh))) W' := hK hh W' h1 h2 h3 trivial
        simp only [region_tb12X, updH_same] at h4
        exact h4)
      have m135   := (hmem 1 (show 1 ∈ uOf region_tb12U 3 by decide) (by decide)).1
      clear hK ld lq hmem
      refine step_call (vals := #[.agg #[.int .i64 (N : Int), .slice (some ⟨(hds 1).b, 0, none⟩) T (hds 1).c], .agg #[.int .i64 (N : Int), .slice (some ⟨g3, 0, none⟩) L q3]]) (by exact ⟨_, _, Try.func38, by kernel_rfl, rfl⟩) (by simp only [List.map_toArray, List.map_cons, List.map_nil, e135, e136]) (call38 N T L (hds 1).b (hds 1).c g3 q3 HS VS W hTl hVl hT0 hT1 hk hVd m135.1 m135.2 (hn3.below hB hg3) (Nat.lt_of_lt_of_le hg3 hB.size)) ?_
      rintro e w' ⟨g, cap, rfl, hn, hl, hg, hb'⟩
      exact ⟨_, rfl, HK.out ⟨g, cap, 0, 0, none⟩ _ hb' ⟨hn, hg⟩ (bd_one hl hg)⟩
    | 4, _ =>
      obtain ⟨ty, pos, aft, e, hdp⟩ := iop4
      rw [e] at ho
      obtain rfl := Option.some.inj ho
      intro a' hds W K hB lq ld hmem hK
      have e137 : a'.eval (.tmp 137) = .tuple #[.slice (some ⟨(hds 3).b, 0, none⟩) L (hds 3).c, .int .i64 0] := by rw [eval_tmp]; exact ld 3 137 (List.all_eq_true.1 hdp 3 (by decide)) rfl
      have t137 := (eval_tmp a' 137).symm.trans e137
      have HK := Lib.hid (show K (a'.put (some 133) (.tuple #[.slice (some ⟨(hds 3).b, 0, none⟩) L (hds 3).c, .int .i64 0])) W from hK W (Below.refl _ _) trivial)
      clear hK ld lq hmem
      unfold Oper.wp
      simp only [execOp, e137]
      exact HK.out
    | 5, _ =>
      obtain ⟨ty, pos, aft, e, hdp⟩ := iop5
      rw [e] at ho
      obtain rfl := Option.some.inj ho
      intro a' hds W K hB lq ld hmem hK
      have e133 : a'.eval (.tmp 133) = .tuple #[.slice (some ⟨(hds 3).b, 0, none⟩) L (hds 3).c, .int .i64 0] := by rw [eval_tmp]; exact ld 4 133 (List.all_eq_true.1 hdp 4 (by decide)) rfl
      have t133 := (eval_tmp a' 133).symm.trans e133
      have HK := Lib.hid (show K (a'.put (some 138) (.slice (some ⟨(hds 3).b, 0, none⟩) L (hds 3).c)) W from hK W (Below.refl _ _) trivial)
      clear hK ld lq hmem
      unfold Oper.wp
      simp only [execOp, e133]
      exact HK.out
    | 6, _ =>
      obtain ⟨ty, pos, aft, e, hdp⟩ := iop6
      rw [e] at ho
      obtain rfl := Option.some.inj ho
      intro a' hds W K hB lq ld hmem hK
      have e133 : a'.eval (.tmp 133) = .tuple #[.slice (some ⟨(hds 3).b, 0, none⟩) L (hds 3).c, .int .i64 0] := by rw [eval_tmp]; exact ld 4 133 (List.all_eq_true.1 hdp 4 (by decide)) rfl
      have t133 := (eval_tmp a' 133).symm.trans e133
      have HK := Lib.hid (show K (a'.put (some 139) (.int .i64 0)) W from hK W (Below.refl _ _) trivial)
      clear hK ld lq hmem
      unfold Oper.wp
      simp only [execOp, e133]
      exact HK.out
    | 7, _ =>
      obtain ⟨ty, pos, aft, e, hdp⟩ := iop7
      rw [e] at ho
      obtain rfl := Option.some.inj ho
      intro a' hds W K hB lq ld hmem hK
      have e138 : a'.eval (.tmp 138) = .slice (some ⟨(hds 3).b, 0, none⟩) L (hds 3).c := by rw [eval_tmp]; exact ld 5 138 (List.all_eq_true.1 hdp 5 (by decide)) rfl
      have t138 := (eval_tmp a' 138).symm.trans e138
      have HK := Lib.hid (show K (a'.put (some 13) (.slice (some ⟨(hds 3).b, 0, none⟩) L (hds 3).c)) W from hK W (Below.refl _ _) trivial)
      clear hK ld lq hmem
      unfold Oper.wp
      simp only [execOp, e138]
      exact HK.out
    | 8, _ =>
      obtain ⟨ty, pos, aft, e, hdp⟩ := iop8
      rw [e] at ho
      obtain rfl := Option.some.inj ho
      intro a' hds W K hB lq ld hmem hK
      have e139 : a'.eval (.tmp 139) = .int .i64 0 := by rw [eval_tmp]; exact ld 6 139 (List.all_eq_true.1 hdp 6 (by decide)) rfl
      have t139 := (eval_tmp a' 139).symm.trans e139
      have HK := Lib.hid (show K (a'.put (some 20) (.int .i64 0)) W from hK W (Below.refl _ _) trivial)
      clear hK ld lq hmem
      unfold Oper.wp
      simp only [execOp, e139]
      exact HK.out
    | i + 9, h => omega
  · intro hds v W hO
    have hfin := gend (hds 1).b (hds 1).c (hds 1).b2 (hds 1).c2 (hds 3).b (hds 3).c (hds 3).b2 (hds 3).c2 (hds 1).p (hds 3).p (v 134) (v 135) (v 136) (v 137) (v 133) (v 138) (v 139) W hO.b (hO.m 1 (by show 1 < 9; decide) rfl).1 (hO.m 1 (by show 1 < 9; decide) rfl).2 (hO.m 3 (by show 3 < 9; decide) rfl).1 (hO.m 3 (by show 3 < 9; decide) rfl).2
    rw [← laid_putL _ a v ?_] at hfin
    · exact hfin
    · intro p hp
      simp only [List.mem_cons, List.not_mem_nil, or_false] at hp
      rcases hp with rfl | rfl | rfl | rfl | rfl | rfl | rfl | rfl | rfl
      · rfl
      · rfl
      · rfl
      · rfl
      · rfl
      · rfl
      · rfl
      · exact hO.x 7 (show 7 < 9 by decide) 13 rfl
      · exact hO.x 8 (show 8 < 9 by decide) 20 rfl
end Go.Proofs.Ytdmgffoikebgkaa
