/- TieEdges: its regions that draw their order; contracts. -/
import Derived.Test.YtdmgffoikebgkaaTb01
import Derived.Test.YtdmgffoikebgkaaTb02
import Derived.Test.YtdmgffoikebgkaaTb03
import Derived.Test.YtdmgffoikebgkaaTb04
import Derived.Test.YtdmgffoikebgkaaTb05
import Derived.Test.YtdmgffoikebgkaaTb06
import Derived.Test.YtdmgffoikebgkaaTb07
import Derived.Test.YtdmgffoikebgkaaTb08
import Derived.Test.YtdmgffoikebgkaaTb09
import Derived.Test.YtdmgffoikebgkaaTb10
import Derived.Test.YtdmgffoikebgkaaTb11
import Derived.Test.YtdmgffoikebgkaaTb12
import Derived.Test.YtdmgffoikebgkaaTb13
import Derived.Test.YtdmgffoikebgkaaTb14
import Derived.Test.YtdmgffoikebgkaaTb15
import Derived.Test.YtdmgffoikebgkaaTb16
import Derived.Test.YtdmgffoikebgkaaTb17
import Derived.Test.YtdmgffoikebgkaaTb18
import Derived.Test.YtdmgffoikebgkaaTb19
import Derived.Test.YtdmgffoikebgkaaTb20
import Derived.Test.YtdmgffoikebgkaaTk02
namespace Go.Proofs.Ytdmgffoikebgkaa
open Go.RowKit Go.Shelf
attribute [local go_sem] Oper.semAt_some

def region_te1U : List (List Nat) := [[], [1], [], [3], [4], [5], [1, 4], [3, 5]]
def region_te1X (_Z N T L : Nat) (V0 V1 V2 : Value) (_HS _DS : List Nat) : Nat → (Nat → Hd) → Value
  | 0, _ => .agg #[V0, V1, V2]
  | 1, hds => .agg #[.int .i64 (N : Int), .slice (some ⟨(hds 1).b, 0, none⟩) T (hds 1).c]
  | 2, _ => .agg #[V0, V1, V2]
  | 3, hds => .agg #[.int .i64 (N : Int), .slice (some ⟨(hds 3).b, 0, none⟩) L (hds 3).c]
  | 4, hds => .pointer (some ⟨(hds 4).b, 0, none⟩)
  | 5, hds => .pointer (some ⟨(hds 5).b, 0, none⟩)
  | 6, _ => undef
  | 7, _ => undef
  | _ + 8, _ => undef
theorem region_te1X.congr (Z N T L : Nat) (V0 V1 V2 : Value) (HS DS : List Nat) : ∀ i hds hds', (∀ r ∈ uOf region_te1U i, hds r = hds' r) → region_te1X Z N T L V0 V1 V2 HS DS i hds = region_te1X Z N T L V0 V1 V2 HS DS i hds'
  | 0, _, _, _ => rfl
  | 1, hds, hds', h => by simp only [region_te1X, h 1 (show 1 ∈ uOf region_te1U 1 by decide)]
  | 2, _, _, _ => rfl
  | 3, hds, hds', h => by simp only [region_te1X, h 3 (show 3 ∈ uOf region_te1U 3 by decide)]
  | 4, hds, hds', h => by simp only [region_te1X, h 4 (show 4 ∈ uOf region_te1U 4 by decide)]
  | 5, hds, hds', h => by simp only [region_te1X, h 5 (show 5 ∈ uOf region_te1U 5 by decide)]
  | 6, _, _, _ => rfl
  | 7, _, _, _ => rfl
  | _ + 8, _, _, _ => rfl
def region_te1M (_Z _N _T _L : Nat) (_V0 _V1 _V2 : Value) (HS DS : List Nat) : Nat → Mem
  | 1 => memNats HS
  | 3 => memNats DS
  | 4 => memBox 2 26
  | 5 => memBox 2 37
  | _ => memNone
def region_te1S (_Z N T L : Nat) (_V0 _V1 _V2 : Value) (_HS _DS : List Nat) : Nat → Option Sto
  | 6 => some ⟨4, 26, fun hds => #[.int .i64 (N : Int), .slice (some ⟨(hds 1).b, 0, none⟩) T (hds 1).c]⟩
  | 7 => some ⟨5, 37, fun hds => #[.int .i64 (N : Int), .slice (some ⟨(hds 3).b, 0, none⟩) L (hds 3).c]⟩
  | _ => none
set_option maxRecDepth 8000 in
set_option maxHeartbeats 2000000 in
theorem region_te1 {id : Nat} {ops : Array Oper} {Q : Exit → Act → World → Prop} {a : Act} {w : World} (Z N T L : Nat) (V0 V1 V2 : Value) (HS DS : List Nat) (H63 : ∀ W, Below w.heap.size w W → Calls Try.prog 63 #[.agg #[V0, V1, V2]] W (MadeL N T HS W)) (H64 : ∀ W, Below w.heap.size w W → Calls Try.prog 64 #[.agg #[V0, V1, V2]] W (MadeL N L DS W)) (hZ : BoxAt w Z #[V0, V1, V2] 92)
    (gsize : ops.size = 8)
    (gops : IsOp ops 0 (some 33) (.load 92 (.tmp 2)) none [] ∧ IsOp ops 1 (some 34) (.call { callee := .value (.func 63), args := #[.tmp 33], argTypes := #[92] }) none [0] ∧ IsOp ops 2 (some 35) (.load 92 (.tmp 2)) none [] ∧ IsOp ops 3 (some 36) (.call { callee := .value (.func 64), args := #[.tmp 35], argTypes := #[92] }) none [2] ∧ IsOp ops 4 (some 5) (.alloc 26) none [] ∧ IsOp ops 5 (some 6) (.alloc 37) none [] ∧ IsOp ops 6 none (.store 26 (.tmp 5) (.tmp 34)) none [1, 4] ∧ IsOp ops 7 none (.store 37 (.tmp 6) (.tmp 36)) none [3, 5])
    (gbk : backB ops = true) (gds : dstsB ops (dOf [some 33, some 34, some 35, some 36, some 5, some 6, none, none]) = true) (gus : useB ops (uOf region_te1U) (kOf [0, 1, 0, 1, 1, 1, 6, 7]) = true) (ggd : plainB ops = true) (gsz : ∀ e ∈ [33, 34, 35, 36, 5, 6], e < a.tmps.size)
    (gout : a.eval (.tmp 2) = .pointer (some ⟨Z, 0, none⟩))
    (gend : ∀ (g34 q34 G34 Q34 g36 q36 G36 Q36 g5 q5 G5 Q5 g6 q6 G6 Q6 : Nat) (P34 P36 P5 P6 : Option Addr) (u33 u34 u35 u36 : Value) (W : World), Below w.heap.size w W → (memNats HS).P ⟨g34, q34, G34, Q34, P34⟩ W → (∀ b ∈ (memNats HS).bl ⟨g34, q34, G34, Q34, P34⟩, w.heap.size ≤ b ∧ b < W.heap.size) → (memNats DS).P ⟨g36, q36, G36, Q36, P36⟩ W → (∀ b ∈ (memNats DS).bl ⟨g36, q36, G36, Q36, P36⟩, w.heap.size ≤ b ∧ b < W.heap.size) → w.heap.size ≤ g5 → g5 < W.heap.size → w.heap.size ≤ g6 → g6 < W.heap.size → BoxAt W g5 #[.int .i64 (N : Int), .slice (some ⟨g34, 0, none⟩) T q34] 26 → BoxAt W g6 #[.int .i64 (N : Int), .slice (some ⟨g36, 0, none⟩) L q36] 37 → Q .normal (putL a [(33, u33), (34, u34), (35, u35), (36, u36), (5, .pointer (some ⟨g5, 0, none⟩)), (6, .pointer (some ⟨g6, 0, none⟩))]) W) :
    (Code.region id ops true).wp Try.prog Q a w := by
  obtain ⟨iop0, iop1, iop2, iop3, iop4, iop5, iop6, iop7⟩ := gops
  have o2 := gout
  refine region_all (RSp.of 8 [some 33, some 34, some 35, some 36, some 5, some 6, none, none] (fun _ => true) (region_te1X Z N T L V0 V1 V2 HS DS) region_te1U [0, 1, 0, 1, 1, 1, 6, 7] (region_te1M Z N T L V0 V1 V2 HS DS) (region_te1S Z N T L V0 V1 V2 HS DS)) [(2, .pointer (some ⟨Z, 0, none⟩))] [33, 34, 35, 36, 5, 6] (RSp.of_fit gsize.symm gbk gds gus ggd (by decide) ?_) (RSp.of_ok _ (region_te1X.congr Z N T L V0 V1 V2 HS DS) ?_) gsz ?_ ?_ ?_
  · intro p hp
    have hp2 : p ∈ [(6, 4), (7, 5)] := hp
    simp only [List.mem_cons, List.not_mem_nil, or_false] at hp2
    rcases hp2 with rfl | rfl
    · refine ⟨rfl, (show 4 ∈ uOf region_te1U 6 by decide), fun _ => rfl, fun j hj hm => ?_⟩
      match j, hj, hm with
      | 0, _, _ => rfl
      | 1, _, _ => rfl
      | 2, _, _ => rfl
      | 3, _, _ => rfl
      | 4, _, _ => rfl
      | 5, _, _ => rfl
      | 6, hj, _ => exact absurd rfl hj
      | 7, _, hm => exact absurd hm (by decide)
      | _ + 8, _, _ => rfl
    · refine ⟨rfl, (show 5 ∈ uOf region_te1U 7 by decide), fun _ => rfl, fun j hj hm => ?_⟩
      match j, hj, hm with
      | 0, _, _ => rfl
      | 1, _, _ => rfl
      | 2, _, _ => rfl
      | 3, _, _ => rfl
      | 4, _, _ => rfl
      | 5, _, _ => rfl
      | 6, _, hm => exact absurd hm (by decide)
      | 7, hj, _ => exact absurd rfl hj
      | _ + 8, _, _ => rfl
  · intro i s hds
    match i, hds with
    | 0, hds => cases hds
    | 1, hds => cases hds
    | 2, hds => cases hds
    | 3, hds => cases hds
    | 4, hds => cases hds
    | 5, hds => cases hds
    | 6, hds =>
      obtain rfl := Option.some.inj hds
      refine ⟨(show 4 ∈ uOf region_te1U 6 by decide), fun _ => rfl, fun hds hds' h => ?_⟩
      simp only [h 1 (show 1 ∈ uOf region_te1U 6 by decide)]
    | 7, hds =>
      obtain rfl := Option.some.inj hds
      refine ⟨(show 5 ∈ uOf region_te1U 7 by decide), fun _ => rfl, fun hds hds' h => ?_⟩
      simp only [h 3 (show 3 ∈ uOf region_te1U 7 by decide)]
    | _ + 8, hds => cases hds
  · intro q hq
    simp only [List.mem_cons, List.not_mem_nil, or_false] at hq
    subst hq
    · exact ⟨o2, by simp⟩
  · intro i o ho hw
    have hi : i < 8 := by rw [← gsize]; exact (Array.getElem?_eq_some_iff.1 ho).1
    match i, hi with
    | 0, _ =>
      obtain ⟨ty, pos, aft, e, hdp⟩ := iop0
      rw [e] at ho
      obtain rfl := Option.some.inj ho
      intro a' hds W K hB lq ld hmem hK
      have e2 : a'.eval (.tmp 2) = .pointer (some ⟨Z, 0, none⟩) := by rw [eval_tmp]; exact lq (2, .pointer (some ⟨Z, 0, none⟩)) (by simp)
      have t2 := (eval_tmp a' 2).symm.trans e2
      have HK := Lib.hid (show K (a'.put (some 33) (.agg #[V0, V1, V2])) W from hK W (Below.refl _ _) trivial)
      clear hK ld lq hmem
      have c0 := (hZ.next hB).cell' 0 rfl
      have c1 := (hZ.next hB).cell' 1 rfl
      have c2 := (hZ.next hB).cell' 2 rfl
      unfold Oper.wp
      simp only [execOp, e2]
      go_simp
      exact HK.out
    | 1, _ =>
      obtain ⟨ty, pos, aft, e, hdp⟩ := iop1
      rw [e] at ho
      obtain rfl := Option.some.inj ho
      intro a' hds W K hB lq ld hmem hK
      have e33 : a'.eval (.tmp 33) = .agg #[V0, V1, V2] := by rw [eval_tmp]; exact ld 0 33 (List.all_eq_true.1 hdp 0 (by decide)) rfl
      have t33 := (eval_tmp a' 33).symm.trans e33
      have HK := Lib.hid (show ∀ hh W', Below W.heap.size W W' → (memNats HS).P hh W' → (∀ b ∈ (memNats HS).bl hh, W.heap.size ≤ b ∧ b < W'.heap.size) → K (a'.put (some 34) (.agg #[.int .i64 (N : Int), .slice (some ⟨hh.b, 0, none⟩) T hh.c])) W' from fun hh W' h1 h2 h3 => by
        have h4 : K (a'.put (some 34) (region_te1X Z N T L V0 V1 V2 HS DS 1 (updH hds 1 hh))) W' := hK hh W' h1 h2 h3 trivial
        simp only [region_te1X, updH_same] at h4
        exact h4)
      clear hK ld lq hmem
      refine step_call (vals := #[.agg #[V0, V1, V2]]) (by exact ⟨_, _, Try.func63, by kernel_rfl, rfl⟩) (by simp only [List.map_toArray, List.map_cons, List.map_nil, e33]) (H63 W hB) ?_
      rintro e w' ⟨g, cap, rfl, hn, hl, hg, hb'⟩
      exact ⟨_, rfl, HK.out ⟨g, cap, 0, 0, none⟩ _ hb' ⟨hn, hg⟩ (bd_one hl hg)⟩
    | 2, _ =>
      obtain ⟨ty, pos, aft, e, hdp⟩ := iop2
      rw [e] at ho
      obtain rfl := Option.some.inj ho
      intro a' hds W K hB lq ld hmem hK
      have e2 : a'.eval (.tmp 2) = .pointer (some ⟨Z, 0, none⟩) := by rw [eval_tmp]; exact lq (2, .pointer (some ⟨Z, 0, none⟩)) (by simp)
      have t2 := (eval_tmp a' 2).symm.trans e2
      have HK := Lib.hid (show K (a'.put (some 35) (.agg #[V0, V1, V2])) W from hK W (Below.refl _ _) trivial)
      clear hK ld lq hmem
      have c0 := (hZ.next hB).cell' 0 rfl
      have c1 := (hZ.next hB).cell' 1 rfl
      have c2 := (hZ.next hB).cell' 2 rfl
      unfold Oper.wp
      simp only [execOp, e2]
      go_simp
      exact HK.out
    | 3, _ =>
      obtain ⟨ty, pos, aft, e, hdp⟩ := iop3
      rw [e] at ho
      obtain rfl := Option.some.inj ho
      intro a' hds W K hB lq ld hmem hK
      have e35 : a'.eval (.tmp 35) = .agg #[V0, V1, V2] := by rw [eval_tmp]; exact ld 2 35 (List.all_eq_true.1 hdp 2 (by decide)) rfl
      have t35 := (eval_tmp a' 35).symm.trans e35
      have HK := Lib.hid (show ∀ hh W', Below W.heap.size W W' → (memNats DS).P hh W' → (∀ b ∈ (memNats DS).bl hh, W.heap.size ≤ b ∧ b < W'.heap.size) → K (a'.put (some 36) (.agg #[.int .i64 (N : Int), .slice (some ⟨hh.b, 0, none⟩) L hh.c])) W' from fun hh W' h1 h2 h3 => by
        have h4 : K (a'.put (some 36) (region_te1X Z N T L V0 V1 V2 HS DS 3 (updH hds 3 hh))) W' := hK hh W' h1 h2 h3 trivial
        simp only [region_te1X, updH_same] at h4
        exact h4)
      clear hK ld lq hmem
      refine step_call (vals := #[.agg #[V0, V1, V2]]) (by exact ⟨_, _, Try.func64, by kernel_rfl, rfl⟩) (by simp only [List.map_toArray, List.map_cons, List.map_nil, e35]) (H64 W hB) ?_
      rintro e w' ⟨g, cap, rfl, hn, hl, hg, hb'⟩
      exact ⟨_, rfl, HK.out ⟨g, cap, 0, 0, none⟩ _ hb' ⟨hn, hg⟩ (bd_one hl hg)⟩
    | 4, _ =>
      obtain ⟨ty, pos, aft, e, hdp⟩ := iop4
      rw [e] at ho
      obtain rfl := Option.some.inj ho
      intro a' hds W K hB lq ld hmem hK
      have HK := Lib.hid (show ∀ hh W', Below W.heap.size W W' → (memBox 2 26).P hh W' → (∀ b ∈ (memBox 2 26).bl hh, W.heap.size ≤ b ∧ b < W'.heap.size) → K (a'.put (some 5) (.pointer (some ⟨hh.b, 0, none⟩))) W' from fun hh W' h1 h2 h3 => by
        have h4 : K (a'.put (some 5) (region_te1X Z N T L V0 V1 V2 HS DS 4 (updH hds 4 hh))) W' := hK hh W' h1 h2 h3 trivial
        simp only [region_te1X, updH_same] at h4
        exact h4)
      clear hK ld lq hmem
      have hfin := Lib.hid (HK.out ⟨W.heap.size, 0, 0, 0, none⟩ _ ((Below.refl _ _).alloc (Nat.le_refl _) (.cells #[.int .i64 0, .slice none 0 0] 26)) ⟨_, rfl, BoxAt.new W #[.int .i64 0, .slice none 0 0] 26⟩ (bd_one (Nat.le_refl _) (by simp)))
      clear HK
      unfold Oper.wp
      simp only [execOp]
      go_simp
      exact hfin.out
    | 5, _ =>
      obtain ⟨ty, pos, aft, e, hdp⟩ := iop5
      rw [e] at ho
      obtain rfl := Option.some.inj ho
      intro a' hds W K hB lq ld hmem hK
      have HK := Lib.hid (show ∀ hh W', Below W.heap.size W W' → (memBox 2 37).P hh W' → (∀ b ∈ (memBox 2 37).bl hh, W.heap.size ≤ b ∧ b < W'.heap.size) → K (a'.put (some 6) (.pointer (some ⟨hh.b, 0, none⟩))) W' from fun hh W' h1 h2 h3 => by
        have h4 : K (a'.put (some 6) (region_te1X Z N T L V0 V1 V2 HS DS 5 (updH hds 5 hh))) W' := hK hh W' h1 h2 h3 trivial
        simp only [region_te1X, updH_same] at h4
        exact h4)
      clear hK ld lq hmem
      have hfin := Lib.hid (HK.out ⟨W.heap.size, 0, 0, 0, none⟩ _ ((Below.refl _ _).alloc (Nat.le_refl _) (.cells #[.int .i64 0, .slice none 0 0] 37)) ⟨_, rfl, BoxAt.new W #[.int .i64 0, .slice none 0 0] 37⟩ (bd_one (Nat.le_refl _) (by simp)))
      clear HK
      unfold Oper.wp
      simp only [execOp]
      go_simp
      exact hfin.out
    | 6, _ =>
      obtain ⟨ty, pos, aft, e, hdp⟩ := iop6
      rw [e] at ho
      obtain rfl := Option.some.inj ho
      intro a' hds W K hB lq ld hmem hK
      have e5 : a'.eval (.tmp 5) = .pointer (some ⟨(hds 4).b, 0, none⟩) := by rw [eval_tmp]; exact ld 4 5 (List.all_eq_true.1 hdp 4 (by decide)) rfl
      have t5 := (eval_tmp a' 5).symm.trans e5
      have e34 : a'.eval (.tmp 34) = .agg #[.int .i64 (N : Int), .slice (some ⟨(hds 1).b, 0, none⟩) T (hds 1).c] := by rw [eval_tmp]; exact ld 1 34 (List.all_eq_true.1 hdp 1 (by decide)) rfl
      have t34 := (eval_tmp a' 34).symm.trans e34
      obtain ⟨⟨vs, hvs, hbx⟩, _⟩ := hmem 4 (show 4 ∈ uOf region_te1U 6 by decide) (by decide)
      have hvl : vs.toList.length = 2 := by simpa using hvs
      obtain ⟨v0, v1, rfl⟩ : ∃ v0 v1, vs = #[v0, v1] := by
        cases vs with
        | mk l =>
          match l, hvl with
          | [v0, v1], _ => exact ⟨_, _, rfl⟩
      have HK := Lib.hid (show ∀ W', SetAt (hds 4).b W W' → (memBox 2 26).P (hds 4) W' → BoxAt W' (hds 4).b #[.int .i64 (N : Int), .slice (some ⟨(hds 1).b, 0, none⟩) T (hds 1).c] 26 → K a' W' from hK)
      clear hK ld lq hmem
      have hfin := Lib.hid (HK.out _ (((SetAt.refl (hds 4).b W).cell 0 (.int .i64 (N : Int))).cell 1 (.slice (some ⟨(hds 1).b, 0, none⟩) T (hds 1).c)) ⟨_, rfl, ((hbx).set 0 (.int .i64 (N : Int))).set 1 (.slice (some ⟨(hds 1).b, 0, none⟩) T (hds 1).c)⟩ (((hbx).set 0 (.int .i64 (N : Int))).set 1 (.slice (some ⟨(hds 1).b, 0, none⟩) T (hds 1).c)))
      have c0 := hbx.cell' 0 rfl
      have f0 := hbx.frozen 0
      have c1 := hbx.cell' 1 rfl
      have f1 := hbx.frozen 1
      have hlt := hbx.lt
      clear hbx hvl hvs HK
      generalize (hds 4).b = B at *
      unfold Oper.wp
      simp only [execOp, e5, e34]
      clear e5 e34
      go_simp
      exact hfin.out
    | 7, _ =>
      obtain ⟨ty, pos, aft, e, hdp⟩ := iop7
      rw [e] at ho
      obtain rfl := Option.some.inj ho
      intro a' hds W K hB lq ld hmem hK
      have e6 : a'.eval (.tmp 6) = .pointer (some ⟨(hds 5).b, 0, none⟩) := by rw [eval_tmp]; exact ld 5 6 (List.all_eq_true.1 hdp 5 (by decide)) rfl
      have t6 := (eval_tmp a' 6).symm.trans e6
      have e36 : a'.eval (.tmp 36) = .agg #[.int .i64 (N : Int), .slice (some ⟨(hds 3).b, 0, none⟩) L (hds 3).c] := by rw [eval_tmp]; exact ld 3 36 (List.all_eq_true.1 hdp 3 (by decide)) rfl
      have t36 := (eval_tmp a' 36).symm.trans e36
      obtain ⟨⟨vs, hvs, hbx⟩, _⟩ := hmem 5 (show 5 ∈ uOf region_te1U 7 by decide) (by decide)
      have hvl : vs.toList.length = 2 := by simpa using hvs
      obtain ⟨v0, v1, rfl⟩ : ∃ v0 v1, vs = #[v0, v1] := by
        cases vs with
        | mk l =>
          match l, hvl with
          | [v0, v1], _ => exact ⟨_, _, rfl⟩
      have HK := Lib.hid (show ∀ W', SetAt (hds 5).b W W' → (memBox 2 37).P (hds 5) W' → BoxAt W' (hds 5).b #[.int .i64 (N : Int), .slice (some ⟨(hds 3).b, 0, none⟩) L (hds 3).c] 37 → K a' W' from hK)
      clear hK ld lq hmem
      have hfin := Lib.hid (HK.out _ (((SetAt.refl (hds 5).b W).cell 0 (.int .i64 (N : Int))).cell 1 (.slice (some ⟨(hds 3).b, 0, none⟩) L (hds 3).c)) ⟨_, rfl, ((hbx).set 0 (.int .i64 (N : Int))).set 1 (.slice (some ⟨(hds 3).b, 0, none⟩) L (hds 3).c)⟩ (((hbx).set 0 (.int .i64 (N : Int))).set 1 (.slice (some ⟨(hds 3).b, 0, none⟩) L (hds 3).c)))
      have c0 := hbx.cell' 0 rfl
      have f0 := hbx.frozen 0
      have c1 := hbx.cell' 1 rfl
      have f1 := hbx.frozen 1
      have hlt := hbx.lt
      clear hbx hvl hvs HK
      generalize (hds 5).b = B at *
      unfold Oper.wp
      simp only [execOp, e6, e36]
      clear e6 e36
      go_simp
      exact hfin.out
    | i + 8, h => omega
  · intro hds v W hO
    have hfin := gend (hds 1).b (hds 1).c (hds 1).b2 (hds 1).c2 (hds 3).b (hds 3).c (hds 3).b2 (hds 3).c2 (hds 4).b (hds 4).c (hds 4).b2 (hds 4).c2 (hds 5).b (hds 5).c (hds 5).b2 (hds 5).c2 (hds 1).p (hds 3).p (hds 4).p (hds 5).p (v 33) (v 34) (v 35) (v 36) W hO.b (hO.m 1 (by show 1 < 8; decide) rfl).1 (hO.m 1 (by show 1 < 8; decide) rfl).2 (hO.m 3 (by show 3 < 8; decide) rfl).1 (hO.m 3 (by show 3 < 8; decide) rfl).2 ((hO.m 4 (by show 4 < 8; decide) rfl).2 _ (by show _ ∈ [_]; simp)).1 ((hO.m 4 (by show 4 < 8; decide) rfl).2 _ (by show _ ∈ [_]; simp)).2 ((hO.m 5 (by show 5 < 8; decide) rfl).2 _ (by show _ ∈ [_]; simp)).1 ((hO.m 5 (by show 5 < 8; decide) rfl).2 _ (by show _ ∈ [_]; simp)).2 (hO.s 6 (by show 6 < 8; decide) rfl) (hO.s 7 (by show 7 < 8; decide) rfl)
    rw [← laid_putL _ a v ?_] at hfin
    · exact hfin
    · intro p hp
      simp only [List.mem_cons, List.not_mem_nil, or_false] at hp
      rcases hp with rfl | rfl | rfl | rfl | rfl | rfl
      · rfl
      · rfl
      · rfl
      · rfl
      · exact hO.x 4 (show 4 < 8 by decide) 5 rfl
      · exact hO.x 5 (show 5 < 8 by decide) 6 rfl
def region_te2U : List (List Nat) := [[], [1], [], [3], [1, 3, 4], [1, 3, 4], [1, 3, 4], [1, 3, 4], [8], [1, 3, 4, 8], [1, 3, 4]]
def region_te2X (N gh qh _E T T2 : Nat) (_HS : List Nat) : Nat → (Nat → Hd) → Value
  | 0, _ => .agg #[.int .i64 (N : Int), .slice (some ⟨gh, 0, none⟩) T qh]
  | 1, hds => .agg #[.int .i64 (N : Int), .slice (some ⟨(hds 1).b, 0, none⟩) T (hds 1).c]
  | 2, _ => .agg #[.int .i64 (N : Int), .slice (some ⟨gh, 0, none⟩) T qh]
  | 3, hds => .agg #[.int .i64 (N : Int), .slice (some ⟨(hds 3).b, 0, none⟩) T (hds 3).c]
  | 4, hds => .tuple #[.agg #[.int .i64 (N : Int), .slice (some ⟨(hds 4).b, 0, none⟩) T2 (hds 4).c], .int .i64 0]
  | 5, hds => .tuple #[.agg #[.int .i64 (N : Int), .slice (some ⟨(hds 4).b, 0, none⟩) T2 (hds 4).c], .int .i64 0]
  | 6, hds => .agg #[.int .i64 (N : Int), .slice (some ⟨(hds 4).b, 0, none⟩) T2 (hds 4).c]
  | 7, _ => .int .i64 0
  | 8, hds => .pointer (some ⟨(hds 8).b, 0, none⟩)
  | 9, _ => undef
  | 10, _ => .int .i64 0
  | _ + 11, _ => undef
theorem region_te2X.congr (N gh qh E T T2 : Nat) (HS : List Nat) : ∀ i hds hds', (∀ r ∈ uOf region_te2U i, hds r = hds' r) → region_te2X N gh qh E T T2 HS i hds = region_te2X N gh qh E T T2 HS i hds'
  | 0, _, _, _ => rfl
  | 1, hds, hds', h => by simp only [region_te2X, h 1 (show 1 ∈ uOf region_te2U 1 by decide)]
  | 2, _, _, _ => rfl
  | 3, hds, hds', h => by simp only [region_te2X, h 3 (show 3 ∈ uOf region_te2U 3 by decide)]
  | 4, hds, hds', h => by simp only [region_te2X, h 4 (show 4 ∈ uOf region_te2U 4 by decide)]
  | 5, hds, hds', h => by simp only [region_te2X, h 4 (show 4 ∈ uOf region_te2U 5 by decide)]
  | 6, hds, hds', h => by simp only [region_te2X, h 4 (show 4 ∈ uOf region_te2U 6 by decide)]
  | 7, _, _, _ => rfl
  | 8, hds, hds', h => by simp only [region_te2X, h 8 (show 8 ∈ uOf region_te2U 8 by decide)]
  | 9, _, _, _ => rfl
  | 10, _, _, _ => rfl
  | _ + 11, _, _, _ => rfl
def region_te2M (_N _gh _qh _E _T _T2 : Nat) (HS : List Nat) : Nat → Mem
  | 1 => memNats HS
  | 3 => memNats HS
  | 4 => memNats (HS ++ HS)
  | 8 => memBox 2 26
  | _ => memNone
def region_te2S (N _gh _qh _E _T T2 : Nat) (_HS : List Nat) : Nat → Option Sto
  | 9 => some ⟨8, 26, fun hds => #[.int .i64 (N : Int), .slice (some ⟨(hds 4).b, 0, none⟩) T2 (hds 4).c]⟩
  | _ => none
set_option maxRecDepth 8000 in
set_option maxHeartbeats 2000000 in
theorem region_te2 {id : Nat} {ops : Array Oper} {Q : Exit → Act → World → Prop} {a : Act} {w : World} (N gh qh E T T2 : Nat) (HS : List Nat) (hTl : HS.length = T) (hT0 : 1 ≤ T) (hT1 : T ≤ 96) (hn6 : NatsAt w gh 0 HS) (hg6 : gh < w.heap.size) (hk : ∀ i, i < T → nthN HS i < N) (hN0 : 1 ≤ N) (hN1 : N ≤ 24) (hT2 : T + T = T2) (hT96 : T2 ≤ 96) (hE : BoxAt w E #[.int .i64 (N : Int), .slice (some ⟨gh, 0, none⟩) T qh] 26)
    (gsize : ops.size = 11)
    (gops : IsOp ops 0 (some 38) (.load 26 (.tmp 5)) none [] ∧ IsOp ops 1 (some 39) (.call { callee := .value (.func 28), args := #[.tmp 38], argTypes := #[26] }) none [0] ∧ IsOp ops 2 (some 40) (.load 26 (.tmp 5)) none [] ∧ IsOp ops 3 (some 41) (.call { callee := .value (.func 28), args := #[.tmp 40], argTypes := #[26] }) none [2] ∧ IsOp ops 4 (some 42) (.call { callee := .value (.func 30), args := #[.tmp 39, .tmp 41], argTypes := #[26, 26] }) none [1, 3] ∧ IsOp ops 5 (some 37) (.move (.tmp 42)) none [4] ∧ IsOp ops 6 (some 43) (.extract (.tmp 37) 0) none [5] ∧ IsOp ops 7 (some 44) (.extract (.tmp 37) 1) none [5] ∧ IsOp ops 8 (some 7) (.alloc 26) none [] ∧ IsOp ops 9 none (.store 26 (.tmp 7) (.tmp 43)) none [6, 8] ∧ IsOp ops 10 (some 8) (.assign (.tmp 44)) none [7])
    (gbk : backB ops = true) (gds : dstsB ops (dOf [some 38, some 39, some 40, some 41, some 42, some 37, some 43, some 44, some 7, none, some 8]) = true) (gus : useB ops (uOf region_te2U) (kOf [0, 1, 0, 1, 1, 0, 0, 0, 1, 10, 0]) = true) (ggd : plainB ops = true) (gsz : ∀ e ∈ [38, 39, 40, 41, 42, 37, 43, 44, 7, 8], e < a.tmps.size)
    (gout : a.eval (.tmp 5) = .pointer (some ⟨E, 0, none⟩))
    (gend : ∀ (g39 q39 G39 Q39 g41 q41 G41 Q41 g42 q42 G42 Q42 g7 q7 G7 Q7 : Nat) (P39 P41 P42 P7 : Option Addr) (u38 u39 u40 u41 u42 u37 u43 u44 : Value) (W : World), Below w.heap.size w W → (memNats HS).P ⟨g39, q39, G39, Q39, P39⟩ W → (∀ b ∈ (memNats HS).bl ⟨g39, q39, G39, Q39, P39⟩, w.heap.size ≤ b ∧ b < W.heap.size) → (memNats HS).P ⟨g41, q41, G41, Q41, P41⟩ W → (∀ b ∈ (memNats HS).bl ⟨g41, q41, G41, Q41, P41⟩, w.heap.size ≤ b ∧ b < W.heap.size) → (memNats (HS ++ HS)).P ⟨g42, q42, G42, Q42, P42⟩ W → (∀ b ∈ (memNats (HS ++ HS)).bl ⟨g42, q42, G42, Q42, P42⟩, w.heap.size ≤ b ∧ b < W.heap.size) → w.heap.size ≤ g7 → g7 < W.heap.size → BoxAt W g7 #[.int .i64 (N : Int), .slice (some ⟨g42, 0, none⟩) T2 q42] 26 → Q .normal (putL a [(38, u38), (39, u39), (40, u40), (41, u41), (42, u42), (37, u37), (43, u43), (44, u44), (7, .pointer (some ⟨g7, 0, none⟩)), (8, .int .i64 0)]) W) :
    (Code.region id ops true).wp Try.prog Q a w := by
  obtain ⟨iop0, iop1, iop2, iop3, iop4, iop5, iop6, iop7, iop8, iop9, iop10⟩ := gops
  have o5 := gout
  refine region_all (RSp.of 11 [some 38, some 39, some 40, some 41, some 42, some 37, some 43, some 44, some 7, none, some 8] (fun _ => true) (region_te2X N gh qh E T T2 HS) region_te2U [0, 1, 0, 1, 1, 0, 0, 0, 1, 10, 0] (region_te2M N gh qh E T T2 HS) (region_te2S N gh qh E T T2 HS)) [(5, .pointer (some ⟨E, 0, none⟩))] [38, 39, 40, 41, 42, 37, 43, 44, 7, 8] (RSp.of_fit gsize.symm gbk gds gus ggd (by decide) ?_) (RSp.of_ok _ (region_te2X.congr N gh qh E T T2 HS) ?_) gsz ?_ ?_ ?_
  · intro p hp
    have hp2 : p ∈ [(9, 8)] := hp
    simp only [List.mem_cons, List.not_mem_nil, or_false] at hp2
    rcases hp2 with rfl
    · refine ⟨rfl, (show 8 ∈ uOf region_te2U 9 by decide), fun _ => rfl, fun j hj hm => ?_⟩
      match j, hj with
      | 0, _ => rfl
      | 1, _ => rfl
      | 2, _ => rfl
      | 3, _ => rfl
      | 4, _ => rfl
      | 5, _ => rfl
      | 6, _ => rfl
      | 7, _ => rfl
      | 8, _ => rfl
      | 9, hj => exact absurd rfl hj
      | 10, _ => rfl
      | _ + 11, _ => rfl
  · intro i s hds
    match i, hds with
    | 0, hds => cases hds
    | 1, hds => cases hds
    | 2, hds => cases hds
    | 3, hds => cases hds
    | 4, hds => cases hds
    | 5, hds => cases hds
    | 6, hds => cases hds
    | 7, hds => cases hds
    | 8, hds => cases hds
    | 9, hds =>
      obtain rfl := Option.some.inj hds
      refine ⟨(show 8 ∈ uOf region_te2U 9 by decide), fun _ => rfl, fun hds hds' h => ?_⟩
      simp only [h 4 (show 4 ∈ uOf region_te2U 9 by decide)]
    | 10, hds => cases hds
    | _ + 11, hds => cases hds
  · intro q hq
    simp only [List.mem_cons, List.not_mem_nil, or_false] at hq
    subst hq
    · exact ⟨o5, by simp⟩
  · intro i o ho hw
    have hi : i < 11 := by rw [← gsize]; exact (Array.getElem?_eq_some_iff.1 ho).1
    match i, hi with
    | 0, _ =>
      obtain ⟨ty, pos, aft, e, hdp⟩ := iop0
      rw [e] at ho
      obtain rfl := Option.some.inj ho
      intro a' hds W K hB lq ld hmem hK
      have e5 : a'.eval (.tmp 5) = .pointer (some ⟨E, 0, none⟩) := by rw [eval_tmp]; exact lq (5, .pointer (some ⟨E, 0, none⟩)) (by simp)
      have t5 := (eval_tmp a' 5).symm.trans e5
      have HK := Lib.hid (show K (a'.put (some 38) (.agg #[.int .i64 (N : Int), .slice (some ⟨gh, 0, none⟩) T qh])) W from hK W (Below.refl _ _) trivial)
      clear hK ld lq hmem
      have c0 := (hE.next hB).cell' 0 rfl
      have c1 := (hE.next hB).cell' 1 rfl
      unfold Oper.wp
      simp only [execOp, e5]
      go_simp
      exact HK.out
    | 1, _ =>
      obtain ⟨ty, pos, aft, e, hdp⟩ := iop1
      rw [e] at ho
      obtain rfl := Option.some.inj ho
      intro a' hds W K hB lq ld hmem hK
      have e38 : a'.eval (.tmp 38) = .agg #[.int .i64 (N : Int), .slice (some ⟨gh, 0, none⟩) T qh] := by rw [eval_tmp]; exact ld 0 38 (List.all_eq_true.1 hdp 0 (by decide)) rfl
      have t38 := (eval_tmp a' 38).symm.trans e38
      have HK := Lib.hid (show ∀ hh W', Below W.heap.size W W' → (memNats HS).P hh W' → (∀ b ∈ (memNats HS).bl hh, W.heap.size ≤ b ∧ b < W'.heap.size) → K (a'.put (some 39) (.agg #[.int .i64 (N : Int), .slice (some ⟨hh.b, 0, none⟩) T hh.c])) W' from fun hh W' h1 h2 h3 => by
        have h4 : K (a'.put (some 39) (region_te2X N gh qh E T T2 HS 1 (updH hds 1 hh))) W' := hK hh W' h1 h2 h3 trivial
        simp only [region_te2X, updH_same] at h4
        exact h4)
      clear hK ld lq hmem
      refine step_call (vals := #[.agg #[.int .i64 (N : Int), .slice (some ⟨gh, 0, none⟩) T qh]]) (by exact ⟨_, _, Try.func28, by kernel_rfl, rfl⟩) (by simp only [List.map_toArray, List.map_cons, List.map_nil, e38]) (call28 N T gh qh HS W hTl hT0 hT1 (hn6.below hB hg6) (Nat.lt_of_lt_of_le hg6 hB.size)) ?_
      rintro e w' ⟨g, cap, rfl, hn, hl, hg, hb'⟩
      exact ⟨_, rfl, HK.out ⟨g, cap, 0, 0, none⟩ _ hb' ⟨hn, hg⟩ (bd_one hl hg)⟩
    | 2, _ =>
      obtain ⟨ty, pos, aft, e, hdp⟩ := iop2
      rw [e] at ho
      obtain rfl := Option.some.inj ho
      intro a' hds W K hB lq ld hmem hK
      have e5 : a'.eval (.tmp 5) = .pointer (some ⟨E, 0, none⟩) := by rw [eval_tmp]; exact lq (5, .pointer (some ⟨E, 0, none⟩)) (by simp)
      have t5 := (eval_tmp a' 5).symm.trans e5
      have HK := Lib.hid (show K (a'.put (some 40) (.agg #[.int .i64 (N : Int), .slice (some ⟨gh, 0, none⟩) T qh])) W from hK W (Below.refl _ _) trivial)
      clear hK ld lq hmem
      have c0 := (hE.next hB).cell' 0 rfl
      have c1 := (hE.next hB).cell' 1 rfl
      unfold Oper.wp
      simp only [execOp, e5]
      go_simp
      exact HK.out
    | 3, _ =>
      obtain ⟨ty, pos, aft, e, hdp⟩ := iop3
      rw [e] at ho
      obtain rfl := Option.some.inj ho
      intro a' hds W K hB lq ld hmem hK
      have e40 : a'.eval (.tmp 40) = .agg #[.int .i64 (N : Int), .slice (some ⟨gh, 0, none⟩) T qh] := by rw [eval_tmp]; exact ld 2 40 (List.all_eq_true.1 hdp 2 (by decide)) rfl
      have t40 := (eval_tmp a' 40).symm.trans e40
      have HK := Lib.hid (show ∀ hh W', Below W.heap.size W W' → (memNats HS).P hh W' → (∀ b ∈ (memNats HS).bl hh, W.heap.size ≤ b ∧ b < W'.heap.size) → K (a'.put (some 41) (.agg #[.int .i64 (N : Int), .slice (some ⟨hh.b, 0, none⟩) T hh.c])) W' from fun hh W' h1 h2 h3 => by
        have h4 : K (a'.put (some 41) (region_te2X N gh qh E T T2 HS 3 (updH hds 3 hh))) W' := hK hh W' h1 h2 h3 trivial
        simp only [region_te2X, updH_same] at h4
        exact h4)
      clear hK ld lq hmem
      refine step_call (vals := #[.agg #[.int .i64 (N : Int), .slice (some ⟨gh, 0, none⟩) T qh]]) (by exact ⟨_, _, Try.func28, by kernel_rfl, rfl⟩) (by simp only [List.map_toArray, List.map_cons, List.map_nil, e40]) (call28 N T gh qh HS W hTl hT0 hT1 (hn6.below hB hg6) (Nat.lt_of_lt_of_le hg6 hB.size)) ?_
      rintro e w' ⟨g, cap, rfl, hn, hl, hg, hb'⟩
      exact ⟨_, rfl, HK.out ⟨g, cap, 0, 0, none⟩ _ hb' ⟨hn, hg⟩ (bd_one hl hg)⟩
    | 4, _ =>
      obtain ⟨ty, pos, aft, e, hdp⟩ := iop4
      rw [e] at ho
      obtain rfl := Option.some.inj ho
      intro a' hds W K hB lq ld hmem hK
      have e39 : a'.eval (.tmp 39) = .agg #[.int .i64 (N : Int), .slice (some ⟨(hds 1).b, 0, none⟩) T (hds 1).c] := by rw [eval_tmp]; exact ld 1 39 (List.all_eq_true.1 hdp 1 (by decide)) rfl
      have t39 := (eval_tmp a' 39).symm.trans e39
      have e41 : a'.eval (.tmp 41) = .agg #[.int .i64 (N : Int), .slice (some ⟨(hds 3).b, 0, none⟩) T (hds 3).c] := by rw [eval_tmp]; exact ld 3 41 (List.all_eq_true.1 hdp 3 (by decide)) rfl
      have t41 := (eval_tmp a' 41).symm.trans e41
      have HK := Lib.hid (show ∀ hh W', Below W.heap.size W W' → (memNats (HS ++ HS)).P hh W' → (∀ b ∈ (memNats (HS ++ HS)).bl hh, W.heap.size ≤ b ∧ b < W'.heap.size) → K (a'.put (some 42) (.tuple #[.agg #[.int .i64 (N : Int), .slice (some ⟨hh.b, 0, none⟩) T2 hh.c], .int .i64 0])) W' from fun hh W' h1 h2 h3 => by
        have h4 : K (a'.put (some 42) (region_te2X N gh qh E T T2 HS 4 (updH hds 4 hh))) W' := hK hh W' h1 h2 h3 trivial
        simp only [region_te2X, updH_same] at h4
        exact h4)
      have m39   := (hmem 1 (show 1 ∈ uOf region_te2U 4 by decide) (by decide)).1
      have m41   := (hmem 3 (show 3 ∈ uOf region_te2U 4 by decide) (by decide)).1
      clear hK ld lq hmem
      refine step_call (vals := #[.agg #[.int .i64 (N : Int), .slice (some ⟨(hds 1).b, 0, none⟩) T (hds 1).c], .agg #[.int .i64 (N : Int), .slice (some ⟨(hds 3).b, 0, none⟩) T (hds 3).c]]) (by exact ⟨_, _, Try.func30, by kernel_rfl, rfl⟩) (by simp only [List.map_toArray, List.map_cons, List.map_nil, e39, e41]) (call30 N T T2 (hds 1).b (hds 1).c (hds 3).b (hds 3).c HS W hTl hT2 hT96 (tat_of hTl hT0 hT1 hN0 hN1 hk m39.1 m39.2) (tat_of hTl hT0 hT1 hN0 hN1 hk m41.1 m41.2)) ?_
      rintro e w' ⟨g, cap, rfl, hn, hl, hg, hb'⟩
      exact ⟨_, rfl, HK.out ⟨g, cap, 0, 0, none⟩ _ hb' ⟨hn, hg⟩ (bd_one hl hg)⟩
    | 5, _ =>
      obtain ⟨ty, pos, aft, e, hdp⟩ := iop5
      rw [e] at ho
      obtain rfl := Option.some.inj ho
      intro a' hds W K hB lq ld hmem hK
      have e42 : a'.eval (.tmp 42) = .tuple #[.agg #[.int .i64 (N : Int), .slice (some ⟨(hds 4).b, 0, none⟩) T2 (hds 4).c], .int .i64 0] := by rw [eval_tmp]; exact ld 4 42 (List.all_eq_true.1 hdp 4 (by decide)) rfl
      have t42 := (eval_tmp a' 42).symm.trans e42
      have HK := Lib.hid (show K (a'.put (some 37) (.tuple #[.agg #[.int .i64 (N : Int), .slice (some ⟨(hds 4).b, 0, none⟩) T2 (hds 4).c], .int .i64 0])) W from hK W (Below.refl _ _) trivial)
      clear hK ld lq hmem
      unfold Oper.wp
      simp only [execOp, e42]
      exact HK.out
    | 6, _ =>
      obtain ⟨ty, pos, aft, e, hdp⟩ := iop6
      rw [e] at ho
      obtain rfl := Option.some.inj ho
      intro a' hds W K hB lq ld hmem hK
      have e37 : a'.eval (.tmp 37) = .tuple #[.agg #[.int .i64 (N : Int), .slice (some ⟨(hds 4).b, 0, none⟩) T2 (hds 4).c], .int .i64 0] := by rw [eval_tmp]; exact ld 5 37 (List.all_eq_true.1 hdp 5 (by decide)) rfl
      have t37 := (eval_tmp a' 37).symm.trans e37
      have HK := Lib.hid (show K (a'.put (some 43) (.agg #[.int .i64 (N : Int), .slice (some ⟨(hds 4).b, 0, none⟩) T2 (hds 4).c])) W from hK W (Below.refl _ _) trivial)
      clear hK ld lq hmem
      unfold Oper.wp
      simp only [execOp, e37]
      exact HK.out
    | 7, _ =>
      obtain ⟨ty, pos, aft, e, hdp⟩ := iop7
      rw [e] at ho
      obtain rfl := Option.some.inj ho
      intro a' hds W K hB lq ld hmem hK
      have e37 : a'.eval (.tmp 37) = .tuple #[.agg #[.int .i64 (N : Int), .slice (some ⟨(hds 4).b, 0, none⟩) T2 (hds 4).c], .int .i64 0] := by rw [eval_tmp]; exact ld 5 37 (List.all_eq_true.1 hdp 5 (by decide)) rfl
      have t37 := (eval_tmp a' 37).symm.trans e37
      have HK := Lib.hid (show K (a'.put (some 44) (.int .i64 0)) W from hK W (Below.refl _ _) trivial)
      clear hK ld lq hmem
      unfold Oper.wp
      simp only [execOp, e37]
      exact HK.out
    | 8, _ =>
      obtain ⟨ty, pos, aft, e, hdp⟩ := iop8
      rw [e] at ho
      obtain rfl := Option.some.inj ho
      intro a' hds W K hB lq ld hmem hK
      have HK := Lib.hid (show ∀ hh W', Below W.heap.size W W' → (memBox 2 26).P hh W' → (∀ b ∈ (memBox 2 26).bl hh, W.heap.size ≤ b ∧ b < W'.heap.size) → K (a'.put (some 7) (.pointer (some ⟨hh.b, 0, none⟩))) W' from fun hh W' h1 h2 h3 => by
        have h4 : K (a'.put (some 7) (region_te2X N gh qh E T T2 HS 8 (updH hds 8 hh))) W' := hK hh W' h1 h2 h3 trivial
        simp only [region_te2X, updH_same] at h4
        exact h4)
      clear hK ld lq hmem
      have hfin := Lib.hid (HK.out ⟨W.heap.size, 0, 0, 0, none⟩ _ ((Below.refl _ _).alloc (Nat.le_refl _) (.cells #[.int .i64 0, .slice none 0 0] 26)) ⟨_, rfl, BoxAt.new W #[.int .i64 0, .slice none 0 0] 26⟩ (bd_one (Nat.le_refl _) (by simp)))
      clear HK
      unfold Oper.wp
      simp only [execOp]
      go_simp
      exact hfin.out
    | 9, _ =>
      obtain ⟨ty, pos, aft, e, hdp⟩ := iop9
      rw [e] at ho
      obtain rfl := Option.some.inj ho
      intro a' hds W K hB lq ld hmem hK
      have e7 : a'.eval (.tmp 7) = .pointer (some ⟨(hds 8).b, 0, none⟩) := by rw [eval_tmp]; exact ld 8 7 (List.all_eq_true.1 hdp 8 (by decide)) rfl
      have t7 := (eval_tmp a' 7).symm.trans e7
      have e43 : a'.eval (.tmp 43) = .agg #[.int .i64 (N : Int), .slice (some ⟨(hds 4).b, 0, none⟩) T2 (hds 4).c] := by rw [eval_tmp]; exact ld 6 43 (List.all_eq_true.1 hdp 6 (by decide)) rfl
      have t43 := (eval_tmp a' 43).symm.trans e43
      obtain ⟨⟨vs, hvs, hbx⟩, _⟩ := hmem 8 (show 8 ∈ uOf region_te2U 9 by decide) (by decide)
      have hvl : vs.toList.length = 2 := by simpa using hvs
      obtain ⟨v0, v1, rfl⟩ : ∃ v0 v1, vs = #[v0, v1] := by
        cases vs with
        | mk l =>
          match l, hvl with
          | [v0, v1], _ => exact ⟨_, _, rfl⟩
      have HK := Lib.hid (show ∀ W', SetAt (hds 8).b W W' → (memBox 2 26).P (hds 8) W' → BoxAt W' (hds 8).b #[.int .i64 (N : Int), .slice (some ⟨(hds 4).b, 0, none⟩) T2 (hds 4).c] 26 → K a' W' from hK)
      clear hK ld lq hmem
      have hfin := Lib.hid (HK.out _ (((SetAt.refl (hds 8).b W).cell 0 (.int .i64 (N : Int))).cell 1 (.slice (some ⟨(hds 4).b, 0, none⟩) T2 (hds 4).c)) ⟨_, rfl, ((hbx).set 0 (.int .i64 (N : Int))).set 1 (.slice (some ⟨(hds 4).b, 0, none⟩) T2 (hds 4).c)⟩ (((hbx).set 0 (.int .i64 (N : Int))).set 1 (.slice (some ⟨(hds 4).b, 0, none⟩) T2 (hds 4).c)))
      have c0 := hbx.cell' 0 rfl
      have f0 := hbx.frozen 0
      have c1 := hbx.cell' 1 rfl
      have f1 := hbx.frozen 1
      have hlt := hbx.lt
      clear hbx hvl hvs HK
      generalize (hds 8).b = B at *
      unfold Oper.wp
      simp only [execOp, e7, e43]
      clear e7 e43
      go_simp
      exact hfin.out
    | 10, _ =>
      obtain ⟨ty, pos, aft, e, hdp⟩ := iop10
      rw [e] at ho
      obtain rfl := Option.some.inj ho
      intro a' hds W K hB lq ld hmem hK
      have e44 : a'.eval (.tmp 44) = .int .i64 0 := by rw [eval_tmp]; exact ld 7 44 (List.all_eq_true.1 hdp 7 (by decide)) rfl
      have t44 := (eval_tmp a' 44).symm.trans e44
      have HK := Lib.hid (show K (a'.put (some 8) (.int .i64 0)) W from hK W (Below.refl _ _) trivial)
      clear hK ld lq hmem
      unfold Oper.wp
      simp only [execOp, e44]
      exact HK.out
    | i + 11, h => omega
  · intro hds v W hO
    have hfin := gend (hds 1).b (hds 1).c (hds 1).b2 (hds 1).c2 (hds 3).b (hds 3).c (hds 3).b2 (hds 3).c2 (hds 4).b (hds 4).c (hds 4).b2 (hds 4).c2 (hds 8).b (hds 8).c (hds 8).b2 (hds 8).c2 (hds 1).p (hds 3).p (hds 4).p (hds 8).p (v 38) (v 39) (v 40) (v 41) (v 42) (v 37) (v 43) (v 44) W hO.b (hO.m 1 (by show 1 < 11; decide) rfl).1 (hO.m 1 (by show 1 < 11; decide) rfl).2 (hO.m 3 (by show 3 < 11; decide) rfl).1 (hO.m 3 (by show 3 < 11; decide) rfl).2 (hO.m 4 (by show 4 < 11; decide) rfl).1 (hO.m 4 (by show 4 < 11; decide) rfl).2 ((hO.m 8 (by show 8 < 11; decide) rfl).2 _ (by show _ ∈ [_]; simp)).1 ((hO.m 8 (by show 8 < 11; decide) rfl).2 _ (by show _ ∈ [_]; simp)).2 (hO.s 9 (by show 9 < 11; decide) rfl)
    rw [← laid_putL _ a v ?_] at hfin
    · exact hfin
    · intro p hp
      simp only [List.mem_cons, List.not_mem_nil, or_false] at hp
      rcases hp with rfl | rfl | rfl | rfl | rfl | rfl | rfl | rfl | rfl | rfl
      · rfl
      · rfl
      · rfl
      · rfl
      · rfl
      · rfl
      · rfl
      · rfl
      · exact hO.x 8 (show 8 < 11 by decide) 7 rfl
      · exact hO.x 10 (show 10 < 11 by decide) 8 rfl
def region_te7U : List (List Nat) := [[], [1], [], [3], [1, 3, 4], [1, 3, 4], [1, 3, 4], [1, 3, 4], [1, 3, 4], [1, 3, 4]]
def region_te7X (N L g2 q2 _D gh qh _E T : Nat) (_DS _HS : List Nat) : Nat → (Nat → Hd) → Value
  | 0, _ => .agg #[.int .i64 (N : Int), .slice (some ⟨gh, 0, none⟩) T qh]
  | 1, hds => .agg #[.int .i64 (N : Int), .slice (some ⟨(hds 1).b, 0, none⟩) T (hds 1).c]
  | 2, _ => .agg #[.int .i64 (N : Int), .slice (some ⟨g2, 0, none⟩) L q2]
  | 3, hds => .agg #[.int .i64 (N : Int), .slice (some ⟨(hds 3).b, 0, none⟩) L (hds 3).c]
  | 4, hds => .tuple #[.slice (some ⟨(hds 4).b, 0, none⟩) L (hds 4).c, .int .i64 0]
  | 5, hds => .tuple #[.slice (some ⟨(hds 4).b, 0, none⟩) L (hds 4).c, .int .i64 0]
  | 6, hds => .slice (some ⟨(hds 4).b, 0, none⟩) L (hds 4).c
  | 7, _ => .int .i64 0
  | 8, hds => .slice (some ⟨(hds 4).b, 0, none⟩) L (hds 4).c
  | 9, _ => .int .i64 0
  | _ + 10, _ => undef
theorem region_te7X.congr (N L g2 q2 D gh qh E T : Nat) (DS HS : List Nat) : ∀ i hds hds', (∀ r ∈ uOf region_te7U i, hds r = hds' r) → region_te7X N L g2 q2 D gh qh E T DS HS i hds = region_te7X N L g2 q2 D gh qh E T DS HS i hds'
  | 0, _, _, _ => rfl
  | 1, hds, hds', h => by simp only [region_te7X, h 1 (show 1 ∈ uOf region_te7U 1 by decide)]
  | 2, _, _, _ => rfl
  | 3, hds, hds', h => by simp only [region_te7X, h 3 (show 3 ∈ uOf region_te7U 3 by decide)]
  | 4, hds, hds', h => by simp only [region_te7X, h 4 (show 4 ∈ uOf region_te7U 4 by decide)]
  | 5, hds, hds', h => by simp only [region_te7X, h 4 (show 4 ∈ uOf region_te7U 5 by decide)]
  | 6, hds, hds', h => by simp only [region_te7X, h 4 (show 4 ∈ uOf region_te7U 6 by decide)]
  | 7, _, _, _ => rfl
  | 8, hds, hds', h => by simp only [region_te7X, h 4 (show 4 ∈ uOf region_te7U 8 by decide)]
  | 9, _, _, _ => rfl
  | _ + 10, _, _, _ => rfl
def region_te7M (_N _L _g2 _q2 _D _gh _qh _E _T : Nat) (DS HS : List Nat) : Nat → Mem
  | 1 => memNats HS
  | 3 => memNats DS
  | 4 => memStrs (clothS HS DS)
  | _ => memNone
def region_te7S (_N _L _g2 _q2 _D _gh _qh _E _T : Nat) (_DS _HS : List Nat) : Nat → Option Sto
  | _ => none
set_option maxRecDepth 8000 in
set_option maxHeartbeats 2000000 in
theorem region_te7 {id : Nat} {ops : Array Oper} {Q : Exit → Act → World → Prop} {a : Act} {w : World} (N L g2 q2 D gh qh E T : Nat) (DS HS : List Nat) (hDl : DS.length = L) (hVd : Valid N DS) (hn2 : NatsAt w g2 0 DS) (hg2 : g2 < w.heap.size) (hTl : HS.length = T) (hT0 : 1 ≤ T) (hT1 : T ≤ 96) (hn6 : NatsAt w gh 0 HS) (hg6 : gh < w.heap.size) (hk : ∀ i, i < T → nthN HS i < N) (hD : BoxAt w D #[.int .i64 (N : Int), .slice (some ⟨g2, 0, none⟩) L q2] 37) (hE : BoxAt w E #[.int .i64 (N : Int), .slice (some ⟨gh, 0, none⟩) T qh] 26)
    (gsize : ops.size = 10)
    (gops : IsOp ops 0 (some 72) (.load 26 (.tmp 5)) none [] ∧ IsOp ops 1 (some 73) (.call { callee := .value (.func 28), args := #[.tmp 72], argTypes := #[26] }) none [0] ∧ IsOp ops 2 (some 74) (.load 37 (.tmp 6)) none [] ∧ IsOp ops 3 (some 75) (.call { callee := .value (.func 37), args := #[.tmp 74], argTypes := #[37] }) none [2] ∧ IsOp ops 4 (some 76) (.call { callee := .value (.func 38), args := #[.tmp 73, .tmp 75], argTypes := #[26, 37] }) none [1, 3] ∧ IsOp ops 5 (some 71) (.move (.tmp 76)) none [4] ∧ IsOp ops 6 (some 77) (.extract (.tmp 71) 0) none [5] ∧ IsOp ops 7 (some 78) (.extract (.tmp 71) 1) none [5] ∧ IsOp ops 8 (some 19) (.assign (.tmp 77)) none [6] ∧ IsOp ops 9 (some 20) (.assign (.tmp 78)) none [7])
    (gbk : backB ops = true) (gds : dstsB ops (dOf [some 72, some 73, some 74, some 75, some 76, some 71, some 77, some 78, some 19, some 20]) = true) (gus : useB ops (uOf region_te7U) (kOf [0, 1, 0, 1, 1, 0, 0, 0, 0, 0]) = true) (ggd : plainB ops = true) (gsz : ∀ e ∈ [72, 73, 74, 75, 76, 71, 77, 78, 19, 20], e < a.tmps.size)
    (gout : a.eval (.tmp 5) = .pointer (some ⟨E, 0, none⟩) ∧ a.eval (.tmp 6) = .pointer (some ⟨D, 0, none⟩))
    (gend : ∀ (g73 q73 G73 Q73 g75 q75 G75 Q75 g76 q76 G76 Q76 : Nat) (P73 P75 P76 : Option Addr) (u72 u73 u74 u75 u76 u71 u77 u78 : Value) (W : World), Below w.heap.size w W → (memNats HS).P ⟨g73, q73, G73, Q73, P73⟩ W → (∀ b ∈ (memNats HS).bl ⟨g73, q73, G73, Q73, P73⟩, w.heap.size ≤ b ∧ b < W.heap.size) → (memNats DS).P ⟨g75, q75, G75, Q75, P75⟩ W → (∀ b ∈ (memNats DS).bl ⟨g75, q75, G75, Q75, P75⟩, w.heap.size ≤ b ∧ b < W.heap.size) → (memStrs (clothS HS DS)).P ⟨g76, q76, G76, Q76, P76⟩ W → (∀ b ∈ (memStrs (clothS HS DS)).bl ⟨g76, q76, G76, Q76, P76⟩, w.heap.size ≤ b ∧ b < W.heap.size) → Q .normal (putL a [(72, u72), (73, u73), (74, u74), (75, u75), (76, u76), (71, u71), (77, u77), (78, u78), (19, .slice (some ⟨g76, 0, none⟩) L q76), (20, .int .i64 0)]) W) :
    (Code.region id ops true).wp Try.prog Q a w := by
  obtain ⟨iop0, iop1, iop2, iop3, iop4, iop5, iop6, iop7, iop8, iop9⟩ := gops
  obtain ⟨o5, o6⟩ := gout
  refine region_all (RSp.of 10 [some 72, some 73, some 74, some 75, some 76, some 71, some 77, some 78, some 19, some 20] (fun _ => true) (region_te7X N L g2 q2 D gh qh E T DS HS) region_te7U [0, 1, 0, 1, 1, 0, 0, 0, 0, 0] (region_te7M N L g2 q2 D gh qh E T DS HS) (region_te7S N L g2 q2 D gh qh E T DS HS)) [(5, .pointer (some ⟨E, 0, none⟩)), (6, .pointer (some ⟨D, 0, none⟩))] [72, 73, 74, 75, 76, 71, 77, 78, 19, 20] (RSp.of_fit gsize.symm gbk gds gus ggd (by decide) ?_) (RSp.of_ok _ (region_te7X.congr N L g2 q2 D gh qh E T DS HS) ?_) gsz ?_ ?_ ?_
  · intro p hp
    have hp2 : p ∈ ([] : List (Nat × Nat)) := hp
    cases hp2
  · intro i s hds
    match i, hds with
    | 0, hds => cases hds
    | 1, hds => cases hds
    | 2, hds => cases hds
    | 3, hds => cases hds
    | 4, hds => cases hds
    | 5, hds => cases hds
    | 6, hds => cases hds
    | 7, hds => cases hds
    | 8, hds => cases hds
    | 9, hds => cases hds
    | _ + 10, hds => cases hds
  · intro q hq
    simp only [List.mem_cons, List.not_mem_nil, or_false] at hq
    rcases hq with rfl | rfl
    · exact ⟨o5, by simp⟩
    · exact ⟨o6, by simp⟩
  · intro i o ho hw
    have hi : i < 10 := by rw [← gsize]; exact (Array.getElem?_eq_some_iff.1 ho).1
    match i, hi with
    | 0, _ =>
      obtain ⟨ty, pos, aft, e, hdp⟩ := iop0
      rw [e] at ho
      obtain rfl := Option.some.inj ho
      intro a' hds W K hB lq ld hmem hK
      have e5 : a'.eval (.tmp 5) = .pointer (some ⟨E, 0, none⟩) := by rw [eval_tmp]; exact lq (5, .pointer (some ⟨E, 0, none⟩)) (by simp)
      have t5 := (eval_tmp a' 5).symm.trans e5
      have HK := Lib.hid (show K (a'.put (some 72) (.agg #[.int .i64 (N : Int), .slice (some ⟨gh, 0, none⟩) T qh])) W from hK W (Below.refl _ _) trivial)
      clear hK ld lq hmem
      have c0 := (hE.next hB).cell' 0 rfl
      have c1 := (hE.next hB).cell' 1 rfl
      unfold Oper.wp
      simp only [execOp, e5]
      go_simp
      exact HK.out
    | 1, _ =>
      obtain ⟨ty, pos, aft, e, hdp⟩ := iop1
      rw [e] at ho
      obtain rfl := Option.some.inj ho
      intro a' hds W K hB lq ld hmem hK
      have e72 : a'.eval (.tmp 72) = .agg #[.int .i64 (N : Int), .slice (some ⟨gh, 0, none⟩) T qh] := by rw [eval_tmp]; exact ld 0 72 (List.all_eq_true.1 hdp 0 (by decide)) rfl
      have t72 := (eval_tmp a' 72).symm.trans e72
      have HK := Lib.hid (show ∀ hh W', Below W.heap.size W W' → (memNats HS).P hh W' → (∀ b ∈ (memNats HS).bl hh, W.heap.size ≤ b ∧ b < W'.heap.size) → K (a'.put (some 73) (.agg #[.int .i64 (N : Int), .slice (some ⟨hh.b, 0, none⟩) T hh.c])) W' from fun hh W' h1 h2 h3 => by
        have h4 : K (a'.put (some 73) (region_te7X N L g2 q2 D gh qh E T DS HS 1 (updH hds 1 hh))) W' := hK hh W' h1 h2 h3 trivial
        simp only [region_te7X, updH_same] at h4
        exact h4)
      clear hK ld lq hmem
      refine step_call (vals := #[.agg #[.int .i64 (N : Int), .slice (some ⟨gh, 0, none⟩) T qh]]) (by exact ⟨_, _, Try.func28, by kernel_rfl, rfl⟩) (by simp only [List.map_toArray, List.map_cons, List.map_nil, e72]) (call28 N T gh qh HS W hTl hT0 hT1 (hn6.below hB hg6) (Nat.lt_of_lt_of_le hg6 hB.size)) ?_
      rintro e w' ⟨g, cap, rfl, hn, hl, hg, hb'⟩
      exact ⟨_, rfl, HK.out ⟨g, cap, 0, 0, none⟩ _ hb' ⟨hn, hg⟩ (bd_one hl hg)⟩
    | 2, _ =>
      obtain ⟨ty, pos, aft, e, hdp⟩ := iop2
      rw [e] at ho
      obtain rfl := Option.some.inj ho
      intro a' hds W K hB lq ld hmem hK
      have e6 : a'.eval (.tmp 6) = .pointer (some ⟨D, 0, none⟩) := by rw [eval_tmp]; exact lq (6, .pointer (some ⟨D, 0, none⟩)) (by simp)
      have t6 := (eval_tmp a' 6).symm.trans e6
      have HK := Lib.hid (show K (a'.put (some 74) (.agg #[.int .i64 (N : Int), .slice (some ⟨g2, 0, none⟩) L q2])) W from hK W (Below.refl _ _) trivial)
      clear hK ld lq hmem
      have c0 := (hD.next hB).cell' 0 rfl
      have c1 := (hD.next hB).cell' 1 rfl
      unfold Oper.wp
      simp only [execOp, e6]
      go_simp
      exact HK.out
    | 3, _ =>
      obtain ⟨ty, pos, aft, e, hdp⟩ := iop3
      rw [e] at ho
      obtain rfl := Option.some.inj ho
      intro a' hds W K hB lq ld hmem hK
      have e74 : a'.eval (.tmp 74) = .agg #[.int .i64 (N : Int), .slice (some ⟨g2, 0, none⟩) L q2] := by rw [eval_tmp]; exact ld 2 74 (List.all_eq_true.1 hdp 2 (by decide)) rfl
      have t74 := (eval_tmp a' 74).symm.trans e74
      have HK := Lib.hid (show ∀ hh W', Below W.heap.size W W' → (memNats DS).P hh W' → (∀ b ∈ (memNats DS).bl hh, W.heap.size ≤ b ∧ b < W'.heap.size) → K (a'.put (some 75) (.agg #[.int .i64 (N : Int), .slice (some ⟨hh.b, 0, none⟩) L hh.c])) W' from fun hh W' h1 h2 h3 => by
        have h4 : K (a'.put (some 75) (region_te7X N L g2 q2 D gh qh E T DS HS 3 (updH hds 3 hh))) W' := hK hh W' h1 h2 h3 trivial
        simp only [region_te7X, updH_same] at h4
        exact h4)
      clear hK ld lq hmem
      refine step_call (vals := #[.agg #[.int .i64 (N : Int), .slice (some ⟨g2, 0, none⟩) L q2]]) (by exact ⟨_, _, Try.func37, by kernel_rfl, rfl⟩) (by simp only [List.map_toArray, List.map_cons, List.map_nil, e74]) (call37 N L g2 q2 DS W hDl hVd (hn2.below hB hg2) (Nat.lt_of_lt_of_le hg2 hB.size)) ?_
      rintro e w' ⟨g, cap, rfl, hn, hl, hg, hb'⟩
      exact ⟨_, rfl, HK.out ⟨g, cap, 0, 0, none⟩ _ hb' ⟨hn, hg⟩ (bd_one hl hg)⟩
    | 4, _ =>
      obtain ⟨ty, pos, aft, e, hdp⟩ := iop4
      rw [e] at ho
      obtain rfl := Option.some.inj ho
      intro a' hds W K hB lq ld hmem hK
      have e73 : a'.eval (.tmp 73) = .agg #[.int .i64 (N : Int), .slice (some ⟨(hds 1).b, 0, none⟩) T (hds 1).c] := by rw [eval_tmp]; exact ld 1 73 (List.all_eq_true.1 hdp 1 (by decide)) rfl
      have t73 := (eval_tmp a' 73).symm.trans e73
      have e75 : a'.eval (.tmp 75) = .agg #[.int .i64 (N : Int), .slice (some ⟨(hds 3).b, 0, none⟩) L (hds 3).c] := by rw [eval_tmp]; exact ld 3 75 (List.all_eq_true.1 hdp 3 (by decide)) rfl
      have t75 := (eval_tmp a' 75).symm.trans e75
      have HK := Lib.hid (show ∀ hh W', Below W.heap.size W W' → (memStrs (clothS HS DS)).P hh W' → (∀ b ∈ (memStrs (clothS HS DS)).bl hh, W.heap.size ≤ b ∧ b < W'.heap.size) → K (a'.put (some 76) (.tuple #[.slice (some ⟨hh.b, 0, none⟩) L hh.c, .int .i64 0])) W' from fun hh W' h1 h2 h3 => by
        have h4 : K (a'.put (some 76) (region_te7X N L g2 q2 D gh qh E T DS HS 4 (updH hds 4 hh))) W' := hK hh W' h1 h2 h3 trivial
        simp only [region_te7X, updH_same] at h4
        exact h4)
      have m73   := (hmem 1 (show 1 ∈ uOf region_te7U 4 by decide) (by decide)).1
      have m75   := (hmem 3 (show 3 ∈ uOf region_te7U 4 by decide) (by decide)).1
      clear hK ld lq hmem
      refine step_call (vals := #[.agg #[.int .i64 (N : Int), .slice (some ⟨(hds 1).b, 0, none⟩) T (hds 1).c], .agg #[.int .i64 (N : Int), .slice (some ⟨(hds 3).b, 0, none⟩) L (hds 3).c]]) (by exact ⟨_, _, Try.func38, by kernel_rfl, rfl⟩) (by simp only [List.map_toArray, List.map_cons, List.map_nil, e73, e75]) (call38 N T L (hds 1).b (hds 1).c (hds 3).b (hds 3).c HS DS W hTl hDl hT0 hT1 hk hVd m73.1 m73.2 m75.1 m75.2) ?_
      rintro e w' ⟨g, cap, rfl, hn, hl, hg, hb'⟩
      exact ⟨_, rfl, HK.out ⟨g, cap, 0, 0, none⟩ _ hb' ⟨hn, hg⟩ (bd_one hl hg)⟩
    | 5, _ =>
      obtain ⟨ty, pos, aft, e, hdp⟩ := iop5
      rw [e] at ho
      obtain rfl := Option.some.inj ho
      intro a' hds W K hB lq ld hmem hK
      have e76 : a'.eval (.tmp 76) = .tuple #[.slice (some ⟨(hds 4).b, 0, none⟩) L (hds 4).c, .int .i64 0] := by rw [eval_tmp]; exact ld 4 76 (List.all_eq_true.1 hdp 4 (by decide)) rfl
      have t76 := (eval_tmp a' 76).symm.trans e76
      have HK := Lib.hid (show K (a'.put (some 71) (.tuple #[.slice (some ⟨(hds 4).b, 0, none⟩) L (hds 4).c, .int .i64 0])) W from hK W (Below.refl _ _) trivial)
      clear hK ld lq hmem
      unfold Oper.wp
      simp only [execOp, e76]
      exact HK.out
    | 6, _ =>
      obtain ⟨ty, pos, aft, e, hdp⟩ := iop6
      rw [e] at ho
      obtain rfl := Option.some.inj ho
      intro a' hds W K hB lq ld hmem hK
      have e71 : a'.eval (.tmp 71) = .tuple #[.slice (some ⟨(hds 4).b, 0, none⟩) L (hds 4).c, .int .i64 0] := by rw [eval_tmp]; exact ld 5 71 (List.all_eq_true.1 hdp 5 (by decide)) rfl
      have t71 := (eval_tmp a' 71).symm.trans e71
      have HK := Lib.hid (show K (a'.put (some 77) (.slice (some ⟨(hds 4).b, 0, none⟩) L (hds 4).c)) W from hK W (Below.refl _ _) trivial)
      clear hK ld lq hmem
      unfold Oper.wp
      simp only [execOp, e71]
      exact HK.out
    | 7, _ =>
      obtain ⟨ty, pos, aft, e, hdp⟩ := iop7
      rw [e] at ho
      obtain rfl := Option.some.inj ho
      intro a' hds W K hB lq ld hmem hK
      have e71 : a'.eval (.tmp 71) = .tuple #[.slice (some ⟨(hds 4).b, 0, none⟩) L (hds 4).c, .int .i64 0] := by rw [eval_tmp]; exact ld 5 71 (List.all_eq_true.1 hdp 5 (by decide)) rfl
      have t71 := (eval_tmp a' 71).symm.trans e71
      have HK := Lib.hid (show K (a'.put (some 78) (.int .i64 0)) W from hK W (Below.refl _ _) trivial)
      clear hK ld lq hmem
      unfold Oper.wp
      simp only [execOp, e71]
      exact HK.out
    | 8, _ =>
      obtain ⟨ty, pos, aft, e, hdp⟩ := iop8
      rw [e] at ho
      obtain rfl := Option.some.inj ho
      intro a' hds W K hB lq ld hmem hK
      have e77 : a'.eval (.tmp 77) = .slice (some ⟨(hds 4).b, 0, none⟩) L (hds 4).c := by rw [eval_tmp]; exact ld 6 77 (List.all_eq_true.1 hdp 6 (by decide)) rfl
      have t77 := (eval_tmp a' 77).symm.trans e77
      have HK := Lib.hid (show K (a'.put (some 19) (.slice (some ⟨(hds 4).b, 0, none⟩) L (hds 4).c)) W from hK W (Below.refl _ _) trivial)
      clear hK ld lq hmem
      unfold Oper.wp
      simp only [execOp, e77]
      exact HK.out
    | 9, _ =>
      obtain ⟨ty, pos, aft, e, hdp⟩ := iop9
      rw [e] at ho
      obtain rfl := Option.some.inj ho
      intro a' hds W K hB lq ld hmem hK
      have e78 : a'.eval (.tmp 78) = .int .i64 0 := by rw [eval_tmp]; exact ld 7 78 (List.all_eq_true.1 hdp 7 (by decide)) rfl
      have t78 := (eval_tmp a' 78).symm.trans e78
      have HK := Lib.hid (show K (a'.put (some 20) (.int .i64 0)) W from hK W (Below.refl _ _) trivial)
      clear hK ld lq hmem
      unfold Oper.wp
      simp only [execOp, e78]
      exact HK.out
    | i + 10, h => omega
  · intro hds v W hO
    have hfin := gend (hds 1).b (hds 1).c (hds 1).b2 (hds 1).c2 (hds 3).b (hds 3).c (hds 3).b2 (hds 3).c2 (hds 4).b (hds 4).c (hds 4).b2 (hds 4).c2 (hds 1).p (hds 3).p (hds 4).p (v 72) (v 73) (v 74) (v 75) (v 76) (v 71) (v 77) (v 78) W hO.b (hO.m 1 (by show 1 < 10; decide) rfl).1 (hO.m 1 (by show 1 < 10; decide) rfl).2 (hO.m 3 (by show 3 < 10; decide) rfl).1 (hO.m 3 (by show 3 < 10; decide) rfl).2 (hO.m 4 (by show 4 < 10; decide) rfl).1 (hO.m 4 (by show 4 < 10; decide) rfl).2
    rw [← laid_putL _ a v ?_] at hfin
    · exact hfin
    · intro p hp
      simp only [List.mem_cons, List.not_mem_nil, or_false] at hp
      rcases hp with rfl | rfl | rfl | rfl | rfl | rfl | rfl | rfl | rfl | rfl
      · rfl
      · rfl
      · rfl
      · rfl
      · rfl
      · rfl
      · rfl
      · rfl
      · exact hO.x 8 (show 8 < 10 by decide) 19 rfl
      · exact hO.x 9 (show 9 < 10 by decide) 20 rfl
def region_te8U : List (List Nat) := [[], [1], [], [3], [1, 3, 4], [1, 3, 4], [1, 3, 4], [1, 3, 4], [1, 3, 4], [1, 3, 4]]
def region_te8X (N L T2 g2 q2 _D gb qb _B7 : Nat) (_DS _H2 : List Nat) : Nat → (Nat → Hd) → Value
  | 0, _ => .agg #[.int .i64 (N : Int), .slice (some ⟨gb, 0, none⟩) T2 qb]
  | 1, hds => .agg #[.int .i64 (N : Int), .slice (some ⟨(hds 1).b, 0, none⟩) T2 (hds 1).c]
  | 2, _ => .agg #[.int .i64 (N : Int), .slice (some ⟨g2, 0, none⟩) L q2]
  | 3, hds => .agg #[.int .i64 (N : Int), .slice (some ⟨(hds 3).b, 0, none⟩) L (hds 3).c]
  | 4, hds => .tuple #[.slice (some ⟨(hds 4).b, 0, none⟩) L (hds 4).c, .int .i64 0]
  | 5, hds => .tuple #[.slice (some ⟨(hds 4).b, 0, none⟩) L (hds 4).c, .int .i64 0]
  | 6, hds => .slice (some ⟨(hds 4).b, 0, none⟩) L (hds 4).c
  | 7, _ => .int .i64 0
  | 8, hds => .slice (some ⟨(hds 4).b, 0, none⟩) L (hds 4).c
  | 9, _ => .int .i64 0
  | _ + 10, _ => undef
theorem region_te8X.congr (N L T2 g2 q2 D gb qb B7 : Nat) (DS H2 : List Nat) : ∀ i hds hds', (∀ r ∈ uOf region_te8U i, hds r = hds' r) → region_te8X N L T2 g2 q2 D gb qb B7 DS H2 i hds = region_te8X N L T2 g2 q2 D gb qb B7 DS H2 i hds'
  | 0, _, _, _ => rfl
  | 1, hds, hds', h => by simp only [region_te8X, h 1 (show 1 ∈ uOf region_te8U 1 by decide)]
  | 2, _, _, _ => rfl
  | 3, hds, hds', h => by simp only [region_te8X, h 3 (show 3 ∈ uOf region_te8U 3 by decide)]
  | 4, hds, hds', h => by simp only [region_te8X, h 4 (show 4 ∈ uOf region_te8U 4 by decide)]
  | 5, hds, hds', h => by simp only [region_te8X, h 4 (show 4 ∈ uOf region_te8U 5 by decide)]
  | 6, hds, hds', h => by simp only [region_te8X, h 4 (show 4 ∈ uOf region_te8U 6 by decide)]
  | 7, _, _, _ => rfl
  | 8, hds, hds', h => by simp only [region_te8X, h 4 (show 4 ∈ uOf region_te8U 8 by decide)]
  | 9, _, _, _ => rfl
  | _ + 10, _, _, _ => rfl
def region_te8M (_N _L _T2 _g2 _q2 _D _gb _qb _B7 : Nat) (DS H2 : List Nat) : Nat → Mem
  | 1 => memNats H2
  | 3 => memNats DS
  | 4 => memStrs (clothS H2 DS)
  | _ => memNone
def region_te8S (_N _L _T2 _g2 _q2 _D _gb _qb _B7 : Nat) (_DS _H2 : List Nat) : Nat → Option Sto
  | _ => none
set_option maxRecDepth 8000 in
set_option maxHeartbeats 2000000 in
theorem region_te8 {id : Nat} {ops : Array Oper} {Q : Exit → Act → World → Prop} {a : Act} {w : World} (N L T2 g2 q2 D gb qb B7 : Nat) (DS H2 : List Nat) (hDl : DS.length = L) (hVd : Valid N DS) (hn2 : NatsAt w g2 0 DS) (hg2 : g2 < w.heap.size) (hT2l : H2.length = T2) (hT20 : 1 ≤ T2) (hT96 : T2 ≤ 96) (hnb : NatsAt w gb 0 H2) (hgb : gb < w.heap.size) (hk2 : ∀ i, i < T2 → nthN H2 i < N)  (hD : BoxAt w D #[.int .i64 (N : Int), .slice (some ⟨g2, 0, none⟩) L q2] 37) (hB7 : BoxAt w B7 #[.int .i64 (N : Int), .slice (some ⟨gb, 0, none⟩) T2 qb] 26)
    (gsize : ops.size = 10)
    (gops : IsOp ops 0 (some 80) (.load 26 (.tmp 7)) none [] ∧ IsOp ops 1 (some 81) (.call { callee := .value (.func 28), args := #[.tmp 80], argTypes := #[26] }) none [0] ∧ IsOp ops 2 (some 82) (.load 37 (.tmp 6)) none [] ∧ IsOp ops 3 (some 83) (.call { callee := .value (.func 37), args := #[.tmp 82], argTypes := #[37] }) none [2] ∧ IsOp ops 4 (some 84) (.call { callee := .value (.func 38), args := #[.tmp 81, .tmp 83], argTypes := #[26, 37] }) none [1, 3] ∧ IsOp ops 5 (some 79) (.move (.tmp 84)) none [4] ∧ IsOp ops 6 (some 85) (.extract (.tmp 79) 0) none [5] ∧ IsOp ops 7 (some 86) (.extract (.tmp 79) 1) none [5] ∧ IsOp ops 8 (some 21) (.assign (.tmp 85)) none [6] ∧ IsOp ops 9 (some 22) (.assign (.tmp 86)) none [7])
    (gbk : backB ops = true) (gds : dstsB ops (dOf [some 80, some 81, some 82, some 83, some 84, some 79, some 85, some 86, some 21, some 22]) = true) (gus : useB ops (uOf region_te8U) (kOf [0, 1, 0, 1, 1, 0, 0, 0, 0, 0]) = true) (ggd : plainB ops = true) (gsz : ∀ e ∈ [80, 81, 82, 83, 84, 79, 85, 86, 21, 22], e < a.tmps.size)
    (gout : a.eval (.tmp 7) = .pointer (some ⟨B7, 0, none⟩) ∧ a.eval (.tmp 6) = .pointer (some ⟨D, 0, none⟩))
    (gend : ∀ (g81 q81 G81 Q81 g83 q83 G83 Q83 g84 q84 G84 Q84 : Nat) (P81 P83 P84 : Option Addr) (u80 u81 u82 u83 u84 u79 u85 u86 : Value) (W : World), Below w.heap.size w W → (memNats H2).P ⟨g81, q81, G81, Q81, P81⟩ W → (∀ b ∈ (memNats H2).bl ⟨g81, q81, G81, Q81, P81⟩, w.heap.size ≤ b ∧ b < W.heap.size) → (memNats DS).P ⟨g83, q83, G83, Q83, P83⟩ W → (∀ b ∈ (memNats DS).bl ⟨g83, q83, G83, Q83, P83⟩, w.heap.size ≤ b ∧ b < W.heap.size) → (memStrs (clothS H2 DS)).P ⟨g84, q84, G84, Q84, P84⟩ W → (∀ b ∈ (memStrs (clothS H2 DS)).bl ⟨g84, q84, G84, Q84, P84⟩, w.heap.size ≤ b ∧ b < W.heap.size) → Q .normal (putL a [(80, u80), (81, u81), (82, u82), (83, u83), (84, u84), (79, u79), (85, u85), (86, u86), (21, .slice (some ⟨g84, 0, none⟩) L q84), (22, .int .i64 0)]) W) :
    (Code.region id ops true).wp Try.prog Q a w := by
  obtain ⟨iop0, iop1, iop2, iop3, iop4, iop5, iop6, iop7, iop8, iop9⟩ := gops
  obtain ⟨o7, o6⟩ := gout
  refine region_all (RSp.of 10 [some 80, some 81, some 82, some 83, some 84, some 79, some 85, some 86, some 21, some 22] (fun _ => true) (region_te8X N L T2 g2 q2 D gb qb B7 DS H2) region_te8U [0, 1, 0, 1, 1, 0, 0, 0, 0, 0] (region_te8M N L T2 g2 q2 D gb qb B7 DS H2) (region_te8S N L T2 g2 q2 D gb qb B7 DS H2)) [(7, .pointer (some ⟨B7, 0, none⟩)), (6, .pointer (some ⟨D, 0, none⟩))] [80, 81, 82, 83, 84, 79, 85, 86, 21, 22] (RSp.of_fit gsize.symm gbk gds gus ggd (by decide) ?_) (RSp.of_ok _ (region_te8X.congr N L T2 g2 q2 D gb qb B7 DS H2) ?_) gsz ?_ ?_ ?_
  · intro p hp
    have hp2 : p ∈ ([] : List (Nat × Nat)) := hp
    cases hp2
  · intro i s hds
    match i, hds with
    | 0, hds => cases hds
    | 1, hds => cases hds
    | 2, hds => cases hds
    | 3, hds => cases hds
    | 4, hds => cases hds
    | 5, hds => cases hds
    | 6, hds => cases hds
    | 7, hds => cases hds
    | 8, hds => cases hds
    | 9, hds => cases hds
    | _ + 10, hds => cases hds
  · intro q hq
    simp only [List.mem_cons, List.not_mem_nil, or_false] at hq
    rcases hq with rfl | rfl
    · exact ⟨o7, by simp⟩
    · exact ⟨o6, by simp⟩
  · intro i o ho hw
    have hi : i < 10 := by rw [← gsize]; exact (Array.getElem?_eq_some_iff.1 ho).1
    match i, hi with
    | 0, _ =>
      obtain ⟨ty, pos, aft, e, hdp⟩ := iop0
      rw [e] at ho
      obtain rfl := Option.some.inj ho
      intro a' hds W K hB lq ld hmem hK
      have e7 : a'.eval (.tmp 7) = .pointer (some ⟨B7, 0, none⟩) := by rw [eval_tmp]; exact lq (7, .pointer (some ⟨B7, 0, none⟩)) (by simp)
      have t7 := (eval_tmp a' 7).symm.trans e7
      have HK := Lib.hid (show K (a'.put (some 80) (.agg #[.int .i64 (N : Int), .slice (some ⟨gb, 0, none⟩) T2 qb])) W from hK W (Below.refl _ _) trivial)
      clear hK ld lq hmem
      have c0 := (hB7.next hB).cell' 0 rfl
      have c1 := (hB7.next hB).cell' 1 rfl
      unfold Oper.wp
      simp only [execOp, e7]
      go_simp
      exact HK.out
    | 1, _ =>
      obtain ⟨ty, pos, aft, e, hdp⟩ := iop1
      rw [e] at ho
      obtain rfl := Option.some.inj ho
      intro a' hds W K hB lq ld hmem hK
      have e80 : a'.eval (.tmp 80) = .agg #[.int .i64 (N : Int), .slice (some ⟨gb, 0, none⟩) T2 qb] := by rw [eval_tmp]; exact ld 0 80 (List.all_eq_true.1 hdp 0 (by decide)) rfl
      have t80 := (eval_tmp a' 80).symm.trans e80
      have HK := Lib.hid (show ∀ hh W', Below W.heap.size W W' → (memNats H2).P hh W' → (∀ b ∈ (memNats H2).bl hh, W.heap.size ≤ b ∧ b < W'.heap.size) → K (a'.put (some 81) (.agg #[.int .i64 (N : Int), .slice (some ⟨hh.b, 0, none⟩) T2 hh.c])) W' from fun hh W' h1 h2 h3 => by
        have h4 : K (a'.put (some 81) (region_te8X N L T2 g2 q2 D gb qb B7 DS H2 1 (updH hds 1 hh))) W' := hK hh W' h1 h2 h3 trivial
        simp only [region_te8X, updH_same] at h4
        exact h4)
      clear hK ld lq hmem
      refine step_call (vals := #[.agg #[.int .i64 (N : Int), .slice (some ⟨gb, 0, none⟩) T2 qb]]) (by exact ⟨_, _, Try.func28, by kernel_rfl, rfl⟩) (by simp only [List.map_toArray, List.map_cons, List.map_nil, e80]) (call28 N T2 gb qb H2 W hT2l hT20 hT96 (hnb.below hB hgb) (Nat.lt_of_lt_of_le hgb hB.size)) ?_
      rintro e w' ⟨g, cap, rfl, hn, hl, hg, hb'⟩
      exact ⟨_, rfl, HK.out ⟨g, cap, 0, 0, none⟩ _ hb' ⟨hn, hg⟩ (bd_one hl hg)⟩
    | 2, _ =>
      obtain ⟨ty, pos, aft, e, hdp⟩ := iop2
      rw [e] at ho
      obtain rfl := Option.some.inj ho
      intro a' hds W K hB lq ld hmem hK
      have e6 : a'.eval (.tmp 6) = .pointer (some ⟨D, 0, none⟩) := by rw [eval_tmp]; exact lq (6, .pointer (some ⟨D, 0, none⟩)) (by simp)
      have t6 := (eval_tmp a' 6).symm.trans e6
      have HK := Lib.hid (show K (a'.put (some 82) (.agg #[.int .i64 (N : Int), .slice (some ⟨g2, 0, none⟩) L q2])) W from hK W (Below.refl _ _) trivial)
      clear hK ld lq hmem
      have c0 := (hD.next hB).cell' 0 rfl
      have c1 := (hD.next hB).cell' 1 rfl
      unfold Oper.wp
      simp only [execOp, e6]
      go_simp
      exact HK.out
    | 3, _ =>
      obtain ⟨ty, pos, aft, e, hdp⟩ := iop3
      rw [e] at ho
      obtain rfl := Option.some.inj ho
      intro a' hds W K hB lq ld hmem hK
      have e82 : a'.eval (.tmp 82) = .agg #[.int .i64 (N : Int), .slice (some ⟨g2, 0, none⟩) L q2] := by rw [eval_tmp]; exact ld 2 82 (List.all_eq_true.1 hdp 2 (by decide)) rfl
      have t82 := (eval_tmp a' 82).symm.trans e82
      have HK := Lib.hid (show ∀ hh W', Below W.heap.size W W' → (memNats DS).P hh W' → (∀ b ∈ (memNats DS).bl hh, W.heap.size ≤ b ∧ b < W'.heap.size) → K (a'.put (some 83) (.agg #[.int .i64 (N : Int), .slice (some ⟨hh.b, 0, none⟩) L hh.c])) W' from fun hh W' h1 h2 h3 => by
        have h4 : K (a'.put (some 83) (region_te8X N L T2 g2 q2 D gb qb B7 DS H2 3 (updH hds 3 hh))) W' := hK hh W' h1 h2 h3 trivial
        simp only [region_te8X, updH_same] at h4
        exact h4)
      clear hK ld lq hmem
      refine step_call (vals := #[.agg #[.int .i64 (N : Int), .slice (some ⟨g2, 0, none⟩) L q2]]) (by exact ⟨_, _, Try.func37, by kernel_rfl, rfl⟩) (by simp only [List.map_toArray, List.map_cons, List.map_nil, e82]) (call37 N L g2 q2 DS W hDl hVd (hn2.below hB hg2) (Nat.lt_of_lt_of_le hg2 hB.size)) ?_
      rintro e w' ⟨g, cap, rfl, hn, hl, hg, hb'⟩
      exact ⟨_, rfl, HK.out ⟨g, cap, 0, 0, none⟩ _ hb' ⟨hn, hg⟩ (bd_one hl hg)⟩
    | 4, _ =>
      obtain ⟨ty, pos, aft, e, hdp⟩ := iop4
      rw [e] at ho
      obtain rfl := Option.some.inj ho
      intro a' hds W K hB lq ld hmem hK
      have e81 : a'.eval (.tmp 81) = .agg #[.int .i64 (N : Int), .slice (some ⟨(hds 1).b, 0, none⟩) T2 (hds 1).c] := by rw [eval_tmp]; exact ld 1 81 (List.all_eq_true.1 hdp 1 (by decide)) rfl
      have t81 := (eval_tmp a' 81).symm.trans e81
      have e83 : a'.eval (.tmp 83) = .agg #[.int .i64 (N : Int), .slice (some ⟨(hds 3).b, 0, none⟩) L (hds 3).c] := by rw [eval_tmp]; exact ld 3 83 (List.all_eq_true.1 hdp 3 (by decide)) rfl
      have t83 := (eval_tmp a' 83).symm.trans e83
      have HK := Lib.hid (show ∀ hh W', Below W.heap.size W W' → (memStrs (clothS H2 DS)).P hh W' → (∀ b ∈ (memStrs (clothS H2 DS)).bl hh, W.heap.size ≤ b ∧ b < W'.heap.size) → K (a'.put (some 84) (.tuple #[.slice (some ⟨hh.b, 0, none⟩) L hh.c, .int .i64 0])) W' from fun hh W' h1 h2 h3 => by
        have h4 : K (a'.put (some 84) (region_te8X N L T2 g2 q2 D gb qb B7 DS H2 4 (updH hds 4 hh))) W' := hK hh W' h1 h2 h3 trivial
        simp only [region_te8X, updH_same] at h4
        exact h4)
      have m81   := (hmem 1 (show 1 ∈ uOf region_te8U 4 by decide) (by decide)).1
      have m83   := (hmem 3 (show 3 ∈ uOf region_te8U 4 by decide) (by decide)).1
      clear hK ld lq hmem
      refine step_call (vals := #[.agg #[.int .i64 (N : Int), .slice (some ⟨(hds 1).b, 0, none⟩) T2 (hds 1).c], .agg #[.int .i64 (N : Int), .slice (some ⟨(hds 3).b, 0, none⟩) L (hds 3).c]]) (by exact ⟨_, _, Try.func38, by kernel_rfl, rfl⟩) (by simp only [List.map_toArray, List.map_cons, List.map_nil, e81, e83]) (call38 N T2 L (hds 1).b (hds 1).c (hds 3).b (hds 3).c H2 DS W hT2l hDl hT20 hT96 hk2 hVd m81.1 m81.2 m83.1 m83.2) ?_
      rintro e w' ⟨g, cap, rfl, hn, hl, hg, hb'⟩
      exact ⟨_, rfl, HK.out ⟨g, cap, 0, 0, none⟩ _ hb' ⟨hn, hg⟩ (bd_one hl hg)⟩
    | 5, _ =>
      obtain ⟨ty, pos, aft, e, hdp⟩ := iop5
      rw [e] at ho
      obtain rfl := Option.some.inj ho
      intro a' hds W K hB lq ld hmem hK
      have e84 : a'.eval (.tmp 84) = .tuple #[.slice (some ⟨(hds 4).b, 0, none⟩) L (hds 4).c, .int .i64 0] := by rw [eval_tmp]; exact ld 4 84 (List.all_eq_true.1 hdp 4 (by decide)) rfl
      have t84 := (eval_tmp a' 84).symm.trans e84
      have HK := Lib.hid (show K (a'.put (some 79) (.tuple #[.slice (some ⟨(hds 4).b, 0, none⟩) L (hds 4).c, .int .i64 0])) W from hK W (Below.refl _ _) trivial)
      clear hK ld lq hmem
      unfold Oper.wp
      simp only [execOp, e84]
      exact HK.out
    | 6, _ =>
      obtain ⟨ty, pos, aft, e, hdp⟩ := iop6
      rw [e] at ho
      obtain rfl := Option.some.inj ho
      intro a' hds W K hB lq ld hmem hK
      have e79 : a'.eval (.tmp 79) = .tuple #[.slice (some ⟨(hds 4).b, 0, none⟩) L (hds 4).c, .int .i64 0] := by rw [eval_tmp]; exact ld 5 79 (List.all_eq_true.1 hdp 5 (by decide)) rfl
      have t79 := (eval_tmp a' 79).symm.trans e79
      have HK := Lib.hid (show K (a'.put (some 85) (.slice (some ⟨(hds 4).b, 0, none⟩) L (hds 4).c)) W from hK W (Below.refl _ _) trivial)
      clear hK ld lq hmem
      unfold Oper.wp
      simp only [execOp, e79]
      exact HK.out
    | 7, _ =>
      obtain ⟨ty, pos, aft, e, hdp⟩ := iop7
      rw [e] at ho
      obtain rfl := Option.some.inj ho
      intro a' hds W K hB lq ld hmem hK
      have e79 : a'.eval (.tmp 79) = .tuple #[.slice (some ⟨(hds 4).b, 0, none⟩) L (hds 4).c, .int .i64 0] := by rw [eval_tmp]; exact ld 5 79 (List.all_eq_true.1 hdp 5 (by decide)) rfl
      have t79 := (eval_tmp a' 79).symm.trans e79
      have HK := Lib.hid (show K (a'.put (some 86) (.int .i64 0)) W from hK W (Below.refl _ _) trivial)
      clear hK ld lq hmem
      unfold Oper.wp
      simp only [execOp, e79]
      exact HK.out
    | 8, _ =>
      obtain ⟨ty, pos, aft, e, hdp⟩ := iop8
      rw [e] at ho
      obtain rfl := Option.some.inj ho
      intro a' hds W K hB lq ld hmem hK
      have e85 : a'.eval (.tmp 85) = .slice (some ⟨(hds 4).b, 0, none⟩) L (hds 4).c := by rw [eval_tmp]; exact ld 6 85 (List.all_eq_true.1 hdp 6 (by decide)) rfl
      have t85 := (eval_tmp a' 85).symm.trans e85
      have HK := Lib.hid (show K (a'.put (some 21) (.slice (some ⟨(hds 4).b, 0, none⟩) L (hds 4).c)) W from hK W (Below.refl _ _) trivial)
      clear hK ld lq hmem
      unfold Oper.wp
      simp only [execOp, e85]
      exact HK.out
    | 9, _ =>
      obtain ⟨ty, pos, aft, e, hdp⟩ := iop9
      rw [e] at ho
      obtain rfl := Option.some.inj ho
      intro a' hds W K hB lq ld hmem hK
      have e86 : a'.eval (.tmp 86) = .int .i64 0 := by rw [eval_tmp]; exact ld 7 86 (List.all_eq_true.1 hdp 7 (by decide)) rfl
      have t86 := (eval_tmp a' 86).symm.trans e86
      have HK := Lib.hid (show K (a'.put (some 22) (.int .i64 0)) W from hK W (Below.refl _ _) trivial)
      clear hK ld lq hmem
      unfold Oper.wp
      simp only [execOp, e86]
      exact HK.out
    | i + 10, h => omega
  · intro hds v W hO
    have hfin := gend (hds 1).b (hds 1).c (hds 1).b2 (hds 1).c2 (hds 3).b (hds 3).c (hds 3).b2 (hds 3).c2 (hds 4).b (hds 4).c (hds 4).b2 (hds 4).c2 (hds 1).p (hds 3).p (hds 4).p (v 80) (v 81) (v 82) (v 83) (v 84) (v 79) (v 85) (v 86) W hO.b (hO.m 1 (by show 1 < 10; decide) rfl).1 (hO.m 1 (by show 1 < 10; decide) rfl).2 (hO.m 3 (by show 3 < 10; decide) rfl).1 (hO.m 3 (by show 3 < 10; decide) rfl).2 (hO.m 4 (by show 4 < 10; decide) rfl).1 (hO.m 4 (by show 4 < 10; decide) rfl).2
    rw [← laid_putL _ a v ?_] at hfin
    · exact hfin
    · intro p hp
      simp only [List.mem_cons, List.not_mem_nil, or_false] at hp
      rcases hp with rfl | rfl | rfl | rfl | rfl | rfl | rfl | rfl | rfl | rfl
      · rfl
      · rfl
      · rfl
      · rfl
      · rfl
      · rfl
      · rfl
      · rfl
      · exact hO.x 8 (show 8 < 10 by decide) 21 rfl
      · exact hO.x 9 (show 9 < 10 by decide) 22 rfl
def region_te27U : List (List Nat) := [[], [], [], [], [], [], [], [], [], [], [], [], [], [], [], [], [], [], [], [], [20], [20, 21], [20, 21], [20, 21], [20, 21], [20, 21], [26], [20, 21, 26], [20, 21], [20, 21]]
def region_te27X (N _M _T _gh _qh E P A0 A1 A2 pa pb p3 pt Ty _L : Nat) (_up : Bool) : Nat → (Nat → Hd) → Value
  | 0, _ => .pointer (some ⟨E, 0, none⟩)
  | 1, _ => .int .i64 (N : Int)
  | 2, _ => .pointer (some ⟨P, 0, none⟩)
  | 3, _ => .int .u8 (A0 : Int)
  | 4, _ => .int .i64 (A0 : Int)
  | 5, _ => .pointer (some ⟨E, 0, none⟩)
  | 6, _ => .int .i64 (N : Int)
  | 7, _ => .int .i64 (pa : Int)
  | 8, _ => .pointer (some ⟨P, 1, none⟩)
  | 9, _ => .int .u8 (A1 : Int)
  | 10, _ => .int .i64 (A1 : Int)
  | 11, _ => .pointer (some ⟨E, 0, none⟩)
  | 12, _ => .int .i64 (N : Int)
  | 13, _ => .int .i64 (pb : Int)
  | 14, _ => .pointer (some ⟨P, 2, none⟩)
  | 15, _ => .int .u8 (A2 : Int)
  | 16, _ => .int .i64 (A2 : Int)
  | 17, _ => .int .i64 (p3 : Int)
  | 18, _ => .int .i64 (pt : Int)
  | 19, _ => .agg #[.int .i64 (pa : Int), .int .i64 (pb : Int), .int .i64 2, .int .i64 (pt : Int)]
  | 20, hds => .slice (some ⟨(hds 20).b, 0, none⟩) 1 1
  | 21, hds => .tuple #[.agg #[.int .i64 (N : Int), .slice (some ⟨(hds 21).b, 0, none⟩) Ty (hds 21).c], .int .i64 0, .int .i64 0]
  | 22, hds => .tuple #[.agg #[.int .i64 (N : Int), .slice (some ⟨(hds 21).b, 0, none⟩) Ty (hds 21).c], .int .i64 0, .int .i64 0]
  | 23, hds => .agg #[.int .i64 (N : Int), .slice (some ⟨(hds 21).b, 0, none⟩) Ty (hds 21).c]
  | 24, _ => .int .i64 0
  | 25, _ => .int .i64 0
  | 26, hds => .pointer (some ⟨(hds 26).b, 0, none⟩)
  | 27, _ => undef
  | 28, _ => .int .i64 0
  | 29, _ => .int .i64 0
  | _ + 30, _ => undef
theorem region_te27X.congr (N M T gh qh E P A0 A1 A2 pa pb p3 pt Ty L : Nat) (up : Bool) : ∀ i hds hds', (∀ r ∈ uOf region_te27U i, hds r = hds' r) → region_te27X N M T gh qh E P A0 A1 A2 pa pb p3 pt Ty L up i hds = region_te27X N M T gh qh E P A0 A1 A2 pa pb p3 pt Ty L up i hds'
  | 0, _, _, _ => rfl
  | 1, _, _, _ => rfl
  | 2, _, _, _ => rfl
  | 3, _, _, _ => rfl
  | 4, _, _, _ => rfl
  | 5, _, _, _ => rfl
  | 6, _, _, _ => rfl
  | 7, _, _, _ => rfl
  | 8, _, _, _ => rfl
  | 9, _, _, _ => rfl
  | 10, _, _, _ => rfl
  | 11, _, _, _ => rfl
  | 12, _, _, _ => rfl
  | 13, _, _, _ => rfl
  | 14, _, _, _ => rfl
  | 15, _, _, _ => rfl
  | 16, _, _, _ => rfl
  | 17, _, _, _ => rfl
  | 18, _, _, _ => rfl
  | 19, _, _, _ => rfl
  | 20, hds, hds', h => by simp only [region_te27X, h 20 (show 20 ∈ uOf region_te27U 20 by decide)]
  | 21, hds, hds', h => by simp only [region_te27X, h 21 (show 21 ∈ uOf region_te27U 21 by decide)]
  | 22, hds, hds', h => by simp only [region_te27X, h 21 (show 21 ∈ uOf region_te27U 22 by decide)]
  | 23, hds, hds', h => by simp only [region_te27X, h 21 (show 21 ∈ uOf region_te27U 23 by decide)]
  | 24, _, _, _ => rfl
  | 25, _, _, _ => rfl
  | 26, hds, hds', h => by simp only [region_te27X, h 26 (show 26 ∈ uOf region_te27U 26 by decide)]
  | 27, _, _, _ => rfl
  | 28, _, _, _ => rfl
  | 29, _, _, _ => rfl
  | _ + 30, _, _, _ => rfl
def region_te27M (_N _M _T _gh _qh _E _P _A0 _A1 _A2 pa pb _p3 pt _Ty L : Nat) (up : Bool) : Nat → Mem
  | 20 => memBx #[.int .i64 (pa : Int), .int .i64 (pb : Int), .int .i64 2, .int .i64 (pt : Int)] 32
  | 21 => memNats (ptL up pa L pt)
  | 26 => memBox 2 26
  | _ => memNone
def region_te27S (N _M _T _gh _qh _E _P _A0 _A1 _A2 _pa _pb _p3 _pt Ty _L : Nat) (_up : Bool) : Nat → Option Sto
  | 27 => some ⟨26, 26, fun hds => #[.int .i64 (N : Int), .slice (some ⟨(hds 21).b, 0, none⟩) Ty (hds 21).c]⟩
  | _ => none
set_option maxRecDepth 8000 in
set_option maxHeartbeats 2000000 in
theorem region_te27 {id : Nat} {ops : Array Oper} {Q : Exit → Act → World → Prop} {a : Act} {w : World} (N M T gh qh E P A0 A1 A2 pa pb p3 pt Ty L : Nat) (up : Bool) (hA0 : A0 < 256) (hA1 : A1 < 256) (hA2 : A2 < 256) (hNa : N ≤ M + 1) (hNb : M + 1 ≤ N) (hM24 : M < 24) (hpa : A0 % N = pa) (hpb : A1 % N = pb) (hp3 : A2 % 3 = p3) (hp3l : p3 < 3) (hpt1 : 1 + p3 ≤ pt) (hpt2 : pt ≤ 1 + p3) (hpaM : pa ≤ M) (hpbM : pb ≤ M) (hup : up = true → pa + L = pb) (hdn : up = false → pb + L = pa ∧ 1 ≤ L) (hT : onceT L 2 * pt = Ty) (hT96 : Ty ≤ 96) (hE : BoxAt w E #[.int .i64 (N : Int), .slice (some ⟨gh, 0, none⟩) T qh] 26) (hP : BoxAt w P #[.int .u8 (A0 : Int), .int .u8 (A1 : Int), .int .u8 (A2 : Int)] 104)
    (gsize : ops.size = 30)
    (gops : IsOp ops 0 (some 255) (.fieldAddr 26 (.tmp 5) 0) none [] ∧ IsOp ops 1 (some 256) (.load 3 (.tmp 255)) none [0] ∧ IsOp ops 2 (some 257) (.indexAddr 104 (.tmp 3) (.const (.int .i64 0))) none [] ∧ IsOp ops 3 (some 258) (.load 5 (.tmp 257)) none [2] ∧ IsOp ops 4 (some 259) (.convert 5 3 (.tmp 258)) none [3] ∧ IsOp ops 5 (some 260) (.fieldAddr 26 (.tmp 5) 0) none [] ∧ IsOp ops 6 (some 261) (.load 3 (.tmp 260)) none [5] ∧ IsOp ops 7 (some 262) (.binOp .rem 3 (.tmp 259) (.tmp 261) 3) none [4, 6] ∧ IsOp ops 8 (some 263) (.indexAddr 104 (.tmp 3) (.const (.int .i64 1))) none [] ∧ IsOp ops 9 (some 264) (.load 5 (.tmp 263)) none [8] ∧ IsOp ops 10 (some 265) (.convert 5 3 (.tmp 264)) none [9] ∧ IsOp ops 11 (some 266) (.fieldAddr 26 (.tmp 5) 0) none [] ∧ IsOp ops 12 (some 267) (.load 3 (.tmp 266)) none [11] ∧ IsOp ops 13 (some 268) (.binOp .rem 3 (.tmp 265) (.tmp 267) 3) none [10, 12] ∧ IsOp ops 14 (some 269) (.indexAddr 104 (.tmp 3) (.const (.int .i64 2))) none [] ∧ IsOp ops 15 (some 270) (.load 5 (.tmp 269)) none [14] ∧ IsOp ops 16 (some 271) (.convert 5 3 (.tmp 270)) none [15] ∧ IsOp ops 17 (some 272) (.binOp .rem 3 (.tmp 271) (.const (.int .i64 3)) 3) none [16] ∧ IsOp ops 18 (some 273) (.binOp .add 3 (.const (.int .i64 1)) (.tmp 272) 3) none [17] ∧ IsOp ops 19 (some 274) (.call { callee := .value (.func 72), args := #[.tmp 262, .tmp 268, .const (.int .i64 2), .tmp 273], argTypes := #[3, 3, 30, 3] }) none [7, 13, 18] ∧ IsOp ops 20 (some 275) (.buildSlice 22 1 #[(0, .tmp 274)]) none [19] ∧ IsOp ops 21 (some 276) (.call { callee := .value (.func 24), args := #[.tmp 256, .tmp 275], argTypes := #[3, 22] }) none [1, 20] ∧ IsOp ops 22 (some 254) (.move (.tmp 276)) none [21] ∧ IsOp ops 23 (some 277) (.extract (.tmp 254) 0) none [22] ∧ IsOp ops 24 (some 278) (.extract (.tmp 254) 1) none [22] ∧ IsOp ops 25 (some 279) (.extract (.tmp 254) 2) none [22] ∧ IsOp ops 26 (some 28) (.alloc 26) none [] ∧ IsOp ops 27 none (.store 26 (.tmp 28) (.tmp 277)) none [23, 26] ∧ IsOp ops 28 (some 29) (.assign (.tmp 278)) none [24] ∧ IsOp ops 29 (some 30) (.assign (.tmp 279)) none [25])
    (gbk : backB ops = true) (gds : dstsB ops (dOf [some 255, some 256, some 257, some 258, some 259, some 260, some 261, some 262, some 263, some 264, some 265, some 266, some 267, some 268, some 269, some 270, some 271, some 272, some 273, some 274, some 275, some 276, some 254, some 277, some 278, some 279, some 28, none, some 29, some 30]) = true) (gus : useB ops (uOf region_te27U) (kOf [0, 0, 0, 0, 0, 0, 0, 0, 0, 0, 0, 0, 0, 0, 0, 0, 0, 0, 0, 0, 1, 1, 0, 0, 0, 0, 1, 28, 0, 0]) = true) (ggd : plainB ops = true) (gsz : ∀ e ∈ [255, 256, 257, 258, 259, 260, 261, 262, 263, 264, 265, 266, 267, 268, 269, 270, 271, 272, 273, 274, 275, 276, 254, 277, 278, 279, 28, 29, 30], e < a.tmps.size)
    (gout : a.eval (.tmp 5) = .pointer (some ⟨E, 0, none⟩) ∧ a.eval (.tmp 3) = .pointer (some ⟨P, 0, none⟩))
    (gend : ∀ (g275 q275 G275 Q275 g276 q276 G276 Q276 g28 q28 G28 Q28 : Nat) (P275 P276 P28 : Option Addr) (u255 u256 u257 u258 u259 u260 u261 u262 u263 u264 u265 u266 u267 u268 u269 u270 u271 u272 u273 u274 u275 u276 u254 u277 u278 u279 : Value) (W : World), Below w.heap.size w W → (memBx #[.int .i64 (pa : Int), .int .i64 (pb : Int), .int .i64 2, .int .i64 (pt : Int)] 32).P ⟨g275, q275, G275, Q275, P275⟩ W → (∀ b ∈ (memBx #[.int .i64 (pa : Int), .int .i64 (pb : Int), .int .i64 2, .int .i64 (pt : Int)] 32).bl ⟨g275, q275, G275, Q275, P275⟩, w.heap.size ≤ b ∧ b < W.heap.size) → (memNats (ptL up pa L pt)).P ⟨g276, q276, G276, Q276, P276⟩ W → (∀ b ∈ (memNats (ptL up pa L pt)).bl ⟨g276, q276, G276, Q276, P276⟩, w.heap.size ≤ b ∧ b < W.heap.size) → w.heap.size ≤ g28 → g28 < W.heap.size → BoxAt W g28 #[.int .i64 (N : Int), .slice (some ⟨g276, 0, none⟩) Ty q276] 26 → Q .normal (putL a [(255, u255), (256, u256), (257, u257), (258, u258), (259, u259), (260, u260), (261, u261), (262, u262), (263, u263), (264, u264), (265, u265), (266, u266), (267, u267), (268, u268), (269, u269), (270, u270), (271, u271), (272, u272), (273, u273), (274, u274), (275, u275), (276, u276), (254, u254), (277, u277), (278, u278), (279, u279), (28, .pointer (some ⟨g28, 0, none⟩)), (29, .int .i64 0), (30, .int .i64 0)]) W) :
    (Code.region id ops true).wp Try.prog Q a w := by
  obtain ⟨iop0, iop1, iop2, iop3, iop4, iop5, iop6, iop7, iop8, iop9, iop10, iop11, iop12, iop13, iop14, iop15, iop16, iop17, iop18, iop19, iop20, iop21, iop22, iop23, iop24, iop25, iop26, iop27, iop28, iop29⟩ := gops
  obtain ⟨o5, o3⟩ := gout
  refine region_all (RSp.of 30 [some 255, some 256, some 257, some 258, some 259, some 260, some 261, some 262, some 263, some 264, some 265, some 266, some 267, some 268, some 269, some 270, some 271, some 272, some 273, some 274, some 275, some 276, some 254, some 277, some 278, some 279, some 28, none, some 29, some 30] (fun _ => true) (region_te27X N M T gh qh E P A0 A1 A2 pa pb p3 pt Ty L up) region_te27U [0, 0, 0, 0, 0, 0, 0, 0, 0, 0, 0, 0, 0, 0, 0, 0, 0, 0, 0, 0, 1, 1, 0, 0, 0, 0, 1, 28, 0, 0] (region_te27M N M T gh qh E P A0 A1 A2 pa pb p3 pt Ty L up) (region_te27S N M T gh qh E P A0 A1 A2 pa pb p3 pt Ty L up)) [(5, .pointer (some ⟨E, 0, none⟩)), (3, .pointer (some ⟨P, 0, none⟩))] [255, 256, 257, 258, 259, 260, 261, 262, 263, 264, 265, 266, 267, 268, 269, 270, 271, 272, 273, 274, 275, 276, 254, 277, 278, 279, 28, 29, 30] (RSp.of_fit gsize.symm gbk gds gus ggd (by decide) ?_) (RSp.of_ok _ (region_te27X.congr N M T gh qh E P A0 A1 A2 pa pb p3 pt Ty L up) ?_) gsz ?_ ?_ ?_
  · intro p hp
    have hp2 : p ∈ [(27, 26)] := hp
    simp only [List.mem_cons, List.not_mem_nil, or_false] at hp2
    rcases hp2 with rfl
    · refine ⟨rfl, (show 26 ∈ uOf region_te27U 27 by decide), fun _ => rfl, fun j hj hm => ?_⟩
      match j, hj with
      | 0, _ => rfl
      | 1, _ => rfl
      | 2, _ => rfl
      | 3, _ => rfl
      | 4, _ => rfl
      | 5, _ => rfl
      | 6, _ => rfl
      | 7, _ => rfl
      | 8, _ => rfl
      | 9, _ => rfl
      | 10, _ => rfl
      | 11, _ => rfl
      | 12, _ => rfl
      | 13, _ => rfl
      | 14, _ => rfl
      | 15, _ => rfl
      | 16, _ => rfl
      | 17, _ => rfl
      | 18, _ => rfl
      | 19, _ => rfl
      | 20, _ => rfl
      | 21, _ => rfl
      | 22, _ => rfl
      | 23, _ => rfl
      | 24, _ => rfl
      | 25, _ => rfl
      | 26, _ => rfl
      | 27, hj => exact absurd rfl hj
      | 28, _ => rfl
      | 29, _ => rfl
      | _ + 30, _ => rfl
  · intro i s hds
    match i, hds with
    | 0, hds => cases hds
    | 1, hds => cases hds
    | 2, hds => cases hds
    | 3, hds => cases hds
    | 4, hds => cases hds
    | 5, hds => cases hds
    | 6, hds => cases hds
    | 7, hds => cases hds
    | 8, hds => cases hds
    | 9, hds => cases hds
    | 10, hds => cases hds
    | 11, hds => cases hds
    | 12, hds => cases hds
    | 13, hds => cases hds
    | 14, hds => cases hds
    | 15, hds => cases hds
    | 16, hds => cases hds
    | 17, hds => cases hds
    | 18, hds => cases hds
    | 19, hds => cases hds
    | 20, hds => cases hds
    | 21, hds => cases hds
    | 22, hds => cases hds
    | 23, hds => cases hds
    | 24, hds => cases hds
    | 25, hds => cases hds
    | 26, hds => cases hds
    | 27, hds =>
      obtain rfl := Option.some.inj hds
      refine ⟨(show 26 ∈ uOf region_te27U 27 by decide), fun _ => rfl, fun hds hds' h => ?_⟩
      simp only [h 21 (show 21 ∈ uOf region_te27U 27 by decide)]
    | 28, hds => cases hds
    | 29, hds => cases hds
    | _ + 30, hds => cases hds
  · intro q hq
    simp only [List.mem_cons, List.not_mem_nil, or_false] at hq
    rcases hq with rfl | rfl
    · exact ⟨o5, by simp⟩
    · exact ⟨o3, by simp⟩
  · intro i o ho hw
    have hi : i < 30 := by rw [← gsize]; exact (Array.getElem?_eq_some_iff.1 ho).1
    match i, hi with
    | 0, _ =>
      obtain ⟨ty, pos, aft, e, hdp⟩ := iop0
      rw [e] at ho
      obtain rfl := Option.some.inj ho
      intro a' hds W K hB lq ld hmem hK
      have e5 : a'.eval (.tmp 5) = .pointer (some ⟨E, 0, none⟩) := by rw [eval_tmp]; exact lq (5, .pointer (some ⟨E, 0, none⟩)) (by simp)
      have t5 := (eval_tmp a' 5).symm.trans e5
      have HK := Lib.hid (show K (a'.put (some 255) (.pointer (some ⟨E, 0, none⟩))) W from hK W (Below.refl _ _) trivial)
      clear hK ld lq hmem
      unfold Oper.wp
      simp only [execOp, e5]
      go_simp
      exact HK.out
    | 1, _ =>
      obtain ⟨ty, pos, aft, e, hdp⟩ := iop1
      rw [e] at ho
      obtain rfl := Option.some.inj ho
      intro a' hds W K hB lq ld hmem hK
      have e255 : a'.eval (.tmp 255) = .pointer (some ⟨E, 0, none⟩) := by rw [eval_tmp]; exact ld 0 255 (List.all_eq_true.1 hdp 0 (by decide)) rfl
      have t255 := (eval_tmp a' 255).symm.trans e255
      have HK := Lib.hid (show K (a'.put (some 256) (.int .i64 (N : Int))) W from hK W (Below.refl _ _) trivial)
      clear hK ld lq hmem
      have c0 := (hE.next hB).cell' 0 rfl
      unfold Oper.wp
      simp only [execOp, e255]
      go_simp
      exact HK.out
    | 2, _ =>
      obtain ⟨ty, pos, aft, e, hdp⟩ := iop2
      rw [e] at ho
      obtain rfl := Option.some.inj ho
      intro a' hds W K hB lq ld hmem hK
      have e3 : a'.eval (.tmp 3) = .pointer (some ⟨P, 0, none⟩) := by rw [eval_tmp]; exact lq (3, .pointer (some ⟨P, 0, none⟩)) (by simp)
      have t3 := (eval_tmp a' 3).symm.trans e3
      have HK := Lib.hid (show K (a'.put (some 257) (.pointer (some ⟨P, 0, none⟩))) W from hK W (Below.refl _ _) trivial)
      clear hK ld lq hmem
      unfold Oper.wp
      simp only [execOp, e3]
      go_simp
      exact HK.out
    | 3, _ =>
      obtain ⟨ty, pos, aft, e, hdp⟩ := iop3
      rw [e] at ho
      obtain rfl := Option.some.inj ho
      intro a' hds W K hB lq ld hmem hK
      have e257 : a'.eval (.tmp 257) = .pointer (some ⟨P, 0, none⟩) := by rw [eval_tmp]; exact ld 2 257 (List.all_eq_true.1 hdp 2 (by decide)) rfl
      have t257 := (eval_tmp a' 257).symm.trans e257
      have HK := Lib.hid (show K (a'.put (some 258) (.int .u8 (A0 : Int))) W from hK W (Below.refl _ _) trivial)
      clear hK ld lq hmem
      have c0 := (hP.next hB).cell' 0 rfl
      unfold Oper.wp
      simp only [execOp, e257]
      go_simp
      exact HK.out
    | 4, _ =>
      obtain ⟨ty, pos, aft, e, hdp⟩ := iop4
      rw [e] at ho
      obtain rfl := Option.some.inj ho
      intro a' hds W K hB lq ld hmem hK
      have e258 : a'.eval (.tmp 258) = .int .u8 (A0 : Int) := by rw [eval_tmp]; exact ld 3 258 (List.all_eq_true.1 hdp 3 (by decide)) rfl
      have t258 := (eval_tmp a' 258).symm.trans e258
      have HK := Lib.hid (show K (a'.put (some 259) (.int .i64 (A0 : Int))) W from hK W (Below.refl _ _) trivial)
      clear hK ld lq hmem
      unfold Oper.wp
      simp only [execOp, e258]
      go_simp
      rw [show IntKind.i64.wrap (A0 : Int) = (A0 : Int) from IntWalk.i64_in _ (by omega)]; exact HK.out
    | 5, _ =>
      obtain ⟨ty, pos, aft, e, hdp⟩ := iop5
      rw [e] at ho
      obtain rfl := Option.some.inj ho
      intro a' hds W K hB lq ld hmem hK
      have e5 : a'.eval (.tmp 5) = .pointer (some ⟨E, 0, none⟩) := by rw [eval_tmp]; exact lq (5, .pointer (some ⟨E, 0, none⟩)) (by simp)
      have t5 := (eval_tmp a' 5).symm.trans e5
      have HK := Lib.hid (show K (a'.put (some 260) (.pointer (some ⟨E, 0, none⟩))) W from hK W (Below.refl _ _) trivial)
      clear hK ld lq hmem
      unfold Oper.wp
      simp only [execOp, e5]
      go_simp
      exact HK.out
    | 6, _ =>
      obtain ⟨ty, pos, aft, e, hdp⟩ := iop6
      rw [e] at ho
      obtain rfl := Option.some.inj ho
      intro a' hds W K hB lq ld hmem hK
      have e260 : a'.eval (.tmp 260) = .pointer (some ⟨E, 0, none⟩) := by rw [eval_tmp]; exact ld 5 260 (List.all_eq_true.1 hdp 5 (by decide)) rfl
      have t260 := (eval_tmp a' 260).symm.trans e260
      have HK := Lib.hid (show K (a'.put (some 261) (.int .i64 (N : Int))) W from hK W (Below.refl _ _) trivial)
      clear hK ld lq hmem
      have c0 := (hE.next hB).cell' 0 rfl
      unfold Oper.wp
      simp only [execOp, e260]
      go_simp
      exact HK.out
    | 7, _ =>
      obtain ⟨ty, pos, aft, e, hdp⟩ := iop7
      rw [e] at ho
      obtain rfl := Option.some.inj ho
      intro a' hds W K hB lq ld hmem hK
      have e259 : a'.eval (.tmp 259) = .int .i64 (A0 : Int) := by rw [eval_tmp]; exact ld 4 259 (List.all_eq_true.1 hdp 4 (by decide)) rfl
      have t259 := (eval_tmp a' 259).symm.trans e259
      have e261 : a'.eval (.tmp 261) = .int .i64 (N : Int) := by rw [eval_tmp]; exact ld 6 261 (List.all_eq_true.1 hdp 6 (by decide)) rfl
      have t261 := (eval_tmp a' 261).symm.trans e261
      have HK := Lib.hid (show K (a'.put (some 262) (.int .i64 (pa : Int))) W from hK W (Below.refl _ _) trivial)
      clear hK ld lq hmem
      have hy0 : ¬ (N : Int) = 0 := by omega
      have hr0 := tmod_nn A0 N
      rw [hpa] at hr0
      unfold Oper.wp
      simp only [execOp, e259, e261]
      go_simp
      rw [if_neg (show ¬ N = 0 by omega)]; go_simp; exact HK.out
    | 8, _ =>
      obtain ⟨ty, pos, aft, e, hdp⟩ := iop8
      rw [e] at ho
      obtain rfl := Option.some.inj ho
      intro a' hds W K hB lq ld hmem hK
      have e3 : a'.eval (.tmp 3) = .pointer (some ⟨P, 0, none⟩) := by rw [eval_tmp]; exact lq (3, .pointer (some ⟨P, 0, none⟩)) (by simp)
      have t3 := (eval_tmp a' 3).symm.trans e3
      have HK := Lib.hid (show K (a'.put (some 263) (.pointer (some ⟨P, 1, none⟩))) W from hK W (Below.refl _ _) trivial)
      clear hK ld lq hmem
      unfold Oper.wp
      simp only [execOp, e3]
      go_simp
      exact HK.out
    | 9, _ =>
      obtain ⟨ty, pos, aft, e, hdp⟩ := iop9
      rw [e] at ho
      obtain rfl := Option.some.inj ho
      intro a' hds W K hB lq ld hmem hK
      have e263 : a'.eval (.tmp 263) = .pointer (some ⟨P, 1, none⟩) := by rw [eval_tmp]; exact ld 8 263 (List.all_eq_true.1 hdp 8 (by decide)) rfl
      have t263 := (eval_tmp a' 263).symm.trans e263
      have HK := Lib.hid (show K (a'.put (some 264) (.int .u8 (A1 : Int))) W from hK W (Below.refl _ _) trivial)
      clear hK ld lq hmem
      have c1 := (hP.next hB).cell' 1 rfl
      unfold Oper.wp
      simp only [execOp, e263]
      go_simp
      exact HK.out
    | 10, _ =>
      obtain ⟨ty, pos, aft, e, hdp⟩ := iop10
      rw [e] at ho
      obtain rfl := Option.some.inj ho
      intro a' hds W K hB lq ld hmem hK
      have e264 : a'.eval (.tmp 264) = .int .u8 (A1 : Int) := by rw [eval_tmp]; exact ld 9 264 (List.all_eq_true.1 hdp 9 (by decide)) rfl
      have t264 := (eval_tmp a' 264).symm.trans e264
      have HK := Lib.hid (show K (a'.put (some 265) (.int .i64 (A1 : Int))) W from hK W (Below.refl _ _) trivial)
      clear hK ld lq hmem
      unfold Oper.wp
      simp only [execOp, e264]
      go_simp
      rw [show IntKind.i64.wrap (A1 : Int) = (A1 : Int) from IntWalk.i64_in _ (by omega)]; exact HK.out
    | 11, _ =>
      obtain ⟨ty, pos, aft, e, hdp⟩ := iop11
      rw [e] at ho
      obtain rfl := Option.some.inj ho
      intro a' hds W K hB lq ld hmem hK
      have e5 : a'.eval (.tmp 5) = .pointer (some ⟨E, 0, none⟩) := by rw [eval_tmp]; exact lq (5, .pointer (some ⟨E, 0, none⟩)) (by simp)
      have t5 := (eval_tmp a' 5).symm.trans e5
      have HK := Lib.hid (show K (a'.put (some 266) (.pointer (some ⟨E, 0, none⟩))) W from hK W (Below.refl _ _) trivial)
      clear hK ld lq hmem
      unfold Oper.wp
      simp only [execOp, e5]
      go_simp
      exact HK.out
    | 12, _ =>
      obtain ⟨ty, pos, aft, e, hdp⟩ := iop12
      rw [e] at ho
      obtain rfl := Option.some.inj ho
      intro a' hds W K hB lq ld hmem hK
      have e266 : a'.eval (.tmp 266) = .pointer (some ⟨E, 0, none⟩) := by rw [eval_tmp]; exact ld 11 266 (List.all_eq_true.1 hdp 11 (by decide)) rfl
      have t266 := (eval_tmp a' 266).symm.trans e266
      have HK := Lib.hid (show K (a'.put (some 267) (.int .i64 (N : Int))) W from hK W (Below.refl _ _) trivial)
      clear hK ld lq hmem
      have c0 := (hE.next hB).cell' 0 rfl
      unfold Oper.wp
      simp only [execOp, e266]
      go_simp
      exact HK.out
    | 13, _ =>
      obtain ⟨ty, pos, aft, e, hdp⟩ := iop13
      rw [e] at ho
      obtain rfl := Option.some.inj ho
      intro a' hds W K hB lq ld hmem hK
      have e265 : a'.eval (.tmp 265) = .int .i64 (A1 : Int) := by rw [eval_tmp]; exact ld 10 265 (List.all_eq_true.1 hdp 10 (by decide)) rfl
      have t265 := (eval_tmp a' 265).symm.trans e265
      have e267 : a'.eval (.tmp 267) = .int .i64 (N : Int) := by rw [eval_tmp]; exact ld 12 267 (List.all_eq_true.1 hdp 12 (by decide)) rfl
      have t267 := (eval_tmp a' 267).symm.trans e267
      have HK := Lib.hid (show K (a'.put (some 268) (.int .i64 (pb : Int))) W from hK W (Below.refl _ _) trivial)
      clear hK ld lq hmem
      have hy0 : ¬ (N : Int) = 0 := by omega
      have hr0 := tmod_nn A1 N
      rw [hpb] at hr0
      unfold Oper.wp
      simp only [execOp, e265, e267]
      go_simp
      rw [if_neg (show ¬ N = 0 by omega)]; go_simp; exact HK.out
    | 14, _ =>
      obtain ⟨ty, pos, aft, e, hdp⟩ := iop14
      rw [e] at ho
      obtain rfl := Option.some.inj ho
      intro a' hds W K hB lq ld hmem hK
      have e3 : a'.eval (.tmp 3) = .pointer (some ⟨P, 0, none⟩) := by rw [eval_tmp]; exact lq (3, .pointer (some ⟨P, 0, none⟩)) (by simp)
      have t3 := (eval_tmp a' 3).symm.trans e3
      have HK := Lib.hid (show K (a'.put (some 269) (.pointer (some ⟨P, 2, none⟩))) W from hK W (Below.refl _ _) trivial)
      clear hK ld lq hmem
      unfold Oper.wp
      simp only [execOp, e3]
      go_simp
      exact HK.out
    | 15, _ =>
      obtain ⟨ty, pos, aft, e, hdp⟩ := iop15
      rw [e] at ho
      obtain rfl := Option.some.inj ho
      intro a' hds W K hB lq ld hmem hK
      have e269 : a'.eval (.tmp 269) = .pointer (some ⟨P, 2, none⟩) := by rw [eval_tmp]; exact ld 14 269 (List.all_eq_true.1 hdp 14 (by decide)) rfl
      have t269 := (eval_tmp a' 269).symm.trans e269
      have HK := Lib.hid (show K (a'.put (some 270) (.int .u8 (A2 : Int))) W from hK W (Below.refl _ _) trivial)
      clear hK ld lq hmem
      have c2 := (hP.next hB).cell' 2 rfl
      unfold Oper.wp
      simp only [execOp, e269]
      go_simp
      exact HK.out
    | 16, _ =>
      obtain ⟨ty, pos, aft, e, hdp⟩ := iop16
      rw [e] at ho
      obtain rfl := Option.some.inj ho
      intro a' hds W K hB lq ld hmem hK
      have e270 : a'.eval (.tmp 270) = .int .u8 (A2 : Int) := by rw [eval_tmp]; exact ld 15 270 (List.all_eq_true.1 hdp 15 (by decide)) rfl
      have t270 := (eval_tmp a' 270).symm.trans e270
      have HK := Lib.hid (show K (a'.put (some 271) (.int .i64 (A2 : Int))) W from hK W (Below.refl _ _) trivial)
      clear hK ld lq hmem
      unfold Oper.wp
      simp only [execOp, e270]
      go_simp
      rw [show IntKind.i64.wrap (A2 : Int) = (A2 : Int) from IntWalk.i64_in _ (by omega)]; exact HK.out
    | 17, _ =>
      obtain ⟨ty, pos, aft, e, hdp⟩ := iop17
      rw [e] at ho
      obtain rfl := Option.some.inj ho
      intro a' hds W K hB lq ld hmem hK
      have e271 : a'.eval (.tmp 271) = .int .i64 (A2 : Int) := by rw [eval_tmp]; exact ld 16 271 (List.all_eq_true.1 hdp 16 (by decide)) rfl
      have t271 := (eval_tmp a' 271).symm.trans e271
      have HK := Lib.hid (show K (a'.put (some 272) (.int .i64 (p3 : Int))) W from hK W (Below.refl _ _) trivial)
      clear hK ld lq hmem
      have hr1 : (A2 : Int).tmod 3 = (p3 : Int) := by have := tmod_nn A2 3; rw [hp3] at this; exact this
      unfold Oper.wp
      simp only [execOp, e271]
      go_simp
      first | exact HK.out | (rw [hr1]; exact HK.out)
    | 18, _ =>
      obtain ⟨ty, pos, aft, e, hdp⟩ := iop18
      rw [e] at ho
      obtain rfl := Option.some.inj ho
      intro a' hds W K hB lq ld hmem hK
      have e272 : a'.eval (.tmp 272) = .int .i64 (p3 : Int) := by rw [eval_tmp]; exact ld 17 272 (List.all_eq_true.1 hdp 17 (by decide)) rfl
      have t272 := (eval_tmp a' 272).symm.trans e272
      have HK := Lib.hid (show K (a'.put (some 273) (.int .i64 (pt : Int))) W from hK W (Below.refl _ _) trivial)
      clear hK ld lq hmem
      unfold Oper.wp
      simp only [execOp, e272]
      go_simp
      rw [(by rw [IntWalk.i64_in _ (by omega)]; omega : IntKind.i64.wrap (1 + (p3 : Int)) = ((pt : Nat) : Int))]; exact HK.out
    | 19, _ =>
      obtain ⟨ty, pos, aft, e, hdp⟩ := iop19
      rw [e] at ho
      obtain rfl := Option.some.inj ho
      intro a' hds W K hB lq ld hmem hK
      have e262 : a'.eval (.tmp 262) = .int .i64 (pa : Int) := by rw [eval_tmp]; exact ld 7 262 (List.all_eq_true.1 hdp 7 (by decide)) rfl
      have t262 := (eval_tmp a' 262).symm.trans e262
      have e268 : a'.eval (.tmp 268) = .int .i64 (pb : Int) := by rw [eval_tmp]; exact ld 13 268 (List.all_eq_true.1 hdp 13 (by decide)) rfl
      have t268 := (eval_tmp a' 268).symm.trans e268
      have e273 : a'.eval (.tmp 273) = .int .i64 (pt : Int) := by rw [eval_tmp]; exact ld 18 273 (List.all_eq_true.1 hdp 18 (by decide)) rfl
      have t273 := (eval_tmp a' 273).symm.trans e273
      have HK := Lib.hid (show ∀ W', Below W.heap.size W W' → K (a'.put (some 274) (.agg #[.int .i64 (pa : Int), .int .i64 (pb : Int), .int .i64 2, .int .i64 (pt : Int)])) W' from fun W' h => hK W' h trivial)
      clear hK ld lq hmem
      refine step_call (vals := #[.int .i64 (pa : Int), .int .i64 (pb : Int), .int .i64 2, .int .i64 (pt : Int)]) (by exact ⟨_, _, Try.func72, by kernel_rfl, rfl⟩) (by simp only [List.map_toArray, List.map_cons, List.map_nil, e262, e268, e273]; rfl) (call72 (pa : Int) (pb : Int) 2 (pt : Int) W) ?_
      rintro e w' ⟨rfl, hb'⟩
      exact ⟨_, rfl, HK.out _ hb'⟩
    | 20, _ =>
      obtain ⟨ty, pos, aft, e, hdp⟩ := iop20
      rw [e] at ho
      obtain rfl := Option.some.inj ho
      intro a' hds W K hB lq ld hmem hK
      have e274 : a'.eval (.tmp 274) = .agg #[.int .i64 (pa : Int), .int .i64 (pb : Int), .int .i64 2, .int .i64 (pt : Int)] := by rw [eval_tmp]; exact ld 19 274 (List.all_eq_true.1 hdp 19 (by decide)) rfl
      have t274 := (eval_tmp a' 274).symm.trans e274
      have HK := Lib.hid (show ∀ hh W', Below W.heap.size W W' → (memBx #[.int .i64 (pa : Int), .int .i64 (pb : Int), .int .i64 2, .int .i64 (pt : Int)] 32).P hh W' → (∀ b ∈ (memBx #[.int .i64 (pa : Int), .int .i64 (pb : Int), .int .i64 2, .int .i64 (pt : Int)] 32).bl hh, W.heap.size ≤ b ∧ b < W'.heap.size) → K (a'.put (some 275) (.slice (some ⟨hh.b, 0, none⟩) 1 1)) W' from fun hh W' h1 h2 h3 => by
        have h4 : K (a'.put (some 275) (region_te27X N M T gh qh E P A0 A1 A2 pa pb p3 pt Ty L up 20 (updH hds 20 hh))) W' := hK hh W' h1 h2 h3 trivial
        simp only [region_te27X, updH_same] at h4
        exact h4)
      clear hK ld lq hmem
      have hfin := Lib.hid (HK.out ⟨W.heap.size, 0, 0, 0, none⟩ _ ((Below.refl _ _).alloc (Nat.le_refl _) (.cells #[.int .i64 (pa : Int), .int .i64 (pb : Int), .int .i64 2, .int .i64 (pt : Int)] 32)) (BoxAt.new W #[.int .i64 (pa : Int), .int .i64 (pb : Int), .int .i64 2, .int .i64 (pt : Int)] 32) (bd_one (Nat.le_refl _) (by simp)))
      clear HK
      unfold Oper.wp
      simp only [execOp]
      go_simp
      exact hfin.out
    | 21, _ =>
      obtain ⟨ty, pos, aft, e, hdp⟩ := iop21
      rw [e] at ho
      obtain rfl := Option.some.inj ho
      intro a' hds W K hB lq ld hmem hK
      have e256 : a'.eval (.tmp 256) = .int .i64 (N : Int) := by rw [eval_tmp]; exact ld 1 256 (List.all_eq_true.1 hdp 1 (by decide)) rfl
      have t256 := (eval_tmp a' 256).symm.trans e256
      have e275 : a'.eval (.tmp 275) = .slice (some ⟨(hds 20).b, 0, none⟩) 1 1 := by rw [eval_tmp]; exact ld 20 275 (List.all_eq_true.1 hdp 20 (by decide)) rfl
      have t275 := (eval_tmp a' 275).symm.trans e275
      have HK := Lib.hid (show ∀ hh W', Below W.heap.size W W' → (memNats (ptL up pa L pt)).P hh W' → (∀ b ∈ (memNats (ptL up pa L pt)).bl hh, W.heap.size ≤ b ∧ b < W'.heap.size) → K (a'.put (some 276) (.tuple #[.agg #[.int .i64 (N : Int), .slice (some ⟨hh.b, 0, none⟩) Ty hh.c], .int .i64 0, .int .i64 0])) W' from fun hh W' h1 h2 h3 => by
        have h4 : K (a'.put (some 276) (region_te27X N M T gh qh E P A0 A1 A2 pa pb p3 pt Ty L up 21 (updH hds 21 hh))) W' := hK hh W' h1 h2 h3 trivial
        simp only [region_te27X, updH_same] at h4
        exact h4)
      have m275   := (hmem 20 (show 20 ∈ uOf region_te27U 21 by decide) (by decide)).1
      clear hK ld lq hmem
      refine step_call (vals := #[.int .i64 (N : Int), .slice (some ⟨(hds 20).b, 0, none⟩) 1 1]) (by exact ⟨_, _, Try.func24, by kernel_rfl, rfl⟩) (by simp only [List.map_toArray, List.map_cons, List.map_nil, e256, e275]) (call24p N M pa pb pt Ty (hds 20).b up L W (by omega) hM24 hpaM hpbM hup hdn ⟨by omega, by omega⟩ hT hT96 m275) ?_
      rintro e w' ⟨g, cap, rfl, hn, hl, hg, hb'⟩
      exact ⟨_, rfl, HK.out ⟨g, cap, 0, 0, none⟩ _ hb' ⟨hn, hg⟩ (bd_one hl hg)⟩
    | 22, _ =>
      obtain ⟨ty, pos, aft, e, hdp⟩ := iop22
      rw [e] at ho
      obtain rfl := Option.some.inj ho
      intro a' hds W K hB lq ld hmem hK
      have e276 : a'.eval (.tmp 276) = .tuple #[.agg #[.int .i64 (N : Int), .slice (some ⟨(hds 21).b, 0, none⟩) Ty (hds 21).c], .int .i64 0, .int .i64 0] := by rw [eval_tmp]; exact ld 21 276 (List.all_eq_true.1 hdp 21 (by decide)) rfl
      have t276 := (eval_tmp a' 276).symm.trans e276
      have HK := Lib.hid (show K (a'.put (some 254) (.tuple #[.agg #[.int .i64 (N : Int), .slice (some ⟨(hds 21).b, 0, none⟩) Ty (hds 21).c], .int .i64 0, .int .i64 0])) W from hK W (Below.refl _ _) trivial)
      clear hK ld lq hmem
      unfold Oper.wp
      simp only [execOp, e276]
      exact HK.out
    | 23, _ =>
      obtain ⟨ty, pos, aft, e, hdp⟩ := iop23
      rw [e] at ho
      obtain rfl := Option.some.inj ho
      intro a' hds W K hB lq ld hmem hK
      have e254 : a'.eval (.tmp 254) = .tuple #[.agg #[.int .i64 (N : Int), .slice (some ⟨(hds 21).b, 0, none⟩) Ty (hds 21).c], .int .i64 0, .int .i64 0] := by rw [eval_tmp]; exact ld 22 254 (List.all_eq_true.1 hdp 22 (by decide)) rfl
      have t254 := (eval_tmp a' 254).symm.trans e254
      have HK := Lib.hid (show K (a'.put (some 277) (.agg #[.int .i64 (N : Int), .slice (some ⟨(hds 21).b, 0, none⟩) Ty (hds 21).c])) W from hK W (Below.refl _ _) trivial)
      clear hK ld lq hmem
      unfold Oper.wp
      simp only [execOp, e254]
      exact HK.out
    | 24, _ =>
      obtain ⟨ty, pos, aft, e, hdp⟩ := iop24
      rw [e] at ho
      obtain rfl := Option.some.inj ho
      intro a' hds W K hB lq ld hmem hK
      have e254 : a'.eval (.tmp 254) = .tuple #[.agg #[.int .i64 (N : Int), .slice (some ⟨(hds 21).b, 0, none⟩) Ty (hds 21).c], .int .i64 0, .int .i64 0] := by rw [eval_tmp]; exact ld 22 254 (List.all_eq_true.1 hdp 22 (by decide)) rfl
      have t254 := (eval_tmp a' 254).symm.trans e254
      have HK := Lib.hid (show K (a'.put (some 278) (.int .i64 0)) W from hK W (Below.refl _ _) trivial)
      clear hK ld lq hmem
      unfold Oper.wp
      simp only [execOp, e254]
      exact HK.out
    | 25, _ =>
      obtain ⟨ty, pos, aft, e, hdp⟩ := iop25
      rw [e] at ho
      obtain rfl := Option.some.inj ho
      intro a' hds W K hB lq ld hmem hK
      have e254 : a'.eval (.tmp 254) = .tuple #[.agg #[.int .i64 (N : Int), .slice (some ⟨(hds 21).b, 0, none⟩) Ty (hds 21).c], .int .i64 0, .int .i64 0] := by rw [eval_tmp]; exact ld 22 254 (List.all_eq_true.1 hdp 22 (by decide)) rfl
      have t254 := (eval_tmp a' 254).symm.trans e254
      have HK := Lib.hid (show K (a'.put (some 279) (.int .i64 0)) W from hK W (Below.refl _ _) trivial)
      clear hK ld lq hmem
      unfold Oper.wp
      simp only [execOp, e254]
      exact HK.out
    | 26, _ =>
      obtain ⟨ty, pos, aft, e, hdp⟩ := iop26
      rw [e] at ho
      obtain rfl := Option.some.inj ho
      intro a' hds W K hB lq ld hmem hK
      have HK := Lib.hid (show ∀ hh W', Below W.heap.size W W' → (memBox 2 26).P hh W' → (∀ b ∈ (memBox 2 26).bl hh, W.heap.size ≤ b ∧ b < W'.heap.size) → K (a'.put (some 28) (.pointer (some ⟨hh.b, 0, none⟩))) W' from fun hh W' h1 h2 h3 => by
        have h4 : K (a'.put (some 28) (region_te27X N M T gh qh E P A0 A1 A2 pa pb p3 pt Ty L up 26 (updH hds 26 hh))) W' := hK hh W' h1 h2 h3 trivial
        simp only [region_te27X, updH_same] at h4
        exact h4)
      clear hK ld lq hmem
      have hfin := Lib.hid (HK.out ⟨W.heap.size, 0, 0, 0, none⟩ _ ((Below.refl _ _).alloc (Nat.le_refl _) (.cells #[.int .i64 0, .slice none 0 0] 26)) ⟨_, rfl, BoxAt.new W #[.int .i64 0, .slice none 0 0] 26⟩ (bd_one (Nat.le_refl _) (by simp)))
      clear HK
      unfold Oper.wp
      simp only [execOp]
      go_simp
      exact hfin.out
    | 27, _ =>
      obtain ⟨ty, pos, aft, e, hdp⟩ := iop27
      rw [e] at ho
      obtain rfl := Option.some.inj ho
      intro a' hds W K hB lq ld hmem hK
      have e28 : a'.eval (.tmp 28) = .pointer (some ⟨(hds 26).b, 0, none⟩) := by rw [eval_tmp]; exact ld 26 28 (List.all_eq_true.1 hdp 26 (by decide)) rfl
      have t28 := (eval_tmp a' 28).symm.trans e28
      have e277 : a'.eval (.tmp 277) = .agg #[.int .i64 (N : Int), .slice (some ⟨(hds 21).b, 0, none⟩) Ty (hds 21).c] := by rw [eval_tmp]; exact ld 23 277 (List.all_eq_true.1 hdp 23 (by decide)) rfl
      have t277 := (eval_tmp a' 277).symm.trans e277
      obtain ⟨⟨vs, hvs, hbx⟩, _⟩ := hmem 26 (show 26 ∈ uOf region_te27U 27 by decide) (by decide)
      have hvl : vs.toList.length = 2 := by simpa using hvs
      obtain ⟨v0, v1, rfl⟩ : ∃ v0 v1, vs = #[v0, v1] := by
        cases vs with
        | mk l =>
          match l, hvl with
          | [v0, v1], _ => exact ⟨_, _, rfl⟩
      have HK := Lib.hid (show ∀ W', SetAt (hds 26).b W W' → (memBox 2 26).P (hds 26) W' → BoxAt W' (hds 26).b #[.int .i64 (N : Int), .slice (some ⟨(hds 21).b, 0, none⟩) Ty (hds 21).c] 26 → K a' W' from hK)
      clear hK ld lq hmem
      have hfin := Lib.hid (HK.out _ (((SetAt.refl (hds 26).b W).cell 0 (.int .i64 (N : Int))).cell 1 (.slice (some ⟨(hds 21).b, 0, none⟩) Ty (hds 21).c)) ⟨_, rfl, ((hbx).set 0 (.int .i64 (N : Int))).set 1 (.slice (some ⟨(hds 21).b, 0, none⟩) Ty (hds 21).c)⟩ (((hbx).set 0 (.int .i64 (N : Int))).set 1 (.slice (some ⟨(hds 21).b, 0, none⟩) Ty (hds 21).c)))
      have c0 := hbx.cell' 0 rfl
      have f0 := hbx.frozen 0
      have c1 := hbx.cell' 1 rfl
      have f1 := hbx.frozen 1
      have hlt := hbx.lt
      clear hbx hvl hvs HK
      generalize (hds 26).b = B at *
      unfold Oper.wp
      simp only [execOp, e28, e277]
      clear e28 e277
      go_simp
      exact hfin.out
    | 28, _ =>
      obtain ⟨ty, pos, aft, e, hdp⟩ := iop28
      rw [e] at ho
      obtain rfl := Option.some.inj ho
      intro a' hds W K hB lq ld hmem hK
      have e278 : a'.eval (.tmp 278) = .int .i64 0 := by rw [eval_tmp]; exact ld 24 278 (List.all_eq_true.1 hdp 24 (by decide)) rfl
      have t278 := (eval_tmp a' 278).symm.trans e278
      have HK := Lib.hid (show K (a'.put (some 29) (.int .i64 0)) W from hK W (Below.refl _ _) trivial)
      clear hK ld lq hmem
      unfold Oper.wp
      simp only [execOp, e278]
      exact HK.out
    | 29, _ =>
      obtain ⟨ty, pos, aft, e, hdp⟩ := iop29
      rw [e] at ho
      obtain rfl := Option.some.inj ho
      intro a' hds W K hB lq ld hmem hK
      have e279 : a'.eval (.tmp 279) = .int .i64 0 := by rw [eval_tmp]; exact ld 25 279 (List.all_eq_true.1 hdp 25 (by decide)) rfl
      have t279 := (eval_tmp a' 279).symm.trans e279
      have HK := Lib.hid (show K (a'.put (some 30) (.int .i64 0)) W from hK W (Below.refl _ _) trivial)
      clear hK ld lq hmem
      unfold Oper.wp
      simp only [execOp, e279]
      exact HK.out
    | i + 30, h => omega
  · intro hds v W hO
    have hfin := gend (hds 20).b (hds 20).c (hds 20).b2 (hds 20).c2 (hds 21).b (hds 21).c (hds 21).b2 (hds 21).c2 (hds 26).b (hds 26).c (hds 26).b2 (hds 26).c2 (hds 20).p (hds 21).p (hds 26).p (v 255) (v 256) (v 257) (v 258) (v 259) (v 260) (v 261) (v 262) (v 263) (v 264) (v 265) (v 266) (v 267) (v 268) (v 269) (v 270) (v 271) (v 272) (v 273) (v 274) (v 275) (v 276) (v 254) (v 277) (v 278) (v 279) W hO.b (hO.m 20 (by show 20 < 30; decide) rfl).1 (hO.m 20 (by show 20 < 30; decide) rfl).2 (hO.m 21 (by show 21 < 30; decide) rfl).1 (hO.m 21 (by show 21 < 30; decide) rfl).2 ((hO.m 26 (by show 26 < 30; decide) rfl).2 _ (by show _ ∈ [_]; simp)).1 ((hO.m 26 (by show 26 < 30; decide) rfl).2 _ (by show _ ∈ [_]; simp)).2 (hO.s 27 (by show 27 < 30; decide) rfl)
    rw [← laid_putL _ a v ?_] at hfin
    · exact hfin
    · intro p hp
      simp only [List.mem_cons, List.not_mem_nil, or_false] at hp
      rcases hp with rfl | rfl | rfl | rfl | rfl | rfl | rfl | rfl | rfl | rfl | rfl | rfl | rfl | rfl | rfl | rfl | rfl | rfl | rfl | rfl | rfl | rfl | rfl | rfl | rfl | rfl | rfl | rfl | rfl
      · rfl
      · rfl
      · rfl
      · rfl
      · rfl
      · rfl
      · rfl
      · rfl
      · rfl
      · rfl
      · rfl
      · rfl
      · rfl
      · rfl
      · rfl
      · rfl
      · rfl
      · rfl
      · rfl
      · rfl
      · rfl
      · rfl
      · rfl
      · rfl
      · rfl
      · rfl
      · exact hO.x 26 (show 26 < 30 by decide) 28 rfl
      · exact hO.x 28 (show 28 < 30 by decide) 29 rfl
      · exact hO.x 29 (show 29 < 30 by decide) 30 rfl
end Go.Proofs.Ytdmgffoikebgkaa
