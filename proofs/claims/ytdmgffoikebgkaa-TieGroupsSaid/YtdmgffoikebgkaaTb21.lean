/- TieGroups: its regions that draw their order. -/
import Derived.Test.YtdmgffoikebgkaaTb16
namespace Go.Proofs.Ytdmgffoikebgkaa
open Go.RowKit Go.Shelf
attribute [local go_sem] Oper.semAt_some

/-- a box of the region's own that is known whole -/
def memBx (vs : Array Value) (T : Nat) : Mem := ⟨fun h W => BoxAt W h.b vs T, fun h => [h.b], fun _ _ _ h hb => h.next hb, fun _ _ _ _ h hn hB => hB.box h (fun e => hn (by simp [e]))⟩
theorem call73 (n n2 L b c b2 c2 : Nat) (xs : List Nat) (W : World) (hL : xs.length = L) (hv : Valid n xs) (h2 : n + n = n2) (h3 : n2 ≤ 24) (hx : NatsAt W b 0 xs) (hb : b < W.heap.size) (hy : NatsAt W b2 0 xs) (hb2 : b2 < W.heap.size) :
    Calls Try.prog 73 #[.agg #[.int .i64 (n : Int), .slice (some ⟨b, 0, none⟩) L c], .agg #[.int .i64 (n : Int), .slice (some ⟨b2, 0, none⟩) L c2]] W fun e w' =>
      ∃ g cap, e = .returned (.tuple #[.agg #[.int .i64 (n2 : Int), .slice (some ⟨g, 0, none⟩) L cap], .int .i64 0]) ∧ NatsAt w' g 0 (painted (beG n xs xs) L n2) ∧ W.heap.size ≤ g ∧ g < w'.heap.size ∧ Below W.heap.size W w' := by
  subst hL h2
  refine (Beside_ok n b 0 c n b2 0 c2 xs xs W ⟨hx, hb, hv⟩ ⟨hy, hb2, hv⟩ rfl h3).mono ?_
  rintro e w' ⟨r, rfl, h1, h2, h3⟩
  rw [painted_len]
  exact ⟨r, _, rfl, NatBlk.nats h2, h1, NatBlk.lt h2, h3⟩
def region_tg8U : List (List Nat) := [[], [], [], [], [], [], [], [7], [7, 8], [7, 8], [7, 8], [7, 8], [7, 8], [13], [7, 8, 13], [7, 8], [7, 8]]
def region_tg8X (N M n T L g2 q2 D : Nat) : Nat → (Nat → Hd) → Value
  | 0, _ => .pointer (some ⟨D, 0, none⟩)
  | 1, _ => .int .i64 (N : Int)
  | 2, _ => .pointer (some ⟨D, 0, none⟩)
  | 3, _ => .int .i64 (N : Int)
  | 4, _ => .int .i64 (M : Int)
  | 5, _ => .int .i64 (n : Int)
  | 6, _ => .agg #[.int .i64 0, .int .i64 (M : Int), .int .i64 1, .int .i64 (n : Int)]
  | 7, hds => .slice (some ⟨(hds 7).b, 0, none⟩) 1 1
  | 8, hds => .tuple #[.agg #[.int .i64 (N : Int), .slice (some ⟨(hds 8).b, 0, none⟩) T (hds 8).c], .int .i64 0, .int .i64 0]
  | 9, hds => .tuple #[.agg #[.int .i64 (N : Int), .slice (some ⟨(hds 8).b, 0, none⟩) T (hds 8).c], .int .i64 0, .int .i64 0]
  | 10, hds => .agg #[.int .i64 (N : Int), .slice (some ⟨(hds 8).b, 0, none⟩) T (hds 8).c]
  | 11, _ => .int .i64 0
  | 12, _ => .int .i64 0
  | 13, hds => .pointer (some ⟨(hds 13).b, 0, none⟩)
  | 14, _ => undef
  | 15, _ => .int .i64 0
  | 16, _ => .int .i64 0
  | _ + 17, _ => undef
theorem region_tg8X.congr (N M n T L g2 q2 D : Nat) : ∀ i hds hds', (∀ r ∈ uOf region_tg8U i, hds r = hds' r) → region_tg8X N M n T L g2 q2 D i hds = region_tg8X N M n T L g2 q2 D i hds'
  | 0, _, _, _ => rfl
  | 1, _, _, _ => rfl
  | 2, _, _, _ => rfl
  | 3, _, _, _ => rfl
  | 4, _, _, _ => rfl
  | 5, _, _, _ => rfl
  | 6, _, _, _ => rfl
  | 7, hds, hds', h => by simp only [region_tg8X, h 7 (show 7 ∈ uOf region_tg8U 7 by decide)]
  | 8, hds, hds', h => by simp only [region_tg8X, h 8 (show 8 ∈ uOf region_tg8U 8 by decide)]
  | 9, hds, hds', h => by simp only [region_tg8X, h 8 (show 8 ∈ uOf region_tg8U 9 by decide)]
  | 10, hds, hds', h => by simp only [region_tg8X, h 8 (show 8 ∈ uOf region_tg8U 10 by decide)]
  | 11, _, _, _ => rfl
  | 12, _, _, _ => rfl
  | 13, hds, hds', h => by simp only [region_tg8X, h 13 (show 13 ∈ uOf region_tg8U 13 by decide)]
  | 14, _, _, _ => rfl
  | 15, _, _, _ => rfl
  | 16, _, _, _ => rfl
  | _ + 17, _, _, _ => rfl
def region_tg8M (N M n T L g2 q2 D : Nat) : Nat → Mem
  | 7 => memBx #[.int .i64 0, .int .i64 (M : Int), .int .i64 1, .int .i64 (n : Int)] 32
  | 8 => memNats (grpL M 1 n)
  | 13 => memBox 2 26
  | _ => memNone
def region_tg8S (N M n T L g2 q2 D : Nat) : Nat → Option Sto
  | 14 => some ⟨13, 26, fun hds => #[.int .i64 (N : Int), .slice (some ⟨(hds 8).b, 0, none⟩) T (hds 8).c]⟩
  | _ => none
set_option maxRecDepth 8000 in
set_option maxHeartbeats 2000000 in
theorem region_tg8 {id : Nat} {ops : Array Oper} {Q : Exit → Act → World → Prop} {a : Act} {w : World} (N M n T L g2 q2 D : Nat) (hKa : N ≤ M + 1) (hKb : M + 1 ≤ N) (hM24 : M < 24) (hT : onceT M 1 * n = T) (hT2 : T ≤ 96) (hn1 : 1 ≤ n) (hn2 : n ≤ 2) (hD : BoxAt w D #[.int .i64 (N : Int), .slice (some ⟨g2, 0, none⟩) L q2] 37)
    (gsize : ops.size = 17)
    (gops : IsOp ops 0 (some 53) (.fieldAddr 37 (.tmp 5) 0) none [] ∧ IsOp ops 1 (some 54) (.load 3 (.tmp 53)) none [0] ∧ IsOp ops 2 (some 55) (.fieldAddr 37 (.tmp 5) 0) none [] ∧ IsOp ops 3 (some 56) (.load 3 (.tmp 55)) none [2] ∧ IsOp ops 4 (some 57) (.binOp .sub 3 (.tmp 56) (.const (.int .i64 1)) 3) none [3] ∧ IsOp ops 5 (some 58) (.move (.tmp 7)) none [] ∧ IsOp ops 6 (some 59) (.call { callee := .value (.func 72), args := #[.const (.int .i64 0), .tmp 57, .const (.int .i64 1), .tmp 58], argTypes := #[3, 3, 30, 3] }) none [4, 5] ∧ IsOp ops 7 (some 60) (.buildSlice 22 1 #[(0, .tmp 59)]) none [6] ∧ IsOp ops 8 (some 61) (.call { callee := .value (.func 24), args := #[.tmp 54, .tmp 60], argTypes := #[3, 22] }) none [1, 7] ∧ IsOp ops 9 (some 52) (.move (.tmp 61)) none [8] ∧ IsOp ops 10 (some 62) (.extract (.tmp 52) 0) none [9] ∧ IsOp ops 11 (some 63) (.extract (.tmp 52) 1) none [9] ∧ IsOp ops 12 (some 64) (.extract (.tmp 52) 2) none [9] ∧ IsOp ops 13 (some 8) (.alloc 26) none [] ∧ IsOp ops 14 none (.store 26 (.tmp 8) (.tmp 62)) none [10, 13] ∧ IsOp ops 15 (some 9) (.assign (.tmp 63)) none [11] ∧ IsOp ops 16 (some 10) (.assign (.tmp 64)) none [12])
    (gbk : backB ops = true) (gds : dstsB ops (dOf [some 53, some 54, some 55, some 56, some 57, some 58, some 59, some 60, some 61, some 52, some 62, some 63, some 64, some 8, none, some 9, some 10]) = true) (gus : useB ops (uOf region_tg8U) (kOf [0, 0, 0, 0, 0, 0, 0, 1, 1, 0, 0, 0, 0, 1, 15, 0, 0]) = true) (ggd : plainB ops = true) (gsz : ∀ e ∈ [53, 54, 55, 56, 57, 58, 59, 60, 61, 52, 62, 63, 64, 8, 9, 10], e < a.tmps.size)
    (gout : a.eval (.tmp 5) = .pointer (some ⟨D, 0, none⟩) ∧ a.eval (.tmp 7) = .int .i64 (n : Int))
    (gend : ∀ (g60 q60 G60 Q60 g61 q61 G61 Q61 g8 q8 G8 Q8 : Nat) (P60 P61 P8 : Option Addr) (u53 u54 u55 u56 u57 u58 u59 u60 u61 u52 u62 u63 u64 : Value) (W : World), Below w.heap.size w W → (memBx #[.int .i64 0, .int .i64 (M : Int), .int .i64 1, .int .i64 (n : Int)] 32).P ⟨g60, q60, G60, Q60, P60⟩ W → (∀ b ∈ (memBx #[.int .i64 0, .int .i64 (M : Int), .int .i64 1, .int .i64 (n : Int)] 32).bl ⟨g60, q60, G60, Q60, P60⟩, w.heap.size ≤ b ∧ b < W.heap.size) → (memNats (grpL M 1 n)).P ⟨g61, q61, G61, Q61, P61⟩ W → (∀ b ∈ (memNats (grpL M 1 n)).bl ⟨g61, q61, G61, Q61, P61⟩, w.heap.size ≤ b ∧ b < W.heap.size) → w.heap.size ≤ g8 → g8 < W.heap.size → BoxAt W g8 #[.int .i64 (N : Int), .slice (some ⟨g61, 0, none⟩) T q61] 26 → Q .normal (putL a [(53, u53), (54, u54), (55, u55), (56, u56), (57, u57), (58, u58), (59, u59), (60, u60), (61, u61), (52, u52), (62, u62), (63, u63), (64, u64), (8, .pointer (some ⟨g8, 0, none⟩)), (9, .int .i64 0), (10, .int .i64 0)]) W) :
    (Code.region id ops true).wp Try.prog Q a w := by
  obtain ⟨iop0, iop1, iop2, iop3, iop4, iop5, iop6, iop7, iop8, iop9, iop10, iop11, iop12, iop13, iop14, iop15, iop16⟩ := gops
  obtain ⟨o5, o7⟩ := gout
  refine region_all (RSp.of 17 [some 53, some 54, some 55, some 56, some 57, some 58, some 59, some 60, some 61, some 52, some 62, some 63, some 64, some 8, none, some 9, some 10] (fun _ => true) (region_tg8X N M n T L g2 q2 D) region_tg8U [0, 0, 0, 0, 0, 0, 0, 1, 1, 0, 0, 0, 0, 1, 15, 0, 0] (region_tg8M N M n T L g2 q2 D) (region_tg8S N M n T L g2 q2 D)) [(5, .pointer (some ⟨D, 0, none⟩)), (7, .int .i64 (n : Int))] [53, 54, 55, 56, 57, 58, 59, 60, 61, 52, 62, 63, 64, 8, 9, 10] (RSp.of_fit gsize.symm gbk gds gus ggd (by decide) ?_) (RSp.of_ok _ (region_tg8X.congr N M n T L g2 q2 D) ?_) gsz ?_ ?_ ?_
  · intro p hp
    have hp2 : p ∈ [(14, 13)] := hp
    simp only [List.mem_cons, List.not_mem_nil, or_false] at hp2
    rcases hp2 with rfl
    · refine ⟨rfl, (show 13 ∈ uOf region_tg8U 14 by decide), fun _ => rfl, fun j hj hm => ?_⟩
      match j, hj with
      | 0, _ => rfl
      | 1, _ => rfl
      | 2, _ => rfl
      | 3, _ => rfl
      | 4, _ => rfl
      | 5, _ => rfl
      | 6, _ => rfl
      | 7, _ => rfl
      | 8, _ => rfl
      | 9, _ => rfl
      | 10, _ => rfl
      | 11, _ => rfl
      | 12, _ => rfl
      | 13, _ => rfl
      | 14, hj => exact absurd rfl hj
      | 15, _ => rfl
      | 16, _ => rfl
      | _ + 17, _ => rfl
  · intro i s hds
    match i, hds with
    | 0, hds => cases hds
    | 1, hds => cases hds
    | 2, hds => cases hds
    | 3, hds => cases hds
    | 4, hds => cases hds
    | 5, hds => cases hds
    | 6, hds => cases hds
    | 7, hds => cases hds
    | 8, hds => cases hds
    | 9, hds => cases hds
    | 10, hds => cases hds
    | 11, hds => cases hds
    | 12, hds => cases hds
    | 13, hds => cases hds
    | 14, hds =>
      obtain rfl := Option.some.inj hds
      refine ⟨(show 13 ∈ uOf region_tg8U 14 by decide), fun _ => rfl, fun hds hds' h => ?_⟩
      simp only [h 8 (show 8 ∈ uOf region_tg8U 14 by decide)]
    | 15, hds => cases hds
    | 16, hds => cases hds
    | _ + 17, hds => cases hds
  · intro q hq
    simp only [List.mem_cons, List.not_mem_nil, or_false] at hq
    rcases hq with rfl | rfl
    · exact ⟨o5, by simp⟩
    · exact ⟨o7, by simp⟩
  · intro i o ho _
    have hi : i < 17 := by rw [← gsize]; exact (Array.getElem?_eq_some_iff.1 ho).1
    match i, hi with
    | 0, _ =>
      obtain ⟨ty, pos, aft, e, hdp⟩ := iop0
      rw [e] at ho
      obtain rfl := Option.some.inj ho
      intro a' hds W K hB lq ld hmem hK
      have e5 : a'.eval (.tmp 5) = .pointer (some ⟨D, 0, none⟩) := by rw [eval_tmp]; exact lq (5, .pointer (some ⟨D, 0, none⟩)) (by simp)
      have t5 := (eval_tmp a' 5).symm.trans e5
      have HK := Lib.hid (show K (a'.put (some 53) (.pointer (some ⟨D, 0, none⟩))) W from hK W (Below.refl _ _) trivial)
      clear hK ld lq hmem
      unfold Oper.wp
      simp only [execOp, e5]
      go_simp
      exact HK.out
    | 1, _ =>
      obtain ⟨ty, pos, aft, e, hdp⟩ := iop1
      rw [e] at ho
      obtain rfl := Option.some.inj ho
      intro a' hds W K hB lq ld hmem hK
      have e53 : a'.eval (.tmp 53) = .pointer (some ⟨D, 0, none⟩) := by rw [eval_tmp]; exact ld 0 53 (List.all_eq_true.1 hdp 0 (by decide)) rfl
      have t53 := (eval_tmp a' 53).symm.trans e53
      have HK := Lib.hid (show K (a'.put (some 54) (.int .i64 (N : Int))) W from hK W (Below.refl _ _) trivial)
      clear hK ld lq hmem
      have c0 := (hD.next hB).cell' 0 rfl
      unfold Oper.wp
      simp only [execOp, e53]
      go_simp
      exact HK.out
    | 2, _ =>
      obtain ⟨ty, pos, aft, e, hdp⟩ := iop2
      rw [e] at ho
      obtain rfl := Option.some.inj ho
      intro a' hds W K hB lq ld hmem hK
      have e5 : a'.eval (.tmp 5) = .pointer (some ⟨D, 0, none⟩) := by rw [eval_tmp]; exact lq (5, .pointer (some ⟨D, 0, none⟩)) (by simp)
      have t5 := (eval_tmp a' 5).symm.trans e5
      have HK := Lib.hid (show K (a'.put (some 55) (.pointer (some ⟨D, 0, none⟩))) W from hK W (Below.refl _ _) trivial)
      clear hK ld lq hmem
      unfold Oper.wp
      simp only [execOp, e5]
      go_simp
      exact HK.out
    | 3, _ =>
      obtain ⟨ty, pos, aft, e, hdp⟩ := iop3
      rw [e] at ho
      obtain rfl := Option.some.inj ho
      intro a' hds W K hB lq ld hmem hK
      have e55 : a'.eval (.tmp 55) = .pointer (some ⟨D, 0, none⟩) := by rw [eval_tmp]; exact ld 2 55 (List.all_eq_true.1 hdp 2 (by decide)) rfl
      have t55 := (eval_tmp a' 55).symm.trans e55
      have HK := Lib.hid (show K (a'.put (some 56) (.int .i64 (N : Int))) W from hK W (Below.refl _ _) trivial)
      clear hK ld lq hmem
      have c0 := (hD.next hB).cell' 0 rfl
      unfold Oper.wp
      simp only [execOp, e55]
      go_simp
      exact HK.out
    | 4, _ =>
      obtain ⟨ty, pos, aft, e, hdp⟩ := iop4
      rw [e] at ho
      obtain rfl := Option.some.inj ho
      intro a' hds W K hB lq ld hmem hK
      have e56 : a'.eval (.tmp 56) = .int .i64 (N : Int) := by rw [eval_tmp]; exact ld 3 56 (List.all_eq_true.1 hdp 3 (by decide)) rfl
      have t56 := (eval_tmp a' 56).symm.trans e56
      have HK := Lib.hid (show K (a'.put (some 57) (.int .i64 (M : Int))) W from hK W (Below.refl _ _) trivial)
      clear hK ld lq hmem
      unfold Oper.wp
      simp only [execOp, e56]
      go_simp
      rw [(by rw [IntWalk.i64_in _ (by omega)]; omega : IntKind.i64.wrap ((N : Int) - 1) = (M : Int))]; exact HK.out
    | 5, _ =>
      obtain ⟨ty, pos, aft, e, hdp⟩ := iop5
      rw [e] at ho
      obtain rfl := Option.some.inj ho
      intro a' hds W K hB lq ld hmem hK
      have e7 : a'.eval (.tmp 7) = .int .i64 (n : Int) := by rw [eval_tmp]; exact lq (7, .int .i64 (n : Int)) (by simp)
      have t7 := (eval_tmp a' 7).symm.trans e7
      have HK := Lib.hid (show K (a'.put (some 58) (.int .i64 (n : Int))) W from hK W (Below.refl _ _) trivial)
      clear hK ld lq hmem
      unfold Oper.wp
      simp only [execOp, e7]
      exact HK.out
    | 6, _ =>
      obtain ⟨ty, pos, aft, e, hdp⟩ := iop6
      rw [e] at ho
      obtain rfl := Option.some.inj ho
      intro a' hds W K hB lq ld hmem hK
      have e57 : a'.eval (.tmp 57) = .int .i64 (M : Int) := by rw [eval_tmp]; exact ld 4 57 (List.all_eq_true.1 hdp 4 (by decide)) rfl
      have t57 := (eval_tmp a' 57).symm.trans e57
      have e58 : a'.eval (.tmp 58) = .int .i64 (n : Int) := by rw [eval_tmp]; exact ld 5 58 (List.all_eq_true.1 hdp 5 (by decide)) rfl
      have t58 := (eval_tmp a' 58).symm.trans e58
      have HK := Lib.hid (show ∀ W', Below W.heap.size W W' → K (a'.put (some 59) (.agg #[.int .i64 0, .int .i64 (M : Int), .int .i64 1, .int .i64 (n : Int)])) W' from fun W' h => hK W' h trivial)
      clear hK ld lq hmem
      refine step_call (vals := #[.int .i64 0, .int .i64 (M : Int), .int .i64 1, .int .i64 (n : Int)]) (by exact ⟨_, _, Try.func72, by kernel_rfl, rfl⟩) (by simp only [List.map_toArray, List.map_cons, List.map_nil, e57, e58]; rfl) (call72 0 (M : Int) 1 (n : Int) W) ?_
      rintro e w' ⟨rfl, hb'⟩
      exact ⟨_, rfl, HK.out _ hb'⟩
    | 7, _ =>
      obtain ⟨ty, pos, aft, e, hdp⟩ := iop7
      rw [e] at ho
      obtain rfl := Option.some.inj ho
      intro a' hds W K hB lq ld hmem hK
      have e59 : a'.eval (.tmp 59) = .agg #[.int .i64 0, .int .i64 (M : Int), .int .i64 1, .int .i64 (n : Int)] := by rw [eval_tmp]; exact ld 6 59 (List.all_eq_true.1 hdp 6 (by decide)) rfl
      have t59 := (eval_tmp a' 59).symm.trans e59
      have HK := Lib.hid (show ∀ hh W', Below W.heap.size W W' → (memBx #[.int .i64 0, .int .i64 (M : Int), .int .i64 1, .int .i64 (n : Int)] 32).P hh W' → (∀ b ∈ (memBx #[.int .i64 0, .int .i64 (M : Int), .int .i64 1, .int .i64 (n : Int)] 32).bl hh, W.heap.size ≤ b ∧ b < W'.heap.size) → K (a'.put (some 60) (.slice (some ⟨hh.b, 0, none⟩) 1 1)) W' from fun hh W' h1 h2 h3 => by
        have h4 : K (a'.put (some 60) (region_tg8X N M n T L g2 q2 D 7 (updH hds 7 hh))) W' := hK hh W' h1 h2 h3 trivial
        simp only [region_tg8X, updH_same] at h4
        exact h4)
      clear hK ld lq hmem
      have hfin := Lib.hid (HK.out ⟨W.heap.size, 0, 0, 0, none⟩ _ ((Below.refl _ _).alloc (Nat.le_refl _) (.cells #[.int .i64 0, .int .i64 (M : Int), .int .i64 1, .int .i64 (n : Int)] 32)) (BoxAt.new W #[.int .i64 0, .int .i64 (M : Int), .int .i64 1, .int .i64 (n : Int)] 32) (bd_one (Nat.le_refl _) (by simp)))
      clear HK
      unfold Oper.wp
      simp only [execOp]
      go_simp
      exact hfin.out
    | 8, _ =>
      obtain ⟨ty, pos, aft, e, hdp⟩ := iop8
      rw [e] at ho
      obtain rfl := Option.some.inj ho
      intro a' hds W K hB lq ld hmem hK
      have e54 : a'.eval (.tmp 54) = .int .i64 (N : Int) := by rw [eval_tmp]; exact ld 1 54 (List.all_eq_true.1 hdp 1 (by decide)) rfl
      have t54 := (eval_tmp a' 54).symm.trans e54
      have e60 : a'.eval (.tmp 60) = .slice (some ⟨(hds 7).b, 0, none⟩) 1 1 := by rw [eval_tmp]; exact ld 7 60 (List.all_eq_true.1 hdp 7 (by decide)) rfl
      have t60 := (eval_tmp a' 60).symm.trans e60
      have HK := Lib.hid (show ∀ hh W', Below W.heap.size W W' → (memNats (grpL M 1 n)).P hh W' → (∀ b ∈ (memNats (grpL M 1 n)).bl hh, W.heap.size ≤ b ∧ b < W'.heap.size) → K (a'.put (some 61) (.tuple #[.agg #[.int .i64 (N : Int), .slice (some ⟨hh.b, 0, none⟩) T hh.c], .int .i64 0, .int .i64 0])) W' from fun hh W' h1 h2 h3 => by
        have h4 : K (a'.put (some 61) (region_tg8X N M n T L g2 q2 D 8 (updH hds 8 hh))) W' := hK hh W' h1 h2 h3 trivial
        simp only [region_tg8X, updH_same] at h4
        exact h4)
      have m60   := (hmem 7 (show 7 ∈ uOf region_tg8U 8 by decide) (by decide)).1
      clear hK ld lq hmem
      refine step_call (vals := #[.int .i64 (N : Int), .slice (some ⟨(hds 7).b, 0, none⟩) 1 1]) (by exact ⟨_, _, Try.func24, by kernel_rfl, rfl⟩) (by simp only [List.map_toArray, List.map_cons, List.map_nil, e54, e60]) (call24g N M 1 n T (hds 7).b W (by omega) hM24 (.inl rfl) ⟨hn1, by omega⟩ hT hT2 m60) ?_
      rintro e w' ⟨g, cap, rfl, hn, hl, hg, hb'⟩
      exact ⟨_, rfl, HK.out ⟨g, cap, 0, 0, none⟩ _ hb' ⟨hn, hg⟩ (bd_one hl hg)⟩
    | 9, _ =>
      obtain ⟨ty, pos, aft, e, hdp⟩ := iop9
      rw [e] at ho
      obtain rfl := Option.some.inj ho
      intro a' hds W K hB lq ld hmem hK
      have e61 : a'.eval (.tmp 61) = .tuple #[.agg #[.int .i64 (N : Int), .slice (some ⟨(hds 8).b, 0, none⟩) T (hds 8).c], .int .i64 0, .int .i64 0] := by rw [eval_tmp]; exact ld 8 61 (List.all_eq_true.1 hdp 8 (by decide)) rfl
      have t61 := (eval_tmp a' 61).symm.trans e61
      have HK := Lib.hid (show K (a'.put (some 52) (.tuple #[.agg #[.int .i64 (N : Int), .slice (some ⟨(hds 8).b, 0, none⟩) T (hds 8).c], .int .i64 0, .int .i64 0])) W from hK W (Below.refl _ _) trivial)
      clear hK ld lq hmem
      unfold Oper.wp
      simp only [execOp, e61]
      exact HK.out
    | 10, _ =>
      obtain ⟨ty, pos, aft, e, hdp⟩ := iop10
      rw [e] at ho
      obtain rfl := Option.some.inj ho
      intro a' hds W K hB lq ld hmem hK
      have e52 : a'.eval (.tmp 52) = .tuple #[.agg #[.int .i64 (N : Int), .slice (some ⟨(hds 8).b, 0, none⟩) T (hds 8).c], .int .i64 0, .int .i64 0] := by rw [eval_tmp]; exact ld 9 52 (List.all_eq_true.1 hdp 9 (by decide)) rfl
      have t52 := (eval_tmp a' 52).symm.trans e52
      have HK := Lib.hid (show K (a'.put (some 62) (.agg #[.int .i64 (N : Int), .slice (some ⟨(hds 8).b, 0, none⟩) T (hds 8).c])) W from hK W (Below.refl _ _) trivial)
      clear hK ld lq hmem
      unfold Oper.wp
      simp only [execOp, e52]
      exact HK.out
    | 11, _ =>
      obtain ⟨ty, pos, aft, e, hdp⟩ := iop11
      rw [e] at ho
      obtain rfl := Option.some.inj ho
      intro a' hds W K hB lq ld hmem hK
      have e52 : a'.eval (.tmp 52) = .tuple #[.agg #[.int .i64 (N : Int), .slice (some ⟨(hds 8).b, 0, none⟩) T (hds 8).c], .int .i64 0, .int .i64 0] := by rw [eval_tmp]; exact ld 9 52 (List.all_eq_true.1 hdp 9 (by decide)) rfl
      have t52 := (eval_tmp a' 52).symm.trans e52
      have HK := Lib.hid (show K (a'.put (some 63) (.int .i64 0)) W from hK W (Below.refl _ _) trivial)
      clear hK ld lq hmem
      unfold Oper.wp
      simp only [execOp, e52]
      exact HK.out
    | 12, _ =>
      obtain ⟨ty, pos, aft, e, hdp⟩ := iop12
      rw [e] at ho
      obtain rfl := Option.some.inj ho
      intro a' hds W K hB lq ld hmem hK
      have e52 : a'.eval (.tmp 52) = .tuple #[.agg #[.int .i64 (N : Int), .slice (some ⟨(hds 8).b, 0, none⟩) T (hds 8).c], .int .i64 0, .int .i64 0] := by rw [eval_tmp]; exact ld 9 52 (List.all_eq_true.1 hdp 9 (by decide)) rfl
      have t52 := (eval_tmp a' 52).symm.trans e52
      have HK := Lib.hid (show K (a'.put (some 64) (.int .i64 0)) W from hK W (Below.refl _ _) trivial)
      clear hK ld lq hmem
      unfold Oper.wp
      simp only [execOp, e52]
      exact HK.out
    | 13, _ =>
      obtain ⟨ty, pos, aft, e, hdp⟩ := iop13
      rw [e] at ho
      obtain rfl := Option.some.inj ho
      intro a' hds W K hB lq ld hmem hK
      have HK := Lib.hid (show ∀ hh W', Below W.heap.size W W' → (memBox 2 26).P hh W' → (∀ b ∈ (memBox 2 26).bl hh, W.heap.size ≤ b ∧ b < W'.heap.size) → K (a'.put (some 8) (.pointer (some ⟨hh.b, 0, none⟩))) W' from fun hh W' h1 h2 h3 => by
        have h4 : K (a'.put (some 8) (region_tg8X N M n T L g2 q2 D 13 (updH hds 13 hh))) W' := hK hh W' h1 h2 h3 trivial
        simp only [region_tg8X, updH_same] at h4
        exact h4)
      clear hK ld lq hmem
      have hfin := Lib.hid (HK.out ⟨W.heap.size, 0, 0, 0, none⟩ _ ((Below.refl _ _).alloc (Nat.le_refl _) (.cells #[.int .i64 0, .slice none 0 0] 26)) ⟨_, rfl, BoxAt.new W #[.int .i64 0, .slice none 0 0] 26⟩ (bd_one (Nat.le_refl _) (by simp)))
      clear HK
      unfold Oper.wp
      simp only [execOp]
      go_simp
      exact hfin.out
    | 14, _ =>
      obtain ⟨ty, pos, aft, e, hdp⟩ := iop14
      rw [e] at ho
      obtain rfl := Option.some.inj ho
      intro a' hds W K hB lq ld hmem hK
      have e8 : a'.eval (.tmp 8) = .pointer (some ⟨(hds 13).b, 0, none⟩) := by rw [eval_tmp]; exact ld 13 8 (List.all_eq_true.1 hdp 13 (by decide)) rfl
      have t8 := (eval_tmp a' 8).symm.trans e8
      have e62 : a'.eval (.tmp 62) = .agg #[.int .i64 (N : Int), .slice (some ⟨(hds 8).b, 0, none⟩) T (hds 8).c] := by rw [eval_tmp]; exact ld 10 62 (List.all_eq_true.1 hdp 10 (by decide)) rfl
      have t62 := (eval_tmp a' 62).symm.trans e62
      obtain ⟨⟨vs, hvs, hbx⟩, _⟩ := hmem 13 (show 13 ∈ uOf region_tg8U 14 by decide) (by decide)
      have hvl : vs.toList.length = 2 := by simpa using hvs
      obtain ⟨v0, v1, rfl⟩ : ∃ v0 v1, vs = #[v0, v1] := by
        cases vs with
        | mk l =>
          match l, hvl with
          | [v0, v1], _ => exact ⟨_, _, rfl⟩
      have HK := Lib.hid (show ∀ W', SetAt (hds 13).b W W' → (memBox 2 26).P (hds 13) W' → BoxAt W' (hds 13).b #[.int .i64 (N : Int), .slice (some ⟨(hds 8).b, 0, none⟩) T (hds 8).c] 26 → K a' W' from hK)
      clear hK ld lq hmem
      have hfin := Lib.hid (HK.out _ (((SetAt.refl (hds 13).b W).cell 0 (.int .i64 (N : Int))).cell 1 (.slice (some ⟨(hds 8).b, 0, none⟩) T (hds 8).c)) ⟨_, rfl, ((hbx).set 0 (.int .i64 (N : Int))).set 1 (.slice (some ⟨(hds 8).b, 0, none⟩) T (hds 8).c)⟩ (((hbx).set 0 (.int .i64 (N : Int))).set 1 (.slice (some ⟨(hds 8).b, 0, none⟩) T (hds 8).c)))
      have c0 := hbx.cell' 0 rfl
      have f0 := hbx.frozen 0
      have c1 := hbx.cell' 1 rfl
      have f1 := hbx.frozen 1
      have hlt := hbx.lt
      clear hbx hvl hvs HK
      generalize (hds 13).b = B at *
      unfold Oper.wp
      simp only [execOp, e8, e62]
      clear e8 e62
      go_simp
      exact hfin.out
    | 15, _ =>
      obtain ⟨ty, pos, aft, e, hdp⟩ := iop15
      rw [e] at ho
      obtain rfl := Option.some.inj ho
      intro a' hds W K hB lq ld hmem hK
      have e63 : a'.eval (.tmp 63) = .int .i64 0 := by rw [eval_tmp]; exact ld 11 63 (List.all_eq_true.1 hdp 11 (by decide)) rfl
      have t63 := (eval_tmp a' 63).symm.trans e63
      have HK := Lib.hid (show K (a'.put (some 9) (.int .i64 0)) W from hK W (Below.refl _ _) trivial)
      clear hK ld lq hmem
      unfold Oper.wp
      simp only [execOp, e63]
      exact HK.out
    | 16, _ =>
      obtain ⟨ty, pos, aft, e, hdp⟩ := iop16
      rw [e] at ho
      obtain rfl := Option.some.inj ho
      intro a' hds W K hB lq ld hmem hK
      have e64 : a'.eval (.tmp 64) = .int .i64 0 := by rw [eval_tmp]; exact ld 12 64 (List.all_eq_true.1 hdp 12 (by decide)) rfl
      have t64 := (eval_tmp a' 64).symm.trans e64
      have HK := Lib.hid (show K (a'.put (some 10) (.int .i64 0)) W from hK W (Below.refl _ _) trivial)
      clear hK ld lq hmem
      unfold Oper.wp
      simp only [execOp, e64]
      exact HK.out
    | i + 17, h => omega
  · intro hds v W hO
    have hfin := gend (hds 7).b (hds 7).c (hds 7).b2 (hds 7).c2 (hds 8).b (hds 8).c (hds 8).b2 (hds 8).c2 (hds 13).b (hds 13).c (hds 13).b2 (hds 13).c2 (hds 7).p (hds 8).p (hds 13).p (v 53) (v 54) (v 55) (v 56) (v 57) (v 58) (v 59) (v 60) (v 61) (v 52) (v 62) (v 63) (v 64) W hO.b (hO.m 7 (by show 7 < 17; decide) rfl).1 (hO.m 7 (by show 7 < 17; decide) rfl).2 (hO.m 8 (by show 8 < 17; decide) rfl).1 (hO.m 8 (by show 8 < 17; decide) rfl).2 ((hO.m 13 (by show 13 < 17; decide) rfl).2 _ (by show _ ∈ [_]; simp)).1 ((hO.m 13 (by show 13 < 17; decide) rfl).2 _ (by show _ ∈ [_]; simp)).2 (hO.s 14 (by show 14 < 17; decide) rfl)
    rw [← laid_putL _ a v ?_] at hfin
    · exact hfin
    · intro p hp
      simp only [List.mem_cons, List.not_mem_nil, or_false] at hp
      rcases hp with rfl | rfl | rfl | rfl | rfl | rfl | rfl | rfl | rfl | rfl | rfl | rfl | rfl | rfl | rfl | rfl
      · rfl
      · rfl
      · rfl
      · rfl
      · rfl
      · rfl
      · rfl
      · rfl
      · rfl
      · rfl
      · rfl
      · rfl
      · rfl
      · exact hO.x 13 (show 13 < 17 by decide) 8 rfl
      · exact hO.x 15 (show 15 < 17 by decide) 9 rfl
      · exact hO.x 16 (show 16 < 17 by decide) 10 rfl
def region_tg9U : List (List Nat) := [[], [], [], [], [], [], [6], [6, 7], [6, 7], [6, 7], [6, 7], [6, 7], [12], [6, 7, 12], [6, 7], [6, 7]]
def region_tg9X (N M T L g2 q2 D : Nat) : Nat → (Nat → Hd) → Value
  | 0, _ => .pointer (some ⟨D, 0, none⟩)
  | 1, _ => .int .i64 (N : Int)
  | 2, _ => .pointer (some ⟨D, 0, none⟩)
  | 3, _ => .int .i64 (N : Int)
  | 4, _ => .int .i64 (M : Int)
  | 5, _ => .agg #[.int .i64 0, .int .i64 (M : Int), .int .i64 2, .int .i64 1]
  | 6, hds => .slice (some ⟨(hds 6).b, 0, none⟩) 1 1
  | 7, hds => .tuple #[.agg #[.int .i64 (N : Int), .slice (some ⟨(hds 7).b, 0, none⟩) T (hds 7).c], .int .i64 0, .int .i64 0]
  | 8, hds => .tuple #[.agg #[.int .i64 (N : Int), .slice (some ⟨(hds 7).b, 0, none⟩) T (hds 7).c], .int .i64 0, .int .i64 0]
  | 9, hds => .agg #[.int .i64 (N : Int), .slice (some ⟨(hds 7).b, 0, none⟩) T (hds 7).c]
  | 10, _ => .int .i64 0
  | 11, _ => .int .i64 0
  | 12, hds => .pointer (some ⟨(hds 12).b, 0, none⟩)
  | 13, _ => undef
  | 14, _ => .int .i64 0
  | 15, _ => .int .i64 0
  | _ + 16, _ => undef
theorem region_tg9X.congr (N M T L g2 q2 D : Nat) : ∀ i hds hds', (∀ r ∈ uOf region_tg9U i, hds r = hds' r) → region_tg9X N M T L g2 q2 D i hds = region_tg9X N M T L g2 q2 D i hds'
  | 0, _, _, _ => rfl
  | 1, _, _, _ => rfl
  | 2, _, _, _ => rfl
  | 3, _, _, _ => rfl
  | 4, _, _, _ => rfl
  | 5, _, _, _ => rfl
  | 6, hds, hds', h => by simp only [region_tg9X, h 6 (show 6 ∈ uOf region_tg9U 6 by decide)]
  | 7, hds, hds', h => by simp only [region_tg9X, h 7 (show 7 ∈ uOf region_tg9U 7 by decide)]
  | 8, hds, hds', h => by simp only [region_tg9X, h 7 (show 7 ∈ uOf region_tg9U 8 by decide)]
  | 9, hds, hds', h => by simp only [region_tg9X, h 7 (show 7 ∈ uOf region_tg9U 9 by decide)]
  | 10, _, _, _ => rfl
  | 11, _, _, _ => rfl
  | 12, hds, hds', h => by simp only [region_tg9X, h 12 (show 12 ∈ uOf region_tg9U 12 by decide)]
  | 13, _, _, _ => rfl
  | 14, _, _, _ => rfl
  | 15, _, _, _ => rfl
  | _ + 16, _, _, _ => rfl
def region_tg9M (N M T L g2 q2 D : Nat) : Nat → Mem
  | 6 => memBx #[.int .i64 0, .int .i64 (M : Int), .int .i64 2, .int .i64 1] 32
  | 7 => memNats (grpL M 2 1)
  | 12 => memBox 2 26
  | _ => memNone
def region_tg9S (N M T L g2 q2 D : Nat) : Nat → Option Sto
  | 13 => some ⟨12, 26, fun hds => #[.int .i64 (N : Int), .slice (some ⟨(hds 7).b, 0, none⟩) T (hds 7).c]⟩
  | _ => none
set_option maxRecDepth 8000 in
set_option maxHeartbeats 2000000 in
theorem region_tg9 {id : Nat} {ops : Array Oper} {Q : Exit → Act → World → Prop} {a : Act} {w : World} (N M T L g2 q2 D : Nat) (hKa : N ≤ M + 1) (hKb : M + 1 ≤ N) (hM24 : M < 24) (hT : onceT M 2 * 1 = T) (hT2 : T ≤ 96) (hD : BoxAt w D #[.int .i64 (N : Int), .slice (some ⟨g2, 0, none⟩) L q2] 37)
    (gsize : ops.size = 16)
    (gops : IsOp ops 0 (some 66) (.fieldAddr 37 (.tmp 5) 0) none [] ∧ IsOp ops 1 (some 67) (.load 3 (.tmp 66)) none [0] ∧ IsOp ops 2 (some 68) (.fieldAddr 37 (.tmp 5) 0) none [] ∧ IsOp ops 3 (some 69) (.load 3 (.tmp 68)) none [2] ∧ IsOp ops 4 (some 70) (.binOp .sub 3 (.tmp 69) (.const (.int .i64 1)) 3) none [3] ∧ IsOp ops 5 (some 71) (.call { callee := .value (.func 72), args := #[.const (.int .i64 0), .tmp 70, .const (.int .i64 2), .const (.int .i64 1)], argTypes := #[3, 3, 30, 3] }) none [4] ∧ IsOp ops 6 (some 72) (.buildSlice 22 1 #[(0, .tmp 71)]) none [5] ∧ IsOp ops 7 (some 73) (.call { callee := .value (.func 24), args := #[.tmp 67, .tmp 72], argTypes := #[3, 22] }) none [1, 6] ∧ IsOp ops 8 (some 65) (.move (.tmp 73)) none [7] ∧ IsOp ops 9 (some 74) (.extract (.tmp 65) 0) none [8] ∧ IsOp ops 10 (some 75) (.extract (.tmp 65) 1) none [8] ∧ IsOp ops 11 (some 76) (.extract (.tmp 65) 2) none [8] ∧ IsOp ops 12 (some 11) (.alloc 26) none [] ∧ IsOp ops 13 none (.store 26 (.tmp 11) (.tmp 74)) none [9, 12] ∧ IsOp ops 14 (some 12) (.assign (.tmp 75)) none [10] ∧ IsOp ops 15 (some 13) (.assign (.tmp 76)) none [11])
    (gbk : backB ops = true) (gds : dstsB ops (dOf [some 66, some 67, some 68, some 69, some 70, some 71, some 72, some 73, some 65, some 74, some 75, some 76, some 11, none, some 12, some 13]) = true) (gus : useB ops (uOf region_tg9U) (kOf [0, 0, 0, 0, 0, 0, 1, 1, 0, 0, 0, 0, 1, 14, 0, 0]) = true) (ggd : plainB ops = true) (gsz : ∀ e ∈ [66, 67, 68, 69, 70, 71, 72, 73, 65, 74, 75, 76, 11, 12, 13], e < a.tmps.size)
    (gout : a.eval (.tmp 5) = .pointer (some ⟨D, 0, none⟩))
    (gend : ∀ (g72 q72 G72 Q72 g73 q73 G73 Q73 g11 q11 G11 Q11 : Nat) (P72 P73 P11 : Option Addr) (u66 u67 u68 u69 u70 u71 u72 u73 u65 u74 u75 u76 : Value) (W : World), Below w.heap.size w W → (memBx #[.int .i64 0, .int .i64 (M : Int), .int .i64 2, .int .i64 1] 32).P ⟨g72, q72, G72, Q72, P72⟩ W → (∀ b ∈ (memBx #[.int .i64 0, .int .i64 (M : Int), .int .i64 2, .int .i64 1] 32).bl ⟨g72, q72, G72, Q72, P72⟩, w.heap.size ≤ b ∧ b < W.heap.size) → (memNats (grpL M 2 1)).P ⟨g73, q73, G73, Q73, P73⟩ W → (∀ b ∈ (memNats (grpL M 2 1)).bl ⟨g73, q73, G73, Q73, P73⟩, w.heap.size ≤ b ∧ b < W.heap.size) → w.heap.size ≤ g11 → g11 < W.heap.size → BoxAt W g11 #[.int .i64 (N : Int), .slice (some ⟨g73, 0, none⟩) T q73] 26 → Q .normal (putL a [(66, u66), (67, u67), (68, u68), (69, u69), (70, u70), (71, u71), (72, u72), (73, u73), (65, u65), (74, u74), (75, u75), (76, u76), (11, .pointer (some ⟨g11, 0, none⟩)), (12, .int .i64 0), (13, .int .i64 0)]) W) :
    (Code.region id ops true).wp Try.prog Q a w := by
  obtain ⟨iop0, iop1, iop2, iop3, iop4, iop5, iop6, iop7, iop8, iop9, iop10, iop11, iop12, iop13, iop14, iop15⟩ := gops
  have o5 := gout
  refine region_all (RSp.of 16 [some 66, some 67, some 68, some 69, some 70, some 71, some 72, some 73, some 65, some 74, some 75, some 76, some 11, none, some 12, some 13] (fun _ => true) (region_tg9X N M T L g2 q2 D) region_tg9U [0, 0, 0, 0, 0, 0, 1, 1, 0, 0, 0, 0, 1, 14, 0, 0] (region_tg9M N M T L g2 q2 D) (region_tg9S N M T L g2 q2 D)) [(5, .pointer (some ⟨D, 0, none⟩))] [66, 67, 68, 69, 70, 71, 72, 73, 65, 74, 75, 76, 11, 12, 13] (RSp.of_fit gsize.symm gbk gds gus ggd (by decide) ?_) (RSp.of_ok _ (region_tg9X.congr N M T L g2 q2 D) ?_) gsz ?_ ?_ ?_
  · intro p hp
    have hp2 : p ∈ [(13, 12)] := hp
    simp only [List.mem_cons, List.not_mem_nil, or_false] at hp2
    rcases hp2 with rfl
    · refine ⟨rfl, (show 12 ∈ uOf region_tg9U 13 by decide), fun _ => rfl, fun j hj hm => ?_⟩
      match j, hj with
      | 0, _ => rfl
      | 1, _ => rfl
      | 2, _ => rfl
      | 3, _ => rfl
      | 4, _ => rfl
      | 5, _ => rfl
      | 6, _ => rfl
      | 7, _ => rfl
      | 8, _ => rfl
      | 9, _ => rfl
      | 10, _ => rfl
      | 11, _ => rfl
      | 12, _ => rfl
      | 13, hj => exact absurd rfl hj
      | 14, _ => rfl
      | 15, _ => rfl
      | _ + 16, _ => rfl
  · intro i s hds
    match i, hds with
    | 0, hds => cases hds
    | 1, hds => cases hds
    | 2, hds => cases hds
    | 3, hds => cases hds
    | 4, hds => cases hds
    | 5, hds => cases hds
    | 6, hds => cases hds
    | 7, hds => cases hds
    | 8, hds => cases hds
    | 9, hds => cases hds
    | 10, hds => cases hds
    | 11, hds => cases hds
    | 12, hds => cases hds
    | 13, hds =>
      obtain rfl := Option.some.inj hds
      refine ⟨(show 12 ∈ uOf region_tg9U 13 by decide), fun _ => rfl, fun hds hds' h => ?_⟩
      simp only [h 7 (show 7 ∈ uOf region_tg9U 13 by decide)]
    | 14, hds => cases hds
    | 15, hds => cases hds
    | _ + 16, hds => cases hds
  · intro q hq
    simp only [List.mem_cons, List.not_mem_nil, or_false] at hq
    subst hq
    · exact ⟨o5, by simp⟩
  · intro i o ho _
    have hi : i < 16 := by rw [← gsize]; exact (Array.getElem?_eq_some_iff.1 ho).1
    match i, hi with
    | 0, _ =>
      obtain ⟨ty, pos, aft, e, hdp⟩ := iop0
      rw [e] at ho
      obtain rfl := Option.some.inj ho
      intro a' hds W K hB lq ld hmem hK
      have e5 : a'.eval (.tmp 5) = .pointer (some ⟨D, 0, none⟩) := by rw [eval_tmp]; exact lq (5, .pointer (some ⟨D, 0, none⟩)) (by simp)
      have t5 := (eval_tmp a' 5).symm.trans e5
      have HK := Lib.hid (show K (a'.put (some 66) (.pointer (some ⟨D, 0, none⟩))) W from hK W (Below.refl _ _) trivial)
      clear hK ld lq hmem
      unfold Oper.wp
      simp only [execOp, e5]
      go_simp
      exact HK.out
    | 1, _ =>
      obtain ⟨ty, pos, aft, e, hdp⟩ := iop1
      rw [e] at ho
      obtain rfl := Option.some.inj ho
      intro a' hds W K hB lq ld hmem hK
      have e66 : a'.eval (.tmp 66) = .pointer (some ⟨D, 0, none⟩) := by rw [eval_tmp]; exact ld 0 66 (List.all_eq_true.1 hdp 0 (by decide)) rfl
      have t66 := (eval_tmp a' 66).symm.trans e66
      have HK := Lib.hid (show K (a'.put (some 67) (.int .i64 (N : Int))) W from hK W (Below.refl _ _) trivial)
      clear hK ld lq hmem
      have c0 := (hD.next hB).cell' 0 rfl
      unfold Oper.wp
      simp only [execOp, e66]
      go_simp
      exact HK.out
    | 2, _ =>
      obtain ⟨ty, pos, aft, e, hdp⟩ := iop2
      rw [e] at ho
      obtain rfl := Option.some.inj ho
      intro a' hds W K hB lq ld hmem hK
      have e5 : a'.eval (.tmp 5) = .pointer (some ⟨D, 0, none⟩) := by rw [eval_tmp]; exact lq (5, .pointer (some ⟨D, 0, none⟩)) (by simp)
      have t5 := (eval_tmp a' 5).symm.trans e5
      have HK := Lib.hid (show K (a'.put (some 68) (.pointer (some ⟨D, 0, none⟩))) W from hK W (Below.refl _ _) trivial)
      clear hK ld lq hmem
      unfold Oper.wp
      simp only [execOp, e5]
      go_simp
      exact HK.out
    | 3, _ =>
      obtain ⟨ty, pos, aft, e, hdp⟩ := iop3
      rw [e] at ho
      obtain rfl := Option.some.inj ho
      intro a' hds W K hB lq ld hmem hK
      have e68 : a'.eval (.tmp 68) = .pointer (some ⟨D, 0, none⟩) := by rw [eval_tmp]; exact ld 2 68 (List.all_eq_true.1 hdp 2 (by decide)) rfl
      have t68 := (eval_tmp a' 68).symm.trans e68
      have HK := Lib.hid (show K (a'.put (some 69) (.int .i64 (N : Int))) W from hK W (Below.refl _ _) trivial)
      clear hK ld lq hmem
      have c0 := (hD.next hB).cell' 0 rfl
      unfold Oper.wp
      simp only [execOp, e68]
      go_simp
      exact HK.out
    | 4, _ =>
      obtain ⟨ty, pos, aft, e, hdp⟩ := iop4
      rw [e] at ho
      obtain rfl := Option.some.inj ho
      intro a' hds W K hB lq ld hmem hK
      have e69 : a'.eval (.tmp 69) = .int .i64 (N : Int) := by rw [eval_tmp]; exact ld 3 69 (List.all_eq_true.1 hdp 3 (by decide)) rfl
      have t69 := (eval_tmp a' 69).symm.trans e69
      have HK := Lib.hid (show K (a'.put (some 70) (.int .i64 (M : Int))) W from hK W (Below.refl _ _) trivial)
      clear hK ld lq hmem
      unfold Oper.wp
      simp only [execOp, e69]
      go_simp
      rw [(by rw [IntWalk.i64_in _ (by omega)]; omega : IntKind.i64.wrap ((N : Int) - 1) = (M : Int))]; exact HK.out
    | 5, _ =>
      obtain ⟨ty, pos, aft, e, hdp⟩ := iop5
      rw [e] at ho
      obtain rfl := Option.some.inj ho
      intro a' hds W K hB lq ld hmem hK
      have e70 : a'.eval (.tmp 70) = .int .i64 (M : Int) := by rw [eval_tmp]; exact ld 4 70 (List.all_eq_true.1 hdp 4 (by decide)) rfl
      have t70 := (eval_tmp a' 70).symm.trans e70
      have HK := Lib.hid (show ∀ W', Below W.heap.size W W' → K (a'.put (some 71) (.agg #[.int .i64 0, .int .i64 (M : Int), .int .i64 2, .int .i64 1])) W' from fun W' h => hK W' h trivial)
      clear hK ld lq hmem
      refine step_call (vals := #[.int .i64 0, .int .i64 (M : Int), .int .i64 2, .int .i64 1]) (by exact ⟨_, _, Try.func72, by kernel_rfl, rfl⟩) (by simp only [List.map_toArray, List.map_cons, List.map_nil, e70]; rfl) (call72 0 (M : Int) 2 1 W) ?_
      rintro e w' ⟨rfl, hb'⟩
      exact ⟨_, rfl, HK.out _ hb'⟩
    | 6, _ =>
      obtain ⟨ty, pos, aft, e, hdp⟩ := iop6
      rw [e] at ho
      obtain rfl := Option.some.inj ho
      intro a' hds W K hB lq ld hmem hK
      have e71 : a'.eval (.tmp 71) = .agg #[.int .i64 0, .int .i64 (M : Int), .int .i64 2, .int .i64 1] := by rw [eval_tmp]; exact ld 5 71 (List.all_eq_true.1 hdp 5 (by decide)) rfl
      have t71 := (eval_tmp a' 71).symm.trans e71
      have HK := Lib.hid (show ∀ hh W', Below W.heap.size W W' → (memBx #[.int .i64 0, .int .i64 (M : Int), .int .i64 2, .int .i64 1] 32).P hh W' → (∀ b ∈ (memBx #[.int .i64 0, .int .i64 (M : Int), .int .i64 2, .int .i64 1] 32).bl hh, W.heap.size ≤ b ∧ b < W'.heap.size) → K (a'.put (some 72) (.slice (some ⟨hh.b, 0, none⟩) 1 1)) W' from fun hh W' h1 h2 h3 => by
        have h4 : K (a'.put (some 72) (region_tg9X N M T L g2 q2 D 6 (updH hds 6 hh))) W' := hK hh W' h1 h2 h3 trivial
        simp only [region_tg9X, updH_same] at h4
        exact h4)
      clear hK ld lq hmem
      have hfin := Lib.hid (HK.out ⟨W.heap.size, 0, 0, 0, none⟩ _ ((Below.refl _ _).alloc (Nat.le_refl _) (.cells #[.int .i64 0, .int .i64 (M : Int), .int .i64 2, .int .i64 1] 32)) (BoxAt.new W #[.int .i64 0, .int .i64 (M : Int), .int .i64 2, .int .i64 1] 32) (bd_one (Nat.le_refl _) (by simp)))
      clear HK
      unfold Oper.wp
      simp only [execOp]
      go_simp
      exact hfin.out
    | 7, _ =>
      obtain ⟨ty, pos, aft, e, hdp⟩ := iop7
      rw [e] at ho
      obtain rfl := Option.some.inj ho
      intro a' hds W K hB lq ld hmem hK
      have e67 : a'.eval (.tmp 67) = .int .i64 (N : Int) := by rw [eval_tmp]; exact ld 1 67 (List.all_eq_true.1 hdp 1 (by decide)) rfl
      have t67 := (eval_tmp a' 67).symm.trans e67
      have e72 : a'.eval (.tmp 72) = .slice (some ⟨(hds 6).b, 0, none⟩) 1 1 := by rw [eval_tmp]; exact ld 6 72 (List.all_eq_true.1 hdp 6 (by decide)) rfl
      have t72 := (eval_tmp a' 72).symm.trans e72
      have HK := Lib.hid (show ∀ hh W', Below W.heap.size W W' → (memNats (grpL M 2 1)).P hh W' → (∀ b ∈ (memNats (grpL M 2 1)).bl hh, W.heap.size ≤ b ∧ b < W'.heap.size) → K (a'.put (some 73) (.tuple #[.agg #[.int .i64 (N : Int), .slice (some ⟨hh.b, 0, none⟩) T hh.c], .int .i64 0, .int .i64 0])) W' from fun hh W' h1 h2 h3 => by
        have h4 : K (a'.put (some 73) (region_tg9X N M T L g2 q2 D 7 (updH hds 7 hh))) W' := hK hh W' h1 h2 h3 trivial
        simp only [region_tg9X, updH_same] at h4
        exact h4)
      have m72   := (hmem 6 (show 6 ∈ uOf region_tg9U 7 by decide) (by decide)).1
      clear hK ld lq hmem
      refine step_call (vals := #[.int .i64 (N : Int), .slice (some ⟨(hds 6).b, 0, none⟩) 1 1]) (by exact ⟨_, _, Try.func24, by kernel_rfl, rfl⟩) (by simp only [List.map_toArray, List.map_cons, List.map_nil, e67, e72]) (call24g N M 2 1 T (hds 6).b W (by omega) hM24 (.inr rfl) ⟨by decide, by decide⟩ hT hT2 m72) ?_
      rintro e w' ⟨g, cap, rfl, hn, hl, hg, hb'⟩
      exact ⟨_, rfl, HK.out ⟨g, cap, 0, 0, none⟩ _ hb' ⟨hn, hg⟩ (bd_one hl hg)⟩
    | 8, _ =>
      obtain ⟨ty, pos, aft, e, hdp⟩ := iop8
      rw [e] at ho
      obtain rfl := Option.some.inj ho
      intro a' hds W K hB lq ld hmem hK
      have e73 : a'.eval (.tmp 73) = .tuple #[.agg #[.int .i64 (N : Int), .slice (some ⟨(hds 7).b, 0, none⟩) T (hds 7).c], .int .i64 0, .int .i64 0] := by rw [eval_tmp]; exact ld 7 73 (List.all_eq_true.1 hdp 7 (by decide)) rfl
      have t73 := (eval_tmp a' 73).symm.trans e73
      have HK := Lib.hid (show K (a'.put (some 65) (.tuple #[.agg #[.int .i64 (N : Int), .slice (some ⟨(hds 7).b, 0, none⟩) T (hds 7).c], .int .i64 0, .int .i64 0])) W from hK W (Below.refl _ _) trivial)
      clear hK ld lq hmem
      unfold Oper.wp
      simp only [execOp, e73]
      exact HK.out
    | 9, _ =>
      obtain ⟨ty, pos, aft, e, hdp⟩ := iop9
      rw [e] at ho
      obtain rfl := Option.some.inj ho
      intro a' hds W K hB lq ld hmem hK
      have e65 : a'.eval (.tmp 65) = .tuple #[.agg #[.int .i64 (N : Int), .slice (some ⟨(hds 7).b, 0, none⟩) T (hds 7).c], .int .i64 0, .int .i64 0] := by rw [eval_tmp]; exact ld 8 65 (List.all_eq_true.1 hdp 8 (by decide)) rfl
      have t65 := (eval_tmp a' 65).symm.trans e65
      have HK := Lib.hid (show K (a'.put (some 74) (.agg #[.int .i64 (N : Int), .slice (some ⟨(hds 7).b, 0, none⟩) T (hds 7).c])) W from hK W (Below.refl _ _) trivial)
      clear hK ld lq hmem
      unfold Oper.wp
      simp only [execOp, e65]
      exact HK.out
    | 10, _ =>
      obtain ⟨ty, pos, aft, e, hdp⟩ := iop10
      rw [e] at ho
      obtain rfl := Option.some.inj ho
      intro a' hds W K hB lq ld hmem hK
      have e65 : a'.eval (.tmp 65) = .tuple #[.agg #[.int .i64 (N : Int), .slice (some ⟨(hds 7).b, 0, none⟩) T (hds 7).c], .int .i64 0, .int .i64 0] := by rw [eval_tmp]; exact ld 8 65 (List.all_eq_true.1 hdp 8 (by decide)) rfl
      have t65 := (eval_tmp a' 65).symm.trans e65
      have HK := Lib.hid (show K (a'.put (some 75) (.int .i64 0)) W from hK W (Below.refl _ _) trivial)
      clear hK ld lq hmem
      unfold Oper.wp
      simp only [execOp, e65]
      exact HK.out
    | 11, _ =>
      obtain ⟨ty, pos, aft, e, hdp⟩ := iop11
      rw [e] at ho
      obtain rfl := Option.some.inj ho
      intro a' hds W K hB lq ld hmem hK
      have e65 : a'.eval (.tmp 65) = .tuple #[.agg #[.int .i64 (N : Int), .slice (some ⟨(hds 7).b, 0, none⟩) T (hds 7).c], .int .i64 0, .int .i64 0] := by rw [eval_tmp]; exact ld 8 65 (List.all_eq_true.1 hdp 8 (by decide)) rfl
      have t65 := (eval_tmp a' 65).symm.trans e65
      have HK := Lib.hid (show K (a'.put (some 76) (.int .i64 0)) W from hK W (Below.refl _ _) trivial)
      clear hK ld lq hmem
      unfold Oper.wp
      simp only [execOp, e65]
      exact HK.out
    | 12, _ =>
      obtain ⟨ty, pos, aft, e, hdp⟩ := iop12
      rw [e] at ho
      obtain rfl := Option.some.inj ho
      intro a' hds W K hB lq ld hmem hK
      have HK := Lib.hid (show ∀ hh W', Below W.heap.size W W' → (memBox 2 26).P hh W' → (∀ b ∈ (memBox 2 26).bl hh, W.heap.size ≤ b ∧ b < W'.heap.size) → K (a'.put (some 11) (.pointer (some ⟨hh.b, 0, none⟩))) W' from fun hh W' h1 h2 h3 => by
        have h4 : K (a'.put (some 11) (region_tg9X N M T L g2 q2 D 12 (updH hds 12 hh))) W' := hK hh W' h1 h2 h3 trivial
        simp only [region_tg9X, updH_same] at h4
        exact h4)
      clear hK ld lq hmem
      have hfin := Lib.hid (HK.out ⟨W.heap.size, 0, 0, 0, none⟩ _ ((Below.refl _ _).alloc (Nat.le_refl _) (.cells #[.int .i64 0, .slice none 0 0] 26)) ⟨_, rfl, BoxAt.new W #[.int .i64 0, .slice none 0 0] 26⟩ (bd_one (Nat.le_refl _) (by simp)))
      clear HK
      unfold Oper.wp
      simp only [execOp]
      go_simp
      exact hfin.out
    | 13, _ =>
      obtain ⟨ty, pos, aft, e, hdp⟩ := iop13
      rw [e] at ho
      obtain rfl := Option.some.inj ho
      intro a' hds W K hB lq ld hmem hK
      have e11 : a'.eval (.tmp 11) = .pointer (some ⟨(hds 12).b, 0, none⟩) := by rw [eval_tmp]; exact ld 12 11 (List.all_eq_true.1 hdp 12 (by decide)) rfl
      have t11 := (eval_tmp a' 11).symm.trans e11
      have e74 : a'.eval (.tmp 74) = .agg #[.int .i64 (N : Int), .slice (some ⟨(hds 7).b, 0, none⟩) T (hds 7).c] := by rw [eval_tmp]; exact ld 9 74 (List.all_eq_true.1 hdp 9 (by decide)) rfl
      have t74 := (eval_tmp a' 74).symm.trans e74
      obtain ⟨⟨vs, hvs, hbx⟩, _⟩ := hmem 12 (show 12 ∈ uOf region_tg9U 13 by decide) (by decide)
      have hvl : vs.toList.length = 2 := by simpa using hvs
      obtain ⟨v0, v1, rfl⟩ : ∃ v0 v1, vs = #[v0, v1] := by
        cases vs with
        | mk l =>
          match l, hvl with
          | [v0, v1], _ => exact ⟨_, _, rfl⟩
      have HK := Lib.hid (show ∀ W', SetAt (hds 12).b W W' → (memBox 2 26).P (hds 12) W' → BoxAt W' (hds 12).b #[.int .i64 (N : Int), .slice (some ⟨(hds 7).b, 0, none⟩) T (hds 7).c] 26 → K a' W' from hK)
      clear hK ld lq hmem
      have hfin := Lib.hid (HK.out _ (((SetAt.refl (hds 12).b W).cell 0 (.int .i64 (N : Int))).cell 1 (.slice (some ⟨(hds 7).b, 0, none⟩) T (hds 7).c)) ⟨_, rfl, ((hbx).set 0 (.int .i64 (N : Int))).set 1 (.slice (some ⟨(hds 7).b, 0, none⟩) T (hds 7).c)⟩ (((hbx).set 0 (.int .i64 (N : Int))).set 1 (.slice (some ⟨(hds 7).b, 0, none⟩) T (hds 7).c)))
      have c0 := hbx.cell' 0 rfl
      have f0 := hbx.frozen 0
      have c1 := hbx.cell' 1 rfl
      have f1 := hbx.frozen 1
      have hlt := hbx.lt
      clear hbx hvl hvs HK
      generalize (hds 12).b = B at *
      unfold Oper.wp
      simp only [execOp, e11, e74]
      clear e11 e74
      go_simp
      exact hfin.out
    | 14, _ =>
      obtain ⟨ty, pos, aft, e, hdp⟩ := iop14
      rw [e] at ho
      obtain rfl := Option.some.inj ho
      intro a' hds W K hB lq ld hmem hK
      have e75 : a'.eval (.tmp 75) = .int .i64 0 := by rw [eval_tmp]; exact ld 10 75 (List.all_eq_true.1 hdp 10 (by decide)) rfl
      have t75 := (eval_tmp a' 75).symm.trans e75
      have HK := Lib.hid (show K (a'.put (some 12) (.int .i64 0)) W from hK W (Below.refl _ _) trivial)
      clear hK ld lq hmem
      unfold Oper.wp
      simp only [execOp, e75]
      exact HK.out
    | 15, _ =>
      obtain ⟨ty, pos, aft, e, hdp⟩ := iop15
      rw [e] at ho
      obtain rfl := Option.some.inj ho
      intro a' hds W K hB lq ld hmem hK
      have e76 : a'.eval (.tmp 76) = .int .i64 0 := by rw [eval_tmp]; exact ld 11 76 (List.all_eq_true.1 hdp 11 (by decide)) rfl
      have t76 := (eval_tmp a' 76).symm.trans e76
      have HK := Lib.hid (show K (a'.put (some 13) (.int .i64 0)) W from hK W (Below.refl _ _) trivial)
      clear hK ld lq hmem
      unfold Oper.wp
      simp only [execOp, e76]
      exact HK.out
    | i + 16, h => omega
  · intro hds v W hO
    have hfin := gend (hds 6).b (hds 6).c (hds 6).b2 (hds 6).c2 (hds 7).b (hds 7).c (hds 7).b2 (hds 7).c2 (hds 12).b (hds 12).c (hds 12).b2 (hds 12).c2 (hds 6).p (hds 7).p (hds 12).p (v 66) (v 67) (v 68) (v 69) (v 70) (v 71) (v 72) (v 73) (v 65) (v 74) (v 75) (v 76) W hO.b (hO.m 6 (by show 6 < 16; decide) rfl).1 (hO.m 6 (by show 6 < 16; decide) rfl).2 (hO.m 7 (by show 7 < 16; decide) rfl).1 (hO.m 7 (by show 7 < 16; decide) rfl).2 ((hO.m 12 (by show 12 < 16; decide) rfl).2 _ (by show _ ∈ [_]; simp)).1 ((hO.m 12 (by show 12 < 16; decide) rfl).2 _ (by show _ ∈ [_]; simp)).2 (hO.s 13 (by show 13 < 16; decide) rfl)
    rw [← laid_putL _ a v ?_] at hfin
    · exact hfin
    · intro p hp
      simp only [List.mem_cons, List.not_mem_nil, or_false] at hp
      rcases hp with rfl | rfl | rfl | rfl | rfl | rfl | rfl | rfl | rfl | rfl | rfl | rfl | rfl | rfl | rfl
      · rfl
      · rfl
      · rfl
      · rfl
      · rfl
      · rfl
      · rfl
      · rfl
      · rfl
      · rfl
      · rfl
      · rfl
      · exact hO.x 12 (show 12 < 16 by decide) 11 rfl
      · exact hO.x 14 (show 14 < 16 by decide) 12 rfl
      · exact hO.x 15 (show 15 < 16 by decide) 13 rfl
def region_tg10U : List (List Nat) := [[], [], [2], [2, 3], [2, 3], [2, 3], [2, 3], [2, 3], [2, 3]]
def region_tg10X (N L g2 q2 D gh qh E T : Nat) (DS HS : List Nat) : Nat → (Nat → Hd) → Value
  | 0, _ => .agg #[.int .i64 (N : Int), .slice (some ⟨gh, 0, none⟩) T qh]
  | 1, _ => .agg #[.int .i64 (N : Int), .slice (some ⟨g2, 0, none⟩) L q2]
  | 2, hds => .agg #[.int .i64 (N : Int), .slice (some ⟨(hds 2).b, 0, none⟩) L (hds 2).c]
  | 3, hds => .tuple #[.slice (some ⟨(hds 3).b, 0, none⟩) L (hds 3).c, .int .i64 0]
  | 4, hds => .tuple #[.slice (some ⟨(hds 3).b, 0, none⟩) L (hds 3).c, .int .i64 0]
  | 5, hds => .slice (some ⟨(hds 3).b, 0, none⟩) L (hds 3).c
  | 6, _ => .int .i64 0
  | 7, hds => .slice (some ⟨(hds 3).b, 0, none⟩) L (hds 3).c
  | 8, _ => .int .i64 0
  | _ + 9, _ => undef
theorem region_tg10X.congr (N L g2 q2 D gh qh E T : Nat) (DS HS : List Nat) : ∀ i hds hds', (∀ r ∈ uOf region_tg10U i, hds r = hds' r) → region_tg10X N L g2 q2 D gh qh E T DS HS i hds = region_tg10X N L g2 q2 D gh qh E T DS HS i hds'
  | 0, _, _, _ => rfl
  | 1, _, _, _ => rfl
  | 2, hds, hds', h => by simp only [region_tg10X, h 2 (show 2 ∈ uOf region_tg10U 2 by decide)]
  | 3, hds, hds', h => by simp only [region_tg10X, h 3 (show 3 ∈ uOf region_tg10U 3 by decide)]
  | 4, hds, hds', h => by simp only [region_tg10X, h 3 (show 3 ∈ uOf region_tg10U 4 by decide)]
  | 5, hds, hds', h => by simp only [region_tg10X, h 3 (show 3 ∈ uOf region_tg10U 5 by decide)]
  | 6, _, _, _ => rfl
  | 7, hds, hds', h => by simp only [region_tg10X, h 3 (show 3 ∈ uOf region_tg10U 7 by decide)]
  | 8, _, _, _ => rfl
  | _ + 9, _, _, _ => rfl
def region_tg10M (N L g2 q2 D gh qh E T : Nat) (DS HS : List Nat) : Nat → Mem
  | 2 => memNats DS
  | 3 => memStrs (clothS HS DS)
  | _ => memNone
def region_tg10S (N L g2 q2 D gh qh E T : Nat) (DS HS : List Nat) : Nat → Option Sto
  | _ => none
set_option maxRecDepth 8000 in
set_option maxHeartbeats 2000000 in
theorem region_tg10 {id : Nat} {ops : Array Oper} {Q : Exit → Act → World → Prop} {a : Act} {w : World} (N L g2 q2 D gh qh E T : Nat) (DS HS : List Nat) (hDl : DS.length = L) (hVd : Valid N DS) (hn2 : NatsAt w g2 0 DS) (hg2 : g2 < w.heap.size) (hTl : HS.length = T) (hT0 : 1 ≤ T) (hT1 : T ≤ 96) (hk : ∀ i, i < T → nthN HS i < N) (hn6 : NatsAt w gh 0 HS) (hg6 : gh < w.heap.size) (hD : BoxAt w D #[.int .i64 (N : Int), .slice (some ⟨g2, 0, none⟩) L q2] 37) (hE : BoxAt w E #[.int .i64 (N : Int), .slice (some ⟨gh, 0, none⟩) T qh] 26)
    (gsize : ops.size = 9)
    (gops : IsOp ops 0 (some 78) (.load 26 (.tmp 8)) none [] ∧ IsOp ops 1 (some 79) (.load 37 (.tmp 5)) none [] ∧ IsOp ops 2 (some 80) (.call { callee := .value (.func 37), args := #[.tmp 79], argTypes := #[37] }) none [1] ∧ IsOp ops 3 (some 81) (.call { callee := .value (.func 38), args := #[.tmp 78, .tmp 80], argTypes := #[26, 37] }) none [0, 2] ∧ IsOp ops 4 (some 77) (.move (.tmp 81)) none [3] ∧ IsOp ops 5 (some 82) (.extract (.tmp 77) 0) none [4] ∧ IsOp ops 6 (some 83) (.extract (.tmp 77) 1) none [4] ∧ IsOp ops 7 (some 14) (.assign (.tmp 82)) none [5] ∧ IsOp ops 8 (some 15) (.assign (.tmp 83)) none [6])
    (gbk : backB ops = true) (gds : dstsB ops (dOf [some 78, some 79, some 80, some 81, some 77, some 82, some 83, some 14, some 15]) = true) (gus : useB ops (uOf region_tg10U) (kOf [0, 0, 1, 1, 0, 0, 0, 0, 0]) = true) (ggd : plainB ops = true) (gsz : ∀ e ∈ [78, 79, 80, 81, 77, 82, 83, 14, 15], e < a.tmps.size)
    (gout : a.eval (.tmp 8) = .pointer (some ⟨E, 0, none⟩) ∧ a.eval (.tmp 5) = .pointer (some ⟨D, 0, none⟩))
    (gend : ∀ (g80 q80 G80 Q80 g81 q81 G81 Q81 : Nat) (P80 P81 : Option Addr) (u78 u79 u80 u81 u77 u82 u83 : Value) (W : World), Below w.heap.size w W → (memNats DS).P ⟨g80, q80, G80, Q80, P80⟩ W → (∀ b ∈ (memNats DS).bl ⟨g80, q80, G80, Q80, P80⟩, w.heap.size ≤ b ∧ b < W.heap.size) → (memStrs (clothS HS DS)).P ⟨g81, q81, G81, Q81, P81⟩ W → (∀ b ∈ (memStrs (clothS HS DS)).bl ⟨g81, q81, G81, Q81, P81⟩, w.heap.size ≤ b ∧ b < W.heap.size) → Q .normal (putL a [(78, u78), (79, u79), (80, u80), (81, u81), (77, u77), (82, u82), (83, u83), (14, .slice (some ⟨g81, 0, none⟩) L q81), (15, .int .i64 0)]) W) :
    (Code.region id ops true).wp Try.prog Q a w := by
  obtain ⟨iop0, iop1, iop2, iop3, iop4, iop5, iop6, iop7, iop8⟩ := gops
  obtain ⟨o8, o5⟩ := gout
  refine region_all (RSp.of 9 [some 78, some 79, some 80, some 81, some 77, some 82, some 83, some 14, some 15] (fun _ => true) (region_tg10X N L g2 q2 D gh qh E T DS HS) region_tg10U [0, 0, 1, 1, 0, 0, 0, 0, 0] (region_tg10M N L g2 q2 D gh qh E T DS HS) (region_tg10S N L g2 q2 D gh qh E T DS HS)) [(8, .pointer (some ⟨E, 0, none⟩)), (5, .pointer (some ⟨D, 0, none⟩))] [78, 79, 80, 81, 77, 82, 83, 14, 15] (RSp.of_fit gsize.symm gbk gds gus ggd (by decide) ?_) (RSp.of_ok _ (region_tg10X.congr N L g2 q2 D gh qh E T DS HS) ?_) gsz ?_ ?_ ?_
  · intro p hp
    have hp2 : p ∈ ([] : List (Nat × Nat)) := hp
    cases hp2
  · intro i s hds
    match i, hds with
    | 0, hds => cases hds
    | 1, hds => cases hds
    | 2, hds => cases hds
    | 3, hds => cases hds
    | 4, hds => cases hds
    | 5, hds => cases hds
    | 6, hds => cases hds
    | 7, hds => cases hds
    | 8, hds => cases hds
    | _ + 9, hds => cases hds
  · intro q hq
    simp only [List.mem_cons, List.not_mem_nil, or_false] at hq
    rcases hq with rfl | rfl
    · exact ⟨o8, by simp⟩
    · exact ⟨o5, by simp⟩
  · intro i o ho _
    have hi : i < 9 := by rw [← gsize]; exact (Array.getElem?_eq_some_iff.1 ho).1
    match i, hi with
    | 0, _ =>
      obtain ⟨ty, pos, aft, e, hdp⟩ := iop0
      rw [e] at ho
      obtain rfl := Option.some.inj ho
      intro a' hds W K hB lq ld hmem hK
      have e8 : a'.eval (.tmp 8) = .pointer (some ⟨E, 0, none⟩) := by rw [eval_tmp]; exact lq (8, .pointer (some ⟨E, 0, none⟩)) (by simp)
      have t8 := (eval_tmp a' 8).symm.trans e8
      have HK := Lib.hid (show K (a'.put (some 78) (.agg #[.int .i64 (N : Int), .slice (some ⟨gh, 0, none⟩) T qh])) W from hK W (Below.refl _ _) trivial)
      clear hK ld lq hmem
      have c0 := (hE.next hB).cell' 0 rfl
      have c1 := (hE.next hB).cell' 1 rfl
      unfold Oper.wp
      simp only [execOp, e8]
      go_simp
      exact HK.out
    | 1, _ =>
      obtain ⟨ty, pos, aft, e, hdp⟩ := iop1
      rw [e] at ho
      obtain rfl := Option.some.inj ho
      intro a' hds W K hB lq ld hmem hK
      have e5 : a'.eval (.tmp 5) = .pointer (some ⟨D, 0, none⟩) := by rw [eval_tmp]; exact lq (5, .pointer (some ⟨D, 0, none⟩)) (by simp)
      have t5 := (eval_tmp a' 5).symm.trans e5
      have HK := Lib.hid (show K (a'.put (some 79) (.agg #[.int .i64 (N : Int), .slice (some ⟨g2, 0, none⟩) L q2])) W from hK W (Below.refl _ _) trivial)
      clear hK ld lq hmem
      have c0 := (hD.next hB).cell' 0 rfl
      have c1 := (hD.next hB).cell' 1 rfl
      unfold Oper.wp
      simp only [execOp, e5]
      go_simp
      exact HK.out
    | 2, _ =>
      obtain ⟨ty, pos, aft, e, hdp⟩ := iop2
      rw [e] at ho
      obtain rfl := Option.some.inj ho
      intro a' hds W K hB lq ld hmem hK
      have e79 : a'.eval (.tmp 79) = .agg #[.int .i64 (N : Int), .slice (some ⟨g2, 0, none⟩) L q2] := by rw [eval_tmp]; exact ld 1 79 (List.all_eq_true.1 hdp 1 (by decide)) rfl
      have t79 := (eval_tmp a' 79).symm.trans e79
      have HK := Lib.hid (show ∀ hh W', Below W.heap.size W W' → (memNats DS).P hh W' → (∀ b ∈ (memNats DS).bl hh, W.heap.size ≤ b ∧ b < W'.heap.size) → K (a'.put (some 80) (.agg #[.int .i64 (N : Int), .slice (some ⟨hh.b, 0, none⟩) L hh.c])) W' from fun hh W' h1 h2 h3 => by
        have h4 : K (a'.put (some 80) (region_tg10X N L g2 q2 D gh qh E T DS HS 2 (updH hds 2 hh))) W' := hK hh W' h1 h2 h3 trivial
        simp only [region_tg10X, updH_same] at h4
        exact h4)
      clear hK ld lq hmem
      refine step_call (vals := #[.agg #[.int .i64 (N : Int), .slice (some ⟨g2, 0, none⟩) L q2]]) (by exact ⟨_, _, Try.func37, by kernel_rfl, rfl⟩) (by simp only [List.map_toArray, List.map_cons, List.map_nil, e79]) (call37 N L g2 q2 DS W hDl hVd (hn2.below hB hg2) (Nat.lt_of_lt_of_le hg2 hB.size)) ?_
      rintro e w' ⟨g, cap, rfl, hn, hl, hg, hb'⟩
      exact ⟨_, rfl, HK.out ⟨g, cap, 0, 0, none⟩ _ hb' ⟨hn, hg⟩ (bd_one hl hg)⟩
    | 3, _ =>
      obtain ⟨ty, pos, aft, e, hdp⟩ := iop3
      rw [e] at ho
      obtain rfl := Option.some.inj ho
      intro a' hds W K hB lq ld hmem hK
      have e78 : a'.eval (.tmp 78) = .agg #[.int .i64 (N : Int), .slice (some ⟨gh, 0, none⟩) T qh] := by rw [eval_tmp]; exact ld 0 78 (List.all_eq_true.1 hdp 0 (by decide)) rfl
      have t78 := (eval_tmp a' 78).symm.trans e78
      have e80 : a'.eval (.tmp 80) = .agg #[.int .i64 (N : Int), .slice (some ⟨(hds 2).b, 0, none⟩) L (hds 2).c] := by rw [eval_tmp]; exact ld 2 80 (List.all_eq_true.1 hdp 2 (by decide)) rfl
      have t80 := (eval_tmp a' 80).symm.trans e80
      have HK := Lib.hid (show ∀ hh W', Below W.heap.size W W' → (memStrs (clothS HS DS)).P hh W' → (∀ b ∈ (memStrs (clothS HS DS)).bl hh, W.heap.size ≤ b ∧ b < W'.heap.size) → K (a'.put (some 81) (.tuple #[.slice (some ⟨hh.b, 0, none⟩) L hh.c, .int .i64 0])) W' from fun hh W' h1 h2 h3 => by
        have h4 : K (a'.put (some 81) (region_tg10X N L g2 q2 D gh qh E T DS HS 3 (updH hds 3 hh))) W' := hK hh W' h1 h2 h3 trivial
        simp only [region_tg10X, updH_same] at h4
        exact h4)
      have m80   := (hmem 2 (show 2 ∈ uOf region_tg10U 3 by decide) (by decide)).1
      clear hK ld lq hmem
      refine step_call (vals := #[.agg #[.int .i64 (N : Int), .slice (some ⟨gh, 0, none⟩) T qh], .agg #[.int .i64 (N : Int), .slice (some ⟨(hds 2).b, 0, none⟩) L (hds 2).c]]) (by exact ⟨_, _, Try.func38, by kernel_rfl, rfl⟩) (by simp only [List.map_toArray, List.map_cons, List.map_nil, e78, e80]) (call38 N T L gh qh (hds 2).b (hds 2).c HS DS W hTl hDl hT0 hT1 hk hVd (hn6.below hB hg6) (Nat.lt_of_lt_of_le hg6 hB.size) m80.1 m80.2) ?_
      rintro e w' ⟨g, cap, rfl, hn, hl, hg, hb'⟩
      exact ⟨_, rfl, HK.out ⟨g, cap, 0, 0, none⟩ _ hb' ⟨hn, hg⟩ (bd_one hl hg)⟩
    | 4, _ =>
      obtain ⟨ty, pos, aft, e, hdp⟩ := iop4
      rw [e] at ho
      obtain rfl := Option.some.inj ho
      intro a' hds W K hB lq ld hmem hK
      have e81 : a'.eval (.tmp 81) = .tuple #[.slice (some ⟨(hds 3).b, 0, none⟩) L (hds 3).c, .int .i64 0] := by rw [eval_tmp]; exact ld 3 81 (List.all_eq_true.1 hdp 3 (by decide)) rfl
      have t81 := (eval_tmp a' 81).symm.trans e81
      have HK := Lib.hid (show K (a'.put (some 77) (.tuple #[.slice (some ⟨(hds 3).b, 0, none⟩) L (hds 3).c, .int .i64 0])) W from hK W (Below.refl _ _) trivial)
      clear hK ld lq hmem
      unfold Oper.wp
      simp only [execOp, e81]
      exact HK.out
    | 5, _ =>
      obtain ⟨ty, pos, aft, e, hdp⟩ := iop5
      rw [e] at ho
      obtain rfl := Option.some.inj ho
      intro a' hds W K hB lq ld hmem hK
      have e77 : a'.eval (.tmp 77) = .tuple #[.slice (some ⟨(hds 3).b, 0, none⟩) L (hds 3).c, .int .i64 0] := by rw [eval_tmp]; exact ld 4 77 (List.all_eq_true.1 hdp 4 (by decide)) rfl
      have t77 := (eval_tmp a' 77).symm.trans e77
      have HK := Lib.hid (show K (a'.put (some 82) (.slice (some ⟨(hds 3).b, 0, none⟩) L (hds 3).c)) W from hK W (Below.refl _ _) trivial)
      clear hK ld lq hmem
      unfold Oper.wp
      simp only [execOp, e77]
      exact HK.out
    | 6, _ =>
      obtain ⟨ty, pos, aft, e, hdp⟩ := iop6
      rw [e] at ho
      obtain rfl := Option.some.inj ho
      intro a' hds W K hB lq ld hmem hK
      have e77 : a'.eval (.tmp 77) = .tuple #[.slice (some ⟨(hds 3).b, 0, none⟩) L (hds 3).c, .int .i64 0] := by rw [eval_tmp]; exact ld 4 77 (List.all_eq_true.1 hdp 4 (by decide)) rfl
      have t77 := (eval_tmp a' 77).symm.trans e77
      have HK := Lib.hid (show K (a'.put (some 83) (.int .i64 0)) W from hK W (Below.refl _ _) trivial)
      clear hK ld lq hmem
      unfold Oper.wp
      simp only [execOp, e77]
      exact HK.out
    | 7, _ =>
      obtain ⟨ty, pos, aft, e, hdp⟩ := iop7
      rw [e] at ho
      obtain rfl := Option.some.inj ho
      intro a' hds W K hB lq ld hmem hK
      have e82 : a'.eval (.tmp 82) = .slice (some ⟨(hds 3).b, 0, none⟩) L (hds 3).c := by rw [eval_tmp]; exact ld 5 82 (List.all_eq_true.1 hdp 5 (by decide)) rfl
      have t82 := (eval_tmp a' 82).symm.trans e82
      have HK := Lib.hid (show K (a'.put (some 14) (.slice (some ⟨(hds 3).b, 0, none⟩) L (hds 3).c)) W from hK W (Below.refl _ _) trivial)
      clear hK ld lq hmem
      unfold Oper.wp
      simp only [execOp, e82]
      exact HK.out
    | 8, _ =>
      obtain ⟨ty, pos, aft, e, hdp⟩ := iop8
      rw [e] at ho
      obtain rfl := Option.some.inj ho
      intro a' hds W K hB lq ld hmem hK
      have e83 : a'.eval (.tmp 83) = .int .i64 0 := by rw [eval_tmp]; exact ld 6 83 (List.all_eq_true.1 hdp 6 (by decide)) rfl
      have t83 := (eval_tmp a' 83).symm.trans e83
      have HK := Lib.hid (show K (a'.put (some 15) (.int .i64 0)) W from hK W (Below.refl _ _) trivial)
      clear hK ld lq hmem
      unfold Oper.wp
      simp only [execOp, e83]
      exact HK.out
    | i + 9, h => omega
  · intro hds v W hO
    have hfin := gend (hds 2).b (hds 2).c (hds 2).b2 (hds 2).c2 (hds 3).b (hds 3).c (hds 3).b2 (hds 3).c2 (hds 2).p (hds 3).p (v 78) (v 79) (v 80) (v 81) (v 77) (v 82) (v 83) W hO.b (hO.m 2 (by show 2 < 9; decide) rfl).1 (hO.m 2 (by show 2 < 9; decide) rfl).2 (hO.m 3 (by show 3 < 9; decide) rfl).1 (hO.m 3 (by show 3 < 9; decide) rfl).2
    rw [← laid_putL _ a v ?_] at hfin
    · exact hfin
    · intro p hp
      simp only [List.mem_cons, List.not_mem_nil, or_false] at hp
      rcases hp with rfl | rfl | rfl | rfl | rfl | rfl | rfl | rfl | rfl
      · rfl
      · rfl
      · rfl
      · rfl
      · rfl
      · rfl
      · rfl
      · exact hO.x 7 (show 7 < 9 by decide) 14 rfl
      · exact hO.x 8 (show 8 < 9 by decide) 15 rfl
def region_tg11U : List (List Nat) := [[], [], [2], [2, 3], [2, 3], [2, 3], [2, 3], [2, 3], [2, 3]]
def region_tg11X (N L g2 q2 D gh qh E T : Nat) (DS HS : List Nat) : Nat → (Nat → Hd) → Value
  | 0, _ => .agg #[.int .i64 (N : Int), .slice (some ⟨gh, 0, none⟩) T qh]
  | 1, _ => .agg #[.int .i64 (N : Int), .slice (some ⟨g2, 0, none⟩) L q2]
  | 2, hds => .agg #[.int .i64 (N : Int), .slice (some ⟨(hds 2).b, 0, none⟩) L (hds 2).c]
  | 3, hds => .tuple #[.slice (some ⟨(hds 3).b, 0, none⟩) L (hds 3).c, .int .i64 0]
  | 4, hds => .tuple #[.slice (some ⟨(hds 3).b, 0, none⟩) L (hds 3).c, .int .i64 0]
  | 5, hds => .slice (some ⟨(hds 3).b, 0, none⟩) L (hds 3).c
  | 6, _ => .int .i64 0
  | 7, hds => .slice (some ⟨(hds 3).b, 0, none⟩) L (hds 3).c
  | 8, _ => .int .i64 0
  | _ + 9, _ => undef
theorem region_tg11X.congr (N L g2 q2 D gh qh E T : Nat) (DS HS : List Nat) : ∀ i hds hds', (∀ r ∈ uOf region_tg11U i, hds r = hds' r) → region_tg11X N L g2 q2 D gh qh E T DS HS i hds = region_tg11X N L g2 q2 D gh qh E T DS HS i hds'
  | 0, _, _, _ => rfl
  | 1, _, _, _ => rfl
  | 2, hds, hds', h => by simp only [region_tg11X, h 2 (show 2 ∈ uOf region_tg11U 2 by decide)]
  | 3, hds, hds', h => by simp only [region_tg11X, h 3 (show 3 ∈ uOf region_tg11U 3 by decide)]
  | 4, hds, hds', h => by simp only [region_tg11X, h 3 (show 3 ∈ uOf region_tg11U 4 by decide)]
  | 5, hds, hds', h => by simp only [region_tg11X, h 3 (show 3 ∈ uOf region_tg11U 5 by decide)]
  | 6, _, _, _ => rfl
  | 7, hds, hds', h => by simp only [region_tg11X, h 3 (show 3 ∈ uOf region_tg11U 7 by decide)]
  | 8, _, _, _ => rfl
  | _ + 9, _, _, _ => rfl
def region_tg11M (N L g2 q2 D gh qh E T : Nat) (DS HS : List Nat) : Nat → Mem
  | 2 => memNats DS
  | 3 => memStrs (clothS HS DS)
  | _ => memNone
def region_tg11S (N L g2 q2 D gh qh E T : Nat) (DS HS : List Nat) : Nat → Option Sto
  | _ => none
set_option maxRecDepth 8000 in
set_option maxHeartbeats 2000000 in
theorem region_tg11 {id : Nat} {ops : Array Oper} {Q : Exit → Act → World → Prop} {a : Act} {w : World} (N L g2 q2 D gh qh E T : Nat) (DS HS : List Nat) (hDl : DS.length = L) (hVd : Valid N DS) (hn2 : NatsAt w g2 0 DS) (hg2 : g2 < w.heap.size) (hTl : HS.length = T) (hT0 : 1 ≤ T) (hT1 : T ≤ 96) (hk : ∀ i, i < T → nthN HS i < N) (hn6 : NatsAt w gh 0 HS) (hg6 : gh < w.heap.size) (hD : BoxAt w D #[.int .i64 (N : Int), .slice (some ⟨g2, 0, none⟩) L q2] 37) (hE : BoxAt w E #[.int .i64 (N : Int), .slice (some ⟨gh, 0, none⟩) T qh] 26)
    (gsize : ops.size = 9)
    (gops : IsOp ops 0 (some 85) (.load 26 (.tmp 11)) none [] ∧ IsOp ops 1 (some 86) (.load 37 (.tmp 5)) none [] ∧ IsOp ops 2 (some 87) (.call { callee := .value (.func 37), args := #[.tmp 86], argTypes := #[37] }) none [1] ∧ IsOp ops 3 (some 88) (.call { callee := .value (.func 38), args := #[.tmp 85, .tmp 87], argTypes := #[26, 37] }) none [0, 2] ∧ IsOp ops 4 (some 84) (.move (.tmp 88)) none [3] ∧ IsOp ops 5 (some 89) (.extract (.tmp 84) 0) none [4] ∧ IsOp ops 6 (some 90) (.extract (.tmp 84) 1) none [4] ∧ IsOp ops 7 (some 16) (.assign (.tmp 89)) none [5] ∧ IsOp ops 8 (some 17) (.assign (.tmp 90)) none [6])
    (gbk : backB ops = true) (gds : dstsB ops (dOf [some 85, some 86, some 87, some 88, some 84, some 89, some 90, some 16, some 17]) = true) (gus : useB ops (uOf region_tg11U) (kOf [0, 0, 1, 1, 0, 0, 0, 0, 0]) = true) (ggd : plainB ops = true) (gsz : ∀ e ∈ [85, 86, 87, 88, 84, 89, 90, 16, 17], e < a.tmps.size)
    (gout : a.eval (.tmp 11) = .pointer (some ⟨E, 0, none⟩) ∧ a.eval (.tmp 5) = .pointer (some ⟨D, 0, none⟩))
    (gend : ∀ (g87 q87 G87 Q87 g88 q88 G88 Q88 : Nat) (P87 P88 : Option Addr) (u85 u86 u87 u88 u84 u89 u90 : Value) (W : World), Below w.heap.size w W → (memNats DS).P ⟨g87, q87, G87, Q87, P87⟩ W → (∀ b ∈ (memNats DS).bl ⟨g87, q87, G87, Q87, P87⟩, w.heap.size ≤ b ∧ b < W.heap.size) → (memStrs (clothS HS DS)).P ⟨g88, q88, G88, Q88, P88⟩ W → (∀ b ∈ (memStrs (clothS HS DS)).bl ⟨g88, q88, G88, Q88, P88⟩, w.heap.size ≤ b ∧ b < W.heap.size) → Q .normal (putL a [(85, u85), (86, u86), (87, u87), (88, u88), (84, u84), (89, u89), (90, u90), (16, .slice (some ⟨g88, 0, none⟩) L q88), (17, .int .i64 0)]) W) :
    (Code.region id ops true).wp Try.prog Q a w := by
  obtain ⟨iop0, iop1, iop2, iop3, iop4, iop5, iop6, iop7, iop8⟩ := gops
  obtain ⟨o11, o5⟩ := gout
  refine region_all (RSp.of 9 [some 85, some 86, some 87, some 88, some 84, some 89, some 90, some 16, some 17] (fun _ => true) (region_tg11X N L g2 q2 D gh qh E T DS HS) region_tg11U [0, 0, 1, 1, 0, 0, 0, 0, 0] (region_tg11M N L g2 q2 D gh qh E T DS HS) (region_tg11S N L g2 q2 D gh qh E T DS HS)) [(11, .pointer (some ⟨E, 0, none⟩)), (5, .pointer (some ⟨D, 0, none⟩))] [85, 86, 87, 88, 84, 89, 90, 16, 17] (RSp.of_fit gsize.symm gbk gds gus ggd (by decide) ?_) (RSp.of_ok _ (region_tg11X.congr N L g2 q2 D gh qh E T DS HS) ?_) gsz ?_ ?_ ?_
  · intro p hp
    have hp2 : p ∈ ([] : List (Nat × Nat)) := hp
    cases hp2
  · intro i s hds
    match i, hds with
    | 0, hds => cases hds
    | 1, hds => cases hds
    | 2, hds => cases hds
    | 3, hds => cases hds
    | 4, hds => cases hds
    | 5, hds => cases hds
    | 6, hds => cases hds
    | 7, hds => cases hds
    | 8, hds => cases hds
    | _ + 9, hds => cases hds
  · intro q hq
    simp only [List.mem_cons, List.not_mem_nil, or_false] at hq
    rcases hq with rfl | rfl
    · exact ⟨o11, by simp⟩
    · exact ⟨o5, by simp⟩
  · intro i o ho _
    have hi : i < 9 := by rw [← gsize]; exact (Array.getElem?_eq_some_iff.1 ho).1
    match i, hi with
    | 0, _ =>
      obtain ⟨ty, pos, aft, e, hdp⟩ := iop0
      rw [e] at ho
      obtain rfl := Option.some.inj ho
      intro a' hds W K hB lq ld hmem hK
      have e11 : a'.eval (.tmp 11) = .pointer (some ⟨E, 0, none⟩) := by rw [eval_tmp]; exact lq (11, .pointer (some ⟨E, 0, none⟩)) (by simp)
      have t11 := (eval_tmp a' 11).symm.trans e11
      have HK := Lib.hid (show K (a'.put (some 85) (.agg #[.int .i64 (N : Int), .slice (some ⟨gh, 0, none⟩) T qh])) W from hK W (Below.refl _ _) trivial)
      clear hK ld lq hmem
      have c0 := (hE.next hB).cell' 0 rfl
      have c1 := (hE.next hB).cell' 1 rfl
      unfold Oper.wp
      simp only [execOp, e11]
      go_simp
      exact HK.out
    | 1, _ =>
      obtain ⟨ty, pos, aft, e, hdp⟩ := iop1
      rw [e] at ho
      obtain rfl := Option.some.inj ho
      intro a' hds W K hB lq ld hmem hK
      have e5 : a'.eval (.tmp 5) = .pointer (some ⟨D, 0, none⟩) := by rw [eval_tmp]; exact lq (5, .pointer (some ⟨D, 0, none⟩)) (by simp)
      have t5 := (eval_tmp a' 5).symm.trans e5
      have HK := Lib.hid (show K (a'.put (some 86) (.agg #[.int .i64 (N : Int), .slice (some ⟨g2, 0, none⟩) L q2])) W from hK W (Below.refl _ _) trivial)
      clear hK ld lq hmem
      have c0 := (hD.next hB).cell' 0 rfl
      have c1 := (hD.next hB).cell' 1 rfl
      unfold Oper.wp
      simp only [execOp, e5]
      go_simp
      exact HK.out
    | 2, _ =>
      obtain ⟨ty, pos, aft, e, hdp⟩ := iop2
      rw [e] at ho
      obtain rfl := Option.some.inj ho
      intro a' hds W K hB lq ld hmem hK
      have e86 : a'.eval (.tmp 86) = .agg #[.int .i64 (N : Int), .slice (some ⟨g2, 0, none⟩) L q2] := by rw [eval_tmp]; exact ld 1 86 (List.all_eq_true.1 hdp 1 (by decide)) rfl
      have t86 := (eval_tmp a' 86).symm.trans e86
      have HK := Lib.hid (show ∀ hh W', Below W.heap.size W W' → (memNats DS).P hh W' → (∀ b ∈ (memNats DS).bl hh, W.heap.size ≤ b ∧ b < W'.heap.size) → K (a'.put (some 87) (.agg #[.int .i64 (N : Int), .slice (some ⟨hh.b, 0, none⟩) L hh.c])) W' from fun hh W' h1 h2 h3 => by
        have h4 : K (a'.put (some 87) (region_tg11X N L g2 q2 D gh qh E T DS HS 2 (updH hds 2 hh))) W' := hK hh W' h1 h2 h3 trivial
        simp only [region_tg11X, updH_same] at h4
        exact h4)
      clear hK ld lq hmem
      refine step_call (vals := #[.agg #[.int .i64 (N : Int), .slice (some ⟨g2, 0, none⟩) L q2]]) (by exact ⟨_, _, Try.func37, by kernel_rfl, rfl⟩) (by simp only [List.map_toArray, List.map_cons, List.map_nil, e86]) (call37 N L g2 q2 DS W hDl hVd (hn2.below hB hg2) (Nat.lt_of_lt_of_le hg2 hB.size)) ?_
      rintro e w' ⟨g, cap, rfl, hn, hl, hg, hb'⟩
      exact ⟨_, rfl, HK.out ⟨g, cap, 0, 0, none⟩ _ hb' ⟨hn, hg⟩ (bd_one hl hg)⟩
    | 3, _ =>
      obtain ⟨ty, pos, aft, e, hdp⟩ := iop3
      rw [e] at ho
      obtain rfl := Option.some.inj ho
      intro a' hds W K hB lq ld hmem hK
      have e85 : a'.eval (.tmp 85) = .agg #[.int .i64 (N : Int), .slice (some ⟨gh, 0, none⟩) T qh] := by rw [eval_tmp]; exact ld 0 85 (List.all_eq_true.1 hdp 0 (by decide)) rfl
      have t85 := (eval_tmp a' 85).symm.trans e85
      have e87 : a'.eval (.tmp 87) = .agg #[.int .i64 (N : Int), .slice (some ⟨(hds 2).b, 0, none⟩) L (hds 2).c] := by rw [eval_tmp]; exact ld 2 87 (List.all_eq_true.1 hdp 2 (by decide)) rfl
      have t87 := (eval_tmp a' 87).symm.trans e87
      have HK := Lib.hid (show ∀ hh W', Below W.heap.size W W' → (memStrs (clothS HS DS)).P hh W' → (∀ b ∈ (memStrs (clothS HS DS)).bl hh, W.heap.size ≤ b ∧ b < W'.heap.size) → K (a'.put (some 88) (.tuple #[.slice (some ⟨hh.b, 0, none⟩) L hh.c, .int .i64 0])) W' from fun hh W' h1 h2 h3 => by
        have h4 : K (a'.put (some 88) (region_tg11X N L g2 q2 D gh qh E T DS HS 3 (updH hds 3 hh))) W' := hK hh W' h1 h2 h3 trivial
        simp only [region_tg11X, updH_same] at h4
        exact h4)
      have m87   := (hmem 2 (show 2 ∈ uOf region_tg11U 3 by decide) (by decide)).1
      clear hK ld lq hmem
      refine step_call (vals := #[.agg #[.int .i64 (N : Int), .slice (some ⟨gh, 0, none⟩) T qh], .agg #[.int .i64 (N : Int), .slice (some ⟨(hds 2).b, 0, none⟩) L (hds 2).c]]) (by exact ⟨_, _, Try.func38, by kernel_rfl, rfl⟩) (by simp only [List.map_toArray, List.map_cons, List.map_nil, e85, e87]) (call38 N T L gh qh (hds 2).b (hds 2).c HS DS W hTl hDl hT0 hT1 hk hVd (hn6.below hB hg6) (Nat.lt_of_lt_of_le hg6 hB.size) m87.1 m87.2) ?_
      rintro e w' ⟨g, cap, rfl, hn, hl, hg, hb'⟩
      exact ⟨_, rfl, HK.out ⟨g, cap, 0, 0, none⟩ _ hb' ⟨hn, hg⟩ (bd_one hl hg)⟩
    | 4, _ =>
      obtain ⟨ty, pos, aft, e, hdp⟩ := iop4
      rw [e] at ho
      obtain rfl := Option.some.inj ho
      intro a' hds W K hB lq ld hmem hK
      have e88 : a'.eval (.tmp 88) = .tuple #[.slice (some ⟨(hds 3).b, 0, none⟩) L (hds 3).c, .int .i64 0] := by rw [eval_tmp]; exact ld 3 88 (List.all_eq_true.1 hdp 3 (by decide)) rfl
      have t88 := (eval_tmp a' 88).symm.trans e88
      have HK := Lib.hid (show K (a'.put (some 84) (.tuple #[.slice (some ⟨(hds 3).b, 0, none⟩) L (hds 3).c, .int .i64 0])) W from hK W (Below.refl _ _) trivial)
      clear hK ld lq hmem
      unfold Oper.wp
      simp only [execOp, e88]
      exact HK.out
    | 5, _ =>
      obtain ⟨ty, pos, aft, e, hdp⟩ := iop5
      rw [e] at ho
      obtain rfl := Option.some.inj ho
      intro a' hds W K hB lq ld hmem hK
      have e84 : a'.eval (.tmp 84) = .tuple #[.slice (some ⟨(hds 3).b, 0, none⟩) L (hds 3).c, .int .i64 0] := by rw [eval_tmp]; exact ld 4 84 (List.all_eq_true.1 hdp 4 (by decide)) rfl
      have t84 := (eval_tmp a' 84).symm.trans e84
      have HK := Lib.hid (show K (a'.put (some 89) (.slice (some ⟨(hds 3).b, 0, none⟩) L (hds 3).c)) W from hK W (Below.refl _ _) trivial)
      clear hK ld lq hmem
      unfold Oper.wp
      simp only [execOp, e84]
      exact HK.out
    | 6, _ =>
      obtain ⟨ty, pos, aft, e, hdp⟩ := iop6
      rw [e] at ho
      obtain rfl := Option.some.inj ho
      intro a' hds W K hB lq ld hmem hK
      have e84 : a'.eval (.tmp 84) = .tuple #[.slice (some ⟨(hds 3).b, 0, none⟩) L (hds 3).c, .int .i64 0] := by rw [eval_tmp]; exact ld 4 84 (List.all_eq_true.1 hdp 4 (by decide)) rfl
      have t84 := (eval_tmp a' 84).symm.trans e84
      have HK := Lib.hid (show K (a'.put (some 90) (.int .i64 0)) W from hK W (Below.refl _ _) trivial)
      clear hK ld lq hmem
      unfold Oper.wp
      simp only [execOp, e84]
      exact HK.out
    | 7, _ =>
      obtain ⟨ty, pos, aft, e, hdp⟩ := iop7
      rw [e] at ho
      obtain rfl := Option.some.inj ho
      intro a' hds W K hB lq ld hmem hK
      have e89 : a'.eval (.tmp 89) = .slice (some ⟨(hds 3).b, 0, none⟩) L (hds 3).c := by rw [eval_tmp]; exact ld 5 89 (List.all_eq_true.1 hdp 5 (by decide)) rfl
      have t89 := (eval_tmp a' 89).symm.trans e89
      have HK := Lib.hid (show K (a'.put (some 16) (.slice (some ⟨(hds 3).b, 0, none⟩) L (hds 3).c)) W from hK W (Below.refl _ _) trivial)
      clear hK ld lq hmem
      unfold Oper.wp
      simp only [execOp, e89]
      exact HK.out
    | 8, _ =>
      obtain ⟨ty, pos, aft, e, hdp⟩ := iop8
      rw [e] at ho
      obtain rfl := Option.some.inj ho
      intro a' hds W K hB lq ld hmem hK
      have e90 : a'.eval (.tmp 90) = .int .i64 0 := by rw [eval_tmp]; exact ld 6 90 (List.all_eq_true.1 hdp 6 (by decide)) rfl
      have t90 := (eval_tmp a' 90).symm.trans e90
      have HK := Lib.hid (show K (a'.put (some 17) (.int .i64 0)) W from hK W (Below.refl _ _) trivial)
      clear hK ld lq hmem
      unfold Oper.wp
      simp only [execOp, e90]
      exact HK.out
    | i + 9, h => omega
  · intro hds v W hO
    have hfin := gend (hds 2).b (hds 2).c (hds 2).b2 (hds 2).c2 (hds 3).b (hds 3).c (hds 3).b2 (hds 3).c2 (hds 2).p (hds 3).p (v 85) (v 86) (v 87) (v 88) (v 84) (v 89) (v 90) W hO.b (hO.m 2 (by show 2 < 9; decide) rfl).1 (hO.m 2 (by show 2 < 9; decide) rfl).2 (hO.m 3 (by show 3 < 9; decide) rfl).1 (hO.m 3 (by show 3 < 9; decide) rfl).2
    rw [← laid_putL _ a v ?_] at hfin
    · exact hfin
    · intro p hp
      simp only [List.mem_cons, List.not_mem_nil, or_false] at hp
      rcases hp with rfl | rfl | rfl | rfl | rfl | rfl | rfl | rfl | rfl
      · rfl
      · rfl
      · rfl
      · rfl
      · rfl
      · rfl
      · rfl
      · exact hO.x 7 (show 7 < 9 by decide) 16 rfl
      · exact hO.x 8 (show 8 < 9 by decide) 17 rfl
def region_tg14U : List (List Nat) := [[], [1], [], [3], [1, 3, 4], [1, 3, 4], [1, 3, 4], [1, 3, 4], [8], [1, 3, 4, 8], [1, 3, 4]]
def region_tg14X (N N2 L g2 q2 D : Nat) (DS : List Nat) : Nat → (Nat → Hd) → Value
  | 0, _ => .agg #[.int .i64 (N : Int), .slice (some ⟨g2, 0, none⟩) L q2]
  | 1, hds => .agg #[.int .i64 (N : Int), .slice (some ⟨(hds 1).b, 0, none⟩) L (hds 1).c]
  | 2, _ => .agg #[.int .i64 (N : Int), .slice (some ⟨g2, 0, none⟩) L q2]
  | 3, hds => .agg #[.int .i64 (N : Int), .slice (some ⟨(hds 3).b, 0, none⟩) L (hds 3).c]
  | 4, hds => .tuple #[.agg #[.int .i64 (N2 : Int), .slice (some ⟨(hds 4).b, 0, none⟩) L (hds 4).c], .int .i64 0]
  | 5, hds => .tuple #[.agg #[.int .i64 (N2 : Int), .slice (some ⟨(hds 4).b, 0, none⟩) L (hds 4).c], .int .i64 0]
  | 6, hds => .agg #[.int .i64 (N2 : Int), .slice (some ⟨(hds 4).b, 0, none⟩) L (hds 4).c]
  | 7, _ => .int .i64 0
  | 8, hds => .pointer (some ⟨(hds 8).b, 0, none⟩)
  | 9, _ => undef
  | 10, _ => .int .i64 0
  | _ + 11, _ => undef
theorem region_tg14X.congr (N N2 L g2 q2 D : Nat) (DS : List Nat) : ∀ i hds hds', (∀ r ∈ uOf region_tg14U i, hds r = hds' r) → region_tg14X N N2 L g2 q2 D DS i hds = region_tg14X N N2 L g2 q2 D DS i hds'
  | 0, _, _, _ => rfl
  | 1, hds, hds', h => by simp only [region_tg14X, h 1 (show 1 ∈ uOf region_tg14U 1 by decide)]
  | 2, _, _, _ => rfl
  | 3, hds, hds', h => by simp only [region_tg14X, h 3 (show 3 ∈ uOf region_tg14U 3 by decide)]
  | 4, hds, hds', h => by simp only [region_tg14X, h 4 (show 4 ∈ uOf region_tg14U 4 by decide)]
  | 5, hds, hds', h => by simp only [region_tg14X, h 4 (show 4 ∈ uOf region_tg14U 5 by decide)]
  | 6, hds, hds', h => by simp only [region_tg14X, h 4 (show 4 ∈ uOf region_tg14U 6 by decide)]
  | 7, _, _, _ => rfl
  | 8, hds, hds', h => by simp only [region_tg14X, h 8 (show 8 ∈ uOf region_tg14U 8 by decide)]
  | 9, _, _, _ => rfl
  | 10, _, _, _ => rfl
  | _ + 11, _, _, _ => rfl
def region_tg14M (N N2 L g2 q2 D : Nat) (DS : List Nat) : Nat → Mem
  | 1 => memNats DS
  | 3 => memNats DS
  | 4 => memNats (painted (beG N DS DS) L N2)
  | 8 => memBox 2 37
  | _ => memNone
def region_tg14S (N N2 L g2 q2 D : Nat) (DS : List Nat) : Nat → Option Sto
  | 9 => some ⟨8, 37, fun hds => #[.int .i64 (N2 : Int), .slice (some ⟨(hds 4).b, 0, none⟩) L (hds 4).c]⟩
  | _ => none
set_option maxRecDepth 8000 in
set_option maxHeartbeats 2000000 in
theorem region_tg14 {id : Nat} {ops : Array Oper} {Q : Exit → Act → World → Prop} {a : Act} {w : World} (N N2 L g2 q2 D : Nat) (DS : List Nat) (hDl : DS.length = L) (hVd : Valid N DS) (hn2 : NatsAt w g2 0 DS) (hg2 : g2 < w.heap.size) (hK2 : N + N = N2) (hK3 : N2 ≤ 24) (hD : BoxAt w D #[.int .i64 (N : Int), .slice (some ⟨g2, 0, none⟩) L q2] 37)
    (gsize : ops.size = 11)
    (gops : IsOp ops 0 (some 96) (.load 37 (.tmp 5)) none [] ∧ IsOp ops 1 (some 97) (.call { callee := .value (.func 37), args := #[.tmp 96], argTypes := #[37] }) none [0] ∧ IsOp ops 2 (some 98) (.load 37 (.tmp 5)) none [] ∧ IsOp ops 3 (some 99) (.call { callee := .value (.func 37), args := #[.tmp 98], argTypes := #[37] }) none [2] ∧ IsOp ops 4 (some 100) (.call { callee := .value (.func 73), args := #[.tmp 97, .tmp 99], argTypes := #[37, 37] }) none [1, 3] ∧ IsOp ops 5 (some 95) (.move (.tmp 100)) none [4] ∧ IsOp ops 6 (some 101) (.extract (.tmp 95) 0) none [5] ∧ IsOp ops 7 (some 102) (.extract (.tmp 95) 1) none [5] ∧ IsOp ops 8 (some 19) (.alloc 37) none [] ∧ IsOp ops 9 none (.store 37 (.tmp 19) (.tmp 101)) none [6, 8] ∧ IsOp ops 10 (some 20) (.assign (.tmp 102)) none [7])
    (gbk : backB ops = true) (gds : dstsB ops (dOf [some 96, some 97, some 98, some 99, some 100, some 95, some 101, some 102, some 19, none, some 20]) = true) (gus : useB ops (uOf region_tg14U) (kOf [0, 1, 0, 1, 1, 0, 0, 0, 1, 10, 0]) = true) (ggd : plainB ops = true) (gsz : ∀ e ∈ [96, 97, 98, 99, 100, 95, 101, 102, 19, 20], e < a.tmps.size)
    (gout : a.eval (.tmp 5) = .pointer (some ⟨D, 0, none⟩))
    (gend : ∀ (g97 q97 G97 Q97 g99 q99 G99 Q99 g100 q100 G100 Q100 g19 q19 G19 Q19 : Nat) (P97 P99 P100 P19 : Option Addr) (u96 u97 u98 u99 u100 u95 u101 u102 : Value) (W : World), Below w.heap.size w W → (memNats DS).P ⟨g97, q97, G97, Q97, P97⟩ W → (∀ b ∈ (memNats DS).bl ⟨g97, q97, G97, Q97, P97⟩, w.heap.size ≤ b ∧ b < W.heap.size) → (memNats DS).P ⟨g99, q99, G99, Q99, P99⟩ W → (∀ b ∈ (memNats DS).bl ⟨g99, q99, G99, Q99, P99⟩, w.heap.size ≤ b ∧ b < W.heap.size) → (memNats (painted (beG N DS DS) L N2)).P ⟨g100, q100, G100, Q100, P100⟩ W → (∀ b ∈ (memNats (painted (beG N DS DS) L N2)).bl ⟨g100, q100, G100, Q100, P100⟩, w.heap.size ≤ b ∧ b < W.heap.size) → w.heap.size ≤ g19 → g19 < W.heap.size → BoxAt W g19 #[.int .i64 (N2 : Int), .slice (some ⟨g100, 0, none⟩) L q100] 37 → Q .normal (putL a [(96, u96), (97, u97), (98, u98), (99, u99), (100, u100), (95, u95), (101, u101), (102, u102), (19, .pointer (some ⟨g19, 0, none⟩)), (20, .int .i64 0)]) W) :
    (Code.region id ops true).wp Try.prog Q a w := by
  obtain ⟨iop0, iop1, iop2, iop3, iop4, iop5, iop6, iop7, iop8, iop9, iop10⟩ := gops
  have o5 := gout
  refine region_all (RSp.of 11 [some 96, some 97, some 98, some 99, some 100, some 95, some 101, some 102, some 19, none, some 20] (fun _ => true) (region_tg14X N N2 L g2 q2 D DS) region_tg14U [0, 1, 0, 1, 1, 0, 0, 0, 1, 10, 0] (region_tg14M N N2 L g2 q2 D DS) (region_tg14S N N2 L g2 q2 D DS)) [(5, .pointer (some ⟨D, 0, none⟩))] [96, 97, 98, 99, 100, 95, 101, 102, 19, 20] (RSp.of_fit gsize.symm gbk gds gus ggd (by decide) ?_) (RSp.of_ok _ (region_tg14X.congr N N2 L g2 q2 D DS) ?_) gsz ?_ ?_ ?_
  · intro p hp
    have hp2 : p ∈ [(9, 8)] := hp
    simp only [List.mem_cons, List.not_mem_nil, or_false] at hp2
    rcases hp2 with rfl
    · refine ⟨rfl, (show 8 ∈ uOf region_tg14U 9 by decide), fun _ => rfl, fun j hj hm => ?_⟩
      match j, hj with
      | 0, _ => rfl
      | 1, _ => rfl
      | 2, _ => rfl
      | 3, _ => rfl
      | 4, _ => rfl
      | 5, _ => rfl
      | 6, _ => rfl
      | 7, _ => rfl
      | 8, _ => rfl
      | 9, hj => exact absurd rfl hj
      | 10, _ => rfl
      | _ + 11, _ => rfl
  · intro i s hds
    match i, hds with
    | 0, hds => cases hds
    | 1, hds => cases hds
    | 2, hds => cases hds
    | 3, hds => cases hds
    | 4, hds => cases hds
    | 5, hds => cases hds
    | 6, hds => cases hds
    | 7, hds => cases hds
    | 8, hds => cases hds
    | 9, hds =>
      obtain rfl := Option.some.inj hds
      refine ⟨(show 8 ∈ uOf region_tg14U 9 by decide), fun _ => rfl, fun hds hds' h => ?_⟩
      simp only [h 4 (show 4 ∈ uOf region_tg14U 9 by decide)]
    | 10, hds => cases hds
    | _ + 11, hds => cases hds
  · intro q hq
    simp only [List.mem_cons, List.not_mem_nil, or_false] at hq
    subst hq
    · exact ⟨o5, by simp⟩
  · intro i o ho _
    have hi : i < 11 := by rw [← gsize]; exact (Array.getElem?_eq_some_iff.1 ho).1
    match i, hi with
    | 0, _ =>
      obtain ⟨ty, pos, aft, e, hdp⟩ := iop0
      rw [e] at ho
      obtain rfl := Option.some.inj ho
      intro a' hds W K hB lq ld hmem hK
      have e5 : a'.eval (.tmp 5) = .pointer (some ⟨D, 0, none⟩) := by rw [eval_tmp]; exact lq (5, .pointer (some ⟨D, 0, none⟩)) (by simp)
      have t5 := (eval_tmp a' 5).symm.trans e5
      have HK := Lib.hid (show K (a'.put (some 96) (.agg #[.int .i64 (N : Int), .slice (some ⟨g2, 0, none⟩) L q2])) W from hK W (Below.refl _ _) trivial)
      clear hK ld lq hmem
      have c0 := (hD.next hB).cell' 0 rfl
      have c1 := (hD.next hB).cell' 1 rfl
      unfold Oper.wp
      simp only [execOp, e5]
      go_simp
      exact HK.out
    | 1, _ =>
      obtain ⟨ty, pos, aft, e, hdp⟩ := iop1
      rw [e] at ho
      obtain rfl := Option.some.inj ho
      intro a' hds W K hB lq ld hmem hK
      have e96 : a'.eval (.tmp 96) = .agg #[.int .i64 (N : Int), .slice (some ⟨g2, 0, none⟩) L q2] := by rw [eval_tmp]; exact ld 0 96 (List.all_eq_true.1 hdp 0 (by decide)) rfl
      have t96 := (eval_tmp a' 96).symm.trans e96
      have HK := Lib.hid (show ∀ hh W', Below W.heap.size W W' → (memNats DS).P hh W' → (∀ b ∈ (memNats DS).bl hh, W.heap.size ≤ b ∧ b < W'.heap.size) → K (a'.put (some 97) (.agg #[.int .i64 (N : Int), .slice (some ⟨hh.b, 0, none⟩) L hh.c])) W' from fun hh W' h1 h2 h3 => by
        have h4 : K (a'.put (some 97) (region_tg14X N N2 L g2 q2 D DS 1 (updH hds 1 hh))) W' := hK hh W' h1 h2 h3 trivial
        simp only [region_tg14X, updH_same] at h4
        exact h4)
      clear hK ld lq hmem
      refine step_call (vals := #[.agg #[.int .i64 (N : Int), .slice (some ⟨g2, 0, none⟩) L q2]]) (by exact ⟨_, _, Try.func37, by kernel_rfl, rfl⟩) (by simp only [List.map_toArray, List.map_cons, List.map_nil, e96]) (call37 N L g2 q2 DS W hDl hVd (hn2.below hB hg2) (Nat.lt_of_lt_of_le hg2 hB.size)) ?_
      rintro e w' ⟨g, cap, rfl, hn, hl, hg, hb'⟩
      exact ⟨_, rfl, HK.out ⟨g, cap, 0, 0, none⟩ _ hb' ⟨hn, hg⟩ (bd_one hl hg)⟩
    | 2, _ =>
      obtain ⟨ty, pos, aft, e, hdp⟩ := iop2
      rw [e] at ho
      obtain rfl := Option.some.inj ho
      intro a' hds W K hB lq ld hmem hK
      have e5 : a'.eval (.tmp 5) = .pointer (some ⟨D, 0, none⟩) := by rw [eval_tmp]; exact lq (5, .pointer (some ⟨D, 0, none⟩)) (by simp)
      have t5 := (eval_tmp a' 5).symm.trans e5
      have HK := Lib.hid (show K (a'.put (some 98) (.agg #[.int .i64 (N : Int), .slice (some ⟨g2, 0, none⟩) L q2])) W from hK W (Below.refl _ _) trivial)
      clear hK ld lq hmem
      have c0 := (hD.next hB).cell' 0 rfl
      have c1 := (hD.next hB).cell' 1 rfl
      unfold Oper.wp
      simp only [execOp, e5]
      go_simp
      exact HK.out
    | 3, _ =>
      obtain ⟨ty, pos, aft, e, hdp⟩ := iop3
      rw [e] at ho
      obtain rfl := Option.some.inj ho
      intro a' hds W K hB lq ld hmem hK
      have e98 : a'.eval (.tmp 98) = .agg #[.int .i64 (N : Int), .slice (some ⟨g2, 0, none⟩) L q2] := by rw [eval_tmp]; exact ld 2 98 (List.all_eq_true.1 hdp 2 (by decide)) rfl
      have t98 := (eval_tmp a' 98).symm.trans e98
      have HK := Lib.hid (show ∀ hh W', Below W.heap.size W W' → (memNats DS).P hh W' → (∀ b ∈ (memNats DS).bl hh, W.heap.size ≤ b ∧ b < W'.heap.size) → K (a'.put (some 99) (.agg #[.int .i64 (N : Int), .slice (some ⟨hh.b, 0, none⟩) L hh.c])) W' from fun hh W' h1 h2 h3 => by
        have h4 : K (a'.put (some 99) (region_tg14X N N2 L g2 q2 D DS 3 (updH hds 3 hh))) W' := hK hh W' h1 h2 h3 trivial
        simp only [region_tg14X, updH_same] at h4
        exact h4)
      clear hK ld lq hmem
      refine step_call (vals := #[.agg #[.int .i64 (N : Int), .slice (some ⟨g2, 0, none⟩) L q2]]) (by exact ⟨_, _, Try.func37, by kernel_rfl, rfl⟩) (by simp only [List.map_toArray, List.map_cons, List.map_nil, e98]) (call37 N L g2 q2 DS W hDl hVd (hn2.below hB hg2) (Nat.lt_of_lt_of_le hg2 hB.size)) ?_
      rintro e w' ⟨g, cap, rfl, hn, hl, hg, hb'⟩
      exact ⟨_, rfl, HK.out ⟨g, cap, 0, 0, none⟩ _ hb' ⟨hn, hg⟩ (bd_one hl hg)⟩
    | 4, _ =>
      obtain ⟨ty, pos, aft, e, hdp⟩ := iop4
      rw [e] at ho
      obtain rfl := Option.some.inj ho
      intro a' hds W K hB lq ld hmem hK
      have e97 : a'.eval (.tmp 97) = .agg #[.int .i64 (N : Int), .slice (some ⟨(hds 1).b, 0, none⟩) L (hds 1).c] := by rw [eval_tmp]; exact ld 1 97 (List.all_eq_true.1 hdp 1 (by decide)) rfl
      have t97 := (eval_tmp a' 97).symm.trans e97
      have e99 : a'.eval (.tmp 99) = .agg #[.int .i64 (N : Int), .slice (some ⟨(hds 3).b, 0, none⟩) L (hds 3).c] := by rw [eval_tmp]; exact ld 3 99 (List.all_eq_true.1 hdp 3 (by decide)) rfl
      have t99 := (eval_tmp a' 99).symm.trans e99
      have HK := Lib.hid (show ∀ hh W', Below W.heap.size W W' → (memNats (painted (beG N DS DS) L N2)).P hh W' → (∀ b ∈ (memNats (painted (beG N DS DS) L N2)).bl hh, W.heap.size ≤ b ∧ b < W'.heap.size) → K (a'.put (some 100) (.tuple #[.agg #[.int .i64 (N2 : Int), .slice (some ⟨hh.b, 0, none⟩) L hh.c], .int .i64 0])) W' from fun hh W' h1 h2 h3 => by
        have h4 : K (a'.put (some 100) (region_tg14X N N2 L g2 q2 D DS 4 (updH hds 4 hh))) W' := hK hh W' h1 h2 h3 trivial
        simp only [region_tg14X, updH_same] at h4
        exact h4)
      have m97   := (hmem 1 (show 1 ∈ uOf region_tg14U 4 by decide) (by decide)).1
      have m99   := (hmem 3 (show 3 ∈ uOf region_tg14U 4 by decide) (by decide)).1
      clear hK ld lq hmem
      refine step_call (vals := #[.agg #[.int .i64 (N : Int), .slice (some ⟨(hds 1).b, 0, none⟩) L (hds 1).c], .agg #[.int .i64 (N : Int), .slice (some ⟨(hds 3).b, 0, none⟩) L (hds 3).c]]) (by exact ⟨_, _, Try.func73, by kernel_rfl, rfl⟩) (by simp only [List.map_toArray, List.map_cons, List.map_nil, e97, e99]) (call73 N N2 L (hds 1).b (hds 1).c (hds 3).b (hds 3).c DS W hDl hVd hK2 hK3 m97.1 m97.2 m99.1 m99.2) ?_
      rintro e w' ⟨g, cap, rfl, hn, hl, hg, hb'⟩
      exact ⟨_, rfl, HK.out ⟨g, cap, 0, 0, none⟩ _ hb' ⟨hn, hg⟩ (bd_one hl hg)⟩
    | 5, _ =>
      obtain ⟨ty, pos, aft, e, hdp⟩ := iop5
      rw [e] at ho
      obtain rfl := Option.some.inj ho
      intro a' hds W K hB lq ld hmem hK
      have e100 : a'.eval (.tmp 100) = .tuple #[.agg #[.int .i64 (N2 : Int), .slice (some ⟨(hds 4).b, 0, none⟩) L (hds 4).c], .int .i64 0] := by rw [eval_tmp]; exact ld 4 100 (List.all_eq_true.1 hdp 4 (by decide)) rfl
      have t100 := (eval_tmp a' 100).symm.trans e100
      have HK := Lib.hid (show K (a'.put (some 95) (.tuple #[.agg #[.int .i64 (N2 : Int), .slice (some ⟨(hds 4).b, 0, none⟩) L (hds 4).c], .int .i64 0])) W from hK W (Below.refl _ _) trivial)
      clear hK ld lq hmem
      unfold Oper.wp
      simp only [execOp, e100]
      exact HK.out
    | 6, _ =>
      obtain ⟨ty, pos, aft, e, hdp⟩ := iop6
      rw [e] at ho
      obtain rfl := Option.some.inj ho
      intro a' hds W K hB lq ld hmem hK
      have e95 : a'.eval (.tmp 95) = .tuple #[.agg #[.int .i64 (N2 : Int), .slice (some ⟨(hds 4).b, 0, none⟩) L (hds 4).c], .int .i64 0] := by rw [eval_tmp]; exact ld 5 95 (List.all_eq_true.1 hdp 5 (by decide)) rfl
      have t95 := (eval_tmp a' 95).symm.trans e95
      have HK := Lib.hid (show K (a'.put (some 101) (.agg #[.int .i64 (N2 : Int), .slice (some ⟨(hds 4).b, 0, none⟩) L (hds 4).c])) W from hK W (Below.refl _ _) trivial)
      clear hK ld lq hmem
      unfold Oper.wp
      simp only [execOp, e95]
      exact HK.out
    | 7, _ =>
      obtain ⟨ty, pos, aft, e, hdp⟩ := iop7
      rw [e] at ho
      obtain rfl := Option.some.inj ho
      intro a' hds W K hB lq ld hmem hK
      have e95 : a'.eval (.tmp 95) = .tuple #[.agg #[.int .i64 (N2 : Int), .slice (some ⟨(hds 4).b, 0, none⟩) L (hds 4).c], .int .i64 0] := by rw [eval_tmp]; exact ld 5 95 (List.all_eq_true.1 hdp 5 (by decide)) rfl
      have t95 := (eval_tmp a' 95).symm.trans e95
      have HK := Lib.hid (show K (a'.put (some 102) (.int .i64 0)) W from hK W (Below.refl _ _) trivial)
      clear hK ld lq hmem
      unfold Oper.wp
      simp only [execOp, e95]
      exact HK.out
    | 8, _ =>
      obtain ⟨ty, pos, aft, e, hdp⟩ := iop8
      rw [e] at ho
      obtain rfl := Option.some.inj ho
      intro a' hds W K hB lq ld hmem hK
      have HK := Lib.hid (show ∀ hh W', Below W.heap.size W W' → (memBox 2 37).P hh W' → (∀ b ∈ (memBox 2 37).bl hh, W.heap.size ≤ b ∧ b < W'.heap.size) → K (a'.put (some 19) (.pointer (some ⟨hh.b, 0, none⟩))) W' from fun hh W' h1 h2 h3 => by
        have h4 : K (a'.put (some 19) (region_tg14X N N2 L g2 q2 D DS 8 (updH hds 8 hh))) W' := hK hh W' h1 h2 h3 trivial
        simp only [region_tg14X, updH_same] at h4
        exact h4)
      clear hK ld lq hmem
      have hfin := Lib.hid (HK.out ⟨W.heap.size, 0, 0, 0, none⟩ _ ((Below.refl _ _).alloc (Nat.le_refl _) (.cells #[.int .i64 0, .slice none 0 0] 37)) ⟨_, rfl, BoxAt.new W #[.int .i64 0, .slice none 0 0] 37⟩ (bd_one (Nat.le_refl _) (by simp)))
      clear HK
      unfold Oper.wp
      simp only [execOp]
      go_simp
      exact hfin.out
    | 9, _ =>
      obtain ⟨ty, pos, aft, e, hdp⟩ := iop9
      rw [e] at ho
      obtain rfl := Option.some.inj ho
      intro a' hds W K hB lq ld hmem hK
      have e19 : a'.eval (.tmp 19) = .pointer (some ⟨(hds 8).b, 0, none⟩) := by rw [eval_tmp]; exact ld 8 19 (List.all_eq_true.1 hdp 8 (by decide)) rfl
      have t19 := (eval_tmp a' 19).symm.trans e19
      have e101 : a'.eval (.tmp 101) = .agg #[.int .i64 (N2 : Int), .slice (some ⟨(hds 4).b, 0, none⟩) L (hds 4).c] := by rw [eval_tmp]; exact ld 6 101 (List.all_eq_true.1 hdp 6 (by decide)) rfl
      have t101 := (eval_tmp a' 101).symm.trans e101
      obtain ⟨⟨vs, hvs, hbx⟩, _⟩ := hmem 8 (show 8 ∈ uOf region_tg14U 9 by decide) (by decide)
      have hvl : vs.toList.length = 2 := by simpa using hvs
      obtain ⟨v0, v1, rfl⟩ : ∃ v0 v1, vs = #[v0, v1] := by
        cases vs with
        | mk l =>
          match l, hvl with
          | [v0, v1], _ => exact ⟨_, _, rfl⟩
      have HK := Lib.hid (show ∀ W', SetAt (hds 8).b W W' → (memBox 2 37).P (hds 8) W' → BoxAt W' (hds 8).b #[.int .i64 (N2 : Int), .slice (some ⟨(hds 4).b, 0, none⟩) L (hds 4).c] 37 → K a' W' from hK)
      clear hK ld lq hmem
      have hfin := Lib.hid (HK.out _ (((SetAt.refl (hds 8).b W).cell 0 (.int .i64 (N2 : Int))).cell 1 (.slice (some ⟨(hds 4).b, 0, none⟩) L (hds 4).c)) ⟨_, rfl, ((hbx).set 0 (.int .i64 (N2 : Int))).set 1 (.slice (some ⟨(hds 4).b, 0, none⟩) L (hds 4).c)⟩ (((hbx).set 0 (.int .i64 (N2 : Int))).set 1 (.slice (some ⟨(hds 4).b, 0, none⟩) L (hds 4).c)))
      have c0 := hbx.cell' 0 rfl
      have f0 := hbx.frozen 0
      have c1 := hbx.cell' 1 rfl
      have f1 := hbx.frozen 1
      have hlt := hbx.lt
      clear hbx hvl hvs HK
      generalize (hds 8).b = B at *
      unfold Oper.wp
      simp only [execOp, e19, e101]
      clear e19 e101
      go_simp
      exact hfin.out
    | 10, _ =>
      obtain ⟨ty, pos, aft, e, hdp⟩ := iop10
      rw [e] at ho
      obtain rfl := Option.some.inj ho
      intro a' hds W K hB lq ld hmem hK
      have e102 : a'.eval (.tmp 102) = .int .i64 0 := by rw [eval_tmp]; exact ld 7 102 (List.all_eq_true.1 hdp 7 (by decide)) rfl
      have t102 := (eval_tmp a' 102).symm.trans e102
      have HK := Lib.hid (show K (a'.put (some 20) (.int .i64 0)) W from hK W (Below.refl _ _) trivial)
      clear hK ld lq hmem
      unfold Oper.wp
      simp only [execOp, e102]
      exact HK.out
    | i + 11, h => omega
  · intro hds v W hO
    have hfin := gend (hds 1).b (hds 1).c (hds 1).b2 (hds 1).c2 (hds 3).b (hds 3).c (hds 3).b2 (hds 3).c2 (hds 4).b (hds 4).c (hds 4).b2 (hds 4).c2 (hds 8).b (hds 8).c (hds 8).b2 (hds 8).c2 (hds 1).p (hds 3).p (hds 4).p (hds 8).p (v 96) (v 97) (v 98) (v 99) (v 100) (v 95) (v 101) (v 102) W hO.b (hO.m 1 (by show 1 < 11; decide) rfl).1 (hO.m 1 (by show 1 < 11; decide) rfl).2 (hO.m 3 (by show 3 < 11; decide) rfl).1 (hO.m 3 (by show 3 < 11; decide) rfl).2 (hO.m 4 (by show 4 < 11; decide) rfl).1 (hO.m 4 (by show 4 < 11; decide) rfl).2 ((hO.m 8 (by show 8 < 11; decide) rfl).2 _ (by show _ ∈ [_]; simp)).1 ((hO.m 8 (by show 8 < 11; decide) rfl).2 _ (by show _ ∈ [_]; simp)).2 (hO.s 9 (by show 9 < 11; decide) rfl)
    rw [← laid_putL _ a v ?_] at hfin
    · exact hfin
    · intro p hp
      simp only [List.mem_cons, List.not_mem_nil, or_false] at hp
      rcases hp with rfl | rfl | rfl | rfl | rfl | rfl | rfl | rfl | rfl | rfl
      · rfl
      · rfl
      · rfl
      · rfl
      · rfl
      · rfl
      · rfl
      · rfl
      · exact hO.x 8 (show 8 < 11 by decide) 19 rfl
      · exact hO.x 10 (show 10 < 11 by decide) 20 rfl
end Go.Proofs.Ytdmgffoikebgkaa
