/- TieThreads: the place of the changed point. -/
import Derived.Test.YtdmgffoikebgkaaTb01
import Derived.Test.YtdmgffoikebgkaaTb02
import Derived.Test.YtdmgffoikebgkaaTb03
import Derived.Test.YtdmgffoikebgkaaTb04
import Derived.Test.YtdmgffoikebgkaaTb05
import Derived.Test.YtdmgffoikebgkaaTb06
import Derived.Test.YtdmgffoikebgkaaTb07
import Derived.Test.YtdmgffoikebgkaaTb08
import Derived.Test.YtdmgffoikebgkaaTb09
import Derived.Test.YtdmgffoikebgkaaTb10
import Derived.Test.YtdmgffoikebgkaaTb11
import Derived.Test.YtdmgffoikebgkaaTb12
import Derived.Test.YtdmgffoikebgkaaTb13
import Derived.Test.YtdmgffoikebgkaaTb14
import Derived.Test.YtdmgffoikebgkaaTb15
import Derived.Test.YtdmgffoikebgkaaTb16
import Derived.Test.YtdmgffoikebgkaaTb17
import Derived.Test.YtdmgffoikebgkaaTb18
import Derived.Test.YtdmgffoikebgkaaTb19
import Derived.Test.YtdmgffoikebgkaaTb20
import Derived.Test.YtdmgffoikebgkaaTh01
namespace Go.Proofs.Ytdmgffoikebgkaa
open Go.RowKit Go.Shelf
attribute [local go_sem] Oper.semAt_some

def region_tt18U : List (List Nat) := [[], [], [], [], [], [], [], [], [], [], [], [], [], [], [], []]
def region_tt18X (N L g2 q2 D gh qh E T P A0 A1 p v : Nat) : Nat → (Nat → Hd) → Value
  | 0, _ => .pointer (some ⟨P, 0, none⟩)
  | 1, _ => .int .u8 (A0 : Int)
  | 2, _ => .int .i64 (A0 : Int)
  | 3, _ => .pointer (some ⟨D, 1, none⟩)
  | 4, _ => .slice (some ⟨g2, 0, none⟩) L q2
  | 5, _ => .int .i64 (L : Int)
  | 6, _ => .int .i64 (p : Int)
  | 7, _ => .pointer (some ⟨P, 1, none⟩)
  | 8, _ => .int .u8 (A1 : Int)
  | 9, _ => .int .i64 (A1 : Int)
  | 10, _ => .pointer (some ⟨E, 1, none⟩)
  | 11, _ => .slice (some ⟨gh, 0, none⟩) T qh
  | 12, _ => .int .i64 (T : Int)
  | 13, _ => .int .i64 (v : Int)
  | 14, _ => .int .i64 (p : Int)
  | 15, _ => .int .i64 (v : Int)
  | _ + 16, _ => undef
theorem region_tt18X.congr (N L g2 q2 D gh qh E T P A0 A1 p v : Nat) : ∀ i hds hds', (∀ r ∈ uOf region_tt18U i, hds r = hds' r) → region_tt18X N L g2 q2 D gh qh E T P A0 A1 p v i hds = region_tt18X N L g2 q2 D gh qh E T P A0 A1 p v i hds'
  | 0, _, _, _ => rfl
  | 1, _, _, _ => rfl
  | 2, _, _, _ => rfl
  | 3, _, _, _ => rfl
  | 4, _, _, _ => rfl
  | 5, _, _, _ => rfl
  | 6, _, _, _ => rfl
  | 7, _, _, _ => rfl
  | 8, _, _, _ => rfl
  | 9, _, _, _ => rfl
  | 10, _, _, _ => rfl
  | 11, _, _, _ => rfl
  | 12, _, _, _ => rfl
  | 13, _, _, _ => rfl
  | 14, _, _, _ => rfl
  | 15, _, _, _ => rfl
  | _ + 16, _, _, _ => rfl
def region_tt18M (N L g2 q2 D gh qh E T P A0 A1 p v : Nat) : Nat → Mem
  | _ => memNone
def region_tt18S (N L g2 q2 D gh qh E T P A0 A1 p v : Nat) : Nat → Option Sto
  | _ => none
set_option maxRecDepth 8000 in
set_option maxHeartbeats 2000000 in
theorem region_tt18 {id : Nat} {ops : Array Oper} {Q : Exit → Act → World → Prop} {a : Act} {w : World} (N L g2 q2 D gh qh E T P A0 A1 p v : Nat) (hA0 : A0 < 256) (hA1 : A1 < 256) (hL0 : 0 < L) (hT0 : 0 < T) (hL1 : L ≤ 1000) (hT1 : T ≤ 1000) (hp : A0 % L = p) (hv : A1 % T = v) (hD : BoxAt w D #[.int .i64 (N : Int), .slice (some ⟨g2, 0, none⟩) L q2] 37) (hE : BoxAt w E #[.int .i64 (N : Int), .slice (some ⟨gh, 0, none⟩) T qh] 26) (hP : BoxAt w P #[.int .u8 (A0 : Int), .int .u8 (A1 : Int)] 93)
    (gsize : ops.size = 16)
    (gops : IsOp ops 0 (some 134) (.indexAddr 93 (.tmp 3) (.const (.int .i64 0))) none [] ∧ IsOp ops 1 (some 135) (.load 5 (.tmp 134)) none [0] ∧ IsOp ops 2 (some 136) (.convert 5 3 (.tmp 135)) none [1] ∧ IsOp ops 3 (some 137) (.fieldAddr 37 (.tmp 6) 1) none [] ∧ IsOp ops 4 (some 138) (.load 24 (.tmp 137)) none [3] ∧ IsOpL ops 5 (some 139) (.call { callee := .builtin .len, args := #[.tmp 138], argTypes := #[24] }) none [4] ∧ IsOp ops 6 (some 140) (.binOp .rem 3 (.tmp 136) (.tmp 139) 3) none [2, 5] ∧ IsOp ops 7 (some 141) (.indexAddr 93 (.tmp 3) (.const (.int .i64 1))) none [] ∧ IsOp ops 8 (some 142) (.load 5 (.tmp 141)) none [7] ∧ IsOp ops 9 (some 143) (.convert 5 3 (.tmp 142)) none [8] ∧ IsOp ops 10 (some 144) (.fieldAddr 26 (.tmp 5) 1) none [] ∧ IsOp ops 11 (some 145) (.load 24 (.tmp 144)) none [10] ∧ IsOpL ops 12 (some 146) (.call { callee := .builtin .len, args := #[.tmp 145], argTypes := #[24] }) none [11] ∧ IsOp ops 13 (some 147) (.binOp .rem 3 (.tmp 143) (.tmp 146) 3) none [9, 12] ∧ IsOp ops 14 (some 14) (.assign (.tmp 140)) none [6] ∧ IsOp ops 15 (some 15) (.assign (.tmp 147)) none [13])
    (gbk : backB ops = true) (gds : dstsB ops (dOf [some 134, some 135, some 136, some 137, some 138, some 139, some 140, some 141, some 142, some 143, some 144, some 145, some 146, some 147, some 14, some 15]) = true) (gus : useB ops (uOf region_tt18U) (kOf [0, 0, 0, 0, 0, 0, 0, 0, 0, 0, 0, 0, 0, 0, 0, 0]) = true) (ggd : plainB ops = true) (gsz : ∀ e ∈ [134, 135, 136, 137, 138, 139, 140, 141, 142, 143, 144, 145, 146, 147, 14, 15], e < a.tmps.size)
    (gout : a.eval (.tmp 3) = .pointer (some ⟨P, 0, none⟩) ∧ a.eval (.tmp 5) = .pointer (some ⟨E, 0, none⟩) ∧ a.eval (.tmp 6) = .pointer (some ⟨D, 0, none⟩))
    (gend : ∀ (u134 u135 u136 u137 u138 u139 u140 u141 u142 u143 u144 u145 u146 u147 : Value) (W : World), Below w.heap.size w W → Q .normal (putL a [(134, u134), (135, u135), (136, u136), (137, u137), (138, u138), (139, u139), (140, u140), (141, u141), (142, u142), (143, u143), (144, u144), (145, u145), (146, u146), (147, u147), (14, .int .i64 (p : Int)), (15, .int .i64 (v : Int))]) W) :
    (Code.region id ops true).wp Try.prog Q a w := by
  obtain ⟨iop0, iop1, iop2, iop3, iop4, iop5, iop6, iop7, iop8, iop9, iop10, iop11, iop12, iop13, iop14, iop15⟩ := gops
  obtain ⟨o3, o5, o6⟩ := gout
  refine region_all (RSp.of 16 [some 134, some 135, some 136, some 137, some 138, some 139, some 140, some 141, some 142, some 143, some 144, some 145, some 146, some 147, some 14, some 15] (fun _ => true) (region_tt18X N L g2 q2 D gh qh E T P A0 A1 p v) region_tt18U [0, 0, 0, 0, 0, 0, 0, 0, 0, 0, 0, 0, 0, 0, 0, 0] (region_tt18M N L g2 q2 D gh qh E T P A0 A1 p v) (region_tt18S N L g2 q2 D gh qh E T P A0 A1 p v)) [(3, .pointer (some ⟨P, 0, none⟩)), (5, .pointer (some ⟨E, 0, none⟩)), (6, .pointer (some ⟨D, 0, none⟩))] [134, 135, 136, 137, 138, 139, 140, 141, 142, 143, 144, 145, 146, 147, 14, 15] (RSp.of_fit gsize.symm gbk gds gus ggd (by decide) ?_) (RSp.of_ok _ (region_tt18X.congr N L g2 q2 D gh qh E T P A0 A1 p v) ?_) gsz ?_ ?_ ?_
  · intro p hp
    have hp2 : p ∈ ([] : List (Nat × Nat)) := hp
    cases hp2
  · intro i s hds
    match i, hds with
    | 0, hds => cases hds
    | 1, hds => cases hds
    | 2, hds => cases hds
    | 3, hds => cases hds
    | 4, hds => cases hds
    | 5, hds => cases hds
    | 6, hds => cases hds
    | 7, hds => cases hds
    | 8, hds => cases hds
    | 9, hds => cases hds
    | 10, hds => cases hds
    | 11, hds => cases hds
    | 12, hds => cases hds
    | 13, hds => cases hds
    | 14, hds => cases hds
    | 15, hds => cases hds
    | _ + 16, hds => cases hds
  · intro q hq
    simp only [List.mem_cons, List.not_mem_nil, or_false] at hq
    rcases hq with rfl | rfl | rfl
    · exact ⟨o3, by simp⟩
    · exact ⟨o5, by simp⟩
    · exact ⟨o6, by simp⟩
  · intro i o ho _
    have hi : i < 16 := by rw [← gsize]; exact (Array.getElem?_eq_some_iff.1 ho).1
    match i, hi with
    | 0, _ =>
      obtain ⟨ty, pos, aft, e, hdp⟩ := iop0
      rw [e] at ho
      obtain rfl := Option.some.inj ho
      intro a' hds W K hB lq ld hmem hK
      have e3 : a'.eval (.tmp 3) = .pointer (some ⟨P, 0, none⟩) := by rw [eval_tmp]; exact lq (3, .pointer (some ⟨P, 0, none⟩)) (by simp)
      have t3 := (eval_tmp a' 3).symm.trans e3
      have HK := Lib.hid (show K (a'.put (some 134) (.pointer (some ⟨P, 0, none⟩))) W from hK W (Below.refl _ _) trivial)
      clear hK ld lq hmem
      unfold Oper.wp
      simp only [execOp, e3]
      go_simp
      exact HK.out
    | 1, _ =>
      obtain ⟨ty, pos, aft, e, hdp⟩ := iop1
      rw [e] at ho
      obtain rfl := Option.some.inj ho
      intro a' hds W K hB lq ld hmem hK
      have e134 : a'.eval (.tmp 134) = .pointer (some ⟨P, 0, none⟩) := by rw [eval_tmp]; exact ld 0 134 (List.all_eq_true.1 hdp 0 (by decide)) rfl
      have t134 := (eval_tmp a' 134).symm.trans e134
      have HK := Lib.hid (show K (a'.put (some 135) (.int .u8 (A0 : Int))) W from hK W (Below.refl _ _) trivial)
      clear hK ld lq hmem
      have c0 := (hP.next hB).cell' 0 rfl
      have d0 := (hP.next hB).cell' (v := .int .u8 (A0 : Int)) 0 rfl
      unfold Oper.wp
      simp only [execOp, e134]
      go_simp
      exact HK.out
    | 2, _ =>
      obtain ⟨ty, pos, aft, e, hdp⟩ := iop2
      rw [e] at ho
      obtain rfl := Option.some.inj ho
      intro a' hds W K hB lq ld hmem hK
      have e135 : a'.eval (.tmp 135) = .int .u8 (A0 : Int) := by rw [eval_tmp]; exact ld 1 135 (List.all_eq_true.1 hdp 1 (by decide)) rfl
      have t135 := (eval_tmp a' 135).symm.trans e135
      have HK := Lib.hid (show K (a'.put (some 136) (.int .i64 (A0 : Int))) W from hK W (Below.refl _ _) trivial)
      clear hK ld lq hmem
      unfold Oper.wp
      simp only [execOp, e135]
      go_simp
      rw [show IntKind.i64.wrap (A0 : Int) = (A0 : Int) from IntWalk.i64_in _ (by omega)]; exact HK.out
    | 3, _ =>
      obtain ⟨ty, pos, aft, e, hdp⟩ := iop3
      rw [e] at ho
      obtain rfl := Option.some.inj ho
      intro a' hds W K hB lq ld hmem hK
      have e6 : a'.eval (.tmp 6) = .pointer (some ⟨D, 0, none⟩) := by rw [eval_tmp]; exact lq (6, .pointer (some ⟨D, 0, none⟩)) (by simp)
      have t6 := (eval_tmp a' 6).symm.trans e6
      have HK := Lib.hid (show K (a'.put (some 137) (.pointer (some ⟨D, 1, none⟩))) W from hK W (Below.refl _ _) trivial)
      clear hK ld lq hmem
      unfold Oper.wp
      simp only [execOp, e6]
      go_simp
      exact HK.out
    | 4, _ =>
      obtain ⟨ty, pos, aft, e, hdp⟩ := iop4
      rw [e] at ho
      obtain rfl := Option.some.inj ho
      intro a' hds W K hB lq ld hmem hK
      have e137 : a'.eval (.tmp 137) = .pointer (some ⟨D, 1, none⟩) := by rw [eval_tmp]; exact ld 3 137 (List.all_eq_true.1 hdp 3 (by decide)) rfl
      have t137 := (eval_tmp a' 137).symm.trans e137
      have HK := Lib.hid (show K (a'.put (some 138) (.slice (some ⟨g2, 0, none⟩) L q2)) W from hK W (Below.refl _ _) trivial)
      clear hK ld lq hmem
      have c1 := (hD.next hB).cell' 1 rfl
      unfold Oper.wp
      simp only [execOp, e137]
      go_simp
      exact HK.out
    | 5, _ =>
      obtain ⟨pos, aft, e, hdp⟩ := iop5
      rw [e] at ho
      obtain rfl := Option.some.inj ho
      intro a' hds W K hB lq ld hmem hK
      have e138 : a'.eval (.tmp 138) = .slice (some ⟨g2, 0, none⟩) L q2 := by rw [eval_tmp]; exact ld 4 138 (List.all_eq_true.1 hdp 4 (by decide)) rfl
      have t138 := (eval_tmp a' 138).symm.trans e138
      have HK := Lib.hid (show K (a'.put (some 139) (.int .i64 (L : Int))) W from hK W (Below.refl _ _) trivial)
      clear hK ld lq hmem
      unfold Oper.wp
      simp only [execOp, e138]
      go_simp
      exact HK.out
    | 6, _ =>
      obtain ⟨ty, pos, aft, e, hdp⟩ := iop6
      rw [e] at ho
      obtain rfl := Option.some.inj ho
      intro a' hds W K hB lq ld hmem hK
      have e136 : a'.eval (.tmp 136) = .int .i64 (A0 : Int) := by rw [eval_tmp]; exact ld 2 136 (List.all_eq_true.1 hdp 2 (by decide)) rfl
      have t136 := (eval_tmp a' 136).symm.trans e136
      have e139 : a'.eval (.tmp 139) = .int .i64 (L : Int) := by rw [eval_tmp]; exact ld 5 139 (List.all_eq_true.1 hdp 5 (by decide)) rfl
      have t139 := (eval_tmp a' 139).symm.trans e139
      have HK := Lib.hid (show K (a'.put (some 140) (.int .i64 (p : Int))) W from hK W (Below.refl _ _) trivial)
      clear hK ld lq hmem
      have hy0 : ¬ (L : Int) = 0 := by omega
      have hr0 := tmod_nn A0 L
      rw [hp] at hr0
      unfold Oper.wp
      simp only [execOp, e136, e139]
      go_simp
      rw [if_neg (show ¬ L = 0 by omega)]; go_simp; exact HK.out
    | 7, _ =>
      obtain ⟨ty, pos, aft, e, hdp⟩ := iop7
      rw [e] at ho
      obtain rfl := Option.some.inj ho
      intro a' hds W K hB lq ld hmem hK
      have e3 : a'.eval (.tmp 3) = .pointer (some ⟨P, 0, none⟩) := by rw [eval_tmp]; exact lq (3, .pointer (some ⟨P, 0, none⟩)) (by simp)
      have t3 := (eval_tmp a' 3).symm.trans e3
      have HK := Lib.hid (show K (a'.put (some 141) (.pointer (some ⟨P, 1, none⟩))) W from hK W (Below.refl _ _) trivial)
      clear hK ld lq hmem
      unfold Oper.wp
      simp only [execOp, e3]
      go_simp
      exact HK.out
    | 8, _ =>
      obtain ⟨ty, pos, aft, e, hdp⟩ := iop8
      rw [e] at ho
      obtain rfl := Option.some.inj ho
      intro a' hds W K hB lq ld hmem hK
      have e141 : a'.eval (.tmp 141) = .pointer (some ⟨P, 1, none⟩) := by rw [eval_tmp]; exact ld 7 141 (List.all_eq_true.1 hdp 7 (by decide)) rfl
      have t141 := (eval_tmp a' 141).symm.trans e141
      have HK := Lib.hid (show K (a'.put (some 142) (.int .u8 (A1 : Int))) W from hK W (Below.refl _ _) trivial)
      clear hK ld lq hmem
      have c1 := (hP.next hB).cell' 1 rfl
      have d1 := (hP.next hB).cell' (v := .int .u8 (A1 : Int)) 1 rfl
      unfold Oper.wp
      simp only [execOp, e141]
      go_simp
      exact HK.out
    | 9, _ =>
      obtain ⟨ty, pos, aft, e, hdp⟩ := iop9
      rw [e] at ho
      obtain rfl := Option.some.inj ho
      intro a' hds W K hB lq ld hmem hK
      have e142 : a'.eval (.tmp 142) = .int .u8 (A1 : Int) := by rw [eval_tmp]; exact ld 8 142 (List.all_eq_true.1 hdp 8 (by decide)) rfl
      have t142 := (eval_tmp a' 142).symm.trans e142
      have HK := Lib.hid (show K (a'.put (some 143) (.int .i64 (A1 : Int))) W from hK W (Below.refl _ _) trivial)
      clear hK ld lq hmem
      unfold Oper.wp
      simp only [execOp, e142]
      go_simp
      rw [show IntKind.i64.wrap (A1 : Int) = (A1 : Int) from IntWalk.i64_in _ (by omega)]; exact HK.out
    | 10, _ =>
      obtain ⟨ty, pos, aft, e, hdp⟩ := iop10
      rw [e] at ho
      obtain rfl := Option.some.inj ho
      intro a' hds W K hB lq ld hmem hK
      have e5 : a'.eval (.tmp 5) = .pointer (some ⟨E, 0, none⟩) := by rw [eval_tmp]; exact lq (5, .pointer (some ⟨E, 0, none⟩)) (by simp)
      have t5 := (eval_tmp a' 5).symm.trans e5
      have HK := Lib.hid (show K (a'.put (some 144) (.pointer (some ⟨E, 1, none⟩))) W from hK W (Below.refl _ _) trivial)
      clear hK ld lq hmem
      unfold Oper.wp
      simp only [execOp, e5]
      go_simp
      exact HK.out
    | 11, _ =>
      obtain ⟨ty, pos, aft, e, hdp⟩ := iop11
      rw [e] at ho
      obtain rfl := Option.some.inj ho
      intro a' hds W K hB lq ld hmem hK
      have e144 : a'.eval (.tmp 144) = .pointer (some ⟨E, 1, none⟩) := by rw [eval_tmp]; exact ld 10 144 (List.all_eq_true.1 hdp 10 (by decide)) rfl
      have t144 := (eval_tmp a' 144).symm.trans e144
      have HK := Lib.hid (show K (a'.put (some 145) (.slice (some ⟨gh, 0, none⟩) T qh)) W from hK W (Below.refl _ _) trivial)
      clear hK ld lq hmem
      have c1 := (hE.next hB).cell' 1 rfl
      unfold Oper.wp
      simp only [execOp, e144]
      go_simp
      exact HK.out
    | 12, _ =>
      obtain ⟨pos, aft, e, hdp⟩ := iop12
      rw [e] at ho
      obtain rfl := Option.some.inj ho
      intro a' hds W K hB lq ld hmem hK
      have e145 : a'.eval (.tmp 145) = .slice (some ⟨gh, 0, none⟩) T qh := by rw [eval_tmp]; exact ld 11 145 (List.all_eq_true.1 hdp 11 (by decide)) rfl
      have t145 := (eval_tmp a' 145).symm.trans e145
      have HK := Lib.hid (show K (a'.put (some 146) (.int .i64 (T : Int))) W from hK W (Below.refl _ _) trivial)
      clear hK ld lq hmem
      unfold Oper.wp
      simp only [execOp, e145]
      go_simp
      exact HK.out
    | 13, _ =>
      obtain ⟨ty, pos, aft, e, hdp⟩ := iop13
      rw [e] at ho
      obtain rfl := Option.some.inj ho
      intro a' hds W K hB lq ld hmem hK
      have e143 : a'.eval (.tmp 143) = .int .i64 (A1 : Int) := by rw [eval_tmp]; exact ld 9 143 (List.all_eq_true.1 hdp 9 (by decide)) rfl
      have t143 := (eval_tmp a' 143).symm.trans e143
      have e146 : a'.eval (.tmp 146) = .int .i64 (T : Int) := by rw [eval_tmp]; exact ld 12 146 (List.all_eq_true.1 hdp 12 (by decide)) rfl
      have t146 := (eval_tmp a' 146).symm.trans e146
      have HK := Lib.hid (show K (a'.put (some 147) (.int .i64 (v : Int))) W from hK W (Below.refl _ _) trivial)
      clear hK ld lq hmem
      have hy0 : ¬ (T : Int) = 0 := by omega
      have hr0 := tmod_nn A1 T
      rw [hv] at hr0
      unfold Oper.wp
      simp only [execOp, e143, e146]
      go_simp
      rw [if_neg (show ¬ T = 0 by omega)]; go_simp; exact HK.out
    | 14, _ =>
      obtain ⟨ty, pos, aft, e, hdp⟩ := iop14
      rw [e] at ho
      obtain rfl := Option.some.inj ho
      intro a' hds W K hB lq ld hmem hK
      have e140 : a'.eval (.tmp 140) = .int .i64 (p : Int) := by rw [eval_tmp]; exact ld 6 140 (List.all_eq_true.1 hdp 6 (by decide)) rfl
      have t140 := (eval_tmp a' 140).symm.trans e140
      have HK := Lib.hid (show K (a'.put (some 14) (.int .i64 (p : Int))) W from hK W (Below.refl _ _) trivial)
      clear hK ld lq hmem
      unfold Oper.wp
      simp only [execOp, e140]
      exact HK.out
    | 15, _ =>
      obtain ⟨ty, pos, aft, e, hdp⟩ := iop15
      rw [e] at ho
      obtain rfl := Option.some.inj ho
      intro a' hds W K hB lq ld hmem hK
      have e147 : a'.eval (.tmp 147) = .int .i64 (v : Int) := by rw [eval_tmp]; exact ld 13 147 (List.all_eq_true.1 hdp 13 (by decide)) rfl
      have t147 := (eval_tmp a' 147).symm.trans e147
      have HK := Lib.hid (show K (a'.put (some 15) (.int .i64 (v : Int))) W from hK W (Below.refl _ _) trivial)
      clear hK ld lq hmem
      unfold Oper.wp
      simp only [execOp, e147]
      exact HK.out
    | i + 16, h => omega
  · intro hds v W hO
    have hfin := gend (v 134) (v 135) (v 136) (v 137) (v 138) (v 139) (v 140) (v 141) (v 142) (v 143) (v 144) (v 145) (v 146) (v 147) W hO.b
    rw [← laid_putL _ a v ?_] at hfin
    · exact hfin
    · intro p hp
      simp only [List.mem_cons, List.not_mem_nil, or_false] at hp
      rcases hp with rfl | rfl | rfl | rfl | rfl | rfl | rfl | rfl | rfl | rfl | rfl | rfl | rfl | rfl | rfl | rfl
      · rfl
      · rfl
      · rfl
      · rfl
      · rfl
      · rfl
      · rfl
      · rfl
      · rfl
      · rfl
      · rfl
      · rfl
      · rfl
      · rfl
      · exact hO.x 14 (show 14 < 16 by decide) 14 rfl
      · exact hO.x 15 (show 15 < 16 by decide) 15 rfl
end Go.Proofs.Ytdmgffoikebgkaa
/- TieThreads: the bytes of a pick. -/
namespace Go.Proofs.Ytdmgffoikebgkaa
open Go.RowKit Go.Shelf
attribute [local go_sem] Oper.semAt_some

/-- bytes that were made of a string, in a row that can be written -/
def ByB (W : World) (G : Nat) (l : List UInt8) : Prop := ∃ (cur : Array Value) (a b : Nat), W.heap[G]? = some (.cells cur 5 (a, b)) ∧ l.length ≤ a ∧ l.length ≤ cur.size ∧ ∀ i (h : i < l.length), cur[i]? = some (.int .u8 (l[i].toNat : Int))
theorem ByB.new (W : World) (s : ByteArray) (cap : Nat) :
    ByB (W.alloc (.cells (bytesRow s cap) 5 ((bytesRow s cap).size, (bytesRow s cap).size + 1))).drew W.heap.size s.data.toList := by
  have hl : s.data.toList.length ≤ (bytesRow s cap).size := by simp [bytesRow]
  refine ⟨bytesRow s cap, (bytesRow s cap).size, (bytesRow s cap).size + 1, ?_, hl, hl, fun i hi => ?_⟩
  · show (W.heap.push (.cells (bytesRow s cap) 5 ((bytesRow s cap).size, (bytesRow s cap).size + 1)))[W.heap.size]? = _
    simp
  · rw [bytesRow_at s cap i (by simpa using hi)]
    simp
theorem ByB.lt {W : World} {G : Nat} {l : List UInt8} (h : ByB W G l) : G < W.heap.size := by
  obtain ⟨cur, a, b, h1, _⟩ := h
  exact (Array.getElem?_eq_some_iff.1 h1).1
theorem ByB.cell {W : World} {G : Nat} {l : List UInt8} (h : ByB W G l) (i : Nat) (hi : i < l.length) : W.cell? ⟨G, i, none⟩ = some (.int .u8 (l[i].toNat : Int)) := by
  obtain ⟨cur, a, b, h1, _, _, h2⟩ := h
  simp [World.cell?, h1, h2 i hi]
theorem ByB.frozen {W : World} {G : Nat} {l : List UInt8} (h : ByB W G l) (i : Nat) (hi : i < l.length) : W.frozen? ⟨G, i, none⟩ = false := by
  obtain ⟨cur, a, b, h1, h2, _⟩ := h
  simp [World.frozen?, h1]
  intro h3
  omega
theorem ByB.set {W : World} {G : Nat} {l : List UInt8} (h : ByB W G l) (i : Nat) (x : UInt8) (hi : i < l.length) (v : Int) (hv : v = (x.toNat : Int)) : ByB (W.setCell ⟨G, i, none⟩ (.int .u8 v)) G (l.set i x) := by
  obtain ⟨cur, a, b, h1, h2, h3, h4⟩ := h
  refine ⟨cur.setIfInBounds i (.int .u8 v), a, b, ?_, by rw [List.length_set]; exact h2, by rw [List.length_set, Array.size_setIfInBounds]; exact h3, fun j hj => ?_⟩
  · simp [World.setCell, Array.getElem?_modify, h1]
  · rw [List.length_set] at hj
    by_cases e : j = i
    · subst e
      rw [hv]
      simp [show j < cur.size by omega]
    · rw [Array.getElem?_setIfInBounds_ne (by omega), h4 j hj, List.getElem_set_ne (by omega)]
set_option maxRecDepth 100000 in
theorem ByB.back {W : World} {G : Nat} {l : List UInt8} (h : ByB W G l) (cp T : Nat) (hl : l.length = T) : (convert 89 9 (.slice (some ⟨G, 0, none⟩) T cp)).run Try.prog W = .ok (.string ⟨l.toArray⟩) W := by
  subst hl
  exact run_convert_bytes_back (P := Try.prog) W 89 9 5 ⟨G, 0, none⟩ cp l Try.underlying89 Try.underlying5 Try.underlying9 (fun j hj => by
    rw [show (⟨G, 0, none⟩ : Addr).add j = ⟨G, j, none⟩ by unfold Addr.add; split <;> simp_all]
    exact h.cell j hj)
/-- a pick with one point changed -/
theorem StrB.flip {s : ByteArray} {n p v : Nat} (h : StrB s n p) (hv : v < n) (x : UInt8) (hx : x = UInt8.ofNat (byteP (p ^^^ 2 ^ v) v).toNat) : StrB ⟨(s.data.toList.set v x).toArray⟩ n (p ^^^ 2 ^ v) := by
  have hs := h.size
  have hl : s.data.toList.length = n := by rw [Array.length_toList]; exact hs
  have hp2 : p ^^^ 2 ^ v < 2 ^ n := Nat.xor_lt_two_pow h.lt (Nat.pow_lt_pow_right (by decide) hv)
  refine ⟨by show (s.data.toList.set v x).toArray.size = n; rw [List.size_toArray, List.length_set]; exact hl, hp2, h.n0, h.n1, ?_⟩
  refine List.ext_getElem (by simp [hl]) fun j h1 h2 => ?_
  have hj : j < n := by simpa using h2
  simp only [List.getElem_map, List.getElem_range]
  by_cases e : j = v
  · subst e
    simp [hx]
  · have h3 : (s.data.toList.set v x)[j]'(by rw [List.length_set]; omega) = s.data.toList[j]'(by omega) := List.getElem_set_ne (by omega) _
    have h4 : s.data.toList[j]'(by omega) = UInt8.ofNat (byteP p j).toNat := by
      have := h.get hj
      rw [List.getElem?_eq_getElem (by omega)] at this
      exact Option.some.inj this
    show (s.data.toList.set v x)[j]'(by rw [List.length_set]; omega) = _
    rw [h3, h4]
    have hb : bitN (p ^^^ 2 ^ v) j = bitN p j := by
      unfold bitN
      rw [Nat.testBit_xor, Nat.testBit_two_pow, decide_eq_false (fun h => e h.symm), Bool.xor_false]
    unfold byteP
    rw [hb]
end Go.Proofs.Ytdmgffoikebgkaa
/- TieThreads, TieFew, TieBound: what lies in memory. -/
namespace Go.Proofs.Ytdmgffoikebgkaa
open Go.RowKit Go.Shelf
attribute [local go_sem] Oper.semAt_some

theorem hsTo_nthT (n : Nat) (ws : List Nat) (k i : Nat) (hn : 1 ≤ n) (hi : i < k) : nthN (hsTo n ws k) i < n := by
  rw [nthN_get _ _ (by rw [hsTo_len]; exact hi)]
  simp only [hsTo, List.getElem_map, List.getElem_range, hsG]
  split
  · exact Nat.mod_lt _ (by omega)
  · omega
/-- the harness and the design in memory -/
structure TtS (w : World) (P D g2 q2 E gh qh N L T : Nat) (A0 A1 : Nat) (DS HS : List Nat) (W : World) : Prop where
  p : BoxAt W P #[.int .u8 (A0 : Int), .int .u8 (A1 : Int)] 93
  d : BoxAt W D #[.int .i64 (N : Int), .slice (some ⟨g2, 0, none⟩) L q2] 37
  e : BoxAt W E #[.int .i64 (N : Int), .slice (some ⟨gh, 0, none⟩) T qh] 26
  nd : NatsAt W g2 0 DS
  l2 : g2 < W.heap.size
  nh : NatsAt W gh 0 HS
  lh : gh < W.heap.size
  b : Below w.heap.size w W
theorem TtS.next {w W W' : World} {P D g2 q2 E gh qh N L T A0 A1 : Nat} {DS HS : List Nat} (h : TtS w P D g2 q2 E gh qh N L T A0 A1 DS HS W) (hb : Below W.heap.size W W') : TtS w P D g2 q2 E gh qh N L T A0 A1 DS HS W' :=
  ⟨h.p.next hb, h.d.next hb, h.e.next hb, h.nd.below hb h.l2, Nat.lt_of_lt_of_le h.l2 hb.size, h.nh.below hb h.lh, Nat.lt_of_lt_of_le h.lh hb.size, h.b.trans (hb.mono h.b.size)⟩
theorem TtS.set {w W : World} {P D g2 q2 E gh qh N L T A0 A1 : Nat} {DS HS : List Nat} (h : TtS w P D g2 q2 E gh qh N L T A0 A1 DS HS W) {B j : Nat} (v : Value) (hB : w.heap.size ≤ B) (h1 : P < B) (h2 : D < B) (h3 : E < B) (h4 : g2 < B) (h5 : gh < B) : TtS w P D g2 q2 E gh qh N L T A0 A1 DS HS (W.setCell ⟨B, j, none⟩ v) :=
  ⟨h.p.other _ _ (by show P ≠ B; omega), h.d.other _ _ (by show D ≠ B; omega), h.e.other _ _ (by show E ≠ B; omega),
   fun i hi => (World.cell?_of_block (w := W) (Below.heap_setCell W ⟨B, j, none⟩ v g2 (by show g2 ≠ B; omega))).trans (h.nd i hi), by simpa using h.l2,
   fun i hi => (World.cell?_of_block (w := W) (Below.heap_setCell W ⟨B, j, none⟩ v gh (by show gh ≠ B; omega))).trans (h.nh i hi), by simpa using h.lh, h.b.setCell hB _⟩
/-- the cloth and the design that is wanted, too -/
structure T2S (w : World) (P D g2 q2 E gh qh N L T : Nat) (A0 A1 : Nat) (DS HS : List Nat) (gc ga qa B : Nat) (SS : List ByteArray) (XS : List Nat) (W : World) : Prop where
  s : TtS w P D g2 q2 E gh qh N L T A0 A1 DS HS W
  c : StrRw W gc SS
  a : NatRow W ga XS
  x : BoxAt W B #[.int .i64 (N : Int), .slice (some ⟨ga, 0, none⟩) L qa] 37
theorem T2S.next {w W W' : World} {P D g2 q2 E gh qh N L T A0 A1 gc ga qa B : Nat} {DS HS XS : List Nat} {SS : List ByteArray} (h : T2S w P D g2 q2 E gh qh N L T A0 A1 DS HS gc ga qa B SS XS W) (hb : Below W.heap.size W W') : T2S w P D g2 q2 E gh qh N L T A0 A1 DS HS gc ga qa B SS XS W' :=
  ⟨h.s.next hb, h.c.next hb, h.a.next hb, h.x.next hb⟩
theorem TtS.drew {w W : World} {P D g2 q2 E gh qh N L T A0 A1 : Nat} {DS HS : List Nat} (h : TtS w P D g2 q2 E gh qh N L T A0 A1 DS HS W) : TtS w P D g2 q2 E gh qh N L T A0 A1 DS HS W.drew := ⟨h.p, h.d, h.e, h.nd, h.l2, h.nh, h.lh, h.b.drew⟩
theorem T2S.drew {w W : World} {P D g2 q2 E gh qh N L T A0 A1 gc ga qa B : Nat} {DS HS XS : List Nat} {SS : List ByteArray} (h : T2S w P D g2 q2 E gh qh N L T A0 A1 DS HS gc ga qa B SS XS W) : T2S w P D g2 q2 E gh qh N L T A0 A1 DS HS gc ga qa B SS XS W.drew := ⟨h.s.drew, h.c, h.a, h.x⟩
theorem T2S.step {w W : World} {P D g2 q2 E gh qh N L T A0 A1 gc ga qa B U k : Nat} {DS HS : List Nat} {SS : List ByteArray} (h : T2S w P D g2 q2 E gh qh N L T A0 A1 DS HS gc ga qa B SS (andL U DS k) W) (hk : k < DS.length) (hwa : w.heap.size ≤ ga) (h1 : P < ga) (h2 : D < ga) (h3 : E < ga) (h4 : g2 < ga) (h5 : gh < ga) (h6 : gc < ga) (h7 : ga < B) :
    T2S w P D g2 q2 E gh qh N L T A0 A1 DS HS gc ga qa B SS (andL U DS (k + 1)) (W.setCell ⟨ga, k, none⟩ (.int .i64 ((nthN DS k &&& U : Nat) : Int))) := by
  refine ⟨h.s.set _ hwa h1 h2 h3 h4 h5, h.c.at _ (by omega), ?_, h.x.other _ _ (by show B ≠ ga; omega)⟩
  rw [← andL_set U DS k hk]
  exact h.a.set k _ (by rw [andL_len]; exact hk)
/-- whether no other one of the first warps has the hook of a warp -/
def alB (hs : List Nat) (v : Nat) : Nat → Bool
  | 0 => true
  | k + 1 => if k ≠ v ∧ nthN hs k = nthN hs v then false else alB hs v k
/-- the first of these warps with that hook, or the warp -/
def fsB (hs : List Nat) (v k : Nat) : Nat := if fstI (nthN hs) v < k then fstI (nthN hs) v else v
theorem fsB_zero (hs : List Nat) (v : Nat) : fsB hs v 0 = v := by unfold fsB; rw [if_neg (Nat.not_lt_zero _)]
theorem fsB_all {hs : List Nat} {v T : Nat} (h : v < T) : fsB hs v T = fstI (nthN hs) v := by
  unfold fsB; rw [if_pos (Nat.lt_of_le_of_lt (fstI_le v) h)]
theorem al_hit {hs : List Nat} {v k : Nat} (h1 : k ≠ v) (h2 : nthN hs k = nthN hs v) : alB hs v (k + 1) = false := by rw [alB, if_pos ⟨h1, h2⟩]
theorem al_miss {hs : List Nat} {v k : Nat} (h : ¬ (k ≠ v ∧ nthN hs k = nthN hs v)) : alB hs v (k + 1) = alB hs v k := by rw [alB, if_neg h]
theorem fs_miss {hs : List Nat} {v k : Nat} (h : ¬ (k ≠ v ∧ nthN hs k = nthN hs v)) : fsB hs v (k + 1) = fsB hs v k := by
  unfold fsB
  by_cases c : fstI (nthN hs) v < k
  · rw [if_pos c, if_pos (by omega)]
  · rw [if_neg c]
    by_cases d : fstI (nthN hs) v < k + 1
    · have e : fstI (nthN hs) v = k := by omega
      have hk := fstI_key (key := nthN hs) v
      rw [e] at hk
      have : k = v := Classical.byContradiction fun hn => h ⟨hn, hk⟩
      rw [if_pos d, e]; exact this
    · rw [if_neg d]
theorem fs_hit {hs : List Nat} {v k : Nat} (h1 : k ≠ v) (h2 : nthN hs k = nthN hs v) : (fsB hs v (k + 1) = fsB hs v k ∧ fsB hs v k < k) ∨ (fsB hs v (k + 1) = k ∧ k < fsB hs v k) := by
  have hle : fstI (nthN hs) v ≤ k := Classical.byContradiction fun hc => fstI_least (key := nthN hs) (show k < fstI (nthN hs) v by omega) h2
  have hv := fstI_le (key := nthN hs) v
  unfold fsB
  by_cases c : fstI (nthN hs) v < k
  · left; rw [if_pos c, if_pos (by omega)]; exact ⟨rfl, c⟩
  · right; rw [if_neg c, if_pos (by omega)]; omega
theorem al_iff (hs : List Nat) (v : Nat) : ∀ k, alB hs v k = true ↔ ∀ i, i < k → i ≠ v → nthN hs i ≠ nthN hs v
  | 0 => ⟨fun _ i hi => absurd hi (Nat.not_lt_zero i), fun _ => rfl⟩
  | k + 1 => by
    by_cases h : k ≠ v ∧ nthN hs k = nthN hs v
    · rw [al_hit h.1 h.2]
      exact ⟨fun e => absurd e (by decide), fun e => absurd h.2 (e k (Nat.lt_succ_self k) h.1)⟩
    · rw [al_miss h, al_iff hs v k]
      constructor
      · intro e i hi hn
        by_cases c : i = k
        · subst c; exact fun d => h ⟨hn, d⟩
        · exact e i (by omega) hn
      · exact fun e i hi => e i (by omega)
end Go.Proofs.Ytdmgffoikebgkaa
/- Arguments that come in: a loom of chapter 3, an array of two bytes. -/
namespace Go.Proofs.Ytdmgffoikebgkaa
open Go.ChangeShapes Go.WideShapes Go.ChangeAt Go.RowKit Go.Joins

set_option maxRecDepth 100000 in
/-- a loom of chapter 3 that came in -/
theorem lom_open {Ty : Type} {enc : TypeId × Value → Ty} {W : World} {v : Value} {d : DataW Ty} {p : List MemPlace} (hv : Value.okWide Try.prog W .any 0 92 v) (h : DataW.Trod enc Try.prog W 0 (fun _ => true) true 92 v d p) :
    ∃ (H : Nat) (p1 p2 : Option Addr) (c1 c2 : Nat) (ws rs : List Nat), v = .agg (lomA H p1 p2 ws.length c1 rs.length c2) ∧ H < 256 ∧ ByteRow W p1 ws ∧ WordRow W p2 rs ∧
      ws.length ≤ 9223372036854775807 ∧ rs.length ≤ 9223372036854775807 := by
  obtain ⟨k0, k1, k2, y0, y1, y2, m, rfl, rfl, rfl, h0, h1, h2⟩ := open_agg3 Try.underlying92 (by kernel_rfl) (by kernel_rfl) hv h
  obtain ⟨a, e0, rfl, wa⟩ := DataW.trod_int Try.underlying5 h0
  simp at e0
  subst e0
  obtain ⟨H, rfl, hH⟩ := u8_of wa
  obtain ⟨p1, c1, ws, rfl, hw1, hl1⟩ := u8s_of_trod h1
  obtain ⟨p2, c2, rs, rfl, hw2, hl2⟩ := u16s_of_trod h2
  exact ⟨H, p1, p2, c1, c2, ws, rs, rfl, hH, hw1, hw2, hl1, hl2⟩

set_option maxRecDepth 100000 in
/-- an array of two bytes that came in -/
theorem pair_open {Ty : Type} {enc : TypeId × Value → Ty} {W : World} {b0 : Nat} {v : Value} {d : DataW Ty} {p : List MemPlace} (hv : Value.okWide Try.prog W .any b0 93 v) (h : DataW.Trod enc Try.prog W 0 (fun _ => true) true 93 v d p) :
    ∃ x y : Nat, v = .agg #[.int .u8 (x : Int), .int .u8 (y : Int)] ∧ x < 256 ∧ y < 256 := by
  have hu : Try.prog.underlying 93 = some (.array 2 5) := by kernel_rfl
  have hc : Try.prog.cellsOf 93 = 2 := by kernel_rfl
  have h5 : Try.prog.cellsOf 5 = 1 := by kernel_rfl
  simp only [Value.okWide, hu] at hv
  obtain ⟨cs, rfl, h2, _⟩ := hv
  rw [hc] at h2
  obtain ⟨a, b, rfl⟩ : ∃ a b, cs = #[a, b] := by
    match cs, h2 with
    | ⟨[a, b]⟩, _ => exact ⟨a, b, rfl⟩
  obtain ⟨fuel, hf⟩ := h
  obtain ⟨xs, m, rfl, _, _, hn, he⟩ := DataW.trod_array hu hf
  have e0 := he 0 (by omega)
  have e1 := he 1 (by omega)
  rw [h5, List.getElem?_eq_getElem (by omega)] at e0 e1
  obtain ⟨x, ex, _, wx⟩ := DataW.trod_int Try.underlying5 e0
  obtain ⟨y, ey, _, wy⟩ := DataW.trod_int Try.underlying5 e1
  simp [Value.cells] at ex ey
  subst ex ey
  obtain ⟨x', rfl, hx⟩ := u8_of wx
  obtain ⟨y', rfl, hy⟩ := u8_of wy
  exact ⟨x', y', rfl, hx, hy⟩
end Go.Proofs.Ytdmgffoikebgkaa
/- Regions that draw their order and whose operations are guarded by tests with known values. -/
namespace Go.Proofs.Ytdmgffoikebgkaa
open Go.RowKit Go.Shelf

/-- each guard is a test among gl that an operation waits for, with the value that lets it run -/
def guardC (ops : Array Oper) (D : Nat → Option Nat) (gl : List (Nat × Bool)) : Bool := (List.range ops.size).all fun i => match ops[i]? with
  | some o => (match o.guard with
    | none => true
    | some q => depB o q.1 && gl.contains q && (D q.1).isSome && ((ops[q.1]?).bind (·.dst) == D q.1))
  | none => true
theorem RSp.of_fitC {ops : Array Oper} {n : Nat} {D : List (Option Nat)} {X : Nat → (Nat → Hd) → Value} {uses : List (List Nat)} {kind : List Nat} {mem : Nat → Mem} {sto : Nat → Option Sto} {gl : List (Nat × Bool)}
    (hn : n = ops.size) (hb : backB ops = true) (hd : dstsB ops (dOf D) = true) (hu : useB ops (uOf uses) (kOf kind) = true) (hg : guardC ops (dOf D) gl = true) (hnd : (D.filterMap id).Nodup)
    (hst : ∀ p ∈ storesOf kind, dOf D p.1 = none ∧ p.2 ∈ uOf uses p.1 ∧ (∀ h, (mem p.2).bl h = [h.b]) ∧ ∀ j, j ≠ p.1 → p.2 ∈ uOf uses j → sto j = none)
    (hX : ∀ p ∈ gl, ∀ hs, X p.1 hs = .bool p.2) :
    (RSp.of n D (fun _ => true) X uses kind mem sto).Fit ops (D.filterMap id) where
  n := hn
  back := hb
  dst := hd
  use := hu
  mem := fun _ _ _ h => dOf_mem h
  inj := fun _ _ _ h1 h2 => dOf_inj hnd h1 h2
  nd := hnd
  st := fun i t h => by
    obtain ⟨h1, h2, h3, h4⟩ := hst (i, t) (kOf_store h)
    refine ⟨h1, h2, h3, fun j hj hm hs W => ?_⟩
    show match sto j with | none => True | some s => BoxAt W (hs s.t).b (s.c hs) s.T
    rw [h4 j hj hm]
    trivial
  gd := fun i o ho => by
    have h := all_ops hg i o ho
    cases hgd : o.guard with
    | none => exact .inl ⟨rfl, rfl⟩
    | some q =>
      obtain ⟨j, b⟩ := q
      rw [hgd] at h
      simp only [Bool.and_eq_true, beq_iff_eq] at h
      obtain ⟨⟨⟨h2, h3⟩, h4⟩, h5⟩ := h
      obtain ⟨d, hd2⟩ := Option.isSome_iff_exists.1 h4
      refine .inr ⟨j, b, d, rfl, h2, hd2, h5.trans hd2, fun hs => ?_, fun h => by cases h⟩
      exact hX (j, b) (by simpa using h3) hs
end Go.Proofs.Ytdmgffoikebgkaa
/- Regions that draw their order, of whose operations some are passed over. -/
namespace Go.Proofs.Ytdmgffoikebgkaa
open Go.RowKit Go.Shelf

/-- the same, where some operations are passed over -/
def guardW (ops : Array Oper) (D : Nat → Option Nat) (wants : Nat → Bool) (gl : List (Nat × Bool)) : Bool := (List.range ops.size).all fun i => match ops[i]? with
  | some o => (match o.guard with
    | none => wants i
    | some q => depB o q.1 && gl.contains (q.1, if wants i then q.2 else !q.2) && (D q.1).isSome && ((ops[q.1]?).bind (·.dst) == D q.1))
  | none => true
theorem RSp.of_fitW {ops : Array Oper} {n : Nat} {D : List (Option Nat)} {X : Nat → (Nat → Hd) → Value} {uses : List (List Nat)} {kind : List Nat} {mem : Nat → Mem} {sto : Nat → Option Sto} {gl : List (Nat × Bool)} {wants : Nat → Bool}
    (hn : n = ops.size) (hb : backB ops = true) (hd : dstsB ops (dOf D) = true) (hu : useB ops (uOf uses) (kOf kind) = true) (hg : guardW ops (dOf D) wants gl = true) (hnd : (D.filterMap id).Nodup)
    (hst : ∀ p ∈ storesOf kind, dOf D p.1 = none ∧ p.2 ∈ uOf uses p.1 ∧ (∀ h, (mem p.2).bl h = [h.b]) ∧ ∀ j, j ≠ p.1 → p.2 ∈ uOf uses j → sto j = none)
    (hX : ∀ p ∈ gl, ∀ hs, X p.1 hs = .bool p.2)
    (hS : ∀ i, wants i = false → (kOf kind i).isMake = false ∧ ∀ hs, X i hs = undef) :
    (RSp.of n D wants X uses kind mem sto).Fit ops (D.filterMap id) where
  n := hn
  back := hb
  dst := hd
  use := hu
  mem := fun _ _ _ h => dOf_mem h
  inj := fun _ _ _ h1 h2 => dOf_inj hnd h1 h2
  nd := hnd
  st := fun i t h => by
    obtain ⟨h1, h2, h3, h4⟩ := hst (i, t) (kOf_store h)
    refine ⟨h1, h2, h3, fun j hj hm hs W => ?_⟩
    show match sto j with | none => True | some s => BoxAt W (hs s.t).b (s.c hs) s.T
    rw [h4 j hj hm]
    trivial
  gd := fun i o ho => by
    have h := all_ops hg i o ho
    cases hgd : o.guard with
    | none =>
      rw [hgd] at h
      exact .inl ⟨rfl, h⟩
    | some q =>
      obtain ⟨j, b⟩ := q
      rw [hgd] at h
      simp only [Bool.and_eq_true, beq_iff_eq] at h
      obtain ⟨⟨⟨h2, h3⟩, h4⟩, h5⟩ := h
      obtain ⟨d, hd2⟩ := Option.isSome_iff_exists.1 h4
      refine .inr ⟨j, b, d, rfl, h2, hd2, h5.trans hd2, fun hs => ?_, hS i⟩
      exact hX (j, if wants i then b else !b) (by simpa using h3) hs
end Go.Proofs.Ytdmgffoikebgkaa
