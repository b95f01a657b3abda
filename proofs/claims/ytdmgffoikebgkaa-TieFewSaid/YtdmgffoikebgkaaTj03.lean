/- TieFew: the region that looks at one warp of Apart. -/
import Derived.Test.YtdmgffoikebgkaaTb01
import Derived.Test.YtdmgffoikebgkaaTb02
import Derived.Test.YtdmgffoikebgkaaTb03
import Derived.Test.YtdmgffoikebgkaaTb04
import Derived.Test.YtdmgffoikebgkaaTb05
import Derived.Test.YtdmgffoikebgkaaTb06
import Derived.Test.YtdmgffoikebgkaaTb07
import Derived.Test.YtdmgffoikebgkaaTb08
import Derived.Test.YtdmgffoikebgkaaTb09
import Derived.Test.YtdmgffoikebgkaaTb10
import Derived.Test.YtdmgffoikebgkaaTb11
import Derived.Test.YtdmgffoikebgkaaTb12
import Derived.Test.YtdmgffoikebgkaaTb13
import Derived.Test.YtdmgffoikebgkaaTb14
import Derived.Test.YtdmgffoikebgkaaTb15
import Derived.Test.YtdmgffoikebgkaaTb16
import Derived.Test.YtdmgffoikebgkaaTb17
import Derived.Test.YtdmgffoikebgkaaTb18
import Derived.Test.YtdmgffoikebgkaaTb19
import Derived.Test.YtdmgffoikebgkaaTb20
import Derived.Test.YtdmgffoikebgkaaTj02
namespace Go.Proofs.Ytdmgffoikebgkaa
open Go.RowKit Go.Shelf
attribute [local go_sem] Oper.semAt_some

def region_tf15aU : List (List Nat) := [[], [], [], [], [], [], [], [], [], [], [], [], [], [], [], [], [], [], [], [], [], [], [], [], [], [], [], [], [], [], []]
def region_tf15aX (_N M T gp qp gh qh E k x : Nat) (_AP : List Nat) : Nat → (Nat → Hd) → Value
  | 0, _ => .slice (some ⟨gp, 0, none⟩) M qp
  | 1, _ => .int .i64 (k : Int)
  | 2, _ => .pointer (some ⟨gp, k, none⟩)
  | 3, _ => .int .i64 (x : Int)
  | 4, _ => .bool false
  | 5, _ => .bool false
  | 6, _ => .slice (some ⟨gp, 0, none⟩) M qp
  | 7, _ => .int .i64 (k : Int)
  | 8, _ => .pointer (some ⟨gp, k, none⟩)
  | 9, _ => .int .i64 (x : Int)
  | 10, _ => .pointer (some ⟨E, 1, none⟩)
  | 11, _ => .slice (some ⟨gh, 0, none⟩) T qh
  | 12, _ => .int .i64 (T : Int)
  | 13, _ => .bool false
  | 14, _ => .bool false
  | 15, _ => .bool false
  | 16, _ => .int .i64 (k : Int)
  | 17, _ => .bool false
  | 18, _ => .bool false
  | 19, _ => undef
  | 20, _ => undef
  | 21, _ => undef
  | 22, _ => undef
  | 23, _ => undef
  | 24, _ => undef
  | 25, _ => undef
  | 26, _ => undef
  | 27, _ => undef
  | 28, _ => undef
  | 29, _ => .bool false
  | 30, _ => .bool false
  | _ + 31, _ => undef
theorem region_tf15aX.congr (N M T gp qp gh qh E k x : Nat) (AP : List Nat) : ∀ i hds hds', (∀ r ∈ uOf region_tf15aU i, hds r = hds' r) → region_tf15aX N M T gp qp gh qh E k x AP i hds = region_tf15aX N M T gp qp gh qh E k x AP i hds'
  | 0, _, _, _ => rfl
  | 1, _, _, _ => rfl
  | 2, _, _, _ => rfl
  | 3, _, _, _ => rfl
  | 4, _, _, _ => rfl
  | 5, _, _, _ => rfl
  | 6, _, _, _ => rfl
  | 7, _, _, _ => rfl
  | 8, _, _, _ => rfl
  | 9, _, _, _ => rfl
  | 10, _, _, _ => rfl
  | 11, _, _, _ => rfl
  | 12, _, _, _ => rfl
  | 13, _, _, _ => rfl
  | 14, _, _, _ => rfl
  | 15, _, _, _ => rfl
  | 16, _, _, _ => rfl
  | 17, _, _, _ => rfl
  | 18, _, _, _ => rfl
  | 19, _, _, _ => rfl
  | 20, _, _, _ => rfl
  | 21, _, _, _ => rfl
  | 22, _, _, _ => rfl
  | 23, _, _, _ => rfl
  | 24, _, _, _ => rfl
  | 25, _, _, _ => rfl
  | 26, _, _, _ => rfl
  | 27, _, _, _ => rfl
  | 28, _, _, _ => rfl
  | 29, _, _, _ => rfl
  | 30, _, _, _ => rfl
  | _ + 31, _, _, _ => rfl
def region_tf15aM (_N _M _T _gp _qp _gh _qh _E _k _x : Nat) (_AP : List Nat) : Nat → Mem
  | _ => memNone
def region_tf15aS (_N _M _T _gp _qp _gh _qh _E _k _x : Nat) (_AP : List Nat) : Nat → Option Sto
  | _ => none
set_option maxRecDepth 8000 in
set_option maxHeartbeats 2000000 in
theorem region_tf15a {id : Nat} {ops : Array Oper} {Q : Exit → Act → World → Prop} {a : Act} {w : World} (N M T gp qp gh qh E k x : Nat) (AP : List Nat) (hAl : AP.length = M) (hkM : k < M) (hM1 : M ≤ 24) (hnp : NatsAt w gp 0 AP) (hgp : gp < w.heap.size) (hx : nthN AP k = x) (hxT : x < T) (hk0 : k < 1) (hE : BoxAt w E #[.int .i64 (N : Int), .slice (some ⟨gh, 0, none⟩) T qh] 26)
    (gsize : ops.size = 31)
    (gops : IsOp ops 0 (some 123) (.move (.tmp 12)) none [] ∧ IsOp ops 1 (some 124) (.move (.tmp 16)) none [] ∧ IsOp ops 2 (some 125) (.indexAddr 24 (.tmp 123) (.tmp 124)) none [0, 1] ∧ IsOp ops 3 (some 126) (.load 3 (.tmp 125)) none [2] ∧ IsOp ops 4 (some 127) (.binOp .lss 3 (.tmp 126) (.const (.int .i64 0)) 3) none [3] ∧ IsOp ops 5 (some 128) (.move (.tmp 127)) none [4] ∧ IsOp ops 6 (some 129) (.move (.tmp 12)) (some (5, false)) [5] ∧ IsOp ops 7 (some 130) (.move (.tmp 16)) (some (5, false)) [5] ∧ IsOp ops 8 (some 131) (.indexAddr 24 (.tmp 129) (.tmp 130)) (some (5, false)) [5, 6, 7] ∧ IsOp ops 9 (some 132) (.load 3 (.tmp 131)) (some (5, false)) [5, 8] ∧ IsOp ops 10 (some 133) (.fieldAddr 26 (.tmp 5) 1) (some (5, false)) [5] ∧ IsOp ops 11 (some 134) (.load 24 (.tmp 133)) (some (5, false)) [5, 10] ∧ IsOpL ops 12 (some 135) (.call { callee := .builtin .len, args := #[.tmp 134], argTypes := #[24] }) (some (5, false)) [5, 11] ∧ IsOp ops 13 (some 136) (.binOp .geq 3 (.tmp 132) (.tmp 135) 3) (some (5, false)) [5, 9, 12] ∧ IsOp ops 14 (some 137) (.pick (.tmp 128) (.const (.bool true)) (.tmp 136)) none [5, 13] ∧ IsOp ops 15 (some 138) (.move (.tmp 137)) none [14] ∧ IsOp ops 16 (some 139) (.move (.tmp 16)) (some (15, false)) [15] ∧ IsOp ops 17 (some 140) (.binOp .gtr 3 (.tmp 139) (.const (.int .i64 0)) 3) (some (15, false)) [15, 16] ∧ IsOp ops 18 (some 141) (.move (.tmp 140)) (some (15, false)) [15, 17] ∧ IsOp ops 19 (some 142) (.move (.tmp 12)) (some (18, true)) [18] ∧ IsOp ops 20 (some 143) (.move (.tmp 16)) (some (18, true)) [18] ∧ IsOp ops 21 (some 144) (.indexAddr 24 (.tmp 142) (.tmp 143)) (some (18, true)) [18, 19, 20] ∧ IsOp ops 22 (some 145) (.load 3 (.tmp 144)) (some (18, true)) [18, 21] ∧ IsOp ops 23 (some 146) (.move (.tmp 12)) (some (18, true)) [18] ∧ IsOp ops 24 (some 147) (.move (.tmp 16)) (some (18, true)) [18] ∧ IsOp ops 25 (some 148) (.binOp .sub 3 (.tmp 147) (.const (.int .i64 1)) 3) (some (18, true)) [18, 24] ∧ IsOp ops 26 (some 149) (.indexAddr 24 (.tmp 146) (.tmp 148)) (some (18, true)) [18, 23, 25] ∧ IsOp ops 27 (some 150) (.load 3 (.tmp 149)) (some (18, true)) [18, 26] ∧ IsOp ops 28 (some 151) (.binOp .leq 3 (.tmp 145) (.tmp 150) 3) (some (18, true)) [18, 22, 27] ∧ IsOp ops 29 (some 152) (.pick (.tmp 141) (.tmp 151) (.const (.bool false))) (some (15, false)) [15, 18, 28] ∧ IsOp ops 30 (some 153) (.pick (.tmp 138) (.const (.bool true)) (.tmp 152)) none [15, 29])
    (gbk : backB ops = true) (gds : dstsB ops (dOf [some 123, some 124, some 125, some 126, some 127, some 128, some 129, some 130, some 131, some 132, some 133, some 134, some 135, some 136, some 137, some 138, some 139, some 140, some 141, some 142, some 143, some 144, some 145, some 146, some 147, some 148, some 149, some 150, some 151, some 152, some 153]) = true) (gus : useB ops (uOf region_tf15aU) (kOf [0, 0, 0, 0, 0, 0, 0, 0, 0, 0, 0, 0, 0, 0, 0, 0, 0, 0, 0, 0, 0, 0, 0, 0, 0, 0, 0, 0, 0, 0, 0]) = true) (ggd : guardW ops (dOf [some 123, some 124, some 125, some 126, some 127, some 128, some 129, some 130, some 131, some 132, some 133, some 134, some 135, some 136, some 137, some 138, some 139, some 140, some 141, some 142, some 143, some 144, some 145, some 146, some 147, some 148, some 149, some 150, some 151, some 152, some 153]) (fun i => i != 19 && i != 20 && i != 21 && i != 22 && i != 23 && i != 24 && i != 25 && i != 26 && i != 27 && i != 28) [(5, false), (15, false), (18, false)] = true) (gsz : ∀ e ∈ [123, 124, 125, 126, 127, 128, 129, 130, 131, 132, 133, 134, 135, 136, 137, 138, 139, 140, 141, 142, 143, 144, 145, 146, 147, 148, 149, 150, 151, 152, 153], e < a.tmps.size)
    (gout : a.eval (.tmp 12) = .slice (some ⟨gp, 0, none⟩) M qp ∧ a.eval (.tmp 16) = .int .i64 (k : Int) ∧ a.eval (.tmp 5) = .pointer (some ⟨E, 0, none⟩))
    (gend : ∀ (u123 u124 u125 u126 u127 u128 u129 u130 u131 u132 u133 u134 u135 u136 u137 u138 u139 u140 u141 u142 u143 u144 u145 u146 u147 u148 u149 u150 u151 u152 : Value) (W : World), Below w.heap.size w W → Q .normal (putL a [(123, u123), (124, u124), (125, u125), (126, u126), (127, u127), (128, u128), (129, u129), (130, u130), (131, u131), (132, u132), (133, u133), (134, u134), (135, u135), (136, u136), (137, u137), (138, u138), (139, u139), (140, u140), (141, u141), (142, u142), (143, u143), (144, u144), (145, u145), (146, u146), (147, u147), (148, u148), (149, u149), (150, u150), (151, u151), (152, u152), (153, .bool false)]) W) :
    (Code.region id ops true).wp Try.prog Q a w := by
  obtain ⟨iop0, iop1, iop2, iop3, iop4, iop5, iop6, iop7, iop8, iop9, iop10, iop11, iop12, iop13, iop14, iop15, iop16, iop17, iop18, iop19, iop20, iop21, iop22, iop23, iop24, iop25, iop26, iop27, iop28, iop29, iop30⟩ := gops
  obtain ⟨o12, o16, o5⟩ := gout
  refine region_all (RSp.of 31 [some 123, some 124, some 125, some 126, some 127, some 128, some 129, some 130, some 131, some 132, some 133, some 134, some 135, some 136, some 137, some 138, some 139, some 140, some 141, some 142, some 143, some 144, some 145, some 146, some 147, some 148, some 149, some 150, some 151, some 152, some 153] (fun i => i != 19 && i != 20 && i != 21 && i != 22 && i != 23 && i != 24 && i != 25 && i != 26 && i != 27 && i != 28) (region_tf15aX N M T gp qp gh qh E k x AP) region_tf15aU [0, 0, 0, 0, 0, 0, 0, 0, 0, 0, 0, 0, 0, 0, 0, 0, 0, 0, 0, 0, 0, 0, 0, 0, 0, 0, 0, 0, 0, 0, 0] (region_tf15aM N M T gp qp gh qh E k x AP) (region_tf15aS N M T gp qp gh qh E k x AP)) [(12, .slice (some ⟨gp, 0, none⟩) M qp), (16, .int .i64 (k : Int)), (5, .pointer (some ⟨E, 0, none⟩))] [123, 124, 125, 126, 127, 128, 129, 130, 131, 132, 133, 134, 135, 136, 137, 138, 139, 140, 141, 142, 143, 144, 145, 146, 147, 148, 149, 150, 151, 152, 153] (RSp.of_fitW gsize.symm gbk gds gus ggd (by decide) ?_ ?_ ?_) (RSp.of_ok _ (region_tf15aX.congr N M T gp qp gh qh E k x AP) ?_) gsz ?_ ?_ ?_
  · intro p hp
    have hp2 : p ∈ ([] : List (Nat × Nat)) := hp
    cases hp2
  · intro j hj hds
    simp only [List.mem_cons, List.not_mem_nil, or_false] at hj
    rcases hj with rfl | rfl | rfl
    all_goals rfl
  · intro i hi
    simp only [Bool.and_eq_false_iff, bne_eq_false_iff_eq] at hi
    rcases hi with ((((((((rfl | rfl) | rfl) | rfl) | rfl) | rfl) | rfl) | rfl) | rfl) | rfl
    all_goals exact ⟨rfl, fun _ => rfl⟩
  · intro i s hds
    match i, hds with
    | 0, hds => cases hds
    | 1, hds => cases hds
    | 2, hds => cases hds
    | 3, hds => cases hds
    | 4, hds => cases hds
    | 5, hds => cases hds
    | 6, hds => cases hds
    | 7, hds => cases hds
    | 8, hds => cases hds
    | 9, hds => cases hds
    | 10, hds => cases hds
    | 11, hds => cases hds
    | 12, hds => cases hds
    | 13, hds => cases hds
    | 14, hds => cases hds
    | 15, hds => cases hds
    | 16, hds => cases hds
    | 17, hds => cases hds
    | 18, hds => cases hds
    | 19, hds => cases hds
    | 20, hds => cases hds
    | 21, hds => cases hds
    | 22, hds => cases hds
    | 23, hds => cases hds
    | 24, hds => cases hds
    | 25, hds => cases hds
    | 26, hds => cases hds
    | 27, hds => cases hds
    | 28, hds => cases hds
    | 29, hds => cases hds
    | 30, hds => cases hds
    | _ + 31, hds => cases hds
  · intro q hq
    simp only [List.mem_cons, List.not_mem_nil, or_false] at hq
    rcases hq with rfl | rfl | rfl
    · exact ⟨o12, by simp⟩
    · exact ⟨o16, by simp⟩
    · exact ⟨o5, by simp⟩
  · intro i o ho hw
    have hi : i < 31 := by rw [← gsize]; exact (Array.getElem?_eq_some_iff.1 ho).1
    match i, hi with
    | 0, _ =>
      obtain ⟨ty, pos, aft, e, hdp⟩ := iop0
      rw [e] at ho
      obtain rfl := Option.some.inj ho
      intro a' hds W K hB lq ld hmem hK
      have e12 : a'.eval (.tmp 12) = .slice (some ⟨gp, 0, none⟩) M qp := by rw [eval_tmp]; exact lq (12, .slice (some ⟨gp, 0, none⟩) M qp) (by simp)
      have t12 := (eval_tmp a' 12).symm.trans e12
      have HK := Lib.hid (show K (a'.put (some 123) (.slice (some ⟨gp, 0, none⟩) M qp)) W from hK W (Below.refl _ _) trivial)
      clear hK ld lq hmem
      unfold Oper.wp
      simp only [execOp, e12]
      exact HK.out
    | 1, _ =>
      obtain ⟨ty, pos, aft, e, hdp⟩ := iop1
      rw [e] at ho
      obtain rfl := Option.some.inj ho
      intro a' hds W K hB lq ld hmem hK
      have e16 : a'.eval (.tmp 16) = .int .i64 (k : Int) := by rw [eval_tmp]; exact lq (16, .int .i64 (k : Int)) (by simp)
      have t16 := (eval_tmp a' 16).symm.trans e16
      have HK := Lib.hid (show K (a'.put (some 124) (.int .i64 (k : Int))) W from hK W (Below.refl _ _) trivial)
      clear hK ld lq hmem
      unfold Oper.wp
      simp only [execOp, e16]
      exact HK.out
    | 2, _ =>
      obtain ⟨ty, pos, aft, e, hdp⟩ := iop2
      rw [e] at ho
      obtain rfl := Option.some.inj ho
      intro a' hds W K hB lq ld hmem hK
      have e123 : a'.eval (.tmp 123) = .slice (some ⟨gp, 0, none⟩) M qp := by rw [eval_tmp]; exact ld 0 123 (List.all_eq_true.1 hdp 0 (by decide)) rfl
      have t123 := (eval_tmp a' 123).symm.trans e123
      have e124 : a'.eval (.tmp 124) = .int .i64 (k : Int) := by rw [eval_tmp]; exact ld 1 124 (List.all_eq_true.1 hdp 1 (by decide)) rfl
      have t124 := (eval_tmp a' 124).symm.trans e124
      have HK := Lib.hid (show K (a'.put (some 125) (.pointer (some ⟨gp, k, none⟩))) W from hK W (Below.refl _ _) trivial)
      clear hK ld lq hmem
      unfold Oper.wp
      simp only [execOp, e123, e124]
      go_simp
      exact HK.out
    | 3, _ =>
      obtain ⟨ty, pos, aft, e, hdp⟩ := iop3
      rw [e] at ho
      obtain rfl := Option.some.inj ho
      intro a' hds W K hB lq ld hmem hK
      have e125 : a'.eval (.tmp 125) = .pointer (some ⟨gp, k, none⟩) := by rw [eval_tmp]; exact ld 2 125 (List.all_eq_true.1 hdp 2 (by decide)) rfl
      have t125 := (eval_tmp a' 125).symm.trans e125
      have HK := Lib.hid (show K (a'.put (some 126) (.int .i64 (x : Int))) W from hK W (Below.refl _ _) trivial)
      clear hK ld lq hmem
      have h0 := (hnp.below hB hgp) k (by omega)
      rw [Nat.zero_add, hx] at h0
      unfold Oper.wp
      simp only [execOp, e125]
      go_simp
      exact HK.out
    | 4, _ =>
      obtain ⟨ty, pos, aft, e, hdp⟩ := iop4
      rw [e] at ho
      obtain rfl := Option.some.inj ho
      intro a' hds W K hB lq ld hmem hK
      have e126 : a'.eval (.tmp 126) = .int .i64 (x : Int) := by rw [eval_tmp]; exact ld 3 126 (List.all_eq_true.1 hdp 3 (by decide)) rfl
      have t126 := (eval_tmp a' 126).symm.trans e126
      have HK := Lib.hid (show K (a'.put (some 127) (.bool false)) W from hK W (Below.refl _ _) trivial)
      clear hK ld lq hmem
      have hd := decide_eq_false (p := (x : Int) < 0) (by omega)
      unfold Oper.wp
      simp only [execOp, e126]
      go_simp
      exact HK.out
    | 5, _ =>
      obtain ⟨ty, pos, aft, e, hdp⟩ := iop5
      rw [e] at ho
      obtain rfl := Option.some.inj ho
      intro a' hds W K hB lq ld hmem hK
      have e127 : a'.eval (.tmp 127) = .bool false := by rw [eval_tmp]; exact ld 4 127 (List.all_eq_true.1 hdp 4 (by decide)) rfl
      have t127 := (eval_tmp a' 127).symm.trans e127
      have HK := Lib.hid (show K (a'.put (some 128) (.bool false)) W from hK W (Below.refl _ _) trivial)
      clear hK ld lq hmem
      unfold Oper.wp
      simp only [execOp, e127]
      exact HK.out
    | 6, _ =>
      obtain ⟨ty, pos, aft, e, hdp⟩ := iop6
      rw [e] at ho
      obtain rfl := Option.some.inj ho
      intro a' hds W K hB lq ld hmem hK
      have e12 : a'.eval (.tmp 12) = .slice (some ⟨gp, 0, none⟩) M qp := by rw [eval_tmp]; exact lq (12, .slice (some ⟨gp, 0, none⟩) M qp) (by simp)
      have t12 := (eval_tmp a' 12).symm.trans e12
      have HK := Lib.hid (show K (a'.put (some 129) (.slice (some ⟨gp, 0, none⟩) M qp)) W from hK W (Below.refl _ _) trivial)
      clear hK ld lq hmem
      unfold Oper.wp
      simp only [execOp, e12]
      exact HK.out
    | 7, _ =>
      obtain ⟨ty, pos, aft, e, hdp⟩ := iop7
      rw [e] at ho
      obtain rfl := Option.some.inj ho
      intro a' hds W K hB lq ld hmem hK
      have e16 : a'.eval (.tmp 16) = .int .i64 (k : Int) := by rw [eval_tmp]; exact lq (16, .int .i64 (k : Int)) (by simp)
      have t16 := (eval_tmp a' 16).symm.trans e16
      have HK := Lib.hid (show K (a'.put (some 130) (.int .i64 (k : Int))) W from hK W (Below.refl _ _) trivial)
      clear hK ld lq hmem
      unfold Oper.wp
      simp only [execOp, e16]
      exact HK.out
    | 8, _ =>
      obtain ⟨ty, pos, aft, e, hdp⟩ := iop8
      rw [e] at ho
      obtain rfl := Option.some.inj ho
      intro a' hds W K hB lq ld hmem hK
      have e129 : a'.eval (.tmp 129) = .slice (some ⟨gp, 0, none⟩) M qp := by rw [eval_tmp]; exact ld 6 129 (List.all_eq_true.1 hdp 6 (by decide)) rfl
      have t129 := (eval_tmp a' 129).symm.trans e129
      have e130 : a'.eval (.tmp 130) = .int .i64 (k : Int) := by rw [eval_tmp]; exact ld 7 130 (List.all_eq_true.1 hdp 7 (by decide)) rfl
      have t130 := (eval_tmp a' 130).symm.trans e130
      have HK := Lib.hid (show K (a'.put (some 131) (.pointer (some ⟨gp, k, none⟩))) W from hK W (Below.refl _ _) trivial)
      clear hK ld lq hmem
      unfold Oper.wp
      simp only [execOp, e129, e130]
      go_simp
      exact HK.out
    | 9, _ =>
      obtain ⟨ty, pos, aft, e, hdp⟩ := iop9
      rw [e] at ho
      obtain rfl := Option.some.inj ho
      intro a' hds W K hB lq ld hmem hK
      have e131 : a'.eval (.tmp 131) = .pointer (some ⟨gp, k, none⟩) := by rw [eval_tmp]; exact ld 8 131 (List.all_eq_true.1 hdp 8 (by decide)) rfl
      have t131 := (eval_tmp a' 131).symm.trans e131
      have HK := Lib.hid (show K (a'.put (some 132) (.int .i64 (x : Int))) W from hK W (Below.refl _ _) trivial)
      clear hK ld lq hmem
      have h0 := (hnp.below hB hgp) k (by omega)
      rw [Nat.zero_add, hx] at h0
      unfold Oper.wp
      simp only [execOp, e131]
      go_simp
      exact HK.out
    | 10, _ =>
      obtain ⟨ty, pos, aft, e, hdp⟩ := iop10
      rw [e] at ho
      obtain rfl := Option.some.inj ho
      intro a' hds W K hB lq ld hmem hK
      have e5 : a'.eval (.tmp 5) = .pointer (some ⟨E, 0, none⟩) := by rw [eval_tmp]; exact lq (5, .pointer (some ⟨E, 0, none⟩)) (by simp)
      have t5 := (eval_tmp a' 5).symm.trans e5
      have HK := Lib.hid (show K (a'.put (some 133) (.pointer (some ⟨E, 1, none⟩))) W from hK W (Below.refl _ _) trivial)
      clear hK ld lq hmem
      unfold Oper.wp
      simp only [execOp, e5]
      go_simp
      exact HK.out
    | 11, _ =>
      obtain ⟨ty, pos, aft, e, hdp⟩ := iop11
      rw [e] at ho
      obtain rfl := Option.some.inj ho
      intro a' hds W K hB lq ld hmem hK
      have e133 : a'.eval (.tmp 133) = .pointer (some ⟨E, 1, none⟩) := by rw [eval_tmp]; exact ld 10 133 (List.all_eq_true.1 hdp 10 (by decide)) rfl
      have t133 := (eval_tmp a' 133).symm.trans e133
      have HK := Lib.hid (show K (a'.put (some 134) (.slice (some ⟨gh, 0, none⟩) T qh)) W from hK W (Below.refl _ _) trivial)
      clear hK ld lq hmem
      have c1 := (hE.next hB).cell' 1 rfl
      unfold Oper.wp
      simp only [execOp, e133]
      go_simp
      exact HK.out
    | 12, _ =>
      obtain ⟨pos, aft, e, hdp⟩ := iop12
      rw [e] at ho
      obtain rfl := Option.some.inj ho
      intro a' hds W K hB lq ld hmem hK
      have e134 : a'.eval (.tmp 134) = .slice (some ⟨gh, 0, none⟩) T qh := by rw [eval_tmp]; exact ld 11 134 (List.all_eq_true.1 hdp 11 (by decide)) rfl
      have t134 := (eval_tmp a' 134).symm.trans e134
      have HK := Lib.hid (show K (a'.put (some 135) (.int .i64 (T : Int))) W from hK W (Below.refl _ _) trivial)
      clear hK ld lq hmem
      unfold Oper.wp
      simp only [execOp, e134]
      go_simp
      exact HK.out
    | 13, _ =>
      obtain ⟨ty, pos, aft, e, hdp⟩ := iop13
      rw [e] at ho
      obtain rfl := Option.some.inj ho
      intro a' hds W K hB lq ld hmem hK
      have e132 : a'.eval (.tmp 132) = .int .i64 (x : Int) := by rw [eval_tmp]; exact ld 9 132 (List.all_eq_true.1 hdp 9 (by decide)) rfl
      have t132 := (eval_tmp a' 132).symm.trans e132
      have e135 : a'.eval (.tmp 135) = .int .i64 (T : Int) := by rw [eval_tmp]; exact ld 12 135 (List.all_eq_true.1 hdp 12 (by decide)) rfl
      have t135 := (eval_tmp a' 135).symm.trans e135
      have HK := Lib.hid (show K (a'.put (some 136) (.bool false)) W from hK W (Below.refl _ _) trivial)
      clear hK ld lq hmem
      unfold Oper.wp
      simp only [execOp, e132, e135]
      go_simp
      first | exact HK.out | (rw [show decide (T ≤ x) = false from decide_eq_false (by omega)]; exact HK.out)
    | 14, _ =>
      obtain ⟨ty, pos, aft, e, hdp⟩ := iop14
      rw [e] at ho
      obtain rfl := Option.some.inj ho
      intro a' hds W K hB lq ld hmem hK
      have e128 : a'.eval (.tmp 128) = .bool false := by rw [eval_tmp]; exact ld 5 128 (List.all_eq_true.1 hdp 5 (by decide)) rfl
      have t128 := (eval_tmp a' 128).symm.trans e128
      have e136 : a'.eval (.tmp 136) = .bool false := by rw [eval_tmp]; exact ld 13 136 (List.all_eq_true.1 hdp 13 (by decide)) rfl
      have t136 := (eval_tmp a' 136).symm.trans e136
      have HK := Lib.hid (show K (a'.put (some 137) (.bool false)) W from hK W (Below.refl _ _) trivial)
      clear hK ld lq hmem
      unfold Oper.wp
      simp only [execOp, e128, e136]
      go_simp
      exact HK.out
    | 15, _ =>
      obtain ⟨ty, pos, aft, e, hdp⟩ := iop15
      rw [e] at ho
      obtain rfl := Option.some.inj ho
      intro a' hds W K hB lq ld hmem hK
      have e137 : a'.eval (.tmp 137) = .bool false := by rw [eval_tmp]; exact ld 14 137 (List.all_eq_true.1 hdp 14 (by decide)) rfl
      have t137 := (eval_tmp a' 137).symm.trans e137
      have HK := Lib.hid (show K (a'.put (some 138) (.bool false)) W from hK W (Below.refl _ _) trivial)
      clear hK ld lq hmem
      unfold Oper.wp
      simp only [execOp, e137]
      exact HK.out
    | 16, _ =>
      obtain ⟨ty, pos, aft, e, hdp⟩ := iop16
      rw [e] at ho
      obtain rfl := Option.some.inj ho
      intro a' hds W K hB lq ld hmem hK
      have e16 : a'.eval (.tmp 16) = .int .i64 (k : Int) := by rw [eval_tmp]; exact lq (16, .int .i64 (k : Int)) (by simp)
      have t16 := (eval_tmp a' 16).symm.trans e16
      have HK := Lib.hid (show K (a'.put (some 139) (.int .i64 (k : Int))) W from hK W (Below.refl _ _) trivial)
      clear hK ld lq hmem
      unfold Oper.wp
      simp only [execOp, e16]
      exact HK.out
    | 17, _ =>
      obtain ⟨ty, pos, aft, e, hdp⟩ := iop17
      rw [e] at ho
      obtain rfl := Option.some.inj ho
      intro a' hds W K hB lq ld hmem hK
      have e139 : a'.eval (.tmp 139) = .int .i64 (k : Int) := by rw [eval_tmp]; exact ld 16 139 (List.all_eq_true.1 hdp 16 (by decide)) rfl
      have t139 := (eval_tmp a' 139).symm.trans e139
      have HK := Lib.hid (show K (a'.put (some 140) (.bool false)) W from hK W (Below.refl _ _) trivial)
      clear hK ld lq hmem
      unfold Oper.wp
      simp only [execOp, e139]
      go_simp
      first | exact HK.out | (rw [show decide (0 < k) = false from decide_eq_false (by omega)]; exact HK.out)
    | 18, _ =>
      obtain ⟨ty, pos, aft, e, hdp⟩ := iop18
      rw [e] at ho
      obtain rfl := Option.some.inj ho
      intro a' hds W K hB lq ld hmem hK
      have e140 : a'.eval (.tmp 140) = .bool false := by rw [eval_tmp]; exact ld 17 140 (List.all_eq_true.1 hdp 17 (by decide)) rfl
      have t140 := (eval_tmp a' 140).symm.trans e140
      have HK := Lib.hid (show K (a'.put (some 141) (.bool false)) W from hK W (Below.refl _ _) trivial)
      clear hK ld lq hmem
      unfold Oper.wp
      simp only [execOp, e140]
      exact HK.out
    | 19, _ => exact absurd (show (fun i => i != 19 && i != 20 && i != 21 && i != 22 && i != 23 && i != 24 && i != 25 && i != 26 && i != 27 && i != 28) 19 = true from hw) (by decide)
    | 20, _ => exact absurd (show (fun i => i != 19 && i != 20 && i != 21 && i != 22 && i != 23 && i != 24 && i != 25 && i != 26 && i != 27 && i != 28) 20 = true from hw) (by decide)
    | 21, _ => exact absurd (show (fun i => i != 19 && i != 20 && i != 21 && i != 22 && i != 23 && i != 24 && i != 25 && i != 26 && i != 27 && i != 28) 21 = true from hw) (by decide)
    | 22, _ => exact absurd (show (fun i => i != 19 && i != 20 && i != 21 && i != 22 && i != 23 && i != 24 && i != 25 && i != 26 && i != 27 && i != 28) 22 = true from hw) (by decide)
    | 23, _ => exact absurd (show (fun i => i != 19 && i != 20 && i != 21 && i != 22 && i != 23 && i != 24 && i != 25 && i != 26 && i != 27 && i != 28) 23 = true from hw) (by decide)
    | 24, _ => exact absurd (show (fun i => i != 19 && i != 20 && i != 21 && i != 22 && i != 23 && i != 24 && i != 25 && i != 26 && i != 27 && i != 28) 24 = true from hw) (by decide)
    | 25, _ => exact absurd (show (fun i => i != 19 && i != 20 && i != 21 && i != 22 && i != 23 && i != 24 && i != 25 && i != 26 && i != 27 && i != 28) 25 = true from hw) (by decide)
    | 26, _ => exact absurd (show (fun i => i != 19 && i != 20 && i != 21 && i != 22 && i != 23 && i != 24 && i != 25 && i != 26 && i != 27 && i != 28) 26 = true from hw) (by decide)
    | 27, _ => exact absurd (show (fun i => i != 19 && i != 20 && i != 21 && i != 22 && i != 23 && i != 24 && i != 25 && i != 26 && i != 27 && i != 28) 27 = true from hw) (by decide)
    | 28, _ => exact absurd (show (fun i => i != 19 && i != 20 && i != 21 && i != 22 && i != 23 && i != 24 && i != 25 && i != 26 && i != 27 && i != 28) 28 = true from hw) (by decide)
    | 29, _ =>
      obtain ⟨ty, pos, aft, e, hdp⟩ := iop29
      rw [e] at ho
      obtain rfl := Option.some.inj ho
      intro a' hds W K hB lq ld hmem hK
      have e141 : a'.eval (.tmp 141) = .bool false := by rw [eval_tmp]; exact ld 18 141 (List.all_eq_true.1 hdp 18 (by decide)) rfl
      have t141 := (eval_tmp a' 141).symm.trans e141
      have e151 : a'.eval (.tmp 151) = undef := by rw [eval_tmp]; exact ld 28 151 (List.all_eq_true.1 hdp 28 (by decide)) rfl
      have t151 := (eval_tmp a' 151).symm.trans e151
      have HK := Lib.hid (show K (a'.put (some 152) (.bool false)) W from hK W (Below.refl _ _) trivial)
      clear hK ld lq hmem
      unfold Oper.wp
      simp only [execOp, e141, e151]
      go_simp
      exact HK.out
    | 30, _ =>
      obtain ⟨ty, pos, aft, e, hdp⟩ := iop30
      rw [e] at ho
      obtain rfl := Option.some.inj ho
      intro a' hds W K hB lq ld hmem hK
      have e138 : a'.eval (.tmp 138) = .bool false := by rw [eval_tmp]; exact ld 15 138 (List.all_eq_true.1 hdp 15 (by decide)) rfl
      have t138 := (eval_tmp a' 138).symm.trans e138
      have e152 : a'.eval (.tmp 152) = .bool false := by rw [eval_tmp]; exact ld 29 152 (List.all_eq_true.1 hdp 29 (by decide)) rfl
      have t152 := (eval_tmp a' 152).symm.trans e152
      have HK := Lib.hid (show K (a'.put (some 153) (.bool false)) W from hK W (Below.refl _ _) trivial)
      clear hK ld lq hmem
      unfold Oper.wp
      simp only [execOp, e138, e152]
      go_simp
      exact HK.out
    | i + 31, h => omega
  · intro hds v W hO
    have hfin := gend (v 123) (v 124) (v 125) (v 126) (v 127) (v 128) (v 129) (v 130) (v 131) (v 132) (v 133) (v 134) (v 135) (v 136) (v 137) (v 138) (v 139) (v 140) (v 141) (v 142) (v 143) (v 144) (v 145) (v 146) (v 147) (v 148) (v 149) (v 150) (v 151) (v 152) W hO.b
    rw [← laid_putL _ a v ?_] at hfin
    · exact hfin
    · intro p hp
      simp only [List.mem_cons, List.not_mem_nil, or_false] at hp
      rcases hp with rfl | rfl | rfl | rfl | rfl | rfl | rfl | rfl | rfl | rfl | rfl | rfl | rfl | rfl | rfl | rfl | rfl | rfl | rfl | rfl | rfl | rfl | rfl | rfl | rfl | rfl | rfl | rfl | rfl | rfl | rfl
      · rfl
      · rfl
      · rfl
      · rfl
      · rfl
      · rfl
      · rfl
      · rfl
      · rfl
      · rfl
      · rfl
      · rfl
      · rfl
      · rfl
      · rfl
      · rfl
      · rfl
      · rfl
      · rfl
      · rfl
      · rfl
      · rfl
      · rfl
      · rfl
      · rfl
      · rfl
      · rfl
      · rfl
      · rfl
      · rfl
      · exact hO.x 30 (show 30 < 31 by decide) 153 rfl
def region_tf15bU : List (List Nat) := [[], [], [], [], [], [], [], [], [], [], [], [], [], [], [], [], [], [], [], [], [], [], [], [], [], [], [], [], [], [], []]
def region_tf15bX (_N M T gp qp gh qh E k x j y : Nat) (_AP : List Nat) : Nat → (Nat → Hd) → Value
  | 0, _ => .slice (some ⟨gp, 0, none⟩) M qp
  | 1, _ => .int .i64 (k : Int)
  | 2, _ => .pointer (some ⟨gp, k, none⟩)
  | 3, _ => .int .i64 (x : Int)
  | 4, _ => .bool false
  | 5, _ => .bool false
  | 6, _ => .slice (some ⟨gp, 0, none⟩) M qp
  | 7, _ => .int .i64 (k : Int)
  | 8, _ => .pointer (some ⟨gp, k, none⟩)
  | 9, _ => .int .i64 (x : Int)
  | 10, _ => .pointer (some ⟨E, 1, none⟩)
  | 11, _ => .slice (some ⟨gh, 0, none⟩) T qh
  | 12, _ => .int .i64 (T : Int)
  | 13, _ => .bool false
  | 14, _ => .bool false
  | 15, _ => .bool false
  | 16, _ => .int .i64 (k : Int)
  | 17, _ => .bool true
  | 18, _ => .bool true
  | 19, _ => .slice (some ⟨gp, 0, none⟩) M qp
  | 20, _ => .int .i64 (k : Int)
  | 21, _ => .pointer (some ⟨gp, k, none⟩)
  | 22, _ => .int .i64 (x : Int)
  | 23, _ => .slice (some ⟨gp, 0, none⟩) M qp
  | 24, _ => .int .i64 (k : Int)
  | 25, _ => .int .i64 (j : Int)
  | 26, _ => .pointer (some ⟨gp, j, none⟩)
  | 27, _ => .int .i64 (y : Int)
  | 28, _ => .bool false
  | 29, _ => .bool false
  | 30, _ => .bool false
  | _ + 31, _ => undef
theorem region_tf15bX.congr (N M T gp qp gh qh E k x j y : Nat) (AP : List Nat) : ∀ i hds hds', (∀ r ∈ uOf region_tf15bU i, hds r = hds' r) → region_tf15bX N M T gp qp gh qh E k x j y AP i hds = region_tf15bX N M T gp qp gh qh E k x j y AP i hds'
  | 0, _, _, _ => rfl
  | 1, _, _, _ => rfl
  | 2, _, _, _ => rfl
  | 3, _, _, _ => rfl
  | 4, _, _, _ => rfl
  | 5, _, _, _ => rfl
  | 6, _, _, _ => rfl
  | 7, _, _, _ => rfl
  | 8, _, _, _ => rfl
  | 9, _, _, _ => rfl
  | 10, _, _, _ => rfl
  | 11, _, _, _ => rfl
  | 12, _, _, _ => rfl
  | 13, _, _, _ => rfl
  | 14, _, _, _ => rfl
  | 15, _, _, _ => rfl
  | 16, _, _, _ => rfl
  | 17, _, _, _ => rfl
  | 18, _, _, _ => rfl
  | 19, _, _, _ => rfl
  | 20, _, _, _ => rfl
  | 21, _, _, _ => rfl
  | 22, _, _, _ => rfl
  | 23, _, _, _ => rfl
  | 24, _, _, _ => rfl
  | 25, _, _, _ => rfl
  | 26, _, _, _ => rfl
  | 27, _, _, _ => rfl
  | 28, _, _, _ => rfl
  | 29, _, _, _ => rfl
  | 30, _, _, _ => rfl
  | _ + 31, _, _, _ => rfl
def region_tf15bM (_N _M _T _gp _qp _gh _qh _E _k _x _j _y : Nat) (_AP : List Nat) : Nat → Mem
  | _ => memNone
def region_tf15bS (_N _M _T _gp _qp _gh _qh _E _k _x _j _y : Nat) (_AP : List Nat) : Nat → Option Sto
  | _ => none
set_option maxRecDepth 8000 in
set_option maxHeartbeats 2000000 in
theorem region_tf15b {id : Nat} {ops : Array Oper} {Q : Exit → Act → World → Prop} {a : Act} {w : World} (N M T gp qp gh qh E k x j y : Nat) (AP : List Nat) (hAl : AP.length = M) (hkM : k < M) (hM1 : M ≤ 24) (hnp : NatsAt w gp 0 AP) (hgp : gp < w.heap.size) (hx : nthN AP k = x) (hxT : x < T) (hj1 : k ≤ j + 1) (hj2 : j + 1 ≤ k) (hy : nthN AP j = y) (hyx : y < x) (hE : BoxAt w E #[.int .i64 (N : Int), .slice (some ⟨gh, 0, none⟩) T qh] 26)
    (gsize : ops.size = 31)
    (gops : IsOp ops 0 (some 123) (.move (.tmp 12)) none [] ∧ IsOp ops 1 (some 124) (.move (.tmp 16)) none [] ∧ IsOp ops 2 (some 125) (.indexAddr 24 (.tmp 123) (.tmp 124)) none [0, 1] ∧ IsOp ops 3 (some 126) (.load 3 (.tmp 125)) none [2] ∧ IsOp ops 4 (some 127) (.binOp .lss 3 (.tmp 126) (.const (.int .i64 0)) 3) none [3] ∧ IsOp ops 5 (some 128) (.move (.tmp 127)) none [4] ∧ IsOp ops 6 (some 129) (.move (.tmp 12)) (some (5, false)) [5] ∧ IsOp ops 7 (some 130) (.move (.tmp 16)) (some (5, false)) [5] ∧ IsOp ops 8 (some 131) (.indexAddr 24 (.tmp 129) (.tmp 130)) (some (5, false)) [5, 6, 7] ∧ IsOp ops 9 (some 132) (.load 3 (.tmp 131)) (some (5, false)) [5, 8] ∧ IsOp ops 10 (some 133) (.fieldAddr 26 (.tmp 5) 1) (some (5, false)) [5] ∧ IsOp ops 11 (some 134) (.load 24 (.tmp 133)) (some (5, false)) [5, 10] ∧ IsOpL ops 12 (some 135) (.call { callee := .builtin .len, args := #[.tmp 134], argTypes := #[24] }) (some (5, false)) [5, 11] ∧ IsOp ops 13 (some 136) (.binOp .geq 3 (.tmp 132) (.tmp 135) 3) (some (5, false)) [5, 9, 12] ∧ IsOp ops 14 (some 137) (.pick (.tmp 128) (.const (.bool true)) (.tmp 136)) none [5, 13] ∧ IsOp ops 15 (some 138) (.move (.tmp 137)) none [14] ∧ IsOp ops 16 (some 139) (.move (.tmp 16)) (some (15, false)) [15] ∧ IsOp ops 17 (some 140) (.binOp .gtr 3 (.tmp 139) (.const (.int .i64 0)) 3) (some (15, false)) [15, 16] ∧ IsOp ops 18 (some 141) (.move (.tmp 140)) (some (15, false)) [15, 17] ∧ IsOp ops 19 (some 142) (.move (.tmp 12)) (some (18, true)) [18] ∧ IsOp ops 20 (some 143) (.move (.tmp 16)) (some (18, true)) [18] ∧ IsOp ops 21 (some 144) (.indexAddr 24 (.tmp 142) (.tmp 143)) (some (18, true)) [18, 19, 20] ∧ IsOp ops 22 (some 145) (.load 3 (.tmp 144)) (some (18, true)) [18, 21] ∧ IsOp ops 23 (some 146) (.move (.tmp 12)) (some (18, true)) [18] ∧ IsOp ops 24 (some 147) (.move (.tmp 16)) (some (18, true)) [18] ∧ IsOp ops 25 (some 148) (.binOp .sub 3 (.tmp 147) (.const (.int .i64 1)) 3) (some (18, true)) [18, 24] ∧ IsOp ops 26 (some 149) (.indexAddr 24 (.tmp 146) (.tmp 148)) (some (18, true)) [18, 23, 25] ∧ IsOp ops 27 (some 150) (.load 3 (.tmp 149)) (some (18, true)) [18, 26] ∧ IsOp ops 28 (some 151) (.binOp .leq 3 (.tmp 145) (.tmp 150) 3) (some (18, true)) [18, 22, 27] ∧ IsOp ops 29 (some 152) (.pick (.tmp 141) (.tmp 151) (.const (.bool false))) (some (15, false)) [15, 18, 28] ∧ IsOp ops 30 (some 153) (.pick (.tmp 138) (.const (.bool true)) (.tmp 152)) none [15, 29])
    (gbk : backB ops = true) (gds : dstsB ops (dOf [some 123, some 124, some 125, some 126, some 127, some 128, some 129, some 130, some 131, some 132, some 133, some 134, some 135, some 136, some 137, some 138, some 139, some 140, some 141, some 142, some 143, some 144, some 145, some 146, some 147, some 148, some 149, some 150, some 151, some 152, some 153]) = true) (gus : useB ops (uOf region_tf15bU) (kOf [0, 0, 0, 0, 0, 0, 0, 0, 0, 0, 0, 0, 0, 0, 0, 0, 0, 0, 0, 0, 0, 0, 0, 0, 0, 0, 0, 0, 0, 0, 0]) = true) (ggd : guardC ops (dOf [some 123, some 124, some 125, some 126, some 127, some 128, some 129, some 130, some 131, some 132, some 133, some 134, some 135, some 136, some 137, some 138, some 139, some 140, some 141, some 142, some 143, some 144, some 145, some 146, some 147, some 148, some 149, some 150, some 151, some 152, some 153]) [(5, false), (15, false), (18, true)] = true) (gsz : ∀ e ∈ [123, 124, 125, 126, 127, 128, 129, 130, 131, 132, 133, 134, 135, 136, 137, 138, 139, 140, 141, 142, 143, 144, 145, 146, 147, 148, 149, 150, 151, 152, 153], e < a.tmps.size)
    (gout : a.eval (.tmp 12) = .slice (some ⟨gp, 0, none⟩) M qp ∧ a.eval (.tmp 16) = .int .i64 (k : Int) ∧ a.eval (.tmp 5) = .pointer (some ⟨E, 0, none⟩))
    (gend : ∀ (u123 u124 u125 u126 u127 u128 u129 u130 u131 u132 u133 u134 u135 u136 u137 u138 u139 u140 u141 u142 u143 u144 u145 u146 u147 u148 u149 u150 u151 u152 : Value) (W : World), Below w.heap.size w W → Q .normal (putL a [(123, u123), (124, u124), (125, u125), (126, u126), (127, u127), (128, u128), (129, u129), (130, u130), (131, u131), (132, u132), (133, u133), (134, u134), (135, u135), (136, u136), (137, u137), (138, u138), (139, u139), (140, u140), (141, u141), (142, u142), (143, u143), (144, u144), (145, u145), (146, u146), (147, u147), (148, u148), (149, u149), (150, u150), (151, u151), (152, u152), (153, .bool false)]) W) :
    (Code.region id ops true).wp Try.prog Q a w := by
  obtain ⟨iop0, iop1, iop2, iop3, iop4, iop5, iop6, iop7, iop8, iop9, iop10, iop11, iop12, iop13, iop14, iop15, iop16, iop17, iop18, iop19, iop20, iop21, iop22, iop23, iop24, iop25, iop26, iop27, iop28, iop29, iop30⟩ := gops
  obtain ⟨o12, o16, o5⟩ := gout
  refine region_all (RSp.of 31 [some 123, some 124, some 125, some 126, some 127, some 128, some 129, some 130, some 131, some 132, some 133, some 134, some 135, some 136, some 137, some 138, some 139, some 140, some 141, some 142, some 143, some 144, some 145, some 146, some 147, some 148, some 149, some 150, some 151, some 152, some 153] (fun _ => true) (region_tf15bX N M T gp qp gh qh E k x j y AP) region_tf15bU [0, 0, 0, 0, 0, 0, 0, 0, 0, 0, 0, 0, 0, 0, 0, 0, 0, 0, 0, 0, 0, 0, 0, 0, 0, 0, 0, 0, 0, 0, 0] (region_tf15bM N M T gp qp gh qh E k x j y AP) (region_tf15bS N M T gp qp gh qh E k x j y AP)) [(12, .slice (some ⟨gp, 0, none⟩) M qp), (16, .int .i64 (k : Int)), (5, .pointer (some ⟨E, 0, none⟩))] [123, 124, 125, 126, 127, 128, 129, 130, 131, 132, 133, 134, 135, 136, 137, 138, 139, 140, 141, 142, 143, 144, 145, 146, 147, 148, 149, 150, 151, 152, 153] (RSp.of_fitC gsize.symm gbk gds gus ggd (by decide) ?_ ?_) (RSp.of_ok _ (region_tf15bX.congr N M T gp qp gh qh E k x j y AP) ?_) gsz ?_ ?_ ?_
  · intro p hp
    have hp2 : p ∈ ([] : List (Nat × Nat)) := hp
    cases hp2
  · intro j hj hds
    simp only [List.mem_cons, List.not_mem_nil, or_false] at hj
    rcases hj with rfl | rfl | rfl
    all_goals rfl
  · intro i s hds
    match i, hds with
    | 0, hds => cases hds
    | 1, hds => cases hds
    | 2, hds => cases hds
    | 3, hds => cases hds
    | 4, hds => cases hds
    | 5, hds => cases hds
    | 6, hds => cases hds
    | 7, hds => cases hds
    | 8, hds => cases hds
    | 9, hds => cases hds
    | 10, hds => cases hds
    | 11, hds => cases hds
    | 12, hds => cases hds
    | 13, hds => cases hds
    | 14, hds => cases hds
    | 15, hds => cases hds
    | 16, hds => cases hds
    | 17, hds => cases hds
    | 18, hds => cases hds
    | 19, hds => cases hds
    | 20, hds => cases hds
    | 21, hds => cases hds
    | 22, hds => cases hds
    | 23, hds => cases hds
    | 24, hds => cases hds
    | 25, hds => cases hds
    | 26, hds => cases hds
    | 27, hds => cases hds
    | 28, hds => cases hds
    | 29, hds => cases hds
    | 30, hds => cases hds
    | _ + 31, hds => cases hds
  · intro q hq
    simp only [List.mem_cons, List.not_mem_nil, or_false] at hq
    rcases hq with rfl | rfl | rfl
    · exact ⟨o12, by simp⟩
    · exact ⟨o16, by simp⟩
    · exact ⟨o5, by simp⟩
  · intro i o ho hw
    have hi : i < 31 := by rw [← gsize]; exact (Array.getElem?_eq_some_iff.1 ho).1
    match i, hi with
    | 0, _ =>
      obtain ⟨ty, pos, aft, e, hdp⟩ := iop0
      rw [e] at ho
      obtain rfl := Option.some.inj ho
      intro a' hds W K hB lq ld hmem hK
      have e12 : a'.eval (.tmp 12) = .slice (some ⟨gp, 0, none⟩) M qp := by rw [eval_tmp]; exact lq (12, .slice (some ⟨gp, 0, none⟩) M qp) (by simp)
      have t12 := (eval_tmp a' 12).symm.trans e12
      have HK := Lib.hid (show K (a'.put (some 123) (.slice (some ⟨gp, 0, none⟩) M qp)) W from hK W (Below.refl _ _) trivial)
      clear hK ld lq hmem
      unfold Oper.wp
      simp only [execOp, e12]
      exact HK.out
    | 1, _ =>
      obtain ⟨ty, pos, aft, e, hdp⟩ := iop1
      rw [e] at ho
      obtain rfl := Option.some.inj ho
      intro a' hds W K hB lq ld hmem hK
      have e16 : a'.eval (.tmp 16) = .int .i64 (k : Int) := by rw [eval_tmp]; exact lq (16, .int .i64 (k : Int)) (by simp)
      have t16 := (eval_tmp a' 16).symm.trans e16
      have HK := Lib.hid (show K (a'.put (some 124) (.int .i64 (k : Int))) W from hK W (Below.refl _ _) trivial)
      clear hK ld lq hmem
      unfold Oper.wp
      simp only [execOp, e16]
      exact HK.out
    | 2, _ =>
      obtain ⟨ty, pos, aft, e, hdp⟩ := iop2
      rw [e] at ho
      obtain rfl := Option.some.inj ho
      intro a' hds W K hB lq ld hmem hK
      have e123 : a'.eval (.tmp 123) = .slice (some ⟨gp, 0, none⟩) M qp := by rw [eval_tmp]; exact ld 0 123 (List.all_eq_true.1 hdp 0 (by decide)) rfl
      have t123 := (eval_tmp a' 123).symm.trans e123
      have e124 : a'.eval (.tmp 124) = .int .i64 (k : Int) := by rw [eval_tmp]; exact ld 1 124 (List.all_eq_true.1 hdp 1 (by decide)) rfl
      have t124 := (eval_tmp a' 124).symm.trans e124
      have HK := Lib.hid (show K (a'.put (some 125) (.pointer (some ⟨gp, k, none⟩))) W from hK W (Below.refl _ _) trivial)
      clear hK ld lq hmem
      unfold Oper.wp
      simp only [execOp, e123, e124]
      go_simp
      exact HK.out
    | 3, _ =>
      obtain ⟨ty, pos, aft, e, hdp⟩ := iop3
      rw [e] at ho
      obtain rfl := Option.some.inj ho
      intro a' hds W K hB lq ld hmem hK
      have e125 : a'.eval (.tmp 125) = .pointer (some ⟨gp, k, none⟩) := by rw [eval_tmp]; exact ld 2 125 (List.all_eq_true.1 hdp 2 (by decide)) rfl
      have t125 := (eval_tmp a' 125).symm.trans e125
      have HK := Lib.hid (show K (a'.put (some 126) (.int .i64 (x : Int))) W from hK W (Below.refl _ _) trivial)
      clear hK ld lq hmem
      have h0 := (hnp.below hB hgp) k (by omega)
      rw [Nat.zero_add, hx] at h0
      unfold Oper.wp
      simp only [execOp, e125]
      go_simp
      exact HK.out
    | 4, _ =>
      obtain ⟨ty, pos, aft, e, hdp⟩ := iop4
      rw [e] at ho
      obtain rfl := Option.some.inj ho
      intro a' hds W K hB lq ld hmem hK
      have e126 : a'.eval (.tmp 126) = .int .i64 (x : Int) := by rw [eval_tmp]; exact ld 3 126 (List.all_eq_true.1 hdp 3 (by decide)) rfl
      have t126 := (eval_tmp a' 126).symm.trans e126
      have HK := Lib.hid (show K (a'.put (some 127) (.bool false)) W from hK W (Below.refl _ _) trivial)
      clear hK ld lq hmem
      have hd := decide_eq_false (p := (x : Int) < 0) (by omega)
      unfold Oper.wp
      simp only [execOp, e126]
      go_simp
      exact HK.out
    | 5, _ =>
      obtain ⟨ty, pos, aft, e, hdp⟩ := iop5
      rw [e] at ho
      obtain rfl := Option.some.inj ho
      intro a' hds W K hB lq ld hmem hK
      have e127 : a'.eval (.tmp 127) = .bool false := by rw [eval_tmp]; exact ld 4 127 (List.all_eq_true.1 hdp 4 (by decide)) rfl
      have t127 := (eval_tmp a' 127).symm.trans e127
      have HK := Lib.hid (show K (a'.put (some 128) (.bool false)) W from hK W (Below.refl _ _) trivial)
      clear hK ld lq hmem
      unfold Oper.wp
      simp only [execOp, e127]
      exact HK.out
    | 6, _ =>
      obtain ⟨ty, pos, aft, e, hdp⟩ := iop6
      rw [e] at ho
      obtain rfl := Option.some.inj ho
      intro a' hds W K hB lq ld hmem hK
      have e12 : a'.eval (.tmp 12) = .slice (some ⟨gp, 0, none⟩) M qp := by rw [eval_tmp]; exact lq (12, .slice (some ⟨gp, 0, none⟩) M qp) (by simp)
      have t12 := (eval_tmp a' 12).symm.trans e12
      have HK := Lib.hid (show K (a'.put (some 129) (.slice (some ⟨gp, 0, none⟩) M qp)) W from hK W (Below.refl _ _) trivial)
      clear hK ld lq hmem
      unfold Oper.wp
      simp only [execOp, e12]
      exact HK.out
    | 7, _ =>
      obtain ⟨ty, pos, aft, e, hdp⟩ := iop7
      rw [e] at ho
      obtain rfl := Option.some.inj ho
      intro a' hds W K hB lq ld hmem hK
      have e16 : a'.eval (.tmp 16) = .int .i64 (k : Int) := by rw [eval_tmp]; exact lq (16, .int .i64 (k : Int)) (by simp)
      have t16 := (eval_tmp a' 16).symm.trans e16
      have HK := Lib.hid (show K (a'.put (some 130) (.int .i64 (k : Int))) W from hK W (Below.refl _ _) trivial)
      clear hK ld lq hmem
      unfold Oper.wp
      simp only [execOp, e16]
      exact HK.out
    | 8, _ =>
      obtain ⟨ty, pos, aft, e, hdp⟩ := iop8
      rw [e] at ho
      obtain rfl := Option.some.inj ho
      intro a' hds W K hB lq ld hmem hK
      have e129 : a'.eval (.tmp 129) = .slice (some ⟨gp, 0, none⟩) M qp := by rw [eval_tmp]; exact ld 6 129 (List.all_eq_true.1 hdp 6 (by decide)) rfl
      have t129 := (eval_tmp a' 129).symm.trans e129
      have e130 : a'.eval (.tmp 130) = .int .i64 (k : Int) := by rw [eval_tmp]; exact ld 7 130 (List.all_eq_true.1 hdp 7 (by decide)) rfl
      have t130 := (eval_tmp a' 130).symm.trans e130
      have HK := Lib.hid (show K (a'.put (some 131) (.pointer (some ⟨gp, k, none⟩))) W from hK W (Below.refl _ _) trivial)
      clear hK ld lq hmem
      unfold Oper.wp
      simp only [execOp, e129, e130]
      go_simp
      exact HK.out
    | 9, _ =>
      obtain ⟨ty, pos, aft, e, hdp⟩ := iop9
      rw [e] at ho
      obtain rfl := Option.some.inj ho
      intro a' hds W K hB lq ld hmem hK
      have e131 : a'.eval (.tmp 131) = .pointer (some ⟨gp, k, none⟩) := by rw [eval_tmp]; exact ld 8 131 (List.all_eq_true.1 hdp 8 (by decide)) rfl
      have t131 := (eval_tmp a' 131).symm.trans e131
      have HK := Lib.hid (show K (a'.put (some 132) (.int .i64 (x : Int))) W from hK W (Below.refl _ _) trivial)
      clear hK ld lq hmem
      have h0 := (hnp.below hB hgp) k (by omega)
      rw [Nat.zero_add, hx] at h0
      unfold Oper.wp
      simp only [execOp, e131]
      go_simp
      exact HK.out
    | 10, _ =>
      obtain ⟨ty, pos, aft, e, hdp⟩ := iop10
      rw [e] at ho
      obtain rfl := Option.some.inj ho
      intro a' hds W K hB lq ld hmem hK
      have e5 : a'.eval (.tmp 5) = .pointer (some ⟨E, 0, none⟩) := by rw [eval_tmp]; exact lq (5, .pointer (some ⟨E, 0, none⟩)) (by simp)
      have t5 := (eval_tmp a' 5).symm.trans e5
      have HK := Lib.hid (show K (a'.put (some 133) (.pointer (some ⟨E, 1, none⟩))) W from hK W (Below.refl _ _) trivial)
      clear hK ld lq hmem
      unfold Oper.wp
      simp only [execOp, e5]
      go_simp
      exact HK.out
    | 11, _ =>
      obtain ⟨ty, pos, aft, e, hdp⟩ := iop11
      rw [e] at ho
      obtain rfl := Option.some.inj ho
      intro a' hds W K hB lq ld hmem hK
      have e133 : a'.eval (.tmp 133) = .pointer (some ⟨E, 1, none⟩) := by rw [eval_tmp]; exact ld 10 133 (List.all_eq_true.1 hdp 10 (by decide)) rfl
      have t133 := (eval_tmp a' 133).symm.trans e133
      have HK := Lib.hid (show K (a'.put (some 134) (.slice (some ⟨gh, 0, none⟩) T qh)) W from hK W (Below.refl _ _) trivial)
      clear hK ld lq hmem
      have c1 := (hE.next hB).cell' 1 rfl
      unfold Oper.wp
      simp only [execOp, e133]
      go_simp
      exact HK.out
    | 12, _ =>
      obtain ⟨pos, aft, e, hdp⟩ := iop12
      rw [e] at ho
      obtain rfl := Option.some.inj ho
      intro a' hds W K hB lq ld hmem hK
      have e134 : a'.eval (.tmp 134) = .slice (some ⟨gh, 0, none⟩) T qh := by rw [eval_tmp]; exact ld 11 134 (List.all_eq_true.1 hdp 11 (by decide)) rfl
      have t134 := (eval_tmp a' 134).symm.trans e134
      have HK := Lib.hid (show K (a'.put (some 135) (.int .i64 (T : Int))) W from hK W (Below.refl _ _) trivial)
      clear hK ld lq hmem
      unfold Oper.wp
      simp only [execOp, e134]
      go_simp
      exact HK.out
    | 13, _ =>
      obtain ⟨ty, pos, aft, e, hdp⟩ := iop13
      rw [e] at ho
      obtain rfl := Option.some.inj ho
      intro a' hds W K hB lq ld hmem hK
      have e132 : a'.eval (.tmp 132) = .int .i64 (x : Int) := by rw [eval_tmp]; exact ld 9 132 (List.all_eq_true.1 hdp 9 (by decide)) rfl
      have t132 := (eval_tmp a' 132).symm.trans e132
      have e135 : a'.eval (.tmp 135) = .int .i64 (T : Int) := by rw [eval_tmp]; exact ld 12 135 (List.all_eq_true.1 hdp 12 (by decide)) rfl
      have t135 := (eval_tmp a' 135).symm.trans e135
      have HK := Lib.hid (show K (a'.put (some 136) (.bool false)) W from hK W (Below.refl _ _) trivial)
      clear hK ld lq hmem
      unfold Oper.wp
      simp only [execOp, e132, e135]
      go_simp
      first | exact HK.out | (rw [show decide (T ≤ x) = false from decide_eq_false (by omega)]; exact HK.out)
    | 14, _ =>
      obtain ⟨ty, pos, aft, e, hdp⟩ := iop14
      rw [e] at ho
      obtain rfl := Option.some.inj ho
      intro a' hds W K hB lq ld hmem hK
      have e128 : a'.eval (.tmp 128) = .bool false := by rw [eval_tmp]; exact ld 5 128 (List.all_eq_true.1 hdp 5 (by decide)) rfl
      have t128 := (eval_tmp a' 128).symm.trans e128
      have e136 : a'.eval (.tmp 136) = .bool false := by rw [eval_tmp]; exact ld 13 136 (List.all_eq_true.1 hdp 13 (by decide)) rfl
      have t136 := (eval_tmp a' 136).symm.trans e136
      have HK := Lib.hid (show K (a'.put (some 137) (.bool false)) W from hK W (Below.refl _ _) trivial)
      clear hK ld lq hmem
      unfold Oper.wp
      simp only [execOp, e128, e136]
      go_simp
      exact HK.out
    | 15, _ =>
      obtain ⟨ty, pos, aft, e, hdp⟩ := iop15
      rw [e] at ho
      obtain rfl := Option.some.inj ho
      intro a' hds W K hB lq ld hmem hK
      have e137 : a'.eval (.tmp 137) = .bool false := by rw [eval_tmp]; exact ld 14 137 (List.all_eq_true.1 hdp 14 (by decide)) rfl
      have t137 := (eval_tmp a' 137).symm.trans e137
      have HK := Lib.hid (show K (a'.put (some 138) (.bool false)) W from hK W (Below.refl _ _) trivial)
      clear hK ld lq hmem
      unfold Oper.wp
      simp only [execOp, e137]
      exact HK.out
    | 16, _ =>
      obtain ⟨ty, pos, aft, e, hdp⟩ := iop16
      rw [e] at ho
      obtain rfl := Option.some.inj ho
      intro a' hds W K hB lq ld hmem hK
      have e16 : a'.eval (.tmp 16) = .int .i64 (k : Int) := by rw [eval_tmp]; exact lq (16, .int .i64 (k : Int)) (by simp)
      have t16 := (eval_tmp a' 16).symm.trans e16
      have HK := Lib.hid (show K (a'.put (some 139) (.int .i64 (k : Int))) W from hK W (Below.refl _ _) trivial)
      clear hK ld lq hmem
      unfold Oper.wp
      simp only [execOp, e16]
      exact HK.out
    | 17, _ =>
      obtain ⟨ty, pos, aft, e, hdp⟩ := iop17
      rw [e] at ho
      obtain rfl := Option.some.inj ho
      intro a' hds W K hB lq ld hmem hK
      have e139 : a'.eval (.tmp 139) = .int .i64 (k : Int) := by rw [eval_tmp]; exact ld 16 139 (List.all_eq_true.1 hdp 16 (by decide)) rfl
      have t139 := (eval_tmp a' 139).symm.trans e139
      have HK := Lib.hid (show K (a'.put (some 140) (.bool true)) W from hK W (Below.refl _ _) trivial)
      clear hK ld lq hmem
      unfold Oper.wp
      simp only [execOp, e139]
      go_simp
      first | exact HK.out | (rw [show decide (0 < k) = true from decide_eq_true (by omega)]; exact HK.out)
    | 18, _ =>
      obtain ⟨ty, pos, aft, e, hdp⟩ := iop18
      rw [e] at ho
      obtain rfl := Option.some.inj ho
      intro a' hds W K hB lq ld hmem hK
      have e140 : a'.eval (.tmp 140) = .bool true := by rw [eval_tmp]; exact ld 17 140 (List.all_eq_true.1 hdp 17 (by decide)) rfl
      have t140 := (eval_tmp a' 140).symm.trans e140
      have HK := Lib.hid (show K (a'.put (some 141) (.bool true)) W from hK W (Below.refl _ _) trivial)
      clear hK ld lq hmem
      unfold Oper.wp
      simp only [execOp, e140]
      exact HK.out
    | 19, _ =>
      obtain ⟨ty, pos, aft, e, hdp⟩ := iop19
      rw [e] at ho
      obtain rfl := Option.some.inj ho
      intro a' hds W K hB lq ld hmem hK
      have e12 : a'.eval (.tmp 12) = .slice (some ⟨gp, 0, none⟩) M qp := by rw [eval_tmp]; exact lq (12, .slice (some ⟨gp, 0, none⟩) M qp) (by simp)
      have t12 := (eval_tmp a' 12).symm.trans e12
      have HK := Lib.hid (show K (a'.put (some 142) (.slice (some ⟨gp, 0, none⟩) M qp)) W from hK W (Below.refl _ _) trivial)
      clear hK ld lq hmem
      unfold Oper.wp
      simp only [execOp, e12]
      exact HK.out
    | 20, _ =>
      obtain ⟨ty, pos, aft, e, hdp⟩ := iop20
      rw [e] at ho
      obtain rfl := Option.some.inj ho
      intro a' hds W K hB lq ld hmem hK
      have e16 : a'.eval (.tmp 16) = .int .i64 (k : Int) := by rw [eval_tmp]; exact lq (16, .int .i64 (k : Int)) (by simp)
      have t16 := (eval_tmp a' 16).symm.trans e16
      have HK := Lib.hid (show K (a'.put (some 143) (.int .i64 (k : Int))) W from hK W (Below.refl _ _) trivial)
      clear hK ld lq hmem
      unfold Oper.wp
      simp only [execOp, e16]
      exact HK.out
    | 21, _ =>
      obtain ⟨ty, pos, aft, e, hdp⟩ := iop21
      rw [e] at ho
      obtain rfl := Option.some.inj ho
      intro a' hds W K hB lq ld hmem hK
      have e142 : a'.eval (.tmp 142) = .slice (some ⟨gp, 0, none⟩) M qp := by rw [eval_tmp]; exact ld 19 142 (List.all_eq_true.1 hdp 19 (by decide)) rfl
      have t142 := (eval_tmp a' 142).symm.trans e142
      have e143 : a'.eval (.tmp 143) = .int .i64 (k : Int) := by rw [eval_tmp]; exact ld 20 143 (List.all_eq_true.1 hdp 20 (by decide)) rfl
      have t143 := (eval_tmp a' 143).symm.trans e143
      have HK := Lib.hid (show K (a'.put (some 144) (.pointer (some ⟨gp, k, none⟩))) W from hK W (Below.refl _ _) trivial)
      clear hK ld lq hmem
      unfold Oper.wp
      simp only [execOp, e142, e143]
      go_simp
      exact HK.out
    | 22, _ =>
      obtain ⟨ty, pos, aft, e, hdp⟩ := iop22
      rw [e] at ho
      obtain rfl := Option.some.inj ho
      intro a' hds W K hB lq ld hmem hK
      have e144 : a'.eval (.tmp 144) = .pointer (some ⟨gp, k, none⟩) := by rw [eval_tmp]; exact ld 21 144 (List.all_eq_true.1 hdp 21 (by decide)) rfl
      have t144 := (eval_tmp a' 144).symm.trans e144
      have HK := Lib.hid (show K (a'.put (some 145) (.int .i64 (x : Int))) W from hK W (Below.refl _ _) trivial)
      clear hK ld lq hmem
      have h0 := (hnp.below hB hgp) k (by omega)
      rw [Nat.zero_add, hx] at h0
      unfold Oper.wp
      simp only [execOp, e144]
      go_simp
      exact HK.out
    | 23, _ =>
      obtain ⟨ty, pos, aft, e, hdp⟩ := iop23
      rw [e] at ho
      obtain rfl := Option.some.inj ho
      intro a' hds W K hB lq ld hmem hK
      have e12 : a'.eval (.tmp 12) = .slice (some ⟨gp, 0, none⟩) M qp := by rw [eval_tmp]; exact lq (12, .slice (some ⟨gp, 0, none⟩) M qp) (by simp)
      have t12 := (eval_tmp a' 12).symm.trans e12
      have HK := Lib.hid (show K (a'.put (some 146) (.slice (some ⟨gp, 0, none⟩) M qp)) W from hK W (Below.refl _ _) trivial)
      clear hK ld lq hmem
      unfold Oper.wp
      simp only [execOp, e12]
      exact HK.out
    | 24, _ =>
      obtain ⟨ty, pos, aft, e, hdp⟩ := iop24
      rw [e] at ho
      obtain rfl := Option.some.inj ho
      intro a' hds W K hB lq ld hmem hK
      have e16 : a'.eval (.tmp 16) = .int .i64 (k : Int) := by rw [eval_tmp]; exact lq (16, .int .i64 (k : Int)) (by simp)
      have t16 := (eval_tmp a' 16).symm.trans e16
      have HK := Lib.hid (show K (a'.put (some 147) (.int .i64 (k : Int))) W from hK W (Below.refl _ _) trivial)
      clear hK ld lq hmem
      unfold Oper.wp
      simp only [execOp, e16]
      exact HK.out
    | 25, _ =>
      obtain ⟨ty, pos, aft, e, hdp⟩ := iop25
      rw [e] at ho
      obtain rfl := Option.some.inj ho
      intro a' hds W K hB lq ld hmem hK
      have e147 : a'.eval (.tmp 147) = .int .i64 (k : Int) := by rw [eval_tmp]; exact ld 24 147 (List.all_eq_true.1 hdp 24 (by decide)) rfl
      have t147 := (eval_tmp a' 147).symm.trans e147
      have HK := Lib.hid (show K (a'.put (some 148) (.int .i64 (j : Int))) W from hK W (Below.refl _ _) trivial)
      clear hK ld lq hmem
      unfold Oper.wp
      simp only [execOp, e147]
      go_simp
      rw [(by rw [IntWalk.i64_in _ (by omega)]; omega : IntKind.i64.wrap ((k : Int) - 1) = ((j : Nat) : Int))]; exact HK.out
    | 26, _ =>
      obtain ⟨ty, pos, aft, e, hdp⟩ := iop26
      rw [e] at ho
      obtain rfl := Option.some.inj ho
      intro a' hds W K hB lq ld hmem hK
      have e146 : a'.eval (.tmp 146) = .slice (some ⟨gp, 0, none⟩) M qp := by rw [eval_tmp]; exact ld 23 146 (List.all_eq_true.1 hdp 23 (by decide)) rfl
      have t146 := (eval_tmp a' 146).symm.trans e146
      have e148 : a'.eval (.tmp 148) = .int .i64 (j : Int) := by rw [eval_tmp]; exact ld 25 148 (List.all_eq_true.1 hdp 25 (by decide)) rfl
      have t148 := (eval_tmp a' 148).symm.trans e148
      have HK := Lib.hid (show K (a'.put (some 149) (.pointer (some ⟨gp, j, none⟩))) W from hK W (Below.refl _ _) trivial)
      clear hK ld lq hmem
      have hjM : j < M := by omega
      unfold Oper.wp
      simp only [execOp, e146, e148]
      go_simp
      exact HK.out
    | 27, _ =>
      obtain ⟨ty, pos, aft, e, hdp⟩ := iop27
      rw [e] at ho
      obtain rfl := Option.some.inj ho
      intro a' hds W K hB lq ld hmem hK
      have e149 : a'.eval (.tmp 149) = .pointer (some ⟨gp, j, none⟩) := by rw [eval_tmp]; exact ld 26 149 (List.all_eq_true.1 hdp 26 (by decide)) rfl
      have t149 := (eval_tmp a' 149).symm.trans e149
      have HK := Lib.hid (show K (a'.put (some 150) (.int .i64 (y : Int))) W from hK W (Below.refl _ _) trivial)
      clear hK ld lq hmem
      have h0 := (hnp.below hB hgp) j (by omega)
      rw [Nat.zero_add, hy] at h0
      unfold Oper.wp
      simp only [execOp, e149]
      go_simp
      exact HK.out
    | 28, _ =>
      obtain ⟨ty, pos, aft, e, hdp⟩ := iop28
      rw [e] at ho
      obtain rfl := Option.some.inj ho
      intro a' hds W K hB lq ld hmem hK
      have e145 : a'.eval (.tmp 145) = .int .i64 (x : Int) := by rw [eval_tmp]; exact ld 22 145 (List.all_eq_true.1 hdp 22 (by decide)) rfl
      have t145 := (eval_tmp a' 145).symm.trans e145
      have e150 : a'.eval (.tmp 150) = .int .i64 (y : Int) := by rw [eval_tmp]; exact ld 27 150 (List.all_eq_true.1 hdp 27 (by decide)) rfl
      have t150 := (eval_tmp a' 150).symm.trans e150
      have HK := Lib.hid (show K (a'.put (some 151) (.bool false)) W from hK W (Below.refl _ _) trivial)
      clear hK ld lq hmem
      unfold Oper.wp
      simp only [execOp, e145, e150]
      go_simp
      first | exact HK.out | (rw [show decide (x ≤ y) = false from decide_eq_false (by omega)]; exact HK.out)
    | 29, _ =>
      obtain ⟨ty, pos, aft, e, hdp⟩ := iop29
      rw [e] at ho
      obtain rfl := Option.some.inj ho
      intro a' hds W K hB lq ld hmem hK
      have e141 : a'.eval (.tmp 141) = .bool true := by rw [eval_tmp]; exact ld 18 141 (List.all_eq_true.1 hdp 18 (by decide)) rfl
      have t141 := (eval_tmp a' 141).symm.trans e141
      have e151 : a'.eval (.tmp 151) = .bool false := by rw [eval_tmp]; exact ld 28 151 (List.all_eq_true.1 hdp 28 (by decide)) rfl
      have t151 := (eval_tmp a' 151).symm.trans e151
      have HK := Lib.hid (show K (a'.put (some 152) (.bool false)) W from hK W (Below.refl _ _) trivial)
      clear hK ld lq hmem
      unfold Oper.wp
      simp only [execOp, e141, e151]
      go_simp
      exact HK.out
    | 30, _ =>
      obtain ⟨ty, pos, aft, e, hdp⟩ := iop30
      rw [e] at ho
      obtain rfl := Option.some.inj ho
      intro a' hds W K hB lq ld hmem hK
      have e138 : a'.eval (.tmp 138) = .bool false := by rw [eval_tmp]; exact ld 15 138 (List.all_eq_true.1 hdp 15 (by decide)) rfl
      have t138 := (eval_tmp a' 138).symm.trans e138
      have e152 : a'.eval (.tmp 152) = .bool false := by rw [eval_tmp]; exact ld 29 152 (List.all_eq_true.1 hdp 29 (by decide)) rfl
      have t152 := (eval_tmp a' 152).symm.trans e152
      have HK := Lib.hid (show K (a'.put (some 153) (.bool false)) W from hK W (Below.refl _ _) trivial)
      clear hK ld lq hmem
      unfold Oper.wp
      simp only [execOp, e138, e152]
      go_simp
      exact HK.out
    | i + 31, h => omega
  · intro hds v W hO
    have hfin := gend (v 123) (v 124) (v 125) (v 126) (v 127) (v 128) (v 129) (v 130) (v 131) (v 132) (v 133) (v 134) (v 135) (v 136) (v 137) (v 138) (v 139) (v 140) (v 141) (v 142) (v 143) (v 144) (v 145) (v 146) (v 147) (v 148) (v 149) (v 150) (v 151) (v 152) W hO.b
    rw [← laid_putL _ a v ?_] at hfin
    · exact hfin
    · intro p hp
      simp only [List.mem_cons, List.not_mem_nil, or_false] at hp
      rcases hp with rfl | rfl | rfl | rfl | rfl | rfl | rfl | rfl | rfl | rfl | rfl | rfl | rfl | rfl | rfl | rfl | rfl | rfl | rfl | rfl | rfl | rfl | rfl | rfl | rfl | rfl | rfl | rfl | rfl | rfl | rfl
      · rfl
      · rfl
      · rfl
      · rfl
      · rfl
      · rfl
      · rfl
      · rfl
      · rfl
      · rfl
      · rfl
      · rfl
      · rfl
      · rfl
      · rfl
      · rfl
      · rfl
      · rfl
      · rfl
      · rfl
      · rfl
      · rfl
      · rfl
      · rfl
      · rfl
      · rfl
      · rfl
      · rfl
      · rfl
      · rfl
      · exact hO.x 30 (show 30 < 31 by decide) 153 rfl
end Go.Proofs.Ytdmgffoikebgkaa
