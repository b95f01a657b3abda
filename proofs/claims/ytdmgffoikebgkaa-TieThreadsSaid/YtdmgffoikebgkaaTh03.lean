/- TieThreads: the regions of its end. -/
import Derived.Test.YtdmgffoikebgkaaTb01
import Derived.Test.YtdmgffoikebgkaaTb02
import Derived.Test.YtdmgffoikebgkaaTb03
import Derived.Test.YtdmgffoikebgkaaTb04
import Derived.Test.YtdmgffoikebgkaaTb05
import Derived.Test.YtdmgffoikebgkaaTb06
import Derived.Test.YtdmgffoikebgkaaTb07
import Derived.Test.YtdmgffoikebgkaaTb08
import Derived.Test.YtdmgffoikebgkaaTb09
import Derived.Test.YtdmgffoikebgkaaTb10
import Derived.Test.YtdmgffoikebgkaaTb11
import Derived.Test.YtdmgffoikebgkaaTb12
import Derived.Test.YtdmgffoikebgkaaTb13
import Derived.Test.YtdmgffoikebgkaaTb14
import Derived.Test.YtdmgffoikebgkaaTb15
import Derived.Test.YtdmgffoikebgkaaTb16
import Derived.Test.YtdmgffoikebgkaaTb17
import Derived.Test.YtdmgffoikebgkaaTb18
import Derived.Test.YtdmgffoikebgkaaTb19
import Derived.Test.YtdmgffoikebgkaaTb20
import Derived.Test.YtdmgffoikebgkaaTh02
namespace Go.Proofs.Ytdmgffoikebgkaa
open Go.RowKit Go.Shelf
attribute [local go_sem] Oper.semAt_some

def region_tt35U : List (List Nat) := [[], [], [], [], [], [], [], [], [], [], [], [], [], [], [], [], [], [], [], [], [], [], [], [], [], [], [], [], [], [], [], [], [], [], [], [], [], [], [], [], [], [], [], [], [], [], [], [], [], [], [], [], []]
def region_tt35X (N T gh qh E p z f v y : Nat) (HS : List Nat) : Nat → (Nat → Hd) → Value
  | 0, _ => .int .i64 9
  | 1, _ => .bool false
  | 2, _ => .bool false
  | 3, _ => .int .i64 0
  | 4, _ => .bool false
  | 5, _ => .bool false
  | 6, _ => .bool false
  | 7, _ => .int .i64 (p : Int)
  | 8, _ => .int .i64 (p : Int)
  | 9, _ => .bool false
  | 10, _ => .bool false
  | 11, _ => .bool false
  | 12, _ => .int .i64 (z : Int)
  | 13, _ => .int .i64 (f : Int)
  | 14, _ => .bool false
  | 15, _ => .bool false
  | 16, _ => .bool false
  | 17, _ => .int .i64 (z : Int)
  | 18, _ => .pointer (some ⟨E, 1, none⟩)
  | 19, _ => .slice (some ⟨gh, 0, none⟩) T qh
  | 20, _ => .int .i64 (T : Int)
  | 21, _ => .bool false
  | 22, _ => .bool false
  | 23, _ => .bool false
  | 24, _ => .int .i64 (f : Int)
  | 25, _ => .bool false
  | 26, _ => .bool false
  | 27, _ => .bool false
  | 28, _ => .pointer (some ⟨E, 1, none⟩)
  | 29, _ => .slice (some ⟨gh, 0, none⟩) T qh
  | 30, _ => .int .i64 (z : Int)
  | 31, _ => .pointer (some ⟨gh, z, none⟩)
  | 32, _ => .int .i64 (y : Int)
  | 33, _ => .pointer (some ⟨E, 1, none⟩)
  | 34, _ => .slice (some ⟨gh, 0, none⟩) T qh
  | 35, _ => .int .i64 (v : Int)
  | 36, _ => .pointer (some ⟨gh, v, none⟩)
  | 37, _ => .int .i64 (y : Int)
  | 38, _ => .bool false
  | 39, _ => .bool false
  | 40, _ => .bool false
  | 41, _ => .pointer (some ⟨E, 1, none⟩)
  | 42, _ => .slice (some ⟨gh, 0, none⟩) T qh
  | 43, _ => .int .i64 (f : Int)
  | 44, _ => .pointer (some ⟨gh, f, none⟩)
  | 45, _ => .int .i64 (y : Int)
  | 46, _ => .pointer (some ⟨E, 1, none⟩)
  | 47, _ => .slice (some ⟨gh, 0, none⟩) T qh
  | 48, _ => .int .i64 (v : Int)
  | 49, _ => .pointer (some ⟨gh, v, none⟩)
  | 50, _ => .int .i64 (y : Int)
  | 51, _ => .bool false
  | 52, _ => .bool false
  | _ + 53, _ => undef
theorem region_tt35X.congr (N T gh qh E p z f v y : Nat) (HS : List Nat) : ∀ i hds hds', (∀ r ∈ uOf region_tt35U i, hds r = hds' r) → region_tt35X N T gh qh E p z f v y HS i hds = region_tt35X N T gh qh E p z f v y HS i hds'
  | 0, _, _, _ => rfl
  | 1, _, _, _ => rfl
  | 2, _, _, _ => rfl
  | 3, _, _, _ => rfl
  | 4, _, _, _ => rfl
  | 5, _, _, _ => rfl
  | 6, _, _, _ => rfl
  | 7, _, _, _ => rfl
  | 8, _, _, _ => rfl
  | 9, _, _, _ => rfl
  | 10, _, _, _ => rfl
  | 11, _, _, _ => rfl
  | 12, _, _, _ => rfl
  | 13, _, _, _ => rfl
  | 14, _, _, _ => rfl
  | 15, _, _, _ => rfl
  | 16, _, _, _ => rfl
  | 17, _, _, _ => rfl
  | 18, _, _, _ => rfl
  | 19, _, _, _ => rfl
  | 20, _, _, _ => rfl
  | 21, _, _, _ => rfl
  | 22, _, _, _ => rfl
  | 23, _, _, _ => rfl
  | 24, _, _, _ => rfl
  | 25, _, _, _ => rfl
  | 26, _, _, _ => rfl
  | 27, _, _, _ => rfl
  | 28, _, _, _ => rfl
  | 29, _, _, _ => rfl
  | 30, _, _, _ => rfl
  | 31, _, _, _ => rfl
  | 32, _, _, _ => rfl
  | 33, _, _, _ => rfl
  | 34, _, _, _ => rfl
  | 35, _, _, _ => rfl
  | 36, _, _, _ => rfl
  | 37, _, _, _ => rfl
  | 38, _, _, _ => rfl
  | 39, _, _, _ => rfl
  | 40, _, _, _ => rfl
  | 41, _, _, _ => rfl
  | 42, _, _, _ => rfl
  | 43, _, _, _ => rfl
  | 44, _, _, _ => rfl
  | 45, _, _, _ => rfl
  | 46, _, _, _ => rfl
  | 47, _, _, _ => rfl
  | 48, _, _, _ => rfl
  | 49, _, _, _ => rfl
  | 50, _, _, _ => rfl
  | 51, _, _, _ => rfl
  | 52, _, _, _ => rfl
  | _ + 53, _, _, _ => rfl
def region_tt35M (N T gh qh E p z f v y : Nat) (HS : List Nat) : Nat → Mem
  | _ => memNone
def region_tt35S (N T gh qh E p z f v y : Nat) (HS : List Nat) : Nat → Option Sto
  | _ => none
set_option maxRecDepth 8000 in
set_option maxHeartbeats 2000000 in
theorem region_tt35 {id : Nat} {ops : Array Oper} {Q : Exit → Act → World → Prop} {a : Act} {w : World} (N T gh qh E p z f v y : Nat) (HS : List Nat) (hTl : HS.length = T) (hT1 : T ≤ 96) (hn6 : NatsAt w gh 0 HS) (hg6 : gh < w.heap.size) (hfz : f < z) (hzT : z < T) (hvT : v < T) (hfT : f < T) (hy1 : nthN HS z = y) (hy2 : nthN HS f = y) (hy3 : nthN HS v = y) (hE : BoxAt w E #[.int .i64 (N : Int), .slice (some ⟨gh, 0, none⟩) T qh] 26)
    (gsize : ops.size = 53)
    (gops : IsOp ops 0 (some 242) (.move (.tmp 21)) none [] ∧ IsOp ops 1 (some 243) (.binOp .neq 27 (.tmp 242) (.const (.int .i64 9)) 27) none [0] ∧ IsOp ops 2 (some 244) (.move (.tmp 243)) none [1] ∧ IsOp ops 3 (some 245) (.move (.tmp 25)) (some (2, false)) [2] ∧ IsOp ops 4 (some 246) (.binOp .neq 27 (.tmp 245) (.const (.int .i64 0)) 27) (some (2, false)) [2, 3] ∧ IsOp ops 5 (some 247) (.pick (.tmp 244) (.const (.bool true)) (.tmp 246)) none [2, 4] ∧ IsOp ops 6 (some 248) (.move (.tmp 247)) none [5] ∧ IsOp ops 7 (some 249) (.move (.tmp 22)) (some (6, false)) [6] ∧ IsOp ops 8 (some 250) (.move (.tmp 14)) (some (6, false)) [6] ∧ IsOp ops 9 (some 251) (.binOp .neq 3 (.tmp 249) (.tmp 250) 3) (some (6, false)) [6, 7, 8] ∧ IsOp ops 10 (some 252) (.pick (.tmp 248) (.const (.bool true)) (.tmp 251)) none [6, 9] ∧ IsOp ops 11 (some 253) (.move (.tmp 252)) none [10] ∧ IsOp ops 12 (some 254) (.move (.tmp 23)) (some (11, false)) [11] ∧ IsOp ops 13 (some 255) (.move (.tmp 24)) (some (11, false)) [11] ∧ IsOp ops 14 (some 256) (.binOp .leq 3 (.tmp 254) (.tmp 255) 3) (some (11, false)) [11, 12, 13] ∧ IsOp ops 15 (some 257) (.pick (.tmp 253) (.const (.bool true)) (.tmp 256)) none [11, 14] ∧ IsOp ops 16 (some 258) (.move (.tmp 257)) none [15] ∧ IsOp ops 17 (some 259) (.move (.tmp 23)) (some (16, false)) [16] ∧ IsOp ops 18 (some 260) (.fieldAddr 26 (.tmp 5) 1) (some (16, false)) [16] ∧ IsOp ops 19 (some 261) (.load 24 (.tmp 260)) (some (16, false)) [16, 18] ∧ IsOpL ops 20 (some 262) (.call { callee := .builtin .len, args := #[.tmp 261], argTypes := #[24] }) (some (16, false)) [16, 19] ∧ IsOp ops 21 (some 263) (.binOp .geq 3 (.tmp 259) (.tmp 262) 3) (some (16, false)) [16, 17, 20] ∧ IsOp ops 22 (some 264) (.pick (.tmp 258) (.const (.bool true)) (.tmp 263)) none [16, 21] ∧ IsOp ops 23 (some 265) (.move (.tmp 264)) none [22] ∧ IsOp ops 24 (some 266) (.move (.tmp 24)) (some (23, false)) [23] ∧ IsOp ops 25 (some 267) (.binOp .lss 3 (.tmp 266) (.const (.int .i64 0)) 3) (some (23, false)) [23, 24] ∧ IsOp ops 26 (some 268) (.pick (.tmp 265) (.const (.bool true)) (.tmp 267)) none [23, 25] ∧ IsOp ops 27 (some 269) (.move (.tmp 268)) none [26] ∧ IsOp ops 28 (some 270) (.fieldAddr 26 (.tmp 5) 1) (some (27, false)) [27] ∧ IsOp ops 29 (some 271) (.load 24 (.tmp 270)) (some (27, false)) [27, 28] ∧ IsOp ops 30 (some 272) (.move (.tmp 23)) (some (27, false)) [27] ∧ IsOp ops 31 (some 273) (.indexAddr 24 (.tmp 271) (.tmp 272)) (some (27, false)) [27, 29, 30] ∧ IsOp ops 32 (some 274) (.load 3 (.tmp 273)) (some (27, false)) [27, 31] ∧ IsOp ops 33 (some 275) (.fieldAddr 26 (.tmp 5) 1) (some (27, false)) [27] ∧ IsOp ops 34 (some 276) (.load 24 (.tmp 275)) (some (27, false)) [27, 33] ∧ IsOp ops 35 (some 277) (.move (.tmp 15)) (some (27, false)) [27] ∧ IsOp ops 36 (some 278) (.indexAddr 24 (.tmp 276) (.tmp 277)) (some (27, false)) [27, 34, 35] ∧ IsOp ops 37 (some 279) (.load 3 (.tmp 278)) (some (27, false)) [27, 36] ∧ IsOp ops 38 (some 280) (.binOp .neq 3 (.tmp 274) (.tmp 279) 3) (some (27, false)) [27, 32, 37] ∧ IsOp ops 39 (some 281) (.pick (.tmp 269) (.const (.bool true)) (.tmp 280)) none [27, 38] ∧ IsOp ops 40 (some 282) (.move (.tmp 281)) none [39] ∧ IsOp ops 41 (some 283) (.fieldAddr 26 (.tmp 5) 1) (some (40, false)) [40] ∧ IsOp ops 42 (some 284) (.load 24 (.tmp 283)) (some (40, false)) [40, 41] ∧ IsOp ops 43 (some 285) (.move (.tmp 24)) (some (40, false)) [40] ∧ IsOp ops 44 (some 286) (.indexAddr 24 (.tmp 284) (.tmp 285)) (some (40, false)) [40, 42, 43] ∧ IsOp ops 45 (some 287) (.load 3 (.tmp 286)) (some (40, false)) [40, 44] ∧ IsOp ops 46 (some 288) (.fieldAddr 26 (.tmp 5) 1) (some (40, false)) [40] ∧ IsOp ops 47 (some 289) (.load 24 (.tmp 288)) (some (40, false)) [40, 46] ∧ IsOp ops 48 (some 290) (.move (.tmp 15)) (some (40, false)) [40] ∧ IsOp ops 49 (some 291) (.indexAddr 24 (.tmp 289) (.tmp 290)) (some (40, false)) [40, 47, 48] ∧ IsOp ops 50 (some 292) (.load 3 (.tmp 291)) (some (40, false)) [40, 49] ∧ IsOp ops 51 (some 293) (.binOp .neq 3 (.tmp 287) (.tmp 292) 3) (some (40, false)) [40, 45, 50] ∧ IsOp ops 52 (some 294) (.pick (.tmp 282) (.const (.bool true)) (.tmp 293)) none [40, 51])
    (gbk : backB ops = true) (gds : dstsB ops (dOf [some 242, some 243, some 244, some 245, some 246, some 247, some 248, some 249, some 250, some 251, some 252, some 253, some 254, some 255, some 256, some 257, some 258, some 259, some 260, some 261, some 262, some 263, some 264, some 265, some 266, some 267, some 268, some 269, some 270, some 271, some 272, some 273, some 274, some 275, some 276, some 277, some 278, some 279, some 280, some 281, some 282, some 283, some 284, some 285, some 286, some 287, some 288, some 289, some 290, some 291, some 292, some 293, some 294]) = true) (gus : useB ops (uOf region_tt35U) (kOf [0, 0, 0, 0, 0, 0, 0, 0, 0, 0, 0, 0, 0, 0, 0, 0, 0, 0, 0, 0, 0, 0, 0, 0, 0, 0, 0, 0, 0, 0, 0, 0, 0, 0, 0, 0, 0, 0, 0, 0, 0, 0, 0, 0, 0, 0, 0, 0, 0, 0, 0, 0, 0]) = true) (ggd : guardC ops (dOf [some 242, some 243, some 244, some 245, some 246, some 247, some 248, some 249, some 250, some 251, some 252, some 253, some 254, some 255, some 256, some 257, some 258, some 259, some 260, some 261, some 262, some 263, some 264, some 265, some 266, some 267, some 268, some 269, some 270, some 271, some 272, some 273, some 274, some 275, some 276, some 277, some 278, some 279, some 280, some 281, some 282, some 283, some 284, some 285, some 286, some 287, some 288, some 289, some 290, some 291, some 292, some 293, some 294]) [(2, false), (6, false), (11, false), (16, false), (23, false), (27, false), (40, false)] = true) (gsz : ∀ e ∈ [242, 243, 244, 245, 246, 247, 248, 249, 250, 251, 252, 253, 254, 255, 256, 257, 258, 259, 260, 261, 262, 263, 264, 265, 266, 267, 268, 269, 270, 271, 272, 273, 274, 275, 276, 277, 278, 279, 280, 281, 282, 283, 284, 285, 286, 287, 288, 289, 290, 291, 292, 293, 294], e < a.tmps.size)
    (gout : a.eval (.tmp 21) = .int .i64 9 ∧ a.eval (.tmp 25) = .int .i64 0 ∧ a.eval (.tmp 22) = .int .i64 (p : Int) ∧ a.eval (.tmp 14) = .int .i64 (p : Int) ∧ a.eval (.tmp 23) = .int .i64 (z : Int) ∧ a.eval (.tmp 24) = .int .i64 (f : Int) ∧ a.eval (.tmp 5) = .pointer (some ⟨E, 0, none⟩) ∧ a.eval (.tmp 15) = .int .i64 (v : Int))
    (gend : ∀ (u242 u243 u244 u245 u246 u247 u248 u249 u250 u251 u252 u253 u254 u255 u256 u257 u258 u259 u260 u261 u262 u263 u264 u265 u266 u267 u268 u269 u270 u271 u272 u273 u274 u275 u276 u277 u278 u279 u280 u281 u282 u283 u284 u285 u286 u287 u288 u289 u290 u291 u292 u293 : Value) (W : World), Below w.heap.size w W → Q .normal (putL a [(242, u242), (243, u243), (244, u244), (245, u245), (246, u246), (247, u247), (248, u248), (249, u249), (250, u250), (251, u251), (252, u252), (253, u253), (254, u254), (255, u255), (256, u256), (257, u257), (258, u258), (259, u259), (260, u260), (261, u261), (262, u262), (263, u263), (264, u264), (265, u265), (266, u266), (267, u267), (268, u268), (269, u269), (270, u270), (271, u271), (272, u272), (273, u273), (274, u274), (275, u275), (276, u276), (277, u277), (278, u278), (279, u279), (280, u280), (281, u281), (282, u282), (283, u283), (284, u284), (285, u285), (286, u286), (287, u287), (288, u288), (289, u289), (290, u290), (291, u291), (292, u292), (293, u293), (294, .bool false)]) W) :
    (Code.region id ops true).wp Try.prog Q a w := by
  obtain ⟨iop0, iop1, iop2, iop3, iop4, iop5, iop6, iop7, iop8, iop9, iop10, iop11, iop12, iop13, iop14, iop15, iop16, iop17, iop18, iop19, iop20, iop21, iop22, iop23, iop24, iop25, iop26, iop27, iop28, iop29, iop30, iop31, iop32, iop33, iop34, iop35, iop36, iop37, iop38, iop39, iop40, iop41, iop42, iop43, iop44, iop45, iop46, iop47, iop48, iop49, iop50, iop51, iop52⟩ := gops
  obtain ⟨o21, o25, o22, o14, o23, o24, o5, o15⟩ := gout
  refine region_all (RSp.of 53 [some 242, some 243, some 244, some 245, some 246, some 247, some 248, some 249, some 250, some 251, some 252, some 253, some 254, some 255, some 256, some 257, some 258, some 259, some 260, some 261, some 262, some 263, some 264, some 265, some 266, some 267, some 268, some 269, some 270, some 271, some 272, some 273, some 274, some 275, some 276, some 277, some 278, some 279, some 280, some 281, some 282, some 283, some 284, some 285, some 286, some 287, some 288, some 289, some 290, some 291, some 292, some 293, some 294] (fun _ => true) (region_tt35X N T gh qh E p z f v y HS) region_tt35U [0, 0, 0, 0, 0, 0, 0, 0, 0, 0, 0, 0, 0, 0, 0, 0, 0, 0, 0, 0, 0, 0, 0, 0, 0, 0, 0, 0, 0, 0, 0, 0, 0, 0, 0, 0, 0, 0, 0, 0, 0, 0, 0, 0, 0, 0, 0, 0, 0, 0, 0, 0, 0] (region_tt35M N T gh qh E p z f v y HS) (region_tt35S N T gh qh E p z f v y HS)) [(21, .int .i64 9), (25, .int .i64 0), (22, .int .i64 (p : Int)), (14, .int .i64 (p : Int)), (23, .int .i64 (z : Int)), (24, .int .i64 (f : Int)), (5, .pointer (some ⟨E, 0, none⟩)), (15, .int .i64 (v : Int))] [242, 243, 244, 245, 246, 247, 248, 249, 250, 251, 252, 253, 254, 255, 256, 257, 258, 259, 260, 261, 262, 263, 264, 265, 266, 267, 268, 269, 270, 271, 272, 273, 274, 275, 276, 277, 278, 279, 280, 281, 282, 283, 284, 285, 286, 287, 288, 289, 290, 291, 292, 293, 294] (RSp.of_fitC gsize.symm gbk gds gus ggd (by decide) ?_ ?_) (RSp.of_ok _ (region_tt35X.congr N T gh qh E p z f v y HS) ?_) gsz ?_ ?_ ?_
  · intro p hp
    have hp2 : p ∈ ([] : List (Nat × Nat)) := hp
    cases hp2
  · intro j hj hds
    simp only [List.mem_cons, List.not_mem_nil, or_false] at hj
    rcases hj with rfl | rfl | rfl | rfl | rfl | rfl | rfl
    all_goals rfl
  · intro i s hds
    match i, hds with
    | 0, hds => cases hds
    | 1, hds => cases hds
    | 2, hds => cases hds
    | 3, hds => cases hds
    | 4, hds => cases hds
    | 5, hds => cases hds
    | 6, hds => cases hds
    | 7, hds => cases hds
    | 8, hds => cases hds
    | 9, hds => cases hds
    | 10, hds => cases hds
    | 11, hds => cases hds
    | 12, hds => cases hds
    | 13, hds => cases hds
    | 14, hds => cases hds
    | 15, hds => cases hds
    | 16, hds => cases hds
    | 17, hds => cases hds
    | 18, hds => cases hds
    | 19, hds => cases hds
    | 20, hds => cases hds
    | 21, hds => cases hds
    | 22, hds => cases hds
    | 23, hds => cases hds
    | 24, hds => cases hds
    | 25, hds => cases hds
    | 26, hds => cases hds
    | 27, hds => cases hds
    | 28, hds => cases hds
    | 29, hds => cases hds
    | 30, hds => cases hds
    | 31, hds => cases hds
    | 32, hds => cases hds
    | 33, hds => cases hds
    | 34, hds => cases hds
    | 35, hds => cases hds
    | 36, hds => cases hds
    | 37, hds => cases hds
    | 38, hds => cases hds
    | 39, hds => cases hds
    | 40, hds => cases hds
    | 41, hds => cases hds
    | 42, hds => cases hds
    | 43, hds => cases hds
    | 44, hds => cases hds
    | 45, hds => cases hds
    | 46, hds => cases hds
    | 47, hds => cases hds
    | 48, hds => cases hds
    | 49, hds => cases hds
    | 50, hds => cases hds
    | 51, hds => cases hds
    | 52, hds => cases hds
    | _ + 53, hds => cases hds
  · intro q hq
    simp only [List.mem_cons, List.not_mem_nil, or_false] at hq
    rcases hq with rfl | rfl | rfl | rfl | rfl | rfl | rfl | rfl
    · exact ⟨o21, by simp⟩
    · exact ⟨o25, by simp⟩
    · exact ⟨o22, by simp⟩
    · exact ⟨o14, by simp⟩
    · exact ⟨o23, by simp⟩
    · exact ⟨o24, by simp⟩
    · exact ⟨o5, by simp⟩
    · exact ⟨o15, by simp⟩
  · intro i o ho hw
    have hi : i < 53 := by rw [← gsize]; exact (Array.getElem?_eq_some_iff.1 ho).1
    match i, hi with
    | 0, _ =>
      obtain ⟨ty, pos, aft, e, hdp⟩ := iop0
      rw [e] at ho
      obtain rfl := Option.some.inj ho
      intro a' hds W K hB lq ld hmem hK
      have e21 : a'.eval (.tmp 21) = .int .i64 9 := by rw [eval_tmp]; exact lq (21, .int .i64 9) (by simp)
      have t21 := (eval_tmp a' 21).symm.trans e21
      have HK := Lib.hid (show K (a'.put (some 242) (.int .i64 9)) W from hK W (Below.refl _ _) trivial)
      clear hK ld lq hmem
      unfold Oper.wp
      simp only [execOp, e21]
      exact HK.out
    | 1, _ =>
      obtain ⟨ty, pos, aft, e, hdp⟩ := iop1
      rw [e] at ho
      obtain rfl := Option.some.inj ho
      intro a' hds W K hB lq ld hmem hK
      have e242 : a'.eval (.tmp 242) = .int .i64 9 := by rw [eval_tmp]; exact ld 0 242 (List.all_eq_true.1 hdp 0 (by decide)) rfl
      have t242 := (eval_tmp a' 242).symm.trans e242
      have HK := Lib.hid (show K (a'.put (some 243) (.bool false)) W from hK W (Below.refl _ _) trivial)
      clear hK ld lq hmem
      unfold Oper.wp
      simp only [execOp, e242]
      go_simp
      exact HK.out
    | 2, _ =>
      obtain ⟨ty, pos, aft, e, hdp⟩ := iop2
      rw [e] at ho
      obtain rfl := Option.some.inj ho
      intro a' hds W K hB lq ld hmem hK
      have e243 : a'.eval (.tmp 243) = .bool false := by rw [eval_tmp]; exact ld 1 243 (List.all_eq_true.1 hdp 1 (by decide)) rfl
      have t243 := (eval_tmp a' 243).symm.trans e243
      have HK := Lib.hid (show K (a'.put (some 244) (.bool false)) W from hK W (Below.refl _ _) trivial)
      clear hK ld lq hmem
      unfold Oper.wp
      simp only [execOp, e243]
      exact HK.out
    | 3, _ =>
      obtain ⟨ty, pos, aft, e, hdp⟩ := iop3
      rw [e] at ho
      obtain rfl := Option.some.inj ho
      intro a' hds W K hB lq ld hmem hK
      have e25 : a'.eval (.tmp 25) = .int .i64 0 := by rw [eval_tmp]; exact lq (25, .int .i64 0) (by simp)
      have t25 := (eval_tmp a' 25).symm.trans e25
      have HK := Lib.hid (show K (a'.put (some 245) (.int .i64 0)) W from hK W (Below.refl _ _) trivial)
      clear hK ld lq hmem
      unfold Oper.wp
      simp only [execOp, e25]
      exact HK.out
    | 4, _ =>
      obtain ⟨ty, pos, aft, e, hdp⟩ := iop4
      rw [e] at ho
      obtain rfl := Option.some.inj ho
      intro a' hds W K hB lq ld hmem hK
      have e245 : a'.eval (.tmp 245) = .int .i64 0 := by rw [eval_tmp]; exact ld 3 245 (List.all_eq_true.1 hdp 3 (by decide)) rfl
      have t245 := (eval_tmp a' 245).symm.trans e245
      have HK := Lib.hid (show K (a'.put (some 246) (.bool false)) W from hK W (Below.refl _ _) trivial)
      clear hK ld lq hmem
      unfold Oper.wp
      simp only [execOp, e245]
      go_simp
      exact HK.out
    | 5, _ =>
      obtain ⟨ty, pos, aft, e, hdp⟩ := iop5
      rw [e] at ho
      obtain rfl := Option.some.inj ho
      intro a' hds W K hB lq ld hmem hK
      have e244 : a'.eval (.tmp 244) = .bool false := by rw [eval_tmp]; exact ld 2 244 (List.all_eq_true.1 hdp 2 (by decide)) rfl
      have t244 := (eval_tmp a' 244).symm.trans e244
      have e246 : a'.eval (.tmp 246) = .bool false := by rw [eval_tmp]; exact ld 4 246 (List.all_eq_true.1 hdp 4 (by decide)) rfl
      have t246 := (eval_tmp a' 246).symm.trans e246
      have HK := Lib.hid (show K (a'.put (some 247) (.bool false)) W from hK W (Below.refl _ _) trivial)
      clear hK ld lq hmem
      unfold Oper.wp
      simp only [execOp, e244, e246]
      go_simp
      exact HK.out
    | 6, _ =>
      obtain ⟨ty, pos, aft, e, hdp⟩ := iop6
      rw [e] at ho
      obtain rfl := Option.some.inj ho
      intro a' hds W K hB lq ld hmem hK
      have e247 : a'.eval (.tmp 247) = .bool false := by rw [eval_tmp]; exact ld 5 247 (List.all_eq_true.1 hdp 5 (by decide)) rfl
      have t247 := (eval_tmp a' 247).symm.trans e247
      have HK := Lib.hid (show K (a'.put (some 248) (.bool false)) W from hK W (Below.refl _ _) trivial)
      clear hK ld lq hmem
      unfold Oper.wp
      simp only [execOp, e247]
      exact HK.out
    | 7, _ =>
      obtain ⟨ty, pos, aft, e, hdp⟩ := iop7
      rw [e] at ho
      obtain rfl := Option.some.inj ho
      intro a' hds W K hB lq ld hmem hK
      have e22 : a'.eval (.tmp 22) = .int .i64 (p : Int) := by rw [eval_tmp]; exact lq (22, .int .i64 (p : Int)) (by simp)
      have t22 := (eval_tmp a' 22).symm.trans e22
      have HK := Lib.hid (show K (a'.put (some 249) (.int .i64 (p : Int))) W from hK W (Below.refl _ _) trivial)
      clear hK ld lq hmem
      unfold Oper.wp
      simp only [execOp, e22]
      exact HK.out
    | 8, _ =>
      obtain ⟨ty, pos, aft, e, hdp⟩ := iop8
      rw [e] at ho
      obtain rfl := Option.some.inj ho
      intro a' hds W K hB lq ld hmem hK
      have e14 : a'.eval (.tmp 14) = .int .i64 (p : Int) := by rw [eval_tmp]; exact lq (14, .int .i64 (p : Int)) (by simp)
      have t14 := (eval_tmp a' 14).symm.trans e14
      have HK := Lib.hid (show K (a'.put (some 250) (.int .i64 (p : Int))) W from hK W (Below.refl _ _) trivial)
      clear hK ld lq hmem
      unfold Oper.wp
      simp only [execOp, e14]
      exact HK.out
    | 9, _ =>
      obtain ⟨ty, pos, aft, e, hdp⟩ := iop9
      rw [e] at ho
      obtain rfl := Option.some.inj ho
      intro a' hds W K hB lq ld hmem hK
      have e249 : a'.eval (.tmp 249) = .int .i64 (p : Int) := by rw [eval_tmp]; exact ld 7 249 (List.all_eq_true.1 hdp 7 (by decide)) rfl
      have t249 := (eval_tmp a' 249).symm.trans e249
      have e250 : a'.eval (.tmp 250) = .int .i64 (p : Int) := by rw [eval_tmp]; exact ld 8 250 (List.all_eq_true.1 hdp 8 (by decide)) rfl
      have t250 := (eval_tmp a' 250).symm.trans e250
      have HK := Lib.hid (show K (a'.put (some 251) (.bool false)) W from hK W (Below.refl _ _) trivial)
      clear hK ld lq hmem
      unfold Oper.wp
      simp only [execOp, e249, e250]
      go_simp
      exact HK.out
    | 10, _ =>
      obtain ⟨ty, pos, aft, e, hdp⟩ := iop10
      rw [e] at ho
      obtain rfl := Option.some.inj ho
      intro a' hds W K hB lq ld hmem hK
      have e248 : a'.eval (.tmp 248) = .bool false := by rw [eval_tmp]; exact ld 6 248 (List.all_eq_true.1 hdp 6 (by decide)) rfl
      have t248 := (eval_tmp a' 248).symm.trans e248
      have e251 : a'.eval (.tmp 251) = .bool false := by rw [eval_tmp]; exact ld 9 251 (List.all_eq_true.1 hdp 9 (by decide)) rfl
      have t251 := (eval_tmp a' 251).symm.trans e251
      have HK := Lib.hid (show K (a'.put (some 252) (.bool false)) W from hK W (Below.refl _ _) trivial)
      clear hK ld lq hmem
      unfold Oper.wp
      simp only [execOp, e248, e251]
      go_simp
      exact HK.out
    | 11, _ =>
      obtain ⟨ty, pos, aft, e, hdp⟩ := iop11
      rw [e] at ho
      obtain rfl := Option.some.inj ho
      intro a' hds W K hB lq ld hmem hK
      have e252 : a'.eval (.tmp 252) = .bool false := by rw [eval_tmp]; exact ld 10 252 (List.all_eq_true.1 hdp 10 (by decide)) rfl
      have t252 := (eval_tmp a' 252).symm.trans e252
      have HK := Lib.hid (show K (a'.put (some 253) (.bool false)) W from hK W (Below.refl _ _) trivial)
      clear hK ld lq hmem
      unfold Oper.wp
      simp only [execOp, e252]
      exact HK.out
    | 12, _ =>
      obtain ⟨ty, pos, aft, e, hdp⟩ := iop12
      rw [e] at ho
      obtain rfl := Option.some.inj ho
      intro a' hds W K hB lq ld hmem hK
      have e23 : a'.eval (.tmp 23) = .int .i64 (z : Int) := by rw [eval_tmp]; exact lq (23, .int .i64 (z : Int)) (by simp)
      have t23 := (eval_tmp a' 23).symm.trans e23
      have HK := Lib.hid (show K (a'.put (some 254) (.int .i64 (z : Int))) W from hK W (Below.refl _ _) trivial)
      clear hK ld lq hmem
      unfold Oper.wp
      simp only [execOp, e23]
      exact HK.out
    | 13, _ =>
      obtain ⟨ty, pos, aft, e, hdp⟩ := iop13
      rw [e] at ho
      obtain rfl := Option.some.inj ho
      intro a' hds W K hB lq ld hmem hK
      have e24 : a'.eval (.tmp 24) = .int .i64 (f : Int) := by rw [eval_tmp]; exact lq (24, .int .i64 (f : Int)) (by simp)
      have t24 := (eval_tmp a' 24).symm.trans e24
      have HK := Lib.hid (show K (a'.put (some 255) (.int .i64 (f : Int))) W from hK W (Below.refl _ _) trivial)
      clear hK ld lq hmem
      unfold Oper.wp
      simp only [execOp, e24]
      exact HK.out
    | 14, _ =>
      obtain ⟨ty, pos, aft, e, hdp⟩ := iop14
      rw [e] at ho
      obtain rfl := Option.some.inj ho
      intro a' hds W K hB lq ld hmem hK
      have e254 : a'.eval (.tmp 254) = .int .i64 (z : Int) := by rw [eval_tmp]; exact ld 12 254 (List.all_eq_true.1 hdp 12 (by decide)) rfl
      have t254 := (eval_tmp a' 254).symm.trans e254
      have e255 : a'.eval (.tmp 255) = .int .i64 (f : Int) := by rw [eval_tmp]; exact ld 13 255 (List.all_eq_true.1 hdp 13 (by decide)) rfl
      have t255 := (eval_tmp a' 255).symm.trans e255
      have HK := Lib.hid (show K (a'.put (some 256) (.bool false)) W from hK W (Below.refl _ _) trivial)
      clear hK ld lq hmem
      unfold Oper.wp
      simp only [execOp, e254, e255]
      go_simp
      rw [show decide (z ≤ f) = false from decide_eq_false (by omega)]; exact HK.out
    | 15, _ =>
      obtain ⟨ty, pos, aft, e, hdp⟩ := iop15
      rw [e] at ho
      obtain rfl := Option.some.inj ho
      intro a' hds W K hB lq ld hmem hK
      have e253 : a'.eval (.tmp 253) = .bool false := by rw [eval_tmp]; exact ld 11 253 (List.all_eq_true.1 hdp 11 (by decide)) rfl
      have t253 := (eval_tmp a' 253).symm.trans e253
      have e256 : a'.eval (.tmp 256) = .bool false := by rw [eval_tmp]; exact ld 14 256 (List.all_eq_true.1 hdp 14 (by decide)) rfl
      have t256 := (eval_tmp a' 256).symm.trans e256
      have HK := Lib.hid (show K (a'.put (some 257) (.bool false)) W from hK W (Below.refl _ _) trivial)
      clear hK ld lq hmem
      unfold Oper.wp
      simp only [execOp, e253, e256]
      go_simp
      exact HK.out
    | 16, _ =>
      obtain ⟨ty, pos, aft, e, hdp⟩ := iop16
      rw [e] at ho
      obtain rfl := Option.some.inj ho
      intro a' hds W K hB lq ld hmem hK
      have e257 : a'.eval (.tmp 257) = .bool false := by rw [eval_tmp]; exact ld 15 257 (List.all_eq_true.1 hdp 15 (by decide)) rfl
      have t257 := (eval_tmp a' 257).symm.trans e257
      have HK := Lib.hid (show K (a'.put (some 258) (.bool false)) W from hK W (Below.refl _ _) trivial)
      clear hK ld lq hmem
      unfold Oper.wp
      simp only [execOp, e257]
      exact HK.out
    | 17, _ =>
      obtain ⟨ty, pos, aft, e, hdp⟩ := iop17
      rw [e] at ho
      obtain rfl := Option.some.inj ho
      intro a' hds W K hB lq ld hmem hK
      have e23 : a'.eval (.tmp 23) = .int .i64 (z : Int) := by rw [eval_tmp]; exact lq (23, .int .i64 (z : Int)) (by simp)
      have t23 := (eval_tmp a' 23).symm.trans e23
      have HK := Lib.hid (show K (a'.put (some 259) (.int .i64 (z : Int))) W from hK W (Below.refl _ _) trivial)
      clear hK ld lq hmem
      unfold Oper.wp
      simp only [execOp, e23]
      exact HK.out
    | 18, _ =>
      obtain ⟨ty, pos, aft, e, hdp⟩ := iop18
      rw [e] at ho
      obtain rfl := Option.some.inj ho
      intro a' hds W K hB lq ld hmem hK
      have e5 : a'.eval (.tmp 5) = .pointer (some ⟨E, 0, none⟩) := by rw [eval_tmp]; exact lq (5, .pointer (some ⟨E, 0, none⟩)) (by simp)
      have t5 := (eval_tmp a' 5).symm.trans e5
      have HK := Lib.hid (show K (a'.put (some 260) (.pointer (some ⟨E, 1, none⟩))) W from hK W (Below.refl _ _) trivial)
      clear hK ld lq hmem
      unfold Oper.wp
      simp only [execOp, e5]
      go_simp
      exact HK.out
    | 19, _ =>
      obtain ⟨ty, pos, aft, e, hdp⟩ := iop19
      rw [e] at ho
      obtain rfl := Option.some.inj ho
      intro a' hds W K hB lq ld hmem hK
      have e260 : a'.eval (.tmp 260) = .pointer (some ⟨E, 1, none⟩) := by rw [eval_tmp]; exact ld 18 260 (List.all_eq_true.1 hdp 18 (by decide)) rfl
      have t260 := (eval_tmp a' 260).symm.trans e260
      have HK := Lib.hid (show K (a'.put (some 261) (.slice (some ⟨gh, 0, none⟩) T qh)) W from hK W (Below.refl _ _) trivial)
      clear hK ld lq hmem
      have c1 := (hE.next hB).cell' 1 rfl
      unfold Oper.wp
      simp only [execOp, e260]
      go_simp
      exact HK.out
    | 20, _ =>
      obtain ⟨pos, aft, e, hdp⟩ := iop20
      rw [e] at ho
      obtain rfl := Option.some.inj ho
      intro a' hds W K hB lq ld hmem hK
      have e261 : a'.eval (.tmp 261) = .slice (some ⟨gh, 0, none⟩) T qh := by rw [eval_tmp]; exact ld 19 261 (List.all_eq_true.1 hdp 19 (by decide)) rfl
      have t261 := (eval_tmp a' 261).symm.trans e261
      have HK := Lib.hid (show K (a'.put (some 262) (.int .i64 (T : Int))) W from hK W (Below.refl _ _) trivial)
      clear hK ld lq hmem
      unfold Oper.wp
      simp only [execOp, e261]
      go_simp
      exact HK.out
    | 21, _ =>
      obtain ⟨ty, pos, aft, e, hdp⟩ := iop21
      rw [e] at ho
      obtain rfl := Option.some.inj ho
      intro a' hds W K hB lq ld hmem hK
      have e259 : a'.eval (.tmp 259) = .int .i64 (z : Int) := by rw [eval_tmp]; exact ld 17 259 (List.all_eq_true.1 hdp 17 (by decide)) rfl
      have t259 := (eval_tmp a' 259).symm.trans e259
      have e262 : a'.eval (.tmp 262) = .int .i64 (T : Int) := by rw [eval_tmp]; exact ld 20 262 (List.all_eq_true.1 hdp 20 (by decide)) rfl
      have t262 := (eval_tmp a' 262).symm.trans e262
      have HK := Lib.hid (show K (a'.put (some 263) (.bool false)) W from hK W (Below.refl _ _) trivial)
      clear hK ld lq hmem
      unfold Oper.wp
      simp only [execOp, e259, e262]
      go_simp
      rw [show decide (T ≤ z) = false from decide_eq_false (by omega)]; exact HK.out
    | 22, _ =>
      obtain ⟨ty, pos, aft, e, hdp⟩ := iop22
      rw [e] at ho
      obtain rfl := Option.some.inj ho
      intro a' hds W K hB lq ld hmem hK
      have e258 : a'.eval (.tmp 258) = .bool false := by rw [eval_tmp]; exact ld 16 258 (List.all_eq_true.1 hdp 16 (by decide)) rfl
      have t258 := (eval_tmp a' 258).symm.trans e258
      have e263 : a'.eval (.tmp 263) = .bool false := by rw [eval_tmp]; exact ld 21 263 (List.all_eq_true.1 hdp 21 (by decide)) rfl
      have t263 := (eval_tmp a' 263).symm.trans e263
      have HK := Lib.hid (show K (a'.put (some 264) (.bool false)) W from hK W (Below.refl _ _) trivial)
      clear hK ld lq hmem
      unfold Oper.wp
      simp only [execOp, e258, e263]
      go_simp
      exact HK.out
    | 23, _ =>
      obtain ⟨ty, pos, aft, e, hdp⟩ := iop23
      rw [e] at ho
      obtain rfl := Option.some.inj ho
      intro a' hds W K hB lq ld hmem hK
      have e264 : a'.eval (.tmp 264) = .bool false := by rw [eval_tmp]; exact ld 22 264 (List.all_eq_true.1 hdp 22 (by decide)) rfl
      have t264 := (eval_tmp a' 264).symm.trans e264
      have HK := Lib.hid (show K (a'.put (some 265) (.bool false)) W from hK W (Below.refl _ _) trivial)
      clear hK ld lq hmem
      unfold Oper.wp
      simp only [execOp, e264]
      exact HK.out
    | 24, _ =>
      obtain ⟨ty, pos, aft, e, hdp⟩ := iop24
      rw [e] at ho
      obtain rfl := Option.some.inj ho
      intro a' hds W K hB lq ld hmem hK
      have e24 : a'.eval (.tmp 24) = .int .i64 (f : Int) := by rw [eval_tmp]; exact lq (24, .int .i64 (f : Int)) (by simp)
      have t24 := (eval_tmp a' 24).symm.trans e24
      have HK := Lib.hid (show K (a'.put (some 266) (.int .i64 (f : Int))) W from hK W (Below.refl _ _) trivial)
      clear hK ld lq hmem
      unfold Oper.wp
      simp only [execOp, e24]
      exact HK.out
    | 25, _ =>
      obtain ⟨ty, pos, aft, e, hdp⟩ := iop25
      rw [e] at ho
      obtain rfl := Option.some.inj ho
      intro a' hds W K hB lq ld hmem hK
      have e266 : a'.eval (.tmp 266) = .int .i64 (f : Int) := by rw [eval_tmp]; exact ld 24 266 (List.all_eq_true.1 hdp 24 (by decide)) rfl
      have t266 := (eval_tmp a' 266).symm.trans e266
      have HK := Lib.hid (show K (a'.put (some 267) (.bool false)) W from hK W (Below.refl _ _) trivial)
      clear hK ld lq hmem
      have hd := decide_eq_false (p := (f : Int) < 0) (by omega)
      unfold Oper.wp
      simp only [execOp, e266]
      go_simp
      exact HK.out
    | 26, _ =>
      obtain ⟨ty, pos, aft, e, hdp⟩ := iop26
      rw [e] at ho
      obtain rfl := Option.some.inj ho
      intro a' hds W K hB lq ld hmem hK
      have e265 : a'.eval (.tmp 265) = .bool false := by rw [eval_tmp]; exact ld 23 265 (List.all_eq_true.1 hdp 23 (by decide)) rfl
      have t265 := (eval_tmp a' 265).symm.trans e265
      have e267 : a'.eval (.tmp 267) = .bool false := by rw [eval_tmp]; exact ld 25 267 (List.all_eq_true.1 hdp 25 (by decide)) rfl
      have t267 := (eval_tmp a' 267).symm.trans e267
      have HK := Lib.hid (show K (a'.put (some 268) (.bool false)) W from hK W (Below.refl _ _) trivial)
      clear hK ld lq hmem
      unfold Oper.wp
      simp only [execOp, e265, e267]
      go_simp
      exact HK.out
    | 27, _ =>
      obtain ⟨ty, pos, aft, e, hdp⟩ := iop27
      rw [e] at ho
      obtain rfl := Option.some.inj ho
      intro a' hds W K hB lq ld hmem hK
      have e268 : a'.eval (.tmp 268) = .bool false := by rw [eval_tmp]; exact ld 26 268 (List.all_eq_true.1 hdp 26 (by decide)) rfl
      have t268 := (eval_tmp a' 268).symm.trans e268
      have HK := Lib.hid (show K (a'.put (some 269) (.bool false)) W from hK W (Below.refl _ _) trivial)
      clear hK ld lq hmem
      unfold Oper.wp
      simp only [execOp, e268]
      exact HK.out
    | 28, _ =>
      obtain ⟨ty, pos, aft, e, hdp⟩ := iop28
      rw [e] at ho
      obtain rfl := Option.some.inj ho
      intro a' hds W K hB lq ld hmem hK
      have e5 : a'.eval (.tmp 5) = .pointer (some ⟨E, 0, none⟩) := by rw [eval_tmp]; exact lq (5, .pointer (some ⟨E, 0, none⟩)) (by simp)
      have t5 := (eval_tmp a' 5).symm.trans e5
      have HK := Lib.hid (show K (a'.put (some 270) (.pointer (some ⟨E, 1, none⟩))) W from hK W (Below.refl _ _) trivial)
      clear hK ld lq hmem
      unfold Oper.wp
      simp only [execOp, e5]
      go_simp
      exact HK.out
    | 29, _ =>
      obtain ⟨ty, pos, aft, e, hdp⟩ := iop29
      rw [e] at ho
      obtain rfl := Option.some.inj ho
      intro a' hds W K hB lq ld hmem hK
      have e270 : a'.eval (.tmp 270) = .pointer (some ⟨E, 1, none⟩) := by rw [eval_tmp]; exact ld 28 270 (List.all_eq_true.1 hdp 28 (by decide)) rfl
      have t270 := (eval_tmp a' 270).symm.trans e270
      have HK := Lib.hid (show K (a'.put (some 271) (.slice (some ⟨gh, 0, none⟩) T qh)) W from hK W (Below.refl _ _) trivial)
      clear hK ld lq hmem
      have c1 := (hE.next hB).cell' 1 rfl
      unfold Oper.wp
      simp only [execOp, e270]
      go_simp
      exact HK.out
    | 30, _ =>
      obtain ⟨ty, pos, aft, e, hdp⟩ := iop30
      rw [e] at ho
      obtain rfl := Option.some.inj ho
      intro a' hds W K hB lq ld hmem hK
      have e23 : a'.eval (.tmp 23) = .int .i64 (z : Int) := by rw [eval_tmp]; exact lq (23, .int .i64 (z : Int)) (by simp)
      have t23 := (eval_tmp a' 23).symm.trans e23
      have HK := Lib.hid (show K (a'.put (some 272) (.int .i64 (z : Int))) W from hK W (Below.refl _ _) trivial)
      clear hK ld lq hmem
      unfold Oper.wp
      simp only [execOp, e23]
      exact HK.out
    | 31, _ =>
      obtain ⟨ty, pos, aft, e, hdp⟩ := iop31
      rw [e] at ho
      obtain rfl := Option.some.inj ho
      intro a' hds W K hB lq ld hmem hK
      have e271 : a'.eval (.tmp 271) = .slice (some ⟨gh, 0, none⟩) T qh := by rw [eval_tmp]; exact ld 29 271 (List.all_eq_true.1 hdp 29 (by decide)) rfl
      have t271 := (eval_tmp a' 271).symm.trans e271
      have e272 : a'.eval (.tmp 272) = .int .i64 (z : Int) := by rw [eval_tmp]; exact ld 30 272 (List.all_eq_true.1 hdp 30 (by decide)) rfl
      have t272 := (eval_tmp a' 272).symm.trans e272
      have HK := Lib.hid (show K (a'.put (some 273) (.pointer (some ⟨gh, z, none⟩))) W from hK W (Below.refl _ _) trivial)
      clear hK ld lq hmem
      unfold Oper.wp
      simp only [execOp, e271, e272]
      go_simp
      exact HK.out
    | 32, _ =>
      obtain ⟨ty, pos, aft, e, hdp⟩ := iop32
      rw [e] at ho
      obtain rfl := Option.some.inj ho
      intro a' hds W K hB lq ld hmem hK
      have e273 : a'.eval (.tmp 273) = .pointer (some ⟨gh, z, none⟩) := by rw [eval_tmp]; exact ld 31 273 (List.all_eq_true.1 hdp 31 (by decide)) rfl
      have t273 := (eval_tmp a' 273).symm.trans e273
      have HK := Lib.hid (show K (a'.put (some 274) (.int .i64 (y : Int))) W from hK W (Below.refl _ _) trivial)
      clear hK ld lq hmem
      have h0 := (hn6.below hB hg6) z (by omega)
      rw [Nat.zero_add, hy1] at h0
      unfold Oper.wp
      simp only [execOp, e273]
      go_simp
      exact HK.out
    | 33, _ =>
      obtain ⟨ty, pos, aft, e, hdp⟩ := iop33
      rw [e] at ho
      obtain rfl := Option.some.inj ho
      intro a' hds W K hB lq ld hmem hK
      have e5 : a'.eval (.tmp 5) = .pointer (some ⟨E, 0, none⟩) := by rw [eval_tmp]; exact lq (5, .pointer (some ⟨E, 0, none⟩)) (by simp)
      have t5 := (eval_tmp a' 5).symm.trans e5
      have HK := Lib.hid (show K (a'.put (some 275) (.pointer (some ⟨E, 1, none⟩))) W from hK W (Below.refl _ _) trivial)
      clear hK ld lq hmem
      unfold Oper.wp
      simp only [execOp, e5]
      go_simp
      exact HK.out
    | 34, _ =>
      obtain ⟨ty, pos, aft, e, hdp⟩ := iop34
      rw [e] at ho
      obtain rfl := Option.some.inj ho
      intro a' hds W K hB lq ld hmem hK
      have e275 : a'.eval (.tmp 275) = .pointer (some ⟨E, 1, none⟩) := by rw [eval_tmp]; exact ld 33 275 (List.all_eq_true.1 hdp 33 (by decide)) rfl
      have t275 := (eval_tmp a' 275).symm.trans e275
      have HK := Lib.hid (show K (a'.put (some 276) (.slice (some ⟨gh, 0, none⟩) T qh)) W from hK W (Below.refl _ _) trivial)
      clear hK ld lq hmem
      have c1 := (hE.next hB).cell' 1 rfl
      unfold Oper.wp
      simp only [execOp, e275]
      go_simp
      exact HK.out
    | 35, _ =>
      obtain ⟨ty, pos, aft, e, hdp⟩ := iop35
      rw [e] at ho
      obtain rfl := Option.some.inj ho
      intro a' hds W K hB lq ld hmem hK
      have e15 : a'.eval (.tmp 15) = .int .i64 (v : Int) := by rw [eval_tmp]; exact lq (15, .int .i64 (v : Int)) (by simp)
      have t15 := (eval_tmp a' 15).symm.trans e15
      have HK := Lib.hid (show K (a'.put (some 277) (.int .i64 (v : Int))) W from hK W (Below.refl _ _) trivial)
      clear hK ld lq hmem
      unfold Oper.wp
      simp only [execOp, e15]
      exact HK.out
    | 36, _ =>
      obtain ⟨ty, pos, aft, e, hdp⟩ := iop36
      rw [e] at ho
      obtain rfl := Option.some.inj ho
      intro a' hds W K hB lq ld hmem hK
      have e276 : a'.eval (.tmp 276) = .slice (some ⟨gh, 0, none⟩) T qh := by rw [eval_tmp]; exact ld 34 276 (List.all_eq_true.1 hdp 34 (by decide)) rfl
      have t276 := (eval_tmp a' 276).symm.trans e276
      have e277 : a'.eval (.tmp 277) = .int .i64 (v : Int) := by rw [eval_tmp]; exact ld 35 277 (List.all_eq_true.1 hdp 35 (by decide)) rfl
      have t277 := (eval_tmp a' 277).symm.trans e277
      have HK := Lib.hid (show K (a'.put (some 278) (.pointer (some ⟨gh, v, none⟩))) W from hK W (Below.refl _ _) trivial)
      clear hK ld lq hmem
      unfold Oper.wp
      simp only [execOp, e276, e277]
      go_simp
      exact HK.out
    | 37, _ =>
      obtain ⟨ty, pos, aft, e, hdp⟩ := iop37
      rw [e] at ho
      obtain rfl := Option.some.inj ho
      intro a' hds W K hB lq ld hmem hK
      have e278 : a'.eval (.tmp 278) = .pointer (some ⟨gh, v, none⟩) := by rw [eval_tmp]; exact ld 36 278 (List.all_eq_true.1 hdp 36 (by decide)) rfl
      have t278 := (eval_tmp a' 278).symm.trans e278
      have HK := Lib.hid (show K (a'.put (some 279) (.int .i64 (y : Int))) W from hK W (Below.refl _ _) trivial)
      clear hK ld lq hmem
      have h0 := (hn6.below hB hg6) v (by omega)
      rw [Nat.zero_add, hy3] at h0
      unfold Oper.wp
      simp only [execOp, e278]
      go_simp
      exact HK.out
    | 38, _ =>
      obtain ⟨ty, pos, aft, e, hdp⟩ := iop38
      rw [e] at ho
      obtain rfl := Option.some.inj ho
      intro a' hds W K hB lq ld hmem hK
      have e274 : a'.eval (.tmp 274) = .int .i64 (y : Int) := by rw [eval_tmp]; exact ld 32 274 (List.all_eq_true.1 hdp 32 (by decide)) rfl
      have t274 := (eval_tmp a' 274).symm.trans e274
      have e279 : a'.eval (.tmp 279) = .int .i64 (y : Int) := by rw [eval_tmp]; exact ld 37 279 (List.all_eq_true.1 hdp 37 (by decide)) rfl
      have t279 := (eval_tmp a' 279).symm.trans e279
      have HK := Lib.hid (show K (a'.put (some 280) (.bool false)) W from hK W (Below.refl _ _) trivial)
      clear hK ld lq hmem
      unfold Oper.wp
      simp only [execOp, e274, e279]
      go_simp
      exact HK.out
    | 39, _ =>
      obtain ⟨ty, pos, aft, e, hdp⟩ := iop39
      rw [e] at ho
      obtain rfl := Option.some.inj ho
      intro a' hds W K hB lq ld hmem hK
      have e269 : a'.eval (.tmp 269) = .bool false := by rw [eval_tmp]; exact ld 27 269 (List.all_eq_true.1 hdp 27 (by decide)) rfl
      have t269 := (eval_tmp a' 269).symm.trans e269
      have e280 : a'.eval (.tmp 280) = .bool false := by rw [eval_tmp]; exact ld 38 280 (List.all_eq_true.1 hdp 38 (by decide)) rfl
      have t280 := (eval_tmp a' 280).symm.trans e280
      have HK := Lib.hid (show K (a'.put (some 281) (.bool false)) W from hK W (Below.refl _ _) trivial)
      clear hK ld lq hmem
      unfold Oper.wp
      simp only [execOp, e269, e280]
      go_simp
      exact HK.out
    | 40, _ =>
      obtain ⟨ty, pos, aft, e, hdp⟩ := iop40
      rw [e] at ho
      obtain rfl := Option.some.inj ho
      intro a' hds W K hB lq ld hmem hK
      have e281 : a'.eval (.tmp 281) = .bool false := by rw [eval_tmp]; exact ld 39 281 (List.all_eq_true.1 hdp 39 (by decide)) rfl
      have t281 := (eval_tmp a' 281).symm.trans e281
      have HK := Lib.hid (show K (a'.put (some 282) (.bool false)) W from hK W (Below.refl _ _) trivial)
      clear hK ld lq hmem
      unfold Oper.wp
      simp only [execOp, e281]
      exact HK.out
    | 41, _ =>
      obtain ⟨ty, pos, aft, e, hdp⟩ := iop41
      rw [e] at ho
      obtain rfl := Option.some.inj ho
      intro a' hds W K hB lq ld hmem hK
      have e5 : a'.eval (.tmp 5) = .pointer (some ⟨E, 0, none⟩) := by rw [eval_tmp]; exact lq (5, .pointer (some ⟨E, 0, none⟩)) (by simp)
      have t5 := (eval_tmp a' 5).symm.trans e5
      have HK := Lib.hid (show K (a'.put (some 283) (.pointer (some ⟨E, 1, none⟩))) W from hK W (Below.refl _ _) trivial)
      clear hK ld lq hmem
      unfold Oper.wp
      simp only [execOp, e5]
      go_simp
      exact HK.out
    | 42, _ =>
      obtain ⟨ty, pos, aft, e, hdp⟩ := iop42
      rw [e] at ho
      obtain rfl := Option.some.inj ho
      intro a' hds W K hB lq ld hmem hK
      have e283 : a'.eval (.tmp 283) = .pointer (some ⟨E, 1, none⟩) := by rw [eval_tmp]; exact ld 41 283 (List.all_eq_true.1 hdp 41 (by decide)) rfl
      have t283 := (eval_tmp a' 283).symm.trans e283
      have HK := Lib.hid (show K (a'.put (some 284) (.slice (some ⟨gh, 0, none⟩) T qh)) W from hK W (Below.refl _ _) trivial)
      clear hK ld lq hmem
      have c1 := (hE.next hB).cell' 1 rfl
      unfold Oper.wp
      simp only [execOp, e283]
      go_simp
      exact HK.out
    | 43, _ =>
      obtain ⟨ty, pos, aft, e, hdp⟩ := iop43
      rw [e] at ho
      obtain rfl := Option.some.inj ho
      intro a' hds W K hB lq ld hmem hK
      have e24 : a'.eval (.tmp 24) = .int .i64 (f : Int) := by rw [eval_tmp]; exact lq (24, .int .i64 (f : Int)) (by simp)
      have t24 := (eval_tmp a' 24).symm.trans e24
      have HK := Lib.hid (show K (a'.put (some 285) (.int .i64 (f : Int))) W from hK W (Below.refl _ _) trivial)
      clear hK ld lq hmem
      unfold Oper.wp
      simp only [execOp, e24]
      exact HK.out
    | 44, _ =>
      obtain ⟨ty, pos, aft, e, hdp⟩ := iop44
      rw [e] at ho
      obtain rfl := Option.some.inj ho
      intro a' hds W K hB lq ld hmem hK
      have e284 : a'.eval (.tmp 284) = .slice (some ⟨gh, 0, none⟩) T qh := by rw [eval_tmp]; exact ld 42 284 (List.all_eq_true.1 hdp 42 (by decide)) rfl
      have t284 := (eval_tmp a' 284).symm.trans e284
      have e285 : a'.eval (.tmp 285) = .int .i64 (f : Int) := by rw [eval_tmp]; exact ld 43 285 (List.all_eq_true.1 hdp 43 (by decide)) rfl
      have t285 := (eval_tmp a' 285).symm.trans e285
      have HK := Lib.hid (show K (a'.put (some 286) (.pointer (some ⟨gh, f, none⟩))) W from hK W (Below.refl _ _) trivial)
      clear hK ld lq hmem
      unfold Oper.wp
      simp only [execOp, e284, e285]
      go_simp
      exact HK.out
    | 45, _ =>
      obtain ⟨ty, pos, aft, e, hdp⟩ := iop45
      rw [e] at ho
      obtain rfl := Option.some.inj ho
      intro a' hds W K hB lq ld hmem hK
      have e286 : a'.eval (.tmp 286) = .pointer (some ⟨gh, f, none⟩) := by rw [eval_tmp]; exact ld 44 286 (List.all_eq_true.1 hdp 44 (by decide)) rfl
      have t286 := (eval_tmp a' 286).symm.trans e286
      have HK := Lib.hid (show K (a'.put (some 287) (.int .i64 (y : Int))) W from hK W (Below.refl _ _) trivial)
      clear hK ld lq hmem
      have h0 := (hn6.below hB hg6) f (by omega)
      rw [Nat.zero_add, hy2] at h0
      unfold Oper.wp
      simp only [execOp, e286]
      go_simp
      exact HK.out
    | 46, _ =>
      obtain ⟨ty, pos, aft, e, hdp⟩ := iop46
      rw [e] at ho
      obtain rfl := Option.some.inj ho
      intro a' hds W K hB lq ld hmem hK
      have e5 : a'.eval (.tmp 5) = .pointer (some ⟨E, 0, none⟩) := by rw [eval_tmp]; exact lq (5, .pointer (some ⟨E, 0, none⟩)) (by simp)
      have t5 := (eval_tmp a' 5).symm.trans e5
      have HK := Lib.hid (show K (a'.put (some 288) (.pointer (some ⟨E, 1, none⟩))) W from hK W (Below.refl _ _) trivial)
      clear hK ld lq hmem
      unfold Oper.wp
      simp only [execOp, e5]
      go_simp
      exact HK.out
    | 47, _ =>
      obtain ⟨ty, pos, aft, e, hdp⟩ := iop47
      rw [e] at ho
      obtain rfl := Option.some.inj ho
      intro a' hds W K hB lq ld hmem hK
      have e288 : a'.eval (.tmp 288) = .pointer (some ⟨E, 1, none⟩) := by rw [eval_tmp]; exact ld 46 288 (List.all_eq_true.1 hdp 46 (by decide)) rfl
      have t288 := (eval_tmp a' 288).symm.trans e288
      have HK := Lib.hid (show K (a'.put (some 289) (.slice (some ⟨gh, 0, none⟩) T qh)) W from hK W (Below.refl _ _) trivial)
      clear hK ld lq hmem
      have c1 := (hE.next hB).cell' 1 rfl
      unfold Oper.wp
      simp only [execOp, e288]
      go_simp
      exact HK.out
    | 48, _ =>
      obtain ⟨ty, pos, aft, e, hdp⟩ := iop48
      rw [e] at ho
      obtain rfl := Option.some.inj ho
      intro a' hds W K hB lq ld hmem hK
      have e15 : a'.eval (.tmp 15) = .int .i64 (v : Int) := by rw [eval_tmp]; exact lq (15, .int .i64 (v : Int)) (by simp)
      have t15 := (eval_tmp a' 15).symm.trans e15
      have HK := Lib.hid (show K (a'.put (some 290) (.int .i64 (v : Int))) W from hK W (Below.refl _ _) trivial)
      clear hK ld lq hmem
      unfold Oper.wp
      simp only [execOp, e15]
      exact HK.out
    | 49, _ =>
      obtain ⟨ty, pos, aft, e, hdp⟩ := iop49
      rw [e] at ho
      obtain rfl := Option.some.inj ho
      intro a' hds W K hB lq ld hmem hK
      have e289 : a'.eval (.tmp 289) = .slice (some ⟨gh, 0, none⟩) T qh := by rw [eval_tmp]; exact ld 47 289 (List.all_eq_true.1 hdp 47 (by decide)) rfl
      have t289 := (eval_tmp a' 289).symm.trans e289
      have e290 : a'.eval (.tmp 290) = .int .i64 (v : Int) := by rw [eval_tmp]; exact ld 48 290 (List.all_eq_true.1 hdp 48 (by decide)) rfl
      have t290 := (eval_tmp a' 290).symm.trans e290
      have HK := Lib.hid (show K (a'.put (some 291) (.pointer (some ⟨gh, v, none⟩))) W from hK W (Below.refl _ _) trivial)
      clear hK ld lq hmem
      unfold Oper.wp
      simp only [execOp, e289, e290]
      go_simp
      exact HK.out
    | 50, _ =>
      obtain ⟨ty, pos, aft, e, hdp⟩ := iop50
      rw [e] at ho
      obtain rfl := Option.some.inj ho
      intro a' hds W K hB lq ld hmem hK
      have e291 : a'.eval (.tmp 291) = .pointer (some ⟨gh, v, none⟩) := by rw [eval_tmp]; exact ld 49 291 (List.all_eq_true.1 hdp 49 (by decide)) rfl
      have t291 := (eval_tmp a' 291).symm.trans e291
      have HK := Lib.hid (show K (a'.put (some 292) (.int .i64 (y : Int))) W from hK W (Below.refl _ _) trivial)
      clear hK ld lq hmem
      have h0 := (hn6.below hB hg6) v (by omega)
      rw [Nat.zero_add, hy3] at h0
      unfold Oper.wp
      simp only [execOp, e291]
      go_simp
      exact HK.out
    | 51, _ =>
      obtain ⟨ty, pos, aft, e, hdp⟩ := iop51
      rw [e] at ho
      obtain rfl := Option.some.inj ho
      intro a' hds W K hB lq ld hmem hK
      have e287 : a'.eval (.tmp 287) = .int .i64 (y : Int) := by rw [eval_tmp]; exact ld 45 287 (List.all_eq_true.1 hdp 45 (by decide)) rfl
      have t287 := (eval_tmp a' 287).symm.trans e287
      have e292 : a'.eval (.tmp 292) = .int .i64 (y : Int) := by rw [eval_tmp]; exact ld 50 292 (List.all_eq_true.1 hdp 50 (by decide)) rfl
      have t292 := (eval_tmp a' 292).symm.trans e292
      have HK := Lib.hid (show K (a'.put (some 293) (.bool false)) W from hK W (Below.refl _ _) trivial)
      clear hK ld lq hmem
      unfold Oper.wp
      simp only [execOp, e287, e292]
      go_simp
      exact HK.out
    | 52, _ =>
      obtain ⟨ty, pos, aft, e, hdp⟩ := iop52
      rw [e] at ho
      obtain rfl := Option.some.inj ho
      intro a' hds W K hB lq ld hmem hK
      have e282 : a'.eval (.tmp 282) = .bool false := by rw [eval_tmp]; exact ld 40 282 (List.all_eq_true.1 hdp 40 (by decide)) rfl
      have t282 := (eval_tmp a' 282).symm.trans e282
      have e293 : a'.eval (.tmp 293) = .bool false := by rw [eval_tmp]; exact ld 51 293 (List.all_eq_true.1 hdp 51 (by decide)) rfl
      have t293 := (eval_tmp a' 293).symm.trans e293
      have HK := Lib.hid (show K (a'.put (some 294) (.bool false)) W from hK W (Below.refl _ _) trivial)
      clear hK ld lq hmem
      unfold Oper.wp
      simp only [execOp, e282, e293]
      go_simp
      exact HK.out
    | i + 53, h => omega
  · intro hds v W hO
    have hfin := gend (v 242) (v 243) (v 244) (v 245) (v 246) (v 247) (v 248) (v 249) (v 250) (v 251) (v 252) (v 253) (v 254) (v 255) (v 256) (v 257) (v 258) (v 259) (v 260) (v 261) (v 262) (v 263) (v 264) (v 265) (v 266) (v 267) (v 268) (v 269) (v 270) (v 271) (v 272) (v 273) (v 274) (v 275) (v 276) (v 277) (v 278) (v 279) (v 280) (v 281) (v 282) (v 283) (v 284) (v 285) (v 286) (v 287) (v 288) (v 289) (v 290) (v 291) (v 292) (v 293) W hO.b
    rw [← laid_putL _ a v ?_] at hfin
    · exact hfin
    · intro p hp
      simp only [List.mem_cons, List.not_mem_nil, or_false] at hp
      rcases hp with rfl | rfl | rfl | rfl | rfl | rfl | rfl | rfl | rfl | rfl | rfl | rfl | rfl | rfl | rfl | rfl | rfl | rfl | rfl | rfl | rfl | rfl | rfl | rfl | rfl | rfl | rfl | rfl | rfl | rfl | rfl | rfl | rfl | rfl | rfl | rfl | rfl | rfl | rfl | rfl | rfl | rfl | rfl | rfl | rfl | rfl | rfl | rfl | rfl | rfl | rfl | rfl | rfl
      · rfl
      · rfl
      · rfl
      · rfl
      · rfl
      · rfl
      · rfl
      · rfl
      · rfl
      · rfl
      · rfl
      · rfl
      · rfl
      · rfl
      · rfl
      · rfl
      · rfl
      · rfl
      · rfl
      · rfl
      · rfl
      · rfl
      · rfl
      · rfl
      · rfl
      · rfl
      · rfl
      · rfl
      · rfl
      · rfl
      · rfl
      · rfl
      · rfl
      · rfl
      · rfl
      · rfl
      · rfl
      · rfl
      · rfl
      · rfl
      · rfl
      · rfl
      · rfl
      · rfl
      · rfl
      · rfl
      · rfl
      · rfl
      · rfl
      · rfl
      · rfl
      · rfl
      · exact hO.x 52 (show 52 < 53 by decide) 294 rfl
def region_tt37aU : List (List Nat) := [[], [], [], [], [], [], [], [], [], [], [], [], [], [], [], [], [], [], [], [], [], [], [], [], [], [], [], [], [], [], [], []]
def region_tt37aX (L gc qc p z f v : Nat) (SS : List ByteArray) (s2 : ByteArray) (X1 X2 : Int) : Nat → (Nat → Hd) → Value
  | 0, _ => .slice (some ⟨gc, 0, none⟩) L qc
  | 1, _ => .int .i64 (p : Int)
  | 2, _ => .pointer (some ⟨gc, p, none⟩)
  | 3, _ => .string s2
  | 4, _ => .int .i64 (z : Int)
  | 5, _ => .int .u8 X1
  | 6, _ => .slice (some ⟨gc, 0, none⟩) L qc
  | 7, _ => .int .i64 (p : Int)
  | 8, _ => .pointer (some ⟨gc, p, none⟩)
  | 9, _ => .string s2
  | 10, _ => .int .i64 (f : Int)
  | 11, _ => .int .u8 X2
  | 12, _ => .bool true
  | 13, _ => .bool true
  | 14, _ => .int .i64 (f : Int)
  | 15, _ => .int .i64 (f : Int)
  | 16, _ => .bool true
  | 17, _ => .bool true
  | 18, _ => .bool true
  | 19, _ => .int .i64 (v : Int)
  | 20, _ => .int .i64 (f : Int)
  | 21, _ => .bool true
  | 22, _ => .bool true
  | 23, _ => undef
  | 24, _ => undef
  | 25, _ => undef
  | 26, _ => .bool true
  | 27, _ => .bool true
  | 28, _ => .bool true
  | 29, _ => .bool true
  | 30, _ => .bool true
  | 31, _ => .bool true
  | _ + 32, _ => undef
theorem region_tt37aX.congr (L gc qc p z f v : Nat) (SS : List ByteArray) (s2 : ByteArray) (X1 X2 : Int) : ∀ i hds hds', (∀ r ∈ uOf region_tt37aU i, hds r = hds' r) → region_tt37aX L gc qc p z f v SS s2 X1 X2 i hds = region_tt37aX L gc qc p z f v SS s2 X1 X2 i hds'
  | 0, _, _, _ => rfl
  | 1, _, _, _ => rfl
  | 2, _, _, _ => rfl
  | 3, _, _, _ => rfl
  | 4, _, _, _ => rfl
  | 5, _, _, _ => rfl
  | 6, _, _, _ => rfl
  | 7, _, _, _ => rfl
  | 8, _, _, _ => rfl
  | 9, _, _, _ => rfl
  | 10, _, _, _ => rfl
  | 11, _, _, _ => rfl
  | 12, _, _, _ => rfl
  | 13, _, _, _ => rfl
  | 14, _, _, _ => rfl
  | 15, _, _, _ => rfl
  | 16, _, _, _ => rfl
  | 17, _, _, _ => rfl
  | 18, _, _, _ => rfl
  | 19, _, _, _ => rfl
  | 20, _, _, _ => rfl
  | 21, _, _, _ => rfl
  | 22, _, _, _ => rfl
  | 23, _, _, _ => rfl
  | 24, _, _, _ => rfl
  | 25, _, _, _ => rfl
  | 26, _, _, _ => rfl
  | 27, _, _, _ => rfl
  | 28, _, _, _ => rfl
  | 29, _, _, _ => rfl
  | 30, _, _, _ => rfl
  | 31, _, _, _ => rfl
  | _ + 32, _, _, _ => rfl
def region_tt37aM (L gc qc p z f v : Nat) (SS : List ByteArray) (s2 : ByteArray) (X1 X2 : Int) : Nat → Mem
  | _ => memNone
def region_tt37aS (L gc qc p z f v : Nat) (SS : List ByteArray) (s2 : ByteArray) (X1 X2 : Int) : Nat → Option Sto
  | _ => none
set_option maxRecDepth 8000 in
set_option maxHeartbeats 2000000 in
theorem region_tt37a {id : Nat} {ops : Array Oper} {Q : Exit → Act → World → Prop} {a : Act} {w : World} (L gc qc p z f v : Nat) (SS : List ByteArray) (s2 : ByteArray) (X1 X2 : Int) (hSl : SS.length = L) (hpL : p < L) (hsc : StrsAt w gc 0 SS) (hgc : gc < w.heap.size) (hs : nthB SS p = s2) (hi1 : ∀ W, (Instr.index 9 (.string s2) (.int .i64 (z : Int))).run Try.prog W = .ok (.int .u8 X1) W) (hi2 : ∀ W, (Instr.index 9 (.string s2) (.int .i64 (f : Int))).run Try.prog W = .ok (.int .u8 X2) W) (hX : (X1 != X2) = true) (hvf : ((v : Int) == (f : Int)) = true) 
    (gsize : ops.size = 32)
    (gops : IsOp ops 0 (some 295) (.move (.tmp 7)) none [] ∧ IsOp ops 1 (some 296) (.move (.tmp 14)) none [] ∧ IsOp ops 2 (some 297) (.indexAddr 49 (.tmp 295) (.tmp 296)) none [0, 1] ∧ IsOp ops 3 (some 298) (.load 9 (.tmp 297)) none [2] ∧ IsOp ops 4 (some 299) (.move (.tmp 23)) none [] ∧ IsOp ops 5 (some 300) (.index 9 (.tmp 298) (.tmp 299)) none [3, 4] ∧ IsOp ops 6 (some 301) (.move (.tmp 7)) none [] ∧ IsOp ops 7 (some 302) (.move (.tmp 14)) none [] ∧ IsOp ops 8 (some 303) (.indexAddr 49 (.tmp 301) (.tmp 302)) none [6, 7] ∧ IsOp ops 9 (some 304) (.load 9 (.tmp 303)) none [8] ∧ IsOp ops 10 (some 305) (.move (.tmp 24)) none [] ∧ IsOp ops 11 (some 306) (.index 9 (.tmp 304) (.tmp 305)) none [9, 10] ∧ IsOp ops 12 (some 307) (.binOp .neq 5 (.tmp 300) (.tmp 306) 5) none [5, 11] ∧ IsOp ops 13 (some 308) (.move (.tmp 307)) none [12] ∧ IsOp ops 14 (some 309) (.move (.tmp 24)) (some (13, true)) [13] ∧ IsOp ops 15 (some 310) (.move (.tmp 18)) (some (13, true)) [13] ∧ IsOp ops 16 (some 311) (.binOp .eql 3 (.tmp 309) (.tmp 310) 3) (some (13, true)) [13, 14, 15] ∧ IsOp ops 17 (some 312) (.pick (.tmp 308) (.tmp 311) (.const (.bool false))) none [13, 16] ∧ IsOp ops 18 (some 313) (.move (.tmp 312)) none [17] ∧ IsOp ops 19 (some 314) (.move (.tmp 15)) (some (18, true)) [18] ∧ IsOp ops 20 (some 315) (.move (.tmp 18)) (some (18, true)) [18] ∧ IsOp ops 21 (some 316) (.binOp .eql 3 (.tmp 314) (.tmp 315) 3) (some (18, true)) [18, 19, 20] ∧ IsOp ops 22 (some 317) (.move (.tmp 316)) (some (18, true)) [18, 21] ∧ IsOp ops 23 (some 318) (.move (.tmp 23)) (some (22, false)) [22] ∧ IsOp ops 24 (some 319) (.move (.tmp 15)) (some (22, false)) [22] ∧ IsOp ops 25 (some 320) (.binOp .eql 3 (.tmp 318) (.tmp 319) 3) (some (22, false)) [22, 23, 24] ∧ IsOp ops 26 (some 321) (.pick (.tmp 317) (.const (.bool true)) (.tmp 320)) (some (18, true)) [18, 22, 25] ∧ IsOp ops 27 (some 322) (.pick (.tmp 313) (.tmp 321) (.const (.bool false))) none [18, 26] ∧ IsOp ops 28 (some 323) (.move (.tmp 322)) none [27] ∧ IsOp ops 29 (some 324) (.call { callee := .value (.func 23), args := #[], argTypes := #[] }) (some (28, true)) [28] ∧ IsOp ops 30 (some 325) (.pick (.tmp 323) (.tmp 324) (.const (.bool false))) none [28, 29] ∧ IsOp ops 31 (some 4) (.assign (.tmp 325)) none [30])
    (gbk : backB ops = true) (gds : dstsB ops (dOf [some 295, some 296, some 297, some 298, some 299, some 300, some 301, some 302, some 303, some 304, some 305, some 306, some 307, some 308, some 309, some 310, some 311, some 312, some 313, some 314, some 315, some 316, some 317, some 318, some 319, some 320, some 321, some 322, some 323, some 324, some 325, some 4]) = true) (gus : useB ops (uOf region_tt37aU) (kOf [0, 0, 0, 0, 0, 0, 0, 0, 0, 0, 0, 0, 0, 0, 0, 0, 0, 0, 0, 0, 0, 0, 0, 0, 0, 0, 0, 0, 0, 0, 0, 0]) = true) (ggd : guardW ops (dOf [some 295, some 296, some 297, some 298, some 299, some 300, some 301, some 302, some 303, some 304, some 305, some 306, some 307, some 308, some 309, some 310, some 311, some 312, some 313, some 314, some 315, some 316, some 317, some 318, some 319, some 320, some 321, some 322, some 323, some 324, some 325, some 4]) (fun i => i != 23 && i != 24 && i != 25) [(13, true), (18, true), (22, true), (28, true)] = true) (gsz : ∀ e ∈ [295, 296, 297, 298, 299, 300, 301, 302, 303, 304, 305, 306, 307, 308, 309, 310, 311, 312, 313, 314, 315, 316, 317, 318, 319, 320, 321, 322, 323, 324, 325, 4], e < a.tmps.size)
    (gout : a.eval (.tmp 7) = .slice (some ⟨gc, 0, none⟩) L qc ∧ a.eval (.tmp 14) = .int .i64 (p : Int) ∧ a.eval (.tmp 23) = .int .i64 (z : Int) ∧ a.eval (.tmp 24) = .int .i64 (f : Int) ∧ a.eval (.tmp 18) = .int .i64 (f : Int) ∧ a.eval (.tmp 15) = .int .i64 (v : Int))
    (gend : ∀ (u295 u296 u297 u298 u299 u300 u301 u302 u303 u304 u305 u306 u307 u308 u309 u310 u311 u312 u313 u314 u315 u316 u317 u318 u319 u320 u321 u322 u323 u324 u325 : Value) (W : World), Below w.heap.size w W → Q .normal (putL a [(295, u295), (296, u296), (297, u297), (298, u298), (299, u299), (300, u300), (301, u301), (302, u302), (303, u303), (304, u304), (305, u305), (306, u306), (307, u307), (308, u308), (309, u309), (310, u310), (311, u311), (312, u312), (313, u313), (314, u314), (315, u315), (316, u316), (317, u317), (318, u318), (319, u319), (320, u320), (321, u321), (322, u322), (323, u323), (324, u324), (325, u325), (4, .bool true)]) W) :
    (Code.region id ops true).wp Try.prog Q a w := by
  obtain ⟨iop0, iop1, iop2, iop3, iop4, iop5, iop6, iop7, iop8, iop9, iop10, iop11, iop12, iop13, iop14, iop15, iop16, iop17, iop18, iop19, iop20, iop21, iop22, iop23, iop24, iop25, iop26, iop27, iop28, iop29, iop30, iop31⟩ := gops
  obtain ⟨o7, o14, o23, o24, o18, o15⟩ := gout
  refine region_all (RSp.of 32 [some 295, some 296, some 297, some 298, some 299, some 300, some 301, some 302, some 303, some 304, some 305, some 306, some 307, some 308, some 309, some 310, some 311, some 312, some 313, some 314, some 315, some 316, some 317, some 318, some 319, some 320, some 321, some 322, some 323, some 324, some 325, some 4] (fun i => i != 23 && i != 24 && i != 25) (region_tt37aX L gc qc p z f v SS s2 X1 X2) region_tt37aU [0, 0, 0, 0, 0, 0, 0, 0, 0, 0, 0, 0, 0, 0, 0, 0, 0, 0, 0, 0, 0, 0, 0, 0, 0, 0, 0, 0, 0, 0, 0, 0] (region_tt37aM L gc qc p z f v SS s2 X1 X2) (region_tt37aS L gc qc p z f v SS s2 X1 X2)) [(7, .slice (some ⟨gc, 0, none⟩) L qc), (14, .int .i64 (p : Int)), (23, .int .i64 (z : Int)), (24, .int .i64 (f : Int)), (18, .int .i64 (f : Int)), (15, .int .i64 (v : Int))] [295, 296, 297, 298, 299, 300, 301, 302, 303, 304, 305, 306, 307, 308, 309, 310, 311, 312, 313, 314, 315, 316, 317, 318, 319, 320, 321, 322, 323, 324, 325, 4] (RSp.of_fitW gsize.symm gbk gds gus ggd (by decide) ?_ ?_ ?_) (RSp.of_ok _ (region_tt37aX.congr L gc qc p z f v SS s2 X1 X2) ?_) gsz ?_ ?_ ?_
  · intro p hp
    have hp2 : p ∈ ([] : List (Nat × Nat)) := hp
    cases hp2
  · intro j hj hds
    simp only [List.mem_cons, List.not_mem_nil, or_false] at hj
    rcases hj with rfl | rfl | rfl | rfl
    all_goals rfl
  · intro i hi
    simp only [Bool.and_eq_false_iff, bne_eq_false_iff_eq] at hi
    rcases hi with (rfl | rfl) | rfl
    all_goals exact ⟨rfl, fun _ => rfl⟩
  · intro i s hds
    match i, hds with
    | 0, hds => cases hds
    | 1, hds => cases hds
    | 2, hds => cases hds
    | 3, hds => cases hds
    | 4, hds => cases hds
    | 5, hds => cases hds
    | 6, hds => cases hds
    | 7, hds => cases hds
    | 8, hds => cases hds
    | 9, hds => cases hds
    | 10, hds => cases hds
    | 11, hds => cases hds
    | 12, hds => cases hds
    | 13, hds => cases hds
    | 14, hds => cases hds
    | 15, hds => cases hds
    | 16, hds => cases hds
    | 17, hds => cases hds
    | 18, hds => cases hds
    | 19, hds => cases hds
    | 20, hds => cases hds
    | 21, hds => cases hds
    | 22, hds => cases hds
    | 23, hds => cases hds
    | 24, hds => cases hds
    | 25, hds => cases hds
    | 26, hds => cases hds
    | 27, hds => cases hds
    | 28, hds => cases hds
    | 29, hds => cases hds
    | 30, hds => cases hds
    | 31, hds => cases hds
    | _ + 32, hds => cases hds
  · intro q hq
    simp only [List.mem_cons, List.not_mem_nil, or_false] at hq
    rcases hq with rfl | rfl | rfl | rfl | rfl | rfl
    · exact ⟨o7, by simp⟩
    · exact ⟨o14, by simp⟩
    · exact ⟨o23, by simp⟩
    · exact ⟨o24, by simp⟩
    · exact ⟨o18, by simp⟩
    · exact ⟨o15, by simp⟩
  · intro i o ho hw
    have hi : i < 32 := by rw [← gsize]; exact (Array.getElem?_eq_some_iff.1 ho).1
    match i, hi with
    | 0, _ =>
      obtain ⟨ty, pos, aft, e, hdp⟩ := iop0
      rw [e] at ho
      obtain rfl := Option.some.inj ho
      intro a' hds W K hB lq ld hmem hK
      have e7 : a'.eval (.tmp 7) = .slice (some ⟨gc, 0, none⟩) L qc := by rw [eval_tmp]; exact lq (7, .slice (some ⟨gc, 0, none⟩) L qc) (by simp)
      have t7 := (eval_tmp a' 7).symm.trans e7
      have HK := Lib.hid (show K (a'.put (some 295) (.slice (some ⟨gc, 0, none⟩) L qc)) W from hK W (Below.refl _ _) trivial)
      clear hK ld lq hmem
      unfold Oper.wp
      simp only [execOp, e7]
      exact HK.out
    | 1, _ =>
      obtain ⟨ty, pos, aft, e, hdp⟩ := iop1
      rw [e] at ho
      obtain rfl := Option.some.inj ho
      intro a' hds W K hB lq ld hmem hK
      have e14 : a'.eval (.tmp 14) = .int .i64 (p : Int) := by rw [eval_tmp]; exact lq (14, .int .i64 (p : Int)) (by simp)
      have t14 := (eval_tmp a' 14).symm.trans e14
      have HK := Lib.hid (show K (a'.put (some 296) (.int .i64 (p : Int))) W from hK W (Below.refl _ _) trivial)
      clear hK ld lq hmem
      unfold Oper.wp
      simp only [execOp, e14]
      exact HK.out
    | 2, _ =>
      obtain ⟨ty, pos, aft, e, hdp⟩ := iop2
      rw [e] at ho
      obtain rfl := Option.some.inj ho
      intro a' hds W K hB lq ld hmem hK
      have e295 : a'.eval (.tmp 295) = .slice (some ⟨gc, 0, none⟩) L qc := by rw [eval_tmp]; exact ld 0 295 (List.all_eq_true.1 hdp 0 (by decide)) rfl
      have t295 := (eval_tmp a' 295).symm.trans e295
      have e296 : a'.eval (.tmp 296) = .int .i64 (p : Int) := by rw [eval_tmp]; exact ld 1 296 (List.all_eq_true.1 hdp 1 (by decide)) rfl
      have t296 := (eval_tmp a' 296).symm.trans e296
      have HK := Lib.hid (show K (a'.put (some 297) (.pointer (some ⟨gc, p, none⟩))) W from hK W (Below.refl _ _) trivial)
      clear hK ld lq hmem
      unfold Oper.wp
      simp only [execOp, e295, e296]
      go_simp
      exact HK.out
    | 3, _ =>
      obtain ⟨ty, pos, aft, e, hdp⟩ := iop3
      rw [e] at ho
      obtain rfl := Option.some.inj ho
      intro a' hds W K hB lq ld hmem hK
      have e297 : a'.eval (.tmp 297) = .pointer (some ⟨gc, p, none⟩) := by rw [eval_tmp]; exact ld 2 297 (List.all_eq_true.1 hdp 2 (by decide)) rfl
      have t297 := (eval_tmp a' 297).symm.trans e297
      have HK := Lib.hid (show K (a'.put (some 298) (.string s2)) W from hK W (Below.refl _ _) trivial)
      clear hK ld lq hmem
      have h0 := (hsc.below hB hgc) p (by omega)
      rw [Nat.zero_add, hs] at h0
      unfold Oper.wp
      simp only [execOp, e297]
      go_simp
      exact HK.out
    | 4, _ =>
      obtain ⟨ty, pos, aft, e, hdp⟩ := iop4
      rw [e] at ho
      obtain rfl := Option.some.inj ho
      intro a' hds W K hB lq ld hmem hK
      have e23 : a'.eval (.tmp 23) = .int .i64 (z : Int) := by rw [eval_tmp]; exact lq (23, .int .i64 (z : Int)) (by simp)
      have t23 := (eval_tmp a' 23).symm.trans e23
      have HK := Lib.hid (show K (a'.put (some 299) (.int .i64 (z : Int))) W from hK W (Below.refl _ _) trivial)
      clear hK ld lq hmem
      unfold Oper.wp
      simp only [execOp, e23]
      exact HK.out
    | 5, _ =>
      obtain ⟨ty, pos, aft, e, hdp⟩ := iop5
      rw [e] at ho
      obtain rfl := Option.some.inj ho
      intro a' hds W K hB lq ld hmem hK
      have e298 : a'.eval (.tmp 298) = .string s2 := by rw [eval_tmp]; exact ld 3 298 (List.all_eq_true.1 hdp 3 (by decide)) rfl
      have t298 := (eval_tmp a' 298).symm.trans e298
      have e299 : a'.eval (.tmp 299) = .int .i64 (z : Int) := by rw [eval_tmp]; exact ld 4 299 (List.all_eq_true.1 hdp 4 (by decide)) rfl
      have t299 := (eval_tmp a' 299).symm.trans e299
      have HK := Lib.hid (show K (a'.put (some 300) (.int .u8 X1)) W from hK W (Below.refl _ _) trivial)
      clear hK ld lq hmem
      have hi := hi1 W
      unfold Oper.wp
      simp only [execOp, e298, e299]
      go_simp
      exact HK.out
    | 6, _ =>
      obtain ⟨ty, pos, aft, e, hdp⟩ := iop6
      rw [e] at ho
      obtain rfl := Option.some.inj ho
      intro a' hds W K hB lq ld hmem hK
      have e7 : a'.eval (.tmp 7) = .slice (some ⟨gc, 0, none⟩) L qc := by rw [eval_tmp]; exact lq (7, .slice (some ⟨gc, 0, none⟩) L qc) (by simp)
      have t7 := (eval_tmp a' 7).symm.trans e7
      have HK := Lib.hid (show K (a'.put (some 301) (.slice (some ⟨gc, 0, none⟩) L qc)) W from hK W (Below.refl _ _) trivial)
      clear hK ld lq hmem
      unfold Oper.wp
      simp only [execOp, e7]
      exact HK.out
    | 7, _ =>
      obtain ⟨ty, pos, aft, e, hdp⟩ := iop7
      rw [e] at ho
      obtain rfl := Option.some.inj ho
      intro a' hds W K hB lq ld hmem hK
      have e14 : a'.eval (.tmp 14) = .int .i64 (p : Int) := by rw [eval_tmp]; exact lq (14, .int .i64 (p : Int)) (by simp)
      have t14 := (eval_tmp a' 14).symm.trans e14
      have HK := Lib.hid (show K (a'.put (some 302) (.int .i64 (p : Int))) W from hK W (Below.refl _ _) trivial)
      clear hK ld lq hmem
      unfold Oper.wp
      simp only [execOp, e14]
      exact HK.out
    | 8, _ =>
      obtain ⟨ty, pos, aft, e, hdp⟩ := iop8
      rw [e] at ho
      obtain rfl := Option.some.inj ho
      intro a' hds W K hB lq ld hmem hK
      have e301 : a'.eval (.tmp 301) = .slice (some ⟨gc, 0, none⟩) L qc := by rw [eval_tmp]; exact ld 6 301 (List.all_eq_true.1 hdp 6 (by decide)) rfl
      have t301 := (eval_tmp a' 301).symm.trans e301
      have e302 : a'.eval (.tmp 302) = .int .i64 (p : Int) := by rw [eval_tmp]; exact ld 7 302 (List.all_eq_true.1 hdp 7 (by decide)) rfl
      have t302 := (eval_tmp a' 302).symm.trans e302
      have HK := Lib.hid (show K (a'.put (some 303) (.pointer (some ⟨gc, p, none⟩))) W from hK W (Below.refl _ _) trivial)
      clear hK ld lq hmem
      unfold Oper.wp
      simp only [execOp, e301, e302]
      go_simp
      exact HK.out
    | 9, _ =>
      obtain ⟨ty, pos, aft, e, hdp⟩ := iop9
      rw [e] at ho
      obtain rfl := Option.some.inj ho
      intro a' hds W K hB lq ld hmem hK
      have e303 : a'.eval (.tmp 303) = .pointer (some ⟨gc, p, none⟩) := by rw [eval_tmp]; exact ld 8 303 (List.all_eq_true.1 hdp 8 (by decide)) rfl
      have t303 := (eval_tmp a' 303).symm.trans e303
      have HK := Lib.hid (show K (a'.put (some 304) (.string s2)) W from hK W (Below.refl _ _) trivial)
      clear hK ld lq hmem
      have h0 := (hsc.below hB hgc) p (by omega)
      rw [Nat.zero_add, hs] at h0
      unfold Oper.wp
      simp only [execOp, e303]
      go_simp
      exact HK.out
    | 10, _ =>
      obtain ⟨ty, pos, aft, e, hdp⟩ := iop10
      rw [e] at ho
      obtain rfl := Option.some.inj ho
      intro a' hds W K hB lq ld hmem hK
      have e24 : a'.eval (.tmp 24) = .int .i64 (f : Int) := by rw [eval_tmp]; exact lq (24, .int .i64 (f : Int)) (by simp)
      have t24 := (eval_tmp a' 24).symm.trans e24
      have HK := Lib.hid (show K (a'.put (some 305) (.int .i64 (f : Int))) W from hK W (Below.refl _ _) trivial)
      clear hK ld lq hmem
      unfold Oper.wp
      simp only [execOp, e24]
      exact HK.out
    | 11, _ =>
      obtain ⟨ty, pos, aft, e, hdp⟩ := iop11
      rw [e] at ho
      obtain rfl := Option.some.inj ho
      intro a' hds W K hB lq ld hmem hK
      have e304 : a'.eval (.tmp 304) = .string s2 := by rw [eval_tmp]; exact ld 9 304 (List.all_eq_true.1 hdp 9 (by decide)) rfl
      have t304 := (eval_tmp a' 304).symm.trans e304
      have e305 : a'.eval (.tmp 305) = .int .i64 (f : Int) := by rw [eval_tmp]; exact ld 10 305 (List.all_eq_true.1 hdp 10 (by decide)) rfl
      have t305 := (eval_tmp a' 305).symm.trans e305
      have HK := Lib.hid (show K (a'.put (some 306) (.int .u8 X2)) W from hK W (Below.refl _ _) trivial)
      clear hK ld lq hmem
      have hi := hi2 W
      unfold Oper.wp
      simp only [execOp, e304, e305]
      go_simp
      exact HK.out
    | 12, _ =>
      obtain ⟨ty, pos, aft, e, hdp⟩ := iop12
      rw [e] at ho
      obtain rfl := Option.some.inj ho
      intro a' hds W K hB lq ld hmem hK
      have e300 : a'.eval (.tmp 300) = .int .u8 X1 := by rw [eval_tmp]; exact ld 5 300 (List.all_eq_true.1 hdp 5 (by decide)) rfl
      have t300 := (eval_tmp a' 300).symm.trans e300
      have e306 : a'.eval (.tmp 306) = .int .u8 X2 := by rw [eval_tmp]; exact ld 11 306 (List.all_eq_true.1 hdp 11 (by decide)) rfl
      have t306 := (eval_tmp a' 306).symm.trans e306
      have HK := Lib.hid (show K (a'.put (some 307) (.bool true)) W from hK W (Below.refl _ _) trivial)
      clear hK ld lq hmem
      unfold Oper.wp
      simp only [execOp, e300, e306]
      go_simp
      exact HK.out
    | 13, _ =>
      obtain ⟨ty, pos, aft, e, hdp⟩ := iop13
      rw [e] at ho
      obtain rfl := Option.some.inj ho
      intro a' hds W K hB lq ld hmem hK
      have e307 : a'.eval (.tmp 307) = .bool true := by rw [eval_tmp]; exact ld 12 307 (List.all_eq_true.1 hdp 12 (by decide)) rfl
      have t307 := (eval_tmp a' 307).symm.trans e307
      have HK := Lib.hid (show K (a'.put (some 308) (.bool true)) W from hK W (Below.refl _ _) trivial)
      clear hK ld lq hmem
      unfold Oper.wp
      simp only [execOp, e307]
      exact HK.out
    | 14, _ =>
      obtain ⟨ty, pos, aft, e, hdp⟩ := iop14
      rw [e] at ho
      obtain rfl := Option.some.inj ho
      intro a' hds W K hB lq ld hmem hK
      have e24 : a'.eval (.tmp 24) = .int .i64 (f : Int) := by rw [eval_tmp]; exact lq (24, .int .i64 (f : Int)) (by simp)
      have t24 := (eval_tmp a' 24).symm.trans e24
      have HK := Lib.hid (show K (a'.put (some 309) (.int .i64 (f : Int))) W from hK W (Below.refl _ _) trivial)
      clear hK ld lq hmem
      unfold Oper.wp
      simp only [execOp, e24]
      exact HK.out
    | 15, _ =>
      obtain ⟨ty, pos, aft, e, hdp⟩ := iop15
      rw [e] at ho
      obtain rfl := Option.some.inj ho
      intro a' hds W K hB lq ld hmem hK
      have e18 : a'.eval (.tmp 18) = .int .i64 (f : Int) := by rw [eval_tmp]; exact lq (18, .int .i64 (f : Int)) (by simp)
      have t18 := (eval_tmp a' 18).symm.trans e18
      have HK := Lib.hid (show K (a'.put (some 310) (.int .i64 (f : Int))) W from hK W (Below.refl _ _) trivial)
      clear hK ld lq hmem
      unfold Oper.wp
      simp only [execOp, e18]
      exact HK.out
    | 16, _ =>
      obtain ⟨ty, pos, aft, e, hdp⟩ := iop16
      rw [e] at ho
      obtain rfl := Option.some.inj ho
      intro a' hds W K hB lq ld hmem hK
      have e309 : a'.eval (.tmp 309) = .int .i64 (f : Int) := by rw [eval_tmp]; exact ld 14 309 (List.all_eq_true.1 hdp 14 (by decide)) rfl
      have t309 := (eval_tmp a' 309).symm.trans e309
      have e310 : a'.eval (.tmp 310) = .int .i64 (f : Int) := by rw [eval_tmp]; exact ld 15 310 (List.all_eq_true.1 hdp 15 (by decide)) rfl
      have t310 := (eval_tmp a' 310).symm.trans e310
      have HK := Lib.hid (show K (a'.put (some 311) (.bool true)) W from hK W (Below.refl _ _) trivial)
      clear hK ld lq hmem
      unfold Oper.wp
      simp only [execOp, e309, e310]
      go_simp
      exact HK.out
    | 17, _ =>
      obtain ⟨ty, pos, aft, e, hdp⟩ := iop17
      rw [e] at ho
      obtain rfl := Option.some.inj ho
      intro a' hds W K hB lq ld hmem hK
      have e308 : a'.eval (.tmp 308) = .bool true := by rw [eval_tmp]; exact ld 13 308 (List.all_eq_true.1 hdp 13 (by decide)) rfl
      have t308 := (eval_tmp a' 308).symm.trans e308
      have e311 : a'.eval (.tmp 311) = .bool true := by rw [eval_tmp]; exact ld 16 311 (List.all_eq_true.1 hdp 16 (by decide)) rfl
      have t311 := (eval_tmp a' 311).symm.trans e311
      have HK := Lib.hid (show K (a'.put (some 312) (.bool true)) W from hK W (Below.refl _ _) trivial)
      clear hK ld lq hmem
      unfold Oper.wp
      simp only [execOp, e308, e311]
      go_simp
      exact HK.out
    | 18, _ =>
      obtain ⟨ty, pos, aft, e, hdp⟩ := iop18
      rw [e] at ho
      obtain rfl := Option.some.inj ho
      intro a' hds W K hB lq ld hmem hK
      have e312 : a'.eval (.tmp 312) = .bool true := by rw [eval_tmp]; exact ld 17 312 (List.all_eq_true.1 hdp 17 (by decide)) rfl
      have t312 := (eval_tmp a' 312).symm.trans e312
      have HK := Lib.hid (show K (a'.put (some 313) (.bool true)) W from hK W (Below.refl _ _) trivial)
      clear hK ld lq hmem
      unfold Oper.wp
      simp only [execOp, e312]
      exact HK.out
    | 19, _ =>
      obtain ⟨ty, pos, aft, e, hdp⟩ := iop19
      rw [e] at ho
      obtain rfl := Option.some.inj ho
      intro a' hds W K hB lq ld hmem hK
      have e15 : a'.eval (.tmp 15) = .int .i64 (v : Int) := by rw [eval_tmp]; exact lq (15, .int .i64 (v : Int)) (by simp)
      have t15 := (eval_tmp a' 15).symm.trans e15
      have HK := Lib.hid (show K (a'.put (some 314) (.int .i64 (v : Int))) W from hK W (Below.refl _ _) trivial)
      clear hK ld lq hmem
      unfold Oper.wp
      simp only [execOp, e15]
      exact HK.out
    | 20, _ =>
      obtain ⟨ty, pos, aft, e, hdp⟩ := iop20
      rw [e] at ho
      obtain rfl := Option.some.inj ho
      intro a' hds W K hB lq ld hmem hK
      have e18 : a'.eval (.tmp 18) = .int .i64 (f : Int) := by rw [eval_tmp]; exact lq (18, .int .i64 (f : Int)) (by simp)
      have t18 := (eval_tmp a' 18).symm.trans e18
      have HK := Lib.hid (show K (a'.put (some 315) (.int .i64 (f : Int))) W from hK W (Below.refl _ _) trivial)
      clear hK ld lq hmem
      unfold Oper.wp
      simp only [execOp, e18]
      exact HK.out
    | 21, _ =>
      obtain ⟨ty, pos, aft, e, hdp⟩ := iop21
      rw [e] at ho
      obtain rfl := Option.some.inj ho
      intro a' hds W K hB lq ld hmem hK
      have e314 : a'.eval (.tmp 314) = .int .i64 (v : Int) := by rw [eval_tmp]; exact ld 19 314 (List.all_eq_true.1 hdp 19 (by decide)) rfl
      have t314 := (eval_tmp a' 314).symm.trans e314
      have e315 : a'.eval (.tmp 315) = .int .i64 (f : Int) := by rw [eval_tmp]; exact ld 20 315 (List.all_eq_true.1 hdp 20 (by decide)) rfl
      have t315 := (eval_tmp a' 315).symm.trans e315
      have HK := Lib.hid (show K (a'.put (some 316) (.bool true)) W from hK W (Below.refl _ _) trivial)
      clear hK ld lq hmem
      unfold Oper.wp
      simp only [execOp, e314, e315]
      go_simp
      exact HK.out
    | 22, _ =>
      obtain ⟨ty, pos, aft, e, hdp⟩ := iop22
      rw [e] at ho
      obtain rfl := Option.some.inj ho
      intro a' hds W K hB lq ld hmem hK
      have e316 : a'.eval (.tmp 316) = .bool true := by rw [eval_tmp]; exact ld 21 316 (List.all_eq_true.1 hdp 21 (by decide)) rfl
      have t316 := (eval_tmp a' 316).symm.trans e316
      have HK := Lib.hid (show K (a'.put (some 317) (.bool true)) W from hK W (Below.refl _ _) trivial)
      clear hK ld lq hmem
      unfold Oper.wp
      simp only [execOp, e316]
      exact HK.out
    | 23, _ => exact absurd (show (fun i => i != 23 && i != 24 && i != 25) 23 = true from hw) (by decide)
    | 24, _ => exact absurd (show (fun i => i != 23 && i != 24 && i != 25) 24 = true from hw) (by decide)
    | 25, _ => exact absurd (show (fun i => i != 23 && i != 24 && i != 25) 25 = true from hw) (by decide)
    | 26, _ =>
      obtain ⟨ty, pos, aft, e, hdp⟩ := iop26
      rw [e] at ho
      obtain rfl := Option.some.inj ho
      intro a' hds W K hB lq ld hmem hK
      have e317 : a'.eval (.tmp 317) = .bool true := by rw [eval_tmp]; exact ld 22 317 (List.all_eq_true.1 hdp 22 (by decide)) rfl
      have t317 := (eval_tmp a' 317).symm.trans e317
      have e320 : a'.eval (.tmp 320) = undef := by rw [eval_tmp]; exact ld 25 320 (List.all_eq_true.1 hdp 25 (by decide)) rfl
      have t320 := (eval_tmp a' 320).symm.trans e320
      have HK := Lib.hid (show K (a'.put (some 321) (.bool true)) W from hK W (Below.refl _ _) trivial)
      clear hK ld lq hmem
      unfold Oper.wp
      simp only [execOp, e317, e320]
      go_simp
      exact HK.out
    | 27, _ =>
      obtain ⟨ty, pos, aft, e, hdp⟩ := iop27
      rw [e] at ho
      obtain rfl := Option.some.inj ho
      intro a' hds W K hB lq ld hmem hK
      have e313 : a'.eval (.tmp 313) = .bool true := by rw [eval_tmp]; exact ld 18 313 (List.all_eq_true.1 hdp 18 (by decide)) rfl
      have t313 := (eval_tmp a' 313).symm.trans e313
      have e321 : a'.eval (.tmp 321) = .bool true := by rw [eval_tmp]; exact ld 26 321 (List.all_eq_true.1 hdp 26 (by decide)) rfl
      have t321 := (eval_tmp a' 321).symm.trans e321
      have HK := Lib.hid (show K (a'.put (some 322) (.bool true)) W from hK W (Below.refl _ _) trivial)
      clear hK ld lq hmem
      unfold Oper.wp
      simp only [execOp, e313, e321]
      go_simp
      exact HK.out
    | 28, _ =>
      obtain ⟨ty, pos, aft, e, hdp⟩ := iop28
      rw [e] at ho
      obtain rfl := Option.some.inj ho
      intro a' hds W K hB lq ld hmem hK
      have e322 : a'.eval (.tmp 322) = .bool true := by rw [eval_tmp]; exact ld 27 322 (List.all_eq_true.1 hdp 27 (by decide)) rfl
      have t322 := (eval_tmp a' 322).symm.trans e322
      have HK := Lib.hid (show K (a'.put (some 323) (.bool true)) W from hK W (Below.refl _ _) trivial)
      clear hK ld lq hmem
      unfold Oper.wp
      simp only [execOp, e322]
      exact HK.out
    | 29, _ =>
      obtain ⟨ty, pos, aft, e, hdp⟩ := iop29
      rw [e] at ho
      obtain rfl := Option.some.inj ho
      intro a' hds W K hB lq ld hmem hK
      have HK := Lib.hid (show ∀ W', Below W.heap.size W W' → K (a'.put (some 324) (.bool true)) W' from fun W' h => hK W' h trivial)
      clear hK ld lq hmem
      refine step_call (vals := #[]) (by exact ⟨_, _, Try.func23, by kernel_rfl, rfl⟩) (by simp only [List.map_toArray, List.map_cons, List.map_nil]) (tieKnown W) ?_
      rintro e w' ⟨rfl, hb'⟩
      exact ⟨_, rfl, HK.out _ hb'⟩
    | 30, _ =>
      obtain ⟨ty, pos, aft, e, hdp⟩ := iop30
      rw [e] at ho
      obtain rfl := Option.some.inj ho
      intro a' hds W K hB lq ld hmem hK
      have e323 : a'.eval (.tmp 323) = .bool true := by rw [eval_tmp]; exact ld 28 323 (List.all_eq_true.1 hdp 28 (by decide)) rfl
      have t323 := (eval_tmp a' 323).symm.trans e323
      have e324 : a'.eval (.tmp 324) = .bool true := by rw [eval_tmp]; exact ld 29 324 (List.all_eq_true.1 hdp 29 (by decide)) rfl
      have t324 := (eval_tmp a' 324).symm.trans e324
      have HK := Lib.hid (show K (a'.put (some 325) (.bool true)) W from hK W (Below.refl _ _) trivial)
      clear hK ld lq hmem
      unfold Oper.wp
      simp only [execOp, e323, e324]
      go_simp
      exact HK.out
    | 31, _ =>
      obtain ⟨ty, pos, aft, e, hdp⟩ := iop31
      rw [e] at ho
      obtain rfl := Option.some.inj ho
      intro a' hds W K hB lq ld hmem hK
      have e325 : a'.eval (.tmp 325) = .bool true := by rw [eval_tmp]; exact ld 30 325 (List.all_eq_true.1 hdp 30 (by decide)) rfl
      have t325 := (eval_tmp a' 325).symm.trans e325
      have HK := Lib.hid (show K (a'.put (some 4) (.bool true)) W from hK W (Below.refl _ _) trivial)
      clear hK ld lq hmem
      unfold Oper.wp
      simp only [execOp, e325]
      exact HK.out
    | i + 32, h => omega
  · intro hds v W hO
    have hfin := gend (v 295) (v 296) (v 297) (v 298) (v 299) (v 300) (v 301) (v 302) (v 303) (v 304) (v 305) (v 306) (v 307) (v 308) (v 309) (v 310) (v 311) (v 312) (v 313) (v 314) (v 315) (v 316) (v 317) (v 318) (v 319) (v 320) (v 321) (v 322) (v 323) (v 324) (v 325) W hO.b
    rw [← laid_putL _ a v ?_] at hfin
    · exact hfin
    · intro p hp
      simp only [List.mem_cons, List.not_mem_nil, or_false] at hp
      rcases hp with rfl | rfl | rfl | rfl | rfl | rfl | rfl | rfl | rfl | rfl | rfl | rfl | rfl | rfl | rfl | rfl | rfl | rfl | rfl | rfl | rfl | rfl | rfl | rfl | rfl | rfl | rfl | rfl | rfl | rfl | rfl | rfl
      · rfl
      · rfl
      · rfl
      · rfl
      · rfl
      · rfl
      · rfl
      · rfl
      · rfl
      · rfl
      · rfl
      · rfl
      · rfl
      · rfl
      · rfl
      · rfl
      · rfl
      · rfl
      · rfl
      · rfl
      · rfl
      · rfl
      · rfl
      · rfl
      · rfl
      · rfl
      · rfl
      · rfl
      · rfl
      · rfl
      · rfl
      · exact hO.x 31 (show 31 < 32 by decide) 4 rfl
def region_tt37bU : List (List Nat) := [[], [], [], [], [], [], [], [], [], [], [], [], [], [], [], [], [], [], [], [], [], [], [], [], [], [], [], [], [], [], [], []]
def region_tt37bX (L gc qc p z f v : Nat) (SS : List ByteArray) (s2 : ByteArray) (X1 X2 : Int) : Nat → (Nat → Hd) → Value
  | 0, _ => .slice (some ⟨gc, 0, none⟩) L qc
  | 1, _ => .int .i64 (p : Int)
  | 2, _ => .pointer (some ⟨gc, p, none⟩)
  | 3, _ => .string s2
  | 4, _ => .int .i64 (z : Int)
  | 5, _ => .int .u8 X1
  | 6, _ => .slice (some ⟨gc, 0, none⟩) L qc
  | 7, _ => .int .i64 (p : Int)
  | 8, _ => .pointer (some ⟨gc, p, none⟩)
  | 9, _ => .string s2
  | 10, _ => .int .i64 (f : Int)
  | 11, _ => .int .u8 X2
  | 12, _ => .bool true
  | 13, _ => .bool true
  | 14, _ => .int .i64 (f : Int)
  | 15, _ => .int .i64 (f : Int)
  | 16, _ => .bool true
  | 17, _ => .bool true
  | 18, _ => .bool true
  | 19, _ => .int .i64 (v : Int)
  | 20, _ => .int .i64 (f : Int)
  | 21, _ => .bool false
  | 22, _ => .bool false
  | 23, _ => .int .i64 (z : Int)
  | 24, _ => .int .i64 (v : Int)
  | 25, _ => .bool true
  | 26, _ => .bool true
  | 27, _ => .bool true
  | 28, _ => .bool true
  | 29, _ => .bool true
  | 30, _ => .bool true
  | 31, _ => .bool true
  | _ + 32, _ => undef
theorem region_tt37bX.congr (L gc qc p z f v : Nat) (SS : List ByteArray) (s2 : ByteArray) (X1 X2 : Int) : ∀ i hds hds', (∀ r ∈ uOf region_tt37bU i, hds r = hds' r) → region_tt37bX L gc qc p z f v SS s2 X1 X2 i hds = region_tt37bX L gc qc p z f v SS s2 X1 X2 i hds'
  | 0, _, _, _ => rfl
  | 1, _, _, _ => rfl
  | 2, _, _, _ => rfl
  | 3, _, _, _ => rfl
  | 4, _, _, _ => rfl
  | 5, _, _, _ => rfl
  | 6, _, _, _ => rfl
  | 7, _, _, _ => rfl
  | 8, _, _, _ => rfl
  | 9, _, _, _ => rfl
  | 10, _, _, _ => rfl
  | 11, _, _, _ => rfl
  | 12, _, _, _ => rfl
  | 13, _, _, _ => rfl
  | 14, _, _, _ => rfl
  | 15, _, _, _ => rfl
  | 16, _, _, _ => rfl
  | 17, _, _, _ => rfl
  | 18, _, _, _ => rfl
  | 19, _, _, _ => rfl
  | 20, _, _, _ => rfl
  | 21, _, _, _ => rfl
  | 22, _, _, _ => rfl
  | 23, _, _, _ => rfl
  | 24, _, _, _ => rfl
  | 25, _, _, _ => rfl
  | 26, _, _, _ => rfl
  | 27, _, _, _ => rfl
  | 28, _, _, _ => rfl
  | 29, _, _, _ => rfl
  | 30, _, _, _ => rfl
  | 31, _, _, _ => rfl
  | _ + 32, _, _, _ => rfl
def region_tt37bM (L gc qc p z f v : Nat) (SS : List ByteArray) (s2 : ByteArray) (X1 X2 : Int) : Nat → Mem
  | _ => memNone
def region_tt37bS (L gc qc p z f v : Nat) (SS : List ByteArray) (s2 : ByteArray) (X1 X2 : Int) : Nat → Option Sto
  | _ => none
set_option maxRecDepth 8000 in
set_option maxHeartbeats 2000000 in
theorem region_tt37b {id : Nat} {ops : Array Oper} {Q : Exit → Act → World → Prop} {a : Act} {w : World} (L gc qc p z f v : Nat) (SS : List ByteArray) (s2 : ByteArray) (X1 X2 : Int) (hSl : SS.length = L) (hpL : p < L) (hsc : StrsAt w gc 0 SS) (hgc : gc < w.heap.size) (hs : nthB SS p = s2) (hi1 : ∀ W, (Instr.index 9 (.string s2) (.int .i64 (z : Int))).run Try.prog W = .ok (.int .u8 X1) W) (hi2 : ∀ W, (Instr.index 9 (.string s2) (.int .i64 (f : Int))).run Try.prog W = .ok (.int .u8 X2) W) (hX : (X1 != X2) = true) (hvf : ((v : Int) == (f : Int)) = false) (hzv : ((z : Int) == (v : Int)) = true) 
    (gsize : ops.size = 32)
    (gops : IsOp ops 0 (some 295) (.move (.tmp 7)) none [] ∧ IsOp ops 1 (some 296) (.move (.tmp 14)) none [] ∧ IsOp ops 2 (some 297) (.indexAddr 49 (.tmp 295) (.tmp 296)) none [0, 1] ∧ IsOp ops 3 (some 298) (.load 9 (.tmp 297)) none [2] ∧ IsOp ops 4 (some 299) (.move (.tmp 23)) none [] ∧ IsOp ops 5 (some 300) (.index 9 (.tmp 298) (.tmp 299)) none [3, 4] ∧ IsOp ops 6 (some 301) (.move (.tmp 7)) none [] ∧ IsOp ops 7 (some 302) (.move (.tmp 14)) none [] ∧ IsOp ops 8 (some 303) (.indexAddr 49 (.tmp 301) (.tmp 302)) none [6, 7] ∧ IsOp ops 9 (some 304) (.load 9 (.tmp 303)) none [8] ∧ IsOp ops 10 (some 305) (.move (.tmp 24)) none [] ∧ IsOp ops 11 (some 306) (.index 9 (.tmp 304) (.tmp 305)) none [9, 10] ∧ IsOp ops 12 (some 307) (.binOp .neq 5 (.tmp 300) (.tmp 306) 5) none [5, 11] ∧ IsOp ops 13 (some 308) (.move (.tmp 307)) none [12] ∧ IsOp ops 14 (some 309) (.move (.tmp 24)) (some (13, true)) [13] ∧ IsOp ops 15 (some 310) (.move (.tmp 18)) (some (13, true)) [13] ∧ IsOp ops 16 (some 311) (.binOp .eql 3 (.tmp 309) (.tmp 310) 3) (some (13, true)) [13, 14, 15] ∧ IsOp ops 17 (some 312) (.pick (.tmp 308) (.tmp 311) (.const (.bool false))) none [13, 16] ∧ IsOp ops 18 (some 313) (.move (.tmp 312)) none [17] ∧ IsOp ops 19 (some 314) (.move (.tmp 15)) (some (18, true)) [18] ∧ IsOp ops 20 (some 315) (.move (.tmp 18)) (some (18, true)) [18] ∧ IsOp ops 21 (some 316) (.binOp .eql 3 (.tmp 314) (.tmp 315) 3) (some (18, true)) [18, 19, 20] ∧ IsOp ops 22 (some 317) (.move (.tmp 316)) (some (18, true)) [18, 21] ∧ IsOp ops 23 (some 318) (.move (.tmp 23)) (some (22, false)) [22] ∧ IsOp ops 24 (some 319) (.move (.tmp 15)) (some (22, false)) [22] ∧ IsOp ops 25 (some 320) (.binOp .eql 3 (.tmp 318) (.tmp 319) 3) (some (22, false)) [22, 23, 24] ∧ IsOp ops 26 (some 321) (.pick (.tmp 317) (.const (.bool true)) (.tmp 320)) (some (18, true)) [18, 22, 25] ∧ IsOp ops 27 (some 322) (.pick (.tmp 313) (.tmp 321) (.const (.bool false))) none [18, 26] ∧ IsOp ops 28 (some 323) (.move (.tmp 322)) none [27] ∧ IsOp ops 29 (some 324) (.call { callee := .value (.func 23), args := #[], argTypes := #[] }) (some (28, true)) [28] ∧ IsOp ops 30 (some 325) (.pick (.tmp 323) (.tmp 324) (.const (.bool false))) none [28, 29] ∧ IsOp ops 31 (some 4) (.assign (.tmp 325)) none [30])
    (gbk : backB ops = true) (gds : dstsB ops (dOf [some 295, some 296, some 297, some 298, some 299, some 300, some 301, some 302, some 303, some 304, some 305, some 306, some 307, some 308, some 309, some 310, some 311, some 312, some 313, some 314, some 315, some 316, some 317, some 318, some 319, some 320, some 321, some 322, some 323, some 324, some 325, some 4]) = true) (gus : useB ops (uOf region_tt37bU) (kOf [0, 0, 0, 0, 0, 0, 0, 0, 0, 0, 0, 0, 0, 0, 0, 0, 0, 0, 0, 0, 0, 0, 0, 0, 0, 0, 0, 0, 0, 0, 0, 0]) = true) (ggd : guardC ops (dOf [some 295, some 296, some 297, some 298, some 299, some 300, some 301, some 302, some 303, some 304, some 305, some 306, some 307, some 308, some 309, some 310, some 311, some 312, some 313, some 314, some 315, some 316, some 317, some 318, some 319, some 320, some 321, some 322, some 323, some 324, some 325, some 4]) [(13, true), (18, true), (22, false), (28, true)] = true) (gsz : ∀ e ∈ [295, 296, 297, 298, 299, 300, 301, 302, 303, 304, 305, 306, 307, 308, 309, 310, 311, 312, 313, 314, 315, 316, 317, 318, 319, 320, 321, 322, 323, 324, 325, 4], e < a.tmps.size)
    (gout : a.eval (.tmp 7) = .slice (some ⟨gc, 0, none⟩) L qc ∧ a.eval (.tmp 14) = .int .i64 (p : Int) ∧ a.eval (.tmp 23) = .int .i64 (z : Int) ∧ a.eval (.tmp 24) = .int .i64 (f : Int) ∧ a.eval (.tmp 18) = .int .i64 (f : Int) ∧ a.eval (.tmp 15) = .int .i64 (v : Int))
    (gend : ∀ (u295 u296 u297 u298 u299 u300 u301 u302 u303 u304 u305 u306 u307 u308 u309 u310 u311 u312 u313 u314 u315 u316 u317 u318 u319 u320 u321 u322 u323 u324 u325 : Value) (W : World), Below w.heap.size w W → Q .normal (putL a [(295, u295), (296, u296), (297, u297), (298, u298), (299, u299), (300, u300), (301, u301), (302, u302), (303, u303), (304, u304), (305, u305), (306, u306), (307, u307), (308, u308), (309, u309), (310, u310), (311, u311), (312, u312), (313, u313), (314, u314), (315, u315), (316, u316), (317, u317), (318, u318), (319, u319), (320, u320), (321, u321), (322, u322), (323, u323), (324, u324), (325, u325), (4, .bool true)]) W) :
    (Code.region id ops true).wp Try.prog Q a w := by
  obtain ⟨iop0, iop1, iop2, iop3, iop4, iop5, iop6, iop7, iop8, iop9, iop10, iop11, iop12, iop13, iop14, iop15, iop16, iop17, iop18, iop19, iop20, iop21, iop22, iop23, iop24, iop25, iop26, iop27, iop28, iop29, iop30, iop31⟩ := gops
  obtain ⟨o7, o14, o23, o24, o18, o15⟩ := gout
  refine region_all (RSp.of 32 [some 295, some 296, some 297, some 298, some 299, some 300, some 301, some 302, some 303, some 304, some 305, some 306, some 307, some 308, some 309, some 310, some 311, some 312, some 313, some 314, some 315, some 316, some 317, some 318, some 319, some 320, some 321, some 322, some 323, some 324, some 325, some 4] (fun _ => true) (region_tt37bX L gc qc p z f v SS s2 X1 X2) region_tt37bU [0, 0, 0, 0, 0, 0, 0, 0, 0, 0, 0, 0, 0, 0, 0, 0, 0, 0, 0, 0, 0, 0, 0, 0, 0, 0, 0, 0, 0, 0, 0, 0] (region_tt37bM L gc qc p z f v SS s2 X1 X2) (region_tt37bS L gc qc p z f v SS s2 X1 X2)) [(7, .slice (some ⟨gc, 0, none⟩) L qc), (14, .int .i64 (p : Int)), (23, .int .i64 (z : Int)), (24, .int .i64 (f : Int)), (18, .int .i64 (f : Int)), (15, .int .i64 (v : Int))] [295, 296, 297, 298, 299, 300, 301, 302, 303, 304, 305, 306, 307, 308, 309, 310, 311, 312, 313, 314, 315, 316, 317, 318, 319, 320, 321, 322, 323, 324, 325, 4] (RSp.of_fitC gsize.symm gbk gds gus ggd (by decide) ?_ ?_) (RSp.of_ok _ (region_tt37bX.congr L gc qc p z f v SS s2 X1 X2) ?_) gsz ?_ ?_ ?_
  · intro p hp
    have hp2 : p ∈ ([] : List (Nat × Nat)) := hp
    cases hp2
  · intro j hj hds
    simp only [List.mem_cons, List.not_mem_nil, or_false] at hj
    rcases hj with rfl | rfl | rfl | rfl
    all_goals rfl
  · intro i s hds
    match i, hds with
    | 0, hds => cases hds
    | 1, hds => cases hds
    | 2, hds => cases hds
    | 3, hds => cases hds
    | 4, hds => cases hds
    | 5, hds => cases hds
    | 6, hds => cases hds
    | 7, hds => cases hds
    | 8, hds => cases hds
    | 9, hds => cases hds
    | 10, hds => cases hds
    | 11, hds => cases hds
    | 12, hds => cases hds
    | 13, hds => cases hds
    | 14, hds => cases hds
    | 15, hds => cases hds
    | 16, hds => cases hds
    | 17, hds => cases hds
    | 18, hds => cases hds
    | 19, hds => cases hds
    | 20, hds => cases hds
    | 21, hds => cases hds
    | 22, hds => cases hds
    | 23, hds => cases hds
    | 24, hds => cases hds
    | 25, hds => cases hds
    | 26, hds => cases hds
    | 27, hds => cases hds
    | 28, hds => cases hds
    | 29, hds => cases hds
    | 30, hds => cases hds
    | 31, hds => cases hds
    | _ + 32, hds => cases hds
  · intro q hq
    simp only [List.mem_cons, List.not_mem_nil, or_false] at hq
    rcases hq with rfl | rfl | rfl | rfl | rfl | rfl
    · exact ⟨o7, by simp⟩
    · exact ⟨o14, by simp⟩
    · exact ⟨o23, by simp⟩
    · exact ⟨o24, by simp⟩
    · exact ⟨o18, by simp⟩
    · exact ⟨o15, by simp⟩
  · intro i o ho hw
    have hi : i < 32 := by rw [← gsize]; exact (Array.getElem?_eq_some_iff.1 ho).1
    match i, hi with
    | 0, _ =>
      obtain ⟨ty, pos, aft, e, hdp⟩ := iop0
      rw [e] at ho
      obtain rfl := Option.some.inj ho
      intro a' hds W K hB lq ld hmem hK
      have e7 : a'.eval (.tmp 7) = .slice (some ⟨gc, 0, none⟩) L qc := by rw [eval_tmp]; exact lq (7, .slice (some ⟨gc, 0, none⟩) L qc) (by simp)
      have t7 := (eval_tmp a' 7).symm.trans e7
      have HK := Lib.hid (show K (a'.put (some 295) (.slice (some ⟨gc, 0, none⟩) L qc)) W from hK W (Below.refl _ _) trivial)
      clear hK ld lq hmem
      unfold Oper.wp
      simp only [execOp, e7]
      exact HK.out
    | 1, _ =>
      obtain ⟨ty, pos, aft, e, hdp⟩ := iop1
      rw [e] at ho
      obtain rfl := Option.some.inj ho
      intro a' hds W K hB lq ld hmem hK
      have e14 : a'.eval (.tmp 14) = .int .i64 (p : Int) := by rw [eval_tmp]; exact lq (14, .int .i64 (p : Int)) (by simp)
      have t14 := (eval_tmp a' 14).symm.trans e14
      have HK := Lib.hid (show K (a'.put (some 296) (.int .i64 (p : Int))) W from hK W (Below.refl _ _) trivial)
      clear hK ld lq hmem
      unfold Oper.wp
      simp only [execOp, e14]
      exact HK.out
    | 2, _ =>
      obtain ⟨ty, pos, aft, e, hdp⟩ := iop2
      rw [e] at ho
      obtain rfl := Option.some.inj ho
      intro a' hds W K hB lq ld hmem hK
      have e295 : a'.eval (.tmp 295) = .slice (some ⟨gc, 0, none⟩) L qc := by rw [eval_tmp]; exact ld 0 295 (List.all_eq_true.1 hdp 0 (by decide)) rfl
      have t295 := (eval_tmp a' 295).symm.trans e295
      have e296 : a'.eval (.tmp 296) = .int .i64 (p : Int) := by rw [eval_tmp]; exact ld 1 296 (List.all_eq_true.1 hdp 1 (by decide)) rfl
      have t296 := (eval_tmp a' 296).symm.trans e296
      have HK := Lib.hid (show K (a'.put (some 297) (.pointer (some ⟨gc, p, none⟩))) W from hK W (Below.refl _ _) trivial)
      clear hK ld lq hmem
      unfold Oper.wp
      simp only [execOp, e295, e296]
      go_simp
      exact HK.out
    | 3, _ =>
      obtain ⟨ty, pos, aft, e, hdp⟩ := iop3
      rw [e] at ho
      obtain rfl := Option.some.inj ho
      intro a' hds W K hB lq ld hmem hK
      have e297 : a'.eval (.tmp 297) = .pointer (some ⟨gc, p, none⟩) := by rw [eval_tmp]; exact ld 2 297 (List.all_eq_true.1 hdp 2 (by decide)) rfl
      have t297 := (eval_tmp a' 297).symm.trans e297
      have HK := Lib.hid (show K (a'.put (some 298) (.string s2)) W from hK W (Below.refl _ _) trivial)
      clear hK ld lq hmem
      have h0 := (hsc.below hB hgc) p (by omega)
      rw [Nat.zero_add, hs] at h0
      unfold Oper.wp
      simp only [execOp, e297]
      go_simp
      exact HK.out
    | 4, _ =>
      obtain ⟨ty, pos, aft, e, hdp⟩ := iop4
      rw [e] at ho
      obtain rfl := Option.some.inj ho
      intro a' hds W K hB lq ld hmem hK
      have e23 : a'.eval (.tmp 23) = .int .i64 (z : Int) := by rw [eval_tmp]; exact lq (23, .int .i64 (z : Int)) (by simp)
      have t23 := (eval_tmp a' 23).symm.trans e23
      have HK := Lib.hid (show K (a'.put (some 299) (.int .i64 (z : Int))) W from hK W (Below.refl _ _) trivial)
      clear hK ld lq hmem
      unfold Oper.wp
      simp only [execOp, e23]
      exact HK.out
    | 5, _ =>
      obtain ⟨ty, pos, aft, e, hdp⟩ := iop5
      rw [e] at ho
      obtain rfl := Option.some.inj ho
      intro a' hds W K hB lq ld hmem hK
      have e298 : a'.eval (.tmp 298) = .string s2 := by rw [eval_tmp]; exact ld 3 298 (List.all_eq_true.1 hdp 3 (by decide)) rfl
      have t298 := (eval_tmp a' 298).symm.trans e298
      have e299 : a'.eval (.tmp 299) = .int .i64 (z : Int) := by rw [eval_tmp]; exact ld 4 299 (List.all_eq_true.1 hdp 4 (by decide)) rfl
      have t299 := (eval_tmp a' 299).symm.trans e299
      have HK := Lib.hid (show K (a'.put (some 300) (.int .u8 X1)) W from hK W (Below.refl _ _) trivial)
      clear hK ld lq hmem
      have hi := hi1 W
      unfold Oper.wp
      simp only [execOp, e298, e299]
      go_simp
      exact HK.out
    | 6, _ =>
      obtain ⟨ty, pos, aft, e, hdp⟩ := iop6
      rw [e] at ho
      obtain rfl := Option.some.inj ho
      intro a' hds W K hB lq ld hmem hK
      have e7 : a'.eval (.tmp 7) = .slice (some ⟨gc, 0, none⟩) L qc := by rw [eval_tmp]; exact lq (7, .slice (some ⟨gc, 0, none⟩) L qc) (by simp)
      have t7 := (eval_tmp a' 7).symm.trans e7
      have HK := Lib.hid (show K (a'.put (some 301) (.slice (some ⟨gc, 0, none⟩) L qc)) W from hK W (Below.refl _ _) trivial)
      clear hK ld lq hmem
      unfold Oper.wp
      simp only [execOp, e7]
      exact HK.out
    | 7, _ =>
      obtain ⟨ty, pos, aft, e, hdp⟩ := iop7
      rw [e] at ho
      obtain rfl := Option.some.inj ho
      intro a' hds W K hB lq ld hmem hK
      have e14 : a'.eval (.tmp 14) = .int .i64 (p : Int) := by rw [eval_tmp]; exact lq (14, .int .i64 (p : Int)) (by simp)
      have t14 := (eval_tmp a' 14).symm.trans e14
      have HK := Lib.hid (show K (a'.put (some 302) (.int .i64 (p : Int))) W from hK W (Below.refl _ _) trivial)
      clear hK ld lq hmem
      unfold Oper.wp
      simp only [execOp, e14]
      exact HK.out
    | 8, _ =>
      obtain ⟨ty, pos, aft, e, hdp⟩ := iop8
      rw [e] at ho
      obtain rfl := Option.some.inj ho
      intro a' hds W K hB lq ld hmem hK
      have e301 : a'.eval (.tmp 301) = .slice (some ⟨gc, 0, none⟩) L qc := by rw [eval_tmp]; exact ld 6 301 (List.all_eq_true.1 hdp 6 (by decide)) rfl
      have t301 := (eval_tmp a' 301).symm.trans e301
      have e302 : a'.eval (.tmp 302) = .int .i64 (p : Int) := by rw [eval_tmp]; exact ld 7 302 (List.all_eq_true.1 hdp 7 (by decide)) rfl
      have t302 := (eval_tmp a' 302).symm.trans e302
      have HK := Lib.hid (show K (a'.put (some 303) (.pointer (some ⟨gc, p, none⟩))) W from hK W (Below.refl _ _) trivial)
      clear hK ld lq hmem
      unfold Oper.wp
      simp only [execOp, e301, e302]
      go_simp
      exact HK.out
    | 9, _ =>
      obtain ⟨ty, pos, aft, e, hdp⟩ := iop9
      rw [e] at ho
      obtain rfl := Option.some.inj ho
      intro a' hds W K hB lq ld hmem hK
      have e303 : a'.eval (.tmp 303) = .pointer (some ⟨gc, p, none⟩) := by rw [eval_tmp]; exact ld 8 303 (List.all_eq_true.1 hdp 8 (by decide)) rfl
      have t303 := (eval_tmp a' 303).symm.trans e303
      have HK := Lib.hid (show K (a'.put (some 304) (.string s2)) W from hK W (Below.refl _ _) trivial)
      clear hK ld lq hmem
      have h0 := (hsc.below hB hgc) p (by omega)
      rw [Nat.zero_add, hs] at h0
      unfold Oper.wp
      simp only [execOp, e303]
      go_simp
      exact HK.out
    | 10, _ =>
      obtain ⟨ty, pos, aft, e, hdp⟩ := iop10
      rw [e] at ho
      obtain rfl := Option.some.inj ho
      intro a' hds W K hB lq ld hmem hK
      have e24 : a'.eval (.tmp 24) = .int .i64 (f : Int) := by rw [eval_tmp]; exact lq (24, .int .i64 (f : Int)) (by simp)
      have t24 := (eval_tmp a' 24).symm.trans e24
      have HK := Lib.hid (show K (a'.put (some 305) (.int .i64 (f : Int))) W from hK W (Below.refl _ _) trivial)
      clear hK ld lq hmem
      unfold Oper.wp
      simp only [execOp, e24]
      exact HK.out
    | 11, _ =>
      obtain ⟨ty, pos, aft, e, hdp⟩ := iop11
      rw [e] at ho
      obtain rfl := Option.some.inj ho
      intro a' hds W K hB lq ld hmem hK
      have e304 : a'.eval (.tmp 304) = .string s2 := by rw [eval_tmp]; exact ld 9 304 (List.all_eq_true.1 hdp 9 (by decide)) rfl
      have t304 := (eval_tmp a' 304).symm.trans e304
      have e305 : a'.eval (.tmp 305) = .int .i64 (f : Int) := by rw [eval_tmp]; exact ld 10 305 (List.all_eq_true.1 hdp 10 (by decide)) rfl
      have t305 := (eval_tmp a' 305).symm.trans e305
      have HK := Lib.hid (show K (a'.put (some 306) (.int .u8 X2)) W from hK W (Below.refl _ _) trivial)
      clear hK ld lq hmem
      have hi := hi2 W
      unfold Oper.wp
      simp only [execOp, e304, e305]
      go_simp
      exact HK.out
    | 12, _ =>
      obtain ⟨ty, pos, aft, e, hdp⟩ := iop12
      rw [e] at ho
      obtain rfl := Option.some.inj ho
      intro a' hds W K hB lq ld hmem hK
      have e300 : a'.eval (.tmp 300) = .int .u8 X1 := by rw [eval_tmp]; exact ld 5 300 (List.all_eq_true.1 hdp 5 (by decide)) rfl
      have t300 := (eval_tmp a' 300).symm.trans e300
      have e306 : a'.eval (.tmp 306) = .int .u8 X2 := by rw [eval_tmp]; exact ld 11 306 (List.all_eq_true.1 hdp 11 (by decide)) rfl
      have t306 := (eval_tmp a' 306).symm.trans e306
      have HK := Lib.hid (show K (a'.put (some 307) (.bool true)) W from hK W (Below.refl _ _) trivial)
      clear hK ld lq hmem
      unfold Oper.wp
      simp only [execOp, e300, e306]
      go_simp
      exact HK.out
    | 13, _ =>
      obtain ⟨ty, pos, aft, e, hdp⟩ := iop13
      rw [e] at ho
      obtain rfl := Option.some.inj ho
      intro a' hds W K hB lq ld hmem hK
      have e307 : a'.eval (.tmp 307) = .bool true := by rw [eval_tmp]; exact ld 12 307 (List.all_eq_true.1 hdp 12 (by decide)) rfl
      have t307 := (eval_tmp a' 307).symm.trans e307
      have HK := Lib.hid (show K (a'.put (some 308) (.bool true)) W from hK W (Below.refl _ _) trivial)
      clear hK ld lq hmem
      unfold Oper.wp
      simp only [execOp, e307]
      exact HK.out
    | 14, _ =>
      obtain ⟨ty, pos, aft, e, hdp⟩ := iop14
      rw [e] at ho
      obtain rfl := Option.some.inj ho
      intro a' hds W K hB lq ld hmem hK
      have e24 : a'.eval (.tmp 24) = .int .i64 (f : Int) := by rw [eval_tmp]; exact lq (24, .int .i64 (f : Int)) (by simp)
      have t24 := (eval_tmp a' 24).symm.trans e24
      have HK := Lib.hid (show K (a'.put (some 309) (.int .i64 (f : Int))) W from hK W (Below.refl _ _) trivial)
      clear hK ld lq hmem
      unfold Oper.wp
      simp only [execOp, e24]
      exact HK.out
    | 15, _ =>
      obtain ⟨ty, pos, aft, e, hdp⟩ := iop15
      rw [e] at ho
      obtain rfl := Option.some.inj ho
      intro a' hds W K hB lq ld hmem hK
      have e18 : a'.eval (.tmp 18) = .int .i64 (f : Int) := by rw [eval_tmp]; exact lq (18, .int .i64 (f : Int)) (by simp)
      have t18 := (eval_tmp a' 18).symm.trans e18
      have HK := Lib.hid (show K (a'.put (some 310) (.int .i64 (f : Int))) W from hK W (Below.refl _ _) trivial)
      clear hK ld lq hmem
      unfold Oper.wp
      simp only [execOp, e18]
      exact HK.out
    | 16, _ =>
      obtain ⟨ty, pos, aft, e, hdp⟩ := iop16
      rw [e] at ho
      obtain rfl := Option.some.inj ho
      intro a' hds W K hB lq ld hmem hK
      have e309 : a'.eval (.tmp 309) = .int .i64 (f : Int) := by rw [eval_tmp]; exact ld 14 309 (List.all_eq_true.1 hdp 14 (by decide)) rfl
      have t309 := (eval_tmp a' 309).symm.trans e309
      have e310 : a'.eval (.tmp 310) = .int .i64 (f : Int) := by rw [eval_tmp]; exact ld 15 310 (List.all_eq_true.1 hdp 15 (by decide)) rfl
      have t310 := (eval_tmp a' 310).symm.trans e310
      have HK := Lib.hid (show K (a'.put (some 311) (.bool true)) W from hK W (Below.refl _ _) trivial)
      clear hK ld lq hmem
      unfold Oper.wp
      simp only [execOp, e309, e310]
      go_simp
      exact HK.out
    | 17, _ =>
      obtain ⟨ty, pos, aft, e, hdp⟩ := iop17
      rw [e] at ho
      obtain rfl := Option.some.inj ho
      intro a' hds W K hB lq ld hmem hK
      have e308 : a'.eval (.tmp 308) = .bool true := by rw [eval_tmp]; exact ld 13 308 (List.all_eq_true.1 hdp 13 (by decide)) rfl
      have t308 := (eval_tmp a' 308).symm.trans e308
      have e311 : a'.eval (.tmp 311) = .bool true := by rw [eval_tmp]; exact ld 16 311 (List.all_eq_true.1 hdp 16 (by decide)) rfl
      have t311 := (eval_tmp a' 311).symm.trans e311
      have HK := Lib.hid (show K (a'.put (some 312) (.bool true)) W from hK W (Below.refl _ _) trivial)
      clear hK ld lq hmem
      unfold Oper.wp
      simp only [execOp, e308, e311]
      go_simp
      exact HK.out
    | 18, _ =>
      obtain ⟨ty, pos, aft, e, hdp⟩ := iop18
      rw [e] at ho
      obtain rfl := Option.some.inj ho
      intro a' hds W K hB lq ld hmem hK
      have e312 : a'.eval (.tmp 312) = .bool true := by rw [eval_tmp]; exact ld 17 312 (List.all_eq_true.1 hdp 17 (by decide)) rfl
      have t312 := (eval_tmp a' 312).symm.trans e312
      have HK := Lib.hid (show K (a'.put (some 313) (.bool true)) W from hK W (Below.refl _ _) trivial)
      clear hK ld lq hmem
      unfold Oper.wp
      simp only [execOp, e312]
      exact HK.out
    | 19, _ =>
      obtain ⟨ty, pos, aft, e, hdp⟩ := iop19
      rw [e] at ho
      obtain rfl := Option.some.inj ho
      intro a' hds W K hB lq ld hmem hK
      have e15 : a'.eval (.tmp 15) = .int .i64 (v : Int) := by rw [eval_tmp]; exact lq (15, .int .i64 (v : Int)) (by simp)
      have t15 := (eval_tmp a' 15).symm.trans e15
      have HK := Lib.hid (show K (a'.put (some 314) (.int .i64 (v : Int))) W from hK W (Below.refl _ _) trivial)
      clear hK ld lq hmem
      unfold Oper.wp
      simp only [execOp, e15]
      exact HK.out
    | 20, _ =>
      obtain ⟨ty, pos, aft, e, hdp⟩ := iop20
      rw [e] at ho
      obtain rfl := Option.some.inj ho
      intro a' hds W K hB lq ld hmem hK
      have e18 : a'.eval (.tmp 18) = .int .i64 (f : Int) := by rw [eval_tmp]; exact lq (18, .int .i64 (f : Int)) (by simp)
      have t18 := (eval_tmp a' 18).symm.trans e18
      have HK := Lib.hid (show K (a'.put (some 315) (.int .i64 (f : Int))) W from hK W (Below.refl _ _) trivial)
      clear hK ld lq hmem
      unfold Oper.wp
      simp only [execOp, e18]
      exact HK.out
    | 21, _ =>
      obtain ⟨ty, pos, aft, e, hdp⟩ := iop21
      rw [e] at ho
      obtain rfl := Option.some.inj ho
      intro a' hds W K hB lq ld hmem hK
      have e314 : a'.eval (.tmp 314) = .int .i64 (v : Int) := by rw [eval_tmp]; exact ld 19 314 (List.all_eq_true.1 hdp 19 (by decide)) rfl
      have t314 := (eval_tmp a' 314).symm.trans e314
      have e315 : a'.eval (.tmp 315) = .int .i64 (f : Int) := by rw [eval_tmp]; exact ld 20 315 (List.all_eq_true.1 hdp 20 (by decide)) rfl
      have t315 := (eval_tmp a' 315).symm.trans e315
      have HK := Lib.hid (show K (a'.put (some 316) (.bool false)) W from hK W (Below.refl _ _) trivial)
      clear hK ld lq hmem
      unfold Oper.wp
      simp only [execOp, e314, e315]
      go_simp
      exact HK.out
    | 22, _ =>
      obtain ⟨ty, pos, aft, e, hdp⟩ := iop22
      rw [e] at ho
      obtain rfl := Option.some.inj ho
      intro a' hds W K hB lq ld hmem hK
      have e316 : a'.eval (.tmp 316) = .bool false := by rw [eval_tmp]; exact ld 21 316 (List.all_eq_true.1 hdp 21 (by decide)) rfl
      have t316 := (eval_tmp a' 316).symm.trans e316
      have HK := Lib.hid (show K (a'.put (some 317) (.bool false)) W from hK W (Below.refl _ _) trivial)
      clear hK ld lq hmem
      unfold Oper.wp
      simp only [execOp, e316]
      exact HK.out
    | 23, _ =>
      obtain ⟨ty, pos, aft, e, hdp⟩ := iop23
      rw [e] at ho
      obtain rfl := Option.some.inj ho
      intro a' hds W K hB lq ld hmem hK
      have e23 : a'.eval (.tmp 23) = .int .i64 (z : Int) := by rw [eval_tmp]; exact lq (23, .int .i64 (z : Int)) (by simp)
      have t23 := (eval_tmp a' 23).symm.trans e23
      have HK := Lib.hid (show K (a'.put (some 318) (.int .i64 (z : Int))) W from hK W (Below.refl _ _) trivial)
      clear hK ld lq hmem
      unfold Oper.wp
      simp only [execOp, e23]
      exact HK.out
    | 24, _ =>
      obtain ⟨ty, pos, aft, e, hdp⟩ := iop24
      rw [e] at ho
      obtain rfl := Option.some.inj ho
      intro a' hds W K hB lq ld hmem hK
      have e15 : a'.eval (.tmp 15) = .int .i64 (v : Int) := by rw [eval_tmp]; exact lq (15, .int .i64 (v : Int)) (by simp)
      have t15 := (eval_tmp a' 15).symm.trans e15
      have HK := Lib.hid (show K (a'.put (some 319) (.int .i64 (v : Int))) W from hK W (Below.refl _ _) trivial)
      clear hK ld lq hmem
      unfold Oper.wp
      simp only [execOp, e15]
      exact HK.out
    | 25, _ =>
      obtain ⟨ty, pos, aft, e, hdp⟩ := iop25
      rw [e] at ho
      obtain rfl := Option.some.inj ho
      intro a' hds W K hB lq ld hmem hK
      have e318 : a'.eval (.tmp 318) = .int .i64 (z : Int) := by rw [eval_tmp]; exact ld 23 318 (List.all_eq_true.1 hdp 23 (by decide)) rfl
      have t318 := (eval_tmp a' 318).symm.trans e318
      have e319 : a'.eval (.tmp 319) = .int .i64 (v : Int) := by rw [eval_tmp]; exact ld 24 319 (List.all_eq_true.1 hdp 24 (by decide)) rfl
      have t319 := (eval_tmp a' 319).symm.trans e319
      have HK := Lib.hid (show K (a'.put (some 320) (.bool true)) W from hK W (Below.refl _ _) trivial)
      clear hK ld lq hmem
      unfold Oper.wp
      simp only [execOp, e318, e319]
      go_simp
      exact HK.out
    | 26, _ =>
      obtain ⟨ty, pos, aft, e, hdp⟩ := iop26
      rw [e] at ho
      obtain rfl := Option.some.inj ho
      intro a' hds W K hB lq ld hmem hK
      have e317 : a'.eval (.tmp 317) = .bool false := by rw [eval_tmp]; exact ld 22 317 (List.all_eq_true.1 hdp 22 (by decide)) rfl
      have t317 := (eval_tmp a' 317).symm.trans e317
      have e320 : a'.eval (.tmp 320) = .bool true := by rw [eval_tmp]; exact ld 25 320 (List.all_eq_true.1 hdp 25 (by decide)) rfl
      have t320 := (eval_tmp a' 320).symm.trans e320
      have HK := Lib.hid (show K (a'.put (some 321) (.bool true)) W from hK W (Below.refl _ _) trivial)
      clear hK ld lq hmem
      unfold Oper.wp
      simp only [execOp, e317, e320]
      go_simp
      exact HK.out
    | 27, _ =>
      obtain ⟨ty, pos, aft, e, hdp⟩ := iop27
      rw [e] at ho
      obtain rfl := Option.some.inj ho
      intro a' hds W K hB lq ld hmem hK
      have e313 : a'.eval (.tmp 313) = .bool true := by rw [eval_tmp]; exact ld 18 313 (List.all_eq_true.1 hdp 18 (by decide)) rfl
      have t313 := (eval_tmp a' 313).symm.trans e313
      have e321 : a'.eval (.tmp 321) = .bool true := by rw [eval_tmp]; exact ld 26 321 (List.all_eq_true.1 hdp 26 (by decide)) rfl
      have t321 := (eval_tmp a' 321).symm.trans e321
      have HK := Lib.hid (show K (a'.put (some 322) (.bool true)) W from hK W (Below.refl _ _) trivial)
      clear hK ld lq hmem
      unfold Oper.wp
      simp only [execOp, e313, e321]
      go_simp
      exact HK.out
    | 28, _ =>
      obtain ⟨ty, pos, aft, e, hdp⟩ := iop28
      rw [e] at ho
      obtain rfl := Option.some.inj ho
      intro a' hds W K hB lq ld hmem hK
      have e322 : a'.eval (.tmp 322) = .bool true := by rw [eval_tmp]; exact ld 27 322 (List.all_eq_true.1 hdp 27 (by decide)) rfl
      have t322 := (eval_tmp a' 322).symm.trans e322
      have HK := Lib.hid (show K (a'.put (some 323) (.bool true)) W from hK W (Below.refl _ _) trivial)
      clear hK ld lq hmem
      unfold Oper.wp
      simp only [execOp, e322]
      exact HK.out
    | 29, _ =>
      obtain ⟨ty, pos, aft, e, hdp⟩ := iop29
      rw [e] at ho
      obtain rfl := Option.some.inj ho
      intro a' hds W K hB lq ld hmem hK
      have HK := Lib.hid (show ∀ W', Below W.heap.size W W' → K (a'.put (some 324) (.bool true)) W' from fun W' h => hK W' h trivial)
      clear hK ld lq hmem
      refine step_call (vals := #[]) (by exact ⟨_, _, Try.func23, by kernel_rfl, rfl⟩) (by simp only [List.map_toArray, List.map_cons, List.map_nil]) (tieKnown W) ?_
      rintro e w' ⟨rfl, hb'⟩
      exact ⟨_, rfl, HK.out _ hb'⟩
    | 30, _ =>
      obtain ⟨ty, pos, aft, e, hdp⟩ := iop30
      rw [e] at ho
      obtain rfl := Option.some.inj ho
      intro a' hds W K hB lq ld hmem hK
      have e323 : a'.eval (.tmp 323) = .bool true := by rw [eval_tmp]; exact ld 28 323 (List.all_eq_true.1 hdp 28 (by decide)) rfl
      have t323 := (eval_tmp a' 323).symm.trans e323
      have e324 : a'.eval (.tmp 324) = .bool true := by rw [eval_tmp]; exact ld 29 324 (List.all_eq_true.1 hdp 29 (by decide)) rfl
      have t324 := (eval_tmp a' 324).symm.trans e324
      have HK := Lib.hid (show K (a'.put (some 325) (.bool true)) W from hK W (Below.refl _ _) trivial)
      clear hK ld lq hmem
      unfold Oper.wp
      simp only [execOp, e323, e324]
      go_simp
      exact HK.out
    | 31, _ =>
      obtain ⟨ty, pos, aft, e, hdp⟩ := iop31
      rw [e] at ho
      obtain rfl := Option.some.inj ho
      intro a' hds W K hB lq ld hmem hK
      have e325 : a'.eval (.tmp 325) = .bool true := by rw [eval_tmp]; exact ld 30 325 (List.all_eq_true.1 hdp 30 (by decide)) rfl
      have t325 := (eval_tmp a' 325).symm.trans e325
      have HK := Lib.hid (show K (a'.put (some 4) (.bool true)) W from hK W (Below.refl _ _) trivial)
      clear hK ld lq hmem
      unfold Oper.wp
      simp only [execOp, e325]
      exact HK.out
    | i + 32, h => omega
  · intro hds v W hO
    have hfin := gend (v 295) (v 296) (v 297) (v 298) (v 299) (v 300) (v 301) (v 302) (v 303) (v 304) (v 305) (v 306) (v 307) (v 308) (v 309) (v 310) (v 311) (v 312) (v 313) (v 314) (v 315) (v 316) (v 317) (v 318) (v 319) (v 320) (v 321) (v 322) (v 323) (v 324) (v 325) W hO.b
    rw [← laid_putL _ a v ?_] at hfin
    · exact hfin
    · intro p hp
      simp only [List.mem_cons, List.not_mem_nil, or_false] at hp
      rcases hp with rfl | rfl | rfl | rfl | rfl | rfl | rfl | rfl | rfl | rfl | rfl | rfl | rfl | rfl | rfl | rfl | rfl | rfl | rfl | rfl | rfl | rfl | rfl | rfl | rfl | rfl | rfl | rfl | rfl | rfl | rfl | rfl
      · rfl
      · rfl
      · rfl
      · rfl
      · rfl
      · rfl
      · rfl
      · rfl
      · rfl
      · rfl
      · rfl
      · rfl
      · rfl
      · rfl
      · rfl
      · rfl
      · rfl
      · rfl
      · rfl
      · rfl
      · rfl
      · rfl
      · rfl
      · rfl
      · rfl
      · rfl
      · rfl
      · rfl
      · rfl
      · rfl
      · rfl
      · exact hO.x 31 (show 31 < 32 by decide) 4 rfl
end Go.Proofs.Ytdmgffoikebgkaa
