/- known of chapter 3: its last region. -/
import Derived.Test.YtdmgffoikebgkaaTb14
namespace Go.Proofs.Ytdmgffoikebgkaa
open Go.RowKit Go.Shelf
attribute [local go_sem] Oper.semAt_some

/-- numbers, picks and floats in memory -/
structure NatL (W : World) (g : Nat) (xs : List Nat) : Prop where
  at' : NatsAt W g 0 xs
  lt : g < W.heap.size
theorem NatL.next {W W' : World} {g : Nat} {xs : List Nat} (h : NatL W g xs) (hb : Below W.heap.size W W') : NatL W' g xs := ⟨h.at'.below hb h.lt, Nat.lt_of_lt_of_le h.lt hb.size⟩
theorem NatL.cell {W : World} {g : Nat} {xs : List Nat} (h : NatL W g xs) (i : Nat) (hi : i < xs.length) : W.cell? ⟨g, i, none⟩ = some (.int .i64 (nthN xs i : Int)) := by
  have := h.at' i hi
  rwa [Nat.zero_add] at this
structure StrM (W : World) (g : Nat) (ss : List ByteArray) : Prop where
  at' : StrsAt W g 0 ss
  lt : g < W.heap.size
theorem StrM.next {W W' : World} {g : Nat} {ss : List ByteArray} (h : StrM W g ss) (hb : Below W.heap.size W W') : StrM W' g ss := ⟨h.at'.below hb h.lt, Nat.lt_of_lt_of_le h.lt hb.size⟩
theorem FlsAt.next {W W' : World} {g : Nat} {fs : List Fl} (h : FlsAt W g fs) (hb : Below W.heap.size W W') : FlsAt W' g fs := h.below hb h.lt
theorem and15 : ∀ r : Nat, r < 16 → bits .and .i64 (r : Int) 15 = (r : Int) := by decide +kernel
theorem fl_eq (W : World) : (binOp .eql 149 (.agg #[.int .i64 0, .int .i64 4, .int .i64 5, .bool true]) (.agg #[.int .i64 0, .int .i64 4, .int .i64 5, .bool true])).run Try.prog W = .ok (.bool true) W := by kernel_rfl
theorem same_lit (n : Int) (a b L c c2 : Nat) (xs : List Nat) (W : World) (hL : xs.length = L) (h1 : NatsAt W a 0 xs) (h2 : a < W.heap.size) (h3 : NatsAt W b 0 xs) (h4 : b < W.heap.size) (hl : xs.length ≤ 1000 := by decide) :
    Calls Try.prog 40 #[.agg #[.int .i64 n, .slice (some ⟨a, 0, none⟩) L c], .agg #[.int .i64 n, .slice (some ⟨b, 0, none⟩) L c2]] W fun e w' => e = .returned (.bool true) ∧ Below W.heap.size W w' := by
  subst hL
  have hR : ∀ g q, NatsAt W g 0 xs → g < W.heap.size → Reads W (.slice (some ⟨g, 0, none⟩) (ints xs).length q) (ints xs) := fun g q h hg => ⟨_, q, rfl, by rw [ints_len]; omega, fun _ => ⟨g, 0, rfl, hg, h.ints⟩⟩
  have h := Same_any n n (some ⟨a, 0, none⟩) (some ⟨b, 0, none⟩) c c2 (ints xs) (ints xs) W (hR a c h1 h2) (hR b c2 h3 h4)
  rw [ints_len] at h
  exact h.mono fun e w' hh => ⟨by rw [hh.1]; simp, hh.2⟩
theorem bound60 (row : Nat) (W : World) (hr : row < 16) (hb : BoundUp row 4 2) :
    Calls Try.prog 60 #[.int .i64 (row : Int), .int .i64 4, .int .i64 2] W fun e w' => e = .returned (.bool true) ∧ Below W.heap.size W w' :=
  (refBound_any 4 row 2 W (by decide) (by decide) hr (by decide)).mono fun e w' ⟨b, he, hi, hbl⟩ => ⟨by rw [he, hi.2 hb], hbl⟩
def region_kn15U : List (List Nat) := [[], [], [], [], [], [], [], [], [], [], [], [], [12], [12], [12], [12], [12], [12], [12], [12], [12], [12], [12], [12], [12], [12], [12], [12], [12], [12], [12], [12], [12], [12], [12], [12], [12], [12], [12, 38], [12, 38], [12, 38], [12, 38], [12, 38], [12, 38], [12, 38], [12, 38], [12, 38], [12, 38], [12, 38], [12, 38], [12, 38], [12, 38], [12, 38], [12, 38], [12, 38], [12, 38], [12, 38], [12, 38], [12, 38], [12, 38], [12, 38], [12, 38], [12, 38], [12, 38], [12, 38], [12, 38], [12, 38], [12, 38], [12, 38], [12, 38], [12, 38], [12, 38], [12, 38]]
def region_kn15X (gc qc gd qd D ga qa F gb qb G gl ql gx qx row : Nat) : Nat → (Nat → Hd) → Value
  | 0, _ => .slice (some ⟨gc, 0, none⟩) 2 qc
  | 1, _ => .pointer (some ⟨gc, 0, none⟩)
  | 2, _ => .string ⟨#[120, 46, 46, 46, 46, 46]⟩
  | 3, _ => .bool true
  | 4, _ => .bool true
  | 5, _ => .slice (some ⟨gc, 0, none⟩) 2 qc
  | 6, _ => .pointer (some ⟨gc, 1, none⟩)
  | 7, _ => .string ⟨#[46, 120, 120, 46, 120, 120]⟩
  | 8, _ => .bool true
  | 9, _ => .bool true
  | 10, _ => .bool true
  | 11, _ => .agg #[.int .i64 4, .slice (some ⟨gd, 0, none⟩) 2 qd]
  | 12, hds => .slice (some ⟨(hds 12).b, 0, none⟩) 2 2
  | 13, hds => .agg #[.int .i64 4, .slice (some ⟨(hds 12).b, 0, none⟩) 2 2]
  | 14, _ => .bool true
  | 15, _ => .bool true
  | 16, _ => .bool true
  | 17, _ => .int .i64 5
  | 18, _ => .bool true
  | 19, _ => .bool true
  | 20, _ => .bool true
  | 21, _ => .int .i64 1
  | 22, _ => .bool true
  | 23, _ => .bool true
  | 24, _ => .bool true
  | 25, _ => .pointer (some ⟨F, 0, none⟩)
  | 26, _ => .int .i64 3
  | 27, _ => .bool true
  | 28, _ => .bool true
  | 29, _ => .bool true
  | 30, _ => .pointer (some ⟨F, 1, none⟩)
  | 31, _ => .slice (some ⟨ga, 0, none⟩) 4 qa
  | 32, _ => .pointer (some ⟨ga, 3, none⟩)
  | 33, _ => .int .i64 0
  | 34, _ => .bool true
  | 35, _ => .bool true
  | 36, _ => .bool true
  | 37, _ => .agg #[.int .i64 3, .slice (some ⟨gb, 0, none⟩) 2 qb]
  | 38, hds => .slice (some ⟨(hds 38).b, 0, none⟩) 2 2
  | 39, hds => .agg #[.int .i64 3, .slice (some ⟨(hds 38).b, 0, none⟩) 2 2]
  | 40, _ => .bool true
  | 41, _ => .bool true
  | 42, _ => .bool true
  | 43, _ => .slice (some ⟨gl, 0, none⟩) 3 ql
  | 44, _ => .pointer (some ⟨gl, 2, none⟩)
  | 45, _ => .int .i64 2
  | 46, _ => .bool true
  | 47, _ => .bool true
  | 48, _ => .bool true
  | 49, _ => .slice (some ⟨gx, 0, none⟩) 1 qx
  | 50, _ => .pointer (some ⟨gx, 0, none⟩)
  | 51, _ => .agg #[.int .i64 0, .int .i64 4, .int .i64 5, .bool true]
  | 52, _ => .agg #[.int .i64 0, .int .i64 4, .int .i64 5, .bool true]
  | 53, _ => .bool true
  | 54, _ => .bool true
  | 55, _ => .bool true
  | 56, _ => .int .i64 3
  | 57, _ => .bool true
  | 58, _ => .bool true
  | 59, _ => .bool true
  | 60, _ => .int .i64 (row : Int)
  | 61, _ => .int .i64 (row : Int)
  | 62, _ => .bool true
  | 63, _ => .bool true
  | 64, _ => .bool true
  | 65, _ => .int .i64 5
  | 66, _ => .bool true
  | 67, _ => .bool true
  | 68, _ => .bool true
  | 69, _ => .int .i64 0
  | 70, _ => .bool true
  | 71, _ => .bool true
  | 72, _ => .bool true
  | _ + 73, _ => undef
theorem region_kn15X.congr (gc qc gd qd D ga qa F gb qb G gl ql gx qx row : Nat) : ∀ i hds hds', (∀ r ∈ uOf region_kn15U i, hds r = hds' r) → region_kn15X gc qc gd qd D ga qa F gb qb G gl ql gx qx row i hds = region_kn15X gc qc gd qd D ga qa F gb qb G gl ql gx qx row i hds'
  | 0, _, _, _ => rfl
  | 1, _, _, _ => rfl
  | 2, _, _, _ => rfl
  | 3, _, _, _ => rfl
  | 4, _, _, _ => rfl
  | 5, _, _, _ => rfl
  | 6, _, _, _ => rfl
  | 7, _, _, _ => rfl
  | 8, _, _, _ => rfl
  | 9, _, _, _ => rfl
  | 10, _, _, _ => rfl
  | 11, _, _, _ => rfl
  | 12, hds, hds', h => by simp only [region_kn15X, h 12 (show 12 ∈ uOf region_kn15U 12 by decide)]
  | 13, hds, hds', h => by simp only [region_kn15X, h 12 (show 12 ∈ uOf region_kn15U 13 by decide)]
  | 14, _, _, _ => rfl
  | 15, _, _, _ => rfl
  | 16, _, _, _ => rfl
  | 17, _, _, _ => rfl
  | 18, _, _, _ => rfl
  | 19, _, _, _ => rfl
  | 20, _, _, _ => rfl
  | 21, _, _, _ => rfl
  | 22, _, _, _ => rfl
  | 23, _, _, _ => rfl
  | 24, _, _, _ => rfl
  | 25, _, _, _ => rfl
  | 26, _, _, _ => rfl
  | 27, _, _, _ => rfl
  | 28, _, _, _ => rfl
  | 29, _, _, _ => rfl
  | 30, _, _, _ => rfl
  | 31, _, _, _ => rfl
  | 32, _, _, _ => rfl
  | 33, _, _, _ => rfl
  | 34, _, _, _ => rfl
  | 35, _, _, _ => rfl
  | 36, _, _, _ => rfl
  | 37, _, _, _ => rfl
  | 38, hds, hds', h => by simp only [region_kn15X, h 38 (show 38 ∈ uOf region_kn15U 38 by decide)]
  | 39, hds, hds', h => by simp only [region_kn15X, h 38 (show 38 ∈ uOf region_kn15U 39 by decide)]
  | 40, _, _, _ => rfl
  | 41, _, _, _ => rfl
  | 42, _, _, _ => rfl
  | 43, _, _, _ => rfl
  | 44, _, _, _ => rfl
  | 45, _, _, _ => rfl
  | 46, _, _, _ => rfl
  | 47, _, _, _ => rfl
  | 48, _, _, _ => rfl
  | 49, _, _, _ => rfl
  | 50, _, _, _ => rfl
  | 51, _, _, _ => rfl
  | 52, _, _, _ => rfl
  | 53, _, _, _ => rfl
  | 54, _, _, _ => rfl
  | 55, _, _, _ => rfl
  | 56, _, _, _ => rfl
  | 57, _, _, _ => rfl
  | 58, _, _, _ => rfl
  | 59, _, _, _ => rfl
  | 60, _, _, _ => rfl
  | 61, _, _, _ => rfl
  | 62, _, _, _ => rfl
  | 63, _, _, _ => rfl
  | 64, _, _, _ => rfl
  | 65, _, _, _ => rfl
  | 66, _, _, _ => rfl
  | 67, _, _, _ => rfl
  | 68, _, _, _ => rfl
  | 69, _, _, _ => rfl
  | 70, _, _, _ => rfl
  | 71, _, _, _ => rfl
  | 72, _, _, _ => rfl
  | _ + 73, _, _, _ => rfl
def region_kn15M (gc qc gd qd D ga qa F gb qb G gl ql gx qx row : Nat) : Nat → Mem
  | 12 => memNats [1, 6]
  | 38 => memNats [1, 3]
  | _ => memNone
def region_kn15S (gc qc gd qd D ga qa F gb qb G gl ql gx qx row : Nat) : Nat → Option Sto
  | _ => none
set_option maxRecDepth 8000 in
set_option maxHeartbeats 2000000 in
theorem region_kn15 {id : Nat} {ops : Array Oper} {Q : Exit → Act → World → Prop} {a : Act} {w : World} (gc qc gd qd D ga qa F gb qb G gl ql gx qx row : Nat) (hs0 : w.cell? ⟨gc, 0, none⟩ = some (.string ⟨#[120, 46, 46, 46, 46, 46]⟩)) (hs1 : w.cell? ⟨gc, 1, none⟩ = some (.string ⟨#[46, 120, 120, 46, 120, 120]⟩)) (hd6 : NatL w gd [1, 6]) (ha3 : w.cell? ⟨ga, 3, none⟩ = some (.int .i64 0)) (hb3 : NatL w gb [1, 3]) (hl2 : w.cell? ⟨gl, 2, none⟩ = some (.int .i64 2)) (hx0 : w.cell? ⟨gx, 0, none⟩ = some (.int .i64 0)) (hx1 : w.cell? ⟨gx, 1, none⟩ = some (.int .i64 4)) (hx2 : w.cell? ⟨gx, 2, none⟩ = some (.int .i64 5)) (hx3 : w.cell? ⟨gx, 3, none⟩ = some (.bool true)) (hrow : row < 16) (hbd : BoundUp row 4 2) (hD : BoxAt w D #[.int .i64 4, .slice (some ⟨gd, 0, none⟩) 2 qd] 37) (hF : BoxAt w F #[.int .i64 3, .slice (some ⟨ga, 0, none⟩) 4 qa] 26) (hG : BoxAt w G #[.int .i64 3, .slice (some ⟨gb, 0, none⟩) 2 qb] 37)
    (gsize : ops.size = 73)
    (gops : IsOp ops 0 (some 167) (.move (.tmp 4)) none [] ∧ IsOp ops 1 (some 168) (.indexAddr 49 (.tmp 167) (.const (.int .i64 0))) none [0] ∧ IsOp ops 2 (some 169) (.load 9 (.tmp 168)) none [1] ∧ IsOp ops 3 (some 170) (.binOp .eql 9 (.tmp 169) (.const (.string { data := #[120, 46, 46, 46, 46, 46] })) 9) none [2] ∧ IsOp ops 4 (some 171) (.move (.tmp 170)) none [3] ∧ IsOp ops 5 (some 172) (.move (.tmp 4)) (some (4, true)) [4] ∧ IsOp ops 6 (some 173) (.indexAddr 49 (.tmp 172) (.const (.int .i64 1))) (some (4, true)) [4, 5] ∧ IsOp ops 7 (some 174) (.load 9 (.tmp 173)) (some (4, true)) [4, 6] ∧ IsOp ops 8 (some 175) (.binOp .eql 9 (.tmp 174) (.const (.string { data := #[46, 120, 120, 46, 120, 120] })) 9) (some (4, true)) [4, 7] ∧ IsOp ops 9 (some 176) (.pick (.tmp 171) (.tmp 175) (.const (.bool false))) none [4, 8] ∧ IsOp ops 10 (some 177) (.move (.tmp 176)) none [9] ∧ IsOp ops 11 (some 178) (.load 37 (.tmp 6)) (some (10, true)) [10] ∧ IsOp ops 12 (some 179) (.buildSlice 24 2 #[(0, .const (.int .i64 1)), (1, .const (.int .i64 6))]) (some (10, true)) [10] ∧ IsOp ops 13 (some 180) (.call { callee := .value (.func 62), args := #[.const (.int .i64 4), .tmp 179], argTypes := #[3, 24] }) (some (10, true)) [10, 12] ∧ IsOp ops 14 (some 181) (.call { callee := .value (.func 40), args := #[.tmp 178, .tmp 180], argTypes := #[37, 37] }) (some (10, true)) [10, 11, 13] ∧ IsOp ops 15 (some 182) (.pick (.tmp 177) (.tmp 181) (.const (.bool false))) none [10, 14] ∧ IsOp ops 16 (some 183) (.move (.tmp 182)) none [15] ∧ IsOp ops 17 (some 184) (.move (.tmp 9)) (some (16, true)) [16] ∧ IsOp ops 18 (some 185) (.binOp .eql 3 (.tmp 184) (.const (.int .i64 5)) 3) (some (16, true)) [16, 17] ∧ IsOp ops 19 (some 186) (.pick (.tmp 183) (.tmp 185) (.const (.bool false))) none [16, 18] ∧ IsOp ops 20 (some 187) (.move (.tmp 186)) none [19] ∧ IsOp ops 21 (some 188) (.move (.tmp 10)) (some (20, true)) [20] ∧ IsOp ops 22 (some 189) (.binOp .eql 3 (.tmp 188) (.const (.int .i64 1)) 3) (some (20, true)) [20, 21] ∧ IsOp ops 23 (some 190) (.pick (.tmp 187) (.tmp 189) (.const (.bool false))) none [20, 22] ∧ IsOp ops 24 (some 191) (.move (.tmp 190)) none [23] ∧ IsOp ops 25 (some 192) (.fieldAddr 26 (.tmp 12) 0) (some (24, true)) [24] ∧ IsOp ops 26 (some 193) (.load 3 (.tmp 192)) (some (24, true)) [24, 25] ∧ IsOp ops 27 (some 194) (.binOp .eql 3 (.tmp 193) (.const (.int .i64 3)) 3) (some (24, true)) [24, 26] ∧ IsOp ops 28 (some 195) (.pick (.tmp 191) (.tmp 194) (.const (.bool false))) none [24, 27] ∧ IsOp ops 29 (some 196) (.move (.tmp 195)) none [28] ∧ IsOp ops 30 (some 197) (.fieldAddr 26 (.tmp 12) 1) (some (29, true)) [29] ∧ IsOp ops 31 (some 198) (.load 24 (.tmp 197)) (some (29, true)) [29, 30] ∧ IsOp ops 32 (some 199) (.indexAddr 24 (.tmp 198) (.const (.int .i64 3))) (some (29, true)) [29, 31] ∧ IsOp ops 33 (some 200) (.load 3 (.tmp 199)) (some (29, true)) [29, 32] ∧ IsOp ops 34 (some 201) (.binOp .eql 3 (.tmp 200) (.const (.int .i64 0)) 3) (some (29, true)) [29, 33] ∧ IsOp ops 35 (some 202) (.pick (.tmp 196) (.tmp 201) (.const (.bool false))) none [29, 34] ∧ IsOp ops 36 (some 203) (.move (.tmp 202)) none [35] ∧ IsOp ops 37 (some 204) (.load 37 (.tmp 13)) (some (36, true)) [36] ∧ IsOp ops 38 (some 205) (.buildSlice 24 2 #[(0, .const (.int .i64 1)), (1, .const (.int .i64 3))]) (some (36, true)) [36] ∧ IsOp ops 39 (some 206) (.call { callee := .value (.func 62), args := #[.const (.int .i64 3), .tmp 205], argTypes := #[3, 24] }) (some (36, true)) [36, 38] ∧ IsOp ops 40 (some 207) (.call { callee := .value (.func 40), args := #[.tmp 204, .tmp 206], argTypes := #[37, 37] }) (some (36, true)) [36, 37, 39] ∧ IsOp ops 41 (some 208) (.pick (.tmp 203) (.tmp 207) (.const (.bool false))) none [36, 40] ∧ IsOp ops 42 (some 209) (.move (.tmp 208)) none [41] ∧ IsOp ops 43 (some 210) (.move (.tmp 15)) (some (42, true)) [42] ∧ IsOp ops 44 (some 211) (.indexAddr 24 (.tmp 210) (.const (.int .i64 2))) (some (42, true)) [42, 43] ∧ IsOp ops 45 (some 212) (.load 3 (.tmp 211)) (some (42, true)) [42, 44] ∧ IsOp ops 46 (some 213) (.binOp .eql 3 (.tmp 212) (.const (.int .i64 2)) 3) (some (42, true)) [42, 45] ∧ IsOp ops 47 (some 214) (.pick (.tmp 209) (.tmp 213) (.const (.bool false))) none [42, 46] ∧ IsOp ops 48 (some 215) (.move (.tmp 214)) none [47] ∧ IsOp ops 49 (some 216) (.move (.tmp 17)) (some (48, true)) [48] ∧ IsOp ops 50 (some 217) (.indexAddr 52 (.tmp 216) (.const (.int .i64 0))) (some (48, true)) [48, 49] ∧ IsOp ops 51 (some 218) (.load 149 (.tmp 217)) (some (48, true)) [48, 50] ∧ IsOp ops 52 (some 219) (.build 149 #[(1, .const (.int .i64 4)), (2, .const (.int .i64 5)), (3, .const (.bool true))]) (some (48, true)) [48] ∧ IsOp ops 53 (some 220) (.binOp .eql 149 (.tmp 218) (.tmp 219) 149) (some (48, true)) [48, 51, 52] ∧ IsOp ops 54 (some 221) (.pick (.tmp 215) (.tmp 220) (.const (.bool false))) none [48, 53] ∧ IsOp ops 55 (some 222) (.move (.tmp 221)) none [54] ∧ IsOp ops 56 (some 223) (.move (.tmp 19)) (some (55, true)) [55] ∧ IsOp ops 57 (some 224) (.binOp .eql 3 (.tmp 223) (.const (.int .i64 3)) 3) (some (55, true)) [55, 56] ∧ IsOp ops 58 (some 225) (.pick (.tmp 222) (.tmp 224) (.const (.bool false))) none [55, 57] ∧ IsOp ops 59 (some 226) (.move (.tmp 225)) none [58] ∧ IsOp ops 60 (some 227) (.move (.tmp 20)) (some (59, true)) [59] ∧ IsOp ops 61 (some 228) (.binOp .and 3 (.tmp 227) (.const (.int .i64 15)) 3) (some (59, true)) [59, 60] ∧ IsOp ops 62 (some 229) (.call { callee := .value (.func 60), args := #[.tmp 228, .const (.int .i64 4), .const (.int .i64 2)], argTypes := #[3, 3, 3] }) (some (59, true)) [59, 61] ∧ IsOp ops 63 (some 230) (.pick (.tmp 226) (.tmp 229) (.const (.bool false))) none [59, 62] ∧ IsOp ops 64 (some 231) (.move (.tmp 230)) none [63] ∧ IsOp ops 65 (some 232) (.move (.tmp 22)) (some (64, true)) [64] ∧ IsOp ops 66 (some 233) (.binOp .eql 3 (.tmp 232) (.const (.int .i64 5)) 3) (some (64, true)) [64, 65] ∧ IsOp ops 67 (some 234) (.pick (.tmp 231) (.tmp 233) (.const (.bool false))) none [64, 66] ∧ IsOp ops 68 (some 235) (.move (.tmp 234)) none [67] ∧ IsOp ops 69 (some 236) (.move (.tmp 25)) (some (68, true)) [68] ∧ IsOp ops 70 (some 237) (.binOp .eql 3 (.tmp 236) (.const (.int .i64 0)) 3) (some (68, true)) [68, 69] ∧ IsOp ops 71 (some 238) (.pick (.tmp 235) (.tmp 237) (.const (.bool false))) none [68, 70] ∧ IsOp ops 72 (some 0) (.assign (.tmp 238)) none [71])
    (gbk : backB ops = true) (gds : dstsB ops (dOf [some 167, some 168, some 169, some 170, some 171, some 172, some 173, some 174, some 175, some 176, some 177, some 178, some 179, some 180, some 181, some 182, some 183, some 184, some 185, some 186, some 187, some 188, some 189, some 190, some 191, some 192, some 193, some 194, some 195, some 196, some 197, some 198, some 199, some 200, some 201, some 202, some 203, some 204, some 205, some 206, some 207, some 208, some 209, some 210, some 211, some 212, some 213, some 214, some 215, some 216, some 217, some 218, some 219, some 220, some 221, some 222, some 223, some 224, some 225, some 226, some 227, some 228, some 229, some 230, some 231, some 232, some 233, some 234, some 235, some 236, some 237, some 238, some 0]) = true) (gus : useB ops (uOf region_kn15U) (kOf [0, 0, 0, 0, 0, 0, 0, 0, 0, 0, 0, 0, 1, 0, 0, 0, 0, 0, 0, 0, 0, 0, 0, 0, 0, 0, 0, 0, 0, 0, 0, 0, 0, 0, 0, 0, 0, 0, 1, 0, 0, 0, 0, 0, 0, 0, 0, 0, 0, 0, 0, 0, 0, 0, 0, 0, 0, 0, 0, 0, 0, 0, 0, 0, 0, 0, 0, 0, 0, 0, 0, 0, 0]) = true) (ggd : guardB ops (dOf [some 167, some 168, some 169, some 170, some 171, some 172, some 173, some 174, some 175, some 176, some 177, some 178, some 179, some 180, some 181, some 182, some 183, some 184, some 185, some 186, some 187, some 188, some 189, some 190, some 191, some 192, some 193, some 194, some 195, some 196, some 197, some 198, some 199, some 200, some 201, some 202, some 203, some 204, some 205, some 206, some 207, some 208, some 209, some 210, some 211, some 212, some 213, some 214, some 215, some 216, some 217, some 218, some 219, some 220, some 221, some 222, some 223, some 224, some 225, some 226, some 227, some 228, some 229, some 230, some 231, some 232, some 233, some 234, some 235, some 236, some 237, some 238, some 0]) [4, 10, 16, 20, 24, 29, 36, 42, 48, 55, 59, 64, 68] = true) (gsz : ∀ e ∈ [167, 168, 169, 170, 171, 172, 173, 174, 175, 176, 177, 178, 179, 180, 181, 182, 183, 184, 185, 186, 187, 188, 189, 190, 191, 192, 193, 194, 195, 196, 197, 198, 199, 200, 201, 202, 203, 204, 205, 206, 207, 208, 209, 210, 211, 212, 213, 214, 215, 216, 217, 218, 219, 220, 221, 222, 223, 224, 225, 226, 227, 228, 229, 230, 231, 232, 233, 234, 235, 236, 237, 238, 0], e < a.tmps.size)
    (gout : a.eval (.tmp 4) = .slice (some ⟨gc, 0, none⟩) 2 qc ∧ a.eval (.tmp 6) = .pointer (some ⟨D, 0, none⟩) ∧ a.eval (.tmp 9) = .int .i64 5 ∧ a.eval (.tmp 10) = .int .i64 1 ∧ a.eval (.tmp 12) = .pointer (some ⟨F, 0, none⟩) ∧ a.eval (.tmp 13) = .pointer (some ⟨G, 0, none⟩) ∧ a.eval (.tmp 15) = .slice (some ⟨gl, 0, none⟩) 3 ql ∧ a.eval (.tmp 17) = .slice (some ⟨gx, 0, none⟩) 1 qx ∧ a.eval (.tmp 19) = .int .i64 3 ∧ a.eval (.tmp 20) = .int .i64 (row : Int) ∧ a.eval (.tmp 22) = .int .i64 5 ∧ a.eval (.tmp 25) = .int .i64 0)
    (gend : ∀ (g179 q179 G179 Q179 g205 q205 G205 Q205 : Nat) (P179 P205 : Option Addr) (u167 u168 u169 u170 u171 u172 u173 u174 u175 u176 u177 u178 u179 u180 u181 u182 u183 u184 u185 u186 u187 u188 u189 u190 u191 u192 u193 u194 u195 u196 u197 u198 u199 u200 u201 u202 u203 u204 u205 u206 u207 u208 u209 u210 u211 u212 u213 u214 u215 u216 u217 u218 u219 u220 u221 u222 u223 u224 u225 u226 u227 u228 u229 u230 u231 u232 u233 u234 u235 u236 u237 u238 : Value) (W : World), Below w.heap.size w W → (memNats [1, 6]).P ⟨g179, q179, G179, Q179, P179⟩ W → (∀ b ∈ (memNats [1, 6]).bl ⟨g179, q179, G179, Q179, P179⟩, w.heap.size ≤ b ∧ b < W.heap.size) → (memNats [1, 3]).P ⟨g205, q205, G205, Q205, P205⟩ W → (∀ b ∈ (memNats [1, 3]).bl ⟨g205, q205, G205, Q205, P205⟩, w.heap.size ≤ b ∧ b < W.heap.size) → Q .normal (putL a [(167, u167), (168, u168), (169, u169), (170, u170), (171, u171), (172, u172), (173, u173), (174, u174), (175, u175), (176, u176), (177, u177), (178, u178), (179, u179), (180, u180), (181, u181), (182, u182), (183, u183), (184, u184), (185, u185), (186, u186), (187, u187), (188, u188), (189, u189), (190, u190), (191, u191), (192, u192), (193, u193), (194, u194), (195, u195), (196, u196), (197, u197), (198, u198), (199, u199), (200, u200), (201, u201), (202, u202), (203, u203), (204, u204), (205, u205), (206, u206), (207, u207), (208, u208), (209, u209), (210, u210), (211, u211), (212, u212), (213, u213), (214, u214), (215, u215), (216, u216), (217, u217), (218, u218), (219, u219), (220, u220), (221, u221), (222, u222), (223, u223), (224, u224), (225, u225), (226, u226), (227, u227), (228, u228), (229, u229), (230, u230), (231, u231), (232, u232), (233, u233), (234, u234), (235, u235), (236, u236), (237, u237), (238, u238), (0, .bool true)]) W) :
    (Code.region id ops true).wp Try.prog Q a w := by
  obtain ⟨iop0, iop1, iop2, iop3, iop4, iop5, iop6, iop7, iop8, iop9, iop10, iop11, iop12, iop13, iop14, iop15, iop16, iop17, iop18, iop19, iop20, iop21, iop22, iop23, iop24, iop25, iop26, iop27, iop28, iop29, iop30, iop31, iop32, iop33, iop34, iop35, iop36, iop37, iop38, iop39, iop40, iop41, iop42, iop43, iop44, iop45, iop46, iop47, iop48, iop49, iop50, iop51, iop52, iop53, iop54, iop55, iop56, iop57, iop58, iop59, iop60, iop61, iop62, iop63, iop64, iop65, iop66, iop67, iop68, iop69, iop70, iop71, iop72⟩ := gops
  obtain ⟨o4, o6, o9, o10, o12, o13, o15, o17, o19, o20, o22, o25⟩ := gout
  refine region_all (RSp.of 73 [some 167, some 168, some 169, some 170, some 171, some 172, some 173, some 174, some 175, some 176, some 177, some 178, some 179, some 180, some 181, some 182, some 183, some 184, some 185, some 186, some 187, some 188, some 189, some 190, some 191, some 192, some 193, some 194, some 195, some 196, some 197, some 198, some 199, some 200, some 201, some 202, some 203, some 204, some 205, some 206, some 207, some 208, some 209, some 210, some 211, some 212, some 213, some 214, some 215, some 216, some 217, some 218, some 219, some 220, some 221, some 222, some 223, some 224, some 225, some 226, some 227, some 228, some 229, some 230, some 231, some 232, some 233, some 234, some 235, some 236, some 237, some 238, some 0] (fun _ => true) (region_kn15X gc qc gd qd D ga qa F gb qb G gl ql gx qx row) region_kn15U [0, 0, 0, 0, 0, 0, 0, 0, 0, 0, 0, 0, 1, 0, 0, 0, 0, 0, 0, 0, 0, 0, 0, 0, 0, 0, 0, 0, 0, 0, 0, 0, 0, 0, 0, 0, 0, 0, 1, 0, 0, 0, 0, 0, 0, 0, 0, 0, 0, 0, 0, 0, 0, 0, 0, 0, 0, 0, 0, 0, 0, 0, 0, 0, 0, 0, 0, 0, 0, 0, 0, 0, 0] (region_kn15M gc qc gd qd D ga qa F gb qb G gl ql gx qx row) (region_kn15S gc qc gd qd D ga qa F gb qb G gl ql gx qx row)) [(4, .slice (some ⟨gc, 0, none⟩) 2 qc), (6, .pointer (some ⟨D, 0, none⟩)), (9, .int .i64 5), (10, .int .i64 1), (12, .pointer (some ⟨F, 0, none⟩)), (13, .pointer (some ⟨G, 0, none⟩)), (15, .slice (some ⟨gl, 0, none⟩) 3 ql), (17, .slice (some ⟨gx, 0, none⟩) 1 qx), (19, .int .i64 3), (20, .int .i64 (row : Int)), (22, .int .i64 5), (25, .int .i64 0)] [167, 168, 169, 170, 171, 172, 173, 174, 175, 176, 177, 178, 179, 180, 181, 182, 183, 184, 185, 186, 187, 188, 189, 190, 191, 192, 193, 194, 195, 196, 197, 198, 199, 200, 201, 202, 203, 204, 205, 206, 207, 208, 209, 210, 211, 212, 213, 214, 215, 216, 217, 218, 219, 220, 221, 222, 223, 224, 225, 226, 227, 228, 229, 230, 231, 232, 233, 234, 235, 236, 237, 238, 0] (RSp.of_fitG gsize.symm gbk gds gus ggd (by decide) ?_ ?_) (RSp.of_ok _ (region_kn15X.congr gc qc gd qd D ga qa F gb qb G gl ql gx qx row) ?_) gsz ?_ ?_ ?_
  · intro p hp
    have hp2 : p ∈ ([] : List (Nat × Nat)) := hp
    cases hp2
  · intro j hj hds
    simp only [List.mem_cons, List.not_mem_nil, or_false] at hj
    rcases hj with rfl | rfl | rfl | rfl | rfl | rfl | rfl | rfl | rfl | rfl | rfl | rfl | rfl
    all_goals rfl
  · intro i s hds
    match i, hds with
    | 0, hds => cases hds
    | 1, hds => cases hds
    | 2, hds => cases hds
    | 3, hds => cases hds
    | 4, hds => cases hds
    | 5, hds => cases hds
    | 6, hds => cases hds
    | 7, hds => cases hds
    | 8, hds => cases hds
    | 9, hds => cases hds
    | 10, hds => cases hds
    | 11, hds => cases hds
    | 12, hds => cases hds
    | 13, hds => cases hds
    | 14, hds => cases hds
    | 15, hds => cases hds
    | 16, hds => cases hds
    | 17, hds => cases hds
    | 18, hds => cases hds
    | 19, hds => cases hds
    | 20, hds => cases hds
    | 21, hds => cases hds
    | 22, hds => cases hds
    | 23, hds => cases hds
    | 24, hds => cases hds
    | 25, hds => cases hds
    | 26, hds => cases hds
    | 27, hds => cases hds
    | 28, hds => cases hds
    | 29, hds => cases hds
    | 30, hds => cases hds
    | 31, hds => cases hds
    | 32, hds => cases hds
    | 33, hds => cases hds
    | 34, hds => cases hds
    | 35, hds => cases hds
    | 36, hds => cases hds
    | 37, hds => cases hds
    | 38, hds => cases hds
    | 39, hds => cases hds
    | 40, hds => cases hds
    | 41, hds => cases hds
    | 42, hds => cases hds
    | 43, hds => cases hds
    | 44, hds => cases hds
    | 45, hds => cases hds
    | 46, hds => cases hds
    | 47, hds => cases hds
    | 48, hds => cases hds
    | 49, hds => cases hds
    | 50, hds => cases hds
    | 51, hds => cases hds
    | 52, hds => cases hds
    | 53, hds => cases hds
    | 54, hds => cases hds
    | 55, hds => cases hds
    | 56, hds => cases hds
    | 57, hds => cases hds
    | 58, hds => cases hds
    | 59, hds => cases hds
    | 60, hds => cases hds
    | 61, hds => cases hds
    | 62, hds => cases hds
    | 63, hds => cases hds
    | 64, hds => cases hds
    | 65, hds => cases hds
    | 66, hds => cases hds
    | 67, hds => cases hds
    | 68, hds => cases hds
    | 69, hds => cases hds
    | 70, hds => cases hds
    | 71, hds => cases hds
    | 72, hds => cases hds
    | _ + 73, hds => cases hds
  · intro q hq
    simp only [List.mem_cons, List.not_mem_nil, or_false] at hq
    rcases hq with rfl | rfl | rfl | rfl | rfl | rfl | rfl | rfl | rfl | rfl | rfl | rfl
    · exact ⟨o4, by simp⟩
    · exact ⟨o6, by simp⟩
    · exact ⟨o9, by simp⟩
    · exact ⟨o10, by simp⟩
    · exact ⟨o12, by simp⟩
    · exact ⟨o13, by simp⟩
    · exact ⟨o15, by simp⟩
    · exact ⟨o17, by simp⟩
    · exact ⟨o19, by simp⟩
    · exact ⟨o20, by simp⟩
    · exact ⟨o22, by simp⟩
    · exact ⟨o25, by simp⟩
  · intro i o ho _
    have hi : i < 73 := by rw [← gsize]; exact (Array.getElem?_eq_some_iff.1 ho).1
    match i, hi with
    | 0, _ =>
      obtain ⟨ty, pos, aft, e, hdp⟩ := iop0
      rw [e] at ho
      obtain rfl := Option.some.inj ho
      intro a' hds W K hB lq ld hmem hK
      have e4 : a'.eval (.tmp 4) = .slice (some ⟨gc, 0, none⟩) 2 qc := by rw [eval_tmp]; exact lq (4, .slice (some ⟨gc, 0, none⟩) 2 qc) (by simp)
      have t4 := (eval_tmp a' 4).symm.trans e4
      have HK := Lib.hid (show K (a'.put (some 167) (.slice (some ⟨gc, 0, none⟩) 2 qc)) W from hK W (Below.refl _ _) trivial)
      clear hK ld lq hmem
      unfold Oper.wp
      simp only [execOp, e4]
      exact HK.out
    | 1, _ =>
      obtain ⟨ty, pos, aft, e, hdp⟩ := iop1
      rw [e] at ho
      obtain rfl := Option.some.inj ho
      intro a' hds W K hB lq ld hmem hK
      have e167 : a'.eval (.tmp 167) = .slice (some ⟨gc, 0, none⟩) 2 qc := by rw [eval_tmp]; exact ld 0 167 (List.all_eq_true.1 hdp 0 (by decide)) rfl
      have t167 := (eval_tmp a' 167).symm.trans e167
      have HK := Lib.hid (show K (a'.put (some 168) (.pointer (some ⟨gc, 0, none⟩))) W from hK W (Below.refl _ _) trivial)
      clear hK ld lq hmem
      unfold Oper.wp
      simp only [execOp, e167]
      go_simp
      exact HK.out
    | 2, _ =>
      obtain ⟨ty, pos, aft, e, hdp⟩ := iop2
      rw [e] at ho
      obtain rfl := Option.some.inj ho
      intro a' hds W K hB lq ld hmem hK
      have e168 : a'.eval (.tmp 168) = .pointer (some ⟨gc, 0, none⟩) := by rw [eval_tmp]; exact ld 1 168 (List.all_eq_true.1 hdp 1 (by decide)) rfl
      have t168 := (eval_tmp a' 168).symm.trans e168
      have HK := Lib.hid (show K (a'.put (some 169) (.string ⟨#[120, 46, 46, 46, 46, 46]⟩)) W from hK W (Below.refl _ _) trivial)
      clear hK ld lq hmem
      have c0 := cell_next hB hs0
      unfold Oper.wp
      simp only [execOp, e168]
      go_simp
      exact HK.out
    | 3, _ =>
      obtain ⟨ty, pos, aft, e, hdp⟩ := iop3
      rw [e] at ho
      obtain rfl := Option.some.inj ho
      intro a' hds W K hB lq ld hmem hK
      have e169 : a'.eval (.tmp 169) = .string ⟨#[120, 46, 46, 46, 46, 46]⟩ := by rw [eval_tmp]; exact ld 2 169 (List.all_eq_true.1 hdp 2 (by decide)) rfl
      have t169 := (eval_tmp a' 169).symm.trans e169
      have HK := Lib.hid (show K (a'.put (some 170) (.bool true)) W from hK W (Below.refl _ _) trivial)
      clear hK ld lq hmem
      unfold Oper.wp
      simp only [execOp, e169]
      go_simp
      exact HK.out
    | 4, _ =>
      obtain ⟨ty, pos, aft, e, hdp⟩ := iop4
      rw [e] at ho
      obtain rfl := Option.some.inj ho
      intro a' hds W K hB lq ld hmem hK
      have e170 : a'.eval (.tmp 170) = .bool true := by rw [eval_tmp]; exact ld 3 170 (List.all_eq_true.1 hdp 3 (by decide)) rfl
      have t170 := (eval_tmp a' 170).symm.trans e170
      have HK := Lib.hid (show K (a'.put (some 171) (.bool true)) W from hK W (Below.refl _ _) trivial)
      clear hK ld lq hmem
      unfold Oper.wp
      simp only [execOp, e170]
      exact HK.out
    | 5, _ =>
      obtain ⟨ty, pos, aft, e, hdp⟩ := iop5
      rw [e] at ho
      obtain rfl := Option.some.inj ho
      intro a' hds W K hB lq ld hmem hK
      have e4 : a'.eval (.tmp 4) = .slice (some ⟨gc, 0, none⟩) 2 qc := by rw [eval_tmp]; exact lq (4, .slice (some ⟨gc, 0, none⟩) 2 qc) (by simp)
      have t4 := (eval_tmp a' 4).symm.trans e4
      have HK := Lib.hid (show K (a'.put (some 172) (.slice (some ⟨gc, 0, none⟩) 2 qc)) W from hK W (Below.refl _ _) trivial)
      clear hK ld lq hmem
      unfold Oper.wp
      simp only [execOp, e4]
      exact HK.out
    | 6, _ =>
      obtain ⟨ty, pos, aft, e, hdp⟩ := iop6
      rw [e] at ho
      obtain rfl := Option.some.inj ho
      intro a' hds W K hB lq ld hmem hK
      have e172 : a'.eval (.tmp 172) = .slice (some ⟨gc, 0, none⟩) 2 qc := by rw [eval_tmp]; exact ld 5 172 (List.all_eq_true.1 hdp 5 (by decide)) rfl
      have t172 := (eval_tmp a' 172).symm.trans e172
      have HK := Lib.hid (show K (a'.put (some 173) (.pointer (some ⟨gc, 1, none⟩))) W from hK W (Below.refl _ _) trivial)
      clear hK ld lq hmem
      unfold Oper.wp
      simp only [execOp, e172]
      go_simp
      exact HK.out
    | 7, _ =>
      obtain ⟨ty, pos, aft, e, hdp⟩ := iop7
      rw [e] at ho
      obtain rfl := Option.some.inj ho
      intro a' hds W K hB lq ld hmem hK
      have e173 : a'.eval (.tmp 173) = .pointer (some ⟨gc, 1, none⟩) := by rw [eval_tmp]; exact ld 6 173 (List.all_eq_true.1 hdp 6 (by decide)) rfl
      have t173 := (eval_tmp a' 173).symm.trans e173
      have HK := Lib.hid (show K (a'.put (some 174) (.string ⟨#[46, 120, 120, 46, 120, 120]⟩)) W from hK W (Below.refl _ _) trivial)
      clear hK ld lq hmem
      have c0 := cell_next hB hs1
      unfold Oper.wp
      simp only [execOp, e173]
      go_simp
      exact HK.out
    | 8, _ =>
      obtain ⟨ty, pos, aft, e, hdp⟩ := iop8
      rw [e] at ho
      obtain rfl := Option.some.inj ho
      intro a' hds W K hB lq ld hmem hK
      have e174 : a'.eval (.tmp 174) = .string ⟨#[46, 120, 120, 46, 120, 120]⟩ := by rw [eval_tmp]; exact ld 7 174 (List.all_eq_true.1 hdp 7 (by decide)) rfl
      have t174 := (eval_tmp a' 174).symm.trans e174
      have HK := Lib.hid (show K (a'.put (some 175) (.bool true)) W from hK W (Below.refl _ _) trivial)
      clear hK ld lq hmem
      unfold Oper.wp
      simp only [execOp, e174]
      go_simp
      exact HK.out
    | 9, _ =>
      obtain ⟨ty, pos, aft, e, hdp⟩ := iop9
      rw [e] at ho
      obtain rfl := Option.some.inj ho
      intro a' hds W K hB lq ld hmem hK
      have e171 : a'.eval (.tmp 171) = .bool true := by rw [eval_tmp]; exact ld 4 171 (List.all_eq_true.1 hdp 4 (by decide)) rfl
      have t171 := (eval_tmp a' 171).symm.trans e171
      have e175 : a'.eval (.tmp 175) = .bool true := by rw [eval_tmp]; exact ld 8 175 (List.all_eq_true.1 hdp 8 (by decide)) rfl
      have t175 := (eval_tmp a' 175).symm.trans e175
      have HK := Lib.hid (show K (a'.put (some 176) (.bool true)) W from hK W (Below.refl _ _) trivial)
      clear hK ld lq hmem
      unfold Oper.wp
      simp only [execOp, e171, e175]
      go_simp
      exact HK.out
    | 10, _ =>
      obtain ⟨ty, pos, aft, e, hdp⟩ := iop10
      rw [e] at ho
      obtain rfl := Option.some.inj ho
      intro a' hds W K hB lq ld hmem hK
      have e176 : a'.eval (.tmp 176) = .bool true := by rw [eval_tmp]; exact ld 9 176 (List.all_eq_true.1 hdp 9 (by decide)) rfl
      have t176 := (eval_tmp a' 176).symm.trans e176
      have HK := Lib.hid (show K (a'.put (some 177) (.bool true)) W from hK W (Below.refl _ _) trivial)
      clear hK ld lq hmem
      unfold Oper.wp
      simp only [execOp, e176]
      exact HK.out
    | 11, _ =>
      obtain ⟨ty, pos, aft, e, hdp⟩ := iop11
      rw [e] at ho
      obtain rfl := Option.some.inj ho
      intro a' hds W K hB lq ld hmem hK
      have e6 : a'.eval (.tmp 6) = .pointer (some ⟨D, 0, none⟩) := by rw [eval_tmp]; exact lq (6, .pointer (some ⟨D, 0, none⟩)) (by simp)
      have t6 := (eval_tmp a' 6).symm.trans e6
      have HK := Lib.hid (show K (a'.put (some 178) (.agg #[.int .i64 4, .slice (some ⟨gd, 0, none⟩) 2 qd])) W from hK W (Below.refl _ _) trivial)
      clear hK ld lq hmem
      have c0 := (hD.next hB).cell' 0 rfl
      have c1 := (hD.next hB).cell' 1 rfl
      unfold Oper.wp
      simp only [execOp, e6]
      go_simp
      exact HK.out
    | 12, _ =>
      obtain ⟨ty, pos, aft, e, hdp⟩ := iop12
      rw [e] at ho
      obtain rfl := Option.some.inj ho
      intro a' hds W K hB lq ld hmem hK
      have HK := Lib.hid (show ∀ hh W', Below W.heap.size W W' → (memNats [1, 6]).P hh W' → (∀ b ∈ (memNats [1, 6]).bl hh, W.heap.size ≤ b ∧ b < W'.heap.size) → K (a'.put (some 179) (.slice (some ⟨hh.b, 0, none⟩) 2 2)) W' from fun hh W' h1 h2 h3 => by
        have h4 : K (a'.put (some 179) (region_kn15X gc qc gd qd D ga qa F gb qb G gl ql gx qx row 12 (updH hds 12 hh))) W' := hK hh W' h1 h2 h3 trivial
        simp only [region_kn15X, updH_same] at h4
        exact h4)
      clear hK ld lq hmem
      have hfin := Lib.hid (HK.out ⟨W.heap.size, 0, 0, 0, none⟩ _ ((Below.refl _ _).alloc (Nat.le_refl _) (.cells #[.int .i64 1, .int .i64 6] 3)) ⟨nats2 (a := 1) (b := 6) (BoxAt.new W #[.int .i64 1, .int .i64 6] 3), by simp⟩ (bd_one (Nat.le_refl _) (by simp)))
      clear HK
      unfold Oper.wp
      simp only [execOp]
      go_simp
      exact hfin.out
    | 13, _ =>
      obtain ⟨ty, pos, aft, e, hdp⟩ := iop13
      rw [e] at ho
      obtain rfl := Option.some.inj ho
      intro a' hds W K hB lq ld hmem hK
      have e179 : a'.eval (.tmp 179) = .slice (some ⟨(hds 12).b, 0, none⟩) 2 2 := by rw [eval_tmp]; exact ld 12 179 (List.all_eq_true.1 hdp 12 (by decide)) rfl
      have t179 := (eval_tmp a' 179).symm.trans e179
      have m179   := (hmem 12 (show 12 ∈ uOf region_kn15U 13 by decide) (by decide)).1
      have HK := Lib.hid (show ∀ W', Below W.heap.size W W' → K (a'.put (some 180) (.agg #[.int .i64 4, .slice (some ⟨(hds 12).b, 0, none⟩) 2 2])) W' from fun W' h => hK W' h trivial)
      clear hK ld lq hmem
      refine step_call (vals := #[.int .i64 4, .slice (some ⟨(hds 12).b, 0, none⟩) 2 2]) (by exact ⟨_, _, Try.func62, by kernel_rfl, rfl⟩) (by simp only [List.map_toArray, List.map_cons, List.map_nil, e179]; rfl) (call62 4 (some ⟨(hds 12).b, 0, none⟩) 2 2 W) ?_
      rintro e w' ⟨rfl, hb'⟩
      exact ⟨_, rfl, HK.out _ hb'⟩
    | 14, _ =>
      obtain ⟨ty, pos, aft, e, hdp⟩ := iop14
      rw [e] at ho
      obtain rfl := Option.some.inj ho
      intro a' hds W K hB lq ld hmem hK
      have e178 : a'.eval (.tmp 178) = .agg #[.int .i64 4, .slice (some ⟨gd, 0, none⟩) 2 qd] := by rw [eval_tmp]; exact ld 11 178 (List.all_eq_true.1 hdp 11 (by decide)) rfl
      have t178 := (eval_tmp a' 178).symm.trans e178
      have e180 : a'.eval (.tmp 180) = .agg #[.int .i64 4, .slice (some ⟨(hds 12).b, 0, none⟩) 2 2] := by rw [eval_tmp]; exact ld 13 180 (List.all_eq_true.1 hdp 13 (by decide)) rfl
      have t180 := (eval_tmp a' 180).symm.trans e180
      have m179   := (hmem 12 (show 12 ∈ uOf region_kn15U 14 by decide) (by decide)).1
      have HK := Lib.hid (show ∀ W', Below W.heap.size W W' → K (a'.put (some 181) (.bool true)) W' from fun W' h => hK W' h trivial)
      clear hK ld lq hmem
      refine step_call (vals := #[.agg #[.int .i64 4, .slice (some ⟨gd, 0, none⟩) 2 qd], .agg #[.int .i64 4, .slice (some ⟨(hds 12).b, 0, none⟩) 2 2]]) (by exact ⟨_, _, Try.func40, by kernel_rfl, rfl⟩) (by simp only [List.map_toArray, List.map_cons, List.map_nil, e178, e180]) (same_lit 4 gd (hds 12).b 2 qd 2 [1, 6] W rfl (hd6.next hB).at' (hd6.next hB).lt m179.1 m179.2) ?_
      rintro e w' ⟨rfl, hb'⟩
      exact ⟨_, rfl, HK.out _ hb'⟩
    | 15, _ =>
      obtain ⟨ty, pos, aft, e, hdp⟩ := iop15
      rw [e] at ho
      obtain rfl := Option.some.inj ho
      intro a' hds W K hB lq ld hmem hK
      have e177 : a'.eval (.tmp 177) = .bool true := by rw [eval_tmp]; exact ld 10 177 (List.all_eq_true.1 hdp 10 (by decide)) rfl
      have t177 := (eval_tmp a' 177).symm.trans e177
      have e181 : a'.eval (.tmp 181) = .bool true := by rw [eval_tmp]; exact ld 14 181 (List.all_eq_true.1 hdp 14 (by decide)) rfl
      have t181 := (eval_tmp a' 181).symm.trans e181
      have HK := Lib.hid (show K (a'.put (some 182) (.bool true)) W from hK W (Below.refl _ _) trivial)
      clear hK ld lq hmem
      unfold Oper.wp
      simp only [execOp, e177, e181]
      go_simp
      exact HK.out
    | 16, _ =>
      obtain ⟨ty, pos, aft, e, hdp⟩ := iop16
      rw [e] at ho
      obtain rfl := Option.some.inj ho
      intro a' hds W K hB lq ld hmem hK
      have e182 : a'.eval (.tmp 182) = .bool true := by rw [eval_tmp]; exact ld 15 182 (List.all_eq_true.1 hdp 15 (by decide)) rfl
      have t182 := (eval_tmp a' 182).symm.trans e182
      have HK := Lib.hid (show K (a'.put (some 183) (.bool true)) W from hK W (Below.refl _ _) trivial)
      clear hK ld lq hmem
      unfold Oper.wp
      simp only [execOp, e182]
      exact HK.out
    | 17, _ =>
      obtain ⟨ty, pos, aft, e, hdp⟩ := iop17
      rw [e] at ho
      obtain rfl := Option.some.inj ho
      intro a' hds W K hB lq ld hmem hK
      have e9 : a'.eval (.tmp 9) = .int .i64 5 := by rw [eval_tmp]; exact lq (9, .int .i64 5) (by simp)
      have t9 := (eval_tmp a' 9).symm.trans e9
      have HK := Lib.hid (show K (a'.put (some 184) (.int .i64 5)) W from hK W (Below.refl _ _) trivial)
      clear hK ld lq hmem
      unfold Oper.wp
      simp only [execOp, e9]
      exact HK.out
    | 18, _ =>
      obtain ⟨ty, pos, aft, e, hdp⟩ := iop18
      rw [e] at ho
      obtain rfl := Option.some.inj ho
      intro a' hds W K hB lq ld hmem hK
      have e184 : a'.eval (.tmp 184) = .int .i64 5 := by rw [eval_tmp]; exact ld 17 184 (List.all_eq_true.1 hdp 17 (by decide)) rfl
      have t184 := (eval_tmp a' 184).symm.trans e184
      have HK := Lib.hid (show K (a'.put (some 185) (.bool true)) W from hK W (Below.refl _ _) trivial)
      clear hK ld lq hmem
      unfold Oper.wp
      simp only [execOp, e184]
      go_simp
      exact HK.out
    | 19, _ =>
      obtain ⟨ty, pos, aft, e, hdp⟩ := iop19
      rw [e] at ho
      obtain rfl := Option.some.inj ho
      intro a' hds W K hB lq ld hmem hK
      have e183 : a'.eval (.tmp 183) = .bool true := by rw [eval_tmp]; exact ld 16 183 (List.all_eq_true.1 hdp 16 (by decide)) rfl
      have t183 := (eval_tmp a' 183).symm.trans e183
      have e185 : a'.eval (.tmp 185) = .bool true := by rw [eval_tmp]; exact ld 18 185 (List.all_eq_true.1 hdp 18 (by decide)) rfl
      have t185 := (eval_tmp a' 185).symm.trans e185
      have HK := Lib.hid (show K (a'.put (some 186) (.bool true)) W from hK W (Below.refl _ _) trivial)
      clear hK ld lq hmem
      unfold Oper.wp
      simp only [execOp, e183, e185]
      go_simp
      exact HK.out
    | 20, _ =>
      obtain ⟨ty, pos, aft, e, hdp⟩ := iop20
      rw [e] at ho
      obtain rfl := Option.some.inj ho
      intro a' hds W K hB lq ld hmem hK
      have e186 : a'.eval (.tmp 186) = .bool true := by rw [eval_tmp]; exact ld 19 186 (List.all_eq_true.1 hdp 19 (by decide)) rfl
      have t186 := (eval_tmp a' 186).symm.trans e186
      have HK := Lib.hid (show K (a'.put (some 187) (.bool true)) W from hK W (Below.refl _ _) trivial)
      clear hK ld lq hmem
      unfold Oper.wp
      simp only [execOp, e186]
      exact HK.out
    | 21, _ =>
      obtain ⟨ty, pos, aft, e, hdp⟩ := iop21
      rw [e] at ho
      obtain rfl := Option.some.inj ho
      intro a' hds W K hB lq ld hmem hK
      have e10 : a'.eval (.tmp 10) = .int .i64 1 := by rw [eval_tmp]; exact lq (10, .int .i64 1) (by simp)
      have t10 := (eval_tmp a' 10).symm.trans e10
      have HK := Lib.hid (show K (a'.put (some 188) (.int .i64 1)) W from hK W (Below.refl _ _) trivial)
      clear hK ld lq hmem
      unfold Oper.wp
      simp only [execOp, e10]
      exact HK.out
    | 22, _ =>
      obtain ⟨ty, pos, aft, e, hdp⟩ := iop22
      rw [e] at ho
      obtain rfl := Option.some.inj ho
      intro a' hds W K hB lq ld hmem hK
      have e188 : a'.eval (.tmp 188) = .int .i64 1 := by rw [eval_tmp]; exact ld 21 188 (List.all_eq_true.1 hdp 21 (by decide)) rfl
      have t188 := (eval_tmp a' 188).symm.trans e188
      have HK := Lib.hid (show K (a'.put (some 189) (.bool true)) W from hK W (Below.refl _ _) trivial)
      clear hK ld lq hmem
      unfold Oper.wp
      simp only [execOp, e188]
      go_simp
      exact HK.out
    | 23, _ =>
      obtain ⟨ty, pos, aft, e, hdp⟩ := iop23
      rw [e] at ho
      obtain rfl := Option.some.inj ho
      intro a' hds W K hB lq ld hmem hK
      have e187 : a'.eval (.tmp 187) = .bool true := by rw [eval_tmp]; exact ld 20 187 (List.all_eq_true.1 hdp 20 (by decide)) rfl
      have t187 := (eval_tmp a' 187).symm.trans e187
      have e189 : a'.eval (.tmp 189) = .bool true := by rw [eval_tmp]; exact ld 22 189 (List.all_eq_true.1 hdp 22 (by decide)) rfl
      have t189 := (eval_tmp a' 189).symm.trans e189
      have HK := Lib.hid (show K (a'.put (some 190) (.bool true)) W from hK W (Below.refl _ _) trivial)
      clear hK ld lq hmem
      unfold Oper.wp
      simp only [execOp, e187, e189]
      go_simp
      exact HK.out
    | 24, _ =>
      obtain ⟨ty, pos, aft, e, hdp⟩ := iop24
      rw [e] at ho
      obtain rfl := Option.some.inj ho
      intro a' hds W K hB lq ld hmem hK
      have e190 : a'.eval (.tmp 190) = .bool true := by rw [eval_tmp]; exact ld 23 190 (List.all_eq_true.1 hdp 23 (by decide)) rfl
      have t190 := (eval_tmp a' 190).symm.trans e190
      have HK := Lib.hid (show K (a'.put (some 191) (.bool true)) W from hK W (Below.refl _ _) trivial)
      clear hK ld lq hmem
      unfold Oper.wp
      simp only [execOp, e190]
      exact HK.out
    | 25, _ =>
      obtain ⟨ty, pos, aft, e, hdp⟩ := iop25
      rw [e] at ho
      obtain rfl := Option.some.inj ho
      intro a' hds W K hB lq ld hmem hK
      have e12 : a'.eval (.tmp 12) = .pointer (some ⟨F, 0, none⟩) := by rw [eval_tmp]; exact lq (12, .pointer (some ⟨F, 0, none⟩)) (by simp)
      have t12 := (eval_tmp a' 12).symm.trans e12
      have HK := Lib.hid (show K (a'.put (some 192) (.pointer (some ⟨F, 0, none⟩))) W from hK W (Below.refl _ _) trivial)
      clear hK ld lq hmem
      unfold Oper.wp
      simp only [execOp, e12]
      go_simp
      exact HK.out
    | 26, _ =>
      obtain ⟨ty, pos, aft, e, hdp⟩ := iop26
      rw [e] at ho
      obtain rfl := Option.some.inj ho
      intro a' hds W K hB lq ld hmem hK
      have e192 : a'.eval (.tmp 192) = .pointer (some ⟨F, 0, none⟩) := by rw [eval_tmp]; exact ld 25 192 (List.all_eq_true.1 hdp 25 (by decide)) rfl
      have t192 := (eval_tmp a' 192).symm.trans e192
      have HK := Lib.hid (show K (a'.put (some 193) (.int .i64 3)) W from hK W (Below.refl _ _) trivial)
      clear hK ld lq hmem
      have c0 := (hF.next hB).cell' 0 rfl
      unfold Oper.wp
      simp only [execOp, e192]
      go_simp
      exact HK.out
    | 27, _ =>
      obtain ⟨ty, pos, aft, e, hdp⟩ := iop27
      rw [e] at ho
      obtain rfl := Option.some.inj ho
      intro a' hds W K hB lq ld hmem hK
      have e193 : a'.eval (.tmp 193) = .int .i64 3 := by rw [eval_tmp]; exact ld 26 193 (List.all_eq_true.1 hdp 26 (by decide)) rfl
      have t193 := (eval_tmp a' 193).symm.trans e193
      have HK := Lib.hid (show K (a'.put (some 194) (.bool true)) W from hK W (Below.refl _ _) trivial)
      clear hK ld lq hmem
      unfold Oper.wp
      simp only [execOp, e193]
      go_simp
      exact HK.out
    | 28, _ =>
      obtain ⟨ty, pos, aft, e, hdp⟩ := iop28
      rw [e] at ho
      obtain rfl := Option.some.inj ho
      intro a' hds W K hB lq ld hmem hK
      have e191 : a'.eval (.tmp 191) = .bool true := by rw [eval_tmp]; exact ld 24 191 (List.all_eq_true.1 hdp 24 (by decide)) rfl
      have t191 := (eval_tmp a' 191).symm.trans e191
      have e194 : a'.eval (.tmp 194) = .bool true := by rw [eval_tmp]; exact ld 27 194 (List.all_eq_true.1 hdp 27 (by decide)) rfl
      have t194 := (eval_tmp a' 194).symm.trans e194
      have HK := Lib.hid (show K (a'.put (some 195) (.bool true)) W from hK W (Below.refl _ _) trivial)
      clear hK ld lq hmem
      unfold Oper.wp
      simp only [execOp, e191, e194]
      go_simp
      exact HK.out
    | 29, _ =>
      obtain ⟨ty, pos, aft, e, hdp⟩ := iop29
      rw [e] at ho
      obtain rfl := Option.some.inj ho
      intro a' hds W K hB lq ld hmem hK
      have e195 : a'.eval (.tmp 195) = .bool true := by rw [eval_tmp]; exact ld 28 195 (List.all_eq_true.1 hdp 28 (by decide)) rfl
      have t195 := (eval_tmp a' 195).symm.trans e195
      have HK := Lib.hid (show K (a'.put (some 196) (.bool true)) W from hK W (Below.refl _ _) trivial)
      clear hK ld lq hmem
      unfold Oper.wp
      simp only [execOp, e195]
      exact HK.out
    | 30, _ =>
      obtain ⟨ty, pos, aft, e, hdp⟩ := iop30
      rw [e] at ho
      obtain rfl := Option.some.inj ho
      intro a' hds W K hB lq ld hmem hK
      have e12 : a'.eval (.tmp 12) = .pointer (some ⟨F, 0, none⟩) := by rw [eval_tmp]; exact lq (12, .pointer (some ⟨F, 0, none⟩)) (by simp)
      have t12 := (eval_tmp a' 12).symm.trans e12
      have HK := Lib.hid (show K (a'.put (some 197) (.pointer (some ⟨F, 1, none⟩))) W from hK W (Below.refl _ _) trivial)
      clear hK ld lq hmem
      unfold Oper.wp
      simp only [execOp, e12]
      go_simp
      exact HK.out
    | 31, _ =>
      obtain ⟨ty, pos, aft, e, hdp⟩ := iop31
      rw [e] at ho
      obtain rfl := Option.some.inj ho
      intro a' hds W K hB lq ld hmem hK
      have e197 : a'.eval (.tmp 197) = .pointer (some ⟨F, 1, none⟩) := by rw [eval_tmp]; exact ld 30 197 (List.all_eq_true.1 hdp 30 (by decide)) rfl
      have t197 := (eval_tmp a' 197).symm.trans e197
      have HK := Lib.hid (show K (a'.put (some 198) (.slice (some ⟨ga, 0, none⟩) 4 qa)) W from hK W (Below.refl _ _) trivial)
      clear hK ld lq hmem
      have c1 := (hF.next hB).cell' 1 rfl
      unfold Oper.wp
      simp only [execOp, e197]
      go_simp
      exact HK.out
    | 32, _ =>
      obtain ⟨ty, pos, aft, e, hdp⟩ := iop32
      rw [e] at ho
      obtain rfl := Option.some.inj ho
      intro a' hds W K hB lq ld hmem hK
      have e198 : a'.eval (.tmp 198) = .slice (some ⟨ga, 0, none⟩) 4 qa := by rw [eval_tmp]; exact ld 31 198 (List.all_eq_true.1 hdp 31 (by decide)) rfl
      have t198 := (eval_tmp a' 198).symm.trans e198
      have HK := Lib.hid (show K (a'.put (some 199) (.pointer (some ⟨ga, 3, none⟩))) W from hK W (Below.refl _ _) trivial)
      clear hK ld lq hmem
      unfold Oper.wp
      simp only [execOp, e198]
      go_simp
      exact HK.out
    | 33, _ =>
      obtain ⟨ty, pos, aft, e, hdp⟩ := iop33
      rw [e] at ho
      obtain rfl := Option.some.inj ho
      intro a' hds W K hB lq ld hmem hK
      have e199 : a'.eval (.tmp 199) = .pointer (some ⟨ga, 3, none⟩) := by rw [eval_tmp]; exact ld 32 199 (List.all_eq_true.1 hdp 32 (by decide)) rfl
      have t199 := (eval_tmp a' 199).symm.trans e199
      have HK := Lib.hid (show K (a'.put (some 200) (.int .i64 0)) W from hK W (Below.refl _ _) trivial)
      clear hK ld lq hmem
      have c0 := cell_next hB ha3
      unfold Oper.wp
      simp only [execOp, e199]
      go_simp
      exact HK.out
    | 34, _ =>
      obtain ⟨ty, pos, aft, e, hdp⟩ := iop34
      rw [e] at ho
      obtain rfl := Option.some.inj ho
      intro a' hds W K hB lq ld hmem hK
      have e200 : a'.eval (.tmp 200) = .int .i64 0 := by rw [eval_tmp]; exact ld 33 200 (List.all_eq_true.1 hdp 33 (by decide)) rfl
      have t200 := (eval_tmp a' 200).symm.trans e200
      have HK := Lib.hid (show K (a'.put (some 201) (.bool true)) W from hK W (Below.refl _ _) trivial)
      clear hK ld lq hmem
      unfold Oper.wp
      simp only [execOp, e200]
      go_simp
      exact HK.out
    | 35, _ =>
      obtain ⟨ty, pos, aft, e, hdp⟩ := iop35
      rw [e] at ho
      obtain rfl := Option.some.inj ho
      intro a' hds W K hB lq ld hmem hK
      have e196 : a'.eval (.tmp 196) = .bool true := by rw [eval_tmp]; exact ld 29 196 (List.all_eq_true.1 hdp 29 (by decide)) rfl
      have t196 := (eval_tmp a' 196).symm.trans e196
      have e201 : a'.eval (.tmp 201) = .bool true := by rw [eval_tmp]; exact ld 34 201 (List.all_eq_true.1 hdp 34 (by decide)) rfl
      have t201 := (eval_tmp a' 201).symm.trans e201
      have HK := Lib.hid (show K (a'.put (some 202) (.bool true)) W from hK W (Below.refl _ _) trivial)
      clear hK ld lq hmem
      unfold Oper.wp
      simp only [execOp, e196, e201]
      go_simp
      exact HK.out
    | 36, _ =>
      obtain ⟨ty, pos, aft, e, hdp⟩ := iop36
      rw [e] at ho
      obtain rfl := Option.some.inj ho
      intro a' hds W K hB lq ld hmem hK
      have e202 : a'.eval (.tmp 202) = .bool true := by rw [eval_tmp]; exact ld 35 202 (List.all_eq_true.1 hdp 35 (by decide)) rfl
      have t202 := (eval_tmp a' 202).symm.trans e202
      have HK := Lib.hid (show K (a'.put (some 203) (.bool true)) W from hK W (Below.refl _ _) trivial)
      clear hK ld lq hmem
      unfold Oper.wp
      simp only [execOp, e202]
      exact HK.out
    | 37, _ =>
      obtain ⟨ty, pos, aft, e, hdp⟩ := iop37
      rw [e] at ho
      obtain rfl := Option.some.inj ho
      intro a' hds W K hB lq ld hmem hK
      have e13 : a'.eval (.tmp 13) = .pointer (some ⟨G, 0, none⟩) := by rw [eval_tmp]; exact lq (13, .pointer (some ⟨G, 0, none⟩)) (by simp)
      have t13 := (eval_tmp a' 13).symm.trans e13
      have HK := Lib.hid (show K (a'.put (some 204) (.agg #[.int .i64 3, .slice (some ⟨gb, 0, none⟩) 2 qb])) W from hK W (Below.refl _ _) trivial)
      clear hK ld lq hmem
      have c0 := (hG.next hB).cell' 0 rfl
      have c1 := (hG.next hB).cell' 1 rfl
      unfold Oper.wp
      simp only [execOp, e13]
      go_simp
      exact HK.out
    | 38, _ =>
      obtain ⟨ty, pos, aft, e, hdp⟩ := iop38
      rw [e] at ho
      obtain rfl := Option.some.inj ho
      intro a' hds W K hB lq ld hmem hK
      have HK := Lib.hid (show ∀ hh W', Below W.heap.size W W' → (memNats [1, 3]).P hh W' → (∀ b ∈ (memNats [1, 3]).bl hh, W.heap.size ≤ b ∧ b < W'.heap.size) → K (a'.put (some 205) (.slice (some ⟨hh.b, 0, none⟩) 2 2)) W' from fun hh W' h1 h2 h3 => by
        have h4 : K (a'.put (some 205) (region_kn15X gc qc gd qd D ga qa F gb qb G gl ql gx qx row 38 (updH hds 38 hh))) W' := hK hh W' h1 h2 h3 trivial
        simp only [region_kn15X, updH_same] at h4
        exact h4)
      clear hK ld lq hmem
      have hfin := Lib.hid (HK.out ⟨W.heap.size, 0, 0, 0, none⟩ _ ((Below.refl _ _).alloc (Nat.le_refl _) (.cells #[.int .i64 1, .int .i64 3] 3)) ⟨nats2 (a := 1) (b := 3) (BoxAt.new W #[.int .i64 1, .int .i64 3] 3), by simp⟩ (bd_one (Nat.le_refl _) (by simp)))
      clear HK
      unfold Oper.wp
      simp only [execOp]
      go_simp
      exact hfin.out
    | 39, _ =>
      obtain ⟨ty, pos, aft, e, hdp⟩ := iop39
      rw [e] at ho
      obtain rfl := Option.some.inj ho
      intro a' hds W K hB lq ld hmem hK
      have e205 : a'.eval (.tmp 205) = .slice (some ⟨(hds 38).b, 0, none⟩) 2 2 := by rw [eval_tmp]; exact ld 38 205 (List.all_eq_true.1 hdp 38 (by decide)) rfl
      have t205 := (eval_tmp a' 205).symm.trans e205
      have m179   := (hmem 12 (show 12 ∈ uOf region_kn15U 39 by decide) (by decide)).1
      have m205   := (hmem 38 (show 38 ∈ uOf region_kn15U 39 by decide) (by decide)).1
      have HK := Lib.hid (show ∀ W', Below W.heap.size W W' → K (a'.put (some 206) (.agg #[.int .i64 3, .slice (some ⟨(hds 38).b, 0, none⟩) 2 2])) W' from fun W' h => hK W' h trivial)
      clear hK ld lq hmem
      refine step_call (vals := #[.int .i64 3, .slice (some ⟨(hds 38).b, 0, none⟩) 2 2]) (by exact ⟨_, _, Try.func62, by kernel_rfl, rfl⟩) (by simp only [List.map_toArray, List.map_cons, List.map_nil, e205]; rfl) (call62 3 (some ⟨(hds 38).b, 0, none⟩) 2 2 W) ?_
      rintro e w' ⟨rfl, hb'⟩
      exact ⟨_, rfl, HK.out _ hb'⟩
    | 40, _ =>
      obtain ⟨ty, pos, aft, e, hdp⟩ := iop40
      rw [e] at ho
      obtain rfl := Option.some.inj ho
      intro a' hds W K hB lq ld hmem hK
      have e204 : a'.eval (.tmp 204) = .agg #[.int .i64 3, .slice (some ⟨gb, 0, none⟩) 2 qb] := by rw [eval_tmp]; exact ld 37 204 (List.all_eq_true.1 hdp 37 (by decide)) rfl
      have t204 := (eval_tmp a' 204).symm.trans e204
      have e206 : a'.eval (.tmp 206) = .agg #[.int .i64 3, .slice (some ⟨(hds 38).b, 0, none⟩) 2 2] := by rw [eval_tmp]; exact ld 39 206 (List.all_eq_true.1 hdp 39 (by decide)) rfl
      have t206 := (eval_tmp a' 206).symm.trans e206
      have m179   := (hmem 12 (show 12 ∈ uOf region_kn15U 40 by decide) (by decide)).1
      have m205   := (hmem 38 (show 38 ∈ uOf region_kn15U 40 by decide) (by decide)).1
      have HK := Lib.hid (show ∀ W', Below W.heap.size W W' → K (a'.put (some 207) (.bool true)) W' from fun W' h => hK W' h trivial)
      clear hK ld lq hmem
      refine step_call (vals := #[.agg #[.int .i64 3, .slice (some ⟨gb, 0, none⟩) 2 qb], .agg #[.int .i64 3, .slice (some ⟨(hds 38).b, 0, none⟩) 2 2]]) (by exact ⟨_, _, Try.func40, by kernel_rfl, rfl⟩) (by simp only [List.map_toArray, List.map_cons, List.map_nil, e204, e206]) (same_lit 3 gb (hds 38).b 2 qb 2 [1, 3] W rfl (hb3.next hB).at' (hb3.next hB).lt m205.1 m205.2) ?_
      rintro e w' ⟨rfl, hb'⟩
      exact ⟨_, rfl, HK.out _ hb'⟩
    | 41, _ =>
      obtain ⟨ty, pos, aft, e, hdp⟩ := iop41
      rw [e] at ho
      obtain rfl := Option.some.inj ho
      intro a' hds W K hB lq ld hmem hK
      have e203 : a'.eval (.tmp 203) = .bool true := by rw [eval_tmp]; exact ld 36 203 (List.all_eq_true.1 hdp 36 (by decide)) rfl
      have t203 := (eval_tmp a' 203).symm.trans e203
      have e207 : a'.eval (.tmp 207) = .bool true := by rw [eval_tmp]; exact ld 40 207 (List.all_eq_true.1 hdp 40 (by decide)) rfl
      have t207 := (eval_tmp a' 207).symm.trans e207
      have HK := Lib.hid (show K (a'.put (some 208) (.bool true)) W from hK W (Below.refl _ _) trivial)
      clear hK ld lq hmem
      unfold Oper.wp
      simp only [execOp, e203, e207]
      go_simp
      exact HK.out
    | 42, _ =>
      obtain ⟨ty, pos, aft, e, hdp⟩ := iop42
      rw [e] at ho
      obtain rfl := Option.some.inj ho
      intro a' hds W K hB lq ld hmem hK
      have e208 : a'.eval (.tmp 208) = .bool true := by rw [eval_tmp]; exact ld 41 208 (List.all_eq_true.1 hdp 41 (by decide)) rfl
      have t208 := (eval_tmp a' 208).symm.trans e208
      have HK := Lib.hid (show K (a'.put (some 209) (.bool true)) W from hK W (Below.refl _ _) trivial)
      clear hK ld lq hmem
      unfold Oper.wp
      simp only [execOp, e208]
      exact HK.out
    | 43, _ =>
      obtain ⟨ty, pos, aft, e, hdp⟩ := iop43
      rw [e] at ho
      obtain rfl := Option.some.inj ho
      intro a' hds W K hB lq ld hmem hK
      have e15 : a'.eval (.tmp 15) = .slice (some ⟨gl, 0, none⟩) 3 ql := by rw [eval_tmp]; exact lq (15, .slice (some ⟨gl, 0, none⟩) 3 ql) (by simp)
      have t15 := (eval_tmp a' 15).symm.trans e15
      have HK := Lib.hid (show K (a'.put (some 210) (.slice (some ⟨gl, 0, none⟩) 3 ql)) W from hK W (Below.refl _ _) trivial)
      clear hK ld lq hmem
      unfold Oper.wp
      simp only [execOp, e15]
      exact HK.out
    | 44, _ =>
      obtain ⟨ty, pos, aft, e, hdp⟩ := iop44
      rw [e] at ho
      obtain rfl := Option.some.inj ho
      intro a' hds W K hB lq ld hmem hK
      have e210 : a'.eval (.tmp 210) = .slice (some ⟨gl, 0, none⟩) 3 ql := by rw [eval_tmp]; exact ld 43 210 (List.all_eq_true.1 hdp 43 (by decide)) rfl
      have t210 := (eval_tmp a' 210).symm.trans e210
      have HK := Lib.hid (show K (a'.put (some 211) (.pointer (some ⟨gl, 2, none⟩))) W from hK W (Below.refl _ _) trivial)
      clear hK ld lq hmem
      unfold Oper.wp
      simp only [execOp, e210]
      go_simp
      exact HK.out
    | 45, _ =>
      obtain ⟨ty, pos, aft, e, hdp⟩ := iop45
      rw [e] at ho
      obtain rfl := Option.some.inj ho
      intro a' hds W K hB lq ld hmem hK
      have e211 : a'.eval (.tmp 211) = .pointer (some ⟨gl, 2, none⟩) := by rw [eval_tmp]; exact ld 44 211 (List.all_eq_true.1 hdp 44 (by decide)) rfl
      have t211 := (eval_tmp a' 211).symm.trans e211
      have HK := Lib.hid (show K (a'.put (some 212) (.int .i64 2)) W from hK W (Below.refl _ _) trivial)
      clear hK ld lq hmem
      have c0 := cell_next hB hl2
      unfold Oper.wp
      simp only [execOp, e211]
      go_simp
      exact HK.out
    | 46, _ =>
      obtain ⟨ty, pos, aft, e, hdp⟩ := iop46
      rw [e] at ho
      obtain rfl := Option.some.inj ho
      intro a' hds W K hB lq ld hmem hK
      have e212 : a'.eval (.tmp 212) = .int .i64 2 := by rw [eval_tmp]; exact ld 45 212 (List.all_eq_true.1 hdp 45 (by decide)) rfl
      have t212 := (eval_tmp a' 212).symm.trans e212
      have HK := Lib.hid (show K (a'.put (some 213) (.bool true)) W from hK W (Below.refl _ _) trivial)
      clear hK ld lq hmem
      unfold Oper.wp
      simp only [execOp, e212]
      go_simp
      exact HK.out
    | 47, _ =>
      obtain ⟨ty, pos, aft, e, hdp⟩ := iop47
      rw [e] at ho
      obtain rfl := Option.some.inj ho
      intro a' hds W K hB lq ld hmem hK
      have e209 : a'.eval (.tmp 209) = .bool true := by rw [eval_tmp]; exact ld 42 209 (List.all_eq_true.1 hdp 42 (by decide)) rfl
      have t209 := (eval_tmp a' 209).symm.trans e209
      have e213 : a'.eval (.tmp 213) = .bool true := by rw [eval_tmp]; exact ld 46 213 (List.all_eq_true.1 hdp 46 (by decide)) rfl
      have t213 := (eval_tmp a' 213).symm.trans e213
      have HK := Lib.hid (show K (a'.put (some 214) (.bool true)) W from hK W (Below.refl _ _) trivial)
      clear hK ld lq hmem
      unfold Oper.wp
      simp only [execOp, e209, e213]
      go_simp
      exact HK.out
    | 48, _ =>
      obtain ⟨ty, pos, aft, e, hdp⟩ := iop48
      rw [e] at ho
      obtain rfl := Option.some.inj ho
      intro a' hds W K hB lq ld hmem hK
      have e214 : a'.eval (.tmp 214) = .bool true := by rw [eval_tmp]; exact ld 47 214 (List.all_eq_true.1 hdp 47 (by decide)) rfl
      have t214 := (eval_tmp a' 214).symm.trans e214
      have HK := Lib.hid (show K (a'.put (some 215) (.bool true)) W from hK W (Below.refl _ _) trivial)
      clear hK ld lq hmem
      unfold Oper.wp
      simp only [execOp, e214]
      exact HK.out
    | 49, _ =>
      obtain ⟨ty, pos, aft, e, hdp⟩ := iop49
      rw [e] at ho
      obtain rfl := Option.some.inj ho
      intro a' hds W K hB lq ld hmem hK
      have e17 : a'.eval (.tmp 17) = .slice (some ⟨gx, 0, none⟩) 1 qx := by rw [eval_tmp]; exact lq (17, .slice (some ⟨gx, 0, none⟩) 1 qx) (by simp)
      have t17 := (eval_tmp a' 17).symm.trans e17
      have HK := Lib.hid (show K (a'.put (some 216) (.slice (some ⟨gx, 0, none⟩) 1 qx)) W from hK W (Below.refl _ _) trivial)
      clear hK ld lq hmem
      unfold Oper.wp
      simp only [execOp, e17]
      exact HK.out
    | 50, _ =>
      obtain ⟨ty, pos, aft, e, hdp⟩ := iop50
      rw [e] at ho
      obtain rfl := Option.some.inj ho
      intro a' hds W K hB lq ld hmem hK
      have e216 : a'.eval (.tmp 216) = .slice (some ⟨gx, 0, none⟩) 1 qx := by rw [eval_tmp]; exact ld 49 216 (List.all_eq_true.1 hdp 49 (by decide)) rfl
      have t216 := (eval_tmp a' 216).symm.trans e216
      have HK := Lib.hid (show K (a'.put (some 217) (.pointer (some ⟨gx, 0, none⟩))) W from hK W (Below.refl _ _) trivial)
      clear hK ld lq hmem
      unfold Oper.wp
      simp only [execOp, e216]
      go_simp
      exact HK.out
    | 51, _ =>
      obtain ⟨ty, pos, aft, e, hdp⟩ := iop51
      rw [e] at ho
      obtain rfl := Option.some.inj ho
      intro a' hds W K hB lq ld hmem hK
      have e217 : a'.eval (.tmp 217) = .pointer (some ⟨gx, 0, none⟩) := by rw [eval_tmp]; exact ld 50 217 (List.all_eq_true.1 hdp 50 (by decide)) rfl
      have t217 := (eval_tmp a' 217).symm.trans e217
      have HK := Lib.hid (show K (a'.put (some 218) (.agg #[.int .i64 0, .int .i64 4, .int .i64 5, .bool true])) W from hK W (Below.refl _ _) trivial)
      clear hK ld lq hmem
      have c0 := cell_next hB hx0
      have c1 := cell_next hB hx1
      have c2 := cell_next hB hx2
      have c3 := cell_next hB hx3
      unfold Oper.wp
      simp only [execOp, e217]
      go_simp
      exact HK.out
    | 52, _ =>
      obtain ⟨ty, pos, aft, e, hdp⟩ := iop52
      rw [e] at ho
      obtain rfl := Option.some.inj ho
      intro a' hds W K hB lq ld hmem hK
      have HK := Lib.hid (show K (a'.put (some 219) (.agg #[.int .i64 0, .int .i64 4, .int .i64 5, .bool true])) W from hK W (Below.refl _ _) trivial)
      clear hK ld lq hmem
      unfold Oper.wp
      simp only [execOp]
      go_simp
      exact HK.out
    | 53, _ =>
      obtain ⟨ty, pos, aft, e, hdp⟩ := iop53
      rw [e] at ho
      obtain rfl := Option.some.inj ho
      intro a' hds W K hB lq ld hmem hK
      have e218 : a'.eval (.tmp 218) = .agg #[.int .i64 0, .int .i64 4, .int .i64 5, .bool true] := by rw [eval_tmp]; exact ld 51 218 (List.all_eq_true.1 hdp 51 (by decide)) rfl
      have t218 := (eval_tmp a' 218).symm.trans e218
      have e219 : a'.eval (.tmp 219) = .agg #[.int .i64 0, .int .i64 4, .int .i64 5, .bool true] := by rw [eval_tmp]; exact ld 52 219 (List.all_eq_true.1 hdp 52 (by decide)) rfl
      have t219 := (eval_tmp a' 219).symm.trans e219
      have HK := Lib.hid (show K (a'.put (some 220) (.bool true)) W from hK W (Below.refl _ _) trivial)
      clear hK ld lq hmem
      have c0 := fl_eq W
      unfold Oper.wp
      simp only [execOp, e218, e219]
      go_simp
      exact HK.out
    | 54, _ =>
      obtain ⟨ty, pos, aft, e, hdp⟩ := iop54
      rw [e] at ho
      obtain rfl := Option.some.inj ho
      intro a' hds W K hB lq ld hmem hK
      have e215 : a'.eval (.tmp 215) = .bool true := by rw [eval_tmp]; exact ld 48 215 (List.all_eq_true.1 hdp 48 (by decide)) rfl
      have t215 := (eval_tmp a' 215).symm.trans e215
      have e220 : a'.eval (.tmp 220) = .bool true := by rw [eval_tmp]; exact ld 53 220 (List.all_eq_true.1 hdp 53 (by decide)) rfl
      have t220 := (eval_tmp a' 220).symm.trans e220
      have HK := Lib.hid (show K (a'.put (some 221) (.bool true)) W from hK W (Below.refl _ _) trivial)
      clear hK ld lq hmem
      unfold Oper.wp
      simp only [execOp, e215, e220]
      go_simp
      exact HK.out
    | 55, _ =>
      obtain ⟨ty, pos, aft, e, hdp⟩ := iop55
      rw [e] at ho
      obtain rfl := Option.some.inj ho
      intro a' hds W K hB lq ld hmem hK
      have e221 : a'.eval (.tmp 221) = .bool true := by rw [eval_tmp]; exact ld 54 221 (List.all_eq_true.1 hdp 54 (by decide)) rfl
      have t221 := (eval_tmp a' 221).symm.trans e221
      have HK := Lib.hid (show K (a'.put (some 222) (.bool true)) W from hK W (Below.refl _ _) trivial)
      clear hK ld lq hmem
      unfold Oper.wp
      simp only [execOp, e221]
      exact HK.out
    | 56, _ =>
      obtain ⟨ty, pos, aft, e, hdp⟩ := iop56
      rw [e] at ho
      obtain rfl := Option.some.inj ho
      intro a' hds W K hB lq ld hmem hK
      have e19 : a'.eval (.tmp 19) = .int .i64 3 := by rw [eval_tmp]; exact lq (19, .int .i64 3) (by simp)
      have t19 := (eval_tmp a' 19).symm.trans e19
      have HK := Lib.hid (show K (a'.put (some 223) (.int .i64 3)) W from hK W (Below.refl _ _) trivial)
      clear hK ld lq hmem
      unfold Oper.wp
      simp only [execOp, e19]
      exact HK.out
    | 57, _ =>
      obtain ⟨ty, pos, aft, e, hdp⟩ := iop57
      rw [e] at ho
      obtain rfl := Option.some.inj ho
      intro a' hds W K hB lq ld hmem hK
      have e223 : a'.eval (.tmp 223) = .int .i64 3 := by rw [eval_tmp]; exact ld 56 223 (List.all_eq_true.1 hdp 56 (by decide)) rfl
      have t223 := (eval_tmp a' 223).symm.trans e223
      have HK := Lib.hid (show K (a'.put (some 224) (.bool true)) W from hK W (Below.refl _ _) trivial)
      clear hK ld lq hmem
      unfold Oper.wp
      simp only [execOp, e223]
      go_simp
      exact HK.out
    | 58, _ =>
      obtain ⟨ty, pos, aft, e, hdp⟩ := iop58
      rw [e] at ho
      obtain rfl := Option.some.inj ho
      intro a' hds W K hB lq ld hmem hK
      have e222 : a'.eval (.tmp 222) = .bool true := by rw [eval_tmp]; exact ld 55 222 (List.all_eq_true.1 hdp 55 (by decide)) rfl
      have t222 := (eval_tmp a' 222).symm.trans e222
      have e224 : a'.eval (.tmp 224) = .bool true := by rw [eval_tmp]; exact ld 57 224 (List.all_eq_true.1 hdp 57 (by decide)) rfl
      have t224 := (eval_tmp a' 224).symm.trans e224
      have HK := Lib.hid (show K (a'.put (some 225) (.bool true)) W from hK W (Below.refl _ _) trivial)
      clear hK ld lq hmem
      unfold Oper.wp
      simp only [execOp, e222, e224]
      go_simp
      exact HK.out
    | 59, _ =>
      obtain ⟨ty, pos, aft, e, hdp⟩ := iop59
      rw [e] at ho
      obtain rfl := Option.some.inj ho
      intro a' hds W K hB lq ld hmem hK
      have e225 : a'.eval (.tmp 225) = .bool true := by rw [eval_tmp]; exact ld 58 225 (List.all_eq_true.1 hdp 58 (by decide)) rfl
      have t225 := (eval_tmp a' 225).symm.trans e225
      have HK := Lib.hid (show K (a'.put (some 226) (.bool true)) W from hK W (Below.refl _ _) trivial)
      clear hK ld lq hmem
      unfold Oper.wp
      simp only [execOp, e225]
      exact HK.out
    | 60, _ =>
      obtain ⟨ty, pos, aft, e, hdp⟩ := iop60
      rw [e] at ho
      obtain rfl := Option.some.inj ho
      intro a' hds W K hB lq ld hmem hK
      have e20 : a'.eval (.tmp 20) = .int .i64 (row : Int) := by rw [eval_tmp]; exact lq (20, .int .i64 (row : Int)) (by simp)
      have t20 := (eval_tmp a' 20).symm.trans e20
      have HK := Lib.hid (show K (a'.put (some 227) (.int .i64 (row : Int))) W from hK W (Below.refl _ _) trivial)
      clear hK ld lq hmem
      unfold Oper.wp
      simp only [execOp, e20]
      exact HK.out
    | 61, _ =>
      obtain ⟨ty, pos, aft, e, hdp⟩ := iop61
      rw [e] at ho
      obtain rfl := Option.some.inj ho
      intro a' hds W K hB lq ld hmem hK
      have e227 : a'.eval (.tmp 227) = .int .i64 (row : Int) := by rw [eval_tmp]; exact ld 60 227 (List.all_eq_true.1 hdp 60 (by decide)) rfl
      have t227 := (eval_tmp a' 227).symm.trans e227
      have HK := Lib.hid (show K (a'.put (some 228) (.int .i64 (row : Int))) W from hK W (Below.refl _ _) trivial)
      clear hK ld lq hmem
      have c0 := and15 row hrow
      unfold Oper.wp
      simp only [execOp, e227]
      go_simp
      exact HK.out
    | 62, _ =>
      obtain ⟨ty, pos, aft, e, hdp⟩ := iop62
      rw [e] at ho
      obtain rfl := Option.some.inj ho
      intro a' hds W K hB lq ld hmem hK
      have e228 : a'.eval (.tmp 228) = .int .i64 (row : Int) := by rw [eval_tmp]; exact ld 61 228 (List.all_eq_true.1 hdp 61 (by decide)) rfl
      have t228 := (eval_tmp a' 228).symm.trans e228
      have m179   := (hmem 12 (show 12 ∈ uOf region_kn15U 62 by decide) (by decide)).1
      have m205   := (hmem 38 (show 38 ∈ uOf region_kn15U 62 by decide) (by decide)).1
      have HK := Lib.hid (show ∀ W', Below W.heap.size W W' → K (a'.put (some 229) (.bool true)) W' from fun W' h => hK W' h trivial)
      clear hK ld lq hmem
      refine step_call (vals := #[.int .i64 (row : Int), .int .i64 4, .int .i64 2]) (by exact ⟨_, _, Try.func60, by kernel_rfl, rfl⟩) (by simp only [List.map_toArray, List.map_cons, List.map_nil, e228]; rfl) (bound60 row W hrow hbd) ?_
      rintro e w' ⟨rfl, hb'⟩
      exact ⟨_, rfl, HK.out _ hb'⟩
    | 63, _ =>
      obtain ⟨ty, pos, aft, e, hdp⟩ := iop63
      rw [e] at ho
      obtain rfl := Option.some.inj ho
      intro a' hds W K hB lq ld hmem hK
      have e226 : a'.eval (.tmp 226) = .bool true := by rw [eval_tmp]; exact ld 59 226 (List.all_eq_true.1 hdp 59 (by decide)) rfl
      have t226 := (eval_tmp a' 226).symm.trans e226
      have e229 : a'.eval (.tmp 229) = .bool true := by rw [eval_tmp]; exact ld 62 229 (List.all_eq_true.1 hdp 62 (by decide)) rfl
      have t229 := (eval_tmp a' 229).symm.trans e229
      have HK := Lib.hid (show K (a'.put (some 230) (.bool true)) W from hK W (Below.refl _ _) trivial)
      clear hK ld lq hmem
      unfold Oper.wp
      simp only [execOp, e226, e229]
      go_simp
      exact HK.out
    | 64, _ =>
      obtain ⟨ty, pos, aft, e, hdp⟩ := iop64
      rw [e] at ho
      obtain rfl := Option.some.inj ho
      intro a' hds W K hB lq ld hmem hK
      have e230 : a'.eval (.tmp 230) = .bool true := by rw [eval_tmp]; exact ld 63 230 (List.all_eq_true.1 hdp 63 (by decide)) rfl
      have t230 := (eval_tmp a' 230).symm.trans e230
      have HK := Lib.hid (show K (a'.put (some 231) (.bool true)) W from hK W (Below.refl _ _) trivial)
      clear hK ld lq hmem
      unfold Oper.wp
      simp only [execOp, e230]
      exact HK.out
    | 65, _ =>
      obtain ⟨ty, pos, aft, e, hdp⟩ := iop65
      rw [e] at ho
      obtain rfl := Option.some.inj ho
      intro a' hds W K hB lq ld hmem hK
      have e22 : a'.eval (.tmp 22) = .int .i64 5 := by rw [eval_tmp]; exact lq (22, .int .i64 5) (by simp)
      have t22 := (eval_tmp a' 22).symm.trans e22
      have HK := Lib.hid (show K (a'.put (some 232) (.int .i64 5)) W from hK W (Below.refl _ _) trivial)
      clear hK ld lq hmem
      unfold Oper.wp
      simp only [execOp, e22]
      exact HK.out
    | 66, _ =>
      obtain ⟨ty, pos, aft, e, hdp⟩ := iop66
      rw [e] at ho
      obtain rfl := Option.some.inj ho
      intro a' hds W K hB lq ld hmem hK
      have e232 : a'.eval (.tmp 232) = .int .i64 5 := by rw [eval_tmp]; exact ld 65 232 (List.all_eq_true.1 hdp 65 (by decide)) rfl
      have t232 := (eval_tmp a' 232).symm.trans e232
      have HK := Lib.hid (show K (a'.put (some 233) (.bool true)) W from hK W (Below.refl _ _) trivial)
      clear hK ld lq hmem
      unfold Oper.wp
      simp only [execOp, e232]
      go_simp
      exact HK.out
    | 67, _ =>
      obtain ⟨ty, pos, aft, e, hdp⟩ := iop67
      rw [e] at ho
      obtain rfl := Option.some.inj ho
      intro a' hds W K hB lq ld hmem hK
      have e231 : a'.eval (.tmp 231) = .bool true := by rw [eval_tmp]; exact ld 64 231 (List.all_eq_true.1 hdp 64 (by decide)) rfl
      have t231 := (eval_tmp a' 231).symm.trans e231
      have e233 : a'.eval (.tmp 233) = .bool true := by rw [eval_tmp]; exact ld 66 233 (List.all_eq_true.1 hdp 66 (by decide)) rfl
      have t233 := (eval_tmp a' 233).symm.trans e233
      have HK := Lib.hid (show K (a'.put (some 234) (.bool true)) W from hK W (Below.refl _ _) trivial)
      clear hK ld lq hmem
      unfold Oper.wp
      simp only [execOp, e231, e233]
      go_simp
      exact HK.out
    | 68, _ =>
      obtain ⟨ty, pos, aft, e, hdp⟩ := iop68
      rw [e] at ho
      obtain rfl := Option.some.inj ho
      intro a' hds W K hB lq ld hmem hK
      have e234 : a'.eval (.tmp 234) = .bool true := by rw [eval_tmp]; exact ld 67 234 (List.all_eq_true.1 hdp 67 (by decide)) rfl
      have t234 := (eval_tmp a' 234).symm.trans e234
      have HK := Lib.hid (show K (a'.put (some 235) (.bool true)) W from hK W (Below.refl _ _) trivial)
      clear hK ld lq hmem
      unfold Oper.wp
      simp only [execOp, e234]
      exact HK.out
    | 69, _ =>
      obtain ⟨ty, pos, aft, e, hdp⟩ := iop69
      rw [e] at ho
      obtain rfl := Option.some.inj ho
      intro a' hds W K hB lq ld hmem hK
      have e25 : a'.eval (.tmp 25) = .int .i64 0 := by rw [eval_tmp]; exact lq (25, .int .i64 0) (by simp)
      have t25 := (eval_tmp a' 25).symm.trans e25
      have HK := Lib.hid (show K (a'.put (some 236) (.int .i64 0)) W from hK W (Below.refl _ _) trivial)
      clear hK ld lq hmem
      unfold Oper.wp
      simp only [execOp, e25]
      exact HK.out
    | 70, _ =>
      obtain ⟨ty, pos, aft, e, hdp⟩ := iop70
      rw [e] at ho
      obtain rfl := Option.some.inj ho
      intro a' hds W K hB lq ld hmem hK
      have e236 : a'.eval (.tmp 236) = .int .i64 0 := by rw [eval_tmp]; exact ld 69 236 (List.all_eq_true.1 hdp 69 (by decide)) rfl
      have t236 := (eval_tmp a' 236).symm.trans e236
      have HK := Lib.hid (show K (a'.put (some 237) (.bool true)) W from hK W (Below.refl _ _) trivial)
      clear hK ld lq hmem
      unfold Oper.wp
      simp only [execOp, e236]
      go_simp
      exact HK.out
    | 71, _ =>
      obtain ⟨ty, pos, aft, e, hdp⟩ := iop71
      rw [e] at ho
      obtain rfl := Option.some.inj ho
      intro a' hds W K hB lq ld hmem hK
      have e235 : a'.eval (.tmp 235) = .bool true := by rw [eval_tmp]; exact ld 68 235 (List.all_eq_true.1 hdp 68 (by decide)) rfl
      have t235 := (eval_tmp a' 235).symm.trans e235
      have e237 : a'.eval (.tmp 237) = .bool true := by rw [eval_tmp]; exact ld 70 237 (List.all_eq_true.1 hdp 70 (by decide)) rfl
      have t237 := (eval_tmp a' 237).symm.trans e237
      have HK := Lib.hid (show K (a'.put (some 238) (.bool true)) W from hK W (Below.refl _ _) trivial)
      clear hK ld lq hmem
      unfold Oper.wp
      simp only [execOp, e235, e237]
      go_simp
      exact HK.out
    | 72, _ =>
      obtain ⟨ty, pos, aft, e, hdp⟩ := iop72
      rw [e] at ho
      obtain rfl := Option.some.inj ho
      intro a' hds W K hB lq ld hmem hK
      have e238 : a'.eval (.tmp 238) = .bool true := by rw [eval_tmp]; exact ld 71 238 (List.all_eq_true.1 hdp 71 (by decide)) rfl
      have t238 := (eval_tmp a' 238).symm.trans e238
      have HK := Lib.hid (show K (a'.put (some 0) (.bool true)) W from hK W (Below.refl _ _) trivial)
      clear hK ld lq hmem
      unfold Oper.wp
      simp only [execOp, e238]
      exact HK.out
    | i + 73, h => omega
  · intro hds v W hO
    have hfin := gend (hds 12).b (hds 12).c (hds 12).b2 (hds 12).c2 (hds 38).b (hds 38).c (hds 38).b2 (hds 38).c2 (hds 12).p (hds 38).p (v 167) (v 168) (v 169) (v 170) (v 171) (v 172) (v 173) (v 174) (v 175) (v 176) (v 177) (v 178) (v 179) (v 180) (v 181) (v 182) (v 183) (v 184) (v 185) (v 186) (v 187) (v 188) (v 189) (v 190) (v 191) (v 192) (v 193) (v 194) (v 195) (v 196) (v 197) (v 198) (v 199) (v 200) (v 201) (v 202) (v 203) (v 204) (v 205) (v 206) (v 207) (v 208) (v 209) (v 210) (v 211) (v 212) (v 213) (v 214) (v 215) (v 216) (v 217) (v 218) (v 219) (v 220) (v 221) (v 222) (v 223) (v 224) (v 225) (v 226) (v 227) (v 228) (v 229) (v 230) (v 231) (v 232) (v 233) (v 234) (v 235) (v 236) (v 237) (v 238) W hO.b (hO.m 12 (by show 12 < 73; decide) rfl).1 (hO.m 12 (by show 12 < 73; decide) rfl).2 (hO.m 38 (by show 38 < 73; decide) rfl).1 (hO.m 38 (by show 38 < 73; decide) rfl).2
    rw [← laid_putL _ a v ?_] at hfin
    · exact hfin
    · intro p hp
      simp only [List.mem_cons, List.not_mem_nil, or_false] at hp
      rcases hp with rfl | rfl | rfl | rfl | rfl | rfl | rfl | rfl | rfl | rfl | rfl | rfl | rfl | rfl | rfl | rfl | rfl | rfl | rfl | rfl | rfl | rfl | rfl | rfl | rfl | rfl | rfl | rfl | rfl | rfl | rfl | rfl | rfl | rfl | rfl | rfl | rfl | rfl | rfl | rfl | rfl | rfl | rfl | rfl | rfl | rfl | rfl | rfl | rfl | rfl | rfl | rfl | rfl | rfl | rfl | rfl | rfl | rfl | rfl | rfl | rfl | rfl | rfl | rfl | rfl | rfl | rfl | rfl | rfl | rfl | rfl | rfl | rfl
      · rfl
      · rfl
      · rfl
      · rfl
      · rfl
      · rfl
      · rfl
      · rfl
      · rfl
      · rfl
      · rfl
      · rfl
      · rfl
      · rfl
      · rfl
      · rfl
      · rfl
      · rfl
      · rfl
      · rfl
      · rfl
      · rfl
      · rfl
      · rfl
      · rfl
      · rfl
      · rfl
      · rfl
      · rfl
      · rfl
      · rfl
      · rfl
      · rfl
      · rfl
      · rfl
      · rfl
      · rfl
      · rfl
      · rfl
      · rfl
      · rfl
      · rfl
      · rfl
      · rfl
      · rfl
      · rfl
      · rfl
      · rfl
      · rfl
      · rfl
      · rfl
      · rfl
      · rfl
      · rfl
      · rfl
      · rfl
      · rfl
      · rfl
      · rfl
      · rfl
      · rfl
      · rfl
      · rfl
      · rfl
      · rfl
      · rfl
      · rfl
      · rfl
      · rfl
      · rfl
      · rfl
      · rfl
      · exact hO.x 72 (show 72 < 73 by decide) 0 rfl
end Go.Proofs.Ytdmgffoikebgkaa
