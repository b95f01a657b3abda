/- TieEdges: what lies in memory; contracts. -/
import Derived.Test.YtdmgffoikebgkaaTb01
import Derived.Test.YtdmgffoikebgkaaTb02
import Derived.Test.YtdmgffoikebgkaaTb03
import Derived.Test.YtdmgffoikebgkaaTb04
import Derived.Test.YtdmgffoikebgkaaTb05
import Derived.Test.YtdmgffoikebgkaaTb06
import Derived.Test.YtdmgffoikebgkaaTb07
import Derived.Test.YtdmgffoikebgkaaTb08
import Derived.Test.YtdmgffoikebgkaaTb09
import Derived.Test.YtdmgffoikebgkaaTb10
import Derived.Test.YtdmgffoikebgkaaTb11
import Derived.Test.YtdmgffoikebgkaaTb12
import Derived.Test.YtdmgffoikebgkaaTb13
import Derived.Test.YtdmgffoikebgkaaTb14
import Derived.Test.YtdmgffoikebgkaaTb15
import Derived.Test.YtdmgffoikebgkaaTb16
import Derived.Test.YtdmgffoikebgkaaTb17
import Derived.Test.YtdmgffoikebgkaaTb18
import Derived.Test.YtdmgffoikebgkaaTb19
import Derived.Test.YtdmgffoikebgkaaTb20
import Derived.Test.YtdmgffoikebgkaaTk03
import Derived.Deep.DeepCutAuto
import Derived.Deep.QuietTactic
import Derived.BigQuiet
namespace Go.Proofs.Ytdmgffoikebgkaa
open Go.RowKit Go.Shelf
attribute [local go_sem] Oper.semAt_some

/-- the loom's harness and design, and the harness beside itself -/
structure TeS (w : World) (P D g2 q2 E gh qh N L T A0 A1 A2 : Nat) (DS HS : List Nat) (B7 gb qb T2 : Nat) (W : World) : Prop where
  p : BoxAt W P #[.int .u8 (A0 : Int), .int .u8 (A1 : Int), .int .u8 (A2 : Int)] 104
  d : BoxAt W D #[.int .i64 (N : Int), .slice (some ⟨g2, 0, none⟩) L q2] 37
  e : BoxAt W E #[.int .i64 (N : Int), .slice (some ⟨gh, 0, none⟩) T qh] 26
  nd : NatL W g2 DS
  nh : NatL W gh HS
  b7 : BoxAt W B7 #[.int .i64 (N : Int), .slice (some ⟨gb, 0, none⟩) T2 qb] 26
  nb : NatL W gb (HS ++ HS)
  b : Below w.heap.size w W
theorem TeS.next {w W W' : World} {P D g2 q2 E gh qh N L T A0 A1 A2 : Nat} {DS HS : List Nat} {B7 gb qb T2 : Nat} (h : TeS w P D g2 q2 E gh qh N L T A0 A1 A2 DS HS B7 gb qb T2 W) (hb : Below W.heap.size W W') : TeS w P D g2 q2 E gh qh N L T A0 A1 A2 DS HS B7 gb qb T2 W' :=
  ⟨h.p.next hb, h.d.next hb, h.e.next hb, h.nd.next hb, h.nh.next hb, h.b7.next hb, h.nb.next hb, h.b.trans (hb.mono h.b.size)⟩
/-- the same with the first cloth -/
structure TeC (w : World) (P D g2 q2 E gh qh N L T A0 A1 A2 : Nat) (DS HS : List Nat) (B7 gb qb T2 gc : Nat) (SS : List ByteArray) (W : World) : Prop where
  s : TeS w P D g2 q2 E gh qh N L T A0 A1 A2 DS HS B7 gb qb T2 W
  c : StrsAt W gc 0 SS
  lc : gc < W.heap.size
theorem TeC.next {w W W' : World} {P D g2 q2 E gh qh N L T A0 A1 A2 : Nat} {DS HS : List Nat} {B7 gb qb T2 gc : Nat} {SS : List ByteArray} (h : TeC w P D g2 q2 E gh qh N L T A0 A1 A2 DS HS B7 gb qb T2 gc SS W) (hb : Below W.heap.size W W') : TeC w P D g2 q2 E gh qh N L T A0 A1 A2 DS HS B7 gb qb T2 gc SS W' :=
  ⟨h.s.next hb, h.c.below hb h.lc, Nat.lt_of_lt_of_le h.lc hb.size⟩
theorem call31 (n T b c : Nat) (hs : List Nat) (W : World) (hT : hs.length = T) (hT0 : 1 ≤ T) (hT1 : T ≤ 96) (hN0 : 1 ≤ n) (hN1 : n ≤ 24) (hk : ∀ i, i < T → nthN hs i < n) (h1 : NatsAt W b 0 hs) (h2 : b < W.heap.size) :
    Calls Try.prog 31 #[.agg #[.int .i64 (n : Int), .slice (some ⟨b, 0, none⟩) T c]] W fun e w' => (∃ p : Nat, RepP hs p ∧ e = .returned (.tuple #[.int .i64 (p : Int), .int .i64 0])) ∧ Below W.heap.size W w' := by
  subst hT
  refine (Repeat_ok n b 0 c hs W (tat_of rfl hT0 hT1 hN0 hN1 hk h1 h2)).mono ?_
  rintro e w' ⟨⟨p, a, b, c, d, rfl⟩, hb⟩
  exact ⟨⟨p, ⟨a, b, c, d⟩, rfl⟩, hb⟩
def wV (T lo : Nat) : Nat := if lo = 0 then 0 else worV T lo
def wE (lo : Nat) : Int := if lo = 0 then 9 else 0
theorem call58e (n T b c m : Nat) (hs : List Nat) (W : World) (hT : hs.length = T) (hT0 : 1 ≤ T) (hT1 : T ≤ 96) (hN0 : 1 ≤ n) (hN1 : n ≤ 24) (hk : ∀ i, i < T → nthN hs i < n) (h1 : NatsAt W b 0 hs) (h2 : b < W.heap.size) (hm1 : 1 ≤ m) (hm2 : m ≤ 24) :
    Calls Try.prog 58 #[.agg #[.int .i64 (n : Int), .slice (some ⟨b, 0, none⟩) T c], .int .i64 (m : Int)] W fun e w' => (∃ lo row r : Nat, WoR hs n m hs.length lo row ∧ e = .returned (.tuple #[.int .i64 (wV hs.length lo : Int), .int .i64 (r : Int), .int .i64 (wE lo)])) ∧ Below W.heap.size W w' := by
  subst hT
  refine (Worst_ok n b 0 c m hs W (tat_of rfl hT0 hT1 hN0 hN1 hk h1 h2) hm1 hm2).mono ?_
  rintro e w' ⟨⟨lo, row, hR, h⟩, hb⟩
  refine ⟨?_, hb⟩
  rcases h with ⟨h0, rfl⟩ | ⟨h0, rfl⟩
  · refine ⟨lo, row, 0, hR, ?_⟩
    unfold wV wE
    rw [if_pos h0, if_pos h0]; rfl
  · refine ⟨lo, row, row, hR, ?_⟩
    unfold wV wE worV
    rw [if_neg h0, if_neg h0]
theorem call32m (n T b c : Nat) (hs : List Nat) (W : World) (hT : hs.length = T) (hT0 : 1 ≤ T) (hT1 : T ≤ 96) (hN0 : 1 ≤ n) (hN1 : n ≤ 24) (hk : ∀ i, i < T → nthN hs i < n) (h1 : NatsAt W b 0 hs) (h2 : b < W.heap.size) :
    Calls Try.prog 32 #[.agg #[.int .i64 (n : Int), .slice (some ⟨b, 0, none⟩) T c]] W fun e w' => MirR hs e ∧ Below W.heap.size W w' := by
  subst hT
  exact Mirrors_ok n b 0 c hs W (tat_of rfl hT0 hT1 hN0 hN1 hk h1 h2)
theorem call32p (n T b c : Nat) (hs : List Nat) (W : World) (hT : hs.length = T) (hT0 : 1 ≤ T) (hT1 : T ≤ 96) (hN0 : 1 ≤ n) (hN1 : n ≤ 24) (hk : ∀ i, i < T → nthN hs i < n) (hm : mirAt hs 0 = true) (h1 : NatsAt W b 0 hs) (h2 : b < W.heap.size) :
    Calls Try.prog 32 #[.agg #[.int .i64 (n : Int), .slice (some ⟨b, 0, none⟩) T c]] W fun e w' => e = .returned (.tuple #[.int .i64 0, .int .i64 0]) ∧ Below W.heap.size W w' := by
  refine (call32m n T b c hs W hT hT0 hT1 hN0 hN1 hk h1 h2).mono ?_
  rintro e w' ⟨h, hb⟩
  refine ⟨?_, hb⟩
  rcases h with ⟨s, _, _, hl, rfl⟩ | ⟨hl, _⟩
  · by_cases hs : s = 0
    · rw [hs]; rfl
    · rw [hl 0 (by omega)] at hm; cases hm
  · rw [hl 0 (by omega)] at hm; cases hm
theorem pt_lt {up : Bool} {a b L t M : Nat} (ha : a ≤ M) (hb : b ≤ M) (hup : up = true → a + L = b) : ∀ i, i < onceT L 2 * t → nthN (ptL up a L t) i < M + 1 := fun i hi => by
  have e : nthN (ptL up a L t) i = ptH up a L i := by simp [ptL, nthN, hi]
  rw [e]
  have h := hookT_le L i
  unfold ptH
  cases up with
  | true => have := hup rfl; simp only [if_true, if_pos rfl]; omega
  | false => simp only [Bool.false_eq_true, if_false]; omega
theorem once_le {L : Nat} (h : L ≤ 15) : onceT L 2 ≤ 30 := by unfold onceT; split <;> omega
theorem pt_way (pa pb M : Nat) (ha : pa ≤ M) (hb : pb ≤ M) : ∃ (up : Bool) (L : Nat), (up = true → pa + L = pb) ∧ (up = false → pb + L = pa ∧ 1 ≤ L) ∧ L ≤ M := by
  by_cases h : pa ≤ pb
  · exact ⟨true, pb - pa, fun _ => (by omega), fun e => absurd e (by decide), by omega⟩
  · exact ⟨false, pa - pb, fun e => absurd e (by decide), fun _ => (by omega), by omega⟩
def region_te25U : List (List Nat) := [[], [], [], [], [], [], [], [], [], [], [], [], [], [], [], [], [], [], [], [], [], [], [], []]
def region_te25X (_N L T T2 gc qc gh qh E q v s u r : Nat) (_SS : List ByteArray) (s2 : ByteArray) (X1 : Int) : Nat → (Nat → Hd) → Value
  | 0, _ => .slice (some ⟨gc, 0, none⟩) L qc
  | 1, _ => .int .i64 (q : Int)
  | 2, _ => .pointer (some ⟨gc, q, none⟩)
  | 3, _ => .string s2
  | 4, _ => .int .i64 (v : Int)
  | 5, _ => .int .u8 X1
  | 6, _ => .slice (some ⟨gc, 0, none⟩) L qc
  | 7, _ => .int .i64 (q : Int)
  | 8, _ => .pointer (some ⟨gc, q, none⟩)
  | 9, _ => .string s2
  | 10, _ => .int .i64 (s : Int)
  | 11, _ => .int .i64 (v : Int)
  | 12, _ => .int .i64 ((s : Int) - (v : Int))
  | 13, _ => .pointer (some ⟨E, 1, none⟩)
  | 14, _ => .slice (some ⟨gh, 0, none⟩) T qh
  | 15, _ => .int .i64 (T : Int)
  | 16, _ => .int .i64 (T2 : Int)
  | 17, _ => .int .i64 (u : Int)
  | 18, _ => .pointer (some ⟨E, 1, none⟩)
  | 19, _ => .slice (some ⟨gh, 0, none⟩) T qh
  | 20, _ => .int .i64 (T : Int)
  | 21, _ => .int .i64 (r : Int)
  | 22, _ => .int .u8 X1
  | 23, _ => .bool false
  | _ + 24, _ => undef
theorem region_te25X.congr (N L T T2 gc qc gh qh E q v s u r : Nat) (SS : List ByteArray) (s2 : ByteArray) (X1 : Int) : ∀ i hds hds', (∀ r ∈ uOf region_te25U i, hds r = hds' r) → region_te25X N L T T2 gc qc gh qh E q v s u r SS s2 X1 i hds = region_te25X N L T T2 gc qc gh qh E q v s u r SS s2 X1 i hds'
  | 0, _, _, _ => rfl
  | 1, _, _, _ => rfl
  | 2, _, _, _ => rfl
  | 3, _, _, _ => rfl
  | 4, _, _, _ => rfl
  | 5, _, _, _ => rfl
  | 6, _, _, _ => rfl
  | 7, _, _, _ => rfl
  | 8, _, _, _ => rfl
  | 9, _, _, _ => rfl
  | 10, _, _, _ => rfl
  | 11, _, _, _ => rfl
  | 12, _, _, _ => rfl
  | 13, _, _, _ => rfl
  | 14, _, _, _ => rfl
  | 15, _, _, _ => rfl
  | 16, _, _, _ => rfl
  | 17, _, _, _ => rfl
  | 18, _, _, _ => rfl
  | 19, _, _, _ => rfl
  | 20, _, _, _ => rfl
  | 21, _, _, _ => rfl
  | 22, _, _, _ => rfl
  | 23, _, _, _ => rfl
  | _ + 24, _, _, _ => rfl
def region_te25M (_N _L _T _T2 _gc _qc _gh _qh _E _q _v _s _u _r : Nat) (_SS : List ByteArray) (_s2 : ByteArray) (_X1 : Int) : Nat → Mem
  | _ => memNone
def region_te25S (_N _L _T _T2 _gc _qc _gh _qh _E _q _v _s _u _r : Nat) (_SS : List ByteArray) (_s2 : ByteArray) (_X1 : Int) : Nat → Option Sto
  | _ => none
set_option maxRecDepth 8000 in
set_option maxHeartbeats 2000000 in
theorem region_te25 {id : Nat} {ops : Array Oper} {Q : Exit → Act → World → Prop} {a : Act} {w : World} (N L T T2 gc qc gh qh E q v s u r : Nat) (SS : List ByteArray) (s2 : ByteArray) (X1 : Int) (hSl : SS.length = L) (hqL : q < L) (hvT : v < T) (hsT : s < T) (hT2 : T + T = T2) (hT96 : T2 ≤ 96) (hu1 : u + v ≤ s + T2) (hu2 : s + T2 ≤ u + v) (hr : u % T = r) (hsc : StrsAt w gc 0 SS) (hgc : gc < w.heap.size) (hs : nthB SS q = s2) (hi1 : ∀ W, (Instr.index 9 (.string s2) (.int .i64 (v : Int))).run Try.prog W = .ok (.int .u8 X1) W) (hi2 : ∀ W, (Instr.index 9 (.string s2) (.int .i64 (r : Int))).run Try.prog W = .ok (.int .u8 X1) W) (hE : BoxAt w E #[.int .i64 (N : Int), .slice (some ⟨gh, 0, none⟩) T qh] 26)
    (gsize : ops.size = 24)
    (gops : IsOp ops 0 (some 230) (.move (.tmp 19)) none [] ∧ IsOp ops 1 (some 231) (.move (.tmp 26)) none [] ∧ IsOp ops 2 (some 232) (.indexAddr 49 (.tmp 230) (.tmp 231)) none [0, 1] ∧ IsOp ops 3 (some 233) (.load 9 (.tmp 232)) none [2] ∧ IsOp ops 4 (some 234) (.move (.tmp 27)) none [] ∧ IsOp ops 5 (some 235) (.index 9 (.tmp 233) (.tmp 234)) none [3, 4] ∧ IsOp ops 6 (some 236) (.move (.tmp 19)) none [] ∧ IsOp ops 7 (some 237) (.move (.tmp 26)) none [] ∧ IsOp ops 8 (some 238) (.indexAddr 49 (.tmp 236) (.tmp 237)) none [6, 7] ∧ IsOp ops 9 (some 239) (.load 9 (.tmp 238)) none [8] ∧ IsOp ops 10 (some 240) (.move (.tmp 24)) none [] ∧ IsOp ops 11 (some 241) (.move (.tmp 27)) none [] ∧ IsOp ops 12 (some 242) (.binOp .sub 3 (.tmp 240) (.tmp 241) 3) none [10, 11] ∧ IsOp ops 13 (some 243) (.fieldAddr 26 (.tmp 5) 1) none [] ∧ IsOp ops 14 (some 244) (.load 24 (.tmp 243)) none [13] ∧ IsOpL ops 15 (some 245) (.call { callee := .builtin .len, args := #[.tmp 244], argTypes := #[24] }) none [14] ∧ IsOp ops 16 (some 246) (.binOp .mul 3 (.const (.int .i64 2)) (.tmp 245) 3) none [15] ∧ IsOp ops 17 (some 247) (.binOp .add 3 (.tmp 242) (.tmp 246) 3) none [12, 16] ∧ IsOp ops 18 (some 248) (.fieldAddr 26 (.tmp 5) 1) none [] ∧ IsOp ops 19 (some 249) (.load 24 (.tmp 248)) none [18] ∧ IsOpL ops 20 (some 250) (.call { callee := .builtin .len, args := #[.tmp 249], argTypes := #[24] }) none [19] ∧ IsOp ops 21 (some 251) (.binOp .rem 3 (.tmp 247) (.tmp 250) 3) none [17, 20] ∧ IsOp ops 22 (some 252) (.index 9 (.tmp 239) (.tmp 251)) none [9, 21] ∧ IsOp ops 23 (some 253) (.binOp .neq 5 (.tmp 235) (.tmp 252) 5) none [5, 22])
    (gbk : backB ops = true) (gds : dstsB ops (dOf [some 230, some 231, some 232, some 233, some 234, some 235, some 236, some 237, some 238, some 239, some 240, some 241, some 242, some 243, some 244, some 245, some 246, some 247, some 248, some 249, some 250, some 251, some 252, some 253]) = true) (gus : useB ops (uOf region_te25U) (kOf [0, 0, 0, 0, 0, 0, 0, 0, 0, 0, 0, 0, 0, 0, 0, 0, 0, 0, 0, 0, 0, 0, 0, 0]) = true) (ggd : plainB ops = true) (gsz : ∀ e ∈ [230, 231, 232, 233, 234, 235, 236, 237, 238, 239, 240, 241, 242, 243, 244, 245, 246, 247, 248, 249, 250, 251, 252, 253], e < a.tmps.size)
    (gout : a.eval (.tmp 19) = .slice (some ⟨gc, 0, none⟩) L qc ∧ a.eval (.tmp 26) = .int .i64 (q : Int) ∧ a.eval (.tmp 27) = .int .i64 (v : Int) ∧ a.eval (.tmp 24) = .int .i64 (s : Int) ∧ a.eval (.tmp 5) = .pointer (some ⟨E, 0, none⟩))
    (gend : ∀ (u230 u231 u232 u233 u234 u235 u236 u237 u238 u239 u240 u241 u242 u243 u244 u245 u246 u247 u248 u249 u250 u251 u252 : Value) (W : World), Below w.heap.size w W → Q .normal (putL a [(230, u230), (231, u231), (232, u232), (233, u233), (234, u234), (235, u235), (236, u236), (237, u237), (238, u238), (239, u239), (240, u240), (241, u241), (242, u242), (243, u243), (244, u244), (245, u245), (246, u246), (247, u247), (248, u248), (249, u249), (250, u250), (251, u251), (252, u252), (253, .bool false)]) W) :
    (Code.region id ops true).wp Try.prog Q a w := by
  obtain ⟨iop0, iop1, iop2, iop3, iop4, iop5, iop6, iop7, iop8, iop9, iop10, iop11, iop12, iop13, iop14, iop15, iop16, iop17, iop18, iop19, iop20, iop21, iop22, iop23⟩ := gops
  obtain ⟨o19, o26, o27, o24, o5⟩ := gout
  refine region_all (RSp.of 24 [some 230, some 231, some 232, some 233, some 234, some 235, some 236, some 237, some 238, some 239, some 240, some 241, some 242, some 243, some 244, some 245, some 246, some 247, some 248, some 249, some 250, some 251, some 252, some 253] (fun _ => true) (region_te25X N L T T2 gc qc gh qh E q v s u r SS s2 X1) region_te25U [0, 0, 0, 0, 0, 0, 0, 0, 0, 0, 0, 0, 0, 0, 0, 0, 0, 0, 0, 0, 0, 0, 0, 0] (region_te25M N L T T2 gc qc gh qh E q v s u r SS s2 X1) (region_te25S N L T T2 gc qc gh qh E q v s u r SS s2 X1)) [(19, .slice (some ⟨gc, 0, none⟩) L qc), (26, .int .i64 (q : Int)), (27, .int .i64 (v : Int)), (24, .int .i64 (s : Int)), (5, .pointer (some ⟨E, 0, none⟩))] [230, 231, 232, 233, 234, 235, 236, 237, 238, 239, 240, 241, 242, 243, 244, 245, 246, 247, 248, 249, 250, 251, 252, 253] (RSp.of_fit gsize.symm gbk gds gus ggd (by decide) ?_) (RSp.of_ok _ (region_te25X.congr N L T T2 gc qc gh qh E q v s u r SS s2 X1) ?_) gsz ?_ ?_ ?_
  · intro p hp
    have hp2 : p ∈ ([] : List (Nat × Nat)) := hp
    cases hp2
  · intro i s hds
    match i, hds with
    | 0, hds => cases hds
    | 1, hds => cases hds
    | 2, hds => cases hds
    | 3, hds => cases hds
    | 4, hds => cases hds
    | 5, hds => cases hds
    | 6, hds => cases hds
    | 7, hds => cases hds
    | 8, hds => cases hds
    | 9, hds => cases hds
    | 10, hds => cases hds
    | 11, hds => cases hds
    | 12, hds => cases hds
    | 13, hds => cases hds
    | 14, hds => cases hds
    | 15, hds => cases hds
    | 16, hds => cases hds
    | 17, hds => cases hds
    | 18, hds => cases hds
    | 19, hds => cases hds
    | 20, hds => cases hds
    | 21, hds => cases hds
    | 22, hds => cases hds
    | 23, hds => cases hds
    | _ + 24, hds => cases hds
  · intro q hq
    simp only [List.mem_cons, List.not_mem_nil, or_false] at hq
    rcases hq with rfl | rfl | rfl | rfl | rfl
    · exact ⟨o19, by simp⟩
    · exact ⟨o26, by simp⟩
    · exact ⟨o27, by simp⟩
    · exact ⟨o24, by simp⟩
    · exact ⟨o5, by simp⟩
  · intro i o ho hw
    have hi : i < 24 := by rw [← gsize]; exact (Array.getElem?_eq_some_iff.1 ho).1
    match i, hi with
    | 0, _ =>
      obtain ⟨ty, pos, aft, e, hdp⟩ := iop0
      rw [e] at ho
      obtain rfl := Option.some.inj ho
      intro a' hds W K hB lq ld hmem hK
      have e19 : a'.eval (.tmp 19) = .slice (some ⟨gc, 0, none⟩) L qc := by rw [eval_tmp]; exact lq (19, .slice (some ⟨gc, 0, none⟩) L qc) (by simp)
      have t19 := (eval_tmp a' 19).symm.trans e19
      have HK := Lib.hid (show K (a'.put (some 230) (.slice (some ⟨gc, 0, none⟩) L qc)) W from hK W (Below.refl _ _) trivial)
      clear hK ld lq hmem
      unfold Oper.wp
      simp only [execOp, e19]
      exact HK.out
    | 1, _ =>
      obtain ⟨ty, pos, aft, e, hdp⟩ := iop1
      rw [e] at ho
      obtain rfl := Option.some.inj ho
      intro a' hds W K hB lq ld hmem hK
      have e26 : a'.eval (.tmp 26) = .int .i64 (q : Int) := by rw [eval_tmp]; exact lq (26, .int .i64 (q : Int)) (by simp)
      have t26 := (eval_tmp a' 26).symm.trans e26
      have HK := Lib.hid (show K (a'.put (some 231) (.int .i64 (q : Int))) W from hK W (Below.refl _ _) trivial)
      clear hK ld lq hmem
      unfold Oper.wp
      simp only [execOp, e26]
      exact HK.out
    | 2, _ =>
      obtain ⟨ty, pos, aft, e, hdp⟩ := iop2
      rw [e] at ho
      obtain rfl := Option.some.inj ho
      intro a' hds W K hB lq ld hmem hK
      have e230 : a'.eval (.tmp 230) = .slice (some ⟨gc, 0, none⟩) L qc := by rw [eval_tmp]; exact ld 0 230 (List.all_eq_true.1 hdp 0 (by decide)) rfl
      have t230 := (eval_tmp a' 230).symm.trans e230
      have e231 : a'.eval (.tmp 231) = .int .i64 (q : Int) := by rw [eval_tmp]; exact ld 1 231 (List.all_eq_true.1 hdp 1 (by decide)) rfl
      have t231 := (eval_tmp a' 231).symm.trans e231
      have HK := Lib.hid (show K (a'.put (some 232) (.pointer (some ⟨gc, q, none⟩))) W from hK W (Below.refl _ _) trivial)
      clear hK ld lq hmem
      unfold Oper.wp
      simp only [execOp, e230, e231]
      go_simp
      exact HK.out
    | 3, _ =>
      obtain ⟨ty, pos, aft, e, hdp⟩ := iop3
      rw [e] at ho
      obtain rfl := Option.some.inj ho
      intro a' hds W K hB lq ld hmem hK
      have e232 : a'.eval (.tmp 232) = .pointer (some ⟨gc, q, none⟩) := by rw [eval_tmp]; exact ld 2 232 (List.all_eq_true.1 hdp 2 (by decide)) rfl
      have t232 := (eval_tmp a' 232).symm.trans e232
      have HK := Lib.hid (show K (a'.put (some 233) (.string s2)) W from hK W (Below.refl _ _) trivial)
      clear hK ld lq hmem
      have h0 := (hsc.below hB hgc) q (by omega)
      rw [Nat.zero_add, hs] at h0
      unfold Oper.wp
      simp only [execOp, e232]
      go_simp
      exact HK.out
    | 4, _ =>
      obtain ⟨ty, pos, aft, e, hdp⟩ := iop4
      rw [e] at ho
      obtain rfl := Option.some.inj ho
      intro a' hds W K hB lq ld hmem hK
      have e27 : a'.eval (.tmp 27) = .int .i64 (v : Int) := by rw [eval_tmp]; exact lq (27, .int .i64 (v : Int)) (by simp)
      have t27 := (eval_tmp a' 27).symm.trans e27
      have HK := Lib.hid (show K (a'.put (some 234) (.int .i64 (v : Int))) W from hK W (Below.refl _ _) trivial)
      clear hK ld lq hmem
      unfold Oper.wp
      simp only [execOp, e27]
      exact HK.out
    | 5, _ =>
      obtain ⟨ty, pos, aft, e, hdp⟩ := iop5
      rw [e] at ho
      obtain rfl := Option.some.inj ho
      intro a' hds W K hB lq ld hmem hK
      have e233 : a'.eval (.tmp 233) = .string s2 := by rw [eval_tmp]; exact ld 3 233 (List.all_eq_true.1 hdp 3 (by decide)) rfl
      have t233 := (eval_tmp a' 233).symm.trans e233
      have e234 : a'.eval (.tmp 234) = .int .i64 (v : Int) := by rw [eval_tmp]; exact ld 4 234 (List.all_eq_true.1 hdp 4 (by decide)) rfl
      have t234 := (eval_tmp a' 234).symm.trans e234
      have HK := Lib.hid (show K (a'.put (some 235) (.int .u8 X1)) W from hK W (Below.refl _ _) trivial)
      clear hK ld lq hmem
      have hi := hi1 W
      unfold Oper.wp
      simp only [execOp, e233, e234]
      go_simp
      exact HK.out
    | 6, _ =>
      obtain ⟨ty, pos, aft, e, hdp⟩ := iop6
      rw [e] at ho
      obtain rfl := Option.some.inj ho
      intro a' hds W K hB lq ld hmem hK
      have e19 : a'.eval (.tmp 19) = .slice (some ⟨gc, 0, none⟩) L qc := by rw [eval_tmp]; exact lq (19, .slice (some ⟨gc, 0, none⟩) L qc) (by simp)
      have t19 := (eval_tmp a' 19).symm.trans e19
      have HK := Lib.hid (show K (a'.put (some 236) (.slice (some ⟨gc, 0, none⟩) L qc)) W from hK W (Below.refl _ _) trivial)
      clear hK ld lq hmem
      unfold Oper.wp
      simp only [execOp, e19]
      exact HK.out
    | 7, _ =>
      obtain ⟨ty, pos, aft, e, hdp⟩ := iop7
      rw [e] at ho
      obtain rfl := Option.some.inj ho
      intro a' hds W K hB lq ld hmem hK
      have e26 : a'.eval (.tmp 26) = .int .i64 (q : Int) := by rw [eval_tmp]; exact lq (26, .int .i64 (q : Int)) (by simp)
      have t26 := (eval_tmp a' 26).symm.trans e26
      have HK := Lib.hid (show K (a'.put (some 237) (.int .i64 (q : Int))) W from hK W (Below.refl _ _) trivial)
      clear hK ld lq hmem
      unfold Oper.wp
      simp only [execOp, e26]
      exact HK.out
    | 8, _ =>
      obtain ⟨ty, pos, aft, e, hdp⟩ := iop8
      rw [e] at ho
      obtain rfl := Option.some.inj ho
      intro a' hds W K hB lq ld hmem hK
      have e236 : a'.eval (.tmp 236) = .slice (some ⟨gc, 0, none⟩) L qc := by rw [eval_tmp]; exact ld 6 236 (List.all_eq_true.1 hdp 6 (by decide)) rfl
      have t236 := (eval_tmp a' 236).symm.trans e236
      have e237 : a'.eval (.tmp 237) = .int .i64 (q : Int) := by rw [eval_tmp]; exact ld 7 237 (List.all_eq_true.1 hdp 7 (by decide)) rfl
      have t237 := (eval_tmp a' 237).symm.trans e237
      have HK := Lib.hid (show K (a'.put (some 238) (.pointer (some ⟨gc, q, none⟩))) W from hK W (Below.refl _ _) trivial)
      clear hK ld lq hmem
      unfold Oper.wp
      simp only [execOp, e236, e237]
      go_simp
      exact HK.out
    | 9, _ =>
      obtain ⟨ty, pos, aft, e, hdp⟩ := iop9
      rw [e] at ho
      obtain rfl := Option.some.inj ho
      intro a' hds W K hB lq ld hmem hK
      have e238 : a'.eval (.tmp 238) = .pointer (some ⟨gc, q, none⟩) := by rw [eval_tmp]; exact ld 8 238 (List.all_eq_true.1 hdp 8 (by decide)) rfl
      have t238 := (eval_tmp a' 238).symm.trans e238
      have HK := Lib.hid (show K (a'.put (some 239) (.string s2)) W from hK W (Below.refl _ _) trivial)
      clear hK ld lq hmem
      have h0 := (hsc.below hB hgc) q (by omega)
      rw [Nat.zero_add, hs] at h0
      unfold Oper.wp
      simp only [execOp, e238]
      go_simp
      exact HK.out
    | 10, _ =>
      obtain ⟨ty, pos, aft, e, hdp⟩ := iop10
      rw [e] at ho
      obtain rfl := Option.some.inj ho
      intro a' hds W K hB lq ld hmem hK
      have e24 : a'.eval (.tmp 24) = .int .i64 (s : Int) := by rw [eval_tmp]; exact lq (24, .int .i64 (s : Int)) (by simp)
      have t24 := (eval_tmp a' 24).symm.trans e24
      have HK := Lib.hid (show K (a'.put (some 240) (.int .i64 (s : Int))) W from hK W (Below.refl _ _) trivial)
      clear hK ld lq hmem
      unfold Oper.wp
      simp only [execOp, e24]
      exact HK.out
    | 11, _ =>
      obtain ⟨ty, pos, aft, e, hdp⟩ := iop11
      rw [e] at ho
      obtain rfl := Option.some.inj ho
      intro a' hds W K hB lq ld hmem hK
      have e27 : a'.eval (.tmp 27) = .int .i64 (v : Int) := by rw [eval_tmp]; exact lq (27, .int .i64 (v : Int)) (by simp)
      have t27 := (eval_tmp a' 27).symm.trans e27
      have HK := Lib.hid (show K (a'.put (some 241) (.int .i64 (v : Int))) W from hK W (Below.refl _ _) trivial)
      clear hK ld lq hmem
      unfold Oper.wp
      simp only [execOp, e27]
      exact HK.out
    | 12, _ =>
      obtain ⟨ty, pos, aft, e, hdp⟩ := iop12
      rw [e] at ho
      obtain rfl := Option.some.inj ho
      intro a' hds W K hB lq ld hmem hK
      have e240 : a'.eval (.tmp 240) = .int .i64 (s : Int) := by rw [eval_tmp]; exact ld 10 240 (List.all_eq_true.1 hdp 10 (by decide)) rfl
      have t240 := (eval_tmp a' 240).symm.trans e240
      have e241 : a'.eval (.tmp 241) = .int .i64 (v : Int) := by rw [eval_tmp]; exact ld 11 241 (List.all_eq_true.1 hdp 11 (by decide)) rfl
      have t241 := (eval_tmp a' 241).symm.trans e241
      have HK := Lib.hid (show K (a'.put (some 242) (.int .i64 ((s : Int) - (v : Int)))) W from hK W (Below.refl _ _) trivial)
      clear hK ld lq hmem
      unfold Oper.wp
      simp only [execOp, e240, e241]
      go_simp
      rw [show IntKind.i64.wrap ((s : Int) - (v : Int)) = (s : Int) - (v : Int) from IntWalk.i64_in _ (by omega)]; exact HK.out
    | 13, _ =>
      obtain ⟨ty, pos, aft, e, hdp⟩ := iop13
      rw [e] at ho
      obtain rfl := Option.some.inj ho
      intro a' hds W K hB lq ld hmem hK
      have e5 : a'.eval (.tmp 5) = .pointer (some ⟨E, 0, none⟩) := by rw [eval_tmp]; exact lq (5, .pointer (some ⟨E, 0, none⟩)) (by simp)
      have t5 := (eval_tmp a' 5).symm.trans e5
      have HK := Lib.hid (show K (a'.put (some 243) (.pointer (some ⟨E, 1, none⟩))) W from hK W (Below.refl _ _) trivial)
      clear hK ld lq hmem
      unfold Oper.wp
      simp only [execOp, e5]
      go_simp
      exact HK.out
    | 14, _ =>
      obtain ⟨ty, pos, aft, e, hdp⟩ := iop14
      rw [e] at ho
      obtain rfl := Option.some.inj ho
      intro a' hds W K hB lq ld hmem hK
      have e243 : a'.eval (.tmp 243) = .pointer (some ⟨E, 1, none⟩) := by rw [eval_tmp]; exact ld 13 243 (List.all_eq_true.1 hdp 13 (by decide)) rfl
      have t243 := (eval_tmp a' 243).symm.trans e243
      have HK := Lib.hid (show K (a'.put (some 244) (.slice (some ⟨gh, 0, none⟩) T qh)) W from hK W (Below.refl _ _) trivial)
      clear hK ld lq hmem
      have c1 := (hE.next hB).cell' 1 rfl
      unfold Oper.wp
      simp only [execOp, e243]
      go_simp
      exact HK.out
    | 15, _ =>
      obtain ⟨pos, aft, e, hdp⟩ := iop15
      rw [e] at ho
      obtain rfl := Option.some.inj ho
      intro a' hds W K hB lq ld hmem hK
      have e244 : a'.eval (.tmp 244) = .slice (some ⟨gh, 0, none⟩) T qh := by rw [eval_tmp]; exact ld 14 244 (List.all_eq_true.1 hdp 14 (by decide)) rfl
      have t244 := (eval_tmp a' 244).symm.trans e244
      have HK := Lib.hid (show K (a'.put (some 245) (.int .i64 (T : Int))) W from hK W (Below.refl _ _) trivial)
      clear hK ld lq hmem
      unfold Oper.wp
      simp only [execOp, e244]
      go_simp
      exact HK.out
    | 16, _ =>
      obtain ⟨ty, pos, aft, e, hdp⟩ := iop16
      rw [e] at ho
      obtain rfl := Option.some.inj ho
      intro a' hds W K hB lq ld hmem hK
      have e245 : a'.eval (.tmp 245) = .int .i64 (T : Int) := by rw [eval_tmp]; exact ld 15 245 (List.all_eq_true.1 hdp 15 (by decide)) rfl
      have t245 := (eval_tmp a' 245).symm.trans e245
      have HK := Lib.hid (show K (a'.put (some 246) (.int .i64 (T2 : Int))) W from hK W (Below.refl _ _) trivial)
      clear hK ld lq hmem
      unfold Oper.wp
      simp only [execOp, e245]
      go_simp
      rw [(by rw [IntWalk.i64_in _ (by omega)]; omega : IntKind.i64.wrap (2 * (T : Int)) = ((T2 : Nat) : Int))]; exact HK.out
    | 17, _ =>
      obtain ⟨ty, pos, aft, e, hdp⟩ := iop17
      rw [e] at ho
      obtain rfl := Option.some.inj ho
      intro a' hds W K hB lq ld hmem hK
      have e242 : a'.eval (.tmp 242) = .int .i64 ((s : Int) - (v : Int)) := by rw [eval_tmp]; exact ld 12 242 (List.all_eq_true.1 hdp 12 (by decide)) rfl
      have t242 := (eval_tmp a' 242).symm.trans e242
      have e246 : a'.eval (.tmp 246) = .int .i64 (T2 : Int) := by rw [eval_tmp]; exact ld 16 246 (List.all_eq_true.1 hdp 16 (by decide)) rfl
      have t246 := (eval_tmp a' 246).symm.trans e246
      have HK := Lib.hid (show K (a'.put (some 247) (.int .i64 (u : Int))) W from hK W (Below.refl _ _) trivial)
      clear hK ld lq hmem
      unfold Oper.wp
      simp only [execOp, e242, e246]
      go_simp
      rw [(by rw [IntWalk.i64_in _ (by omega)]; omega : IntKind.i64.wrap ((s : Int) - (v : Int) + (T2 : Int)) = ((u : Nat) : Int))]; exact HK.out
    | 18, _ =>
      obtain ⟨ty, pos, aft, e, hdp⟩ := iop18
      rw [e] at ho
      obtain rfl := Option.some.inj ho
      intro a' hds W K hB lq ld hmem hK
      have e5 : a'.eval (.tmp 5) = .pointer (some ⟨E, 0, none⟩) := by rw [eval_tmp]; exact lq (5, .pointer (some ⟨E, 0, none⟩)) (by simp)
      have t5 := (eval_tmp a' 5).symm.trans e5
      have HK := Lib.hid (show K (a'.put (some 248) (.pointer (some ⟨E, 1, none⟩))) W from hK W (Below.refl _ _) trivial)
      clear hK ld lq hmem
      unfold Oper.wp
      simp only [execOp, e5]
      go_simp
      exact HK.out
    | 19, _ =>
      obtain ⟨ty, pos, aft, e, hdp⟩ := iop19
      rw [e] at ho
      obtain rfl := Option.some.inj ho
      intro a' hds W K hB lq ld hmem hK
      have e248 : a'.eval (.tmp 248) = .pointer (some ⟨E, 1, none⟩) := by rw [eval_tmp]; exact ld 18 248 (List.all_eq_true.1 hdp 18 (by decide)) rfl
      have t248 := (eval_tmp a' 248).symm.trans e248
      have HK := Lib.hid (show K (a'.put (some 249) (.slice (some ⟨gh, 0, none⟩) T qh)) W from hK W (Below.refl _ _) trivial)
      clear hK ld lq hmem
      have c1 := (hE.next hB).cell' 1 rfl
      unfold Oper.wp
      simp only [execOp, e248]
      go_simp
      exact HK.out
    | 20, _ =>
      obtain ⟨pos, aft, e, hdp⟩ := iop20
      rw [e] at ho
      obtain rfl := Option.some.inj ho
      intro a' hds W K hB lq ld hmem hK
      have e249 : a'.eval (.tmp 249) = .slice (some ⟨gh, 0, none⟩) T qh := by rw [eval_tmp]; exact ld 19 249 (List.all_eq_true.1 hdp 19 (by decide)) rfl
      have t249 := (eval_tmp a' 249).symm.trans e249
      have HK := Lib.hid (show K (a'.put (some 250) (.int .i64 (T : Int))) W from hK W (Below.refl _ _) trivial)
      clear hK ld lq hmem
      unfold Oper.wp
      simp only [execOp, e249]
      go_simp
      exact HK.out
    | 21, _ =>
      obtain ⟨ty, pos, aft, e, hdp⟩ := iop21
      rw [e] at ho
      obtain rfl := Option.some.inj ho
      intro a' hds W K hB lq ld hmem hK
      have e247 : a'.eval (.tmp 247) = .int .i64 (u : Int) := by rw [eval_tmp]; exact ld 17 247 (List.all_eq_true.1 hdp 17 (by decide)) rfl
      have t247 := (eval_tmp a' 247).symm.trans e247
      have e250 : a'.eval (.tmp 250) = .int .i64 (T : Int) := by rw [eval_tmp]; exact ld 20 250 (List.all_eq_true.1 hdp 20 (by decide)) rfl
      have t250 := (eval_tmp a' 250).symm.trans e250
      have HK := Lib.hid (show K (a'.put (some 251) (.int .i64 (r : Int))) W from hK W (Below.refl _ _) trivial)
      clear hK ld lq hmem
      have hy0 : ¬ (T : Int) = 0 := by omega
      have hr0 := tmod_nn u T
      rw [hr] at hr0
      unfold Oper.wp
      simp only [execOp, e247, e250]
      go_simp
      rw [if_neg (show ¬ T = 0 by omega)]; go_simp; exact HK.out
    | 22, _ =>
      obtain ⟨ty, pos, aft, e, hdp⟩ := iop22
      rw [e] at ho
      obtain rfl := Option.some.inj ho
      intro a' hds W K hB lq ld hmem hK
      have e239 : a'.eval (.tmp 239) = .string s2 := by rw [eval_tmp]; exact ld 9 239 (List.all_eq_true.1 hdp 9 (by decide)) rfl
      have t239 := (eval_tmp a' 239).symm.trans e239
      have e251 : a'.eval (.tmp 251) = .int .i64 (r : Int) := by rw [eval_tmp]; exact ld 21 251 (List.all_eq_true.1 hdp 21 (by decide)) rfl
      have t251 := (eval_tmp a' 251).symm.trans e251
      have HK := Lib.hid (show K (a'.put (some 252) (.int .u8 X1)) W from hK W (Below.refl _ _) trivial)
      clear hK ld lq hmem
      have hi := hi2 W
      unfold Oper.wp
      simp only [execOp, e239, e251]
      go_simp
      exact HK.out
    | 23, _ =>
      obtain ⟨ty, pos, aft, e, hdp⟩ := iop23
      rw [e] at ho
      obtain rfl := Option.some.inj ho
      intro a' hds W K hB lq ld hmem hK
      have e235 : a'.eval (.tmp 235) = .int .u8 X1 := by rw [eval_tmp]; exact ld 5 235 (List.all_eq_true.1 hdp 5 (by decide)) rfl
      have t235 := (eval_tmp a' 235).symm.trans e235
      have e252 : a'.eval (.tmp 252) = .int .u8 X1 := by rw [eval_tmp]; exact ld 22 252 (List.all_eq_true.1 hdp 22 (by decide)) rfl
      have t252 := (eval_tmp a' 252).symm.trans e252
      have HK := Lib.hid (show K (a'.put (some 253) (.bool false)) W from hK W (Below.refl _ _) trivial)
      clear hK ld lq hmem
      unfold Oper.wp
      simp only [execOp, e235, e252]
      go_simp
      exact HK.out
    | i + 24, h => omega
  · intro hds v W hO
    have hfin := gend (v 230) (v 231) (v 232) (v 233) (v 234) (v 235) (v 236) (v 237) (v 238) (v 239) (v 240) (v 241) (v 242) (v 243) (v 244) (v 245) (v 246) (v 247) (v 248) (v 249) (v 250) (v 251) (v 252) W hO.b
    rw [← laid_putL _ a v ?_] at hfin
    · exact hfin
    · intro p hp
      simp only [List.mem_cons, List.not_mem_nil, or_false] at hp
      rcases hp with rfl | rfl | rfl | rfl | rfl | rfl | rfl | rfl | rfl | rfl | rfl | rfl | rfl | rfl | rfl | rfl | rfl | rfl | rfl | rfl | rfl | rfl | rfl | rfl
      · rfl
      · rfl
      · rfl
      · rfl
      · rfl
      · rfl
      · rfl
      · rfl
      · rfl
      · rfl
      · rfl
      · rfl
      · rfl
      · rfl
      · rfl
      · rfl
      · rfl
      · rfl
      · rfl
      · rfl
      · rfl
      · rfl
      · rfl
      · exact hO.x 23 (show 23 < 24 by decide) 253 rfl
end Go.Proofs.Ytdmgffoikebgkaa
/- TieEdges: the walk. -/
namespace Go.Proofs.Ytdmgffoikebgkaa
open Go.RowKit Go.Shelf
attribute [local go_sem] Oper.semAt_some

theorem tieRightE (b c n L : Nat) (ps : List Nat) (w : World) (h : ClAt w b 0 n ps) (hL : ps.length = L) (hl : L ≤ 60) :
    Calls Try.prog 65 #[.slice (some ⟨b, 0, none⟩) L c, .int .i64 (L : Int), .int .i64 (n : Int)] w fun e w' => e = .returned (.bool true) ∧ Below w.heap.size w w' :=
  (tieRight b c n L ps w h hL hl).mono fun e w' h => ⟨h.1, by rw [h.2]; exact Below.refl _ _⟩
set_option maxRecDepth 100000 in
set_option maxHeartbeats 8000000 in
theorem TieEdges_any (H A0 A1 A2 : Nat) (p1 p2 : Option Addr) (c1 c2 : Nat) (ws rs : List Nat) (w : World) (hH : H < 256) (hA0 : A0 < 256) (hA1 : A1 < 256) (hA2 : A2 < 256) (hw : ByteRow w p1 ws) (hr : WordRow w p2 rs) (hwl : ws.length ≤ 9223372036854775807) (hrl : rs.length ≤ 9223372036854775807) :
    Calls Try.prog 12 #[.agg (lomA H p1 p2 ws.length c1 rs.length c2), .agg #[.int .u8 (A0 : Int), .int .u8 (A1 : Int), .int .u8 (A2 : Int)]] w fun e w' => e = .returned (.bool true) ∧ Below w.heap.size w w' := by
  obtain ⟨w0, hw0⟩ : ∃ w0, w0 = (w.alloc (.cells (lomA H p1 p2 ws.length c1 rs.length c2) 92)).alloc (.cells #[.int .u8 (A0 : Int), .int .u8 (A1 : Int), .int .u8 (A2 : Int)] 104) := ⟨_, rfl⟩
  have hb0 : Below w.heap.size w w0 := by rw [hw0]; exact ((Below.refl _ _).alloc (Nat.le_refl _) _).alloc (by simp) _
  have hA : BoxAt w0 w.heap.size (lomA H p1 p2 ws.length c1 rs.length c2) 92 := by rw [hw0]; exact (BoxAt.new w _ _).next ((Below.refl _ _).alloc (Nat.le_refl _) _)
  have hP : BoxAt w0 (w.heap.size + 1) #[.int .u8 (A0 : Int), .int .u8 (A1 : Int), .int .u8 (A2 : Int)] 104 := by
    rw [hw0]; have := BoxAt.new (w.alloc (.cells (lomA H p1 p2 ws.length c1 rs.length c2) 92)) #[.int .u8 (A0 : Int), .int .u8 (A1 : Int), .int .u8 (A2 : Int)] 104; rw [World.size_alloc] at this; exact this
  obtain ⟨hk1, hk2⟩ := loomL_bdM 48 ws.length (by omega)
  obtain ⟨hk3, hk4⟩ := loomL_bdM 12 rs.length (by omega)
  have H63 : ∀ W, Below w0.heap.size w0 W → Calls Try.prog 63 #[.agg (lomA H p1 p2 ws.length c1 rs.length c2)] W (MadeL (lomN H) (loomL 48 ws.length) (hsTo (lomN H) ws (loomL 48 ws.length)) W) := fun W hb =>
    (lomHarness_any H p1 p2 c1 rs.length c2 ws W hH (ByteRow.next hw (hb0.trans (hb.mono hb0.size))) hwl).mono (by
      rintro e w' ⟨v, rfl, h1, h2⟩
      obtain ⟨g, c, rfl⟩ := row_slice h1 (by omega)
      obtain ⟨h3, h4, h5⟩ := nats_of_row h1 (by omega)
      exact ⟨g, c, rfl, h3, h5, h4, h2⟩)
  have H64 : ∀ W, Below w0.heap.size w0 W → Calls Try.prog 64 #[.agg (lomA H p1 p2 ws.length c1 rs.length c2)] W (MadeL (lomN H) (loomL 12 rs.length) (dsTo (lomN H) rs (loomL 12 rs.length)) W) := fun W hb =>
    (lomDesign_any H p1 p2 ws.length c1 c2 rs W hH (WordRow.next hr (hb0.trans (hb.mono hb0.size))) hrl).mono (by
      rintro e w' ⟨v, rfl, h1, h2⟩
      obtain ⟨g, c, rfl⟩ := row_slice h1 (by omega)
      obtain ⟨h3, h4, h5⟩ := nats_of_row h1 (by omega)
      exact ⟨g, c, rfl, h3, h5, h4, h2⟩)
  obtain ⟨hN1, hN2⟩ := lomN_bd H
  have hVd := dsTo_validM (lomN H) rs (loomL 12 rs.length) hN1 (by omega) hk3 (by omega)
  have hDl := dsTo_len (lomN H) rs (loomL 12 rs.length)
  have hHk := fun i (hi : i < loomL 48 ws.length) => hsTo_nthT (lomN H) ws (loomL 48 ws.length) i hN1 hi
  have hHl := hsTo_len (lomN H) ws (loomL 48 ws.length)
  obtain ⟨L, hL⟩ : ∃ L, loomL 12 rs.length = L := ⟨_, rfl⟩
  obtain ⟨T, hT⟩ : ∃ T, loomL 48 ws.length = T := ⟨_, rfl⟩
  obtain ⟨N, hN⟩ : ∃ N, lomN H = N := ⟨_, rfl⟩
  rw [hL] at hk3 hk4
  rw [hT] at hk1 hk2
  rw [hN, hL] at hVd hDl
  simp only [hN, hL] at H64
  simp only [hN, hT] at H63 hHk hHl
  rw [hN] at hN1 hN2
  obtain ⟨DS, hDS⟩ : ∃ DS, dsTo N rs L = DS := ⟨_, rfl⟩
  obtain ⟨HS, hHS⟩ : ∃ HS, hsTo N ws T = HS := ⟨_, rfl⟩
  rw [hDS] at hVd hDl
  simp only [hDS] at H64
  simp only [hHS] at H63 hHk hHl
  clear hN hDS hL hT hHS
  have HVd := Lib.hid hVd
  have HDl := Lib.hid hDl
  have HHk := Lib.hid hHk
  have HHl := Lib.hid hHl
  have HW0 := Lib.hid hw0
  have Hb0 := Lib.hid hb0
  have HA := Lib.hid hA
  have HP := Lib.hid hP
  unfold lomA at HW0 H63 H64 HA ⊢
  have H63' := Lib.hid H63
  have H64' := Lib.hid H64
  clear hw0 hb0 hA hP hw hr hVd hDl H63 H64 hHl hHk
  obtain ⟨T2, hT2⟩ : ∃ T2, T + T = T2 := ⟨_, rfl⟩
  have HT2 := Lib.hid hT2
  have hT96 : T2 ≤ 96 := by omega
  have hT20 : 1 ≤ T2 := by omega
  clear hT2
  have HDl2 := Lib.hid (show (HS ++ HS).length = T2 from by rw [dbl_len, HHl.out, ← HT2.out]; omega)
  have HHk2 := Lib.hid (show ∀ i, i < T2 → nthN (HS ++ HS) i < N from fun i hi => by
    rw [dbl_nth (by rw [HHl.out]; have := HT2.out; omega), HHl.out]
    exact HHk.out _ (Nat.mod_lt _ (by omega)))
  go_enter Try.func12, Try.ntmps12
  go_upto_region 1 with fail
  rw [← HW0.out]
  refine region_te1 w.heap.size N T L (.int .u8 (H : Int)) (.slice p1 ws.length c1) (.slice p2 rs.length c2) HS DS H63'.out H64'.out HA.out rfl ?hops (by kernel_rfl) (by kernel_rfl) (by kernel_rfl) (by kernel_rfl) ?hsz ?hout ?hend
  case hops => exact ⟨⟨_, _, _, rfl, by kernel_rfl⟩, ⟨_, _, _, rfl, by kernel_rfl⟩, ⟨_, _, _, rfl, by kernel_rfl⟩, ⟨_, _, _, rfl, by kernel_rfl⟩, ⟨_, _, _, rfl, by kernel_rfl⟩, ⟨_, _, _, rfl, by kernel_rfl⟩, ⟨_, _, _, rfl, by kernel_rfl⟩, ⟨_, _, _, rfl, by kernel_rfl⟩⟩
  case hsz => intro d hd; simp only [List.mem_cons, List.not_mem_nil, or_false] at hd; show d < 298; omega
  case hout => exact rfl
  case hend =>
    intro g34 q34 G34 Q34 g36 q36 G36 Q36 g5 q5 G5 Q5 g6 q6 G6 Q6 P34 P36 P5 P6 u33 u34 u35 u36 W1 hb1 hm34 hB34 hm36 hB36 hl5 hu5 hl6 hu6 hs5 hs6
    simp only [putL, List.foldl, Act.put, List.setIfInBounds_toArray, List.set_cons_succ, List.set_cons_zero]
    have HPa := Lib.hid (HP.out.next hb1)
    have HDa := Lib.hid hs6
    have HEa := Lib.hid hs5
    have NDa := Lib.hid (show NatL W1 g36 DS from ⟨hm36.1, hm36.2⟩)
    have NHa := Lib.hid (show NatL W1 g34 HS from ⟨hm34.1, hm34.2⟩)
    have Hba := Lib.hid (Hb0.out.trans (hb1.mono Hb0.out.size))
    clear HW0 H63' H64' Hb0 HA HP hb1 hm34 hB34 hm36 hB36 hl5 hu5 hl6 hu6 hs5 hs6
    go_upto_region 2 with fail
    refine region_te2 N g34 q34 g5 T T2 HS HHl.out hk1 (by omega) NHa.out.at' NHa.out.lt HHk.out hN1 (by omega) HT2.out hT96 HEa.out rfl ?hops (by kernel_rfl) (by kernel_rfl) (by kernel_rfl) (by kernel_rfl) ?hsz ?hout ?hend
    case hops => exact ⟨⟨_, _, _, rfl, by kernel_rfl⟩, ⟨_, _, _, rfl, by kernel_rfl⟩, ⟨_, _, _, rfl, by kernel_rfl⟩, ⟨_, _, _, rfl, by kernel_rfl⟩, ⟨_, _, _, rfl, by kernel_rfl⟩, ⟨_, _, _, rfl, by kernel_rfl⟩, ⟨_, _, _, rfl, by kernel_rfl⟩, ⟨_, _, _, rfl, by kernel_rfl⟩, ⟨_, _, _, rfl, by kernel_rfl⟩, ⟨_, _, _, rfl, by kernel_rfl⟩, ⟨_, _, _, rfl, by kernel_rfl⟩⟩
    case hsz => intro d hd; simp only [List.mem_cons, List.not_mem_nil, or_false] at hd; show d < 298; omega
    case hout => exact rfl
    case hend =>
      intro g39 q39 G39 Q39 g41 q41 G41 Q41 g42 q42 G42 Q42 g7 q7 G7 Q7 P39 P41 P42 P7 u38 u39 u40 u41 u42 u37 u43 u44 W2 hb2 hm39 hB39 hm41 hB41 hm42 hB42 hl7 hu7 hs7
      simp only [putL, List.foldl, Act.put, List.setIfInBounds_toArray, List.set_cons_succ, List.set_cons_zero]
      have HS2 := Lib.hid (show TeS w (w.heap.size + 1) g6 g36 q36 g5 g34 q34 N L T A0 A1 A2 DS HS g7 g42 q42 T2 W2 from ⟨HPa.out.next hb2, HDa.out.next hb2, HEa.out.next hb2, NDa.out.next hb2, NHa.out.next hb2, hs7, ⟨hm42.1, hm42.2⟩, Hba.out.trans (hb2.mono Hba.out.size)⟩)
      clear hb2 hm39 hB39 hm41 hB41 hm42 hB42 hl7 hu7 hs7 HPa HDa HEa NDa NHa Hba
      have e0 := HS2.out.e.cell' 0 rfl
      have e1 := HS2.out.e.cell' 1 rfl
      have H28 := Lib.hid (call28 N T g34 q34 HS W2 HHl.out hk1 (by omega) HS2.out.nh.at' HS2.out.nh.lt)
      go_upto_region 3 with fail
      go_wp2_with fail
      refine H28.out.mono ?_
      rintro e W3 ⟨ga, qa, rfl, hna, hla, hga, hbc⟩
      have HS3 := Lib.hid (HS2.out.next hbc)
      have H31 := Lib.hid (call31 N T ga qa HS W3 HHl.out hk1 (by omega) hN1 (by omega) HHk.out hna hga)
      clear hna hla hga hbc HS2 H28 e0 e1
      go_wp2_with fail
      refine H31.out.mono ?_
      rintro e W4 ⟨⟨n1, hp1, rfl⟩, hbc⟩
      have HP1 := Lib.hid hp1
      have HS4 := Lib.hid (HS3.out.next hbc)
      clear hbc hp1 HS3 H31
      have e0 := HS4.out.b7.cell' 0 rfl
      have e1 := HS4.out.b7.cell' 1 rfl
      have H28 := Lib.hid (call28 N T2 g42 q42 (HS ++ HS) W4 HDl2.out hT20 hT96 HS4.out.nb.at' HS4.out.nb.lt)
      go_upto_region 4 with fail
      go_wp2_with fail
      refine H28.out.mono ?_
      rintro e W5 ⟨gb, qb, rfl, hna, hla, hga, hbc⟩
      have HS5 := Lib.hid (HS4.out.next hbc)
      have H31 := Lib.hid (call31 N T2 gb qb (HS ++ HS) W5 HDl2.out hT20 hT96 hN1 (by omega) HHk2.out hna hga)
      clear hna hla hga hbc HS4 H28 e0 e1
      go_wp2_with fail
      refine H31.out.mono ?_
      rintro e W6 ⟨⟨n2, hp2, rfl⟩, hbc⟩
      have HS6 := Lib.hid (HS5.out.next hbc)
      have hnn := rep_dbl (by rw [HHl.out]; exact hk1) HP1.out hp2
      subst hnn
      clear hbc hp2 HS5 H31
      have e0 := HS6.out.e.cell' 0 rfl
      have e1 := HS6.out.e.cell' 1 rfl
      have H28 := Lib.hid (call28 N T g34 q34 HS W6 HHl.out hk1 (by omega) HS6.out.nh.at' HS6.out.nh.lt)
      go_upto_region 5 with fail
      go_wp2_with fail
      refine H28.out.mono ?_
      rintro e W7 ⟨gc, qc, rfl, hna, hla, hga, hbc⟩
      have HS7 := Lib.hid (HS6.out.next hbc)
      have H58 := Lib.hid (call58e N T gc qc 2 HS W7 HHl.out hk1 (by omega) hN1 (by omega) HHk.out hna hga (by decide) (by decide))
      clear hna hla hga hbc HS6 H28 e0 e1
      go_wp2_with fail
      refine H58.out.mono ?_
      rintro e W8 ⟨⟨lo, row, r1, hR, rfl⟩, hbc⟩
      have HR := Lib.hid hR
      have HS8 := Lib.hid (HS7.out.next hbc)
      clear hbc hR HS7 H58
      have e0 := HS8.out.b7.cell' 0 rfl
      have e1 := HS8.out.b7.cell' 1 rfl
      have H28 := Lib.hid (call28 N T2 g42 q42 (HS ++ HS) W8 HDl2.out hT20 hT96 HS8.out.nb.at' HS8.out.nb.lt)
      go_upto_region 6 with fail
      go_wp2_with fail
      refine H28.out.mono ?_
      rintro e W9 ⟨gd, qd, rfl, hna, hla, hga, hbc⟩
      have HS9 := Lib.hid (HS8.out.next hbc)
      have H58 := Lib.hid (call58e N T2 gd qd 2 (HS ++ HS) W9 HDl2.out hT20 hT96 hN1 (by omega) HHk2.out hna hga (by decide) (by decide))
      clear hna hla hga hbc HS8 H28 e0 e1
      go_wp2_with fail
      refine H58.out.mono ?_
      rintro e W10 ⟨⟨lo2, row2, r2, hR2, rfl⟩, hbc⟩
      have HS10 := Lib.hid (HS9.out.next hbc)
      obtain ⟨hwV, hw0⟩ := wor_dbl HR.out hR2 (by rw [HHl.out]; exact hk1) hN1 (by omega)
      have hV2 : wV (HS ++ HS).length lo2 = wV HS.length lo := by
        unfold wV
        by_cases c : lo = 0
        · rw [if_pos c, if_pos (hw0.1 c)]
        · rw [if_neg c, if_neg (fun h => c (hw0.2 h)), hwV]
      have hE2 : wE lo2 = wE lo := by
        unfold wE
        by_cases c : lo = 0
        · rw [if_pos c, if_pos (hw0.1 c)]
        · rw [if_neg c, if_neg (fun h => c (hw0.2 h))]
      rw [hV2, hE2]
      obtain ⟨V, hV⟩ : ∃ V, wV HS.length lo = V := ⟨_, rfl⟩
      obtain ⟨er, her⟩ : ∃ er, wE lo = er := ⟨_, rfl⟩
      rw [hV, her]
      clear hbc hR2 hwV hw0 hV2 hE2 hV her HS9 H58 HR
      go_upto_region 7 with fail
      refine region_te7 N L g36 q36 g6 g34 q34 g5 T DS HS HDl.out HVd.out HS10.out.nd.at' HS10.out.nd.lt HHl.out hk1 (by omega) HS10.out.nh.at' HS10.out.nh.lt HHk.out HS10.out.d HS10.out.e rfl ?hops (by kernel_rfl) (by kernel_rfl) (by kernel_rfl) (by kernel_rfl) ?hsz ?hout ?hend
      case hops => exact ⟨⟨_, _, _, rfl, by kernel_rfl⟩, ⟨_, _, _, rfl, by kernel_rfl⟩, ⟨_, _, _, rfl, by kernel_rfl⟩, ⟨_, _, _, rfl, by kernel_rfl⟩, ⟨_, _, _, rfl, by kernel_rfl⟩, ⟨_, _, _, rfl, by kernel_rfl⟩, ⟨_, _, _, rfl, by kernel_rfl⟩, ⟨_, _, _, rfl, by kernel_rfl⟩, ⟨_, _, _, rfl, by kernel_rfl⟩, ⟨_, _, _, rfl, by kernel_rfl⟩⟩
      case hsz => intro d hd; simp only [List.mem_cons, List.not_mem_nil, or_false] at hd; show d < 298; omega
      case hout => exact ⟨rfl, rfl⟩
      case hend =>
        intro g73 q73 G73 Q73 g75 q75 G75 Q75 g76 q76 G76 Q76 P73 P75 P76 u72 u73 u74 u75 u76 u71 u77 u78 W11 hb11 hm73 hB73 hm75 hB75 hm76 hB76
        simp only [putL, List.foldl, Act.put, List.setIfInBounds_toArray, List.set_cons_succ, List.set_cons_zero]
        have HC11 := Lib.hid (show TeC w (w.heap.size + 1) g6 g36 q36 g5 g34 q34 N L T A0 A1 A2 DS HS g7 g42 q42 T2 g76 (clothS HS DS) W11 from ⟨HS10.out.next hb11, hm76.1, hm76.2⟩)
        clear hb11 hm73 hB73 hm75 hB75 hm76 hB76 HS10
        go_upto_region 8 with fail
        refine region_te8 N L T2 g36 q36 g6 g42 q42 g7 DS (HS ++ HS) HDl.out HVd.out HC11.out.s.nd.at' HC11.out.s.nd.lt HDl2.out hT20 hT96 HC11.out.s.nb.at' HC11.out.s.nb.lt HHk2.out HC11.out.s.d HC11.out.s.b7 rfl ?hops (by kernel_rfl) (by kernel_rfl) (by kernel_rfl) (by kernel_rfl) ?hsz ?hout ?hend
        case hops => exact ⟨⟨_, _, _, rfl, by kernel_rfl⟩, ⟨_, _, _, rfl, by kernel_rfl⟩, ⟨_, _, _, rfl, by kernel_rfl⟩, ⟨_, _, _, rfl, by kernel_rfl⟩, ⟨_, _, _, rfl, by kernel_rfl⟩, ⟨_, _, _, rfl, by kernel_rfl⟩, ⟨_, _, _, rfl, by kernel_rfl⟩, ⟨_, _, _, rfl, by kernel_rfl⟩, ⟨_, _, _, rfl, by kernel_rfl⟩, ⟨_, _, _, rfl, by kernel_rfl⟩⟩
        case hsz => intro d hd; simp only [List.mem_cons, List.not_mem_nil, or_false] at hd; show d < 298; omega
        case hout => exact ⟨rfl, rfl⟩
        case hend =>
          intro g81 q81 G81 Q81 g83 q83 G83 Q83 g84 q84 G84 Q84 P81 P83 P84 u80 u81 u82 u83 u84 u79 u85 u86 W12 hb12 hm81 hB81 hm83 hB83 hm84 hB84
          simp only [putL, List.foldl, Act.put, List.setIfInBounds_toArray, List.set_cons_succ, List.set_cons_zero]
          have HC12 := Lib.hid (HC11.out.next hb12)
          have NK := Lib.hid (show StrsAt W12 g84 0 (clothS (HS ++ HS) DS) ∧ g84 < W12.heap.size from ⟨hm84.1, hm84.2⟩)
          clear hb12 hm81 hB81 hm83 hB83 hm84 hB84 HC11
          have HPa := Lib.hid (show ClS (clothS HS DS) T (pks HS DS) from by have := cloth_ClS HS DS (by rw [HHl.out]; exact hk1) (by rw [HHl.out]; omega); rw [HHl.out] at this; exact this)
          have HPb := Lib.hid (show ClS (clothS (HS ++ HS) DS) T2 (pks (HS ++ HS) DS) from by have := cloth_ClS (HS ++ HS) DS (by rw [HDl2.out]; exact hT20) (by rw [HDl2.out]; exact hT96); rw [HDl2.out] at this; exact this)
          have HPl := Lib.hid (show (pks HS DS).length = L from by rw [pks_len]; exact HDl.out)
          have HPm := Lib.hid (show (pks (HS ++ HS) DS).length = L from by rw [pks_len]; exact HDl.out)
          have hld := long_dbl (hs := HS) (xs := DS) HDl.out (by rw [HHl.out]; exact hk1)
          rw [HHl.out, show 2 * T = T2 by have := HT2.out; omega] at hld
          have HSa := Lib.hid (fun W (hb : Below W12.heap.size W12 W) => (show StrsAt W g76 0 (clothS HS DS) ∧ g76 < W.heap.size from ⟨HC12.out.c.below hb HC12.out.lc, Nat.lt_of_lt_of_le HC12.out.lc hb.size⟩))
          have HSb := Lib.hid (fun W (hb : Below W12.heap.size W12 W) => (show StrsAt W g84 0 (clothS (HS ++ HS) DS) ∧ g84 < W.heap.size from ⟨NK.out.1.below hb NK.out.2, Nat.lt_of_lt_of_le NK.out.2 hb.size⟩))
          have H65a := Lib.hid (fun W (hb : Below W12.heap.size W12 W) => tieRightE g76 q76 T L (pks HS DS) W (HPa.out.at (HSa.out W hb).1 (HSa.out W hb).2) HPl.out (by omega))
          have H65b := Lib.hid (fun W (hb : Below W12.heap.size W12 W) => tieRightE g84 q84 T2 L (pks (HS ++ HS) DS) W (HPb.out.at (HSb.out W hb).1 (HSb.out W hb).2) HPm.out (by omega))
          have H70a := Lib.hid (fun W (hb : Below W12.heap.size W12 W) => tieLongest_ok T L g76 q76 (clothS HS DS) (pks HS DS) W hk1 (by omega) (by omega) HPa.out HPl.out (HSa.out W hb).1 (HSa.out W hb).2)
          have H70b := Lib.hid (fun W (hb : Below W12.heap.size W12 W) => (show Calls Try.prog 70 #[.slice (some ⟨g84, 0, none⟩) L q84] W fun e w' => e = .returned (.int .i64 (longL (pks HS DS) T L : Int)) ∧ Below W.heap.size W w' from by
            have := tieLongest_ok T2 L g84 q84 (clothS (HS ++ HS) DS) (pks (HS ++ HS) DS) W hT20 hT96 (by omega) HPb.out HPm.out (HSb.out W hb).1 (HSb.out W hb).2
            rw [hld] at this
            exact this))
          have hTn := (HP1.out.gp (by rw [HHl.out]; exact hk1)).1
          rw [HHl.out] at hTn
          have HTn := Lib.hid hTn
          have hn1 := HP1.out.p1
          have hnT := HP1.out.pl
          rw [HHl.out] at hnT
          clear hld hTn
          go_upto_region 9 with fail
          simp only [List.append_eq, List.cons_append, List.nil_append]
          have e1 := HC12.out.s.e.cell' 1 rfl
          have d1 := HC12.out.s.d.cell' 1 rfl
          have hnz : ¬ n1 = 0 := by omega
          have hr0 := tmod_nn T n1
          rw [HTn.out] at hr0
          have hT2i : (2 : Int) * (T : Int) = (T2 : Int) := by have := HT2.out; omega
          have hd1 : decide ((n1 : Int) < 1) = false := decide_eq_false (by omega)
          have hd2 : decide (n1 < 1) = false := decide_eq_false (by omega)
          go_wp2_with fail
          refine (H65a.out _ (Below.refl _ _)).mono ?_
          rintro e X1 ⟨rfl, hx1⟩
          have HX1 := Lib.hid hx1
          have e1 := (HC12.out.next hx1).s.e.cell' 1 rfl
          have d1 := (HC12.out.next hx1).s.d.cell' 1 rfl
          clear hx1
          go_wp2_with fail
          refine (H65b.out _ HX1.out).mono ?_
          rintro e X2 ⟨rfl, hx⟩
          have HX2 := Lib.hid (HX1.out.trans (hx.mono HX1.out.size))
          clear hx e1 d1
          go_wp2_with fail
          refine (H70a.out _ HX2.out).mono ?_
          rintro e X3 ⟨rfl, hx⟩
          have HX3 := Lib.hid (HX2.out.trans (hx.mono HX2.out.size))
          clear hx
          go_wp2_with fail
          refine (H70b.out _ HX3.out).mono ?_
          rintro e X4 ⟨rfl, hx⟩
          have HC13 := Lib.hid (HC12.out.next (HX3.out.trans (hx.mono HX3.out.size)))
          clear hx HX1 HX2 HX3 HC12 NK H65a H65b H70a H70b HSa HSb hnz hr0 hT2i hd1 hd2
          obtain ⟨M, hNa, hNb⟩ : ∃ M, N ≤ M + 1 ∧ M + 1 ≤ N := ⟨N - 1, by omega, by omega⟩
          go_wp2_with fail
          go_loopw [23] (fun i wr => ∃ k : Nat, k ≤ T ∧ i = .int .i64 (k : Int) ∧ (TeC w (w.heap.size + 1) g6 g36 q36 g5 g34 q34 N L T A0 A1 A2 DS HS g7 g42 q42 T2 g76 (clothS HS DS)) wr) (fun i _ => T - (intOf i).toNat)
          case atStart => exact ⟨0, Nat.zero_le _, rfl, HC13.out⟩
          case round =>
            obtain ⟨k, hk, rfl, hS⟩ := hrel
            have e1 := hS.s.e.cell' 1 rfl
            have HG := Lib.hid hS
            clear hS HC13
            by_cases hkT : k < T
            · have hck := HG.out.s.nh.cell k (by rw [HHl.out]; exact hkT)
              obtain ⟨r, hr⟩ : ∃ r, k % n1 = r := ⟨_, rfl⟩
              have hrT : r < T := by rw [← hr]; exact Nat.lt_of_le_of_lt (Nat.mod_le _ _) hkT
              have hcr := HG.out.s.nh.cell r (by rw [HHl.out]; exact hrT)
              have hat := HP1.out.at (w := k) (by rw [HHl.out]; exact hkT)
              rw [hr] at hat
              rw [hat] at hck
              obtain ⟨x, hx⟩ : ∃ x, nthN HS r = x := ⟨_, rfl⟩
              rw [hx] at hck hcr
              have hr0 := tmod_nn k n1
              rw [hr] at hr0
              have hnz : ¬ n1 = 0 := by omega
              clear hr hat hx
              go_upto_region 14 with fail
              go_quiet (fail)
              all_goals go_wp2_with fail
              all_goals exact ⟨⟨k + 1, by omega, by go_num, HG.out.next (below_drewN _ _ _)⟩, by simp [intOf]; omega⟩
            · have hkd : decide ((k : Int) < (T : Int)) = false := decide_eq_false (by omega)
              have e0 := HG.out.s.e.cell' 0 rfl
              have H28 := Lib.hid (call28 N T g34 q34 HS wr HHl.out hk1 (by omega) HG.out.s.nh.at' HG.out.s.nh.lt)
              go_upto_region 16 with fail
              go_wp2_with fail
              refine H28.out.mono ?_
              rintro e Y1 ⟨ge, qe, rfl, hna, hla, hga, hbc⟩
              have HG1 := Lib.hid (HG.out.next hbc)
              have H32 := Lib.hid (call32m N T ge qe HS Y1 HHl.out hk1 (by omega) hN1 (by omega) HHk.out hna hga)
              clear hna hla hga hbc HG H28 e0 e1 hkd
              go_wp2_with fail
              refine H32.out.mono ?_
              rintro e Y2 ⟨hM, hbc⟩
              have HG2 := Lib.hid (HG1.out.next hbc)
              clear hbc HG1 H32
              have e1 := HG2.out.s.e.cell' 1 rfl
              rcases hM with ⟨s, hs, hm, _, rfl⟩ | ⟨_, rfl⟩
              · rw [HHl.out] at hs
                have Hm := Lib.hid hm
                clear hm
                have hd0 : decide ((s : Int) < 0) = false := decide_eq_false (by omega)
                have hdT : decide ((T : Int) ≤ (s : Int)) = false := decide_eq_false (by omega)
                have hdT2 : decide (T ≤ s) = false := decide_eq_false (by omega)
                go_upto_region 19 with fail
                clear hd0 hdT hdT2 e1
                go_wp2_with fail
                go_loopw [26] (fun i wr => ∃ q : Nat, q ≤ L ∧ i = .int .i64 (q : Int) ∧ (TeC w (w.heap.size + 1) g6 g36 q36 g5 g34 q34 N L T A0 A1 A2 DS HS g7 g42 q42 T2 g76 (clothS HS DS)) wr) (fun i _ => L - (intOf i).toNat)
                case atStart => exact ⟨0, Nat.zero_le _, rfl, HG2.out⟩
                case round =>
                  obtain ⟨q, hq, rfl, hS⟩ := hrel
                  have HG3 := Lib.hid hS
                  clear hS HG2
                  by_cases hqL : q < L
                  · have hqd : decide ((q : Int) < (L : Int)) = true := decide_eq_true (by omega)
                    go_upto_region 22 with fail
                    go_wp2_with fail
                    go_loopw [27] (fun i wz => ∃ v : Nat, v ≤ T ∧ i = .int .i64 (v : Int) ∧ (TeC w (w.heap.size + 1) g6 g36 q36 g5 g34 q34 N L T A0 A1 A2 DS HS g7 g42 q42 T2 g76 (clothS HS DS)) wz) (fun i _ => T - (intOf i).toNat)
                    case atStart => exact ⟨0, Nat.zero_le _, rfl, HG3.out⟩
                    case round =>
                      obtain ⟨v, hv, rfl, hS⟩ := hrel
                      have e1 := hS.s.e.cell' 1 rfl
                      have HG4 := Lib.hid hS
                      clear hS HG3
                      by_cases hvT : v < T
                      · have hsb := HPa.out.str q (by rw [HPl.out]; exact hqL)
                        obtain ⟨u, hu1, hu2⟩ : ∃ u, u + v ≤ s + T2 ∧ s + T2 ≤ u + v := ⟨s + T2 - v, by have := HT2.out; omega, by have := HT2.out; omega⟩
                        obtain ⟨r, hr⟩ : ∃ r, u % T = r := ⟨_, rfl⟩
                        have hrT : r < T := by rw [← hr]; exact Nat.mod_lt _ (by omega)
                        have hmb := mir_bit (x := nthN DS q) Hm.out (by rw [HHl.out]; exact hs) (show v < HS.length by rw [HHl.out]; exact hvT)
                        rw [HHl.out, show s + 2 * T - v = u by have := HT2.out; omega, hr, ← pks_nth HS DS (by rw [HDl.out]; exact hqL)] at hmb
                        obtain ⟨s2, hs2⟩ : ∃ s2, nthB (clothS HS DS) q = s2 := ⟨_, rfl⟩
                        obtain ⟨pk, hpk⟩ : ∃ pk, nthN (pks HS DS) q = pk := ⟨_, rfl⟩
                        rw [hs2, hpk] at hsb
                        rw [hpk] at hmb
                        have Hs2 := Lib.hid hs2
                        have Hr := Lib.hid hr
                        have Hi1 := Lib.hid (fun W => hsb.idx hvT W)
                        have hby : byteP pk r = byteP pk v := by unfold byteP; rw [hmb]
                        have Hi2 := Lib.hid (show ∀ W, (Instr.index 9 (.string s2) (.int .i64 (r : Int))).run Try.prog W = .ok (.int .u8 (byteP pk v)) W from fun W => by rw [← hby]; exact hsb.idx hrT W)
                        clear hsb hr hmb hs2 hpk hby
                        go_upto_region 25 with fail
                        refine region_te25 N L T T2 g76 q76 g34 q34 g5 q v s u r (clothS HS DS) s2 _ (by rw [clothS_len]; exact HDl.out) hqL hvT hs HT2.out hT96 hu1 hu2 Hr.out HG4.out.c HG4.out.lc Hs2.out Hi1.out Hi2.out HG4.out.s.e rfl ?hops (by kernel_rfl) (by kernel_rfl) (by kernel_rfl) (by kernel_rfl) ?hsz ?hout ?hend
                        case hops => exact ⟨⟨_, _, _, rfl, by kernel_rfl⟩, ⟨_, _, _, rfl, by kernel_rfl⟩, ⟨_, _, _, rfl, by kernel_rfl⟩, ⟨_, _, _, rfl, by kernel_rfl⟩, ⟨_, _, _, rfl, by kernel_rfl⟩, ⟨_, _, _, rfl, by kernel_rfl⟩, ⟨_, _, _, rfl, by kernel_rfl⟩, ⟨_, _, _, rfl, by kernel_rfl⟩, ⟨_, _, _, rfl, by kernel_rfl⟩, ⟨_, _, _, rfl, by kernel_rfl⟩, ⟨_, _, _, rfl, by kernel_rfl⟩, ⟨_, _, _, rfl, by kernel_rfl⟩, ⟨_, _, _, rfl, by kernel_rfl⟩, ⟨_, _, _, rfl, by kernel_rfl⟩, ⟨_, _, _, rfl, by kernel_rfl⟩, ⟨_, _, rfl, by kernel_rfl⟩, ⟨_, _, _, rfl, by kernel_rfl⟩, ⟨_, _, _, rfl, by kernel_rfl⟩, ⟨_, _, _, rfl, by kernel_rfl⟩, ⟨_, _, _, rfl, by kernel_rfl⟩, ⟨_, _, rfl, by kernel_rfl⟩, ⟨_, _, _, rfl, by kernel_rfl⟩, ⟨_, _, _, rfl, by kernel_rfl⟩, ⟨_, _, _, rfl, by kernel_rfl⟩⟩
                        case hsz => intro d hd; simp only [List.mem_cons, List.not_mem_nil, or_false] at hd; show d < 298; omega
                        case hout => exact ⟨rfl, rfl, rfl, rfl, rfl⟩
                        case hend =>
                          intro   u230 u231 u232 u233 u234 u235 u236 u237 u238 u239 u240 u241 u242 u243 u244 u245 u246 u247 u248 u249 u250 u251 u252 Y5 hb5 
                          simp only [putL, List.foldl, Act.put, List.setIfInBounds_toArray, List.set_cons_succ, List.set_cons_zero]
                          have HG5 := Lib.hid (HG4.out.next hb5)
                          clear hb5
                          go_wp2_with fail
                          exact ⟨⟨v + 1, by omega, by go_num, HG5.out⟩, by simp [intOf]; omega⟩
                      · have hvd : decide ((v : Int) < (T : Int)) = false := decide_eq_false (by omega)
                        go_wp2_with fail
                        all_goals exact ⟨⟨q + 1, by omega, by go_num, HG4.out⟩, by simp [intOf]; omega⟩
                  · have hqd : decide ((q : Int) < (L : Int)) = false := decide_eq_false (by omega)
                    obtain ⟨pa, hpa⟩ : ∃ pa, A0 % N = pa := ⟨_, rfl⟩
                    obtain ⟨pb, hpb⟩ : ∃ pb, A1 % N = pb := ⟨_, rfl⟩
                    obtain ⟨p3, hp3⟩ : ∃ p3, A2 % 3 = p3 := ⟨_, rfl⟩
                    have hpaM : pa ≤ M := by have : pa < N := by (rw [← hpa]; exact Nat.mod_lt _ (by omega))
                                             omega
                    have hpbM : pb ≤ M := by have : pb < N := by (rw [← hpb]; exact Nat.mod_lt _ (by omega))
                                             omega
                    have hp3l : p3 < 3 := by rw [← hp3]; exact Nat.mod_lt _ (by decide)
                    obtain ⟨pt, hpt1, hpt2⟩ : ∃ pt, 1 + p3 ≤ pt ∧ pt ≤ 1 + p3 := ⟨1 + p3, Nat.le_refl _, Nat.le_refl _⟩
                    obtain ⟨up, Lh, hup, hdn, hLh⟩ := pt_way pa pb M hpaM hpbM
                    obtain ⟨Ty, hTy⟩ : ∃ Ty, onceT Lh 2 * pt = Ty := ⟨_, rfl⟩
                    have hTy2 : Ty ≤ 96 := by
                      rw [← hTy]
                      exact Nat.le_trans (Nat.mul_le_mul (once_le (by omega)) (show pt ≤ 3 by omega)) (by decide)
                    have hTy1 : 1 ≤ Ty := by
                      rw [← hTy]
                      exact Nat.mul_pos (onceT_pos Lh 2).1 (by omega)
                    have Hpa := Lib.hid hpa
                    have Hpb := Lib.hid hpb
                    have Hp3 := Lib.hid hp3
                    have Hup := Lib.hid hup
                    have Hdn := Lib.hid hdn
                    have HTy := Lib.hid hTy
                    clear hpa hpb hp3 hup hdn hTy
                    go_upto_region 27 with fail
                    refine region_te27 N M T g34 q34 g5 (w.heap.size + 1) A0 A1 A2 pa pb p3 pt Ty Lh up hA0 hA1 hA2 hNa hNb (by omega) Hpa.out Hpb.out Hp3.out hp3l hpt1 hpt2 hpaM hpbM Hup.out Hdn.out HTy.out hTy2 HG3.out.s.e HG3.out.s.p rfl ?hops (by kernel_rfl) (by kernel_rfl) (by kernel_rfl) (by kernel_rfl) ?hsz ?hout ?hend
                    case hops => exact ⟨⟨_, _, _, rfl, by kernel_rfl⟩, ⟨_, _, _, rfl, by kernel_rfl⟩, ⟨_, _, _, rfl, by kernel_rfl⟩, ⟨_, _, _, rfl, by kernel_rfl⟩, ⟨_, _, _, rfl, by kernel_rfl⟩, ⟨_, _, _, rfl, by kernel_rfl⟩, ⟨_, _, _, rfl, by kernel_rfl⟩, ⟨_, _, _, rfl, by kernel_rfl⟩, ⟨_, _, _, rfl, by kernel_rfl⟩, ⟨_, _, _, rfl, by kernel_rfl⟩, ⟨_, _, _, rfl, by kernel_rfl⟩, ⟨_, _, _, rfl, by kernel_rfl⟩, ⟨_, _, _, rfl, by kernel_rfl⟩, ⟨_, _, _, rfl, by kernel_rfl⟩, ⟨_, _, _, rfl, by kernel_rfl⟩, ⟨_, _, _, rfl, by kernel_rfl⟩, ⟨_, _, _, rfl, by kernel_rfl⟩, ⟨_, _, _, rfl, by kernel_rfl⟩, ⟨_, _, _, rfl, by kernel_rfl⟩, ⟨_, _, _, rfl, by kernel_rfl⟩, ⟨_, _, _, rfl, by kernel_rfl⟩, ⟨_, _, _, rfl, by kernel_rfl⟩, ⟨_, _, _, rfl, by kernel_rfl⟩, ⟨_, _, _, rfl, by kernel_rfl⟩, ⟨_, _, _, rfl, by kernel_rfl⟩, ⟨_, _, _, rfl, by kernel_rfl⟩, ⟨_, _, _, rfl, by kernel_rfl⟩, ⟨_, _, _, rfl, by kernel_rfl⟩, ⟨_, _, _, rfl, by kernel_rfl⟩, ⟨_, _, _, rfl, by kernel_rfl⟩⟩
                    case hsz => intro d hd; simp only [List.mem_cons, List.not_mem_nil, or_false] at hd; show d < 298; omega
                    case hout => exact ⟨rfl, rfl⟩
                    case hend =>
                      intro g275 q275 G275 Q275 g276 q276 G276 Q276 g28 q28 G28 Q28 P275 P276 P28 u255 u256 u257 u258 u259 u260 u261 u262 u263 u264 u265 u266 u267 u268 u269 u270 u271 u272 u273 u274 u275 u276 u254 u277 u278 u279 Z1 hz1 hm275 hB275 hm276 hB276 hl28 hu28 hs28
                      simp only [putL, List.foldl, Act.put, List.setIfInBounds_toArray, List.set_cons_succ, List.set_cons_zero]
                      have HBw := Lib.hid (HG3.out.next hz1).s.b
                      have HY := Lib.hid hs28
                      have NY := Lib.hid (show NatL Z1 g276 (ptL up pa Lh pt) from ⟨hm276.1, hm276.2⟩)
                      clear hz1 hm275 hB275 hm276 hB276 hl28 hu28 hs28 HG3
                      have HYl := Lib.hid (show (ptL up pa Lh pt).length = Ty from by rw [ptL_len]; exact HTy.out)
                      have HYk := Lib.hid (show ∀ i, i < Ty → nthN (ptL up pa Lh pt) i < N from fun i hi => Nat.lt_of_lt_of_le (pt_lt hpaM hpbM Hup.out i (by rw [HTy.out]; exact hi)) hNb)
                      have y0 := HY.out.cell' 0 rfl
                      have y1 := HY.out.cell' 1 rfl
                      have H32 := Lib.hid (call32p N Ty g276 q276 (ptL up pa Lh pt) Z1 HYl.out hTy1 hTy2 hN1 (by omega) HYk.out (mir_pt up pa Lh pt (by omega)) NY.out.at' NY.out.lt)
                      go_wp2_with fail
                      refine H32.out.mono ?_
                      rintro e Z2 ⟨rfl, hbc⟩
                      have HBx := Lib.hid (HBw.out.trans (hbc.mono HBw.out.size))
                      clear hbc y0 y1 H32
                      go_upto_region 29 with fail
                      go_wp2_with fail
                      refine (tieKnown _).mono ?_
                      rintro e Z3 ⟨rfl, hbc⟩
                      have Hend := Lib.hid (show Below w.heap.size w Z3 from HBx.out.trans (hbc.mono HBx.out.size))
                      clear hbc
                      go_wp2_with fail
                      go_ret
                      exact ⟨rfl, Hend.out⟩
              · go_upto_region 19 with fail
                go_wp2_with fail
                go_loopw [26] (fun i wr => i = .int .i64 0 ∧ (TeC w (w.heap.size + 1) g6 g36 q36 g5 g34 q34 N L T A0 A1 A2 DS HS g7 g42 q42 T2 g76 (clothS HS DS)) wr) (fun _ _ => 1)
                case atStart => exact ⟨rfl, HG2.out⟩
                case round =>
                  obtain ⟨rfl, hS⟩ := hrel
                  have HG3 := Lib.hid hS
                  clear hS HG2 e1
                  obtain ⟨pa, hpa⟩ : ∃ pa, A0 % N = pa := ⟨_, rfl⟩
                  obtain ⟨pb, hpb⟩ : ∃ pb, A1 % N = pb := ⟨_, rfl⟩
                  obtain ⟨p3, hp3⟩ : ∃ p3, A2 % 3 = p3 := ⟨_, rfl⟩
                  have hpaM : pa ≤ M := by have : pa < N := by (rw [← hpa]; exact Nat.mod_lt _ (by omega))
                                           omega
                  have hpbM : pb ≤ M := by have : pb < N := by (rw [← hpb]; exact Nat.mod_lt _ (by omega))
                                           omega
                  have hp3l : p3 < 3 := by rw [← hp3]; exact Nat.mod_lt _ (by decide)
                  obtain ⟨pt, hpt1, hpt2⟩ : ∃ pt, 1 + p3 ≤ pt ∧ pt ≤ 1 + p3 := ⟨1 + p3, Nat.le_refl _, Nat.le_refl _⟩
                  obtain ⟨up, Lh, hup, hdn, hLh⟩ := pt_way pa pb M hpaM hpbM
                  obtain ⟨Ty, hTy⟩ : ∃ Ty, onceT Lh 2 * pt = Ty := ⟨_, rfl⟩
                  have hTy2 : Ty ≤ 96 := by
                    rw [← hTy]
                    exact Nat.le_trans (Nat.mul_le_mul (once_le (by omega)) (show pt ≤ 3 by omega)) (by decide)
                  have hTy1 : 1 ≤ Ty := by
                    rw [← hTy]
                    exact Nat.mul_pos (onceT_pos Lh 2).1 (by omega)
                  have Hpa := Lib.hid hpa
                  have Hpb := Lib.hid hpb
                  have Hp3 := Lib.hid hp3
                  have Hup := Lib.hid hup
                  have Hdn := Lib.hid hdn
                  have HTy := Lib.hid hTy
                  clear hpa hpb hp3 hup hdn hTy
                  go_upto_region 27 with fail
                  refine region_te27 N M T g34 q34 g5 (w.heap.size + 1) A0 A1 A2 pa pb p3 pt Ty Lh up hA0 hA1 hA2 hNa hNb (by omega) Hpa.out Hpb.out Hp3.out hp3l hpt1 hpt2 hpaM hpbM Hup.out Hdn.out HTy.out hTy2 HG3.out.s.e HG3.out.s.p rfl ?hops (by kernel_rfl) (by kernel_rfl) (by kernel_rfl) (by kernel_rfl) ?hsz ?hout ?hend
                  case hops => exact ⟨⟨_, _, _, rfl, by kernel_rfl⟩, ⟨_, _, _, rfl, by kernel_rfl⟩, ⟨_, _, _, rfl, by kernel_rfl⟩, ⟨_, _, _, rfl, by kernel_rfl⟩, ⟨_, _, _, rfl, by kernel_rfl⟩, ⟨_, _, _, rfl, by kernel_rfl⟩, ⟨_, _, _, rfl, by kernel_rfl⟩, ⟨_, _, _, rfl, by kernel_rfl⟩, ⟨_, _, _, rfl, by kernel_rfl⟩, ⟨_, _, _, rfl, by kernel_rfl⟩, ⟨_, _, _, rfl, by kernel_rfl⟩, ⟨_, _, _, rfl, by kernel_rfl⟩, ⟨_, _, _, rfl, by kernel_rfl⟩, ⟨_, _, _, rfl, by kernel_rfl⟩, ⟨_, _, _, rfl, by kernel_rfl⟩, ⟨_, _, _, rfl, by kernel_rfl⟩, ⟨_, _, _, rfl, by kernel_rfl⟩, ⟨_, _, _, rfl, by kernel_rfl⟩, ⟨_, _, _, rfl, by kernel_rfl⟩, ⟨_, _, _, rfl, by kernel_rfl⟩, ⟨_, _, _, rfl, by kernel_rfl⟩, ⟨_, _, _, rfl, by kernel_rfl⟩, ⟨_, _, _, rfl, by kernel_rfl⟩, ⟨_, _, _, rfl, by kernel_rfl⟩, ⟨_, _, _, rfl, by kernel_rfl⟩, ⟨_, _, _, rfl, by kernel_rfl⟩, ⟨_, _, _, rfl, by kernel_rfl⟩, ⟨_, _, _, rfl, by kernel_rfl⟩, ⟨_, _, _, rfl, by kernel_rfl⟩, ⟨_, _, _, rfl, by kernel_rfl⟩⟩
                  case hsz => intro d hd; simp only [List.mem_cons, List.not_mem_nil, or_false] at hd; show d < 298; omega
                  case hout => exact ⟨rfl, rfl⟩
                  case hend =>
                    intro g275 q275 G275 Q275 g276 q276 G276 Q276 g28 q28 G28 Q28 P275 P276 P28 u255 u256 u257 u258 u259 u260 u261 u262 u263 u264 u265 u266 u267 u268 u269 u270 u271 u272 u273 u274 u275 u276 u254 u277 u278 u279 Z1 hz1 hm275 hB275 hm276 hB276 hl28 hu28 hs28
                    simp only [putL, List.foldl, Act.put, List.setIfInBounds_toArray, List.set_cons_succ, List.set_cons_zero]
                    have HBw := Lib.hid (HG3.out.next hz1).s.b
                    have HY := Lib.hid hs28
                    have NY := Lib.hid (show NatL Z1 g276 (ptL up pa Lh pt) from ⟨hm276.1, hm276.2⟩)
                    clear hz1 hm275 hB275 hm276 hB276 hl28 hu28 hs28 HG3
                    have HYl := Lib.hid (show (ptL up pa Lh pt).length = Ty from by rw [ptL_len]; exact HTy.out)
                    have HYk := Lib.hid (show ∀ i, i < Ty → nthN (ptL up pa Lh pt) i < N from fun i hi => Nat.lt_of_lt_of_le (pt_lt hpaM hpbM Hup.out i (by rw [HTy.out]; exact hi)) hNb)
                    have y0 := HY.out.cell' 0 rfl
                    have y1 := HY.out.cell' 1 rfl
                    have H32 := Lib.hid (call32p N Ty g276 q276 (ptL up pa Lh pt) Z1 HYl.out hTy1 hTy2 hN1 (by omega) HYk.out (mir_pt up pa Lh pt (by omega)) NY.out.at' NY.out.lt)
                    go_wp2_with fail
                    refine H32.out.mono ?_
                    rintro e Z2 ⟨rfl, hbc⟩
                    have HBx := Lib.hid (HBw.out.trans (hbc.mono HBw.out.size))
                    clear hbc y0 y1 H32
                    go_upto_region 29 with fail
                    go_wp2_with fail
                    refine (tieKnown _).mono ?_
                    rintro e Z3 ⟨rfl, hbc⟩
                    have Hend := Lib.hid (show Below w.heap.size w Z3 from HBx.out.trans (hbc.mono HBx.out.size))
                    clear hbc
                    go_wp2_with fail
                    go_ret
                    exact ⟨rfl, Hend.out⟩
end Go.Proofs.Ytdmgffoikebgkaa
