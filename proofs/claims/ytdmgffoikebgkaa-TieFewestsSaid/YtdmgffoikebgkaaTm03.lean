/- TieFewests: its contracts for what is a cloth; a region that draws its order. -/
import Derived.Test.YtdmgffoikebgkaaTb01
import Derived.Test.YtdmgffoikebgkaaTb02
import Derived.Test.YtdmgffoikebgkaaTb03
import Derived.Test.YtdmgffoikebgkaaTb04
import Derived.Test.YtdmgffoikebgkaaTb05
import Derived.Test.YtdmgffoikebgkaaTb06
import Derived.Test.YtdmgffoikebgkaaTb07
import Derived.Test.YtdmgffoikebgkaaTb08
import Derived.Test.YtdmgffoikebgkaaTb09
import Derived.Test.YtdmgffoikebgkaaTb10
import Derived.Test.YtdmgffoikebgkaaTb11
import Derived.Test.YtdmgffoikebgkaaTb12
import Derived.Test.YtdmgffoikebgkaaTb13
import Derived.Test.YtdmgffoikebgkaaTb14
import Derived.Test.YtdmgffoikebgkaaTb15
import Derived.Test.YtdmgffoikebgkaaTb16
import Derived.Test.YtdmgffoikebgkaaTb17
import Derived.Test.YtdmgffoikebgkaaTb18
import Derived.Test.YtdmgffoikebgkaaTb19
import Derived.Test.YtdmgffoikebgkaaTb20
import Derived.Test.YtdmgffoikebgkaaTm02
import Derived.Deep.DeepCutAuto
import Derived.Deep.QuietTactic
import Derived.BigQuiet
namespace Go.Proofs.Ytdmgffoikebgkaa
open Go.RowKit Go.Shelf
attribute [local go_sem] Oper.semAt_some

theorem cltF_zero {ss : List ByteArray} (h : cltF ss = 0) : ss.length ≤ 60 ∧ 0 < ss.length ∧ 1 ≤ (nthB ss 0).size ∧ (nthB ss 0).size ≤ 96 ∧ ∀ s ∈ ss, wrongB (nthB ss 0).size s = false := by
  unfold cltF at h
  by_cases h1 : 60 < ss.length
  · rw [if_pos h1] at h; cases h
  · rw [if_neg h1] at h
    by_cases h2 : ss.length = 0
    · rw [if_pos h2] at h; cases h
    · rw [if_neg h2] at h
      by_cases h3 : frB 1 96 [((nthB ss 0).size : Int)] = true ∧ ss.any (wrongB (nthB ss 0).size) = false
      · obtain ⟨hf, ha⟩ := h3
        rw [List.any_eq_false] at ha
        have hr : 1 ≤ (nthB ss 0).size ∧ (nthB ss 0).size ≤ 96 := by simp [frB] at hf; omega
        exact ⟨by omega, by omega, hr.1, hr.2, fun s hs => by simpa using ha s hs⟩
      · rw [if_neg h3] at h; cases h
/-- a cloth that is one -/
structure FwZ (ss : List ByteArray) (T M : Nat) : Prop where
  cl : ClS ss T (psN ss)
  t0 : 1 ≤ T
  t1 : T ≤ 96
  l0 : 1 ≤ ss.length
  l1 : ss.length ≤ 60
  m : cntF (colL (psN ss)) T = M
theorem fwZ_of {ss : List ByteArray} {M : Nat} (h : cltF ss = 0) (hM : cntF (colL (psN ss)) (nthB ss 0).size = M) : FwZ ss (nthB ss 0).size M := by
  obtain ⟨h1, h2, h3, h4, h5⟩ := cltF_zero h
  exact ⟨clS_of h3 h4 h5, h3, h4, h2, h1, hM⟩
theorem call131f {ss : List ByteArray} {T M : Nat} (h : FwZ ss T M) (hM : 24 < M) (p : Option Addr) (c : Nat) (w : World) (hx : StrR w (.slice p ss.length c) ss) :
    Calls Try.prog 131 #[.slice p ss.length c] w fun e w' => e = .returned (.tuple #[.agg #[.int .i64 0, .slice none 0 0], .int .i64 8]) ∧ Below w.heap.size w w' := by
  obtain ⟨b, off, rfl, hb, hx⟩ := hx.open h.l0
  have H := fewest_full b off c T (psN ss) w (clAt_of h.cl hx hb) (by rw [psN_len]; exact h.l0) (by rw [psN_len]; exact h.l1) h.t0 h.t1 (by rw [h.m]; exact hM)
  rwa [psN_len] at H
theorem call54f {ss : List ByteArray} {T M : Nat} (h : FwZ ss T M) (hM : M ≤ 24) (p : Option Addr) (c : Nat) (w : World) (hx : StrR w (.slice p ss.length c) ss) :
    Calls Try.prog 54 #[.slice p ss.length c] w fun e w' => (∃ g cap g2 cap2, e = .returned (.tuple #[.agg #[.int .i64 (M : Int), .slice (some ⟨g, 0, none⟩) T cap], .agg #[.int .i64 (M : Int), .slice (some ⟨g2, 0, none⟩) ss.length cap2], .int .i64 0]) ∧
        Reads w' (.slice (some ⟨g, 0, none⟩) T cap) (ints (fewL (psN ss) T)) ∧ Reads w' (.slice (some ⟨g2, 0, none⟩) ss.length cap2) (ints (dsnL (fewL (psN ss) T) (psN ss)))) ∧ Below w.heap.size w w' := by
  obtain ⟨b, off, rfl, hb, hx⟩ := hx.open h.l0
  have H := Fewest_any b off c T (psN ss) w (clAt_of h.cl hx hb) (by rw [psN_len]; exact h.l0) (by rw [psN_len]; exact h.l1) h.t0 h.t1 (by rw [h.m]; exact hM)
  rw [psN_len, h.m] at H
  refine H.mono ?_
  rintro e w' ⟨g, cap, g2, cap2, rfl, h1, h2, _, h3, _, h4, hb'⟩
  have l1 := h.l1
  have t1 := h.t1
  refine ⟨⟨g, cap, g2, cap2, rfl, ⟨some ⟨g, 0, none⟩, cap, by rw [ints_len, fewL_len], by rw [ints_len, fewL_len]; omega, fun _ => ⟨g, 0, rfl, h3, h1.ints⟩⟩, ⟨some ⟨g2, 0, none⟩, cap2, by rw [ints_len, dsnL_len, psN_len], by rw [ints_len, dsnL_len, psN_len]; omega, fun _ => ⟨g2, 0, rfl, h4, h2.ints⟩⟩⟩, hb'⟩
theorem call55f {ss : List ByteArray} {T M : Nat} (h : FwZ ss T M) (hM : M ≤ 24) (p : Option Addr) (c : Nat) (w : World) (hx : StrR w (.slice p ss.length c) ss) :
    Calls Try.prog 55 #[.slice p ss.length c] w fun e w' => (∃ g cap, e = .returned (.tuple #[.slice (some ⟨g, 0, none⟩) M cap, .int .i64 0]) ∧ NatsAt w' g 0 (fstL (colL (psN ss)) T) ∧ g < w'.heap.size) ∧ Below w.heap.size w w' := by
  obtain ⟨b, off, rfl, hb, hx⟩ := hx.open h.l0
  have H := Apart_any b off c T (psN ss) w (clAt_of h.cl hx hb) (by rw [psN_len]; exact h.l0) (by rw [psN_len]; exact h.l1) h.t0 h.t1 (by rw [h.m]; exact hM)
  rw [psN_len, h.m, ap_fst h.m] at H
  refine H.mono ?_
  rintro e w' ⟨g, cap, rfl, h1, _, h3, hb'⟩
  exact ⟨⟨g, cap, rfl, h1, h3⟩, hb'⟩
theorem call56f {ss : List ByteArray} {T M : Nat} (h : FwZ ss T M) (p : Option Addr) (c : Nat) (w : World) (hx : StrR w (.slice p ss.length c) ss) :
    Calls Try.prog 56 #[.slice p ss.length c] w fun e w' => (∃ g cap, e = .returned (.slice (some ⟨g, 0, none⟩) M cap) ∧ NatsAt w' g 0 (fstL (colL (psN ss)) T) ∧ g < w'.heap.size) ∧ Below w.heap.size w w' := by
  obtain ⟨b, off, rfl, hb, hx⟩ := hx.open h.l0
  have H := refApart3_any b off c T ss.length ss (psN ss) w h.cl (psN_len ss) h.l0 h.l1 hx hb h.t1
  have hM0 : 0 < M := by rw [← h.m]; exact cntF_pos h.t0
  rw [fstL_len, h.m] at H
  refine H.mono ?_
  rintro e w' ⟨v, rfl, hr, hb'⟩
  obtain ⟨g, cap, rfl⟩ := row_slice hr hM0
  obtain ⟨a, d, _⟩ := nats_of_row hr hM0
  exact ⟨⟨g, cap, rfl, a, d⟩, hb'⟩
theorem call57f {ss : List ByteArray} {T M : Nat} (h : FwZ ss T M) (p : Option Addr) (c : Nat) (w : World) (hx : StrR w (.slice p ss.length c) ss) :
    Calls Try.prog 57 #[.slice p ss.length c] w fun e w' => (∃ g cap, e = .returned (.agg #[.int .i64 (M : Int), .slice (some ⟨g, 0, none⟩) T cap]) ∧ Reads w' (.slice (some ⟨g, 0, none⟩) T cap) (ints (fewL (psN ss) T)) ∧ NatsAt w' g 0 (fewL (psN ss) T) ∧ g < w'.heap.size) ∧ Below w.heap.size w w' := by
  obtain ⟨b, off, rfl, hb, hx⟩ := hx.open h.l0
  have t1 := h.t1
  refine (refFewest3_any b off c T ss.length M ss (psN ss) w h.cl (psN_len ss) h.l0 h.l1 hx hb h.t0 h.t1 h.m).mono ?_
  rintro e w' ⟨g, cap, rfl, h1, _, h3, hb'⟩
  exact ⟨⟨g, cap, rfl, ⟨some ⟨g, 0, none⟩, cap, by rw [ints_len, fewL_len], by rw [ints_len, fewL_len]; omega, fun _ => ⟨g, 0, rfl, h3, h1.ints⟩⟩, h1, h3⟩, hb'⟩
theorem call53f {ss : List ByteArray} {T M : Nat} (h : FwZ ss T M) (hM : M ≤ 24) (p : Option Addr) (c gf qf : Nat) (w : World) (hx : StrR w (.slice p ss.length c) ss) (hn : NatsAt w gf 0 (fewL (psN ss) T)) (hg : gf < w.heap.size) :
    Calls Try.prog 53 #[.agg #[.int .i64 (M : Int), .slice (some ⟨gf, 0, none⟩) T qf], .slice p ss.length c] w fun e w' => ∃ g off cap, e = .returned (.agg #[.int .i64 (M : Int), .slice (some ⟨g, off, none⟩) ss.length cap]) ∧ Reads w' (.slice (some ⟨g, off, none⟩) ss.length cap) (ints (dsnL (fewL (psN ss) T) (psN ss))) ∧ w.heap.size ≤ g ∧ g < w'.heap.size ∧ Below w.heap.size w w' := by
  obtain ⟨b, off, rfl, hb, hx⟩ := hx.open h.l0
  have hTA := few_tat (ps := psN ss) hn hg h.t0 h.t1 (by rw [h.m]; exact hM)
  rw [h.m] at hTA
  have hC := h.cl
  rw [← fewL_len (psN ss) T] at hC
  have H := refUnweave3_any M gf 0 qf b off c ss.length (fewL (psN ss) T) (psN ss) ss w hTA hC (psN_len ss) h.l0 h.l1 hx hb
  have e := uw_eq hTA.hk (few_no (psN ss) T)
  rw [psN_len] at e
  rw [fewL_len, e] at H
  have hdl : (ints (dsnL (fewL (psN ss) T) (psN ss))).length = ss.length := by rw [ints_len, dsnL_len, psN_len]
  have l0 := h.l0
  refine H.mono ?_
  rintro e w' ⟨p, cap, rfl, hRd, hfar, hb'⟩
  rw [hdl] at hRd ⊢
  have hRd0 := hRd
  obtain ⟨p', c', hv, _, hy⟩ := hRd
  rw [hdl] at hv hy
  simp only [Value.slice.injEq, true_and] at hv
  obtain ⟨rfl, rfl⟩ := hv
  obtain ⟨g, o2, rfl, hg2, _⟩ := hy (by omega)
  exact ⟨g, o2, _, rfl, hRd0, hfar _ rfl, hg2, hb'⟩
def region_fs19U : List (List Nat) := [[], [], [], [], [], [], [], [], [], [], [], [], [], [], [], [], [16], [16], [16], [16], [16], [16], [16], [16], [16], [16], [16]]
def region_fs19X (_E _D _F T L M ge qe gd qd gf qf c g7 q7 g11 q11 : Nat) (p : Option Addr) (_ys : List Int) : Nat → (Nat → Hd) → Value
  | 0, _ => .int .i64 0
  | 1, _ => .bool false
  | 2, _ => .bool false
  | 3, _ => .int .i64 0
  | 4, _ => .bool false
  | 5, _ => .bool false
  | 6, _ => .bool false
  | 7, _ => .agg #[.int .i64 (M : Int), .slice (some ⟨ge, 0, none⟩) T qe]
  | 8, _ => .agg #[.int .i64 (M : Int), .slice (some ⟨gf, 0, none⟩) T qf]
  | 9, _ => .bool true
  | 10, _ => .bool false
  | 11, _ => .bool false
  | 12, _ => .bool false
  | 13, _ => .agg #[.int .i64 (M : Int), .slice (some ⟨gd, 0, none⟩) L qd]
  | 14, _ => .agg #[.int .i64 (M : Int), .slice (some ⟨gf, 0, none⟩) T qf]
  | 15, _ => .slice p L c
  | 16, hds => .agg #[.int .i64 (M : Int), .slice (some ⟨(hds 16).b, (hds 16).b2, none⟩) L (hds 16).c]
  | 17, _ => .bool true
  | 18, _ => .bool false
  | 19, _ => .bool false
  | 20, _ => .bool false
  | 21, _ => .slice (some ⟨g7, 0, none⟩) M q7
  | 22, _ => .int .i64 (M : Int)
  | 23, _ => .slice (some ⟨g11, 0, none⟩) M q11
  | 24, _ => .int .i64 (M : Int)
  | 25, _ => .bool false
  | 26, _ => .bool false
  | _ + 27, _ => undef
theorem region_fs19X.congr (E D F T L M ge qe gd qd gf qf c g7 q7 g11 q11 : Nat) (p : Option Addr) (ys : List Int) : ∀ i hds hds', (∀ r ∈ uOf region_fs19U i, hds r = hds' r) → region_fs19X E D F T L M ge qe gd qd gf qf c g7 q7 g11 q11 p ys i hds = region_fs19X E D F T L M ge qe gd qd gf qf c g7 q7 g11 q11 p ys i hds'
  | 0, _, _, _ => rfl
  | 1, _, _, _ => rfl
  | 2, _, _, _ => rfl
  | 3, _, _, _ => rfl
  | 4, _, _, _ => rfl
  | 5, _, _, _ => rfl
  | 6, _, _, _ => rfl
  | 7, _, _, _ => rfl
  | 8, _, _, _ => rfl
  | 9, _, _, _ => rfl
  | 10, _, _, _ => rfl
  | 11, _, _, _ => rfl
  | 12, _, _, _ => rfl
  | 13, _, _, _ => rfl
  | 14, _, _, _ => rfl
  | 15, _, _, _ => rfl
  | 16, hds, hds', h => by simp only [region_fs19X, h 16 (show 16 ∈ uOf region_fs19U 16 by decide)]
  | 17, _, _, _ => rfl
  | 18, _, _, _ => rfl
  | 19, _, _, _ => rfl
  | 20, _, _, _ => rfl
  | 21, _, _, _ => rfl
  | 22, _, _, _ => rfl
  | 23, _, _, _ => rfl
  | 24, _, _, _ => rfl
  | 25, _, _, _ => rfl
  | 26, _, _, _ => rfl
  | _ + 27, _, _, _ => rfl
def region_fs19M (_E _D _F _T L _M _ge _qe _gd _qd _gf _qf _c _g7 _q7 _g11 _q11 : Nat) (_p : Option Addr) (ys : List Int) : Nat → Mem
  | 16 => memRO L ys
  | _ => memNone
def region_fs19S (_E _D _F _T _L _M _ge _qe _gd _qd _gf _qf _c _g7 _q7 _g11 _q11 : Nat) (_p : Option Addr) (_ys : List Int) : Nat → Option Sto
  | _ => none
set_option maxRecDepth 8000 in
set_option maxHeartbeats 2000000 in
theorem region_fs19 {id : Nat} {ops : Array Oper} {Q : Exit → Act → World → Prop} {a : Act} {w : World} (E D F T L M ge qe gd qd gf qf c g7 q7 g11 q11 : Nat) (p : Option Addr) (ys : List Int) (H26 : ∀ W, Below w.heap.size w W → Calls Try.prog 26 #[.agg #[.int .i64 (M : Int), .slice (some ⟨ge, 0, none⟩) T qe], .agg #[.int .i64 (M : Int), .slice (some ⟨gf, 0, none⟩) T qf]] W fun e w' => e = .returned (.bool true) ∧ Below W.heap.size W w') (H53 : ∀ W, Below w.heap.size w W → Calls Try.prog 53 #[.agg #[.int .i64 (M : Int), .slice (some ⟨gf, 0, none⟩) T qf], .slice p L c] W fun e w' => ∃ g off cap, e = .returned (.agg #[.int .i64 (M : Int), .slice (some ⟨g, off, none⟩) L cap]) ∧ Reads w' (.slice (some ⟨g, off, none⟩) L cap) ys ∧ W.heap.size ≤ g ∧ g < w'.heap.size ∧ Below W.heap.size W w') (H40 : ∀ g off cap W, Below w.heap.size w W → Reads W (.slice (some ⟨g, off, none⟩) L cap) ys → Calls Try.prog 40 #[.agg #[.int .i64 (M : Int), .slice (some ⟨gd, 0, none⟩) L qd], .agg #[.int .i64 (M : Int), .slice (some ⟨g, off, none⟩) L cap]] W fun e w' => e = .returned (.bool true) ∧ Below W.heap.size W w') (hE : BoxAt w E #[.int .i64 (M : Int), .slice (some ⟨ge, 0, none⟩) T qe] 26) (hD : BoxAt w D #[.int .i64 (M : Int), .slice (some ⟨gd, 0, none⟩) L qd] 37) (hF : BoxAt w F #[.int .i64 (M : Int), .slice (some ⟨gf, 0, none⟩) T qf] 26)
    (gsize : ops.size = 27)
    (gops : IsOp ops 0 (some 82) (.move (.tmp 6)) none [] ∧ IsOp ops 1 (some 83) (.binOp .neq 27 (.tmp 82) (.const (.int .i64 0)) 27) none [0] ∧ IsOp ops 2 (some 84) (.move (.tmp 83)) none [1] ∧ IsOp ops 3 (some 85) (.move (.tmp 8)) (some (2, false)) [2] ∧ IsOp ops 4 (some 86) (.binOp .neq 27 (.tmp 85) (.const (.int .i64 0)) 27) (some (2, false)) [2, 3] ∧ IsOp ops 5 (some 87) (.pick (.tmp 84) (.const (.bool true)) (.tmp 86)) none [2, 4] ∧ IsOp ops 6 (some 88) (.move (.tmp 87)) none [5] ∧ IsOp ops 7 (some 89) (.load 26 (.tmp 4)) (some (6, false)) [6] ∧ IsOp ops 8 (some 90) (.load 26 (.tmp 12)) (some (6, false)) [6] ∧ IsOp ops 9 (some 91) (.call { callee := .value (.func 26), args := #[.tmp 89, .tmp 90], argTypes := #[26, 26] }) (some (6, false)) [6, 7, 8] ∧ IsOp ops 10 (some 92) (.unOp .not 4 (.tmp 91)) (some (6, false)) [6, 9] ∧ IsOp ops 11 (some 93) (.pick (.tmp 88) (.const (.bool true)) (.tmp 92)) none [6, 10] ∧ IsOp ops 12 (some 94) (.move (.tmp 93)) none [11] ∧ IsOp ops 13 (some 95) (.load 37 (.tmp 5)) (some (12, false)) [12] ∧ IsOp ops 14 (some 96) (.load 26 (.tmp 12)) (some (12, false)) [12] ∧ IsOp ops 15 (some 97) (.move (.tmp 0)) (some (12, false)) [12] ∧ IsOp ops 16 (some 98) (.call { callee := .value (.func 53), args := #[.tmp 96, .tmp 97], argTypes := #[26, 49] }) (some (12, false)) [12, 14, 15] ∧ IsOp ops 17 (some 99) (.call { callee := .value (.func 40), args := #[.tmp 95, .tmp 98], argTypes := #[37, 37] }) (some (12, false)) [12, 13, 16] ∧ IsOp ops 18 (some 100) (.unOp .not 4 (.tmp 99)) (some (12, false)) [12, 17] ∧ IsOp ops 19 (some 101) (.pick (.tmp 94) (.const (.bool true)) (.tmp 100)) none [12, 18] ∧ IsOp ops 20 (some 102) (.move (.tmp 101)) none [19] ∧ IsOp ops 21 (some 103) (.move (.tmp 7)) (some (20, false)) [20] ∧ IsOpL ops 22 (some 104) (.call { callee := .builtin .len, args := #[.tmp 103], argTypes := #[24] }) (some (20, false)) [20, 21] ∧ IsOp ops 23 (some 105) (.move (.tmp 11)) (some (20, false)) [20] ∧ IsOpL ops 24 (some 106) (.call { callee := .builtin .len, args := #[.tmp 105], argTypes := #[24] }) (some (20, false)) [20, 23] ∧ IsOp ops 25 (some 107) (.binOp .neq 3 (.tmp 104) (.tmp 106) 3) (some (20, false)) [20, 22, 24] ∧ IsOp ops 26 (some 108) (.pick (.tmp 102) (.const (.bool true)) (.tmp 107)) none [20, 25])
    (gbk : backB ops = true) (gds : dstsB ops (dOf [some 82, some 83, some 84, some 85, some 86, some 87, some 88, some 89, some 90, some 91, some 92, some 93, some 94, some 95, some 96, some 97, some 98, some 99, some 100, some 101, some 102, some 103, some 104, some 105, some 106, some 107, some 108]) = true) (gus : useB ops (uOf region_fs19U) (kOf [0, 0, 0, 0, 0, 0, 0, 0, 0, 0, 0, 0, 0, 0, 0, 0, 1, 0, 0, 0, 0, 0, 0, 0, 0, 0, 0]) = true) (ggd : guardC ops (dOf [some 82, some 83, some 84, some 85, some 86, some 87, some 88, some 89, some 90, some 91, some 92, some 93, some 94, some 95, some 96, some 97, some 98, some 99, some 100, some 101, some 102, some 103, some 104, some 105, some 106, some 107, some 108]) [(2, false), (6, false), (12, false), (20, false)] = true) (gsz : ∀ e ∈ [82, 83, 84, 85, 86, 87, 88, 89, 90, 91, 92, 93, 94, 95, 96, 97, 98, 99, 100, 101, 102, 103, 104, 105, 106, 107, 108], e < a.tmps.size)
    (gout : a.eval (.tmp 6) = .int .i64 0 ∧ a.eval (.tmp 8) = .int .i64 0 ∧ a.eval (.tmp 4) = .pointer (some ⟨E, 0, none⟩) ∧ a.eval (.tmp 5) = .pointer (some ⟨D, 0, none⟩) ∧ a.eval (.tmp 12) = .pointer (some ⟨F, 0, none⟩) ∧ a.eval (.tmp 0) = .slice p L c ∧ a.eval (.tmp 7) = .slice (some ⟨g7, 0, none⟩) M q7 ∧ a.eval (.tmp 11) = .slice (some ⟨g11, 0, none⟩) M q11)
    (gend : ∀ (g98 q98 G98 Q98 : Nat) (P98 : Option Addr) (u82 u83 u84 u85 u86 u87 u88 u89 u90 u91 u92 u93 u94 u95 u96 u97 u98 u99 u100 u101 u102 u103 u104 u105 u106 u107 : Value) (W : World), Below w.heap.size w W → (memRO L ys).P ⟨g98, q98, G98, Q98, P98⟩ W → (∀ b ∈ (memRO L ys).bl ⟨g98, q98, G98, Q98, P98⟩, w.heap.size ≤ b ∧ b < W.heap.size) → Q .normal (putL a [(82, u82), (83, u83), (84, u84), (85, u85), (86, u86), (87, u87), (88, u88), (89, u89), (90, u90), (91, u91), (92, u92), (93, u93), (94, u94), (95, u95), (96, u96), (97, u97), (98, u98), (99, u99), (100, u100), (101, u101), (102, u102), (103, u103), (104, u104), (105, u105), (106, u106), (107, u107), (108, .bool false)]) W) :
    (Code.region id ops true).wp Try.prog Q a w := by
  obtain ⟨iop0, iop1, iop2, iop3, iop4, iop5, iop6, iop7, iop8, iop9, iop10, iop11, iop12, iop13, iop14, iop15, iop16, iop17, iop18, iop19, iop20, iop21, iop22, iop23, iop24, iop25, iop26⟩ := gops
  obtain ⟨o6, o8, o4, o5, o12, o0, o7, o11⟩ := gout
  refine region_all (RSp.of 27 [some 82, some 83, some 84, some 85, some 86, some 87, some 88, some 89, some 90, some 91, some 92, some 93, some 94, some 95, some 96, some 97, some 98, some 99, some 100, some 101, some 102, some 103, some 104, some 105, some 106, some 107, some 108] (fun _ => true) (region_fs19X E D F T L M ge qe gd qd gf qf c g7 q7 g11 q11 p ys) region_fs19U [0, 0, 0, 0, 0, 0, 0, 0, 0, 0, 0, 0, 0, 0, 0, 0, 1, 0, 0, 0, 0, 0, 0, 0, 0, 0, 0] (region_fs19M E D F T L M ge qe gd qd gf qf c g7 q7 g11 q11 p ys) (region_fs19S E D F T L M ge qe gd qd gf qf c g7 q7 g11 q11 p ys)) [(6, .int .i64 0), (8, .int .i64 0), (4, .pointer (some ⟨E, 0, none⟩)), (5, .pointer (some ⟨D, 0, none⟩)), (12, .pointer (some ⟨F, 0, none⟩)), (0, .slice p L c), (7, .slice (some ⟨g7, 0, none⟩) M q7), (11, .slice (some ⟨g11, 0, none⟩) M q11)] [82, 83, 84, 85, 86, 87, 88, 89, 90, 91, 92, 93, 94, 95, 96, 97, 98, 99, 100, 101, 102, 103, 104, 105, 106, 107, 108] (RSp.of_fitC gsize.symm gbk gds gus ggd (by decide) ?_ ?_) (RSp.of_ok _ (region_fs19X.congr E D F T L M ge qe gd qd gf qf c g7 q7 g11 q11 p ys) ?_) gsz ?_ ?_ ?_
  · intro p hp
    have hp2 : p ∈ ([] : List (Nat × Nat)) := hp
    cases hp2
  · intro j hj hds
    simp only [List.mem_cons, List.not_mem_nil, or_false] at hj
    rcases hj with rfl | rfl | rfl | rfl
    all_goals rfl
  · intro i s hds
    match i, hds with
    | 0, hds => cases hds
    | 1, hds => cases hds
    | 2, hds => cases hds
    | 3, hds => cases hds
    | 4, hds => cases hds
    | 5, hds => cases hds
    | 6, hds => cases hds
    | 7, hds => cases hds
    | 8, hds => cases hds
    | 9, hds => cases hds
    | 10, hds => cases hds
    | 11, hds => cases hds
    | 12, hds => cases hds
    | 13, hds => cases hds
    | 14, hds => cases hds
    | 15, hds => cases hds
    | 16, hds => cases hds
    | 17, hds => cases hds
    | 18, hds => cases hds
    | 19, hds => cases hds
    | 20, hds => cases hds
    | 21, hds => cases hds
    | 22, hds => cases hds
    | 23, hds => cases hds
    | 24, hds => cases hds
    | 25, hds => cases hds
    | 26, hds => cases hds
    | _ + 27, hds => cases hds
  · intro q hq
    simp only [List.mem_cons, List.not_mem_nil, or_false] at hq
    rcases hq with rfl | rfl | rfl | rfl | rfl | rfl | rfl | rfl
    · exact ⟨o6, by simp⟩
    · exact ⟨o8, by simp⟩
    · exact ⟨o4, by simp⟩
    · exact ⟨o5, by simp⟩
    · exact ⟨o12, by simp⟩
    · exact ⟨o0, by simp⟩
    · exact ⟨o7, by simp⟩
    · exact ⟨o11, by simp⟩
  · intro i o ho hw
    have hi : i < 27 := by rw [← gsize]; exact (Array.getElem?_eq_some_iff.1 ho).1
    match i, hi with
    | 0, _ =>
      obtain ⟨ty, pos, aft, e, hdp⟩ := iop0
      rw [e] at ho
      obtain rfl := Option.some.inj ho
      intro a' hds W K hB lq ld hmem hK
      have e6 : a'.eval (.tmp 6) = .int .i64 0 := by rw [eval_tmp]; exact lq (6, .int .i64 0) (by simp)
      have t6 := (eval_tmp a' 6).symm.trans e6
      have HK := Lib.hid (show K (a'.put (some 82) (.int .i64 0)) W from hK W (Below.refl _ _) trivial)
      clear hK ld lq hmem
      unfold Oper.wp
      simp only [execOp, e6]
      exact HK.out
    | 1, _ =>
      obtain ⟨ty, pos, aft, e, hdp⟩ := iop1
      rw [e] at ho
      obtain rfl := Option.some.inj ho
      intro a' hds W K hB lq ld hmem hK
      have e82 : a'.eval (.tmp 82) = .int .i64 0 := by rw [eval_tmp]; exact ld 0 82 (List.all_eq_true.1 hdp 0 (by decide)) rfl
      have t82 := (eval_tmp a' 82).symm.trans e82
      have HK := Lib.hid (show K (a'.put (some 83) (.bool false)) W from hK W (Below.refl _ _) trivial)
      clear hK ld lq hmem
      unfold Oper.wp
      simp only [execOp, e82]
      go_simp
      exact HK.out
    | 2, _ =>
      obtain ⟨ty, pos, aft, e, hdp⟩ := iop2
      rw [e] at ho
      obtain rfl := Option.some.inj ho
      intro a' hds W K hB lq ld hmem hK
      have e83 : a'.eval (.tmp 83) = .bool false := by rw [eval_tmp]; exact ld 1 83 (List.all_eq_true.1 hdp 1 (by decide)) rfl
      have t83 := (eval_tmp a' 83).symm.trans e83
      have HK := Lib.hid (show K (a'.put (some 84) (.bool false)) W from hK W (Below.refl _ _) trivial)
      clear hK ld lq hmem
      unfold Oper.wp
      simp only [execOp, e83]
      exact HK.out
    | 3, _ =>
      obtain ⟨ty, pos, aft, e, hdp⟩ := iop3
      rw [e] at ho
      obtain rfl := Option.some.inj ho
      intro a' hds W K hB lq ld hmem hK
      have e8 : a'.eval (.tmp 8) = .int .i64 0 := by rw [eval_tmp]; exact lq (8, .int .i64 0) (by simp)
      have t8 := (eval_tmp a' 8).symm.trans e8
      have HK := Lib.hid (show K (a'.put (some 85) (.int .i64 0)) W from hK W (Below.refl _ _) trivial)
      clear hK ld lq hmem
      unfold Oper.wp
      simp only [execOp, e8]
      exact HK.out
    | 4, _ =>
      obtain ⟨ty, pos, aft, e, hdp⟩ := iop4
      rw [e] at ho
      obtain rfl := Option.some.inj ho
      intro a' hds W K hB lq ld hmem hK
      have e85 : a'.eval (.tmp 85) = .int .i64 0 := by rw [eval_tmp]; exact ld 3 85 (List.all_eq_true.1 hdp 3 (by decide)) rfl
      have t85 := (eval_tmp a' 85).symm.trans e85
      have HK := Lib.hid (show K (a'.put (some 86) (.bool false)) W from hK W (Below.refl _ _) trivial)
      clear hK ld lq hmem
      unfold Oper.wp
      simp only [execOp, e85]
      go_simp
      exact HK.out
    | 5, _ =>
      obtain ⟨ty, pos, aft, e, hdp⟩ := iop5
      rw [e] at ho
      obtain rfl := Option.some.inj ho
      intro a' hds W K hB lq ld hmem hK
      have e84 : a'.eval (.tmp 84) = .bool false := by rw [eval_tmp]; exact ld 2 84 (List.all_eq_true.1 hdp 2 (by decide)) rfl
      have t84 := (eval_tmp a' 84).symm.trans e84
      have e86 : a'.eval (.tmp 86) = .bool false := by rw [eval_tmp]; exact ld 4 86 (List.all_eq_true.1 hdp 4 (by decide)) rfl
      have t86 := (eval_tmp a' 86).symm.trans e86
      have HK := Lib.hid (show K (a'.put (some 87) (.bool false)) W from hK W (Below.refl _ _) trivial)
      clear hK ld lq hmem
      unfold Oper.wp
      simp only [execOp, e84, e86]
      go_simp
      exact HK.out
    | 6, _ =>
      obtain ⟨ty, pos, aft, e, hdp⟩ := iop6
      rw [e] at ho
      obtain rfl := Option.some.inj ho
      intro a' hds W K hB lq ld hmem hK
      have e87 : a'.eval (.tmp 87) = .bool false := by rw [eval_tmp]; exact ld 5 87 (List.all_eq_true.1 hdp 5 (by decide)) rfl
      have t87 := (eval_tmp a' 87).symm.trans e87
      have HK := Lib.hid (show K (a'.put (some 88) (.bool false)) W from hK W (Below.refl _ _) trivial)
      clear hK ld lq hmem
      unfold Oper.wp
      simp only [execOp, e87]
      exact HK.out
    | 7, _ =>
      obtain ⟨ty, pos, aft, e, hdp⟩ := iop7
      rw [e] at ho
      obtain rfl := Option.some.inj ho
      intro a' hds W K hB lq ld hmem hK
      have e4 : a'.eval (.tmp 4) = .pointer (some ⟨E, 0, none⟩) := by rw [eval_tmp]; exact lq (4, .pointer (some ⟨E, 0, none⟩)) (by simp)
      have t4 := (eval_tmp a' 4).symm.trans e4
      have HK := Lib.hid (show K (a'.put (some 89) (.agg #[.int .i64 (M : Int), .slice (some ⟨ge, 0, none⟩) T qe])) W from hK W (Below.refl _ _) trivial)
      clear hK ld lq hmem
      have c0 := (hE.next hB).cell' 0 rfl
      have c1 := (hE.next hB).cell' 1 rfl
      unfold Oper.wp
      simp only [execOp, e4]
      go_simp
      exact HK.out
    | 8, _ =>
      obtain ⟨ty, pos, aft, e, hdp⟩ := iop8
      rw [e] at ho
      obtain rfl := Option.some.inj ho
      intro a' hds W K hB lq ld hmem hK
      have e12 : a'.eval (.tmp 12) = .pointer (some ⟨F, 0, none⟩) := by rw [eval_tmp]; exact lq (12, .pointer (some ⟨F, 0, none⟩)) (by simp)
      have t12 := (eval_tmp a' 12).symm.trans e12
      have HK := Lib.hid (show K (a'.put (some 90) (.agg #[.int .i64 (M : Int), .slice (some ⟨gf, 0, none⟩) T qf])) W from hK W (Below.refl _ _) trivial)
      clear hK ld lq hmem
      have c0 := (hF.next hB).cell' 0 rfl
      have c1 := (hF.next hB).cell' 1 rfl
      unfold Oper.wp
      simp only [execOp, e12]
      go_simp
      exact HK.out
    | 9, _ =>
      obtain ⟨ty, pos, aft, e, hdp⟩ := iop9
      rw [e] at ho
      obtain rfl := Option.some.inj ho
      intro a' hds W K hB lq ld hmem hK
      have e89 : a'.eval (.tmp 89) = .agg #[.int .i64 (M : Int), .slice (some ⟨ge, 0, none⟩) T qe] := by rw [eval_tmp]; exact ld 7 89 (List.all_eq_true.1 hdp 7 (by decide)) rfl
      have t89 := (eval_tmp a' 89).symm.trans e89
      have e90 : a'.eval (.tmp 90) = .agg #[.int .i64 (M : Int), .slice (some ⟨gf, 0, none⟩) T qf] := by rw [eval_tmp]; exact ld 8 90 (List.all_eq_true.1 hdp 8 (by decide)) rfl
      have t90 := (eval_tmp a' 90).symm.trans e90
      have HK := Lib.hid (show ∀ W', Below W.heap.size W W' → K (a'.put (some 91) (.bool true)) W' from fun W' h => hK W' h trivial)
      clear hK ld lq hmem
      refine step_call (vals := #[.agg #[.int .i64 (M : Int), .slice (some ⟨ge, 0, none⟩) T qe], .agg #[.int .i64 (M : Int), .slice (some ⟨gf, 0, none⟩) T qf]]) (by exact ⟨_, _, Try.func26, by kernel_rfl, rfl⟩) (by simp only [List.map_toArray, List.map_cons, List.map_nil, e89, e90]) (H26 W hB) ?_
      rintro e w' ⟨rfl, hb'⟩
      exact ⟨_, rfl, HK.out _ hb'⟩
    | 10, _ =>
      obtain ⟨ty, pos, aft, e, hdp⟩ := iop10
      rw [e] at ho
      obtain rfl := Option.some.inj ho
      intro a' hds W K hB lq ld hmem hK
      have e91 : a'.eval (.tmp 91) = .bool true := by rw [eval_tmp]; exact ld 9 91 (List.all_eq_true.1 hdp 9 (by decide)) rfl
      have t91 := (eval_tmp a' 91).symm.trans e91
      have HK := Lib.hid (show K (a'.put (some 92) (.bool false)) W from hK W (Below.refl _ _) trivial)
      clear hK ld lq hmem
      unfold Oper.wp
      simp only [execOp, e91]
      go_simp
      exact HK.out
    | 11, _ =>
      obtain ⟨ty, pos, aft, e, hdp⟩ := iop11
      rw [e] at ho
      obtain rfl := Option.some.inj ho
      intro a' hds W K hB lq ld hmem hK
      have e88 : a'.eval (.tmp 88) = .bool false := by rw [eval_tmp]; exact ld 6 88 (List.all_eq_true.1 hdp 6 (by decide)) rfl
      have t88 := (eval_tmp a' 88).symm.trans e88
      have e92 : a'.eval (.tmp 92) = .bool false := by rw [eval_tmp]; exact ld 10 92 (List.all_eq_true.1 hdp 10 (by decide)) rfl
      have t92 := (eval_tmp a' 92).symm.trans e92
      have HK := Lib.hid (show K (a'.put (some 93) (.bool false)) W from hK W (Below.refl _ _) trivial)
      clear hK ld lq hmem
      unfold Oper.wp
      simp only [execOp, e88, e92]
      go_simp
      exact HK.out
    | 12, _ =>
      obtain ⟨ty, pos, aft, e, hdp⟩ := iop12
      rw [e] at ho
      obtain rfl := Option.some.inj ho
      intro a' hds W K hB lq ld hmem hK
      have e93 : a'.eval (.tmp 93) = .bool false := by rw [eval_tmp]; exact ld 11 93 (List.all_eq_true.1 hdp 11 (by decide)) rfl
      have t93 := (eval_tmp a' 93).symm.trans e93
      have HK := Lib.hid (show K (a'.put (some 94) (.bool false)) W from hK W (Below.refl _ _) trivial)
      clear hK ld lq hmem
      unfold Oper.wp
      simp only [execOp, e93]
      exact HK.out
    | 13, _ =>
      obtain ⟨ty, pos, aft, e, hdp⟩ := iop13
      rw [e] at ho
      obtain rfl := Option.some.inj ho
      intro a' hds W K hB lq ld hmem hK
      have e5 : a'.eval (.tmp 5) = .pointer (some ⟨D, 0, none⟩) := by rw [eval_tmp]; exact lq (5, .pointer (some ⟨D, 0, none⟩)) (by simp)
      have t5 := (eval_tmp a' 5).symm.trans e5
      have HK := Lib.hid (show K (a'.put (some 95) (.agg #[.int .i64 (M : Int), .slice (some ⟨gd, 0, none⟩) L qd])) W from hK W (Below.refl _ _) trivial)
      clear hK ld lq hmem
      have c0 := (hD.next hB).cell' 0 rfl
      have c1 := (hD.next hB).cell' 1 rfl
      unfold Oper.wp
      simp only [execOp, e5]
      go_simp
      exact HK.out
    | 14, _ =>
      obtain ⟨ty, pos, aft, e, hdp⟩ := iop14
      rw [e] at ho
      obtain rfl := Option.some.inj ho
      intro a' hds W K hB lq ld hmem hK
      have e12 : a'.eval (.tmp 12) = .pointer (some ⟨F, 0, none⟩) := by rw [eval_tmp]; exact lq (12, .pointer (some ⟨F, 0, none⟩)) (by simp)
      have t12 := (eval_tmp a' 12).symm.trans e12
      have HK := Lib.hid (show K (a'.put (some 96) (.agg #[.int .i64 (M : Int), .slice (some ⟨gf, 0, none⟩) T qf])) W from hK W (Below.refl _ _) trivial)
      clear hK ld lq hmem
      have c0 := (hF.next hB).cell' 0 rfl
      have c1 := (hF.next hB).cell' 1 rfl
      unfold Oper.wp
      simp only [execOp, e12]
      go_simp
      exact HK.out
    | 15, _ =>
      obtain ⟨ty, pos, aft, e, hdp⟩ := iop15
      rw [e] at ho
      obtain rfl := Option.some.inj ho
      intro a' hds W K hB lq ld hmem hK
      have e0 : a'.eval (.tmp 0) = .slice p L c := by rw [eval_tmp]; exact lq (0, .slice p L c) (by simp)
      have t0 := (eval_tmp a' 0).symm.trans e0
      have HK := Lib.hid (show K (a'.put (some 97) (.slice p L c)) W from hK W (Below.refl _ _) trivial)
      clear hK ld lq hmem
      unfold Oper.wp
      simp only [execOp, e0]
      exact HK.out
    | 16, _ =>
      obtain ⟨ty, pos, aft, e, hdp⟩ := iop16
      rw [e] at ho
      obtain rfl := Option.some.inj ho
      intro a' hds W K hB lq ld hmem hK
      have e96 : a'.eval (.tmp 96) = .agg #[.int .i64 (M : Int), .slice (some ⟨gf, 0, none⟩) T qf] := by rw [eval_tmp]; exact ld 14 96 (List.all_eq_true.1 hdp 14 (by decide)) rfl
      have t96 := (eval_tmp a' 96).symm.trans e96
      have e97 : a'.eval (.tmp 97) = .slice p L c := by rw [eval_tmp]; exact ld 15 97 (List.all_eq_true.1 hdp 15 (by decide)) rfl
      have t97 := (eval_tmp a' 97).symm.trans e97
      have HK := Lib.hid (show ∀ hh W', Below W.heap.size W W' → (memRO L ys).P hh W' → (∀ b ∈ (memRO L ys).bl hh, W.heap.size ≤ b ∧ b < W'.heap.size) → K (a'.put (some 98) (.agg #[.int .i64 (M : Int), .slice (some ⟨hh.b, hh.b2, none⟩) L hh.c])) W' from fun hh W' h1 h2 h3 => by
        have h4 : K (a'.put (some 98) (region_fs19X E D F T L M ge qe gd qd gf qf c g7 q7 g11 q11 p ys 16 (updH hds 16 hh))) W' := hK hh W' h1 h2 h3 trivial
        simp only [region_fs19X, updH_same] at h4
        exact h4)
      clear hK ld lq hmem
      refine step_call (vals := #[.agg #[.int .i64 (M : Int), .slice (some ⟨gf, 0, none⟩) T qf], .slice p L c]) (by exact ⟨_, _, Try.func53, by kernel_rfl, rfl⟩) (by simp only [List.map_toArray, List.map_cons, List.map_nil, e96, e97]) (H53 W hB) ?_
      rintro e w' ⟨g, off, cap, rfl, hn, hl, hg, hb'⟩
      exact ⟨_, rfl, HK.out ⟨g, cap, off, 0, none⟩ _ hb' hn (bd_one hl hg)⟩
    | 17, _ =>
      obtain ⟨ty, pos, aft, e, hdp⟩ := iop17
      rw [e] at ho
      obtain rfl := Option.some.inj ho
      intro a' hds W K hB lq ld hmem hK
      have e95 : a'.eval (.tmp 95) = .agg #[.int .i64 (M : Int), .slice (some ⟨gd, 0, none⟩) L qd] := by rw [eval_tmp]; exact ld 13 95 (List.all_eq_true.1 hdp 13 (by decide)) rfl
      have t95 := (eval_tmp a' 95).symm.trans e95
      have e98 : a'.eval (.tmp 98) = .agg #[.int .i64 (M : Int), .slice (some ⟨(hds 16).b, (hds 16).b2, none⟩) L (hds 16).c] := by rw [eval_tmp]; exact ld 16 98 (List.all_eq_true.1 hdp 16 (by decide)) rfl
      have t98 := (eval_tmp a' 98).symm.trans e98
      have m98   := (hmem 16 (show 16 ∈ uOf region_fs19U 17 by decide) (by decide)).1
      have HK := Lib.hid (show ∀ W', Below W.heap.size W W' → K (a'.put (some 99) (.bool true)) W' from fun W' h => hK W' h trivial)
      clear hK ld lq hmem
      refine step_call (vals := #[.agg #[.int .i64 (M : Int), .slice (some ⟨gd, 0, none⟩) L qd], .agg #[.int .i64 (M : Int), .slice (some ⟨(hds 16).b, (hds 16).b2, none⟩) L (hds 16).c]]) (by exact ⟨_, _, Try.func40, by kernel_rfl, rfl⟩) (by simp only [List.map_toArray, List.map_cons, List.map_nil, e95, e98]) (H40 (hds 16).b (hds 16).b2 (hds 16).c W hB m98) ?_
      rintro e w' ⟨rfl, hb'⟩
      exact ⟨_, rfl, HK.out _ hb'⟩
    | 18, _ =>
      obtain ⟨ty, pos, aft, e, hdp⟩ := iop18
      rw [e] at ho
      obtain rfl := Option.some.inj ho
      intro a' hds W K hB lq ld hmem hK
      have e99 : a'.eval (.tmp 99) = .bool true := by rw [eval_tmp]; exact ld 17 99 (List.all_eq_true.1 hdp 17 (by decide)) rfl
      have t99 := (eval_tmp a' 99).symm.trans e99
      have HK := Lib.hid (show K (a'.put (some 100) (.bool false)) W from hK W (Below.refl _ _) trivial)
      clear hK ld lq hmem
      unfold Oper.wp
      simp only [execOp, e99]
      go_simp
      exact HK.out
    | 19, _ =>
      obtain ⟨ty, pos, aft, e, hdp⟩ := iop19
      rw [e] at ho
      obtain rfl := Option.some.inj ho
      intro a' hds W K hB lq ld hmem hK
      have e94 : a'.eval (.tmp 94) = .bool false := by rw [eval_tmp]; exact ld 12 94 (List.all_eq_true.1 hdp 12 (by decide)) rfl
      have t94 := (eval_tmp a' 94).symm.trans e94
      have e100 : a'.eval (.tmp 100) = .bool false := by rw [eval_tmp]; exact ld 18 100 (List.all_eq_true.1 hdp 18 (by decide)) rfl
      have t100 := (eval_tmp a' 100).symm.trans e100
      have HK := Lib.hid (show K (a'.put (some 101) (.bool false)) W from hK W (Below.refl _ _) trivial)
      clear hK ld lq hmem
      unfold Oper.wp
      simp only [execOp, e94, e100]
      go_simp
      exact HK.out
    | 20, _ =>
      obtain ⟨ty, pos, aft, e, hdp⟩ := iop20
      rw [e] at ho
      obtain rfl := Option.some.inj ho
      intro a' hds W K hB lq ld hmem hK
      have e101 : a'.eval (.tmp 101) = .bool false := by rw [eval_tmp]; exact ld 19 101 (List.all_eq_true.1 hdp 19 (by decide)) rfl
      have t101 := (eval_tmp a' 101).symm.trans e101
      have HK := Lib.hid (show K (a'.put (some 102) (.bool false)) W from hK W (Below.refl _ _) trivial)
      clear hK ld lq hmem
      unfold Oper.wp
      simp only [execOp, e101]
      exact HK.out
    | 21, _ =>
      obtain ⟨ty, pos, aft, e, hdp⟩ := iop21
      rw [e] at ho
      obtain rfl := Option.some.inj ho
      intro a' hds W K hB lq ld hmem hK
      have e7 : a'.eval (.tmp 7) = .slice (some ⟨g7, 0, none⟩) M q7 := by rw [eval_tmp]; exact lq (7, .slice (some ⟨g7, 0, none⟩) M q7) (by simp)
      have t7 := (eval_tmp a' 7).symm.trans e7
      have HK := Lib.hid (show K (a'.put (some 103) (.slice (some ⟨g7, 0, none⟩) M q7)) W from hK W (Below.refl _ _) trivial)
      clear hK ld lq hmem
      unfold Oper.wp
      simp only [execOp, e7]
      exact HK.out
    | 22, _ =>
      obtain ⟨pos, aft, e, hdp⟩ := iop22
      rw [e] at ho
      obtain rfl := Option.some.inj ho
      intro a' hds W K hB lq ld hmem hK
      have e103 : a'.eval (.tmp 103) = .slice (some ⟨g7, 0, none⟩) M q7 := by rw [eval_tmp]; exact ld 21 103 (List.all_eq_true.1 hdp 21 (by decide)) rfl
      have t103 := (eval_tmp a' 103).symm.trans e103
      have HK := Lib.hid (show K (a'.put (some 104) (.int .i64 (M : Int))) W from hK W (Below.refl _ _) trivial)
      clear hK ld lq hmem
      unfold Oper.wp
      simp only [execOp, e103]
      go_simp
      exact HK.out
    | 23, _ =>
      obtain ⟨ty, pos, aft, e, hdp⟩ := iop23
      rw [e] at ho
      obtain rfl := Option.some.inj ho
      intro a' hds W K hB lq ld hmem hK
      have e11 : a'.eval (.tmp 11) = .slice (some ⟨g11, 0, none⟩) M q11 := by rw [eval_tmp]; exact lq (11, .slice (some ⟨g11, 0, none⟩) M q11) (by simp)
      have t11 := (eval_tmp a' 11).symm.trans e11
      have HK := Lib.hid (show K (a'.put (some 105) (.slice (some ⟨g11, 0, none⟩) M q11)) W from hK W (Below.refl _ _) trivial)
      clear hK ld lq hmem
      unfold Oper.wp
      simp only [execOp, e11]
      exact HK.out
    | 24, _ =>
      obtain ⟨pos, aft, e, hdp⟩ := iop24
      rw [e] at ho
      obtain rfl := Option.some.inj ho
      intro a' hds W K hB lq ld hmem hK
      have e105 : a'.eval (.tmp 105) = .slice (some ⟨g11, 0, none⟩) M q11 := by rw [eval_tmp]; exact ld 23 105 (List.all_eq_true.1 hdp 23 (by decide)) rfl
      have t105 := (eval_tmp a' 105).symm.trans e105
      have HK := Lib.hid (show K (a'.put (some 106) (.int .i64 (M : Int))) W from hK W (Below.refl _ _) trivial)
      clear hK ld lq hmem
      unfold Oper.wp
      simp only [execOp, e105]
      go_simp
      exact HK.out
    | 25, _ =>
      obtain ⟨ty, pos, aft, e, hdp⟩ := iop25
      rw [e] at ho
      obtain rfl := Option.some.inj ho
      intro a' hds W K hB lq ld hmem hK
      have e104 : a'.eval (.tmp 104) = .int .i64 (M : Int) := by rw [eval_tmp]; exact ld 22 104 (List.all_eq_true.1 hdp 22 (by decide)) rfl
      have t104 := (eval_tmp a' 104).symm.trans e104
      have e106 : a'.eval (.tmp 106) = .int .i64 (M : Int) := by rw [eval_tmp]; exact ld 24 106 (List.all_eq_true.1 hdp 24 (by decide)) rfl
      have t106 := (eval_tmp a' 106).symm.trans e106
      have HK := Lib.hid (show K (a'.put (some 107) (.bool false)) W from hK W (Below.refl _ _) trivial)
      clear hK ld lq hmem
      unfold Oper.wp
      simp only [execOp, e104, e106]
      go_simp
      exact HK.out
    | 26, _ =>
      obtain ⟨ty, pos, aft, e, hdp⟩ := iop26
      rw [e] at ho
      obtain rfl := Option.some.inj ho
      intro a' hds W K hB lq ld hmem hK
      have e102 : a'.eval (.tmp 102) = .bool false := by rw [eval_tmp]; exact ld 20 102 (List.all_eq_true.1 hdp 20 (by decide)) rfl
      have t102 := (eval_tmp a' 102).symm.trans e102
      have e107 : a'.eval (.tmp 107) = .bool false := by rw [eval_tmp]; exact ld 25 107 (List.all_eq_true.1 hdp 25 (by decide)) rfl
      have t107 := (eval_tmp a' 107).symm.trans e107
      have HK := Lib.hid (show K (a'.put (some 108) (.bool false)) W from hK W (Below.refl _ _) trivial)
      clear hK ld lq hmem
      unfold Oper.wp
      simp only [execOp, e102, e107]
      go_simp
      exact HK.out
    | i + 27, h => omega
  · intro hds v W hO
    have hfin := gend (hds 16).b (hds 16).c (hds 16).b2 (hds 16).c2 (hds 16).p (v 82) (v 83) (v 84) (v 85) (v 86) (v 87) (v 88) (v 89) (v 90) (v 91) (v 92) (v 93) (v 94) (v 95) (v 96) (v 97) (v 98) (v 99) (v 100) (v 101) (v 102) (v 103) (v 104) (v 105) (v 106) (v 107) W hO.b (hO.m 16 (by show 16 < 27; decide) rfl).1 (hO.m 16 (by show 16 < 27; decide) rfl).2
    rw [← laid_putL _ a v ?_] at hfin
    · exact hfin
    · intro p hp
      simp only [List.mem_cons, List.not_mem_nil, or_false] at hp
      rcases hp with rfl | rfl | rfl | rfl | rfl | rfl | rfl | rfl | rfl | rfl | rfl | rfl | rfl | rfl | rfl | rfl | rfl | rfl | rfl | rfl | rfl | rfl | rfl | rfl | rfl | rfl | rfl
      · rfl
      · rfl
      · rfl
      · rfl
      · rfl
      · rfl
      · rfl
      · rfl
      · rfl
      · rfl
      · rfl
      · rfl
      · rfl
      · rfl
      · rfl
      · rfl
      · rfl
      · rfl
      · rfl
      · rfl
      · rfl
      · rfl
      · rfl
      · rfl
      · rfl
      · rfl
      · exact hO.x 26 (show 26 < 27 by decide) 108 rfl
end Go.Proofs.Ytdmgffoikebgkaa
/- TieFewests: its walks. -/
namespace Go.Proofs.Ytdmgffoikebgkaa
open Go.RowKit Go.Shelf
attribute [local go_sem] Oper.semAt_some

/-- a cloth and its copy in memory -/
structure FvS (w : World) (p : Option Addr) (c : Nat) (ss : List ByteArray) (gc qc : Nat) (W : World) : Prop where
  sa : StrR W (.slice p ss.length c) ss
  sx : StrR W (.slice (some ⟨gc, 0, none⟩) ss.length qc) ss
  b : Below w.heap.size w W
theorem FvS.next {w W W' : World} {p : Option Addr} {c gc qc : Nat} {ss : List ByteArray} (h : FvS w p c ss gc qc W) (hb : Below W.heap.size W W') : FvS w p c ss gc qc W' :=
  ⟨h.sa.next hb, h.sx.next hb, h.b.trans (hb.mono h.b.size)⟩
set_option maxRecDepth 100000 in
set_option maxHeartbeats 2000000 in
theorem TieFewests_large (p : Option Addr) (c : Nat) (ss : List ByteArray) (w : World) (hx : StrR w (.slice p ss.length c) ss) (hs : ss.length ≤ 9223372036854775807) (hl : lrgB 0 ss = true) :
    Calls Try.prog 7 #[.slice p ss.length c] w fun e w' => e = .returned (.bool true) ∧ Below w.heap.size w w' := by
  have H27 := tieLarge3_any 0 none p 0 c 0 ss w hx hs
  rw [hl] at H27
  clear hx hl
  go_enter Try.func7, Try.ntmps7
  go_wp2_with fail
  refine H27.mono ?_
  rintro e W1 ⟨rfl, hb1⟩
  have Hb1 := Lib.hid hb1
  clear hb1 H27
  go_wp2_with fail
  refine (tieKnown _).mono ?_
  rintro e WK ⟨rfl, hbk⟩
  have Hend := Lib.hid (show Below w.heap.size w WK from Hb1.out.trans (hbk.mono (Hb1.out).size))
  clear hbk
  go_wp2_with fail
  go_ret
  exact ⟨rfl, Hend.out⟩
set_option maxRecDepth 100000 in
set_option maxHeartbeats 8000000 in
theorem TieFewests_err (k : Int) (p : Option Addr) (c : Nat) (ss : List ByteArray) (w : World) (hx : StrR w (.slice p ss.length c) ss) (hl : lrgB 0 ss = false) (hc : cltF ss = k) (h0 : k ≠ 0) :
    Calls Try.prog 7 #[.slice p ss.length c] w fun e w' => e = .returned (.bool true) ∧ Below w.heap.size w w' := by
  have hsz := (lrg_open hl).2.2
  have hl70 := (lrg_open hl).2.1
  have H131 := Lib.hid (show ∀ (W : World) {p : Option Addr} {c : Nat}, StrR W (.slice p ss.length c) ss → Calls Try.prog 131 #[.slice p ss.length c] W fun e w' => e = .returned (.tuple #[.agg #[.int .i64 0, .slice none 0 0], .int .i64 k]) ∧ Below W.heap.size W w' from fun W p c hx => fewest_err p c k ss W hx (by omega) hsz hc h0)
  have HKb := Lib.hid (show (k == 0) = false ∧ (k != 0) = true from ⟨by simp [h0], by simp [h0]⟩)
  have HF := Lib.hid hc
  have H0 := Lib.hid h0
  clear hc h0 hsz
  obtain ⟨_, hl7, hsz⟩ := lrg_open hl
  have HSz := Lib.hid hsz
  have H27 := tieLarge3_any 0 none p 0 c 0 ss w hx (by omega)
  rw [hl] at H27
  have HX := Lib.hid hx
  clear hsz hl hx
  go_enter Try.func7, Try.ntmps7
  go_wp2_with fail
  refine H27.mono ?_
  rintro e W1 ⟨rfl, hb1⟩
  have HX1 := Lib.hid (HX.out.next hb1)
  have Hb1 := Lib.hid hb1
  clear hb1 H27 HX
  go_wp2_with fail
  refine (cloths_any p c ss W1 (by omega) HX1.out).mono ?_
  rintro e W2 ⟨gc, qc, rfl, hs2, _, hg2, hbc⟩
  have HS2 := Lib.hid (show FvS w p c ss gc qc W2 from ⟨HX1.out.next hbc, strR_of hs2 hg2, Hb1.out.trans (hbc.mono Hb1.out.size)⟩)
  clear hbc HX1 Hb1 hs2 hg2
  go_wp2_with fail
  refine (Fewest_bad _ _ W2 (fun W hb => H131.out W (HS2.out.sx.next hb)) H0.out).mono ?_
  rintro e W3 ⟨rfl, hbc⟩
  have HS3 := Lib.hid (HS2.out.next hbc)
  clear hbc HS2
  go_upto_region 5 with fail
  obtain ⟨W4, hW4⟩ : ∃ W4, W4 = (W3.alloc (.cells #[.int .i64 0, .slice none 0 0] 26)).alloc (.cells #[.int .i64 0, .slice none 0 0] 37) := ⟨_, rfl⟩
  have hbc : Below W3.heap.size W3 W4 := by rw [hW4]; exact ((Below.refl _ _).alloc (Nat.le_refl _) _).alloc (by simp) _
  have HE4 := Lib.hid (show BoxAt W4 W3.heap.size #[.int .i64 0, .slice none 0 0] 26 by rw [hW4]; exact (BoxAt.new _ _ _).next ((Below.refl _ _).alloc (Nat.le_refl _) _))
  have HD4 := Lib.hid (show BoxAt W4 (W3.heap.size + 1) #[.int .i64 0, .slice none 0 0] 37 by rw [hW4]; have := BoxAt.new (W3.alloc (.cells #[.int .i64 0, .slice none 0 0] 26)) #[.int .i64 0, .slice none 0 0] 37; rw [World.size_alloc] at this; exact this)
  have HS4 := Lib.hid (HS3.out.next hbc)
  obtain ⟨E, hE⟩ : ∃ E, W3.heap.size = E := ⟨_, rfl⟩
  rw [← hW4]
  rw [hE] at HE4 HD4
  try rw [hE]
  clear hbc hW4 hE HS3
  go_wp2_with fail
  refine (Apart_bad _ _ W4 (H131.out W4 HS4.out.sx) H0.out).mono ?_
  rintro e W5 ⟨rfl, hbc⟩
  have HS5 := Lib.hid (HS4.out.next hbc)
  have HE5 := Lib.hid (HE4.out.next hbc)
  have HD5 := Lib.hid (HD4.out.next hbc)
  clear hbc HS4 HE4 HD4
  go_wp2_with fail
  refine (refAlike3_any _ _ _ _ ss W5 (by omega) HS5.out.sx HS5.out.sa).mono ?_
  rintro e W6 ⟨rfl, hbc⟩
  have HS6 := Lib.hid (HS5.out.next hbc)
  have HE6 := Lib.hid (HE5.out.next hbc)
  have HD6 := Lib.hid (HD5.out.next hbc)
  clear hbc HS5 HE5 HD5
  by_cases hl0 : 0 < ss.length
  · skip
    obtain ⟨b0, o0, rfl, hb0, hx0⟩ := HS6.out.sa.open hl0
    have hc0 := hx0 0 hl0
    obtain ⟨s0, hs0⟩ : ∃ s0, nthB ss 0 = s0 := ⟨_, rfl⟩
    rw [hs0] at hc0
    have Hs0 := Lib.hid hs0
    have hc1 : W6.cell? ⟨b0, o0, none⟩ = some (.string s0) := hc0
    have hg0 : decide ((0 : Int) < (ss.length : Int)) = true := decide_eq_true (by omega)
    have hg1 : decide (0 < ss.length) = true := decide_eq_true hl0
    have hl0' : (0 : Int) < (ss.length : Int) := by omega
    clear hx0 hs0
    go_wp2_with fail
    refine (refFits_few _ c s0.size ss W6 HS6.out.sa (by omega) (.inr ⟨hl0, by rw [Hs0.out]⟩)).mono ?_
    rw [HF.out]
    rintro e W7 ⟨rfl, hbc⟩
    have HS7 := Lib.hid (HS6.out.next hbc)
    have HE7 := Lib.hid (HE6.out.next hbc)
    have HD7 := Lib.hid (HD6.out.next hbc)
    clear hbc HS6 HE6 HD6
    go_upto_region 12 with fail
    obtain ⟨W8, hW8⟩ : ∃ W8, W8 = W7.alloc (.cells #[] 3) := ⟨_, rfl⟩
    have hbc : Below W7.heap.size W7 W8 := by rw [hW8]; exact (Below.refl _ _).alloc (Nat.le_refl _) _
    rw [← hW8]
    have HS8 := Lib.hid (HS7.out.next hbc)
    have HE8 := Lib.hid (HE7.out.next hbc)
    have HD8 := Lib.hid (HD7.out.next hbc)
    clear hbc hW8 HS7 HE7 HD7
    have hb := HKb.out.1
    have hb2 := HKb.out.2
    have e0 := HE8.out.cell' 0 rfl
    have e1 := HE8.out.cell' 1 rfl
    go_wp2_with fail
    refine (tieNone_ok _).mono ?_
    rintro e WN ⟨rfl, hbc⟩
    have HSn := Lib.hid (HS8.out.next hbc)
    have HDn := Lib.hid (HD8.out.next hbc)
    clear hbc e0 e1 HS8 HE8 HD8
    have d0 := HDn.out.cell' 0 rfl
    have d1 := HDn.out.cell' 1 rfl
    go_wp2_with fail
    refine (bare_ok _).mono ?_
    rintro e WM ⟨rfl, hbc⟩
    have HSm := Lib.hid (HSn.out.next hbc)
    clear hbc d0 d1 HSn HDn
    go_wp2_with fail
    refine (tieKnown _).mono ?_
    rintro e WK ⟨rfl, hbk⟩
    have Hend := Lib.hid (show Below w.heap.size w WK from HSm.out.b.trans (hbk.mono (HSm.out.b).size))
    clear hbk
    go_wp2_with fail
    go_ret
    exact ⟨rfl, Hend.out⟩
  · have hg0 : decide ((0 : Int) < (ss.length : Int)) = false := decide_eq_false (by omega)
    have hg1 : decide (0 < ss.length) = false := decide_eq_false hl0
    have Hl1 := Lib.hid (show ss.length = 0 by omega)
    clear hl0
    go_wp2_with fail
    have H50 := refFits_few _ c 0 ss W6 HS6.out.sa (by omega) (.inl ⟨Hl1.out, rfl⟩)
    rw [show ((0 : Nat) : Int) = 0 from rfl] at H50
    refine H50.mono ?_
    clear H50
    rw [HF.out]
    rintro e W7 ⟨rfl, hbc⟩
    have HS7 := Lib.hid (HS6.out.next hbc)
    have HE7 := Lib.hid (HE6.out.next hbc)
    have HD7 := Lib.hid (HD6.out.next hbc)
    clear hbc HS6 HE6 HD6
    go_upto_region 12 with fail
    obtain ⟨W8, hW8⟩ : ∃ W8, W8 = W7.alloc (.cells #[] 3) := ⟨_, rfl⟩
    have hbc : Below W7.heap.size W7 W8 := by rw [hW8]; exact (Below.refl _ _).alloc (Nat.le_refl _) _
    rw [← hW8]
    have HS8 := Lib.hid (HS7.out.next hbc)
    have HE8 := Lib.hid (HE7.out.next hbc)
    have HD8 := Lib.hid (HD7.out.next hbc)
    clear hbc hW8 HS7 HE7 HD7
    have hb := HKb.out.1
    have hb2 := HKb.out.2
    have e0 := HE8.out.cell' 0 rfl
    have e1 := HE8.out.cell' 1 rfl
    go_wp2_with fail
    refine (tieNone_ok _).mono ?_
    rintro e WN ⟨rfl, hbc⟩
    have HSn := Lib.hid (HS8.out.next hbc)
    have HDn := Lib.hid (HD8.out.next hbc)
    clear hbc e0 e1 HS8 HE8 HD8
    have d0 := HDn.out.cell' 0 rfl
    have d1 := HDn.out.cell' 1 rfl
    go_wp2_with fail
    refine (bare_ok _).mono ?_
    rintro e WM ⟨rfl, hbc⟩
    have HSm := Lib.hid (HSn.out.next hbc)
    clear hbc d0 d1 HSn HDn
    go_wp2_with fail
    refine (tieKnown _).mono ?_
    rintro e WK ⟨rfl, hbk⟩
    have Hend := Lib.hid (show Below w.heap.size w WK from HSm.out.b.trans (hbk.mono (HSm.out.b).size))
    clear hbk
    go_wp2_with fail
    go_ret
    exact ⟨rfl, Hend.out⟩
set_option maxRecDepth 100000 in
set_option maxHeartbeats 8000000 in
theorem TieFewests_full (T M : Nat) (p : Option Addr) (c : Nat) (ss : List ByteArray) (w : World) (hx : StrR w (.slice p ss.length c) ss) (hl : lrgB 0 ss = false) (hc : cltF ss = 0) (hz : FwZ ss T M) (hm : 24 < M) :
    Calls Try.prog 7 #[.slice p ss.length c] w fun e w' => e = .returned (.bool true) ∧ Below w.heap.size w w' := by
  obtain ⟨k, hk⟩ : ∃ k : Int, k = 8 := ⟨_, rfl⟩
  have H131 := Lib.hid (show ∀ (W : World) {p : Option Addr} {c : Nat}, StrR W (.slice p ss.length c) ss → Calls Try.prog 131 #[.slice p ss.length c] W fun e w' => e = .returned (.tuple #[.agg #[.int .i64 0, .slice none 0 0], .int .i64 k]) ∧ Below W.heap.size W w' from fun W p c hx => (by rw [hk]; exact call131f hz hm p c W hx))
  have HF := Lib.hid hc
  have H0 := Lib.hid (show k ≠ 0 by rw [hk]; decide)
  have HZ := Lib.hid hz
  have HM := Lib.hid hm
  subst hk
  clear hc hz hm
  obtain ⟨_, hl7, hsz⟩ := lrg_open hl
  have HSz := Lib.hid hsz
  have H27 := tieLarge3_any 0 none p 0 c 0 ss w hx (by omega)
  rw [hl] at H27
  have HX := Lib.hid hx
  clear hsz hl hx
  go_enter Try.func7, Try.ntmps7
  go_wp2_with fail
  refine H27.mono ?_
  rintro e W1 ⟨rfl, hb1⟩
  have HX1 := Lib.hid (HX.out.next hb1)
  have Hb1 := Lib.hid hb1
  clear hb1 H27 HX
  go_wp2_with fail
  refine (cloths_any p c ss W1 (by omega) HX1.out).mono ?_
  rintro e W2 ⟨gc, qc, rfl, hs2, _, hg2, hbc⟩
  have HS2 := Lib.hid (show FvS w p c ss gc qc W2 from ⟨HX1.out.next hbc, strR_of hs2 hg2, Hb1.out.trans (hbc.mono Hb1.out.size)⟩)
  clear hbc HX1 Hb1 hs2 hg2
  go_wp2_with fail
  refine (Fewest_bad _ _ W2 (fun W hb => H131.out W (HS2.out.sx.next hb)) H0.out).mono ?_
  rintro e W3 ⟨rfl, hbc⟩
  have HS3 := Lib.hid (HS2.out.next hbc)
  clear hbc HS2
  go_upto_region 5 with fail
  obtain ⟨W4, hW4⟩ : ∃ W4, W4 = (W3.alloc (.cells #[.int .i64 0, .slice none 0 0] 26)).alloc (.cells #[.int .i64 0, .slice none 0 0] 37) := ⟨_, rfl⟩
  have hbc : Below W3.heap.size W3 W4 := by rw [hW4]; exact ((Below.refl _ _).alloc (Nat.le_refl _) _).alloc (by simp) _
  have HE4 := Lib.hid (show BoxAt W4 W3.heap.size #[.int .i64 0, .slice none 0 0] 26 by rw [hW4]; exact (BoxAt.new _ _ _).next ((Below.refl _ _).alloc (Nat.le_refl _) _))
  have HD4 := Lib.hid (show BoxAt W4 (W3.heap.size + 1) #[.int .i64 0, .slice none 0 0] 37 by rw [hW4]; have := BoxAt.new (W3.alloc (.cells #[.int .i64 0, .slice none 0 0] 26)) #[.int .i64 0, .slice none 0 0] 37; rw [World.size_alloc] at this; exact this)
  have HS4 := Lib.hid (HS3.out.next hbc)
  obtain ⟨E, hE⟩ : ∃ E, W3.heap.size = E := ⟨_, rfl⟩
  rw [← hW4]
  rw [hE] at HE4 HD4
  try rw [hE]
  clear hbc hW4 hE HS3
  go_wp2_with fail
  refine (Apart_bad _ _ W4 (H131.out W4 HS4.out.sx) H0.out).mono ?_
  rintro e W5 ⟨rfl, hbc⟩
  have HS5 := Lib.hid (HS4.out.next hbc)
  have HE5 := Lib.hid (HE4.out.next hbc)
  have HD5 := Lib.hid (HD4.out.next hbc)
  clear hbc HS4 HE4 HD4
  go_wp2_with fail
  refine (refAlike3_any _ _ _ _ ss W5 (by omega) HS5.out.sx HS5.out.sa).mono ?_
  rintro e W6 ⟨rfl, hbc⟩
  have HS6 := Lib.hid (HS5.out.next hbc)
  have HE6 := Lib.hid (HE5.out.next hbc)
  have HD6 := Lib.hid (HD5.out.next hbc)
  clear hbc HS5 HE5 HD5
  have hl0 : 0 < ss.length := HZ.out.l0
  obtain ⟨b0, o0, rfl, hb0, hx0⟩ := HS6.out.sa.open hl0
  have hc0 := hx0 0 hl0
  obtain ⟨s0, hs0⟩ : ∃ s0, nthB ss 0 = s0 := ⟨_, rfl⟩
  rw [hs0] at hc0
  have Hs0 := Lib.hid hs0
  have hc1 : W6.cell? ⟨b0, o0, none⟩ = some (.string s0) := hc0
  have hg0 : decide ((0 : Int) < (ss.length : Int)) = true := decide_eq_true (by omega)
  have hg1 : decide (0 < ss.length) = true := decide_eq_true hl0
  have hl0' : (0 : Int) < (ss.length : Int) := by omega
  clear hx0 hs0
  go_wp2_with fail
  refine (refFits_few _ c s0.size ss W6 HS6.out.sa (by omega) (.inr ⟨hl0, by rw [Hs0.out]⟩)).mono ?_
  rw [HF.out]
  rintro e W7 ⟨rfl, hbc⟩
  have HS7 := Lib.hid (HS6.out.next hbc)
  have HE7 := Lib.hid (HE6.out.next hbc)
  have HD7 := Lib.hid (HD6.out.next hbc)
  clear hbc HS6 HE6 HD6
  go_upto_region 12 with fail
  obtain ⟨W8, hW8⟩ : ∃ W8, W8 = W7.alloc (.cells #[] 3) := ⟨_, rfl⟩
  have hbc : Below W7.heap.size W7 W8 := by rw [hW8]; exact (Below.refl _ _).alloc (Nat.le_refl _) _
  rw [← hW8]
  have HS8 := Lib.hid (HS7.out.next hbc)
  have HE8 := Lib.hid (HE7.out.next hbc)
  have HD8 := Lib.hid (HD7.out.next hbc)
  clear hbc hW8 HS7 HE7 HD7
  go_wp2_with fail
  refine (call56f HZ.out _ _ W8 HS8.out.sa).mono ?_
  rintro e W9 ⟨⟨ga, qa, rfl, hna, hga⟩, hbc⟩
  have HS9 := Lib.hid (HS8.out.next hbc)
  have HE9 := Lib.hid (HE8.out.next hbc)
  have HD9 := Lib.hid (HD8.out.next hbc)
  clear hbc hna hga HS8 HE8 HD8
  have hd := decide_eq_true (show (24 : Int) < (M : Int) by have := HM.out; omega)
  have hd2 := decide_eq_true (show 24 < M from HM.out)
  have e0 := HE9.out.cell' 0 rfl
  have e1 := HE9.out.cell' 1 rfl
  go_wp2_with fail
  refine (tieNone_ok _).mono ?_
  rintro e WN ⟨rfl, hbc⟩
  have HSn := Lib.hid (HS9.out.next hbc)
  have HDn := Lib.hid (HD9.out.next hbc)
  clear hbc e0 e1 HS9 HE9 HD9
  have d0 := HDn.out.cell' 0 rfl
  have d1 := HDn.out.cell' 1 rfl
  go_wp2_with fail
  refine (bare_ok _).mono ?_
  rintro e WM ⟨rfl, hbc⟩
  have HSm := Lib.hid (HSn.out.next hbc)
  clear hbc d0 d1 HSn HDn
  go_wp2_with fail
  refine (tieKnown _).mono ?_
  rintro e WK ⟨rfl, hbk⟩
  have Hend := Lib.hid (show Below w.heap.size w WK from HSm.out.b.trans (hbk.mono (HSm.out.b).size))
  clear hbk
  go_wp2_with fail
  go_ret
  exact ⟨rfl, Hend.out⟩
set_option maxRecDepth 100000 in
set_option maxHeartbeats 8000000 in
theorem TieFewests_good (T M : Nat) (p : Option Addr) (c : Nat) (ss : List ByteArray) (w : World) (hx : StrR w (.slice p ss.length c) ss) (hl : lrgB 0 ss = false) (hc : cltF ss = 0) (hz : FwZ ss T M) (hm : M ≤ 24) :
    Calls Try.prog 7 #[.slice p ss.length c] w fun e w' => e = .returned (.bool true) ∧ Below w.heap.size w w' := by
  have HF := Lib.hid hc
  have HZ := Lib.hid hz
  have HM := Lib.hid hm
  clear hc hz hm
  obtain ⟨_, hl7, hsz⟩ := lrg_open hl
  have HSz := Lib.hid hsz
  have H27 := tieLarge3_any 0 none p 0 c 0 ss w hx (by omega)
  rw [hl] at H27
  have HX := Lib.hid hx
  clear hsz hl hx
  go_enter Try.func7, Try.ntmps7
  go_wp2_with fail
  refine H27.mono ?_
  rintro e W1 ⟨rfl, hb1⟩
  have HX1 := Lib.hid (HX.out.next hb1)
  have Hb1 := Lib.hid hb1
  clear hb1 H27 HX
  go_wp2_with fail
  refine (cloths_any p c ss W1 (by omega) HX1.out).mono ?_
  rintro e W2 ⟨gc, qc, rfl, hs2, _, hg2, hbc⟩
  have HS2 := Lib.hid (show FvS w p c ss gc qc W2 from ⟨HX1.out.next hbc, strR_of hs2 hg2, Hb1.out.trans (hbc.mono Hb1.out.size)⟩)
  clear hbc HX1 Hb1 hs2 hg2
  go_wp2_with fail
  refine (call54f HZ.out HM.out _ _ W2 HS2.out.sx).mono ?_
  rintro e W3 ⟨⟨ge, qe, gd, qd, rfl, hre, hrd⟩, hbc⟩
  have HS3 := Lib.hid (HS2.out.next hbc)
  have HRe3 := Lib.hid hre
  have HRd3 := Lib.hid hrd
  clear hbc HS2 hre hrd
  go_upto_region 5 with fail
  obtain ⟨W4, hW4⟩ : ∃ W4, W4 = (W3.alloc (.cells #[.int .i64 (M : Int), .slice (some ⟨ge, 0, none⟩) T qe] 26)).alloc (.cells #[.int .i64 (M : Int), .slice (some ⟨gd, 0, none⟩) ss.length qd] 37) := ⟨_, rfl⟩
  have hbc : Below W3.heap.size W3 W4 := by rw [hW4]; exact ((Below.refl _ _).alloc (Nat.le_refl _) _).alloc (by simp) _
  have HE4 := Lib.hid (show BoxAt W4 W3.heap.size #[.int .i64 (M : Int), .slice (some ⟨ge, 0, none⟩) T qe] 26 by rw [hW4]; exact (BoxAt.new _ _ _).next ((Below.refl _ _).alloc (Nat.le_refl _) _))
  have HD4 := Lib.hid (show BoxAt W4 (W3.heap.size + 1) #[.int .i64 (M : Int), .slice (some ⟨gd, 0, none⟩) ss.length qd] 37 by rw [hW4]; have := BoxAt.new (W3.alloc (.cells #[.int .i64 (M : Int), .slice (some ⟨ge, 0, none⟩) T qe] 26)) #[.int .i64 (M : Int), .slice (some ⟨gd, 0, none⟩) ss.length qd] 37; rw [World.size_alloc] at this; exact this)
  have HS4 := Lib.hid (HS3.out.next hbc)
  have HRe4 := Lib.hid (HRe3.out.next hbc)
  have HRd4 := Lib.hid (HRd3.out.next hbc)
  obtain ⟨E, hE⟩ : ∃ E, W3.heap.size = E := ⟨_, rfl⟩
  rw [← hW4]
  rw [hE] at HE4 HD4
  try rw [hE]
  clear hbc hW4 hE HS3 HRe3 HRd3
  go_wp2_with fail
  refine (call55f HZ.out HM.out _ _ W4 HS4.out.sx).mono ?_
  rintro e W5 ⟨⟨g7, q7, rfl, hn7, hg7⟩, hbc⟩
  have HN5 := Lib.hid (And.intro hn7 hg7)
  have HS5 := Lib.hid (HS4.out.next hbc)
  have HE5 := Lib.hid (HE4.out.next hbc)
  have HD5 := Lib.hid (HD4.out.next hbc)
  have HRe5 := Lib.hid (HRe4.out.next hbc)
  have HRd5 := Lib.hid (HRd4.out.next hbc)
  clear hbc HS4 HE4 HD4 HRe4 HRd4 hn7 hg7
  go_wp2_with fail
  refine (refAlike3_any _ _ _ _ ss W5 (by omega) HS5.out.sx HS5.out.sa).mono ?_
  rintro e W6 ⟨rfl, hbc⟩
  have HS6 := Lib.hid (HS5.out.next hbc)
  have HE6 := Lib.hid (HE5.out.next hbc)
  have HD6 := Lib.hid (HD5.out.next hbc)
  have HRe6 := Lib.hid (HRe5.out.next hbc)
  have HRd6 := Lib.hid (HRd5.out.next hbc)
  have HN6 := Lib.hid (show NatsAt W6 g7 0 _ ∧ g7 < W6.heap.size from ⟨HN5.out.1.below hbc HN5.out.2, Nat.lt_of_lt_of_le HN5.out.2 hbc.size⟩)
  clear hbc HS5 HE5 HD5 HRe5 HRd5 HN5
  have hl0 : 0 < ss.length := HZ.out.l0
  obtain ⟨b0, o0, rfl, hb0, hx0⟩ := HS6.out.sa.open hl0
  have hc0 := hx0 0 hl0
  obtain ⟨s0, hs0⟩ : ∃ s0, nthB ss 0 = s0 := ⟨_, rfl⟩
  rw [hs0] at hc0
  have Hs0 := Lib.hid hs0
  have hc1 : W6.cell? ⟨b0, o0, none⟩ = some (.string s0) := hc0
  have hg0 : decide ((0 : Int) < (ss.length : Int)) = true := decide_eq_true (by omega)
  have hg1 : decide (0 < ss.length) = true := decide_eq_true hl0
  have hl0' : (0 : Int) < (ss.length : Int) := by omega
  clear hx0 hs0
  go_wp2_with fail
  refine (refFits_few _ c s0.size ss W6 HS6.out.sa (by omega) (.inr ⟨hl0, by rw [Hs0.out]⟩)).mono ?_
  rw [HF.out]
  rintro e W7 ⟨rfl, hbc⟩
  have HS7 := Lib.hid (HS6.out.next hbc)
  have HE7 := Lib.hid (HE6.out.next hbc)
  have HD7 := Lib.hid (HD6.out.next hbc)
  have HRe7 := Lib.hid (HRe6.out.next hbc)
  have HRd7 := Lib.hid (HRd6.out.next hbc)
  have HN7 := Lib.hid (show NatsAt W7 g7 0 _ ∧ g7 < W7.heap.size from ⟨HN6.out.1.below hbc HN6.out.2, Nat.lt_of_lt_of_le HN6.out.2 hbc.size⟩)
  clear hbc HS6 HE6 HD6 HRe6 HRd6 HN6
  go_upto_region 12 with fail
  obtain ⟨W8, hW8⟩ : ∃ W8, W8 = W7.alloc (.cells #[] 3) := ⟨_, rfl⟩
  have hbc : Below W7.heap.size W7 W8 := by rw [hW8]; exact (Below.refl _ _).alloc (Nat.le_refl _) _
  rw [← hW8]
  have HS8 := Lib.hid (HS7.out.next hbc)
  have HE8 := Lib.hid (HE7.out.next hbc)
  have HD8 := Lib.hid (HD7.out.next hbc)
  have HRe8 := Lib.hid (HRe7.out.next hbc)
  have HRd8 := Lib.hid (HRd7.out.next hbc)
  have HN8 := Lib.hid (show NatsAt W8 g7 0 _ ∧ g7 < W8.heap.size from ⟨HN7.out.1.below hbc HN7.out.2, Nat.lt_of_lt_of_le HN7.out.2 hbc.size⟩)
  clear hbc hW8 HS7 HE7 HD7 HRe7 HRd7 HN7
  go_wp2_with fail
  refine (call56f HZ.out _ _ W8 HS8.out.sa).mono ?_
  rintro e W9 ⟨⟨ga, qa, rfl, hna, hga⟩, hbc⟩
  have HS9 := Lib.hid (HS8.out.next hbc)
  have HE9 := Lib.hid (HE8.out.next hbc)
  have HD9 := Lib.hid (HD8.out.next hbc)
  have HRe9 := Lib.hid (HRe8.out.next hbc)
  have HRd9 := Lib.hid (HRd8.out.next hbc)
  have HN9 := Lib.hid (show NatsAt W9 g7 0 _ ∧ g7 < W9.heap.size from ⟨HN8.out.1.below hbc HN8.out.2, Nat.lt_of_lt_of_le HN8.out.2 hbc.size⟩)
  have HA9 := Lib.hid (And.intro hna hga)
  clear hbc hna hga HS8 HE8 HD8 HRe8 HRd8 HN8
  have hd := decide_eq_false (show ¬ (24 : Int) < (M : Int) by have := HM.out; omega)
  have hd2 := decide_eq_false (show ¬ 24 < M by have := HM.out; omega)
  go_wp2_with fail
  refine (call57f HZ.out _ _ W9 HS9.out.sa).mono ?_
  rintro e W10 ⟨⟨gf, qf, rfl, hrf, hnf, hgf⟩, hbc⟩
  have HS10 := Lib.hid (HS9.out.next hbc)
  have HE10 := Lib.hid (HE9.out.next hbc)
  have HD10 := Lib.hid (HD9.out.next hbc)
  have HRe10 := Lib.hid (HRe9.out.next hbc)
  have HRd10 := Lib.hid (HRd9.out.next hbc)
  have HN10 := Lib.hid (show NatsAt W10 g7 0 _ ∧ g7 < W10.heap.size from ⟨HN9.out.1.below hbc HN9.out.2, Nat.lt_of_lt_of_le HN9.out.2 hbc.size⟩)
  have HA10 := Lib.hid (show NatsAt W10 ga 0 _ ∧ ga < W10.heap.size from ⟨HA9.out.1.below hbc HA9.out.2, Nat.lt_of_lt_of_le HA9.out.2 hbc.size⟩)
  have HF10 := Lib.hid (And.intro hrf (And.intro hnf hgf))
  clear hbc hrf hnf hgf hd hd2 HN9 HA9 HS9 HE9 HD9 HRe9 HRd9
  go_upto_region 19 with fail
  obtain ⟨W11, hW11⟩ : ∃ W11, W11 = W10.alloc (.cells #[.int .i64 (M : Int), .slice (some ⟨gf, 0, none⟩) T qf] 26) := ⟨_, rfl⟩
  have hbc : Below W10.heap.size W10 W11 := by rw [hW11]; exact (Below.refl _ _).alloc (Nat.le_refl _) _
  have HB11 := Lib.hid (show BoxAt W11 W10.heap.size #[.int .i64 (M : Int), .slice (some ⟨gf, 0, none⟩) T qf] 26 by rw [hW11]; exact BoxAt.new _ _ _)
  have HS11 := Lib.hid (HS10.out.next hbc)
  have HE11 := Lib.hid (HE10.out.next hbc)
  have HD11 := Lib.hid (HD10.out.next hbc)
  have HRe11 := Lib.hid (HRe10.out.next hbc)
  have HRd11 := Lib.hid (HRd10.out.next hbc)
  have HN11 := Lib.hid (show NatsAt W11 g7 0 _ ∧ g7 < W11.heap.size from ⟨HN10.out.1.below hbc HN10.out.2, Nat.lt_of_lt_of_le HN10.out.2 hbc.size⟩)
  have HA11 := Lib.hid (show NatsAt W11 ga 0 _ ∧ ga < W11.heap.size from ⟨HA10.out.1.below hbc HA10.out.2, Nat.lt_of_lt_of_le HA10.out.2 hbc.size⟩)
  have HF11 := Lib.hid (show Reads W11 (.slice (some ⟨gf, 0, none⟩) T qf) _ ∧ NatsAt W11 gf 0 _ ∧ gf < W11.heap.size from ⟨HF10.out.1.next hbc, HF10.out.2.1.below hbc HF10.out.2.2, Nat.lt_of_lt_of_le HF10.out.2.2 hbc.size⟩)
  obtain ⟨F, hF⟩ : ∃ F, W10.heap.size = F := ⟨_, rfl⟩
  rw [← hW11]
  rw [hF] at HB11
  try rw [hF]
  clear hbc hW11 hF HN10 HA10 HF10 HS10 HE10 HD10 HRe10 HRd10
  refine region_fs19 E (E + 1) F T ss.length M ge qe gd qd gf qf c g7 q7 ga qa _ (ints (dsnL (fewL (psN ss) T) (psN ss))) (fun W hb => by have H := refSame3_eq (M : Int) (some ⟨ge, 0, none⟩) (some ⟨gf, 0, none⟩) qe qf (ints (fewL (psN ss) T)) W (by rw [ints_len, fewL_len]; have := HZ.out.t1; omega) (by rw [ints_len, fewL_len]; exact HRe11.out.next hb) (by rw [ints_len, fewL_len]; exact HF11.out.1.next hb); rw [ints_len, fewL_len] at H; exact H) (fun W hb => call53f HZ.out HM.out _ c gf qf W (HS11.out.sa.next hb) (HF11.out.2.1.below hb HF11.out.2.2) (Nat.lt_of_lt_of_le HF11.out.2.2 hb.size)) (fun g off cap W hb hR => by
      have e : (ints (dsnL (fewL (psN ss) T) (psN ss))).length = ss.length := by rw [ints_len, dsnL_len, psN_len]
      have H := Same_any (M : Int) (M : Int) (some ⟨gd, 0, none⟩) (some ⟨g, off, none⟩) qd cap (ints (dsnL (fewL (psN ss) T) (psN ss))) (ints (dsnL (fewL (psN ss) T) (psN ss))) W (by rw [e]; exact HRd11.out.next hb) (by rw [e]; exact hR)
      rw [e, decide_eq_true (show (M : Int) = (M : Int) ∧ ints (dsnL (fewL (psN ss) T) (psN ss)) = ints (dsnL (fewL (psN ss) T) (psN ss)) from ⟨rfl, rfl⟩)] at H
      exact H) HE11.out HD11.out HB11.out rfl ?hops (by kernel_rfl) (by kernel_rfl) (by kernel_rfl) (by kernel_rfl) ?hsz ?hout ?hend
  case hops => exact ⟨⟨_, _, _, rfl, by kernel_rfl⟩, ⟨_, _, _, rfl, by kernel_rfl⟩, ⟨_, _, _, rfl, by kernel_rfl⟩, ⟨_, _, _, rfl, by kernel_rfl⟩, ⟨_, _, _, rfl, by kernel_rfl⟩, ⟨_, _, _, rfl, by kernel_rfl⟩, ⟨_, _, _, rfl, by kernel_rfl⟩, ⟨_, _, _, rfl, by kernel_rfl⟩, ⟨_, _, _, rfl, by kernel_rfl⟩, ⟨_, _, _, rfl, by kernel_rfl⟩, ⟨_, _, _, rfl, by kernel_rfl⟩, ⟨_, _, _, rfl, by kernel_rfl⟩, ⟨_, _, _, rfl, by kernel_rfl⟩, ⟨_, _, _, rfl, by kernel_rfl⟩, ⟨_, _, _, rfl, by kernel_rfl⟩, ⟨_, _, _, rfl, by kernel_rfl⟩, ⟨_, _, _, rfl, by kernel_rfl⟩, ⟨_, _, _, rfl, by kernel_rfl⟩, ⟨_, _, _, rfl, by kernel_rfl⟩, ⟨_, _, _, rfl, by kernel_rfl⟩, ⟨_, _, _, rfl, by kernel_rfl⟩, ⟨_, _, _, rfl, by kernel_rfl⟩, ⟨_, _, rfl, by kernel_rfl⟩, ⟨_, _, _, rfl, by kernel_rfl⟩, ⟨_, _, rfl, by kernel_rfl⟩, ⟨_, _, _, rfl, by kernel_rfl⟩, ⟨_, _, _, rfl, by kernel_rfl⟩⟩
  case hsz => intro d hd; simp only [List.mem_cons, List.not_mem_nil, or_false] at hd; show d < 125; omega
  case hout => exact ⟨rfl, rfl, rfl, rfl, rfl, rfl, rfl, rfl⟩
  case hend =>
    intro g98 q98 G98 Q98 P98 u82 u83 u84 u85 u86 u87 u88 u89 u90 u91 u92 u93 u94 u95 u96 u97 u98 u99 u100 u101 u102 u103 u104 u105 u106 u107 W17 hb17 hm98 hB98
    simp only [putL, List.foldl, Act.put, List.setIfInBounds_toArray, List.set_cons_succ, List.set_cons_zero]
    have HS17 := Lib.hid (HS11.out.next hb17)
    have HN17 := Lib.hid (show NatsAt W17 g7 0 _ ∧ g7 < W17.heap.size from ⟨HN11.out.1.below hb17 HN11.out.2, Nat.lt_of_lt_of_le HN11.out.2 hb17.size⟩)
    have HA17 := Lib.hid (show NatsAt W17 ga 0 _ ∧ ga < W17.heap.size from ⟨HA11.out.1.below hb17 HA11.out.2, Nat.lt_of_lt_of_le HA11.out.2 hb17.size⟩)
    have HFl := Lib.hid (show (fstL (colL (psN ss)) T).length = M by rw [fstL_len]; exact HZ.out.m)
    have hM24 := HM.out
    clear hb17 hm98 hB98 HN11 HA11 HF11 HB11 HS11 HE11 HD11 HRe11 HRd11
    go_wp2_with fail
    go_loopw [13] (fun i wr => ∃ k : Nat, k ≤ M ∧ i = .int .i64 (k : Int) ∧ Below W17.heap.size W17 wr) (fun i _ => M - (intOf i).toNat)
    case atStart => exact ⟨0, Nat.zero_le _, rfl, Below.refl _ _⟩
    case round =>
      obtain ⟨k, hk, rfl, hB⟩ := hrel
      have HB := Lib.hid hB
      clear hB
      by_cases hlt : k < M
      · have c1 := HN17.out.1.below HB.out HN17.out.2 k (by rw [HFl.out]; exact hlt)
        have c2 := HA17.out.1.below HB.out HA17.out.2 k (by rw [HFl.out]; exact hlt)
        rw [Nat.zero_add] at c1 c2
        obtain ⟨x, hx⟩ : ∃ x, nthN (fstL (colL (psN ss)) T) k = x := ⟨_, rfl⟩
        rw [hx] at c1 c2
        have hk0 : (0 : Int) ≤ (k : Int) := by omega
        have hk1 : (k : Int) < (M : Int) := by omega
        clear hx
        go_wp2_with fail
        go_region
        all_goals
          (go_wp2_with fail
           exact ⟨⟨k + 1, by omega, by go_num, HB.out.drew⟩, by simp [intOf]; omega⟩)
      · obtain rfl : k = M := by omega
        have Hend0 := Lib.hid (HS17.out.b.trans (HB.out.mono HS17.out.b.size))
        go_wp2_with fail
        refine (tieKnown _).mono ?_
        rintro e WK ⟨rfl, hbk⟩
        have Hend := Lib.hid (show Below w.heap.size w WK from Hend0.out.trans (hbk.mono (Hend0.out).size))
        clear hbk
        go_wp2_with fail
        go_ret
        exact ⟨rfl, Hend.out⟩
end Go.Proofs.Ytdmgffoikebgkaa
