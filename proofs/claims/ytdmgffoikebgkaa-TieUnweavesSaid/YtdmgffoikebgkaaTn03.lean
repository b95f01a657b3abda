/- TieUnweaves: its contracts for what is valid; its last region. -/
import Derived.Deep.RegionLaw
import Derived.Deep.DeepCutAuto
import Derived.Laws.StructEq
import Derived.Test.YtdmgffoikebgkaaTb01
import Derived.Test.YtdmgffoikebgkaaTb02
import Derived.Test.YtdmgffoikebgkaaTb03
import Derived.Test.YtdmgffoikebgkaaTb04
import Derived.Test.YtdmgffoikebgkaaTb05
import Derived.Test.YtdmgffoikebgkaaTb06
import Derived.Test.YtdmgffoikebgkaaTb07
import Derived.Test.YtdmgffoikebgkaaTb08
import Derived.Test.YtdmgffoikebgkaaTb09
import Derived.Test.YtdmgffoikebgkaaTb10
import Derived.Test.YtdmgffoikebgkaaTb11
import Derived.Test.YtdmgffoikebgkaaTb12
import Derived.Test.YtdmgffoikebgkaaTb13
import Derived.Test.YtdmgffoikebgkaaTb14
import Derived.Test.YtdmgffoikebgkaaTb15
import Derived.Test.YtdmgffoikebgkaaTb16
import Derived.Test.YtdmgffoikebgkaaTb17
import Derived.Test.YtdmgffoikebgkaaTb18
import Derived.Test.YtdmgffoikebgkaaTb19
import Derived.Test.YtdmgffoikebgkaaTb20
import Derived.Test.YtdmgffoikebgkaaTn02
import Derived.Deep.QuietTactic
import Derived.BigQuiet
import Derived.Deep.RegionHeld3
namespace Go.Proofs.Ytdmgffoikebgkaa
open Go.RowKit Go.Shelf
attribute [local go_sem] Oper.semAt_some

theorem under69 : Try.prog.underlying 69 = some (.array 3 3) := by kernel_rfl
/-- arrays of three integers compared -/
theorem eq69 (a b c a' b' c' : Int) (w : World) : (Op.equalIn 10000 69 (.agg #[.int .i64 a, .int .i64 b, .int .i64 c]) (.agg #[.int .i64 a', .int .i64 b', .int .i64 c'])).run Try.prog w = .ok (a == a' && b == b' && c == c') w := by
  have u3 := Try.underlying3
  have a3 := Try.isAgg3
  have z3 := Try.sizeOf3
  rw [show (10000 : Nat) = 9999 + 1 from rfl, Op.equalIn]
  simp only [Sem.run_bind, run_underlying under69, Result.andThen_ok]
  simp only [Std.Legacy.Range.forIn_eq_forIn_range', Std.Legacy.Range.size, Nat.sub_zero, Nat.add_sub_cancel, Nat.div_one, List.range'_succ, List.range'_zero, List.forIn_cons, List.forIn_nil]
  go_simp
  by_cases h1 : a = a' <;> by_cases h2 : b = b' <;> by_cases h3 : c = c' <;> simp [h1, h2, h3]
attribute [local go_sem] eq69
/-- the picks of a cloth, each as a row of its warps -/
def psN (ss : List ByteArray) : List Nat := ss.map fun s => rowTo (fun k => bytN s k == 120) s.size
theorem psN_len (ss : List ByteArray) : (psN ss).length = ss.length := by simp [psN]
theorem strB_of {s : ByteArray} {n : Nat} (h0 : 1 ≤ n) (h1 : n ≤ 96) (h : wrongB n s = false) : StrB s n (rowTo (fun k => bytN s k == 120) s.size) := by
  unfold wrongB at h
  rw [Bool.or_eq_false_iff] at h
  have hz : s.size = n := by simpa using h.1
  have hp := pickB_true.1 (show pickB s = true by simpa using h.2)
  rw [hz] at hp ⊢
  refine ⟨hz, rowTo_lt _ _, h0, h1, ?_⟩
  have hzz : s.data.toList.length = n := by rw [← hz]; simp
  refine List.ext_getElem (by rw [hzz]; simp) fun i h2 h3 => ?_
  have hi : i < n := by rw [hzz] at h2; exact h2
  have hb : bytN s i = (s.data.toList[i]).toNat := by unfold bytN; rw [List.getElem?_eq_getElem h2]; rfl
  have hbit : bitN (rowTo (fun k => bytN s k == 120) n) i = (bytN s i == 120) := by
    show (rowTo _ n).testBit i = _
    rw [rowTo_bit]; simp [hi]
  simp only [List.getElem_map, List.getElem_range]
  unfold byteP
  rw [hbit]
  apply UInt8.toNat_inj.1
  rw [← hb]
  rcases hp i hi with e | e
  · rw [e]; rfl
  · rw [e]; rfl
theorem cltE_zero {n : Nat} {ss : List ByteArray} (h : cltE n ss = 0) : ss.length ≤ 60 ∧ 0 < ss.length ∧ ∀ s ∈ ss, wrongB n s = false := by
  unfold cltE at h
  by_cases h1 : 60 < ss.length
  · rw [if_pos h1] at h; cases h
  · rw [if_neg h1] at h
    by_cases h2 : ss.length = 0
    · rw [if_pos h2] at h; cases h
    · rw [if_neg h2] at h
      cases ha : ss.any (wrongB n) with
      | true => rw [ha, if_pos rfl] at h; cases h
      | false =>
        rw [List.any_eq_false] at ha
        exact ⟨by omega, by omega, fun s hs => by simpa using ha s hs⟩
theorem clS_of {n : Nat} {ss : List ByteArray} (h0 : 1 ≤ n) (h1 : n ≤ 96) (h : ∀ s ∈ ss, wrongB n s = false) : ClS ss n (psN ss) := by
  refine ⟨(psN_len ss).symm, fun i hi => ?_⟩
  rw [psN_len] at hi
  have e : nthN (psN ss) i = rowTo (fun k => bytN (nthB ss i) k == 120) (nthB ss i).size := by
    rw [nthN_get _ _ (by rw [psN_len]; exact hi), nthB_get _ _ hi]
    simp [psN]
  rw [e]
  exact strB_of h0 h1 (h _ (by rw [nthB_get _ _ hi]; exact List.getElem_mem _))
theorem unw_zero {h : Int} {xs : List Int} {ss : List ByteArray} (hk : unwE h xs ss = 0) : chkT h xs = 0 ∧ cltE xs.length ss = 0 := by
  unfold unwE at hk
  by_cases q : chkT h xs = 0
  · rw [if_neg (by simp [q])] at hk; exact ⟨q, hk⟩
  · rw [if_pos q] at hk; exact absurd hk q
theorem unw_open {n1 : Int} {p1 p2 : Option Addr} {c1 c2 : Nat} {xs : List Int} {ss : List ByteArray} {w : World} (hr : Reads w (.slice p1 xs.length c1) xs) (hx : StrR w (.slice p2 ss.length c2) ss) (hk : unwE n1 xs ss = 0) :
    ∃ n b off b2 off2 : Nat, n1 = (n : Int) ∧ p1 = some ⟨b, off, none⟩ ∧ p2 = some ⟨b2, off2, none⟩ ∧ TAt w b off n (hkN xs) ∧ StrsAt w b2 off2 ss ∧ b2 < w.heap.size ∧ ClS ss (hkN xs).length (psN ss) ∧ 1 ≤ ss.length ∧ ss.length ≤ 60 := by
  obtain ⟨h1, h2⟩ := unw_zero hk
  have hok := chkT_ok h1
  obtain ⟨hl1, hl0, hw⟩ := cltE_zero h2
  obtain ⟨p', c', hv, _, hy⟩ := hr
  simp only [Value.slice.injEq, true_and] at hv
  obtain ⟨rfl, rfl⟩ := hv
  obtain ⟨b, off, rfl, hb, hy⟩ := hy hok.2.2.1
  obtain ⟨b2, off2, rfl, hb2, hx⟩ := hx.open hl0
  exact ⟨n1.toNat, b, off, b2, off2, by omega, rfl, rfl, hkN_tat h1 hy hb, hx, hb2, by rw [hkN_len]; exact clS_of hok.2.2.1 hok.2.2.2.1 hw, hl0, hl1⟩
theorem clAt_of {ss : List ByteArray} {n : Nat} {ps : List Nat} {W : World} {b off : Nat} (h : ClS ss n ps) (hx : StrsAt W b off ss) (hb : b < W.heap.size) : ClAt W b off n ps :=
  ⟨fun i hi => ⟨_, h.str i hi, hx i (by rw [h.len]; exact hi)⟩, hb⟩
/-- what Unweave says of what is valid -/
def UnwG (n1 : Int) (xs : List Int) (ss : List ByteArray) (e : Ending) (w' : World) : Prop :=
  (NoPart (hkN xs) (psN ss) ∧ ∃ g cap, e = .returned (.tuple #[.agg #[.int .i64 n1, .slice (some ⟨g, 0, none⟩) ss.length cap], .int .i64 0]) ∧ Reads w' (.slice (some ⟨g, 0, none⟩) ss.length cap) (ints (dsnL (hkN xs) (psN ss)))) ∨
  ((∃ p q, PartAt (hkN xs) (psN ss) p q) ∧ e = .returned (.tuple #[.agg #[.int .i64 0, .slice none 0 0], .int .i64 9]))
theorem dsn_len (xs : List Int) (ss : List ByteArray) : (ints (dsnL (hkN xs) (psN ss))).length = ss.length := by rw [ints_len, dsnL_len, psN_len]
theorem call48g (n1 : Int) (p1 p2 : Option Addr) (c1 c2 : Nat) (xs : List Int) (ss : List ByteArray) (w : World) (hr : Reads w (.slice p1 xs.length c1) xs) (hx : StrR w (.slice p2 ss.length c2) ss) (hk : unwE n1 xs ss = 0) :
    Calls Try.prog 48 #[.agg #[.int .i64 n1, .slice p1 xs.length c1], .slice p2 ss.length c2] w fun e w' => UnwG n1 xs ss e w' ∧ Below w.heap.size w w' := by
  obtain ⟨n, b, off, b2, off2, rfl, rfl, rfl, hT, hS, hb2, hC, l0, l1⟩ := unw_open hr hx hk
  refine (Unweave_any n b off c1 b2 off2 c2 xs.length ss.length (hkN xs) (psN ss) w (hkN_len xs) (psN_len ss) hT (by rw [← hkN_len xs]; exact clAt_of hC hS hb2) l0 l1).mono ?_
  rintro e w' (⟨hno, g, cap, rfl, hn, _, hg, hb⟩ | ⟨hp, rfl, hb⟩)
  · refine ⟨.inl ⟨hno, g, cap, rfl, some ⟨g, 0, none⟩, cap, by rw [dsn_len], by rw [dsn_len]; omega, fun _ => ⟨g, 0, rfl, hg, hn.ints⟩⟩, hb⟩
  · exact ⟨.inr ⟨hp, rfl⟩, hb⟩
theorem call49g (n1 : Int) (p1 p2 : Option Addr) (c1 c2 : Nat) (xs : List Int) (ss : List ByteArray) (w : World) (hr : Reads w (.slice p1 xs.length c1) xs) (hx : StrR w (.slice p2 ss.length c2) ss) (hk : unwE n1 xs ss = 0) :
    Calls Try.prog 49 #[.agg #[.int .i64 n1, .slice p1 xs.length c1], .slice p2 ss.length c2] w fun e w' => PrtR (hkN xs) (psN ss) e ∧ Below w.heap.size w w' := by
  obtain ⟨n, b, off, b2, off2, rfl, rfl, rfl, hT, hS, hb2, hC, l0, l1⟩ := unw_open hr hx hk
  exact Part_any n b off c1 b2 off2 c2 xs.length ss.length (hkN xs) (psN ss) w (hkN_len xs) (psN_len ss) hT (by rw [← hkN_len xs]; exact clAt_of hC hS hb2) l0 l1
theorem call52g (n1 : Int) (p1 p2 : Option Addr) (c1 c2 : Nat) (xs : List Int) (ss : List ByteArray) (w : World) (hr : Reads w (.slice p1 xs.length c1) xs) (hx : StrR w (.slice p2 ss.length c2) ss) (hk : unwE n1 xs ss = 0) :
    Calls Try.prog 52 #[.agg #[.int .i64 n1, .slice p1 xs.length c1], .slice p2 ss.length c2] w fun e w' => PrtM (hkN xs) (psN ss) e ∧ Below w.heap.size w w' := by
  obtain ⟨n, b, off, b2, off2, rfl, rfl, rfl, hT, hS, hb2, hC, l0, l1⟩ := unw_open hr hx hk
  have H := refPart3_any n b off c1 b2 off2 c2 ss.length (hkN xs) (psN ss) ss w hT hC (psN_len ss) l1 hS hb2
  rw [hkN_len] at H
  exact H
theorem call53g (n1 : Int) (p1 p2 : Option Addr) (c1 c2 : Nat) (xs : List Int) (ss : List ByteArray) (w : World) (hr : Reads w (.slice p1 xs.length c1) xs) (hx : StrR w (.slice p2 ss.length c2) ss) (hk : unwE n1 xs ss = 0) (hno : NoPart (hkN xs) (psN ss)) :
    Calls Try.prog 53 #[.agg #[.int .i64 n1, .slice p1 xs.length c1], .slice p2 ss.length c2] w fun e w' => ∃ g off cap, e = .returned (.agg #[.int .i64 n1, .slice (some ⟨g, off, none⟩) ss.length cap]) ∧ Reads w' (.slice (some ⟨g, off, none⟩) ss.length cap) (ints (dsnL (hkN xs) (psN ss))) ∧ w.heap.size ≤ g ∧ g < w'.heap.size ∧ Below w.heap.size w w' := by
  obtain ⟨n, b, off, b2, off2, rfl, rfl, rfl, hT, hS, hb2, hC, l0, l1⟩ := unw_open hr hx hk
  have H := refUnweave3_any n b off c1 b2 off2 c2 ss.length (hkN xs) (psN ss) ss w hT hC (psN_len ss) l0 l1 hS hb2
  have e := uw_eq hT.hk hno
  rw [psN_len] at e
  rw [hkN_len, e] at H
  refine H.mono ?_
  rintro e w' ⟨p, cap, rfl, hRd, hfar, hb⟩
  rw [dsn_len] at hRd ⊢
  have hRd0 := hRd
  obtain ⟨p', c', hv, _, hy⟩ := hRd
  rw [dsn_len] at hv hy
  simp only [Value.slice.injEq, true_and] at hv
  obtain ⟨rfl, rfl⟩ := hv
  obtain ⟨g, o2, rfl, hg, _⟩ := hy (by omega)
  exact ⟨g, o2, _, rfl, hRd0, hfar _ rfl, hg, hb⟩
theorem Reads.farO {W W' : World} {g o B L c : Nat} {xs : List Int} (h : Reads W (.slice (some ⟨g, o, none⟩) L c) xs) (hB : SetAt B W W') (hne : g ≠ B) : Reads W' (.slice (some ⟨g, o, none⟩) L c) xs := by
  obtain ⟨p, c', hv, hl, hx⟩ := h
  refine ⟨p, c', hv, hl, fun h0 => ?_⟩
  obtain ⟨b, off, rfl, h1, h2⟩ := hx h0
  simp only [Value.slice.injEq, Option.some.injEq, Addr.mk.injEq] at hv
  obtain ⟨⟨rfl, rfl, _⟩, _⟩ := hv
  exact ⟨_, _, rfl, by rw [hB.size]; exact h1, fun i hi => (World.cell?_of_block (w := W) (hB.other _ hne)).trans (h2 i hi)⟩
/-- a row of the region's own that reads as some numbers, from somewhere on -/
def memRO (L : Nat) (ys : List Int) : Mem := ⟨fun h W => Reads W (.slice (some ⟨h.b, h.b2, none⟩) L h.c) ys, fun h => [h.b], fun _ _ _ h hb => h.next hb, fun _ _ _ _ h hn hB => h.farO hB (fun e => hn (by simp [e]))⟩
def region_uw17U : List (List Nat) := [[], [], [], [], [], [], [6], [6], [6], [6], [6], [6], [6], [6], [6], [6], [6], [6], [6], [6], [6], [6]]
def region_uw17X (_Z _D _A T c1 L c2 gd qd : Nat) (n1 : Int) (p1 p2 : Option Addr) (_ys : List Int) : Nat → (Nat → Hd) → Value
  | 0, _ => .int .i64 0
  | 1, _ => .bool true
  | 2, _ => .bool true
  | 3, _ => .agg #[.int .i64 n1, .slice (some ⟨gd, 0, none⟩) L qd]
  | 4, _ => .agg #[.int .i64 n1, .slice p1 T c1]
  | 5, _ => .slice p2 L c2
  | 6, hds => .agg #[.int .i64 n1, .slice (some ⟨(hds 6).b, (hds 6).b2, none⟩) L (hds 6).c]
  | 7, _ => .bool true
  | 8, _ => .bool true
  | 9, _ => .bool true
  | 10, _ => .int .i64 7
  | 11, _ => .bool true
  | 12, _ => .bool true
  | 13, _ => .bool true
  | 14, _ => .agg #[.int .i64 0, .int .i64 0, .int .i64 0]
  | 15, _ => .agg #[.int .i64 0, .int .i64 0, .int .i64 0]
  | 16, _ => .bool true
  | 17, _ => .bool true
  | 18, _ => .bool true
  | 19, _ => .bool true
  | 20, _ => .bool true
  | 21, _ => .bool true
  | _ + 22, _ => undef
theorem region_uw17X.congr (Z D A T c1 L c2 gd qd : Nat) (n1 : Int) (p1 p2 : Option Addr) (ys : List Int) : ∀ i hds hds', (∀ r ∈ uOf region_uw17U i, hds r = hds' r) → region_uw17X Z D A T c1 L c2 gd qd n1 p1 p2 ys i hds = region_uw17X Z D A T c1 L c2 gd qd n1 p1 p2 ys i hds'
  | 0, _, _, _ => rfl
  | 1, _, _, _ => rfl
  | 2, _, _, _ => rfl
  | 3, _, _, _ => rfl
  | 4, _, _, _ => rfl
  | 5, _, _, _ => rfl
  | 6, hds, hds', h => by simp only [region_uw17X, h 6 (show 6 ∈ uOf region_uw17U 6 by decide)]
  | 7, _, _, _ => rfl
  | 8, _, _, _ => rfl
  | 9, _, _, _ => rfl
  | 10, _, _, _ => rfl
  | 11, _, _, _ => rfl
  | 12, _, _, _ => rfl
  | 13, _, _, _ => rfl
  | 14, _, _, _ => rfl
  | 15, _, _, _ => rfl
  | 16, _, _, _ => rfl
  | 17, _, _, _ => rfl
  | 18, _, _, _ => rfl
  | 19, _, _, _ => rfl
  | 20, _, _, _ => rfl
  | 21, _, _, _ => rfl
  | _ + 22, _, _, _ => rfl
def region_uw17M (_Z _D _A _T _c1 L _c2 _gd _qd : Nat) (_n1 : Int) (_p1 _p2 : Option Addr) (ys : List Int) : Nat → Mem
  | 6 => memRO L ys
  | _ => memNone
def region_uw17S (_Z _D _A _T _c1 _L _c2 _gd _qd : Nat) (_n1 : Int) (_p1 _p2 : Option Addr) (_ys : List Int) : Nat → Option Sto
  | _ => none
set_option maxRecDepth 8000 in
set_option maxHeartbeats 2000000 in
theorem region_uw17 {id : Nat} {ops : Array Oper} {Q : Exit → Act → World → Prop} {a : Act} {w : World} (Z D A T c1 L c2 gd qd : Nat) (n1 : Int) (p1 p2 : Option Addr) (ys : List Int) (H53 : ∀ W, Below w.heap.size w W → Calls Try.prog 53 #[.agg #[.int .i64 n1, .slice p1 T c1], .slice p2 L c2] W fun e w' => ∃ g off cap, e = .returned (.agg #[.int .i64 n1, .slice (some ⟨g, off, none⟩) L cap]) ∧ Reads w' (.slice (some ⟨g, off, none⟩) L cap) ys ∧ W.heap.size ≤ g ∧ g < w'.heap.size ∧ Below W.heap.size W w') (H40 : ∀ g off cap W, Below w.heap.size w W → Reads W (.slice (some ⟨g, off, none⟩) L cap) ys → Calls Try.prog 40 #[.agg #[.int .i64 n1, .slice (some ⟨gd, 0, none⟩) L qd], .agg #[.int .i64 n1, .slice (some ⟨g, off, none⟩) L cap]] W fun e w' => e = .returned (.bool true) ∧ Below W.heap.size W w') (hZ : BoxAt w Z #[.int .i64 n1, .slice p1 T c1] 26) (hD : BoxAt w D #[.int .i64 n1, .slice (some ⟨gd, 0, none⟩) L qd] 37) (hA : BoxAt w A #[.int .i64 0, .int .i64 0, .int .i64 0] 69)
    (gsize : ops.size = 22)
    (gops : IsOp ops 0 (some 110) (.move (.tmp 8)) none [] ∧ IsOp ops 1 (some 111) (.binOp .eql 27 (.tmp 110) (.const (.int .i64 0)) 27) none [0] ∧ IsOp ops 2 (some 112) (.move (.tmp 111)) none [1] ∧ IsOp ops 3 (some 113) (.load 37 (.tmp 7)) (some (2, true)) [2] ∧ IsOp ops 4 (some 114) (.load 26 (.tmp 2)) (some (2, true)) [2] ∧ IsOp ops 5 (some 115) (.move (.tmp 1)) (some (2, true)) [2] ∧ IsOp ops 6 (some 116) (.call { callee := .value (.func 53), args := #[.tmp 114, .tmp 115], argTypes := #[26, 49] }) (some (2, true)) [2, 4, 5] ∧ IsOp ops 7 (some 117) (.call { callee := .value (.func 40), args := #[.tmp 113, .tmp 116], argTypes := #[37, 37] }) (some (2, true)) [2, 3, 6] ∧ IsOp ops 8 (some 118) (.pick (.tmp 112) (.tmp 117) (.const (.bool false))) none [2, 7] ∧ IsOp ops 9 (some 119) (.move (.tmp 118)) none [8] ∧ IsOp ops 10 (some 120) (.move (.tmp 12)) (some (9, true)) [9] ∧ IsOp ops 11 (some 121) (.binOp .eql 27 (.tmp 120) (.const (.int .i64 7)) 27) (some (9, true)) [9, 10] ∧ IsOp ops 12 (some 122) (.pick (.tmp 119) (.tmp 121) (.const (.bool false))) none [9, 11] ∧ IsOp ops 13 (some 123) (.move (.tmp 122)) none [12] ∧ IsOp ops 14 (some 124) (.load 69 (.tmp 14)) (some (13, true)) [13] ∧ IsOp ops 15 (some 125) (.build 69 #[]) (some (13, true)) [13] ∧ IsOp ops 16 (some 126) (.binOp .eql 69 (.tmp 124) (.tmp 125) 69) (some (13, true)) [13, 14, 15] ∧ IsOp ops 17 (some 127) (.pick (.tmp 123) (.tmp 126) (.const (.bool false))) none [13, 16] ∧ IsOp ops 18 (some 128) (.move (.tmp 127)) none [17] ∧ IsOp ops 19 (some 129) (.call { callee := .value (.func 23), args := #[], argTypes := #[] }) (some (18, true)) [18] ∧ IsOp ops 20 (some 130) (.pick (.tmp 128) (.tmp 129) (.const (.bool false))) none [18, 19] ∧ IsOp ops 21 (some 4) (.assign (.tmp 130)) none [20])
    (gbk : backB ops = true) (gds : dstsB ops (dOf [some 110, some 111, some 112, some 113, some 114, some 115, some 116, some 117, some 118, some 119, some 120, some 121, some 122, some 123, some 124, some 125, some 126, some 127, some 128, some 129, some 130, some 4]) = true) (gus : useB ops (uOf region_uw17U) (kOf [0, 0, 0, 0, 0, 0, 1, 0, 0, 0, 0, 0, 0, 0, 0, 0, 0, 0, 0, 0, 0, 0]) = true) (ggd : guardC ops (dOf [some 110, some 111, some 112, some 113, some 114, some 115, some 116, some 117, some 118, some 119, some 120, some 121, some 122, some 123, some 124, some 125, some 126, some 127, some 128, some 129, some 130, some 4]) [(2, true), (9, true), (13, true), (18, true)] = true) (gsz : ∀ e ∈ [110, 111, 112, 113, 114, 115, 116, 117, 118, 119, 120, 121, 122, 123, 124, 125, 126, 127, 128, 129, 130, 4], e < a.tmps.size)
    (gout : a.eval (.tmp 8) = .int .i64 0 ∧ a.eval (.tmp 7) = .pointer (some ⟨D, 0, none⟩) ∧ a.eval (.tmp 2) = .pointer (some ⟨Z, 0, none⟩) ∧ a.eval (.tmp 1) = .slice p2 L c2 ∧ a.eval (.tmp 12) = .int .i64 7 ∧ a.eval (.tmp 14) = .pointer (some ⟨A, 0, none⟩))
    (gend : ∀ (g116 q116 G116 Q116 : Nat) (P116 : Option Addr) (u110 u111 u112 u113 u114 u115 u116 u117 u118 u119 u120 u121 u122 u123 u124 u125 u126 u127 u128 u129 u130 : Value) (W : World), Below w.heap.size w W → (memRO L ys).P ⟨g116, q116, G116, Q116, P116⟩ W → (∀ b ∈ (memRO L ys).bl ⟨g116, q116, G116, Q116, P116⟩, w.heap.size ≤ b ∧ b < W.heap.size) → Q .normal (putL a [(110, u110), (111, u111), (112, u112), (113, u113), (114, u114), (115, u115), (116, u116), (117, u117), (118, u118), (119, u119), (120, u120), (121, u121), (122, u122), (123, u123), (124, u124), (125, u125), (126, u126), (127, u127), (128, u128), (129, u129), (130, u130), (4, .bool true)]) W) :
    (Code.region id ops true).wp Try.prog Q a w := by
  obtain ⟨iop0, iop1, iop2, iop3, iop4, iop5, iop6, iop7, iop8, iop9, iop10, iop11, iop12, iop13, iop14, iop15, iop16, iop17, iop18, iop19, iop20, iop21⟩ := gops
  obtain ⟨o8, o7, o2, o1, o12, o14⟩ := gout
  refine region_all (RSp.of 22 [some 110, some 111, some 112, some 113, some 114, some 115, some 116, some 117, some 118, some 119, some 120, some 121, some 122, some 123, some 124, some 125, some 126, some 127, some 128, some 129, some 130, some 4] (fun _ => true) (region_uw17X Z D A T c1 L c2 gd qd n1 p1 p2 ys) region_uw17U [0, 0, 0, 0, 0, 0, 1, 0, 0, 0, 0, 0, 0, 0, 0, 0, 0, 0, 0, 0, 0, 0] (region_uw17M Z D A T c1 L c2 gd qd n1 p1 p2 ys) (region_uw17S Z D A T c1 L c2 gd qd n1 p1 p2 ys)) [(8, .int .i64 0), (7, .pointer (some ⟨D, 0, none⟩)), (2, .pointer (some ⟨Z, 0, none⟩)), (1, .slice p2 L c2), (12, .int .i64 7), (14, .pointer (some ⟨A, 0, none⟩))] [110, 111, 112, 113, 114, 115, 116, 117, 118, 119, 120, 121, 122, 123, 124, 125, 126, 127, 128, 129, 130, 4] (RSp.of_fitC gsize.symm gbk gds gus ggd (by decide) ?_ ?_) (RSp.of_ok _ (region_uw17X.congr Z D A T c1 L c2 gd qd n1 p1 p2 ys) ?_) gsz ?_ ?_ ?_
  · intro p hp
    have hp2 : p ∈ ([] : List (Nat × Nat)) := hp
    cases hp2
  · intro j hj hds
    simp only [List.mem_cons, List.not_mem_nil, or_false] at hj
    rcases hj with rfl | rfl | rfl | rfl
    all_goals rfl
  · intro i s hds
    match i, hds with
    | 0, hds => cases hds
    | 1, hds => cases hds
    | 2, hds => cases hds
    | 3, hds => cases hds
    | 4, hds => cases hds
    | 5, hds => cases hds
    | 6, hds => cases hds
    | 7, hds => cases hds
    | 8, hds => cases hds
    | 9, hds => cases hds
    | 10, hds => cases hds
    | 11, hds => cases hds
    | 12, hds => cases hds
    | 13, hds => cases hds
    | 14, hds => cases hds
    | 15, hds => cases hds
    | 16, hds => cases hds
    | 17, hds => cases hds
    | 18, hds => cases hds
    | 19, hds => cases hds
    | 20, hds => cases hds
    | 21, hds => cases hds
    | _ + 22, hds => cases hds
  · intro q hq
    simp only [List.mem_cons, List.not_mem_nil, or_false] at hq
    rcases hq with rfl | rfl | rfl | rfl | rfl | rfl
    · exact ⟨o8, by simp⟩
    · exact ⟨o7, by simp⟩
    · exact ⟨o2, by simp⟩
    · exact ⟨o1, by simp⟩
    · exact ⟨o12, by simp⟩
    · exact ⟨o14, by simp⟩
  · intro i o ho hw
    have hi : i < 22 := by rw [← gsize]; exact (Array.getElem?_eq_some_iff.1 ho).1
    match i, hi with
    | 0, _ =>
      obtain ⟨ty, pos, aft, e, hdp⟩ := iop0
      rw [e] at ho
      obtain rfl := Option.some.inj ho
      intro a' hds W K hB lq ld hmem hK
      have e8 : a'.eval (.tmp 8) = .int .i64 0 := by rw [eval_tmp]; exact lq (8, .int .i64 0) (by simp)
      have t8 := (eval_tmp a' 8).symm.trans e8
      have HK := Lib.hid (show K (a'.put (some 110) (.int .i64 0)) W from hK W (Below.refl _ _) trivial)
      clear hK ld lq hmem
      unfold Oper.wp
      simp only [execOp, e8]
      exact HK.out
    | 1, _ =>
      obtain ⟨ty, pos, aft, e, hdp⟩ := iop1
      rw [e] at ho
      obtain rfl := Option.some.inj ho
      intro a' hds W K hB lq ld hmem hK
      have e110 : a'.eval (.tmp 110) = .int .i64 0 := by rw [eval_tmp]; exact ld 0 110 (List.all_eq_true.1 hdp 0 (by decide)) rfl
      have t110 := (eval_tmp a' 110).symm.trans e110
      have HK := Lib.hid (show K (a'.put (some 111) (.bool true)) W from hK W (Below.refl _ _) trivial)
      clear hK ld lq hmem
      unfold Oper.wp
      simp only [execOp, e110]
      go_simp
      exact HK.out
    | 2, _ =>
      obtain ⟨ty, pos, aft, e, hdp⟩ := iop2
      rw [e] at ho
      obtain rfl := Option.some.inj ho
      intro a' hds W K hB lq ld hmem hK
      have e111 : a'.eval (.tmp 111) = .bool true := by rw [eval_tmp]; exact ld 1 111 (List.all_eq_true.1 hdp 1 (by decide)) rfl
      have t111 := (eval_tmp a' 111).symm.trans e111
      have HK := Lib.hid (show K (a'.put (some 112) (.bool true)) W from hK W (Below.refl _ _) trivial)
      clear hK ld lq hmem
      unfold Oper.wp
      simp only [execOp, e111]
      exact HK.out
    | 3, _ =>
      obtain ⟨ty, pos, aft, e, hdp⟩ := iop3
      rw [e] at ho
      obtain rfl := Option.some.inj ho
      intro a' hds W K hB lq ld hmem hK
      have e7 : a'.eval (.tmp 7) = .pointer (some ⟨D, 0, none⟩) := by rw [eval_tmp]; exact lq (7, .pointer (some ⟨D, 0, none⟩)) (by simp)
      have t7 := (eval_tmp a' 7).symm.trans e7
      have HK := Lib.hid (show K (a'.put (some 113) (.agg #[.int .i64 n1, .slice (some ⟨gd, 0, none⟩) L qd])) W from hK W (Below.refl _ _) trivial)
      clear hK ld lq hmem
      have c0 := (hD.next hB).cell' 0 rfl
      have c1 := (hD.next hB).cell' 1 rfl
      unfold Oper.wp
      simp only [execOp, e7]
      go_simp
      exact HK.out
    | 4, _ =>
      obtain ⟨ty, pos, aft, e, hdp⟩ := iop4
      rw [e] at ho
      obtain rfl := Option.some.inj ho
      intro a' hds W K hB lq ld hmem hK
      have e2 : a'.eval (.tmp 2) = .pointer (some ⟨Z, 0, none⟩) := by rw [eval_tmp]; exact lq (2, .pointer (some ⟨Z, 0, none⟩)) (by simp)
      have t2 := (eval_tmp a' 2).symm.trans e2
      have HK := Lib.hid (show K (a'.put (some 114) (.agg #[.int .i64 n1, .slice p1 T c1])) W from hK W (Below.refl _ _) trivial)
      clear hK ld lq hmem
      have c0 := (hZ.next hB).cell' 0 rfl
      have c1 := (hZ.next hB).cell' 1 rfl
      unfold Oper.wp
      simp only [execOp, e2]
      go_simp
      exact HK.out
    | 5, _ =>
      obtain ⟨ty, pos, aft, e, hdp⟩ := iop5
      rw [e] at ho
      obtain rfl := Option.some.inj ho
      intro a' hds W K hB lq ld hmem hK
      have e1 : a'.eval (.tmp 1) = .slice p2 L c2 := by rw [eval_tmp]; exact lq (1, .slice p2 L c2) (by simp)
      have t1 := (eval_tmp a' 1).symm.trans e1
      have HK := Lib.hid (show K (a'.put (some 115) (.slice p2 L c2)) W from hK W (Below.refl _ _) trivial)
      clear hK ld lq hmem
      unfold Oper.wp
      simp only [execOp, e1]
      exact HK.out
    | 6, _ =>
      obtain ⟨ty, pos, aft, e, hdp⟩ := iop6
      rw [e] at ho
      obtain rfl := Option.some.inj ho
      intro a' hds W K hB lq ld hmem hK
      have e114 : a'.eval (.tmp 114) = .agg #[.int .i64 n1, .slice p1 T c1] := by rw [eval_tmp]; exact ld 4 114 (List.all_eq_true.1 hdp 4 (by decide)) rfl
      have t114 := (eval_tmp a' 114).symm.trans e114
      have e115 : a'.eval (.tmp 115) = .slice p2 L c2 := by rw [eval_tmp]; exact ld 5 115 (List.all_eq_true.1 hdp 5 (by decide)) rfl
      have t115 := (eval_tmp a' 115).symm.trans e115
      have HK := Lib.hid (show ∀ hh W', Below W.heap.size W W' → (memRO L ys).P hh W' → (∀ b ∈ (memRO L ys).bl hh, W.heap.size ≤ b ∧ b < W'.heap.size) → K (a'.put (some 116) (.agg #[.int .i64 n1, .slice (some ⟨hh.b, hh.b2, none⟩) L hh.c])) W' from fun hh W' h1 h2 h3 => by
        have h4 : K (a'.put (some 116) (region_uw17X Z D A T c1 L c2 gd qd n1 p1 p2 ys 6 (updH hds 6 hh))) W' := hK hh W' h1 h2 h3 trivial
        simp only [region_uw17X, updH_same] at h4
        exact h4)
      clear hK ld lq hmem
      refine step_call (vals := #[.agg #[.int .i64 n1, .slice p1 T c1], .slice p2 L c2]) (by exact ⟨_, _, Try.func53, by kernel_rfl, rfl⟩) (by simp only [List.map_toArray, List.map_cons, List.map_nil, e114, e115]) (H53 W hB) ?_
      rintro e w' ⟨g, off, cap, rfl, hn, hl, hg, hb'⟩
      exact ⟨_, rfl, HK.out ⟨g, cap, off, 0, none⟩ _ hb' hn (bd_one hl hg)⟩
    | 7, _ =>
      obtain ⟨ty, pos, aft, e, hdp⟩ := iop7
      rw [e] at ho
      obtain rfl := Option.some.inj ho
      intro a' hds W K hB lq ld hmem hK
      have e113 : a'.eval (.tmp 113) = .agg #[.int .i64 n1, .slice (some ⟨gd, 0, none⟩) L qd] := by rw [eval_tmp]; exact ld 3 113 (List.all_eq_true.1 hdp 3 (by decide)) rfl
      have t113 := (eval_tmp a' 113).symm.trans e113
      have e116 : a'.eval (.tmp 116) = .agg #[.int .i64 n1, .slice (some ⟨(hds 6).b, (hds 6).b2, none⟩) L (hds 6).c] := by rw [eval_tmp]; exact ld 6 116 (List.all_eq_true.1 hdp 6 (by decide)) rfl
      have t116 := (eval_tmp a' 116).symm.trans e116
      have m116   := (hmem 6 (show 6 ∈ uOf region_uw17U 7 by decide) (by decide)).1
      have HK := Lib.hid (show ∀ W', Below W.heap.size W W' → K (a'.put (some 117) (.bool true)) W' from fun W' h => hK W' h trivial)
      clear hK ld lq hmem
      refine step_call (vals := #[.agg #[.int .i64 n1, .slice (some ⟨gd, 0, none⟩) L qd], .agg #[.int .i64 n1, .slice (some ⟨(hds 6).b, (hds 6).b2, none⟩) L (hds 6).c]]) (by exact ⟨_, _, Try.func40, by kernel_rfl, rfl⟩) (by simp only [List.map_toArray, List.map_cons, List.map_nil, e113, e116]) (H40 (hds 6).b (hds 6).b2 (hds 6).c W hB m116) ?_
      rintro e w' ⟨rfl, hb'⟩
      exact ⟨_, rfl, HK.out _ hb'⟩
    | 8, _ =>
      obtain ⟨ty, pos, aft, e, hdp⟩ := iop8
      rw [e] at ho
      obtain rfl := Option.some.inj ho
      intro a' hds W K hB lq ld hmem hK
      have e112 : a'.eval (.tmp 112) = .bool true := by rw [eval_tmp]; exact ld 2 112 (List.all_eq_true.1 hdp 2 (by decide)) rfl
      have t112 := (eval_tmp a' 112).symm.trans e112
      have e117 : a'.eval (.tmp 117) = .bool true := by rw [eval_tmp]; exact ld 7 117 (List.all_eq_true.1 hdp 7 (by decide)) rfl
      have t117 := (eval_tmp a' 117).symm.trans e117
      have HK := Lib.hid (show K (a'.put (some 118) (.bool true)) W from hK W (Below.refl _ _) trivial)
      clear hK ld lq hmem
      unfold Oper.wp
      simp only [execOp, e112, e117]
      go_simp
      exact HK.out
    | 9, _ =>
      obtain ⟨ty, pos, aft, e, hdp⟩ := iop9
      rw [e] at ho
      obtain rfl := Option.some.inj ho
      intro a' hds W K hB lq ld hmem hK
      have e118 : a'.eval (.tmp 118) = .bool true := by rw [eval_tmp]; exact ld 8 118 (List.all_eq_true.1 hdp 8 (by decide)) rfl
      have t118 := (eval_tmp a' 118).symm.trans e118
      have HK := Lib.hid (show K (a'.put (some 119) (.bool true)) W from hK W (Below.refl _ _) trivial)
      clear hK ld lq hmem
      unfold Oper.wp
      simp only [execOp, e118]
      exact HK.out
    | 10, _ =>
      obtain ⟨ty, pos, aft, e, hdp⟩ := iop10
      rw [e] at ho
      obtain rfl := Option.some.inj ho
      intro a' hds W K hB lq ld hmem hK
      have e12 : a'.eval (.tmp 12) = .int .i64 7 := by rw [eval_tmp]; exact lq (12, .int .i64 7) (by simp)
      have t12 := (eval_tmp a' 12).symm.trans e12
      have HK := Lib.hid (show K (a'.put (some 120) (.int .i64 7)) W from hK W (Below.refl _ _) trivial)
      clear hK ld lq hmem
      unfold Oper.wp
      simp only [execOp, e12]
      exact HK.out
    | 11, _ =>
      obtain ⟨ty, pos, aft, e, hdp⟩ := iop11
      rw [e] at ho
      obtain rfl := Option.some.inj ho
      intro a' hds W K hB lq ld hmem hK
      have e120 : a'.eval (.tmp 120) = .int .i64 7 := by rw [eval_tmp]; exact ld 10 120 (List.all_eq_true.1 hdp 10 (by decide)) rfl
      have t120 := (eval_tmp a' 120).symm.trans e120
      have HK := Lib.hid (show K (a'.put (some 121) (.bool true)) W from hK W (Below.refl _ _) trivial)
      clear hK ld lq hmem
      unfold Oper.wp
      simp only [execOp, e120]
      go_simp
      exact HK.out
    | 12, _ =>
      obtain ⟨ty, pos, aft, e, hdp⟩ := iop12
      rw [e] at ho
      obtain rfl := Option.some.inj ho
      intro a' hds W K hB lq ld hmem hK
      have e119 : a'.eval (.tmp 119) = .bool true := by rw [eval_tmp]; exact ld 9 119 (List.all_eq_true.1 hdp 9 (by decide)) rfl
      have t119 := (eval_tmp a' 119).symm.trans e119
      have e121 : a'.eval (.tmp 121) = .bool true := by rw [eval_tmp]; exact ld 11 121 (List.all_eq_true.1 hdp 11 (by decide)) rfl
      have t121 := (eval_tmp a' 121).symm.trans e121
      have HK := Lib.hid (show K (a'.put (some 122) (.bool true)) W from hK W (Below.refl _ _) trivial)
      clear hK ld lq hmem
      unfold Oper.wp
      simp only [execOp, e119, e121]
      go_simp
      exact HK.out
    | 13, _ =>
      obtain ⟨ty, pos, aft, e, hdp⟩ := iop13
      rw [e] at ho
      obtain rfl := Option.some.inj ho
      intro a' hds W K hB lq ld hmem hK
      have e122 : a'.eval (.tmp 122) = .bool true := by rw [eval_tmp]; exact ld 12 122 (List.all_eq_true.1 hdp 12 (by decide)) rfl
      have t122 := (eval_tmp a' 122).symm.trans e122
      have HK := Lib.hid (show K (a'.put (some 123) (.bool true)) W from hK W (Below.refl _ _) trivial)
      clear hK ld lq hmem
      unfold Oper.wp
      simp only [execOp, e122]
      exact HK.out
    | 14, _ =>
      obtain ⟨ty, pos, aft, e, hdp⟩ := iop14
      rw [e] at ho
      obtain rfl := Option.some.inj ho
      intro a' hds W K hB lq ld hmem hK
      have e14 : a'.eval (.tmp 14) = .pointer (some ⟨A, 0, none⟩) := by rw [eval_tmp]; exact lq (14, .pointer (some ⟨A, 0, none⟩)) (by simp)
      have t14 := (eval_tmp a' 14).symm.trans e14
      have HK := Lib.hid (show K (a'.put (some 124) (.agg #[.int .i64 0, .int .i64 0, .int .i64 0])) W from hK W (Below.refl _ _) trivial)
      clear hK ld lq hmem
      have c0 := (hA.next hB).cell' 0 rfl
      have c1 := (hA.next hB).cell' 1 rfl
      have c2 := (hA.next hB).cell' 2 rfl
      unfold Oper.wp
      simp only [execOp, e14]
      go_simp
      exact HK.out
    | 15, _ =>
      obtain ⟨ty, pos, aft, e, hdp⟩ := iop15
      rw [e] at ho
      obtain rfl := Option.some.inj ho
      intro a' hds W K hB lq ld hmem hK
      have HK := Lib.hid (show K (a'.put (some 125) (.agg #[.int .i64 0, .int .i64 0, .int .i64 0])) W from hK W (Below.refl _ _) trivial)
      clear hK ld lq hmem
      unfold Oper.wp
      simp only [execOp]
      go_simp
      exact HK.out
    | 16, _ =>
      obtain ⟨ty, pos, aft, e, hdp⟩ := iop16
      rw [e] at ho
      obtain rfl := Option.some.inj ho
      intro a' hds W K hB lq ld hmem hK
      have e124 : a'.eval (.tmp 124) = .agg #[.int .i64 0, .int .i64 0, .int .i64 0] := by rw [eval_tmp]; exact ld 14 124 (List.all_eq_true.1 hdp 14 (by decide)) rfl
      have t124 := (eval_tmp a' 124).symm.trans e124
      have e125 : a'.eval (.tmp 125) = .agg #[.int .i64 0, .int .i64 0, .int .i64 0] := by rw [eval_tmp]; exact ld 15 125 (List.all_eq_true.1 hdp 15 (by decide)) rfl
      have t125 := (eval_tmp a' 125).symm.trans e125
      have HK := Lib.hid (show K (a'.put (some 126) (.bool true)) W from hK W (Below.refl _ _) trivial)
      clear hK ld lq hmem
      unfold Oper.wp
      simp only [execOp, e124, e125]
      go_simp
      exact HK.out
    | 17, _ =>
      obtain ⟨ty, pos, aft, e, hdp⟩ := iop17
      rw [e] at ho
      obtain rfl := Option.some.inj ho
      intro a' hds W K hB lq ld hmem hK
      have e123 : a'.eval (.tmp 123) = .bool true := by rw [eval_tmp]; exact ld 13 123 (List.all_eq_true.1 hdp 13 (by decide)) rfl
      have t123 := (eval_tmp a' 123).symm.trans e123
      have e126 : a'.eval (.tmp 126) = .bool true := by rw [eval_tmp]; exact ld 16 126 (List.all_eq_true.1 hdp 16 (by decide)) rfl
      have t126 := (eval_tmp a' 126).symm.trans e126
      have HK := Lib.hid (show K (a'.put (some 127) (.bool true)) W from hK W (Below.refl _ _) trivial)
      clear hK ld lq hmem
      unfold Oper.wp
      simp only [execOp, e123, e126]
      go_simp
      exact HK.out
    | 18, _ =>
      obtain ⟨ty, pos, aft, e, hdp⟩ := iop18
      rw [e] at ho
      obtain rfl := Option.some.inj ho
      intro a' hds W K hB lq ld hmem hK
      have e127 : a'.eval (.tmp 127) = .bool true := by rw [eval_tmp]; exact ld 17 127 (List.all_eq_true.1 hdp 17 (by decide)) rfl
      have t127 := (eval_tmp a' 127).symm.trans e127
      have HK := Lib.hid (show K (a'.put (some 128) (.bool true)) W from hK W (Below.refl _ _) trivial)
      clear hK ld lq hmem
      unfold Oper.wp
      simp only [execOp, e127]
      exact HK.out
    | 19, _ =>
      obtain ⟨ty, pos, aft, e, hdp⟩ := iop19
      rw [e] at ho
      obtain rfl := Option.some.inj ho
      intro a' hds W K hB lq ld hmem hK
      have m116   := (hmem 6 (show 6 ∈ uOf region_uw17U 19 by decide) (by decide)).1
      have HK := Lib.hid (show ∀ W', Below W.heap.size W W' → K (a'.put (some 129) (.bool true)) W' from fun W' h => hK W' h trivial)
      clear hK ld lq hmem
      refine step_call (vals := #[]) (by exact ⟨_, _, Try.func23, by kernel_rfl, rfl⟩) (by simp only [List.map_toArray, List.map_nil]) (tieKnown W) ?_
      rintro e w' ⟨rfl, hb'⟩
      exact ⟨_, rfl, HK.out _ hb'⟩
    | 20, _ =>
      obtain ⟨ty, pos, aft, e, hdp⟩ := iop20
      rw [e] at ho
      obtain rfl := Option.some.inj ho
      intro a' hds W K hB lq ld hmem hK
      have e128 : a'.eval (.tmp 128) = .bool true := by rw [eval_tmp]; exact ld 18 128 (List.all_eq_true.1 hdp 18 (by decide)) rfl
      have t128 := (eval_tmp a' 128).symm.trans e128
      have e129 : a'.eval (.tmp 129) = .bool true := by rw [eval_tmp]; exact ld 19 129 (List.all_eq_true.1 hdp 19 (by decide)) rfl
      have t129 := (eval_tmp a' 129).symm.trans e129
      have HK := Lib.hid (show K (a'.put (some 130) (.bool true)) W from hK W (Below.refl _ _) trivial)
      clear hK ld lq hmem
      unfold Oper.wp
      simp only [execOp, e128, e129]
      go_simp
      exact HK.out
    | 21, _ =>
      obtain ⟨ty, pos, aft, e, hdp⟩ := iop21
      rw [e] at ho
      obtain rfl := Option.some.inj ho
      intro a' hds W K hB lq ld hmem hK
      have e130 : a'.eval (.tmp 130) = .bool true := by rw [eval_tmp]; exact ld 20 130 (List.all_eq_true.1 hdp 20 (by decide)) rfl
      have t130 := (eval_tmp a' 130).symm.trans e130
      have HK := Lib.hid (show K (a'.put (some 4) (.bool true)) W from hK W (Below.refl _ _) trivial)
      clear hK ld lq hmem
      unfold Oper.wp
      simp only [execOp, e130]
      exact HK.out
    | i + 22, h => omega
  · intro hds v W hO
    have hfin := gend (hds 6).b (hds 6).c (hds 6).b2 (hds 6).c2 (hds 6).p (v 110) (v 111) (v 112) (v 113) (v 114) (v 115) (v 116) (v 117) (v 118) (v 119) (v 120) (v 121) (v 122) (v 123) (v 124) (v 125) (v 126) (v 127) (v 128) (v 129) (v 130) W hO.b (hO.m 6 (by show 6 < 22; decide) rfl).1 (hO.m 6 (by show 6 < 22; decide) rfl).2
    rw [← laid_putL _ a v ?_] at hfin
    · exact hfin
    · intro p hp
      simp only [List.mem_cons, List.not_mem_nil, or_false] at hp
      rcases hp with rfl | rfl | rfl | rfl | rfl | rfl | rfl | rfl | rfl | rfl | rfl | rfl | rfl | rfl | rfl | rfl | rfl | rfl | rfl | rfl | rfl | rfl
      · rfl
      · rfl
      · rfl
      · rfl
      · rfl
      · rfl
      · rfl
      · rfl
      · rfl
      · rfl
      · rfl
      · rfl
      · rfl
      · rfl
      · rfl
      · rfl
      · rfl
      · rfl
      · rfl
      · rfl
      · rfl
      · exact hO.x 21 (show 21 < 22 by decide) 4 rfl
end Go.Proofs.Ytdmgffoikebgkaa
/- TieUnweaves: its walks. -/
namespace Go.Proofs.Ytdmgffoikebgkaa
open Go.RowKit Go.Shelf
attribute [local go_sem] Oper.semAt_some eq69

/-- a harness and a cloth in memory -/
structure UvZ (w : World) (n1 : Int) (p1 p2 : Option Addr) (c1 c2 : Nat) (xs : List Int) (ss : List ByteArray) (W : World) : Prop where
  za : BoxAt W w.heap.size #[.int .i64 n1, .slice p1 xs.length c1] 26
  ra : Reads W (.slice p1 xs.length c1) xs
  sa : StrR W (.slice p2 ss.length c2) ss
  b : Below w.heap.size w W
theorem UvZ.next {w W W' : World} {n1 : Int} {p1 p2 : Option Addr} {c1 c2 : Nat} {xs : List Int} {ss : List ByteArray} (h : UvZ w n1 p1 p2 c1 c2 xs ss W) (hb : Below W.heap.size W W') : UvZ w n1 p1 p2 c1 c2 xs ss W' :=
  ⟨h.za.next hb, h.ra.next hb, h.sa.next hb, h.b.trans (hb.mono h.b.size)⟩
/-- a harness, a cloth and their copies in memory -/
structure UvS (w : World) (n1 : Int) (p1 p2 : Option Addr) (c1 c2 : Nat) (xs : List Int) (ss : List ByteArray) (X ga qa gc qc : Nat) (W : World) : Prop where
  z : UvZ w n1 p1 p2 c1 c2 xs ss W
  x : BoxAt W X #[.int .i64 n1, .slice (some ⟨ga, 0, none⟩) xs.length qa] 26
  rx : Reads W (.slice (some ⟨ga, 0, none⟩) xs.length qa) xs
  sx : StrR W (.slice (some ⟨gc, 0, none⟩) ss.length qc) ss
theorem UvS.next {w W W' : World} {n1 : Int} {p1 p2 : Option Addr} {c1 c2 : Nat} {xs : List Int} {ss : List ByteArray} {X ga qa gc qc : Nat} (h : UvS w n1 p1 p2 c1 c2 xs ss X ga qa gc qc W) (hb : Below W.heap.size W W') : UvS w n1 p1 p2 c1 c2 xs ss X ga qa gc qc W' :=
  ⟨h.z.next hb, h.x.next hb, h.rx.next hb, h.sx.next hb⟩
theorem strR_of {W : World} {g c : Nat} {ss : List ByteArray} (h : StrsAt W g 0 ss) (hg : g < W.heap.size) : StrR W (.slice (some ⟨g, 0, none⟩) ss.length c) ss := ⟨_, c, rfl, fun _ => ⟨g, 0, rfl, hg, h⟩⟩
theorem UvZ.large {w W : World} {n1 : Int} {p1 p2 : Option Addr} {c1 c2 : Nat} {xs : List Int} {ss : List ByteArray} (h : UvZ w n1 p1 p2 c1 c2 xs ss W) (hl : lrgB xs.length ss = false) :
    Calls Try.prog 27 #[.agg #[.int .i64 n1, .slice p1 xs.length c1], .agg #[.int .i64 0, .slice none 0 0], .slice p2 ss.length c2] W fun e w' => e = .returned (.bool false) ∧ Below W.heap.size W w' := by
  have hl70 : ss.length ≤ 70 := by
    unfold lrgB at hl
    simp only [Bool.or_eq_false_iff, decide_eq_false_iff_not] at hl
    omega
  have H := tieLarge3_any n1 p1 p2 c1 c2 xs.length ss W h.sa (by omega)
  rwa [hl] at H
theorem lrg_open {L : Nat} {ss : List ByteArray} (hl : lrgB L ss = false) : L ≤ 110 ∧ ss.length ≤ 70 ∧ ∀ i, i < ss.length → (nthB ss i).size ≤ 1000 := by
  unfold lrgB at hl
  simp only [Bool.or_eq_false_iff, decide_eq_false_iff_not, List.any_eq_false, decide_eq_true_eq] at hl
  refine ⟨by omega, by omega, fun i hi => ?_⟩
  have := hl.1.1 (nthB ss i) (by rw [nthB_get _ _ hi]; exact List.getElem_mem _)
  omega
set_option maxRecDepth 100000 in
set_option maxHeartbeats 2000000 in
theorem TieUnweaves_large (n1 : Int) (p1 p2 : Option Addr) (c1 c2 l1 : Nat) (ss : List ByteArray) (w : World) (hx : StrR w (.slice p2 ss.length c2) ss) (hs : ss.length ≤ 9223372036854775807) (hl : lrgB l1 ss = true) :
    Calls Try.prog 6 #[.agg #[.int .i64 n1, .slice p1 l1 c1], .slice p2 ss.length c2] w fun e w' => e = .returned (.bool true) ∧ Below w.heap.size w w' := by
  obtain ⟨w0, hw0⟩ : ∃ w0, w0 = w.alloc (.cells #[.int .i64 n1, .slice p1 l1 c1] 26) := ⟨_, rfl⟩
  have hb0 : Below w.heap.size w w0 := by rw [hw0]; exact (Below.refl _ _).alloc (Nat.le_refl _) _
  have hA : BoxAt w0 w.heap.size #[.int .i64 n1, .slice p1 l1 c1] 26 := by rw [hw0]; exact BoxAt.new w _ _
  have HW0 := Lib.hid hw0
  have Hb0 := Lib.hid hb0
  have H27 := tieLarge3_any n1 p1 p2 c1 c2 l1 ss w0 (hx.next hb0) hs
  rw [hl] at H27
  have a0 := hA.cell' 0 rfl
  have a1 := hA.cell' 1 rfl
  clear hw0 hb0 hA hx hl
  go_enter Try.func6, Try.ntmps6
  go_upto_region 1 with fail
  rw [← HW0.out]
  go_wp2_with fail
  refine H27.mono ?_
  rintro e W1 ⟨rfl, hb1⟩
  have Hb1 := Lib.hid (Hb0.out.trans (hb1.mono Hb0.out.size))
  clear hb1 a0 a1 H27
  go_wp2_with fail
  refine (tieKnown _).mono ?_
  rintro e WK ⟨rfl, hbk⟩
  have Hend := Lib.hid (show Below w.heap.size w WK from Hb1.out.trans (hbk.mono (Hb1.out).size))
  clear hbk
  go_wp2_with fail
  go_ret
  exact ⟨rfl, Hend.out⟩
set_option maxRecDepth 100000 in
set_option maxHeartbeats 8000000 in
theorem TieUnweaves_err1 (n1 k : Int) (p1 p2 : Option Addr) (c1 c2 : Nat) (xs : List Int) (ss : List ByteArray) (w : World) (hr1 : Reads w (.slice p1 xs.length c1) xs) (hx : StrR w (.slice p2 ss.length c2) ss) (hl : lrgB xs.length ss = false) (hc : chkT n1 xs = k) (h0 : k ≠ 0) :
    Calls Try.prog 6 #[.agg #[.int .i64 n1, .slice p1 xs.length c1], .slice p2 ss.length c2] w fun e w' => e = .returned (.bool true) ∧ Below w.heap.size w w' := by
  have HK := Lib.hid (show unwE n1 xs ss = k by unfold unwE; rw [hc, if_pos h0])
  have HC := Lib.hid hc
  have H0 := Lib.hid h0
  clear hc h0
  obtain ⟨hl1, hl7, hsz⟩ := lrg_open hl
  have HSz := Lib.hid hsz
  have HLg := Lib.hid hl
  clear hsz hl
  obtain ⟨w0, hw0⟩ : ∃ w0, w0 = w.alloc (.cells #[.int .i64 n1, .slice p1 xs.length c1] 26) := ⟨_, rfl⟩
  have hb0 : Below w.heap.size w w0 := by rw [hw0]; exact (Below.refl _ _).alloc (Nat.le_refl _) _
  have HZ0 := Lib.hid (show UvZ w n1 p1 p2 c1 c2 xs ss w0 from ⟨by rw [hw0]; exact BoxAt.new w _ _, hr1.next hb0, hx.next hb0, hb0⟩)
  have HW0 := Lib.hid hw0
  have H27 := HZ0.out.large HLg.out
  have a0 := HZ0.out.za.cell' 0 rfl
  have a1 := HZ0.out.za.cell' 1 rfl
  clear hw0 hb0 hr1 hx
  go_enter Try.func6, Try.ntmps6
  go_upto_region 1 with fail
  rw [← HW0.out]
  go_wp2_with fail
  refine H27.mono ?_
  rintro e W1 ⟨rfl, hbc⟩
  have HZ1 := Lib.hid (HZ0.out.next hbc)
  clear hbc HZ0 HW0 a0 a1 H27
  have a0 := HZ1.out.za.cell' 0 rfl
  have a1 := HZ1.out.za.cell' 1 rfl
  go_upto_region 3 with fail
  go_wp2_with fail
  refine (tieOwn_any n1 _ c1 xs W1 (by omega) HZ1.out.ra).mono ?_
  rintro e W2 ⟨ga, qa, rfl, hr2, _, _, hbc⟩
  have HZ2 := Lib.hid (HZ1.out.next hbc)
  have HR2 := Lib.hid hr2
  clear hbc HZ1 a0 a1 hr2
  go_wp2_with fail
  refine (cloths_any p2 c2 ss W2 (by omega) HZ2.out.sa).mono ?_
  rintro e W3 ⟨gc, qc, rfl, hs3, _, hg3, hbc⟩
  have HZ3 := Lib.hid (HZ2.out.next hbc)
  have HR3 := Lib.hid (HR2.out.next hbc)
  have HC3 := Lib.hid (show StrR W3 (.slice (some ⟨gc, 0, none⟩) ss.length qc) ss from strR_of hs3 hg3)
  clear hbc HZ2 HR2 hs3 hg3
  go_upto_region 4 with fail
  obtain ⟨W4, hW4⟩ : ∃ W4, W4 = W3.alloc (.cells #[.int .i64 n1, .slice (some ⟨ga, 0, none⟩) xs.length qa] 26) := ⟨_, rfl⟩
  have hb4 : Below W3.heap.size W3 W4 := by rw [hW4]; exact (Below.refl _ _).alloc (Nat.le_refl _) _
  have HS4 := Lib.hid (show UvS w n1 p1 p2 c1 c2 xs ss W3.heap.size ga qa gc qc W4 from ⟨HZ3.out.next hb4, by rw [hW4]; exact BoxAt.new _ _ _, HR3.out.next hb4, HC3.out.next hb4⟩)
  obtain ⟨X, hX⟩ : ∃ X, W3.heap.size = X := ⟨_, rfl⟩
  rw [← hW4]
  rw [hX] at HS4 ⊢
  clear hb4 hW4 hX HZ3 HR3 HC3
  have x0 := HS4.out.x.cell' 0 rfl
  have x1 := HS4.out.x.cell' 1 rfl
  go_wp2_with fail
  refine (tieUnweave_err n1 k _ _ _ _ xs ss W4 HS4.out.rx HS4.out.sx (by omega) HSz.out HK.out H0.out).mono ?_
  rintro e W5 ⟨rfl, hbc⟩
  have HS5 := Lib.hid (HS4.out.next hbc)
  clear hbc HS4 x0 x1
  go_upto_region 5 with fail
  obtain ⟨W6, hW6⟩ : ∃ W6, W6 = W5.alloc (.cells #[.int .i64 0, .slice none 0 0] 37) := ⟨_, rfl⟩
  have hb6 : Below W5.heap.size W5 W6 := by rw [hW6]; exact (Below.refl _ _).alloc (Nat.le_refl _) _
  have HS6 := Lib.hid (HS5.out.next hb6)
  have HD6 := Lib.hid (show BoxAt W6 W5.heap.size #[.int .i64 0, .slice none 0 0] 37 by rw [hW6]; exact BoxAt.new _ _ _)
  obtain ⟨D, hD⟩ : ∃ D, W5.heap.size = D := ⟨_, rfl⟩
  rw [← hW6]
  rw [hD] at HD6 ⊢
  clear hb6 hW6 hD HS5
  have x0 := HS6.out.x.cell' 0 rfl
  have x1 := HS6.out.x.cell' 1 rfl
  go_wp2_with fail
  refine (tiePart_err n1 k _ _ _ _ xs ss W6 HS6.out.rx HS6.out.sx (by omega) HSz.out HK.out H0.out).mono ?_
  rintro e W7 ⟨rfl, hbc⟩
  have HS7 := Lib.hid (HS6.out.next hbc)
  have HD7 := Lib.hid (HD6.out.next hbc)
  clear hbc HS6 HD6 x0 x1
  have x0 := HS7.out.x.cell' 0 rfl
  have x1 := HS7.out.x.cell' 1 rfl
  have a0 := HS7.out.z.za.cell' 0 rfl
  have a1 := HS7.out.z.za.cell' 1 rfl
  go_wp2_with fail
  refine (refSame3_eq n1 _ _ _ _ xs W7 (by omega) HS7.out.rx HS7.out.z.ra).mono ?_
  rintro e W8 ⟨rfl, hbc⟩
  have HS8 := Lib.hid (HS7.out.next hbc)
  have HD8 := Lib.hid (HD7.out.next hbc)
  clear hbc HS7 HD7 x0 x1 a0 a1
  go_wp2_with fail
  refine (refAlike3_any _ _ _ _ ss W8 (by omega) HS8.out.sx HS8.out.z.sa).mono ?_
  rintro e W9 ⟨rfl, hbc⟩
  have HS9 := Lib.hid (HS8.out.next hbc)
  have HD9 := Lib.hid (HD8.out.next hbc)
  clear hbc HS8 HD8
  have a0 := HS9.out.z.za.cell' 0 rfl
  have a1 := HS9.out.z.za.cell' 1 rfl
  have H33 := refCheck3_any n1 _ xs W9 HS9.out.z.ra
  rw [HC.out] at H33
  have hb : (k == 0) = false := by simp [H0.out]
  have hb2 : (k != 0) = true := by simp [H0.out]
  go_wp2_with fail
  refine H33.mono ?_
  rintro e W10 ⟨rfl, hbc⟩
  have HS10 := Lib.hid (HS9.out.next hbc)
  have HD10 := Lib.hid (HD9.out.next hbc)
  clear hbc HS9 HD9 a0 a1 H33
  go_upto_region 12 with fail
  obtain ⟨W12, hW12⟩ : ∃ W12, W12 = W10.alloc (.cells #[.int .i64 0, .int .i64 0, .int .i64 0] 69) := ⟨_, rfl⟩
  have hbc : Below W10.heap.size W10 W12 := by rw [hW12]; exact (Below.refl _ _).alloc (Nat.le_refl _) _
  have HA12 := Lib.hid (show BoxAt W12 W10.heap.size #[.int .i64 0, .int .i64 0, .int .i64 0] 69 by rw [hW12]; exact BoxAt.new _ _ _)
  have HS12 := Lib.hid (HS10.out.next hbc)
  have HD12 := Lib.hid (HD10.out.next hbc)
  obtain ⟨A, hA⟩ : ∃ A, W10.heap.size = A := ⟨_, rfl⟩
  rw [← hW12]
  rw [hA] at HA12 ⊢
  clear hbc hW12 hA HS10 HD10
  have d0 := HD12.out.cell' 0 rfl
  have d1 := HD12.out.cell' 1 rfl
  go_wp2_with fail
  refine (bare_ok _).mono ?_
  rintro e W13 ⟨rfl, hbc⟩
  have HS13 := Lib.hid (HS12.out.next hbc)
  have HA13 := Lib.hid (HA12.out.next hbc)
  clear hbc HS12 HA12 HD12 d0 d1
  have e0 := HA13.out.cell' 0 rfl
  have e1 := HA13.out.cell' 1 rfl
  have e2 := HA13.out.cell' 2 rfl
  go_wp2_with fail
  refine (tieKnown _).mono ?_
  rintro e WK ⟨rfl, hbk⟩
  have Hend := Lib.hid (show Below w.heap.size w WK from HS13.out.z.b.trans (hbk.mono (HS13.out.z.b).size))
  clear hbk
  go_wp2_with fail
  go_ret
  exact ⟨rfl, Hend.out⟩
set_option maxRecDepth 100000 in
set_option maxHeartbeats 8000000 in
theorem TieUnweaves_err2 (n1 k : Int) (p1 p2 : Option Addr) (c1 c2 : Nat) (xs : List Int) (ss : List ByteArray) (w : World) (hr1 : Reads w (.slice p1 xs.length c1) xs) (hx : StrR w (.slice p2 ss.length c2) ss) (hl : lrgB xs.length ss = false) (hc : chkT n1 xs = 0) (he : cltE xs.length ss = k) (h0 : k ≠ 0) :
    Calls Try.prog 6 #[.agg #[.int .i64 n1, .slice p1 xs.length c1], .slice p2 ss.length c2] w fun e w' => e = .returned (.bool true) ∧ Below w.heap.size w w' := by
  have HK := Lib.hid (show unwE n1 xs ss = k by unfold unwE; rw [hc, if_neg (by simp)]; exact he)
  have HT := Lib.hid (show 1 ≤ xs.length ∧ xs.length ≤ 96 from ⟨(chkT_ok hc).2.2.1, (chkT_ok hc).2.2.2.1⟩)
  have HC := Lib.hid hc
  have HE := Lib.hid he
  have H0 := Lib.hid h0
  clear hc he h0
  obtain ⟨hl1, hl7, hsz⟩ := lrg_open hl
  have HSz := Lib.hid hsz
  have HLg := Lib.hid hl
  clear hsz hl
  obtain ⟨w0, hw0⟩ : ∃ w0, w0 = w.alloc (.cells #[.int .i64 n1, .slice p1 xs.length c1] 26) := ⟨_, rfl⟩
  have hb0 : Below w.heap.size w w0 := by rw [hw0]; exact (Below.refl _ _).alloc (Nat.le_refl _) _
  have HZ0 := Lib.hid (show UvZ w n1 p1 p2 c1 c2 xs ss w0 from ⟨by rw [hw0]; exact BoxAt.new w _ _, hr1.next hb0, hx.next hb0, hb0⟩)
  have HW0 := Lib.hid hw0
  have H27 := HZ0.out.large HLg.out
  have a0 := HZ0.out.za.cell' 0 rfl
  have a1 := HZ0.out.za.cell' 1 rfl
  clear hw0 hb0 hr1 hx
  go_enter Try.func6, Try.ntmps6
  go_upto_region 1 with fail
  rw [← HW0.out]
  go_wp2_with fail
  refine H27.mono ?_
  rintro e W1 ⟨rfl, hbc⟩
  have HZ1 := Lib.hid (HZ0.out.next hbc)
  clear hbc HZ0 HW0 a0 a1 H27
  have a0 := HZ1.out.za.cell' 0 rfl
  have a1 := HZ1.out.za.cell' 1 rfl
  go_upto_region 3 with fail
  go_wp2_with fail
  refine (tieOwn_any n1 _ c1 xs W1 (by omega) HZ1.out.ra).mono ?_
  rintro e W2 ⟨ga, qa, rfl, hr2, _, _, hbc⟩
  have HZ2 := Lib.hid (HZ1.out.next hbc)
  have HR2 := Lib.hid hr2
  clear hbc HZ1 a0 a1 hr2
  go_wp2_with fail
  refine (cloths_any p2 c2 ss W2 (by omega) HZ2.out.sa).mono ?_
  rintro e W3 ⟨gc, qc, rfl, hs3, _, hg3, hbc⟩
  have HZ3 := Lib.hid (HZ2.out.next hbc)
  have HR3 := Lib.hid (HR2.out.next hbc)
  have HC3 := Lib.hid (show StrR W3 (.slice (some ⟨gc, 0, none⟩) ss.length qc) ss from strR_of hs3 hg3)
  clear hbc HZ2 HR2 hs3 hg3
  go_upto_region 4 with fail
  obtain ⟨W4, hW4⟩ : ∃ W4, W4 = W3.alloc (.cells #[.int .i64 n1, .slice (some ⟨ga, 0, none⟩) xs.length qa] 26) := ⟨_, rfl⟩
  have hb4 : Below W3.heap.size W3 W4 := by rw [hW4]; exact (Below.refl _ _).alloc (Nat.le_refl _) _
  have HS4 := Lib.hid (show UvS w n1 p1 p2 c1 c2 xs ss W3.heap.size ga qa gc qc W4 from ⟨HZ3.out.next hb4, by rw [hW4]; exact BoxAt.new _ _ _, HR3.out.next hb4, HC3.out.next hb4⟩)
  obtain ⟨X, hX⟩ : ∃ X, W3.heap.size = X := ⟨_, rfl⟩
  rw [← hW4]
  rw [hX] at HS4 ⊢
  clear hb4 hW4 hX HZ3 HR3 HC3
  have x0 := HS4.out.x.cell' 0 rfl
  have x1 := HS4.out.x.cell' 1 rfl
  go_wp2_with fail
  refine (tieUnweave_err n1 k _ _ _ _ xs ss W4 HS4.out.rx HS4.out.sx (by omega) HSz.out HK.out H0.out).mono ?_
  rintro e W5 ⟨rfl, hbc⟩
  have HS5 := Lib.hid (HS4.out.next hbc)
  clear hbc HS4 x0 x1
  go_upto_region 5 with fail
  obtain ⟨W6, hW6⟩ : ∃ W6, W6 = W5.alloc (.cells #[.int .i64 0, .slice none 0 0] 37) := ⟨_, rfl⟩
  have hb6 : Below W5.heap.size W5 W6 := by rw [hW6]; exact (Below.refl _ _).alloc (Nat.le_refl _) _
  have HS6 := Lib.hid (HS5.out.next hb6)
  have HD6 := Lib.hid (show BoxAt W6 W5.heap.size #[.int .i64 0, .slice none 0 0] 37 by rw [hW6]; exact BoxAt.new _ _ _)
  obtain ⟨D, hD⟩ : ∃ D, W5.heap.size = D := ⟨_, rfl⟩
  rw [← hW6]
  rw [hD] at HD6 ⊢
  clear hb6 hW6 hD HS5
  have x0 := HS6.out.x.cell' 0 rfl
  have x1 := HS6.out.x.cell' 1 rfl
  go_wp2_with fail
  refine (tiePart_err n1 k _ _ _ _ xs ss W6 HS6.out.rx HS6.out.sx (by omega) HSz.out HK.out H0.out).mono ?_
  rintro e W7 ⟨rfl, hbc⟩
  have HS7 := Lib.hid (HS6.out.next hbc)
  have HD7 := Lib.hid (HD6.out.next hbc)
  clear hbc HS6 HD6 x0 x1
  have x0 := HS7.out.x.cell' 0 rfl
  have x1 := HS7.out.x.cell' 1 rfl
  have a0 := HS7.out.z.za.cell' 0 rfl
  have a1 := HS7.out.z.za.cell' 1 rfl
  go_wp2_with fail
  refine (refSame3_eq n1 _ _ _ _ xs W7 (by omega) HS7.out.rx HS7.out.z.ra).mono ?_
  rintro e W8 ⟨rfl, hbc⟩
  have HS8 := Lib.hid (HS7.out.next hbc)
  have HD8 := Lib.hid (HD7.out.next hbc)
  clear hbc HS7 HD7 x0 x1 a0 a1
  go_wp2_with fail
  refine (refAlike3_any _ _ _ _ ss W8 (by omega) HS8.out.sx HS8.out.z.sa).mono ?_
  rintro e W9 ⟨rfl, hbc⟩
  have HS9 := Lib.hid (HS8.out.next hbc)
  have HD9 := Lib.hid (HD8.out.next hbc)
  clear hbc HS8 HD8
  have a0 := HS9.out.z.za.cell' 0 rfl
  have a1 := HS9.out.z.za.cell' 1 rfl
  have H33 := refCheck3_any n1 _ xs W9 HS9.out.z.ra
  rw [HC.out] at H33
  go_wp2_with fail
  refine H33.mono ?_
  rintro e W10 ⟨rfl, hbc⟩
  have HS10 := Lib.hid (HS9.out.next hbc)
  have HD10 := Lib.hid (HD9.out.next hbc)
  clear hbc HS9 HD9 a0 a1 H33
  have a0 := HS10.out.z.za.cell' 0 rfl
  have a1 := HS10.out.z.za.cell' 1 rfl
  have H50 := refFits_any p2 c2 xs.length ss W10 HT.out.1 HT.out.2 HS10.out.z.sa (by omega)
  rw [HE.out] at H50
  have hb2 : (k != 0) = true := by simp [H0.out]
  go_wp2_with fail
  refine H50.mono ?_
  rintro e W11 ⟨rfl, hbc⟩
  have HS11 := Lib.hid (HS10.out.next hbc)
  have HD11 := Lib.hid (HD10.out.next hbc)
  clear hbc HS10 HD10 a0 a1 H50
  go_upto_region 12 with fail
  obtain ⟨W12, hW12⟩ : ∃ W12, W12 = W11.alloc (.cells #[.int .i64 0, .int .i64 0, .int .i64 0] 69) := ⟨_, rfl⟩
  have hbc : Below W11.heap.size W11 W12 := by rw [hW12]; exact (Below.refl _ _).alloc (Nat.le_refl _) _
  have HA12 := Lib.hid (show BoxAt W12 W11.heap.size #[.int .i64 0, .int .i64 0, .int .i64 0] 69 by rw [hW12]; exact BoxAt.new _ _ _)
  have HS12 := Lib.hid (HS11.out.next hbc)
  have HD12 := Lib.hid (HD11.out.next hbc)
  obtain ⟨A, hA⟩ : ∃ A, W11.heap.size = A := ⟨_, rfl⟩
  rw [← hW12]
  rw [hA] at HA12 ⊢
  clear hbc hW12 hA HS11 HD11
  have d0 := HD12.out.cell' 0 rfl
  have d1 := HD12.out.cell' 1 rfl
  go_wp2_with fail
  refine (bare_ok _).mono ?_
  rintro e W13 ⟨rfl, hbc⟩
  have HS13 := Lib.hid (HS12.out.next hbc)
  have HA13 := Lib.hid (HA12.out.next hbc)
  clear hbc HS12 HA12 HD12 d0 d1
  have e0 := HA13.out.cell' 0 rfl
  have e1 := HA13.out.cell' 1 rfl
  have e2 := HA13.out.cell' 2 rfl
  go_wp2_with fail
  refine (tieKnown _).mono ?_
  rintro e WK ⟨rfl, hbk⟩
  have Hend := Lib.hid (show Below w.heap.size w WK from HS13.out.z.b.trans (hbk.mono (HS13.out.z.b).size))
  clear hbk
  go_wp2_with fail
  go_ret
  exact ⟨rfl, Hend.out⟩
set_option maxRecDepth 100000 in
set_option maxHeartbeats 8000000 in
theorem TieUnweaves_good (n1 : Int) (p1 p2 : Option Addr) (c1 c2 : Nat) (xs : List Int) (ss : List ByteArray) (w : World) (hr1 : Reads w (.slice p1 xs.length c1) xs) (hx : StrR w (.slice p2 ss.length c2) ss) (hl : lrgB xs.length ss = false) (hc : chkT n1 xs = 0) (he : cltE xs.length ss = 0) :
    Calls Try.prog 6 #[.agg #[.int .i64 n1, .slice p1 xs.length c1], .slice p2 ss.length c2] w fun e w' => e = .returned (.bool true) ∧ Below w.heap.size w w' := by
  have HK := Lib.hid (show unwE n1 xs ss = 0 by unfold unwE; rw [hc, if_neg (by simp)]; exact he)
  have HT := Lib.hid (show 1 ≤ xs.length ∧ xs.length ≤ 96 from ⟨(chkT_ok hc).2.2.1, (chkT_ok hc).2.2.2.1⟩)
  have HC := Lib.hid hc
  have HE := Lib.hid he
  clear hc he
  obtain ⟨hl1, hl7, hsz⟩ := lrg_open hl
  have HSz := Lib.hid hsz
  have HLg := Lib.hid hl
  clear hsz hl
  obtain ⟨w0, hw0⟩ : ∃ w0, w0 = w.alloc (.cells #[.int .i64 n1, .slice p1 xs.length c1] 26) := ⟨_, rfl⟩
  have hb0 : Below w.heap.size w w0 := by rw [hw0]; exact (Below.refl _ _).alloc (Nat.le_refl _) _
  have HZ0 := Lib.hid (show UvZ w n1 p1 p2 c1 c2 xs ss w0 from ⟨by rw [hw0]; exact BoxAt.new w _ _, hr1.next hb0, hx.next hb0, hb0⟩)
  have HW0 := Lib.hid hw0
  have H27 := HZ0.out.large HLg.out
  have a0 := HZ0.out.za.cell' 0 rfl
  have a1 := HZ0.out.za.cell' 1 rfl
  clear hw0 hb0 hr1 hx
  go_enter Try.func6, Try.ntmps6
  go_upto_region 1 with fail
  rw [← HW0.out]
  go_wp2_with fail
  refine H27.mono ?_
  rintro e W1 ⟨rfl, hbc⟩
  have HZ1 := Lib.hid (HZ0.out.next hbc)
  clear hbc HZ0 HW0 a0 a1 H27
  have a0 := HZ1.out.za.cell' 0 rfl
  have a1 := HZ1.out.za.cell' 1 rfl
  go_upto_region 3 with fail
  go_wp2_with fail
  refine (tieOwn_any n1 _ c1 xs W1 (by omega) HZ1.out.ra).mono ?_
  rintro e W2 ⟨ga, qa, rfl, hr2, _, _, hbc⟩
  have HZ2 := Lib.hid (HZ1.out.next hbc)
  have HR2 := Lib.hid hr2
  clear hbc HZ1 a0 a1 hr2
  go_wp2_with fail
  refine (cloths_any p2 c2 ss W2 (by omega) HZ2.out.sa).mono ?_
  rintro e W3 ⟨gc, qc, rfl, hs3, _, hg3, hbc⟩
  have HZ3 := Lib.hid (HZ2.out.next hbc)
  have HR3 := Lib.hid (HR2.out.next hbc)
  have HC3 := Lib.hid (show StrR W3 (.slice (some ⟨gc, 0, none⟩) ss.length qc) ss from strR_of hs3 hg3)
  clear hbc HZ2 HR2 hs3 hg3
  go_upto_region 4 with fail
  obtain ⟨W4, hW4⟩ : ∃ W4, W4 = W3.alloc (.cells #[.int .i64 n1, .slice (some ⟨ga, 0, none⟩) xs.length qa] 26) := ⟨_, rfl⟩
  have hb4 : Below W3.heap.size W3 W4 := by rw [hW4]; exact (Below.refl _ _).alloc (Nat.le_refl _) _
  have HS4 := Lib.hid (show UvS w n1 p1 p2 c1 c2 xs ss W3.heap.size ga qa gc qc W4 from ⟨HZ3.out.next hb4, by rw [hW4]; exact BoxAt.new _ _ _, HR3.out.next hb4, HC3.out.next hb4⟩)
  obtain ⟨X, hX⟩ : ∃ X, W3.heap.size = X := ⟨_, rfl⟩
  rw [← hW4]
  rw [hX] at HS4 ⊢
  clear hb4 hW4 hX HZ3 HR3 HC3
  have x0 := HS4.out.x.cell' 0 rfl
  have x1 := HS4.out.x.cell' 1 rfl
  go_wp2_with fail
  refine (call48g n1 _ _ _ _ xs ss W4 HS4.out.rx HS4.out.sx HK.out).mono ?_
  rintro e W5 ⟨hU, hbc⟩
  have HS5 := Lib.hid (HS4.out.next hbc)
  clear hbc HS4 x0 x1
  rcases hU with ⟨hno, gd, qd, rfl, hrd⟩ | ⟨⟨p, q, hpa⟩, rfl⟩
  · have HNo := Lib.hid hno
    have HRd := Lib.hid hrd
    clear hno hrd
    go_upto_region 5 with fail
    obtain ⟨W6, hW6⟩ : ∃ W6, W6 = W5.alloc (.cells #[.int .i64 n1, .slice (some ⟨gd, 0, none⟩) ss.length qd] 37) := ⟨_, rfl⟩
    have hb6 : Below W5.heap.size W5 W6 := by rw [hW6]; exact (Below.refl _ _).alloc (Nat.le_refl _) _
    have HS6 := Lib.hid (HS5.out.next hb6)
    have HD6 := Lib.hid (show BoxAt W6 W5.heap.size #[.int .i64 n1, .slice (some ⟨gd, 0, none⟩) ss.length qd] 37 by rw [hW6]; exact BoxAt.new _ _ _)
    have HRd6 := Lib.hid (HRd.out.next hb6)
    obtain ⟨D, hD⟩ : ∃ D, W5.heap.size = D := ⟨_, rfl⟩
    rw [← hW6]
    rw [hD] at HD6 ⊢
    clear hb6 hW6 hD HS5 HRd
    have x0 := HS6.out.x.cell' 0 rfl
    have x1 := HS6.out.x.cell' 1 rfl
    go_wp2_with fail
    refine (call49g n1 _ _ _ _ xs ss W6 HS6.out.rx HS6.out.sx HK.out).mono ?_
    rintro e W7 ⟨hP, hbc⟩
    obtain rfl : e = .returned (.tuple #[.int .i64 0, .int .i64 0, .int .i64 0, .int .i64 7]) := by
      rcases hP with ⟨_, h⟩ | ⟨p', q', h1, _⟩
      · exact h
      · exact (part_no h1 HNo.out).elim
    clear hP
    have HS7 := Lib.hid (HS6.out.next hbc)
    have HD7 := Lib.hid (HD6.out.next hbc)
    have HRd7 := Lib.hid (HRd6.out.next hbc)
    clear hbc HS6 HD6 HRd6 x0 x1
    have x0 := HS7.out.x.cell' 0 rfl
    have x1 := HS7.out.x.cell' 1 rfl
    have a0 := HS7.out.z.za.cell' 0 rfl
    have a1 := HS7.out.z.za.cell' 1 rfl
    go_wp2_with fail
    refine (refSame3_eq n1 _ _ _ _ xs W7 (by omega) HS7.out.rx HS7.out.z.ra).mono ?_
    rintro e W8 ⟨rfl, hbc⟩
    have HS8 := Lib.hid (HS7.out.next hbc)
    have HD8 := Lib.hid (HD7.out.next hbc)
    have HRd8 := Lib.hid (HRd7.out.next hbc)
    clear hbc HS7 HD7 HRd7 x0 x1 a0 a1
    go_wp2_with fail
    refine (refAlike3_any _ _ _ _ ss W8 (by omega) HS8.out.sx HS8.out.z.sa).mono ?_
    rintro e W9 ⟨rfl, hbc⟩
    have HS9 := Lib.hid (HS8.out.next hbc)
    have HD9 := Lib.hid (HD8.out.next hbc)
    have HRd9 := Lib.hid (HRd8.out.next hbc)
    clear hbc HS8 HD8 HRd8
    have a0 := HS9.out.z.za.cell' 0 rfl
    have a1 := HS9.out.z.za.cell' 1 rfl
    have H33 := refCheck3_any n1 _ xs W9 HS9.out.z.ra
    rw [HC.out] at H33
    go_wp2_with fail
    refine H33.mono ?_
    rintro e W10 ⟨rfl, hbc⟩
    have HS10 := Lib.hid (HS9.out.next hbc)
    have HD10 := Lib.hid (HD9.out.next hbc)
    have HRd10 := Lib.hid (HRd9.out.next hbc)
    clear hbc HS9 HD9 HRd9 a0 a1 H33
    have a0 := HS10.out.z.za.cell' 0 rfl
    have a1 := HS10.out.z.za.cell' 1 rfl
    have H50 := refFits_any p2 c2 xs.length ss W10 HT.out.1 HT.out.2 HS10.out.z.sa (by omega)
    rw [HE.out] at H50
    go_wp2_with fail
    refine H50.mono ?_
    rintro e W11 ⟨rfl, hbc⟩
    have HS11 := Lib.hid (HS10.out.next hbc)
    have HD11 := Lib.hid (HD10.out.next hbc)
    have HRd11 := Lib.hid (HRd10.out.next hbc)
    clear hbc HS10 HD10 HRd10 a0 a1 H50
    go_upto_region 12 with fail
    obtain ⟨W12, hW12⟩ : ∃ W12, W12 = W11.alloc (.cells #[.int .i64 0, .int .i64 0, .int .i64 0] 69) := ⟨_, rfl⟩
    have hbc : Below W11.heap.size W11 W12 := by rw [hW12]; exact (Below.refl _ _).alloc (Nat.le_refl _) _
    have HA12 := Lib.hid (show BoxAt W12 W11.heap.size #[.int .i64 0, .int .i64 0, .int .i64 0] 69 by rw [hW12]; exact BoxAt.new _ _ _)
    have HS12 := Lib.hid (HS11.out.next hbc)
    have HD12 := Lib.hid (HD11.out.next hbc)
    have HRd12 := Lib.hid (HRd11.out.next hbc)
    obtain ⟨A, hA⟩ : ∃ A, W11.heap.size = A := ⟨_, rfl⟩
    rw [← hW12]
    rw [hA] at HA12 ⊢
    clear hbc hW12 hA HS11 HD11 HRd11
    have a0 := HS12.out.z.za.cell' 0 rfl
    have a1 := HS12.out.z.za.cell' 1 rfl
    go_wp2_with fail
    refine (call52g n1 _ _ _ _ xs ss W12 HS12.out.z.ra HS12.out.z.sa HK.out).mono ?_
    rintro e W13 ⟨hM, hbc⟩
    obtain rfl : e = .returned (.tuple #[.agg #[.int .i64 0, .int .i64 0, .int .i64 0], .bool false]) := by
      rcases hM with ⟨_, h⟩ | ⟨p', q', h1, _⟩
      · exact h
      · exact (part_no h1 HNo.out).elim
    have HS13 := Lib.hid (HS12.out.next hbc)
    have HD13 := Lib.hid (HD12.out.next hbc)
    have HRd13 := Lib.hid (HRd12.out.next hbc)
    have HA13 := Lib.hid (HA12.out.next hbc)
    clear hbc hM HS12 HD12 HRd12 HA12 a0 a1
    go_upto_region 15 with fail
    obtain ⟨W14, hW14⟩ : ∃ W14, W14 = W13.alloc (.cells #[.int .i64 0, .int .i64 0, .int .i64 0] 69) := ⟨_, rfl⟩
    have hbc : Below W13.heap.size W13 W14 := by rw [hW14]; exact (Below.refl _ _).alloc (Nat.le_refl _) _
    have HB14 := Lib.hid (show BoxAt W14 W13.heap.size #[.int .i64 0, .int .i64 0, .int .i64 0] 69 by rw [hW14]; exact BoxAt.new _ _ _)
    have HS14 := Lib.hid (HS13.out.next hbc)
    have HD14 := Lib.hid (HD13.out.next hbc)
    have HRd14 := Lib.hid (HRd13.out.next hbc)
    have HA14 := Lib.hid (HA13.out.next hbc)
    obtain ⟨B, hB⟩ : ∃ B, W13.heap.size = B := ⟨_, rfl⟩
    rw [← hW14]
    rw [hB] at HB14 ⊢
    clear hbc hW14 hB HS13 HD13 HRd13 HA13
    go_upto_region 17 with fail
    refine region_uw17 w.heap.size D A xs.length c1 ss.length c2 gd qd n1 p1 p2 (ints (dsnL (hkN xs) (psN ss))) (fun W hb => call53g n1 p1 p2 c1 c2 xs ss W (HS14.out.z.ra.next hb) (HS14.out.z.sa.next hb) HK.out HNo.out) (fun g off cap W hb hR => by have H := Same_any n1 n1 (some ⟨gd, 0, none⟩) (some ⟨g, off, none⟩) qd cap (ints (dsnL (hkN xs) (psN ss))) (ints (dsnL (hkN xs) (psN ss))) W (by rw [dsn_len]; exact HRd14.out.next hb) (by rw [dsn_len]; exact hR); rw [dsn_len, decide_eq_true (show n1 = n1 ∧ ints (dsnL (hkN xs) (psN ss)) = ints (dsnL (hkN xs) (psN ss)) from ⟨rfl, rfl⟩)] at H; exact H) HS14.out.z.za HD14.out HA14.out rfl ?hops (by kernel_rfl) (by kernel_rfl) (by kernel_rfl) (by kernel_rfl) ?hsz ?hout ?hend
    case hops => exact ⟨⟨_, _, _, rfl, by kernel_rfl⟩, ⟨_, _, _, rfl, by kernel_rfl⟩, ⟨_, _, _, rfl, by kernel_rfl⟩, ⟨_, _, _, rfl, by kernel_rfl⟩, ⟨_, _, _, rfl, by kernel_rfl⟩, ⟨_, _, _, rfl, by kernel_rfl⟩, ⟨_, _, _, rfl, by kernel_rfl⟩, ⟨_, _, _, rfl, by kernel_rfl⟩, ⟨_, _, _, rfl, by kernel_rfl⟩, ⟨_, _, _, rfl, by kernel_rfl⟩, ⟨_, _, _, rfl, by kernel_rfl⟩, ⟨_, _, _, rfl, by kernel_rfl⟩, ⟨_, _, _, rfl, by kernel_rfl⟩, ⟨_, _, _, rfl, by kernel_rfl⟩, ⟨_, _, _, rfl, by kernel_rfl⟩, ⟨_, _, _, rfl, by kernel_rfl⟩, ⟨_, _, _, rfl, by kernel_rfl⟩, ⟨_, _, _, rfl, by kernel_rfl⟩, ⟨_, _, _, rfl, by kernel_rfl⟩, ⟨_, _, _, rfl, by kernel_rfl⟩, ⟨_, _, _, rfl, by kernel_rfl⟩, ⟨_, _, _, rfl, by kernel_rfl⟩⟩
    case hsz => intro d hd; simp only [List.mem_cons, List.not_mem_nil, or_false] at hd; show d < 131; omega
    case hout => exact ⟨rfl, rfl, rfl, rfl, rfl, rfl⟩
    case hend =>
      intro g116 q116 G116 Q116 P116 u110 u111 u112 u113 u114 u115 u116 u117 u118 u119 u120 u121 u122 u123 u124 u125 u126 u127 u128 u129 u130 W17 hb17 hm116 hB116
      simp only [putL, List.foldl, Act.put, List.setIfInBounds_toArray, List.set_cons_succ, List.set_cons_zero]
      have HS17 := Lib.hid (HS14.out.next hb17)
      clear hb17 hm116 hB116 HS14 HD14 HA14 HRd14
      go_wp2_with fail
      go_ret
      exact ⟨rfl, HS17.out.z.b⟩
  · have HPa := Lib.hid hpa
    clear hpa
    go_upto_region 5 with fail
    obtain ⟨W6, hW6⟩ : ∃ W6, W6 = W5.alloc (.cells #[.int .i64 0, .slice none 0 0] 37) := ⟨_, rfl⟩
    have hb6 : Below W5.heap.size W5 W6 := by rw [hW6]; exact (Below.refl _ _).alloc (Nat.le_refl _) _
    have HS6 := Lib.hid (HS5.out.next hb6)
    have HD6 := Lib.hid (show BoxAt W6 W5.heap.size #[.int .i64 0, .slice none 0 0] 37 by rw [hW6]; exact BoxAt.new _ _ _)
    obtain ⟨D, hD⟩ : ∃ D, W5.heap.size = D := ⟨_, rfl⟩
    rw [← hW6]
    rw [hD] at HD6 ⊢
    clear hb6 hW6 hD HS5
    have x0 := HS6.out.x.cell' 0 rfl
    have x1 := HS6.out.x.cell' 1 rfl
    go_wp2_with fail
    refine (call49g n1 _ _ _ _ xs ss W6 HS6.out.rx HS6.out.sx HK.out).mono ?_
    rintro e W7 ⟨hP, hbc⟩
    obtain ⟨o, ho⟩ : ∃ o, fstI (nthN (hkN xs)) q = o := ⟨_, rfl⟩
    obtain rfl : e = .returned (.tuple #[.int .i64 (p : Int), .int .i64 (q : Int), .int .i64 (o : Int), .int .i64 0]) := by
      rcases hP with ⟨h, _⟩ | ⟨p', q', h1, h2⟩
      · exact (part_no HPa.out h).elim
      · obtain ⟨e1, e2⟩ := part_uniq h1 HPa.out
        rw [h2, e1, e2, ho]
    have Ho := Lib.hid ho
    clear hP ho
    have HS7 := Lib.hid (HS6.out.next hbc)
    have HD7 := Lib.hid (HD6.out.next hbc)
    clear hbc HS6 HD6 x0 x1
    have x0 := HS7.out.x.cell' 0 rfl
    have x1 := HS7.out.x.cell' 1 rfl
    have a0 := HS7.out.z.za.cell' 0 rfl
    have a1 := HS7.out.z.za.cell' 1 rfl
    go_wp2_with fail
    refine (refSame3_eq n1 _ _ _ _ xs W7 (by omega) HS7.out.rx HS7.out.z.ra).mono ?_
    rintro e W8 ⟨rfl, hbc⟩
    have HS8 := Lib.hid (HS7.out.next hbc)
    have HD8 := Lib.hid (HD7.out.next hbc)
    clear hbc HS7 HD7 x0 x1 a0 a1
    go_wp2_with fail
    refine (refAlike3_any _ _ _ _ ss W8 (by omega) HS8.out.sx HS8.out.z.sa).mono ?_
    rintro e W9 ⟨rfl, hbc⟩
    have HS9 := Lib.hid (HS8.out.next hbc)
    have HD9 := Lib.hid (HD8.out.next hbc)
    clear hbc HS8 HD8
    have a0 := HS9.out.z.za.cell' 0 rfl
    have a1 := HS9.out.z.za.cell' 1 rfl
    have H33 := refCheck3_any n1 _ xs W9 HS9.out.z.ra
    rw [HC.out] at H33
    go_wp2_with fail
    refine H33.mono ?_
    rintro e W10 ⟨rfl, hbc⟩
    have HS10 := Lib.hid (HS9.out.next hbc)
    have HD10 := Lib.hid (HD9.out.next hbc)
    clear hbc HS9 HD9 a0 a1 H33
    have a0 := HS10.out.z.za.cell' 0 rfl
    have a1 := HS10.out.z.za.cell' 1 rfl
    have H50 := refFits_any p2 c2 xs.length ss W10 HT.out.1 HT.out.2 HS10.out.z.sa (by omega)
    rw [HE.out] at H50
    go_wp2_with fail
    refine H50.mono ?_
    rintro e W11 ⟨rfl, hbc⟩
    have HS11 := Lib.hid (HS10.out.next hbc)
    have HD11 := Lib.hid (HD10.out.next hbc)
    clear hbc HS10 HD10 a0 a1 H50
    go_upto_region 12 with fail
    obtain ⟨W12, hW12⟩ : ∃ W12, W12 = W11.alloc (.cells #[.int .i64 (p : Int), .int .i64 (q : Int), .int .i64 (o : Int)] 69) := ⟨_, rfl⟩
    have hbc : Below W11.heap.size W11 W12 := by rw [hW12]; exact (Below.refl _ _).alloc (Nat.le_refl _) _
    have HA12 := Lib.hid (show BoxAt W12 W11.heap.size #[.int .i64 (p : Int), .int .i64 (q : Int), .int .i64 (o : Int)] 69 by rw [hW12]; exact BoxAt.new _ _ _)
    have HS12 := Lib.hid (HS11.out.next hbc)
    have HD12 := Lib.hid (HD11.out.next hbc)
    obtain ⟨A, hA⟩ : ∃ A, W11.heap.size = A := ⟨_, rfl⟩
    rw [← hW12]
    rw [hA] at HA12 ⊢
    clear hbc hW12 hA HS11 HD11
    have a0 := HS12.out.z.za.cell' 0 rfl
    have a1 := HS12.out.z.za.cell' 1 rfl
    go_wp2_with fail
    refine (call52g n1 _ _ _ _ xs ss W12 HS12.out.z.ra HS12.out.z.sa HK.out).mono ?_
    rintro e W13 ⟨hM, hbc⟩
    obtain rfl : e = .returned (.tuple #[.agg #[.int .i64 (p : Int), .int .i64 (q : Int), .int .i64 (o : Int)], .bool true]) := by
      rcases hM with ⟨h, _⟩ | ⟨p', q', h1, h2⟩
      · exact (part_no HPa.out h).elim
      · obtain ⟨e1, e2⟩ := part_uniq h1 HPa.out
        rw [h2, e1, e2, Ho.out]
    have HS13 := Lib.hid (HS12.out.next hbc)
    have HD13 := Lib.hid (HD12.out.next hbc)
    have HA13 := Lib.hid (HA12.out.next hbc)
    clear hbc hM HS12 HD12 HA12 a0 a1
    go_upto_region 15 with fail
    obtain ⟨W14, hW14⟩ : ∃ W14, W14 = W13.alloc (.cells #[.int .i64 (p : Int), .int .i64 (q : Int), .int .i64 (o : Int)] 69) := ⟨_, rfl⟩
    have hbc : Below W13.heap.size W13 W14 := by rw [hW14]; exact (Below.refl _ _).alloc (Nat.le_refl _) _
    have HB14 := Lib.hid (show BoxAt W14 W13.heap.size #[.int .i64 (p : Int), .int .i64 (q : Int), .int .i64 (o : Int)] 69 by rw [hW14]; exact BoxAt.new _ _ _)
    have HS14 := Lib.hid (HS13.out.next hbc)
    have HD14 := Lib.hid (HD13.out.next hbc)
    have HA14 := Lib.hid (HA13.out.next hbc)
    obtain ⟨B, hB⟩ : ∃ B, W13.heap.size = B := ⟨_, rfl⟩
    rw [← hW14]
    rw [hB] at HB14 ⊢
    clear hbc hW14 hB HS13 HD13 HA13
    have d0 := HD14.out.cell' 0 rfl
    have d1 := HD14.out.cell' 1 rfl
    go_wp2_with fail
    refine (bare_ok _).mono ?_
    rintro e W15 ⟨rfl, hbc⟩
    have HS15 := Lib.hid (HS14.out.next hbc)
    have HA15 := Lib.hid (HA14.out.next hbc)
    have HB15 := Lib.hid (HB14.out.next hbc)
    clear hbc HS14 HA14 HB14 HD14 d0 d1
    have e0 := HA15.out.cell' 0 rfl
    have e1 := HA15.out.cell' 1 rfl
    have e2 := HA15.out.cell' 2 rfl
    have f0 := HB15.out.cell' 0 rfl
    have f1 := HB15.out.cell' 1 rfl
    have f2 := HB15.out.cell' 2 rfl
    go_wp2_with fail
    refine (tieKnown _).mono ?_
    rintro e WK ⟨rfl, hbk⟩
    have Hend := Lib.hid (show Below w.heap.size w WK from HS15.out.z.b.trans (hbk.mono (HS15.out.z.b).size))
    clear hbk
    go_wp2_with fail
    go_ret
    exact ⟨rfl, Hend.out⟩
end Go.Proofs.Ytdmgffoikebgkaa
