/- Boxes that are known whole; a row that one element is appended to. -/
import Derived.Test.YtdmgffoikebgkaaTb01
import Derived.Deep.RegionHeld3
import Derived.Deep.RegionLaw
import Derived.Deep.AppendLies
import Derived.Maps.AppendAt
import Derived.Laws.BytesArg
import Derived.Maps.OwnOps
import Derived.Maps.OwnSet
import Derived.Maps.Views
import Derived.KernelRfl
import Derived.Deep.QuietTactic
import Derived.BigQuiet
import Derived.RangeFuncNested
import Derived.RangeFuncLeaves
namespace Go.Proofs.Ytdmgffoikebgkaa
open Go.RowKit Go.Shelf

theorem cell_next {W W' : World} {p : Addr} {v : Value} (hb : Below W.heap.size W W') (h : W.cell? p = some v) : W'.cell? p = some v :=
  (hb.cell (World.block_lt_of_cell? W p h)).trans h
/-- a block that is known whole -/
def BoxAt (W : World) (B : Nat) (vs : Array Value) (t : TypeId) : Prop := W.heap[B]? = some (.cells vs t (0, 0))
theorem BoxAt.lt {W : World} {B : Nat} {vs : Array Value} {t : TypeId} (h : BoxAt W B vs t) : B < W.heap.size := (Array.getElem?_eq_some_iff.1 h).1
theorem BoxAt.cell {W : World} {B : Nat} {vs : Array Value} {t : TypeId} (h : BoxAt W B vs t) (j : Nat) : W.cell? ⟨B, j, none⟩ = vs[j]? := by
  simp [World.cell?, show W.heap[B]? = _ from h]
theorem BoxAt.cell' {W : World} {B : Nat} {vs : Array Value} {t : TypeId} (h : BoxAt W B vs t) (j : Nat) {v : Value} (hj : vs[j]? = some v) : W.cell? ⟨B, j, none⟩ = some v := (h.cell j).trans hj
theorem BoxAt.frozen {W : World} {B : Nat} {vs : Array Value} {t : TypeId} (h : BoxAt W B vs t) (j : Nat) : W.frozen? ⟨B, j, none⟩ = false := by
  simp [World.frozen?, show W.heap[B]? = _ from h]
theorem BoxAt.new (W : World) (vs : Array Value) (t : TypeId) : BoxAt (W.alloc (.cells vs t)) W.heap.size vs t := World.alloc_heap_new W _
theorem BoxAt.below {W W' : World} {k B : Nat} {vs : Array Value} {t : TypeId} (h : BoxAt W B vs t) (hb : Below k W W') (hk : B < k) : BoxAt W' B vs t := (hb.block B hk).trans h
theorem BoxAt.next {W W' : World} {B : Nat} {vs : Array Value} {t : TypeId} (h : BoxAt W B vs t) (hb : Below W.heap.size W W') : BoxAt W' B vs t := h.below hb h.lt
theorem BoxAt.kept {W W' : World} {B : Nat} {vs : Array Value} {t : TypeId} {row : Option Nat} (h : BoxAt W B vs t) (hg : W.grownBy W' row) (hne : some B ≠ row) : BoxAt W' B vs t := (hg.block B h.lt hne).trans h
theorem BoxAt.set {W : World} {B : Nat} {vs : Array Value} {t : TypeId} (h : BoxAt W B vs t) (j : Nat) (v : Value) : BoxAt (W.setCell ⟨B, j, none⟩ v) B (vs.setIfInBounds j v) t := by
  have hl := h.lt
  unfold BoxAt at h ⊢
  simp [World.setCell, Array.getElem?_modify, h]
theorem BoxAt.other {W : World} {B : Nat} {vs : Array Value} {t : TypeId} (h : BoxAt W B vs t) (a : Addr) (v : Value) (ha : B ≠ a.block) : BoxAt (W.setCell a v) B vs t := (Below.heap_setCell W a v B ha).trans h
theorem BoxAt.not_row {W : World} {B : Nat} {vs : Array Value} {t : TypeId} (h : BoxAt W B vs t) {base size k e : Nat} {v : Value} {xs : List Value} (he : t ≠ e) (hr : W.ownsRow base e size v k xs) : some B ≠ v.ownBlock := by
  obtain ⟨_, ⟨rfl, _⟩ | ⟨g, cap, cur, rfl, hb, hh, _⟩⟩ := hr
  · simp [Value.ownBlock]
  · simp [Value.ownBlock]
    rintro rfl
    rw [show W.heap[B]? = _ from h] at hh
    simp at hh
    exact he hh.2
theorem own_next {W W' : World} {base e size k : Nat} {v : Value} {xs : List Value} (h : W.ownsRow base e size v k xs) (hb : Below W.heap.size W W') : W'.ownsRow base e size v k xs := by
  obtain ⟨hl, h2⟩ := h
  refine ⟨hl, ?_⟩
  rcases h2 with h2 | ⟨g, cap, cur, e, hg, hh, r⟩
  · exact .inl h2
  · exact .inr ⟨g, cap, cur, e, hg, (hb.block _ (Array.getElem?_eq_some_iff.1 hh).1).trans hh, r⟩
theorem own_far {W : World} {base e size k : Nat} {v : Value} {xs : List Value} (h : W.ownsRow base e size v k xs) {j : Nat} (hj : j < base) : some j ≠ v.ownBlock := by
  intro e
  have := ownBlock_ge h e.symm
  omega
theorem own_set {W : World} {base e size k : Nat} {v : Value} {xs : List Value} (h : W.ownsRow base e size v k xs) (a : Addr) (u : Value) (hne : some a.block ≠ v.ownBlock) : (W.setCell a u).ownsRow base e size v k xs := by
  obtain ⟨hl, h2⟩ := h
  refine ⟨hl, ?_⟩
  rcases h2 with h2 | ⟨q, cap, cur, e, hq, hh, r⟩
  · exact .inl h2
  · refine .inr ⟨q, cap, cur, e, hq, (Below.heap_setCell _ _ _ _ ?_).trans hh, r⟩
    rintro rfl
    exact hne (by rw [e]; rfl)
theorem own_base {W : World} {base b2 e size k : Nat} {v : Value} {xs : List Value} (h : W.ownsRow base e size v k xs) (hb : b2 ≤ base) : W.ownsRow b2 e size v k xs := by
  obtain ⟨hl, h2⟩ := h
  refine ⟨hl, ?_⟩
  rcases h2 with h2 | ⟨q, cap, cur, e, hq, r⟩
  · exact .inl h2
  · exact .inr ⟨q, cap, cur, e, by omega, r⟩
/-- a slice's element type -/
structure ElemT (t e size bytes : Nat) : Prop where
  ex : ∃ (i : TypeInfo) (z : Value), Try.prog.underlying t = some (.slice e) ∧ Try.prog.info? e = some i ∧ i.zero = some z ∧ i.size = size ∧ i.bytes = bytes ∧ z.cells.size = size ∧ 0 < size
theorem elemInt : ElemT 24 3 1 8 := by
  obtain ⟨i, hi, hz0, hz1, hz2⟩ := info_parts Try.info3
  exact ⟨i, _, Try.underlying24, hi, hz0, hz1, hz2, rfl, by decide⟩
/-- what appending one element leaves -/
structure Grew (base e size : Nat) (W W' : World) (v : Value) (g cap n : Nat) (xs : List Value) : Prop where
  row : W'.ownsRow base e size (.slice (some ⟨g, 0, none⟩) n cap) n xs
  grow : W.grownBy W' v.ownBlock
  lt : g < W'.heap.size
  at' : v.ownBlock = some g ∨ W.heap.size ≤ g
  ge : base ≤ g
theorem Grew.below {base e size : Nat} {W W' : World} {v : Value} {g cap n : Nat} {xs : List Value} (h : Grew base e size W W' v g cap n xs) {k m : Nat} {ys : List Value} (hr : W.ownsRow base e size v m ys) (hk : k ≤ base) (hb : base ≤ W.heap.size) {W0 : World} (h0 : Below k W0 W) : Below k W0 W' :=
  h0.grown h.grow (by omega) (fun j hj => by have := (ownBlock_ge hr hj).1; omega)
theorem app_one {t e size bytes : Nat} (E : ElemT t e size bytes) {ops : Array Oper} {rest : List Oper} {o : Oper} {a : Act} {Q : Exit → Act → World → Prop} {W : World} (hgd : o.guard = none) (s x : Operand)
    (ho : o.op = .call { callee := .builtin .append, args := #[s, x], argTypes := #[t, t] }) (base : Nat) (v : Value) (n : Nat) (xs : List Value) (cs : Array Value)
    (hs : a.eval s = v) (hown : W.ownsRow base e size v n xs) (hx : a.eval x = .slice (some ⟨W.heap.size, 0, none⟩) 1 1) (hcs : cs.size = size) (h1 : ∀ u ∈ cs.toList, u.oneCell' = true)
    (hlen : n ≤ 1000000) (hby : bytes ≤ 1000) (hbase : base ≤ W.heap.size)
    (h : ∀ g cap W', Grew base e size W W' v g cap (n + 1) (xs ++ cs.toList) → wpList Try.prog ops Q rest (a.put o.dst (.slice (some ⟨g, 0, none⟩) (n + 1) cap)) W') :
    wpList Try.prog ops Q (o :: rest) a (W.alloc (.cells cs e)) := by
  obtain ⟨i, z, hu, hi, hz0, hz1, hz2, hz3, hz4⟩ := E.ex
  refine wpList_append_lies _ hgd s x t ho base e i z size bytes hu hi hz0 hz1 hz2 hz3 hz4 v n xs hs (hown.alloc _) ⟨W.heap.size, 0, none⟩ 1 1 cs.toList hx (by simp [hcs])
    (World.news_of_block (t := e) (fr := (0, 0)) (World.alloc_heap_new W _)) h1 (by omega) (by unfold maxLen; omega) ?_ (by simp; omega) (W.heap.size + 1) (by simp) ?_
  · exact Nat.le_trans (Nat.mul_le_mul (show n + 1 ≤ 1000001 by omega) hby) (by decide)
  · intro g cap w' hr hg hat hlt
    refine h g cap w' ⟨hr, ⟨hg.os, hg.tape, hg.output, ?_, fun k hk hne => (hg.block k (by simp; omega) hne).trans (Below.heap_alloc _ _ _ hk)⟩, hlt, ?_, ?_⟩
    · have := hg.size; simp at this; omega
    · rcases hat with h | h
      · exact .inl h
      · exact .inr (by omega)
    · exact (ownBlock_ge hr (by simp [Value.ownBlock])).1
end Go.Proofs.Ytdmgffoikebgkaa
/- Harness ties: Check, the check of a design. -/
namespace Go.Proofs.Ytdmgffoikebgkaa
open Go.RowKit Go.Shelf

/-- a valid harness in memory -/
structure TAt (w : World) (b off n : Nat) (hs : List Nat) : Prop where
  at' : NatsAt w b off hs
  lt : b < w.heap.size
  n0 : 1 ≤ n
  n1 : n ≤ 24
  l0 : 1 ≤ hs.length
  l1 : hs.length ≤ 96
  hk : ∀ i, i < hs.length → nthN hs i < n
theorem TAt.next {w w' : World} {b off n : Nat} {hs : List Nat} (h : TAt w b off n hs) (hb : Below w.heap.size w w') : TAt w' b off n hs :=
  ⟨h.at'.below hb h.lt, Nat.lt_of_lt_of_le h.lt hb.size, h.n0, h.n1, h.l0, h.l1, h.hk⟩
set_option maxHeartbeats 1000000 in
theorem areFrom_true (lo hi : Int) (b off c : Nat) (xs : List Nat) (w : World) (hl : xs.length ≤ 1000) (hx : NatsAt w b off xs) (h : ∀ i, i < xs.length → lo ≤ (nthN xs i : Int) ∧ (nthN xs i : Int) ≤ hi) :
    Calls Try.prog 111 #[.int .i64 lo, .int .i64 hi, .slice (some ⟨b, off, none⟩) xs.length c] w fun e w' => e = .returned (.bool true) ∧ w = w' := by
  go_enter Try.func111, Try.ntmps111
  go_wp2
  go_loop [8, 11] (fun _ i => ∃ k : Nat, k ≤ xs.length ∧ i = .int .i64 k) (fun _ i => xs.length - (intOf i).toNat)
  case atStart => exact ⟨0, Nat.zero_le _, rfl⟩
  case round =>
    obtain ⟨k, hk, rfl⟩ := hrel
    by_cases hlt : k < xs.length
    · have hc := hx k hlt
      have h1 := (h k hlt).1
      have h2 := (h k hlt).2
      have d1 : decide ((nthN xs k : Int) < lo) = false := by simp; omega
      have d2 : decide (hi < (nthN xs k : Int)) = false := by simp; omega
      go_wp2
      all_goals go_round
      case rel => exact ⟨k + 1, by omega, by go_num⟩
      case measure => simp [intOf]; omega
    · go_wp2
      go_ret
      exact ⟨rfl, rfl⟩
theorem areFrom_one (lo hi : Int) (B off c : Nat) (x : Nat) (w : World) (hc : w.cell? ⟨B, off, none⟩ = some (.int .i64 (x : Int))) (h1 : lo ≤ (x : Int)) (h2 : (x : Int) ≤ hi) :
    Calls Try.prog 111 #[.int .i64 lo, .int .i64 hi, .slice (some ⟨B, off, none⟩) 1 c] w fun e w' => e = .returned (.bool true) ∧ w = w' :=
  areFrom_true lo hi B off c [x] w (by simp) (fun i hi => by
    obtain rfl : i = 0 := by simpa using hi
    simpa [nthN] using hc) (fun i hi => by
    obtain rfl : i = 0 := by simpa using hi
    exact ⟨h1, h2⟩)
set_option maxHeartbeats 1000000 in
theorem tieCheck_ok (n b off c : Nat) (hs : List Nat) (w : World) (hv : TAt w b off n hs) :
    Calls Try.prog 29 #[.agg #[.int .i64 (n : Int), .slice (some ⟨b, off, none⟩) hs.length c]] w fun e w' => e = .returned (.int .i64 0) ∧ Below w.heap.size w w' := by
  have l1 := hv.l1
  have l0 := hv.l0
  have n0 := hv.n0
  have n1 := hv.n1
  have hd2 : ((hs.length : Int) == 0) = false := by rw [beq_eq_false_iff_ne]; omega
  have hb1 : Below w.heap.size w ((w.alloc (.cells #[.int .i64 (n : Int), .slice (some ⟨b, off, none⟩) hs.length c] 26)).alloc (.cells #[.int .i64 (n : Int)] 3)) := ((Below.refl _ _).alloc (Nat.le_refl _) _).alloc (by simp) _
  have hv2 := hv.next hb1
  have HC := Lib.hid (areFrom_true 0 ((n : Int) - 1) b off c hs _ (by omega) hv2.at' (fun i hi => by have := hv2.hk i hi; omega))
  have HA := Lib.hid (areFrom_one 1 24 (w.heap.size + 1) 0 1 n ((w.alloc (.cells #[.int .i64 (n : Int), .slice (some ⟨b, off, none⟩) hs.length c] 26)).alloc (.cells #[.int .i64 (n : Int)] 3)) (by simp) (by omega) (by omega))
  have Hb1 := Lib.hid hb1
  clear hb1 hv hv2
  go_enter Try.func29, Try.ntmps29
  go_wp2_with fail
  refine HA.out.mono ?_
  rintro e w' ⟨rfl, rfl⟩
  go_wp2_with fail
  refine HC.out.mono ?_
  rintro e w' ⟨rfl, rfl⟩
  go_wp2_with fail
  go_ret
  exact ⟨rfl, Hb1.out⟩
set_option maxHeartbeats 1000000 in
theorem checkDesign_ok (n b off c b2 off2 c2 : Nat) (hs xs : List Nat) (w : World) (hv : TAt w b off n hs) (hx : VAt w b2 off2 c2 n xs) :
    Calls Try.prog 118 #[.agg #[.int .i64 (n : Int), .slice (some ⟨b, off, none⟩) hs.length c], .agg #[.int .i64 (n : Int), .slice (some ⟨b2, off2, none⟩) xs.length c2]] w fun e w' => e = .returned (.int .i64 0) ∧ Below w.heap.size w w' := by
  have hb1 : Below w.heap.size w ((w.alloc (.cells #[.int .i64 (n : Int), .slice (some ⟨b, off, none⟩) hs.length c] 26)).alloc (.cells #[.int .i64 (n : Int), .slice (some ⟨b2, off2, none⟩) xs.length c2] 37)) := ((Below.refl _ _).alloc (Nat.le_refl _) _).alloc (by simp) _
  have HA := Lib.hid (tieCheck_ok n b off c hs _ (hv.next hb1))
  have HC := fun W (hb : Below w.heap.size w W) => Check_any (n : Int) (.slice (some ⟨b2, off2, none⟩) xs.length c2) (ints xs) W (VAt.reads (hx.below hb))
  rw [hx.ok.check] at HC
  have Hb1 := Lib.hid hb1
  have HB := Lib.hid (show BoxAt _ _ _ _ from BoxAt.new w #[.int .i64 (n : Int), .slice (some ⟨b, off, none⟩) hs.length c] 26)
  have HB2 := Lib.hid (show BoxAt _ _ _ _ from BoxAt.new (w.alloc (.cells #[.int .i64 (n : Int), .slice (some ⟨b, off, none⟩) hs.length c] 26)) #[.int .i64 (n : Int), .slice (some ⟨b2, off2, none⟩) xs.length c2] 37)
  clear hb1 hv hx
  go_enter Try.func118, Try.ntmps118
  go_wp2_with fail
  refine HA.out.mono ?_
  rintro e w1 ⟨rfl, hb⟩
  have hbb := Hb1.out.trans (hb.mono (by simp; omega))
  have e0 : w1.cell? ⟨w.heap.size, 0, none⟩ = some (.int .i64 (n : Int)) := BoxAt.cell' (BoxAt.below HB.out ((((Below.refl (w.heap.size + 1) _).alloc (by simp) _)).trans (hb.mono (by simp))) (by omega)) 0 rfl
  have k2 := HB2.out
  rw [World.size_alloc] at k2
  have hk2 := k2.next hb
  have f0 : w1.cell? ⟨w.heap.size + 1, 0, none⟩ = some (.int .i64 (n : Int)) := hk2.cell' 0 rfl
  have f1 : w1.cell? ⟨w.heap.size + 1, 1, none⟩ = some (.slice (some ⟨b2, off2, none⟩) xs.length c2) := hk2.cell' 1 rfl
  have HC1 := Lib.hid (HC w1 hbb)
  have Hbb := Lib.hid hbb
  clear hb k2 hk2 hbb HB HB2 HC
  go_wp2_with fail
  refine HC1.out.mono ?_
  rintro e w2 ⟨rfl, hb⟩
  have g0 := cell_next hb e0
  have g1 := cell_next hb f0
  have Hb := Lib.hid hb
  clear hb
  go_wp2_with fail
  go_ret
  exact ⟨rfl, Hbb.out.trans (Hb.out.mono Hbb.out.size)⟩
end Go.Proofs.Ytdmgffoikebgkaa
/- Harness ties: Weave. -/
namespace Go.Proofs.Ytdmgffoikebgkaa
open Go.RowKit Go.Shelf

/-- the byte of a warp: up or down -/
def clothB (hs : List Nat) (row i : Nat) : Int := if bitN row (nthN hs i) then 120 else 46
def clothL (hs : List Nat) (row : Nat) : List Int := (List.range hs.length).map (clothB hs row)
/-- one pick of the cloth -/
def pickS (hs : List Nat) (row : Nat) : ByteArray := strOfNums (clothL hs row)
def clothV (hs xs : List Nat) (k : Nat) : List Value := (List.range k).map fun i => .string (pickS hs (nthN xs i))
theorem clothV_succ (hs xs : List Nat) (k : Nat) : clothV hs xs (k + 1) = clothV hs xs k ++ [.string (pickS hs (nthN xs k))] := by simp [clothV, List.range_succ]
theorem clothV_len (hs xs : List Nat) (k : Nat) : (clothV hs xs k).length = k := by simp [clothV]
/-- the bytes behind k rounds -/
def byteRow (hs : List Nat) (row k : Nat) : Array Value := ((List.range hs.length).map fun i => if i < k then Value.int .u8 (clothB hs row i) else Value.int .u8 0).toArray
theorem byteRow_get (hs : List Nat) (row k i : Nat) (h : i < hs.length) : (byteRow hs row k)[i]? = some (if i < k then Value.int .u8 (clothB hs row i) else Value.int .u8 0) := by
  simp [byteRow, h]
theorem byteRow_set (hs : List Nat) (row k : Nat) (h : k < hs.length) : (byteRow hs row k).setIfInBounds k (.int .u8 (clothB hs row k)) = byteRow hs row (k + 1) := by
  apply Array.ext_getElem?
  intro i
  rw [Array.getElem?_setIfInBounds]
  by_cases hi : i < hs.length
  · rw [byteRow_get _ _ _ _ hi, byteRow_get _ _ _ _ hi]
    by_cases e : k = i
    · subst e; simp [byteRow, h]
    · rw [if_neg e]
      by_cases h2 : i < k
      · rw [if_pos h2, if_pos (by omega)]
      · rw [if_neg h2, if_neg (by omega)]
  · rw [if_neg (by omega), Array.getElem?_eq_none (by simp [byteRow]; omega), Array.getElem?_eq_none (by simp [byteRow]; omega)]
theorem byteRow_set2 (hs : List Nat) (row k : Nat) (u : Value) (h : k < hs.length) : ((byteRow hs row k).setIfInBounds k u).setIfInBounds k (.int .u8 (clothB hs row k)) = byteRow hs row (k + 1) := by
  rw [← byteRow_set hs row k h]
  apply Array.ext_getElem?
  intro i
  simp only [Array.getElem?_setIfInBounds, Array.size_setIfInBounds]
  split
  · rfl
  · rfl
theorem Try.info5' : (Try.prog.info? 5).map (fun i => (i.zero, i.size, i.bytes)) = some (some (.int .u8 0), 1, 1) := by kernel_rfl
theorem Try.info9' : (Try.prog.info? 9).map (fun i => (i.zero, i.size, i.bytes)) = some (some (.string ⟨#[]⟩), 1, 16) := by kernel_rfl
theorem elemStr : ElemT 49 9 1 16 := by
  obtain ⟨i, hi, hz0, hz1, hz2⟩ := info_parts Try.info9'
  exact ⟨i, _, Try.underlying49, hi, hz0, hz1, hz2, rfl, by decide⟩
theorem made_bytes (hs : List Nat) (row : Nat) : madeCells #[.int .u8 0] (hs.length * 1) = byteRow hs row 0 := by
  apply Array.ext_getElem?
  intro i
  by_cases hi : i < hs.length
  · rw [byteRow_get _ _ _ _ hi]
    simp [madeCells, hi, Nat.mod_one]
  · rw [Array.getElem?_eq_none (by rw [size_madeCells]; omega), Array.getElem?_eq_none (by simp [byteRow]; omega)]
theorem run_make_bytes (hs : List Nat) (row : Nat) (hn : hs.length ≤ 1000) (w : World) :
    (Instr.makeSlice 89 (.int .i64 (hs.length : Int)) (.int .i64 (hs.length : Int))).run Try.prog w = .ok (.slice (some ⟨w.heap.size, 0, none⟩) hs.length hs.length) (w.alloc (.cells (byteRow hs row 0) 5)) := by
  obtain ⟨i, hi, hz0, hz1, hz2⟩ := info_parts Try.info5'
  have h := run_make (P := Try.prog) w 89 5 i _ Try.underlying89 hi hz0 .i64 .i64 hs.length hs.length (by omega) (Int.le_refl _) (by rw [hz2]; omega) (by omega)
  rw [hz1] at h
  simp only [Int.toNat_natCast] at h
  rw [h, ← made_bytes hs row]
  rfl
theorem run_pick (hs : List Nat) (row R : Nat) (W : World) (h : BoxAt W R (byteRow hs row hs.length) 5) :
    (convert 89 9 (.slice (some ⟨R, 0, none⟩) hs.length hs.length)).run Try.prog W = .ok (.string (pickS hs row)) W := by
  refine run_convert_bytes_arg W 89 5 Try.underlying89 Try.underlying5 R 0 hs.length hs.length (clothL hs row) (by simp [clothL]) ?_ 9 Try.underlying9
  intro i hi
  rw [Nat.zero_add]
  refine h.cell' i ?_
  rw [byteRow_get _ _ _ _ hi, if_pos hi]
  simp [clothL, hi]
/-- what weave keeps between two picks -/
structure WeAt (w0 : World) (n b off c l : Nat) (v : Value) (rows : List Value) (W : World) : Prop where
  box : BoxAt W w0.heap.size #[.int .i64 (n : Int), .slice (some ⟨b, off, none⟩) l c] 159
  row : W.ownsRow (w0.heap.size + 1) 9 1 v rows.length rows
  b : Below w0.heap.size w0 W
theorem WeAt.next {w0 W W' : World} {n b off c l : Nat} {v : Value} {rows : List Value} (h : WeAt w0 n b off c l v rows W) (hb : Below W.heap.size W W') : WeAt w0 n b off c l v rows W' :=
  ⟨h.box.next hb, own_next h.row hb, h.b.trans (hb.mono h.b.size)⟩
theorem WeAt.grew {w0 W W' : World} {n b off c l g5 cap : Nat} {v z : Value} {rows : List Value} (h : WeAt w0 n b off c l v rows W) (hg : Grew (w0.heap.size + 1) 9 1 W W' v g5 cap (rows.length + 1) (rows ++ [z])) :
    WeAt w0 n b off c l (.slice (some ⟨g5, 0, none⟩) (rows.length + 1) cap) (rows ++ [z]) W' := by
  have hn : ∀ j, j < w0.heap.size + 1 → some j ≠ v.ownBlock := fun j hj => own_far h.row hj
  exact ⟨h.box.kept hg.grow (hn _ (by omega)), by have := hg.row; rw [List.length_append, List.length_singleton]; exact this, h.b.grown hg.grow h.b.size (fun j hj => by have := (ownBlock_ge h.row hj).1; omega)⟩

set_option maxRecDepth 100000 in
set_option maxHeartbeats 2000000 in
theorem weave_any (n b off c b2 off2 c2 : Nat) (hs xs : List Nat) (w : World) (hv : TAt w b off n hs) (hx : NatsAt w b2 off2 xs) (hxb : b2 < w.heap.size) (hl : xs.length ≤ 60) (hlt : ∀ i, nthN xs i < 16777216) :
    Calls Try.prog 119 #[.agg #[.int .i64 (n : Int), .slice (some ⟨b, off, none⟩) hs.length c], .slice (some ⟨b2, off2, none⟩) xs.length c2] w fun e w' =>
      ∃ v, e = .returned v ∧ w'.ownsRow w.heap.size 9 1 v xs.length (clothV hs xs xs.length) ∧ Below w.heap.size w w' := by
  have l1 := hv.l1
  have n1 := hv.n1
  have hW0 : WeAt w n b off c hs.length (.slice none 0 0) (clothV hs xs 0) (w.alloc (.cells #[.int .i64 (n : Int), .slice (some ⟨b, off, none⟩) hs.length c] 159)) :=
    ⟨BoxAt.new _ _ _, World.ownsRow_nil _ _ _ _, (Below.refl _ _).alloc (Nat.le_refl _) _⟩
  have HW0 := Lib.hid hW0
  have HV := Lib.hid hv
  have hmk := fun r W => run_make_bytes hs r (by omega) W
  clear hv hW0
  go_enter Try.func119, Try.ntmps119
  go_wp2_with fail
  go_loopw [5, 12] (fun v i wr => ∃ k : Nat, k ≤ xs.length ∧ i = .int .i64 k ∧ WeAt w n b off c hs.length v (clothV hs xs k) wr) (fun _ i _ => xs.length - (intOf i).toNat)
  case atStart => exact ⟨0, Nat.zero_le _, rfl, HW0.out⟩
  case round =>
    obtain ⟨k, hk, rfl, hT⟩ := hrel
    clear HW0
    obtain ⟨rows, hrw⟩ : ∃ rows, clothV hs xs k = rows := ⟨_, rfl⟩
    have Hrl := Lib.hid (show rows.length = k by rw [← hrw]; exact clothV_len _ _ _)
    have hsc := clothV_succ hs xs k
    rw [hrw] at hT hsc
    have Hrw := Lib.hid hrw
    clear hrw
    by_cases hlk : k < xs.length
    · have hc := (hx.below hT.b hxb) k hlk
      have a1 : wr.cell? ⟨w.heap.size, 1, none⟩ = some (.slice (some ⟨b, off, none⟩) hs.length c) := hT.box.cell' 1 rfl
      obtain ⟨r, hr⟩ : ∃ r, nthN xs k = r := ⟨_, rfl⟩
      have hr2 := hlt k
      rw [hr] at hc hsc hr2
      have hmr := hmk r wr
      have hwz : w.heap.size < wr.heap.size := hT.box.lt
      have Hsc := Lib.hid hsc
      have HT := Lib.hid hT
      have HVr := Lib.hid (HV.out.next hT.b)
      clear hT hr hsc hmk
      go_wp2_with fail
      obtain ⟨R, hR⟩ : ∃ R, wr.heap.size = R := ⟨_, rfl⟩
      have HR := Lib.hid hR
      have hI0 : BoxAt (wr.alloc (.cells (byteRow hs r 0) 5)) R (byteRow hs r 0) 5 ∧ Below R wr (wr.alloc (.cells (byteRow hs r 0) 5)) := by
        rw [← hR]; exact ⟨BoxAt.new _ _ _, (Below.refl _ _).alloc (Nat.le_refl _) _⟩
      have HI0 := Lib.hid hI0
      rw [hR] at hwz ⊢
      clear hI0 hR
      go_loopw [23] (fun i wz => ∃ q : Nat, q ≤ hs.length ∧ i = .int .i64 q ∧ BoxAt wz R (byteRow hs r q) 5 ∧ Below R wr wz) (fun i _ => hs.length - (intOf i).toNat)
      case atStart => exact ⟨0, Nat.zero_le _, rfl, HI0.out⟩
      case round =>
        obtain ⟨q, hq, rfl, hB, hbz⟩ := hrel
        clear HI0 hc a1
        have hbz' := hbz
        rw [← HR.out] at hbz'
        have hTz := HT.out.next hbz'
        have a1 := hTz.box.cell' (v := .slice (some ⟨b, off, none⟩) hs.length c) 1 rfl
        have HTz := Lib.hid hTz
        have HVz := Lib.hid (HVr.out.next hbz')
        have hwz2 := hTz.box.lt
        clear hbz' hTz
        by_cases hqs : q < hs.length
        · have hk1 := HVz.out.at' q hqs
          have hk2 := HVz.out.hk q hqs
          have hfz := hB.frozen q
          have hRz := hB.lt
          have hz0 := hB.cell' q (by rw [byteRow_get _ _ _ _ hqs, if_neg (Nat.lt_irrefl q)])
          obtain ⟨h, hh⟩ : ∃ h, nthN hs q = h := ⟨_, rfl⟩
          rw [hh] at hk1 hk2
          have hsb := shr_bit r h (by omega)
          have hbl := (hbz.setCell (p := ⟨R, q, none⟩) (Nat.le_refl _) (.int .u8 46))
          have hs1 := hB.set q (.int .u8 46)
          have hs2 := hs1.set q (.int .u8 120)
          have HB := Lib.hid hbl
          have hwR : w.heap.size < R := by rw [← HR.out]; exact HT.out.box.lt
          have hbR : b < R := by have := HV.out.lt; omega
          have hbR2 : ¬ b = R := by omega
          cases hbt : bitN r h with
          | true =>
            rw [hbt] at hsb
            have hcl : clothB hs r q = 120 := by unfold clothB; rw [hh, hbt]; rfl
            have hst := byteRow_set2 hs r q (.int .u8 46) hqs
            rw [hcl] at hst
            rw [hst] at hs2
            have HS := Lib.hid hs2
            clear hs1 hs2 hst hcl hbt hbl hh
            go_wp2_with fail
            go_roundw
            case rel => exact ⟨q + 1, by omega, by go_num, HS.out, HB.out.setCell (Nat.le_refl _) _⟩
            case measure => simp [intOf]; omega
          | false =>
            rw [hbt] at hsb
            have hcl : clothB hs r q = 46 := by unfold clothB; rw [hh, hbt]; rfl
            have hst := byteRow_set hs r q hqs
            rw [hcl] at hst
            rw [hst] at hs1
            have HS := Lib.hid hs1
            clear hs1 hs2 hst hcl hbt hbl hh
            go_wp2_with fail
            go_roundw
            case rel => exact ⟨q + 1, by omega, by go_num, HS.out, HB.out⟩
            case measure => simp [intOf]; omega
        · obtain rfl : q = hs.length := by omega
          have hcv := run_pick hs r R _ hB
          clear hwz2 HVz hB hbz
          go_wp2_with (at_builtin; refine Shut.out ?_)
          unfold Shut
          refine app_one elemStr rfl _ _ rfl (w.heap.size + 1) u5 rows.length rows #[.string (pickS hs r)] rfl HTz.out.row rfl rfl (by simp [Value.oneCell']) (by have := Hrl.out; omega) (by decide) (by have := HTz.out.box.lt; omega) ?_
          intro g5 cap w5 hg
          have HT5 := Lib.hid (HTz.out.grew hg)
          clear hg
          go_wp2_with fail
          go_roundw
          case rel => exact ⟨k + 1, by omega, by go_num, by rw [Hsc.out]; exact HT5.out⟩
          case measure => simp [intOf]; omega
    · obtain rfl : k = xs.length := by omega
      have HT := Lib.hid hT
      clear hT hsc
      go_wp2_with fail
      go_ret
      refine ⟨u5, rfl, ?_, HT.out.b⟩
      have h := HT.out.row
      rw [Hrl.out] at h
      rw [Hrw.out]
      exact own_base h (by omega)
end Go.Proofs.Ytdmgffoikebgkaa
namespace Go.Proofs.Ytdmgffoikebgkaa
open Go.RowKit Go.Shelf
set_option maxHeartbeats 1000000 in
theorem tieWeave_ok (n b off c b2 off2 c2 : Nat) (hs xs : List Nat) (w : World) (hv : TAt w b off n hs) (hx : VAt w b2 off2 c2 n xs) :
    Calls Try.prog 38 #[.agg #[.int .i64 (n : Int), .slice (some ⟨b, off, none⟩) hs.length c], .agg #[.int .i64 (n : Int), .slice (some ⟨b2, off2, none⟩) xs.length c2]] w fun e w' =>
      ∃ v, e = .returned (.tuple #[v, .int .i64 0]) ∧ w'.ownsRow w.heap.size 9 1 v xs.length (clothV hs xs xs.length) ∧ Below w.heap.size w w' := by
  have hb1 : Below w.heap.size w ((w.alloc (.cells #[.int .i64 (n : Int), .slice (some ⟨b, off, none⟩) hs.length c] 26)).alloc (.cells #[.int .i64 (n : Int), .slice (some ⟨b2, off2, none⟩) xs.length c2] 37)) := ((Below.refl _ _).alloc (Nat.le_refl _) _).alloc (by simp) _
  have HA := Lib.hid (checkDesign_ok n b off c b2 off2 c2 hs xs _ (hv.next hb1) (hx.below hb1))
  have HB := Lib.hid (show BoxAt _ _ _ _ from BoxAt.below (BoxAt.new w #[.int .i64 (n : Int), .slice (some ⟨b, off, none⟩) hs.length c] 26) ((Below.refl (w.heap.size + 1) _).alloc (by simp) (.cells #[.int .i64 (n : Int), .slice (some ⟨b2, off2, none⟩) xs.length c2] 37)) (by omega))
  have k2 := BoxAt.new (w.alloc (.cells #[.int .i64 (n : Int), .slice (some ⟨b, off, none⟩) hs.length c] 26)) #[.int .i64 (n : Int), .slice (some ⟨b2, off2, none⟩) xs.length c2] 37
  rw [World.size_alloc] at k2
  have HB2 := Lib.hid k2
  have Hb1 := Lib.hid hb1
  have HV := Lib.hid hv
  have HX := Lib.hid hx
  have hl1 := hx.ok.l1
  clear hb1 hv hx k2
  go_enter Try.func38, Try.ntmps38
  go_wp2_with fail
  refine HA.out.mono ?_
  rintro e w1 ⟨rfl, hb⟩
  have hbb := Hb1.out.trans (hb.mono (by simp; omega))
  have hk1 := HB.out.next hb
  have hk2 := HB2.out.next hb
  have e0 : w1.cell? ⟨w.heap.size, 0, none⟩ = some (.int .i64 (n : Int)) := hk1.cell' 0 rfl
  have e1 : w1.cell? ⟨w.heap.size, 1, none⟩ = some (.slice (some ⟨b, off, none⟩) hs.length c) := hk1.cell' 1 rfl
  have f1 : w1.cell? ⟨w.heap.size + 1, 1, none⟩ = some (.slice (some ⟨b2, off2, none⟩) xs.length c2) := hk2.cell' 1 rfl
  have HW := Lib.hid (weave_any n b off c b2 off2 c2 hs xs w1 (HV.out.next hbb) (HX.out.below hbb).at' (HX.out.below hbb).lt hl1 HX.out.ok.lt')
  have Hbb := Lib.hid hbb
  clear hb hk1 hk2 hbb HB HB2 HA
  go_wp2_with fail
  refine HW.out.mono ?_
  rintro e w2 ⟨v, rfl, hr, hb⟩
  have Hr := Lib.hid hr
  have Hb := Lib.hid hb
  clear hr hb
  go_wp2_with fail
  go_ret2
  exact ⟨v, rfl, own_base Hr.out Hbb.out.size, Hbb.out.trans (Hb.out.mono Hbb.out.size)⟩
end Go.Proofs.Ytdmgffoikebgkaa
/- The statements' helpers: fresh copies of rows. -/
namespace Go.Proofs.Ytdmgffoikebgkaa
open Go.RowKit Go.Shelf
attribute [local go_sem] Oper.semAt_some

theorem nats_of_row {w : World} {B g n cap : Nat} {xs : List Nat} (h : w.ownsRow B 3 1 (.slice (some ⟨g, 0, none⟩) n cap) n (xs.map natV)) (_h0 : 0 < n) : NatsAt w g 0 xs ∧ g < w.heap.size ∧ B ≤ g := by
  have h1 := h
  obtain ⟨hl, ⟨h2, _⟩ | ⟨g', cap', cur, e, hg, hh, r⟩⟩ := h
  · simp at h2
  · simp at e
    obtain ⟨rfl, rfl⟩ := e
    refine ⟨fun i hi => ?_, (Array.getElem?_eq_some_iff.1 hh).1, hg⟩
    rw [Nat.zero_add, h1.cellAt i (by simp at hl; omega), nthN_get _ _ hi]
    simp [hi, natV]
theorem row_slice {w : World} {B n e size : Nat} {v : Value} {xs : List Value} (h : w.ownsRow B e size v n xs) (h0 : 0 < n) : ∃ g cap, v = .slice (some ⟨g, 0, none⟩) n cap := by
  obtain ⟨_, h2 | ⟨q, cap, cur, e, _⟩⟩ := h
  · have := h2.2; omega
  · exact ⟨q, cap, e⟩
/-- a whole row appended to an empty one -/
theorem app_copy {t e size bytes : Nat} (E : ElemT t e size bytes) {ops : Array Oper} {rest : List Oper} {o : Oper} {a : Act} {Q : Exit → Act → World → Prop} {W : World} (hgd : o.guard = none) (s x : Operand)
    (ho : o.op = .call { callee := .builtin .append, args := #[s, x], argTypes := #[t, t] }) (hs : a.eval s = .slice (some ⟨W.heap.size, 0, none⟩) 0 0)
    (ad : Addr) (m c : Nat) (news : List Value) (hx : a.eval x = .slice (some ad) m c) (hl : news.length = m * size) (h1 : ∀ u ∈ news, u.oneCell' = true) (hm : 0 < m) (hlen : m ≤ 1000000) (hby : bytes ≤ 1000)
    (hnews : ∀ j u, news[j]? = some u → (W.alloc (.cells #[] e)).cell? (ad.add j) = some u)
    (h : ∀ g cap W', W'.ownsRow W.heap.size e size (.slice (some ⟨g, 0, none⟩) m cap) m news → Below W.heap.size W W' → wpList Try.prog ops Q rest (a.put o.dst (.slice (some ⟨g, 0, none⟩) m cap)) W') :
    wpList Try.prog ops Q (o :: rest) a (W.alloc (.cells #[] e)) := by
  obtain ⟨i, z, hu, hi, hz0, hz1, hz2, hz3, hz4⟩ := E.ex
  have hown : (W.alloc (.cells #[] e)).ownsRow W.heap.size e size (.slice (some ⟨W.heap.size, 0, none⟩) 0 0) 0 [] :=
    ⟨by simp, .inr ⟨_, 0, #[], rfl, Nat.le_refl _, World.alloc_heap_new W _, Nat.le_refl _, by decide, by simp, by simp⟩⟩
  refine wpList_append_lies _ hgd s x t ho W.heap.size e i z size bytes hu hi hz0 hz1 hz2 hz3 hz4 _ 0 [] hs hown ad m c news hx hl hnews h1 hm (by unfold maxLen; omega) ?_ (by simp) (W.heap.size + 1) (by simp) ?_
  · exact Nat.le_trans (Nat.mul_le_mul (show 0 + m ≤ 1000000 by omega) hby) (by decide)
  · intro g cap w' hr hg _ _
    rw [Nat.zero_add] at hr ⊢
    rw [List.nil_append] at hr
    exact h g cap w' hr (((Below.refl _ _).alloc (Nat.le_refl _) _).grown hg (by simp) (fun j hj => by simp [Value.ownBlock] at hj; omega))
/-- a struct of a number and a row, with a row of its own -/
structure OwnRow (W : World) (B1 B2 n b off l c : Nat) (t : TypeId) : Prop where
  b1 : BoxAt W B1 #[.int .i64 (n : Int), .slice (some ⟨b, off, none⟩) l c] t
  b2 : BoxAt W B2 #[.int .i64 0, .slice none 0 0] t
theorem OwnRow.next {W W' : World} {B1 B2 n b off l c : Nat} {t : TypeId} (h : OwnRow W B1 B2 n b off l c t) (hb : Below W.heap.size W W') : OwnRow W' B1 B2 n b off l c t := ⟨h.b1.next hb, h.b2.next hb⟩
theorem OwnRow.drew {W : World} {B1 B2 n b off l c : Nat} {t : TypeId} (h : OwnRow W B1 B2 n b off l c t) : OwnRow W.drew B1 B2 n b off l c t := h.next (below_drew1 _)
theorem OwnRow.all {W : World} {B1 B2 n b off l c : Nat} {t : TypeId} (h : OwnRow W B1 B2 n b off l c t) :
    W.cell? ⟨B1, 0, none⟩ = some (.int .i64 (n : Int)) ∧ W.cell? ⟨B1, 1, none⟩ = some (.slice (some ⟨b, off, none⟩) l c) := ⟨h.b1.cell' 0 rfl, h.b1.cell' 1 rfl⟩
theorem OwnRow.new (w : World) (n b off l c : Nat) (t : TypeId) : OwnRow ((w.alloc (.cells #[.int .i64 (n : Int), .slice (some ⟨b, off, none⟩) l c] t)).alloc (.cells #[.int .i64 0, .slice none 0 0] t)) w.heap.size (w.heap.size + 1) n b off l c t := by
  have h2 := BoxAt.new (w.alloc (.cells #[.int .i64 (n : Int), .slice (some ⟨b, off, none⟩) l c] t)) #[.int .i64 0, .slice none 0 0] t
  rw [World.size_alloc] at h2
  exact ⟨(BoxAt.new _ _ _).below ((Below.refl (w.heap.size + 1) _).alloc (by simp) _) (by omega), h2⟩
end Go.Proofs.Ytdmgffoikebgkaa
/- A map from numbers to numbers that a call makes. -/
namespace Go.Proofs.Ytdmgffoikebgkaa
open Go.RowKit Go.Shelf
open Go.Maps (Keyed IsMap)

theorem Try.intKeyed : Keyed Try.prog 3 := Maps.int_keyed Try.underlying3
theorem Try.zero3 (w : World) : (zeroValue 3).run Try.prog w = .ok (.int .i64 0) w := by kernel_rfl
theorem wf_near {x : Int} (h : -1000000 ≤ x ∧ x ≤ 1000000) : (Lit.int .i64 x).wf = true := by
  have h1 : IntKind.i64.min ≤ x := Int.le_trans (show IntKind.i64.min ≤ -1000000 by decide) h.1
  have h2 : x ≤ IntKind.i64.max := Int.le_trans h.2 (by decide)
  simp [Lit.wf, h1]; omega
/-- block mb is a map with s entries that reads as g near 0 -/
def IMap (w : World) (mb k s : Nat) (g : Int → Option Nat) : Prop :=
  ∃ D : DataW Nat, w.ownsMap Try.prog 3 (plainElem Try.prog 3) mb k D ∧ Maps.size D = s ∧
    ∀ x : Int, -1000000 ≤ x ∧ x ≤ 1000000 → Maps.has D (.int .i64 x) = (g x).isSome ∧ D.atKey (.int .i64 x) (.lit (.int .i64 0)) = .lit (.int .i64 (((g x).getD 0 : Nat) : Int))
theorem IMap.made (w : World) : IMap (w.alloc (.map #[] 0)) w.heap.size 0 0 (fun _ => none) :=
  ⟨.map [], World.ownsMap_made w _ _ _, rfl, fun x _ => ⟨rfl, by rw [Maps.atKey_of_not_has]; rfl; rfl⟩⟩
theorem IMap.grown {w w' : World} {mb k s : Nat} {g : Int → Option Nat} {row : Option Nat} (h : IMap w mb k s g) (hg : w.grownBy w' row) (hne : some mb ≠ row) : IMap w' mb k s g := by
  obtain ⟨D, h1, h2⟩ := h
  exact ⟨D, h1.kept hg hne, h2⟩
theorem below_grown {w w' : World} (hb : Below w.heap.size w w') (row : Option Nat) : w.grownBy w' row := ⟨hb.os, hb.tape, hb.output, hb.size, fun i hi _ => hb.block i hi⟩
theorem IMap.next {w w' : World} {mb k s : Nat} {g : Int → Option Nat} (h : IMap w mb k s g) (hb : Below w.heap.size w w') : IMap w' mb k s g := h.grown (below_grown hb none) (by simp)
theorem IMap.lt {w : World} {mb k s : Nat} {g : Int → Option Nat} (h : IMap w mb k s g) : mb < w.heap.size := by
  obtain ⟨D, h1, _⟩ := h; exact h1.lt
theorem IMap.set {w : World} {mb k s : Nat} {g : Int → Option Nat} (h : IMap w mb k s g) (a : Addr) (v : Value) (ha : mb ≠ a.block) : IMap (w.setCell a v) mb k s g := by
  refine h.grown (row := some a.block) ⟨rfl, rfl, rfl, by simp, fun i _ hi => Below.heap_setCell w a v i (fun e => hi (by rw [e]))⟩ (by simpa using ha)
def setG (g : Int → Option Nat) (x : Int) (y : Nat) : Int → Option Nat := fun z => if z = x then some y else g z
theorem key_ne {x y : Int} (h : x ≠ y) : (Lit.int .i64 x) ≠ (Lit.int .i64 y) := by simpa using h
theorem IMap.store {w : World} {mb k s : Nat} {g : Int → Option Nat} (h : IMap w mb k s g) {ops : Array Oper} {rest : List Oper} {o : Oper} {a : Act} {Q : Exit → Act → World → Prop}
    (hg : o.guard = none) (m x v : Operand) (hop : o.op = Op.mapUpdate 178 m x v) (X : Int) (Y : Nat) (hm : a.eval m = .map (some mb)) (hx : a.eval x = .int .i64 X) (hv : a.eval v = .int .i64 (Y : Int))
    (hX : -1000000 ≤ X ∧ X ≤ 1000000) (hY : Y ≤ 100000) (hk : k ≤ 100000)
    (hK : ∀ w', IMap w' mb (k + 1) (if (g X).isSome then s else s + 1) (setG g X Y) → w.grownBy w' (some mb) → wpList Try.prog ops Q rest (a.put o.dst undef) w') : wpList Try.prog ops Q (o :: rest) a w := by
  obtain ⟨D, h1, h2, h3⟩ := h
  have hkey : keyOf Try.prog 3 (.int .i64 X) = some (.int .i64 X) := Maps.keyOf_int_mk Try.underlying3 (wf_near hX)
  refine wpList_mapUpdate_own w hg m x v 178 hop 3 3 Try.intKeyed Try.underlying178 _ mb k D hm h1 (by unfold maxLen; omega) _ _ _ hx hv hkey _ [] (plainElem_int Try.underlying3 (wf_near (by omega))) ?_
  intro w' hown hgrow
  refine hK w' ⟨_, hown, ?_, fun y hy => ?_⟩ hgrow
  · rw [Maps.size_put (h1.tidy Try.intKeyed), (h3 X hX).1, h2]
  · by_cases e : y = X
    · subst e
      refine ⟨?_, ?_⟩
      · rw [Maps.has_put_same h1.isMap (Try.intKeyed.key hkey)]; simp [setG]
      · rw [Maps.atKey_put_same h1.isMap (Try.intKeyed.key hkey)]; simp [setG]
    · refine ⟨?_, ?_⟩
      · rw [Maps.has_put_other (key_ne e), (h3 y hy).1]; simp [setG, e]
      · rw [Maps.atKey_put_other (key_ne e), (h3 y hy).2]; simp [setG, e]
/-- 'v, ok := m[x]' -/
theorem IMap.look {w : World} {mb k s : Nat} {g : Int → Option Nat} (h : IMap w mb k s g) {X : Int} (hX : -1000000 ≤ X ∧ X ≤ 1000000) :
    (Instr.lookup 178 (.map (some mb)) (.int .i64 X) true).run Try.prog w = .ok (.tuple #[.int .i64 (((g X).getD 0 : Nat) : Int), .bool (g X).isSome]) w := by
  obtain ⟨D, h1, h2, h3⟩ := h
  have hkey : keyOf Try.prog 3 (.int .i64 X) = some (.int .i64 X) := Maps.keyOf_int_mk Try.underlying3 (wf_near hX)
  obtain ⟨v, ps, hrun, hv⟩ := h1.look_ok Try.intKeyed Try.underlying178 (Try.zero3 w) (plainElem_int Try.underlying3 (by decide)) hkey
  obtain ⟨c, rfl, hc, _⟩ := plainElem_int_inv Try.underlying3 hv
  have e : D.atKey (.int .i64 X) (.lit (.int .i64 0)) = .lit (.int .i64 c) := congrArg Prod.fst hc
  rw [(h3 X hX).2] at e
  have e2 : (((g X).getD 0 : Nat) : Int) = c := by simpa using e
  rw [hrun, (h3 X hX).1, e2]
/-- 'm[x]' -/
theorem IMap.look1 {w : World} {mb k s : Nat} {g : Int → Option Nat} (h : IMap w mb k s g) {X : Int} (hX : -1000000 ≤ X ∧ X ≤ 1000000) :
    (Instr.lookup 178 (.map (some mb)) (.int .i64 X) false).run Try.prog w = .ok (.int .i64 (((g X).getD 0 : Nat) : Int)) w := by
  obtain ⟨D, h1, h2, h3⟩ := h
  have hkey : keyOf Try.prog 3 (.int .i64 X) = some (.int .i64 X) := Maps.keyOf_int_mk Try.underlying3 (wf_near hX)
  obtain ⟨c, hrun, hat, _⟩ := h1.lookup_int Try.intKeyed Try.underlying178 Try.underlying3 (Try.zero3 w) hkey
  rw [(h3 X hX).2] at hat
  have e2 : (((g X).getD 0 : Nat) : Int) = c := by simpa using hat
  rw [hrun, e2]
/-- 'len(m)' -/
theorem IMap.len {w : World} {mb k s : Nat} {g : Int → Option Nat} (h : IMap w mb k s g) (ty : TypeId) : (Builtin.len_ #[178] ty #[.map (some mb)]).run Try.prog w = .ok (.int .i64 (s : Int)) w := by
  obtain ⟨D, h1, h2, h3⟩ := h
  rw [h1.len Try.underlying178 ty, h2]
end Go.Proofs.Ytdmgffoikebgkaa
/- The cards that stay: the mathematics; with, isBetter, has; the places around a ring. -/
namespace Go.Proofs.Ytdmgffoikebgkaa
open Go.RowKit Go.Shelf
attribute [local go_sem] Oper.semAt_some

theorem below_drewN (W : World) (n q : Nat) : Below n W (W.drewN q) := ⟨rfl, rfl, rfl, Nat.le_refl _, fun _ _ => rfl⟩
end Go.Proofs.Ytdmgffoikebgkaa
/- The statements' helpers: a byte, rows alike, picks alike, so many ones. -/
namespace Go.Proofs.Ytdmgffoikebgkaa
open Go.RowKit Go.Shelf
attribute [local go_sem] Oper.semAt_some

def ByteRow (w : World) (p : Option Addr) (xs : List Nat) : Prop := 0 < xs.length → ∃ b off, p = some ⟨b, off, none⟩ ∧ b < w.heap.size ∧ ∀ i, i < xs.length → w.cell? ⟨b, off + i, none⟩ = some (.int .u8 (nthN xs i : Int)) ∧ nthN xs i < 256
theorem ByteRow.next {w w' : World} {p : Option Addr} {xs : List Nat} (h : ByteRow w p xs) (hb : Below w.heap.size w w') : ByteRow w' p xs := fun h0 => by
  obtain ⟨b, off, e, hl, hc⟩ := h h0
  exact ⟨b, off, e, Nat.lt_of_lt_of_le hl hb.size, fun i hi => ⟨(hb.cell (p := ⟨b, off + i, none⟩) hl).trans (hc i hi).1, (hc i hi).2⟩⟩
/-- the cells of a row of strings -/
def nthB (ss : List ByteArray) (i : Nat) : ByteArray := ss[i]?.getD ByteArray.empty
theorem nthB_get (ss : List ByteArray) (i : Nat) (h : i < ss.length) : nthB ss i = ss[i] := by simp [nthB, h]
def StrsAt (w : World) (b off : Nat) (ss : List ByteArray) : Prop := ∀ i, i < ss.length → w.cell? ⟨b, off + i, none⟩ = some (.string (nthB ss i))
theorem StrsAt.below {k : Nat} {w w' : World} {b off : Nat} {ss : List ByteArray} (h : StrsAt w b off ss) (hb : Below k w w') (hl : b < k) : StrsAt w' b off ss :=
  fun i hi => (hb.cell (p := ⟨b, off + i, none⟩) hl).trans (h i hi)
theorem strs_of_row {w : World} {B g n cap : Nat} {ss : List ByteArray} (h : w.ownsRow B 9 1 (.slice (some ⟨g, 0, none⟩) n cap) n (ss.map Value.string)) (_h0 : 0 < n) : StrsAt w g 0 ss ∧ g < w.heap.size ∧ B ≤ g := by
  have h1 := h
  obtain ⟨hl, ⟨h2, _⟩ | ⟨g', cap', cur, e, hg, hh, r⟩⟩ := h
  · simp at h2
  · simp at e
    obtain ⟨rfl, rfl⟩ := e
    refine ⟨fun i hi => ?_, (Array.getElem?_eq_some_iff.1 hh).1, hg⟩
    rw [Nat.zero_add, h1.cellAt i (by simp at hl; omega), nthB_get _ _ hi]
    simp [hi]
end Go.Proofs.Ytdmgffoikebgkaa
/- The statements' helpers: a loom's harness. -/
namespace Go.Proofs.Ytdmgffoikebgkaa
open Go.RowKit Go.Shelf
attribute [local go_sem] Oper.semAt_some

/-- 1, or as many as there are, but no more than m -/
def loomL (m l : Nat) : Nat := if l = 0 then 1 else min l m
def hsG (n : Nat) (ws : List Nat) (i : Nat) : Nat := if i < ws.length then nthN ws i % n else 0
def hsTo (n : Nat) (ws : List Nat) (k : Nat) : List Nat := (List.range k).map (hsG n ws)
theorem hsTo_succ (n : Nat) (ws : List Nat) (k : Nat) : hsTo n ws (k + 1) = hsTo n ws k ++ [hsG n ws k] := by simp [hsTo, List.range_succ]
theorem hsTo_len (n : Nat) (ws : List Nat) (k : Nat) : (hsTo n ws k).length = k := by simp [hsTo]
end Go.Proofs.Ytdmgffoikebgkaa
/- The statements' helpers: a loom's design. -/
namespace Go.Proofs.Ytdmgffoikebgkaa
open Go.RowKit Go.Shelf
attribute [local go_sem] Oper.semAt_some

def WordRow (w : World) (p : Option Addr) (xs : List Nat) : Prop := 0 < xs.length → ∃ b off, p = some ⟨b, off, none⟩ ∧ b < w.heap.size ∧ ∀ i, i < xs.length → w.cell? ⟨b, off + i, none⟩ = some (.int .u16 (nthN xs i : Int)) ∧ nthN xs i < 65536
theorem WordRow.next {w w' : World} {p : Option Addr} {xs : List Nat} (h : WordRow w p xs) (hb : Below w.heap.size w w') : WordRow w' p xs := fun h0 => by
  obtain ⟨b, off, e, hl, hc⟩ := h h0
  exact ⟨b, off, e, Nat.lt_of_lt_of_le hl hb.size, fun i hi => ⟨(hb.cell (p := ⟨b, off + i, none⟩) hl).trans (hc i hi).1, (hc i hi).2⟩⟩
def dsG (n : Nat) (ws : List Nat) (i : Nat) : Nat := (if i < ws.length then nthN ws i else 21) &&& (2 ^ n - 1)
def dsTo (n : Nat) (ws : List Nat) (k : Nat) : List Nat := (List.range k).map (dsG n ws)
theorem dsTo_succ (n : Nat) (ws : List Nat) (k : Nat) : dsTo n ws (k + 1) = dsTo n ws k ++ [dsG n ws k] := by simp [dsTo, List.range_succ]
theorem dsTo_len (n : Nat) (ws : List Nat) (k : Nat) : (dsTo n ws k).length = k := by simp [dsTo]
theorem and_mask (n x : Nat) (hn : n ≤ 24) (hx : x < 65536) : bits .and .i64 (x : Int) ((2 : Int) ^ n - 1) = ((x &&& (2 ^ n - 1) : Nat) : Int) := by
  have h1 : (2 : Nat) ^ n ≤ 16777216 := Nat.le_trans (Nat.pow_le_pow_right (by decide) hn) (by decide)
  have h2 : 0 < (2 : Nat) ^ n := Nat.pow_pos (by decide)
  have e : (2 : Int) ^ n - 1 = ((2 ^ n - 1 : Nat) : Int) := by
    have : (2 : Int) ^ n = ((2 ^ n : Nat) : Int) := (Int.natCast_pow 2 n).symm
    omega
  rw [e]
  exact i64_and_nat x (2 ^ n - 1) (by omega) (by omega)
end Go.Proofs.Ytdmgffoikebgkaa
/- The statements' helpers: a fresh copy of a chain. -/
namespace Go.Proofs.Ytdmgffoikebgkaa
open Go.RowKit Go.Shelf
attribute [local go_sem] Oper.semAt_some
theorem step_copy {t e size bytes : Nat} (E : ElemT t e size bytes) {ops : Array Oper} {o : Oper} {a : Act} {K : Act → World → Prop} {Q : Exit → Act → World → Prop} {F : Prop} {W : World} (hgd : o.guard = none) (s x : Operand)
    (ho : o.op = .call { callee := .builtin .append, args := #[s, x], argTypes := #[t, t] }) (hs : a.eval s = .slice (some ⟨W.heap.size, 0, none⟩) 0 0)
    (ad : Addr) (m c : Nat) (news : List Value) (hx : a.eval x = .slice (some ad) m c) (hl : news.length = m * size) (h1 : ∀ u ∈ news, u.oneCell' = true) (hm : 0 < m) (hlen : m ≤ 1000000) (hby : bytes ≤ 1000)
    (hnews : ∀ j u, news[j]? = some u → (W.alloc (.cells #[] e)).cell? (ad.add j) = some u)
    (h : ∀ g cap W', W'.ownsRow W.heap.size e size (.slice (some ⟨g, 0, none⟩) m cap) m news → Below W.heap.size W W' → K (a.put o.dst (.slice (some ⟨g, 0, none⟩) m cap)) W') :
    if Region.wanted o (yielded ops a.tmps) = true then Oper.wp Try.prog o a (W.alloc (.cells #[] e)).drew K Q else F := by
  obtain ⟨i, z, hu, hi, hz0, hz1, hz2, hz3, hz4⟩ := E.ex
  have hown : (W.alloc (.cells #[] e)).ownsRow W.heap.size e size (.slice (some ⟨W.heap.size, 0, none⟩) 0 0) 0 [] :=
    ⟨by simp, .inr ⟨_, 0, #[], rfl, Nat.le_refl _, World.alloc_heap_new W _, Nat.le_refl _, by decide, by simp, by simp⟩⟩
  refine step_append_lies _ hgd s x t ho W.heap.size e i z size bytes hu hi hz0 hz1 hz2 hz3 hz4 _ 0 [] hs hown.drew ad m c news hx hl hnews h1 hm (by unfold maxLen; omega) ?_ (by simp) (W.heap.size + 1) (by simp) ?_
  · exact Nat.le_trans (Nat.mul_le_mul (show 0 + m ≤ 1000000 by omega) hby) (by decide)
  · intro g cap w' hr hg _ _
    rw [Nat.zero_add] at hr ⊢
    rw [List.nil_append] at hr
    exact h g cap w' hr ((((Below.refl _ _).alloc (Nat.le_refl _) _).drew).grown hg (by simp) (fun j hj => by simp [Value.ownBlock] at hj; omega))
end Go.Proofs.Ytdmgffoikebgkaa
