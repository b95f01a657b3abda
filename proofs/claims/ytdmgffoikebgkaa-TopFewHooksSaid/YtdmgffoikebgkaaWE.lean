/- keep: the closure that collects floats. -/
import Derived.Test.YtdmgffoikebgkaaWC
import Derived.Test.YtdmgffoikebgkaaWD
import Derived.Deep.AppendLies
import Derived.Maps.AppendAt
namespace Go.Proofs.Ytdmgffoikebgkaa
open Go.RowKit

/-- a float -/
structure Fl where
  pick : Nat
  hook : Nat
  length : Nat
  lifted : Bool
deriving DecidableEq, Repr
def Fl.cells (f : Fl) : List Value := [.int .i64 (f.pick : Int), .int .i64 (f.hook : Int), .int .i64 (f.length : Int), .bool f.lifted]
def flCells (fs : List Fl) : List Value := fs.flatMap Fl.cells
theorem flCells_snoc (fs : List Fl) (f : Fl) : flCells (fs ++ [f]) = flCells fs ++ f.cells := by simp [flCells]
theorem flCells_len (fs : List Fl) : (flCells fs).length = fs.length * 4 := by
  induction fs with
  | nil => rfl
  | cons f fs ih => simp only [flCells, List.flatMap_cons, List.length_append, List.length_cons] at *; simp [Fl.cells] at *; omega

/-- what one write into a box and its row leaves as it was -/
structure Wr (w w' : World) (bl : Nat) (v : Value) : Prop where
  os : w'.os = w.os
  tape : w'.tape = w.tape
  output : w'.output = w.output
  size : w.heap.size ≤ w'.heap.size
  block : ∀ k, k < w.heap.size → k ≠ bl → some k ≠ v.ownBlock → w'.heap[k]? = w.heap[k]?
/-- a list of floats in a box -/
structure FlBox (w : World) (n0 bl : Nat) (v : Value) (fs : List Fl) : Prop where
  box : Boxed w bl 52 v
  row : w.ownsRow n0 149 4 v fs.length (flCells fs)
/-- where its row lies, behind a step -/
def RowAt (w : World) (v v' : Value) : Prop := v'.ownBlock = v.ownBlock ∨ ∃ g, v'.ownBlock = some g ∧ w.heap.size ≤ g
def KeepPost (n0 bl : Nat) (w : World) (v : Value) (fs : List Fl) (e : Ending) (w' : World) : Prop :=
  e = .returned (.tuple #[]) ∧ ∃ v', FlBox w' n0 bl v' fs ∧ RowAt w v v' ∧ Wr w w' bl v

theorem Try.info149 : (Try.prog.info? 149).map (fun i => (i.zero, i.size, i.bytes)) = some (some (.agg #[.int .i64 0, .int .i64 0, .int .i64 0, .bool false]), 4, 32) := by kernel_rfl

theorem ownBlock_ge {w : World} {n0 e size n : Nat} {v : Value} {xs : List Value} (h : w.ownsRow n0 e size v n xs) {g : Nat} (hg : v.ownBlock = some g) : n0 ≤ g ∧ g < w.heap.size := by
  obtain ⟨_, ⟨rfl, _⟩ | ⟨g', cap, cur, rfl, hb, hh, _⟩⟩ := h
  · simp [Value.ownBlock] at hg
  · simp [Value.ownBlock] at hg; subst hg
    exact ⟨hb, (Array.getElem?_eq_some_iff.1 hh).1⟩
theorem Wr.below {w w' : World} {bl n0 e size n : Nat} {v : Value} {xs : List Value} (h : Wr w w' bl v) (hr : w.ownsRow n0 e size v n xs) (hb : n0 ≤ bl) (hn : n0 ≤ w.heap.size) : Below n0 w w' :=
  ⟨h.os, h.tape, h.output, h.size, fun k hk => h.block k (by omega) (by omega) (fun e => by have := ownBlock_ge hr e.symm; omega)⟩
theorem Wr.cell {w w' : World} {bl : Nat} {v : Value} (h : Wr w w' bl v) {p : Addr} (h1 : p.block < w.heap.size) (h2 : p.block ≠ bl) (h3 : some p.block ≠ v.ownBlock) : w'.cell? p = w.cell? p :=
  World.cell?_of_block (w := w) (h.block _ h1 h2 h3)
theorem FlBox.below {w w' : World} {n0 bl : Nat} {v : Value} {fs : List Fl} (h : FlBox w n0 bl v fs) (hb : Below w.heap.size w w') : FlBox w' n0 bl v fs := by
  refine ⟨(hb.block _ h.box.lt).trans h.box, ?_⟩
  obtain ⟨hl, h2⟩ := h.row
  refine ⟨hl, ?_⟩
  rcases h2 with h2 | ⟨g, cap, cur, e, hg, hh, r⟩
  · exact .inl h2
  · exact .inr ⟨g, cap, cur, e, hg, (hb.block _ (Array.getElem?_eq_some_iff.1 hh).1).trans hh, r⟩
theorem FlBox.calm {w w' : World} {n n0 bl : Nat} {v : Value} {fs : List Fl} (h : FlBox w n0 bl v fs) (hb : Calm n w w') : FlBox w' n0 bl v fs := by
  refine ⟨hb.same _ _ h.box (.inl rfl), ?_⟩
  obtain ⟨hl, h2⟩ := h.row
  refine ⟨hl, ?_⟩
  rcases h2 with h2 | ⟨g, cap, cur, e, hg, hh, r⟩
  · exact .inl h2
  · exact .inr ⟨g, cap, cur, e, hg, hb.same _ _ hh (.inl rfl), r⟩

theorem FlBox.row_alloc {w : World} {n0 bl : Nat} {v : Value} {fs : List Fl} (h : FlBox w n0 bl v fs) (o : Obj) : (w.alloc o).ownsRow n0 149 4 v fs.length (flCells fs) :=
  (h.below ((Below.refl _ _).alloc (Nat.le_refl _) o)).row
set_option maxHeartbeats 1000000 in
theorem keep_no (pk hk bw bb bl n0 : Nat) (r : Run) (m : Int) (v : Value) (fs : List Fl) (w : World)
    (hw : w.cell? ⟨bw, 0, none⟩ = some (.func (.func 193) #[] #[.pointer (some ⟨bb, 0, none⟩)])) (hb : w.cell? ⟨bb, 0, none⟩ = some (.int .i64 m))
    (hv : FlBox w n0 bl v fs) (hm : ¬ m < (r.length : Int)) :
    Calls Try.prog 190 #[.int .i64 (pk : Int), .int .i64 (hk : Int), r.enc, .pointer (some ⟨bw, 0, none⟩), .pointer (some ⟨bl, 0, none⟩)] w (KeepPost n0 bl w v fs) := by
  have hbl : bb < w.heap.size := World.block_lt_of_cell? w ⟨bb, 0, none⟩ hb
  have hb1 : (w.alloc (.cells #[.int .i64 (r.first : Int), .int .i64 (r.length : Int), .bool r.lifted] 241)).cell? ⟨bb, 0, none⟩ = some (.int .i64 m) := (((Below.refl w.heap.size w).alloc (Nat.le_refl _) _).cell (p := ⟨bb, 0, none⟩) hbl).trans hb
  have hwl : bw < w.heap.size := World.block_lt_of_cell? w ⟨bw, 0, none⟩ hw
  have hw1 : (w.alloc (.cells #[.int .i64 (r.first : Int), .int .i64 (r.length : Int), .bool r.lifted] 241)).cell? ⟨bw, 0, none⟩ = some (.func (.func 193) #[] #[.pointer (some ⟨bb, 0, none⟩)]) := (((Below.refl w.heap.size w).alloc (Nat.le_refl _) _).cell (p := ⟨bw, 0, none⟩) hwl).trans hw
  have hmd : decide (m < (r.length : Int)) = false := by simpa using hm
  unfold Run.enc
  go_enter Try.func190, Try.ntmps190
  go_wp2_with (go_at_call 193; refine (longerThan1_any _ _ _ _ hb1).mono ?_; rintro e w' ⟨rfl, rfl⟩)
  go_end0
  exact ⟨rfl, v, hv.below ((Below.refl _ _).alloc (Nat.le_refl _) _), .inl rfl, ⟨rfl, rfl, rfl, by simp, fun k hk _ _ => Below.heap_alloc _ _ _ hk⟩⟩

set_option maxRecDepth 100000 in
set_option maxHeartbeats 1000000 in
theorem keep_yes (pk hk bw bb bl n0 : Nat) (r : Run) (m : Int) (v : Value) (fs : List Fl) (w : World)
    (hw : w.cell? ⟨bw, 0, none⟩ = some (.func (.func 193) #[] #[.pointer (some ⟨bb, 0, none⟩)])) (hb : w.cell? ⟨bb, 0, none⟩ = some (.int .i64 m))
    (hv : FlBox w n0 bl v fs) (hn : n0 ≤ bl) (hlen : fs.length ≤ 100000) (hm : m < (r.length : Int)) :
    Calls Try.prog 190 #[.int .i64 (pk : Int), .int .i64 (hk : Int), r.enc, .pointer (some ⟨bw, 0, none⟩), .pointer (some ⟨bl, 0, none⟩)] w (KeepPost n0 bl w v (fs ++ [⟨pk, hk, r.length, r.lifted⟩])) := by
  obtain ⟨i0, hi, hz0, hz1, hz2⟩ := info_parts Try.info149
  have hbl : bb < w.heap.size := World.block_lt_of_cell? w ⟨bb, 0, none⟩ hb
  have hlt := hv.box.lt
  have hb1 : (w.alloc (.cells #[.int .i64 (r.first : Int), .int .i64 (r.length : Int), .bool r.lifted] 241)).cell? ⟨bb, 0, none⟩ = some (.int .i64 m) := (((Below.refl w.heap.size w).alloc (Nat.le_refl _) _).cell (p := ⟨bb, 0, none⟩) hbl).trans hb
  have hv1 := hv.below ((Below.refl w.heap.size w).alloc (Nat.le_refl _) (.cells #[.int .i64 (r.first : Int), .int .i64 (r.length : Int), .bool r.lifted] 241))
  have hc1 := hv1.box.cell
  have hc := hv.box.cell
  have hwl : bw < w.heap.size := World.block_lt_of_cell? w ⟨bw, 0, none⟩ hw
  have hw1 : (w.alloc (.cells #[.int .i64 (r.first : Int), .int .i64 (r.length : Int), .bool r.lifted] 241)).cell? ⟨bw, 0, none⟩ = some (.func (.func 193) #[] #[.pointer (some ⟨bb, 0, none⟩)]) := (((Below.refl w.heap.size w).alloc (Nat.le_refl _) _).cell (p := ⟨bw, 0, none⟩) hwl).trans hw
  have hmd : decide (m < (r.length : Int)) = true := by simpa using hm
  unfold Run.enc
  go_enter Try.func190, Try.ntmps190
  go_wp2_with (first | (go_at_call 193; refine (longerThan1_any _ _ _ _ hb1).mono ?_; rintro e w' ⟨rfl, rfl⟩) | (at_builtin; refine Shut.out ?_))
  unfold Shut
  refine wpList_append_lies _ rfl _ _ 52 rfl n0 149 i0 (.agg #[.int .i64 0, .int .i64 0, .int .i64 0, .bool false]) 4 32 Try.underlying52 hi hz0 hz1 hz2 rfl (by decide) v fs.length (flCells fs) rfl (hv1.row_alloc _) ⟨w.heap.size + 1, 0, none⟩ 1 1 [.int .i64 (pk : Int), .int .i64 (hk : Int), .int .i64 (r.length : Int), .bool r.lifted] rfl rfl ?c1 ?c2 (by decide) ?c3 ?c4 ?c5 (w.heap.size + 2) ?c6 ?_
  case c1 => exact World.news_of_block (cs := #[.int .i64 (pk : Int), .int .i64 (hk : Int), .int .i64 (r.length : Int), .bool r.lifted]) (t := 149) (fr := (0, 0)) (by have := World.alloc_heap_new (w.alloc (.cells #[.int .i64 (r.first : Int), .int .i64 (r.length : Int), .bool r.lifted] 241)) (.cells #[.int .i64 (pk : Int), .int .i64 (hk : Int), .int .i64 (r.length : Int), .bool r.lifted] 149); rwa [World.size_alloc] at this)
  case c2 => simp [Value.oneCell']
  case c3 => unfold maxLen; omega
  case c4 => omega
  case c5 => simp; omega
  case c6 => simp
  intro g cap w1 hown1 hgrow hat hglt
  have hnr := hv.box.not_row (by decide) hv.row
  have hB1 : Boxed w1 bl 52 v := ((hv.box.alloc _).alloc _).kept hgrow hnr
  have hd1 := hB1.cell
  have hd2 := hB1.frozen
  have hsz : w.heap.size + 2 ≤ w1.heap.size := by have := hgrow.size; simpa using this
  have hgr : ∀ k, k < w.heap.size → some k ≠ v.ownBlock → w1.heap[k]? = w.heap[k]? := fun k hk h => (hgrow.block k (by simp; omega) h).trans ((Below.heap_alloc _ _ _ (by simp; omega)).trans (Below.heap_alloc _ _ _ hk))
  have hos : w1.os = w.os := hgrow.os
  have htp : w1.tape = w.tape := hgrow.tape
  have hou : w1.output = w.output := hgrow.output
  have HG := Lib.hid hgr
  have HH := Lib.hid hat
  have Ho := Lib.hid hos
  have Ht := Lib.hid htp
  have Hu := Lib.hid hou
  have Hr := Lib.hid hown1
  have Hg := Lib.hid hgrow
  clear hgr hat hos htp hou hown1 hgrow
  go_wp2
  go_end0
  have hne : bl ≠ g := by
    rintro rfl
    rcases HH.out with h | h
    · exact hnr h.symm
    · omega
  refine ⟨rfl, .slice (some ⟨g, 0, none⟩) (fs.length + 1) cap, ⟨hB1.set _, ?_⟩, ?_, ?_⟩
  · have h := Hr.out
    rw [List.length_append, List.length_singleton, flCells_snoc]
    obtain ⟨hl, h2⟩ := h
    refine ⟨hl, ?_⟩
    rcases h2 with ⟨h2, _⟩ | ⟨g', cap', cur, e, hg, hh, r'⟩
    · simp at h2
    · simp at e
      obtain ⟨rfl, rfl⟩ := e
      exact .inr ⟨g, cap, cur, rfl, hg, (Below.heap_setCell _ _ _ _ (Ne.symm hne)).trans hh, r'⟩
  · rcases HH.out with h | h
    · exact .inl h.symm
    · exact .inr ⟨g, rfl, by omega⟩
  · refine ⟨?_, ?_, ?_, ?_, fun k hk h1 h2 => (Below.heap_setCell _ _ _ _ h1).trans (HG.out k hk h2)⟩
    · exact Ho.out
    · exact Ht.out
    · exact Hu.out
    · have := (Below.refl 0 w1).setCell (p := ⟨bl, 0, none⟩) (Nat.zero_le _) (.slice (some ⟨g, 0, none⟩) (fs.length + 1) cap)
      have := this.size
      omega
end Go.Proofs.Ytdmgffoikebgkaa
