/- floats: all floats of a design along picks, or along hooks. · floats along hooks. -/
import Derived.Test.YtdmgffoikebgkaaWE
import Derived.Laws.EntriesVeiled
namespace Go.Proofs.Ytdmgffoikebgkaa
section
open Go.RowKit Go.Shelf
attribute [local go_sem] Oper.semAt_some

/-- the floats of one ring -/
def ringFl (mk : Run → Fl) (m : Int) (rs : List Run) : List Fl := (rs.filter fun r => decide (m < (r.length : Int))).map mk
def flW (n : Nat) (xs : List Nat) (m : Int) (i : Nat) : List Fl := ringFl (fun r => ⟨i, r.first, r.length, r.lifted⟩) m (runsOf n (nthN xs i))
def flH (xs : List Nat) (m : Int) (h : Nat) : List Fl := ringFl (fun r => ⟨r.first, h, r.length, r.lifted⟩) m (runsOf xs.length (colTo xs h xs.length))
/-- ring after ring -/
def upTo (f : Nat → List Fl) (k : Nat) : List Fl := (List.range k).flatMap f
theorem upTo_succ (f : Nat → List Fl) (k : Nat) : upTo f (k + 1) = upTo f k ++ f k := by simp [upTo, List.range_succ]
theorem runsTo_len (s p : Nat) : ∀ k, (runsTo s p k).length ≤ k := by
  intro k
  unfold runsTo
  rw [List.length_map]
  exact Nat.le_trans (List.length_filter_le _ _) (by simp)
theorem runsOf_len (s p : Nat) (_hs : 0 < s) (h : s ≤ 60) : (runsOf s p).length ≤ 60 := by
  unfold runsOf
  split
  · simp
  · exact Nat.le_trans (runsTo_len s p s) h
theorem ringFl_len (mk : Run → Fl) (m : Int) (rs : List Run) : (ringFl mk m rs).length ≤ rs.length := by
  unfold ringFl; rw [List.length_map]; exact List.length_filter_le _ _
theorem upTo_len (f : Nat → List Fl) (hf : ∀ i, (f i).length ≤ 60) : ∀ k, (upTo f k).length ≤ 60 * k
  | 0 => by simp [upTo]
  | k + 1 => by
    rw [upTo_succ, List.length_append]
    have := upTo_len f hf k
    have := hf k
    omega
theorem ringFl_yes (mk : Run → Fl) (m : Int) (rs : List Run) (r : Run) (h : m < (r.length : Int)) : ringFl mk m (rs ++ [r]) = ringFl mk m rs ++ [mk r] := by
  simp [ringFl, List.filter_append, h]
theorem ringFl_no (mk : Run → Fl) (m : Int) (rs : List Run) (r : Run) (h : ¬ m < (r.length : Int)) : ringFl mk m (rs ++ [r]) = ringFl mk m rs := by
  simp [ringFl, List.filter_append, h]
theorem ringFl_step (mk : Run → Fl) (m : Int) (rs : List Run) (r : Run) : ringFl mk m (rs ++ [r]) = ringFl mk m rs ++ (if m < (r.length : Int) then [mk r] else []) := by
  by_cases h : m < (r.length : Int)
  · rw [ringFl_yes mk m rs r h, if_pos h]
  · rw [ringFl_no mk m rs r h, if_neg h, List.append_nil]
theorem keep_any (pk hk bw bb bl n0 : Nat) (r : Run) (m : Int) (v : Value) (fs : List Fl) (w : World)
    (hw : w.cell? ⟨bw, 0, none⟩ = some (.func (.func 193) #[] #[.pointer (some ⟨bb, 0, none⟩)])) (hb : w.cell? ⟨bb, 0, none⟩ = some (.int .i64 m))
    (hv : FlBox w n0 bl v fs) (hn : n0 ≤ bl) (hlen : fs.length ≤ 100000) :
    Calls Try.prog 190 #[.int .i64 (pk : Int), .int .i64 (hk : Int), r.enc, .pointer (some ⟨bw, 0, none⟩), .pointer (some ⟨bl, 0, none⟩)] w (KeepPost n0 bl w v (fs ++ (if m < (r.length : Int) then [⟨pk, hk, r.length, r.lifted⟩] else []))) := by
  by_cases h : m < (r.length : Int)
  · rw [if_pos h]; exact keep_yes pk hk bw bb bl n0 r m v fs w hw hb hv hn hlen h
  · rw [if_neg h, List.append_nil]; exact keep_no pk hk bw bb bl n0 r m v fs w hw hb hv h
theorem prefix_len {α : Type} {a b : List α} (h : a <+: b) : a.length ≤ b.length := h.length_le

theorem Calm.mono {n n' : Nat} {A B : World} (h : Calm n A B) (hn : n' ≤ n) : Calm n' A B :=
  ⟨h.os, h.tape, h.output, h.size, fun k o hk ho => h.same k o hk (ho.imp id fun h => by omega)⟩
/-- the marks are open -/
def Open (ms : List Nat) (n0 : Nat) (W : World) : Prop := ms.Nodup ∧ ∀ D, D ∈ ms → n0 ≤ D ∧ W.heap[D]? = some (.deferred (some []))
theorem Open.lt {ms : List Nat} {n0 : Nat} {W : World} (h : Open ms n0 W) {D : Nat} (hD : D ∈ ms) : D < W.heap.size := (Array.getElem?_eq_some_iff.1 (h.2 D hD).2).1
theorem Open.calm {ms : List Nat} {n0 n : Nat} {W W' : World} (h : Open ms n0 W) (hc : Calm n W W') (hn : ∀ D, D ∈ ms → D < n) : Open ms n0 W' :=
  ⟨h.1, fun D hD => ⟨(h.2 D hD).1, hc.same _ _ (h.2 D hD).2 (.inr (hn D hD))⟩⟩
theorem Open.cons {ms : List Nat} {n0 D : Nat} {W : World} (h : Open ms n0 W) (hn : ∀ E, E ∈ ms → E < D) (h0 : n0 ≤ D) (hD : W.heap[D]? = some (.deferred (some []))) : Open (D :: ms) n0 W :=
  ⟨List.nodup_cons.2 ⟨fun hm => by have := hn D hm; omega, h.1⟩, fun E hE => by
    rcases List.mem_cons.1 hE with rfl | hE
    · exact ⟨h0, hD⟩
    · exact h.2 E hE⟩
theorem Open.wr {ms : List Nat} {n0 bl m : Nat} {W W' : World} {v : Value} {fs : List Fl} (h : Open ms n0 W) (hw : Wr W W' bl v) (hv : FlBox W m bl v fs) : Open ms n0 W' :=
  ⟨h.1, fun D hD => ⟨(h.2 D hD).1, by
    have hh := (h.2 D hD).2
    refine (hw.block D (h.lt hD) ?_ ?_).trans hh
    · rintro rfl; rw [hv.box] at hh; cases hh
    · intro e
      obtain ⟨_, ⟨rfl, _⟩ | ⟨g, cap, cur, rfl, _, hg, _⟩⟩ := hv.row
      · simp [Value.ownBlock] at e
      · simp [Value.ownBlock] at e; subst e; rw [hg] at hh; cases hh⟩⟩
theorem Wr.keepsFrom {bl m D : Nat} {W W' : World} {v : Value} {fs : List Fl} (hw : Wr W W' bl v) (hv : FlBox W m bl v fs) : KeepsFrom D W W' :=
  ⟨hw.size, fun k o _ hk ho => by
    refine (hw.block k (Array.getElem?_eq_some_iff.1 hk).1 ?_ ?_).trans hk
    · rintro rfl; rw [hv.box] at hk; cases hk; cases ho
    · intro e
      obtain ⟨_, ⟨rfl, _⟩ | ⟨g, cap, cur, rfl, _, hg, _⟩⟩ := hv.row
      · simp [Value.ownBlock] at e
      · simp [Value.ownBlock] at e; subst e; rw [hg] at hk; cases hk; cases ho⟩

/-- what 'floats' keeps in its boxes: the design, the condition, keep, and the list -/
structure FlAt (w0 : World) (n : Nat) (S : Value) (bb : Nat) (m : Int) (v : Value) (fs : List Fl) (W : World) : Prop where
  p0 : W.cell? ⟨w0.heap.size, 0, none⟩ = some (.int .i64 (n : Int))
  p1 : W.cell? ⟨w0.heap.size, 1, none⟩ = some S
  wa : W.cell? ⟨w0.heap.size + 1, 0, none⟩ = some (.func (.func 193) #[] #[.pointer (some ⟨bb, 0, none⟩)])
  kp : W.cell? ⟨w0.heap.size + 1 + 1 + 1, 0, none⟩ = some (.func (.func 190) #[] #[.pointer (some ⟨w0.heap.size + 1, 0, none⟩), .pointer (some ⟨w0.heap.size + 1 + 1, 0, none⟩)])
  bd : W.cell? ⟨bb, 0, none⟩ = some (.int .i64 m)
  box : FlBox W w0.heap.size (w0.heap.size + 1 + 1) v fs
  below : Below w0.heap.size w0 W
  bl : bb < w0.heap.size
theorem FlAt.lt {w0 : World} {n : Nat} {S : Value} {bb : Nat} {m : Int} {v : Value} {fs : List Fl} {W : World} (h : FlAt w0 n S bb m v fs W) : w0.heap.size + 3 < W.heap.size :=
  World.block_lt_of_cell? W ⟨w0.heap.size + 1 + 1 + 1, 0, none⟩ h.kp
theorem FlAt.calm {w0 : World} {n k : Nat} {S : Value} {bb : Nat} {m : Int} {v : Value} {fs : List Fl} {W W' : World} (h : FlAt w0 n S bb m v fs W) (hc : Calm k W W') (hk : w0.heap.size ≤ k) : FlAt w0 n S bb m v fs W' :=
  ⟨hc.cell h.p0, hc.cell h.p1, hc.cell h.wa, hc.cell h.kp, hc.cell h.bd, h.box.calm hc, (hc.mono hk).below h.below (Nat.le_refl _), h.bl⟩
theorem FlAt.wr {w0 : World} {n : Nat} {S : Value} {bb : Nat} {m : Int} {v v' : Value} {fs fs' : List Fl} {W W' : World} (h : FlAt w0 n S bb m v fs W) (hw : Wr W W' (w0.heap.size + 1 + 1) v)
    (hv : FlBox W' w0.heap.size (w0.heap.size + 1 + 1) v' fs') (hrow : ∀ g, v.ownBlock = some g → w0.heap.size + 3 < g) : FlAt w0 n S bb m v' fs' W' := by
  have hlt := h.lt
  have hbl := h.bl
  have hc : ∀ k j, k < w0.heap.size + 4 → k ≠ w0.heap.size + 1 + 1 → W'.cell? ⟨k, j, none⟩ = W.cell? ⟨k, j, none⟩ := fun k j hk hne =>
    hw.cell (p := ⟨k, j, none⟩) (by simp; omega) hne (fun e => by have := hrow k e.symm; omega)
  exact ⟨(hc _ _ (by omega) (by omega)).trans h.p0, (hc _ _ (by omega) (by omega)).trans h.p1, (hc _ _ (by omega) (by omega)).trans h.wa, (hc _ _ (by omega) (by omega)).trans h.kp, (hc _ _ (by omega) (by omega)).trans h.bd,
    hv, h.below.trans (hw.below h.box.row (by omega) (Nat.le_trans (by omega) h.below.size)), hbl⟩
/-- the row of the list lies behind the boxes, and not at a place that an iterator keeps -/
def RowFar (w0 : World) (D E : Nat) (v : Value) : Prop := ∀ g, v.ownBlock = some g → w0.heap.size + 3 < g ∧ g ≠ D + 2 ∧ g ≠ E
theorem RowFar.next {w0 W : World} {D E : Nat} {v v' : Value} (h : RowFar w0 D E v) (hr : RowAt W v v') (h1 : w0.heap.size + 3 < W.heap.size) (h2 : D + 2 < W.heap.size) (h3 : E < W.heap.size) : RowFar w0 D E v' := fun g hg => by
  rcases hr with e | ⟨g', e, hle⟩
  · exact h g (by rw [← e]; exact hg)
  · rw [e] at hg; cases hg; omega

set_option maxRecDepth 100000 in
set_option maxHeartbeats 2000000 in
theorem floatsW_any (n : Nat) (b off c bb : Nat) (m : Int) (xs : List Nat) (w : World) (hn : 1 ≤ n ∧ n ≤ 24) (hl : xs.length ≤ 60) (hb : b < w.heap.size) (hx : NatsAt w b off xs) (hv : ∀ i, nthN xs i < 16777216)
    (hbb : w.cell? ⟨bb, 0, none⟩ = some (.int .i64 m)) :
    Calls Try.prog 144 #[.agg #[.int .i64 (n : Int), .slice (some ⟨b, off, none⟩) xs.length c], .int .i64 1, .func (.func 193) #[] #[.pointer (some ⟨bb, 0, none⟩)]] w
      fun e w' => ∃ v, e = .returned v ∧ w'.ownsRow w.heap.size 149 4 v (upTo (flW n xs m) xs.length).length (flCells (upTo (flW n xs m) xs.length)) ∧ Below w.heap.size w w' := by
  obtain ⟨nf, _⟩ : ∃ nf : Nat, nf = nf := ⟨3, rfl⟩
  refine (callsIn_wide (n := nf)).1 ?_
  refine callsIn_of_wp_marks Try.func144 rfl trivial ?_ rfl
  simp only [Try.ntmps144, List.size_toArray, List.length_cons, List.length_nil, Nat.reduceAdd, Nat.reduceSub, Array.replicate_succ, Array.replicate_zero, List.push_toArray, List.append_toArray, List.nil_append, List.cons_append]
  gi_wp2
  refine wpIn_loop (fun a' W' => ∃ (k : Nat) (ms : List Nat) (v u9 u21 u22 u23 u24 u25 u26 u34 : Value), a' = { tmps := #[.agg #[.int .i64 (n : Int), .slice (some ⟨b, off, none⟩) xs.length c], .int .i64 1, .func (.func 193) #[] #[.pointer (some ⟨bb, 0, none⟩)], .pointer (some ⟨w.heap.size, 0, none⟩), undef, .pointer (some ⟨w.heap.size + 1, 0, none⟩), .slice none 0 0, .pointer (some ⟨w.heap.size + 1 + 1, 0, none⟩), .pointer (some ⟨w.heap.size + 1 + 1 + 1, 0, none⟩), u9, undef, undef, undef, .func (.func 190) #[] #[.pointer (some ⟨w.heap.size + 1, 0, none⟩), .pointer (some ⟨w.heap.size + 1 + 1, 0, none⟩)], .int .i64 1, .bool true, .pointer (some ⟨w.heap.size, 0, none⟩), .pointer (some ⟨w.heap.size, 1, none⟩), .slice (some ⟨b, off, none⟩) xs.length c, .int .i64 (xs.length : Int), .int .i64 (k : Int), u21, u22, u23, u24, u25, u26, undef, undef, undef, undef, undef, undef, undef, u34, undef, undef, undef, undef, undef, undef, undef, undef, undef, undef, undef, undef, undef, undef, undef, undef, undef, undef, undef, undef], defers := marks ms } ∧
      k ≤ xs.length ∧ FlAt w n (.slice (some ⟨b, off, none⟩) xs.length c) bb m v (upTo (flW n xs m) k) W' ∧ (∀ g, v.ownBlock = some g → w.heap.size + 3 < g) ∧ Open ms w.heap.size W')
    (fun a' _ => xs.length - (intOf (a'.tmps.getD 20 undef)).toNat) ?start ?round
  case start =>
    refine ⟨0, [], .slice none 0 0, _, _, _, _, _, _, _, _, rfl, Nat.zero_le _, ?_, fun g hg => by simp [Value.ownBlock] at hg, List.nodup_nil, fun D hD => by simp at hD⟩
    have hB : Below w.heap.size w ((((w.alloc (.cells #[.int .i64 (n : Int), .slice (some ⟨b, off, none⟩) xs.length c] 191)).alloc (.cells #[.func (.func 193) #[] #[.pointer (some ⟨bb, 0, none⟩)]] 153)).alloc (.cells #[.slice none 0 0] 52)).alloc (.cells #[.func (.func 190) #[] #[.pointer (some ⟨w.heap.size + 1, 0, none⟩), .pointer (some ⟨w.heap.size + 1 + 1, 0, none⟩)]] 242)) :=
      ((((Below.refl _ _).alloc (Nat.le_refl _) _).alloc (by simp) _).alloc (by simp; omega) _).alloc (by simp; omega) _
    have e1 := Boxed.new (w.alloc (.cells #[.int .i64 (n : Int), .slice (some ⟨b, off, none⟩) xs.length c] 191)) 153 (.func (.func 193) #[] #[.pointer (some ⟨bb, 0, none⟩)])
    have e2 := Boxed.new ((w.alloc (.cells #[.int .i64 (n : Int), .slice (some ⟨b, off, none⟩) xs.length c] 191)).alloc (.cells #[.func (.func 193) #[] #[.pointer (some ⟨bb, 0, none⟩)]] 153)) 52 (.slice none 0 0)
    have e3 := Boxed.new (((w.alloc (.cells #[.int .i64 (n : Int), .slice (some ⟨b, off, none⟩) xs.length c] 191)).alloc (.cells #[.func (.func 193) #[] #[.pointer (some ⟨bb, 0, none⟩)]] 153)).alloc (.cells #[.slice none 0 0] 52)) 242 (.func (.func 190) #[] #[.pointer (some ⟨w.heap.size + 1, 0, none⟩), .pointer (some ⟨w.heap.size + 1 + 1, 0, none⟩)])
    have e0 : ∀ j, j < 2 → ((((w.alloc (.cells #[.int .i64 (n : Int), .slice (some ⟨b, off, none⟩) xs.length c] 191)).alloc (.cells #[.func (.func 193) #[] #[.pointer (some ⟨bb, 0, none⟩)]] 153)).alloc (.cells #[.slice none 0 0] 52)).alloc (.cells #[.func (.func 190) #[] #[.pointer (some ⟨w.heap.size + 1, 0, none⟩), .pointer (some ⟨w.heap.size + 1 + 1, 0, none⟩)]] 242)).cell? ⟨w.heap.size, j, none⟩ = (w.alloc (.cells #[.int .i64 (n : Int), .slice (some ⟨b, off, none⟩) xs.length c] 191)).cell? ⟨w.heap.size, j, none⟩ := fun j _ =>
      ((((Below.refl (w.heap.size + 1) (w.alloc (.cells #[.int .i64 (n : Int), .slice (some ⟨b, off, none⟩) xs.length c] 191))).alloc (by simp) _).alloc (by simp) _).alloc (by simp) _).cell (p := ⟨w.heap.size, j, none⟩) (by simp)
    simp only [World.size_alloc] at e1 e2 e3
    refine ⟨(e0 0 (by omega)).trans (by simp), (e0 1 (by omega)).trans (by simp), ((e1.alloc _).alloc _).cell, e3.cell, (hB.cell (p := ⟨bb, 0, none⟩) (World.block_lt_of_cell? w ⟨bb, 0, none⟩ hbb)).trans hbb, ⟨e2.alloc _, World.ownsRow_nil _ _ _ _⟩, hB, World.block_lt_of_cell? w ⟨bb, 0, none⟩ hbb⟩
  case round =>
    rintro _ W ⟨k, ms, v, u9, u21, u22, u23, u24, u25, u26, u34, rfl, hk, hF, hrow, hop⟩
    have hlt3 := hF.lt
    by_cases hlt : k < xs.length
    · have hxW : NatsAt (W.alloc (.cells #[.int .i64 (k : Int)] 3)) b off xs := (hx.below hF.below hb).below ((Below.refl _ _).alloc (Nat.le_refl _) _) (Nat.lt_of_lt_of_le hb hF.below.size)
      have hF1 := hF.calm (Calm.of_below ((Below.refl W.heap.size W).alloc (Nat.le_refl _) (.cells #[.int .i64 (k : Int)] 3))) hF.below.size
      have h0 := hF1.p0
      have h1 := hF1.p1
      have hHR := Lib.hid hrow
      have hOp := Lib.hid hop
      clear hrow hop
      gi_wp2_with fail
      refine wideCall (pick_any n b off c xs k _ (by simp; have := hF.below.size; omega) (by omega) hxW hlt) ?_
      rintro e W1 ⟨rfl, hb1⟩
      gi_wp2_with fail
      have hF2 := hF1.calm (k := w.heap.size) (Calm.of_below hb1) (Nat.le_refl _)
      have hpk : W1.cell? ⟨W.heap.size, 0, none⟩ = some (.int .i64 (k : Int)) := (hb1.cell (p := ⟨W.heap.size, 0, none⟩) (by simp)).trans (by simp)
      have hOp1 : Open ms w.heap.size W1 := (hOp.out.calm (n := W.heap.size) (Calm.of_below ((Below.refl W.heap.size W).alloc (Nat.le_refl _) (.cells #[.int .i64 (k : Int)] 3))) (fun D hD => hOp.out.lt hD)).calm (n := W.heap.size) (Calm.of_below hb1) (fun D hD => hOp.out.lt hD)
      have hWs : W.heap.size + 1 ≤ W1.heap.size := by have := hb1.size; simpa using this
      have hws : w.heap.size + 3 < W1.heap.size := hF2.lt
      have hrl := runsOf_len n (nthN xs k) (by omega) (by omega)
      have hul := upTo_len (flW n xs m) (fun i => Nat.le_trans (ringFl_len _ _ _) (runsOf_len n (nthN xs i) (by omega) (by omega))) k
      refine rangeB (gf := 191) (rb := #[.agg #[.int .i64 (n : Int), .int .i64 (nthN xs k : Int)]]) rfl (enters_of Try.func191 (by kernel_rfl) rfl) (encs := fun r : Run => #[r.enc]) (xs := runsOf n (nthN xs k)) (B := W1.heap.size) (Nat.le_refl _) (fun _ => rfl)
        (runs_iter n (nthN xs k) _ _ (by omega) (by omega) (by have := hv k; omega))
        (fun pre W' => ∃ v, FlAt w n (.slice (some ⟨b, off, none⟩) xs.length c) bb m v (upTo (flW n xs m) k ++ ringFl (fun r => ⟨k, r.first, r.length, r.lifted⟩) m pre) W' ∧ RowFar w W1.heap.size W.heap.size v ∧ W'.cell? ⟨W.heap.size, 0, none⟩ = some (.int .i64 (k : Int)) ∧ Open ms w.heap.size W')
        ?stable ?start2
        (fun x a1 W' => ∃ bx, a1 = { tmps := #[.agg #[.int .i64 (n : Int), .slice (some ⟨b, off, none⟩) xs.length c], .int .i64 1, .func (.func 193) #[] #[.pointer (some ⟨bb, 0, none⟩)], .pointer (some ⟨w.heap.size, 0, none⟩), undef, .pointer (some ⟨w.heap.size + 1, 0, none⟩), .slice none 0 0, .pointer (some ⟨w.heap.size + 1 + 1, 0, none⟩), .pointer (some ⟨w.heap.size + 1 + 1 + 1, 0, none⟩), .pointer (some ⟨W.heap.size, 0, none⟩), .pointer (some ⟨bx, 0, none⟩), undef, undef, .func (.func 190) #[] #[.pointer (some ⟨w.heap.size + 1, 0, none⟩), .pointer (some ⟨w.heap.size + 1 + 1, 0, none⟩)], .int .i64 1, .bool true, .pointer (some ⟨w.heap.size, 0, none⟩), .pointer (some ⟨w.heap.size, 1, none⟩), .slice (some ⟨b, off, none⟩) xs.length c, .int .i64 (xs.length : Int), .int .i64 (k : Int), .bool true, .int .i64 (k : Int), .agg #[.int .i64 (n : Int), .slice (some ⟨b, off, none⟩) xs.length c], .int .i64 (k : Int), .agg #[.int .i64 (n : Int), .int .i64 (nthN xs k : Int)], .func (.func 191) #[.agg #[.int .i64 (n : Int), .int .i64 (nthN xs k : Int)]] #[], x.enc, undef, undef, undef, undef, undef, undef, u34, undef, undef, undef, undef, undef, undef, undef, undef, undef, undef, undef, undef, undef, undef, undef, undef, undef, undef, undef, undef], defers := [] } ∧ W'.cell? ⟨bx, 0, none⟩ = some (.int .i64 (x.first : Int)) ∧ W'.cell? ⟨bx, 1, none⟩ = some (.int .i64 (x.length : Int)) ∧ W'.cell? ⟨bx, 2, none⟩ = some (.bool x.lifted))
        ?stableA ?assign ?body ?done
      case stable =>
        rintro s A A' ⟨v, a1, a2, a3, a4⟩ hc
        exact ⟨v, a1.calm hc (by omega), a2, hc.cell a3, a4.calm hc fun D hD => hOp1.lt hD⟩
      case start2 =>
        refine ⟨v, by simpa [ringFl] using hF2, fun g hg => ⟨hHR.out g hg, ?_, ?_⟩, hpk, hOp1⟩
        · have := (ownBlock_ge hF.box.row hg).2
          omega
        · have := (ownBlock_ge hF.box.row hg).2
          omega
      case stableA =>
        rintro x a1 A A' ⟨bx, h1, h2, h3, h4⟩ hc
        exact ⟨bx, h1, hc.cell h2, hc.cell h3, hc.cell h4⟩
      case assign =>
        intro l x W' K hK
        unfold Run.enc
        gi_wp2
        exact hK _ _ ((Below.refl _ _).alloc (Nat.le_refl _) _) ⟨W'.heap.size, rfl, by simp, by simp, by simp⟩
      case body =>
        rintro l pre x _ W' ⟨v', hf, hfar, hpk', hop'⟩ ⟨bx, rfl, hb0, hb1', hb2⟩ hpre hsz
        have hlen : (upTo (flW n xs m) k ++ ringFl (fun r => ⟨k, r.first, r.length, r.lifted⟩) m pre).length ≤ 100000 := by
          have h1 := ringFl_len (fun r => (⟨k, r.first, r.length, r.lifted⟩ : Fl)) m pre
          have h2 := prefix_len hpre
          rw [List.length_append] at h2 ⊢
          simp at h2
          omega
        have hkp := hf.kp
        gi_wp2_with fail
        refine roundCall (keep_any k x.first _ bb _ w.heap.size x m v' _ W' hf.wa hf.bd hf.box (by omega) hlen) ?_
        rintro e W3 ⟨rfl, v2, hv2, hr2, hw2⟩
        gi_wp2_with fail
        have hfar2 := hfar.next hr2 hf.lt hsz (by omega)
        refine ⟨hw2.keepsFrom hf.box, ⟨v2, ?_, hfar2, ?_, hop'.wr hw2 hf.box⟩, fun j => hw2.cell (p := ⟨W1.heap.size + 2, j, none⟩) hsz (by simp; omega) (fun e => (hfar _ e.symm).2.1 rfl)⟩
        · refine hf.wr hw2 ?_ (fun g hg => (hfar g hg).1)
          rw [ringFl_step, ← List.append_assoc]
          exact hv2
        · have hne : W.heap.size < W'.heap.size := World.block_lt_of_cell? W' ⟨W.heap.size, 0, none⟩ hpk'
          refine (hw2.cell (p := ⟨W.heap.size, 0, none⟩) hne (by simp; omega) fun e => ?_).trans hpk'
          exact (hfar _ e.symm).2.2 rfl
      case done =>
        rintro W' hlt' ⟨v', hf, hfar, hpk', hop'⟩ hD
        gi_wp2_with fail
        exact ⟨⟨k + 1, W1.heap.size :: ms, v', _, _, _, _, _, _, _, _, rfl, by omega, by rw [upTo_succ]; exact hf, fun g hg => (hfar g hg).1, hop'.cons (fun E hE => hOp1.lt hE) (by omega) hD⟩, by simp [intOf]; omega⟩
    · obtain rfl : k = xs.length := by omega
      have hbx := hF.box.box.cell
      have hHR := Lib.hid hrow
      have hOp := Lib.hid hop
      clear hrow hop
      gi_wp2_with fail
      refine leaves_marks (B := w.heap.size) (v := v) ms _ (fun D hD => hOp.out.2 D hD) hOp.out.1 fun w' hc => ⟨(results_tmp (t := 6) rfl _ _ _).trans rfl, v, rfl, ?_, ?_⟩
      · exact (hF.calm hc (Nat.le_refl _)).box.row
      · exact (hF.calm hc (Nat.le_refl _)).below
end
end Go.Proofs.Ytdmgffoikebgkaa
namespace Go.Proofs.Ytdmgffoikebgkaa
section
open Go.RowKit Go.Shelf
attribute [local go_sem] Oper.semAt_some
set_option maxRecDepth 100000 in
set_option maxHeartbeats 2000000 in
theorem floatsH_any (n : Nat) (b off c bb : Nat) (m : Int) (xs : List Nat) (w : World) (hn : 1 ≤ n ∧ n ≤ 24) (hl : 1 ≤ xs.length ∧ xs.length ≤ 60) (hb : b < w.heap.size) (hx : NatsAt w b off xs) (hv : ∀ i, nthN xs i < 16777216)
    (hbb : w.cell? ⟨bb, 0, none⟩ = some (.int .i64 m)) :
    Calls Try.prog 144 #[.agg #[.int .i64 (n : Int), .slice (some ⟨b, off, none⟩) xs.length c], .int .i64 2, .func (.func 193) #[] #[.pointer (some ⟨bb, 0, none⟩)]] w
      fun e w' => ∃ v, e = .returned v ∧ w'.ownsRow w.heap.size 149 4 v (upTo (flH xs m) n).length (flCells (upTo (flH xs m) n)) ∧ Below w.heap.size w w' := by
  obtain ⟨nf, _⟩ : ∃ nf : Nat, nf = nf := ⟨3, rfl⟩
  refine (callsIn_wide (n := nf)).1 ?_
  refine callsIn_of_wp_marks Try.func144 rfl trivial ?_ rfl
  simp only [Try.ntmps144, List.size_toArray, List.length_cons, List.length_nil, Nat.reduceAdd, Nat.reduceSub, Array.replicate_succ, Array.replicate_zero, List.push_toArray, List.append_toArray, List.nil_append, List.cons_append]
  gi_wp2
  refine wpIn_loop (fun a' W' => ∃ (k : Nat) (ms : List Nat) (v u11 u40 u41 u42 u43 u44 u45 u53 : Value), a' = { tmps := #[.agg #[.int .i64 (n : Int), .slice (some ⟨b, off, none⟩) xs.length c], .int .i64 2, .func (.func 193) #[] #[.pointer (some ⟨bb, 0, none⟩)], .pointer (some ⟨w.heap.size, 0, none⟩), undef, .pointer (some ⟨w.heap.size + 1, 0, none⟩), .slice none 0 0, .pointer (some ⟨w.heap.size + 1 + 1, 0, none⟩), .pointer (some ⟨w.heap.size + 1 + 1 + 1, 0, none⟩), undef, undef, u11, undef, .func (.func 190) #[] #[.pointer (some ⟨w.heap.size + 1, 0, none⟩), .pointer (some ⟨w.heap.size + 1 + 1, 0, none⟩)], .int .i64 2, .bool false, undef, undef, undef, undef, undef, undef, undef, undef, undef, undef, undef, undef, undef, undef, undef, undef, undef, undef, undef, undef, .pointer (some ⟨w.heap.size, 0, none⟩), .pointer (some ⟨w.heap.size, 0, none⟩), .int .i64 (n : Int), .int .i64 (k : Int), u40, u41, u42, u43, u44, u45, undef, undef, undef, undef, undef, undef, undef, u53, undef], defers := marks ms } ∧
      k ≤ n ∧ FlAt w n (.slice (some ⟨b, off, none⟩) xs.length c) bb m v (upTo (flH xs m) k) W' ∧ (∀ g, v.ownBlock = some g → w.heap.size + 3 < g) ∧ Open ms w.heap.size W')
    (fun a' _ => n - (intOf (a'.tmps.getD 39 undef)).toNat) ?start ?round
  case start =>
    refine ⟨0, [], .slice none 0 0, _, _, _, _, _, _, _, _, rfl, Nat.zero_le _, ?_, fun g hg => by simp [Value.ownBlock] at hg, List.nodup_nil, fun D hD => by simp at hD⟩
    have hB : Below w.heap.size w ((((w.alloc (.cells #[.int .i64 (n : Int), .slice (some ⟨b, off, none⟩) xs.length c] 191)).alloc (.cells #[.func (.func 193) #[] #[.pointer (some ⟨bb, 0, none⟩)]] 153)).alloc (.cells #[.slice none 0 0] 52)).alloc (.cells #[.func (.func 190) #[] #[.pointer (some ⟨w.heap.size + 1, 0, none⟩), .pointer (some ⟨w.heap.size + 1 + 1, 0, none⟩)]] 242)) :=
      ((((Below.refl _ _).alloc (Nat.le_refl _) _).alloc (by simp) _).alloc (by simp; omega) _).alloc (by simp; omega) _
    have e1 := Boxed.new (w.alloc (.cells #[.int .i64 (n : Int), .slice (some ⟨b, off, none⟩) xs.length c] 191)) 153 (.func (.func 193) #[] #[.pointer (some ⟨bb, 0, none⟩)])
    have e2 := Boxed.new ((w.alloc (.cells #[.int .i64 (n : Int), .slice (some ⟨b, off, none⟩) xs.length c] 191)).alloc (.cells #[.func (.func 193) #[] #[.pointer (some ⟨bb, 0, none⟩)]] 153)) 52 (.slice none 0 0)
    have e3 := Boxed.new (((w.alloc (.cells #[.int .i64 (n : Int), .slice (some ⟨b, off, none⟩) xs.length c] 191)).alloc (.cells #[.func (.func 193) #[] #[.pointer (some ⟨bb, 0, none⟩)]] 153)).alloc (.cells #[.slice none 0 0] 52)) 242 (.func (.func 190) #[] #[.pointer (some ⟨w.heap.size + 1, 0, none⟩), .pointer (some ⟨w.heap.size + 1 + 1, 0, none⟩)])
    have e0 : ∀ j, j < 2 → ((((w.alloc (.cells #[.int .i64 (n : Int), .slice (some ⟨b, off, none⟩) xs.length c] 191)).alloc (.cells #[.func (.func 193) #[] #[.pointer (some ⟨bb, 0, none⟩)]] 153)).alloc (.cells #[.slice none 0 0] 52)).alloc (.cells #[.func (.func 190) #[] #[.pointer (some ⟨w.heap.size + 1, 0, none⟩), .pointer (some ⟨w.heap.size + 1 + 1, 0, none⟩)]] 242)).cell? ⟨w.heap.size, j, none⟩ = (w.alloc (.cells #[.int .i64 (n : Int), .slice (some ⟨b, off, none⟩) xs.length c] 191)).cell? ⟨w.heap.size, j, none⟩ := fun j _ =>
      ((((Below.refl (w.heap.size + 1) (w.alloc (.cells #[.int .i64 (n : Int), .slice (some ⟨b, off, none⟩) xs.length c] 191))).alloc (by simp) _).alloc (by simp) _).alloc (by simp) _).cell (p := ⟨w.heap.size, j, none⟩) (by simp)
    simp only [World.size_alloc] at e1 e2 e3
    refine ⟨(e0 0 (by omega)).trans (by simp), (e0 1 (by omega)).trans (by simp), ((e1.alloc _).alloc _).cell, e3.cell, (hB.cell (p := ⟨bb, 0, none⟩) (World.block_lt_of_cell? w ⟨bb, 0, none⟩ hbb)).trans hbb, ⟨e2.alloc _, World.ownsRow_nil _ _ _ _⟩, hB, World.block_lt_of_cell? w ⟨bb, 0, none⟩ hbb⟩
  case round =>
    rintro _ W ⟨k, ms, v, u11, u40, u41, u42, u43, u44, u45, u53, rfl, hk, hF, hrow, hop⟩
    have hlt3 := hF.lt
    by_cases hlt : k < n
    · have hxW : NatsAt (W.alloc (.cells #[.int .i64 (k : Int)] 3)) b off xs := (hx.below hF.below hb).below ((Below.refl _ _).alloc (Nat.le_refl _) _) (Nat.lt_of_lt_of_le hb hF.below.size)
      have hF1 := hF.calm (Calm.of_below ((Below.refl W.heap.size W).alloc (Nat.le_refl _) (.cells #[.int .i64 (k : Int)] 3))) hF.below.size
      have h0 := hF1.p0
      have h1 := hF1.p1
      have hHR := Lib.hid hrow
      have hOp := Lib.hid hop
      clear hrow hop
      gi_wp2_with fail
      refine wideCall (hook_any n b off c xs k _ (by simp; have := hF.below.size; omega) hl.2 hxW hv (by omega)) ?_
      rintro e W1 ⟨rfl, hb1⟩
      gi_wp2_with fail
      have hF2 := hF1.calm (k := w.heap.size) (Calm.of_below hb1) (Nat.le_refl _)
      have hpk : W1.cell? ⟨W.heap.size, 0, none⟩ = some (.int .i64 (k : Int)) := (hb1.cell (p := ⟨W.heap.size, 0, none⟩) (by simp)).trans (by simp)
      have hOp1 : Open ms w.heap.size W1 := (hOp.out.calm (n := W.heap.size) (Calm.of_below ((Below.refl W.heap.size W).alloc (Nat.le_refl _) (.cells #[.int .i64 (k : Int)] 3))) (fun D hD => hOp.out.lt hD)).calm (n := W.heap.size) (Calm.of_below hb1) (fun D hD => hOp.out.lt hD)
      have hWs : W.heap.size + 1 ≤ W1.heap.size := by have := hb1.size; simpa using this
      have hws : w.heap.size + 3 < W1.heap.size := hF2.lt
      have hrl := runsOf_len xs.length (colTo xs k xs.length) (by omega) hl.2
      have hul := upTo_len (flH xs m) (fun i => Nat.le_trans (ringFl_len _ _ _) (runsOf_len xs.length (colTo xs i xs.length) (by omega) hl.2)) k
      refine rangeB (gf := 191) (rb := #[.agg #[.int .i64 (xs.length : Int), .int .i64 (colTo xs k xs.length : Int)]]) rfl (enters_of Try.func191 (by kernel_rfl) rfl) (encs := fun r : Run => #[r.enc]) (xs := runsOf xs.length (colTo xs k xs.length)) (B := W1.heap.size) (Nat.le_refl _) (fun _ => rfl)
        (runs_iter xs.length (colTo xs k xs.length) _ _ (by omega) hl.2 (by have h1 := colTo_lt xs k xs.length; have h2 := pow60 xs.length hl.2; omega))
        (fun pre W' => ∃ v, FlAt w n (.slice (some ⟨b, off, none⟩) xs.length c) bb m v (upTo (flH xs m) k ++ ringFl (fun r => ⟨r.first, k, r.length, r.lifted⟩) m pre) W' ∧ RowFar w W1.heap.size W.heap.size v ∧ W'.cell? ⟨W.heap.size, 0, none⟩ = some (.int .i64 (k : Int)) ∧ Open ms w.heap.size W')
        ?stable ?start2
        (fun x a1 W' => ∃ bx, a1 = { tmps := #[.agg #[.int .i64 (n : Int), .slice (some ⟨b, off, none⟩) xs.length c], .int .i64 2, .func (.func 193) #[] #[.pointer (some ⟨bb, 0, none⟩)], .pointer (some ⟨w.heap.size, 0, none⟩), undef, .pointer (some ⟨w.heap.size + 1, 0, none⟩), .slice none 0 0, .pointer (some ⟨w.heap.size + 1 + 1, 0, none⟩), .pointer (some ⟨w.heap.size + 1 + 1 + 1, 0, none⟩), undef, undef, .pointer (some ⟨W.heap.size, 0, none⟩), .pointer (some ⟨bx, 0, none⟩), .func (.func 190) #[] #[.pointer (some ⟨w.heap.size + 1, 0, none⟩), .pointer (some ⟨w.heap.size + 1 + 1, 0, none⟩)], .int .i64 2, .bool false, undef, undef, undef, undef, undef, undef, undef, undef, undef, undef, undef, undef, undef, undef, undef, undef, undef, undef, undef, undef, .pointer (some ⟨w.heap.size, 0, none⟩), .pointer (some ⟨w.heap.size, 0, none⟩), .int .i64 (n : Int), .int .i64 (k : Int), .bool true, .int .i64 (k : Int), .agg #[.int .i64 (n : Int), .slice (some ⟨b, off, none⟩) xs.length c], .int .i64 (k : Int), .agg #[.int .i64 (xs.length : Int), .int .i64 (colTo xs k xs.length : Int)], .func (.func 191) #[.agg #[.int .i64 (xs.length : Int), .int .i64 (colTo xs k xs.length : Int)]] #[], x.enc, undef, undef, undef, undef, undef, undef, u53, undef], defers := [] } ∧ W'.cell? ⟨bx, 0, none⟩ = some (.int .i64 (x.first : Int)) ∧ W'.cell? ⟨bx, 1, none⟩ = some (.int .i64 (x.length : Int)) ∧ W'.cell? ⟨bx, 2, none⟩ = some (.bool x.lifted))
        ?stableA ?assign ?body ?done
      case stable =>
        rintro s A A' ⟨v, a1, a2, a3, a4⟩ hc
        exact ⟨v, a1.calm hc (by omega), a2, hc.cell a3, a4.calm hc fun D hD => hOp1.lt hD⟩
      case start2 =>
        refine ⟨v, by simpa [ringFl] using hF2, fun g hg => ⟨hHR.out g hg, ?_, ?_⟩, hpk, hOp1⟩
        · have := (ownBlock_ge hF.box.row hg).2
          omega
        · have := (ownBlock_ge hF.box.row hg).2
          omega
      case stableA =>
        rintro x a1 A A' ⟨bx, h1, h2, h3, h4⟩ hc
        exact ⟨bx, h1, hc.cell h2, hc.cell h3, hc.cell h4⟩
      case assign =>
        intro l x W' K hK
        unfold Run.enc
        gi_wp2
        exact hK _ _ ((Below.refl _ _).alloc (Nat.le_refl _) _) ⟨W'.heap.size, rfl, by simp, by simp, by simp⟩
      case body =>
        rintro l pre x _ W' ⟨v', hf, hfar, hpk', hop'⟩ ⟨bx, rfl, hb0, hb1', hb2⟩ hpre hsz
        have hlen : (upTo (flH xs m) k ++ ringFl (fun r => ⟨r.first, k, r.length, r.lifted⟩) m pre).length ≤ 100000 := by
          have h1 := ringFl_len (fun r => (⟨r.first, k, r.length, r.lifted⟩ : Fl)) m pre
          have h2 := prefix_len hpre
          rw [List.length_append] at h2 ⊢
          simp at h2
          omega
        have hkp := hf.kp
        gi_wp2_with fail
        refine roundCall (keep_any x.first k _ bb _ w.heap.size x m v' _ W' hf.wa hf.bd hf.box (by omega) hlen) ?_
        rintro e W3 ⟨rfl, v2, hv2, hr2, hw2⟩
        gi_wp2_with fail
        have hfar2 := hfar.next hr2 hf.lt hsz (by omega)
        refine ⟨hw2.keepsFrom hf.box, ⟨v2, ?_, hfar2, ?_, hop'.wr hw2 hf.box⟩, fun j => hw2.cell (p := ⟨W1.heap.size + 2, j, none⟩) hsz (by simp; omega) (fun e => (hfar _ e.symm).2.1 rfl)⟩
        · refine hf.wr hw2 ?_ (fun g hg => (hfar g hg).1)
          rw [ringFl_step, ← List.append_assoc]
          exact hv2
        · have hne : W.heap.size < W'.heap.size := World.block_lt_of_cell? W' ⟨W.heap.size, 0, none⟩ hpk'
          refine (hw2.cell (p := ⟨W.heap.size, 0, none⟩) hne (by simp; omega) fun e => ?_).trans hpk'
          exact (hfar _ e.symm).2.2 rfl
      case done =>
        rintro W' hlt' ⟨v', hf, hfar, hpk', hop'⟩ hD
        gi_wp2_with fail
        exact ⟨⟨k + 1, W1.heap.size :: ms, v', _, _, _, _, _, _, _, _, rfl, by omega, by rw [upTo_succ]; exact hf, fun g hg => (hfar g hg).1, hop'.cons (fun E hE => hOp1.lt hE) (by omega) hD⟩, by simp [intOf]; omega⟩
    · obtain rfl : k = n := by omega
      have hbx := hF.box.box.cell
      have hHR := Lib.hid hrow
      have hOp := Lib.hid hop
      clear hrow hop
      gi_wp2_with fail
      refine leaves_marks (B := w.heap.size) (v := v) ms _ (fun D hD => hOp.out.2 D hD) hOp.out.1 fun w' hc => ⟨(results_tmp (t := 6) rfl _ _ _).trans rfl, v, rfl, ?_, ?_⟩
      · exact (hF.calm hc (Nat.le_refl _)).box.row
      · exact (hF.calm hc (Nat.le_refl _)).below
end
end Go.Proofs.Ytdmgffoikebgkaa
