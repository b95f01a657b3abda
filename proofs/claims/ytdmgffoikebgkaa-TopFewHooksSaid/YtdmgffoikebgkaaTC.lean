/- Harness ties: the hooks of one group, one after the other, and Make, at the group of the document's example. -/
import Derived.Test.YtdmgffoikebgkaaTB
import Derived.Test.YtdmgffoikebgkaaWG
import Derived.LoopNIn
import Derived.Maps.OwnIn
namespace Go.Proofs.Ytdmgffoikebgkaa
open Go.RowKit Go.Shelf
attribute [local go_sem] Oper.semAt_some

def exHooks : List Int := [0, 1, 2, 3, 2, 1]
theorem exHooks_pre (k : Nat) (h : k < 6) : (exHooks.take k ++ [nthI exHooks k]) <+: exHooks := by
  rw [← takeI_succ exHooks k h]; exact List.take_prefix _ _
def exGrp : Array Value := #[.int .i64 0, .int .i64 3, .int .i64 2, .int .i64 1]
set_option maxHeartbeats 1000000 in
theorem exHooks_iter (n size : Nat) : Iter Try.prog n (n - 1) 113 #[.agg exGrp] (fun x : Int => #[.int .i64 x]) exHooks size := by
  intro l J W hW hJ hY h0
  subst hW
  refine callsIn_of_wp Try.func113 rfl trivial ?_ rfl
  simp only [Try.ntmps113, List.size_toArray, List.length_cons, List.length_nil, Nat.reduceAdd, Nat.reduceSub, Array.replicate_succ, Array.replicate_zero, List.push_toArray, List.append_toArray, List.nil_append, List.cons_append]
  have hB0 : BoxAt (W.alloc (.cells exGrp 152)) W.heap.size exGrp 152 := BoxAt.new _ _ _
  have hJ0 : J [] (W.alloc (.cells exGrp 152)) := hJ _ _ _ h0 ((Below.refl _ _).alloc (Nat.le_refl _) _)
  have HB0 := Lib.hid hB0
  have HJ0 := Lib.hid hJ0
  clear hB0 hJ0
  unfold exGrp at HB0 HJ0 ⊢
  gi_wp2
  gi_loopw [38] (fun i wr => ∃ k : Nat, k ≤ 6 ∧ i = .int .i64 k ∧ wr.cell? ⟨W.heap.size, 0, none⟩ = some (.int .i64 0) ∧ J (exHooks.take k) wr) (fun i _ => 6 - (intOf i).toNat)
  case atStart => exact ⟨0, Nat.zero_le _, rfl, BoxAt.cell' HB0.out 0 rfl, HJ0.out⟩
  case round =>
    obtain ⟨k, hk, rfl, c0, hJ2⟩ := hrel
    clear HB0 HJ0
    by_cases hlt : k < 6
    · obtain ⟨fn, tmps, assign, body, hy, hR⟩ := hY (exHooks.take k) (nthI exHooks k) _ hJ2 (exHooks_pre k hlt) (World.block_lt_of_cell? _ _ c0)
      clear hJ2
      have hm : (k : Int) % 6 = (k : Int) := by omega
      have Hy := Lib.hid hy
      have Htk := Lib.hid (takeI_succ exHooks k hlt)
      clear hy
      gi_wp2
      · have hle : (6 : Int) - (k : Int) < (k : Int) := by assumption
        have hn : nthI exHooks k = 6 - (k : Int) := by
          have : k = 4 ∨ k = 5 := by omega
          rcases this with rfl | rfl <;> rfl
        have hy : (Instr.yield l #[.int .i64 (6 - (k : Int))]).run Try.prog wr = .ok (.round l fn tmps assign body) wr := by rw [← hn]; exact Hy.out
        clear hn
        rw [hy]
        gi_wp2
        refine ⟨fun h => by simp [Fence.wide] at h, hR.mono ?_⟩
        rintro e W3 ⟨rfl, hJ3, hz3, hk3⟩
        have HJ3 := Lib.hid hJ3
        have c3 := (hk3 0).trans c0
        clear hJ3
        gi_wp2
        go_roundw
        case rel => exact ⟨k + 1, by omega, by go_num, c3, by rw [Htk.out]; exact HJ3.out⟩
        case measure => simp [intOf]; omega
      · have hle : (k : Int) ≤ 6 - (k : Int) := by assumption
        have hn : nthI exHooks k = (k : Int) := by
          have : k = 0 ∨ k = 1 ∨ k = 2 ∨ k = 3 := by omega
          rcases this with rfl | rfl | rfl | rfl <;> rfl
        have hy : (Instr.yield l #[.int .i64 (k : Int)]).run Try.prog wr = .ok (.round l fn tmps assign body) wr := by rw [← hn]; exact Hy.out
        clear hn
        rw [hy]
        gi_wp2
        refine ⟨fun h => by simp [Fence.wide] at h, hR.mono ?_⟩
        rintro e W3 ⟨rfl, hJ3, hz3, hk3⟩
        have HJ3 := Lib.hid hJ3
        have c3 := (hk3 0).trans c0
        clear hJ3
        gi_wp2
        go_roundw
        case rel => exact ⟨k + 1, by omega, by go_num, c3, by rw [Htk.out]; exact HJ3.out⟩
        case measure => simp [intOf]; omega
    · obtain rfl : k = 6 := by omega
      have HJ := Lib.hid hJ2
      clear hJ2
      gi_wp2
      go_end0
      exact ⟨⟨_, rfl⟩, HJ.out⟩

set_option maxHeartbeats 1000000 in
theorem exIsOf (w : World) : Calls Try.prog 112 #[.agg exGrp, .int .i64 4] w fun e w' => e = .returned (.bool true) ∧ Below w.heap.size w w' := by
  have H1 := Lib.hid (areFrom_true 0 3 (w.heap.size + 1) 0 2 [0, 3] ((w.alloc (.cells exGrp 152)).alloc (.cells #[.int .i64 0, .int .i64 3] 3)) (by simp) (fun i hi => by
    have : i = 0 ∨ i = 1 := by simp at hi; omega
    rcases this with rfl | rfl <;> simp [nthN]) (fun i hi => by
    have : i = 0 ∨ i = 1 := by simp at hi; omega
    rcases this with rfl | rfl <;> exact ⟨by decide, by decide⟩))
  have h2 := areFrom_one 1 8 ((w.alloc (.cells exGrp 152)).alloc (.cells #[.int .i64 0, .int .i64 3] 3)).heap.size 0 1 1 (((w.alloc (.cells exGrp 152)).alloc (.cells #[.int .i64 0, .int .i64 3] 3)).alloc (.cells #[.int .i64 1] 3)) (BoxAt.cell' (BoxAt.new _ _ _) 0 rfl) (by decide) (by decide)
  simp only [World.size_alloc] at h2
  have H2 := Lib.hid h2
  clear h2
  unfold exGrp at H1 H2
  unfold exGrp
  go_enter Try.func112, Try.ntmps112
  go_wp2_with fail
  refine H1.out.mono ?_
  rintro e w' ⟨rfl, rfl⟩
  go_wp2_with fail
  refine H2.out.mono ?_
  rintro e w' ⟨rfl, rfl⟩
  go_wp2_with fail
  go_ret
  exact ⟨rfl, (((Below.refl _ _).alloc (Nat.le_refl _) _).alloc (by simp) _).alloc (by simp; omega) _⟩
theorem app_oneIn {t e size bytes : Nat} (E : ElemT t e size bytes) {F : Fence} {nF : Nat} {ops : Array Oper} {rest : List Oper} {o : Oper} {a : Act} {Q : Exit → Act → World → Prop} {W : World} (hgd : o.guard = none) (s x : Operand)
    (ho : o.op = .call { callee := .builtin .append, args := #[s, x], argTypes := #[t, t] }) (base : Nat) (v : Value) (n : Nat) (xs : List Value) (cs : Array Value)
    (hs : a.eval s = v) (hown : W.ownsRow base e size v n xs) (hx : a.eval x = .slice (some ⟨W.heap.size, 0, none⟩) 1 1) (hcs : cs.size = size) (h1 : ∀ u ∈ cs.toList, u.oneCell' = true)
    (hlen : n ≤ 1000000) (hby : bytes ≤ 1000) (hbase : base ≤ W.heap.size)
    (h : ∀ g cap W', Grew base e size W W' v g cap (n + 1) (xs ++ cs.toList) → wpListIn F nF Try.prog ops Q rest (a.put o.dst (.slice (some ⟨g, 0, none⟩) (n + 1) cap)) W') :
    wpListIn F nF Try.prog ops Q (o :: rest) a (W.alloc (.cells cs e)) := by
  obtain ⟨i, z, hu, hi, hz0, hz1, hz2, hz3, hz4⟩ := E.ex
  refine wpListIn_append_own_at _ hgd s x t ho base e i z size bytes hu hi hz0 hz1 hz2 hz3 hz4 v n xs hs (hown.alloc _) ⟨W.heap.size, 0, none⟩ 1 1 cs.toList hx (by simp [hcs])
    (World.news_of_block (t := e) (fr := (0, 0)) (World.alloc_heap_new W _)) h1 (by unfold maxLen; omega) ?_ (by simp; omega) ?_
  · exact Nat.le_trans (Nat.mul_le_mul (show n + 1 ≤ 1000001 by omega) hby) (by decide)
  · intro v' w' hr hg _ hat
    have hr0 := hr
    obtain ⟨hl, h2 | ⟨g, cap, cur, rfl, hq, hh, r⟩⟩ := hr
    · have := h2.2; omega
    · refine h g cap w' ⟨hr0, ⟨hg.os, hg.tape, hg.output, ?_, fun k hk hne => (hg.block k (by simp; omega) hne).trans (Below.heap_alloc _ _ _ hk)⟩, (Array.getElem?_eq_some_iff.1 hh).1, ?_, hq⟩
      · have := hg.size; simp at this; omega
      · rcases hat with e1 | e1
        · exact .inl e1.symm
        · simp [Value.ownBlock] at e1; exact .inr (by omega)
theorem BoxAt.calm {W W' : World} {B n : Nat} {vs : Array Value} {t : TypeId} (h : BoxAt W B vs t) (hc : Calm n W W') : BoxAt W' B vs t := hc.same _ _ h (.inl rfl)
theorem own_calm {W W' : World} {base e size k n : Nat} {v : Value} {xs : List Value} (h : W.ownsRow base e size v k xs) (hc : Calm n W W') : W'.ownsRow base e size v k xs := by
  obtain ⟨hl, h2⟩ := h
  refine ⟨hl, ?_⟩
  rcases h2 with h2 | ⟨g, cap, cur, e, hg, hh, r⟩
  · exact .inl h2
  · exact .inr ⟨g, cap, cur, e, hg, hc.same _ _ hh (.inl rfl), r⟩
theorem own_others {W W' : World} {base e size k : Nat} {v : Value} {xs : List Value} (h : W.ownsRow base e size v k xs) (hg : W.grownBy W' v.ownBlock) : KeepsOthers W W' := by
  refine KeepsOthers.of_grownBy hg fun j o ej hj => ?_
  obtain ⟨hl, h2⟩ := h
  rcases h2 with h2 | ⟨g, cap, cur, e, hq, hh, r⟩
  · rw [h2.1] at ej; cases ej
  · rw [e] at ej; cases ej; rw [hh] at hj; cases hj; rfl
def intV (n : Int) : Value := .int .i64 n
/-- what Make keeps between two warps -/
structure MkAt (w0 : World) (S : Nat) (v : Value) (pre : List Int) (W : World) : Prop where
  box : BoxAt W w0.heap.size #[.int .i64 4, v] 26
  row : W.ownsRow (w0.heap.size + 1) 3 1 v pre.length (pre.map intV)
  b : Below w0.heap.size w0 W
  far : v.ownBlock ≠ some S
theorem MkAt.calm {w0 W W' : World} {S n : Nat} {v : Value} {pre : List Int} (h : MkAt w0 S v pre W) (hc : Calm n W W') (hn : w0.heap.size ≤ n) : MkAt w0 S v pre W' :=
  ⟨h.box.calm hc, own_calm h.row hc, (hc.mono hn).below h.b (Nat.le_refl _), h.far⟩
theorem MkAt.grew {w0 W W' : World} {S g5 cap : Nat} {v : Value} {pre : List Int} {z : Int} (h : MkAt w0 S v pre W) (hS : S < W.heap.size)
    (hg : Grew (w0.heap.size + 1) 3 1 W W' v g5 cap (pre.length + 1) (pre.map intV ++ [.int .i64 z])) :
    BoxAt W' w0.heap.size #[.int .i64 4, v] 26 ∧ MkAt w0 S (.slice (some ⟨g5, 0, none⟩) (pre.length + 1) cap) (pre ++ [z]) (W'.setCell ⟨w0.heap.size, 1, none⟩ (.slice (some ⟨g5, 0, none⟩) (pre.length + 1) cap))
      ∧ KeepsOthers W W' ∧ ∀ j, W'.cell? ⟨S, j, none⟩ = W.cell? ⟨S, j, none⟩ := by
  have hn : ∀ j, j < w0.heap.size + 1 → some j ≠ v.ownBlock := fun j hj => own_far h.row hj
  have hb := h.box.kept hg.grow (hn _ (by omega))
  refine ⟨hb, ⟨hb.set 1 _, ?_, ?_, ?_⟩, own_others h.row hg.grow, fun j => World.cell?_of_block (w := W) (hg.grow.block S hS (fun e => h.far e.symm))⟩
  · have hr := hg.row
    have := own_set hr ⟨w0.heap.size, 1, none⟩ (.slice (some ⟨g5, 0, none⟩) (pre.length + 1) cap) (own_far hr (by simp))
    rw [List.length_append, List.length_singleton, List.map_append]
    exact this
  · exact (h.b.grown hg.grow h.b.size (fun j hj => by have := (ownBlock_ge h.row hj).1; omega)).setCell (by simp) _
  · intro e
    simp [Value.ownBlock] at e
    subst e
    rcases hg.at' with h1 | h1
    · exact h.far h1
    · omega
set_option maxRecDepth 100000 in
set_option maxHeartbeats 2000000 in
theorem exMake (g : Nat) (w : World) (hx : BoxAt w g exGrp 32) :
    Calls Try.prog 24 #[.int .i64 4, .slice (some ⟨g, 0, none⟩) 1 1] w fun e w' =>
      ∃ v, e = .returned (.tuple #[.agg #[.int .i64 4, v], .int .i64 0, .int .i64 0]) ∧ w'.ownsRow w.heap.size 3 1 v 6 (exHooks.map intV) ∧ Below w.heap.size w w' := by
  have hgl := hx.lt
  have HX := Lib.hid hx
  have HA := Lib.hid (areFrom_one 1 24 (w.heap.size + 1) 0 1 4 ((w.alloc (.cells #[.int .i64 0, .slice none 0 0] 26)).alloc (.cells #[.int .i64 4] 3)) (by simp) (by decide) (by decide))
  have x0 := hx.cell' (v := .int .i64 0) 0 rfl
  have x1 := hx.cell' (v := .int .i64 3) 1 rfl
  have x2 := hx.cell' (v := .int .i64 2) 2 rfl
  have x3 := hx.cell' (v := .int .i64 1) 3 rfl
  have hne : ¬ g = w.heap.size := by omega
  clear hx
  obtain ⟨nf, _⟩ : ∃ nf : Nat, nf = nf := ⟨3, rfl⟩
  refine (callsIn_wide (n := nf)).1 ?_
  refine callsIn_of_wp_marks Try.func24 rfl trivial ?_ rfl
  simp only [Try.ntmps24, List.size_toArray, List.length_cons, List.length_nil, Nat.reduceAdd, Nat.reduceSub, Array.replicate_succ, Array.replicate_zero, List.push_toArray, List.append_toArray, List.nil_append, List.cons_append]
  gi_wp2_with fail
  refine wideCall HA.out ?_
  rintro e w' ⟨rfl, rfl⟩
  gi_wp2_with fail
  refine wpIn_loop_rounds 2 ?_
  rw [roundsIn_succ]
  gi_wp2_with fail
  refine wideCall (exIsOf _) ?_
  rintro e w1 ⟨rfl, hb⟩
  have hbx : BoxAt w1 (w.heap.size + 1 + 1) exGrp 32 := by
    have := BoxAt.next (BoxAt.new ((w.alloc (.cells #[.int .i64 4, .slice none 0 0] 26)).alloc (.cells #[.int .i64 4] 3)) exGrp 32) hb
    rwa [World.size_alloc, World.size_alloc] at this
  have hrb : BoxAt w1 w.heap.size #[.int .i64 4, .slice none 0 0] 26 :=
    BoxAt.below (BoxAt.new w #[.int .i64 4, .slice none 0 0] 26) ((((Below.refl (w.heap.size + 1) _).alloc (by simp) (.cells #[.int .i64 4] 3)).alloc (by simp) (.cells exGrp 32)).trans (hb.mono (by simp))) (by omega)
  have hbw : Below w.heap.size w w1 := ((((Below.refl w.heap.size w).alloc (Nat.le_refl _) (.cells #[.int .i64 4, .slice none 0 0] 26)).alloc (by simp) (.cells #[.int .i64 4] 3)).alloc (by simp; omega) (.cells exGrp 32)).trans (hb.mono (by simp; omega))
  have y0 := hbx.cell' (v := .int .i64 0) 0 rfl
  have y1 := hbx.cell' (v := .int .i64 3) 1 rfl
  have y2 := hbx.cell' (v := .int .i64 2) 2 rfl
  have y3 := hbx.cell' (v := .int .i64 1) 3 rfl
  have hM0 : MkAt w (w1.heap.size + 2) (.slice none 0 0) [] w1 := ⟨hrb, World.ownsRow_nil _ _ _ _, hbw, by simp [Value.ownBlock]⟩
  have HM0 := Lib.hid hM0
  have hz := hbx.lt
  clear hb hbx hrb hbw hM0 HA HX x0 x1 x2 x3
  gi_wp2_with fail
  refine rangeB (gf := 113) (rb := #[.agg exGrp]) rfl (enters_of Try.func113 (by kernel_rfl) rfl) (encs := fun x : Int => #[.int .i64 x]) (xs := exHooks) (B := w1.heap.size) (Nat.le_refl _) (fun _ => rfl)
    (exHooks_iter _ _)
    (fun pre W' => ∃ v, MkAt w (w1.heap.size + 2) v pre W')
    ?stable ?start2
    (fun x a1 _ => a1 = { tmps := #[Value.int IntKind.i64 4, Value.slice (some ⟨g, 0, none⟩) 1 1, undef, undef, Value.pointer (some ⟨w.heap.size, 0, none⟩), Value.int IntKind.i64 0, Value.int IntKind.i64 0, Value.int IntKind.i64 0, Value.pointer (some ⟨w.heap.size + 1 + 1, 0, none⟩), .int .i64 x, Value.int IntKind.i64 4, Value.slice (some ⟨w.heap.size + 1, 0, none⟩) 1 1, Value.bool true, Value.bool false, undef, Value.slice (some ⟨g, 0, none⟩) 1 1, Value.int IntKind.i64 1, Value.bool false, undef, Value.slice (some ⟨g, 0, none⟩) 1 1, Value.int IntKind.i64 1, Value.bool false, undef, Value.int IntKind.i64 4, Value.pointer (some ⟨w.heap.size, 0, none⟩), Value.slice (some ⟨g, 0, none⟩) 1 1, Value.int IntKind.i64 1, Value.int IntKind.i64 0, Value.bool true, Value.int IntKind.i64 0, Value.pointer (some ⟨g, 0, none⟩), Value.agg #[Value.int IntKind.i64 0, Value.int IntKind.i64 3, Value.int IntKind.i64 2, Value.int IntKind.i64 1], Value.agg #[Value.int IntKind.i64 0, Value.int IntKind.i64 3, Value.int IntKind.i64 2, Value.int IntKind.i64 1], Value.agg #[Value.int IntKind.i64 0, Value.int IntKind.i64 3, Value.int IntKind.i64 2, Value.int IntKind.i64 1], Value.int IntKind.i64 4, Value.bool true, Value.bool false, undef, undef, Value.agg #[Value.int IntKind.i64 0, Value.int IntKind.i64 3, Value.int IntKind.i64 2, Value.int IntKind.i64 1], Value.agg #[Value.int IntKind.i64 0, Value.int IntKind.i64 3, Value.int IntKind.i64 2, Value.int IntKind.i64 1], Value.func (Fn.func 113) #[Value.agg #[Value.int IntKind.i64 0, Value.int IntKind.i64 3, Value.int IntKind.i64 2, Value.int IntKind.i64 1]] #[], .int .i64 x, undef, undef, undef, undef, undef, undef, undef, undef, undef, undef, undef, undef, undef, undef], defers := [] })
    ?stableA ?assign ?body ?done
  case stable =>
    rintro s A A' ⟨v, a1⟩ hc
    exact ⟨v, a1.calm hc (by omega)⟩
  case start2 => exact ⟨_, HM0.out⟩
  case stableA => exact fun _ _ _ _ h _ => h
  case assign =>
    intro l x W' K hK
    gi_wp2
    exact hK _ _ (Below.refl _ _) rfl
  case body =>
    rintro l pre x _ W' ⟨v, hf⟩ rfl hpre hsz
    have hlen : pre.length ≤ 6 := by have := prefix_len hpre; simp [exHooks] at this; omega
    have b1 : W'.cell? ⟨w.heap.size, 1, none⟩ = some v := hf.box.cell' 1 rfl
    have HF := Lib.hid hf
    have hzz : w.heap.size < W'.heap.size := hf.box.lt
    clear hf HM0 y0 y1 y2 y3
    gi_wp2_with (gi_at_builtin; refine Shut.out ?_)
    unfold Shut
    refine app_oneIn elemInt rfl _ _ rfl (w.heap.size + 1) v pre.length (pre.map intV) #[.int .i64 x] rfl HF.out.row rfl rfl (by simp [Value.oneCell']) (by omega) (by decide) (by omega) ?_
    intro g5 cap w5 hg
    obtain ⟨hbx, hM, hko, hkc⟩ := HF.out.grew hsz hg
    have f1 := hbx.frozen 1
    have c1 : w5.cell? ⟨w.heap.size, 1, none⟩ = some v := hbx.cell' 1 rfl
    have HM := Lib.hid hM
    have HK := Lib.hid (hko.trans (KeepsOthers.setCell w5 ⟨w.heap.size, 1, none⟩ (.slice (some ⟨g5, 0, none⟩) (pre.length + 1) cap)))
    have HC := Lib.hid hkc
    clear hg hM hbx hko hkc
    gi_wp2_with fail
    refine ⟨HK.out.from _, ⟨_, HM.out⟩, fun j => ?_⟩
    exact (World.cell?_of_block (w := w5) (Below.heap_setCell _ _ _ _ (by simp; omega))).trans (HC.out j)
  case done =>
    rintro W' hlt' ⟨v, hf⟩ hD
    obtain ⟨g5, cap, rfl⟩ : ∃ g5 cap, v = .slice (some ⟨g5, 0, none⟩) 6 cap := by
      obtain ⟨_, h2 | ⟨q, cap, cur, e, _⟩⟩ := hf.row
      · have := h2.2; simp [exHooks] at this
      · exact ⟨q, cap, e⟩
    have b0 : W'.cell? ⟨w.heap.size, 0, none⟩ = some (.int .i64 4) := hf.box.cell' 0 rfl
    have b1 : W'.cell? ⟨w.heap.size, 1, none⟩ = some (.slice (some ⟨g5, 0, none⟩) 6 cap) := hf.box.cell' 1 rfl
    have f0 := hf.box.frozen 0
    have f1 := hf.box.frozen 1
    have HF := Lib.hid hf
    have hzz : w.heap.size < w1.heap.size := by omega
    clear hf HM0 y0 y1 y2 y3
    gi_wp2
    rw [roundsIn_succ]
    gi_wp2
    obtain ⟨X, hX⟩ : ∃ X, (W'.setCell ⟨w.heap.size, 0, none⟩ (.int .i64 4)).setCell ⟨w.heap.size, 1, none⟩ (.slice (some ⟨g5, 0, none⟩) 6 cap) = X := ⟨_, rfl⟩
    have hKX : X.heap[w1.heap.size]? = some (.deferred (some [])) := by
      rw [← hX]
      exact ((KeepsOthers.setCell W' ⟨w.heap.size, 0, none⟩ (.int .i64 4)).trans (KeepsOthers.setCell _ ⟨w.heap.size, 1, none⟩ (.slice (some ⟨g5, 0, none⟩) 6 cap))).same _ _ hD rfl
    have hBX : BoxAt X w.heap.size #[.int .i64 4, .slice (some ⟨g5, 0, none⟩) 6 cap] 26 := by rw [← hX]; exact (HF.out.box.set 0 _).set 1 _
    have hbX : Below w.heap.size w X := by rw [← hX]; exact (HF.out.b.setCell (by simp) _).setCell (by simp) _
    have hrX : X.ownsRow w.heap.size 3 1 (.slice (some ⟨g5, 0, none⟩) 6 cap) 6 (exHooks.map intV) := by
      rw [← hX]
      have h := HF.out.row
      have hn := own_far h (show w.heap.size < w.heap.size + 1 by omega)
      exact own_base (own_set (own_set h ⟨w.heap.size, 0, none⟩ _ hn) ⟨w.heap.size, 1, none⟩ _ hn) (by omega)
    rw [hX]
    refine leaves_marks (B := w.heap.size) (v := .tuple #[.agg #[.int .i64 4, .slice (some ⟨g5, 0, none⟩) 6 cap], .int .i64 0, .int .i64 0]) [w1.heap.size] _ (fun D hD' => ?_) (by simp) fun w' hc => ⟨?_, _, rfl, own_calm hrX hc, hc.below hbX (Nat.le_refl _)⟩
    · obtain rfl : D = w1.heap.size := by simpa using hD'
      exact ⟨by omega, hKX⟩
    · have e0 := (hBX.calm hc).cell' (v := .int .i64 4) 0 rfl
      have e1 := (hBX.calm hc).cell' (v := .slice (some ⟨g5, 0, none⟩) 6 cap) 1 rfl
      simp [results, Try.f24, go_sem, e0, e1]
end Go.Proofs.Ytdmgffoikebgkaa
