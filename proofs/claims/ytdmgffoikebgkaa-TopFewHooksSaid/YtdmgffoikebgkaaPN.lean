/- Make at a straight group; what TopTurnedOver needs besides: the contracts of Mirror, Back and Make with the length as a letter; cards all turned; bytes of a cloth. -/
import Derived.Test.YtdmgffoikebgkaaPH
import Derived.Test.YtdmgffoikebgkaaTC
import Derived.Test.YtdmgffoikebgkaaVH
namespace Go.Proofs.Ytdmgffoikebgkaa
open Go.RowKit Go.Shelf
attribute [local go_sem] Oper.semAt_some

def strGrp (M m : Nat) : Array Value := #[.int .i64 0, .int .i64 (M : Int), .int .i64 1, .int .i64 (m : Int)]
def strN (N T : Nat) : List Nat := (List.range T).map fun i => i % N
def strHooks (N T : Nat) : List Int := (List.range T).map fun i => ((i % N : Nat) : Int)
theorem strHooks_len (N T : Nat) : (strHooks N T).length = T := by simp [strHooks]
theorem strN_len (N T : Nat) : (strN N T).length = T := by simp [strN]
theorem strHooks_nth (N T k : Nat) (h : k < T) : nthI (strHooks N T) k = ((k % N : Nat) : Int) := by
  unfold nthI; simp [strHooks, h]
theorem strN_nth (N T k : Nat) (h : k < T) : nthN (strN N T) k = k % N := by
  unfold nthN; simp [strN, h]
theorem str_map (N T : Nat) : (strHooks N T).map intV = (strN N T).map natV := by
  simp only [strHooks, strN, List.map_map]
  rfl
set_option maxHeartbeats 1000000 in
theorem strHooks_iter (n size N M m T : Nat) (hN1 : 1 ≤ N) (hN2 : N ≤ 24) (hNM : N = M + 1) (hT : N * m = T) (hT2 : T ≤ 96) : Iter Try.prog n (n - 1) 113 #[.agg (strGrp M m)] (fun x : Int => #[.int .i64 x]) (strHooks N T) size := by
  intro l J W hW hJ hY h0
  subst hW
  refine callsIn_of_wp Try.func113 rfl trivial ?_ rfl
  simp only [Try.ntmps113, List.size_toArray, List.length_cons, List.length_nil, Nat.reduceAdd, Nat.reduceSub, Array.replicate_succ, Array.replicate_zero, List.push_toArray, List.append_toArray, List.nil_append, List.cons_append]
  have hB0 : BoxAt (W.alloc (.cells (strGrp M m) 152)) W.heap.size (strGrp M m) 152 := BoxAt.new _ _ _
  have hJ0 : J [] (W.alloc (.cells (strGrp M m) 152)) := hJ _ _ _ h0 ((Below.refl _ _).alloc (Nat.le_refl _) _)
  have HB0 := Lib.hid hB0
  have HJ0 := Lib.hid hJ0
  have hM3 : M ≤ 23 := by omega
  have hM0 : ¬ (M : Int) < 0 := by omega
  have hM1 : (M : Int) + 1 = (N : Int) := by omega
  have hMT : (N : Int) * (m : Int) = (T : Int) := by rw [← hT]; push_cast; rfl
  have HNM := Lib.hid hNM
  clear hB0 hJ0 hT hNM
  unfold strGrp at HB0 HJ0 ⊢
  gi_wp2
  gi_loopw [38] (fun i wr => ∃ k : Nat, k ≤ T ∧ i = .int .i64 k ∧ wr.cell? ⟨W.heap.size, 0, none⟩ = some (.int .i64 0) ∧ J ((strHooks N T).take k) wr) (fun i _ => T - (intOf i).toNat)
  case atStart => exact ⟨0, Nat.zero_le _, rfl, BoxAt.cell' HB0.out 0 rfl, HJ0.out⟩
  case round =>
    obtain ⟨k, hk, rfl, c0, hJ2⟩ := hrel
    clear HB0 HJ0 hM0 hM1 hMT
    by_cases hlt : k < T
    · obtain ⟨fn, tmps, assign, body, hy, hR⟩ := hY ((strHooks N T).take k) (nthI (strHooks N T) k) _ hJ2 (by rw [← takeI_succ (strHooks N T) k (by rw [strHooks_len]; exact hlt)]; exact List.take_prefix _ _) (World.block_lt_of_cell? _ _ c0)
      clear hJ2
      have Htk := Lib.hid (takeI_succ (strHooks N T) k (by rw [strHooks_len]; exact hlt))
      have hn := strHooks_nth N T k hlt
      have hr := Nat.mod_lt k (show 0 < N by omega)
      obtain ⟨r, hr2⟩ : ∃ r, k % N = r := ⟨_, rfl⟩
      rw [hr2] at hn hr
      have hm : (k : Int) % (N : Int) = (r : Int) := by rw [← hr2]; exact (Int.natCast_emod k N).symm
      have hn0 : ¬ (N : Int) = 0 := by omega
      have hrM : r ≤ M := by have := HNM.out; omega
      rw [hn] at hy
      have Hy := Lib.hid hy
      clear hn hr2 hy
      gi_wp2
      have hy := Hy.out
      rw [hy]
      gi_wp2
      refine ⟨fun h => by simp [Fence.wide] at h, hR.mono ?_⟩
      rintro e W3 ⟨rfl, hJ3, hz3, hk3⟩
      have HJ3 := Lib.hid hJ3
      have c3 := (hk3 0).trans c0
      clear hJ3
      gi_wp2
      go_roundw
      case rel => exact ⟨k + 1, by omega, by go_num, c3, by rw [Htk.out]; exact HJ3.out⟩
      case measure => simp [intOf]; omega
    · obtain rfl : k = T := by omega
      have HJ := Lib.hid hJ2
      clear hJ2
      gi_wp2
      go_end0
      exact ⟨⟨_, rfl⟩, by have := HJ.out; rwa [List.take_of_length_le (by rw [strHooks_len]; omega)] at this⟩
set_option maxHeartbeats 1000000 in
theorem strIsOf (N M m : Nat) (w : World) (hN2 : N ≤ 24) (hNM : N = M + 1) (hm0 : 1 ≤ m) (hm1 : m ≤ 8) : Calls Try.prog 112 #[.agg (strGrp M m), .int .i64 (N : Int)] w fun e w' => e = .returned (.bool true) ∧ Below w.heap.size w w' := by
  have H1 := Lib.hid (areFrom_true 0 (M : Int) (w.heap.size + 1) 0 2 [0, M] ((w.alloc (.cells (strGrp M m) 152)).alloc (.cells #[.int .i64 0, .int .i64 (M : Int)] 3)) (by simp) (fun i hi => by
    have : i = 0 ∨ i = 1 := by simp at hi; omega
    rcases this with rfl | rfl <;> simp [nthN]) (fun i hi => by
    have : i = 0 ∨ i = 1 := by simp at hi; omega
    rcases this with rfl | rfl <;> simp [nthN]))
  have h2 := areFrom_one 1 8 ((w.alloc (.cells (strGrp M m) 152)).alloc (.cells #[.int .i64 0, .int .i64 (M : Int)] 3)).heap.size 0 1 m (((w.alloc (.cells (strGrp M m) 152)).alloc (.cells #[.int .i64 0, .int .i64 (M : Int)] 3)).alloc (.cells #[.int .i64 (m : Int)] 3)) (BoxAt.cell' (BoxAt.new _ _ _) 0 rfl) (by omega) (by omega)
  simp only [World.size_alloc] at h2
  have H2 := Lib.hid h2
  have hM1 : (N : Int) - 1 = (M : Int) := by omega
  clear h2 hNM
  unfold strGrp at H1 H2
  unfold strGrp
  go_enter Try.func112, Try.ntmps112
  go_wp2_with fail
  refine H1.out.mono ?_
  rintro e w' ⟨rfl, rfl⟩
  go_wp2_with fail
  refine H2.out.mono ?_
  rintro e w' ⟨rfl, rfl⟩
  go_wp2_with fail
  go_ret
  exact ⟨rfl, (((Below.refl _ _).alloc (Nat.le_refl _) _).alloc (by simp) _).alloc (by simp; omega) _⟩
/-- what Make keeps between two warps, hooks by letter -/
structure MkS (N : Nat) (w0 : World) (S : Nat) (v : Value) (pre : List Int) (W : World) : Prop where
  box : BoxAt W w0.heap.size #[.int .i64 (N : Int), v] 26
  row : W.ownsRow (w0.heap.size + 1) 3 1 v pre.length (pre.map intV)
  b : Below w0.heap.size w0 W
  far : v.ownBlock ≠ some S
theorem MkS.calm {N : Nat} {w0 W W' : World} {S n : Nat} {v : Value} {pre : List Int} (h : MkS N w0 S v pre W) (hc : Calm n W W') (hn : w0.heap.size ≤ n) : MkS N w0 S v pre W' :=
  ⟨h.box.calm hc, own_calm h.row hc, (hc.mono hn).below h.b (Nat.le_refl _), h.far⟩
theorem MkS.grew {N : Nat} {w0 W W' : World} {S g5 cap : Nat} {v : Value} {pre : List Int} {z : Int} (h : MkS N w0 S v pre W) (hS : S < W.heap.size)
    (hg : Grew (w0.heap.size + 1) 3 1 W W' v g5 cap (pre.length + 1) (pre.map intV ++ [.int .i64 z])) :
    BoxAt W' w0.heap.size #[.int .i64 (N : Int), v] 26 ∧ MkS N w0 S (.slice (some ⟨g5, 0, none⟩) (pre.length + 1) cap) (pre ++ [z]) (W'.setCell ⟨w0.heap.size, 1, none⟩ (.slice (some ⟨g5, 0, none⟩) (pre.length + 1) cap))
      ∧ KeepsOthers W W' ∧ ∀ j, W'.cell? ⟨S, j, none⟩ = W.cell? ⟨S, j, none⟩ := by
  have hn : ∀ j, j < w0.heap.size + 1 → some j ≠ v.ownBlock := fun j hj => own_far h.row hj
  have hb := h.box.kept hg.grow (hn _ (by omega))
  refine ⟨hb, ⟨hb.set 1 _, ?_, ?_, ?_⟩, own_others h.row hg.grow, fun j => World.cell?_of_block (w := W) (hg.grow.block S hS (fun e => h.far e.symm))⟩
  · have hr := hg.row
    have := own_set hr ⟨w0.heap.size, 1, none⟩ (.slice (some ⟨g5, 0, none⟩) (pre.length + 1) cap) (own_far hr (by simp))
    rw [List.length_append, List.length_singleton, List.map_append]
    exact this
  · exact (h.b.grown hg.grow h.b.size (fun j hj => by have := (ownBlock_ge h.row hj).1; omega)).setCell (by simp) _
  · intro e
    simp [Value.ownBlock] at e
    subst e
    rcases hg.at' with h1 | h1
    · exact h.far h1
    · omega
set_option maxRecDepth 100000 in
set_option maxHeartbeats 2000000 in
theorem strMake (N M m T g : Nat) (w : World) (hN1 : 1 ≤ N) (hN2 : N ≤ 24) (hNM : N = M + 1) (hm0 : 1 ≤ m) (hm1 : m ≤ 8) (hT : N * m = T) (hT2 : T ≤ 96) (hx : BoxAt w g (strGrp M m) 32) :
    Calls Try.prog 24 #[.int .i64 (N : Int), .slice (some ⟨g, 0, none⟩) 1 1] w fun e w' =>
      ∃ v, e = .returned (.tuple #[.agg #[.int .i64 (N : Int), v], .int .i64 0, .int .i64 0]) ∧ w'.ownsRow w.heap.size 3 1 v T ((strHooks N T).map intV) ∧ Below w.heap.size w w' := by
  have hgl := hx.lt
  have HX := Lib.hid hx
  have hT0 : 1 ≤ T := by rw [← hT]; exact Nat.mul_pos (by omega) (by omega)
  have HNM := Lib.hid hNM
  have HT := Lib.hid hT
  have hT3 : T ≠ 0 := by omega
  clear hNM hT
  have HA := Lib.hid (areFrom_one 1 24 (w.heap.size + 1) 0 1 N ((w.alloc (.cells #[.int .i64 0, .slice none 0 0] 26)).alloc (.cells #[.int .i64 (N : Int)] 3)) (by simp) (by omega) (by omega))
  have x0 := hx.cell' (v := .int .i64 0) 0 rfl
  have x1 := hx.cell' (v := .int .i64 (M : Int)) 1 rfl
  have x2 := hx.cell' (v := .int .i64 1) 2 rfl
  have x3 := hx.cell' (v := .int .i64 (m : Int)) 3 rfl
  have hne : ¬ g = w.heap.size := by omega
  clear hx
  obtain ⟨nf, _⟩ : ∃ nf : Nat, nf = nf := ⟨3, rfl⟩
  refine (callsIn_wide (n := nf)).1 ?_
  refine callsIn_of_wp_marks Try.func24 rfl trivial ?_ rfl
  simp only [Try.ntmps24, List.size_toArray, List.length_cons, List.length_nil, Nat.reduceAdd, Nat.reduceSub, Array.replicate_succ, Array.replicate_zero, List.push_toArray, List.append_toArray, List.nil_append, List.cons_append]
  gi_wp2_with fail
  refine wideCall HA.out ?_
  rintro e w' ⟨rfl, rfl⟩
  gi_wp2_with fail
  refine wpIn_loop_rounds 2 ?_
  rw [roundsIn_succ]
  gi_wp2_with fail
  refine wideCall (strIsOf N M m _ hN2 HNM.out hm0 hm1) ?_
  rintro e w1 ⟨rfl, hb⟩
  have hbx : BoxAt w1 (w.heap.size + 1 + 1) (strGrp M m) 32 := by
    have := BoxAt.next (BoxAt.new ((w.alloc (.cells #[.int .i64 (N : Int), .slice none 0 0] 26)).alloc (.cells #[.int .i64 (N : Int)] 3)) (strGrp M m) 32) hb
    rwa [World.size_alloc, World.size_alloc] at this
  have hrb : BoxAt w1 w.heap.size #[.int .i64 (N : Int), .slice none 0 0] 26 :=
    BoxAt.below (BoxAt.new w #[.int .i64 (N : Int), .slice none 0 0] 26) ((((Below.refl (w.heap.size + 1) _).alloc (by simp) (.cells #[.int .i64 (N : Int)] 3)).alloc (by simp) (.cells (strGrp M m) 32)).trans (hb.mono (by simp))) (by omega)
  have hbw : Below w.heap.size w w1 := ((((Below.refl w.heap.size w).alloc (Nat.le_refl _) (.cells #[.int .i64 (N : Int), .slice none 0 0] 26)).alloc (by simp) (.cells #[.int .i64 (N : Int)] 3)).alloc (by simp; omega) (.cells (strGrp M m) 32)).trans (hb.mono (by simp; omega))
  have y0 := hbx.cell' (v := .int .i64 0) 0 rfl
  have y1 := hbx.cell' (v := .int .i64 (M : Int)) 1 rfl
  have y2 := hbx.cell' (v := .int .i64 1) 2 rfl
  have y3 := hbx.cell' (v := .int .i64 (m : Int)) 3 rfl
  have hM0 : MkS N w (w1.heap.size + 2) (.slice none 0 0) [] w1 := ⟨hrb, World.ownsRow_nil _ _ _ _, hbw, by simp [Value.ownBlock]⟩
  have HM0 := Lib.hid hM0
  have hz := hbx.lt
  clear hb hbx hrb hbw hM0 HA HX x0 x1 x2 x3
  gi_wp2_with fail
  refine rangeB (gf := 113) (rb := #[.agg (strGrp M m)]) rfl (enters_of Try.func113 (by kernel_rfl) rfl) (encs := fun x : Int => #[.int .i64 x]) (xs := strHooks N T) (B := w1.heap.size) (Nat.le_refl _) (fun _ => rfl)
    (strHooks_iter _ _ N M m T hN1 hN2 HNM.out HT.out hT2)
    (fun pre W' => ∃ v, MkS N w (w1.heap.size + 2) v pre W')
    ?stable ?start2
    (fun x a1 _ => a1 = { tmps := #[Value.int IntKind.i64 (N : Int), Value.slice (some ⟨g, 0, none⟩) 1 1, undef, undef, Value.pointer (some ⟨w.heap.size, 0, none⟩), Value.int IntKind.i64 0, Value.int IntKind.i64 0, Value.int IntKind.i64 0, Value.pointer (some ⟨w.heap.size + 1 + 1, 0, none⟩), .int .i64 x, Value.int IntKind.i64 (N : Int), Value.slice (some ⟨w.heap.size + 1, 0, none⟩) 1 1, Value.bool true, Value.bool false, undef, Value.slice (some ⟨g, 0, none⟩) 1 1, Value.int IntKind.i64 1, Value.bool false, undef, Value.slice (some ⟨g, 0, none⟩) 1 1, Value.int IntKind.i64 1, Value.bool false, undef, Value.int IntKind.i64 (N : Int), Value.pointer (some ⟨w.heap.size, 0, none⟩), Value.slice (some ⟨g, 0, none⟩) 1 1, Value.int IntKind.i64 1, Value.int IntKind.i64 0, Value.bool true, Value.int IntKind.i64 0, Value.pointer (some ⟨g, 0, none⟩), Value.agg #[Value.int IntKind.i64 0, Value.int IntKind.i64 (M : Int), Value.int IntKind.i64 1, Value.int IntKind.i64 (m : Int)], Value.agg #[Value.int IntKind.i64 0, Value.int IntKind.i64 (M : Int), Value.int IntKind.i64 1, Value.int IntKind.i64 (m : Int)], Value.agg #[Value.int IntKind.i64 0, Value.int IntKind.i64 (M : Int), Value.int IntKind.i64 1, Value.int IntKind.i64 (m : Int)], Value.int IntKind.i64 (N : Int), Value.bool true, Value.bool false, undef, undef, Value.agg #[Value.int IntKind.i64 0, Value.int IntKind.i64 (M : Int), Value.int IntKind.i64 1, Value.int IntKind.i64 (m : Int)], Value.agg #[Value.int IntKind.i64 0, Value.int IntKind.i64 (M : Int), Value.int IntKind.i64 1, Value.int IntKind.i64 (m : Int)], Value.func (Fn.func 113) #[Value.agg #[Value.int IntKind.i64 0, Value.int IntKind.i64 (M : Int), Value.int IntKind.i64 1, Value.int IntKind.i64 (m : Int)]] #[], .int .i64 x, undef, undef, undef, undef, undef, undef, undef, undef, undef, undef, undef, undef, undef, undef], defers := [] })
    ?stableA ?assign ?body ?done
  case stable =>
    rintro s A A' ⟨v, a1⟩ hc
    exact ⟨v, a1.calm hc (by omega)⟩
  case start2 => exact ⟨_, HM0.out⟩
  case stableA => exact fun _ _ _ _ h _ => h
  case assign =>
    intro l x W' K hK
    gi_wp2
    exact hK _ _ (Below.refl _ _) rfl
  case body =>
    rintro l pre x _ W' ⟨v, hf⟩ rfl hpre hsz
    have hlen : pre.length ≤ 96 := by have := prefix_len hpre; rw [strHooks_len] at this; simp at this; omega
    have b1 : W'.cell? ⟨w.heap.size, 1, none⟩ = some v := hf.box.cell' 1 rfl
    have HF := Lib.hid hf
    have hzz : w.heap.size < W'.heap.size := hf.box.lt
    clear hf HM0 y0 y1 y2 y3
    gi_wp2_with (gi_at_builtin; refine Shut.out ?_)
    unfold Shut
    refine app_oneIn elemInt rfl _ _ rfl (w.heap.size + 1) v pre.length (pre.map intV) #[.int .i64 x] rfl HF.out.row rfl rfl (by simp [Value.oneCell']) (by omega) (by decide) (by omega) ?_
    intro g5 cap w5 hg
    obtain ⟨hbx, hM, hko, hkc⟩ := HF.out.grew hsz hg
    have f1 := hbx.frozen 1
    have c1 : w5.cell? ⟨w.heap.size, 1, none⟩ = some v := hbx.cell' 1 rfl
    have HM := Lib.hid hM
    have HK := Lib.hid (hko.trans (KeepsOthers.setCell w5 ⟨w.heap.size, 1, none⟩ (.slice (some ⟨g5, 0, none⟩) (pre.length + 1) cap)))
    have HC := Lib.hid hkc
    clear hg hM hbx hko hkc
    gi_wp2_with fail
    refine ⟨HK.out.from _, ⟨_, HM.out⟩, fun j => ?_⟩
    exact (World.cell?_of_block (w := w5) (Below.heap_setCell _ _ _ _ (by simp; omega))).trans (HC.out j)
  case done =>
    rintro W' hlt' ⟨v, hf⟩ hD
    obtain ⟨g5, cap, rfl⟩ : ∃ g5 cap, v = .slice (some ⟨g5, 0, none⟩) T cap := by
      obtain ⟨_, h2 | ⟨q, cap, cur, e, _⟩⟩ := hf.row
      · have := h2.2; rw [strHooks_len] at this; omega
      · rw [strHooks_len] at e; exact ⟨q, cap, e⟩
    have b0 : W'.cell? ⟨w.heap.size, 0, none⟩ = some (.int .i64 (N : Int)) := hf.box.cell' 0 rfl
    have b1 : W'.cell? ⟨w.heap.size, 1, none⟩ = some (.slice (some ⟨g5, 0, none⟩) T cap) := hf.box.cell' 1 rfl
    have f0 := hf.box.frozen 0
    have f1 := hf.box.frozen 1
    have HF := Lib.hid hf
    have hzz : w.heap.size < w1.heap.size := by omega
    clear hf HM0 y0 y1 y2 y3
    gi_wp2
    rw [roundsIn_succ]
    gi_wp2
    obtain ⟨X, hX⟩ : ∃ X, (W'.setCell ⟨w.heap.size, 0, none⟩ (.int .i64 (N : Int))).setCell ⟨w.heap.size, 1, none⟩ (.slice (some ⟨g5, 0, none⟩) T cap) = X := ⟨_, rfl⟩
    have hKX : X.heap[w1.heap.size]? = some (.deferred (some [])) := by
      rw [← hX]
      exact ((KeepsOthers.setCell W' ⟨w.heap.size, 0, none⟩ (.int .i64 (N : Int))).trans (KeepsOthers.setCell _ ⟨w.heap.size, 1, none⟩ (.slice (some ⟨g5, 0, none⟩) T cap))).same _ _ hD rfl
    have hBX : BoxAt X w.heap.size #[.int .i64 (N : Int), .slice (some ⟨g5, 0, none⟩) T cap] 26 := by rw [← hX]; exact (HF.out.box.set 0 _).set 1 _
    have hbX : Below w.heap.size w X := by rw [← hX]; exact (HF.out.b.setCell (by simp) _).setCell (by simp) _
    have hrX : X.ownsRow w.heap.size 3 1 (.slice (some ⟨g5, 0, none⟩) T cap) T ((strHooks N T).map intV) := by
      rw [← hX]
      have h := HF.out.row
      rw [strHooks_len] at h
      have hn := own_far h (show w.heap.size < w.heap.size + 1 by omega)
      exact own_base (own_set (own_set h ⟨w.heap.size, 0, none⟩ _ hn) ⟨w.heap.size, 1, none⟩ _ hn) (by omega)
    rw [hX]
    refine leaves_marks (B := w.heap.size) (v := .tuple #[.agg #[.int .i64 (N : Int), .slice (some ⟨g5, 0, none⟩) T cap], .int .i64 0, .int .i64 0]) [w1.heap.size] _ (fun D hD' => ?_) (by simp) fun w' hc => ⟨?_, _, rfl, own_calm hrX hc, hc.below hbX (Nat.le_refl _)⟩
    · obtain rfl : D = w1.heap.size := by simpa using hD'
      exact ⟨by omega, hKX⟩
    · have e0 := (hBX.calm hc).cell' (v := .int .i64 (N : Int)) 0 rfl
      have e1 := (hBX.calm hc).cell' (v := .slice (some ⟨g5, 0, none⟩) T cap) 1 rfl
      simp [results, Try.f24, go_sem, e0, e1]
end Go.Proofs.Ytdmgffoikebgkaa
namespace Go.Proofs.Ytdmgffoikebgkaa
open Go.RowKit Go.Shelf

def mirL (n : Nat) (xs : List Nat) : List Nat := painted (fun i j => miG xs n i j) xs.length n
def bacL (n : Nat) (xs : List Nat) : List Nat := painted (fun i j => baG xs i j) xs.length n
theorem mirL_len (n : Nat) (xs : List Nat) : (mirL n xs).length = xs.length := painted_len _ _ _
theorem bacL_len (n : Nat) (xs : List Nat) : (bacL n xs).length = xs.length := painted_len _ _ _
theorem painted_nth (g : Nat → Nat → Bool) (np nh i : Nat) (h : i < np) : nthN (painted g np nh) i = rowTo (g i) nh := by
  rw [nthN_get _ _ (by rw [painted_len]; exact h)]; simp [painted]
theorem mirL_nth (n : Nat) (xs : List Nat) (i : Nat) (h : i < xs.length) : nthN (mirL n xs) i = mirN n (nthN xs i) := painted_nth _ _ _ _ h
theorem painted_valid {n : Nat} {xs : List Nat} (hv : Valid n xs) (g : Nat → Nat → Bool) : Valid n (painted g xs.length n) := by
  refine ⟨hv.n0, hv.n1, by rw [painted_len]; exact hv.l0, by rw [painted_len]; exact hv.l1, fun i => ?_⟩
  by_cases h : i < xs.length
  · rw [painted_nth _ _ _ _ h]; exact rowTo_lt _ _
  · have : nthN (painted g xs.length n) i = 0 := by unfold nthN; rw [List.getElem?_eq_none (by rw [painted_len]; omega)]; rfl
    rw [this]; exact Nat.pow_pos (by decide)
theorem call90 (n L b c : Nat) (xs : List Nat) (W : World) (hL : xs.length = L) (hv : Valid n xs) (hx : NatsAt W b 0 xs) (hb : b < W.heap.size) :
    Calls Try.prog 90 #[.agg #[.int .i64 (n : Int), .slice (some ⟨b, 0, none⟩) L c]] W fun e w' =>
      ∃ g cap, e = .returned (.tuple #[.agg #[.int .i64 (n : Int), .slice (some ⟨g, 0, none⟩) L cap], .int .i64 0]) ∧ NatsAt w' g 0 (mirL n xs) ∧ W.heap.size ≤ g ∧ g < w'.heap.size ∧ Below W.heap.size W w' := by
  subst hL
  refine (Mirror_ok n b 0 c xs W ⟨hx, hb, hv⟩).mono ?_
  rintro e w' ⟨R, rfl, h1, h2, h3⟩
  exact ⟨R, _, by rw [painted_len], h2.nats, h1, h2.lt, h3⟩
theorem call107 (n L b c : Nat) (xs : List Nat) (W : World) (hL : xs.length = L) (hv : Valid n xs) (hx : NatsAt W b 0 xs) (hb : b < W.heap.size) :
    Calls Try.prog 107 #[.agg #[.int .i64 (n : Int), .slice (some ⟨b, 0, none⟩) L c]] W fun e w' =>
      ∃ g cap, e = .returned (.tuple #[.agg #[.int .i64 (n : Int), .slice (some ⟨g, 0, none⟩) L cap], .int .i64 0]) ∧ NatsAt w' g 0 (bacL n xs) ∧ W.heap.size ≤ g ∧ g < w'.heap.size ∧ Below W.heap.size W w' := by
  subst hL
  refine (Back_ok n b 0 c xs W ⟨hx, hb, hv⟩).mono ?_
  rintro e w' ⟨R, rfl, h1, h2, h3⟩
  exact ⟨R, _, by rw [painted_len], h2.nats, h1, h2.lt, h3⟩
theorem call24 (N M m T g : Nat) (w : World) (hN1 : 1 ≤ N) (hN2 : N ≤ 24) (hNM : N = M + 1) (hm0 : 1 ≤ m) (hm1 : m ≤ 8) (hT : N * m = T) (hT2 : T ≤ 96) (hx : BoxAt w g (strGrp M m) 32) :
    Calls Try.prog 24 #[.int .i64 (N : Int), .slice (some ⟨g, 0, none⟩) 1 1] w fun e w' =>
      ∃ g' cap, e = .returned (.tuple #[.agg #[.int .i64 (N : Int), .slice (some ⟨g', 0, none⟩) T cap], .int .i64 0, .int .i64 0]) ∧ NatsAt w' g' 0 (strN N T) ∧ w.heap.size ≤ g' ∧ g' < w'.heap.size ∧ Below w.heap.size w w' := by
  have hT0 : 1 ≤ T := by rw [← hT]; exact Nat.mul_pos (by omega) (by omega)
  refine (strMake N M m T g w hN1 hN2 hNM hm0 hm1 hT hT2 hx).mono ?_
  rintro e w' ⟨v, rfl, h1, h2⟩
  rw [str_map] at h1
  obtain ⟨g', cap, rfl⟩ := row_slice h1 (by omega)
  obtain ⟨a, b, d⟩ := nats_of_row h1 (by omega)
  exact ⟨g', cap, rfl, a, d, b, h2⟩
/-- the cards, the first k turned -/
def turnT (xs : List Nat) (L k : Nat) : List Card := (List.range L).map fun i => ⟨i, nthN xs i, decide (i < k)⟩
theorem turnT_len (xs : List Nat) (L k : Nat) : (turnT xs L k).length = L := by simp [turnT]
theorem turnT_nth (xs : List Nat) (L k i : Nat) (h : i < L) : nthC (turnT xs L k) i = ⟨i, nthN xs i, decide (i < k)⟩ := by
  rw [nthC_get _ _ (by rw [turnT_len]; exact h)]; simp [turnT]
theorem turnT_zero (xs : List Nat) (L : Nat) : turnT xs L 0 = punched xs L := by simp [turnT, punched]
theorem turnT_succ (xs : List Nat) (L k : Nat) (h : k < L) : turnC (turnT xs L k) k true = turnT xs L (k + 1) := by
  apply List.ext_getElem?
  intro i
  unfold turnC
  rw [turnT_nth _ _ _ _ h, List.getElem?_set]
  by_cases e : k = i
  · subst e
    rw [if_pos rfl, if_pos (by rw [turnT_len]; exact h)]
    simp [turnT, h]
  · rw [if_neg e]
    simp only [turnT, List.getElem?_map]
    by_cases hi : i < L
    · rw [List.getElem?_range hi]
      simp only [Option.map_some, Option.some.injEq, Card.mk.injEq, true_and, decide_eq_decide]
      omega
    · rw [List.getElem?_eq_none (by simpa using hi)]; rfl
theorem turnT_ok {n : Nat} {xs : List Nat} (hv : Valid n xs) (L k : Nat) (hL : xs.length = L) : ChainOk n (turnT xs L k) := by
  subst hL
  have hd : ∀ i, ¬ i < xs.length → nthC (turnT xs xs.length k) i = ⟨0, 0, false⟩ := fun i hi => by unfold nthC; rw [List.getElem?_eq_none (by rw [turnT_len]; omega)]; rfl
  refine ⟨hv.n0, hv.n1, by rw [turnT_len]; exact hv.l0, by rw [turnT_len]; exact hv.l1, fun i => ?_, fun i => ?_⟩
  all_goals by_cases hi : i < xs.length
  · rw [turnT_nth _ _ _ _ hi]; exact hv.lt _
  · rw [hd i hi]; exact Nat.pow_pos (by decide)
  · rw [turnT_nth _ _ _ _ hi]; have := hv.l1; show i < 60; omega
  · rw [hd i hi]; decide
theorem woven_turned (n : Nat) (xs : List Nat) (L : Nat) (hL : xs.length = L) : wovenTo n (turnT xs L L) (List.replicate L 1) 0 L = mirL n xs := by
  subst hL
  apply List.ext_getElem?
  intro i
  by_cases hi : i < xs.length
  · have h1 : i < (mirL n xs).length := by rw [mirL_len]; exact hi
    rw [List.getElem?_eq_getElem (by rw [wovenTo_len]; exact hi), List.getElem?_eq_getElem h1]
    have h2 := mirL_nth n xs i hi
    rw [nthN_get _ _ h1] at h2
    rw [h2]
    simp only [wovenTo, List.getElem_map, List.getElem_range, turnT_len]
    rw [cyl_one _ _ hi, turnT_nth _ _ _ _ hi]
    simp [liftN, hi]
  · rw [List.getElem?_eq_none (by rw [wovenTo_len]; omega), List.getElem?_eq_none (by rw [mirL_len]; omega)]
/-- bytes of a cloth -/
theorem pickS_size (hs : List Nat) (row : Nat) : (pickS hs row).size = hs.length := by
  unfold pickS
  rw [strOfNums_size]
  simp [clothL]
theorem clothS_nth (hs xs : List Nat) (i : Nat) (h : i < xs.length) : nthB (clothS hs xs) i = pickS hs (nthN xs i) := by
  rw [nthB_get _ _ (by rw [clothS_len]; exact h)]; simp [clothS]
theorem mirN_bit (n x j : Nat) (hj : j < n) : bitN (mirN n x) j = bitN x (n - 1 - j) := by
  unfold mirN bitN
  rw [rowTo_bit]
  simp [hj]
end Go.Proofs.Ytdmgffoikebgkaa
namespace Go.Proofs.Ytdmgffoikebgkaa
open Go.RowKit Go.Shelf

theorem idx_pick (hs : List Nat) (row i : Nat) (hi : i < hs.length) (W : World) : (Instr.index 9 (.string (pickS hs row)) (.int .i64 (i : Int))).run Try.prog W = .ok (.int .u8 (clothB hs row i)) W := by
  rw [run_index_string W 9 (pickS hs row) .i64 (i : Int) Try.underlying9]
  have hsz := pickS_size hs row
  rw [dif_pos ⟨by omega, by omega⟩]
  congr 2
  have h1 : ((pickS hs row)[(i : Int).toNat]'(by omega)) = UInt8.ofNat (clothB hs row i).toNat := by
    show ((pickS hs row).data[(i : Int).toNat]'_) = _
    simp [pickS, strOfNums, clothL]
  rw [h1]
  unfold clothB
  split <;> rfl
/-- all that lies in memory where the cards are turned -/
structure SitT (w : World) (Y Z D P O g2 g4 g6 g9 g12 q2 q4 q6 q9 q12 N L : Nat) (DS : List Nat) (k : Nat) (W : World) : Prop where
  y : BoxAt W Y #[.int .i64 (N : Int), .slice (some ⟨g6, 0, none⟩) N q6] 26
  z : BoxAt W Z #[.int .i64 (N : Int), .slice (some ⟨g2, 0, none⟩) L q2] 37
  d : BoxAt W D #[.int .i64 (N : Int), .slice (some ⟨g4, 0, none⟩) L q4] 114
  p : BoxAt W P #[.int .i64 (N : Int), .slice (some ⟨g9, 0, none⟩) L q9] 37
  o : BoxAt W O #[.int .i64 (N : Int), .slice (some ⟨g12, 0, none⟩) L q12] 37
  n2 : NatsAt W g2 0 DS
  n6 : NatsAt W g6 0 (strN N N)
  n9 : NatsAt W g9 0 (mirL N DS)
  n12 : NatsAt W g12 0 (bacL N DS)
  l2 : g2 < W.heap.size
  l6 : g6 < W.heap.size
  l9 : g9 < W.heap.size
  l12 : g12 < W.heap.size
  c : CardBlk W g4 (turnT DS L k)
  b : Below w.heap.size w W
  ne : Y ≠ g4 ∧ Z ≠ g4 ∧ D ≠ g4 ∧ P ≠ g4 ∧ O ≠ g4 ∧ g2 ≠ g4 ∧ g6 ≠ g4 ∧ g9 ≠ g4 ∧ g12 ≠ g4 ∧ w.heap.size ≤ g4
theorem SitT.next {w : World} {Y Z D P O g2 g4 g6 g9 g12 q2 q4 q6 q9 q12 N L : Nat} {DS : List Nat} {k : Nat} {W W' : World} (h : SitT w Y Z D P O g2 g4 g6 g9 g12 q2 q4 q6 q9 q12 N L DS k W) (hb : Below W.heap.size W W') :
    SitT w Y Z D P O g2 g4 g6 g9 g12 q2 q4 q6 q9 q12 N L DS k W' := by
  have hs := hb.size
  exact ⟨h.y.next hb, h.z.next hb, h.d.next hb, h.p.next hb, h.o.next hb, h.n2.below hb h.l2, h.n6.below hb h.l6, h.n9.below hb h.l9, h.n12.below hb h.l12,
    Nat.lt_of_lt_of_le h.l2 hs, Nat.lt_of_lt_of_le h.l6 hs, Nat.lt_of_lt_of_le h.l9 hs, Nat.lt_of_lt_of_le h.l12 hs, h.c.next hb, h.b.trans (hb.mono h.b.size), h.ne⟩
theorem SitT.turn {w : World} {Y Z D P O g2 g4 g6 g9 g12 q2 q4 q6 q9 q12 N L : Nat} {DS : List Nat} {k : Nat} {W : World} (h : SitT w Y Z D P O g2 g4 g6 g9 g12 q2 q4 q6 q9 q12 N L DS k W) (hk : k < L) :
    SitT w Y Z D P O g2 g4 g6 g9 g12 q2 q4 q6 q9 q12 N L DS (k + 1) (W.setCell ⟨g4, k * 3 + 2, none⟩ (.bool true)) := by
  obtain ⟨e1, e2, e3, e4, e5, e6, e7, e8, e9, e10⟩ := h.ne
  have hz : ∀ a v, (W.setCell a v).heap.size = W.heap.size := fun a v => setCell_size _ _ _
  refine ⟨h.y.other _ _ e1, h.z.other _ _ e2, h.d.other _ _ e3, h.p.other _ _ e4, h.o.other _ _ e5, nats_setB h.n2 _ _ _ e6, nats_setB h.n6 _ _ _ e7, nats_setB h.n9 _ _ _ e8, nats_setB h.n12 _ _ _ e9,
    by rw [hz]; exact h.l2, by rw [hz]; exact h.l6, by rw [hz]; exact h.l9, by rw [hz]; exact h.l12, ?_, h.b.setCell e10 _, h.ne⟩
  rw [← turnT_succ _ _ _ hk]
  exact h.c.turn k true (by rw [turnT_len]; exact hk)
end Go.Proofs.Ytdmgffoikebgkaa
namespace Go.Proofs.Ytdmgffoikebgkaa
open Go.RowKit Go.Shelf

theorem cloth_cell {W X : World} {g L p : Nat} {hs xs : List Nat} (h : StrsAt W g 0 (clothS hs xs)) (hg : g < W.heap.size) (hb : Below W.heap.size W X) (hL : xs.length = L) (hp : p < L) : X.cell? ⟨g, p, none⟩ = some (.string (pickS hs (nthN xs p))) := by
  have := (h.below hb hg) p (by rw [clothS_len, hL]; exact hp)
  rw [Nat.zero_add, clothS_nth _ _ _ (by rw [hL]; exact hp)] at this
  exact this
theorem turned_byte (N x j : Nat) (hj : j < N) : clothB (strN N N) (mirN N x) (N - 1 - j) = clothB (strN N N) x j := by
  unfold clothB
  rw [strN_nth _ _ _ (by omega), strN_nth _ _ _ hj, Nat.mod_eq_of_lt (by omega), Nat.mod_eq_of_lt hj, mirN_bit _ _ _ (by omega), show N - 1 - (N - 1 - j) = j by omega]
theorem back_byte (N : Nat) (xs : List Nat) (p j : Nat) (hp : p < xs.length) (hj : j < N) : (clothB (strN N N) (nthN xs p) j == clothB (strN N N) (nthN (bacL N xs) p) j) = false := by
  have hb : bitN (nthN (bacL N xs) p) j = !bitN (nthN xs p) j := by
    unfold bacL
    rw [painted_nth _ _ _ _ hp]
    unfold bitN
    rw [rowTo_bit]
    simp [hj, baG, bitN]
  unfold clothB
  rw [strN_nth _ _ _ hj, Nat.mod_eq_of_lt hj, hb]
  cases bitN (nthN xs p) j <;> rfl
end Go.Proofs.Ytdmgffoikebgkaa
