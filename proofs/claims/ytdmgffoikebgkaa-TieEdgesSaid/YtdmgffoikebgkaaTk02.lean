/- Harness ties: Make with one point group between any two hooks. -/
import Derived.Test.YtdmgffoikebgkaaTb01
import Derived.Test.YtdmgffoikebgkaaTb02
import Derived.Test.YtdmgffoikebgkaaTb03
import Derived.Test.YtdmgffoikebgkaaTb04
import Derived.Test.YtdmgffoikebgkaaTb05
import Derived.Test.YtdmgffoikebgkaaTb06
import Derived.Test.YtdmgffoikebgkaaTb07
import Derived.Test.YtdmgffoikebgkaaTb08
import Derived.Test.YtdmgffoikebgkaaTb09
import Derived.Test.YtdmgffoikebgkaaTb10
import Derived.Test.YtdmgffoikebgkaaTb11
import Derived.Test.YtdmgffoikebgkaaTb12
import Derived.Test.YtdmgffoikebgkaaTb13
import Derived.Test.YtdmgffoikebgkaaTb14
import Derived.Test.YtdmgffoikebgkaaTb15
import Derived.Test.YtdmgffoikebgkaaTb16
import Derived.Test.YtdmgffoikebgkaaTb17
import Derived.Test.YtdmgffoikebgkaaTb18
import Derived.Test.YtdmgffoikebgkaaTb19
import Derived.Test.YtdmgffoikebgkaaTb20
import Derived.Test.YtdmgffoikebgkaaTk01
import Derived.Deep.DeepCutAuto
import Derived.Deep.QuietTactic
import Derived.BigQuiet
namespace Go.Proofs.Ytdmgffoikebgkaa
open Go.RowKit Go.Shelf
attribute [local go_sem] Oper.semAt_some

set_option maxHeartbeats 1000000 in
theorem ptIsOf (H a b t : Nat) (w : World) (hH : H < 24) (ha : a ≤ H) (hb : b ≤ H) (ht : 1 ≤ t ∧ t ≤ 8) : Calls Try.prog 112 #[.agg (ptV a b t), .int .i64 ((H : Int) + 1)] w fun e w' => e = .returned (.bool true) ∧ Below w.heap.size w w' := by
  have H1 := Lib.hid (areFrom_true 0 H (w.heap.size + 1) 0 2 [a, b] ((w.alloc (.cells (ptV a b t) 152)).alloc (.cells #[.int .i64 (a : Int), .int .i64 (b : Int)] 3)) (by simp) (fun i hi => by
    have : i = 0 ∨ i = 1 := by simp at hi; omega
    rcases this with rfl | rfl <;> simp [nthN]) (fun i hi => by
    have : i = 0 ∨ i = 1 := by simp at hi; omega
    rcases this with rfl | rfl <;> simp [nthN] <;> omega))
  have h2 := areFrom_one 1 8 ((w.alloc (.cells (ptV a b t) 152)).alloc (.cells #[.int .i64 (a : Int), .int .i64 (b : Int)] 3)).heap.size 0 1 t (((w.alloc (.cells (ptV a b t) 152)).alloc (.cells #[.int .i64 (a : Int), .int .i64 (b : Int)] 3)).alloc (.cells #[.int .i64 (t : Int)] 3)) (BoxAt.cell' (BoxAt.new _ _ _) 0 rfl) (by omega) (by omega)
  simp only [World.size_alloc] at h2
  have H2 := Lib.hid h2
  clear h2
  unfold ptV at H1 H2
  unfold ptV
  have hLs : (H : Int) + 1 - 1 = (H : Int) := by omega
  go_enter Try.func112, Try.ntmps112
  go_wp2_with fail
  refine H1.out.mono ?_
  rintro e w' ⟨rfl, rfl⟩
  go_wp2_with fail
  refine H2.out.mono ?_
  rintro e w' ⟨rfl, rfl⟩
  go_wp2_with fail
  go_ret
  exact ⟨rfl, (((Below.refl _ _).alloc (Nat.le_refl _) _).alloc (by simp) _).alloc (by simp; omega) _⟩
set_option maxRecDepth 100000 in
set_option maxHeartbeats 2000000 in
theorem ptMake (H a b t g : Nat) (gs : List Nat) (w : World) (hH : H < 24) (ha : a ≤ H) (hb : b ≤ H) (ht : 1 ≤ t ∧ t ≤ 8) (hNp : 0 < gs.length) (hNl : gs.length ≤ 96)
    (hIt : ∀ n size, Iter Try.prog n (n - 1) 113 #[.agg (ptV a b t)] (fun x : Nat => #[.int .i64 (x : Int)]) gs size) (hx : BoxAt w g (ptV a b t) 32) :
    Calls Try.prog 24 #[.int .i64 ((H : Int) + 1), .slice (some ⟨g, 0, none⟩) 1 1] w fun e w' =>
      ∃ v, e = .returned (.tuple #[.agg #[.int .i64 ((H : Int) + 1), v], .int .i64 0, .int .i64 0]) ∧ w'.ownsRow w.heap.size 3 1 v gs.length (gs.map natV) ∧ Below w.heap.size w w' := by
  have hgl := hx.lt
  have HX := Lib.hid hx
  have HA := Lib.hid (areFrom_one 1 24 (w.heap.size + 1) 0 1 (H + 1) ((w.alloc (.cells #[.int .i64 0, .slice none 0 0] 26)).alloc (.cells #[.int .i64 ((H + 1 : Nat) : Int)] 3)) (by simp) (by omega) (by omega))
  have x0 := hx.cell' (v := .int .i64 (a : Int)) 0 rfl
  have x1 := hx.cell' (v := .int .i64 (b : Int)) 1 rfl
  have x2 := hx.cell' (v := .int .i64 2) 2 rfl
  have x3 := hx.cell' (v := .int .i64 (t : Int)) 3 rfl
  have hne : ¬ g = w.heap.size := by omega
  clear hx
  obtain ⟨nf, _⟩ : ∃ nf : Nat, nf = nf := ⟨3, rfl⟩
  refine (callsIn_wide (n := nf)).1 ?_
  refine callsIn_of_wp_marks Try.func24 rfl trivial ?_ rfl
  simp only [Try.ntmps24, List.size_toArray, List.length_cons, List.length_nil, Nat.reduceAdd, Nat.reduceSub, Array.replicate_succ, Array.replicate_zero, List.push_toArray, List.append_toArray, List.nil_append, List.cons_append]
  gi_wp2_with fail
  refine wideCall HA.out ?_
  rintro e w' ⟨rfl, rfl⟩
  gi_wp2_with fail
  refine wpIn_loop_rounds 2 ?_
  rw [roundsIn_succ]
  gi_wp2_with fail
  refine wideCall (ptIsOf H a b t _ hH ha hb ht) ?_
  rintro e w1 ⟨rfl, hb⟩
  have hbx : BoxAt w1 (w.heap.size + 1 + 1) (ptV a b t) 32 := by
    have := BoxAt.next (BoxAt.new ((w.alloc (.cells #[.int .i64 ((H : Int) + 1), .slice none 0 0] 26)).alloc (.cells #[.int .i64 ((H : Int) + 1)] 3)) (ptV a b t) 32) hb
    rwa [World.size_alloc, World.size_alloc] at this
  have hrb : BoxAt w1 w.heap.size #[.int .i64 ((H : Int) + 1), .slice none 0 0] 26 :=
    BoxAt.below (BoxAt.new w #[.int .i64 ((H : Int) + 1), .slice none 0 0] 26) ((((Below.refl (w.heap.size + 1) _).alloc (by simp) (.cells #[.int .i64 ((H : Int) + 1)] 3)).alloc (by simp) (.cells (ptV a b t) 32)).trans (hb.mono (by simp))) (by omega)
  have hbw : Below w.heap.size w w1 := ((((Below.refl w.heap.size w).alloc (Nat.le_refl _) (.cells #[.int .i64 ((H : Int) + 1), .slice none 0 0] 26)).alloc (by simp) (.cells #[.int .i64 ((H : Int) + 1)] 3)).alloc (by simp; omega) (.cells (ptV a b t) 32)).trans (hb.mono (by simp; omega))
  have y0 := hbx.cell' (v := .int .i64 (a : Int)) 0 rfl
  have y1 := hbx.cell' (v := .int .i64 (b : Int)) 1 rfl
  have y2 := hbx.cell' (v := .int .i64 2) 2 rfl
  have y3 := hbx.cell' (v := .int .i64 (t : Int)) 3 rfl
  have hM0 : MgAt w ((H : Int) + 1) (w1.heap.size + 2) (.slice none 0 0) [] w1 := ⟨hrb, World.ownsRow_nil _ _ _ _, hbw, by simp [Value.ownBlock]⟩
  have HM0 := Lib.hid hM0
  have hz := hbx.lt
  clear hb hbx hrb hbw hM0 HA HX x0 x1 x2 x3
  gi_wp2_with fail
  refine rangeB (gf := 113) (rb := #[.agg (ptV a b t)]) rfl (enters_of Try.func113 (by kernel_rfl) rfl) (encs := fun x : Nat => #[.int .i64 (x : Int)]) (xs := gs) (B := w1.heap.size) (Nat.le_refl _) (fun _ => rfl)
    (hIt _ _)
    (fun pre W' => ∃ v, MgAt w ((H : Int) + 1) (w1.heap.size + 2) v pre W')
    ?stable ?start2
    (fun x a1 _ => a1 = { tmps := #[Value.int IntKind.i64 ((H : Int) + 1), Value.slice (some ⟨g, 0, none⟩) 1 1, undef, undef, Value.pointer (some ⟨w.heap.size, 0, none⟩), Value.int IntKind.i64 0, Value.int IntKind.i64 0, Value.int IntKind.i64 0, Value.pointer (some ⟨w.heap.size + 1 + 1, 0, none⟩), .int .i64 (x : Int), Value.int IntKind.i64 ((H : Int) + 1), Value.slice (some ⟨w.heap.size + 1, 0, none⟩) 1 1, Value.bool true, Value.bool false, undef, Value.slice (some ⟨g, 0, none⟩) 1 1, Value.int IntKind.i64 1, Value.bool false, undef, Value.slice (some ⟨g, 0, none⟩) 1 1, Value.int IntKind.i64 1, Value.bool false, undef, Value.int IntKind.i64 ((H : Int) + 1), Value.pointer (some ⟨w.heap.size, 0, none⟩), Value.slice (some ⟨g, 0, none⟩) 1 1, Value.int IntKind.i64 1, Value.int IntKind.i64 0, Value.bool true, Value.int IntKind.i64 0, Value.pointer (some ⟨g, 0, none⟩), Value.agg #[Value.int IntKind.i64 (a : Int), Value.int IntKind.i64 (b : Int), Value.int IntKind.i64 2, Value.int IntKind.i64 (t : Int)], Value.agg #[Value.int IntKind.i64 (a : Int), Value.int IntKind.i64 (b : Int), Value.int IntKind.i64 2, Value.int IntKind.i64 (t : Int)], Value.agg #[Value.int IntKind.i64 (a : Int), Value.int IntKind.i64 (b : Int), Value.int IntKind.i64 2, Value.int IntKind.i64 (t : Int)], Value.int IntKind.i64 ((H : Int) + 1), Value.bool true, Value.bool false, undef, undef, Value.agg #[Value.int IntKind.i64 (a : Int), Value.int IntKind.i64 (b : Int), Value.int IntKind.i64 2, Value.int IntKind.i64 (t : Int)], Value.agg #[Value.int IntKind.i64 (a : Int), Value.int IntKind.i64 (b : Int), Value.int IntKind.i64 2, Value.int IntKind.i64 (t : Int)], Value.func (Fn.func 113) #[Value.agg #[Value.int IntKind.i64 (a : Int), Value.int IntKind.i64 (b : Int), Value.int IntKind.i64 2, Value.int IntKind.i64 (t : Int)]] #[], .int .i64 (x : Int), undef, undef, undef, undef, undef, undef, undef, undef, undef, undef, undef, undef, undef, undef], defers := [] })
    ?stableA ?assign ?body ?done
  case stable =>
    rintro s A A' ⟨v, a1⟩ hc
    exact ⟨v, a1.calm hc (by omega)⟩
  case start2 => exact ⟨_, HM0.out⟩
  case stableA => exact fun _ _ _ _ h _ => h
  case assign =>
    intro l x W' K hK
    gi_wp2
    exact hK _ _ (Below.refl _ _) rfl
  case body =>
    rintro l pre x _ W' ⟨v, hf⟩ rfl hpre hsz
    have hlen : pre.length ≤ 96 := by have := prefix_len hpre; rw [List.length_append] at this; omega
    have b1 : W'.cell? ⟨w.heap.size, 1, none⟩ = some v := hf.box.cell' 1 rfl
    have HF := Lib.hid hf
    have hzz : w.heap.size < W'.heap.size := hf.box.lt
    clear hf HM0 y0 y1 y2 y3
    gi_wp2_with (gi_at_builtin; refine Shut.out ?_)
    unfold Shut
    refine app_oneIn elemInt rfl _ _ rfl (w.heap.size + 1) v pre.length (pre.map natV) #[.int .i64 (x : Int)] rfl HF.out.row rfl rfl (by simp [Value.oneCell']) (by omega) (by decide) (by omega) ?_
    intro g5 cap w5 hg
    obtain ⟨hbx, hM, hko, hkc⟩ := HF.out.grew hsz hg
    have f1 := hbx.frozen 1
    have c1 : w5.cell? ⟨w.heap.size, 1, none⟩ = some v := hbx.cell' 1 rfl
    have HM := Lib.hid hM
    have HK := Lib.hid (hko.trans (KeepsOthers.setCell w5 ⟨w.heap.size, 1, none⟩ (.slice (some ⟨g5, 0, none⟩) (pre.length + 1) cap)))
    have HC := Lib.hid hkc
    clear hg hM hbx hko hkc
    gi_wp2_with fail
    refine ⟨HK.out.from _, ⟨_, HM.out⟩, fun j => ?_⟩
    exact (World.cell?_of_block (w := w5) (Below.heap_setCell _ _ _ _ (by simp; omega))).trans (HC.out j)
  case done =>
    rintro W' hlt' ⟨v, hf⟩ hD
    obtain ⟨g5, cap, rfl⟩ : ∃ g5 cap, v = .slice (some ⟨g5, 0, none⟩) gs.length cap := by
      exact row_slice hf.row hNp
    have b0 : W'.cell? ⟨w.heap.size, 0, none⟩ = some (.int .i64 ((H : Int) + 1)) := hf.box.cell' 0 rfl
    have b1 : W'.cell? ⟨w.heap.size, 1, none⟩ = some (.slice (some ⟨g5, 0, none⟩) gs.length cap) := hf.box.cell' 1 rfl
    have f0 := hf.box.frozen 0
    have f1 := hf.box.frozen 1
    have HF := Lib.hid hf
    have hzz : w.heap.size < w1.heap.size := by omega
    clear hf HM0 y0 y1 y2 y3
    gi_wp2
    rw [roundsIn_succ]
    gi_wp2
    obtain ⟨X, hX⟩ : ∃ X, (W'.setCell ⟨w.heap.size, 0, none⟩ (.int .i64 ((H : Int) + 1))).setCell ⟨w.heap.size, 1, none⟩ (.slice (some ⟨g5, 0, none⟩) gs.length cap) = X := ⟨_, rfl⟩
    have hKX : X.heap[w1.heap.size]? = some (.deferred (some [])) := by
      rw [← hX]
      exact ((KeepsOthers.setCell W' ⟨w.heap.size, 0, none⟩ (.int .i64 ((H : Int) + 1))).trans (KeepsOthers.setCell _ ⟨w.heap.size, 1, none⟩ (.slice (some ⟨g5, 0, none⟩) gs.length cap))).same _ _ hD rfl
    have hBX : BoxAt X w.heap.size #[.int .i64 ((H : Int) + 1), .slice (some ⟨g5, 0, none⟩) gs.length cap] 26 := by rw [← hX]; exact (HF.out.box.set 0 _).set 1 _
    have hbX : Below w.heap.size w X := by rw [← hX]; exact (HF.out.b.setCell (by simp) _).setCell (by simp) _
    have hrX : X.ownsRow w.heap.size 3 1 (.slice (some ⟨g5, 0, none⟩) gs.length cap) gs.length (gs.map natV) := by
      rw [← hX]
      have h := HF.out.row
      have hn := own_far h (show w.heap.size < w.heap.size + 1 by omega)
      exact own_base (own_set (own_set h ⟨w.heap.size, 0, none⟩ _ hn) ⟨w.heap.size, 1, none⟩ _ hn) (by omega)
    rw [hX]
    refine leaves_marks (B := w.heap.size) (v := .tuple #[.agg #[.int .i64 ((H : Int) + 1), .slice (some ⟨g5, 0, none⟩) gs.length cap], .int .i64 0, .int .i64 0]) [w1.heap.size] _ (fun D hD' => ?_) (by simp) fun w' hc => ⟨?_, _, rfl, own_calm hrX hc, hc.below hbX (Nat.le_refl _)⟩
    · obtain rfl : D = w1.heap.size := by simpa using hD'
      exact ⟨by omega, hKX⟩
    · have e0 := (hBX.calm hc).cell' (v := .int .i64 ((H : Int) + 1)) 0 rfl
      have e1 := (hBX.calm hc).cell' (v := .slice (some ⟨g5, 0, none⟩) gs.length cap) 1 rfl
      simp [results, Try.f24, go_sem, e0, e1]
/-- what Make is asked for by TieEdges -/
theorem call24p (N H a b t T g : Nat) (up : Bool) (L : Nat) (w : World) (hN : N = H + 1) (hH : H < 24) (ha : a ≤ H) (hb : b ≤ H) (hup : up = true → a + L = b) (hdn : up = false → b + L = a ∧ 1 ≤ L) (ht : 1 ≤ t ∧ t ≤ 8) (hT : onceT L 2 * t = T) (hT2 : T ≤ 96) (hx : BoxAt w g (ptV a b t) 32) :
    Calls Try.prog 24 #[.int .i64 (N : Int), .slice (some ⟨g, 0, none⟩) 1 1] w fun e w' =>
      ∃ g' cap, e = .returned (.tuple #[.agg #[.int .i64 (N : Int), .slice (some ⟨g', 0, none⟩) T cap], .int .i64 0, .int .i64 0]) ∧ NatsAt w' g' 0 (ptL up a L t) ∧ w.heap.size ≤ g' ∧ g' < w'.heap.size ∧ Below w.heap.size w w' := by
  subst hN hT
  have hc : ((H + 1 : Nat) : Int) = (H : Int) + 1 := by omega
  have hp := onceT_pos L 2
  have h0 : 0 < (ptL up a L t).length := by rw [ptL_len]; exact Nat.mul_pos hp.1 ht.1
  rw [hc]
  refine (ptMake H a b t g (ptL up a L t) w hH ha hb ht h0 (by rw [ptL_len]; exact hT2) (fun n size => ?_) hx).mono ?_
  · cases up with
    | true => exact pt_iter_up a b L t n size (by have := hup rfl; omega) (by omega) (by omega) (hup rfl) ht
    | false => exact pt_iter_dn a b L t n size (by have := hdn rfl; omega) (by omega) (by omega) (hdn rfl).1 (hdn rfl).2 ht
  · rintro e w' ⟨v, rfl, h1, h2⟩
    obtain ⟨g', cap, rfl⟩ := row_slice h1 h0
    obtain ⟨a, b, d⟩ := nats_of_row h1 h0
    rw [ptL_len]
    exact ⟨g', cap, rfl, a, d, b, h2⟩
end Go.Proofs.Ytdmgffoikebgkaa
/- TieEdges: its mathematics. -/
namespace Go.Proofs.Ytdmgffoikebgkaa
open Go.RowKit Go.Shelf

theorem mir_pt (up : Bool) (a L t : Nat) (ht : 1 ≤ t) : mirAt (ptL up a L t) 0 = true := by
  have hnth : ∀ k, k < onceT L 2 * t → nthN (ptL up a L t) k = ptH up a L k := fun k hk => by simp [ptL, nthN, hk]
  refine likeB_yes fun k hk => ?_
  rw [ptL_len] at hk
  unfold aroundN
  rw [ptL_len]
  have e : (((0 : Nat) : Int) - (k : Int) + ((onceT L 2 * t : Nat) : Int)).toNat = onceT L 2 * t - k := by omega
  rw [e, hnth _ hk, hnth _ (Nat.mod_lt _ (by omega))]
  unfold ptH
  rw [hook_mir L t k ht (by omega)]
/-- periods of a sequence -/
def Gp (g : Nat → Nat) (p : Nat) : Prop := 1 ≤ p ∧ ∀ i, g (i + p) = g i
theorem gp_mul {g : Nat → Nat} {p : Nat} (h : Gp g p) (i : Nat) : ∀ k, g (i + k * p) = g i
  | 0 => by rw [Nat.zero_mul, Nat.add_zero]
  | k + 1 => by rw [Nat.succ_mul, ← Nat.add_assoc, h.2, gp_mul h i k]
theorem gp_dvd {g : Nat → Nat} {m p : Nat} (hm : Gp g m) (hl : ∀ j, j < m → ¬ Gp g j) (hp : Gp g p) : p % m = 0 := by
  refine Classical.byContradiction fun hr => ?_
  refine hl (p % m) (Nat.mod_lt _ hm.1) ⟨by omega, fun i => ?_⟩
  rw [← gp_mul hm (i + p % m) (p / m)]
  have e : i + p % m + p / m * m = i + p := by
    have := Nat.mod_add_div p m
    rw [Nat.mul_comm m] at this
    omega
  rw [e, hp.2]
def gN (hs : List Nat) (i : Nat) : Nat := nthN hs (i % hs.length)
theorem rep_gp {hs : List Nat} {p : Nat} (h0 : 0 < hs.length) (h1 : 1 ≤ p) (h : repAt hs p = true) : hs.length % p = 0 ∧ Gp (gN hs) p := by
  unfold repAt at h
  rw [Bool.and_eq_true, beq_iff_eq] at h
  refine ⟨h.1, h1, fun i => ?_⟩
  have h2 := h.2
  unfold likeB at h2
  rw [List.all_eq_true] at h2
  have h3 := h2 (i % hs.length) (by simpa using Nat.mod_lt _ h0)
  rw [beq_iff_eq, around_nat, Nat.mod_add_mod] at h3
  exact h3.symm
theorem gp_rep {hs : List Nat} {p : Nat} (h : Gp (gN hs) p) (hd : hs.length % p = 0) : repAt hs p = true := by
  unfold repAt
  rw [Bool.and_eq_true, beq_iff_eq]
  refine ⟨hd, likeB_yes fun k hk => ?_⟩
  rw [around_nat]
  have := h.2 k
  unfold gN at this
  rw [Nat.mod_eq_of_lt hk] at this
  exact this.symm
structure RepP (hs : List Nat) (p : Nat) : Prop where
  p1 : 1 ≤ p
  pl : p ≤ hs.length
  at' : p = hs.length ∨ repAt hs p = true
  no : ∀ j, 1 ≤ j → j < p → repAt hs j = false
theorem gp_len {hs : List Nat} (h0 : 0 < hs.length) : Gp (gN hs) hs.length := ⟨h0, fun i => by unfold gN; rw [Nat.add_mod_right]⟩
theorem RepP.gp {hs : List Nat} {p : Nat} (h : RepP hs p) (h0 : 0 < hs.length) : hs.length % p = 0 ∧ Gp (gN hs) p := by
  rcases h.at' with e | e
  · rw [e]; exact ⟨Nat.mod_self _, gp_len h0⟩
  · exact rep_gp h0 h.p1 e
theorem RepP.least {hs : List Nat} {p m : Nat} (h : RepP hs p) (h0 : 0 < hs.length) (hm : Gp (gN hs) m) (hl : ∀ j, j < m → ¬ Gp (gN hs) j) : p = m := by
  have hp := h.gp h0
  have hd := gp_dvd hm hl hp.2
  have hdT := gp_dvd hm hl (gp_len h0)
  have hle : m ≤ p := Nat.le_of_dvd h.p1 (Nat.dvd_of_mod_eq_zero hd)
  rcases Nat.lt_or_ge m p with c | c
  · have := h.no m hm.1 c
    rw [gp_rep hm hdT] at this
    cases this
  · omega
theorem dbl_nth {hs : List Nat} {i : Nat} (h : i < 2 * hs.length) : nthN (hs ++ hs) i = nthN hs (i % hs.length) := by
  unfold nthN
  by_cases c : i < hs.length
  · rw [List.getElem?_append_left c, Nat.mod_eq_of_lt c]
  · rw [List.getElem?_append_right (by omega), Nat.mod_eq_sub_mod (by omega), Nat.mod_eq_of_lt (by omega)]
theorem dbl_len (hs : List Nat) : (hs ++ hs).length = 2 * hs.length := by rw [List.length_append]; omega
theorem dbl_g {hs : List Nat} (h0 : 0 < hs.length) (i : Nat) : gN (hs ++ hs) i = gN hs i := by
  unfold gN
  rw [dbl_len, dbl_nth (Nat.mod_lt _ (by omega)), Nat.mod_mod_of_dvd _ ⟨2, Nat.mul_comm _ _⟩]
theorem rep_dbl {hs : List Nat} {p p2 : Nat} (h0 : 0 < hs.length) (h : RepP hs p) (h2 : RepP (hs ++ hs) p2) : p = p2 := by
  have hex : ∃ m, Gp (gN hs) m ∧ ∀ j, j < m → ¬ Gp (gN hs) j := by
    haveI : DecidablePred (Gp (gN hs)) := fun _ => Classical.propDecidable _
    obtain ⟨m, a, _, b⟩ := least_of (P := Gp (gN hs)) hs.length (gp_len h0)
    exact ⟨m, a, b⟩
  obtain ⟨m, hm, hl⟩ := hex
  have e : gN (hs ++ hs) = gN hs := funext fun i => dbl_g h0 i
  rw [h.least h0 hm hl, h2.least (by rw [dbl_len]; omega) (by rw [e]; exact hm) (by rw [e]; exact hl)]
theorem RepP.at {hs : List Nat} {p w : Nat} (h : RepP hs p) (hw : w < hs.length) : nthN hs w = nthN hs (w % p) := by
  have hg := (h.gp (by omega)).2
  have e := gp_mul hg (w % p) (w / p)
  rw [show w % p + w / p * p = w by have := Nat.mod_add_div w p; rw [Nat.mul_comm p] at this; omega] at e
  have hlt : w % p < hs.length := Nat.lt_of_le_of_lt (Nat.mod_le _ _) hw
  unfold gN at e
  rwa [Nat.mod_eq_of_lt hw, Nat.mod_eq_of_lt hlt] at e
/-- windows of what is beside itself -/
theorem win_dbl {hs : List Nat} (h0 : 0 < hs.length) (f : Nat) : ∀ l, winN (hs ++ hs) f l = winN hs (f % hs.length) l
  | 0 => rfl
  | l + 1 => by
    rw [winN, winN, win_dbl h0 f l, around_nat, around_nat, dbl_len, dbl_nth (Nat.mod_lt _ (by omega)), Nat.mod_mod_of_dvd _ ⟨2, Nat.mul_comm _ _⟩, Nat.mod_add_mod]
theorem win_over {hs : List Nat} (h0 : 0 < hs.length) {i d j : Nat} (h : bitN (winN hs i (hs.length + d)) j = true) : bitN (winN hs i hs.length) j = true := by
  obtain ⟨t, _, e⟩ := winN_bit hs i j _ h
  rw [around_nat] at e
  have := winN_has hs i (t % hs.length) hs.length (Nat.mod_lt _ h0)
  rw [around_nat, Nat.add_mod_mod, e] at this
  exact this
theorem wor_dbl {hs : List Nat} {n m lo row lo2 row2 : Nat} (hR : WoR hs n m hs.length lo row) (hR2 : WoR (hs ++ hs) n m (hs ++ hs).length lo2 row2) (h0 : 0 < hs.length) (hn0 : 1 ≤ n) (hn1 : n ≤ 24) :
    worV hs.length lo = worV (hs ++ hs).length lo2 ∧ (lo = 0 ↔ lo2 = 0) := by
  have a := hR.le
  have b := hR2.le
  have hl := dbl_len hs
  by_cases c : lo = hs.length
  · have key : lo2 = (hs ++ hs).length := Classical.byContradiction fun hc => by
      obtain ⟨i, hi, hlt, _⟩ := hR.got (by omega)
      have h2 := (lif_iff hn0 hn1).1 hlt
      obtain ⟨x, hx, hb, hx2⟩ := h2
      have h3 : Lifts n m (winN (hs ++ hs) i ((hs ++ hs).length)) := by
        rw [win_dbl h0, Nat.mod_eq_of_lt hi]
        refine ⟨x, hx, hb, fun j hj hq => hx2 j hj ?_⟩
        rw [c]
        rw [hl, show 2 * hs.length = hs.length + hs.length by omega] at hq
        exact win_over h0 hq
      obtain ⟨d, hd⟩ : ∃ d, (hs ++ hs).length = lo2 + 1 + d := ⟨(hs ++ hs).length - (lo2 + 1), by omega⟩
      rw [hd] at h3
      exact hR2.no i (by omega) (by omega) (lif_le d h3)
    refine ⟨?_, by omega⟩
    unfold worV
    rw [if_pos c, if_pos key]
  · have k1 : lo2 ≤ lo := Classical.byContradiction fun hc => by
      obtain ⟨i, hi, hlt, _⟩ := hR2.got (by omega)
      have h2 := (lif_iff hn0 hn1).1 hlt
      obtain ⟨d, hd⟩ : ∃ d, lo2 = lo + 1 + d := ⟨lo2 - (lo + 1), by omega⟩
      rw [hd, win_dbl h0] at h2
      exact hR.no _ (Nat.mod_lt _ h0) (by omega) (lif_le d h2)
    have k2 : lo ≤ lo2 := Classical.byContradiction fun hc => by
      obtain ⟨i, hi, hlt, _⟩ := hR.got (by omega)
      have h2 := (lif_iff hn0 hn1).1 hlt
      obtain ⟨d, hd⟩ : ∃ d, lo = lo2 + 1 + d := ⟨lo - (lo2 + 1), by omega⟩
      rw [hd] at h2
      refine hR2.no i (by omega) (by omega) ?_
      rw [win_dbl h0, Nat.mod_eq_of_lt hi]
      exact lif_le d h2
    have e : lo2 = lo := by omega
    refine ⟨?_, by omega⟩
    unfold worV
    rw [if_neg c, if_neg (by omega), e]
/-- floats of what is beside itself -/
theorem pick_dbl {hs : List Nat} {x i : Nat} (h : i < 2 * hs.length) : bitN (pickP (hs ++ hs) x) i = bitN (pickP hs x) (i % hs.length) := by
  rw [pickP_bit _ _ _ (by rw [dbl_len]; exact h), dbl_nth h, pickP_bit _ _ _ (Nat.mod_lt _ (by omega))]
theorem len_dbl {hs : List Nat} {x w : Nat} (hw : w < 2 * hs.length) : lenR (2 * hs.length) (pickP (hs ++ hs) x) w = lenR hs.length (pickP hs x) (w % hs.length) := by
  have h0 : 0 < hs.length := by omega
  have hb : ∀ j, bitN (pickP (hs ++ hs) x) ((w + j) % (2 * hs.length)) = bitN (pickP hs x) ((w % hs.length + j) % hs.length) := fun j => by
    rw [pick_dbl (Nat.mod_lt _ (by omega)), Nat.mod_mod_of_dvd _ ⟨2, Nat.mul_comm _ _⟩, Nat.mod_add_mod]
  rcases lenR_cases hs.length (pickP hs x) (w % hs.length) with ⟨e, h⟩ | ⟨e, h, hne⟩
  · rw [e]
    refine lenR_none fun j _ => ?_
    rw [hb, pick_dbl hw, ← h (j % hs.length) (Nat.le_of_lt (Nat.mod_lt _ h0)), Nat.add_mod_mod]
  · refine lenR_some (by omega) (fun j hj => ?_) ?_
    · rw [hb, pick_dbl hw]; exact h j hj
    · rw [hb, pick_dbl hw]; exact hne
theorem long_dbl {hs xs : List Nat} {L : Nat} (hl : xs.length = L) (h0 : 0 < hs.length) : longL (pks (hs ++ hs) xs) (2 * hs.length) L = longL (pks hs xs) hs.length L := by
  refine Nat.le_antisymm (mxL_le fun i hi => mxL_le fun w hw => ?_) (mxL_le fun i hi => mxL_le fun w hw => ?_)
  · rw [pks_nth _ _ (by omega), len_dbl hw]
    refine Nat.le_trans ?_ (le_mxL (f := fun i => mxL (lenR hs.length (nthN (pks hs xs) i)) hs.length) hi)
    rw [pks_nth _ _ (by omega)]
    exact le_mxL (Nat.mod_lt _ h0)
  · refine Nat.le_trans ?_ (le_mxL (f := fun i => mxL (lenR (2 * hs.length) (nthN (pks (hs ++ hs) xs) i)) (2 * hs.length)) hi)
    rw [pks_nth _ _ (by omega), pks_nth _ _ (by omega)]
    have := len_dbl (hs := hs) (x := nthN xs i) (w := w) (by omega)
    rw [Nat.mod_eq_of_lt hw] at this
    rw [← this]
    exact le_mxL (by omega)
theorem mir_bit {hs : List Nat} {x s w : Nat} (h : mirAt hs s = true) (hs' : s < hs.length) (hw : w < hs.length) : bitN (pickP hs x) ((s + 2 * hs.length - w) % hs.length) = bitN (pickP hs x) w := by
  unfold mirAt likeB at h
  rw [List.all_eq_true] at h
  have h3 := h w (by simpa using hw)
  rw [beq_iff_eq] at h3
  unfold aroundN at h3
  rw [show ((s : Int) - (w : Int) + (hs.length : Int)).toNat = s + hs.length - w by omega] at h3
  rw [pickP_bit _ _ _ (Nat.mod_lt _ (by omega)), pickP_bit _ _ _ hw, h3, show s + 2 * hs.length - w = s + hs.length - w + hs.length by omega, Nat.add_mod_right]
end Go.Proofs.Ytdmgffoikebgkaa
/- The longest float of a cloth along its picks, as chapter 3's statements count it. -/
namespace Go.Proofs.Ytdmgffoikebgkaa
open Go.RowKit Go.Shelf
attribute [local go_sem] Oper.semAt_some

structure LgS (w : World) (b : Nat) (ss : List ByteArray) (W : World) : Prop where
  s : StrsAt W b 0 ss
  l : b < W.heap.size
  b : Below w.heap.size w W
theorem LgS.next {w W W' : World} {b : Nat} {ss : List ByteArray} (h : LgS w b ss W) (hb : Below W.heap.size W W') : LgS w b ss W' :=
  ⟨h.s.below hb h.l, Nat.lt_of_lt_of_le h.l hb.size, h.b.trans (hb.mono h.b.size)⟩
theorem al_one {pk j n q : Nat} (hj : j < n) (hq : q < 1) : bitN pk ((j + q) % n) = bitN pk j := by
  obtain rfl : q = 0 := by omega
  rw [Nat.add_zero, Nat.mod_eq_of_lt hj]
theorem al_succ {pk j n d : Nat} (h : ∀ q, q < d → bitN pk ((j + q) % n) = bitN pk j) (hd : bitN pk ((j + d) % n) = bitN pk j) : ∀ q, q < d + 1 → bitN pk ((j + q) % n) = bitN pk j := fun q hq => by
  by_cases e : q = d
  · subst e; exact hd
  · exact h q (by omega)
set_option maxRecDepth 100000 in
set_option maxHeartbeats 2000000 in
theorem tieLongest_ok (n L b c : Nat) (ss : List ByteArray) (ps : List Nat) (w : World) (hn0 : 1 ≤ n) (hn1 : n ≤ 96) (hl : L ≤ 60) (hC : ClS ss n ps) (hL : ps.length = L) (h1 : StrsAt w b 0 ss) (h2 : b < w.heap.size) :
    Calls Try.prog 70 #[.slice (some ⟨b, 0, none⟩) L c] w fun e w' => e = .returned (.int .i64 (longL ps n L : Int)) ∧ Below w.heap.size w w' := by
  have H := Lib.hid (show LgS w b ss w from ⟨h1, h2, Below.refl _ _⟩)
  have HC := Lib.hid hC
  have HL := Lib.hid hL
  clear h1 h2 hC hL
  go_enter Try.func70, Try.ntmps70
  go_wp2_with fail
  go_loopw [3, 4] (fun s i wr => ∃ k : Nat, k ≤ L ∧ i = .int .i64 (k : Int) ∧ s = .int .i64 (longL ps n k : Int) ∧ LgS w b ss wr) (fun _ i _ => L - (intOf i).toNat)
  case atStart => exact ⟨0, Nat.zero_le _, rfl, rfl, H.out⟩
  case round =>
    obtain ⟨k, hk, rfl, rfl, hS⟩ := hrel
    have HS := Lib.hid hS
    clear hS
    by_cases hlt : k < L
    · have hc := HS.out.s k (by rw [HC.out.len, HL.out]; exact hlt)
      rw [Nat.zero_add] at hc
      have hsb := HC.out.str k (by rw [HL.out]; exact hlt)
      obtain ⟨s, hs⟩ : ∃ s, nthB ss k = s := ⟨_, rfl⟩
      obtain ⟨pk, hpk⟩ : ∃ pk, nthN ps k = pk := ⟨_, rfl⟩
      have hlong : longL ps n (k + 1) = max (longL ps n k) (mxL (lenR n pk) n) := by
        rw [← hpk]; rfl
      have Hlong := Lib.hid hlong
      have Hs := Lib.hid hs
      rw [hs] at hc hsb
      rw [hpk] at hsb
      have Hsb := Lib.hid hsb
      clear hlong hpk hsb hs
      go_upto_region 6 with fail
      rw [Hsb.out.size]
      clear hc
      obtain ⟨M, hM⟩ : ∃ M, longL ps n k = M := ⟨_, rfl⟩
      have HM := Lib.hid hM
      rw [hM]
      clear hM
      go_wp2_with fail
      go_loopw [3, 6] (fun s i wz => ∃ j : Nat, j ≤ n ∧ i = .int .i64 (j : Int) ∧ s = .int .i64 ((max M (mxL (lenR n pk) j) : Nat) : Int) ∧ LgS w b ss wz) (fun _ i _ => n - (intOf i).toNat)
      case atStart => exact ⟨0, Nat.zero_le _, rfl, by simp [mxL], HS.out⟩
      case round =>
        obtain ⟨j, hj, rfl, rfl, hS⟩ := hrel
        have HS2 := Lib.hid hS
        clear hS
        obtain ⟨V, hV⟩ : ∃ V, max M (mxL (lenR n pk) j) = V := ⟨_, rfl⟩
        have HV := Lib.hid hV
        rw [hV]
        have Hval := Lib.hid (show ∀ x, lenR n pk j = x → max M (mxL (lenR n pk) (j + 1)) = max V x from fun x hx => by rw [mxL, hx, ← hV]; omega)
        clear hV
        by_cases hjn : j < n
        · go_upto_region 9 with fail
          go_wp2_with fail
          go_loopw [7] (fun i wy => ∃ d : Nat, d ≤ n + 1 ∧ i = .int .i64 (d : Int) ∧ (∀ q, q < d → bitN pk ((j + q) % n) = bitN pk j) ∧ LgS w b ss wy) (fun i _ => n + 1 - (intOf i).toNat)
          case atStart => exact ⟨1, by omega, rfl, fun q hq => al_one hjn hq, HS2.out⟩
          case round =>
            obtain ⟨d, hd, rfl, hal, hS⟩ := hrel
            have HS3 := Lib.hid hS
            have Hal := Lib.hid hal
            clear hS hal
            have hnz : ¬ n = 0 := by omega
            by_cases hdn : d ≤ n
            · have hc := HS3.out.s k (by rw [HC.out.len, HL.out]; exact hlt)
              rw [Nat.zero_add, Hs.out] at hc
              obtain ⟨t, ht⟩ : ∃ t, (j + d) % n = t := ⟨_, rfl⟩
              have htl : t < n := by rw [← ht]; exact Nat.mod_lt _ (by omega)
              have hr0 := tmod_nn (j + d) n
              rw [ht, Int.natCast_add] at hr0
              have hsum : IntKind.i64.wrap ((j : Int) + (d : Int)) = (j : Int) + (d : Int) := IntWalk.i64_in _ (by omega)
              have hi1 := fun W => Hsb.out.idx htl W
              have hi2 := fun W => Hsb.out.idx hjn W
              have Ht := Lib.hid ht
              clear ht
              have key : ∀ b1 b2 : Bool, bitN pk t = b1 → bitN pk j = b2 → b1 = b2 → ∀ q, q < d + 1 → bitN pk ((j + q) % n) = bitN pk j := fun b1 b2 h1 h2 h3 => al_succ Hal.out (by rw [Ht.out, h1, h2, h3])
              have key2 : ∀ b1 b2 : Bool, bitN pk t = b1 → bitN pk j = b2 → b1 ≠ b2 → lenR n pk j = d := fun b1 b2 h1 h2 h3 => lenR_some hdn Hal.out (by rw [Ht.out, h1, h2]; exact h3)
              cases hb1 : bitN pk t with
              | true =>
                have hv1 : byteP pk t = 120 := by unfold byteP; rw [hb1]; rfl
                rw [hv1] at hi1
                cases hb2 : bitN pk j with
                | true =>
                  have hv2 : byteP pk j = 120 := by unfold byteP; rw [hb2]; rfl
                  rw [hv2] at hi2
                  have Hk := Lib.hid (key _ _ hb1 hb2 rfl)
                  have Hb2 := Lib.hid hb2
                  clear key key2 hb1 hb2 hv1 hv2
                  go_upto_region 10 with fail
                  go_quiet (fail)
                  all_goals go_wp2_with fail
                  all_goals exact ⟨⟨d + 1, by omega, by go_num, fun q hq => (Hk.out q hq).trans Hb2.out, HS3.out.next (below_drewN _ _ _)⟩, by simp [intOf]; omega⟩
                | false =>
                  have hv2 : byteP pk j = 46 := by unfold byteP; rw [hb2]; rfl
                  rw [hv2] at hi2
                  have Hk := Lib.hid (key2 _ _ hb1 hb2 (by decide))
                  clear key key2 hb1 hb2 hv1 hv2
                  have hdg : decide ((n : Int) < (d : Int)) = false := decide_eq_false (by omega)
                  rcases Nat.lt_or_ge V d with hVd | hVd
                  · have Hmx := Lib.hid (show max M (mxL (lenR n pk) (j + 1)) = d from (Hval.out d Hk.out).trans (by omega))
                    go_upto_region 10 with fail
                    go_quiet (fail)
                    all_goals go_wp2_with fail
                    all_goals exact ⟨⟨j + 1, by omega, by go_num, by rw [Hmx.out], HS3.out.next (below_drewN _ _ _)⟩, by simp [intOf]; omega⟩
                  · have Hmx := Lib.hid (show max M (mxL (lenR n pk) (j + 1)) = V from (Hval.out d Hk.out).trans (by omega))
                    go_upto_region 10 with fail
                    go_quiet (fail)
                    all_goals go_wp2_with fail
                    all_goals exact ⟨⟨j + 1, by omega, by go_num, by rw [Hmx.out], HS3.out.next (below_drewN _ _ _)⟩, by simp [intOf]; omega⟩
              | false =>
                have hv1 : byteP pk t = 46 := by unfold byteP; rw [hb1]; rfl
                rw [hv1] at hi1
                cases hb2 : bitN pk j with
                | true =>
                  have hv2 : byteP pk j = 120 := by unfold byteP; rw [hb2]; rfl
                  rw [hv2] at hi2
                  have Hk := Lib.hid (key2 _ _ hb1 hb2 (by decide))
                  clear key key2 hb1 hb2 hv1 hv2
                  have hdg : decide ((n : Int) < (d : Int)) = false := decide_eq_false (by omega)
                  rcases Nat.lt_or_ge V d with hVd | hVd
                  · have Hmx := Lib.hid (show max M (mxL (lenR n pk) (j + 1)) = d from (Hval.out d Hk.out).trans (by omega))
                    go_upto_region 10 with fail
                    go_quiet (fail)
                    all_goals go_wp2_with fail
                    all_goals exact ⟨⟨j + 1, by omega, by go_num, by rw [Hmx.out], HS3.out.next (below_drewN _ _ _)⟩, by simp [intOf]; omega⟩
                  · have Hmx := Lib.hid (show max M (mxL (lenR n pk) (j + 1)) = V from (Hval.out d Hk.out).trans (by omega))
                    go_upto_region 10 with fail
                    go_quiet (fail)
                    all_goals go_wp2_with fail
                    all_goals exact ⟨⟨j + 1, by omega, by go_num, by rw [Hmx.out], HS3.out.next (below_drewN _ _ _)⟩, by simp [intOf]; omega⟩
                | false =>
                  have hv2 : byteP pk j = 46 := by unfold byteP; rw [hb2]; rfl
                  rw [hv2] at hi2
                  have Hk := Lib.hid (key _ _ hb1 hb2 rfl)
                  have Hb2 := Lib.hid hb2
                  clear key key2 hb1 hb2 hv1 hv2
                  go_upto_region 10 with fail
                  go_quiet (fail)
                  all_goals go_wp2_with fail
                  all_goals exact ⟨⟨d + 1, by omega, by go_num, fun q hq => (Hk.out q hq).trans Hb2.out, HS3.out.next (below_drewN _ _ _)⟩, by simp [intOf]; omega⟩
            · have Hk := Lib.hid (lenR_none (T := n) (x := pk) (w := j) (fun q hq => Hal.out q (by omega)))
              have hdg : decide ((n : Int) < (d : Int)) = true := decide_eq_true (by omega)
              have hdf : decide ((d : Int) ≤ (n : Int)) = false := decide_eq_false (by omega)
              rcases Nat.lt_or_ge V 1000 with hVd | hVd
              · have Hmx := Lib.hid (show max M (mxL (lenR n pk) (j + 1)) = 1000 from (Hval.out 1000 Hk.out).trans (by omega))
                go_upto_region 10 with fail
                go_quiet (fail)
                all_goals go_wp2_with fail
                all_goals exact ⟨⟨j + 1, by omega, by go_num, by rw [Hmx.out]; rfl, HS3.out.next (below_drewN _ _ _)⟩, by simp [intOf]; omega⟩
              · have Hmx := Lib.hid (show max M (mxL (lenR n pk) (j + 1)) = V from (Hval.out 1000 Hk.out).trans (by omega))
                go_upto_region 10 with fail
                go_quiet (fail)
                all_goals go_wp2_with fail
                all_goals exact ⟨⟨j + 1, by omega, by go_num, by rw [Hmx.out], HS3.out.next (below_drewN _ _ _)⟩, by simp [intOf]; omega⟩
        · obtain rfl : j = n := by omega
          have Hfin := Lib.hid (show longL ps j (k + 1) = V from by rw [Hlong.out, HM.out, HV.out])
          clear Hlong
          go_wp2_with fail
          all_goals exact ⟨⟨k + 1, by omega, by go_num, by rw [Hfin.out], HS2.out⟩, by simp [intOf]; omega⟩
    · obtain rfl : k = L := by omega
      have hb := HS.out.b
      go_wp2_with fail
      go_ret
      exact ⟨rfl, hb⟩
end Go.Proofs.Ytdmgffoikebgkaa
/- TieGroups: its regions that draw their order. -/
namespace Go.Proofs.Ytdmgffoikebgkaa
open Go.RowKit Go.Shelf
attribute [local go_sem] Oper.semAt_some

/-- a box of the region's own that is known whole -/
def memBx (vs : Array Value) (T : Nat) : Mem := ⟨fun h W => BoxAt W h.b vs T, fun h => [h.b], fun _ _ _ h hb => h.next hb, fun _ _ _ _ h hn hB => hB.box h (fun e => hn (by simp [e]))⟩
end Go.Proofs.Ytdmgffoikebgkaa
