/- known of chapter 3: its regions that draw their order. -/
import Derived.Test.YtdmgffoikebgkaaTb13
import Derived.Test.YtdmgffoikebgkaaTb06
namespace Go.Proofs.Ytdmgffoikebgkaa
open Go.RowKit Go.Shelf
attribute [local go_sem] Oper.semAt_some

theorem nats1 {W : World} {B : Nat} {a : Nat} {t : TypeId} (h : BoxAt W B #[.int .i64 (a : Int)] t) : NatsAt W B 0 [a] := fun i hi => by
  obtain rfl : i = 0 := by simpa using hi
  exact h.cell' 0 rfl
theorem exValid1 : Valid 4 [7] := by
  refine ⟨by decide, by decide, by decide, by decide, fun i => ?_⟩
  by_cases h : i < 1
  · obtain rfl : i = 0 := by omega
    decide
  · have : nthN [7] i = 0 := by unfold nthN; rw [List.getElem?_eq_none (by simp; omega)]; rfl
    rw [this]; decide
theorem call38x (b c b2 c2 : Nat) (W : World) (h1 : NatsAt W b 0 exHs) (h2 : b < W.heap.size) (h3 : NatsAt W b2 0 [1, 6]) (h4 : b2 < W.heap.size) :
    Calls Try.prog 38 #[.agg #[.int .i64 4, .slice (some ⟨b, 0, none⟩) 6 c], .agg #[.int .i64 4, .slice (some ⟨b2, 0, none⟩) 2 c2]] W fun e w' =>
      ∃ g cap, e = .returned (.tuple #[.slice (some ⟨g, 0, none⟩) 2 cap, .int .i64 0]) ∧ StrsAt w' g 0 exCloth ∧ W.heap.size ≤ g ∧ g < w'.heap.size ∧ Below W.heap.size W w' := by
  have h := call38 4 6 2 b c b2 c2 exHs [1, 6] W rfl rfl (by decide) (by decide) exHs_nth exValid2 h1 h2 h3 h4
  rw [ex_cloth] at h
  exact h
/-- one float in memory -/
def memFl1 (f : Fl) : Mem := ⟨fun h W => FlsAt W h.b [f] ∧ h.b < W.heap.size, fun h => [h.b], fun _ _ _ ⟨h, l⟩ hb => ⟨h.below hb l, Nat.lt_of_lt_of_le l hb.size⟩, fun h W W' B ⟨hp, l⟩ hn hB => by
  have hc : ∀ j, W'.cell? ⟨h.b, j, none⟩ = W.cell? ⟨h.b, j, none⟩ := fun j => World.cell?_of_block (w := W) (hB.other h.b (fun e => hn (by simp [e])))
  exact ⟨⟨fun i hi => (hc _).trans (hp.c0 i hi), fun i hi => (hc _).trans (hp.c1 i hi), fun i hi => (hc _).trans (hp.c2 i hi), fun i hi => (hc _).trans (hp.c3 i hi), by rw [hB.size]; exact hp.lt⟩, by rw [hB.size]; exact l⟩⟩
theorem call39x (b c b2 c2 : Nat) (W : World) (h1 : NatsAt W b 0 exHs) (h2 : b < W.heap.size) (h3 : NatsAt W b2 0 [7]) (h4 : b2 < W.heap.size) :
    Calls Try.prog 39 #[.agg #[.int .i64 4, .slice (some ⟨b, 0, none⟩) 6 c], .agg #[.int .i64 4, .slice (some ⟨b2, 0, none⟩) 1 c2], .int .i64 2] W fun e w' =>
      ∃ g cap, e = .returned (.tuple #[.slice (some ⟨g, 0, none⟩) 1 cap, .int .i64 0]) ∧ (FlsAt w' g [⟨0, 4, 5, true⟩] ∧ g < w'.heap.size) ∧ W.heap.size ≤ g ∧ g < w'.heap.size ∧ Below W.heap.size W w' := by
  refine (call39k 4 6 1 1 2 b c b2 c2 exHs [7] W rfl rfl (by decide) (by rw [ex_fl]; rfl) (exTA h1 h2) ⟨h3, h4, exValid1⟩).mono ?_
  rintro e w' ⟨p, cap, rfl, hf, hb, h5⟩
  rw [ex_fl] at hf
  obtain ⟨g, rfl, hfl⟩ := hf (by decide)
  obtain ⟨h6, h7⟩ := hb _ rfl
  exact ⟨g, cap, rfl, ⟨hfl, h7⟩, h6, h7, h5⟩
def region_kn4U : List (List Nat) := [[], [1], [1], [1, 3], [1, 3], [1, 3], [1, 3], [1, 3], [1, 3]]
def region_kn4X (E gh qh : Nat) : Nat → (Nat → Hd) → Value
  | 0, _ => .agg #[.int .i64 4, .slice (some ⟨gh, 0, none⟩) 6 qh]
  | 1, hds => .slice (some ⟨(hds 1).b, 0, none⟩) 2 2
  | 2, hds => .agg #[.int .i64 4, .slice (some ⟨(hds 1).b, 0, none⟩) 2 2]
  | 3, hds => .tuple #[.slice (some ⟨(hds 3).b, 0, none⟩) 2 (hds 3).c, .int .i64 0]
  | 4, hds => .tuple #[.slice (some ⟨(hds 3).b, 0, none⟩) 2 (hds 3).c, .int .i64 0]
  | 5, hds => .slice (some ⟨(hds 3).b, 0, none⟩) 2 (hds 3).c
  | 6, _ => .int .i64 0
  | 7, hds => .slice (some ⟨(hds 3).b, 0, none⟩) 2 (hds 3).c
  | 8, _ => .int .i64 0
  | _ + 9, _ => undef
theorem region_kn4X.congr (E gh qh : Nat) : ∀ i hds hds', (∀ r ∈ uOf region_kn4U i, hds r = hds' r) → region_kn4X E gh qh i hds = region_kn4X E gh qh i hds'
  | 0, _, _, _ => rfl
  | 1, hds, hds', h => by simp only [region_kn4X, h 1 (show 1 ∈ uOf region_kn4U 1 by decide)]
  | 2, hds, hds', h => by simp only [region_kn4X, h 1 (show 1 ∈ uOf region_kn4U 2 by decide)]
  | 3, hds, hds', h => by simp only [region_kn4X, h 3 (show 3 ∈ uOf region_kn4U 3 by decide)]
  | 4, hds, hds', h => by simp only [region_kn4X, h 3 (show 3 ∈ uOf region_kn4U 4 by decide)]
  | 5, hds, hds', h => by simp only [region_kn4X, h 3 (show 3 ∈ uOf region_kn4U 5 by decide)]
  | 6, _, _, _ => rfl
  | 7, hds, hds', h => by simp only [region_kn4X, h 3 (show 3 ∈ uOf region_kn4U 7 by decide)]
  | 8, _, _, _ => rfl
  | _ + 9, _, _, _ => rfl
def region_kn4M (E gh qh : Nat) : Nat → Mem
  | 1 => memNats [1, 6]
  | 3 => memStrs exCloth
  | _ => memNone
def region_kn4S (E gh qh : Nat) : Nat → Option Sto
  | _ => none
set_option maxRecDepth 8000 in
set_option maxHeartbeats 2000000 in
theorem region_kn4 {id : Nat} {ops : Array Oper} {Q : Exit → Act → World → Prop} {a : Act} {w : World} (E gh qh : Nat) (hn6 : NatsAt w gh 0 exHs) (hg6 : gh < w.heap.size) (hE : BoxAt w E #[.int .i64 4, .slice (some ⟨gh, 0, none⟩) 6 qh] 26)
    (gsize : ops.size = 9)
    (gops : IsOp ops 0 (some 57) (.load 26 (.tmp 1)) none [] ∧ IsOp ops 1 (some 58) (.buildSlice 24 2 #[(0, .const (.int .i64 1)), (1, .const (.int .i64 6))]) none [] ∧ IsOp ops 2 (some 59) (.call { callee := .value (.func 62), args := #[.const (.int .i64 4), .tmp 58], argTypes := #[3, 24] }) none [1] ∧ IsOp ops 3 (some 60) (.call { callee := .value (.func 38), args := #[.tmp 57, .tmp 59], argTypes := #[26, 37] }) none [0, 2] ∧ IsOp ops 4 (some 56) (.move (.tmp 60)) none [3] ∧ IsOp ops 5 (some 61) (.extract (.tmp 56) 0) none [4] ∧ IsOp ops 6 (some 62) (.extract (.tmp 56) 1) none [4] ∧ IsOp ops 7 (some 4) (.assign (.tmp 61)) none [5] ∧ IsOp ops 8 (some 5) (.assign (.tmp 62)) none [6])
    (gbk : backB ops = true) (gds : dstsB ops (dOf [some 57, some 58, some 59, some 60, some 56, some 61, some 62, some 4, some 5]) = true) (gus : useB ops (uOf region_kn4U) (kOf [0, 1, 0, 1, 0, 0, 0, 0, 0]) = true) (ggd : plainB ops = true) (gsz : ∀ e ∈ [57, 58, 59, 60, 56, 61, 62, 4, 5], e < a.tmps.size)
    (gout : a.eval (.tmp 1) = .pointer (some ⟨E, 0, none⟩))
    (gend : ∀ (g58 q58 G58 Q58 g60 q60 G60 Q60 : Nat) (P58 P60 : Option Addr) (u57 u58 u59 u60 u56 u61 u62 : Value) (W : World), Below w.heap.size w W → (memNats [1, 6]).P ⟨g58, q58, G58, Q58, P58⟩ W → (∀ b ∈ (memNats [1, 6]).bl ⟨g58, q58, G58, Q58, P58⟩, w.heap.size ≤ b ∧ b < W.heap.size) → (memStrs exCloth).P ⟨g60, q60, G60, Q60, P60⟩ W → (∀ b ∈ (memStrs exCloth).bl ⟨g60, q60, G60, Q60, P60⟩, w.heap.size ≤ b ∧ b < W.heap.size) → Q .normal (putL a [(57, u57), (58, u58), (59, u59), (60, u60), (56, u56), (61, u61), (62, u62), (4, .slice (some ⟨g60, 0, none⟩) 2 q60), (5, .int .i64 0)]) W) :
    (Code.region id ops true).wp Try.prog Q a w := by
  obtain ⟨iop0, iop1, iop2, iop3, iop4, iop5, iop6, iop7, iop8⟩ := gops
  have o1 := gout
  refine region_all (RSp.of 9 [some 57, some 58, some 59, some 60, some 56, some 61, some 62, some 4, some 5] (fun _ => true) (region_kn4X E gh qh) region_kn4U [0, 1, 0, 1, 0, 0, 0, 0, 0] (region_kn4M E gh qh) (region_kn4S E gh qh)) [(1, .pointer (some ⟨E, 0, none⟩))] [57, 58, 59, 60, 56, 61, 62, 4, 5] (RSp.of_fit gsize.symm gbk gds gus ggd (by decide) ?_) (RSp.of_ok _ (region_kn4X.congr E gh qh) ?_) gsz ?_ ?_ ?_
  · intro p hp
    have hp2 : p ∈ ([] : List (Nat × Nat)) := hp
    cases hp2
  · intro i s hds
    match i, hds with
    | 0, hds => cases hds
    | 1, hds => cases hds
    | 2, hds => cases hds
    | 3, hds => cases hds
    | 4, hds => cases hds
    | 5, hds => cases hds
    | 6, hds => cases hds
    | 7, hds => cases hds
    | 8, hds => cases hds
    | _ + 9, hds => cases hds
  · intro q hq
    simp only [List.mem_cons, List.not_mem_nil, or_false] at hq
    subst hq
    · exact ⟨o1, by simp⟩
  · intro i o ho _
    have hi : i < 9 := by rw [← gsize]; exact (Array.getElem?_eq_some_iff.1 ho).1
    match i, hi with
    | 0, _ =>
      obtain ⟨ty, pos, aft, e, hdp⟩ := iop0
      rw [e] at ho
      obtain rfl := Option.some.inj ho
      intro a' hds W K hB lq ld hmem hK
      have e1 : a'.eval (.tmp 1) = .pointer (some ⟨E, 0, none⟩) := by rw [eval_tmp]; exact lq (1, .pointer (some ⟨E, 0, none⟩)) (by simp)
      have t1 := (eval_tmp a' 1).symm.trans e1
      have HK := Lib.hid (show K (a'.put (some 57) (.agg #[.int .i64 4, .slice (some ⟨gh, 0, none⟩) 6 qh])) W from hK W (Below.refl _ _) trivial)
      clear hK ld lq hmem
      have c0 := (hE.next hB).cell' 0 rfl
      have c1 := (hE.next hB).cell' 1 rfl
      unfold Oper.wp
      simp only [execOp, e1]
      go_simp
      exact HK.out
    | 1, _ =>
      obtain ⟨ty, pos, aft, e, hdp⟩ := iop1
      rw [e] at ho
      obtain rfl := Option.some.inj ho
      intro a' hds W K hB lq ld hmem hK
      have HK := Lib.hid (show ∀ hh W', Below W.heap.size W W' → (memNats [1, 6]).P hh W' → (∀ b ∈ (memNats [1, 6]).bl hh, W.heap.size ≤ b ∧ b < W'.heap.size) → K (a'.put (some 58) (.slice (some ⟨hh.b, 0, none⟩) 2 2)) W' from fun hh W' h1 h2 h3 => by
        have h4 : K (a'.put (some 58) (region_kn4X E gh qh 1 (updH hds 1 hh))) W' := hK hh W' h1 h2 h3 trivial
        simp only [region_kn4X, updH_same] at h4
        exact h4)
      clear hK ld lq hmem
      have hfin := Lib.hid (HK.out ⟨W.heap.size, 0, 0, 0, none⟩ _ ((Below.refl _ _).alloc (Nat.le_refl _) (.cells #[.int .i64 1, .int .i64 6] 3)) ⟨nats2 (a := 1) (b := 6) (BoxAt.new W #[.int .i64 1, .int .i64 6] 3), by simp⟩ (bd_one (Nat.le_refl _) (by simp)))
      clear HK
      unfold Oper.wp
      simp only [execOp]
      go_simp
      exact hfin.out
    | 2, _ =>
      obtain ⟨ty, pos, aft, e, hdp⟩ := iop2
      rw [e] at ho
      obtain rfl := Option.some.inj ho
      intro a' hds W K hB lq ld hmem hK
      have e58 : a'.eval (.tmp 58) = .slice (some ⟨(hds 1).b, 0, none⟩) 2 2 := by rw [eval_tmp]; exact ld 1 58 (List.all_eq_true.1 hdp 1 (by decide)) rfl
      have t58 := (eval_tmp a' 58).symm.trans e58
      have m58   := (hmem 1 (show 1 ∈ uOf region_kn4U 2 by decide) (by decide)).1
      have HK := Lib.hid (show ∀ W', Below W.heap.size W W' → K (a'.put (some 59) (.agg #[.int .i64 4, .slice (some ⟨(hds 1).b, 0, none⟩) 2 2])) W' from fun W' h => hK W' h trivial)
      clear hK ld lq hmem
      refine step_call (vals := #[.int .i64 4, .slice (some ⟨(hds 1).b, 0, none⟩) 2 2]) (by exact ⟨_, _, Try.func62, by kernel_rfl, rfl⟩) (by simp only [List.map_toArray, List.map_cons, List.map_nil, e58]; rfl) (call62 4 (some ⟨(hds 1).b, 0, none⟩) 2 2 W) ?_
      rintro e w' ⟨rfl, hb'⟩
      exact ⟨_, rfl, HK.out _ hb'⟩
    | 3, _ =>
      obtain ⟨ty, pos, aft, e, hdp⟩ := iop3
      rw [e] at ho
      obtain rfl := Option.some.inj ho
      intro a' hds W K hB lq ld hmem hK
      have e57 : a'.eval (.tmp 57) = .agg #[.int .i64 4, .slice (some ⟨gh, 0, none⟩) 6 qh] := by rw [eval_tmp]; exact ld 0 57 (List.all_eq_true.1 hdp 0 (by decide)) rfl
      have t57 := (eval_tmp a' 57).symm.trans e57
      have e59 : a'.eval (.tmp 59) = .agg #[.int .i64 4, .slice (some ⟨(hds 1).b, 0, none⟩) 2 2] := by rw [eval_tmp]; exact ld 2 59 (List.all_eq_true.1 hdp 2 (by decide)) rfl
      have t59 := (eval_tmp a' 59).symm.trans e59
      have HK := Lib.hid (show ∀ hh W', Below W.heap.size W W' → (memStrs exCloth).P hh W' → (∀ b ∈ (memStrs exCloth).bl hh, W.heap.size ≤ b ∧ b < W'.heap.size) → K (a'.put (some 60) (.tuple #[.slice (some ⟨hh.b, 0, none⟩) 2 hh.c, .int .i64 0])) W' from fun hh W' h1 h2 h3 => by
        have h4 : K (a'.put (some 60) (region_kn4X E gh qh 3 (updH hds 3 hh))) W' := hK hh W' h1 h2 h3 trivial
        simp only [region_kn4X, updH_same] at h4
        exact h4)
      have m58   := (hmem 1 (show 1 ∈ uOf region_kn4U 3 by decide) (by decide)).1
      clear hK ld lq hmem
      refine step_call (vals := #[.agg #[.int .i64 4, .slice (some ⟨gh, 0, none⟩) 6 qh], .agg #[.int .i64 4, .slice (some ⟨(hds 1).b, 0, none⟩) 2 2]]) (by exact ⟨_, _, Try.func38, by kernel_rfl, rfl⟩) (by simp only [List.map_toArray, List.map_cons, List.map_nil, e57, e59]) (call38x gh qh (hds 1).b 2 W (hn6.below hB hg6) (Nat.lt_of_lt_of_le hg6 hB.size) m58.1 m58.2) ?_
      rintro e w' ⟨g, cap, rfl, hn, hl, hg, hb'⟩
      exact ⟨_, rfl, HK.out ⟨g, cap, 0, 0, none⟩ _ hb' ⟨hn, hg⟩ (bd_one hl hg)⟩
    | 4, _ =>
      obtain ⟨ty, pos, aft, e, hdp⟩ := iop4
      rw [e] at ho
      obtain rfl := Option.some.inj ho
      intro a' hds W K hB lq ld hmem hK
      have e60 : a'.eval (.tmp 60) = .tuple #[.slice (some ⟨(hds 3).b, 0, none⟩) 2 (hds 3).c, .int .i64 0] := by rw [eval_tmp]; exact ld 3 60 (List.all_eq_true.1 hdp 3 (by decide)) rfl
      have t60 := (eval_tmp a' 60).symm.trans e60
      have HK := Lib.hid (show K (a'.put (some 56) (.tuple #[.slice (some ⟨(hds 3).b, 0, none⟩) 2 (hds 3).c, .int .i64 0])) W from hK W (Below.refl _ _) trivial)
      clear hK ld lq hmem
      unfold Oper.wp
      simp only [execOp, e60]
      exact HK.out
    | 5, _ =>
      obtain ⟨ty, pos, aft, e, hdp⟩ := iop5
      rw [e] at ho
      obtain rfl := Option.some.inj ho
      intro a' hds W K hB lq ld hmem hK
      have e56 : a'.eval (.tmp 56) = .tuple #[.slice (some ⟨(hds 3).b, 0, none⟩) 2 (hds 3).c, .int .i64 0] := by rw [eval_tmp]; exact ld 4 56 (List.all_eq_true.1 hdp 4 (by decide)) rfl
      have t56 := (eval_tmp a' 56).symm.trans e56
      have HK := Lib.hid (show K (a'.put (some 61) (.slice (some ⟨(hds 3).b, 0, none⟩) 2 (hds 3).c)) W from hK W (Below.refl _ _) trivial)
      clear hK ld lq hmem
      unfold Oper.wp
      simp only [execOp, e56]
      exact HK.out
    | 6, _ =>
      obtain ⟨ty, pos, aft, e, hdp⟩ := iop6
      rw [e] at ho
      obtain rfl := Option.some.inj ho
      intro a' hds W K hB lq ld hmem hK
      have e56 : a'.eval (.tmp 56) = .tuple #[.slice (some ⟨(hds 3).b, 0, none⟩) 2 (hds 3).c, .int .i64 0] := by rw [eval_tmp]; exact ld 4 56 (List.all_eq_true.1 hdp 4 (by decide)) rfl
      have t56 := (eval_tmp a' 56).symm.trans e56
      have HK := Lib.hid (show K (a'.put (some 62) (.int .i64 0)) W from hK W (Below.refl _ _) trivial)
      clear hK ld lq hmem
      unfold Oper.wp
      simp only [execOp, e56]
      exact HK.out
    | 7, _ =>
      obtain ⟨ty, pos, aft, e, hdp⟩ := iop7
      rw [e] at ho
      obtain rfl := Option.some.inj ho
      intro a' hds W K hB lq ld hmem hK
      have e61 : a'.eval (.tmp 61) = .slice (some ⟨(hds 3).b, 0, none⟩) 2 (hds 3).c := by rw [eval_tmp]; exact ld 5 61 (List.all_eq_true.1 hdp 5 (by decide)) rfl
      have t61 := (eval_tmp a' 61).symm.trans e61
      have HK := Lib.hid (show K (a'.put (some 4) (.slice (some ⟨(hds 3).b, 0, none⟩) 2 (hds 3).c)) W from hK W (Below.refl _ _) trivial)
      clear hK ld lq hmem
      unfold Oper.wp
      simp only [execOp, e61]
      exact HK.out
    | 8, _ =>
      obtain ⟨ty, pos, aft, e, hdp⟩ := iop8
      rw [e] at ho
      obtain rfl := Option.some.inj ho
      intro a' hds W K hB lq ld hmem hK
      have e62 : a'.eval (.tmp 62) = .int .i64 0 := by rw [eval_tmp]; exact ld 6 62 (List.all_eq_true.1 hdp 6 (by decide)) rfl
      have t62 := (eval_tmp a' 62).symm.trans e62
      have HK := Lib.hid (show K (a'.put (some 5) (.int .i64 0)) W from hK W (Below.refl _ _) trivial)
      clear hK ld lq hmem
      unfold Oper.wp
      simp only [execOp, e62]
      exact HK.out
    | i + 9, h => omega
  · intro hds v W hO
    have hfin := gend (hds 1).b (hds 1).c (hds 1).b2 (hds 1).c2 (hds 3).b (hds 3).c (hds 3).b2 (hds 3).c2 (hds 1).p (hds 3).p (v 57) (v 58) (v 59) (v 60) (v 56) (v 61) (v 62) W hO.b (hO.m 1 (by show 1 < 9; decide) rfl).1 (hO.m 1 (by show 1 < 9; decide) rfl).2 (hO.m 3 (by show 3 < 9; decide) rfl).1 (hO.m 3 (by show 3 < 9; decide) rfl).2
    rw [← laid_putL _ a v ?_] at hfin
    · exact hfin
    · intro p hp
      simp only [List.mem_cons, List.not_mem_nil, or_false] at hp
      rcases hp with rfl | rfl | rfl | rfl | rfl | rfl | rfl | rfl | rfl
      · rfl
      · rfl
      · rfl
      · rfl
      · rfl
      · rfl
      · rfl
      · exact hO.x 7 (show 7 < 9 by decide) 4 rfl
      · exact hO.x 8 (show 8 < 9 by decide) 5 rfl
def region_kn9U : List (List Nat) := [[], [1], [1], [1, 3], [1, 3], [1, 3], [1, 3], [1, 3], [1, 3]]
def region_kn9X (E gh qh : Nat) : Nat → (Nat → Hd) → Value
  | 0, _ => .agg #[.int .i64 4, .slice (some ⟨gh, 0, none⟩) 6 qh]
  | 1, hds => .slice (some ⟨(hds 1).b, 0, none⟩) 1 1
  | 2, hds => .agg #[.int .i64 4, .slice (some ⟨(hds 1).b, 0, none⟩) 1 1]
  | 3, hds => .tuple #[.slice (some ⟨(hds 3).b, 0, none⟩) 1 (hds 3).c, .int .i64 0]
  | 4, hds => .tuple #[.slice (some ⟨(hds 3).b, 0, none⟩) 1 (hds 3).c, .int .i64 0]
  | 5, hds => .slice (some ⟨(hds 3).b, 0, none⟩) 1 (hds 3).c
  | 6, _ => .int .i64 0
  | 7, hds => .slice (some ⟨(hds 3).b, 0, none⟩) 1 (hds 3).c
  | 8, _ => .int .i64 0
  | _ + 9, _ => undef
theorem region_kn9X.congr (E gh qh : Nat) : ∀ i hds hds', (∀ r ∈ uOf region_kn9U i, hds r = hds' r) → region_kn9X E gh qh i hds = region_kn9X E gh qh i hds'
  | 0, _, _, _ => rfl
  | 1, hds, hds', h => by simp only [region_kn9X, h 1 (show 1 ∈ uOf region_kn9U 1 by decide)]
  | 2, hds, hds', h => by simp only [region_kn9X, h 1 (show 1 ∈ uOf region_kn9U 2 by decide)]
  | 3, hds, hds', h => by simp only [region_kn9X, h 3 (show 3 ∈ uOf region_kn9U 3 by decide)]
  | 4, hds, hds', h => by simp only [region_kn9X, h 3 (show 3 ∈ uOf region_kn9U 4 by decide)]
  | 5, hds, hds', h => by simp only [region_kn9X, h 3 (show 3 ∈ uOf region_kn9U 5 by decide)]
  | 6, _, _, _ => rfl
  | 7, hds, hds', h => by simp only [region_kn9X, h 3 (show 3 ∈ uOf region_kn9U 7 by decide)]
  | 8, _, _, _ => rfl
  | _ + 9, _, _, _ => rfl
def region_kn9M (E gh qh : Nat) : Nat → Mem
  | 1 => memNats [7]
  | 3 => memFl1 ⟨0, 4, 5, true⟩
  | _ => memNone
def region_kn9S (E gh qh : Nat) : Nat → Option Sto
  | _ => none
set_option maxRecDepth 8000 in
set_option maxHeartbeats 2000000 in
theorem region_kn9 {id : Nat} {ops : Array Oper} {Q : Exit → Act → World → Prop} {a : Act} {w : World} (E gh qh : Nat) (hn6 : NatsAt w gh 0 exHs) (hg6 : gh < w.heap.size) (hE : BoxAt w E #[.int .i64 4, .slice (some ⟨gh, 0, none⟩) 6 qh] 26)
    (gsize : ops.size = 9)
    (gops : IsOp ops 0 (some 89) (.load 26 (.tmp 1)) none [] ∧ IsOp ops 1 (some 90) (.buildSlice 24 1 #[(0, .const (.int .i64 7))]) none [] ∧ IsOp ops 2 (some 91) (.call { callee := .value (.func 62), args := #[.const (.int .i64 4), .tmp 90], argTypes := #[3, 24] }) none [1] ∧ IsOp ops 3 (some 92) (.call { callee := .value (.func 39), args := #[.tmp 89, .tmp 91, .const (.int .i64 2)], argTypes := #[26, 37, 3] }) none [0, 2] ∧ IsOp ops 4 (some 88) (.move (.tmp 92)) none [3] ∧ IsOp ops 5 (some 93) (.extract (.tmp 88) 0) none [4] ∧ IsOp ops 6 (some 94) (.extract (.tmp 88) 1) none [4] ∧ IsOp ops 7 (some 17) (.assign (.tmp 93)) none [5] ∧ IsOp ops 8 (some 18) (.assign (.tmp 94)) none [6])
    (gbk : backB ops = true) (gds : dstsB ops (dOf [some 89, some 90, some 91, some 92, some 88, some 93, some 94, some 17, some 18]) = true) (gus : useB ops (uOf region_kn9U) (kOf [0, 1, 0, 1, 0, 0, 0, 0, 0]) = true) (ggd : plainB ops = true) (gsz : ∀ e ∈ [89, 90, 91, 92, 88, 93, 94, 17, 18], e < a.tmps.size)
    (gout : a.eval (.tmp 1) = .pointer (some ⟨E, 0, none⟩))
    (gend : ∀ (g90 q90 G90 Q90 g92 q92 G92 Q92 : Nat) (P90 P92 : Option Addr) (u89 u90 u91 u92 u88 u93 u94 : Value) (W : World), Below w.heap.size w W → (memNats [7]).P ⟨g90, q90, G90, Q90, P90⟩ W → (∀ b ∈ (memNats [7]).bl ⟨g90, q90, G90, Q90, P90⟩, w.heap.size ≤ b ∧ b < W.heap.size) → (memFl1 ⟨0, 4, 5, true⟩).P ⟨g92, q92, G92, Q92, P92⟩ W → (∀ b ∈ (memFl1 ⟨0, 4, 5, true⟩).bl ⟨g92, q92, G92, Q92, P92⟩, w.heap.size ≤ b ∧ b < W.heap.size) → Q .normal (putL a [(89, u89), (90, u90), (91, u91), (92, u92), (88, u88), (93, u93), (94, u94), (17, .slice (some ⟨g92, 0, none⟩) 1 q92), (18, .int .i64 0)]) W) :
    (Code.region id ops true).wp Try.prog Q a w := by
  obtain ⟨iop0, iop1, iop2, iop3, iop4, iop5, iop6, iop7, iop8⟩ := gops
  have o1 := gout
  refine region_all (RSp.of 9 [some 89, some 90, some 91, some 92, some 88, some 93, some 94, some 17, some 18] (fun _ => true) (region_kn9X E gh qh) region_kn9U [0, 1, 0, 1, 0, 0, 0, 0, 0] (region_kn9M E gh qh) (region_kn9S E gh qh)) [(1, .pointer (some ⟨E, 0, none⟩))] [89, 90, 91, 92, 88, 93, 94, 17, 18] (RSp.of_fit gsize.symm gbk gds gus ggd (by decide) ?_) (RSp.of_ok _ (region_kn9X.congr E gh qh) ?_) gsz ?_ ?_ ?_
  · intro p hp
    have hp2 : p ∈ ([] : List (Nat × Nat)) := hp
    cases hp2
  · intro i s hds
    match i, hds with
    | 0, hds => cases hds
    | 1, hds => cases hds
    | 2, hds => cases hds
    | 3, hds => cases hds
    | 4, hds => cases hds
    | 5, hds => cases hds
    | 6, hds => cases hds
    | 7, hds => cases hds
    | 8, hds => cases hds
    | _ + 9, hds => cases hds
  · intro q hq
    simp only [List.mem_cons, List.not_mem_nil, or_false] at hq
    subst hq
    · exact ⟨o1, by simp⟩
  · intro i o ho _
    have hi : i < 9 := by rw [← gsize]; exact (Array.getElem?_eq_some_iff.1 ho).1
    match i, hi with
    | 0, _ =>
      obtain ⟨ty, pos, aft, e, hdp⟩ := iop0
      rw [e] at ho
      obtain rfl := Option.some.inj ho
      intro a' hds W K hB lq ld hmem hK
      have e1 : a'.eval (.tmp 1) = .pointer (some ⟨E, 0, none⟩) := by rw [eval_tmp]; exact lq (1, .pointer (some ⟨E, 0, none⟩)) (by simp)
      have t1 := (eval_tmp a' 1).symm.trans e1
      have HK := Lib.hid (show K (a'.put (some 89) (.agg #[.int .i64 4, .slice (some ⟨gh, 0, none⟩) 6 qh])) W from hK W (Below.refl _ _) trivial)
      clear hK ld lq hmem
      have c0 := (hE.next hB).cell' 0 rfl
      have c1 := (hE.next hB).cell' 1 rfl
      unfold Oper.wp
      simp only [execOp, e1]
      go_simp
      exact HK.out
    | 1, _ =>
      obtain ⟨ty, pos, aft, e, hdp⟩ := iop1
      rw [e] at ho
      obtain rfl := Option.some.inj ho
      intro a' hds W K hB lq ld hmem hK
      have HK := Lib.hid (show ∀ hh W', Below W.heap.size W W' → (memNats [7]).P hh W' → (∀ b ∈ (memNats [7]).bl hh, W.heap.size ≤ b ∧ b < W'.heap.size) → K (a'.put (some 90) (.slice (some ⟨hh.b, 0, none⟩) 1 1)) W' from fun hh W' h1 h2 h3 => by
        have h4 : K (a'.put (some 90) (region_kn9X E gh qh 1 (updH hds 1 hh))) W' := hK hh W' h1 h2 h3 trivial
        simp only [region_kn9X, updH_same] at h4
        exact h4)
      clear hK ld lq hmem
      have hfin := Lib.hid (HK.out ⟨W.heap.size, 0, 0, 0, none⟩ _ ((Below.refl _ _).alloc (Nat.le_refl _) (.cells #[.int .i64 7] 3)) ⟨nats1 (a := 7) (BoxAt.new W #[.int .i64 7] 3), by simp⟩ (bd_one (Nat.le_refl _) (by simp)))
      clear HK
      unfold Oper.wp
      simp only [execOp]
      go_simp
      exact hfin.out
    | 2, _ =>
      obtain ⟨ty, pos, aft, e, hdp⟩ := iop2
      rw [e] at ho
      obtain rfl := Option.some.inj ho
      intro a' hds W K hB lq ld hmem hK
      have e90 : a'.eval (.tmp 90) = .slice (some ⟨(hds 1).b, 0, none⟩) 1 1 := by rw [eval_tmp]; exact ld 1 90 (List.all_eq_true.1 hdp 1 (by decide)) rfl
      have t90 := (eval_tmp a' 90).symm.trans e90
      have m90   := (hmem 1 (show 1 ∈ uOf region_kn9U 2 by decide) (by decide)).1
      have HK := Lib.hid (show ∀ W', Below W.heap.size W W' → K (a'.put (some 91) (.agg #[.int .i64 4, .slice (some ⟨(hds 1).b, 0, none⟩) 1 1])) W' from fun W' h => hK W' h trivial)
      clear hK ld lq hmem
      refine step_call (vals := #[.int .i64 4, .slice (some ⟨(hds 1).b, 0, none⟩) 1 1]) (by exact ⟨_, _, Try.func62, by kernel_rfl, rfl⟩) (by simp only [List.map_toArray, List.map_cons, List.map_nil, e90]; rfl) (call62 4 (some ⟨(hds 1).b, 0, none⟩) 1 1 W) ?_
      rintro e w' ⟨rfl, hb'⟩
      exact ⟨_, rfl, HK.out _ hb'⟩
    | 3, _ =>
      obtain ⟨ty, pos, aft, e, hdp⟩ := iop3
      rw [e] at ho
      obtain rfl := Option.some.inj ho
      intro a' hds W K hB lq ld hmem hK
      have e89 : a'.eval (.tmp 89) = .agg #[.int .i64 4, .slice (some ⟨gh, 0, none⟩) 6 qh] := by rw [eval_tmp]; exact ld 0 89 (List.all_eq_true.1 hdp 0 (by decide)) rfl
      have t89 := (eval_tmp a' 89).symm.trans e89
      have e91 : a'.eval (.tmp 91) = .agg #[.int .i64 4, .slice (some ⟨(hds 1).b, 0, none⟩) 1 1] := by rw [eval_tmp]; exact ld 2 91 (List.all_eq_true.1 hdp 2 (by decide)) rfl
      have t91 := (eval_tmp a' 91).symm.trans e91
      have HK := Lib.hid (show ∀ hh W', Below W.heap.size W W' → (memFl1 ⟨0, 4, 5, true⟩).P hh W' → (∀ b ∈ (memFl1 ⟨0, 4, 5, true⟩).bl hh, W.heap.size ≤ b ∧ b < W'.heap.size) → K (a'.put (some 92) (.tuple #[.slice (some ⟨hh.b, 0, none⟩) 1 hh.c, .int .i64 0])) W' from fun hh W' h1 h2 h3 => by
        have h4 : K (a'.put (some 92) (region_kn9X E gh qh 3 (updH hds 3 hh))) W' := hK hh W' h1 h2 h3 trivial
        simp only [region_kn9X, updH_same] at h4
        exact h4)
      have m90   := (hmem 1 (show 1 ∈ uOf region_kn9U 3 by decide) (by decide)).1
      clear hK ld lq hmem
      refine step_call (vals := #[.agg #[.int .i64 4, .slice (some ⟨gh, 0, none⟩) 6 qh], .agg #[.int .i64 4, .slice (some ⟨(hds 1).b, 0, none⟩) 1 1], .int .i64 2]) (by exact ⟨_, _, Try.func39, by kernel_rfl, rfl⟩) (by simp only [List.map_toArray, List.map_cons, List.map_nil, e89, e91]; rfl) (call39x gh qh (hds 1).b 1 W (hn6.below hB hg6) (Nat.lt_of_lt_of_le hg6 hB.size) m90.1 m90.2) ?_
      rintro e w' ⟨g, cap, rfl, hn, hl, hg, hb'⟩
      exact ⟨_, rfl, HK.out ⟨g, cap, 0, 0, none⟩ _ hb' hn (bd_one hl hg)⟩
    | 4, _ =>
      obtain ⟨ty, pos, aft, e, hdp⟩ := iop4
      rw [e] at ho
      obtain rfl := Option.some.inj ho
      intro a' hds W K hB lq ld hmem hK
      have e92 : a'.eval (.tmp 92) = .tuple #[.slice (some ⟨(hds 3).b, 0, none⟩) 1 (hds 3).c, .int .i64 0] := by rw [eval_tmp]; exact ld 3 92 (List.all_eq_true.1 hdp 3 (by decide)) rfl
      have t92 := (eval_tmp a' 92).symm.trans e92
      have HK := Lib.hid (show K (a'.put (some 88) (.tuple #[.slice (some ⟨(hds 3).b, 0, none⟩) 1 (hds 3).c, .int .i64 0])) W from hK W (Below.refl _ _) trivial)
      clear hK ld lq hmem
      unfold Oper.wp
      simp only [execOp, e92]
      exact HK.out
    | 5, _ =>
      obtain ⟨ty, pos, aft, e, hdp⟩ := iop5
      rw [e] at ho
      obtain rfl := Option.some.inj ho
      intro a' hds W K hB lq ld hmem hK
      have e88 : a'.eval (.tmp 88) = .tuple #[.slice (some ⟨(hds 3).b, 0, none⟩) 1 (hds 3).c, .int .i64 0] := by rw [eval_tmp]; exact ld 4 88 (List.all_eq_true.1 hdp 4 (by decide)) rfl
      have t88 := (eval_tmp a' 88).symm.trans e88
      have HK := Lib.hid (show K (a'.put (some 93) (.slice (some ⟨(hds 3).b, 0, none⟩) 1 (hds 3).c)) W from hK W (Below.refl _ _) trivial)
      clear hK ld lq hmem
      unfold Oper.wp
      simp only [execOp, e88]
      exact HK.out
    | 6, _ =>
      obtain ⟨ty, pos, aft, e, hdp⟩ := iop6
      rw [e] at ho
      obtain rfl := Option.some.inj ho
      intro a' hds W K hB lq ld hmem hK
      have e88 : a'.eval (.tmp 88) = .tuple #[.slice (some ⟨(hds 3).b, 0, none⟩) 1 (hds 3).c, .int .i64 0] := by rw [eval_tmp]; exact ld 4 88 (List.all_eq_true.1 hdp 4 (by decide)) rfl
      have t88 := (eval_tmp a' 88).symm.trans e88
      have HK := Lib.hid (show K (a'.put (some 94) (.int .i64 0)) W from hK W (Below.refl _ _) trivial)
      clear hK ld lq hmem
      unfold Oper.wp
      simp only [execOp, e88]
      exact HK.out
    | 7, _ =>
      obtain ⟨ty, pos, aft, e, hdp⟩ := iop7
      rw [e] at ho
      obtain rfl := Option.some.inj ho
      intro a' hds W K hB lq ld hmem hK
      have e93 : a'.eval (.tmp 93) = .slice (some ⟨(hds 3).b, 0, none⟩) 1 (hds 3).c := by rw [eval_tmp]; exact ld 5 93 (List.all_eq_true.1 hdp 5 (by decide)) rfl
      have t93 := (eval_tmp a' 93).symm.trans e93
      have HK := Lib.hid (show K (a'.put (some 17) (.slice (some ⟨(hds 3).b, 0, none⟩) 1 (hds 3).c)) W from hK W (Below.refl _ _) trivial)
      clear hK ld lq hmem
      unfold Oper.wp
      simp only [execOp, e93]
      exact HK.out
    | 8, _ =>
      obtain ⟨ty, pos, aft, e, hdp⟩ := iop8
      rw [e] at ho
      obtain rfl := Option.some.inj ho
      intro a' hds W K hB lq ld hmem hK
      have e94 : a'.eval (.tmp 94) = .int .i64 0 := by rw [eval_tmp]; exact ld 6 94 (List.all_eq_true.1 hdp 6 (by decide)) rfl
      have t94 := (eval_tmp a' 94).symm.trans e94
      have HK := Lib.hid (show K (a'.put (some 18) (.int .i64 0)) W from hK W (Below.refl _ _) trivial)
      clear hK ld lq hmem
      unfold Oper.wp
      simp only [execOp, e94]
      exact HK.out
    | i + 9, h => omega
  · intro hds v W hO
    have hfin := gend (hds 1).b (hds 1).c (hds 1).b2 (hds 1).c2 (hds 3).b (hds 3).c (hds 3).b2 (hds 3).c2 (hds 1).p (hds 3).p (v 89) (v 90) (v 91) (v 92) (v 88) (v 93) (v 94) W hO.b (hO.m 1 (by show 1 < 9; decide) rfl).1 (hO.m 1 (by show 1 < 9; decide) rfl).2 (hO.m 3 (by show 3 < 9; decide) rfl).1 (hO.m 3 (by show 3 < 9; decide) rfl).2
    rw [← laid_putL _ a v ?_] at hfin
    · exact hfin
    · intro p hp
      simp only [List.mem_cons, List.not_mem_nil, or_false] at hp
      rcases hp with rfl | rfl | rfl | rfl | rfl | rfl | rfl | rfl | rfl
      · rfl
      · rfl
      · rfl
      · rfl
      · rfl
      · rfl
      · rfl
      · exact hO.x 7 (show 7 < 9 by decide) 17 rfl
      · exact hO.x 8 (show 8 < 9 by decide) 18 rfl
end Go.Proofs.Ytdmgffoikebgkaa
/- Regions that draw their order and whose operations are guarded by tests that hold. -/
namespace Go.Proofs.Ytdmgffoikebgkaa
open Go.RowKit Go.Shelf

/-- each guard is a test among gl that an operation waits for -/
def guardB (ops : Array Oper) (D : Nat → Option Nat) (gl : List Nat) : Bool := (List.range ops.size).all fun i => match ops[i]? with
  | some o => (match o.guard with
    | none => true
    | some (j, b) => b && depB o j && gl.contains j && (D j).isSome && ((ops[j]?).bind (·.dst) == D j))
  | none => true
theorem RSp.of_fitG {ops : Array Oper} {n : Nat} {D : List (Option Nat)} {X : Nat → (Nat → Hd) → Value} {uses : List (List Nat)} {kind : List Nat} {mem : Nat → Mem} {sto : Nat → Option Sto} {gl : List Nat}
    (hn : n = ops.size) (hb : backB ops = true) (hd : dstsB ops (dOf D) = true) (hu : useB ops (uOf uses) (kOf kind) = true) (hg : guardB ops (dOf D) gl = true) (hnd : (D.filterMap id).Nodup)
    (hst : ∀ p ∈ storesOf kind, dOf D p.1 = none ∧ p.2 ∈ uOf uses p.1 ∧ (∀ h, (mem p.2).bl h = [h.b]) ∧ ∀ j, j ≠ p.1 → p.2 ∈ uOf uses j → sto j = none)
    (hX : ∀ j ∈ gl, ∀ hs, X j hs = .bool true) :
    (RSp.of n D (fun _ => true) X uses kind mem sto).Fit ops (D.filterMap id) where
  n := hn
  back := hb
  dst := hd
  use := hu
  mem := fun _ _ _ h => dOf_mem h
  inj := fun _ _ _ h1 h2 => dOf_inj hnd h1 h2
  nd := hnd
  st := fun i t h => by
    obtain ⟨h1, h2, h3, h4⟩ := hst (i, t) (kOf_store h)
    refine ⟨h1, h2, h3, fun j hj hm hs W => ?_⟩
    show match sto j with | none => True | some s => BoxAt W (hs s.t).b (s.c hs) s.T
    rw [h4 j hj hm]
    trivial
  gd := fun i o ho => by
    have h := all_ops hg i o ho
    cases hgd : o.guard with
    | none => exact .inl ⟨rfl, rfl⟩
    | some q =>
      obtain ⟨j, b⟩ := q
      rw [hgd] at h
      simp only [Bool.and_eq_true, beq_iff_eq] at h
      obtain ⟨⟨⟨⟨h1, h2⟩, h3⟩, h4⟩, h5⟩ := h
      obtain ⟨d, hd2⟩ := Option.isSome_iff_exists.1 h4
      refine .inr ⟨j, b, d, rfl, h2, hd2, h5.trans hd2, fun hs => ?_, fun h => by cases h⟩
      rw [h1]
      exact hX j (by simpa using h3) hs
end Go.Proofs.Ytdmgffoikebgkaa
