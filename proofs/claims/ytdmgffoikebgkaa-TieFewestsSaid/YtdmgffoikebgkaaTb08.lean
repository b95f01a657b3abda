/- Harness ties: around the edge, alike warps, Mirrors, Repeat. -/
import Derived.Test.YtdmgffoikebgkaaTb06
import Derived.Test.YtdmgffoikebgkaaTb05
import Derived.Deep.QuietTactic
import Derived.BigQuiet
import Derived.Test.YtdmgffoikebgkaaTb02
import Derived.Test.YtdmgffoikebgkaaTb07
import Derived.Laws.Externs
import Derived.Lib.Bytealg
import Derived.Test.YtdmgffoikebgkaaTb01
import Derived.Sort.QuietIn
import Derived.Sort.CutIn
namespace Go.Proofs.Ytdmgffoikebgkaa
open Go.RowKit Go.Shelf
attribute [local go_sem] Oper.semAt_some

/-- the hook of a warp that is at most one time round the edge away -/
def aroundN (hs : List Nat) (z : Int) : Nat := nthN hs ((z + hs.length).toNat % hs.length)
set_option maxRecDepth 100000 in
set_option maxHeartbeats 1000000 in
theorem tieAround_any (n b off c : Nat) (hs : List Nat) (z : Int) (w : World) (hx : NatsAt w b off hs) (hb : b < w.heap.size) (h0 : 0 < hs.length) (hl : hs.length ≤ 1000) (hz0 : 0 ≤ z + hs.length) (hz1 : z < 100000) :
    Calls Try.prog 175 #[.agg #[.int .i64 (n : Int), .slice (some ⟨b, off, none⟩) hs.length c], .int .i64 z] w fun e w' => e = .returned (.int .i64 (aroundN hs z : Int)) ∧ Below w.heap.size w w' := by
  obtain ⟨w0, hw0⟩ : ∃ w0, w0 = w.alloc (.cells #[.int .i64 (n : Int), .slice (some ⟨b, off, none⟩) hs.length c] 159) := ⟨_, rfl⟩
  have hb0 : Below w.heap.size w w0 := by rw [hw0]; exact (Below.refl _ _).alloc (Nat.le_refl _) _
  have hB : BoxAt w0 w.heap.size #[.int .i64 (n : Int), .slice (some ⟨b, off, none⟩) hs.length c] 159 := by rw [hw0]; exact BoxAt.new _ _ _
  obtain ⟨q, hq⟩ : ∃ q, (z + hs.length).toNat % hs.length = q := ⟨_, rfl⟩
  have hql : q < hs.length := by rw [← hq]; exact Nat.mod_lt _ h0
  have hc := (hx.below hb0 hb) q hql
  have Hq := Lib.hid (show aroundN hs z = nthN hs q by unfold aroundN; rw [hq])
  have b1 := hB.cell' 1 rfl
  have hw1 : IntKind.i64.wrap (z + (hs.length : Int)) = z + (hs.length : Int) := IntWalk.i64_in _ (by omega)
  have hm1 : Int.tmod (z + (hs.length : Int)) (hs.length : Int) = (q : Int) := by
    have e : z + (hs.length : Int) = (((z + hs.length).toNat : Nat) : Int) := by omega
    rw [e, tmod_nn, hq]
  have hn0 : ¬ hs.length = 0 := by omega
  have hn1 : ¬ ((hs.length : Int) = 0) := by omega
  have hq0 : (0 : Int) ≤ (q : Int) := by omega
  have hq1 : (q : Int) < (hs.length : Int) := by omega
  have Hb0 := Lib.hid hb0
  have HW0 := Lib.hid hw0
  clear hb0 hw0 hB hq hx hb hz0 hz1 h0
  go_enter Try.func175, Try.ntmps175
  go_wp2_with fail
  rw [← HW0.out]
  go_quiet (fail)
  all_goals go_wp2_with fail
  all_goals go_ret
  all_goals exact ⟨ret_int (by rw [Hq.out]), Hb0.out.trans ((below_drewN w0 w0.heap.size _).mono Hb0.out.size)⟩
/-- is each warp tied to the same hook as another one? -/
def likeB (hs : List Nat) (F : Nat → Int) : Bool := (List.range hs.length).all fun k => nthN hs k == aroundN hs (F k)
theorem likeB_no {hs : List Nat} {F : Nat → Int} {k : Nat} (hk : k < hs.length) (h : nthN hs k ≠ aroundN hs (F k)) : likeB hs F = false := by
  unfold likeB
  rw [List.all_eq_false]
  exact ⟨k, by simpa using hk, by simpa using h⟩
theorem likeB_yes {hs : List Nat} {F : Nat → Int} (h : ∀ k, k < hs.length → nthN hs k = aroundN hs (F k)) : likeB hs F = true := by
  unfold likeB
  rw [List.all_eq_true]
  exact fun k hk => by simpa using h k (by simpa using hk)
def region_likeMU : List (List Nat) := [[], [], [], [], [], [], [], [], [], [], [], []]
def region_likeMX (n b off c k B S : Nat) (hs : List Nat) (F : Nat → Int) : Nat → (Nat → Hd) → Value
  | 0, _ => .pointer (some ⟨B, 0, none⟩)
  | 1, _ => .pointer (some ⟨B, 1, none⟩)
  | 2, _ => .slice (some ⟨b, off, none⟩) hs.length c
  | 3, _ => .int .i64 (k : Int)
  | 4, _ => .pointer (some ⟨b, off + k, none⟩)
  | 5, _ => .int .i64 (nthN hs k : Int)
  | 6, _ => .agg #[.int .i64 (n : Int), .slice (some ⟨b, off, none⟩) hs.length c]
  | 7, _ => .func (.func 117) #[] #[.pointer (some ⟨S, 0, none⟩)]
  | 8, _ => .int .i64 (k : Int)
  | 9, _ => .int .i64 (F k)
  | 10, _ => .int .i64 (aroundN hs (F k) : Int)
  | 11, _ => .bool ((nthN hs k : Int) != (aroundN hs (F k) : Int))
  | _ + 12, _ => undef
theorem region_likeMX.congr (n b off c k B S : Nat) (hs : List Nat) (F : Nat → Int) : ∀ i hds hds', (∀ r ∈ uOf region_likeMU i, hds r = hds' r) → region_likeMX n b off c k B S hs F i hds = region_likeMX n b off c k B S hs F i hds'
  | 0, _, _, _ => rfl
  | 1, _, _, _ => rfl
  | 2, _, _, _ => rfl
  | 3, _, _, _ => rfl
  | 4, _, _, _ => rfl
  | 5, _, _, _ => rfl
  | 6, _, _, _ => rfl
  | 7, _, _, _ => rfl
  | 8, _, _, _ => rfl
  | 9, _, _, _ => rfl
  | 10, _, _, _ => rfl
  | 11, _, _, _ => rfl
  | _ + 12, _, _, _ => rfl
def region_likeMM  : Nat → Mem
  | _ => memNone
def region_likeMS  : Nat → Option Sto
  | _ => none
set_option maxRecDepth 8000 in
set_option maxHeartbeats 2000000 in
theorem region_likeM {id : Nat} {ops : Array Oper} {Q : Exit → Act → World → Prop} {a : Act} {w : World} (n b off c k B S : Nat) (hs : List Nat) (F : Nat → Int) (hx : NatsAt w b off hs) (hb : b < w.heap.size) (hk : k < hs.length) (hl : hs.length ≤ 1000) (hF : 0 ≤ F k + hs.length ∧ F k < 100000) (HC : ∀ W', Below w.heap.size w W' → Calls Try.prog 117 #[.int .i64 (k : Int), .pointer (some ⟨S, 0, none⟩)] W' fun e w' => e = .returned (.int .i64 (F k)) ∧ W' = w') (hbox : BoxAt w B #[.int .i64 (n : Int), .slice (some ⟨b, off, none⟩) hs.length c] 159)
    (gsize : ops.size = 12)
    (gops : IsOp ops 0 (some 13) (.fieldAddr 159 (.tmp 2) 0) none [] ∧ IsOp ops 1 (some 14) (.fieldAddr 26 (.tmp 13) 1) none [0] ∧ IsOp ops 2 (some 15) (.load 24 (.tmp 14)) none [1] ∧ IsOp ops 3 (some 16) (.move (.tmp 5)) none [] ∧ IsOp ops 4 (some 17) (.indexAddr 24 (.tmp 15) (.tmp 16)) none [2, 3] ∧ IsOp ops 5 (some 18) (.load 3 (.tmp 17)) none [4] ∧ IsOp ops 6 (some 19) (.load 159 (.tmp 2)) none [] ∧ IsOp ops 7 (some 20) (.move (.tmp 1)) none [] ∧ IsOp ops 8 (some 21) (.move (.tmp 5)) none [] ∧ IsOp ops 9 (some 22) (.call { callee := .value (.tmp 20), args := #[.tmp 21], argTypes := #[3] }) none [7, 8] ∧ IsOp ops 10 (some 23) (.call { callee := .value (.func 175), args := #[.tmp 19, .tmp 22], argTypes := #[159, 3] }) none [6, 9] ∧ IsOp ops 11 (some 24) (.binOp .neq 3 (.tmp 18) (.tmp 23) 3) none [5, 10])
    (gbk : backB ops = true) (gds : dstsB ops (dOf [some 13, some 14, some 15, some 16, some 17, some 18, some 19, some 20, some 21, some 22, some 23, some 24]) = true) (gus : useB ops (uOf region_likeMU) (kOf [0, 0, 0, 0, 0, 0, 0, 0, 0, 0, 0, 0]) = true) (ggd : plainB ops = true) (gsz : ∀ e ∈ [13, 14, 15, 16, 17, 18, 19, 20, 21, 22, 23, 24], e < a.tmps.size)
    (gout : a.eval (.tmp 2) = .pointer (some ⟨B, 0, none⟩) ∧ a.eval (.tmp 5) = .int .i64 (k : Int) ∧ a.eval (.tmp 1) = .func (.func 117) #[] #[.pointer (some ⟨S, 0, none⟩)])
    (gend : ∀ (u13 u14 u15 u16 u17 u18 u19 u20 u21 u22 u23 : Value) (W : World), Below w.heap.size w W → Q .normal (putL a [(13, u13), (14, u14), (15, u15), (16, u16), (17, u17), (18, u18), (19, u19), (20, u20), (21, u21), (22, u22), (23, u23), (24, .bool ((nthN hs k : Int) != (aroundN hs (F k) : Int)))]) W) :
    (Code.region id ops true).wp Try.prog Q a w := by
  obtain ⟨iop0, iop1, iop2, iop3, iop4, iop5, iop6, iop7, iop8, iop9, iop10, iop11⟩ := gops
  obtain ⟨o2, o5, o1⟩ := gout
  refine region_all (RSp.of 12 [some 13, some 14, some 15, some 16, some 17, some 18, some 19, some 20, some 21, some 22, some 23, some 24] (fun _ => true) (region_likeMX n b off c k B S hs F) region_likeMU [0, 0, 0, 0, 0, 0, 0, 0, 0, 0, 0, 0] (region_likeMM ) (region_likeMS )) [(2, .pointer (some ⟨B, 0, none⟩)), (5, .int .i64 (k : Int)), (1, .func (.func 117) #[] #[.pointer (some ⟨S, 0, none⟩)])] [13, 14, 15, 16, 17, 18, 19, 20, 21, 22, 23, 24] (RSp.of_fit gsize.symm gbk gds gus ggd (by decide) ?_) (RSp.of_ok _ (region_likeMX.congr n b off c k B S hs F) ?_) gsz ?_ ?_ ?_
  · intro p hp
    have hp2 : p ∈ ([] : List (Nat × Nat)) := hp
    cases hp2
  · intro i s hds
    match i, hds with
    | 0, hds => cases hds
    | 1, hds => cases hds
    | 2, hds => cases hds
    | 3, hds => cases hds
    | 4, hds => cases hds
    | 5, hds => cases hds
    | 6, hds => cases hds
    | 7, hds => cases hds
    | 8, hds => cases hds
    | 9, hds => cases hds
    | 10, hds => cases hds
    | 11, hds => cases hds
    | _ + 12, hds => cases hds
  · intro q hq
    simp only [List.mem_cons, List.not_mem_nil, or_false] at hq
    rcases hq with rfl | rfl | rfl
    · exact ⟨o2, by simp⟩
    · exact ⟨o5, by simp⟩
    · exact ⟨o1, by simp⟩
  · intro i o ho _
    have hi : i < 12 := by rw [← gsize]; exact (Array.getElem?_eq_some_iff.1 ho).1
    match i, hi with
    | 0, _ =>
      obtain ⟨ty, pos, aft, e, hdp⟩ := iop0
      rw [e] at ho
      obtain rfl := Option.some.inj ho
      intro a' hds W K hB lq ld hmem hK
      have e2 : a'.eval (.tmp 2) = .pointer (some ⟨B, 0, none⟩) := by rw [eval_tmp]; exact lq (2, .pointer (some ⟨B, 0, none⟩)) (by simp)
      have HK := Lib.hid (show K (a'.put (some 13) (.pointer (some ⟨B, 0, none⟩))) W from hK W (Below.refl _ _) trivial)
      clear hK ld lq hmem
      unfold Oper.wp
      simp only [execOp, e2]
      go_simp
      exact HK.out
    | 1, _ =>
      obtain ⟨ty, pos, aft, e, hdp⟩ := iop1
      rw [e] at ho
      obtain rfl := Option.some.inj ho
      intro a' hds W K hB lq ld hmem hK
      have e13 : a'.eval (.tmp 13) = .pointer (some ⟨B, 0, none⟩) := by rw [eval_tmp]; exact ld 0 13 (List.all_eq_true.1 hdp 0 (by decide)) rfl
      have HK := Lib.hid (show K (a'.put (some 14) (.pointer (some ⟨B, 1, none⟩))) W from hK W (Below.refl _ _) trivial)
      clear hK ld lq hmem
      unfold Oper.wp
      simp only [execOp, e13]
      go_simp
      exact HK.out
    | 2, _ =>
      obtain ⟨ty, pos, aft, e, hdp⟩ := iop2
      rw [e] at ho
      obtain rfl := Option.some.inj ho
      intro a' hds W K hB lq ld hmem hK
      have e14 : a'.eval (.tmp 14) = .pointer (some ⟨B, 1, none⟩) := by rw [eval_tmp]; exact ld 1 14 (List.all_eq_true.1 hdp 1 (by decide)) rfl
      have HK := Lib.hid (show K (a'.put (some 15) (.slice (some ⟨b, off, none⟩) hs.length c)) W from hK W (Below.refl _ _) trivial)
      clear hK ld lq hmem
      have c1 := (hbox.next hB).cell' 1 rfl
      unfold Oper.wp
      simp only [execOp, e14]
      go_simp
      exact HK.out
    | 3, _ =>
      obtain ⟨ty, pos, aft, e, hdp⟩ := iop3
      rw [e] at ho
      obtain rfl := Option.some.inj ho
      intro a' hds W K hB lq ld hmem hK
      have e5 : a'.eval (.tmp 5) = .int .i64 (k : Int) := by rw [eval_tmp]; exact lq (5, .int .i64 (k : Int)) (by simp)
      have HK := Lib.hid (show K (a'.put (some 16) (.int .i64 (k : Int))) W from hK W (Below.refl _ _) trivial)
      clear hK ld lq hmem
      unfold Oper.wp
      simp only [execOp, e5]
      exact HK.out
    | 4, _ =>
      obtain ⟨ty, pos, aft, e, hdp⟩ := iop4
      rw [e] at ho
      obtain rfl := Option.some.inj ho
      intro a' hds W K hB lq ld hmem hK
      have e15 : a'.eval (.tmp 15) = .slice (some ⟨b, off, none⟩) hs.length c := by rw [eval_tmp]; exact ld 2 15 (List.all_eq_true.1 hdp 2 (by decide)) rfl
      have e16 : a'.eval (.tmp 16) = .int .i64 (k : Int) := by rw [eval_tmp]; exact ld 3 16 (List.all_eq_true.1 hdp 3 (by decide)) rfl
      have HK := Lib.hid (show K (a'.put (some 17) (.pointer (some ⟨b, off + k, none⟩))) W from hK W (Below.refl _ _) trivial)
      clear hK ld lq hmem
      have hk0 : (0 : Int) ≤ (k : Int) := by omega
      have hk1 : (k : Int) < (hs.length : Int) := by omega
      unfold Oper.wp
      simp only [execOp, e15, e16]
      go_simp
      exact HK.out
    | 5, _ =>
      obtain ⟨ty, pos, aft, e, hdp⟩ := iop5
      rw [e] at ho
      obtain rfl := Option.some.inj ho
      intro a' hds W K hB lq ld hmem hK
      have e17 : a'.eval (.tmp 17) = .pointer (some ⟨b, off + k, none⟩) := by rw [eval_tmp]; exact ld 4 17 (List.all_eq_true.1 hdp 4 (by decide)) rfl
      have HK := Lib.hid (show K (a'.put (some 18) (.int .i64 (nthN hs k : Int))) W from hK W (Below.refl _ _) trivial)
      clear hK ld lq hmem
      have c0 := (hx.below hB hb) k hk
      unfold Oper.wp
      simp only [execOp, e17]
      go_simp
      exact HK.out
    | 6, _ =>
      obtain ⟨ty, pos, aft, e, hdp⟩ := iop6
      rw [e] at ho
      obtain rfl := Option.some.inj ho
      intro a' hds W K hB lq ld hmem hK
      have e2 : a'.eval (.tmp 2) = .pointer (some ⟨B, 0, none⟩) := by rw [eval_tmp]; exact lq (2, .pointer (some ⟨B, 0, none⟩)) (by simp)
      have HK := Lib.hid (show K (a'.put (some 19) (.agg #[.int .i64 (n : Int), .slice (some ⟨b, off, none⟩) hs.length c])) W from hK W (Below.refl _ _) trivial)
      clear hK ld lq hmem
      have c0 := (hbox.next hB).cell' 0 rfl
      have c1 := (hbox.next hB).cell' 1 rfl
      unfold Oper.wp
      simp only [execOp, e2]
      go_simp
      exact HK.out
    | 7, _ =>
      obtain ⟨ty, pos, aft, e, hdp⟩ := iop7
      rw [e] at ho
      obtain rfl := Option.some.inj ho
      intro a' hds W K hB lq ld hmem hK
      have e1 : a'.eval (.tmp 1) = .func (.func 117) #[] #[.pointer (some ⟨S, 0, none⟩)] := by rw [eval_tmp]; exact lq (1, .func (.func 117) #[] #[.pointer (some ⟨S, 0, none⟩)]) (by simp)
      have HK := Lib.hid (show K (a'.put (some 20) (.func (.func 117) #[] #[.pointer (some ⟨S, 0, none⟩)])) W from hK W (Below.refl _ _) trivial)
      clear hK ld lq hmem
      unfold Oper.wp
      simp only [execOp, e1]
      exact HK.out
    | 8, _ =>
      obtain ⟨ty, pos, aft, e, hdp⟩ := iop8
      rw [e] at ho
      obtain rfl := Option.some.inj ho
      intro a' hds W K hB lq ld hmem hK
      have e5 : a'.eval (.tmp 5) = .int .i64 (k : Int) := by rw [eval_tmp]; exact lq (5, .int .i64 (k : Int)) (by simp)
      have HK := Lib.hid (show K (a'.put (some 21) (.int .i64 (k : Int))) W from hK W (Below.refl _ _) trivial)
      clear hK ld lq hmem
      unfold Oper.wp
      simp only [execOp, e5]
      exact HK.out
    | 9, _ =>
      obtain ⟨ty, pos, aft, e, hdp⟩ := iop9
      rw [e] at ho
      obtain rfl := Option.some.inj ho
      intro a' hds W K hB lq ld hmem hK
      have e20 : a'.eval (.tmp 20) = .func (.func 117) #[] #[.pointer (some ⟨S, 0, none⟩)] := by rw [eval_tmp]; exact ld 7 20 (List.all_eq_true.1 hdp 7 (by decide)) rfl
      have e21 : a'.eval (.tmp 21) = .int .i64 (k : Int) := by rw [eval_tmp]; exact ld 8 21 (List.all_eq_true.1 hdp 8 (by decide)) rfl
      have HK := Lib.hid (show ∀ W', Below W.heap.size W W' → K (a'.put (some 22) (.int .i64 (F k))) W' from fun W' h => hK W' h trivial)
      clear hK ld lq hmem
      refine step_callv (vals := #[.int .i64 (k : Int)]) (first := #[]) (caps := #[.pointer (some ⟨S, 0, none⟩)]) ⟨_, _, Try.func117, by kernel_rfl, rfl⟩ e20 (by simp only [List.map_toArray, List.map_cons, List.map_nil, e21]) (HC W hB) ?_
      rintro e w' ⟨rfl, rfl⟩
      exact ⟨_, rfl, HK.out _ (Below.refl _ _)⟩
    | 10, _ =>
      obtain ⟨ty, pos, aft, e, hdp⟩ := iop10
      rw [e] at ho
      obtain rfl := Option.some.inj ho
      intro a' hds W K hB lq ld hmem hK
      have e19 : a'.eval (.tmp 19) = .agg #[.int .i64 (n : Int), .slice (some ⟨b, off, none⟩) hs.length c] := by rw [eval_tmp]; exact ld 6 19 (List.all_eq_true.1 hdp 6 (by decide)) rfl
      have e22 : a'.eval (.tmp 22) = .int .i64 (F k) := by rw [eval_tmp]; exact ld 9 22 (List.all_eq_true.1 hdp 9 (by decide)) rfl
      have HK := Lib.hid (show ∀ W', Below W.heap.size W W' → K (a'.put (some 23) (.int .i64 (aroundN hs (F k) : Int))) W' from fun W' h => hK W' h trivial)
      clear hK ld lq hmem
      refine step_call (vals := #[.agg #[.int .i64 (n : Int), .slice (some ⟨b, off, none⟩) hs.length c], .int .i64 (F k)]) (by exact ⟨_, _, Try.func175, by kernel_rfl, rfl⟩) (by simp only [List.map_toArray, List.map_cons, List.map_nil, e19, e22]) (tieAround_any n b off c hs (F k) W (hx.below hB hb) (Nat.lt_of_lt_of_le hb hB.size) (by omega) hl hF.1 hF.2) ?_
      rintro e w' ⟨rfl, hb'⟩
      exact ⟨_, rfl, HK.out _ hb'⟩
    | 11, _ =>
      obtain ⟨ty, pos, aft, e, hdp⟩ := iop11
      rw [e] at ho
      obtain rfl := Option.some.inj ho
      intro a' hds W K hB lq ld hmem hK
      have e18 : a'.eval (.tmp 18) = .int .i64 (nthN hs k : Int) := by rw [eval_tmp]; exact ld 5 18 (List.all_eq_true.1 hdp 5 (by decide)) rfl
      have e23 : a'.eval (.tmp 23) = .int .i64 (aroundN hs (F k) : Int) := by rw [eval_tmp]; exact ld 10 23 (List.all_eq_true.1 hdp 10 (by decide)) rfl
      have HK := Lib.hid (show K (a'.put (some 24) (.bool ((nthN hs k : Int) != (aroundN hs (F k) : Int)))) W from hK W (Below.refl _ _) trivial)
      clear hK ld lq hmem
      unfold Oper.wp
      simp only [execOp, e18, e23]
      go_simp
      exact HK.out
    | i + 12, h => omega
  · intro hds v W hO
    have hfin := gend (v 13) (v 14) (v 15) (v 16) (v 17) (v 18) (v 19) (v 20) (v 21) (v 22) (v 23) W hO.b
    rw [← laid_putL _ a v ?_] at hfin
    · exact hfin
    · intro p hp
      simp only [List.mem_cons, List.not_mem_nil, or_false] at hp
      rcases hp with rfl | rfl | rfl | rfl | rfl | rfl | rfl | rfl | rfl | rfl | rfl | rfl
      · rfl
      · rfl
      · rfl
      · rfl
      · rfl
      · rfl
      · rfl
      · rfl
      · rfl
      · rfl
      · rfl
      · exact hO.x 11 (show 11 < 12 by decide) 24 rfl
set_option maxRecDepth 100000 in
set_option maxHeartbeats 1000000 in
theorem isLikeM_any (n b off c S : Nat) (hs : List Nat) (F : Nat → Int) (w : World) (hx : NatsAt w b off hs) (hb : b < w.heap.size) (h0 : 0 < hs.length) (hl : hs.length ≤ 1000) (hF : ∀ k, k < hs.length → 0 ≤ F k + hs.length ∧ F k < 100000)
    (HC : ∀ k W', k < hs.length → Below w.heap.size w W' → Calls Try.prog 117 #[.int .i64 (k : Int), .pointer (some ⟨S, 0, none⟩)] W' fun e w' => e = .returned (.int .i64 (F k)) ∧ W' = w') :
    Calls Try.prog 116 #[.agg #[.int .i64 (n : Int), .slice (some ⟨b, off, none⟩) hs.length c], .func (.func 117) #[] #[.pointer (some ⟨S, 0, none⟩)]] w fun e w' => e = .returned (.bool (likeB hs F)) ∧ Below w.heap.size w w' := by
  obtain ⟨w0, hw0⟩ : ∃ w0, w0 = w.alloc (.cells #[.int .i64 (n : Int), .slice (some ⟨b, off, none⟩) hs.length c] 159) := ⟨_, rfl⟩
  have hb0 : Below w.heap.size w w0 := by rw [hw0]; exact (Below.refl _ _).alloc (Nat.le_refl _) _
  have hB : BoxAt w0 w.heap.size #[.int .i64 (n : Int), .slice (some ⟨b, off, none⟩) hs.length c] 159 := by rw [hw0]; exact BoxAt.new _ _ _
  have b1 := hB.cell' 1 rfl
  have HB := Lib.hid hB
  have Hb0 := Lib.hid hb0
  have HW0 := Lib.hid hw0
  have Hx := Lib.hid hx
  have HCs := Lib.hid HC
  have HFs := Lib.hid hF
  have Hh0 := Lib.hid h0
  clear hb0 hw0 hB hx HC hF h0
  go_enter Try.func116, Try.ntmps116
  go_wp2_with fail
  rw [← HW0.out]
  go_wp2_with fail
  go_loopw [5, 10] (fun _ i wr => ∃ k : Nat, k ≤ hs.length ∧ i = .int .i64 k ∧ Below w.heap.size w wr ∧ BoxAt wr w.heap.size #[.int .i64 (n : Int), .slice (some ⟨b, off, none⟩) hs.length c] 159 ∧ ∀ j, j < k → nthN hs j = aroundN hs (F j)) (fun _ i _ => hs.length - (intOf i).toNat)
  case atStart => exact ⟨0, Nat.zero_le _, rfl, Hb0.out, HB.out, fun j hj => absurd hj (by omega)⟩
  case round =>
    obtain ⟨k, hk, rfl, hbr, hB, hall⟩ := hrel
    clear b1 HB
    have Hbr := Lib.hid hbr
    have HB := Lib.hid hB
    have Hall := Lib.hid hall
    clear hbr hB hall
    by_cases hlt : k < hs.length
    · go_upto_region 4 with fail
      refine region_likeM n b off c k w.heap.size S hs F (Hx.out.below Hbr.out hb) (Nat.lt_of_lt_of_le hb Hbr.out.size) hlt hl (HFs.out k hlt) (fun W h => HCs.out k W hlt (Hbr.out.trans (h.mono Hbr.out.size))) HB.out rfl ?hops (by kernel_rfl) (by kernel_rfl) (by kernel_rfl) (by kernel_rfl) ?hsz ?hout ?hend
      case hops => exact ⟨⟨_, _, _, rfl, by kernel_rfl⟩, ⟨_, _, _, rfl, by kernel_rfl⟩, ⟨_, _, _, rfl, by kernel_rfl⟩, ⟨_, _, _, rfl, by kernel_rfl⟩, ⟨_, _, _, rfl, by kernel_rfl⟩, ⟨_, _, _, rfl, by kernel_rfl⟩, ⟨_, _, _, rfl, by kernel_rfl⟩, ⟨_, _, _, rfl, by kernel_rfl⟩, ⟨_, _, _, rfl, by kernel_rfl⟩, ⟨_, _, _, rfl, by kernel_rfl⟩, ⟨_, _, _, rfl, by kernel_rfl⟩, ⟨_, _, _, rfl, by kernel_rfl⟩⟩
      case hsz => intro d hd; simp only [List.mem_cons, List.not_mem_nil, or_false] at hd; show d < 26; omega
      case hout => exact ⟨rfl, rfl, rfl⟩
      case hend =>
        intro u13 u14 u15 u16 u17 u18 u19 u20 u21 u22 u23 W5 hb5
        simp only [putL, List.foldl, Act.put, List.setIfInBounds_toArray, List.set_cons_succ, List.set_cons_zero]
        have Hbr5 := Lib.hid (Hbr.out.trans (hb5.mono Hbr.out.size))
        have HB5 := Lib.hid (HB.out.next hb5)
        clear hb5 Hbr HB
        by_cases he : nthN hs k = aroundN hs (F k)
        · have hd : ((nthN hs k : Int) != (aroundN hs (F k) : Int)) = false := by rw [he]; exact bne_self_eq_false _
          rw [hd]
          have Hall' := Lib.hid (show ∀ j, j < k + 1 → nthN hs j = aroundN hs (F j) from fun j hj => by
            by_cases hjk : j = k
            · rw [hjk]; exact he
            · exact Hall.out j (by omega))
          clear he hd Hall
          go_wp2_with fail
          go_roundw
          case rel => exact ⟨k + 1, by omega, by go_num, Hbr5.out, HB5.out, Hall'.out⟩
          case measure => simp [intOf]; omega
        · have hd : ((nthN hs k : Int) != (aroundN hs (F k) : Int)) = true := by rw [bne_iff_ne]; omega
          rw [hd]
          have HL := Lib.hid (likeB_no hlt he)
          clear he hd Hall
          go_wp2_with fail
          go_ret
          exact ⟨by rw [HL.out]; rfl, Hbr5.out⟩
    · have HL := Lib.hid (likeB_yes (hs := hs) (F := F) fun j hj => Hall.out j (by omega))
      clear Hall
      go_wp2_with fail
      go_ret
      exact ⟨by rw [HL.out]; rfl, Hbr.out⟩
end Go.Proofs.Ytdmgffoikebgkaa
/- Harness ties: Mirrors, Repeat and Beside. -/
namespace Go.Proofs.Ytdmgffoikebgkaa
open Go.RowKit Go.Shelf
attribute [local go_sem] Oper.semAt_some

theorem mirCl_any (S s k : Nat) (w : World) (hc : w.cell? ⟨S, 0, none⟩ = some (.int .i64 (s : Int))) (hs : s ≤ 1000) (hk : k ≤ 1000) :
    Calls Try.prog 117 #[.int .i64 (k : Int), .pointer (some ⟨S, 0, none⟩)] w fun e w' => e = .returned (.int .i64 ((s : Int) - (k : Int))) ∧ w = w' := by
  go_enter Try.func117, Try.ntmps117
  go_wp2
  go_ret
  exact ⟨rfl, rfl⟩
/-- a harness is its own mirror there -/
def mirAt (hs : List Nat) (s : Nat) : Bool := likeB hs fun k => (s : Int) - (k : Int)
/-- a harness in a box of its own -/
structure HBox (w0 : World) (n b off c : Nat) (hs : List Nat) (W : World) : Prop where
  bel : Below w0.heap.size w0 W
  box : BoxAt W w0.heap.size #[.int .i64 (n : Int), .slice (some ⟨b, off, none⟩) hs.length c] 26
theorem HBox.next {w0 W W' : World} {n b off c : Nat} {hs : List Nat} (h : HBox w0 n b off c hs W) (hb : Below W.heap.size W W') : HBox w0 n b off c hs W' := ⟨h.bel.trans (hb.mono h.bel.size), h.box.next hb⟩
theorem HBox.new (w : World) (n b off c : Nat) (hs : List Nat) : HBox w n b off c hs (w.alloc (.cells #[.int .i64 (n : Int), .slice (some ⟨b, off, none⟩) hs.length c] 26)) := ⟨(Below.refl _ _).alloc (Nat.le_refl _) _, BoxAt.new _ _ _⟩
/-- what Mirrors returns -/
def MirR (hs : List Nat) (e : Ending) : Prop := (∃ s, s < hs.length ∧ mirAt hs s = true ∧ (∀ j, j < s → mirAt hs j = false) ∧ e = .returned (.tuple #[.int .i64 (s : Int), .int .i64 0])) ∨
  ((∀ j, j < hs.length → mirAt hs j = false) ∧ e = .returned (.tuple #[.int .i64 0, .int .i64 7]))
set_option maxRecDepth 100000 in
set_option maxHeartbeats 1000000 in
theorem Mirrors_ok (n b off c : Nat) (hs : List Nat) (w : World) (hv : TAt w b off n hs) :
    Calls Try.prog 32 #[.agg #[.int .i64 (n : Int), .slice (some ⟨b, off, none⟩) hs.length c]] w fun e w' => MirR hs e ∧ Below w.heap.size w w' := by
  have l1 := hv.l1
  have l0 := hv.l0
  obtain ⟨w0, hw0⟩ : ∃ w0, w0 = w.alloc (.cells #[.int .i64 (n : Int), .slice (some ⟨b, off, none⟩) hs.length c] 26) := ⟨_, rfl⟩
  have hH := HBox.new w n b off c hs
  rw [← hw0] at hH
  have HC := Lib.hid (tieCheck_ok n b off c hs w0 (hv.next hH.bel))
  have b0 := hH.box.cell' 0 rfl
  have b1 := hH.box.cell' 1 rfl
  have HH := Lib.hid hH
  have HW0 := Lib.hid hw0
  have HV := Lib.hid hv
  clear hH hw0 hv
  go_enter Try.func32, Try.ntmps32
  go_wp2_with fail
  rw [← HW0.out]
  refine HC.out.mono ?_
  rintro e w1 ⟨rfl, hb1⟩
  have hH1 := HH.out.next hb1
  have HH1 := Lib.hid hH1
  clear hb1 HH HC b0 b1 HW0
  have b1 := hH1.box.cell' 1 rfl
  clear hH1
  go_wp2_with fail
  go_loopw [5, 6, 15] (fun _ _ i wr => ∃ k : Nat, k ≤ hs.length ∧ i = .int .i64 k ∧ HBox w n b off c hs wr ∧ ∀ j, j < k → mirAt hs j = false) (fun _ _ i _ => hs.length - (intOf i).toNat)
  case atStart => exact ⟨0, Nat.zero_le _, rfl, HH1.out, fun j hj => absurd hj (by omega)⟩
  case round =>
    obtain ⟨k, hk, rfl, hH, hall⟩ := hrel
    clear b1 HH1
    have b0 := hH.box.cell' 0 rfl
    have b1 := hH.box.cell' 1 rfl
    have hzz : w.heap.size < wr.heap.size := hH.box.lt
    have HH := Lib.hid hH
    have Hall := Lib.hid hall
    by_cases hlt : k < hs.length
    · obtain ⟨W2, hW2⟩ : ∃ W2, W2 = wr.alloc (.cells #[.int .i64 (k : Int)] 3) := ⟨_, rfl⟩
      have hb2 : Below wr.heap.size wr W2 := by rw [hW2]; exact (Below.refl _ _).alloc (Nat.le_refl _) _
      have hS : BoxAt W2 wr.heap.size #[.int .i64 (k : Int)] 3 := by rw [hW2]; exact BoxAt.new _ _ _
      have hH2 := hH.next hb2
      have HL := Lib.hid (isLikeM_any n b off c wr.heap.size hs (fun j => (k : Int) - (j : Int)) W2 (HV.out.next hH2.bel).at' (HV.out.next hH2.bel).lt l0 (by omega) (fun j hj => by omega)
        (fun j W' hj hb => (mirCl_any wr.heap.size k j W' ((hS.next hb).cell' 0 rfl) (by omega) (by omega)).mono fun e w' ⟨h1, h2⟩ => ⟨h1, h2⟩))
      have c0 := hH2.box.cell' 0 rfl
      have c1 := hH2.box.cell' 1 rfl
      have HH2 := Lib.hid hH2
      have HS := Lib.hid hS
      have HW2 := Lib.hid hW2
      clear hb2 hS hH2 hW2 hH hall HH
      go_wp2_with fail
      rw [← HW2.out]
      refine HL.out.mono ?_
      rintro e W3 ⟨rfl, hb3⟩
      have s0 := (HS.out.next hb3).cell' 0 rfl
      have HH3 := Lib.hid (HH2.out.next hb3)
      clear hb3 HL c0 c1 b0 b1 HH2 HS HW2
      cases hm : likeB hs (fun j => (k : Int) - (j : Int)) with
      | true =>
        have HR := Lib.hid (show MirR hs (.returned (.tuple #[.int .i64 (k : Int), .int .i64 0])) from .inl ⟨k, hlt, hm, Hall.out, rfl⟩)
        clear hm
        go_wp2_with fail
        go_ret2
        exact ⟨HR.out, HH3.out.bel⟩
      | false =>
        have Hall' := Lib.hid (show ∀ j, j < k + 1 → mirAt hs j = false from fun j hj => by
          by_cases hjk : j = k
          · rw [hjk]; exact hm
          · exact Hall.out j (by omega))
        clear hm Hall s0
        go_wp2_with fail
        go_roundw
        case rel => exact ⟨k + 1, by omega, by go_num, HH3.out, Hall'.out⟩
        case measure => simp [intOf]; omega
    · have HR := Lib.hid (show MirR hs (.returned (.tuple #[.int .i64 0, .int .i64 7])) from .inr ⟨fun j hj => hall j (by omega), rfl⟩)
      clear hall hH Hall
      go_wp2_with fail
      go_ret2
      exact ⟨HR.out, HH.out.bel⟩
theorem nats_news {W : World} {b off : Nat} {xs : List Nat} (h : NatsAt W b off xs) : ∀ j u, (xs.map natV)[j]? = some u → W.cell? ((⟨b, off, none⟩ : Addr).add j) = some u := by
  intro j u hj
  simp only [List.getElem?_map, Option.map_eq_some_iff] at hj
  obtain ⟨x, hx, rfl⟩ := hj
  have hjl : j < xs.length := (List.getElem?_eq_some_iff.1 hx).1
  have := h j hjl
  rw [nthN, hx] at this
  rw [show (⟨b, off, none⟩ : Addr).add j = ⟨b, off + j, none⟩ by unfold Addr.add; split <;> simp_all]
  exact this
end Go.Proofs.Ytdmgffoikebgkaa
/- A pick of a cloth: its bytes as the points of a ring; alike, float, length. -/
namespace Go.Proofs.Ytdmgffoikebgkaa
open Go.RowKit Go.Shelf
attribute [local go_sem] Oper.semAt_some

def byteP (p k : Nat) : Int := if bitN p k then 120 else 46
/-- the bytes of a pick: so many points of a ring -/
structure StrB (s : ByteArray) (n p : Nat) : Prop where
  size : s.size = n
  lt : p < 2 ^ n
  n0 : 1 ≤ n
  n1 : n ≤ 96
  list : s.data.toList = (List.range n).map fun k => UInt8.ofNat (byteP p k).toNat
theorem byteP_u8 (p k : Nat) : ((UInt8.ofNat (byteP p k).toNat).toNat : Int) = byteP p k := by unfold byteP; split <;> rfl
theorem StrB.get {s : ByteArray} {n p k : Nat} (h : StrB s n p) (hk : k < n) : s.data.toList[k]? = some (UInt8.ofNat (byteP p k).toNat) := by
  rw [h.list]; simp [hk]
theorem StrB.idx {s : ByteArray} {n p k : Nat} (h : StrB s n p) (hk : k < n) (W : World) : (Instr.index 9 (.string s) (.int .i64 (k : Int))).run Try.prog W = .ok (.int .u8 (byteP p k)) W := by
  rw [run_index_string W 9 s .i64 (k : Int) Try.underlying9]
  have hsz := h.size
  rw [dif_pos ⟨by omega, by omega⟩]
  congr 2
  have hg := h.get hk
  have h1 : s[(k : Int).toNat]'(by omega) = UInt8.ofNat (byteP p k).toNat := by
    show s.data[(k : Int).toNat]'_ = _
    have h2 : s.data.toList[k]? = some (s.data[k]'(by have : s.data.size = s.size := rfl; omega)) := by simp
    rw [h2] at hg
    exact Option.some.inj hg
  rw [h1, byteP_u8]
/-- the pick of a cloth -/
def pickP (hs : List Nat) (row : Nat) : Nat := rowTo (fun i => bitN row (nthN hs i)) hs.length
theorem pickP_bit (hs : List Nat) (row i : Nat) (h : i < hs.length) : bitN (pickP hs row) i = bitN row (nthN hs i) := by
  unfold pickP bitN; rw [rowTo_bit, decide_eq_true h, Bool.true_and]
theorem pick_strB (hs : List Nat) (row : Nat) (h0 : 1 ≤ hs.length) (h1 : hs.length ≤ 96) : StrB (pickS hs row) hs.length (pickP hs row) := by
  refine ⟨pickS_size _ _, rowTo_lt _ _, h0, h1, ?_⟩
  apply List.ext_getElem?
  intro k
  by_cases hk : k < hs.length
  · simp only [pickS, strOfNums, clothL, List.map_map, List.getElem?_map]
    rw [List.getElem?_range hk]
    simp only [Option.map_some, Function.comp, clothB, byteP, pickP_bit hs row k hk]
  · have e : (pickS hs row).data.toList.length = hs.length := by
      have := pickS_size hs row
      show (pickS hs row).data.size = _
      exact this
    rw [List.getElem?_eq_none (by omega), List.getElem?_eq_none (by simp; omega)]
theorem byteP_eq {p j k : Nat} : byteP p j = byteP p k ↔ bitN p j = bitN p k := by
  unfold byteP; cases bitN p j <;> cases bitN p k <;> simp
theorem byteP_u8_eq {p j k : Nat} : UInt8.ofNat (byteP p j).toNat = UInt8.ofNat (byteP p k).toNat ↔ bitN p j = bitN p k := by
  unfold byteP; cases bitN p j <;> cases bitN p k <;> simp
theorem StrB.count {s : ByteArray} {n p : Nat} (h : StrB s n p) : Lib.countByte s.data.toList (UInt8.ofNat (byteP p 0).toNat) = n ↔ alikeB n p = true := by
  have hl : s.data.toList.length = n := by rw [h.list]; simp
  rw [alike_iff h.n0 h.lt]
  unfold Lib.countByte
  constructor
  · intro hc j hj
    have h1 := List.count_eq_length.1 (hc.trans hl.symm)
    have h2 := h1 _ (List.mem_of_getElem? (h.get hj))
    exact (byteP_u8_eq.1 h2).symm
  · intro ha
    rw [← hl]
    apply List.count_eq_length.2
    intro b hb
    rw [h.list] at hb
    obtain ⟨k, hk, rfl⟩ := List.mem_map.1 hb
    exact byteP_u8_eq.2 (ha k (by simpa using hk)).symm
theorem StrB.first {s : ByteArray} {n p : Nat} (h : StrB s n p) : s.extract 0 1 = ⟨#[UInt8.ofNat (byteP p 0).toNat]⟩ := by
  have hg := h.get (show 0 < n from h.n0)
  obtain ⟨⟨l⟩⟩ := s
  cases l with
  | nil => simp at hg
  | cons a l =>
    simp at hg
    subst hg
    apply ByteArray.ext
    simp
set_option maxRecDepth 100000 in
set_option maxHeartbeats 1000000 in
theorem count_one (s : ByteArray) (c : UInt8) (w : World) : Calls Try.prog 205 #[.string s, .string ⟨#[c]⟩] w fun e w' => e = .returned (.int .i64 (Lib.countByte s.data.toList c : Int)) ∧ w = w' := by
  go_enter Try.func205, Try.ntmps205
  go_wp2
  rw [run_callFunc_extern Try.func226 (by kernel_rfl) (by kernel_rfl) (by kernel_rfl) (e := Extern.BytealgCount.count) (by kernel_rfl), Lib.run_countString]
  simp only [Result.andThen]
  rw [Oper.upon_value]
  go_wp2
  go_ret
  exact ⟨rfl, rfl⟩
set_option maxRecDepth 100000 in
set_option maxHeartbeats 1000000 in
theorem tieAlike_any (at' : Nat) (s : ByteArray) (n p : Nat) (w : World) (h : StrB s n p) :
    Calls Try.prog 177 #[.agg #[.int .i64 (at' : Int), .string s]] w fun e w' => e = .returned (.bool (alikeB n p)) ∧ Below w.heap.size w w' := by
  obtain ⟨w0, hw0⟩ : ∃ w0, w0 = w.alloc (.cells #[.int .i64 (at' : Int), .string s] 164) := ⟨_, rfl⟩
  have hb0 : Below w.heap.size w w0 := by rw [hw0]; exact (Below.refl _ _).alloc (Nat.le_refl _) _
  have hB : BoxAt w0 w.heap.size #[.int .i64 (at' : Int), .string s] 164 := by rw [hw0]; exact BoxAt.new _ _ _
  have b1 := hB.cell' 1 rfl
  have hsz : s.size = n := h.size
  have h1 : 1 ≤ s.size := by rw [hsz]; exact h.n0
  have hl : s.size ≤ 96 := by rw [hsz]; exact h.n1
  have hC := fun W => count_one s (UInt8.ofNat (byteP p 0).toNat) W
  rw [← h.first] at hC
  have HA := Lib.hid h.count
  have HC := Lib.hid hC
  have Hb0 := Lib.hid hb0
  have HW0 := Lib.hid hw0
  have Hsz := Lib.hid hsz
  obtain ⟨C, hCe⟩ : ∃ C, Lib.countByte s.data.toList (UInt8.ofNat (byteP p 0).toNat) = C := ⟨_, rfl⟩
  rw [hCe] at HC HA
  clear hb0 hw0 hB hsz h hC hCe
  go_enter Try.func177, Try.ntmps177
  go_wp2_with fail
  rw [← HW0.out]
  go_quiet ((go_at_call 205; exact Calls.quiet_of_same ((HC.out _).mono fun _ _ ⟨a, b⟩ => ⟨a, b.symm⟩)))
  all_goals go_wp2_with fail
  all_goals go_ret
  all_goals refine ⟨?_, Hb0.out.trans ((below_drewN w0 w0.heap.size _).mono Hb0.out.size)⟩
  all_goals exact congrArg (fun b => Ending.returned (.bool b)) (by
    rw [Hsz.out]
    by_cases hc : C = n
    · rw [HA.out.1 hc, hc]; exact beq_self_eq_true _
    · have : alikeB n p = false := by
        cases ha : alikeB n p with
        | false => rfl
        | true => exact absurd (HA.out.2 ha) hc
      rw [this, beq_eq_false_iff_ne]; omega)
set_option maxRecDepth 100000 in
set_option maxHeartbeats 1000000 in
theorem tieFloat_any (at' f l : Nat) (s : ByteArray) (n p : Nat) (w : World) (h : StrB s n p) (hf : f < n) :
    Calls Try.prog 178 #[.agg #[.int .i64 (at' : Int), .string s], .int .i64 (f : Int), .int .i64 (l : Int)] w fun e w' => e = .returned (.agg #[.int .i64 (at' : Int), .int .i64 (f : Int), .int .i64 (l : Int), .bool (bitN p f)]) ∧ Below w.heap.size w w' := by
  obtain ⟨w0, hw0⟩ : ∃ w0, w0 = (w.alloc (.cells #[.int .i64 (at' : Int), .string s] 164)).alloc (.cells #[.int .i64 0, .int .i64 0, .int .i64 0, .bool false] 149) := ⟨_, rfl⟩
  have hb0 : Below w.heap.size w w0 := by rw [hw0]; exact ((Below.refl _ _).alloc (Nat.le_refl _) _).alloc (by simp) _
  have hB : BoxAt w0 w.heap.size #[.int .i64 (at' : Int), .string s] 164 := by rw [hw0]; exact (BoxAt.new _ _ _).next ((Below.refl _ _).alloc (Nat.le_refl _) _)
  have hR : BoxAt w0 (w.heap.size + 1) #[.int .i64 0, .int .i64 0, .int .i64 0, .bool false] 149 := by
    have := BoxAt.new (w.alloc (.cells #[.int .i64 (at' : Int), .string s] 164)) #[.int .i64 0, .int .i64 0, .int .i64 0, .bool false] 149
    rw [World.size_alloc] at this
    rw [hw0]; exact this
  have b0 := hB.cell' 0 rfl
  have b1 := hB.cell' 1 rfl
  have r0 := hR.cell' 0 rfl
  have r1 := hR.cell' 1 rfl
  have r2 := hR.cell' 2 rfl
  have r3 := hR.cell' 3 rfl
  have f0 := hR.frozen 0
  have f1 := hR.frozen 1
  have f2 := hR.frozen 2
  have f3 := hR.frozen 3
  have hz : w.heap.size + 1 < w0.heap.size := hR.lt
  have IX := h.idx hf
  have hbt : (byteP p f == 120) = bitN p f := by unfold byteP; cases bitN p f <;> rfl
  have Hb0 := Lib.hid hb0
  have HW0 := Lib.hid hw0
  have HR := Lib.hid hR
  clear hb0 hw0 hB hR h
  go_enter Try.func178, Try.ntmps178
  go_wp2_with fail
  rw [← HW0.out]
  go_region
  all_goals go_wp2_with fail
  all_goals refine bodyPost_ret (v := .agg #[.int .i64 (at' : Int), .int .i64 (f : Int), .int .i64 (l : Int), .bool (bitN p f)]) ?_ rfl ⟨rfl, ?_⟩
  · have hb3 := ((((HR.out.set 0 (.int .i64 (at' : Int))).set 1 (.int .i64 (f : Int))).set 2 (.int .i64 (l : Int))).set 3 (.bool (bitN p f))).next (below_drew1 _)
    have d0 := hb3.cell' (v := .int .i64 (at' : Int)) 0 rfl
    have d1 := hb3.cell' (v := .int .i64 (f : Int)) 1 rfl
    have d2 := hb3.cell' (v := .int .i64 (l : Int)) 2 rfl
    have d3 := hb3.cell' (v := .bool (bitN p f)) 3 rfl
    simp [results, Try.results178, go_sem, d0, d1, d2, d3]
  · exact ((((Hb0.out.setCell (by simp) _).setCell (by simp) _).setCell (by simp) _).setCell (by simp) _).drew
set_option maxRecDepth 100000 in
set_option maxHeartbeats 1000000 in
theorem tieLength_any (at' f m : Nat) (s : ByteArray) (n p : Nat) (w : World) (h : StrB s n p) (hf : f < n) (hm : 1 ≤ m ∧ m < n) (hm1 : ∀ k, 1 ≤ k → k < m → bitN p ((f + k) % n) = bitN p f) (hm2 : bitN p ((f + m) % n) ≠ bitN p f) :
    Calls Try.prog 179 #[.agg #[.int .i64 (at' : Int), .string s], .int .i64 (f : Int)] w fun e w' => e = .returned (.int .i64 (m : Int)) ∧ Below w.heap.size w w' := by
  obtain ⟨w0, hw0⟩ : ∃ w0, w0 = w.alloc (.cells #[.int .i64 (at' : Int), .string s] 164) := ⟨_, rfl⟩
  have hb0 : Below w.heap.size w w0 := by rw [hw0]; exact (Below.refl _ _).alloc (Nat.le_refl _) _
  have hB : BoxAt w0 w.heap.size #[.int .i64 (at' : Int), .string s] 164 := by rw [hw0]; exact BoxAt.new _ _ _
  have hsz : s.size = n := h.size
  have n1 := h.n1
  have IF := fun W => h.idx hf W
  have Hb0 := Lib.hid hb0
  have HW0 := Lib.hid hw0
  have HB := Lib.hid hB
  have Hs := Lib.hid h
  have Hsz := Lib.hid hsz
  have Hm1 := Lib.hid hm1
  have Hm2 := Lib.hid hm2
  have IFs := Lib.hid IF
  clear hb0 hw0 hB h hsz hm1 hm2 IF
  go_enter Try.func179, Try.ntmps179
  go_wp2_with fail
  rw [← HW0.out]
  go_loopw [5] (fun i wr => ∃ k : Nat, 1 ≤ k ∧ k ≤ m ∧ i = .int .i64 k ∧ Below w.heap.size w wr ∧ BoxAt wr w.heap.size #[.int .i64 (at' : Int), .string s] 164) (fun i _ => m - (intOf i).toNat)
  case atStart => exact ⟨1, by omega, by omega, rfl, Hb0.out, HB.out⟩
  case round =>
    obtain ⟨k, hk1, hk, rfl, hbr, hB⟩ := hrel
    clear HB
    have b1 := hB.cell' 1 rfl
    have Hbr := Lib.hid hbr
    have HB := Lib.hid hB
    have hq : (f + k) % n < n := Nat.mod_lt _ (by omega)
    obtain ⟨q, hqe⟩ : ∃ q, (f + k) % n = q := ⟨_, rfl⟩
    rw [hqe] at hq
    have IQ := fun W => Hs.out.idx hq W
    have IF := IFs.out
    have hw1 : IntKind.i64.wrap ((f : Int) + (k : Int)) = (f : Int) + (k : Int) := IntWalk.i64_in _ (by omega)
    have hr1 : Int.tmod ((f : Int) + (k : Int)) (s.size : Int) = (q : Int) := by
      rw [Hsz.out, show (f : Int) + (k : Int) = ((f + k : Nat) : Int) by omega, tmod_nn, hqe]
    have hz0 : ¬ s.size = 0 := by rw [Hsz.out]; omega
    have hz1 : ¬ ((s.size : Int) = 0) := by rw [Hsz.out]; omega
    have hl1 : s.size ≤ 96 := by rw [Hsz.out]; omega
    clear hbr hB
    by_cases hlt : k < m
    · have hd : (byteP p q == byteP p f) = true := by rw [beq_iff_eq, byteP_eq, ← hqe]; exact Hm1.out k hk1 hlt
      clear hqe
      go_wp2_with fail
      go_quiet (fail)
      all_goals go_wp2_with fail
      all_goals go_roundw
      case rel => exact ⟨k + 1, by omega, by omega, by go_num, Hbr.out.trans ((below_drewN wr wr.heap.size _).mono Hbr.out.size), HB.out.next (below_drewN wr wr.heap.size _)⟩
      case measure => simp [intOf]; omega
    · obtain rfl : k = m := by omega
      have hd : (byteP p q == byteP p f) = false := by rw [beq_eq_false_iff_ne]; exact fun e => Hm2.out (by rw [hqe]; exact byteP_eq.1 e)
      clear hqe
      go_wp2_with fail
      go_quiet (fail)
      all_goals go_wp2_with fail
      all_goals go_ret
      all_goals exact ⟨rfl, Hbr.out.trans ((below_drewN wr wr.heap.size _).mono Hbr.out.size)⟩
end Go.Proofs.Ytdmgffoikebgkaa
/- A pick of a cloth: its floats, as an iterator. -/
namespace Go.Proofs.Ytdmgffoikebgkaa
open Go.RowKit Go.Shelf
attribute [local go_sem] Oper.semAt_some

def Fl.enc (f : Fl) : Value := .agg #[.int .i64 (f.pick : Int), .int .i64 (f.hook : Int), .int .i64 (f.length : Int), .bool f.lifted]
def flR (at' : Nat) (r : Run) : Fl := ⟨at', r.first, r.length, r.lifted⟩
/-- the floats of a pick -/
def flT (at' n p : Nat) : List Fl := (runsOf n p).map (flR at')
/-- what the iterator sees between two rounds -/
structure WpAt (size at' : Nat) (s : ByteArray) (w : World) : Prop where
  c1 : w.cell? ⟨size, 0, none⟩ = some (.int .i64 (at' : Int))
  c2 : w.cell? ⟨size, 1, none⟩ = some (.string s)
theorem WpAt.lt {size at' : Nat} {s : ByteArray} {w : World} (h : WpAt size at' s w) : size < w.heap.size := World.block_lt_of_cell? w ⟨size, 0, none⟩ h.c1
theorem WpAt.next {size at' : Nat} {s : ByteArray} {w w' : World} (h : WpAt size at' s w) (hb : Below w.heap.size w w') : WpAt size at' s w' :=
  ⟨(hb.cell (p := ⟨size, 0, none⟩) h.lt).trans h.c1, (hb.cell (p := ⟨size, 1, none⟩) h.lt).trans h.c2⟩
theorem WpAt.keep {size at' : Nat} {s : ByteArray} {w w' : World} (h : WpAt size at' s w) (hc : ∀ j, w'.cell? ⟨size, j, none⟩ = w.cell? ⟨size, j, none⟩) : WpAt size at' s w' :=
  ⟨(hc 0).trans h.c1, (hc 1).trans h.c2⟩
set_option maxRecDepth 100000 in
set_option maxHeartbeats 2000000 in
theorem tieFloats_iter (at' n p nF size : Nat) (s : ByteArray) (h : StrB s n p) :
    Iter Try.prog nF (nF - 1) 120 #[.agg #[.int .i64 (at' : Int), .string s]] (fun f : Fl => #[f.enc]) (flT at' n p) size := by
  intro l J W hW hJ hY h0
  subst hW
  have hs0 := h.n0
  have hs1 := h.n1
  have hsz : s.size = n := h.size
  refine callsIn_of_wp Try.func120 rfl trivial ?_ rfl
  simp only [Try.ntmps120, List.size_toArray, List.length_cons, List.length_nil, Nat.reduceAdd, Nat.reduceSub, Array.replicate_succ, Array.replicate_zero, List.push_toArray, List.append_toArray, List.nil_append, List.cons_append]
  have hR0 : WpAt W.heap.size at' s (W.alloc (.cells #[.int .i64 (at' : Int), .string s] 164)) := ⟨by simp, by simp⟩
  have hJ0 : J [] (W.alloc (.cells #[.int .i64 (at' : Int), .string s] 164)) := hJ _ _ _ h0 ((Below.refl _ _).alloc (Nat.le_refl _) _)
  have Hs := Lib.hid h
  have Hsz := Lib.hid hsz
  cases ha : alikeB n p with
  | true =>
    have hxs : flT at' n p = [⟨at', 0, 1000, bitN p 0⟩] := by simp [flT, runsOf, ha, flR]
    rw [hxs] at hY ⊢
    have hal := fun w => ha ▸ tieAlike_any at' s n p w h
    have HF := fun w => tieFloat_any at' 0 1000 s n p w h (by omega)
    clear ha h hsz
    gi_wp2_with fail
    refine wideCall (hal _) ?_
    rintro e W1 ⟨rfl, hb1⟩
    have hR1 := hR0.next hb1; have hc1 := hR1.c1; have hc2 := hR1.c2; have hJ1 := hJ _ _ _ hJ0 hb1
    gi_wp2_with fail
    refine wideCall (HF _) ?_
    rintro e W2 ⟨rfl, hb2⟩
    have hJ2 := hJ _ _ _ hJ1 hb2
    obtain ⟨fn, tmps, assign, body, hy, hR⟩ := hY [] ⟨at', 0, 1000, bitN p 0⟩ W2 hJ2 (by simp) (hR1.next hb2).lt
    have hy : (Instr.yield l #[.agg #[.int .i64 (at' : Int), .int .i64 0, .int .i64 1000, .bool (bitN p 0)]]).run Try.prog W2 = .ok (.round l fn tmps assign body) W2 := hy
    gi_wp2
    refine ⟨fun h => by simp [Fence.wide] at h, hR.mono ?_⟩
    rintro e W3 ⟨rfl, hJ3, hz3, hk3⟩
    gi_wp2
    refine bodyPost_ret (results_none rfl _ _ _) rfl ?_
    exact ⟨⟨_, rfl⟩, hJ3⟩
  | false =>
    have hxs : flT at' n p = (runsTo n p n).map (flR at') := by simp [flT, runsOf, ha]
    rw [hxs] at hY ⊢
    have hal := fun w => ha ▸ tieAlike_any at' s n p w h
    clear ha h hsz
    gi_wp2_with fail
    refine wideCall (hal _) ?_
    rintro e W1 ⟨rfl, hb1⟩
    have hR1 := hR0.next hb1; have hc1 := hR1.c1; have hc2 := hR1.c2; have hJ1 := hJ _ _ _ hJ0 hb1
    gi_wp2_with fail
    gi_loopw [4, 5, 15] (fun _ _ i wr => ∃ k : Nat, k ≤ n ∧ i = .int .i64 k ∧ WpAt W.heap.size at' s wr ∧ J ((runsTo n p k).map (flR at')) wr) (fun _ _ i _ => n - (intOf i).toNat)
    case atStart => exact ⟨0, Nat.zero_le _, rfl, hR1, by simpa [runsTo] using hJ1⟩
    case round =>
      obtain ⟨k, hk, rfl, hR2, hJ2⟩ := hrel
      have hd1 := hR2.c1
      have hd2 := hR2.c2
      have hmx : Try.prog.follows .mixedOrders = true := by kernel_rfl
      have hl1 : s.size ≤ 96 := by rw [Hsz.out]; exact hs1
      by_cases hlt : k < n
      · have hlts : k < s.size := by rw [Hsz.out]; exact hlt
        have hltI : (k : Int) < (s.size : Int) := by omega
        have hq : (k + n - 1) % n < n := Nat.mod_lt _ (by omega)
        obtain ⟨q, hqe⟩ : ∃ q, (k + n - 1) % n = q := ⟨_, rfl⟩
        rw [hqe] at hq
        have IQ := fun W => Hs.out.idx hq W
        have IK := fun W => Hs.out.idx hlt W
        have hr1 : ((k : Int) + (s.size : Int) - 1) % (s.size : Int) = (q : Int) := by
          rw [Hsz.out, show (k : Int) + (n : Int) - 1 = ((k + n - 1 : Nat) : Int) by omega, ← Int.natCast_emod, hqe]
        have hn0 : ¬ s.size = 0 := by omega
        have hbgd : begins n p k = (bitN p q != bitN p k) := by unfold begins; rw [hqe]
        clear hqe
        cases hbg : begins n p k with
        | false =>
          have ht : (byteP p q == byteP p k) = true := by rw [beq_iff_eq, byteP_eq]; rw [hbg] at hbgd; simpa using hbgd.symm
          have Hst := Lib.hid (runsTo_no hbg)
          clear hbg hbgd
          gi_wp2_with fail
          gi_quiet (fail)
          all_goals gi_wp2_with fail
          all_goals exact ⟨⟨k + 1, by omega, by go_num, hR2.next (below_drewN wr wr.heap.size _), by rw [Hst.out]; exact hJ _ _ _ hJ2 (below_drewN wr wr.heap.size _)⟩, by simp [intOf]; omega⟩
        | true =>
          have ht : (byteP p q == byteP p k) = false := by rw [beq_eq_false_iff_ne, Ne, byteP_eq]; rw [hbg] at hbgd; simpa using hbgd.symm
          have Hst := Lib.hid (runsTo_yes hbg)
          have hpre : ((runsTo n p k).map (flR at') ++ [⟨at', k, lenF n p k, bitN p k⟩]) <+: (runsTo n p n).map (flR at') := by
            have e : (runsTo n p k).map (flR at') ++ [⟨at', k, lenF n p k, bitN p k⟩] = (runsTo n p (k + 1)).map (flR at') := by rw [runsTo_yes hbg, List.map_append]; rfl
            rw [e]
            exact (runsTo_pre (by omega)).map _
          obtain ⟨hl1', hl2, hl3⟩ := lenF_spec hs0 hbg hlt
          have HL := fun w => tieLength_any at' k (lenF n p k) s n p w Hs.out hlt hl1' hl2 hl3
          have HP := fun w => tieFloat_any at' k (lenF n p k) s n p w Hs.out hlt
          clear hbg hbgd hl1' hl2 hl3
          have hAll : ∀ a, WpAt W.heap.size at' s (wr.drewN a) ∧ J ((runsTo n p k).map (flR at')) (wr.drewN a) := fun a => ⟨hR2.next (below_drewN wr wr.heap.size a), hJ _ _ _ hJ2 (below_drewN wr wr.heap.size a)⟩
          have HA := Lib.hid hAll
          clear hAll
          gi_wp2_with fail
          gi_quiet (fail)
          all_goals generalize hW4 : World.drewN wr _ = W4
          all_goals have hR4 := hW4 ▸ (HA.out _).1
          all_goals have hJ4 := hW4 ▸ (HA.out _).2
          all_goals (clear hW4 hR2 hJ2 hd1 hd2 HA IQ IK ht)
          all_goals have hd1 := hR4.c1
          all_goals have hd2 := hR4.c2
          all_goals have hR4d := hR4.next (below_drew1 W4)
          all_goals have hJ4d := hJ _ _ _ hJ4 (below_drew1 W4)
          all_goals gi_wp2_with fail
          all_goals gi_region_with_o (first | ((with_reducible refine wideCall (HL _) ?_); (rintro e W5 ⟨rfl, hb5⟩; have hR5 := WpAt.next (by assumption) hb5; have hd51 := hR5.c1; have hd52 := hR5.c2; have hJ5 := hJ _ _ _ (by assumption) hb5)) | ((with_reducible refine wideCall (HP _) ?_); (rintro e W6 ⟨rfl, hb6⟩; have hR6 := WpAt.next (by assumption) hb6; have hd61 := hR6.c1; have hd62 := hR6.c2; have hJ6 := hJ _ _ _ (by assumption) hb6; obtain ⟨fn, tmps, assign, body, hy, hRd⟩ := hY _ ⟨at', k, lenF n p k, bitN p k⟩ _ hJ6 hpre hR6.lt; simp only [Fl.enc] at hy)) | (refine ⟨fun h => by simp [Fence.wide] at h, hRd.mono ?_⟩; (rintro e W7 ⟨rfl, hJ7, hz7, hk7⟩; have hR7 := WpAt.keep (by assumption) hk7; have hd71 := hR7.c1; have hd72 := hR7.c2)))
          all_goals gi_wp2_with fail
          all_goals exact ⟨⟨k + 1, by omega, by go_num, by assumption, by rw [Hst.out, List.map_append]; exact hJ7⟩, by simp [intOf]; omega⟩
      · have e : k = n := by omega
        have Hk := Lib.hid (show J ((runsTo n p n).map (flR at')) wr by rw [e] at hJ2; exact hJ2)
        have hltI : ¬ (k : Int) < (s.size : Int) := by rw [Hsz.out]; omega
        clear e hJ2
        gi_wp2_with fail
        go_end0
        exact ⟨⟨_, rfl⟩, Hk.out⟩
end Go.Proofs.Ytdmgffoikebgkaa
/- Harness ties: the floats of a cloth. -/
namespace Go.Proofs.Ytdmgffoikebgkaa
open Go.RowKit Go.Shelf
attribute [local go_sem] Oper.semAt_some

/-- the floats of a pick that are longer than a bound -/
def flO (hs xs : List Nat) (m : Nat) (i : Nat) : List Fl := (flT i hs.length (pickP hs (nthN xs i))).filter fun f => decide (m < f.length)
theorem runsOf_le (s p : Nat) (hs : 1 ≤ s) : (runsOf s p).length ≤ s := by
  unfold runsOf
  split
  · simpa using hs
  · exact runsTo_len _ _ _
theorem flT_len (at' n p : Nat) (hn : 1 ≤ n) : (flT at' n p).length ≤ n := by unfold flT; rw [List.length_map]; exact runsOf_le n p hn
theorem flO_len (hs xs : List Nat) (m : Nat) (h : 1 ≤ hs.length) : ∀ k, (upTo (flO hs xs m) k).length ≤ hs.length * k
  | 0 => by simp [upTo]
  | k + 1 => by
    rw [upTo_succ, List.length_append, Nat.mul_succ]
    have h1 := flO_len hs xs m h k
    have h2 : (flO hs xs m k).length ≤ hs.length := Nat.le_trans (List.length_filter_le _ _) (flT_len _ _ _ h)
    omega
theorem elemFl : ElemT 52 149 4 32 := by
  obtain ⟨i, hi, hz0, hz1, hz2⟩ := info_parts Try.info149
  exact ⟨i, _, by kernel_rfl, hi, hz0, hz1, hz2, rfl, by decide⟩
/-- what Floats keeps in its boxes -/
structure TfAt (w0 : World) (m G S Lb B : Nat) (v : Value) (fs : List Fl) (W : World) : Prop where
  bd : BoxAt W (w0.heap.size + 2) #[.int .i64 (m : Int)] 3
  lb : BoxAt W Lb #[v] 52
  row : W.ownsRow B 149 4 v fs.length (flCells fs)
  bel : Below w0.heap.size w0 W
  far : v.ownBlock ≠ some G ∧ v.ownBlock ≠ some S
  hl : w0.heap.size + 2 < Lb ∧ Lb < B
theorem TfAt.calm {w0 W W' : World} {m G S Lb B n : Nat} {v : Value} {fs : List Fl} (h : TfAt w0 m G S Lb B v fs W) (hc : Calm n W W') (hn : w0.heap.size ≤ n) : TfAt w0 m G S Lb B v fs W' :=
  ⟨h.bd.calm hc, h.lb.calm hc, own_calm h.row hc, (hc.mono hn).below h.bel (Nat.le_refl _), h.far, h.hl⟩
theorem TfAt.grew {w0 W W' : World} {m G S Lb B g5 cap : Nat} {v : Value} {fs : List Fl} {f : Fl} (h : TfAt w0 m G S Lb B v fs W) (hG : G < W.heap.size) (hS : S < W.heap.size)
    (hg : Grew B 149 4 W W' v g5 cap (fs.length + 1) (flCells fs ++ f.cells)) :
    BoxAt W' Lb #[v] 52 ∧ TfAt w0 m G S Lb B (.slice (some ⟨g5, 0, none⟩) (fs.length + 1) cap) (fs ++ [f]) (W'.setCell ⟨Lb, 0, none⟩ (.slice (some ⟨g5, 0, none⟩) (fs.length + 1) cap))
      ∧ KeepsOthers W W' ∧ (∀ j, W'.cell? ⟨S, j, none⟩ = W.cell? ⟨S, j, none⟩) ∧ ∀ j, W'.cell? ⟨G, j, none⟩ = W.cell? ⟨G, j, none⟩ := by
  obtain ⟨hl1, hl2⟩ := h.hl
  have hn : ∀ j, j < B → some j ≠ v.ownBlock := fun j hj => own_far h.row hj
  have hb := h.lb.kept hg.grow (hn _ hl2)
  have hfar : ∀ x, v.ownBlock ≠ some x → x < W.heap.size → (Value.slice (some ⟨g5, 0, none⟩) (fs.length + 1) cap).ownBlock ≠ some x := fun x hx hxl e => by
    simp [Value.ownBlock] at e
    subst e
    rcases hg.at' with h1 | h1
    · exact hx h1
    · omega
  refine ⟨hb, ⟨(h.bd.kept hg.grow (hn _ (by omega))).other _ _ (by simp; omega), hb.set 0 _, ?_, ?_, ⟨hfar G h.far.1 hG, hfar S h.far.2 hS⟩, h.hl⟩, own_others h.row hg.grow,
    fun j => World.cell?_of_block (w := W) (hg.grow.block S hS (fun e => h.far.2 e.symm)), fun j => World.cell?_of_block (w := W) (hg.grow.block G hG (fun e => h.far.1 e.symm))⟩
  · have hr := hg.row
    have := own_set hr ⟨Lb, 0, none⟩ (.slice (some ⟨g5, 0, none⟩) (fs.length + 1) cap) (own_far hr (by simp; omega))
    rw [List.length_append, List.length_singleton, flCells_snoc]
    exact this
  · exact (h.bel.grown hg.grow h.bel.size (fun j hj => by have := (ownBlock_ge h.row hj).1; omega)).setCell (by simp; omega) _
set_option maxRecDepth 100000 in
set_option maxHeartbeats 2000000 in
theorem tieFloats_ok (n b off c b2 off2 c2 m : Nat) (hs xs : List Nat) (w : World) (hv : TAt w b off n hs) (hx : VAt w b2 off2 c2 n xs) (hm : m ≤ 1000) :
    Calls Try.prog 39 #[.agg #[.int .i64 (n : Int), .slice (some ⟨b, off, none⟩) hs.length c], .agg #[.int .i64 (n : Int), .slice (some ⟨b2, off2, none⟩) xs.length c2], .int .i64 (m : Int)] w fun e w' =>
      ∃ v, e = .returned (.tuple #[v, .int .i64 0]) ∧ w'.ownsRow w.heap.size 149 4 v (upTo (flO hs xs m) xs.length).length (flCells (upTo (flO hs xs m) xs.length)) ∧ Below w.heap.size w w' := by
  obtain ⟨w0, hw0⟩ : ∃ w0, w0 = ((w.alloc (.cells #[.int .i64 (n : Int), .slice (some ⟨b, off, none⟩) hs.length c] 26)).alloc (.cells #[.int .i64 (n : Int), .slice (some ⟨b2, off2, none⟩) xs.length c2] 37)).alloc (.cells #[.int .i64 (m : Int)] 3) := ⟨_, rfl⟩
  have hb0 : Below w.heap.size w w0 := by rw [hw0]; exact (((Below.refl _ _).alloc (Nat.le_refl _) _).alloc (by simp) _).alloc (by simp; omega) _
  have s0 : w0.heap.size = w.heap.size + 3 := by rw [hw0]; simp
  have e0 : BoxAt w0 w.heap.size #[.int .i64 (n : Int), .slice (some ⟨b, off, none⟩) hs.length c] 26 := by rw [hw0]; exact ((BoxAt.new _ _ _).next ((Below.refl _ _).alloc (Nat.le_refl _) _)).next ((Below.refl _ _).alloc (Nat.le_refl _) _)
  have e1 : BoxAt w0 (w.heap.size + 1) #[.int .i64 (n : Int), .slice (some ⟨b2, off2, none⟩) xs.length c2] 37 := by
    have := BoxAt.new (w.alloc (.cells #[.int .i64 (n : Int), .slice (some ⟨b, off, none⟩) hs.length c] 26)) #[.int .i64 (n : Int), .slice (some ⟨b2, off2, none⟩) xs.length c2] 37
    rw [World.size_alloc] at this
    rw [hw0]; exact this.next ((Below.refl _ _).alloc (Nat.le_refl _) _)
  have e2 : BoxAt w0 (w.heap.size + 2) #[.int .i64 (m : Int)] 3 := by
    have := BoxAt.new ((w.alloc (.cells #[.int .i64 (n : Int), .slice (some ⟨b, off, none⟩) hs.length c] 26)).alloc (.cells #[.int .i64 (n : Int), .slice (some ⟨b2, off2, none⟩) xs.length c2] 37)) #[.int .i64 (m : Int)] 3
    rw [World.size_alloc, World.size_alloc] at this
    rw [hw0]; exact this
  have l0 := hx.ok.l0
  have l1 := hx.ok.l1
  have h0 := hv.l0
  have h1 := hv.l1
  have HCd := Lib.hid (checkDesign_ok n b off c b2 off2 c2 hs xs w0 (hv.next hb0) (hx.below hb0))
  have a0 := e0.cell' 0 rfl
  have a1 := e0.cell' 1 rfl
  have b0' := e1.cell' 0 rfl
  have b1' := e1.cell' 1 rfl
  have HW0 := Lib.hid hw0
  have HV := Lib.hid hv
  have HX := Lib.hid hx
  have Hb0 := Lib.hid hb0
  have E0 := Lib.hid e0
  have E1 := Lib.hid e1
  have E2 := Lib.hid e2
  have S0 := Lib.hid s0
  clear hw0 hv hx hb0 e0 e1 e2 s0
  obtain ⟨nf, _⟩ : ∃ nf : Nat, nf = nf := ⟨3, rfl⟩
  refine (callsIn_wide (n := nf)).1 ?_
  refine callsIn_of_wp_marks Try.func39 rfl trivial ?_ rfl
  simp only [Try.ntmps39, List.size_toArray, List.length_cons, List.length_nil, Nat.reduceAdd, Nat.reduceSub, Array.replicate_succ, Array.replicate_zero, List.push_toArray, List.append_toArray, List.nil_append, List.cons_append]
  gi_wp2_with fail
  rw [← HW0.out]
  refine wideCall HCd.out ?_
  rintro e w1 ⟨rfl, hb1⟩
  have hc2' := (E2.out.next hb1).cell' 0 rfl
  have E0' := Lib.hid (E0.out.next hb1)
  have E1' := Lib.hid (E1.out.next hb1)
  have E2' := Lib.hid (E2.out.next hb1)
  have hbw1 : Below w.heap.size w w1 := Hb0.out.trans (hb1.mono Hb0.out.size)
  have Hb1 := Lib.hid hbw1
  have hs1 : w.heap.size + 3 ≤ w1.heap.size := by have := hb1.size; rw [S0.out] at this; exact this
  have HA := Lib.hid (areFrom_one 0 1000 w1.heap.size 0 1 m (w1.alloc (.cells #[.int .i64 (m : Int)] 3)) (by simp) (by omega) (by omega))
  clear hb1 hbw1 a0 a1 b0' b1' E0 E1 E2 HCd
  gi_wp2_with fail
  refine wideCall HA.out ?_
  rintro e w' ⟨rfl, rfl⟩
  obtain ⟨W2, hW2⟩ : ∃ W2, W2 = (w1.alloc (.cells #[.int .i64 (m : Int)] 3)).alloc (.cells #[.slice none 0 0] 52) := ⟨_, rfl⟩
  have hb2 : Below w1.heap.size w1 W2 := by rw [hW2]; exact ((Below.refl _ _).alloc (Nat.le_refl _) _).alloc (by simp) _
  have hLb : BoxAt W2 (w1.heap.size + 1) #[.slice none 0 0] 52 := by
    have := BoxAt.new (w1.alloc (.cells #[.int .i64 (m : Int)] 3)) #[.slice none 0 0] 52
    rw [World.size_alloc] at this
    rw [hW2]; exact this
  have hs2 : W2.heap.size = w1.heap.size + 2 := by rw [hW2]; simp
  have a0 := E0'.out.cell' 0 rfl
  have a1 := E0'.out.cell' 1 rfl
  have b1' := E1'.out.cell' 1 rfl
  have E0' := Lib.hid (E0'.out.next hb2)
  have E1' := Lib.hid (E1'.out.next hb2)
  have E2' := Lib.hid (E2'.out.next hb2)
  have Hb2 := Lib.hid (Hb1.out.trans (hb2.mono Hb1.out.size))
  have HLb := Lib.hid hLb
  have HW2 := Lib.hid hW2
  have HWv := Lib.hid (weave_any n b off c b2 off2 c2 hs xs W2 (HV.out.next Hb2.out) (HX.out.below Hb2.out).at' (HX.out.below Hb2.out).lt l1 HX.out.ok.lt')
  have Hs2 := Lib.hid hs2
  clear hb2 hLb hW2 hs2 HA hc2'
  have hz0 : w.heap.size < w1.heap.size := by omega
  have hz1 : w.heap.size + 1 < w1.heap.size := by omega
  gi_wp2_with fail
  rw [← HW2.out]
  refine wideCall HWv.out ?_
  rintro e w3 ⟨v9, rfl, hr3, hb3⟩
  obtain ⟨g9, cap9, rfl⟩ := row_slice hr3 l0
  obtain ⟨hs9, hg9, hgb⟩ := strs_of_row (ss := clothS hs xs) (by rw [clothS_map]; exact hr3) l0
  have E2' := Lib.hid (E2'.out.next hb3)
  have HLb := Lib.hid (HLb.out.next hb3)
  have Hb3 := Lib.hid (Hb2.out.trans (hb3.mono Hb2.out.size))
  have hz3 : w1.heap.size + 2 ≤ w3.heap.size := by have := hb3.size; rw [Hs2.out] at this; exact this
  have hg9' : w1.heap.size + 2 ≤ g9 := by have := Hs2.out; omega
  have HS9 := Lib.hid hs9
  clear hr3 hb3 hs9 HWv HW2 hgb a0 a1 b1' E0' E1'
  gi_wp2_with fail
  -- LOOP
  have hN0 : TfAt w m g9 0 (w1.heap.size + 1) w3.heap.size (.slice none 0 0) (upTo (flO hs xs m) 0) w3 := ⟨E2'.out, HLb.out, World.ownsRow_nil _ _ _ _, Hb3.out, ⟨by simp [Value.ownBlock], by simp [Value.ownBlock]⟩, by omega, by omega⟩
  have HN0 := Lib.hid hN0
  clear hN0
  have hO0 : Open [] w.heap.size w3 := ⟨List.nodup_nil, fun D hD => by simp at hD⟩
  refine wpIn_loop (fun a' W' => ∃ (k : Nat) (ms : List Nat) (v u10 u11 u30 u31 u32 u33 u34 u35 u36 u37 u47 : Value), a' = { tmps := #[Value.agg #[Value.int IntKind.i64 ↑n, Value.slice (some ⟨b, off, none⟩) hs.length c], Value.agg #[Value.int IntKind.i64 ↑n, Value.slice (some ⟨b2, off2, none⟩) xs.length c2], Value.int IntKind.i64 ↑m, Value.pointer (some ⟨w.heap.size, 0, none⟩), Value.pointer (some ⟨w.heap.size + 1, 0, none⟩), Value.pointer (some ⟨w.heap.size + 1 + 1, 0, none⟩), Value.slice none 0 0, Value.int IntKind.i64 0, Value.int IntKind.i64 0, Value.pointer (some ⟨w1.heap.size + 1, 0, none⟩), u10, u11, undef, Value.agg #[Value.int IntKind.i64 ↑n, Value.slice (some ⟨b, off, none⟩) hs.length c], Value.agg #[Value.int IntKind.i64 ↑n, Value.slice (some ⟨b2, off2, none⟩) xs.length c2], Value.int IntKind.i64 0, Value.int IntKind.i64 0, Value.bool false, undef, Value.int IntKind.i64 ↑m, Value.slice (some ⟨w1.heap.size, 0, none⟩) 1 1, Value.bool true, Value.bool false, Value.agg #[Value.int IntKind.i64 ↑n, Value.slice (some ⟨b, off, none⟩) hs.length c], Value.agg #[Value.int IntKind.i64 ↑n, Value.slice (some ⟨b, off, none⟩) hs.length c], Value.pointer (some ⟨w.heap.size + 1, 1, none⟩), Value.slice (some ⟨b2, off2, none⟩) xs.length c2, Value.slice (some ⟨g9, 0, none⟩) xs.length cap9, Value.int IntKind.i64 ↑xs.length, .int .i64 (k : Int), u30, u31, u32, u33, u34, u35, u36, u37, undef, undef, undef, undef, undef, undef, undef, undef, undef, u47, undef], defers := marks ms } ∧
      k ≤ xs.length ∧ TfAt w m g9 0 (w1.heap.size + 1) w3.heap.size v (upTo (flO hs xs m) k) W' ∧ StrsAt W' g9 0 (clothS hs xs) ∧ w3.heap.size ≤ W'.heap.size ∧ Open ms w.heap.size W')
    (fun a' _ => xs.length - (intOf (a'.tmps.getD 29 undef)).toNat) ?start ?round
  case start =>
    exact ⟨0, [], _, _, _, _, _, _, _, _, _, _, _, _, rfl, Nat.zero_le _, HN0.out, HS9.out, Nat.le_refl _, hO0⟩
  case round =>
    rintro _ W ⟨k, ms, v, u10, u11, u30, u31, u32, u33, u34, u35, u36, u37, u47, rfl, hk, hF, hS, h3, hop⟩
    by_cases hlt : k < xs.length
    · have hltI : (k : Int) < (xs.length : Int) := by omega
      have hc0 := hS k (by rw [clothS_len]; exact hlt)
      rw [Nat.zero_add] at hc0
      have hcs : nthB (clothS hs xs) k = pickS hs (nthN xs k) := clothS_nth hs xs k hlt
      have hsb : StrB (nthB (clothS hs xs) k) hs.length (pickP hs (nthN xs k)) := hcs ▸ pick_strB hs (nthN xs k) HV.out.l0 HV.out.l1
      have HF := Lib.hid hF
      have HSS := Lib.hid hS
      have HOp := Lib.hid hop
      have HSb := Lib.hid hsb
      clear hF hS hop hcs hsb HN0 hO0
      gi_wp2_with fail
      refine rangeB (gf := 120) (rb := #[.agg #[.int .i64 (k : Int), .string (nthB (clothS hs xs) k)]]) rfl (enters_of Try.func120 (by kernel_rfl) rfl) (encs := fun f : Fl => #[f.enc]) (xs := flT k hs.length (pickP hs (nthN xs k))) (B := W.heap.size) (Nat.le_refl _) (fun _ => rfl)
        (tieFloats_iter k hs.length (pickP hs (nthN xs k)) _ _ _ HSb.out)
        (fun pre W' => ∃ v, TfAt w m g9 (W.heap.size + 2) (w1.heap.size + 1) w3.heap.size v (upTo (flO hs xs m) k ++ pre.filter fun f => decide (m < f.length)) W' ∧ StrsAt W' g9 0 (clothS hs xs) ∧ w3.heap.size ≤ W'.heap.size ∧ Open ms w.heap.size W')
        ?stable ?start2
        (fun x a1 W' => ∃ bx, a1 = { tmps := #[Value.agg #[Value.int IntKind.i64 ↑n, Value.slice (some ⟨b, off, none⟩) hs.length c], Value.agg #[Value.int IntKind.i64 ↑n, Value.slice (some ⟨b2, off2, none⟩) xs.length c2], Value.int IntKind.i64 ↑m, Value.pointer (some ⟨w.heap.size, 0, none⟩), Value.pointer (some ⟨w.heap.size + 1, 0, none⟩), Value.pointer (some ⟨w.heap.size + 1 + 1, 0, none⟩), Value.slice none 0 0, Value.int IntKind.i64 0, Value.int IntKind.i64 0, Value.pointer (some ⟨w1.heap.size + 1, 0, none⟩), .int .i64 (k : Int), .string (nthB (clothS hs xs) k), .pointer (some ⟨bx, 0, none⟩), Value.agg #[Value.int IntKind.i64 ↑n, Value.slice (some ⟨b, off, none⟩) hs.length c], Value.agg #[Value.int IntKind.i64 ↑n, Value.slice (some ⟨b2, off2, none⟩) xs.length c2], Value.int IntKind.i64 0, Value.int IntKind.i64 0, Value.bool false, undef, Value.int IntKind.i64 ↑m, Value.slice (some ⟨w1.heap.size, 0, none⟩) 1 1, Value.bool true, Value.bool false, Value.agg #[Value.int IntKind.i64 ↑n, Value.slice (some ⟨b, off, none⟩) hs.length c], Value.agg #[Value.int IntKind.i64 ↑n, Value.slice (some ⟨b, off, none⟩) hs.length c], Value.pointer (some ⟨w.heap.size + 1, 1, none⟩), Value.slice (some ⟨b2, off2, none⟩) xs.length c2, Value.slice (some ⟨g9, 0, none⟩) xs.length cap9, Value.int IntKind.i64 ↑xs.length, .int .i64 (k : Int), .bool true, .int .i64 (k : Int), .pointer (some ⟨g9, k, none⟩), .string (nthB (clothS hs xs) k), .int .i64 (k : Int), .string (nthB (clothS hs xs) k), .agg #[.int .i64 (k : Int), .string (nthB (clothS hs xs) k)], .func (.func 120) #[.agg #[.int .i64 (k : Int), .string (nthB (clothS hs xs) k)]] #[], x.enc, undef, undef, undef, undef, undef, undef, undef, undef, u47, undef], defers := [] } ∧ W'.cell? ⟨bx, 0, none⟩ = some (.int .i64 (x.pick : Int)) ∧ W'.cell? ⟨bx, 1, none⟩ = some (.int .i64 (x.hook : Int)) ∧ W'.cell? ⟨bx, 2, none⟩ = some (.int .i64 (x.length : Int)) ∧ W'.cell? ⟨bx, 3, none⟩ = some (.bool x.lifted))
        ?stableA ?assign ?body ?done
      case stable =>
        rintro s A A' ⟨v, a1, a2, a3, a4⟩ hc
        exact ⟨v, a1.calm hc (by have := HF.out.bel.size; omega), fun i hi => hc.cell (a2 i hi), Nat.le_trans a3 hc.size, a4.calm hc fun D hD => HOp.out.lt hD⟩
      case start2 =>
        have hF := HF.out
        exact ⟨v, ⟨hF.bd, hF.lb, by simpa using hF.row, hF.bel, ⟨hF.far.1, fun e => by have := (ownBlock_ge hF.row e).2; omega⟩, hF.hl⟩, HSS.out, h3, HOp.out⟩
      case stableA =>
        rintro x a1 A A' ⟨bx, h1, h2, h3, h4, h5⟩ hc
        exact ⟨bx, h1, hc.cell h2, hc.cell h3, hc.cell h4, hc.cell h5⟩
      case assign =>
        intro l x W' K hK
        unfold Fl.enc
        gi_wp2
        exact hK _ _ ((Below.refl _ _).alloc (Nat.le_refl _) _) ⟨W'.heap.size, rfl, by simp, by simp, by simp, by simp⟩
      case body =>
        rintro l pre x _ W' ⟨v', hf, hS', h3', hop'⟩ ⟨bx, rfl, hb0, hb1', hb2, hb3'⟩ hpre hsz
        have hlen : (upTo (flO hs xs m) k ++ pre.filter fun f => decide (m < f.length)).length ≤ 100000 := by
          have h1 := flT_len k hs.length (pickP hs (nthN xs k)) HV.out.l0
          have h2 := prefix_len hpre
          have h3 := flO_len hs xs m HV.out.l0 k
          have h4 := HV.out.l1
          have h5 := List.length_filter_le (fun f : Fl => decide (m < f.length)) pre
          have h6 : hs.length * k ≤ 96 * 60 := Nat.mul_le_mul h4 (by omega)
          rw [List.length_append] at h2 ⊢
          simp only [List.length_singleton] at h2
          omega
        have bd0 := hf.bd.cell' 0 rfl
        have lb0 := hf.lb.cell' 0 rfl
        have hlW : bx < W'.heap.size := World.block_lt_of_cell? W' ⟨bx, 0, none⟩ hb0
        have hlL := hf.lb.lt
        have hHl := hf.hl
        obtain ⟨fs, hfs⟩ : ∃ fs : List Fl, fs = upTo (flO hs xs m) k ++ pre.filter fun f => decide (m < f.length) := ⟨_, rfl⟩
        rw [← hfs] at hlen hf
        by_cases hm' : m < x.length
        · have hmI : (m : Int) < (x.length : Int) := by omega
          have hfil : (upTo (flO hs xs m) k ++ (pre ++ [x]).filter fun f => decide (m < f.length)) = fs ++ [x] := by
            rw [List.filter_append, ← List.append_assoc, ← hfs]; simp [hm']
          have HFi := Lib.hid hfil
          have HF' := Lib.hid hf
          have HSS' := Lib.hid hS'
          have HOp' := Lib.hid hop'
          have h3b : w3.heap.size ≤ W'.heap.size := h3'
          clear hf hS' hop' hfil hc0 hfs
          gi_wp2_with (gi_at_builtin; refine Shut.out ?_)
          unfold Shut
          refine app_oneIn elemFl rfl _ _ rfl w3.heap.size v' _ _ #[.int .i64 (x.pick : Int), .int .i64 (x.hook : Int), .int .i64 (x.length : Int), .bool x.lifted] rfl HF'.out.row rfl rfl (by simp [Value.oneCell']) (by omega) (by decide) h3b ?_
          intro g5 cap w5 hg
          obtain ⟨hbx, hM, hko, hkc, hkg⟩ := HF'.out.grew (by omega) hsz hg
          have f1 := hbx.frozen 0
          have c1 := hbx.cell' 0 rfl
          have HM := Lib.hid hM
          have HK := Lib.hid (hko.trans (KeepsOthers.setCell w5 ⟨w1.heap.size + 1, 0, none⟩ (.slice (some ⟨g5, 0, none⟩) (fs.length + 1) cap)))
          have HC := Lib.hid hkc
          have HG := Lib.hid hkg
          clear hg hM hbx hko hkc hkg
          gi_wp2_with fail
          refine ⟨HK.out.from _, ⟨_, by rw [HFi.out]; exact HM.out, fun i hi => ?_, Nat.le_trans h3b HK.out.size, HOp'.out.1, fun D hD => ⟨(HOp'.out.2 D hD).1, HK.out.same _ _ (HOp'.out.2 D hD).2 rfl⟩⟩, fun j => ?_⟩
          · exact (World.cell?_of_block (w := w5) (Below.heap_setCell _ _ _ _ (by simp; omega))).trans ((HG.out _).trans (HSS'.out i hi))
          · exact (World.cell?_of_block (w := w5) (Below.heap_setCell _ _ _ _ (by simp; omega))).trans (HC.out j)
        · have hmI : ¬ (m : Int) < (x.length : Int) := by omega
          have hfil : (upTo (flO hs xs m) k ++ (pre ++ [x]).filter fun f => decide (m < f.length)) = fs := by
            rw [List.filter_append, ← List.append_assoc, ← hfs]; simp [hm']
          have HFi := Lib.hid hfil
          have HF' := Lib.hid hf
          have HSS' := Lib.hid hS'
          have HOp' := Lib.hid hop'
          clear hf hS' hop' hfil hc0 hfs
          gi_wp2_with fail
          exact ⟨KeepsFrom.refl _ _, ⟨⟨_, by rw [HFi.out]; exact HF'.out⟩, HSS'.out, h3', HOp'.out⟩, fun _ => rfl⟩
      case done =>
        rintro W' hlt' ⟨v', hf, hS', h3', hop'⟩ hD
        gi_wp2_with fail
        refine ⟨⟨k + 1, W.heap.size :: ms, v', _, _, _, _, _, _, _, _, _, _, _, rfl, by omega, ?_, hS', h3', hop'.cons (fun E hE => HOp.out.lt hE) (by have := HF.out.bel.size; omega) hD⟩, by simp [intOf]; omega⟩
        rw [upTo_succ]
        exact ⟨hf.bd, hf.lb, hf.row, hf.bel, ⟨hf.far.1, fun e => by have := (ownBlock_ge hf.row e).1; omega⟩, hf.hl⟩
    · obtain rfl : k = xs.length := by omega
      have lb0 := hF.lb.cell' 0 rfl
      have HF := Lib.hid hF
      have HOp := Lib.hid hop
      have hltI : ¬ (xs.length : Int) < (xs.length : Int) := by omega
      clear hF hS hop HN0 hO0
      gi_wp2_with fail
      refine leaves_marks (B := w.heap.size) (v := .tuple #[v, .int .i64 0]) ms _ (fun D hD => HOp.out.2 D hD) HOp.out.1 fun w' hc => ⟨?_, v, rfl, own_base (own_calm HF.out.row hc) (by omega), (HF.out.calm hc (Nat.le_refl _)).bel⟩
      simp [results, Try.f39, go_sem]
end Go.Proofs.Ytdmgffoikebgkaa
