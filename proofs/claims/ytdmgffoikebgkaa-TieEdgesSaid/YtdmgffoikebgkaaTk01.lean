/- Regions that draw their order, read, make boxes, call what only adds to memory, and store into the boxes that they made: each operation once, whatever was done before. -/
import Derived.Test.YtdmgffoikebgkaaTb01
import Derived.Test.YtdmgffoikebgkaaTb02
import Derived.Test.YtdmgffoikebgkaaTb03
import Derived.Test.YtdmgffoikebgkaaTb04
import Derived.Test.YtdmgffoikebgkaaTb05
import Derived.Test.YtdmgffoikebgkaaTb06
import Derived.Test.YtdmgffoikebgkaaTb07
import Derived.Test.YtdmgffoikebgkaaTb08
import Derived.Test.YtdmgffoikebgkaaTb09
import Derived.Test.YtdmgffoikebgkaaTb10
import Derived.Test.YtdmgffoikebgkaaTb11
import Derived.Test.YtdmgffoikebgkaaTb12
import Derived.Test.YtdmgffoikebgkaaTb13
import Derived.Test.YtdmgffoikebgkaaTb14
import Derived.Test.YtdmgffoikebgkaaTb15
import Derived.Test.YtdmgffoikebgkaaTb16
import Derived.Test.YtdmgffoikebgkaaTb17
import Derived.Test.YtdmgffoikebgkaaTb18
import Derived.Test.YtdmgffoikebgkaaTb19
import Derived.Test.YtdmgffoikebgkaaTb20
import Derived.Deep.RegionHeld3
import Derived.Maps.OwnOps
import Derived.Maps.Views
import Derived.DeepKeys4
import Derived.KernelRfl
import Derived.Deep.QuietTactic
import Derived.BigQuiet
import Derived.Laws.Externs
import Derived.Lib.Bytealg
import Derived.Sort.QuietIn
import Derived.Sort.CutIn
import Derived.Deep.DeepCutAuto
import Derived.Laws.IdiomStrings
namespace Go.Proofs.Ytdmgffoikebgkaa
open Go.RowKit Go.Shelf

section
variable {R : RSp} {w : World} {ops : Array Oper} {L : Array Bool} {v : Nat → Value} {hs : Nat → Hd} {W W' : World} {i r : Nat} {o : Oper}
end
/-- the same for 'len' -/
def IsOpL (ops : Array Oper) (i : Nat) (dst : Option Nat) (op : Op) (g : Option (Nat × Bool)) (deps : List Nat) : Prop :=
  ∃ pos aft, ops[i]? = some ⟨dst, op, 3, pos, aft, g⟩ ∧ deps.all (depB ⟨dst, op, 3, pos, aft, g⟩) = true
end Go.Proofs.Ytdmgffoikebgkaa
/- Differ. -/
namespace Go.Proofs.Ytdmgffoikebgkaa
open Go.RowKit Go.Shelf

end Go.Proofs.Ytdmgffoikebgkaa
/- (after texts BA, BB, BC, BD, BF, ZB, XA of the first seat) What Bind makes: a bound design with the fewest changes; what a bound row is woven as. -/
namespace Go.Proofs.Ytdmgffoikebgkaa
open Go.RowKit

section
variable (p f h L : Nat) (now : List Nat) (a : Bool) (next0 : List Nat)
end
end Go.Proofs.Ytdmgffoikebgkaa
/- TopBound: which rows can be bound; Bind, Floats and Differ for its designs; a byte. -/
namespace Go.Proofs.Ytdmgffoikebgkaa
open Go.RowKit Go.Shelf
attribute [local go_sem] Oper.semAt_some

theorem con_free (p x : Nat) (s : Nat) : con p 0 x s = 0 := (con_zero s).2 fun j _ _ => by simp [bitN]
end Go.Proofs.Ytdmgffoikebgkaa
/- Harness ties: around the edge, alike warps, Mirrors, Repeat. -/
namespace Go.Proofs.Ytdmgffoikebgkaa
open Go.RowKit Go.Shelf
attribute [local go_sem] Oper.semAt_some

def region_likeRU : List (List Nat) := [[], [], [], [], [], [], [], [], [], [], [], []]
def region_likeRX (n b off c k B S : Nat) (hs : List Nat) (F : Nat → Int) : Nat → (Nat → Hd) → Value
  | 0, _ => .pointer (some ⟨B, 0, none⟩)
  | 1, _ => .pointer (some ⟨B, 1, none⟩)
  | 2, _ => .slice (some ⟨b, off, none⟩) hs.length c
  | 3, _ => .int .i64 (k : Int)
  | 4, _ => .pointer (some ⟨b, off + k, none⟩)
  | 5, _ => .int .i64 (nthN hs k : Int)
  | 6, _ => .agg #[.int .i64 (n : Int), .slice (some ⟨b, off, none⟩) hs.length c]
  | 7, _ => .func (.func 115) #[] #[.pointer (some ⟨S, 0, none⟩)]
  | 8, _ => .int .i64 (k : Int)
  | 9, _ => .int .i64 (F k)
  | 10, _ => .int .i64 (aroundN hs (F k) : Int)
  | 11, _ => .bool ((nthN hs k : Int) != (aroundN hs (F k) : Int))
  | _ + 12, _ => undef
theorem region_likeRX.congr (n b off c k B S : Nat) (hs : List Nat) (F : Nat → Int) : ∀ i hds hds', (∀ r ∈ uOf region_likeRU i, hds r = hds' r) → region_likeRX n b off c k B S hs F i hds = region_likeRX n b off c k B S hs F i hds'
  | 0, _, _, _ => rfl
  | 1, _, _, _ => rfl
  | 2, _, _, _ => rfl
  | 3, _, _, _ => rfl
  | 4, _, _, _ => rfl
  | 5, _, _, _ => rfl
  | 6, _, _, _ => rfl
  | 7, _, _, _ => rfl
  | 8, _, _, _ => rfl
  | 9, _, _, _ => rfl
  | 10, _, _, _ => rfl
  | 11, _, _, _ => rfl
  | _ + 12, _, _, _ => rfl
def region_likeRM  : Nat → Mem
  | _ => memNone
def region_likeRS  : Nat → Option Sto
  | _ => none
set_option maxRecDepth 8000 in
set_option maxHeartbeats 2000000 in
theorem region_likeR {id : Nat} {ops : Array Oper} {Q : Exit → Act → World → Prop} {a : Act} {w : World} (n b off c k B S : Nat) (hs : List Nat) (F : Nat → Int) (hx : NatsAt w b off hs) (hb : b < w.heap.size) (hk : k < hs.length) (hl : hs.length ≤ 1000) (hF : 0 ≤ F k + hs.length ∧ F k < 100000) (HC : ∀ W', Below w.heap.size w W' → Calls Try.prog 115 #[.int .i64 (k : Int), .pointer (some ⟨S, 0, none⟩)] W' fun e w' => e = .returned (.int .i64 (F k)) ∧ W' = w') (hbox : BoxAt w B #[.int .i64 (n : Int), .slice (some ⟨b, off, none⟩) hs.length c] 159)
    (gsize : ops.size = 12)
    (gops : IsOp ops 0 (some 13) (.fieldAddr 159 (.tmp 2) 0) none [] ∧ IsOp ops 1 (some 14) (.fieldAddr 26 (.tmp 13) 1) none [0] ∧ IsOp ops 2 (some 15) (.load 24 (.tmp 14)) none [1] ∧ IsOp ops 3 (some 16) (.move (.tmp 5)) none [] ∧ IsOp ops 4 (some 17) (.indexAddr 24 (.tmp 15) (.tmp 16)) none [2, 3] ∧ IsOp ops 5 (some 18) (.load 3 (.tmp 17)) none [4] ∧ IsOp ops 6 (some 19) (.load 159 (.tmp 2)) none [] ∧ IsOp ops 7 (some 20) (.move (.tmp 1)) none [] ∧ IsOp ops 8 (some 21) (.move (.tmp 5)) none [] ∧ IsOp ops 9 (some 22) (.call { callee := .value (.tmp 20), args := #[.tmp 21], argTypes := #[3] }) none [7, 8] ∧ IsOp ops 10 (some 23) (.call { callee := .value (.func 175), args := #[.tmp 19, .tmp 22], argTypes := #[159, 3] }) none [6, 9] ∧ IsOp ops 11 (some 24) (.binOp .neq 3 (.tmp 18) (.tmp 23) 3) none [5, 10])
    (gbk : backB ops = true) (gds : dstsB ops (dOf [some 13, some 14, some 15, some 16, some 17, some 18, some 19, some 20, some 21, some 22, some 23, some 24]) = true) (gus : useB ops (uOf region_likeRU) (kOf [0, 0, 0, 0, 0, 0, 0, 0, 0, 0, 0, 0]) = true) (ggd : plainB ops = true) (gsz : ∀ e ∈ [13, 14, 15, 16, 17, 18, 19, 20, 21, 22, 23, 24], e < a.tmps.size)
    (gout : a.eval (.tmp 2) = .pointer (some ⟨B, 0, none⟩) ∧ a.eval (.tmp 5) = .int .i64 (k : Int) ∧ a.eval (.tmp 1) = .func (.func 115) #[] #[.pointer (some ⟨S, 0, none⟩)])
    (gend : ∀ (u13 u14 u15 u16 u17 u18 u19 u20 u21 u22 u23 : Value) (W : World), Below w.heap.size w W → Q .normal (putL a [(13, u13), (14, u14), (15, u15), (16, u16), (17, u17), (18, u18), (19, u19), (20, u20), (21, u21), (22, u22), (23, u23), (24, .bool ((nthN hs k : Int) != (aroundN hs (F k) : Int)))]) W) :
    (Code.region id ops true).wp Try.prog Q a w := by
  obtain ⟨iop0, iop1, iop2, iop3, iop4, iop5, iop6, iop7, iop8, iop9, iop10, iop11⟩ := gops
  obtain ⟨o2, o5, o1⟩ := gout
  refine region_all (RSp.of 12 [some 13, some 14, some 15, some 16, some 17, some 18, some 19, some 20, some 21, some 22, some 23, some 24] (fun _ => true) (region_likeRX n b off c k B S hs F) region_likeRU [0, 0, 0, 0, 0, 0, 0, 0, 0, 0, 0, 0] (region_likeRM ) (region_likeRS )) [(2, .pointer (some ⟨B, 0, none⟩)), (5, .int .i64 (k : Int)), (1, .func (.func 115) #[] #[.pointer (some ⟨S, 0, none⟩)])] [13, 14, 15, 16, 17, 18, 19, 20, 21, 22, 23, 24] (RSp.of_fit gsize.symm gbk gds gus ggd (by decide) ?_) (RSp.of_ok _ (region_likeRX.congr n b off c k B S hs F) ?_) gsz ?_ ?_ ?_
  · intro p hp
    have hp2 : p ∈ ([] : List (Nat × Nat)) := hp
    cases hp2
  · intro i s hds
    match i, hds with
    | 0, hds => cases hds
    | 1, hds => cases hds
    | 2, hds => cases hds
    | 3, hds => cases hds
    | 4, hds => cases hds
    | 5, hds => cases hds
    | 6, hds => cases hds
    | 7, hds => cases hds
    | 8, hds => cases hds
    | 9, hds => cases hds
    | 10, hds => cases hds
    | 11, hds => cases hds
    | _ + 12, hds => cases hds
  · intro q hq
    simp only [List.mem_cons, List.not_mem_nil, or_false] at hq
    rcases hq with rfl | rfl | rfl
    · exact ⟨o2, by simp⟩
    · exact ⟨o5, by simp⟩
    · exact ⟨o1, by simp⟩
  · intro i o ho _
    have hi : i < 12 := by rw [← gsize]; exact (Array.getElem?_eq_some_iff.1 ho).1
    match i, hi with
    | 0, _ =>
      obtain ⟨ty, pos, aft, e, hdp⟩ := iop0
      rw [e] at ho
      obtain rfl := Option.some.inj ho
      intro a' hds W K hB lq ld hmem hK
      have e2 : a'.eval (.tmp 2) = .pointer (some ⟨B, 0, none⟩) := by rw [eval_tmp]; exact lq (2, .pointer (some ⟨B, 0, none⟩)) (by simp)
      have HK := Lib.hid (show K (a'.put (some 13) (.pointer (some ⟨B, 0, none⟩))) W from hK W (Below.refl _ _) trivial)
      clear hK ld lq hmem
      unfold Oper.wp
      simp only [execOp, e2]
      go_simp
      exact HK.out
    | 1, _ =>
      obtain ⟨ty, pos, aft, e, hdp⟩ := iop1
      rw [e] at ho
      obtain rfl := Option.some.inj ho
      intro a' hds W K hB lq ld hmem hK
      have e13 : a'.eval (.tmp 13) = .pointer (some ⟨B, 0, none⟩) := by rw [eval_tmp]; exact ld 0 13 (List.all_eq_true.1 hdp 0 (by decide)) rfl
      have HK := Lib.hid (show K (a'.put (some 14) (.pointer (some ⟨B, 1, none⟩))) W from hK W (Below.refl _ _) trivial)
      clear hK ld lq hmem
      unfold Oper.wp
      simp only [execOp, e13]
      go_simp
      exact HK.out
    | 2, _ =>
      obtain ⟨ty, pos, aft, e, hdp⟩ := iop2
      rw [e] at ho
      obtain rfl := Option.some.inj ho
      intro a' hds W K hB lq ld hmem hK
      have e14 : a'.eval (.tmp 14) = .pointer (some ⟨B, 1, none⟩) := by rw [eval_tmp]; exact ld 1 14 (List.all_eq_true.1 hdp 1 (by decide)) rfl
      have HK := Lib.hid (show K (a'.put (some 15) (.slice (some ⟨b, off, none⟩) hs.length c)) W from hK W (Below.refl _ _) trivial)
      clear hK ld lq hmem
      have c1 := (hbox.next hB).cell' 1 rfl
      unfold Oper.wp
      simp only [execOp, e14]
      go_simp
      exact HK.out
    | 3, _ =>
      obtain ⟨ty, pos, aft, e, hdp⟩ := iop3
      rw [e] at ho
      obtain rfl := Option.some.inj ho
      intro a' hds W K hB lq ld hmem hK
      have e5 : a'.eval (.tmp 5) = .int .i64 (k : Int) := by rw [eval_tmp]; exact lq (5, .int .i64 (k : Int)) (by simp)
      have HK := Lib.hid (show K (a'.put (some 16) (.int .i64 (k : Int))) W from hK W (Below.refl _ _) trivial)
      clear hK ld lq hmem
      unfold Oper.wp
      simp only [execOp, e5]
      exact HK.out
    | 4, _ =>
      obtain ⟨ty, pos, aft, e, hdp⟩ := iop4
      rw [e] at ho
      obtain rfl := Option.some.inj ho
      intro a' hds W K hB lq ld hmem hK
      have e15 : a'.eval (.tmp 15) = .slice (some ⟨b, off, none⟩) hs.length c := by rw [eval_tmp]; exact ld 2 15 (List.all_eq_true.1 hdp 2 (by decide)) rfl
      have e16 : a'.eval (.tmp 16) = .int .i64 (k : Int) := by rw [eval_tmp]; exact ld 3 16 (List.all_eq_true.1 hdp 3 (by decide)) rfl
      have HK := Lib.hid (show K (a'.put (some 17) (.pointer (some ⟨b, off + k, none⟩))) W from hK W (Below.refl _ _) trivial)
      clear hK ld lq hmem
      have hk0 : (0 : Int) ≤ (k : Int) := by omega
      have hk1 : (k : Int) < (hs.length : Int) := by omega
      unfold Oper.wp
      simp only [execOp, e15, e16]
      go_simp
      exact HK.out
    | 5, _ =>
      obtain ⟨ty, pos, aft, e, hdp⟩ := iop5
      rw [e] at ho
      obtain rfl := Option.some.inj ho
      intro a' hds W K hB lq ld hmem hK
      have e17 : a'.eval (.tmp 17) = .pointer (some ⟨b, off + k, none⟩) := by rw [eval_tmp]; exact ld 4 17 (List.all_eq_true.1 hdp 4 (by decide)) rfl
      have HK := Lib.hid (show K (a'.put (some 18) (.int .i64 (nthN hs k : Int))) W from hK W (Below.refl _ _) trivial)
      clear hK ld lq hmem
      have c0 := (hx.below hB hb) k hk
      unfold Oper.wp
      simp only [execOp, e17]
      go_simp
      exact HK.out
    | 6, _ =>
      obtain ⟨ty, pos, aft, e, hdp⟩ := iop6
      rw [e] at ho
      obtain rfl := Option.some.inj ho
      intro a' hds W K hB lq ld hmem hK
      have e2 : a'.eval (.tmp 2) = .pointer (some ⟨B, 0, none⟩) := by rw [eval_tmp]; exact lq (2, .pointer (some ⟨B, 0, none⟩)) (by simp)
      have HK := Lib.hid (show K (a'.put (some 19) (.agg #[.int .i64 (n : Int), .slice (some ⟨b, off, none⟩) hs.length c])) W from hK W (Below.refl _ _) trivial)
      clear hK ld lq hmem
      have c0 := (hbox.next hB).cell' 0 rfl
      have c1 := (hbox.next hB).cell' 1 rfl
      unfold Oper.wp
      simp only [execOp, e2]
      go_simp
      exact HK.out
    | 7, _ =>
      obtain ⟨ty, pos, aft, e, hdp⟩ := iop7
      rw [e] at ho
      obtain rfl := Option.some.inj ho
      intro a' hds W K hB lq ld hmem hK
      have e1 : a'.eval (.tmp 1) = .func (.func 115) #[] #[.pointer (some ⟨S, 0, none⟩)] := by rw [eval_tmp]; exact lq (1, .func (.func 115) #[] #[.pointer (some ⟨S, 0, none⟩)]) (by simp)
      have HK := Lib.hid (show K (a'.put (some 20) (.func (.func 115) #[] #[.pointer (some ⟨S, 0, none⟩)])) W from hK W (Below.refl _ _) trivial)
      clear hK ld lq hmem
      unfold Oper.wp
      simp only [execOp, e1]
      exact HK.out
    | 8, _ =>
      obtain ⟨ty, pos, aft, e, hdp⟩ := iop8
      rw [e] at ho
      obtain rfl := Option.some.inj ho
      intro a' hds W K hB lq ld hmem hK
      have e5 : a'.eval (.tmp 5) = .int .i64 (k : Int) := by rw [eval_tmp]; exact lq (5, .int .i64 (k : Int)) (by simp)
      have HK := Lib.hid (show K (a'.put (some 21) (.int .i64 (k : Int))) W from hK W (Below.refl _ _) trivial)
      clear hK ld lq hmem
      unfold Oper.wp
      simp only [execOp, e5]
      exact HK.out
    | 9, _ =>
      obtain ⟨ty, pos, aft, e, hdp⟩ := iop9
      rw [e] at ho
      obtain rfl := Option.some.inj ho
      intro a' hds W K hB lq ld hmem hK
      have e20 : a'.eval (.tmp 20) = .func (.func 115) #[] #[.pointer (some ⟨S, 0, none⟩)] := by rw [eval_tmp]; exact ld 7 20 (List.all_eq_true.1 hdp 7 (by decide)) rfl
      have e21 : a'.eval (.tmp 21) = .int .i64 (k : Int) := by rw [eval_tmp]; exact ld 8 21 (List.all_eq_true.1 hdp 8 (by decide)) rfl
      have HK := Lib.hid (show ∀ W', Below W.heap.size W W' → K (a'.put (some 22) (.int .i64 (F k))) W' from fun W' h => hK W' h trivial)
      clear hK ld lq hmem
      refine step_callv (vals := #[.int .i64 (k : Int)]) (first := #[]) (caps := #[.pointer (some ⟨S, 0, none⟩)]) ⟨_, _, Try.func115, by kernel_rfl, rfl⟩ e20 (by simp only [List.map_toArray, List.map_cons, List.map_nil, e21]) (HC W hB) ?_
      rintro e w' ⟨rfl, rfl⟩
      exact ⟨_, rfl, HK.out _ (Below.refl _ _)⟩
    | 10, _ =>
      obtain ⟨ty, pos, aft, e, hdp⟩ := iop10
      rw [e] at ho
      obtain rfl := Option.some.inj ho
      intro a' hds W K hB lq ld hmem hK
      have e19 : a'.eval (.tmp 19) = .agg #[.int .i64 (n : Int), .slice (some ⟨b, off, none⟩) hs.length c] := by rw [eval_tmp]; exact ld 6 19 (List.all_eq_true.1 hdp 6 (by decide)) rfl
      have e22 : a'.eval (.tmp 22) = .int .i64 (F k) := by rw [eval_tmp]; exact ld 9 22 (List.all_eq_true.1 hdp 9 (by decide)) rfl
      have HK := Lib.hid (show ∀ W', Below W.heap.size W W' → K (a'.put (some 23) (.int .i64 (aroundN hs (F k) : Int))) W' from fun W' h => hK W' h trivial)
      clear hK ld lq hmem
      refine step_call (vals := #[.agg #[.int .i64 (n : Int), .slice (some ⟨b, off, none⟩) hs.length c], .int .i64 (F k)]) (by exact ⟨_, _, Try.func175, by kernel_rfl, rfl⟩) (by simp only [List.map_toArray, List.map_cons, List.map_nil, e19, e22]) (tieAround_any n b off c hs (F k) W (hx.below hB hb) (Nat.lt_of_lt_of_le hb hB.size) (by omega) hl hF.1 hF.2) ?_
      rintro e w' ⟨rfl, hb'⟩
      exact ⟨_, rfl, HK.out _ hb'⟩
    | 11, _ =>
      obtain ⟨ty, pos, aft, e, hdp⟩ := iop11
      rw [e] at ho
      obtain rfl := Option.some.inj ho
      intro a' hds W K hB lq ld hmem hK
      have e18 : a'.eval (.tmp 18) = .int .i64 (nthN hs k : Int) := by rw [eval_tmp]; exact ld 5 18 (List.all_eq_true.1 hdp 5 (by decide)) rfl
      have e23 : a'.eval (.tmp 23) = .int .i64 (aroundN hs (F k) : Int) := by rw [eval_tmp]; exact ld 10 23 (List.all_eq_true.1 hdp 10 (by decide)) rfl
      have HK := Lib.hid (show K (a'.put (some 24) (.bool ((nthN hs k : Int) != (aroundN hs (F k) : Int)))) W from hK W (Below.refl _ _) trivial)
      clear hK ld lq hmem
      unfold Oper.wp
      simp only [execOp, e18, e23]
      go_simp
      exact HK.out
    | i + 12, h => omega
  · intro hds v W hO
    have hfin := gend (v 13) (v 14) (v 15) (v 16) (v 17) (v 18) (v 19) (v 20) (v 21) (v 22) (v 23) W hO.b
    rw [← laid_putL _ a v ?_] at hfin
    · exact hfin
    · intro p hp
      simp only [List.mem_cons, List.not_mem_nil, or_false] at hp
      rcases hp with rfl | rfl | rfl | rfl | rfl | rfl | rfl | rfl | rfl | rfl | rfl | rfl
      · rfl
      · rfl
      · rfl
      · rfl
      · rfl
      · rfl
      · rfl
      · rfl
      · rfl
      · rfl
      · rfl
      · exact hO.x 11 (show 11 < 12 by decide) 24 rfl
set_option maxRecDepth 100000 in
set_option maxHeartbeats 1000000 in
theorem isLikeR_any (n b off c S : Nat) (hs : List Nat) (F : Nat → Int) (w : World) (hx : NatsAt w b off hs) (hb : b < w.heap.size) (h0 : 0 < hs.length) (hl : hs.length ≤ 1000) (hF : ∀ k, k < hs.length → 0 ≤ F k + hs.length ∧ F k < 100000)
    (HC : ∀ k W', k < hs.length → Below w.heap.size w W' → Calls Try.prog 115 #[.int .i64 (k : Int), .pointer (some ⟨S, 0, none⟩)] W' fun e w' => e = .returned (.int .i64 (F k)) ∧ W' = w') :
    Calls Try.prog 116 #[.agg #[.int .i64 (n : Int), .slice (some ⟨b, off, none⟩) hs.length c], .func (.func 115) #[] #[.pointer (some ⟨S, 0, none⟩)]] w fun e w' => e = .returned (.bool (likeB hs F)) ∧ Below w.heap.size w w' := by
  obtain ⟨w0, hw0⟩ : ∃ w0, w0 = w.alloc (.cells #[.int .i64 (n : Int), .slice (some ⟨b, off, none⟩) hs.length c] 159) := ⟨_, rfl⟩
  have hb0 : Below w.heap.size w w0 := by rw [hw0]; exact (Below.refl _ _).alloc (Nat.le_refl _) _
  have hB : BoxAt w0 w.heap.size #[.int .i64 (n : Int), .slice (some ⟨b, off, none⟩) hs.length c] 159 := by rw [hw0]; exact BoxAt.new _ _ _
  have b1 := hB.cell' 1 rfl
  have HB := Lib.hid hB
  have Hb0 := Lib.hid hb0
  have HW0 := Lib.hid hw0
  have Hx := Lib.hid hx
  have HCs := Lib.hid HC
  have HFs := Lib.hid hF
  have Hh0 := Lib.hid h0
  clear hb0 hw0 hB hx HC hF h0
  go_enter Try.func116, Try.ntmps116
  go_wp2_with fail
  rw [← HW0.out]
  go_wp2_with fail
  go_loopw [5, 10] (fun _ i wr => ∃ k : Nat, k ≤ hs.length ∧ i = .int .i64 k ∧ Below w.heap.size w wr ∧ BoxAt wr w.heap.size #[.int .i64 (n : Int), .slice (some ⟨b, off, none⟩) hs.length c] 159 ∧ ∀ j, j < k → nthN hs j = aroundN hs (F j)) (fun _ i _ => hs.length - (intOf i).toNat)
  case atStart => exact ⟨0, Nat.zero_le _, rfl, Hb0.out, HB.out, fun j hj => absurd hj (by omega)⟩
  case round =>
    obtain ⟨k, hk, rfl, hbr, hB, hall⟩ := hrel
    clear b1 HB
    have Hbr := Lib.hid hbr
    have HB := Lib.hid hB
    have Hall := Lib.hid hall
    clear hbr hB hall
    by_cases hlt : k < hs.length
    · go_upto_region 4 with fail
      refine region_likeR n b off c k w.heap.size S hs F (Hx.out.below Hbr.out hb) (Nat.lt_of_lt_of_le hb Hbr.out.size) hlt hl (HFs.out k hlt) (fun W h => HCs.out k W hlt (Hbr.out.trans (h.mono Hbr.out.size))) HB.out rfl ?hops (by kernel_rfl) (by kernel_rfl) (by kernel_rfl) (by kernel_rfl) ?hsz ?hout ?hend
      case hops => exact ⟨⟨_, _, _, rfl, by kernel_rfl⟩, ⟨_, _, _, rfl, by kernel_rfl⟩, ⟨_, _, _, rfl, by kernel_rfl⟩, ⟨_, _, _, rfl, by kernel_rfl⟩, ⟨_, _, _, rfl, by kernel_rfl⟩, ⟨_, _, _, rfl, by kernel_rfl⟩, ⟨_, _, _, rfl, by kernel_rfl⟩, ⟨_, _, _, rfl, by kernel_rfl⟩, ⟨_, _, _, rfl, by kernel_rfl⟩, ⟨_, _, _, rfl, by kernel_rfl⟩, ⟨_, _, _, rfl, by kernel_rfl⟩, ⟨_, _, _, rfl, by kernel_rfl⟩⟩
      case hsz => intro d hd; simp only [List.mem_cons, List.not_mem_nil, or_false] at hd; show d < 26; omega
      case hout => exact ⟨rfl, rfl, rfl⟩
      case hend =>
        intro u13 u14 u15 u16 u17 u18 u19 u20 u21 u22 u23 W5 hb5
        simp only [putL, List.foldl, Act.put, List.setIfInBounds_toArray, List.set_cons_succ, List.set_cons_zero]
        have Hbr5 := Lib.hid (Hbr.out.trans (hb5.mono Hbr.out.size))
        have HB5 := Lib.hid (HB.out.next hb5)
        clear hb5 Hbr HB
        by_cases he : nthN hs k = aroundN hs (F k)
        · have hd : ((nthN hs k : Int) != (aroundN hs (F k) : Int)) = false := by rw [he]; exact bne_self_eq_false _
          rw [hd]
          have Hall' := Lib.hid (show ∀ j, j < k + 1 → nthN hs j = aroundN hs (F j) from fun j hj => by
            by_cases hjk : j = k
            · rw [hjk]; exact he
            · exact Hall.out j (by omega))
          clear he hd Hall
          go_wp2_with fail
          go_roundw
          case rel => exact ⟨k + 1, by omega, by go_num, Hbr5.out, HB5.out, Hall'.out⟩
          case measure => simp [intOf]; omega
        · have hd : ((nthN hs k : Int) != (aroundN hs (F k) : Int)) = true := by rw [bne_iff_ne]; omega
          rw [hd]
          have HL := Lib.hid (likeB_no hlt he)
          clear he hd Hall
          go_wp2_with fail
          go_ret
          exact ⟨by rw [HL.out]; rfl, Hbr5.out⟩
    · have HL := Lib.hid (likeB_yes (hs := hs) (F := F) fun j hj => Hall.out j (by omega))
      clear Hall
      go_wp2_with fail
      go_ret
      exact ⟨by rw [HL.out]; rfl, Hbr.out⟩
end Go.Proofs.Ytdmgffoikebgkaa
/- Harness ties: Mirrors, Repeat and Beside. -/
namespace Go.Proofs.Ytdmgffoikebgkaa
open Go.RowKit Go.Shelf
attribute [local go_sem] Oper.semAt_some

theorem repCl_any (S s k : Nat) (w : World) (hc : w.cell? ⟨S, 0, none⟩ = some (.int .i64 (s : Int))) (hs : s ≤ 1000) (hk : k ≤ 1000) :
    Calls Try.prog 115 #[.int .i64 (k : Int), .pointer (some ⟨S, 0, none⟩)] w fun e w' => e = .returned (.int .i64 ((k : Int) + (s : Int))) ∧ w = w' := by
  go_enter Try.func115, Try.ntmps115
  go_wp2
  go_ret
  exact ⟨rfl, rfl⟩
def repAt (hs : List Nat) (p : Nat) : Bool := hs.length % p == 0 && likeB hs fun k => (k : Int) + (p : Int)
/-- the number in a box -/
def partIn (W : World) (v : Value) : Nat := match v with
  | .pointer (some a) => match W.cell? a with
    | some (.int _ z) => z.toNat
    | _ => 0
  | _ => 0
theorem partIn_box {W : World} {B k : Nat} (h : BoxAt W B #[.int .i64 (k : Int)] 3) : partIn W (.pointer (some ⟨B, 0, none⟩)) = k := by
  simp [partIn, h.cell' 0 rfl]
/-- what Repeat returns -/
def RepR (hs : List Nat) (e : Ending) : Prop := ∃ p, 1 ≤ p ∧ p ≤ hs.length ∧ (p = hs.length ∨ repAt hs p = true) ∧ (∀ j, 1 ≤ j → j < p → repAt hs j = false) ∧ e = .returned (.tuple #[.int .i64 (p : Int), .int .i64 0])
set_option maxRecDepth 100000 in
set_option maxHeartbeats 1000000 in
theorem Repeat_ok (n b off c : Nat) (hs : List Nat) (w : World) (hv : TAt w b off n hs) :
    Calls Try.prog 31 #[.agg #[.int .i64 (n : Int), .slice (some ⟨b, off, none⟩) hs.length c]] w fun e w' => RepR hs e ∧ Below w.heap.size w w' := by
  have l1 := hv.l1
  have l0 := hv.l0
  obtain ⟨w0, hw0⟩ : ∃ w0, w0 = w.alloc (.cells #[.int .i64 (n : Int), .slice (some ⟨b, off, none⟩) hs.length c] 26) := ⟨_, rfl⟩
  have hH := HBox.new w n b off c hs
  rw [← hw0] at hH
  have HC := Lib.hid (tieCheck_ok n b off c hs w0 (hv.next hH.bel))
  have b0 := hH.box.cell' 0 rfl
  have b1 := hH.box.cell' 1 rfl
  have HH := Lib.hid hH
  have HW0 := Lib.hid hw0
  have HV := Lib.hid hv
  clear hH hw0 hv
  go_enter Try.func31, Try.ntmps31
  go_wp2_with fail
  rw [← HW0.out]
  refine HC.out.mono ?_
  rintro e w1 ⟨rfl, hb1⟩
  have hH1 := HH.out.next hb1
  have HH1 := Lib.hid hH1
  clear hb1 HH HC b0 b1 HW0 hH1
  go_wp2_with fail
  go_loopw [5, 6] (fun v _ wr => ∃ k B : Nat, 1 ≤ k ∧ k ≤ hs.length ∧ v = .pointer (some ⟨B, 0, none⟩) ∧ w.heap.size < B ∧ BoxAt wr B #[.int .i64 (k : Int)] 3 ∧ HBox w n b off c hs wr ∧ ∀ j, 1 ≤ j → j < k → repAt hs j = false) (fun v _ wr => hs.length - partIn wr v)
  case atStart =>
    refine ⟨1, w1.heap.size, Nat.le_refl _, l0, rfl, ?_, BoxAt.new _ _ _, HH1.out.next ((Below.refl _ _).alloc (Nat.le_refl _) _), fun j h1 h2 => absurd h1 (by omega)⟩
    exact HH1.out.box.lt
  case round =>
    obtain ⟨k, B, hk1, hk, rfl, hBl, hB, hH, hall⟩ := hrel
    clear HH1
    have b0 := hH.box.cell' 0 rfl
    have b1 := hH.box.cell' 1 rfl
    have p0 := hB.cell' 0 rfl
    have hzz : w.heap.size < wr.heap.size := hH.box.lt
    have hzB : B < wr.heap.size := hB.lt
    have HP := Lib.hid (partIn_box hB)
    have HH := Lib.hid hH
    have HB := Lib.hid hB
    have Hall := Lib.hid hall
    by_cases hlt : k < hs.length
    · have hk0 : ¬ (k : Int) = 0 := by omega
      have hk0' : ¬ k = 0 := by omega
      have hmod : ((hs.length : Int)) % (k : Int) = ((hs.length % k : Nat) : Int) := (Int.natCast_emod _ _).symm
      have Hnext := fun (hf : repAt hs k = false) => Lib.hid (show ∀ j, 1 ≤ j → j < k + 1 → repAt hs j = false from fun j h1 hj => by
          by_cases hjk : j = k
          · rw [hjk]; exact hf
          · exact Hall.out j h1 (by omega))
      by_cases hm0 : hs.length % k = 0
      · have HL := Lib.hid (isLikeR_any n b off c B hs (fun j => (j : Int) + (k : Int)) wr (HV.out.next hH.bel).at' (HV.out.next hH.bel).lt l0 (by omega) (fun j hj => by omega)
          (fun j W' hj hb => (repCl_any B k j W' ((hB.next hb).cell' 0 rfl) (by omega) (by omega)).mono fun e w' ⟨h1, h2⟩ => ⟨h1, h2⟩))
        have hz0 : (((hs.length : Int) % (k : Int)) == 0) = true := by rw [hmod, hm0]; rfl
        clear hmod
        have Hm0 := Lib.hid hm0
        clear hH hall hB hm0
        go_wp2_with fail
        refine HL.out.mono ?_
        rintro e W3 ⟨rfl, hb3⟩
        have hH3 := HH.out.next hb3
        have hB3 := HB.out.next hb3
        have s0 := hB3.cell' 0 rfl
        have hzz3 : w.heap.size < W3.heap.size := hH3.box.lt
        have hzB3 : B < W3.heap.size := hB3.lt
        have HH3 := Lib.hid hH3
        have HB3 := Lib.hid hB3
        clear hb3 HL b0 b1 p0 hH3 hB3 HH HB hz0
        cases hm : likeB hs (fun j => (j : Int) + (k : Int)) with
        | true =>
          have HR := Lib.hid (show RepR hs (.returned (.tuple #[.int .i64 (k : Int), .int .i64 0])) from ⟨k, hk1, hk, .inr (by unfold repAt; rw [hm, Hm0.out]; rfl), Hall.out, rfl⟩)
          clear hm Hnext
          go_wp2_with fail
          go_ret2
          exact ⟨HR.out, HH3.out.bel⟩
        | false =>
          have Hall' := Hnext (by unfold repAt; rw [hm, Bool.and_false])
          clear hm Hall Hnext
          go_wp2_with fail
          go_roundw
          case rel => exact ⟨k + 1, W3.heap.size, by omega, by omega, rfl, by omega, BoxAt.new _ _ _, HH3.out.next ((Below.refl _ _).alloc (Nat.le_refl _) _), Hall'.out⟩
          case measure =>
            rw [HP.out, show ((k : Int) + 1) = ((k + 1 : Nat) : Int) by omega, partIn_box (BoxAt.new _ _ _)]
            omega
      · have hz0 : (((hs.length : Int) % (k : Int)) == 0) = false := by rw [hmod, beq_eq_false_iff_ne]; omega
        clear hmod
        have Hall' := Hnext (by unfold repAt; rw [show (hs.length % k == 0) = false by rw [beq_eq_false_iff_ne]; exact hm0, Bool.false_and])
        clear hH hall hB hm0 Hnext Hall
        go_wp2_with fail
        go_roundw
        case rel => exact ⟨k + 1, wr.heap.size, by omega, by omega, rfl, by omega, BoxAt.new _ _ _, HH.out.next ((Below.refl _ _).alloc (Nat.le_refl _) _), Hall'.out⟩
        case measure =>
          rw [HP.out, show ((k : Int) + 1) = ((k + 1 : Nat) : Int) by omega, partIn_box (BoxAt.new _ _ _)]
          omega
    · have HR := Lib.hid (show RepR hs (.returned (.tuple #[.int .i64 (hs.length : Int), .int .i64 0])) from ⟨hs.length, by omega, Nat.le_refl _, .inl rfl, fun j h1 hj => hall j h1 (by omega), rfl⟩)
      clear hall hH Hall hB
      go_wp2_with fail
      go_ret2
      exact ⟨HR.out, HH.out.bel⟩
/-- a whole row appended to a row of one's own -/
theorem app_rows {t e size bytes : Nat} (E : ElemT t e size bytes) {ops : Array Oper} {rest : List Oper} {o : Oper} {a : Act} {Q : Exit → Act → World → Prop} {W : World} (hgd : o.guard = none) (s x : Operand)
    (ho : o.op = .call { callee := .builtin .append, args := #[s, x], argTypes := #[t, t] }) (base : Nat) (v : Value) (n : Nat) (xs : List Value) (hs : a.eval s = v) (hown : W.ownsRow base e size v n xs)
    (ad : Addr) (m c : Nat) (news : List Value) (hx : a.eval x = .slice (some ad) m c) (hl : news.length = m * size) (h1 : ∀ u ∈ news, u.oneCell' = true) (hm : 0 < m) (hlen : n + m ≤ 1000000) (hby : bytes ≤ 1000)
    (hnews : ∀ j u, news[j]? = some u → W.cell? (ad.add j) = some u) (hbase : base ≤ W.heap.size)
    (h : ∀ g cap W', W'.ownsRow base e size (.slice (some ⟨g, 0, none⟩) (n + m) cap) (n + m) (xs ++ news) → W.grownBy W' v.ownBlock → wpList Try.prog ops Q rest (a.put o.dst (.slice (some ⟨g, 0, none⟩) (n + m) cap)) W') :
    wpList Try.prog ops Q (o :: rest) a W := by
  obtain ⟨i, z, hu, hi, hz0, hz1, hz2, hz3, hz4⟩ := E.ex
  refine wpList_append_lies _ hgd s x t ho base e i z size bytes hu hi hz0 hz1 hz2 hz3 hz4 v n xs hs hown ad m c news hx hl hnews h1 hm (by unfold maxLen; omega) ?_ hbase W.heap.size rfl ?_
  · exact Nat.le_trans (Nat.mul_le_mul (show n + m ≤ 1000000 by omega) hby) (by decide)
  · intro g cap w' hr hg _ _
    exact h g cap w' hr hg
/-- two harnesses that are laid beside each other: what Beside has in its boxes -/
structure BdAt (w0 : World) (n b off c b2 off2 c2 : Nat) (hs gs : List Nat) (v : Value) (rows : List Nat) (W : World) : Prop where
  bel : Below w0.heap.size w0 W
  box : BoxAt W w0.heap.size #[.int .i64 (n : Int), .slice (some ⟨b, off, none⟩) hs.length c] 26
  box2 : BoxAt W (w0.heap.size + 1) #[.int .i64 (n : Int), .slice (some ⟨b2, off2, none⟩) gs.length c2] 26
  res : BoxAt W (w0.heap.size + 2) #[.int .i64 0, .slice none 0 0] 26
  out : BoxAt W (w0.heap.size + 3) #[.int .i64 (n : Int), v] 26
  row : W.ownsRow (w0.heap.size + 4) 3 1 v rows.length (rows.map natV)
theorem BdAt.next {w0 W W' : World} {n b off c b2 off2 c2 : Nat} {hs gs rows : List Nat} {v : Value} (h : BdAt w0 n b off c b2 off2 c2 hs gs v rows W) (hb : Below W.heap.size W W') : BdAt w0 n b off c b2 off2 c2 hs gs v rows W' :=
  ⟨h.bel.trans (hb.mono h.bel.size), h.box.next hb, h.box2.next hb, h.res.next hb, h.out.next hb, own_next h.row hb⟩
theorem BdAt.grew {w0 W W' : World} {n b off c b2 off2 c2 g cap : Nat} {hs gs rows new : List Nat} {v : Value} (h : BdAt w0 n b off c b2 off2 c2 hs gs v rows W)
    (hr : W'.ownsRow (w0.heap.size + 4) 3 1 (.slice (some ⟨g, 0, none⟩) (rows.length + new.length) cap) (rows.length + new.length) (rows.map natV ++ new.map natV)) (hg : W.grownBy W' v.ownBlock) :
    BoxAt W' (w0.heap.size + 3) #[.int .i64 (n : Int), v] 26 ∧ BdAt w0 n b off c b2 off2 c2 hs gs (.slice (some ⟨g, 0, none⟩) (rows.length + new.length) cap) (rows ++ new) (W'.setCell ⟨w0.heap.size + 3, 1, none⟩ (.slice (some ⟨g, 0, none⟩) (rows.length + new.length) cap)) := by
  have hn : ∀ j, j < w0.heap.size + 4 → some j ≠ v.ownBlock := fun j hj => own_far h.row hj
  have hz : w0.heap.size + 4 ≤ W.heap.size := h.out.lt
  have hbel : Below w0.heap.size w0 W' := h.bel.grown hg (by omega) (fun j hj => by have := (ownBlock_ge h.row hj).1; omega)
  have ho := h.out.kept hg (hn _ (by omega))
  refine ⟨ho, hbel.setCell (by simp) _, (h.box.kept hg (hn _ (by omega))).other _ _ (by simp), (h.box2.kept hg (hn _ (by omega))).other _ _ (by simp), (h.res.kept hg (hn _ (by omega))).other _ _ (by simp), ho.set 1 _, ?_⟩
  rw [List.length_append, List.map_append]
  exact own_set hr _ _ (own_far hr (by simp))
theorem BdAt.start (w : World) (n b off c b2 off2 c2 : Nat) (hs gs : List Nat) :
    BdAt w n b off c b2 off2 c2 hs gs (.slice none 0 0) [] ((((w.alloc (.cells #[.int .i64 (n : Int), .slice (some ⟨b, off, none⟩) hs.length c] 26)).alloc (.cells #[.int .i64 (n : Int), .slice (some ⟨b2, off2, none⟩) gs.length c2] 26)).alloc (.cells #[.int .i64 0, .slice none 0 0] 26)).alloc (.cells #[.int .i64 (n : Int), .slice none 0 0] 26)) := by
  obtain ⟨W1, h1⟩ : ∃ W1, W1 = w.alloc (.cells #[.int .i64 (n : Int), .slice (some ⟨b, off, none⟩) hs.length c] 26) := ⟨_, rfl⟩
  obtain ⟨W2, h2⟩ : ∃ W2, W2 = W1.alloc (.cells #[.int .i64 (n : Int), .slice (some ⟨b2, off2, none⟩) gs.length c2] 26) := ⟨_, rfl⟩
  obtain ⟨W3, h3⟩ : ∃ W3, W3 = W2.alloc (.cells #[.int .i64 0, .slice none 0 0] 26) := ⟨_, rfl⟩
  obtain ⟨W4, h4⟩ : ∃ W4, W4 = W3.alloc (.cells #[.int .i64 (n : Int), .slice none 0 0] 26) := ⟨_, rfl⟩
  rw [← h1, ← h2, ← h3, ← h4]
  have s1 : W1.heap.size = w.heap.size + 1 := by rw [h1]; simp
  have s2 : W2.heap.size = w.heap.size + 2 := by rw [h2]; simp [s1]
  have s3 : W3.heap.size = w.heap.size + 3 := by rw [h3]; simp [s2]
  have e1 : BoxAt W1 w.heap.size #[.int .i64 (n : Int), .slice (some ⟨b, off, none⟩) hs.length c] 26 := by rw [h1]; exact BoxAt.new _ _ _
  have e2 : BoxAt W2 W1.heap.size #[.int .i64 (n : Int), .slice (some ⟨b2, off2, none⟩) gs.length c2] 26 := by rw [h2]; exact BoxAt.new _ _ _
  have e3 : BoxAt W3 W2.heap.size #[.int .i64 0, .slice none 0 0] 26 := by rw [h3]; exact BoxAt.new _ _ _
  have e4 : BoxAt W4 W3.heap.size #[.int .i64 (n : Int), .slice none 0 0] 26 := by rw [h4]; exact BoxAt.new _ _ _
  have b1 : Below w.heap.size w W1 := by rw [h1]; exact (Below.refl _ _).alloc (Nat.le_refl _) _
  have b2' : Below W1.heap.size W1 W2 := by rw [h2]; exact (Below.refl _ _).alloc (Nat.le_refl _) _
  have b3 : Below W2.heap.size W2 W3 := by rw [h3]; exact (Below.refl _ _).alloc (Nat.le_refl _) _
  have b4 : Below W3.heap.size W3 W4 := by rw [h4]; exact (Below.refl _ _).alloc (Nat.le_refl _) _
  rw [s1] at e2
  rw [s2] at e3
  rw [s3] at e4
  exact ⟨((b1.trans (b2'.mono b1.size)).trans (b3.mono (by omega))).trans (b4.mono (by omega)), ((e1.next b2').next b3).next b4, (e2.next b3).next b4, e3.next b4, e4, ⟨by simp, .inl ⟨rfl, rfl⟩⟩⟩
set_option maxRecDepth 100000 in
set_option maxHeartbeats 2000000 in
theorem Beside_ok26 (n b off c b2 off2 c2 : Nat) (hs gs : List Nat) (w : World) (hv : TAt w b off n hs) (hv2 : TAt w b2 off2 n gs) (hl : hs.length + gs.length ≤ 96) :
    Calls Try.prog 30 #[.agg #[.int .i64 (n : Int), .slice (some ⟨b, off, none⟩) hs.length c], .agg #[.int .i64 (n : Int), .slice (some ⟨b2, off2, none⟩) gs.length c2]] w fun e w' =>
      ∃ g cap, e = .returned (.tuple #[.agg #[.int .i64 (n : Int), .slice (some ⟨g, 0, none⟩) (hs.length + gs.length) cap], .int .i64 0]) ∧ NatsAt w' g 0 (hs ++ gs) ∧ w.heap.size ≤ g ∧ g < w'.heap.size ∧ Below w.heap.size w w' := by
  have l0 := hv.l0
  have l02 := hv2.l0
  have hS := BdAt.start w n b off c b2 off2 c2 hs gs
  obtain ⟨W0, hW0⟩ : ∃ W0, W0 = (((w.alloc (.cells #[.int .i64 (n : Int), .slice (some ⟨b, off, none⟩) hs.length c] 26)).alloc (.cells #[.int .i64 (n : Int), .slice (some ⟨b2, off2, none⟩) gs.length c2] 26)).alloc (.cells #[.int .i64 0, .slice none 0 0] 26)).alloc (.cells #[.int .i64 (n : Int), .slice none 0 0] 26) := ⟨_, rfl⟩
  rw [← hW0] at hS
  have HS := Lib.hid hS
  have HV := Lib.hid hv
  have HV2 := Lib.hid hv2
  have HW0 := Lib.hid hW0
  have ix0 : ∀ W : World, (Instr.index 156 (.agg #[.int .i64 (n : Int), .slice (some ⟨b, off, none⟩) hs.length c, .int .i64 (n : Int), .slice (some ⟨b2, off2, none⟩) gs.length c2]) (.int .i64 0)).run Try.prog W = .ok (.agg #[.int .i64 (n : Int), .slice (some ⟨b, off, none⟩) hs.length c]) W := fun W => by kernel_rfl
  have ix1 : ∀ W : World, (Instr.index 156 (.agg #[.int .i64 (n : Int), .slice (some ⟨b, off, none⟩) hs.length c, .int .i64 (n : Int), .slice (some ⟨b2, off2, none⟩) gs.length c2]) (.int .i64 1)).run Try.prog W = .ok (.agg #[.int .i64 (n : Int), .slice (some ⟨b2, off2, none⟩) gs.length c2]) W := fun W => by kernel_rfl
  clear hS hv hv2 hW0
  go_enter Try.func30, Try.ntmps30
  go_upto_region 2 with fail
  rw [← HW0.out]
  have b0 := HS.out.box.cell' 0 rfl
  have b1 := HS.out.box.cell' 1 rfl
  have d0 := HS.out.box2.cell' 0 rfl
  have d1 := HS.out.box2.cell' 1 rfl
  go_wp2_with fail
  go_loopw [8, 9, 16] (fun _ _ i wr => ∃ (k : Nat) (v : Value) (rows : List Nat), k ≤ 2 ∧ i = .int .i64 k ∧ ((k = 0 ∧ rows = []) ∨ (k = 1 ∧ rows = [] ++ hs) ∨ (k = 2 ∧ rows = hs ++ gs)) ∧ BdAt w n b off c b2 off2 c2 hs gs v rows wr) (fun _ _ i _ => 2 - (intOf i).toNat)
  case atStart => exact ⟨0, _, [], by omega, rfl, .inl ⟨rfl, rfl⟩, HS.out⟩
  case round =>
    obtain ⟨k, v, rows, hk, rfl, hcase, hT⟩ := hrel
    clear b0 b1 d0 d1 HS HW0
    rcases hcase with hcase | hcase | hcase
    · obtain ⟨rfl, hrw⟩ := hcase
      have hlr : rows.length + hs.length ≤ 96 := by rw [hrw]; simp; omega
      have Hrw := Lib.hid hrw
      clear hrw
      obtain ⟨W2, hW2⟩ : ∃ W2, W2 = wr.alloc (.cells #[.int .i64 (n : Int), .slice (some ⟨b, off, none⟩) hs.length c] 26) := ⟨_, rfl⟩
      have hb2 : Below wr.heap.size wr W2 := by rw [hW2]; exact (Below.refl _ _).alloc (Nat.le_refl _) _
      have hE := BoxAt.new wr #[.int .i64 (n : Int), .slice (some ⟨b, off, none⟩) hs.length c] 26
      rw [← hW2] at hE
      have hT2 := hT.next hb2
      have HCk := Lib.hid (tieCheck_ok n b off c hs W2 (HV.out.next hT2.bel))
      have HE := Lib.hid hE
      have HT2 := Lib.hid hT2
      have HW2 := Lib.hid hW2
      clear hb2 hE hT2 hW2 hT
      go_wp2_with fail
      rw [← HW2.out]
      refine HCk.out.mono ?_
      rintro e W3 ⟨rfl, hb3⟩
      have hT3 := HT2.out.next hb3
      have hE3 := HE.out.next hb3
      have e1 := hE3.cell' 1 rfl
      have o1 := hT3.out.cell' 1 rfl
      have HT3 := Lib.hid hT3
      have HE3 := Lib.hid hE3
      clear hb3 hT3 hE3 HCk HE HT2
      go_wp2_with (at_builtin; refine Shut.out ?_)
      unfold Shut
      refine app_rows elemInt rfl _ _ rfl (w.heap.size + 4) v rows.length (rows.map natV) rfl HT3.out.row ⟨b, off, none⟩ hs.length c (hs.map natV) rfl (by simp) (by simp [natV, Value.oneCell']) (by omega) (by omega) (by decide) (nats_news (HV.out.next HT3.out.bel).at') HT3.out.out.lt ?_
      intro g cap W4 hr hg
      have hr' : W4.ownsRow (w.heap.size + 4) 3 1 (.slice (some ⟨g, 0, none⟩) (rows.length + hs.length) cap) (rows.length + hs.length) (rows.map natV ++ hs.map natV) := hr
      obtain ⟨ho, hT5⟩ := HT3.out.grew hr' hg
      have o0 := ho.cell' 0 rfl
      have o1 := ho.cell' 1 rfl
      have of := ho.frozen 1
      have HT5 := Lib.hid hT5
      clear hr hg hr' hT5 e1 HT3 HE3
      go_wp2_with fail
      go_roundw
      case rel => exact ⟨1, _, _, by omega, rfl, .inr (.inl ⟨rfl, by rw [Hrw.out]⟩), HT5.out⟩
      case measure => simp [intOf]
    · obtain ⟨rfl, hrw⟩ := hcase
      have hlr : rows.length + gs.length ≤ 96 := by rw [hrw]; simp; omega
      have Hrw := Lib.hid hrw
      clear hrw
      obtain ⟨W2, hW2⟩ : ∃ W2, W2 = wr.alloc (.cells #[.int .i64 (n : Int), .slice (some ⟨b2, off2, none⟩) gs.length c2] 26) := ⟨_, rfl⟩
      have hb2 : Below wr.heap.size wr W2 := by rw [hW2]; exact (Below.refl _ _).alloc (Nat.le_refl _) _
      have hE := BoxAt.new wr #[.int .i64 (n : Int), .slice (some ⟨b2, off2, none⟩) gs.length c2] 26
      rw [← hW2] at hE
      have hT2 := hT.next hb2
      have HCk := Lib.hid (tieCheck_ok n b2 off2 c2 gs W2 (HV2.out.next hT2.bel))
      have HE := Lib.hid hE
      have HT2 := Lib.hid hT2
      have HW2 := Lib.hid hW2
      clear hb2 hE hT2 hW2 hT
      go_wp2_with fail
      rw [← HW2.out]
      refine HCk.out.mono ?_
      rintro e W3 ⟨rfl, hb3⟩
      have hT3 := HT2.out.next hb3
      have hE3 := HE.out.next hb3
      have e1 := hE3.cell' 1 rfl
      have o1 := hT3.out.cell' 1 rfl
      have HT3 := Lib.hid hT3
      have HE3 := Lib.hid hE3
      clear hb3 hT3 hE3 HCk HE HT2
      go_wp2_with (at_builtin; refine Shut.out ?_)
      unfold Shut
      refine app_rows elemInt rfl _ _ rfl (w.heap.size + 4) v rows.length (rows.map natV) rfl HT3.out.row ⟨b2, off2, none⟩ gs.length c2 (gs.map natV) rfl (by simp) (by simp [natV, Value.oneCell']) (by omega) (by omega) (by decide) (nats_news (HV2.out.next HT3.out.bel).at') HT3.out.out.lt ?_
      intro g cap W4 hr hg
      have hr' : W4.ownsRow (w.heap.size + 4) 3 1 (.slice (some ⟨g, 0, none⟩) (rows.length + gs.length) cap) (rows.length + gs.length) (rows.map natV ++ gs.map natV) := hr
      obtain ⟨ho, hT5⟩ := HT3.out.grew hr' hg
      have o0 := ho.cell' 0 rfl
      have o1 := ho.cell' 1 rfl
      have of := ho.frozen 1
      have HT5 := Lib.hid hT5
      clear hr hg hr' hT5 e1 HT3 HE3
      go_wp2_with fail
      go_roundw
      case rel => exact ⟨2, _, _, by omega, rfl, .inr (.inr ⟨rfl, by rw [Hrw.out, List.nil_append]⟩), HT5.out⟩
      case measure => simp [intOf]
    · obtain ⟨rfl, rfl⟩ := hcase
      have HT := Lib.hid hT
      obtain ⟨g, cap, rfl⟩ := row_slice hT.row (by simp; omega)
      obtain ⟨hn, hgl, hlo⟩ := nats_of_row hT.row (by simp; omega)
      have b0 := hT.box.cell' 0 rfl
      have d0 := hT.box2.cell' 0 rfl
      have o0 := hT.out.cell' 0 rfl
      have o1 := hT.out.cell' 1 rfl
      have r0 := hT.res.cell' 0 rfl
      have r1 := hT.res.cell' 1 rfl
      have f0 := hT.res.frozen 0
      have f1 := hT.res.frozen 1
      have hz := hT.out.lt
      have Hn := Lib.hid hn
      clear hT hn
      go_wp2_with fail
      refine bodyPost_ret (v := .tuple #[.agg #[.int .i64 (n : Int), .slice (some ⟨g, 0, none⟩) (hs.length + gs.length) cap], .int .i64 0]) ?_ rfl ⟨g, cap, rfl, ?_, by omega, ?_, ?_⟩
      · have hb3 := (HT.out.res.set 0 (.int .i64 (n : Int))).set 1 (.slice (some ⟨g, 0, none⟩) (hs ++ gs).length cap)
        have d0 := hb3.cell' (v := .int .i64 (n : Int)) 0 rfl
        have d1 := hb3.cell' (v := .slice (some ⟨g, 0, none⟩) (hs ++ gs).length cap) 1 rfl
        simp only [List.length_append] at d0 d1
        simp [results, Try.results30, go_sem, d0, d1]
      · exact nats_setB (nats_setB Hn.out _ _ _ (by omega)) _ _ _ (by omega)
      · simp only [setCell_size]; exact hgl
      · exact (HT.out.bel.setCell (by simp; omega) _).setCell (by simp; omega) _
end Go.Proofs.Ytdmgffoikebgkaa
/- A pick of a cloth: its bytes as the points of a ring; alike, float, length. -/
namespace Go.Proofs.Ytdmgffoikebgkaa
open Go.RowKit Go.Shelf
attribute [local go_sem] Oper.semAt_some

end Go.Proofs.Ytdmgffoikebgkaa
/- A pick of a cloth: its floats, as an iterator. -/
namespace Go.Proofs.Ytdmgffoikebgkaa
open Go.RowKit Go.Shelf
attribute [local go_sem] Oper.semAt_some

end Go.Proofs.Ytdmgffoikebgkaa
/- Harness ties: the floats of a cloth. -/
namespace Go.Proofs.Ytdmgffoikebgkaa
open Go.RowKit Go.Shelf
attribute [local go_sem] Oper.semAt_some

end Go.Proofs.Ytdmgffoikebgkaa
/- Harness ties: the hooks of one group that begins with the first hook. -/
namespace Go.Proofs.Ytdmgffoikebgkaa
open Go.RowKit Go.Shelf
attribute [local go_sem] Oper.semAt_some

end Go.Proofs.Ytdmgffoikebgkaa
/- Harness ties: Make with one group that begins with the first hook. -/
namespace Go.Proofs.Ytdmgffoikebgkaa
open Go.RowKit Go.Shelf
attribute [local go_sem] Oper.semAt_some

end Go.Proofs.Ytdmgffoikebgkaa
/- TopMirrored: point ties, their cloths and floats; the contracts that its walk uses. -/
namespace Go.Proofs.Ytdmgffoikebgkaa
open Go.RowKit Go.Shelf
attribute [local go_sem] Oper.semAt_some

theorem call30 (n T T2 b c b2 c2 : Nat) (hs : List Nat) (W : World) (hT : hs.length = T) (hT2 : T + T = T2) (hl : T2 ≤ 96) (hv : TAt W b 0 n hs) (hv2 : TAt W b2 0 n hs) :
    Calls Try.prog 30 #[.agg #[.int .i64 (n : Int), .slice (some ⟨b, 0, none⟩) T c], .agg #[.int .i64 (n : Int), .slice (some ⟨b2, 0, none⟩) T c2]] W fun e w' =>
      ∃ g cap, e = .returned (.tuple #[.agg #[.int .i64 (n : Int), .slice (some ⟨g, 0, none⟩) T2 cap], .int .i64 0]) ∧ NatsAt w' g 0 (hs ++ hs) ∧ W.heap.size ≤ g ∧ g < w'.heap.size ∧ Below W.heap.size W w' := by
  subst hT hT2
  exact Beside_ok26 n b 0 c b2 0 c2 hs hs W hv hv2 hl
end Go.Proofs.Ytdmgffoikebgkaa
/- TopMirrored: its regions that draw their order. -/
namespace Go.Proofs.Ytdmgffoikebgkaa
open Go.RowKit Go.Shelf
attribute [local go_sem] Oper.semAt_some

end Go.Proofs.Ytdmgffoikebgkaa
/- TopMirrored: the walk. -/
namespace Go.Proofs.Ytdmgffoikebgkaa
open Go.RowKit Go.Shelf
attribute [local go_sem] Oper.semAt_some

end Go.Proofs.Ytdmgffoikebgkaa
/- TopBoundCloth: bound rows weave bound picks by a straight tie, and none above Worst by any. -/
namespace Go.Proofs.Ytdmgffoikebgkaa
open Go.RowKit Go.Shelf
attribute [local go_sem] Oper.semAt_some

/-- the hooks of a window -/
theorem winN_bit (hs : List Nat) (f j : Nat) : ∀ l, bitN (winN hs f l) j = true → ∃ t, t < l ∧ aroundN hs ((f : Int) + (t : Int)) = j
  | 0, h => by simp [winN, bitN] at h
  | l + 1, h => by
    unfold bitN at h
    rw [winN, Nat.testBit_or, Bool.or_eq_true] at h
    rcases h with h | h
    · obtain ⟨t, ht, e⟩ := winN_bit hs f j l h
      exact ⟨t, by omega, e⟩
    · rw [Nat.testBit_two_pow] at h
      exact ⟨l, by omega, by simpa using h⟩
end Go.Proofs.Ytdmgffoikebgkaa
/- TieThreads: its regions that draw their order. -/
namespace Go.Proofs.Ytdmgffoikebgkaa
open Go.RowKit Go.Shelf
attribute [local go_sem] Oper.semAt_some

/-- the strings of a cloth -/
structure ClS (ss : List ByteArray) (n : Nat) (ps : List Nat) : Prop where
  len : ss.length = ps.length
  str : ∀ i, i < ps.length → StrB (nthB ss i) n (nthN ps i)
theorem ClS.at {ss : List ByteArray} {n : Nat} {ps : List Nat} {W : World} {b : Nat} (h : ClS ss n ps) (hx : StrsAt W b 0 ss) (hb : b < W.heap.size) : ClAt W b 0 n ps :=
  ⟨fun i hi => ⟨_, h.str i hi, hx i (by rw [h.len]; exact hi)⟩, hb⟩
theorem tat_of {W : World} {N T b : Nat} {HS : List Nat} (hT : HS.length = T) (hT0 : 1 ≤ T) (hT1 : T ≤ 96) (hN0 : 1 ≤ N) (hN1 : N ≤ 24) (hk : ∀ i, i < T → nthN HS i < N) (h1 : NatsAt W b 0 HS) (h2 : b < W.heap.size) : TAt W b 0 N HS := by
  subst hT
  exact ⟨h1, h2, hN0, hN1, hT0, hT1, hk⟩
end Go.Proofs.Ytdmgffoikebgkaa
/- TieThreads: its mathematics. -/
namespace Go.Proofs.Ytdmgffoikebgkaa
open Go.RowKit Go.Shelf
attribute [local go_sem] Oper.semAt_some

theorem cloth_ClS (hs xs : List Nat) (h0 : 1 ≤ hs.length) (h1 : hs.length ≤ 96) : ClS (clothS hs xs) hs.length (pks hs xs) := by
  refine ⟨by rw [clothS_len, pks_len], fun i hi => ?_⟩
  rw [pks_len] at hi
  rw [clothS_nth _ _ _ hi, pks_nth _ _ hi]
  exact pick_strB hs _ h0 h1
theorem least_of {P : Nat → Prop} [DecidablePred P] : ∀ n, P n → ∃ m, P m ∧ m ≤ n ∧ ∀ j, j < m → ¬ P j
  | 0, h => ⟨0, h, Nat.le_refl _, fun j hj => absurd hj (Nat.not_lt_zero _)⟩
  | n + 1, h => by
    by_cases hx : ∃ k, k ≤ n ∧ P k
    · obtain ⟨k, hk, hP⟩ := hx
      have : ∀ q, q ≤ n → P q → ∃ m, P m ∧ m ≤ q ∧ ∀ j, j < m → ¬ P j := fun q => by
        induction q using Nat.strongRecOn with
        | _ q ih =>
          intro hq hPq
          by_cases hy : ∃ j, j < q ∧ P j
          · obtain ⟨j, hj, hPj⟩ := hy
            obtain ⟨m, h1, h2, h3⟩ := ih j hj (by omega) hPj
            exact ⟨m, h1, by omega, h3⟩
          · exact ⟨q, hPq, Nat.le_refl _, fun j hj hP => hy ⟨j, hj, hP⟩⟩
      obtain ⟨m, h1, h2, h3⟩ := this k hk hP
      exact ⟨m, h1, by omega, h3⟩
    · exact ⟨n + 1, h, Nat.le_refl _, fun j hj hP => hx ⟨j, by omega, hP⟩⟩
end Go.Proofs.Ytdmgffoikebgkaa
/- TieThreads, TieFew, TieBound: what lies in memory. -/
namespace Go.Proofs.Ytdmgffoikebgkaa
open Go.RowKit Go.Shelf
attribute [local go_sem] Oper.semAt_some

theorem hsTo_nthT (n : Nat) (ws : List Nat) (k i : Nat) (hn : 1 ≤ n) (hi : i < k) : nthN (hsTo n ws k) i < n := by
  rw [nthN_get _ _ (by rw [hsTo_len]; exact hi)]
  simp only [hsTo, List.getElem_map, List.getElem_range, hsG]
  split
  · exact Nat.mod_lt _ (by omega)
  · omega
end Go.Proofs.Ytdmgffoikebgkaa
/- Arguments that come in: a loom of chapter 3, an array of two bytes. -/
namespace Go.Proofs.Ytdmgffoikebgkaa
open Go.ChangeShapes Go.WideShapes Go.ChangeAt Go.RowKit Go.Joins

set_option maxRecDepth 100000 in
/-- a loom of chapter 3 that came in -/
theorem lom_open {Ty : Type} {enc : TypeId × Value → Ty} {W : World} {v : Value} {d : DataW Ty} {p : List MemPlace} (hv : Value.okWide Try.prog W .any 0 92 v) (h : DataW.Trod enc Try.prog W 0 (fun _ => true) true 92 v d p) :
    ∃ (H : Nat) (p1 p2 : Option Addr) (c1 c2 : Nat) (ws rs : List Nat), v = .agg (lomA H p1 p2 ws.length c1 rs.length c2) ∧ H < 256 ∧ ByteRow W p1 ws ∧ WordRow W p2 rs ∧
      ws.length ≤ 9223372036854775807 ∧ rs.length ≤ 9223372036854775807 := by
  obtain ⟨k0, k1, k2, y0, y1, y2, m, rfl, rfl, rfl, h0, h1, h2⟩ := open_agg3 Try.underlying92 (by kernel_rfl) (by kernel_rfl) hv h
  obtain ⟨a, e0, rfl, wa⟩ := DataW.trod_int Try.underlying5 h0
  simp at e0
  subst e0
  obtain ⟨H, rfl, hH⟩ := u8_of wa
  obtain ⟨p1, c1, ws, rfl, hw1, hl1⟩ := u8s_of_trod h1
  obtain ⟨p2, c2, rs, rfl, hw2, hl2⟩ := u16s_of_trod h2
  exact ⟨H, p1, p2, c1, c2, ws, rs, rfl, hH, hw1, hw2, hl1, hl2⟩

end Go.Proofs.Ytdmgffoikebgkaa
/- TieBound: its mathematics. -/
namespace Go.Proofs.Ytdmgffoikebgkaa
open Go.RowKit Go.Shelf

/-- the greatest of some numbers -/
def mxL (f : Nat → Nat) : Nat → Nat
  | 0 => 0
  | k + 1 => max (mxL f k) (f k)
theorem mxL_le {f : Nat → Nat} {v : Nat} : ∀ {k : Nat}, (∀ i, i < k → f i ≤ v) → mxL f k ≤ v
  | 0, _ => Nat.zero_le _
  | k + 1, h => Nat.max_le.2 ⟨mxL_le fun i hi => h i (by omega), h k (by omega)⟩
theorem le_mxL {f : Nat → Nat} {i : Nat} : ∀ {k : Nat}, i < k → f i ≤ mxL f k
  | 0, h => by omega
  | k + 1, h => by
    rw [mxL]
    by_cases e : i = k
    · subst e; exact Nat.le_max_right _ _
    · exact Nat.le_trans (le_mxL (show i < k by omega)) (Nat.le_max_left _ _)
/-- how far the points are alike, round the ring -/
def lenR (T x w : Nat) : Nat := ((List.range (T + 1)).find? fun k => bitN x ((w + k) % T) != bitN x w).getD 1000
theorem lenR_cases (T x w : Nat) : (lenR T x w = 1000 ∧ ∀ j, j ≤ T → bitN x ((w + j) % T) = bitN x w) ∨ (lenR T x w ≤ T ∧ (∀ j, j < lenR T x w → bitN x ((w + j) % T) = bitN x w) ∧ bitN x ((w + lenR T x w) % T) ≠ bitN x w) := by
  unfold lenR
  cases h : (List.range (T + 1)).find? fun k => bitN x ((w + k) % T) != bitN x w with
  | none =>
    refine .inl ⟨rfl, fun j hj => ?_⟩
    rw [List.find?_eq_none] at h
    have := h j (by simpa using Nat.lt_succ_of_le hj)
    simpa using this
  | some k =>
    refine .inr ?_
    have h1 := List.mem_of_find?_eq_some h
    have h2 := List.find?_some h
    simp only [List.mem_range] at h1
    refine ⟨Nat.le_of_lt_succ h1, fun j hj => ?_, by simpa using h2⟩
    rw [List.find?_range_eq_some] at h
    have := h.2.2 j hj
    simpa using this
theorem lenR_none {T x w : Nat} (h : ∀ j, j < T + 1 → bitN x ((w + j) % T) = bitN x w) : lenR T x w = 1000 := by
  rcases lenR_cases T x w with ⟨e, _⟩ | ⟨e, _, hn⟩
  · exact e
  · exact absurd (h _ (by omega)) hn
theorem lenR_some {T x w k : Nat} (hk : k ≤ T) (h : ∀ j, j < k → bitN x ((w + j) % T) = bitN x w) (hne : bitN x ((w + k) % T) ≠ bitN x w) : lenR T x w = k := by
  rcases lenR_cases T x w with ⟨_, e⟩ | ⟨_, h1, h2⟩
  · exact absurd (e k hk) hne
  · rcases Nat.lt_trichotomy (lenR T x w) k with e | e | e
    · exact absurd (h _ e) h2
    · exact e
    · exact absurd (h1 _ e) hne
def longL (ps : List Nat) (T L : Nat) : Nat := mxL (fun i => mxL (lenR T (nthN ps i)) T) L
theorem around_nat (hs : List Nat) (w j : Nat) : aroundN hs ((w : Int) + (j : Int)) = nthN hs ((w + j) % hs.length) := by
  unfold aroundN
  have e : ((w : Int) + (j : Int) + (hs.length : Int)).toNat = w + j + hs.length := by omega
  rw [e, Nat.add_mod_right]
theorem lif_le {hs : List Nat} {n m i l : Nat} : ∀ d, Lifts n m (winN hs i (l + d)) → Lifts n m (winN hs i l)
  | 0, h => h
  | d + 1, h => lif_le d (lif_less h)
def worV (T lo : Nat) : Nat := if lo = T then 1000 else lo
theorem winN_has (hs : List Nat) (f t : Nat) : ∀ l, t < l → bitN (winN hs f l) (aroundN hs ((f : Int) + (t : Int))) = true
  | 0, h => by omega
  | l + 1, h => by
    unfold bitN
    rw [winN, Nat.testBit_or, Bool.or_eq_true]
    by_cases e : t = l
    · subst e; right; rw [Nat.testBit_two_pow]; simp
    · left; exact winN_has hs f t l (by omega)
theorem bind_some {n m p : Nat} (h0 : 1 ≤ n) (h1 : n ≤ 24) {x : Nat} (hx : x < 2 ^ n) (hb : BoundUp x n m) : bindN n p 0 m < never := by
  have := bindN_le_row (p := p) (f := 0) (x := x) h0 h1 hx ⟨con_free _ _ _, hb⟩
  have h3 := ham_le p x n
  have h4 : 2 ^ n ≤ 2 ^ 24 := Nat.pow_le_pow_right (by decide) h1
  unfold never change at *
  omega
end Go.Proofs.Ytdmgffoikebgkaa
/- Harness ties: the hooks of one point group between any two hooks, and Make with it. -/
namespace Go.Proofs.Ytdmgffoikebgkaa
open Go.RowKit Go.Shelf
attribute [local go_sem] Oper.semAt_some

def ptV (a b t : Nat) : Array Value := #[.int .i64 (a : Int), .int .i64 (b : Int), .int .i64 2, .int .i64 (t : Int)]
def ptH (up : Bool) (a L k : Nat) : Nat := if up then a + hookT L 2 k else a - hookT L 2 k
def ptL (up : Bool) (a L t : Nat) : List Nat := (List.range (onceT L 2 * t)).map (ptH up a L)
theorem ptL_len (up : Bool) (a L t : Nat) : (ptL up a L t).length = onceT L 2 * t := by simp [ptL]
theorem ptL_take (up : Bool) (a L t k : Nat) (h : k < onceT L 2 * t) : (ptL up a L t).take (k + 1) = (ptL up a L t).take k ++ [ptH up a L k] := by
  rw [List.take_add_one]; simp [ptL, h]
theorem ptL_pre (up : Bool) (a L t k : Nat) (h : k < onceT L 2 * t) : ((ptL up a L t).take k ++ [ptH up a L k]) <+: ptL up a L t := by
  rw [← ptL_take up a L t k h]; exact List.take_prefix _ _
theorem hookT_le (L k : Nat) : hookT L 2 k ≤ L := by
  unfold hookT; omega
set_option maxHeartbeats 1000000 in
theorem pt_iter_up (a b L t n size : Nat) (hL : L < 24) (ha : a < 24) (hb : b < 24) (hab : a + L = b) (ht : 1 ≤ t ∧ t ≤ 8) :
    Iter Try.prog n (n - 1) 113 #[.agg (ptV a b t)] (fun x : Nat => #[.int .i64 (x : Int)]) (ptL true a L t) size := by
  intro l J W hW hJ hY h0
  subst hW
  refine callsIn_of_wp Try.func113 rfl trivial ?_ rfl
  simp only [Try.ntmps113, List.size_toArray, List.length_cons, List.length_nil, Nat.reduceAdd, Nat.reduceSub, Array.replicate_succ, Array.replicate_zero, List.push_toArray, List.append_toArray, List.nil_append, List.cons_append]
  have hB0 : BoxAt (W.alloc (.cells (ptV a b t) 152)) W.heap.size (ptV a b t) 152 := BoxAt.new _ _ _
  have hJ0 : J [] (W.alloc (.cells (ptV a b t) 152)) := hJ _ _ _ h0 ((Below.refl _ _).alloc (Nat.le_refl _) _)
  have hpos := onceT_pos L 2
  have hback := onceT_back L 2
  have hpre := ptL_pre true a L t
  have htk := ptL_take true a L t
  have hlen := ptL_len true a L t
  have hhk : ∀ k, hookT L 2 k = min (k % onceT L 2) (2 * L - k % onceT L 2) := fun _ => rfl
  have hcase : (¬ (1 : Int) < (L : Int) ∧ onceT L 2 = L + 1) ∨ ((1 : Int) < (L : Int) ∧ onceT L 2 = 2 * L) := by
    unfold onceT
    by_cases h1 : 1 < L
    · exact .inr ⟨by omega, by simp [h1]⟩
    · exact .inl ⟨by omega, by simp [h1]⟩
  have hsub : (b : Int) - (a : Int) = (L : Int) := by omega
  have hz0 : ¬ ((L : Int) < 0) := by omega
  obtain ⟨o, ho⟩ : ∃ o, onceT L 2 = o := ⟨_, rfl⟩
  rw [ho] at hpos hback hpre htk hhk hcase hlen
  have hmulN : o * t ≤ 49 * 8 := Nat.mul_le_mul (by omega) ht.2
  obtain ⟨N, hN⟩ : ∃ N, o * t = N := ⟨_, rfl⟩
  rw [hN] at hmulN hlen hpre htk
  have hmul : (o : Int) * (t : Int) = (N : Int) := by rw [← hN]; exact (Int.natCast_mul _ _).symm
  have HB0 := Lib.hid hB0
  have HJ0 := Lib.hid hJ0
  have HPre := Lib.hid hpre
  have HTk := Lib.hid htk
  have HHk := Lib.hid hhk
  have HLen := Lib.hid hlen
  have HMul := Lib.hid hmul
  clear hB0 hJ0 hpre htk hhk ho hlen hN hmul
  unfold ptV at HB0 HJ0 ⊢
  rcases hcase with ⟨hl1, rfl⟩ | ⟨hl1, rfl⟩
  · have hw : wrap64 (((L : Int) + 1) * (t : Int)) = (N : Int) := by
      have := HMul.out
      push_cast at this
      rw [this]; unfold wrap64; omega
    gi_wp2_with fail
    gi_loopw [38] (fun i wr => ∃ k : Nat, k ≤ N ∧ i = .int .i64 k ∧ wr.cell? ⟨W.heap.size, 0, none⟩ = some (.int .i64 (a : Int)) ∧ J ((ptL true a L t).take k) wr) (fun i _ => N - (intOf i).toNat)
    case atStart => exact ⟨0, Nat.zero_le _, rfl, BoxAt.cell' HB0.out 0 rfl, HJ0.out⟩
    case round =>
      obtain ⟨k, hk, rfl, c0, hJ2⟩ := hrel
      clear HB0 HJ0
      by_cases hlt : k < N
      · obtain ⟨fn, tmps, assign, body, hy, hR⟩ := hY ((ptL true a L t).take k) (ptH true a L k) _ hJ2 (HPre.out k hlt) (World.block_lt_of_cell? _ _ c0)
        clear hJ2 hw
        have hrl : k % (L + 1) < (L + 1) := Nat.mod_lt _ (by omega)
        have hrb := hback k
        have hhk := HHk.out k
        have hrm : (k : Int).tmod ((L : Int) + 1) = ((k % (L + 1) : Nat) : Int) := by
          rw [show ((L : Int) + 1) = (((L + 1) : Nat) : Int) by push_cast; rfl]
          exact tmod_nn _ _
        obtain ⟨r, hr⟩ : ∃ r, k % (L + 1) = r := ⟨_, rfl⟩
        rw [hr] at hrl hrb hhk hrm
        have hoz : ¬ ((L : Int) + 1) = 0 := by omega
        have hltI : (k : Int) < (N : Int) := by omega
        have Hy := Lib.hid hy
        have Htk := Lib.hid (HTk.out k hlt)
        have Hhk := Lib.hid hhk
        have hle0 := hookT_le L k
        rw [hhk] at hle0
        have Hle0 := Lib.hid hle0
        clear hy hr hhk hback hle0
        by_cases hle : (r : Int) ≤ 2 * (L : Int) - (r : Int)
        · have hn : ((ptH true a L k : Nat) : Int) = (a : Int) + (r : Int) := by unfold ptH; rw [Hhk.out]; have := Hle0.out; simp only [if_true, if_pos rfl]; omega
          have hy2 : (Instr.yield l #[.int .i64 ((a : Int) + (r : Int))]).run Try.prog wr = .ok (.round l fn tmps assign body) wr := by rw [← hn]; exact Hy.out
          clear hn
          gi_wp2_with fail
          refine ⟨fun h => by simp [Fence.wide] at h, hR.mono ?_⟩
          rintro e W3 ⟨rfl, hJ3, hz3, hk3⟩
          have HJ3 := Lib.hid hJ3
          have c3 := (hk3 0).trans c0
          clear hJ3
          gi_wp2_with fail
          go_roundw
          case rel => exact ⟨k + 1, by omega, by go_num, c3, by rw [Htk.out]; exact HJ3.out⟩
          case measure => simp [intOf]; omega
        · exfalso; omega
      · obtain rfl : k = N := by omega
        have HJ := Lib.hid hJ2
        have hltI : ¬ (k : Int) < (k : Int) := by omega
        clear hJ2
        gi_wp2_with fail
        go_end0
        refine ⟨⟨_, rfl⟩, ?_⟩
        have e : (ptL true a L t).take k = ptL true a L t := List.take_of_length_le (by rw [HLen.out]; exact Nat.le_refl _)
        rw [← e]; exact HJ.out
  · have hw : wrap64 ((2 * (L : Int)) * (t : Int)) = (N : Int) := by
      have := HMul.out
      push_cast at this
      rw [this]; unfold wrap64; omega
    gi_wp2_with fail
    gi_loopw [38] (fun i wr => ∃ k : Nat, k ≤ N ∧ i = .int .i64 k ∧ wr.cell? ⟨W.heap.size, 0, none⟩ = some (.int .i64 (a : Int)) ∧ J ((ptL true a L t).take k) wr) (fun i _ => N - (intOf i).toNat)
    case atStart => exact ⟨0, Nat.zero_le _, rfl, BoxAt.cell' HB0.out 0 rfl, HJ0.out⟩
    case round =>
      obtain ⟨k, hk, rfl, c0, hJ2⟩ := hrel
      clear HB0 HJ0
      by_cases hlt : k < N
      · obtain ⟨fn, tmps, assign, body, hy, hR⟩ := hY ((ptL true a L t).take k) (ptH true a L k) _ hJ2 (HPre.out k hlt) (World.block_lt_of_cell? _ _ c0)
        clear hJ2 hw
        have hrl : k % (2 * L) < (2 * L) := Nat.mod_lt _ (by omega)
        have hrb := hback k
        have hhk := HHk.out k
        have hrm : (k : Int).tmod (2 * (L : Int)) = ((k % (2 * L) : Nat) : Int) := by
          rw [show (2 * (L : Int)) = (((2 * L) : Nat) : Int) by push_cast; rfl]
          exact tmod_nn _ _
        obtain ⟨r, hr⟩ : ∃ r, k % (2 * L) = r := ⟨_, rfl⟩
        rw [hr] at hrl hrb hhk hrm
        have hoz : ¬ (2 * (L : Int)) = 0 := by omega
        have hltI : (k : Int) < (N : Int) := by omega
        have Hy := Lib.hid hy
        have Htk := Lib.hid (HTk.out k hlt)
        have Hhk := Lib.hid hhk
        have hle0 := hookT_le L k
        rw [hhk] at hle0
        have Hle0 := Lib.hid hle0
        clear hy hr hhk hback hle0
        by_cases hle : (r : Int) ≤ 2 * (L : Int) - (r : Int)
        · have hn : ((ptH true a L k : Nat) : Int) = (a : Int) + (r : Int) := by unfold ptH; rw [Hhk.out]; have := Hle0.out; simp only [if_true, if_pos rfl]; omega
          have hy2 : (Instr.yield l #[.int .i64 ((a : Int) + (r : Int))]).run Try.prog wr = .ok (.round l fn tmps assign body) wr := by rw [← hn]; exact Hy.out
          clear hn
          gi_wp2_with fail
          refine ⟨fun h => by simp [Fence.wide] at h, hR.mono ?_⟩
          rintro e W3 ⟨rfl, hJ3, hz3, hk3⟩
          have HJ3 := Lib.hid hJ3
          have c3 := (hk3 0).trans c0
          clear hJ3
          gi_wp2_with fail
          go_roundw
          case rel => exact ⟨k + 1, by omega, by go_num, c3, by rw [Htk.out]; exact HJ3.out⟩
          case measure => simp [intOf]; omega
        · have hle2 : (2 : Int) * (L : Int) - (r : Int) < (r : Int) := by omega
          have hn : ((ptH true a L k : Nat) : Int) = (a : Int) + (2 * (L : Int) - (r : Int)) := by unfold ptH; rw [Hhk.out]; have := Hle0.out; simp only [if_true, if_pos rfl]; omega
          have hy2 : (Instr.yield l #[.int .i64 ((a : Int) + (2 * (L : Int) - (r : Int)))]).run Try.prog wr = .ok (.round l fn tmps assign body) wr := by rw [← hn]; exact Hy.out
          clear hn
          clear hle
          gi_wp2_with fail
          refine ⟨fun h => by simp [Fence.wide] at h, hR.mono ?_⟩
          rintro e W3 ⟨rfl, hJ3, hz3, hk3⟩
          have HJ3 := Lib.hid hJ3
          have c3 := (hk3 0).trans c0
          clear hJ3
          gi_wp2_with fail
          go_roundw
          case rel => exact ⟨k + 1, by omega, by go_num, c3, by rw [Htk.out]; exact HJ3.out⟩
          case measure => simp [intOf]; omega
      · obtain rfl : k = N := by omega
        have HJ := Lib.hid hJ2
        have hltI : ¬ (k : Int) < (k : Int) := by omega
        clear hJ2
        gi_wp2_with fail
        go_end0
        refine ⟨⟨_, rfl⟩, ?_⟩
        have e : (ptL true a L t).take k = ptL true a L t := List.take_of_length_le (by rw [HLen.out]; exact Nat.le_refl _)
        rw [← e]; exact HJ.out
set_option maxHeartbeats 1000000 in
theorem pt_iter_dn (a b L t n size : Nat) (hL : L < 24) (ha : a < 24) (hb : b < 24) (hab : b + L = a) (hL0 : 1 ≤ L) (ht : 1 ≤ t ∧ t ≤ 8) :
    Iter Try.prog n (n - 1) 113 #[.agg (ptV a b t)] (fun x : Nat => #[.int .i64 (x : Int)]) (ptL false a L t) size := by
  intro l J W hW hJ hY h0
  subst hW
  refine callsIn_of_wp Try.func113 rfl trivial ?_ rfl
  simp only [Try.ntmps113, List.size_toArray, List.length_cons, List.length_nil, Nat.reduceAdd, Nat.reduceSub, Array.replicate_succ, Array.replicate_zero, List.push_toArray, List.append_toArray, List.nil_append, List.cons_append]
  have hB0 : BoxAt (W.alloc (.cells (ptV a b t) 152)) W.heap.size (ptV a b t) 152 := BoxAt.new _ _ _
  have hJ0 : J [] (W.alloc (.cells (ptV a b t) 152)) := hJ _ _ _ h0 ((Below.refl _ _).alloc (Nat.le_refl _) _)
  have hpos := onceT_pos L 2
  have hback := onceT_back L 2
  have hpre := ptL_pre false a L t
  have htk := ptL_take false a L t
  have hlen := ptL_len false a L t
  have hhk : ∀ k, hookT L 2 k = min (k % onceT L 2) (2 * L - k % onceT L 2) := fun _ => rfl
  have hcase : (¬ (1 : Int) < (L : Int) ∧ onceT L 2 = L + 1) ∨ ((1 : Int) < (L : Int) ∧ onceT L 2 = 2 * L) := by
    unfold onceT
    by_cases h1 : 1 < L
    · exact .inr ⟨by omega, by simp [h1]⟩
    · exact .inl ⟨by omega, by simp [h1]⟩
  have hsub : (b : Int) - (a : Int) = -(L : Int) := by omega
  have hz0 : -(L : Int) < 0 := by omega
  obtain ⟨o, ho⟩ : ∃ o, onceT L 2 = o := ⟨_, rfl⟩
  rw [ho] at hpos hback hpre htk hhk hcase hlen
  have hmulN : o * t ≤ 49 * 8 := Nat.mul_le_mul (by omega) ht.2
  obtain ⟨N, hN⟩ : ∃ N, o * t = N := ⟨_, rfl⟩
  rw [hN] at hmulN hlen hpre htk
  have hmul : (o : Int) * (t : Int) = (N : Int) := by rw [← hN]; exact (Int.natCast_mul _ _).symm
  have HB0 := Lib.hid hB0
  have HJ0 := Lib.hid hJ0
  have HPre := Lib.hid hpre
  have HTk := Lib.hid htk
  have HHk := Lib.hid hhk
  have HLen := Lib.hid hlen
  have HMul := Lib.hid hmul
  clear hB0 hJ0 hpre htk hhk ho hlen hN hmul
  unfold ptV at HB0 HJ0 ⊢
  rcases hcase with ⟨hl1, rfl⟩ | ⟨hl1, rfl⟩
  · have hw : wrap64 (((L : Int) + 1) * (t : Int)) = (N : Int) := by
      have := HMul.out
      push_cast at this
      rw [this]; unfold wrap64; omega
    gi_wp2_with fail
    gi_loopw [38] (fun i wr => ∃ k : Nat, k ≤ N ∧ i = .int .i64 k ∧ wr.cell? ⟨W.heap.size, 0, none⟩ = some (.int .i64 (a : Int)) ∧ J ((ptL false a L t).take k) wr) (fun i _ => N - (intOf i).toNat)
    case atStart => exact ⟨0, Nat.zero_le _, rfl, BoxAt.cell' HB0.out 0 rfl, HJ0.out⟩
    case round =>
      obtain ⟨k, hk, rfl, c0, hJ2⟩ := hrel
      clear HB0 HJ0
      by_cases hlt : k < N
      · obtain ⟨fn, tmps, assign, body, hy, hR⟩ := hY ((ptL false a L t).take k) (ptH false a L k) _ hJ2 (HPre.out k hlt) (World.block_lt_of_cell? _ _ c0)
        clear hJ2 hw
        have hrl : k % (L + 1) < (L + 1) := Nat.mod_lt _ (by omega)
        have hrb := hback k
        have hhk := HHk.out k
        have hrm : (k : Int).tmod ((L : Int) + 1) = ((k % (L + 1) : Nat) : Int) := by
          rw [show ((L : Int) + 1) = (((L + 1) : Nat) : Int) by push_cast; rfl]
          exact tmod_nn _ _
        obtain ⟨r, hr⟩ : ∃ r, k % (L + 1) = r := ⟨_, rfl⟩
        rw [hr] at hrl hrb hhk hrm
        have hoz : ¬ ((L : Int) + 1) = 0 := by omega
        have hltI : (k : Int) < (N : Int) := by omega
        have Hy := Lib.hid hy
        have Htk := Lib.hid (HTk.out k hlt)
        have Hhk := Lib.hid hhk
        have hle0 := hookT_le L k
        rw [hhk] at hle0
        have Hle0 := Lib.hid hle0
        clear hy hr hhk hback hle0
        by_cases hle : (r : Int) ≤ 2 * (L : Int) - (r : Int)
        · have hn : ((ptH false a L k : Nat) : Int) = (a : Int) + -(r : Int) := by unfold ptH; rw [Hhk.out]; have := Hle0.out; simp only [Bool.false_eq_true, if_false]; omega
          have hy2 : (Instr.yield l #[.int .i64 ((a : Int) + -(r : Int))]).run Try.prog wr = .ok (.round l fn tmps assign body) wr := by rw [← hn]; exact Hy.out
          clear hn
          gi_wp2_with fail
          refine ⟨fun h => by simp [Fence.wide] at h, hR.mono ?_⟩
          rintro e W3 ⟨rfl, hJ3, hz3, hk3⟩
          have HJ3 := Lib.hid hJ3
          have c3 := (hk3 0).trans c0
          clear hJ3
          gi_wp2_with fail
          go_roundw
          case rel => exact ⟨k + 1, by omega, by go_num, c3, by rw [Htk.out]; exact HJ3.out⟩
          case measure => simp [intOf]; omega
        · exfalso; omega
      · obtain rfl : k = N := by omega
        have HJ := Lib.hid hJ2
        have hltI : ¬ (k : Int) < (k : Int) := by omega
        clear hJ2
        gi_wp2_with fail
        go_end0
        refine ⟨⟨_, rfl⟩, ?_⟩
        have e : (ptL false a L t).take k = ptL false a L t := List.take_of_length_le (by rw [HLen.out]; exact Nat.le_refl _)
        rw [← e]; exact HJ.out
  · have hw : wrap64 ((2 * (L : Int)) * (t : Int)) = (N : Int) := by
      have := HMul.out
      push_cast at this
      rw [this]; unfold wrap64; omega
    gi_wp2_with fail
    gi_loopw [38] (fun i wr => ∃ k : Nat, k ≤ N ∧ i = .int .i64 k ∧ wr.cell? ⟨W.heap.size, 0, none⟩ = some (.int .i64 (a : Int)) ∧ J ((ptL false a L t).take k) wr) (fun i _ => N - (intOf i).toNat)
    case atStart => exact ⟨0, Nat.zero_le _, rfl, BoxAt.cell' HB0.out 0 rfl, HJ0.out⟩
    case round =>
      obtain ⟨k, hk, rfl, c0, hJ2⟩ := hrel
      clear HB0 HJ0
      by_cases hlt : k < N
      · obtain ⟨fn, tmps, assign, body, hy, hR⟩ := hY ((ptL false a L t).take k) (ptH false a L k) _ hJ2 (HPre.out k hlt) (World.block_lt_of_cell? _ _ c0)
        clear hJ2 hw
        have hrl : k % (2 * L) < (2 * L) := Nat.mod_lt _ (by omega)
        have hrb := hback k
        have hhk := HHk.out k
        have hrm : (k : Int).tmod (2 * (L : Int)) = ((k % (2 * L) : Nat) : Int) := by
          rw [show (2 * (L : Int)) = (((2 * L) : Nat) : Int) by push_cast; rfl]
          exact tmod_nn _ _
        obtain ⟨r, hr⟩ : ∃ r, k % (2 * L) = r := ⟨_, rfl⟩
        rw [hr] at hrl hrb hhk hrm
        have hoz : ¬ (2 * (L : Int)) = 0 := by omega
        have hltI : (k : Int) < (N : Int) := by omega
        have Hy := Lib.hid hy
        have Htk := Lib.hid (HTk.out k hlt)
        have Hhk := Lib.hid hhk
        have hle0 := hookT_le L k
        rw [hhk] at hle0
        have Hle0 := Lib.hid hle0
        clear hy hr hhk hback hle0
        by_cases hle : (r : Int) ≤ 2 * (L : Int) - (r : Int)
        · have hn : ((ptH false a L k : Nat) : Int) = (a : Int) + -(r : Int) := by unfold ptH; rw [Hhk.out]; have := Hle0.out; simp only [Bool.false_eq_true, if_false]; omega
          have hy2 : (Instr.yield l #[.int .i64 ((a : Int) + -(r : Int))]).run Try.prog wr = .ok (.round l fn tmps assign body) wr := by rw [← hn]; exact Hy.out
          clear hn
          gi_wp2_with fail
          refine ⟨fun h => by simp [Fence.wide] at h, hR.mono ?_⟩
          rintro e W3 ⟨rfl, hJ3, hz3, hk3⟩
          have HJ3 := Lib.hid hJ3
          have c3 := (hk3 0).trans c0
          clear hJ3
          gi_wp2_with fail
          go_roundw
          case rel => exact ⟨k + 1, by omega, by go_num, c3, by rw [Htk.out]; exact HJ3.out⟩
          case measure => simp [intOf]; omega
        · have hle2 : (2 : Int) * (L : Int) - (r : Int) < (r : Int) := by omega
          have hn : ((ptH false a L k : Nat) : Int) = (a : Int) + -(2 * (L : Int) - (r : Int)) := by unfold ptH; rw [Hhk.out]; have := Hle0.out; simp only [Bool.false_eq_true, if_false]; omega
          have hy2 : (Instr.yield l #[.int .i64 ((a : Int) + -(2 * (L : Int) - (r : Int)))]).run Try.prog wr = .ok (.round l fn tmps assign body) wr := by rw [← hn]; exact Hy.out
          clear hn
          clear hle
          gi_wp2_with fail
          refine ⟨fun h => by simp [Fence.wide] at h, hR.mono ?_⟩
          rintro e W3 ⟨rfl, hJ3, hz3, hk3⟩
          have HJ3 := Lib.hid hJ3
          have c3 := (hk3 0).trans c0
          clear hJ3
          gi_wp2_with fail
          go_roundw
          case rel => exact ⟨k + 1, by omega, by go_num, c3, by rw [Htk.out]; exact HJ3.out⟩
          case measure => simp [intOf]; omega
      · obtain rfl : k = N := by omega
        have HJ := Lib.hid hJ2
        have hltI : ¬ (k : Int) < (k : Int) := by omega
        clear hJ2
        gi_wp2_with fail
        go_end0
        refine ⟨⟨_, rfl⟩, ?_⟩
        have e : (ptL false a L t).take k = ptL false a L t := List.take_of_length_le (by rw [HLen.out]; exact Nat.le_refl _)
        rw [← e]; exact HJ.out
end Go.Proofs.Ytdmgffoikebgkaa
