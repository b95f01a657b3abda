/- Harness ties: the hooks of one group, one after the other, and Make, at the group of the document's example. -/
import Derived.LoopNIn
import Derived.Maps.OwnIn
import Derived.Test.YtdmgffoikebgkaaTb01
import Derived.Test.YtdmgffoikebgkaaTb02
import Derived.Test.YtdmgffoikebgkaaTb03
import Derived.Test.YtdmgffoikebgkaaTb04
import Derived.Test.YtdmgffoikebgkaaTb05
import Derived.Test.YtdmgffoikebgkaaTb06
import Derived.Test.YtdmgffoikebgkaaTb07
import Derived.Test.YtdmgffoikebgkaaTb08
import Derived.Test.YtdmgffoikebgkaaTb09
import Derived.Test.YtdmgffoikebgkaaTb10
import Derived.Test.YtdmgffoikebgkaaTb11
import Derived.Test.YtdmgffoikebgkaaTb12
import Derived.Test.YtdmgffoikebgkaaTb13
import Derived.Test.YtdmgffoikebgkaaTb14
import Derived.Test.YtdmgffoikebgkaaTb15
import Derived.Test.YtdmgffoikebgkaaTb16
import Derived.Test.YtdmgffoikebgkaaTb17
import Derived.Test.YtdmgffoikebgkaaTb18
import Derived.Test.YtdmgffoikebgkaaTb19
import Derived.Test.YtdmgffoikebgkaaTb20
import Derived.Deep.RegionHeld3
import Derived.Maps.OwnOps
import Derived.Maps.Views
import Derived.DeepKeys4
import Derived.KernelRfl
import Derived.Deep.QuietTactic
import Derived.BigQuiet
import Derived.Laws.Externs
import Derived.Lib.Bytealg
import Derived.Sort.QuietIn
import Derived.Sort.CutIn
import Derived.Deep.DeepCutAuto
import Derived.Laws.IdiomStrings
namespace Go.Proofs.Ytdmgffoikebgkaa
open Go.RowKit Go.Shelf
attribute [local go_sem] Oper.semAt_some

def intV (n : Int) : Value := .int .i64 n
end Go.Proofs.Ytdmgffoikebgkaa
/- Differ. -/
namespace Go.Proofs.Ytdmgffoikebgkaa
open Go.RowKit Go.Shelf

end Go.Proofs.Ytdmgffoikebgkaa
/- (after texts BA, BB, BC, BD, BF, ZB, XA of the first seat) What Bind makes: a bound design with the fewest changes; what a bound row is woven as. -/
namespace Go.Proofs.Ytdmgffoikebgkaa
open Go.RowKit

section
variable (p f h L : Nat) (now : List Nat) (a : Bool) (next0 : List Nat)
end
end Go.Proofs.Ytdmgffoikebgkaa
/- TopBound: which rows can be bound; Bind, Floats and Differ for its designs; a byte. -/
namespace Go.Proofs.Ytdmgffoikebgkaa
open Go.RowKit Go.Shelf
attribute [local go_sem] Oper.semAt_some

theorem con_free (p x : Nat) (s : Nat) : con p 0 x s = 0 := (con_zero s).2 fun j _ _ => by simp [bitN]
end Go.Proofs.Ytdmgffoikebgkaa
/- Harness ties: around the edge, alike warps, Mirrors, Repeat. -/
namespace Go.Proofs.Ytdmgffoikebgkaa
open Go.RowKit Go.Shelf
attribute [local go_sem] Oper.semAt_some

def region_likeRU : List (List Nat) := [[], [], [], [], [], [], [], [], [], [], [], []]
def region_likeRX (n b off c k B S : Nat) (hs : List Nat) (F : Nat → Int) : Nat → (Nat → Hd) → Value
  | 0, _ => .pointer (some ⟨B, 0, none⟩)
  | 1, _ => .pointer (some ⟨B, 1, none⟩)
  | 2, _ => .slice (some ⟨b, off, none⟩) hs.length c
  | 3, _ => .int .i64 (k : Int)
  | 4, _ => .pointer (some ⟨b, off + k, none⟩)
  | 5, _ => .int .i64 (nthN hs k : Int)
  | 6, _ => .agg #[.int .i64 (n : Int), .slice (some ⟨b, off, none⟩) hs.length c]
  | 7, _ => .func (.func 115) #[] #[.pointer (some ⟨S, 0, none⟩)]
  | 8, _ => .int .i64 (k : Int)
  | 9, _ => .int .i64 (F k)
  | 10, _ => .int .i64 (aroundN hs (F k) : Int)
  | 11, _ => .bool ((nthN hs k : Int) != (aroundN hs (F k) : Int))
  | _ + 12, _ => undef
theorem region_likeRX.congr (n b off c k B S : Nat) (hs : List Nat) (F : Nat → Int) : ∀ i hds hds', (∀ r ∈ uOf region_likeRU i, hds r = hds' r) → region_likeRX n b off c k B S hs F i hds = region_likeRX n b off c k B S hs F i hds'
  | 0, _, _, _ => rfl
  | 1, _, _, _ => rfl
  | 2, _, _, _ => rfl
  | 3, _, _, _ => rfl
  | 4, _, _, _ => rfl
  | 5, _, _, _ => rfl
  | 6, _, _, _ => rfl
  | 7, _, _, _ => rfl
  | 8, _, _, _ => rfl
  | 9, _, _, _ => rfl
  | 10, _, _, _ => rfl
  | 11, _, _, _ => rfl
  | _ + 12, _, _, _ => rfl
def region_likeRM  : Nat → Mem
  | _ => memNone
def region_likeRS  : Nat → Option Sto
  | _ => none
set_option maxRecDepth 8000 in
set_option maxHeartbeats 2000000 in
theorem region_likeR {id : Nat} {ops : Array Oper} {Q : Exit → Act → World → Prop} {a : Act} {w : World} (n b off c k B S : Nat) (hs : List Nat) (F : Nat → Int) (hx : NatsAt w b off hs) (hb : b < w.heap.size) (hk : k < hs.length) (hl : hs.length ≤ 1000) (hF : 0 ≤ F k + hs.length ∧ F k < 100000) (HC : ∀ W', Below w.heap.size w W' → Calls Try.prog 115 #[.int .i64 (k : Int), .pointer (some ⟨S, 0, none⟩)] W' fun e w' => e = .returned (.int .i64 (F k)) ∧ W' = w') (hbox : BoxAt w B #[.int .i64 (n : Int), .slice (some ⟨b, off, none⟩) hs.length c] 159)
    (gsize : ops.size = 12)
    (gops : IsOp ops 0 (some 13) (.fieldAddr 159 (.tmp 2) 0) none [] ∧ IsOp ops 1 (some 14) (.fieldAddr 26 (.tmp 13) 1) none [0] ∧ IsOp ops 2 (some 15) (.load 24 (.tmp 14)) none [1] ∧ IsOp ops 3 (some 16) (.move (.tmp 5)) none [] ∧ IsOp ops 4 (some 17) (.indexAddr 24 (.tmp 15) (.tmp 16)) none [2, 3] ∧ IsOp ops 5 (some 18) (.load 3 (.tmp 17)) none [4] ∧ IsOp ops 6 (some 19) (.load 159 (.tmp 2)) none [] ∧ IsOp ops 7 (some 20) (.move (.tmp 1)) none [] ∧ IsOp ops 8 (some 21) (.move (.tmp 5)) none [] ∧ IsOp ops 9 (some 22) (.call { callee := .value (.tmp 20), args := #[.tmp 21], argTypes := #[3] }) none [7, 8] ∧ IsOp ops 10 (some 23) (.call { callee := .value (.func 175), args := #[.tmp 19, .tmp 22], argTypes := #[159, 3] }) none [6, 9] ∧ IsOp ops 11 (some 24) (.binOp .neq 3 (.tmp 18) (.tmp 23) 3) none [5, 10])
    (gbk : backB ops = true) (gds : dstsB ops (dOf [some 13, some 14, some 15, some 16, some 17, some 18, some 19, some 20, some 21, some 22, some 23, some 24]) = true) (gus : useB ops (uOf region_likeRU) (kOf [0, 0, 0, 0, 0, 0, 0, 0, 0, 0, 0, 0]) = true) (ggd : plainB ops = true) (gsz : ∀ e ∈ [13, 14, 15, 16, 17, 18, 19, 20, 21, 22, 23, 24], e < a.tmps.size)
    (gout : a.eval (.tmp 2) = .pointer (some ⟨B, 0, none⟩) ∧ a.eval (.tmp 5) = .int .i64 (k : Int) ∧ a.eval (.tmp 1) = .func (.func 115) #[] #[.pointer (some ⟨S, 0, none⟩)])
    (gend : ∀ (u13 u14 u15 u16 u17 u18 u19 u20 u21 u22 u23 : Value) (W : World), Below w.heap.size w W → Q .normal (putL a [(13, u13), (14, u14), (15, u15), (16, u16), (17, u17), (18, u18), (19, u19), (20, u20), (21, u21), (22, u22), (23, u23), (24, .bool ((nthN hs k : Int) != (aroundN hs (F k) : Int)))]) W) :
    (Code.region id ops true).wp Try.prog Q a w := by
  obtain ⟨iop0, iop1, iop2, iop3, iop4, iop5, iop6, iop7, iop8, iop9, iop10, iop11⟩ := gops
  obtain ⟨o2, o5, o1⟩ := gout
  refine region_all (RSp.of 12 [some 13, some 14, some 15, some 16, some 17, some 18, some 19, some 20, some 21, some 22, some 23, some 24] (fun _ => true) (region_likeRX n b off c k B S hs F) region_likeRU [0, 0, 0, 0, 0, 0, 0, 0, 0, 0, 0, 0] (region_likeRM ) (region_likeRS )) [(2, .pointer (some ⟨B, 0, none⟩)), (5, .int .i64 (k : Int)), (1, .func (.func 115) #[] #[.pointer (some ⟨S, 0, none⟩)])] [13, 14, 15, 16, 17, 18, 19, 20, 21, 22, 23, 24] (RSp.of_fit gsize.symm gbk gds gus ggd (by decide) ?_) (RSp.of_ok _ (region_likeRX.congr n b off c k B S hs F) ?_) gsz ?_ ?_ ?_
  · intro p hp
    have hp2 : p ∈ ([] : List (Nat × Nat)) := hp
    cases hp2
  · intro i s hds
    match i, hds with
    | 0, hds => cases hds
    | 1, hds => cases hds
    | 2, hds => cases hds
    | 3, hds => cases hds
    | 4, hds => cases hds
    | 5, hds => cases hds
    | 6, hds => cases hds
    | 7, hds => cases hds
    | 8, hds => cases hds
    | 9, hds => cases hds
    | 10, hds => cases hds
    | 11, hds => cases hds
    | _ + 12, hds => cases hds
  · intro q hq
    simp only [List.mem_cons, List.not_mem_nil, or_false] at hq
    rcases hq with rfl | rfl | rfl
    · exact ⟨o2, by simp⟩
    · exact ⟨o5, by simp⟩
    · exact ⟨o1, by simp⟩
  · intro i o ho _
    have hi : i < 12 := by rw [← gsize]; exact (Array.getElem?_eq_some_iff.1 ho).1
    match i, hi with
    | 0, _ =>
      obtain ⟨ty, pos, aft, e, hdp⟩ := iop0
      rw [e] at ho
      obtain rfl := Option.some.inj ho
      intro a' hds W K hB lq ld hmem hK
      have e2 : a'.eval (.tmp 2) = .pointer (some ⟨B, 0, none⟩) := by rw [eval_tmp]; exact lq (2, .pointer (some ⟨B, 0, none⟩)) (by simp)
      have HK := Lib.hid (show K (a'.put (some 13) (.pointer (some ⟨B, 0, none⟩))) W from hK W (Below.refl _ _) trivial)
      clear hK ld lq hmem
      unfold Oper.wp
      simp only [execOp, e2]
      go_simp
      exact HK.out
    | 1, _ =>
      obtain ⟨ty, pos, aft, e, hdp⟩ := iop1
      rw [e] at ho
      obtain rfl := Option.some.inj ho
      intro a' hds W K hB lq ld hmem hK
      have e13 : a'.eval (.tmp 13) = .pointer (some ⟨B, 0, none⟩) := by rw [eval_tmp]; exact ld 0 13 (List.all_eq_true.1 hdp 0 (by decide)) rfl
      have HK := Lib.hid (show K (a'.put (some 14) (.pointer (some ⟨B, 1, none⟩))) W from hK W (Below.refl _ _) trivial)
      clear hK ld lq hmem
      unfold Oper.wp
      simp only [execOp, e13]
      go_simp
      exact HK.out
    | 2, _ =>
      obtain ⟨ty, pos, aft, e, hdp⟩ := iop2
      rw [e] at ho
      obtain rfl := Option.some.inj ho
      intro a' hds W K hB lq ld hmem hK
      have e14 : a'.eval (.tmp 14) = .pointer (some ⟨B, 1, none⟩) := by rw [eval_tmp]; exact ld 1 14 (List.all_eq_true.1 hdp 1 (by decide)) rfl
      have HK := Lib.hid (show K (a'.put (some 15) (.slice (some ⟨b, off, none⟩) hs.length c)) W from hK W (Below.refl _ _) trivial)
      clear hK ld lq hmem
      have c1 := (hbox.next hB).cell' 1 rfl
      unfold Oper.wp
      simp only [execOp, e14]
      go_simp
      exact HK.out
    | 3, _ =>
      obtain ⟨ty, pos, aft, e, hdp⟩ := iop3
      rw [e] at ho
      obtain rfl := Option.some.inj ho
      intro a' hds W K hB lq ld hmem hK
      have e5 : a'.eval (.tmp 5) = .int .i64 (k : Int) := by rw [eval_tmp]; exact lq (5, .int .i64 (k : Int)) (by simp)
      have HK := Lib.hid (show K (a'.put (some 16) (.int .i64 (k : Int))) W from hK W (Below.refl _ _) trivial)
      clear hK ld lq hmem
      unfold Oper.wp
      simp only [execOp, e5]
      exact HK.out
    | 4, _ =>
      obtain ⟨ty, pos, aft, e, hdp⟩ := iop4
      rw [e] at ho
      obtain rfl := Option.some.inj ho
      intro a' hds W K hB lq ld hmem hK
      have e15 : a'.eval (.tmp 15) = .slice (some ⟨b, off, none⟩) hs.length c := by rw [eval_tmp]; exact ld 2 15 (List.all_eq_true.1 hdp 2 (by decide)) rfl
      have e16 : a'.eval (.tmp 16) = .int .i64 (k : Int) := by rw [eval_tmp]; exact ld 3 16 (List.all_eq_true.1 hdp 3 (by decide)) rfl
      have HK := Lib.hid (show K (a'.put (some 17) (.pointer (some ⟨b, off + k, none⟩))) W from hK W (Below.refl _ _) trivial)
      clear hK ld lq hmem
      have hk0 : (0 : Int) ≤ (k : Int) := by omega
      have hk1 : (k : Int) < (hs.length : Int) := by omega
      unfold Oper.wp
      simp only [execOp, e15, e16]
      go_simp
      exact HK.out
    | 5, _ =>
      obtain ⟨ty, pos, aft, e, hdp⟩ := iop5
      rw [e] at ho
      obtain rfl := Option.some.inj ho
      intro a' hds W K hB lq ld hmem hK
      have e17 : a'.eval (.tmp 17) = .pointer (some ⟨b, off + k, none⟩) := by rw [eval_tmp]; exact ld 4 17 (List.all_eq_true.1 hdp 4 (by decide)) rfl
      have HK := Lib.hid (show K (a'.put (some 18) (.int .i64 (nthN hs k : Int))) W from hK W (Below.refl _ _) trivial)
      clear hK ld lq hmem
      have c0 := (hx.below hB hb) k hk
      unfold Oper.wp
      simp only [execOp, e17]
      go_simp
      exact HK.out
    | 6, _ =>
      obtain ⟨ty, pos, aft, e, hdp⟩ := iop6
      rw [e] at ho
      obtain rfl := Option.some.inj ho
      intro a' hds W K hB lq ld hmem hK
      have e2 : a'.eval (.tmp 2) = .pointer (some ⟨B, 0, none⟩) := by rw [eval_tmp]; exact lq (2, .pointer (some ⟨B, 0, none⟩)) (by simp)
      have HK := Lib.hid (show K (a'.put (some 19) (.agg #[.int .i64 (n : Int), .slice (some ⟨b, off, none⟩) hs.length c])) W from hK W (Below.refl _ _) trivial)
      clear hK ld lq hmem
      have c0 := (hbox.next hB).cell' 0 rfl
      have c1 := (hbox.next hB).cell' 1 rfl
      unfold Oper.wp
      simp only [execOp, e2]
      go_simp
      exact HK.out
    | 7, _ =>
      obtain ⟨ty, pos, aft, e, hdp⟩ := iop7
      rw [e] at ho
      obtain rfl := Option.some.inj ho
      intro a' hds W K hB lq ld hmem hK
      have e1 : a'.eval (.tmp 1) = .func (.func 115) #[] #[.pointer (some ⟨S, 0, none⟩)] := by rw [eval_tmp]; exact lq (1, .func (.func 115) #[] #[.pointer (some ⟨S, 0, none⟩)]) (by simp)
      have HK := Lib.hid (show K (a'.put (some 20) (.func (.func 115) #[] #[.pointer (some ⟨S, 0, none⟩)])) W from hK W (Below.refl _ _) trivial)
      clear hK ld lq hmem
      unfold Oper.wp
      simp only [execOp, e1]
      exact HK.out
    | 8, _ =>
      obtain ⟨ty, pos, aft, e, hdp⟩ := iop8
      rw [e] at ho
      obtain rfl := Option.some.inj ho
      intro a' hds W K hB lq ld hmem hK
      have e5 : a'.eval (.tmp 5) = .int .i64 (k : Int) := by rw [eval_tmp]; exact lq (5, .int .i64 (k : Int)) (by simp)
      have HK := Lib.hid (show K (a'.put (some 21) (.int .i64 (k : Int))) W from hK W (Below.refl _ _) trivial)
      clear hK ld lq hmem
      unfold Oper.wp
      simp only [execOp, e5]
      exact HK.out
    | 9, _ =>
      obtain ⟨ty, pos, aft, e, hdp⟩ := iop9
      rw [e] at ho
      obtain rfl := Option.some.inj ho
      intro a' hds W K hB lq ld hmem hK
      have e20 : a'.eval (.tmp 20) = .func (.func 115) #[] #[.pointer (some ⟨S, 0, none⟩)] := by rw [eval_tmp]; exact ld 7 20 (List.all_eq_true.1 hdp 7 (by decide)) rfl
      have e21 : a'.eval (.tmp 21) = .int .i64 (k : Int) := by rw [eval_tmp]; exact ld 8 21 (List.all_eq_true.1 hdp 8 (by decide)) rfl
      have HK := Lib.hid (show ∀ W', Below W.heap.size W W' → K (a'.put (some 22) (.int .i64 (F k))) W' from fun W' h => hK W' h trivial)
      clear hK ld lq hmem
      refine step_callv (vals := #[.int .i64 (k : Int)]) (first := #[]) (caps := #[.pointer (some ⟨S, 0, none⟩)]) ⟨_, _, Try.func115, by kernel_rfl, rfl⟩ e20 (by simp only [List.map_toArray, List.map_cons, List.map_nil, e21]) (HC W hB) ?_
      rintro e w' ⟨rfl, rfl⟩
      exact ⟨_, rfl, HK.out _ (Below.refl _ _)⟩
    | 10, _ =>
      obtain ⟨ty, pos, aft, e, hdp⟩ := iop10
      rw [e] at ho
      obtain rfl := Option.some.inj ho
      intro a' hds W K hB lq ld hmem hK
      have e19 : a'.eval (.tmp 19) = .agg #[.int .i64 (n : Int), .slice (some ⟨b, off, none⟩) hs.length c] := by rw [eval_tmp]; exact ld 6 19 (List.all_eq_true.1 hdp 6 (by decide)) rfl
      have e22 : a'.eval (.tmp 22) = .int .i64 (F k) := by rw [eval_tmp]; exact ld 9 22 (List.all_eq_true.1 hdp 9 (by decide)) rfl
      have HK := Lib.hid (show ∀ W', Below W.heap.size W W' → K (a'.put (some 23) (.int .i64 (aroundN hs (F k) : Int))) W' from fun W' h => hK W' h trivial)
      clear hK ld lq hmem
      refine step_call (vals := #[.agg #[.int .i64 (n : Int), .slice (some ⟨b, off, none⟩) hs.length c], .int .i64 (F k)]) (by exact ⟨_, _, Try.func175, by kernel_rfl, rfl⟩) (by simp only [List.map_toArray, List.map_cons, List.map_nil, e19, e22]) (tieAround_any n b off c hs (F k) W (hx.below hB hb) (Nat.lt_of_lt_of_le hb hB.size) (by omega) hl hF.1 hF.2) ?_
      rintro e w' ⟨rfl, hb'⟩
      exact ⟨_, rfl, HK.out _ hb'⟩
    | 11, _ =>
      obtain ⟨ty, pos, aft, e, hdp⟩ := iop11
      rw [e] at ho
      obtain rfl := Option.some.inj ho
      intro a' hds W K hB lq ld hmem hK
      have e18 : a'.eval (.tmp 18) = .int .i64 (nthN hs k : Int) := by rw [eval_tmp]; exact ld 5 18 (List.all_eq_true.1 hdp 5 (by decide)) rfl
      have e23 : a'.eval (.tmp 23) = .int .i64 (aroundN hs (F k) : Int) := by rw [eval_tmp]; exact ld 10 23 (List.all_eq_true.1 hdp 10 (by decide)) rfl
      have HK := Lib.hid (show K (a'.put (some 24) (.bool ((nthN hs k : Int) != (aroundN hs (F k) : Int)))) W from hK W (Below.refl _ _) trivial)
      clear hK ld lq hmem
      unfold Oper.wp
      simp only [execOp, e18, e23]
      go_simp
      exact HK.out
    | i + 12, h => omega
  · intro hds v W hO
    have hfin := gend (v 13) (v 14) (v 15) (v 16) (v 17) (v 18) (v 19) (v 20) (v 21) (v 22) (v 23) W hO.b
    rw [← laid_putL _ a v ?_] at hfin
    · exact hfin
    · intro p hp
      simp only [List.mem_cons, List.not_mem_nil, or_false] at hp
      rcases hp with rfl | rfl | rfl | rfl | rfl | rfl | rfl | rfl | rfl | rfl | rfl | rfl
      · rfl
      · rfl
      · rfl
      · rfl
      · rfl
      · rfl
      · rfl
      · rfl
      · rfl
      · rfl
      · rfl
      · exact hO.x 11 (show 11 < 12 by decide) 24 rfl
set_option maxRecDepth 100000 in
set_option maxHeartbeats 1000000 in
theorem isLikeR_any (n b off c S : Nat) (hs : List Nat) (F : Nat → Int) (w : World) (hx : NatsAt w b off hs) (hb : b < w.heap.size) (h0 : 0 < hs.length) (hl : hs.length ≤ 1000) (hF : ∀ k, k < hs.length → 0 ≤ F k + hs.length ∧ F k < 100000)
    (HC : ∀ k W', k < hs.length → Below w.heap.size w W' → Calls Try.prog 115 #[.int .i64 (k : Int), .pointer (some ⟨S, 0, none⟩)] W' fun e w' => e = .returned (.int .i64 (F k)) ∧ W' = w') :
    Calls Try.prog 116 #[.agg #[.int .i64 (n : Int), .slice (some ⟨b, off, none⟩) hs.length c], .func (.func 115) #[] #[.pointer (some ⟨S, 0, none⟩)]] w fun e w' => e = .returned (.bool (likeB hs F)) ∧ Below w.heap.size w w' := by
  obtain ⟨w0, hw0⟩ : ∃ w0, w0 = w.alloc (.cells #[.int .i64 (n : Int), .slice (some ⟨b, off, none⟩) hs.length c] 159) := ⟨_, rfl⟩
  have hb0 : Below w.heap.size w w0 := by rw [hw0]; exact (Below.refl _ _).alloc (Nat.le_refl _) _
  have hB : BoxAt w0 w.heap.size #[.int .i64 (n : Int), .slice (some ⟨b, off, none⟩) hs.length c] 159 := by rw [hw0]; exact BoxAt.new _ _ _
  have b1 := hB.cell' 1 rfl
  have HB := Lib.hid hB
  have Hb0 := Lib.hid hb0
  have HW0 := Lib.hid hw0
  have Hx := Lib.hid hx
  have HCs := Lib.hid HC
  have HFs := Lib.hid hF
  have Hh0 := Lib.hid h0
  clear hb0 hw0 hB hx HC hF h0
  go_enter Try.func116, Try.ntmps116
  go_wp2_with fail
  rw [← HW0.out]
  go_wp2_with fail
  go_loopw [5, 10] (fun _ i wr => ∃ k : Nat, k ≤ hs.length ∧ i = .int .i64 k ∧ Below w.heap.size w wr ∧ BoxAt wr w.heap.size #[.int .i64 (n : Int), .slice (some ⟨b, off, none⟩) hs.length c] 159 ∧ ∀ j, j < k → nthN hs j = aroundN hs (F j)) (fun _ i _ => hs.length - (intOf i).toNat)
  case atStart => exact ⟨0, Nat.zero_le _, rfl, Hb0.out, HB.out, fun j hj => absurd hj (by omega)⟩
  case round =>
    obtain ⟨k, hk, rfl, hbr, hB, hall⟩ := hrel
    clear b1 HB
    have Hbr := Lib.hid hbr
    have HB := Lib.hid hB
    have Hall := Lib.hid hall
    clear hbr hB hall
    by_cases hlt : k < hs.length
    · go_upto_region 4 with fail
      refine region_likeR n b off c k w.heap.size S hs F (Hx.out.below Hbr.out hb) (Nat.lt_of_lt_of_le hb Hbr.out.size) hlt hl (HFs.out k hlt) (fun W h => HCs.out k W hlt (Hbr.out.trans (h.mono Hbr.out.size))) HB.out rfl ?hops (by kernel_rfl) (by kernel_rfl) (by kernel_rfl) (by kernel_rfl) ?hsz ?hout ?hend
      case hops => exact ⟨⟨_, _, _, rfl, by kernel_rfl⟩, ⟨_, _, _, rfl, by kernel_rfl⟩, ⟨_, _, _, rfl, by kernel_rfl⟩, ⟨_, _, _, rfl, by kernel_rfl⟩, ⟨_, _, _, rfl, by kernel_rfl⟩, ⟨_, _, _, rfl, by kernel_rfl⟩, ⟨_, _, _, rfl, by kernel_rfl⟩, ⟨_, _, _, rfl, by kernel_rfl⟩, ⟨_, _, _, rfl, by kernel_rfl⟩, ⟨_, _, _, rfl, by kernel_rfl⟩, ⟨_, _, _, rfl, by kernel_rfl⟩, ⟨_, _, _, rfl, by kernel_rfl⟩⟩
      case hsz => intro d hd; simp only [List.mem_cons, List.not_mem_nil, or_false] at hd; show d < 26; omega
      case hout => exact ⟨rfl, rfl, rfl⟩
      case hend =>
        intro u13 u14 u15 u16 u17 u18 u19 u20 u21 u22 u23 W5 hb5
        simp only [putL, List.foldl, Act.put, List.setIfInBounds_toArray, List.set_cons_succ, List.set_cons_zero]
        have Hbr5 := Lib.hid (Hbr.out.trans (hb5.mono Hbr.out.size))
        have HB5 := Lib.hid (HB.out.next hb5)
        clear hb5 Hbr HB
        by_cases he : nthN hs k = aroundN hs (F k)
        · have hd : ((nthN hs k : Int) != (aroundN hs (F k) : Int)) = false := by rw [he]; exact bne_self_eq_false _
          rw [hd]
          have Hall' := Lib.hid (show ∀ j, j < k + 1 → nthN hs j = aroundN hs (F j) from fun j hj => by
            by_cases hjk : j = k
            · rw [hjk]; exact he
            · exact Hall.out j (by omega))
          clear he hd Hall
          go_wp2_with fail
          go_roundw
          case rel => exact ⟨k + 1, by omega, by go_num, Hbr5.out, HB5.out, Hall'.out⟩
          case measure => simp [intOf]; omega
        · have hd : ((nthN hs k : Int) != (aroundN hs (F k) : Int)) = true := by rw [bne_iff_ne]; omega
          rw [hd]
          have HL := Lib.hid (likeB_no hlt he)
          clear he hd Hall
          go_wp2_with fail
          go_ret
          exact ⟨by rw [HL.out]; rfl, Hbr5.out⟩
    · have HL := Lib.hid (likeB_yes (hs := hs) (F := F) fun j hj => Hall.out j (by omega))
      clear Hall
      go_wp2_with fail
      go_ret
      exact ⟨by rw [HL.out]; rfl, Hbr.out⟩
end Go.Proofs.Ytdmgffoikebgkaa
/- Harness ties: Mirrors, Repeat and Beside. -/
namespace Go.Proofs.Ytdmgffoikebgkaa
open Go.RowKit Go.Shelf
attribute [local go_sem] Oper.semAt_some

theorem repCl_any (S s k : Nat) (w : World) (hc : w.cell? ⟨S, 0, none⟩ = some (.int .i64 (s : Int))) (hs : s ≤ 1000) (hk : k ≤ 1000) :
    Calls Try.prog 115 #[.int .i64 (k : Int), .pointer (some ⟨S, 0, none⟩)] w fun e w' => e = .returned (.int .i64 ((k : Int) + (s : Int))) ∧ w = w' := by
  go_enter Try.func115, Try.ntmps115
  go_wp2
  go_ret
  exact ⟨rfl, rfl⟩
def repAt (hs : List Nat) (p : Nat) : Bool := hs.length % p == 0 && likeB hs fun k => (k : Int) + (p : Int)
/-- the number in a box -/
def partIn (W : World) (v : Value) : Nat := match v with
  | .pointer (some a) => match W.cell? a with
    | some (.int _ z) => z.toNat
    | _ => 0
  | _ => 0
theorem partIn_box {W : World} {B k : Nat} (h : BoxAt W B #[.int .i64 (k : Int)] 3) : partIn W (.pointer (some ⟨B, 0, none⟩)) = k := by
  simp [partIn, h.cell' 0 rfl]
/-- what Repeat returns -/
def RepR (hs : List Nat) (e : Ending) : Prop := ∃ p, 1 ≤ p ∧ p ≤ hs.length ∧ (p = hs.length ∨ repAt hs p = true) ∧ (∀ j, 1 ≤ j → j < p → repAt hs j = false) ∧ e = .returned (.tuple #[.int .i64 (p : Int), .int .i64 0])
set_option maxRecDepth 100000 in
set_option maxHeartbeats 1000000 in
theorem Repeat_ok (n b off c : Nat) (hs : List Nat) (w : World) (hv : TAt w b off n hs) :
    Calls Try.prog 31 #[.agg #[.int .i64 (n : Int), .slice (some ⟨b, off, none⟩) hs.length c]] w fun e w' => RepR hs e ∧ Below w.heap.size w w' := by
  have l1 := hv.l1
  have l0 := hv.l0
  obtain ⟨w0, hw0⟩ : ∃ w0, w0 = w.alloc (.cells #[.int .i64 (n : Int), .slice (some ⟨b, off, none⟩) hs.length c] 26) := ⟨_, rfl⟩
  have hH := HBox.new w n b off c hs
  rw [← hw0] at hH
  have HC := Lib.hid (tieCheck_ok n b off c hs w0 (hv.next hH.bel))
  have b0 := hH.box.cell' 0 rfl
  have b1 := hH.box.cell' 1 rfl
  have HH := Lib.hid hH
  have HW0 := Lib.hid hw0
  have HV := Lib.hid hv
  clear hH hw0 hv
  go_enter Try.func31, Try.ntmps31
  go_wp2_with fail
  rw [← HW0.out]
  refine HC.out.mono ?_
  rintro e w1 ⟨rfl, hb1⟩
  have hH1 := HH.out.next hb1
  have HH1 := Lib.hid hH1
  clear hb1 HH HC b0 b1 HW0 hH1
  go_wp2_with fail
  go_loopw [5, 6] (fun v _ wr => ∃ k B : Nat, 1 ≤ k ∧ k ≤ hs.length ∧ v = .pointer (some ⟨B, 0, none⟩) ∧ w.heap.size < B ∧ BoxAt wr B #[.int .i64 (k : Int)] 3 ∧ HBox w n b off c hs wr ∧ ∀ j, 1 ≤ j → j < k → repAt hs j = false) (fun v _ wr => hs.length - partIn wr v)
  case atStart =>
    refine ⟨1, w1.heap.size, Nat.le_refl _, l0, rfl, ?_, BoxAt.new _ _ _, HH1.out.next ((Below.refl _ _).alloc (Nat.le_refl _) _), fun j h1 h2 => absurd h1 (by omega)⟩
    exact HH1.out.box.lt
  case round =>
    obtain ⟨k, B, hk1, hk, rfl, hBl, hB, hH, hall⟩ := hrel
    clear HH1
    have b0 := hH.box.cell' 0 rfl
    have b1 := hH.box.cell' 1 rfl
    have p0 := hB.cell' 0 rfl
    have hzz : w.heap.size < wr.heap.size := hH.box.lt
    have hzB : B < wr.heap.size := hB.lt
    have HP := Lib.hid (partIn_box hB)
    have HH := Lib.hid hH
    have HB := Lib.hid hB
    have Hall := Lib.hid hall
    by_cases hlt : k < hs.length
    · have hk0 : ¬ (k : Int) = 0 := by omega
      have hk0' : ¬ k = 0 := by omega
      have hmod : ((hs.length : Int)) % (k : Int) = ((hs.length % k : Nat) : Int) := (Int.natCast_emod _ _).symm
      have Hnext := fun (hf : repAt hs k = false) => Lib.hid (show ∀ j, 1 ≤ j → j < k + 1 → repAt hs j = false from fun j h1 hj => by
          by_cases hjk : j = k
          · rw [hjk]; exact hf
          · exact Hall.out j h1 (by omega))
      by_cases hm0 : hs.length % k = 0
      · have HL := Lib.hid (isLikeR_any n b off c B hs (fun j => (j : Int) + (k : Int)) wr (HV.out.next hH.bel).at' (HV.out.next hH.bel).lt l0 (by omega) (fun j hj => by omega)
          (fun j W' hj hb => (repCl_any B k j W' ((hB.next hb).cell' 0 rfl) (by omega) (by omega)).mono fun e w' ⟨h1, h2⟩ => ⟨h1, h2⟩))
        have hz0 : (((hs.length : Int) % (k : Int)) == 0) = true := by rw [hmod, hm0]; rfl
        clear hmod
        have Hm0 := Lib.hid hm0
        clear hH hall hB hm0
        go_wp2_with fail
        refine HL.out.mono ?_
        rintro e W3 ⟨rfl, hb3⟩
        have hH3 := HH.out.next hb3
        have hB3 := HB.out.next hb3
        have s0 := hB3.cell' 0 rfl
        have hzz3 : w.heap.size < W3.heap.size := hH3.box.lt
        have hzB3 : B < W3.heap.size := hB3.lt
        have HH3 := Lib.hid hH3
        have HB3 := Lib.hid hB3
        clear hb3 HL b0 b1 p0 hH3 hB3 HH HB hz0
        cases hm : likeB hs (fun j => (j : Int) + (k : Int)) with
        | true =>
          have HR := Lib.hid (show RepR hs (.returned (.tuple #[.int .i64 (k : Int), .int .i64 0])) from ⟨k, hk1, hk, .inr (by unfold repAt; rw [hm, Hm0.out]; rfl), Hall.out, rfl⟩)
          clear hm Hnext
          go_wp2_with fail
          go_ret2
          exact ⟨HR.out, HH3.out.bel⟩
        | false =>
          have Hall' := Hnext (by unfold repAt; rw [hm, Bool.and_false])
          clear hm Hall Hnext
          go_wp2_with fail
          go_roundw
          case rel => exact ⟨k + 1, W3.heap.size, by omega, by omega, rfl, by omega, BoxAt.new _ _ _, HH3.out.next ((Below.refl _ _).alloc (Nat.le_refl _) _), Hall'.out⟩
          case measure =>
            rw [HP.out, show ((k : Int) + 1) = ((k + 1 : Nat) : Int) by omega, partIn_box (BoxAt.new _ _ _)]
            omega
      · have hz0 : (((hs.length : Int) % (k : Int)) == 0) = false := by rw [hmod, beq_eq_false_iff_ne]; omega
        clear hmod
        have Hall' := Hnext (by unfold repAt; rw [show (hs.length % k == 0) = false by rw [beq_eq_false_iff_ne]; exact hm0, Bool.false_and])
        clear hH hall hB hm0 Hnext Hall
        go_wp2_with fail
        go_roundw
        case rel => exact ⟨k + 1, wr.heap.size, by omega, by omega, rfl, by omega, BoxAt.new _ _ _, HH.out.next ((Below.refl _ _).alloc (Nat.le_refl _) _), Hall'.out⟩
        case measure =>
          rw [HP.out, show ((k : Int) + 1) = ((k + 1 : Nat) : Int) by omega, partIn_box (BoxAt.new _ _ _)]
          omega
    · have HR := Lib.hid (show RepR hs (.returned (.tuple #[.int .i64 (hs.length : Int), .int .i64 0])) from ⟨hs.length, by omega, Nat.le_refl _, .inl rfl, fun j h1 hj => hall j h1 (by omega), rfl⟩)
      clear hall hH Hall hB
      go_wp2_with fail
      go_ret2
      exact ⟨HR.out, HH.out.bel⟩
/-- a whole row appended to a row of one's own -/
theorem app_rows {t e size bytes : Nat} (E : ElemT t e size bytes) {ops : Array Oper} {rest : List Oper} {o : Oper} {a : Act} {Q : Exit → Act → World → Prop} {W : World} (hgd : o.guard = none) (s x : Operand)
    (ho : o.op = .call { callee := .builtin .append, args := #[s, x], argTypes := #[t, t] }) (base : Nat) (v : Value) (n : Nat) (xs : List Value) (hs : a.eval s = v) (hown : W.ownsRow base e size v n xs)
    (ad : Addr) (m c : Nat) (news : List Value) (hx : a.eval x = .slice (some ad) m c) (hl : news.length = m * size) (h1 : ∀ u ∈ news, u.oneCell' = true) (hm : 0 < m) (hlen : n + m ≤ 1000000) (hby : bytes ≤ 1000)
    (hnews : ∀ j u, news[j]? = some u → W.cell? (ad.add j) = some u) (hbase : base ≤ W.heap.size)
    (h : ∀ g cap W', W'.ownsRow base e size (.slice (some ⟨g, 0, none⟩) (n + m) cap) (n + m) (xs ++ news) → W.grownBy W' v.ownBlock → wpList Try.prog ops Q rest (a.put o.dst (.slice (some ⟨g, 0, none⟩) (n + m) cap)) W') :
    wpList Try.prog ops Q (o :: rest) a W := by
  obtain ⟨i, z, hu, hi, hz0, hz1, hz2, hz3, hz4⟩ := E.ex
  refine wpList_append_lies _ hgd s x t ho base e i z size bytes hu hi hz0 hz1 hz2 hz3 hz4 v n xs hs hown ad m c news hx hl hnews h1 hm (by unfold maxLen; omega) ?_ hbase W.heap.size rfl ?_
  · exact Nat.le_trans (Nat.mul_le_mul (show n + m ≤ 1000000 by omega) hby) (by decide)
  · intro g cap w' hr hg _ _
    exact h g cap w' hr hg
end Go.Proofs.Ytdmgffoikebgkaa
/- A pick of a cloth: its bytes as the points of a ring; alike, float, length. -/
namespace Go.Proofs.Ytdmgffoikebgkaa
open Go.RowKit Go.Shelf
attribute [local go_sem] Oper.semAt_some

end Go.Proofs.Ytdmgffoikebgkaa
/- A pick of a cloth: its floats, as an iterator. -/
namespace Go.Proofs.Ytdmgffoikebgkaa
open Go.RowKit Go.Shelf
attribute [local go_sem] Oper.semAt_some

end Go.Proofs.Ytdmgffoikebgkaa
/- Harness ties: the floats of a cloth. -/
namespace Go.Proofs.Ytdmgffoikebgkaa
open Go.RowKit Go.Shelf
attribute [local go_sem] Oper.semAt_some

end Go.Proofs.Ytdmgffoikebgkaa
/- Chapter 3: any harness: its error, a copy of it, harnesses compared. -/
namespace Go.Proofs.Ytdmgffoikebgkaa
open Go.RowKit Go.Shelf
attribute [local go_sem] Oper.semAt_some

def frB (lo hi : Int) (xs : List Int) : Bool := xs.all fun x => decide (lo ≤ x) && decide (x ≤ hi)
theorem frB_step (lo hi : Int) (xs : List Int) (k : Nat) (h : k < xs.length) (hr : frB lo hi (xs.take k) = true) (h0 : lo ≤ nthI xs k) (h1 : nthI xs k ≤ hi) : frB lo hi (xs.take (k + 1)) = true := by
  unfold frB at *
  rw [takeI_succ xs k h, List.all_append, hr]
  simp [h0, h1]
theorem frB_false (lo hi : Int) (xs : List Int) (k : Nat) (h : k < xs.length) (hb : nthI xs k < lo ∨ hi < nthI xs k) : frB lo hi xs = false := by
  unfold frB
  rw [List.all_eq_false]
  refine ⟨nthI xs k, nthI_mem xs k h, ?_⟩
  simp
  omega
set_option maxHeartbeats 1000000 in
theorem areFrom_any (lo hi : Int) (b off c : Nat) (xs : List Int) (w : World) (hl : xs.length ≤ 1000) (hx : IntsAt w b off xs) :
    Calls Try.prog 111 #[.int .i64 lo, .int .i64 hi, .slice (some ⟨b, off, none⟩) xs.length c] w fun e w' => e = .returned (.bool (frB lo hi xs)) ∧ w = w' := by
  go_enter Try.func111, Try.ntmps111
  go_wp2
  go_loop [8, 11] (fun _ i => ∃ k : Nat, k ≤ xs.length ∧ i = .int .i64 k ∧ frB lo hi (xs.take k) = true) (fun _ i => xs.length - (intOf i).toNat)
  case atStart => exact ⟨0, Nat.zero_le _, rfl, by simp [frB]⟩
  case round =>
    obtain ⟨k, hk, rfl, hr⟩ := hrel
    have Hr := Lib.hid hr; clear hr
    by_cases hlt : k < xs.length
    · have hc := hx k hlt
      by_cases h1 : nthI xs k < lo
      · have d1 : decide (nthI xs k < lo) = true := decide_eq_true h1
        have Hf := Lib.hid (frB_false lo hi xs k hlt (.inl h1))
        clear h1
        go_wp2
        go_ret
        exact ⟨ret_bool Hf.out.symm, rfl⟩
      · have d1 : decide (nthI xs k < lo) = false := decide_eq_false h1
        by_cases h2 : hi < nthI xs k
        · have d2 : decide (hi < nthI xs k) = true := decide_eq_true h2
          have Hf := Lib.hid (frB_false lo hi xs k hlt (.inr h2))
          clear h1 h2
          go_wp2
          go_ret
          exact ⟨ret_bool Hf.out.symm, rfl⟩
        · have d2 : decide (hi < nthI xs k) = false := decide_eq_false h2
          have Hs := Lib.hid (frB_step lo hi xs k hlt Hr.out (by omega) (by omega))
          clear h1 h2
          go_wp2
          all_goals go_round
          case rel => exact ⟨k + 1, by omega, by go_num, Hs.out⟩
          case measure => simp [intOf]; omega
    · go_wp2
      go_ret
      exact ⟨ret_bool (by rw [← Hr.out, take_end xs k hk hlt]), rfl⟩
/-- the error of a harness -/
def chkT (h : Int) (xs : List Int) : Int :=
  if h < 1 ∨ 24 < h then 2 else if 96 < xs.length then 5 else if xs.length = 0 then 7 else if frB 0 (h - 1) xs then 0 else 2
theorem frB_one (x : Int) : frB 1 24 [x] = (decide (1 ≤ x) && decide (x ≤ 24)) := by simp [frB]
set_option maxHeartbeats 1000000 in
theorem tieCheck_any (h : Int) (v : Value) (xs : List Int) (w : World) (hv : Reads w v xs) :
    Calls Try.prog 29 #[.agg #[.int .i64 h, v]] w fun e w' => e = .returned (.int .i64 (chkT h xs)) ∧ Below w.heap.size w w' := by
  obtain ⟨p, c, rfl, hl, hx⟩ := hv
  have hbb : Below w.heap.size w ((w.alloc (.cells #[.int .i64 h, .slice p xs.length c] 26)).alloc (.cells #[.int .i64 h] 3)) := ((Below.refl _ _).alloc (Nat.le_refl _) _).alloc (by simp) _
  have h1x : BoxAt ((w.alloc (.cells #[.int .i64 h, .slice p xs.length c] 26)).alloc (.cells #[.int .i64 h] 3)) (w.heap.size + 1) #[.int .i64 h] 3 := by
    have := BoxAt.new (w.alloc (.cells #[.int .i64 h, .slice p xs.length c] 26)) #[.int .i64 h] 3
    rwa [World.size_alloc] at this
  have HA := areFrom_any 1 24 (w.heap.size + 1) 0 1 [h] _ (by simp) (fun i hi => by
    obtain rfl : i = 0 := by simpa using hi
    exact h1x.cell' 0 rfl)
  rw [frB_one] at HA
  have Hbb := Lib.hid hbb
  have HA' := Lib.hid HA
  clear h1x HA hbb
  by_cases h1 : h < 1 ∨ 24 < h
  · have He := Lib.hid (show chkT h xs = 2 by simp [chkT, h1])
    have hdd : (decide (1 ≤ h) && decide (h ≤ 24)) = false := by
      rcases h1 with h1 | h1
      · rw [decide_eq_false (by omega)]; rfl
      · rw [show decide (h ≤ 24) = false from decide_eq_false (by omega), Bool.and_false]
    rw [hdd] at HA'
    clear h1 hdd hx
    go_enter Try.func29, Try.ntmps29
    go_wp2_with fail
    refine HA'.out.mono ?_
    rintro e w' ⟨rfl, rfl⟩
    go_wp2_with fail
    go_ret
    exact ⟨ret_int He.out.symm, Hbb.out⟩
  · have hdd : (decide (1 ≤ h) && decide (h ≤ 24)) = true := by
      rw [decide_eq_true (by omega), decide_eq_true (by omega)]; rfl
    rw [hdd] at HA'
    by_cases h2 : 96 < xs.length
    · have He := Lib.hid (show chkT h xs = 5 by rw [chkT, if_neg h1, if_pos h2])
      have hd2 : decide ((96 : Int) < (xs.length : Int)) = true := decide_eq_true (by omega)
      have hd3 : decide (96 < xs.length) = true := decide_eq_true h2
      clear h1 hdd hx
      go_enter Try.func29, Try.ntmps29
      go_wp2_with fail
      refine HA'.out.mono ?_
      rintro e w' ⟨rfl, rfl⟩
      go_wp2_with fail
      go_ret
      exact ⟨ret_int He.out.symm, Hbb.out⟩
    · by_cases h3 : xs.length = 0
      · have He := Lib.hid (show chkT h xs = 7 by rw [chkT, if_neg h1, if_neg h2, if_pos h3])
        obtain rfl : xs = [] := List.eq_nil_of_length_eq_zero h3
        clear h1 h2 h3 hdd hx hl
        go_enter Try.func29, Try.ntmps29
        go_wp2_with fail
        refine HA'.out.mono ?_
        rintro e w' ⟨rfl, rfl⟩
        go_wp2_with fail
        go_ret
        exact ⟨ret_int He.out.symm, Hbb.out⟩
      · obtain ⟨b, off, rfl, hb, hx⟩ := hx (by omega)
        have He := Lib.hid (show chkT h xs = if frB 0 (h - 1) xs then 0 else 2 by rw [chkT, if_neg h1, if_neg h2, if_neg h3])
        have H2 := Lib.hid (areFrom_any 0 (h - 1) b off c xs _ (by omega) (hx.below Hbb.out hb))
        have hl2 : xs.length ≤ 96 := by omega
        have hl3 : 0 < xs.length := by omega
        have hw1 : IntKind.i64.wrap (h - 1) = h - 1 := IntWalk.i64_in _ (by omega)
        obtain ⟨L, hL⟩ : ∃ L, xs.length = L := ⟨_, rfl⟩
        rw [hL] at H2 hl2 hl3 HA' Hbb ⊢
        have hd3 : ((L : Int) == 0) = false := by simp; omega
        clear h2 h3 hdd hx hl hL
        have h1' : 1 ≤ h ∧ h ≤ 24 := by omega
        clear h1
        cases hr : frB 0 (h - 1) xs
        all_goals
          rw [hr] at H2 He
          clear hr
          go_enter Try.func29, Try.ntmps29
          go_wp2_with fail
          refine HA'.out.mono ?_
          rintro e w' ⟨rfl, rfl⟩
          go_wp2_with fail
          refine H2.out.mono ?_
          rintro e w' ⟨rfl, rfl⟩
          go_wp2_with fail
          go_ret
          exact ⟨ret_int (by rw [He.out]; rfl), Hbb.out⟩
end Go.Proofs.Ytdmgffoikebgkaa
/- Chapter 3: any harness: the reference's error, a copy of it, harnesses compared, one that is too large. -/
namespace Go.Proofs.Ytdmgffoikebgkaa
open Go.RowKit Go.Shelf
attribute [local go_sem] Oper.semAt_some

theorem Reads.next {w w' : World} {v : Value} {xs : List Int} (h : Reads w v xs) (hb : Below w.heap.size w w') : Reads w' v xs := by
  obtain ⟨p, c, rfl, hl, hx⟩ := h
  refine ⟨p, c, rfl, hl, fun h0 => ?_⟩
  obtain ⟨b, off, rfl, h1, h2⟩ := hx h0
  exact ⟨b, off, rfl, Nat.lt_of_lt_of_le h1 hb.size, h2.below hb h1⟩
theorem refIn3_any (n lo hi : Int) (w : World) : Calls Try.prog 44 #[.int .i64 n, .int .i64 lo, .int .i64 hi] w fun e w' => e = .returned (.bool (decide (lo ≤ n) && decide (n ≤ hi))) ∧ w' = w := by
  by_cases h1 : lo ≤ n
  · have d1 : decide (lo ≤ n) = true := decide_eq_true h1
    by_cases h2 : n ≤ hi
    · have d2 : decide (n ≤ hi) = true := decide_eq_true h2
      have Hd := Lib.hid (And.intro d1 d2)
      clear h1 h2
      go_enter Try.func44, Try.ntmps44
      go_wp2_with fail
      go_ret
      exact ⟨ret_bool (by rw [Hd.out.1, Hd.out.2]; rfl), rfl⟩
    · have d2 : decide (n ≤ hi) = false := decide_eq_false h2
      have Hd := Lib.hid (And.intro d1 d2)
      clear h1 h2
      go_enter Try.func44, Try.ntmps44
      go_wp2_with fail
      go_ret
      exact ⟨ret_bool (by rw [Hd.out.1, Hd.out.2]; rfl), rfl⟩
  · have d1 : decide (lo ≤ n) = false := decide_eq_false h1
    have Hd := Lib.hid d1
    clear h1
    go_enter Try.func44, Try.ntmps44
    go_wp2_with fail
    go_ret
    exact ⟨ret_bool (by rw [Hd.out]; rfl), rfl⟩
set_option maxHeartbeats 1000000 in
theorem refCheck3_any (h : Int) (v : Value) (xs : List Int) (w : World) (hv : Reads w v xs) :
    Calls Try.prog 33 #[.agg #[.int .i64 h, v]] w fun e w' => e = .returned (.int .i64 (chkT h xs)) ∧ Below w.heap.size w w' := by
  obtain ⟨p, c, rfl, hl, hx⟩ := hv
  have hbb : Below w.heap.size w (w.alloc (.cells #[.int .i64 h, .slice p xs.length c] 26)) := (Below.refl _ _).alloc (Nat.le_refl _) _
  have hbx : BoxAt (w.alloc (.cells #[.int .i64 h, .slice p xs.length c] 26)) w.heap.size #[.int .i64 h, .slice p xs.length c] 26 := BoxAt.new _ _ _
  have HA := Lib.hid (refIn3_any h 1 24 (w.alloc (.cells #[.int .i64 h, .slice p xs.length c] 26)))
  have Hbb := Lib.hid hbb
  have HB := Lib.hid hbx
  clear hbb hbx
  by_cases h1 : h < 1 ∨ 24 < h
  · have He := Lib.hid (show chkT h xs = 2 by simp [chkT, h1])
    have hdd : (decide (1 ≤ h) && decide (h ≤ 24)) = false := by
      rcases h1 with h1 | h1
      · rw [decide_eq_false (by omega)]; rfl
      · rw [show decide (h ≤ 24) = false from decide_eq_false (by omega), Bool.and_false]
    rw [hdd] at HA
    clear h1 hdd hx
    go_enter Try.func33, Try.ntmps33
    go_wp2_with fail
    refine HA.out.mono ?_
    rintro e w' ⟨rfl, rfl⟩
    go_wp2_with fail
    go_ret
    exact ⟨ret_int He.out.symm, Hbb.out⟩
  · have hdd : (decide (1 ≤ h) && decide (h ≤ 24)) = true := by
      rw [decide_eq_true (by omega), decide_eq_true (by omega)]; rfl
    rw [hdd] at HA
    by_cases h2 : 96 < xs.length
    · have He := Lib.hid (show chkT h xs = 5 by rw [chkT, if_neg h1, if_pos h2])
      have hd2 : decide ((96 : Int) < (xs.length : Int)) = true := decide_eq_true (by omega)
      have hd3 : decide (96 < xs.length) = true := decide_eq_true h2
      clear h1 hdd hx
      go_enter Try.func33, Try.ntmps33
      go_wp2_with fail
      refine HA.out.mono ?_
      rintro e w' ⟨rfl, rfl⟩
      go_wp2_with fail
      go_ret
      exact ⟨ret_int He.out.symm, Hbb.out⟩
    · by_cases h3 : xs.length = 0
      · have He := Lib.hid (show chkT h xs = 7 by rw [chkT, if_neg h1, if_neg h2, if_pos h3])
        obtain rfl : xs = [] := List.eq_nil_of_length_eq_zero h3
        clear h1 h2 h3 hdd hx hl
        go_enter Try.func33, Try.ntmps33
        go_wp2_with fail
        refine HA.out.mono ?_
        rintro e w' ⟨rfl, rfl⟩
        go_wp2_with fail
        go_ret
        exact ⟨ret_int He.out.symm, Hbb.out⟩
      · obtain ⟨b, off, rfl, hb, hx⟩ := hx (by omega)
        have He := Lib.hid (show chkT h xs = if frB 0 (h - 1) xs then 0 else 2 by rw [chkT, if_neg h1, if_neg h2, if_neg h3])
        have HX := Lib.hid (hx.below Hbb.out hb)
        have hl2 : xs.length ≤ 96 := by omega
        have hl3 : 0 < xs.length := by omega
        have hw1 : IntKind.i64.wrap (h - 1) = h - 1 := IntWalk.i64_in _ (by omega)
        obtain ⟨L, hL⟩ : ∃ L, xs.length = L := ⟨_, rfl⟩
        rw [hL] at hl2 hl3 HA Hbb HB HX ⊢
        have hd3 : ((L : Int) == 0) = false := by simp; omega
        have HL := Lib.hid hL
        clear h2 h3 hdd hx hl hL
        have h1' : 1 ≤ h ∧ h ≤ 24 := by omega
        clear h1
        obtain ⟨W0, hW0⟩ : ∃ W0, W0 = w.alloc (.cells #[.int .i64 h, .slice (some ⟨b, off, none⟩) L c] 26) := ⟨_, rfl⟩
        rw [← hW0] at HA HB HX Hbb
        have HW0 := Lib.hid hW0
        clear hW0
        go_enter Try.func33, Try.ntmps33
        go_upto_region 1 with fail
        rw [← HW0.out]
        have b0 := HB.out.cell' 0 rfl
        have b1 := HB.out.cell' 1 rfl
        go_wp2_with fail
        refine HA.out.mono ?_
        rintro e w' ⟨rfl, rfl⟩
        clear b0
        go_wp2_with fail
        go_loopw [3] (fun i wr => ∃ k : Nat, k ≤ L ∧ i = .int .i64 (k : Int) ∧ frB 0 (h - 1) (xs.take k) = true ∧ Below w.heap.size w wr ∧ BoxAt wr w.heap.size #[.int .i64 h, .slice (some ⟨b, off, none⟩) L c] 26 ∧ IntsAt wr b off xs) (fun i _ => L - (intOf i).toNat)
        case atStart => exact ⟨0, Nat.zero_le _, rfl, by simp [frB], Hbb.out, HB.out, HX.out⟩
        case round =>
          obtain ⟨k, hk, rfl, hr, hbw, hbx, hix⟩ := hrel
          have b0 := hbx.cell' 0 rfl
          have b1 := hbx.cell' 1 rfl
          have Hr := Lib.hid hr
          have Hm := Lib.hid (And.intro hbw (And.intro hbx hix))
          clear hr hbw hbx hix HX HB Hbb HA
          by_cases hlt : k < L
          · have hcx := Hm.out.2.2 k (by rw [HL.out]; exact hlt)
            by_cases hin : 0 ≤ nthI xs k ∧ nthI xs k ≤ h - 1
            · have Hs := Lib.hid (frB_step 0 (h - 1) xs k (by rw [HL.out]; exact hlt) Hr.out hin.1 hin.2)
              obtain ⟨x, hx⟩ : ∃ x, nthI xs k = x := ⟨_, rfl⟩
              rw [hx] at hcx hin
              have hI := fun W => refIn3_any x 0 (h - 1) W
              rw [decide_eq_true hin.1, decide_eq_true hin.2] at hI
              have HI := Lib.hid hI
              clear hx hin hI
              go_upto_region 10 with fail
              go_quiet (exact Calls.quiet_of_same (HI.out _))
              all_goals go_wp2_with fail
              all_goals exact ⟨⟨k + 1, by omega, by go_num, Hs.out, Hm.out.1.trans ((below_drewN _ _ _).mono Hm.out.1.size), Hm.out.2.1.next (below_drewN _ _ _), Hm.out.2.2⟩, by simp [intOf]; omega⟩
            · have Hf := Lib.hid (frB_false 0 (h - 1) xs k (by rw [HL.out]; exact hlt) (by omega))
              obtain ⟨x, hx⟩ : ∃ x, nthI xs k = x := ⟨_, rfl⟩
              rw [hx] at hcx hin
              have hI := fun W => refIn3_any x 0 (h - 1) W
              have hd : (decide (0 ≤ x) && decide (x ≤ h - 1)) = false := by
                by_cases c : 0 ≤ x
                · rw [show decide (x ≤ h - 1) = false from decide_eq_false (by omega), Bool.and_false]
                · rw [show decide (0 ≤ x) = false from decide_eq_false c]; rfl
              rw [hd] at hI
              have HI := Lib.hid hI
              clear hx hin hI hd
              go_upto_region 10 with fail
              go_quiet (exact Calls.quiet_of_same (HI.out _))
              all_goals go_wp2_with fail
              all_goals go_ret
              all_goals exact ⟨ret_int (by rw [He.out, Hf.out]; rfl), Hm.out.1.trans ((below_drewN _ _ _).mono Hm.out.1.size)⟩
          · have hke : k = L := by omega
            have Hf := Lib.hid (show frB 0 (h - 1) xs = true from by rw [← Hr.out, hke, ← HL.out, List.take_length])
            have hkd : decide ((k : Int) < (L : Int)) = false := decide_eq_false (by omega)
            clear hke
            go_wp2_with fail
            go_ret
            exact ⟨ret_int (by rw [He.out, Hf.out]; rfl), Hm.out.1⟩
end Go.Proofs.Ytdmgffoikebgkaa
/- Chapter 3: a copy of any harness; harnesses compared. -/
namespace Go.Proofs.Ytdmgffoikebgkaa
open Go.RowKit Go.Shelf
attribute [local go_sem] Oper.semAt_some

theorem ints_news {W : World} {b off : Nat} {xs : List Int} (h : IntsAt W b off xs) : ∀ j u, (xs.map intV)[j]? = some u → W.cell? ((⟨b, off, none⟩ : Addr).add j) = some u := by
  intro j u hj
  simp only [List.getElem?_map, Option.map_eq_some_iff] at hj
  obtain ⟨x, hx, rfl⟩ := hj
  have hjl : j < xs.length := (List.getElem?_eq_some_iff.1 hx).1
  have := h j hjl
  rw [nthI, hx] at this
  rw [show (⟨b, off, none⟩ : Addr).add j = ⟨b, off + j, none⟩ by unfold Addr.add; split <;> simp_all]
  exact this
set_option maxHeartbeats 2000000 in
theorem tieOwnI_ok (h : Int) (b off c : Nat) (xs : List Int) (w : World) (h0 : 0 < xs.length) (hl : xs.length ≤ 1000) (hx : IntsAt w b off xs) (hgl : b < w.heap.size) :
    Calls Try.prog 28 #[.agg #[.int .i64 h, .slice (some ⟨b, off, none⟩) xs.length c]] w fun e w' =>
      ∃ g' cap, e = .returned (.agg #[.int .i64 h, .slice (some ⟨g', 0, none⟩) xs.length cap]) ∧ w'.ownsRow (w.heap.size + 2) 3 1 (.slice (some ⟨g', 0, none⟩) xs.length cap) xs.length (xs.map intV) ∧ Below w.heap.size w w' := by
  have hbb : Below w.heap.size w ((w.alloc (.cells #[.int .i64 h, .slice (some ⟨b, off, none⟩) xs.length c] 26)).alloc (.cells #[.int .i64 0, .slice none 0 0] 26)) := ((Below.refl _ _).alloc (Nat.le_refl _) _).alloc (by simp) _
  have ho1 : BoxAt ((w.alloc (.cells #[.int .i64 h, .slice (some ⟨b, off, none⟩) xs.length c] 26)).alloc (.cells #[.int .i64 0, .slice none 0 0] 26)) w.heap.size #[.int .i64 h, .slice (some ⟨b, off, none⟩) xs.length c] 26 := (BoxAt.new _ _ _).next ((Below.refl _ _).alloc (Nat.le_refl _) _)
  have ho2 : BoxAt ((w.alloc (.cells #[.int .i64 h, .slice (some ⟨b, off, none⟩) xs.length c] 26)).alloc (.cells #[.int .i64 0, .slice none 0 0] 26)) (w.heap.size + 1) #[.int .i64 0, .slice none 0 0] 26 := by
    have := BoxAt.new (w.alloc (.cells #[.int .i64 h, .slice (some ⟨b, off, none⟩) xs.length c] 26)) #[.int .i64 0, .slice none 0 0] 26
    rwa [World.size_alloc] at this
  obtain ⟨W0, hW0⟩ : ∃ W0, W0 = (w.alloc (.cells #[.int .i64 h, .slice (some ⟨b, off, none⟩) xs.length c] 26)).alloc (.cells #[.int .i64 0, .slice none 0 0] 26) := ⟨_, rfl⟩
  have HW0 := Lib.hid hW0
  have hs0 : W0.heap.size = w.heap.size + 2 := by rw [hW0]; simp
  rw [← hW0] at ho1 ho2 hbb
  have Hs0 := Lib.hid hs0
  have HX := Lib.hid ((hx.below hbb hgl).below ((Below.refl _ _).alloc (Nat.le_refl _) (.cells #[] 3)) (show b < W0.heap.size by omega))
  have HO1 := Lib.hid ho1
  have HO2 := Lib.hid ho2
  have Hbb := Lib.hid hbb
  have k0 := ho1.cell' (v := .int .i64 h) 0 rfl
  have k1 := ho1.cell' (v := .slice (some ⟨b, off, none⟩) xs.length c) 1 rfl
  have z1 : w.heap.size < W0.heap.size := by omega
  have z2 : w.heap.size + 1 < W0.heap.size := by omega
  clear ho1 ho2 hbb hx hW0 hs0
  go_enter Try.func28, Try.ntmps28
  go_wp2
  rw [← HW0.out]
  go_region_law
    ((refine step_copy elemInt (by rfl) _ _ (by rfl) (by rfl) ⟨b, off, none⟩ xs.length c (xs.map intV) (by rfl) (by simp) (by simp [intV, Value.oneCell']) h0 (by omega) (by decide) (ints_news HX.out) ?_; intro g5 cap w5 hr hb5)
     have hb2 := HO2.out.next hb5
     have c0 : w5.cell? ⟨w.heap.size + 1, 0, none⟩ = some (.int .i64 0) := hb2.cell' 0 rfl
     have c1 : w5.cell? ⟨w.heap.size + 1, 1, none⟩ = some (.slice none 0 0) := hb2.cell' 1 rfl
     have f0 := hb2.frozen 0
     have f1 := hb2.frozen 1
     have hb1 := HO1.out.next hb5
     have k0 := hb1.cell' (v := .int .i64 h) 0 rfl
     have k1 := hb1.cell' (v := .slice (some ⟨b, off, none⟩) xs.length c) 1 rfl
     have Hb2 := Lib.hid hb2
     have Hr := Lib.hid hr
     have Hb5 := Lib.hid hb5
     clear hb2 hb1 hr hb5)
  all_goals go_wp2
  all_goals refine bodyPost_ret (v := .agg #[.int .i64 h, .slice (some ⟨g5, 0, none⟩) xs.length cap]) ?_ rfl ⟨g5, cap, rfl, ?_, ?_⟩
  all_goals first
    | (have hb3 := (Hb2.out.set 0 (.int .i64 h)).set 1 (.slice (some ⟨g5, 0, none⟩) xs.length cap)
       have d0 := hb3.cell' (v := .int .i64 h) 0 rfl
       have d1 := hb3.cell' (v := .slice (some ⟨g5, 0, none⟩) xs.length cap) 1 rfl
       simp [results, Try.results28, go_sem, d0, d1]; done)
    | (have hn := own_far Hr.out z2
       exact own_base (own_set (own_set Hr.out _ _ hn) _ _ hn) (by rw [Hs0.out]; omega))
    | exact ((Hbb.out.trans (Hb5.out.mono (by rw [Hs0.out]; omega))).setCell (by simp) _).setCell (by simp) _
end Go.Proofs.Ytdmgffoikebgkaa
/- Chapter 3: a copy of any harness, also of one without warps; harnesses compared; one that is too large. -/
namespace Go.Proofs.Ytdmgffoikebgkaa
open Go.RowKit Go.Shelf
attribute [local go_sem] Oper.semAt_some

set_option maxHeartbeats 2000000 in
theorem tieOwnN_ok (h : Int) (p : Option Addr) (c : Nat) (w : World) :
    Calls Try.prog 28 #[.agg #[.int .i64 h, .slice p 0 c]] w fun e w' => ∃ g, e = .returned (.agg #[.int .i64 h, .slice (some ⟨g, 0, none⟩) 0 0]) ∧ (w.heap.size ≤ g ∧ g < w'.heap.size) ∧ Below w.heap.size w w' := by
  have hbb : Below w.heap.size w ((w.alloc (.cells #[.int .i64 h, .slice p 0 c] 26)).alloc (.cells #[.int .i64 0, .slice none 0 0] 26)) := ((Below.refl _ _).alloc (Nat.le_refl _) _).alloc (by simp) _
  have ho1 : BoxAt ((w.alloc (.cells #[.int .i64 h, .slice p 0 c] 26)).alloc (.cells #[.int .i64 0, .slice none 0 0] 26)) w.heap.size #[.int .i64 h, .slice p 0 c] 26 := (BoxAt.new _ _ _).next ((Below.refl _ _).alloc (Nat.le_refl _) _)
  have ho2 : BoxAt ((w.alloc (.cells #[.int .i64 h, .slice p 0 c] 26)).alloc (.cells #[.int .i64 0, .slice none 0 0] 26)) (w.heap.size + 1) #[.int .i64 0, .slice none 0 0] 26 := by
    have := BoxAt.new (w.alloc (.cells #[.int .i64 h, .slice p 0 c] 26)) #[.int .i64 0, .slice none 0 0] 26
    rwa [World.size_alloc] at this
  obtain ⟨W0, hW0⟩ : ∃ W0, W0 = (w.alloc (.cells #[.int .i64 h, .slice p 0 c] 26)).alloc (.cells #[.int .i64 0, .slice none 0 0] 26) := ⟨_, rfl⟩
  have hs0 : W0.heap.size = w.heap.size + 2 := by rw [hW0]; simp
  have HW0 := Lib.hid hW0
  rw [← hW0] at ho1 ho2 hbb
  have Hs0 := Lib.hid hs0
  have hb5 : Below W0.heap.size W0 (W0.alloc (.cells #[] 3)) := (Below.refl _ _).alloc (Nat.le_refl _) _
  have hb2 := ho2.next hb5
  have hb1 := ho1.next hb5
  have c0 := ho2.cell' (v := .int .i64 0) 0 rfl
  have c1 := ho2.cell' (v := .slice none 0 0) 1 rfl
  have f0 := ho2.frozen 0
  have f1 := ho2.frozen 1
  have k0 := ho1.cell' (v := .int .i64 h) 0 rfl
  have k1 := ho1.cell' (v := .slice p 0 c) 1 rfl
  have c0' := hb2.cell' (v := .int .i64 0) 0 rfl
  have c1' := hb2.cell' (v := .slice none 0 0) 1 rfl
  have f0' := hb2.frozen 0
  have f1' := hb2.frozen 1
  have k0' := hb1.cell' (v := .int .i64 h) 0 rfl
  have k1' := hb1.cell' (v := .slice p 0 c) 1 rfl
  have Hbb := Lib.hid (hbb.trans (hb5.mono (by omega)))
  have Hb2 := Lib.hid hb2
  have z2 : ¬ W0.heap.size = w.heap.size + 1 := by omega
  clear ho1 ho2 hbb hW0 hb5 hb2 hb1 hs0
  cases p
  all_goals
    go_enter Try.func28, Try.ntmps28
    go_wp2_with fail
    rw [← HW0.out]
    go_region
    all_goals go_wp2_with fail
    all_goals refine bodyPost_ret (v := .agg #[.int .i64 h, .slice (some ⟨W0.heap.size, 0, none⟩) 0 0]) ?_ rfl ⟨_, rfl, ?_, ?_⟩
    all_goals first
      | (have hb3 := (Hb2.out.set 0 (.int .i64 h)).set 1 (.slice (some ⟨W0.heap.size, 0, none⟩) 0 0)
         have d0 := hb3.cell' (v := .int .i64 h) 0 rfl
         have d1 := hb3.cell' (v := .slice (some ⟨W0.heap.size, 0, none⟩) 0 0) 1 rfl
         simp [results, Try.results28, go_sem, d0, d1]; done)
      | exact ((Hbb.out.drew).setCell (by simp) _).setCell (by simp) _
      | (have := Hs0.out; simp; omega)
theorem ints_of_row {w : World} {B g n cap : Nat} {xs : List Int} (h : w.ownsRow B 3 1 (.slice (some ⟨g, 0, none⟩) n cap) n (xs.map intV)) (_h0 : 0 < n) : IntsAt w g 0 xs ∧ g < w.heap.size ∧ B ≤ g := by
  have h1 := h
  obtain ⟨hl, ⟨h2, _⟩ | ⟨g', cap', cur, e, hg, hh, r⟩⟩ := h
  · simp at h2
  · simp at e
    obtain ⟨rfl, rfl⟩ := e
    refine ⟨fun i hi => ?_, (Array.getElem?_eq_some_iff.1 hh).1, hg⟩
    rw [Nat.zero_add, h1.cellAt i (by simp at hl; omega), nthI_get _ _ hi]
    simp [hi, intV]
/-- a copy of a harness -/
def CpyT (h : Int) (xs : List Int) (w : World) (e : Ending) (w' : World) : Prop := ∃ g cap, e = .returned (.agg #[.int .i64 h, .slice (some ⟨g, 0, none⟩) xs.length cap]) ∧ Reads w' (.slice (some ⟨g, 0, none⟩) xs.length cap) xs ∧ w.heap.size ≤ g ∧ g < w'.heap.size ∧ Below w.heap.size w w'
theorem tieOwn_any (h : Int) (p : Option Addr) (c : Nat) (xs : List Int) (w : World) (hl : xs.length ≤ 1000) (hr : Reads w (.slice p xs.length c) xs) :
    Calls Try.prog 28 #[.agg #[.int .i64 h, .slice p xs.length c]] w (CpyT h xs w) := by
  by_cases h0 : xs.length = 0
  · obtain rfl : xs = [] := List.eq_nil_of_length_eq_zero h0
    refine (tieOwnN_ok h p c w).mono ?_
    rintro e w' ⟨g, rfl, hg, hb⟩
    exact ⟨g, 0, rfl, ⟨_, _, rfl, by simp, fun h => absurd h (by simp)⟩, hg.1, hg.2, hb⟩
  · obtain ⟨p', c', hv, hl2, hx⟩ := hr
    simp only [Value.slice.injEq, true_and] at hv
    obtain ⟨rfl, rfl⟩ := hv
    obtain ⟨b, off, rfl, hb, hx⟩ := hx (by omega)
    refine (tieOwnI_ok h b off c xs w (by omega) hl hx hb).mono ?_
    rintro e w' ⟨g, cap, rfl, h1, h2⟩
    obtain ⟨a1, a2, a3⟩ := ints_of_row h1 (by omega)
    exact ⟨g, cap, rfl, ⟨_, _, rfl, hl2, fun _ => ⟨g, 0, rfl, a2, a1⟩⟩, by omega, a2, h2⟩
end Go.Proofs.Ytdmgffoikebgkaa
/- Chapter 3: any two harnesses side by side. -/
namespace Go.Proofs.Ytdmgffoikebgkaa
open Go.RowKit Go.Shelf
attribute [local go_sem] Oper.semAt_some

/-- what Beside has in its boxes -/
structure BeI (w0 : World) (n1 n2 : Int) (v1 v2 : Value) (v : Value) (rows : List Int) (W : World) : Prop where
  bel : Below w0.heap.size w0 W
  box : BoxAt W w0.heap.size #[.int .i64 n1, v1] 26
  box2 : BoxAt W (w0.heap.size + 1) #[.int .i64 n2, v2] 26
  res : BoxAt W (w0.heap.size + 2) #[.int .i64 0, .slice none 0 0] 26
  out : BoxAt W (w0.heap.size + 3) #[.int .i64 n1, v] 26
  row : W.ownsRow (w0.heap.size + 4) 3 1 v rows.length (rows.map intV)
theorem BeI.next {w0 W W' : World} {n1 n2 : Int} {v1 v2 v : Value} {rows : List Int} (h : BeI w0 n1 n2 v1 v2 v rows W) (hb : Below W.heap.size W W') : BeI w0 n1 n2 v1 v2 v rows W' :=
  ⟨h.bel.trans (hb.mono h.bel.size), h.box.next hb, h.box2.next hb, h.res.next hb, h.out.next hb, own_next h.row hb⟩
theorem BeI.grew {w0 W W' : World} {n1 n2 : Int} {v1 v2 v : Value} {g cap : Nat} {rows new : List Int} (h : BeI w0 n1 n2 v1 v2 v rows W)
    (hr : W'.ownsRow (w0.heap.size + 4) 3 1 (.slice (some ⟨g, 0, none⟩) (rows.length + new.length) cap) (rows.length + new.length) (rows.map intV ++ new.map intV)) (hg : W.grownBy W' v.ownBlock) :
    BoxAt W' (w0.heap.size + 3) #[.int .i64 n1, v] 26 ∧ BeI w0 n1 n2 v1 v2 (.slice (some ⟨g, 0, none⟩) (rows.length + new.length) cap) (rows ++ new) (W'.setCell ⟨w0.heap.size + 3, 1, none⟩ (.slice (some ⟨g, 0, none⟩) (rows.length + new.length) cap)) := by
  have hn : ∀ j, j < w0.heap.size + 4 → some j ≠ v.ownBlock := fun j hj => own_far h.row hj
  have hz : w0.heap.size + 4 ≤ W.heap.size := h.out.lt
  have hbel : Below w0.heap.size w0 W' := h.bel.grown hg (by omega) (fun j hj => by have := (ownBlock_ge h.row hj).1; omega)
  have ho := h.out.kept hg (hn _ (by omega))
  refine ⟨ho, hbel.setCell (by simp) _, (h.box.kept hg (hn _ (by omega))).other _ _ (by simp), (h.box2.kept hg (hn _ (by omega))).other _ _ (by simp), (h.res.kept hg (hn _ (by omega))).other _ _ (by simp), ho.set 1 _, ?_⟩
  rw [List.length_append, List.map_append]
  exact own_set hr _ _ (own_far hr (by simp))
theorem BeI.start (w : World) (n1 n2 : Int) (v1 v2 : Value) :
    BeI w n1 n2 v1 v2 (.slice none 0 0) [] ((((w.alloc (.cells #[.int .i64 n1, v1] 26)).alloc (.cells #[.int .i64 n2, v2] 26)).alloc (.cells #[.int .i64 0, .slice none 0 0] 26)).alloc (.cells #[.int .i64 n1, .slice none 0 0] 26)) := by
  obtain ⟨W1, h1⟩ : ∃ W1, W1 = w.alloc (.cells #[.int .i64 n1, v1] 26) := ⟨_, rfl⟩
  obtain ⟨W2, h2⟩ : ∃ W2, W2 = W1.alloc (.cells #[.int .i64 n2, v2] 26) := ⟨_, rfl⟩
  obtain ⟨W3, h3⟩ : ∃ W3, W3 = W2.alloc (.cells #[.int .i64 0, .slice none 0 0] 26) := ⟨_, rfl⟩
  obtain ⟨W4, h4⟩ : ∃ W4, W4 = W3.alloc (.cells #[.int .i64 n1, .slice none 0 0] 26) := ⟨_, rfl⟩
  rw [← h1, ← h2, ← h3, ← h4]
  have s1 : W1.heap.size = w.heap.size + 1 := by rw [h1]; simp
  have s2 : W2.heap.size = w.heap.size + 2 := by rw [h2]; simp [s1]
  have s3 : W3.heap.size = w.heap.size + 3 := by rw [h3]; simp [s2]
  have e1 : BoxAt W1 w.heap.size #[.int .i64 n1, v1] 26 := by rw [h1]; exact BoxAt.new _ _ _
  have e2 : BoxAt W2 W1.heap.size #[.int .i64 n2, v2] 26 := by rw [h2]; exact BoxAt.new _ _ _
  have e3 : BoxAt W3 W2.heap.size #[.int .i64 0, .slice none 0 0] 26 := by rw [h3]; exact BoxAt.new _ _ _
  have e4 : BoxAt W4 W3.heap.size #[.int .i64 n1, .slice none 0 0] 26 := by rw [h4]; exact BoxAt.new _ _ _
  have b1 : Below w.heap.size w W1 := by rw [h1]; exact (Below.refl _ _).alloc (Nat.le_refl _) _
  have b2' : Below W1.heap.size W1 W2 := by rw [h2]; exact (Below.refl _ _).alloc (Nat.le_refl _) _
  have b3 : Below W2.heap.size W2 W3 := by rw [h3]; exact (Below.refl _ _).alloc (Nat.le_refl _) _
  have b4 : Below W3.heap.size W3 W4 := by rw [h4]; exact (Below.refl _ _).alloc (Nat.le_refl _) _
  rw [s1] at e2
  rw [s2] at e3
  rw [s3] at e4
  exact ⟨((b1.trans (b2'.mono b1.size)).trans (b3.mono (by omega))).trans (b4.mono (by omega)), ((e1.next b2').next b3).next b4, (e2.next b3).next b4, e3.next b4, e4, ⟨by simp, .inl ⟨rfl, rfl⟩⟩⟩
theorem chkT_ok {h : Int} {xs : List Int} (hc : chkT h xs = 0) : 1 ≤ h ∧ h ≤ 24 ∧ 0 < xs.length ∧ xs.length ≤ 96 ∧ frB 0 (h - 1) xs = true := by
  unfold chkT at hc
  split at hc
  · cases hc
  · split at hc
    · cases hc
    · split at hc
      · cases hc
      · split at hc
        · refine ⟨by omega, by omega, by omega, by omega, by assumption⟩
        · cases hc
def BsE (e : Ending) (er : Int) : Prop := e = .returned (.tuple #[.agg #[.int .i64 0, .slice none 0 0], .int .i64 er])
def BesR (n1 n2 : Int) (xs ys : List Int) (e : Ending) (w' : World) : Prop :=
  (chkT n1 xs ≠ 0 ∧ BsE e (chkT n1 xs)) ∨ (chkT n1 xs = 0 ∧ chkT n2 ys ≠ 0 ∧ BsE e (chkT n2 ys)) ∨
  (chkT n1 xs = 0 ∧ chkT n2 ys = 0 ∧ n1 ≠ n2 ∧ BsE e 4) ∨ (chkT n1 xs = 0 ∧ chkT n2 ys = 0 ∧ n1 = n2 ∧ 96 < xs.length + ys.length ∧ BsE e 8) ∨
  (chkT n1 xs = 0 ∧ chkT n2 ys = 0 ∧ n1 = n2 ∧ xs.length + ys.length ≤ 96 ∧ ∃ v, e = .returned (.tuple #[.agg #[.int .i64 n1, v], .int .i64 0]) ∧ Reads w' v (xs ++ ys))
set_option maxRecDepth 100000 in
set_option maxHeartbeats 4000000 in
theorem Beside_any (n1 n2 : Int) (p1 p2 : Option Addr) (c1 c2 : Nat) (xs ys : List Int) (w : World) (hr1 : Reads w (.slice p1 xs.length c1) xs) (hr2 : Reads w (.slice p2 ys.length c2) ys) :
    Calls Try.prog 30 #[.agg #[.int .i64 n1, (.slice p1 xs.length c1)], .agg #[.int .i64 n2, (.slice p2 ys.length c2)]] w fun e w' => BesR n1 n2 xs ys e w' ∧ Below w.heap.size w w' := by
  have hS := BeI.start w n1 n2 (.slice p1 xs.length c1) (.slice p2 ys.length c2)
  obtain ⟨W0, hW0⟩ : ∃ W0, W0 = (((w.alloc (.cells #[.int .i64 n1, (.slice p1 xs.length c1)] 26)).alloc (.cells #[.int .i64 n2, (.slice p2 ys.length c2)] 26)).alloc (.cells #[.int .i64 0, .slice none 0 0] 26)).alloc (.cells #[.int .i64 n1, .slice none 0 0] 26) := ⟨_, rfl⟩
  rw [← hW0] at hS
  have HS := Lib.hid hS
  have HV := Lib.hid hr1
  have HVb := Lib.hid hr2
  have HW0 := Lib.hid hW0
  have ix0 : ∀ W : World, (Instr.index 156 (.agg #[.int .i64 n1, (.slice p1 xs.length c1), .int .i64 n2, (.slice p2 ys.length c2)]) (.int .i64 0)).run Try.prog W = .ok (.agg #[.int .i64 n1, (.slice p1 xs.length c1)]) W := fun W => by kernel_rfl
  have ix1 : ∀ W : World, (Instr.index 156 (.agg #[.int .i64 n1, (.slice p1 xs.length c1), .int .i64 n2, (.slice p2 ys.length c2)]) (.int .i64 1)).run Try.prog W = .ok (.agg #[.int .i64 n2, (.slice p2 ys.length c2)]) W := fun W => by kernel_rfl
  clear hS hr1 hr2 hW0
  go_enter Try.func30, Try.ntmps30
  go_upto_region 2 with fail
  rw [← HW0.out]
  have b0 := HS.out.box.cell' 0 rfl
  have b1 := HS.out.box.cell' 1 rfl
  have d0 := HS.out.box2.cell' 0 rfl
  have d1 := HS.out.box2.cell' 1 rfl
  go_wp2_with fail
  go_loopw [8, 9, 16] (fun _ _ i wr => ∃ (k : Nat) (v : Value) (rows : List Int), k ≤ 2 ∧ i = .int .i64 k ∧ ((k = 0 ∧ rows = []) ∨ (k = 1 ∧ rows = [] ++ xs ∧ chkT n1 xs = 0) ∨ (k = 2 ∧ rows = xs ++ ys ∧ chkT n1 xs = 0 ∧ chkT n2 ys = 0)) ∧ BeI w n1 n2 (.slice p1 xs.length c1) (.slice p2 ys.length c2) v rows wr) (fun _ _ i _ => 2 - (intOf i).toNat)
  case atStart => exact ⟨0, _, [], by omega, rfl, .inl ⟨rfl, rfl⟩, HS.out⟩
  case round =>
    obtain ⟨k, v, rows, hk, rfl, hcase, hT⟩ := hrel
    clear b0 b1 d0 d1 HS HW0
    rcases hcase with hcase | hcase | hcase
    · obtain ⟨rfl, hrw⟩ := hcase
      obtain ⟨W2, hW2⟩ : ∃ W2, W2 = wr.alloc (.cells #[.int .i64 n1, (.slice p1 xs.length c1)] 26) := ⟨_, rfl⟩
      have hb2 : Below wr.heap.size wr W2 := by rw [hW2]; exact (Below.refl _ _).alloc (Nat.le_refl _) _
      have hE := BoxAt.new wr #[.int .i64 n1, (.slice p1 xs.length c1)] 26
      rw [← hW2] at hE
      have hT2 := hT.next hb2
      have HCk := Lib.hid (tieCheck_any n1 (.slice p1 xs.length c1) xs W2 (HV.out.next hT2.bel))
      have HE := Lib.hid hE
      have HT2 := Lib.hid hT2
      have HW2 := Lib.hid hW2
      have Hrw := Lib.hid hrw
      clear hb2 hE hT2 hW2 hT hrw
      by_cases he : chkT n1 xs = 0
      · have hok := chkT_ok he
        have hlr : rows.length ≤ 96 := by rw [Hrw.out]; simp
        rw [he] at HCk
        obtain ⟨b, off, c, hv0, hlt0, hix0⟩ : ∃ b off c, ((.slice p1 xs.length c1) : Value) = .slice (some ⟨b, off, none⟩) xs.length c ∧ b < w.heap.size ∧ IntsAt w b off xs := by
          obtain ⟨p, c, hv, _, hx⟩ := HV.out
          obtain ⟨b, off, rfl, h1, h2⟩ := hx hok.2.2.1
          exact ⟨b, off, c, hv, h1, h2⟩
        have HV0 := Lib.hid hv0
        have HIx := Lib.hid (And.intro hlt0 hix0)
        have Hhe := Lib.hid he
        clear hv0 hlt0 hix0 he
        go_wp2_with fail
        rw [← HW2.out]
        refine HCk.out.mono ?_
        rintro e W3 ⟨rfl, hb3⟩
        have hT3 := HT2.out.next hb3
        have hE3 := HE.out.next hb3
        have e1 := hE3.cell' 1 rfl
        rw [HV0.out] at e1
        have o1 := hT3.out.cell' 1 rfl
        have HT3 := Lib.hid hT3
        have HE3 := Lib.hid hE3
        clear hb3 hT3 hE3 HCk HE HT2
        go_wp2_with (at_builtin; refine Shut.out ?_)
        unfold Shut
        refine app_rows elemInt rfl _ _ rfl (w.heap.size + 4) v rows.length (rows.map intV) rfl HT3.out.row ⟨b, off, none⟩ xs.length c (xs.map intV) rfl (by simp) (by simp [intV, Value.oneCell']) hok.2.2.1 (by have := hok.2.2.2.1; omega) (by decide) (ints_news (HIx.out.2.below HT3.out.bel HIx.out.1)) HT3.out.out.lt ?_
        intro g cap W4 hr hg
        have hr' : W4.ownsRow (w.heap.size + 4) 3 1 (.slice (some ⟨g, 0, none⟩) (rows.length + xs.length) cap) (rows.length + xs.length) (rows.map intV ++ xs.map intV) := hr
        obtain ⟨ho, hT5⟩ := HT3.out.grew hr' hg
        have o0 := ho.cell' 0 rfl
        have o1 := ho.cell' 1 rfl
        have of := ho.frozen 1
        have HT5 := Lib.hid hT5
        clear hr hg hr' hT5 e1 HT3 HE3
        go_wp2_with fail
        go_roundw
        case rel => exact ⟨1, _, _, by omega, rfl, .inr (.inl ⟨rfl, by rw [Hrw.out], Hhe.out⟩), HT5.out⟩
        case measure => simp [intOf]
      · obtain ⟨er, her⟩ : ∃ er, chkT n1 xs = er := ⟨_, rfl⟩
        rw [her] at HCk he
        have hd : (er != 0) = true := by simp; exact he
        have Her := Lib.hid (And.intro her he)
        clear her he
        go_wp2_with fail
        rw [← HW2.out]
        refine HCk.out.mono ?_
        rintro e W3 ⟨rfl, hb3⟩
        have hT3 := HT2.out.next hb3
        have r0 := hT3.res.cell' 0 rfl
        have r1 := hT3.res.cell' 1 rfl
        have f0 := hT3.res.frozen 0
        have f1 := hT3.res.frozen 1
        have HT3 := Lib.hid hT3
        clear hb3 hT3 HCk HE HT2
        go_wp2_with fail
        refine bodyPost_ret (v := .tuple #[.agg #[.int .i64 0, .slice none 0 0], .int .i64 er]) ?_ rfl ⟨?_, ?_⟩
        · have hb3 := (HT3.out.res.set 0 (.int .i64 0)).set 1 (.slice none 0 0)
          have d0 := hb3.cell' (v := .int .i64 0) 0 rfl
          have d1 := hb3.cell' (v := .slice none 0 0) 1 rfl
          simp [results, Try.results30, go_sem, d0, d1]
        · exact .inl ⟨by rw [Her.out.1]; exact Her.out.2, by rw [Her.out.1]; rfl⟩
        · exact (HT3.out.bel.setCell (by simp; omega) _).setCell (by simp; omega) _
    · obtain ⟨rfl, hrw, hz1⟩ := hcase
      obtain ⟨W2, hW2⟩ : ∃ W2, W2 = wr.alloc (.cells #[.int .i64 n2, (.slice p2 ys.length c2)] 26) := ⟨_, rfl⟩
      have hb2 : Below wr.heap.size wr W2 := by rw [hW2]; exact (Below.refl _ _).alloc (Nat.le_refl _) _
      have hE := BoxAt.new wr #[.int .i64 n2, (.slice p2 ys.length c2)] 26
      rw [← hW2] at hE
      have hT2 := hT.next hb2
      have HCk := Lib.hid (tieCheck_any n2 (.slice p2 ys.length c2) ys W2 (HVb.out.next hT2.bel))
      have HE := Lib.hid hE
      have HT2 := Lib.hid hT2
      have HW2 := Lib.hid hW2
      have Hrw := Lib.hid hrw
      clear hb2 hE hT2 hW2 hT hrw
      by_cases he : chkT n2 ys = 0
      · have hok := chkT_ok he
        have hlr : rows.length ≤ 96 := by rw [Hrw.out]; have := chkT_ok hz1; simp; omega
        rw [he] at HCk
        obtain ⟨b, off, c, hv0, hlt0, hix0⟩ : ∃ b off c, ((.slice p2 ys.length c2) : Value) = .slice (some ⟨b, off, none⟩) ys.length c ∧ b < w.heap.size ∧ IntsAt w b off ys := by
          obtain ⟨p, c, hv, _, hx⟩ := HVb.out
          obtain ⟨b, off, rfl, h1, h2⟩ := hx hok.2.2.1
          exact ⟨b, off, c, hv, h1, h2⟩
        have HV0 := Lib.hid hv0
        have HIx := Lib.hid (And.intro hlt0 hix0)
        have Hhe := Lib.hid he
        clear hv0 hlt0 hix0 he
        go_wp2_with fail
        rw [← HW2.out]
        refine HCk.out.mono ?_
        rintro e W3 ⟨rfl, hb3⟩
        have hT3 := HT2.out.next hb3
        have hE3 := HE.out.next hb3
        have e1 := hE3.cell' 1 rfl
        rw [HV0.out] at e1
        have o1 := hT3.out.cell' 1 rfl
        have HT3 := Lib.hid hT3
        have HE3 := Lib.hid hE3
        clear hb3 hT3 hE3 HCk HE HT2
        go_wp2_with (at_builtin; refine Shut.out ?_)
        unfold Shut
        refine app_rows elemInt rfl _ _ rfl (w.heap.size + 4) v rows.length (rows.map intV) rfl HT3.out.row ⟨b, off, none⟩ ys.length c (ys.map intV) rfl (by simp) (by simp [intV, Value.oneCell']) hok.2.2.1 (by have := hok.2.2.2.1; omega) (by decide) (ints_news (HIx.out.2.below HT3.out.bel HIx.out.1)) HT3.out.out.lt ?_
        intro g cap W4 hr hg
        have hr' : W4.ownsRow (w.heap.size + 4) 3 1 (.slice (some ⟨g, 0, none⟩) (rows.length + ys.length) cap) (rows.length + ys.length) (rows.map intV ++ ys.map intV) := hr
        obtain ⟨ho, hT5⟩ := HT3.out.grew hr' hg
        have o0 := ho.cell' 0 rfl
        have o1 := ho.cell' 1 rfl
        have of := ho.frozen 1
        have HT5 := Lib.hid hT5
        clear hr hg hr' hT5 e1 HT3 HE3
        go_wp2_with fail
        go_roundw
        case rel => exact ⟨2, _, _, by omega, rfl, .inr (.inr ⟨rfl, by rw [Hrw.out, List.nil_append], hz1, Hhe.out⟩), HT5.out⟩
        case measure => simp [intOf]
      · obtain ⟨er, her⟩ : ∃ er, chkT n2 ys = er := ⟨_, rfl⟩
        rw [her] at HCk he
        have hd : (er != 0) = true := by simp; exact he
        have Her := Lib.hid (And.intro her he)
        clear her he
        go_wp2_with fail
        rw [← HW2.out]
        refine HCk.out.mono ?_
        rintro e W3 ⟨rfl, hb3⟩
        have hT3 := HT2.out.next hb3
        have r0 := hT3.res.cell' 0 rfl
        have r1 := hT3.res.cell' 1 rfl
        have f0 := hT3.res.frozen 0
        have f1 := hT3.res.frozen 1
        have HT3 := Lib.hid hT3
        clear hb3 hT3 HCk HE HT2
        go_wp2_with fail
        refine bodyPost_ret (v := .tuple #[.agg #[.int .i64 0, .slice none 0 0], .int .i64 er]) ?_ rfl ⟨?_, ?_⟩
        · have hb3 := (HT3.out.res.set 0 (.int .i64 0)).set 1 (.slice none 0 0)
          have d0 := hb3.cell' (v := .int .i64 0) 0 rfl
          have d1 := hb3.cell' (v := .slice none 0 0) 1 rfl
          simp [results, Try.results30, go_sem, d0, d1]
        · exact .inr (.inl ⟨hz1, by rw [Her.out.1]; exact Her.out.2, by rw [Her.out.1]; rfl⟩)
        · exact (HT3.out.bel.setCell (by simp; omega) _).setCell (by simp; omega) _
    · obtain ⟨rfl, rfl, hz1, hz2⟩ := hcase
      have hq1 := chkT_ok hz1
      have hq2 := chkT_ok hz2
      have Hz := Lib.hid (And.intro hz1 hz2)
      have HT := Lib.hid hT
      obtain ⟨g, cap, rfl⟩ := row_slice hT.row (by simp; omega)
      obtain ⟨hn, hgl, hlo⟩ := ints_of_row hT.row (by simp; omega)
      have b0 := hT.box.cell' 0 rfl
      have d0 := hT.box2.cell' 0 rfl
      have o0 := hT.out.cell' 0 rfl
      have o1 := hT.out.cell' 1 rfl
      have r0 := hT.res.cell' 0 rfl
      have r1 := hT.res.cell' 1 rfl
      have f0 := hT.res.frozen 0
      have f1 := hT.res.frozen 1
      have hz := hT.out.lt
      have Hn := Lib.hid (And.intro hn hgl)
      obtain ⟨L, hL⟩ : ∃ L, (xs ++ ys).length = L := ⟨_, rfl⟩
      rw [hL] at o1
      have hLs : xs.length + ys.length = L := by rw [← hL, List.length_append]
      have HL := Lib.hid (And.intro hL hLs)
      have hL2 : L ≤ 192 := by omega
      clear hT hn hz1 hz2 hq1 hq2 hL hLs hgl
      by_cases h12 : n1 = n2
      · have hd : (n1 != n2) = false := by rw [h12]; simp
        have H12 := Lib.hid h12
        clear h12
        by_cases hs : 96 < L
        · have hd2 : decide ((96 : Int) < (L : Int)) = true := decide_eq_true (by omega)
          have hd3 : decide (96 < L) = true := decide_eq_true hs
          go_wp2_with fail
          refine bodyPost_ret (v := .tuple #[.agg #[.int .i64 0, .slice none 0 0], .int .i64 8]) ?_ rfl ⟨?_, ?_⟩
          · have hb3 := (HT.out.res.set 0 (.int .i64 0)).set 1 (.slice none 0 0)
            have d0 := hb3.cell' (v := .int .i64 0) 0 rfl
            have d1 := hb3.cell' (v := .slice none 0 0) 1 rfl
            simp [results, Try.results30, go_sem, d0, d1]
          · exact .inr (.inr (.inr (.inl ⟨Hz.out.1, Hz.out.2, H12.out, by rw [HL.out.2]; exact hs, rfl⟩)))
          · exact (HT.out.bel.setCell (by simp; omega) _).setCell (by simp; omega) _
        · have hd2 : decide ((96 : Int) < (L : Int)) = false := decide_eq_false (by omega)
          have hd3 : decide (96 < L) = false := decide_eq_false hs
          go_wp2_with fail
          refine bodyPost_ret (v := .tuple #[.agg #[.int .i64 n1, .slice (some ⟨g, 0, none⟩) L cap], .int .i64 0]) ?_ rfl ⟨?_, ?_⟩
          · have hb3 := (HT.out.res.set 0 (.int .i64 n1)).set 1 (.slice (some ⟨g, 0, none⟩) L cap)
            have d0 := hb3.cell' (v := .int .i64 n1) 0 rfl
            have d1 := hb3.cell' (v := .slice (some ⟨g, 0, none⟩) L cap) 1 rfl
            simp [results, Try.results30, go_sem, d0, d1]
          · refine .inr (.inr (.inr (.inr ⟨Hz.out.1, Hz.out.2, H12.out, by rw [HL.out.2]; omega, _, rfl, some ⟨g, 0, none⟩, cap, by rw [HL.out.1], by rw [HL.out.1]; omega, fun _ => ⟨g, 0, rfl, by simp only [setCell_size]; exact Hn.out.2, fun i hi => ?_⟩⟩)))
            exact (World.cell?_of_block (Below.heap_setCell _ _ _ _ (by show g ≠ w.heap.size + 2; omega))).trans ((World.cell?_of_block (Below.heap_setCell _ _ _ _ (by show g ≠ w.heap.size + 2; omega))).trans (Hn.out.1 i hi))
          · exact (HT.out.bel.setCell (by simp; omega) _).setCell (by simp; omega) _
      · have hd : (n1 != n2) = true := by simp; exact h12
        have H12 := Lib.hid h12
        clear h12
        go_wp2_with fail
        refine bodyPost_ret (v := .tuple #[.agg #[.int .i64 0, .slice none 0 0], .int .i64 4]) ?_ rfl ⟨?_, ?_⟩
        · have hb3 := (HT.out.res.set 0 (.int .i64 0)).set 1 (.slice none 0 0)
          have d0 := hb3.cell' (v := .int .i64 0) 0 rfl
          have d1 := hb3.cell' (v := .slice none 0 0) 1 rfl
          simp [results, Try.results30, go_sem, d0, d1]
        · exact .inr (.inr (.inl ⟨Hz.out.1, Hz.out.2, H12.out, rfl⟩))
        · exact (HT.out.bel.setCell (by simp; omega) _).setCell (by simp; omega) _
end Go.Proofs.Ytdmgffoikebgkaa
/- TieBound: its mathematics. -/
namespace Go.Proofs.Ytdmgffoikebgkaa
open Go.RowKit Go.Shelf

theorem around_nat (hs : List Nat) (w j : Nat) : aroundN hs ((w : Int) + (j : Int)) = nthN hs ((w + j) % hs.length) := by
  unfold aroundN
  have e : ((w : Int) + (j : Int) + (hs.length : Int)).toNat = w + j + hs.length := by omega
  rw [e, Nat.add_mod_right]
theorem bind_some {n m p : Nat} (h0 : 1 ≤ n) (h1 : n ≤ 24) {x : Nat} (hx : x < 2 ^ n) (hb : BoundUp x n m) : bindN n p 0 m < never := by
  have := bindN_le_row (p := p) (f := 0) (x := x) h0 h1 hx ⟨con_free _ _ _, hb⟩
  have h3 := ham_le p x n
  have h4 : 2 ^ n ≤ 2 ^ 24 := Nat.pow_le_pow_right (by decide) h1
  unfold never change at *
  omega
end Go.Proofs.Ytdmgffoikebgkaa
/- TieEdges: its mathematics. -/
namespace Go.Proofs.Ytdmgffoikebgkaa
open Go.RowKit Go.Shelf

/-- periods of a sequence -/
def Gp (g : Nat → Nat) (p : Nat) : Prop := 1 ≤ p ∧ ∀ i, g (i + p) = g i
theorem gp_mul {g : Nat → Nat} {p : Nat} (h : Gp g p) (i : Nat) : ∀ k, g (i + k * p) = g i
  | 0 => by rw [Nat.zero_mul, Nat.add_zero]
  | k + 1 => by rw [Nat.succ_mul, ← Nat.add_assoc, h.2, gp_mul h i k]
theorem gp_dvd {g : Nat → Nat} {m p : Nat} (hm : Gp g m) (hl : ∀ j, j < m → ¬ Gp g j) (hp : Gp g p) : p % m = 0 := by
  refine Classical.byContradiction fun hr => ?_
  refine hl (p % m) (Nat.mod_lt _ hm.1) ⟨by omega, fun i => ?_⟩
  rw [← gp_mul hm (i + p % m) (p / m)]
  have e : i + p % m + p / m * m = i + p := by
    have := Nat.mod_add_div p m
    rw [Nat.mul_comm m] at this
    omega
  rw [e, hp.2]
def gN (hs : List Nat) (i : Nat) : Nat := nthN hs (i % hs.length)
theorem rep_gp {hs : List Nat} {p : Nat} (h0 : 0 < hs.length) (h1 : 1 ≤ p) (h : repAt hs p = true) : hs.length % p = 0 ∧ Gp (gN hs) p := by
  unfold repAt at h
  rw [Bool.and_eq_true, beq_iff_eq] at h
  refine ⟨h.1, h1, fun i => ?_⟩
  have h2 := h.2
  unfold likeB at h2
  rw [List.all_eq_true] at h2
  have h3 := h2 (i % hs.length) (by simpa using Nat.mod_lt _ h0)
  rw [beq_iff_eq, around_nat, Nat.mod_add_mod] at h3
  exact h3.symm
theorem gp_rep {hs : List Nat} {p : Nat} (h : Gp (gN hs) p) (hd : hs.length % p = 0) : repAt hs p = true := by
  unfold repAt
  rw [Bool.and_eq_true, beq_iff_eq]
  refine ⟨hd, likeB_yes fun k hk => ?_⟩
  rw [around_nat]
  have := h.2 k
  unfold gN at this
  rw [Nat.mod_eq_of_lt hk] at this
  exact this.symm
structure RepP (hs : List Nat) (p : Nat) : Prop where
  p1 : 1 ≤ p
  pl : p ≤ hs.length
  at' : p = hs.length ∨ repAt hs p = true
  no : ∀ j, 1 ≤ j → j < p → repAt hs j = false
theorem gp_len {hs : List Nat} (h0 : 0 < hs.length) : Gp (gN hs) hs.length := ⟨h0, fun i => by unfold gN; rw [Nat.add_mod_right]⟩
theorem RepP.gp {hs : List Nat} {p : Nat} (h : RepP hs p) (h0 : 0 < hs.length) : hs.length % p = 0 ∧ Gp (gN hs) p := by
  rcases h.at' with e | e
  · rw [e]; exact ⟨Nat.mod_self _, gp_len h0⟩
  · exact rep_gp h0 h.p1 e
theorem RepP.least {hs : List Nat} {p m : Nat} (h : RepP hs p) (h0 : 0 < hs.length) (hm : Gp (gN hs) m) (hl : ∀ j, j < m → ¬ Gp (gN hs) j) : p = m := by
  have hp := h.gp h0
  have hd := gp_dvd hm hl hp.2
  have hdT := gp_dvd hm hl (gp_len h0)
  have hle : m ≤ p := Nat.le_of_dvd h.p1 (Nat.dvd_of_mod_eq_zero hd)
  rcases Nat.lt_or_ge m p with c | c
  · have := h.no m hm.1 c
    rw [gp_rep hm hdT] at this
    cases this
  · omega
theorem RepP.at {hs : List Nat} {p w : Nat} (h : RepP hs p) (hw : w < hs.length) : nthN hs w = nthN hs (w % p) := by
  have hg := (h.gp (by omega)).2
  have e := gp_mul hg (w % p) (w / p)
  rw [show w % p + w / p * p = w by have := Nat.mod_add_div w p; rw [Nat.mul_comm p] at this; omega] at e
  have hlt : w % p < hs.length := Nat.lt_of_le_of_lt (Nat.mod_le _ _) hw
  unfold gN at e
  rwa [Nat.mod_eq_of_lt hw, Nat.mod_eq_of_lt hlt] at e
end Go.Proofs.Ytdmgffoikebgkaa
