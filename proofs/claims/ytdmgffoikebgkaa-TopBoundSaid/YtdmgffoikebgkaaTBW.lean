/- The statements' helpers: the cards mixed by bytes. -/
import Derived.Test.YtdmgffoikebgkaaRG
import Derived.Test.YtdmgffoikebgkaaBY
import Derived.Test.YtdmgffoikebgkaaNE
import Derived.Test.YtdmgffoikebgkaaHG
import Derived.Test.YtdmgffoikebgkaaNF
import Derived.Deep.DeepCutAuto
namespace Go.Proofs.Ytdmgffoikebgkaa
open Go.RowKit Go.Shelf
attribute [local go_sem] Oper.semAt_some

def region_mix5U : List (List Nat) := [[], [], [], [], [], [], [], []]
def region_mix5X (k l g q B : Nat) (p : Option Addr) (cp : Nat) (sd : List Nat) : Nat → (Nat → Hd) → Value
  | 0, _ => .slice p sd.length cp
  | 1, _ => .int .i64 (k : Int)
  | 2, _ => .int .i64 (byteN sd k : Int)
  | 3, _ => .pointer (some ⟨B, 1, none⟩)
  | 4, _ => .slice (some ⟨g, 0, none⟩) l q
  | 5, _ => .int .i64 (l : Int)
  | 6, _ => .int .i64 ((byteN sd k % l : Nat) : Int)
  | 7, _ => .int .i64 ((byteN sd k % l : Nat) : Int)
  | _ + 8, _ => undef
theorem region_mix5X.congr (k l g q B : Nat) (p : Option Addr) (cp : Nat) (sd : List Nat) : ∀ i hds hds', (∀ r ∈ uOf region_mix5U i, hds r = hds' r) → region_mix5X k l g q B p cp sd i hds = region_mix5X k l g q B p cp sd i hds'
  | 0, _, _, _ => rfl
  | 1, _, _, _ => rfl
  | 2, _, _, _ => rfl
  | 3, _, _, _ => rfl
  | 4, _, _, _ => rfl
  | 5, _, _, _ => rfl
  | 6, _, _, _ => rfl
  | 7, _, _, _ => rfl
  | _ + 8, _, _, _ => rfl
def region_mix5M  : Nat → Mem
  | _ => memNone
def region_mix5S  : Nat → Option Sto
  | _ => none
set_option maxRecDepth 8000 in
set_option maxHeartbeats 2000000 in
theorem region_mix5 {id : Nat} {ops : Array Oper} {Q : Exit → Act → World → Prop} {a : Act} {w : World} (n k l g q B : Nat) (p : Option Addr) (cp : Nat) (sd : List Nat) (hsd : ByteRow w p sd) (hsl : sd.length ≤ 9223372036854775807) (hk : k ≤ 100) (hl0 : 0 < l) (hbox : BoxAt w B #[.int .i64 (n : Int), .slice (some ⟨g, 0, none⟩) l q] 114)
    (gsize : ops.size = 8)
    (gops : IsOp ops 0 (some 18) (.move (.tmp 1)) none [] ∧ IsOp ops 1 (some 19) (.move (.tmp 5)) none [] ∧ IsOp ops 2 (some 20) (.call { callee := .value (.func 77), args := #[.tmp 18, .tmp 19], argTypes := #[89, 3] }) none [0, 1] ∧ IsOp ops 3 (some 21) (.fieldAddr 114 (.tmp 2) 1) none [] ∧ IsOp ops 4 (some 22) (.load 112 (.tmp 21)) none [3] ∧ IsOpL ops 5 (some 23) (.call { callee := .builtin .len, args := #[.tmp 22], argTypes := #[112] }) none [4] ∧ IsOp ops 6 (some 24) (.binOp .rem 3 (.tmp 20) (.tmp 23) 3) none [2, 5] ∧ IsOp ops 7 (some 6) (.assign (.tmp 24)) none [6])
    (gbk : backB ops = true) (gds : dstsB ops (dOf [some 18, some 19, some 20, some 21, some 22, some 23, some 24, some 6]) = true) (gus : useB ops (uOf region_mix5U) (kOf [0, 0, 0, 0, 0, 0, 0, 0]) = true) (ggd : plainB ops = true) (gsz : ∀ e ∈ [18, 19, 20, 21, 22, 23, 24, 6], e < a.tmps.size)
    (gout : a.eval (.tmp 1) = .slice p sd.length cp ∧ a.eval (.tmp 5) = .int .i64 (k : Int) ∧ a.eval (.tmp 2) = .pointer (some ⟨B, 0, none⟩))
    (gend : ∀ (u18 u19 u20 u21 u22 u23 u24 : Value) (W : World), Below w.heap.size w W → Q .normal (putL a [(18, u18), (19, u19), (20, u20), (21, u21), (22, u22), (23, u23), (24, u24), (6, .int .i64 ((byteN sd k % l : Nat) : Int))]) W) :
    (Code.region id ops true).wp Try.prog Q a w := by
  obtain ⟨iop0, iop1, iop2, iop3, iop4, iop5, iop6, iop7⟩ := gops
  obtain ⟨o1, o5, o2⟩ := gout
  refine region_all (RSp.of 8 [some 18, some 19, some 20, some 21, some 22, some 23, some 24, some 6] (fun _ => true) (region_mix5X k l g q B p cp sd) region_mix5U [0, 0, 0, 0, 0, 0, 0, 0] (region_mix5M ) (region_mix5S )) [(1, .slice p sd.length cp), (5, .int .i64 (k : Int)), (2, .pointer (some ⟨B, 0, none⟩))] [18, 19, 20, 21, 22, 23, 24, 6] (RSp.of_fit gsize.symm gbk gds gus ggd (by decide) ?_) (RSp.of_ok _ (region_mix5X.congr k l g q B p cp sd) ?_) gsz ?_ ?_ ?_
  · intro p hp
    have hp2 : p ∈ ([] : List (Nat × Nat)) := hp
    cases hp2
  · intro i s hds
    match i, hds with
    | 0, hds => cases hds
    | 1, hds => cases hds
    | 2, hds => cases hds
    | 3, hds => cases hds
    | 4, hds => cases hds
    | 5, hds => cases hds
    | 6, hds => cases hds
    | 7, hds => cases hds
    | _ + 8, hds => cases hds
  · intro q hq
    simp only [List.mem_cons, List.not_mem_nil, or_false] at hq
    rcases hq with rfl | rfl | rfl
    · exact ⟨o1, by simp⟩
    · exact ⟨o5, by simp⟩
    · exact ⟨o2, by simp⟩
  · intro i o ho _
    have hi : i < 8 := by rw [← gsize]; exact (Array.getElem?_eq_some_iff.1 ho).1
    match i, hi with
    | 0, _ =>
      obtain ⟨ty, pos, aft, e, hdp⟩ := iop0
      rw [e] at ho
      obtain rfl := Option.some.inj ho
      intro a' hds W K hB lq ld hmem hK
      have e1 : a'.eval (.tmp 1) = .slice p sd.length cp := by rw [eval_tmp]; exact lq (1, .slice p sd.length cp) (by simp)
      have HK := Lib.hid (show K (a'.put (some 18) (.slice p sd.length cp)) W from hK W (Below.refl _ _) trivial)
      clear hK ld lq hmem
      unfold Oper.wp
      simp only [execOp, e1]
      exact HK.out
    | 1, _ =>
      obtain ⟨ty, pos, aft, e, hdp⟩ := iop1
      rw [e] at ho
      obtain rfl := Option.some.inj ho
      intro a' hds W K hB lq ld hmem hK
      have e5 : a'.eval (.tmp 5) = .int .i64 (k : Int) := by rw [eval_tmp]; exact lq (5, .int .i64 (k : Int)) (by simp)
      have HK := Lib.hid (show K (a'.put (some 19) (.int .i64 (k : Int))) W from hK W (Below.refl _ _) trivial)
      clear hK ld lq hmem
      unfold Oper.wp
      simp only [execOp, e5]
      exact HK.out
    | 2, _ =>
      obtain ⟨ty, pos, aft, e, hdp⟩ := iop2
      rw [e] at ho
      obtain rfl := Option.some.inj ho
      intro a' hds W K hB lq ld hmem hK
      have e18 : a'.eval (.tmp 18) = .slice p sd.length cp := by rw [eval_tmp]; exact ld 0 18 (List.all_eq_true.1 hdp 0 (by decide)) rfl
      have e19 : a'.eval (.tmp 19) = .int .i64 (k : Int) := by rw [eval_tmp]; exact ld 1 19 (List.all_eq_true.1 hdp 1 (by decide)) rfl
      have HK := Lib.hid (show ∀ W', Below W.heap.size W W' → K (a'.put (some 20) (.int .i64 (byteN sd k : Int))) W' from fun W' h => hK W' h trivial)
      clear hK ld lq hmem
      refine step_call (vals := #[.slice p sd.length cp, .int .i64 (k : Int)]) (by exact ⟨_, _, Try.func77, by kernel_rfl, rfl⟩) (by simp only [List.map_toArray, List.map_cons, List.map_nil, e18, e19]) (pubByte_any p cp k sd W (ByteRow.next hsd hB) hsl (by omega)) ?_
      rintro e w' ⟨rfl, rfl⟩
      exact ⟨_, rfl, HK.out _ (Below.refl _ _)⟩
    | 3, _ =>
      obtain ⟨ty, pos, aft, e, hdp⟩ := iop3
      rw [e] at ho
      obtain rfl := Option.some.inj ho
      intro a' hds W K hB lq ld hmem hK
      have e2 : a'.eval (.tmp 2) = .pointer (some ⟨B, 0, none⟩) := by rw [eval_tmp]; exact lq (2, .pointer (some ⟨B, 0, none⟩)) (by simp)
      have HK := Lib.hid (show K (a'.put (some 21) (.pointer (some ⟨B, 1, none⟩))) W from hK W (Below.refl _ _) trivial)
      clear hK ld lq hmem
      unfold Oper.wp
      simp only [execOp, e2]
      go_simp
      exact HK.out
    | 4, _ =>
      obtain ⟨ty, pos, aft, e, hdp⟩ := iop4
      rw [e] at ho
      obtain rfl := Option.some.inj ho
      intro a' hds W K hB lq ld hmem hK
      have e21 : a'.eval (.tmp 21) = .pointer (some ⟨B, 1, none⟩) := by rw [eval_tmp]; exact ld 3 21 (List.all_eq_true.1 hdp 3 (by decide)) rfl
      have HK := Lib.hid (show K (a'.put (some 22) (.slice (some ⟨g, 0, none⟩) l q)) W from hK W (Below.refl _ _) trivial)
      clear hK ld lq hmem
      have c1 := (hbox.next hB).cell' 1 rfl
      unfold Oper.wp
      simp only [execOp, e21]
      go_simp
      exact HK.out
    | 5, _ =>
      obtain ⟨pos, aft, e, hdp⟩ := iop5
      rw [e] at ho
      obtain rfl := Option.some.inj ho
      intro a' hds W K hB lq ld hmem hK
      have e22 : a'.eval (.tmp 22) = .slice (some ⟨g, 0, none⟩) l q := by rw [eval_tmp]; exact ld 4 22 (List.all_eq_true.1 hdp 4 (by decide)) rfl
      have t22 := (eval_tmp a' 22).symm.trans e22
      have HK := Lib.hid (show K (a'.put (some 23) (.int .i64 (l : Int))) W from hK W (Below.refl _ _) trivial)
      clear hK ld lq hmem
      unfold Oper.wp
      simp only [execOp, e22]
      go_simp
      exact HK.out
    | 6, _ =>
      obtain ⟨ty, pos, aft, e, hdp⟩ := iop6
      rw [e] at ho
      obtain rfl := Option.some.inj ho
      intro a' hds W K hB lq ld hmem hK
      have e20 : a'.eval (.tmp 20) = .int .i64 (byteN sd k : Int) := by rw [eval_tmp]; exact ld 2 20 (List.all_eq_true.1 hdp 2 (by decide)) rfl
      have e23 : a'.eval (.tmp 23) = .int .i64 (l : Int) := by rw [eval_tmp]; exact ld 5 23 (List.all_eq_true.1 hdp 5 (by decide)) rfl
      have HK := Lib.hid (show K (a'.put (some 24) (.int .i64 ((byteN sd k % l : Nat) : Int))) W from hK W (Below.refl _ _) trivial)
      clear hK ld lq hmem
      have hy0 : ¬ l = 0 := by omega
      have hr0 := tmod_nn (byteN sd k) (l)
      unfold Oper.wp
      simp only [execOp, e20, e23]
      go_simp
      exact HK.out
    | 7, _ =>
      obtain ⟨ty, pos, aft, e, hdp⟩ := iop7
      rw [e] at ho
      obtain rfl := Option.some.inj ho
      intro a' hds W K hB lq ld hmem hK
      have e24 : a'.eval (.tmp 24) = .int .i64 ((byteN sd k % l : Nat) : Int) := by rw [eval_tmp]; exact ld 6 24 (List.all_eq_true.1 hdp 6 (by decide)) rfl
      have HK := Lib.hid (show K (a'.put (some 6) (.int .i64 ((byteN sd k % l : Nat) : Int))) W from hK W (Below.refl _ _) trivial)
      clear hK ld lq hmem
      unfold Oper.wp
      simp only [execOp, e24]
      exact HK.out
    | i + 8, h => omega
  · intro hds v W hO
    have hfin := gend (v 18) (v 19) (v 20) (v 21) (v 22) (v 23) (v 24) W hO.b
    rw [← laid_putL _ a v ?_] at hfin
    · exact hfin
    · intro p hp
      simp only [List.mem_cons, List.not_mem_nil, or_false] at hp
      rcases hp with rfl | rfl | rfl | rfl | rfl | rfl | rfl | rfl
      · rfl
      · rfl
      · rfl
      · rfl
      · rfl
      · rfl
      · rfl
      · exact hO.x 7 (show 7 < 8 by decide) 6 rfl
theorem ShAt.turn {w0 W : World} {n g l cap : Nat} {cs : List Card} (h : ShAt w0 n g l cap cs W) (i : Nat) (t : Bool) (hi : i < cs.length) : ShAt w0 n g l cap (turnC cs i t) (W.setCell ⟨g, i * 3 + 2, none⟩ (.bool t)) := by
  have hf := h.far
  exact ⟨h.box.other _ _ (by simp; omega), h.res.other _ _ (by simp; omega), h.blk.turn i t hi, h.b.setCell (by simp; omega) _, hf⟩
theorem card_same (cs : List Card) (i : Nat) : cs.set i (nthC cs i) = cs := by
  apply List.ext_getElem?
  intro j
  rw [List.getElem?_set]
  split
  · rename_i e; subst e
    split
    · rename_i h; simp [nthC, h]
    · rename_i h; rw [List.getElem?_eq_none (by omega)]
  · rfl
set_option maxRecDepth 100000 in
set_option maxHeartbeats 2000000 in
theorem pubMixed_any (n g c : Nat) (p : Option Addr) (cp : Nat) (sd xs : List Nat) (cs : List Card) (w : World) (h0 : 0 < cs.length) (hl : cs.length ≤ 60) (hx : CardsAt w g cs) (hs : Shuf xs cs) (hsd : ByteRow w p sd) (hsl : sd.length ≤ 9223372036854775807) :
    Calls Try.prog 83 #[.agg #[.int .i64 (n : Int), .slice (some ⟨g, 0, none⟩) cs.length c], .slice p sd.length cp] w fun e w' =>
      ∃ g' cap cs', e = .returned (.agg #[.int .i64 (n : Int), .slice (some ⟨g', 0, none⟩) cs.length cap]) ∧ Shuf xs cs' ∧ CardBlk w' g' cs' ∧ cs'.length = cs.length ∧ w.heap.size ≤ g' ∧ Below w.heap.size w w' := by
  obtain ⟨w0, hw0⟩ : ∃ w0, w0 = (w.alloc (.cells #[.int .i64 (n : Int), .slice (some ⟨g, 0, none⟩) cs.length c] 114)).alloc (.cells #[.int .i64 0, .slice none 0 0] 114) := ⟨_, rfl⟩
  have hO := OwnRow.new w n g 0 cs.length c 114
  have hbb : Below w.heap.size w w0 := by rw [hw0]; exact ((Below.refl _ _).alloc (Nat.le_refl _) _).alloc (by simp) _
  have hs0 : w0.heap.size = w.heap.size + 2 := by rw [hw0]; simp
  rw [← hw0] at hO
  have HA := Lib.hid (pubBelt_ok n g c cs w0 h0 hl (hx.next hbb))
  have HO := Lib.hid hO
  have Hbb := Lib.hid hbb
  have HW0 := Lib.hid hw0
  have Hs0 := Lib.hid hs0
  have Hsh := Lib.hid hs
  have Hsd := Lib.hid hsd
  clear hO hbb hw0 hs0 hs hx hsd
  go_enter Try.func83, Try.ntmps83
  go_wp2_with fail
  rw [← HW0.out]
  refine HA.out.mono ?_
  rintro e w1 ⟨g', cap, rfl, hr, hb⟩
  have hO1 := HO.out.next hb
  obtain ⟨hblk, hgl⟩ := CardBlk.of_row hr h0
  rw [Hs0.out] at hgl
  have d0 := hO1.b1.cell' (v := .int .i64 (n : Int)) 0 rfl
  have d1 := hO1.b1.cell' (v := .slice (some ⟨g, 0, none⟩) cs.length c) 1 rfl
  have f0 := hO1.b1.frozen 0
  have f1 := hO1.b1.frozen 1
  have hS0 : ShAt w n g' cs.length cap cs ((w1.setCell ⟨w.heap.size, 0, none⟩ (.int .i64 (n : Int))).setCell ⟨w.heap.size, 1, none⟩ (.slice (some ⟨g', 0, none⟩) cs.length cap)) :=
    ⟨(hO1.b1.set 0 (.int .i64 (n : Int))).set 1 (.slice (some ⟨g', 0, none⟩) cs.length cap), (hO1.b2.other _ _ (by simp)).other _ _ (by simp), (hblk.other _ _ (by simp; omega)).other _ _ (by simp; omega),
      ((Hbb.out.trans (hb.mono (by rw [Hs0.out]; omega))).setCell (by simp) _).setCell (by simp) _, by omega⟩
  have HS0 := Lib.hid hS0
  have hz : w.heap.size < w1.heap.size := hO1.b1.lt
  clear hr hb hO1 hblk hgl hS0 HA HO HW0
  go_wp2_with fail
  go_loopw [5] (fun i wr => ∃ (k : Nat) (cs' : List Card), k ≤ cs.length ∧ i = .int .i64 k ∧ Shuf xs cs' ∧ cs'.length = cs.length ∧ ShAt w n g' cs.length cap cs' wr) (fun i _ => cs.length - (intOf i).toNat)
  case atStart => exact ⟨0, cs, Nat.zero_le _, rfl, Hsh.out, rfl, HS0.out⟩
  case round =>
    obtain ⟨k, cs', hk, rfl, hsh, hlen, hT⟩ := hrel
    clear HS0 d0 d1 f0 f1
    have b1 : wr.cell? ⟨w.heap.size, 1, none⟩ = some (.slice (some ⟨g', 0, none⟩) cs.length cap) := hT.box.cell' 1 rfl
    have Hsh' := Lib.hid hsh
    have Hlen := Lib.hid hlen
    have HT := Lib.hid hT
    clear hsh hlen hT
    by_cases hlt : k < cs.length
    · go_upto_region 5 with fail
      refine region_mix5 n k cs.length g' cap w.heap.size p cp sd (ByteRow.next Hsd.out HT.out.b) hsl (by omega) h0 HT.out.box rfl ?hops (by kernel_rfl) (by kernel_rfl) (by kernel_rfl) (by kernel_rfl) ?hsz ?hout ?hend
      case hops => exact ⟨⟨_, _, _, rfl, by kernel_rfl⟩, ⟨_, _, _, rfl, by kernel_rfl⟩, ⟨_, _, _, rfl, by kernel_rfl⟩, ⟨_, _, _, rfl, by kernel_rfl⟩, ⟨_, _, _, rfl, by kernel_rfl⟩, ⟨_, _, rfl, by kernel_rfl⟩, ⟨_, _, _, rfl, by kernel_rfl⟩, ⟨_, _, _, rfl, by kernel_rfl⟩⟩
      case hsz => intro d hd; simp only [List.mem_cons, List.not_mem_nil, or_false] at hd; show d < 60; omega
      case hout => exact ⟨rfl, rfl, rfl⟩
      case hend =>
        intro u18 u19 u20 u21 u22 u23 u24 W5 hb5
        simp only [putL, List.foldl, Act.put, List.setIfInBounds_toArray, List.set_cons_succ, List.set_cons_zero]
        have HT5 := Lib.hid (HT.out.next hb5)
        obtain ⟨o, ho⟩ : ∃ o, byteN sd k % cs.length = o := ⟨_, rfl⟩
        have hol : o < cs.length := by rw [← ho]; exact Nat.mod_lt _ h0
        rw [ho]
        clear ho hb5 b1 HT
        have b1 : W5.cell? ⟨w.heap.size, 1, none⟩ = some (.slice (some ⟨g', 0, none⟩) cs.length cap) := HT5.out.box.cell' 1 rfl
        have hat := HT5.out.blk.at'
        have hka : k < cs'.length := by rw [Hlen.out]; exact hlt
        have hoa : o < cs'.length := by rw [Hlen.out]; exact hol
        have ek0 := hat.c0 k hka
        have ek1 := hat.c1 k hka
        have ek2 := hat.c2 k hka
        have eo0 := hat.c0 o hoa
        have eo1 := hat.c1 o hoa
        have eo2 := hat.c2 o hoa
        have hgz : g' < W5.heap.size := HT5.out.blk.lt
        have hwz : w.heap.size < W5.heap.size := HT5.out.box.lt
        have Hca := Lib.hid hka
        have Hoa := Lib.hid hoa
        obtain ⟨ca, hca⟩ : ∃ ca, nthC cs' k = ca := ⟨_, rfl⟩
        obtain ⟨cb, hcb⟩ : ∃ cb, nthC cs' o = cb := ⟨_, rfl⟩
        rw [hca] at ek0 ek1 ek2
        rw [hcb] at eo0 eo1 eo2
        have Hka := Lib.hid hca
        have Hkb := Lib.hid hcb
        obtain ⟨na, ra, ta⟩ := ca
        obtain ⟨nb, rb, tb⟩ := cb
        simp only at ek0 ek1 ek2 eo0 eo1 eo2
        have hk0 : (0 : Int) ≤ (k : Int) := by omega
        have hk1 : (k : Int) < (cs.length : Int) := by omega
        have ho0 : (0 : Int) ≤ (o : Int) := by omega
        have ho1 : (o : Int) < (cs.length : Int) := by omega
        clear hat hka hoa hca hcb
        go_upto_region 6 with fail
        go_cut [7, 8] from 25 to 35 (fun s7 s8 wx => Two W5 ⟨na, ra, ta⟩ ⟨nb, rb, tb⟩ s7 s8 wx)
        case first =>
          rename_i J6 K6 hJ6 hK6
          go_region
          all_goals refine hK6 _ _ (Met.intro (hJ6 _ _ ?_))
          all_goals (repeat apply Exists.intro)
          all_goals first | exact ⟨two_a W5 ⟨na, ra, ta⟩ ⟨nb, rb, tb⟩, rfl⟩ | exact ⟨two_b W5 ⟨na, ra, ta⟩ ⟨nb, rb, tb⟩, rfl⟩
        case rest =>
          obtain ⟨Y, Z, rfl, rfl, hY, hZ, hBY, hBZ, hbc⟩ := hcut
          have hTc := HT5.out.next hbc
          have b1 : wc.cell? ⟨w.heap.size, 1, none⟩ = some (.slice (some ⟨g', 0, none⟩) cs.length cap) := hTc.box.cell' 1 rfl
          have y0 : wc.cell? ⟨Y, 0, none⟩ = some (.int .i64 (na : Int)) := hBY.cell' 0 rfl
          have y1 : wc.cell? ⟨Y, 1, none⟩ = some (.int .i64 (ra : Int)) := hBY.cell' 1 rfl
          have y2 : wc.cell? ⟨Y, 2, none⟩ = some (.bool ta) := hBY.cell' 2 rfl
          have z0 : wc.cell? ⟨Z, 0, none⟩ = some (.int .i64 (nb : Int)) := hBZ.cell' 0 rfl
          have z1 : wc.cell? ⟨Z, 1, none⟩ = some (.int .i64 (rb : Int)) := hBZ.cell' 1 rfl
          have z2 : wc.cell? ⟨Z, 2, none⟩ = some (.bool tb) := hBZ.cell' 2 rfl
          have hat := hTc.blk.at'
          have ek0 := hat.c0 k Hca.out
          have ek1 := hat.c1 k Hca.out
          have ek2 := hat.c2 k Hca.out
          have eo0 := hat.c0 o Hoa.out
          have eo1 := hat.c1 o Hoa.out
          have eo2 := hat.c2 o Hoa.out
          rw [Hka.out] at ek0 ek1 ek2
          rw [Hkb.out] at eo0 eo1 eo2
          simp only at ek0 ek1 ek2 eo0 eo1 eo2
          have q0 := hTc.blk.frozen (k * 3)
          have q1 := hTc.blk.frozen (k * 3 + 1)
          have q2 := hTc.blk.frozen (k * 3 + 2)
          have q3 := hTc.blk.frozen (o * 3)
          have q4 := hTc.blk.frozen (o * 3 + 1)
          have q5 := hTc.blk.frozen (o * 3 + 2)
          have hfar := hTc.far
          have n1 : ¬ Y = g' := by omega
          have n2 : ¬ Z = g' := by omega
          have n3 : ¬ w.heap.size = g' := by omega
          have HTc := Lib.hid hTc
          clear hTc hBY hBZ hbc hat hfar hY hZ
          by_cases hok : o = k
          · subst hok
            have HS2 := Lib.hid (show ShAt w n g' cs.length cap cs' _ from (by
              have := HTc.out.set o ⟨na, ra, ta⟩
              rw [← Hka.out, card_same] at this
              rw [Hka.out] at this
              exact this))
            clear HTc
            go_upto_region 10 with fail
            obtain ⟨W6, hW6⟩ : ∃ W6, W6 = (((wc.setCell ⟨g', o * 3, none⟩ (.int .i64 (na : Int))).setCell ⟨g', o * 3 + 1, none⟩ (.int .i64 (ra : Int))).setCell ⟨g', o * 3 + 2, none⟩ (.bool ta)) := ⟨_, rfl⟩
            rw [← hW6]
            rw [← hW6] at HS2
            clear hW6 b1 y0 y1 y2 z0 z1 z2 ek0 ek1 ek2 eo0 eo1 eo2 q0 q1 q2 q3 q4 q5 
            obtain ⟨B, hB⟩ : ∃ B, byteN sd (o + 1) = B := ⟨_, rfl⟩
            have HBy := pubByte_any p cp (o + 1) sd W6.drew (ByteRow.next Hsd.out (HS2.out.b.trans ((below_drew1 W6).mono HS2.out.b.size))) hsl (by omega)
            rw [hB, show ((o + 1 : Nat) : Int) = (o : Int) + 1 by omega] at HBy
            have HBy := Lib.hid HBy
            have HsS := Lib.hid Hsh'.out
            have HlS := Lib.hid Hlen.out
            have e1 : W6.cell? ⟨w.heap.size, 1, none⟩ = some (.slice (some ⟨g', 0, none⟩) cs.length cap) := HS2.out.box.cell' 1 rfl
            have hgf : W6.frozen? ⟨g', o * 3 + 2, none⟩ = false := HS2.out.blk.frozen _
            have hgc := HS2.out.blk.at'.c2 o (by rw [HlS.out]; exact hlt)
            have hgl : g' < W6.heap.size := HS2.out.blk.lt
            have hn3 : ¬ ((3 : Int) = 0) := by decide
            have hq3 : Int.tmod (B : Int) 3 = ((B % 3 : Nat) : Int) := by rw [Int.tmod_eq_emod_of_nonneg (by omega)]; omega
            have hw1 : IntKind.i64.wrap ((o : Int) + 1) = (o : Int) + 1 := IntWalk.i64_in _ (by omega)
            clear hB
            go_wp2_with fail
            go_region_with ((with_reducible refine HBy.out.mono ?_); rintro e w' ⟨rfl, rfl⟩)
            all_goals go_wp2_with fail
            all_goals first
              | exact ⟨⟨o + 1, turnC cs' o ((B : Int) % 3 == 0), by omega, by go_num, HsS.out.turn (by rw [HlS.out]; exact hlt) _, (turnC_len _ _ _).trans HlS.out, (HS2.out.turn o _ (by rw [HlS.out]; exact hlt)).next (below_drew1 _)⟩, by simp [intOf]; omega⟩
          · have m1 : ¬ o * 3 = k * 3 := by omega
            have m2 : ¬ o * 3 = k * 3 + 1 := by omega
            have m3 : ¬ o * 3 = k * 3 + 2 := by omega
            have m4 : ¬ o * 3 + 1 = k * 3 := by omega
            have m5 : ¬ o * 3 + 1 = k * 3 + 1 := by omega
            have m6 : ¬ o * 3 + 1 = k * 3 + 2 := by omega
            have m7 : ¬ o * 3 + 2 = k * 3 := by omega
            have m8 : ¬ o * 3 + 2 = k * 3 + 1 := by omega
            have m9 : ¬ o * 3 + 2 = k * 3 + 2 := by omega
            have hsw : (cs'.set o ⟨na, ra, ta⟩).set k ⟨nb, rb, tb⟩ = swapC cs' o k := by unfold swapC; rw [Hka.out, Hkb.out]
            have HS2 := Lib.hid (show ShAt w n g' cs.length cap (swapC cs' o k) _ from hsw ▸ (HTc.out.set o ⟨na, ra, ta⟩).set k ⟨nb, rb, tb⟩)
            clear HTc hsw
            go_upto_region 10 with fail
            obtain ⟨W6, hW6⟩ : ∃ W6, W6 = ((((((wc.setCell ⟨g', o * 3, none⟩ (.int .i64 (na : Int))).setCell ⟨g', o * 3 + 1, none⟩ (.int .i64 (ra : Int))).setCell ⟨g', o * 3 + 2, none⟩ (.bool ta)).setCell ⟨g', k * 3, none⟩ (.int .i64 (nb : Int))).setCell ⟨g', k * 3 + 1, none⟩ (.int .i64 (rb : Int))).setCell ⟨g', k * 3 + 2, none⟩ (.bool tb)) := ⟨_, rfl⟩
            rw [← hW6]
            rw [← hW6] at HS2
            clear hW6 b1 y0 y1 y2 z0 z1 z2 ek0 ek1 ek2 eo0 eo1 eo2 q0 q1 q2 q3 q4 q5 m1 m2 m3 m4 m5 m6 m7 m8 m9
            obtain ⟨B, hB⟩ : ∃ B, byteN sd (k + 1) = B := ⟨_, rfl⟩
            have HBy := pubByte_any p cp (k + 1) sd W6.drew (ByteRow.next Hsd.out (HS2.out.b.trans ((below_drew1 W6).mono HS2.out.b.size))) hsl (by omega)
            rw [hB, show ((k + 1 : Nat) : Int) = (k : Int) + 1 by omega] at HBy
            have HBy := Lib.hid HBy
            have HsS := Lib.hid (Hsh'.out.swap Hoa.out Hca.out)
            have HlS := Lib.hid ((swapC_len cs' o k).trans Hlen.out)
            have e1 : W6.cell? ⟨w.heap.size, 1, none⟩ = some (.slice (some ⟨g', 0, none⟩) cs.length cap) := HS2.out.box.cell' 1 rfl
            have hgf : W6.frozen? ⟨g', k * 3 + 2, none⟩ = false := HS2.out.blk.frozen _
            have hgc := HS2.out.blk.at'.c2 k (by rw [HlS.out]; exact hlt)
            have hgl : g' < W6.heap.size := HS2.out.blk.lt
            have hn3 : ¬ ((3 : Int) = 0) := by decide
            have hq3 : Int.tmod (B : Int) 3 = ((B % 3 : Nat) : Int) := by rw [Int.tmod_eq_emod_of_nonneg (by omega)]; omega
            have hw1 : IntKind.i64.wrap ((k : Int) + 1) = (k : Int) + 1 := IntWalk.i64_in _ (by omega)
            clear hB
            go_wp2_with fail
            go_region_with ((with_reducible refine HBy.out.mono ?_); rintro e w' ⟨rfl, rfl⟩)
            all_goals go_wp2_with fail
            all_goals first
              | exact ⟨⟨k + 1, turnC (swapC cs' o k) k ((B : Int) % 3 == 0), by omega, by go_num, HsS.out.turn (by rw [HlS.out]; exact hlt) _, (turnC_len _ _ _).trans HlS.out, (HS2.out.turn k _ (by rw [HlS.out]; exact hlt)).next (below_drew1 _)⟩, by simp [intOf]; omega⟩
    · have b0 : wr.cell? ⟨w.heap.size, 0, none⟩ = some (.int .i64 (n : Int)) := HT.out.box.cell' 0 rfl
      have r0 : wr.cell? ⟨w.heap.size + 1, 0, none⟩ = some (.int .i64 0) := HT.out.res.cell' 0 rfl
      have r1 : wr.cell? ⟨w.heap.size + 1, 1, none⟩ = some (.slice none 0 0) := HT.out.res.cell' 1 rfl
      have f0 := HT.out.res.frozen 0
      have f1 := HT.out.res.frozen 1
      go_wp2_with fail
      refine bodyPost_ret (v := .agg #[.int .i64 (n : Int), .slice (some ⟨g', 0, none⟩) cs.length cap]) ?_ rfl ⟨g', cap, cs', rfl, Hsh'.out, ?_, Hlen.out, ?_, ?_⟩
      · have hb3 := (HT.out.res.set 0 (.int .i64 (n : Int))).set 1 (.slice (some ⟨g', 0, none⟩) cs.length cap)
        have d0 := hb3.cell' (v := .int .i64 (n : Int)) 0 rfl
        have d1 := hb3.cell' (v := .slice (some ⟨g', 0, none⟩) cs.length cap) 1 rfl
        simp [results, Try.results83, go_sem, d0, d1]
      · have hf := HT.out.far
        exact (HT.out.blk.other _ _ (by simp; omega)).other _ _ (by simp; omega)
      · have hf := HT.out.far; omega
      · exact (HT.out.b.setCell (by simp) _).setCell (by simp) _
end Go.Proofs.Ytdmgffoikebgkaa
/- TopBound: its regions that draw their order. -/
namespace Go.Proofs.Ytdmgffoikebgkaa
open Go.RowKit Go.Shelf
attribute [local go_sem] Oper.semAt_some

def region_tb2U : List (List Nat) := [[], [], [], [], [], [], [], [], []]
def region_tb2X (L g2 q2 D : Nat) (p : Option Addr) (cp : Nat) (sd : List Nat) : Nat → (Nat → Hd) → Value
  | 0, _ => .pointer (some ⟨D, 1, none⟩)
  | 1, _ => .slice (some ⟨g2, 0, none⟩) L q2
  | 2, _ => .int .i64 (L : Int)
  | 3, _ => .slice p sd.length cp
  | 4, _ => .int .i64 (byteN sd 0 : Int)
  | 5, _ => .int .i64 ((byteN sd 0 % 3 : Nat) : Int)
  | 6, _ => .int .i64 ((1 + byteN sd 0 % 3 : Nat) : Int)
  | 7, _ => .int .i64 (L : Int)
  | 8, _ => .int .i64 ((1 + byteN sd 0 % 3 : Nat) : Int)
  | _ + 9, _ => undef
theorem region_tb2X.congr (L g2 q2 D : Nat) (p : Option Addr) (cp : Nat) (sd : List Nat) : ∀ i hds hds', (∀ r ∈ uOf region_tb2U i, hds r = hds' r) → region_tb2X L g2 q2 D p cp sd i hds = region_tb2X L g2 q2 D p cp sd i hds'
  | 0, _, _, _ => rfl
  | 1, _, _, _ => rfl
  | 2, _, _, _ => rfl
  | 3, _, _, _ => rfl
  | 4, _, _, _ => rfl
  | 5, _, _, _ => rfl
  | 6, _, _, _ => rfl
  | 7, _, _, _ => rfl
  | 8, _, _, _ => rfl
  | _ + 9, _, _, _ => rfl
def region_tb2M  : Nat → Mem
  | _ => memNone
def region_tb2S  : Nat → Option Sto
  | _ => none
set_option maxRecDepth 8000 in
set_option maxHeartbeats 2000000 in
theorem region_tb2 {id : Nat} {ops : Array Oper} {Q : Exit → Act → World → Prop} {a : Act} {w : World} (N L g2 q2 D : Nat) (DS : List Nat) (p : Option Addr) (cp : Nat) (sd : List Nat) (hsd : ByteRow w p sd) (hsl : sd.length ≤ 9223372036854775807) (hD : BoxAt w D #[.int .i64 (N : Int), .slice (some ⟨g2, 0, none⟩) L q2] 37)
    (gsize : ops.size = 9)
    (gops : IsOp ops 0 (some 29) (.fieldAddr 37 (.tmp 7) 1) none [] ∧ IsOp ops 1 (some 30) (.load 24 (.tmp 29)) none [0] ∧ IsOpL ops 2 (some 31) (.call { callee := .builtin .len, args := #[.tmp 30], argTypes := #[24] }) none [1] ∧ IsOp ops 3 (some 32) (.move (.tmp 2)) none [] ∧ IsOp ops 4 (some 33) (.call { callee := .value (.func 77), args := #[.tmp 32, .const (.int .i64 0)], argTypes := #[89, 3] }) none [3] ∧ IsOp ops 5 (some 34) (.binOp .rem 3 (.tmp 33) (.const (.int .i64 3)) 3) none [4] ∧ IsOp ops 6 (some 35) (.binOp .add 3 (.const (.int .i64 1)) (.tmp 34) 3) none [5] ∧ IsOp ops 7 (some 8) (.assign (.tmp 31)) none [2] ∧ IsOp ops 8 (some 9) (.assign (.tmp 35)) none [6])
    (gbk : backB ops = true) (gds : dstsB ops (dOf [some 29, some 30, some 31, some 32, some 33, some 34, some 35, some 8, some 9]) = true) (gus : useB ops (uOf region_tb2U) (kOf [0, 0, 0, 0, 0, 0, 0, 0, 0]) = true) (ggd : plainB ops = true) (gsz : ∀ e ∈ [29, 30, 31, 32, 33, 34, 35, 8, 9], e < a.tmps.size)
    (gout : a.eval (.tmp 7) = .pointer (some ⟨D, 0, none⟩) ∧ a.eval (.tmp 2) = .slice p sd.length cp)
    (gend : ∀ (u29 u30 u31 u32 u33 u34 u35 : Value) (W : World), Below w.heap.size w W → Q .normal (putL a [(29, u29), (30, u30), (31, u31), (32, u32), (33, u33), (34, u34), (35, u35), (8, .int .i64 (L : Int)), (9, .int .i64 ((1 + byteN sd 0 % 3 : Nat) : Int))]) W) :
    (Code.region id ops true).wp Try.prog Q a w := by
  obtain ⟨iop0, iop1, iop2, iop3, iop4, iop5, iop6, iop7, iop8⟩ := gops
  obtain ⟨o7, o2⟩ := gout
  refine region_all (RSp.of 9 [some 29, some 30, some 31, some 32, some 33, some 34, some 35, some 8, some 9] (fun _ => true) (region_tb2X L g2 q2 D p cp sd) region_tb2U [0, 0, 0, 0, 0, 0, 0, 0, 0] (region_tb2M ) (region_tb2S )) [(7, .pointer (some ⟨D, 0, none⟩)), (2, .slice p sd.length cp)] [29, 30, 31, 32, 33, 34, 35, 8, 9] (RSp.of_fit gsize.symm gbk gds gus ggd (by decide) ?_) (RSp.of_ok _ (region_tb2X.congr L g2 q2 D p cp sd) ?_) gsz ?_ ?_ ?_
  · intro p hp
    have hp2 : p ∈ ([] : List (Nat × Nat)) := hp
    cases hp2
  · intro i s hds
    match i, hds with
    | 0, hds => cases hds
    | 1, hds => cases hds
    | 2, hds => cases hds
    | 3, hds => cases hds
    | 4, hds => cases hds
    | 5, hds => cases hds
    | 6, hds => cases hds
    | 7, hds => cases hds
    | 8, hds => cases hds
    | _ + 9, hds => cases hds
  · intro q hq
    simp only [List.mem_cons, List.not_mem_nil, or_false] at hq
    rcases hq with rfl | rfl
    · exact ⟨o7, by simp⟩
    · exact ⟨o2, by simp⟩
  · intro i o ho _
    have hi : i < 9 := by rw [← gsize]; exact (Array.getElem?_eq_some_iff.1 ho).1
    match i, hi with
    | 0, _ =>
      obtain ⟨ty, pos, aft, e, hdp⟩ := iop0
      rw [e] at ho
      obtain rfl := Option.some.inj ho
      intro a' hds W K hB lq ld hmem hK
      have e7 : a'.eval (.tmp 7) = .pointer (some ⟨D, 0, none⟩) := by rw [eval_tmp]; exact lq (7, .pointer (some ⟨D, 0, none⟩)) (by simp)
      have HK := Lib.hid (show K (a'.put (some 29) (.pointer (some ⟨D, 1, none⟩))) W from hK W (Below.refl _ _) trivial)
      clear hK ld lq hmem
      unfold Oper.wp
      simp only [execOp, e7]
      go_simp
      exact HK.out
    | 1, _ =>
      obtain ⟨ty, pos, aft, e, hdp⟩ := iop1
      rw [e] at ho
      obtain rfl := Option.some.inj ho
      intro a' hds W K hB lq ld hmem hK
      have e29 : a'.eval (.tmp 29) = .pointer (some ⟨D, 1, none⟩) := by rw [eval_tmp]; exact ld 0 29 (List.all_eq_true.1 hdp 0 (by decide)) rfl
      have HK := Lib.hid (show K (a'.put (some 30) (.slice (some ⟨g2, 0, none⟩) L q2)) W from hK W (Below.refl _ _) trivial)
      clear hK ld lq hmem
      have c1 := (hD.next hB).cell' 1 rfl
      unfold Oper.wp
      simp only [execOp, e29]
      go_simp
      exact HK.out
    | 2, _ =>
      obtain ⟨pos, aft, e, hdp⟩ := iop2
      rw [e] at ho
      obtain rfl := Option.some.inj ho
      intro a' hds W K hB lq ld hmem hK
      have e30 : a'.eval (.tmp 30) = .slice (some ⟨g2, 0, none⟩) L q2 := by rw [eval_tmp]; exact ld 1 30 (List.all_eq_true.1 hdp 1 (by decide)) rfl
      have t30 := (eval_tmp a' 30).symm.trans e30
      have HK := Lib.hid (show K (a'.put (some 31) (.int .i64 (L : Int))) W from hK W (Below.refl _ _) trivial)
      clear hK ld lq hmem
      unfold Oper.wp
      simp only [execOp, e30]
      go_simp
      exact HK.out
    | 3, _ =>
      obtain ⟨ty, pos, aft, e, hdp⟩ := iop3
      rw [e] at ho
      obtain rfl := Option.some.inj ho
      intro a' hds W K hB lq ld hmem hK
      have e2 : a'.eval (.tmp 2) = .slice p sd.length cp := by rw [eval_tmp]; exact lq (2, .slice p sd.length cp) (by simp)
      have HK := Lib.hid (show K (a'.put (some 32) (.slice p sd.length cp)) W from hK W (Below.refl _ _) trivial)
      clear hK ld lq hmem
      unfold Oper.wp
      simp only [execOp, e2]
      exact HK.out
    | 4, _ =>
      obtain ⟨ty, pos, aft, e, hdp⟩ := iop4
      rw [e] at ho
      obtain rfl := Option.some.inj ho
      intro a' hds W K hB lq ld hmem hK
      have e32 : a'.eval (.tmp 32) = .slice p sd.length cp := by rw [eval_tmp]; exact ld 3 32 (List.all_eq_true.1 hdp 3 (by decide)) rfl
      have HK := Lib.hid (show ∀ W', Below W.heap.size W W' → K (a'.put (some 33) (.int .i64 (byteN sd 0 : Int))) W' from fun W' h => hK W' h trivial)
      clear hK ld lq hmem
      refine step_call (vals := #[.slice p sd.length cp, .int .i64 0]) (by exact ⟨_, _, Try.func77, by kernel_rfl, rfl⟩) (by simp only [List.map_toArray, List.map_cons, List.map_nil, e32]; rfl) (pubByte_any p cp 0 sd W (ByteRow.next hsd hB) hsl (by omega)) ?_
      rintro e w' ⟨rfl, rfl⟩
      exact ⟨_, rfl, HK.out _ (Below.refl _ _)⟩
    | 5, _ =>
      obtain ⟨ty, pos, aft, e, hdp⟩ := iop5
      rw [e] at ho
      obtain rfl := Option.some.inj ho
      intro a' hds W K hB lq ld hmem hK
      have e33 : a'.eval (.tmp 33) = .int .i64 (byteN sd 0 : Int) := by rw [eval_tmp]; exact ld 4 33 (List.all_eq_true.1 hdp 4 (by decide)) rfl
      have HK := Lib.hid (show K (a'.put (some 34) (.int .i64 ((byteN sd 0 % 3 : Nat) : Int))) W from hK W (Below.refl _ _) trivial)
      clear hK ld lq hmem
      have hy0 : ¬ (3 : Int) = 0 := by omega
      have hr0 := tmod_nn (byteN sd 0) (3)
      unfold Oper.wp
      simp only [execOp, e33]
      go_simp
      exact HK.out
    | 6, _ =>
      obtain ⟨ty, pos, aft, e, hdp⟩ := iop6
      rw [e] at ho
      obtain rfl := Option.some.inj ho
      intro a' hds W K hB lq ld hmem hK
      have e34 : a'.eval (.tmp 34) = .int .i64 ((byteN sd 0 % 3 : Nat) : Int) := by rw [eval_tmp]; exact ld 5 34 (List.all_eq_true.1 hdp 5 (by decide)) rfl
      have HK := Lib.hid (show K (a'.put (some 35) (.int .i64 ((1 + byteN sd 0 % 3 : Nat) : Int))) W from hK W (Below.refl _ _) trivial)
      clear hK ld lq hmem
      have h3 : byteN sd 0 % 3 < 3 := Nat.mod_lt _ (by decide)
      obtain ⟨z, hz⟩ : ∃ z, byteN sd 0 % 3 = z := ⟨_, rfl⟩
      rw [hz] at HK e34 h3
      clear hz
      unfold Oper.wp
      simp only [execOp, e34]
      go_simp
      rw [(by rw [IntWalk.i64_in _ (by omega)]; omega : IntKind.i64.wrap (1 + (z : Int)) = ((1 + z : Nat) : Int))]; exact HK.out
    | 7, _ =>
      obtain ⟨ty, pos, aft, e, hdp⟩ := iop7
      rw [e] at ho
      obtain rfl := Option.some.inj ho
      intro a' hds W K hB lq ld hmem hK
      have e31 : a'.eval (.tmp 31) = .int .i64 (L : Int) := by rw [eval_tmp]; exact ld 2 31 (List.all_eq_true.1 hdp 2 (by decide)) rfl
      have HK := Lib.hid (show K (a'.put (some 8) (.int .i64 (L : Int))) W from hK W (Below.refl _ _) trivial)
      clear hK ld lq hmem
      unfold Oper.wp
      simp only [execOp, e31]
      exact HK.out
    | 8, _ =>
      obtain ⟨ty, pos, aft, e, hdp⟩ := iop8
      rw [e] at ho
      obtain rfl := Option.some.inj ho
      intro a' hds W K hB lq ld hmem hK
      have e35 : a'.eval (.tmp 35) = .int .i64 ((1 + byteN sd 0 % 3 : Nat) : Int) := by rw [eval_tmp]; exact ld 6 35 (List.all_eq_true.1 hdp 6 (by decide)) rfl
      have HK := Lib.hid (show K (a'.put (some 9) (.int .i64 ((1 + byteN sd 0 % 3 : Nat) : Int))) W from hK W (Below.refl _ _) trivial)
      clear hK ld lq hmem
      unfold Oper.wp
      simp only [execOp, e35]
      exact HK.out
    | i + 9, h => omega
  · intro hds v W hO
    have hfin := gend (v 29) (v 30) (v 31) (v 32) (v 33) (v 34) (v 35) W hO.b
    rw [← laid_putL _ a v ?_] at hfin
    · exact hfin
    · intro p hp
      simp only [List.mem_cons, List.not_mem_nil, or_false] at hp
      rcases hp with rfl | rfl | rfl | rfl | rfl | rfl | rfl | rfl | rfl
      · rfl
      · rfl
      · rfl
      · rfl
      · rfl
      · rfl
      · rfl
      · exact hO.x 7 (show 7 < 9 by decide) 8 rfl
      · exact hO.x 8 (show 8 < 9 by decide) 9 rfl
def region_tb3U : List (List Nat) := [[], [1], [], [3], [], [1, 3, 5], [1, 3, 5], [1, 3, 5], [1, 3, 5], [1, 3, 5], [10], [1, 3, 5, 10], [1, 3, 5], [1, 3, 5]]
def region_tb3X (N L g2 q2 : Nat) (DS : List Nat) (m : Nat) : Nat → (Nat → Hd) → Value
  | 0, _ => .agg #[.int .i64 (N : Int), .slice (some ⟨g2, 0, none⟩) L q2]
  | 1, hds => .agg #[.int .i64 (N : Int), .slice (some ⟨(hds 1).b, 0, none⟩) L (hds 1).c]
  | 2, _ => .int .i64 (L : Int)
  | 3, hds => .slice (some ⟨(hds 3).b, 0, none⟩) L L
  | 4, _ => .int .i64 (m : Int)
  | 5, hds => .tuple #[.agg #[.int .i64 (N : Int), .slice (some ⟨(hds 5).b, 0, none⟩) L (hds 5).c], .int .i64 (smOf N m DS : Int), .int .i64 0]
  | 6, hds => .tuple #[.agg #[.int .i64 (N : Int), .slice (some ⟨(hds 5).b, 0, none⟩) L (hds 5).c], .int .i64 (smOf N m DS : Int), .int .i64 0]
  | 7, hds => .agg #[.int .i64 (N : Int), .slice (some ⟨(hds 5).b, 0, none⟩) L (hds 5).c]
  | 8, _ => .int .i64 (smOf N m DS : Int)
  | 9, _ => .int .i64 0
  | 10, hds => .pointer (some ⟨(hds 10).b, 0, none⟩)
  | 11, _ => undef
  | 12, _ => .int .i64 (smOf N m DS : Int)
  | 13, _ => .int .i64 0
  | _ + 14, _ => undef
theorem region_tb3X.congr (N L g2 q2 : Nat) (DS : List Nat) (m : Nat) : ∀ i hds hds', (∀ r ∈ uOf region_tb3U i, hds r = hds' r) → region_tb3X N L g2 q2 DS m i hds = region_tb3X N L g2 q2 DS m i hds'
  | 0, _, _, _ => rfl
  | 1, hds, hds', h => by simp only [region_tb3X, h 1 (show 1 ∈ uOf region_tb3U 1 by decide)]
  | 2, _, _, _ => rfl
  | 3, hds, hds', h => by simp only [region_tb3X, h 3 (show 3 ∈ uOf region_tb3U 3 by decide)]
  | 4, _, _, _ => rfl
  | 5, hds, hds', h => by simp only [region_tb3X, h 5 (show 5 ∈ uOf region_tb3U 5 by decide)]
  | 6, hds, hds', h => by simp only [region_tb3X, h 5 (show 5 ∈ uOf region_tb3U 6 by decide)]
  | 7, hds, hds', h => by simp only [region_tb3X, h 5 (show 5 ∈ uOf region_tb3U 7 by decide)]
  | 8, _, _, _ => rfl
  | 9, _, _, _ => rfl
  | 10, hds, hds', h => by simp only [region_tb3X, h 10 (show 10 ∈ uOf region_tb3U 10 by decide)]
  | 11, _, _, _ => rfl
  | 12, _, _, _ => rfl
  | 13, _, _, _ => rfl
  | _ + 14, _, _, _ => rfl
def region_tb3M (N L : Nat) (DS : List Nat) (m : Nat) : Nat → Mem
  | 1 => memNats DS
  | 3 => memNats (List.replicate L 0)
  | 5 => memNats (zsOf N m DS)
  | 10 => memBox 2 37
  | _ => memNone
def region_tb3S (N L : Nat) : Nat → Option Sto
  | 11 => some ⟨10, 37, fun hds => #[.int .i64 (N : Int), .slice (some ⟨(hds 5).b, 0, none⟩) L (hds 5).c]⟩
  | _ => none
set_option maxRecDepth 8000 in
set_option maxHeartbeats 2000000 in
theorem region_tb3 {id : Nat} {ops : Array Oper} {Q : Exit → Act → World → Prop} {a : Act} {w : World} (N L g2 q2 D : Nat) (DS : List Nat) (m : Nat) (hDl : DS.length = L) (hVd : Valid N DS) (hn2 : NatsAt w g2 0 DS) (hg2 : g2 < w.heap.size) (h1 : 2 ≤ N) (h2 : N ≤ 8) (hm : 1 ≤ m) (hm2 : m ≤ 3) (h : ¬ (m = 1 ∧ N % 2 = 1)) (hL6 : L ≤ 60) (hD : BoxAt w D #[.int .i64 (N : Int), .slice (some ⟨g2, 0, none⟩) L q2] 37)
    (gsize : ops.size = 14)
    (gops : IsOp ops 0 (some 37) (.load 37 (.tmp 7)) none [] ∧ IsOp ops 1 (some 38) (.call { callee := .value (.func 78), args := #[.tmp 37], argTypes := #[37] }) none [0] ∧ IsOp ops 2 (some 39) (.move (.tmp 8)) none [] ∧ IsOp ops 3 (some 40) (.makeSlice 24 (.tmp 39) (.tmp 39)) none [2] ∧ IsOp ops 4 (some 41) (.move (.tmp 9)) none [] ∧ IsOp ops 5 (some 42) (.call { callee := .value (.func 69), args := #[.tmp 38, .tmp 40, .tmp 41], argTypes := #[37, 24, 3] }) none [1, 3, 4] ∧ IsOp ops 6 (some 36) (.move (.tmp 42)) none [5] ∧ IsOp ops 7 (some 43) (.extract (.tmp 36) 0) none [6] ∧ IsOp ops 8 (some 44) (.extract (.tmp 36) 1) none [6] ∧ IsOp ops 9 (some 45) (.extract (.tmp 36) 2) none [6] ∧ IsOp ops 10 (some 10) (.alloc 37) none [] ∧ IsOp ops 11 none (.store 37 (.tmp 10) (.tmp 43)) none [7, 10] ∧ IsOp ops 12 (some 11) (.assign (.tmp 44)) none [8] ∧ IsOp ops 13 (some 12) (.assign (.tmp 45)) none [9])
    (gbk : backB ops = true) (gds : dstsB ops (dOf [some 37, some 38, some 39, some 40, some 41, some 42, some 36, some 43, some 44, some 45, some 10, none, some 11, some 12]) = true) (gus : useB ops (uOf region_tb3U) (kOf [0, 1, 0, 1, 0, 1, 0, 0, 0, 0, 1, 12, 0, 0]) = true) (ggd : plainB ops = true) (gsz : ∀ e ∈ [37, 38, 39, 40, 41, 42, 36, 43, 44, 45, 10, 11, 12], e < a.tmps.size)
    (gout : a.eval (.tmp 7) = .pointer (some ⟨D, 0, none⟩) ∧ a.eval (.tmp 8) = .int .i64 (L : Int) ∧ a.eval (.tmp 9) = .int .i64 (m : Int))
    (gend : ∀ (g38 q38 G38 Q38 g40 q40 G40 Q40 g42 q42 G42 Q42 g10 q10 G10 Q10 : Nat) (P38 P40 P42 P10 : Option Addr) (u37 u38 u39 u40 u41 u42 u36 u43 u44 u45 : Value) (W : World), Below w.heap.size w W → (memNats DS).P ⟨g38, q38, G38, Q38, P38⟩ W → (∀ b ∈ (memNats DS).bl ⟨g38, q38, G38, Q38, P38⟩, w.heap.size ≤ b ∧ b < W.heap.size) → (memNats (List.replicate L 0)).P ⟨g40, q40, G40, Q40, P40⟩ W → (∀ b ∈ (memNats (List.replicate L 0)).bl ⟨g40, q40, G40, Q40, P40⟩, w.heap.size ≤ b ∧ b < W.heap.size) → (memNats (zsOf N m DS)).P ⟨g42, q42, G42, Q42, P42⟩ W → (∀ b ∈ (memNats (zsOf N m DS)).bl ⟨g42, q42, G42, Q42, P42⟩, w.heap.size ≤ b ∧ b < W.heap.size) → w.heap.size ≤ g10 → g10 < W.heap.size → BoxAt W g10 #[.int .i64 (N : Int), .slice (some ⟨g42, 0, none⟩) L q42] 37 → Q .normal (putL a [(37, u37), (38, u38), (39, u39), (40, u40), (41, u41), (42, u42), (36, u36), (43, u43), (44, u44), (45, u45), (10, .pointer (some ⟨g10, 0, none⟩)), (11, .int .i64 (smOf N m DS : Int)), (12, .int .i64 0)]) W) :
    (Code.region id ops true).wp Try.prog Q a w := by
  obtain ⟨iop0, iop1, iop2, iop3, iop4, iop5, iop6, iop7, iop8, iop9, iop10, iop11, iop12, iop13⟩ := gops
  obtain ⟨o7, o8, o9⟩ := gout
  refine region_all (RSp.of 14 [some 37, some 38, some 39, some 40, some 41, some 42, some 36, some 43, some 44, some 45, some 10, none, some 11, some 12] (fun _ => true) (region_tb3X N L g2 q2 DS m) region_tb3U [0, 1, 0, 1, 0, 1, 0, 0, 0, 0, 1, 12, 0, 0] (region_tb3M N L DS m) (region_tb3S N L)) [(7, .pointer (some ⟨D, 0, none⟩)), (8, .int .i64 (L : Int)), (9, .int .i64 (m : Int))] [37, 38, 39, 40, 41, 42, 36, 43, 44, 45, 10, 11, 12] (RSp.of_fit gsize.symm gbk gds gus ggd (by decide) ?_) (RSp.of_ok _ (region_tb3X.congr N L g2 q2 DS m) ?_) gsz ?_ ?_ ?_
  · intro p hp
    have hp2 : p ∈ [(11, 10)] := hp
    simp only [List.mem_cons, List.not_mem_nil, or_false] at hp2
    rcases hp2 with rfl
    · refine ⟨rfl, (show 10 ∈ uOf region_tb3U 11 by decide), fun _ => rfl, fun j hj hm => ?_⟩
      match j, hj with
      | 0, _ => rfl
      | 1, _ => rfl
      | 2, _ => rfl
      | 3, _ => rfl
      | 4, _ => rfl
      | 5, _ => rfl
      | 6, _ => rfl
      | 7, _ => rfl
      | 8, _ => rfl
      | 9, _ => rfl
      | 10, _ => rfl
      | 11, hj => exact absurd rfl hj
      | 12, _ => rfl
      | 13, _ => rfl
      | _ + 14, _ => rfl
  · intro i s hds
    match i, hds with
    | 0, hds => cases hds
    | 1, hds => cases hds
    | 2, hds => cases hds
    | 3, hds => cases hds
    | 4, hds => cases hds
    | 5, hds => cases hds
    | 6, hds => cases hds
    | 7, hds => cases hds
    | 8, hds => cases hds
    | 9, hds => cases hds
    | 10, hds => cases hds
    | 11, hds =>
      obtain rfl := Option.some.inj hds
      refine ⟨(show 10 ∈ uOf region_tb3U 11 by decide), fun _ => rfl, fun hds hds' h => ?_⟩
      simp only [h 5 (show 5 ∈ uOf region_tb3U 11 by decide)]
    | 12, hds => cases hds
    | 13, hds => cases hds
    | _ + 14, hds => cases hds
  · intro q hq
    simp only [List.mem_cons, List.not_mem_nil, or_false] at hq
    rcases hq with rfl | rfl | rfl
    · exact ⟨o7, by simp⟩
    · exact ⟨o8, by simp⟩
    · exact ⟨o9, by simp⟩
  · intro i o ho _
    have hi : i < 14 := by rw [← gsize]; exact (Array.getElem?_eq_some_iff.1 ho).1
    match i, hi with
    | 0, _ =>
      obtain ⟨ty, pos, aft, e, hdp⟩ := iop0
      rw [e] at ho
      obtain rfl := Option.some.inj ho
      intro a' hds W K hB lq ld hmem hK
      have e7 : a'.eval (.tmp 7) = .pointer (some ⟨D, 0, none⟩) := by rw [eval_tmp]; exact lq (7, .pointer (some ⟨D, 0, none⟩)) (by simp)
      have HK := Lib.hid (show K (a'.put (some 37) (.agg #[.int .i64 (N : Int), .slice (some ⟨g2, 0, none⟩) L q2])) W from hK W (Below.refl _ _) trivial)
      clear hK ld lq hmem
      have c0 := (hD.next hB).cell' 0 rfl
      have c1 := (hD.next hB).cell' 1 rfl
      unfold Oper.wp
      simp only [execOp, e7]
      go_simp
      exact HK.out
    | 1, _ =>
      obtain ⟨ty, pos, aft, e, hdp⟩ := iop1
      rw [e] at ho
      obtain rfl := Option.some.inj ho
      intro a' hds W K hB lq ld hmem hK
      have e37 : a'.eval (.tmp 37) = .agg #[.int .i64 (N : Int), .slice (some ⟨g2, 0, none⟩) L q2] := by rw [eval_tmp]; exact ld 0 37 (List.all_eq_true.1 hdp 0 (by decide)) rfl
      have HK := Lib.hid (show ∀ hh W', Below W.heap.size W W' → (memNats DS).P hh W' → (∀ b ∈ (memNats DS).bl hh, W.heap.size ≤ b ∧ b < W'.heap.size) → K (a'.put (some 38) (.agg #[.int .i64 (N : Int), .slice (some ⟨hh.b, 0, none⟩) L hh.c])) W' from fun hh W' h1 h2 h3 => by
        have h4 : K (a'.put (some 38) (region_tb3X N L g2 q2 DS m 1 (updH hds 1 hh))) W' := hK hh W' h1 h2 h3 trivial
        simp only [region_tb3X, updH_same] at h4
        exact h4)
      clear hK ld lq hmem
      refine step_call (vals := #[.agg #[.int .i64 (N : Int), .slice (some ⟨g2, 0, none⟩) L q2]]) (by exact ⟨_, _, Try.func78, by kernel_rfl, rfl⟩) (by simp only [List.map_toArray, List.map_cons, List.map_nil, e37]) (call78 N L g2 q2 DS W hDl (by have := hVd.l0; omega) (by have := hVd.l1; omega) (hn2.below hB hg2) (Nat.lt_of_lt_of_le hg2 hB.size)) ?_
      rintro e w' ⟨g, cap, rfl, hn, hl, hg, hb'⟩
      exact ⟨_, rfl, HK.out ⟨g, cap, 0, 0, none⟩ _ hb' ⟨hn, hg⟩ (bd_one hl hg)⟩
    | 2, _ =>
      obtain ⟨ty, pos, aft, e, hdp⟩ := iop2
      rw [e] at ho
      obtain rfl := Option.some.inj ho
      intro a' hds W K hB lq ld hmem hK
      have e8 : a'.eval (.tmp 8) = .int .i64 (L : Int) := by rw [eval_tmp]; exact lq (8, .int .i64 (L : Int)) (by simp)
      have HK := Lib.hid (show K (a'.put (some 39) (.int .i64 (L : Int))) W from hK W (Below.refl _ _) trivial)
      clear hK ld lq hmem
      unfold Oper.wp
      simp only [execOp, e8]
      exact HK.out
    | 3, _ =>
      obtain ⟨ty, pos, aft, e, hdp⟩ := iop3
      rw [e] at ho
      obtain rfl := Option.some.inj ho
      intro a' hds W K hB lq ld hmem hK
      have e39 : a'.eval (.tmp 39) = .int .i64 (L : Int) := by rw [eval_tmp]; exact ld 2 39 (List.all_eq_true.1 hdp 2 (by decide)) rfl
      have HK := Lib.hid (show ∀ hh W', Below W.heap.size W W' → (memNats (List.replicate L 0)).P hh W' → (∀ b ∈ (memNats (List.replicate L 0)).bl hh, W.heap.size ≤ b ∧ b < W'.heap.size) → K (a'.put (some 40) (.slice (some ⟨hh.b, 0, none⟩) L L)) W' from fun hh W' h1 h2 h3 => by
        have h4 : K (a'.put (some 40) (region_tb3X N L g2 q2 DS m 3 (updH hds 3 hh))) W' := hK hh W' h1 h2 h3 trivial
        simp only [region_tb3X, updH_same] at h4
        exact h4)
      clear hK ld lq hmem
      have hfin := Lib.hid (HK.out ⟨W.heap.size, 0, 0, 0, none⟩ _ ((Below.refl _ _).alloc (Nat.le_refl _) (.cells (madeCells #[.int .i64 0] L) 3)) ⟨(NatBlk.made W L).nats, (NatBlk.made W L).lt⟩ (bd_one (Nat.le_refl _) (by simp)))
      have hmk := run_make_row' (P := Try.prog) 24 3 (.int .i64 0) 8 Try.underlying24 Try.info3 rfl .i64 .i64 L (by omega) (by omega)
      clear HK
      unfold Oper.wp
      simp only [execOp, e39]
      go_simp
      exact hfin.out
    | 4, _ =>
      obtain ⟨ty, pos, aft, e, hdp⟩ := iop4
      rw [e] at ho
      obtain rfl := Option.some.inj ho
      intro a' hds W K hB lq ld hmem hK
      have e9 : a'.eval (.tmp 9) = .int .i64 (m : Int) := by rw [eval_tmp]; exact lq (9, .int .i64 (m : Int)) (by simp)
      have HK := Lib.hid (show K (a'.put (some 41) (.int .i64 (m : Int))) W from hK W (Below.refl _ _) trivial)
      clear hK ld lq hmem
      unfold Oper.wp
      simp only [execOp, e9]
      exact HK.out
    | 5, _ =>
      obtain ⟨ty, pos, aft, e, hdp⟩ := iop5
      rw [e] at ho
      obtain rfl := Option.some.inj ho
      intro a' hds W K hB lq ld hmem hK
      have e38 : a'.eval (.tmp 38) = .agg #[.int .i64 (N : Int), .slice (some ⟨(hds 1).b, 0, none⟩) L (hds 1).c] := by rw [eval_tmp]; exact ld 1 38 (List.all_eq_true.1 hdp 1 (by decide)) rfl
      have e40 : a'.eval (.tmp 40) = .slice (some ⟨(hds 3).b, 0, none⟩) L L := by rw [eval_tmp]; exact ld 3 40 (List.all_eq_true.1 hdp 3 (by decide)) rfl
      have e41 : a'.eval (.tmp 41) = .int .i64 (m : Int) := by rw [eval_tmp]; exact ld 4 41 (List.all_eq_true.1 hdp 4 (by decide)) rfl
      have HK := Lib.hid (show ∀ hh W', Below W.heap.size W W' → (memNats (zsOf N m DS)).P hh W' → (∀ b ∈ (memNats (zsOf N m DS)).bl hh, W.heap.size ≤ b ∧ b < W'.heap.size) → K (a'.put (some 42) (.tuple #[.agg #[.int .i64 (N : Int), .slice (some ⟨hh.b, 0, none⟩) L hh.c], .int .i64 (smOf N m DS : Int), .int .i64 0])) W' from fun hh W' h1 h2 h3 => by
        have h4 : K (a'.put (some 42) (region_tb3X N L g2 q2 DS m 5 (updH hds 5 hh))) W' := hK hh W' h1 h2 h3 trivial
        simp only [region_tb3X, updH_same] at h4
        exact h4)
      have m38   := (hmem 1 (show 1 ∈ uOf region_tb3U 5 by decide) (by decide)).1
      have m40   := (hmem 3 (show 3 ∈ uOf region_tb3U 5 by decide) (by decide)).1
      clear hK ld lq hmem
      refine step_call (vals := #[.agg #[.int .i64 (N : Int), .slice (some ⟨(hds 1).b, 0, none⟩) L (hds 1).c], .slice (some ⟨(hds 3).b, 0, none⟩) L L, .int .i64 (m : Int)]) (by exact ⟨_, _, Try.func69, by kernel_rfl, rfl⟩) (by simp only [List.map_toArray, List.map_cons, List.map_nil, e38, e40, e41]) (call69 N L (hds 1).b (hds 1).c (hds 3).b L m DS W hDl hVd h1 h2 hm hm2 h m38.1 m38.2 m40.1 m40.2) ?_
      rintro e w' ⟨g, cap, rfl, hn, hl, hg, hb'⟩
      exact ⟨_, rfl, HK.out ⟨g, cap, 0, 0, none⟩ _ hb' ⟨hn, hg⟩ (bd_one hl hg)⟩
    | 6, _ =>
      obtain ⟨ty, pos, aft, e, hdp⟩ := iop6
      rw [e] at ho
      obtain rfl := Option.some.inj ho
      intro a' hds W K hB lq ld hmem hK
      have e42 : a'.eval (.tmp 42) = .tuple #[.agg #[.int .i64 (N : Int), .slice (some ⟨(hds 5).b, 0, none⟩) L (hds 5).c], .int .i64 (smOf N m DS : Int), .int .i64 0] := by rw [eval_tmp]; exact ld 5 42 (List.all_eq_true.1 hdp 5 (by decide)) rfl
      have HK := Lib.hid (show K (a'.put (some 36) (.tuple #[.agg #[.int .i64 (N : Int), .slice (some ⟨(hds 5).b, 0, none⟩) L (hds 5).c], .int .i64 (smOf N m DS : Int), .int .i64 0])) W from hK W (Below.refl _ _) trivial)
      clear hK ld lq hmem
      unfold Oper.wp
      simp only [execOp, e42]
      exact HK.out
    | 7, _ =>
      obtain ⟨ty, pos, aft, e, hdp⟩ := iop7
      rw [e] at ho
      obtain rfl := Option.some.inj ho
      intro a' hds W K hB lq ld hmem hK
      have e36 : a'.eval (.tmp 36) = .tuple #[.agg #[.int .i64 (N : Int), .slice (some ⟨(hds 5).b, 0, none⟩) L (hds 5).c], .int .i64 (smOf N m DS : Int), .int .i64 0] := by rw [eval_tmp]; exact ld 6 36 (List.all_eq_true.1 hdp 6 (by decide)) rfl
      have HK := Lib.hid (show K (a'.put (some 43) (.agg #[.int .i64 (N : Int), .slice (some ⟨(hds 5).b, 0, none⟩) L (hds 5).c])) W from hK W (Below.refl _ _) trivial)
      clear hK ld lq hmem
      unfold Oper.wp
      simp only [execOp, e36]
      exact HK.out
    | 8, _ =>
      obtain ⟨ty, pos, aft, e, hdp⟩ := iop8
      rw [e] at ho
      obtain rfl := Option.some.inj ho
      intro a' hds W K hB lq ld hmem hK
      have e36 : a'.eval (.tmp 36) = .tuple #[.agg #[.int .i64 (N : Int), .slice (some ⟨(hds 5).b, 0, none⟩) L (hds 5).c], .int .i64 (smOf N m DS : Int), .int .i64 0] := by rw [eval_tmp]; exact ld 6 36 (List.all_eq_true.1 hdp 6 (by decide)) rfl
      have HK := Lib.hid (show K (a'.put (some 44) (.int .i64 (smOf N m DS : Int))) W from hK W (Below.refl _ _) trivial)
      clear hK ld lq hmem
      unfold Oper.wp
      simp only [execOp, e36]
      exact HK.out
    | 9, _ =>
      obtain ⟨ty, pos, aft, e, hdp⟩ := iop9
      rw [e] at ho
      obtain rfl := Option.some.inj ho
      intro a' hds W K hB lq ld hmem hK
      have e36 : a'.eval (.tmp 36) = .tuple #[.agg #[.int .i64 (N : Int), .slice (some ⟨(hds 5).b, 0, none⟩) L (hds 5).c], .int .i64 (smOf N m DS : Int), .int .i64 0] := by rw [eval_tmp]; exact ld 6 36 (List.all_eq_true.1 hdp 6 (by decide)) rfl
      have HK := Lib.hid (show K (a'.put (some 45) (.int .i64 0)) W from hK W (Below.refl _ _) trivial)
      clear hK ld lq hmem
      unfold Oper.wp
      simp only [execOp, e36]
      exact HK.out
    | 10, _ =>
      obtain ⟨ty, pos, aft, e, hdp⟩ := iop10
      rw [e] at ho
      obtain rfl := Option.some.inj ho
      intro a' hds W K hB lq ld hmem hK
      have HK := Lib.hid (show ∀ hh W', Below W.heap.size W W' → (memBox 2 37).P hh W' → (∀ b ∈ (memBox 2 37).bl hh, W.heap.size ≤ b ∧ b < W'.heap.size) → K (a'.put (some 10) (.pointer (some ⟨hh.b, 0, none⟩))) W' from fun hh W' h1 h2 h3 => by
        have h4 : K (a'.put (some 10) (region_tb3X N L g2 q2 DS m 10 (updH hds 10 hh))) W' := hK hh W' h1 h2 h3 trivial
        simp only [region_tb3X, updH_same] at h4
        exact h4)
      clear hK ld lq hmem
      have hfin := Lib.hid (HK.out ⟨W.heap.size, 0, 0, 0, none⟩ _ ((Below.refl _ _).alloc (Nat.le_refl _) (.cells #[.int .i64 0, .slice none 0 0] 37)) ⟨_, rfl, BoxAt.new W #[.int .i64 0, .slice none 0 0] 37⟩ (bd_one (Nat.le_refl _) (by simp)))
      clear HK
      unfold Oper.wp
      simp only [execOp]
      go_simp
      exact hfin.out
    | 11, _ =>
      obtain ⟨ty, pos, aft, e, hdp⟩ := iop11
      rw [e] at ho
      obtain rfl := Option.some.inj ho
      intro a' hds W K hB lq ld hmem hK
      have e10 : a'.eval (.tmp 10) = .pointer (some ⟨(hds 10).b, 0, none⟩) := by rw [eval_tmp]; exact ld 10 10 (List.all_eq_true.1 hdp 10 (by decide)) rfl
      have e43 : a'.eval (.tmp 43) = .agg #[.int .i64 (N : Int), .slice (some ⟨(hds 5).b, 0, none⟩) L (hds 5).c] := by rw [eval_tmp]; exact ld 7 43 (List.all_eq_true.1 hdp 7 (by decide)) rfl
      obtain ⟨⟨vs, hvs, hbx⟩, _⟩ := hmem 10 (show 10 ∈ uOf region_tb3U 11 by decide) (by decide)
      have hvl : vs.toList.length = 2 := by simpa using hvs
      obtain ⟨v0, v1, rfl⟩ : ∃ v0 v1, vs = #[v0, v1] := by
        cases vs with
        | mk l =>
          match l, hvl with
          | [v0, v1], _ => exact ⟨_, _, rfl⟩
      have HK := Lib.hid (show ∀ W', SetAt (hds 10).b W W' → (memBox 2 37).P (hds 10) W' → BoxAt W' (hds 10).b #[.int .i64 (N : Int), .slice (some ⟨(hds 5).b, 0, none⟩) L (hds 5).c] 37 → K a' W' from hK)
      clear hK ld lq hmem
      have hfin := Lib.hid (HK.out _ (((SetAt.refl (hds 10).b W).cell 0 (.int .i64 (N : Int))).cell 1 (.slice (some ⟨(hds 5).b, 0, none⟩) L (hds 5).c)) ⟨_, rfl, ((hbx).set 0 (.int .i64 (N : Int))).set 1 (.slice (some ⟨(hds 5).b, 0, none⟩) L (hds 5).c)⟩ (((hbx).set 0 (.int .i64 (N : Int))).set 1 (.slice (some ⟨(hds 5).b, 0, none⟩) L (hds 5).c)))
      have c0 := hbx.cell' 0 rfl
      have f0 := hbx.frozen 0
      have c1 := hbx.cell' 1 rfl
      have f1 := hbx.frozen 1
      have hlt := hbx.lt
      clear hbx hvl hvs HK
      generalize (hds 10).b = B at *
      unfold Oper.wp
      simp only [execOp, e10, e43]
      clear e10 e43
      go_simp
      exact hfin.out
    | 12, _ =>
      obtain ⟨ty, pos, aft, e, hdp⟩ := iop12
      rw [e] at ho
      obtain rfl := Option.some.inj ho
      intro a' hds W K hB lq ld hmem hK
      have e44 : a'.eval (.tmp 44) = .int .i64 (smOf N m DS : Int) := by rw [eval_tmp]; exact ld 8 44 (List.all_eq_true.1 hdp 8 (by decide)) rfl
      have HK := Lib.hid (show K (a'.put (some 11) (.int .i64 (smOf N m DS : Int))) W from hK W (Below.refl _ _) trivial)
      clear hK ld lq hmem
      unfold Oper.wp
      simp only [execOp, e44]
      exact HK.out
    | 13, _ =>
      obtain ⟨ty, pos, aft, e, hdp⟩ := iop13
      rw [e] at ho
      obtain rfl := Option.some.inj ho
      intro a' hds W K hB lq ld hmem hK
      have e45 : a'.eval (.tmp 45) = .int .i64 0 := by rw [eval_tmp]; exact ld 9 45 (List.all_eq_true.1 hdp 9 (by decide)) rfl
      have HK := Lib.hid (show K (a'.put (some 12) (.int .i64 0)) W from hK W (Below.refl _ _) trivial)
      clear hK ld lq hmem
      unfold Oper.wp
      simp only [execOp, e45]
      exact HK.out
    | i + 14, h => omega
  · intro hds v W hO
    have hfin := gend (hds 1).b (hds 1).c (hds 1).b2 (hds 1).c2 (hds 3).b (hds 3).c (hds 3).b2 (hds 3).c2 (hds 5).b (hds 5).c (hds 5).b2 (hds 5).c2 (hds 10).b (hds 10).c (hds 10).b2 (hds 10).c2 (hds 1).p (hds 3).p (hds 5).p (hds 10).p (v 37) (v 38) (v 39) (v 40) (v 41) (v 42) (v 36) (v 43) (v 44) (v 45) W hO.b (hO.m 1 (by show 1 < 14; decide) rfl).1 (hO.m 1 (by show 1 < 14; decide) rfl).2 (hO.m 3 (by show 3 < 14; decide) rfl).1 (hO.m 3 (by show 3 < 14; decide) rfl).2 (hO.m 5 (by show 5 < 14; decide) rfl).1 (hO.m 5 (by show 5 < 14; decide) rfl).2 ((hO.m 10 (by show 10 < 14; decide) rfl).2 _ (by show _ ∈ [_]; simp)).1 ((hO.m 10 (by show 10 < 14; decide) rfl).2 _ (by show _ ∈ [_]; simp)).2 (hO.s 11 (by show 11 < 14; decide) rfl)
    rw [← laid_putL _ a v ?_] at hfin
    · exact hfin
    · intro p hp
      simp only [List.mem_cons, List.not_mem_nil, or_false] at hp
      rcases hp with rfl | rfl | rfl | rfl | rfl | rfl | rfl | rfl | rfl | rfl | rfl | rfl | rfl
      · rfl
      · rfl
      · rfl
      · rfl
      · rfl
      · rfl
      · rfl
      · rfl
      · rfl
      · rfl
      · exact hO.x 10 (show 10 < 14 by decide) 10 rfl
      · exact hO.x 12 (show 12 < 14 by decide) 11 rfl
      · exact hO.x 13 (show 13 < 14 by decide) 12 rfl
def region_tb3nU : List (List Nat) := [[], [1], [], [3], [], [1, 3], [1, 3], [1, 3], [1, 3], [1, 3], [10], [1, 3, 10], [1, 3], [1, 3]]
def region_tb3nX (N L g2 q2 : Nat) : Nat → (Nat → Hd) → Value
  | 0, _ => .agg #[.int .i64 (N : Int), .slice (some ⟨g2, 0, none⟩) L q2]
  | 1, hds => .agg #[.int .i64 (N : Int), .slice (some ⟨(hds 1).b, 0, none⟩) L (hds 1).c]
  | 2, _ => .int .i64 (L : Int)
  | 3, hds => .slice (some ⟨(hds 3).b, 0, none⟩) L L
  | 4, _ => .int .i64 1
  | 5, _ => .tuple #[.agg #[.int .i64 0, .slice none 0 0], .int .i64 0, .int .i64 9]
  | 6, _ => .tuple #[.agg #[.int .i64 0, .slice none 0 0], .int .i64 0, .int .i64 9]
  | 7, _ => .agg #[.int .i64 0, .slice none 0 0]
  | 8, _ => .int .i64 0
  | 9, _ => .int .i64 9
  | 10, hds => .pointer (some ⟨(hds 10).b, 0, none⟩)
  | 11, _ => undef
  | 12, _ => .int .i64 0
  | 13, _ => .int .i64 9
  | _ + 14, _ => undef
theorem region_tb3nX.congr (N L g2 q2 : Nat) : ∀ i hds hds', (∀ r ∈ uOf region_tb3nU i, hds r = hds' r) → region_tb3nX N L g2 q2 i hds = region_tb3nX N L g2 q2 i hds'
  | 0, _, _, _ => rfl
  | 1, hds, hds', h => by simp only [region_tb3nX, h 1 (show 1 ∈ uOf region_tb3nU 1 by decide)]
  | 2, _, _, _ => rfl
  | 3, hds, hds', h => by simp only [region_tb3nX, h 3 (show 3 ∈ uOf region_tb3nU 3 by decide)]
  | 4, _, _, _ => rfl
  | 5, _, _, _ => rfl
  | 6, _, _, _ => rfl
  | 7, _, _, _ => rfl
  | 8, _, _, _ => rfl
  | 9, _, _, _ => rfl
  | 10, hds, hds', h => by simp only [region_tb3nX, h 10 (show 10 ∈ uOf region_tb3nU 10 by decide)]
  | 11, _, _, _ => rfl
  | 12, _, _, _ => rfl
  | 13, _, _, _ => rfl
  | _ + 14, _, _, _ => rfl
def region_tb3nM (L : Nat) (DS : List Nat) : Nat → Mem
  | 1 => memNats DS
  | 3 => memNats (List.replicate L 0)
  | 10 => memBox 2 37
  | _ => memNone
def region_tb3nS  : Nat → Option Sto
  | 11 => some ⟨10, 37, fun _ => #[.int .i64 0, .slice none 0 0]⟩
  | _ => none
set_option maxRecDepth 8000 in
set_option maxHeartbeats 2000000 in
theorem region_tb3n {id : Nat} {ops : Array Oper} {Q : Exit → Act → World → Prop} {a : Act} {w : World} (N L g2 q2 D : Nat) (DS : List Nat) (hDl : DS.length = L) (hVd : Valid N DS) (hn2 : NatsAt w g2 0 DS) (hg2 : g2 < w.heap.size) (h2 : N ≤ 8) (h : N % 2 = 1) (hL6 : L ≤ 60) (hD : BoxAt w D #[.int .i64 (N : Int), .slice (some ⟨g2, 0, none⟩) L q2] 37)
    (gsize : ops.size = 14)
    (gops : IsOp ops 0 (some 37) (.load 37 (.tmp 7)) none [] ∧ IsOp ops 1 (some 38) (.call { callee := .value (.func 78), args := #[.tmp 37], argTypes := #[37] }) none [0] ∧ IsOp ops 2 (some 39) (.move (.tmp 8)) none [] ∧ IsOp ops 3 (some 40) (.makeSlice 24 (.tmp 39) (.tmp 39)) none [2] ∧ IsOp ops 4 (some 41) (.move (.tmp 9)) none [] ∧ IsOp ops 5 (some 42) (.call { callee := .value (.func 69), args := #[.tmp 38, .tmp 40, .tmp 41], argTypes := #[37, 24, 3] }) none [1, 3, 4] ∧ IsOp ops 6 (some 36) (.move (.tmp 42)) none [5] ∧ IsOp ops 7 (some 43) (.extract (.tmp 36) 0) none [6] ∧ IsOp ops 8 (some 44) (.extract (.tmp 36) 1) none [6] ∧ IsOp ops 9 (some 45) (.extract (.tmp 36) 2) none [6] ∧ IsOp ops 10 (some 10) (.alloc 37) none [] ∧ IsOp ops 11 none (.store 37 (.tmp 10) (.tmp 43)) none [7, 10] ∧ IsOp ops 12 (some 11) (.assign (.tmp 44)) none [8] ∧ IsOp ops 13 (some 12) (.assign (.tmp 45)) none [9])
    (gbk : backB ops = true) (gds : dstsB ops (dOf [some 37, some 38, some 39, some 40, some 41, some 42, some 36, some 43, some 44, some 45, some 10, none, some 11, some 12]) = true) (gus : useB ops (uOf region_tb3nU) (kOf [0, 1, 0, 1, 0, 0, 0, 0, 0, 0, 1, 12, 0, 0]) = true) (ggd : plainB ops = true) (gsz : ∀ e ∈ [37, 38, 39, 40, 41, 42, 36, 43, 44, 45, 10, 11, 12], e < a.tmps.size)
    (gout : a.eval (.tmp 7) = .pointer (some ⟨D, 0, none⟩) ∧ a.eval (.tmp 8) = .int .i64 (L : Int) ∧ a.eval (.tmp 9) = .int .i64 1)
    (gend : ∀ (g38 q38 G38 Q38 g40 q40 G40 Q40 g10 q10 G10 Q10 : Nat) (P38 P40 P10 : Option Addr) (u37 u38 u39 u40 u41 u42 u36 u43 u44 u45 u10 u11 : Value) (W : World), Below w.heap.size w W → (memNats DS).P ⟨g38, q38, G38, Q38, P38⟩ W → (∀ b ∈ (memNats DS).bl ⟨g38, q38, G38, Q38, P38⟩, w.heap.size ≤ b ∧ b < W.heap.size) → (memNats (List.replicate L 0)).P ⟨g40, q40, G40, Q40, P40⟩ W → (∀ b ∈ (memNats (List.replicate L 0)).bl ⟨g40, q40, G40, Q40, P40⟩, w.heap.size ≤ b ∧ b < W.heap.size) → w.heap.size ≤ g10 → g10 < W.heap.size → BoxAt W g10 #[.int .i64 0, .slice none 0 0] 37 → Q .normal (putL a [(37, u37), (38, u38), (39, u39), (40, u40), (41, u41), (42, u42), (36, u36), (43, u43), (44, u44), (45, u45), (10, u10), (11, u11), (12, .int .i64 9)]) W) :
    (Code.region id ops true).wp Try.prog Q a w := by
  obtain ⟨iop0, iop1, iop2, iop3, iop4, iop5, iop6, iop7, iop8, iop9, iop10, iop11, iop12, iop13⟩ := gops
  obtain ⟨o7, o8, o9⟩ := gout
  refine region_all (RSp.of 14 [some 37, some 38, some 39, some 40, some 41, some 42, some 36, some 43, some 44, some 45, some 10, none, some 11, some 12] (fun _ => true) (region_tb3nX N L g2 q2) region_tb3nU [0, 1, 0, 1, 0, 0, 0, 0, 0, 0, 1, 12, 0, 0] (region_tb3nM L DS) (region_tb3nS )) [(7, .pointer (some ⟨D, 0, none⟩)), (8, .int .i64 (L : Int)), (9, .int .i64 1)] [37, 38, 39, 40, 41, 42, 36, 43, 44, 45, 10, 11, 12] (RSp.of_fit gsize.symm gbk gds gus ggd (by decide) ?_) (RSp.of_ok _ (region_tb3nX.congr N L g2 q2) ?_) gsz ?_ ?_ ?_
  · intro p hp
    have hp2 : p ∈ [(11, 10)] := hp
    simp only [List.mem_cons, List.not_mem_nil, or_false] at hp2
    rcases hp2 with rfl
    · refine ⟨rfl, (show 10 ∈ uOf region_tb3nU 11 by decide), fun _ => rfl, fun j hj hm => ?_⟩
      match j, hj with
      | 0, _ => rfl
      | 1, _ => rfl
      | 2, _ => rfl
      | 3, _ => rfl
      | 4, _ => rfl
      | 5, _ => rfl
      | 6, _ => rfl
      | 7, _ => rfl
      | 8, _ => rfl
      | 9, _ => rfl
      | 10, _ => rfl
      | 11, hj => exact absurd rfl hj
      | 12, _ => rfl
      | 13, _ => rfl
      | _ + 14, _ => rfl
  · intro i s hds
    match i, hds with
    | 0, hds => cases hds
    | 1, hds => cases hds
    | 2, hds => cases hds
    | 3, hds => cases hds
    | 4, hds => cases hds
    | 5, hds => cases hds
    | 6, hds => cases hds
    | 7, hds => cases hds
    | 8, hds => cases hds
    | 9, hds => cases hds
    | 10, hds => cases hds
    | 11, hds =>
      obtain rfl := Option.some.inj hds
      refine ⟨(show 10 ∈ uOf region_tb3nU 11 by decide), fun _ => rfl, fun hds hds' h => ?_⟩
      rfl
    | 12, hds => cases hds
    | 13, hds => cases hds
    | _ + 14, hds => cases hds
  · intro q hq
    simp only [List.mem_cons, List.not_mem_nil, or_false] at hq
    rcases hq with rfl | rfl | rfl
    · exact ⟨o7, by simp⟩
    · exact ⟨o8, by simp⟩
    · exact ⟨o9, by simp⟩
  · intro i o ho _
    have hi : i < 14 := by rw [← gsize]; exact (Array.getElem?_eq_some_iff.1 ho).1
    match i, hi with
    | 0, _ =>
      obtain ⟨ty, pos, aft, e, hdp⟩ := iop0
      rw [e] at ho
      obtain rfl := Option.some.inj ho
      intro a' hds W K hB lq ld hmem hK
      have e7 : a'.eval (.tmp 7) = .pointer (some ⟨D, 0, none⟩) := by rw [eval_tmp]; exact lq (7, .pointer (some ⟨D, 0, none⟩)) (by simp)
      have HK := Lib.hid (show K (a'.put (some 37) (.agg #[.int .i64 (N : Int), .slice (some ⟨g2, 0, none⟩) L q2])) W from hK W (Below.refl _ _) trivial)
      clear hK ld lq hmem
      have c0 := (hD.next hB).cell' 0 rfl
      have c1 := (hD.next hB).cell' 1 rfl
      unfold Oper.wp
      simp only [execOp, e7]
      go_simp
      exact HK.out
    | 1, _ =>
      obtain ⟨ty, pos, aft, e, hdp⟩ := iop1
      rw [e] at ho
      obtain rfl := Option.some.inj ho
      intro a' hds W K hB lq ld hmem hK
      have e37 : a'.eval (.tmp 37) = .agg #[.int .i64 (N : Int), .slice (some ⟨g2, 0, none⟩) L q2] := by rw [eval_tmp]; exact ld 0 37 (List.all_eq_true.1 hdp 0 (by decide)) rfl
      have HK := Lib.hid (show ∀ hh W', Below W.heap.size W W' → (memNats DS).P hh W' → (∀ b ∈ (memNats DS).bl hh, W.heap.size ≤ b ∧ b < W'.heap.size) → K (a'.put (some 38) (.agg #[.int .i64 (N : Int), .slice (some ⟨hh.b, 0, none⟩) L hh.c])) W' from fun hh W' h1 h2 h3 => by
        have h4 : K (a'.put (some 38) (region_tb3nX N L g2 q2 1 (updH hds 1 hh))) W' := hK hh W' h1 h2 h3 trivial
        simp only [region_tb3nX, updH_same] at h4
        exact h4)
      clear hK ld lq hmem
      refine step_call (vals := #[.agg #[.int .i64 (N : Int), .slice (some ⟨g2, 0, none⟩) L q2]]) (by exact ⟨_, _, Try.func78, by kernel_rfl, rfl⟩) (by simp only [List.map_toArray, List.map_cons, List.map_nil, e37]) (call78 N L g2 q2 DS W hDl (by have := hVd.l0; omega) (by have := hVd.l1; omega) (hn2.below hB hg2) (Nat.lt_of_lt_of_le hg2 hB.size)) ?_
      rintro e w' ⟨g, cap, rfl, hn, hl, hg, hb'⟩
      exact ⟨_, rfl, HK.out ⟨g, cap, 0, 0, none⟩ _ hb' ⟨hn, hg⟩ (bd_one hl hg)⟩
    | 2, _ =>
      obtain ⟨ty, pos, aft, e, hdp⟩ := iop2
      rw [e] at ho
      obtain rfl := Option.some.inj ho
      intro a' hds W K hB lq ld hmem hK
      have e8 : a'.eval (.tmp 8) = .int .i64 (L : Int) := by rw [eval_tmp]; exact lq (8, .int .i64 (L : Int)) (by simp)
      have HK := Lib.hid (show K (a'.put (some 39) (.int .i64 (L : Int))) W from hK W (Below.refl _ _) trivial)
      clear hK ld lq hmem
      unfold Oper.wp
      simp only [execOp, e8]
      exact HK.out
    | 3, _ =>
      obtain ⟨ty, pos, aft, e, hdp⟩ := iop3
      rw [e] at ho
      obtain rfl := Option.some.inj ho
      intro a' hds W K hB lq ld hmem hK
      have e39 : a'.eval (.tmp 39) = .int .i64 (L : Int) := by rw [eval_tmp]; exact ld 2 39 (List.all_eq_true.1 hdp 2 (by decide)) rfl
      have HK := Lib.hid (show ∀ hh W', Below W.heap.size W W' → (memNats (List.replicate L 0)).P hh W' → (∀ b ∈ (memNats (List.replicate L 0)).bl hh, W.heap.size ≤ b ∧ b < W'.heap.size) → K (a'.put (some 40) (.slice (some ⟨hh.b, 0, none⟩) L L)) W' from fun hh W' h1 h2 h3 => by
        have h4 : K (a'.put (some 40) (region_tb3nX N L g2 q2 3 (updH hds 3 hh))) W' := hK hh W' h1 h2 h3 trivial
        simp only [region_tb3nX, updH_same] at h4
        exact h4)
      clear hK ld lq hmem
      have hfin := Lib.hid (HK.out ⟨W.heap.size, 0, 0, 0, none⟩ _ ((Below.refl _ _).alloc (Nat.le_refl _) (.cells (madeCells #[.int .i64 0] L) 3)) ⟨(NatBlk.made W L).nats, (NatBlk.made W L).lt⟩ (bd_one (Nat.le_refl _) (by simp)))
      have hmk := run_make_row' (P := Try.prog) 24 3 (.int .i64 0) 8 Try.underlying24 Try.info3 rfl .i64 .i64 L (by omega) (by omega)
      clear HK
      unfold Oper.wp
      simp only [execOp, e39]
      go_simp
      exact hfin.out
    | 4, _ =>
      obtain ⟨ty, pos, aft, e, hdp⟩ := iop4
      rw [e] at ho
      obtain rfl := Option.some.inj ho
      intro a' hds W K hB lq ld hmem hK
      have e9 : a'.eval (.tmp 9) = .int .i64 1 := by rw [eval_tmp]; exact lq (9, .int .i64 1) (by simp)
      have HK := Lib.hid (show K (a'.put (some 41) (.int .i64 1)) W from hK W (Below.refl _ _) trivial)
      clear hK ld lq hmem
      unfold Oper.wp
      simp only [execOp, e9]
      exact HK.out
    | 5, _ =>
      obtain ⟨ty, pos, aft, e, hdp⟩ := iop5
      rw [e] at ho
      obtain rfl := Option.some.inj ho
      intro a' hds W K hB lq ld hmem hK
      have e38 : a'.eval (.tmp 38) = .agg #[.int .i64 (N : Int), .slice (some ⟨(hds 1).b, 0, none⟩) L (hds 1).c] := by rw [eval_tmp]; exact ld 1 38 (List.all_eq_true.1 hdp 1 (by decide)) rfl
      have e40 : a'.eval (.tmp 40) = .slice (some ⟨(hds 3).b, 0, none⟩) L L := by rw [eval_tmp]; exact ld 3 40 (List.all_eq_true.1 hdp 3 (by decide)) rfl
      have e41 : a'.eval (.tmp 41) = .int .i64 1 := by rw [eval_tmp]; exact ld 4 41 (List.all_eq_true.1 hdp 4 (by decide)) rfl
      have m38   := (hmem 1 (show 1 ∈ uOf region_tb3nU 5 by decide) (by decide)).1
      have m40   := (hmem 3 (show 3 ∈ uOf region_tb3nU 5 by decide) (by decide)).1
      have HK := Lib.hid (show ∀ W', Below W.heap.size W W' → K (a'.put (some 42) (.tuple #[.agg #[.int .i64 0, .slice none 0 0], .int .i64 0, .int .i64 9])) W' from fun W' h => hK W' h trivial)
      clear hK ld lq hmem
      refine step_call (vals := #[.agg #[.int .i64 (N : Int), .slice (some ⟨(hds 1).b, 0, none⟩) L (hds 1).c], .slice (some ⟨(hds 3).b, 0, none⟩) L L, .int .i64 1]) (by exact ⟨_, _, Try.func69, by kernel_rfl, rfl⟩) (by simp only [List.map_toArray, List.map_cons, List.map_nil, e38, e40, e41]) (call69n N L (hds 1).b (hds 1).c (hds 3).b L DS W hDl hVd h2 h m38.1 m38.2 m40.1 m40.2) ?_
      rintro e w' ⟨rfl, hb'⟩
      exact ⟨_, rfl, HK.out _ hb'⟩
    | 6, _ =>
      obtain ⟨ty, pos, aft, e, hdp⟩ := iop6
      rw [e] at ho
      obtain rfl := Option.some.inj ho
      intro a' hds W K hB lq ld hmem hK
      have e42 : a'.eval (.tmp 42) = .tuple #[.agg #[.int .i64 0, .slice none 0 0], .int .i64 0, .int .i64 9] := by rw [eval_tmp]; exact ld 5 42 (List.all_eq_true.1 hdp 5 (by decide)) rfl
      have HK := Lib.hid (show K (a'.put (some 36) (.tuple #[.agg #[.int .i64 0, .slice none 0 0], .int .i64 0, .int .i64 9])) W from hK W (Below.refl _ _) trivial)
      clear hK ld lq hmem
      unfold Oper.wp
      simp only [execOp, e42]
      exact HK.out
    | 7, _ =>
      obtain ⟨ty, pos, aft, e, hdp⟩ := iop7
      rw [e] at ho
      obtain rfl := Option.some.inj ho
      intro a' hds W K hB lq ld hmem hK
      have e36 : a'.eval (.tmp 36) = .tuple #[.agg #[.int .i64 0, .slice none 0 0], .int .i64 0, .int .i64 9] := by rw [eval_tmp]; exact ld 6 36 (List.all_eq_true.1 hdp 6 (by decide)) rfl
      have HK := Lib.hid (show K (a'.put (some 43) (.agg #[.int .i64 0, .slice none 0 0])) W from hK W (Below.refl _ _) trivial)
      clear hK ld lq hmem
      unfold Oper.wp
      simp only [execOp, e36]
      exact HK.out
    | 8, _ =>
      obtain ⟨ty, pos, aft, e, hdp⟩ := iop8
      rw [e] at ho
      obtain rfl := Option.some.inj ho
      intro a' hds W K hB lq ld hmem hK
      have e36 : a'.eval (.tmp 36) = .tuple #[.agg #[.int .i64 0, .slice none 0 0], .int .i64 0, .int .i64 9] := by rw [eval_tmp]; exact ld 6 36 (List.all_eq_true.1 hdp 6 (by decide)) rfl
      have HK := Lib.hid (show K (a'.put (some 44) (.int .i64 0)) W from hK W (Below.refl _ _) trivial)
      clear hK ld lq hmem
      unfold Oper.wp
      simp only [execOp, e36]
      exact HK.out
    | 9, _ =>
      obtain ⟨ty, pos, aft, e, hdp⟩ := iop9
      rw [e] at ho
      obtain rfl := Option.some.inj ho
      intro a' hds W K hB lq ld hmem hK
      have e36 : a'.eval (.tmp 36) = .tuple #[.agg #[.int .i64 0, .slice none 0 0], .int .i64 0, .int .i64 9] := by rw [eval_tmp]; exact ld 6 36 (List.all_eq_true.1 hdp 6 (by decide)) rfl
      have HK := Lib.hid (show K (a'.put (some 45) (.int .i64 9)) W from hK W (Below.refl _ _) trivial)
      clear hK ld lq hmem
      unfold Oper.wp
      simp only [execOp, e36]
      exact HK.out
    | 10, _ =>
      obtain ⟨ty, pos, aft, e, hdp⟩ := iop10
      rw [e] at ho
      obtain rfl := Option.some.inj ho
      intro a' hds W K hB lq ld hmem hK
      have HK := Lib.hid (show ∀ hh W', Below W.heap.size W W' → (memBox 2 37).P hh W' → (∀ b ∈ (memBox 2 37).bl hh, W.heap.size ≤ b ∧ b < W'.heap.size) → K (a'.put (some 10) (.pointer (some ⟨hh.b, 0, none⟩))) W' from fun hh W' h1 h2 h3 => by
        have h4 : K (a'.put (some 10) (region_tb3nX N L g2 q2 10 (updH hds 10 hh))) W' := hK hh W' h1 h2 h3 trivial
        simp only [region_tb3nX, updH_same] at h4
        exact h4)
      clear hK ld lq hmem
      have hfin := Lib.hid (HK.out ⟨W.heap.size, 0, 0, 0, none⟩ _ ((Below.refl _ _).alloc (Nat.le_refl _) (.cells #[.int .i64 0, .slice none 0 0] 37)) ⟨_, rfl, BoxAt.new W #[.int .i64 0, .slice none 0 0] 37⟩ (bd_one (Nat.le_refl _) (by simp)))
      clear HK
      unfold Oper.wp
      simp only [execOp]
      go_simp
      exact hfin.out
    | 11, _ =>
      obtain ⟨ty, pos, aft, e, hdp⟩ := iop11
      rw [e] at ho
      obtain rfl := Option.some.inj ho
      intro a' hds W K hB lq ld hmem hK
      have e10 : a'.eval (.tmp 10) = .pointer (some ⟨(hds 10).b, 0, none⟩) := by rw [eval_tmp]; exact ld 10 10 (List.all_eq_true.1 hdp 10 (by decide)) rfl
      have e43 : a'.eval (.tmp 43) = .agg #[.int .i64 0, .slice none 0 0] := by rw [eval_tmp]; exact ld 7 43 (List.all_eq_true.1 hdp 7 (by decide)) rfl
      obtain ⟨⟨vs, hvs, hbx⟩, _⟩ := hmem 10 (show 10 ∈ uOf region_tb3nU 11 by decide) (by decide)
      have hvl : vs.toList.length = 2 := by simpa using hvs
      obtain ⟨v0, v1, rfl⟩ : ∃ v0 v1, vs = #[v0, v1] := by
        cases vs with
        | mk l =>
          match l, hvl with
          | [v0, v1], _ => exact ⟨_, _, rfl⟩
      have HK := Lib.hid (show ∀ W', SetAt (hds 10).b W W' → (memBox 2 37).P (hds 10) W' → BoxAt W' (hds 10).b #[.int .i64 0, .slice none 0 0] 37 → K a' W' from hK)
      clear hK ld lq hmem
      have hfin := Lib.hid (HK.out _ (((SetAt.refl (hds 10).b W).cell 0 (.int .i64 0)).cell 1 (.slice none 0 0)) ⟨_, rfl, ((hbx).set 0 (.int .i64 0)).set 1 (.slice none 0 0)⟩ (((hbx).set 0 (.int .i64 0)).set 1 (.slice none 0 0)))
      have c0 := hbx.cell' 0 rfl
      have f0 := hbx.frozen 0
      have c1 := hbx.cell' 1 rfl
      have f1 := hbx.frozen 1
      have hlt := hbx.lt
      clear hbx hvl hvs HK
      generalize (hds 10).b = B at *
      unfold Oper.wp
      simp only [execOp, e10, e43]
      clear e10 e43
      go_simp
      exact hfin.out
    | 12, _ =>
      obtain ⟨ty, pos, aft, e, hdp⟩ := iop12
      rw [e] at ho
      obtain rfl := Option.some.inj ho
      intro a' hds W K hB lq ld hmem hK
      have e44 : a'.eval (.tmp 44) = .int .i64 0 := by rw [eval_tmp]; exact ld 8 44 (List.all_eq_true.1 hdp 8 (by decide)) rfl
      have HK := Lib.hid (show K (a'.put (some 11) (.int .i64 0)) W from hK W (Below.refl _ _) trivial)
      clear hK ld lq hmem
      unfold Oper.wp
      simp only [execOp, e44]
      exact HK.out
    | 13, _ =>
      obtain ⟨ty, pos, aft, e, hdp⟩ := iop13
      rw [e] at ho
      obtain rfl := Option.some.inj ho
      intro a' hds W K hB lq ld hmem hK
      have e45 : a'.eval (.tmp 45) = .int .i64 9 := by rw [eval_tmp]; exact ld 9 45 (List.all_eq_true.1 hdp 9 (by decide)) rfl
      have HK := Lib.hid (show K (a'.put (some 12) (.int .i64 9)) W from hK W (Below.refl _ _) trivial)
      clear hK ld lq hmem
      unfold Oper.wp
      simp only [execOp, e45]
      exact HK.out
    | i + 14, h => omega
  · intro hds v W hO
    have hfin := gend (hds 1).b (hds 1).c (hds 1).b2 (hds 1).c2 (hds 3).b (hds 3).c (hds 3).b2 (hds 3).c2 (hds 10).b (hds 10).c (hds 10).b2 (hds 10).c2 (hds 1).p (hds 3).p (hds 10).p (v 37) (v 38) (v 39) (v 40) (v 41) (v 42) (v 36) (v 43) (v 44) (v 45) (v 10) (v 11) W hO.b (hO.m 1 (by show 1 < 14; decide) rfl).1 (hO.m 1 (by show 1 < 14; decide) rfl).2 (hO.m 3 (by show 3 < 14; decide) rfl).1 (hO.m 3 (by show 3 < 14; decide) rfl).2 ((hO.m 10 (by show 10 < 14; decide) rfl).2 _ (by show _ ∈ [_]; simp)).1 ((hO.m 10 (by show 10 < 14; decide) rfl).2 _ (by show _ ∈ [_]; simp)).2 (hO.s 11 (by show 11 < 14; decide) rfl)
    rw [← laid_putL _ a v ?_] at hfin
    · exact hfin
    · intro p hp
      simp only [List.mem_cons, List.not_mem_nil, or_false] at hp
      rcases hp with rfl | rfl | rfl | rfl | rfl | rfl | rfl | rfl | rfl | rfl | rfl | rfl | rfl
      · rfl
      · rfl
      · rfl
      · rfl
      · rfl
      · rfl
      · rfl
      · rfl
      · rfl
      · rfl
      · rfl
      · rfl
      · exact hO.x 13 (show 13 < 14 by decide) 12 rfl
def region_tb11U : List (List Nat) := [[], [], [], [3], [3], [], [3, 6], [3, 6], [3, 6], [3, 6], [3, 6], [3, 6]]
def region_tb11X (N L D : Nat) (gw qw m : Nat) : Nat → (Nat → Hd) → Value
  | 0, _ => .pointer (some ⟨D, 0, none⟩)
  | 1, _ => .int .i64 (N : Int)
  | 2, _ => .slice (some ⟨gw, 0, none⟩) L qw
  | 3, hds => .slice (some ⟨(hds 3).b, 0, none⟩) L (hds 3).c
  | 4, hds => .agg #[.int .i64 (N : Int), .slice (some ⟨(hds 3).b, 0, none⟩) L (hds 3).c]
  | 5, _ => .int .i64 (m : Int)
  | 6, hds => .tuple #[.slice (hds 6).p 0 (hds 6).c, .int .i64 0]
  | 7, hds => .tuple #[.slice (hds 6).p 0 (hds 6).c, .int .i64 0]
  | 8, hds => .slice (hds 6).p 0 (hds 6).c
  | 9, _ => .int .i64 0
  | 10, hds => .slice (hds 6).p 0 (hds 6).c
  | 11, _ => .int .i64 0
  | _ + 12, _ => undef
theorem region_tb11X.congr (N L D : Nat) (gw qw m : Nat) : ∀ i hds hds', (∀ r ∈ uOf region_tb11U i, hds r = hds' r) → region_tb11X N L D gw qw m i hds = region_tb11X N L D gw qw m i hds'
  | 0, _, _, _ => rfl
  | 1, _, _, _ => rfl
  | 2, _, _, _ => rfl
  | 3, hds, hds', h => by simp only [region_tb11X, h 3 (show 3 ∈ uOf region_tb11U 3 by decide)]
  | 4, hds, hds', h => by simp only [region_tb11X, h 3 (show 3 ∈ uOf region_tb11U 4 by decide)]
  | 5, _, _, _ => rfl
  | 6, hds, hds', h => by simp only [region_tb11X, h 6 (show 6 ∈ uOf region_tb11U 6 by decide)]
  | 7, hds, hds', h => by simp only [region_tb11X, h 6 (show 6 ∈ uOf region_tb11U 7 by decide)]
  | 8, hds, hds', h => by simp only [region_tb11X, h 6 (show 6 ∈ uOf region_tb11U 8 by decide)]
  | 9, _, _, _ => rfl
  | 10, hds, hds', h => by simp only [region_tb11X, h 6 (show 6 ∈ uOf region_tb11U 10 by decide)]
  | 11, _, _, _ => rfl
  | _ + 12, _, _, _ => rfl
def region_tb11M (ZS : List Nat) : Nat → Mem
  | 3 => memNats ZS
  | 6 => memNone
  | _ => memNone
def region_tb11S  : Nat → Option Sto
  | _ => none
set_option maxRecDepth 8000 in
set_option maxHeartbeats 2000000 in
theorem region_tb11 {id : Nat} {ops : Array Oper} {Q : Exit → Act → World → Prop} {a : Act} {w : World} (N L g2 q2 D : Nat) (DS : List Nat) (gw qw m : Nat) (ZS : List Nat) (hZl : ZS.length = L) (hVz : Valid N ZS) (hnw : NatsAt w gw 0 ZS) (hgw : gw < w.heap.size) (hm2 : m ≤ 3) (hBd : ∀ i, i < L → BoundUp (nthN ZS i) N m) (hD : BoxAt w D #[.int .i64 (N : Int), .slice (some ⟨g2, 0, none⟩) L q2] 37)
    (gsize : ops.size = 12)
    (gops : IsOp ops 0 (some 98) (.fieldAddr 37 (.tmp 7) 0) none [] ∧ IsOp ops 1 (some 99) (.load 3 (.tmp 98)) none [0] ∧ IsOp ops 2 (some 100) (.move (.tmp 17)) none [] ∧ IsOp ops 3 (some 101) (.call { callee := .value (.func 87), args := #[.tmp 100], argTypes := #[24] }) none [2] ∧ IsOp ops 4 (some 102) (.build 37 #[(0, .tmp 99), (1, .tmp 101)]) none [1, 3] ∧ IsOp ops 5 (some 103) (.move (.tmp 9)) none [] ∧ IsOp ops 6 (some 104) (.call { callee := .value (.func 71), args := #[.tmp 102, .const (.int .i64 1), .tmp 103], argTypes := #[37, 102, 3] }) none [4, 5] ∧ IsOp ops 7 (some 97) (.move (.tmp 104)) none [6] ∧ IsOp ops 8 (some 105) (.extract (.tmp 97) 0) none [7] ∧ IsOp ops 9 (some 106) (.extract (.tmp 97) 1) none [7] ∧ IsOp ops 10 (some 20) (.assign (.tmp 105)) none [8] ∧ IsOp ops 11 (some 21) (.assign (.tmp 106)) none [9])
    (gbk : backB ops = true) (gds : dstsB ops (dOf [some 98, some 99, some 100, some 101, some 102, some 103, some 104, some 97, some 105, some 106, some 20, some 21]) = true) (gus : useB ops (uOf region_tb11U) (kOf [0, 0, 0, 1, 0, 0, 1, 0, 0, 0, 0, 0]) = true) (ggd : plainB ops = true) (gsz : ∀ e ∈ [98, 99, 100, 101, 102, 103, 104, 97, 105, 106, 20, 21], e < a.tmps.size)
    (gout : a.eval (.tmp 7) = .pointer (some ⟨D, 0, none⟩) ∧ a.eval (.tmp 17) = .slice (some ⟨gw, 0, none⟩) L qw ∧ a.eval (.tmp 9) = .int .i64 (m : Int))
    (gend : ∀ (g101 q101 G101 Q101 g104 q104 G104 Q104 : Nat) (P101 P104 : Option Addr) (u98 u99 u100 u101 u102 u103 u104 u97 u105 u106 : Value) (W : World), Below w.heap.size w W → (memNats ZS).P ⟨g101, q101, G101, Q101, P101⟩ W → (∀ b ∈ (memNats ZS).bl ⟨g101, q101, G101, Q101, P101⟩, w.heap.size ≤ b ∧ b < W.heap.size) → (memNone).P ⟨g104, q104, G104, Q104, P104⟩ W → (∀ b ∈ (memNone).bl ⟨g104, q104, G104, Q104, P104⟩, w.heap.size ≤ b ∧ b < W.heap.size) → Q .normal (putL a [(98, u98), (99, u99), (100, u100), (101, u101), (102, u102), (103, u103), (104, u104), (97, u97), (105, u105), (106, u106), (20, .slice P104 0 q104), (21, .int .i64 0)]) W) :
    (Code.region id ops true).wp Try.prog Q a w := by
  obtain ⟨iop0, iop1, iop2, iop3, iop4, iop5, iop6, iop7, iop8, iop9, iop10, iop11⟩ := gops
  obtain ⟨o7, o17, o9⟩ := gout
  refine region_all (RSp.of 12 [some 98, some 99, some 100, some 101, some 102, some 103, some 104, some 97, some 105, some 106, some 20, some 21] (fun _ => true) (region_tb11X N L D gw qw m) region_tb11U [0, 0, 0, 1, 0, 0, 1, 0, 0, 0, 0, 0] (region_tb11M ZS) (region_tb11S )) [(7, .pointer (some ⟨D, 0, none⟩)), (17, .slice (some ⟨gw, 0, none⟩) L qw), (9, .int .i64 (m : Int))] [98, 99, 100, 101, 102, 103, 104, 97, 105, 106, 20, 21] (RSp.of_fit gsize.symm gbk gds gus ggd (by decide) ?_) (RSp.of_ok _ (region_tb11X.congr N L D gw qw m) ?_) gsz ?_ ?_ ?_
  · intro p hp
    have hp2 : p ∈ ([] : List (Nat × Nat)) := hp
    cases hp2
  · intro i s hds
    match i, hds with
    | 0, hds => cases hds
    | 1, hds => cases hds
    | 2, hds => cases hds
    | 3, hds => cases hds
    | 4, hds => cases hds
    | 5, hds => cases hds
    | 6, hds => cases hds
    | 7, hds => cases hds
    | 8, hds => cases hds
    | 9, hds => cases hds
    | 10, hds => cases hds
    | 11, hds => cases hds
    | _ + 12, hds => cases hds
  · intro q hq
    simp only [List.mem_cons, List.not_mem_nil, or_false] at hq
    rcases hq with rfl | rfl | rfl
    · exact ⟨o7, by simp⟩
    · exact ⟨o17, by simp⟩
    · exact ⟨o9, by simp⟩
  · intro i o ho _
    have hi : i < 12 := by rw [← gsize]; exact (Array.getElem?_eq_some_iff.1 ho).1
    match i, hi with
    | 0, _ =>
      obtain ⟨ty, pos, aft, e, hdp⟩ := iop0
      rw [e] at ho
      obtain rfl := Option.some.inj ho
      intro a' hds W K hB lq ld hmem hK
      have e7 : a'.eval (.tmp 7) = .pointer (some ⟨D, 0, none⟩) := by rw [eval_tmp]; exact lq (7, .pointer (some ⟨D, 0, none⟩)) (by simp)
      have HK := Lib.hid (show K (a'.put (some 98) (.pointer (some ⟨D, 0, none⟩))) W from hK W (Below.refl _ _) trivial)
      clear hK ld lq hmem
      unfold Oper.wp
      simp only [execOp, e7]
      go_simp
      exact HK.out
    | 1, _ =>
      obtain ⟨ty, pos, aft, e, hdp⟩ := iop1
      rw [e] at ho
      obtain rfl := Option.some.inj ho
      intro a' hds W K hB lq ld hmem hK
      have e98 : a'.eval (.tmp 98) = .pointer (some ⟨D, 0, none⟩) := by rw [eval_tmp]; exact ld 0 98 (List.all_eq_true.1 hdp 0 (by decide)) rfl
      have HK := Lib.hid (show K (a'.put (some 99) (.int .i64 (N : Int))) W from hK W (Below.refl _ _) trivial)
      clear hK ld lq hmem
      have c0 := (hD.next hB).cell' 0 rfl
      unfold Oper.wp
      simp only [execOp, e98]
      go_simp
      exact HK.out
    | 2, _ =>
      obtain ⟨ty, pos, aft, e, hdp⟩ := iop2
      rw [e] at ho
      obtain rfl := Option.some.inj ho
      intro a' hds W K hB lq ld hmem hK
      have e17 : a'.eval (.tmp 17) = .slice (some ⟨gw, 0, none⟩) L qw := by rw [eval_tmp]; exact lq (17, .slice (some ⟨gw, 0, none⟩) L qw) (by simp)
      have HK := Lib.hid (show K (a'.put (some 100) (.slice (some ⟨gw, 0, none⟩) L qw)) W from hK W (Below.refl _ _) trivial)
      clear hK ld lq hmem
      unfold Oper.wp
      simp only [execOp, e17]
      exact HK.out
    | 3, _ =>
      obtain ⟨ty, pos, aft, e, hdp⟩ := iop3
      rw [e] at ho
      obtain rfl := Option.some.inj ho
      intro a' hds W K hB lq ld hmem hK
      have e100 : a'.eval (.tmp 100) = .slice (some ⟨gw, 0, none⟩) L qw := by rw [eval_tmp]; exact ld 2 100 (List.all_eq_true.1 hdp 2 (by decide)) rfl
      have HK := Lib.hid (show ∀ hh W', Below W.heap.size W W' → (memNats ZS).P hh W' → (∀ b ∈ (memNats ZS).bl hh, W.heap.size ≤ b ∧ b < W'.heap.size) → K (a'.put (some 101) (.slice (some ⟨hh.b, 0, none⟩) L hh.c)) W' from fun hh W' h1 h2 h3 => by
        have h4 : K (a'.put (some 101) (region_tb11X N L D gw qw m 3 (updH hds 3 hh))) W' := hK hh W' h1 h2 h3 trivial
        simp only [region_tb11X, updH_same] at h4
        exact h4)
      clear hK ld lq hmem
      refine step_call (vals := #[.slice (some ⟨gw, 0, none⟩) L qw]) (by exact ⟨_, _, Try.func87, by kernel_rfl, rfl⟩) (by simp only [List.map_toArray, List.map_cons, List.map_nil, e100]) (call87 L gw qw ZS W hZl (by have := hVz.l0; omega) (by have := hVz.l1; omega) (hnw.below hB hgw) (Nat.lt_of_lt_of_le hgw hB.size)) ?_
      rintro e w' ⟨g, cap, rfl, hn, hl, hg, hb'⟩
      exact ⟨_, rfl, HK.out ⟨g, cap, 0, 0, none⟩ _ hb' ⟨hn, hg⟩ (bd_one hl hg)⟩
    | 4, _ =>
      obtain ⟨ty, pos, aft, e, hdp⟩ := iop4
      rw [e] at ho
      obtain rfl := Option.some.inj ho
      intro a' hds W K hB lq ld hmem hK
      have e99 : a'.eval (.tmp 99) = .int .i64 (N : Int) := by rw [eval_tmp]; exact ld 1 99 (List.all_eq_true.1 hdp 1 (by decide)) rfl
      have t99 := (eval_tmp a' 99).symm.trans e99
      have e101 : a'.eval (.tmp 101) = .slice (some ⟨(hds 3).b, 0, none⟩) L (hds 3).c := by rw [eval_tmp]; exact ld 3 101 (List.all_eq_true.1 hdp 3 (by decide)) rfl
      have t101 := (eval_tmp a' 101).symm.trans e101
      have HK := Lib.hid (show K (a'.put (some 102) (.agg #[.int .i64 (N : Int), .slice (some ⟨(hds 3).b, 0, none⟩) L (hds 3).c])) W from hK W (Below.refl _ _) trivial)
      clear hK ld lq hmem
      unfold Oper.wp
      simp only [execOp, e99, e101]
      go_simp
      exact HK.out
    | 5, _ =>
      obtain ⟨ty, pos, aft, e, hdp⟩ := iop5
      rw [e] at ho
      obtain rfl := Option.some.inj ho
      intro a' hds W K hB lq ld hmem hK
      have e9 : a'.eval (.tmp 9) = .int .i64 (m : Int) := by rw [eval_tmp]; exact lq (9, .int .i64 (m : Int)) (by simp)
      have HK := Lib.hid (show K (a'.put (some 103) (.int .i64 (m : Int))) W from hK W (Below.refl _ _) trivial)
      clear hK ld lq hmem
      unfold Oper.wp
      simp only [execOp, e9]
      exact HK.out
    | 6, _ =>
      obtain ⟨ty, pos, aft, e, hdp⟩ := iop6
      rw [e] at ho
      obtain rfl := Option.some.inj ho
      intro a' hds W K hB lq ld hmem hK
      have e102 : a'.eval (.tmp 102) = .agg #[.int .i64 (N : Int), .slice (some ⟨(hds 3).b, 0, none⟩) L (hds 3).c] := by rw [eval_tmp]; exact ld 4 102 (List.all_eq_true.1 hdp 4 (by decide)) rfl
      have e103 : a'.eval (.tmp 103) = .int .i64 (m : Int) := by rw [eval_tmp]; exact ld 5 103 (List.all_eq_true.1 hdp 5 (by decide)) rfl
      have HK := Lib.hid (show ∀ hh W', Below W.heap.size W W' → (memNone).P hh W' → (∀ b ∈ (memNone).bl hh, W.heap.size ≤ b ∧ b < W'.heap.size) → K (a'.put (some 104) (.tuple #[.slice hh.p 0 hh.c, .int .i64 0])) W' from fun hh W' h1 h2 h3 => by
        have h4 : K (a'.put (some 104) (region_tb11X N L D gw qw m 6 (updH hds 6 hh))) W' := hK hh W' h1 h2 h3 trivial
        simp only [region_tb11X, updH_same] at h4
        exact h4)
      have m101   := (hmem 3 (show 3 ∈ uOf region_tb11U 6 by decide) (by decide)).1
      clear hK ld lq hmem
      refine step_call (vals := #[.agg #[.int .i64 (N : Int), .slice (some ⟨(hds 3).b, 0, none⟩) L (hds 3).c], .int .i64 1, .int .i64 (m : Int)]) (by exact ⟨_, _, Try.func71, by kernel_rfl, rfl⟩) (by simp only [List.map_toArray, List.map_cons, List.map_nil, e102, e103]; rfl) (call71 N L (hds 3).b (hds 3).c m ZS W hZl hVz (by omega) hBd m101.1 m101.2) ?_
      rintro e w' ⟨p, cap, rfl, hb'⟩
      exact ⟨_, rfl, HK.out ⟨0, cap, 0, 0, p⟩ _ hb' trivial (fun b hb2 => by cases hb2)⟩
    | 7, _ =>
      obtain ⟨ty, pos, aft, e, hdp⟩ := iop7
      rw [e] at ho
      obtain rfl := Option.some.inj ho
      intro a' hds W K hB lq ld hmem hK
      have e104 : a'.eval (.tmp 104) = .tuple #[.slice (hds 6).p 0 (hds 6).c, .int .i64 0] := by rw [eval_tmp]; exact ld 6 104 (List.all_eq_true.1 hdp 6 (by decide)) rfl
      have HK := Lib.hid (show K (a'.put (some 97) (.tuple #[.slice (hds 6).p 0 (hds 6).c, .int .i64 0])) W from hK W (Below.refl _ _) trivial)
      clear hK ld lq hmem
      unfold Oper.wp
      simp only [execOp, e104]
      exact HK.out
    | 8, _ =>
      obtain ⟨ty, pos, aft, e, hdp⟩ := iop8
      rw [e] at ho
      obtain rfl := Option.some.inj ho
      intro a' hds W K hB lq ld hmem hK
      have e97 : a'.eval (.tmp 97) = .tuple #[.slice (hds 6).p 0 (hds 6).c, .int .i64 0] := by rw [eval_tmp]; exact ld 7 97 (List.all_eq_true.1 hdp 7 (by decide)) rfl
      have HK := Lib.hid (show K (a'.put (some 105) (.slice (hds 6).p 0 (hds 6).c)) W from hK W (Below.refl _ _) trivial)
      clear hK ld lq hmem
      unfold Oper.wp
      simp only [execOp, e97]
      exact HK.out
    | 9, _ =>
      obtain ⟨ty, pos, aft, e, hdp⟩ := iop9
      rw [e] at ho
      obtain rfl := Option.some.inj ho
      intro a' hds W K hB lq ld hmem hK
      have e97 : a'.eval (.tmp 97) = .tuple #[.slice (hds 6).p 0 (hds 6).c, .int .i64 0] := by rw [eval_tmp]; exact ld 7 97 (List.all_eq_true.1 hdp 7 (by decide)) rfl
      have HK := Lib.hid (show K (a'.put (some 106) (.int .i64 0)) W from hK W (Below.refl _ _) trivial)
      clear hK ld lq hmem
      unfold Oper.wp
      simp only [execOp, e97]
      exact HK.out
    | 10, _ =>
      obtain ⟨ty, pos, aft, e, hdp⟩ := iop10
      rw [e] at ho
      obtain rfl := Option.some.inj ho
      intro a' hds W K hB lq ld hmem hK
      have e105 : a'.eval (.tmp 105) = .slice (hds 6).p 0 (hds 6).c := by rw [eval_tmp]; exact ld 8 105 (List.all_eq_true.1 hdp 8 (by decide)) rfl
      have HK := Lib.hid (show K (a'.put (some 20) (.slice (hds 6).p 0 (hds 6).c)) W from hK W (Below.refl _ _) trivial)
      clear hK ld lq hmem
      unfold Oper.wp
      simp only [execOp, e105]
      exact HK.out
    | 11, _ =>
      obtain ⟨ty, pos, aft, e, hdp⟩ := iop11
      rw [e] at ho
      obtain rfl := Option.some.inj ho
      intro a' hds W K hB lq ld hmem hK
      have e106 : a'.eval (.tmp 106) = .int .i64 0 := by rw [eval_tmp]; exact ld 9 106 (List.all_eq_true.1 hdp 9 (by decide)) rfl
      have HK := Lib.hid (show K (a'.put (some 21) (.int .i64 0)) W from hK W (Below.refl _ _) trivial)
      clear hK ld lq hmem
      unfold Oper.wp
      simp only [execOp, e106]
      exact HK.out
    | i + 12, h => omega
  · intro hds v W hO
    have hfin := gend (hds 3).b (hds 3).c (hds 3).b2 (hds 3).c2 (hds 6).b (hds 6).c (hds 6).b2 (hds 6).c2 (hds 3).p (hds 6).p (v 98) (v 99) (v 100) (v 101) (v 102) (v 103) (v 104) (v 97) (v 105) (v 106) W hO.b (hO.m 3 (by show 3 < 12; decide) rfl).1 (hO.m 3 (by show 3 < 12; decide) rfl).2 (hO.m 6 (by show 6 < 12; decide) rfl).1 (hO.m 6 (by show 6 < 12; decide) rfl).2
    rw [← laid_putL _ a v ?_] at hfin
    · exact hfin
    · intro p hp
      simp only [List.mem_cons, List.not_mem_nil, or_false] at hp
      rcases hp with rfl | rfl | rfl | rfl | rfl | rfl | rfl | rfl | rfl | rfl | rfl | rfl
      · rfl
      · rfl
      · rfl
      · rfl
      · rfl
      · rfl
      · rfl
      · rfl
      · rfl
      · rfl
      · exact hO.x 10 (show 10 < 12 by decide) 20 rfl
      · exact hO.x 11 (show 11 < 12 by decide) 21 rfl
def region_tb12U : List (List Nat) := [[], [1], [], [], [], [5], [5], [1, 5, 7], [1, 5, 7], [1, 5, 7], [1, 5, 7], [1, 5, 7], [1, 5, 7], [1, 5, 7], [1, 5, 7], [1, 5, 7], [1, 5, 7]]
def region_tb12X (N L g2 q2 D : Nat) (gw qw S : Nat) : Nat → (Nat → Hd) → Value
  | 0, _ => .agg #[.int .i64 (N : Int), .slice (some ⟨g2, 0, none⟩) L q2]
  | 1, hds => .agg #[.int .i64 (N : Int), .slice (some ⟨(hds 1).b, 0, none⟩) L (hds 1).c]
  | 2, _ => .pointer (some ⟨D, 0, none⟩)
  | 3, _ => .int .i64 (N : Int)
  | 4, _ => .slice (some ⟨gw, 0, none⟩) L qw
  | 5, hds => .slice (some ⟨(hds 5).b, 0, none⟩) L (hds 5).c
  | 6, hds => .agg #[.int .i64 (N : Int), .slice (some ⟨(hds 5).b, 0, none⟩) L (hds 5).c]
  | 7, hds => .tuple #[.int .i64 (S : Int), .int .i64 ((hds 7).b : Int), .int .i64 ((hds 7).c : Int), .int .i64 0]
  | 8, hds => .tuple #[.int .i64 (S : Int), .int .i64 ((hds 7).b : Int), .int .i64 ((hds 7).c : Int), .int .i64 0]
  | 9, _ => .int .i64 (S : Int)
  | 10, hds => .int .i64 ((hds 7).b : Int)
  | 11, hds => .int .i64 ((hds 7).c : Int)
  | 12, _ => .int .i64 0
  | 13, _ => .int .i64 (S : Int)
  | 14, hds => .int .i64 ((hds 7).b : Int)
  | 15, hds => .int .i64 ((hds 7).c : Int)
  | 16, _ => .int .i64 0
  | _ + 17, _ => undef
theorem region_tb12X.congr (N L g2 q2 D : Nat) (gw qw S : Nat) : ∀ i hds hds', (∀ r ∈ uOf region_tb12U i, hds r = hds' r) → region_tb12X N L g2 q2 D gw qw S i hds = region_tb12X N L g2 q2 D gw qw S i hds'
  | 0, _, _, _ => rfl
  | 1, hds, hds', h => by simp only [region_tb12X, h 1 (show 1 ∈ uOf region_tb12U 1 by decide)]
  | 2, _, _, _ => rfl
  | 3, _, _, _ => rfl
  | 4, _, _, _ => rfl
  | 5, hds, hds', h => by simp only [region_tb12X, h 5 (show 5 ∈ uOf region_tb12U 5 by decide)]
  | 6, hds, hds', h => by simp only [region_tb12X, h 5 (show 5 ∈ uOf region_tb12U 6 by decide)]
  | 7, hds, hds', h => by simp only [region_tb12X, h 7 (show 7 ∈ uOf region_tb12U 7 by decide)]
  | 8, hds, hds', h => by simp only [region_tb12X, h 7 (show 7 ∈ uOf region_tb12U 8 by decide)]
  | 9, _, _, _ => rfl
  | 10, hds, hds', h => by simp only [region_tb12X, h 7 (show 7 ∈ uOf region_tb12U 10 by decide)]
  | 11, hds, hds', h => by simp only [region_tb12X, h 7 (show 7 ∈ uOf region_tb12U 11 by decide)]
  | 12, _, _, _ => rfl
  | 13, _, _, _ => rfl
  | 14, hds, hds', h => by simp only [region_tb12X, h 7 (show 7 ∈ uOf region_tb12U 14 by decide)]
  | 15, hds, hds', h => by simp only [region_tb12X, h 7 (show 7 ∈ uOf region_tb12U 15 by decide)]
  | 16, _, _, _ => rfl
  | _ + 17, _, _, _ => rfl
def region_tb12M (DS : List Nat) (ZS : List Nat) : Nat → Mem
  | 1 => memNats DS
  | 5 => memNats ZS
  | 7 => memNone
  | _ => memNone
def region_tb12S  : Nat → Option Sto
  | _ => none
set_option maxRecDepth 8000 in
set_option maxHeartbeats 2000000 in
theorem region_tb12 {id : Nat} {ops : Array Oper} {Q : Exit → Act → World → Prop} {a : Act} {w : World} (N L g2 q2 D : Nat) (DS : List Nat) (gw qw S : Nat) (ZS : List Nat) (hDl : DS.length = L) (hVd : Valid N DS) (hn2 : NatsAt w g2 0 DS) (hg2 : g2 < w.heap.size) (hZl : ZS.length = L) (hVz : Valid N ZS) (hnw : NatsAt w gw 0 ZS) (hgw : gw < w.heap.size) (hS : S = chAll (-1) N DS ZS L) (hD : BoxAt w D #[.int .i64 (N : Int), .slice (some ⟨g2, 0, none⟩) L q2] 37)
    (gsize : ops.size = 17)
    (gops : IsOp ops 0 (some 108) (.load 37 (.tmp 7)) none [] ∧ IsOp ops 1 (some 109) (.call { callee := .value (.func 78), args := #[.tmp 108], argTypes := #[37] }) none [0] ∧ IsOp ops 2 (some 110) (.fieldAddr 37 (.tmp 7) 0) none [] ∧ IsOp ops 3 (some 111) (.load 3 (.tmp 110)) none [2] ∧ IsOp ops 4 (some 112) (.move (.tmp 17)) none [] ∧ IsOp ops 5 (some 113) (.call { callee := .value (.func 87), args := #[.tmp 112], argTypes := #[24] }) none [4] ∧ IsOp ops 6 (some 114) (.build 37 #[(0, .tmp 111), (1, .tmp 113)]) none [3, 5] ∧ IsOp ops 7 (some 115) (.call { callee := .value (.func 88), args := #[.tmp 109, .tmp 114], argTypes := #[37, 37] }) none [1, 6] ∧ IsOp ops 8 (some 107) (.move (.tmp 115)) none [7] ∧ IsOp ops 9 (some 116) (.extract (.tmp 107) 0) none [8] ∧ IsOp ops 10 (some 117) (.extract (.tmp 107) 1) none [8] ∧ IsOp ops 11 (some 118) (.extract (.tmp 107) 2) none [8] ∧ IsOp ops 12 (some 119) (.extract (.tmp 107) 3) none [8] ∧ IsOp ops 13 (some 22) (.assign (.tmp 116)) none [9] ∧ IsOp ops 14 (some 23) (.assign (.tmp 117)) none [10] ∧ IsOp ops 15 (some 24) (.assign (.tmp 118)) none [11] ∧ IsOp ops 16 (some 25) (.assign (.tmp 119)) none [12])
    (gbk : backB ops = true) (gds : dstsB ops (dOf [some 108, some 109, some 110, some 111, some 112, some 113, some 114, some 115, some 107, some 116, some 117, some 118, some 119, some 22, some 23, some 24, some 25]) = true) (gus : useB ops (uOf region_tb12U) (kOf [0, 1, 0, 0, 0, 1, 0, 1, 0, 0, 0, 0, 0, 0, 0, 0, 0]) = true) (ggd : plainB ops = true) (gsz : ∀ e ∈ [108, 109, 110, 111, 112, 113, 114, 115, 107, 116, 117, 118, 119, 22, 23, 24, 25], e < a.tmps.size)
    (gout : a.eval (.tmp 7) = .pointer (some ⟨D, 0, none⟩) ∧ a.eval (.tmp 17) = .slice (some ⟨gw, 0, none⟩) L qw)
    (gend : ∀ (g109 q109 G109 Q109 g113 q113 G113 Q113 g115 q115 G115 Q115 : Nat) (P109 P113 P115 : Option Addr) (u108 u109 u110 u111 u112 u113 u114 u115 u107 u116 u117 u118 u119 u23 u24 : Value) (W : World), Below w.heap.size w W → (memNats DS).P ⟨g109, q109, G109, Q109, P109⟩ W → (∀ b ∈ (memNats DS).bl ⟨g109, q109, G109, Q109, P109⟩, w.heap.size ≤ b ∧ b < W.heap.size) → (memNats ZS).P ⟨g113, q113, G113, Q113, P113⟩ W → (∀ b ∈ (memNats ZS).bl ⟨g113, q113, G113, Q113, P113⟩, w.heap.size ≤ b ∧ b < W.heap.size) → (memNone).P ⟨g115, q115, G115, Q115, P115⟩ W → (∀ b ∈ (memNone).bl ⟨g115, q115, G115, Q115, P115⟩, w.heap.size ≤ b ∧ b < W.heap.size) → Q .normal (putL a [(108, u108), (109, u109), (110, u110), (111, u111), (112, u112), (113, u113), (114, u114), (115, u115), (107, u107), (116, u116), (117, u117), (118, u118), (119, u119), (22, .int .i64 (S : Int)), (23, u23), (24, u24), (25, .int .i64 0)]) W) :
    (Code.region id ops true).wp Try.prog Q a w := by
  obtain ⟨iop0, iop1, iop2, iop3, iop4, iop5, iop6, iop7, iop8, iop9, iop10, iop11, iop12, iop13, iop14, iop15, iop16⟩ := gops
  obtain ⟨o7, o17⟩ := gout
  refine region_all (RSp.of 17 [some 108, some 109, some 110, some 111, some 112, some 113, some 114, some 115, some 107, some 116, some 117, some 118, some 119, some 22, some 23, some 24, some 25] (fun _ => true) (region_tb12X N L g2 q2 D gw qw S) region_tb12U [0, 1, 0, 0, 0, 1, 0, 1, 0, 0, 0, 0, 0, 0, 0, 0, 0] (region_tb12M DS ZS) (region_tb12S )) [(7, .pointer (some ⟨D, 0, none⟩)), (17, .slice (some ⟨gw, 0, none⟩) L qw)] [108, 109, 110, 111, 112, 113, 114, 115, 107, 116, 117, 118, 119, 22, 23, 24, 25] (RSp.of_fit gsize.symm gbk gds gus ggd (by decide) ?_) (RSp.of_ok _ (region_tb12X.congr N L g2 q2 D gw qw S) ?_) gsz ?_ ?_ ?_
  · intro p hp
    have hp2 : p ∈ ([] : List (Nat × Nat)) := hp
    cases hp2
  · intro i s hds
    match i, hds with
    | 0, hds => cases hds
    | 1, hds => cases hds
    | 2, hds => cases hds
    | 3, hds => cases hds
    | 4, hds => cases hds
    | 5, hds => cases hds
    | 6, hds => cases hds
    | 7, hds => cases hds
    | 8, hds => cases hds
    | 9, hds => cases hds
    | 10, hds => cases hds
    | 11, hds => cases hds
    | 12, hds => cases hds
    | 13, hds => cases hds
    | 14, hds => cases hds
    | 15, hds => cases hds
    | 16, hds => cases hds
    | _ + 17, hds => cases hds
  · intro q hq
    simp only [List.mem_cons, List.not_mem_nil, or_false] at hq
    rcases hq with rfl | rfl
    · exact ⟨o7, by simp⟩
    · exact ⟨o17, by simp⟩
  · intro i o ho _
    have hi : i < 17 := by rw [← gsize]; exact (Array.getElem?_eq_some_iff.1 ho).1
    match i, hi with
    | 0, _ =>
      obtain ⟨ty, pos, aft, e, hdp⟩ := iop0
      rw [e] at ho
      obtain rfl := Option.some.inj ho
      intro a' hds W K hB lq ld hmem hK
      have e7 : a'.eval (.tmp 7) = .pointer (some ⟨D, 0, none⟩) := by rw [eval_tmp]; exact lq (7, .pointer (some ⟨D, 0, none⟩)) (by simp)
      have HK := Lib.hid (show K (a'.put (some 108) (.agg #[.int .i64 (N : Int), .slice (some ⟨g2, 0, none⟩) L q2])) W from hK W (Below.refl _ _) trivial)
      clear hK ld lq hmem
      have c0 := (hD.next hB).cell' 0 rfl
      have c1 := (hD.next hB).cell' 1 rfl
      unfold Oper.wp
      simp only [execOp, e7]
      go_simp
      exact HK.out
    | 1, _ =>
      obtain ⟨ty, pos, aft, e, hdp⟩ := iop1
      rw [e] at ho
      obtain rfl := Option.some.inj ho
      intro a' hds W K hB lq ld hmem hK
      have e108 : a'.eval (.tmp 108) = .agg #[.int .i64 (N : Int), .slice (some ⟨g2, 0, none⟩) L q2] := by rw [eval_tmp]; exact ld 0 108 (List.all_eq_true.1 hdp 0 (by decide)) rfl
      have HK := Lib.hid (show ∀ hh W', Below W.heap.size W W' → (memNats DS).P hh W' → (∀ b ∈ (memNats DS).bl hh, W.heap.size ≤ b ∧ b < W'.heap.size) → K (a'.put (some 109) (.agg #[.int .i64 (N : Int), .slice (some ⟨hh.b, 0, none⟩) L hh.c])) W' from fun hh W' h1 h2 h3 => by
        have h4 : K (a'.put (some 109) (region_tb12X N L g2 q2 D gw qw S 1 (updH hds 1 hh))) W' := hK hh W' h1 h2 h3 trivial
        simp only [region_tb12X, updH_same] at h4
        exact h4)
      clear hK ld lq hmem
      refine step_call (vals := #[.agg #[.int .i64 (N : Int), .slice (some ⟨g2, 0, none⟩) L q2]]) (by exact ⟨_, _, Try.func78, by kernel_rfl, rfl⟩) (by simp only [List.map_toArray, List.map_cons, List.map_nil, e108]) (call78 N L g2 q2 DS W hDl (by have := hVd.l0; omega) (by have := hVd.l1; omega) (hn2.below hB hg2) (Nat.lt_of_lt_of_le hg2 hB.size)) ?_
      rintro e w' ⟨g, cap, rfl, hn, hl, hg, hb'⟩
      exact ⟨_, rfl, HK.out ⟨g, cap, 0, 0, none⟩ _ hb' ⟨hn, hg⟩ (bd_one hl hg)⟩
    | 2, _ =>
      obtain ⟨ty, pos, aft, e, hdp⟩ := iop2
      rw [e] at ho
      obtain rfl := Option.some.inj ho
      intro a' hds W K hB lq ld hmem hK
      have e7 : a'.eval (.tmp 7) = .pointer (some ⟨D, 0, none⟩) := by rw [eval_tmp]; exact lq (7, .pointer (some ⟨D, 0, none⟩)) (by simp)
      have HK := Lib.hid (show K (a'.put (some 110) (.pointer (some ⟨D, 0, none⟩))) W from hK W (Below.refl _ _) trivial)
      clear hK ld lq hmem
      unfold Oper.wp
      simp only [execOp, e7]
      go_simp
      exact HK.out
    | 3, _ =>
      obtain ⟨ty, pos, aft, e, hdp⟩ := iop3
      rw [e] at ho
      obtain rfl := Option.some.inj ho
      intro a' hds W K hB lq ld hmem hK
      have e110 : a'.eval (.tmp 110) = .pointer (some ⟨D, 0, none⟩) := by rw [eval_tmp]; exact ld 2 110 (List.all_eq_true.1 hdp 2 (by decide)) rfl
      have HK := Lib.hid (show K (a'.put (some 111) (.int .i64 (N : Int))) W from hK W (Below.refl _ _) trivial)
      clear hK ld lq hmem
      have c0 := (hD.next hB).cell' 0 rfl
      unfold Oper.wp
      simp only [execOp, e110]
      go_simp
      exact HK.out
    | 4, _ =>
      obtain ⟨ty, pos, aft, e, hdp⟩ := iop4
      rw [e] at ho
      obtain rfl := Option.some.inj ho
      intro a' hds W K hB lq ld hmem hK
      have e17 : a'.eval (.tmp 17) = .slice (some ⟨gw, 0, none⟩) L qw := by rw [eval_tmp]; exact lq (17, .slice (some ⟨gw, 0, none⟩) L qw) (by simp)
      have HK := Lib.hid (show K (a'.put (some 112) (.slice (some ⟨gw, 0, none⟩) L qw)) W from hK W (Below.refl _ _) trivial)
      clear hK ld lq hmem
      unfold Oper.wp
      simp only [execOp, e17]
      exact HK.out
    | 5, _ =>
      obtain ⟨ty, pos, aft, e, hdp⟩ := iop5
      rw [e] at ho
      obtain rfl := Option.some.inj ho
      intro a' hds W K hB lq ld hmem hK
      have e112 : a'.eval (.tmp 112) = .slice (some ⟨gw, 0, none⟩) L qw := by rw [eval_tmp]; exact ld 4 112 (List.all_eq_true.1 hdp 4 (by decide)) rfl
      have HK := Lib.hid (show ∀ hh W', Below W.heap.size W W' → (memNats ZS).P hh W' → (∀ b ∈ (memNats ZS).bl hh, W.heap.size ≤ b ∧ b < W'.heap.size) → K (a'.put (some 113) (.slice (some ⟨hh.b, 0, none⟩) L hh.c)) W' from fun hh W' h1 h2 h3 => by
        have h4 : K (a'.put (some 113) (region_tb12X N L g2 q2 D gw qw S 5 (updH hds 5 hh))) W' := hK hh W' h1 h2 h3 trivial
        simp only [region_tb12X, updH_same] at h4
        exact h4)
      clear hK ld lq hmem
      refine step_call (vals := #[.slice (some ⟨gw, 0, none⟩) L qw]) (by exact ⟨_, _, Try.func87, by kernel_rfl, rfl⟩) (by simp only [List.map_toArray, List.map_cons, List.map_nil, e112]) (call87 L gw qw ZS W hZl (by have := hVz.l0; omega) (by have := hVz.l1; omega) (hnw.below hB hgw) (Nat.lt_of_lt_of_le hgw hB.size)) ?_
      rintro e w' ⟨g, cap, rfl, hn, hl, hg, hb'⟩
      exact ⟨_, rfl, HK.out ⟨g, cap, 0, 0, none⟩ _ hb' ⟨hn, hg⟩ (bd_one hl hg)⟩
    | 6, _ =>
      obtain ⟨ty, pos, aft, e, hdp⟩ := iop6
      rw [e] at ho
      obtain rfl := Option.some.inj ho
      intro a' hds W K hB lq ld hmem hK
      have e111 : a'.eval (.tmp 111) = .int .i64 (N : Int) := by rw [eval_tmp]; exact ld 3 111 (List.all_eq_true.1 hdp 3 (by decide)) rfl
      have t111 := (eval_tmp a' 111).symm.trans e111
      have e113 : a'.eval (.tmp 113) = .slice (some ⟨(hds 5).b, 0, none⟩) L (hds 5).c := by rw [eval_tmp]; exact ld 5 113 (List.all_eq_true.1 hdp 5 (by decide)) rfl
      have t113 := (eval_tmp a' 113).symm.trans e113
      have HK := Lib.hid (show K (a'.put (some 114) (.agg #[.int .i64 (N : Int), .slice (some ⟨(hds 5).b, 0, none⟩) L (hds 5).c])) W from hK W (Below.refl _ _) trivial)
      clear hK ld lq hmem
      unfold Oper.wp
      simp only [execOp, e111, e113]
      go_simp
      exact HK.out
    | 7, _ =>
      obtain ⟨ty, pos, aft, e, hdp⟩ := iop7
      rw [e] at ho
      obtain rfl := Option.some.inj ho
      intro a' hds W K hB lq ld hmem hK
      have e109 : a'.eval (.tmp 109) = .agg #[.int .i64 (N : Int), .slice (some ⟨(hds 1).b, 0, none⟩) L (hds 1).c] := by rw [eval_tmp]; exact ld 1 109 (List.all_eq_true.1 hdp 1 (by decide)) rfl
      have e114 : a'.eval (.tmp 114) = .agg #[.int .i64 (N : Int), .slice (some ⟨(hds 5).b, 0, none⟩) L (hds 5).c] := by rw [eval_tmp]; exact ld 6 114 (List.all_eq_true.1 hdp 6 (by decide)) rfl
      have HK := Lib.hid (show ∀ hh W', Below W.heap.size W W' → (memNone).P hh W' → (∀ b ∈ (memNone).bl hh, W.heap.size ≤ b ∧ b < W'.heap.size) → K (a'.put (some 115) (.tuple #[.int .i64 (S : Int), .int .i64 (hh.b : Int), .int .i64 (hh.c : Int), .int .i64 0])) W' from fun hh W' h1 h2 h3 => by
        have h4 : K (a'.put (some 115) (region_tb12X N L g2 q2 D gw qw S 7 (updH hds 7 hh))) W' := hK hh W' h1 h2 h3 trivial
        simp only [region_tb12X, updH_same] at h4
        exact h4)
      have m109   := (hmem 1 (show 1 ∈ uOf region_tb12U 7 by decide) (by decide)).1
      have m113   := (hmem 5 (show 5 ∈ uOf region_tb12U 7 by decide) (by decide)).1
      clear hK ld lq hmem
      refine step_call (vals := #[.agg #[.int .i64 (N : Int), .slice (some ⟨(hds 1).b, 0, none⟩) L (hds 1).c], .agg #[.int .i64 (N : Int), .slice (some ⟨(hds 5).b, 0, none⟩) L (hds 5).c]]) (by exact ⟨_, _, Try.func88, by kernel_rfl, rfl⟩) (by simp only [List.map_toArray, List.map_cons, List.map_nil, e109, e114]) (call88 N L (hds 1).b (hds 1).c (hds 5).b (hds 5).c S DS ZS W hDl hZl hVd hVz hS m109.1 m109.2 m113.1 m113.2) ?_
      rintro e w' ⟨x, y, rfl, hb'⟩
      exact ⟨_, rfl, HK.out ⟨x, y, 0, 0, none⟩ _ hb' trivial (fun b hb2 => by cases hb2)⟩
    | 8, _ =>
      obtain ⟨ty, pos, aft, e, hdp⟩ := iop8
      rw [e] at ho
      obtain rfl := Option.some.inj ho
      intro a' hds W K hB lq ld hmem hK
      have e115 : a'.eval (.tmp 115) = .tuple #[.int .i64 (S : Int), .int .i64 ((hds 7).b : Int), .int .i64 ((hds 7).c : Int), .int .i64 0] := by rw [eval_tmp]; exact ld 7 115 (List.all_eq_true.1 hdp 7 (by decide)) rfl
      have HK := Lib.hid (show K (a'.put (some 107) (.tuple #[.int .i64 (S : Int), .int .i64 ((hds 7).b : Int), .int .i64 ((hds 7).c : Int), .int .i64 0])) W from hK W (Below.refl _ _) trivial)
      clear hK ld lq hmem
      unfold Oper.wp
      simp only [execOp, e115]
      exact HK.out
    | 9, _ =>
      obtain ⟨ty, pos, aft, e, hdp⟩ := iop9
      rw [e] at ho
      obtain rfl := Option.some.inj ho
      intro a' hds W K hB lq ld hmem hK
      have e107 : a'.eval (.tmp 107) = .tuple #[.int .i64 (S : Int), .int .i64 ((hds 7).b : Int), .int .i64 ((hds 7).c : Int), .int .i64 0] := by rw [eval_tmp]; exact ld 8 107 (List.all_eq_true.1 hdp 8 (by decide)) rfl
      have HK := Lib.hid (show K (a'.put (some 116) (.int .i64 (S : Int))) W from hK W (Below.refl _ _) trivial)
      clear hK ld lq hmem
      unfold Oper.wp
      simp only [execOp, e107]
      exact HK.out
    | 10, _ =>
      obtain ⟨ty, pos, aft, e, hdp⟩ := iop10
      rw [e] at ho
      obtain rfl := Option.some.inj ho
      intro a' hds W K hB lq ld hmem hK
      have e107 : a'.eval (.tmp 107) = .tuple #[.int .i64 (S : Int), .int .i64 ((hds 7).b : Int), .int .i64 ((hds 7).c : Int), .int .i64 0] := by rw [eval_tmp]; exact ld 8 107 (List.all_eq_true.1 hdp 8 (by decide)) rfl
      have HK := Lib.hid (show K (a'.put (some 117) (.int .i64 ((hds 7).b : Int))) W from hK W (Below.refl _ _) trivial)
      clear hK ld lq hmem
      unfold Oper.wp
      simp only [execOp, e107]
      exact HK.out
    | 11, _ =>
      obtain ⟨ty, pos, aft, e, hdp⟩ := iop11
      rw [e] at ho
      obtain rfl := Option.some.inj ho
      intro a' hds W K hB lq ld hmem hK
      have e107 : a'.eval (.tmp 107) = .tuple #[.int .i64 (S : Int), .int .i64 ((hds 7).b : Int), .int .i64 ((hds 7).c : Int), .int .i64 0] := by rw [eval_tmp]; exact ld 8 107 (List.all_eq_true.1 hdp 8 (by decide)) rfl
      have HK := Lib.hid (show K (a'.put (some 118) (.int .i64 ((hds 7).c : Int))) W from hK W (Below.refl _ _) trivial)
      clear hK ld lq hmem
      unfold Oper.wp
      simp only [execOp, e107]
      exact HK.out
    | 12, _ =>
      obtain ⟨ty, pos, aft, e, hdp⟩ := iop12
      rw [e] at ho
      obtain rfl := Option.some.inj ho
      intro a' hds W K hB lq ld hmem hK
      have e107 : a'.eval (.tmp 107) = .tuple #[.int .i64 (S : Int), .int .i64 ((hds 7).b : Int), .int .i64 ((hds 7).c : Int), .int .i64 0] := by rw [eval_tmp]; exact ld 8 107 (List.all_eq_true.1 hdp 8 (by decide)) rfl
      have HK := Lib.hid (show K (a'.put (some 119) (.int .i64 0)) W from hK W (Below.refl _ _) trivial)
      clear hK ld lq hmem
      unfold Oper.wp
      simp only [execOp, e107]
      exact HK.out
    | 13, _ =>
      obtain ⟨ty, pos, aft, e, hdp⟩ := iop13
      rw [e] at ho
      obtain rfl := Option.some.inj ho
      intro a' hds W K hB lq ld hmem hK
      have e116 : a'.eval (.tmp 116) = .int .i64 (S : Int) := by rw [eval_tmp]; exact ld 9 116 (List.all_eq_true.1 hdp 9 (by decide)) rfl
      have HK := Lib.hid (show K (a'.put (some 22) (.int .i64 (S : Int))) W from hK W (Below.refl _ _) trivial)
      clear hK ld lq hmem
      unfold Oper.wp
      simp only [execOp, e116]
      exact HK.out
    | 14, _ =>
      obtain ⟨ty, pos, aft, e, hdp⟩ := iop14
      rw [e] at ho
      obtain rfl := Option.some.inj ho
      intro a' hds W K hB lq ld hmem hK
      have e117 : a'.eval (.tmp 117) = .int .i64 ((hds 7).b : Int) := by rw [eval_tmp]; exact ld 10 117 (List.all_eq_true.1 hdp 10 (by decide)) rfl
      have HK := Lib.hid (show K (a'.put (some 23) (.int .i64 ((hds 7).b : Int))) W from hK W (Below.refl _ _) trivial)
      clear hK ld lq hmem
      unfold Oper.wp
      simp only [execOp, e117]
      exact HK.out
    | 15, _ =>
      obtain ⟨ty, pos, aft, e, hdp⟩ := iop15
      rw [e] at ho
      obtain rfl := Option.some.inj ho
      intro a' hds W K hB lq ld hmem hK
      have e118 : a'.eval (.tmp 118) = .int .i64 ((hds 7).c : Int) := by rw [eval_tmp]; exact ld 11 118 (List.all_eq_true.1 hdp 11 (by decide)) rfl
      have HK := Lib.hid (show K (a'.put (some 24) (.int .i64 ((hds 7).c : Int))) W from hK W (Below.refl _ _) trivial)
      clear hK ld lq hmem
      unfold Oper.wp
      simp only [execOp, e118]
      exact HK.out
    | 16, _ =>
      obtain ⟨ty, pos, aft, e, hdp⟩ := iop16
      rw [e] at ho
      obtain rfl := Option.some.inj ho
      intro a' hds W K hB lq ld hmem hK
      have e119 : a'.eval (.tmp 119) = .int .i64 0 := by rw [eval_tmp]; exact ld 12 119 (List.all_eq_true.1 hdp 12 (by decide)) rfl
      have HK := Lib.hid (show K (a'.put (some 25) (.int .i64 0)) W from hK W (Below.refl _ _) trivial)
      clear hK ld lq hmem
      unfold Oper.wp
      simp only [execOp, e119]
      exact HK.out
    | i + 17, h => omega
  · intro hds v W hO
    have hfin := gend (hds 1).b (hds 1).c (hds 1).b2 (hds 1).c2 (hds 5).b (hds 5).c (hds 5).b2 (hds 5).c2 (hds 7).b (hds 7).c (hds 7).b2 (hds 7).c2 (hds 1).p (hds 5).p (hds 7).p (v 108) (v 109) (v 110) (v 111) (v 112) (v 113) (v 114) (v 115) (v 107) (v 116) (v 117) (v 118) (v 119) (v 23) (v 24) W hO.b (hO.m 1 (by show 1 < 17; decide) rfl).1 (hO.m 1 (by show 1 < 17; decide) rfl).2 (hO.m 5 (by show 5 < 17; decide) rfl).1 (hO.m 5 (by show 5 < 17; decide) rfl).2 (hO.m 7 (by show 7 < 17; decide) rfl).1 (hO.m 7 (by show 7 < 17; decide) rfl).2
    rw [← laid_putL _ a v ?_] at hfin
    · exact hfin
    · intro p hp
      simp only [List.mem_cons, List.not_mem_nil, or_false] at hp
      rcases hp with rfl | rfl | rfl | rfl | rfl | rfl | rfl | rfl | rfl | rfl | rfl | rfl | rfl | rfl | rfl | rfl | rfl
      · rfl
      · rfl
      · rfl
      · rfl
      · rfl
      · rfl
      · rfl
      · rfl
      · rfl
      · rfl
      · rfl
      · rfl
      · rfl
      · exact hO.x 13 (show 13 < 17 by decide) 22 rfl
      · rfl
      · rfl
      · exact hO.x 16 (show 16 < 17 by decide) 25 rfl
end Go.Proofs.Ytdmgffoikebgkaa
/- TopBound: what is bound is woven bound. -/
namespace Go.Proofs.Ytdmgffoikebgkaa
open Go.RowKit Go.Shelf
attribute [local go_sem] Oper.semAt_some

theorem cyl_round (L : Nat) (h0 : 0 < L) : cylTo L (List.replicate L 1) 0 L = 0 := by
  have h := cyl_one L (L - 1) (by omega)
  have e : cylTo L (List.replicate L 1) 0 (L - 1 + 1) = (cylTo L (List.replicate L 1) 0 (L - 1) + nthN (List.replicate L 1) (L - 1)) % L := rfl
  rw [h, nthN_get _ _ (by simp; omega), List.getElem_replicate, show L - 1 + 1 = L by omega, Nat.mod_self] at e
  exact e
theorem call84z (n L g c b cx : Nat) (xs : List Nat) (W : World) (hL : xs.length = L) (hv : Valid n xs) (hc : CardsAt W g (punched xs L)) (hx : NatsAt W b 0 (List.replicate L 1)) (hxb : b < W.heap.size) :
    Calls Try.prog 84 #[.agg #[.int .i64 (n : Int), .slice (some ⟨g, 0, none⟩) L c], .int .i64 0, .slice (some ⟨b, 0, none⟩) L cx] W fun e w' =>
      ∃ g' cap, e = .returned (.tuple #[.slice (some ⟨g', 0, none⟩) L cap, .int .i64 0, .int .i64 0]) ∧ NatsAt w' g' 0 xs ∧ W.heap.size ≤ g' ∧ g' < w'.heap.size ∧ Below W.heap.size W w' := by
  subst hL
  have l0 := hv.l0
  have l1 := hv.l1
  have hpl := punched_len xs xs.length
  have h := chainWeave_ok n g c 0 b 0 cx (punched xs xs.length) (List.replicate xs.length 1) W ⟨hc, punched_ok hv⟩ (by omega) hx hxb (by simp; omega) (by simp; omega) (fun i => nthN_one3 _ _)
  rw [List.length_replicate, hpl, woven_punched, cyl_round _ (by omega)] at h
  refine h.mono ?_
  rintro e w' ⟨v, rfl, h1, h2⟩
  obtain ⟨g', cap, rfl⟩ := row_slice h1 (by omega)
  obtain ⟨a, b, d⟩ := nats_of_row h1 (by omega)
  exact ⟨g', cap, rfl, a, d, b, h2⟩
theorem call85 (n L g c : Nat) (cs : List Card) (W : World) (hL : cs.length = L) (h0 : 0 < L) (hl : L ≤ 60) (hx : CardsAt W g cs) :
    Calls Try.prog 85 #[.agg #[.int .i64 (n : Int), .slice (some ⟨g, 0, none⟩) L c]] W fun e w' =>
      ∃ g' cap, e = .returned (.agg #[.int .i64 (n : Int), .slice (some ⟨g', 0, none⟩) L cap]) ∧ CardBlk w' g' cs ∧ W.heap.size ≤ g' ∧ Below W.heap.size W w' := by
  subst hL
  refine (pubBelt_ok n g c cs W h0 hl hx).mono ?_
  rintro e w' ⟨g', cap, rfl, h1, h2⟩
  obtain ⟨h4, h5⟩ := CardBlk.of_row h1 h0
  exact ⟨g', cap, rfl, h4, by omega, h2⟩
theorem call83 (n L g c : Nat) (p : Option Addr) (cp : Nat) (sd xs : List Nat) (cs : List Card) (W : World) (hL : cs.length = L) (h0 : 0 < L) (hl : L ≤ 60) (hx : CardsAt W g cs) (hs : Shuf xs cs) (hsd : ByteRow W p sd) (hsl : sd.length ≤ 9223372036854775807) :
    Calls Try.prog 83 #[.agg #[.int .i64 (n : Int), .slice (some ⟨g, 0, none⟩) L c], .slice p sd.length cp] W fun e w' =>
      ∃ g' cap cs', e = .returned (.agg #[.int .i64 (n : Int), .slice (some ⟨g', 0, none⟩) L cap]) ∧ Shuf xs cs' ∧ CardBlk w' g' cs' ∧ cs'.length = L ∧ W.heap.size ≤ g' ∧ Below W.heap.size W w' := by
  subst hL
  exact pubMixed_any n g c p cp sd xs cs W h0 hl hx hs hsd hsl
/-- the designs in memory -/
structure TbS (w : World) (D g2 q2 A gz qz N L : Nat) (DS ZS : List Nat) (W : World) : Prop where
  d : BoxAt W D #[.int .i64 (N : Int), .slice (some ⟨g2, 0, none⟩) L q2] 37
  a : BoxAt W A #[.int .i64 (N : Int), .slice (some ⟨gz, 0, none⟩) L qz] 37
  nd : NatsAt W g2 0 DS
  nz : NatsAt W gz 0 ZS
  l2 : g2 < W.heap.size
  lz : gz < W.heap.size
  b : Below w.heap.size w W
theorem TbS.next {w : World} {D g2 q2 A gz qz N L : Nat} {DS ZS : List Nat} {W W' : World} (h : TbS w D g2 q2 A gz qz N L DS ZS W) (hb : Below W.heap.size W W') : TbS w D g2 q2 A gz qz N L DS ZS W' :=
  ⟨h.d.next hb, h.a.next hb, h.nd.below hb h.l2, h.nz.below hb h.lz, Nat.lt_of_lt_of_le h.l2 hb.size, Nat.lt_of_lt_of_le h.lz hb.size, h.b.trans (hb.mono h.b.size)⟩
set_option maxRecDepth 100000 in
set_option maxHeartbeats 4000000 in
theorem TopBound_any (H : Nat) (p : Option Addr) (c : Nat) (ws : List Nat) (q : Option Addr) (cq : Nat) (sd : List Nat) (w : World) (hH : H < 256) (hw : WordRow w p ws) (hl : ws.length ≤ 9223372036854775807) (hsd : ByteRow w q sd) (hsl : sd.length ≤ 9223372036854775807) :
    Calls Try.prog 14 #[.int .u8 (H : Int), .slice p ws.length c, .slice q sd.length cq] w fun e w' => e = .returned (.bool true) ∧ Below w.heap.size w w' := by
  have H76 := call76 H p c ws w hH hw hl
  obtain ⟨hN1, hN2⟩ := dqN_bd H
  obtain ⟨hL0, hL1⟩ := loom12_bd ws.length
  have hVd := dqTo_valid (dqN H) ws (loomL 12 ws.length) (by omega) (by omega) hL0 (by omega)
  have hDl := dqTo_len (dqN H) ws (loomL 12 ws.length)
  obtain ⟨L, hL⟩ : ∃ L, loomL 12 ws.length = L := ⟨_, rfl⟩
  obtain ⟨N, hN⟩ : ∃ N, dqN H = N := ⟨_, rfl⟩
  rw [hL] at hL0 hL1
  rw [hN, hL] at H76 hVd hDl
  rw [hN] at hN1 hN2
  obtain ⟨DS, hDS⟩ : ∃ DS, dqTo N ws L = DS := ⟨_, rfl⟩
  rw [hDS] at H76 hVd hDl
  clear hN hDS hL hw
  have HVd := Lib.hid hVd
  have HDl := Lib.hid hDl
  have Hsd := Lib.hid hsd
  have H76' := Lib.hid H76
  clear hVd hDl H76 hsd
  go_enter Try.func14, Try.ntmps14
  go_wp2_with fail
  refine H76'.out.mono ?_
  rintro e W1 ⟨g2, q2, rfl, hn2, hl2, hg2, hb1⟩
  clear H76'
  go_upto_region 2 with fail
  obtain ⟨W2, hW2⟩ : ∃ W2, W2 = W1.alloc (.cells #[.int .i64 (N : Int), .slice (some ⟨g2, 0, none⟩) L q2] 37) := ⟨_, rfl⟩
  obtain ⟨D, hD⟩ : ∃ D, D = W1.heap.size := ⟨_, rfl⟩
  rw [← hW2, ← hD]
  have hbW2 : Below W1.heap.size W1 W2 := by rw [hW2]; exact (Below.refl _ _).alloc (Nat.le_refl _) _
  have HD2 := Lib.hid (show BoxAt W2 D #[.int .i64 (N : Int), .slice (some ⟨g2, 0, none⟩) L q2] 37 by rw [hW2, hD]; exact BoxAt.new _ _ _)
  have Hn2 := Lib.hid (hn2.below hbW2 hg2)
  have hg22 : g2 < W2.heap.size := Nat.lt_of_lt_of_le hg2 hbW2.size
  have Hb2 := Lib.hid (hb1.trans (hbW2.mono hb1.size))
  clear hD hW2 hn2 hl2 hg2 hb1 hbW2
  refine region_tb2 N L g2 q2 D DS q cq sd (ByteRow.next Hsd.out Hb2.out) hsl HD2.out rfl ?hops (by kernel_rfl) (by kernel_rfl) (by kernel_rfl) (by kernel_rfl) ?hsz ?hout ?hend
  case hops => exact ⟨⟨_, _, _, rfl, by kernel_rfl⟩, ⟨_, _, _, rfl, by kernel_rfl⟩, ⟨_, _, rfl, by kernel_rfl⟩, ⟨_, _, _, rfl, by kernel_rfl⟩, ⟨_, _, _, rfl, by kernel_rfl⟩, ⟨_, _, _, rfl, by kernel_rfl⟩, ⟨_, _, _, rfl, by kernel_rfl⟩, ⟨_, _, _, rfl, by kernel_rfl⟩, ⟨_, _, _, rfl, by kernel_rfl⟩⟩
  case hsz => intro d hd; simp only [List.mem_cons, List.not_mem_nil, or_false] at hd; show d < 160; omega
  case hout => exact ⟨rfl, rfl⟩
  case hend =>
    intro u29 u30 u31 u32 u33 u34 u35 W3 hb3
    simp only [putL, List.foldl, Act.put, List.setIfInBounds_toArray, List.set_cons_succ, List.set_cons_zero]
    have HD3 := Lib.hid (HD2.out.next hb3)
    have Hn3 := Lib.hid (Hn2.out.below hb3 hg22)
    have hg23 : g2 < W3.heap.size := Nat.lt_of_lt_of_le hg22 hb3.size
    have Hb3 := Lib.hid (Hb2.out.trans (hb3.mono Hb2.out.size))
    obtain ⟨m, hm⟩ : ∃ m, 1 + byteN sd 0 % 3 = m := ⟨_, rfl⟩
    have hm1 : 1 ≤ m := by omega
    have hm3 : m ≤ 3 := by have := Nat.mod_lt (byteN sd 0) (show 0 < 3 by decide); omega
    rw [hm]
    clear hm hb3 HD2 Hn2 hg22 Hb2
    by_cases hodd : m = 1 ∧ N % 2 = 1
    · obtain ⟨rfl, hodd⟩ := hodd
      go_upto_region 3 with fail
      refine region_tb3n N L g2 q2 D DS HDl.out HVd.out Hn3.out hg23 (by omega) hodd (by omega) HD3.out rfl ?hops (by kernel_rfl) (by kernel_rfl) (by kernel_rfl) (by kernel_rfl) ?hsz ?hout ?hend
      case hops => exact ⟨⟨_, _, _, rfl, by kernel_rfl⟩, ⟨_, _, _, rfl, by kernel_rfl⟩, ⟨_, _, _, rfl, by kernel_rfl⟩, ⟨_, _, _, rfl, by kernel_rfl⟩, ⟨_, _, _, rfl, by kernel_rfl⟩, ⟨_, _, _, rfl, by kernel_rfl⟩, ⟨_, _, _, rfl, by kernel_rfl⟩, ⟨_, _, _, rfl, by kernel_rfl⟩, ⟨_, _, _, rfl, by kernel_rfl⟩, ⟨_, _, _, rfl, by kernel_rfl⟩, ⟨_, _, _, rfl, by kernel_rfl⟩, ⟨_, _, _, rfl, by kernel_rfl⟩, ⟨_, _, _, rfl, by kernel_rfl⟩, ⟨_, _, _, rfl, by kernel_rfl⟩⟩
      case hsz => intro d hd; simp only [List.mem_cons, List.not_mem_nil, or_false] at hd; show d < 160; omega
      case hout => exact ⟨rfl, rfl, rfl⟩
      case hend =>
        intro g38 q38 G38 Q38 g40 q40 G40 Q40 g10 q10 G10 Q10 P38 P40 P10 u37 u38 u39 u40 u41 u42 u36 u43 u44 u45 u10 u11 W4 hb4 hA1 hA2 hm38 hb38 hm40 hb40 hst
        simp only [putL, List.foldl, Act.put, List.setIfInBounds_toArray, List.set_cons_succ, List.set_cons_zero]
        have z0 := (HD3.out.next hb4).cell' 0 rfl
        have Hb4 := Lib.hid (Hb3.out.trans (hb4.mono Hb3.out.size))
        have hN2 : (N : Int) % 2 = 1 := by omega
        clear hb4 hA1 hA2 hm38 hb38 hm40 hb40 hst HD3 Hn3 hg23 Hb3 hodd
        go_wp2_with fail
        refine (pubPoint_any W4).mono ?_
        rintro e W18 ⟨rfl, hb18⟩
        have Hb18 := Lib.hid (Hb4.out.trans (hb18.mono Hb4.out.size))
        clear hb18 Hb4 z0
        go_wp2_with fail
        refine (pubChain_any W18).mono ?_
        rintro e W19 ⟨rfl, hb19⟩
        have Hb19 := Lib.hid (Hb18.out.trans (hb19.mono Hb18.out.size))
        clear hb19 Hb18
        go_wp2_with fail
        go_ret
        exact ⟨rfl, Hb19.out⟩
    · have Hfix := Lib.hid (zs_fix HVd.out hN1 hN2 hm1 hodd)
      have hS : smOf N m DS = chAll (-1) N DS (zsOf N m DS) L := by have := Hfix.out.s; rw [HDl.out] at this; exact this
      have hBd : ∀ i, i < L → BoundUp (nthN (zsOf N m DS) i) N m := fun i hi => (Hfix.out.ok i (by rw [HDl.out]; exact hi)).2
      have hZl : (zsOf N m DS).length = L := (zs_len _ _ _).trans HDl.out
      have HS := Lib.hid hS
      have HBd := Lib.hid hBd
      have HZl := Lib.hid hZl
      have HVz := Lib.hid Hfix.out.v
      clear hS hBd hZl Hfix
      go_upto_region 3 with fail
      refine region_tb3 N L g2 q2 D DS m HDl.out HVd.out Hn3.out hg23 hN1 hN2 hm1 hm3 hodd (by omega) HD3.out rfl ?hops (by kernel_rfl) (by kernel_rfl) (by kernel_rfl) (by kernel_rfl) ?hsz ?hout ?hend
      case hops => exact ⟨⟨_, _, _, rfl, by kernel_rfl⟩, ⟨_, _, _, rfl, by kernel_rfl⟩, ⟨_, _, _, rfl, by kernel_rfl⟩, ⟨_, _, _, rfl, by kernel_rfl⟩, ⟨_, _, _, rfl, by kernel_rfl⟩, ⟨_, _, _, rfl, by kernel_rfl⟩, ⟨_, _, _, rfl, by kernel_rfl⟩, ⟨_, _, _, rfl, by kernel_rfl⟩, ⟨_, _, _, rfl, by kernel_rfl⟩, ⟨_, _, _, rfl, by kernel_rfl⟩, ⟨_, _, _, rfl, by kernel_rfl⟩, ⟨_, _, _, rfl, by kernel_rfl⟩, ⟨_, _, _, rfl, by kernel_rfl⟩, ⟨_, _, _, rfl, by kernel_rfl⟩⟩
      case hsz => intro d hd; simp only [List.mem_cons, List.not_mem_nil, or_false] at hd; show d < 160; omega
      case hout => exact ⟨rfl, rfl, rfl⟩
      case hend =>
        intro g38 q38 G38 Q38 g40 q40 G40 Q40 g42 q42 G42 Q42 g10 q10 G10 Q10 P38 P40 P42 P10 u37 u38 u39 u40 u41 u42 u36 u43 u44 u45 W4 hb4 hm38 hb38 hm40 hb40 hm42 hb42 hA1 hA2 hst
        simp only [putL, List.foldl, Act.put, List.setIfInBounds_toArray, List.set_cons_succ, List.set_cons_zero]
        obtain ⟨ZS, hZS⟩ : ∃ ZS, zsOf N m DS = ZS := ⟨_, rfl⟩
        obtain ⟨S, hSS⟩ : ∃ S, smOf N m DS = S := ⟨_, rfl⟩
        rw [hSS]
        rw [hZS] at hm42
        have HS := Lib.hid (show S = chAll (-1) N DS ZS L by rw [← hZS, ← hSS]; exact HS.out)
        have HBd := Lib.hid (show ∀ i, i < L → BoundUp (nthN ZS i) N m by rw [← hZS]; exact HBd.out)
        have HZl := Lib.hid (show ZS.length = L by rw [← hZS]; exact HZl.out)
        have HVz := Lib.hid (show Valid N ZS by rw [← hZS]; exact HVz.out)
        have hT4 : TbS w D g2 q2 g10 g42 q42 N L DS ZS W4 := ⟨HD3.out.next hb4, hst, Hn3.out.below hb4 hg23, hm42.1, Nat.lt_of_lt_of_le hg23 hb4.size, hm42.2, Hb3.out.trans (hb4.mono Hb3.out.size)⟩
        have z0 := hT4.d.cell' 0 rfl
        have a0 := hT4.a.cell' 0 rfl
        have a1 := hT4.a.cell' 1 rfl
        have H78 := Lib.hid (call78 N L g42 q42 ZS W4 HZl.out (by omega) (by omega) hT4.nz hT4.lz)
        have HT4 := Lib.hid hT4
        clear hb4 hm38 hb38 hm40 hb40 hm42 hb42 hA1 hA2 hst HD3 Hn3 hg23 Hb3 hZS hSS hT4
        go_upto_region 4 with fail
        go_cut [53] (fun s wx => s = .bool false ∧ W4 = wx)
        case first =>
          by_cases h1 : m = 1
          · have hd : ((m : Int) == 1) = true := by rw [h1]; rfl
            have hN2 : ((N : Int) % 2 == 1) = false := by rw [beq_eq_false_iff_ne]; omega
            clear h1 hodd
            go_wp2_with fail
            go_meet
            exact ⟨rfl, rfl⟩
          · have hd : ((m : Int) == 1) = false := by rw [beq_eq_false_iff_ne]; omega
            clear h1 hodd
            go_wp2_with fail
            go_meet
            exact ⟨rfl, rfl⟩
        case rest =>
          obtain ⟨rfl, rfl⟩ := hcut
          clear z0 hodd
          go_wp2_with fail
          refine H78.out.mono ?_
          rintro e W5 ⟨g5, q5, rfl, hn5, hl5, hg5, hb5⟩
          have H81 := Lib.hid (call81 N L g5 q5 ZS W5 HZl.out HVz.out hn5 hg5)
          have HT5 := Lib.hid (HT4.out.next hb5)
          clear hn5 hl5 hg5 hb5 a0 a1 H78 HT4
          go_wp2_with fail
          refine H81.out.mono ?_
          rintro e W6 ⟨g6, q6, rfl, hP6, hl6, hb6⟩
          have HT6 := Lib.hid (HT5.out.next hb6)
          clear hb6 H81 HT5
          go_upto_region 7 with fail
          obtain ⟨W7, hW7⟩ : ∃ W7, W7 = W6.alloc (.cells #[.int .i64 (N : Int), .slice (some ⟨g6, 0, none⟩) L q6] 114) := ⟨_, rfl⟩
          obtain ⟨B, hB⟩ : ∃ B, B = W6.heap.size := ⟨_, rfl⟩
          rw [← hW7, ← hB]
          have hb7 : Below W6.heap.size W6 W7 := by rw [hW7]; exact (Below.refl _ _).alloc (Nat.le_refl _) _
          have hxB : BoxAt W7 B #[.int .i64 (N : Int), .slice (some ⟨g6, 0, none⟩) L q6] 114 := by rw [hW7, hB]; exact BoxAt.new _ _ _
          have hT7 := HT6.out.next hb7
          have b0 := hxB.cell' 0 rfl
          have b1 := hxB.cell' 1 rfl
          have hpl : (punched ZS L).length = L := punched_len _ _
          have H83 := Lib.hid (call83 N L g6 q6 q cq sd ZS (punched ZS L) W7 hpl (by omega) (by omega) (hP6.next hb7).at' (by have := Shuf.punched ZS; rw [HZl.out] at this; exact this) (ByteRow.next Hsd.out hT7.b) hsl)
          have HT7 := Lib.hid hT7
          clear hW7 hB hb7 hxB hT7 hpl HT6 hP6 hl6
          go_upto_region 9 with fail
          go_wp2_with fail
          refine H83.out.mono ?_
          rintro e W8 ⟨g8, q8, cs', rfl, hsh, hC8, hcl, hl8, hb8⟩
          have H82 := Lib.hid (call82 N L g8 q8 ZS cs' W8 HZl.out hcl HVz.out hC8.at' hsh)
          have HT8 := Lib.hid (HT7.out.next hb8)
          clear hsh hC8 hcl hl8 hb8 b0 b1 H83 HT7
          go_wp2_with fail
          refine H82.out.mono ?_
          rintro e W9 ⟨g9, q9, rfl, hC9, hl9, hb9⟩
          have HT9 := Lib.hid (HT8.out.next hb9)
          clear hb9 H82 HT8
          go_upto_region 10 with fail
          obtain ⟨W10, hW10⟩ : ∃ W10, W10 = W9.alloc (.cells #[.int .i64 (N : Int), .slice (some ⟨g9, 0, none⟩) L q9] 114) := ⟨_, rfl⟩
          obtain ⟨E, hE⟩ : ∃ E, E = W9.heap.size := ⟨_, rfl⟩
          rw [← hW10, ← hE]
          have hb10 : Below W9.heap.size W9 W10 := by rw [hW10]; exact (Below.refl _ _).alloc (Nat.le_refl _) _
          have hxE : BoxAt W10 E #[.int .i64 (N : Int), .slice (some ⟨g9, 0, none⟩) L q9] 114 := by rw [hW10, hE]; exact BoxAt.new _ _ _
          have c0 := hxE.cell' 0 rfl
          have c1 := hxE.cell' 1 rfl
          have HT10 := Lib.hid (HT9.out.next hb10)
          have H85 := Lib.hid (call85 N L g9 q9 (punched ZS L) W10 (punched_len _ _) (by omega) (by omega) (hC9.next hb10).at')
          clear hW10 hE hb10 hxE HT9 hC9 hl9
          go_wp2_with fail
          refine H85.out.mono ?_
          rintro e W11 ⟨g11, q11, rfl, hC11, hl11, hb11⟩
          have HT11 := Lib.hid (HT10.out.next hb11)
          have H86 := Lib.hid (call86 L W11 (by omega) (by omega))
          clear hl11 hb11 c0 c1 H85 HT10
          go_wp2_with fail
          refine H86.out.mono ?_
          rintro e W12 ⟨g12, q12, rfl, hn12, hl12, hg12, hb12⟩
          have HT12 := Lib.hid (HT11.out.next hb12)
          have H84 := Lib.hid (call84z N L g11 q11 g12 q12 ZS W12 HZl.out HVz.out (hC11.next hb12).at' hn12 hg12)
          clear hC11 hn12 hl12 hg12 hb12 H86 HT11
          go_wp2_with fail
          refine H84.out.mono ?_
          rintro e W13 ⟨gw, qw, rfl, hnw, hlw, hgw, hb13⟩
          have hT13 := HT12.out.next hb13
          have HT13 := Lib.hid hT13
          have Hnw := Lib.hid hnw
          have HD13 := Lib.hid hT13.d
          clear hnw hlw hb13 hT13 H84 HT12
          go_upto_region 11 with fail
          refine region_tb11 N L g2 q2 D DS gw qw m ZS HZl.out HVz.out Hnw.out hgw hm3 HBd.out HD13.out rfl ?hops (by kernel_rfl) (by kernel_rfl) (by kernel_rfl) (by kernel_rfl) ?hsz ?hout ?hend
          case hops => exact ⟨⟨_, _, _, rfl, by kernel_rfl⟩, ⟨_, _, _, rfl, by kernel_rfl⟩, ⟨_, _, _, rfl, by kernel_rfl⟩, ⟨_, _, _, rfl, by kernel_rfl⟩, ⟨_, _, _, rfl, by kernel_rfl⟩, ⟨_, _, _, rfl, by kernel_rfl⟩, ⟨_, _, _, rfl, by kernel_rfl⟩, ⟨_, _, _, rfl, by kernel_rfl⟩, ⟨_, _, _, rfl, by kernel_rfl⟩, ⟨_, _, _, rfl, by kernel_rfl⟩, ⟨_, _, _, rfl, by kernel_rfl⟩, ⟨_, _, _, rfl, by kernel_rfl⟩⟩
          case hsz => intro d hd; simp only [List.mem_cons, List.not_mem_nil, or_false] at hd; show d < 160; omega
          case hout => exact ⟨rfl, rfl, rfl⟩
          case hend =>
            intro g101 q101 G101 Q101 g104 q104 G104 Q104 P101 P104 u98 u99 u100 u101 u102 u103 u104 u97 u105 u106 W14 hb14 hm101 hb101 hm104 hb104
            simp only [putL, List.foldl, Act.put, List.setIfInBounds_toArray, List.set_cons_succ, List.set_cons_zero]
            have hT14 := HT13.out.next hb14
            have Hnw4 := Lib.hid (Hnw.out.below hb14 hgw)
            have hgw4 : gw < W14.heap.size := Nat.lt_of_lt_of_le hgw hb14.size
            have HT14 := Lib.hid hT14
            clear hb14 hm101 hb101 hm104 hb104 hT14 HT13 HD13 Hnw hgw
            go_upto_region 12 with fail
            refine region_tb12 N L g2 q2 D DS gw qw S ZS HDl.out HVd.out HT14.out.nd HT14.out.l2 HZl.out HVz.out Hnw4.out hgw4 HS.out HT14.out.d rfl ?hops (by kernel_rfl) (by kernel_rfl) (by kernel_rfl) (by kernel_rfl) ?hsz ?hout ?hend
            case hops => exact ⟨⟨_, _, _, rfl, by kernel_rfl⟩, ⟨_, _, _, rfl, by kernel_rfl⟩, ⟨_, _, _, rfl, by kernel_rfl⟩, ⟨_, _, _, rfl, by kernel_rfl⟩, ⟨_, _, _, rfl, by kernel_rfl⟩, ⟨_, _, _, rfl, by kernel_rfl⟩, ⟨_, _, _, rfl, by kernel_rfl⟩, ⟨_, _, _, rfl, by kernel_rfl⟩, ⟨_, _, _, rfl, by kernel_rfl⟩, ⟨_, _, _, rfl, by kernel_rfl⟩, ⟨_, _, _, rfl, by kernel_rfl⟩, ⟨_, _, _, rfl, by kernel_rfl⟩, ⟨_, _, _, rfl, by kernel_rfl⟩, ⟨_, _, _, rfl, by kernel_rfl⟩, ⟨_, _, _, rfl, by kernel_rfl⟩, ⟨_, _, _, rfl, by kernel_rfl⟩, ⟨_, _, _, rfl, by kernel_rfl⟩⟩
            case hsz => intro d hd; simp only [List.mem_cons, List.not_mem_nil, or_false] at hd; show d < 160; omega
            case hout => exact ⟨rfl, rfl⟩
            case hend =>
              intro g109 q109 G109 Q109 g113 q113 G113 Q113 g115 q115 G115 Q115 P109 P113 P115 u108 u109 u110 u111 u112 u113 u114 u115 u107 u116 u117 u118 u119 u23 u24 W15 hb15 hm109 hb109 hm113 hb113 hm115 hb115
              simp only [putL, List.foldl, Act.put, List.setIfInBounds_toArray, List.set_cons_succ, List.set_cons_zero]
              have hT15 := HT14.out.next hb15
              have a1 := hT15.a.cell' 1 rfl
              have Hb15 := Lib.hid hT15.b
              have H89 := Lib.hid (call89 L gw qw g42 q42 ZS W15 HZl.out (by omega) (Hnw4.out.below hb15 hgw4) hT15.nz (Nat.lt_of_lt_of_le hgw4 hb15.size) hT15.lz)
              clear hb15 hm109 hb109 hm113 hb113 hm115 hb115 hT15 HT14 Hnw4 hgw4
              go_wp2_with fail
              refine H89.out.mono ?_
              rintro e W16 ⟨rfl, hb16⟩
              have Hb16 := Lib.hid (Hb15.out.trans (hb16.mono Hb15.out.size))
              clear hb16 Hb15 a1 H89
              go_wp2_with fail
              refine (pubPoint_any W16).mono ?_
              rintro e W18 ⟨rfl, hb18⟩
              have Hb18 := Lib.hid (Hb16.out.trans (hb18.mono Hb16.out.size))
              clear hb18 Hb16
              go_wp2_with fail
              refine (pubChain_any W18).mono ?_
              rintro e W19 ⟨rfl, hb19⟩
              have Hb19 := Lib.hid (Hb18.out.trans (hb19.mono Hb18.out.size))
              clear hb19 Hb18
              go_wp2_with fail
              go_ret
              exact ⟨rfl, Hb19.out⟩
end Go.Proofs.Ytdmgffoikebgkaa
