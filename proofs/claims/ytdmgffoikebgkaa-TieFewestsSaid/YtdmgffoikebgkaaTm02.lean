/- Chapter 3: the design of a cloth, as the reference finds it. -/
import Derived.Test.YtdmgffoikebgkaaTb01
import Derived.Test.YtdmgffoikebgkaaTb02
import Derived.Test.YtdmgffoikebgkaaTb03
import Derived.Test.YtdmgffoikebgkaaTb04
import Derived.Test.YtdmgffoikebgkaaTb05
import Derived.Test.YtdmgffoikebgkaaTb06
import Derived.Test.YtdmgffoikebgkaaTb07
import Derived.Test.YtdmgffoikebgkaaTb08
import Derived.Test.YtdmgffoikebgkaaTb09
import Derived.Test.YtdmgffoikebgkaaTb10
import Derived.Test.YtdmgffoikebgkaaTb11
import Derived.Test.YtdmgffoikebgkaaTb12
import Derived.Test.YtdmgffoikebgkaaTb13
import Derived.Test.YtdmgffoikebgkaaTb14
import Derived.Test.YtdmgffoikebgkaaTb15
import Derived.Test.YtdmgffoikebgkaaTb16
import Derived.Test.YtdmgffoikebgkaaTb17
import Derived.Test.YtdmgffoikebgkaaTb18
import Derived.Test.YtdmgffoikebgkaaTb19
import Derived.Test.YtdmgffoikebgkaaTb20
import Derived.Test.YtdmgffoikebgkaaTm01
import Derived.Deep.RegionLaw
import Derived.Deep.DeepCutAuto
import Derived.Laws.StructEq
import Derived.Deep.QuietTactic
import Derived.BigQuiet
import Derived.Deep.RegionHeld3
import Derived.Laws.IdiomStrings
import Derived.SliceStrings
namespace Go.Proofs.Ytdmgffoikebgkaa
open Go.RowKit Go.Shelf
attribute [local go_sem] Oper.semAt_some

theorem app_shut {P : Program} {ops : Array Oper} {Q : Exit → Act → World → Prop} {rest : List Oper} {a : Act} {W : World} {dst : Option Tmp} {ty : TypeId} {pos : String} {aft : Array Edge} {gd : Option (Nat × Bool)} {s x : Operand} {t : TypeId}
    (h : Shut (wpList P ops Q ({ dst := dst, op := .call { callee := .builtin .append, args := #[s, x], argTypes := #[t, t] }, type := ty, pos := pos, after := aft, guard := gd } :: rest) a W)) :
    wpList P ops Q ({ dst := dst, op := .call { callee := .builtin .append, args := #[s, x], argTypes := #[t, t] }, type := ty, pos := pos, after := aft, guard := gd } :: rest) a W := h.out
theorem elemRows : ElemT 166 168 1 24 := by
  obtain ⟨i, hi, hz0, hz1, hz2⟩ := info_parts tInfo77
  exact ⟨i, _, by kernel_rfl, hi, hz0, hz1, hz2, rfl, by decide⟩
/-- whether the reference lifts a hook at a pick: where its first warp is -/
def uwF (hs ps : List Nat) (i h : Nat) : Bool := ((firstH hs h).map fun w => bitN (nthN ps i) w).getD false
theorem uwF_some {hs ps : List Nat} {i h k : Nat} (e : firstH hs h = some k) : uwF hs ps i h = bitN (nthN ps i) k := by unfold uwF; rw [e]; rfl
theorem uwF_none {hs ps : List Nat} {i h : Nat} (e : firstH hs h = none) : uwF hs ps i h = false := by unfold uwF; rw [e]; rfl
theorem uw_eq {hs ps : List Nat} {n : Nat} (hk : ∀ i, i < hs.length → nthN hs i < n) (hno : NoPart hs ps) : painted (uwF hs ps) ps.length n = dsnL hs ps := by
  refine List.ext_getElem (by rw [painted_len, dsnL_len]) fun i h1 h2 => ?_
  have hi : i < ps.length := by rw [dsnL_len] at h2; exact h2
  rw [← nthN_get _ _ h1, ← nthN_get _ _ h2, dsnL_nth _ _ hi, painted_nth _ _ _ _ hi]
  refine nat_ext fun j => ?_
  rw [drowN_bit]
  have hb : bitN (rowTo (uwF hs ps i) n) j = (decide (j < n) && uwF hs ps i j) := rowTo_bit _ _ _
  rw [hb, Bool.and_eq_true, decide_eq_true_eq]
  constructor
  · rintro ⟨_, h4⟩
    cases hf : firstH hs j with
    | none => rw [uwF_none hf] at h4; cases h4
    | some k =>
      rw [uwF_some hf] at h4
      unfold firstH at hf
      rw [List.find?_range_eq_some] at hf
      exact ⟨k, by simpa using hf.2.1, by simpa using hf.1, h4⟩
  · rintro ⟨t, ht, h3, h4⟩
    refine ⟨by rw [← h3]; exact hk t ht, ?_⟩
    have hf := firstH_fst (hs := hs) ht
    rw [h3] at hf
    rw [uwF_some hf]
    have := hno i t hi ht
    unfold Like2 at this
    rw [← this]; exact h4
/-- what the reference's Unweave keeps -/
structure UwS (w : World) (n b off c : Nat) (hs : List Nat) (b2 off2 : Nat) (ss : List ByteArray) (f : Nat → Nat → Bool) (v : Value) (sl : List Value) (k : Nat) (W : World) : Prop where
  bx : BoxAt W w.heap.size #[.int .i64 (n : Int), .slice (some ⟨b, off, none⟩) hs.length c] 26
  rs : BoxAt W (w.heap.size + 1) #[.int .i64 0, .slice none 0 0] 37
  tv : TAt W b off n hs
  bl : b < w.heap.size
  sst : StrsAt W b2 off2 ss
  sbl : b2 < w.heap.size
  row : W.ownsRow (w.heap.size + 2) 168 1 v k sl
  rin : RowsIn W v sl k n f
  bel : Below w.heap.size w W
  sz : w.heap.size + 2 ≤ W.heap.size
section
variable {w W W' : World} {n b off c : Nat} {hs : List Nat} {b2 off2 : Nat} {ss : List ByteArray} {f : Nat → Nat → Bool} {v : Value} {sl : List Value} {k : Nat}
theorem UwS.next (h : UwS w n b off c hs b2 off2 ss f v sl k W) (hb : Below W.heap.size W W') : UwS w n b off c hs b2 off2 ss f v sl k W' :=
  ⟨h.bx.next hb, h.rs.next hb, h.tv.next hb, h.bl, h.sst.below hb (Nat.lt_of_lt_of_le h.sbl h.bel.size), h.sbl, ownsRow_next h.row hb, h.rin.below hb, h.bel.trans (hb.mono h.bel.size), Nat.le_trans h.sz hb.size⟩
theorem UwS.grew {g5 cap g' c' : Nat} (h : UwS w n b off c hs b2 off2 ss f v sl k W) (hbo : BoolsAt W g' n (f k)) (hne : some g' ≠ v.ownBlock)
    (hg : Grew (w.heap.size + 2) 168 1 W W' v g5 cap (k + 1) (sl ++ [.slice (some ⟨g', 0, none⟩) n c'])) : UwS w n b off c hs b2 off2 ss f (.slice (some ⟨g5, 0, none⟩) (k + 1) cap) (sl ++ [.slice (some ⟨g', 0, none⟩) n c']) (k + 1) W' := by
  have hf : ∀ j, j < w.heap.size + 2 → some j ≠ v.ownBlock := fun j hj => own_far h.row hj
  refine ⟨h.bx.kept hg.grow (hf _ (by omega)), h.rs.kept hg.grow (hf _ (by omega)), ?_, h.bl, fun i hi => ?_, h.sbl, hg.row, ?_, hg.below h.row (by omega) h.sz h.bel, Nat.le_trans h.sz hg.grow.size⟩
  · obtain ⟨t1, t2, t3, t4, t5, t6, t7⟩ := h.tv
    exact ⟨fun i hi => (hg.grow.cell_far ⟨b, off + i, none⟩ t2 (hf b (by have := h.bl; omega))).trans (t1 i hi), Nat.lt_of_lt_of_le t2 hg.grow.size, t3, t4, t5, t6, t7⟩
  · exact (hg.grow.cell_far ⟨b2, off2 + i, none⟩ (Nat.lt_of_lt_of_le h.sbl h.bel.size) (hf b2 (by have := h.sbl; omega))).trans (h.sst i hi)
  · rcases hg.at' with e | e
    · exact h.rin.grow (H := W.heap.size) (by have := h.row.1; omega) hg.grow hbo hne (.inl (by rw [e]; rfl)) (Nat.le_refl _)
    · exact h.rin.grow (H := g5) (by have := h.row.1; omega) hg.grow hbo hne (.inr rfl) e
end
set_option maxRecDepth 100000 in
set_option maxHeartbeats 2000000 in
theorem refUnweave3_any (n b off c b2 off2 c2 L : Nat) (hs ps : List Nat) (ss : List ByteArray) (w : World) (hv : TAt w b off n hs) (hC : ClS ss hs.length ps) (hL : ps.length = L) (hl0 : 1 ≤ L) (hl : L ≤ 60) (hx : StrsAt w b2 off2 ss) (hb2 : b2 < w.heap.size) :
    Calls Try.prog 53 #[.agg #[.int .i64 (n : Int), .slice (some ⟨b, off, none⟩) hs.length c], .slice (some ⟨b2, off2, none⟩) L c2] w (CopyN (n : Int) (ints (painted (uwF hs ps) L n)) w) := by
  obtain ⟨w0, hw0⟩ : ∃ w0, w0 = (w.alloc (.cells #[.int .i64 (n : Int), .slice (some ⟨b, off, none⟩) hs.length c] 26)).alloc (.cells #[.int .i64 0, .slice none 0 0] 37) := ⟨_, rfl⟩
  have hb0 : Below w.heap.size w w0 := by rw [hw0]; exact ((Below.refl _ _).alloc (Nat.le_refl _) _).alloc (by simp) _
  have hs0 : w0.heap.size = w.heap.size + 2 := by rw [hw0]; simp
  obtain ⟨w1, hw1⟩ : ∃ w1, w1 = w0.alloc (.cells #[] 168) := ⟨_, rfl⟩
  have hb1 : Below w0.heap.size w0 w1 := by rw [hw1]; exact (Below.refl _ _).alloc (Nat.le_refl _) _
  have hs1 : w1.heap.size = w.heap.size + 3 := by rw [hw1]; simp; omega
  have hr1 : w1.ownsRow (w.heap.size + 2) 168 1 (.slice (some ⟨w.heap.size + 2, 0, none⟩) 0 0) 0 [] := by
    have := World.ownsRow_made (base := w0.heap.size) (e := 168) (size := 1) w0 #[] 0 (Nat.le_refl _) (Nat.zero_le _) rfl
    rw [hs0] at this
    rw [hw1]; exact this
  have H1 := Lib.hid (show UwS w n b off c hs b2 off2 ss (uwF hs ps) (.slice (some ⟨w.heap.size + 2, 0, none⟩) 0 0) [] 0 w1 from
    ⟨by rw [hw0] at hb1; exact ((BoxAt.new w _ _).next ((Below.refl _ _).alloc (Nat.le_refl _) _)).next hb1,
     by have h := BoxAt.new (w.alloc (.cells #[.int .i64 (n : Int), .slice (some ⟨b, off, none⟩) hs.length c] 26)) #[.int .i64 0, .slice none 0 0] 37; rw [World.size_alloc, ← hw0] at h; exact h.next hb1,
     (hv.next hb0).next hb1, hv.lt, (hx.below hb0 hb2).below hb1 (by omega), hb2, hr1, fun i hi => by omega, hb0.trans (hb1.mono (by omega)), by omega⟩)
  have HW0 := Lib.hid hw0
  have HW1 := Lib.hid hw1
  have Hs0 := Lib.hid hs0
  have HC := Lib.hid hC
  have HL := Lib.hid hL
  have hT1 := hv.l1
  have hn1 := hv.n1
  clear hw0 hb0 hs0 hw1 hb1 hs1 hr1 hv hx hb2 hC hL
  go_enter Try.func53, Try.ntmps53
  go_wp2_with fail
  rw [← HW0.out]
  rw [← HW1.out]
  go_loopw [5, 6] (fun v i wr => ∃ (k : Nat) (sl : List Value), k ≤ L ∧ i = .int .i64 (k : Int) ∧ UwS w n b off c hs b2 off2 ss (uwF hs ps) v sl k wr) (fun _ i _ => L - (intOf i).toNat)
  case atStart => exact ⟨0, [], Nat.zero_le _, rfl, H1.out⟩
  case round =>
    obtain ⟨k, sl, hk, rfl, hS⟩ := hrel
    have HS := Lib.hid hS
    clear hS H1 HW0 HW1 Hs0
    obtain ⟨wk, hwk⟩ : ∃ wk : World, wk = wr := ⟨_, rfl⟩
    by_cases hlt : k < L
    · obtain ⟨H, hH⟩ : ∃ H, wr.heap.size = H := ⟨_, rfl⟩
      have hrl := World.ownsRow_made (base := wr.heap.size) (e := 4) (size := 1) wr #[] 0 (Nat.le_refl _) (Nat.zero_le _) rfl
      have hbl : Below H wk (wr.alloc (.cells #[] 4)) := by rw [hwk, ← hH]; exact (Below.refl _ _).alloc (Nat.le_refl _) _
      rw [hH] at hrl
      obtain ⟨wl, hwl⟩ : ∃ wl, wl = wr.alloc (.cells #[] 4) := ⟨_, rfl⟩
      rw [← hwl] at hrl hbl
      have HSk := Lib.hid (show UwS w n b off c hs b2 off2 ss (uwF hs ps) u5 sl k wk by rw [hwk]; exact HS.out)
      have HHk := Lib.hid (show wk.heap.size = H by rw [hwk]; exact hH)
      have HRl := Lib.hid hrl
      have HBl := Lib.hid hbl
      have HWl := Lib.hid hwl
      have hsz := HS.out.sz
      go_wp2_with fail
      rw [← HWl.out]
      clear hrl hbl hwl HWl HS hH hwk
      go_loopw [7, 8] (fun u i wz => ∃ j g cg : Nat, j ≤ n ∧ i = .int .i64 (j : Int) ∧ u = .slice (some ⟨g, 0, none⟩) j cg ∧ wz.ownsRow H 4 1 (.slice (some ⟨g, 0, none⟩) j cg) j (boolCells (uwF hs ps k) j) ∧ Below H wk wz) (fun _ i _ => n - (intOf i).toNat)
      case atStart => exact ⟨0, H, 0, Nat.zero_le _, rfl, rfl, HRl.out, HBl.out⟩
      case round =>
        obtain ⟨j, g, cg, hj, rfl, rfl, hrow, hB⟩ := hrel
        have HRow := Lib.hid hrow
        have HB := Lib.hid hB
        have HSz := Lib.hid (HSk.out.next (by rw [HHk.out]; exact hB))
        clear hrow hB HRl HBl
        have a0 := HSz.out.bx.cell' 0 rfl
        have a1 := HSz.out.bx.cell' 1 rfl
        have hHs : H ≤ wr.heap.size := by have := HB.out.size; rw [HHk.out] at this; exact this
        by_cases hjl : j < n
        · have H129 := refFirst_any n b off c j hs wr HSz.out.tv (by omega)
          go_wp2_with fail
          refine H129.mono ?_
          rintro e w3 ⟨⟨r, rfl, hr⟩, hb3⟩
          have HB3 := Lib.hid (HB.out.trans (hb3.mono hHs))
          have HRow3 := Lib.hid (ownsRow_next HRow.out hb3)
          have HSz3 := Lib.hid (HSz.out.next hb3)
          have hs3 : H ≤ w3.heap.size := Nat.le_trans hHs hb3.size
          have hj0 : (0 : Int) ≤ (j : Int) := by omega
          have hk0 : (0 : Int) ≤ (k : Int) := by omega
          have hk1 : (k : Int) < (L : Int) := by omega
          clear hb3 HB HRow HSz a0 a1 H129
          rcases fir_first hr with ⟨t, ht, hf, rfl⟩ | ⟨hf, rfl⟩
          · have hc := HSz3.out.sst k (by rw [HC.out.len, HL.out]; exact hlt)
            have hsb := HC.out.str k (by rw [HL.out]; exact hlt)
            have hu := uwF_some (ps := ps) (i := k) hf
            obtain ⟨s, hs'⟩ : ∃ s, nthB ss k = s := ⟨_, rfl⟩
            obtain ⟨pk, hpk⟩ : ∃ pk, nthN ps k = pk := ⟨_, rfl⟩
            rw [hs'] at hc hsb
            rw [hpk] at hsb hu
            have hi1 := fun W => hsb.idx ht W
            have Hsz := Lib.hid hsb.size
            have Hsb := Lib.hid hsb
            clear hr hf hs' hpk hsb
            have hd : decide ((0 : Int) ≤ (t : Int)) = true := decide_eq_true (by omega)
            cases hbt : bitN pk t with
            | true =>
              have hv1 : byteP pk t = 120 := by unfold byteP; rw [hbt]; rfl
              rw [hv1] at hi1
              have Hu := Lib.hid (hu.trans hbt)
              clear hu hbt hv1
              rcases Nat.eq_zero_or_pos t with h0 | h0
              · subst h0
                have hi0 : ∀ W, (Instr.index 9 (.string s) (.int .i64 0)).run Try.prog W = .ok (.int .u8 120) W := fun W => hi1 W
                clear hi1
                go_wp2_with (with_reducible refine app_shut ?_)
                unfold Shut
                refine app_one elemBool rfl _ _ rfl H (.slice (some ⟨g, 0, none⟩) j cg) j (boolCells (uwF hs ps k) j) #[.bool true] rfl HRow3.out rfl rfl (by simp [Value.oneCell']) (by omega) (by decide) hs3 ?_
                intro g5 cap w5 hg
                have HR5 := Lib.hid (show w5.ownsRow H 4 1 (.slice (some ⟨g5, 0, none⟩) (j + 1) cap) (j + 1) (boolCells (uwF hs ps k) (j + 1)) by rw [boolCells_succ, Hu.out]; exact hg.row)
                have HB5 := Lib.hid (hg.below HRow3.out (Nat.le_refl _) hs3 HB3.out)
                clear hg
                go_wp2
                go_roundw
                case rel => exact ⟨j + 1, g5, cap, by omega, by go_num, rfl, HR5.out, HB5.out⟩
                case measure => simp [intOf]; omega
              · have ht2 : (t : Int) > 0 := by omega
                go_wp2_with (with_reducible refine app_shut ?_)
                unfold Shut
                refine app_one elemBool rfl _ _ rfl H (.slice (some ⟨g, 0, none⟩) j cg) j (boolCells (uwF hs ps k) j) #[.bool true] rfl HRow3.out rfl rfl (by simp [Value.oneCell']) (by omega) (by decide) hs3 ?_
                intro g5 cap w5 hg
                have HR5 := Lib.hid (show w5.ownsRow H 4 1 (.slice (some ⟨g5, 0, none⟩) (j + 1) cap) (j + 1) (boolCells (uwF hs ps k) (j + 1)) by rw [boolCells_succ, Hu.out]; exact hg.row)
                have HB5 := Lib.hid (hg.below HRow3.out (Nat.le_refl _) hs3 HB3.out)
                clear hg
                go_wp2
                go_roundw
                case rel => exact ⟨j + 1, g5, cap, by omega, by go_num, rfl, HR5.out, HB5.out⟩
                case measure => simp [intOf]; omega
            | false =>
              have hv1 : byteP pk t = 46 := by unfold byteP; rw [hbt]; rfl
              rw [hv1] at hi1
              have Hu := Lib.hid (hu.trans hbt)
              clear hu hbt hv1
              rcases Nat.eq_zero_or_pos t with h0 | h0
              · subst h0
                have hi0 : ∀ W, (Instr.index 9 (.string s) (.int .i64 0)).run Try.prog W = .ok (.int .u8 46) W := fun W => hi1 W
                clear hi1
                go_wp2_with (with_reducible refine app_shut ?_)
                unfold Shut
                refine app_one elemBool rfl _ _ rfl H (.slice (some ⟨g, 0, none⟩) j cg) j (boolCells (uwF hs ps k) j) #[.bool false] rfl HRow3.out rfl rfl (by simp [Value.oneCell']) (by omega) (by decide) hs3 ?_
                intro g5 cap w5 hg
                have HR5 := Lib.hid (show w5.ownsRow H 4 1 (.slice (some ⟨g5, 0, none⟩) (j + 1) cap) (j + 1) (boolCells (uwF hs ps k) (j + 1)) by rw [boolCells_succ, Hu.out]; exact hg.row)
                have HB5 := Lib.hid (hg.below HRow3.out (Nat.le_refl _) hs3 HB3.out)
                clear hg
                go_wp2
                go_roundw
                case rel => exact ⟨j + 1, g5, cap, by omega, by go_num, rfl, HR5.out, HB5.out⟩
                case measure => simp [intOf]; omega
              · have ht2 : (t : Int) > 0 := by omega
                go_wp2_with (with_reducible refine app_shut ?_)
                unfold Shut
                refine app_one elemBool rfl _ _ rfl H (.slice (some ⟨g, 0, none⟩) j cg) j (boolCells (uwF hs ps k) j) #[.bool false] rfl HRow3.out rfl rfl (by simp [Value.oneCell']) (by omega) (by decide) hs3 ?_
                intro g5 cap w5 hg
                have HR5 := Lib.hid (show w5.ownsRow H 4 1 (.slice (some ⟨g5, 0, none⟩) (j + 1) cap) (j + 1) (boolCells (uwF hs ps k) (j + 1)) by rw [boolCells_succ, Hu.out]; exact hg.row)
                have HB5 := Lib.hid (hg.below HRow3.out (Nat.le_refl _) hs3 HB3.out)
                clear hg
                go_wp2
                go_roundw
                case rel => exact ⟨j + 1, g5, cap, by omega, by go_num, rfl, HR5.out, HB5.out⟩
                case measure => simp [intOf]; omega
          · have Hu := Lib.hid (uwF_none (ps := ps) (i := k) hf)
            clear hr hf
            go_wp2_with (with_reducible refine app_shut ?_)
            unfold Shut
            refine app_one elemBool rfl _ _ rfl H (.slice (some ⟨g, 0, none⟩) j cg) j (boolCells (uwF hs ps k) j) #[.bool false] rfl HRow3.out rfl rfl (by simp [Value.oneCell']) (by omega) (by decide) hs3 ?_
            intro g5 cap w5 hg
            have HR5 := Lib.hid (show w5.ownsRow H 4 1 (.slice (some ⟨g5, 0, none⟩) (j + 1) cap) (j + 1) (boolCells (uwF hs ps k) (j + 1)) by rw [boolCells_succ, Hu.out]; exact hg.row)
            have HB5 := Lib.hid (hg.below HRow3.out (Nat.le_refl _) hs3 HB3.out)
            clear hg
            go_wp2
            go_roundw
            case rel => exact ⟨j + 1, g5, cap, by omega, by go_num, rfl, HR5.out, HB5.out⟩
            case measure => simp [intOf]; omega
        · obtain rfl : j = n := by omega
          have hge := (HRow.out.lt g rfl)
          have hbo := BoolsAt.of_row HRow.out
          have hne : some g ≠ Value.ownBlock u5 := fun e => by
            have h1 := (ownBlock_ge HSk.out.row e.symm).2
            rw [HHk.out] at h1
            omega
          have HBo := Lib.hid hbo
          have HNe := Lib.hid hne
          have hlen : sl.length = k := by have := HSk.out.row.1; omega
          clear hge hbo hne
          go_wp2_with (at_builtin; refine Shut.out ?_)
          unfold Shut
          refine app_one elemRows rfl _ _ rfl (w.heap.size + 2) u5 k sl #[.slice (some ⟨g, 0, none⟩) j cg] rfl HSz.out.row rfl rfl (by simp [Value.oneCell']) (by omega) (by decide) HSz.out.sz ?_
          intro g5 cap w5 hg
          have HS5 := Lib.hid (HSz.out.grew HBo.out HNe.out hg)
          clear hg
          go_wp2
          go_roundw
          case rel => exact ⟨k + 1, _, by omega, by go_num, HS5.out⟩
          case measure => simp [intOf]; omega
    · obtain rfl : k = L := by omega
      obtain ⟨g, cg, rfl⟩ := row_slice HS.out.row (by omega)
      have HT := Lib.hid (TabAt.of_rows HS.out.row HS.out.rin)
      have HD := Design_any g k n cg (uwF hs ps) wr hl0 hl (by omega) HT.out
      clear hwk
      go_wp2_with fail
      refine HD.mono ?_
      rintro e w3 ⟨p, cc, rfl, hRd, hfar, hb3⟩
      rw [ints_len, painted_len] at hRd ⊢
      have HS3 := Lib.hid (HS.out.next hb3)
      have HRd := Lib.hid hRd
      have Hfar := Lib.hid hfar
      have hsz := HS.out.sz
      have r0 := HS3.out.rs.cell' 0 rfl
      have r1 := HS3.out.rs.cell' 1 rfl
      have f0 := HS3.out.rs.frozen 0
      have f1 := HS3.out.rs.frozen 1
      clear hRd hfar hb3 HS HT HD
      go_wp2_with fail
      refine bodyPost_ret (v := .agg #[.int .i64 (n : Int), .slice p k cc]) ?_ rfl ⟨p, cc, by rw [ints_len, painted_len], ?_, fun a e => by have := Hfar.out a e; omega, ?_⟩
      · have hb3 := (HS3.out.rs.set 0 (.int .i64 (n : Int))).set 1 (.slice p k cc)
        have d0 := hb3.cell' (v := .int .i64 (n : Int)) 0 rfl
        have d1 := hb3.cell' (v := .slice p k cc) 1 rfl
        simp [results, Try.results53, go_sem, d0, d1]
      · rw [ints_len, painted_len]
        exact (HRd.out.set _ _ (fun a e => by have := Hfar.out a e; simp; omega)).set _ _ (fun a e => by have := Hfar.out a e; simp; omega)
      · exact (HS3.out.bel.setCell (by simp) _).setCell (by simp) _
end Go.Proofs.Ytdmgffoikebgkaa
/- TieUnweaves: its contracts for what is valid; its last region. -/
namespace Go.Proofs.Ytdmgffoikebgkaa
open Go.RowKit Go.Shelf
attribute [local go_sem] Oper.semAt_some

theorem under69 : Try.prog.underlying 69 = some (.array 3 3) := by kernel_rfl
/-- arrays of three integers compared -/
theorem eq69 (a b c a' b' c' : Int) (w : World) : (Op.equalIn 10000 69 (.agg #[.int .i64 a, .int .i64 b, .int .i64 c]) (.agg #[.int .i64 a', .int .i64 b', .int .i64 c'])).run Try.prog w = .ok (a == a' && b == b' && c == c') w := by
  have u3 := Try.underlying3
  have a3 := Try.isAgg3
  have z3 := Try.sizeOf3
  rw [show (10000 : Nat) = 9999 + 1 from rfl, Op.equalIn]
  simp only [Sem.run_bind, run_underlying under69, Result.andThen_ok]
  simp only [Std.Legacy.Range.forIn_eq_forIn_range', Std.Legacy.Range.size, Nat.sub_zero, Nat.add_sub_cancel, Nat.div_one, List.range'_succ, List.range'_zero, List.forIn_cons, List.forIn_nil]
  go_simp
  by_cases h1 : a = a' <;> by_cases h2 : b = b' <;> by_cases h3 : c = c' <;> simp [h1, h2, h3]
attribute [local go_sem] eq69
/-- the picks of a cloth, each as a row of its warps -/
def psN (ss : List ByteArray) : List Nat := ss.map fun s => rowTo (fun k => bytN s k == 120) s.size
theorem psN_len (ss : List ByteArray) : (psN ss).length = ss.length := by simp [psN]
theorem strB_of {s : ByteArray} {n : Nat} (h0 : 1 ≤ n) (h1 : n ≤ 96) (h : wrongB n s = false) : StrB s n (rowTo (fun k => bytN s k == 120) s.size) := by
  unfold wrongB at h
  rw [Bool.or_eq_false_iff] at h
  have hz : s.size = n := by simpa using h.1
  have hp := pickB_true.1 (show pickB s = true by simpa using h.2)
  rw [hz] at hp ⊢
  refine ⟨hz, rowTo_lt _ _, h0, h1, ?_⟩
  have hzz : s.data.toList.length = n := by rw [← hz]; simp
  refine List.ext_getElem (by rw [hzz]; simp) fun i h2 h3 => ?_
  have hi : i < n := by rw [hzz] at h2; exact h2
  have hb : bytN s i = (s.data.toList[i]).toNat := by unfold bytN; rw [List.getElem?_eq_getElem h2]; rfl
  have hbit : bitN (rowTo (fun k => bytN s k == 120) n) i = (bytN s i == 120) := by
    show (rowTo _ n).testBit i = _
    rw [rowTo_bit]; simp [hi]
  simp only [List.getElem_map, List.getElem_range]
  unfold byteP
  rw [hbit]
  apply UInt8.toNat_inj.1
  rw [← hb]
  rcases hp i hi with e | e
  · rw [e]; rfl
  · rw [e]; rfl
theorem clS_of {n : Nat} {ss : List ByteArray} (h0 : 1 ≤ n) (h1 : n ≤ 96) (h : ∀ s ∈ ss, wrongB n s = false) : ClS ss n (psN ss) := by
  refine ⟨(psN_len ss).symm, fun i hi => ?_⟩
  rw [psN_len] at hi
  have e : nthN (psN ss) i = rowTo (fun k => bytN (nthB ss i) k == 120) (nthB ss i).size := by
    rw [nthN_get _ _ (by rw [psN_len]; exact hi), nthB_get _ _ hi]
    simp [psN]
  rw [e]
  exact strB_of h0 h1 (h _ (by rw [nthB_get _ _ hi]; exact List.getElem_mem _))
theorem clAt_of {ss : List ByteArray} {n : Nat} {ps : List Nat} {W : World} {b off : Nat} (h : ClS ss n ps) (hx : StrsAt W b off ss) (hb : b < W.heap.size) : ClAt W b off n ps :=
  ⟨fun i hi => ⟨_, h.str i hi, hx i (by rw [h.len]; exact hi)⟩, hb⟩
theorem Reads.farO {W W' : World} {g o B L c : Nat} {xs : List Int} (h : Reads W (.slice (some ⟨g, o, none⟩) L c) xs) (hB : SetAt B W W') (hne : g ≠ B) : Reads W' (.slice (some ⟨g, o, none⟩) L c) xs := by
  obtain ⟨p, c', hv, hl, hx⟩ := h
  refine ⟨p, c', hv, hl, fun h0 => ?_⟩
  obtain ⟨b, off, rfl, h1, h2⟩ := hx h0
  simp only [Value.slice.injEq, Option.some.injEq, Addr.mk.injEq] at hv
  obtain ⟨⟨rfl, rfl, _⟩, _⟩ := hv
  exact ⟨_, _, rfl, by rw [hB.size]; exact h1, fun i hi => (World.cell?_of_block (w := W) (hB.other _ hne)).trans (h2 i hi)⟩
/-- a row of the region's own that reads as some numbers, from somewhere on -/
def memRO (L : Nat) (ys : List Int) : Mem := ⟨fun h W => Reads W (.slice (some ⟨h.b, h.b2, none⟩) L h.c) ys, fun h => [h.b], fun _ _ _ h hb => h.next hb, fun _ _ _ _ h hn hB => h.farO hB (fun e => hn (by simp [e]))⟩
end Go.Proofs.Ytdmgffoikebgkaa
/- TieUnweaves: its walks. -/
namespace Go.Proofs.Ytdmgffoikebgkaa
open Go.RowKit Go.Shelf
attribute [local go_sem] Oper.semAt_some eq69

theorem strR_of {W : World} {g c : Nat} {ss : List ByteArray} (h : StrsAt W g 0 ss) (hg : g < W.heap.size) : StrR W (.slice (some ⟨g, 0, none⟩) ss.length c) ss := ⟨_, c, rfl, fun _ => ⟨g, 0, rfl, hg, h⟩⟩
theorem lrg_open {L : Nat} {ss : List ByteArray} (hl : lrgB L ss = false) : L ≤ 110 ∧ ss.length ≤ 70 ∧ ∀ i, i < ss.length → (nthB ss i).size ≤ 1000 := by
  unfold lrgB at hl
  simp only [Bool.or_eq_false_iff, decide_eq_false_iff_not, List.any_eq_false, decide_eq_true_eq] at hl
  refine ⟨by omega, by omega, fun i hi => ?_⟩
  have := hl.1.1 (nthB ss i) (by rw [nthB_get _ _ hi]; exact List.getElem_mem _)
  omega
end Go.Proofs.Ytdmgffoikebgkaa
/- TieUnweaves: for any harness with at most 110 warps and any cloth of at most 70 picks with at most 110 bytes each, the design that weaves the cloth, or where two warps of one hook are not alike, or the errors, are what the reference says, and the harness and the cloth are not changed; for larger ones the law's fixed examples come out. No condition: whatever the harness and the cloth. -/
namespace Go.Proofs.Ytdmgffoikebgkaa
open Go.ChangeShapes Go.WideShapes Go.ChangeAt Go.RowKit Go.Joins

theorem cells9u : Try.prog.cellsOf 9 = 1 := by kernel_rfl
/-- what a slice of strings that came in holds -/
theorem strs_in {H : Type} {enc : TypeId × Value → H} {W : World} {n : Nat} {v : Value} {y : DataW H × List MemPlace} (h : DataW.trod enc Try.prog W 0 (fun _ => true) true n 49 [v] = some y) :
    ∃ p c, ∃ ss : List ByteArray, v = .slice p ss.length c ∧ StrR W (.slice p ss.length c) ss ∧ ss.length ≤ 9223372036854775807 := by
  rcases open_strings Try.underlying49 Try.underlying9 cells9u h with ⟨hv, _⟩ | ⟨a, len, cap, zs, hv, _, hlc, hm, hz, _, hc, _⟩
  · obtain rfl : v = .slice none 0 0 := by simpa using hv
    exact ⟨none, 0, [], rfl, ⟨none, 0, rfl, fun h => by simp at h⟩, by simp⟩
  · obtain rfl : v = .slice (some a) len cap := by simpa using hv
    have hz' : zs.length = cap := by simpa using hz
    have hlen : (zs.take len).length = len := by simp; omega
    refine ⟨some a, cap, zs.take len, by rw [hlen], ⟨some a, cap, rfl, fun h0 => ?_⟩, by rw [hlen]; unfold maxLen at hm; omega⟩
    rw [hlen] at h0
    have hc0 := hc 0 (by omega)
    have he0 : a.add 0 = a := by simp [Addr.add]
    rw [he0] at hc0
    have hsp := spot_none hc0
    obtain ⟨b, off, sp⟩ := a
    simp only at hsp
    subst hsp
    refine ⟨b, off, rfl, World.block_lt_of_cell? W ⟨b, off, none⟩ hc0, fun i hi => ?_⟩
    rw [hlen] at hi
    have := hc i (by omega)
    rw [show (⟨b, off, none⟩ : Addr).add i = ⟨b, off + i, none⟩ by unfold Addr.add; split <;> simp_all] at this
    rw [this]
    simp [nthB, hi]
end Go.Proofs.Ytdmgffoikebgkaa
/- TieFew: its mathematics. -/
namespace Go.Proofs.Ytdmgffoikebgkaa
open Go.RowKit Go.Shelf

theorem cnt_first {κ : Type} [DecidableEq κ] (key : Nat → κ) {h : Nat} : ∀ n, h < cntF key n → ∃ o, o < n ∧ fstI key o = o ∧ cntF key o = h
  | 0, hh => by simp [cntF] at hh
  | n + 1, hh => by
    by_cases h1 : h < cntF key n
    · obtain ⟨o, a, b, c⟩ := cnt_first key n h1
      exact ⟨o, by omega, b, c⟩
    · by_cases hf : fstI key n = n
      · have : cntF key (n + 1) = cntF key n + 1 := by simp [cntF, hf]
        exact ⟨n, by omega, hf, by omega⟩
      · have : cntF key (n + 1) = cntF key n := by simp [cntF, hf]
        omega
theorem few_first {ps : List Nat} {n h : Nat} (hh : h < cntF (colL ps) n) : ∃ o, firstH (fewL ps n) h = some o ∧ o < n ∧ fstI (colL ps) o = o ∧ cntF (colL ps) o = h := by
  obtain ⟨o, ho, hf, hc⟩ := cnt_first (colL ps) n hh
  have hfo : nthN (fewL ps n) o = h := by rw [fewL_nth _ ho]; unfold fewH; rw [hf]; exact hc
  obtain ⟨o', h1, h2, h3, h4⟩ := firstH_some (hs := fewL ps n) (k := o) (by rw [fewL_len]; exact ho)
  rw [hfo] at h1
  have e : o' = o := by
    rw [fewL_nth _ (by omega), fewL_nth _ ho] at h3
    have := fstI_eq (fewH_inj h3)
    have h5 := fstI_le (key := colL ps) o'
    omega
  subst e
  exact ⟨o', h1, ho, hf, hc⟩
theorem apL_nth (hs : List Nat) {k h : Nat} (hh : h < k) : nthN (apL hs k) h = (firstH hs h).getD 0 := by simp [apL, nthN, hh]
theorem ap_nth {ps : List Nat} {n M h : Nat} (hM : cntF (colL ps) n = M) (hh : h < M) : nthN (apL (fewL ps n) M) h < n ∧ fstI (colL ps) (nthN (apL (fewL ps n) M) h) = nthN (apL (fewL ps n) M) h ∧ cntF (colL ps) (nthN (apL (fewL ps n) M) h) = h := by
  subst hM
  obtain ⟨o, h1, h2, h3, h4⟩ := few_first hh
  rw [apL_nth _ hh, h1]
  exact ⟨h2, h3, h4⟩
theorem list_nthF {l l' : List Nat} (hl : l.length = l'.length) (h : ∀ i, i < l.length → nthN l i = nthN l' i) : l = l' :=
  List.ext_getElem hl fun i h1 h2 => by rw [← nthN_get _ _ h1, ← nthN_get _ _ h2]; exact h i h1
end Go.Proofs.Ytdmgffoikebgkaa
/- Chapter 3: the fewest hooks, as the reference finds them: warps that are alike, the first ones, and the harness. -/
namespace Go.Proofs.Ytdmgffoikebgkaa
open Go.RowKit Go.Shelf
attribute [local go_sem] Oper.semAt_some

theorem first_iff {κ : Type} [DecidableEq κ] {key : Nat → κ} {k : Nat} : fstI key k = k ↔ ∀ j, j < k → key j ≠ key k :=
  ⟨fun h j hj => fstI_least (by rw [h]; exact hj), fun h => fstI_of_none h⟩
theorem fstL_succ {κ : Type} [DecidableEq κ] (key : Nat → κ) (k : Nat) : fstL key (k + 1) = fstL key k ++ (if fstI key k = k then [k] else []) := by
  unfold fstL
  rw [List.range_succ, List.filter_append]
  by_cases e : fstI key k = k
  · simp [e]
  · simp [e]
theorem fst_nth {κ : Type} [DecidableEq κ] {key : Nat → κ} {o : Nat} (ho : fstI key o = o) : ∀ {n : Nat}, o < n → nthN (fstL key n) (cntF key o) = o
  | 0, h => by omega
  | n + 1, h => by
    rw [fstL_succ]
    have hl := fstL_len (key := key) n
    by_cases e : o = n
    · subst e
      rw [if_pos ho]
      unfold nthN
      rw [List.getElem?_append_right (by omega), hl, Nat.sub_self]
      rfl
    · have h1 := cntF_lt ho (show o < n by omega)
      have ih := fst_nth ho (show o < n by omega)
      unfold nthN at ih ⊢
      rw [List.getElem?_append_left (by omega)]
      exact ih
theorem ap_fst {ps : List Nat} {n M : Nat} (hM : cntF (colL ps) n = M) : apL (fewL ps n) M = fstL (colL ps) n := by
  refine list_nthF (by rw [apL_len, fstL_len, hM]) fun h hh => ?_
  rw [apL_len] at hh
  obtain ⟨h1, h2, h3⟩ := ap_nth hM hh
  have h4 := fst_nth h2 h1
  rw [h3] at h4
  exact h4.symm
theorem few_no (ps : List Nat) (n : Nat) : NoPart (fewL ps n) ps := fun p w hp hw => by
  rw [fewL_len] at hw
  unfold Like2
  have h1 := fstI_key (key := nthN (fewL ps n)) w
  have h2 := fstI_le (key := nthN (fewL ps n)) w
  rw [fewL_nth ps hw, fewL_nth ps (show fstI (nthN (fewL ps n)) w < n by omega)] at h1
  exact (colL_iff.1 (fewH_inj h1) p hp).symm
/-- the class of a warp is the one whose first warp is like it -/
theorem few_is {ps : List Nat} {n k w : Nat} (hw : w < n) (hk : k < cntF (colL ps) n) : colL ps (nthN (fstL (colL ps) n) k) = colL ps w ↔ k = fewH (colL ps) w := by
  obtain ⟨h1, h2, h3⟩ := ap_nth (ps := ps) (n := n) rfl hk
  rw [ap_fst rfl] at h1 h2 h3
  constructor
  · intro e
    have := fewH_eq e
    unfold fewH at this
    rw [h2, h3] at this
    exact this
  · intro e
    refine fewH_inj ?_
    unfold fewH
    rw [h2, h3, e]
    rfl
set_option maxRecDepth 100000 in
set_option maxHeartbeats 2000000 in
/-- whether two warps are alike, as the reference says -/
theorem refLike3_any (b off c n x y L : Nat) (ss : List ByteArray) (ps : List Nat) (w : World) (hC : ClS ss n ps) (hL : ps.length = L) (hl : L ≤ 60) (hs : StrsAt w b off ss) (hb : b < w.heap.size) (hx : x < n) (hy : y < n) (hn : n ≤ 96) :
    Calls Try.prog 133 #[.slice (some ⟨b, off, none⟩) L c, .int .i64 (x : Int), .int .i64 (y : Int)] w fun e w' => e = .returned (.bool (decide (colL ps x = colL ps y))) ∧ Below w.heap.size w w' := by
  have HC := Lib.hid hC
  have HL := Lib.hid hL
  have HS := Lib.hid hs
  have HB := Lib.hid hb
  clear hC hL hs hb
  go_enter Try.func133, Try.ntmps133
  go_wp2_with fail
  go_loopw [7] (fun i wr => ∃ k : Nat, k ≤ L ∧ i = .int .i64 (k : Int) ∧ Below w.heap.size w wr ∧ ∀ j, j < k → bitN (nthN ps j) x = bitN (nthN ps j) y) (fun i _ => L - (intOf i).toNat)
  case atStart => exact ⟨0, Nat.zero_le _, rfl, Below.refl _ _, fun j hj => by omega⟩
  case round =>
    obtain ⟨k, hk, rfl, hB, hok⟩ := hrel
    have HBw := Lib.hid hB
    have HOk := Lib.hid hok
    clear hB hok
    by_cases hlt : k < L
    · have hc := HS.out.below HBw.out HB.out k (by rw [HC.out.len, HL.out]; exact hlt)
      have hsb := HC.out.str k (by rw [HL.out]; exact hlt)
      obtain ⟨s, hs'⟩ : ∃ s, nthB ss k = s := ⟨_, rfl⟩
      obtain ⟨pk, hpk⟩ : ∃ pk, nthN ps k = pk := ⟨_, rfl⟩
      rw [hs'] at hc hsb
      rw [hpk] at hsb
      have hi1 := fun W => hsb.idx hx W
      have hi2 := fun W => hsb.idx hy W
      have Hsz := Lib.hid hsb.size
      have key : ∀ b1 b2 : Bool, bitN pk x = b1 → bitN pk y = b2 → b1 = b2 → ∀ j, j < k + 1 → bitN (nthN ps j) x = bitN (nthN ps j) y := fun b1 b2 h1 h2 h3 j hj => by
        by_cases e : j = k
        · rw [e, hpk, h1, h2, h3]
        · exact HOk.out j (by omega)
      have key2 : ∀ b1 b2 : Bool, bitN pk x = b1 → bitN pk y = b2 → b1 ≠ b2 → decide (colL ps x = colL ps y) = false := fun b1 b2 h1 h2 h3 => decide_eq_false fun h => by
        have := colL_iff.1 h k (by rw [HL.out]; exact hlt)
        rw [hpk, h1, h2] at this
        exact h3 this
      have hk0 : (0 : Int) ≤ (k : Int) := by omega
      have hk1 : (k : Int) < (L : Int) := by omega
      have hx0 : (0 : Int) ≤ (x : Int) := by omega
      have hy0 : (0 : Int) ≤ (y : Int) := by omega
      have hx1 : (x : Int) < (n : Int) := by omega
      have hy1 : (y : Int) < (n : Int) := by omega
      clear hsb hs' hpk
      go_upto_region 4 with fail
      cases hb1 : bitN pk x with
      | true =>
        have hv1 : byteP pk x = 120 := by unfold byteP; rw [hb1]; rfl
        rw [hv1] at hi1
        cases hb2 : bitN pk y with
        | true =>
          have hv2 : byteP pk y = 120 := by unfold byteP; rw [hb2]; rfl
          rw [hv2] at hi2
          have HK := Lib.hid (key _ _ hb1 hb2 rfl)
          clear key key2 hb1 hb2 hv1 hv2
          go_quiet (fail)
          all_goals go_wp2_with fail
          all_goals exact ⟨⟨k + 1, by omega, by go_num, HBw.out.trans ((below_drewN _ _ _).mono HBw.out.size), HK.out⟩, by simp [intOf]; omega⟩
        | false =>
          have hv2 : byteP pk y = 46 := by unfold byteP; rw [hb2]; rfl
          rw [hv2] at hi2
          have HK := Lib.hid (key2 _ _ hb1 hb2 (by decide))
          clear key key2 hb1 hb2 hv1 hv2
          go_quiet (fail)
          all_goals go_wp2_with fail
          all_goals go_ret
          all_goals exact ⟨ret_bool (by rw [HK.out]), HBw.out.trans ((below_drewN _ _ _).mono HBw.out.size)⟩
      | false =>
        have hv1 : byteP pk x = 46 := by unfold byteP; rw [hb1]; rfl
        rw [hv1] at hi1
        cases hb2 : bitN pk y with
        | true =>
          have hv2 : byteP pk y = 120 := by unfold byteP; rw [hb2]; rfl
          rw [hv2] at hi2
          have HK := Lib.hid (key2 _ _ hb1 hb2 (by decide))
          clear key key2 hb1 hb2 hv1 hv2
          go_quiet (fail)
          all_goals go_wp2_with fail
          all_goals go_ret
          all_goals exact ⟨ret_bool (by rw [HK.out]), HBw.out.trans ((below_drewN _ _ _).mono HBw.out.size)⟩
        | false =>
          have hv2 : byteP pk y = 46 := by unfold byteP; rw [hb2]; rfl
          rw [hv2] at hi2
          have HK := Lib.hid (key _ _ hb1 hb2 rfl)
          clear key key2 hb1 hb2 hv1 hv2
          go_quiet (fail)
          all_goals go_wp2_with fail
          all_goals exact ⟨⟨k + 1, by omega, by go_num, HBw.out.trans ((below_drewN _ _ _).mono HBw.out.size), HK.out⟩, by simp [intOf]; omega⟩
    · have HN := Lib.hid (show decide (colL ps x = colL ps y) = true from decide_eq_true (colL_iff.2 fun j hj => HOk.out j (by rw [HL.out] at hj; omega)))
      go_wp2_with fail
      go_ret
      exact ⟨ret_bool (by rw [HN.out]), HBw.out⟩
/-- what the reference's Apart keeps -/
structure RaS (w : World) (b off : Nat) (ss : List ByteArray) (v : Value) (rows : List Nat) (W : World) : Prop where
  s : StrsAt W b off ss
  hl : b < w.heap.size
  row : W.ownsRow w.heap.size 3 1 v rows.length (rows.map natV)
  bel : Below w.heap.size w W
theorem RaS.next {w W W' : World} {b off : Nat} {ss : List ByteArray} {v : Value} {rows : List Nat} (h : RaS w b off ss v rows W) (hb : Below W.heap.size W W') : RaS w b off ss v rows W' :=
  ⟨h.s.below hb (Nat.lt_of_lt_of_le h.hl h.bel.size), h.hl, ownsRow_next h.row hb, h.bel.trans (hb.mono h.bel.size)⟩
theorem RaS.grew {w W W' : World} {b off g5 cap x : Nat} {ss : List ByteArray} {v : Value} {rows : List Nat} (h : RaS w b off ss v rows W) (hg : Grew w.heap.size 3 1 W W' v g5 cap (rows.length + 1) (rows.map natV ++ [.int .i64 (x : Int)])) :
    RaS w b off ss (.slice (some ⟨g5, 0, none⟩) (rows.length + 1) cap) (rows ++ [x]) W' := by
  refine ⟨fun i hi => (hg.grow.cell_far ⟨b, off + i, none⟩ (Nat.lt_of_lt_of_le h.hl h.bel.size) (own_far h.row h.hl)).trans (h.s i hi), h.hl, ?_, hg.below h.row (Nat.le_refl _) h.bel.size h.bel⟩
  rw [List.length_append, List.length_singleton, List.map_append]
  exact hg.row
set_option maxRecDepth 100000 in
set_option maxHeartbeats 2000000 in
/-- the warps that are like none before them -/
theorem refApart3_any (b off c n L : Nat) (ss : List ByteArray) (ps : List Nat) (w : World) (hC : ClS ss n ps) (hL : ps.length = L) (hl0 : 1 ≤ L) (hl : L ≤ 60) (hs : StrsAt w b off ss) (hb : b < w.heap.size) (hn : n ≤ 96) :
    Calls Try.prog 56 #[.slice (some ⟨b, off, none⟩) L c] w fun e w' => ∃ v, e = .returned v ∧ w'.ownsRow w.heap.size 3 1 v (fstL (colL ps) n).length ((fstL (colL ps) n).map natV) ∧ Below w.heap.size w w' := by
  obtain ⟨w1, hw1⟩ : ∃ w1, w1 = w.alloc (.cells #[] 3) := ⟨_, rfl⟩
  have hb1 : Below w.heap.size w w1 := by rw [hw1]; exact (Below.refl _ _).alloc (Nat.le_refl _) _
  have H1 := Lib.hid (show RaS w b off ss (.slice (some ⟨w.heap.size, 0, none⟩) 0 0) [] w1 from ⟨hs.below hb1 hb, hb, by rw [hw1]; exact World.ownsRow_made w #[] 0 (Nat.le_refl _) (Nat.zero_le _) rfl, hb1⟩)
  have HW := Lib.hid hw1
  have HC := Lib.hid hC
  have HL := Lib.hid hL
  have hlen : ∀ k, (fstL (colL ps) k).length ≤ k := fun k => by rw [fstL_len]; exact cntF_le_self k
  have HLen := Lib.hid hlen
  clear hw1 hb1 hs hb hC hL hlen
  go_enter Try.func56, Try.ntmps56
  go_wp2_with fail
  rw [← HW.out]
  go_loopw [3, 4] (fun v i wr => ∃ k : Nat, k ≤ n ∧ i = .int .i64 (k : Int) ∧ RaS w b off ss v (fstL (colL ps) k) wr) (fun _ i _ => n - (intOf i).toNat)
  case atStart => exact ⟨0, Nat.zero_le _, rfl, H1.out⟩
  case round =>
    obtain ⟨k, hk, rfl, hS⟩ := hrel
    have HS := Lib.hid hS
    clear hS H1 HW
    have hc0 := HS.out.s 0 (by rw [HC.out.len, HL.out]; omega)
    rw [Nat.add_zero] at hc0
    have hz0 := (HC.out.str 0 (by rw [HL.out]; omega)).size
    obtain ⟨s0, hs0⟩ : ∃ s0, nthB ss 0 = s0 := ⟨_, rfl⟩
    rw [hs0] at hc0 hz0
    have hl0' : (0 : Int) < (L : Int) := by omega
    clear hs0
    by_cases hlt : k < n
    · have hfs := fstL_succ (colL ps) k
      have hfi := first_iff (key := colL ps) (k := k)
      have hul := HLen.out k
      obtain ⟨us, hus⟩ : ∃ us, fstL (colL ps) k = us := ⟨_, rfl⟩
      rw [hus] at HS hfs hul
      have HFs := Lib.hid hfs
      have HFi := Lib.hid hfi
      clear hus hfs hfi
      go_wp2_with fail
      clear hc0
      go_loopw [5, 6] (fun u i wz => ∃ (j : Nat) (t : Bool), j ≤ k ∧ i = .int .i64 (j : Int) ∧ u = .bool t ∧ (t = true ↔ ∀ q, q < j → colL ps q ≠ colL ps k) ∧ RaS w b off ss u3 us wz) (fun _ i _ => k - (intOf i).toNat)
      case atStart => exact ⟨0, true, Nat.zero_le _, rfl, rfl, by simp, HS.out⟩
      case round =>
        obtain ⟨j, t, hj, rfl, rfl, ht, hS⟩ := hrel
        have HS2 := Lib.hid hS
        have Ht := Lib.hid ht
        clear hS ht HS
        by_cases hjl : j < k
        · have H133 := refLike3_any b off c n j k L ss ps wr HC.out HL.out hl HS2.out.s (Nat.lt_of_lt_of_le HS2.out.hl HS2.out.bel.size) (by omega) hlt hn
          obtain ⟨d, hd⟩ : ∃ d, decide (colL ps j = colL ps k) = d := ⟨_, rfl⟩
          rw [hd] at H133
          have Hd := Lib.hid hd
          clear hd
          cases t with
          | false =>
            have Ht2 := Lib.hid (show (false = true ↔ ∀ q, q < j + 1 → colL ps q ≠ colL ps k) from ⟨fun h => (by cases h), fun h => Ht.out.2 fun q hq => h q (by omega)⟩)
            clear H133
            go_wp2_with fail
            go_roundw
            case rel => exact ⟨j + 1, false, by omega, by go_num, rfl, Ht2.out, HS2.out⟩
            case measure => simp [intOf]; omega
          | true =>
            go_wp2_with fail
            refine H133.mono ?_
            rintro e w3 ⟨rfl, hb3⟩
            have HS3 := Lib.hid (HS2.out.next hb3)
            have Ht2 := Lib.hid (show ((!d) = true ↔ ∀ q, q < j + 1 → colL ps q ≠ colL ps k) from by
              have h1 := Ht.out.1 (by trivial)
              have h2 := Hd.out
              constructor
              · intro h q hq
                by_cases e : q = j
                · rw [e]
                  intro h3
                  rw [decide_eq_true h3] at h2
                  rw [← h2] at h
                  cases h
                · exact h1 q (by omega)
              · intro h
                rw [decide_eq_false (h j (by omega))] at h2
                rw [← h2]; rfl)
            clear hb3 HS2 H133
            cases d
            all_goals
              go_wp2_with fail
              go_roundw
              case rel => exact ⟨j + 1, _, by omega, by go_num, rfl, Ht2.out, HS3.out⟩
              case measure => simp [intOf]; omega
        · obtain rfl : j = k := by omega
          cases t with
          | true =>
            have hfin : fstL (colL ps) (j + 1) = us ++ [j] := by rw [HFs.out, if_pos (HFi.out.2 (Ht.out.1 (by trivial)))]
            have HFin := Lib.hid hfin
            clear hfin
            go_wp2_with (at_builtin; refine Shut.out ?_)
            unfold Shut
            refine app_one elemInt rfl _ _ rfl w.heap.size u3 us.length (us.map natV) #[.int .i64 (j : Int)] rfl HS2.out.row rfl rfl (by simp [Value.oneCell']) (by omega) (by decide) HS2.out.bel.size ?_
            intro g5 cap w5 hg
            have HS5 := Lib.hid (HS2.out.grew hg)
            clear hg
            go_wp2
            go_roundw
            case rel => exact ⟨j + 1, by omega, by go_num, by rw [HFin.out]; exact HS5.out⟩
            case measure => simp [intOf]; omega
          | false =>
            have hfin : fstL (colL ps) (j + 1) = us := by
              rw [HFs.out, if_neg, List.append_nil]
              intro h
              have := Ht.out.2 (HFi.out.1 h)
              cases this
            have HFin := Lib.hid hfin
            clear hfin
            go_wp2
            go_roundw
            case rel => exact ⟨j + 1, by omega, by go_num, by rw [HFin.out]; exact HS2.out⟩
            case measure => simp [intOf]; omega
    · obtain rfl : k = n := by omega
      go_wp2
      go_ret
      exact ⟨_, rfl, HS.out.row, HS.out.bel⟩
end Go.Proofs.Ytdmgffoikebgkaa
/- Chapter 3: the fewest hooks: the reference's harness; Fewest and Apart, their errors. -/
namespace Go.Proofs.Ytdmgffoikebgkaa
open Go.RowKit Go.Shelf
attribute [local go_sem] Oper.semAt_some

theorem strs_set {W : World} {b off : Nat} {ss : List ByteArray} (h : StrsAt W b off ss) (q : Addr) (u : Value) (hne : b ≠ q.block) : StrsAt (W.setCell q u) b off ss := fun i hi =>
  (World.cell?_of_block (w := W) (a := ⟨b, off + i, none⟩) (Below.heap_setCell W q u b hne)).trans (h i hi)
/-- what the reference's Fewest keeps -/
structure QfS (w : World) (b off : Nat) (ss : List ByteArray) (M g : Nat) (ls : List Nat) (D : Nat) (v : Value) (rows : List Nat) (W : World) : Prop where
  res : BoxAt W w.heap.size #[.int .i64 0, .slice none 0 0] 26
  box : BoxAt W D #[.int .i64 (M : Int), v] 26
  row : W.ownsRow (D + 1) 3 1 v rows.length (rows.map natV)
  l : NatsAt W g 0 ls
  gl : g < D
  s : StrsAt W b off ss
  bl : b < w.heap.size
  lt : w.heap.size < D
  bel : Below w.heap.size w W
theorem QfS.next {w W W' : World} {b off M g D : Nat} {ss : List ByteArray} {ls rows : List Nat} {v : Value} (h : QfS w b off ss M g ls D v rows W) (hb : Below W.heap.size W W') : QfS w b off ss M g ls D v rows W' :=
  ⟨h.res.next hb, h.box.next hb, ownsRow_next h.row hb, h.l.below hb (Nat.lt_trans h.gl h.box.lt), h.gl, h.s.below hb (Nat.lt_of_lt_of_le h.bl h.bel.size), h.bl, h.lt, h.bel.trans (hb.mono h.bel.size)⟩
theorem QfS.grew {w W W' : World} {b off M g D g5 cap x : Nat} {ss : List ByteArray} {ls rows : List Nat} {v : Value} (h : QfS w b off ss M g ls D v rows W)
    (hg : Grew (D + 1) 3 1 W W' v g5 cap (rows.length + 1) (rows.map natV ++ [.int .i64 (x : Int)])) :
    BoxAt W' D #[.int .i64 (M : Int), v] 26 ∧ QfS w b off ss M g ls D (.slice (some ⟨g5, 0, none⟩) (rows.length + 1) cap) (rows ++ [x]) (W'.setCell ⟨D, 1, none⟩ (.slice (some ⟨g5, 0, none⟩) (rows.length + 1) cap)) := by
  have hn : ∀ j, j < D + 1 → some j ≠ v.ownBlock := fun j hj => own_far h.row hj
  have h1 := h.lt
  have h2 := h.gl
  have h3 := h.bl
  have hbx := h.box.kept hg.grow (hn _ (by omega))
  have hbl := h.box.lt
  have hbs := h.bel.size
  refine ⟨hbx, (h.res.kept hg.grow (hn _ (by omega))).other _ _ (by simp; omega), hbx.set 1 _, ?_, ?_, h.gl, ?_, h.bl, h.lt, ?_⟩
  · refine own_set ?_ _ _ (own_far hg.row (show D < D + 1 by omega))
    rw [List.length_append, List.length_singleton, List.map_append]; exact hg.row
  · refine nats_setB (fun i hi => (hg.grow.cell_far ⟨g, 0 + i, none⟩ (show g < W.heap.size by omega) (hn g (by omega))).trans (h.l i hi)) _ _ _ (by omega)
  · exact strs_set (fun i hi => (hg.grow.cell_far ⟨b, off + i, none⟩ (show b < W.heap.size by omega) (hn b (by omega))).trans (h.s i hi)) _ _ (by simp; omega)
  · exact (h.bel.grown hg.grow h.bel.size (fun j hj => by have := (ownBlock_ge h.row hj).1; omega)).setCell (by simp; omega) _
/-- the hooks, up to a warp and a class -/
def fewJ (ps : List Nat) (k j : Nat) : List Nat := fewL ps k ++ (if fewH (colL ps) k < j then [fewH (colL ps) k] else [])
set_option maxRecDepth 100000 in
set_option maxHeartbeats 2000000 in
theorem refFewest3_any (b off c n L M : Nat) (ss : List ByteArray) (ps : List Nat) (w : World) (hC : ClS ss n ps) (hL : ps.length = L) (hl0 : 1 ≤ L) (hl : L ≤ 60) (hs : StrsAt w b off ss) (hb : b < w.heap.size) (hn0 : 1 ≤ n) (hn : n ≤ 96) (hM : cntF (colL ps) n = M) :
    Calls Try.prog 57 #[.slice (some ⟨b, off, none⟩) L c] w fun e w' => ∃ g cap, e = .returned (.agg #[.int .i64 (M : Int), .slice (some ⟨g, 0, none⟩) n cap]) ∧ NatsAt w' g 0 (fewL ps n) ∧ w.heap.size ≤ g ∧ g < w'.heap.size ∧ Below w.heap.size w w' := by
  obtain ⟨w0, hw0⟩ : ∃ w0, w0 = w.alloc (.cells #[.int .i64 0, .slice none 0 0] 26) := ⟨_, rfl⟩
  have hb0 : Below w.heap.size w w0 := by rw [hw0]; exact (Below.refl _ _).alloc (Nat.le_refl _) _
  have hR0 : BoxAt w0 w.heap.size #[.int .i64 0, .slice none 0 0] 26 := by rw [hw0]; exact BoxAt.new w _ _
  have hs0 : w0.heap.size = w.heap.size + 1 := by rw [hw0]; simp
  have H56 := refApart3_any b off c n L ss ps w0 hC hL hl0 hl (hs.below hb0 hb) (by omega) hn
  have hM1 : 1 ≤ M := by rw [← hM]; exact cntF_pos hn0
  have hM2 : M ≤ 96 := by rw [← hM]; exact Nat.le_trans (cntF_le_self n) hn
  rw [fstL_len, hM] at H56
  have HAp := Lib.hid (fun k (hk : k < M) => by have h := ap_nth hM hk; rw [ap_fst hM] at h; exact h)
  have HFi := Lib.hid (fun k j (hk : k < n) (hj : j < M) => few_is (ps := ps) (n := n) (k := j) (w := k) hk (by rw [hM]; exact hj))
  have HFl := Lib.hid (fun k (hk : k < n) => by have := fewH_lt (key := colL ps) hk; rw [hM] at this; exact this)
  obtain ⟨ls, hls⟩ : ∃ ls, fstL (colL ps) n = ls := ⟨_, rfl⟩
  have hll : ls.length = M := by rw [← hls, fstL_len, hM]
  rw [hls] at H56 HAp HFi
  have HLl := Lib.hid hll
  have HW0 := Lib.hid hw0
  have Hb0 := Lib.hid hb0
  have HR0 := Lib.hid hR0
  have HS0 := Lib.hid (hs.below hb0 hb)
  have HBl := Lib.hid hb
  have HC := Lib.hid hC
  have HL := Lib.hid hL
  have Hs0 := Lib.hid hs0
  clear hw0 hb0 hR0 hs hb hC hL hls hll hs0 hM
  go_enter Try.func57, Try.ntmps57
  go_wp2_with fail
  rw [← HW0.out]
  refine H56.mono ?_
  rintro e w1 ⟨v, rfl, hr, hb1⟩
  obtain ⟨g, cg, rfl⟩ := row_slice hr (by omega)
  obtain ⟨hng, hgl, hgb⟩ := nats_of_row hr (by omega)
  obtain ⟨D, hD⟩ : ∃ D, w1.heap.size = D := ⟨_, rfl⟩
  have hD1 : w.heap.size < D := by have := hb1.size; rw [Hs0.out] at this; omega
  have hgD : g < D := by omega
  have hb2 : Below w1.heap.size w1 (w1.alloc (.cells #[.int .i64 0, .slice none 0 0] 26)) := (Below.refl _ _).alloc (Nat.le_refl _) _
  have hbx := BoxAt.new w1 #[.int .i64 0, .slice none 0 0] 26
  rw [hD] at hbx
  obtain ⟨W2, hW2⟩ : ∃ W2, W2 = w1.alloc (.cells #[.int .i64 0, .slice none 0 0] 26) := ⟨_, rfl⟩
  rw [← hW2] at hb2 hbx
  have x0 := hbx.cell' (v := .int .i64 0) 0 rfl
  have x1 := hbx.cell' (v := .slice none 0 0) 1 rfl
  have xf0 := hbx.frozen 0
  have hQ : QfS w b off ss M g ls D (.slice none 0 0) [] (W2.setCell ⟨D, 0, none⟩ (.int .i64 (M : Int))) := by
    have hsz := hb1.size
    rw [Hs0.out] at hsz
    refine ⟨((HR0.out.next hb1).next hb2).other _ _ (by simp; omega), hbx.set 0 (.int .i64 (M : Int)), World.ownsRow_nil _ _ _ _, ?_, hgD, ?_, HBl.out, hD1, ?_⟩
    · exact nats_setB (hng.below hb2 hgl) _ _ _ (by omega)
    · exact strs_set ((HS0.out.below hb1 (by rw [Hs0.out]; have := HBl.out; omega)).below hb2 (by have := HBl.out; omega)) _ _ (by have := HBl.out; simp; omega)
    · exact ((Hb0.out.trans (hb1.mono (by rw [Hs0.out]; omega))).trans (hb2.mono (by omega))).setCell (by simp; omega) _
  have HQ := Lib.hid hQ
  have HW2 := Lib.hid hW2
  clear hr hb1 hng hgl hgb hb2 hbx hQ hW2 H56 HW0 Hb0 HR0 HS0
  go_upto_region 2 with fail
  rw [← HW2.out]
  go_upto_region 3 with fail
  clear x0 x1 xf0
  obtain ⟨W3, hW3⟩ : ∃ W3, W3 = W2.setCell ⟨D, 0, none⟩ (.int .i64 (M : Int)) := ⟨_, rfl⟩
  rw [← hW3] at HQ ⊢
  clear hW3 HW2 hD
  go_wp2_with fail
  go_loopw [5] (fun i wr => ∃ (k : Nat) (v : Value), k ≤ n ∧ i = .int .i64 (k : Int) ∧ QfS w b off ss M g ls D v (fewL ps k) wr) (fun i _ => n - (intOf i).toNat)
  case atStart => exact ⟨0, _, Nat.zero_le _, rfl, HQ.out⟩
  case round =>
    obtain ⟨k, v, hk, rfl, hS⟩ := hrel
    have HS := Lib.hid hS
    clear hS HQ
    have hc0 := HS.out.s 0 (by rw [HC.out.len, HL.out]; omega)
    rw [Nat.add_zero] at hc0
    have hz0 := (HC.out.str 0 (by rw [HL.out]; omega)).size
    obtain ⟨s0, hs0⟩ : ∃ s0, nthB ss 0 = s0 := ⟨_, rfl⟩
    rw [hs0] at hc0 hz0
    have hl0' : (0 : Int) < (L : Int) := by omega
    clear hs0
    by_cases hlt : k < n
    · have hfl := HFl.out k hlt
      go_wp2_with fail
      clear hc0
      go_loopw [6] (fun i wz => ∃ (j : Nat) (v : Value), j ≤ M ∧ i = .int .i64 (j : Int) ∧ QfS w b off ss M g ls D v (fewJ ps k j) wz) (fun i _ => M - (intOf i).toNat)
      case atStart => exact ⟨0, v, Nat.zero_le _, rfl, by unfold fewJ; rw [if_neg (Nat.not_lt_zero _), List.append_nil]; exact HS.out⟩
      case round =>
        obtain ⟨j, u, hj, rfl, hS⟩ := hrel
        have HS2 := Lib.hid hS
        clear hS HS
        by_cases hjl : j < M
        · have hx := HS2.out.l j (by rw [HLl.out]; exact hjl)
          rw [Nat.zero_add] at hx
          have hxl := (HAp.out j hjl).1
          have hfi := HFi.out k j hlt hjl
          have hlen : (fewJ ps k j).length ≤ 1000 := by
            unfold fewJ
            rw [List.length_append, fewL_len]
            split <;> simp <;> omega
          obtain ⟨x, hxe⟩ : ∃ x, nthN ls j = x := ⟨_, rfl⟩
          rw [hxe] at hx hxl hfi
          have Hfi := Lib.hid hfi
          have H133 := refLike3_any b off c n x k L ss ps wr HC.out HL.out hl HS2.out.s (Nat.lt_of_lt_of_le HS2.out.bl HS2.out.bel.size) hxl hlt hn
          have hj0 : (0 : Int) ≤ (j : Int) := by omega
          have hj1 : (j : Int) < (M : Int) := by omega
          clear hxe hfi hxl
          by_cases e : j = fewH (colL ps) k
          · rw [decide_eq_true (Hfi.out.2 e)] at H133
            have h1 : fewJ ps k j = fewL ps k := by unfold fewJ; rw [if_neg (by omega), List.append_nil]
            have h2 : fewJ ps k (j + 1) = fewL ps k ++ [j] := by unfold fewJ; rw [if_pos (by omega), ← e]
            rw [h1] at HS2 hlen
            have H2 := Lib.hid h2
            clear e h1 h2
            obtain ⟨rows, hrw⟩ : ∃ rows, fewL ps k = rows := ⟨_, rfl⟩
            rw [hrw] at HS2 H2 hlen
            clear hrw
            go_wp2_with fail
            refine H133.mono ?_
            rintro e w3 ⟨rfl, hb3⟩
            have HS3 := Lib.hid (HS2.out.next hb3)
            have b1 := HS3.out.box.cell' (v := u) 1 rfl
            have hsz : D + 1 ≤ w3.heap.size := HS3.out.box.lt
            clear hb3 hx HS2 H133
            go_wp2_with (at_builtin; refine Shut.out ?_)
            unfold Shut
            refine app_one elemInt rfl _ _ rfl (D + 1) u rows.length (rows.map natV) #[.int .i64 (j : Int)] rfl HS3.out.row rfl rfl (by simp [Value.oneCell']) (by omega) (by decide) hsz ?_
            intro g5 cap w5 hg
            obtain ⟨hbx, hS5⟩ := HS3.out.grew hg
            have f1 := hbx.frozen 1
            have c1 : w5.cell? ⟨D, 1, none⟩ = some u := hbx.cell' 1 rfl
            have HS5 := Lib.hid hS5
            clear hbx hS5 hg b1
            go_wp2_with fail
            go_roundw
            case rel => exact ⟨j + 1, _, by omega, by go_num, by rw [H2.out]; exact HS5.out⟩
            case measure => simp [intOf]; omega
          · rw [decide_eq_false (fun h => e (Hfi.out.1 h))] at H133
            have h2 : fewJ ps k (j + 1) = fewJ ps k j := by
              unfold fewJ
              by_cases h : fewH (colL ps) k < j
              · rw [if_pos h, if_pos (by omega)]
              · rw [if_neg h, if_neg (by omega)]
            have H2 := Lib.hid h2
            clear e h2
            go_wp2_with fail
            refine H133.mono ?_
            rintro e w3 ⟨rfl, hb3⟩
            have HS3 := Lib.hid (HS2.out.next hb3)
            clear hb3 hx HS2 H133
            go_wp2_with fail
            go_roundw
            case rel => exact ⟨j + 1, _, by omega, by go_num, by rw [H2.out]; exact HS3.out⟩
            case measure => simp [intOf]; omega
        · obtain rfl : j = M := by omega
          have h2 : fewJ ps k j = fewL ps (k + 1) := by unfold fewJ; rw [if_pos hfl, fewL_succ]
          rw [h2] at HS2
          clear h2
          go_wp2_with fail
          go_roundw
          case rel => exact ⟨k + 1, _, by omega, by go_num, HS2.out⟩
          case measure => simp [intOf]; omega
    · obtain rfl : k = n := by omega
      have hrow := HS.out.row
      rw [fewL_len] at hrow
      obtain ⟨g5, cap, rfl⟩ := row_slice hrow (by omega)
      obtain ⟨hn5, hg5, hg6⟩ := nats_of_row hrow (by omega)
      have b0 := HS.out.box.cell' (v := .int .i64 (M : Int)) 0 rfl
      have b1 := HS.out.box.cell' (v := .slice (some ⟨g5, 0, none⟩) k cap) 1 rfl
      have r0 := HS.out.res.cell' (v := .int .i64 0) 0 rfl
      have r1 := HS.out.res.cell' (v := .slice none 0 0) 1 rfl
      have rf0 := HS.out.res.frozen 0
      have rf1 := HS.out.res.frozen 1
      have HN5 := Lib.hid (And.intro hn5 (And.intro hg5 hg6))
      have hne : g5 ≠ w.heap.size := by omega
      have hge : w.heap.size ≤ g5 := by omega
      clear hrow hn5 hg5 hg6
      go_wp2_with fail
      refine bodyPost_ret (v := .agg #[.int .i64 (M : Int), .slice (some ⟨g5, 0, none⟩) k cap]) ?_ rfl ⟨g5, cap, rfl, ?_, hge, ?_, ?_⟩
      · have hb3 := (HS.out.res.set 0 (.int .i64 (M : Int))).set 1 (.slice (some ⟨g5, 0, none⟩) k cap)
        have d0 := hb3.cell' (v := .int .i64 (M : Int)) 0 rfl
        have d1 := hb3.cell' (v := .slice (some ⟨g5, 0, none⟩) k cap) 1 rfl
        simp [results, Try.results57, go_sem, d0, d1]
      · exact nats_setB (nats_setB HN5.out.1 _ _ _ hne) _ _ _ hne
      · simp only [setCell_size]; exact HN5.out.2.1
      · exact (HS.out.bel.setCell (by simp) _).setCell (by simp) _
set_option maxRecDepth 100000 in
set_option maxHeartbeats 4000000 in
theorem fewest_full (b off c n : Nat) (ps : List Nat) (w : World) (h : ClAt w b off n ps) (hl0 : 1 ≤ ps.length) (hl : ps.length ≤ 60) (hn0 : 1 ≤ n) (hn1 : n ≤ 96) (hF : 24 < cntF (colL ps) n) :
    Calls Try.prog 131 #[.slice (some ⟨b, off, none⟩) ps.length c] w fun e w' =>
      e = .returned (.tuple #[.agg #[.int .i64 0, .slice none 0 0], .int .i64 8]) ∧ Below w.heap.size w w' := by
  have hmm := @run_makeMap Try.prog
  have hb0 : Below w.heap.size w (w.alloc (.cells #[.int .i64 0, .slice none 0 0] 159)) := (Below.refl _ _).alloc (Nat.le_refl _) _
  have hcl0 := h.next hb0
  have HC := Lib.hid (checkCloth_few b off c n ps _ hcl0 hl hl0 hn0 hn1)
  have Hcl0 := Lib.hid hcl0
  have Hb0 := Lib.hid hb0
  have HR0 := Lib.hid (show BoxAt _ _ _ _ from BoxAt.new w #[.int .i64 0, .slice none 0 0] 159)
  have hbl := h.lt
  clear h hb0 hcl0
  go_enter Try.func131, Try.ntmps131
  go_wp2_with fail
  refine HC.out.mono ?_
  rintro e w1 ⟨rfl, hb1⟩
  have hcl1 := Hcl0.out.next hb1
  obtain ⟨s, hs, hcell⟩ := hcl1.cell 0 (by omega)
  have hsz := hs.size
  have hcell : w1.cell? ⟨b, off, none⟩ = some (.string s) := hcell
  obtain ⟨B, hB⟩ : ∃ B, w1.heap.size = B := ⟨_, rfl⟩
  have hwB : w.heap.size < B := by have := hb1.size; simp at this; omega
  have hF0 : FwAt w B b off n ps 0 0 (.slice none 0 0) ((w1.alloc (.cells #[.int .i64 0, .slice none 0 0] 159)).alloc (.map #[] 0)) := by
    have hb2 : Below w1.heap.size w1 ((w1.alloc (.cells #[.int .i64 0, .slice none 0 0] 159)).alloc (.map #[] 0)) := ((Below.refl _ _).alloc (Nat.le_refl _) _).alloc (by simp) _
    refine ⟨(HR0.out.next hb1).next hb2, ?_, World.ownsRow_nil _ _ _ _, ⟨0, _, ?_, Nat.le_refl _, ClG.start⟩, hcl1.next hb2, (Hb0.out.trans (hb1.mono (by simp))).trans (hb2.mono (by omega))⟩
    · have := (BoxAt.new w1 #[.int .i64 0, .slice none 0 0] 159).next ((Below.refl _ _).alloc (Nat.le_refl _) (.map #[] 0))
      rwa [hB] at this
    · have := SMap.made (w1.alloc (.cells #[.int .i64 0, .slice none 0 0] 159))
      rwa [World.size_alloc, hB] at this
  have HF0 := Lib.hid hF0
  have hbl1 : b < w1.heap.size := by omega
  clear hF0 hcl1 hs hb1 HC Hcl0 Hb0 HR0
  go_upto_region 6 with fail
  have hcell2 : ((w1.alloc (.cells #[.int .i64 0, .slice none 0 0] 159)).alloc (.map #[] 0)).cell? ⟨b, off, none⟩ = some (.string s) := by
    exact cell_next (((Below.refl _ _).alloc (Nat.le_refl _) _).alloc (by simp) _) hcell
  obtain ⟨W2, hW2⟩ : ∃ W2, (w1.alloc (.cells #[.int .i64 0, .slice none 0 0] 159)).alloc (.map #[] 0) = W2 := ⟨_, rfl⟩
  rw [hW2] at HF0 hcell2 ⊢
  clear hW2 hcell hB
  go_wp2_with fail
  go_loopw [22] (fun i wr => ∃ (k : Nat) (v : Value), k ≤ n ∧ i = .int .i64 (k : Int) ∧ FwAt w B b off n ps k k v wr) (fun i _ => n - (intOf i).toNat)
  case atStart => exact ⟨0, _, Nat.zero_le _, rfl, HF0.out⟩
  case round =>
    obtain ⟨k, v, hk, rfl, hT⟩ := hrel
    clear HF0 hcell2
    by_cases hlt : k < n
    · have HW := Lib.hid (column_any b off c n k ps wr hT.cl hl hl0 hlt)
      have HT := Lib.hid hT
      clear hT
      go_wp2_with fail
      refine HW.out.mono ?_
      rintro e W3 ⟨rfl, hb3⟩
      have hT3 := HT.out.next hb3
      clear HT HW hb3
      obtain ⟨q, g, hm, hq, hcg⟩ := hT3.map
      have hX : (colS ps k).size ≤ 1000 := by rw [colS_size]; omega
      have hlk := hm.look hX
      rw [colS_list] at hlk
      have hln := fun ty => hm.len ty
      have hcs := cntF_le_self (key := colL ps) k
      have hwz : w.heap.size < W3.heap.size := hT3.res.lt
      have hzB : B + 1 < W3.heap.size := hm.lt
      cases hg : g (colL ps k) with
      | none =>
        obtain ⟨hf1, hc1, hh1, hcg1⟩ := hcg.none hg
        rw [hg] at hlk
        obtain ⟨W4, hup, hm4, hgr⟩ := hm.upd (X := colS ps k) (Y := cntF (colL ps) k) hX (by omega) (by omega)
        rw [colS_list, hg] at hm4
        have hT4 : FwAt w B b off n ps k (k + 1) v W4 := by
          have hnv : v.ownBlock ≠ some (B + 1) := fun e => own_far hT3.row (show B + 1 < B + 2 by omega) e.symm
          refine ⟨hT3.res.kept hgr (by simp; omega), hT3.box.kept hgr (by simp), hT3.row.kept hgr (.inr hnv), ⟨q + 1, _, ?_, by omega, hcg1⟩, hT3.cl.kept hgr (by simp; omega), hT3.b.grown hgr hT3.b.size (fun j e => by cases e; omega)⟩
          rw [hc1]; exact hm4
        obtain ⟨m, hmm2⟩ : ∃ m, cntF (colL ps) k = m := ⟨_, rfl⟩
        rw [hmm2] at hup hln hcs hh1
        have HT4 := Lib.hid hT4
        have Hh1 := Lib.hid hh1
        have hcb := hT4.box.cell' (v := v) 1 rfl
        have hzB4 : B + 1 < W4.heap.size := Nat.lt_of_lt_of_le hzB hgr.size
        clear hT4 hT3 hm hq hcg hf1 hc1 hh1 hcg1 hm4 hgr hmm2 hg hF
        go_upto_region 14 with fail
        go_wp2_with (at_builtin; refine Shut.out ?_)
        unfold Shut
        refine app_one elemInt rfl _ _ rfl (B + 2) v k ((fewL ps k).map natV) #[.int .i64 (m : Int)] rfl HT4.out.row rfl rfl (by simp [Value.oneCell']) (by omega) (by decide) (by omega) ?_
        intro g5 cap W5 hg5
        obtain ⟨hbx, hT6⟩ := HT4.out.grew hwB hbl (by rw [Hh1.out]; exact hg5)
        have f1 := hbx.frozen 1
        have c1 : W5.cell? ⟨B, 1, none⟩ = some v := hbx.cell' 1 rfl
        have HT6 := Lib.hid hT6
        clear hbx hT6 hg5 HT4
        go_wp2_with fail
        go_roundw
        case rel => exact ⟨k + 1, _, by omega, by go_num, HT6.out⟩
        case measure => simp [intOf]; omega
      | some x =>
        obtain ⟨hx, hc1, hcg1⟩ := hcg.some hg
        rw [hg] at hlk
        have hT4 : FwAt w B b off n ps k (k + 1) v W3 := ⟨hT3.res, hT3.box, hT3.row, ⟨q, g, by rw [hc1]; exact hm, by omega, hcg1⟩, hT3.cl, hT3.b⟩
        have HT4 := Lib.hid hT4
        have Hh1 := Lib.hid hx.symm
        have hcb := hT4.box.cell' (v := v) 1 rfl
        clear hT4 hT3 hm hq hcg hx hc1 hcg1 hg hF hln
        simp only [Option.getD_some, Option.isSome_some] at hlk
        go_upto_region 14 with fail
        go_wp2_with (at_builtin; refine Shut.out ?_)
        unfold Shut
        refine app_one elemInt rfl _ _ rfl (B + 2) v k ((fewL ps k).map natV) #[.int .i64 (x : Int)] rfl HT4.out.row rfl rfl (by simp [Value.oneCell']) (by omega) (by decide) (by omega) ?_
        intro g5 cap W5 hg5
        obtain ⟨hbx, hT6⟩ := HT4.out.grew hwB hbl (by rw [Hh1.out]; exact hg5)
        have f1 := hbx.frozen 1
        have c1 : W5.cell? ⟨B, 1, none⟩ = some v := hbx.cell' 1 rfl
        have HT6 := Lib.hid hT6
        clear hbx hT6 hg5 HT4
        go_wp2_with fail
        go_roundw
        case rel => exact ⟨k + 1, _, by omega, by go_num, HT6.out⟩
        case measure => simp [intOf]; omega
    · obtain rfl : k = n := by omega
      obtain ⟨g5, cap, rfl⟩ := row_slice hT.row (by omega)
      obtain ⟨q, g, hm, hq, hcg⟩ := hT.map
      have hln := fun ty => hm.len ty
      obtain ⟨m, hmm2⟩ : ∃ m, cntF (colL ps) k = m := ⟨_, rfl⟩
      rw [hmm2] at hln hF
      have Hm := Lib.hid hmm2
      have d24 : decide ((24 : Int) < (m : Int)) = true := decide_eq_true (by omega)
      have d25 : decide (24 < m) = true := decide_eq_true (by omega)
      have c0 := hT.box.cell' (v := .int .i64 0) 0 rfl
      have c1 := hT.box.cell' (v := .slice (some ⟨g5, 0, none⟩) k cap) 1 rfl
      have f0 := hT.box.frozen 0
      have r0 := hT.res.cell' (v := .int .i64 0) 0 rfl
      have r1 := hT.res.cell' (v := .slice none 0 0) 1 rfl
      have rf0 := hT.res.frozen 0
      have rf1 := hT.res.frozen 1
      have hne : ¬ w.heap.size = B := by omega
      have hne2 : ¬ B = w.heap.size := by omega
      have HT := Lib.hid hT
      clear hT hm hq hcg hmm2
      go_wp2_with fail
      refine bodyPost_ret (v := .tuple #[.agg #[.int .i64 0, .slice none 0 0], .int .i64 8]) ?_ rfl ⟨rfl, ?_⟩
      · have hb3 := (HT.out.res.set 0 (.int .i64 0)).set 1 (.slice none 0 0)
        have d0 := hb3.cell' (v := .int .i64 0) 0 rfl
        have d1 := hb3.cell' (v := .slice none 0 0) 1 rfl
        simp [results, Try.results131, go_sem, d0, d1]
      · exact (HT.out.b.setCell (by simp) _).setCell (by simp) _
end Go.Proofs.Ytdmgffoikebgkaa
/- Chapter 3: Fewest and Apart of any cloth: their errors, and what they say of a cloth that is one. -/
namespace Go.Proofs.Ytdmgffoikebgkaa
open Go.RowKit Go.Shelf
attribute [local go_sem] Oper.semAt_some

set_option maxRecDepth 100000 in
set_option maxHeartbeats 1000000 in
theorem width184_any (m : Nat) (w : World) : Calls Try.prog 184 #[.int .i64 (m : Int)] w fun e w' => e = .returned (.bool (frB 1 96 [(m : Int)])) ∧ Below w.heap.size w w' := by
  have HA := Lib.hid (areFrom_any 1 96 w.heap.size 0 1 [(m : Int)] (w.alloc (.cells #[.int .i64 (m : Int)] 3)) (by simp) (by
    intro i hi
    obtain rfl : i = 0 := by simp at hi; omega
    exact (BoxAt.new w #[.int .i64 (m : Int)] 3).cell' 0 rfl))
  have HB := Lib.hid ((Below.refl w.heap.size w).alloc (Nat.le_refl _) (.cells #[.int .i64 (m : Int)] 3))
  obtain ⟨f, hf⟩ : ∃ f, frB 1 96 [(m : Int)] = f := ⟨_, rfl⟩
  rw [hf] at HA ⊢
  clear hf
  go_enter Try.func184, Try.ntmps184
  go_wp2_with fail
  refine HA.out.mono ?_
  rintro e w' ⟨rfl, rfl⟩
  go_wp2_with fail
  go_ret
  exact ⟨rfl, HB.out⟩
/-- the error of a cloth of any width -/
def cltF (ss : List ByteArray) : Int :=
  if 60 < ss.length then 5 else if ss.length = 0 then 7 else if frB 1 96 [((nthB ss 0).size : Int)] = true ∧ ss.any (wrongB (nthB ss 0).size) = false then 0 else 4
set_option maxRecDepth 100000 in
set_option maxHeartbeats 1000000 in
theorem checkCloth_anyF (p : Option Addr) (c : Nat) (ss : List ByteArray) (w : World) (hx : StrR w (.slice p ss.length c) ss) (hl : ss.length ≤ 1000) (hs : ∀ i, i < ss.length → (nthB ss i).size ≤ 1000) :
    Calls Try.prog 181 #[.slice p ss.length c, .func (.func 184) #[] #[]] w fun e w' => e = .returned (.int .i64 (cltF ss)) ∧ Below w.heap.size w w' := by
  by_cases h1 : 60 < ss.length
  · have Hv := Lib.hid (show cltF ss = 5 by unfold cltF; rw [if_pos h1])
    have b1 : decide ((60 : Int) < (ss.length : Int)) = true := decide_eq_true (by omega)
    have b2 : decide (60 < ss.length) = true := decide_eq_true h1
    clear hx hs h1
    go_enter Try.func181, Try.ntmps181
    go_wp2_with fail
    go_ret
    exact ⟨ret_int (by rw [Hv.out]), Below.refl _ _⟩
  · have b1 : decide ((60 : Int) < (ss.length : Int)) = false := decide_eq_false (by omega)
    have b2 : decide (60 < ss.length) = false := decide_eq_false h1
    by_cases h0 : ss.length = 0
    · have Hv := Lib.hid (show cltF ss = 7 by unfold cltF; rw [if_neg h1, if_pos h0])
      have b3 : ((ss.length : Int) == 0) = true := by simp [h0]
      clear hx hs
      go_enter Try.func181, Try.ntmps181
      go_wp2_with fail
      go_ret
      exact ⟨ret_int (by rw [Hv.out]), Below.refl _ _⟩
    · obtain ⟨b, off, rfl, hb, hx⟩ := hx.open (by omega)
      have b3 : ((ss.length : Int) == 0) = false := by rw [beq_eq_false_iff_ne]; omega
      have hl0 : 0 < ss.length := by omega
      have hcell := hx 0 (by omega)
      rw [Nat.add_zero] at hcell
      have Hv := Lib.hid (show cltF ss = if frB 1 96 [((nthB ss 0).size : Int)] = true ∧ ss.any (wrongB (nthB ss 0).size) = false then 0 else 4 by unfold cltF; rw [if_neg h1, if_neg h0])
      obtain ⟨s, hs0⟩ : ∃ s, nthB ss 0 = s := ⟨_, rfl⟩
      rw [hs0] at hcell Hv
      obtain ⟨m, hm⟩ : ∃ m, s.size = m := ⟨_, rfl⟩
      rw [hm] at Hv
      have hb1 : Below w.heap.size w (w.alloc (.cells #[.int .i64 (m : Int)] 3)) := (Below.refl _ _).alloc (Nat.le_refl _) _
      have HW := Lib.hid (width184_any m (w.alloc (.cells #[.int .i64 (m : Int)] 3)))
      have HB := Lib.hid (fun W (hb' : Below (w.alloc (.cells #[.int .i64 (m : Int)] 3)).heap.size (w.alloc (.cells #[.int .i64 (m : Int)] 3)) W) => wrongs_any b off c m w.heap.size ss W ((hx.below hb1 hb).below hb' (by simp; omega)) hl hs (((BoxAt.new w #[.int .i64 (m : Int)] 3).next hb').cell' 0 rfl))
      have Hb1 := Lib.hid hb1
      cases hf : frB 1 96 [(m : Int)] with
      | true =>
        rw [hf] at HW Hv
        cases ha : ss.any (wrongB m) with
        | true =>
          rw [ha] at Hv
          simp only [ha] at HB
          clear hx hs h0 h1 hs0 ha hb1 hf
          go_enter Try.func181, Try.ntmps181
          go_wp2_with fail
          refine HW.out.mono ?_
          rintro e w2 ⟨rfl, hb2⟩
          have H3 := HB.out w2 hb2
          have Hb2 := Lib.hid hb2
          clear hb2 HB
          go_wp2_with fail
          refine H3.mono ?_
          rintro e w3 ⟨rfl, rfl⟩
          go_wp2_with fail
          go_ret
          exact ⟨ret_int (by rw [Hv.out]; rfl), Hb1.out.trans (Hb2.out.mono (by simp))⟩
        | false =>
          rw [ha] at Hv
          simp only [ha] at HB
          clear hx hs h0 h1 hs0 ha hb1 hf
          go_enter Try.func181, Try.ntmps181
          go_wp2_with fail
          refine HW.out.mono ?_
          rintro e w2 ⟨rfl, hb2⟩
          have H3 := HB.out w2 hb2
          have Hb2 := Lib.hid hb2
          clear hb2 HB
          go_wp2_with fail
          refine H3.mono ?_
          rintro e w3 ⟨rfl, rfl⟩
          go_wp2_with fail
          go_ret
          exact ⟨ret_int (by rw [Hv.out]; rfl), Hb1.out.trans (Hb2.out.mono (by simp))⟩
      | false =>
        rw [hf] at HW Hv
        have Hv2 := Lib.hid (show cltF ss = 4 by rw [Hv.out, if_neg (by simp)])
        clear hx hs h0 h1 hs0 hb1 hf HB Hv
        go_enter Try.func181, Try.ntmps181
        go_wp2_with fail
        refine HW.out.mono ?_
        rintro e w2 ⟨rfl, hb2⟩
        have Hb2 := Lib.hid hb2
        clear hb2
        go_wp2_with fail
        go_ret
        exact ⟨ret_int (by rw [Hv2.out]), Hb1.out.trans (Hb2.out.mono (by simp))⟩
set_option maxRecDepth 100000 in
set_option maxHeartbeats 1000000 in
theorem fewest_err (p : Option Addr) (c : Nat) (k : Int) (ss : List ByteArray) (w : World) (hx : StrR w (.slice p ss.length c) ss) (hl : ss.length ≤ 1000) (hs : ∀ i, i < ss.length → (nthB ss i).size ≤ 1000) (hk : cltF ss = k) (h0 : k ≠ 0) :
    Calls Try.prog 131 #[.slice p ss.length c] w fun e w' => e = .returned (.tuple #[.agg #[.int .i64 0, .slice none 0 0], .int .i64 k]) ∧ Below w.heap.size w w' := by
  obtain ⟨w0, hw0⟩ : ∃ w0, w0 = w.alloc (.cells #[.int .i64 0, .slice none 0 0] 159) := ⟨_, rfl⟩
  have hb0 : Below w.heap.size w w0 := by rw [hw0]; exact (Below.refl _ _).alloc (Nat.le_refl _) _
  have hA : BoxAt w0 w.heap.size #[.int .i64 0, .slice none 0 0] 159 := by rw [hw0]; exact BoxAt.new w _ _
  have HW0 := Lib.hid hw0
  have Hb0 := Lib.hid hb0
  have HA := Lib.hid hA
  have H1 := checkCloth_anyF p c ss w0 (hx.next hb0) hl hs
  rw [hk] at H1
  have hb : (k != 0) = true := by simp [h0]
  clear hw0 hb0 hA hx hk h0 hs
  go_enter Try.func131, Try.ntmps131
  go_upto_region 1 with fail
  rw [← HW0.out]
  go_wp2_with fail
  refine H1.mono ?_
  rintro e W1 ⟨rfl, hb1⟩
  have Hb1 := Lib.hid (Hb0.out.trans (hb1.mono Hb0.out.size))
  have hR := HA.out.next hb1
  have r0 := hR.cell' 0 rfl
  have r1 := hR.cell' 1 rfl
  have rf0 := hR.frozen 0
  have rf1 := hR.frozen 1
  have HR := Lib.hid hR
  clear hb1 H1 Hb0 HW0 hR HA
  go_wp2_with fail
  refine bodyPost_ret (v := .tuple #[.agg #[.int .i64 0, .slice none 0 0], .int .i64 k]) ?_ rfl ⟨rfl, ?_⟩
  · have hb3 := (HR.out.set 0 (.int .i64 0)).set 1 (.slice none 0 0)
    have d0 := hb3.cell' (v := .int .i64 0) 0 rfl
    have d1 := hb3.cell' (v := .slice none 0 0) 1 rfl
    simp [results, Try.results131, go_sem, d0, d1]
  · exact (Hb1.out.setCell (by simp) _).setCell (by simp) _
set_option maxRecDepth 100000 in
set_option maxHeartbeats 1000000 in
theorem Fewest_bad (v : Value) (k : Int) (w : World) (h131 : ∀ W, Below w.heap.size w W → Calls Try.prog 131 #[v] W fun e w' => e = .returned (.tuple #[.agg #[.int .i64 0, .slice none 0 0], .int .i64 k]) ∧ Below W.heap.size W w') (h0 : k ≠ 0) :
    Calls Try.prog 54 #[v] w fun e w' => e = .returned (.tuple #[.agg #[.int .i64 0, .slice none 0 0], .agg #[.int .i64 0, .slice none 0 0], .int .i64 k]) ∧ Below w.heap.size w w' := by
  obtain ⟨w0, hw0⟩ : ∃ w0, w0 = (w.alloc (.cells #[.int .i64 0, .slice none 0 0] 26)).alloc (.cells #[.int .i64 0, .slice none 0 0] 37) := ⟨_, rfl⟩
  have hb0 : Below w.heap.size w w0 := by rw [hw0]; exact ((Below.refl _ _).alloc (Nat.le_refl _) _).alloc (by simp) _
  have hA : BoxAt w0 w.heap.size #[.int .i64 0, .slice none 0 0] 26 := by rw [hw0]; exact (BoxAt.new w _ _).next ((Below.refl _ _).alloc (Nat.le_refl _) _)
  have hP : BoxAt w0 (w.heap.size + 1) #[.int .i64 0, .slice none 0 0] 37 := by
    rw [hw0]; have := BoxAt.new (w.alloc (.cells #[.int .i64 0, .slice none 0 0] 26)) #[.int .i64 0, .slice none 0 0] 37; rw [World.size_alloc] at this; exact this
  have HW0 := Lib.hid hw0
  have Hb0 := Lib.hid hb0
  have HA := Lib.hid hA
  have HP := Lib.hid hP
  have H1 := h131 w0 hb0
  have hb : (k != 0) = true := by simp [h0]
  clear hw0 hb0 hA hP h0 h131
  go_enter Try.func54, Try.ntmps54
  go_upto_region 1 with fail
  rw [← HW0.out]
  go_wp2_with fail
  refine H1.mono ?_
  rintro e W1 ⟨rfl, hb1⟩
  have hb2 : Below W1.heap.size W1 (W1.alloc (.cells #[.int .i64 0, .slice none 0 0] 159)) := (Below.refl _ _).alloc (Nat.le_refl _) _
  have Hb1 := Lib.hid ((Hb0.out.trans (hb1.mono Hb0.out.size)).trans (hb2.mono (Hb0.out.trans (hb1.mono Hb0.out.size)).size))
  have HR := Lib.hid ((HA.out.next hb1).next hb2)
  have HQ := Lib.hid ((HP.out.next hb1).next hb2)
  obtain ⟨W2, hW2⟩ : ∃ W2, W2 = W1.alloc (.cells #[.int .i64 0, .slice none 0 0] 159) := ⟨_, rfl⟩
  rw [← hW2] at Hb1 HR HQ
  have HW2 := Lib.hid hW2
  clear hb1 H1 Hb0 HW0 HA HP hb2 hW2
  go_upto_region 2 with fail
  rw [← HW2.out]
  have r0 := HR.out.cell' 0 rfl
  have r1 := HR.out.cell' 1 rfl
  have rf0 := HR.out.frozen 0
  have rf1 := HR.out.frozen 1
  have q0 := HQ.out.cell' 0 rfl
  have q1 := HQ.out.cell' 1 rfl
  have qf0 := HQ.out.frozen 0
  have qf1 := HQ.out.frozen 1
  go_wp2_with fail
  refine bodyPost_ret (v := .tuple #[.agg #[.int .i64 0, .slice none 0 0], .agg #[.int .i64 0, .slice none 0 0], .int .i64 k]) ?_ rfl ⟨rfl, ?_⟩
  · have ha := ((((HR.out.set 0 (.int .i64 0)).set 1 (.slice none 0 0)).other ⟨w.heap.size + 1, 0, none⟩ (.int .i64 0) (by simp)).other ⟨w.heap.size + 1, 1, none⟩ (.slice none 0 0) (by simp))
    have hb := ((((HQ.out.other ⟨w.heap.size, 0, none⟩ (.int .i64 0) (by simp)).other ⟨w.heap.size, 1, none⟩ (.slice none 0 0) (by simp)).set 0 (.int .i64 0)).set 1 (.slice none 0 0))
    have d0 := ha.cell' (v := .int .i64 0) 0 rfl
    have d1 := ha.cell' (v := .slice none 0 0) 1 rfl
    have d2 := hb.cell' (v := .int .i64 0) 0 rfl
    have d3 := hb.cell' (v := .slice none 0 0) 1 rfl
    simp [results, Try.results54, go_sem, d0, d1, d2, d3]
  · exact (((Hb1.out.setCell (by simp) _).setCell (by simp) _).setCell (by simp) _).setCell (by simp) _
set_option maxRecDepth 100000 in
set_option maxHeartbeats 1000000 in
theorem Apart_bad (v : Value) (k : Int) (w : World) (h131 : Calls Try.prog 131 #[v] w fun e w' => e = .returned (.tuple #[.agg #[.int .i64 0, .slice none 0 0], .int .i64 k]) ∧ Below w.heap.size w w') (h0 : k ≠ 0) :
    Calls Try.prog 55 #[v] w fun e w' => e = .returned (.tuple #[.slice none 0 0, .int .i64 k]) ∧ Below w.heap.size w w' := by
  have hb : (k != 0) = true := by simp [h0]
  clear h0
  go_enter Try.func55, Try.ntmps55
  go_wp2_with fail
  refine h131.mono ?_
  rintro e W1 ⟨rfl, hb1⟩
  have Hb1 := Lib.hid (show Below w.heap.size w (W1.alloc (.cells #[.int .i64 0, .slice none 0 0] 159)) from hb1.alloc hb1.size _)
  clear hb1 h131
  go_wp2_with fail
  go_ret2
  exact ⟨rfl, Hb1.out⟩
set_option maxRecDepth 100000 in
set_option maxHeartbeats 1000000 in
/-- the reference's error of a cloth of its own width -/
theorem refFits_few (p : Option Addr) (c z : Nat) (ss : List ByteArray) (w : World) (hx : StrR w (.slice p ss.length c) ss) (hl : ss.length ≤ 1000) (hz : ss.length = 0 ∧ z = 0 ∨ 0 < ss.length ∧ z = (nthB ss 0).size) :
    Calls Try.prog 50 #[.slice p ss.length c, .int .i64 (z : Int)] w fun e w' => e = .returned (.int .i64 (cltF ss)) ∧ Below w.heap.size w w' := by
  by_cases h1 : 60 < ss.length
  · have Hv := Lib.hid (show cltF ss = 5 by unfold cltF; rw [if_pos h1])
    have b1 : decide ((60 : Int) < (ss.length : Int)) = true := decide_eq_true (by omega)
    have b2 : decide (60 < ss.length) = true := decide_eq_true h1
    clear hx h1 hz
    go_enter Try.func50, Try.ntmps50
    go_wp2_with fail
    go_ret
    exact ⟨ret_int (by rw [Hv.out]), Below.refl _ _⟩
  · have b1 : decide ((60 : Int) < (ss.length : Int)) = false := decide_eq_false (by omega)
    have b2 : decide (60 < ss.length) = false := decide_eq_false h1
    by_cases h0 : ss.length = 0
    · have Hv := Lib.hid (show cltF ss = 7 by unfold cltF; rw [if_neg h1, if_pos h0])
      have b3 : ((ss.length : Int) == 0) = true := by simp [h0]
      clear hx hz
      go_enter Try.func50, Try.ntmps50
      go_wp2_with fail
      go_ret
      exact ⟨ret_int (by rw [Hv.out]), Below.refl _ _⟩
    · obtain rfl : z = (nthB ss 0).size := by rcases hz with h | h <;> omega
      by_cases hf : frB 1 96 [((nthB ss 0).size : Int)] = true
      · have hr : 1 ≤ (nthB ss 0).size ∧ (nthB ss 0).size ≤ 96 := by
          simp [frB] at hf; omega
        have e : cltF ss = cltE (nthB ss 0).size ss := by
          unfold cltF cltE
          rw [if_neg h1, if_neg h0, if_neg h1, if_neg h0]
          cases ha : ss.any (wrongB (nthB ss 0).size) with
          | true => rw [if_neg (by simp), if_pos rfl]
          | false => rw [if_pos ⟨hf, rfl⟩, if_neg (by simp)]
        rw [e]
        exact refFits_any p c _ ss w hr.1 hr.2 hx hl
      · have Hv := Lib.hid (show cltF ss = 4 by unfold cltF; rw [if_neg h1, if_neg h0, if_neg (fun h => hf h.1)])
        have H44 := refIn3_any ((nthB ss 0).size : Int) 1 96
        have hr : (decide (1 ≤ ((nthB ss 0).size : Int)) && decide (((nthB ss 0).size : Int) ≤ 96)) = false := by
          simp [frB] at hf
          simp; omega
        simp only [hr] at H44
        obtain ⟨b, off, rfl, hb, hx⟩ := hx.open (by omega)
        have b3 : ((ss.length : Int) == 0) = false := by rw [beq_eq_false_iff_ne]; omega
        have hl0 : 0 < ss.length := by omega
        have hcell := hx 0 (by omega)
        obtain ⟨s, hs0⟩ : ∃ s, nthB ss 0 = s := ⟨_, rfl⟩
        rw [hs0] at hcell H44 ⊢
        obtain ⟨m, hm⟩ : ∃ m, s.size = m := ⟨_, rfl⟩
        rw [hm] at H44 ⊢
        have hcell0 : w.cell? ⟨b, off, none⟩ = some (.string s) := hcell
        have hl1 : (0 : Int) < (ss.length : Int) := by omega
        clear hx h0 h1 hs0 hf hr hz
        go_enter Try.func50, Try.ntmps50
        go_wp2_with fail
        go_loopw [5] (fun i wr => i = .int .i64 0 ∧ wr = w) (fun _ _ => 1)
        case atStart => exact ⟨rfl, rfl⟩
        case round =>
          obtain ⟨rfl, rfl⟩ := hrel
          go_wp2_with fail
          refine (H44 _).mono ?_
          rintro e w2 ⟨rfl, hww⟩
          have Hww := Lib.hid hww
          clear hww
          go_wp2_with fail
          go_ret
          exact ⟨ret_int (by rw [Hv.out]), by rw [Hww.out]; exact Below.refl _ _⟩
end Go.Proofs.Ytdmgffoikebgkaa
