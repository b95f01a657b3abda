/- Lay of the reference. -/
import Derived.Test.YtjobbleabepaiaaXT
import Derived.Deep.DeepCutAuto
import Derived.BigRegion
namespace Go.Proofs.Ytjobbleabepaiaa
open Go.RowKit Go.Shelf

theorem own_write {W : World} {B b m c : Nat} {f : Nat → Bool} (h : W.ownsRow B 4 1 (.slice (some ⟨b, 0, none⟩) m c) m (boolCells f m)) (j : Nat) (v : Bool) (_hj : j < m) :
    (W.setCell ⟨b, j, none⟩ (.bool v)).ownsRow B 4 1 (.slice (some ⟨b, 0, none⟩) m c) m (boolCells (upd f j v) m) := by
  obtain ⟨hl, ⟨hx, _⟩ | ⟨g, cap, cur, e1, hg, hh, hc, hm, hs, ht⟩⟩ := h
  · simp at hx
  · simp at e1
    obtain ⟨rfl, rfl⟩ := e1
    refine ⟨by simp [boolCells], .inr ⟨b, c, cur.setIfInBounds j (.bool v), rfl, hg, ?_, hc, hm, by simpa using hs, ?_⟩⟩
    · simp [World.setCell, Array.getElem?_modify, hh]
    · rw [Nat.mul_one] at ht ⊢
      rw [Array.toList_setIfInBounds, List.take_set, ht]
      apply List.ext_getElem
      · simp [boolCells]
      · intro i h1 h2
        rw [List.getElem_set]
        simp only [boolCells, List.getElem_map, List.getElem_range, upd]
        by_cases e : j = i
        · subst e; simp
        · have : ¬ i = j := fun h => e h.symm
          simp [e, this]
theorem OwnTab.write {W : World} {B g N : Nat} {ms bs cs : Nat → Nat} {f : Nat → Nat → Bool} (h : OwnTab W B g N ms bs cs f) (i j : Nat) (v : Bool) (hi : i < N) (hj : j < ms i) :
    OwnTab (W.setCell ⟨bs i, j, none⟩ (.bool v)) B g N ms bs cs (upd f i (upd (f i) j v)) := by
  obtain ⟨T, hT, h2, h3⟩ := h.t
  have hne : bs i ≠ g := fun e => by
    obtain ⟨_, ⟨hx, _⟩ | ⟨g', cap, cur, e1, _, hh, _⟩⟩ := h.r i hi
    · simp at hx
    · simp at e1
      rw [← e1.1, e, hT] at hh
      simp at hh
  refine ⟨⟨T, (Below.heap_setCell _ _ _ _ (fun e => hne e.symm)).trans hT, h2, h3⟩, fun k hk => ?_, h.ne, h.gB⟩
  by_cases e : k = i
  · subst e
    rw [upd_at]
    exact own_write (h.r k hk) j v hj
  · rw [upd_ne _ _ _ _ e]
    refine own_set (h.r k hk) _ _ ?_
    simp [Value.ownBlock]
    exact fun e2 => e (h.ne k i hk hi e2.symm)
theorem OwnTab.rcell {W : World} {B g N : Nat} {ms bs cs : Nat → Nat} {f : Nat → Nat → Bool} (h : OwnTab W B g N ms bs cs f) (i j : Nat) (hi : i < N) (hj : j < ms i) :
    W.cell? ⟨bs i, j, none⟩ = some (.bool (f i j)) ∧ W.frozen? ⟨bs i, j, none⟩ = false := by
  refine ⟨(h.bools i hi).c j hj, ?_⟩
  obtain ⟨_, ⟨hx, _⟩ | ⟨g', cap, cur, e1, _, hh, _⟩⟩ := h.r i hi
  · simp at hx
  · simp at e1
    rw [← e1.1] at hh
    simp [World.frozen?, hh]
/-- how far Lay has come -/
def lyF (G M : Nat → Nat → Bool) (k l i j : Nat) : Bool := if i < k ∨ (i = k ∧ j < l) then G i j else M i j
theorem lyF_zero (G M : Nat → Nat → Bool) : lyF G M 0 0 = M := by funext i j; simp [lyF]
theorem lyF_step (G M : Nat → Nat → Bool) (k l : Nat) : upd (lyF G M k l) k (upd (lyF G M k l k) l (G k l)) = lyF G M k (l + 1) := by
  funext i j
  by_cases e : i = k
  · subst e
    rw [upd_at]
    by_cases e2 : j = l
    · subst e2; rw [upd_at]; simp [lyF]
    · rw [upd_ne _ _ _ _ e2]
      unfold lyF
      by_cases h : j < l
      · rw [if_pos (.inr ⟨rfl, h⟩), if_pos (.inr ⟨rfl, by omega⟩)]
      · rw [if_neg (by omega), if_neg (by omega)]
  · rw [upd_ne _ _ _ _ e]
    unfold lyF
    by_cases h : i < k
    · rw [if_pos (.inl h), if_pos (.inl h)]
    · rw [if_neg (by omega), if_neg (by omega)]
theorem lyF_at (G M : Nat → Nat → Bool) (k l : Nat) : lyF G M k l k l = M k l := by simp [lyF]

/-- later than a world, with all of its blocks -/
structure Since (W1 W : World) : Prop where
  b : Below W1.heap.size W1 W
theorem Since.next {W1 W W' : World} (h : Since W1 W) (hb : Below W.heap.size W W') : Since W1 W' := ⟨h.b.trans (hb.mono h.b.size)⟩
theorem OwnTab.other {W W2 : World} {B g N B2 m1 N2 : Nat} {ms bs cs ms2 bs2 cs2 : Nat → Nat} {f f2 : Nat → Nat → Bool} (h : OwnTab W B g N ms bs cs f) (h2 : OwnTab W B2 m1 N2 ms2 bs2 cs2 f2) (i j : Nat) (v : Value) (hi : i < N2) (hd : ∀ k, k < N → bs2 i ≠ bs k)
    (hW : W2 = W.setCell ⟨bs2 i, j, none⟩ v) : OwnTab W2 B g N ms bs cs f := by
  subst hW
  obtain ⟨T, hT, h3, h4⟩ := h.t
  have hne : bs2 i ≠ g := fun e => by
    obtain ⟨_, ⟨hx, _⟩ | ⟨g', cap, cur, e1, _, hh, _⟩⟩ := h2.r i hi
    · simp at hx
    · simp at e1
      rw [← e1.1, e, hT] at hh
      simp at hh
  refine ⟨⟨T, (Below.heap_setCell _ _ _ _ (fun e => hne e.symm)).trans hT, h3, h4⟩, fun k hk => ?_, h.ne, h.gB⟩
  refine own_set (h.r k hk) _ _ ?_
  simp [Value.ownBlock]
  exact hd k hk
/-- what ref.Lay's three tables leave -/
structure LyS (W1 : World) (gn fn : Nat) (gx fx mx : List Nat) (g1 f1 m1 Bg Bf Bm : Nat) (bg cg bf cf bm cm : Nat → Nat) (F : Nat → Nat → Bool) (W : World) : Prop where
  g : OwnTab W Bg g1 gx.length (fun _ => gn) bg cg (fun i j => bitN (nthN gx i) j)
  f : OwnTab W Bf f1 fx.length (fun _ => fn) bf cf (fun i j => bitN (nthN fx i) j)
  m : OwnTab W Bm m1 mx.length (fun _ => fn) bm cm F
  dg : ∀ i, i < mx.length → ∀ k, k < gx.length → bm i ≠ bg k
  df : ∀ i, i < mx.length → ∀ k, k < fx.length → bm i ≠ bf k
  lo : W1.heap.size ≤ Bm
  s : Since W1 W
section
variable {W1 W W' : World} {gn fn : Nat} {gx fx mx : List Nat} {g1 f1 m1 Bg Bf Bm : Nat} {bg cg bf cf bm cm : Nat → Nat} {F : Nat → Nat → Bool}
theorem LyS.next (h : LyS W1 gn fn gx fx mx g1 f1 m1 Bg Bf Bm bg cg bf cf bm cm F W) (hb : Below W.heap.size W W') : LyS W1 gn fn gx fx mx g1 f1 m1 Bg Bf Bm bg cg bf cf bm cm F W' :=
  ⟨h.g.next hb, h.f.next hb, h.m.next hb, h.dg, h.df, h.lo, h.s.next hb⟩
theorem LyS.write (h : LyS W1 gn fn gx fx mx g1 f1 m1 Bg Bf Bm bg cg bf cf bm cm F W) (i j : Nat) (v : Bool) (hi : i < mx.length) (hj : j < fn) :
    LyS W1 gn fn gx fx mx g1 f1 m1 Bg Bf Bm bg cg bf cf bm cm (upd F i (upd (F i) j v)) (W.setCell ⟨bm i, j, none⟩ (.bool v)) :=
  ⟨h.g.other h.m i j _ hi (h.dg i hi) rfl, h.f.other h.m i j _ hi (h.df i hi) rfl, h.m.write i j v hi hj, h.dg, h.df, h.lo, ⟨h.s.b.setCell (by have := (h.m.rlt i hi).1; have := h.lo; simp; omega) _⟩⟩
end

theorem OwnTab.congr {W : World} {B g N : Nat} {ms bs cs : Nat → Nat} {f f' : Nat → Nat → Bool} (h : OwnTab W B g N ms bs cs f) (he : ∀ i, i < N → ∀ j, j < ms i → f i j = f' i j) : OwnTab W B g N ms bs cs f' :=
  ⟨h.t, fun i hi => by rw [← boolCells_congr (he i hi)]; exact h.r i hi, h.ne, h.gB⟩
theorem LyS.congr {W1 W : World} {gn fn : Nat} {gx fx mx : List Nat} {g1 f1 m1 Bg Bf Bm : Nat} {bg cg bf cf bm cm : Nat → Nat} {F F' : Nat → Nat → Bool} (h : LyS W1 gn fn gx fx mx g1 f1 m1 Bg Bf Bm bg cg bf cf bm cm F W) (he : ∀ i, i < mx.length → ∀ j, j < fn → F i j = F' i j) :
    LyS W1 gn fn gx fx mx g1 f1 m1 Bg Bf Bm bg cg bf cf bm cm F' W := ⟨h.g, h.f, h.m.congr he, h.dg, h.df, h.lo, h.s⟩
set_option maxRecDepth 100000 in
set_option maxHeartbeats 4000000 in
theorem refLay_any (gn gb go gc fn fb fo fc mb mo mc : Nat) (gx fx mx : List Nat) (w : World) (hg : VAt w gb go gc gn gx) (hf : VAt w fb fo fc fn fx) (hm : VAt w mb mo mc fn mx) (hlen : mx.length = fx.length) :
    Calls Try.prog 58 #[.agg #[.int .i64 (gn : Int), .slice (some ⟨gb, go, none⟩) gx.length gc], .agg #[.int .i64 (fn : Int), .slice (some ⟨fb, fo, none⟩) fx.length fc], .agg #[.int .i64 (fn : Int), .slice (some ⟨mb, mo, none⟩) mx.length mc]] w
      (CopyN (fn : Int) (ints (painted (layG gx gn fx mx) fx.length fn)) w) := by
  have l1 := hm.ok.l1
  have l0 := hm.ok.l0
  have lg := hg.ok.l1
  have lg0 := hg.ok.l0
  have n1 := hf.ok.n1
  have gn0 := hg.ok.n0
  have gn1 := hg.ok.n1
  have HG := Lib.hid hg
  have HF := Lib.hid hf
  have HM := Lib.hid hm
  have HL := Lib.hid hlen
  clear hg hf hm hlen
  go_enter Try.func58, Try.ntmps58
  go_wp2_with fail
  obtain ⟨W1, hW1⟩ : ∃ W1, (((w.alloc (dObj gn gb go gc gx)).alloc (dObj fn fb fo fc fx)).alloc (dObj fn mb mo mc mx)).alloc rObj = W1 := ⟨_, rfl⟩
  have hfa := res_facts3 (w := w) (w1 := W1) (n1 := gn) (b1 := gb) (o1 := go) (c1 := gc) (n2 := fn) (b2 := fb) (o2 := fo) (c2 := fc) (n3 := fn) (b3 := mb) (o3 := mo) (c3 := mc) (xs := gx) (ys := fx) (zs := mx) (by rw [← hW1]; exact Below.refl _ _)
  have hs1 : W1.heap.size = w.heap.size + 1 + 1 + 1 + 1 := by rw [← hW1]; simp
  unfold dObj rObj at hW1
  rw [hW1]
  clear hW1
  obtain ⟨q, dg, df, dm, hB1⟩ := hfa
  have HFa := Lib.hid (And.intro dg (And.intro df dm))
  have HQ := Lib.hid q
  have HB1 := Lib.hid hB1
  have Hs1 := Lib.hid hs1
  clear q dg df dm hB1 hs1
  have HK := Lib.hid (fun (W : World) (h : Since W1 W) => (⟨(HFa.out.1.below h.b HFa.out.1.lt).c0, (HFa.out.1.below h.b HFa.out.1.lt).c1, (HFa.out.2.1.below h.b HFa.out.2.1.lt).c0, (HFa.out.2.1.below h.b HFa.out.2.1.lt).c1, (HFa.out.2.2.below h.b HFa.out.2.2.lt).c0, (HFa.out.2.2.below h.b HFa.out.2.2.lt).c1, h⟩ :
    W.cell? ⟨w.heap.size, 0, none⟩ = some (.int .i64 (gn : Int)) ∧ W.cell? ⟨w.heap.size, 1, none⟩ = some (.slice (some ⟨gb, go, none⟩) gx.length gc) ∧ W.cell? ⟨w.heap.size + 1, 0, none⟩ = some (.int .i64 (fn : Int)) ∧ W.cell? ⟨w.heap.size + 1, 1, none⟩ = some (.slice (some ⟨fb, fo, none⟩) fx.length fc) ∧
    W.cell? ⟨w.heap.size + 1 + 1, 0, none⟩ = some (.int .i64 (fn : Int)) ∧ W.cell? ⟨w.heap.size + 1 + 1, 1, none⟩ = some (.slice (some ⟨mb, mo, none⟩) mx.length mc) ∧ Since W1 W))
  have H0 := Lib.hid (Since.mk ((Below.refl W1.heap.size W1).drew))
  have Hg := Lib.hid (fun (W : World) (h : Since W1 W) => Table_own gn gb go gc gx W (by omega) (by omega) (HG.out.below (HB1.out.trans (h.b.mono HB1.out.size))).at' (HG.out.below (HB1.out.trans (h.b.mono HB1.out.size))).lt HG.out.ok.lt')
  have Hf := Lib.hid (fun (W : World) (h : Since W1 W) => Table_own fn fb fo fc fx W (by omega) (by have := HL.out; omega) (HF.out.below (HB1.out.trans (h.b.mono HB1.out.size))).at' (HF.out.below (HB1.out.trans (h.b.mono HB1.out.size))).lt HF.out.ok.lt')
  have Hm := Lib.hid (fun (W : World) (h : Since W1 W) => Table_own fn mb mo mc mx W (by omega) (by omega) (HM.out.below (HB1.out.trans (h.b.mono HB1.out.size))).at' (HM.out.below (HB1.out.trans (h.b.mono HB1.out.size))).lt HM.out.ok.lt')
  go_upto_region 1 with fail
  go_cut [7, 8, 9] (fun s7 s8 s9 wx => ∃ (g1 c1 f1 c2 m1 c3 Bg Bf Bm : Nat) (bg cg bf cf bm cm : Nat → Nat), s7 = .slice (some ⟨g1, 0, none⟩) gx.length c1 ∧ s8 = .slice (some ⟨f1, 0, none⟩) fx.length c2 ∧ s9 = .slice (some ⟨m1, 0, none⟩) mx.length c3 ∧ LyS W1 gn fn gx fx mx g1 f1 m1 Bg Bf Bm bg cg bf cf bm cm (fun i j => bitN (nthN mx i) j) wx)
  case first =>
    go_region_held3 (fun W => W.cell? ⟨w.heap.size, 0, none⟩ = some (.int .i64 (gn : Int)) ∧ W.cell? ⟨w.heap.size, 1, none⟩ = some (.slice (some ⟨gb, go, none⟩) gx.length gc) ∧ W.cell? ⟨w.heap.size + 1, 0, none⟩ = some (.int .i64 (fn : Int)) ∧ W.cell? ⟨w.heap.size + 1, 1, none⟩ = some (.slice (some ⟨fb, fo, none⟩) fx.length fc) ∧
        W.cell? ⟨w.heap.size + 1 + 1, 0, none⟩ = some (.int .i64 (fn : Int)) ∧ W.cell? ⟨w.heap.size + 1 + 1, 1, none⟩ = some (.slice (some ⟨mb, mo, none⟩) mx.length mc) ∧ Since W1 W)
      ((first
        | exact HK.out _ H0.out
        | (refine HK.out _ (Since.next ?_ (by assumption)); go_split_ands; assumption)))
      ((first
        | (go_at_call 52; (with_reducible refine (Hg.out _ ?_).mono ?_); rotate_left 1; rintro e wg ⟨g1, c1, bg, cg, rfl, hTg, hbg⟩; rotate_left 1; (first | exact H0.out | (go_split_ands; assumption)))
        | (go_at_call 52; (with_reducible refine (Hf.out _ ?_).mono ?_); rotate_left 1; rintro e wf ⟨f1, c2, bf, cf, rfl, hTf, hbf⟩; rotate_left 1; (first | exact H0.out | (go_split_ands; assumption)))
        | (go_at_call 52; (with_reducible refine (Hm.out _ ?_).mono ?_); rotate_left 1; rintro e wm ⟨m1, c3, bm, cm, rfl, hTm, hbm⟩; rotate_left 1; (first | exact H0.out | (go_split_ands; assumption)))))
    all_goals (go_wp2_with fail; go_meet)
    all_goals exact ⟨g1, c1, f1, c2, m1, c3, _, _, _, bg, cg, bf, cf, bm, cm, rfl, rfl, rfl, LyS.mk
      (by first | exact hTg | exact hTg.next hbf | exact hTg.next hbm | exact (hTg.next hbf).next hbm | exact (hTg.next hbm).next hbf)
      (by first | exact hTf | exact hTf.next hbg | exact hTf.next hbm | exact (hTf.next hbg).next hbm | exact (hTf.next hbm).next hbg)
      (by first | exact hTm | exact hTm.next hbf | exact hTm.next hbg | exact (hTm.next hbf).next hbg | exact (hTm.next hbg).next hbf)
      (by
        intro i hi k hk e
        have x1 := hTg.rlt k hk
        have x2 := hTm.rlt i hi
        have x3 := hbg.size
        have x4 := hbm.size
        have x5 := hbf.size
        omega)
      (by
        intro i hi k hk e
        have x1 := hTf.rlt k hk
        have x2 := hTm.rlt i hi
        have x3 := hbg.size
        have x4 := hbm.size
        have x5 := hbf.size
        omega)
      (by
        have x3 := hbg.size
        have x4 := hbm.size
        have x5 := hbf.size
        have x6 : W1.drew.heap.size = W1.heap.size := rfl
        omega)
      (by go_split_ands; assumption)⟩
  case rest =>
    obtain ⟨g1, c1, f1, c2, m1, c3, Bg, Bf, Bm, bg, cg, bf, cf, bm, cm, rfl, rfl, rfl, hS⟩ := hcut
    clear HK H0 Hg Hf Hm HFa
    obtain ⟨G, hG⟩ : ∃ G, G = layG gx gn fx mx := ⟨_, rfl⟩
    obtain ⟨M, hM⟩ : ∃ M, M = (fun i j => bitN (nthN mx i) j) := ⟨_, rfl⟩
    have HGe := Lib.hid (show ∀ i j, G i j = if M i j then bitN (nthN fx i) j else bitN (nthN gx (i % gx.length)) (j % gn) by rw [hG, hM]; intro i j; rfl)
    have HGG := Lib.hid hG
    rw [← hM] at hS
    have HS := Lib.hid hS
    clear hG hM hS
    go_wp2_with fail
    go_loopw [10] (fun i wr => ∃ k : Nat, k ≤ mx.length ∧ i = .int .i64 k ∧ LyS W1 gn fn gx fx mx g1 f1 m1 Bg Bf Bm bg cg bf cf bm cm (lyF G M k 0) wr) (fun i _ => mx.length - (intOf i).toNat)
    case atStart => exact ⟨0, Nat.zero_le _, rfl, by rw [lyF_zero]; exact HS.out⟩
    case round =>
      obtain ⟨k, hk, rfl, hT⟩ := hrel
      have HT := Lib.hid hT
      clear hT HS
      by_cases hlt : k < mx.length
      · obtain ⟨wo, rfl⟩ : ∃ wo : World, wo = wr := ⟨_, rfl⟩
        go_wp2_with fail
        go_loopw [11] (fun j wi => ∃ l : Nat, l ≤ fn ∧ j = .int .i64 l ∧ LyS W1 gn fn gx fx mx g1 f1 m1 Bg Bf Bm bg cg bf cf bm cm (lyF G M k l) wi) (fun j _ => fn - (intOf j).toNat)
        case atStart => exact ⟨0, Nat.zero_le _, rfl, HT.out⟩
        case round =>
          obtain ⟨l, hl, rfl, hT2⟩ := hrel
          have mc1 := hT2.m.cell k hlt
          have HT2 := Lib.hid hT2
          have hk0 : (0 : Int) ≤ (k : Int) := by omega
          have hk1 : (k : Int) < (mx.length : Int) := by omega
          clear hT2 HT
          by_cases hll : l < fn
          · have hkf : k < fx.length := by have := HL.out; omega
            have mr := HT2.out.m.rcell k l hlt hll
            rw [lyF_at] at mr
            obtain ⟨mr1, mr2⟩ := mr
            have hl0 : (0 : Int) ≤ (l : Int) := by omega
            have hl1 : (l : Int) < (fn : Int) := by omega
            have HGk := Lib.hid (HGe.out k l)
            obtain ⟨A, hA⟩ : ∃ A, A = M k l := ⟨_, rfl⟩
            rw [← hA] at mr1 HGk
            clear hA
            cases A with
            | true =>
              have hv : G k l = bitN (nthN fx k) l := by rw [HGk.out]; rfl
              have fc := HT2.out.f.cell k hkf
              have fr := (HT2.out.f.rcell k l hkf hll).1
              have hkf1 : (k : Int) < (fx.length : Int) := by omega
              rw [← hv] at fr
              have hw := HT2.out.write k l (G k l) hlt hll
              rw [lyF_step] at hw
              have HW := Lib.hid (hw.next (below_drew1 _))
              obtain ⟨v, hve⟩ : ∃ v, v = G k l := ⟨_, rfl⟩
              rw [← hve] at fr HW
              clear hv hve hw
              go_wp2_with fail
              go_region
              all_goals go_wp2_with fail
              all_goals go_roundw
              all_goals first
                | (simp [intOf]; omega)
                | exact ⟨l + 1, by omega, by go_num, HW.out⟩
            | false =>
              have hv : G k l = bitN (nthN gx (k % gx.length)) (l % gn) := by rw [HGk.out]; rfl
              have e1 := tmod_eq (k : Int) gx.length (by omega)
              have e2 := tmod_eq (l : Int) gn (by omega)
              rw [Int.toNat_natCast] at e1 e2
              have g1' : k % gx.length < gx.length := Nat.mod_lt _ (by omega)
              have g2' : l % gn < gn := Nat.mod_lt _ (by omega)
              obtain ⟨I, hI⟩ : ∃ I, I = k % gx.length := ⟨_, rfl⟩
              obtain ⟨J, hJ⟩ : ∃ J, J = l % gn := ⟨_, rfl⟩
              rw [← hI] at hv e1 g1'
              rw [← hJ] at hv e2 g2'
              have gc1 := HT2.out.g.cell I g1'
              have gc0 := HT2.out.g.cell 0 (by omega)
              have gr := (HT2.out.g.rcell I J g1' g2').1
              have hs0 : ¬ gx.length = 0 := by omega
              have hs1 : ¬ gn = 0 := by omega
              have hi0 : (0 : Int) ≤ (I : Int) := by omega
              have hi1 : (I : Int) < (gx.length : Int) := by omega
              have hj0 : (0 : Int) ≤ (J : Int) := by omega
              have hj1 : (J : Int) < (gn : Int) := by omega
              have hz1 : (0 : Int) < (gx.length : Int) := by omega
              rw [← hv] at gr
              have hw := HT2.out.write k l (G k l) hlt hll
              rw [lyF_step] at hw
              have HW := Lib.hid (hw.next (below_drew1 _))
              obtain ⟨v, hve⟩ : ∃ v, v = G k l := ⟨_, rfl⟩
              rw [← hve] at gr HW
              clear hv hve hw hI hJ
              go_wp2_with fail
              go_region
              all_goals go_wp2_with fail
              all_goals go_roundw
              all_goals first
                | (simp [intOf]; omega)
                | exact ⟨l + 1, by omega, by go_num, HW.out⟩
          · obtain rfl : l = fn := by omega
            have HN := Lib.hid (HT2.out.congr (F' := lyF G M (k + 1) 0) (fun i hi j hj => by
              unfold lyF
              by_cases h : i < k
              · rw [if_pos (.inl h), if_pos (.inl (by omega))]
              · by_cases e : i = k
                · rw [if_pos (.inr ⟨e, hj⟩), if_pos (.inl (by omega))]
                · rw [if_neg (by omega), if_neg (by omega)]))
            go_wp2_with fail
            go_roundw
            case rel => exact ⟨k + 1, by omega, by go_num, HN.out⟩
            case measure => simp [intOf]; omega
      · obtain rfl : k = mx.length := by omega
        have HD := Lib.hid (Design_any m1 mx.length fn c3 (lyF G M mx.length 0) wr l0 (by omega) n1 (HT.out.m.tab fn (fun _ _ => rfl)))
        have HP := Lib.hid (show painted (lyF G M mx.length 0) mx.length fn = painted (layG gx gn fx mx) fx.length fn by
          rw [← HGG.out, ← HL.out]
          exact painted_congr fun i hi j hj => by simp [lyF, hi])
        have HB := Lib.hid HT.out.s.b
        clear HT
        go_wp2_with fail
        refine HD.out.mono ?_
        rintro e w4 ⟨p, cc, rfl, hR4, hp4, hb4⟩
        have HP4 := Lib.hid hp4
        have HB4 := Lib.hid (HB.out.trans (hb4.mono HB.out.size))
        have q := HQ.out.below HB4.out (by rw [Hs1.out]; omega)
        have k0 := q.c0
        have k1 := q.c1
        have k2 := q.f 0
        have k3 := q.f 1
        have HR4 := Lib.hid hR4
        clear hb4 q hR4 hp4 HD
        go_wp2_with fail
        have hs : w.heap.size + 4 ≤ wr.heap.size := by have := HB.out.size; have := Hs1.out; omega
        refine bodyPost_ret (v := .agg #[.int .i64 (fn : Int), .slice p (ints (painted (lyF G M mx.length 0) mx.length fn)).length cc]) ?_ rfl ⟨p, cc, by rw [HP.out], ?_, fun a e => by have := HP4.out a e; omega, ((HB1.out.trans (HB4.out.mono HB1.out.size)).setCell (by simp; omega) _).setCell (by simp; omega) _⟩
        · simp [results, Try.results58, go_sem, k0, k1]
        · rw [← HP.out]
          exact (HR4.out.set _ _ (fun a e => by have := HP4.out a e; simp; omega)).set _ _ (fun a e => by have := HP4.out a e; simp; omega)
end Go.Proofs.Ytjobbleabepaiaa
