/- A row of a table that is appended to; Beside and Reflect of the reference. -/
import Derived.Test.YtjobbleabepaiaaXK
import Derived.Test.YtjobbleabepaiaaWV
import Derived.Test.YtjobbleabepaiaaXV
namespace Go.Proofs.Ytjobbleabepaiaa
open Go.RowKit

theorem OwnTab.congrJ {W : World} {B g N : Nat} {ms bs cs : Nat → Nat} {f f' : Nat → Nat → Bool} (h : OwnTab W B g N ms bs cs f) (he : ∀ i, i < N → ∀ j, j < ms i → f i j = f' i j) : OwnTab W B g N ms bs cs f' :=
  ⟨h.t, fun i hi => by have := h.r i hi; rwa [boolCells_congr (he i hi)] at this, h.ne, h.gB⟩
/-- a row that was appended to, in its place -/
theorem OwnTab.app {W W5 : World} {B g N : Nat} {ms bs cs : Nat → Nat} {f : Nat → Nat → Bool} (h : OwnTab W B g N ms bs cs f) (i m' b' c' : Nat) (hi : i < N) (hg : W.grownBy W5 (some (bs i))) (hr : W5.ownsRow B 4 1 (.slice (some ⟨b', 0, none⟩) m' c') m' (boolCells (f i) m')) (hn : b' = bs i ∨ W.heap.size ≤ b') :
    OwnTab (W5.setCell ⟨g, i, none⟩ (.slice (some ⟨b', 0, none⟩) m' c')) B g N (upd ms i m') (upd bs i b') (upd cs i c') f := by
  obtain ⟨T, hT, h2, h3⟩ := h.t
  have hgl := h.lt
  have hne0 : ∀ {V : World} {b m c k : Nat} {xs : List Value}, V.heap[g]? = some (.cells T 77 (0, 0)) → V.ownsRow B 4 1 (.slice (some ⟨b, 0, none⟩) m c) k xs → g ≠ b := fun {V b m c k xs} hTV hx e => by
    obtain ⟨_, ⟨hx, _⟩ | ⟨g', cap, cur, e1, _, hh, _⟩⟩ := hx
    · simp at hx
    · simp at e1
      rw [← e1.1, ← e, hTV] at hh
      simp at hh
  have hT5 : W5.heap[g]? = some (.cells T 77 (0, 0)) := (hg.block g hgl (by simp; exact hne0 hT (h.r i hi))).trans hT
  have hne : ∀ {b m c k : Nat} {xs : List Value}, W5.ownsRow B 4 1 (.slice (some ⟨b, 0, none⟩) m c) k xs → g ≠ b := fun hx => hne0 hT5 hx
  have hk : ∀ j, j < N → j ≠ i → W5.ownsRow B 4 1 (.slice (some ⟨bs j, 0, none⟩) (ms j) (cs j)) (ms j) (boolCells (f j) (ms j)) := fun j hj e =>
    (h.r j hj).kept hg (.inr (by simp [Value.ownBlock]; intro h'; exact e (h.ne j i hj hi h')))
  have hb : ∀ j, j < N → j ≠ i → bs j ≠ b' := fun j hj e h' => by
    rcases hn with q | q
    · exact e (h.ne j i hj hi (h'.trans q))
    · have := (h.rlt j hj).2; omega
  refine ⟨⟨T.setIfInBounds i (.slice (some ⟨b', 0, none⟩) m' c'), ?_, by simpa using h2, fun j hj => ?_⟩, fun j hj => ?_, fun j l hj hl => ?_, h.gB⟩
  · simp [World.setCell, Array.getElem?_modify, hT5]
  · by_cases e : j = i
    · subst e
      rw [upd_at, upd_at, upd_at, Array.getElem?_setIfInBounds_self_of_lt (by omega)]
    · rw [upd_ne _ _ _ _ e, upd_ne _ _ _ _ e, upd_ne _ _ _ _ e, Array.getElem?_setIfInBounds_ne (fun h => e h.symm)]
      exact h3 j hj
  · by_cases e : j = i
    · subst e
      rw [upd_at, upd_at, upd_at]
      exact own_set hr _ _ (by simp [Value.ownBlock]; exact hne hr)
    · rw [upd_ne _ _ _ _ e, upd_ne _ _ _ _ e, upd_ne _ _ _ _ e]
      exact own_set (hk j hj e) _ _ (by simp [Value.ownBlock]; exact hne (hk j hj e))
  · by_cases e : j = i
    · subst e
      by_cases e2 : l = j
      · intro _; exact e2.symm
      · rw [upd_at, upd_ne _ _ _ _ e2]; intro h'; exact absurd h'.symm (hb l hl e2)
    · by_cases e2 : l = i
      · subst e2
        rw [upd_at, upd_ne _ _ _ _ e]; intro h'; exact absurd h' (hb j hj e)
      · rw [upd_ne _ _ _ _ e, upd_ne _ _ _ _ e2]; exact h.ne j l hj hl
theorem own_blk {W : World} {B e s b m c k : Nat} {xs : List Value} (h : W.ownsRow B e s (.slice (some ⟨b, 0, none⟩) m c) k xs) : ∃ cur, W.heap[b]? = some (.cells cur e (0, 0)) := by
  obtain ⟨_, ⟨hx, _⟩ | ⟨g, cap, cur, e1, _, hh, _⟩⟩ := h
  · simp at hx
  · simp at e1; exact ⟨cur, by rw [e1.1]; exact hh⟩
/-- a table that another one's row was appended to, and written into that table -/
theorem OwnTab.stay {W W5 : World} {B g N : Nat} {ms bs cs : Nat → Nat} {f : Nat → Nat → Bool} {r g' : Nat} (h : OwnTab W B g N ms bs cs f) (hg : W.grownBy W5 (some r)) (hr : ∀ i, i < N → bs i ≠ r) (hrg : g ≠ r) (hgg : g ≠ g') (hrows : ∀ i, i < N → bs i ≠ g') (p : Nat) (v : Value) :
    OwnTab (W5.setCell ⟨g', p, none⟩ v) B g N ms bs cs f := by
  obtain ⟨T, hT, h2, h3⟩ := h.t
  refine ⟨⟨T, ?_, h2, h3⟩, fun i hi => ?_, h.ne, h.gB⟩
  · rw [Below.heap_setCell _ _ _ _ hgg]; exact (hg.block g h.lt (by simp; exact hrg)).trans hT
  · exact own_set ((h.r i hi).kept hg (.inr (by simp [Value.ownBlock]; exact hr i hi))) _ _ (by simp [Value.ownBlock]; exact fun e => hrows i hi e.symm)
theorem OwnTab.grown_cell {W W5 : World} {B g N i : Nat} {ms bs cs : Nat → Nat} {f : Nat → Nat → Bool} (h : OwnTab W B g N ms bs cs f) (hi : i < N) (hg : W.grownBy W5 (some (bs i))) (k : Nat) (hk : k < N) : W5.cell? ⟨g, k, none⟩ = some (.slice (some ⟨bs k, 0, none⟩) (ms k) (cs k)) ∧ W5.frozen? ⟨g, k, none⟩ = false := by
  obtain ⟨T, hT, h2, h3⟩ := h.t
  have hne : some g ≠ some (bs i) := fun e => by
    obtain ⟨cur, hc⟩ := own_blk (h.r i hi)
    simp at e
    rw [← e, hT] at hc
    simp at hc
  have hT5 : W5.heap[g]? = some (.cells T 77 (0, 0)) := (hg.block g h.lt hne).trans hT
  refine ⟨?_, by simp [World.frozen?, hT5]⟩
  rw [cell_of_row W5 g k T 77 (0, 0) hT5]
  exact h3 k hk
/-- two tables -/
structure TwoO (W1 : World) (g1 g2 N bn B1 B2 : Nat) (b2 c2 : Nat → Nat) (F G : Nat → Nat → Bool) (ms b1 c1 : Nat → Nat) (W : World) : Prop where
  s : OwnTab W B1 g1 N ms b1 c1 F
  t : OwnTab W B2 g2 N (fun _ => bn) b2 c2 G
  d : ∀ i, i < N → ∀ k, k < N → b1 i ≠ b2 k
  ng : g2 ≠ g1
  lo : W1.heap.size ≤ B1
  b : Below W1.heap.size W1 W
section
variable {W1 W W5 : World} {g1 g2 N bn B1 B2 : Nat} {b2 c2 : Nat → Nat} {F G : Nat → Nat → Bool} {ms b1 c1 : Nat → Nat}
theorem TwoO.next (h : TwoO W1 g1 g2 N bn B1 B2 b2 c2 F G ms b1 c1 W) (hb : Below W.heap.size W W5) : TwoO W1 g1 g2 N bn B1 B2 b2 c2 F G ms b1 c1 W5 :=
  ⟨h.s.next hb, h.t.next hb, h.d, h.ng, h.lo, h.b.trans (hb.mono h.b.size)⟩
theorem TwoO.app (h : TwoO W1 g1 g2 N bn B1 B2 b2 c2 F G ms b1 c1 W) (i m' b' c' : Nat) (hi : i < N) (hg : W.grownBy W5 (some (b1 i))) (hr : W5.ownsRow B1 4 1 (.slice (some ⟨b', 0, none⟩) m' c') m' (boolCells (F i) m')) (hn : b' = b1 i ∨ W.heap.size ≤ b') :
    TwoO W1 g1 g2 N bn B1 B2 b2 c2 F G (upd ms i m') (upd b1 i b') (upd c1 i c') (W5.setCell ⟨g1, i, none⟩ (.slice (some ⟨b', 0, none⟩) m' c')) := by
  obtain ⟨T1, hT1, _⟩ := h.s.t
  obtain ⟨T2, hT2, _⟩ := h.t.t
  have hx1 := own_blk (h.s.r i hi)
  refine ⟨h.s.app i m' b' c' hi hg hr hn, h.t.stay hg (fun k hk e => h.d i hi k hk e.symm) (fun e => ?_) h.ng (fun k hk e => ?_) _ _, fun j hj k hk => ?_, h.ng, h.lo, ?_⟩
  · obtain ⟨cur, hc⟩ := hx1
    rw [← e, hT2] at hc
    simp at hc
  · obtain ⟨cur, hc⟩ := own_blk (h.t.r k hk)
    rw [e, hT1] at hc
    simp at hc
  · by_cases e : j = i
    · subst e
      rw [upd_at]
      rcases hn with q | q
      · rw [q]; exact h.d j hj k hk
      · have := (h.t.rlt k hk).2; omega
    · rw [upd_ne _ _ _ _ e]; exact h.d j hj k hk
  · refine (h.b.grown hg h.b.size (fun k hk => ?_)).setCell (by have := h.lo; have := h.s.gB; simp; omega) _
    have h1 := (h.s.rlt i hi).1
    have h2 := h.lo
    simp at hk
    omega
end
structure SinceJ (W1 W : World) : Prop where
  b : Below W1.heap.size W1 W
theorem SinceJ.next {W1 W W' : World} (h : SinceJ W1 W) (hb : Below W.heap.size W W') : SinceJ W1 W' := ⟨h.b.trans (hb.mono h.b.size)⟩
def lenTo (k a b : Nat) : Nat → Nat := fun i => if i < k then b else a
theorem lenTo_at (k a b : Nat) : lenTo k a b k = a := by simp [lenTo]
theorem lenTo_step (k a b : Nat) : upd (lenTo k a b) k b = lenTo (k + 1) a b := by
  funext i
  unfold upd lenTo
  by_cases e : i = k
  · subst e; rw [if_pos rfl, if_pos (by omega)]
  · rw [if_neg e]
    by_cases h : i < k
    · rw [if_pos h, if_pos (by omega)]
    · rw [if_neg h, if_neg (by omega)]
theorem hone (f : Nat → Bool) (k : Nat) : ∀ u ∈ boolCells f k, u.oneCell' = true := fun u h => by
  unfold boolCells at h
  obtain ⟨j, _, rfl⟩ := List.mem_map.1 h
  rfl
theorem own_le {W W' : World} (_hb : Below W.heap.size W W') {B g N : Nat} {ms bs cs : Nat → Nat} {f : Nat → Nat → Bool} (h : OwnTab W' B g N ms bs cs f) (hB : W.heap.size ≤ B) : ∀ k, k < N → W.heap.size ≤ bs k := fun k hk => by
  have := (h.rlt k hk).1; omega
theorem twoO_ab {W1 Wd wa wb : World} {g1 g2 N an bn x : Nat} {p1 q1 p2 q2 : Nat → Nat} {Fa F G : Nat → Nat → Bool} (h0 : SinceJ W1 Wd) (hTa : OwnTab wa Wd.heap.size g1 N (fun _ => an) p1 q1 Fa) (hba : Below Wd.heap.size Wd wa) (hTb : OwnTab wb wa.heap.size g2 N (fun _ => bn) p2 q2 G) (hbb : Below wa.heap.size wa wb)
    (hF : ∀ i, i < N → ∀ j, j < an → Fa i j = F i j) : TwoO W1 g1 g2 N bn Wd.heap.size wa.heap.size p2 q2 F G (lenTo 0 an x) p1 q1 wb := by
  have e : lenTo 0 an x = fun _ => an := by funext i; simp [lenTo]
  rw [e]
  refine ⟨(hTa.next hbb).congrJ hF, hTb, fun i hi k hk => ?_, ?_, h0.b.size, (h0.b.trans (hba.mono h0.b.size)).trans (hbb.mono (Nat.le_trans h0.b.size hba.size))⟩
  · have x1 := hTa.rlt i hi
    have x2 := hTb.rlt k hk
    omega
  · have x1 := hTa.lt
    have x2 := hTb.gB
    omega
theorem twoO_ba {W1 Wd wa wb : World} {g1 g2 N an bn x : Nat} {p1 q1 p2 q2 : Nat → Nat} {Fa F G : Nat → Nat → Bool} (h0 : SinceJ W1 Wd) (hTa : OwnTab wa wb.heap.size g1 N (fun _ => an) p1 q1 Fa) (hba : Below wb.heap.size wb wa) (hTb : OwnTab wb Wd.heap.size g2 N (fun _ => bn) p2 q2 G) (hbb : Below Wd.heap.size Wd wb)
    (hF : ∀ i, i < N → ∀ j, j < an → Fa i j = F i j) : TwoO W1 g1 g2 N bn wb.heap.size Wd.heap.size p2 q2 F G (lenTo 0 an x) p1 q1 wa := by
  have e : lenTo 0 an x = fun _ => an := by funext i; simp [lenTo]
  rw [e]
  refine ⟨hTa.congrJ hF, hTb.next hba, fun i hi k hk => ?_, ?_, Nat.le_trans h0.b.size hbb.size, (h0.b.trans (hbb.mono h0.b.size)).trans (hba.mono (Nat.le_trans h0.b.size hbb.size))⟩
  · have x1 := hTa.rlt i hi
    have x2 := hTb.rlt k hk
    omega
  · have x1 := hTa.gB
    have x2 := hTb.lt
    omega
set_option maxRecDepth 100000 in
set_option maxHeartbeats 4000000 in
theorem refBeside_any (an ab ao ac bn bb bo bc : Nat) (ax bx : List Nat) (w : World) (ha : VAt w ab ao ac an ax) (hb : VAt w bb bo bc bn bx) (hl : bx.length = ax.length) (hs : an + bn ≤ 24) :
    Calls Try.prog 48 #[.agg #[.int .i64 (an : Int), .slice (some ⟨ab, ao, none⟩) ax.length ac], .agg #[.int .i64 (bn : Int), .slice (some ⟨bb, bo, none⟩) bx.length bc]] w (CopyN ((an + bn : Nat) : Int) (ints (painted (beG an ax bx) ax.length (an + bn))) w) := by
  obtain ⟨i0, hi, hz0, hz1, hz2⟩ := info_parts tInfo4
  have l1 := ha.ok.l1
  have l0 := ha.ok.l0
  have n1 := ha.ok.n1
  have m1 := hb.ok.n1
  have m0 := hb.ok.n0
  have HA := Lib.hid ha
  have HBd := Lib.hid hb
  have HL := Lib.hid hl
  clear ha hb hl
  go_enter Try.func48, Try.ntmps48
  go_wp2_with fail
  obtain ⟨W1, hW1⟩ : ∃ W1, ((w.alloc (dObj an ab ao ac ax)).alloc (dObj bn bb bo bc bx)).alloc rObj = W1 := ⟨_, rfl⟩
  have hfa := res_facts2 (w := w) (w1 := W1) (n1 := an) (b1 := ab) (o1 := ao) (c1 := ac) (n2 := bn) (b2 := bb) (o2 := bo) (c2 := bc) (xs := ax) (ys := bx) (by rw [← hW1]; exact Below.refl _ _)
  have hs1 : W1.heap.size = w.heap.size + 1 + 1 + 1 := by rw [← hW1]; simp
  unfold dObj rObj at hW1
  rw [hW1]
  clear hW1
  obtain ⟨q, da, db, hB1⟩ := hfa
  have HFa := Lib.hid (And.intro da db)
  have HQ := Lib.hid q
  have HB1 := Lib.hid hB1
  have Hs1 := Lib.hid hs1
  clear q da db hB1 hs1
  have HK := Lib.hid (fun (W : World) (h : SinceJ W1 W) => (⟨(HFa.out.1.below h.b HFa.out.1.lt).c0, (HFa.out.1.below h.b HFa.out.1.lt).c1, (HFa.out.2.below h.b HFa.out.2.lt).c0, (HFa.out.2.below h.b HFa.out.2.lt).c1, h⟩ :
    W.cell? ⟨w.heap.size, 0, none⟩ = some (.int .i64 (an : Int)) ∧ W.cell? ⟨w.heap.size, 1, none⟩ = some (.slice (some ⟨ab, ao, none⟩) ax.length ac) ∧ W.cell? ⟨w.heap.size + 1, 0, none⟩ = some (.int .i64 (bn : Int)) ∧ W.cell? ⟨w.heap.size + 1, 1, none⟩ = some (.slice (some ⟨bb, bo, none⟩) bx.length bc) ∧ SinceJ W1 W))
  have H0 := Lib.hid (SinceJ.mk ((Below.refl W1.heap.size W1).drew))
  have Ha := Lib.hid (fun (W : World) (h : SinceJ W1 W) => Table_own an ab ao ac ax W (by omega) (by omega) (HA.out.below (HB1.out.trans (h.b.mono HB1.out.size))).at' (HA.out.below (HB1.out.trans (h.b.mono HB1.out.size))).lt HA.out.ok.lt')
  have Hb := Lib.hid (fun (W : World) (h : SinceJ W1 W) => Table_own bn bb bo bc bx W (by omega) (by have := HL.out; omega) (HBd.out.below (HB1.out.trans (h.b.mono HB1.out.size))).at' (HBd.out.below (HB1.out.trans (h.b.mono HB1.out.size))).lt HBd.out.ok.lt')
  have HFc := Lib.hid (show ∀ i, i < ax.length → ∀ j, j < an → bitN (nthN ax i) j = beG an ax bx i j from fun i _ j hj => by simp [beG, hj])
  go_upto_region 1 with fail
  go_cut [5, 6] (fun s5 s6 wx => ∃ (g1 k1 g2 k2 B1 B2 : Nat) (p1 q1 p2 q2 : Nat → Nat), s5 = .slice (some ⟨g1, 0, none⟩) ax.length k1 ∧ s6 = .slice (some ⟨g2, 0, none⟩) ax.length k2 ∧ TwoO W1 g1 g2 ax.length bn B1 B2 p2 q2 (beG an ax bx) (fun i j => bitN (nthN bx i) j) (lenTo 0 an (an + bn)) p1 q1 wx)
  case first =>
    go_region_held3 (fun W => W.cell? ⟨w.heap.size, 0, none⟩ = some (.int .i64 (an : Int)) ∧ W.cell? ⟨w.heap.size, 1, none⟩ = some (.slice (some ⟨ab, ao, none⟩) ax.length ac) ∧ W.cell? ⟨w.heap.size + 1, 0, none⟩ = some (.int .i64 (bn : Int)) ∧ W.cell? ⟨w.heap.size + 1, 1, none⟩ = some (.slice (some ⟨bb, bo, none⟩) bx.length bc) ∧ SinceJ W1 W)
      ((first
        | exact HK.out _ H0.out
        | (refine HK.out _ (SinceJ.next ?_ (by assumption)); go_split_ands; assumption)))
      ((first
        | (go_at_call 52; (with_reducible refine (Ha.out _ ?_).mono ?_); rotate_left 1; rintro e wa ⟨g1, k1, p1, q1, rfl, hTa, hba⟩; rotate_left 1; (first | exact H0.out | (go_split_ands; assumption)))
        | (go_at_call 52; (with_reducible refine (Hb.out _ ?_).mono ?_); rotate_left 1; rintro e wb ⟨g2, k2, p2, q2, rfl, hTb, hbb⟩; rotate_left 1; (first | exact H0.out | (go_split_ands; assumption)))))
    all_goals (go_wp2_with fail; go_meet)
    all_goals first
      | exact ⟨g1, k1, g2, k2, _, _, p1, q1, p2, q2, rfl, by rw [HL.out], twoO_ab H0.out hTa hba (by rw [← HL.out]; exact hTb) hbb HFc.out⟩
      | exact ⟨g1, k1, g2, k2, _, _, p1, q1, p2, q2, rfl, by rw [HL.out], twoO_ba H0.out hTa hba (by rw [← HL.out]; exact hTb) hbb HFc.out⟩
  case rest =>
    obtain ⟨g1, k1, g2, k2, B1, B2, p1, q1, p2, q2, rfl, rfl, hS⟩ := hcut
    clear HK H0 Ha Hb HFa HFc
    have HS := Lib.hid hS
    clear hS
    obtain ⟨F, hF⟩ : ∃ F, F = beG an ax bx := ⟨_, rfl⟩
    obtain ⟨G, hG⟩ : ∃ G : Nat → Nat → Bool, G = (fun i j => bitN (nthN bx i) j) := ⟨_, rfl⟩
    have HFG := Lib.hid (show ∀ k, boolCells (F k) (an + bn) = boolCells (F k) an ++ boolCells (fun j => G k (0 + j)) bn by
      intro k
      rw [boolCells_add]
      congr 1
      refine boolCells_congr fun j _ => ?_
      have hn : ¬ an + j < an := by omega
      rw [hF, hG]
      simp [beG, hn])
    rw [← hF, ← hG] at HS
    have HFF := Lib.hid hF
    clear hF hG
    go_wp2_with fail
    go_loopw [7] (fun i wr => ∃ (k : Nat) (p1 q1 : Nat → Nat), k ≤ ax.length ∧ i = .int .i64 k ∧ TwoO W1 g1 g2 ax.length bn B1 B2 p2 q2 F G (lenTo k an (an + bn)) p1 q1 wr) (fun i _ => ax.length - (intOf i).toNat)
    case atStart => exact ⟨0, p1, q1, Nat.zero_le _, rfl, HS.out⟩
    case round =>
      obtain ⟨k, p1, q1, hk, rfl, hT⟩ := hrel
      have HT := Lib.hid hT
      clear hT HS
      by_cases hlt : k < ax.length
      · have hk0 : (0 : Int) ≤ (k : Int) := by omega
        have hk1 : (k : Int) < (ax.length : Int) := by omega
        have hT1 := HT.out.next (below_drew1 wr)
        have hc1 := hT1.s.cell k hlt
        rw [lenTo_at] at hc1
        have hc2 := hT1.t.cell k hlt
        have hr1 := hT1.s.r k hlt
        rw [lenTo_at] at hr1
        have HT1 := Lib.hid hT1
        have HR1 := Lib.hid hr1
        have HN := Lib.hid (news_at (hT1.t.bools k hlt) 0 bn (by omega))
        obtain ⟨P1, hP1⟩ : ∃ P1, P1 = p1 k := ⟨_, rfl⟩
        obtain ⟨Q1, hQ1⟩ : ∃ Q1, Q1 = q1 k := ⟨_, rfl⟩
        obtain ⟨P2, hP2⟩ : ∃ P2, P2 = p2 k := ⟨_, rfl⟩
        obtain ⟨Q2, hQ2⟩ : ∃ Q2, Q2 = q2 k := ⟨_, rfl⟩
        rw [← hP1, ← hQ1] at hc1 HR1
        rw [← hP2, ← hQ2] at hc2
        rw [← hP2] at HN
        have HP1 := Lib.hid hP1
        clear hT1 hr1 hP1 hQ1 hP2 hQ2
        go_wp2_with fail
        go_region_law
          ((refine step_append_lies _ (by rfl) _ _ _ (by rfl) B1 4 i0 (.bool false) 1 1 Try.underlying77 hi hz0 hz1 hz2 rfl (by omega) (.slice (some ⟨P1, 0, none⟩) an Q1) an (boolCells (F k) an) (by rfl) HR1.out ⟨P2, 0, none⟩ bn Q2 (boolCells (fun j => G k (0 + j)) bn) (by rfl) (by rw [boolCells_len]; omega) HN.out (hone _ _) (by omega) (by unfold maxLen; omega) (by omega) (Nat.le_trans HT1.out.s.gB (Nat.le_of_lt HT1.out.s.lt)) wr.drew.heap.size (by rfl) ?_; intro g5 cap w5 hown5 hgrow5 hat5 hglt5; have hg5 : wr.drew.grownBy w5 (some (p1 k)) := (by rw [← HP1.out]; exact hgrow5); have hcf := HT1.out.s.grown_cell hlt hg5 k hlt; have hc5 := hcf.1; have hf5 := hcf.2; clear hcf))
        all_goals
          (rw [← HFG.out] at hown5
           have hn5 := HT1.out.app k (an + bn) g5 cap hlt hg5 hown5 (hat5.imp (fun q => by rw [← HP1.out]; simpa [Value.ownBlock] using q.symm) (fun q => by rw [q]; exact Nat.le_refl _))
           rw [lenTo_step] at hn5
           have HN5 := Lib.hid hn5
           clear hn5 hown5 hgrow5 hat5 hg5 hc5 hf5)
        all_goals go_wp2
        all_goals go_roundw
        all_goals first
          | (simp [intOf]; omega)
          | exact ⟨k + 1, _, _, by omega, by go_num, HN5.out⟩
      · obtain rfl : k = ax.length := by omega
        have hfull : ∀ i, i < ax.length → lenTo ax.length an (an + bn) i = an + bn := fun i hi => by simp [lenTo, hi]
        have HD := Lib.hid (Design_any g1 ax.length (an + bn) k1 F wr l0 (by omega) hs (HT.out.s.tab (an + bn) hfull))
        have HB := Lib.hid HT.out.b
        clear HT hfull
        go_wp2_with fail
        refine HD.out.mono ?_
        rintro e w4 ⟨p, cc, rfl, hR4, hp4, hb4⟩
        have HP4 := Lib.hid hp4
        have HB4 := Lib.hid (HB.out.trans (hb4.mono HB.out.size))
        have q := HQ.out.below HB4.out (by rw [Hs1.out]; omega)
        have k0 := q.c0
        have k1 := q.c1
        have k2 := q.f 0
        have k3 := q.f 1
        have HR4 := Lib.hid hR4
        clear hb4 q hR4 hp4 HD
        go_wp2_with fail
        have hs : w.heap.size + 3 ≤ wr.heap.size := by have := HB.out.size; have := Hs1.out; omega
        refine bodyPost_ret (v := .agg #[.int .i64 ((an + bn : Nat) : Int), .slice p (ints (painted F ax.length (an + bn))).length cc]) ?_ rfl ⟨p, cc, by rw [HFF.out], ?_, fun a e => by have := HP4.out a e; omega, ((HB1.out.trans (HB4.out.mono HB1.out.size)).setCell (by simp; omega) _).setCell (by simp; omega) _⟩
        · simp [results, Try.results48, go_sem, k0, k1]
        · rw [← HFF.out]
          exact (HR4.out.set _ _ (fun a e => by have := HP4.out a e; simp; omega)).set _ _ (fun a e => by have := HP4.out a e; simp; omega)
theorem upd_upd {α : Type} (h : Nat → α) (k : Nat) (x y : α) : upd (upd h k x) k y = upd h k y := by
  funext i; unfold upd
  by_cases e : i = k
  · rw [if_pos e, if_pos e]
  · rw [if_neg e, if_neg e, if_neg e]
theorem reflG_far (xs : List Nat) (n i j : Nat) (hn : 2 < n) (_hj : j < n - 2) : reflG xs n i (n + j) = reflG xs n i (n - 2 - j) := by
  have h1 : n ≤ n + j := by omega
  have h2 : ¬ n ≤ n - 2 - j := by omega
  unfold reflG reflHooks
  rw [if_pos hn, if_pos h1, if_neg h2]
  congr 1
  omega
set_option maxRecDepth 100000 in
set_option maxHeartbeats 4000000 in
theorem refReflect_any (n b off c : Nat) (xs : List Nat) (w : World) (hv : VAt w b off c n xs) (hK : reflHooks n ≤ 24) :
    Calls Try.prog 50 #[.agg #[.int .i64 (n : Int), .slice (some ⟨b, off, none⟩) xs.length c]] w (CopyN ((reflHooks n : Nat) : Int) (ints (painted (reflG xs n) xs.length (reflHooks n))) w) := by
  obtain ⟨i0, hi, hz0, hz1, hz2⟩ := info_parts tInfo4
  have l1 := hv.ok.l1
  have l0 := hv.ok.l0
  have n1 := hv.ok.n1
  have n0 := hv.ok.n0
  obtain ⟨K, hKe⟩ : ∃ K, K = reflHooks n := ⟨_, rfl⟩
  have hKn : K = n + (n - 2) := by rw [hKe]; unfold reflHooks; split <;> omega
  rw [← hKe] at hK ⊢
  have HKe := Lib.hid hKe
  have HKn := Lib.hid hKn
  obtain ⟨F, hF⟩ : ∃ F, F = reflG xs n := ⟨_, rfl⟩
  have HF := Lib.hid hF
  have HFf := Lib.hid (show ∀ i j, j < n - 2 → F i (n + j) = F i (n - 2 - j) from fun i j hj => by rw [hF]; exact reflG_far xs n i j (by omega) hj)
  have HFc := Lib.hid (show ∀ i, i < xs.length → ∀ j, j < n → bitN (nthN xs i) j = F i j from fun i _ j hj => by rw [hF]; unfold reflG; rw [if_neg (by omega)])
  rw [← hF]
  have HV := Lib.hid hv
  clear hv hKe hKn hF
  go_enter Try.func50, Try.ntmps50
  go_wp2_with fail
  obtain ⟨W1, hW1e⟩ : ∃ W1, W1 = (w.alloc (.cells #[.int .i64 (n : Int), .slice (some ⟨b, off, none⟩) xs.length c] 24)).alloc (.cells #[.int .i64 0, .slice none 0 0] 24) := ⟨_, rfl⟩
  have hB1 : Below w.heap.size w W1 := by rw [hW1e]; exact below2 w _ _
  have hf := res_facts (w := w) (w1 := W1) (n := n) (b := b) (off := off) (c := c) (xs := xs) (by rw [hW1e]; exact Below.refl _ _)
  have hs1 : W1.heap.size = w.heap.size + 2 := by rw [hW1e]; simp
  rw [← hW1e]
  have HB1 := Lib.hid hB1
  have HQ := Lib.hid hf.1
  have HDb := Lib.hid hf.2.1
  have Hs1 := Lib.hid hs1
  clear hW1e hB1 hf hs1
  have hV1 := HV.out.below HB1.out
  have HV1 := Lib.hid hV1
  clear hV1
  refine (Table_own n b off c xs W1 (by omega) (by omega) HV1.out.at' HV1.out.lt HV1.out.ok.lt').mono ?_
  rintro e w2 ⟨g, gc, bs, cs, rfl, hT, hb2⟩
  have HT := Lib.hid (show OwnTab w2 W1.heap.size g xs.length (lenTo 0 n K) bs cs F by
    have e : lenTo 0 n K = fun _ => n := by funext i; simp [lenTo]
    rw [e]; exact hT.congrJ HFc.out)
  have HB2 := Lib.hid hb2
  clear hT hb2
  go_wp2_with fail
  go_loopw [4, 5] (fun i _ wr => ∃ k : Nat, k ≤ xs.length ∧ i = .int .i64 k ∧ ∃ bs cs, OwnTab wr W1.heap.size g xs.length (lenTo k n K) bs cs F ∧ Below W1.heap.size W1 wr) (fun i _ _ => xs.length - (intOf i).toNat)
  case atStart => exact ⟨0, Nat.zero_le _, rfl, bs, cs, HT.out, HB2.out⟩
  case round =>
    obtain ⟨k, hk, rfl, bs, cs, hT, hB⟩ := hrel
    have HT := Lib.hid hT
    have HB := Lib.hid hB
    clear hT hB
    by_cases hlt : k < xs.length
    · obtain ⟨wo, rfl⟩ : ∃ wo : World, wo = wr := ⟨_, rfl⟩
      have d0 := (HDb.out.below HB.out HDb.out.lt).c0
      have HT0 := Lib.hid (show OwnTab wo W1.heap.size g xs.length (upd (lenTo k n K) k (n + 0)) bs cs F by
        have e : upd (lenTo k n K) k (n + 0) = lenTo k n K := by
          funext i; unfold upd
          by_cases e : i = k
          · rw [if_pos e, e, lenTo_at, Nat.add_zero]
          · rw [if_neg e]
        rw [e]; exact HT.out)
      go_wp2_with fail
      go_loopw [5] (fun h wi => ∃ (j : Nat) (bs cs : Nat → Nat), j ≤ n - 2 ∧ h = .int .i64 ((n : Int) - 2 - (j : Int)) ∧ OwnTab wi W1.heap.size g xs.length (upd (lenTo k n K) k (n + j)) bs cs F ∧ Below W1.heap.size W1 wi) (fun h _ => (intOf h).toNat)
      case atStart => exact ⟨0, bs, cs, Nat.zero_le _, by simp, HT0.out, HB.out⟩
      case round =>
        obtain ⟨j, bs, cs, hj, rfl, hT2, hB2⟩ := hrel
        by_cases hjl : j < n - 2
        · obtain ⟨H, hH⟩ : ∃ H : Nat, H = n - 2 - j := ⟨_, rfl⟩
          have hHe : (n : Int) - 2 - (j : Int) = (H : Int) := by omega
          have HHe := Lib.hid hHe
          have hk0 : (0 : Int) ≤ (k : Int) := by omega
          have hk1 : (k : Int) < (xs.length : Int) := by omega
          have hH0 : (0 : Int) ≤ (H : Int) := by omega
          have hH1 : (1 : Int) ≤ (H : Int) := by omega
          have hH2 : (H : Int) < ((n + j : Nat) : Int) := by omega
          have hHn : H < n + j := by omega
          have hT1 := hT2.next (below_new1 wr (.cells #[.bool (F k H)] 4) |>.drew)
          have hcd := hT2.cell k hlt
          have hbd := (hT2.bools k hlt).c H (by rw [upd_at]; exact hHn)
          have hPl := (hT2.rlt k hlt).2
          have hr1 := hT1.r k hlt
          have hft : F k H = F k (n + j) := by rw [hH]; exact (HFf.out k j hjl).symm
          rw [upd_at] at hcd hr1
          have HT1 := Lib.hid hT1
          have HR1 := Lib.hid hr1
          have HB2 := Lib.hid hB2
          obtain ⟨P, hP⟩ : ∃ P, P = bs k := ⟨_, rfl⟩
          obtain ⟨Q, hQ⟩ : ∃ Q, Q = cs k := ⟨_, rfl⟩
          obtain ⟨v, hv⟩ : ∃ v, v = F k H := ⟨_, rfl⟩
          have hNm : n + j ≤ 60 := by omega
          obtain ⟨M, hM⟩ : ∃ M, M = n + j := ⟨_, rfl⟩
          rw [← hP, ← hQ, ← hM] at hcd HR1
          rw [← hP, ← hv] at hbd
          rw [← hP] at hPl
          rw [← hv] at HT1 HR1
          rw [← hM] at hNm hH2
          have HP := Lib.hid hP
          have HM := Lib.hid hM
          have HVv := Lib.hid (show v = F k M by rw [hv, hft, hM])
          have hgB := HT1.out.gB
          have hgl : g < wr.heap.size := hT2.lt
          clear hT1 hr1 hP hQ hv hM hT2 hB2 hHe hH hft HT HT0 d0
          rw [HHe.out]
          go_wp2_with fail
          go_region_law
            ((refine step_append_lies _ (by rfl) _ _ _ (by rfl) W1.heap.size 4 i0 (.bool false) 1 1 Try.underlying77 hi hz0 hz1 hz2 rfl (by omega) (.slice (some ⟨P, 0, none⟩) M Q) M (boolCells (F k) M) (by rfl) HR1.out ⟨wr.heap.size, 0, none⟩ 1 1 [.bool v] (by rfl) (by rfl) (World.news_of_block (cs := #[.bool v]) (t := 4) (fr := (0, 0)) (heap_alloc_new wr _)) (by simp [Value.oneCell']) (by omega) (by unfold maxLen; omega) (by omega) (Nat.le_trans HT1.out.gB (Nat.le_of_lt HT1.out.lt)) _ (by rfl) ?_; intro g5 cap w5 hown5 hgrow5 hat5 hglt5; have hg5 : ((wr.alloc (.cells #[.bool v] 4)).drew).grownBy w5 (some (bs k)) := (by rw [← HP.out]; exact hgrow5); have hcf := HT1.out.grown_cell hlt hg5 k hlt; have hc5 := hcf.1; have hf5 := hcf.2; clear hcf))
          all_goals
            (rw [HVv.out, ← boolCells_succ] at hown5
             have hn5 := HT1.out.app k (M + 1) g5 cap hlt hg5 hown5 (hat5.imp (fun q => by rw [← HP.out]; simpa [Value.ownBlock] using q.symm) (fun q => by rw [q]; exact Nat.le_refl _))
             rw [upd_upd] at hn5
             have HN5 := Lib.hid hn5
             have HB5 := Lib.hid (((HB2.out.alloc HB2.out.size (.cells #[.bool v] 4)).drew.grown hg5 (Nat.le_trans HT1.out.gB (Nat.le_of_lt HT1.out.lt)) (fun q hq => by simp at hq; subst hq; exact (HT1.out.rlt k hlt).1)).setCell (p := ⟨g, k, none⟩) hgB (.slice (some ⟨g5, 0, none⟩) (M + 1) cap))
             clear hn5 hown5 hgrow5 hat5 hg5 hc5 hf5)
          all_goals go_wp2
          all_goals go_roundw
          all_goals first
            | (simp [intOf]; omega)
            | exact ⟨j + 1, _, _, by omega, by congr 1; have := HHe.out; omega, by rw [show n + (j + 1) = M + 1 by have := HM.out; omega]; exact HN5.out, HB5.out⟩
        · obtain ⟨z, hz⟩ : ∃ z : Int, z = (n : Int) - 2 - (j : Int) := ⟨_, rfl⟩
          have hzd : decide ((1 : Int) ≤ z) = false := by rw [decide_eq_false_iff_not]; omega
          have HN := Lib.hid (show OwnTab wr W1.heap.size g xs.length (lenTo (k + 1) n K) bs cs F by
            have e : n + j = K := by have := HKn.out; omega
            rw [e, lenTo_step] at hT2; exact hT2)
          have HB2 := Lib.hid hB2
          rw [← hz]
          clear hT2 hB2 hz HT HT0
          go_wp2_with fail
          go_roundw
          case rel => exact ⟨k + 1, by omega, by go_num, bs, cs, HN.out, HB2.out⟩
          case measure => simp [intOf]; omega
    · obtain rfl : k = xs.length := by omega
      have hfull : ∀ i, i < xs.length → lenTo xs.length n K i = K := fun i hi => by simp [lenTo, hi]
      have HD := Lib.hid (Design_any g xs.length K gc F wr HV1.out.ok.l0 (by omega) hK (HT.out.tab K hfull))
      clear hfull
      go_wp2_with fail
      refine HD.out.mono ?_
      rintro e w4 ⟨p, cc, rfl, hR4, hp4, hb4⟩
      have HP4 := Lib.hid hp4
      have HB4 := Lib.hid (HB.out.trans (hb4.mono HB.out.size))
      have q := HQ.out.below HB4.out (by rw [Hs1.out]; omega)
      have k0 := q.c0
      have k1 := q.c1
      have k2 := q.f 0
      have k3 := q.f 1
      have HR4 := Lib.hid hR4
      clear hb4 q hR4 hp4
      go_wp2_with fail
      have hs : w.heap.size + 2 ≤ wr.heap.size := by have := HB.out.size; have := Hs1.out; omega
      refine bodyPost_ret (v := .agg #[.int .i64 (K : Int), .slice p (ints (painted F xs.length K)).length cc]) ?_ rfl ⟨p, cc, rfl, ?_, fun a e => by have := HP4.out a e; omega, ((HB1.out.trans (HB4.out.mono HB1.out.size)).setCell (by simp) _).setCell (by simp) _⟩
      · simp [results, Try.results50, go_sem, k0, k1]
      · exact (HR4.out.set _ _ (fun a e => by have := HP4.out a e; simp; omega)).set _ _ (fun a e => by have := HP4.out a e; simp; omega)
end Go.Proofs.Ytjobbleabepaiaa
