/- Concat of two rows. -/
import Derived.Test.YtjobbleabepaiaaJA
import Derived.Deep.RegionLaw
import Derived.Deep.AppendLies
namespace Go.Proofs.Ytjobbleabepaiaa
open Go.RowKit Go.Shelf

/-- two rows, as Concat takes them -/
structure TwoS (W : World) (X b1 o1 c1 b2 o2 c2 : Nat) (xs ys : List Nat) : Prop where
  s0 : W.cell? ⟨X, 0, none⟩ = some (.slice (some ⟨b1, o1, none⟩) xs.length c1)
  s1 : W.cell? ⟨X, 1, none⟩ = some (.slice (some ⟨b2, o2, none⟩) ys.length c2)
  l0 : X < W.heap.size
  r1 : NatsAt W b1 o1 xs
  r2 : NatsAt W b2 o2 ys
  m1 : b1 < W.heap.size
  m2 : b2 < W.heap.size
theorem TwoS.below {W W' : World} {X b1 o1 c1 b2 o2 c2 : Nat} {xs ys : List Nat} (h : TwoS W X b1 o1 c1 b2 o2 c2 xs ys) (hb : Below W.heap.size W W') : TwoS W' X b1 o1 c1 b2 o2 c2 xs ys :=
  ⟨(hb.cell (p := ⟨X, 0, none⟩) h.l0).trans h.s0, (hb.cell (p := ⟨X, 1, none⟩) h.l0).trans h.s1, Nat.lt_of_lt_of_le h.l0 hb.size, h.r1.below hb h.m1, h.r2.below hb h.m2, Nat.lt_of_lt_of_le h.m1 hb.size, Nat.lt_of_lt_of_le h.m2 hb.size⟩
theorem nats_news {W : World} {b off : Nat} {xs : List Nat} (h : NatsAt W b off xs) : ∀ j u, (xs.map natV)[j]? = some u → W.cell? ((⟨b, off, none⟩ : Addr).add j) = some u := fun j u hu => by
  rw [addr_add]
  rw [List.getElem?_map] at hu
  obtain ⟨x, hx, rfl⟩ := Option.map_eq_some_iff.1 hu
  obtain ⟨hj, e⟩ := List.getElem?_eq_some_iff.1 hx
  rw [h j hj, nthN_get xs j hj, e]
  rfl
theorem nats_one (xs : List Nat) : ∀ u ∈ xs.map natV, u.oneCell' = true := fun u h => by
  obtain ⟨j, _, rfl⟩ := List.mem_map.1 h
  rfl

set_option maxRecDepth 100000 in
set_option maxHeartbeats 2000000 in
theorem Concat_two (X b1 o1 c1 b2 o2 c2 : Nat) (xs ys : List Nat) (w : World) (h : TwoS w X b1 o1 c1 b2 o2 c2 xs ys) (hx0 : 0 < xs.length) (hx : xs.length ≤ 60) (hy0 : 0 < ys.length) (hy : ys.length ≤ 60) :
    Calls Try.prog 87 #[.slice (some ⟨X, 0, none⟩) 2 2] w fun e w' => ∃ g c, e = .returned (.slice (some ⟨g, 0, none⟩) (xs.length + ys.length) c) ∧ w'.ownsRow w.heap.size 3 1 (.slice (some ⟨g, 0, none⟩) (xs.length + ys.length) c) (xs.length + ys.length) (xs.map natV ++ ys.map natV) ∧ Below w.heap.size w w' := by
  obtain ⟨i0, hi, hz0, hz1, hz2⟩ := info_parts Try.info3
  have HS := Lib.hid h
  clear h
  obtain ⟨l, hl⟩ : ∃ l, l = xs.length := ⟨_, rfl⟩
  obtain ⟨m, hm⟩ : ∃ m, m = ys.length := ⟨_, rfl⟩
  have e1 : (l : Int) + (m : Int) = ((l + m : Nat) : Int) := by omega
  have E1 := Lib.hid e1
  rw [← hl] at hx0 hx ⊢
  rw [← hm] at hy0 hy ⊢
  have s0 := HS.out.s0
  have s1 := HS.out.s1
  have Hl := Lib.hid hl
  have Hm := Lib.hid hm
  have HK := Lib.hid (fun (W : World) (hb : Below w.heap.size w W) => (show W.cell? ⟨X, 0, none⟩ = some (.slice (some ⟨b1, o1, none⟩) l c1) ∧ W.cell? ⟨X, 1, none⟩ = some (.slice (some ⟨b2, o2, none⟩) m c2) by rw [hl, hm]; exact ⟨(HS.out.below hb).s0, (HS.out.below hb).s1⟩))
  clear hl hm e1 s0 s1
  go_enter Try.func87, Try.ntmps87
  go_wp2_with fail
  go_loopw [3, 5, 11] (fun z _ i wr => ((i = .int .i64 0 ∧ z = .int .i64 0) ∨ (i = .int .i64 1 ∧ z = .int .i64 l) ∨ (i = .int .i64 2 ∧ z = .int .i64 ((l : Int) + (m : Int)))) ∧ Below w.heap.size w wr) (fun _ _ i _ => 2 - (intOf i).toNat)
  case atStart => exact ⟨.inl ⟨rfl, rfl⟩, Below.refl _ _⟩
  case round =>
    obtain ⟨hc, hB⟩ := hrel
    have HB := Lib.hid hB
    obtain ⟨s0, s1⟩ := HK.out _ hB
    clear hB
    rcases hc with ⟨rfl, rfl⟩ | ⟨rfl, rfl⟩ | ⟨rfl, rfl⟩
    · go_wp2_with fail
      go_roundw
      case rel => exact ⟨.inr (.inl ⟨rfl, rfl⟩), HB.out⟩
      case measure => simp [intOf]
    · go_wp2_with fail
      go_roundw
      case rel => exact ⟨.inr (.inr ⟨rfl, rfl⟩), HB.out⟩
      case measure => simp [intOf]
    · go_wp2_with fail
      rw [E1.out]
      refine (grow_nil (l + m) _ (by omega) (by omega)).mono ?_
      rintro e w2 ⟨v, rfl, hv, hb2⟩
      have HV := Lib.hid (own_base hv HB.out.size)
      have HB2 := Lib.hid (HB.out.trans (hb2.mono HB.out.size))
      clear hv hb2 s0 s1
      go_wp2_with fail
      go_loopw [6, 8, 27] (fun v _ i wr => ((i = .int .i64 0 ∧ wr.ownsRow w.heap.size 3 1 v 0 []) ∨ (i = .int .i64 1 ∧ ∃ g c, v = .slice (some ⟨g, 0, none⟩) l c ∧ wr.ownsRow w.heap.size 3 1 v l (xs.map natV)) ∨ (i = .int .i64 2 ∧ ∃ g c, v = .slice (some ⟨g, 0, none⟩) (l + m) c ∧ wr.ownsRow w.heap.size 3 1 v (l + m) (xs.map natV ++ ys.map natV))) ∧ Below w.heap.size w wr) (fun _ _ i _ => 2 - (intOf i).toNat)
      case atStart => exact ⟨.inl ⟨rfl, HV.out⟩, HB2.out⟩
      case round =>
        obtain ⟨hc, hB⟩ := hrel
        have HB3 := Lib.hid hB
        obtain ⟨s0, s1⟩ := HK.out _ hB
        clear hB
        rcases hc with ⟨rfl, hv⟩ | ⟨rfl, g, c, rfl, hv⟩ | ⟨rfl, g, c, rfl, hv⟩
        · have HV3 := Lib.hid hv
          clear hv
          go_wp2_with (at_builtin; refine Shut.out ?_)
          unfold Shut
          refine wpList_append_lies _ rfl _ _ 22 rfl w.heap.size 3 i0 (.int .i64 0) 1 8 Try.underlying22 hi hz0 hz1 hz2 rfl (by omega) _ 0 [] rfl HV3.out ⟨b1, o1, none⟩ l c1 (xs.map natV) rfl (by simp [Hl.out]) (nats_news (HS.out.below HB3.out).r1) (nats_one _) hx0 (by unfold maxLen; omega) (by omega) HB3.out.size _ rfl ?_
          intro g5 cap w5 hown5 hgrow5 hat5 hglt5
          have HN5 := Lib.hid hown5
          have HB5 := Lib.hid (HB3.out.grown hgrow5 HB3.out.size (fun k hk => (HV3.out.lt k hk).1))
          clear hown5 hgrow5 hat5
          go_wp2_with fail
          go_roundw
          case rel => exact ⟨.inr (.inl ⟨rfl, g5, cap, by first | rfl | rw [Nat.zero_add], by have := HN5.out; rw [Nat.zero_add, List.nil_append] at this; simpa using this⟩), HB5.out⟩
          case measure => simp [intOf]
        · have HV3 := Lib.hid hv
          clear hv
          go_wp2_with (at_builtin; refine Shut.out ?_)
          unfold Shut
          refine wpList_append_lies _ rfl _ _ 22 rfl w.heap.size 3 i0 (.int .i64 0) 1 8 Try.underlying22 hi hz0 hz1 hz2 rfl (by omega) (.slice (some ⟨g, 0, none⟩) l c) l (xs.map natV) rfl HV3.out ⟨b2, o2, none⟩ m c2 (ys.map natV) rfl (by simp [Hm.out]) (nats_news (HS.out.below HB3.out).r2) (nats_one _) hy0 (by unfold maxLen; omega) (by omega) HB3.out.size _ rfl ?_
          intro g5 cap w5 hown5 hgrow5 hat5 hglt5
          have HN5 := Lib.hid hown5
          have HB5 := Lib.hid (HB3.out.grown hgrow5 HB3.out.size (fun k hk => (HV3.out.lt k hk).1))
          clear hown5 hgrow5 hat5
          go_wp2_with fail
          go_roundw
          case rel => exact ⟨.inr (.inr ⟨rfl, g5, cap, rfl, HN5.out⟩), HB5.out⟩
          case measure => simp [intOf]
        · have HV3 := Lib.hid hv
          clear hv
          go_wp2_with fail
          go_ret
          exact ⟨g, c, rfl, HV3.out, HB3.out⟩
/-- a new design that is appended together, and no error -/
def OkC (n : Nat) (ys : List Nat) (w : World) (e : Ending) (w' : World) : Prop :=
  ∃ p c, e = .returned (.tuple #[.agg #[.int .i64 (n : Int), .slice p ys.length c], .int .i64 0]) ∧ Reads w' (.slice p ys.length c) (ints ys) ∧ (∀ a, p = some a → w.heap.size ≤ a.block) ∧ Below w.heap.size w w'
theorem own_readsJ {W : World} {B g c : Nat} {ys : List Nat} (hl : ys.length ≤ 1000) (h : W.ownsRow B 3 1 (.slice (some ⟨g, 0, none⟩) ys.length c) ys.length (ys.map natV)) : Reads W (.slice (some ⟨g, 0, none⟩) ys.length c) (ints ys) := by
  refine ⟨_, c, by rw [ints_len], by rw [ints_len]; omega, fun _ => ⟨g, 0, rfl, (h.lt g rfl).2, fun i hi => ?_⟩⟩
  rw [ints_len] at hi
  have := h.cellAt i (by simpa using hi)
  rw [Nat.zero_add]
  rw [this]
  simp [natV, ints, nthI, hi]
set_option maxRecDepth 100000 in
set_option maxHeartbeats 2000000 in
theorem Above_ok (n ab ao ac bb bo bc : Nat) (ax bx : List Nat) (w : World) (ha : VAt w ab ao ac n ax) (hb : VAt w bb bo bc n bx) (hs : ax.length + bx.length ≤ 60) :
    Calls Try.prog 45 #[.agg #[.int .i64 (n : Int), .slice (some ⟨ab, ao, none⟩) ax.length ac], .agg #[.int .i64 (n : Int), .slice (some ⟨bb, bo, none⟩) bx.length bc]] w (OkC n (ax ++ bx) w) := by
  have Hc := fun o1 o2 o3 => check_res23 ⟨n, some ⟨ab, ao, none⟩, ac, ints ax⟩ ⟨n, some ⟨bb, bo, none⟩, bc, ints bx⟩ w o1 o2 o3 (by unfold Dsg.v; rw [ints_len]; exact ha.reads) (by unfold Dsg.v; rw [ints_len]; exact hb.reads) 0 (by simp [firstE, Dsg.e, ha.ok.check, hb.ok.check])
  simp only [ints_len] at Hc
  have n1 := ha.ok.n1
  have l1 := ha.ok.l1
  have l2 := hb.ok.l1
  have l0 := ha.ok.l0
  have m0 := hb.ok.l0
  have l0p : 0 < ax.length := l0
  have m0p : 0 < bx.length := m0
  have ht : ((n : Int) != (n : Int)) = false := by simp
  have hd : decide ((60 : Int) < (ax.length : Int) + (bx.length : Int)) = false := by simp; omega
  have HA := Lib.hid ha
  have HBd := Lib.hid hb
  clear ha hb
  go_enter Try.func45, Try.ntmps45
  go_wp2_with fail
  refine (Hc _ _ _).mono ?_
  rintro e' w1 ⟨rfl, hb1⟩
  obtain ⟨q, da, db, hB⟩ := res_facts2 hb1
  have a0 := da.c0
  have a1 := da.c1
  have b0 := db.c0
  have b1 := db.c1
  have Hq := Lib.hid q
  have Hb := Lib.hid hB
  have Hda := Lib.hid da
  have hda := da.lt
  have hdb := db.lt
  clear hb1 q hB da db
  have hT0 : TwoS (w1.alloc (.cells #[.slice (some ⟨ab, ao, none⟩) ax.length ac, .slice (some ⟨bb, bo, none⟩) bx.length bc] 22)) w1.heap.size ab ao ac bb bo bc ax bx := by
    have hA := HA.out.below (Hb.out.alloc Hb.out.size (.cells #[.slice (some ⟨ab, ao, none⟩) ax.length ac, .slice (some ⟨bb, bo, none⟩) bx.length bc] 22))
    have hB := HBd.out.below (Hb.out.alloc Hb.out.size (.cells #[.slice (some ⟨ab, ao, none⟩) ax.length ac, .slice (some ⟨bb, bo, none⟩) bx.length bc] 22))
    exact ⟨by simp, by simp, by simp, hA.at', hB.at', hA.lt, hB.lt⟩
  have hT := hT0.below (below_drew1 _)
  clear hT0
  have HT := Lib.hid hT
  clear hT
  go_wp2_with fail
  go_region_law
    ((go_simp; go_at_call 87; (with_reducible refine (Concat_two _ _ _ _ _ _ _ _ _ _ HT.out l0p l1 m0p l2).mono ?_); rintro e w3 ⟨g, c, rfl, hown, hb3⟩; have HX3 := Lib.hid ((((Below.refl w1.heap.size w1).alloc (Nat.le_refl _) (.cells #[.slice (some ⟨ab, ao, none⟩) ax.length ac, .slice (some ⟨bb, bo, none⟩) bx.length bc] 22)).drew).trans (hb3.mono (by show w1.heap.size ≤ (w1.alloc (.cells #[.slice (some ⟨ab, ao, none⟩) ax.length ac, .slice (some ⟨bb, bo, none⟩) bx.length bc] 22)).heap.size; simp))); have hq3 := Hq.out.below HX3.out Hq.out.lt; have y0 := (Hda.out.below HX3.out Hda.out.lt).c0; have y1 := (Hda.out.below HX3.out Hda.out.lt).c1; have k0 := hq3.c0; have k1 := hq3.c1; have k2 := hq3.f 0; have k3 := hq3.f 1))
  all_goals
    (have hgl := (hown.lt g rfl).1
     have hgw : w1.heap.size ≤ g := Nat.le_trans (by show w1.heap.size ≤ (w1.alloc (.cells #[.slice (some ⟨ab, ao, none⟩) ax.length ac, .slice (some ⟨bb, bo, none⟩) bx.length bc] 22)).heap.size; simp) hgl
     have hsb := Hb.out.size
     have hql := Hq.out.lt
     rw [← List.map_append] at hown
     have hrd := own_readsJ (ys := ax ++ bx) (by simp; omega) (by rw [List.length_append]; exact hown)
     have HRD := Lib.hid hrd
     clear hrd hown hq3 hb3
     go_wp2_with fail)
  all_goals
    (refine bodyPost_ret (v := .tuple #[.agg #[.int .i64 (n : Int), .slice (some ⟨g, 0, none⟩) (ax.length + bx.length) c], .int .i64 0]) ?_ rfl ⟨some ⟨g, 0, none⟩, c, by rw [List.length_append], ?_, fun a e => by simp at e; subst e; simp; omega, ?_⟩
     · simp [results, Try.results45, go_sem, k0, k1]
     · exact (HRD.out.set _ _ (fun a e => by simp at e; subst e; simp; omega)).set _ _ (fun a e => by simp at e; subst e; simp; omega)
     · exact ((Hb.out.trans (HX3.out.mono Hb.out.size)).setCell (by simp; omega) _).setCell (by simp; omega) _)
set_option maxRecDepth 100000 in
set_option maxHeartbeats 2000000 in
theorem refAbove_any (n ab ao ac bb bo bc : Nat) (ax bx : List Nat) (w : World) (ha : VAt w ab ao ac n ax) (hb : VAt w bb bo bc n bx) (hs : ax.length + bx.length ≤ 60) :
    Calls Try.prog 49 #[.agg #[.int .i64 (n : Int), .slice (some ⟨ab, ao, none⟩) ax.length ac], .agg #[.int .i64 (n : Int), .slice (some ⟨bb, bo, none⟩) bx.length bc]] w (CopyN (n : Int) (ints (ax ++ bx)) w) := by
  obtain ⟨i0, hi, hz0, hz1, hz2⟩ := info_parts Try.info3
  have l0 := ha.ok.l0
  have m0 := hb.ok.l0
  have l0p : 0 < ax.length := l0
  have m0p : 0 < bx.length := m0
  have HA := Lib.hid ha
  have HBd := Lib.hid hb
  clear ha hb
  go_enter Try.func49, Try.ntmps49
  go_wp2_with fail
  obtain ⟨W1, hW1⟩ : ∃ W1, ((w.alloc (dObj n ab ao ac ax)).alloc (dObj n bb bo bc bx)).alloc rObj = W1 := ⟨_, rfl⟩
  have hfa := res_facts2 (w := w) (w1 := W1) (n1 := n) (b1 := ab) (o1 := ao) (c1 := ac) (n2 := n) (b2 := bb) (o2 := bo) (c2 := bc) (xs := ax) (ys := bx) (by rw [← hW1]; exact Below.refl _ _)
  unfold dObj rObj at hW1
  rw [hW1]
  clear hW1
  obtain ⟨q, da, db, hB1⟩ := hfa
  have hda := da.lt
  have hdb := db.lt
  have hdq := q.lt
  have a0 := da.c0
  have a1 := da.c1
  have b1 := db.c1
  have Hq := Lib.hid q
  have Hda := Lib.hid da
  have Hdb := Lib.hid db
  have HB1 := Lib.hid hB1
  clear q da db hB1
  have HW0 := Lib.hid ((World.ownsRow_made (base := W1.heap.size) (e := 3) (size := 1) W1 #[] 0 (Nat.le_refl _) (Nat.zero_le _) rfl).drew)
  have HBW := Lib.hid (((Below.refl W1.heap.size W1).alloc (Nat.le_refl _) (.cells #[] 3)).drew)
  have HNa := Lib.hid (nats_news (HA.out.below (HB1.out.trans (HBW.out.mono HB1.out.size))).at')
  have HNb := fun (W : World) (h : Below W1.heap.size W1 W) => nats_news (HBd.out.below (HB1.out.trans (h.mono HB1.out.size))).at'
  have HNB := Lib.hid HNb
  clear HNb
  go_region_law
    (first
      | (refine step_append_lies _ (by rfl) (.tmp 7) (.tmp 9) _ (by rfl) W1.heap.size 3 i0 (.int .i64 0) 1 8 Try.underlying22 hi hz0 hz1 hz2 rfl (by omega) (.slice (some ⟨W1.heap.size, 0, none⟩) 0 0) 0 [] (by rfl) HW0.out ⟨ab, ao, none⟩ ax.length ac (ax.map natV) (by rfl) (by simp) HNa.out (nats_one _) l0p (by unfold maxLen; omega) (by omega) (by show W1.heap.size ≤ (W1.alloc _).heap.size; simp) _ (by rfl) ?_
         intro g3 c3 w3 hown3 hgrow3 hat3 hglt3
         rw [Nat.zero_add, List.nil_append] at hown3
         have HN3 := Lib.hid hown3
         have HG3 := Lib.hid (HBW.out.grown hgrow3 (by show W1.heap.size ≤ (W1.alloc _).heap.size; simp) (fun k hk => (HW0.out.lt k hk).1))
         have z1 := (Hda.out.below HG3.out hda).c0
         have z2 := (Hdb.out.below HG3.out hdb).c1
         clear hown3 hgrow3 hat3)
      | (refine step_append_lies _ (by rfl) (.tmp 10) (.tmp 12) _ (by rfl) W1.heap.size 3 i0 (.int .i64 0) 1 8 Try.underlying22 hi hz0 hz1 hz2 rfl (by omega) (.slice (some ⟨g3, 0, none⟩) ax.length c3) ax.length (ax.map natV) (by rfl) HN3.out ⟨bb, bo, none⟩ bx.length bc (bx.map natV) (by rfl) (by simp) (HNB.out _ HG3.out) (nats_one _) m0p (by unfold maxLen; omega) (by omega) HG3.out.size _ (by rfl) ?_
         intro g5 cap w5 hown5 hgrow5 hat5 hglt5
         have HN5 := Lib.hid hown5
         have HG5 := Lib.hid (HG3.out.grown hgrow5 HG3.out.size (fun k hk => (HN3.out.lt k hk).1))
         have y1 := (Hda.out.below HG5.out hda).c0
         have hq5 := Hq.out.below HG5.out hdq
         have k0 := hq5.c0
         have k1 := hq5.c1
         have k2 := hq5.f 0
         have k3 := hq5.f 1
         clear hown5 hgrow5 hat5 hq5))
  all_goals
    (have hN := HN5.out
     have hgl := (hN.lt g5 rfl).1
     rw [← List.map_append] at hN
     have HRD := Lib.hid (own_readsJ (ys := ax ++ bx) (by simp; omega) (by rw [List.length_append]; exact hN))
     have hsb := HB1.out.size
     clear hN HN5
     go_wp2_with fail)
  all_goals
    (refine bodyPost_ret (v := .agg #[.int .i64 (n : Int), .slice (some ⟨g5, 0, none⟩) (ax.length + bx.length) cap]) ?_ rfl ⟨some ⟨g5, 0, none⟩, cap, by rw [ints_len, List.length_append], ?_, fun a e => by simp at e; subst e; simp; omega, ?_⟩
     · simp [results, Try.results49, go_sem, k0, k1]
     · have := (HRD.out.set ⟨w.heap.size + 1 + 1, 0, none⟩ (.int .i64 (n : Int)) (fun a e => by simp at e; subst e; simp; omega)).set ⟨w.heap.size + 1 + 1, 1, none⟩ (.slice (some ⟨g5, 0, none⟩) (ax.length + bx.length) cap) (fun a e => by simp at e; subst e; simp; omega)
       simpa [ints_len] using this
     · exact ((HB1.out.trans (HG5.out.mono HB1.out.size)).setCell (by simp; omega) _).setCell (by simp; omega) _)
end Go.Proofs.Ytjobbleabepaiaa
