/- Package chain: further, on a map of counts. -/
import Derived.Test.YtdmgffoikebgkaaMG
namespace Go.Proofs.Ytdmgffoikebgkaa
open Go.RowKit Go.Shelf
attribute [local go_sem] Oper.semAt_some

theorem Rng.cnt_le {w : World} {b r n L m : Nat} {c : Nat → Nat → Nat} {p d : Nat → Nat → Bool} {cnt : Nat} (h : Rng w b r n L m c p d cnt) : cnt ≤ n := by
  obtain ⟨D, left, ⟨es, clock, since, seen, c0, _, _, hs, _, _, _, hc, _⟩, _⟩ := h
  have : (leftOf es seen).size ≤ es.size := by unfold leftOf; exact Array.size_filter_le
  omega
theorem cards_kept {W W' : World} {g : Nat} {cs : List Card} {row : Option Nat} (h : CardsAt W g cs) (hg : W.grownBy W' row) (hne : some g ≠ row) : CardsAt W' g cs :=
  ⟨fun i hi => (World.cell?_of_block (w := W) (hg.block g h.lt hne)).trans (h.c0 i hi), fun i hi => (World.cell?_of_block (w := W) (hg.block g h.lt hne)).trans (h.c1 i hi), fun i hi => (World.cell?_of_block (w := W) (hg.block g h.lt hne)).trans (h.c2 i hi), Nat.lt_of_lt_of_le h.lt hg.size⟩
/-- where 'further' has come to -/
structure FA (w : World) (n g l c0 : Nat) (cs : List Card) (b r nb k m K3 : Nat) (c : Nat → Nat → Nat) (p d : Nat → Nat → Bool) (cnt kn : Nat) (pn : Nat → Nat → Bool) (N : Nat → Nat → Nat) (W : World) : Prop where
  bx : BoxAt W w.heap.size #[.int .i64 (n : Int), .int .i64 (l : Int), .slice (some ⟨g, 0, none⟩) l c0] 211
  cd : CardsAt W g cs
  rg : Rng W b r k l m c p d cnt
  nx : CMap W nb kn l m N pn
  bl : Below w.heap.size w W
  pl : b < w.heap.size ∧ g < w.heap.size ∧ w.heap.size < nb ∧ nb < r
  sz : kn + 3 * cnt ≤ K3
section
variable {w : World} {n g l c0 : Nat} {cs : List Card} {b r nb k m K3 : Nat} {c : Nat → Nat → Nat} {p d : Nat → Nat → Bool} {cnt kn : Nat} {pn : Nat → Nat → Bool} {N : Nat → Nat → Nat} {W W' : World}
theorem FA.next (h : FA w n g l c0 cs b r nb k m K3 c p d cnt kn pn N W) (hb : Below W.heap.size W W') : FA w n g l c0 cs b r nb k m K3 c p d cnt kn pn N W' :=
  ⟨h.bx.next hb, h.cd.next hb, h.rg.next hb, h.nx.next hb, h.bl.trans (hb.mono h.bl.size), h.pl, h.sz⟩
theorem FA.iter (h : FA w n g l c0 cs b r nb k m K3 c p d cnt kn pn N W) {d' : Nat → Nat → Bool} {cnt' : Nat} (hr : Rng W' b r k l m c p d' cnt') (hlt : cnt' < cnt) (hg : W.grownBy W' (some r)) :
    FA w n g l c0 cs b r nb k m (K3 - 3) c p d' cnt' kn pn N W' ∧ kn + 3 * cnt' + 3 ≤ K3 := by
  obtain ⟨e1, e2, e3, e4⟩ := h.pl
  have hsz := h.sz
  exact ⟨⟨h.bx.kept hg (by simp; omega), cards_kept h.cd hg (by simp; omega), hr, h.nx.kept hg (by simp; omega), h.bl.grown hg h.bl.size (fun j hj => by cases hj; omega), h.pl, by omega⟩, by omega⟩
theorem FA.upd (h : FA w n g l c0 cs b r nb k m K3 c p d cnt kn pn N W) {N' : Nat → Nat → Nat} {pn' : Nat → Nat → Bool} (hn : CMap W' nb (kn + 1) l m N' pn') (hg : W.grownBy W' (some nb)) :
    FA w n g l c0 cs b r nb k m (K3 + 1) c p d cnt (kn + 1) pn' N' W' := by
  obtain ⟨e1, e2, e3, e4⟩ := h.pl
  have hsz := h.sz
  exact ⟨h.bx.kept hg (by simp; omega), cards_kept h.cd hg (by simp; omega), h.rg.kept hg (by simp; omega) (by simp; omega), hn, h.bl.grown hg h.bl.size (fun j hj => by cases hj; omega), h.pl, by omega⟩
theorem FA.more (h : FA w n g l c0 cs b r nb k m K3 c p d cnt kn pn N W) {K' : Nat} (hK : K3 ≤ K') : FA w n g l c0 cs b r nb k m K' c p d cnt kn pn N W := ⟨h.bx, h.cd, h.rg, h.nx, h.bl, h.pl, Nat.le_trans h.sz hK⟩
end
def stepsC (l m a f many : Nat) (N : Nat → Nat → Nat) : Nat → Nat → Nat → Nat
  | 0 => N
  | s + 1 => stepC l m a f many s (stepsC l m a f many N s)
theorem stepsC_le (l m a f many : Nat) (N : Nat → Nat → Nat) (a' f' : Nat) : ∀ s, stepsC l m a f many N s a' f' ≤ N a' f' + s * many
  | 0 => by simp [stepsC]
  | s + 1 => by
    show stepC l m a f many s (stepsC l m a f many N s) a' f' ≤ _
    rw [stepC_at]
    have := stepsC_le l m a f many N a' f' s
    have := inc_le l m a f many s a' f'
    rw [Nat.add_mul]
    omega
set_option maxRecDepth 100000 in
set_option maxHeartbeats 4000000 in
theorem chainFurther_any (n g c0 b k m : Nat) (pick : Int) (cs : List Card) (c : Nat → Nat → Nat) (p : Nat → Nat → Bool) (w : World) (hv : BAt w g n cs) (hmap : CMap w b k cs.length m c p) (hm : m ≤ 6) (hT : sumD cs.length m c ≤ 10000) (hk : k ≤ 10000) :
    Calls Try.prog 221 #[.agg #[.int .i64 (n : Int), .int .i64 (cs.length : Int), .slice (some ⟨g, 0, none⟩) cs.length c0], .map (some b), .int .i64 pick, .int .i64 (m : Int)] w fun e w' =>
      ∃ b' k' p', e = .returned (.map (some b')) ∧ CMap w' b' k' cs.length m (furtherC cs.length m (fun a => wv pick (liftN n (nthC cs a))) c) p' ∧ k' ≤ 3 * k ∧ w.heap.size ≤ b' ∧ Below w.heap.size w w' := by
  have hmm := @run_makeMap Try.prog
  have l1 := hv.ok.l1
  have l0 := hv.ok.l0
  have hbw := hmap.lt
  have hgw := hv.lt
  have hok := hv.ok
  obtain ⟨w0, hw0⟩ : ∃ w0, w0 = w.alloc (.cells #[.int .i64 (n : Int), .int .i64 (cs.length : Int), .slice (some ⟨g, 0, none⟩) cs.length c0] 211) := ⟨_, rfl⟩
  obtain ⟨l, hl⟩ : ∃ l, cs.length = l := ⟨_, rfl⟩
  have hbe : Below w.heap.size w ((w.alloc (.cells #[.int .i64 (n : Int), .int .i64 (l : Int), .slice (some ⟨g, 0, none⟩) l c0] 211)).alloc (.map #[] 0)) := ((Below.refl _ _).alloc (Nat.le_refl _) _).alloc (by simp) _
  rw [hl] at hmap hT l1 l0
  have hmap2 := hmap.next hbe
  have e1 : ((w.alloc (.cells #[.int .i64 (n : Int), .int .i64 (l : Int), .slice (some ⟨g, 0, none⟩) l c0] 211)).alloc (.map #[] 0)).heap.size = w.heap.size + 2 := by simp
  have hbx0 : BoxAt ((w.alloc (.cells #[.int .i64 (n : Int), .int .i64 (l : Int), .slice (some ⟨g, 0, none⟩) l c0] 211)).alloc (.map #[] 0)) w.heap.size #[.int .i64 (n : Int), .int .i64 (l : Int), .slice (some ⟨g, 0, none⟩) l c0] 211 := (BoxAt.new _ _ _).next ((Below.refl _ _).alloc (Nat.le_refl _) _)
  have hcd0 := hv.at'.next hbe
  have hnx0 : CMap ((w.alloc (.cells #[.int .i64 (n : Int), .int .i64 (l : Int), .slice (some ⟨g, 0, none⟩) l c0] 211)).alloc (.map #[] 0)) (w.heap.size + 1) 0 l m (fun _ _ => 0) (fun _ _ => false) := by
    have := CMap.made (w.alloc (.cells #[.int .i64 (n : Int), .int .i64 (l : Int), .slice (some ⟨g, 0, none⟩) l c0] 211)) l m
    rwa [World.size_alloc] at this
  have Hl := Lib.hid hl
  have HV := Lib.hid hv
  have Hmap2 := Lib.hid hmap2
  have HE := Lib.hid (And.intro hbe (And.intro hbx0 (And.intro hcd0 hnx0)))
  have Hok := Lib.hid hok
  have HT := Lib.hid hT
  rw [hl]
  clear hl hv hmap hmap2 hbe hbx0 hcd0 hnx0 hok hT hw0 w0
  go_enter Try.func221, Try.ntmps221
  go_wp2_with (first
    | (at_range; refine wpList_range_st rfl _ rfl rfl Hmap2.out ?_; intro w0 cnt0 hrg0 hg0 hs0)
    | go_in)
  go_frame
  rw [e1] at hrg0 hs0 ⊢
  have hF0 : FA w n g l c0 cs b (w.heap.size + 2) (w.heap.size + 1) k m (3 * k) c p (fun _ _ => false) cnt0 0 (fun _ _ => false) (part l m (fun a => wv pick (liftN n (nthC cs a))) c p (fun _ _ => false)) w0 :=
    ⟨HE.out.2.1.kept hg0 (by simp), cards_kept HE.out.2.2.1 hg0 (by simp), hrg0, by rw [part_zero]; exact HE.out.2.2.2.kept hg0 (by simp), HE.out.1.grown hg0 (by simp; omega) (fun j hj => by cases hj), ⟨hbw, hgw, by omega, by omega⟩, by have := hrg0.cnt_le; omega⟩
  have HF0 := Lib.hid hF0
  clear hF0 hrg0 hg0 hs0 HE Hmap2
  go_loopw [11] (fun _ wr => ∃ (d : Nat → Nat → Bool) (cnt kn : Nat) (pn : Nat → Nat → Bool), FA w n g l c0 cs b (w.heap.size + 2) (w.heap.size + 1) k m (3 * k) c p d cnt kn pn (part l m (fun a => wv pick (liftN n (nthC cs a))) c p d) wr) (fun _ wr => wr.rangeLeft b (w.heap.size + 2))
  case atStart => exact ⟨_, _, _, _, HF0.out⟩
  case round =>
    obtain ⟨d, cnt, kn, pn, hF⟩ := hrel
    clear HF0
    go_wp2_with (first
      | (at_next; refine wpList_next_st rfl _ rfl (by omega) (by omega) rfl hF.rg ?_ ?_)
      | go_in)
    · intro hdone
      have HF := Lib.hid hF
      have Hd := Lib.hid hdone
      clear hF hdone
      go_wp2
      go_ret
      have hp := part_all (wf := fun a => wv pick (liftN n (nthC cs a))) (by obtain ⟨D, left, _, a2, _⟩ := HF.out.rg; exact a2.zero) Hd.out
      refine ⟨w.heap.size + 1, kn, pn, rfl, ?_, by have := HF.out.sz; omega, by omega, HF.out.bl⟩
      rw [← hp]
      exact HF.out.nx
    · intro a f w1 cnt1 ha hf hp hd hrg1 hlt hg1 hs1 hen
      obtain ⟨hF1, hsz1⟩ := hF.iter hrg1 hlt hg1
      have hmeas := hF.rg.left_eq
      have hb2 : Below w1.heap.size w1 (w1.alloc (.cells #[.int .i64 (a : Int), .int .i64 (f : Int)] 249)) := (Below.refl _ _).alloc (Nat.le_refl _) _
      have hF2 := hF1.next hb2
      have hS2 : BoxAt (w1.alloc (.cells #[.int .i64 (a : Int), .int .i64 (f : Int)] 249)) w1.heap.size #[.int .i64 (a : Int), .int .i64 (f : Int)] 249 := BoxAt.new _ _ _
      have hwv := weaves_any n g c0 a pick cs _ ⟨hF2.cd, Hok.out⟩ (by rw [Hl.out]; exact ha)
      rw [Hl.out] at hwv
      have Hwv := Lib.hid hwv
      have x0 := hF1.bx.cell' 0 rfl
      have x1 := hF1.bx.cell' 1 rfl
      have x2 := hF1.bx.cell' 2 rfl
      have xl := hF1.bx.lt
      simp only [stV] at hen ⊢
      have HF2 := Lib.hid hF2
      have HS2 := Lib.hid hS2
      have Hpd := Lib.hid (And.intro hp hd)
      have Hms := Lib.hid hmeas
      obtain ⟨S, hS⟩ : ∃ S, S = w1.heap.size := ⟨_, rfl⟩
      have HsS := Lib.hid (show w.heap.size + 2 < S by have := hF1.rg.lt; omega)
      clear hF hF1 hF2 hS2 hwv hb2 hrg1 hg1 hs1 hp hd hmeas
      go_wp2_with fail
      refine Hwv.out.mono ?_
      rintro e w2 ⟨rfl, hb2⟩
      have HF3 := Lib.hid (HF2.out.next hb2)
      have HS3 := Lib.hid (HS2.out.next hb2)
      rw [← hS] at HS3 ⊢
      clear hb2 HF2 HS2 Hwv x0 x1 x2 xl hen hS
      cases hw : wv pick (liftN n (nthC cs a)) with
      | false =>
        have Hw := Lib.hid (step0 (l := l) (m := m) (wf := fun a => wv pick (liftN n (nthC cs a))) (c := c) ha hf Hpd.out.1 Hpd.out.2 hw)
        clear hw
        go_wp2
        go_roundw
        case rel => exact ⟨setP d a f, cnt1, kn, pn, by rw [← Hw.out]; exact HF3.out.more (by omega)⟩
        case measure => rw [HF3.out.rg.left_eq, Hms.out]; exact hlt
      | true =>
        have Hw := Lib.hid (step3 (l := l) (m := m) (wf := fun a => wv pick (liftN n (nthC cs a))) (c := c) ha hf Hpd.out.1 Hpd.out.2 hw)
        clear hw
        go_wp2_with fail
        go_loopw [29] (fun i wr => ∃ (s kn2 : Nat) (pn2 : Nat → Nat → Bool), s ≤ 3 ∧ i = .int .i64 s ∧ FA w n g l c0 cs b (w.heap.size + 2) (w.heap.size + 1) k m (3 * k - 3 + s) c p (setP d a f) cnt1 kn2 pn2 (stepsC l m a f (c a f) (part l m (fun a => wv pick (liftN n (nthC cs a))) c p d) s) wr ∧ BoxAt wr S #[.int .i64 (a : Int), .int .i64 (f : Int)] 249) (fun i _ => 3 - (intOf i).toNat)
        case atStart => exact ⟨0, kn, pn, by omega, rfl, HF3.out.more (by omega), HS3.out⟩
        case round =>
          obtain ⟨s, kn2, pn2, hs, rfl, hG, hS4⟩ := hrel
          clear HF3 HS3
          by_cases hlt3 : s < 3
          · have hfl : flt s ≤ 1 := by unfold flt; split <;> omega
            have HG := Lib.hid hG
            have HS4 := Lib.hid hS4
            clear hG hS4
            go_wp2_with fail
            refine region_after [32, 33, 34, 35, 36, 37, 38, 39, 40, 41, 42, 43, 44, 13, 56] 4 10 12 w.heap.size S l a f s rfl ?hops rfl (by kernel_rfl) (by kernel_rfl) (by kernel_rfl) (by decide) ?hsz ?hout (HG.out.bx.cell' 1 rfl) HS4.out (by omega) (by omega) (by omega) (by omega) (by omega) ?hend
            case hops => exact ⟨⟨_, _, _, rfl, by kernel_rfl⟩, ⟨_, _, _, rfl, by kernel_rfl⟩, ⟨_, _, _, rfl, by kernel_rfl⟩, ⟨_, _, _, rfl, by kernel_rfl⟩, ⟨_, _, _, rfl, by kernel_rfl⟩, ⟨_, _, _, rfl, by kernel_rfl⟩, ⟨_, _, _, rfl, by kernel_rfl⟩, ⟨_, _, _, rfl, by kernel_rfl⟩, ⟨_, _, _, rfl, by kernel_rfl⟩, ⟨_, _, _, rfl, by kernel_rfl⟩, ⟨_, _, _, rfl, by kernel_rfl⟩, ⟨_, _, _, rfl, by kernel_rfl⟩, ⟨_, _, _, rfl, by kernel_rfl⟩, ⟨_, _, _, rfl, by kernel_rfl⟩, _, _, _, rfl, by kernel_rfl⟩
            case hsz => intro d hd; simp only [List.mem_cons, List.not_mem_nil, or_false] at hd; show d < 58; omega
            case hout => exact ⟨rfl, by decide, rfl, by decide, rfl, by decide⟩
            case hend =>
              rintro v W3 ⟨D, e1, hDl, hD, hb3⟩
              change v 13 = _ at e1
              simp only [laid, List.foldl, Act.put, List.setIfInBounds_toArray, List.set_cons_succ, List.set_cons_zero, e1]
              generalize v 32 = vu32
              generalize v 33 = vu33
              generalize v 34 = vu34
              generalize v 35 = vu35
              generalize v 36 = vu36
              generalize v 37 = vu37
              generalize v 38 = vu38
              generalize v 39 = vu39
              generalize v 40 = vu40
              generalize v 41 = vu41
              generalize v 42 = vu42
              generalize v 43 = vu43
              generalize v 44 = vu44
              generalize v 56 = vu56
              obtain ⟨y, hy⟩ : ∃ y, f + flt s = y := ⟨_, rfl⟩
              obtain ⟨x, hx⟩ : ∃ x, (a + s) % l = x := ⟨_, rfl⟩
              have hxl : x < l := by rw [← hx]; exact Nat.mod_lt _ (by omega)
              rw [hx, show (f : Int) + (flt s : Int) = (y : Int) by omega] at hD
              have HG3 := Lib.hid (HG.out.next hb3)
              have HS5 := Lib.hid (HS4.out.next hb3)
              have HD := Lib.hid hD
              have hDn : w.heap.size + 1 < D := by have := HG.out.nx.lt; omega
              have Hy := Lib.hid hy
              have Hx := Lib.hid hx
              have d1 := hD.cell' 1 rfl
              have hle : stepsC l m a f (c a f) (part l m (fun a => wv pick (liftN n (nthC cs a))) c p d) s x y ≤ 60000 := by
                have h1 := stepsC_le l m a f (c a f) (part l m (fun a => wv pick (liftN n (nthC cs a))) c p d) x y s
                have h2 := part_le (l := l) (m := m) (wf := fun a => wv pick (liftN n (nthC cs a))) (c := c) (p := p) (d := d) x y
                have h3 := le_sumD ha hf c
                have h4 := HT.out
                have h5 : s * c a f ≤ 3 * c a f := Nat.mul_le_mul_right _ (by omega)
                omega
              have hcf : c a f ≤ 10000 := Nat.le_trans (le_sumD ha hf c) HT.out
              have hkn : kn2 ≤ 100000 := by have := HG.out.sz; omega
              clear e1 v hb3 hD hDl HG HS4 hy hx
              by_cases hym : y ≤ m
              · go_wp2_with fail
                obtain ⟨st, W4, hent, hm4, hg4, hst⟩ := (HG3.out.nx.next (below_drew1 W3)).entry (a := x) (f := y) hxl hym (by omega) (by omega) (by omega) (by omega)
                obtain ⟨W5, hst5, hm5, hg5⟩ := hst (stepsC l m a f (c a f) (part l m (fun a => wv pick (liftN n (nthC cs a))) c p d) s x y + c a f) (by omega)
                have HG4 := Lib.hid (HG3.out.next (below_drew1 W3))
                have HS6 := Lib.hid (HS5.out.next (below_drew1 W3))
                have hSn : S ≠ w.heap.size + 1 := by have := HsS.out; omega
                refine region_bump [49, 50, 51, 52, 53, 54, 55, 56] 9 13 11 (w.heap.size + 1) D x y (stepsC l m a f (c a f) (part l m (fun a => wv pick (liftN n (nthC cs a))) c p d) s x y) (c a f) st rfl ?hops2 rfl (by kernel_rfl) (by kernel_rfl) (by decide) ?hsz2 ?hout2 (HD.out.next (below_drew1 W3)) ((HD.out.next (below_drew1 W3)).kept hg4 (by simp; omega)) (by omega) (HG4.out.nx.lookup (by omega) (by omega)) (hm4.lookup (by omega) (by omega)) hent (by have := hst5; rwa [Int.natCast_add] at this) ?hend2
                case hops2 => exact ⟨⟨_, _, _, rfl, by kernel_rfl⟩, ⟨_, _, _, rfl, by kernel_rfl⟩, ⟨_, _, _, rfl, by kernel_rfl⟩, ⟨_, _, _, rfl, by kernel_rfl⟩, ⟨_, _, _, rfl, by kernel_rfl⟩, ⟨_, _, _, rfl, by kernel_rfl⟩, ⟨_, _, _, rfl, by kernel_rfl⟩, _, _, _, rfl, by kernel_rfl⟩
                case hsz2 => intro d hd; simp only [List.mem_cons, List.not_mem_nil, or_false] at hd; show d < 58; omega
                case hout2 => exact ⟨rfl, by decide, rfl, by decide, rfl, by decide⟩
                case hend2 =>
                  intro v
                  simp only [laid, List.foldl, Act.put, List.setIfInBounds_toArray, List.set_cons_succ, List.set_cons_zero]
                  generalize v 49 = vu49
                  generalize v 50 = vu50
                  generalize v 51 = vu51
                  generalize v 52 = vu52
                  generalize v 53 = vu53
                  generalize v 54 = vu54
                  generalize v 55 = vu55
                  generalize v 56 = vu56
                  have HN := Lib.hid (HG4.out.upd hm5 hg5)
                  have HS7 := Lib.hid (HS6.out.kept hg5 (by simp; omega))
                  clear v hent hm4 hg4 hst hst5 hm5 hg5 HG3 HG4 HS5 HS6 HD d1 hle
                  go_wp2
                  go_roundw
                  case rel =>
                    refine ⟨s + 1, kn2 + 1, setP pn2 x y, by omega, by go_num, ?_, HS7.out⟩
                    have e : stepsC l m a f (c a f) (part l m (fun a => wv pick (liftN n (nthC cs a))) c p d) (s + 1) = setC (stepsC l m a f (c a f) (part l m (fun a => wv pick (liftN n (nthC cs a))) c p d) s) x y (stepsC l m a f (c a f) (part l m (fun a => wv pick (liftN n (nthC cs a))) c p d) s x y + c a f) := by
                      show stepC l m a f (c a f) s _ = _
                      unfold stepC
                      rw [Hx.out, Hy.out, if_pos hym]
                    rw [e]
                    exact HN.out.more (by omega)
                  case measure => simp [intOf]; omega
              · clear HD hle
                go_wp2
                go_roundw
                case rel =>
                  refine ⟨s + 1, kn2, pn2, by omega, by go_num, ?_, HS5.out⟩
                  have e : stepsC l m a f (c a f) (part l m (fun a => wv pick (liftN n (nthC cs a))) c p d) (s + 1) = stepsC l m a f (c a f) (part l m (fun a => wv pick (liftN n (nthC cs a))) c p d) s := by
                    show stepC l m a f (c a f) s _ = _
                    unfold stepC
                    rw [Hy.out, if_neg hym]
                  rw [e]
                  exact HG3.out.more (by omega)
                case measure => simp [intOf]; omega
          · have hs3 : s = 3 := by omega
            have HG : Hid (FA w n g l c0 cs b (w.heap.size + 2) (w.heap.size + 1) k m (3 * k) c p (setP d a f) cnt1 kn2 pn2 (part l m (fun a => wv pick (liftN n (nthC cs a))) c p (setP d a f)) wr) := Lib.hid (by
              rw [hs3] at hG
              rw [← Hw.out]
              exact hG.more (by omega))
            clear hG hS4 hs3 Hw
            go_wp2
            go_roundw
            case rel => exact ⟨setP d a f, cnt1, kn2, pn2, HG.out⟩
            case measure => rw [HG.out.rg.left_eq, Hms.out]; exact hlt
end Go.Proofs.Ytdmgffoikebgkaa
/- Package chain: ends. -/
namespace Go.Proofs.Ytdmgffoikebgkaa
open Go.RowKit Go.Shelf
attribute [local go_sem] Oper.semAt_some

def initC (vs : List Nat) : Nat → Nat → Nat := vs.foldl (fun N a => setC N a 0 1) (fun _ _ => 0)
theorem initC_snoc (vs : List Nat) (a : Nat) : initC (vs ++ [a]) = setC (initC vs) a 0 1 := by simp [initC]
theorem vals_around (l : Nat) (h : 0 < l) : ∀ k, k ≤ l → vals (aroundL l 0 k) = List.range k
  | 0, _ => rfl
  | k + 1, hk => by
    rw [aroundL_succ _ _ _ h, vals_snoc, vals_around l h k (by omega), List.range_succ]
    simp only [Nat.zero_add, Nat.mod_eq_of_lt (show k < l by omega)]
/-- the counts behind so many picks -/
def cntK (n : Nat) (cs : List Card) (m : Nat) (xs : List Int) : Nat → Nat → Nat → Nat
  | 0 => initC (List.range cs.length)
  | j + 1 => furtherC cs.length m (fun a => wv (nthI xs j) (liftN n (nthC cs a))) (cntK n cs m xs j)
structure EA (w : World) (n g c0 : Nat) (cs : List Card) (mb k m : Nat) (N : Nat → Nat → Nat) (p : Nat → Nat → Bool) (W : World) : Prop where
  bx : BoxAt W w.heap.size #[.int .i64 (n : Int), .int .i64 (cs.length : Int), .slice (some ⟨g, 0, none⟩) cs.length c0] 211
  mv : BoxAt W (w.heap.size + 2) #[.map (some mb)] 246
  cd : CardsAt W g cs
  mp : CMap W mb k cs.length m N p
  bl : Below w.heap.size w W
  lo : w.heap.size < mb ∧ mb ≠ w.heap.size + 2 ∧ g < w.heap.size
section
variable {w W W' : World} {n g c0 : Nat} {cs : List Card} {mb k m : Nat} {N : Nat → Nat → Nat} {p : Nat → Nat → Bool}
theorem EA.next (h : EA w n g c0 cs mb k m N p W) (hb : Below W.heap.size W W') : EA w n g c0 cs mb k m N p W' :=
  ⟨h.bx.next hb, h.mv.next hb, h.cd.next hb, h.mp.next hb, h.bl.trans (hb.mono h.bl.size), h.lo⟩
theorem EA.kept {row : Option Nat} (h : EA w n g c0 cs mb k m N p W) (hg : W.grownBy W' row) (hr : ∀ r, row = some r → w.heap.size + 2 < r ∧ r ≠ mb) : EA w n g c0 cs mb k m N p W' := by
  have hne : ∀ x, x ≤ w.heap.size + 2 → some x ≠ row := fun x hx e => by have := (hr x e.symm).1; omega
  exact ⟨h.bx.kept hg (hne _ (by omega)), h.mv.kept hg (hne _ (by omega)), cards_kept h.cd hg (hne _ (by have := h.lo.2.2; omega)), h.mp.kept hg (fun e => (hr mb e.symm).2 rfl), h.bl.grown hg h.bl.size (fun j hj => by have := (hr j hj).1; omega), h.lo⟩
theorem EA.upd (h : EA w n g c0 cs mb k m N p W) {N' : Nat → Nat → Nat} {p' : Nat → Nat → Bool} {k' : Nat} (hg : W.grownBy W' (some mb)) (hm : CMap W' mb k' cs.length m N' p') : EA w n g c0 cs mb k' m N' p' W' := by
  obtain ⟨e1, e2, e3⟩ := h.lo
  exact ⟨h.bx.kept hg (by simp; omega), h.mv.kept hg (by simp; omega), cards_kept h.cd hg (by simp; omega), hm, h.bl.grown hg h.bl.size (fun j hj => by cases hj; omega), h.lo⟩
theorem EA.store (h : EA w n g c0 cs mb k m N p W) {mb' k' : Nat} {N' : Nat → Nat → Nat} {p' : Nat → Nat → Bool} (hm : CMap W mb' k' cs.length m N' p') (hl : w.heap.size < mb') (hn : mb' ≠ w.heap.size + 2) : EA w n g c0 cs mb' k' m N' p' (W.setCell ⟨w.heap.size + 2, 0, none⟩ (.map (some mb'))) := by
  obtain ⟨e1, e2, e3⟩ := h.lo
  have hg : W.grownBy (W.setCell ⟨w.heap.size + 2, 0, none⟩ (.map (some mb'))) (some (w.heap.size + 2)) := grownBy_setCell' W _ _
  refine ⟨h.bx.other _ _ (by simp), by have := h.mv.set 0 (.map (some mb')); exact this, cards_kept h.cd hg (by simp; omega), hm.kept hg (by simpa using hn), h.bl.setCell (by simp) _, hl, hn, e3⟩
end
set_option maxRecDepth 100000 in
set_option maxHeartbeats 4000000 in
theorem ends_any (n g c0 b off cx m : Nat) (xs : List Int) (cs : List Card) (w : World) (hv : BAt w g n cs) (hx : IntsAt w b off xs) (hxb : b < w.heap.size) (hl5 : xs.length ≤ 5) (hm : m ≤ 6) (hT : ∀ j, j ≤ xs.length → sumD cs.length m (cntK n cs m xs j) ≤ 10000) :
    Calls Try.prog 196 #[.agg #[.int .i64 (n : Int), .int .i64 (cs.length : Int), .slice (some ⟨g, 0, none⟩) cs.length c0], .slice (some ⟨b, off, none⟩) xs.length cx, .int .i64 (m : Int)] w fun e w' =>
      ∃ b' k' p', e = .returned (.map (some b')) ∧ CMap w' b' k' cs.length m (cntK n cs m xs xs.length) p' ∧ k' ≤ 20000 ∧ Below w.heap.size w w' := by
  have hmm := @run_makeMap Try.prog
  have l1 := hv.ok.l1
  have l0 := hv.ok.l0
  have hgw := hv.lt
  have hbe : Below w.heap.size w (((w.alloc (.cells #[.int .i64 (n : Int), .int .i64 (cs.length : Int), .slice (some ⟨g, 0, none⟩) cs.length c0] 211)).alloc (.map #[] 0)).alloc (.cells #[.map (some (w.heap.size + 1))] 246)) := (((Below.refl _ _).alloc (Nat.le_refl _) _).alloc (by simp) _).alloc (by simp; omega) _
  have hE0 : EA w n g c0 cs (w.heap.size + 1) 0 m (initC []) (fun _ _ => false) (((w.alloc (.cells #[.int .i64 (n : Int), .int .i64 (cs.length : Int), .slice (some ⟨g, 0, none⟩) cs.length c0] 211)).alloc (.map #[] 0)).alloc (.cells #[.map (some (w.heap.size + 1))] 246)) := by
    refine ⟨((BoxAt.new _ _ _).next ((Below.refl _ _).alloc (Nat.le_refl _) _)).next ((Below.refl _ _).alloc (Nat.le_refl _) _), ?_, hv.at'.next hbe, ?_, hbe, by omega, by omega, hgw⟩
    · have := BoxAt.new ((w.alloc (.cells #[.int .i64 (n : Int), .int .i64 (cs.length : Int), .slice (some ⟨g, 0, none⟩) cs.length c0] 211)).alloc (.map #[] 0)) #[.map (some (w.heap.size + 1))] 246
      rwa [World.size_alloc, World.size_alloc] at this
    · have := (CMap.made (w.alloc (.cells #[.int .i64 (n : Int), .int .i64 (cs.length : Int), .slice (some ⟨g, 0, none⟩) cs.length c0] 211)) cs.length m).next ((Below.refl _ _).alloc (Nat.le_refl _) (.cells #[.map (some (w.heap.size + 1))] 246))
      rwa [World.size_alloc] at this
  have HV := Lib.hid hv
  have HX := Lib.hid hx
  have HT := Lib.hid hT
  have HE0 := Lib.hid hE0
  have k1 := hE0.bx.cell' (v := .int .i64 (cs.length : Int)) 1 rfl
  clear hv hx hT hbe hE0
  obtain ⟨nf, hnf⟩ : ∃ nf : Nat, 10 ≤ nf := ⟨10, Nat.le_refl _⟩
  refine (callsIn_wide (n := nf)).1 ?_
  refine callsIn_of_wp_marks Try.func196 rfl trivial ?_ rfl
  simp only [Try.ntmps196, List.size_toArray, List.length_cons, List.length_nil, Nat.reduceAdd, Nat.reduceSub, Array.replicate_succ, Array.replicate_zero, List.push_toArray, List.append_toArray, List.nil_append, List.cons_append]
  gi_wp2_with fail
  refine wideCall (around_any _ _ _) ?_
  rintro e W5 ⟨rfl, rfl⟩
  obtain ⟨W4, hW4⟩ : ∃ W4, (((w.alloc (.cells #[.int .i64 (n : Int), .int .i64 (cs.length : Int), .slice (some ⟨g, 0, none⟩) cs.length c0] 211)).alloc (.map #[] 0)).alloc (.cells #[.map (some (w.heap.size + 1))] 246)) = W4 := ⟨_, rfl⟩
  rw [hW4] at HE0 k1 ⊢
  have hz4 : W4.heap.size = w.heap.size + 3 := by rw [← hW4]; simp
  have hb5 : Below W4.heap.size W4 ((W4.alloc (.cells #[.int .i64 (cs.length : Int)] 209)).alloc (.cells #[.int .i64 ((0 : Nat) : Int)] 3)) := ((Below.refl _ _).alloc (Nat.le_refl _) _).alloc (by simp) _
  obtain ⟨A, hA⟩ : ∃ A, A = W4.heap.size := ⟨_, rfl⟩
  obtain ⟨W5, hW5⟩ : ∃ W5, (W4.alloc (.cells #[.int .i64 (cs.length : Int)] 209)).alloc (.cells #[.int .i64 ((0 : Nat) : Int)] 3) = W5 := ⟨_, rfl⟩
  have a1 : W5.cell? ⟨A, 0, none⟩ = some (.int .i64 (cs.length : Int)) := by
    rw [← hW5, hA]; exact ((BoxAt.new W4 #[.int .i64 (cs.length : Int)] 209).next ((Below.refl _ _).alloc (Nat.le_refl _) _)).cell' 0 rfl
  have a2 : W5.cell? ⟨A + 1, 0, none⟩ = some (.int .i64 ((0 : Nat) : Int)) := by
    rw [← hW5, hA]
    have := (BoxAt.new (W4.alloc (.cells #[.int .i64 (cs.length : Int)] 209)) #[.int .i64 ((0 : Nat) : Int)] 3).cell' 0 rfl
    rwa [World.size_alloc] at this
  have hz5 : W5.heap.size = A + 2 := by rw [← hW5, hA]; simp
  rw [hW5] at hb5
  have hE5 := HE0.out.next hb5
  have hAl : A = w.heap.size + 3 := by omega
  rw [hW5, ← hA]
  have HE5 := Lib.hid hE5
  have HAl := Lib.hid hAl
  clear hb5 hE5 HE0 k1 hW4 hW5 hA hAl hz4 W4
  gi_wp2_with fail
  refine wpIn_rangeFunc_ownH rfl (by omega) (gf := 223) (lb := #[.pointer (some ⟨A, 0, none⟩), .pointer (some ⟨A + 1, 0, none⟩)]) rfl trivial (enters_of Try.func223 (by kernel_rfl) rfl)
    (around_stops (nf - 1) A cs.length 0 (by omega) (by omega) (by omega) W5 a1 a2) (fun h k => h.trans k) (fun W l o o' hl _ _ _ => Keep2.putObj W o' (by omega) (by omega)) (Below.refl _ _) (fun _ => rfl)
    (fun pre W => A + 1 < W.heap.size ∧ ∃ p, EA w n g c0 cs (w.heap.size + 1) pre.length m (initC (vals pre)) p W) (fun _ _ _ => False) ?own (fun _ _ _ _ _ hs _ _ => hs) ⟨by omega, _, HE5.out⟩
    (fun x a' _ => a' = { tmps := List.toArray (Value.agg #[.int .i64 (n : Int), .int .i64 (cs.length : Int), .slice (some ⟨g, 0, none⟩) cs.length c0] :: Value.slice (some ⟨b, off, none⟩) xs.length cx :: Value.int .i64 (m : Int) :: Value.pointer (some ⟨w.heap.size, 0, none⟩) :: undef :: undef :: Value.map none :: Value.pointer (some ⟨w.heap.size + 1 + 1, 0, none⟩) :: Value.int .i64 (x.1 : Int) :: undef :: undef :: Value.map (some (w.heap.size + 1)) :: Value.pointer (some ⟨w.heap.size, 1, none⟩) :: Value.int .i64 (cs.length : Int) :: Value.func (.func 223) #[] #[.pointer (some ⟨A, 0, none⟩), .pointer (some ⟨A + 1, 0, none⟩)] :: Value.int .i64 (x.1 : Int) :: undef :: undef :: undef :: undef :: undef :: undef :: undef :: undef :: undef :: undef :: undef :: undef :: undef :: undef :: undef :: undef :: []), defers := [] })
    (fun x a' _ X Y row hs hg hr => hs)
    ?assign ?body ?done ?stop
  case own =>
    rintro pre X Y row ⟨h0, p, h⟩ hg hr
    exact ⟨Nat.lt_of_lt_of_le h0 hg.size, p, h.kept hg (fun r e => by have := (hr r e).1; have := HAl.out; omega)⟩
  case assign =>
    rintro l pre x W K hI hK
    gi_wp2
    exact hK _ _ (KeepsFrom.refl _ _) (Keep2.refl _ _) hI rfl
  case body =>
    rintro l pre x a' W hl ⟨r, hr⟩ ⟨hAW, p, hI⟩ rfl hlen
    obtain ⟨v0, hv0⟩ := x
    have hz := hI.mv.lt
    have m0 : W.cell? ⟨w.heap.size + 2, 0, none⟩ = some (.map (some (w.heap.size + 1))) := hI.mv.cell' 0 rfl
    obtain ⟨W', hu, hm', hg'⟩ := hI.mp.update (a := v0) (f := 0) hv0 (by omega) (by omega) (by omega) 1 (by omega) (by omega)
    have hu2 : (Instr.mapUpdate 246 (.map (some (w.heap.size + 1))) (.agg #[.int .i64 (v0 : Int), .int .i64 0]) (.int .i64 1)).run Try.prog W = .ok () W' := hu
    have HU := Lib.hid (hI.upd hg' hm')
    have Hg := Lib.hid hg'
    clear hu hm' hg' hI
    gi_wp2
    refine ⟨⟨Hg.out.size, fun k o hk ho _ => (Hg.out.block k (Array.getElem?_eq_some_iff.1 ho).1 (by have := HAl.out; simp; omega)).trans ho⟩, ⟨Hg.out.size, Hg.out.block _ (by omega) (by have := HAl.out; simp; omega), Hg.out.block _ (by omega) (by have := HAl.out; simp; omega)⟩, ⟨Nat.lt_of_lt_of_le hAW Hg.out.size, setP p v0 0, ?_⟩⟩
    have e : initC (vals (pre ++ [⟨v0, hv0⟩])) = setC (initC (vals pre)) v0 0 1 := by rw [vals_snoc, initC_snoc]
    rw [e, List.length_append]
    exact HU.out
  case done =>
    rintro D zs W hD rfl ⟨hAW, p, hI⟩ hK
    rw [aroundL_len _ _ _ (by omega), vals_around _ (by omega) _ (Nat.le_refl _)] at hI
    have HI := Lib.hid hI
    have HK := Lib.hid hK
    have hDl : D < W.heap.size := (Array.getElem?_eq_some_iff.1 hK).1
    clear hI hK HE5
    simp only
    gi_wp2_with fail
    gi_loopw [21] (fun i wr => ∃ (j mb k : Nat) (p : Nat → Nat → Bool), j ≤ xs.length ∧ i = .int .i64 j ∧ k ≤ cs.length * 3 ^ j ∧ EA w n g c0 cs mb k m (cntK n cs m xs j) p wr ∧ wr.heap[D]? = some (.deferred (some [])) ∧ mb ≠ D) (fun i _ => xs.length - (intOf i).toNat)
    case atStart => exact ⟨0, w.heap.size + 1, cs.length, p, Nat.zero_le _, rfl, by omega, HI.out, HK.out, by have := HAl.out; omega⟩
    case round =>
      obtain ⟨j, mb, k, q, hj, rfl, hk, hE, hDD, hmbD⟩ := hrel
      clear HI HK
      by_cases hlt : j < xs.length
      · have hc := (HX.out.below hE.bl hxb) j hlt
        have m0 : wr.cell? ⟨w.heap.size + 2, 0, none⟩ = some (.map (some mb)) := hE.mv.cell' 0 rfl
        have x0 := hE.bx.cell' 0 rfl
        have x1 := hE.bx.cell' 1 rfl
        have x2 := hE.bx.cell' 2 rfl
        have hk2 : k ≤ 10000 := by
          have h3 : 3 ^ j ≤ 81 := Nat.le_trans (Nat.pow_le_pow_right (by omega) (show j ≤ 4 by omega)) (by decide)
          have := Nat.mul_le_mul l1 h3
          omega
        have HF := Lib.hid (chainFurther_any n g c0 mb k m (nthI xs j) cs (cntK n cs m xs j) q wr ⟨hE.cd, HV.out.ok⟩ hE.mp hm (HT.out j hj) hk2)
        have HE := Lib.hid hE
        have HD := Lib.hid (And.intro hDD hmbD)
        have hj0 : (0 : Int) ≤ (j : Int) := by omega
        have hj1 : (j : Int) < (xs.length : Int) := by omega
        clear hE hDD hmbD
        gi_wp2_with fail
        refine wideCall HF.out ?_
        rintro e w7 ⟨mb2, kk, q2, rfl, hm7, hk7, hlo7, hb7⟩
        have HE7 := Lib.hid (HE.out.next hb7)
        have f0 := HE7.out.mv.frozen 0
        have m0 := HE7.out.mv.cell' 0 rfl
        have hz7 := HE7.out.mv.lt
        have HM7 := Lib.hid hm7
        have hD7 := (hb7.block D (by have := (Array.getElem?_eq_some_iff.1 HD.out.1).1; omega)).trans HD.out.1
        have hzr := HE.out.mv.lt
        have hDr : D < wr.heap.size := (Array.getElem?_eq_some_iff.1 HD.out.1).1
        have hs7 := hb7.size
        clear hb7 hm7 x0 x1 x2 hc HF
        gi_wp2
        go_roundw
        case rel =>
          refine ⟨j + 1, mb2, kk, q2, by omega, by go_num, ?_, HE7.out.store HM7.out (by omega) (by omega), ?_, by omega⟩
          · rw [Nat.pow_succ]
            have : 3 * k ≤ 3 * (cs.length * 3 ^ j) := Nat.mul_le_mul_left 3 hk
            have e : cs.length * (3 ^ j * 3) = 3 * (cs.length * 3 ^ j) := by rw [← Nat.mul_assoc, Nat.mul_comm]
            omega
          · exact ((grownBy_setCell' w7 (w.heap.size + 2) (.map (some mb2))).block D (by omega) (by have := HAl.out; simp; omega)).trans hD7
        case measure => simp [intOf]; omega
      · have hjl : j = xs.length := by omega
        have hk9 : k ≤ 20000 := by
          have h3 : 3 ^ j ≤ 243 := Nat.le_trans (Nat.pow_le_pow_right (by omega) (show j ≤ 5 by omega)) (by decide)
          have := Nat.mul_le_mul l1 h3
          omega
        have m0 : wr.cell? ⟨w.heap.size + 2, 0, none⟩ = some (.map (some mb)) := hE.mv.cell' 0 rfl
        have HE : Hid (EA w n g c0 cs mb k m (cntK n cs m xs xs.length) q wr) := Lib.hid (by rw [hjl] at hE; exact hE)
        have HD := Lib.hid (And.intro hDD hmbD)
        clear hE hDD hmbD hjl
        have hDw : w.heap.size ≤ D := by have := HAl.out; omega
        gi_wp2
        refine ⟨by simp, .inl ⟨_, _, rfl, run_takeDeferred HD.out.1, ?_⟩⟩
        have hg := grownBy_putObj' wr D (.deferred none)
        refine ⟨.map (some mb), ?_, mb, k, q, rfl, HE.out.mp.kept hg (by simpa using HD.out.2), hk9, HE.out.bl.grown hg HE.out.bl.size (fun r e => by cases e; exact hDw)⟩
        simp [results, Try.f196, go_sem]
  case stop =>
    rintro D c pre W _ _ h _
    exact h.elim
end Go.Proofs.Ytdmgffoikebgkaa
/- Package chain: checkCloth and checkFaults, where nothing is wrong. -/
namespace Go.Proofs.Ytdmgffoikebgkaa
open Go.RowKit Go.Shelf
attribute [local go_sem] Oper.semAt_some

/-- a pick of a cloth that can be one -/
def PickOk (n : Nat) (pick : Int) : Prop := pick = -1 ∨ ∃ r : Nat, pick = (r : Int) ∧ r < 2 ^ n
theorem wrongPick_ok (pick : Int) (B n : Nat) (w : World) (hn : n ≤ 24) (hB : w.cell? ⟨B, 0, none⟩ = some (.int .i64 (n : Int))) (hp : PickOk n pick) :
    Calls Try.prog 200 #[.int .i64 pick, .pointer (some ⟨B, 0, none⟩)] w fun e w' => e = .returned (.bool false) ∧ Below w.heap.size w w' := by
  by_cases h1 : pick = -1
  · subst h1
    go_enter Try.func200, Try.ntmps200
    go_wp2_with fail
    go_ret
    exact ⟨rfl, Below.refl _ _⟩
  · obtain ⟨r, rfl, hr⟩ : ∃ r : Nat, pick = (r : Int) ∧ r < 2 ^ n := by rcases hp with h | h; exact absurd h h1; exact h
    have hne : ((r : Int) != -1) = true := by simp
    have HA := Lib.hid (chainRow_one n r w.heap.size 0 1 (w.alloc (.cells #[.int .i64 (r : Int)] 3)) hn hr (by simp))
    clear hp h1
    go_enter Try.func200, Try.ntmps200
    go_wp2_with fail
    refine HA.out.mono ?_
    rintro e w' ⟨rfl, rfl⟩
    go_wp2_with fail
    go_ret
    exact ⟨rfl, (Below.refl _ _).alloc (Nat.le_refl _) _⟩
set_option maxHeartbeats 1000000 in
theorem indexPick_ok (b off c B n : Nat) (xs : List Int) (w : World) (hn : n ≤ 24) (hl : xs.length ≤ 1000) (hx : IntsAt w b off xs) (hb : b < w.heap.size) (hB : w.cell? ⟨B, 0, none⟩ = some (.int .i64 (n : Int))) (hp : ∀ i, i < xs.length → PickOk n (nthI xs i)) :
    Calls Try.prog 222 #[.slice (some ⟨b, off, none⟩) xs.length c, .func (.func 200) #[] #[.pointer (some ⟨B, 0, none⟩)]] w fun e w' => e = .returned (.int .i64 (-1)) ∧ Below w.heap.size w w' := by
  go_enter Try.func222, Try.ntmps222
  go_wp2
  go_loopw [8] (fun i wr => ∃ k : Nat, k ≤ xs.length ∧ i = .int .i64 k ∧ Below w.heap.size w wr) (fun i _ => xs.length - (intOf i).toNat)
  case atStart => exact ⟨0, Nat.zero_le _, rfl, Below.refl _ _⟩
  case round =>
    obtain ⟨k, hk, rfl, hbl⟩ := hrel
    by_cases hlt : k < xs.length
    · have hc := (hx.below hbl hb) k hlt
      have HC := Lib.hid (wrongPick_ok (nthI xs k) B n wr hn (cell_next hbl hB) (hp k hlt))
      have Hb := Lib.hid hbl
      have hk0 : (0 : Int) ≤ (k : Int) := by omega
      have hk1 : (k : Int) < (xs.length : Int) := by omega
      clear hbl
      go_wp2_with fail
      refine HC.out.mono ?_
      rintro e w' ⟨rfl, hb2⟩
      have Hb2 := Lib.hid (Hb.out.trans (hb2.mono Hb.out.size))
      clear hb2 hc
      go_wp2
      go_roundw
      case rel => exact ⟨k + 1, by omega, by go_num, Hb2.out⟩
      case measure => simp [intOf]; omega
    · have Hb := Lib.hid hbl
      clear hbl
      go_wp2
      go_ret
      exact ⟨rfl, Hb.out⟩
theorem anyPick_ok (b off c B n : Nat) (xs : List Int) (w : World) (hn : n ≤ 24) (hl : xs.length ≤ 1000) (hx : IntsAt w b off xs) (hb : b < w.heap.size) (hB : w.cell? ⟨B, 0, none⟩ = some (.int .i64 (n : Int))) (hp : ∀ i, i < xs.length → PickOk n (nthI xs i)) :
    Calls Try.prog 201 #[.slice (some ⟨b, off, none⟩) xs.length c, .func (.func 200) #[] #[.pointer (some ⟨B, 0, none⟩)]] w fun e w' => e = .returned (.bool false) ∧ Below w.heap.size w w' := by
  have H := Lib.hid (indexPick_ok b off c B n xs w hn hl hx hb hB hp)
  clear hx hB hp
  go_enter Try.func201, Try.ntmps201
  go_wp2_with fail
  refine H.out.mono ?_
  rintro e w' ⟨rfl, hb2⟩
  have Hb2 := Lib.hid hb2
  clear hb2
  go_wp2_with fail
  go_ret
  exact ⟨rfl, Hb2.out⟩
set_option maxHeartbeats 1000000 in
theorem checkCloth_ok (n g c0 b off cx : Nat) (xs : List Int) (cs : List Card) (w : World) (hv : BAt w g n cs) (hx : IntsAt w b off xs) (hxb : b < w.heap.size) (hl : xs.length ≤ 60) (hp : ∀ i, i < xs.length → PickOk n (nthI xs i)) :
    Calls Try.prog 171 #[.agg #[.int .i64 (n : Int), .slice (some ⟨g, 0, none⟩) cs.length c0], .slice (some ⟨b, off, none⟩) xs.length cx] w fun e w' => e = .returned (.int .i64 0) ∧ Below w.heap.size w w' := by
  have hb1 : Below w.heap.size w (w.alloc (.cells #[.int .i64 (n : Int), .slice (some ⟨g, 0, none⟩) cs.length c0] 114)) := (Below.refl _ _).alloc (Nat.le_refl _) _
  have hB1 : BoxAt (w.alloc (.cells #[.int .i64 (n : Int), .slice (some ⟨g, 0, none⟩) cs.length c0] 114)) w.heap.size #[.int .i64 (n : Int), .slice (some ⟨g, 0, none⟩) cs.length c0] 114 := BoxAt.new _ _ _
  have HC := Lib.hid (chainCheck_ok n g c0 cs _ (hv.next hb1))
  have Hb1 := Lib.hid hb1
  have HB1 := Lib.hid hB1
  have HX := Lib.hid hx
  have hn := hv.ok.n1
  have hd4 : decide ((60 : Int) < (xs.length : Int)) = false := by simp; omega
  clear hv hb1 hB1 hx
  go_enter Try.func171, Try.ntmps171
  go_wp2_with fail
  refine HC.out.mono ?_
  rintro e w2 ⟨rfl, hb2⟩
  have Hb2 := Lib.hid (Hb1.out.trans (hb2.mono Hb1.out.size))
  have HA := Lib.hid (anyPick_ok b off cx w.heap.size n xs w2 hn (by omega) (HX.out.below (Hb1.out.trans (hb2.mono Hb1.out.size)) hxb) (Nat.lt_of_lt_of_le hxb (Hb1.out.trans (hb2.mono Hb1.out.size)).size) ((HB1.out.next hb2).cell' 0 rfl) hp)
  clear hb2
  go_wp2_with fail
  refine HA.out.mono ?_
  rintro e w3 ⟨rfl, hb3⟩
  have Hb3 := Lib.hid (Hb2.out.trans (hb3.mono Hb2.out.size))
  clear hb3
  go_wp2_with fail
  go_ret
  exact ⟨rfl, Hb3.out⟩
set_option maxHeartbeats 1000000 in
theorem checkFaults_ok (n g c0 b off cx m : Nat) (xs : List Int) (cs : List Card) (w : World) (hv : BAt w g n cs) (hx : IntsAt w b off xs) (hxb : b < w.heap.size) (hl : xs.length ≤ 60) (hp : ∀ i, i < xs.length → PickOk n (nthI xs i)) (hm : m ≤ 6) :
    Calls Try.prog 195 #[.agg #[.int .i64 (n : Int), .slice (some ⟨g, 0, none⟩) cs.length c0], .slice (some ⟨b, off, none⟩) xs.length cx, .int .i64 (m : Int)] w fun e w' => e = .returned (.int .i64 0) ∧ Below w.heap.size w w' := by
  have hb1 : Below w.heap.size w (w.alloc (.cells #[.int .i64 (n : Int), .slice (some ⟨g, 0, none⟩) cs.length c0] 114)) := (Below.refl _ _).alloc (Nat.le_refl _) _
  have HC := Lib.hid (checkCloth_ok n g c0 b off cx xs cs _ (hv.next hb1) (hx.below hb1 hxb) (Nat.lt_of_lt_of_le hxb hb1.size) hl hp)
  have Hb1 := Lib.hid hb1
  have hm0 : decide ((m : Int) < 0) = false := by simp
  have hm1 : decide ((6 : Int) < (m : Int)) = false := by simp; omega
  clear hv hb1 hx hp
  go_enter Try.func195, Try.ntmps195
  go_wp2_with fail
  refine HC.out.mono ?_
  rintro e w2 ⟨rfl, hb2⟩
  have Hb2 := Lib.hid (Hb1.out.trans (hb2.mono Hb1.out.size))
  clear hb2
  go_wp2_with fail
  go_ret
  exact ⟨rfl, Hb2.out⟩
end Go.Proofs.Ytdmgffoikebgkaa
/- Package chain: Ways, where nothing is wrong. -/
namespace Go.Proofs.Ytdmgffoikebgkaa
open Go.RowKit Go.Shelf
attribute [local go_sem] Oper.semAt_some

def sumP (l m : Nat) (c : Nat → Nat → Nat) (p d : Nat → Nat → Bool) : Nat := sumD l m fun a f => if p a f = true ∧ d a f = true then c a f else 0
theorem sumP_zero (l m : Nat) (c : Nat → Nat → Nat) (p : Nat → Nat → Bool) : sumP l m c p (fun _ _ => false) = 0 := by
  unfold sumP
  have : sumD l m (fun a f => if p a f = true ∧ false = true then c a f else 0) = sumD l m fun _ _ => 0 * 0 := sumD_congr fun a f _ _ => by simp
  rw [this, sumD_mul, Nat.zero_mul]
theorem sumP_all {l m : Nat} {c : Nat → Nat → Nat} {p d : Nat → Nat → Bool} (hz : ∀ a f, p a f = false → c a f = 0) (hd : ∀ a f, a < l → f ≤ m → p a f = true → d a f = true) : sumP l m c p d = sumD l m c := by
  refine sumD_congr fun a f ha hf => ?_
  cases hp : p a f with
  | true => rw [if_pos ⟨rfl, hd a f ha hf hp⟩]
  | false => rw [if_neg (by simp), hz a f hp]
theorem sumP_step {l m : Nat} {c : Nat → Nat → Nat} {p d : Nat → Nat → Bool} {a f : Nat} (ha : a < l) (hf : f ≤ m) (hp : p a f = true) (hd : d a f = false) : sumP l m c p (setP d a f) = sumP l m c p d + c a f := by
  unfold sumP
  rw [← sumD_one ha hf]
  refine sumD_congr fun x y _ _ => ?_
  unfold setP
  by_cases e : x = a ∧ y = f
  · obtain ⟨rfl, rfl⟩ := e
    simp [hp, hd]
  · simp [e]
theorem sumP_le (l m : Nat) (c : Nat → Nat → Nat) (p d : Nat → Nat → Bool) : sumP l m c p d ≤ sumD l m c := sumD_le fun a f _ _ => by split <;> omega
set_option maxRecDepth 100000 in
set_option maxHeartbeats 4000000 in
theorem ways_any (n g c0 b off cx m : Nat) (xs : List Int) (cs : List Card) (w : World) (hv : BAt w g n cs) (hx : IntsAt w b off xs) (hxb : b < w.heap.size) (hl5 : xs.length ≤ 5) (hp : ∀ i, i < xs.length → PickOk n (nthI xs i)) (hm : m ≤ 6) (hT : ∀ j, j ≤ xs.length → sumD cs.length m (cntK n cs m xs j) ≤ 10000) :
    Calls Try.prog 152 #[.agg #[.int .i64 (n : Int), .slice (some ⟨g, 0, none⟩) cs.length c0], .slice (some ⟨b, off, none⟩) xs.length cx, .int .i64 (m : Int)] w fun e w' =>
      e = .returned (.tuple #[.int .i64 (sumD cs.length m (cntK n cs m xs xs.length) : Int), .int .i64 0]) ∧ Below w.heap.size w w' := by
  have l1 := hv.ok.l1
  have hb1 : Below w.heap.size w (w.alloc (.cells #[.int .i64 (n : Int), .slice (some ⟨g, 0, none⟩) cs.length c0] 114)) := (Below.refl _ _).alloc (Nat.le_refl _) _
  have hB1 : BoxAt (w.alloc (.cells #[.int .i64 (n : Int), .slice (some ⟨g, 0, none⟩) cs.length c0] 114)) w.heap.size #[.int .i64 (n : Int), .slice (some ⟨g, 0, none⟩) cs.length c0] 114 := BoxAt.new _ _ _
  have HC := Lib.hid (checkFaults_ok n g c0 b off cx m xs cs _ (hv.next hb1) (hx.below hb1 hxb) (Nat.lt_of_lt_of_le hxb hb1.size) (by omega) hp hm)
  have HV := Lib.hid hv
  have HX := Lib.hid hx
  have HT := Lib.hid hT
  have HTl := Lib.hid (hT _ (Nat.le_refl _))
  have Hb1 := Lib.hid hb1
  have HB1 := Lib.hid hB1
  clear hv hx hT hb1 hB1 hp
  go_enter Try.func152, Try.ntmps152
  go_wp2_with fail
  refine HC.out.mono ?_
  rintro e w2 ⟨rfl, hb2⟩
  have hb02 := Hb1.out.trans (hb2.mono Hb1.out.size)
  have k0 := (HB1.out.next hb2).cell' 0 rfl
  have k1 := (HB1.out.next hb2).cell' 1 rfl
  have hz2 := (HB1.out.next hb2).lt
  have HBO := Lib.hid (beltOf_any n g cs.length c0 w2)
  have Hb2 := Lib.hid hb02
  clear hb2 hb02 HC
  go_wp2_with fail
  refine HBO.out.mono ?_
  rintro e w3 ⟨rfl, hb3⟩
  have hb03 := Hb2.out.trans (hb3.mono Hb2.out.size)
  have HEn := Lib.hid (ends_any n g c0 b off cx m xs cs w3 (HV.out.next hb03) (HX.out.below hb03 hxb) (Nat.lt_of_lt_of_le hxb hb03.size) hl5 hm HT.out)
  have Hb3 := Lib.hid hb03
  clear hb3 hb03 k0 k1 hz2
  go_wp2_with fail
  refine HEn.out.mono ?_
  rintro e w4 ⟨mb, kk, q, rfl, hm4, hk4, hb4⟩
  have Hb4 := Lib.hid (Hb3.out.trans (hb4.mono Hb3.out.size))
  have HM4 := Lib.hid hm4
  obtain ⟨c, hc⟩ : ∃ c, cntK n cs m xs xs.length = c := ⟨_, rfl⟩
  rw [hc] at HM4 HTl
  have Hc := Lib.hid hc
  obtain ⟨l, hl⟩ : ∃ l, cs.length = l := ⟨_, rfl⟩
  rw [hl] at HM4 HTl l1
  have Hl := Lib.hid hl
  clear hb4 hm4 hc hl HEn
  go_wp2_with (first
    | (at_range; refine wpList_range_st rfl _ rfl rfl HM4.out ?_; intro w5 cnt0 hrg0 hg0 hs0)
    | go_in)
  go_frame
  have HR0 := Lib.hid hrg0
  have Hb5 := Lib.hid (Hb4.out.grown hg0 Hb4.out.size (fun j hj => by cases hj))
  obtain ⟨r, hr⟩ : ∃ r, w4.heap.size = r := ⟨_, rfl⟩
  rw [hr] at HR0 ⊢
  have hlo : w.heap.size ≤ r := by have := Hb4.out.size; omega
  clear hrg0 hg0 hs0 hr HM4 Hb4
  go_loopw [9, 11] (fun v _ wr => ∃ (d : Nat → Nat → Bool) (cnt : Nat), v = .int .i64 (sumP l m c q d : Int) ∧ Rng wr mb r kk l m c q d cnt ∧ Below w.heap.size w wr) (fun _ _ wr => wr.rangeLeft mb r)
  case atStart => exact ⟨_, _, by rw [sumP_zero]; rfl, HR0.out, Hb5.out⟩
  case round =>
    obtain ⟨d, cnt, rfl, hR, hbl⟩ := hrel
    clear HR0 Hb5
    go_wp2_with (first
      | (at_next; refine wpList_next_st rfl _ rfl (by omega) (by omega) rfl hR ?_ ?_)
      | go_in)
    · intro hdone
      have hs := sumP_all (l := l) (m := m) (c := c) (p := q) (d := d) (by obtain ⟨D, left, _, a2, _⟩ := hR; exact a2.zero) hdone
      have Hs := Lib.hid hs
      have Hb := Lib.hid hbl
      clear hR hdone hs hbl
      go_wp2
      go_ret2
      exact ⟨by rw [Hs.out, Hl.out, Hc.out]; rfl, Hb.out⟩
    · intro a f w1 cnt1 ha hf hp hd hrg1 hlt hg1 hs1 hen
      have hst := sumP_step (c := c) ha hf hp hd
      have hle := sumP_le l m c q (setP d a f)
      have hT := HTl.out
      have HR1 := Lib.hid hrg1
      have Hb := Lib.hid (hbl.grown hg1 hbl.size (fun j hj => by cases hj; exact hlo))
      have Hms := Lib.hid hR.left_eq
      obtain ⟨s, hsd⟩ : ∃ s, sumP l m c q d = s := ⟨_, rfl⟩
      obtain ⟨s', hsd'⟩ : ∃ s', sumP l m c q (setP d a f) = s' := ⟨_, rfl⟩
      rw [hsd'] at hst hle
      rw [hsd] at hst ⊢
      have Hst := Lib.hid hst
      have hb0 : s + c a f ≤ 10000 := by omega
      have Hsd' := Lib.hid hsd'
      clear hR hrg1 hg1 hs1 hbl hst hle hT hsd hsd' hp hd
      simp only [stV] at hen ⊢
      go_wp2
      go_roundw
      case rel => exact ⟨setP d a f, cnt1, by rw [Hsd'.out, Hst.out]; push_cast; rfl, HR1.out, Hb.out⟩
      case measure => rw [HR1.out.left_eq, Hms.out]; exact hlt
end Go.Proofs.Ytdmgffoikebgkaa
