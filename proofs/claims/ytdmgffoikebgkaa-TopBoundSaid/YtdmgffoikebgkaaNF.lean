/- Package chain: further, on a map of counts. -/
import Derived.Test.YtdmgffoikebgkaaMG
import Derived.Test.YtdmgffoikebgkaaNE
import Derived.Test.YtdmgffoikebgkaaHG
namespace Go.Proofs.Ytdmgffoikebgkaa
open Go.RowKit Go.Shelf
attribute [local go_sem] Oper.semAt_some

theorem Rng.cnt_le {w : World} {b r n L m : Nat} {c : Nat → Nat → Nat} {p d : Nat → Nat → Bool} {cnt : Nat} (h : Rng w b r n L m c p d cnt) : cnt ≤ n := by
  obtain ⟨D, left, ⟨es, clock, since, seen, c0, _, _, hs, _, _, _, hc, _⟩, _⟩ := h
  have : (leftOf es seen).size ≤ es.size := by unfold leftOf; exact Array.size_filter_le
  omega
theorem cards_kept {W W' : World} {g : Nat} {cs : List Card} {row : Option Nat} (h : CardsAt W g cs) (hg : W.grownBy W' row) (hne : some g ≠ row) : CardsAt W' g cs :=
  ⟨fun i hi => (World.cell?_of_block (w := W) (hg.block g h.lt hne)).trans (h.c0 i hi), fun i hi => (World.cell?_of_block (w := W) (hg.block g h.lt hne)).trans (h.c1 i hi), fun i hi => (World.cell?_of_block (w := W) (hg.block g h.lt hne)).trans (h.c2 i hi), Nat.lt_of_lt_of_le h.lt hg.size⟩
/-- where 'further' has come to -/
structure FA (w : World) (n g l c0 : Nat) (cs : List Card) (b r nb k m K3 : Nat) (c : Nat → Nat → Nat) (p d : Nat → Nat → Bool) (cnt kn : Nat) (pn : Nat → Nat → Bool) (N : Nat → Nat → Nat) (W : World) : Prop where
  bx : BoxAt W w.heap.size #[.int .i64 (n : Int), .int .i64 (l : Int), .slice (some ⟨g, 0, none⟩) l c0] 211
  cd : CardsAt W g cs
  rg : Rng W b r k l m c p d cnt
  nx : CMap W nb kn l m N pn
  bl : Below w.heap.size w W
  pl : b < w.heap.size ∧ g < w.heap.size ∧ w.heap.size < nb ∧ nb < r
  sz : kn + 3 * cnt ≤ K3
section
variable {w : World} {n g l c0 : Nat} {cs : List Card} {b r nb k m K3 : Nat} {c : Nat → Nat → Nat} {p d : Nat → Nat → Bool} {cnt kn : Nat} {pn : Nat → Nat → Bool} {N : Nat → Nat → Nat} {W W' : World}
theorem FA.next (h : FA w n g l c0 cs b r nb k m K3 c p d cnt kn pn N W) (hb : Below W.heap.size W W') : FA w n g l c0 cs b r nb k m K3 c p d cnt kn pn N W' :=
  ⟨h.bx.next hb, h.cd.next hb, h.rg.next hb, h.nx.next hb, h.bl.trans (hb.mono h.bl.size), h.pl, h.sz⟩
theorem FA.iter (h : FA w n g l c0 cs b r nb k m K3 c p d cnt kn pn N W) {d' : Nat → Nat → Bool} {cnt' : Nat} (hr : Rng W' b r k l m c p d' cnt') (hlt : cnt' < cnt) (hg : W.grownBy W' (some r)) :
    FA w n g l c0 cs b r nb k m (K3 - 3) c p d' cnt' kn pn N W' ∧ kn + 3 * cnt' + 3 ≤ K3 := by
  obtain ⟨e1, e2, e3, e4⟩ := h.pl
  have hsz := h.sz
  exact ⟨⟨h.bx.kept hg (by simp; omega), cards_kept h.cd hg (by simp; omega), hr, h.nx.kept hg (by simp; omega), h.bl.grown hg h.bl.size (fun j hj => by cases hj; omega), h.pl, by omega⟩, by omega⟩
theorem FA.upd (h : FA w n g l c0 cs b r nb k m K3 c p d cnt kn pn N W) {N' : Nat → Nat → Nat} {pn' : Nat → Nat → Bool} (hn : CMap W' nb (kn + 1) l m N' pn') (hg : W.grownBy W' (some nb)) :
    FA w n g l c0 cs b r nb k m (K3 + 1) c p d cnt (kn + 1) pn' N' W' := by
  obtain ⟨e1, e2, e3, e4⟩ := h.pl
  have hsz := h.sz
  exact ⟨h.bx.kept hg (by simp; omega), cards_kept h.cd hg (by simp; omega), h.rg.kept hg (by simp; omega) (by simp; omega), hn, h.bl.grown hg h.bl.size (fun j hj => by cases hj; omega), h.pl, by omega⟩
theorem FA.more (h : FA w n g l c0 cs b r nb k m K3 c p d cnt kn pn N W) {K' : Nat} (hK : K3 ≤ K') : FA w n g l c0 cs b r nb k m K' c p d cnt kn pn N W := ⟨h.bx, h.cd, h.rg, h.nx, h.bl, h.pl, Nat.le_trans h.sz hK⟩
end
def stepsC (l m a f many : Nat) (N : Nat → Nat → Nat) : Nat → Nat → Nat → Nat
  | 0 => N
  | s + 1 => stepC l m a f many s (stepsC l m a f many N s)
theorem stepsC_le (l m a f many : Nat) (N : Nat → Nat → Nat) (a' f' : Nat) : ∀ s, stepsC l m a f many N s a' f' ≤ N a' f' + s * many
  | 0 => by simp [stepsC]
  | s + 1 => by
    show stepC l m a f many s (stepsC l m a f many N s) a' f' ≤ _
    rw [stepC_at]
    have := stepsC_le l m a f many N a' f' s
    have := inc_le l m a f many s a' f'
    rw [Nat.add_mul]
    omega
set_option maxRecDepth 100000 in
set_option maxHeartbeats 4000000 in
theorem chainFurther_any (n g c0 b k m : Nat) (pick : Int) (cs : List Card) (c : Nat → Nat → Nat) (p : Nat → Nat → Bool) (w : World) (hv : BAt w g n cs) (hmap : CMap w b k cs.length m c p) (hm : m ≤ 6) (hT : sumD cs.length m c ≤ 10000) (hk : k ≤ 10000) :
    Calls Try.prog 221 #[.agg #[.int .i64 (n : Int), .int .i64 (cs.length : Int), .slice (some ⟨g, 0, none⟩) cs.length c0], .map (some b), .int .i64 pick, .int .i64 (m : Int)] w fun e w' =>
      ∃ b' k' p', e = .returned (.map (some b')) ∧ CMap w' b' k' cs.length m (furtherC cs.length m (fun a => wv pick (liftN n (nthC cs a))) c) p' ∧ k' ≤ 3 * k ∧ w.heap.size ≤ b' ∧ Below w.heap.size w w' := by
  have hmm := @run_makeMap Try.prog
  have l1 := hv.ok.l1
  have l0 := hv.ok.l0
  have hbw := hmap.lt
  have hgw := hv.lt
  have hok := hv.ok
  obtain ⟨w0, hw0⟩ : ∃ w0, w0 = w.alloc (.cells #[.int .i64 (n : Int), .int .i64 (cs.length : Int), .slice (some ⟨g, 0, none⟩) cs.length c0] 211) := ⟨_, rfl⟩
  obtain ⟨l, hl⟩ : ∃ l, cs.length = l := ⟨_, rfl⟩
  have hbe : Below w.heap.size w ((w.alloc (.cells #[.int .i64 (n : Int), .int .i64 (l : Int), .slice (some ⟨g, 0, none⟩) l c0] 211)).alloc (.map #[] 0)) := ((Below.refl _ _).alloc (Nat.le_refl _) _).alloc (by simp) _
  rw [hl] at hmap hT l1 l0
  have hmap2 := hmap.next hbe
  have e1 : ((w.alloc (.cells #[.int .i64 (n : Int), .int .i64 (l : Int), .slice (some ⟨g, 0, none⟩) l c0] 211)).alloc (.map #[] 0)).heap.size = w.heap.size + 2 := by simp
  have hbx0 : BoxAt ((w.alloc (.cells #[.int .i64 (n : Int), .int .i64 (l : Int), .slice (some ⟨g, 0, none⟩) l c0] 211)).alloc (.map #[] 0)) w.heap.size #[.int .i64 (n : Int), .int .i64 (l : Int), .slice (some ⟨g, 0, none⟩) l c0] 211 := (BoxAt.new _ _ _).next ((Below.refl _ _).alloc (Nat.le_refl _) _)
  have hcd0 := hv.at'.next hbe
  have hnx0 : CMap ((w.alloc (.cells #[.int .i64 (n : Int), .int .i64 (l : Int), .slice (some ⟨g, 0, none⟩) l c0] 211)).alloc (.map #[] 0)) (w.heap.size + 1) 0 l m (fun _ _ => 0) (fun _ _ => false) := by
    have := CMap.made (w.alloc (.cells #[.int .i64 (n : Int), .int .i64 (l : Int), .slice (some ⟨g, 0, none⟩) l c0] 211)) l m
    rwa [World.size_alloc] at this
  have Hl := Lib.hid hl
  have HV := Lib.hid hv
  have Hmap2 := Lib.hid hmap2
  have HE := Lib.hid (And.intro hbe (And.intro hbx0 (And.intro hcd0 hnx0)))
  have Hok := Lib.hid hok
  have HT := Lib.hid hT
  rw [hl]
  clear hl hv hmap hmap2 hbe hbx0 hcd0 hnx0 hok hT hw0 w0
  go_enter Try.func221, Try.ntmps221
  go_wp2_with (first
    | (at_range; refine wpList_range_st rfl _ rfl rfl Hmap2.out ?_; intro w0 cnt0 hrg0 hg0 hs0)
    | go_in)
  go_frame
  rw [e1] at hrg0 hs0 ⊢
  have hF0 : FA w n g l c0 cs b (w.heap.size + 2) (w.heap.size + 1) k m (3 * k) c p (fun _ _ => false) cnt0 0 (fun _ _ => false) (part l m (fun a => wv pick (liftN n (nthC cs a))) c p (fun _ _ => false)) w0 :=
    ⟨HE.out.2.1.kept hg0 (by simp), cards_kept HE.out.2.2.1 hg0 (by simp), hrg0, by rw [part_zero]; exact HE.out.2.2.2.kept hg0 (by simp), HE.out.1.grown hg0 (by simp; omega) (fun j hj => by cases hj), ⟨hbw, hgw, by omega, by omega⟩, by have := hrg0.cnt_le; omega⟩
  have HF0 := Lib.hid hF0
  clear hF0 hrg0 hg0 hs0 HE Hmap2
  go_loopw [11] (fun _ wr => ∃ (d : Nat → Nat → Bool) (cnt kn : Nat) (pn : Nat → Nat → Bool), FA w n g l c0 cs b (w.heap.size + 2) (w.heap.size + 1) k m (3 * k) c p d cnt kn pn (part l m (fun a => wv pick (liftN n (nthC cs a))) c p d) wr) (fun _ wr => wr.rangeLeft b (w.heap.size + 2))
  case atStart => exact ⟨_, _, _, _, HF0.out⟩
  case round =>
    obtain ⟨d, cnt, kn, pn, hF⟩ := hrel
    clear HF0
    go_wp2_with (first
      | (at_next; refine wpList_next_st rfl _ rfl (by omega) (by omega) rfl hF.rg ?_ ?_)
      | go_in)
    · intro hdone
      have HF := Lib.hid hF
      have Hd := Lib.hid hdone
      clear hF hdone
      go_wp2
      go_ret
      have hp := part_all (wf := fun a => wv pick (liftN n (nthC cs a))) (by obtain ⟨D, left, _, a2, _⟩ := HF.out.rg; exact a2.zero) Hd.out
      refine ⟨w.heap.size + 1, kn, pn, rfl, ?_, by have := HF.out.sz; omega, by omega, HF.out.bl⟩
      rw [← hp]
      exact HF.out.nx
    · intro a f w1 cnt1 ha hf hp hd hrg1 hlt hg1 hs1 hen
      obtain ⟨hF1, hsz1⟩ := hF.iter hrg1 hlt hg1
      have hmeas := hF.rg.left_eq
      have hb2 : Below w1.heap.size w1 (w1.alloc (.cells #[.int .i64 (a : Int), .int .i64 (f : Int)] 249)) := (Below.refl _ _).alloc (Nat.le_refl _) _
      have hF2 := hF1.next hb2
      have hS2 : BoxAt (w1.alloc (.cells #[.int .i64 (a : Int), .int .i64 (f : Int)] 249)) w1.heap.size #[.int .i64 (a : Int), .int .i64 (f : Int)] 249 := BoxAt.new _ _ _
      have hwv := weaves_any n g c0 a pick cs _ ⟨hF2.cd, Hok.out⟩ (by rw [Hl.out]; exact ha)
      rw [Hl.out] at hwv
      have Hwv := Lib.hid hwv
      have x0 := hF1.bx.cell' 0 rfl
      have x1 := hF1.bx.cell' 1 rfl
      have x2 := hF1.bx.cell' 2 rfl
      have xl := hF1.bx.lt
      simp only [stV] at hen ⊢
      have HF2 := Lib.hid hF2
      have HS2 := Lib.hid hS2
      have Hpd := Lib.hid (And.intro hp hd)
      have Hms := Lib.hid hmeas
      obtain ⟨S, hS⟩ : ∃ S, S = w1.heap.size := ⟨_, rfl⟩
      have HsS := Lib.hid (show w.heap.size + 2 < S by have := hF1.rg.lt; omega)
      clear hF hF1 hF2 hS2 hwv hb2 hrg1 hg1 hs1 hp hd hmeas
      go_wp2_with fail
      refine Hwv.out.mono ?_
      rintro e w2 ⟨rfl, hb2⟩
      have HF3 := Lib.hid (HF2.out.next hb2)
      have HS3 := Lib.hid (HS2.out.next hb2)
      rw [← hS] at HS3 ⊢
      clear hb2 HF2 HS2 Hwv x0 x1 x2 xl hen hS
      cases hw : wv pick (liftN n (nthC cs a)) with
      | false =>
        have Hw := Lib.hid (step0 (l := l) (m := m) (wf := fun a => wv pick (liftN n (nthC cs a))) (c := c) ha hf Hpd.out.1 Hpd.out.2 hw)
        clear hw
        go_wp2
        go_roundw
        case rel => exact ⟨setP d a f, cnt1, kn, pn, by rw [← Hw.out]; exact HF3.out.more (by omega)⟩
        case measure => rw [HF3.out.rg.left_eq, Hms.out]; exact hlt
      | true =>
        have Hw := Lib.hid (step3 (l := l) (m := m) (wf := fun a => wv pick (liftN n (nthC cs a))) (c := c) ha hf Hpd.out.1 Hpd.out.2 hw)
        clear hw
        go_wp2_with fail
        go_loopw [29] (fun i wr => ∃ (s kn2 : Nat) (pn2 : Nat → Nat → Bool), s ≤ 3 ∧ i = .int .i64 s ∧ FA w n g l c0 cs b (w.heap.size + 2) (w.heap.size + 1) k m (3 * k - 3 + s) c p (setP d a f) cnt1 kn2 pn2 (stepsC l m a f (c a f) (part l m (fun a => wv pick (liftN n (nthC cs a))) c p d) s) wr ∧ BoxAt wr S #[.int .i64 (a : Int), .int .i64 (f : Int)] 249) (fun i _ => 3 - (intOf i).toNat)
        case atStart => exact ⟨0, kn, pn, by omega, rfl, HF3.out.more (by omega), HS3.out⟩
        case round =>
          obtain ⟨s, kn2, pn2, hs, rfl, hG, hS4⟩ := hrel
          clear HF3 HS3
          by_cases hlt3 : s < 3
          · have hfl : flt s ≤ 1 := by unfold flt; split <;> omega
            have HG := Lib.hid hG
            have HS4 := Lib.hid hS4
            clear hG hS4
            go_wp2_with fail
            refine region_after [32, 33, 34, 35, 36, 37, 38, 39, 40, 41, 42, 43, 44, 13, 56] 4 10 12 w.heap.size S l a f s rfl ?hops rfl (by kernel_rfl) (by kernel_rfl) (by kernel_rfl) (by decide) ?hsz ?hout (HG.out.bx.cell' 1 rfl) HS4.out (by omega) (by omega) (by omega) (by omega) (by omega) ?hend
            case hops => exact ⟨⟨_, _, _, rfl, by kernel_rfl⟩, ⟨_, _, _, rfl, by kernel_rfl⟩, ⟨_, _, _, rfl, by kernel_rfl⟩, ⟨_, _, _, rfl, by kernel_rfl⟩, ⟨_, _, _, rfl, by kernel_rfl⟩, ⟨_, _, _, rfl, by kernel_rfl⟩, ⟨_, _, _, rfl, by kernel_rfl⟩, ⟨_, _, _, rfl, by kernel_rfl⟩, ⟨_, _, _, rfl, by kernel_rfl⟩, ⟨_, _, _, rfl, by kernel_rfl⟩, ⟨_, _, _, rfl, by kernel_rfl⟩, ⟨_, _, _, rfl, by kernel_rfl⟩, ⟨_, _, _, rfl, by kernel_rfl⟩, ⟨_, _, _, rfl, by kernel_rfl⟩, _, _, _, rfl, by kernel_rfl⟩
            case hsz => intro d hd; simp only [List.mem_cons, List.not_mem_nil, or_false] at hd; show d < 58; omega
            case hout => exact ⟨rfl, by decide, rfl, by decide, rfl, by decide⟩
            case hend =>
              rintro v W3 ⟨D, e1, hDl, hD, hb3⟩
              change v 13 = _ at e1
              simp only [laid, List.foldl, Act.put, List.setIfInBounds_toArray, List.set_cons_succ, List.set_cons_zero, e1]
              generalize v 32 = vu32
              generalize v 33 = vu33
              generalize v 34 = vu34
              generalize v 35 = vu35
              generalize v 36 = vu36
              generalize v 37 = vu37
              generalize v 38 = vu38
              generalize v 39 = vu39
              generalize v 40 = vu40
              generalize v 41 = vu41
              generalize v 42 = vu42
              generalize v 43 = vu43
              generalize v 44 = vu44
              generalize v 56 = vu56
              obtain ⟨y, hy⟩ : ∃ y, f + flt s = y := ⟨_, rfl⟩
              obtain ⟨x, hx⟩ : ∃ x, (a + s) % l = x := ⟨_, rfl⟩
              have hxl : x < l := by rw [← hx]; exact Nat.mod_lt _ (by omega)
              rw [hx, show (f : Int) + (flt s : Int) = (y : Int) by omega] at hD
              have HG3 := Lib.hid (HG.out.next hb3)
              have HS5 := Lib.hid (HS4.out.next hb3)
              have HD := Lib.hid hD
              have hDn : w.heap.size + 1 < D := by have := HG.out.nx.lt; omega
              have Hy := Lib.hid hy
              have Hx := Lib.hid hx
              have d1 := hD.cell' 1 rfl
              have hle : stepsC l m a f (c a f) (part l m (fun a => wv pick (liftN n (nthC cs a))) c p d) s x y ≤ 60000 := by
                have h1 := stepsC_le l m a f (c a f) (part l m (fun a => wv pick (liftN n (nthC cs a))) c p d) x y s
                have h2 := part_le (l := l) (m := m) (wf := fun a => wv pick (liftN n (nthC cs a))) (c := c) (p := p) (d := d) x y
                have h3 := le_sumD ha hf c
                have h4 := HT.out
                have h5 : s * c a f ≤ 3 * c a f := Nat.mul_le_mul_right _ (by omega)
                omega
              have hcf : c a f ≤ 10000 := Nat.le_trans (le_sumD ha hf c) HT.out
              have hkn : kn2 ≤ 100000 := by have := HG.out.sz; omega
              clear e1 v hb3 hD hDl HG HS4 hy hx
              by_cases hym : y ≤ m
              · go_wp2_with fail
                obtain ⟨st, W4, hent, hm4, hg4, hst⟩ := (HG3.out.nx.next (below_drew1 W3)).entry (a := x) (f := y) hxl hym (by omega) (by omega) (by omega) (by omega)
                obtain ⟨W5, hst5, hm5, hg5⟩ := hst (stepsC l m a f (c a f) (part l m (fun a => wv pick (liftN n (nthC cs a))) c p d) s x y + c a f) (by omega)
                have HG4 := Lib.hid (HG3.out.next (below_drew1 W3))
                have HS6 := Lib.hid (HS5.out.next (below_drew1 W3))
                have hSn : S ≠ w.heap.size + 1 := by have := HsS.out; omega
                refine region_bump [49, 50, 51, 52, 53, 54, 55, 56] 9 13 11 (w.heap.size + 1) D x y (stepsC l m a f (c a f) (part l m (fun a => wv pick (liftN n (nthC cs a))) c p d) s x y) (c a f) st rfl ?hops2 rfl (by kernel_rfl) (by kernel_rfl) (by decide) ?hsz2 ?hout2 (HD.out.next (below_drew1 W3)) ((HD.out.next (below_drew1 W3)).kept hg4 (by simp; omega)) (by omega) (HG4.out.nx.lookup (by omega) (by omega)) (hm4.lookup (by omega) (by omega)) hent (by have := hst5; rwa [Int.natCast_add] at this) ?hend2
                case hops2 => exact ⟨⟨_, _, _, rfl, by kernel_rfl⟩, ⟨_, _, _, rfl, by kernel_rfl⟩, ⟨_, _, _, rfl, by kernel_rfl⟩, ⟨_, _, _, rfl, by kernel_rfl⟩, ⟨_, _, _, rfl, by kernel_rfl⟩, ⟨_, _, _, rfl, by kernel_rfl⟩, ⟨_, _, _, rfl, by kernel_rfl⟩, _, _, _, rfl, by kernel_rfl⟩
                case hsz2 => intro d hd; simp only [List.mem_cons, List.not_mem_nil, or_false] at hd; show d < 58; omega
                case hout2 => exact ⟨rfl, by decide, rfl, by decide, rfl, by decide⟩
                case hend2 =>
                  intro v
                  simp only [laid, List.foldl, Act.put, List.setIfInBounds_toArray, List.set_cons_succ, List.set_cons_zero]
                  generalize v 49 = vu49
                  generalize v 50 = vu50
                  generalize v 51 = vu51
                  generalize v 52 = vu52
                  generalize v 53 = vu53
                  generalize v 54 = vu54
                  generalize v 55 = vu55
                  generalize v 56 = vu56
                  have HN := Lib.hid (HG4.out.upd hm5 hg5)
                  have HS7 := Lib.hid (HS6.out.kept hg5 (by simp; omega))
                  clear v hent hm4 hg4 hst hst5 hm5 hg5 HG3 HG4 HS5 HS6 HD d1 hle
                  go_wp2
                  go_roundw
                  case rel =>
                    refine ⟨s + 1, kn2 + 1, setP pn2 x y, by omega, by go_num, ?_, HS7.out⟩
                    have e : stepsC l m a f (c a f) (part l m (fun a => wv pick (liftN n (nthC cs a))) c p d) (s + 1) = setC (stepsC l m a f (c a f) (part l m (fun a => wv pick (liftN n (nthC cs a))) c p d) s) x y (stepsC l m a f (c a f) (part l m (fun a => wv pick (liftN n (nthC cs a))) c p d) s x y + c a f) := by
                      show stepC l m a f (c a f) s _ = _
                      unfold stepC
                      rw [Hx.out, Hy.out, if_pos hym]
                    rw [e]
                    exact HN.out.more (by omega)
                  case measure => simp [intOf]; omega
              · clear HD hle
                go_wp2
                go_roundw
                case rel =>
                  refine ⟨s + 1, kn2, pn2, by omega, by go_num, ?_, HS5.out⟩
                  have e : stepsC l m a f (c a f) (part l m (fun a => wv pick (liftN n (nthC cs a))) c p d) (s + 1) = stepsC l m a f (c a f) (part l m (fun a => wv pick (liftN n (nthC cs a))) c p d) s := by
                    show stepC l m a f (c a f) s _ = _
                    unfold stepC
                    rw [Hy.out, if_neg hym]
                  rw [e]
                  exact HG3.out.more (by omega)
                case measure => simp [intOf]; omega
          · have hs3 : s = 3 := by omega
            have HG : Hid (FA w n g l c0 cs b (w.heap.size + 2) (w.heap.size + 1) k m (3 * k) c p (setP d a f) cnt1 kn2 pn2 (part l m (fun a => wv pick (liftN n (nthC cs a))) c p (setP d a f)) wr) := Lib.hid (by
              rw [hs3] at hG
              rw [← Hw.out]
              exact hG.more (by omega))
            clear hG hS4 hs3 Hw
            go_wp2
            go_roundw
            case rel => exact ⟨setP d a f, cnt1, kn2, pn2, HG.out⟩
            case measure => rw [HG.out.rg.left_eq, Hms.out]; exact hlt
end Go.Proofs.Ytdmgffoikebgkaa
/- Package chain: ends. -/
namespace Go.Proofs.Ytdmgffoikebgkaa
open Go.RowKit Go.Shelf
attribute [local go_sem] Oper.semAt_some

def initC (vs : List Nat) : Nat → Nat → Nat := vs.foldl (fun N a => setC N a 0 1) (fun _ _ => 0)
theorem initC_snoc (vs : List Nat) (a : Nat) : initC (vs ++ [a]) = setC (initC vs) a 0 1 := by simp [initC]
theorem vals_around (l : Nat) (h : 0 < l) : ∀ k, k ≤ l → vals (aroundL l 0 k) = List.range k
  | 0, _ => rfl
  | k + 1, hk => by
    rw [aroundL_succ _ _ _ h, vals_snoc, vals_around l h k (by omega), List.range_succ]
    simp only [Nat.zero_add, Nat.mod_eq_of_lt (show k < l by omega)]
/-- the counts behind so many picks -/
def cntK (n : Nat) (cs : List Card) (m : Nat) (xs : List Int) : Nat → Nat → Nat → Nat
  | 0 => initC (List.range cs.length)
  | j + 1 => furtherC cs.length m (fun a => wv (nthI xs j) (liftN n (nthC cs a))) (cntK n cs m xs j)
structure EA (w : World) (n g c0 : Nat) (cs : List Card) (mb k m : Nat) (N : Nat → Nat → Nat) (p : Nat → Nat → Bool) (W : World) : Prop where
  bx : BoxAt W w.heap.size #[.int .i64 (n : Int), .int .i64 (cs.length : Int), .slice (some ⟨g, 0, none⟩) cs.length c0] 211
  mv : BoxAt W (w.heap.size + 2) #[.map (some mb)] 246
  cd : CardsAt W g cs
  mp : CMap W mb k cs.length m N p
  bl : Below w.heap.size w W
  lo : w.heap.size < mb ∧ mb ≠ w.heap.size + 2 ∧ g < w.heap.size
section
variable {w W W' : World} {n g c0 : Nat} {cs : List Card} {mb k m : Nat} {N : Nat → Nat → Nat} {p : Nat → Nat → Bool}
theorem EA.next (h : EA w n g c0 cs mb k m N p W) (hb : Below W.heap.size W W') : EA w n g c0 cs mb k m N p W' :=
  ⟨h.bx.next hb, h.mv.next hb, h.cd.next hb, h.mp.next hb, h.bl.trans (hb.mono h.bl.size), h.lo⟩
theorem EA.kept {row : Option Nat} (h : EA w n g c0 cs mb k m N p W) (hg : W.grownBy W' row) (hr : ∀ r, row = some r → w.heap.size + 2 < r ∧ r ≠ mb) : EA w n g c0 cs mb k m N p W' := by
  have hne : ∀ x, x ≤ w.heap.size + 2 → some x ≠ row := fun x hx e => by have := (hr x e.symm).1; omega
  exact ⟨h.bx.kept hg (hne _ (by omega)), h.mv.kept hg (hne _ (by omega)), cards_kept h.cd hg (hne _ (by have := h.lo.2.2; omega)), h.mp.kept hg (fun e => (hr mb e.symm).2 rfl), h.bl.grown hg h.bl.size (fun j hj => by have := (hr j hj).1; omega), h.lo⟩
theorem EA.upd (h : EA w n g c0 cs mb k m N p W) {N' : Nat → Nat → Nat} {p' : Nat → Nat → Bool} {k' : Nat} (hg : W.grownBy W' (some mb)) (hm : CMap W' mb k' cs.length m N' p') : EA w n g c0 cs mb k' m N' p' W' := by
  obtain ⟨e1, e2, e3⟩ := h.lo
  exact ⟨h.bx.kept hg (by simp; omega), h.mv.kept hg (by simp; omega), cards_kept h.cd hg (by simp; omega), hm, h.bl.grown hg h.bl.size (fun j hj => by cases hj; omega), h.lo⟩
theorem EA.store (h : EA w n g c0 cs mb k m N p W) {mb' k' : Nat} {N' : Nat → Nat → Nat} {p' : Nat → Nat → Bool} (hm : CMap W mb' k' cs.length m N' p') (hl : w.heap.size < mb') (hn : mb' ≠ w.heap.size + 2) : EA w n g c0 cs mb' k' m N' p' (W.setCell ⟨w.heap.size + 2, 0, none⟩ (.map (some mb'))) := by
  obtain ⟨e1, e2, e3⟩ := h.lo
  have hg : W.grownBy (W.setCell ⟨w.heap.size + 2, 0, none⟩ (.map (some mb'))) (some (w.heap.size + 2)) := grownBy_setCell' W _ _
  refine ⟨h.bx.other _ _ (by simp), by have := h.mv.set 0 (.map (some mb')); exact this, cards_kept h.cd hg (by simp; omega), hm.kept hg (by simpa using hn), h.bl.setCell (by simp) _, hl, hn, e3⟩
end
set_option maxRecDepth 100000 in
set_option maxHeartbeats 4000000 in
theorem ends_any (n g c0 b off cx m : Nat) (xs : List Int) (cs : List Card) (w : World) (hv : BAt w g n cs) (hx : IntsAt w b off xs) (hxb : b < w.heap.size) (hl5 : xs.length ≤ 5) (hm : m ≤ 6) (hT : ∀ j, j ≤ xs.length → sumD cs.length m (cntK n cs m xs j) ≤ 10000) :
    Calls Try.prog 196 #[.agg #[.int .i64 (n : Int), .int .i64 (cs.length : Int), .slice (some ⟨g, 0, none⟩) cs.length c0], .slice (some ⟨b, off, none⟩) xs.length cx, .int .i64 (m : Int)] w fun e w' =>
      ∃ b' k' p', e = .returned (.map (some b')) ∧ CMap w' b' k' cs.length m (cntK n cs m xs xs.length) p' ∧ k' ≤ 20000 ∧ Below w.heap.size w w' := by
  have hmm := @run_makeMap Try.prog
  have l1 := hv.ok.l1
  have l0 := hv.ok.l0
  have hgw := hv.lt
  have hbe : Below w.heap.size w (((w.alloc (.cells #[.int .i64 (n : Int), .int .i64 (cs.length : Int), .slice (some ⟨g, 0, none⟩) cs.length c0] 211)).alloc (.map #[] 0)).alloc (.cells #[.map (some (w.heap.size + 1))] 246)) := (((Below.refl _ _).alloc (Nat.le_refl _) _).alloc (by simp) _).alloc (by simp; omega) _
  have hE0 : EA w n g c0 cs (w.heap.size + 1) 0 m (initC []) (fun _ _ => false) (((w.alloc (.cells #[.int .i64 (n : Int), .int .i64 (cs.length : Int), .slice (some ⟨g, 0, none⟩) cs.length c0] 211)).alloc (.map #[] 0)).alloc (.cells #[.map (some (w.heap.size + 1))] 246)) := by
    refine ⟨((BoxAt.new _ _ _).next ((Below.refl _ _).alloc (Nat.le_refl _) _)).next ((Below.refl _ _).alloc (Nat.le_refl _) _), ?_, hv.at'.next hbe, ?_, hbe, by omega, by omega, hgw⟩
    · have := BoxAt.new ((w.alloc (.cells #[.int .i64 (n : Int), .int .i64 (cs.length : Int), .slice (some ⟨g, 0, none⟩) cs.length c0] 211)).alloc (.map #[] 0)) #[.map (some (w.heap.size + 1))] 246
      rwa [World.size_alloc, World.size_alloc] at this
    · have := (CMap.made (w.alloc (.cells #[.int .i64 (n : Int), .int .i64 (cs.length : Int), .slice (some ⟨g, 0, none⟩) cs.length c0] 211)) cs.length m).next ((Below.refl _ _).alloc (Nat.le_refl _) (.cells #[.map (some (w.heap.size + 1))] 246))
      rwa [World.size_alloc] at this
  have HV := Lib.hid hv
  have HX := Lib.hid hx
  have HT := Lib.hid hT
  have HE0 := Lib.hid hE0
  have k1 := hE0.bx.cell' (v := .int .i64 (cs.length : Int)) 1 rfl
  clear hv hx hT hbe hE0
  obtain ⟨nf, hnf⟩ : ∃ nf : Nat, 10 ≤ nf := ⟨10, Nat.le_refl _⟩
  refine (callsIn_wide (n := nf)).1 ?_
  refine callsIn_of_wp_marks Try.func196 rfl trivial ?_ rfl
  simp only [Try.ntmps196, List.size_toArray, List.length_cons, List.length_nil, Nat.reduceAdd, Nat.reduceSub, Array.replicate_succ, Array.replicate_zero, List.push_toArray, List.append_toArray, List.nil_append, List.cons_append]
  gi_wp2_with fail
  refine wideCall (around_any _ _ _) ?_
  rintro e W5 ⟨rfl, rfl⟩
  obtain ⟨W4, hW4⟩ : ∃ W4, (((w.alloc (.cells #[.int .i64 (n : Int), .int .i64 (cs.length : Int), .slice (some ⟨g, 0, none⟩) cs.length c0] 211)).alloc (.map #[] 0)).alloc (.cells #[.map (some (w.heap.size + 1))] 246)) = W4 := ⟨_, rfl⟩
  rw [hW4] at HE0 k1 ⊢
  have hz4 : W4.heap.size = w.heap.size + 3 := by rw [← hW4]; simp
  have hb5 : Below W4.heap.size W4 ((W4.alloc (.cells #[.int .i64 (cs.length : Int)] 209)).alloc (.cells #[.int .i64 ((0 : Nat) : Int)] 3)) := ((Below.refl _ _).alloc (Nat.le_refl _) _).alloc (by simp) _
  obtain ⟨A, hA⟩ : ∃ A, A = W4.heap.size := ⟨_, rfl⟩
  obtain ⟨W5, hW5⟩ : ∃ W5, (W4.alloc (.cells #[.int .i64 (cs.length : Int)] 209)).alloc (.cells #[.int .i64 ((0 : Nat) : Int)] 3) = W5 := ⟨_, rfl⟩
  have a1 : W5.cell? ⟨A, 0, none⟩ = some (.int .i64 (cs.length : Int)) := by
    rw [← hW5, hA]; exact ((BoxAt.new W4 #[.int .i64 (cs.length : Int)] 209).next ((Below.refl _ _).alloc (Nat.le_refl _) _)).cell' 0 rfl
  have a2 : W5.cell? ⟨A + 1, 0, none⟩ = some (.int .i64 ((0 : Nat) : Int)) := by
    rw [← hW5, hA]
    have := (BoxAt.new (W4.alloc (.cells #[.int .i64 (cs.length : Int)] 209)) #[.int .i64 ((0 : Nat) : Int)] 3).cell' 0 rfl
    rwa [World.size_alloc] at this
  have hz5 : W5.heap.size = A + 2 := by rw [← hW5, hA]; simp
  rw [hW5] at hb5
  have hE5 := HE0.out.next hb5
  have hAl : A = w.heap.size + 3 := by omega
  rw [hW5, ← hA]
  have HE5 := Lib.hid hE5
  have HAl := Lib.hid hAl
  clear hb5 hE5 HE0 k1 hW4 hW5 hA hAl hz4 W4
  gi_wp2_with fail
  refine wpIn_rangeFunc_ownH rfl (by omega) (gf := 223) (lb := #[.pointer (some ⟨A, 0, none⟩), .pointer (some ⟨A + 1, 0, none⟩)]) rfl trivial (enters_of Try.func223 (by kernel_rfl) rfl)
    (around_stops (nf - 1) A cs.length 0 (by omega) (by omega) (by omega) W5 a1 a2) (fun h k => h.trans k) (fun W l o o' hl _ _ _ => Keep2.putObj W o' (by omega) (by omega)) (Below.refl _ _) (fun _ => rfl)
    (fun pre W => A + 1 < W.heap.size ∧ ∃ p, EA w n g c0 cs (w.heap.size + 1) pre.length m (initC (vals pre)) p W) (fun _ _ _ => False) ?own (fun _ _ _ _ _ hs _ _ => hs) ⟨by omega, _, HE5.out⟩
    (fun x a' _ => a' = { tmps := List.toArray (Value.agg #[.int .i64 (n : Int), .int .i64 (cs.length : Int), .slice (some ⟨g, 0, none⟩) cs.length c0] :: Value.slice (some ⟨b, off, none⟩) xs.length cx :: Value.int .i64 (m : Int) :: Value.pointer (some ⟨w.heap.size, 0, none⟩) :: undef :: undef :: Value.map none :: Value.pointer (some ⟨w.heap.size + 1 + 1, 0, none⟩) :: Value.int .i64 (x.1 : Int) :: undef :: undef :: Value.map (some (w.heap.size + 1)) :: Value.pointer (some ⟨w.heap.size, 1, none⟩) :: Value.int .i64 (cs.length : Int) :: Value.func (.func 223) #[] #[.pointer (some ⟨A, 0, none⟩), .pointer (some ⟨A + 1, 0, none⟩)] :: Value.int .i64 (x.1 : Int) :: undef :: undef :: undef :: undef :: undef :: undef :: undef :: undef :: undef :: undef :: undef :: undef :: undef :: undef :: undef :: undef :: []), defers := [] })
    (fun x a' _ X Y row hs hg hr => hs)
    ?assign ?body ?done ?stop
  case own =>
    rintro pre X Y row ⟨h0, p, h⟩ hg hr
    exact ⟨Nat.lt_of_lt_of_le h0 hg.size, p, h.kept hg (fun r e => by have := (hr r e).1; have := HAl.out; omega)⟩
  case assign =>
    rintro l pre x W K hI hK
    gi_wp2
    exact hK _ _ (KeepsFrom.refl _ _) (Keep2.refl _ _) hI rfl
  case body =>
    rintro l pre x a' W hl ⟨r, hr⟩ ⟨hAW, p, hI⟩ rfl hlen
    obtain ⟨v0, hv0⟩ := x
    have hz := hI.mv.lt
    have m0 : W.cell? ⟨w.heap.size + 2, 0, none⟩ = some (.map (some (w.heap.size + 1))) := hI.mv.cell' 0 rfl
    obtain ⟨W', hu, hm', hg'⟩ := hI.mp.update (a := v0) (f := 0) hv0 (by omega) (by omega) (by omega) 1 (by omega) (by omega)
    have hu2 : (Instr.mapUpdate 246 (.map (some (w.heap.size + 1))) (.agg #[.int .i64 (v0 : Int), .int .i64 0]) (.int .i64 1)).run Try.prog W = .ok () W' := hu
    have HU := Lib.hid (hI.upd hg' hm')
    have Hg := Lib.hid hg'
    clear hu hm' hg' hI
    gi_wp2
    refine ⟨⟨Hg.out.size, fun k o hk ho _ => (Hg.out.block k (Array.getElem?_eq_some_iff.1 ho).1 (by have := HAl.out; simp; omega)).trans ho⟩, ⟨Hg.out.size, Hg.out.block _ (by omega) (by have := HAl.out; simp; omega), Hg.out.block _ (by omega) (by have := HAl.out; simp; omega)⟩, ⟨Nat.lt_of_lt_of_le hAW Hg.out.size, setP p v0 0, ?_⟩⟩
    have e : initC (vals (pre ++ [⟨v0, hv0⟩])) = setC (initC (vals pre)) v0 0 1 := by rw [vals_snoc, initC_snoc]
    rw [e, List.length_append]
    exact HU.out
  case done =>
    rintro D zs W hD rfl ⟨hAW, p, hI⟩ hK
    rw [aroundL_len _ _ _ (by omega), vals_around _ (by omega) _ (Nat.le_refl _)] at hI
    have HI := Lib.hid hI
    have HK := Lib.hid hK
    have hDl : D < W.heap.size := (Array.getElem?_eq_some_iff.1 hK).1
    clear hI hK HE5
    simp only
    gi_wp2_with fail
    gi_loopw [21] (fun i wr => ∃ (j mb k : Nat) (p : Nat → Nat → Bool), j ≤ xs.length ∧ i = .int .i64 j ∧ k ≤ cs.length * 3 ^ j ∧ EA w n g c0 cs mb k m (cntK n cs m xs j) p wr ∧ wr.heap[D]? = some (.deferred (some [])) ∧ mb ≠ D) (fun i _ => xs.length - (intOf i).toNat)
    case atStart => exact ⟨0, w.heap.size + 1, cs.length, p, Nat.zero_le _, rfl, by omega, HI.out, HK.out, by have := HAl.out; omega⟩
    case round =>
      obtain ⟨j, mb, k, q, hj, rfl, hk, hE, hDD, hmbD⟩ := hrel
      clear HI HK
      by_cases hlt : j < xs.length
      · have hc := (HX.out.below hE.bl hxb) j hlt
        have m0 : wr.cell? ⟨w.heap.size + 2, 0, none⟩ = some (.map (some mb)) := hE.mv.cell' 0 rfl
        have x0 := hE.bx.cell' 0 rfl
        have x1 := hE.bx.cell' 1 rfl
        have x2 := hE.bx.cell' 2 rfl
        have hk2 : k ≤ 10000 := by
          have h3 : 3 ^ j ≤ 81 := Nat.le_trans (Nat.pow_le_pow_right (by omega) (show j ≤ 4 by omega)) (by decide)
          have := Nat.mul_le_mul l1 h3
          omega
        have HF := Lib.hid (chainFurther_any n g c0 mb k m (nthI xs j) cs (cntK n cs m xs j) q wr ⟨hE.cd, HV.out.ok⟩ hE.mp hm (HT.out j hj) hk2)
        have HE := Lib.hid hE
        have HD := Lib.hid (And.intro hDD hmbD)
        have hj0 : (0 : Int) ≤ (j : Int) := by omega
        have hj1 : (j : Int) < (xs.length : Int) := by omega
        clear hE hDD hmbD
        gi_wp2_with fail
        refine wideCall HF.out ?_
        rintro e w7 ⟨mb2, kk, q2, rfl, hm7, hk7, hlo7, hb7⟩
        have HE7 := Lib.hid (HE.out.next hb7)
        have f0 := HE7.out.mv.frozen 0
        have m0 := HE7.out.mv.cell' 0 rfl
        have hz7 := HE7.out.mv.lt
        have HM7 := Lib.hid hm7
        have hD7 := (hb7.block D (by have := (Array.getElem?_eq_some_iff.1 HD.out.1).1; omega)).trans HD.out.1
        have hzr := HE.out.mv.lt
        have hDr : D < wr.heap.size := (Array.getElem?_eq_some_iff.1 HD.out.1).1
        have hs7 := hb7.size
        clear hb7 hm7 x0 x1 x2 hc HF
        gi_wp2
        go_roundw
        case rel =>
          refine ⟨j + 1, mb2, kk, q2, by omega, by go_num, ?_, HE7.out.store HM7.out (by omega) (by omega), ?_, by omega⟩
          · rw [Nat.pow_succ]
            have : 3 * k ≤ 3 * (cs.length * 3 ^ j) := Nat.mul_le_mul_left 3 hk
            have e : cs.length * (3 ^ j * 3) = 3 * (cs.length * 3 ^ j) := by rw [← Nat.mul_assoc, Nat.mul_comm]
            omega
          · exact ((grownBy_setCell' w7 (w.heap.size + 2) (.map (some mb2))).block D (by omega) (by have := HAl.out; simp; omega)).trans hD7
        case measure => simp [intOf]; omega
      · have hjl : j = xs.length := by omega
        have hk9 : k ≤ 20000 := by
          have h3 : 3 ^ j ≤ 243 := Nat.le_trans (Nat.pow_le_pow_right (by omega) (show j ≤ 5 by omega)) (by decide)
          have := Nat.mul_le_mul l1 h3
          omega
        have m0 : wr.cell? ⟨w.heap.size + 2, 0, none⟩ = some (.map (some mb)) := hE.mv.cell' 0 rfl
        have HE : Hid (EA w n g c0 cs mb k m (cntK n cs m xs xs.length) q wr) := Lib.hid (by rw [hjl] at hE; exact hE)
        have HD := Lib.hid (And.intro hDD hmbD)
        clear hE hDD hmbD hjl
        have hDw : w.heap.size ≤ D := by have := HAl.out; omega
        gi_wp2
        refine ⟨by simp, .inl ⟨_, _, rfl, run_takeDeferred HD.out.1, ?_⟩⟩
        have hg := grownBy_putObj' wr D (.deferred none)
        refine ⟨.map (some mb), ?_, mb, k, q, rfl, HE.out.mp.kept hg (by simpa using HD.out.2), hk9, HE.out.bl.grown hg HE.out.bl.size (fun r e => by cases e; exact hDw)⟩
        simp [results, Try.f196, go_sem]
  case stop =>
    rintro D c pre W _ _ h _
    exact h.elim
end Go.Proofs.Ytdmgffoikebgkaa
/- Package chain: checkCloth and checkFaults, where nothing is wrong. -/
namespace Go.Proofs.Ytdmgffoikebgkaa
open Go.RowKit Go.Shelf
attribute [local go_sem] Oper.semAt_some

/-- a pick of a cloth that can be one -/
def PickOk (n : Nat) (pick : Int) : Prop := pick = -1 ∨ ∃ r : Nat, pick = (r : Int) ∧ r < 2 ^ n
theorem wrongPick_ok (pick : Int) (B n : Nat) (w : World) (hn : n ≤ 24) (hB : w.cell? ⟨B, 0, none⟩ = some (.int .i64 (n : Int))) (hp : PickOk n pick) :
    Calls Try.prog 200 #[.int .i64 pick, .pointer (some ⟨B, 0, none⟩)] w fun e w' => e = .returned (.bool false) ∧ Below w.heap.size w w' := by
  by_cases h1 : pick = -1
  · subst h1
    go_enter Try.func200, Try.ntmps200
    go_wp2_with fail
    go_ret
    exact ⟨rfl, Below.refl _ _⟩
  · obtain ⟨r, rfl, hr⟩ : ∃ r : Nat, pick = (r : Int) ∧ r < 2 ^ n := by rcases hp with h | h; exact absurd h h1; exact h
    have hne : ((r : Int) != -1) = true := by simp
    have HA := Lib.hid (chainRow_one n r w.heap.size 0 1 (w.alloc (.cells #[.int .i64 (r : Int)] 3)) hn hr (by simp))
    clear hp h1
    go_enter Try.func200, Try.ntmps200
    go_wp2_with fail
    refine HA.out.mono ?_
    rintro e w' ⟨rfl, rfl⟩
    go_wp2_with fail
    go_ret
    exact ⟨rfl, (Below.refl _ _).alloc (Nat.le_refl _) _⟩
set_option maxHeartbeats 1000000 in
theorem indexPick_ok (b off c B n : Nat) (xs : List Int) (w : World) (hn : n ≤ 24) (hl : xs.length ≤ 1000) (hx : IntsAt w b off xs) (hb : b < w.heap.size) (hB : w.cell? ⟨B, 0, none⟩ = some (.int .i64 (n : Int))) (hp : ∀ i, i < xs.length → PickOk n (nthI xs i)) :
    Calls Try.prog 222 #[.slice (some ⟨b, off, none⟩) xs.length c, .func (.func 200) #[] #[.pointer (some ⟨B, 0, none⟩)]] w fun e w' => e = .returned (.int .i64 (-1)) ∧ Below w.heap.size w w' := by
  go_enter Try.func222, Try.ntmps222
  go_wp2
  go_loopw [8] (fun i wr => ∃ k : Nat, k ≤ xs.length ∧ i = .int .i64 k ∧ Below w.heap.size w wr) (fun i _ => xs.length - (intOf i).toNat)
  case atStart => exact ⟨0, Nat.zero_le _, rfl, Below.refl _ _⟩
  case round =>
    obtain ⟨k, hk, rfl, hbl⟩ := hrel
    by_cases hlt : k < xs.length
    · have hc := (hx.below hbl hb) k hlt
      have HC := Lib.hid (wrongPick_ok (nthI xs k) B n wr hn (cell_next hbl hB) (hp k hlt))
      have Hb := Lib.hid hbl
      have hk0 : (0 : Int) ≤ (k : Int) := by omega
      have hk1 : (k : Int) < (xs.length : Int) := by omega
      clear hbl
      go_wp2_with fail
      refine HC.out.mono ?_
      rintro e w' ⟨rfl, hb2⟩
      have Hb2 := Lib.hid (Hb.out.trans (hb2.mono Hb.out.size))
      clear hb2 hc
      go_wp2
      go_roundw
      case rel => exact ⟨k + 1, by omega, by go_num, Hb2.out⟩
      case measure => simp [intOf]; omega
    · have Hb := Lib.hid hbl
      clear hbl
      go_wp2
      go_ret
      exact ⟨rfl, Hb.out⟩
theorem anyPick_ok (b off c B n : Nat) (xs : List Int) (w : World) (hn : n ≤ 24) (hl : xs.length ≤ 1000) (hx : IntsAt w b off xs) (hb : b < w.heap.size) (hB : w.cell? ⟨B, 0, none⟩ = some (.int .i64 (n : Int))) (hp : ∀ i, i < xs.length → PickOk n (nthI xs i)) :
    Calls Try.prog 201 #[.slice (some ⟨b, off, none⟩) xs.length c, .func (.func 200) #[] #[.pointer (some ⟨B, 0, none⟩)]] w fun e w' => e = .returned (.bool false) ∧ Below w.heap.size w w' := by
  have H := Lib.hid (indexPick_ok b off c B n xs w hn hl hx hb hB hp)
  clear hx hB hp
  go_enter Try.func201, Try.ntmps201
  go_wp2_with fail
  refine H.out.mono ?_
  rintro e w' ⟨rfl, hb2⟩
  have Hb2 := Lib.hid hb2
  clear hb2
  go_wp2_with fail
  go_ret
  exact ⟨rfl, Hb2.out⟩
set_option maxHeartbeats 1000000 in
theorem checkCloth_ok (n g c0 b off cx : Nat) (xs : List Int) (cs : List Card) (w : World) (hv : BAt w g n cs) (hx : IntsAt w b off xs) (hxb : b < w.heap.size) (hl : xs.length ≤ 60) (hp : ∀ i, i < xs.length → PickOk n (nthI xs i)) :
    Calls Try.prog 171 #[.agg #[.int .i64 (n : Int), .slice (some ⟨g, 0, none⟩) cs.length c0], .slice (some ⟨b, off, none⟩) xs.length cx] w fun e w' => e = .returned (.int .i64 0) ∧ Below w.heap.size w w' := by
  have hb1 : Below w.heap.size w (w.alloc (.cells #[.int .i64 (n : Int), .slice (some ⟨g, 0, none⟩) cs.length c0] 114)) := (Below.refl _ _).alloc (Nat.le_refl _) _
  have hB1 : BoxAt (w.alloc (.cells #[.int .i64 (n : Int), .slice (some ⟨g, 0, none⟩) cs.length c0] 114)) w.heap.size #[.int .i64 (n : Int), .slice (some ⟨g, 0, none⟩) cs.length c0] 114 := BoxAt.new _ _ _
  have HC := Lib.hid (chainCheck_ok n g c0 cs _ (hv.next hb1))
  have Hb1 := Lib.hid hb1
  have HB1 := Lib.hid hB1
  have HX := Lib.hid hx
  have hn := hv.ok.n1
  have hd4 : decide ((60 : Int) < (xs.length : Int)) = false := by simp; omega
  clear hv hb1 hB1 hx
  go_enter Try.func171, Try.ntmps171
  go_wp2_with fail
  refine HC.out.mono ?_
  rintro e w2 ⟨rfl, hb2⟩
  have Hb2 := Lib.hid (Hb1.out.trans (hb2.mono Hb1.out.size))
  have HA := Lib.hid (anyPick_ok b off cx w.heap.size n xs w2 hn (by omega) (HX.out.below (Hb1.out.trans (hb2.mono Hb1.out.size)) hxb) (Nat.lt_of_lt_of_le hxb (Hb1.out.trans (hb2.mono Hb1.out.size)).size) ((HB1.out.next hb2).cell' 0 rfl) hp)
  clear hb2
  go_wp2_with fail
  refine HA.out.mono ?_
  rintro e w3 ⟨rfl, hb3⟩
  have Hb3 := Lib.hid (Hb2.out.trans (hb3.mono Hb2.out.size))
  clear hb3
  go_wp2_with fail
  go_ret
  exact ⟨rfl, Hb3.out⟩
set_option maxHeartbeats 1000000 in
theorem checkFaults_ok (n g c0 b off cx m : Nat) (xs : List Int) (cs : List Card) (w : World) (hv : BAt w g n cs) (hx : IntsAt w b off xs) (hxb : b < w.heap.size) (hl : xs.length ≤ 60) (hp : ∀ i, i < xs.length → PickOk n (nthI xs i)) (hm : m ≤ 6) :
    Calls Try.prog 195 #[.agg #[.int .i64 (n : Int), .slice (some ⟨g, 0, none⟩) cs.length c0], .slice (some ⟨b, off, none⟩) xs.length cx, .int .i64 (m : Int)] w fun e w' => e = .returned (.int .i64 0) ∧ Below w.heap.size w w' := by
  have hb1 : Below w.heap.size w (w.alloc (.cells #[.int .i64 (n : Int), .slice (some ⟨g, 0, none⟩) cs.length c0] 114)) := (Below.refl _ _).alloc (Nat.le_refl _) _
  have HC := Lib.hid (checkCloth_ok n g c0 b off cx xs cs _ (hv.next hb1) (hx.below hb1 hxb) (Nat.lt_of_lt_of_le hxb hb1.size) hl hp)
  have Hb1 := Lib.hid hb1
  have hm0 : decide ((m : Int) < 0) = false := by simp
  have hm1 : decide ((6 : Int) < (m : Int)) = false := by simp; omega
  clear hv hb1 hx hp
  go_enter Try.func195, Try.ntmps195
  go_wp2_with fail
  refine HC.out.mono ?_
  rintro e w2 ⟨rfl, hb2⟩
  have Hb2 := Lib.hid (Hb1.out.trans (hb2.mono Hb1.out.size))
  clear hb2
  go_wp2_with fail
  go_ret
  exact ⟨rfl, Hb2.out⟩
end Go.Proofs.Ytdmgffoikebgkaa
/- Package chain: Ways, where nothing is wrong. -/
namespace Go.Proofs.Ytdmgffoikebgkaa
open Go.RowKit Go.Shelf
attribute [local go_sem] Oper.semAt_some

def sumP (l m : Nat) (c : Nat → Nat → Nat) (p d : Nat → Nat → Bool) : Nat := sumD l m fun a f => if p a f = true ∧ d a f = true then c a f else 0
theorem sumP_zero (l m : Nat) (c : Nat → Nat → Nat) (p : Nat → Nat → Bool) : sumP l m c p (fun _ _ => false) = 0 := by
  unfold sumP
  have : sumD l m (fun a f => if p a f = true ∧ false = true then c a f else 0) = sumD l m fun _ _ => 0 * 0 := sumD_congr fun a f _ _ => by simp
  rw [this, sumD_mul, Nat.zero_mul]
theorem sumP_all {l m : Nat} {c : Nat → Nat → Nat} {p d : Nat → Nat → Bool} (hz : ∀ a f, p a f = false → c a f = 0) (hd : ∀ a f, a < l → f ≤ m → p a f = true → d a f = true) : sumP l m c p d = sumD l m c := by
  refine sumD_congr fun a f ha hf => ?_
  cases hp : p a f with
  | true => rw [if_pos ⟨rfl, hd a f ha hf hp⟩]
  | false => rw [if_neg (by simp), hz a f hp]
theorem sumP_step {l m : Nat} {c : Nat → Nat → Nat} {p d : Nat → Nat → Bool} {a f : Nat} (ha : a < l) (hf : f ≤ m) (hp : p a f = true) (hd : d a f = false) : sumP l m c p (setP d a f) = sumP l m c p d + c a f := by
  unfold sumP
  rw [← sumD_one ha hf]
  refine sumD_congr fun x y _ _ => ?_
  unfold setP
  by_cases e : x = a ∧ y = f
  · obtain ⟨rfl, rfl⟩ := e
    simp [hp, hd]
  · simp [e]
theorem sumP_le (l m : Nat) (c : Nat → Nat → Nat) (p d : Nat → Nat → Bool) : sumP l m c p d ≤ sumD l m c := sumD_le fun a f _ _ => by split <;> omega
set_option maxRecDepth 100000 in
set_option maxHeartbeats 4000000 in
theorem ways_any (n g c0 b off cx m : Nat) (xs : List Int) (cs : List Card) (w : World) (hv : BAt w g n cs) (hx : IntsAt w b off xs) (hxb : b < w.heap.size) (hl5 : xs.length ≤ 5) (hp : ∀ i, i < xs.length → PickOk n (nthI xs i)) (hm : m ≤ 6) (hT : ∀ j, j ≤ xs.length → sumD cs.length m (cntK n cs m xs j) ≤ 10000) :
    Calls Try.prog 152 #[.agg #[.int .i64 (n : Int), .slice (some ⟨g, 0, none⟩) cs.length c0], .slice (some ⟨b, off, none⟩) xs.length cx, .int .i64 (m : Int)] w fun e w' =>
      e = .returned (.tuple #[.int .i64 (sumD cs.length m (cntK n cs m xs xs.length) : Int), .int .i64 0]) ∧ Below w.heap.size w w' := by
  have l1 := hv.ok.l1
  have hb1 : Below w.heap.size w (w.alloc (.cells #[.int .i64 (n : Int), .slice (some ⟨g, 0, none⟩) cs.length c0] 114)) := (Below.refl _ _).alloc (Nat.le_refl _) _
  have hB1 : BoxAt (w.alloc (.cells #[.int .i64 (n : Int), .slice (some ⟨g, 0, none⟩) cs.length c0] 114)) w.heap.size #[.int .i64 (n : Int), .slice (some ⟨g, 0, none⟩) cs.length c0] 114 := BoxAt.new _ _ _
  have HC := Lib.hid (checkFaults_ok n g c0 b off cx m xs cs _ (hv.next hb1) (hx.below hb1 hxb) (Nat.lt_of_lt_of_le hxb hb1.size) (by omega) hp hm)
  have HV := Lib.hid hv
  have HX := Lib.hid hx
  have HT := Lib.hid hT
  have HTl := Lib.hid (hT _ (Nat.le_refl _))
  have Hb1 := Lib.hid hb1
  have HB1 := Lib.hid hB1
  clear hv hx hT hb1 hB1 hp
  go_enter Try.func152, Try.ntmps152
  go_wp2_with fail
  refine HC.out.mono ?_
  rintro e w2 ⟨rfl, hb2⟩
  have hb02 := Hb1.out.trans (hb2.mono Hb1.out.size)
  have k0 := (HB1.out.next hb2).cell' 0 rfl
  have k1 := (HB1.out.next hb2).cell' 1 rfl
  have hz2 := (HB1.out.next hb2).lt
  have HBO := Lib.hid (beltOf_any n g cs.length c0 w2)
  have Hb2 := Lib.hid hb02
  clear hb2 hb02 HC
  go_wp2_with fail
  refine HBO.out.mono ?_
  rintro e w3 ⟨rfl, hb3⟩
  have hb03 := Hb2.out.trans (hb3.mono Hb2.out.size)
  have HEn := Lib.hid (ends_any n g c0 b off cx m xs cs w3 (HV.out.next hb03) (HX.out.below hb03 hxb) (Nat.lt_of_lt_of_le hxb hb03.size) hl5 hm HT.out)
  have Hb3 := Lib.hid hb03
  clear hb3 hb03 k0 k1 hz2
  go_wp2_with fail
  refine HEn.out.mono ?_
  rintro e w4 ⟨mb, kk, q, rfl, hm4, hk4, hb4⟩
  have Hb4 := Lib.hid (Hb3.out.trans (hb4.mono Hb3.out.size))
  have HM4 := Lib.hid hm4
  obtain ⟨c, hc⟩ : ∃ c, cntK n cs m xs xs.length = c := ⟨_, rfl⟩
  rw [hc] at HM4 HTl
  have Hc := Lib.hid hc
  obtain ⟨l, hl⟩ : ∃ l, cs.length = l := ⟨_, rfl⟩
  rw [hl] at HM4 HTl l1
  have Hl := Lib.hid hl
  clear hb4 hm4 hc hl HEn
  go_wp2_with (first
    | (at_range; refine wpList_range_st rfl _ rfl rfl HM4.out ?_; intro w5 cnt0 hrg0 hg0 hs0)
    | go_in)
  go_frame
  have HR0 := Lib.hid hrg0
  have Hb5 := Lib.hid (Hb4.out.grown hg0 Hb4.out.size (fun j hj => by cases hj))
  obtain ⟨r, hr⟩ : ∃ r, w4.heap.size = r := ⟨_, rfl⟩
  rw [hr] at HR0 ⊢
  have hlo : w.heap.size ≤ r := by have := Hb4.out.size; omega
  clear hrg0 hg0 hs0 hr HM4 Hb4
  go_loopw [9, 11] (fun v _ wr => ∃ (d : Nat → Nat → Bool) (cnt : Nat), v = .int .i64 (sumP l m c q d : Int) ∧ Rng wr mb r kk l m c q d cnt ∧ Below w.heap.size w wr) (fun _ _ wr => wr.rangeLeft mb r)
  case atStart => exact ⟨_, _, by rw [sumP_zero]; rfl, HR0.out, Hb5.out⟩
  case round =>
    obtain ⟨d, cnt, rfl, hR, hbl⟩ := hrel
    clear HR0 Hb5
    go_wp2_with (first
      | (at_next; refine wpList_next_st rfl _ rfl (by omega) (by omega) rfl hR ?_ ?_)
      | go_in)
    · intro hdone
      have hs := sumP_all (l := l) (m := m) (c := c) (p := q) (d := d) (by obtain ⟨D, left, _, a2, _⟩ := hR; exact a2.zero) hdone
      have Hs := Lib.hid hs
      have Hb := Lib.hid hbl
      clear hR hdone hs hbl
      go_wp2
      go_ret2
      exact ⟨by rw [Hs.out, Hl.out, Hc.out]; rfl, Hb.out⟩
    · intro a f w1 cnt1 ha hf hp hd hrg1 hlt hg1 hs1 hen
      have hst := sumP_step (c := c) ha hf hp hd
      have hle := sumP_le l m c q (setP d a f)
      have hT := HTl.out
      have HR1 := Lib.hid hrg1
      have Hb := Lib.hid (hbl.grown hg1 hbl.size (fun j hj => by cases hj; exact hlo))
      have Hms := Lib.hid hR.left_eq
      obtain ⟨s, hsd⟩ : ∃ s, sumP l m c q d = s := ⟨_, rfl⟩
      obtain ⟨s', hsd'⟩ : ∃ s', sumP l m c q (setP d a f) = s' := ⟨_, rfl⟩
      rw [hsd'] at hst hle
      rw [hsd] at hst ⊢
      have Hst := Lib.hid hst
      have hb0 : s + c a f ≤ 10000 := by omega
      have Hsd' := Lib.hid hsd'
      clear hR hrg1 hg1 hs1 hbl hst hle hT hsd hsd' hp hd
      simp only [stV] at hen ⊢
      go_wp2
      go_roundw
      case rel => exact ⟨setP d a f, cnt1, by rw [Hsd'.out, Hst.out]; push_cast; rfl, HR1.out, Hb.out⟩
      case measure => rw [HR1.out.left_eq, Hms.out]; exact hlt
end Go.Proofs.Ytdmgffoikebgkaa
/- The statements' examples of chapter 2, with Ways. -/
namespace Go.Proofs.Ytdmgffoikebgkaa
open Go.RowKit Go.Shelf
attribute [local go_sem] Oper.semAt_some

theorem furtherC_congr {l m : Nat} {wf : Nat → Bool} {c c' : Nat → Nat → Nat} (h : ∀ a f, a < l → f ≤ m → c a f = c' a f) (a' f' : Nat) : furtherC l m wf c a' f' = furtherC l m wf c' a' f' :=
  sumD_congr fun a f ha hf => by unfold ctr; rw [h a f ha hf]
def tab (L : List Nat) : Nat → Nat → Nat := fun a f => L.getD (a * 3 + f) 0
def exSeen : List Int := [8, 2, 2, -1, 1]
def exWf (j : Nat) : Nat → Bool := fun a => wv (nthI exSeen j) (liftN 4 (nthC exCards a))
theorem exC0 : ∀ a f, a < 5 → f ≤ 2 → cntK 4 exCards 2 exSeen 0 a f = tab [1, 0, 0, 1, 0, 0, 1, 0, 0, 1, 0, 0, 1, 0, 0] a f := by
  have h : ∀ a, a < 5 → ∀ f, f < 3 → cntK 4 exCards 2 exSeen 0 a f = tab [1, 0, 0, 1, 0, 0, 1, 0, 0, 1, 0, 0, 1, 0, 0] a f := by decide +kernel
  exact fun a f ha hf => h a ha f (by omega)
theorem exStep (j : Nat) (L L' : List Nat) (h : ∀ a f, a < 5 → f ≤ 2 → cntK 4 exCards 2 exSeen j a f = tab L a f) (h' : ∀ a, a < 5 → ∀ f, f < 3 → furtherC 5 2 (exWf j) (tab L) a f = tab L' a f) :
    ∀ a f, a < 5 → f ≤ 2 → cntK 4 exCards 2 exSeen (j + 1) a f = tab L' a f := fun a f ha hf => by
  show furtherC 5 2 (exWf j) (cntK 4 exCards 2 exSeen j) a f = _
  rw [furtherC_congr h, h' a ha f (by omega)]
theorem exC1 : ∀ a f, a < 5 → f ≤ 2 → cntK 4 exCards 2 exSeen 1 a f = tab [0, 0, 0, 0, 1, 0, 1, 0, 0, 0, 1, 0, 0, 0, 0] a f := exStep 0 _ _ exC0 (by decide +kernel)
theorem exC2 : ∀ a f, a < 5 → f ≤ 2 → cntK 4 exCards 2 exSeen 2 a f = tab [0, 0, 0, 0, 0, 0, 0, 1, 0, 1, 0, 0, 0, 1, 0] a f := exStep 1 _ _ exC1 (by decide +kernel)
theorem exC3 : ∀ a f, a < 5 → f ≤ 2 → cntK 4 exCards 2 exSeen 3 a f = tab [0, 0, 0, 0, 0, 0, 0, 0, 1, 0, 1, 0, 0, 0, 1] a f := exStep 2 _ _ exC2 (by decide +kernel)
theorem exC4 : ∀ a f, a < 5 → f ≤ 2 → cntK 4 exCards 2 exSeen 4 a f = tab [0, 0, 2, 0, 0, 0, 0, 0, 0, 0, 0, 2, 0, 1, 0] a f := exStep 3 _ _ exC3 (by decide +kernel)
theorem exC5 : ∀ a f, a < 5 → f ≤ 2 → cntK 4 exCards 2 exSeen 5 a f = tab [0, 0, 0, 0, 0, 2, 0, 0, 0, 0, 0, 0, 0, 0, 0] a f := exStep 4 _ _ exC4 (by decide +kernel)
theorem exWays5 : sumD 5 2 (cntK 4 exCards 2 exSeen 5) = 2 := (sumD_congr exC5).trans (by decide +kernel)
theorem exWaysLe (j : Nat) (hj : j ≤ 5) : sumD 5 2 (cntK 4 exCards 2 exSeen j) ≤ 10000 := by
  have : j = 0 ∨ j = 1 ∨ j = 2 ∨ j = 3 ∨ j = 4 ∨ j = 5 := by omega
  rcases this with rfl | rfl | rfl | rfl | rfl | rfl
  · rw [sumD_congr exC0]; decide +kernel
  · rw [sumD_congr exC1]; decide +kernel
  · rw [sumD_congr exC2]; decide +kernel
  · rw [sumD_congr exC3]; decide +kernel
  · rw [sumD_congr exC4]; decide +kernel
  · rw [exWays5]; decide
theorem exPicks : ∀ i, i < exSeen.length → PickOk 4 (nthI exSeen i) := by
  intro i hi
  rcases five (show i < 5 from hi) with rfl | rfl | rfl | rfl | rfl
  · exact .inr ⟨8, rfl, by decide⟩
  · exact .inr ⟨2, rfl, by decide⟩
  · exact .inr ⟨2, rfl, by decide⟩
  · exact .inl rfl
  · exact .inr ⟨1, rfl, by decide⟩
theorem exSeen_at {W : World} {B : Nat} (h : BoxAt W B #[.int .i64 8, .int .i64 2, .int .i64 2, .int .i64 (-1), .int .i64 1] 3) : IntsAt W B 0 exSeen := by
  intro i hi
  rw [Nat.zero_add]
  rcases five (show i < 5 from hi) with rfl | rfl | rfl | rfl | rfl <;> exact h.cell' _ rfl
theorem belt85 (g c : Nat) (W : World) (hx : CardsAt W g exCards) : Calls Try.prog 85 #[.agg #[.int .i64 4, .slice (some ⟨g, 0, none⟩) 5 c]] W fun e w' =>
    ∃ g' cap, e = .returned (.agg #[.int .i64 4, .slice (some ⟨g', 0, none⟩) 5 cap]) ∧ CardsAt w' g' exCards ∧ Below W.heap.size W w' := by
  refine (pubBelt_ok 4 g c exCards W (by decide) (by decide) hx).mono ?_
  rintro e w' ⟨g', cap, rfl, h1, h2⟩
  obtain ⟨h4, _⟩ := CardBlk.of_row h1 (by decide)
  exact ⟨g', cap, rfl, h4.at', h2⟩
set_option maxHeartbeats 4000000 in
set_option maxRecDepth 100000 in
theorem pubChain_any (w : World) : Calls Try.prog 80 #[] w fun e w' => e = .returned (.bool true) ∧ Below w.heap.size w w' := by
  obtain ⟨W0, hW0⟩ : ∃ W0, W0 = (w.alloc (.cells exCells 128)).alloc (.cells #[.int .i64 4, .slice (some ⟨w.heap.size, 0, none⟩) 5 5] 114) := ⟨_, rfl⟩
  have hb0 : Below w.heap.size w W0 := by rw [hW0]; exact ((Below.refl _ _).alloc (Nat.le_refl _) _).alloc (by simp) _
  have hA : BoxAt W0 w.heap.size exCells 128 := by rw [hW0]; exact (BoxAt.new _ _ _).below ((Below.refl (w.heap.size + 1) _).alloc (by simp) _) (by omega)
  have hB : BoxAt W0 (w.heap.size + 1) #[.int .i64 4, .slice (some ⟨w.heap.size, 0, none⟩) 5 5] 114 := by
    have := BoxAt.new (w.alloc (.cells exCells 128)) #[.int .i64 4, .slice (some ⟨w.heap.size, 0, none⟩) 5 5] 114
    rw [World.size_alloc] at this
    rw [hW0]; exact this
  have HP := Lib.hid (belt85 w.heap.size 5 W0 (exCards_at hA))
  have HA := Lib.hid hA
  have HB := Lib.hid hB
  have Hb0 := Lib.hid hb0
  have HW0 := Lib.hid hW0
  unfold exCells at HW0
  clear hA hB hb0 hW0
  go_enter Try.func80, Try.ntmps80
  go_wp2_with fail
  rw [← HW0.out]
  refine HP.out.mono ?_
  rintro e w1 ⟨g1, cap1, rfl, hc1, hb1⟩
  obtain ⟨W2, hW2⟩ : ∃ W2, W2 = w1.alloc (.cells #[.int .i64 1, .int .i64 1, .int .i64 0, .int .i64 2] 3) := ⟨_, rfl⟩
  have hb2 : Below w1.heap.size w1 W2 := by rw [hW2]; exact (Below.refl _ _).alloc (Nat.le_refl _) _
  have hC : BoxAt W2 w1.heap.size #[.int .i64 1, .int .i64 1, .int .i64 0, .int .i64 2] 3 := by rw [hW2]; exact BoxAt.new _ _ _
  have HWv := Lib.hid (chainWeave_ok 4 g1 cap1 0 w1.heap.size 0 4 exCards [1, 1, 0, 2] W2 ⟨hc1.next hb2, exCards_ok⟩ (by decide) (nats4 (a := 1) (b := 1) (c := 0) (d := 2) hC) hC.lt (by decide) (by decide) exSteps)
  have hb02 := Hb0.out.trans ((hb1.trans (hb2.mono hb1.size)).mono Hb0.out.size)
  have HA2 := Lib.hid (HA.out.next (hb1.trans (hb2.mono hb1.size)))
  have HB2 := Lib.hid (HB.out.next (hb1.trans (hb2.mono hb1.size)))
  have Hb2 := Lib.hid hb02
  have HW2 := Lib.hid hW2
  clear hc1 hb1 hb2 hC hb02 hW2 HA HB HP
  go_wp2_with fail
  rw [← HW2.out]
  refine HWv.out.mono ?_
  rintro e w3 ⟨v, rfl, hr, hb3⟩
  have hl4 : ([1, 1, 0, 2] : List Nat).length = 4 := rfl
  have hl5 : exCards.length = 5 := rfl
  simp only [hl4, hl5] at hr ⊢
  rw [exWoven.1] at hr
  rw [exWoven.2]
  obtain ⟨g3, cap3, rfl⟩ := row_slice hr (by decide)
  obtain ⟨hn3, hg3, _⟩ := nats_of_row hr (by decide)
  have HA3 := Lib.hid (HA2.out.next hb3)
  have HB3 := Lib.hid (HB2.out.next hb3)
  have Hb3 := Lib.hid (Hb2.out.trans (hb3.mono Hb2.out.size))
  have HN3 := Lib.hid hn3
  have b0 := HB3.out.cell' 0 rfl
  have b1 := HB3.out.cell' 1 rfl
  have HP := Lib.hid (belt85 w.heap.size 5 w3 (exCards_at HA3.out))
  clear hr hb3 hn3 hl4 hl5 HA2 HB2 HWv
  go_wp2_with fail
  refine HP.out.mono ?_
  rintro e w4 ⟨g4, cap4, rfl, hc4, hb4⟩
  have HM := Lib.hid (Moved_ok 4 g4 cap4 exCards w4 ⟨hc4, exCards_ok⟩ exCards_apart)
  have HA4 := Lib.hid (HA3.out.next hb4)
  have HB4 := Lib.hid (HB3.out.next hb4)
  have Hb4 := Lib.hid (Hb3.out.trans (hb4.mono Hb3.out.size))
  have HN4 := Lib.hid (HN3.out.below hb4 hg3)
  have hg4 := Nat.lt_of_lt_of_le hg3 hb4.size
  clear hc4 hb4 b0 b1 HA3 HB3 HN3 HP
  go_wp2_with fail
  refine HM.out.mono ?_
  rintro e w5 ⟨v, rfl, hr, hb5⟩
  rw [exMoved] at hr
  obtain ⟨g5, cap5, rfl⟩ := row_slice hr (by decide)
  have hl1 : ([1] : List Nat).length = 1 := rfl
  simp only [hl1] at hr ⊢
  obtain ⟨hn5, hg5, _⟩ := nats_of_row hr (by decide)
  have HA5 := Lib.hid (HA4.out.next hb5)
  have HB5 := Lib.hid (HB4.out.next hb5)
  have Hb5 := Lib.hid (Hb4.out.trans (hb5.mono Hb4.out.size))
  have HN5 := Lib.hid (HN4.out.below hb5 hg4)
  have hg3' := Nat.lt_of_lt_of_le hg4 hb5.size
  have HQ5 := Lib.hid hn5
  have b0 := HB5.out.cell' 0 rfl
  have b1 := HB5.out.cell' 1 rfl
  have HP := Lib.hid (belt85 w.heap.size 5 w5 (exCards_at HA5.out))
  clear hr hb5 hn5 hl1 HA4 HB4 HN4 HM
  go_wp2_with fail
  refine HP.out.mono ?_
  rintro e w6 ⟨g6, cap6, rfl, hc6, hb6⟩
  obtain ⟨W7, hW7⟩ : ∃ W7, W7 = w6.alloc (.cells #[.int .i64 8, .int .i64 2, .int .i64 2, .int .i64 (-1), .int .i64 1] 3) := ⟨_, rfl⟩
  have hb7 : Below w6.heap.size w6 W7 := by rw [hW7]; exact (Below.refl _ _).alloc (Nat.le_refl _) _
  have hC7 : BoxAt W7 w6.heap.size #[.int .i64 8, .int .i64 2, .int .i64 2, .int .i64 (-1), .int .i64 1] 3 := by rw [hW7]; exact BoxAt.new _ _ _
  have hwy := ways_any 4 g6 cap6 w6.heap.size 0 5 2 exSeen exCards W7 ⟨hc6.next hb7, exCards_ok⟩ (exSeen_at hC7) hC7.lt (by decide) exPicks (by decide) (fun j hj => exWaysLe j hj)
  rw [show exSeen.length = 5 from rfl, show exCards.length = 5 from rfl, exWays5] at hwy
  have HWy := Lib.hid hwy
  have hb67 := hb6.trans (hb7.mono hb6.size)
  have Hb7 := Lib.hid (Hb5.out.trans (hb67.mono Hb5.out.size))
  have HN7 := Lib.hid (HN5.out.below hb67 hg3')
  have HQ7 := Lib.hid (HQ5.out.below hb67 hg5)
  have hgn := Nat.lt_of_lt_of_le hg3' hb67.size
  have hgq := Nat.lt_of_lt_of_le hg5 hb67.size
  have HW7 := Lib.hid hW7
  clear hc6 hb6 hb7 hC7 hwy hb67 hW7 b0 b1 HA5 HB5 HN5 HQ5 HP
  go_wp2_with fail
  rw [← HW7.out]
  refine HWy.out.mono ?_
  rintro e w8 ⟨rfl, hb8⟩
  obtain ⟨W9, hW9⟩ : ∃ W9, W9 = w8.alloc (.cells #[.int .i64 1, .int .i64 8, .int .i64 2, .int .i64 2] 3) := ⟨_, rfl⟩
  have hb9 : Below w8.heap.size w8 W9 := by rw [hW9]; exact (Below.refl _ _).alloc (Nat.le_refl _) _
  have hE : BoxAt W9 w8.heap.size #[.int .i64 1, .int .i64 8, .int .i64 2, .int .i64 2] 3 := by rw [hW9]; exact BoxAt.new _ _ _
  have hb79 := hb8.trans (hb9.mono hb8.size)
  have hs1 := pubSame_any g3 0 cap3 w8.heap.size 0 4 [1, 8, 2, 2] [1, 8, 2, 2] W9 (by decide) (by decide) (HN7.out.below hb79 hgn) (nats4 (a := 1) (b := 8) (c := 2) (d := 2) hE) (Nat.lt_of_lt_of_le hgn hb79.size) hE.lt
  have HS1 := Lib.hid hs1
  have Hb9 := Lib.hid (Hb7.out.trans (hb79.mono Hb7.out.size))
  have HQ9 := Lib.hid (HQ7.out.below hb79 hgq)
  have hgq9 := Nat.lt_of_lt_of_le hgq hb79.size
  have HW9 := Lib.hid hW9
  clear hb8 hb9 hE hb79 hs1 hW9 HN7 HQ7 HWy
  go_wp2_with fail
  rw [← HW9.out]
  refine HS1.out.mono ?_
  rintro e w10 ⟨rfl, hb10⟩
  obtain ⟨W11, hW11⟩ : ∃ W11, W11 = w10.alloc (.cells #[.int .i64 1] 3) := ⟨_, rfl⟩
  have hb11 : Below w10.heap.size w10 W11 := by rw [hW11]; exact (Below.refl _ _).alloc (Nat.le_refl _) _
  have hD : BoxAt W11 w10.heap.size #[.int .i64 1] 3 := by rw [hW11]; exact BoxAt.new _ _ _
  have hb911 := hb10.trans (hb11.mono hb10.size)
  have HS2 := Lib.hid (pubSame_any g5 0 cap5 w10.heap.size 0 1 [1] [1] W11 (by decide) (by decide) (HQ9.out.below hb911 hgq9) (fun i hi => by
    obtain rfl : i = 0 := by simpa using hi
    exact hD.cell' 0 rfl) (Nat.lt_of_lt_of_le hgq9 hb911.size) hD.lt)
  have Hb11 := Lib.hid (Hb9.out.trans (hb911.mono Hb9.out.size))
  have HW11 := Lib.hid hW11
  clear hb10 hb11 hD hb911 hW11 HQ9 HS1
  go_wp2_with fail
  rw [← HW11.out]
  refine HS2.out.mono ?_
  rintro e w12 ⟨rfl, hb12⟩
  have Hb12 := Lib.hid (Hb11.out.trans (hb12.mono Hb11.out.size))
  clear hb12
  go_wp2_with fail
  go_ret
  exact ⟨rfl, Hb12.out⟩
end Go.Proofs.Ytdmgffoikebgkaa
/- TopTurned: turned cards weave the mirror, a chain taken backwards the flipped design. -/
namespace Go.Proofs.Ytdmgffoikebgkaa
open Go.RowKit Go.Shelf
attribute [local go_sem] Oper.semAt_some

theorem loom12_bd (l : Nat) : 1 ≤ loomL 12 l ∧ loomL 12 l ≤ 12 := by unfold loomL; split <;> omega
/-- the three designs in memory -/
structure TrS (w : World) (D M F g2 q2 g3 q3 g4 q4 N L : Nat) (DS : List Nat) (W : World) : Prop where
  d : BoxAt W D #[.int .i64 (N : Int), .slice (some ⟨g2, 0, none⟩) L q2] 37
  m : BoxAt W M #[.int .i64 (N : Int), .slice (some ⟨g3, 0, none⟩) L q3] 37
  f : BoxAt W F #[.int .i64 (N : Int), .slice (some ⟨g4, 0, none⟩) L q4] 37
  nd : NatsAt W g2 0 DS
  nm : NatsAt W g3 0 (mirL N DS)
  nf : NatsAt W g4 0 (flpL N DS)
  l2 : g2 < W.heap.size
  l3 : g3 < W.heap.size
  l4 : g4 < W.heap.size
  b : Below w.heap.size w W
theorem TrS.next {w : World} {D M F g2 q2 g3 q3 g4 q4 N L : Nat} {DS : List Nat} {W W' : World} (h : TrS w D M F g2 q2 g3 q3 g4 q4 N L DS W) (hb : Below W.heap.size W W') : TrS w D M F g2 q2 g3 q3 g4 q4 N L DS W' :=
  ⟨h.d.next hb, h.m.next hb, h.f.next hb, h.nd.below hb h.l2, h.nm.below hb h.l3, h.nf.below hb h.l4, Nat.lt_of_lt_of_le h.l2 hb.size, Nat.lt_of_lt_of_le h.l3 hb.size, Nat.lt_of_lt_of_le h.l4 hb.size, h.b.trans (hb.mono h.b.size)⟩
/-- two designs in boxes of their own -/
def TwoD (X : World) (c d : Array Value) (s t : Value) (wx : World) : Prop := ∃ Y Z, s = .pointer (some ⟨Y, 0, none⟩) ∧ t = .pointer (some ⟨Z, 0, none⟩) ∧ X.heap.size ≤ Y ∧ X.heap.size ≤ Z ∧ Y ≠ Z ∧ BoxAt wx Y c 37 ∧ BoxAt wx Z d 37 ∧ Below X.heap.size X wx
theorem twoD_a (X : World) (c d : Array Value) : TwoD X c d (.pointer (some ⟨X.heap.size, 0, none⟩)) (.pointer (some ⟨X.heap.size + 1, 0, none⟩)) ((X.alloc (.cells c 37)).alloc (.cells d 37)).drew := by
  obtain ⟨h1, h2, h3⟩ := two_boxes X c d 37
  exact ⟨_, _, rfl, rfl, Nat.le_refl _, by omega, by omega, h1, h2, h3⟩
theorem twoD_b (X : World) (c d : Array Value) : TwoD X c d (.pointer (some ⟨X.heap.size + 1, 0, none⟩)) (.pointer (some ⟨X.heap.size, 0, none⟩)) ((X.alloc (.cells d 37)).alloc (.cells c 37)).drew := by
  obtain ⟨h1, h2, h3⟩ := two_boxes X d c 37
  exact ⟨_, _, rfl, rfl, by omega, Nat.le_refl _, by omega, h2, h1, h3⟩
/-- the design that is punched, and the one that is wanted -/
def PairD (X : World) (A B N L : Nat) (wx : World) : Prop := ∃ gf qf gt qt FS TS, BoxAt wx A #[.int .i64 (N : Int), .slice (some ⟨gf, 0, none⟩) L qf] 37 ∧ BoxAt wx B #[.int .i64 (N : Int), .slice (some ⟨gt, 0, none⟩) L qt] 37 ∧
  NatsAt wx gf 0 FS ∧ NatsAt wx gt 0 TS ∧ gf < wx.heap.size ∧ gt < wx.heap.size ∧ Valid N FS ∧ FS.length = L ∧ mirL N FS = TS ∧ Below X.heap.size X wx
theorem pair_swap {X wc : World} {A B N L g2 q2 g4 q4 : Nat} {DS : List Nat} {x y : Array Value} (hx : x = #[.int .i64 (N : Int), .slice (some ⟨g2, 0, none⟩) L q2]) (hy : y = #[.int .i64 (N : Int), .slice (some ⟨g4, 0, none⟩) L q4])
    (hA : BoxAt wc A x 37) (hB : BoxAt wc B y 37) (hAB : A ≠ B) (la : X.heap.size ≤ A) (lb : X.heap.size ≤ B) (h2 : NatsAt wc g2 0 DS) (h4 : NatsAt wc g4 0 (mirL N DS)) (l2 : g2 < wc.heap.size) (l4 : g4 < wc.heap.size)
    (n2 : g2 ≠ A ∧ g2 ≠ B) (n4 : g4 ≠ A ∧ g4 ≠ B) (hv : Valid N DS) (hl : DS.length = L) (hb : Below X.heap.size X wc) :
    PairD X A B N L ((((wc.setCell ⟨A, 0, none⟩ (.int .i64 (N : Int))).setCell ⟨A, 1, none⟩ (.slice (some ⟨g4, 0, none⟩) L q4)).setCell ⟨B, 0, none⟩ (.int .i64 (N : Int))).setCell ⟨B, 1, none⟩ (.slice (some ⟨g2, 0, none⟩) L q2)).drew := by
  subst hx hy
  have hz : ∀ (W : World) a v, (W.setCell a v).heap.size = W.heap.size := fun W a v => setCell_size _ _ _
  have e1 := (((hA.set 0 (.int .i64 (N : Int))).set 1 (.slice (some ⟨g4, 0, none⟩) L q4)).other ⟨B, 0, none⟩ (.int .i64 (N : Int)) hAB).other ⟨B, 1, none⟩ (.slice (some ⟨g2, 0, none⟩) L q2) hAB
  have e2 := (((hB.other ⟨A, 0, none⟩ (.int .i64 (N : Int)) hAB.symm).other ⟨A, 1, none⟩ (.slice (some ⟨g4, 0, none⟩) L q4) hAB.symm).set 0 (.int .i64 (N : Int))).set 1 (.slice (some ⟨g2, 0, none⟩) L q2)
  have s2 := nats_setB (nats_setB (nats_setB (nats_setB h2 A 0 (.int .i64 (N : Int)) n2.1) A 1 (.slice (some ⟨g4, 0, none⟩) L q4) n2.1) B 0 (.int .i64 (N : Int)) n2.2) B 1 (.slice (some ⟨g2, 0, none⟩) L q2) n2.2
  have s4 := nats_setB (nats_setB (nats_setB (nats_setB h4 A 0 (.int .i64 (N : Int)) n4.1) A 1 (.slice (some ⟨g4, 0, none⟩) L q4) n4.1) B 0 (.int .i64 (N : Int)) n4.2) B 1 (.slice (some ⟨g2, 0, none⟩) L q2) n4.2
  have hm : Valid N (mirL N DS) := painted_valid hv _
  exact ⟨g4, q4, g2, q2, mirL N DS, DS, e1.next (below_drew1 _), e2.next (below_drew1 _), s4.below (below_drew1 _) (by simp only [hz]; exact l4), s2.below (below_drew1 _) (by simp only [hz]; exact l2),
    (by show _ < ((_ : World).drew).heap.size; rw [show ∀ W : World, W.drew.heap.size = W.heap.size from fun _ => rfl]; simp only [hz]; exact l4), (by show _ < ((_ : World).drew).heap.size; rw [show ∀ W : World, W.drew.heap.size = W.heap.size from fun _ => rfl]; simp only [hz]; exact l2), hm, by rw [mirL_len]; exact hl, mirL_mirL hv,
    ((((hb.setCell la _).setCell la _).setCell lb _).setCell lb _).drew⟩
theorem pair_swap' {X wc : World} {A B N L g2 q2 g4 q4 : Nat} {DS : List Nat} {x y : Array Value} (hx : x = #[.int .i64 (N : Int), .slice (some ⟨g2, 0, none⟩) L q2]) (hy : y = #[.int .i64 (N : Int), .slice (some ⟨g4, 0, none⟩) L q4])
    (hA : BoxAt wc A x 37) (hB : BoxAt wc B y 37) (hAB : A ≠ B) (la : X.heap.size ≤ A) (lb : X.heap.size ≤ B) (h2 : NatsAt wc g2 0 DS) (h4 : NatsAt wc g4 0 (mirL N DS)) (l2 : g2 < wc.heap.size) (l4 : g4 < wc.heap.size)
    (n2 : g2 ≠ A ∧ g2 ≠ B) (n4 : g4 ≠ A ∧ g4 ≠ B) (hv : Valid N DS) (hl : DS.length = L) (hb : Below X.heap.size X wc) :
    PairD X A B N L ((((wc.setCell ⟨B, 0, none⟩ (.int .i64 (N : Int))).setCell ⟨B, 1, none⟩ (.slice (some ⟨g2, 0, none⟩) L q2)).setCell ⟨A, 0, none⟩ (.int .i64 (N : Int))).setCell ⟨A, 1, none⟩ (.slice (some ⟨g4, 0, none⟩) L q4)).drew := by
  subst hx hy
  have hz : ∀ (W : World) a v, (W.setCell a v).heap.size = W.heap.size := fun W a v => setCell_size _ _ _
  have e1 := (((hA.other ⟨B, 0, none⟩ (.int .i64 (N : Int)) hAB).other ⟨B, 1, none⟩ (.slice (some ⟨g2, 0, none⟩) L q2) hAB).set 0 (.int .i64 (N : Int))).set 1 (.slice (some ⟨g4, 0, none⟩) L q4)
  have e2 := (((hB.set 0 (.int .i64 (N : Int))).set 1 (.slice (some ⟨g2, 0, none⟩) L q2)).other ⟨A, 0, none⟩ (.int .i64 (N : Int)) hAB.symm).other ⟨A, 1, none⟩ (.slice (some ⟨g4, 0, none⟩) L q4) hAB.symm
  have s2 := nats_setB (nats_setB (nats_setB (nats_setB h2 B 0 (.int .i64 (N : Int)) n2.2) B 1 (.slice (some ⟨g2, 0, none⟩) L q2) n2.2) A 0 (.int .i64 (N : Int)) n2.1) A 1 (.slice (some ⟨g4, 0, none⟩) L q4) n2.1
  have s4 := nats_setB (nats_setB (nats_setB (nats_setB h4 B 0 (.int .i64 (N : Int)) n4.2) B 1 (.slice (some ⟨g2, 0, none⟩) L q2) n4.2) A 0 (.int .i64 (N : Int)) n4.1) A 1 (.slice (some ⟨g4, 0, none⟩) L q4) n4.1
  have hm : Valid N (mirL N DS) := painted_valid hv _
  exact ⟨g4, q4, g2, q2, mirL N DS, DS, e1.next (below_drew1 _), e2.next (below_drew1 _), s4.below (below_drew1 _) (by simp only [hz]; exact l4), s2.below (below_drew1 _) (by simp only [hz]; exact l2),
    (by show _ < ((_ : World).drew).heap.size; rw [show ∀ W : World, W.drew.heap.size = W.heap.size from fun _ => rfl]; simp only [hz]; exact l4), (by show _ < ((_ : World).drew).heap.size; rw [show ∀ W : World, W.drew.heap.size = W.heap.size from fun _ => rfl]; simp only [hz]; exact l2), hm, by rw [mirL_len]; exact hl, mirL_mirL hv,
    ((((hb.setCell lb _).setCell lb _).setCell la _).setCell la _).drew⟩
/-- where the cards are turned -/
structure TcS (X : World) (C g q B gt qt N L : Nat) (FS TS : List Nat) (k : Nat) (W : World) : Prop where
  c : BoxAt W C #[.int .i64 (N : Int), .slice (some ⟨g, 0, none⟩) L q] 114
  bb : BoxAt W B #[.int .i64 (N : Int), .slice (some ⟨gt, 0, none⟩) L qt] 37
  nt : NatsAt W gt 0 TS
  lt : gt < W.heap.size
  cb : CardBlk W g (turnT FS L k)
  b : Below X.heap.size X W
  ne : C ≠ g ∧ B ≠ g ∧ gt ≠ g ∧ X.heap.size ≤ g
theorem TcS.next {X : World} {C g q B gt qt N L : Nat} {FS TS : List Nat} {k : Nat} {W W' : World} (h : TcS X C g q B gt qt N L FS TS k W) (hb : Below W.heap.size W W') : TcS X C g q B gt qt N L FS TS k W' :=
  ⟨h.c.next hb, h.bb.next hb, h.nt.below hb h.lt, Nat.lt_of_lt_of_le h.lt hb.size, h.cb.next hb, h.b.trans (hb.mono h.b.size), h.ne⟩
theorem TcS.turn {X : World} {C g q B gt qt N L : Nat} {FS TS : List Nat} {k : Nat} {W : World} (h : TcS X C g q B gt qt N L FS TS k W) (hk : k < L) : TcS X C g q B gt qt N L FS TS (k + 1) (W.setCell ⟨g, k * 3 + 2, none⟩ (.bool true)) := by
  obtain ⟨e1, e2, e3, e4⟩ := h.ne
  refine ⟨h.c.other _ _ e1, h.bb.other _ _ e2, nats_setB h.nt _ _ _ e3, by rw [setCell_size]; exact h.lt, ?_, h.b.setCell e4 _, h.ne⟩
  rw [← turnT_succ _ _ _ hk]
  exact h.cb.turn k true (by rw [turnT_len]; exact hk)
/-- the chain that is made backwards -/
structure BkAt (w0 : World) (N : Nat) (DS : List Nat) (v : Value) (k : Nat) (W : World) : Prop where
  box : BoxAt W w0.heap.size #[.int .i64 (N : Int), v] 114
  row : W.ownsRow (w0.heap.size + 1) 128 3 v k (cardCells (backT DS k))
  b : Below w0.heap.size w0 W
theorem BkAt.size {w0 W : World} {N : Nat} {DS : List Nat} {v : Value} {k : Nat} (h : BkAt w0 N DS v k W) : w0.heap.size + 1 ≤ W.heap.size := h.box.lt
theorem BkAt.grew {w0 W W' : World} {N g5 cap k : Nat} {DS : List Nat} {v : Value} {card : Card} (h : BkAt w0 N DS v k W) (hc : backT DS (k + 1) = backT DS k ++ [card])
    (hg : Grew (w0.heap.size + 1) 128 3 W W' v g5 cap (k + 1) (cardCells (backT DS k) ++ card.cells)) :
    BoxAt W' w0.heap.size #[.int .i64 (N : Int), v] 114 ∧ BkAt w0 N DS (.slice (some ⟨g5, 0, none⟩) (k + 1) cap) (k + 1) (W'.setCell ⟨w0.heap.size, 1, none⟩ (.slice (some ⟨g5, 0, none⟩) (k + 1) cap)) := by
  have hn : ∀ j, j < w0.heap.size + 1 → some j ≠ v.ownBlock := fun j hj => own_far h.row hj
  have hb := h.box.kept hg.grow (hn _ (by omega))
  refine ⟨hb, ⟨hb.set 1 _, ?_, ?_⟩⟩
  · have hr := hg.row
    have := own_set hr ⟨w0.heap.size, 1, none⟩ (.slice (some ⟨g5, 0, none⟩) (k + 1) cap) (own_far hr (by simp))
    rw [hc, cardCells_snoc]
    exact this
  · exact (h.b.grown hg.grow h.b.size (fun j hj => by have := (ownBlock_ge h.row hj).1; omega)).setCell (by simp) _
set_option maxRecDepth 100000 in
set_option maxHeartbeats 4000000 in
theorem TopTurned_any (H : Nat) (p : Option Addr) (c : Nat) (ws : List Nat) (w : World) (hH : H < 256) (hw : WordRow w p ws) (hl : ws.length ≤ 9223372036854775807) :
    Calls Try.prog 15 #[.int .u8 (H : Int), .slice p ws.length c] w fun e w' => e = .returned (.bool true) ∧ Below w.heap.size w w' := by
  have H76 := call76 H p c ws w hH hw hl
  obtain ⟨hN1, hN2⟩ := dqN_bd H
  obtain ⟨hL0, hL1⟩ := loom12_bd ws.length
  have hVd := dqTo_valid (dqN H) ws (loomL 12 ws.length) (by omega) (by omega) hL0 (by omega)
  have hDl := dqTo_len (dqN H) ws (loomL 12 ws.length)
  obtain ⟨L, hL⟩ : ∃ L, loomL 12 ws.length = L := ⟨_, rfl⟩
  obtain ⟨N, hN⟩ : ∃ N, dqN H = N := ⟨_, rfl⟩
  rw [hL] at hL0 hL1
  rw [hN, hL] at H76 hVd hDl
  rw [hN] at hN1 hN2
  obtain ⟨DS, hDS⟩ : ∃ DS, dqTo N ws L = DS := ⟨_, rfl⟩
  rw [hDS] at H76 hVd hDl
  clear hN hDS hL hw
  have hVm : Valid N (mirL N DS) := painted_valid hVd _
  have hMl : (mirL N DS).length = L := by rw [mirL_len]; exact hDl
  have hFl : (flpL N DS).length = L := by rw [flpL_len]; exact hDl
  have HVd := Lib.hid hVd
  have HVm := Lib.hid hVm
  have HDl := Lib.hid hDl
  have HMl := Lib.hid hMl
  have HFl := Lib.hid hFl
  have H76' := Lib.hid H76
  clear hVd hVm hDl hMl hFl H76
  go_enter Try.func15, Try.ntmps15
  go_wp2_with fail
  refine H76'.out.mono ?_
  rintro e W1 ⟨g2, q2, rfl, hn2, hl2, hg2, hb1⟩
  clear H76'
  go_upto_region 2 with fail
  obtain ⟨W2, hW2⟩ : ∃ W2, W2 = W1.alloc (.cells #[.int .i64 (N : Int), .slice (some ⟨g2, 0, none⟩) L q2] 37) := ⟨_, rfl⟩
  obtain ⟨D, hD⟩ : ∃ D, D = W1.heap.size := ⟨_, rfl⟩
  rw [← hW2, ← hD]
  have hbW2 : Below W1.heap.size W1 W2 := by rw [hW2]; exact (Below.refl _ _).alloc (Nat.le_refl _) _
  have hxD : BoxAt W2 D #[.int .i64 (N : Int), .slice (some ⟨g2, 0, none⟩) L q2] 37 := by rw [hW2, hD]; exact BoxAt.new _ _ _
  clear hD
  have hn22 := hn2.below hbW2 hg2
  have hg22 : g2 < W2.heap.size := Nat.lt_of_lt_of_le hg2 hbW2.size
  have z0 := hxD.cell' 0 rfl
  have z1 := hxD.cell' 1 rfl
  have H78 := Lib.hid (call78 N L g2 q2 DS W2 HDl.out (by omega) (by omega) hn22 hg22)
  have Hb2 := Lib.hid (hb1.trans (hbW2.mono hb1.size))
  have HD2 := Lib.hid hxD
  have Hn2 := Lib.hid hn22
  clear hn2 hl2 hb1 hbW2 hn22 hxD hW2 hg2
  go_wp2_with fail
  refine H78.out.mono ?_
  rintro e W3 ⟨g3, q3, rfl, hn3, hl3, hg3, hb3⟩
  have H90 := Lib.hid (call90 N L g3 q3 DS W3 HDl.out HVd.out hn3 hg3)
  have Hb3 := Lib.hid hb3
  clear hn3 hl3 hg3 hb3 z0 z1 H78
  go_wp2_with fail
  refine H90.out.mono ?_
  rintro e W4 ⟨g4, q4, rfl, hn4, hl4, hg4, hb4⟩
  have Hb4 := Lib.hid (Hb3.out.trans (hb4.mono Hb3.out.size))
  clear hb4 H90 Hb3
  go_upto_region 4 with fail
  obtain ⟨W5, hW5⟩ : ∃ W5, W5 = W4.alloc (.cells #[.int .i64 (N : Int), .slice (some ⟨g4, 0, none⟩) L q4] 37) := ⟨_, rfl⟩
  obtain ⟨M, hM⟩ : ∃ M, M = W4.heap.size := ⟨_, rfl⟩
  rw [← hW5, ← hM]
  have hbW5 : Below W4.heap.size W4 W5 := by rw [hW5]; exact (Below.refl _ _).alloc (Nat.le_refl _) _
  have hxM : BoxAt W5 M #[.int .i64 (N : Int), .slice (some ⟨g4, 0, none⟩) L q4] 37 := by rw [hW5, hM]; exact BoxAt.new _ _ _
  clear hM
  have hb25 : Below W2.heap.size W2 W5 := Hb4.out.trans (hbW5.mono Hb4.out.size)
  have hn5 := Hn2.out.below hb25 hg22
  have hg25 : g2 < W5.heap.size := Nat.lt_of_lt_of_le hg22 hb25.size
  have HD5 := Lib.hid (HD2.out.next hb25)
  have Hb5 := Lib.hid (Hb2.out.trans (hb25.mono Hb2.out.size))
  have HM5 := Lib.hid hxM
  have Hn5 := Lib.hid hn5
  have Hm5 := Lib.hid (hn4.below hbW5 hg4)
  have hg45 : g4 < W5.heap.size := Nat.lt_of_lt_of_le hg4 hbW5.size
  have z0 := HD5.out.cell' 0 rfl
  have z1 := HD5.out.cell' 1 rfl
  have H78 := Lib.hid (call78 N L g2 q2 DS W5 HDl.out (by omega) (by omega) hn5 hg25)
  clear hb25 hbW5 hxM hn5 hn4 hl4 hg4 hW5 HD2 Hn2 Hb2 hg22 Hb4
  go_wp2_with fail
  refine H78.out.mono ?_
  rintro e W6 ⟨g6, q6, rfl, hn6, hl6, hg6, hb6⟩
  have H91 := Lib.hid (call91 N L g6 q6 DS W6 HDl.out HVd.out hn6 hg6)
  have Hb6 := Lib.hid hb6
  clear hn6 hl6 hg6 hb6 z0 z1 H78
  go_wp2_with fail
  refine H91.out.mono ?_
  rintro e W7 ⟨g7, q7, rfl, hn7, hl7, hg7, hb7⟩
  have Hb7 := Lib.hid (Hb6.out.trans (hb7.mono Hb6.out.size))
  clear hb7 H91 Hb6
  go_upto_region 5 with fail
  obtain ⟨W8, hW8⟩ : ∃ W8, W8 = W7.alloc (.cells #[.int .i64 (N : Int), .slice (some ⟨g7, 0, none⟩) L q7] 37) := ⟨_, rfl⟩
  obtain ⟨F, hF⟩ : ∃ F, F = W7.heap.size := ⟨_, rfl⟩
  rw [← hW8, ← hF]
  have hbW8 : Below W7.heap.size W7 W8 := by rw [hW8]; exact (Below.refl _ _).alloc (Nat.le_refl _) _
  have hxF : BoxAt W8 F #[.int .i64 (N : Int), .slice (some ⟨g7, 0, none⟩) L q7] 37 := by rw [hW8, hF]; exact BoxAt.new _ _ _
  clear hF
  have hb58 : Below W5.heap.size W5 W8 := Hb7.out.trans (hbW8.mono Hb7.out.size)
  have HS := Lib.hid (show TrS w D M F g2 q2 g4 q4 g7 q7 N L DS W8 from
    ⟨HD5.out.next hb58, HM5.out.next hb58, hxF, Hn5.out.below hb58 hg25, Hm5.out.below hb58 hg45, hn7.below hbW8 hg7, Nat.lt_of_lt_of_le hg25 hb58.size, Nat.lt_of_lt_of_le hg45 hb58.size, Nat.lt_of_lt_of_le hg7 hbW8.size, Hb5.out.trans (hb58.mono Hb5.out.size)⟩)
  clear hbW8 hxF hb58 HD5 HM5 Hn5 Hm5 Hb5 hg25 hg45 hn7 hl7 hg7 Hb7 hW8
  go_wp2_with fail
  go_loopw [11] (fun i wr => ∃ k : Nat, k ≤ 2 ∧ i = .int .i64 k ∧ TrS w D M F g2 q2 g4 q4 g7 q7 N L DS wr) (fun i _ => 2 - (intOf i).toNat)
  case atStart => exact ⟨0, Nat.zero_le _, rfl, HS.out⟩
  case round =>
    obtain ⟨k, hk, rfl, hS⟩ := hrel
    clear HS
    by_cases hlt : k < 2
    · have d0 := hS.d.cell' 0 rfl
      have d1 := hS.d.cell' 1 rfl
      have m0 := hS.m.cell' 0 rfl
      have m1 := hS.m.cell' 1 rfl
      have zg2 := hS.l2
      have zg4 := hS.l3
      have zd := hS.d.lt
      have zm := hS.m.lt
      have HS := Lib.hid hS
      clear hS
      go_upto_region 10 with fail
      go_cut [12, 13] from 55 to 56 (fun s12 s13 wx => TwoD wr #[.int .i64 (N : Int), .slice (some ⟨g2, 0, none⟩) L q2] #[.int .i64 (N : Int), .slice (some ⟨g4, 0, none⟩) L q4] s12 s13 wx)
      case first =>
        rename_i J6 K6 hJ6 hK6
        go_region
        all_goals refine hK6 _ _ (Met.intro (hJ6 _ _ ?_))
        all_goals (repeat apply Exists.intro)
        all_goals first | exact ⟨twoD_a wr _ _, rfl⟩ | exact ⟨twoD_b wr _ _, rfl⟩
      case rest =>
        obtain ⟨A, B, rfl, rfl, hA, hB, hAB, hBA, hBB, hbc⟩ := hcut
        have hSc := HS.out.next hbc
        clear d0 d1 m0 m1
        have d0 := hSc.d.cell' 0 rfl
        have d1 := hSc.d.cell' 1 rfl
        have m0 := hSc.m.cell' 0 rfl
        have m1 := hSc.m.cell' 1 rfl
        have HBA := Lib.hid hBA
        have HBB := Lib.hid hBB
        have Hbc := Lib.hid hbc
        have HSc := Lib.hid hSc
        clear hBA hBB hbc hSc
        go_upto_if 58 with fail
        go_cut [] from 59 to 60 (fun wx => PairD wr A B N L wx)
        case first =>
          by_cases hk1 : k = 1
          · have hd1 : ((k : Int) == 1) = true := by rw [hk1]; rfl
            have n1 : A ≠ D := by omega
            have n2 : A ≠ M := by omega
            have n3 : B ≠ D := by omega
            have n4 : B ≠ M := by omega
            have n5 : D ≠ A := by omega
            have n6 : M ≠ A := by omega
            have n7 : D ≠ B := by omega
            have n8 : M ≠ B := by omega
            have n9 : B ≠ A := fun e => hAB e.symm
            have a0 := HBA.out.cell' 0 rfl
            have a1 := HBA.out.cell' 1 rfl
            have b0 := HBB.out.cell' 0 rfl
            have b1 := HBB.out.cell' 1 rfl
            have fa0 := HBA.out.frozen 0
            have fa1 := HBA.out.frozen 1
            have fb0 := HBB.out.frozen 0
            have fb1 := HBB.out.frozen 1
            clear hk1
            go_wp2_with fail
            go_region
            all_goals go_wp2_with fail
            all_goals go_meet
            all_goals first | exact pair_swap rfl rfl HBA.out HBB.out hAB hA hB HSc.out.nd HSc.out.nm HSc.out.l2 HSc.out.l3 ⟨by omega, by omega⟩ ⟨by omega, by omega⟩ HVd.out HDl.out Hbc.out | exact pair_swap' rfl rfl HBA.out HBB.out hAB hA hB HSc.out.nd HSc.out.nm HSc.out.l2 HSc.out.l3 ⟨by omega, by omega⟩ ⟨by omega, by omega⟩ HVd.out HDl.out Hbc.out
          · have hd1 : ((k : Int) == 1) = false := by rw [beq_eq_false_iff_ne]; omega
            clear hk1
            go_wp2_with fail
            go_meet
            exact ⟨g2, q2, g4, q4, DS, _, HBA.out, HBB.out, HSc.out.nd, HSc.out.nm, HSc.out.l2, HSc.out.l3, HVd.out, HDl.out, rfl, Hbc.out⟩
        case rest =>
          obtain ⟨gf, qf, gt, qt, FS, TS, hBA, hBB, hnf, hnt, hlf, hlt', hvf, hlF, hmT, hbc⟩ := hcut
          clear d0 d1 m0 m1 HSc Hbc HBA HBB zd zm zg2 zg4
          have hlT : TS.length = L := by rw [← hmT, mirL_len]; exact hlF
          have HvF := Lib.hid hvf
          have HlF := Lib.hid hlF
          have HlT := Lib.hid hlT
          have HmT := Lib.hid hmT
          have a0 := hBA.cell' 0 rfl
          have a1 := hBA.cell' 1 rfl
          have hBlt := hBB.lt
          have H78 := Lib.hid (call78 N L gf qf FS wc HlF.out (by omega) (by omega) hnf hlf)
          have Hbc := Lib.hid hbc
          have HBB := Lib.hid hBB
          have Hnt := Lib.hid hnt
          have hsc := hbc.size
          clear hbc hBB hnf hlf hnt hvf hlF hlT hmT hBA
          go_wp2_with fail
          refine H78.out.mono ?_
          rintro e W9 ⟨g9, q9, rfl, hn9, hl9, hg9, hb9⟩
          have H81 := Lib.hid (call81 N L g9 q9 FS W9 HlF.out HvF.out hn9 hg9)
          have Hb9 := Lib.hid hb9
          have hs9 := hb9.size
          clear hn9 hl9 hg9 hb9 a0 a1 H78
          go_wp2_with fail
          refine H81.out.mono ?_
          rintro e W10 ⟨g10, q10, rfl, hP, hl10, hb10⟩
          have HP := Lib.hid hP
          have hg10 := hP.lt
          have hs10 := hb10.size
          have Hb10 := Lib.hid (Hb9.out.trans (hb10.mono hs9))
          clear hP hb10 H81 Hb9
          go_upto_region 14 with fail
          obtain ⟨W11, hW11⟩ : ∃ W11, W11 = W10.alloc (.cells #[.int .i64 (N : Int), .slice (some ⟨g10, 0, none⟩) L q10] 114) := ⟨_, rfl⟩
          obtain ⟨C, hC⟩ : ∃ C, C = W10.heap.size := ⟨_, rfl⟩
          rw [← hW11, ← hC]
          have hbW11 : Below W10.heap.size W10 W11 := by rw [hW11]; exact (Below.refl _ _).alloc (Nat.le_refl _) _
          have hxC : BoxAt W11 C #[.int .i64 (N : Int), .slice (some ⟨g10, 0, none⟩) L q10] 114 := by rw [hW11, hC]; exact BoxAt.new _ _ _
          have hb11 := Hb10.out.trans (hbW11.mono Hb10.out.size)
          have HT := Lib.hid (show TcS wr C g10 q10 B gt qt N L FS TS 0 W11 from
            ⟨hxC, HBB.out.next hb11, Hnt.out.below hb11 hlt', Nat.lt_of_lt_of_le hlt' hb11.size, by rw [turnT_zero]; exact HP.out.next hbW11, Hbc.out.trans (hb11.mono hsc), by omega, by omega, by omega, by omega⟩)
          have c1 := hxC.cell' 1 rfl
          clear hbW11 hxC hb11 hW11 hC HBB Hnt Hb10 HP Hbc hg10 hs9 hs10 hl10 hBlt hlt' hsc
          go_wp2_with fail
          clear c1
          go_loopw [16] (fun i wx => ∃ j : Nat, j ≤ L ∧ i = .int .i64 j ∧ TcS wr C g10 q10 B gt qt N L FS TS j wx) (fun i _ => L - (intOf i).toNat)
          case atStart => exact ⟨0, Nat.zero_le _, rfl, HT.out⟩
          case round =>
            obtain ⟨j, hj, rfl, hT⟩ := hrel
            clear HT
            by_cases hltj : j < L
            · have c1 := hT.c.cell' 1 rfl
              have hgf := hT.cb.frozen (j * 3 + 2)
              have hgc := hT.cb.at'.c2 j (by rw [turnT_len]; exact hltj)
              have hgl := hT.cb.lt
              have hj0 : (0 : Int) ≤ (j : Int) := by omega
              have hj1 : (j : Int) < (L : Int) := by omega
              have HT := Lib.hid (hT.turn hltj)
              clear hT
              go_wp2
              go_roundw
              case rel => exact ⟨j + 1, by omega, by go_num, HT.out⟩
              case measure => simp [intOf]; omega
            · have hjL : L = j := by omega
              subst hjL
              have HT := Lib.hid hT
              clear hT
              go_wp2_with fail
              refine region_ones [87, 88, 89, 90, 86, 91, 92, 93, 17, 18, 19] 14 6 N L g10 q10 C (turnT FS L L) (mirL N FS) rfl ?hops rfl (by kernel_rfl) (by kernel_rfl) (by decide) ?hsz ?hout HT.out.c HT.out.cb.at' (turnT_len _ _ _) (turnT_ok HvF.out _ _ HlF.out) (woven_turned _ _ _ HlF.out) ?hend
              case hops => exact ⟨⟨_, _, _, rfl, by kernel_rfl⟩, ⟨_, _, _, rfl, by kernel_rfl⟩, ⟨_, _, _, rfl, by kernel_rfl⟩, ⟨_, _, _, rfl, by kernel_rfl⟩, ⟨_, _, _, rfl, by kernel_rfl⟩, ⟨_, _, _, rfl, by kernel_rfl⟩, ⟨_, _, _, rfl, by kernel_rfl⟩, ⟨_, _, _, rfl, by kernel_rfl⟩, ⟨_, _, _, rfl, by kernel_rfl⟩, ⟨_, _, _, rfl, by kernel_rfl⟩, ⟨_, _, _, rfl, by kernel_rfl⟩⟩
              case hsz => intro d hd; simp only [List.mem_cons, List.not_mem_nil, or_false] at hd; show d < 159; omega
              case hout => exact ⟨rfl, by decide, rfl, by decide⟩
              case hend =>
                intro v X14 hv
                obtain ⟨gr, cr, e1, e2, hrr, hgr, hb14⟩ := hv
                change v 17 = _ at e1
                change v 19 = _ at e2
                simp only [laid, List.foldl, Act.put, List.setIfInBounds_toArray, List.set_cons_succ, List.set_cons_zero, e1, e2]
                generalize v 87 = vu87
                generalize v 88 = vu88
                generalize v 89 = vu89
                generalize v 90 = vu90
                generalize v 86 = vu86
                generalize v 91 = vu91
                generalize v 92 = vu92
                generalize v 93 = vu93
                generalize v 18 = vu18
                clear e1 e2 v
                rw [HmT.out] at hrr
                have hT14 := HT.out.next hb14
                have b0 := hT14.bb.cell' 0 rfl
                have b1 := hT14.bb.cell' 1 rfl
                have H89 := Lib.hid (call89 L gr cr gt qt TS X14 HlT.out (by omega) hrr hT14.nt hgr hT14.lt)
                have Hb14 := Lib.hid hT14.b
                clear hrr hgr hb14 hT14 HT
                go_wp2_with fail
                refine H89.out.mono ?_
                rintro e X15 ⟨rfl, hb15⟩
                have HS15 := Lib.hid (HS.out.next (Hb14.out.trans (hb15.mono Hb14.out.size)))
                clear hb15 Hb14 H89 b0 b1
                go_wp2_with fail
                exact ⟨⟨k + 1, by omega, by go_num, HS15.out⟩, by simp [intOf]; omega⟩
    · obtain ⟨Lm, hLm⟩ : ∃ Lm : Nat, (L : Int) - 1 = (Lm : Int) := ⟨L - 1, by omega⟩
      have HLm := Lib.hid hLm
      have d0 := hS.d.cell' 0 rfl
      have d1 := hS.d.cell' 1 rfl
      have H78 := Lib.hid (call78 N L g2 q2 DS wr HDl.out (by omega) (by omega) hS.nd hS.l2)
      have HS := Lib.hid hS
      clear hS hLm
      go_wp2_with fail
      refine H78.out.mono ?_
      rintro e W9 ⟨g9, q9, rfl, hn9, hl9, hg9, hb9⟩
      have H81 := Lib.hid (call81 N L g9 q9 DS W9 HDl.out HVd.out hn9 hg9)
      have Hb9 := Lib.hid hb9
      have hs9 := hb9.size
      clear hn9 hl9 hg9 hb9 d0 d1 H78
      go_wp2_with fail
      refine H81.out.mono ?_
      rintro e W10 ⟨g10, q10, rfl, hP, hl10, hb10⟩
      have HP := Lib.hid hP
      have Hb10 := Lib.hid (Hb9.out.trans (hb10.mono hs9))
      clear hP hb10 H81 Hb9
      go_upto_region 24 with fail
      obtain ⟨W11, hW11⟩ : ∃ W11, W11 = W10.alloc (.cells #[.int .i64 (N : Int), .slice (some ⟨g10, 0, none⟩) L q10] 114) := ⟨_, rfl⟩
      obtain ⟨C, hC⟩ : ∃ C, C = W10.heap.size := ⟨_, rfl⟩
      rw [← hW11, ← hC]
      have hbW11 : Below W10.heap.size W10 W11 := by rw [hW11]; exact (Below.refl _ _).alloc (Nat.le_refl _) _
      have hxC : BoxAt W11 C #[.int .i64 (N : Int), .slice (some ⟨g10, 0, none⟩) L q10] 114 := by rw [hW11, hC]; exact BoxAt.new _ _ _
      have hS11 := HS.out.next (Hb10.out.trans (hbW11.mono Hb10.out.size))
      have HP11 := Lib.hid (HP.out.next hbW11)
      have d0 := hS11.d.cell' 0 rfl
      have c1 := hxC.cell' 1 rfl
      have HC := Lib.hid hxC
      have HS11 := Lib.hid hS11
      clear hbW11 hxC hW11 hC hS11 HS Hb10 HP hs9 hl10
      go_upto_region 27 with fail
      obtain ⟨W12, hW12⟩ : ∃ W12, W12 = W11.alloc (.cells #[.int .i64 (N : Int), .slice none 0 0] 114) := ⟨_, rfl⟩
      rw [← hW12]
      have HB0 := Lib.hid (show BkAt W11 N DS (.slice none 0 0) 0 W12 from
        ⟨by rw [hW12]; exact BoxAt.new _ _ _, World.ownsRow_nil _ _ _ _, by rw [hW12]; exact (Below.refl _ _).alloc (Nat.le_refl _) _⟩)
      have hLm := HLm.out
      clear d0 c1 hW12
      go_wp2_with fail
      clear hLm
      go_loopw [23] (fun i wx => ∃ (k : Nat) (v : Value), k ≤ L ∧ i = .int .i64 ((Lm : Int) - (k : Int)) ∧ BkAt W11 N DS v k wx) (fun i _ => (intOf i + 1).toNat)
      case atStart => exact ⟨0, _, Nat.zero_le _, by simp, HB0.out⟩
      case round =>
        obtain ⟨j, v, hj, rfl, hB⟩ := hrel
        clear HB0
        by_cases hltj : j < L
        · obtain ⟨e, he⟩ : ∃ e : Nat, (Lm : Int) - (j : Int) = (e : Int) := ⟨Lm - j, by have := HLm.out; omega⟩
          rw [he]
          have heL : e < L := by have := HLm.out; omega
          have hej : e = DS.length - 1 - j := by rw [HDl.out]; have := HLm.out; omega
          obtain ⟨r, hr⟩ : ∃ r, nthN DS e = r := ⟨_, rfl⟩
          have hcard : nthC (punched DS L) e = ⟨e, r, false⟩ := by
            rw [← turnT_zero, turnT_nth _ _ _ _ heL, hr]; rfl
          have hat := (HP11.out.next hB.b).at'
          have k0 := hat.c0 e (by rw [punched_len]; exact heL)
          have k1 := hat.c1 e (by rw [punched_len]; exact heL)
          have k2 := hat.c2 e (by rw [punched_len]; exact heL)
          rw [hcard] at k0 k1 k2
          simp only at k0 k1 k2
          have hsc : backT DS (j + 1) = backT DS j ++ [⟨e, r, false⟩] := by rw [backT_succ, ← hej, hr]
          have a1 := (HC.out.next hB.b).cell' 1 rfl
          have b1 : wr.cell? ⟨W11.heap.size, 1, none⟩ = some v := hB.box.cell' 1 rfl
          have hz1 : W11.heap.size < wr.heap.size := hB.box.lt
          have hz2 : C < wr.heap.size := (HC.out.next hB.b).lt
          have hz3 : g10 < wr.heap.size := hat.lt
          have he0 : (0 : Int) ≤ (e : Int) := by omega
          have he1 : (e : Int) < (L : Int) := by omega
          have He := Lib.hid he
          have HB := Lib.hid hB
          have Hsc := Lib.hid hsc
          clear he hej hr hcard hat hB hsc
          go_wp2_with fail
          go_region_law
            ((refine step_one elemCard (by rfl) _ _ (by rfl) (W11.heap.size + 1) v j (cardCells (backT DS j)) (Card.mk e r false).cells.toArray (by rfl) HB.out.row (by rfl) (by rfl) (by simp [Card.cells, Value.oneCell']) (by omega) (by decide) HB.out.size ?_; intro g5 cap w5 hg)
             obtain ⟨hbx, hB5⟩ := HB.out.grew Hsc.out hg
             have f1 := hbx.frozen 1
             have c1 : w5.cell? ⟨W11.heap.size, 1, none⟩ = some v := hbx.cell' 1 rfl
             have HB5 := Lib.hid hB5
             clear hg hB5 hbx)
          all_goals go_wp2_with fail
          all_goals exact ⟨⟨j + 1, _, by omega, by rw [show (Lm : Int) - ((j + 1 : Nat) : Int) = (e : Int) - 1 by have := He.out; omega], HB5.out⟩, by simp [intOf]⟩
        · have hjL : L = j := by omega
          subst hjL
          rw [show (Lm : Int) - (L : Int) = -1 by have := HLm.out; omega]
          have hrow := hB.row
          obtain ⟨g13, q13, rfl⟩ := row_slice hrow (by omega)
          have hrow2 : wr.ownsRow (W11.heap.size + 1) 128 3 (.slice (some ⟨g13, 0, none⟩) (backT DS L).length q13) (backT DS L).length (cardCells (backT DS L)) := by rw [backT_len]; exact hrow
          have hCA := Lib.hid (CardsAt.of_row hrow2 (by rw [backT_len]; omega))
          have HB := Lib.hid hB
          clear hB hrow hrow2
          go_upto_region 31 with fail
          refine region_ones [138, 139, 140, 141, 137, 142, 143, 144, 24, 25, 26] 22 6 N L g13 q13 W11.heap.size (backT DS L) (flpL N DS) rfl ?hops rfl (by kernel_rfl) (by kernel_rfl) (by decide) ?hsz ?hout HB.out.box hCA.out (backT_len _ _) (backT_ok HVd.out _ HDl.out) (woven_back HVd.out _ HDl.out) ?hend
          case hops => exact ⟨⟨_, _, _, rfl, by kernel_rfl⟩, ⟨_, _, _, rfl, by kernel_rfl⟩, ⟨_, _, _, rfl, by kernel_rfl⟩, ⟨_, _, _, rfl, by kernel_rfl⟩, ⟨_, _, _, rfl, by kernel_rfl⟩, ⟨_, _, _, rfl, by kernel_rfl⟩, ⟨_, _, _, rfl, by kernel_rfl⟩, ⟨_, _, _, rfl, by kernel_rfl⟩, ⟨_, _, _, rfl, by kernel_rfl⟩, ⟨_, _, _, rfl, by kernel_rfl⟩, ⟨_, _, _, rfl, by kernel_rfl⟩⟩
          case hsz => intro d hd; simp only [List.mem_cons, List.not_mem_nil, or_false] at hd; show d < 159; omega
          case hout => exact ⟨rfl, by decide, rfl, by decide⟩
          case hend =>
            intro v X14 hv
            obtain ⟨gr, cr, e1, e2, hrr, hgr, hb14⟩ := hv
            change v 24 = _ at e1
            change v 26 = _ at e2
            simp only [laid, List.foldl, Act.put, List.setIfInBounds_toArray, List.set_cons_succ, List.set_cons_zero, e1, e2]
            generalize v 138 = vu138
            generalize v 139 = vu139
            generalize v 140 = vu140
            generalize v 141 = vu141
            generalize v 137 = vu137
            generalize v 142 = vu142
            generalize v 143 = vu143
            generalize v 144 = vu144
            generalize v 25 = vu25
            clear e1 e2 v
            have hS14 := HS11.out.next (HB.out.b.trans (hb14.mono HB.out.b.size))
            have f0 := hS14.f.cell' 0 rfl
            have f1 := hS14.f.cell' 1 rfl
            have H89 := Lib.hid (call89 L gr cr g7 q7 (flpL N DS) X14 HFl.out (by omega) hrr hS14.nf hgr hS14.l4)
            have Hb14 := Lib.hid hS14.b
            clear hrr hgr hb14 hS14 HS11 HB hCA HP11 HC
            go_wp2_with fail
            refine H89.out.mono ?_
            rintro e X15 ⟨rfl, hb15⟩
            have Hb15 := Lib.hid (Hb14.out.trans (hb15.mono Hb14.out.size))
            clear hb15 Hb14 H89 f0 f1
            go_wp2_with fail
            refine (pubPoint_any X15).mono ?_
            rintro e X16 ⟨rfl, hb16⟩
            have Hb16 := Lib.hid (Hb15.out.trans (hb16.mono Hb15.out.size))
            clear hb16 Hb15
            go_wp2_with fail
            refine (pubChain_any X16).mono ?_
            rintro e X17 ⟨rfl, hb17⟩
            have Hb17 := Lib.hid (Hb16.out.trans (hb17.mono Hb16.out.size))
            clear hb17 Hb16
            go_wp2_with fail
            go_ret
            exact ⟨rfl, Hb17.out⟩
end Go.Proofs.Ytdmgffoikebgkaa
