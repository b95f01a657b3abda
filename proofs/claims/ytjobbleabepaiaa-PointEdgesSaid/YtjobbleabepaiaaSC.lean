/- PointSides: what its walk wants. -/
import Derived.Test.YtjobbleabepaiaaSB
import Derived.Test.YtjobbleabepaiaaXR
import Derived.Deep.RegionHeld3
import Derived.Deep.DeepCutAuto
namespace Go.Proofs.Ytjobbleabepaiaa
open Go.RowKit Go.Shelf

def FlsR (w : World) (p : Option Addr) (fs : List Fl) : Prop := 0 < fs.length → ∃ g, p = some ⟨g, 0, none⟩ ∧ FlsAt w g fs
theorem FlsR.next {w w' : World} {p : Option Addr} {fs : List Fl} (h : FlsR w p fs) (hb : Below w.heap.size w w') : FlsR w' p fs := fun hp => by
  obtain ⟨g, e, hf⟩ := h hp
  exact ⟨g, e, hf.below hb hf.lt⟩
theorem nthF_map (fs : List Fl) (i : Nat) (hi : i < fs.length) : nthF (fs.map Fl.other) i = (nthF fs i).other := by
  rw [nthF_get _ _ (by simpa using hi), nthF_get _ _ hi]
  simp
structure SdF (n : Nat) (ys bs ms fs ss : List Nat) (P Q M g0 g1 g2 g3 : Nat) (L : Nat → List Fl) : Prop where
  v : Valid n ys
  vb : Valid n bs
  vm : Valid n ms
  vf : Valid n fs
  vs : Valid n ss
  lb : bs.length = ys.length
  lm : ms.length = ys.length
  lf : fs.length = ys.length
  ls : ss.length = ys.length
  K : ∀ W b o c, VAt W b o c n ys → Calls Try.prog 37 #[.agg #[.int .i64 (n : Int), .slice (some ⟨b, o, none⟩) ys.length c]] W (OkD n bs W)
  Mi : ∀ W b o c, VAt W b o c n ys → Calls Try.prog 35 #[.agg #[.int .i64 (n : Int), .slice (some ⟨b, o, none⟩) ys.length c]] W (OkD n ms W)
  F : ∀ W b o c, VAt W b o c n ys → Calls Try.prog 36 #[.agg #[.int .i64 (n : Int), .slice (some ⟨b, o, none⟩) ys.length c]] W (OkD n fs W)
  T : ∀ W b o c, VAt W b o c n ys → Calls Try.prog 38 #[.agg #[.int .i64 (n : Int), .slice (some ⟨b, o, none⟩) ys.length c], .int .i64 (P : Int), .int .i64 (Q : Int)] W (OkD n ss W)
  Ld : ∀ W b o c, VAt W b o c n ys → Calls Try.prog 21 #[.agg #[.int .i64 (n : Int), .slice (some ⟨b, o, none⟩) ys.length c]] W fun e w' => e = .returned (.tuple #[.agg #[.int .i64 (g0 : Int), .int .i64 (g1 : Int), .int .i64 (g2 : Int), .int .i64 (g3 : Int)], .int .i64 0]) ∧ Below W.heap.size W w'
  Lb : ∀ W b o c, VAt W b o c n bs → Calls Try.prog 21 #[.agg #[.int .i64 (n : Int), .slice (some ⟨b, o, none⟩) bs.length c]] W fun e w' => e = .returned (.tuple #[.agg #[.int .i64 (g1 : Int), .int .i64 (g0 : Int), .int .i64 (g3 : Int), .int .i64 (g2 : Int)], .int .i64 0]) ∧ Below W.heap.size W w'
  Lm : ∀ W b o c, VAt W b o c n ms → Calls Try.prog 21 #[.agg #[.int .i64 (n : Int), .slice (some ⟨b, o, none⟩) ms.length c]] W fun e w' => e = .returned (.tuple #[.agg #[.int .i64 (g0 : Int), .int .i64 (g1 : Int), .int .i64 (g2 : Int), .int .i64 (g3 : Int)], .int .i64 0]) ∧ Below W.heap.size W w'
  Lf : ∀ W b o c, VAt W b o c n fs → Calls Try.prog 21 #[.agg #[.int .i64 (n : Int), .slice (some ⟨b, o, none⟩) fs.length c]] W fun e w' => e = .returned (.tuple #[.agg #[.int .i64 (g0 : Int), .int .i64 (g1 : Int), .int .i64 (g2 : Int), .int .i64 (g3 : Int)], .int .i64 0]) ∧ Below W.heap.size W w'
  Ls : ∀ W b o c, VAt W b o c n ss → Calls Try.prog 21 #[.agg #[.int .i64 (n : Int), .slice (some ⟨b, o, none⟩) ss.length c]] W fun e w' => e = .returned (.tuple #[.agg #[.int .i64 (g0 : Int), .int .i64 (g1 : Int), .int .i64 (g2 : Int), .int .i64 (g3 : Int)], .int .i64 0]) ∧ Below W.heap.size W w'
  Wd : ∀ al : Nat, al = 1 ∨ al = 2 → ∀ W b o c, VAt W b o c n ys → Calls Try.prog 20 #[.agg #[.int .i64 (n : Int), .slice (some ⟨b, o, none⟩) ys.length c], .int .i64 (al : Int), .int .i64 (M : Int)] W fun e w' => ∃ p cap, e = .returned (.tuple #[.slice p (L al).length cap, .int .i64 0]) ∧ FlsR w' p (L al) ∧ Below W.heap.size W w'
  Wb : ∀ al : Nat, al = 1 ∨ al = 2 → ∀ W b o c, VAt W b o c n bs → Calls Try.prog 20 #[.agg #[.int .i64 (n : Int), .slice (some ⟨b, o, none⟩) bs.length c], .int .i64 (al : Int), .int .i64 (M : Int)] W fun e w' => ∃ p cap, e = .returned (.tuple #[.slice p (L al).length cap, .int .i64 0]) ∧ FlsR w' p ((L al).map Fl.other) ∧ Below W.heap.size W w'
  Ll : ∀ al : Nat, (L al).length ≤ 3600
theorem fls_of {w : World} {B : Nat} {v : Value} {fs : List Fl} (h : w.ownsRow B 87 4 v fs.length (flCells fs)) : ∃ p cap, v = .slice p fs.length cap ∧ FlsR w p fs := Fls.of_row h
theorem SdF.of {n : Nat} {ys : List Nat} {P Q M : Nat} (hv : Valid n ys) (hP : P < ys.length) (hQ : Q < n) (hM : M ≤ 1000) : ∃ bs ms fs ss g0 g1 g2 g3 L, SdF n ys bs ms fs ss P Q M g0 g1 g2 g3 L := by
  have l1 := hv.l1
  have n1 := hv.n1
  have hlong : ∀ (zs : List Nat), zs.length = ys.length → Valid n zs → LongSame n ys n zs → ∀ W b o c, VAt W b o c n zs → Calls Try.prog 21 #[.agg #[.int .i64 (n : Int), .slice (some ⟨b, o, none⟩) zs.length c]] W fun e w' => e = .returned (.tuple #[.agg #[.int .i64 (doneM n ys 2 1 false : Int), .int .i64 (doneM n ys 2 1 true : Int), .int .i64 (doneM n ys 2 2 true : Int), .int .i64 (doneM n ys 2 2 false : Int)], .int .i64 0]) ∧ Below W.heap.size W w' := by
    intro zs hl hz hs W b o c hva
    have := Longest_ok n b o c zs W hva
    rw [hs 1 (.inl rfl), hs 1 (.inl rfl), hs 2 (.inr rfl), hs 2 (.inr rfl)] at this
    exact this
  have vb := painted_valid hv (baG ys)
  have lb := painted_len (baG ys) ys.length n
  refine ⟨painted (baG ys) ys.length n, painted (miG ys n) ys.length n, painted (flG ys) ys.length n, painted (shG ys n P Q) ys.length n, doneM n ys 2 1 false, doneM n ys 2 1 true, doneM n ys 2 2 true, doneM n ys 2 2 false, fun al => if al = 1 then upTo (flW n ys M) ys.length else upTo (flH ys M) n,
    ⟨hv, vb, painted_valid hv _, painted_valid hv _, painted_valid hv _, lb, painted_len _ _ _, painted_len _ _ _, painted_len _ _ _, ?_, ?_, ?_, ?_, ?_, ?_, ?_, ?_, ?_, ?_, ?_, ?_⟩⟩
  · exact fun W b o c h => Back_ok n b o c ys W h
  · exact fun W b o c h => Mirror_ok n b o c ys W h
  · exact fun W b o c h => Flip_ok n b o c ys W h
  · exact fun W b o c h => Shift_ok n b o c P Q ys W h hP hQ
  · exact hlong ys rfl hv (fun a _ v => rfl)
  · intro W b o c hva
    have := Longest_ok n b o c _ W hva
    rw [long_bac hv 1 (.inl rfl), long_bac hv 1 (.inl rfl), long_bac hv 2 (.inr rfl), long_bac hv 2 (.inr rfl)] at this
    exact this
  · exact hlong _ (painted_len _ _ _) (painted_valid hv _) (long_mir hv)
  · exact hlong _ (painted_len _ _ _) (painted_valid hv _) (long_fli hv)
  · exact hlong _ (painted_len _ _ _) (painted_valid hv _) (long_shi hv P Q hP hQ)
  · rintro al (rfl | rfl) W b o c hva
    · refine (FloatsW_ok n b o c ys M W hva hM).mono ?_
      rintro e w' ⟨v, rfl, hr, hb⟩
      obtain ⟨p, cap, rfl, hf⟩ := fls_of hr
      exact ⟨p, cap, rfl, hf, hb⟩
    · refine (FloatsH_ok n b o c ys M W hva hM).mono ?_
      rintro e w' ⟨v, rfl, hr, hb⟩
      obtain ⟨p, cap, rfl, hf⟩ := fls_of hr
      exact ⟨p, cap, rfl, hf, hb⟩
  · rintro al (rfl | rfl) W b o c hva
    · refine (FloatsW_ok n b o c _ M W hva hM).mono ?_
      rintro e w' ⟨v, rfl, hr, hb⟩
      obtain ⟨p, cap, rfl, hf⟩ := fls_of hr
      rw [lb, back_w hv] at hf
      exact ⟨p, cap, by rw [lb, back_w hv, List.length_map]; rfl, hf, hb⟩
    · refine (FloatsH_ok n b o c _ M W hva hM).mono ?_
      rintro e w' ⟨v, rfl, hr, hb⟩
      obtain ⟨p, cap, rfl, hf⟩ := fls_of hr
      rw [back_h hv] at hf
      exact ⟨p, cap, by rw [back_h hv, List.length_map]; rfl, hf, hb⟩
  · intro al
    by_cases h : al = 1
    · simp only [h, if_true]; exact flW_all_len n ys M hv.n0 n1 l1
    · simp only [h, if_false]; exact flH_all_len n ys M n1 hv.l0 l1
/-- what lies in the boxes when PointSides has its design -/
theorem sides_boxes (w : World) (hk l c B0 B1 : Nat) (p : Option Addr) (us : List Nat) (hk2 : hk < 256) (hu : U16At w (.slice p l c) us) :
    ∃ n : Nat, ∃ W1, (w.alloc (.cells #[.int .u8 (hk : Int), .slice p l c] 81)).alloc (.cells #[.int .u8 (B0 : Int), .int .u8 (B1 : Int)] 92) = W1 ∧
      Calls Try.prog 59 #[.agg #[.int .u8 (hk : Int), .slice p l c], .int .i64 24] W1 fun e w' => ∃ b off cd ys, e = .returned (.agg #[.int .i64 (n : Int), .slice (some ⟨b, off, none⟩) ys.length cd]) ∧
        Hid (Boxes w [⟨w'.heap.size, n, some ⟨b, off, none⟩, ys.length, cd, ints ys⟩] (w'.alloc (.cells #[.int .i64 (n : Int), .slice (some ⟨b, off, none⟩) ys.length cd] 24))) ∧ Hid (Valid n ys) ∧ (1 ≤ ys.length ∧ ys.length ≤ 60 ∧ 1 ≤ n ∧ n ≤ 24) ∧
        w.heap.size + 1 < w'.heap.size ∧ (w'.cell? ⟨w.heap.size + 1, 0, none⟩ = some (.int .u8 (B0 : Int)) ∧ w'.cell? ⟨w.heap.size + 1, 1, none⟩ = some (.int .u8 (B1 : Int))) := by
  refine ⟨paperN hk 24, _, rfl, ?_⟩
  obtain ⟨W1, hW1⟩ : ∃ W1, (w.alloc (.cells #[.int .u8 (hk : Int), .slice p l c] 81)).alloc (.cells #[.int .u8 (B0 : Int), .int .u8 (B1 : Int)] 92) = W1 := ⟨_, rfl⟩
  have hB1 : Below w.heap.size w W1 := by rw [← hW1]; exact below2 w _ _
  have hcs : W1.cell? ⟨w.heap.size + 1, 0, none⟩ = some (.int .u8 (B0 : Int)) ∧ W1.cell? ⟨w.heap.size + 1, 1, none⟩ = some (.int .u8 (B1 : Int)) := by
    rw [← hW1]
    have f1 := two_cells (w.alloc (.cells #[.int .u8 (hk : Int), .slice p l c] 81)) (.int .u8 (B0 : Int)) (.int .u8 (B1 : Int)) 92
    simp only [World.size_alloc] at f1
    exact f1
  have hz1 : w.heap.size + 1 < W1.heap.size := by rw [← hW1]; simp
  rw [hW1]
  refine (paperDesign_any hk 24 l c p us W1 (by omega) (by omega) hk2 (hu.below hB1)).mono ?_
  rintro e w2 ⟨b, off, cd, ys, rfl, hl20, hva, hb2⟩
  have hok := hva.ok
  have hS0 : Boxes w [] w2 := ⟨fun x hx => by simp at hx, hB1.trans (hb2.mono hB1.size)⟩
  exact ⟨b, off, cd, ys, rfl, hS0.push _ (some ⟨b, off, none⟩) ys.length cd (ints ys) hva.reads, hok, ⟨hok.l0, hok.l1, hok.n0, hok.n1⟩, Nat.lt_of_lt_of_le hz1 hb2.size,
    (hb2.cell (p := ⟨w.heap.size + 1, 0, none⟩) hz1).trans hcs.1, (hb2.cell (p := ⟨w.heap.size + 1, 1, none⟩) hz1).trans hcs.2⟩
/-- the boxes, and all that lies beneath a world -/
structure SdS (w W3 : World) (L : List BX) (W : World) : Prop where
  s : Boxes w L W
  b : Below W3.heap.size W3 W
section
variable {w W3 W W' : World} {L : List BX}
theorem SdS.next (h : SdS w W3 L W) (hb : Below W.heap.size W W') : SdS w W3 L W' := ⟨h.s.next hb, h.b.trans (hb.mono h.b.size)⟩
theorem SdS.own (h : SdS w W3 L W) {B b off c n : Nat} {ys : List Nat} (hx : (⟨B, n, some ⟨b, off, none⟩, ys.length, c, ints ys⟩ : BX) ∈ L) (hv : Valid n ys) :
    Calls Try.prog 18 #[.agg #[.int .i64 (n : Int), .slice (some ⟨b, off, none⟩) ys.length c]] W fun e w' => ∃ b2 o2 c2, e = .returned (.agg #[.int .i64 (n : Int), .slice (some ⟨b2, o2, none⟩) ys.length c2]) ∧ VAt w' b2 o2 c2 n ys ∧ SdS w W3 L w' := by
  refine (own_reads n (some ⟨b, off, none⟩) ys.length c (ints ys) W (by have := hv.l1; omega) (h.s.all _ hx).r).mono ?_
  rintro e w' ⟨p2, c2, rfl, hr, hb⟩
  obtain ⟨b2, o2, rfl, hva⟩ := vat_of_reads hr hv
  exact ⟨b2, o2, c2, rfl, hva, h.next hb⟩
theorem SdS.own2 (h : SdS w W3 L W) {B b off c n : Nat} {ys : List Nat} (hx : (⟨B, n, some ⟨b, off, none⟩, ys.length, c, ints ys⟩ : BX) ∈ L) (hv : Valid n ys) :
    Calls Try.prog 18 #[.agg #[.int .i64 (n : Int), .slice (some ⟨b, off, none⟩) ys.length c]] W fun e w' => ∃ b2 o2 c2, e = .returned (.agg #[.int .i64 (n : Int), .slice (some ⟨b2, o2, none⟩) ys.length c2]) ∧ VAt w' b2 o2 c2 n ys ∧ SdS w W3 L w' ∧ Below W.heap.size W w' := by
  refine (own_reads n (some ⟨b, off, none⟩) ys.length c (ints ys) W (by have := hv.l1; omega) (h.s.all _ hx).r).mono ?_
  rintro e w' ⟨p2, c2, rfl, hr, hb⟩
  obtain ⟨b2, o2, rfl, hva⟩ := vat_of_reads hr hv
  exact ⟨b2, o2, c2, rfl, hva, h.next hb, hb⟩
theorem res_at {W w' : World} (hb : Below (W.alloc rObj).heap.size (W.alloc rObj) w') : ResBox w' W.heap.size := (ResBox.new W).below hb (by simp)
theorem res_atd {W w' : World} (hb : Below ((W.alloc rObj).drew).heap.size ((W.alloc rObj).drew) w') : ResBox w' W.heap.size := ((ResBox.new W).below (below_drew1 _) (by simp)).below hb (by show W.heap.size < (W.alloc rObj).heap.size; simp)
theorem far_box {W wo : World} {R : Nat} (hb : Below ((W.alloc rObj).drew).heap.size ((W.alloc rObj).drew) wo) (hR : wo.heap.size ≤ R) : W.drew.heap.size < R := by
  have h1 : (W.alloc rObj).heap.size ≤ wo.heap.size := hb.size
  have h2 : (W.alloc rObj).heap.size = W.heap.size + 1 := by simp
  show W.heap.size < R
  omega
theorem below_set2 {W W' : World} {B : Nat} (hb : Below B W W') {D : Nat} (hD : B ≤ D) (u v : Value) : Below B W ((W'.setCell ⟨D, 0, none⟩ u).setCell ⟨D, 1, none⟩ v) := (hb.setCell hD _).setCell hD _
theorem SdS.okd (h : SdS w W3 L W) {f : FuncId} {args : Array Value} {n : Nat} {zs : List Nat} (hc : Calls Try.prog f args W (OkD n zs W)) (hl : zs.length ≤ 1000) :
    Calls Try.prog f args W fun e w' => ∃ R, e = .returned (.tuple #[.agg #[.int .i64 (n : Int), .slice (some ⟨R, 0, none⟩) zs.length zs.length], .int .i64 0]) ∧ SdS w W3 L w' ∧
      SdS w W3 (⟨w'.heap.size, n, some ⟨R, 0, none⟩, zs.length, zs.length, ints zs⟩ :: L) (w'.alloc (.cells #[.int .i64 (n : Int), .slice (some ⟨R, 0, none⟩) zs.length zs.length] 24)) := by
  refine hc.mono ?_
  rintro e w' ⟨R, rfl, _, hn, hb⟩
  have h2 := h.next hb
  exact ⟨R, rfl, h2, h2.s.push n (some ⟨R, 0, none⟩) zs.length zs.length (ints zs) (blk_reads hn hl _), h2.b.trans ((below1 _ _).mono h2.b.size)⟩
theorem SdS.plain (h : SdS w W3 L W) {f : FuncId} {args : Array Value} {E : Ending} (hc : Calls Try.prog f args W fun e w' => e = E ∧ Below W.heap.size W w') : Calls Try.prog f args W fun e w' => e = E ∧ SdS w W3 L w' := by
  refine hc.mono ?_
  rintro e w' ⟨rfl, hb⟩
  exact ⟨rfl, h.next hb⟩
theorem SdS.push (h : SdS w W3 L W) {n R : Nat} {zs : List Nat} (hn : NatBlk W R zs) (hl : zs.length ≤ 1000) :
    SdS w W3 (⟨W.heap.size, n, some ⟨R, 0, none⟩, zs.length, zs.length, ints zs⟩ :: L) (W.alloc (.cells #[.int .i64 (n : Int), .slice (some ⟨R, 0, none⟩) zs.length zs.length] 24)) :=
  ⟨h.s.push n (some ⟨R, 0, none⟩) zs.length zs.length (ints zs) (blk_reads hn hl _), h.b.trans ((below1 _ _).mono h.b.size)⟩
theorem SdS.fill (h : SdS w W3 L W) {n R D : Nat} {zs : List Nat} (hl : zs.length ≤ 1000) (rb : ResBox W' D) (hD : W.heap.size ≤ D) (hb : Below W.heap.size W W') (hn : NatBlk W' R zs) (hR : D < R) :
    SdS w W3 (⟨D, n, some ⟨R, 0, none⟩, zs.length, zs.length, ints zs⟩ :: L) ((W'.setCell ⟨D, 0, none⟩ (.int .i64 (n : Int))).setCell ⟨D, 1, none⟩ (.slice (some ⟨R, 0, none⟩) zs.length zs.length)) := by
  have h2 := h.next (below_set2 hb hD (.int .i64 (n : Int)) (.slice (some ⟨R, 0, none⟩) zs.length zs.length))
  have hrb := (RBox.of_res rb n).set1 (.slice (some ⟨R, 0, none⟩) zs.length zs.length)
  refine ⟨⟨fun x hx => ?_, h2.s.below⟩, h2.b⟩
  rcases List.mem_cons.1 hx with rfl | hx
  · refine ⟨⟨hrb.c0, hrb.c1⟩, blk_reads ?_ hl _⟩
    exact (Below.heap_setCell _ _ _ _ (by simp; omega)).trans ((Below.heap_setCell _ _ _ _ (by simp; omega)).trans hn)
  · exact h2.s.all x hx
end
/-- longest floats in a box -/
def LgAt (W : World) (B a b c d : Nat) : Prop := W.heap[B]? = some (.cells #[.int .i64 (a : Int), .int .i64 (b : Int), .int .i64 (c : Int), .int .i64 (d : Int)] 35 (0, 0))
theorem LgAt.new (W : World) (a b c d : Nat) : LgAt (W.alloc (.cells #[.int .i64 (a : Int), .int .i64 (b : Int), .int .i64 (c : Int), .int .i64 (d : Int)] 35)) W.heap.size a b c d := World.alloc_heap_new W _
theorem LgAt.lt {W : World} {B a b c d : Nat} (h : LgAt W B a b c d) : B < W.heap.size := (Array.getElem?_eq_some_iff.1 h).1
theorem LgAt.next {W W' : World} {B a b c d : Nat} (h : LgAt W B a b c d) (hb : Below W.heap.size W W') : LgAt W' B a b c d := (hb.block B h.lt).trans h
theorem LgAt.cells {W : World} {B a b c d : Nat} (h : LgAt W B a b c d) : W.cell? ⟨B, 0, none⟩ = some (.int .i64 (a : Int)) ∧ W.cell? ⟨B, 1, none⟩ = some (.int .i64 (b : Int)) ∧ W.cell? ⟨B, 2, none⟩ = some (.int .i64 (c : Int)) ∧ W.cell? ⟨B, 3, none⟩ = some (.int .i64 (d : Int)) := by
  refine ⟨?_, ?_, ?_, ?_⟩ <;> simp [World.cell?, show W.heap[B]? = _ from h]
theorem idx65_0 (a b c d e f : Value) (W : World) : (Instr.index 65 (.agg #[a, b, c, d, e, f]) (.int .i64 0)).run Try.prog W = .ok (.agg #[a, b]) W := by kernel_rfl
theorem idx65_1 (a b c d e f : Value) (W : World) : (Instr.index 65 (.agg #[a, b, c, d, e, f]) (.int .i64 1)).run Try.prog W = .ok (.agg #[c, d]) W := by kernel_rfl
theorem idx65_2 (a b c d e f : Value) (W : World) : (Instr.index 65 (.agg #[a, b, c, d, e, f]) (.int .i64 2)).run Try.prog W = .ok (.agg #[e, f]) W := by kernel_rfl
end Go.Proofs.Ytjobbleabepaiaa
