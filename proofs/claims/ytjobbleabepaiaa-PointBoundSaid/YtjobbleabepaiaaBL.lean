/- PointBound: Bind's answers, and what lies in memory at its start. -/
import Derived.Test.YtjobbleabepaiaaBF
import Derived.Test.YtjobbleabepaiaaBK
namespace Go.Proofs.Ytjobbleabepaiaa
open Go.RowKit Go.Shelf

theorem reads_at2 {W : World} {q : Option Addr} {fc : Nat} {fs : List Int} (h : Reads W (.slice q fs.length fc) fs) (h0 : 0 < fs.length) : ∃ fb fo, q = some ⟨fb, fo, none⟩ ∧ fb < W.heap.size ∧ IntsAt W fb fo fs := by
  obtain ⟨p, c, e, _, hx⟩ := h
  obtain ⟨b, off, rfl, hb, hi⟩ := hx h0
  simp at e
  exact ⟨b, off, e.1, hb, hi⟩
theorem nats_at2 {W : World} {b off : Nat} {gs : List Nat} (h : IntsAt W b off (ints gs)) : NatsAt W b off gs := by
  intro i hi
  have := h i (by rw [ints_len]; exact hi)
  rw [this, nthI_get _ _ (by rw [ints_len]; exact hi), nthN_get _ _ hi]
  simp [ints]
theorem least_bad2 {P : Nat → Prop} {N : Nat} (h : ¬ ∀ i, i < N → P i) : ∃ k, k < N ∧ (∀ i, i < k → P i) ∧ ¬ P k := by
  induction N with
  | zero => exact absurd (fun i hi => by omega) h
  | succ N ih =>
    by_cases h2 : ∀ i, i < N → P i
    · refine ⟨N, by omega, h2, fun hP => h fun i hi => ?_⟩
      by_cases e : i = N
      · rw [e]; exact hP
      · exact h2 i (by omega)
    · obtain ⟨k, hk, a, b⟩ := ih h2
      exact ⟨k, by omega, a, b⟩
/-- what Bind answers -/
def BindAsk (n m : Nat) (ys ks : List Nat) (P : World → Ending → World → Prop) : Prop := ∀ W b o c fp fc, VAt W b o c n ys → Reads W (.slice fp ys.length fc) (ints ks) →
  Calls Try.prog 29 #[.agg #[.int .i64 (n : Int), .slice (some ⟨b, o, none⟩) ys.length c], .slice fp ys.length fc, .int .i64 (m : Int)] W (P W)
def BindYes (n S : Nat) (zs : List Nat) (W : World) (e : Ending) (w' : World) : Prop := ∃ R k, e = .returned (.tuple #[.agg #[.int .i64 (n : Int), .slice (some ⟨R, 0, none⟩) zs.length k], .int .i64 (S : Int), .int .i64 0]) ∧ Reads w' (.slice (some ⟨R, 0, none⟩) zs.length k) (ints zs) ∧ Below W.heap.size W w'
theorem bind_ask {n m : Nat} {ys ks : List Nat} (hv : Valid n ys) (hl : ks.length = ys.length) (hk : ∀ i, nthN ks i < 2 ^ n) (hm1 : 1 ≤ m) (hm : m ≤ 24) :
    ((∃ k, k < ys.length ∧ ¬ bindN n (nthN ys k) (nthN ks k) m < never) ∧ BindAsk n m ys ks (fun W => ErrB 9 W)) ∨ ∃ zs S, BindFix n m ys ks zs S ∧ BindAsk n m ys ks (BindYes n S zs) := by
  have l0 := hv.l0
  have l1 := hv.l1
  by_cases hall : ∀ i, i < ys.length → bindN n (nthN ys i) (nthN ks i) m < never
  · refine .inr ⟨_, _, bindFix_of hv hall, fun W b o c fp fc hva hf => ?_⟩
    obtain ⟨fb, fo, rfl, hfb, hfi⟩ := reads_at2 (fs := ints ks) (by rw [ints_len, hl]; exact hf) (by rw [ints_len]; omega)
    refine (Bind_ok n b o c fb fo fc m ys ks W hva hl (nats_at2 hfi) hfb hk hm1 hm hall).mono ?_
    rintro e w' ⟨v, rfl, hrow, hB⟩
    have hlen := bindRows_len n m ys ks ys.length
    have hmap : (bindRows n m ys ks ys.length).map natV = (ints (bindRows n m ys ks ys.length)).map (Value.int .i64) := by simp [ints, natV]
    rw [hmap] at hrow
    obtain ⟨g, k, rfl, _, _⟩ := row_form hrow (by omega)
    obtain ⟨p2, c2, e2, hrd, _⟩ := CopyOf.form (xs := ints (bindRows n m ys ks ys.length)) (by rw [ints_len, hlen]; omega) (by rw [ints_len, hlen]; exact hrow)
    rw [ints_len, hlen] at e2 hrd
    simp at e2
    obtain ⟨rfl, rfl⟩ := e2
    exact ⟨g, k, by rw [hlen], by rw [hlen]; exact hrd, hB⟩
  · obtain ⟨k0, hk0, ha, hb⟩ := least_bad2 hall
    refine .inl ⟨⟨k0, hk0, hb⟩, fun W b o c fp fc hva hf => ?_⟩
    obtain ⟨fb, fo, rfl, hfb, hfi⟩ := reads_at2 (fs := ints ks) (by rw [ints_len, hl]; exact hf) (by rw [ints_len]; omega)
    have hle := bindN_le n (nthN ys k0) (nthN ks k0) m
    exact Bind_nev k0 n b o c fb fo fc m ys ks W hva hl (nats_at2 hfi) hfb hk hm1 hm hk0 ha (by omega)
/-- an object that lies at a place, with what a call leaves of it -/
theorem obj_in {X w5 : World} {D : Nat} (h : X.heap[D]? = some (.cells #[.int .i64 0, .slice none 0 0] 24 (0, 0))) (hb : Below X.heap.size X w5) :
    w5.cell? ⟨D, 0, none⟩ = some (.int .i64 0) ∧ w5.cell? ⟨D, 1, none⟩ = some (.slice none 0 0) ∧ w5.frozen? ⟨D, 0, none⟩ = false ∧ w5.frozen? ⟨D, 1, none⟩ = false ∧ D < w5.heap.size := by
  have hq : ResBox w5 D := ResBox.below h hb (Array.getElem?_eq_some_iff.1 h).1
  exact ⟨hq.c0, hq.c1, hq.f 0, hq.f 1, hq.lt⟩

/-- later worlds -/
structure Aft (w1 W : World) : Prop where
  b : Below w1.heap.size w1 W
theorem Aft.next {w1 W W' : World} (h : Aft w1 W) (hb : Below W.heap.size W W') : Aft w1 W' := ⟨h.b.trans (hb.mono h.b.size)⟩
theorem Aft.alloc {w1 W : World} (h : Aft w1 W) (o : Obj) : Aft w1 (W.alloc o) := ⟨h.b.alloc h.b.size o⟩
theorem Aft.drew {w1 W : World} (h : Aft w1 W) : Aft w1 W.drew := ⟨h.b.drew⟩
theorem Aft.set2 {w1 W : World} (h : Aft w1 W) {D : Nat} (hD : w1.heap.size ≤ D) (u v : Value) : Aft w1 ((W.setCell ⟨D, 0, none⟩ u).setCell ⟨D, 1, none⟩ v) := ⟨(h.b.setCell hD _).setCell hD _⟩
theorem Aft.refl (w1 : World) : Aft w1 w1 := ⟨Below.refl _ _⟩
theorem Reads.kept {W W' : World} {b off l c : Nat} {xs : List Int} (h : Reads W (.slice (some ⟨b, off, none⟩) l c) xs) (hb : W'.heap[b]? = W.heap[b]?) : Reads W' (.slice (some ⟨b, off, none⟩) l c) xs := by
  obtain ⟨p', c', e, hl, hx⟩ := h
  refine ⟨p', c', e, hl, fun h0 => ?_⟩
  obtain ⟨b', off', rfl, hlt, hi⟩ := hx h0
  simp at e
  obtain ⟨⟨rfl, rfl⟩, _⟩ := e
  have hlt' : b < W'.heap.size := by
    have h1 : W.heap[b]? = some W.heap[b] := Array.getElem?_eq_getElem hlt
    rw [h1] at hb
    exact (Array.getElem?_eq_some_iff.1 hb).1
  exact ⟨b, off, rfl, hlt', fun i hi' => (World.cell?_of_block (w := W) (a := ⟨b, off + i, none⟩) hb).trans (hi i hi')⟩
/-- what lies in memory while PointBound makes the list of what is fixed -/
structure PB0 (w : World) (B n D b off cd : Nat) (ys rows : List Nat) (v : Value) (W : World) : Prop where
  s : Boxes w [⟨D, n, some ⟨b, off, none⟩, ys.length, cd, ints ys⟩] W
  r : W.ownsRow B 3 1 v rows.length (rows.map natV)
  lo : w.heap.size ≤ B
  nD : v.ownBlock ≠ some D
  nb : v.ownBlock ≠ some b
  bl : b < W.heap.size
theorem PB0.next {w W W' : World} {B n D b off cd : Nat} {ys rows : List Nat} {v : Value} (h : PB0 w B n D b off cd ys rows v W) (hb : Below W.heap.size W W') : PB0 w B n D b off cd ys rows v W' :=
  ⟨h.s.next hb, ownsRow_next h.r hb, h.lo, h.nD, h.nb, Nat.lt_of_lt_of_le h.bl hb.size⟩
theorem PB0.grew {w W w5 : World} {B n D b off cd : Nat} {ys rows rows' : List Nat} {v v' : Value} (h : PB0 w B n D b off cd ys rows v W) (hg : W.grownBy w5 v.ownBlock)
    (hr : w5.ownsRow B 3 1 v' rows'.length (rows'.map natV)) (hat : v'.ownBlock = v.ownBlock ∨ ∃ g, v'.ownBlock = some g ∧ W.heap.size ≤ g) : PB0 w B n D b off cd ys rows' v' w5 := by
  have hx := h.s.all ⟨D, n, some ⟨b, off, none⟩, ys.length, cd, ints ys⟩ (by simp)
  have hDl : D < W.heap.size := hx.a.lt
  have hD := hg.block D hDl (fun e => h.nD e.symm)
  have hB := hg.block b h.bl (fun e => h.nb e.symm)
  refine ⟨⟨fun x hx2 => ?_, h.s.below.grown hg h.s.below.size (fun k hk => ?_)⟩, hr, h.lo, ?_, ?_, Nat.lt_of_lt_of_le h.bl hg.size⟩
  · simp only [List.mem_cons, List.not_mem_nil, or_false] at hx2
    subst hx2
    exact ⟨⟨(World.cell?_of_block (w := W) (a := ⟨D, 0, none⟩) hD).trans hx.a.c0, (World.cell?_of_block (w := W) (a := ⟨D, 1, none⟩) hD).trans hx.a.c1⟩, hx.r.kept hB⟩
  · exact Nat.le_trans h.lo (ownBlock_ge h.r hk).1
  · rcases hat with e | ⟨g, e, hge⟩
    · rw [e]; exact h.nD
    · rw [e]; intro e2; cases e2; omega
  · rcases hat with e | ⟨g, e, hge⟩
    · rw [e]; exact h.nb
    · rw [e]; intro e2; cases e2; have := h.bl; omega

theorem own_nil {W : World} {B g : Nat} (h : W.heap[g]? = some (.cells #[] 3 (0, 0))) (hB : B ≤ g) : W.ownsRow B 3 1 (.slice (some ⟨g, 0, none⟩) 0 0) 0 [] :=
  ⟨rfl, .inr ⟨g, 0, #[], rfl, hB, h, by simp, by simp, by simp, by simp⟩⟩
theorem PB0.first {w W : World} {B n D b off cd g : Nat} {ys : List Nat} (hB : Below w.heap.size w W) (ha : ArgBox W D n (some ⟨b, off, none⟩) ys.length cd) (hr : VAt W b off cd n ys) (hg : W.heap[g]? = some (.cells #[] 3 (0, 0))) (hlo : w.heap.size ≤ B) (hgw : B ≤ g) (hgD : g ≠ D) (hgb : g ≠ b) :
    PB0 w B n D b off cd ys [] (.slice (some ⟨g, 0, none⟩) 0 0) W :=
  ⟨⟨fun x hx => by simp only [List.mem_cons, List.not_mem_nil, or_false] at hx; subst hx; exact ⟨ha, hr.reads⟩, hB⟩, own_nil hg hgw, hlo, by simp [Value.ownBlock, hgD], by simp [Value.ownBlock, hgb], hr.lt⟩
section
variable {w Wa w5 : World} {n b off cd : Nat} {ys : List Nat}
theorem pb1 (hB : Below w.heap.size w Wa) (hA : Aft Wa w5) (hv : VAt w5 b off cd n ys) :
    PB0 w Wa.heap.size n (w5.heap.size + 1) b off cd ys [] (.slice (some ⟨w5.heap.size, 0, none⟩) 0 0) ((w5.alloc (.cells #[] 3)).alloc (.cells #[.int .i64 (n : Int), .slice (some ⟨b, off, none⟩) ys.length cd] 24)) := by
  have hl := hv.lt
  have hs := hA.b.size
  have hs2 := hB.size
  have ha := ArgBox.new (w5.alloc (.cells #[] 3)) n (some ⟨b, off, none⟩) ys.length cd
  rw [World.size_alloc] at ha
  exact PB0.first (hB.trans (((hA.alloc _).alloc _).b.mono hB.size)) ha (hv.below (below2 _ _ _)) ((Below.heap_alloc _ _ _ (by simp)).trans (World.alloc_heap_new w5 _)) hB.size (by omega) (by omega) (by omega)
theorem pb2 (hB : Below w.heap.size w Wa) (hA : Aft Wa w5) (hv : VAt w5 b off cd n ys) :
    PB0 w Wa.heap.size n w5.heap.size b off cd ys [] (.slice (some ⟨w5.heap.size + 1, 0, none⟩) 0 0) ((w5.alloc (.cells #[.int .i64 (n : Int), .slice (some ⟨b, off, none⟩) ys.length cd] 24)).alloc (.cells #[] 3)) := by
  have hl := hv.lt
  have hs := hA.b.size
  have hs2 := hB.size
  have hg := World.alloc_heap_new (w5.alloc (.cells #[.int .i64 (n : Int), .slice (some ⟨b, off, none⟩) ys.length cd] 24)) (.cells #[] 3)
  rw [World.size_alloc] at hg
  exact PB0.first (hB.trans (((hA.alloc _).alloc _).b.mono hB.size)) ((ArgBox.new w5 n (some ⟨b, off, none⟩) ys.length cd).below (below1 _ _)) (hv.below (below2 _ _ _)) hg hB.size (by omega) (by omega) (by omega)
theorem pb4 (hB : Below w.heap.size w Wa) (hA : Aft Wa w5) (hv : VAt w5 b off cd n ys) {g : Nat} (hg : w5.heap[g]? = some (.cells #[] 3 (0, 0))) (hgw : Wa.heap.size ≤ g) (hgb : g ≠ b) :
    PB0 w Wa.heap.size n w5.heap.size b off cd ys [] (.slice (some ⟨g, 0, none⟩) 0 0) (w5.alloc (.cells #[.int .i64 (n : Int), .slice (some ⟨b, off, none⟩) ys.length cd] 24)) := by
  have hs2 := hB.size
  have hgl := (Array.getElem?_eq_some_iff.1 hg).1
  exact PB0.first (hB.trans ((hA.alloc _).b.mono hB.size)) (ArgBox.new w5 n (some ⟨b, off, none⟩) ys.length cd) (hv.below (below1 _ _)) ((Below.heap_alloc _ _ _ hgl).trans hg) hB.size hgw (by omega) hgb
theorem box_set {D : Nat} (hD : w5.heap[D]? = some (.cells #[.int .i64 0, .slice none 0 0] 24 (0, 0))) (p : Option Addr) (l c : Nat) : ((w5.setCell ⟨D, 0, none⟩ (.int .i64 (n : Int))).setCell ⟨D, 1, none⟩ (.slice p l c)).heap[D]? = some (.cells #[.int .i64 (n : Int), .slice p l c] 24 (0, 0)) := by
  simp [World.setCell, Array.getElem?_modify, hD]
theorem box_arg {D : Nat} {p : Option Addr} {l c : Nat} (h : w5.heap[D]? = some (.cells #[.int .i64 (n : Int), .slice p l c] 24 (0, 0))) : ArgBox w5 D n p l c := ⟨by simp [World.cell?, h], by simp [World.cell?, h]⟩
theorem vat_set {D : Nat} (hv : VAt w5 b off cd n ys) (hb : b ≠ D) (u v : Value) : VAt ((w5.setCell ⟨D, 0, none⟩ u).setCell ⟨D, 1, none⟩ v) b off cd n ys := by
  have h : ((w5.setCell ⟨D, 0, none⟩ u).setCell ⟨D, 1, none⟩ v).heap[b]? = w5.heap[b]? := (Below.heap_setCell _ _ _ _ hb).trans (Below.heap_setCell _ _ _ _ hb)
  exact vat_of (hv.reads.kept h) hv.ok
theorem pb5 (hB : Below w.heap.size w Wa) (hA : Aft Wa w5) (hv : VAt w5 b off cd n ys) {D g : Nat} (hD : w5.heap[D]? = some (.cells #[.int .i64 0, .slice none 0 0] 24 (0, 0))) (hDw : Wa.heap.size ≤ D) (hbD : b ≠ D) (hg : w5.heap[g]? = some (.cells #[] 3 (0, 0))) (hgw : Wa.heap.size ≤ g) (hgb : g ≠ b) (hgD : g ≠ D) :
    PB0 w Wa.heap.size n D b off cd ys [] (.slice (some ⟨g, 0, none⟩) 0 0) ((w5.setCell ⟨D, 0, none⟩ (.int .i64 (n : Int))).setCell ⟨D, 1, none⟩ (.slice (some ⟨b, off, none⟩) ys.length cd)) :=
  PB0.first (hB.trans ((hA.set2 hDw _ _).b.mono hB.size)) (box_arg (box_set hD _ _ _)) (vat_set hv hbD _ _) ((Below.heap_setCell _ _ _ _ hgD).trans ((Below.heap_setCell _ _ _ _ hgD).trans hg)) hB.size hgw hgD hgb
theorem pb6 (hB : Below w.heap.size w Wa) (hA : Aft Wa w5) (hv : VAt w5 b off cd n ys) {D : Nat} (hD : w5.heap[D]? = some (.cells #[.int .i64 0, .slice none 0 0] 24 (0, 0))) (hDw : Wa.heap.size ≤ D) (hbD : b ≠ D) :
    PB0 w Wa.heap.size n D b off cd ys [] (.slice (some ⟨w5.heap.size, 0, none⟩) 0 0) (((w5.setCell ⟨D, 0, none⟩ (.int .i64 (n : Int))).setCell ⟨D, 1, none⟩ (.slice (some ⟨b, off, none⟩) ys.length cd)).alloc (.cells #[] 3)) := by
  have hl := hv.lt
  have hs := hA.b.size
  have hs2 := hB.size
  have hDl := (Array.getElem?_eq_some_iff.1 hD).1
  have hsz : ((w5.setCell ⟨D, 0, none⟩ (.int .i64 (n : Int))).setCell ⟨D, 1, none⟩ (.slice (some ⟨b, off, none⟩) ys.length cd)).heap.size = w5.heap.size := by simp [World.setCell]
  have hg := World.alloc_heap_new ((w5.setCell ⟨D, 0, none⟩ (.int .i64 (n : Int))).setCell ⟨D, 1, none⟩ (.slice (some ⟨b, off, none⟩) ys.length cd)) (.cells #[] 3)
  rw [hsz] at hg
  exact PB0.first (hB.trans (((hA.set2 hDw _ _).alloc _).b.mono hB.size)) ((box_arg (box_set hD _ _ _)).below (below1 _ _)) ((vat_set hv hbD _ _).below (below1 _ _)) hg hB.size (by omega) (by omega) (by omega)
end
/-- the two ways in which Bind ends -/
def BindCase (n m : Nat) (ys ks : List Nat) (h : Int) (S : Nat) (E : Int) (AF : List Int) : Prop :=
  (E = 9 ∧ h = 0 ∧ AF = [] ∧ S = 0 ∧ ∃ k, k < ys.length ∧ ¬ bindN n (nthN ys k) (nthN ks k) m < never) ∨ (E = 0 ∧ ∃ zs, h = (n : Int) ∧ AF = ints zs ∧ BindFix n m ys ks zs S)
theorem bind_one {n m : Nat} {ys ks : List Nat} (hv : Valid n ys) (hl : ks.length = ys.length) (hk : ∀ i, nthN ks i < 2 ^ n) (hm1 : 1 ≤ m) (hm : m ≤ 24) :
    ∃ h S E AF, BindCase n m ys ks h S E AF ∧ BindAsk n m ys ks (fun W e w' => ∃ pr kk, e = .returned (.tuple #[.agg #[.int .i64 h, .slice pr AF.length kk], .int .i64 (S : Int), .int .i64 E]) ∧ Reads w' (.slice pr AF.length kk) AF ∧ Below W.heap.size W w') := by
  rcases bind_ask hv hl hk hm1 hm with ⟨hn, ha⟩ | ⟨zs, S, hf, ha⟩
  · refine ⟨0, 0, 9, [], .inl ⟨rfl, rfl, rfl, rfl, hn⟩, fun W b o c fp fc h1 h2 => (ha W b o c fp fc h1 h2).mono ?_⟩
    rintro e w' ⟨rfl, hb⟩
    exact ⟨none, 0, rfl, reads_nil _ _ _, hb⟩
  · refine ⟨n, S, 0, ints zs, .inr ⟨rfl, zs, rfl, rfl, hf⟩, fun W b o c fp fc h1 h2 => (ha W b o c fp fc h1 h2).mono ?_⟩
    rintro e w' ⟨R, k, rfl, hr, hb⟩
    exact ⟨some ⟨R, 0, none⟩, k, by rw [ints_len], by rw [ints_len]; exact hr, hb⟩
theorem ints_len_any {N : Nat} (ks : List Nat) (hl : ks.length = N) (hN : N ≤ 100) (W : World) (p : Option Addr) (c : Nat) (hr : Reads W (.slice p N c) (ints ks)) :
    Calls Try.prog 28 #[.slice p N c] W fun e w' => ∃ p2 c2, e = .returned (.slice p2 N c2) ∧ Reads w' (.slice p2 N c2) (ints ks) ∧ Below W.heap.size W w' := by
  have h1 : (ints ks).length = N := by rw [ints_len, hl]
  have := ints_any p c (ints ks) W (by omega) (by rw [h1]; exact hr)
  unfold CopyOf at this
  rw [h1] at this
  exact this.mono fun e w' ⟨p2, c2, a, b, _, d⟩ => ⟨p2, c2, a, b, d⟩
theorem own_len {n N : Nat} (ys : List Nat) (hl : ys.length = N) (hN : N ≤ 100) (W : World) (p : Option Addr) (c : Nat) (hr : Reads W (.slice p N c) (ints ys)) :
    Calls Try.prog 18 #[.agg #[.int .i64 (n : Int), .slice p N c]] W fun e w' => ∃ p2 c2, e = .returned (.agg #[.int .i64 (n : Int), .slice p2 N c2]) ∧ Reads w' (.slice p2 N c2) (ints ys) ∧ Below W.heap.size W w' := by
  have h1 : (ints ys).length = N := by rw [ints_len, hl]
  have := own_any n p c (ints ys) W (by omega) (by rw [h1]; exact hr)
  unfold CopyD at this
  rw [h1] at this
  exact this
theorem own_row_any {n N : Nat} (ys : List Nat) (hl : ys.length = N) (h0 : 0 < N) (hN : N ≤ 100) (W : World) (p : Option Addr) (c : Nat) (hr : Reads W (.slice p N c) (ints ys)) :
    Calls Try.prog 18 #[.agg #[.int .i64 (n : Int), .slice p N c]] W fun e w' => ∃ g k, e = .returned (.agg #[.int .i64 (n : Int), .slice (some ⟨g, 0, none⟩) N k]) ∧ w'.ownsRow W.heap.size 3 1 (.slice (some ⟨g, 0, none⟩) N k) N (ys.map natV) ∧ (W.heap.size ≤ g ∧ g < w'.heap.size) ∧ Below W.heap.size W w' := by
  have h1 : (ints ys).length = N := by rw [ints_len, hl]
  have hm : (ints ys).map (Value.int .i64) = ys.map natV := by simp [ints, natV]
  have := own_row n p c (ints ys) W (by omega) (by omega) (by rw [h1]; exact hr)
  rw [h1, hm] at this
  exact this
theorem row_reads {W : World} {B g k N : Nat} {ks : List Nat} (hl : ks.length = N) (hN : N ≤ 100) (h : W.ownsRow B 3 1 (.slice (some ⟨g, 0, none⟩) N k) N (ks.map natV)) : Reads W (.slice (some ⟨g, 0, none⟩) N k) (ints ks) := by
  have hm : ks.map natV = (ints ks).map (Value.int .i64) := by simp [ints, natV]
  have h1 : (ints ks).length = N := by rw [ints_len, hl]
  rw [hm] at h
  obtain ⟨p2, c2, e2, hrd, _⟩ := CopyOf.form (xs := ints ks) (by omega) (by rw [h1]; exact h)
  rw [h1] at e2 hrd
  simp at e2
  obtain ⟨rfl, rfl⟩ := e2
  exact hrd
/-- while the other design is written -/
structure PB2 (w10 : World) (BO n go co N : Nat) (zs : List Nat) (W : World) : Prop where
  a : Aft w10 W
  o : ArgBox W BO n (some ⟨go, 0, none⟩) N co
  r : W.ownsRow w10.heap.size 3 1 (.slice (some ⟨go, 0, none⟩) N co) N (zs.map natV)
  ne : BO ≠ go
theorem PB2.next {w10 W W' : World} {BO n go co N : Nat} {zs : List Nat} (h : PB2 w10 BO n go co N zs W) (hb : Below W.heap.size W W') : PB2 w10 BO n go co N zs W' :=
  ⟨h.a.next hb, h.o.below hb, ownsRow_next h.r hb, h.ne⟩
theorem PB2.go_ge {w10 W : World} {BO n go co N : Nat} {zs : List Nat} (h : PB2 w10 BO n go co N zs W) : w10.heap.size ≤ go ∧ go < W.heap.size := ownBlock_ge h.r rfl
theorem PB2.write {w10 W : World} {BO n go co N : Nat} {zs : List Nat} (h : PB2 w10 BO n go co N zs W) (j v : Nat) : PB2 w10 BO n go co N (zs.set j v) (W.setCell ⟨go, j, none⟩ (.int .i64 (v : Int))) := by
  have hB : (W.setCell ⟨go, j, none⟩ (.int .i64 (v : Int))).heap[BO]? = W.heap[BO]? := Below.heap_setCell _ _ _ _ h.ne
  exact ⟨⟨h.a.b.setCell h.go_ge.1 _⟩, ⟨(World.cell?_of_block (w := W) (a := ⟨BO, 0, none⟩) hB).trans h.o.c0, (World.cell?_of_block (w := W) (a := ⟨BO, 1, none⟩) hB).trans h.o.c1⟩, row_write h.r j v, h.ne⟩
theorem PB2.start {w10 w11 : World} {n go co N : Nat} {ys : List Nat} (hr : w11.ownsRow w10.heap.size 3 1 (.slice (some ⟨go, 0, none⟩) N co) N (ys.map natV)) (hg : go < w11.heap.size) (hb : Below w10.heap.size w10 w11) :
    PB2 w10 w11.heap.size n go co N ys (w11.alloc (.cells #[.int .i64 (n : Int), .slice (some ⟨go, 0, none⟩) N co] 24)) :=
  ⟨⟨hb.alloc hb.size _⟩, ArgBox.new _ _ _ _ _, ownsRow_next hr (below1 _ _), by omega⟩
theorem two_pow_cast (b : Nat) : ((2 ^ b : Nat) : Int) = (2 : Int) ^ b := Int.natCast_pow 2 b
theorem reads_cell {W : World} {g c N : Nat} {ks : List Nat} (hl : ks.length = N) (h : Reads W (.slice (some ⟨g, 0, none⟩) N c) (ints ks)) {i : Nat} (hi : i < N) : W.cell? ⟨g, i, none⟩ = some (.int .i64 (nthN ks i : Int)) := by
  have h1 : (ints ks).length = N := by rw [ints_len, hl]
  rw [← h1] at h
  obtain ⟨fb, fo, e, _, hI⟩ := reads_at2 h (by omega)
  simp at e
  obtain ⟨rfl, rfl⟩ := e
  have := nats_at2 hI i (by omega)
  rwa [Nat.zero_add] at this
theorem bound_len {n b off c m N : Nat} {xs : List Nat} (w : World) (hl : xs.length = N) (hv : VAt w b off c n xs) (hm : m ≤ 24) :
    Calls Try.prog 60 #[.agg #[.int .i64 (n : Int), .slice (some ⟨b, off, none⟩) N c], .int .i64 (m : Int)] w fun e w' => BoundRes n m xs e ∧ Below w.heap.size w w' := by
  subst hl; exact bound_any n b off c m xs w hv hm
theorem right_len2 {n b off c N : Nat} {xs : List Nat} (w : World) (hl : xs.length = N) (hv : VAt w b off c n xs) :
    Calls Try.prog 61 #[.agg #[.int .i64 (n : Int), .slice (some ⟨b, off, none⟩) N c], .int .i64 (n : Int), .int .i64 (N : Int)] w fun e w' => e = .returned (.bool true) ∧ Below w.heap.size w w' := by
  subst hl; exact right_len n b off c xs.length xs w hv rfl
theorem changes_len {n b off c b2 o2 c2 N : Nat} {xs ys : List Nat} (pick : Int) (w : World) (hx : xs.length = N) (hy : ys.length = N) (hv : VAt w b off c n xs) (hv2 : VAt w b2 o2 c2 n ys) :
    Calls Try.prog 62 #[.agg #[.int .i64 (n : Int), .slice (some ⟨b, off, none⟩) N c], .agg #[.int .i64 (n : Int), .slice (some ⟨b2, o2, none⟩) N c2], .int .i64 pick] w
      fun e w' => e = .returned (.int .i64 (chAll pick n xs ys N : Int)) ∧ Below w.heap.size w w' := by
  subst hx
  have := changes_any n b off c b2 o2 c2 xs ys pick w hv hv2 hy
  rwa [hy] at this
theorem PB2.vat {w10 W : World} {BO n go co N : Nat} {zs : List Nat} (h : PB2 w10 BO n go co N zs W) (hl : zs.length = N) (hN : N ≤ 100) (hv : Valid n zs) : VAt W go 0 co n zs := by
  subst hl
  exact vat_of (row_reads rfl hN h.r) hv
/-- while the windows are counted -/
structure PB3 (wx : World) (RW : Nat) (cs : List Nat) (W : World) : Prop where
  a : Aft wx W
  lo : wx.heap.size ≤ RW
  nb : NatBlk W RW cs
theorem PB3.next {wx W W' : World} {RW : Nat} {cs : List Nat} (h : PB3 wx RW cs W) (hb : Below W.heap.size W W') : PB3 wx RW cs W' := ⟨h.a.next hb, h.lo, h.nb.below hb h.nb.lt⟩
theorem PB3.start (wx : World) (N : Nat) : PB3 wx wx.heap.size (List.replicate N 0) (wx.alloc (.cells (madeCells #[.int .i64 0] N) 3)) := ⟨(Aft.refl wx).alloc _, Nat.le_refl _, NatBlk.made wx N⟩
theorem PB3.write {wx W : World} {RW : Nat} {cs : List Nat} (h : PB3 wx RW cs W) (i v : Nat) (hi : i < cs.length) : PB3 wx RW (cs.set i v) (W.setCell ⟨RW, i, none⟩ (.int .i64 (v : Int))) := ⟨⟨h.a.b.setCell h.lo _⟩, h.lo, h.nb.set i v hi⟩
/-- what has been counted -/
structure Cnt (ws : List Fl) (N k : Nat) (cs : List Nat) : Prop where
  l : cs.length = N
  c : ∀ j, j < N → nthN cs j = cntTo ws j k
theorem Cnt.start (ws : List Fl) (N : Nat) : Cnt ws N 0 (List.replicate N 0) := ⟨by simp, fun j hj => by simp [nthN, hj, cntTo]⟩
theorem Cnt.step {ws : List Fl} {N k : Nat} {cs : List Nat} (h : Cnt ws N k cs) {P : Nat} (hP : (nthF ws k).pick = P) (hPl : P < N) : Cnt ws N (k + 1) (cs.set P (nthN cs P + 1)) := by
  refine ⟨by rw [List.length_set]; exact h.l, fun j hj => ?_⟩
  rw [nth_set _ _ _ _ (by rw [h.l]; exact hPl), cntTo, hP, h.c P hPl]
  by_cases e : j = P
  · subst e; simp
  · rw [if_neg e, if_neg (fun x => e x.symm), h.c j hj, Nat.add_zero]
end Go.Proofs.Ytjobbleabepaiaa
