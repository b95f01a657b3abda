/- PointEdges: what its walk wants. -/
import Derived.Test.YtjobbleabepaiaaEA
import Derived.Test.YtjobbleabepaiaaJD
import Derived.Test.YtjobbleabepaiaaSC
namespace Go.Proofs.Ytjobbleabepaiaa
open Go.RowKit Go.Shelf

structure EdF (n K : Nat) (ys rs ms zs ts : List Nat) (p h g0 g1 g2 g3 : Nat) : Prop where
  v : Valid n ys
  n12 : n ≤ 12
  l20 : ys.length ≤ 20
  kn : K = n + (n - 2)
  vr : Valid K rs
  vm : 1 < n → Valid K ms
  vz : Valid (n + n) zs
  va : Valid n ts
  lr : rs.length = ys.length
  lm : ms.length = ys.length
  lz : zs.length = ys.length
  lt : ts.length = ys.length + ys.length
  R : ∀ W b o c, VAt W b o c n ys → Calls Try.prog 46 #[.agg #[.int .i64 (n : Int), .slice (some ⟨b, o, none⟩) ys.length c]] W (OkD K rs W)
  Mi : 1 < n → ∀ W b o c, VAt W b o c K rs → Calls Try.prog 35 #[.agg #[.int .i64 (K : Int), .slice (some ⟨b, o, none⟩) rs.length c]] W (OkD K ms W)
  Sh : 1 < n → ∀ W b o c, VAt W b o c K ms → Calls Try.prog 38 #[.agg #[.int .i64 (K : Int), .slice (some ⟨b, o, none⟩) ms.length c], .int .i64 0, .int .i64 1] W (OkD K rs W)
  B : ∀ W b o c b2 o2 c2, VAt W b o c n ys → VAt W b2 o2 c2 n ys → Calls Try.prog 44 #[.agg #[.int .i64 (n : Int), .slice (some ⟨b, o, none⟩) ys.length c], .agg #[.int .i64 (n : Int), .slice (some ⟨b2, o2, none⟩) ys.length c2]] W (OkD (n + n) zs W)
  A : ∀ W b o c b2 o2 c2, VAt W b o c n ys → VAt W b2 o2 c2 n ys → Calls Try.prog 45 #[.agg #[.int .i64 (n : Int), .slice (some ⟨b, o, none⟩) ys.length c], .agg #[.int .i64 (n : Int), .slice (some ⟨b2, o2, none⟩) ys.length c2]] W (OkC n ts W)
  Ld : ∀ W b o c, VAt W b o c n ys → Calls Try.prog 51 #[.agg #[.int .i64 (n : Int), .slice (some ⟨b, o, none⟩) ys.length c]] W fun e w' => e = .returned (.tuple #[.int .i64 (p : Int), .int .i64 (h : Int), .int .i64 0]) ∧ Below W.heap.size W w'
  Lz : ∀ W b o c, VAt W b o c (n + n) zs → Calls Try.prog 51 #[.agg #[.int .i64 ((n + n : Nat) : Int), .slice (some ⟨b, o, none⟩) zs.length c]] W fun e w' => e = .returned (.tuple #[.int .i64 (p : Int), .int .i64 (h : Int), .int .i64 0]) ∧ Below W.heap.size W w'
  La : ∀ W b o c, VAt W b o c n ts → Calls Try.prog 51 #[.agg #[.int .i64 (n : Int), .slice (some ⟨b, o, none⟩) ts.length c]] W fun e w' => e = .returned (.tuple #[.int .i64 (p : Int), .int .i64 (h : Int), .int .i64 0]) ∧ Below W.heap.size W w'
  Gd : ∀ W b o c, VAt W b o c n ys → Calls Try.prog 21 #[.agg #[.int .i64 (n : Int), .slice (some ⟨b, o, none⟩) ys.length c]] W fun e w' => e = .returned (.tuple #[.agg #[.int .i64 (g0 : Int), .int .i64 (g1 : Int), .int .i64 (g2 : Int), .int .i64 (g3 : Int)], .int .i64 0]) ∧ Below W.heap.size W w'
  Gz : ∀ W b o c, VAt W b o c (n + n) zs → Calls Try.prog 21 #[.agg #[.int .i64 ((n + n : Nat) : Int), .slice (some ⟨b, o, none⟩) zs.length c]] W fun e w' => e = .returned (.tuple #[.agg #[.int .i64 (g0 : Int), .int .i64 (g1 : Int), .int .i64 (g2 : Int), .int .i64 (g3 : Int)], .int .i64 0]) ∧ Below W.heap.size W w'
  Ga : ∀ W b o c, VAt W b o c n ts → Calls Try.prog 21 #[.agg #[.int .i64 (n : Int), .slice (some ⟨b, o, none⟩) ts.length c]] W fun e w' => e = .returned (.tuple #[.agg #[.int .i64 (g0 : Int), .int .i64 (g1 : Int), .int .i64 (g2 : Int), .int .i64 (g3 : Int)], .int .i64 0]) ∧ Below W.heap.size W w'
  row : ∀ i, i < ys.length → nthN rs i &&& (2 ^ n - 1) = nthN ys i
  p1 : 1 ≤ p ∧ p ≤ ys.length
  h1 : 1 ≤ h ∧ h ≤ n
  pd : ys.length % p = 0
  hd : n % h = 0
  per : ∀ i j, pt n ys i j = pt n ys (i % p) (j % h)
theorem EdF.of {n : Nat} {ys : List Nat} (hv : Valid n ys) (hn : n ≤ 12) (hl : ys.length ≤ 20) : ∃ K rs ms zs ts p h g0 g1 g2 g3, EdF n K ys rs ms zs ts p h g0 g1 g2 g3 := by
  have hK : reflHooks n ≤ 24 := by unfold reflHooks; split <;> omega
  have hKn : reflHooks n = n + (n - 2) := by unfold reflHooks; split <;> omega
  have hK1 : 1 ≤ reflHooks n := by have := hv.n0; omega
  have lr := painted_len (reflG ys n) ys.length (reflHooks n)
  have vr : Valid (reflHooks n) (painted (reflG ys n) ys.length (reflHooks n)) := ⟨hK1, hK, by rw [lr]; exact hv.l0, by rw [lr]; exact hv.l1, fun i => painted_lt _ _ _ i⟩
  have lm := painted_len (miG (painted (reflG ys n) ys.length (reflHooks n)) (reflHooks n)) ys.length (reflHooks n)
  have vm : Valid (reflHooks n) (painted (miG (painted (reflG ys n) ys.length (reflHooks n)) (reflHooks n)) ys.length (reflHooks n)) := ⟨hK1, hK, by rw [lm]; exact hv.l0, by rw [lm]; exact hv.l1, fun i => painted_lt _ _ _ i⟩
  have vz := beside_valid hv hn
  have va := above_valid hv (by omega)
  obtain ⟨b1, b2⟩ := least_beside hv hn
  obtain ⟨a1, a2⟩ := least_above hv (by omega)
  have sz := long_same hv vz (pt_beside hv)
  have sa := long_same hv va (pt_above hv)
  have lz := painted_len (beG n ys ys) ys.length (n + n)
  have q1 := rows_leastP hv
  have q2 := hooks_leastP hv
  refine ⟨reflHooks n, painted (reflG ys n) ys.length (reflHooks n), painted (miG (painted (reflG ys n) ys.length (reflHooks n)) (reflHooks n)) ys.length (reflHooks n), painted (beG n ys ys) ys.length (n + n), ys ++ ys,
    leastN (fun k => repB ys n k 0) ys.length, leastN (fun k => repB ys n 0 k) n, doneM n ys 2 1 false, doneM n ys 2 1 true, doneM n ys 2 2 true, doneM n ys 2 2 false,
    ⟨hv, hn, hl, hKn, vr, fun _ => vm, vz, va, lr, lm, lz, List.length_append, ?_, ?_, ?_, ?_, ?_, ?_, ?_, ?_, ?_, ?_, ?_, ?_, ⟨q1.one, (least_rows hv).2.1⟩, ⟨q2.one, (least_hooks hv).2.1⟩, q1.div, q2.div, fun i j => pt_least hv i j⟩⟩
  · exact fun W b o c h => Reflect_ok n b o c ys W h hK
  · intro _ W b o c h
    have := Mirror_ok (reflHooks n) b o c _ W h
    rw [lr] at this ⊢
    exact this
  · intro h1 W b o c h
    have := Shift_ok (reflHooks n) b o c 0 1 _ W h (by rw [lm]; exact hv.l0) (by rw [hKn]; omega)
    rw [lm] at this ⊢
    rw [refl_mirror hv h1] at this
    exact this
  · exact fun W b o c b2 o2 c2 h h2 => Beside_ok n b o c n b2 o2 c2 ys ys W h h2 rfl (by omega)
  · exact fun W b o c b2 o2 c2 h h2 => Above_ok n b o c b2 o2 c2 ys ys W h h2 (by omega)
  · exact fun W b o c h => Least_ok n b o c ys W h
  · intro W b o c h
    have := Least_ok (n + n) b o c _ W h
    rw [lz, b1, b2] at this
    rw [lz]
    exact this
  · intro W b o c h
    have := Least_ok n b o c _ W h
    rw [a1, a2] at this
    exact this
  · exact fun W b o c h => Longest_ok n b o c ys W h
  · intro W b o c h
    have := Longest_ok (n + n) b o c _ W h
    rw [sz 1 (.inl rfl), sz 1 (.inl rfl), sz 2 (.inr rfl), sz 2 (.inr rfl)] at this
    exact this
  · intro W b o c h
    have := Longest_ok n b o c _ W h
    rw [sa 1 (.inl rfl), sa 1 (.inl rfl), sa 2 (.inr rfl), sa 2 (.inr rfl)] at this
    exact this
  · exact fun i hi => refl_row hv i hi
theorem edges_boxes (w : World) (hk l c : Nat) (p : Option Addr) (us : List Nat) (hk2 : hk < 256) (hu : U16At w (.slice p l c) us) :
    ∃ n : Nat, Calls Try.prog 59 #[.agg #[.int .u8 (hk : Int), .slice p l c], .int .i64 12] (w.alloc (.cells #[.int .u8 (hk : Int), .slice p l c] 81)) fun e w' => ∃ b off cd ys, e = .returned (.agg #[.int .i64 (n : Int), .slice (some ⟨b, off, none⟩) ys.length cd]) ∧
        Hid (Boxes w [⟨w'.heap.size, n, some ⟨b, off, none⟩, ys.length, cd, ints ys⟩] (w'.alloc (.cells #[.int .i64 (n : Int), .slice (some ⟨b, off, none⟩) ys.length cd] 24))) ∧ Hid (Valid n ys) ∧ (1 ≤ ys.length ∧ ys.length ≤ 20 ∧ 1 ≤ n ∧ n ≤ 12) := by
  refine ⟨paperN hk 12, ?_⟩
  have hB1 := below1 w (.cells #[.int .u8 (hk : Int), .slice p l c] 81)
  refine (paperDesign_any hk 12 l c p us _ (by omega) (by omega) hk2 (hu.below hB1)).mono ?_
  rintro e w2 ⟨b, off, cd, ys, rfl, hl20, hva, hb2⟩
  have hok := hva.ok
  have hS0 : Boxes w [] w2 := ⟨fun x hx => by simp at hx, hB1.trans (hb2.mono hB1.size)⟩
  refine ⟨b, off, cd, ys, rfl, hS0.push _ (some ⟨b, off, none⟩) ys.length cd (ints ys) hva.reads, hok, ⟨hok.l0, hl20, hok.n0, ?_⟩⟩
  unfold paperN
  have := Nat.mod_lt hk (show 0 < 12 by decide)
  omega
section
variable {w W3 W W' : World} {L : List BX}
theorem SdS.pushR (h : SdS w W3 L W) {n : Nat} {p : Option Addr} {l c : Nat} {xs : List Int} (hr : Reads W (.slice p l c) xs) :
    SdS w W3 (⟨W.heap.size, n, p, l, c, xs⟩ :: L) (W.alloc (.cells #[.int .i64 (n : Int), .slice p l c] 24)) :=
  ⟨h.s.push n p l c xs hr, h.b.trans ((below1 _ _).mono h.b.size)⟩
theorem SdS.fillR (h : SdS w W3 L W) {n D : Nat} {p : Option Addr} {l c : Nat} {xs : List Int} (rb : ResBox W' D) (hD : W.heap.size ≤ D) (hb : Below W.heap.size W W') (hr : Reads W' (.slice p l c) xs) (hR : ∀ a, p = some a → D < a.block) :
    SdS w W3 (⟨D, n, p, l, c, xs⟩ :: L) ((W'.setCell ⟨D, 0, none⟩ (.int .i64 (n : Int))).setCell ⟨D, 1, none⟩ (.slice p l c)) := by
  have h2 := h.next (below_set2 hb hD (.int .i64 (n : Int)) (.slice p l c))
  have hrb := (RBox.of_res rb n).set1 (.slice p l c)
  refine ⟨⟨fun x hx => ?_, h2.s.below⟩, h2.b⟩
  rcases List.mem_cons.1 hx with rfl | hx
  · exact ⟨⟨hrb.c0, hrb.c1⟩, (hr.set _ _ (fun a e => by have := hR a e; simp; omega)).set _ _ (fun a e => by have := hR a e; simp; omega)⟩
  · exact h2.s.all x hx
end
end Go.Proofs.Ytjobbleabepaiaa
