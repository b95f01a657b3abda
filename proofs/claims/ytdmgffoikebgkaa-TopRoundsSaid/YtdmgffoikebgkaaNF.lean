/- The statements' examples of chapter 2, with Ways. -/
import Derived.Test.YtdmgffoikebgkaaNE
import Derived.Test.YtdmgffoikebgkaaMK
import Derived.Test.YtdmgffoikebgkaaHG
namespace Go.Proofs.Ytdmgffoikebgkaa
open Go.RowKit Go.Shelf
attribute [local go_sem] Oper.semAt_some

theorem furtherC_congr {l m : Nat} {wf : Nat → Bool} {c c' : Nat → Nat → Nat} (h : ∀ a f, a < l → f ≤ m → c a f = c' a f) (a' f' : Nat) : furtherC l m wf c a' f' = furtherC l m wf c' a' f' :=
  sumD_congr fun a f ha hf => by unfold ctr; rw [h a f ha hf]
def tab (L : List Nat) : Nat → Nat → Nat := fun a f => L.getD (a * 3 + f) 0
def exSeen : List Int := [8, 2, 2, -1, 1]
def exWf (j : Nat) : Nat → Bool := fun a => wv (nthI exSeen j) (liftN 4 (nthC exCards a))
theorem exC0 : ∀ a f, a < 5 → f ≤ 2 → cntK 4 exCards 2 exSeen 0 a f = tab [1, 0, 0, 1, 0, 0, 1, 0, 0, 1, 0, 0, 1, 0, 0] a f := by
  have h : ∀ a, a < 5 → ∀ f, f < 3 → cntK 4 exCards 2 exSeen 0 a f = tab [1, 0, 0, 1, 0, 0, 1, 0, 0, 1, 0, 0, 1, 0, 0] a f := by decide +kernel
  exact fun a f ha hf => h a ha f (by omega)
theorem exStep (j : Nat) (L L' : List Nat) (h : ∀ a f, a < 5 → f ≤ 2 → cntK 4 exCards 2 exSeen j a f = tab L a f) (h' : ∀ a, a < 5 → ∀ f, f < 3 → furtherC 5 2 (exWf j) (tab L) a f = tab L' a f) :
    ∀ a f, a < 5 → f ≤ 2 → cntK 4 exCards 2 exSeen (j + 1) a f = tab L' a f := fun a f ha hf => by
  show furtherC 5 2 (exWf j) (cntK 4 exCards 2 exSeen j) a f = _
  rw [furtherC_congr h, h' a ha f (by omega)]
theorem exC1 : ∀ a f, a < 5 → f ≤ 2 → cntK 4 exCards 2 exSeen 1 a f = tab [0, 0, 0, 0, 1, 0, 1, 0, 0, 0, 1, 0, 0, 0, 0] a f := exStep 0 _ _ exC0 (by decide +kernel)
theorem exC2 : ∀ a f, a < 5 → f ≤ 2 → cntK 4 exCards 2 exSeen 2 a f = tab [0, 0, 0, 0, 0, 0, 0, 1, 0, 1, 0, 0, 0, 1, 0] a f := exStep 1 _ _ exC1 (by decide +kernel)
theorem exC3 : ∀ a f, a < 5 → f ≤ 2 → cntK 4 exCards 2 exSeen 3 a f = tab [0, 0, 0, 0, 0, 0, 0, 0, 1, 0, 1, 0, 0, 0, 1] a f := exStep 2 _ _ exC2 (by decide +kernel)
theorem exC4 : ∀ a f, a < 5 → f ≤ 2 → cntK 4 exCards 2 exSeen 4 a f = tab [0, 0, 2, 0, 0, 0, 0, 0, 0, 0, 0, 2, 0, 1, 0] a f := exStep 3 _ _ exC3 (by decide +kernel)
theorem exC5 : ∀ a f, a < 5 → f ≤ 2 → cntK 4 exCards 2 exSeen 5 a f = tab [0, 0, 0, 0, 0, 2, 0, 0, 0, 0, 0, 0, 0, 0, 0] a f := exStep 4 _ _ exC4 (by decide +kernel)
theorem exWays5 : sumD 5 2 (cntK 4 exCards 2 exSeen 5) = 2 := (sumD_congr exC5).trans (by decide +kernel)
theorem exWaysLe (j : Nat) (hj : j ≤ 5) : sumD 5 2 (cntK 4 exCards 2 exSeen j) ≤ 10000 := by
  have : j = 0 ∨ j = 1 ∨ j = 2 ∨ j = 3 ∨ j = 4 ∨ j = 5 := by omega
  rcases this with rfl | rfl | rfl | rfl | rfl | rfl
  · rw [sumD_congr exC0]; decide +kernel
  · rw [sumD_congr exC1]; decide +kernel
  · rw [sumD_congr exC2]; decide +kernel
  · rw [sumD_congr exC3]; decide +kernel
  · rw [sumD_congr exC4]; decide +kernel
  · rw [exWays5]; decide
theorem exPicks : ∀ i, i < exSeen.length → PickOk 4 (nthI exSeen i) := by
  intro i hi
  rcases five (show i < 5 from hi) with rfl | rfl | rfl | rfl | rfl
  · exact .inr ⟨8, rfl, by decide⟩
  · exact .inr ⟨2, rfl, by decide⟩
  · exact .inr ⟨2, rfl, by decide⟩
  · exact .inl rfl
  · exact .inr ⟨1, rfl, by decide⟩
theorem exSeen_at {W : World} {B : Nat} (h : BoxAt W B #[.int .i64 8, .int .i64 2, .int .i64 2, .int .i64 (-1), .int .i64 1] 3) : IntsAt W B 0 exSeen := by
  intro i hi
  rw [Nat.zero_add]
  rcases five (show i < 5 from hi) with rfl | rfl | rfl | rfl | rfl <;> exact h.cell' _ rfl
theorem belt85 (g c : Nat) (W : World) (hx : CardsAt W g exCards) : Calls Try.prog 85 #[.agg #[.int .i64 4, .slice (some ⟨g, 0, none⟩) 5 c]] W fun e w' =>
    ∃ g' cap, e = .returned (.agg #[.int .i64 4, .slice (some ⟨g', 0, none⟩) 5 cap]) ∧ CardsAt w' g' exCards ∧ Below W.heap.size W w' := by
  refine (pubBelt_ok 4 g c exCards W (by decide) (by decide) hx).mono ?_
  rintro e w' ⟨g', cap, rfl, h1, h2⟩
  obtain ⟨h4, _⟩ := CardBlk.of_row h1 (by decide)
  exact ⟨g', cap, rfl, h4.at', h2⟩
set_option maxHeartbeats 4000000 in
set_option maxRecDepth 100000 in
theorem pubChain_any (w : World) : Calls Try.prog 80 #[] w fun e w' => e = .returned (.bool true) ∧ Below w.heap.size w w' := by
  obtain ⟨W0, hW0⟩ : ∃ W0, W0 = (w.alloc (.cells exCells 128)).alloc (.cells #[.int .i64 4, .slice (some ⟨w.heap.size, 0, none⟩) 5 5] 114) := ⟨_, rfl⟩
  have hb0 : Below w.heap.size w W0 := by rw [hW0]; exact ((Below.refl _ _).alloc (Nat.le_refl _) _).alloc (by simp) _
  have hA : BoxAt W0 w.heap.size exCells 128 := by rw [hW0]; exact (BoxAt.new _ _ _).below ((Below.refl (w.heap.size + 1) _).alloc (by simp) _) (by omega)
  have hB : BoxAt W0 (w.heap.size + 1) #[.int .i64 4, .slice (some ⟨w.heap.size, 0, none⟩) 5 5] 114 := by
    have := BoxAt.new (w.alloc (.cells exCells 128)) #[.int .i64 4, .slice (some ⟨w.heap.size, 0, none⟩) 5 5] 114
    rw [World.size_alloc] at this
    rw [hW0]; exact this
  have HP := Lib.hid (belt85 w.heap.size 5 W0 (exCards_at hA))
  have HA := Lib.hid hA
  have HB := Lib.hid hB
  have Hb0 := Lib.hid hb0
  have HW0 := Lib.hid hW0
  unfold exCells at HW0
  clear hA hB hb0 hW0
  go_enter Try.func80, Try.ntmps80
  go_wp2_with fail
  rw [← HW0.out]
  refine HP.out.mono ?_
  rintro e w1 ⟨g1, cap1, rfl, hc1, hb1⟩
  obtain ⟨W2, hW2⟩ : ∃ W2, W2 = w1.alloc (.cells #[.int .i64 1, .int .i64 1, .int .i64 0, .int .i64 2] 3) := ⟨_, rfl⟩
  have hb2 : Below w1.heap.size w1 W2 := by rw [hW2]; exact (Below.refl _ _).alloc (Nat.le_refl _) _
  have hC : BoxAt W2 w1.heap.size #[.int .i64 1, .int .i64 1, .int .i64 0, .int .i64 2] 3 := by rw [hW2]; exact BoxAt.new _ _ _
  have HWv := Lib.hid (chainWeave_ok 4 g1 cap1 0 w1.heap.size 0 4 exCards [1, 1, 0, 2] W2 ⟨hc1.next hb2, exCards_ok⟩ (by decide) (nats4 (a := 1) (b := 1) (c := 0) (d := 2) hC) hC.lt (by decide) (by decide) exSteps)
  have hb02 := Hb0.out.trans ((hb1.trans (hb2.mono hb1.size)).mono Hb0.out.size)
  have HA2 := Lib.hid (HA.out.next (hb1.trans (hb2.mono hb1.size)))
  have HB2 := Lib.hid (HB.out.next (hb1.trans (hb2.mono hb1.size)))
  have Hb2 := Lib.hid hb02
  have HW2 := Lib.hid hW2
  clear hc1 hb1 hb2 hC hb02 hW2 HA HB HP
  go_wp2_with fail
  rw [← HW2.out]
  refine HWv.out.mono ?_
  rintro e w3 ⟨v, rfl, hr, hb3⟩
  have hl4 : ([1, 1, 0, 2] : List Nat).length = 4 := rfl
  have hl5 : exCards.length = 5 := rfl
  simp only [hl4, hl5] at hr ⊢
  rw [exWoven.1] at hr
  rw [exWoven.2]
  obtain ⟨g3, cap3, rfl⟩ := row_slice hr (by decide)
  obtain ⟨hn3, hg3, _⟩ := nats_of_row hr (by decide)
  have HA3 := Lib.hid (HA2.out.next hb3)
  have HB3 := Lib.hid (HB2.out.next hb3)
  have Hb3 := Lib.hid (Hb2.out.trans (hb3.mono Hb2.out.size))
  have HN3 := Lib.hid hn3
  have b0 := HB3.out.cell' 0 rfl
  have b1 := HB3.out.cell' 1 rfl
  have HP := Lib.hid (belt85 w.heap.size 5 w3 (exCards_at HA3.out))
  clear hr hb3 hn3 hl4 hl5 HA2 HB2 HWv
  go_wp2_with fail
  refine HP.out.mono ?_
  rintro e w4 ⟨g4, cap4, rfl, hc4, hb4⟩
  have HM := Lib.hid (Moved_ok 4 g4 cap4 exCards w4 ⟨hc4, exCards_ok⟩ exCards_apart)
  have HA4 := Lib.hid (HA3.out.next hb4)
  have HB4 := Lib.hid (HB3.out.next hb4)
  have Hb4 := Lib.hid (Hb3.out.trans (hb4.mono Hb3.out.size))
  have HN4 := Lib.hid (HN3.out.below hb4 hg3)
  have hg4 := Nat.lt_of_lt_of_le hg3 hb4.size
  clear hc4 hb4 b0 b1 HA3 HB3 HN3 HP
  go_wp2_with fail
  refine HM.out.mono ?_
  rintro e w5 ⟨v, rfl, hr, hb5⟩
  rw [exMoved] at hr
  obtain ⟨g5, cap5, rfl⟩ := row_slice hr (by decide)
  have hl1 : ([1] : List Nat).length = 1 := rfl
  simp only [hl1] at hr ⊢
  obtain ⟨hn5, hg5, _⟩ := nats_of_row hr (by decide)
  have HA5 := Lib.hid (HA4.out.next hb5)
  have HB5 := Lib.hid (HB4.out.next hb5)
  have Hb5 := Lib.hid (Hb4.out.trans (hb5.mono Hb4.out.size))
  have HN5 := Lib.hid (HN4.out.below hb5 hg4)
  have hg3' := Nat.lt_of_lt_of_le hg4 hb5.size
  have HQ5 := Lib.hid hn5
  have b0 := HB5.out.cell' 0 rfl
  have b1 := HB5.out.cell' 1 rfl
  have HP := Lib.hid (belt85 w.heap.size 5 w5 (exCards_at HA5.out))
  clear hr hb5 hn5 hl1 HA4 HB4 HN4 HM
  go_wp2_with fail
  refine HP.out.mono ?_
  rintro e w6 ⟨g6, cap6, rfl, hc6, hb6⟩
  obtain ⟨W7, hW7⟩ : ∃ W7, W7 = w6.alloc (.cells #[.int .i64 8, .int .i64 2, .int .i64 2, .int .i64 (-1), .int .i64 1] 3) := ⟨_, rfl⟩
  have hb7 : Below w6.heap.size w6 W7 := by rw [hW7]; exact (Below.refl _ _).alloc (Nat.le_refl _) _
  have hC7 : BoxAt W7 w6.heap.size #[.int .i64 8, .int .i64 2, .int .i64 2, .int .i64 (-1), .int .i64 1] 3 := by rw [hW7]; exact BoxAt.new _ _ _
  have hwy := ways_any 4 g6 cap6 w6.heap.size 0 5 2 exSeen exCards W7 ⟨hc6.next hb7, exCards_ok⟩ (exSeen_at hC7) hC7.lt (by decide) exPicks (by decide) (fun j hj => exWaysLe j hj)
  rw [show exSeen.length = 5 from rfl, show exCards.length = 5 from rfl, exWays5] at hwy
  have HWy := Lib.hid hwy
  have hb67 := hb6.trans (hb7.mono hb6.size)
  have Hb7 := Lib.hid (Hb5.out.trans (hb67.mono Hb5.out.size))
  have HN7 := Lib.hid (HN5.out.below hb67 hg3')
  have HQ7 := Lib.hid (HQ5.out.below hb67 hg5)
  have hgn := Nat.lt_of_lt_of_le hg3' hb67.size
  have hgq := Nat.lt_of_lt_of_le hg5 hb67.size
  have HW7 := Lib.hid hW7
  clear hc6 hb6 hb7 hC7 hwy hb67 hW7 b0 b1 HA5 HB5 HN5 HQ5 HP
  go_wp2_with fail
  rw [← HW7.out]
  refine HWy.out.mono ?_
  rintro e w8 ⟨rfl, hb8⟩
  obtain ⟨W9, hW9⟩ : ∃ W9, W9 = w8.alloc (.cells #[.int .i64 1, .int .i64 8, .int .i64 2, .int .i64 2] 3) := ⟨_, rfl⟩
  have hb9 : Below w8.heap.size w8 W9 := by rw [hW9]; exact (Below.refl _ _).alloc (Nat.le_refl _) _
  have hE : BoxAt W9 w8.heap.size #[.int .i64 1, .int .i64 8, .int .i64 2, .int .i64 2] 3 := by rw [hW9]; exact BoxAt.new _ _ _
  have hb79 := hb8.trans (hb9.mono hb8.size)
  have hs1 := pubSame_any g3 0 cap3 w8.heap.size 0 4 [1, 8, 2, 2] [1, 8, 2, 2] W9 (by decide) (by decide) (HN7.out.below hb79 hgn) (nats4 (a := 1) (b := 8) (c := 2) (d := 2) hE) (Nat.lt_of_lt_of_le hgn hb79.size) hE.lt
  have HS1 := Lib.hid hs1
  have Hb9 := Lib.hid (Hb7.out.trans (hb79.mono Hb7.out.size))
  have HQ9 := Lib.hid (HQ7.out.below hb79 hgq)
  have hgq9 := Nat.lt_of_lt_of_le hgq hb79.size
  have HW9 := Lib.hid hW9
  clear hb8 hb9 hE hb79 hs1 hW9 HN7 HQ7 HWy
  go_wp2_with fail
  rw [← HW9.out]
  refine HS1.out.mono ?_
  rintro e w10 ⟨rfl, hb10⟩
  obtain ⟨W11, hW11⟩ : ∃ W11, W11 = w10.alloc (.cells #[.int .i64 1] 3) := ⟨_, rfl⟩
  have hb11 : Below w10.heap.size w10 W11 := by rw [hW11]; exact (Below.refl _ _).alloc (Nat.le_refl _) _
  have hD : BoxAt W11 w10.heap.size #[.int .i64 1] 3 := by rw [hW11]; exact BoxAt.new _ _ _
  have hb911 := hb10.trans (hb11.mono hb10.size)
  have HS2 := Lib.hid (pubSame_any g5 0 cap5 w10.heap.size 0 1 [1] [1] W11 (by decide) (by decide) (HQ9.out.below hb911 hgq9) (fun i hi => by
    obtain rfl : i = 0 := by simpa using hi
    exact hD.cell' 0 rfl) (Nat.lt_of_lt_of_le hgq9 hb911.size) hD.lt)
  have Hb11 := Lib.hid (Hb9.out.trans (hb911.mono Hb9.out.size))
  have HW11 := Lib.hid hW11
  clear hb10 hb11 hD hb911 hW11 HQ9 HS1
  go_wp2_with fail
  rw [← HW11.out]
  refine HS2.out.mono ?_
  rintro e w12 ⟨rfl, hb12⟩
  have Hb12 := Lib.hid (Hb11.out.trans (hb12.mono Hb11.out.size))
  clear hb12
  go_wp2_with fail
  go_ret
  exact ⟨rfl, Hb12.out⟩
end Go.Proofs.Ytdmgffoikebgkaa
/- TopTurned: turned cards weave the mirror, a chain taken backwards the flipped design. -/
namespace Go.Proofs.Ytdmgffoikebgkaa
open Go.RowKit Go.Shelf
attribute [local go_sem] Oper.semAt_some

theorem loom12_bd (l : Nat) : 1 ≤ loomL 12 l ∧ loomL 12 l ≤ 12 := by unfold loomL; split <;> omega
/-- the three designs in memory -/
structure TrS (w : World) (D M F g2 q2 g3 q3 g4 q4 N L : Nat) (DS : List Nat) (W : World) : Prop where
  d : BoxAt W D #[.int .i64 (N : Int), .slice (some ⟨g2, 0, none⟩) L q2] 37
  m : BoxAt W M #[.int .i64 (N : Int), .slice (some ⟨g3, 0, none⟩) L q3] 37
  f : BoxAt W F #[.int .i64 (N : Int), .slice (some ⟨g4, 0, none⟩) L q4] 37
  nd : NatsAt W g2 0 DS
  nm : NatsAt W g3 0 (mirL N DS)
  nf : NatsAt W g4 0 (flpL N DS)
  l2 : g2 < W.heap.size
  l3 : g3 < W.heap.size
  l4 : g4 < W.heap.size
  b : Below w.heap.size w W
theorem TrS.next {w : World} {D M F g2 q2 g3 q3 g4 q4 N L : Nat} {DS : List Nat} {W W' : World} (h : TrS w D M F g2 q2 g3 q3 g4 q4 N L DS W) (hb : Below W.heap.size W W') : TrS w D M F g2 q2 g3 q3 g4 q4 N L DS W' :=
  ⟨h.d.next hb, h.m.next hb, h.f.next hb, h.nd.below hb h.l2, h.nm.below hb h.l3, h.nf.below hb h.l4, Nat.lt_of_lt_of_le h.l2 hb.size, Nat.lt_of_lt_of_le h.l3 hb.size, Nat.lt_of_lt_of_le h.l4 hb.size, h.b.trans (hb.mono h.b.size)⟩
/-- two designs in boxes of their own -/
def TwoD (X : World) (c d : Array Value) (s t : Value) (wx : World) : Prop := ∃ Y Z, s = .pointer (some ⟨Y, 0, none⟩) ∧ t = .pointer (some ⟨Z, 0, none⟩) ∧ X.heap.size ≤ Y ∧ X.heap.size ≤ Z ∧ Y ≠ Z ∧ BoxAt wx Y c 37 ∧ BoxAt wx Z d 37 ∧ Below X.heap.size X wx
theorem twoD_a (X : World) (c d : Array Value) : TwoD X c d (.pointer (some ⟨X.heap.size, 0, none⟩)) (.pointer (some ⟨X.heap.size + 1, 0, none⟩)) ((X.alloc (.cells c 37)).alloc (.cells d 37)).drew := by
  obtain ⟨h1, h2, h3⟩ := two_boxes X c d 37
  exact ⟨_, _, rfl, rfl, Nat.le_refl _, by omega, by omega, h1, h2, h3⟩
theorem twoD_b (X : World) (c d : Array Value) : TwoD X c d (.pointer (some ⟨X.heap.size + 1, 0, none⟩)) (.pointer (some ⟨X.heap.size, 0, none⟩)) ((X.alloc (.cells d 37)).alloc (.cells c 37)).drew := by
  obtain ⟨h1, h2, h3⟩ := two_boxes X d c 37
  exact ⟨_, _, rfl, rfl, by omega, Nat.le_refl _, by omega, h2, h1, h3⟩
/-- the design that is punched, and the one that is wanted -/
def PairD (X : World) (A B N L : Nat) (wx : World) : Prop := ∃ gf qf gt qt FS TS, BoxAt wx A #[.int .i64 (N : Int), .slice (some ⟨gf, 0, none⟩) L qf] 37 ∧ BoxAt wx B #[.int .i64 (N : Int), .slice (some ⟨gt, 0, none⟩) L qt] 37 ∧
  NatsAt wx gf 0 FS ∧ NatsAt wx gt 0 TS ∧ gf < wx.heap.size ∧ gt < wx.heap.size ∧ Valid N FS ∧ FS.length = L ∧ mirL N FS = TS ∧ Below X.heap.size X wx
theorem pair_swap {X wc : World} {A B N L g2 q2 g4 q4 : Nat} {DS : List Nat} {x y : Array Value} (hx : x = #[.int .i64 (N : Int), .slice (some ⟨g2, 0, none⟩) L q2]) (hy : y = #[.int .i64 (N : Int), .slice (some ⟨g4, 0, none⟩) L q4])
    (hA : BoxAt wc A x 37) (hB : BoxAt wc B y 37) (hAB : A ≠ B) (la : X.heap.size ≤ A) (lb : X.heap.size ≤ B) (h2 : NatsAt wc g2 0 DS) (h4 : NatsAt wc g4 0 (mirL N DS)) (l2 : g2 < wc.heap.size) (l4 : g4 < wc.heap.size)
    (n2 : g2 ≠ A ∧ g2 ≠ B) (n4 : g4 ≠ A ∧ g4 ≠ B) (hv : Valid N DS) (hl : DS.length = L) (hb : Below X.heap.size X wc) :
    PairD X A B N L ((((wc.setCell ⟨A, 0, none⟩ (.int .i64 (N : Int))).setCell ⟨A, 1, none⟩ (.slice (some ⟨g4, 0, none⟩) L q4)).setCell ⟨B, 0, none⟩ (.int .i64 (N : Int))).setCell ⟨B, 1, none⟩ (.slice (some ⟨g2, 0, none⟩) L q2)).drew := by
  subst hx hy
  have hz : ∀ (W : World) a v, (W.setCell a v).heap.size = W.heap.size := fun W a v => setCell_size _ _ _
  have e1 := (((hA.set 0 (.int .i64 (N : Int))).set 1 (.slice (some ⟨g4, 0, none⟩) L q4)).other ⟨B, 0, none⟩ (.int .i64 (N : Int)) hAB).other ⟨B, 1, none⟩ (.slice (some ⟨g2, 0, none⟩) L q2) hAB
  have e2 := (((hB.other ⟨A, 0, none⟩ (.int .i64 (N : Int)) hAB.symm).other ⟨A, 1, none⟩ (.slice (some ⟨g4, 0, none⟩) L q4) hAB.symm).set 0 (.int .i64 (N : Int))).set 1 (.slice (some ⟨g2, 0, none⟩) L q2)
  have s2 := nats_setB (nats_setB (nats_setB (nats_setB h2 A 0 (.int .i64 (N : Int)) n2.1) A 1 (.slice (some ⟨g4, 0, none⟩) L q4) n2.1) B 0 (.int .i64 (N : Int)) n2.2) B 1 (.slice (some ⟨g2, 0, none⟩) L q2) n2.2
  have s4 := nats_setB (nats_setB (nats_setB (nats_setB h4 A 0 (.int .i64 (N : Int)) n4.1) A 1 (.slice (some ⟨g4, 0, none⟩) L q4) n4.1) B 0 (.int .i64 (N : Int)) n4.2) B 1 (.slice (some ⟨g2, 0, none⟩) L q2) n4.2
  have hm : Valid N (mirL N DS) := painted_valid hv _
  exact ⟨g4, q4, g2, q2, mirL N DS, DS, e1.next (below_drew1 _), e2.next (below_drew1 _), s4.below (below_drew1 _) (by simp only [hz]; exact l4), s2.below (below_drew1 _) (by simp only [hz]; exact l2),
    (by show _ < ((_ : World).drew).heap.size; rw [show ∀ W : World, W.drew.heap.size = W.heap.size from fun _ => rfl]; simp only [hz]; exact l4), (by show _ < ((_ : World).drew).heap.size; rw [show ∀ W : World, W.drew.heap.size = W.heap.size from fun _ => rfl]; simp only [hz]; exact l2), hm, by rw [mirL_len]; exact hl, mirL_mirL hv,
    ((((hb.setCell la _).setCell la _).setCell lb _).setCell lb _).drew⟩
theorem pair_swap' {X wc : World} {A B N L g2 q2 g4 q4 : Nat} {DS : List Nat} {x y : Array Value} (hx : x = #[.int .i64 (N : Int), .slice (some ⟨g2, 0, none⟩) L q2]) (hy : y = #[.int .i64 (N : Int), .slice (some ⟨g4, 0, none⟩) L q4])
    (hA : BoxAt wc A x 37) (hB : BoxAt wc B y 37) (hAB : A ≠ B) (la : X.heap.size ≤ A) (lb : X.heap.size ≤ B) (h2 : NatsAt wc g2 0 DS) (h4 : NatsAt wc g4 0 (mirL N DS)) (l2 : g2 < wc.heap.size) (l4 : g4 < wc.heap.size)
    (n2 : g2 ≠ A ∧ g2 ≠ B) (n4 : g4 ≠ A ∧ g4 ≠ B) (hv : Valid N DS) (hl : DS.length = L) (hb : Below X.heap.size X wc) :
    PairD X A B N L ((((wc.setCell ⟨B, 0, none⟩ (.int .i64 (N : Int))).setCell ⟨B, 1, none⟩ (.slice (some ⟨g2, 0, none⟩) L q2)).setCell ⟨A, 0, none⟩ (.int .i64 (N : Int))).setCell ⟨A, 1, none⟩ (.slice (some ⟨g4, 0, none⟩) L q4)).drew := by
  subst hx hy
  have hz : ∀ (W : World) a v, (W.setCell a v).heap.size = W.heap.size := fun W a v => setCell_size _ _ _
  have e1 := (((hA.other ⟨B, 0, none⟩ (.int .i64 (N : Int)) hAB).other ⟨B, 1, none⟩ (.slice (some ⟨g2, 0, none⟩) L q2) hAB).set 0 (.int .i64 (N : Int))).set 1 (.slice (some ⟨g4, 0, none⟩) L q4)
  have e2 := (((hB.set 0 (.int .i64 (N : Int))).set 1 (.slice (some ⟨g2, 0, none⟩) L q2)).other ⟨A, 0, none⟩ (.int .i64 (N : Int)) hAB.symm).other ⟨A, 1, none⟩ (.slice (some ⟨g4, 0, none⟩) L q4) hAB.symm
  have s2 := nats_setB (nats_setB (nats_setB (nats_setB h2 B 0 (.int .i64 (N : Int)) n2.2) B 1 (.slice (some ⟨g2, 0, none⟩) L q2) n2.2) A 0 (.int .i64 (N : Int)) n2.1) A 1 (.slice (some ⟨g4, 0, none⟩) L q4) n2.1
  have s4 := nats_setB (nats_setB (nats_setB (nats_setB h4 B 0 (.int .i64 (N : Int)) n4.2) B 1 (.slice (some ⟨g2, 0, none⟩) L q2) n4.2) A 0 (.int .i64 (N : Int)) n4.1) A 1 (.slice (some ⟨g4, 0, none⟩) L q4) n4.1
  have hm : Valid N (mirL N DS) := painted_valid hv _
  exact ⟨g4, q4, g2, q2, mirL N DS, DS, e1.next (below_drew1 _), e2.next (below_drew1 _), s4.below (below_drew1 _) (by simp only [hz]; exact l4), s2.below (below_drew1 _) (by simp only [hz]; exact l2),
    (by show _ < ((_ : World).drew).heap.size; rw [show ∀ W : World, W.drew.heap.size = W.heap.size from fun _ => rfl]; simp only [hz]; exact l4), (by show _ < ((_ : World).drew).heap.size; rw [show ∀ W : World, W.drew.heap.size = W.heap.size from fun _ => rfl]; simp only [hz]; exact l2), hm, by rw [mirL_len]; exact hl, mirL_mirL hv,
    ((((hb.setCell lb _).setCell lb _).setCell la _).setCell la _).drew⟩
/-- where the cards are turned -/
structure TcS (X : World) (C g q B gt qt N L : Nat) (FS TS : List Nat) (k : Nat) (W : World) : Prop where
  c : BoxAt W C #[.int .i64 (N : Int), .slice (some ⟨g, 0, none⟩) L q] 114
  bb : BoxAt W B #[.int .i64 (N : Int), .slice (some ⟨gt, 0, none⟩) L qt] 37
  nt : NatsAt W gt 0 TS
  lt : gt < W.heap.size
  cb : CardBlk W g (turnT FS L k)
  b : Below X.heap.size X W
  ne : C ≠ g ∧ B ≠ g ∧ gt ≠ g ∧ X.heap.size ≤ g
theorem TcS.next {X : World} {C g q B gt qt N L : Nat} {FS TS : List Nat} {k : Nat} {W W' : World} (h : TcS X C g q B gt qt N L FS TS k W) (hb : Below W.heap.size W W') : TcS X C g q B gt qt N L FS TS k W' :=
  ⟨h.c.next hb, h.bb.next hb, h.nt.below hb h.lt, Nat.lt_of_lt_of_le h.lt hb.size, h.cb.next hb, h.b.trans (hb.mono h.b.size), h.ne⟩
theorem TcS.turn {X : World} {C g q B gt qt N L : Nat} {FS TS : List Nat} {k : Nat} {W : World} (h : TcS X C g q B gt qt N L FS TS k W) (hk : k < L) : TcS X C g q B gt qt N L FS TS (k + 1) (W.setCell ⟨g, k * 3 + 2, none⟩ (.bool true)) := by
  obtain ⟨e1, e2, e3, e4⟩ := h.ne
  refine ⟨h.c.other _ _ e1, h.bb.other _ _ e2, nats_setB h.nt _ _ _ e3, by rw [setCell_size]; exact h.lt, ?_, h.b.setCell e4 _, h.ne⟩
  rw [← turnT_succ _ _ _ hk]
  exact h.cb.turn k true (by rw [turnT_len]; exact hk)
/-- the chain that is made backwards -/
structure BkAt (w0 : World) (N : Nat) (DS : List Nat) (v : Value) (k : Nat) (W : World) : Prop where
  box : BoxAt W w0.heap.size #[.int .i64 (N : Int), v] 114
  row : W.ownsRow (w0.heap.size + 1) 128 3 v k (cardCells (backT DS k))
  b : Below w0.heap.size w0 W
theorem BkAt.size {w0 W : World} {N : Nat} {DS : List Nat} {v : Value} {k : Nat} (h : BkAt w0 N DS v k W) : w0.heap.size + 1 ≤ W.heap.size := h.box.lt
theorem BkAt.grew {w0 W W' : World} {N g5 cap k : Nat} {DS : List Nat} {v : Value} {card : Card} (h : BkAt w0 N DS v k W) (hc : backT DS (k + 1) = backT DS k ++ [card])
    (hg : Grew (w0.heap.size + 1) 128 3 W W' v g5 cap (k + 1) (cardCells (backT DS k) ++ card.cells)) :
    BoxAt W' w0.heap.size #[.int .i64 (N : Int), v] 114 ∧ BkAt w0 N DS (.slice (some ⟨g5, 0, none⟩) (k + 1) cap) (k + 1) (W'.setCell ⟨w0.heap.size, 1, none⟩ (.slice (some ⟨g5, 0, none⟩) (k + 1) cap)) := by
  have hn : ∀ j, j < w0.heap.size + 1 → some j ≠ v.ownBlock := fun j hj => own_far h.row hj
  have hb := h.box.kept hg.grow (hn _ (by omega))
  refine ⟨hb, ⟨hb.set 1 _, ?_, ?_⟩⟩
  · have hr := hg.row
    have := own_set hr ⟨w0.heap.size, 1, none⟩ (.slice (some ⟨g5, 0, none⟩) (k + 1) cap) (own_far hr (by simp))
    rw [hc, cardCells_snoc]
    exact this
  · exact (h.b.grown hg.grow h.b.size (fun j hj => by have := (ownBlock_ge h.row hj).1; omega)).setCell (by simp) _
set_option maxRecDepth 100000 in
set_option maxHeartbeats 4000000 in
theorem TopTurned_any (H : Nat) (p : Option Addr) (c : Nat) (ws : List Nat) (w : World) (hH : H < 256) (hw : WordRow w p ws) (hl : ws.length ≤ 9223372036854775807) :
    Calls Try.prog 15 #[.int .u8 (H : Int), .slice p ws.length c] w fun e w' => e = .returned (.bool true) ∧ Below w.heap.size w w' := by
  have H76 := call76 H p c ws w hH hw hl
  obtain ⟨hN1, hN2⟩ := dqN_bd H
  obtain ⟨hL0, hL1⟩ := loom12_bd ws.length
  have hVd := dqTo_valid (dqN H) ws (loomL 12 ws.length) (by omega) (by omega) hL0 (by omega)
  have hDl := dqTo_len (dqN H) ws (loomL 12 ws.length)
  obtain ⟨L, hL⟩ : ∃ L, loomL 12 ws.length = L := ⟨_, rfl⟩
  obtain ⟨N, hN⟩ : ∃ N, dqN H = N := ⟨_, rfl⟩
  rw [hL] at hL0 hL1
  rw [hN, hL] at H76 hVd hDl
  rw [hN] at hN1 hN2
  obtain ⟨DS, hDS⟩ : ∃ DS, dqTo N ws L = DS := ⟨_, rfl⟩
  rw [hDS] at H76 hVd hDl
  clear hN hDS hL hw
  have hVm : Valid N (mirL N DS) := painted_valid hVd _
  have hMl : (mirL N DS).length = L := by rw [mirL_len]; exact hDl
  have hFl : (flpL N DS).length = L := by rw [flpL_len]; exact hDl
  have HVd := Lib.hid hVd
  have HVm := Lib.hid hVm
  have HDl := Lib.hid hDl
  have HMl := Lib.hid hMl
  have HFl := Lib.hid hFl
  have H76' := Lib.hid H76
  clear hVd hVm hDl hMl hFl H76
  go_enter Try.func15, Try.ntmps15
  go_wp2_with fail
  refine H76'.out.mono ?_
  rintro e W1 ⟨g2, q2, rfl, hn2, hl2, hg2, hb1⟩
  clear H76'
  go_upto_region 2 with fail
  obtain ⟨W2, hW2⟩ : ∃ W2, W2 = W1.alloc (.cells #[.int .i64 (N : Int), .slice (some ⟨g2, 0, none⟩) L q2] 37) := ⟨_, rfl⟩
  obtain ⟨D, hD⟩ : ∃ D, D = W1.heap.size := ⟨_, rfl⟩
  rw [← hW2, ← hD]
  have hbW2 : Below W1.heap.size W1 W2 := by rw [hW2]; exact (Below.refl _ _).alloc (Nat.le_refl _) _
  have hxD : BoxAt W2 D #[.int .i64 (N : Int), .slice (some ⟨g2, 0, none⟩) L q2] 37 := by rw [hW2, hD]; exact BoxAt.new _ _ _
  clear hD
  have hn22 := hn2.below hbW2 hg2
  have hg22 : g2 < W2.heap.size := Nat.lt_of_lt_of_le hg2 hbW2.size
  have z0 := hxD.cell' 0 rfl
  have z1 := hxD.cell' 1 rfl
  have H78 := Lib.hid (call78 N L g2 q2 DS W2 HDl.out (by omega) (by omega) hn22 hg22)
  have Hb2 := Lib.hid (hb1.trans (hbW2.mono hb1.size))
  have HD2 := Lib.hid hxD
  have Hn2 := Lib.hid hn22
  clear hn2 hl2 hb1 hbW2 hn22 hxD hW2 hg2
  go_wp2_with fail
  refine H78.out.mono ?_
  rintro e W3 ⟨g3, q3, rfl, hn3, hl3, hg3, hb3⟩
  have H90 := Lib.hid (call90 N L g3 q3 DS W3 HDl.out HVd.out hn3 hg3)
  have Hb3 := Lib.hid hb3
  clear hn3 hl3 hg3 hb3 z0 z1 H78
  go_wp2_with fail
  refine H90.out.mono ?_
  rintro e W4 ⟨g4, q4, rfl, hn4, hl4, hg4, hb4⟩
  have Hb4 := Lib.hid (Hb3.out.trans (hb4.mono Hb3.out.size))
  clear hb4 H90 Hb3
  go_upto_region 4 with fail
  obtain ⟨W5, hW5⟩ : ∃ W5, W5 = W4.alloc (.cells #[.int .i64 (N : Int), .slice (some ⟨g4, 0, none⟩) L q4] 37) := ⟨_, rfl⟩
  obtain ⟨M, hM⟩ : ∃ M, M = W4.heap.size := ⟨_, rfl⟩
  rw [← hW5, ← hM]
  have hbW5 : Below W4.heap.size W4 W5 := by rw [hW5]; exact (Below.refl _ _).alloc (Nat.le_refl _) _
  have hxM : BoxAt W5 M #[.int .i64 (N : Int), .slice (some ⟨g4, 0, none⟩) L q4] 37 := by rw [hW5, hM]; exact BoxAt.new _ _ _
  clear hM
  have hb25 : Below W2.heap.size W2 W5 := Hb4.out.trans (hbW5.mono Hb4.out.size)
  have hn5 := Hn2.out.below hb25 hg22
  have hg25 : g2 < W5.heap.size := Nat.lt_of_lt_of_le hg22 hb25.size
  have HD5 := Lib.hid (HD2.out.next hb25)
  have Hb5 := Lib.hid (Hb2.out.trans (hb25.mono Hb2.out.size))
  have HM5 := Lib.hid hxM
  have Hn5 := Lib.hid hn5
  have Hm5 := Lib.hid (hn4.below hbW5 hg4)
  have hg45 : g4 < W5.heap.size := Nat.lt_of_lt_of_le hg4 hbW5.size
  have z0 := HD5.out.cell' 0 rfl
  have z1 := HD5.out.cell' 1 rfl
  have H78 := Lib.hid (call78 N L g2 q2 DS W5 HDl.out (by omega) (by omega) hn5 hg25)
  clear hb25 hbW5 hxM hn5 hn4 hl4 hg4 hW5 HD2 Hn2 Hb2 hg22 Hb4
  go_wp2_with fail
  refine H78.out.mono ?_
  rintro e W6 ⟨g6, q6, rfl, hn6, hl6, hg6, hb6⟩
  have H91 := Lib.hid (call91 N L g6 q6 DS W6 HDl.out HVd.out hn6 hg6)
  have Hb6 := Lib.hid hb6
  clear hn6 hl6 hg6 hb6 z0 z1 H78
  go_wp2_with fail
  refine H91.out.mono ?_
  rintro e W7 ⟨g7, q7, rfl, hn7, hl7, hg7, hb7⟩
  have Hb7 := Lib.hid (Hb6.out.trans (hb7.mono Hb6.out.size))
  clear hb7 H91 Hb6
  go_upto_region 5 with fail
  obtain ⟨W8, hW8⟩ : ∃ W8, W8 = W7.alloc (.cells #[.int .i64 (N : Int), .slice (some ⟨g7, 0, none⟩) L q7] 37) := ⟨_, rfl⟩
  obtain ⟨F, hF⟩ : ∃ F, F = W7.heap.size := ⟨_, rfl⟩
  rw [← hW8, ← hF]
  have hbW8 : Below W7.heap.size W7 W8 := by rw [hW8]; exact (Below.refl _ _).alloc (Nat.le_refl _) _
  have hxF : BoxAt W8 F #[.int .i64 (N : Int), .slice (some ⟨g7, 0, none⟩) L q7] 37 := by rw [hW8, hF]; exact BoxAt.new _ _ _
  clear hF
  have hb58 : Below W5.heap.size W5 W8 := Hb7.out.trans (hbW8.mono Hb7.out.size)
  have HS := Lib.hid (show TrS w D M F g2 q2 g4 q4 g7 q7 N L DS W8 from
    ⟨HD5.out.next hb58, HM5.out.next hb58, hxF, Hn5.out.below hb58 hg25, Hm5.out.below hb58 hg45, hn7.below hbW8 hg7, Nat.lt_of_lt_of_le hg25 hb58.size, Nat.lt_of_lt_of_le hg45 hb58.size, Nat.lt_of_lt_of_le hg7 hbW8.size, Hb5.out.trans (hb58.mono Hb5.out.size)⟩)
  clear hbW8 hxF hb58 HD5 HM5 Hn5 Hm5 Hb5 hg25 hg45 hn7 hl7 hg7 Hb7 hW8
  go_wp2_with fail
  go_loopw [11] (fun i wr => ∃ k : Nat, k ≤ 2 ∧ i = .int .i64 k ∧ TrS w D M F g2 q2 g4 q4 g7 q7 N L DS wr) (fun i _ => 2 - (intOf i).toNat)
  case atStart => exact ⟨0, Nat.zero_le _, rfl, HS.out⟩
  case round =>
    obtain ⟨k, hk, rfl, hS⟩ := hrel
    clear HS
    by_cases hlt : k < 2
    · have d0 := hS.d.cell' 0 rfl
      have d1 := hS.d.cell' 1 rfl
      have m0 := hS.m.cell' 0 rfl
      have m1 := hS.m.cell' 1 rfl
      have zg2 := hS.l2
      have zg4 := hS.l3
      have zd := hS.d.lt
      have zm := hS.m.lt
      have HS := Lib.hid hS
      clear hS
      go_upto_region 10 with fail
      go_cut [12, 13] from 55 to 56 (fun s12 s13 wx => TwoD wr #[.int .i64 (N : Int), .slice (some ⟨g2, 0, none⟩) L q2] #[.int .i64 (N : Int), .slice (some ⟨g4, 0, none⟩) L q4] s12 s13 wx)
      case first =>
        rename_i J6 K6 hJ6 hK6
        go_region
        all_goals refine hK6 _ _ (Met.intro (hJ6 _ _ ?_))
        all_goals (repeat apply Exists.intro)
        all_goals first | exact ⟨twoD_a wr _ _, rfl⟩ | exact ⟨twoD_b wr _ _, rfl⟩
      case rest =>
        obtain ⟨A, B, rfl, rfl, hA, hB, hAB, hBA, hBB, hbc⟩ := hcut
        have hSc := HS.out.next hbc
        clear d0 d1 m0 m1
        have d0 := hSc.d.cell' 0 rfl
        have d1 := hSc.d.cell' 1 rfl
        have m0 := hSc.m.cell' 0 rfl
        have m1 := hSc.m.cell' 1 rfl
        have HBA := Lib.hid hBA
        have HBB := Lib.hid hBB
        have Hbc := Lib.hid hbc
        have HSc := Lib.hid hSc
        clear hBA hBB hbc hSc
        go_upto_if 58 with fail
        go_cut [] from 59 to 60 (fun wx => PairD wr A B N L wx)
        case first =>
          by_cases hk1 : k = 1
          · have hd1 : ((k : Int) == 1) = true := by rw [hk1]; rfl
            have n1 : A ≠ D := by omega
            have n2 : A ≠ M := by omega
            have n3 : B ≠ D := by omega
            have n4 : B ≠ M := by omega
            have n5 : D ≠ A := by omega
            have n6 : M ≠ A := by omega
            have n7 : D ≠ B := by omega
            have n8 : M ≠ B := by omega
            have n9 : B ≠ A := fun e => hAB e.symm
            have a0 := HBA.out.cell' 0 rfl
            have a1 := HBA.out.cell' 1 rfl
            have b0 := HBB.out.cell' 0 rfl
            have b1 := HBB.out.cell' 1 rfl
            have fa0 := HBA.out.frozen 0
            have fa1 := HBA.out.frozen 1
            have fb0 := HBB.out.frozen 0
            have fb1 := HBB.out.frozen 1
            clear hk1
            go_wp2_with fail
            go_region
            all_goals go_wp2_with fail
            all_goals go_meet
            all_goals first | exact pair_swap rfl rfl HBA.out HBB.out hAB hA hB HSc.out.nd HSc.out.nm HSc.out.l2 HSc.out.l3 ⟨by omega, by omega⟩ ⟨by omega, by omega⟩ HVd.out HDl.out Hbc.out | exact pair_swap' rfl rfl HBA.out HBB.out hAB hA hB HSc.out.nd HSc.out.nm HSc.out.l2 HSc.out.l3 ⟨by omega, by omega⟩ ⟨by omega, by omega⟩ HVd.out HDl.out Hbc.out
          · have hd1 : ((k : Int) == 1) = false := by rw [beq_eq_false_iff_ne]; omega
            clear hk1
            go_wp2_with fail
            go_meet
            exact ⟨g2, q2, g4, q4, DS, _, HBA.out, HBB.out, HSc.out.nd, HSc.out.nm, HSc.out.l2, HSc.out.l3, HVd.out, HDl.out, rfl, Hbc.out⟩
        case rest =>
          obtain ⟨gf, qf, gt, qt, FS, TS, hBA, hBB, hnf, hnt, hlf, hlt', hvf, hlF, hmT, hbc⟩ := hcut
          clear d0 d1 m0 m1 HSc Hbc HBA HBB zd zm zg2 zg4
          have hlT : TS.length = L := by rw [← hmT, mirL_len]; exact hlF
          have HvF := Lib.hid hvf
          have HlF := Lib.hid hlF
          have HlT := Lib.hid hlT
          have HmT := Lib.hid hmT
          have a0 := hBA.cell' 0 rfl
          have a1 := hBA.cell' 1 rfl
          have hBlt := hBB.lt
          have H78 := Lib.hid (call78 N L gf qf FS wc HlF.out (by omega) (by omega) hnf hlf)
          have Hbc := Lib.hid hbc
          have HBB := Lib.hid hBB
          have Hnt := Lib.hid hnt
          have hsc := hbc.size
          clear hbc hBB hnf hlf hnt hvf hlF hlT hmT hBA
          go_wp2_with fail
          refine H78.out.mono ?_
          rintro e W9 ⟨g9, q9, rfl, hn9, hl9, hg9, hb9⟩
          have H81 := Lib.hid (call81 N L g9 q9 FS W9 HlF.out HvF.out hn9 hg9)
          have Hb9 := Lib.hid hb9
          have hs9 := hb9.size
          clear hn9 hl9 hg9 hb9 a0 a1 H78
          go_wp2_with fail
          refine H81.out.mono ?_
          rintro e W10 ⟨g10, q10, rfl, hP, hl10, hb10⟩
          have HP := Lib.hid hP
          have hg10 := hP.lt
          have hs10 := hb10.size
          have Hb10 := Lib.hid (Hb9.out.trans (hb10.mono hs9))
          clear hP hb10 H81 Hb9
          go_upto_region 14 with fail
          obtain ⟨W11, hW11⟩ : ∃ W11, W11 = W10.alloc (.cells #[.int .i64 (N : Int), .slice (some ⟨g10, 0, none⟩) L q10] 114) := ⟨_, rfl⟩
          obtain ⟨C, hC⟩ : ∃ C, C = W10.heap.size := ⟨_, rfl⟩
          rw [← hW11, ← hC]
          have hbW11 : Below W10.heap.size W10 W11 := by rw [hW11]; exact (Below.refl _ _).alloc (Nat.le_refl _) _
          have hxC : BoxAt W11 C #[.int .i64 (N : Int), .slice (some ⟨g10, 0, none⟩) L q10] 114 := by rw [hW11, hC]; exact BoxAt.new _ _ _
          have hb11 := Hb10.out.trans (hbW11.mono Hb10.out.size)
          have HT := Lib.hid (show TcS wr C g10 q10 B gt qt N L FS TS 0 W11 from
            ⟨hxC, HBB.out.next hb11, Hnt.out.below hb11 hlt', Nat.lt_of_lt_of_le hlt' hb11.size, by rw [turnT_zero]; exact HP.out.next hbW11, Hbc.out.trans (hb11.mono hsc), by omega, by omega, by omega, by omega⟩)
          have c1 := hxC.cell' 1 rfl
          clear hbW11 hxC hb11 hW11 hC HBB Hnt Hb10 HP Hbc hg10 hs9 hs10 hl10 hBlt hlt' hsc
          go_wp2_with fail
          clear c1
          go_loopw [16] (fun i wx => ∃ j : Nat, j ≤ L ∧ i = .int .i64 j ∧ TcS wr C g10 q10 B gt qt N L FS TS j wx) (fun i _ => L - (intOf i).toNat)
          case atStart => exact ⟨0, Nat.zero_le _, rfl, HT.out⟩
          case round =>
            obtain ⟨j, hj, rfl, hT⟩ := hrel
            clear HT
            by_cases hltj : j < L
            · have c1 := hT.c.cell' 1 rfl
              have hgf := hT.cb.frozen (j * 3 + 2)
              have hgc := hT.cb.at'.c2 j (by rw [turnT_len]; exact hltj)
              have hgl := hT.cb.lt
              have hj0 : (0 : Int) ≤ (j : Int) := by omega
              have hj1 : (j : Int) < (L : Int) := by omega
              have HT := Lib.hid (hT.turn hltj)
              clear hT
              go_wp2
              go_roundw
              case rel => exact ⟨j + 1, by omega, by go_num, HT.out⟩
              case measure => simp [intOf]; omega
            · have hjL : L = j := by omega
              subst hjL
              have HT := Lib.hid hT
              clear hT
              go_wp2_with fail
              refine region_ones [87, 88, 89, 90, 86, 91, 92, 93, 17, 18, 19] 14 6 N L g10 q10 C (turnT FS L L) (mirL N FS) rfl ?hops rfl (by kernel_rfl) (by kernel_rfl) (by decide) ?hsz ?hout HT.out.c HT.out.cb.at' (turnT_len _ _ _) (turnT_ok HvF.out _ _ HlF.out) (woven_turned _ _ _ HlF.out) ?hend
              case hops => exact ⟨⟨_, _, _, rfl, by kernel_rfl⟩, ⟨_, _, _, rfl, by kernel_rfl⟩, ⟨_, _, _, rfl, by kernel_rfl⟩, ⟨_, _, _, rfl, by kernel_rfl⟩, ⟨_, _, _, rfl, by kernel_rfl⟩, ⟨_, _, _, rfl, by kernel_rfl⟩, ⟨_, _, _, rfl, by kernel_rfl⟩, ⟨_, _, _, rfl, by kernel_rfl⟩, ⟨_, _, _, rfl, by kernel_rfl⟩, ⟨_, _, _, rfl, by kernel_rfl⟩, ⟨_, _, _, rfl, by kernel_rfl⟩⟩
              case hsz => intro d hd; simp only [List.mem_cons, List.not_mem_nil, or_false] at hd; show d < 159; omega
              case hout => exact ⟨rfl, by decide, rfl, by decide⟩
              case hend =>
                intro v X14 hv
                obtain ⟨gr, cr, e1, e2, hrr, hgr, hb14⟩ := hv
                change v 17 = _ at e1
                change v 19 = _ at e2
                simp only [laid, List.foldl, Act.put, List.setIfInBounds_toArray, List.set_cons_succ, List.set_cons_zero, e1, e2]
                generalize v 87 = vu87
                generalize v 88 = vu88
                generalize v 89 = vu89
                generalize v 90 = vu90
                generalize v 86 = vu86
                generalize v 91 = vu91
                generalize v 92 = vu92
                generalize v 93 = vu93
                generalize v 18 = vu18
                clear e1 e2 v
                rw [HmT.out] at hrr
                have hT14 := HT.out.next hb14
                have b0 := hT14.bb.cell' 0 rfl
                have b1 := hT14.bb.cell' 1 rfl
                have H89 := Lib.hid (call89 L gr cr gt qt TS X14 HlT.out (by omega) hrr hT14.nt hgr hT14.lt)
                have Hb14 := Lib.hid hT14.b
                clear hrr hgr hb14 hT14 HT
                go_wp2_with fail
                refine H89.out.mono ?_
                rintro e X15 ⟨rfl, hb15⟩
                have HS15 := Lib.hid (HS.out.next (Hb14.out.trans (hb15.mono Hb14.out.size)))
                clear hb15 Hb14 H89 b0 b1
                go_wp2_with fail
                exact ⟨⟨k + 1, by omega, by go_num, HS15.out⟩, by simp [intOf]; omega⟩
    · obtain ⟨Lm, hLm⟩ : ∃ Lm : Nat, (L : Int) - 1 = (Lm : Int) := ⟨L - 1, by omega⟩
      have HLm := Lib.hid hLm
      have d0 := hS.d.cell' 0 rfl
      have d1 := hS.d.cell' 1 rfl
      have H78 := Lib.hid (call78 N L g2 q2 DS wr HDl.out (by omega) (by omega) hS.nd hS.l2)
      have HS := Lib.hid hS
      clear hS hLm
      go_wp2_with fail
      refine H78.out.mono ?_
      rintro e W9 ⟨g9, q9, rfl, hn9, hl9, hg9, hb9⟩
      have H81 := Lib.hid (call81 N L g9 q9 DS W9 HDl.out HVd.out hn9 hg9)
      have Hb9 := Lib.hid hb9
      have hs9 := hb9.size
      clear hn9 hl9 hg9 hb9 d0 d1 H78
      go_wp2_with fail
      refine H81.out.mono ?_
      rintro e W10 ⟨g10, q10, rfl, hP, hl10, hb10⟩
      have HP := Lib.hid hP
      have Hb10 := Lib.hid (Hb9.out.trans (hb10.mono hs9))
      clear hP hb10 H81 Hb9
      go_upto_region 24 with fail
      obtain ⟨W11, hW11⟩ : ∃ W11, W11 = W10.alloc (.cells #[.int .i64 (N : Int), .slice (some ⟨g10, 0, none⟩) L q10] 114) := ⟨_, rfl⟩
      obtain ⟨C, hC⟩ : ∃ C, C = W10.heap.size := ⟨_, rfl⟩
      rw [← hW11, ← hC]
      have hbW11 : Below W10.heap.size W10 W11 := by rw [hW11]; exact (Below.refl _ _).alloc (Nat.le_refl _) _
      have hxC : BoxAt W11 C #[.int .i64 (N : Int), .slice (some ⟨g10, 0, none⟩) L q10] 114 := by rw [hW11, hC]; exact BoxAt.new _ _ _
      have hS11 := HS.out.next (Hb10.out.trans (hbW11.mono Hb10.out.size))
      have HP11 := Lib.hid (HP.out.next hbW11)
      have d0 := hS11.d.cell' 0 rfl
      have c1 := hxC.cell' 1 rfl
      have HC := Lib.hid hxC
      have HS11 := Lib.hid hS11
      clear hbW11 hxC hW11 hC hS11 HS Hb10 HP hs9 hl10
      go_upto_region 27 with fail
      obtain ⟨W12, hW12⟩ : ∃ W12, W12 = W11.alloc (.cells #[.int .i64 (N : Int), .slice none 0 0] 114) := ⟨_, rfl⟩
      rw [← hW12]
      have HB0 := Lib.hid (show BkAt W11 N DS (.slice none 0 0) 0 W12 from
        ⟨by rw [hW12]; exact BoxAt.new _ _ _, World.ownsRow_nil _ _ _ _, by rw [hW12]; exact (Below.refl _ _).alloc (Nat.le_refl _) _⟩)
      have hLm := HLm.out
      clear d0 c1 hW12
      go_wp2_with fail
      clear hLm
      go_loopw [23] (fun i wx => ∃ (k : Nat) (v : Value), k ≤ L ∧ i = .int .i64 ((Lm : Int) - (k : Int)) ∧ BkAt W11 N DS v k wx) (fun i _ => (intOf i + 1).toNat)
      case atStart => exact ⟨0, _, Nat.zero_le _, by simp, HB0.out⟩
      case round =>
        obtain ⟨j, v, hj, rfl, hB⟩ := hrel
        clear HB0
        by_cases hltj : j < L
        · obtain ⟨e, he⟩ : ∃ e : Nat, (Lm : Int) - (j : Int) = (e : Int) := ⟨Lm - j, by have := HLm.out; omega⟩
          rw [he]
          have heL : e < L := by have := HLm.out; omega
          have hej : e = DS.length - 1 - j := by rw [HDl.out]; have := HLm.out; omega
          obtain ⟨r, hr⟩ : ∃ r, nthN DS e = r := ⟨_, rfl⟩
          have hcard : nthC (punched DS L) e = ⟨e, r, false⟩ := by
            rw [← turnT_zero, turnT_nth _ _ _ _ heL, hr]; rfl
          have hat := (HP11.out.next hB.b).at'
          have k0 := hat.c0 e (by rw [punched_len]; exact heL)
          have k1 := hat.c1 e (by rw [punched_len]; exact heL)
          have k2 := hat.c2 e (by rw [punched_len]; exact heL)
          rw [hcard] at k0 k1 k2
          simp only at k0 k1 k2
          have hsc : backT DS (j + 1) = backT DS j ++ [⟨e, r, false⟩] := by rw [backT_succ, ← hej, hr]
          have a1 := (HC.out.next hB.b).cell' 1 rfl
          have b1 : wr.cell? ⟨W11.heap.size, 1, none⟩ = some v := hB.box.cell' 1 rfl
          have hz1 : W11.heap.size < wr.heap.size := hB.box.lt
          have hz2 : C < wr.heap.size := (HC.out.next hB.b).lt
          have hz3 : g10 < wr.heap.size := hat.lt
          have he0 : (0 : Int) ≤ (e : Int) := by omega
          have he1 : (e : Int) < (L : Int) := by omega
          have He := Lib.hid he
          have HB := Lib.hid hB
          have Hsc := Lib.hid hsc
          clear he hej hr hcard hat hB hsc
          go_wp2_with fail
          go_region_law
            ((refine step_one elemCard (by rfl) _ _ (by rfl) (W11.heap.size + 1) v j (cardCells (backT DS j)) (Card.mk e r false).cells.toArray (by rfl) HB.out.row (by rfl) (by rfl) (by simp [Card.cells, Value.oneCell']) (by omega) (by decide) HB.out.size ?_; intro g5 cap w5 hg)
             obtain ⟨hbx, hB5⟩ := HB.out.grew Hsc.out hg
             have f1 := hbx.frozen 1
             have c1 : w5.cell? ⟨W11.heap.size, 1, none⟩ = some v := hbx.cell' 1 rfl
             have HB5 := Lib.hid hB5
             clear hg hB5 hbx)
          all_goals go_wp2_with fail
          all_goals exact ⟨⟨j + 1, _, by omega, by rw [show (Lm : Int) - ((j + 1 : Nat) : Int) = (e : Int) - 1 by have := He.out; omega], HB5.out⟩, by simp [intOf]⟩
        · have hjL : L = j := by omega
          subst hjL
          rw [show (Lm : Int) - (L : Int) = -1 by have := HLm.out; omega]
          have hrow := hB.row
          obtain ⟨g13, q13, rfl⟩ := row_slice hrow (by omega)
          have hrow2 : wr.ownsRow (W11.heap.size + 1) 128 3 (.slice (some ⟨g13, 0, none⟩) (backT DS L).length q13) (backT DS L).length (cardCells (backT DS L)) := by rw [backT_len]; exact hrow
          have hCA := Lib.hid (CardsAt.of_row hrow2 (by rw [backT_len]; omega))
          have HB := Lib.hid hB
          clear hB hrow hrow2
          go_upto_region 31 with fail
          refine region_ones [138, 139, 140, 141, 137, 142, 143, 144, 24, 25, 26] 22 6 N L g13 q13 W11.heap.size (backT DS L) (flpL N DS) rfl ?hops rfl (by kernel_rfl) (by kernel_rfl) (by decide) ?hsz ?hout HB.out.box hCA.out (backT_len _ _) (backT_ok HVd.out _ HDl.out) (woven_back HVd.out _ HDl.out) ?hend
          case hops => exact ⟨⟨_, _, _, rfl, by kernel_rfl⟩, ⟨_, _, _, rfl, by kernel_rfl⟩, ⟨_, _, _, rfl, by kernel_rfl⟩, ⟨_, _, _, rfl, by kernel_rfl⟩, ⟨_, _, _, rfl, by kernel_rfl⟩, ⟨_, _, _, rfl, by kernel_rfl⟩, ⟨_, _, _, rfl, by kernel_rfl⟩, ⟨_, _, _, rfl, by kernel_rfl⟩, ⟨_, _, _, rfl, by kernel_rfl⟩, ⟨_, _, _, rfl, by kernel_rfl⟩, ⟨_, _, _, rfl, by kernel_rfl⟩⟩
          case hsz => intro d hd; simp only [List.mem_cons, List.not_mem_nil, or_false] at hd; show d < 159; omega
          case hout => exact ⟨rfl, by decide, rfl, by decide⟩
          case hend =>
            intro v X14 hv
            obtain ⟨gr, cr, e1, e2, hrr, hgr, hb14⟩ := hv
            change v 24 = _ at e1
            change v 26 = _ at e2
            simp only [laid, List.foldl, Act.put, List.setIfInBounds_toArray, List.set_cons_succ, List.set_cons_zero, e1, e2]
            generalize v 138 = vu138
            generalize v 139 = vu139
            generalize v 140 = vu140
            generalize v 141 = vu141
            generalize v 137 = vu137
            generalize v 142 = vu142
            generalize v 143 = vu143
            generalize v 144 = vu144
            generalize v 25 = vu25
            clear e1 e2 v
            have hS14 := HS11.out.next (HB.out.b.trans (hb14.mono HB.out.b.size))
            have f0 := hS14.f.cell' 0 rfl
            have f1 := hS14.f.cell' 1 rfl
            have H89 := Lib.hid (call89 L gr cr g7 q7 (flpL N DS) X14 HFl.out (by omega) hrr hS14.nf hgr hS14.l4)
            have Hb14 := Lib.hid hS14.b
            clear hrr hgr hb14 hS14 HS11 HB hCA HP11 HC
            go_wp2_with fail
            refine H89.out.mono ?_
            rintro e X15 ⟨rfl, hb15⟩
            have Hb15 := Lib.hid (Hb14.out.trans (hb15.mono Hb14.out.size))
            clear hb15 Hb14 H89 f0 f1
            go_wp2_with fail
            refine (pubPoint_any X15).mono ?_
            rintro e X16 ⟨rfl, hb16⟩
            have Hb16 := Lib.hid (Hb15.out.trans (hb16.mono Hb15.out.size))
            clear hb16 Hb15
            go_wp2_with fail
            refine (pubChain_any X16).mono ?_
            rintro e X17 ⟨rfl, hb17⟩
            have Hb17 := Lib.hid (Hb16.out.trans (hb17.mono Hb16.out.size))
            clear hb17 Hb16
            go_wp2_with fail
            go_ret
            exact ⟨rfl, Hb17.out⟩
end Go.Proofs.Ytdmgffoikebgkaa
