/- The statements' helpers: a fresh copy of a chain. -/
import Derived.Test.YtdmgffoikebgkaaHA
import Derived.Test.YtdmgffoikebgkaaCC
namespace Go.Proofs.Ytdmgffoikebgkaa
open Go.RowKit Go.Shelf
attribute [local go_sem] Oper.semAt_some
theorem step_copy {t e size bytes : Nat} (E : ElemT t e size bytes) {ops : Array Oper} {o : Oper} {a : Act} {K : Act → World → Prop} {Q : Exit → Act → World → Prop} {F : Prop} {W : World} (hgd : o.guard = none) (s x : Operand)
    (ho : o.op = .call { callee := .builtin .append, args := #[s, x], argTypes := #[t, t] }) (hs : a.eval s = .slice (some ⟨W.heap.size, 0, none⟩) 0 0)
    (ad : Addr) (m c : Nat) (news : List Value) (hx : a.eval x = .slice (some ad) m c) (hl : news.length = m * size) (h1 : ∀ u ∈ news, u.oneCell' = true) (hm : 0 < m) (hlen : m ≤ 1000000) (hby : bytes ≤ 1000)
    (hnews : ∀ j u, news[j]? = some u → (W.alloc (.cells #[] e)).cell? (ad.add j) = some u)
    (h : ∀ g cap W', W'.ownsRow W.heap.size e size (.slice (some ⟨g, 0, none⟩) m cap) m news → Below W.heap.size W W' → K (a.put o.dst (.slice (some ⟨g, 0, none⟩) m cap)) W') :
    if Region.wanted o (yielded ops a.tmps) = true then Oper.wp Try.prog o a (W.alloc (.cells #[] e)).drew K Q else F := by
  obtain ⟨i, z, hu, hi, hz0, hz1, hz2, hz3, hz4⟩ := E.ex
  have hown : (W.alloc (.cells #[] e)).ownsRow W.heap.size e size (.slice (some ⟨W.heap.size, 0, none⟩) 0 0) 0 [] :=
    ⟨by simp, .inr ⟨_, 0, #[], rfl, Nat.le_refl _, World.alloc_heap_new W _, Nat.le_refl _, by decide, by simp, by simp⟩⟩
  refine step_append_lies _ hgd s x t ho W.heap.size e i z size bytes hu hi hz0 hz1 hz2 hz3 hz4 _ 0 [] hs hown.drew ad m c news hx hl hnews h1 hm (by unfold maxLen; omega) ?_ (by simp) (W.heap.size + 1) (by simp) ?_
  · exact Nat.le_trans (Nat.mul_le_mul (show 0 + m ≤ 1000000 by omega) hby) (by decide)
  · intro g cap w' hr hg _ _
    rw [Nat.zero_add] at hr ⊢
    rw [List.nil_append] at hr
    exact h g cap w' hr ((((Below.refl _ _).alloc (Nat.le_refl _) _).drew).grown hg (by simp) (fun j hj => by simp [Value.ownBlock] at hj; omega))
theorem CardsAt.cellAll {w : World} {g : Nat} {cs : List Card} (h : CardsAt w g cs) (j : Nat) (u : Value) (hj : (cardCells cs)[j]? = some u) : w.cell? ((⟨g, 0, none⟩ : Addr).add j) = some u := by
  have hl : j < cs.length * 3 := by have := (List.getElem?_eq_some_iff.1 hj).1; rwa [cardCells_len] at this
  rw [show (⟨g, 0, none⟩ : Addr).add j = ⟨g, j, none⟩ by unfold Addr.add; split <;> simp_all]
  obtain ⟨i, r, rfl, hr⟩ : ∃ i r, j = i * 3 + r ∧ r < 3 := ⟨j / 3, j % 3, by omega, by omega⟩
  have hi : i < cs.length := by omega
  rw [cardCells_get cs i r hi hr] at hj
  have : r = 0 ∨ r = 1 ∨ r = 2 := by omega
  rcases this with rfl | rfl | rfl
  · rw [Nat.add_zero, h.c0 i hi]; simpa [Card.cells] using hj
  · rw [h.c1 i hi]; simpa [Card.cells] using hj
  · rw [h.c2 i hi]; simpa [Card.cells] using hj
theorem cardCells_one {cs : List Card} : ∀ u ∈ cardCells cs, u.oneCell' = true := by
  intro u hu
  simp only [cardCells, List.mem_flatMap] at hu
  obtain ⟨c, _, hc⟩ := hu
  simp [Card.cells] at hc
  rcases hc with rfl | rfl | rfl <;> simp [Value.oneCell']
set_option maxHeartbeats 2000000 in
theorem armBelt_ok (n g c : Nat) (cs : List Card) (w : World) (h0 : 0 < cs.length) (hl : cs.length ≤ 60) (hx : CardsAt w g cs) :
    Calls Try.prog 99 #[.agg #[.int .i64 (n : Int), .slice (some ⟨g, 0, none⟩) cs.length c]] w fun e w' =>
      ∃ g' cap, e = .returned (.agg #[.int .i64 (n : Int), .slice (some ⟨g', 0, none⟩) cs.length cap]) ∧ w'.ownsRow (w.heap.size + 2) 128 3 (.slice (some ⟨g', 0, none⟩) cs.length cap) cs.length (cardCells cs) ∧ Below w.heap.size w w' := by
  have hO := OwnRow.new w n g 0 cs.length c 114
  have hbb : Below w.heap.size w ((w.alloc (.cells #[.int .i64 (n : Int), .slice (some ⟨g, 0, none⟩) cs.length c] 114)).alloc (.cells #[.int .i64 0, .slice none 0 0] 114)) := ((Below.refl _ _).alloc (Nat.le_refl _) _).alloc (by simp) _
  obtain ⟨W0, hW0⟩ : ∃ W0, W0 = (w.alloc (.cells #[.int .i64 (n : Int), .slice (some ⟨g, 0, none⟩) cs.length c] 114)).alloc (.cells #[.int .i64 0, .slice none 0 0] 114) := ⟨_, rfl⟩
  have HW0 := Lib.hid hW0
  have hs0 : W0.heap.size = w.heap.size + 2 := by rw [hW0]; simp
  rw [← hW0] at hO hbb
  have Hs0 := Lib.hid hs0
  have HX := Lib.hid ((hx.next hbb).next ((Below.refl _ _).alloc (Nat.le_refl _) (.cells #[] 128)))
  have HO := Lib.hid hO
  have Hbb := Lib.hid hbb
  have k0 := hO.b1.cell' (v := .int .i64 (n : Int)) 0 rfl
  have k1 := hO.b1.cell' (v := .slice (some ⟨g, 0, none⟩) cs.length c) 1 rfl
  have z1 : w.heap.size < W0.heap.size := by omega
  have z2 : w.heap.size + 1 < W0.heap.size := by omega
  clear hO hbb hx hW0 hs0
  go_enter Try.func99, Try.ntmps99
  go_wp2
  rw [← HW0.out]
  go_region_law
    ((refine step_copy elemCard (by rfl) _ _ (by rfl) (by rfl) ⟨g, 0, none⟩ cs.length c (cardCells cs) (by rfl) (cardCells_len cs) cardCells_one h0 (by omega) (by decide) HX.out.cellAll ?_; intro g5 cap w5 hr hb5)
     have hb2 := HO.out.b2.next hb5
     have c0 : w5.cell? ⟨w.heap.size + 1, 0, none⟩ = some (.int .i64 0) := hb2.cell' 0 rfl
     have c1 : w5.cell? ⟨w.heap.size + 1, 1, none⟩ = some (.slice none 0 0) := hb2.cell' 1 rfl
     have f0 := hb2.frozen 0
     have f1 := hb2.frozen 1
     have hb1 := HO.out.b1.next hb5
     have k0 := hb1.cell' (v := .int .i64 (n : Int)) 0 rfl
     have k1 := hb1.cell' (v := .slice (some ⟨g, 0, none⟩) cs.length c) 1 rfl
     have Hb2 := Lib.hid hb2
     have Hr := Lib.hid hr
     have Hb5 := Lib.hid hb5
     clear hb2 hb1 hr hb5)
  all_goals go_wp2
  all_goals refine bodyPost_ret (v := .agg #[.int .i64 (n : Int), .slice (some ⟨g5, 0, none⟩) cs.length cap]) ?_ rfl ⟨g5, cap, rfl, ?_, ?_⟩
  all_goals first
    | (have hb3 := (Hb2.out.set 0 (.int .i64 (n : Int))).set 1 (.slice (some ⟨g5, 0, none⟩) cs.length cap)
       have d0 := hb3.cell' (v := .int .i64 (n : Int)) 0 rfl
       have d1 := hb3.cell' (v := .slice (some ⟨g5, 0, none⟩) cs.length cap) 1 rfl
       simp [results, Try.results99, go_sem, d0, d1]; done)
    | (have hn := own_far Hr.out z2
       exact own_base (own_set (own_set Hr.out _ _ hn) _ _ hn) (by rw [Hs0.out]; omega))
    | exact ((Hbb.out.trans (Hb5.out.mono (by rw [Hs0.out]; omega))).setCell (by simp) _).setCell (by simp) _
end Go.Proofs.Ytdmgffoikebgkaa
