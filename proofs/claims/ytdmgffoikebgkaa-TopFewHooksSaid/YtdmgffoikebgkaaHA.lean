/- The statements' helpers: fresh copies of rows. -/
import Derived.Test.YtdmgffoikebgkaaTB
namespace Go.Proofs.Ytdmgffoikebgkaa
open Go.RowKit Go.Shelf
attribute [local go_sem] Oper.semAt_some

theorem nats_of_row {w : World} {B g n cap : Nat} {xs : List Nat} (h : w.ownsRow B 3 1 (.slice (some ⟨g, 0, none⟩) n cap) n (xs.map natV)) (_h0 : 0 < n) : NatsAt w g 0 xs ∧ g < w.heap.size ∧ B ≤ g := by
  have h1 := h
  obtain ⟨hl, ⟨h2, _⟩ | ⟨g', cap', cur, e, hg, hh, r⟩⟩ := h
  · simp at h2
  · simp at e
    obtain ⟨rfl, rfl⟩ := e
    refine ⟨fun i hi => ?_, (Array.getElem?_eq_some_iff.1 hh).1, hg⟩
    rw [Nat.zero_add, h1.cellAt i (by simp at hl; omega), nthN_get _ _ hi]
    simp [hi, natV]
theorem row_slice {w : World} {B n e size : Nat} {v : Value} {xs : List Value} (h : w.ownsRow B e size v n xs) (h0 : 0 < n) : ∃ g cap, v = .slice (some ⟨g, 0, none⟩) n cap := by
  obtain ⟨_, h2 | ⟨q, cap, cur, e, _⟩⟩ := h
  · have := h2.2; omega
  · exact ⟨q, cap, e⟩
/-- a whole row appended to an empty one -/
theorem app_copy {t e size bytes : Nat} (E : ElemT t e size bytes) {ops : Array Oper} {rest : List Oper} {o : Oper} {a : Act} {Q : Exit → Act → World → Prop} {W : World} (hgd : o.guard = none) (s x : Operand)
    (ho : o.op = .call { callee := .builtin .append, args := #[s, x], argTypes := #[t, t] }) (hs : a.eval s = .slice (some ⟨W.heap.size, 0, none⟩) 0 0)
    (ad : Addr) (m c : Nat) (news : List Value) (hx : a.eval x = .slice (some ad) m c) (hl : news.length = m * size) (h1 : ∀ u ∈ news, u.oneCell' = true) (hm : 0 < m) (hlen : m ≤ 1000000) (hby : bytes ≤ 1000)
    (hnews : ∀ j u, news[j]? = some u → (W.alloc (.cells #[] e)).cell? (ad.add j) = some u)
    (h : ∀ g cap W', W'.ownsRow W.heap.size e size (.slice (some ⟨g, 0, none⟩) m cap) m news → Below W.heap.size W W' → wpList Try.prog ops Q rest (a.put o.dst (.slice (some ⟨g, 0, none⟩) m cap)) W') :
    wpList Try.prog ops Q (o :: rest) a (W.alloc (.cells #[] e)) := by
  obtain ⟨i, z, hu, hi, hz0, hz1, hz2, hz3, hz4⟩ := E.ex
  have hown : (W.alloc (.cells #[] e)).ownsRow W.heap.size e size (.slice (some ⟨W.heap.size, 0, none⟩) 0 0) 0 [] :=
    ⟨by simp, .inr ⟨_, 0, #[], rfl, Nat.le_refl _, World.alloc_heap_new W _, Nat.le_refl _, by decide, by simp, by simp⟩⟩
  refine wpList_append_lies _ hgd s x t ho W.heap.size e i z size bytes hu hi hz0 hz1 hz2 hz3 hz4 _ 0 [] hs hown ad m c news hx hl hnews h1 hm (by unfold maxLen; omega) ?_ (by simp) (W.heap.size + 1) (by simp) ?_
  · exact Nat.le_trans (Nat.mul_le_mul (show 0 + m ≤ 1000000 by omega) hby) (by decide)
  · intro g cap w' hr hg _ _
    rw [Nat.zero_add] at hr ⊢
    rw [List.nil_append] at hr
    exact h g cap w' hr (((Below.refl _ _).alloc (Nat.le_refl _) _).grown hg (by simp) (fun j hj => by simp [Value.ownBlock] at hj; omega))
set_option maxHeartbeats 1000000 in
theorem armInts_ok (b off c : Nat) (xs : List Nat) (w : World) (h0 : 0 < xs.length) (hl : xs.length ≤ 1000) (hx : NatsAt w b off xs) (hb : b < w.heap.size) :
    Calls Try.prog 108 #[.slice (some ⟨b, off, none⟩) xs.length c] w fun e w' =>
      ∃ g cap, e = .returned (.slice (some ⟨g, 0, none⟩) xs.length cap) ∧ w'.ownsRow w.heap.size 3 1 (.slice (some ⟨g, 0, none⟩) xs.length cap) xs.length (xs.map natV) ∧ Below w.heap.size w w' := by
  have hx1 := hx.below ((Below.refl _ _).alloc (Nat.le_refl _) (.cells #[] 3)) hb
  have HX := Lib.hid hx1
  clear hx hx1
  go_enter Try.func108, Try.ntmps108
  go_wp2_with (at_builtin; refine Shut.out ?_)
  unfold Shut
  refine app_copy elemInt rfl _ _ rfl rfl ⟨b, off, none⟩ xs.length c (xs.map natV) rfl (by simp) (by simp [natV, Value.oneCell']) h0 (by omega) (by decide) ?_ ?_
  · intro j u hj
    simp only [List.getElem?_map, Option.map_eq_some_iff] at hj
    obtain ⟨x, hx, rfl⟩ := hj
    have hjl : j < xs.length := (List.getElem?_eq_some_iff.1 hx).1
    have := HX.out j hjl
    rw [nthN, hx] at this
    rw [show (⟨b, off, none⟩ : Addr).add j = ⟨b, off + j, none⟩ by unfold Addr.add; split <;> simp_all]
    exact this
  intro g cap w1 hr hb1
  have Hr := Lib.hid hr
  have Hb1 := Lib.hid hb1
  clear hr hb1
  go_wp2_with fail
  go_ret
  exact ⟨g, cap, rfl, Hr.out, Hb1.out⟩
/-- a struct of a number and a row, with a row of its own -/
structure OwnRow (W : World) (B1 B2 n b off l c : Nat) (t : TypeId) : Prop where
  b1 : BoxAt W B1 #[.int .i64 (n : Int), .slice (some ⟨b, off, none⟩) l c] t
  b2 : BoxAt W B2 #[.int .i64 0, .slice none 0 0] t
theorem OwnRow.next {W W' : World} {B1 B2 n b off l c : Nat} {t : TypeId} (h : OwnRow W B1 B2 n b off l c t) (hb : Below W.heap.size W W') : OwnRow W' B1 B2 n b off l c t := ⟨h.b1.next hb, h.b2.next hb⟩
theorem OwnRow.drew {W : World} {B1 B2 n b off l c : Nat} {t : TypeId} (h : OwnRow W B1 B2 n b off l c t) : OwnRow W.drew B1 B2 n b off l c t := h.next (below_drew1 _)
theorem OwnRow.all {W : World} {B1 B2 n b off l c : Nat} {t : TypeId} (h : OwnRow W B1 B2 n b off l c t) :
    W.cell? ⟨B1, 0, none⟩ = some (.int .i64 (n : Int)) ∧ W.cell? ⟨B1, 1, none⟩ = some (.slice (some ⟨b, off, none⟩) l c) := ⟨h.b1.cell' 0 rfl, h.b1.cell' 1 rfl⟩
theorem OwnRow.stored {W : World} {B1 B2 n b off l c : Nat} {t : TypeId} {u v : Value} (h : OwnRow W B1 B2 n b off l c t) (hne : B1 ≠ B2) :
    ((W.setCell ⟨B2, 0, none⟩ u).setCell ⟨B2, 1, none⟩ v).cell? ⟨B1, 0, none⟩ = some (.int .i64 (n : Int)) ∧ ((W.setCell ⟨B2, 0, none⟩ u).setCell ⟨B2, 1, none⟩ v).cell? ⟨B1, 1, none⟩ = some (.slice (some ⟨b, off, none⟩) l c) :=
  have h1 := (h.b1.other ⟨B2, 0, none⟩ u hne).other ⟨B2, 1, none⟩ v hne
  ⟨h1.cell' 0 rfl, h1.cell' 1 rfl⟩
theorem OwnRow.new (w : World) (n b off l c : Nat) (t : TypeId) : OwnRow ((w.alloc (.cells #[.int .i64 (n : Int), .slice (some ⟨b, off, none⟩) l c] t)).alloc (.cells #[.int .i64 0, .slice none 0 0] t)) w.heap.size (w.heap.size + 1) n b off l c t := by
  have h2 := BoxAt.new (w.alloc (.cells #[.int .i64 (n : Int), .slice (some ⟨b, off, none⟩) l c] t)) #[.int .i64 0, .slice none 0 0] t
  rw [World.size_alloc] at h2
  exact ⟨(BoxAt.new _ _ _).below ((Below.refl (w.heap.size + 1) _).alloc (by simp) _) (by omega), h2⟩
set_option maxHeartbeats 2000000 in
theorem armOwn_ok (n b off c : Nat) (xs : List Nat) (w : World) (h0 : 0 < xs.length) (hl : xs.length ≤ 1000) (hx : NatsAt w b off xs) (hb : b < w.heap.size) :
    Calls Try.prog 96 #[.agg #[.int .i64 (n : Int), .slice (some ⟨b, off, none⟩) xs.length c]] w fun e w' =>
      ∃ g cap, e = .returned (.agg #[.int .i64 (n : Int), .slice (some ⟨g, 0, none⟩) xs.length cap]) ∧ w'.ownsRow w.heap.size 3 1 (.slice (some ⟨g, 0, none⟩) xs.length cap) xs.length (xs.map natV) ∧ Below w.heap.size w w' := by
  have hO := OwnRow.new w n b off xs.length c 37
  have hbb : Below w.heap.size w ((w.alloc (.cells #[.int .i64 (n : Int), .slice (some ⟨b, off, none⟩) xs.length c] 37)).alloc (.cells #[.int .i64 0, .slice none 0 0] 37)) := ((Below.refl _ _).alloc (Nat.le_refl _) _).alloc (by simp) _
  have HI := Lib.hid (armInts_ok b off c xs ((w.alloc (.cells #[.int .i64 (n : Int), .slice (some ⟨b, off, none⟩) xs.length c] 37)).alloc (.cells #[.int .i64 0, .slice none 0 0] 37)).drew h0 hl (hx.below (hbb.trans (by exact ⟨rfl, rfl, rfl, Nat.le_refl _, fun _ _ => rfl⟩)) hb) (by simp; omega))
  have HO := Lib.hid hO
  have Hbb := Lib.hid hbb
  clear hO hbb hx
  go_enter Try.func96, Try.ntmps96
  go_wp2
  go_region_held3 (fun w' => w'.cell? ⟨w.heap.size, 0, none⟩ = some (.int .i64 (n : Int)) ∧ w'.cell? ⟨w.heap.size, 1, none⟩ = some (.slice (some ⟨b, off, none⟩) xs.length c))
    (first | exact HO.out.all | exact HO.out.drew.all | exact (HO.out.drew.next hb1).all | exact (HO.out.drew.next hb1).stored (by omega))
    (first | (go_at_call 108; refine HI.out.mono ?_; rintro e w' ⟨g, cap, rfl, hr, hb1⟩; have hb2 := (HO.out.drew.next hb1).b2; have c0 : w'.cell? ⟨w.heap.size + 1, 0, none⟩ = some (.int .i64 0) := hb2.cell' 0 rfl; have c1 : w'.cell? ⟨w.heap.size + 1, 1, none⟩ = some (.slice none 0 0) := hb2.cell' 1 rfl; have f0 := hb2.frozen 0; have f1 := hb2.frozen 1))
  all_goals go_wp2
  all_goals refine bodyPost_ret (v := .agg #[.int .i64 (n : Int), .slice (some ⟨g, 0, none⟩) xs.length cap]) ?_ rfl ⟨g, cap, rfl, ?_, ?_⟩
  · have hb3 := (hb2.set 0 (.int .i64 (n : Int))).set 1 (.slice (some ⟨g, 0, none⟩) xs.length cap)
    have d0 := hb3.cell' (v := .int .i64 (n : Int)) 0 rfl
    have d1 := hb3.cell' (v := .slice (some ⟨g, 0, none⟩) xs.length cap) 1 rfl
    simp [results, Try.results96, go_sem, d0, d1]
  · have hn := own_far hr (show w.heap.size + 1 < _ by simp)
    exact own_base (own_set (own_set hr _ _ hn) _ _ hn) (by simp; omega)
  · exact (((Hbb.out.drew).trans (hb1.mono (by simp; omega))).setCell (by simp) _).setCell (by simp) _
set_option maxHeartbeats 2000000 in
theorem armTied_ok (n b off c : Nat) (xs : List Nat) (w : World) (h0 : 0 < xs.length) (hl : xs.length ≤ 1000) (hx : NatsAt w b off xs) (hb : b < w.heap.size) :
    Calls Try.prog 100 #[.agg #[.int .i64 (n : Int), .slice (some ⟨b, off, none⟩) xs.length c]] w fun e w' =>
      ∃ g cap, e = .returned (.agg #[.int .i64 (n : Int), .slice (some ⟨g, 0, none⟩) xs.length cap]) ∧ w'.ownsRow w.heap.size 3 1 (.slice (some ⟨g, 0, none⟩) xs.length cap) xs.length (xs.map natV) ∧ Below w.heap.size w w' := by
  have hO := OwnRow.new w n b off xs.length c 26
  have hbb : Below w.heap.size w ((w.alloc (.cells #[.int .i64 (n : Int), .slice (some ⟨b, off, none⟩) xs.length c] 26)).alloc (.cells #[.int .i64 0, .slice none 0 0] 26)) := ((Below.refl _ _).alloc (Nat.le_refl _) _).alloc (by simp) _
  have HI := Lib.hid (armInts_ok b off c xs ((w.alloc (.cells #[.int .i64 (n : Int), .slice (some ⟨b, off, none⟩) xs.length c] 26)).alloc (.cells #[.int .i64 0, .slice none 0 0] 26)).drew h0 hl (hx.below (hbb.trans (by exact ⟨rfl, rfl, rfl, Nat.le_refl _, fun _ _ => rfl⟩)) hb) (by simp; omega))
  have HO := Lib.hid hO
  have Hbb := Lib.hid hbb
  clear hO hbb hx
  go_enter Try.func100, Try.ntmps100
  go_wp2
  go_region_held3 (fun w' => w'.cell? ⟨w.heap.size, 0, none⟩ = some (.int .i64 (n : Int)) ∧ w'.cell? ⟨w.heap.size, 1, none⟩ = some (.slice (some ⟨b, off, none⟩) xs.length c))
    (first | exact HO.out.all | exact HO.out.drew.all | exact (HO.out.drew.next hb1).all | exact (HO.out.drew.next hb1).stored (by omega))
    (first | (go_at_call 108; refine HI.out.mono ?_; rintro e w' ⟨g, cap, rfl, hr, hb1⟩; have hb2 := (HO.out.drew.next hb1).b2; have c0 : w'.cell? ⟨w.heap.size + 1, 0, none⟩ = some (.int .i64 0) := hb2.cell' 0 rfl; have c1 : w'.cell? ⟨w.heap.size + 1, 1, none⟩ = some (.slice none 0 0) := hb2.cell' 1 rfl; have f0 := hb2.frozen 0; have f1 := hb2.frozen 1))
  all_goals go_wp2
  all_goals refine bodyPost_ret (v := .agg #[.int .i64 (n : Int), .slice (some ⟨g, 0, none⟩) xs.length cap]) ?_ rfl ⟨g, cap, rfl, ?_, ?_⟩
  · have hb3 := (hb2.set 0 (.int .i64 (n : Int))).set 1 (.slice (some ⟨g, 0, none⟩) xs.length cap)
    have d0 := hb3.cell' (v := .int .i64 (n : Int)) 0 rfl
    have d1 := hb3.cell' (v := .slice (some ⟨g, 0, none⟩) xs.length cap) 1 rfl
    simp [results, Try.results100, go_sem, d0, d1]
  · have hn := own_far hr (show w.heap.size + 1 < _ by simp)
    exact own_base (own_set (own_set hr _ _ hn) _ _ hn) (by simp; omega)
  · exact (((Hbb.out.drew).trans (hb1.mono (by simp; omega))).setCell (by simp) _).setCell (by simp) _
end Go.Proofs.Ytdmgffoikebgkaa
