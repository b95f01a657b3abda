/- A table of the reference as the call's own: each of its rows can be written and appended to. -/
import Derived.Test.YtjobbleabepaiaaXG
namespace Go.Proofs.Ytjobbleabepaiaa
open Go.RowKit

def upd {α : Type} (h : Nat → α) (i : Nat) (x : α) : Nat → α := fun j => if j = i then x else h j
theorem upd_at {α : Type} (h : Nat → α) (i : Nat) (x : α) : upd h i x i = x := by simp [upd]
theorem upd_ne {α : Type} (h : Nat → α) (i : Nat) (x : α) (j : Nat) (hj : j ≠ i) : upd h i x j = h j := by simp [upd, hj]
theorem own_base {W : World} {base base' e size k : Nat} {v : Value} {xs : List Value} (h : W.ownsRow base e size v k xs) (hb : base' ≤ base) : W.ownsRow base' e size v k xs := by
  obtain ⟨hl, h2⟩ := h
  refine ⟨hl, ?_⟩
  rcases h2 with h2 | ⟨g, cap, cur, e, hg, r⟩
  · exact .inl h2
  · exact .inr ⟨g, cap, cur, e, by omega, r⟩
theorem own_below {W W' : World} {base e size k : Nat} {v : Value} {xs : List Value} (h : W.ownsRow base e size v k xs) (hb : Below W.heap.size W W') : W'.ownsRow base e size v k xs := by
  obtain ⟨hl, h2⟩ := h
  refine ⟨hl, ?_⟩
  rcases h2 with h2 | ⟨g, cap, cur, e, hg, hh, r⟩
  · exact .inl h2
  · exact .inr ⟨g, cap, cur, e, hg, (hb.block _ (Array.getElem?_eq_some_iff.1 hh).1).trans hh, r⟩
theorem own_set {W : World} {base e size k : Nat} {v : Value} {xs : List Value} (h : W.ownsRow base e size v k xs) (a : Addr) (u : Value) (hne : some a.block ≠ v.ownBlock) : (W.setCell a u).ownsRow base e size v k xs := by
  obtain ⟨hl, h2⟩ := h
  refine ⟨hl, ?_⟩
  rcases h2 with h2 | ⟨g, cap, cur, rfl, hg, hh, r⟩
  · exact .inl h2
  · refine .inr ⟨g, cap, cur, rfl, hg, (Below.heap_setCell _ _ _ _ (fun e => hne ?_)).trans hh, r⟩
    simp [Value.ownBlock, e]
/-- rows of two types lie in two blocks -/
theorem own_ne {W : World} {B B' e e' s s' k k' b m c : Nat} {v' : Value} {xs xs' : List Value} (h : W.ownsRow B e s (.slice (some ⟨b, 0, none⟩) m c) k xs) (h' : W.ownsRow B' e' s' v' k' xs') (hne : e ≠ e') : some b ≠ v'.ownBlock := by
  obtain ⟨_, ⟨hx, _⟩ | ⟨g, cap, cur, e1, _, hh, _⟩⟩ := h
  · simp at hx
  · simp at e1
    obtain ⟨_, ⟨rfl, _⟩ | ⟨g2, cap2, cur2, rfl, _, hh2, _⟩⟩ := h'
    · simp [Value.ownBlock]
    · simp [Value.ownBlock]
      intro hb
      rw [← e1.1, hb, hh2] at hh
      simp at hh
      exact hne hh.2.symm
theorem own_cap {W : World} {B e k b m c : Nat} {xs : List Value} (h : W.ownsRow B e 1 (.slice (some ⟨b, 0, none⟩) m c) k xs) : k = m ∧ m ≤ c := by
  obtain ⟨_, ⟨hx, _⟩ | ⟨g, cap, cur, e1, _, _, hc, _⟩⟩ := h
  · simp at hx
  · simp at e1; omega

structure OwnTab (W : World) (B g N : Nat) (ms bs cs : Nat → Nat) (f : Nat → Nat → Bool) : Prop where
  t : ∃ T : Array Value, W.heap[g]? = some (.cells T 77 (0, 0)) ∧ N ≤ T.size ∧ ∀ i, i < N → T[i]? = some (.slice (some ⟨bs i, 0, none⟩) (ms i) (cs i))
  r : ∀ i, i < N → W.ownsRow B 4 1 (.slice (some ⟨bs i, 0, none⟩) (ms i) (cs i)) (ms i) (boolCells (f i) (ms i))
  ne : ∀ i j, i < N → j < N → bs i = bs j → i = j
  gB : B ≤ g
section
variable {W W' : World} {B g N : Nat} {ms bs cs : Nat → Nat} {f : Nat → Nat → Bool}
theorem OwnTab.lt (h : OwnTab W B g N ms bs cs f) : g < W.heap.size := by
  obtain ⟨T, hT, _⟩ := h.t
  exact (Array.getElem?_eq_some_iff.1 hT).1
theorem OwnTab.cell (h : OwnTab W B g N ms bs cs f) (i : Nat) (hi : i < N) : W.cell? ⟨g, i, none⟩ = some (.slice (some ⟨bs i, 0, none⟩) (ms i) (cs i)) := by
  obtain ⟨T, hT, _, h3⟩ := h.t
  rw [cell_of_row W g i T 77 (0, 0) hT]; exact h3 i hi
theorem OwnTab.frozen (h : OwnTab W B g N ms bs cs f) (i : Nat) : W.frozen? ⟨g, i, none⟩ = false := by
  obtain ⟨T, hT, _⟩ := h.t
  simp [World.frozen?, hT]
theorem OwnTab.rlt (h : OwnTab W B g N ms bs cs f) (i : Nat) (hi : i < N) : B ≤ bs i ∧ bs i < W.heap.size := (h.r i hi).lt (bs i) rfl
theorem OwnTab.bools (h : OwnTab W B g N ms bs cs f) (i : Nat) (hi : i < N) : BoolsAt W (bs i) (ms i) (f i) := BoolsAt.of_row (h.r i hi)
theorem OwnTab.cap (h : OwnTab W B g N ms bs cs f) (i : Nat) (hi : i < N) : ms i ≤ cs i := (own_cap (h.r i hi)).2
theorem OwnTab.next (h : OwnTab W B g N ms bs cs f) (hb : Below W.heap.size W W') : OwnTab W' B g N ms bs cs f := by
  obtain ⟨T, hT, h2, h3⟩ := h.t
  exact ⟨⟨T, (hb.block _ h.lt).trans hT, h2, h3⟩, fun i hi => own_below (h.r i hi) hb, h.ne, h.gB⟩
theorem OwnTab.tab (h : OwnTab W B g N ms bs cs f) (m : Nat) (hm : ∀ i, i < N → ms i = m) : TabAt W g N m f :=
  ⟨fun i hi => ⟨bs i, cs i, by rw [h.cell i hi, hm i hi], by have := h.bools i hi; rwa [hm i hi] at this⟩, h.lt⟩
/-- a row in place of another one -/
theorem OwnTab.set (h : OwnTab W B g N ms bs cs f) (i m' b' c' : Nat) (f' : Nat → Bool) (hi : i < N) (hr : W.ownsRow B 4 1 (.slice (some ⟨b', 0, none⟩) m' c') m' (boolCells f' m')) (hn : ∀ j, j < N → j ≠ i → bs j ≠ b') :
    OwnTab (W.setCell ⟨g, i, none⟩ (.slice (some ⟨b', 0, none⟩) m' c')) B g N (upd ms i m') (upd bs i b') (upd cs i c') (upd f i f') := by
  obtain ⟨T, hT, h2, h3⟩ := h.t
  have hgl := h.lt
  have hne : ∀ {b m c k : Nat} {xs : List Value}, W.ownsRow B 4 1 (.slice (some ⟨b, 0, none⟩) m c) k xs → g ≠ b := fun {b m c k xs} hx e => by
    obtain ⟨_, ⟨hx, _⟩ | ⟨g', cap, cur, e1, _, hh, _⟩⟩ := hx
    · simp at hx
    · simp at e1
      rw [← e1.1, ← e, hT] at hh
      simp at hh
  refine ⟨⟨T.setIfInBounds i (.slice (some ⟨b', 0, none⟩) m' c'), ?_, by simpa using h2, fun j hj => ?_⟩, fun j hj => ?_, fun j l hj hl => ?_, h.gB⟩
  · simp [World.setCell, Array.getElem?_modify, hT]
  · by_cases e : j = i
    · subst e
      rw [upd_at, upd_at, upd_at, Array.getElem?_setIfInBounds_self_of_lt (by omega)]
    · rw [upd_ne _ _ _ _ e, upd_ne _ _ _ _ e, upd_ne _ _ _ _ e, Array.getElem?_setIfInBounds_ne (fun h => e h.symm)]
      exact h3 j hj
  · by_cases e : j = i
    · subst e
      rw [upd_at, upd_at, upd_at, upd_at]
      exact own_set hr _ _ (by simp [Value.ownBlock]; exact hne hr)
    · rw [upd_ne _ _ _ _ e, upd_ne _ _ _ _ e, upd_ne _ _ _ _ e, upd_ne _ _ _ _ e]
      exact own_set (h.r j hj) _ _ (by simp [Value.ownBlock]; exact hne (h.r j hj))
  · by_cases e : j = i
    · subst e
      by_cases e2 : l = j
      · intro _; exact e2.symm
      · rw [upd_at, upd_ne _ _ _ _ e2]; intro h; exact absurd h.symm (hn l hl e2)
    · by_cases e2 : l = i
      · subst e2
        rw [upd_at, upd_ne _ _ _ _ e]; intro h; exact absurd h (hn j hj e)
      · rw [upd_ne _ _ _ _ e, upd_ne _ _ _ _ e2]; exact h.ne j l hj hl
end
/-- rows of a table that is being made -/
structure RowsOwn (W : World) (B : Nat) (sl : List Value) (k m : Nat) (bs cs : Nat → Nat) (f : Nat → Nat → Bool) : Prop where
  s : ∀ i, i < k → sl[i]? = some (.slice (some ⟨bs i, 0, none⟩) m (cs i))
  r : ∀ i, i < k → W.ownsRow B 4 1 (.slice (some ⟨bs i, 0, none⟩) m (cs i)) m (boolCells (f i) m)
  ne : ∀ i j, i < k → j < k → bs i = bs j → i = j
theorem RowsOwn.below {W W' : World} {B k m : Nat} {sl : List Value} {bs cs : Nat → Nat} {f : Nat → Nat → Bool} (h : RowsOwn W B sl k m bs cs f) (hb : Below W.heap.size W W') : RowsOwn W' B sl k m bs cs f :=
  ⟨h.s, fun i hi => own_below (h.r i hi) hb, h.ne⟩
theorem RowsOwn.grow {W w5 : World} {B B' k m b c : Nat} {v : Value} {sl : List Value} {bs cs : Nat → Nat} {f : Nat → Nat → Bool} (h : RowsOwn W B sl k m bs cs f) (hsl : sl.length = k) (hT : W.ownsRow B' 77 1 v k sl) (hg : W.grownBy w5 v.ownBlock)
    (hn : W.ownsRow B 4 1 (.slice (some ⟨b, 0, none⟩) m c) m (boolCells (f k) m)) (hnew : ∀ i, i < k → bs i ≠ b) : RowsOwn w5 B (sl ++ [.slice (some ⟨b, 0, none⟩) m c]) (k + 1) m (upd bs k b) (upd cs k c) f := by
  refine ⟨fun i hi => ?_, fun i hi => ?_, fun i j hi hj => ?_⟩
  · by_cases e : i = k
    · subst e
      rw [upd_at, upd_at, List.getElem?_append_right (by omega), hsl]; simp
    · rw [upd_ne _ _ _ _ e, upd_ne _ _ _ _ e, List.getElem?_append_left (by omega)]; exact h.s i (by omega)
  · by_cases e : i = k
    · subst e
      rw [upd_at, upd_at]
      exact hn.kept hg (.inr (own_ne hn hT (by decide)))
    · rw [upd_ne _ _ _ _ e, upd_ne _ _ _ _ e]
      exact (h.r i (by omega)).kept hg (.inr (own_ne (h.r i (by omega)) hT (by decide)))
  · by_cases e : i = k
    · subst e
      by_cases e2 : j = i
      · intro _; exact e2.symm
      · rw [upd_at, upd_ne _ _ _ _ e2]; intro h2; exact absurd h2.symm (hnew j (by omega))
    · by_cases e2 : j = k
      · subst e2
        rw [upd_at, upd_ne _ _ _ _ e]; intro h2; exact absurd h2 (hnew i (by omega))
      · rw [upd_ne _ _ _ _ e, upd_ne _ _ _ _ e2]; exact h.ne i j (by omega) (by omega)
theorem OwnTab.of_rows {W : World} {B g c N m : Nat} {sl : List Value} {bs cs : Nat → Nat} {f : Nat → Nat → Bool} (h : W.ownsRow B 77 1 (.slice (some ⟨g, 0, none⟩) N c) N sl) (hr : RowsOwn W B sl N m bs cs f) : OwnTab W B g N (fun _ => m) bs cs f := by
  have hgB := (h.lt g rfl).1
  refine ⟨?_, hr.r, hr.ne, hgB⟩
  obtain ⟨hl, ⟨hx, _⟩ | ⟨g', cap, cur, e1, _, hh, hc, _, hs, ht⟩⟩ := h
  · simp at hx
  · simp at e1
    obtain ⟨rfl, rfl⟩ := e1
    refine ⟨cur, hh, by omega, fun i hi => ?_⟩
    have := hr.s i hi
    rw [← ht, List.getElem?_take, if_pos (by omega)] at this
    simpa using this

set_option maxHeartbeats 2000000 in
theorem Points_own (x n : Nat) (w : World) (hx : x < 16777216) (hn : n ≤ 60) :
    Calls Try.prog 94 #[.int .i64 (x : Int), .int .i64 (n : Int)] w fun e w' => ∃ b c, e = .returned (.slice (some ⟨b, 0, none⟩) n c) ∧ w'.ownsRow w.heap.size 4 1 (.slice (some ⟨b, 0, none⟩) n c) n (boolCells (bitN x) n) ∧ Below w.heap.size w w' := by
  obtain ⟨i0, hi, hz0, hz1, hz2⟩ := info_parts tInfo4
  go_enter Try.func94, Try.ntmps94
  go_wp2
  go_loopw [0, 5, 6] (fun r v i wr => ∃ k g c : Nat, k ≤ n ∧ i = .int .i64 k ∧ r = .int .i64 ((x / 2 ^ k : Nat) : Int) ∧ v = .slice (some ⟨g, 0, none⟩) k c ∧ wr.ownsRow w.heap.size 4 1 (.slice (some ⟨g, 0, none⟩) k c) k (boolCells (bitN x) k) ∧ Below w.heap.size w wr) (fun _ _ i _ => n - (intOf i).toNat)
  case atStart =>
    refine ⟨0, w.heap.size, 0, Nat.zero_le _, rfl, by simp, rfl, World.ownsRow_made w #[] 0 (Nat.le_refl _) (Nat.zero_le _) rfl, (Below.refl _ _).alloc (Nat.le_refl _) _⟩
  case round =>
    obtain ⟨k, g, c, hk, rfl, rfl, rfl, hrow, hB⟩ := hrel
    by_cases hlt : k < n
    · have hbit := half_bit x k
      have hdiv := Lib.hid (half_div x k)
      obtain ⟨y, hy⟩ : ∃ y, y = x / 2 ^ k := ⟨_, rfl⟩
      have hyl : y ≤ x := by rw [hy]; exact Nat.div_le_self _ _
      rw [← hy] at hbit hdiv
      rw [← hy]
      obtain ⟨bt, hbt⟩ : ∃ bt, bt = bitN x k := ⟨_, rfl⟩
      rw [← hbt] at hbit
      have HBT := Lib.hid hbt
      have HRow := Lib.hid hrow
      have HB := Lib.hid hB
      clear hy hbt hrow hB
      go_wp2_with (at_builtin; refine Shut.out ?_)
      unfold Shut
      refine wpList_append_lies _ rfl _ _ 77 rfl w.heap.size 4 i0 (.bool false) 1 1 Try.underlying77 hi hz0 hz1 hz2 rfl (by omega) (.slice (some ⟨g, 0, none⟩) k c) k (boolCells (bitN x) k) rfl (HRow.out.alloc _) ⟨wr.heap.size, 0, none⟩ 1 1 [.bool bt] rfl rfl (World.news_of_block (cs := #[.bool bt]) (t := 4) (fr := (0, 0)) (heap_alloc_new wr _)) (by simp [Value.oneCell']) (by omega) (by unfold maxLen; omega) (by omega) (by have := HB.out.size; simp; omega) (wr.heap.size + 1) (by simp) ?_
      intro g2 cap2 w5 hown1 hgrow hat hglt
      have hrow5 : w5.ownsRow w.heap.size 4 1 (.slice (some ⟨g2, 0, none⟩) (k + 1) cap2) (k + 1) (boolCells (bitN x) (k + 1)) := by
        rw [boolCells_succ, ← HBT.out]; exact hown1
      have hB5 : Below w.heap.size w w5 := (HB.out.alloc HB.out.size _).grown hgrow (by have := HB.out.size; simp; omega) (fun j hj => (HRow.out.lt j hj).1)
      have HR5 := Lib.hid hrow5
      have HB5 := Lib.hid hB5
      clear hrow5 hB5 hown1 hgrow hat
      go_wp2
      go_roundw
      case rel => exact ⟨k + 1, g2, cap2, by omega, by go_num, by rw [← hdiv.out], rfl, HR5.out, HB5.out⟩
      case measure => simp [intOf]; omega
    · obtain rfl : k = n := by omega
      have HRow := Lib.hid hrow
      have HB := Lib.hid hB
      clear hrow hB
      go_wp2
      go_ret
      exact ⟨g, c, rfl, HRow.out, HB.out⟩

set_option maxRecDepth 100000 in
set_option maxHeartbeats 4000000 in
theorem Table_own (n b off c : Nat) (xs : List Nat) (w : World) (hn : n ≤ 60) (hl : xs.length ≤ 1000) (hx : NatsAt w b off xs) (hb : b < w.heap.size) (hv : ∀ i, nthN xs i < 16777216) :
    Calls Try.prog 52 #[.agg #[.int .i64 (n : Int), .slice (some ⟨b, off, none⟩) xs.length c]] w
      fun e w' => ∃ g c bs cs, e = .returned (.slice (some ⟨g, 0, none⟩) xs.length c) ∧ OwnTab w' w.heap.size g xs.length (fun _ => n) bs cs (fun i j => bitN (nthN xs i) j) ∧ Below w.heap.size w w' := by
  obtain ⟨i0, hi, hz0, hz1, hz2⟩ := info_parts tInfo77
  have HX := Lib.hid hx
  have HVl := Lib.hid hv
  clear hx hv
  go_enter Try.func52, Try.ntmps52
  go_wp2
  go_loopw [3, 4] (fun v i wr => ∃ (k g c2 : Nat) (bs cs : Nat → Nat) (sl : List Value), k ≤ xs.length ∧ i = .int .i64 k ∧ v = .slice (some ⟨g, 0, none⟩) k c2 ∧ wr.ownsRow (w.heap.size + 1) 77 1 (.slice (some ⟨g, 0, none⟩) k c2) k sl ∧ RowsOwn wr (w.heap.size + 1) sl k n bs cs (fun i j => bitN (nthN xs i) j) ∧
      wr.cell? ⟨w.heap.size, 0, none⟩ = some (.int .i64 (n : Int)) ∧ wr.cell? ⟨w.heap.size, 1, none⟩ = some (.slice (some ⟨b, off, none⟩) xs.length c) ∧ Below w.heap.size w wr) (fun _ i _ => xs.length - (intOf i).toNat)
  case atStart =>
    have h1 := World.ownsRow_made (base := w.heap.size + 1) (e := 77) (size := 1) (w.alloc (.cells #[.int .i64 (n : Int), .slice (some ⟨b, off, none⟩) xs.length c] 24)) #[] 0 (by simp) (Nat.zero_le _) rfl
    rw [World.size_alloc] at h1
    refine ⟨0, w.heap.size + 1, 0, fun _ => 0, fun _ => 0, [], Nat.zero_le _, rfl, rfl, h1, ⟨fun i hi => by omega, fun i hi => by omega, fun i j hi => by omega⟩, ?_, ?_, ((Below.refl _ _).alloc (Nat.le_refl _) _).alloc (by simp) _⟩
    · exact (((Below.refl (w.heap.size + 1) (w.alloc (.cells #[.int .i64 (n : Int), .slice (some ⟨b, off, none⟩) xs.length c] 24))).alloc (by simp) _).cell (p := ⟨w.heap.size, 0, none⟩) (by simp)).trans (by simp)
    · exact (((Below.refl (w.heap.size + 1) (w.alloc (.cells #[.int .i64 (n : Int), .slice (some ⟨b, off, none⟩) xs.length c] 24))).alloc (by simp) _).cell (p := ⟨w.heap.size, 1, none⟩) (by simp)).trans (by simp)
  case round =>
    obtain ⟨k, g, c2, bs, cs, sl, hk, rfl, rfl, hrow, hin, d0, d1, hB⟩ := hrel
    by_cases hlt : k < xs.length
    · have hc := (HX.out.below hB hb) k hlt
      have hk0 : (0 : Int) ≤ (k : Int) := by omega
      have hk1 : (k : Int) < (xs.length : Int) := by omega
      have Hp := fun W => Points_own (nthN xs k) n W (HVl.out k) hn
      have hz : w.heap.size < wr.heap.size := World.block_lt_of_cell? wr ⟨w.heap.size, 0, none⟩ d0
      have hgl := (hrow.lt g rfl).2
      have hsll : sl.length = k := by have := hrow.1; omega
      have HRow := Lib.hid hrow
      have HIn := Lib.hid hin
      have HB := Lib.hid hB
      have HSl := Lib.hid hsll
      have HD := Lib.hid (And.intro d0 d1)
      clear hrow hin hB hsll
      go_wp2_with fail
      go_region_law
        (first
          | (go_simp; go_at_call 94; (with_reducible refine (Hp _).mono ?_); rintro e w3 ⟨b3, c3, rfl, hbo3, hbl3⟩; have hs3 : wr.heap.size ≤ w3.heap.size := hbl3.size; have HB3 := Lib.hid hbl3; have HBO := Lib.hid hbo3; clear hbl3 hbo3)
          | ((refine step_append_lies _ (by rfl) _ _ _ (by rfl) (w.heap.size + 1) 77 i0 _ 1 24 Try.underlying69 hi hz0 hz1 hz2 rfl (by omega) (.slice (some ⟨g, 0, none⟩) k c2) k sl (by rfl) ((ownsRow_next HRow.out ((Below.refl _ _).drew.trans HB3.out)).alloc _)
                  ⟨w3.heap.size, 0, none⟩ 1 1 [.slice (some ⟨b3, 0, none⟩) n c3] (by rfl) (by rfl) (World.news_of_block (cs := #[.slice (some ⟨b3, 0, none⟩) n c3]) (t := 77) (fr := (0, 0)) (heap_alloc_new w3 _)) (by simp [Value.oneCell'])
                  (by omega) (by unfold maxLen; omega) (by omega) (by simp; omega) (w3.heap.size + 1) (by simp) ?_; intro g5 cap w5 hown1 hgrow hat hglt)))
      all_goals
        (have hX : Below wr.heap.size wr (w3.alloc (.cells #[.slice (some ⟨b3, 0, none⟩) n c3] 77)) := (((Below.refl _ wr).drew).trans HB3.out).alloc hs3 _
         have hbw : wr.heap.size ≤ b3 := (HBO.out.lt b3 rfl).1
         have hin5 : RowsOwn w5 (w.heap.size + 1) (sl ++ [.slice (some ⟨b3, 0, none⟩) n c3]) (k + 1) n (upd bs k b3) (upd cs k c3) (fun i j => bitN (nthN xs i) j) :=
           (HIn.out.below hX).grow HSl.out (own_below HRow.out hX) hgrow (own_base (own_below HBO.out (below_new1 w3 _)) (by simp; omega)) (fun i hi e => by have := ((HIn.out.r i hi).lt (bs i) rfl).2; omega)
         have hB5 : Below (w.heap.size + 1) wr w5 := (hX.mono (by omega)).grown hgrow (by simp; omega) (fun j hj => (HRow.out.lt j hj).1)
         have e0 := (hB5.cell (p := ⟨w.heap.size, 0, none⟩) (by simp)).trans HD.out.1
         have e1 := (hB5.cell (p := ⟨w.heap.size, 1, none⟩) (by simp)).trans HD.out.2
         have HR5 := Lib.hid hown1
         have HI5 := Lib.hid hin5
         have HBB := Lib.hid (HB.out.trans (hB5.mono (by omega)))
         have HE := Lib.hid (And.intro e0 e1)
         clear hX hin5 hB5 e0 e1 hown1 hgrow hat)
      all_goals go_wp2
      all_goals go_roundw
      all_goals first
        | (simp [intOf]; omega)
        | exact ⟨k + 1, g5, cap, _, _, _, by omega, by go_num, rfl, HR5.out, HI5.out, HE.out.1, HE.out.2, HBB.out⟩
    · obtain rfl : k = xs.length := by omega
      have h2 := OwnTab.of_rows hrow hin
      have HT := Lib.hid (show OwnTab wr w.heap.size g xs.length (fun _ => n) bs cs (fun i j => bitN (nthN xs i) j) from ⟨h2.t, fun i hi => own_base (h2.r i hi) (by omega), h2.ne, by have := h2.gB; omega⟩)
      have HB := Lib.hid hB
      clear hrow hin hB h2
      go_wp2
      go_ret
      exact ⟨g, c2, bs, cs, rfl, HT.out, HB.out⟩
end Go.Proofs.Ytjobbleabepaiaa
