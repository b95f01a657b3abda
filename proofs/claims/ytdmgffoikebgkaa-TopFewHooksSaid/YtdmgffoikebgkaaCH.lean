/- stay. -/
import Derived.Test.YtdmgffoikebgkaaCG
import Derived.Test.YtdmgffoikebgkaaKC
import Derived.Sort.QuietIn
import Derived.Sort.CutIn
namespace Go.Proofs.Ytdmgffoikebgkaa
open Go.RowKit Go.Shelf
attribute [local go_sem] Oper.semAt_some

def nthS (ss : List St) (i : Nat) : St := ss[i]?.getD ⟨0, 0⟩
def stList (ss : List St) : List Value := ss.flatMap fun s => [.int .i64 (s.many : Int), .int .i64 (s.bits : Int)]
theorem stList_get : ∀ (ss : List St) (i : Nat), i < ss.length → (stList ss)[i * 2]? = some (.int .i64 ((nthS ss i).many : Int)) ∧ (stList ss)[i * 2 + 1]? = some (.int .i64 ((nthS ss i).bits : Int))
  | [], i, h => by simp at h
  | s :: ss, 0, _ => by simp [stList, nthS]
  | s :: ss, i + 1, h => by
    have e : stList (s :: ss) = [.int .i64 (s.many : Int), .int .i64 (s.bits : Int)] ++ stList ss := by simp [stList]
    have h1 := stList_get ss i (by simpa using h)
    rw [e, List.getElem?_append_right (by simp; omega), List.getElem?_append_right (by simp; omega)]
    simp only [List.length_cons, List.length_nil]
    rw [show (i + 1) * 2 - (0 + 1 + 1) = i * 2 by omega, show (i + 1) * 2 + 1 - (0 + 1 + 1) = i * 2 + 1 by omega]
    exact h1
theorem stList_set : ∀ (ss : List St) (i : Nat) (s : St), stList (ss.set i s) = ((stList ss).set (i * 2) (.int .i64 (s.many : Int))).set (i * 2 + 1) (.int .i64 (s.bits : Int))
  | [], i, s => by simp [stList]
  | x :: ss, 0, s => by simp [stList]
  | x :: ss, i + 1, s => by
    have e : ∀ (x : St) ss, stList (x :: ss) = .int .i64 (x.many : Int) :: .int .i64 (x.bits : Int) :: stList ss := fun x ss => by simp [stList]
    rw [List.set_cons_succ, e, e, stList_set ss i s, show (i + 1) * 2 = i * 2 + 1 + 1 by omega, show i * 2 + 1 + 1 + 1 = (i * 2 + 1) + 1 + 1 by omega]
    simp [List.set_cons_succ]
theorem nthS_set (ss : List St) (i j : Nat) (s : St) (h : i < ss.length) : nthS (ss.set i s) j = if j = i then s else nthS ss j := by
  unfold nthS
  by_cases e : j = i
  · subst e; simp [h]
  · rw [if_neg e, List.getElem?_set_ne (Ne.symm e)]
/-- one card before another one -/
def inStep (cs : List Card) (a : Nat) (ss : List St) (b : Nat) : List St :=
  if (nthS ss b).many = 0 ∨ (nthC cs a).num < (nthC cs b).num then ss
  else if stBetter (stWith (nthS ss b) a) (nthS ss a) then ss.set a (stWith (nthS ss b) a) else ss
def inFold (cs : List Card) (a : Nat) (ss : List St) (bs : List Nat) : List St := bs.foldl (inStep cs a) ss
theorem inFold_snoc (cs : List Card) (a : Nat) (ss : List St) (bs : List Nat) (b : Nat) : inFold cs a ss (bs ++ [b]) = inStep cs a (inFold cs a ss bs) b := by simp [inFold]
theorem inStep_len (cs : List Card) (a : Nat) (ss : List St) (b : Nat) : (inStep cs a ss b).length = ss.length := by
  unfold inStep; split <;> (try split) <;> simp
theorem inFold_len (cs : List Card) (a : Nat) : ∀ (bs : List Nat) (ss : List St), (inFold cs a ss bs).length = ss.length
  | [], ss => rfl
  | b :: bs, ss => by
    have := inFold_len cs a bs (inStep cs a ss b)
    rw [inStep_len] at this; exact this
structure StAll (m a : Nat) (ss : List St) : Prop where
  ok : ∀ i, i ≠ a → StOk m (nthS ss i)
  at' : StOk (m + 1) (nthS ss a)
theorem inStep_ok {cs : List Card} {m a b : Nat} {ss : List St} (h : StAll m a ss) (hb : b ≠ a) (ha : a < ss.length) : StAll m a (inStep cs a ss b) := by
  unfold inStep
  split
  · exact h
  · split
    · refine ⟨fun i hi => ?_, ?_⟩
      · rw [nthS_set _ _ _ _ ha, if_neg hi]; exact h.ok i hi
      · rw [nthS_set _ _ _ _ ha, if_pos rfl]; exact stWith_ok (h.ok b hb)
    · exact h
/-- one card more: its best cards by the ones before it, and the best of all -/
def outStep (cs : List Card) (xs : List Nat) (S : List St × St) (a : Nat) : List St × St :=
  let ss := inFold cs a S.1 (xs.takeWhile (· != a))
  (ss, if stBetter (nthS ss a) S.2 then nthS ss a else S.2)
def outFold (cs : List Card) (xs : List Nat) (S : List St × St) (zs : List Nat) : List St × St := zs.foldl (outStep cs xs) S
theorem outFold_snoc (cs : List Card) (xs : List Nat) (S : List St × St) (zs : List Nat) (a : Nat) : outFold cs xs S (zs ++ [a]) = outStep cs xs (outFold cs xs S zs) a := by simp [outFold]
def vals {l : Nat} (xs : List { x : Nat // x < l }) : List Nat := xs.map (·.1)
theorem vals_snoc {l : Nat} (xs : List { x : Nat // x < l }) (x : { x : Nat // x < l }) : vals (xs ++ [x]) = vals xs ++ [x.1] := by simp [vals]
def stay0 (l f : Nat) : List St × St := ((List.replicate l ⟨0, 0⟩).set f (stWith ⟨0, 0⟩ f), stWith ⟨0, 0⟩ f)
def stayN (cs : List Card) (f : Nat) : St := (outFold cs (vals (aroundL cs.length f cs.length)) (stay0 cs.length f) (vals (aroundL cs.length f cs.length))).2
/-- a prefix that ends at a for the first time -/
theorem takeWhile_of_pre {xs q : List Nat} {a : Nat} (h : (q ++ [a]) <+: xs) (hq : a ∉ q) : xs.takeWhile (· != a) = q := by
  obtain ⟨r, rfl⟩ := h
  rw [List.append_assoc, List.takeWhile_append_of_pos (by intro x hx; simp; rintro rfl; exact hq hx)]
  simp
theorem takeWhile_of_not {a : Nat} : ∀ {xs : List Nat}, a ∉ xs → xs.takeWhile (· != a) = xs
  | [], _ => rfl
  | x :: xs, hq => by
    have h1 : (x != a) = true := by rw [bne_iff_ne]; rintro rfl; exact hq (by simp)
    rw [List.takeWhile_cons, if_pos h1, takeWhile_of_not (fun h => hq (by simp [h]))]
theorem vals_pre {l : Nat} {p q : List { x : Nat // x < l }} (h : p <+: q) : vals p <+: vals q := by
  obtain ⟨r, rfl⟩ := h; exact ⟨vals r, by simp [vals]⟩

theorem Try.info275 : (Try.prog.info? 275).map (fun i => (i.zero, i.size, i.bytes)) = some (some (.agg #[.int .i64 0, .int .i64 0]), 2, 16) := by kernel_rfl
theorem stList_len (ss : List St) : (stList ss).length = ss.length * 2 := by
  induction ss with
  | nil => rfl
  | cons s ss ih => rw [show stList (s :: ss) = [.int .i64 (s.many : Int), .int .i64 (s.bits : Int)] ++ stList ss by simp [stList], List.length_append, ih]; simp; omega
theorem made_st (n : Nat) : madeCells #[.int .i64 0, .int .i64 0] (n * 2) = (stList (List.replicate n ⟨0, 0⟩)).toArray := by
  apply Array.ext
  · rw [size_madeCells]; simp [stList_len]
  · intro i h1 h2
    rw [size_madeCells] at h1
    have h3 : i / 2 < n := by omega
    have hg := stList_get (List.replicate n ⟨0, 0⟩) (i / 2) (by simpa using h3)
    have hn : nthS (List.replicate n ⟨0, 0⟩) (i / 2) = ⟨0, 0⟩ := by simp [nthS, h3]
    rw [hn] at hg
    have e1 : (stList (List.replicate n ⟨0, 0⟩))[i]? = some (.int .i64 0) := by
      rcases Nat.mod_two_eq_zero_or_one i with h | h
      · have := hg.1; rwa [show i / 2 * 2 = i by omega] at this
      · have := hg.2; rwa [show i / 2 * 2 + 1 = i by omega] at this
    have e2 : (madeCells #[.int .i64 0, .int .i64 0] (n * 2))[i]? = some (.int .i64 0) := by
      simp only [madeCells]
      rcases Nat.mod_two_eq_zero_or_one i with h | h <;> simp [h, h1]
    have h4 : (madeCells #[.int .i64 0, .int .i64 0] (n * 2))[i]? = (stList (List.replicate n ⟨0, 0⟩)).toArray[i]? := by rw [e2]; simpa using e1.symm
    rw [Array.getElem?_eq_getElem (by rw [size_madeCells]; exact h1), Array.getElem?_eq_getElem h2] at h4
    exact Option.some.inj h4
theorem run_make_st (n : Nat) (hn : n ≤ 1000) (w : World) :
    (Instr.makeSlice 285 (.int .i64 (n : Int)) (.int .i64 (n : Int))).run Try.prog w = .ok (.slice (some ⟨w.heap.size, 0, none⟩) n n) (w.alloc (.cells (stList (List.replicate n ⟨0, 0⟩)).toArray 275)) := by
  obtain ⟨i, hi, hz0, hz1, hz2⟩ := info_parts Try.info275
  have h := run_make (P := Try.prog) w 285 275 i _ Try.underlying285 hi hz0 .i64 .i64 n n (by omega) (Int.le_refl _) (by rw [hz2]; omega) (by omega)
  rw [hz1] at h
  simp only [Int.toNat_natCast] at h
  rw [h, ← made_st]
  rfl
/-- what stay keeps: the belt, the first place, the best so far, and the best by each last card -/
structure StayAt (w0 : World) (n g c l f B5 L B6 : Nat) (ss : List St) (best : St) (W : World) : Prop where
  belt : BoxAt W w0.heap.size #[.int .i64 (n : Int), .int .i64 (l : Int), .slice (some ⟨g, 0, none⟩) l c] 211
  fst : BoxAt W (w0.heap.size + 1) #[.int .i64 (f : Int)] 3
  res : BoxAt W (w0.heap.size + 2) #[.int .i64 0, .int .i64 0] 275
  best : BoxAt W B5 best.cells 275
  box : BoxAt W B6 #[.slice (some ⟨L, 0, none⟩) l l] 285
  row : BoxAt W L (stList ss).toArray 275
  len : ss.length = l
  b : Below w0.heap.size w0 W
theorem StayAt.next {w0 W W' : World} {n g c l f B5 L B6 : Nat} {ss : List St} {best : St} (h : StayAt w0 n g c l f B5 L B6 ss best W) (hb : Below W.heap.size W W') : StayAt w0 n g c l f B5 L B6 ss best W' :=
  ⟨h.belt.next hb, h.fst.next hb, h.res.next hb, h.best.next hb, h.box.next hb, h.row.next hb, h.len, h.b.trans (hb.mono h.b.size)⟩
theorem BoxAt.own {W W' : World} {B : Nat} {vs : Array Value} {t : TypeId} {row : Option Nat} (h : BoxAt W B vs t) (hg : W.grownBy W' row) (hr : ∀ r, row = some r → ∃ o : Obj, W.heap[r]? = some o ∧ o.isCells = false) : BoxAt W' B vs t :=
  h.kept hg (fun e => by obtain ⟨o, ho, hc⟩ := hr B e.symm; rw [show W.heap[B]? = _ from h] at ho; cases ho; cases hc)
theorem StayAt.own {w0 W W' : World} {n g c l f B5 L B6 : Nat} {ss : List St} {best : St} {row : Option Nat} (h : StayAt w0 n g c l f B5 L B6 ss best W) (hg : W.grownBy W' row)
    (hr : ∀ r, row = some r → w0.heap.size ≤ r ∧ ∃ o : Obj, W.heap[r]? = some o ∧ o.isCells = false) : StayAt w0 n g c l f B5 L B6 ss best W' :=
  have hr' := fun r e => (hr r e).2
  ⟨h.belt.own hg hr', h.fst.own hg hr', h.res.own hg hr', h.best.own hg hr', h.box.own hg hr', h.row.own hg hr', h.len, h.b.grown hg h.b.size (fun k e => (hr k e).1)⟩
theorem StayAt.setRow {w0 W : World} {n g c l f B5 L B6 : Nat} {ss : List St} {best : St} (h : StayAt w0 n g c l f B5 L B6 ss best W) (i : Nat) (s : St) (h1 : w0.heap.size + 2 < B5) (h2 : B5 < L) (h3 : L < B6) :
    StayAt w0 n g c l f B5 L B6 (ss.set i s) best ((W.setCell ⟨L, i * 2, none⟩ (.int .i64 (s.many : Int))).setCell ⟨L, i * 2 + 1, none⟩ (.int .i64 (s.bits : Int))) := by
  refine ⟨(h.belt.other _ _ (by simp; omega)).other _ _ (by simp; omega), (h.fst.other _ _ (by simp; omega)).other _ _ (by simp; omega), (h.res.other _ _ (by simp; omega)).other _ _ (by simp; omega),
    (h.best.other _ _ (by simp; omega)).other _ _ (by simp; omega), (h.box.other _ _ (by simp; omega)).other _ _ (by simp; omega), ?_, by rw [List.length_set]; exact h.len, (h.b.setCell (by simp; omega) _).setCell (by simp; omega) _⟩
  have := (h.row.set (i * 2) (.int .i64 (s.many : Int))).set (i * 2 + 1) (.int .i64 (s.bits : Int))
  rw [stList_set]
  simpa [List.setIfInBounds_toArray] using this
theorem StayAt.setBest {w0 W : World} {n g c l f B5 L B6 : Nat} {ss : List St} {best : St} (h : StayAt w0 n g c l f B5 L B6 ss best W) (s : St) (h1 : w0.heap.size + 2 < B5) (h2 : B5 < L) (h3 : L < B6) :
    StayAt w0 n g c l f B5 L B6 ss s ((W.setCell ⟨B5, 0, none⟩ (.int .i64 (s.many : Int))).setCell ⟨B5, 1, none⟩ (.int .i64 (s.bits : Int))) := by
  refine ⟨(h.belt.other _ _ (by simp; omega)).other _ _ (by simp; omega), (h.fst.other _ _ (by simp; omega)).other _ _ (by simp; omega), (h.res.other _ _ (by simp; omega)).other _ _ (by simp; omega),
    ?_, (h.box.other _ _ (by simp; omega)).other _ _ (by simp; omega), (h.row.other _ _ (by simp; omega)).other _ _ (by simp; omega), h.len, (h.b.setCell (by simp; omega) _).setCell (by simp; omega) _⟩
  exact (h.best.set 0 (.int .i64 (s.many : Int))).set 1 (.int .i64 (s.bits : Int))
theorem StayAt.rowCell {w0 W : World} {n g c l f B5 L B6 : Nat} {ss : List St} {best : St} (h : StayAt w0 n g c l f B5 L B6 ss best W) {i : Nat} (hi : i < l) :
    W.cell? ⟨L, i * 2, none⟩ = some (.int .i64 ((nthS ss i).many : Int)) ∧ W.cell? ⟨L, i * 2 + 1, none⟩ = some (.int .i64 ((nthS ss i).bits : Int)) := by
  have := stList_get ss i (by rw [h.len]; exact hi)
  rw [h.row.cell, h.row.cell]
  simpa using this
/-- between two rounds of the outer loop -/
structure OutI (w : World) (n g c f B5 A : Nat) (cs : List Card) (pre : List { x : Nat // x < cs.length }) (W : World) : Prop where
  st : StayAt w n g c cs.length f B5 (B5 + 1) (B5 + 2) (outFold cs (vals (aroundL cs.length f cs.length)) (stay0 cs.length f) (vals pre)).1 (outFold cs (vals (aroundL cs.length f cs.length)) (stay0 cs.length f) (vals pre)).2 W
  ok : ∀ i, StOk (pre.length + 1) (nthS (outFold cs (vals (aroundL cs.length f cs.length)) (stay0 cs.length f) (vals pre)).1 i)
  best : StOk (pre.length + 1) (outFold cs (vals (aroundL cs.length f cs.length)) (stay0 cs.length f) (vals pre)).2
  lt : A + 1 < W.heap.size
theorem OutI.next {w W W' : World} {n g c f B5 A : Nat} {cs : List Card} {pre : List { x : Nat // x < cs.length }} (h : OutI w n g c f B5 A cs pre W) (hb : Below W.heap.size W W') : OutI w n g c f B5 A cs pre W' :=
  ⟨h.st.next hb, h.ok, h.best, Nat.lt_of_lt_of_le h.lt hb.size⟩
theorem OutI.own {w : World} {n g c f B5 A B : Nat} {cs : List Card} (hB : w.heap.size ≤ B) : OwnFrom B (OutI w n g c f B5 A cs) := fun _ _ _ _ h hg hr =>
  ⟨h.st.own hg (fun r e => ⟨Nat.le_trans hB (hr r e).1, (hr r e).2⟩), h.ok, h.best, Nat.lt_of_lt_of_le h.lt hg.size⟩
theorem KeepsFrom.of_below {B : Nat} {W W' : World} (h : Below W.heap.size W W') : KeepsFrom B W W' := KeepsFrom.of_grownBy (below_grown h none) (fun _ e => by cases e)
/-- between two rounds of the inner loop -/
structure InI (w : World) (n g c f B5 A : Nat) (cs : List Card) (W5 W : World) (Bx a m : Nat) (ss0 : List St) (best : St) (pre : List { x : Nat // x < cs.length }) (W' : World) : Prop where
  st : StayAt w n g c cs.length f B5 (B5 + 1) (B5 + 2) (inFold cs a ss0 (vals pre)) best W'
  ok : StAll m a (inFold cs a ss0 (vals pre))
  ni : a ∉ vals pre
  bx : BoxAt W' Bx #[.int .i64 (a : Int)] 3
  kp : Keep2 A W W'
  kf : KeepsFrom W5.heap.size W W'
  lt : W.heap.size + 1 < W'.heap.size
theorem InI.next {w W5 W X Y : World} {n g c f B5 A Bx a m : Nat} {cs : List Card} {ss0 : List St} {best : St} {pre : List { x : Nat // x < cs.length }} (h : InI w n g c f B5 A cs W5 W Bx a m ss0 best pre X) (hb : Below X.heap.size X Y) (hA : A + 1 < W.heap.size) : InI w n g c f B5 A cs W5 W Bx a m ss0 best pre Y :=
  ⟨h.st.next hb, h.ok, h.ni, h.bx.next hb, h.kp.trans (Keep2.of_below hb (by have := h.kp.size; omega)), h.kf.trans (KeepsFrom.of_below hb), Nat.lt_of_lt_of_le h.lt hb.size⟩
theorem InI.own {w W5 W : World} {n g c f B5 A Bx a m B : Nat} {cs : List Card} {ss0 : List St} {best : St} (hB : w.heap.size ≤ B) (hB2 : W.heap.size ≤ B) (hA : A + 1 < W.heap.size) : OwnFrom B (InI w n g c f B5 A cs W5 W Bx a m ss0 best) := fun s X Y row h hg hr =>
  ⟨h.st.own hg (fun r e => ⟨Nat.le_trans hB (hr r e).1, (hr r e).2⟩), h.ok, h.ni, h.bx.own hg (fun r e => (hr r e).2), h.kp.own hg hA (fun r e => by have := (hr r e).1; omega), ownFrom_keepsFrom (β := Unit) (B := W5.heap.size) (w₀ := W) hB2 () X Y row h.kf hg hr, Nat.lt_of_lt_of_le h.lt hg.size⟩
theorem inStep_eq (cs : List Card) (a : Nat) (ss : List St) (b : Nat) : inStep cs a ss b = if (nthS ss b).many = 0 ∨ (nthC cs a).num < (nthC cs b).num then ss
    else if stBetter (stWith (nthS ss b) a) (nthS ss a) then ss.set a (stWith (nthS ss b) a) else ss := rfl
def Is11 (X : World) (t : Bool) (s : Value) (wx : World) : Prop := s = .bool t ∧ Below X.heap.size X wx
theorem is11 {X w8 : World} {t : Bool} (hb : Below X.drew.heap.size X.drew w8) : Is11 X t (.bool t) w8 := ⟨rfl, Below.trans (below_drew1 X) hb⟩
/-- the cards with one more lie in a box of their own -/
def Box10 (X : World) (sn : St) (s : Value) (wx : World) : Prop := ∃ Y, s = .pointer (some ⟨Y, 0, none⟩) ∧ X.heap.size ≤ Y ∧ BoxAt wx Y sn.cells 275 ∧ Below X.heap.size X wx
theorem box10_a {X w7 : World} (sn : St) (hb : Below ((X.alloc (.cells #[.int .i64 0, .int .i64 0] 275)).drew).heap.size ((X.alloc (.cells #[.int .i64 0, .int .i64 0] 275)).drew) w7) :
    Box10 X sn (.pointer (some ⟨X.heap.size, 0, none⟩)) ((w7.setCell ⟨X.heap.size, 0, none⟩ (.int .i64 (sn.many : Int))).setCell ⟨X.heap.size, 1, none⟩ (.int .i64 (sn.bits : Int))) := by
  have qb : BoxAt w7 X.heap.size #[.int .i64 0, .int .i64 0] 275 := BoxAt.next (W := (X.alloc (.cells #[.int .i64 0, .int .i64 0] 275)).drew) (BoxAt.new X #[.int .i64 0, .int .i64 0] 275) hb
  have hx : Below X.heap.size X w7 := Below.trans (((Below.refl X.heap.size X).alloc (Nat.le_refl _) _).drew) (hb.mono (by simp))
  exact ⟨_, rfl, Nat.le_refl _, (qb.set 0 (.int .i64 (sn.many : Int))).set 1 (.int .i64 (sn.bits : Int)), (hx.setCell (by simp) _).setCell (by simp) _⟩
theorem box10_b {X w7 : World} (sn : St) (hb : Below X.drew.heap.size X.drew w7) : Box10 X sn (.pointer (some ⟨w7.heap.size, 0, none⟩)) (w7.alloc (.cells #[.int .i64 (sn.many : Int), .int .i64 (sn.bits : Int)] 275)) := by
  have hx : Below X.heap.size X w7 := Below.trans (below_drew1 X) hb
  exact ⟨_, rfl, hx.size, BoxAt.new _ _ _, hx.alloc hx.size _⟩
theorem InI.store {w W5 W X : World} {n g c f B5 A Bx a m b : Nat} {cs : List Card} {ss0 : List St} {best : St} {pre : List { x : Nat // x < cs.length }} (h : InI w n g c f B5 A cs W5 W Bx a m ss0 best pre X) (hb : b < cs.length) (hne : ¬ b = a) (ha : a < cs.length)
    (h1 : w.heap.size + 2 < B5) (h2 : B5 + 2 < A) (hAB : A + 1 < Bx) (sn : St) (hs : inStep cs a (inFold cs a ss0 (vals pre)) b = (inFold cs a ss0 (vals pre)).set a sn) :
    InI w n g c f B5 A cs W5 W Bx a m ss0 best (pre ++ [⟨b, hb⟩]) ((X.setCell ⟨B5 + 1, a * 2, none⟩ (.int .i64 (sn.many : Int))).setCell ⟨B5 + 1, a * 2 + 1, none⟩ (.int .i64 (sn.bits : Int))) := by
  have hok := inStep_ok (cs := cs) h.ok hne (by rw [h.st.len]; exact ha)
  refine ⟨?_, ?_, ?_, (h.bx.other _ _ (by simp; omega)).other _ _ (by simp; omega), (h.kp.trans (Keep2.setCell _ _ _ (by simp; omega) (by simp; omega))).trans (Keep2.setCell _ _ _ (by simp; omega) (by simp; omega)),
    (h.kf.trans ((KeepsOthers.setCell _ _ _).from _)).trans ((KeepsOthers.setCell _ _ _).from _), by simpa using h.lt⟩
  · rw [vals_snoc, inFold_snoc, hs]; exact h.st.setRow a sn h1 (by omega) (by omega)
  · rw [vals_snoc, inFold_snoc]; exact hok
  · rw [vals_snoc, List.mem_append, not_or]; exact ⟨h.ni, by simp; omega⟩
theorem roundCall0 {P : Program} {f n l : Nat} {args : Array Value} {w : World} {R R' : Ending → World → Prop} (h : Calls P f args w R) (hm : ∀ e w', R e w' → R' e w') :
    Fence.wide.fn f ∧ CallsIn (Fence.wide.inRound l) n P f args w R' :=
  ⟨trivial, (CallsIn.inRound l (callsIn_wide.2 h)).mono hm⟩
theorem stAll_any {m k a : Nat} {ss : List St} (h : StAll m a ss) (hk : m + 1 ≤ k) (i : Nat) : StOk k (nthS ss i) := by
  by_cases e : i = a
  · rw [e]; exact h.at'.mono hk
  · exact (h.ok i e).mono (by omega)
theorem roundCall2 {P : Program} {f n l l2 : Nat} {args : Array Value} {w : World} {R R' : Ending → World → Prop} (h : Calls P f args w R) (hm : ∀ e w', R e w' → R' e w') :
    Fence.wide.fn f ∧ (Fence.wide.depth.isSome = true → 1 ≤ n) ∧ CallsIn ((Fence.wide.inRound l).inRound l2) (n - 1) P f args w R' :=
  ⟨trivial, fun h => by simp [Fence.wide] at h, (CallsIn.inRound l2 (CallsIn.inRound l (callsIn_wide.2 h))).mono hm⟩
theorem InI.skip {w W5 W X Y : World} {n g c f B5 A Bx a m b : Nat} {cs : List Card} {ss0 : List St} {best : St} {pre : List { x : Nat // x < cs.length }} (h : InI w n g c f B5 A cs W5 W Bx a m ss0 best pre X) (hb : b < cs.length) (hne : ¬ b = a) (hA : A + 1 < W.heap.size)
    (hs : inStep cs a (inFold cs a ss0 (vals pre)) b = inFold cs a ss0 (vals pre)) (hbl : Below X.heap.size X Y) : InI w n g c f B5 A cs W5 W Bx a m ss0 best (pre ++ [⟨b, hb⟩]) Y := by
  have h' := h.next hbl hA
  refine ⟨?_, ?_, ?_, h'.bx, h'.kp, h'.kf, h'.lt⟩
  · rw [vals_snoc, inFold_snoc, hs]; exact h'.st
  · rw [vals_snoc, inFold_snoc, hs]; exact h'.ok
  · rw [vals_snoc, List.mem_append, not_or]; exact ⟨h'.ni, by simp; omega⟩
set_option maxRecDepth 100000 in
set_option maxHeartbeats 4000000 in
theorem stay_any (n g c f : Nat) (cs : List Card) (w : World) (hv : BAt w g n cs) (hf : f < cs.length) :
    Calls Try.prog 218 #[.agg #[.int .i64 (n : Int), .int .i64 (cs.length : Int), .slice (some ⟨g, 0, none⟩) cs.length c], .int .i64 (f : Int)] w fun e w' => e = .returned (stayN cs f).enc ∧ Below w.heap.size w w' := by
  have l1 := hv.ok.l1
  have l0 := hv.ok.l0
  have hmk := fun W => run_make_st cs.length (by omega) W
  have HW := fun W => with_any 0 ⟨0, 0⟩ f W ⟨Nat.le_refl _, by decide⟩ (by omega) (by omega)
  have Hv := Lib.hid hv
  obtain ⟨s0, hs0⟩ : ∃ s0, stWith ⟨0, 0⟩ f = s0 := ⟨_, rfl⟩
  have Hs0 := Lib.hid hs0
  simp only [hs0] at HW
  clear hv hs0
  obtain ⟨nf, hnf⟩ : ∃ nf : Nat, 10 ≤ nf := ⟨10, Nat.le_refl _⟩
  refine (callsIn_wide (n := nf)).1 ?_
  refine callsIn_of_wp_marks Try.func218 rfl trivial ?_ rfl
  simp only [Try.ntmps218, List.size_toArray, List.length_cons, List.length_nil, Nat.reduceAdd, Nat.reduceSub, Array.replicate_succ, Array.replicate_zero, List.push_toArray, List.append_toArray, List.nil_append, List.cons_append]
  have x0 : BoxAt (((w.alloc (.cells #[.int .i64 (n : Int), .int .i64 (cs.length : Int), .slice (some ⟨g, 0, none⟩) cs.length c] 211)).alloc (.cells #[.int .i64 (f : Int)] 3)).alloc (.cells #[.int .i64 0, .int .i64 0] 275)) w.heap.size #[.int .i64 (n : Int), .int .i64 (cs.length : Int), .slice (some ⟨g, 0, none⟩) cs.length c] 211 :=
    ((BoxAt.new _ _ _).next ((Below.refl _ _).alloc (Nat.le_refl _) _)).next ((Below.refl _ _).alloc (Nat.le_refl _) _)
  have x1 : BoxAt (((w.alloc (.cells #[.int .i64 (n : Int), .int .i64 (cs.length : Int), .slice (some ⟨g, 0, none⟩) cs.length c] 211)).alloc (.cells #[.int .i64 (f : Int)] 3)).alloc (.cells #[.int .i64 0, .int .i64 0] 275)) (w.heap.size + 1) #[.int .i64 (f : Int)] 3 := by
    have := (BoxAt.new (w.alloc (.cells #[.int .i64 (n : Int), .int .i64 (cs.length : Int), .slice (some ⟨g, 0, none⟩) cs.length c] 211)) #[.int .i64 (f : Int)] 3).next ((Below.refl _ _).alloc (Nat.le_refl _) (.cells #[.int .i64 0, .int .i64 0] 275))
    rwa [World.size_alloc] at this
  have x2 : BoxAt (((w.alloc (.cells #[.int .i64 (n : Int), .int .i64 (cs.length : Int), .slice (some ⟨g, 0, none⟩) cs.length c] 211)).alloc (.cells #[.int .i64 (f : Int)] 3)).alloc (.cells #[.int .i64 0, .int .i64 0] 275)) (w.heap.size + 2) #[.int .i64 0, .int .i64 0] 275 := by
    have := BoxAt.new ((w.alloc (.cells #[.int .i64 (n : Int), .int .i64 (cs.length : Int), .slice (some ⟨g, 0, none⟩) cs.length c] 211)).alloc (.cells #[.int .i64 (f : Int)] 3)) #[.int .i64 0, .int .i64 0] 275
    rwa [World.size_alloc, World.size_alloc] at this
  have xb : Below w.heap.size w (((w.alloc (.cells #[.int .i64 (n : Int), .int .i64 (cs.length : Int), .slice (some ⟨g, 0, none⟩) cs.length c] 211)).alloc (.cells #[.int .i64 (f : Int)] 3)).alloc (.cells #[.int .i64 0, .int .i64 0] 275)) := (((Below.refl _ _).alloc (Nat.le_refl _) _).alloc (by simp) _).alloc (by simp; omega) _
  have X0 := Lib.hid x0
  have X1 := Lib.hid x1
  have X2 := Lib.hid x2
  have XB := Lib.hid xb
  clear x0 x1 x2 xb
  gi_wp2_with fail
  refine wideCall (HW _) ?_
  rintro e w1 ⟨rfl, hb1⟩
  have x0 := X0.out.next hb1
  have x1 := X1.out.next hb1
  have x2 := X2.out.next hb1
  have xb := XB.out.trans (hb1.mono XB.out.size)
  have k2 : w1.cell? ⟨w.heap.size, 2, none⟩ = some (.slice (some ⟨g, 0, none⟩) cs.length c) := x0.cell' 2 rfl
  have k1 : w1.cell? ⟨w.heap.size, 1, none⟩ = some (.int .i64 (cs.length : Int)) := x0.cell' 1 rfl
  have kf : w1.cell? ⟨w.heap.size + 1, 0, none⟩ = some (.int .i64 (f : Int)) := x1.cell' 0 rfl
  have hz0 : w.heap.size < w1.heap.size := x0.lt
  have hz1 : w.heap.size + 1 < w1.heap.size := x1.lt
  obtain ⟨W3, hW3⟩ : ∃ W3, ((w1.alloc (.cells #[.int .i64 (s0.many : Int), .int .i64 (s0.bits : Int)] 275)).alloc (.cells (stList (List.replicate cs.length ⟨0, 0⟩)).toArray 275)).alloc (.cells #[.slice (some ⟨w1.heap.size + 1, 0, none⟩) cs.length cs.length] 285) = W3 := ⟨_, rfl⟩
  have hb3 : Below w1.heap.size w1 W3 := by rw [← hW3]; exact (((Below.refl _ _).alloc (Nat.le_refl _) _).alloc (by simp) _).alloc (by simp; omega) _
  have hT3 : StayAt w n g c cs.length f w1.heap.size (w1.heap.size + 1) (w1.heap.size + 2) (List.replicate cs.length ⟨0, 0⟩) s0 W3 := by
    refine ⟨x0.next hb3, x1.next hb3, x2.next hb3, ?_, ?_, ?_, by simp, xb.trans (hb3.mono xb.size)⟩
    · rw [← hW3]; exact ((BoxAt.new w1 s0.cells 275).next ((Below.refl _ _).alloc (Nat.le_refl _) _)).next ((Below.refl _ _).alloc (Nat.le_refl _) _)
    · rw [← hW3]
      have := BoxAt.new ((w1.alloc (.cells #[.int .i64 (s0.many : Int), .int .i64 (s0.bits : Int)] 275)).alloc (.cells (stList (List.replicate cs.length ⟨0, 0⟩)).toArray 275)) #[.slice (some ⟨w1.heap.size + 1, 0, none⟩) cs.length cs.length] 285
      rwa [World.size_alloc, World.size_alloc] at this
    · rw [← hW3]
      have := (BoxAt.new (w1.alloc (.cells #[.int .i64 (s0.many : Int), .int .i64 (s0.bits : Int)] 275)) (stList (List.replicate cs.length ⟨0, 0⟩)).toArray 275).next ((Below.refl _ _).alloc (Nat.le_refl _) (.cells #[.slice (some ⟨w1.heap.size + 1, 0, none⟩) cs.length cs.length] 285))
      rwa [World.size_alloc] at this
  have hz : W3.heap.size = w1.heap.size + 3 := by rw [← hW3]; simp
  have HT3 := Lib.hid hT3
  have HW3 := Lib.hid hW3
  have Hz := Lib.hid hz
  have hzw : w.heap.size + 2 < w1.heap.size := x2.lt
  clear x0 x1 x2 xb hb1 X0 X1 X2 XB hb3 hT3 hW3 hz
  obtain ⟨B5, hB5⟩ : ∃ B5, B5 = w1.heap.size := ⟨_, rfl⟩
  unfold St.enc
  gi_upto_region 3 with fail
  rw [HW3.out]
  have hf0 : (0 : Int) ≤ (f : Int) := by omega
  have hf1 : (f : Int) < (cs.length : Int) := by omega
  rw [← hB5] at HT3 Hz hzw ⊢
  have HB5 := Lib.hid hB5
  clear hB5 k1 k2 kf hz0 hz1
  have t6 : W3.cell? ⟨B5 + 2, 0, none⟩ = some (.slice (some ⟨B5 + 1, 0, none⟩) cs.length cs.length) := HT3.out.box.cell' 0 rfl
  have t3 : W3.cell? ⟨w.heap.size + 1, 0, none⟩ = some (.int .i64 (f : Int)) := HT3.out.fst.cell' 0 rfl
  have t5 : W3.cell? ⟨B5, 0, none⟩ = some (.int .i64 (s0.many : Int)) := HT3.out.best.cell' 0 rfl
  have t5b : W3.cell? ⟨B5, 1, none⟩ = some (.int .i64 (s0.bits : Int)) := HT3.out.best.cell' 1 rfl
  obtain ⟨r0, r1⟩ := HT3.out.rowCell hf
  have m2 := HT3.out.row.frozen (f * 2)
  have m3 := HT3.out.row.frozen (f * 2 + 1)
  have hT4 := HT3.out.setRow f s0 hzw (by omega) (by omega)
  have HT4 := Lib.hid hT4
  clear hT4
  gi_upto_region 4 with fail
  obtain ⟨W4, hW4⟩ : ∃ W4, (W3.setCell ⟨B5 + 1, f * 2, none⟩ (.int .i64 (s0.many : Int))).setCell ⟨B5 + 1, f * 2 + 1, none⟩ (.int .i64 (s0.bits : Int)) = W4 := ⟨_, rfl⟩
  rw [hW4] at HT4 ⊢
  clear hW4 t6 t3 t5 t5b r0 r1 m2 m3 HT3 HW3 Hz
  have j1 : W4.cell? ⟨w.heap.size, 1, none⟩ = some (.int .i64 (cs.length : Int)) := HT4.out.belt.cell' 1 rfl
  have j2 : W4.cell? ⟨w.heap.size + 1, 0, none⟩ = some (.int .i64 (f : Int)) := HT4.out.fst.cell' 0 rfl
  gi_wp2_with fail
  refine wideCall (around_any _ _ _) ?_
  rintro e w5 ⟨rfl, rfl⟩
  have hb5 : Below W4.heap.size W4 ((W4.alloc (.cells #[.int .i64 (cs.length : Int)] 209)).alloc (.cells #[.int .i64 (f : Int)] 3)) := ((Below.refl _ _).alloc (Nat.le_refl _) _).alloc (by simp) _
  have a1 : ((W4.alloc (.cells #[.int .i64 (cs.length : Int)] 209)).alloc (.cells #[.int .i64 (f : Int)] 3)).cell? ⟨W4.heap.size, 0, none⟩ = some (.int .i64 (cs.length : Int)) := by
    exact ((BoxAt.new W4 #[.int .i64 (cs.length : Int)] 209).next ((Below.refl _ _).alloc (Nat.le_refl _) _)).cell' 0 rfl
  have a2 : ((W4.alloc (.cells #[.int .i64 (cs.length : Int)] 209)).alloc (.cells #[.int .i64 (f : Int)] 3)).cell? ⟨W4.heap.size + 1, 0, none⟩ = some (.int .i64 (f : Int)) := by
    have := (BoxAt.new (W4.alloc (.cells #[.int .i64 (cs.length : Int)] 209)) #[.int .i64 (f : Int)] 3).cell' 0 rfl
    rwa [World.size_alloc] at this
  have hT5 := HT4.out.next hb5
  have hzA : B5 + 2 < W4.heap.size := HT4.out.box.lt
  have hz5 : ((W4.alloc (.cells #[.int .i64 (cs.length : Int)] 209)).alloc (.cells #[.int .i64 (f : Int)] 3)).heap.size = W4.heap.size + 2 := by simp
  gi_wp2_with fail
  obtain ⟨W5, hW5⟩ : ∃ W5, (W4.alloc (.cells #[.int .i64 (cs.length : Int)] 209)).alloc (.cells #[.int .i64 (f : Int)] 3) = W5 := ⟨_, rfl⟩
  rw [hW5] at a1 a2 hT5 hz5 ⊢
  clear hb5 hW5 j1 j2
  obtain ⟨A, hA⟩ : ∃ A, A = W4.heap.size := ⟨_, rfl⟩
  rw [← hA] at a1 a2 hz5 hzA ⊢
  clear hA HT4
  have hI0 : OutI w n g c f B5 A cs [] W5 := by
    have e0 : stay0 cs.length f = ((List.replicate cs.length ⟨0, 0⟩).set f s0, s0) := by rw [← Hs0.out]; rfl
    refine ⟨by rw [show outFold cs (vals (aroundL cs.length f cs.length)) (stay0 cs.length f) (vals []) = ((List.replicate cs.length ⟨0, 0⟩).set f s0, s0) from e0]; exact hT5, fun i => ?_, ?_, by omega⟩
    · rw [show outFold cs (vals (aroundL cs.length f cs.length)) (stay0 cs.length f) (vals []) = ((List.replicate cs.length ⟨0, 0⟩).set f s0, s0) from e0]
      show StOk 1 (nthS ((List.replicate cs.length ⟨0, 0⟩).set f s0) i)
      rw [nthS_set _ _ _ _ (by simpa using hf)]
      split
      · rw [← Hs0.out]; exact stWith_ok ⟨Nat.le_refl 0, by decide⟩
      · refine ⟨?_, ?_⟩
        · have : (nthS (List.replicate cs.length (⟨0, 0⟩ : St)) i).many = 0 := by unfold nthS; rw [List.getElem?_replicate]; split <;> rfl
          rw [this]; omega
        · have : (nthS (List.replicate cs.length (⟨0, 0⟩ : St)) i).bits = 0 := by unfold nthS; rw [List.getElem?_replicate]; split <;> rfl
          rw [this]; decide
    · rw [show outFold cs (vals (aroundL cs.length f cs.length)) (stay0 cs.length f) (vals []) = ((List.replicate cs.length ⟨0, 0⟩).set f s0, s0) from e0]
      show StOk 1 s0
      rw [← Hs0.out]; exact stWith_ok ⟨Nat.le_refl 0, by decide⟩
  have HI0 := Lib.hid hI0
  clear hI0 hT5
  refine wpIn_rangeFunc_ownH rfl (by omega) (gf := 223) (lb := #[.pointer (some ⟨A, 0, none⟩), .pointer (some ⟨A + 1, 0, none⟩)]) rfl trivial (enters_of Try.func223 (by kernel_rfl) rfl)
    (around_stops (nf - 1) A cs.length f (by omega) (by omega) hf W5 a1 a2) (fun h k => h.trans k) (fun W l o o' hl _ _ _ => Keep2.putObj W o' (by omega) (by omega)) (Below.refl _ _) (fun _ => rfl)
    (OutI w n g c f B5 A cs) (fun _ _ _ => False) (OutI.own (by omega)) (fun _ _ _ _ _ hs _ _ => hs) HI0.out
    (fun x a' W => ∃ Bx, A + 1 < Bx ∧ BoxAt W Bx #[.int .i64 (x.1 : Int)] 3 ∧ a' = { tmps := List.toArray (Value.agg #[.int .i64 (n : Int), .int .i64 (cs.length : Int), .slice (some ⟨g, 0, none⟩) cs.length c] :: Value.int .i64 (f : Int) :: Value.pointer (some ⟨w.heap.size, 0, none⟩) :: Value.pointer (some ⟨w.heap.size + 1, 0, none⟩) :: Value.pointer (some ⟨w.heap.size + 1 + 1, 0, none⟩) :: Value.pointer (some ⟨B5, 0, none⟩) :: Value.pointer (some ⟨B5 + 1 + 1, 0, none⟩) :: Value.pointer (some ⟨Bx, 0, none⟩) :: undef :: undef :: Value.agg #[.int .i64 0, .int .i64 0] :: Value.int .i64 (f : Int) :: Value.agg #[.int .i64 (s0.many : Int), .int .i64 (s0.bits : Int)] :: Value.pointer (some ⟨w.heap.size, 2, none⟩) :: Value.slice (some ⟨g, 0, none⟩) cs.length c :: Value.int .i64 (cs.length : Int) :: Value.slice (some ⟨B5 + 1, 0, none⟩) cs.length cs.length :: Value.slice (some ⟨B5 + 1, 0, none⟩) cs.length cs.length :: Value.int .i64 (f : Int) :: Value.agg #[.int .i64 (s0.many : Int), .int .i64 (s0.bits : Int)] :: Value.pointer (some ⟨B5 + 1, f * 2, none⟩) :: Value.pointer (some ⟨w.heap.size, 1, none⟩) :: Value.int .i64 (cs.length : Int) :: Value.int .i64 (f : Int) :: Value.func (.func 223) #[] #[.pointer (some ⟨A, 0, none⟩), .pointer (some ⟨A + 1, 0, none⟩)] :: Value.int .i64 (x.1 : Int) :: undef :: undef :: undef :: undef :: undef :: undef :: undef :: undef :: undef :: undef :: undef :: undef :: undef :: undef :: undef :: undef :: undef :: undef :: undef :: undef :: undef :: undef :: undef :: undef :: undef :: undef :: undef :: undef :: undef :: undef :: undef :: undef :: undef :: undef :: undef :: undef :: undef :: undef :: undef :: undef :: undef :: undef :: undef :: undef :: undef :: undef :: undef :: undef :: undef :: undef :: undef :: undef :: undef :: undef :: undef :: undef :: []), defers := [] })
    (fun x a' _ X Y row hs hg hr => by obtain ⟨Bx, h1, h2, h3⟩ := hs; exact ⟨Bx, h1, h2.own hg (fun r e => (hr r e).2), h3⟩)
    ?assign ?body ?done ?stop
  case assign =>
    rintro l pre x W K hI hK
    gi_wp2
    have hbA : Below W.heap.size W (W.alloc (.cells #[.int .i64 (x.1 : Int)] 3)) := (Below.refl _ _).alloc (Nat.le_refl _) _
    exact hK _ _ (KeepsFrom.of_below hbA) (Keep2.of_below hbA hI.lt) (hI.next hbA) ⟨W.heap.size, hI.lt, BoxAt.new W _ 3, rfl⟩
  case body =>
    rintro l pre x a' W hl ⟨r, hr⟩ hI ⟨Bx, hBx, hX, rfl⟩ hlen
    obtain ⟨a, ha⟩ := x
    have HI := Lib.hid hI
    have HX := Lib.hid hX
    have hn1 : 1 ≤ nf - 1 - 1 := by omega
    have j1 : W.cell? ⟨w.heap.size, 1, none⟩ = some (.int .i64 (cs.length : Int)) := hI.st.belt.cell' 1 rfl
    have j2 : W.cell? ⟨w.heap.size + 1, 0, none⟩ = some (.int .i64 (f : Int)) := hI.st.fst.cell' 0 rfl
    clear hI hX
    gi_wp2_with fail
    refine ⟨trivial, (CallsIn.inRound l (callsIn_wide.2 (around_any _ _ _))).mono ?_⟩
    rintro e w6 ⟨rfl, rfl⟩
    have hb6 : Below W.heap.size W ((W.alloc (.cells #[.int .i64 (cs.length : Int)] 209)).alloc (.cells #[.int .i64 (f : Int)] 3)) := ((Below.refl _ _).alloc (Nat.le_refl _) _).alloc (by simp) _
    have i1 : ((W.alloc (.cells #[.int .i64 (cs.length : Int)] 209)).alloc (.cells #[.int .i64 (f : Int)] 3)).cell? ⟨W.heap.size, 0, none⟩ = some (.int .i64 (cs.length : Int)) := by
      exact ((BoxAt.new W #[.int .i64 (cs.length : Int)] 209).next ((Below.refl _ _).alloc (Nat.le_refl _) _)).cell' 0 rfl
    have i2 : ((W.alloc (.cells #[.int .i64 (cs.length : Int)] 209)).alloc (.cells #[.int .i64 (f : Int)] 3)).cell? ⟨W.heap.size + 1, 0, none⟩ = some (.int .i64 (f : Int)) := by
      have := (BoxAt.new (W.alloc (.cells #[.int .i64 (cs.length : Int)] 209)) #[.int .i64 (f : Int)] 3).cell' 0 rfl
      rwa [World.size_alloc] at this
    have hz6 : ((W.alloc (.cells #[.int .i64 (cs.length : Int)] 209)).alloc (.cells #[.int .i64 (f : Int)] 3)).heap.size = W.heap.size + 2 := by simp
    have hr6 := (hb6.block l (Array.getElem?_eq_some_iff.1 hr).1).trans hr
    have hAW : A + 1 < W.heap.size := HI.out.lt
    have hBW : Bx < W.heap.size := HX.out.lt
    obtain ⟨ss0, hss⟩ : ∃ ss0, (outFold cs (vals (aroundL cs.length f cs.length)) (stay0 cs.length f) (vals pre)).1 = ss0 := ⟨_, rfl⟩
    obtain ⟨best, hbe⟩ : ∃ best, (outFold cs (vals (aroundL cs.length f cs.length)) (stay0 cs.length f) (vals pre)).2 = best := ⟨_, rfl⟩
    have hS := HI.out.st
    have hO := HI.out.ok
    have hOb := HI.out.best
    rw [hss, hbe] at hS
    rw [hss] at hO
    rw [hbe] at hOb
    have Hss := Lib.hid hss
    have Hbe := Lib.hid hbe
    have hJ0 : InI w n g c f B5 A cs W5 W Bx a (pre.length + 1) ss0 best [] ((W.alloc (.cells #[.int .i64 (cs.length : Int)] 209)).alloc (.cells #[.int .i64 (f : Int)] 3)) :=
      ⟨hS.next hb6, ⟨fun i _ => hO i, (hO a).mono (by omega)⟩, by simp [vals], HX.out.next hb6, Keep2.of_below hb6 hAW, KeepsFrom.of_below hb6, by simp⟩
    have hS0 := hS.b.size
    gi_wp2_with fail
    obtain ⟨W6, hW6⟩ : ∃ W6, (W.alloc (.cells #[.int .i64 (cs.length : Int)] 209)).alloc (.cells #[.int .i64 (f : Int)] 3) = W6 := ⟨_, rfl⟩
    rw [hW6] at i1 i2 hz6 hr6 hJ0 ⊢
    have HJ0 := Lib.hid hJ0
    have HO := Lib.hid hO
    clear hb6 hW6 hss hbe hS hJ0 j1 j2 hO
    refine wpIn_rangeFunc_ownN (l₀ := l) (r₀ := r) rfl hr6 hn1 (gf := 223) (lb := #[.pointer (some ⟨W.heap.size, 0, none⟩), .pointer (some ⟨W.heap.size + 1, 0, none⟩)]) rfl trivial (enters_of Try.func223 (by kernel_rfl) rfl)
      ((around_stops (nf - 1 - 1 - 1) W.heap.size cs.length f (by omega) (by omega) hf W6 i1 i2).inRound l) (fun h k => h.trans k) (fun W l o o' hl _ _ _ => Keep2.putObj W o' (by omega) (by omega)) (Below.refl _ _) (fun _ => rfl)
      (InI w n g c f B5 A cs W5 W Bx a (pre.length + 1) ss0 best) (fun c' pre' W' => c' = .exit 2 ∧ ∃ q, pre' = q ++ [⟨a, ha⟩] ∧ InI w n g c f B5 A cs W5 W Bx a (pre.length + 1) ss0 best q W')
      (InI.own (by omega) (by omega) hAW) (fun c' s X Y row h hg hr => by obtain ⟨h1, q, h2, h3⟩ := h; exact ⟨h1, q, h2, InI.own (by omega) (by omega) hAW _ _ _ _ h3 hg hr⟩) HJ0.out
      (fun y a'' _ => a'' = { tmps := List.toArray (Value.agg #[.int .i64 (n : Int), .int .i64 (cs.length : Int), .slice (some ⟨g, 0, none⟩) cs.length c] :: Value.int .i64 (f : Int) :: Value.pointer (some ⟨w.heap.size, 0, none⟩) :: Value.pointer (some ⟨w.heap.size + 1, 0, none⟩) :: Value.pointer (some ⟨w.heap.size + 1 + 1, 0, none⟩) :: Value.pointer (some ⟨B5, 0, none⟩) :: Value.pointer (some ⟨B5 + 1 + 1, 0, none⟩) :: Value.pointer (some ⟨Bx, 0, none⟩) :: Value.int .i64 (y.1 : Int) :: undef :: Value.agg #[.int .i64 0, .int .i64 0] :: Value.int .i64 (f : Int) :: Value.agg #[.int .i64 (s0.many : Int), .int .i64 (s0.bits : Int)] :: Value.pointer (some ⟨w.heap.size, 2, none⟩) :: Value.slice (some ⟨g, 0, none⟩) cs.length c :: Value.int .i64 (cs.length : Int) :: Value.slice (some ⟨B5 + 1, 0, none⟩) cs.length cs.length :: Value.slice (some ⟨B5 + 1, 0, none⟩) cs.length cs.length :: Value.int .i64 (f : Int) :: Value.agg #[.int .i64 (s0.many : Int), .int .i64 (s0.bits : Int)] :: Value.pointer (some ⟨B5 + 1, f * 2, none⟩) :: Value.pointer (some ⟨w.heap.size, 1, none⟩) :: Value.int .i64 (cs.length : Int) :: Value.int .i64 (f : Int) :: Value.func (.func 223) #[] #[.pointer (some ⟨A, 0, none⟩), .pointer (some ⟨A + 1, 0, none⟩)] :: Value.int .i64 (a : Int) :: Value.pointer (some ⟨w.heap.size, 1, none⟩) :: Value.int .i64 (cs.length : Int) :: Value.int .i64 (f : Int) :: Value.func (.func 223) #[] #[.pointer (some ⟨W.heap.size, 0, none⟩), .pointer (some ⟨W.heap.size + 1, 0, none⟩)] :: Value.int .i64 (y.1 : Int) :: undef :: undef :: undef :: undef :: undef :: undef :: undef :: undef :: undef :: undef :: undef :: undef :: undef :: undef :: undef :: undef :: undef :: undef :: undef :: undef :: undef :: undef :: undef :: undef :: undef :: undef :: undef :: undef :: undef :: undef :: undef :: undef :: undef :: undef :: undef :: undef :: undef :: undef :: undef :: undef :: undef :: undef :: undef :: undef :: undef :: undef :: undef :: undef :: undef :: undef :: undef :: []), defers := [] }) (fun _ _ _ _ _ _ hs _ _ => hs)
      ?assign2 ?body2 ?done2 ?stop2
    case assign2 =>
      rintro l2 pre' y W' K hi hK
      gi_wp2
      exact hK _ _ (KeepsFrom.refl _ _) (Keep2.refl _ _) hi rfl
    case body2 =>
      rintro l2 pre' y a'' W' _ _ hJ rfl hlen2
      obtain ⟨b, hb⟩ := y
      have HJ := Lib.hid hJ
      have x0 : W'.cell? ⟨Bx, 0, none⟩ = some (.int .i64 (a : Int)) := hJ.bx.cell' 0 rfl
      by_cases hba : b = a
      · subst hba
        clear hJ
        gi_wp2
        exact ⟨KeepsFrom.refl _ _, rfl, pre', rfl, HJ.out⟩
      · have hne : ((b : Int) == (a : Int)) = false := by rw [beq_eq_false_iff_ne]; omega
        have t6 : W'.cell? ⟨B5 + 2, 0, none⟩ = some (.slice (some ⟨B5 + 1, 0, none⟩) cs.length cs.length) := hJ.st.box.cell' 0 rfl
        have u2 : W'.cell? ⟨w.heap.size, 2, none⟩ = some (.slice (some ⟨g, 0, none⟩) cs.length c) := hJ.st.belt.cell' 2 rfl
        have hcd := Hv.out.next hJ.st.b
        have cb := hcd.at'.c0 b hb
        have ca := hcd.at'.c0 a ha
        obtain ⟨rb0, rb1⟩ := hJ.st.rowCell hb
        obtain ⟨ra0, ra1⟩ := hJ.st.rowCell ha
        obtain ⟨ss, hss⟩ : ∃ ss, inFold cs a ss0 (vals pre') = ss := ⟨_, rfl⟩
        have hokb := hJ.ok.ok b hba
        have hoka := hJ.ok.at'
        rw [hss] at rb0 rb1 ra0 ra1 hokb hoka
        have hst := inStep_eq cs a ss b
        obtain ⟨sb, hsb⟩ : ∃ sb, nthS ss b = sb := ⟨_, rfl⟩
        obtain ⟨sa, hsa⟩ : ∃ sa, nthS ss a = sa := ⟨_, rfl⟩
        obtain ⟨nb, hnb⟩ : ∃ nb, (nthC cs b).num = nb := ⟨_, rfl⟩
        obtain ⟨na, hna⟩ : ∃ na, (nthC cs a).num = na := ⟨_, rfl⟩
        rw [hsb] at rb0 rb1 hokb hst
        rw [hsa] at ra0 ra1 hoka hst
        rw [hnb] at cb hst
        rw [hna] at ca hst
        have Hss2 := Lib.hid hss
        have Hokb := Lib.hid hokb
        have hb0 : (0 : Int) ≤ (b : Int) := by omega
        have hb1 : (b : Int) < (cs.length : Int) := by omega
        have ha0 : (0 : Int) ≤ (a : Int) := by omega
        have ha1 : (a : Int) < (cs.length : Int) := by omega
        clear hJ hcd hss hsb hsa hnb hna hokb
        by_cases hm : sb.many = 0
        · have Hst := Lib.hid (show inStep cs a ss b = ss by rw [hst, if_pos (.inl hm)])
          have hmd : ((sb.many : Int) == 0) = true := by rw [hm]; rfl
          clear hst hm
          gi_wp2_with fail
          (refine wpIn_region_quietR (by kernel_rfl) (by kernel_rfl) (by kernel_rfl) ?_; (repeat (first | gi_big_quiet_skip | (gi_big_quiet_want; gi_big_quiet_op; go_big_quiet_on))); refine wpQuietIn_nil ?_; intro _ hw'; obtain ⟨nq, hw''⟩ := hw'; subst hw'')
          gi_wp2_with fail
          exact ⟨KeepsFrom.of_below (below_drewN _ _ _), Keep2.of_below (below_drewN _ _ _) HJ.out.lt, HJ.out.skip hb hba hAW (by rw [Hss2.out]; exact Hst.out) (below_drewN _ _ _)⟩
        · have hmd : ((sb.many : Int) == 0) = false := by rw [beq_eq_false_iff_ne]; omega
          by_cases hnn : na < nb
          · have Hst := Lib.hid (show inStep cs a ss b = ss by rw [hst, if_pos (.inr hnn)])
            have hnd : decide (na < nb) = true := by simpa using hnn
            clear hst hm hnn
            gi_wp2_with fail
            (refine wpIn_region_quietR (by kernel_rfl) (by kernel_rfl) (by kernel_rfl) ?_; (repeat (first | gi_big_quiet_skip | (gi_big_quiet_want; gi_big_quiet_op; go_big_quiet_on))); refine wpQuietIn_nil ?_; intro _ hw'; obtain ⟨nq, hw''⟩ := hw'; subst hw'')
            gi_wp2_with fail
            exact ⟨KeepsFrom.of_below (below_drewN _ _ _), Keep2.of_below (below_drewN _ _ _) HJ.out.lt, HJ.out.skip hb hba hAW (by rw [Hss2.out]; exact Hst.out) (below_drewN _ _ _)⟩
          · have Hst := Lib.hid (show inStep cs a ss b = if stBetter (stWith sb a) sa then ss.set a (stWith sb a) else ss by rw [hst, if_neg (by omega)])
            have hnd : decide (na < nb) = false := by simpa using hnn
            clear hst hm hnn
            gi_wp2_with fail
            (refine wpIn_region_quietR (by kernel_rfl) (by kernel_rfl) (by kernel_rfl) ?_; (repeat (first | gi_big_quiet_skip | (gi_big_quiet_want; gi_big_quiet_op; go_big_quiet_on))); refine wpQuietIn_nil ?_; intro _ hw'; obtain ⟨nq, hw''⟩ := hw'; subst hw'')
            gi_wp2_with fail
            obtain ⟨X, hX⟩ : ∃ X, W'.drewN nq = X := ⟨_, rfl⟩
            have hbX : Below W'.heap.size W' X := by rw [← hX]; exact below_drewN _ _ _
            rw [hX]
            have hJX := HJ.out.next hbX hAW
            have y0 : X.cell? ⟨Bx, 0, none⟩ = some (.int .i64 (a : Int)) := cell_next hbX x0
            have y6 : X.cell? ⟨B5 + 2, 0, none⟩ = some (.slice (some ⟨B5 + 1, 0, none⟩) cs.length cs.length) := cell_next hbX t6
            have yb0 := cell_next hbX rb0
            have yb1 := cell_next hbX rb1
            have ya0 := cell_next hbX ra0
            have ya1 := cell_next hbX ra1
            have z1 : Bx < X.heap.size := hJX.bx.lt
            have z2 : B5 + 2 < X.heap.size := hJX.st.box.lt
            have z3 : B5 + 1 < X.heap.size := hJX.st.row.lt
            have HbX := Lib.hid hbX
            have HJX := Lib.hid hJX
            have l60 : a < 60 := by omega
            have HWi := fun W => with_any (pre.length + 1) sb a W Hokb.out (by omega) l60
            obtain ⟨sn, hsn⟩ : ∃ sn, stWith sb a = sn := ⟨_, rfl⟩
            simp only [hsn] at HWi Hst
            have Hsn := Lib.hid hsn
            clear hX hbX hJX x0 t6 u2 cb ca rb0 rb1 ra0 ra1 hmd hnd hsn hne
            unfold St.enc at HWi
            gi_cut [9] from 55 (fun s wx => Box10 X sn s wx)
            case first =>
              rename_i J10 K10 hJ10 hK10
              have hmx : Try.prog.follows .mixedOrders = true := by kernel_rfl
              gi_region_with_o (refine roundCall2 (HWi _) ?_; rintro e w7 ⟨rfl, hb7⟩; (first | (have qb : BoxAt w7 X.heap.size #[.int .i64 0, .int .i64 0] 275 := BoxAt.next (W := (X.alloc (.cells #[.int .i64 0, .int .i64 0] 275)).drew) (BoxAt.new X #[.int .i64 0, .int .i64 0] 275) hb7; have q0 : w7.cell? ⟨X.heap.size, 0, none⟩ = some (.int .i64 0) := qb.cell' 0 rfl; have q1 : w7.cell? ⟨X.heap.size, 1, none⟩ = some (.int .i64 0) := qb.cell' 1 rfl; have q2 := qb.frozen 0; have q3 := qb.frozen 1) | skip))
              all_goals refine hK10 _ _ (Met.intro (hJ10 _ _ ?_))
              all_goals (repeat apply Exists.intro)
              all_goals first | exact ⟨box10_a sn hb7, rfl⟩ | exact ⟨box10_b sn hb7, rfl⟩
            case rest =>
              obtain ⟨Y, rfl, hY, hBY, hbc⟩ := hcut
              have v0 : wc.cell? ⟨Bx, 0, none⟩ = some (.int .i64 (a : Int)) := cell_next hbc y0
              have v6 : wc.cell? ⟨B5 + 2, 0, none⟩ = some (.slice (some ⟨B5 + 1, 0, none⟩) cs.length cs.length) := cell_next hbc y6
              have va0 := cell_next hbc ya0
              have va1 := cell_next hbc ya1
              have v9 : wc.cell? ⟨Y, 0, none⟩ = some (.int .i64 (sn.many : Int)) := hBY.cell' 0 rfl
              have v9b : wc.cell? ⟨Y, 1, none⟩ = some (.int .i64 (sn.bits : Int)) := hBY.cell' 1 rfl
              have z1 : Bx < wc.heap.size := Nat.lt_of_lt_of_le z1 hbc.size
              have z2 : B5 + 2 < wc.heap.size := Nat.lt_of_lt_of_le z2 hbc.size
              have z3 : B5 + 1 < wc.heap.size := Nat.lt_of_lt_of_le z3 hbc.size
              have HBY := Lib.hid hBY
              have HJc := Lib.hid (HJX.out.next hbc hAW)
              have HbC := Lib.hid (HbX.out.trans (hbc.mono HbX.out.size))
              have HIb := fun W => isBetter_any sn sa W
              unfold St.enc at HIb
              clear hBY hbc y0 y6 yb0 yb1 ya0 ya1 HbX HJX
              gi_upto_region 11 with fail
              gi_cut [66] from 61 (fun s wx => Is11 wc (stBetter sn sa) s wx)
              case first =>
                rename_i J11 K11 hJ11 hK11
                have hmx : Try.prog.follows .mixedOrders = true := by kernel_rfl
                gi_region_with_o (refine roundCall2 (HIb _) ?_; rintro e w8 ⟨rfl, hb8⟩)
                all_goals refine hK11 _ _ (Met.intro (hJ11 _ _ ?_))
                all_goals (repeat apply Exists.intro)
                all_goals exact ⟨is11 hb8, rfl⟩
              case rest =>
                obtain ⟨rfl, hbd⟩ := hcut
                have hJd := HJc.out.next hbd hAW
                have HbD := Lib.hid (HbC.out.trans (hbd.mono HbC.out.size))
                have v0 : wc.cell? ⟨Bx, 0, none⟩ = some (.int .i64 (a : Int)) := cell_next hbd v0
                have v6 : wc.cell? ⟨B5 + 2, 0, none⟩ = some (.slice (some ⟨B5 + 1, 0, none⟩) cs.length cs.length) := cell_next hbd v6
                have va0 := cell_next hbd va0
                have va1 := cell_next hbd va1
                have v9 := cell_next hbd v9
                have v9b := cell_next hbd v9b
                have m0 := hJd.st.row.frozen (a * 2)
                have m1 := hJd.st.row.frozen (a * 2 + 1)
                have HJd := Lib.hid hJd
                have Hzz := Lib.hid (show B5 + 2 < A from hzA)
                cases hbt : stBetter sn sa with
                | true =>
                  have HSt := Lib.hid (HJd.out.store hb hba ha hzw hzA hBx sn (by rw [Hss2.out, Hst.out, hbt]; rfl))
                  clear hbd hJd hbt
                  gi_wp2_with fail
                  have e1 := (KeepsFrom.of_below (B := W6.heap.size) HbD.out).trans (((KeepsOthers.setCell wc ⟨B5 + 1, a * 2, none⟩ (.int .i64 (sn.many : Int))).from _).trans ((KeepsOthers.setCell _ ⟨B5 + 1, a * 2 + 1, none⟩ (.int .i64 (sn.bits : Int))).from _))
                  have e2 := (Keep2.of_below (A := W.heap.size) HbD.out HJ.out.lt).trans ((Keep2.setCell wc ⟨B5 + 1, a * 2, none⟩ (.int .i64 (sn.many : Int)) (by simp; omega) (by simp; omega)).trans (Keep2.setCell _ ⟨B5 + 1, a * 2 + 1, none⟩ (.int .i64 (sn.bits : Int)) (by simp; omega) (by simp; omega)))
                  exact ⟨e1, e2, HSt.out⟩
                | false =>
                  have HSt := Lib.hid (HJd.out.skip hb hba hAW (by rw [Hss2.out, Hst.out, hbt]; rfl) (Below.refl _ _))
                  clear hbd hJd hbt
                  gi_wp2_with fail
                  exact ⟨KeepsFrom.of_below HbD.out, Keep2.of_below HbD.out HJ.out.lt, HSt.out⟩
    case done2 =>
      rintro ys' W' rfl hJ
      obtain ⟨q, hq⟩ : ∃ q, q = aroundL cs.length f cs.length := ⟨_, rfl⟩
      have hqq : (vals (aroundL cs.length f cs.length)).takeWhile (· != a) = vals q := by rw [hq]; exact takeWhile_of_not hJ.ni
      rw [← hq] at hJ
      clear hq
      have hsq : (outFold cs (vals (aroundL cs.length f cs.length)) (stay0 cs.length f) (vals (pre ++ [⟨a, ha⟩]))) = (inFold cs a ss0 (vals q), if stBetter (nthS (inFold cs a ss0 (vals q)) a) best then nthS (inFold cs a ss0 (vals q)) a else best) := by
        rw [vals_snoc, outFold_snoc]; unfold outStep; rw [hqq, Hss.out, Hbe.out]
      have hokq := hJ.ok
      have x0 : W'.cell? ⟨Bx, 0, none⟩ = some (.int .i64 (a : Int)) := hJ.bx.cell' 0 rfl
      have t6 : W'.cell? ⟨B5 + 2, 0, none⟩ = some (.slice (some ⟨B5 + 1, 0, none⟩) cs.length cs.length) := hJ.st.box.cell' 0 rfl
      have t5 : W'.cell? ⟨B5, 0, none⟩ = some (.int .i64 (best.many : Int)) := hJ.st.best.cell' 0 rfl
      have t5b : W'.cell? ⟨B5, 1, none⟩ = some (.int .i64 (best.bits : Int)) := hJ.st.best.cell' 1 rfl
      obtain ⟨ra0, ra1⟩ := hJ.st.rowCell ha
      have hAl : A + 1 < W'.heap.size := by have := hJ.kp.size; omega
      obtain ⟨ss, hss2⟩ : ∃ ss, inFold cs a ss0 (vals q) = ss := ⟨_, rfl⟩
      rw [hss2] at hsq hokq ra0 ra1
      obtain ⟨sa, hsa⟩ : ∃ sa, nthS ss a = sa := ⟨_, rfl⟩
      rw [hsa] at hsq ra0 ra1
      have hSt := hJ.st
      rw [hss2] at hSt
      have HSq := Lib.hid hsq
      have HokQ := Lib.hid hokq
      have HSt := Lib.hid hSt
      have Hsa := Lib.hid hsa
      have HJ := Lib.hid hJ
      have ha0 : (0 : Int) ≤ (a : Int) := by omega
      have ha1 : (a : Int) < (cs.length : Int) := by omega
      have z1 : Bx < W'.heap.size := hJ.bx.lt
      have z2 : B5 + 2 < W'.heap.size := hJ.st.box.lt
      have z3 : B5 + 1 < W'.heap.size := hJ.st.row.lt
      have HIb := fun W => isBetter_any sa best W
      unfold St.enc at HIb
      clear hJ hSt hsa hss2 hsq hokq hqq
      gi_upto_region 13 with fail
      gi_cut [76] from 71 (fun s wx => Is11 W' (stBetter sa best) s wx)
      case first =>
        rename_i J11 K11 hJ11 hK11
        have hmx : Try.prog.follows .mixedOrders = true := by kernel_rfl
        gi_region_with_o ((first | refine roundCall0 (HIb _) ?_ | refine roundCall (HIb _) ?_); rintro e w8 ⟨rfl, hb8⟩)
        all_goals refine hK11 _ _ (Met.intro (hJ11 _ _ ?_))
        all_goals (repeat apply Exists.intro)
        all_goals exact ⟨is11 hb8, rfl⟩
      case rest =>
        obtain ⟨rfl, hbd⟩ := hcut
        have hSd := HSt.out.next hbd
        have v0 : wc.cell? ⟨Bx, 0, none⟩ = some (.int .i64 (a : Int)) := cell_next hbd x0
        have v6 : wc.cell? ⟨B5 + 2, 0, none⟩ = some (.slice (some ⟨B5 + 1, 0, none⟩) cs.length cs.length) := cell_next hbd t6
        have va0 := cell_next hbd ra0
        have va1 := cell_next hbd ra1
        have m4 := cell_next hbd t5
        have m5 := cell_next hbd t5b
        have m0 := hSd.best.frozen 0
        have m1 := hSd.best.frozen 1
        have HSd := Lib.hid hSd
        have hkf := HJ.out.kf.trans (KeepsFrom.of_below (B := W5.heap.size) hbd)
        have hkp := HJ.out.kp.trans (Keep2.of_below (A := A) hbd hAl)
        have HKf := Lib.hid hkf
        have HKp := Lib.hid hkp
        have hAd : A + 1 < wc.heap.size := Nat.lt_of_lt_of_le hAl hbd.size
        cases hbt : stBetter sa best with
        | true =>
          have HSb := Lib.hid (HSd.out.setBest sa hzw (by omega) (by omega))
          have HSq2 := Lib.hid (show (outFold cs (vals (aroundL cs.length f cs.length)) (stay0 cs.length f) (vals (pre ++ [⟨a, ha⟩]))) = (ss, sa) by rw [HSq.out, hbt]; rfl)
          clear hbd hSd hbt hkf hkp
          gi_wp2_with fail
          have e1 := HKf.out.trans (((KeepsOthers.setCell wc ⟨B5, 0, none⟩ (.int .i64 (sa.many : Int))).from W5.heap.size).trans ((KeepsOthers.setCell _ ⟨B5, 1, none⟩ (.int .i64 (sa.bits : Int))).from _))
          have e2 := HKp.out.trans ((Keep2.setCell wc ⟨B5, 0, none⟩ (.int .i64 (sa.many : Int)) (by simp; omega) (by simp; omega)).trans (Keep2.setCell _ ⟨B5, 1, none⟩ (.int .i64 (sa.bits : Int)) (by simp; omega) (by simp; omega)))
          exact ⟨e1, e2, ⟨by rw [HSq2.out]; exact HSb.out, fun i => by rw [HSq2.out]; exact stAll_any HokQ.out (by simp) i, by rw [HSq2.out, ← Hsa.out]; exact stAll_any HokQ.out (by simp) a, by simpa using hAd⟩⟩
        | false =>
          have HSq2 := Lib.hid (show (outFold cs (vals (aroundL cs.length f cs.length)) (stay0 cs.length f) (vals (pre ++ [⟨a, ha⟩]))) = (ss, best) by rw [HSq.out, hbt]; rfl)
          clear hbd hSd hbt hkf hkp
          gi_wp2_with fail
          exact ⟨HKf.out, HKp.out, ⟨by rw [HSq2.out]; exact HSd.out, fun i => by rw [HSq2.out]; exact stAll_any HokQ.out (by simp) i, by rw [HSq2.out]; exact hOb.mono (by simp), hAd⟩⟩
    case stop2 =>
      rintro c' pre' W' hSp ⟨rfl, q, rfl, hJ⟩
      have hqq : (vals (aroundL cs.length f cs.length)).takeWhile (· != a) = vals q := takeWhile_of_pre (by have := vals_pre hSp; rwa [vals_snoc] at this) hJ.ni
      clear hSp
      have hsq : (outFold cs (vals (aroundL cs.length f cs.length)) (stay0 cs.length f) (vals (pre ++ [⟨a, ha⟩]))) = (inFold cs a ss0 (vals q), if stBetter (nthS (inFold cs a ss0 (vals q)) a) best then nthS (inFold cs a ss0 (vals q)) a else best) := by
        rw [vals_snoc, outFold_snoc]; unfold outStep; rw [hqq, Hss.out, Hbe.out]
      have hokq := hJ.ok
      have x0 : W'.cell? ⟨Bx, 0, none⟩ = some (.int .i64 (a : Int)) := hJ.bx.cell' 0 rfl
      have t6 : W'.cell? ⟨B5 + 2, 0, none⟩ = some (.slice (some ⟨B5 + 1, 0, none⟩) cs.length cs.length) := hJ.st.box.cell' 0 rfl
      have t5 : W'.cell? ⟨B5, 0, none⟩ = some (.int .i64 (best.many : Int)) := hJ.st.best.cell' 0 rfl
      have t5b : W'.cell? ⟨B5, 1, none⟩ = some (.int .i64 (best.bits : Int)) := hJ.st.best.cell' 1 rfl
      obtain ⟨ra0, ra1⟩ := hJ.st.rowCell ha
      have hAl : A + 1 < W'.heap.size := by have := hJ.kp.size; omega
      obtain ⟨ss, hss2⟩ : ∃ ss, inFold cs a ss0 (vals q) = ss := ⟨_, rfl⟩
      rw [hss2] at hsq hokq ra0 ra1
      obtain ⟨sa, hsa⟩ : ∃ sa, nthS ss a = sa := ⟨_, rfl⟩
      rw [hsa] at hsq ra0 ra1
      have hSt := hJ.st
      rw [hss2] at hSt
      have HSq := Lib.hid hsq
      have HokQ := Lib.hid hokq
      have HSt := Lib.hid hSt
      have Hsa := Lib.hid hsa
      have HJ := Lib.hid hJ
      have ha0 : (0 : Int) ≤ (a : Int) := by omega
      have ha1 : (a : Int) < (cs.length : Int) := by omega
      have z1 : Bx < W'.heap.size := hJ.bx.lt
      have z2 : B5 + 2 < W'.heap.size := hJ.st.box.lt
      have z3 : B5 + 1 < W'.heap.size := hJ.st.row.lt
      have HIb := fun W => isBetter_any sa best W
      unfold St.enc at HIb
      clear hJ hSt hsa hss2 hsq hokq hqq
      gi_upto_region 13 with fail
      gi_cut [76] from 71 (fun s wx => Is11 W' (stBetter sa best) s wx)
      case first =>
        rename_i J11 K11 hJ11 hK11
        have hmx : Try.prog.follows .mixedOrders = true := by kernel_rfl
        gi_region_with_o ((first | refine roundCall0 (HIb _) ?_ | refine roundCall (HIb _) ?_); rintro e w8 ⟨rfl, hb8⟩)
        all_goals refine hK11 _ _ (Met.intro (hJ11 _ _ ?_))
        all_goals (repeat apply Exists.intro)
        all_goals exact ⟨is11 hb8, rfl⟩
      case rest =>
        obtain ⟨rfl, hbd⟩ := hcut
        have hSd := HSt.out.next hbd
        have v0 : wc.cell? ⟨Bx, 0, none⟩ = some (.int .i64 (a : Int)) := cell_next hbd x0
        have v6 : wc.cell? ⟨B5 + 2, 0, none⟩ = some (.slice (some ⟨B5 + 1, 0, none⟩) cs.length cs.length) := cell_next hbd t6
        have va0 := cell_next hbd ra0
        have va1 := cell_next hbd ra1
        have m4 := cell_next hbd t5
        have m5 := cell_next hbd t5b
        have m0 := hSd.best.frozen 0
        have m1 := hSd.best.frozen 1
        have HSd := Lib.hid hSd
        have hkf := HJ.out.kf.trans (KeepsFrom.of_below (B := W5.heap.size) hbd)
        have hkp := HJ.out.kp.trans (Keep2.of_below (A := A) hbd hAl)
        have HKf := Lib.hid hkf
        have HKp := Lib.hid hkp
        have hAd : A + 1 < wc.heap.size := Nat.lt_of_lt_of_le hAl hbd.size
        cases hbt : stBetter sa best with
        | true =>
          have HSb := Lib.hid (HSd.out.setBest sa hzw (by omega) (by omega))
          have HSq2 := Lib.hid (show (outFold cs (vals (aroundL cs.length f cs.length)) (stay0 cs.length f) (vals (pre ++ [⟨a, ha⟩]))) = (ss, sa) by rw [HSq.out, hbt]; rfl)
          clear hbd hSd hbt hkf hkp
          gi_wp2_with fail
          have e1 := HKf.out.trans (((KeepsOthers.setCell wc ⟨B5, 0, none⟩ (.int .i64 (sa.many : Int))).from W5.heap.size).trans ((KeepsOthers.setCell _ ⟨B5, 1, none⟩ (.int .i64 (sa.bits : Int))).from _))
          have e2 := HKp.out.trans ((Keep2.setCell wc ⟨B5, 0, none⟩ (.int .i64 (sa.many : Int)) (by simp; omega) (by simp; omega)).trans (Keep2.setCell _ ⟨B5, 1, none⟩ (.int .i64 (sa.bits : Int)) (by simp; omega) (by simp; omega)))
          exact ⟨e1, e2, ⟨by rw [HSq2.out]; exact HSb.out, fun i => by rw [HSq2.out]; exact stAll_any HokQ.out (by simp) i, by rw [HSq2.out, ← Hsa.out]; exact stAll_any HokQ.out (by simp) a, by simpa using hAd⟩⟩
        | false =>
          have HSq2 := Lib.hid (show (outFold cs (vals (aroundL cs.length f cs.length)) (stay0 cs.length f) (vals (pre ++ [⟨a, ha⟩]))) = (ss, best) by rw [HSq.out, hbt]; rfl)
          clear hbd hSd hbt hkf hkp
          gi_wp2_with fail
          exact ⟨HKf.out, HKp.out, ⟨by rw [HSq2.out]; exact HSd.out, fun i => by rw [HSq2.out]; exact stAll_any HokQ.out (by simp) i, by rw [HSq2.out]; exact hOb.mono (by simp), hAd⟩⟩
  case done =>
    rintro D zs W hD rfl hI hK
    have t5 : W.cell? ⟨B5, 0, none⟩ = some (.int .i64 ((outFold cs (vals (aroundL cs.length f cs.length)) (stay0 cs.length f) (vals (aroundL cs.length f cs.length))).2.many : Int)) := hI.st.best.cell' 0 rfl
    have t5b : W.cell? ⟨B5, 1, none⟩ = some (.int .i64 ((outFold cs (vals (aroundL cs.length f cs.length)) (stay0 cs.length f) (vals (aroundL cs.length f cs.length))).2.bits : Int)) := hI.st.best.cell' 1 rfl
    have r0 : W.cell? ⟨w.heap.size + 2, 0, none⟩ = some (.int .i64 0) := hI.st.res.cell' 0 rfl
    have r1 : W.cell? ⟨w.heap.size + 2, 1, none⟩ = some (.int .i64 0) := hI.st.res.cell' 1 rfl
    have f0 := hI.st.res.frozen 0
    have f1 := hI.st.res.frozen 1
    obtain ⟨S, hS⟩ : ∃ S, (outFold cs (vals (aroundL cs.length f cs.length)) (stay0 cs.length f) (vals (aroundL cs.length f cs.length))).2 = S := ⟨_, rfl⟩
    have HSe := Lib.hid (show stayN cs f = S from hS)
    rw [hS] at t5 t5b
    have HI := Lib.hid hI
    clear hI hS
    gi_wp2
    refine ⟨by simp, .inl ⟨_, _, rfl, run_takeDeferred (((KeepsOthers.setCell W ⟨w.heap.size + 1 + 1, 0, none⟩ (.int .i64 (S.many : Int))).trans (KeepsOthers.setCell _ ⟨w.heap.size + 1 + 1, 1, none⟩ (.int .i64 (S.bits : Int)))).same D _ hK rfl), ?_⟩⟩
    have hK' : ((W.setCell ⟨w.heap.size + 1 + 1, 0, none⟩ (.int .i64 (S.many : Int))).setCell ⟨w.heap.size + 1 + 1, 1, none⟩ (.int .i64 (S.bits : Int))).heap[D]? = some (.deferred (some [])) := ((KeepsOthers.setCell W ⟨w.heap.size + 1 + 1, 0, none⟩ (.int .i64 (S.many : Int))).trans (KeepsOthers.setCell _ ⟨w.heap.size + 1 + 1, 1, none⟩ (.int .i64 (S.bits : Int)))).same D _ hK rfl
    have hg := grownBy_putObj' ((W.setCell ⟨w.heap.size + 1 + 1, 0, none⟩ (.int .i64 (S.many : Int))).setCell ⟨w.heap.size + 1 + 1, 1, none⟩ (.int .i64 (S.bits : Int))) D (.deferred none)
    have hbx := ((HI.out.st.res.set 0 (.int .i64 (S.many : Int))).set 1 (.int .i64 (S.bits : Int))).own hg (fun r e => by cases e; exact ⟨_, hK', rfl⟩)
    have hk0 : (((W.setCell ⟨w.heap.size + 1 + 1, 0, none⟩ (.int .i64 (S.many : Int))).setCell ⟨w.heap.size + 1 + 1, 1, none⟩ (.int .i64 (S.bits : Int))).putObj D (.deferred none)).cell? ⟨w.heap.size + 2, 0, none⟩ = some (.int .i64 (S.many : Int)) := hbx.cell' 0 rfl
    have hk1 : (((W.setCell ⟨w.heap.size + 1 + 1, 0, none⟩ (.int .i64 (S.many : Int))).setCell ⟨w.heap.size + 1 + 1, 1, none⟩ (.int .i64 (S.bits : Int))).putObj D (.deferred none)).cell? ⟨w.heap.size + 2, 1, none⟩ = some (.int .i64 (S.bits : Int)) := hbx.cell' 1 rfl
    have hb2 : Below w.heap.size w ((W.setCell ⟨w.heap.size + 1 + 1, 0, none⟩ (.int .i64 (S.many : Int))).setCell ⟨w.heap.size + 1 + 1, 1, none⟩ (.int .i64 (S.bits : Int))) := (HI.out.st.b.setCell (by simp; omega) _).setCell (by simp; omega) _
    have hbl := hb2.grown hg hb2.size (fun k e => by cases e; omega)
    refine ⟨S.enc, ?_, by rw [HSe.out], hbl⟩
    simp [results, Try.f218, go_sem, hk0, hk1, St.enc]
  case stop =>
    rintro D c pre W _ _ h _
    exact h.elim
end Go.Proofs.Ytdmgffoikebgkaa
