/- moved, Moved: the places of the cards that do not stay. -/
import Derived.Test.YtdmgffoikebgkaaCH
namespace Go.Proofs.Ytdmgffoikebgkaa
open Go.RowKit Go.Shelf
attribute [local go_sem] Oper.semAt_some

theorem nthS_bits {ss : List St} (h : ∀ s ∈ ss, s.bits < 2 ^ 60) (i : Nat) : (nthS ss i).bits < 2 ^ 60 := by
  unfold nthS
  cases e : ss[i]? with
  | none => decide
  | some s => exact h s (List.mem_of_getElem? e)
theorem stWith_bits {s : St} (a : Nat) (h : s.bits < 2 ^ 60) : (stWith s a).bits < 2 ^ 60 := Nat.or_lt_two_pow h (Nat.pow_lt_pow_right (by decide) (by omega))
theorem inStep_bits {cs : List Card} {a b : Nat} {ss : List St} (h : ∀ s ∈ ss, s.bits < 2 ^ 60) : ∀ s ∈ inStep cs a ss b, s.bits < 2 ^ 60 := by
  intro s hs
  unfold inStep at hs
  split at hs
  · exact h s hs
  · split at hs
    · rcases List.mem_or_eq_of_mem_set hs with h1 | rfl
      · exact h s h1
      · exact stWith_bits a (nthS_bits h b)
    · exact h s hs
theorem inFold_bits {cs : List Card} {a : Nat} : ∀ (bs : List Nat) {ss : List St}, (∀ s ∈ ss, s.bits < 2 ^ 60) → ∀ s ∈ inFold cs a ss bs, s.bits < 2 ^ 60
  | [], _, h => h
  | b :: bs, ss, h => inFold_bits (cs := cs) (a := a) bs (ss := inStep cs a ss b) (inStep_bits h)
theorem outFold_bits {cs : List Card} {xs : List Nat} : ∀ (zs : List Nat) {S : List St × St}, (∀ s ∈ S.1, s.bits < 2 ^ 60) → S.2.bits < 2 ^ 60 → (outFold cs xs S zs).2.bits < 2 ^ 60
  | [], _, _, h => h
  | z :: zs, S, h1, h2 => by
    have hi := inFold_bits (cs := cs) (a := z) (xs.takeWhile (· != z)) h1
    refine outFold_bits zs (S := outStep cs xs S z) hi ?_
    show (if stBetter (nthS _ z) S.2 then nthS _ z else S.2).bits < 2 ^ 60
    split
    · exact nthS_bits hi z
    · exact h2
theorem stayN_bits (cs : List Card) (f : Nat) : (stayN cs f).bits < 2 ^ 60 := by
  refine outFold_bits _ ?_ (stWith_bits f (by decide))
  intro s hs
  rcases List.mem_or_eq_of_mem_set hs with h1 | rfl
  · rw [List.eq_of_mem_replicate h1]; decide
  · exact stWith_bits f (by decide)
/-- the best cards that stay, of the first k ones that do -/
def bestTo (cs : List Card) : Nat → St
  | 0 => ⟨0, 0⟩
  | k + 1 => if stBetter (stayN cs k) (bestTo cs k) then stayN cs k else bestTo cs k
theorem bestTo_bits (cs : List Card) : ∀ k, (bestTo cs k).bits < 2 ^ 60
  | 0 => by show (0 : Nat) < 2 ^ 60; decide
  | k + 1 => by
    unfold bestTo
    split
    · exact stayN_bits _ _
    · exact bestTo_bits cs k
/-- the places below k that are not among those -/
def movedTo (s : St) (k : Nat) : List Nat := (List.range k).filter fun i => !stHas s i
theorem movedTo_succ (s : St) (k : Nat) : movedTo s (k + 1) = movedTo s k ++ if stHas s k then [] else [k] := by
  unfold movedTo
  rw [List.range_succ, List.filter_append]
  cases h : stHas s k <;> simp [h]
theorem movedTo_len (s : St) (k : Nat) : (movedTo s k).length ≤ k := by
  have := List.length_filter_le (fun i => !stHas s i) (List.range k)
  simpa [movedTo] using this
def movedN (cs : List Card) : List Nat := movedTo (bestTo cs cs.length) cs.length
/-- what moved keeps -/
structure MvAt (w0 : World) (n g c l : Nat) (s : St) (v : Value) (rows : List Nat) (W : World) : Prop where
  belt : BoxAt W w0.heap.size #[.int .i64 (n : Int), .int .i64 (l : Int), .slice (some ⟨g, 0, none⟩) l c] 211
  best : BoxAt W (w0.heap.size + 1) s.cells 275
  row : W.ownsRow (w0.heap.size + 2) 3 1 v rows.length (rows.map natV)
  b : Below w0.heap.size w0 W
theorem MvAt.next {w0 W W' : World} {n g c l : Nat} {s : St} {v : Value} {rows : List Nat} (h : MvAt w0 n g c l s v rows W) (hb : Below W.heap.size W W') : MvAt w0 n g c l s v rows W' :=
  ⟨h.belt.next hb, h.best.next hb, own_next h.row hb, h.b.trans (hb.mono h.b.size)⟩
theorem MvAt.size {w0 W : World} {n g c l : Nat} {s : St} {v : Value} {rows : List Nat} (h : MvAt w0 n g c l s v rows W) : w0.heap.size + 2 ≤ W.heap.size := h.best.lt
theorem MvAt.grew {w0 W W' : World} {n g c l g5 cap z : Nat} {s : St} {v : Value} {rows : List Nat} (h : MvAt w0 n g c l s v rows W) (hg : Grew (w0.heap.size + 2) 3 1 W W' v g5 cap (rows.length + 1) (rows.map natV ++ [.int .i64 (z : Int)])) :
    MvAt w0 n g c l s (.slice (some ⟨g5, 0, none⟩) (rows.length + 1) cap) (rows ++ [z]) W' := by
  have hn : ∀ j, j < w0.heap.size + 2 → some j ≠ v.ownBlock := fun j hj => own_far h.row hj
  exact ⟨h.belt.kept hg.grow (hn _ (by omega)), h.best.kept hg.grow (hn _ (by omega)), by have := hg.row; rw [List.length_append, List.length_singleton, List.map_append]; exact this, h.b.grown hg.grow h.b.size (fun j hj => by have := (ownBlock_ge h.row hj).1; omega)⟩
theorem MvAt.setBest {w0 W : World} {n g c l : Nat} {s : St} (h : MvAt w0 n g c l s (.slice none 0 0) [] W) (t : St) :
    MvAt w0 n g c l t (.slice none 0 0) [] ((W.setCell ⟨w0.heap.size + 1, 0, none⟩ (.int .i64 (t.many : Int))).setCell ⟨w0.heap.size + 1, 1, none⟩ (.int .i64 (t.bits : Int))) :=
  ⟨(h.belt.other _ _ (by simp)).other _ _ (by simp), (h.best.set 0 (.int .i64 (t.many : Int))).set 1 (.int .i64 (t.bits : Int)), World.ownsRow_nil _ _ _ _, (h.b.setCell (by simp) _).setCell (by simp) _⟩

set_option maxRecDepth 100000 in
set_option maxHeartbeats 2000000 in
theorem moved_any (n g c : Nat) (cs : List Card) (w : World) (hv : BAt w g n cs) :
    Calls Try.prog 194 #[.agg #[.int .i64 (n : Int), .int .i64 (cs.length : Int), .slice (some ⟨g, 0, none⟩) cs.length c]] w fun e w' =>
      ∃ v, e = .returned v ∧ w'.ownsRow w.heap.size 3 1 v (movedN cs).length ((movedN cs).map natV) ∧ Below w.heap.size w w' := by
  have l1 := hv.ok.l1
  have l0 := hv.ok.l0
  have hM0 : MvAt w n g c cs.length (bestTo cs 0) (.slice none 0 0) [] ((w.alloc (.cells #[.int .i64 (n : Int), .int .i64 (cs.length : Int), .slice (some ⟨g, 0, none⟩) cs.length c] 211)).alloc (.cells #[.int .i64 0, .int .i64 0] 275)) := by
    refine ⟨(BoxAt.new _ _ _).below ((Below.refl (w.heap.size + 1) _).alloc (by simp) _) (by omega), ?_, World.ownsRow_nil _ _ _ _, ((Below.refl _ _).alloc (Nat.le_refl _) _).alloc (by simp) _⟩
    have := BoxAt.new (w.alloc (.cells #[.int .i64 (n : Int), .int .i64 (cs.length : Int), .slice (some ⟨g, 0, none⟩) cs.length c] 211)) #[.int .i64 0, .int .i64 0] 275
    rwa [World.size_alloc] at this
  have HM0 := Lib.hid hM0
  have Hv := Lib.hid hv
  clear hv hM0
  go_enter Try.func194, Try.ntmps194
  go_wp2_with fail
  go_loopw [11] (fun i wr => ∃ k : Nat, k ≤ cs.length ∧ i = .int .i64 k ∧ MvAt w n g c cs.length (bestTo cs k) (.slice none 0 0) [] wr) (fun i _ => cs.length - (intOf i).toNat)
  case atStart => exact ⟨0, Nat.zero_le _, rfl, HM0.out⟩
  case round =>
    obtain ⟨k, hk, rfl, hT⟩ := hrel
    clear HM0
    obtain ⟨S, hS⟩ : ∃ S, bestTo cs k = S := ⟨_, rfl⟩
    rw [hS] at hT
    have Hsc := Lib.hid (show bestTo cs (k + 1) = if stBetter (stayN cs k) S then stayN cs k else S by rw [← hS]; rfl)
    have HS := Lib.hid hS
    clear hS
    by_cases hlt : k < cs.length
    · have HC := Lib.hid (stay_any n g c k cs wr (Hv.out.next hT.b) hlt)
      have b0 : wr.cell? ⟨w.heap.size, 0, none⟩ = some (.int .i64 (n : Int)) := hT.belt.cell' 0 rfl
      have b1 : wr.cell? ⟨w.heap.size, 1, none⟩ = some (.int .i64 (cs.length : Int)) := hT.belt.cell' 1 rfl
      have b2 : wr.cell? ⟨w.heap.size, 2, none⟩ = some (.slice (some ⟨g, 0, none⟩) cs.length c) := hT.belt.cell' 2 rfl
      have HT := Lib.hid hT
      clear hT
      go_wp2_with fail
      refine HC.out.mono ?_
      rintro e w3 ⟨rfl, hb3⟩
      obtain ⟨sk, hsk⟩ : ∃ sk, stayN cs k = sk := ⟨_, rfl⟩
      rw [hsk] at Hsc ⊢
      have hT3 := HT.out.next hb3
      have a0 : w3.cell? ⟨w.heap.size + 1, 0, none⟩ = some (.int .i64 (S.many : Int)) := hT3.best.cell' 0 rfl
      have a1 : w3.cell? ⟨w.heap.size + 1, 1, none⟩ = some (.int .i64 (S.bits : Int)) := hT3.best.cell' 1 rfl
      have hz : w.heap.size + 1 < w3.heap.size := hT3.size
      have HIb := fun W => isBetter_any sk S W
      have HT3 := Lib.hid hT3
      unfold St.enc at HIb ⊢
      clear hb3 hT3 hsk
      go_wp2_with fail
      refine (HIb _).mono ?_
      rintro e w4 ⟨rfl, hb4⟩
      have hbx : Below w3.heap.size w3 w4 := ((Below.refl w3.heap.size w3).alloc (Nat.le_refl _) (.cells #[.int .i64 (sk.many : Int), .int .i64 (sk.bits : Int)] 275)).trans (hb4.mono (by simp))
      have hn5 := BoxAt.next (BoxAt.new w3 #[.int .i64 (sk.many : Int), .int .i64 (sk.bits : Int)] 275) hb4
      have c0 : w4.cell? ⟨w3.heap.size, 0, none⟩ = some (.int .i64 (sk.many : Int)) := hn5.cell' 0 rfl
      have c1 : w4.cell? ⟨w3.heap.size, 1, none⟩ = some (.int .i64 (sk.bits : Int)) := hn5.cell' 1 rfl
      have hT4 := HT3.out.next hbx
      have f0 := hT4.best.frozen 0
      have f1 := hT4.best.frozen 1
      have g0 : w4.cell? ⟨w.heap.size + 1, 0, none⟩ = some (.int .i64 (S.many : Int)) := hT4.best.cell' 0 rfl
      have g1 : w4.cell? ⟨w.heap.size + 1, 1, none⟩ = some (.int .i64 (S.bits : Int)) := hT4.best.cell' 1 rfl
      have HT4 := Lib.hid hT4
      clear hT4 hb4 hbx hn5
      cases hbt : stBetter sk S with
      | true =>
        have Hsd := Lib.hid (show bestTo cs (k + 1) = sk by rw [Hsc.out, hbt]; rfl)
        clear hbt
        go_wp2_with fail
        go_roundw
        case rel => exact ⟨k + 1, by omega, by go_num, by rw [Hsd.out]; exact HT4.out.setBest _⟩
        case measure => simp [intOf]; omega
      | false =>
        have Hsd := Lib.hid (show bestTo cs (k + 1) = S by rw [Hsc.out, hbt]; rfl)
        clear hbt
        go_wp2_with fail
        go_roundw
        case rel => exact ⟨k + 1, by omega, by go_num, by rw [Hsd.out]; exact HT4.out⟩
        case measure => simp [intOf]; omega
    · obtain rfl : k = cs.length := by omega
      have hSb : S.bits < 2 ^ 60 := by rw [← HS.out]; exact bestTo_bits _ _
      have HA := fun i (hi : i < 60) W => has_any S i W hSb hi
      unfold St.enc at HA
      have b2 : wr.cell? ⟨w.heap.size, 2, none⟩ = some (.slice (some ⟨g, 0, none⟩) cs.length c) := hT.belt.cell' 2 rfl
      have HT := Lib.hid hT
      clear hT Hsc hSb hlt hk
      go_wp2_with fail
      go_loopw [6, 25] (fun v i wr => ∃ k : Nat, k ≤ cs.length ∧ i = .int .i64 k ∧ MvAt w n g c cs.length S v (movedTo S k) wr) (fun _ i _ => cs.length - (intOf i).toNat)
      case atStart => exact ⟨0, Nat.zero_le _, rfl, HT.out⟩
      case round =>
        obtain ⟨k, hk, rfl, hT⟩ := hrel
        clear HT b2
        obtain ⟨rows, hrw⟩ : ∃ rows, movedTo S k = rows := ⟨_, rfl⟩
        have Hrl := Lib.hid (show rows.length ≤ k by rw [← hrw]; exact movedTo_len _ _)
        have hsc := movedTo_succ S k
        rw [hrw] at hT hsc
        have Hrw := Lib.hid hrw
        clear hrw
        by_cases hlt : k < cs.length
        · have HB := Lib.hid (HA k (by omega) wr)
          have a0 : wr.cell? ⟨w.heap.size + 1, 0, none⟩ = some (.int .i64 (S.many : Int)) := hT.best.cell' 0 rfl
          have a1 : wr.cell? ⟨w.heap.size + 1, 1, none⟩ = some (.int .i64 (S.bits : Int)) := hT.best.cell' 1 rfl
          have HT := Lib.hid hT
          clear hT HA
          cases hbt : stHas S k with
          | true =>
            have Hsd := Lib.hid (show movedTo S (k + 1) = rows by rw [hsc, hbt]; simp)
            rw [hbt] at HB
            clear hbt hsc
            go_wp2_with fail
            refine HB.out.mono ?_
            rintro e w4 ⟨rfl, hb4⟩
            have HT4 := Lib.hid (HT.out.next hb4)
            clear hb4
            go_wp2_with fail
            go_roundw
            case rel => exact ⟨k + 1, by omega, by go_num, by rw [Hsd.out]; exact HT4.out⟩
            case measure => simp [intOf]; omega
          | false =>
            have Hsd := Lib.hid (show movedTo S (k + 1) = rows ++ [k] by rw [hsc, hbt]; simp)
            rw [hbt] at HB
            clear hbt hsc
            go_wp2_with fail
            refine HB.out.mono ?_
            rintro e w4 ⟨rfl, hb4⟩
            have HT4 := Lib.hid (HT.out.next hb4)
            clear hb4
            go_wp2_with (at_builtin; refine Shut.out ?_)
            unfold Shut
            refine app_one elemInt rfl _ _ rfl (w.heap.size + 2) u6 rows.length (rows.map natV) #[.int .i64 (k : Int)] rfl HT4.out.row rfl rfl (by simp [Value.oneCell']) (by have := Hrl.out; omega) (by decide) HT4.out.size ?_
            intro g5 cap w5 hg
            have HT5 := Lib.hid (HT4.out.grew hg)
            clear hg
            go_wp2_with fail
            go_roundw
            case rel => exact ⟨k + 1, by omega, by go_num, by rw [Hsd.out]; exact HT5.out⟩
            case measure => simp [intOf]; omega
        · obtain rfl : k = cs.length := by omega
          have HT := Lib.hid hT
          clear hT hsc HA
          go_wp2_with fail
          go_ret
          refine ⟨u6, rfl, ?_, HT.out.b⟩
          have h := HT.out.row
          unfold movedN
          rw [HS.out, Hrw.out]
          exact own_base h (by omega)
set_option maxHeartbeats 1000000 in
theorem Moved_ok (n g c : Nat) (cs : List Card) (w : World) (hv : BAt w g n cs) (hd : Apart cs) :
    Calls Try.prog 151 #[.agg #[.int .i64 (n : Int), .slice (some ⟨g, 0, none⟩) cs.length c]] w fun e w' =>
      ∃ v, e = .returned (.tuple #[v, .int .i64 0]) ∧ w'.ownsRow w.heap.size 3 1 v (movedN cs).length ((movedN cs).map natV) ∧ Below w.heap.size w w' := by
  have hb1 : Below w.heap.size w (w.alloc (.cells #[.int .i64 (n : Int), .slice (some ⟨g, 0, none⟩) cs.length c] 114)) := (Below.refl _ _).alloc (Nat.le_refl _) _
  have HN := Lib.hid (numbered_ok n g c cs _ (hv.next hb1) hd)
  have HV := Lib.hid hv
  have Hb1 := Lib.hid hb1
  have HX := Lib.hid (BoxAt.new w #[.int .i64 (n : Int), .slice (some ⟨g, 0, none⟩) cs.length c] 114)
  clear hb1 hv
  go_enter Try.func151, Try.ntmps151
  go_wp2_with fail
  refine HN.out.mono ?_
  rintro e w1 ⟨mb, f, rfl, _, _, _, hb⟩
  have hx1 := HX.out.next hb
  have a0 : w1.cell? ⟨w.heap.size, 0, none⟩ = some (.int .i64 (n : Int)) := hx1.cell' 0 rfl
  have a1 : w1.cell? ⟨w.heap.size, 1, none⟩ = some (.slice (some ⟨g, 0, none⟩) cs.length c) := hx1.cell' 1 rfl
  have Hb2 := Lib.hid (Hb1.out.trans (hb.mono (by simp)))
  clear hx1 hb
  go_wp2_with fail
  refine (beltOf_any n g cs.length c w1).mono ?_
  rintro e w2 ⟨rfl, hb2⟩
  have Hb3 := Lib.hid (Hb2.out.trans (hb2.mono Hb2.out.size))
  clear hb2
  go_wp2_with fail
  refine (moved_any n g c cs w2 (HV.out.next Hb3.out)).mono ?_
  rintro e w3 ⟨v, rfl, hr, hb3⟩
  have Hr := Lib.hid hr
  have Hb4 := Lib.hid (Hb3.out.trans (hb3.mono Hb3.out.size))
  have Hz := Lib.hid Hb3.out.size
  clear hr hb3
  go_wp2_with fail
  go_ret2
  exact ⟨v, rfl, own_base Hr.out Hz.out, Hb4.out⟩
end Go.Proofs.Ytdmgffoikebgkaa
