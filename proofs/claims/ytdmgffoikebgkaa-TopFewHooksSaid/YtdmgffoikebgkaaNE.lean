/- The statements' helpers of chapters 1 and 2: copies, ones, and whether integers are alike. -/
import Derived.Test.YtdmgffoikebgkaaPN
import Derived.Test.YtdmgffoikebgkaaHJ
import Derived.Test.YtdmgffoikebgkaaWJ
import Derived.Test.YtdmgffoikebgkaaWO
import Derived.Test.YtdmgffoikebgkaaVI
import Derived.Test.YtdmgffoikebgkaaHE
import Derived.Test.YtdmgffoikebgkaaPH
namespace Go.Proofs.Ytdmgffoikebgkaa
open Go.RowKit Go.Shelf
attribute [local go_sem] Oper.semAt_some

set_option maxHeartbeats 1000000 in
theorem pubInts_ok (b off c : Nat) (xs : List Nat) (w : World) (h0 : 0 < xs.length) (hl : xs.length ≤ 1000) (hx : NatsAt w b off xs) (hb : b < w.heap.size) :
    Calls Try.prog 87 #[.slice (some ⟨b, off, none⟩) xs.length c] w fun e w' =>
      ∃ g cap, e = .returned (.slice (some ⟨g, 0, none⟩) xs.length cap) ∧ w'.ownsRow w.heap.size 3 1 (.slice (some ⟨g, 0, none⟩) xs.length cap) xs.length (xs.map natV) ∧ Below w.heap.size w w' := by
  have hx1 := hx.below ((Below.refl _ _).alloc (Nat.le_refl _) (.cells #[] 3)) hb
  have HX := Lib.hid hx1
  clear hx hx1
  go_enter Try.func87, Try.ntmps87
  go_wp2_with (at_builtin; refine Shut.out ?_)
  unfold Shut
  refine app_copy elemInt rfl _ _ rfl rfl ⟨b, off, none⟩ xs.length c (xs.map natV) rfl (by simp) (by simp [natV, Value.oneCell']) h0 (by omega) (by decide) ?_ ?_
  · intro j u hj
    simp only [List.getElem?_map, Option.map_eq_some_iff] at hj
    obtain ⟨x, hx, rfl⟩ := hj
    have hjl : j < xs.length := (List.getElem?_eq_some_iff.1 hx).1
    have := HX.out j hjl
    rw [nthN, hx] at this
    rw [show (⟨b, off, none⟩ : Addr).add j = ⟨b, off + j, none⟩ by unfold Addr.add; split <;> simp_all]
    exact this
  intro g cap w1 hr hb1
  have Hr := Lib.hid hr
  have Hb1 := Lib.hid hb1
  clear hr hb1
  go_wp2_with fail
  go_ret
  exact ⟨g, cap, rfl, Hr.out, Hb1.out⟩
set_option maxHeartbeats 1000000 in
theorem pubSame_any (b1 o1 c1 b2 o2 c2 : Nat) (xs ys : List Nat) (w : World) (hl1 : xs.length ≤ 1000) (_hl2 : ys.length ≤ 1000) (hx : NatsAt w b1 o1 xs) (hy : NatsAt w b2 o2 ys) (hb1 : b1 < w.heap.size) (hb2 : b2 < w.heap.size) :
    Calls Try.prog 89 #[.slice (some ⟨b1, o1, none⟩) xs.length c1, .slice (some ⟨b2, o2, none⟩) ys.length c2] w fun e w' => e = .returned (.bool (decide (xs = ys))) ∧ Below w.heap.size w w' := by
  by_cases hne : xs.length = ys.length
  · have hd : ((xs.length : Int) != (ys.length : Int)) = false := by rw [hne]; simp
    have Hne := Lib.hid hne
    clear hne
    go_enter Try.func89, Try.ntmps89
    go_wp2
    go_loopw [5] (fun i wr => ∃ k : Nat, k ≤ xs.length ∧ i = .int .i64 k ∧ xs.take k = ys.take k ∧ Below w.heap.size w wr) (fun i _ => xs.length - (intOf i).toNat)
    case atStart => exact ⟨0, Nat.zero_le _, rfl, by simp, Below.refl _ _⟩
    case round =>
      obtain ⟨k, hk, rfl, ht, hb⟩ := hrel
      have Ht := Lib.hid ht
      by_cases hlt : k < xs.length
      · have hlt2 : k < ys.length := by rw [← Hne.out]; exact hlt
        have e1 := (hx.below hb hb1) k hlt
        have e2 := (hy.below hb hb2) k hlt2
        have Hb := Lib.hid hb
        clear ht hb
        by_cases hxy : nthN xs k = nthN ys k
        · have hdx : ((nthN xs k : Int) != (nthN ys k : Int)) = false := by rw [hxy]; simp
          have Hst := Lib.hid (take_same hlt hlt2 Ht.out (by rw [← nthN_get xs k hlt, ← nthN_get ys k hlt2]; exact hxy))
          clear hxy
          go_wp2
          go_quiet (fail)
          all_goals go_wp2
          all_goals go_roundw
          all_goals first | (simp [intOf]; omega) | exact ⟨k + 1, by omega, by go_num, Hst.out, Hb.out.trans (below_drewN _ _ _)⟩
        · have hdx : ((nthN xs k : Int) != (nthN ys k : Int)) = true := by rw [bne_iff_ne]; exact fun e => hxy (by omega)
          have Hst := Lib.hid (show ¬ xs = ys from fun e => hxy (by rw [e]))
          clear hxy
          go_wp2
          go_quiet (fail)
          all_goals go_wp2
          all_goals go_ret
          all_goals exact ⟨ret_bool (by simp [Hst.out]), Hb.out.trans (below_drewN _ _ _)⟩
      · have Hb := Lib.hid hb
        have Hst := Lib.hid (show xs = ys by have := Ht.out; rwa [List.take_of_length_le (by omega), List.take_of_length_le (by rw [← Hne.out]; omega)] at this)
        clear ht hb
        go_wp2
        go_ret
        exact ⟨ret_bool (by simp [Hst.out]), Hb.out⟩
  · have hd : ((xs.length : Int) != (ys.length : Int)) = true := by rw [bne_iff_ne]; omega
    have Hst := Lib.hid (show ¬ xs = ys from fun e => hne (by rw [e]))
    clear hne
    go_enter Try.func89, Try.ntmps89
    go_wp2
    go_ret
    exact ⟨ret_bool (by simp [Hst.out]), Below.refl _ _⟩
set_option maxHeartbeats 1000000 in
theorem pubOnes_any (n : Nat) (w : World) (hn : n ≤ 60) :
    Calls Try.prog 86 #[.int .i64 (n : Int)] w fun e w' =>
      ∃ v, e = .returned v ∧ w'.ownsRow w.heap.size 3 1 v n ((List.replicate n 1).map natV) ∧ Below w.heap.size w w' := by
  have hR0 : RoAt w (.slice (some ⟨w.heap.size, 0, none⟩) 0 0) 0 (w.alloc (.cells #[] 3)) :=
    ⟨⟨by simp, .inr ⟨_, 0, #[], rfl, Nat.le_refl _, World.alloc_heap_new w _, Nat.le_refl _, by decide, by simp, by simp⟩⟩, (Below.refl _ _).alloc (Nat.le_refl _) _⟩
  have HR0 := Lib.hid hR0
  clear hR0
  go_enter Try.func86, Try.ntmps86
  go_wp2_with fail
  go_loopw [3, 4] (fun v i wr => ∃ k : Nat, k ≤ n ∧ i = .int .i64 k ∧ RoAt w v k wr) (fun _ i _ => n - (intOf i).toNat)
  case atStart => exact ⟨0, Nat.zero_le _, rfl, HR0.out⟩
  case round =>
    obtain ⟨k, hk, rfl, hT⟩ := hrel
    clear HR0
    have HT := Lib.hid hT
    clear hT
    by_cases hlt : k < n
    · go_wp2_with (at_builtin; refine Shut.out ?_)
      unfold Shut
      refine app_one elemInt rfl _ _ rfl w.heap.size u3 k ((List.replicate k 1).map natV) #[.int .i64 1] rfl HT.out.row rfl rfl (by simp [Value.oneCell']) (by omega) (by decide) HT.out.b.size ?_
      intro g5 cap w5 hg
      have HT5 := Lib.hid (HT.out.grew hg)
      clear hg
      go_wp2_with fail
      go_roundw
      case rel => exact ⟨k + 1, by omega, by go_num, HT5.out⟩
      case measure => simp [intOf]; omega
    · obtain rfl : k = n := by omega
      go_wp2_with fail
      go_ret
      exact ⟨u3, rfl, HT.out.row, HT.out.b⟩

set_option maxHeartbeats 2000000 in
theorem pubCopy_ok (n b off c : Nat) (xs : List Nat) (w : World) (h0 : 0 < xs.length) (hl : xs.length ≤ 1000) (hx : NatsAt w b off xs) (hb : b < w.heap.size) :
    Calls Try.prog 78 #[.agg #[.int .i64 (n : Int), .slice (some ⟨b, off, none⟩) xs.length c]] w fun e w' =>
      ∃ g cap, e = .returned (.agg #[.int .i64 (n : Int), .slice (some ⟨g, 0, none⟩) xs.length cap]) ∧ w'.ownsRow w.heap.size 3 1 (.slice (some ⟨g, 0, none⟩) xs.length cap) xs.length (xs.map natV) ∧ Below w.heap.size w w' := by
  have hO := OwnRow.new w n b off xs.length c 37
  have hbb : Below w.heap.size w ((w.alloc (.cells #[.int .i64 (n : Int), .slice (some ⟨b, off, none⟩) xs.length c] 37)).alloc (.cells #[.int .i64 0, .slice none 0 0] 37)) := ((Below.refl _ _).alloc (Nat.le_refl _) _).alloc (by simp) _
  obtain ⟨W0, hW0⟩ : ∃ W0, W0 = (w.alloc (.cells #[.int .i64 (n : Int), .slice (some ⟨b, off, none⟩) xs.length c] 37)).alloc (.cells #[.int .i64 0, .slice none 0 0] 37) := ⟨_, rfl⟩
  have HW0 := Lib.hid hW0
  have hs0 : W0.heap.size = w.heap.size + 2 := by rw [hW0]; simp
  rw [← hW0] at hO hbb
  have Hs0 := Lib.hid hs0
  have HX := Lib.hid ((hx.below hbb hb).below ((Below.refl _ _).alloc (Nat.le_refl _) (.cells #[] 3)) (show b < W0.heap.size by omega))
  have HO := Lib.hid hO
  have Hbb := Lib.hid hbb
  have k1 := hO.b1.cell' (v := .slice (some ⟨b, off, none⟩) xs.length c) 1 rfl
  have z1 : w.heap.size < W0.heap.size := by omega
  clear hO hbb hx hW0 hs0
  go_enter Try.func78, Try.ntmps78
  go_wp2_with (at_builtin; refine Shut.out ?_)
  unfold Shut
  rw [← HW0.out, show w.heap.size + 1 + 1 = W0.heap.size by have := Hs0.out; omega]
  refine app_copy elemInt rfl _ _ rfl rfl ⟨b, off, none⟩ xs.length c (xs.map natV) rfl (by simp) (by simp [natV, Value.oneCell']) h0 (by omega) (by decide) ?_ ?_
  · intro j u hj
    simp only [List.getElem?_map, Option.map_eq_some_iff] at hj
    obtain ⟨x, hx, rfl⟩ := hj
    have hjl : j < xs.length := (List.getElem?_eq_some_iff.1 hx).1
    have := HX.out j hjl
    rw [nthN, hx] at this
    rw [show (⟨b, off, none⟩ : Addr).add j = ⟨b, off + j, none⟩ by unfold Addr.add; split <;> simp_all]
    exact this
  intro g cap w1 hr hb1
  have hO1 := HO.out.next hb1
  have k0 := hO1.b1.cell' (v := .int .i64 (n : Int)) 0 rfl
  have k1 := hO1.b1.cell' (v := .slice (some ⟨b, off, none⟩) xs.length c) 1 rfl
  have f1 := hO1.b1.frozen 1
  have c0 := hO1.b2.cell' (v := .int .i64 0) 0 rfl
  have c1 := hO1.b2.cell' (v := .slice none 0 0) 1 rfl
  have g0 := hO1.b2.frozen 0
  have g1 := hO1.b2.frozen 1
  have hz1 : w.heap.size + 1 < w1.heap.size := hO1.b2.lt
  have hz0 : w.heap.size < w1.heap.size := by omega
  have HO1 := Lib.hid hO1
  have Hr := Lib.hid hr
  have Hb1 := Lib.hid (Hbb.out.trans (hb1.mono Hbb.out.size))
  clear hO1 hr hb1
  go_wp2_with fail
  refine bodyPost_ret (v := .agg #[.int .i64 (n : Int), .slice (some ⟨g, 0, none⟩) xs.length cap]) ?_ rfl ⟨g, cap, rfl, ?_, ?_⟩
  · have hb3 := ((HO1.out.b2.other ⟨w.heap.size, 1, none⟩ (.slice (some ⟨g, 0, none⟩) xs.length cap) (by simp)).set 0 (.int .i64 (n : Int))).set 1 (.slice (some ⟨g, 0, none⟩) xs.length cap)
    have d0 := hb3.cell' (v := .int .i64 (n : Int)) 0 rfl
    have d1 := hb3.cell' (v := .slice (some ⟨g, 0, none⟩) xs.length cap) 1 rfl
    simp [results, Try.results78, go_sem, d0, d1]
  · have hn := fun x (hx : x < w.heap.size + 2) => own_far Hr.out (show x < W0.heap.size by rw [Hs0.out]; exact hx)
    exact own_base (own_set (own_set (own_set Hr.out ⟨w.heap.size, 1, none⟩ _ (hn w.heap.size (by omega))) ⟨w.heap.size + 1, 0, none⟩ _ (hn (w.heap.size + 1) (by omega))) ⟨w.heap.size + 1, 1, none⟩ _ (hn (w.heap.size + 1) (by omega))) (by rw [Hs0.out]; omega)
  · exact ((Hb1.out.setCell (by simp) _).setCell (by simp) _).setCell (by simp) _
set_option maxHeartbeats 2000000 in
theorem pubBelt_ok (n g0 c : Nat) (cs : List Card) (w : World) (h0 : 0 < cs.length) (hl : cs.length ≤ 60) (hx : CardsAt w g0 cs) :
    Calls Try.prog 85 #[.agg #[.int .i64 (n : Int), .slice (some ⟨g0, 0, none⟩) cs.length c]] w fun e w' =>
      ∃ g cap, e = .returned (.agg #[.int .i64 (n : Int), .slice (some ⟨g, 0, none⟩) cs.length cap]) ∧ w'.ownsRow w.heap.size 128 3 (.slice (some ⟨g, 0, none⟩) cs.length cap) cs.length (cardCells cs) ∧ Below w.heap.size w w' := by
  have hO := OwnRow.new w n g0 0 cs.length c 114
  have hbb : Below w.heap.size w ((w.alloc (.cells #[.int .i64 (n : Int), .slice (some ⟨g0, 0, none⟩) cs.length c] 114)).alloc (.cells #[.int .i64 0, .slice none 0 0] 114)) := ((Below.refl _ _).alloc (Nat.le_refl _) _).alloc (by simp) _
  obtain ⟨W0, hW0⟩ : ∃ W0, W0 = (w.alloc (.cells #[.int .i64 (n : Int), .slice (some ⟨g0, 0, none⟩) cs.length c] 114)).alloc (.cells #[.int .i64 0, .slice none 0 0] 114) := ⟨_, rfl⟩
  have HW0 := Lib.hid hW0
  have hs0 : W0.heap.size = w.heap.size + 2 := by rw [hW0]; simp
  rw [← hW0] at hO hbb
  have Hs0 := Lib.hid hs0
  have HX := Lib.hid ((hx.next hbb).next ((Below.refl _ _).alloc (Nat.le_refl _) (.cells #[] 128)))
  have HO := Lib.hid hO
  have Hbb := Lib.hid hbb
  have z1 : w.heap.size < W0.heap.size := by omega
  clear hO hbb hx hW0 hs0
  go_enter Try.func85, Try.ntmps85
  go_wp2_with (at_builtin; refine Shut.out ?_)
  unfold Shut
  rw [← HW0.out, show w.heap.size + 1 + 1 = W0.heap.size by have := Hs0.out; omega]
  refine app_copy elemCard rfl _ _ rfl rfl ⟨g0, 0, none⟩ cs.length c (cardCells cs) rfl (cardCells_len cs) cardCells_one h0 (by omega) (by decide) HX.out.cellAll ?_
  intro g cap w1 hr hb1
  have hO1 := HO.out.next hb1
  have k0 := hO1.b1.cell' (v := .int .i64 (n : Int)) 0 rfl
  have k1 := hO1.b1.cell' (v := .slice (some ⟨g0, 0, none⟩) cs.length c) 1 rfl
  have f1 := hO1.b1.frozen 1
  have c0 := hO1.b2.cell' (v := .int .i64 0) 0 rfl
  have c1 := hO1.b2.cell' (v := .slice none 0 0) 1 rfl
  have g0' := hO1.b2.frozen 0
  have g1 := hO1.b2.frozen 1
  have hz1 : w.heap.size + 1 < w1.heap.size := hO1.b2.lt
  have hz0 : w.heap.size < w1.heap.size := by omega
  have HO1 := Lib.hid hO1
  have Hr := Lib.hid hr
  have Hb1 := Lib.hid (Hbb.out.trans (hb1.mono Hbb.out.size))
  clear hO1 hr hb1
  go_wp2_with fail
  refine bodyPost_ret (v := .agg #[.int .i64 (n : Int), .slice (some ⟨g, 0, none⟩) cs.length cap]) ?_ rfl ⟨g, cap, rfl, ?_, ?_⟩
  · have hb3 := ((HO1.out.b2.other ⟨w.heap.size, 1, none⟩ (.slice (some ⟨g, 0, none⟩) cs.length cap) (by simp)).set 0 (.int .i64 (n : Int))).set 1 (.slice (some ⟨g, 0, none⟩) cs.length cap)
    have d0 := hb3.cell' (v := .int .i64 (n : Int)) 0 rfl
    have d1 := hb3.cell' (v := .slice (some ⟨g, 0, none⟩) cs.length cap) 1 rfl
    simp [results, Try.results85, go_sem, d0, d1]
  · have hn := fun x (hx : x < w.heap.size + 2) => own_far Hr.out (show x < W0.heap.size by rw [Hs0.out]; exact hx)
    exact own_base (own_set (own_set (own_set Hr.out ⟨w.heap.size, 1, none⟩ _ (hn w.heap.size (by omega))) ⟨w.heap.size + 1, 0, none⟩ _ (hn (w.heap.size + 1) (by omega))) ⟨w.heap.size + 1, 1, none⟩ _ (hn (w.heap.size + 1) (by omega))) (by rw [Hs0.out]; omega)
  · exact ((Hb1.out.setCell (by simp) _).setCell (by simp) _).setCell (by simp) _
end Go.Proofs.Ytdmgffoikebgkaa
/- The statements' helpers of chapters 1 and 2: the document's example of package point. -/
namespace Go.Proofs.Ytdmgffoikebgkaa
open Go.RowKit Go.Shelf
attribute [local go_sem] Oper.semAt_some

theorem copy78 (g c : Nat) (W : World) (hx : NatsAt W g 0 [7, 56, 0, 21]) (hg : g < W.heap.size) : Calls Try.prog 78 #[.agg #[.int .i64 6, .slice (some ⟨g, 0, none⟩) 4 c]] W fun e w' =>
    ∃ g1 cap, e = .returned (.agg #[.int .i64 6, .slice (some ⟨g1, 0, none⟩) 4 cap]) ∧ NatsAt w' g1 0 [7, 56, 0, 21] ∧ g1 < w'.heap.size ∧ Below W.heap.size W w' := by
  refine (pubCopy_ok 6 g 0 c [7, 56, 0, 21] W (by decide) (by decide) hx hg).mono ?_
  rintro e w' ⟨g1, cap, rfl, hr, hb⟩
  obtain ⟨hn, hgl, _⟩ := nats_of_row hr (by decide)
  exact ⟨g1, cap, rfl, hn, hgl, hb⟩
def exRows : Array Value := #[.int .i64 7, .int .i64 56, .int .i64 0, .int .i64 21]
def exNil : Array Value := #[.int .i64 0, .int .i64 0, .int .i64 0, .int .i64 0]
theorem exFl : upTo (flW 6 [7, 56, 0, 21] ((3 : Nat) : Int)) [7, 56, 0, 21].length = [⟨2, 0, 1000, false⟩] := by decide +kernel
theorem exValidS : Valid 6 [21, 42] := by
  refine ⟨by decide, by decide, by decide, by decide, fun i => ?_⟩
  by_cases h : i < 2
  · have : i = 0 ∨ i = 1 := by omega
    rcases this with rfl | rfl <;> decide
  · have : nthN [21, 42] i = 0 := by unfold nthN; rw [List.getElem?_eq_none (by simpa using h)]; rfl
    rw [this]; decide
theorem exSh : painted (shG [21, 42] 6 0 1) [21, 42].length 6 = [42, 21] := by decide +kernel

set_option maxHeartbeats 2000000 in
set_option maxRecDepth 100000 in
theorem pubPoint_any (w : World) : Calls Try.prog 79 #[] w fun e w' => e = .returned (.bool true) ∧ Below w.heap.size w w' := by
  obtain ⟨W0, hW0⟩ : ∃ W0, W0 = (w.alloc (.cells #[.int .i64 7, .int .i64 56, .int .i64 0, .int .i64 21] 3)).alloc (.cells #[.int .i64 6, .slice (some ⟨w.heap.size, 0, none⟩) 4 4] 37) := ⟨_, rfl⟩
  have hA : BoxAt W0 w.heap.size #[.int .i64 7, .int .i64 56, .int .i64 0, .int .i64 21] 3 := by
    rw [hW0]; exact (BoxAt.new _ _ _).below ((Below.refl (w.heap.size + 1) _).alloc (by simp) _) (by omega)
  have hB : BoxAt W0 (w.heap.size + 1) #[.int .i64 6, .slice (some ⟨w.heap.size, 0, none⟩) 4 4] 37 := by
    have := BoxAt.new (w.alloc (.cells #[.int .i64 7, .int .i64 56, .int .i64 0, .int .i64 21] 3)) #[.int .i64 6, .slice (some ⟨w.heap.size, 0, none⟩) 4 4] 37
    rw [World.size_alloc] at this
    rw [hW0]; exact this
  have hbb : Below w.heap.size w W0 := by rw [hW0]; exact ((Below.refl _ _).alloc (Nat.le_refl _) _).alloc (by simp) _
  have HC1 := Lib.hid (copy78 w.heap.size 4 W0 (nats4 (a := 7) (b := 56) (c := 0) (d := 21) hA) hA.lt)
  have Hbb := Lib.hid hbb
  have HA := Lib.hid hA
  have HB := Lib.hid hB
  have HW0 := Lib.hid hW0
  clear hA hB hbb hW0
  go_enter Try.func79, Try.ntmps79
  go_wp2_with fail
  rw [← HW0.out]
  refine HC1.out.mono ?_
  rintro e w1 ⟨g1, cap1, rfl, hn1, hg1, hb1⟩
  obtain ⟨W2, hW2⟩ : ∃ W2, W2 = w1.alloc (.cells #[.int .i64 0, .int .i64 0, .int .i64 0, .int .i64 0] 3) := ⟨_, rfl⟩
  have hb2 : Below w1.heap.size w1 W2 := by rw [hW2]; exact (Below.refl _ _).alloc (Nat.le_refl _) _
  have hC : BoxAt W2 w1.heap.size #[.int .i64 0, .int .i64 0, .int .i64 0, .int .i64 0] 3 := by rw [hW2]; exact BoxAt.new _ _ _
  have H := Bind_ok 6 g1 0 cap1 w1.heap.size 0 4 2 [7, 56, 0, 21] [0, 0, 0, 0] W2 ⟨hn1.below hb2 hg1, Nat.lt_of_lt_of_le hg1 hb2.size, exValid⟩ rfl (nats4 (a := 0) (b := 0) (c := 0) (d := 0) hC) hC.lt exZero (by omega) (by omega) exNever
  have e1 : bindRows 6 2 [7, 56, 0, 21] [0, 0, 0, 0] [7, 56, 0, 21].length = [11, 25, 9, 21] := exBind.1
  have e2 : bindSum 6 2 [7, 56, 0, 21] [0, 0, 0, 0] [7, 56, 0, 21].length = 6 := exBind.2
  rw [e1, e2] at H
  have HBi := Lib.hid H
  have hb02 := Hbb.out.trans ((hb1.trans (hb2.mono hb1.size)).mono Hbb.out.size)
  have HA2 := Lib.hid (HA.out.next (hb1.trans (hb2.mono hb1.size)))
  have HB2 := Lib.hid (HB.out.next (hb1.trans (hb2.mono hb1.size)))
  have Hb2 := Lib.hid hb02
  have HW2 := Lib.hid hW2
  clear hn1 hg1 hb1 hb2 hC H e1 e2 hb02 hW2 HA HB HC1
  go_wp2_with fail
  rw [← HW2.out]
  refine HBi.out.mono ?_
  rintro e w3 ⟨v, rfl, hr, hb3⟩
  have hl4 : ([7, 56, 0, 21] : List Nat).length = 4 := rfl
  simp only [hl4] at hr ⊢
  obtain ⟨g3, cap3, rfl⟩ := row_slice hr (by decide)
  obtain ⟨hn3, hg3, _⟩ := nats_of_row hr (by decide)
  have HA3 := Lib.hid (HA2.out.next hb3)
  have HB3 := Lib.hid (HB2.out.next hb3)
  have Hb3 := Lib.hid (Hb2.out.trans (hb3.mono Hb2.out.size))
  have HN3 := Lib.hid hn3
  have b0 := HB3.out.cell' 0 rfl
  have b1 := HB3.out.cell' 1 rfl
  have z3 := HB3.out.lt
  obtain ⟨W4, hW4⟩ : ∃ W4, W4 = w3.alloc (.cells #[.int .i64 6, .slice (some ⟨g3, 0, none⟩) 4 cap3] 37) := ⟨_, rfl⟩
  have hb4 : Below w3.heap.size w3 W4 := by rw [hW4]; exact (Below.refl _ _).alloc (Nat.le_refl _) _
  have hD : BoxAt W4 w3.heap.size #[.int .i64 6, .slice (some ⟨g3, 0, none⟩) 4 cap3] 37 := by rw [hW4]; exact BoxAt.new _ _ _
  have HC4 := Lib.hid (copy78 w.heap.size 4 W4 (nats4 (a := 7) (b := 56) (c := 0) (d := 21) (HA3.out.next hb4)) (HA3.out.next hb4).lt)
  have HN4 := Lib.hid (HN3.out.below hb4 hg3)
  have hg4 := Nat.lt_of_lt_of_le hg3 hb4.size
  have Hb4 := Lib.hid (Hb3.out.trans (hb4.mono Hb3.out.size))
  have HD4 := Lib.hid hD
  have HW4 := Lib.hid hW4
  clear hr hb3 hn3 hl4 HA2 HB2 HBi hb4 hD hW4 HA3 HN3 hg3 Hb3 Hb2 Hbb
  go_wp2_with fail
  rw [← HW4.out]
  refine HC4.out.mono ?_
  rintro e w5 ⟨g5, cap5, rfl, hn5, hg5, hb5⟩
  have H := FloatsW_ok 6 g5 0 cap5 [7, 56, 0, 21] 3 w5 ⟨hn5, hg5, exValid⟩ (by omega)
  rw [exFl] at H
  have HF := Lib.hid H
  have HN5 := Lib.hid (HN4.out.below hb5 hg4)
  have hg45 := Nat.lt_of_lt_of_le hg4 hb5.size
  have Hb5 := Lib.hid (Hb4.out.trans (hb5.mono Hb4.out.size))
  have HD5 := Lib.hid (HD4.out.next hb5)
  clear hn5 hg5 hb5 H HN4 hg4 Hb4 HD4 b0 b1 z3 HC4
  go_wp2_with fail
  refine HF.out.mono ?_
  rintro e w6 ⟨v, rfl, hr, hb6⟩
  obtain ⟨p, cap6, rfl, hp⟩ := Fls.of_row hr
  obtain ⟨g6, rfl, hF6⟩ := hp (by decide)
  have hl1 : ([⟨2, 0, 1000, false⟩] : List Fl).length = 1 := rfl
  simp only [hl1] at hr ⊢
  obtain ⟨W7, hW7⟩ : ∃ W7, W7 = w6.alloc (.cells #[.int .i64 21, .int .i64 42] 3) := ⟨_, rfl⟩
  have hb7 : Below w6.heap.size w6 W7 := by rw [hW7]; exact (Below.refl _ _).alloc (Nat.le_refl _) _
  have hC7 : BoxAt W7 w6.heap.size #[.int .i64 21, .int .i64 42] 3 := by rw [hW7]; exact BoxAt.new _ _ _
  have H := Shift_ok 6 w6.heap.size 0 2 0 1 [21, 42] W7 ⟨nats2 (a := 21) (b := 42) hC7, hC7.lt, exValidS⟩ (by decide) (by decide)
  have e1 : painted (shG [21, 42] 6 0 1) [21, 42].length 6 = [42, 21] := exSh
  rw [e1] at H
  have HS7 := Lib.hid H
  have hb67 := hb6.trans (hb7.mono hb6.size)
  have HN7 := Lib.hid (HN5.out.below hb67 hg45)
  have hg7 := Nat.lt_of_lt_of_le hg45 hb67.size
  have Hb7 := Lib.hid (Hb5.out.trans (hb67.mono Hb5.out.size))
  have HD7 := Lib.hid (HD5.out.next hb67)
  have HF7 := Lib.hid (hF6.below hb7 hF6.lt)
  have HW7 := Lib.hid hW7
  clear hb6 hb7 hC7 H e1 hb67 HN5 hg45 Hb5 HD5 hF6 hW7 HF hp hr hl1
  go_wp2_with fail
  rw [← HW7.out]
  refine HS7.out.mono ?_
  rintro e w8 ⟨R, rfl, hR0, hR1, hb8⟩
  have hl2 : ([42, 21] : List Nat).length = 2 := rfl
  simp only [hl2]
  obtain ⟨W9, hW9⟩ : ∃ W9, W9 = (w8.alloc (.cells #[.int .i64 6, .slice (some ⟨R, 0, none⟩) 2 2] 37)).alloc (.cells #[.int .i64 11, .int .i64 25, .int .i64 9, .int .i64 21] 3) := ⟨_, rfl⟩
  have hb9 : Below w8.heap.size w8 W9 := by rw [hW9]; exact ((Below.refl _ _).alloc (Nat.le_refl _) _).alloc (by simp) _
  have hE : BoxAt W9 w8.heap.size #[.int .i64 6, .slice (some ⟨R, 0, none⟩) 2 2] 37 := by
    rw [hW9]; exact (BoxAt.new _ _ _).below ((Below.refl (w8.heap.size + 1) _).alloc (by simp) _) (by omega)
  have hC9 : BoxAt W9 (w8.heap.size + 1) #[.int .i64 11, .int .i64 25, .int .i64 9, .int .i64 21] 3 := by
    have := BoxAt.new (w8.alloc (.cells #[.int .i64 6, .slice (some ⟨R, 0, none⟩) 2 2] 37)) #[.int .i64 11, .int .i64 25, .int .i64 9, .int .i64 21] 3
    rw [World.size_alloc] at this
    rw [hW9]; exact this
  have hb89 := hb8.trans (hb9.mono hb8.size)
  have HS9 := Lib.hid (pubSame_any g3 0 cap3 (w8.heap.size + 1) 0 4 [11, 25, 9, 21] [11, 25, 9, 21] W9 (by decide) (by decide) (HN7.out.below hb89 hg7) (nats4 (a := 11) (b := 25) (c := 9) (d := 21) hC9) (Nat.lt_of_lt_of_le hg7 hb89.size) hC9.lt)
  have Hb9 := Lib.hid (Hb7.out.trans (hb89.mono Hb7.out.size))
  have HF9 := Lib.hid (HF7.out.below hb89 HF7.out.lt)
  have hD8 := HD7.out.next hb8
  have d1 := hD8.cell' 1 rfl
  have z8 := hD8.lt
  have HR9 := Lib.hid (hR1.nats.below hb9 hR1.lt)
  have hR9 := Nat.lt_of_lt_of_le hR1.lt hb9.size
  have HE9 := Lib.hid hE
  have HW9 := Lib.hid hW9
  clear hb8 hb9 hb89 hC9 hE hD8 hR0 hR1 hW9 hl2 hg7 HN7 HF7 Hb7 HD7 HS7
  go_wp2_with fail
  rw [← HW9.out]
  refine HS9.out.mono ?_
  rintro e w10 ⟨rfl, hb10⟩
  have f0 : w10.cell? ⟨g6, 0, none⟩ = some (.int .i64 (2 : Int)) := (HF9.out.below hb10 HF9.out.lt).c0 0 (by decide)
  have hE10 := HE9.out.next hb10
  have s1 := hE10.cell' 1 rfl
  obtain ⟨W11, hW11⟩ : ∃ W11, W11 = w10.alloc (.cells #[.int .i64 42, .int .i64 21] 3) := ⟨_, rfl⟩
  have hb11 : Below w10.heap.size w10 W11 := by rw [hW11]; exact (Below.refl _ _).alloc (Nat.le_refl _) _
  have hC11 : BoxAt W11 w10.heap.size #[.int .i64 42, .int .i64 21] 3 := by rw [hW11]; exact BoxAt.new _ _ _
  have hb911 := hb10.trans (hb11.mono hb10.size)
  have HS11 := Lib.hid (pubSame_any R 0 2 w10.heap.size 0 2 [42, 21] [42, 21] W11 (by decide) (by decide) (HR9.out.below hb911 hR9) (nats2 (a := 42) (b := 21) hC11) (Nat.lt_of_lt_of_le hR9 hb911.size) hC11.lt)
  have Hb11 := Lib.hid (Hb9.out.trans (hb911.mono Hb9.out.size))
  have HW11 := Lib.hid hW11
  clear hb10 hb11 hE10 hC11 hb911 hW11 HF9 HR9 HE9 HS9 d1 z8
  go_wp2_with fail
  rw [← HW11.out]
  refine HS11.out.mono ?_
  rintro e w12 ⟨rfl, hb12⟩
  have Hb12 := Lib.hid (Hb11.out.trans (hb12.mono Hb11.out.size))
  clear hb12
  go_wp2_with fail
  go_ret
  exact ⟨rfl, Hb12.out⟩
end Go.Proofs.Ytdmgffoikebgkaa
/- The statements' helpers of chapters 1 and 2: a valid design of a byte and words. -/
namespace Go.Proofs.Ytdmgffoikebgkaa
open Go.RowKit Go.Shelf
attribute [local go_sem] Oper.semAt_some

def dqN (H : Nat) : Nat := 2 + H % 7
theorem dqN_bd (H : Nat) : 2 ≤ dqN H ∧ dqN H ≤ 8 := by unfold dqN; omega
theorem mod7 (H : Nat) : ∃ m : Nat, (H : Int) % 7 = (m : Int) ∧ dqN H = 2 + m := ⟨H % 7, (Int.natCast_emod H 7).symm, rfl⟩
def dqG (n : Nat) (ws : List Nat) (i : Nat) : Nat := if i < ws.length then nthN ws i % 2 ^ n else 1
def dqTo (n : Nat) (ws : List Nat) (k : Nat) : List Nat := (List.range k).map (dqG n ws)
theorem dqTo_succ (n : Nat) (ws : List Nat) (k : Nat) : dqTo n ws (k + 1) = dqTo n ws k ++ [dqG n ws k] := by simp [dqTo, List.range_succ]
theorem dqTo_len (n : Nat) (ws : List Nat) (k : Nat) : (dqTo n ws k).length = k := by simp [dqTo]
/-- what the helper keeps between two rows -/
structure DqAt (w0 : World) (n : Nat) (v : Value) (rows : List Nat) (W : World) : Prop where
  res : BoxAt W w0.heap.size #[.int .i64 0, .slice none 0 0] 37
  box : BoxAt W (w0.heap.size + 1) #[.int .i64 (n : Int), v] 37
  row : W.ownsRow (w0.heap.size + 2) 3 1 v rows.length (rows.map natV)
  b : Below w0.heap.size w0 W
theorem DqAt.next {w0 W W' : World} {n : Nat} {v : Value} {rows : List Nat} (h : DqAt w0 n v rows W) (hb : Below W.heap.size W W') : DqAt w0 n v rows W' :=
  ⟨h.res.next hb, h.box.next hb, own_next h.row hb, h.b.trans (hb.mono h.b.size)⟩
theorem DqAt.size {w0 W : World} {n : Nat} {v : Value} {rows : List Nat} (h : DqAt w0 n v rows W) : w0.heap.size + 2 ≤ W.heap.size := h.box.lt
theorem DqAt.grew {w0 W W' : World} {n g5 cap z : Nat} {v : Value} {rows : List Nat} (h : DqAt w0 n v rows W)
    (hg : Grew (w0.heap.size + 2) 3 1 W W' v g5 cap (rows.length + 1) (rows.map natV ++ [.int .i64 (z : Int)])) :
    BoxAt W' (w0.heap.size + 1) #[.int .i64 (n : Int), v] 37 ∧ DqAt w0 n (.slice (some ⟨g5, 0, none⟩) (rows.length + 1) cap) (rows ++ [z]) (W'.setCell ⟨w0.heap.size + 1, 1, none⟩ (.slice (some ⟨g5, 0, none⟩) (rows.length + 1) cap)) := by
  have hn : ∀ j, j < w0.heap.size + 2 → some j ≠ v.ownBlock := fun j hj => own_far h.row hj
  have hb := h.box.kept hg.grow (hn _ (by omega))
  refine ⟨hb, ⟨(h.res.kept hg.grow (hn _ (by omega))).other _ _ (by simp), hb.set 1 _, ?_, ?_⟩⟩
  · have hr := hg.row
    have := own_set hr ⟨w0.heap.size + 1, 1, none⟩ (.slice (some ⟨g5, 0, none⟩) (rows.length + 1) cap) (own_far hr (by simp))
    rw [List.length_append, List.length_singleton, List.map_append]
    exact this
  · exact (h.b.grown hg.grow h.b.size (fun j hj => by have := (ownBlock_ge h.row hj).1; omega)).setCell (by simp) _
set_option maxRecDepth 100000 in
set_option maxHeartbeats 2000000 in
theorem pubDesign_any (H : Nat) (p : Option Addr) (c : Nat) (ws : List Nat) (w : World) (hH : H < 256) (hw : WordRow w p ws) (hl : ws.length ≤ 9223372036854775807) :
    Calls Try.prog 76 #[.int .u8 (H : Int), .slice p ws.length c] w fun e w' =>
      ∃ v, e = .returned (.agg #[.int .i64 (dqN H : Int), v]) ∧ w'.ownsRow w.heap.size 3 1 v (loomL 12 ws.length) ((dqTo (dqN H) ws (loomL 12 ws.length)).map natV) ∧ Below w.heap.size w w' := by
  obtain ⟨m, hm1, hm2⟩ := mod7 H
  have hnb := dqN_bd H
  obtain ⟨n, hn⟩ : ∃ n, dqN H = n := ⟨_, rfl⟩
  rw [hn] at hm2 hnb ⊢
  have hn3 : (2 : Int) + (m : Int) = (n : Int) := by omega
  have hL0 : DqAt w n (.slice none 0 0) (dqTo n ws 0) ((w.alloc (.cells #[.int .i64 0, .slice none 0 0] 37)).alloc (.cells #[.int .i64 (n : Int), .slice none 0 0] 37)) := by
    have h3 := BoxAt.new (w.alloc (.cells #[.int .i64 0, .slice none 0 0] 37)) #[.int .i64 (n : Int), .slice none 0 0] 37
    simp only [World.size_alloc] at h3
    exact ⟨(BoxAt.new _ _ _).below ((Below.refl (w.heap.size + 1) _).alloc (by simp) _) (by omega), h3, World.ownsRow_nil _ _ _ _, ((Below.refl _ _).alloc (Nat.le_refl _) _).alloc (by simp) _⟩
  have HL0 := Lib.hid hL0
  have Hw := Lib.hid hw
  clear hL0 hw hn hm2
  obtain ⟨hp1, hp2⟩ := pow_bds n (by omega)
  go_enter Try.func76, Try.ntmps76
  go_wp2
  clear hm1 hn3
  go_loopw [6] (fun i wr => ∃ (k : Nat) (v : Value), k ≤ loomL 12 ws.length ∧ i = .int .i64 k ∧ DqAt w n v (dqTo n ws k) wr) (fun i _ => loomL 12 ws.length - (intOf i).toNat)
  case atStart => exact ⟨0, _, Nat.zero_le _, rfl, HL0.out⟩
  case round =>
    obtain ⟨k, v, hk, rfl, hL⟩ := hrel
    clear HL0
    obtain ⟨rows, hrw⟩ : ∃ rows, dqTo n ws k = rows := ⟨_, rfl⟩
    have Hrl := Lib.hid (show rows.length = k by rw [← hrw]; exact dqTo_len _ _ _)
    have hsc := dqTo_succ n ws k
    rw [hrw] at hL hsc
    have Hrw := Lib.hid hrw
    clear hrw
    have hk12 : k ≤ 12 := by unfold loomL at hk; split at hk <;> omega
    have b0 : wr.cell? ⟨w.heap.size + 1, 0, none⟩ = some (.int .i64 (n : Int)) := hL.box.cell' 0 rfl
    have b1 : wr.cell? ⟨w.heap.size + 1, 1, none⟩ = some v := hL.box.cell' 1 rfl
    have hz : w.heap.size + 1 < wr.heap.size := hL.size
    have hz0 : w.heap.size < wr.heap.size := by omega
    by_cases hgo : k < loomL 12 ws.length
    · by_cases hl0 : ws.length = 0
      · have h0 : k = 0 := by unfold loomL at hgo; rw [if_pos hl0] at hgo; omega
        have hsc2 : dqTo n ws (k + 1) = rows ++ [1] := by rw [hsc]; simp [dqG, hl0]
        have hnl : ¬ (k : Int) < (ws.length : Int) := by omega
        have hd0 : ((k : Int) == 0) = true := by rw [h0]; rfl
        have HL := Lib.hid hL
        have Hsc := Lib.hid hsc2
        have Hgo := Lib.hid hgo
        clear hL hsc hsc2 hgo hl0 hk h0
        go_wp2_with (at_builtin; refine Shut.out ?_)
        unfold Shut
        refine app_one elemInt rfl _ _ rfl (w.heap.size + 1 + 1) v rows.length (rows.map natV) #[.int .i64 ((1 : Nat) : Int)] rfl HL.out.row rfl rfl (by simp [Value.oneCell']) (by have := Hrl.out; omega) (by decide) HL.out.size ?_
        intro g5 cap w5 hg
        obtain ⟨hbx, hL5⟩ := HL.out.grew hg
        have c1' : w5.cell? ⟨w.heap.size + 1, 1, none⟩ = some v := hbx.cell' 1 rfl
        have f1 := hbx.frozen 1
        have HL5 := Lib.hid hL5
        clear hg hL5 hbx
        go_wp2_with fail
        go_roundw
        case rel => exact ⟨k + 1, _, Hgo.out, by go_num, by rw [Hsc.out]; exact HL5.out⟩
        case measure => simp [intOf]; have := Hgo.out; omega
      · have hlt : k < ws.length := by unfold loomL at hgo; split at hgo <;> omega
        have hk2 : k < 12 := by unfold loomL at hgo; split at hgo <;> omega
        obtain ⟨b, off, rfl, hb, hc⟩ := WordRow.next Hw.out hL.b (by omega)
        obtain ⟨e1, e2⟩ := hc k hlt
        have hsg : dqG n ws k = nthN ws k % 2 ^ n := by unfold dqG; rw [if_pos hlt]
        obtain ⟨x, hx⟩ : ∃ x, nthN ws k = x := ⟨_, rfl⟩
        rw [hx] at e1 e2 hsg
        rw [hsg] at hsc
        obtain ⟨y, hy⟩ : ∃ y, x % 2 ^ n = y := ⟨_, rfl⟩
        rw [hy] at hsc
        have HL := Lib.hid hL
        have Hsc := Lib.hid hsc
        have Hgo := Lib.hid hgo
        have hq : (x : Int) % (2 : Int) ^ n = (y : Int) := by rw [← hy, Int.natCast_emod, Int.natCast_pow]; rfl
        have hk3 : (k : Int) < 12 := by omega
        clear hL hsc hgo hk hc hsg hx hl0 hy
        by_cases h0 : k = 0
        · have hd0 : ((k : Int) == 0) = true := by rw [h0]; rfl
          clear h0
          go_wp2
          go_quiet (fail)
          all_goals
            have HLd := Lib.hid (HL.out.next (below_drewN wr wr.heap.size nq))
            have b1d : (wr.drewN nq).cell? ⟨w.heap.size + 1, 1, none⟩ = some v := HLd.out.box.cell' 1 rfl
            clear b0 b1 e1
            go_wp2_with (at_builtin; refine Shut.out ?_)
            unfold Shut
            refine app_one elemInt rfl _ _ rfl (w.heap.size + 1 + 1) v rows.length (rows.map natV) #[.int .i64 (y : Int)] rfl HLd.out.row rfl rfl (by simp [Value.oneCell']) (by have := Hrl.out; omega) (by decide) HLd.out.size ?_
            intro g5 cap w5 hg
            obtain ⟨hbx, hL5⟩ := HLd.out.grew hg
            have c1' : w5.cell? ⟨w.heap.size + 1, 1, none⟩ = some v := hbx.cell' 1 rfl
            have f1 := hbx.frozen 1
            have HL5 := Lib.hid hL5
            clear hg hL5 hbx
            go_wp2_with fail
            go_roundw
            case rel => exact ⟨k + 1, _, by have := Hgo.out; omega, by go_num, by rw [Hsc.out]; exact HL5.out⟩
            case measure => simp [intOf]; have := Hgo.out; omega
        · have hd0 : ((k : Int) == 0) = false := by rw [beq_eq_false_iff_ne]; omega
          clear h0
          go_wp2
          go_quiet (fail)
          all_goals
            have HLd := Lib.hid (HL.out.next (below_drewN wr wr.heap.size nq))
            have b1d : (wr.drewN nq).cell? ⟨w.heap.size + 1, 1, none⟩ = some v := HLd.out.box.cell' 1 rfl
            clear b0 b1 e1
            go_wp2_with (at_builtin; refine Shut.out ?_)
            unfold Shut
            refine app_one elemInt rfl _ _ rfl (w.heap.size + 1 + 1) v rows.length (rows.map natV) #[.int .i64 (y : Int)] rfl HLd.out.row rfl rfl (by simp [Value.oneCell']) (by have := Hrl.out; omega) (by decide) HLd.out.size ?_
            intro g5 cap w5 hg
            obtain ⟨hbx, hL5⟩ := HLd.out.grew hg
            have c1' : w5.cell? ⟨w.heap.size + 1, 1, none⟩ = some v := hbx.cell' 1 rfl
            have f1 := hbx.frozen 1
            have HL5 := Lib.hid hL5
            clear hg hL5 hbx
            go_wp2_with fail
            go_roundw
            case rel => exact ⟨k + 1, _, by have := Hgo.out; omega, by go_num, by rw [Hsc.out]; exact HL5.out⟩
            case measure => simp [intOf]; have := Hgo.out; omega
    · have hd0 : ((k : Int) == 0) = false := by rw [beq_eq_false_iff_ne]; unfold loomL at hgo; split at hgo <;> omega
      have hke : k = loomL 12 ws.length := by omega
      have hnb2 : ¬ (k < ws.length ∧ k < 12) := by unfold loomL at hgo; split at hgo <;> omega
      have r0 : wr.cell? ⟨w.heap.size, 0, none⟩ = some (.int .i64 0) := hL.res.cell' 0 rfl
      have r1 : wr.cell? ⟨w.heap.size, 1, none⟩ = some (.slice none 0 0) := hL.res.cell' 1 rfl
      have f0 := hL.res.frozen 0
      have f1 := hL.res.frozen 1
      obtain ⟨p', l, q, rfl⟩ : ∃ p l q, v = .slice p l q := by
        obtain ⟨_, ⟨h, h0⟩ | ⟨g, cap, cur, h, _⟩⟩ := hL.row
        · exact ⟨_, _, _, h⟩
        · exact ⟨_, _, _, h⟩
      have Hret := Lib.hid (show ∀ X : World, X = (wr.setCell ⟨w.heap.size, 0, none⟩ (.int .i64 (n : Int))).setCell ⟨w.heap.size, 1, none⟩ (.slice p' l q) →
          (X.cell? ⟨w.heap.size, 0, none⟩ = some (.int .i64 (n : Int)) ∧ X.cell? ⟨w.heap.size, 1, none⟩ = some (.slice p' l q)) ∧
          X.ownsRow w.heap.size 3 1 (.slice p' l q) (loomL 12 ws.length) ((dqTo n ws (loomL 12 ws.length)).map natV) ∧ Below w.heap.size w X from by
        rintro X rfl
        have hb3 := (hL.res.set 0 (.int .i64 (n : Int))).set 1 (.slice p' l q)
        have hn := own_far hL.row (show w.heap.size < w.heap.size + 2 by omega)
        refine ⟨⟨hb3.cell' 0 rfl, hb3.cell' 1 rfl⟩, ?_, (hL.b.setCell (by simp) _).setCell (by simp) _⟩
        have h := own_base (own_set (own_set hL.row ⟨w.heap.size, 0, none⟩ (.int .i64 (n : Int)) hn) ⟨w.heap.size, 1, none⟩ (.slice p' l q) hn) (show w.heap.size ≤ w.heap.size + 2 by omega)
        rw [Hrl.out, hke] at h
        rw [← hke, Hrw.out]
        rw [hke]
        exact h)
      by_cases hlt : k < ws.length
      · have hk2 : ¬ (k : Int) < 12 := by omega
        clear hL hsc hgo hk hke
        go_wp2
        refine bodyPost_ret (v := .agg #[.int .i64 (n : Int), .slice p' l q]) ?_ rfl ⟨_, rfl, (Hret.out _ rfl).2⟩
        obtain ⟨d0, d1⟩ := (Hret.out _ rfl).1
        simp [results, Try.results76, go_sem, d0, d1]
      · clear hL hsc hgo hk hke
        go_wp2
        refine bodyPost_ret (v := .agg #[.int .i64 (n : Int), .slice p' l q]) ?_ rfl ⟨_, rfl, (Hret.out _ rfl).2⟩
        obtain ⟨d0, d1⟩ := (Hret.out _ rfl).1
        simp [results, Try.results76, go_sem, d0, d1]
end Go.Proofs.Ytdmgffoikebgkaa
/- What TopTurned uses: contracts with a letter for the length, the mirror of a mirror, a chain taken backwards. -/
namespace Go.Proofs.Ytdmgffoikebgkaa
open Go.RowKit Go.Shelf

theorem rowTo_bits {n x : Nat} (h : x < 2 ^ n) : rowTo (bitN x) n = x := by
  apply Nat.eq_of_testBit_eq
  intro j
  rw [rowTo_bit]
  by_cases hj : j < n
  · simp [hj, bitN]
  · simp only [hj, decide_false, Bool.false_and]
    exact (Nat.testBit_lt_two_pow (Nat.lt_of_lt_of_le h (Nat.pow_le_pow_right (by decide) (by omega)))).symm
theorem mirN_mirN {n x : Nat} (h : x < 2 ^ n) : mirN n (mirN n x) = x := by
  apply Nat.eq_of_testBit_eq
  intro j
  by_cases hj : j < n
  · have h1 := mirN_bit n (mirN n x) j hj
    rw [mirN_bit n x (n - 1 - j) (by omega), show n - 1 - (n - 1 - j) = j by omega] at h1
    exact h1
  · rw [Nat.testBit_lt_two_pow (Nat.lt_of_lt_of_le (mirN_lt n _) (Nat.pow_le_pow_right (by decide) (by omega))), Nat.testBit_lt_two_pow (Nat.lt_of_lt_of_le h (Nat.pow_le_pow_right (by decide) (by omega)))]
theorem list_nth {xs ys : List Nat} (hl : xs.length = ys.length) (h : ∀ i, i < xs.length → nthN xs i = nthN ys i) : xs = ys := by
  apply List.ext_getElem hl
  intro i h1 h2
  have := h i h1
  rw [nthN_get _ _ h1, nthN_get _ _ h2] at this
  exact this
theorem mirL_mirL {n : Nat} {xs : List Nat} (hv : Valid n xs) : mirL n (mirL n xs) = xs := by
  refine list_nth (by rw [mirL_len, mirL_len]) fun i hi => ?_
  rw [mirL_len, mirL_len] at hi
  rw [mirL_nth _ _ _ (by rw [mirL_len]; exact hi), mirL_nth _ _ _ hi, mirN_mirN (hv.lt i)]
def flpL (n : Nat) (xs : List Nat) : List Nat := painted (fun i j => flG xs i j) xs.length n
theorem flpL_len (n : Nat) (xs : List Nat) : (flpL n xs).length = xs.length := painted_len _ _ _
theorem flpL_nth {n : Nat} {xs : List Nat} (hv : Valid n xs) (i : Nat) (h : i < xs.length) : nthN (flpL n xs) i = nthN xs (xs.length - 1 - i) := by
  unfold flpL
  rw [painted_nth _ _ _ _ h]
  show rowTo (bitN (nthN xs (xs.length - 1 - i))) n = _
  exact rowTo_bits (hv.lt _)
/-- the cards backwards, the first k of them -/
def backT (xs : List Nat) (k : Nat) : List Card := (List.range k).map fun i => ⟨xs.length - 1 - i, nthN xs (xs.length - 1 - i), false⟩
theorem backT_len (xs : List Nat) (k : Nat) : (backT xs k).length = k := by simp [backT]
theorem backT_succ (xs : List Nat) (k : Nat) : backT xs (k + 1) = backT xs k ++ [⟨xs.length - 1 - k, nthN xs (xs.length - 1 - k), false⟩] := by simp [backT, List.range_succ]
theorem backT_nth (xs : List Nat) (k i : Nat) (h : i < k) : nthC (backT xs k) i = ⟨xs.length - 1 - i, nthN xs (xs.length - 1 - i), false⟩ := by
  rw [nthC_get _ _ (by rw [backT_len]; exact h)]; simp [backT]
theorem backT_ok {n : Nat} {xs : List Nat} (hv : Valid n xs) (L : Nat) (hL : xs.length = L) : ChainOk n (backT xs L) := by
  subst hL
  have l0 := hv.l0
  have l1 := hv.l1
  have hd : ∀ i, ¬ i < xs.length → nthC (backT xs xs.length) i = ⟨0, 0, false⟩ := fun i hi => by unfold nthC; rw [List.getElem?_eq_none (by rw [backT_len]; omega)]; rfl
  refine ⟨hv.n0, hv.n1, by rw [backT_len]; exact l0, by rw [backT_len]; exact l1, fun i => ?_, fun i => ?_⟩
  all_goals by_cases hi : i < xs.length
  · rw [backT_nth _ _ _ hi]; exact hv.lt _
  · rw [hd i hi]; exact Nat.pow_pos (by decide)
  · rw [backT_nth _ _ _ hi]; show xs.length - 1 - i < 60; omega
  · rw [hd i hi]; decide
theorem woven_back {n : Nat} {xs : List Nat} (hv : Valid n xs) (L : Nat) (hL : xs.length = L) : wovenTo n (backT xs L) (List.replicate L 1) 0 L = flpL n xs := by
  subst hL
  apply List.ext_getElem?
  intro i
  by_cases hi : i < xs.length
  · have h1 : i < (flpL n xs).length := by rw [flpL_len]; exact hi
    rw [List.getElem?_eq_getElem (by rw [wovenTo_len]; exact hi), List.getElem?_eq_getElem h1]
    have h2 := flpL_nth hv i hi
    rw [nthN_get _ _ h1] at h2
    rw [h2]
    simp only [wovenTo, List.getElem_map, List.getElem_range, backT_len]
    rw [cyl_one _ _ hi, backT_nth _ _ _ hi]
    simp [liftN]
  · rw [List.getElem?_eq_none (by rw [wovenTo_len]; omega), List.getElem?_eq_none (by rw [flpL_len]; omega)]
theorem dqTo_nth (n : Nat) (ws : List Nat) (k i : Nat) (h : i < k) : nthN (dqTo n ws k) i = dqG n ws i := by
  rw [nthN_get _ _ (by rw [dqTo_len]; exact h)]; simp [dqTo]
theorem dqTo_valid (n : Nat) (ws : List Nat) (k : Nat) (hn : 1 ≤ n) (hn2 : n ≤ 24) (hk : 1 ≤ k) (hk2 : k ≤ 60) : Valid n (dqTo n ws k) := by
  refine ⟨hn, hn2, by rw [dqTo_len]; exact hk, by rw [dqTo_len]; exact hk2, fun i => ?_⟩
  by_cases h : i < k
  · rw [dqTo_nth _ _ _ _ h]
    unfold dqG
    split
    · exact Nat.mod_lt _ (Nat.pow_pos (by decide))
    · exact Nat.one_lt_two_pow (by omega)
  · have : nthN (dqTo n ws k) i = 0 := by unfold nthN; rw [List.getElem?_eq_none (by rw [dqTo_len]; omega)]; rfl
    rw [this]; exact Nat.pow_pos (by decide)
theorem call76 (H : Nat) (p : Option Addr) (c : Nat) (ws : List Nat) (W : World) (hH : H < 256) (hw : WordRow W p ws) (hl : ws.length ≤ 9223372036854775807) :
    Calls Try.prog 76 #[.int .u8 (H : Int), .slice p ws.length c] W (MadeL (dqN H) (loomL 12 ws.length) (dqTo (dqN H) ws (loomL 12 ws.length)) W) := by
  have h0 : 0 < loomL 12 ws.length := by unfold loomL; split <;> omega
  refine (pubDesign_any H p c ws W hH hw hl).mono ?_
  rintro e w' ⟨v, rfl, h1, h2⟩
  obtain ⟨g, cap, rfl⟩ := row_slice h1 h0
  exact made_of rfl h0 h1 h2
theorem call78 (n L b c : Nat) (xs : List Nat) (W : World) (hL : xs.length = L) (h0 : 0 < L) (h1 : L ≤ 60) (hx : NatsAt W b 0 xs) (hb : b < W.heap.size) :
    Calls Try.prog 78 #[.agg #[.int .i64 (n : Int), .slice (some ⟨b, 0, none⟩) L c]] W (MadeL n L xs W) := by
  subst hL
  refine (pubCopy_ok n b 0 c xs W h0 (by omega) hx hb).mono ?_
  rintro e w' ⟨g, cap, rfl, h2, h3⟩
  exact made_of rfl h0 h2 h3
theorem call91 (n L b c : Nat) (xs : List Nat) (W : World) (hL : xs.length = L) (hv : Valid n xs) (hx : NatsAt W b 0 xs) (hb : b < W.heap.size) :
    Calls Try.prog 91 #[.agg #[.int .i64 (n : Int), .slice (some ⟨b, 0, none⟩) L c]] W fun e w' =>
      ∃ g cap, e = .returned (.tuple #[.agg #[.int .i64 (n : Int), .slice (some ⟨g, 0, none⟩) L cap], .int .i64 0]) ∧ NatsAt w' g 0 (flpL n xs) ∧ W.heap.size ≤ g ∧ g < w'.heap.size ∧ Below W.heap.size W w' := by
  subst hL
  refine (Flip_ok n b 0 c xs W ⟨hx, hb, hv⟩).mono ?_
  rintro e w' ⟨R, rfl, h1, h2, h3⟩
  exact ⟨R, _, by rw [painted_len], h2.nats, h1, h2.lt, h3⟩
theorem call86 (L : Nat) (W : World) (h0 : 0 < L) (hl : L ≤ 60) :
    Calls Try.prog 86 #[.int .i64 (L : Int)] W fun e w' =>
      ∃ g cap, e = .returned (.slice (some ⟨g, 0, none⟩) L cap) ∧ NatsAt w' g 0 (List.replicate L 1) ∧ W.heap.size ≤ g ∧ g < w'.heap.size ∧ Below W.heap.size W w' := by
  refine (pubOnes_any L W hl).mono ?_
  rintro e w' ⟨v, rfl, h1, h2⟩
  obtain ⟨g, cap, rfl⟩ := row_slice h1 h0
  obtain ⟨a, b, d⟩ := nats_of_row h1 h0
  exact ⟨g, cap, rfl, a, d, b, h2⟩
theorem call89 (L b1 c1 b2 c2 : Nat) (xs : List Nat) (W : World) (h1 : xs.length = L) (hl : L ≤ 60) (hx : NatsAt W b1 0 xs) (hy : NatsAt W b2 0 xs) (hb1 : b1 < W.heap.size) (hb2 : b2 < W.heap.size) :
    Calls Try.prog 89 #[.slice (some ⟨b1, 0, none⟩) L c1, .slice (some ⟨b2, 0, none⟩) L c2] W fun e w' => e = .returned (.bool true) ∧ Below W.heap.size W w' := by
  have h := pubSame_any b1 0 c1 b2 0 c2 xs xs W (by omega) (by omega) hx hy hb1 hb2
  rw [h1, decide_eq_true (rfl : xs = xs)] at h
  exact h
theorem step_call86 {Q : Exit → Act → World → Prop} {K : Act → World → Prop} {a : Act} {W : World} (d s : Nat) (tys : Array TypeId) (ty : TypeId) (pos : String) (aft : Array Edge) {x : Value} {R : Ending → World → Prop}
    (hs : a.tmps[s]?.getD undef = x) (hc : Calls Try.prog 86 #[x] W R) (hK : ∀ e w', R e w' → ∃ v, e = .returned v ∧ K (a.put (some d) v) w') :
    Oper.wp Try.prog ⟨some d, .call { callee := .value (.func 86), args := #[.tmp s], argTypes := tys }, ty, pos, aft, none⟩ a W K Q := by
  unfold Oper.wp
  simp only [execOp]
  have HS := Lib.hid hs
  have HK := Lib.hid hK
  have HC := Lib.hid hc
  clear hs hK hc
  go_simp
  rw [HS.out]
  refine HC.out.mono fun en w' hr => ?_
  obtain ⟨v, rfl, hk⟩ := HK.out _ _ hr
  exact hk
set_option maxRecDepth 8000 in
set_option maxHeartbeats 1000000 in
theorem region_ones {id : Nat} {ops : Array Oper} {Q : Exit → Act → World → Prop} {a : Act} {w : World} (ds : List Nat) (b n N L g q B : Nat) (cs : List Card) (rows : List Nat)
    (hsize : ops.size = 11)
    (hops : IsO ops 0 (atL ds 0) (.load 114 (.tmp b)) [] ∧ IsO ops 1 (atL ds 1) (.move (.tmp n)) [] ∧ IsO ops 2 (atL ds 2) (.call { callee := .value (.func 86), args := #[.tmp (atL ds 1)], argTypes := #[3] }) [1] ∧ IsO ops 3 (atL ds 3) (.call { callee := .value (.func 84), args := #[.tmp (atL ds 0), .const (.int .i64 0), .tmp (atL ds 2)], argTypes := #[114, 3, 24] }) [0, 2] ∧ IsO ops 4 (atL ds 4) (.move (.tmp (atL ds 3))) [3] ∧ IsO ops 5 (atL ds 5) (.extract (.tmp (atL ds 4)) 0) [4] ∧ IsO ops 6 (atL ds 6) (.extract (.tmp (atL ds 4)) 1) [4] ∧ IsO ops 7 (atL ds 7) (.extract (.tmp (atL ds 4)) 2) [4] ∧ IsO ops 8 (atL ds 8) (.assign (.tmp (atL ds 5))) [5] ∧ IsO ops 9 (atL ds 9) (.assign (.tmp (atL ds 6))) [6] ∧ IsO ops 10 (atL ds 10) (.assign (.tmp (atL ds 7))) [7])
    (hlen : ds.length = 11) (hb : backB ops = true) (hd : dB ops ds = true) (hnd : ds.Nodup) (hsz : ∀ e ∈ ds, e < a.tmps.size)
    (hout : a.eval (.tmp b) = .pointer (some ⟨B, 0, none⟩) ∧ b ∉ ds ∧ a.eval (.tmp n) = .int .i64 (L : Int) ∧ n ∉ ds)
    (hbox : BoxAt w B #[.int .i64 (N : Int), .slice (some ⟨g, 0, none⟩) L q] 114) (hc : CardsAt w g cs) (hL : cs.length = L) (hv : ChainOk N cs) (hrows : wovenTo N cs (List.replicate L 1) 0 L = rows)
    (hend : ∀ v W, RowRow w L rows (v (atL ds 8)) (v (atL ds 10)) W → Q .normal (laid a ds v) W) :
    (Code.region id ops true).wp Try.prog Q a w := by
  obtain ⟨h0, h1, h2, h3, h4, h5, h6, h7, h8, h9, h10⟩ := hops
  obtain ⟨o0, p0, o1, p1⟩ := hout
  have l0 := hv.l0
  have l1 := hv.l1
  refine region_grow ds [(b, .pointer (some ⟨B, 0, none⟩)), (n, .int .i64 (L : Int))] (region_weaveF N L g q rows) (by rw [hlen, hsize]) hb hd hnd hsz ?_ region_weaveF.mono ?_ ?_
  · intro q hq
    simp only [List.mem_cons, List.not_mem_nil, or_false] at hq
    rcases hq with rfl | rfl
    · exact ⟨o0, p0⟩
    · exact ⟨o1, p1⟩
  · intro i o ho
    have hi : i < 11 := by rw [← hsize]; exact (Array.getElem?_eq_some_iff.1 ho).1
    match i, hi with
    | 0, _ =>
      obtain ⟨ty, pos, aft, e, hdp⟩ := h0
      rw [e] at ho
      obtain rfl := Option.some.inj ho
      intro a' v W Kc hB hq hdd hK
      exact step_load114 (hq (b, _) (by simp)) (hbox.next hB) (hK _ _ (Below.refl _ _) rfl)
    | 1, _ =>
      obtain ⟨ty, pos, aft, e, hdp⟩ := h1
      rw [e] at ho
      obtain rfl := Option.some.inj ho
      intro a' v W Kc hB hq hdd hK
      exact step_move (hq (n, _) (by simp)) (hK _ _ (Below.refl _ _) rfl)
    | 2, _ =>
      obtain ⟨ty, pos, aft, e, hdp⟩ := h2
      rw [e] at ho
      obtain rfl := Option.some.inj ho
      intro a' v W Kc hB hq hdd hK
      obtain ⟨f1, t1⟩ := hdd 1 (List.all_eq_true.1 hdp 1 (by decide))
      have e1 : v 1 = .int .i64 (L : Int) := f1
      rw [e1] at t1
      refine step_call86 _ _ _ _ _ _ t1 (call86 L W (by omega) (by omega)) ?_
      rintro e w' ⟨g', c', rfl, hn, _, hl, hb'⟩
      exact ⟨_, rfl, hK _ _ hb' ⟨g', c', rfl, hn, hl⟩⟩
    | 3, _ =>
      obtain ⟨ty, pos, aft, e, hdp⟩ := h3
      rw [e] at ho
      obtain rfl := Option.some.inj ho
      intro a' v W Kc hB hq hdd hK
      obtain ⟨f0, t0⟩ := hdd 0 (List.all_eq_true.1 hdp 0 (by decide))
      obtain ⟨f2, t2⟩ := hdd 2 (List.all_eq_true.1 hdp 2 (by decide))
      have e0 : v 0 = .agg #[.int .i64 (N : Int), .slice (some ⟨g, 0, none⟩) L q] := f0
      obtain ⟨g2, c2, e2, hn2, hl2⟩ := f2
      rw [e0] at t0
      rw [e2] at t2
      refine step_call84 _ _ _ _ _ _ _ t0 t2 (call84 N L g q g2 c2 cs W hL hv (hc.next hB) hn2 hl2) ?_
      rintro e w' ⟨g', c', a', rfl, hn, _, hl, hb'⟩
      exact ⟨_, rfl, hK _ _ hb' ⟨g', c', _, rfl, by rw [← hrows]; exact hn, hl⟩⟩
    | 4, _ =>
      obtain ⟨ty, pos, aft, e, hdp⟩ := h4
      rw [e] at ho
      obtain rfl := Option.some.inj ho
      intro a' v W Kc hB hq hdd hK
      obtain ⟨f3, t3⟩ := hdd 3 (List.all_eq_true.1 hdp 3 (by decide))
      exact step_move t3 (hK _ _ (Below.refl _ _) f3)
    | 5, _ =>
      obtain ⟨ty, pos, aft, e, hdp⟩ := h5
      rw [e] at ho
      obtain rfl := Option.some.inj ho
      intro a' v W Kc hB hq hdd hK
      obtain ⟨f4, t4⟩ := hdd 4 (List.all_eq_true.1 hdp 4 (by decide))
      obtain ⟨g', c', a2, e4, hn, hl⟩ := f4
      rw [e4] at t4
      exact step_extract0of3 t4 (hK _ _ (Below.refl _ _) ⟨g', c', rfl, hn, hl⟩)
    | 6, _ =>
      obtain ⟨ty, pos, aft, e, hdp⟩ := h6
      rw [e] at ho
      obtain rfl := Option.some.inj ho
      intro a' v W Kc hB hq hdd hK
      obtain ⟨f4, t4⟩ := hdd 4 (List.all_eq_true.1 hdp 4 (by decide))
      obtain ⟨g', c', a2, e4, hn, hl⟩ := f4
      rw [e4] at t4
      exact step_extract1of3 t4 (hK _ _ (Below.refl _ _) trivial)
    | 7, _ =>
      obtain ⟨ty, pos, aft, e, hdp⟩ := h7
      rw [e] at ho
      obtain rfl := Option.some.inj ho
      intro a' v W Kc hB hq hdd hK
      obtain ⟨f4, t4⟩ := hdd 4 (List.all_eq_true.1 hdp 4 (by decide))
      obtain ⟨g', c', a2, e4, hn, hl⟩ := f4
      rw [e4] at t4
      exact step_extract2of3 t4 (hK _ _ (Below.refl _ _) rfl)
    | 8, _ =>
      obtain ⟨ty, pos, aft, e, hdp⟩ := h8
      rw [e] at ho
      obtain rfl := Option.some.inj ho
      intro a' v W Kc hB hq hdd hK
      obtain ⟨f5, t5⟩ := hdd 5 (List.all_eq_true.1 hdp 5 (by decide))
      exact step_assign t5 (hK _ _ (Below.refl _ _) f5)
    | 9, _ =>
      obtain ⟨ty, pos, aft, e, hdp⟩ := h9
      rw [e] at ho
      obtain rfl := Option.some.inj ho
      intro a' v W Kc hB hq hdd hK
      obtain ⟨f6, t6⟩ := hdd 6 (List.all_eq_true.1 hdp 6 (by decide))
      exact step_assign t6 (hK _ _ (Below.refl _ _) trivial)
    | 10, _ =>
      obtain ⟨ty, pos, aft, e, hdp⟩ := h10
      rw [e] at ho
      obtain rfl := Option.some.inj ho
      intro a' v W Kc hB hq hdd hK
      obtain ⟨f7, t7⟩ := hdd 7 (List.all_eq_true.1 hdp 7 (by decide))
      exact step_assign t7 (hK _ _ (Below.refl _ _) f7)
    | i + 11, h => omega
  · intro v W hF hB
    obtain ⟨g', c', e8, hn, hl⟩ := hF 8 (by omega)
    exact hend v W ⟨g', c', e8, hF 10 (by omega), hn, hl, hB⟩
end Go.Proofs.Ytdmgffoikebgkaa
