/- TopPunched: the harness and the design of a loom. -/
import Derived.Test.YtdmgffoikebgkaaPH
namespace Go.Proofs.Ytdmgffoikebgkaa
open Go.RowKit Go.Shelf
attribute [local go_sem] Oper.semAt_some

theorem loomL_bd (m l : Nat) (hm : 1 ≤ m) : 1 ≤ loomL m l ∧ loomL m l ≤ m := by unfold loomL; split <;> omega
theorem hsTo_nth (n : Nat) (ws : List Nat) (k i : Nat) (hn : 1 ≤ n) (hi : i < k) : nthN (hsTo n ws k) i < n := by
  rw [nthN_get _ _ (by rw [hsTo_len]; exact hi)]
  simp only [hsTo, List.getElem_map, List.getElem_range, hsG]
  split
  · exact Nat.mod_lt _ (by omega)
  · omega
theorem dsTo_valid (n : Nat) (rs : List Nat) (k : Nat) (hn : 1 ≤ n) (hn2 : n ≤ 24) (hk : 1 ≤ k) (hk2 : k ≤ 60) : Valid n (dsTo n rs k) := by
  refine ⟨hn, hn2, by rw [dsTo_len]; exact hk, by rw [dsTo_len]; exact hk2, fun i => ?_⟩
  by_cases hi : i < k
  · rw [nthN_get _ _ (by rw [dsTo_len]; exact hi)]
    simp only [dsTo, List.getElem_map, List.getElem_range, dsG]
    have h2 : 0 < (2 : Nat) ^ n := Nat.pow_pos (by decide)
    exact Nat.lt_of_le_of_lt Nat.and_le_right (by omega)
  · have : nthN (dsTo n rs k) i = 0 := by unfold nthN; rw [List.getElem?_eq_none (by rw [dsTo_len]; omega)]; rfl
    rw [this]; exact Nat.pow_pos (by decide)
def duo {α : Type} (a b : α) : Nat → α
  | 0 => a
  | _ => b
theorem step_load137 {Q : Exit → Act → World → Prop} {K : Act → World → Prop} {a : Act} {W : World} (d s : Nat) (ty : TypeId) (pos : String) (aft : Array Edge) {B : Nat} {h : Int} {p1 p2 p3 : Option Addr} {l1 c1 l2 c2 l3 c3 : Nat}
    (hs : a.tmps[s]?.getD undef = .pointer (some ⟨B, 0, none⟩)) (hb : BoxAt W B #[.int .u8 h, .slice p1 l1 c1, .slice p2 l2 c2, .slice p3 l3 c3] 137)
    (hK : K (a.put (some d) (.agg #[.int .u8 h, .slice p1 l1 c1, .slice p2 l2 c2, .slice p3 l3 c3])) W) :
    Oper.wp Try.prog ⟨some d, .load 137 (.tmp s), ty, pos, aft, none⟩ a W K Q := by
  have e : a.eval (.tmp s) = .pointer (some ⟨B, 0, none⟩) := by rw [eval_tmp]; exact hs
  have k0 := hb.cell' 0 rfl
  have k1 := hb.cell' 1 rfl
  have k2 := hb.cell' 2 rfl
  have k3 := hb.cell' 3 rfl
  unfold Oper.wp
  simp only [execOp, e]
  clear hb e hs
  go_simp
  exact hK
theorem alloc_26 : AllocOk 26 := by
  intro Q K a W d ty pos aft hK
  unfold Oper.wp
  simp only [execOp]
  go_simp
  exact hK
theorem store_26 : StoreOk 26 := by
  intro Q K a W s u ty pos aft B l c h p v0 v1 hs ht hb hK
  have e : a.eval (.tmp s) = .pointer (some ⟨B, 0, none⟩) := by rw [eval_tmp]; exact hs
  have e2 : a.eval (.tmp u) = .agg #[.int .i64 h, .slice p l c] := by rw [eval_tmp]; exact ht
  have f0 : W.frozen? ⟨B, 0, none⟩ = false := by simp [World.frozen?, hb]
  have f1 : W.frozen? ⟨B, 1, none⟩ = false := by simp [World.frozen?, hb]
  have c0 : W.cell? ⟨B, 0, none⟩ = some v0 := by simp [World.cell?, hb]
  have c1 : W.cell? ⟨B, 1, none⟩ = some v1 := by simp [World.cell?, hb]
  have hlt : B < W.heap.size := (Array.getElem?_eq_some_iff.1 hb).1
  unfold Oper.wp
  simp only [execOp, e, e2]
  clear hb e e2 hs ht
  go_simp
  exact hK
theorem alloc_37 : AllocOk 37 := by
  intro Q K a W d ty pos aft hK
  unfold Oper.wp
  simp only [execOp]
  go_simp
  exact hK
theorem store_37 : StoreOk 37 := by
  intro Q K a W s u ty pos aft B l c h p v0 v1 hs ht hb hK
  have e : a.eval (.tmp s) = .pointer (some ⟨B, 0, none⟩) := by rw [eval_tmp]; exact hs
  have e2 : a.eval (.tmp u) = .agg #[.int .i64 h, .slice p l c] := by rw [eval_tmp]; exact ht
  have f0 : W.frozen? ⟨B, 0, none⟩ = false := by simp [World.frozen?, hb]
  have f1 : W.frozen? ⟨B, 1, none⟩ = false := by simp [World.frozen?, hb]
  have c0 : W.cell? ⟨B, 0, none⟩ = some v0 := by simp [World.cell?, hb]
  have c1 : W.cell? ⟨B, 1, none⟩ = some v1 := by simp [World.cell?, hb]
  have hlt : B < W.heap.size := (Array.getElem?_eq_some_iff.1 hb).1
  unfold Oper.wp
  simp only [execOp, e, e2]
  clear hb e e2 hs ht
  go_simp
  exact hK
theorem step_call94 {Q : Exit → Act → World → Prop} {K : Act → World → Prop} {a : Act} {W : World} (d s : Nat) (tys : Array TypeId) (ty : TypeId) (pos : String) (aft : Array Edge) {x : Value} {R : Ending → World → Prop}
    (hs : a.tmps[s]?.getD undef = x) (hc : Calls Try.prog 94 #[x] W R) (hK : ∀ e w', R e w' → ∃ v, e = .returned v ∧ K (a.put (some d) v) w') :
    Oper.wp Try.prog ⟨some d, .call { callee := .value (.func 94), args := #[.tmp s], argTypes := tys }, ty, pos, aft, none⟩ a W K Q := by
  have e : a.eval (.tmp s) = x := by rw [eval_tmp]; exact hs
  unfold Oper.wp
  simp only [execOp]
  have HS := Lib.hid hs
  have HK := Lib.hid hK
  have HC := Lib.hid hc
  clear hs e hK hc
  go_simp
  rw [HS.out]
  refine HC.out.mono fun en w' hr => ?_
  obtain ⟨v, rfl, hk⟩ := HK.out _ _ hr
  exact hk
theorem step_call95 {Q : Exit → Act → World → Prop} {K : Act → World → Prop} {a : Act} {W : World} (d s : Nat) (tys : Array TypeId) (ty : TypeId) (pos : String) (aft : Array Edge) {x : Value} {R : Ending → World → Prop}
    (hs : a.tmps[s]?.getD undef = x) (hc : Calls Try.prog 95 #[x] W R) (hK : ∀ e w', R e w' → ∃ v, e = .returned v ∧ K (a.put (some d) v) w') :
    Oper.wp Try.prog ⟨some d, .call { callee := .value (.func 95), args := #[.tmp s], argTypes := tys }, ty, pos, aft, none⟩ a W K Q := by
  have e : a.eval (.tmp s) = x := by rw [eval_tmp]; exact hs
  unfold Oper.wp
  simp only [execOp]
  have HS := Lib.hid hs
  have HK := Lib.hid hK
  have HC := Lib.hid hc
  clear hs e hK hc
  go_simp
  rw [HS.out]
  refine HC.out.mono fun en w' hr => ?_
  obtain ⟨v, rfl, hk⟩ := HK.out _ _ hr
  exact hk
/-- the loop that turns cards: a box E that holds the belt, its cards in a block g -/
structure LpAt (X : World) (E n g L q : Nat) (cs : List Card) (W : World) : Prop where
  box : BoxAt W E #[.int .i64 (n : Int), .slice (some ⟨g, 0, none⟩) L q] 114
  blk : CardBlk W g cs
  b : Below X.heap.size X W
  lo : X.heap.size ≤ g
  ne : E ≠ g
theorem LpAt.next {X W W' : World} {E n g L q : Nat} {cs : List Card} (h : LpAt X E n g L q cs W) (hb : Below W.heap.size W W') : LpAt X E n g L q cs W' :=
  ⟨h.box.next hb, h.blk.next hb, h.b.trans (hb.mono h.b.size), h.lo, h.ne⟩
theorem LpAt.turn {X W : World} {E n g L q : Nat} {cs : List Card} (h : LpAt X E n g L q cs W) (i : Nat) (t : Bool) (hi : i < cs.length) : LpAt X E n g L q (turnC cs i t) (W.setCell ⟨g, i * 3 + 2, none⟩ (.bool t)) :=
  ⟨h.box.other _ _ h.ne, h.blk.turn i t hi, h.b.setCell h.lo _, h.lo, h.ne⟩
/-- all that lies in memory behind the mended chain -/
structure Sit (w : World) (Y Z E F g1 g2 g5 g7 q1 q2 q5 q7 N K L : Nat) (HS DS : List Nat) (cs : List Card) (W : World) : Prop where
  y : BoxAt W Y #[.int .i64 (N : Int), .slice (some ⟨g1, 0, none⟩) K q1] 26
  z : BoxAt W Z #[.int .i64 (N : Int), .slice (some ⟨g2, 0, none⟩) L q2] 37
  e : BoxAt W E #[.int .i64 (N : Int), .slice (some ⟨g5, 0, none⟩) L q5] 114
  f : BoxAt W F #[.int .i64 (N : Int), .slice (some ⟨g7, 0, none⟩) L q7] 114
  n1 : NatsAt W g1 0 HS
  n2 : NatsAt W g2 0 DS
  l1 : g1 < W.heap.size
  l2 : g2 < W.heap.size
  c5 : CardsAt W g5 cs
  c7 : CardsAt W g7 (punched DS L)
  b : Below w.heap.size w W
theorem Sit.next {w : World} {Y Z E F g1 g2 g5 g7 q1 q2 q5 q7 N K L : Nat} {HS DS : List Nat} {cs : List Card} {W W' : World} (h : Sit w Y Z E F g1 g2 g5 g7 q1 q2 q5 q7 N K L HS DS cs W) (hb : Below W.heap.size W W') :
    Sit w Y Z E F g1 g2 g5 g7 q1 q2 q5 q7 N K L HS DS cs W' :=
  ⟨h.y.next hb, h.z.next hb, h.e.next hb, h.f.next hb, h.n1.below hb h.l1, h.n2.below hb h.l2, Nat.lt_of_lt_of_le h.l1 hb.size, Nat.lt_of_lt_of_le h.l2 hb.size, h.c5.next hb, h.c7.next hb, h.b.trans (hb.mono h.b.size)⟩
set_option maxRecDepth 100000 in
set_option maxHeartbeats 4000000 in
theorem TopPunched_any (H : Nat) (p1 p2 p3 : Option Addr) (c1 c2 c3 : Nat) (ws rs sd : List Nat) (w : World) (hH : H < 256) (hw : ByteRow w p1 ws) (hr : WordRow w p2 rs) (hsd : ByteRow w p3 sd)
    (hwl : ws.length ≤ 9223372036854775807) (hrl : rs.length ≤ 9223372036854775807) (hsl : sd.length ≤ 9223372036854775807) :
    Calls Try.prog 17 #[.agg (loomA H p1 p2 p3 ws.length c1 rs.length c2 sd.length c3)] w fun e w' => e = .returned (.bool true) ∧ Below w.heap.size w w' := by
  obtain ⟨w0, hw0⟩ : ∃ w0, w0 = w.alloc (.cells (loomA H p1 p2 p3 ws.length c1 rs.length c2 sd.length c3) 137) := ⟨_, rfl⟩
  have hb0 : Below w.heap.size w w0 := by rw [hw0]; exact (Below.refl _ _).alloc (Nat.le_refl _) _
  have hA : BoxAt w0 w.heap.size (loomA H p1 p2 p3 ws.length c1 rs.length c2 sd.length c3) 137 := by rw [hw0]; exact BoxAt.new _ _ _
  obtain ⟨hk1, hk2⟩ := loomL_bd 30 ws.length (by omega)
  obtain ⟨hk3, hk4⟩ := loomL_bd 10 rs.length (by omega)
  have H94 : ∀ W, Below w.heap.size w W → Calls Try.prog 94 #[.agg (loomA H p1 p2 p3 ws.length c1 rs.length c2 sd.length c3)] W (MadeL (loomN H) (loomL 30 ws.length) (hsTo (loomN H) ws (loomL 30 ws.length)) W) := fun W hb =>
    (armHarness_any H p1 p2 p3 c1 rs.length c2 sd.length c3 ws W hH (ByteRow.next hw hb) hwl).mono (by
      rintro e w' ⟨v, rfl, h1, h2⟩
      obtain ⟨g, c, rfl⟩ := row_slice h1 (by omega)
      obtain ⟨h3, h4, h5⟩ := nats_of_row h1 (by omega)
      exact ⟨g, c, rfl, h3, h5, h4, h2⟩)
  have H95 : ∀ W, Below w.heap.size w W → Calls Try.prog 95 #[.agg (loomA H p1 p2 p3 ws.length c1 rs.length c2 sd.length c3)] W (MadeL (loomN H) (loomL 10 rs.length) (dsTo (loomN H) rs (loomL 10 rs.length)) W) := fun W hb =>
    (armDesign_any H p1 p2 p3 ws.length c1 c2 sd.length c3 rs W hH (WordRow.next hr hb) hrl).mono (by
      rintro e w' ⟨v, rfl, h1, h2⟩
      obtain ⟨g, c, rfl⟩ := row_slice h1 (by omega)
      obtain ⟨h3, h4, h5⟩ := nats_of_row h1 (by omega)
      exact ⟨g, c, rfl, h3, h5, h4, h2⟩)
  obtain ⟨hN1, hN2⟩ := loomN_bd H
  have hVd := dsTo_valid (loomN H) rs (loomL 10 rs.length) hN1 (by omega) hk3 (by omega)
  have hHk := fun i (hi : i < loomL 30 ws.length) => hsTo_nth (loomN H) ws (loomL 30 ws.length) i hN1 hi
  have hHl := hsTo_len (loomN H) ws (loomL 30 ws.length)
  have hDl := dsTo_len (loomN H) rs (loomL 10 rs.length)
  obtain ⟨K, hK⟩ : ∃ K, loomL 30 ws.length = K := ⟨_, rfl⟩
  obtain ⟨L, hL⟩ : ∃ L, loomL 10 rs.length = L := ⟨_, rfl⟩
  obtain ⟨N, hN⟩ : ∃ N, loomN H = N := ⟨_, rfl⟩
  rw [hN, hK] at H94 hHk hHl
  rw [hK] at hk1 hk2
  rw [hL] at hk3 hk4
  rw [hN, hL] at H95 hVd hDl
  rw [hN] at hN1 hN2
  obtain ⟨HS, hHS⟩ : ∃ HS, hsTo N ws K = HS := ⟨_, rfl⟩
  obtain ⟨DS, hDS⟩ : ∃ DS, dsTo N rs L = DS := ⟨_, rfl⟩
  rw [hHS] at H94 hHk hHl
  rw [hDS] at H95 hVd hDl
  clear hN hHS hDS hK hL
  have HW0 := Lib.hid hw0
  have Hb0 := Lib.hid hb0
  have HA := Lib.hid hA
  have Hsd := Lib.hid hsd
  unfold loomA at HW0 H94 H95 HA ⊢
  have HVd := Lib.hid hVd
  have HHk := Lib.hid hHk
  have HHl := Lib.hid hHl
  have HDl := Lib.hid hDl
  have H94' := Lib.hid H94
  have H95' := Lib.hid H95
  clear hw0 hb0 hA hsd hw hr hVd hHk hHl hDl H94 H95
  go_enter Try.func17, Try.ntmps17
  go_wp2_with fail
  rw [← HW0.out]
  clear HW0
  refine region_lanes 2 (fun _ => .agg #[.int .u8 (H : Int), .slice p1 ws.length c1, .slice p2 rs.length c2, .slice p3 sd.length c3]) (fun _ => N) (duo HS DS) (duo 26 37) (duo 24 26) (duo 25 27) (duo 3 4) (fun _ => .load 137 (.tmp 1)) (duo (.call { callee := .value (.func 94), args := #[.tmp 24], argTypes := #[137] }) (.call { callee := .value (.func 95), args := #[.tmp 26], argTypes := #[137] })) [24, 26, 25, 27, 3, 4] [(1, .pointer (some ⟨w.heap.size, 0, none⟩))] rfl ?hops (slots_of (by decide)) (by decide) (by kernel_rfl) (by decide) ?hsz ?hout (by kernel_rfl) ?hload ?hcall ?halloc ?hstore ?hend
  case hops =>
    intro j hj
    match j, hj with
    | 0, _ => exact ⟨⟨_, _, _, rfl⟩, ⟨_, _, _, rfl, by kernel_rfl⟩, ⟨_, _, _, rfl⟩, ⟨_, _, _, rfl, by kernel_rfl, by kernel_rfl⟩⟩
    | 1, _ => exact ⟨⟨_, _, _, rfl⟩, ⟨_, _, _, rfl, by kernel_rfl⟩, ⟨_, _, _, rfl⟩, ⟨_, _, _, rfl, by kernel_rfl, by kernel_rfl⟩⟩
    | j + 2, h => omega
  case hsz => intro d hd; simp only [List.mem_cons, List.not_mem_nil, or_false] at hd; show d < 188; omega
  case hout =>
    intro q hq
    simp only [List.mem_cons, List.not_mem_nil, or_false] at hq
    subst hq
    exact ⟨rfl, by show (1 : Nat) ∉ [24, 26, 25, 27, 3, 4]; decide⟩
  case hload =>
    intro j hj a' W K' ty pos aft hq hB hK'
    exact step_load137 _ _ _ _ _ (hq _ (List.mem_singleton.2 rfl)) (HA.out.next hB) hK'
  case hcall =>
    intro j hj a' W K' ty pos aft hs hB hK'
    have hB2 := Hb0.out.trans (hB.mono Hb0.out.size)
    match j, hj with
    | 0, _ =>
      refine step_call94 _ _ _ _ _ _ hs (H94'.out W hB2) ?_
      rintro e w' ⟨g, c, rfl, h1, h2, h3, h4⟩
      exact ⟨_, rfl, by rw [← HHl.out]; exact hK' g c w' h1 h2 h3 h4⟩
    | 1, _ =>
      refine step_call95 _ _ _ _ _ _ hs (H95'.out W hB2) ?_
      rintro e w' ⟨g, c, rfl, h1, h2, h3, h4⟩
      exact ⟨_, rfl, by rw [← HDl.out]; exact hK' g c w' h1 h2 h3 h4⟩
    | j + 2, h => omega
  case halloc =>
    intro j hj
    match j, hj with
    | 0, _ => exact alloc_26
    | 1, _ => exact alloc_37
    | j + 2, h => omega
  case hstore =>
    intro j hj
    match j, hj with
    | 0, _ => exact store_26
    | 1, _ => exact store_37
    | j + 2, h => omega
  case hend =>
    intro v W1 hl hB
    obtain ⟨Y, g1, q1, e0, _, hY, hn1, hg1⟩ := hl 0 (by omega)
    obtain ⟨Z, g2, q2, e1, _, hZ, hn2, hg2⟩ := hl 1 (by omega)
    clear hl
    simp only [duo] at e0 e1 hY hZ hn1 hn2
    rw [HHl.out] at hY
    rw [HDl.out] at hZ
    simp only [laid, List.foldl, Act.put, List.setIfInBounds_toArray, List.set_cons_succ, List.set_cons_zero, e0, e1]
    obtain ⟨vu24, hvu24⟩ : ∃ u, v 24 = u := ⟨_, rfl⟩
    obtain ⟨vu25, hvu25⟩ : ∃ u, v 25 = u := ⟨_, rfl⟩
    obtain ⟨vu26, hvu26⟩ : ∃ u, v 26 = u := ⟨_, rfl⟩
    obtain ⟨vu27, hvu27⟩ : ∃ u, v 27 = u := ⟨_, rfl⟩
    rw [hvu24, hvu25, hvu26, hvu27]
    clear hvu24 hvu25 hvu26 hvu27 e0 e1
    have hb1 := Hb0.out.trans (hB.mono Hb0.out.size)
    have HA1 := Lib.hid (HA.out.next hB)
    have Hb1 := Lib.hid hb1
    have Hsd1 := Lib.hid (ByteRow.next Hsd.out hb1)
    have HY := Lib.hid hY
    have HZ := Lib.hid hZ
    have Hn1 := Lib.hid hn1
    have Hn2 := Lib.hid hn2
    have z0 := hZ.cell' 0 rfl
    have z1 := hZ.cell' 1 rfl
    have H96 := Lib.hid (call96 N L g2 q2 DS W1 HDl.out HVd.out hn2 hg2)
    clear HA Hb0 Hsd hY hZ hn1 hn2 hb1 hB
    go_wp2_with fail
    refine H96.out.mono ?_
    rintro e W2 ⟨g3, q3, rfl, hn3, hl3, hg3, hb2⟩
    have HZ2 := Lib.hid (HZ.out.next hb2)
    have H81 := Lib.hid (call81 N L g3 q3 DS W2 HDl.out HVd.out hn3 hg3)
    have Hb2 := Lib.hid hb2
    clear hb2 hn3 hl3 hg3
    go_wp2_with fail
    refine H81.out.mono ?_
    rintro e W3 ⟨g4, q4, rfl, hP, hl4, hb3⟩
    have z0 := (HZ2.out.next hb3).cell' 0 rfl
    have z1 := (HZ2.out.next hb3).cell' 1 rfl
    have zl := (HZ2.out.next hb3).lt
    have HZ3 := Lib.hid (HZ2.out.next hb3)
    have Hb3 := Lib.hid hb3
    have HP := Lib.hid hP
    clear hP hb3 hl4
    go_upto_region 4 with fail
    obtain ⟨W4, hW4⟩ : ∃ W4, W4 = W3.alloc (.cells #[.int .i64 (N : Int), .slice (some ⟨g4, 0, none⟩) L q4] 114) := ⟨_, rfl⟩
    obtain ⟨D, hD⟩ : ∃ D, D = W3.heap.size := ⟨_, rfl⟩
    rw [← hW4, ← hD]
    have hb34 : Below W3.heap.size W3 W4 := by rw [hW4]; exact (Below.refl _ _).alloc (Nat.le_refl _) _
    have HD4 := Lib.hid (show BoxAt W4 D #[.int .i64 (N : Int), .slice (some ⟨g4, 0, none⟩) L q4] 114 by rw [hW4, hD]; exact BoxAt.new _ _ _)
    have hb14 : Below W1.heap.size W1 W4 := (Hb2.out.trans (Hb3.out.mono Hb2.out.size)).trans (hb34.mono (Hb2.out.trans (Hb3.out.mono Hb2.out.size)).size)
    have HZ4 := Lib.hid (HZ3.out.next hb34)
    have HY4 := Lib.hid (HY.out.next hb14)
    have HA4 := Lib.hid (HA1.out.next hb14)
    have Hn14 := Lib.hid (Hn1.out.below hb14 hg1)
    have Hn24 := Lib.hid (Hn2.out.below hb14 hg2)
    have hb04 := Hb1.out.trans (hb14.mono Hb1.out.size)
    have Hsd4 := Lib.hid (ByteRow.next Hsd1.out hb14)
    have Hg14 := Lib.hid (Nat.lt_of_lt_of_le hg1 hb14.size)
    have Hg24 := Lib.hid (Nat.lt_of_lt_of_le hg2 hb14.size)
    have Hb04 := Lib.hid hb04
    have HP4 := Lib.hid (HP.out.next hb34)
    have H97 := Lib.hid (call97 N L g4 q4 p3 c3 sd DS (punched DS L) W4 (punched_len _ _) (by omega) (by omega) HP4.out.at' (by have := Shuf.punched DS; rw [HDl.out] at this; exact this) (show ByteRow W4 p3 sd from Hsd4.out) hsl)
    clear z0 z1 zl hW4 hD hb34 hb14 hb04 HZ HZ2 HZ3 HY HA1 Hn1 Hn2 Hb1 Hb2 Hb3 Hsd1 HP hg1 hg2 H96 H81
    have z0 := HZ4.out.cell' 0 rfl
    have z1 := HZ4.out.cell' 1 rfl
    have d0 := HD4.out.cell' 0 rfl
    have d1 := HD4.out.cell' 1 rfl
    have a3 := HA4.out.cell' 3 rfl
    go_wp2_with fail
    refine H97.out.mono ?_
    rintro e W5 ⟨g5, q5, cs5, rfl, hsh, hP5, hl5, hb5⟩
    have Hsh := Lib.hid hsh
    have HP5 := Lib.hid hP5
    have Hb5 := Lib.hid hb5
    have Hl5 := Lib.hid hl5
    clear hsh hP5 hl5 hb5 H97 d0 d1 z0 z1 a3
    go_upto_region 7 with fail
    obtain ⟨W6, hW6⟩ : ∃ W6, W6 = W5.alloc (.cells #[.int .i64 (N : Int), .slice (some ⟨g5, 0, none⟩) L q5] 114) := ⟨_, rfl⟩
    obtain ⟨E, hE⟩ : ∃ E, E = W5.heap.size := ⟨_, rfl⟩
    rw [← hW6, ← hE]
    have hb56 : Below W5.heap.size W5 W6 := by rw [hW6]; exact (Below.refl _ _).alloc (Nat.le_refl _) _
    have HL6 : Hid (LpAt W4 E N g5 L q5 cs5 W6) := Lib.hid ⟨by rw [hW6, hE]; exact BoxAt.new _ _ _, HP5.out.next hb56, Hb5.out.trans (hb56.mono Hb5.out.size), Hl5.out, by have := HP5.out.lt; omega⟩
    have Hc5 := Lib.hid (show cs5.length = L by rw [Hsh.out.len, HDl.out])
    clear hW6 hE hb56 HP5 Hb5
    go_wp2_with fail
    go_loopw [9] (fun i wr => ∃ (k : Nat) (cs' : List Card), k ≤ L ∧ i = .int .i64 k ∧ Shuf DS cs' ∧ cs'.length = L ∧ LpAt W4 E N g5 L q5 cs' wr) (fun i _ => L - (intOf i).toNat)
    case atStart => exact ⟨0, cs5, Nat.zero_le _, rfl, Hsh.out, Hc5.out, HL6.out⟩
    case round =>
      obtain ⟨k, cs', hk, rfl, hsh, hlen, hT⟩ := hrel
      clear HL6 Hsh Hc5
      by_cases hlt : k < L
      · have e1 : wr.cell? ⟨E, 1, none⟩ = some (.slice (some ⟨g5, 0, none⟩) L q5) := hT.box.cell' 1 rfl
        have a3 : wr.cell? ⟨w.heap.size, 3, none⟩ = some (.slice p3 sd.length c3) := (HA4.out.next hT.b).cell' 3 rfl
        obtain ⟨B, hB⟩ : ∃ B, byteN sd (k + 5) = B := ⟨_, rfl⟩
        have HBy := armByte_any p3 c3 (k + 5) sd wr.drew (ByteRow.next (show ByteRow W4 p3 sd from Hsd4.out) (hT.b.trans ((below_drew1 wr).mono hT.b.size))) hsl (by omega)
        rw [hB, show ((k + 5 : Nat) : Int) = (k : Int) + 5 by omega] at HBy
        have HBy := Lib.hid HBy
        have hgf : wr.frozen? ⟨g5, k * 3 + 2, none⟩ = false := hT.blk.frozen _
        have hgc := hT.blk.at'.c2 k (by omega)
        have hgl : g5 < wr.heap.size := hT.blk.lt
        have hk0 : (0 : Int) ≤ (k : Int) := by omega
        have hk1 : (k : Int) < (L : Int) := by omega
        have hn8 : ¬ ((8 : Int) = 0) := by decide
        have hq8 : Int.tmod (B : Int) 8 = ((B % 8 : Nat) : Int) := by rw [Int.tmod_eq_emod_of_nonneg (by omega)]; omega
        have hw5 : IntKind.i64.wrap ((k : Int) + 5) = (k : Int) + 5 := IntWalk.i64_in _ (by omega)
        have Hsh := Lib.hid hsh
        have Hlen := Lib.hid hlen
        have HT := Lib.hid hT
        clear hsh hlen hT hB
        go_wp2_with fail
        go_region_with ((with_reducible refine HBy.out.mono ?_); rintro e w' ⟨rfl, rfl⟩)
        all_goals go_wp2
        all_goals go_roundw
        all_goals first
          | exact ⟨k + 1, turnC cs' k ((B : Int) % 8 == 7), by omega, by go_num, Hsh.out.turn (by rw [Hlen.out]; exact hlt) _, (turnC_len _ _ _).trans Hlen.out, (HT.out.turn k _ (by rw [Hlen.out]; exact hlt)).next (below_drew1 _)⟩
          | (simp [intOf]; omega)
      · have e0 : wr.cell? ⟨E, 0, none⟩ = some (.int .i64 (N : Int)) := hT.box.cell' 0 rfl
        have e1 : wr.cell? ⟨E, 1, none⟩ = some (.slice (some ⟨g5, 0, none⟩) L q5) := hT.box.cell' 1 rfl
        have H99 := Lib.hid (call99 N L g5 q5 cs' wr hlen (by omega) (by omega) hT.blk.at')
        have Hsh := Lib.hid hsh
        have Hlen := Lib.hid hlen
        have HT := Lib.hid hT
        clear hsh hlen hT
        go_wp2_with fail
        refine H99.out.mono ?_
        rintro e W7 ⟨g6, q6, rfl, hC6, hl6, hb6⟩
        have H82 := Lib.hid (call82 N L g6 q6 DS cs' W7 HDl.out Hlen.out HVd.out hC6.at' Hsh.out)
        have HT7 := Lib.hid (HT.out.next hb6)
        clear hC6 hl6 hb6 e0 e1 HT H99
        go_wp2_with fail
        refine H82.out.mono ?_
        rintro e W8 ⟨g7, q7, rfl, hC7, hl7, hb7⟩
        have HT8 := Lib.hid (HT7.out.next hb7)
        have HC7 := Lib.hid hC7
        clear hC7 hl7 hb7 HT7 H82
        go_upto_region 12 with fail
        obtain ⟨W9, hW9⟩ : ∃ W9, W9 = W8.alloc (.cells #[.int .i64 (N : Int), .slice (some ⟨g7, 0, none⟩) L q7] 114) := ⟨_, rfl⟩
        obtain ⟨F, hF⟩ : ∃ F, F = W8.heap.size := ⟨_, rfl⟩
        rw [← hW9, ← hF]
        have hb89 : Below W8.heap.size W8 W9 := by rw [hW9]; exact (Below.refl _ _).alloc (Nat.le_refl _) _
        have HT9 := Lib.hid (HT8.out.next hb89)
        have HF9 := Lib.hid (show BoxAt W9 F #[.int .i64 (N : Int), .slice (some ⟨g7, 0, none⟩) L q7] 114 by rw [hW9, hF]; exact BoxAt.new _ _ _)
        have HC9 := Lib.hid (HC7.out.next hb89)
        have hb49 := HT9.out.b
        have HS9 : Hid (Sit w Y Z E F g1 g2 g5 g7 q1 q2 q5 q7 N K L HS DS cs' W9) := Lib.hid ⟨HY4.out.next hb49, HZ4.out.next hb49, HT9.out.box, HF9.out, Hn14.out.below hb49 Hg14.out, Hn24.out.below hb49 Hg24.out, Nat.lt_of_lt_of_le Hg14.out hb49.size, Nat.lt_of_lt_of_le Hg24.out hb49.size, HT9.out.blk.at', HC9.out.at', Hb04.out.trans (hb49.mono Hb04.out.size)⟩
        clear hW9 hF hb89 hb49 HT8 HT9 HF9 HC9 HC7 HZ4 HY4 Hn14 Hn24 Hg14 Hg24 Hb04 HA4 HD4 HP4 Hsd4
        have f1 := HS9.out.f.cell' 1 rfl
        go_wp2_with fail
        refine region_cloth [90, 91, 92, 93, 94, 89, 95, 96, 12, 13] 3 4 Y Z N K L g1 q1 g2 q2 HS DS rfl ?hops rfl (by kernel_rfl) (by kernel_rfl) (by decide) ?hsz ?hout HS9.out.y HS9.out.n1 HS9.out.l1 HHl.out hk1 (by omega) HHk.out HDl.out HVd.out HS9.out.z HS9.out.n2 HS9.out.l2 ?hend
        case hops => exact ⟨⟨_, _, _, rfl, by kernel_rfl⟩, ⟨_, _, _, rfl, by kernel_rfl⟩, ⟨_, _, _, rfl, by kernel_rfl⟩, ⟨_, _, _, rfl, by kernel_rfl⟩, ⟨_, _, _, rfl, by kernel_rfl⟩, ⟨_, _, _, rfl, by kernel_rfl⟩, ⟨_, _, _, rfl, by kernel_rfl⟩, ⟨_, _, _, rfl, by kernel_rfl⟩, ⟨_, _, _, rfl, by kernel_rfl⟩, ⟨_, _, _, rfl, by kernel_rfl⟩⟩
        case hsz => intro d hd; simp only [List.mem_cons, List.not_mem_nil, or_false] at hd; show d < 188; omega
        case hout => exact ⟨rfl, by decide, rfl, by decide⟩
        case hend =>
          intro v X14 hv
          obtain ⟨gc, cc, e1, e2, hsc, hgc, hb14⟩ := hv
          change v 12 = _ at e1
          change v 13 = _ at e2
          simp only [laid, List.foldl, Act.put, List.setIfInBounds_toArray, List.set_cons_succ, List.set_cons_zero, e1, e2]
          generalize v 90 = vu90
          generalize v 91 = vu91
          generalize v 92 = vu92
          generalize v 93 = vu93
          generalize v 94 = vu94
          generalize v 89 = vu89
          generalize v 95 = vu95
          generalize v 96 = vu96
          clear e1 e2 v
          have HSa := Lib.hid (HS9.out.next hb14)
          have Hsc := Lib.hid hsc
          have Hgc := Lib.hid hgc
          have hwp : wovenTo N (punched DS L) (List.replicate L 1) 0 L = DS := by have := woven_punched N DS; rw [HDl.out] at this; exact this
          have hpk : ChainOk N (punched DS L) := by have := punched_ok HVd.out; rw [HDl.out] at this; exact this
          have Hwp := Lib.hid hwp
          have Hpk := Lib.hid hpk
          clear hsc hgc hb14 HS9 f1 hwp hpk
          go_wp2_with fail
          refine region_weave [98, 99, 100, 101, 97, 102, 103, 104, 14, 15, 16] 10 5 N L g7 q7 F (punched DS L) DS rfl ?hops rfl (by kernel_rfl) (by kernel_rfl) (by decide) ?hsz ?hout HSa.out.f HSa.out.c7 (punched_len _ _) Hpk.out Hwp.out ?hend
          case hops => exact ⟨⟨_, _, _, rfl, by kernel_rfl⟩, ⟨_, _, _, rfl, by kernel_rfl⟩, ⟨_, _, _, rfl, by kernel_rfl⟩, ⟨_, _, _, rfl, by kernel_rfl⟩, ⟨_, _, _, rfl, by kernel_rfl⟩, ⟨_, _, _, rfl, by kernel_rfl⟩, ⟨_, _, _, rfl, by kernel_rfl⟩, ⟨_, _, _, rfl, by kernel_rfl⟩, ⟨_, _, _, rfl, by kernel_rfl⟩, ⟨_, _, _, rfl, by kernel_rfl⟩, ⟨_, _, _, rfl, by kernel_rfl⟩⟩
          case hsz => intro d hd; simp only [List.mem_cons, List.not_mem_nil, or_false] at hd; show d < 188; omega
          case hout => exact ⟨rfl, by decide, rfl, by decide⟩
          case hend =>
            intro v X15 hv
            obtain ⟨gr, cr, e1, e2, hrr, hgr, hb15⟩ := hv
            change v 14 = _ at e1
            change v 16 = _ at e2
            simp only [laid, List.foldl, Act.put, List.setIfInBounds_toArray, List.set_cons_succ, List.set_cons_zero, e1, e2]
            generalize v 98 = vu98
            generalize v 99 = vu99
            generalize v 100 = vu100
            generalize v 101 = vu101
            generalize v 97 = vu97
            generalize v 102 = vu102
            generalize v 103 = vu103
            generalize v 104 = vu104
            generalize v 15 = vu15
            clear e1 e2 v
            have HSb := Lib.hid (HSa.out.next hb15)
            have Hsc2 := Lib.hid (Hsc.out.below hb15 Hgc.out)
            have Hgc2 := Lib.hid (Nat.lt_of_lt_of_le Hgc.out hb15.size)
            have Hrr := Lib.hid hrr
            have Hgr := Lib.hid hgr
            clear hrr hgr hb15 HSa Hsc Hgc Hpk Hwp
            go_wp2_with fail
            refine region_rows [106, 107, 108, 109, 110, 111, 112, 105, 113, 114, 17, 18] 3 4 14 Y Z N K L g1 q1 gr cr HS DS rfl ?hops rfl (by kernel_rfl) (by kernel_rfl) (by decide) ?hsz ?hout HSb.out.y HSb.out.n1 HSb.out.l1 HHl.out hk1 (by omega) HHk.out HDl.out HVd.out HSb.out.z Hrr.out Hgr.out ?hend
            case hops => exact ⟨⟨_, _, _, rfl, by kernel_rfl⟩, ⟨_, _, _, rfl, by kernel_rfl⟩, ⟨_, _, _, rfl, by kernel_rfl⟩, ⟨_, _, _, rfl, by kernel_rfl⟩, ⟨_, _, _, rfl, by kernel_rfl⟩, ⟨_, _, _, rfl, by kernel_rfl⟩, ⟨_, _, _, rfl, by kernel_rfl⟩, ⟨_, _, _, rfl, by kernel_rfl⟩, ⟨_, _, _, rfl, by kernel_rfl⟩, ⟨_, _, _, rfl, by kernel_rfl⟩, ⟨_, _, _, rfl, by kernel_rfl⟩, ⟨_, _, _, rfl, by kernel_rfl⟩⟩
            case hsz => intro d hd; simp only [List.mem_cons, List.not_mem_nil, or_false] at hd; show d < 188; omega
            case hout => exact ⟨rfl, by decide, rfl, by decide, rfl, by decide⟩
            case hend =>
              intro v X16 hv
              obtain ⟨go, co, e1, e2, hso, hgo, hb16⟩ := hv
              change v 17 = _ at e1
              change v 18 = _ at e2
              simp only [laid, List.foldl, Act.put, List.setIfInBounds_toArray, List.set_cons_succ, List.set_cons_zero, e1, e2]
              generalize v 106 = vu106
              generalize v 107 = vu107
              generalize v 108 = vu108
              generalize v 109 = vu109
              generalize v 110 = vu110
              generalize v 111 = vu111
              generalize v 112 = vu112
              generalize v 105 = vu105
              generalize v 113 = vu113
              generalize v 114 = vu114
              clear e1 e2 v
              have HSc := Lib.hid (HSb.out.next hb16)
              have Hsc3 := Lib.hid (Hsc2.out.below hb16 Hgc2.out)
              have Hgc3 := Lib.hid (Nat.lt_of_lt_of_le Hgc2.out hb16.size)
              have Hrr2 := Lib.hid (Hrr.out.below hb16 Hgr.out)
              have Hgr2 := Lib.hid (Nat.lt_of_lt_of_le Hgr.out hb16.size)
              have Hso := Lib.hid hso
              have Hgo := Lib.hid hgo
              have Hck := Lib.hid (Hsh.out.ok HVd.out)
              clear hso hgo hb16 HSb Hsc2 Hgc2 Hrr Hgr
              go_wp2_with fail
              refine region_weave [116, 117, 118, 119, 115, 120, 121, 122, 19, 20, 21] 8 5 N L g5 q5 E cs' (wovenTo N cs' (List.replicate L 1) 0 L) rfl ?hops rfl (by kernel_rfl) (by kernel_rfl) (by decide) ?hsz ?hout HSc.out.e HSc.out.c5 Hlen.out Hck.out rfl ?hend
              case hops => exact ⟨⟨_, _, _, rfl, by kernel_rfl⟩, ⟨_, _, _, rfl, by kernel_rfl⟩, ⟨_, _, _, rfl, by kernel_rfl⟩, ⟨_, _, _, rfl, by kernel_rfl⟩, ⟨_, _, _, rfl, by kernel_rfl⟩, ⟨_, _, _, rfl, by kernel_rfl⟩, ⟨_, _, _, rfl, by kernel_rfl⟩, ⟨_, _, _, rfl, by kernel_rfl⟩, ⟨_, _, _, rfl, by kernel_rfl⟩, ⟨_, _, _, rfl, by kernel_rfl⟩, ⟨_, _, _, rfl, by kernel_rfl⟩⟩
              case hsz => intro d hd; simp only [List.mem_cons, List.not_mem_nil, or_false] at hd; show d < 188; omega
              case hout => exact ⟨rfl, by decide, rfl, by decide⟩
              case hend =>
                intro v X17 hv
                obtain ⟨gw, cw, e1, e2, hww, hgw, hb17⟩ := hv
                change v 19 = _ at e1
                change v 21 = _ at e2
                simp only [laid, List.foldl, Act.put, List.setIfInBounds_toArray, List.set_cons_succ, List.set_cons_zero, e1, e2]
                generalize v 116 = vu116
                generalize v 117 = vu117
                generalize v 118 = vu118
                generalize v 119 = vu119
                generalize v 115 = vu115
                generalize v 120 = vu120
                generalize v 121 = vu121
                generalize v 122 = vu122
                generalize v 20 = vu20
                clear e1 e2 v
                obtain ⟨WR, hWR⟩ : ∃ WR, wovenTo N cs' (List.replicate L 1) 0 L = WR := ⟨_, rfl⟩
                have hWv : Valid N WR := by rw [← hWR]; exact woven_valid Hck.out _ _ _ (by omega) (by omega)
                have hWl : WR.length = L := by rw [← hWR]; exact wovenTo_len _ _ _ _ _
                rw [hWR] at hww
                have HSd := Lib.hid (HSc.out.next hb17)
                have Hsc4 := Lib.hid (Hsc3.out.below hb17 Hgc3.out)
                have Hgc4 := Lib.hid (Nat.lt_of_lt_of_le Hgc3.out hb17.size)
                have Hrr3 := Lib.hid (Hrr2.out.below hb17 Hgr2.out)
                have Hgr3 := Lib.hid (Nat.lt_of_lt_of_le Hgr2.out hb17.size)
                have Hso2 := Lib.hid (Hso.out.below hb17 Hgo.out)
                have Hgo2 := Lib.hid (Nat.lt_of_lt_of_le Hgo.out hb17.size)
                have Hww := Lib.hid hww
                have Hgw := Lib.hid hgw
                have HWv := Lib.hid hWv
                have HWl := Lib.hid hWl
                have hcl := clothS_len HS DS
                rw [HDl.out] at hcl
                have Hcl := Lib.hid hcl
                have z0 := HSd.out.z.cell' 0 rfl
                have z1 := HSd.out.z.cell' 1 rfl
                have H102 := Lib.hid (call102 L gr cr g2 q2 DS DS X17 HDl.out HDl.out (by omega) Hrr3.out HSd.out.n2 Hgr3.out HSd.out.l2)
                clear hww hgw hWv hWl hWR hb17 HSc Hsc3 Hgc3 Hrr2 Hgr2 Hso Hgo Hck hcl
                go_wp2_with fail
                refine H102.out.mono ?_
                rintro e X18 ⟨rfl, hb18⟩
                have HSe := Lib.hid (HSd.out.next hb18)
                have H103 := Lib.hid (call103 L go co gc cc (clothS HS DS) X18 Hcl.out (by omega) (Hso2.out.below hb18 Hgo2.out) (Hsc4.out.below hb18 Hgc4.out) (Nat.lt_of_lt_of_le Hgo2.out hb18.size) (Nat.lt_of_lt_of_le Hgc4.out hb18.size))
                have Hsc5 := Lib.hid (Hsc4.out.below hb18 Hgc4.out)
                have Hgc5 := Lib.hid (Nat.lt_of_lt_of_le Hgc4.out hb18.size)
                have Hww2 := Lib.hid (Hww.out.below hb18 Hgw.out)
                have Hgw2 := Lib.hid (Nat.lt_of_lt_of_le Hgw.out hb18.size)
                clear hb18 z0 z1 HSd Hso2 Hgo2 Hrr3 Hgr3 Hsc4 Hgc4 Hww Hgw H102
                go_wp2_with fail
                refine H103.out.mono ?_
                rintro e X19 ⟨rfl, hb19⟩
                have HSf := Lib.hid (HSe.out.next hb19)
                have Hsc6 := Lib.hid (Hsc5.out.below hb19 Hgc5.out)
                have Hgc6 := Lib.hid (Nat.lt_of_lt_of_le Hgc5.out hb19.size)
                have Hww3 := Lib.hid (Hww2.out.below hb19 Hgw2.out)
                have Hgw3 := Lib.hid (Nat.lt_of_lt_of_le Hgw2.out hb19.size)
                have z0 := HSf.out.z.cell' 0 rfl
                have y0 := HSf.out.y.cell' 0 rfl
                have y1 := HSf.out.y.cell' 1 rfl
                have H38 := Lib.hid (call38 N K L g1 q1 gw cw HS WR X19 HHl.out HWl.out hk1 (by omega) HHk.out HWv.out HSf.out.n1 HSf.out.l1 Hww3.out Hgw3.out)
                clear hb19 HSe Hsc5 Hgc5 Hww2 Hgw2 H103
                go_wp2_with fail
                refine H38.out.mono ?_
                rintro e X20 ⟨gx, cx, rfl, hsx, _, hgx, hb20⟩
                have HSg := Lib.hid (HSf.out.next hb20)
                have Hsc7 := Lib.hid (Hsc6.out.below hb20 Hgc6.out)
                have Hgc7 := Lib.hid (Nat.lt_of_lt_of_le Hgc6.out hb20.size)
                have Hsx := Lib.hid hsx
                have Hgx := Lib.hid hgx
                have z0 := HSg.out.z.cell' 0 rfl
                have z1 := HSg.out.z.cell' 1 rfl
                have H102 := Lib.hid (call102 L gw cw g2 q2 WR DS X20 HWl.out HDl.out (by omega) (Hww3.out.below hb20 Hgw3.out) HSg.out.n2 (Nat.lt_of_lt_of_le Hgw3.out hb20.size) HSg.out.l2)
                clear y0 y1 hb20 hsx hgx HSf Hsc6 Hgc6 Hww3 Hgw3 H38
                by_cases hWD : WR = DS
                · have dW : decide (WR = DS) = true := by simpa using hWD
                  rw [dW] at H102
                  rw [hWD] at Hsx
                  clear hWD dW
                  go_wp2_with fail
                  refine H102.out.mono ?_
                  rintro e X21 ⟨rfl, hb21⟩
                  have HSh := Lib.hid (HSg.out.next hb21)
                  have H103 := Lib.hid (call103 L gx cx gc cc (clothS HS DS) X21 Hcl.out (by omega) (Hsx.out.below hb21 Hgx.out) (Hsc7.out.below hb21 Hgc7.out) (Nat.lt_of_lt_of_le Hgx.out hb21.size) (Nat.lt_of_lt_of_le Hgc7.out hb21.size))
                  clear hb21 z0 z1
                  go_wp2_with fail
                  refine H103.out.mono ?_
                  rintro e X22 ⟨rfl, hb22⟩
                  have Hb := Lib.hid ((HSh.out.next hb22).b)
                  clear hb22
                  go_wp2_with fail
                  refine (armPoint_any X22).mono ?_
                  rintro e X23 ⟨rfl, hb23⟩
                  have Hb3 := Lib.hid (Hb.out.trans (hb23.mono Hb.out.size))
                  clear hb23
                  go_wp2_with fail
                  refine (armChain_any X23).mono ?_
                  rintro e X24 ⟨rfl, hb24⟩
                  have Hb4 := Lib.hid (Hb3.out.trans (hb24.mono Hb3.out.size))
                  clear hb24
                  go_wp2_with fail
                  refine (armTie_any X24).mono ?_
                  rintro e X25 ⟨rfl, hb25⟩
                  have Hb5 := Lib.hid (Hb4.out.trans (hb25.mono Hb4.out.size))
                  clear hb25
                  go_wp2_with fail
                  go_ret
                  exact ⟨rfl, Hb5.out⟩
                · have dW : decide (WR = DS) = false := by simpa using hWD
                  rw [dW] at H102
                  clear hWD dW
                  go_wp2_with fail
                  refine H102.out.mono ?_
                  rintro e X22 ⟨rfl, hb22⟩
                  have Hb := Lib.hid ((HSg.out.next hb22).b)
                  clear hb22 z0 z1
                  go_wp2_with fail
                  refine (armPoint_any X22).mono ?_
                  rintro e X23 ⟨rfl, hb23⟩
                  have Hb3 := Lib.hid (Hb.out.trans (hb23.mono Hb.out.size))
                  clear hb23
                  go_wp2_with fail
                  refine (armChain_any X23).mono ?_
                  rintro e X24 ⟨rfl, hb24⟩
                  have Hb4 := Lib.hid (Hb3.out.trans (hb24.mono Hb3.out.size))
                  clear hb24
                  go_wp2_with fail
                  refine (armTie_any X24).mono ?_
                  rintro e X25 ⟨rfl, hb25⟩
                  have Hb5 := Lib.hid (Hb4.out.trans (hb25.mono Hb4.out.size))
                  clear hb25
                  go_wp2_with fail
                  go_ret
                  exact ⟨rfl, Hb5.out⟩

end Go.Proofs.Ytdmgffoikebgkaa
