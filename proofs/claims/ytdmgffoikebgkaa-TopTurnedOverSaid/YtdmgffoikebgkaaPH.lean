/- Whole regions of the statements: rows woven by a chain, cloths woven by a harness. -/
import Derived.Test.YtdmgffoikebgkaaPG
namespace Go.Proofs.Ytdmgffoikebgkaa
open Go.RowKit Go.Shelf

def IsO (ops : Array Oper) (i dst : Nat) (op : Op) (deps : List Nat) : Prop :=
  ∃ ty pos aft, ops[i]? = some ⟨some dst, op, ty, pos, aft, none⟩ ∧ deps.all (depB ⟨some dst, op, ty, pos, aft, none⟩) = true
/-- what a woven cloth leaves -/
def StrRow (X : World) (L : Nat) (ss : List ByteArray) (s t : Value) (wx : World) : Prop := ∃ g c, s = .slice (some ⟨g, 0, none⟩) L c ∧ t = .int .i64 0 ∧ StrsAt wx g 0 ss ∧ g < wx.heap.size ∧ Below X.heap.size X wx
/-- what woven rows leave -/
def RowRow (X : World) (L : Nat) (xs : List Nat) (s t : Value) (wx : World) : Prop := ∃ g c, s = .slice (some ⟨g, 0, none⟩) L c ∧ t = .int .i64 0 ∧ NatsAt wx g 0 xs ∧ g < wx.heap.size ∧ Below X.heap.size X wx
def RowF (L : Nat) (xs : List Nat) (v : Value) (W : World) : Prop := ∃ g c, v = .slice (some ⟨g, 0, none⟩) L c ∧ NatsAt W g 0 xs ∧ g < W.heap.size
theorem RowF.mono {L : Nat} {xs : List Nat} {v : Value} {W W' : World} (h : RowF L xs v W) (hb : Below W.heap.size W W') : RowF L xs v W' := by
  obtain ⟨g, c, a, b, l⟩ := h; exact ⟨g, c, a, b.below hb l, Nat.lt_of_lt_of_le l hb.size⟩
def AggF (n L : Nat) (xs : List Nat) (v : Value) (W : World) : Prop := ∃ g c, v = .agg #[.int .i64 (n : Int), .slice (some ⟨g, 0, none⟩) L c] ∧ NatsAt W g 0 xs ∧ g < W.heap.size
theorem AggF.mono {n L : Nat} {xs : List Nat} {v : Value} {W W' : World} (h : AggF n L xs v W) (hb : Below W.heap.size W W') : AggF n L xs v W' := by
  obtain ⟨g, c, a, b, l⟩ := h; exact ⟨g, c, a, b.below hb l, Nat.lt_of_lt_of_le l hb.size⟩
def Tup3 (L : Nat) (xs : List Nat) (v : Value) (W : World) : Prop := ∃ g c a, v = .tuple #[.slice (some ⟨g, 0, none⟩) L c, .int .i64 a, .int .i64 0] ∧ NatsAt W g 0 xs ∧ g < W.heap.size
theorem Tup3.mono {L : Nat} {xs : List Nat} {v : Value} {W W' : World} (h : Tup3 L xs v W) (hb : Below W.heap.size W W') : Tup3 L xs v W' := by
  obtain ⟨g, c, q, a, b, l⟩ := h; exact ⟨g, c, q, a, b.below hb l, Nat.lt_of_lt_of_le l hb.size⟩
def StrF (L : Nat) (ss : List ByteArray) (v : Value) (W : World) : Prop := ∃ g c, v = .slice (some ⟨g, 0, none⟩) L c ∧ StrsAt W g 0 ss ∧ g < W.heap.size
theorem StrF.mono {L : Nat} {ss : List ByteArray} {v : Value} {W W' : World} (h : StrF L ss v W) (hb : Below W.heap.size W W') : StrF L ss v W' := by
  obtain ⟨g, c, a, b, l⟩ := h; exact ⟨g, c, a, b.below hb l, Nat.lt_of_lt_of_le l hb.size⟩
def Tup2 (L : Nat) (ss : List ByteArray) (v : Value) (W : World) : Prop := ∃ g c, v = .tuple #[.slice (some ⟨g, 0, none⟩) L c, .int .i64 0] ∧ StrsAt W g 0 ss ∧ g < W.heap.size
theorem Tup2.mono {L : Nat} {ss : List ByteArray} {v : Value} {W W' : World} (h : Tup2 L ss v W) (hb : Below W.heap.size W W') : Tup2 L ss v W' := by
  obtain ⟨g, c, a, b, l⟩ := h; exact ⟨g, c, a, b.below hb l, Nat.lt_of_lt_of_le l hb.size⟩
theorem call108 (L b c : Nat) (xs : List Nat) (W : World) (hL : xs.length = L) (h0 : 0 < L) (h1 : L ≤ 60) (hx : NatsAt W b 0 xs) (hb : b < W.heap.size) :
    Calls Try.prog 108 #[.slice (some ⟨b, 0, none⟩) L c] W fun e w' => ∃ g cap, e = .returned (.slice (some ⟨g, 0, none⟩) L cap) ∧ NatsAt w' g 0 xs ∧ W.heap.size ≤ g ∧ g < w'.heap.size ∧ Below W.heap.size W w' := by
  subst hL
  refine (armInts_ok b 0 c xs W h0 (by omega) hx hb).mono ?_
  rintro e w' ⟨g, cap, rfl, h1, h2⟩
  obtain ⟨a, b, d⟩ := nats_of_row h1 h0
  exact ⟨g, cap, rfl, a, d, b, h2⟩
def region_weaveF (N L g q : Nat) (rows : List Nat) : Nat → Value → World → Prop
  | 0, v, _ => v = .agg #[.int .i64 (N : Int), .slice (some ⟨g, 0, none⟩) L q]
  | 1, v, _ => v = .int .i64 (L : Int)
  | 2, v, W => RowF L (List.replicate L 1) v W
  | 3, v, W => Tup3 L rows v W
  | 4, v, W => Tup3 L rows v W
  | 5, v, W => RowF L rows v W
  | 6, _, _ => True
  | 7, v, _ => v = .int .i64 0
  | 8, v, W => RowF L rows v W
  | 9, _, _ => True
  | _, v, _ => v = .int .i64 0
theorem region_weaveF.mono {N L g q : Nat} {rows : List Nat} : ∀ (i : Nat) (v : Value) (W W' : World), region_weaveF N L g q rows i v W → Below W.heap.size W W' → region_weaveF N L g q rows i v W'
  | 0, _, _, _, h, _ => h
  | 1, _, _, _, h, _ => h
  | 2, _, _, _, h, hb => RowF.mono h hb
  | 3, _, _, _, h, hb => Tup3.mono h hb
  | 4, _, _, _, h, hb => Tup3.mono h hb
  | 5, _, _, _, h, hb => RowF.mono h hb
  | 6, _, _, _, h, _ => h
  | 7, _, _, _, h, _ => h
  | 8, _, _, _, h, hb => RowF.mono h hb
  | 9, _, _, _, h, _ => h
  | _ + 10, _, _, _, h, _ => h
set_option maxRecDepth 8000 in
set_option maxHeartbeats 1000000 in
theorem region_weave {id : Nat} {ops : Array Oper} {Q : Exit → Act → World → Prop} {a : Act} {w : World} (ds : List Nat) (b n N L g q B : Nat) (cs : List Card) (rows : List Nat)
    (hsize : ops.size = 11)
    (hops : IsO ops 0 (atL ds 0) (.load 114 (.tmp b)) [] ∧ IsO ops 1 (atL ds 1) (.move (.tmp n)) [] ∧ IsO ops 2 (atL ds 2) (.call { callee := .value (.func 101), args := #[.tmp (atL ds 1), .const (.int .i64 1)], argTypes := #[3, 3] }) [1] ∧ IsO ops 3 (atL ds 3) (.call { callee := .value (.func 84), args := #[.tmp (atL ds 0), .const (.int .i64 0), .tmp (atL ds 2)], argTypes := #[114, 3, 24] }) [0, 2] ∧ IsO ops 4 (atL ds 4) (.move (.tmp (atL ds 3))) [3] ∧ IsO ops 5 (atL ds 5) (.extract (.tmp (atL ds 4)) 0) [4] ∧ IsO ops 6 (atL ds 6) (.extract (.tmp (atL ds 4)) 1) [4] ∧ IsO ops 7 (atL ds 7) (.extract (.tmp (atL ds 4)) 2) [4] ∧ IsO ops 8 (atL ds 8) (.assign (.tmp (atL ds 5))) [5] ∧ IsO ops 9 (atL ds 9) (.assign (.tmp (atL ds 6))) [6] ∧ IsO ops 10 (atL ds 10) (.assign (.tmp (atL ds 7))) [7])
    (hlen : ds.length = 11) (hb : backB ops = true) (hd : dB ops ds = true) (hnd : ds.Nodup) (hsz : ∀ e ∈ ds, e < a.tmps.size)
    (hout : a.eval (.tmp b) = .pointer (some ⟨B, 0, none⟩) ∧ b ∉ ds ∧ a.eval (.tmp n) = .int .i64 (L : Int) ∧ n ∉ ds)
    (hbox : BoxAt w B #[.int .i64 (N : Int), .slice (some ⟨g, 0, none⟩) L q] 114) (hc : CardsAt w g cs) (hL : cs.length = L) (hv : ChainOk N cs) (hrows : wovenTo N cs (List.replicate L 1) 0 L = rows)
    (hend : ∀ v W, RowRow w L rows (v (atL ds 8)) (v (atL ds 10)) W → Q .normal (laid a ds v) W) :
    (Code.region id ops true).wp Try.prog Q a w := by
  obtain ⟨h0, h1, h2, h3, h4, h5, h6, h7, h8, h9, h10⟩ := hops
  obtain ⟨o0, p0, o1, p1⟩ := hout
  have l0 := hv.l0
  have l1 := hv.l1
  refine region_grow ds [(b, .pointer (some ⟨B, 0, none⟩)), (n, .int .i64 (L : Int))] (region_weaveF N L g q rows) (by rw [hlen, hsize]) hb hd hnd hsz ?_ region_weaveF.mono ?_ ?_
  · intro q hq
    simp only [List.mem_cons, List.not_mem_nil, or_false] at hq
    rcases hq with rfl | rfl
    · exact ⟨o0, p0⟩
    · exact ⟨o1, p1⟩
  · intro i o ho
    have hi : i < 11 := by rw [← hsize]; exact (Array.getElem?_eq_some_iff.1 ho).1
    match i, hi with
    | 0, _ =>
      obtain ⟨ty, pos, aft, e, hdp⟩ := h0
      rw [e] at ho
      obtain rfl := Option.some.inj ho
      intro a' v W Kc hB hq hdd hK
      exact step_load114 (hq (b, _) (by simp)) (hbox.next hB) (hK _ _ (Below.refl _ _) rfl)
    | 1, _ =>
      obtain ⟨ty, pos, aft, e, hdp⟩ := h1
      rw [e] at ho
      obtain rfl := Option.some.inj ho
      intro a' v W Kc hB hq hdd hK
      exact step_move (hq (n, _) (by simp)) (hK _ _ (Below.refl _ _) rfl)
    | 2, _ =>
      obtain ⟨ty, pos, aft, e, hdp⟩ := h2
      rw [e] at ho
      obtain rfl := Option.some.inj ho
      intro a' v W Kc hB hq hdd hK
      obtain ⟨f1, t1⟩ := hdd 1 (List.all_eq_true.1 hdp 1 (by decide))
      have e1 : v 1 = .int .i64 (L : Int) := f1
      rw [e1] at t1
      refine step_call101 _ _ _ _ _ _ t1 (call101 L W (by omega) (by omega)) ?_
      rintro e w' ⟨g', c', rfl, hn, _, hl, hb'⟩
      exact ⟨_, rfl, hK _ _ hb' ⟨g', c', rfl, hn, hl⟩⟩
    | 3, _ =>
      obtain ⟨ty, pos, aft, e, hdp⟩ := h3
      rw [e] at ho
      obtain rfl := Option.some.inj ho
      intro a' v W Kc hB hq hdd hK
      obtain ⟨f0, t0⟩ := hdd 0 (List.all_eq_true.1 hdp 0 (by decide))
      obtain ⟨f2, t2⟩ := hdd 2 (List.all_eq_true.1 hdp 2 (by decide))
      have e0 : v 0 = .agg #[.int .i64 (N : Int), .slice (some ⟨g, 0, none⟩) L q] := f0
      obtain ⟨g2, c2, e2, hn2, hl2⟩ := f2
      rw [e0] at t0
      rw [e2] at t2
      refine step_call84 _ _ _ _ _ _ _ t0 t2 (call84 N L g q g2 c2 cs W hL hv (hc.next hB) hn2 hl2) ?_
      rintro e w' ⟨g', c', a', rfl, hn, _, hl, hb'⟩
      exact ⟨_, rfl, hK _ _ hb' ⟨g', c', _, rfl, by rw [← hrows]; exact hn, hl⟩⟩
    | 4, _ =>
      obtain ⟨ty, pos, aft, e, hdp⟩ := h4
      rw [e] at ho
      obtain rfl := Option.some.inj ho
      intro a' v W Kc hB hq hdd hK
      obtain ⟨f3, t3⟩ := hdd 3 (List.all_eq_true.1 hdp 3 (by decide))
      exact step_move t3 (hK _ _ (Below.refl _ _) f3)
    | 5, _ =>
      obtain ⟨ty, pos, aft, e, hdp⟩ := h5
      rw [e] at ho
      obtain rfl := Option.some.inj ho
      intro a' v W Kc hB hq hdd hK
      obtain ⟨f4, t4⟩ := hdd 4 (List.all_eq_true.1 hdp 4 (by decide))
      obtain ⟨g', c', a2, e4, hn, hl⟩ := f4
      rw [e4] at t4
      exact step_extract0of3 t4 (hK _ _ (Below.refl _ _) ⟨g', c', rfl, hn, hl⟩)
    | 6, _ =>
      obtain ⟨ty, pos, aft, e, hdp⟩ := h6
      rw [e] at ho
      obtain rfl := Option.some.inj ho
      intro a' v W Kc hB hq hdd hK
      obtain ⟨f4, t4⟩ := hdd 4 (List.all_eq_true.1 hdp 4 (by decide))
      obtain ⟨g', c', a2, e4, hn, hl⟩ := f4
      rw [e4] at t4
      exact step_extract1of3 t4 (hK _ _ (Below.refl _ _) trivial)
    | 7, _ =>
      obtain ⟨ty, pos, aft, e, hdp⟩ := h7
      rw [e] at ho
      obtain rfl := Option.some.inj ho
      intro a' v W Kc hB hq hdd hK
      obtain ⟨f4, t4⟩ := hdd 4 (List.all_eq_true.1 hdp 4 (by decide))
      obtain ⟨g', c', a2, e4, hn, hl⟩ := f4
      rw [e4] at t4
      exact step_extract2of3 t4 (hK _ _ (Below.refl _ _) rfl)
    | 8, _ =>
      obtain ⟨ty, pos, aft, e, hdp⟩ := h8
      rw [e] at ho
      obtain rfl := Option.some.inj ho
      intro a' v W Kc hB hq hdd hK
      obtain ⟨f5, t5⟩ := hdd 5 (List.all_eq_true.1 hdp 5 (by decide))
      exact step_assign t5 (hK _ _ (Below.refl _ _) f5)
    | 9, _ =>
      obtain ⟨ty, pos, aft, e, hdp⟩ := h9
      rw [e] at ho
      obtain rfl := Option.some.inj ho
      intro a' v W Kc hB hq hdd hK
      obtain ⟨f6, t6⟩ := hdd 6 (List.all_eq_true.1 hdp 6 (by decide))
      exact step_assign t6 (hK _ _ (Below.refl _ _) trivial)
    | 10, _ =>
      obtain ⟨ty, pos, aft, e, hdp⟩ := h10
      rw [e] at ho
      obtain rfl := Option.some.inj ho
      intro a' v W Kc hB hq hdd hK
      obtain ⟨f7, t7⟩ := hdd 7 (List.all_eq_true.1 hdp 7 (by decide))
      exact step_assign t7 (hK _ _ (Below.refl _ _) f7)
    | i + 11, h => omega
  · intro v W hF hB
    obtain ⟨g', c', e8, hn, hl⟩ := hF 8 (by omega)
    exact hend v W ⟨g', c', e8, hF 10 (by omega), hn, hl, hB⟩
def region_clothF (N K L g1 q1 g2 q2 : Nat) (hs xs : List Nat) : Nat → Value → World → Prop
  | 0, v, _ => v = .agg #[.int .i64 (N : Int), .slice (some ⟨g1, 0, none⟩) K q1]
  | 1, v, W => AggF N K hs v W
  | 2, v, _ => v = .agg #[.int .i64 (N : Int), .slice (some ⟨g2, 0, none⟩) L q2]
  | 3, v, W => AggF N L xs v W
  | 4, v, W => Tup2 L (clothS hs xs) v W
  | 5, v, W => Tup2 L (clothS hs xs) v W
  | 6, v, W => StrF L (clothS hs xs) v W
  | 7, v, _ => v = .int .i64 0
  | 8, v, W => StrF L (clothS hs xs) v W
  | _, v, _ => v = .int .i64 0
theorem region_clothF.mono {N K L g1 q1 g2 q2 : Nat} {hs xs : List Nat} : ∀ (i : Nat) (v : Value) (W W' : World), region_clothF N K L g1 q1 g2 q2 hs xs i v W → Below W.heap.size W W' → region_clothF N K L g1 q1 g2 q2 hs xs i v W'
  | 0, _, _, _, h, _ => h
  | 1, _, _, _, h, hb => AggF.mono h hb
  | 2, _, _, _, h, _ => h
  | 3, _, _, _, h, hb => AggF.mono h hb
  | 4, _, _, _, h, hb => Tup2.mono h hb
  | 5, _, _, _, h, hb => Tup2.mono h hb
  | 6, _, _, _, h, hb => StrF.mono h hb
  | 7, _, _, _, h, _ => h
  | 8, _, _, _, h, hb => StrF.mono h hb
  | _ + 9, _, _, _, h, _ => h
set_option maxRecDepth 8000 in
set_option maxHeartbeats 1000000 in
theorem region_cloth {id : Nat} {ops : Array Oper} {Q : Exit → Act → World → Prop} {a : Act} {w : World} (ds : List Nat) (y z Y Z N K L g1 q1 g2 q2 : Nat) (hs xs : List Nat)
    (hsize : ops.size = 10)
    (hops : IsO ops 0 (atL ds 0) (.load 26 (.tmp y)) [] ∧ IsO ops 1 (atL ds 1) (.call { callee := .value (.func 100), args := #[.tmp (atL ds 0)], argTypes := #[26] }) [0] ∧ IsO ops 2 (atL ds 2) (.load 37 (.tmp z)) [] ∧ IsO ops 3 (atL ds 3) (.call { callee := .value (.func 96), args := #[.tmp (atL ds 2)], argTypes := #[37] }) [2] ∧ IsO ops 4 (atL ds 4) (.call { callee := .value (.func 38), args := #[.tmp (atL ds 1), .tmp (atL ds 3)], argTypes := #[26, 37] }) [1, 3] ∧ IsO ops 5 (atL ds 5) (.move (.tmp (atL ds 4))) [4] ∧ IsO ops 6 (atL ds 6) (.extract (.tmp (atL ds 5)) 0) [5] ∧ IsO ops 7 (atL ds 7) (.extract (.tmp (atL ds 5)) 1) [5] ∧ IsO ops 8 (atL ds 8) (.assign (.tmp (atL ds 6))) [6] ∧ IsO ops 9 (atL ds 9) (.assign (.tmp (atL ds 7))) [7])
    (hlen : ds.length = 10) (hb : backB ops = true) (hd : dB ops ds = true) (hnd : ds.Nodup) (hsz : ∀ e ∈ ds, e < a.tmps.size)
    (hout : a.eval (.tmp y) = .pointer (some ⟨Y, 0, none⟩) ∧ y ∉ ds ∧ a.eval (.tmp z) = .pointer (some ⟨Z, 0, none⟩) ∧ z ∉ ds)
    (hY : BoxAt w Y #[.int .i64 (N : Int), .slice (some ⟨g1, 0, none⟩) K q1] 26) (n1 : NatsAt w g1 0 hs) (l1 : g1 < w.heap.size) (hK0 : hs.length = K) (hk0 : 1 ≤ K) (hk1 : K ≤ 96) (hk : ∀ i, i < K → nthN hs i < N) (hL0 : xs.length = L) (hv : Valid N xs) (hZ : BoxAt w Z #[.int .i64 (N : Int), .slice (some ⟨g2, 0, none⟩) L q2] 37) (n2 : NatsAt w g2 0 xs) (l2 : g2 < w.heap.size)
    (hend : ∀ v W, StrRow w L (clothS hs xs) (v (atL ds 8)) (v (atL ds 9)) W → Q .normal (laid a ds v) W) :
    (Code.region id ops true).wp Try.prog Q a w := by
  obtain ⟨h0, h1, h2, h3, h4, h5, h6, h7, h8, h9⟩ := hops
  obtain ⟨o0, p0, o1, p1⟩ := hout
  refine region_grow ds [(y, .pointer (some ⟨Y, 0, none⟩)), (z, .pointer (some ⟨Z, 0, none⟩))] (region_clothF N K L g1 q1 g2 q2 hs xs) (by rw [hlen, hsize]) hb hd hnd hsz ?_ region_clothF.mono ?_ ?_
  · intro q hq
    simp only [List.mem_cons, List.not_mem_nil, or_false] at hq
    rcases hq with rfl | rfl
    · exact ⟨o0, p0⟩
    · exact ⟨o1, p1⟩
  · intro i o ho
    have hi : i < 10 := by rw [← hsize]; exact (Array.getElem?_eq_some_iff.1 ho).1
    match i, hi with
    | 0, _ =>
      obtain ⟨ty, pos, aft, e, hdp⟩ := h0
      rw [e] at ho
      obtain rfl := Option.some.inj ho
      intro a' v W Kc hB hq hdd hK
      exact step_load26 (hq (y, _) (by simp)) (hY.next hB) (hK _ _ (Below.refl _ _) rfl)
    | 1, _ =>
      obtain ⟨ty, pos, aft, e, hdp⟩ := h1
      rw [e] at ho
      obtain rfl := Option.some.inj ho
      intro a' v W Kc hB hq hdd hK
      obtain ⟨f0, t0⟩ := hdd 0 (List.all_eq_true.1 hdp 0 (by decide))
      have e0 : v 0 = .agg #[.int .i64 (N : Int), .slice (some ⟨g1, 0, none⟩) K q1] := f0
      rw [e0] at t0
      refine step_call100 _ _ _ _ _ _ t0 (call100 N K g1 q1 hs W hK0 hk0 hk1 (n1.below hB l1) (Nat.lt_of_lt_of_le l1 hB.size)) ?_
      rintro e w' ⟨g', c', rfl, hn, _, hl, hb'⟩
      exact ⟨_, rfl, hK _ _ hb' ⟨g', c', rfl, hn, hl⟩⟩
    | 2, _ =>
      obtain ⟨ty, pos, aft, e, hdp⟩ := h2
      rw [e] at ho
      obtain rfl := Option.some.inj ho
      intro a' v W Kc hB hq hdd hK
      exact step_load37 (hq (z, _) (by simp)) (hZ.next hB) (hK _ _ (Below.refl _ _) rfl)
    | 3, _ =>
      obtain ⟨ty, pos, aft, e, hdp⟩ := h3
      rw [e] at ho
      obtain rfl := Option.some.inj ho
      intro a' v W Kc hB hq hdd hK
      obtain ⟨f2, t2⟩ := hdd 2 (List.all_eq_true.1 hdp 2 (by decide))
      have e2 : v 2 = .agg #[.int .i64 (N : Int), .slice (some ⟨g2, 0, none⟩) L q2] := f2
      rw [e2] at t2
      refine step_call96 _ _ _ _ _ _ t2 (call96 N L g2 q2 xs W hL0 hv (n2.below hB l2) (Nat.lt_of_lt_of_le l2 hB.size)) ?_
      rintro e w' ⟨g', c', rfl, hn, _, hl, hb'⟩
      exact ⟨_, rfl, hK _ _ hb' ⟨g', c', rfl, hn, hl⟩⟩
    | 4, _ =>
      obtain ⟨ty, pos, aft, e, hdp⟩ := h4
      rw [e] at ho
      obtain rfl := Option.some.inj ho
      intro a' v W Kc hB hq hdd hK
      obtain ⟨f1, t1⟩ := hdd 1 (List.all_eq_true.1 hdp 1 (by decide))
      obtain ⟨f3, t3⟩ := hdd 3 (List.all_eq_true.1 hdp 3 (by decide))
      obtain ⟨ga, ca, e1, hna, hla⟩ := f1
      obtain ⟨gb, cb, e2, hnb, hlb⟩ := f3
      rw [e1] at t1
      rw [e2] at t3
      refine step_call38 _ _ _ _ _ _ _ t1 t3 (call38 N K L ga ca gb cb hs xs W hK0 hL0 hk0 hk1 hk hv hna hla hnb hlb) ?_
      rintro e w' ⟨g', c', rfl, hn, _, hl, hb'⟩
      exact ⟨_, rfl, hK _ _ hb' ⟨g', c', rfl, hn, hl⟩⟩
    | 5, _ =>
      obtain ⟨ty, pos, aft, e, hdp⟩ := h5
      rw [e] at ho
      obtain rfl := Option.some.inj ho
      intro a' v W Kc hB hq hdd hK
      obtain ⟨f4, t4⟩ := hdd 4 (List.all_eq_true.1 hdp 4 (by decide))
      exact step_move t4 (hK _ _ (Below.refl _ _) f4)
    | 6, _ =>
      obtain ⟨ty, pos, aft, e, hdp⟩ := h6
      rw [e] at ho
      obtain rfl := Option.some.inj ho
      intro a' v W Kc hB hq hdd hK
      obtain ⟨f5, t5⟩ := hdd 5 (List.all_eq_true.1 hdp 5 (by decide))
      obtain ⟨g', c', e5, hn, hl⟩ := f5
      rw [e5] at t5
      exact step_extract0of2 t5 (hK _ _ (Below.refl _ _) ⟨g', c', rfl, hn, hl⟩)
    | 7, _ =>
      obtain ⟨ty, pos, aft, e, hdp⟩ := h7
      rw [e] at ho
      obtain rfl := Option.some.inj ho
      intro a' v W Kc hB hq hdd hK
      obtain ⟨f5, t5⟩ := hdd 5 (List.all_eq_true.1 hdp 5 (by decide))
      obtain ⟨g', c', e5, hn, hl⟩ := f5
      rw [e5] at t5
      exact step_extract1of2 t5 (hK _ _ (Below.refl _ _) rfl)
    | 8, _ =>
      obtain ⟨ty, pos, aft, e, hdp⟩ := h8
      rw [e] at ho
      obtain rfl := Option.some.inj ho
      intro a' v W Kc hB hq hdd hK
      obtain ⟨f6, t6⟩ := hdd 6 (List.all_eq_true.1 hdp 6 (by decide))
      exact step_assign t6 (hK _ _ (Below.refl _ _) f6)
    | 9, _ =>
      obtain ⟨ty, pos, aft, e, hdp⟩ := h9
      rw [e] at ho
      obtain rfl := Option.some.inj ho
      intro a' v W Kc hB hq hdd hK
      obtain ⟨f7, t7⟩ := hdd 7 (List.all_eq_true.1 hdp 7 (by decide))
      exact step_assign t7 (hK _ _ (Below.refl _ _) f7)
    | i + 10, h => omega
  · intro v W hF hB
    obtain ⟨g', c', e8, hn, hl⟩ := hF 8 (by omega)
    exact hend v W ⟨g', c', e8, hF 9 (by omega), hn, hl, hB⟩
def region_rowsF (N K L Z g1 q1 g2 q2 : Nat) (hs xs : List Nat) : Nat → Value → World → Prop
  | 0, v, _ => v = .agg #[.int .i64 (N : Int), .slice (some ⟨g1, 0, none⟩) K q1]
  | 1, v, W => AggF N K hs v W
  | 2, v, _ => v = .pointer (some ⟨Z, 0, none⟩)
  | 3, v, _ => v = .int .i64 (N : Int)
  | 4, v, _ => v = .slice (some ⟨g2, 0, none⟩) L q2
  | 5, v, W => AggF N L xs v W
  | 6, v, W => Tup2 L (clothS hs xs) v W
  | 7, v, W => Tup2 L (clothS hs xs) v W
  | 8, v, W => StrF L (clothS hs xs) v W
  | 9, v, _ => v = .int .i64 0
  | 10, v, W => StrF L (clothS hs xs) v W
  | _, v, _ => v = .int .i64 0
theorem region_rowsF.mono {N K L Z g1 q1 g2 q2 : Nat} {hs xs : List Nat} : ∀ (i : Nat) (v : Value) (W W' : World), region_rowsF N K L Z g1 q1 g2 q2 hs xs i v W → Below W.heap.size W W' → region_rowsF N K L Z g1 q1 g2 q2 hs xs i v W'
  | 0, _, _, _, h, _ => h
  | 1, _, _, _, h, hb => AggF.mono h hb
  | 2, _, _, _, h, _ => h
  | 3, _, _, _, h, _ => h
  | 4, _, _, _, h, _ => h
  | 5, _, _, _, h, hb => AggF.mono h hb
  | 6, _, _, _, h, hb => Tup2.mono h hb
  | 7, _, _, _, h, hb => Tup2.mono h hb
  | 8, _, _, _, h, hb => StrF.mono h hb
  | 9, _, _, _, h, _ => h
  | 10, _, _, _, h, hb => StrF.mono h hb
  | _ + 11, _, _, _, h, _ => h
set_option maxRecDepth 8000 in
set_option maxHeartbeats 1000000 in
theorem region_rows {id : Nat} {ops : Array Oper} {Q : Exit → Act → World → Prop} {a : Act} {w : World} (ds : List Nat) (y z r Y Z N K L g1 q1 g2 q2 : Nat) (hs xs : List Nat) {zs : Value}
    (hsize : ops.size = 12)
    (hops : IsO ops 0 (atL ds 0) (.load 26 (.tmp y)) [] ∧ IsO ops 1 (atL ds 1) (.call { callee := .value (.func 100), args := #[.tmp (atL ds 0)], argTypes := #[26] }) [0] ∧ IsO ops 2 (atL ds 2) (.fieldAddr 37 (.tmp z) 0) [] ∧ IsO ops 3 (atL ds 3) (.load 3 (.tmp (atL ds 2))) [2] ∧ IsO ops 4 (atL ds 4) (.move (.tmp r)) [] ∧ IsO ops 5 (atL ds 5) (.build 37 #[(0, .tmp (atL ds 3)), (1, .tmp (atL ds 4))]) [3, 4] ∧ IsO ops 6 (atL ds 6) (.call { callee := .value (.func 38), args := #[.tmp (atL ds 1), .tmp (atL ds 5)], argTypes := #[26, 37] }) [1, 5] ∧ IsO ops 7 (atL ds 7) (.move (.tmp (atL ds 6))) [6] ∧ IsO ops 8 (atL ds 8) (.extract (.tmp (atL ds 7)) 0) [7] ∧ IsO ops 9 (atL ds 9) (.extract (.tmp (atL ds 7)) 1) [7] ∧ IsO ops 10 (atL ds 10) (.assign (.tmp (atL ds 8))) [8] ∧ IsO ops 11 (atL ds 11) (.assign (.tmp (atL ds 9))) [9])
    (hlen : ds.length = 12) (hb : backB ops = true) (hd : dB ops ds = true) (hnd : ds.Nodup) (hsz : ∀ e ∈ ds, e < a.tmps.size)
    (hout : a.eval (.tmp y) = .pointer (some ⟨Y, 0, none⟩) ∧ y ∉ ds ∧ a.eval (.tmp z) = .pointer (some ⟨Z, 0, none⟩) ∧ z ∉ ds ∧ a.eval (.tmp r) = .slice (some ⟨g2, 0, none⟩) L q2 ∧ r ∉ ds)
    (hY : BoxAt w Y #[.int .i64 (N : Int), .slice (some ⟨g1, 0, none⟩) K q1] 26) (n1 : NatsAt w g1 0 hs) (l1 : g1 < w.heap.size) (hK0 : hs.length = K) (hk0 : 1 ≤ K) (hk1 : K ≤ 96) (hk : ∀ i, i < K → nthN hs i < N) (hL0 : xs.length = L) (hv : Valid N xs) (hZ : BoxAt w Z #[.int .i64 (N : Int), zs] 37) (n2 : NatsAt w g2 0 xs) (l2 : g2 < w.heap.size)
    (hend : ∀ v W, StrRow w L (clothS hs xs) (v (atL ds 10)) (v (atL ds 11)) W → Q .normal (laid a ds v) W) :
    (Code.region id ops true).wp Try.prog Q a w := by
  obtain ⟨h0, h1, h2, h3, h4, h5, h6, h7, h8, h9, h10, h11⟩ := hops
  obtain ⟨o0, p0, o1, p1, o2, p2⟩ := hout
  refine region_grow ds [(y, .pointer (some ⟨Y, 0, none⟩)), (z, .pointer (some ⟨Z, 0, none⟩)), (r, .slice (some ⟨g2, 0, none⟩) L q2)] (region_rowsF N K L Z g1 q1 g2 q2 hs xs) (by rw [hlen, hsize]) hb hd hnd hsz ?_ region_rowsF.mono ?_ ?_
  · intro q hq
    simp only [List.mem_cons, List.not_mem_nil, or_false] at hq
    rcases hq with rfl | rfl | rfl
    · exact ⟨o0, p0⟩
    · exact ⟨o1, p1⟩
    · exact ⟨o2, p2⟩
  · intro i o ho
    have hi : i < 12 := by rw [← hsize]; exact (Array.getElem?_eq_some_iff.1 ho).1
    match i, hi with
    | 0, _ =>
      obtain ⟨ty, pos, aft, e, hdp⟩ := h0
      rw [e] at ho
      obtain rfl := Option.some.inj ho
      intro a' v W Kc hB hq hdd hK
      exact step_load26 (hq (y, _) (by simp)) (hY.next hB) (hK _ _ (Below.refl _ _) rfl)
    | 1, _ =>
      obtain ⟨ty, pos, aft, e, hdp⟩ := h1
      rw [e] at ho
      obtain rfl := Option.some.inj ho
      intro a' v W Kc hB hq hdd hK
      obtain ⟨f0, t0⟩ := hdd 0 (List.all_eq_true.1 hdp 0 (by decide))
      have e0 : v 0 = .agg #[.int .i64 (N : Int), .slice (some ⟨g1, 0, none⟩) K q1] := f0
      rw [e0] at t0
      refine step_call100 _ _ _ _ _ _ t0 (call100 N K g1 q1 hs W hK0 hk0 hk1 (n1.below hB l1) (Nat.lt_of_lt_of_le l1 hB.size)) ?_
      rintro e w' ⟨g', c', rfl, hn, _, hl, hb'⟩
      exact ⟨_, rfl, hK _ _ hb' ⟨g', c', rfl, hn, hl⟩⟩
    | 2, _ =>
      obtain ⟨ty, pos, aft, e, hdp⟩ := h2
      rw [e] at ho
      obtain rfl := Option.some.inj ho
      intro a' v W Kc hB hq hdd hK
      exact step_field37 (hq (z, _) (by simp)) (hK _ _ (Below.refl _ _) rfl)
    | 3, _ =>
      obtain ⟨ty, pos, aft, e, hdp⟩ := h3
      rw [e] at ho
      obtain rfl := Option.some.inj ho
      intro a' v W Kc hB hq hdd hK
      obtain ⟨f2, t2⟩ := hdd 2 (List.all_eq_true.1 hdp 2 (by decide))
      have e2 : v 2 = .pointer (some ⟨Z, 0, none⟩) := f2
      rw [e2] at t2
      exact step_load3 t2 (BoxAt.cell' (hZ.next hB) 0 rfl) (hK _ _ (Below.refl _ _) rfl)
    | 4, _ =>
      obtain ⟨ty, pos, aft, e, hdp⟩ := h4
      rw [e] at ho
      obtain rfl := Option.some.inj ho
      intro a' v W Kc hB hq hdd hK
      exact step_move (hq (r, _) (by simp)) (hK _ _ (Below.refl _ _) rfl)
    | 5, _ =>
      obtain ⟨ty, pos, aft, e, hdp⟩ := h5
      rw [e] at ho
      obtain rfl := Option.some.inj ho
      intro a' v W Kc hB hq hdd hK
      obtain ⟨f3, t3⟩ := hdd 3 (List.all_eq_true.1 hdp 3 (by decide))
      obtain ⟨f4, t4⟩ := hdd 4 (List.all_eq_true.1 hdp 4 (by decide))
      have e3 : v 3 = .int .i64 (N : Int) := f3
      have e4 : v 4 = .slice (some ⟨g2, 0, none⟩) L q2 := f4
      have hn := n2.below hB l2
      have hl := Nat.lt_of_lt_of_le l2 hB.size
      rw [e3] at t3
      rw [e4] at t4
      exact step_build37 t3 t4 (hK _ _ (Below.refl _ _) ⟨_, _, rfl, hn, hl⟩)
    | 6, _ =>
      obtain ⟨ty, pos, aft, e, hdp⟩ := h6
      rw [e] at ho
      obtain rfl := Option.some.inj ho
      intro a' v W Kc hB hq hdd hK
      obtain ⟨f1, t1⟩ := hdd 1 (List.all_eq_true.1 hdp 1 (by decide))
      obtain ⟨f5, t5⟩ := hdd 5 (List.all_eq_true.1 hdp 5 (by decide))
      obtain ⟨ga, ca, e1, hna, hla⟩ := f1
      obtain ⟨gb, cb, e2, hnb, hlb⟩ := f5
      rw [e1] at t1
      rw [e2] at t5
      refine step_call38 _ _ _ _ _ _ _ t1 t5 (call38 N K L ga ca gb cb hs xs W hK0 hL0 hk0 hk1 hk hv hna hla hnb hlb) ?_
      rintro e w' ⟨g', c', rfl, hn, _, hl, hb'⟩
      exact ⟨_, rfl, hK _ _ hb' ⟨g', c', rfl, hn, hl⟩⟩
    | 7, _ =>
      obtain ⟨ty, pos, aft, e, hdp⟩ := h7
      rw [e] at ho
      obtain rfl := Option.some.inj ho
      intro a' v W Kc hB hq hdd hK
      obtain ⟨f6, t6⟩ := hdd 6 (List.all_eq_true.1 hdp 6 (by decide))
      exact step_move t6 (hK _ _ (Below.refl _ _) f6)
    | 8, _ =>
      obtain ⟨ty, pos, aft, e, hdp⟩ := h8
      rw [e] at ho
      obtain rfl := Option.some.inj ho
      intro a' v W Kc hB hq hdd hK
      obtain ⟨f7, t7⟩ := hdd 7 (List.all_eq_true.1 hdp 7 (by decide))
      obtain ⟨g', c', e5, hn, hl⟩ := f7
      rw [e5] at t7
      exact step_extract0of2 t7 (hK _ _ (Below.refl _ _) ⟨g', c', rfl, hn, hl⟩)
    | 9, _ =>
      obtain ⟨ty, pos, aft, e, hdp⟩ := h9
      rw [e] at ho
      obtain rfl := Option.some.inj ho
      intro a' v W Kc hB hq hdd hK
      obtain ⟨f7, t7⟩ := hdd 7 (List.all_eq_true.1 hdp 7 (by decide))
      obtain ⟨g', c', e5, hn, hl⟩ := f7
      rw [e5] at t7
      exact step_extract1of2 t7 (hK _ _ (Below.refl _ _) rfl)
    | 10, _ =>
      obtain ⟨ty, pos, aft, e, hdp⟩ := h10
      rw [e] at ho
      obtain rfl := Option.some.inj ho
      intro a' v W Kc hB hq hdd hK
      obtain ⟨f8, t8⟩ := hdd 8 (List.all_eq_true.1 hdp 8 (by decide))
      exact step_assign t8 (hK _ _ (Below.refl _ _) f8)
    | 11, _ =>
      obtain ⟨ty, pos, aft, e, hdp⟩ := h11
      rw [e] at ho
      obtain rfl := Option.some.inj ho
      intro a' v W Kc hB hq hdd hK
      obtain ⟨f9, t9⟩ := hdd 9 (List.all_eq_true.1 hdp 9 (by decide))
      exact step_assign t9 (hK _ _ (Below.refl _ _) f9)
    | i + 12, h => omega
  · intro v W hF hB
    obtain ⟨g', c', e8, hn, hl⟩ := hF 10 (by omega)
    exact hend v W ⟨g', c', e8, hF 11 (by omega), hn, hl, hB⟩
def region_intsF (N K L Z g1 q1 g2 q2 : Nat) (hs xs : List Nat) : Nat → Value → World → Prop
  | 0, v, _ => v = .agg #[.int .i64 (N : Int), .slice (some ⟨g1, 0, none⟩) K q1]
  | 1, v, W => AggF N K hs v W
  | 2, v, _ => v = .pointer (some ⟨Z, 0, none⟩)
  | 3, v, _ => v = .int .i64 (N : Int)
  | 4, v, _ => v = .slice (some ⟨g2, 0, none⟩) L q2
  | 5, v, W => RowF L xs v W
  | 6, v, W => AggF N L xs v W
  | 7, v, W => Tup2 L (clothS hs xs) v W
  | 8, v, W => Tup2 L (clothS hs xs) v W
  | 9, v, W => StrF L (clothS hs xs) v W
  | 10, v, _ => v = .int .i64 0
  | 11, v, W => StrF L (clothS hs xs) v W
  | _, v, _ => v = .int .i64 0
theorem region_intsF.mono {N K L Z g1 q1 g2 q2 : Nat} {hs xs : List Nat} : ∀ (i : Nat) (v : Value) (W W' : World), region_intsF N K L Z g1 q1 g2 q2 hs xs i v W → Below W.heap.size W W' → region_intsF N K L Z g1 q1 g2 q2 hs xs i v W'
  | 0, _, _, _, h, _ => h
  | 1, _, _, _, h, hb => AggF.mono h hb
  | 2, _, _, _, h, _ => h
  | 3, _, _, _, h, _ => h
  | 4, _, _, _, h, _ => h
  | 5, _, _, _, h, hb => RowF.mono h hb
  | 6, _, _, _, h, hb => AggF.mono h hb
  | 7, _, _, _, h, hb => Tup2.mono h hb
  | 8, _, _, _, h, hb => Tup2.mono h hb
  | 9, _, _, _, h, hb => StrF.mono h hb
  | 10, _, _, _, h, _ => h
  | 11, _, _, _, h, hb => StrF.mono h hb
  | _ + 12, _, _, _, h, _ => h
set_option maxRecDepth 8000 in
set_option maxHeartbeats 1000000 in
theorem region_ints {id : Nat} {ops : Array Oper} {Q : Exit → Act → World → Prop} {a : Act} {w : World} (ds : List Nat) (y z r Y Z N K L g1 q1 g2 q2 : Nat) (hs xs : List Nat) {zs : Value}
    (hsize : ops.size = 13)
    (hops : IsO ops 0 (atL ds 0) (.load 26 (.tmp y)) [] ∧ IsO ops 1 (atL ds 1) (.call { callee := .value (.func 100), args := #[.tmp (atL ds 0)], argTypes := #[26] }) [0] ∧ IsO ops 2 (atL ds 2) (.fieldAddr 37 (.tmp z) 0) [] ∧ IsO ops 3 (atL ds 3) (.load 3 (.tmp (atL ds 2))) [2] ∧ IsO ops 4 (atL ds 4) (.move (.tmp r)) [] ∧ IsO ops 5 (atL ds 5) (.call { callee := .value (.func 108), args := #[.tmp (atL ds 4)], argTypes := #[24] }) [4] ∧ IsO ops 6 (atL ds 6) (.build 37 #[(0, .tmp (atL ds 3)), (1, .tmp (atL ds 5))]) [3, 5] ∧ IsO ops 7 (atL ds 7) (.call { callee := .value (.func 38), args := #[.tmp (atL ds 1), .tmp (atL ds 6)], argTypes := #[26, 37] }) [1, 6] ∧ IsO ops 8 (atL ds 8) (.move (.tmp (atL ds 7))) [7] ∧ IsO ops 9 (atL ds 9) (.extract (.tmp (atL ds 8)) 0) [8] ∧ IsO ops 10 (atL ds 10) (.extract (.tmp (atL ds 8)) 1) [8] ∧ IsO ops 11 (atL ds 11) (.assign (.tmp (atL ds 9))) [9] ∧ IsO ops 12 (atL ds 12) (.assign (.tmp (atL ds 10))) [10])
    (hlen : ds.length = 13) (hb : backB ops = true) (hd : dB ops ds = true) (hnd : ds.Nodup) (hsz : ∀ e ∈ ds, e < a.tmps.size)
    (hout : a.eval (.tmp y) = .pointer (some ⟨Y, 0, none⟩) ∧ y ∉ ds ∧ a.eval (.tmp z) = .pointer (some ⟨Z, 0, none⟩) ∧ z ∉ ds ∧ a.eval (.tmp r) = .slice (some ⟨g2, 0, none⟩) L q2 ∧ r ∉ ds)
    (hY : BoxAt w Y #[.int .i64 (N : Int), .slice (some ⟨g1, 0, none⟩) K q1] 26) (n1 : NatsAt w g1 0 hs) (l1 : g1 < w.heap.size) (hK0 : hs.length = K) (hk0 : 1 ≤ K) (hk1 : K ≤ 96) (hk : ∀ i, i < K → nthN hs i < N) (hL0 : xs.length = L) (hv : Valid N xs) (hZ : BoxAt w Z #[.int .i64 (N : Int), zs] 37) (n2 : NatsAt w g2 0 xs) (l2 : g2 < w.heap.size)
    (hend : ∀ v W, StrRow w L (clothS hs xs) (v (atL ds 11)) (v (atL ds 12)) W → Q .normal (laid a ds v) W) :
    (Code.region id ops true).wp Try.prog Q a w := by
  obtain ⟨h0, h1, h2, h3, h4, h5, h6, h7, h8, h9, h10, h11, h12⟩ := hops
  obtain ⟨o0, p0, o1, p1, o2, p2⟩ := hout
  refine region_grow ds [(y, .pointer (some ⟨Y, 0, none⟩)), (z, .pointer (some ⟨Z, 0, none⟩)), (r, .slice (some ⟨g2, 0, none⟩) L q2)] (region_intsF N K L Z g1 q1 g2 q2 hs xs) (by rw [hlen, hsize]) hb hd hnd hsz ?_ region_intsF.mono ?_ ?_
  · intro q hq
    simp only [List.mem_cons, List.not_mem_nil, or_false] at hq
    rcases hq with rfl | rfl | rfl
    · exact ⟨o0, p0⟩
    · exact ⟨o1, p1⟩
    · exact ⟨o2, p2⟩
  · intro i o ho
    have hi : i < 13 := by rw [← hsize]; exact (Array.getElem?_eq_some_iff.1 ho).1
    match i, hi with
    | 0, _ =>
      obtain ⟨ty, pos, aft, e, hdp⟩ := h0
      rw [e] at ho
      obtain rfl := Option.some.inj ho
      intro a' v W Kc hB hq hdd hK
      exact step_load26 (hq (y, _) (by simp)) (hY.next hB) (hK _ _ (Below.refl _ _) rfl)
    | 1, _ =>
      obtain ⟨ty, pos, aft, e, hdp⟩ := h1
      rw [e] at ho
      obtain rfl := Option.some.inj ho
      intro a' v W Kc hB hq hdd hK
      obtain ⟨f0, t0⟩ := hdd 0 (List.all_eq_true.1 hdp 0 (by decide))
      have e0 : v 0 = .agg #[.int .i64 (N : Int), .slice (some ⟨g1, 0, none⟩) K q1] := f0
      rw [e0] at t0
      refine step_call100 _ _ _ _ _ _ t0 (call100 N K g1 q1 hs W hK0 hk0 hk1 (n1.below hB l1) (Nat.lt_of_lt_of_le l1 hB.size)) ?_
      rintro e w' ⟨g', c', rfl, hn, _, hl, hb'⟩
      exact ⟨_, rfl, hK _ _ hb' ⟨g', c', rfl, hn, hl⟩⟩
    | 2, _ =>
      obtain ⟨ty, pos, aft, e, hdp⟩ := h2
      rw [e] at ho
      obtain rfl := Option.some.inj ho
      intro a' v W Kc hB hq hdd hK
      exact step_field37 (hq (z, _) (by simp)) (hK _ _ (Below.refl _ _) rfl)
    | 3, _ =>
      obtain ⟨ty, pos, aft, e, hdp⟩ := h3
      rw [e] at ho
      obtain rfl := Option.some.inj ho
      intro a' v W Kc hB hq hdd hK
      obtain ⟨f2, t2⟩ := hdd 2 (List.all_eq_true.1 hdp 2 (by decide))
      have e2 : v 2 = .pointer (some ⟨Z, 0, none⟩) := f2
      rw [e2] at t2
      exact step_load3 t2 (BoxAt.cell' (hZ.next hB) 0 rfl) (hK _ _ (Below.refl _ _) rfl)
    | 4, _ =>
      obtain ⟨ty, pos, aft, e, hdp⟩ := h4
      rw [e] at ho
      obtain rfl := Option.some.inj ho
      intro a' v W Kc hB hq hdd hK
      exact step_move (hq (r, _) (by simp)) (hK _ _ (Below.refl _ _) rfl)
    | 5, _ =>
      obtain ⟨ty, pos, aft, e, hdp⟩ := h5
      rw [e] at ho
      obtain rfl := Option.some.inj ho
      intro a' v W Kc hB hq hdd hK
      obtain ⟨f4, t4⟩ := hdd 4 (List.all_eq_true.1 hdp 4 (by decide))
      have e4 : v 4 = .slice (some ⟨g2, 0, none⟩) L q2 := f4
      rw [e4] at t4
      refine step_call108 _ _ _ _ _ _ t4 (call108 L g2 q2 xs W hL0 (by have := hv.l0; omega) (by have := hv.l1; omega) (n2.below hB l2) (Nat.lt_of_lt_of_le l2 hB.size)) ?_
      rintro e w' ⟨g', c', rfl, hn, _, hl, hb'⟩
      exact ⟨_, rfl, hK _ _ hb' ⟨g', c', rfl, hn, hl⟩⟩
    | 6, _ =>
      obtain ⟨ty, pos, aft, e, hdp⟩ := h6
      rw [e] at ho
      obtain rfl := Option.some.inj ho
      intro a' v W Kc hB hq hdd hK
      obtain ⟨f3, t3⟩ := hdd 3 (List.all_eq_true.1 hdp 3 (by decide))
      obtain ⟨f5, t5⟩ := hdd 5 (List.all_eq_true.1 hdp 5 (by decide))
      have e3 : v 3 = .int .i64 (N : Int) := f3
      obtain ⟨g', c', e4, hn, hl⟩ := f5
      rw [e3] at t3
      rw [e4] at t5
      exact step_build37 t3 t5 (hK _ _ (Below.refl _ _) ⟨_, _, rfl, hn, hl⟩)
    | 7, _ =>
      obtain ⟨ty, pos, aft, e, hdp⟩ := h7
      rw [e] at ho
      obtain rfl := Option.some.inj ho
      intro a' v W Kc hB hq hdd hK
      obtain ⟨f1, t1⟩ := hdd 1 (List.all_eq_true.1 hdp 1 (by decide))
      obtain ⟨f6, t6⟩ := hdd 6 (List.all_eq_true.1 hdp 6 (by decide))
      obtain ⟨ga, ca, e1, hna, hla⟩ := f1
      obtain ⟨gb, cb, e2, hnb, hlb⟩ := f6
      rw [e1] at t1
      rw [e2] at t6
      refine step_call38 _ _ _ _ _ _ _ t1 t6 (call38 N K L ga ca gb cb hs xs W hK0 hL0 hk0 hk1 hk hv hna hla hnb hlb) ?_
      rintro e w' ⟨g', c', rfl, hn, _, hl, hb'⟩
      exact ⟨_, rfl, hK _ _ hb' ⟨g', c', rfl, hn, hl⟩⟩
    | 8, _ =>
      obtain ⟨ty, pos, aft, e, hdp⟩ := h8
      rw [e] at ho
      obtain rfl := Option.some.inj ho
      intro a' v W Kc hB hq hdd hK
      obtain ⟨f7, t7⟩ := hdd 7 (List.all_eq_true.1 hdp 7 (by decide))
      exact step_move t7 (hK _ _ (Below.refl _ _) f7)
    | 9, _ =>
      obtain ⟨ty, pos, aft, e, hdp⟩ := h9
      rw [e] at ho
      obtain rfl := Option.some.inj ho
      intro a' v W Kc hB hq hdd hK
      obtain ⟨f8, t8⟩ := hdd 8 (List.all_eq_true.1 hdp 8 (by decide))
      obtain ⟨g', c', e5, hn, hl⟩ := f8
      rw [e5] at t8
      exact step_extract0of2 t8 (hK _ _ (Below.refl _ _) ⟨g', c', rfl, hn, hl⟩)
    | 10, _ =>
      obtain ⟨ty, pos, aft, e, hdp⟩ := h10
      rw [e] at ho
      obtain rfl := Option.some.inj ho
      intro a' v W Kc hB hq hdd hK
      obtain ⟨f8, t8⟩ := hdd 8 (List.all_eq_true.1 hdp 8 (by decide))
      obtain ⟨g', c', e5, hn, hl⟩ := f8
      rw [e5] at t8
      exact step_extract1of2 t8 (hK _ _ (Below.refl _ _) rfl)
    | 11, _ =>
      obtain ⟨ty, pos, aft, e, hdp⟩ := h11
      rw [e] at ho
      obtain rfl := Option.some.inj ho
      intro a' v W Kc hB hq hdd hK
      obtain ⟨f9, t9⟩ := hdd 9 (List.all_eq_true.1 hdp 9 (by decide))
      exact step_assign t9 (hK _ _ (Below.refl _ _) f9)
    | 12, _ =>
      obtain ⟨ty, pos, aft, e, hdp⟩ := h12
      rw [e] at ho
      obtain rfl := Option.some.inj ho
      intro a' v W Kc hB hq hdd hK
      obtain ⟨f10, t10⟩ := hdd 10 (List.all_eq_true.1 hdp 10 (by decide))
      exact step_assign t10 (hK _ _ (Below.refl _ _) f10)
    | i + 13, h => omega
  · intro v W hF hB
    obtain ⟨g', c', e8, hn, hl⟩ := hF 11 (by omega)
    exact hend v W ⟨g', c', e8, hF 12 (by omega), hn, hl, hB⟩
end Go.Proofs.Ytdmgffoikebgkaa
