/- What TopPunched and TopTurnedOver need of mathematics: punched cards woven in order, valid rows, equal cloths. -/
import Derived.Test.YtdmgffoikebgkaaHJ
import Derived.Test.YtdmgffoikebgkaaHG
import Derived.Test.YtdmgffoikebgkaaHE
import Derived.Test.YtdmgffoikebgkaaPR
namespace Go.Proofs.Ytdmgffoikebgkaa
open Go.RowKit Go.Shelf

theorem nthN_one (l i : Nat) (h : i < l) : nthN (List.replicate l 1) i = 1 := by
  rw [nthN_get _ _ (by simpa using h)]; simp
theorem nthN_one3 (l i : Nat) : nthN (List.replicate l 1) i < 3 := by
  by_cases h : i < l
  · rw [nthN_one _ _ h]; decide
  · have : nthN (List.replicate l 1) i = 0 := by unfold nthN; rw [List.getElem?_eq_none (by simp; omega)]; rfl
    rw [this]; decide
theorem cyl_one (l : Nat) : ∀ k, k < l → cylTo l (List.replicate l 1) 0 k = k
  | 0, _ => rfl
  | k + 1, h => by
    show (cylTo l (List.replicate l 1) 0 k + nthN (List.replicate l 1) k) % l = k + 1
    rw [cyl_one l k (by omega), nthN_one _ _ (by omega), Nat.mod_eq_of_lt h]
theorem woven_punched (n : Nat) (xs : List Nat) : wovenTo n (punched xs xs.length) (List.replicate xs.length 1) 0 xs.length = xs := by
  apply List.ext_getElem?
  intro i
  by_cases hi : i < xs.length
  · rw [List.getElem?_eq_getElem (by rw [wovenTo_len]; exact hi), List.getElem?_eq_getElem hi]
    simp only [wovenTo, List.getElem_map, List.getElem_range, punched_len]
    rw [cyl_one _ _ hi, punched_nth _ _ _ hi, nthN_get _ _ hi]
    rfl
  · rw [List.getElem?_eq_none (by rw [wovenTo_len]; omega), List.getElem?_eq_none (by omega)]
theorem mirN_lt (n x : Nat) : mirN n x < 2 ^ n := rowTo_lt _ _
theorem liftN_lt {n : Nat} {cs : List Card} (h : ChainOk n cs) (i : Nat) : liftN n (nthC cs i) < 2 ^ n := by
  unfold liftN
  split
  · exact mirN_lt _ _
  · exact h.row i
theorem woven_valid {n : Nat} {cs : List Card} (h : ChainOk n cs) (xs : List Nat) (f k : Nat) (hk : 1 ≤ k) (hk2 : k ≤ 60) : Valid n (wovenTo n cs xs f k) := by
  refine ⟨h.n0, h.n1, by rw [wovenTo_len]; exact hk, by rw [wovenTo_len]; exact hk2, fun i => ?_⟩
  by_cases hi : i < k
  · rw [nthN_get _ _ (by rw [wovenTo_len]; exact hi)]
    simp only [wovenTo, List.getElem_map, List.getElem_range]
    exact liftN_lt h _
  · have : nthN (wovenTo n cs xs f k) i = 0 := by unfold nthN; rw [List.getElem?_eq_none (by rw [wovenTo_len]; omega)]; rfl
    rw [this]; exact Nat.pow_pos (by decide)
def clothS (hs xs : List Nat) : List ByteArray := (List.range xs.length).map fun i => pickS hs (nthN xs i)
theorem clothS_len (hs xs : List Nat) : (clothS hs xs).length = xs.length := by simp [clothS]
theorem clothS_map (hs xs : List Nat) : (clothS hs xs).map Value.string = clothV hs xs xs.length := by simp [clothS, clothV]
end Go.Proofs.Ytdmgffoikebgkaa
/- The contracts that TopPunched and TopTurnedOver use, each with the length as a letter of its own. -/
namespace Go.Proofs.Ytdmgffoikebgkaa
open Go.RowKit Go.Shelf

/-- a row of numbers of one's own -/
def RowL (W : World) (L : Nat) (xs : List Nat) (s : Value) (w' : World) : Prop := ∃ g c, s = .slice (some ⟨g, 0, none⟩) L c ∧ NatsAt w' g 0 xs ∧ W.heap.size ≤ g ∧ g < w'.heap.size
/-- what a helper leaves that makes a number and a row -/
def MadeL (n L : Nat) (xs : List Nat) (W : World) (e : Ending) (w' : World) : Prop := ∃ g c, e = .returned (.agg #[.int .i64 (n : Int), .slice (some ⟨g, 0, none⟩) L c]) ∧ NatsAt w' g 0 xs ∧ W.heap.size ≤ g ∧ g < w'.heap.size ∧ Below W.heap.size W w'
theorem made_of {n L B : Nat} {xs : List Nat} {W w' : World} {g c : Nat} (hB : B = W.heap.size) (h0 : 0 < L) (h1 : w'.ownsRow B 3 1 (.slice (some ⟨g, 0, none⟩) L c) L (xs.map natV)) (h2 : Below W.heap.size W w') : MadeL n L xs W (.returned (.agg #[.int .i64 (n : Int), .slice (some ⟨g, 0, none⟩) L c])) w' := by
  subst hB
  obtain ⟨a, b, d⟩ := nats_of_row h1 h0
  exact ⟨g, c, rfl, a, d, b, h2⟩
theorem call96 (n L b c : Nat) (xs : List Nat) (W : World) (hL : xs.length = L) (hv : Valid n xs) (hx : NatsAt W b 0 xs) (hb : b < W.heap.size) :
    Calls Try.prog 96 #[.agg #[.int .i64 (n : Int), .slice (some ⟨b, 0, none⟩) L c]] W (MadeL n L xs W) := by
  subst hL
  have l0 := hv.l0
  have l1 := hv.l1
  refine (armOwn_ok n b 0 c xs W (by omega) (by omega) hx hb).mono ?_
  rintro e w' ⟨g, cap, rfl, h1, h2⟩
  exact made_of rfl (by omega) h1 h2
theorem call100 (n L b c : Nat) (xs : List Nat) (W : World) (hL : xs.length = L) (h0 : 0 < L) (h1 : L ≤ 96) (hx : NatsAt W b 0 xs) (hb : b < W.heap.size) :
    Calls Try.prog 100 #[.agg #[.int .i64 (n : Int), .slice (some ⟨b, 0, none⟩) L c]] W (MadeL n L xs W) := by
  subst hL
  refine (armTied_ok n b 0 c xs W h0 (by omega) hx hb).mono ?_
  rintro e w' ⟨g, cap, rfl, h1, h2⟩
  exact made_of rfl (by omega) h1 h2
theorem call81 (n L b c : Nat) (xs : List Nat) (W : World) (hL : xs.length = L) (hv : Valid n xs) (hx : NatsAt W b 0 xs) (hb : b < W.heap.size) :
    Calls Try.prog 81 #[.agg #[.int .i64 (n : Int), .slice (some ⟨b, 0, none⟩) L c]] W fun e w' =>
      ∃ g cap, e = .returned (.tuple #[.agg #[.int .i64 (n : Int), .slice (some ⟨g, 0, none⟩) L cap], .int .i64 0]) ∧ CardBlk w' g (punched xs L) ∧ W.heap.size ≤ g ∧ Below W.heap.size W w' := by
  subst hL
  have l0 := hv.l0
  refine (Punch_ok n b 0 c xs W ⟨hx, hb, hv⟩).mono ?_
  rintro e w' ⟨g, cap, rfl, h1, h2⟩
  have hl := punched_len xs xs.length
  have h3 : w'.ownsRow W.heap.size 128 3 (.slice (some ⟨g, 0, none⟩) (punched xs xs.length).length cap) (punched xs xs.length).length (cardCells (punched xs xs.length)) := by rw [hl]; exact h1
  obtain ⟨h4, h5⟩ := CardBlk.of_row h3 (by omega)
  exact ⟨g, cap, rfl, h4, h5, h2⟩
theorem call97 (n L g c : Nat) (p : Option Addr) (cp : Nat) (sd xs : List Nat) (cs : List Card) (W : World) (hL : cs.length = L) (h0 : 0 < L) (hl : L ≤ 60) (hx : CardsAt W g cs) (hs : Shuf xs cs) (hsd : ByteRow W p sd) (hsl : sd.length ≤ 9223372036854775807) :
    Calls Try.prog 97 #[.agg #[.int .i64 (n : Int), .slice (some ⟨g, 0, none⟩) L c], .slice p sd.length cp] W fun e w' =>
      ∃ g' cap cs', e = .returned (.agg #[.int .i64 (n : Int), .slice (some ⟨g', 0, none⟩) L cap]) ∧ Shuf xs cs' ∧ CardBlk w' g' cs' ∧ W.heap.size ≤ g' ∧ Below W.heap.size W w' := by
  subst hL
  exact armShuffled_any n g c p cp sd xs cs W h0 hl hx hs hsd hsl
theorem call99 (n L g c : Nat) (cs : List Card) (W : World) (hL : cs.length = L) (h0 : 0 < L) (hl : L ≤ 60) (hx : CardsAt W g cs) :
    Calls Try.prog 99 #[.agg #[.int .i64 (n : Int), .slice (some ⟨g, 0, none⟩) L c]] W fun e w' =>
      ∃ g' cap, e = .returned (.agg #[.int .i64 (n : Int), .slice (some ⟨g', 0, none⟩) L cap]) ∧ CardBlk w' g' cs ∧ W.heap.size ≤ g' ∧ Below W.heap.size W w' := by
  subst hL
  refine (armBelt_ok n g c cs W h0 hl hx).mono ?_
  rintro e w' ⟨g', cap, rfl, h1, h2⟩
  obtain ⟨h4, h5⟩ := CardBlk.of_row h1 h0
  exact ⟨g', cap, rfl, h4, by omega, h2⟩
theorem call82 (n L g c : Nat) (xs : List Nat) (cs : List Card) (W : World) (hX : xs.length = L) (hL : cs.length = L) (hv : Valid n xs) (hx : CardsAt W g cs) (hs : Shuf xs cs) :
    Calls Try.prog 82 #[.agg #[.int .i64 (n : Int), .slice (some ⟨g, 0, none⟩) L c]] W fun e w' =>
      ∃ g' cap, e = .returned (.tuple #[.agg #[.int .i64 (n : Int), .slice (some ⟨g', 0, none⟩) L cap], .int .i64 0]) ∧ CardBlk w' g' (punched xs L) ∧ W.heap.size ≤ g' ∧ Below W.heap.size W w' := by
  subst hL
  have l0 := hv.l0
  have l1 := hv.l1
  refine (Mend_ok n g c cs W ⟨hx, hs.ok hv⟩ hs.apart).mono ?_
  rintro e w' ⟨v, f, rfl, hf, h1, h2⟩
  have hm := hs.mend hf 60
  rw [show min 60 xs.length = xs.length by omega, hX] at hm
  rw [hm, punched_len] at h1
  obtain ⟨g', cap, rfl⟩ := row_slice h1 (by omega)
  have h3 : w'.ownsRow W.heap.size 128 3 (.slice (some ⟨g', 0, none⟩) (punched xs cs.length).length cap) (punched xs cs.length).length (cardCells (punched xs cs.length)) := by rw [punched_len]; exact h1
  obtain ⟨h4, h5⟩ := CardBlk.of_row h3 (by rw [punched_len]; omega)
  exact ⟨g', cap, rfl, h4, h5, h2⟩
theorem call38 (n K L b c b2 c2 : Nat) (hs xs : List Nat) (W : World) (hK : hs.length = K) (hL : xs.length = L) (hk0 : 1 ≤ K) (hk1 : K ≤ 96) (hk : ∀ i, i < K → nthN hs i < n) (hv : Valid n xs) (h1 : NatsAt W b 0 hs) (h2 : b < W.heap.size) (h3 : NatsAt W b2 0 xs) (h4 : b2 < W.heap.size) :
    Calls Try.prog 38 #[.agg #[.int .i64 (n : Int), .slice (some ⟨b, 0, none⟩) K c], .agg #[.int .i64 (n : Int), .slice (some ⟨b2, 0, none⟩) L c2]] W fun e w' =>
      ∃ g cap, e = .returned (.tuple #[.slice (some ⟨g, 0, none⟩) L cap, .int .i64 0]) ∧ StrsAt w' g 0 (clothS hs xs) ∧ W.heap.size ≤ g ∧ g < w'.heap.size ∧ Below W.heap.size W w' := by
  subst hK hL
  have l0 := hv.l0
  refine (tieWeave_ok n b 0 c b2 0 c2 hs xs W ⟨h1, h2, hv.n0, hv.n1, hk0, hk1, hk⟩ ⟨h3, h4, hv⟩).mono ?_
  rintro e w' ⟨v, rfl, h5, h6⟩
  obtain ⟨g, cap, rfl⟩ := row_slice h5 (by omega)
  rw [← clothS_map] at h5
  obtain ⟨a, b, d⟩ := strs_of_row h5 (by omega)
  exact ⟨g, cap, rfl, a, d, b, h6⟩
theorem call101 (L : Nat) (W : World) (h0 : 0 < L) (hl : L ≤ 60) :
    Calls Try.prog 101 #[.int .i64 (L : Int), .int .i64 1] W fun e w' =>
      ∃ g cap, e = .returned (.slice (some ⟨g, 0, none⟩) L cap) ∧ NatsAt w' g 0 (List.replicate L 1) ∧ W.heap.size ≤ g ∧ g < w'.heap.size ∧ Below W.heap.size W w' := by
  refine (armRound_any L W hl).mono ?_
  rintro e w' ⟨v, rfl, h1, h2⟩
  obtain ⟨g, cap, rfl⟩ := row_slice h1 h0
  obtain ⟨a, b, d⟩ := nats_of_row h1 h0
  exact ⟨g, cap, rfl, a, d, b, h2⟩
theorem call84 (n L g c b cx : Nat) (cs : List Card) (W : World) (hL : cs.length = L) (hv : ChainOk n cs) (hc : CardsAt W g cs) (hx : NatsAt W b 0 (List.replicate L 1)) (hxb : b < W.heap.size) :
    Calls Try.prog 84 #[.agg #[.int .i64 (n : Int), .slice (some ⟨g, 0, none⟩) L c], .int .i64 0, .slice (some ⟨b, 0, none⟩) L cx] W fun e w' =>
      ∃ g' cap a, e = .returned (.tuple #[.slice (some ⟨g', 0, none⟩) L cap, .int .i64 (a : Int), .int .i64 0]) ∧ NatsAt w' g' 0 (wovenTo n cs (List.replicate L 1) 0 L) ∧ W.heap.size ≤ g' ∧ g' < w'.heap.size ∧ Below W.heap.size W w' := by
  subst hL
  have l0 := hv.l0
  have l1 := hv.l1
  have h := chainWeave_ok n g c 0 b 0 cx cs (List.replicate cs.length 1) W ⟨hc, hv⟩ (by omega) hx hxb (by simp; omega) (by simp; omega) (fun i => nthN_one3 _ _)
  rw [List.length_replicate] at h
  refine h.mono ?_
  rintro e w' ⟨v, rfl, h1, h2⟩
  obtain ⟨g', cap, rfl⟩ := row_slice h1 (by omega)
  obtain ⟨a, b, d⟩ := nats_of_row h1 (by omega)
  exact ⟨g', cap, _, rfl, a, d, b, h2⟩
theorem call102 (L b1 c1 b2 c2 : Nat) (xs ys : List Nat) (W : World) (h1 : xs.length = L) (h2 : ys.length = L) (hl : L ≤ 60) (hx : NatsAt W b1 0 xs) (hy : NatsAt W b2 0 ys) (hb1 : b1 < W.heap.size) (hb2 : b2 < W.heap.size) :
    Calls Try.prog 102 #[.slice (some ⟨b1, 0, none⟩) L c1, .slice (some ⟨b2, 0, none⟩) L c2] W fun e w' => e = .returned (.bool (decide (xs = ys))) ∧ Below W.heap.size W w' := by
  have h := armSame_any b1 0 c1 b2 0 c2 xs ys W (by omega) (by omega) hx hy hb1 hb2
  rw [h1, h2] at h
  exact h
theorem call103 (L b1 c1 b2 c2 : Nat) (xs : List ByteArray) (W : World) (h1 : xs.length = L) (hl : L ≤ 60) (hx : StrsAt W b1 0 xs) (hy : StrsAt W b2 0 xs) (hb1 : b1 < W.heap.size) (hb2 : b2 < W.heap.size) :
    Calls Try.prog 103 #[.slice (some ⟨b1, 0, none⟩) L c1, .slice (some ⟨b2, 0, none⟩) L c2] W fun e w' => e = .returned (.bool true) ∧ Below W.heap.size W w' := by
  have h := armLike_eq b1 0 c1 b2 0 c2 xs W (by omega) hx hy hb1 hb2
  rw [h1] at h
  exact h
end Go.Proofs.Ytdmgffoikebgkaa
/- Regions that draw their order, read, and call what only adds to memory: each operation once, whatever was done before. -/
namespace Go.Proofs.Ytdmgffoikebgkaa
open Go.RowKit Go.Shelf

def atL (l : List Nat) (i : Nat) : Nat := l.getD i 0
def dB (ops : Array Oper) (ds : List Nat) : Bool := (List.range ops.size).all fun i => match ops[i]? with
  | some o => (o.dst == some (atL ds i)) && o.guard.isNone
  | none => true
theorem d_of {ops : Array Oper} {ds : List Nat} (h : dB ops ds = true) (i : Nat) (o : Oper) (ho : ops[i]? = some o) : o.dst = some (atL ds i) ∧ o.guard = none := by
  have hi : i < ops.size := (Array.getElem?_eq_some_iff.1 ho).1
  unfold dB at h
  rw [List.all_eq_true] at h
  have := h i (by simpa using hi)
  rw [ho] at this
  simpa using this
theorem atL_mem (ds : List Nat) (i : Nat) (h : i < ds.length) : atL ds i ∈ ds := by
  simp [atL, h]
theorem atL_inj {ds : List Nat} (hnd : ds.Nodup) {i j : Nat} (hi : i < ds.length) (hj : j < ds.length) (h : atL ds i = atL ds j) : i = j := by
  simp [atL, hi, hj] at h
  exact (List.getElem_inj hnd).1 h
def GrowStep (w : World) (Q : Exit → Act → World → Prop) (outs : List (Nat × Value)) (ds : List Nat) (F : Nat → Value → World → Prop) (i : Nat) (o : Oper) : Prop :=
  ∀ (a : Act) (v : Nat → Value) (W : World) (K : Act → World → Prop), Below w.heap.size w W → (∀ q ∈ outs, a.tmps[q.1]?.getD undef = q.2) →
    (∀ j, depB o j = true → F j (v j) W ∧ a.tmps[atL ds j]?.getD undef = v j) →
    (∀ x W', Below W.heap.size W W' → F i x W' → K (a.put o.dst x) W') → Oper.wp Try.prog o a W K Q
set_option maxRecDepth 4000 in
theorem region_grow {id : Nat} {ops : Array Oper} {Q : Exit → Act → World → Prop} {a : Act} {w : World} (ds : List Nat) (outs : List (Nat × Value)) (F : Nat → Value → World → Prop)
    (hlen : ds.length = ops.size) (hb : backB ops = true) (hd : dB ops ds = true) (hnd : ds.Nodup) (hsz : ∀ e ∈ ds, e < a.tmps.size) (hout : ∀ q ∈ outs, a.eval (.tmp q.1) = q.2 ∧ q.1 ∉ ds)
    (hmono : ∀ i x W W', F i x W → Below W.heap.size W W' → F i x W')
    (hstep : ∀ (i : Nat) (o : Oper), ops[i]? = some o → GrowStep w Q outs ds F i o)
    (hend : ∀ v W, (∀ i, i < ops.size → F i (v (atL ds i)) W) → Below w.heap.size w W → Q .normal (laid a ds v) W) :
    (Code.region id ops true).wp Try.prog Q a w := by
  have hwd : Below w.heap.size w w.drew := below_drew1 w
  refine wp_region_laid ds outs (fun L v W => Below w.heap.size w W ∧ ∀ i, i < ops.size → L.getD i true = true → F i (v (atL ds i)) W) (by kernel_rfl) (back_of hb) hnd hsz hout ?_ ⟨hwd, fun i hi h => ?_⟩ ?_ (fun L v W hJ hall => hend v W (fun i hi => hJ.2 i hi (hall i hi)) hJ.1)
  · intro i o ho e he
    have := (d_of hd i o ho).1
    rw [this] at he
    obtain rfl := Option.some.inj he
    exact atL_mem _ _ (by rw [hlen]; exact (Array.getElem?_eq_some_iff.1 ho).1)
  · simp [hi] at h
  · intro i o ho L v W a' hJ hv hq hL hdp K hK
    have hi : i < ops.size := (Array.getElem?_eq_some_iff.1 ho).1
    obtain ⟨hdo, hgo⟩ := d_of hd i o ho
    have hw : Region.wanted o (yielded ops a'.tmps) = true := by
      obtain ⟨dd, op, ty, pos, aft, g⟩ := o
      simp only at hgo
      subst hgo
      rfl
    rw [if_pos hw]
    refine hstep i o ho a' (fun j => v (atL ds j)) W K hJ.1 hq (fun j hj => ?_) fun x W' hB hF => hK x W' ⟨hJ.1.trans (hB.mono hJ.1.size), fun j hj hLj => ?_⟩
    · have hji : j < i := by
        unfold depB at hj
        rw [Array.any_eq_true'] at hj
        obtain ⟨e, he, h2⟩ := hj
        rw [Bool.and_eq_true, beq_iff_eq] at h2
        have := back_of hb i o ho e he h2.1
        omega
      exact ⟨hJ.2 j (by omega) (dep_of hdp j hj), hv _ (atL_mem _ _ (by omega))⟩
    · rw [hdo, upd_some]
      by_cases e : j = i
      · subst e
        rw [if_pos rfl]; exact hF
      · rw [if_neg (fun h => e (atL_inj hnd (by omega) (by omega) h))]
        rw [set_getD] at hLj
        exact hmono _ _ _ _ (hJ.2 j hj (by simpa [e] using hLj)) hB

section
variable {Q : Exit → Act → World → Prop} {K : Act → World → Prop} {a : Act} {W : World} {d s : Nat} {ty : TypeId} {pos : String} {aft : Array Edge}
theorem step_move {x : Value} (hs : a.tmps[s]?.getD undef = x) (hK : K (a.put (some d) x) W) : Oper.wp Try.prog ⟨some d, .move (.tmp s), ty, pos, aft, none⟩ a W K Q := by
  have e : a.eval (.tmp s) = x := by rw [eval_tmp]; exact hs
  clear hs
  unfold Oper.wp
  simp only [execOp, e]
  exact hK
theorem step_assign {x : Value} (hs : a.tmps[s]?.getD undef = x) (hK : K (a.put (some d) x) W) : Oper.wp Try.prog ⟨some d, .assign (.tmp s), ty, pos, aft, none⟩ a W K Q := by
  have e : a.eval (.tmp s) = x := by rw [eval_tmp]; exact hs
  clear hs
  unfold Oper.wp
  simp only [execOp, e]
  exact hK
theorem step_extract0of2 {x y : Value} (hs : a.tmps[s]?.getD undef = .tuple #[x, y]) (hK : K (a.put (some d) x) W) : Oper.wp Try.prog ⟨some d, .extract (.tmp s) 0, ty, pos, aft, none⟩ a W K Q := by
  have e : a.eval (.tmp s) = .tuple #[x, y] := by rw [eval_tmp]; exact hs
  clear hs
  unfold Oper.wp
  simp only [execOp, e]
  exact hK
theorem step_extract1of2 {x y : Value} (hs : a.tmps[s]?.getD undef = .tuple #[x, y]) (hK : K (a.put (some d) y) W) : Oper.wp Try.prog ⟨some d, .extract (.tmp s) 1, ty, pos, aft, none⟩ a W K Q := by
  have e : a.eval (.tmp s) = .tuple #[x, y] := by rw [eval_tmp]; exact hs
  clear hs
  unfold Oper.wp
  simp only [execOp, e]
  exact hK
theorem step_extract0of3 {x y z : Value} (hs : a.tmps[s]?.getD undef = .tuple #[x, y, z]) (hK : K (a.put (some d) x) W) : Oper.wp Try.prog ⟨some d, .extract (.tmp s) 0, ty, pos, aft, none⟩ a W K Q := by
  have e : a.eval (.tmp s) = .tuple #[x, y, z] := by rw [eval_tmp]; exact hs
  clear hs
  unfold Oper.wp
  simp only [execOp, e]
  exact hK
theorem step_extract1of3 {x y z : Value} (hs : a.tmps[s]?.getD undef = .tuple #[x, y, z]) (hK : K (a.put (some d) y) W) : Oper.wp Try.prog ⟨some d, .extract (.tmp s) 1, ty, pos, aft, none⟩ a W K Q := by
  have e : a.eval (.tmp s) = .tuple #[x, y, z] := by rw [eval_tmp]; exact hs
  clear hs
  unfold Oper.wp
  simp only [execOp, e]
  exact hK
theorem step_extract2of3 {x y z : Value} (hs : a.tmps[s]?.getD undef = .tuple #[x, y, z]) (hK : K (a.put (some d) z) W) : Oper.wp Try.prog ⟨some d, .extract (.tmp s) 2, ty, pos, aft, none⟩ a W K Q := by
  have e : a.eval (.tmp s) = .tuple #[x, y, z] := by rw [eval_tmp]; exact hs
  clear hs
  unfold Oper.wp
  simp only [execOp, e]
  exact hK
theorem step_load114 {B l c : Nat} {h : Int} {p : Option Addr} (hs : a.tmps[s]?.getD undef = .pointer (some ⟨B, 0, none⟩)) (hb : BoxAt W B #[.int .i64 h, .slice p l c] 114)
    (hK : K (a.put (some d) (.agg #[.int .i64 h, .slice p l c])) W) : Oper.wp Try.prog ⟨some d, .load 114 (.tmp s), ty, pos, aft, none⟩ a W K Q := by
  have e : a.eval (.tmp s) = .pointer (some ⟨B, 0, none⟩) := by rw [eval_tmp]; exact hs
  have c0 := hb.cell' 0 rfl
  have c1 := hb.cell' 1 rfl
  clear hb hs
  unfold Oper.wp
  simp only [execOp, e]
  go_simp
  exact hK
theorem step_load26 {B l c : Nat} {h : Int} {p : Option Addr} (hs : a.tmps[s]?.getD undef = .pointer (some ⟨B, 0, none⟩)) (hb : BoxAt W B #[.int .i64 h, .slice p l c] 26)
    (hK : K (a.put (some d) (.agg #[.int .i64 h, .slice p l c])) W) : Oper.wp Try.prog ⟨some d, .load 26 (.tmp s), ty, pos, aft, none⟩ a W K Q := by
  have e : a.eval (.tmp s) = .pointer (some ⟨B, 0, none⟩) := by rw [eval_tmp]; exact hs
  have c0 := hb.cell' 0 rfl
  have c1 := hb.cell' 1 rfl
  clear hb hs
  unfold Oper.wp
  simp only [execOp, e]
  go_simp
  exact hK
theorem step_load37 {B l c : Nat} {h : Int} {p : Option Addr} (hs : a.tmps[s]?.getD undef = .pointer (some ⟨B, 0, none⟩)) (hb : BoxAt W B #[.int .i64 h, .slice p l c] 37)
    (hK : K (a.put (some d) (.agg #[.int .i64 h, .slice p l c])) W) : Oper.wp Try.prog ⟨some d, .load 37 (.tmp s), ty, pos, aft, none⟩ a W K Q := by
  have e : a.eval (.tmp s) = .pointer (some ⟨B, 0, none⟩) := by rw [eval_tmp]; exact hs
  have c0 := hb.cell' 0 rfl
  have c1 := hb.cell' 1 rfl
  clear hb hs
  unfold Oper.wp
  simp only [execOp, e]
  go_simp
  exact hK
theorem step_field37 {B : Nat} (hs : a.tmps[s]?.getD undef = .pointer (some ⟨B, 0, none⟩)) (hK : K (a.put (some d) (.pointer (some ⟨B, 0, none⟩))) W) : Oper.wp Try.prog ⟨some d, .fieldAddr 37 (.tmp s) 0, ty, pos, aft, none⟩ a W K Q := by
  have e : a.eval (.tmp s) = .pointer (some ⟨B, 0, none⟩) := by rw [eval_tmp]; exact hs
  clear hs
  unfold Oper.wp
  simp only [execOp, e]
  go_simp
  exact hK
theorem step_load3 {B : Nat} {x : Value} (hs : a.tmps[s]?.getD undef = .pointer (some ⟨B, 0, none⟩)) (hc : W.cell? ⟨B, 0, none⟩ = some x) (hK : K (a.put (some d) x) W) : Oper.wp Try.prog ⟨some d, .load 3 (.tmp s), ty, pos, aft, none⟩ a W K Q := by
  have e : a.eval (.tmp s) = .pointer (some ⟨B, 0, none⟩) := by rw [eval_tmp]; exact hs
  clear hs
  unfold Oper.wp
  simp only [execOp, e]
  go_simp
  exact hK
theorem step_build37 {t l c : Nat} {h : Int} {p : Option Addr} (hs : a.tmps[s]?.getD undef = .int .i64 h) (ht : a.tmps[t]?.getD undef = .slice p l c) (hK : K (a.put (some d) (.agg #[.int .i64 h, .slice p l c])) W) : Oper.wp Try.prog ⟨some d, .build 37 #[(0, .tmp s), (1, .tmp t)], ty, pos, aft, none⟩ a W K Q := by
  have HK := Lib.hid hK
  clear hK
  unfold Oper.wp
  simp only [execOp]
  go_simp
  exact HK.out
end
theorem step_call96 {Q : Exit → Act → World → Prop} {K : Act → World → Prop} {a : Act} {W : World} (d s : Nat) (tys : Array TypeId) (ty : TypeId) (pos : String) (aft : Array Edge) {x : Value} {R : Ending → World → Prop}
    (hs : a.tmps[s]?.getD undef = x) (hc : Calls Try.prog 96 #[x] W R) (hK : ∀ e w', R e w' → ∃ v, e = .returned v ∧ K (a.put (some d) v) w') :
    Oper.wp Try.prog ⟨some d, .call { callee := .value (.func 96), args := #[.tmp s], argTypes := tys }, ty, pos, aft, none⟩ a W K Q := by
  have e : a.eval (.tmp s) = x := by rw [eval_tmp]; exact hs
  unfold Oper.wp
  simp only [execOp]
  have HS := Lib.hid hs
  have HK := Lib.hid hK
  have HC := Lib.hid hc
  clear hs e hK hc
  go_simp
  rw [HS.out]
  refine HC.out.mono fun en w' hr => ?_
  obtain ⟨v, rfl, hk⟩ := HK.out _ _ hr
  exact hk
theorem step_call100 {Q : Exit → Act → World → Prop} {K : Act → World → Prop} {a : Act} {W : World} (d s : Nat) (tys : Array TypeId) (ty : TypeId) (pos : String) (aft : Array Edge) {x : Value} {R : Ending → World → Prop}
    (hs : a.tmps[s]?.getD undef = x) (hc : Calls Try.prog 100 #[x] W R) (hK : ∀ e w', R e w' → ∃ v, e = .returned v ∧ K (a.put (some d) v) w') :
    Oper.wp Try.prog ⟨some d, .call { callee := .value (.func 100), args := #[.tmp s], argTypes := tys }, ty, pos, aft, none⟩ a W K Q := by
  have e : a.eval (.tmp s) = x := by rw [eval_tmp]; exact hs
  unfold Oper.wp
  simp only [execOp]
  have HS := Lib.hid hs
  have HK := Lib.hid hK
  have HC := Lib.hid hc
  clear hs e hK hc
  go_simp
  rw [HS.out]
  refine HC.out.mono fun en w' hr => ?_
  obtain ⟨v, rfl, hk⟩ := HK.out _ _ hr
  exact hk
theorem step_call108 {Q : Exit → Act → World → Prop} {K : Act → World → Prop} {a : Act} {W : World} (d s : Nat) (tys : Array TypeId) (ty : TypeId) (pos : String) (aft : Array Edge) {x : Value} {R : Ending → World → Prop}
    (hs : a.tmps[s]?.getD undef = x) (hc : Calls Try.prog 108 #[x] W R) (hK : ∀ e w', R e w' → ∃ v, e = .returned v ∧ K (a.put (some d) v) w') :
    Oper.wp Try.prog ⟨some d, .call { callee := .value (.func 108), args := #[.tmp s], argTypes := tys }, ty, pos, aft, none⟩ a W K Q := by
  have e : a.eval (.tmp s) = x := by rw [eval_tmp]; exact hs
  unfold Oper.wp
  simp only [execOp]
  have HS := Lib.hid hs
  have HK := Lib.hid hK
  have HC := Lib.hid hc
  clear hs e hK hc
  go_simp
  rw [HS.out]
  refine HC.out.mono fun en w' hr => ?_
  obtain ⟨v, rfl, hk⟩ := HK.out _ _ hr
  exact hk
theorem step_call38 {Q : Exit → Act → World → Prop} {K : Act → World → Prop} {a : Act} {W : World} (d s t : Nat) (tys : Array TypeId) (ty : TypeId) (pos : String) (aft : Array Edge) {x y : Value} {R : Ending → World → Prop}
    (hs : a.tmps[s]?.getD undef = x) (ht : a.tmps[t]?.getD undef = y) (hc : Calls Try.prog 38 #[x, y] W R) (hK : ∀ e w', R e w' → ∃ v, e = .returned v ∧ K (a.put (some d) v) w') :
    Oper.wp Try.prog ⟨some d, .call { callee := .value (.func 38), args := #[.tmp s, .tmp t], argTypes := tys }, ty, pos, aft, none⟩ a W K Q := by
  unfold Oper.wp
  simp only [execOp]
  have HS := Lib.hid hs
  have HT := Lib.hid ht
  have HK := Lib.hid hK
  have HC := Lib.hid hc
  clear hs ht hK hc
  go_simp
  rw [HS.out, HT.out]
  refine HC.out.mono fun en w' hr => ?_
  obtain ⟨v, rfl, hk⟩ := HK.out _ _ hr
  exact hk
theorem step_call84 {Q : Exit → Act → World → Prop} {K : Act → World → Prop} {a : Act} {W : World} (d s t : Nat) (tys : Array TypeId) (ty : TypeId) (pos : String) (aft : Array Edge) {x y : Value} {R : Ending → World → Prop}
    (hs : a.tmps[s]?.getD undef = x) (ht : a.tmps[t]?.getD undef = y) (hc : Calls Try.prog 84 #[x, .int .i64 0, y] W R) (hK : ∀ e w', R e w' → ∃ v, e = .returned v ∧ K (a.put (some d) v) w') :
    Oper.wp Try.prog ⟨some d, .call { callee := .value (.func 84), args := #[.tmp s, .const (.int .i64 0), .tmp t], argTypes := tys }, ty, pos, aft, none⟩ a W K Q := by
  unfold Oper.wp
  simp only [execOp]
  have HS := Lib.hid hs
  have HT := Lib.hid ht
  have HK := Lib.hid hK
  have HC := Lib.hid hc
  clear hs ht hK hc
  go_simp
  rw [HS.out, HT.out]
  refine HC.out.mono fun en w' hr => ?_
  obtain ⟨v, rfl, hk⟩ := HK.out _ _ hr
  exact hk
theorem step_call101 {Q : Exit → Act → World → Prop} {K : Act → World → Prop} {a : Act} {W : World} (d s : Nat) (tys : Array TypeId) (ty : TypeId) (pos : String) (aft : Array Edge) {x : Value} {R : Ending → World → Prop}
    (hs : a.tmps[s]?.getD undef = x) (hc : Calls Try.prog 101 #[x, .int .i64 1] W R) (hK : ∀ e w', R e w' → ∃ v, e = .returned v ∧ K (a.put (some d) v) w') :
    Oper.wp Try.prog ⟨some d, .call { callee := .value (.func 101), args := #[.tmp s, .const (.int .i64 1)], argTypes := tys }, ty, pos, aft, none⟩ a W K Q := by
  unfold Oper.wp
  simp only [execOp]
  have HS := Lib.hid hs
  have HK := Lib.hid hK
  have HC := Lib.hid hc
  clear hs hK hc
  go_simp
  rw [HS.out]
  refine HC.out.mono fun en w' hr => ?_
  obtain ⟨v, rfl, hk⟩ := HK.out _ _ hr
  exact hk
end Go.Proofs.Ytdmgffoikebgkaa
/- Whole regions of the statements: rows woven by a chain, cloths woven by a harness. -/
namespace Go.Proofs.Ytdmgffoikebgkaa
open Go.RowKit Go.Shelf

def IsO (ops : Array Oper) (i dst : Nat) (op : Op) (deps : List Nat) : Prop :=
  ∃ ty pos aft, ops[i]? = some ⟨some dst, op, ty, pos, aft, none⟩ ∧ deps.all (depB ⟨some dst, op, ty, pos, aft, none⟩) = true
/-- what a woven cloth leaves -/
def StrRow (X : World) (L : Nat) (ss : List ByteArray) (s t : Value) (wx : World) : Prop := ∃ g c, s = .slice (some ⟨g, 0, none⟩) L c ∧ t = .int .i64 0 ∧ StrsAt wx g 0 ss ∧ g < wx.heap.size ∧ Below X.heap.size X wx
/-- what woven rows leave -/
def RowRow (X : World) (L : Nat) (xs : List Nat) (s t : Value) (wx : World) : Prop := ∃ g c, s = .slice (some ⟨g, 0, none⟩) L c ∧ t = .int .i64 0 ∧ NatsAt wx g 0 xs ∧ g < wx.heap.size ∧ Below X.heap.size X wx
def RowF (L : Nat) (xs : List Nat) (v : Value) (W : World) : Prop := ∃ g c, v = .slice (some ⟨g, 0, none⟩) L c ∧ NatsAt W g 0 xs ∧ g < W.heap.size
theorem RowF.mono {L : Nat} {xs : List Nat} {v : Value} {W W' : World} (h : RowF L xs v W) (hb : Below W.heap.size W W') : RowF L xs v W' := by
  obtain ⟨g, c, a, b, l⟩ := h; exact ⟨g, c, a, b.below hb l, Nat.lt_of_lt_of_le l hb.size⟩
def AggF (n L : Nat) (xs : List Nat) (v : Value) (W : World) : Prop := ∃ g c, v = .agg #[.int .i64 (n : Int), .slice (some ⟨g, 0, none⟩) L c] ∧ NatsAt W g 0 xs ∧ g < W.heap.size
theorem AggF.mono {n L : Nat} {xs : List Nat} {v : Value} {W W' : World} (h : AggF n L xs v W) (hb : Below W.heap.size W W') : AggF n L xs v W' := by
  obtain ⟨g, c, a, b, l⟩ := h; exact ⟨g, c, a, b.below hb l, Nat.lt_of_lt_of_le l hb.size⟩
def Tup3 (L : Nat) (xs : List Nat) (v : Value) (W : World) : Prop := ∃ g c a, v = .tuple #[.slice (some ⟨g, 0, none⟩) L c, .int .i64 a, .int .i64 0] ∧ NatsAt W g 0 xs ∧ g < W.heap.size
theorem Tup3.mono {L : Nat} {xs : List Nat} {v : Value} {W W' : World} (h : Tup3 L xs v W) (hb : Below W.heap.size W W') : Tup3 L xs v W' := by
  obtain ⟨g, c, q, a, b, l⟩ := h; exact ⟨g, c, q, a, b.below hb l, Nat.lt_of_lt_of_le l hb.size⟩
def StrF (L : Nat) (ss : List ByteArray) (v : Value) (W : World) : Prop := ∃ g c, v = .slice (some ⟨g, 0, none⟩) L c ∧ StrsAt W g 0 ss ∧ g < W.heap.size
theorem StrF.mono {L : Nat} {ss : List ByteArray} {v : Value} {W W' : World} (h : StrF L ss v W) (hb : Below W.heap.size W W') : StrF L ss v W' := by
  obtain ⟨g, c, a, b, l⟩ := h; exact ⟨g, c, a, b.below hb l, Nat.lt_of_lt_of_le l hb.size⟩
def Tup2 (L : Nat) (ss : List ByteArray) (v : Value) (W : World) : Prop := ∃ g c, v = .tuple #[.slice (some ⟨g, 0, none⟩) L c, .int .i64 0] ∧ StrsAt W g 0 ss ∧ g < W.heap.size
theorem Tup2.mono {L : Nat} {ss : List ByteArray} {v : Value} {W W' : World} (h : Tup2 L ss v W) (hb : Below W.heap.size W W') : Tup2 L ss v W' := by
  obtain ⟨g, c, a, b, l⟩ := h; exact ⟨g, c, a, b.below hb l, Nat.lt_of_lt_of_le l hb.size⟩
theorem call108 (L b c : Nat) (xs : List Nat) (W : World) (hL : xs.length = L) (h0 : 0 < L) (h1 : L ≤ 60) (hx : NatsAt W b 0 xs) (hb : b < W.heap.size) :
    Calls Try.prog 108 #[.slice (some ⟨b, 0, none⟩) L c] W fun e w' => ∃ g cap, e = .returned (.slice (some ⟨g, 0, none⟩) L cap) ∧ NatsAt w' g 0 xs ∧ W.heap.size ≤ g ∧ g < w'.heap.size ∧ Below W.heap.size W w' := by
  subst hL
  refine (armInts_ok b 0 c xs W h0 (by omega) hx hb).mono ?_
  rintro e w' ⟨g, cap, rfl, h1, h2⟩
  obtain ⟨a, b, d⟩ := nats_of_row h1 h0
  exact ⟨g, cap, rfl, a, d, b, h2⟩
def region_weaveF (N L g q : Nat) (rows : List Nat) : Nat → Value → World → Prop
  | 0, v, _ => v = .agg #[.int .i64 (N : Int), .slice (some ⟨g, 0, none⟩) L q]
  | 1, v, _ => v = .int .i64 (L : Int)
  | 2, v, W => RowF L (List.replicate L 1) v W
  | 3, v, W => Tup3 L rows v W
  | 4, v, W => Tup3 L rows v W
  | 5, v, W => RowF L rows v W
  | 6, _, _ => True
  | 7, v, _ => v = .int .i64 0
  | 8, v, W => RowF L rows v W
  | 9, _, _ => True
  | _, v, _ => v = .int .i64 0
theorem region_weaveF.mono {N L g q : Nat} {rows : List Nat} : ∀ (i : Nat) (v : Value) (W W' : World), region_weaveF N L g q rows i v W → Below W.heap.size W W' → region_weaveF N L g q rows i v W'
  | 0, _, _, _, h, _ => h
  | 1, _, _, _, h, _ => h
  | 2, _, _, _, h, hb => RowF.mono h hb
  | 3, _, _, _, h, hb => Tup3.mono h hb
  | 4, _, _, _, h, hb => Tup3.mono h hb
  | 5, _, _, _, h, hb => RowF.mono h hb
  | 6, _, _, _, h, _ => h
  | 7, _, _, _, h, _ => h
  | 8, _, _, _, h, hb => RowF.mono h hb
  | 9, _, _, _, h, _ => h
  | _ + 10, _, _, _, h, _ => h
set_option maxRecDepth 8000 in
set_option maxHeartbeats 1000000 in
theorem region_weave {id : Nat} {ops : Array Oper} {Q : Exit → Act → World → Prop} {a : Act} {w : World} (ds : List Nat) (b n N L g q B : Nat) (cs : List Card) (rows : List Nat)
    (hsize : ops.size = 11)
    (hops : IsO ops 0 (atL ds 0) (.load 114 (.tmp b)) [] ∧ IsO ops 1 (atL ds 1) (.move (.tmp n)) [] ∧ IsO ops 2 (atL ds 2) (.call { callee := .value (.func 101), args := #[.tmp (atL ds 1), .const (.int .i64 1)], argTypes := #[3, 3] }) [1] ∧ IsO ops 3 (atL ds 3) (.call { callee := .value (.func 84), args := #[.tmp (atL ds 0), .const (.int .i64 0), .tmp (atL ds 2)], argTypes := #[114, 3, 24] }) [0, 2] ∧ IsO ops 4 (atL ds 4) (.move (.tmp (atL ds 3))) [3] ∧ IsO ops 5 (atL ds 5) (.extract (.tmp (atL ds 4)) 0) [4] ∧ IsO ops 6 (atL ds 6) (.extract (.tmp (atL ds 4)) 1) [4] ∧ IsO ops 7 (atL ds 7) (.extract (.tmp (atL ds 4)) 2) [4] ∧ IsO ops 8 (atL ds 8) (.assign (.tmp (atL ds 5))) [5] ∧ IsO ops 9 (atL ds 9) (.assign (.tmp (atL ds 6))) [6] ∧ IsO ops 10 (atL ds 10) (.assign (.tmp (atL ds 7))) [7])
    (hlen : ds.length = 11) (hb : backB ops = true) (hd : dB ops ds = true) (hnd : ds.Nodup) (hsz : ∀ e ∈ ds, e < a.tmps.size)
    (hout : a.eval (.tmp b) = .pointer (some ⟨B, 0, none⟩) ∧ b ∉ ds ∧ a.eval (.tmp n) = .int .i64 (L : Int) ∧ n ∉ ds)
    (hbox : BoxAt w B #[.int .i64 (N : Int), .slice (some ⟨g, 0, none⟩) L q] 114) (hc : CardsAt w g cs) (hL : cs.length = L) (hv : ChainOk N cs) (hrows : wovenTo N cs (List.replicate L 1) 0 L = rows)
    (hend : ∀ v W, RowRow w L rows (v (atL ds 8)) (v (atL ds 10)) W → Q .normal (laid a ds v) W) :
    (Code.region id ops true).wp Try.prog Q a w := by
  obtain ⟨h0, h1, h2, h3, h4, h5, h6, h7, h8, h9, h10⟩ := hops
  obtain ⟨o0, p0, o1, p1⟩ := hout
  have l0 := hv.l0
  have l1 := hv.l1
  refine region_grow ds [(b, .pointer (some ⟨B, 0, none⟩)), (n, .int .i64 (L : Int))] (region_weaveF N L g q rows) (by rw [hlen, hsize]) hb hd hnd hsz ?_ region_weaveF.mono ?_ ?_
  · intro q hq
    simp only [List.mem_cons, List.not_mem_nil, or_false] at hq
    rcases hq with rfl | rfl
    · exact ⟨o0, p0⟩
    · exact ⟨o1, p1⟩
  · intro i o ho
    have hi : i < 11 := by rw [← hsize]; exact (Array.getElem?_eq_some_iff.1 ho).1
    match i, hi with
    | 0, _ =>
      obtain ⟨ty, pos, aft, e, hdp⟩ := h0
      rw [e] at ho
      obtain rfl := Option.some.inj ho
      intro a' v W Kc hB hq hdd hK
      exact step_load114 (hq (b, _) (by simp)) (hbox.next hB) (hK _ _ (Below.refl _ _) rfl)
    | 1, _ =>
      obtain ⟨ty, pos, aft, e, hdp⟩ := h1
      rw [e] at ho
      obtain rfl := Option.some.inj ho
      intro a' v W Kc hB hq hdd hK
      exact step_move (hq (n, _) (by simp)) (hK _ _ (Below.refl _ _) rfl)
    | 2, _ =>
      obtain ⟨ty, pos, aft, e, hdp⟩ := h2
      rw [e] at ho
      obtain rfl := Option.some.inj ho
      intro a' v W Kc hB hq hdd hK
      obtain ⟨f1, t1⟩ := hdd 1 (List.all_eq_true.1 hdp 1 (by decide))
      have e1 : v 1 = .int .i64 (L : Int) := f1
      rw [e1] at t1
      refine step_call101 _ _ _ _ _ _ t1 (call101 L W (by omega) (by omega)) ?_
      rintro e w' ⟨g', c', rfl, hn, _, hl, hb'⟩
      exact ⟨_, rfl, hK _ _ hb' ⟨g', c', rfl, hn, hl⟩⟩
    | 3, _ =>
      obtain ⟨ty, pos, aft, e, hdp⟩ := h3
      rw [e] at ho
      obtain rfl := Option.some.inj ho
      intro a' v W Kc hB hq hdd hK
      obtain ⟨f0, t0⟩ := hdd 0 (List.all_eq_true.1 hdp 0 (by decide))
      obtain ⟨f2, t2⟩ := hdd 2 (List.all_eq_true.1 hdp 2 (by decide))
      have e0 : v 0 = .agg #[.int .i64 (N : Int), .slice (some ⟨g, 0, none⟩) L q] := f0
      obtain ⟨g2, c2, e2, hn2, hl2⟩ := f2
      rw [e0] at t0
      rw [e2] at t2
      refine step_call84 _ _ _ _ _ _ _ t0 t2 (call84 N L g q g2 c2 cs W hL hv (hc.next hB) hn2 hl2) ?_
      rintro e w' ⟨g', c', a', rfl, hn, _, hl, hb'⟩
      exact ⟨_, rfl, hK _ _ hb' ⟨g', c', _, rfl, by rw [← hrows]; exact hn, hl⟩⟩
    | 4, _ =>
      obtain ⟨ty, pos, aft, e, hdp⟩ := h4
      rw [e] at ho
      obtain rfl := Option.some.inj ho
      intro a' v W Kc hB hq hdd hK
      obtain ⟨f3, t3⟩ := hdd 3 (List.all_eq_true.1 hdp 3 (by decide))
      exact step_move t3 (hK _ _ (Below.refl _ _) f3)
    | 5, _ =>
      obtain ⟨ty, pos, aft, e, hdp⟩ := h5
      rw [e] at ho
      obtain rfl := Option.some.inj ho
      intro a' v W Kc hB hq hdd hK
      obtain ⟨f4, t4⟩ := hdd 4 (List.all_eq_true.1 hdp 4 (by decide))
      obtain ⟨g', c', a2, e4, hn, hl⟩ := f4
      rw [e4] at t4
      exact step_extract0of3 t4 (hK _ _ (Below.refl _ _) ⟨g', c', rfl, hn, hl⟩)
    | 6, _ =>
      obtain ⟨ty, pos, aft, e, hdp⟩ := h6
      rw [e] at ho
      obtain rfl := Option.some.inj ho
      intro a' v W Kc hB hq hdd hK
      obtain ⟨f4, t4⟩ := hdd 4 (List.all_eq_true.1 hdp 4 (by decide))
      obtain ⟨g', c', a2, e4, hn, hl⟩ := f4
      rw [e4] at t4
      exact step_extract1of3 t4 (hK _ _ (Below.refl _ _) trivial)
    | 7, _ =>
      obtain ⟨ty, pos, aft, e, hdp⟩ := h7
      rw [e] at ho
      obtain rfl := Option.some.inj ho
      intro a' v W Kc hB hq hdd hK
      obtain ⟨f4, t4⟩ := hdd 4 (List.all_eq_true.1 hdp 4 (by decide))
      obtain ⟨g', c', a2, e4, hn, hl⟩ := f4
      rw [e4] at t4
      exact step_extract2of3 t4 (hK _ _ (Below.refl _ _) rfl)
    | 8, _ =>
      obtain ⟨ty, pos, aft, e, hdp⟩ := h8
      rw [e] at ho
      obtain rfl := Option.some.inj ho
      intro a' v W Kc hB hq hdd hK
      obtain ⟨f5, t5⟩ := hdd 5 (List.all_eq_true.1 hdp 5 (by decide))
      exact step_assign t5 (hK _ _ (Below.refl _ _) f5)
    | 9, _ =>
      obtain ⟨ty, pos, aft, e, hdp⟩ := h9
      rw [e] at ho
      obtain rfl := Option.some.inj ho
      intro a' v W Kc hB hq hdd hK
      obtain ⟨f6, t6⟩ := hdd 6 (List.all_eq_true.1 hdp 6 (by decide))
      exact step_assign t6 (hK _ _ (Below.refl _ _) trivial)
    | 10, _ =>
      obtain ⟨ty, pos, aft, e, hdp⟩ := h10
      rw [e] at ho
      obtain rfl := Option.some.inj ho
      intro a' v W Kc hB hq hdd hK
      obtain ⟨f7, t7⟩ := hdd 7 (List.all_eq_true.1 hdp 7 (by decide))
      exact step_assign t7 (hK _ _ (Below.refl _ _) f7)
    | i + 11, h => omega
  · intro v W hF hB
    obtain ⟨g', c', e8, hn, hl⟩ := hF 8 (by omega)
    exact hend v W ⟨g', c', e8, hF 10 (by omega), hn, hl, hB⟩
def region_clothF (N K L g1 q1 g2 q2 : Nat) (hs xs : List Nat) : Nat → Value → World → Prop
  | 0, v, _ => v = .agg #[.int .i64 (N : Int), .slice (some ⟨g1, 0, none⟩) K q1]
  | 1, v, W => AggF N K hs v W
  | 2, v, _ => v = .agg #[.int .i64 (N : Int), .slice (some ⟨g2, 0, none⟩) L q2]
  | 3, v, W => AggF N L xs v W
  | 4, v, W => Tup2 L (clothS hs xs) v W
  | 5, v, W => Tup2 L (clothS hs xs) v W
  | 6, v, W => StrF L (clothS hs xs) v W
  | 7, v, _ => v = .int .i64 0
  | 8, v, W => StrF L (clothS hs xs) v W
  | _, v, _ => v = .int .i64 0
theorem region_clothF.mono {N K L g1 q1 g2 q2 : Nat} {hs xs : List Nat} : ∀ (i : Nat) (v : Value) (W W' : World), region_clothF N K L g1 q1 g2 q2 hs xs i v W → Below W.heap.size W W' → region_clothF N K L g1 q1 g2 q2 hs xs i v W'
  | 0, _, _, _, h, _ => h
  | 1, _, _, _, h, hb => AggF.mono h hb
  | 2, _, _, _, h, _ => h
  | 3, _, _, _, h, hb => AggF.mono h hb
  | 4, _, _, _, h, hb => Tup2.mono h hb
  | 5, _, _, _, h, hb => Tup2.mono h hb
  | 6, _, _, _, h, hb => StrF.mono h hb
  | 7, _, _, _, h, _ => h
  | 8, _, _, _, h, hb => StrF.mono h hb
  | _ + 9, _, _, _, h, _ => h
set_option maxRecDepth 8000 in
set_option maxHeartbeats 1000000 in
theorem region_cloth {id : Nat} {ops : Array Oper} {Q : Exit → Act → World → Prop} {a : Act} {w : World} (ds : List Nat) (y z Y Z N K L g1 q1 g2 q2 : Nat) (hs xs : List Nat)
    (hsize : ops.size = 10)
    (hops : IsO ops 0 (atL ds 0) (.load 26 (.tmp y)) [] ∧ IsO ops 1 (atL ds 1) (.call { callee := .value (.func 100), args := #[.tmp (atL ds 0)], argTypes := #[26] }) [0] ∧ IsO ops 2 (atL ds 2) (.load 37 (.tmp z)) [] ∧ IsO ops 3 (atL ds 3) (.call { callee := .value (.func 96), args := #[.tmp (atL ds 2)], argTypes := #[37] }) [2] ∧ IsO ops 4 (atL ds 4) (.call { callee := .value (.func 38), args := #[.tmp (atL ds 1), .tmp (atL ds 3)], argTypes := #[26, 37] }) [1, 3] ∧ IsO ops 5 (atL ds 5) (.move (.tmp (atL ds 4))) [4] ∧ IsO ops 6 (atL ds 6) (.extract (.tmp (atL ds 5)) 0) [5] ∧ IsO ops 7 (atL ds 7) (.extract (.tmp (atL ds 5)) 1) [5] ∧ IsO ops 8 (atL ds 8) (.assign (.tmp (atL ds 6))) [6] ∧ IsO ops 9 (atL ds 9) (.assign (.tmp (atL ds 7))) [7])
    (hlen : ds.length = 10) (hb : backB ops = true) (hd : dB ops ds = true) (hnd : ds.Nodup) (hsz : ∀ e ∈ ds, e < a.tmps.size)
    (hout : a.eval (.tmp y) = .pointer (some ⟨Y, 0, none⟩) ∧ y ∉ ds ∧ a.eval (.tmp z) = .pointer (some ⟨Z, 0, none⟩) ∧ z ∉ ds)
    (hY : BoxAt w Y #[.int .i64 (N : Int), .slice (some ⟨g1, 0, none⟩) K q1] 26) (n1 : NatsAt w g1 0 hs) (l1 : g1 < w.heap.size) (hK0 : hs.length = K) (hk0 : 1 ≤ K) (hk1 : K ≤ 96) (hk : ∀ i, i < K → nthN hs i < N) (hL0 : xs.length = L) (hv : Valid N xs) (hZ : BoxAt w Z #[.int .i64 (N : Int), .slice (some ⟨g2, 0, none⟩) L q2] 37) (n2 : NatsAt w g2 0 xs) (l2 : g2 < w.heap.size)
    (hend : ∀ v W, StrRow w L (clothS hs xs) (v (atL ds 8)) (v (atL ds 9)) W → Q .normal (laid a ds v) W) :
    (Code.region id ops true).wp Try.prog Q a w := by
  obtain ⟨h0, h1, h2, h3, h4, h5, h6, h7, h8, h9⟩ := hops
  obtain ⟨o0, p0, o1, p1⟩ := hout
  refine region_grow ds [(y, .pointer (some ⟨Y, 0, none⟩)), (z, .pointer (some ⟨Z, 0, none⟩))] (region_clothF N K L g1 q1 g2 q2 hs xs) (by rw [hlen, hsize]) hb hd hnd hsz ?_ region_clothF.mono ?_ ?_
  · intro q hq
    simp only [List.mem_cons, List.not_mem_nil, or_false] at hq
    rcases hq with rfl | rfl
    · exact ⟨o0, p0⟩
    · exact ⟨o1, p1⟩
  · intro i o ho
    have hi : i < 10 := by rw [← hsize]; exact (Array.getElem?_eq_some_iff.1 ho).1
    match i, hi with
    | 0, _ =>
      obtain ⟨ty, pos, aft, e, hdp⟩ := h0
      rw [e] at ho
      obtain rfl := Option.some.inj ho
      intro a' v W Kc hB hq hdd hK
      exact step_load26 (hq (y, _) (by simp)) (hY.next hB) (hK _ _ (Below.refl _ _) rfl)
    | 1, _ =>
      obtain ⟨ty, pos, aft, e, hdp⟩ := h1
      rw [e] at ho
      obtain rfl := Option.some.inj ho
      intro a' v W Kc hB hq hdd hK
      obtain ⟨f0, t0⟩ := hdd 0 (List.all_eq_true.1 hdp 0 (by decide))
      have e0 : v 0 = .agg #[.int .i64 (N : Int), .slice (some ⟨g1, 0, none⟩) K q1] := f0
      rw [e0] at t0
      refine step_call100 _ _ _ _ _ _ t0 (call100 N K g1 q1 hs W hK0 hk0 hk1 (n1.below hB l1) (Nat.lt_of_lt_of_le l1 hB.size)) ?_
      rintro e w' ⟨g', c', rfl, hn, _, hl, hb'⟩
      exact ⟨_, rfl, hK _ _ hb' ⟨g', c', rfl, hn, hl⟩⟩
    | 2, _ =>
      obtain ⟨ty, pos, aft, e, hdp⟩ := h2
      rw [e] at ho
      obtain rfl := Option.some.inj ho
      intro a' v W Kc hB hq hdd hK
      exact step_load37 (hq (z, _) (by simp)) (hZ.next hB) (hK _ _ (Below.refl _ _) rfl)
    | 3, _ =>
      obtain ⟨ty, pos, aft, e, hdp⟩ := h3
      rw [e] at ho
      obtain rfl := Option.some.inj ho
      intro a' v W Kc hB hq hdd hK
      obtain ⟨f2, t2⟩ := hdd 2 (List.all_eq_true.1 hdp 2 (by decide))
      have e2 : v 2 = .agg #[.int .i64 (N : Int), .slice (some ⟨g2, 0, none⟩) L q2] := f2
      rw [e2] at t2
      refine step_call96 _ _ _ _ _ _ t2 (call96 N L g2 q2 xs W hL0 hv (n2.below hB l2) (Nat.lt_of_lt_of_le l2 hB.size)) ?_
      rintro e w' ⟨g', c', rfl, hn, _, hl, hb'⟩
      exact ⟨_, rfl, hK _ _ hb' ⟨g', c', rfl, hn, hl⟩⟩
    | 4, _ =>
      obtain ⟨ty, pos, aft, e, hdp⟩ := h4
      rw [e] at ho
      obtain rfl := Option.some.inj ho
      intro a' v W Kc hB hq hdd hK
      obtain ⟨f1, t1⟩ := hdd 1 (List.all_eq_true.1 hdp 1 (by decide))
      obtain ⟨f3, t3⟩ := hdd 3 (List.all_eq_true.1 hdp 3 (by decide))
      obtain ⟨ga, ca, e1, hna, hla⟩ := f1
      obtain ⟨gb, cb, e2, hnb, hlb⟩ := f3
      rw [e1] at t1
      rw [e2] at t3
      refine step_call38 _ _ _ _ _ _ _ t1 t3 (call38 N K L ga ca gb cb hs xs W hK0 hL0 hk0 hk1 hk hv hna hla hnb hlb) ?_
      rintro e w' ⟨g', c', rfl, hn, _, hl, hb'⟩
      exact ⟨_, rfl, hK _ _ hb' ⟨g', c', rfl, hn, hl⟩⟩
    | 5, _ =>
      obtain ⟨ty, pos, aft, e, hdp⟩ := h5
      rw [e] at ho
      obtain rfl := Option.some.inj ho
      intro a' v W Kc hB hq hdd hK
      obtain ⟨f4, t4⟩ := hdd 4 (List.all_eq_true.1 hdp 4 (by decide))
      exact step_move t4 (hK _ _ (Below.refl _ _) f4)
    | 6, _ =>
      obtain ⟨ty, pos, aft, e, hdp⟩ := h6
      rw [e] at ho
      obtain rfl := Option.some.inj ho
      intro a' v W Kc hB hq hdd hK
      obtain ⟨f5, t5⟩ := hdd 5 (List.all_eq_true.1 hdp 5 (by decide))
      obtain ⟨g', c', e5, hn, hl⟩ := f5
      rw [e5] at t5
      exact step_extract0of2 t5 (hK _ _ (Below.refl _ _) ⟨g', c', rfl, hn, hl⟩)
    | 7, _ =>
      obtain ⟨ty, pos, aft, e, hdp⟩ := h7
      rw [e] at ho
      obtain rfl := Option.some.inj ho
      intro a' v W Kc hB hq hdd hK
      obtain ⟨f5, t5⟩ := hdd 5 (List.all_eq_true.1 hdp 5 (by decide))
      obtain ⟨g', c', e5, hn, hl⟩ := f5
      rw [e5] at t5
      exact step_extract1of2 t5 (hK _ _ (Below.refl _ _) rfl)
    | 8, _ =>
      obtain ⟨ty, pos, aft, e, hdp⟩ := h8
      rw [e] at ho
      obtain rfl := Option.some.inj ho
      intro a' v W Kc hB hq hdd hK
      obtain ⟨f6, t6⟩ := hdd 6 (List.all_eq_true.1 hdp 6 (by decide))
      exact step_assign t6 (hK _ _ (Below.refl _ _) f6)
    | 9, _ =>
      obtain ⟨ty, pos, aft, e, hdp⟩ := h9
      rw [e] at ho
      obtain rfl := Option.some.inj ho
      intro a' v W Kc hB hq hdd hK
      obtain ⟨f7, t7⟩ := hdd 7 (List.all_eq_true.1 hdp 7 (by decide))
      exact step_assign t7 (hK _ _ (Below.refl _ _) f7)
    | i + 10, h => omega
  · intro v W hF hB
    obtain ⟨g', c', e8, hn, hl⟩ := hF 8 (by omega)
    exact hend v W ⟨g', c', e8, hF 9 (by omega), hn, hl, hB⟩
def region_rowsF (N K L Z g1 q1 g2 q2 : Nat) (hs xs : List Nat) : Nat → Value → World → Prop
  | 0, v, _ => v = .agg #[.int .i64 (N : Int), .slice (some ⟨g1, 0, none⟩) K q1]
  | 1, v, W => AggF N K hs v W
  | 2, v, _ => v = .pointer (some ⟨Z, 0, none⟩)
  | 3, v, _ => v = .int .i64 (N : Int)
  | 4, v, _ => v = .slice (some ⟨g2, 0, none⟩) L q2
  | 5, v, W => AggF N L xs v W
  | 6, v, W => Tup2 L (clothS hs xs) v W
  | 7, v, W => Tup2 L (clothS hs xs) v W
  | 8, v, W => StrF L (clothS hs xs) v W
  | 9, v, _ => v = .int .i64 0
  | 10, v, W => StrF L (clothS hs xs) v W
  | _, v, _ => v = .int .i64 0
theorem region_rowsF.mono {N K L Z g1 q1 g2 q2 : Nat} {hs xs : List Nat} : ∀ (i : Nat) (v : Value) (W W' : World), region_rowsF N K L Z g1 q1 g2 q2 hs xs i v W → Below W.heap.size W W' → region_rowsF N K L Z g1 q1 g2 q2 hs xs i v W'
  | 0, _, _, _, h, _ => h
  | 1, _, _, _, h, hb => AggF.mono h hb
  | 2, _, _, _, h, _ => h
  | 3, _, _, _, h, _ => h
  | 4, _, _, _, h, _ => h
  | 5, _, _, _, h, hb => AggF.mono h hb
  | 6, _, _, _, h, hb => Tup2.mono h hb
  | 7, _, _, _, h, hb => Tup2.mono h hb
  | 8, _, _, _, h, hb => StrF.mono h hb
  | 9, _, _, _, h, _ => h
  | 10, _, _, _, h, hb => StrF.mono h hb
  | _ + 11, _, _, _, h, _ => h
set_option maxRecDepth 8000 in
set_option maxHeartbeats 1000000 in
theorem region_rows {id : Nat} {ops : Array Oper} {Q : Exit → Act → World → Prop} {a : Act} {w : World} (ds : List Nat) (y z r Y Z N K L g1 q1 g2 q2 : Nat) (hs xs : List Nat) {zs : Value}
    (hsize : ops.size = 12)
    (hops : IsO ops 0 (atL ds 0) (.load 26 (.tmp y)) [] ∧ IsO ops 1 (atL ds 1) (.call { callee := .value (.func 100), args := #[.tmp (atL ds 0)], argTypes := #[26] }) [0] ∧ IsO ops 2 (atL ds 2) (.fieldAddr 37 (.tmp z) 0) [] ∧ IsO ops 3 (atL ds 3) (.load 3 (.tmp (atL ds 2))) [2] ∧ IsO ops 4 (atL ds 4) (.move (.tmp r)) [] ∧ IsO ops 5 (atL ds 5) (.build 37 #[(0, .tmp (atL ds 3)), (1, .tmp (atL ds 4))]) [3, 4] ∧ IsO ops 6 (atL ds 6) (.call { callee := .value (.func 38), args := #[.tmp (atL ds 1), .tmp (atL ds 5)], argTypes := #[26, 37] }) [1, 5] ∧ IsO ops 7 (atL ds 7) (.move (.tmp (atL ds 6))) [6] ∧ IsO ops 8 (atL ds 8) (.extract (.tmp (atL ds 7)) 0) [7] ∧ IsO ops 9 (atL ds 9) (.extract (.tmp (atL ds 7)) 1) [7] ∧ IsO ops 10 (atL ds 10) (.assign (.tmp (atL ds 8))) [8] ∧ IsO ops 11 (atL ds 11) (.assign (.tmp (atL ds 9))) [9])
    (hlen : ds.length = 12) (hb : backB ops = true) (hd : dB ops ds = true) (hnd : ds.Nodup) (hsz : ∀ e ∈ ds, e < a.tmps.size)
    (hout : a.eval (.tmp y) = .pointer (some ⟨Y, 0, none⟩) ∧ y ∉ ds ∧ a.eval (.tmp z) = .pointer (some ⟨Z, 0, none⟩) ∧ z ∉ ds ∧ a.eval (.tmp r) = .slice (some ⟨g2, 0, none⟩) L q2 ∧ r ∉ ds)
    (hY : BoxAt w Y #[.int .i64 (N : Int), .slice (some ⟨g1, 0, none⟩) K q1] 26) (n1 : NatsAt w g1 0 hs) (l1 : g1 < w.heap.size) (hK0 : hs.length = K) (hk0 : 1 ≤ K) (hk1 : K ≤ 96) (hk : ∀ i, i < K → nthN hs i < N) (hL0 : xs.length = L) (hv : Valid N xs) (hZ : BoxAt w Z #[.int .i64 (N : Int), zs] 37) (n2 : NatsAt w g2 0 xs) (l2 : g2 < w.heap.size)
    (hend : ∀ v W, StrRow w L (clothS hs xs) (v (atL ds 10)) (v (atL ds 11)) W → Q .normal (laid a ds v) W) :
    (Code.region id ops true).wp Try.prog Q a w := by
  obtain ⟨h0, h1, h2, h3, h4, h5, h6, h7, h8, h9, h10, h11⟩ := hops
  obtain ⟨o0, p0, o1, p1, o2, p2⟩ := hout
  refine region_grow ds [(y, .pointer (some ⟨Y, 0, none⟩)), (z, .pointer (some ⟨Z, 0, none⟩)), (r, .slice (some ⟨g2, 0, none⟩) L q2)] (region_rowsF N K L Z g1 q1 g2 q2 hs xs) (by rw [hlen, hsize]) hb hd hnd hsz ?_ region_rowsF.mono ?_ ?_
  · intro q hq
    simp only [List.mem_cons, List.not_mem_nil, or_false] at hq
    rcases hq with rfl | rfl | rfl
    · exact ⟨o0, p0⟩
    · exact ⟨o1, p1⟩
    · exact ⟨o2, p2⟩
  · intro i o ho
    have hi : i < 12 := by rw [← hsize]; exact (Array.getElem?_eq_some_iff.1 ho).1
    match i, hi with
    | 0, _ =>
      obtain ⟨ty, pos, aft, e, hdp⟩ := h0
      rw [e] at ho
      obtain rfl := Option.some.inj ho
      intro a' v W Kc hB hq hdd hK
      exact step_load26 (hq (y, _) (by simp)) (hY.next hB) (hK _ _ (Below.refl _ _) rfl)
    | 1, _ =>
      obtain ⟨ty, pos, aft, e, hdp⟩ := h1
      rw [e] at ho
      obtain rfl := Option.some.inj ho
      intro a' v W Kc hB hq hdd hK
      obtain ⟨f0, t0⟩ := hdd 0 (List.all_eq_true.1 hdp 0 (by decide))
      have e0 : v 0 = .agg #[.int .i64 (N : Int), .slice (some ⟨g1, 0, none⟩) K q1] := f0
      rw [e0] at t0
      refine step_call100 _ _ _ _ _ _ t0 (call100 N K g1 q1 hs W hK0 hk0 hk1 (n1.below hB l1) (Nat.lt_of_lt_of_le l1 hB.size)) ?_
      rintro e w' ⟨g', c', rfl, hn, _, hl, hb'⟩
      exact ⟨_, rfl, hK _ _ hb' ⟨g', c', rfl, hn, hl⟩⟩
    | 2, _ =>
      obtain ⟨ty, pos, aft, e, hdp⟩ := h2
      rw [e] at ho
      obtain rfl := Option.some.inj ho
      intro a' v W Kc hB hq hdd hK
      exact step_field37 (hq (z, _) (by simp)) (hK _ _ (Below.refl _ _) rfl)
    | 3, _ =>
      obtain ⟨ty, pos, aft, e, hdp⟩ := h3
      rw [e] at ho
      obtain rfl := Option.some.inj ho
      intro a' v W Kc hB hq hdd hK
      obtain ⟨f2, t2⟩ := hdd 2 (List.all_eq_true.1 hdp 2 (by decide))
      have e2 : v 2 = .pointer (some ⟨Z, 0, none⟩) := f2
      rw [e2] at t2
      exact step_load3 t2 (BoxAt.cell' (hZ.next hB) 0 rfl) (hK _ _ (Below.refl _ _) rfl)
    | 4, _ =>
      obtain ⟨ty, pos, aft, e, hdp⟩ := h4
      rw [e] at ho
      obtain rfl := Option.some.inj ho
      intro a' v W Kc hB hq hdd hK
      exact step_move (hq (r, _) (by simp)) (hK _ _ (Below.refl _ _) rfl)
    | 5, _ =>
      obtain ⟨ty, pos, aft, e, hdp⟩ := h5
      rw [e] at ho
      obtain rfl := Option.some.inj ho
      intro a' v W Kc hB hq hdd hK
      obtain ⟨f3, t3⟩ := hdd 3 (List.all_eq_true.1 hdp 3 (by decide))
      obtain ⟨f4, t4⟩ := hdd 4 (List.all_eq_true.1 hdp 4 (by decide))
      have e3 : v 3 = .int .i64 (N : Int) := f3
      have e4 : v 4 = .slice (some ⟨g2, 0, none⟩) L q2 := f4
      have hn := n2.below hB l2
      have hl := Nat.lt_of_lt_of_le l2 hB.size
      rw [e3] at t3
      rw [e4] at t4
      exact step_build37 t3 t4 (hK _ _ (Below.refl _ _) ⟨_, _, rfl, hn, hl⟩)
    | 6, _ =>
      obtain ⟨ty, pos, aft, e, hdp⟩ := h6
      rw [e] at ho
      obtain rfl := Option.some.inj ho
      intro a' v W Kc hB hq hdd hK
      obtain ⟨f1, t1⟩ := hdd 1 (List.all_eq_true.1 hdp 1 (by decide))
      obtain ⟨f5, t5⟩ := hdd 5 (List.all_eq_true.1 hdp 5 (by decide))
      obtain ⟨ga, ca, e1, hna, hla⟩ := f1
      obtain ⟨gb, cb, e2, hnb, hlb⟩ := f5
      rw [e1] at t1
      rw [e2] at t5
      refine step_call38 _ _ _ _ _ _ _ t1 t5 (call38 N K L ga ca gb cb hs xs W hK0 hL0 hk0 hk1 hk hv hna hla hnb hlb) ?_
      rintro e w' ⟨g', c', rfl, hn, _, hl, hb'⟩
      exact ⟨_, rfl, hK _ _ hb' ⟨g', c', rfl, hn, hl⟩⟩
    | 7, _ =>
      obtain ⟨ty, pos, aft, e, hdp⟩ := h7
      rw [e] at ho
      obtain rfl := Option.some.inj ho
      intro a' v W Kc hB hq hdd hK
      obtain ⟨f6, t6⟩ := hdd 6 (List.all_eq_true.1 hdp 6 (by decide))
      exact step_move t6 (hK _ _ (Below.refl _ _) f6)
    | 8, _ =>
      obtain ⟨ty, pos, aft, e, hdp⟩ := h8
      rw [e] at ho
      obtain rfl := Option.some.inj ho
      intro a' v W Kc hB hq hdd hK
      obtain ⟨f7, t7⟩ := hdd 7 (List.all_eq_true.1 hdp 7 (by decide))
      obtain ⟨g', c', e5, hn, hl⟩ := f7
      rw [e5] at t7
      exact step_extract0of2 t7 (hK _ _ (Below.refl _ _) ⟨g', c', rfl, hn, hl⟩)
    | 9, _ =>
      obtain ⟨ty, pos, aft, e, hdp⟩ := h9
      rw [e] at ho
      obtain rfl := Option.some.inj ho
      intro a' v W Kc hB hq hdd hK
      obtain ⟨f7, t7⟩ := hdd 7 (List.all_eq_true.1 hdp 7 (by decide))
      obtain ⟨g', c', e5, hn, hl⟩ := f7
      rw [e5] at t7
      exact step_extract1of2 t7 (hK _ _ (Below.refl _ _) rfl)
    | 10, _ =>
      obtain ⟨ty, pos, aft, e, hdp⟩ := h10
      rw [e] at ho
      obtain rfl := Option.some.inj ho
      intro a' v W Kc hB hq hdd hK
      obtain ⟨f8, t8⟩ := hdd 8 (List.all_eq_true.1 hdp 8 (by decide))
      exact step_assign t8 (hK _ _ (Below.refl _ _) f8)
    | 11, _ =>
      obtain ⟨ty, pos, aft, e, hdp⟩ := h11
      rw [e] at ho
      obtain rfl := Option.some.inj ho
      intro a' v W Kc hB hq hdd hK
      obtain ⟨f9, t9⟩ := hdd 9 (List.all_eq_true.1 hdp 9 (by decide))
      exact step_assign t9 (hK _ _ (Below.refl _ _) f9)
    | i + 12, h => omega
  · intro v W hF hB
    obtain ⟨g', c', e8, hn, hl⟩ := hF 10 (by omega)
    exact hend v W ⟨g', c', e8, hF 11 (by omega), hn, hl, hB⟩
def region_intsF (N K L Z g1 q1 g2 q2 : Nat) (hs xs : List Nat) : Nat → Value → World → Prop
  | 0, v, _ => v = .agg #[.int .i64 (N : Int), .slice (some ⟨g1, 0, none⟩) K q1]
  | 1, v, W => AggF N K hs v W
  | 2, v, _ => v = .pointer (some ⟨Z, 0, none⟩)
  | 3, v, _ => v = .int .i64 (N : Int)
  | 4, v, _ => v = .slice (some ⟨g2, 0, none⟩) L q2
  | 5, v, W => RowF L xs v W
  | 6, v, W => AggF N L xs v W
  | 7, v, W => Tup2 L (clothS hs xs) v W
  | 8, v, W => Tup2 L (clothS hs xs) v W
  | 9, v, W => StrF L (clothS hs xs) v W
  | 10, v, _ => v = .int .i64 0
  | 11, v, W => StrF L (clothS hs xs) v W
  | _, v, _ => v = .int .i64 0
theorem region_intsF.mono {N K L Z g1 q1 g2 q2 : Nat} {hs xs : List Nat} : ∀ (i : Nat) (v : Value) (W W' : World), region_intsF N K L Z g1 q1 g2 q2 hs xs i v W → Below W.heap.size W W' → region_intsF N K L Z g1 q1 g2 q2 hs xs i v W'
  | 0, _, _, _, h, _ => h
  | 1, _, _, _, h, hb => AggF.mono h hb
  | 2, _, _, _, h, _ => h
  | 3, _, _, _, h, _ => h
  | 4, _, _, _, h, _ => h
  | 5, _, _, _, h, hb => RowF.mono h hb
  | 6, _, _, _, h, hb => AggF.mono h hb
  | 7, _, _, _, h, hb => Tup2.mono h hb
  | 8, _, _, _, h, hb => Tup2.mono h hb
  | 9, _, _, _, h, hb => StrF.mono h hb
  | 10, _, _, _, h, _ => h
  | 11, _, _, _, h, hb => StrF.mono h hb
  | _ + 12, _, _, _, h, _ => h
set_option maxRecDepth 8000 in
set_option maxHeartbeats 1000000 in
theorem region_ints {id : Nat} {ops : Array Oper} {Q : Exit → Act → World → Prop} {a : Act} {w : World} (ds : List Nat) (y z r Y Z N K L g1 q1 g2 q2 : Nat) (hs xs : List Nat) {zs : Value}
    (hsize : ops.size = 13)
    (hops : IsO ops 0 (atL ds 0) (.load 26 (.tmp y)) [] ∧ IsO ops 1 (atL ds 1) (.call { callee := .value (.func 100), args := #[.tmp (atL ds 0)], argTypes := #[26] }) [0] ∧ IsO ops 2 (atL ds 2) (.fieldAddr 37 (.tmp z) 0) [] ∧ IsO ops 3 (atL ds 3) (.load 3 (.tmp (atL ds 2))) [2] ∧ IsO ops 4 (atL ds 4) (.move (.tmp r)) [] ∧ IsO ops 5 (atL ds 5) (.call { callee := .value (.func 108), args := #[.tmp (atL ds 4)], argTypes := #[24] }) [4] ∧ IsO ops 6 (atL ds 6) (.build 37 #[(0, .tmp (atL ds 3)), (1, .tmp (atL ds 5))]) [3, 5] ∧ IsO ops 7 (atL ds 7) (.call { callee := .value (.func 38), args := #[.tmp (atL ds 1), .tmp (atL ds 6)], argTypes := #[26, 37] }) [1, 6] ∧ IsO ops 8 (atL ds 8) (.move (.tmp (atL ds 7))) [7] ∧ IsO ops 9 (atL ds 9) (.extract (.tmp (atL ds 8)) 0) [8] ∧ IsO ops 10 (atL ds 10) (.extract (.tmp (atL ds 8)) 1) [8] ∧ IsO ops 11 (atL ds 11) (.assign (.tmp (atL ds 9))) [9] ∧ IsO ops 12 (atL ds 12) (.assign (.tmp (atL ds 10))) [10])
    (hlen : ds.length = 13) (hb : backB ops = true) (hd : dB ops ds = true) (hnd : ds.Nodup) (hsz : ∀ e ∈ ds, e < a.tmps.size)
    (hout : a.eval (.tmp y) = .pointer (some ⟨Y, 0, none⟩) ∧ y ∉ ds ∧ a.eval (.tmp z) = .pointer (some ⟨Z, 0, none⟩) ∧ z ∉ ds ∧ a.eval (.tmp r) = .slice (some ⟨g2, 0, none⟩) L q2 ∧ r ∉ ds)
    (hY : BoxAt w Y #[.int .i64 (N : Int), .slice (some ⟨g1, 0, none⟩) K q1] 26) (n1 : NatsAt w g1 0 hs) (l1 : g1 < w.heap.size) (hK0 : hs.length = K) (hk0 : 1 ≤ K) (hk1 : K ≤ 96) (hk : ∀ i, i < K → nthN hs i < N) (hL0 : xs.length = L) (hv : Valid N xs) (hZ : BoxAt w Z #[.int .i64 (N : Int), zs] 37) (n2 : NatsAt w g2 0 xs) (l2 : g2 < w.heap.size)
    (hend : ∀ v W, StrRow w L (clothS hs xs) (v (atL ds 11)) (v (atL ds 12)) W → Q .normal (laid a ds v) W) :
    (Code.region id ops true).wp Try.prog Q a w := by
  obtain ⟨h0, h1, h2, h3, h4, h5, h6, h7, h8, h9, h10, h11, h12⟩ := hops
  obtain ⟨o0, p0, o1, p1, o2, p2⟩ := hout
  refine region_grow ds [(y, .pointer (some ⟨Y, 0, none⟩)), (z, .pointer (some ⟨Z, 0, none⟩)), (r, .slice (some ⟨g2, 0, none⟩) L q2)] (region_intsF N K L Z g1 q1 g2 q2 hs xs) (by rw [hlen, hsize]) hb hd hnd hsz ?_ region_intsF.mono ?_ ?_
  · intro q hq
    simp only [List.mem_cons, List.not_mem_nil, or_false] at hq
    rcases hq with rfl | rfl | rfl
    · exact ⟨o0, p0⟩
    · exact ⟨o1, p1⟩
    · exact ⟨o2, p2⟩
  · intro i o ho
    have hi : i < 13 := by rw [← hsize]; exact (Array.getElem?_eq_some_iff.1 ho).1
    match i, hi with
    | 0, _ =>
      obtain ⟨ty, pos, aft, e, hdp⟩ := h0
      rw [e] at ho
      obtain rfl := Option.some.inj ho
      intro a' v W Kc hB hq hdd hK
      exact step_load26 (hq (y, _) (by simp)) (hY.next hB) (hK _ _ (Below.refl _ _) rfl)
    | 1, _ =>
      obtain ⟨ty, pos, aft, e, hdp⟩ := h1
      rw [e] at ho
      obtain rfl := Option.some.inj ho
      intro a' v W Kc hB hq hdd hK
      obtain ⟨f0, t0⟩ := hdd 0 (List.all_eq_true.1 hdp 0 (by decide))
      have e0 : v 0 = .agg #[.int .i64 (N : Int), .slice (some ⟨g1, 0, none⟩) K q1] := f0
      rw [e0] at t0
      refine step_call100 _ _ _ _ _ _ t0 (call100 N K g1 q1 hs W hK0 hk0 hk1 (n1.below hB l1) (Nat.lt_of_lt_of_le l1 hB.size)) ?_
      rintro e w' ⟨g', c', rfl, hn, _, hl, hb'⟩
      exact ⟨_, rfl, hK _ _ hb' ⟨g', c', rfl, hn, hl⟩⟩
    | 2, _ =>
      obtain ⟨ty, pos, aft, e, hdp⟩ := h2
      rw [e] at ho
      obtain rfl := Option.some.inj ho
      intro a' v W Kc hB hq hdd hK
      exact step_field37 (hq (z, _) (by simp)) (hK _ _ (Below.refl _ _) rfl)
    | 3, _ =>
      obtain ⟨ty, pos, aft, e, hdp⟩ := h3
      rw [e] at ho
      obtain rfl := Option.some.inj ho
      intro a' v W Kc hB hq hdd hK
      obtain ⟨f2, t2⟩ := hdd 2 (List.all_eq_true.1 hdp 2 (by decide))
      have e2 : v 2 = .pointer (some ⟨Z, 0, none⟩) := f2
      rw [e2] at t2
      exact step_load3 t2 (BoxAt.cell' (hZ.next hB) 0 rfl) (hK _ _ (Below.refl _ _) rfl)
    | 4, _ =>
      obtain ⟨ty, pos, aft, e, hdp⟩ := h4
      rw [e] at ho
      obtain rfl := Option.some.inj ho
      intro a' v W Kc hB hq hdd hK
      exact step_move (hq (r, _) (by simp)) (hK _ _ (Below.refl _ _) rfl)
    | 5, _ =>
      obtain ⟨ty, pos, aft, e, hdp⟩ := h5
      rw [e] at ho
      obtain rfl := Option.some.inj ho
      intro a' v W Kc hB hq hdd hK
      obtain ⟨f4, t4⟩ := hdd 4 (List.all_eq_true.1 hdp 4 (by decide))
      have e4 : v 4 = .slice (some ⟨g2, 0, none⟩) L q2 := f4
      rw [e4] at t4
      refine step_call108 _ _ _ _ _ _ t4 (call108 L g2 q2 xs W hL0 (by have := hv.l0; omega) (by have := hv.l1; omega) (n2.below hB l2) (Nat.lt_of_lt_of_le l2 hB.size)) ?_
      rintro e w' ⟨g', c', rfl, hn, _, hl, hb'⟩
      exact ⟨_, rfl, hK _ _ hb' ⟨g', c', rfl, hn, hl⟩⟩
    | 6, _ =>
      obtain ⟨ty, pos, aft, e, hdp⟩ := h6
      rw [e] at ho
      obtain rfl := Option.some.inj ho
      intro a' v W Kc hB hq hdd hK
      obtain ⟨f3, t3⟩ := hdd 3 (List.all_eq_true.1 hdp 3 (by decide))
      obtain ⟨f5, t5⟩ := hdd 5 (List.all_eq_true.1 hdp 5 (by decide))
      have e3 : v 3 = .int .i64 (N : Int) := f3
      obtain ⟨g', c', e4, hn, hl⟩ := f5
      rw [e3] at t3
      rw [e4] at t5
      exact step_build37 t3 t5 (hK _ _ (Below.refl _ _) ⟨_, _, rfl, hn, hl⟩)
    | 7, _ =>
      obtain ⟨ty, pos, aft, e, hdp⟩ := h7
      rw [e] at ho
      obtain rfl := Option.some.inj ho
      intro a' v W Kc hB hq hdd hK
      obtain ⟨f1, t1⟩ := hdd 1 (List.all_eq_true.1 hdp 1 (by decide))
      obtain ⟨f6, t6⟩ := hdd 6 (List.all_eq_true.1 hdp 6 (by decide))
      obtain ⟨ga, ca, e1, hna, hla⟩ := f1
      obtain ⟨gb, cb, e2, hnb, hlb⟩ := f6
      rw [e1] at t1
      rw [e2] at t6
      refine step_call38 _ _ _ _ _ _ _ t1 t6 (call38 N K L ga ca gb cb hs xs W hK0 hL0 hk0 hk1 hk hv hna hla hnb hlb) ?_
      rintro e w' ⟨g', c', rfl, hn, _, hl, hb'⟩
      exact ⟨_, rfl, hK _ _ hb' ⟨g', c', rfl, hn, hl⟩⟩
    | 8, _ =>
      obtain ⟨ty, pos, aft, e, hdp⟩ := h8
      rw [e] at ho
      obtain rfl := Option.some.inj ho
      intro a' v W Kc hB hq hdd hK
      obtain ⟨f7, t7⟩ := hdd 7 (List.all_eq_true.1 hdp 7 (by decide))
      exact step_move t7 (hK _ _ (Below.refl _ _) f7)
    | 9, _ =>
      obtain ⟨ty, pos, aft, e, hdp⟩ := h9
      rw [e] at ho
      obtain rfl := Option.some.inj ho
      intro a' v W Kc hB hq hdd hK
      obtain ⟨f8, t8⟩ := hdd 8 (List.all_eq_true.1 hdp 8 (by decide))
      obtain ⟨g', c', e5, hn, hl⟩ := f8
      rw [e5] at t8
      exact step_extract0of2 t8 (hK _ _ (Below.refl _ _) ⟨g', c', rfl, hn, hl⟩)
    | 10, _ =>
      obtain ⟨ty, pos, aft, e, hdp⟩ := h10
      rw [e] at ho
      obtain rfl := Option.some.inj ho
      intro a' v W Kc hB hq hdd hK
      obtain ⟨f8, t8⟩ := hdd 8 (List.all_eq_true.1 hdp 8 (by decide))
      obtain ⟨g', c', e5, hn, hl⟩ := f8
      rw [e5] at t8
      exact step_extract1of2 t8 (hK _ _ (Below.refl _ _) rfl)
    | 11, _ =>
      obtain ⟨ty, pos, aft, e, hdp⟩ := h11
      rw [e] at ho
      obtain rfl := Option.some.inj ho
      intro a' v W Kc hB hq hdd hK
      obtain ⟨f9, t9⟩ := hdd 9 (List.all_eq_true.1 hdp 9 (by decide))
      exact step_assign t9 (hK _ _ (Below.refl _ _) f9)
    | 12, _ =>
      obtain ⟨ty, pos, aft, e, hdp⟩ := h12
      rw [e] at ho
      obtain rfl := Option.some.inj ho
      intro a' v W Kc hB hq hdd hK
      obtain ⟨f10, t10⟩ := hdd 10 (List.all_eq_true.1 hdp 10 (by decide))
      exact step_assign t10 (hK _ _ (Below.refl _ _) f10)
    | i + 13, h => omega
  · intro v W hF hB
    obtain ⟨g', c', e8, hn, hl⟩ := hF 11 (by omega)
    exact hend v W ⟨g', c', e8, hF 12 (by omega), hn, hl, hB⟩
end Go.Proofs.Ytdmgffoikebgkaa
