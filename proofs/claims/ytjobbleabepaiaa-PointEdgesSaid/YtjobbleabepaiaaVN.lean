/- Longest. -/
import Derived.Test.YtjobbleabepaiaaVM
import Derived.Test.YtjobbleabepaiaaWO
namespace Go.Proofs.Ytjobbleabepaiaa
open Go.RowKit Go.Shelf

/-- an unwritten result of Longest -/
def LRes (W : World) (B : Nat) : Prop := W.heap[B]? = some (.cells #[.int .i64 0, .int .i64 0, .int .i64 0, .int .i64 0] 35 (0, 0))
theorem LRes.lt {W : World} {B : Nat} (h : LRes W B) : B < W.heap.size := (Array.getElem?_eq_some_iff.1 h).1
theorem LRes.c {W : World} {B : Nat} (h : LRes W B) (j : Nat) (hj : j < 4) : W.cell? ⟨B, j, none⟩ = some (.int .i64 0) := by
  have : j = 0 ∨ j = 1 ∨ j = 2 ∨ j = 3 := by omega
  rcases this with rfl | rfl | rfl | rfl <;> simp [World.cell?, show W.heap[B]? = _ from h]
theorem LRes.f {W : World} {B : Nat} (h : LRes W B) (j : Nat) : W.frozen? ⟨B, j, none⟩ = false := by simp [World.frozen?, show W.heap[B]? = _ from h]
theorem LRes.new (W : World) : LRes (W.alloc (.cells #[.int .i64 0, .int .i64 0, .int .i64 0, .int .i64 0] 35)) W.heap.size := World.alloc_heap_new W _
theorem LRes.below {W W' : World} {B k : Nat} (h : LRes W B) (hb : Below k W W') (hn : B < k) : LRes W' B := (hb.block B hn).trans h

set_option maxHeartbeats 1000000 in
theorem Longest_err (h : Int) (p : Option Addr) (c : Nat) (xs : List Int) (w : World) (hr : Reads w (.slice p xs.length c) xs) (r : Int) (he : checkE h xs = r) (hne : r ≠ 0) :
    Calls Try.prog 21 #[.agg #[.int .i64 h, .slice p xs.length c]] w fun e w' => e = .returned (.tuple #[.agg #[.int .i64 0, .int .i64 0, .int .i64 0, .int .i64 0], .int .i64 r]) ∧ Below w.heap.size w w' := by
  have Hc := fun o o2 => check_res h p c xs w o o2 hr r he
  have hne' : (r != 0) = true := by simpa using hne
  clear he hr hne
  go_enter Try.func21, Try.ntmps21
  go_wp2_with fail
  refine (Hc _ _).mono ?_
  rintro e w1 ⟨rfl, hb1⟩
  have q : LRes w1 (w.heap.size + 1) := ((LRes.new (w.alloc (.cells #[.int .i64 h, .slice p xs.length c] 24))).below hb1 (by simp)) |> (fun h => by simpa using h)
  have k0 := q.c 0 (by omega)
  have k1 := q.c 1 (by omega)
  have k2 := q.c 2 (by omega)
  have k3 := q.c 3 (by omega)
  have f0 := q.f 0
  have f1 := q.f 1
  have f2 := q.f 2
  have f3 := q.f 3
  have Hb := Lib.hid hb1
  clear hb1 q
  go_wp2_with fail
  refine bodyPost_ret (v := .tuple #[.agg #[.int .i64 0, .int .i64 0, .int .i64 0, .int .i64 0], .int .i64 r]) ?_ rfl ⟨rfl, ?_⟩
  · simp [results, Try.results21, go_sem, k0, k1, k2, k3]
  · exact ((((((Below.refl w.heap.size w).alloc (Nat.le_refl _) _).alloc (by simp) _).trans (Hb.out.mono (by omega))).setCell (by simp) _ |>.setCell (by simp) _) |>.setCell (by simp) _) |>.setCell (by simp) _
def floatsAl (n : Nat) (xs : List Nat) (al : Nat) : List Fl := if al = 1 then upTo (flW n xs 0) xs.length else upTo (flH xs 0) n
/-- the floats of the first so many sides are counted -/
def doneM (n : Nat) (xs : List Nat) (j : Nat) : Nat → Bool → Nat := fun a b => if 1 ≤ a ∧ a ≤ j then maxF (floatsAl n xs a) b else 0
def midM (g : Nat → Bool → Nat) (al : Nat) (h : Bool → Nat) : Nat → Bool → Nat := fun a b => if a = al then h b else g a b
theorem midM_start (n : Nat) (xs : List Nat) (j : Nat) : midM (doneM n xs j) (j + 1) (maxF []) = doneM n xs j := by
  funext a b
  unfold midM doneM
  by_cases h : a = j + 1
  · rw [if_pos h, if_neg (by omega)]; rfl
  · rw [if_neg h]
theorem midM_step (g : Nat → Bool → Nat) (al : Nat) (fs : List Fl) (f : Fl) : setM (midM g al (maxF fs)) al f.lifted (max (midM g al (maxF fs) al f.lifted) f.length) = midM g al (maxF (fs ++ [f])) := by
  funext a b
  unfold setM midM
  by_cases h : a = al
  · subst h
    simp only [if_true, true_and]
    rw [maxF_snoc]
    by_cases hb : b = f.lifted
    · subst hb; simp
    · rw [if_neg hb, if_neg (fun h => hb h.symm)]
  · simp [h]
theorem midM_end (n : Nat) (xs : List Nat) (j : Nat) (fs : List Fl) (hf : floatsAl n xs (j + 1) = fs) : midM (doneM n xs j) (j + 1) (maxF fs) = doneM n xs (j + 1) := by
  funext a b
  unfold midM doneM
  by_cases h : a = j + 1
  · rw [if_pos h, if_pos (by omega), h, hf]
  · rw [if_neg h]
    by_cases h1 : 1 ≤ a ∧ a ≤ j
    · rw [if_pos h1, if_pos (by omega)]
    · rw [if_neg h1, if_neg (by omega)]
/-- what Longest keeps -/
structure LAt (w0 : World) (n b off c : Nat) (xs : List Nat) (mb k : Nat) (g : Nat → Bool → Nat) (W : World) : Prop where
  d : DBox W w0.heap.size n b off c xs
  r : LRes W (w0.heap.size + 1)
  m : SideMap W mb k g
  below : Below w0.heap.size w0 W
  lo : w0.heap.size + 1 < mb
theorem LAt.next {w0 : World} {n b off c : Nat} {xs : List Nat} {mb k : Nat} {g : Nat → Bool → Nat} {W W' : World} (h : LAt w0 n b off c xs mb k g W) (hb : Below W.heap.size W W') : LAt w0 n b off c xs mb k g W' :=
  ⟨h.d.below hb h.d.lt, h.r.below hb h.r.lt, h.m.below hb, h.below.trans (hb.mono h.below.size), h.lo⟩
theorem LAt.put {w0 : World} {n b off c : Nat} {xs : List Nat} {mb k k' : Nat} {g g' : Nat → Bool → Nat} {W W' : World} (h : LAt w0 n b off c xs mb k g W) (hg : W.grownBy W' (some mb)) (hm : SideMap W' mb k' g') : LAt w0 n b off c xs mb k' g' W' := by
  have hlo := h.lo
  have hbB : Below mb W W' := ⟨hg.os, hg.tape, hg.output, hg.size, fun i hi => hg.block i (Nat.lt_trans hi h.m.lt) (by simp; omega)⟩
  exact ⟨h.d.below hbB (by omega), h.r.below hbB (by omega), hm, h.below.trans (hbB.mono (by omega)), hlo⟩
theorem flH_mem {xs : List Nat} {m : Int} {x : Fl} {k : Nat} (hl : 0 < xs.length) (hl2 : xs.length ≤ 60) (h : x ∈ upTo (flH xs m) k) : x.pick < xs.length ∧ x.hook < k ∧ x.length ≤ 1000 := by
  obtain ⟨i, hi, hx⟩ := upTo_mem h
  simp only [flH, ringFl, List.mem_map, List.mem_filter] at hx
  obtain ⟨r, ⟨hr, _⟩, rfl⟩ := hx
  obtain ⟨h1, _, h3⟩ := runsOf_mem hl hl2 hr
  exact ⟨h1, hi, h3⟩
theorem flH_all_len (n : Nat) (xs : List Nat) (m : Int) (hn2 : n ≤ 24) (hl0 : 0 < xs.length) (hl : xs.length ≤ 60) : (upTo (flH xs m) n).length ≤ 3600 := by
  have := upTo_len (flH xs m) (fun i => Nat.le_trans (ringFl_len _ _ _) (runsOf_len xs.length (colTo xs i xs.length) (by omega) (by omega))) n
  omega

theorem FlsAt.kept {w w' : World} {g : Nat} {fs : List Fl} (h : FlsAt w g fs) {row : Option Nat} (hg : w.grownBy w' row) (hne : some g ≠ row) : FlsAt w' g fs := by
  have e : ∀ j, w'.cell? ⟨g, j, none⟩ = w.cell? ⟨g, j, none⟩ := fun j => World.cell?_of_block (w := w) (hg.block g h.lt hne)
  exact ⟨fun i hi => (e _).trans (h.c0 i hi), fun i hi => (e _).trans (h.c1 i hi), fun i hi => (e _).trans (h.c2 i hi), fun i hi => (e _).trans (h.c3 i hi), Nat.lt_of_lt_of_le h.lt hg.size⟩
/-- a slice of floats that lies behind a block -/
def FlsFar (w : World) (mb : Nat) (p : Option Addr) (fs : List Fl) : Prop := 0 < fs.length → ∃ g, p = some ⟨g, 0, none⟩ ∧ mb < g ∧ FlsAt w g fs
theorem FlsFar.next {w w' : World} {mb : Nat} {p : Option Addr} {fs : List Fl} (h : FlsFar w mb p fs) (hb : Below w.heap.size w w') : FlsFar w' mb p fs := fun hp => by
  obtain ⟨g, e, hg, hf⟩ := h hp
  exact ⟨g, e, hg, hf.below hb hf.lt⟩
theorem FlsFar.put {w w' : World} {mb : Nat} {p : Option Addr} {fs : List Fl} (h : FlsFar w mb p fs) (hb : w.grownBy w' (some mb)) : FlsFar w' mb p fs := fun hp => by
  obtain ⟨g, e, hg, hf⟩ := h hp
  exact ⟨g, e, hg, hf.kept hb (by simp; omega)⟩
theorem FlsFar.of_row {w : World} {B mb : Nat} {v : Value} {fs : List Fl} (h : w.ownsRow B 87 4 v fs.length (flCells fs)) (hB : mb < B) : ∃ p cap, v = .slice p fs.length cap ∧ FlsFar w mb p fs := by
  obtain ⟨p, cap, rfl, hF⟩ := Fls.of_row h
  refine ⟨p, cap, rfl, fun hp => ?_⟩
  obtain ⟨g, rfl, hf⟩ := hF hp
  exact ⟨g, rfl, Nat.lt_of_lt_of_le hB (h.lt g rfl).1, hf⟩
theorem take_nthF (fs : List Fl) (l : Nat) (h : l < fs.length) : fs.take (l + 1) = fs.take l ++ [nthF fs l] := by
  rw [nthF_get fs l h]; simp

set_option maxRecDepth 100000 in
set_option maxHeartbeats 4000000 in
theorem Longest_ok (n b off c : Nat) (xs : List Nat) (w : World) (hv : VAt w b off c n xs) :
    Calls Try.prog 21 #[.agg #[.int .i64 (n : Int), .slice (some ⟨b, off, none⟩) xs.length c]] w
      fun e w' => e = .returned (.tuple #[.agg #[.int .i64 (doneM n xs 2 1 false : Int), .int .i64 (doneM n xs 2 1 true : Int), .int .i64 (doneM n xs 2 2 true : Int), .int .i64 (doneM n xs 2 2 false : Int)], .int .i64 0]) ∧ Below w.heap.size w w' := by
  have Hc := fun o o2 => check_res n (some ⟨b, off, none⟩) c (ints xs) w o o2 (by rw [ints_len]; exact hv.reads) 0 hv.ok.check
  simp only [ints_len] at Hc
  have n0 := hv.ok.n0
  have n1 := hv.ok.n1
  have l0 := hv.ok.l0
  have l1 := hv.ok.l1
  have HV := Lib.hid hv
  clear hv
  obtain ⟨g10, e10⟩ : ∃ x, doneM n xs 2 1 false = x := ⟨_, rfl⟩
  obtain ⟨g11, e11⟩ : ∃ x, doneM n xs 2 1 true = x := ⟨_, rfl⟩
  obtain ⟨g21, e21⟩ : ∃ x, doneM n xs 2 2 true = x := ⟨_, rfl⟩
  obtain ⟨g20, e20⟩ : ∃ x, doneM n xs 2 2 false = x := ⟨_, rfl⟩
  rw [e10, e11, e21, e20]
  have E10 := Lib.hid e10
  have E11 := Lib.hid e11
  have E21 := Lib.hid e21
  have E20 := Lib.hid e20
  clear e10 e11 e21 e20
  have hmm := @run_makeMap Try.prog
  go_enter Try.func21, Try.ntmps21
  go_wp2_with fail
  refine (Hc _ _).mono ?_
  rintro e w1 ⟨rfl, hb1⟩
  have q : LRes w1 (w.heap.size + 1) := ((LRes.new (w.alloc (.cells #[.int .i64 (n : Int), .slice (some ⟨b, off, none⟩) xs.length c] 24))).below hb1 (by simp)) |> (fun h => by simpa using h)
  have d0 : w1.cell? ⟨w.heap.size, 0, none⟩ = some (.int .i64 (n : Int)) := (hb1.cell (p := ⟨w.heap.size, 0, none⟩) (by show w.heap.size < w.heap.size + 1 + 1; omega)).trans (by simp)
  have d1 : w1.cell? ⟨w.heap.size, 1, none⟩ = some (.slice (some ⟨b, off, none⟩) xs.length c) := (hb1.cell (p := ⟨w.heap.size, 1, none⟩) (by show w.heap.size < w.heap.size + 1 + 1; omega)).trans (by simp)
  have hB1 : Below w.heap.size w w1 := (((Below.refl w.heap.size w).alloc (Nat.le_refl _) _).alloc (by simp) _).trans (hb1.mono (by omega))
  have hlo : w.heap.size + 1 < w1.heap.size := q.lt
  have ha : Below w1.heap.size w1 (w1.alloc (.map #[] 0)) := (Below.refl _ _).alloc (Nat.le_refl _) _
  have hL0 : LAt w n b off c xs w1.heap.size 0 (doneM n xs 0) (w1.alloc (.map #[] 0)) := by
    refine ⟨(DBox.below (W := w1) ⟨d0, d1⟩ ha (by omega)), q.below ha q.lt, ?_, hB1.trans (ha.mono (by omega)), hlo⟩
    have e : doneM n xs 0 = fun _ _ => 0 := by funext a b; unfold doneM; rw [if_neg (by omega)]
    rw [e]
    exact SideMap.made w1
  have HL0 := Lib.hid hL0
  clear hL0 hb1 q d0 d1 hB1 ha
  go_wp2_with fail
  obtain ⟨mb, hmb⟩ : ∃ mb, w1.heap.size = mb := ⟨_, rfl⟩
  obtain ⟨W1, hW1⟩ : ∃ W1, w1.alloc (.map #[] 0) = W1 := ⟨_, rfl⟩
  rw [hmb, hW1] at HL0
  rw [hW1, hmb]
  clear hmb hW1 hlo hmm
  go_loopw [20] (fun j wr => ∃ jj k : Nat, jj ≤ 2 ∧ j = .int .i64 jj ∧ k ≤ jj * 3600 ∧ LAt w n b off c xs mb k (doneM n xs jj) wr) (fun j _ => 2 - (intOf j).toNat)
  case atStart => exact ⟨0, 0, by omega, rfl, by omega, HL0.out⟩
  case round =>
    obtain ⟨jj, k, hj, rfl, hk, hL⟩ := hrel
    clear HL0
    by_cases hlt : jj < 2
    · obtain ⟨al, hal⟩ : ∃ al, jj + 1 = al := ⟨_, rfl⟩
      obtain ⟨fs, hfs⟩ : ∃ fs, floatsAl n xs al = fs := ⟨_, rfl⟩
      have hal2 : al = 1 ∨ al = 2 := by omega
      have hfl : fs.length ≤ 3600 ∧ ∀ i, i < fs.length → (nthF fs i).length ≤ 1000 := by
        rw [← hfs]; unfold floatsAl
        rcases hal2 with rfl | rfl
        · rw [if_pos rfl]
          exact ⟨flW_all_len n xs 0 n0 n1 l1, fun i hi => (flW_mem n0 n1 (nthF_mem _ i hi)).2.2⟩
        · rw [if_neg (by omega)]
          exact ⟨flH_all_len n xs 0 n1 l0 l1, fun i hi => (flH_mem l0 l1 (nthF_mem _ i hi)).2.2⟩
      have HF : Hid (∀ (bb : Nat) (W : World), VAt W b off c n xs → W.cell? ⟨bb, 0, none⟩ = some (.int .i64 0) → Calls Try.prog 67 #[.agg #[.int .i64 (n : Int), .slice (some ⟨b, off, none⟩) xs.length c], .int .i64 (al : Int), .func (.func 101) #[] #[.pointer (some ⟨bb, 0, none⟩)]] W
          fun e w' => ∃ v, e = .returned v ∧ w'.ownsRow W.heap.size 87 4 v fs.length (flCells fs) ∧ Below W.heap.size W w') := Lib.hid (by
        intro bb W hW hb
        rw [← hfs]; unfold floatsAl
        rcases hal2 with rfl | rfl
        · rw [if_pos rfl]
          exact floatsW_any n b off c bb 0 xs W ⟨hW.ok.n0, hW.ok.n1⟩ hW.ok.l1 hW.lt hW.at' hW.ok.lt' hb
        · rw [if_neg (by omega)]
          exact floatsH_any n b off c bb 0 xs W ⟨hW.ok.n0, hW.ok.n1⟩ ⟨hW.ok.l0, hW.ok.l1⟩ hW.lt hW.at' hW.ok.lt' hb)
      have hidx : ∀ W, (Instr.index 105 (.agg #[.int .i64 1, .int .i64 2]) (.int .i64 (jj : Int))).run Try.prog W = .ok (.int .i64 (al : Int)) W := by
        have h01 : jj = 0 ∨ jj = 1 := by omega
        subst hal
        rcases h01 with rfl | rfl
        · exact fun _ => by kernel_rfl
        · exact fun _ => by kernel_rfl
      obtain ⟨hfn, hfm⟩ := hfl
      have hj0 : (0 : Int) ≤ (jj : Int) := by omega
      have hj1 : (jj : Int) < 2 := by omega
      have HM := Lib.hid hfm
      have HFS := Lib.hid hfs
      have HAL := Lib.hid hal
      have HAL2 := Lib.hid hal2
      have ha : Below wr.heap.size wr (wr.alloc (.cells #[.int .i64 0] 3)) := (Below.refl _ _).alloc (Nat.le_refl _) _
      have hz := hL.d.lt
      have d0 := hL.d.c0
      have d1 := hL.d.c1
      have hd0a := (ha.cell (p := ⟨w.heap.size, 0, none⟩) hz).trans d0
      have hd1a := (ha.cell (p := ⟨w.heap.size, 1, none⟩) hz).trans d1
      have HVa : Hid (VAt (wr.alloc (.cells #[.int .i64 0] 3)).drew b off c n xs) := Lib.hid (HV.out.below (hL.below.trans (ha.mono hL.below.size)).drew)
      have HL := Lib.hid hL
      have HA := Lib.hid ha
      have hmbs : mb < wr.heap.size := hL.m.lt
      clear hL ha hfs hal hal2 hfm
      go_wp2_with fail
      go_region_with (first | (go_at_call 68; refine (longerThan_any _ _).mono ?_; rintro e w2 ⟨rfl, rfl⟩) | (go_at_call 67; refine (HF.out wr.heap.size _ HVa.out (by simp)).mono ?_; rintro e w3 ⟨v, rfl, hrow, hb3⟩; obtain ⟨p, cap, rfl, hFl⟩ := FlsFar.of_row (mb := mb) hrow (by simp; omega); have HFl := Lib.hid hFl; have HB3 := Lib.hid hb3; clear hrow hFl hb3))
      all_goals go_wp2_with fail
      all_goals
        (have hL3 := HL.out.next (HA.out.drew.trans (HB3.out.mono (by simp)))
         have HL3 := Lib.hid hL3
         clear hL3 HL HB3 HA HVa hd0a hd1a d0 d1 hz
         simp only [List.getElem_toArray, List.getElem_cons_succ, List.getElem_cons_zero, Act.put, List.setIfInBounds_toArray, List.set_cons_succ, List.set_cons_zero]
         go_loopw [29] (fun i wi => ∃ l k' : Nat, l ≤ fs.length ∧ i = .int .i64 l ∧ k' ≤ jj * 3600 + l ∧ LAt w n b off c xs mb k' (midM (doneM n xs jj) al (maxF (fs.take l))) wi ∧ FlsFar wi mb p fs) (fun i _ => fs.length - (intOf i).toNat)
         case atStart =>
           refine ⟨0, k, Nat.zero_le _, rfl, by omega, ?_, HFl.out⟩
           rw [List.take_zero, ← HAL.out, midM_start]
           exact HL3.out
         case round =>
           obtain ⟨l, k2, hl, rfl, hk2, hL, hF⟩ := hrel
           clear HL3 HFl
           by_cases hll : l < fs.length
           · obtain ⟨g, rfl, hgB, hFA⟩ := hF (by omega)
             obtain ⟨f, hf⟩ : ∃ f, f = nthF fs l := ⟨_, rfl⟩
             have hfk := HM.out l hll
             have c0 := hFA.c0 l hll
             have c1 := hFA.c1 l hll
             have c2 := hFA.c2 l hll
             have c3 := hFA.c3 l hll
             rw [← hf] at c0 c1 c2 c3 hfk
             have hk0 : (0 : Int) ≤ (l : Int) := by omega
             have hk1 : (l : Int) < (fs.length : Int) := by omega
             have hB2 : Below wr.heap.size wr ((wr.alloc (.cells #[.int .i64 (f.pick : Int), .int .i64 (f.hook : Int), .int .i64 (f.length : Int), .bool f.lifted] 87)).alloc (.cells #[.int .i64 (al : Int), .bool f.lifted] 107)).drew := (((Below.refl _ _).alloc (Nat.le_refl _) _).alloc (by simp) _).drew
             have hL2 := hL.next hB2
             have hF2 : FlsFar ((wr.alloc (.cells #[.int .i64 (f.pick : Int), .int .i64 (f.hook : Int), .int .i64 (f.length : Int), .bool f.lifted] 87)).alloc (.cells #[.int .i64 (al : Int), .bool f.lifted] 107)).drew mb (some ⟨g, 0, none⟩) fs := FlsFar.next hF hB2
             have hlk := hL2.m.lookup f.lifted HAL2.out
             obtain ⟨G, hG⟩ : ∃ G, midM (doneM n xs jj) al (maxF (fs.take l)) al f.lifted = G := ⟨_, rfl⟩
             have hGle : G ≤ 1000 := by
               rw [← hG]; unfold midM; rw [if_pos rfl]
               refine maxF_le _ _ _ fun x hx => ?_
               obtain ⟨i, hi, rfl⟩ := List.mem_iff_getElem.1 (List.mem_of_mem_take hx)
               have := HM.out i hi
               rwa [nthF_get fs i hi] at this
             have hst := midM_step (doneM n xs jj) al (fs.take l) f
             rw [hG] at hlk hst
             have htk : fs.take l ++ [f] = fs.take (l + 1) := by rw [take_nthF fs l hll, hf]
             rw [htk] at hst
             obtain ⟨w5, hup, hm5, hg5⟩ := hL2.m.update f.lifted HAL2.out (max G f.length) (by omega) (by omega)
             rw [hst] at hm5
             unfold sideV at hlk hup
             have HL5 := Lib.hid (hL2.put hg5 hm5)
             have HF5 := Lib.hid (hF2.put hg5)
             clear hL2 hF2 hm5 hg5 hst htk hG hf hFA hL hF hB2
             obtain ⟨M, hM, hMM⟩ : ∃ M : Nat, max G f.length = M ∧ ((G < f.length ∧ M = f.length) ∨ (¬ G < f.length ∧ M = G)) := ⟨_, rfl, by omega⟩
             rw [hM] at hup
             clear hM
             rcases hMM with ⟨hle, rfl⟩ | ⟨hle, rfl⟩
             all_goals go_wp2_with fail
             all_goals go_region
             all_goals go_wp2_with fail
             all_goals go_roundw
             all_goals first | (simp [intOf]; omega) | exact ⟨l + 1, k2 + 1, by omega, by go_num, by omega, HL5.out, HF5.out⟩
           · obtain rfl : l = fs.length := by omega
             rw [List.take_length] at hL
             have HL4 := Lib.hid hL
             clear hL hF
             go_wp2_with fail
             go_roundw
             case rel =>
               refine ⟨jj + 1, k2, by omega, by go_num, by omega, ?_⟩
               have := midM_end n xs jj fs (by rw [HAL.out]; exact HFS.out)
               rw [HAL.out] at this
               rw [HAL.out, ← this]
               exact HL4.out
             case measure => simp [intOf]; omega)
    · have h2 : jj = 2 := by omega
      have hj2 : ¬ (jj : Int) < 2 := by omega
      rw [h2] at hL
      clear h2
      have hB2 : Below wr.heap.size wr wr.drew := (Below.refl _ _).drew
      have hL2 := hL.next hB2
      have r0 := hL.r.c 0 (by omega)
      have r1 := hL.r.c 1 (by omega)
      have r2 := hL.r.c 2 (by omega)
      have r3 := hL.r.c 3 (by omega)
      have f0 := hL.r.f 0
      have f1 := hL.r.f 1
      have f2 := hL.r.f 2
      have f3 := hL.r.f 3
      have q10 : (Instr.lookup 104 (.map (some mb)) (.agg #[.int .i64 1, .bool false]) false).run Try.prog wr.drew = .ok (.int .i64 (g10 : Int)) wr.drew := E10.out ▸ hL2.m.lookup false (.inl rfl)
      have q11 : (Instr.lookup 104 (.map (some mb)) (.agg #[.int .i64 1, .bool true]) false).run Try.prog wr.drew = .ok (.int .i64 (g11 : Int)) wr.drew := E11.out ▸ hL2.m.lookup true (.inl rfl)
      have q21 : (Instr.lookup 104 (.map (some mb)) (.agg #[.int .i64 2, .bool true]) false).run Try.prog wr.drew = .ok (.int .i64 (g21 : Int)) wr.drew := E21.out ▸ hL2.m.lookup true (.inr rfl)
      have q20 : (Instr.lookup 104 (.map (some mb)) (.agg #[.int .i64 2, .bool false]) false).run Try.prog wr.drew = .ok (.int .i64 (g20 : Int)) wr.drew := E20.out ▸ hL2.m.lookup false (.inr rfl)
      have HL2 := Lib.hid hL2
      have HLb := Lib.hid hL.below
      clear hL2 hB2 hL
      go_wp2_with fail
      go_region
      all_goals go_wp2_with fail
      all_goals refine bodyPost_ret (v := .tuple #[.agg #[.int .i64 (g10 : Int), .int .i64 (g11 : Int), .int .i64 (g21 : Int), .int .i64 (g20 : Int)], .int .i64 0]) ?_ rfl ⟨rfl, ?_⟩
      all_goals first
        | exact (((((HLb.out.setCell (by simp) _).setCell (by simp) _).setCell (by simp) _).setCell (by simp) _)).drew
        | exact (((((HLb.out.setCell (by simp) _).setCell (by simp) _).setCell (by simp) _).setCell (by simp) _))
        | simp [results, Try.results21, go_sem, r0, r1, r2, r3]
end Go.Proofs.Ytjobbleabepaiaa
