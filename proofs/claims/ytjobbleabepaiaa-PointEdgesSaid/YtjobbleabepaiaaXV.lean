/- Beside. -/
import Derived.Test.YtjobbleabepaiaaXT
import Derived.Test.YtjobbleabepaiaaVH
namespace Go.Proofs.Ytjobbleabepaiaa
open Go.RowKit Go.Shelf

/-- two designs side by side -/
def beG (an : Nat) (ax bx : List Nat) (i j : Nat) : Bool := if j < an then bitN (nthN ax i) j else bitN (nthN bx i) (j - an)
set_option maxHeartbeats 1000000 in
theorem beside1_any (an ab ao ac bn bb bo bc Ba Bb : Nat) (ax bx : List Nat) (i j : Nat) (w : World) (ha : VAt w ab ao ac an ax) (hb : VAt w bb bo bc bn bx) (da : DBox w Ba an ab ao ac ax) (db : DBox w Bb bn bb bo bc bx) (hl : bx.length = ax.length) (hi : i < ax.length) (hj : j < an + bn) :
    Calls Try.prog 86 #[.int .i64 (i : Int), .int .i64 (j : Int), .pointer (some ⟨Ba, 0, none⟩), .pointer (some ⟨Bb, 0, none⟩)] w fun e w' => e = .returned (.bool (beG an ax bx i j)) ∧ Below w.heap.size w w' := by
  have a0 := da.c0
  have a1 := da.c1
  have b0 := db.c0
  have b1 := db.c1
  have l1 := ha.ok.l1
  have l2 := hb.ok.l1
  have n1 := ha.ok.n1
  have n2 := hb.ok.n1
  by_cases hjn : j < an
  · have He := Lib.hid (show beG an ax bx i j = bitN (nthN ax i) j by unfold beG; rw [if_pos hjn])
    have HL := Lib.hid (paperLifted_any an ab ao ac ax i j w ha.lt (by omega) ha.at' hi (by have := ha.ok.lt' i; omega) (by omega))
    clear ha hb da db hl
    go_enter Try.func86, Try.ntmps86
    go_wp2_with fail
    refine HL.out.mono ?_
    rintro e w1 ⟨rfl, hb1⟩
    have Hb := Lib.hid hb1
    clear hb1
    go_wp2_with fail
    go_ret
    exact ⟨ret_bool (by rw [He.out]), Hb.out⟩
  · have He := Lib.hid (show beG an ax bx i j = bitN (nthN bx i) (j - an) by unfold beG; rw [if_neg hjn])
    have hs : (j : Int) - (an : Int) = ((j - an : Nat) : Int) := by omega
    have HL := Lib.hid (paperLifted_any bn bb bo bc bx i (j - an) w hb.lt (by omega) hb.at' (by omega) (by have := hb.ok.lt' i; omega) (by omega))
    have Hs := Lib.hid hs
    clear ha hb da db hl hs
    go_enter Try.func86, Try.ntmps86
    go_wp2_with fail
    rw [Hs.out]
    refine HL.out.mono ?_
    rintro e w1 ⟨rfl, hb1⟩
    have Hb := Lib.hid hb1
    clear hb1
    go_wp2_with fail
    go_ret
    exact ⟨ret_bool (by rw [He.out]), Hb.out⟩
theorem below_three (w : World) (o1 o2 o3 : Obj) : Below w.heap.size w (((w.alloc o1).alloc o2).alloc o3) :=
  (((Below.refl _ _).alloc (Nat.le_refl _) o1).alloc (by simp) o2).alloc (by simp; omega) o3
/-- check of two designs, behind three boxes -/
theorem check_res23 (d e : Dsg) (w : World) (o1 o2 o3 : Obj) (hr : Reads w d.v d.xs) (hs : Reads w e.v e.xs) (r : Int) (he : firstE [d, e] = r) :
    Calls Try.prog 66 #[.slice (some ⟨w.heap.size + 1 + 1 + 1, 0, none⟩) 2 2] ((((w.alloc o1).alloc o2).alloc o3).alloc (.cells #[.int .i64 d.hooks, .slice d.p d.xs.length d.cap, .int .i64 e.hooks, .slice e.p e.xs.length e.cap] 24))
      fun e' w' => e' = .returned (.int .i64 r) ∧ Below (w.heap.size + 1 + 1 + 1) (((w.alloc o1).alloc o2).alloc o3) w' := by
  have hb := below_three w o1 o2 o3
  have := check_two d e (((w.alloc o1).alloc o2).alloc o3) (hr.below hb) (hs.below hb)
  simp only [World.size_alloc] at this
  rw [he] at this
  exact this
theorem res_box3 {w w1 : World} {o1 o2 : Obj} (hb1 : Below (w.heap.size + 1 + 1 + 1) (((w.alloc o1).alloc o2).alloc rObj) w1) : ResBox w1 (w.heap.size + 1 + 1) ∧ Below w.heap.size w w1 := by
  have hr : ResBox (((w.alloc o1).alloc o2).alloc rObj) (w.heap.size + 1 + 1) := by
    have := ResBox.new ((w.alloc o1).alloc o2)
    unfold rObj; simpa using this
  exact ⟨hr.below hb1 (by omega), (below_three _ _ _ _).trans (hb1.mono (by omega))⟩
theorem res_facts2 {w w1 : World} {n1 b1 o1 c1 n2 b2 o2 c2 : Nat} {xs ys : List Nat} (hb1 : Below (w.heap.size + 1 + 1 + 1) (((w.alloc (dObj n1 b1 o1 c1 xs)).alloc (dObj n2 b2 o2 c2 ys)).alloc rObj) w1) :
    ResBox w1 (w.heap.size + 1 + 1) ∧ DBox w1 w.heap.size n1 b1 o1 c1 xs ∧ DBox w1 (w.heap.size + 1) n2 b2 o2 c2 ys ∧ Below w.heap.size w w1 := by
  obtain ⟨q, hB⟩ := res_box3 hb1
  have h1 := DBox.new w n1 b1 o1 c1 xs
  have h2 := DBox.new (w.alloc (dObj n1 b1 o1 c1 xs)) n2 b2 o2 c2 ys
  simp only [World.size_alloc] at h2
  have a : ∀ (W : World) (o : Obj), Below W.heap.size W (W.alloc o) := fun W o => (Below.refl _ _).alloc (Nat.le_refl _) o
  refine ⟨q, ?_, ?_, hB⟩
  · exact ((h1.below (a _ _) h1.lt).below (a _ _) (by simp <;> omega)).below hb1 (by omega)
  · exact (h2.below (a _ _) (by simp <;> omega)).below hb1 (by omega)

set_option maxHeartbeats 1000000 in
theorem Beside_err (d e : Dsg) (w : World) (hr : Reads w d.v d.xs) (hs : Reads w e.v e.xs) (r : Int) (he : firstE [d, e] = r) (hne : r ≠ 0) :
    Calls Try.prog 44 #[.agg #[.int .i64 d.hooks, .slice d.p d.xs.length d.cap], .agg #[.int .i64 e.hooks, .slice e.p e.xs.length e.cap]] w (ErrD r w) := by
  have hne' : (r != 0) = true := by simpa using hne
  have Hc := fun o1 o2 o3 => check_res23 d e w o1 o2 o3 hr hs r he
  clear he hr hs hne
  go_enter Try.func44, Try.ntmps44
  go_wp2_with fail
  refine (Hc _ _ _).mono ?_
  rintro e' w1 ⟨rfl, hb1⟩
  obtain ⟨q, hB⟩ := res_box3 hb1
  have k0 := q.c0
  have k1 := q.c1
  have k2 := q.f 0
  have k3 := q.f 1
  have Hb := Lib.hid hB
  clear hb1 q hB
  go_wp2_with fail
  refine bodyPost_ret (v := .tuple #[.agg #[.int .i64 0, .slice none 0 0], .int .i64 r]) ?_ rfl ⟨rfl, ?_⟩
  · simp [results, Try.results44, go_sem, k0, k1]
  · exact (Hb.out.setCell (by simp; omega) _).setCell (by simp; omega) _
theorem Beside_bad (an ab ao ac bn bb bo bc : Nat) (ax bx : List Nat) (w : World) (ha : VAt w ab ao ac an ax) (hb : VAt w bb bo bc bn bx) (r : Int) (hr : (ax.length ≠ bx.length ∧ r = 4) ∨ (ax.length = bx.length ∧ 24 < an + bn ∧ r = 8)) :
    Calls Try.prog 44 #[.agg #[.int .i64 (an : Int), .slice (some ⟨ab, ao, none⟩) ax.length ac], .agg #[.int .i64 (bn : Int), .slice (some ⟨bb, bo, none⟩) bx.length bc]] w (ErrD r w) := by
  have Hc := fun o1 o2 o3 => check_res23 ⟨an, some ⟨ab, ao, none⟩, ac, ints ax⟩ ⟨bn, some ⟨bb, bo, none⟩, bc, ints bx⟩ w o1 o2 o3 (by unfold Dsg.v; rw [ints_len]; exact ha.reads) (by unfold Dsg.v; rw [ints_len]; exact hb.reads) 0 (by simp [firstE, Dsg.e, ha.ok.check, hb.ok.check])
  simp only [ints_len] at Hc
  have n1 := ha.ok.n1
  have n2 := hb.ok.n1
  rcases hr with ⟨hne, rfl⟩ | ⟨heq, hbig, rfl⟩
  · have ht : ((ax.length : Int) != (bx.length : Int)) = true := by rw [bne_iff_ne]; omega
    clear ha hb hne
    go_enter Try.func44, Try.ntmps44
    go_wp2_with fail
    refine (Hc _ _ _).mono ?_
    rintro e' w1 ⟨rfl, hb1⟩
    obtain ⟨q, da, db, hB⟩ := res_facts2 hb1
    have a1 := da.c1
    have b1 := db.c1
    have k0 := q.c0
    have k1 := q.c1
    have k2 := q.f 0
    have k3 := q.f 1
    have Hb := Lib.hid hB
    clear hb1 q hB da db
    go_wp2_with fail
    refine bodyPost_ret (v := .tuple #[.agg #[.int .i64 0, .slice none 0 0], .int .i64 4]) ?_ rfl ⟨rfl, ?_⟩
    · simp [results, Try.results44, go_sem, k0, k1]
    · exact (Hb.out.setCell (by simp; omega) _).setCell (by simp; omega) _
  · have ht : ((ax.length : Int) != (bx.length : Int)) = false := by rw [heq]; simp
    have hd : decide ((24 : Int) < (an : Int) + (bn : Int)) = true := by simp; omega
    clear ha hb heq
    go_enter Try.func44, Try.ntmps44
    go_wp2_with fail
    refine (Hc _ _ _).mono ?_
    rintro e' w1 ⟨rfl, hb1⟩
    obtain ⟨q, da, db, hB⟩ := res_facts2 hb1
    have a0 := da.c0
    have a1 := da.c1
    have b0 := db.c0
    have b1 := db.c1
    have k0 := q.c0
    have k1 := q.c1
    have k2 := q.f 0
    have k3 := q.f 1
    have Hb := Lib.hid hB
    clear hb1 q hB da db
    go_wp2_with fail
    refine bodyPost_ret (v := .tuple #[.agg #[.int .i64 0, .slice none 0 0], .int .i64 8]) ?_ rfl ⟨rfl, ?_⟩
    · simp [results, Try.results44, go_sem, k0, k1]
    · exact (Hb.out.setCell (by simp; omega) _).setCell (by simp; omega) _

set_option maxHeartbeats 1000000 in
theorem Beside_ok (an ab ao ac bn bb bo bc : Nat) (ax bx : List Nat) (w : World) (ha : VAt w ab ao ac an ax) (hb : VAt w bb bo bc bn bx) (hl : bx.length = ax.length) (hs : an + bn ≤ 24) :
    Calls Try.prog 44 #[.agg #[.int .i64 (an : Int), .slice (some ⟨ab, ao, none⟩) ax.length ac], .agg #[.int .i64 (bn : Int), .slice (some ⟨bb, bo, none⟩) bx.length bc]] w (OkD (an + bn) (painted (beG an ax bx) ax.length (an + bn)) w) := by
  have Hc := fun o1 o2 o3 => check_res23 ⟨an, some ⟨ab, ao, none⟩, ac, ints ax⟩ ⟨bn, some ⟨bb, bo, none⟩, bc, ints bx⟩ w o1 o2 o3 (by unfold Dsg.v; rw [ints_len]; exact ha.reads) (by unfold Dsg.v; rw [ints_len]; exact hb.reads) 0 (by simp [firstE, Dsg.e, ha.ok.check, hb.ok.check])
  simp only [ints_len] at Hc
  have l1 := ha.ok.l1
  have ht : ((ax.length : Int) != (bx.length : Int)) = false := by rw [hl]; simp
  have hd : decide ((24 : Int) < (an : Int) + (bn : Int)) = false := by simp; omega
  have Hsum := Lib.hid (show (an : Int) + (bn : Int) = ((an + bn : Nat) : Int) by omega)
  have HA := Lib.hid ha
  have HB := Lib.hid hb
  have Hl := Lib.hid hl
  clear ha hb hl
  go_enter Try.func44, Try.ntmps44
  go_wp2_with fail
  refine (Hc _ _ _).mono ?_
  rintro e' w1 ⟨rfl, hb1⟩
  obtain ⟨q, da, db, hB⟩ := res_facts2 hb1
  have a0 := da.c0
  have a1 := da.c1
  have b0 := db.c0
  have b1 := db.c1
  have Hq := Lib.hid q
  have Hb := Lib.hid hB
  have HC : Cond 86 #[.pointer (some ⟨w.heap.size, 0, none⟩), .pointer (some ⟨w.heap.size + 1, 0, none⟩)] ax.length (an + bn) (beG an ax bx) w1 := by
    intro W i j h hi hj
    exact beside1_any an ab ao ac bn bb bo bc _ _ ax bx i j W (HA.out.below (Hb.out.trans (h.mono Hb.out.size))) (HB.out.below (Hb.out.trans (h.mono Hb.out.size))) (da.below h da.lt) (db.below h db.lt) Hl.out hi hj
  have HP := Lib.hid (paint_any 86 _ (enters_of Try.func86 (by kernel_rfl) rfl) ax.length (an + bn) (beG an ax bx) w1 l1 hs HC)
  clear HC hb1 q hB da db
  go_wp2_with fail
  rw [Hsum.out]
  refine HP.out.mono ?_
  rintro e' w3 ⟨R, rfl, hR0, hR1, hR2⟩
  have q6 := Hq.out.below hR2 Hq.out.lt
  have k0 := q6.c0
  have k1 := q6.c1
  have k2 := q6.f 0
  have k3 := q6.f 1
  have hql := Hq.out.lt
  have HR0 := Lib.hid hR0
  have HR1 := Lib.hid hR1
  have HR2 := Lib.hid hR2
  clear hR0 hR1 hR2 q6 a0 a1 b0 b1
  go_wp2_with fail
  refine bodyPost_ret (v := .tuple #[.agg #[.int .i64 ((an + bn : Nat) : Int), .slice (some ⟨R, 0, none⟩) ax.length ax.length], .int .i64 0]) ?_ rfl ⟨R, by rw [painted_len], ?_, ?_, ?_⟩
  · simp [results, Try.results44, go_sem, k0, k1]
  · exact Nat.le_trans Hb.out.size HR0.out
  · have hz := HR0.out
    exact (Below.heap_setCell _ _ _ _ (by simp; omega)).trans ((Below.heap_setCell _ _ _ _ (by simp; omega)).trans HR1.out)
  · exact ((Hb.out.trans (HR2.out.mono Hb.out.size)).setCell (by simp; omega) _).setCell (by simp; omega) _
end Go.Proofs.Ytjobbleabepaiaa
