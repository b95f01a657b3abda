/- Lay's check. · Lay, of designs that are valid. · Lay, where the three designs are valid and two are of one size. -/
import Derived.Test.YtjobbleabepaiaaWO
import Derived.Test.YtjobbleabepaiaaWV
import Derived.Test.YtjobbleabepaiaaWX
import Derived.KernelRfl
namespace Go.Proofs.Ytjobbleabepaiaa
section
open Go.RowKit Go.Shelf

/-- check of three designs -/
theorem check_three (d e f : Dsg) (W : World) (hr : Reads W d.v d.xs) (hs : Reads W e.v e.xs) (ht : Reads W f.v f.xs) :
    Calls Try.prog 66 #[.slice (some ⟨W.heap.size, 0, none⟩) 3 3] (W.alloc (.cells #[.int .i64 d.hooks, .slice d.p d.xs.length d.cap, .int .i64 e.hooks, .slice e.p e.xs.length e.cap, .int .i64 f.hooks, .slice f.p f.xs.length f.cap] 24))
      fun e' w' => e' = .returned (.int .i64 (firstE [d, e, f])) ∧ Below W.heap.size W w' := by
  refine (check_any W.heap.size 3 [d, e, f] _ (by simp) (DsAt_three W d e f hr hs ht)).mono ?_
  rintro e' w' ⟨rfl, hb⟩
  exact ⟨rfl, ((Below.refl _ _).alloc (Nat.le_refl _) _).trans (hb.mono (by simp))⟩

theorem below_four (w : World) (o1 o2 o3 o4 : Obj) : Below w.heap.size w ((((w.alloc o1).alloc o2).alloc o3).alloc o4) :=
  ((((Below.refl _ _).alloc (Nat.le_refl _) o1).alloc (by simp) o2).alloc (by simp; omega) o3).alloc (by simp; omega) o4
/-- check of three designs, behind four boxes -/
theorem check_res3 (d e f : Dsg) (w : World) (o1 o2 o3 o4 : Obj) (hr : Reads w d.v d.xs) (hs : Reads w e.v e.xs) (ht : Reads w f.v f.xs) (r : Int) (he : firstE [d, e, f] = r) :
    Calls Try.prog 66 #[.slice (some ⟨w.heap.size + 1 + 1 + 1 + 1, 0, none⟩) 3 3] (((((w.alloc o1).alloc o2).alloc o3).alloc o4).alloc (.cells #[.int .i64 d.hooks, .slice d.p d.xs.length d.cap, .int .i64 e.hooks, .slice e.p e.xs.length e.cap, .int .i64 f.hooks, .slice f.p f.xs.length f.cap] 24))
      fun e' w' => e' = .returned (.int .i64 r) ∧ Below (w.heap.size + 1 + 1 + 1 + 1) ((((w.alloc o1).alloc o2).alloc o3).alloc o4) w' := by
  have hb := below_four w o1 o2 o3 o4
  have := check_three d e f ((((w.alloc o1).alloc o2).alloc o3).alloc o4) (hr.below hb) (hs.below hb) (ht.below hb)
  simp only [World.size_alloc] at this
  rw [he] at this
  exact this

set_option maxHeartbeats 1000000 in
theorem Lay_err (d e f : Dsg) (w : World) (hr : Reads w d.v d.xs) (hs : Reads w e.v e.xs) (ht : Reads w f.v f.xs) (r : Int) (he : firstE [d, e, f] = r) (hne : r ≠ 0) :
    Calls Try.prog 55 #[.agg #[.int .i64 d.hooks, .slice d.p d.xs.length d.cap], .agg #[.int .i64 e.hooks, .slice e.p e.xs.length e.cap], .agg #[.int .i64 f.hooks, .slice f.p f.xs.length f.cap]] w (ErrD r w) := by
  have hne' : (r != 0) = true := by simpa using hne
  have Hc := fun o1 o2 o3 o4 => check_res3 d e f w o1 o2 o3 o4 hr hs ht r he
  clear he hr hs ht hne
  go_enter Try.func55, Try.ntmps55
  go_wp2_with fail
  refine (Hc _ _ _ _).mono ?_
  rintro e' w1 ⟨rfl, hb1⟩
  have q : ResBox w1 (w.heap.size + 1 + 1 + 1) := ((ResBox.new (((w.alloc (.cells #[.int .i64 d.hooks, .slice d.p d.xs.length d.cap] 24)).alloc (.cells #[.int .i64 e.hooks, .slice e.p e.xs.length e.cap] 24)).alloc (.cells #[.int .i64 f.hooks, .slice f.p f.xs.length f.cap] 24))).below hb1 (by simp)) |> (fun h => by simpa using h)
  have k0 := q.c0
  have k1 := q.c1
  have k2 := q.f 0
  have k3 := q.f 1
  have Hb := Lib.hid ((below_four _ _ _ _ _).trans (hb1.mono (by omega)))
  clear hb1 q
  go_wp2_with fail
  refine bodyPost_ret (v := .tuple #[.agg #[.int .i64 0, .slice none 0 0], .int .i64 r]) ?_ rfl ⟨rfl, ?_⟩
  · simp [results, Try.results55, go_sem, k0, k1]
  · exact (Hb.out.setCell (by simp; omega) _).setCell (by simp; omega) _
end
end Go.Proofs.Ytjobbleabepaiaa
namespace Go.Proofs.Ytjobbleabepaiaa
section
open Go.RowKit Go.Shelf

def dObj (n b off c : Nat) (xs : List Nat) : Obj := .cells #[.int .i64 (n : Int), .slice (some ⟨b, off, none⟩) xs.length c] 24
def rObj : Obj := .cells #[.int .i64 0, .slice none 0 0] 24
theorem DBox.new (w : World) (n b off c : Nat) (xs : List Nat) : DBox (w.alloc (dObj n b off c xs)) w.heap.size n b off c xs := by
  unfold dObj; exact ⟨by simp, by simp⟩
theorem res_facts3 {w w1 : World} {n1 b1 o1 c1 n2 b2 o2 c2 n3 b3 o3 c3 : Nat} {xs ys zs : List Nat}
    (hb1 : Below (w.heap.size + 1 + 1 + 1 + 1) ((((w.alloc (dObj n1 b1 o1 c1 xs)).alloc (dObj n2 b2 o2 c2 ys)).alloc (dObj n3 b3 o3 c3 zs)).alloc rObj) w1) :
    ResBox w1 (w.heap.size + 1 + 1 + 1) ∧ DBox w1 w.heap.size n1 b1 o1 c1 xs ∧ DBox w1 (w.heap.size + 1) n2 b2 o2 c2 ys ∧ DBox w1 (w.heap.size + 1 + 1) n3 b3 o3 c3 zs ∧ Below w.heap.size w w1 := by
  have hr : ResBox ((((w.alloc (dObj n1 b1 o1 c1 xs)).alloc (dObj n2 b2 o2 c2 ys)).alloc (dObj n3 b3 o3 c3 zs)).alloc rObj) (w.heap.size + 1 + 1 + 1) := by
    have := ResBox.new (((w.alloc (dObj n1 b1 o1 c1 xs)).alloc (dObj n2 b2 o2 c2 ys)).alloc (dObj n3 b3 o3 c3 zs))
    unfold rObj; simpa using this
  have h1 := DBox.new w n1 b1 o1 c1 xs
  have h2 := DBox.new (w.alloc (dObj n1 b1 o1 c1 xs)) n2 b2 o2 c2 ys
  have h3 := DBox.new ((w.alloc (dObj n1 b1 o1 c1 xs)).alloc (dObj n2 b2 o2 c2 ys)) n3 b3 o3 c3 zs
  simp only [World.size_alloc] at h2 h3
  have a : ∀ (W : World) (o : Obj), Below W.heap.size W (W.alloc o) := fun W o => (Below.refl _ _).alloc (Nat.le_refl _) o
  refine ⟨hr.below hb1 (by omega), ?_, ?_, ?_, (below_four _ _ _ _ _).trans (hb1.mono (by omega))⟩
  · exact (((h1.below (a _ _) h1.lt).below (a _ _) (by simp <;> omega)).below (a _ _) (by simp <;> omega)).below hb1 (by omega)
  · exact ((h2.below (a _ _) h2.lt).below (a _ _) (by simp <;> omega)).below hb1 (by omega)
  · exact (h3.below (a _ _) h3.lt).below hb1 (by omega)

set_option maxHeartbeats 1000000 in
theorem Lay_form (gn gb go gc fn fb fo fc mn mb mo mc : Nat) (gx fx mx : List Nat) (w : World) (hg : VAt w gb go gc gn gx) (hf : VAt w fb fo fc fn fx) (hm : VAt w mb mo mc mn mx) (hne : ¬ (fn = mn ∧ fx.length = mx.length)) :
    Calls Try.prog 55 #[.agg #[.int .i64 (gn : Int), .slice (some ⟨gb, go, none⟩) gx.length gc], .agg #[.int .i64 (fn : Int), .slice (some ⟨fb, fo, none⟩) fx.length fc], .agg #[.int .i64 (mn : Int), .slice (some ⟨mb, mo, none⟩) mx.length mc]] w (ErrD 4 w) := by
  have Hc := fun o1 o2 o3 o4 => check_res3 ⟨gn, some ⟨gb, go, none⟩, gc, ints gx⟩ ⟨fn, some ⟨fb, fo, none⟩, fc, ints fx⟩ ⟨mn, some ⟨mb, mo, none⟩, mc, ints mx⟩ w o1 o2 o3 o4 (by show Reads w (.slice _ (ints gx).length gc) _; rw [ints_len]; exact hg.reads) (by show Reads w (.slice _ (ints fx).length fc) _; rw [ints_len]; exact hf.reads) (by show Reads w (.slice _ (ints mx).length mc) _; rw [ints_len]; exact hm.reads) 0 (by simp [firstE, Dsg.e, hg.ok.check, hf.ok.check, hm.ok.check])
  simp only [ints_len] at Hc
  have Hss := fun W => sameSize_any (fn : Int) (mn : Int) (some ⟨fb, fo, none⟩) (some ⟨mb, mo, none⟩) fx.length mx.length fc mc W
  have hd : decide ((fn : Int) = (mn : Int) ∧ fx.length = mx.length) = false := by simp; omega
  rw [hd] at Hss
  clear hg hf hm hne hd
  go_enter Try.func55, Try.ntmps55
  go_wp2_with fail
  refine (Hc _ _ _ _).mono ?_
  rintro e' w1 ⟨rfl, hb1⟩
  obtain ⟨q, dg, df, dm, hB⟩ := res_facts3 hb1
  have f0 := df.c0
  have f1 := df.c1
  have m0 := dm.c0
  have m1 := dm.c1
  have Hq := Lib.hid q
  have Hb := Lib.hid hB
  clear hb1 q hB dg df dm
  go_wp2_with fail
  refine (Hss _).mono ?_
  rintro e' w2 ⟨rfl, hb2⟩
  have q2 := Hq.out.below hb2 Hq.out.lt
  have k0 := q2.c0
  have k1 := q2.c1
  have k2 := q2.f 0
  have k3 := q2.f 1
  have Hb2 := Lib.hid (Hb.out.trans (hb2.mono Hb.out.size))
  clear hb2 q2 f0 f1 m0 m1
  go_wp2_with fail
  refine bodyPost_ret (v := .tuple #[.agg #[.int .i64 0, .slice none 0 0], .int .i64 4]) ?_ rfl ⟨rfl, ?_⟩
  · simp [results, Try.results55, go_sem, k0, k1]
  · exact (Hb2.out.setCell (by simp; omega) _).setCell (by simp; omega) _
end
end Go.Proofs.Ytjobbleabepaiaa
namespace Go.Proofs.Ytjobbleabepaiaa
section
open Go.RowKit Go.Shelf

set_option maxHeartbeats 1000000 in
theorem Lay_ok (gn gb go gc fn fb fo fc mb mo mc : Nat) (gx fx mx : List Nat) (w : World) (hg : VAt w gb go gc gn gx) (hf : VAt w fb fo fc fn fx) (hm : VAt w mb mo mc fn mx) (hlen : mx.length = fx.length) :
    Calls Try.prog 55 #[.agg #[.int .i64 (gn : Int), .slice (some ⟨gb, go, none⟩) gx.length gc], .agg #[.int .i64 (fn : Int), .slice (some ⟨fb, fo, none⟩) fx.length fc], .agg #[.int .i64 (fn : Int), .slice (some ⟨mb, mo, none⟩) mx.length mc]] w (OkD fn (painted (layG gx gn fx mx) fx.length fn) w) := by
  have Hc := fun o1 o2 o3 o4 => check_res3 ⟨gn, some ⟨gb, go, none⟩, gc, ints gx⟩ ⟨fn, some ⟨fb, fo, none⟩, fc, ints fx⟩ ⟨fn, some ⟨mb, mo, none⟩, mc, ints mx⟩ w o1 o2 o3 o4 (by show Reads w (.slice _ (ints gx).length gc) _; rw [ints_len]; exact hg.reads) (by show Reads w (.slice _ (ints fx).length fc) _; rw [ints_len]; exact hf.reads) (by show Reads w (.slice _ (ints mx).length mc) _; rw [ints_len]; exact hm.reads) 0 (by simp [firstE, Dsg.e, hg.ok.check, hf.ok.check, hm.ok.check])
  simp only [ints_len] at Hc
  have Hss := fun W => sameSize_any (fn : Int) (fn : Int) (some ⟨fb, fo, none⟩) (some ⟨mb, mo, none⟩) fx.length mx.length fc mc W
  have hd : decide ((fn : Int) = (fn : Int) ∧ fx.length = mx.length) = true := by simp; omega
  rw [hd] at Hss
  have HG := Lib.hid hg
  have HF := Lib.hid hf
  have HM := Lib.hid hm
  have Hlen := Lib.hid hlen
  have l1 := hf.ok.l1
  have n1 := hf.ok.n1
  clear hg hf hm hlen hd
  go_enter Try.func55, Try.ntmps55
  go_wp2_with fail
  refine (Hc _ _ _ _).mono ?_
  rintro e' w1 ⟨rfl, hb1⟩
  obtain ⟨q, dg, df, dm, hB⟩ := res_facts3 hb1
  have f0 := df.c0
  have f1 := df.c1
  have m0 := dm.c0
  have m1 := dm.c1
  have Hq := Lib.hid q
  have DG := Lib.hid dg
  have DF := Lib.hid df
  have DM := Lib.hid dm
  have Hb := Lib.hid hB
  clear hb1 q hB dg df dm
  go_wp2_with fail
  refine (Hss _).mono ?_
  rintro e' w2 ⟨rfl, hb2⟩
  have Hq2 := Lib.hid (Hq.out.below hb2 Hq.out.lt)
  have Hb2 := Lib.hid (Hb.out.trans (hb2.mono Hb.out.size))
  have DG2 := Lib.hid (DG.out.below hb2 DG.out.lt)
  have DF2 := Lib.hid (DF.out.below hb2 DF.out.lt)
  have DM2 := Lib.hid (DM.out.below hb2 DM.out.lt)
  have d0 := DF2.out.c0
  have d1 := DF2.out.c1
  clear hb2 f0 f1 m0 m1
  have HC : Cond 97 #[.pointer (some ⟨w.heap.size + 1 + 1, 0, none⟩), .pointer (some ⟨w.heap.size + 1, 0, none⟩), .pointer (some ⟨w.heap.size, 0, none⟩)] fx.length fn (layG gx gn fx mx) w2 := by
    intro W i j hB hi hj
    have hb := Hb2.out.trans (hB.mono Hb2.out.size)
    exact lay1_any gn gb go gc fn fb fo fc mb mo mc _ _ _ gx fx mx i j W (HG.out.below hb) (HF.out.below hb) (HM.out.below hb) (DG2.out.below hB DG2.out.lt) (DF2.out.below hB DF2.out.lt) (DM2.out.below hB DM2.out.lt) Hlen.out hi hj
  have HP := Lib.hid (paint_any 97 _ (enters_of Try.func97 (by kernel_rfl) rfl) fx.length fn (layG gx gn fx mx) w2 l1 n1 HC)
  clear HC
  go_wp2_with fail
  refine HP.out.mono ?_
  rintro e' w3 ⟨R, rfl, hR0, hR1, hR2⟩
  have q6 := Hq2.out.below hR2 Hq2.out.lt
  have k0 := q6.c0
  have k1 := q6.c1
  have k2 := q6.f 0
  have k3 := q6.f 1
  have hql := Hq2.out.lt
  have HR0 := Lib.hid hR0
  have HR1 := Lib.hid hR1
  have HR2 := Lib.hid hR2
  clear hR0 hR1 hR2 q6 d0 d1
  go_wp2_with fail
  refine bodyPost_ret (v := .tuple #[.agg #[.int .i64 (fn : Int), .slice (some ⟨R, 0, none⟩) fx.length fx.length], .int .i64 0]) ?_ rfl ⟨R, by rw [painted_len], ?_, ?_, ?_⟩
  · simp [results, Try.results55, go_sem, k0, k1]
  · exact Nat.le_trans Hb2.out.size HR0.out
  · have hz := HR0.out
    exact (Below.heap_setCell _ _ _ _ (by simp; omega)).trans ((Below.heap_setCell _ _ _ _ (by simp; omega)).trans HR1.out)
  · exact ((Hb2.out.trans (HR2.out.mono Hb2.out.size)).setCell (by simp; omega) _).setCell (by simp; omega) _
end
end Go.Proofs.Ytjobbleabepaiaa
