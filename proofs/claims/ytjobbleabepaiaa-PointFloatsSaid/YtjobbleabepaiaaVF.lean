/- Lay, of designs that are valid. -/
import Derived.Test.YtjobbleabepaiaaVE
import Derived.Test.YtjobbleabepaiaaWU
import Derived.Test.YtjobbleabepaiaaWV
import Derived.Test.YtjobbleabepaiaaWX
namespace Go.Proofs.Ytjobbleabepaiaa
open Go.RowKit Go.Shelf

def dObj (n b off c : Nat) (xs : List Nat) : Obj := .cells #[.int .i64 (n : Int), .slice (some ⟨b, off, none⟩) xs.length c] 24
def rObj : Obj := .cells #[.int .i64 0, .slice none 0 0] 24
theorem DBox.new (w : World) (n b off c : Nat) (xs : List Nat) : DBox (w.alloc (dObj n b off c xs)) w.heap.size n b off c xs := by
  unfold dObj; exact ⟨by simp, by simp⟩
theorem res_facts3 {w w1 : World} {n1 b1 o1 c1 n2 b2 o2 c2 n3 b3 o3 c3 : Nat} {xs ys zs : List Nat}
    (hb1 : Below (w.heap.size + 1 + 1 + 1 + 1) ((((w.alloc (dObj n1 b1 o1 c1 xs)).alloc (dObj n2 b2 o2 c2 ys)).alloc (dObj n3 b3 o3 c3 zs)).alloc rObj) w1) :
    ResBox w1 (w.heap.size + 1 + 1 + 1) ∧ DBox w1 w.heap.size n1 b1 o1 c1 xs ∧ DBox w1 (w.heap.size + 1) n2 b2 o2 c2 ys ∧ DBox w1 (w.heap.size + 1 + 1) n3 b3 o3 c3 zs ∧ Below w.heap.size w w1 := by
  have hr : ResBox ((((w.alloc (dObj n1 b1 o1 c1 xs)).alloc (dObj n2 b2 o2 c2 ys)).alloc (dObj n3 b3 o3 c3 zs)).alloc rObj) (w.heap.size + 1 + 1 + 1) := by
    have := ResBox.new (((w.alloc (dObj n1 b1 o1 c1 xs)).alloc (dObj n2 b2 o2 c2 ys)).alloc (dObj n3 b3 o3 c3 zs))
    unfold rObj; simpa using this
  have h1 := DBox.new w n1 b1 o1 c1 xs
  have h2 := DBox.new (w.alloc (dObj n1 b1 o1 c1 xs)) n2 b2 o2 c2 ys
  have h3 := DBox.new ((w.alloc (dObj n1 b1 o1 c1 xs)).alloc (dObj n2 b2 o2 c2 ys)) n3 b3 o3 c3 zs
  simp only [World.size_alloc] at h2 h3
  have a : ∀ (W : World) (o : Obj), Below W.heap.size W (W.alloc o) := fun W o => (Below.refl _ _).alloc (Nat.le_refl _) o
  refine ⟨hr.below hb1 (by omega), ?_, ?_, ?_, (below_four _ _ _ _ _).trans (hb1.mono (by omega))⟩
  · exact (((h1.below (a _ _) h1.lt).below (a _ _) (by simp <;> omega)).below (a _ _) (by simp <;> omega)).below hb1 (by omega)
  · exact ((h2.below (a _ _) h2.lt).below (a _ _) (by simp <;> omega)).below hb1 (by omega)
  · exact (h3.below (a _ _) h3.lt).below hb1 (by omega)

set_option maxHeartbeats 1000000 in
theorem Lay_form (gn gb go gc fn fb fo fc mn mb mo mc : Nat) (gx fx mx : List Nat) (w : World) (hg : VAt w gb go gc gn gx) (hf : VAt w fb fo fc fn fx) (hm : VAt w mb mo mc mn mx) (hne : ¬ (fn = mn ∧ fx.length = mx.length)) :
    Calls Try.prog 55 #[.agg #[.int .i64 (gn : Int), .slice (some ⟨gb, go, none⟩) gx.length gc], .agg #[.int .i64 (fn : Int), .slice (some ⟨fb, fo, none⟩) fx.length fc], .agg #[.int .i64 (mn : Int), .slice (some ⟨mb, mo, none⟩) mx.length mc]] w (ErrD 4 w) := by
  have Hc := fun o1 o2 o3 o4 => check_res3 ⟨gn, some ⟨gb, go, none⟩, gc, ints gx⟩ ⟨fn, some ⟨fb, fo, none⟩, fc, ints fx⟩ ⟨mn, some ⟨mb, mo, none⟩, mc, ints mx⟩ w o1 o2 o3 o4 (by show Reads w (.slice _ (ints gx).length gc) _; rw [ints_len]; exact hg.reads) (by show Reads w (.slice _ (ints fx).length fc) _; rw [ints_len]; exact hf.reads) (by show Reads w (.slice _ (ints mx).length mc) _; rw [ints_len]; exact hm.reads) 0 (by simp [firstE, Dsg.e, hg.ok.check, hf.ok.check, hm.ok.check])
  simp only [ints_len] at Hc
  have Hss := fun W => sameSize_any (fn : Int) (mn : Int) (some ⟨fb, fo, none⟩) (some ⟨mb, mo, none⟩) fx.length mx.length fc mc W
  have hd : decide ((fn : Int) = (mn : Int) ∧ fx.length = mx.length) = false := by simp; omega
  rw [hd] at Hss
  clear hg hf hm hne hd
  go_enter Try.func55, Try.ntmps55
  go_wp2_with fail
  refine (Hc _ _ _ _).mono ?_
  rintro e' w1 ⟨rfl, hb1⟩
  obtain ⟨q, dg, df, dm, hB⟩ := res_facts3 hb1
  have f0 := df.c0
  have f1 := df.c1
  have m0 := dm.c0
  have m1 := dm.c1
  have Hq := Lib.hid q
  have Hb := Lib.hid hB
  clear hb1 q hB dg df dm
  go_wp2_with fail
  refine (Hss _).mono ?_
  rintro e' w2 ⟨rfl, hb2⟩
  have q2 := Hq.out.below hb2 Hq.out.lt
  have k0 := q2.c0
  have k1 := q2.c1
  have k2 := q2.f 0
  have k3 := q2.f 1
  have Hb2 := Lib.hid (Hb.out.trans (hb2.mono Hb.out.size))
  clear hb2 q2 f0 f1 m0 m1
  go_wp2_with fail
  refine bodyPost_ret (v := .tuple #[.agg #[.int .i64 0, .slice none 0 0], .int .i64 4]) ?_ rfl ⟨rfl, ?_⟩
  · simp [results, Try.results55, go_sem, k0, k1]
  · exact (Hb2.out.setCell (by simp; omega) _).setCell (by simp; omega) _
end Go.Proofs.Ytjobbleabepaiaa
