/- Lay, where the three designs are valid and two are of one size. -/
import Derived.Test.YtjobbleabepaiaaVF
import Derived.KernelRfl
namespace Go.Proofs.Ytjobbleabepaiaa
open Go.RowKit Go.Shelf

set_option maxHeartbeats 1000000 in
theorem Lay_ok (gn gb go gc fn fb fo fc mb mo mc : Nat) (gx fx mx : List Nat) (w : World) (hg : VAt w gb go gc gn gx) (hf : VAt w fb fo fc fn fx) (hm : VAt w mb mo mc fn mx) (hlen : mx.length = fx.length) :
    Calls Try.prog 55 #[.agg #[.int .i64 (gn : Int), .slice (some ⟨gb, go, none⟩) gx.length gc], .agg #[.int .i64 (fn : Int), .slice (some ⟨fb, fo, none⟩) fx.length fc], .agg #[.int .i64 (fn : Int), .slice (some ⟨mb, mo, none⟩) mx.length mc]] w (OkD fn (painted (layG gx gn fx mx) fx.length fn) w) := by
  have Hc := fun o1 o2 o3 o4 => check_res3 ⟨gn, some ⟨gb, go, none⟩, gc, ints gx⟩ ⟨fn, some ⟨fb, fo, none⟩, fc, ints fx⟩ ⟨fn, some ⟨mb, mo, none⟩, mc, ints mx⟩ w o1 o2 o3 o4 (by show Reads w (.slice _ (ints gx).length gc) _; rw [ints_len]; exact hg.reads) (by show Reads w (.slice _ (ints fx).length fc) _; rw [ints_len]; exact hf.reads) (by show Reads w (.slice _ (ints mx).length mc) _; rw [ints_len]; exact hm.reads) 0 (by simp [firstE, Dsg.e, hg.ok.check, hf.ok.check, hm.ok.check])
  simp only [ints_len] at Hc
  have Hss := fun W => sameSize_any (fn : Int) (fn : Int) (some ⟨fb, fo, none⟩) (some ⟨mb, mo, none⟩) fx.length mx.length fc mc W
  have hd : decide ((fn : Int) = (fn : Int) ∧ fx.length = mx.length) = true := by simp; omega
  rw [hd] at Hss
  have HG := Lib.hid hg
  have HF := Lib.hid hf
  have HM := Lib.hid hm
  have Hlen := Lib.hid hlen
  have l1 := hf.ok.l1
  have n1 := hf.ok.n1
  clear hg hf hm hlen hd
  go_enter Try.func55, Try.ntmps55
  go_wp2_with fail
  refine (Hc _ _ _ _).mono ?_
  rintro e' w1 ⟨rfl, hb1⟩
  obtain ⟨q, dg, df, dm, hB⟩ := res_facts3 hb1
  have f0 := df.c0
  have f1 := df.c1
  have m0 := dm.c0
  have m1 := dm.c1
  have Hq := Lib.hid q
  have DG := Lib.hid dg
  have DF := Lib.hid df
  have DM := Lib.hid dm
  have Hb := Lib.hid hB
  clear hb1 q hB dg df dm
  go_wp2_with fail
  refine (Hss _).mono ?_
  rintro e' w2 ⟨rfl, hb2⟩
  have Hq2 := Lib.hid (Hq.out.below hb2 Hq.out.lt)
  have Hb2 := Lib.hid (Hb.out.trans (hb2.mono Hb.out.size))
  have DG2 := Lib.hid (DG.out.below hb2 DG.out.lt)
  have DF2 := Lib.hid (DF.out.below hb2 DF.out.lt)
  have DM2 := Lib.hid (DM.out.below hb2 DM.out.lt)
  have d0 := DF2.out.c0
  have d1 := DF2.out.c1
  clear hb2 f0 f1 m0 m1
  have HC : Cond 97 #[.pointer (some ⟨w.heap.size + 1 + 1, 0, none⟩), .pointer (some ⟨w.heap.size + 1, 0, none⟩), .pointer (some ⟨w.heap.size, 0, none⟩)] fx.length fn (layG gx gn fx mx) w2 := by
    intro W i j hB hi hj
    have hb := Hb2.out.trans (hB.mono Hb2.out.size)
    exact lay1_any gn gb go gc fn fb fo fc mb mo mc _ _ _ gx fx mx i j W (HG.out.below hb) (HF.out.below hb) (HM.out.below hb) (DG2.out.below hB DG2.out.lt) (DF2.out.below hB DF2.out.lt) (DM2.out.below hB DM2.out.lt) Hlen.out hi hj
  have HP := Lib.hid (paint_any 97 _ (enters_of Try.func97 (by kernel_rfl) rfl) fx.length fn (layG gx gn fx mx) w2 l1 n1 HC)
  clear HC
  go_wp2_with fail
  refine HP.out.mono ?_
  rintro e' w3 ⟨R, rfl, hR0, hR1, hR2⟩
  have q6 := Hq2.out.below hR2 Hq2.out.lt
  have k0 := q6.c0
  have k1 := q6.c1
  have k2 := q6.f 0
  have k3 := q6.f 1
  have hql := Hq2.out.lt
  have HR0 := Lib.hid hR0
  have HR1 := Lib.hid hR1
  have HR2 := Lib.hid hR2
  clear hR0 hR1 hR2 q6 d0 d1
  go_wp2_with fail
  refine bodyPost_ret (v := .tuple #[.agg #[.int .i64 (fn : Int), .slice (some ⟨R, 0, none⟩) fx.length fx.length], .int .i64 0]) ?_ rfl ⟨R, by rw [painted_len], ?_, ?_, ?_⟩
  · simp [results, Try.results55, go_sem, k0, k1]
  · exact Nat.le_trans Hb2.out.size HR0.out
  · have hz := HR0.out
    exact (Below.heap_setCell _ _ _ _ (by simp; omega)).trans ((Below.heap_setCell _ _ _ _ (by simp; omega)).trans HR1.out)
  · exact ((Hb2.out.trans (HR2.out.mono Hb2.out.size)).setCell (by simp; omega) _).setCell (by simp; omega) _
end Go.Proofs.Ytjobbleabepaiaa
