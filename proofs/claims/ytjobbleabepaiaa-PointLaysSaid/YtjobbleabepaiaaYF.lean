/- PointLays, whatever the designs. -/
import Derived.Test.YtjobbleabepaiaaYE
import Derived.Test.YtjobbleabepaiaaYEA
import Derived.Test.YtjobbleabepaiaaYEB
namespace Go.Proofs.Ytjobbleabepaiaa
open Go.RowKit Go.Shelf

set_option maxRecDepth 100000 in
set_option maxHeartbeats 4000000 in
theorem PointLays_large (gh fh mh : Int) (gp fp mp : Option Addr) (gc fc mc gl fl ml : Nat) (w : World) (hlg : 70 < gl ∨ 70 < fl ∨ 70 < ml) :
    Calls Try.prog 9 #[.agg #[.int .i64 gh, .slice gp gl gc], .agg #[.int .i64 fh, .slice fp fl fc], .agg #[.int .i64 mh, .slice mp ml mc]] w fun e w' => e = .returned (.bool true) ∧ Below w.heap.size w w' := by
  have HLs := Lib.hid (lays_ls gh fh mh gp fp mp gc fc mc gl fl ml w)
  have hj : ∃ j, j < [gl, fl, ml].length ∧ 70 < nthN [gl, fl, ml] j ∧ ∀ i, i < j → nthN [gl, fl, ml] i ≤ 70 := by
    by_cases h1 : 70 < gl
    · exact ⟨0, by simp, h1, fun i hi => by omega⟩
    · by_cases h2 : 70 < fl
      · exact ⟨1, by simp, h2, fun i hi => by obtain rfl : i = 0 := by omega
                                              show gl ≤ 70; omega⟩
      · refine ⟨2, by simp, show 70 < ml by omega, fun i hi => ?_⟩
        match i, hi with
        | 0, _ => show gl ≤ 70; omega
        | 1, _ => show fl ≤ 70; omega
  have HJ := Lib.hid hj
  have HB := Lib.hid (show Below w.heap.size w (lays_w gh fh mh gp fp mp gc fc mc gl fl ml w) from by unfold lays_w; exact (((((Below.refl _ w).alloc (Nat.le_refl _) _).alloc (by simp) _).alloc (by simp; omega) _).alloc (by simp; omega) _))
  clear hlg hj
  go_enter Try.func9, Try.ntmps9
  go_wp2_with fail
  obtain ⟨j, h1, h2, h3⟩ := HJ.out
  refine (large_yes (w.heap.size + 1 + 1 + 1) 3 j [gl, fl, ml] _ (by simp) HLs.out h1 h2 h3).mono ?_
  rintro e w1 ⟨rfl, rfl⟩
  clear HJ HLs h1 h2 h3
  obtain ⟨W1, hW1⟩ : ∃ W1, lays_w gh fh mh gp fp mp gc fc mc gl fl ml w = W1 := ⟨_, rfl⟩
  rw [hW1] at HB ⊢
  clear hW1
  go_wp2_with fail
  refine (known_any _).mono ?_
  rintro e wz ⟨rfl, hbz⟩
  have HZ := Lib.hid (HB.out.trans (hbz.mono HB.out.size))
  clear hbz
  go_wp2_with fail
  go_ret
  exact ⟨rfl, HZ.out⟩

theorem PointLays_any (gh fh mh : Int) (gp fp mp : Option Addr) (gc fc mc : Nat) (gx fx mx : List Int) (w : World)
    (lg : gx.length ≤ 70) (lf : fx.length ≤ 70) (lm : mx.length ≤ 70) (hrg : Reads w (.slice gp gx.length gc) gx) (hrf : Reads w (.slice fp fx.length fc) fx) (hrm : Reads w (.slice mp mx.length mc) mx) :
    Calls Try.prog 9 #[.agg #[.int .i64 gh, .slice gp gx.length gc], .agg #[.int .i64 fh, .slice fp fx.length fc], .agg #[.int .i64 mh, .slice mp mx.length mc]] w fun e w' => e = .returned (.bool true) ∧ Below w.heap.size w w' := by
  obtain ⟨e3, he3⟩ : ∃ e3, firstE [⟨gh, gp, gc, gx⟩, ⟨fh, fp, fc, fx⟩, ⟨mh, mp, mc, mx⟩] = e3 := ⟨_, rfl⟩
  obtain ⟨e2, he2⟩ : ∃ e2, firstE [⟨fh, fp, fc, fx⟩, ⟨mh, mp, mc, mx⟩] = e2 := ⟨_, rfl⟩
  have hrel : e3 = if checkE gh gx = 0 then e2 else checkE gh gx := by rw [← he3, ← he2]; rfl
  have hLe : e3 ≠ 0 → ∀ (W : World) (q1 : Option Addr) (k1 : Nat) (q2 : Option Addr) (k2 : Nat) (q3 : Option Addr) (k3 : Nat), Reads W (.slice q1 gx.length k1) gx → Reads W (.slice q2 fx.length k2) fx → Reads W (.slice q3 mx.length k3) mx → Calls Try.prog 55 #[.agg #[.int .i64 gh, .slice q1 gx.length k1], .agg #[.int .i64 fh, .slice q2 fx.length k2], .agg #[.int .i64 mh, .slice q3 mx.length k3]] W (ErrD e3 W) :=
    fun hne W q1 k1 q2 k2 q3 k3 r1 r2 r3 => Lay_err ⟨gh, q1, k1, gx⟩ ⟨fh, q2, k2, fx⟩ ⟨mh, q3, k3, mx⟩ W r1 r2 r3 e3 he3 hne
  by_cases h20 : e2 = 0
  · subst h20
    have hf0 : checkE fh fx = 0 := by
      by_cases h : checkE fh fx = 0
      · exact h
      · have : firstE [⟨fh, fp, fc, fx⟩, ⟨mh, mp, mc, mx⟩] = checkE fh fx := by show (if checkE fh fx = 0 then _ else checkE fh fx) = _; rw [if_neg h]
        rw [this] at he2; exact absurd he2 h
    have hm0 : checkE mh mx = 0 := by
      have : firstE [⟨fh, fp, fc, fx⟩, ⟨mh, mp, mc, mx⟩] = if checkE mh mx = 0 then 0 else checkE mh mx := by show (if checkE fh fx = 0 then _ else checkE fh fx) = _; rw [if_pos hf0]; rfl
      rw [this] at he2
      by_cases h : checkE mh mx = 0
      · exact h
      · rw [if_neg h] at he2; exact he2
    obtain ⟨fn, fy, rfl, rfl, fv⟩ := valid_of_check hf0
    obtain ⟨mn, my, rfl, rfl, mv⟩ := valid_of_check hm0
    by_cases hlk : fn = mn ∧ fy.length = my.length
    · have hlen := hlk.2
      obtain rfl := hlk.1
      have hD : ∀ (W : World) (q2 : Option Addr) (k2 : Nat) (q3 : Option Addr) (k3 : Nat), Reads W (.slice q2 (ints fy).length k2) (ints fy) → Reads W (.slice q3 (ints my).length k3) (ints my) → Calls Try.prog 56 #[.agg #[.int .i64 (fn : Int), .slice q2 (ints fy).length k2], .agg #[.int .i64 (fn : Int), .slice q3 (ints my).length k3]] W
          (fun e w' => e = .returned (.tuple #[.int .i64 ((dfAll (fun i j => bitN (nthN fy i) j != bitN (nthN my i) j) fn (ints fy).length).1 : Int), .int .i64 ((dfAll (fun i j => bitN (nthN fy i) j != bitN (nthN my i) j) fn (ints fy).length).2.1 : Int), .int .i64 ((dfAll (fun i j => bitN (nthN fy i) j != bitN (nthN my i) j) fn (ints fy).length).2.2 : Int), .int .i64 0]) ∧ Below W.heap.size W w') := by
        intro W q2 k2 q3 k3 r2 r3
        simp only [ints_len] at r2 r3 ⊢
        obtain ⟨b2, o2, rfl, v2⟩ := vat_of_reads r2 fv
        obtain ⟨b3, o3, rfl, v3⟩ := vat_of_reads r3 mv
        exact Differ_ok fn b2 o2 k2 b3 o3 k3 fy my W v2 v3 hlen.symm
      have hTab : ∀ (ys : List Nat), Valid fn ys → ys.length = fy.length → ∀ (W : World) (q : Option Addr) (k : Nat), Reads W (.slice q (ints ys).length k) (ints ys) → Calls Try.prog 52 #[.agg #[.int .i64 (fn : Int), .slice q (ints ys).length k]] W fun e w' => ∃ g c, e = .returned (.slice (some ⟨g, 0, none⟩) (ints fy).length c) ∧ TabAt w' g (ints fy).length fn (fun i j => bitN (nthN ys i) j) ∧ Below W.heap.size W w' := by
        intro ys yv hy W q k r
        simp only [ints_len] at r ⊢
        obtain ⟨b2, o2, rfl, v2⟩ := vat_of_reads r yv
        have l1 := yv.l1
        have n1 := yv.n1
        have := Table_any fn b2 o2 k ys W (by omega) (by omega) v2.at' v2.lt yv.lt'
        rwa [← hy]
      have hTF := hTab fy fv rfl
      have hTM := hTab my mv hlen.symm
      have hl2 : decide ((fn : Int) = (fn : Int) ∧ (ints fy).length = (ints my).length) = true := by simp [ints_len, hlen]
      by_cases h30 : e3 = 0
      · subst h30
        have hg0 : checkE gh gx = 0 := by
          by_cases h : checkE gh gx = 0
          · exact h
          · rw [if_neg h] at hrel; exact hrel.symm
        obtain ⟨gn, gy, rfl, rfl, gv⟩ := valid_of_check hg0
        have hL : ∀ (W : World) (q1 : Option Addr) (k1 : Nat) (q2 : Option Addr) (k2 : Nat) (q3 : Option Addr) (k3 : Nat), Reads W (.slice q1 (ints gy).length k1) (ints gy) → Reads W (.slice q2 (ints fy).length k2) (ints fy) → Reads W (.slice q3 (ints my).length k3) (ints my) → Calls Try.prog 55 #[.agg #[.int .i64 (gn : Int), .slice q1 (ints gy).length k1], .agg #[.int .i64 (fn : Int), .slice q2 (ints fy).length k2], .agg #[.int .i64 (fn : Int), .slice q3 (ints my).length k3]] W (OkD fn (painted (layG gy gn fy my) fy.length fn) W) := by
          intro W q1 k1 q2 k2 q3 k3 r1 r2 r3
          simp only [ints_len] at r1 r2 r3 ⊢
          obtain ⟨b1, o1, rfl, v1⟩ := vat_of_reads r1 gv
          obtain ⟨b2, o2, rfl, v2⟩ := vat_of_reads r2 fv
          obtain ⟨b3, o3, rfl, v3⟩ := vat_of_reads r3 mv
          exact Lay_ok gn b1 o1 k1 fn b2 o2 k2 b3 o3 k3 gy fy my W v1 v2 v3 hlen.symm
        have hR : ∀ (W : World) (q1 : Option Addr) (k1 : Nat) (q2 : Option Addr) (k2 : Nat) (q3 : Option Addr) (k3 : Nat), Reads W (.slice q1 (ints gy).length k1) (ints gy) → Reads W (.slice q2 (ints fy).length k2) (ints fy) → Reads W (.slice q3 (ints my).length k3) (ints my) → Calls Try.prog 58 #[.agg #[.int .i64 (gn : Int), .slice q1 (ints gy).length k1], .agg #[.int .i64 (fn : Int), .slice q2 (ints fy).length k2], .agg #[.int .i64 (fn : Int), .slice q3 (ints my).length k3]] W (CopyN (fn : Int) (ints (painted (layG gy gn fy my) fy.length fn)) W) := by
          intro W q1 k1 q2 k2 q3 k3 r1 r2 r3
          simp only [ints_len] at r1 r2 r3 ⊢
          obtain ⟨b1, o1, rfl, v1⟩ := vat_of_reads r1 gv
          obtain ⟨b2, o2, rfl, v2⟩ := vat_of_reads r2 fv
          obtain ⟨b3, o3, rfl, v3⟩ := vat_of_reads r3 mv
          exact refLay_any gn b1 o1 k1 fn b2 o2 k2 b3 o3 k3 gy fy my W v1 v2 v3 hlen.symm
        refine PointLays_A _ _ _ gp fp mp gc fc mc _ _ _ w fn (painted (layG gy gn fy my) fy.length fn) fn (fun i j => bitN (nthN fy i) j) (fun i j => bitN (nthN my i) j) fv.n1 ?_ lg lf lm hrg hrf hrm he3 he2 hL hD hl2 ?_ hR hTF hTM
        · rw [ints_len]; exact fv.l1
        · have := fv.l1
          rw [painted_len]; omega
      · refine PointLays_B _ _ _ gp fp mp gc fc mc _ _ _ e3 h30 w fn (fun i j => bitN (nthN fy i) j) (fun i j => bitN (nthN my i) j) fv.n1 ?_ lg lf lm hrg hrf hrm he3 he2 (hLe h30) hD hl2 hTF hTM
        rw [ints_len]; exact fv.l1
    · have hD : ∀ (W : World) (q2 : Option Addr) (k2 : Nat) (q3 : Option Addr) (k3 : Nat), Reads W (.slice q2 (ints fy).length k2) (ints fy) → Reads W (.slice q3 (ints my).length k3) (ints my) → Calls Try.prog 56 #[.agg #[.int .i64 (fn : Int), .slice q2 (ints fy).length k2], .agg #[.int .i64 (mn : Int), .slice q3 (ints my).length k3]] W (ErrF 4 W) := by
        intro W q2 k2 q3 k3 r2 r3
        simp only [ints_len] at r2 r3 ⊢
        obtain ⟨b2, o2, rfl, v2⟩ := vat_of_reads r2 fv
        obtain ⟨b3, o3, rfl, v3⟩ := vat_of_reads r3 mv
        exact Differ_form fn mn b2 o2 k2 b3 o3 k3 fy my W v2 v3 hlk
      have hl2 : decide ((fn : Int) = (mn : Int) ∧ (ints fy).length = (ints my).length) = false := by
        rw [decide_eq_false_iff_not, ints_len, ints_len]
        exact fun h => hlk ⟨by omega, h.2⟩
      by_cases h30 : e3 = 0
      · subst h30
        have hg0 : checkE gh gx = 0 := by
          by_cases h : checkE gh gx = 0
          · exact h
          · rw [if_neg h] at hrel; exact hrel.symm
        obtain ⟨gn, gy, rfl, rfl, gv⟩ := valid_of_check hg0
        refine PointLays_c2a _ _ _ gp fp mp gc fc mc _ _ _ w lg lf lm hrg hrf hrm he3 he2 ?_ hD hl2
        intro W q1 k1 q2 k2 q3 k3 r1 r2 r3
        simp only [ints_len] at r1 r2 r3 ⊢
        obtain ⟨b1, o1, rfl, v1⟩ := vat_of_reads r1 gv
        obtain ⟨b2, o2, rfl, v2⟩ := vat_of_reads r2 fv
        obtain ⟨b3, o3, rfl, v3⟩ := vat_of_reads r3 mv
        exact Lay_form gn b1 o1 k1 fn b2 o2 k2 mn b3 o3 k3 gy fy my W v1 v2 v3 hlk
      · exact PointLays_c2b _ _ _ gp fp mp gc fc mc _ _ _ e3 h30 w lg lf lm hrg hrf hrm he3 he2 (hLe h30) hD hl2
  · have h30 : e3 ≠ 0 := by
      rw [hrel]
      split
      · exact h20
      · assumption
    exact PointLays_c1 gh fh mh gp fp mp gc fc mc gx fx mx e3 h30 e2 h20 w lg lf lm hrg hrf hrm he3 he2 (hLe h30) (fun W q2 k2 q3 k3 r2 r3 => Differ_err ⟨fh, q2, k2, fx⟩ ⟨mh, q3, k3, mx⟩ W r2 r3 e2 he2 h20)
end Go.Proofs.Ytjobbleabepaiaa
