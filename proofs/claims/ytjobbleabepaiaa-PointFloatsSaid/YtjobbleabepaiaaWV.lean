/- Lay. -/
import Derived.Test.YtjobbleabepaiaaWU
namespace Go.Proofs.Ytjobbleabepaiaa
open Go.RowKit Go.Shelf

/-- the point of a figure that lies on a ground -/
def layG (gx : List Nat) (gn : Nat) (fx mx : List Nat) (i j : Nat) : Bool := if bitN (nthN mx i) j then bitN (nthN fx i) j else bitN (nthN gx (i % gx.length)) (j % gn)
set_option maxRecDepth 100000 in
set_option maxHeartbeats 1000000 in
theorem lay1_any (gn gb go gc fn fb fo fc mb mo mc Bg Bf Bm : Nat) (gx fx mx : List Nat) (i j : Nat) (w : World) (hg : VAt w gb go gc gn gx) (hf : VAt w fb fo fc fn fx) (hm : VAt w mb mo mc fn mx)
    (dg : DBox w Bg gn gb go gc gx) (df : DBox w Bf fn fb fo fc fx) (dm : DBox w Bm fn mb mo mc mx) (hlen : mx.length = fx.length) (hi : i < fx.length) (hj : j < fn) :
    Calls Try.prog 97 #[.int .i64 (i : Int), .int .i64 (j : Int), .pointer (some ⟨Bm, 0, none⟩), .pointer (some ⟨Bf, 0, none⟩), .pointer (some ⟨Bg, 0, none⟩)] w
      fun e w' => e = .returned (.bool (layG gx gn fx mx i j)) ∧ Below w.heap.size w w' := by
  have m0 := dm.c0
  have m1 := dm.c1
  have f1' := hf.ok.n1
  have f1 := hf.ok.l1
  have g1 := hg.ok.l1
  have g0 := hg.ok.l0
  have gn0 := hg.ok.n0
  have gn1 := hg.ok.n1
  have HLm := fun W (h : Below w.heap.size w W) => paperLifted_any fn mb mo mc mx i j W (hm.below h).lt (by omega) (hm.below h).at' (by omega) (by have := hm.ok.lt' i; omega) (by omega)
  cases hbm : bitN (nthN mx i) j with
  | true =>
    have he : layG gx gn fx mx i j = bitN (nthN fx i) j := by unfold layG; rw [hbm]; rfl
    have He := Lib.hid he
    have HM : ∀ W, Below w.heap.size w W → Calls Try.prog 79 #[.agg #[.int .i64 (fn : Int), .slice (some ⟨mb, mo, none⟩) mx.length mc], .int .i64 (i : Int), .int .i64 (j : Int)] W fun e w' => e = .returned (.bool true) ∧ Below W.heap.size W w' := fun W h => by have := HLm W h; rwa [hbm] at this
    have HLf := fun W (h : Below w.heap.size w W) => paperLifted_any fn fb fo fc fx i j W (hf.below h).lt (by omega) (hf.below h).at' (by omega) (by have := hf.ok.lt' i; omega) (by omega)
    have Hdf := Lib.hid df
    clear he hbm HLm hg hf hm dg df dm hlen
    go_enter Try.func97, Try.ntmps97
    go_wp2_with fail
    refine (HM _ (Below.refl _ _)).mono ?_
    rintro e w1 ⟨rfl, hb1⟩
    have d1 := (Hdf.out.below hb1 Hdf.out.lt).c0
    have d2 := (Hdf.out.below hb1 Hdf.out.lt).c1
    have Hb1 := Lib.hid hb1
    clear hb1
    go_wp2_with fail
    refine (HLf _ Hb1.out).mono ?_
    rintro e w2 ⟨rfl, hb2⟩
    go_wp2_with fail
    go_ret
    exact ⟨ret_bool (by rw [He.out]), Hb1.out.trans (hb2.mono Hb1.out.size)⟩
  | false =>
    have he : layG gx gn fx mx i j = bitN (nthN gx (i % gx.length)) (j % gn) := by unfold layG; rw [hbm]; rfl
    have He := Lib.hid he
    have HM : ∀ W, Below w.heap.size w W → Calls Try.prog 79 #[.agg #[.int .i64 (fn : Int), .slice (some ⟨mb, mo, none⟩) mx.length mc], .int .i64 (i : Int), .int .i64 (j : Int)] W fun e w' => e = .returned (.bool false) ∧ Below W.heap.size W w' := fun W h => by have := HLm W h; rwa [hbm] at this
    obtain ⟨a1, a2⟩ := tmod_bd (i : Int) gx.length (by omega) (by omega)
    obtain ⟨b1, b2⟩ := tmod_bd (j : Int) gn (by omega) (by omega)
    have b3 : (j : Int).tmod gn < 64 := by omega
    have HV := Lib.hid hg
    have HL := fun W (hb : gb < W.heap.size) (hx : NatsAt W gb go gx) z y => paperLifted_int gn gb go gc gx z y W hb (by omega) hx
    have Hdg := Lib.hid dg
    clear he hbm HLm hg hf hm dg df dm hlen
    have hs0 : ¬ gx.length = 0 := by omega
    have hs1 : ¬ gn = 0 := by omega
    go_enter Try.func97, Try.ntmps97
    go_wp2_with fail
    refine (HM _ (Below.refl _ _)).mono ?_
    rintro e w1 ⟨rfl, hb1⟩
    have d1 := (Hdg.out.below hb1 Hdg.out.lt).c0
    have d2 := (Hdg.out.below hb1 Hdg.out.lt).c1
    have HVd := Lib.hid ((HV.out.below hb1).below (below_drew1 w1))
    have HDd : Hid (DBox w1.drew Bg gn gb go gc gx) := Lib.hid ⟨d1, d2⟩
    have Hb1 := Lib.hid hb1
    clear hb1
    go_wp2_with fail
    go_region_held3 (fun w' => w'.cell? ⟨Bg, 0, none⟩ = some (.int .i64 (gn : Int)) ∧ w'.cell? ⟨Bg, 1, none⟩ = some (.slice (some ⟨gb, go, none⟩) gx.length gc))
      (first | exact ⟨d1, d2⟩ | (have hD2 := HDd.out.below (by assumption) HDd.out.lt; exact ⟨hD2.c0, hD2.c1⟩))
      (first
        | (go_at_call 79; refine (HL _ HVd.out.lt HVd.out.at' _ _ ?_ ?_ HVd.out.ok.lt' ?_ ?_).mono ?_; rotate_left 4; rintro e w' ⟨rfl, hb2⟩; rotate_left 1; (first | assumption | omega); (first | assumption | omega); (first | assumption | omega); (first | assumption | omega)))
    all_goals go_wp2
    all_goals go_ret
    all_goals exact ⟨ret_bool (by rw [He.out, tmod_nat, tmod_nat]), Hb1.out.drew.trans (hb2.mono Hb1.out.drew.size)⟩
end Go.Proofs.Ytjobbleabepaiaa
