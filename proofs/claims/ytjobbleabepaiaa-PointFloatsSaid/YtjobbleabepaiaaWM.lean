/- shifted, Shift. -/
import Derived.Test.YtjobbleabepaiaaWL
import Derived.Test.YtjobbleabepaiaaWJ
namespace Go.Proofs.Ytjobbleabepaiaa
open Go.RowKit Go.Shelf

theorem paperLifted_int (n : Int) (b off c : Nat) (xs : List Nat) (z y : Int) (w : World) (hb : b < w.heap.size) (hl : xs.length ≤ 1000) (hx : NatsAt w b off xs) (h0 : 0 ≤ z) (hi : z < (xs.length : Int)) (hp : ∀ i, nthN xs i < 16777216) (h2 : 0 ≤ y) (hk : y < 64) :
    Calls Try.prog 79 #[.agg #[.int .i64 n, .slice (some ⟨b, off, none⟩) xs.length c], .int .i64 z, .int .i64 y] w fun e w' => e = .returned (.bool (bitN (nthN xs z.toNat) y.toNat)) ∧ Below w.heap.size w w' := by
  obtain ⟨i, rfl⟩ := Int.eq_ofNat_of_zero_le h0
  obtain ⟨k, rfl⟩ := Int.eq_ofNat_of_zero_le h2
  exact paperLifted_any n b off c xs i k w hb hl hx (by omega) (by have := hp i; omega) (by omega)
/-- a design in a box -/
structure DBox (W : World) (B n b off c : Nat) (xs : List Nat) : Prop where
  c0 : W.cell? ⟨B, 0, none⟩ = some (.int .i64 (n : Int))
  c1 : W.cell? ⟨B, 1, none⟩ = some (.slice (some ⟨b, off, none⟩) xs.length c)
theorem DBox.lt {W : World} {B n b off c : Nat} {xs : List Nat} (h : DBox W B n b off c xs) : B < W.heap.size := World.block_lt_of_cell? W ⟨B, 0, none⟩ h.c0
theorem DBox.below {W W' : World} {k B n b off c : Nat} {xs : List Nat} (h : DBox W B n b off c xs) (hb : Below k W W') (hk : B < k) : DBox W' B n b off c xs :=
  ⟨(hb.cell (p := ⟨B, 0, none⟩) hk).trans h.c0, (hb.cell (p := ⟨B, 1, none⟩) hk).trans h.c1⟩
theorem tmod_bd (x y : Int) (hx : 0 ≤ x) (hy : 0 < y) : 0 ≤ x.tmod y ∧ x.tmod y < y := by
  rw [Int.tmod_eq_emod_of_nonneg hx]; exact ⟨Int.emod_nonneg _ (by omega), Int.emod_lt_of_pos _ hy⟩
theorem tmod_nat (x y : Nat) : ((x : Int).tmod y).toNat = x % y := by
  rw [Int.tmod_eq_emod_of_nonneg (by omega), ← Int.natCast_emod, Int.toNat_natCast]

set_option maxRecDepth 100000 in
set_option maxHeartbeats 2000000 in
theorem shifted1_any (n b off c B0 B1 B2 B3 P H : Nat) (xs : List Nat) (i j : Nat) (w : World) (hv : VAt w b off c n xs) (hD : DBox w B0 n b off c xs) (hr : w.cell? ⟨B3, 0, none⟩ = some (.int .i64 (xs.length : Int)))
    (hp : w.cell? ⟨B1, 0, none⟩ = some (.int .i64 (P : Int))) (hh : w.cell? ⟨B2, 0, none⟩ = some (.int .i64 (H : Int))) (hP : P < xs.length) (hH : H < n) (hi : i < xs.length) (hj : j < n) :
    Calls Try.prog 104 #[.int .i64 (i : Int), .int .i64 (j : Int), .pointer (some ⟨B0, 0, none⟩), .pointer (some ⟨B3, 0, none⟩), .pointer (some ⟨B1, 0, none⟩), .pointer (some ⟨B2, 0, none⟩)] w
      fun e w' => e = .returned (.bool (bitN (nthN xs ((i + xs.length - P) % xs.length)) ((j + n - H) % n))) ∧ Below w.heap.size w w' := by
  have h0 := hD.c0
  have h1 := hD.c1
  have l0 := hv.ok.l0
  have l1 := hv.ok.l1
  have n0 := hv.ok.n0
  have n1 := hv.ok.n1
  obtain ⟨a1, a2⟩ := tmod_bd ((i : Int) + xs.length - P) xs.length (by omega) (by omega)
  obtain ⟨b1, b2⟩ := tmod_bd ((j : Int) + n - H) n (by omega) (by omega)
  have b3 : ((j : Int) + n - H).tmod n < 64 := by omega
  have e1 : (((i : Int) + xs.length - P).tmod xs.length).toNat = (i + xs.length - P) % xs.length := by rw [← tmod_nat]; congr 2; omega
  have e2 : (((j : Int) + n - H).tmod n).toNat = (j + n - H) % n := by rw [← tmod_nat]; congr 2; omega
  have hs0 : ¬ xs.length = 0 := by omega
  have hs1 : ¬ n = 0 := by omega
  have hw1 : IntKind.i64.wrap ((i : Int) + xs.length) = (i : Int) + xs.length := IntWalk.i64_in _ (by omega)
  have hw2 : IntKind.i64.wrap ((i : Int) + xs.length - P) = (i : Int) + xs.length - P := IntWalk.i64_in _ (by omega)
  have hw3 : IntKind.i64.wrap ((j : Int) + n) = (j : Int) + n := IntWalk.i64_in _ (by omega)
  have hw4 : IntKind.i64.wrap ((j : Int) + n - H) = (j : Int) + n - H := IntWalk.i64_in _ (by omega)
  have HV := Lib.hid (hv.below (below_drew1 w))
  have HL := fun W (hb : b < W.heap.size) (hx : NatsAt W b off xs) z y => paperLifted_int n b off c xs z y W hb (by omega) hx
  have He1 := Lib.hid e1
  have He2 := Lib.hid e2
  clear hv hD e1 e2
  go_enter Try.func104, Try.ntmps104
  go_wp2
  go_region_held3 (fun w' => w'.cell? ⟨B0, 0, none⟩ = some (.int .i64 (n : Int)) ∧ w'.cell? ⟨B0, 1, none⟩ = some (.slice (some ⟨b, off, none⟩) xs.length c) ∧ w'.cell? ⟨B3, 0, none⟩ = some (.int .i64 (xs.length : Int)) ∧ w'.cell? ⟨B1, 0, none⟩ = some (.int .i64 (P : Int)) ∧ w'.cell? ⟨B2, 0, none⟩ = some (.int .i64 (H : Int)))
    (first | exact ⟨h0, h1, hr, hp, hh⟩ | (have hb := ‹Below _ _ _›; exact ⟨(hb.cell (p := ⟨B0, 0, none⟩) (World.block_lt_of_cell? w ⟨B0, 0, none⟩ h0)).trans h0, (hb.cell (p := ⟨B0, 1, none⟩) (World.block_lt_of_cell? w ⟨B0, 1, none⟩ h1)).trans h1, (hb.cell (p := ⟨B3, 0, none⟩) (World.block_lt_of_cell? w ⟨B3, 0, none⟩ hr)).trans hr, (hb.cell (p := ⟨B1, 0, none⟩) (World.block_lt_of_cell? w ⟨B1, 0, none⟩ hp)).trans hp, (hb.cell (p := ⟨B2, 0, none⟩) (World.block_lt_of_cell? w ⟨B2, 0, none⟩ hh)).trans hh⟩))
    (first
      | (go_at_call 79; refine (HL _ HV.out.lt HV.out.at' _ _ ?_ ?_ HV.out.ok.lt' ?_ ?_).mono ?_; rotate_left 4; rintro e w' ⟨rfl, hb1⟩; rotate_left 1; (first | assumption | omega); (first | assumption | omega); (first | assumption | omega); (first | assumption | omega)))
  all_goals go_wp2
  all_goals go_ret
  all_goals exact ⟨ret_bool (by rw [He1.out, He2.out]), (below_drew1 _).trans hb1⟩
end Go.Proofs.Ytjobbleabepaiaa
