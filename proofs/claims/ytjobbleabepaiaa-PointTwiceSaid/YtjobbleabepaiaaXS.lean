/- PointTwice: the walk. -/
import Derived.Test.YtjobbleabepaiaaXSb
import Derived.Deep.RegionHeld3
import Derived.Deep.DeepCutAuto
namespace Go.Proofs.Ytjobbleabepaiaa
open Go.RowKit Go.Shelf

/-- what lies in the boxes when PointTwice has its design -/
theorem twice_boxes (w : World) (hk l c B0 B1 A0 A1 : Nat) (p : Option Addr) (us : List Nat) (hk2 : hk < 256) (hu : U16At w (.slice p l c) us) :
    ∃ n : Nat, ∃ W1, ((w.alloc (.cells #[.int .u8 (hk : Int), .slice p l c] 81)).alloc (.cells #[.int .u8 (B0 : Int), .int .u8 (B1 : Int)] 92)).alloc (.cells #[.int .u8 (A0 : Int), .int .u8 (A1 : Int)] 92) = W1 ∧
      Calls Try.prog 59 #[.agg #[.int .u8 (hk : Int), .slice p l c], .int .i64 24] W1 fun e w' => ∃ b off cd ys P Q p1 h1 ms fs ks ts P2 Q2 A, e = .returned (.agg #[.int .i64 (n : Int), .slice (some ⟨b, off, none⟩) ys.length cd]) ∧
        Hid (Boxes w [⟨w'.heap.size, n, some ⟨b, off, none⟩, ys.length, cd, ints ys⟩] (w'.alloc (.cells #[.int .i64 (n : Int), .slice (some ⟨b, off, none⟩) ys.length cd] 24))) ∧
        Hid (Places2 n ys.length B0 B1 A0 A1 P Q p1 h1) ∧ Hid (TwF n ys ms fs ks ts P Q P2 Q2 p1 h1 A) ∧ (1 ≤ ys.length ∧ ys.length ≤ 60 ∧ 1 ≤ n ∧ n ≤ 24) ∧ (P < ys.length ∧ Q < n ∧ p1 < ys.length ∧ h1 < n) ∧
        (w.heap.size + 1 + 1 < w'.heap.size ∧ w.heap.size + 1 < w'.heap.size) ∧
        (w'.cell? ⟨w.heap.size + 1, 0, none⟩ = some (.int .u8 (B0 : Int)) ∧ w'.cell? ⟨w.heap.size + 1, 1, none⟩ = some (.int .u8 (B1 : Int)) ∧ w'.cell? ⟨w.heap.size + 1 + 1, 0, none⟩ = some (.int .u8 (A0 : Int)) ∧ w'.cell? ⟨w.heap.size + 1 + 1, 1, none⟩ = some (.int .u8 (A1 : Int))) := by
  refine ⟨paperN hk 24, _, rfl, ?_⟩
  obtain ⟨W1, hW1⟩ : ∃ W1, ((w.alloc (.cells #[.int .u8 (hk : Int), .slice p l c] 81)).alloc (.cells #[.int .u8 (B0 : Int), .int .u8 (B1 : Int)] 92)).alloc (.cells #[.int .u8 (A0 : Int), .int .u8 (A1 : Int)] 92) = W1 := ⟨_, rfl⟩
  have hB1 : Below w.heap.size w W1 := by rw [← hW1]; exact (below2 w _ _).trans ((below1 _ _).mono (by simp; omega))
  have hcs : W1.cell? ⟨w.heap.size + 1, 0, none⟩ = some (.int .u8 (B0 : Int)) ∧ W1.cell? ⟨w.heap.size + 1, 1, none⟩ = some (.int .u8 (B1 : Int)) ∧ W1.cell? ⟨w.heap.size + 1 + 1, 0, none⟩ = some (.int .u8 (A0 : Int)) ∧ W1.cell? ⟨w.heap.size + 1 + 1, 1, none⟩ = some (.int .u8 (A1 : Int)) := by
    rw [← hW1]
    have e : ∀ j, ((((w.alloc (.cells #[.int .u8 (hk : Int), .slice p l c] 81)).alloc (.cells #[.int .u8 (B0 : Int), .int .u8 (B1 : Int)] 92)).alloc (.cells #[.int .u8 (A0 : Int), .int .u8 (A1 : Int)] 92))).cell? ⟨w.heap.size + 1, j, none⟩ = ((w.alloc (.cells #[.int .u8 (hk : Int), .slice p l c] 81)).alloc (.cells #[.int .u8 (B0 : Int), .int .u8 (B1 : Int)] 92)).cell? ⟨w.heap.size + 1, j, none⟩ := fun j => (below1 _ _).cell (p := ⟨w.heap.size + 1, j, none⟩) (by simp)
    rw [e, e]
    have f1 := two_cells (w.alloc (.cells #[.int .u8 (hk : Int), .slice p l c] 81)) (.int .u8 (B0 : Int)) (.int .u8 (B1 : Int)) 92
    have f2 := two_cells ((w.alloc (.cells #[.int .u8 (hk : Int), .slice p l c] 81)).alloc (.cells #[.int .u8 (B0 : Int), .int .u8 (B1 : Int)] 92)) (.int .u8 (A0 : Int)) (.int .u8 (A1 : Int)) 92
    simp only [World.size_alloc] at f1 f2
    exact ⟨f1.1, f1.2, f2.1, f2.2⟩
  have hz1 : w.heap.size + 1 + 1 < W1.heap.size := by rw [← hW1]; simp
  rw [hW1]
  refine (paperDesign_any hk 24 l c p us W1 (by omega) (by omega) hk2 (hu.below hB1)).mono ?_
  rintro e w2 ⟨b, off, cd, ys, rfl, hl20, hva, hb2⟩
  have hok := hva.ok
  have l0 := hok.l0
  have n0 := hok.n0
  obtain ⟨P, Q, p1, h1, hpl⟩ := Places2.of (paperN hk 24) ys.length B0 B1 A0 A1 (by omega) (by omega)
  obtain ⟨ms, fs, ks, ts, P2, Q2, A, hF⟩ := TwF.of hok hpl.hP hpl.hQ hpl.hp hpl.hh
  have hz2 : w.heap.size + 1 + 1 < w2.heap.size := Nat.lt_of_lt_of_le hz1 hb2.size
  have hS0 : Boxes w [] w2 := ⟨fun x hx => by simp at hx, hB1.trans (hb2.mono hB1.size)⟩
  exact ⟨b, off, cd, ys, P, Q, p1, h1, ms, fs, ks, ts, P2, Q2, A, rfl, hS0.push _ (some ⟨b, off, none⟩) ys.length cd (ints ys) hva.reads, hpl, hF, ⟨l0, hok.l1, n0, hok.n1⟩, ⟨hpl.hP, hpl.hQ, hpl.hp, hpl.hh⟩, ⟨hz2, by omega⟩,
    (hb2.cell (p := ⟨w.heap.size + 1, 0, none⟩) (by simp; omega)).trans hcs.1, (hb2.cell (p := ⟨w.heap.size + 1, 1, none⟩) (by simp; omega)).trans hcs.2.1, (hb2.cell (p := ⟨w.heap.size + 1 + 1, 0, none⟩) (by simp; omega)).trans hcs.2.2.1, (hb2.cell (p := ⟨w.heap.size + 1 + 1, 1, none⟩) (by simp; omega)).trans hcs.2.2.2⟩

set_option maxRecDepth 100000 in
set_option maxHeartbeats 8000000 in
theorem PointTwice_any (hk l c B0 B1 A0 A1 : Nat) (p : Option Addr) (us : List Nat) (w : World) (hk2 : hk < 256) (hb0 : B0 < 256) (hb1 : B1 < 256) (ha0 : A0 < 256) (ha1 : A1 < 256) (hu : U16At w (.slice p l c) us) :
    Calls Try.prog 13 #[.agg #[.int .u8 (hk : Int), .slice p l c], .agg #[.int .u8 (B0 : Int), .int .u8 (B1 : Int)], .agg #[.int .u8 (A0 : Int), .int .u8 (A1 : Int)]] w fun e w' => e = .returned (.bool true) ∧ Below w.heap.size w w' := by
  obtain ⟨n, W1, hW1, hD⟩ := twice_boxes w hk l c B0 B1 A0 A1 p us hk2 hu
  have HW1 := Lib.hid hW1
  have HD := Lib.hid hD
  clear hW1 hD hu
  go_enter Try.func13, Try.ntmps13
  go_wp2_with fail
  rw [HW1.out]
  refine HD.out.mono ?_
  rintro e w2 ⟨b, off, cd, ys, P, Q, p1, h1, ms, fs, ks, ts, P2, Q2, A, rfl, HS, HP, HF, ⟨l0, l1, n0, n1⟩, ⟨hP, hQ, hp1, hh1⟩, ⟨hz2, hz3⟩, q1, q2, q3, q4⟩
  have m1 := HP.out.m1
  have m2 := HP.out.m2
  have m3 := HP.out.m3
  have m4 := HP.out.m4
  have hs0 : ¬ ys.length = 0 := by omega
  have hs1 : ¬ n = 0 := by omega
  clear HD HW1
  go_wp2_with fail
  go_region
  go_wp2_with fail
  go_region
  clear m1 m2 m3 m4 hs0 hs1 q1 q2 q3 q4 hz2 hz3 HP
  obtain ⟨W3, hW3⟩ : ∃ W3, (w2.alloc (.cells #[.int .i64 (n : Int), .slice (some ⟨b, off, none⟩) ys.length cd] 24)).drew.drew = W3 := ⟨_, rfl⟩
  have S0 : Boxes w [⟨w2.heap.size, n, some ⟨b, off, none⟩, ys.length, cd, ints ys⟩] W3 := hW3 ▸ HS.out.drew.drew
  rw [hW3]
  have a0 := S0.get (x := ⟨w2.heap.size, n, some ⟨b, off, none⟩, ys.length, cd, ints ys⟩) (by simp)
  clear hW3 HS
  go_wp2_with fail
  refine (S0.own (B := w2.heap.size) (by simp) HF.out.v).mono ?_
  rintro e w4 ⟨bms, oms, cms, rfl, vms, S4⟩
  clear S0 a0
  go_wp2_with fail
  refine (S4.okd (HF.out.M _ _ _ _ vms) (by have := HF.out.lm; omega)).mono ?_
  rintro e w5 ⟨Rm, rfl, T5, S5⟩
  have a5_0 := T5.get (x := ⟨w2.heap.size, n, some ⟨b, off, none⟩, ys.length, cd, ints ys⟩) (by simp)
  clear S4 T5 vms
  go_wp2_with fail
  refine (S5.own (B := w2.heap.size) (by simp) HF.out.v).mono ?_
  rintro e w6 ⟨bfs, ofs, cfs, rfl, vfs, S6⟩
  clear S5 a5_0
  go_wp2_with fail
  refine (S6.okd (HF.out.F _ _ _ _ vfs) (by have := HF.out.lf; omega)).mono ?_
  rintro e w7 ⟨Rf, rfl, T7, S7⟩
  have a7_0 := T7.get (x := ⟨w2.heap.size, n, some ⟨b, off, none⟩, ys.length, cd, ints ys⟩) (by simp)
  clear S6 T7 vfs
  go_wp2_with fail
  refine (S7.own (B := w2.heap.size) (by simp) HF.out.v).mono ?_
  rintro e w8 ⟨bks, oks, cks, rfl, vks, S8⟩
  clear S7 a7_0
  go_wp2_with fail
  refine (S8.okd (HF.out.K _ _ _ _ vks) (by have := HF.out.lk; omega)).mono ?_
  rintro e w9 ⟨Rk, rfl, T9, S9⟩
  have a9_0 := T9.get (x := ⟨w2.heap.size, n, some ⟨b, off, none⟩, ys.length, cd, ints ys⟩) (by simp)
  clear S8 T9 vks
  go_wp2_with fail
  refine (S9.own (B := w2.heap.size) (by simp) HF.out.v).mono ?_
  rintro e w10 ⟨bts, ots, cts, rfl, vts, S10⟩
  clear S9 a9_0
  go_wp2_with fail
  refine (S10.okd (HF.out.T _ _ _ _ vts) (by have := HF.out.lt; omega)).mono ?_
  rintro e w11 ⟨Rt, rfl, T11, S11⟩
  have a11_0 := T11.get (x := ⟨w2.heap.size, n, some ⟨b, off, none⟩, ys.length, cd, ints ys⟩) (by simp)
  clear S10 T11 vts
  have am := S11.get (x := ⟨w5.heap.size, n, some ⟨Rm, 0, none⟩, ms.length, ms.length, ints ms⟩) (by simp)
  have ad := S11.get (x := ⟨w2.heap.size, n, some ⟨b, off, none⟩, ys.length, cd, ints ys⟩) (by simp)
  go_wp2_with fail
  refine (S11.plain (right_len n Rm 0 ms.length ys.length ms _ (S11.vat (B := w5.heap.size) (by simp) HF.out.vm) HF.out.lm)).mono ?_
  rintro e w12 ⟨rfl, S12⟩
  have a12_0 := S12.get (x := ⟨w7.heap.size, n, some ⟨Rf, 0, none⟩, fs.length, fs.length, ints fs⟩) (by simp)
  have a12_1 := S12.get (x := ⟨w2.heap.size, n, some ⟨b, off, none⟩, ys.length, cd, ints ys⟩) (by simp)
  clear S11 a11_0 am ad
  go_wp2_with fail
  refine (S12.plain (right_len n Rf 0 fs.length ys.length fs _ (S12.vat (B := w7.heap.size) (by simp) HF.out.vf) HF.out.lf)).mono ?_
  rintro e w13 ⟨rfl, S13⟩
  have a13_0 := S13.get (x := ⟨w9.heap.size, n, some ⟨Rk, 0, none⟩, ks.length, ks.length, ints ks⟩) (by simp)
  have a13_1 := S13.get (x := ⟨w2.heap.size, n, some ⟨b, off, none⟩, ys.length, cd, ints ys⟩) (by simp)
  clear S12 a12_0 a12_1
  go_wp2_with fail
  refine (S13.plain (right_len n Rk 0 ks.length ys.length ks _ (S13.vat (B := w9.heap.size) (by simp) HF.out.vk) HF.out.lk)).mono ?_
  rintro e w14 ⟨rfl, S14⟩
  have a14_0 := S14.get (x := ⟨w11.heap.size, n, some ⟨Rt, 0, none⟩, ts.length, ts.length, ints ts⟩) (by simp)
  have a14_1 := S14.get (x := ⟨w2.heap.size, n, some ⟨b, off, none⟩, ys.length, cd, ints ys⟩) (by simp)
  clear S13 a13_0 a13_1
  go_wp2_with fail
  refine (S14.plain (right_len n Rt 0 ts.length ys.length ts _ (S14.vat (B := w11.heap.size) (by simp) HF.out.vt) HF.out.lt)).mono ?_
  rintro e w15 ⟨rfl, S15⟩
  have a15_0 := S15.get (x := ⟨w2.heap.size, n, some ⟨b, off, none⟩, ys.length, cd, ints ys⟩) (by simp)
  clear S14 a14_0 a14_1
  go_wp2_with fail
  refine (S15.plain (HF.out.Ld _ _ _ _ (S15.vat (B := w2.heap.size) (by simp) HF.out.v))).mono ?_
  rintro e w16 ⟨rfl, S16⟩
  have a16_0 := S16.get (x := ⟨w5.heap.size, n, some ⟨Rm, 0, none⟩, ms.length, ms.length, ints ms⟩) (by simp)
  have a16_1 := S16.get (x := ⟨w2.heap.size, n, some ⟨b, off, none⟩, ys.length, cd, ints ys⟩) (by simp)
  clear S15 a15_0
  go_wp2_with fail
  refine (S16.plain (HF.out.Lm _ _ _ _ (S16.vat (B := w5.heap.size) (by simp) HF.out.vm))).mono ?_
  rintro e w17 ⟨rfl, S17⟩
  have a17_0 := S17.get (x := ⟨w7.heap.size, n, some ⟨Rf, 0, none⟩, fs.length, fs.length, ints fs⟩) (by simp)
  clear S16 a16_0 a16_1
  go_wp2_with fail
  refine (S17.plain (HF.out.Lf _ _ _ _ (S17.vat (B := w7.heap.size) (by simp) HF.out.vf))).mono ?_
  rintro e w18 ⟨rfl, S18⟩
  have a18_0 := S18.get (x := ⟨w9.heap.size, n, some ⟨Rk, 0, none⟩, ks.length, ks.length, ints ks⟩) (by simp)
  clear S17 a17_0
  go_wp2_with fail
  have hA2 : ((!A) == A) = false := by cases A <;> rfl
  refine (S18.plain (HF.out.Lk _ _ _ _ (S18.vat (B := w9.heap.size) (by simp) HF.out.vk))).mono ?_
  rintro e w19 ⟨rfl, S19⟩
  have a19_0 := S19.get (x := ⟨w11.heap.size, n, some ⟨Rt, 0, none⟩, ts.length, ts.length, ints ts⟩) (by simp)
  clear S18 a18_0
  go_wp2_with fail
  clear hA2
  refine (S19.plain (HF.out.Ls _ _ _ _ (S19.vat (B := w11.heap.size) (by simp) HF.out.vt))).mono ?_
  rintro e w20 ⟨rfl, S20⟩
  have a20_0 := S20.get (x := ⟨w5.heap.size, n, some ⟨Rm, 0, none⟩, ms.length, ms.length, ints ms⟩) (by simp)
  clear S19 a19_0
  go_wp2_with fail
  refine (S20.okd (HF.out.M2 _ _ _ _ (S20.vat (B := w5.heap.size) (by simp) HF.out.vm)) (by omega)).mono ?_
  rintro e w21 ⟨Rm2, rfl, T21, S21⟩
  have a21_0 := T21.get (x := ⟨w7.heap.size, n, some ⟨Rf, 0, none⟩, fs.length, fs.length, ints fs⟩) (by simp)
  clear S20 T21 a20_0
  go_wp2_with fail
  refine (S21.okd (HF.out.F2 _ _ _ _ (S21.vat (B := w7.heap.size) (by simp) HF.out.vf)) (by omega)).mono ?_
  rintro e w22 ⟨Rf2, rfl, T22, S22⟩
  have a22_0 := T22.get (x := ⟨w9.heap.size, n, some ⟨Rk, 0, none⟩, ks.length, ks.length, ints ks⟩) (by simp)
  clear S21 T22 a21_0
  go_wp2_with fail
  refine (S22.own (B := w9.heap.size) (by simp) HF.out.vk).mono ?_
  rintro e w23 ⟨bk2, ok2, ck2, rfl, vk2, S23⟩
  clear S22 a22_0
  go_wp2_with fail
  refine (S23.okd (HF.out.K2 _ _ _ _ vk2) (by omega)).mono ?_
  rintro e w24 ⟨Rk2, rfl, T24, S24⟩
  clear S23 T24 vk2
  go_wp2_with fail
  obtain ⟨WC, hWC⟩ : ∃ WC, w24.alloc (.cells #[.int .i64 (n : Int), .slice (some ⟨Rk2, 0, none⟩) ys.length ys.length] 24) = WC := ⟨_, rfl⟩
  rw [hWC]
  rw [hWC] at S24
  clear hWC
  go_upto_region 16 with fail
  exact twice_tail w WC n b off cd w2.heap.size w5.heap.size w7.heap.size w9.heap.size w11.heap.size w21.heap.size w22.heap.size w24.heap.size Rm Rf Rk Rt Rm2 Rf2 Rk2 P Q P2 Q2 p1 h1 A ys ms fs ks ts _ _ _ _ _ _ _ _ _ _ _ _ _ _ _ _ _ _ _ _ _ _ _ _ _ _ _ _ _ _ _ _ _ _ _ _ _ _ _ _ _ _ _ _ _ _ _ _ _ _ _ _ _ _ _ _ _ _ _ _ _ _ _ _ _ _ _ _ _ _ _ _ _ _ _ _ _ _ _ _ _ _ _ _ _ _ _ _ _ _ _ _ _ _ _ _ _ _ _ _ _ _ _ _ _ _ _ _ _ _ _ _ _ _ _ _ _ _ _ _ _ _ _ _ _ _ _ _ _ _ _ _ _ _ _ _ _ _ _ _ _ _ _ _ _ _ _ _ _ _ _ _ _ _ _ _ _ _ _ _ _ _ _ _ _ _ _ _ _ _ _ _ _ _ _ _ _ _ (by assumption) HF l0 l1 n0 n1 hP hQ S24
end Go.Proofs.Ytjobbleabepaiaa
