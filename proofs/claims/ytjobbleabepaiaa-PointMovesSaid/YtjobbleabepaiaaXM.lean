/- PointMoves: the walk. -/
import Derived.Test.YtjobbleabepaiaaXL
namespace Go.Proofs.Ytjobbleabepaiaa
open Go.RowKit

set_option maxRecDepth 100000 in
set_option maxHeartbeats 4000000 in
theorem PointMoves_large (h : Int) (p : Option Addr) (l c : Nat) (P Q : Int) (w : World) (hlg : 70 < l) :
    Calls Try.prog 6 #[.agg #[.int .i64 h, .slice p l c], .int .i64 P, .int .i64 Q] w fun e w' => e = .returned (.bool true) ∧ Below w.heap.size w w' := by
  have hd : decide (70 < l) = true := by simpa using hlg
  have Hlg := fun W h1 => large_len p l c (w.heap.size + 1) W h1
  rw [hd] at Hlg
  have HL := Lib.hid Hlg
  clear hd hlg Hlg
  go_enter Try.func6, Try.ntmps6
  go_wp2_with fail
  refine (HL.out _ ?_).mono ?_
  · have := (ArgBox.new (w.alloc (.cells #[.int .i64 h, .slice p l c] 24)) h p l c).c1
    rw [World.size_alloc] at this
    exact this
  rintro e w1 ⟨rfl, rfl⟩
  go_wp2_with fail
  refine (known_any _).mono ?_
  rintro e w2 ⟨rfl, hb2⟩
  go_wp2_with fail
  go_ret
  exact ⟨rfl, (((Below.refl _ _).alloc (Nat.le_refl _) _).alloc (by simp) _).trans (hb2.mono (by simp; omega))⟩

/-- what a law's call owes of a design that has an error -/
def OwesErr (f : FuncId) (r : Int) (args : Array Value) (W : World) : Prop := Calls Try.prog f args W (ErrD r W)

set_option maxRecDepth 100000 in
set_option maxHeartbeats 4000000 in
theorem PointMoves_bad (h : Int) (p : Option Addr) (c : Nat) (xs : List Int) (P Q : Int) (w : World) (hlg : xs.length ≤ 70) (hck : checkE h xs ≠ 0) (hr : Reads w (.slice p xs.length c) xs) :
    Calls Try.prog 6 #[.agg #[.int .i64 h, .slice p xs.length c], .int .i64 P, .int .i64 Q] w fun e w' => e = .returned (.bool true) ∧ Below w.heap.size w w' := by
  have hd : decide (70 < xs.length) = false := by simp; omega
  have Hlg := fun W h1 => large_len p xs.length c (w.heap.size + 1) W h1
  rw [hd] at Hlg
  have HL := Lib.hid Hlg
  have HR := Lib.hid hr
  have HCK := Lib.hid hck
  clear hd Hlg hr hck
  go_enter Try.func6, Try.ntmps6
  go_wp2_with fail
  refine (HL.out _ ?_).mono ?_
  · have := (ArgBox.new (w.alloc (.cells #[.int .i64 h, .slice p xs.length c] 24)) h p xs.length c).c1
    rw [World.size_alloc] at this
    exact this
  rintro e w1 ⟨rfl, rfl⟩
  obtain ⟨W1, hW1⟩ : ∃ W1, (w.alloc (.cells #[.int .i64 h, .slice p xs.length c] 24)).alloc (.cells #[.int .i64 h, .slice p xs.length c] 24) = W1 := ⟨_, rfl⟩
  have hA1 : ArgBox W1 w.heap.size h p xs.length c := by rw [← hW1]; exact (ArgBox.new w h p xs.length c).below (below1 _ _)
  have hb1 : Below w.heap.size w W1 := by rw [← hW1]; exact below2 w _ _
  have HR1 := Lib.hid (HR.out.below hb1)
  rw [hW1]
  have a0 := hA1.c0
  have a1 := hA1.c1
  have HA1 := Lib.hid hA1
  have HB1 := Lib.hid hb1
  clear hW1 hA1 hb1 HL
  go_wp2_with fail
  refine (own_any h p c xs _ (by omega) HR1.out).mono ?_
  rintro e w2 ⟨p2, c2, rfl, hr2, hb2⟩
  have HR2 := Lib.hid hr2
  have HB2 := Lib.hid hb2
  have hA2 := HA1.out.below hb2
  have b0 := hA2.c0
  have b1 := hA2.c1
  have hz2 := hA2.lt
  have HA2 := Lib.hid hA2
  clear hr2 hb2 hA2 a0 a1
  go_wp2_with fail
  have hS : LS w w2.heap.size h p p2 c c2 xs.length xs (w2.alloc (.cells #[.int .i64 h, .slice p2 xs.length c2] 24)) :=
    ⟨HA2.out.below (below1 _ _), ArgBox.new _ _ _ _ _, (HR1.out.below HB2.out).below (below1 _ _), HR2.out.below (below1 _ _), (HB1.out.trans (HB2.out.mono HB1.out.size)).trans ((below1 w2 _).mono (by have := HB1.out.size; have := HB2.out.size; omega))⟩
  obtain ⟨W2, hW2⟩ : ∃ W2, w2.alloc (.cells #[.int .i64 h, .slice p2 xs.length c2] 24) = W2 := ⟨_, rfl⟩
  rw [hW2] at hS ⊢
  have HS := Lib.hid hS.boxes
  clear hW2 hS HR2 HB2 HA2 HA1 HB1 HR1 HR b0 b1 hz2
  have hck := HCK.out
  have hnz : (checkE h xs != 0) = true := by simpa using hck
  have HM := Lib.hid (fun W (hr : Reads W (.slice p2 xs.length c2) xs) => Mirror_err h p2 c2 xs W hr _ rfl HCK.out)
  have HF := Lib.hid (fun W (hr : Reads W (.slice p2 xs.length c2) xs) => Flip_err h p2 c2 xs W hr _ rfl HCK.out)
  have HK := Lib.hid (fun W (hr : Reads W (.slice p2 xs.length c2) xs) => Back_err h p2 c2 xs W hr _ rfl HCK.out)
  have HT := Lib.hid (fun W (hr : Reads W (.slice p2 xs.length c2) xs) => Shift_err h p2 c2 xs P Q W hr _ rfl HCK.out)
  have HRC := Lib.hid (fun W hr => refCheck_any h (.slice p xs.length c) xs W hr)
  obtain ⟨ce, hce⟩ : ∃ ce, checkE h xs = ce := ⟨_, rfl⟩
  rw [hce] at HM HF HK HT HRC hnz
  clear hce hck HCK
  refine (HM.out _ (HS.out.all ⟨w2.heap.size, h, p2, xs.length, c2, xs⟩ (by simp)).r).mono ?_
  rintro e w3 ⟨rfl, hb⟩
  have hS3 := HS.out.next hb
  have a1 := (hS3.all ⟨w2.heap.size, h, p2, xs.length, c2, xs⟩ (by simp)).a
  have a1x := a1.c0
  have a1y := a1.c1
  have a1l := a1.lt
  clear a1
  have HS3 := Lib.hid (hS3.push 0 none 0 0 [] (reads_nil _ _ _))
  clear hS3 hb HS  
  go_wp2_with fail
  refine (HF.out _ (HS3.out.all ⟨w2.heap.size, h, p2, xs.length, c2, xs⟩ (by simp)).r).mono ?_
  rintro e w4 ⟨rfl, hb⟩
  have hS4 := HS3.out.next hb
  have a2 := (hS4.all ⟨w2.heap.size, h, p2, xs.length, c2, xs⟩ (by simp)).a
  have a2x := a2.c0
  have a2y := a2.c1
  have a2l := a2.lt
  clear a2
  have HS4 := Lib.hid (hS4.push 0 none 0 0 [] (reads_nil _ _ _))
  clear hS4 hb HS3 a1x a1y a1l 
  go_wp2_with fail
  refine (HK.out _ (HS4.out.all ⟨w2.heap.size, h, p2, xs.length, c2, xs⟩ (by simp)).r).mono ?_
  rintro e w5 ⟨rfl, hb⟩
  have hS5 := HS4.out.next hb
  have a3 := (hS5.all ⟨w2.heap.size, h, p2, xs.length, c2, xs⟩ (by simp)).a
  have a3x := a3.c0
  have a3y := a3.c1
  have a3l := a3.lt
  clear a3
  have HS5 := Lib.hid (hS5.push 0 none 0 0 [] (reads_nil _ _ _))
  clear hS5 hb HS4 a2x a2y a2l 
  go_wp2_with fail
  refine (HT.out _ (HS5.out.all ⟨w2.heap.size, h, p2, xs.length, c2, xs⟩ (by simp)).r).mono ?_
  rintro e w6 ⟨rfl, hb⟩
  have hS6 := HS5.out.next hb
  have a4 := (hS6.all ⟨w.heap.size, h, p, xs.length, c, xs⟩ (by simp)).a
  have a4x := a4.c0
  have a4y := a4.c1
  have a4l := a4.lt
  clear a4
  have HS6 := Lib.hid (hS6.push 0 none 0 0 [] (reads_nil _ _ _))
  clear hS6 hb HS5 a3x a3y a3l 
  go_wp2_with fail
  refine (HRC.out _ (HS6.out.all ⟨w.heap.size, h, p, xs.length, c, xs⟩ (by simp)).r).mono ?_
  rintro e w7 ⟨rfl, hb⟩
  have hS7 := HS6.out.next hb
  have a5 := (hS7.all ⟨w2.heap.size, h, p2, xs.length, c2, xs⟩ (by simp)).a
  have a5x := a5.c0
  have a5y := a5.c1
  have a5l := a5.lt
  clear a5
  have a6 := (hS7.all ⟨w.heap.size, h, p, xs.length, c, xs⟩ (by simp)).a
  have a6x := a6.c0
  have a6y := a6.c1
  have a6l := a6.lt
  clear a6
  have HS7 := Lib.hid hS7
  clear hS7 hb HS6 a4x a4y a4l 
  go_wp2_with fail
  have Hsm := Same_any h h p2 p c2 c xs xs _ (HS7.out.all ⟨w2.heap.size, h, p2, xs.length, c2, xs⟩ (by simp)).r (HS7.out.all ⟨w.heap.size, h, p, xs.length, c, xs⟩ (by simp)).r
  rw [show decide (h = h ∧ xs = xs) = true by simp] at Hsm
  have HSM := Lib.hid Hsm
  clear Hsm
  refine (HSM.out).mono ?_
  rintro e w8 ⟨rfl, hb⟩
  have hS8 := HS7.out.next hb
  have a7 := (hS8.all ⟨w3.heap.size, 0, none, 0, 0, []⟩ (by simp)).a
  have a7x := a7.c0
  have a7y := a7.c1
  have a7l := a7.lt
  clear a7
  have HS8 := Lib.hid hS8
  clear hS8 hb HS7 a5x a5y a5l a6x a6y a6l HSM
  go_wp2_with fail
  refine (none_any none 0 _).mono ?_
  rintro e w9 ⟨rfl, hb⟩
  have hS9 := HS8.out.next hb
  have a8 := (hS9.all ⟨w4.heap.size, 0, none, 0, 0, []⟩ (by simp)).a
  have a8x := a8.c0
  have a8y := a8.c1
  have a8l := a8.lt
  clear a8
  have HS9 := Lib.hid hS9
  clear hS9 hb HS8 a7x a7y a7l 
  go_wp2_with fail
  refine (none_any none 0 _).mono ?_
  rintro e w10 ⟨rfl, hb⟩
  have hS10 := HS9.out.next hb
  have a9 := (hS10.all ⟨w5.heap.size, 0, none, 0, 0, []⟩ (by simp)).a
  have a9x := a9.c0
  have a9y := a9.c1
  have a9l := a9.lt
  clear a9
  have HS10 := Lib.hid hS10
  clear hS10 hb HS9 a8x a8y a8l 
  go_wp2_with fail
  refine (none_any none 0 _).mono ?_
  rintro e w11 ⟨rfl, hb⟩
  have hS11 := HS10.out.next hb
  have a10 := (hS11.all ⟨w6.heap.size, 0, none, 0, 0, []⟩ (by simp)).a
  have a10x := a10.c0
  have a10y := a10.c1
  have a10l := a10.lt
  clear a10
  have HS11 := Lib.hid hS11
  clear hS11 hb HS10 a9x a9y a9l 
  go_wp2_with fail
  refine (none_any none 0 _).mono ?_
  rintro e w12 ⟨rfl, hb⟩
  have hS12 := HS11.out.next hb
  have HS12 := Lib.hid hS12
  clear hS12 hb HS11 a10x a10y a10l 
  go_wp2_with fail
  refine (known_any _).mono ?_
  rintro e wz ⟨rfl, hb⟩
  go_wp2_with fail
  go_ret
  exact ⟨rfl, (HS12.out.next hb).below⟩
end Go.Proofs.Ytjobbleabepaiaa
