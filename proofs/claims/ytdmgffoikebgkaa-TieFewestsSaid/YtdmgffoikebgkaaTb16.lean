/- known of chapter 3: always true. -/
import Derived.Test.YtdmgffoikebgkaaTb15
import Derived.Deep.DeepCutAuto
import Derived.Deep.QuietTactic
import Derived.BigQuiet
import Derived.Test.YtdmgffoikebgkaaTb10
import Derived.Test.YtdmgffoikebgkaaTb13
import Derived.Test.YtdmgffoikebgkaaTb12
import Derived.Test.YtdmgffoikebgkaaTb09
import Derived.DeepKeys4
namespace Go.Proofs.Ytdmgffoikebgkaa
open Go.RowKit Go.Shelf
attribute [local go_sem] Oper.semAt_some

set_option maxRecDepth 100000 in
set_option maxHeartbeats 8000000 in
theorem tieKnown (w : World) : Calls Try.prog 23 #[] w fun e w' => e = .returned (.bool true) ∧ Below w.heap.size w w' := by
  go_enter Try.func23, Try.ntmps23
  go_wp2_with fail
  refine (call72 0 3 2 1 _).mono ?_
  rintro e W1 ⟨rfl, hb1⟩
  have hb12 : Below W1.heap.size W1 (W1.alloc (.cells #[.int .i64 0, .int .i64 3, .int .i64 2, .int .i64 1] 32)) := (Below.refl _ _).alloc (Nat.le_refl _) _
  have H24 : Calls Try.prog 24 #[.int .i64 4, .slice (some ⟨W1.heap.size, 0, none⟩) 1 1] (W1.alloc (.cells #[.int .i64 0, .int .i64 3, .int .i64 2, .int .i64 1] 32)) fun e w' =>
      ∃ g' cap, e = .returned (.tuple #[.agg #[.int .i64 4, .slice (some ⟨g', 0, none⟩) 6 cap], .int .i64 0, .int .i64 0]) ∧ NatsAt w' g' 0 exHs ∧ (W1.alloc (.cells #[.int .i64 0, .int .i64 3, .int .i64 2, .int .i64 1] 32)).heap.size ≤ g' ∧ g' < w'.heap.size ∧ Below (W1.alloc (.cells #[.int .i64 0, .int .i64 3, .int .i64 2, .int .i64 1] 32)).heap.size (W1.alloc (.cells #[.int .i64 0, .int .i64 3, .int .i64 2, .int .i64 1] 32)) w' := by
    have := call24g 4 3 2 1 6 W1.heap.size (W1.alloc (.cells #[.int .i64 0, .int .i64 3, .int .i64 2, .int .i64 1] 32)) rfl (by decide) (.inr rfl) ⟨by decide, by decide⟩ (by decide) (by decide) (BoxAt.new _ _ _)
    rw [ex_grp] at this
    exact this
  have HH24 := Lib.hid H24
  have Bw := Lib.hid (hb1.trans (hb12.mono hb1.size))
  clear H24 hb1 hb12
  go_wp2_with fail
  refine HH24.out.mono ?_
  rintro e W2 ⟨gh, qh, rfl, hnh, hlh, hgh, hb2⟩
  replace Bw := Lib.hid (Bw.out.trans (hb2.mono Bw.out.size))
  have NH := Lib.hid (show NatL W2 gh exHs from ⟨hnh, hgh⟩)
  clear HH24 hnh hlh hgh hb2
  go_upto_region 2 with fail
  obtain ⟨W3, hW3⟩ : ∃ W3, W3 = W2.alloc (.cells #[.int .i64 4, .slice (some ⟨gh, 0, none⟩) 6 qh] 26) := ⟨_, rfl⟩
  obtain ⟨E, hE⟩ : ∃ E, E = W2.heap.size := ⟨_, rfl⟩
  rw [← hW3, ← hE]
  have hbW3 : Below W2.heap.size W2 W3 := by rw [hW3]; exact (Below.refl _ _).alloc (Nat.le_refl _) _
  have hxE : BoxAt W3 E #[.int .i64 4, .slice (some ⟨gh, 0, none⟩) 6 qh] 26 := by rw [hW3, hE]; exact BoxAt.new _ _ _
  have hzW3 : W3.heap.size = E + 1 := by rw [hW3, hE]; simp
  clear hW3 hE
  replace NH := Lib.hid (NH.out.next hbW3)
  replace Bw := Lib.hid (Bw.out.trans (hbW3.mono Bw.out.size))
  have XE := Lib.hid (hxE)
  have x0 := hxE.cell' 0 rfl
  have x1 := hxE.cell' 1 rfl
  have n4 : W3.cell? ⟨gh, 4, none⟩ = some (.int .i64 2) := NH.out.cell 4 (by decide)
  have n5 : W3.cell? ⟨gh, 5, none⟩ = some (.int .i64 1) := NH.out.cell 5 (by decide)
  clear hbW3 hxE hzW3
  go_upto_region 4 with fail
  refine region_kn4 E gh qh NH.out.at' NH.out.lt XE.out rfl ?hops (by kernel_rfl) (by kernel_rfl) (by kernel_rfl) (by kernel_rfl) ?hsz ?hout ?hend
  case hops => exact ⟨⟨_, _, _, rfl, by kernel_rfl⟩, ⟨_, _, _, rfl, by kernel_rfl⟩, ⟨_, _, _, rfl, by kernel_rfl⟩, ⟨_, _, _, rfl, by kernel_rfl⟩, ⟨_, _, _, rfl, by kernel_rfl⟩, ⟨_, _, _, rfl, by kernel_rfl⟩, ⟨_, _, _, rfl, by kernel_rfl⟩, ⟨_, _, _, rfl, by kernel_rfl⟩, ⟨_, _, _, rfl, by kernel_rfl⟩⟩
  case hsz => intro d hd; simp only [List.mem_cons, List.not_mem_nil, or_false] at hd; show d < 239; omega
  case hout => exact rfl
  case hend =>
    intro g58 q58 G58 Q58 g60 q60 G60 Q60 P58 P60 u57 u58 u59 u60 u56 u61 u62 W4 hb4 hm58 hB58 hm60 hB60
    simp only [putL, List.foldl, Act.put, List.setIfInBounds_toArray, List.set_cons_succ, List.set_cons_zero]
    replace NH := Lib.hid (NH.out.next hb4)
    replace XE := Lib.hid (XE.out.next hb4)
    replace Bw := Lib.hid (Bw.out.trans (hb4.mono Bw.out.size))
    have SC := Lib.hid (show StrM W4 g60 exCloth from ⟨hm60.1, hm60.2⟩)
    clear hb4 hm58 hB58 hm60 hB60 x0 x1 n4 n5
    have x0 := XE.out.cell' 0 rfl
    have x1 := XE.out.cell' 1 rfl
    have hbA4 : Below W4.heap.size W4 (W4.alloc (.cells #[.string ⟨#[120, 46, 46, 46, 46, 46]⟩, .string ⟨#[46, 120, 120, 46, 120, 120]⟩] 9)) := (Below.refl _ _).alloc (Nat.le_refl _) _
    have hxA4 : BoxAt (W4.alloc (.cells #[.string ⟨#[120, 46, 46, 46, 46, 46]⟩, .string ⟨#[46, 120, 120, 46, 120, 120]⟩] 9)) W4.heap.size #[.string ⟨#[120, 46, 46, 46, 46, 46]⟩, .string ⟨#[46, 120, 120, 46, 120, 120]⟩] 9 := BoxAt.new _ _ _
    have hH := NH.out.next hbA4
    have HC := Lib.hid (call48x gh qh W4.heap.size _ hH.at' hH.lt hxA4)
    have HA4 := Lib.hid hbA4
    clear hbA4 hxA4 hH
    go_wp2_with fail
    refine HC.out.mono ?_
    rintro e W5 ⟨gd, qd, rfl, hnd, hld, hgd, hb5'⟩
    have hb5 := HA4.out.trans (hb5'.mono HA4.out.size)
    replace NH := Lib.hid (NH.out.next hb5)
    replace XE := Lib.hid (XE.out.next hb5)
    replace SC := Lib.hid (SC.out.next hb5)
    replace Bw := Lib.hid (Bw.out.trans (hb5.mono Bw.out.size))
    have ND := Lib.hid (show NatL W5 gd [1, 6] from ⟨hnd, hgd⟩)
    clear HC HA4 hb5' hnd hld hgd hb5 x0 x1
    go_upto_region 6 with fail
    obtain ⟨W6, hW6⟩ : ∃ W6, W6 = W5.alloc (.cells #[.int .i64 4, .slice (some ⟨gd, 0, none⟩) 2 qd] 37) := ⟨_, rfl⟩
    obtain ⟨D, hD⟩ : ∃ D, D = W5.heap.size := ⟨_, rfl⟩
    rw [← hW6, ← hD]
    have hbW6 : Below W5.heap.size W5 W6 := by rw [hW6]; exact (Below.refl _ _).alloc (Nat.le_refl _) _
    have hxD : BoxAt W6 D #[.int .i64 4, .slice (some ⟨gd, 0, none⟩) 2 qd] 37 := by rw [hW6, hD]; exact BoxAt.new _ _ _
    have hzW6 : W6.heap.size = D + 1 := by rw [hW6, hD]; simp
    clear hW6 hD
    replace NH := Lib.hid (NH.out.next hbW6)
    replace XE := Lib.hid (XE.out.next hbW6)
    replace SC := Lib.hid (SC.out.next hbW6)
    replace ND := Lib.hid (ND.out.next hbW6)
    replace Bw := Lib.hid (Bw.out.trans (hbW6.mono Bw.out.size))
    have XD := Lib.hid (hxD)
    clear hbW6 hxD hzW6
    have x0 := XE.out.cell' 0 rfl
    have x1 := XE.out.cell' 1 rfl
    have hbA6 : Below W6.heap.size W6 (W6.alloc (.cells #[.string ⟨#[120, 46, 46, 46, 46, 120]⟩] 9)) := (Below.refl _ _).alloc (Nat.le_refl _) _
    have hxA6 : BoxAt (W6.alloc (.cells #[.string ⟨#[120, 46, 46, 46, 46, 120]⟩] 9)) W6.heap.size #[.string ⟨#[120, 46, 46, 46, 46, 120]⟩] 9 := BoxAt.new _ _ _
    have hH := NH.out.next hbA6
    have HC := Lib.hid (call49x gh qh W6.heap.size _ hH.at' hH.lt hxA6)
    have HA6 := Lib.hid hbA6
    clear hbA6 hxA6 hH
    go_wp2_with fail
    refine HC.out.mono ?_
    rintro e W7 ⟨rfl, hb7'⟩
    have hb7 := HA6.out.trans (hb7'.mono HA6.out.size)
    replace NH := Lib.hid (NH.out.next hb7)
    replace XE := Lib.hid (XE.out.next hb7)
    replace SC := Lib.hid (SC.out.next hb7)
    replace ND := Lib.hid (ND.out.next hb7)
    replace XD := Lib.hid (XD.out.next hb7)
    replace Bw := Lib.hid (Bw.out.trans (hb7.mono Bw.out.size))
    clear HC HA6 hb7' hb7 x0 x1
    go_upto_region 7 with fail
    have hbA7 : Below W7.heap.size W7 (W7.alloc (.cells #[.string ⟨#[120, 46, 46, 120]⟩, .string ⟨#[120, 120, 46, 120]⟩] 9)) := (Below.refl _ _).alloc (Nat.le_refl _) _
    have hxA7 : BoxAt (W7.alloc (.cells #[.string ⟨#[120, 46, 46, 120]⟩, .string ⟨#[120, 120, 46, 120]⟩] 9)) W7.heap.size #[.string ⟨#[120, 46, 46, 120]⟩, .string ⟨#[120, 120, 46, 120]⟩] 9 := BoxAt.new _ _ _
    have hH := NH.out.next hbA7
    have HC := Lib.hid (call54x W7.heap.size _ hxA7)
    have HA7 := Lib.hid hbA7
    clear hbA7 hxA7 hH
    go_wp2_with fail
    refine HC.out.mono ?_
    rintro e W8 ⟨ga, qa, gb, qb, rfl, hna, hnb, hla, hga, hlb, hgb, hb8'⟩
    have hb8 := HA7.out.trans (hb8'.mono HA7.out.size)
    replace NH := Lib.hid (NH.out.next hb8)
    replace XE := Lib.hid (XE.out.next hb8)
    replace SC := Lib.hid (SC.out.next hb8)
    replace ND := Lib.hid (ND.out.next hb8)
    replace XD := Lib.hid (XD.out.next hb8)
    replace Bw := Lib.hid (Bw.out.trans (hb8.mono Bw.out.size))
    have NA := Lib.hid (show NatL W8 ga [0, 1, 2, 0] from ⟨hna, hga⟩)
    have NB := Lib.hid (show NatL W8 gb [1, 3] from ⟨hnb, hgb⟩)
    clear HC HA7 hb8' hb8 hna hnb hla hga hlb hgb
    go_upto_region 8 with fail
    obtain ⟨W9, hW9⟩ : ∃ W9, W9 = W8.alloc (.cells #[.int .i64 3, .slice (some ⟨ga, 0, none⟩) 4 qa] 26) := ⟨_, rfl⟩
    obtain ⟨F, hF⟩ : ∃ F, F = W8.heap.size := ⟨_, rfl⟩
    rw [← hW9, ← hF]
    have hbW9 : Below W8.heap.size W8 W9 := by rw [hW9]; exact (Below.refl _ _).alloc (Nat.le_refl _) _
    have hxF : BoxAt W9 F #[.int .i64 3, .slice (some ⟨ga, 0, none⟩) 4 qa] 26 := by rw [hW9, hF]; exact BoxAt.new _ _ _
    have hzW9 : W9.heap.size = F + 1 := by rw [hW9, hF]; simp
    clear hW9 hF
    replace NH := Lib.hid (NH.out.next hbW9)
    replace XE := Lib.hid (XE.out.next hbW9)
    replace SC := Lib.hid (SC.out.next hbW9)
    replace ND := Lib.hid (ND.out.next hbW9)
    replace XD := Lib.hid (XD.out.next hbW9)
    replace NA := Lib.hid (NA.out.next hbW9)
    replace NB := Lib.hid (NB.out.next hbW9)
    replace Bw := Lib.hid (Bw.out.trans (hbW9.mono Bw.out.size))
    have XF := Lib.hid (hxF)
    obtain ⟨W10, hW10⟩ : ∃ W10, W10 = W9.alloc (.cells #[.int .i64 3, .slice (some ⟨gb, 0, none⟩) 2 qb] 37) := ⟨_, rfl⟩
    obtain ⟨G, hG⟩ : ∃ G, G = F + 1 := ⟨_, rfl⟩
    rw [← hW10, ← hG]
    have hbW10 : Below W9.heap.size W9 W10 := by rw [hW10]; exact (Below.refl _ _).alloc (Nat.le_refl _) _
    have hxG : BoxAt W10 G #[.int .i64 3, .slice (some ⟨gb, 0, none⟩) 2 qb] 37 := by rw [hW10, hG, ← hzW9]; exact BoxAt.new _ _ _
    have hzW10 : W10.heap.size = G + 1 := by rw [hW10, hG, ← hzW9]; simp
    clear hW10 hG
    replace NH := Lib.hid (NH.out.next hbW10)
    replace XE := Lib.hid (XE.out.next hbW10)
    replace SC := Lib.hid (SC.out.next hbW10)
    replace ND := Lib.hid (ND.out.next hbW10)
    replace XD := Lib.hid (XD.out.next hbW10)
    replace NA := Lib.hid (NA.out.next hbW10)
    replace NB := Lib.hid (NB.out.next hbW10)
    replace XF := Lib.hid (XF.out.next hbW10)
    replace Bw := Lib.hid (Bw.out.trans (hbW10.mono Bw.out.size))
    have XG := Lib.hid (hxG)
    clear hbW9 hxF hzW9 hbW10 hxG hzW10
    have hbA10 : Below W10.heap.size W10 (W10.alloc (.cells #[.string ⟨#[120, 46, 46, 120]⟩, .string ⟨#[120, 120, 46, 120]⟩] 9)) := (Below.refl _ _).alloc (Nat.le_refl _) _
    have hxA10 : BoxAt (W10.alloc (.cells #[.string ⟨#[120, 46, 46, 120]⟩, .string ⟨#[120, 120, 46, 120]⟩] 9)) W10.heap.size #[.string ⟨#[120, 46, 46, 120]⟩, .string ⟨#[120, 120, 46, 120]⟩] 9 := BoxAt.new _ _ _
    have hH := NH.out.next hbA10
    have HC := Lib.hid (call55x W10.heap.size _ hxA10)
    have HA10 := Lib.hid hbA10
    clear hbA10 hxA10 hH
    go_wp2_with fail
    refine HC.out.mono ?_
    rintro e W11 ⟨gl, ql, rfl, hnl, hll, hgl, hb11'⟩
    have hb11 := HA10.out.trans (hb11'.mono HA10.out.size)
    replace NH := Lib.hid (NH.out.next hb11)
    replace XE := Lib.hid (XE.out.next hb11)
    replace SC := Lib.hid (SC.out.next hb11)
    replace ND := Lib.hid (ND.out.next hb11)
    replace XD := Lib.hid (XD.out.next hb11)
    replace NA := Lib.hid (NA.out.next hb11)
    replace NB := Lib.hid (NB.out.next hb11)
    replace XF := Lib.hid (XF.out.next hb11)
    replace XG := Lib.hid (XG.out.next hb11)
    replace Bw := Lib.hid (Bw.out.trans (hb11.mono Bw.out.size))
    have NL := Lib.hid (show NatL W11 gl [0, 1, 2] from ⟨hnl, hgl⟩)
    clear HC HA10 hb11' hb11 hnl hll hgl
    go_upto_region 9 with fail
    refine region_kn9 E gh qh NH.out.at' NH.out.lt XE.out rfl ?hops (by kernel_rfl) (by kernel_rfl) (by kernel_rfl) (by kernel_rfl) ?hsz ?hout ?hend
    case hops => exact ⟨⟨_, _, _, rfl, by kernel_rfl⟩, ⟨_, _, _, rfl, by kernel_rfl⟩, ⟨_, _, _, rfl, by kernel_rfl⟩, ⟨_, _, _, rfl, by kernel_rfl⟩, ⟨_, _, _, rfl, by kernel_rfl⟩, ⟨_, _, _, rfl, by kernel_rfl⟩, ⟨_, _, _, rfl, by kernel_rfl⟩, ⟨_, _, _, rfl, by kernel_rfl⟩, ⟨_, _, _, rfl, by kernel_rfl⟩⟩
    case hsz => intro d hd; simp only [List.mem_cons, List.not_mem_nil, or_false] at hd; show d < 239; omega
    case hout => exact rfl
    case hend =>
      intro g90 q90 G90 Q90 g92 q92 G92 Q92 P90 P92 u89 u90 u91 u92 u88 u93 u94 W12 hb12 hm90 hB90 hm92 hB92
      simp only [putL, List.foldl, Act.put, List.setIfInBounds_toArray, List.set_cons_succ, List.set_cons_zero]
      replace NH := Lib.hid (NH.out.next hb12)
      replace XE := Lib.hid (XE.out.next hb12)
      replace SC := Lib.hid (SC.out.next hb12)
      replace ND := Lib.hid (ND.out.next hb12)
      replace XD := Lib.hid (XD.out.next hb12)
      replace NA := Lib.hid (NA.out.next hb12)
      replace NB := Lib.hid (NB.out.next hb12)
      replace XF := Lib.hid (XF.out.next hb12)
      replace XG := Lib.hid (XG.out.next hb12)
      replace NL := Lib.hid (NL.out.next hb12)
      replace Bw := Lib.hid (Bw.out.trans (hb12.mono Bw.out.size))
      have FL := Lib.hid (show FlsAt W12 g92 [⟨0, 4, 5, true⟩] from hm92.1)
      clear hb12 hm90 hB90 hm92 hB92
      have x0 := XE.out.cell' 0 rfl
      have x1 := XE.out.cell' 1 rfl
      have HC := Lib.hid (call58x 2 3 3 gh qh W12 (by decide) (by decide) exWin2 (by decide) (by decide) NH.out.at' NH.out.lt rfl)
      go_wp2_with fail
      refine HC.out.mono ?_
      rintro e W13 ⟨row2, rfl, hr2, hbd2, hb13⟩
      replace NH := Lib.hid (NH.out.next hb13)
      replace XE := Lib.hid (XE.out.next hb13)
      replace SC := Lib.hid (SC.out.next hb13)
      replace ND := Lib.hid (ND.out.next hb13)
      replace XD := Lib.hid (XD.out.next hb13)
      replace NA := Lib.hid (NA.out.next hb13)
      replace NB := Lib.hid (NB.out.next hb13)
      replace XF := Lib.hid (XF.out.next hb13)
      replace XG := Lib.hid (XG.out.next hb13)
      replace NL := Lib.hid (NL.out.next hb13)
      replace FL := Lib.hid (FL.out.next hb13)
      replace Bw := Lib.hid (Bw.out.trans (hb13.mono Bw.out.size))
      have HR2 := Lib.hid hr2
      have HD2 := Lib.hid hbd2
      clear HC hb13 x0 x1 hr2 hbd2
      have x0 := XE.out.cell' 0 rfl
      have x1 := XE.out.cell' 1 rfl
      have HC := Lib.hid (call58x 3 5 5 gh qh W13 (by decide) (by decide) exWin3 (by decide) (by decide) NH.out.at' NH.out.lt rfl)
      go_wp2_with fail
      refine HC.out.mono ?_
      rintro e W14 ⟨row3, rfl, hr3, hbd3, hb14⟩
      replace NH := Lib.hid (NH.out.next hb14)
      replace XE := Lib.hid (XE.out.next hb14)
      replace SC := Lib.hid (SC.out.next hb14)
      replace ND := Lib.hid (ND.out.next hb14)
      replace XD := Lib.hid (XD.out.next hb14)
      replace NA := Lib.hid (NA.out.next hb14)
      replace NB := Lib.hid (NB.out.next hb14)
      replace XF := Lib.hid (XF.out.next hb14)
      replace XG := Lib.hid (XG.out.next hb14)
      replace NL := Lib.hid (NL.out.next hb14)
      replace FL := Lib.hid (FL.out.next hb14)
      replace Bw := Lib.hid (Bw.out.trans (hb14.mono Bw.out.size))
      have HR3 := Lib.hid hr3
      have HD3 := Lib.hid hbd3
      clear HC hb14 x0 x1 hr3 hbd3
      have x0 := XE.out.cell' 0 rfl
      have x1 := XE.out.cell' 1 rfl
      have HC := Lib.hid (call32 4 3 1 6 gh qh W14 (by decide) (by decide) (by rw [ex_grp]; exact exTA NH.out.at' NH.out.lt))
      go_wp2_with fail
      refine HC.out.mono ?_
      rintro e W15 ⟨rfl, hb15⟩
      replace NH := Lib.hid (NH.out.next hb15)
      replace XE := Lib.hid (XE.out.next hb15)
      replace SC := Lib.hid (SC.out.next hb15)
      replace ND := Lib.hid (ND.out.next hb15)
      replace XD := Lib.hid (XD.out.next hb15)
      replace NA := Lib.hid (NA.out.next hb15)
      replace NB := Lib.hid (NB.out.next hb15)
      replace XF := Lib.hid (XF.out.next hb15)
      replace XG := Lib.hid (XG.out.next hb15)
      replace NL := Lib.hid (NL.out.next hb15)
      replace FL := Lib.hid (FL.out.next hb15)
      replace Bw := Lib.hid (Bw.out.trans (hb15.mono Bw.out.size))
      clear HC hb15 x0 x1
      have f1 := XF.out.cell' 1 rfl
      go_upto_region 15 with fail
      refine region_kn15 g60 q60 gd qd D ga qa F gb qb G gl ql g92 q92 row2 (SC.out.at' 0 (by decide)) (SC.out.at' 1 (by decide)) ND.out (NA.out.cell 3 (by decide)) NB.out (NL.out.cell 2 (by decide)) (FL.out.c0 0 (by decide)) (FL.out.c1 0 (by decide)) (FL.out.c2 0 (by decide)) (FL.out.c3 0 (by decide)) HR2.out HD2.out XD.out XF.out XG.out rfl ?hops (by kernel_rfl) (by kernel_rfl) (by kernel_rfl) (by kernel_rfl) ?hsz ?hout ?hend
      case hops => exact ⟨⟨_, _, _, rfl, by kernel_rfl⟩, ⟨_, _, _, rfl, by kernel_rfl⟩, ⟨_, _, _, rfl, by kernel_rfl⟩, ⟨_, _, _, rfl, by kernel_rfl⟩, ⟨_, _, _, rfl, by kernel_rfl⟩, ⟨_, _, _, rfl, by kernel_rfl⟩, ⟨_, _, _, rfl, by kernel_rfl⟩, ⟨_, _, _, rfl, by kernel_rfl⟩, ⟨_, _, _, rfl, by kernel_rfl⟩, ⟨_, _, _, rfl, by kernel_rfl⟩, ⟨_, _, _, rfl, by kernel_rfl⟩, ⟨_, _, _, rfl, by kernel_rfl⟩, ⟨_, _, _, rfl, by kernel_rfl⟩, ⟨_, _, _, rfl, by kernel_rfl⟩, ⟨_, _, _, rfl, by kernel_rfl⟩, ⟨_, _, _, rfl, by kernel_rfl⟩, ⟨_, _, _, rfl, by kernel_rfl⟩, ⟨_, _, _, rfl, by kernel_rfl⟩, ⟨_, _, _, rfl, by kernel_rfl⟩, ⟨_, _, _, rfl, by kernel_rfl⟩, ⟨_, _, _, rfl, by kernel_rfl⟩, ⟨_, _, _, rfl, by kernel_rfl⟩, ⟨_, _, _, rfl, by kernel_rfl⟩, ⟨_, _, _, rfl, by kernel_rfl⟩, ⟨_, _, _, rfl, by kernel_rfl⟩, ⟨_, _, _, rfl, by kernel_rfl⟩, ⟨_, _, _, rfl, by kernel_rfl⟩, ⟨_, _, _, rfl, by kernel_rfl⟩, ⟨_, _, _, rfl, by kernel_rfl⟩, ⟨_, _, _, rfl, by kernel_rfl⟩, ⟨_, _, _, rfl, by kernel_rfl⟩, ⟨_, _, _, rfl, by kernel_rfl⟩, ⟨_, _, _, rfl, by kernel_rfl⟩, ⟨_, _, _, rfl, by kernel_rfl⟩, ⟨_, _, _, rfl, by kernel_rfl⟩, ⟨_, _, _, rfl, by kernel_rfl⟩, ⟨_, _, _, rfl, by kernel_rfl⟩, ⟨_, _, _, rfl, by kernel_rfl⟩, ⟨_, _, _, rfl, by kernel_rfl⟩, ⟨_, _, _, rfl, by kernel_rfl⟩, ⟨_, _, _, rfl, by kernel_rfl⟩, ⟨_, _, _, rfl, by kernel_rfl⟩, ⟨_, _, _, rfl, by kernel_rfl⟩, ⟨_, _, _, rfl, by kernel_rfl⟩, ⟨_, _, _, rfl, by kernel_rfl⟩, ⟨_, _, _, rfl, by kernel_rfl⟩, ⟨_, _, _, rfl, by kernel_rfl⟩, ⟨_, _, _, rfl, by kernel_rfl⟩, ⟨_, _, _, rfl, by kernel_rfl⟩, ⟨_, _, _, rfl, by kernel_rfl⟩, ⟨_, _, _, rfl, by kernel_rfl⟩, ⟨_, _, _, rfl, by kernel_rfl⟩, ⟨_, _, _, rfl, by kernel_rfl⟩, ⟨_, _, _, rfl, by kernel_rfl⟩, ⟨_, _, _, rfl, by kernel_rfl⟩, ⟨_, _, _, rfl, by kernel_rfl⟩, ⟨_, _, _, rfl, by kernel_rfl⟩, ⟨_, _, _, rfl, by kernel_rfl⟩, ⟨_, _, _, rfl, by kernel_rfl⟩, ⟨_, _, _, rfl, by kernel_rfl⟩, ⟨_, _, _, rfl, by kernel_rfl⟩, ⟨_, _, _, rfl, by kernel_rfl⟩, ⟨_, _, _, rfl, by kernel_rfl⟩, ⟨_, _, _, rfl, by kernel_rfl⟩, ⟨_, _, _, rfl, by kernel_rfl⟩, ⟨_, _, _, rfl, by kernel_rfl⟩, ⟨_, _, _, rfl, by kernel_rfl⟩, ⟨_, _, _, rfl, by kernel_rfl⟩, ⟨_, _, _, rfl, by kernel_rfl⟩, ⟨_, _, _, rfl, by kernel_rfl⟩, ⟨_, _, _, rfl, by kernel_rfl⟩, ⟨_, _, _, rfl, by kernel_rfl⟩, ⟨_, _, _, rfl, by kernel_rfl⟩⟩
      case hsz => intro d hd; simp only [List.mem_cons, List.not_mem_nil, or_false] at hd; show d < 239; omega
      case hout => exact ⟨rfl, rfl, rfl, rfl, rfl, rfl, rfl, rfl, rfl, rfl, rfl, rfl⟩
      case hend =>
        intro g179 q179 G179 Q179 g205 q205 G205 Q205 P179 P205 u167 u168 u169 u170 u171 u172 u173 u174 u175 u176 u177 u178 u179 u180 u181 u182 u183 u184 u185 u186 u187 u188 u189 u190 u191 u192 u193 u194 u195 u196 u197 u198 u199 u200 u201 u202 u203 u204 u205 u206 u207 u208 u209 u210 u211 u212 u213 u214 u215 u216 u217 u218 u219 u220 u221 u222 u223 u224 u225 u226 u227 u228 u229 u230 u231 u232 u233 u234 u235 u236 u237 u238 W16 hb16 hm179 hB179 hm205 hB205
        simp only [putL, List.foldl, Act.put, List.setIfInBounds_toArray, List.set_cons_succ, List.set_cons_zero]
        replace Bw := Lib.hid (Bw.out.trans (hb16.mono Bw.out.size))
        clear hb16 hm179 hB179 hm205 hB205
        go_wp2_with fail
        go_ret
        exact ⟨rfl, Bw.out⟩
end Go.Proofs.Ytdmgffoikebgkaa
/- TieGroups: its helpers and the contracts that its walk uses. -/
namespace Go.Proofs.Ytdmgffoikebgkaa
open Go.RowKit Go.Shelf
attribute [local go_sem] Oper.semAt_some

/-- a row of numbers that can be written -/
def NatRow (W : World) (g : Nat) (xs : List Nat) : Prop := ∃ cur : Array Value, W.heap[g]? = some (.cells cur 3 (0, 0)) ∧ ∀ i, i < xs.length → cur[i]? = some (.int .i64 (nthN xs i : Int))
theorem NatRow.lt {W : World} {g : Nat} {xs : List Nat} (h : NatRow W g xs) : g < W.heap.size := by
  obtain ⟨cur, h1, _⟩ := h
  exact (Array.getElem?_eq_some_iff.1 h1).1
theorem NatRow.nats {W : World} {g : Nat} {xs : List Nat} (h : NatRow W g xs) : NatsAt W g 0 xs := fun i hi => by
  obtain ⟨cur, h1, h2⟩ := h
  rw [Nat.zero_add]
  simp [World.cell?, h1, h2 i hi]
theorem NatRow.frozen {W : World} {g : Nat} {xs : List Nat} (h : NatRow W g xs) (i : Nat) : W.frozen? ⟨g, i, none⟩ = false := by
  obtain ⟨cur, h1, _⟩ := h
  simp [World.frozen?, h1]
theorem NatRow.next {W W' : World} {g : Nat} {xs : List Nat} (h : NatRow W g xs) (hb : Below W.heap.size W W') : NatRow W' g xs := by
  have hl := h.lt
  obtain ⟨cur, h1, h2⟩ := h
  exact ⟨cur, (hb.block g hl).trans h1, h2⟩
theorem nthN_set (xs : List Nat) (i j v : Nat) (hi : i < xs.length) : nthN (xs.set i v) j = if j = i then v else nthN xs j := by
  unfold nthN
  by_cases e : j = i
  · subst e; simp [hi]
  · rw [if_neg e, List.getElem?_set_ne (Ne.symm e)]
theorem NatRow.set {W : World} {g : Nat} {xs : List Nat} (h : NatRow W g xs) (i v : Nat) (hi : i < xs.length) : NatRow (W.setCell ⟨g, i, none⟩ (.int .i64 (v : Int))) g (xs.set i v) := by
  obtain ⟨cur, h1, h2⟩ := h
  refine ⟨cur.setIfInBounds i (.int .i64 (v : Int)), ?_, fun j hj => ?_⟩
  · simp [World.setCell, Array.getElem?_modify, h1]
  · rw [List.length_set] at hj
    rw [nthN_set _ _ _ _ hi]
    have hc := h2 i hi
    have hlt : i < cur.size := (Array.getElem?_eq_some_iff.1 hc).1
    by_cases e : j = i
    · subst e; simp [hlt]
    · rw [if_neg e, Array.getElem?_setIfInBounds_ne (by omega), h2 j hj]
theorem NatRow.of_row {w : World} {B g n cap : Nat} {xs : List Nat} (h : w.ownsRow B 3 1 (.slice (some ⟨g, 0, none⟩) n cap) n (xs.map natV)) (_h0 : 0 < n) : NatRow w g xs := by
  have h1 := h
  obtain ⟨hl, ⟨h2, _⟩ | ⟨g', cap', cur, e, hg, hh, r⟩⟩ := h
  · simp at h2
  · simp at e
    obtain ⟨rfl, rfl⟩ := e
    refine ⟨cur, hh, fun i hi => ?_⟩
    have e : w.cell? ⟨g, i, none⟩ = cur[i]? := by simp [World.cell?, hh]
    rw [← e, h1.cellAt i (by simp at hl; omega), nthN_get _ _ hi]
    simp [hi, natV]
set_option maxRecDepth 100000 in
set_option maxHeartbeats 1000000 in
theorem tieRight (b c n L : Nat) (ps : List Nat) (w : World) (h : ClAt w b 0 n ps) (hL : ps.length = L) (hl : L ≤ 60) :
    Calls Try.prog 65 #[.slice (some ⟨b, 0, none⟩) L c, .int .i64 (L : Int), .int .i64 (n : Int)] w fun e w' => e = .returned (.bool true) ∧ w' = w := by
  have H := Lib.hid h
  clear h
  go_enter Try.func65, Try.ntmps65
  go_wp2_with fail
  go_loopw [7] (fun i wr => ∃ k : Nat, k ≤ L ∧ i = .int .i64 (k : Int) ∧ wr = w) (fun i _ => L - (intOf i).toNat)
  case atStart => exact ⟨0, Nat.zero_le _, rfl, rfl⟩
  case round =>
    obtain ⟨k, hk, rfl, rfl⟩ := hrel
    by_cases hlt : k < L
    · obtain ⟨s, hs, hcell⟩ := H.out.cell k (by rw [hL]; exact hlt)
      rw [Nat.zero_add] at hcell
      have hsz := hs.size
      clear hs
      go_wp2_with fail
      go_roundw
      case rel => exact ⟨k + 1, by omega, by go_num, trivial⟩
      case measure => simp [intOf]; omega
    · obtain rfl : k = L := by omega
      go_wp2_with fail
      go_ret
      exact ⟨rfl, rfl⟩
set_option maxRecDepth 100000 in
set_option maxHeartbeats 2000000 in
theorem tieShows (b c g q n L : Nat) (ps ys : List Nat) (w : World) (h : ClAt w b 0 n ps) (hL : ps.length = L) (hl : L ≤ 60) (hY : ys.length = L) (hn : n ≤ 60) (hy : NatsAt w g 0 ys) (hg : g < w.heap.size) (hlt : ∀ i, nthN ys i < 16777216)
    (hB : ∀ i j, i < L → j < n → bitN (nthN ps i) j = bitN (nthN ys i) j) :
    Calls Try.prog 75 #[.slice (some ⟨b, 0, none⟩) L c, .agg #[.int .i64 (n : Int), .slice (some ⟨g, 0, none⟩) L q]] w fun e w' => e = .returned (.bool true) ∧ Below w.heap.size w w' := by
  obtain ⟨w0, hw0⟩ : ∃ w0, w0 = w.alloc (.cells #[.int .i64 (n : Int), .slice (some ⟨g, 0, none⟩) L q] 37) := ⟨_, rfl⟩
  have hb0 : Below w.heap.size w w0 := by rw [hw0]; exact (Below.refl _ _).alloc (Nat.le_refl _) _
  have hx0 : BoxAt w0 w.heap.size #[.int .i64 (n : Int), .slice (some ⟨g, 0, none⟩) L q] 37 := by rw [hw0]; exact BoxAt.new _ _ _
  have HR := Lib.hid (tieRight b c n L ps w0 (h.next hb0) hL hl)
  have HC := Lib.hid (h.next hb0)
  have HY := Lib.hid (hy.below hb0 hg)
  have hg0 : g < w0.heap.size := Nat.lt_of_lt_of_le hg hb0.size
  have HX := Lib.hid hx0
  have HW0 := Lib.hid hw0
  have Hb0 := Lib.hid hb0
  have hx1 := hx0.cell' 0 rfl
  have hx2 := hx0.cell' 1 rfl
  clear hw0 hb0 hx0 h hy hg
  go_enter Try.func75, Try.ntmps75
  go_wp2_with fail
  rw [← HW0.out]
  go_wp2_with fail
  refine HR.out.mono ?_
  rintro e w' ⟨rfl, rfl⟩
  go_wp2_with fail
  go_loopw [5] (fun i wr => ∃ k : Nat, k ≤ L ∧ i = .int .i64 (k : Int) ∧ Below w'.heap.size w' wr) (fun i _ => L - (intOf i).toNat)
  case atStart => exact ⟨0, Nat.zero_le _, rfl, Below.refl _ _⟩
  case round =>
    obtain ⟨k, hk, rfl, hbw⟩ := hrel
    clear hx1 hx2
    have HBw := Lib.hid hbw
    clear hbw
    by_cases hlk : k < L
    · go_wp2_with fail
      go_loopw [6] (fun i wz => ∃ j : Nat, j ≤ n ∧ i = .int .i64 (j : Int) ∧ Below w'.heap.size w' wz) (fun i _ => n - (intOf i).toNat)
      case atStart => exact ⟨0, Nat.zero_le _, rfl, HBw.out⟩
      case round =>
        obtain ⟨j, hj, rfl, hbz⟩ := hrel
        have hX := HX.out.next hbz
        have x0 := hX.cell' 0 rfl
        have x1 := hX.cell' 1 rfl
        have Hbz := Lib.hid hbz
        clear hX
        by_cases hjn : j < n
        · obtain ⟨s, hs, hcell⟩ := (HC.out.next hbz).cell k (by rw [hL]; exact hlk)
          rw [Nat.zero_add] at hcell
          have hidx := fun W => hs.idx hjn W
          have hyc := (HY.out.below hbz hg0) k (by rw [hY]; exact hlk)
          rw [Nat.zero_add] at hyc
          have hyl := hlt k
          have hbb := hB k j hlk hjn
          obtain ⟨y, hy⟩ : ∃ y, nthN ys k = y := ⟨_, rfl⟩
          rw [hy] at hyc hyl hbb
          have hsb := shr_bit y j (by omega)
          have hun : IntKind.u64.wrap (j : Int) = (j : Int) := IntWalk.u64_in _ (by omega)
          have hm64 : min j 64 = j := by omega
          cases hbt : bitN (nthN ps k) j with
          | true =>
            have hv : byteP (nthN ps k) j = 120 := by unfold byteP; rw [hbt]; rfl
            rw [hv] at hidx
            rw [← hbb, hbt] at hsb
            clear hs hbz hbb hv hbt hy
            go_wp2_with fail
            go_region
            all_goals
              (go_wp2_with fail
               exact ⟨⟨j + 1, by omega, by go_num, Hbz.out.drew⟩, by simp [intOf]; omega⟩)
          | false =>
            have hv : byteP (nthN ps k) j = 46 := by unfold byteP; rw [hbt]; rfl
            rw [hv] at hidx
            rw [← hbb, hbt] at hsb
            clear hs hbz hbb hv hbt hy
            go_wp2_with fail
            go_region
            all_goals
              (go_wp2_with fail
               exact ⟨⟨j + 1, by omega, by go_num, Hbz.out.drew⟩, by simp [intOf]; omega⟩)
        · obtain rfl : j = n := by omega
          go_wp2_with fail
          go_roundw
          case rel => exact ⟨k + 1, by omega, by go_num, Hbz.out⟩
          case measure => simp [intOf]; omega
    · obtain rfl : k = L := by omega
      go_wp2_with fail
      go_ret
      exact ⟨rfl, Hb0.out.trans (HBw.out.mono Hb0.out.size)⟩
end Go.Proofs.Ytdmgffoikebgkaa
/- TopFewHooks: a set of columns; the contracts that its walk uses. -/
namespace Go.Proofs.Ytdmgffoikebgkaa
open Go.RowKit Go.Shelf
open Go.Maps (Keyed IsMap)
attribute [local go_sem] Oper.semAt_some

theorem Try.tenKeyed : Keyed Try.prog 142 := Keyed.of_law (deep_law_laid (m := 4) (by kernel_rfl) (by decide) (of_decide_eq_true (by kernel_rfl)) (by kernel_rfl) (by kernel_rfl))
/-- ten points -/
def tenV (f : Nat → Bool) : Array Value := #[.bool (f 0), .bool (f 1), .bool (f 2), .bool (f 3), .bool (f 4), .bool (f 5), .bool (f 6), .bool (f 7), .bool (f 8), .bool (f 9)]
def tenL (f : Nat → Bool) : List Bool := [f 0, f 1, f 2, f 3, f 4, f 5, f 6, f 7, f 8, f 9]
theorem tenKey_at (f : Nat → Bool) : ∃ l, keyOf Try.prog 142 (.agg (tenV f)) = some l := by
  have h : (keyOf Try.prog 142 (.agg (tenV f))).isSome = true := by unfold tenV; kernel_rfl
  exact Option.isSome_iff_exists.1 h
theorem tenKey_inj {f g : Nat → Bool} {l l' : Lit} (h1 : keyOf Try.prog 142 (.agg (tenV f)) = some l) (h2 : keyOf Try.prog 142 (.agg (tenV g)) = some l') (h : l = l') : tenL f = tenL g := by
  subst h
  have := Try.tenKeyed.inj h1 h2
  simp [tenV] at this
  simp [tenL, this]
theorem tenL_eq {f g : Nat → Bool} (h : tenL f = tenL g) : tenV f = tenV g := by
  simp [tenL] at h
  simp [tenV, h]
theorem tenL_iff {f g : Nat → Bool} : tenL f = tenL g ↔ ∀ i, i < 10 → f i = g i := by
  constructor
  · intro h i hi
    simp [tenL] at h
    obtain ⟨h0, h1, h2, h3, h4, h5, h6, h7, h8, h9⟩ := h
    match i, hi with
    | 0, _ => exact h0
    | 1, _ => exact h1
    | 2, _ => exact h2
    | 3, _ => exact h3
    | 4, _ => exact h4
    | 5, _ => exact h5
    | 6, _ => exact h6
    | 7, _ => exact h7
    | 8, _ => exact h8
    | 9, _ => exact h9
    | i + 10, hi => omega
  · intro h
    simp [tenL, h 0, h 1, h 2, h 3, h 4, h 5, h 6, h 7, h 8, h 9]
theorem tenV_set (f : Nat → Bool) (p : Nat) (v : Bool) (hp : p < 10) : (tenV f).setIfInBounds p (.bool v) = tenV fun i => if i = p then v else f i := by
  match p, hp with
  | 0, _ => simp [tenV]
  | 1, _ => simp [tenV]
  | 2, _ => simp [tenV]
  | 3, _ => simp [tenV]
  | 4, _ => simp [tenV]
  | 5, _ => simp [tenV]
  | 6, _ => simp [tenV]
  | 7, _ => simp [tenV]
  | 8, _ => simp [tenV]
  | 9, _ => simp [tenV]
  | p + 10, hp => omega
/-- block mb is a set of s columns -/
def AMap (w : World) (mb k s : Nat) (S : List Bool → Bool) : Prop :=
  ∃ D : DataW Nat, w.ownsMap Try.prog 142 (plainElem Try.prog 4) mb k D ∧ Maps.size D = s ∧ ∀ f l, keyOf Try.prog 142 (.agg (tenV f)) = some l → Maps.has D l = S (tenL f)
theorem AMap.made (w : World) : AMap (w.alloc (.map #[] 0)) w.heap.size 0 0 (fun _ => false) := ⟨.map [], World.ownsMap_made w _ _ _, rfl, fun _ _ _ => rfl⟩
theorem AMap.grown {w w' : World} {mb k s : Nat} {S : List Bool → Bool} {row : Option Nat} (h : AMap w mb k s S) (hg : w.grownBy w' row) (hne : some mb ≠ row) : AMap w' mb k s S := by
  obtain ⟨D, h1, h2⟩ := h
  exact ⟨D, h1.kept hg hne, h2⟩
theorem AMap.next {w w' : World} {mb k s : Nat} {S : List Bool → Bool} (h : AMap w mb k s S) (hb : Below w.heap.size w w') : AMap w' mb k s S := h.grown (below_grown hb none) (by simp)
theorem AMap.set {w : World} {mb k s : Nat} {S : List Bool → Bool} (h : AMap w mb k s S) (a : Addr) (v : Value) (ha : mb ≠ a.block) : AMap (w.setCell a v) mb k s S := by
  refine h.grown (row := some a.block) ⟨rfl, rfl, rfl, by simp, fun i _ hi => Below.heap_setCell w a v i (fun e => hi (by rw [e]))⟩ (by simpa using ha)
theorem AMap.lt {w : World} {mb k s : Nat} {S : List Bool → Bool} (h : AMap w mb k s S) : mb < w.heap.size := by
  obtain ⟨D, h1, _⟩ := h; exact h1.lt
theorem AMap.upd {w : World} {mb k s : Nat} {S : List Bool → Bool} (h : AMap w mb k s S) (f : Nat → Bool) (hk : k ≤ 100000) :
    ∃ w', (Instr.mapUpdate 141 (.map (some mb)) (.agg (tenV f)) (.bool true)).run Try.prog w = .ok () w' ∧ AMap w' mb (k + 1) (if S (tenL f) then s else s + 1) (fun x => decide (x = tenL f) || S x) ∧ w.grownBy w' (some mb) := by
  obtain ⟨D, h1, h2, h3⟩ := h
  obtain ⟨l, hl⟩ := tenKey_at f
  obtain ⟨w', hrun, hown, hgrow⟩ := h1.update (val := .bool true) Try.tenKeyed Try.underlying141 (by unfold maxLen; omega) hl (plainElem_bool Try.underlying4 true)
  refine ⟨w', hrun, ⟨_, hown, ?_, fun g l' hl' => ?_⟩, hgrow⟩
  · rw [Maps.size_put (h1.tidy Try.tenKeyed), h3 f l hl, h2]
  · by_cases e : tenL g = tenL f
    · have : l' = l := by
        rw [tenL_eq e, hl] at hl'; exact (Option.some.inj hl').symm
      subst this
      rw [Maps.has_put_same h1.isMap (Try.tenKeyed.key hl)]; simp [e]
    · rw [Maps.has_put_other (fun e2 => e (tenKey_inj hl' hl e2)), h3 g l' hl']; simp [e]
theorem AMap.len {w : World} {mb k s : Nat} {S : List Bool → Bool} (h : AMap w mb k s S) (ty : TypeId) : (Builtin.len_ #[141] ty #[.map (some mb)]).run Try.prog w = .ok (.int .i64 (s : Int)) w := by
  obtain ⟨D, h1, h2, _⟩ := h
  rw [h1.len Try.underlying141 ty, h2]
/-- the set behind k warps -/
def SetK {κ : Type} (key : Nat → κ) (k : Nat) (S : κ → Bool) : Prop := ∀ x, S x = true ↔ ∃ j, j < k ∧ key j = x
theorem SetK.start {κ : Type} (key : Nat → κ) : SetK key 0 fun _ => false := fun x => ⟨fun h => (by cases h), fun ⟨j, h, _⟩ => (by omega)⟩
theorem SetK.step {κ : Type} [DecidableEq κ] {key : Nat → κ} {k : Nat} {S : κ → Bool} (h : SetK key k S) : SetK key (k + 1) (fun x => decide (x = key k) || S x) ∧ cntF key (k + 1) = if S (key k) then cntF key k else cntF key k + 1 := by
  refine ⟨fun x => ?_, ?_⟩
  · rw [Bool.or_eq_true, decide_eq_true_eq, h x]
    constructor
    · rintro (e | ⟨j, h1, h2⟩)
      · exact ⟨k, by omega, e.symm⟩
      · exact ⟨j, by omega, h2⟩
    · rintro ⟨j, h1, h2⟩
      by_cases e : j = k
      · subst e; exact .inl h2.symm
      · exact .inr ⟨j, by omega, h2⟩
  · rw [cntF]
    by_cases hS : S (key k) = true
    · rw [if_pos hS]
      obtain ⟨j, hj, e⟩ := (h _).1 hS
      rw [if_neg (fun e3 => absurd e (fstI_least (key := key) (k := k) (j := j) (by omega)))]
      rfl
    · rw [if_neg hS, if_pos (fstI_of_none fun j hj e => hS ((h _).2 ⟨j, hj, e⟩))]
/-- the cloth of a design, pick by pick -/
def pks (hs xs : List Nat) : List Nat := xs.map (pickP hs)
theorem pks_len (hs xs : List Nat) : (pks hs xs).length = xs.length := by simp [pks]
theorem pks_nth (hs xs : List Nat) {i : Nat} (h : i < xs.length) : nthN (pks hs xs) i = pickP hs (nthN xs i) := by simp [pks, nthN, h]
theorem cloth_cl {W : World} {b : Nat} {hs xs : List Nat} (h : StrsAt W b 0 (clothS hs xs)) (hb : b < W.heap.size) (h0 : 1 ≤ hs.length) (h1 : hs.length ≤ 96) : ClAt W b 0 hs.length (pks hs xs) :=
  ⟨fun i hi => by
    rw [pks_len] at hi
    have := h i (by rw [clothS_len]; exact hi)
    refine ⟨_, ?_, this⟩
    rw [pks_nth hs xs hi]
    have e : nthB (clothS hs xs) i = pickS hs (nthN xs i) := by simp [nthB, clothS, hi]
    rw [e]
    exact pick_strB hs _ h0 h1, hb⟩
theorem colL_iff {ps : List Nat} {a b : Nat} : colL ps a = colL ps b ↔ ∀ i, i < ps.length → bitN (nthN ps i) a = bitN (nthN ps i) b := by
  unfold colL
  constructor
  · intro h i hi
    have := congrArg (fun l => l[i]?) h
    simp [hi] at this
    have h2 := byteP_u8_eq.1 this
    simpa [nthN, hi] using h2
  · intro h
    apply List.ext_getElem?
    intro i
    by_cases hi : i < ps.length
    · simp only [List.getElem?_map, List.getElem?_eq_getElem hi, Option.map_some]
      have := h i hi
      rw [nthN_get _ _ hi] at this
      rw [byteP_u8_eq.2 this]
    · rw [List.getElem?_eq_none (by simp; omega), List.getElem?_eq_none (by simp; omega)]
/-- the points of a hook -/
def tenF (xs : List Nat) (h : Nat) : Nat → Bool := fun i => decide (i < xs.length) && bitN (nthN xs i) h
def tenK (hs xs : List Nat) (w : Nat) : List Bool := tenL (tenF xs (nthN hs w))
theorem ten_col {hs xs : List Nat} (hl : xs.length ≤ 10) {a b : Nat} (ha : a < hs.length) (hb : b < hs.length) : colL (pks hs xs) a = colL (pks hs xs) b ↔ tenK hs xs a = tenK hs xs b := by
  rw [colL_iff, tenK, tenK, tenL_iff, pks_len]
  constructor
  · intro h i _
    unfold tenF
    by_cases hx : i < xs.length
    · have := h i hx
      rw [pks_nth hs xs hx, pickP_bit _ _ _ ha, pickP_bit _ _ _ hb] at this
      rw [this]
    · rw [decide_eq_false hx]; rfl
  · intro h i hx
    have := h i (by omega)
    unfold tenF at this
    rw [decide_eq_true hx, Bool.true_and, Bool.true_and] at this
    rw [pks_nth hs xs hx, pickP_bit _ _ _ ha, pickP_bit _ _ _ hb]
    exact this
theorem ten_cnt {hs xs : List Nat} (hl : xs.length ≤ 10) : cntF (colL (pks hs xs)) hs.length = cntF (tenK hs xs) hs.length := cntF_congr (fun _ _ hi hj => ten_col hl hi hj) _ (Nat.le_refl _)
theorem few_le {hs xs : List Nat} {N : Nat} (hk : ∀ i, i < hs.length → nthN hs i < N) : cntF (colL (pks hs xs)) hs.length ≤ N := by
  refine cntF_le (nthN hs) (fun i j hi hj e => colL_iff.2 fun p hp => ?_) hk
  rw [pks_len] at hp
  rw [pks_nth hs xs hp, pickP_bit _ _ _ hi, pickP_bit _ _ _ hj, e]
/-- the new design weaves each pick of a cloth -/
theorem few_bit {ps : List Nat} {n i : Nat} (hi : i < ps.length) {w : Nat} (hw : w < n) : bitN (drowN (fewL ps n) (nthN ps i) n) (nthN (fewL ps n) w) = bitN (nthN ps i) w := by
  rw [Bool.eq_iff_iff, drowN_bit]
  constructor
  · rintro ⟨j, hj, e, hb⟩
    rw [fewL_nth ps hj, fewL_nth ps hw] at e
    rw [← colL_iff.1 (fewH_inj e) i hi]
    exact hb
  · intro hb
    exact ⟨w, hw, rfl, hb⟩
theorem few_cloth (hs xs : List Nat) : clothS (fewL (pks hs xs) hs.length) (dsnL (fewL (pks hs xs) hs.length) (pks hs xs)) = clothS hs xs := by
  have hl : (dsnL (fewL (pks hs xs) hs.length) (pks hs xs)).length = xs.length := by rw [dsnL_len, pks_len]
  unfold clothS
  rw [hl]
  apply List.map_congr_left
  intro i hi
  rw [List.mem_range] at hi
  have hip : i < (pks hs xs).length := by rw [pks_len]; exact hi
  unfold pickS clothL
  congr 1
  rw [fewL_len]
  apply List.map_congr_left
  intro w hw
  rw [List.mem_range] at hw
  unfold clothB
  rw [dsnL_nth _ _ hip, fewL_len, few_bit hip hw, pks_nth hs xs hi, pickP_bit _ _ _ hw]
theorem few_valid {hs xs : List Nat} {N : Nat} (hk : ∀ i, i < hs.length → nthN hs i < N) (hN : N ≤ 24) (h0 : 1 ≤ hs.length) (hx0 : 1 ≤ xs.length) (hx1 : xs.length ≤ 60) :
    Valid (cntF (colL (pks hs xs)) hs.length) (dsnL (fewL (pks hs xs) hs.length) (pks hs xs)) := by
  refine ⟨cntF_pos h0, Nat.le_trans (few_le hk) hN, by rw [dsnL_len, pks_len]; exact hx0, by rw [dsnL_len, pks_len]; exact hx1, fun i => ?_⟩
  by_cases hi : i < (pks hs xs).length
  · rw [dsnL_nth _ _ hi]
    exact drowN_lt _ _ (fun j hj => by rw [fewL_len] at hj; rw [fewL_nth _ hj]; exact fewH_lt hj) _ (Nat.le_refl _)
  · have : nthN (dsnL (fewL (pks hs xs) hs.length) (pks hs xs)) i = 0 := by
      unfold nthN
      rw [List.getElem?_eq_none (by rw [dsnL_len]; omega)]; rfl
    rw [this]; exact Nat.pow_pos (by decide)
set_option maxHeartbeats 1000000 in
theorem call109 (L b c : Nat) (ss : List ByteArray) (w : World) (hL : ss.length = L) (h0 : 0 < L) (hl : L ≤ 60) (hx : StrsAt w b 0 ss) (hb : b < w.heap.size) :
    Calls Try.prog 109 #[.slice (some ⟨b, 0, none⟩) L c] w fun e w' =>
      ∃ g cap, e = .returned (.slice (some ⟨g, 0, none⟩) L cap) ∧ StrsAt w' g 0 ss ∧ w.heap.size ≤ g ∧ g < w'.heap.size ∧ Below w.heap.size w w' := by
  subst hL
  have hx1 := hx.below ((Below.refl _ _).alloc (Nat.le_refl _) (.cells #[] 9)) hb
  have HX := Lib.hid hx1
  clear hx hx1
  go_enter Try.func109, Try.ntmps109
  go_wp2_with (at_builtin; refine Shut.out ?_)
  unfold Shut
  refine app_copy elemStr rfl _ _ rfl rfl ⟨b, 0, none⟩ ss.length c (ss.map Value.string) rfl (by simp) (by simp [Value.oneCell']) h0 (by omega) (by decide) ?_ ?_
  · intro j u hj
    simp only [List.getElem?_map, Option.map_eq_some_iff] at hj
    obtain ⟨x, hx, rfl⟩ := hj
    have hjl : j < ss.length := (List.getElem?_eq_some_iff.1 hx).1
    have := HX.out j hjl
    rw [nthB, hx] at this
    rw [show (⟨b, 0, none⟩ : Addr).add j = ⟨b, 0 + j, none⟩ by unfold Addr.add; split <;> simp_all]
    exact this
  intro g cap w1 hr hb1
  have Hr := Lib.hid hr
  have Hb1 := Lib.hid hb1
  clear hr hb1
  go_wp2_with fail
  go_ret
  obtain ⟨a, b, d⟩ := strs_of_row Hr.out h0
  exact ⟨g, cap, rfl, a, d, b, Hb1.out⟩
theorem call54 (N T L M b c : Nat) (hs xs : List Nat) (W : World) (hT : hs.length = T) (hL : xs.length = L) (hT0 : 1 ≤ T) (hT1 : T ≤ 96) (hL0 : 1 ≤ L) (hL1 : L ≤ 60) (hN : N ≤ 24) (hk : ∀ i, i < T → nthN hs i < N) (hM : cntF (colL (pks hs xs)) T = M) (hx : StrsAt W b 0 (clothS hs xs)) (hb : b < W.heap.size) :
    Calls Try.prog 54 #[.slice (some ⟨b, 0, none⟩) L c] W fun e w' =>
      ∃ g cap g2 cap2, e = .returned (.tuple #[.agg #[.int .i64 (M : Int), .slice (some ⟨g, 0, none⟩) T cap], .agg #[.int .i64 (M : Int), .slice (some ⟨g2, 0, none⟩) L cap2], .int .i64 0]) ∧
        NatsAt w' g 0 (fewL (pks hs xs) T) ∧ NatsAt w' g2 0 (dsnL (fewL (pks hs xs) T) (pks hs xs)) ∧ W.heap.size ≤ g ∧ g < w'.heap.size ∧ W.heap.size ≤ g2 ∧ g2 < w'.heap.size ∧ Below W.heap.size W w' := by
  subst hT hL hM
  have h := Fewest_any b 0 c hs.length (pks hs xs) W (cloth_cl hx hb hT0 hT1) (by rw [pks_len]; exact hL0) (by rw [pks_len]; exact hL1) hT0 hT1 (Nat.le_trans (few_le hk) hN)
  rw [pks_len] at h
  exact h
end Go.Proofs.Ytdmgffoikebgkaa
