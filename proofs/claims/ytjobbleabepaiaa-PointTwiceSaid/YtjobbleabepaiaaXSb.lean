/- PointTwice: the walk from its last shift on. -/
import Derived.Test.YtjobbleabepaiaaXR
import Derived.Deep.RegionHeld3
import Derived.Deep.DeepCutAuto
namespace Go.Proofs.Ytjobbleabepaiaa
open Go.RowKit Go.Shelf

/-- the code from a region on -/
def fromR (id : Nat) : Code → Option Code
  | .seq (.region i ops b) c => if i = id then some (.seq (.region i ops b) c) else fromR id c
  | .seq a c => match fromR id a with
    | some x => some x
    | none => fromR id c
  | .block _ c => fromR id c
  | .scope c => fromR id c
  | _ => none
def headR : Code → Code
  | .seq a _ => a
  | c => c
def restR : Code → Code
  | .seq _ c => c
  | c => c
noncomputable def twiceR : Code := headR (((Try.f13.body.bind (fromR 16))).getD .skip)
noncomputable def twiceK : Code := restR (((Try.f13.body.bind (fromR 16))).getD .skip)
set_option maxRecDepth 100000 in
set_option maxHeartbeats 8000000 in
theorem twice_tail (w WC : World) (n b off cd BD BM BF BK BT BM2 BF2 BK2 Rm Rf Rk Rt Rm2 Rf2 Rk2 P Q P2 Q2 p1 h1 : Nat) (A : Bool) (ys ms fs ks ts : List Nat) (u0 u1 u2 u3 u4 u5 u11 u12 u13 u14 u15 u16 u18 u20 u21 u34 u35 u36 u37 u38 u39 u40 u41 u42 u43 u44 u45 u46 u47 u48 u49 u50 u51 u52 u53 u54 u55 u56 u57 u58 u59 u60 u61 u62 u63 u64 u65 u66 u67 u68 u69 u70 u71 u72 u73 u74 u75 u76 u77 u78 u79 u80 u81 u82 u83 u84 u85 u86 u87 u88 u89 u90 u91 u92 u93 u94 u95 u96 u97 u98 u99 u100 u101 u102 u103 u104 u105 u106 u107 u108 u109 u110 u111 u112 u113 u114 u115 u116 u117 u118 u119 u120 u121 u122 u123 u124 u125 u126 u127 u128 u129 u130 u131 u132 u133 u134 u135 u136 u137 u138 u139 u140 u141 u142 u143 u144 u145 u146 u147 u148 u149 u150 u151 u152 u153 u154 u155 u156 u157 u158 u159 u160 u161 u162 u163 u164 u165 u166 u167 u168 u169 u170 u171 u172 u173 u174 u175 u176 u177 u178 u179 u180 u181 u182 u183 u184 u185 u186 u187 u188 u189 u190 u191 u192 u193 u194 u195 : Value) (K : Act → World → Prop)
    (hK : ∀ a w', Code.wp Try.prog twiceK (bodyPost Try.prog Try.f13 fun e w' => e = .returned (.bool true) ∧ Below w.heap.size w w') a w' → K a w')
    (HF : Hid (TwF n ys ms fs ks ts P Q P2 Q2 p1 h1 A)) (l0 : 1 ≤ ys.length) (l1 : ys.length ≤ 60) (n0 : 1 ≤ n) (n1 : n ≤ 24) (hP : P < ys.length) (hQ : Q < n) (S24 : Boxes w [⟨BK2, n, some ⟨Rk2, 0, none⟩, ys.length, ys.length, ints ys⟩, ⟨BF2, n, some ⟨Rf2, 0, none⟩, ys.length, ys.length, ints ys⟩, ⟨BM2, n, some ⟨Rm2, 0, none⟩, ys.length, ys.length, ints ys⟩, ⟨BT, n, some ⟨Rt, 0, none⟩, ts.length, ts.length, ints ts⟩, ⟨BK, n, some ⟨Rk, 0, none⟩, ks.length, ks.length, ints ks⟩, ⟨BF, n, some ⟨Rf, 0, none⟩, fs.length, fs.length, ints fs⟩, ⟨BM, n, some ⟨Rm, 0, none⟩, ms.length, ms.length, ints ms⟩, ⟨BD, n, some ⟨b, off, none⟩, ys.length, cd, ints ys⟩] WC) :
    Code.wp Try.prog twiceR (Exit.then K (bodyPost Try.prog Try.f13 fun e w' => e = .returned (.bool true) ∧ Below w.heap.size w w')) { tmps := List.toArray (u0 :: u1 :: u2 :: u3 :: u4 :: u5 :: (.bool false : Value) :: (.pointer (some ⟨BD, 0, none⟩) : Value) :: (.int .i64 (ys.length : Int) : Value) :: (.int .i64 (P : Int) : Value) :: (.int .i64 (Q : Int) : Value) :: u11 :: u12 :: u13 :: u14 :: u15 :: u16 :: (.pointer (some ⟨BK, 0, none⟩) : Value) :: u18 :: (.pointer (some ⟨BT, 0, none⟩) : Value) :: u20 :: u21 :: (.pointer (some ⟨BM2, 0, none⟩) : Value) :: (.int .i64 0 : Value) :: (.pointer (some ⟨BF2, 0, none⟩) : Value) :: (.int .i64 0 : Value) :: (.pointer (some ⟨BK2, 0, none⟩) : Value) :: (.int .i64 0 : Value) :: undef :: undef :: undef :: undef :: undef :: undef :: u34 :: u35 :: u36 :: u37 :: u38 :: u39 :: u40 :: u41 :: u42 :: u43 :: u44 :: u45 :: u46 :: u47 :: u48 :: u49 :: u50 :: u51 :: u52 :: u53 :: u54 :: u55 :: u56 :: u57 :: u58 :: u59 :: u60 :: u61 :: u62 :: u63 :: u64 :: u65 :: u66 :: u67 :: u68 :: u69 :: u70 :: u71 :: u72 :: u73 :: u74 :: u75 :: u76 :: u77 :: u78 :: u79 :: u80 :: u81 :: u82 :: u83 :: u84 :: u85 :: u86 :: u87 :: u88 :: u89 :: u90 :: u91 :: u92 :: u93 :: u94 :: u95 :: u96 :: u97 :: u98 :: u99 :: u100 :: u101 :: u102 :: u103 :: u104 :: u105 :: u106 :: u107 :: u108 :: u109 :: u110 :: u111 :: u112 :: u113 :: u114 :: u115 :: u116 :: u117 :: u118 :: u119 :: u120 :: u121 :: u122 :: u123 :: u124 :: u125 :: u126 :: u127 :: u128 :: u129 :: u130 :: u131 :: u132 :: u133 :: u134 :: u135 :: u136 :: u137 :: u138 :: u139 :: u140 :: u141 :: u142 :: u143 :: u144 :: u145 :: u146 :: u147 :: u148 :: u149 :: u150 :: u151 :: u152 :: u153 :: u154 :: u155 :: u156 :: u157 :: u158 :: u159 :: u160 :: u161 :: u162 :: u163 :: u164 :: u165 :: u166 :: u167 :: u168 :: u169 :: u170 :: u171 :: u172 :: u173 :: u174 :: u175 :: u176 :: u177 :: u178 :: u179 :: u180 :: u181 :: u182 :: u183 :: u184 :: u185 :: u186 :: u187 :: u188 :: u189 :: u190 :: u191 :: u192 :: u193 :: u194 :: u195 :: undef :: undef :: undef :: undef :: undef :: undef :: undef :: undef :: undef :: undef :: undef :: undef :: undef :: undef :: undef :: undef :: undef :: undef :: undef :: undef :: undef :: undef :: undef :: undef :: undef :: undef :: undef :: undef :: undef :: undef :: undef :: undef :: undef :: undef :: undef :: undef :: undef :: undef :: undef :: undef :: undef :: undef :: undef :: undef :: undef :: undef :: undef :: undef :: undef :: undef :: undef :: undef :: undef :: undef :: undef :: undef :: undef :: undef :: undef :: undef :: undef :: undef :: undef :: undef :: undef :: undef :: undef :: undef :: undef :: undef :: undef :: undef :: undef :: undef :: []), defers := [] } WC := by
  conv at hK => intro a w'; arg 1; arg 2; whnf
  conv => arg 2; whnf
  go_cut [28, 29] (fun s28 s29 wx => ∃ Bq Rq : Nat, s28 = .pointer (some ⟨Bq, 0, none⟩) ∧ s29 = .int .i64 0 ∧ Boxes w [⟨Bq, n, some ⟨Rq, 0, none⟩, ys.length, ys.length, ints ys⟩, ⟨BK2, n, some ⟨Rk2, 0, none⟩, ys.length, ys.length, ints ys⟩, ⟨BF2, n, some ⟨Rf2, 0, none⟩, ys.length, ys.length, ints ys⟩, ⟨BM2, n, some ⟨Rm2, 0, none⟩, ys.length, ys.length, ints ys⟩, ⟨BT, n, some ⟨Rt, 0, none⟩, ts.length, ts.length, ints ts⟩, ⟨BK, n, some ⟨Rk, 0, none⟩, ks.length, ks.length, ints ks⟩, ⟨BF, n, some ⟨Rf, 0, none⟩, fs.length, fs.length, ints fs⟩, ⟨BM, n, some ⟨Rm, 0, none⟩, ms.length, ms.length, ints ms⟩, ⟨BD, n, some ⟨b, off, none⟩, ys.length, cd, ints ys⟩] wx)
  case first =>
    have b1 := S24.get (x := ⟨BT, n, some ⟨Rt, 0, none⟩, ts.length, ts.length, ints ts⟩) (by simp)
    have b2 := S24.get (x := ⟨BD, n, some ⟨b, off, none⟩, ys.length, cd, ints ys⟩) (by simp)
    have m1 := HF.out.t1
    have m2 := HF.out.t2
    have hs0 : ¬ ys.length = 0 := by omega
    have hs1 : ¬ n = 0 := by omega
    have hw1 : IntKind.i64.wrap ((ys.length : Int) - (P : Int)) = (ys.length : Int) - (P : Int) := IntWalk.i64_in _ (by omega)
    have hw2 : IntKind.i64.wrap ((n : Int) - (Q : Int)) = (n : Int) - (Q : Int) := IntWalk.i64_in _ (by omega)
    have HvA := Lib.hid (S24.drew.vat (B := BT) (b := Rt) (off := 0) (c := ts.length) (by simp) HF.out.vt)
    have HvB := Lib.hid ((S24.next (below1 WC (.cells #[.int .i64 0, .slice none 0 0] 24))).drew.vat (B := BT) (b := Rt) (off := 0) (c := ts.length) (by simp) HF.out.vt)
    have HqA := Lib.hid (fun (w5 : World) (hb : Below ((WC.alloc (.cells #[.int .i64 0, .slice none 0 0] 24)).drew).heap.size ((WC.alloc (.cells #[.int .i64 0, .slice none 0 0] 24)).drew) w5) => resA hb)
    have HSd := Lib.hid (S24.drew)
    have HSA := Lib.hid (S24.next (below1 WC (.cells #[.int .i64 0, .slice none 0 0] 24))).drew
    have HFl := Lib.hid (fun (w5 : World) (R5 : Nat) (hb : Below ((WC.alloc (.cells #[.int .i64 0, .slice none 0 0] 24)).drew).heap.size ((WC.alloc (.cells #[.int .i64 0, .slice none 0 0] 24)).drew) w5) (hn : NatBlk w5 R5 ys) (hR : ((WC.alloc (.cells #[.int .i64 0, .slice none 0 0] 24)).drew).heap.size ≤ R5) => S24.filled (n := n) (by omega) (hb.mono (by simp)) hn (by simpa using hR))
    have HKc := Lib.hid (fun (W : World) (h : Boxes w [⟨BK2, n, some ⟨Rk2, 0, none⟩, ys.length, ys.length, ints ys⟩, ⟨BF2, n, some ⟨Rf2, 0, none⟩, ys.length, ys.length, ints ys⟩, ⟨BM2, n, some ⟨Rm2, 0, none⟩, ys.length, ys.length, ints ys⟩, ⟨BT, n, some ⟨Rt, 0, none⟩, ts.length, ts.length, ints ts⟩, ⟨BK, n, some ⟨Rk, 0, none⟩, ks.length, ks.length, ints ks⟩, ⟨BF, n, some ⟨Rf, 0, none⟩, fs.length, fs.length, ints fs⟩, ⟨BM, n, some ⟨Rm, 0, none⟩, ms.length, ms.length, ints ms⟩, ⟨BD, n, some ⟨b, off, none⟩, ys.length, cd, ints ys⟩] W) => And.intro (h.get (x := ⟨BT, n, some ⟨Rt, 0, none⟩, ts.length, ts.length, ints ts⟩) (by simp)).1 (And.intro (h.get (x := ⟨BT, n, some ⟨Rt, 0, none⟩, ts.length, ts.length, ints ts⟩) (by simp)).2.1 (And.intro (h.get (x := ⟨BD, n, some ⟨b, off, none⟩, ys.length, cd, ints ys⟩) (by simp)).1 h)))
    go_region_held3 (fun w' => w'.cell? ⟨BT, 0, none⟩ = some (.int .i64 (n : Int)) ∧ w'.cell? ⟨BT, 1, none⟩ = some (.slice (some ⟨Rt, 0, none⟩) ts.length ts.length) ∧ w'.cell? ⟨BD, 0, none⟩ = some (.int .i64 (n : Int)) ∧ Boxes w [⟨BK2, n, some ⟨Rk2, 0, none⟩, ys.length, ys.length, ints ys⟩, ⟨BF2, n, some ⟨Rf2, 0, none⟩, ys.length, ys.length, ints ys⟩, ⟨BM2, n, some ⟨Rm2, 0, none⟩, ys.length, ys.length, ints ys⟩, ⟨BT, n, some ⟨Rt, 0, none⟩, ts.length, ts.length, ints ts⟩, ⟨BK, n, some ⟨Rk, 0, none⟩, ks.length, ks.length, ints ks⟩, ⟨BF, n, some ⟨Rf, 0, none⟩, fs.length, fs.length, ints fs⟩, ⟨BM, n, some ⟨Rm, 0, none⟩, ms.length, ms.length, ints ms⟩, ⟨BD, n, some ⟨b, off, none⟩, ys.length, cd, ints ys⟩] w')
      ((first
        | exact HKc.out _ HSd.out
        | exact HKc.out _ HSA.out
        | exact HKc.out _ (HSd.out.next hb5)
        | exact HKc.out _ (HSA.out.next hb5)
        | exact HKc.out _ ((HSd.out.next hb5).next (below1 _ _))
        | exact HKc.out _ ((HFl.out _ _ hb5 hn5 hR5).of_all (fun x hx => List.mem_cons_of_mem _ hx))))
      ((go_at_call 38; (with_reducible refine (HF.out.T2 _ _ _ _ ?_).mono ?_); rotate_left 1; rintro e w5 ⟨R5, rfl, hR5, hn5, hb5⟩; (try have q5 := HqA.out _ hb5); rotate_left 1; (first | exact HvA.out | exact HvB.out)))
    all_goals (go_wp2_with fail; go_meet)
    all_goals first
      | exact ⟨_, R5, rfl, rfl, HFl.out _ _ hb5 hn5 hR5⟩
      | exact ⟨_, R5, rfl, rfl, (HSd.out.next hb5).push n (some ⟨R5, 0, none⟩) ys.length ys.length (ints ys) (blk_reads hn5 (by omega) _)⟩
  case rest =>
    obtain ⟨Bq, Rq, rfl, rfl, SQ⟩ := hcut
    clear S24
    have c1 := SQ.get (x := ⟨BD, n, some ⟨b, off, none⟩, ys.length, cd, ints ys⟩) (by simp)
    have c2 := SQ.get (x := ⟨BK, n, some ⟨Rk, 0, none⟩, ks.length, ks.length, ints ks⟩) (by simp)
    go_wp2_with fail
    refine (HF.out.D _ _ _ _ _ _ _ (SQ.vat (B := BD) (by simp) HF.out.v) (SQ.vat (B := BK) (by simp) HF.out.vk)).mono ?_
    rintro e wd ⟨xq, yq, rfl, hbd⟩
    have SD := SQ.next hbd
    clear SQ hbd c1 c2
    have hm0 : (0 : Int) ≤ (ys.length : Int) * (n : Int) := Int.mul_nonneg (by omega) (by omega)
    have hm1 : (ys.length : Int) * (n : Int) ≤ 60 * 24 := Int.mul_le_mul (by omega) (by omega) (by omega) (by omega)
    have a1 := SD.get (x := ⟨BD, n, some ⟨b, off, none⟩, ys.length, cd, ints ys⟩) (by simp)
    have a2 := SD.get (x := ⟨BM2, n, some ⟨Rm2, 0, none⟩, ys.length, ys.length, ints ys⟩) (by simp)
    go_wp2_with fail
    refine (SD.plain (is_reads n (some ⟨Rm2, 0, none⟩) (some ⟨b, off, none⟩) ys.length ys.length ys.length cd (ints ys) _ (SD.all ⟨BM2, n, some ⟨Rm2, 0, none⟩, ys.length, ys.length, ints ys⟩ (by simp)).r (SD.all ⟨BD, n, some ⟨b, off, none⟩, ys.length, cd, ints ys⟩ (by simp)).r)).mono ?_
    rintro e w61 ⟨rfl, S61⟩
    have a61_0 := S61.get (x := ⟨BF2, n, some ⟨Rf2, 0, none⟩, ys.length, ys.length, ints ys⟩) (by simp)
    have a61_1 := S61.get (x := ⟨BD, n, some ⟨b, off, none⟩, ys.length, cd, ints ys⟩) (by simp)
    clear SD a1 a2 hm0 hm1
    go_wp2_with fail
    refine (S61.plain (is_reads n (some ⟨Rf2, 0, none⟩) (some ⟨b, off, none⟩) ys.length ys.length ys.length cd (ints ys) _ (S61.all ⟨BF2, n, some ⟨Rf2, 0, none⟩, ys.length, ys.length, ints ys⟩ (by simp)).r (S61.all ⟨BD, n, some ⟨b, off, none⟩, ys.length, cd, ints ys⟩ (by simp)).r)).mono ?_
    rintro e w62 ⟨rfl, S62⟩
    have a62_0 := S62.get (x := ⟨BK2, n, some ⟨Rk2, 0, none⟩, ys.length, ys.length, ints ys⟩) (by simp)
    have a62_1 := S62.get (x := ⟨BD, n, some ⟨b, off, none⟩, ys.length, cd, ints ys⟩) (by simp)
    clear S61 a61_0 a61_1
    go_wp2_with fail
    refine (S62.plain (is_reads n (some ⟨Rk2, 0, none⟩) (some ⟨b, off, none⟩) ys.length ys.length ys.length cd (ints ys) _ (S62.all ⟨BK2, n, some ⟨Rk2, 0, none⟩, ys.length, ys.length, ints ys⟩ (by simp)).r (S62.all ⟨BD, n, some ⟨b, off, none⟩, ys.length, cd, ints ys⟩ (by simp)).r)).mono ?_
    rintro e w63 ⟨rfl, S63⟩
    have a63_0 := S63.get (x := ⟨Bq, n, some ⟨Rq, 0, none⟩, ys.length, ys.length, ints ys⟩) (by simp)
    have a63_1 := S63.get (x := ⟨BD, n, some ⟨b, off, none⟩, ys.length, cd, ints ys⟩) (by simp)
    clear S62 a62_0 a62_1
    go_wp2_with fail
    refine (S63.plain (is_reads n (some ⟨Rq, 0, none⟩) (some ⟨b, off, none⟩) ys.length ys.length ys.length cd (ints ys) _ (S63.all ⟨Bq, n, some ⟨Rq, 0, none⟩, ys.length, ys.length, ints ys⟩ (by simp)).r (S63.all ⟨BD, n, some ⟨b, off, none⟩, ys.length, cd, ints ys⟩ (by simp)).r)).mono ?_
    rintro e w64 ⟨rfl, S64⟩
    clear S63 a63_0 a63_1
    go_wp2_with fail
    refine (known_any _).mono ?_
    rintro e wz ⟨rfl, hbz⟩
    have SZ := S64.next hbz
    clear S64 hbz
    go_wp2_with fail
    go_ret
    exact ⟨rfl, SZ.below⟩
end Go.Proofs.Ytjobbleabepaiaa
