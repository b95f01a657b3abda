/- Proof of the reference; lists of floats compared. -/
import Derived.Test.YtjobbleabepaiaaXB
import Derived.Deep.RegionLaw
import Derived.Deep.DeepCutAuto
namespace Go.Proofs.Ytjobbleabepaiaa
open Go.RowKit

set_option maxRecDepth 100000 in
set_option maxHeartbeats 4000000 in
theorem Alike_same (p1 p2 : Option Addr) (c1 c2 : Nat) (fs : List Fl) (w : World) (hl : fs.length ≤ 100000) (h1 : 0 < fs.length → ∃ g, p1 = some ⟨g, 0, none⟩ ∧ FlsAt w g fs) (h2 : 0 < fs.length → ∃ g, p2 = some ⟨g, 0, none⟩ ∧ FlsAt w g fs) :
    Calls Try.prog 25 #[.slice p1 fs.length c1, .slice p2 fs.length c2] w fun e w' => e = .returned (.bool true) ∧ Below w.heap.size w w' := by
  have H1 := Lib.hid h1
  have H2 := Lib.hid h2
  clear h1 h2
  go_enter Try.func25, Try.ntmps25
  go_wp2
  go_loopw [5] (fun i wr => ∃ k : Nat, k ≤ fs.length ∧ i = .int .i64 k ∧ Below w.heap.size w wr) (fun i _ => fs.length - (intOf i).toNat)
  case atStart => exact ⟨0, Nat.zero_le _, rfl, Below.refl _ _⟩
  case round =>
    obtain ⟨k, hk, rfl, hB⟩ := hrel
    have HB := Lib.hid hB
    clear hB
    by_cases hlt : k < fs.length
    · obtain ⟨g1, rfl, f1⟩ := H1.out (by omega)
      obtain ⟨g2, rfl, f2⟩ := H2.out (by omega)
      have f1' := f1.below HB.out f1.lt
      have f2' := f2.below HB.out f2.lt
      have x0 := f1'.c0 k hlt
      have x1 := f1'.c1 k hlt
      have x2 := f1'.c2 k hlt
      have x3 := f1'.c3 k hlt
      have y0 := f2'.c0 k hlt
      have y1 := f2'.c1 k hlt
      have y2 := f2'.c2 k hlt
      have y3 := f2'.c3 k hlt
      obtain ⟨f, hf⟩ : ∃ f, nthF fs k = f := ⟨_, rfl⟩
      rw [hf] at x0 x1 x2 x3 y0 y1 y2 y3
      have hk0 : (0 : Int) ≤ (k : Int) := by omega
      have hk1 : (k : Int) < (fs.length : Int) := by omega
      clear f1 f2 f1' f2' hf
      go_wp2_with fail
      go_region
      all_goals go_wp2
      all_goals go_roundw
      all_goals first | (simp [intOf]; omega) | exact ⟨k + 1, by omega, by go_num, HB.out.drew⟩
    · go_wp2
      go_ret
      exact ⟨rfl, HB.out⟩

theorem win_lt (M m a : Nat) : m < M - a * (m + 1) ↔ a < M / (m + 1) := by
  have h : a + 1 ≤ M / (m + 1) ↔ (a + 1) * (m + 1) ≤ M := Nat.le_div_iff_mul_le (by omega)
  rw [Nat.add_mul, Nat.one_mul] at h
  omega
theorem win_next (h a m n : Nat) : ((h + a * (m + 1)) % n + m + 1) % n = (h + (a + 1) * (m + 1)) % n := by
  rw [Nat.add_assoc, Nat.mod_add_mod, Nat.add_mul, Nat.one_mul]
  congr 1
  omega
/-- what Proof of the reference reads -/
structure QAt (w0 : World) (n b off c : Nat) (xs : List Nat) (p : Option Addr) (fs : List Fl) (T : Nat) (W : World) : Prop where
  d : DBox W w0.heap.size n b off c xs
  fl : 0 < fs.length → ∃ g, p = some ⟨g, 0, none⟩ ∧ g ≠ w0.heap.size + 1 ∧ g < T ∧ FlsAt W g fs
  below : Below w0.heap.size w0 W
  lo : w0.heap.size + 1 < T
  hi : T ≤ W.heap.size
theorem QAt.next {w0 W W' : World} {n b off c : Nat} {xs : List Nat} {p : Option Addr} {fs : List Fl} {T : Nat} (h : QAt w0 n b off c xs p fs T W) (hb : Below W.heap.size W W') : QAt w0 n b off c xs p fs T W' :=
  ⟨h.d.below hb h.d.lt, fun hp => by obtain ⟨g, e, h1, h2, hf⟩ := h.fl hp; exact ⟨g, e, h1, h2, hf.below hb hf.lt⟩, h.below.trans (hb.mono h.below.size), h.lo, Nat.le_trans h.hi hb.size⟩
theorem FlsAt.kept2 {w w' : World} {g : Nat} {fs : List Fl} (h : FlsAt w g fs) {row : Option Nat} (hg : w.grownBy w' row) (hne : some g ≠ row) : FlsAt w' g fs := by
  have e : ∀ j, w'.cell? ⟨g, j, none⟩ = w.cell? ⟨g, j, none⟩ := fun j => World.cell?_of_block (w := w) (a := ⟨g, j, none⟩) (hg.block g h.lt hne)
  exact ⟨fun i hi => (e _).trans (h.c0 i hi), fun i hi => (e _).trans (h.c1 i hi), fun i hi => (e _).trans (h.c2 i hi), fun i hi => (e _).trans (h.c3 i hi), Nat.lt_of_lt_of_le h.lt hg.size⟩
theorem QAt.grown {w0 W W' : World} {n b off c : Nat} {xs : List Nat} {p : Option Addr} {fs : List Fl} {T : Nat} {v : Value} (h : QAt w0 n b off c xs p fs T W) (hf : Far v (w0.heap.size + 1) T) (hg : W.grownBy W' v.ownBlock) : QAt w0 n b off c xs p fs T W' := by
  have hlo := h.lo
  have hhi := h.hi
  have hne : ∀ x, x ≠ w0.heap.size + 1 → x < T → some x ≠ v.ownBlock := fun x a b e => by
    rcases hf x e.symm with h | h
    · exact a h
    · omega
  have hd : ∀ j, W'.cell? ⟨w0.heap.size, j, none⟩ = W.cell? ⟨w0.heap.size, j, none⟩ := fun j => World.cell?_of_block (w := W) (a := ⟨w0.heap.size, j, none⟩) (hg.block w0.heap.size h.d.lt (hne w0.heap.size (by omega) (by omega)))
  have hB : Below w0.heap.size W W' := ⟨hg.os, hg.tape, hg.output, hg.size, fun k hk => hg.block k (by omega) (hne k (by omega) (by omega))⟩
  exact ⟨⟨(hd 0).trans h.d.c0, (hd 1).trans h.d.c1⟩, fun hp => by obtain ⟨g, e, h1, h2, hf⟩ := h.fl hp; exact ⟨g, e, h1, h2, hf.kept2 hg (hne g h1 h2)⟩, h.below.trans hB, hlo, Nat.le_trans hhi hg.size⟩

set_option maxRecDepth 100000 in
set_option maxHeartbeats 8000000 in
theorem refProof_any (n b off c m : Nat) (xs : List Nat) (w : World) (hv : VAt w b off c n xs) (hm : m ≤ 24) :
    Calls Try.prog 34 #[.agg #[.int .i64 (n : Int), .slice (some ⟨b, off, none⟩) xs.length c], .int .i64 (m : Int)] w
      fun e w' => ∃ v, e = .returned v ∧ w'.ownsRow w.heap.size 87 4 v (proofN n m xs).length (flCells (proofN n m xs)) ∧ Below w.heap.size w w' := by
  obtain ⟨i0, hi, hz0, hz1, hz2⟩ := info_parts Try.info87
  have n0 := hv.ok.n0
  have n1 := hv.ok.n1
  have l0 := hv.ok.l0
  have l1 := hv.ok.l1
  have HF : Hid (∀ W, VAt W b off c n xs → Calls Try.prog 26 #[.agg #[.int .i64 (n : Int), .slice (some ⟨b, off, none⟩) xs.length c], .bool false, .int .i64 (m : Int)] W
      fun e w' => ∃ v, e = .returned v ∧ w'.ownsRow W.heap.size 87 4 v (upTo (flW n xs m) xs.length).length (flCells (upTo (flW n xs m) xs.length)) ∧ Below W.heap.size W w') := Lib.hid fun W h => refFloatsW_any n b off c xs m W h
  obtain ⟨fs, hfs⟩ : ∃ fs, upTo (flW n xs m) xs.length = fs := ⟨_, rfl⟩
  have hfn : fs.length ≤ 3600 := by rw [← hfs]; exact flW_all_len n xs m n0 n1 l1
  have hfm : ∀ i, i < fs.length → (nthF fs i).hook < n ∧ (nthF fs i).length ≤ 1000 := fun i hi => by
    have := nthF_mem fs i hi
    obtain ⟨x, hx⟩ : ∃ x, nthF fs i = x := ⟨_, rfl⟩
    rw [hx, ← hfs] at this
    rw [hx]
    exact (flW_mem n0 n1 this).2
  have hpf : proofN n m xs = winsTo n m fs fs.length := by unfold proofN; rw [hfs]
  rw [hpf]
  rw [hfs] at HF
  have HM := Lib.hid hfm
  have HV := Lib.hid hv
  have HB1 : Hid (Below w.heap.size w ((w.alloc (.cells #[.int .i64 (n : Int), .slice (some ⟨b, off, none⟩) xs.length c] 24)).alloc (.cells #[] 87))) := Lib.hid (((Below.refl _ _).alloc (Nat.le_refl _) _).alloc (by simp) _)
  have d0 : ((w.alloc (.cells #[.int .i64 (n : Int), .slice (some ⟨b, off, none⟩) xs.length c] 24)).alloc (.cells #[] 87)).cell? ⟨w.heap.size, 0, none⟩ = some (.int .i64 (n : Int)) :=
    ((below_new1 (w.alloc (.cells #[.int .i64 (n : Int), .slice (some ⟨b, off, none⟩) xs.length c] 24)) (.cells #[] 87)).cell (p := ⟨w.heap.size, 0, none⟩) (by simp)).trans (by simp)
  have d1 : ((w.alloc (.cells #[.int .i64 (n : Int), .slice (some ⟨b, off, none⟩) xs.length c] 24)).alloc (.cells #[] 87)).cell? ⟨w.heap.size, 1, none⟩ = some (.slice (some ⟨b, off, none⟩) xs.length c) :=
    ((below_new1 (w.alloc (.cells #[.int .i64 (n : Int), .slice (some ⟨b, off, none⟩) xs.length c] 24)) (.cells #[] 87)).cell (p := ⟨w.heap.size, 1, none⟩) (by simp)).trans (by simp)
  have hE : ((w.alloc (.cells #[.int .i64 (n : Int), .slice (some ⟨b, off, none⟩) xs.length c] 24)).alloc (.cells #[] 87)).heap[w.heap.size + 1]? = some (.cells #[] 87 (0, 0)) := by
    have := heap_alloc_new (w.alloc (.cells #[.int .i64 (n : Int), .slice (some ⟨b, off, none⟩) xs.length c] 24)) (.cells #[] 87)
    rwa [World.size_alloc] at this
  have HE := Lib.hid hE
  have HD := Lib.hid (And.intro d0 d1)
  clear hv hfs hpf hfm hE
  go_enter Try.func34, Try.ntmps34
  go_wp2_with fail
  refine (HF.out _ (HV.out.below HB1.out)).mono ?_
  rintro e w1 ⟨v, rfl, hrow1, hb1⟩
  have hE1 : w1.heap[w.heap.size + 1]? = some (.cells #[] 87 (0, 0)) := (hb1.block _ (by simp)).trans HE.out
  obtain ⟨p, cap, rfl, hFl⟩ := Fls.of_row hrow1
  have hown0 : w1.ownsRow (w.heap.size + 1) 87 4 (.slice (some ⟨w.heap.size + 1, 0, none⟩) 0 0) 0 [] := ⟨by simp, .inr ⟨w.heap.size + 1, 0, #[], rfl, Nat.le_refl _, hE1, Nat.le_refl _, Nat.zero_le _, by simp, by simp⟩⟩
  have hQ : QAt w n b off c xs p fs w1.heap.size w1 := by
    have hs := hb1.size
    simp at hs
    refine ⟨⟨(hb1.cell (p := ⟨w.heap.size, 0, none⟩) (by simp; omega)).trans HD.out.1, (hb1.cell (p := ⟨w.heap.size, 1, none⟩) (by simp; omega)).trans HD.out.2⟩, fun hp => ?_, HB1.out.trans (hb1.mono HB1.out.size), by omega, Nat.le_refl _⟩
    obtain ⟨g, rfl, hf⟩ := hFl hp
    have hge := (hrow1.lt g rfl).1
    simp at hge
    exact ⟨g, rfl, by omega, hf.lt, hf⟩
  obtain ⟨T, hTe⟩ : ∃ T, w1.heap.size = T := ⟨_, rfl⟩
  rw [hTe] at hQ
  have HQ := Lib.hid hQ
  have HO := Lib.hid hown0
  clear hrow1 hb1 hE1 hFl hown0 hQ hTe d0 d1
  go_wp2_with fail
  go_loopw [5, 7] (fun v i wr => ∃ (k g3 c3 : Nat), k ≤ fs.length ∧ i = .int .i64 k ∧ v = .slice (some ⟨g3, 0, none⟩) (winsTo n m fs k).length c3 ∧ Far v (w.heap.size + 1) T ∧ wr.ownsRow (w.heap.size + 1) 87 4 v (winsTo n m fs k).length (flCells (winsTo n m fs k)) ∧ QAt w n b off c xs p fs T wr) (fun _ i _ => fs.length - (intOf i).toNat)
  case atStart =>
    exact ⟨0, w.heap.size + 1, 0, Nat.zero_le _, rfl, rfl, fun x hx => by simp [Value.ownBlock] at hx; exact .inl hx.symm, HO.out, HQ.out⟩
  case round =>
    obtain ⟨k, g3, c3, hk, rfl, rfl, hfar, hrow, hq⟩ := hrel
    obtain ⟨wo, rfl⟩ : ∃ wo : World, wo = wr := ⟨_, rfl⟩
    have hul := winsTo_len n m fs n1 k
    obtain ⟨us, hus⟩ : ∃ us, winsTo n m fs k = us := ⟨_, rfl⟩
    rw [hus] at hul hfar hrow
    rw [hus]
    have HUS := Lib.hid hus
    have HFar := Lib.hid hfar
    have HRw := Lib.hid hrow
    have HQ2 := Lib.hid hq
    clear hfar hrow hus HQ HO
    by_cases hlt : k < fs.length
    · obtain ⟨g, rfl, hg1, hg2, hFA⟩ := hq.fl (by omega)
      obtain ⟨f, hf⟩ : ∃ f, nthF fs k = f := ⟨_, rfl⟩
      have c1 := hFA.c1 k hlt
      have c2 := hFA.c2 k hlt
      have hfk := HM.out k hlt
      rw [hf] at c1 c2 hfk
      obtain ⟨hfh, hfl⟩ := hfk
      have e0 := hq.d.c0
      have hk0 : (0 : Int) ≤ (k : Int) := by omega
      have hk1 : (k : Int) < (fs.length : Int) := by omega
      have HF2 := Lib.hid hf
      obtain ⟨M, hM, hMM⟩ : ∃ M : Nat, min f.length n = M ∧ ((f.length ≤ n ∧ f.length = M) ∨ (n < f.length ∧ n = M)) := ⟨_, rfl, by omega⟩
      have hMn : M ≤ 24 := by omega
      have HMe := Lib.hid hM
      have HMM := Lib.hid hMM
      clear hq hFA hf hM hMM
      go_upto_region 5 with fail
      go_cut [8, 9] (fun s8 s9 wx => s8 = .int .i64 (M : Int) ∧ s9 = .int .i64 (f.hook : Int) ∧ wx = wo.drew)
      case first =>
        rcases HMM.out with ⟨hle, hMe⟩ | ⟨hle, hMe⟩
        all_goals have HE2 := Lib.hid hMe
        all_goals clear hMe
        all_goals go_region
        all_goals (go_wp2_with fail; go_meet)
        all_goals exact ⟨by rw [HE2.out], rfl, rfl⟩
      case rest =>
        obtain ⟨rfl, rfl, rfl⟩ := hcut
        have hq0 := HQ2.out.next (Below.refl wo.heap.size wo).drew
        have HQ3 := Lib.hid hq0
        have HRw3 := Lib.hid (ownsRow_next HRw.out (Below.refl wo.heap.size wo).drew)
        obtain ⟨q, hqe⟩ : ∃ q, M / (m + 1) = q := ⟨_, rfl⟩
        have hqM : q ≤ M := by rw [← hqe]; exact Nat.div_le_self _ _
        have HQe := Lib.hid hqe
        clear hq0 hqe c1 c2 e0 HQ2 HRw
        go_wp2_with fail
        go_loopw [5, 8, 9] (fun v l a wi => ∃ (j g4 c4 : Nat), j ≤ q ∧ l = .int .i64 ((M - j * (m + 1) : Nat) : Int) ∧ a = .int .i64 (((f.hook + j * (m + 1)) % n : Nat) : Int) ∧ v = .slice (some ⟨g4, 0, none⟩) (us ++ winTo n m f j).length c4 ∧ Far v (w.heap.size + 1) T ∧ wi.ownsRow (w.heap.size + 1) 87 4 v (us ++ winTo n m f j).length (flCells (us ++ winTo n m f j)) ∧ QAt w n b off c xs (some ⟨g, 0, none⟩) fs T wi) (fun _ l _ _ => (intOf l).toNat)
        case atStart =>
          refine ⟨0, g3, c3, Nat.zero_le _, by simp, by rw [Nat.zero_mul, Nat.add_zero, Nat.mod_eq_of_lt hfh], by simp [winTo], HFar.out, ?_, HQ3.out⟩
          simpa [winTo] using HRw3.out
        case round =>
          obtain ⟨j, g4, c4, hj, rfl, rfl, rfl, hfar, hrow, hq⟩ := hrel
          obtain ⟨Ln, hLn⟩ : ∃ Ln, M - j * (m + 1) = Ln := ⟨_, rfl⟩
          obtain ⟨An, hAn⟩ : ∃ An, (f.hook + j * (m + 1)) % n = An := ⟨_, rfl⟩
          have hAnl : An < n := by rw [← hAn]; exact Nat.mod_lt _ (by omega)
          have hLnl : Ln ≤ M := by omega
          have hjl := win_lt M m j
          rw [hLn, HQe.out] at hjl
          rw [hLn, hAn]
          obtain ⟨rs, hrs⟩ : ∃ rs, us ++ winTo n m f j = rs := ⟨_, rfl⟩
          have hrsl : rs.length ≤ 90000 := by
            rw [← hrs, List.length_append]
            have : (winTo n m f j).length = j := by simp [winTo]
            omega
          rw [hrs] at hfar hrow
          rw [hrs]
          have HRS := Lib.hid hrs
          have HLn := Lib.hid hLn
          have HAn := Lib.hid hAn
          have HFar2 := Lib.hid hfar
          have HRw2 := Lib.hid hrow
          have HQ4 := Lib.hid hq
          obtain ⟨g', hgg, _, _, hFA⟩ := hq.fl (by omega)
          obtain rfl : g = g' := by simpa using hgg
          have x0 := hFA.c0 k hlt
          have x3 := hFA.c3 k hlt
          rw [HF2.out] at x0 x3
          have e0 := hq.d.c0
          have hhi := hq.hi
          have hTlo := hq.lo
          clear hrs hLn hAn hfar hrow hq hFA hgg HQ3 HRw3 HFar
          by_cases hjq : j < q
          · have hmL : m < Ln := hjl.2 hjq
            have hmL' : (m : Int) < (Ln : Int) := by omega
            have hwm : IntKind.i64.wrap ((m : Int) + 1) = (m : Int) + 1 := IntWalk.i64_in _ (by omega)
            have Hnx := Lib.hid (win_next f.hook j m n)
            clear hjl
            go_wp2_with fail
            go_region_law
              (refine step_append_lies _ (by rfl) _ _ _ (by rfl) (w.heap.size + 1) 87 i0 _ 4 32 Try.underlying31 hi hz0 hz1 hz2 rfl (by decide) (.slice (some ⟨g4, 0, none⟩) rs.length c4) rs.length (flCells rs) (by rfl) ((HRw2.out.alloc _).drew)
                  ⟨wr.heap.size, 0, none⟩ 1 1 [.int .i64 (f.pick : Int), .int .i64 (An : Int), .int .i64 ((m : Int) + 1), .bool f.lifted] (by rfl) (by rfl) (World.news_of_block (cs := #[.int .i64 (f.pick : Int), .int .i64 (An : Int), .int .i64 ((m : Int) + 1), .bool f.lifted]) (t := 87) (fr := (0, 0)) (heap_alloc_new wr _)) (by simp [Value.oneCell'])
                  (by omega) (by unfold maxLen; omega) (by omega) (by simp; omega) (wr.heap.size + 1) (by simp) ?_; intro g5 cap5 w5 hown1 hgrow hat hglt)
            all_goals
              (have hq5 := (HQ4.out.next ((below_new1 wr (.cells #[.int .i64 (f.pick : Int), .int .i64 (An : Int), .int .i64 ((m : Int) + 1), .bool f.lifted] 87)).drew)).grown HFar2.out hgrow
               have hwin : us ++ winTo n m f (j + 1) = rs ++ [(⟨f.pick, An, m + 1, f.lifted⟩ : Fl)] := by rw [winTo_succ, HAn.out, ← List.append_assoc, HRS.out]
               have hrow5 : w5.ownsRow (w.heap.size + 1) 87 4 (.slice (some ⟨g5, 0, none⟩) (rs.length + 1) cap5) (us ++ winTo n m f (j + 1)).length (flCells (us ++ winTo n m f (j + 1))) := by
                 rw [hwin, flCells_snoc, List.length_append, List.length_singleton]; exact hown1
               have hlen5 : (us ++ winTo n m f (j + 1)).length = rs.length + 1 := by rw [hwin]; simp
               have hfar5 : Far (.slice (some ⟨g5, 0, none⟩) (rs.length + 1) cap5) (w.heap.size + 1) T := fun x hx => by
                 simp [Value.ownBlock] at hx
                 subst hx
                 rcases hat with h | h
                 · exact HFar2.out _ h
                 · right; omega
               have e05 := hq5.d.c0
               have hl2 : ((Ln : Int) - (m : Int) - 1) = ((M - (j + 1) * (m + 1) : Nat) : Int) := by
                 have h1 := HLn.out
                 have h2 : (j + 1) * (m + 1) = j * (m + 1) + (m + 1) := by rw [Nat.add_mul, Nat.one_mul]
                 rw [h2]
                 omega
               have ha2 : (An + m + 1) % n = (f.hook + (j + 1) * (m + 1)) % n := by have := Hnx.out; rwa [HAn.out] at this
               have hmod : ((An : Int) + (m : Int) + 1).tmod (n : Int) = (((An + m + 1) % n : Nat) : Int) := by
                 rw [show (An : Int) + (m : Int) + 1 = ((An + m + 1 : Nat) : Int) by omega]; exact tmod_cast' _ _
               have hw3 : IntKind.i64.wrap ((Ln : Int) - (m : Int)) = (Ln : Int) - (m : Int) := IntWalk.i64_in _ (by omega)
               have hw4 : IntKind.i64.wrap ((Ln : Int) - (m : Int) - 1) = (Ln : Int) - (m : Int) - 1 := IntWalk.i64_in _ (by omega)
               have hw5 : IntKind.i64.wrap ((An : Int) + (m : Int)) = (An : Int) + (m : Int) := IntWalk.i64_in _ (by omega)
               have hw6 : IntKind.i64.wrap ((An : Int) + (m : Int) + 1) = (An : Int) + (m : Int) + 1 := IntWalk.i64_in _ (by omega)
               have hn0 : ¬ (n : Int) = 0 := by omega
               have hn0' : ¬ n = 0 := by omega
               have HQ5 := Lib.hid hq5
               have HR5 := Lib.hid hrow5
               have HL5 := Lib.hid hlen5
               have HF5 := Lib.hid hfar5
               have HL2 := Lib.hid hl2
               have HA2 := Lib.hid ha2
               obtain ⟨Z, hZ⟩ : ∃ Z, (An + m + 1) % n = Z := ⟨_, rfl⟩
               rw [hZ] at hmod
               have HZ := Lib.hid hZ
               clear hq5 hwin hrow5 hlen5 hfar5 hl2 ha2 hwm hown1 hgrow hat x0 x3 e0 hZ)
            all_goals go_wp2_with fail
            all_goals go_region
            all_goals clear hmod hw3 hw4 hw5 hw6
            all_goals go_wp2_with fail
            all_goals simp only [List.getElem_toArray, List.getElem_cons_succ, List.getElem_cons_zero, Act.put, List.setIfInBounds_toArray, List.set_cons_succ, List.set_cons_zero]
            all_goals go_roundw
            all_goals first
              | (simp [intOf]; omega)
              | exact ⟨j + 1, g5, cap5, by omega, by rw [HL2.out], by rw [← HA2.out, HZ.out], by rw [HL5.out], HF5.out, HR5.out, HQ5.out.next (Below.refl _ _).drew⟩
          · obtain rfl : j = q := by omega
            have hmL : ¬ m < Ln := fun h => by have := hjl.1 h; omega
            have hmL' : ¬ (m : Int) < (Ln : Int) := by omega
            have hfin : rs = winsTo n m fs (k + 1) := by rw [← HRS.out, winsTo_succ, HUS.out, HF2.out, winOf, HMe.out, HQe.out]
            have HFin := Lib.hid hfin
            clear hjl hfin x0 x3
            rw [HFin.out] at HFar2 HRw2 ⊢
            go_wp2_with fail
            go_roundw
            case rel => exact ⟨k + 1, g4, c4, by omega, by go_num, rfl, HFar2.out, HRw2.out, HQ4.out⟩
            case measure => simp [intOf]; omega
    · obtain rfl : k = fs.length := by omega
      rw [← HUS.out] at HRw ⊢
      go_wp2
      go_ret
      exact ⟨_, rfl, ownsRow_base HRw.out (by omega), HQ2.out.below⟩
end Go.Proofs.Ytjobbleabepaiaa
