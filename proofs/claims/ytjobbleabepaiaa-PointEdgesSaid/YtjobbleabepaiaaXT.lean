/- first and large of several designs; Differ's errors; Lay of the reference. -/
import Derived.Test.YtjobbleabepaiaaXP
namespace Go.Proofs.Ytjobbleabepaiaa
open Go.RowKit Go.Shelf

set_option maxHeartbeats 1000000 in
theorem first_any (b c : Nat) (ds : List Dsg) (w : World) (hl : ds.length ≤ 100) (hd : DsAt w b ds) :
    Calls Try.prog 47 #[.slice (some ⟨b, 0, none⟩) ds.length c] w fun e w' => e = .returned (.int .i64 (firstE ds)) ∧ Below w.heap.size w w' := by
  have HD := Lib.hid hd
  clear hd
  go_enter Try.func47, Try.ntmps47
  go_wp2
  go_loopw [3] (fun i wr => ∃ k : Nat, k ≤ ds.length ∧ i = .int .i64 k ∧ goodTo ds k ∧ Below w.heap.size w wr) (fun i _ => ds.length - (intOf i).toNat)
  case atStart => exact ⟨0, Nat.zero_le _, rfl, fun i hi => by omega, Below.refl _ _⟩
  case round =>
    obtain ⟨k, hk, rfl, hg, hB⟩ := hrel
    have Hg := Lib.hid hg; clear hg
    by_cases hlt : k < ds.length
    · have hdr := HD.out.below hB
      have hc0 := hdr.c0 k hlt
      have hc1 := hdr.c1 k hlt
      have hrd := hdr.rd k hlt
      unfold Dsg.v at hrd
      have hk0 : (0 : Int) ≤ (k : Int) := by omega
      have hk1 : (k : Int) < (ds.length : Int) := by omega
      have Hc := Lib.hid (refCheck_any (nthD ds k).hooks (.slice (nthD ds k).p (nthD ds k).xs.length (nthD ds k).cap) (nthD ds k).xs wr hrd)
      have HB := Lib.hid hB
      clear hrd hdr hB
      by_cases he : (nthD ds k).e = 0
      · have he' : ((nthD ds k).e != 0) = false := by simp [he]
        have Hg2 : Hid (goodTo ds (k + 1)) := Lib.hid (fun i hi => by
          by_cases h : i = k
          · rw [h]; exact he
          · exact Hg.out i (by omega))
        unfold Dsg.e at he'
        clear he
        go_wp2_with fail
        refine Hc.out.mono ?_
        rintro e w' ⟨rfl, hb1⟩
        have HB2 := Lib.hid (HB.out.trans (hb1.mono HB.out.size))
        clear hb1
        go_wp2_with fail
        go_roundw
        case rel => exact ⟨k + 1, by omega, by go_num, Hg2.out, HB2.out⟩
        case measure => simp [intOf]; omega
      · have he' : ((nthD ds k).e != 0) = true := by simp [he]
        have Hf := Lib.hid (firstE_at ds k hlt Hg.out he)
        unfold Dsg.e at he'
        clear he
        go_wp2_with fail
        refine Hc.out.mono ?_
        rintro e w' ⟨rfl, hb1⟩
        have HB2 := Lib.hid (HB.out.trans (hb1.mono HB.out.size))
        clear hb1
        go_wp2_with fail
        go_ret
        exact ⟨ret_int (by rw [Hf.out]; rfl), HB2.out⟩
    · go_wp2
      go_ret
      exact ⟨ret_int (firstE_good ds (by have : k = ds.length := by omega
                                         rw [← this]; exact Hg.out)).symm, hB⟩
/-- the lengths of a row of designs -/
def LsAt (w : World) (b : Nat) (ls : List Nat) : Prop := ∀ i, i < ls.length → ∃ p c, w.cell? ⟨b, i * 2 + 1, none⟩ = some (.slice p (nthN ls i) c)
set_option maxHeartbeats 1000000 in
theorem large_no (b c : Nat) (ls : List Nat) (w : World) (hl : ls.length ≤ 100) (hd : LsAt w b ls) (h : ∀ i, i < ls.length → nthN ls i ≤ 70) :
    Calls Try.prog 16 #[.slice (some ⟨b, 0, none⟩) ls.length c] w fun e w' => e = .returned (.bool false) ∧ w = w' := by
  have HD := Lib.hid hd
  have HH := Lib.hid h
  clear hd h
  go_enter Try.func16, Try.ntmps16
  go_wp2
  go_loop [3] (fun i => ∃ k : Nat, k ≤ ls.length ∧ i = .int .i64 k) (fun i => ls.length - (intOf i).toNat)
  case atStart => exact ⟨0, Nat.zero_le _, rfl⟩
  case round =>
    obtain ⟨k, hk, rfl⟩ := hrel
    by_cases hlt : k < ls.length
    · obtain ⟨p, cc, hc⟩ := HD.out k hlt
      have h7 := HH.out k hlt
      have hk0 : (0 : Int) ≤ (k : Int) := by omega
      have hk1 : (k : Int) < (ls.length : Int) := by omega
      have hd7 : decide ((70 : Int) < ((nthN ls k : Nat) : Int)) = false := by simp; omega
      clear h7
      go_wp2
      go_round
      case rel => exact ⟨k + 1, by omega, by go_num⟩
      case measure => simp [intOf]; omega
    · go_wp2
      go_ret
      exact ⟨rfl, rfl⟩
set_option maxHeartbeats 1000000 in
theorem large_yes (b c j : Nat) (ls : List Nat) (w : World) (hl : ls.length ≤ 100) (hd : LsAt w b ls) (hj : j < ls.length) (h : 70 < nthN ls j) (hlast : ∀ i, i < j → nthN ls i ≤ 70) :
    Calls Try.prog 16 #[.slice (some ⟨b, 0, none⟩) ls.length c] w fun e w' => e = .returned (.bool true) ∧ w = w' := by
  have HD := Lib.hid hd
  have HH := Lib.hid hlast
  have HJ := Lib.hid h
  clear hd h hlast
  go_enter Try.func16, Try.ntmps16
  go_wp2
  go_loop [3] (fun i => ∃ k : Nat, k ≤ j ∧ i = .int .i64 k) (fun i => ls.length - (intOf i).toNat)
  case atStart => exact ⟨0, Nat.zero_le _, rfl⟩
  case round =>
    obtain ⟨k, hk, rfl⟩ := hrel
    obtain ⟨p, cc, hc⟩ := HD.out k (by omega)
    have hk0 : (0 : Int) ≤ (k : Int) := by omega
    have hk1 : (k : Int) < (ls.length : Int) := by omega
    by_cases hlt : k < j
    · have h7 := HH.out k hlt
      have hd7 : decide ((70 : Int) < ((nthN ls k : Nat) : Int)) = false := by simp; omega
      clear h7
      go_wp2
      go_round
      case rel => exact ⟨k + 1, by omega, by go_num⟩
      case measure => simp [intOf]; omega
    · obtain rfl : k = j := by omega
      have h7 := HJ.out
      have hd7 : decide ((70 : Int) < ((nthN ls k : Nat) : Int)) = true := by simp; omega
      clear h7
      go_wp2
      go_ret
      exact ⟨rfl, rfl⟩
/-- Differ's errors -/
def ErrF (r : Int) (w : World) (e : Ending) (w' : World) : Prop := e = .returned (.tuple #[.int .i64 0, .int .i64 0, .int .i64 0, .int .i64 r]) ∧ Below w.heap.size w w'
set_option maxHeartbeats 1000000 in
theorem Differ_err (d e : Dsg) (w : World) (hr : Reads w d.v d.xs) (hs : Reads w e.v e.xs) (r : Int) (he : firstE [d, e] = r) (hne : r ≠ 0) :
    Calls Try.prog 56 #[.agg #[.int .i64 d.hooks, .slice d.p d.xs.length d.cap], .agg #[.int .i64 e.hooks, .slice e.p e.xs.length e.cap]] w (ErrF r w) := by
  have hne' : (r != 0) = true := by simpa using hne
  have Hc := fun o1 o2 => check_res2 d e w o1 o2 hr hs r he
  clear he hr hs hne
  go_enter Try.func56, Try.ntmps56
  go_wp2_with fail
  refine (Hc _ _).mono ?_
  rintro e' w1 ⟨rfl, hb1⟩
  have Hb := Lib.hid ((below2 w _ _).trans (hb1.mono (by omega)))
  clear hb1
  go_wp2_with fail
  refine bodyPost_ret (v := .tuple #[.int .i64 0, .int .i64 0, .int .i64 0, .int .i64 r]) ?_ rfl ⟨rfl, Hb.out⟩
  simp [results, Try.results56, go_sem]
set_option maxHeartbeats 1000000 in
theorem Differ_form (n m b off c b2 o2 c2 : Nat) (xs ys : List Nat) (w : World) (hv : VAt w b off c n xs) (hv2 : VAt w b2 o2 c2 m ys) (hne : ¬ (n = m ∧ xs.length = ys.length)) :
    Calls Try.prog 56 #[.agg #[.int .i64 (n : Int), .slice (some ⟨b, off, none⟩) xs.length c], .agg #[.int .i64 (m : Int), .slice (some ⟨b2, o2, none⟩) ys.length c2]] w (ErrF 4 w) := by
  have Hc := Lib.hid (check_res2 ⟨n, some ⟨b, off, none⟩, c, ints xs⟩ ⟨m, some ⟨b2, o2, none⟩, c2, ints ys⟩ w (.cells #[.int .i64 (n : Int), .slice (some ⟨b, off, none⟩) xs.length c] 24) (.cells #[.int .i64 (m : Int), .slice (some ⟨b2, o2, none⟩) ys.length c2] 24) (by unfold Dsg.v; rw [ints_len]; exact hv.reads) (by unfold Dsg.v; rw [ints_len]; exact hv2.reads) 0 (by simp [firstE, Dsg.e, hv.ok.check, hv2.ok.check]))
  simp only [ints_len] at Hc
  have hsm := fun W => sameSize_any n m (some ⟨b, off, none⟩) (some ⟨b2, o2, none⟩) xs.length ys.length c c2 W
  rw [show decide ((n : Int) = (m : Int) ∧ xs.length = ys.length) = false by simp; intro h; exact fun h2 => hne ⟨by omega, h2⟩] at hsm
  have HSm := Lib.hid hsm
  have hd0 := (DBox.new w n b off c xs).below (below1 _ (.cells #[.int .i64 (m : Int), .slice (some ⟨b2, o2, none⟩) ys.length c2] 24)) (DBox.new w n b off c xs).lt
  have he0 := DBox.new (w.alloc (dObj n b off c xs)) m b2 o2 c2 ys
  rw [World.size_alloc] at he0
  have HDE := Lib.hid (And.intro hd0 he0)
  clear hsm hv hv2 hne hd0 he0
  go_enter Try.func56, Try.ntmps56
  go_wp2_with fail
  refine Hc.out.mono ?_
  rintro e w1 ⟨rfl, hb1⟩
  have hd := HDE.out.1.below hb1 (by omega)
  have he := HDE.out.2.below hb1 (by omega)
  have d0 := hd.c0
  have d1 := hd.c1
  have f0 := he.c0
  have f1 := he.c1
  have Hb := Lib.hid ((below2 w _ _).trans (hb1.mono (by omega)))
  clear hb1 hd he
  go_wp2_with fail
  refine (HSm.out _).mono ?_
  rintro e w2 ⟨rfl, hb2⟩
  have Hb2 := Lib.hid (Hb.out.trans (hb2.mono Hb.out.size))
  clear hb2 d0 d1 f0 f1
  go_wp2_with fail
  refine bodyPost_ret (v := .tuple #[.int .i64 0, .int .i64 0, .int .i64 0, .int .i64 4]) ?_ rfl ⟨rfl, Hb2.out⟩
  simp [results, Try.results56, go_sem]
end Go.Proofs.Ytjobbleabepaiaa
