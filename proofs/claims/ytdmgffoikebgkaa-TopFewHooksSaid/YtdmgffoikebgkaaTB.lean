/- Harness ties: Weave. -/
import Derived.Test.YtdmgffoikebgkaaTA
import Derived.Laws.BytesArg
namespace Go.Proofs.Ytdmgffoikebgkaa
open Go.RowKit Go.Shelf

/-- the byte of a warp: up or down -/
def clothB (hs : List Nat) (row i : Nat) : Int := if bitN row (nthN hs i) then 120 else 46
def clothL (hs : List Nat) (row : Nat) : List Int := (List.range hs.length).map (clothB hs row)
/-- one pick of the cloth -/
def pickS (hs : List Nat) (row : Nat) : ByteArray := strOfNums (clothL hs row)
def clothV (hs xs : List Nat) (k : Nat) : List Value := (List.range k).map fun i => .string (pickS hs (nthN xs i))
theorem clothV_succ (hs xs : List Nat) (k : Nat) : clothV hs xs (k + 1) = clothV hs xs k ++ [.string (pickS hs (nthN xs k))] := by simp [clothV, List.range_succ]
theorem clothV_len (hs xs : List Nat) (k : Nat) : (clothV hs xs k).length = k := by simp [clothV]
/-- the bytes behind k rounds -/
def byteRow (hs : List Nat) (row k : Nat) : Array Value := ((List.range hs.length).map fun i => if i < k then Value.int .u8 (clothB hs row i) else Value.int .u8 0).toArray
theorem byteRow_get (hs : List Nat) (row k i : Nat) (h : i < hs.length) : (byteRow hs row k)[i]? = some (if i < k then Value.int .u8 (clothB hs row i) else Value.int .u8 0) := by
  simp [byteRow, h]
theorem byteRow_set (hs : List Nat) (row k : Nat) (h : k < hs.length) : (byteRow hs row k).setIfInBounds k (.int .u8 (clothB hs row k)) = byteRow hs row (k + 1) := by
  apply Array.ext_getElem?
  intro i
  rw [Array.getElem?_setIfInBounds]
  by_cases hi : i < hs.length
  · rw [byteRow_get _ _ _ _ hi, byteRow_get _ _ _ _ hi]
    by_cases e : k = i
    · subst e; simp [byteRow, h]
    · rw [if_neg e]
      by_cases h2 : i < k
      · rw [if_pos h2, if_pos (by omega)]
      · rw [if_neg h2, if_neg (by omega)]
  · rw [if_neg (by omega), Array.getElem?_eq_none (by simp [byteRow]; omega), Array.getElem?_eq_none (by simp [byteRow]; omega)]
theorem byteRow_set2 (hs : List Nat) (row k : Nat) (u : Value) (h : k < hs.length) : ((byteRow hs row k).setIfInBounds k u).setIfInBounds k (.int .u8 (clothB hs row k)) = byteRow hs row (k + 1) := by
  rw [← byteRow_set hs row k h]
  apply Array.ext_getElem?
  intro i
  simp only [Array.getElem?_setIfInBounds, Array.size_setIfInBounds]
  split
  · rfl
  · rfl
theorem Try.info5' : (Try.prog.info? 5).map (fun i => (i.zero, i.size, i.bytes)) = some (some (.int .u8 0), 1, 1) := by kernel_rfl
theorem Try.info9' : (Try.prog.info? 9).map (fun i => (i.zero, i.size, i.bytes)) = some (some (.string ⟨#[]⟩), 1, 16) := by kernel_rfl
theorem elemStr : ElemT 49 9 1 16 := by
  obtain ⟨i, hi, hz0, hz1, hz2⟩ := info_parts Try.info9'
  exact ⟨i, _, Try.underlying49, hi, hz0, hz1, hz2, rfl, by decide⟩
theorem made_bytes (hs : List Nat) (row : Nat) : madeCells #[.int .u8 0] (hs.length * 1) = byteRow hs row 0 := by
  apply Array.ext_getElem?
  intro i
  by_cases hi : i < hs.length
  · rw [byteRow_get _ _ _ _ hi]
    simp [madeCells, hi, Nat.mod_one]
  · rw [Array.getElem?_eq_none (by rw [size_madeCells]; omega), Array.getElem?_eq_none (by simp [byteRow]; omega)]
theorem run_make_bytes (hs : List Nat) (row : Nat) (hn : hs.length ≤ 1000) (w : World) :
    (Instr.makeSlice 89 (.int .i64 (hs.length : Int)) (.int .i64 (hs.length : Int))).run Try.prog w = .ok (.slice (some ⟨w.heap.size, 0, none⟩) hs.length hs.length) (w.alloc (.cells (byteRow hs row 0) 5)) := by
  obtain ⟨i, hi, hz0, hz1, hz2⟩ := info_parts Try.info5'
  have h := run_make (P := Try.prog) w 89 5 i _ Try.underlying89 hi hz0 .i64 .i64 hs.length hs.length (by omega) (Int.le_refl _) (by rw [hz2]; omega) (by omega)
  rw [hz1] at h
  simp only [Int.toNat_natCast] at h
  rw [h, ← made_bytes hs row]
  rfl
theorem run_pick (hs : List Nat) (row R : Nat) (W : World) (h : BoxAt W R (byteRow hs row hs.length) 5) :
    (convert 89 9 (.slice (some ⟨R, 0, none⟩) hs.length hs.length)).run Try.prog W = .ok (.string (pickS hs row)) W := by
  refine run_convert_bytes_arg W 89 5 Try.underlying89 Try.underlying5 R 0 hs.length hs.length (clothL hs row) (by simp [clothL]) ?_ 9 Try.underlying9
  intro i hi
  rw [Nat.zero_add]
  refine h.cell' i ?_
  rw [byteRow_get _ _ _ _ hi, if_pos hi]
  simp [clothL, hi]
/-- what weave keeps between two picks -/
structure WeAt (w0 : World) (n b off c l : Nat) (v : Value) (rows : List Value) (W : World) : Prop where
  box : BoxAt W w0.heap.size #[.int .i64 (n : Int), .slice (some ⟨b, off, none⟩) l c] 159
  row : W.ownsRow (w0.heap.size + 1) 9 1 v rows.length rows
  b : Below w0.heap.size w0 W
theorem WeAt.next {w0 W W' : World} {n b off c l : Nat} {v : Value} {rows : List Value} (h : WeAt w0 n b off c l v rows W) (hb : Below W.heap.size W W') : WeAt w0 n b off c l v rows W' :=
  ⟨h.box.next hb, own_next h.row hb, h.b.trans (hb.mono h.b.size)⟩
theorem WeAt.grew {w0 W W' : World} {n b off c l g5 cap : Nat} {v z : Value} {rows : List Value} (h : WeAt w0 n b off c l v rows W) (hg : Grew (w0.heap.size + 1) 9 1 W W' v g5 cap (rows.length + 1) (rows ++ [z])) :
    WeAt w0 n b off c l (.slice (some ⟨g5, 0, none⟩) (rows.length + 1) cap) (rows ++ [z]) W' := by
  have hn : ∀ j, j < w0.heap.size + 1 → some j ≠ v.ownBlock := fun j hj => own_far h.row hj
  exact ⟨h.box.kept hg.grow (hn _ (by omega)), by have := hg.row; rw [List.length_append, List.length_singleton]; exact this, h.b.grown hg.grow h.b.size (fun j hj => by have := (ownBlock_ge h.row hj).1; omega)⟩

set_option maxRecDepth 100000 in
set_option maxHeartbeats 2000000 in
theorem weave_any (n b off c b2 off2 c2 : Nat) (hs xs : List Nat) (w : World) (hv : TAt w b off n hs) (hx : NatsAt w b2 off2 xs) (hxb : b2 < w.heap.size) (hl : xs.length ≤ 60) (hlt : ∀ i, nthN xs i < 16777216) :
    Calls Try.prog 119 #[.agg #[.int .i64 (n : Int), .slice (some ⟨b, off, none⟩) hs.length c], .slice (some ⟨b2, off2, none⟩) xs.length c2] w fun e w' =>
      ∃ v, e = .returned v ∧ w'.ownsRow w.heap.size 9 1 v xs.length (clothV hs xs xs.length) ∧ Below w.heap.size w w' := by
  have l1 := hv.l1
  have n1 := hv.n1
  have hW0 : WeAt w n b off c hs.length (.slice none 0 0) (clothV hs xs 0) (w.alloc (.cells #[.int .i64 (n : Int), .slice (some ⟨b, off, none⟩) hs.length c] 159)) :=
    ⟨BoxAt.new _ _ _, World.ownsRow_nil _ _ _ _, (Below.refl _ _).alloc (Nat.le_refl _) _⟩
  have HW0 := Lib.hid hW0
  have HV := Lib.hid hv
  have hmk := fun r W => run_make_bytes hs r (by omega) W
  clear hv hW0
  go_enter Try.func119, Try.ntmps119
  go_wp2_with fail
  go_loopw [5, 12] (fun v i wr => ∃ k : Nat, k ≤ xs.length ∧ i = .int .i64 k ∧ WeAt w n b off c hs.length v (clothV hs xs k) wr) (fun _ i _ => xs.length - (intOf i).toNat)
  case atStart => exact ⟨0, Nat.zero_le _, rfl, HW0.out⟩
  case round =>
    obtain ⟨k, hk, rfl, hT⟩ := hrel
    clear HW0
    obtain ⟨rows, hrw⟩ : ∃ rows, clothV hs xs k = rows := ⟨_, rfl⟩
    have Hrl := Lib.hid (show rows.length = k by rw [← hrw]; exact clothV_len _ _ _)
    have hsc := clothV_succ hs xs k
    rw [hrw] at hT hsc
    have Hrw := Lib.hid hrw
    clear hrw
    by_cases hlk : k < xs.length
    · have hc := (hx.below hT.b hxb) k hlk
      have a1 : wr.cell? ⟨w.heap.size, 1, none⟩ = some (.slice (some ⟨b, off, none⟩) hs.length c) := hT.box.cell' 1 rfl
      obtain ⟨r, hr⟩ : ∃ r, nthN xs k = r := ⟨_, rfl⟩
      have hr2 := hlt k
      rw [hr] at hc hsc hr2
      have hmr := hmk r wr
      have hwz : w.heap.size < wr.heap.size := hT.box.lt
      have Hsc := Lib.hid hsc
      have HT := Lib.hid hT
      have HVr := Lib.hid (HV.out.next hT.b)
      clear hT hr hsc hmk
      go_wp2_with fail
      obtain ⟨R, hR⟩ : ∃ R, wr.heap.size = R := ⟨_, rfl⟩
      have HR := Lib.hid hR
      have hI0 : BoxAt (wr.alloc (.cells (byteRow hs r 0) 5)) R (byteRow hs r 0) 5 ∧ Below R wr (wr.alloc (.cells (byteRow hs r 0) 5)) := by
        rw [← hR]; exact ⟨BoxAt.new _ _ _, (Below.refl _ _).alloc (Nat.le_refl _) _⟩
      have HI0 := Lib.hid hI0
      rw [hR] at hwz ⊢
      clear hI0 hR
      go_loopw [23] (fun i wz => ∃ q : Nat, q ≤ hs.length ∧ i = .int .i64 q ∧ BoxAt wz R (byteRow hs r q) 5 ∧ Below R wr wz) (fun i _ => hs.length - (intOf i).toNat)
      case atStart => exact ⟨0, Nat.zero_le _, rfl, HI0.out⟩
      case round =>
        obtain ⟨q, hq, rfl, hB, hbz⟩ := hrel
        clear HI0 hc a1
        have hbz' := hbz
        rw [← HR.out] at hbz'
        have hTz := HT.out.next hbz'
        have a1 := hTz.box.cell' (v := .slice (some ⟨b, off, none⟩) hs.length c) 1 rfl
        have HTz := Lib.hid hTz
        have HVz := Lib.hid (HVr.out.next hbz')
        have hwz2 := hTz.box.lt
        clear hbz' hTz
        by_cases hqs : q < hs.length
        · have hk1 := HVz.out.at' q hqs
          have hk2 := HVz.out.hk q hqs
          have hfz := hB.frozen q
          have hRz := hB.lt
          have hz0 := hB.cell' q (by rw [byteRow_get _ _ _ _ hqs, if_neg (Nat.lt_irrefl q)])
          obtain ⟨h, hh⟩ : ∃ h, nthN hs q = h := ⟨_, rfl⟩
          rw [hh] at hk1 hk2
          have hsb := shr_bit r h (by omega)
          have hbl := (hbz.setCell (p := ⟨R, q, none⟩) (Nat.le_refl _) (.int .u8 46))
          have hs1 := hB.set q (.int .u8 46)
          have hs2 := hs1.set q (.int .u8 120)
          have HB := Lib.hid hbl
          have hwR : w.heap.size < R := by rw [← HR.out]; exact HT.out.box.lt
          have hbR : b < R := by have := HV.out.lt; omega
          have hbR2 : ¬ b = R := by omega
          cases hbt : bitN r h with
          | true =>
            rw [hbt] at hsb
            have hcl : clothB hs r q = 120 := by unfold clothB; rw [hh, hbt]; rfl
            have hst := byteRow_set2 hs r q (.int .u8 46) hqs
            rw [hcl] at hst
            rw [hst] at hs2
            have HS := Lib.hid hs2
            clear hs1 hs2 hst hcl hbt hbl hh
            go_wp2_with fail
            go_roundw
            case rel => exact ⟨q + 1, by omega, by go_num, HS.out, HB.out.setCell (Nat.le_refl _) _⟩
            case measure => simp [intOf]; omega
          | false =>
            rw [hbt] at hsb
            have hcl : clothB hs r q = 46 := by unfold clothB; rw [hh, hbt]; rfl
            have hst := byteRow_set hs r q hqs
            rw [hcl] at hst
            rw [hst] at hs1
            have HS := Lib.hid hs1
            clear hs1 hs2 hst hcl hbt hbl hh
            go_wp2_with fail
            go_roundw
            case rel => exact ⟨q + 1, by omega, by go_num, HS.out, HB.out⟩
            case measure => simp [intOf]; omega
        · obtain rfl : q = hs.length := by omega
          have hcv := run_pick hs r R _ hB
          clear hwz2 HVz hB hbz
          go_wp2_with (at_builtin; refine Shut.out ?_)
          unfold Shut
          refine app_one elemStr rfl _ _ rfl (w.heap.size + 1) u5 rows.length rows #[.string (pickS hs r)] rfl HTz.out.row rfl rfl (by simp [Value.oneCell']) (by have := Hrl.out; omega) (by decide) (by have := HTz.out.box.lt; omega) ?_
          intro g5 cap w5 hg
          have HT5 := Lib.hid (HTz.out.grew hg)
          clear hg
          go_wp2_with fail
          go_roundw
          case rel => exact ⟨k + 1, by omega, by go_num, by rw [Hsc.out]; exact HT5.out⟩
          case measure => simp [intOf]; omega
    · obtain rfl : k = xs.length := by omega
      have HT := Lib.hid hT
      clear hT hsc
      go_wp2_with fail
      go_ret
      refine ⟨u5, rfl, ?_, HT.out.b⟩
      have h := HT.out.row
      rw [Hrl.out] at h
      rw [Hrw.out]
      exact own_base h (by omega)
end Go.Proofs.Ytdmgffoikebgkaa
namespace Go.Proofs.Ytdmgffoikebgkaa
open Go.RowKit Go.Shelf
set_option maxHeartbeats 1000000 in
theorem tieWeave_ok (n b off c b2 off2 c2 : Nat) (hs xs : List Nat) (w : World) (hv : TAt w b off n hs) (hx : VAt w b2 off2 c2 n xs) :
    Calls Try.prog 38 #[.agg #[.int .i64 (n : Int), .slice (some ⟨b, off, none⟩) hs.length c], .agg #[.int .i64 (n : Int), .slice (some ⟨b2, off2, none⟩) xs.length c2]] w fun e w' =>
      ∃ v, e = .returned (.tuple #[v, .int .i64 0]) ∧ w'.ownsRow w.heap.size 9 1 v xs.length (clothV hs xs xs.length) ∧ Below w.heap.size w w' := by
  have hb1 : Below w.heap.size w ((w.alloc (.cells #[.int .i64 (n : Int), .slice (some ⟨b, off, none⟩) hs.length c] 26)).alloc (.cells #[.int .i64 (n : Int), .slice (some ⟨b2, off2, none⟩) xs.length c2] 37)) := ((Below.refl _ _).alloc (Nat.le_refl _) _).alloc (by simp) _
  have HA := Lib.hid (checkDesign_ok n b off c b2 off2 c2 hs xs _ (hv.next hb1) (hx.below hb1))
  have HB := Lib.hid (show BoxAt _ _ _ _ from BoxAt.below (BoxAt.new w #[.int .i64 (n : Int), .slice (some ⟨b, off, none⟩) hs.length c] 26) ((Below.refl (w.heap.size + 1) _).alloc (by simp) (.cells #[.int .i64 (n : Int), .slice (some ⟨b2, off2, none⟩) xs.length c2] 37)) (by omega))
  have k2 := BoxAt.new (w.alloc (.cells #[.int .i64 (n : Int), .slice (some ⟨b, off, none⟩) hs.length c] 26)) #[.int .i64 (n : Int), .slice (some ⟨b2, off2, none⟩) xs.length c2] 37
  rw [World.size_alloc] at k2
  have HB2 := Lib.hid k2
  have Hb1 := Lib.hid hb1
  have HV := Lib.hid hv
  have HX := Lib.hid hx
  have hl1 := hx.ok.l1
  clear hb1 hv hx k2
  go_enter Try.func38, Try.ntmps38
  go_wp2_with fail
  refine HA.out.mono ?_
  rintro e w1 ⟨rfl, hb⟩
  have hbb := Hb1.out.trans (hb.mono (by simp; omega))
  have hk1 := HB.out.next hb
  have hk2 := HB2.out.next hb
  have e0 : w1.cell? ⟨w.heap.size, 0, none⟩ = some (.int .i64 (n : Int)) := hk1.cell' 0 rfl
  have e1 : w1.cell? ⟨w.heap.size, 1, none⟩ = some (.slice (some ⟨b, off, none⟩) hs.length c) := hk1.cell' 1 rfl
  have f1 : w1.cell? ⟨w.heap.size + 1, 1, none⟩ = some (.slice (some ⟨b2, off2, none⟩) xs.length c2) := hk2.cell' 1 rfl
  have HW := Lib.hid (weave_any n b off c b2 off2 c2 hs xs w1 (HV.out.next hbb) (HX.out.below hbb).at' (HX.out.below hbb).lt hl1 HX.out.ok.lt')
  have Hbb := Lib.hid hbb
  clear hb hk1 hk2 hbb HB HB2 HA
  go_wp2_with fail
  refine HW.out.mono ?_
  rintro e w2 ⟨v, rfl, hr, hb⟩
  have Hr := Lib.hid hr
  have Hb := Lib.hid hb
  clear hr hb
  go_wp2_with fail
  go_ret2
  exact ⟨v, rfl, own_base Hr.out Hbb.out.size, Hbb.out.trans (Hb.out.mono Hbb.out.size)⟩
end Go.Proofs.Ytdmgffoikebgkaa
