/- The statements' helpers: the cards shuffled. -/
import Derived.Test.YtdmgffoikebgkaaHF
import Derived.Deep.DeepCutAuto
import Derived.Sort.QuietIn
import Derived.Sort.CutIn
namespace Go.Proofs.Ytdmgffoikebgkaa
open Go.RowKit Go.Shelf
attribute [local go_sem] Oper.semAt_some

/-- what the shuffle keeps -/
structure ShAt (w0 : World) (n g l cap : Nat) (cs : List Card) (W : World) : Prop where
  box : BoxAt W w0.heap.size #[.int .i64 (n : Int), .slice (some ⟨g, 0, none⟩) l cap] 114
  res : BoxAt W (w0.heap.size + 1) #[.int .i64 0, .slice none 0 0] 114
  blk : CardBlk W g cs
  b : Below w0.heap.size w0 W
  far : w0.heap.size + 1 < g
theorem ShAt.next {w0 W W' : World} {n g l cap : Nat} {cs : List Card} (h : ShAt w0 n g l cap cs W) (hb : Below W.heap.size W W') : ShAt w0 n g l cap cs W' :=
  ⟨h.box.next hb, h.res.next hb, h.blk.next hb, h.b.trans (hb.mono h.b.size), h.far⟩
theorem ShAt.set {w0 W : World} {n g l cap : Nat} {cs : List Card} (h : ShAt w0 n g l cap cs W) (i : Nat) (c : Card) :
    ShAt w0 n g l cap (cs.set i c) (((W.setCell ⟨g, i * 3, none⟩ (.int .i64 (c.num : Int))).setCell ⟨g, i * 3 + 1, none⟩ (.int .i64 (c.row : Int))).setCell ⟨g, i * 3 + 2, none⟩ (.bool c.turned)) := by
  have hf := h.far
  refine ⟨((h.box.other _ _ (by simp; omega)).other _ _ (by simp; omega)).other _ _ (by simp; omega), ((h.res.other _ _ (by simp; omega)).other _ _ (by simp; omega)).other _ _ (by simp; omega), h.blk.set i c, ?_, hf⟩
  exact ((h.b.setCell (by simp; omega) _).setCell (by simp; omega) _).setCell (by simp; omega) _
/-- two cards in boxes of their own -/
def Two (X : World) (c d : Card) (s t : Value) (wx : World) : Prop := ∃ Y Z, s = .pointer (some ⟨Y, 0, none⟩) ∧ t = .pointer (some ⟨Z, 0, none⟩) ∧ X.heap.size ≤ Y ∧ X.heap.size ≤ Z ∧ BoxAt wx Y c.cells.toArray 128 ∧ BoxAt wx Z d.cells.toArray 128 ∧ Below X.heap.size X wx
theorem two_boxes (X : World) (vs us : Array Value) (t : TypeId) : BoxAt ((X.alloc (.cells vs t)).alloc (.cells us t)).drew X.heap.size vs t ∧ BoxAt ((X.alloc (.cells vs t)).alloc (.cells us t)).drew (X.heap.size + 1) us t ∧ Below X.heap.size X ((X.alloc (.cells vs t)).alloc (.cells us t)).drew := by
  have h2 := BoxAt.new (X.alloc (.cells vs t)) us t
  rw [World.size_alloc] at h2
  exact ⟨((BoxAt.new X vs t).below ((Below.refl (X.heap.size + 1) _).alloc (by simp) _) (by omega)).next (below_drew1 _), h2.next (below_drew1 _), (((Below.refl _ _).alloc (Nat.le_refl _) _).alloc (by simp) _).drew⟩
theorem two_a (X : World) (c d : Card) : Two X c d (.pointer (some ⟨X.heap.size, 0, none⟩)) (.pointer (some ⟨X.heap.size + 1, 0, none⟩)) ((X.alloc (.cells c.cells.toArray 128)).alloc (.cells d.cells.toArray 128)).drew := by
  obtain ⟨h1, h2, h3⟩ := two_boxes X c.cells.toArray d.cells.toArray 128
  exact ⟨_, _, rfl, rfl, Nat.le_refl _, by omega, h1, h2, h3⟩
theorem two_b (X : World) (c d : Card) : Two X c d (.pointer (some ⟨X.heap.size + 1, 0, none⟩)) (.pointer (some ⟨X.heap.size, 0, none⟩)) ((X.alloc (.cells d.cells.toArray 128)).alloc (.cells c.cells.toArray 128)).drew := by
  obtain ⟨h1, h2, h3⟩ := two_boxes X d.cells.toArray c.cells.toArray 128
  exact ⟨_, _, rfl, rfl, by omega, Nat.le_refl _, h2, h1, h3⟩
set_option maxRecDepth 100000 in
set_option maxHeartbeats 2000000 in
theorem armShuffled_any (n g c : Nat) (p : Option Addr) (cp : Nat) (sd xs : List Nat) (cs : List Card) (w : World) (h0 : 0 < cs.length) (hl : cs.length ≤ 60) (hx : CardsAt w g cs) (hs : Shuf xs cs) (hsd : ByteRow w p sd) (hsl : sd.length ≤ 9223372036854775807) :
    Calls Try.prog 97 #[.agg #[.int .i64 (n : Int), .slice (some ⟨g, 0, none⟩) cs.length c], .slice p sd.length cp] w fun e w' =>
      ∃ g' cap cs', e = .returned (.agg #[.int .i64 (n : Int), .slice (some ⟨g', 0, none⟩) cs.length cap]) ∧ Shuf xs cs' ∧ CardBlk w' g' cs' ∧ w.heap.size ≤ g' ∧ Below w.heap.size w w' := by
  obtain ⟨w0, hw0⟩ : ∃ w0, w0 = (w.alloc (.cells #[.int .i64 (n : Int), .slice (some ⟨g, 0, none⟩) cs.length c] 114)).alloc (.cells #[.int .i64 0, .slice none 0 0] 114) := ⟨_, rfl⟩
  have hO := OwnRow.new w n g 0 cs.length c 114
  have hbb : Below w.heap.size w w0 := by rw [hw0]; exact ((Below.refl _ _).alloc (Nat.le_refl _) _).alloc (by simp) _
  have hs0 : w0.heap.size = w.heap.size + 2 := by rw [hw0]; simp
  rw [← hw0] at hO
  have HA := Lib.hid (armBelt_ok n g c cs w0 h0 hl (hx.next hbb))
  have HO := Lib.hid hO
  have Hbb := Lib.hid hbb
  have HW0 := Lib.hid hw0
  have Hs0 := Lib.hid hs0
  have Hsh := Lib.hid hs
  have Hsd := Lib.hid hsd
  clear hO hbb hw0 hs0 hs hx hsd
  go_enter Try.func97, Try.ntmps97
  go_wp2_with fail
  rw [← HW0.out]
  refine HA.out.mono ?_
  rintro e w1 ⟨g', cap, rfl, hr, hb⟩
  have hO1 := HO.out.next hb
  obtain ⟨hblk, hgl⟩ := CardBlk.of_row hr h0
  rw [Hs0.out] at hgl
  have d0 := hO1.b1.cell' (v := .int .i64 (n : Int)) 0 rfl
  have d1 := hO1.b1.cell' (v := .slice (some ⟨g, 0, none⟩) cs.length c) 1 rfl
  have f0 := hO1.b1.frozen 0
  have f1 := hO1.b1.frozen 1
  have hS0 : ShAt w n g' cs.length cap cs ((w1.setCell ⟨w.heap.size, 0, none⟩ (.int .i64 (n : Int))).setCell ⟨w.heap.size, 1, none⟩ (.slice (some ⟨g', 0, none⟩) cs.length cap)) :=
    ⟨(hO1.b1.set 0 (.int .i64 (n : Int))).set 1 (.slice (some ⟨g', 0, none⟩) cs.length cap), (hO1.b2.other _ _ (by simp)).other _ _ (by simp), (hblk.other _ _ (by simp; omega)).other _ _ (by simp; omega),
      ((Hbb.out.trans (hb.mono (by rw [Hs0.out]; omega))).setCell (by simp) _).setCell (by simp) _, by omega⟩
  have HS0 := Lib.hid hS0
  have hz : w.heap.size < w1.heap.size := hO1.b1.lt
  clear hr hb hO1 hblk hgl hS0 HA HO HW0
  go_wp2_with fail
  have hl1 : (cs.length : Int) - 1 = ((cs.length - 1 : Nat) : Int) := by omega
  go_loopw [5] (fun i wr => ∃ (k : Nat) (cs' : List Card), k < cs.length ∧ i = .int .i64 k ∧ Shuf xs cs' ∧ cs'.length = cs.length ∧ ShAt w n g' cs.length cap cs' wr) (fun i _ => (intOf i).toNat)
  case atStart => exact ⟨cs.length - 1, cs, by omega, by rw [hl1], Hsh.out, rfl, HS0.out⟩
  case round =>
    obtain ⟨k, cs', hk, rfl, hsh, hlen, hT⟩ := hrel
    clear HS0 d0 d1 f0 f1
    have b1 : wr.cell? ⟨w.heap.size, 1, none⟩ = some (.slice (some ⟨g', 0, none⟩) cs.length cap) := hT.box.cell' 1 rfl
    have Hsh' := Lib.hid hsh
    have Hlen := Lib.hid hlen
    have HT := Lib.hid hT
    clear hsh hlen hT
    by_cases hlt : 0 < k
    · have HB := fun W (hb : Below wr.heap.size wr W) => armByte_any p cp k sd W (ByteRow.next Hsd.out (HT.out.next hb).b) hsl (by omega)
      obtain ⟨B, hB⟩ : ∃ B, byteN sd k = B := ⟨_, rfl⟩
      rw [hB] at HB
      have HB1 := Lib.hid (HB wr (Below.refl _ _))
      obtain ⟨o, ho⟩ : ∃ o, B % (k + 1) = o := ⟨_, rfl⟩
      have ho2 : o < k + 1 := by rw [← ho]; exact Nat.mod_lt _ (by omega)
      have hq : (B : Int) % ((k : Int) + 1) = (o : Int) := by rw [← ho]; exact (Int.natCast_emod B (k + 1)).symm
      have hn0 : ¬ ((k : Int) + 1) = 0 := by omega
      clear HB hB ho
      go_wp2_with fail
      refine HB1.out.mono ?_
      rintro e w' ⟨rfl, rfl⟩
      have hol : o < cs.length := by omega
      have hat := HT.out.blk.at'
      have hka : k < cs'.length := by rw [Hlen.out]; exact hk
      have hoa : o < cs'.length := by rw [Hlen.out]; exact hol
      have ek0 := hat.c0 k hka
      have ek1 := hat.c1 k hka
      have ek2 := hat.c2 k hka
      have eo0 := hat.c0 o hoa
      have eo1 := hat.c1 o hoa
      have eo2 := hat.c2 o hoa
      have hgz : g' < wr.heap.size := HT.out.blk.lt
      have hwz : w.heap.size < wr.heap.size := HT.out.box.lt
      have Hca := Lib.hid hka
      have Hoa := Lib.hid hoa
      obtain ⟨ca, hca⟩ : ∃ ca, nthC cs' k = ca := ⟨_, rfl⟩
      obtain ⟨cb, hcb⟩ : ∃ cb, nthC cs' o = cb := ⟨_, rfl⟩
      rw [hca] at ek0 ek1 ek2
      rw [hcb] at eo0 eo1 eo2
      have Hka := Lib.hid hca
      have Hkb := Lib.hid hcb
      obtain ⟨na, ra, ta⟩ := ca
      obtain ⟨nb, rb, tb⟩ := cb
      simp only at ek0 ek1 ek2 eo0 eo1 eo2
      have hk0 : (0 : Int) ≤ (k : Int) := by omega
      have hk1 : (k : Int) < (cs.length : Int) := by omega
      have ho0 : (0 : Int) ≤ (o : Int) := by omega
      have ho1 : (o : Int) < (cs.length : Int) := by omega
      clear hat hka hoa hca hcb
      go_upto_region 6 with fail
      go_cut [7, 8] from 25 to 34 (fun s7 s8 wx => Two wr ⟨na, ra, ta⟩ ⟨nb, rb, tb⟩ s7 s8 wx)
      case first =>
        rename_i J6 K6 hJ6 hK6
        go_region
        all_goals refine hK6 _ _ (Met.intro (hJ6 _ _ ?_))
        all_goals (repeat apply Exists.intro)
        all_goals first | exact ⟨two_a wr ⟨na, ra, ta⟩ ⟨nb, rb, tb⟩, rfl⟩ | exact ⟨two_b wr ⟨na, ra, ta⟩ ⟨nb, rb, tb⟩, rfl⟩
      case rest =>
        obtain ⟨Y, Z, rfl, rfl, hY, hZ, hBY, hBZ, hbc⟩ := hcut
        have hTc := HT.out.next hbc
        have b1 : wc.cell? ⟨w.heap.size, 1, none⟩ = some (.slice (some ⟨g', 0, none⟩) cs.length cap) := hTc.box.cell' 1 rfl
        have y0 : wc.cell? ⟨Y, 0, none⟩ = some (.int .i64 (na : Int)) := hBY.cell' 0 rfl
        have y1 : wc.cell? ⟨Y, 1, none⟩ = some (.int .i64 (ra : Int)) := hBY.cell' 1 rfl
        have y2 : wc.cell? ⟨Y, 2, none⟩ = some (.bool ta) := hBY.cell' 2 rfl
        have z0 : wc.cell? ⟨Z, 0, none⟩ = some (.int .i64 (nb : Int)) := hBZ.cell' 0 rfl
        have z1 : wc.cell? ⟨Z, 1, none⟩ = some (.int .i64 (rb : Int)) := hBZ.cell' 1 rfl
        have z2 : wc.cell? ⟨Z, 2, none⟩ = some (.bool tb) := hBZ.cell' 2 rfl
        have hat := hTc.blk.at'
        have ek0 := hat.c0 k Hca.out
        have ek1 := hat.c1 k Hca.out
        have ek2 := hat.c2 k Hca.out
        have eo0 := hat.c0 o Hoa.out
        have eo1 := hat.c1 o Hoa.out
        have eo2 := hat.c2 o Hoa.out
        rw [Hka.out] at ek0 ek1 ek2
        rw [Hkb.out] at eo0 eo1 eo2
        simp only at ek0 ek1 ek2 eo0 eo1 eo2
        have q0 := hTc.blk.frozen (k * 3)
        have q1 := hTc.blk.frozen (k * 3 + 1)
        have q2 := hTc.blk.frozen (k * 3 + 2)
        have q3 := hTc.blk.frozen (o * 3)
        have q4 := hTc.blk.frozen (o * 3 + 1)
        have q5 := hTc.blk.frozen (o * 3 + 2)
        have hfar := hTc.far
        have n1 : ¬ Y = g' := by omega
        have n2 : ¬ Z = g' := by omega
        have n3 : ¬ w.heap.size = g' := by omega
        have hS2 := (hTc.set k ⟨nb, rb, tb⟩).set o ⟨na, ra, ta⟩
        have hsw : (cs'.set k ⟨nb, rb, tb⟩).set o ⟨na, ra, ta⟩ = swapC cs' k o := by unfold swapC; rw [Hka.out, Hkb.out]
        rw [hsw] at hS2
        have HS2 := Lib.hid hS2
        have HsS := Lib.hid (Hsh'.out.swap Hca.out Hoa.out)
        have HlS := Lib.hid ((swapC_len cs' k o).trans Hlen.out)
        clear hTc hBY hBZ hbc hat hS2 hsw hfar hY hZ
        by_cases hok : o = k
        · subst hok
          go_wp2_with fail
          go_roundw
          case rel => exact ⟨o - 1, by omega, by omega, _, HsS.out, HlS.out, HS2.out⟩
          case measure => simp only [intOf]; omega
        · have m1 : ¬ o * 3 = k * 3 := by omega
          have m2 : ¬ o * 3 = k * 3 + 1 := by omega
          have m3 : ¬ o * 3 = k * 3 + 2 := by omega
          have m4 : ¬ o * 3 + 1 = k * 3 := by omega
          have m5 : ¬ o * 3 + 1 = k * 3 + 1 := by omega
          have m6 : ¬ o * 3 + 1 = k * 3 + 2 := by omega
          have m7 : ¬ o * 3 + 2 = k * 3 := by omega
          have m8 : ¬ o * 3 + 2 = k * 3 + 1 := by omega
          have m9 : ¬ o * 3 + 2 = k * 3 + 2 := by omega
          go_wp2_with fail
          go_roundw
          case rel => exact ⟨k - 1, by omega, by omega, _, HsS.out, HlS.out, HS2.out⟩
          case measure => simp only [intOf]; omega
    · obtain rfl : k = 0 := by omega
      have b0 : wr.cell? ⟨w.heap.size, 0, none⟩ = some (.int .i64 (n : Int)) := HT.out.box.cell' 0 rfl
      have r0 : wr.cell? ⟨w.heap.size + 1, 0, none⟩ = some (.int .i64 0) := HT.out.res.cell' 0 rfl
      have r1 : wr.cell? ⟨w.heap.size + 1, 1, none⟩ = some (.slice none 0 0) := HT.out.res.cell' 1 rfl
      have f0 := HT.out.res.frozen 0
      have f1 := HT.out.res.frozen 1
      go_wp2_with fail
      refine bodyPost_ret (v := .agg #[.int .i64 (n : Int), .slice (some ⟨g', 0, none⟩) cs.length cap]) ?_ rfl ⟨g', cap, cs', rfl, Hsh'.out, ?_, ?_, ?_⟩
      · have hb3 := (HT.out.res.set 0 (.int .i64 (n : Int))).set 1 (.slice (some ⟨g', 0, none⟩) cs.length cap)
        have d0 := hb3.cell' (v := .int .i64 (n : Int)) 0 rfl
        have d1 := hb3.cell' (v := .slice (some ⟨g', 0, none⟩) cs.length cap) 1 rfl
        simp [results, Try.results97, go_sem, d0, d1]
      · have hf := HT.out.far
        exact (HT.out.blk.other _ _ (by simp; omega)).other _ _ (by simp; omega)
      · have hf := HT.out.far; omega
      · exact (HT.out.b.setCell (by simp) _).setCell (by simp) _
end Go.Proofs.Ytdmgffoikebgkaa
