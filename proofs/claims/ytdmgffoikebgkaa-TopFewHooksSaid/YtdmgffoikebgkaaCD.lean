/- numbered, of a chain that has a number of its own for each card. -/
import Derived.Test.YtdmgffoikebgkaaCC
import Derived.Test.YtdmgffoikebgkaaKB
namespace Go.Proofs.Ytdmgffoikebgkaa
open Go.RowKit Go.Shelf

/-- each card has a number of its own -/
def Apart (cs : List Card) : Prop := ∀ i j, i < cs.length → j < cs.length → (nthC cs i).num = (nthC cs j).num → i = j
/-- the places of the first k cards by their numbers -/
def PlaceOf (cs : List Card) (k : Nat) (g : Int → Option Nat) : Prop := ∀ x y, g x = some y ↔ (y < k ∧ ((nthC cs y).num : Int) = x)
theorem PlaceOf.start (cs : List Card) : PlaceOf cs 0 (fun _ => none) := fun x y => by simp
theorem PlaceOf.fresh {cs : List Card} {k : Nat} {g : Int → Option Nat} (h : PlaceOf cs k g) (hd : Apart cs) (hk : k < cs.length) : g ((nthC cs k).num : Int) = none := by
  cases hg : g ((nthC cs k).num : Int) with
  | none => rfl
  | some y =>
    obtain ⟨h1, h2⟩ := (h _ _).1 hg
    have := hd y k (by omega) hk (by omega)
    omega
theorem PlaceOf.step {cs : List Card} {k : Nat} {g : Int → Option Nat} (h : PlaceOf cs k g) (hd : Apart cs) (hk : k < cs.length) : PlaceOf cs (k + 1) (setG g ((nthC cs k).num : Int) k) := by
  intro x y
  unfold setG
  by_cases e : x = ((nthC cs k).num : Int)
  · rw [if_pos e, e]
    constructor
    · intro hy
      obtain rfl : k = y := by simpa using hy
      exact ⟨by omega, rfl⟩
    · rintro ⟨h1, h2⟩
      have := hd y k (by omega) hk (by omega)
      rw [this]
  · rw [if_neg e, h x y]
    constructor
    · rintro ⟨h1, h2⟩; exact ⟨by omega, h2⟩
    · rintro ⟨h1, h2⟩
      refine ⟨?_, h2⟩
      by_cases hy : y = k
      · subst hy; exact absurd h2.symm e
      · omega
theorem PlaceOf.blot {cs : List Card} {k : Nat} {g : Int → Option Nat} (h : PlaceOf cs k g) : g (-1) = none := by
  cases hg : g (-1) with
  | none => rfl
  | some y => obtain ⟨_, h2⟩ := (h _ _).1 hg; omega
/-- what numbered keeps between two cards -/
structure NuAt (w0 : World) (n g c : Nat) (cs : List Card) (mb k : Nat) (W : World) : Prop where
  arg : BoxAt W w0.heap.size #[.int .i64 (n : Int), .slice (some ⟨g, 0, none⟩) cs.length c] 114
  map : ∃ f, IMap W mb k k f ∧ PlaceOf cs k f
  b : Below w0.heap.size w0 W
  lo : w0.heap.size < mb

set_option maxHeartbeats 2000000 in
theorem numbered_ok (n g c : Nat) (cs : List Card) (w : World) (hv : BAt w g n cs) (hd : Apart cs) :
    Calls Try.prog 155 #[.agg #[.int .i64 (n : Int), .slice (some ⟨g, 0, none⟩) cs.length c]] w fun e w' =>
      ∃ mb f, e = .returned (.tuple #[.map (some mb), .int .i64 0]) ∧ IMap w' mb cs.length cs.length f ∧ PlaceOf cs cs.length f ∧ w.heap.size < mb ∧ Below w.heap.size w w' := by
  have hmm := @run_makeMap Try.prog
  have l1 := hv.ok.l1
  have l0 := hv.ok.l0
  have hb1 : Below w.heap.size w (w.alloc (.cells #[.int .i64 (n : Int), .slice (some ⟨g, 0, none⟩) cs.length c] 114)) := (Below.refl _ _).alloc (Nat.le_refl _) _
  have HC := Lib.hid (chainCheck_ok n g c cs _ (hv.next hb1))
  have HA := Lib.hid (BoxAt.new w #[.int .i64 (n : Int), .slice (some ⟨g, 0, none⟩) cs.length c] 114)
  have Hb1 := Lib.hid hb1
  have HV := Lib.hid hv
  have HD := Lib.hid hd
  clear hv hb1 hd
  go_enter Try.func155, Try.ntmps155
  go_wp2_with fail
  refine HC.out.mono ?_
  rintro e w1 ⟨rfl, hb⟩
  have hA1 := HA.out.next hb
  have k0 : w1.cell? ⟨w.heap.size, 0, none⟩ = some (.int .i64 (n : Int)) := hA1.cell' 0 rfl
  have k1 : w1.cell? ⟨w.heap.size, 1, none⟩ = some (.slice (some ⟨g, 0, none⟩) cs.length c) := hA1.cell' 1 rfl
  have hbw := Hb1.out.trans (hb.mono (by simp))
  have hN0 : NuAt w n g c cs w1.heap.size 0 (w1.alloc (.map #[] 0)) :=
    ⟨hA1.next ((Below.refl _ _).alloc (Nat.le_refl _) _), ⟨_, IMap.made w1, PlaceOf.start cs⟩, hbw.alloc hbw.size _, by have := hA1.lt; omega⟩
  have k2 : (w1.alloc (.map #[] 0)).cell? ⟨w.heap.size, 1, none⟩ = some (.slice (some ⟨g, 0, none⟩) cs.length c) := hN0.arg.cell' 1 rfl
  have HN0 := Lib.hid hN0
  obtain ⟨mb, hmb⟩ : ∃ mb, w1.heap.size = mb := ⟨_, rfl⟩
  rw [hmb] at HN0
  have Hmb := Lib.hid hmb
  clear hb hA1 hbw hN0 hmb
  go_wp2_with fail
  rw [Hmb.out]
  go_loopw [19] (fun i wr => ∃ k : Nat, k ≤ cs.length ∧ i = .int .i64 k ∧ NuAt w n g c cs mb k wr) (fun i _ => cs.length - (intOf i).toNat)
  case atStart => exact ⟨0, Nat.zero_le _, rfl, HN0.out⟩
  case round =>
    obtain ⟨k, hk, rfl, hT⟩ := hrel
    clear HN0
    by_cases hlt : k < cs.length
    · have hvr := HV.out.next hT.b
      have c0 := hvr.at'.c0 k hlt
      have c1 := hvr.at'.c1 k hlt
      have c2 := hvr.at'.c2 k hlt
      have hnum := hvr.ok.num k
      obtain ⟨f, hm, hp⟩ := hT.map
      have hfr := hp.fresh HD.out hlt
      have hst := hp.step HD.out hlt
      obtain ⟨card, hcd⟩ : ∃ card, nthC cs k = card := ⟨_, rfl⟩
      rw [hcd] at c0 c1 c2 hnum hfr hst
      have HT := Lib.hid hT
      have Hfr := Lib.hid hfr
      have Hst := Lib.hid hst
      have hbA : Below wr.heap.size wr (wr.alloc (.cells #[.int .i64 (card.num : Int), .int .i64 (card.row : Int), .bool card.turned] 128)) := (Below.refl _ _).alloc (Nat.le_refl _) _
      have HM := Lib.hid (hm.next hbA)
      have HbA := Lib.hid hbA
      clear hT hm hp hfr hst hcd hvr hbA
      go_wp2_with (at_mapUpdate; refine HM.out.storeNew rfl _ _ _ rfl (card.num : Int) k rfl rfl rfl (by omega) (by omega) (by omega) Hfr.out ?_)
      intro w5 hm5 hg5
      have hT5 : NuAt w n g c cs mb (k + 1) w5 := by
        refine ⟨(HT.out.arg.next HbA.out).kept hg5 (by have := HT.out.lo; simp; omega), ⟨_, hm5, Hst.out⟩, ?_, HT.out.lo⟩
        exact (HT.out.b.trans (HbA.out.mono HT.out.b.size)).grown hg5 (by have := HT.out.b.size; simp; omega) (fun j hj => by have := HT.out.lo; simp at hj; omega)
      have HT5 := Lib.hid hT5
      clear hm5 hg5 hT5
      go_wp2_with fail
      go_roundw
      case rel => exact ⟨k + 1, by omega, by go_num, HT5.out⟩
      case measure => simp [intOf]; omega
    · obtain rfl : k = cs.length := by omega
      obtain ⟨f, hm, hp⟩ := hT.map
      have b1 : wr.cell? ⟨w.heap.size, 1, none⟩ = some (.slice (some ⟨g, 0, none⟩) cs.length c) := hT.arg.cell' 1 rfl
      have hl := hm.look (X := -1) (by omega)
      rw [hp.blot] at hl
      have hn := hm.len
      have HT := Lib.hid hT
      have HM := Lib.hid hm
      have HP := Lib.hid hp
      clear hT hm hp
      go_wp2_with fail
      go_ret2
      exact ⟨mb, f, rfl, HM.out, HP.out, HT.out.lo, HT.out.b⟩
end Go.Proofs.Ytdmgffoikebgkaa
