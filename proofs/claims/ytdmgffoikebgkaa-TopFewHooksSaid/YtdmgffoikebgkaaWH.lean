/- check: the error of the first design that has one. -/
import Derived.Test.YtdmgffoikebgkaaWA
namespace Go.Proofs.Ytdmgffoikebgkaa
open Go.RowKit

theorem Reads.below {w w' : World} {v : Value} {xs : List Int} (h : Reads w v xs) (hb : Below w.heap.size w w') : Reads w' v xs := by
  obtain ⟨p, c, rfl, hl, hx⟩ := h
  refine ⟨p, c, rfl, hl, fun h0 => ?_⟩
  obtain ⟨b, off, rfl, hb', hi⟩ := hx h0
  exact ⟨b, off, rfl, Nat.lt_of_lt_of_le hb' hb.size, hi.below hb hb'⟩
/-- a design: its hooks, its rows as a value, its rows as numbers -/
structure Dsg where
  hooks : Int
  p : Option Addr
  cap : Nat
  xs : List Int
def Dsg.v (d : Dsg) : Value := .slice d.p d.xs.length d.cap
def Dsg.e (d : Dsg) : Int := checkE d.hooks d.xs
def firstE : List Dsg → Int
  | [] => 0
  | d :: ds => if d.e = 0 then firstE ds else d.e
def nthD (ds : List Dsg) (i : Nat) : Dsg := ds[i]?.getD ⟨0, none, 0, []⟩
/-- the cells of a row of designs -/
structure DsAt (w : World) (b : Nat) (ds : List Dsg) : Prop where
  c0 : ∀ i, i < ds.length → w.cell? ⟨b, i * 2, none⟩ = some (.int .i64 (nthD ds i).hooks)
  c1 : ∀ i, i < ds.length → w.cell? ⟨b, i * 2 + 1, none⟩ = some (.slice (nthD ds i).p (nthD ds i).xs.length (nthD ds i).cap)
  rd : ∀ i, i < ds.length → Reads w (nthD ds i).v (nthD ds i).xs
  lt : b < w.heap.size
theorem DsAt.below {w w' : World} {b : Nat} {ds : List Dsg} (h : DsAt w b ds) (hb : Below w.heap.size w w') : DsAt w' b ds :=
  ⟨fun i hi => (hb.cell (p := ⟨b, i * 2, none⟩) h.lt).trans (h.c0 i hi), fun i hi => (hb.cell (p := ⟨b, i * 2 + 1, none⟩) h.lt).trans (h.c1 i hi), fun i hi => (h.rd i hi).below hb, Nat.lt_of_lt_of_le h.lt hb.size⟩
theorem checkE_bd (h : Int) (xs : List Int) : 0 ≤ checkE h xs ∧ checkE h xs ≤ 7 := by
  unfold checkE
  repeat' split
  all_goals omega
/-- nothing is wrong with the first k -/
def goodTo (ds : List Dsg) (k : Nat) : Prop := ∀ i, i < k → (nthD ds i).e = 0
theorem firstE_at : ∀ (ds : List Dsg) (k : Nat), k < ds.length → goodTo ds k → (nthD ds k).e ≠ 0 → firstE ds = (nthD ds k).e
  | [], k, h, _, _ => by simp at h
  | d :: ds, 0, _, _, hne => by
    have e : nthD (d :: ds) 0 = d := rfl
    rw [e] at hne ⊢
    simp [firstE, hne]
  | d :: ds, k + 1, h, hg, hne => by
    have e0 : d.e = 0 := hg 0 (by omega)
    have e : nthD (d :: ds) (k + 1) = nthD ds k := rfl
    rw [e] at hne ⊢
    simp only [firstE, if_pos e0]
    exact firstE_at ds k (by simpa using h) (fun i hi => hg (i + 1) (by omega)) hne
theorem firstE_good : ∀ (ds : List Dsg), goodTo ds ds.length → firstE ds = 0
  | [], _ => rfl
  | d :: ds, hg => by
    have e0 : d.e = 0 := hg 0 (by simp)
    simp only [firstE, if_pos e0]
    exact firstE_good ds fun i hi => hg (i + 1) (by simpa using hi)

set_option maxHeartbeats 1000000 in
theorem check_any (b c : Nat) (ds : List Dsg) (w : World) (hl : ds.length ≤ 100) (hd : DsAt w b ds) :
    Calls Try.prog 137 #[.slice (some ⟨b, 0, none⟩) ds.length c] w fun e w' => e = .returned (.int .i64 (firstE ds)) ∧ Below w.heap.size w w' := by
  go_enter Try.func137, Try.ntmps137
  go_wp2
  go_loopw [4, 5, 8] (fun _ _ i wr => ∃ k : Nat, k ≤ ds.length ∧ i = .int .i64 k ∧ goodTo ds k ∧ Below w.heap.size w wr) (fun _ _ i _ => ds.length - (intOf i).toNat)
  case atStart => exact ⟨0, Nat.zero_le _, rfl, fun i hi => by omega, Below.refl _ _⟩
  case round =>
    obtain ⟨k, hk, rfl, hg, hB⟩ := hrel
    have Hg := Lib.hid hg; clear hg
    by_cases hlt : k < ds.length
    · have hdr := hd.below hB
      have hc0 := hdr.c0 k hlt
      have hc1 := hdr.c1 k hlt
      have hrd := (hdr.rd k hlt).below ((Below.refl _ _).alloc (Nat.le_refl _) (.cells #[.int .i64 (nthD ds k).hooks, .slice (nthD ds k).p (nthD ds k).xs.length (nthD ds k).cap] 37))
      unfold Dsg.v at hrd
      have Hrd := Lib.hid hrd
      clear hrd
      by_cases he : (nthD ds k).e = 0
      · have he' : ((nthD ds k).e != 0) = false := by simp [he]
        have Hg2 : Hid (goodTo ds (k + 1)) := Lib.hid (fun i hi => by
          by_cases h : i = k
          · rw [h]; exact he
          · exact Hg.out i (by omega))
        unfold Dsg.e at he'
        clear he
        go_wp2_with (go_at_call 176; refine (Check_any _ _ _ _ Hrd.out).mono ?_; rintro e w' ⟨rfl, hb1⟩)
        go_roundw
        case rel => exact ⟨k + 1, by omega, by go_num, Hg2.out, hB.trans ((((Below.refl _ _).alloc hB.size _)).trans (hb1.mono (by simp; have := hB.size; omega)))⟩
        case measure => simp [intOf]; omega
      · have he' : ((nthD ds k).e != 0) = true := by simp [he]
        have Hf := Lib.hid (firstE_at ds k hlt Hg.out he)
        unfold Dsg.e at he'
        clear he
        go_wp2_with (go_at_call 176; refine (Check_any _ _ _ _ Hrd.out).mono ?_; rintro e w' ⟨rfl, hb1⟩)
        go_ret
        exact ⟨ret_int (by rw [Hf.out]; rfl), hB.trans ((((Below.refl _ _).alloc hB.size _)).trans (hb1.mono (by simp; have := hB.size; omega)))⟩
    · go_wp2
      go_ret
      exact ⟨ret_int (firstE_good ds (by have : k = ds.length := by omega
                                         rw [← this]; exact Hg.out)).symm, hB⟩
end Go.Proofs.Ytdmgffoikebgkaa
