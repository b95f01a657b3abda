/- Floats. · Floats, Proof, Longest. -/
import Derived.Test.YtdmgffoikebgkaaWG
import Derived.Test.YtdmgffoikebgkaaWH
import Derived.Deep.RegionWith
namespace Go.Proofs.Ytdmgffoikebgkaa
section
open Go.RowKit

theorem DsAt_one (W : World) (d : Dsg) (hr : Reads W d.v d.xs) : DsAt (W.alloc (.cells #[.int .i64 d.hooks, .slice d.p d.xs.length d.cap] 37)) W.heap.size [d] := by
  refine ⟨fun i hi => ?_, fun i hi => ?_, fun i hi => ?_, by simp⟩
  all_goals obtain rfl : i = 0 := by simpa using hi
  · simp [nthD]
  · simp [nthD]
  · exact hr.below ((Below.refl _ _).alloc (Nat.le_refl _) _)
theorem DsAt_two (W : World) (d e : Dsg) (hr : Reads W d.v d.xs) (hs : Reads W e.v e.xs) : DsAt (W.alloc (.cells #[.int .i64 d.hooks, .slice d.p d.xs.length d.cap, .int .i64 e.hooks, .slice e.p e.xs.length e.cap] 37)) W.heap.size [d, e] := by
  have h2 : ∀ i, i < [d, e].length → i = 0 ∨ i = 1 := fun i hi => by simp at hi; omega
  refine ⟨fun i hi => ?_, fun i hi => ?_, fun i hi => ?_, by simp⟩
  all_goals rcases h2 i hi with rfl | rfl
  · simp [nthD]
  · simp [nthD]
  · simp [nthD]
  · simp [nthD]
  · exact hr.below ((Below.refl _ _).alloc (Nat.le_refl _) _)
  · exact hs.below ((Below.refl _ _).alloc (Nat.le_refl _) _)
theorem DsAt_three (W : World) (d e f : Dsg) (hr : Reads W d.v d.xs) (hs : Reads W e.v e.xs) (ht : Reads W f.v f.xs) : DsAt (W.alloc (.cells #[.int .i64 d.hooks, .slice d.p d.xs.length d.cap, .int .i64 e.hooks, .slice e.p e.xs.length e.cap, .int .i64 f.hooks, .slice f.p f.xs.length f.cap] 37)) W.heap.size [d, e, f] := by
  have h2 : ∀ i, i < [d, e, f].length → i = 0 ∨ i = 1 ∨ i = 2 := fun i hi => by simp at hi; omega
  refine ⟨fun i hi => ?_, fun i hi => ?_, fun i hi => ?_, by simp⟩
  all_goals rcases h2 i hi with rfl | rfl | rfl
  · simp [nthD]
  · simp [nthD]
  · simp [nthD]
  · simp [nthD]
  · simp [nthD]
  · simp [nthD]
  · exact hr.below ((Below.refl _ _).alloc (Nat.le_refl _) _)
  · exact hs.below ((Below.refl _ _).alloc (Nat.le_refl _) _)
  · exact ht.below ((Below.refl _ _).alloc (Nat.le_refl _) _)

/-- a design that is valid -/
structure Valid (n : Nat) (xs : List Nat) : Prop where
  n0 : 1 ≤ n
  n1 : n ≤ 24
  l0 : 1 ≤ xs.length
  l1 : xs.length ≤ 60
  lt : ∀ i, nthN xs i < 2 ^ n
theorem Valid.lt' {n : Nat} {xs : List Nat} (h : Valid n xs) (i : Nat) : nthN xs i < 16777216 :=
  Nat.lt_of_lt_of_le (h.lt i) (Nat.le_trans (Nat.pow_le_pow_right (by decide) h.n1) (by decide))
def ints (xs : List Nat) : List Int := xs.map fun n : Nat => (n : Int)
theorem ints_len (xs : List Nat) : (ints xs).length = xs.length := by simp [ints]
theorem Valid.check {n : Nat} {xs : List Nat} (h : Valid n xs) : checkE n (ints xs) = 0 := by
  have h1 := h.n0; have h2 := h.n1; have h3 := h.l0; have h4 := h.l1
  unfold checkE
  rw [if_neg (by omega), if_neg (by rw [ints_len]; omega), if_neg (by rw [ints_len]; omega), if_pos]
  unfold rowsOk ints
  rw [List.all_eq_true]
  intro x hx
  obtain ⟨y, hy, rfl⟩ := List.mem_map.1 hx
  obtain ⟨i, hi, rfl⟩ := List.mem_iff_getElem.1 hy
  have := h.lt i
  rw [nthN_get _ _ hi] at this
  have e : (2 : Int) ^ (n : Int).toNat = ((2 ^ n : Nat) : Int) := by rw [Int.toNat_natCast]; exact (Int.natCast_pow 2 n).symm
  rw [e]
  simp
  exact_mod_cast this
theorem valid_of_check {h : Int} {is : List Int} (hc : checkE h is = 0) : ∃ n xs, h = ((n : Nat) : Int) ∧ is = ints xs ∧ Valid n xs := by
  unfold checkE at hc
  by_cases h1 : h < 1 ∨ 24 < h
  · rw [if_pos h1] at hc; omega
  rw [if_neg h1] at hc
  by_cases h2 : 60 < is.length
  · rw [if_pos h2] at hc; omega
  rw [if_neg h2] at hc
  by_cases h3 : is.length = 0
  · rw [if_pos h3] at hc; omega
  rw [if_neg h3] at hc
  by_cases h4 : rowsOk h.toNat is = true
  · obtain ⟨n, rfl⟩ := Int.eq_ofNat_of_zero_le (show 0 ≤ h by omega)
    have hall : ∀ x ∈ is, 0 ≤ x ∧ x < 2 ^ n := by
      intro x hx
      have := (List.all_eq_true.1 h4) x hx
      simpa using this
    refine ⟨n, is.map Int.toNat, rfl, ?_, by omega, by omega, by simp; omega, by simp; omega, fun i => ?_⟩
    · unfold ints
      rw [List.map_map]
      conv => lhs; rw [← List.map_id is]
      refine List.map_congr_left fun x hx => ?_
      have := (hall x hx).1
      simp; omega
    · by_cases hi : i < is.length
      · rw [nthN_get _ _ (by simpa using hi)]
        have := hall is[i] (List.getElem_mem _)
        simp only [List.getElem_map]
        have e : (2 : Int) ^ n = ((2 ^ n : Nat) : Int) := (Int.natCast_pow 2 n).symm
        rw [e] at this
        omega
      · have : nthN (is.map Int.toNat) i = 0 := by simp [nthN]; rw [List.getElem?_eq_none (by omega)]; rfl
        rw [this]
        exact Nat.pow_pos (by decide)
  · rw [if_neg h4] at hc; omega
/-- the rows of a valid design in memory -/
structure VAt (w : World) (b off c : Nat) (n : Nat) (xs : List Nat) : Prop where
  at' : NatsAt w b off xs
  lt : b < w.heap.size
  ok : Valid n xs
theorem VAt.below {w w' : World} {b off c n : Nat} {xs : List Nat} (h : VAt w b off c n xs) (hb : Below w.heap.size w w') : VAt w' b off c n xs :=
  ⟨h.at'.below hb h.lt, Nat.lt_of_lt_of_le h.lt hb.size, h.ok⟩
theorem VAt.reads {w : World} {b off c n : Nat} {xs : List Nat} (h : VAt w b off c n xs) : Reads w (.slice (some ⟨b, off, none⟩) xs.length c) (ints xs) :=
  ⟨_, c, by rw [ints_len], by rw [ints_len]; have := h.ok.l1; omega, fun _ => ⟨b, off, rfl, h.lt, h.at'.ints⟩⟩
end
end Go.Proofs.Ytdmgffoikebgkaa
namespace Go.Proofs.Ytdmgffoikebgkaa
section
open Go.RowKit

theorem firstE_one (d : Dsg) : firstE [d] = d.e := by
  simp only [firstE]; split
  · omega
  · rfl
/-- check of one design that lies in a new block -/
theorem check_one (d : Dsg) (W : World) (hr : Reads W d.v d.xs) :
    Calls Try.prog 137 #[.slice (some ⟨W.heap.size, 0, none⟩) 1 1] (W.alloc (.cells #[.int .i64 d.hooks, .slice d.p d.xs.length d.cap] 37)) fun e w' => e = .returned (.int .i64 d.e) ∧ Below W.heap.size W w' := by
  refine (check_any W.heap.size 1 [d] _ (by simp) (DsAt_one W d hr)).mono ?_
  rintro e w' ⟨rfl, hb⟩
  exact ⟨by rw [firstE_one], ((Below.refl _ _).alloc (Nat.le_refl _) _).trans (hb.mono (by simp))⟩
def d1 (h : Int) (p : Option Addr) (c : Nat) (xs : List Int) : Dsg := ⟨h, p, c, xs⟩
/-- as the walk shows it: a design in its box, and once more in a list -/
theorem check_box (h : Int) (p : Option Addr) (c : Nat) (xs : List Int) (w : World) (o : Obj) (hr : Reads w (.slice p xs.length c) xs) (e : Int) (he : checkE h xs = e) :
    Calls Try.prog 137 #[.slice (some ⟨w.heap.size + 1, 0, none⟩) 1 1] ((w.alloc o).alloc (.cells #[.int .i64 h, .slice p xs.length c] 37)) fun e' w' => e' = .returned (.int .i64 e) ∧ Below (w.heap.size + 1) (w.alloc o) w' := by
  have := check_one ⟨h, p, c, xs⟩ (w.alloc o) (hr.below ((Below.refl _ _).alloc (Nat.le_refl _) o))
  rw [World.size_alloc] at this
  refine this.mono ?_
  rintro e' w' ⟨rfl, hb⟩
  exact ⟨by rw [show (⟨h, p, c, xs⟩ : Dsg).e = checkE h xs from rfl, he], hb⟩

set_option maxHeartbeats 1000000 in
theorem Floats_err (h : Int) (p : Option Addr) (c : Nat) (xs : List Int) (al bd : Int) (w : World) (hr : Reads w (.slice p xs.length c) xs) (he : checkE h xs ≠ 0) :
    Calls Try.prog 71 #[.agg #[.int .i64 h, .slice p xs.length c], .int .i64 al, .int .i64 bd] w fun e w' => e = .returned (.tuple #[.slice none 0 0, .int .i64 (checkE h xs)]) ∧ Below w.heap.size w w' := by
  obtain ⟨r, hre⟩ : ∃ r, checkE h xs = r := ⟨_, rfl⟩
  have Hc := fun o => check_box h p c xs w o hr r hre
  rw [hre] at he ⊢
  have hne : (r != 0) = true := by simpa using he
  clear hre he
  go_enter Try.func71, Try.ntmps71
  go_wp2_with (go_at_call 137; refine (Hc _).mono ?_; rintro e w' ⟨rfl, hb1⟩)
  go_ret2
  exact ⟨rfl, ((Below.refl w.heap.size w).alloc (Nat.le_refl _) _).trans (hb1.mono (by omega))⟩
set_option maxHeartbeats 1000000 in
theorem Floats_bad (h : Int) (p : Option Addr) (c : Nat) (xs : List Int) (al bd : Int) (r : Int) (w : World) (hr : Reads w (.slice p xs.length c) xs) (he : checkE h xs = 0)
    (hb : (al ≠ 1 ∧ al ≠ 2 ∧ r = 2) ∨ ((al = 1 ∨ al = 2) ∧ (bd < 0 ∨ 1000 < bd) ∧ r = 3)) :
    Calls Try.prog 71 #[.agg #[.int .i64 h, .slice p xs.length c], .int .i64 al, .int .i64 bd] w fun e w' => e = .returned (.tuple #[.slice none 0 0, .int .i64 r]) ∧ Below w.heap.size w w' := by
  have Hc := fun o => check_box h p c xs w o hr 0 he
  clear he
  rcases hb with ⟨h1, h2, rfl⟩ | ⟨h1, h2, rfl⟩
  · have g1 : (al != 1) = true := by simpa using h1
    have g2 : (al != 2) = true := by simpa using h2
    go_enter Try.func71, Try.ntmps71
    go_wp2_with (go_at_call 137; refine (Hc _).mono ?_; rintro e w' ⟨rfl, hb1⟩)
    go_ret2
    exact ⟨rfl, ((Below.refl w.heap.size w).alloc (Nat.le_refl _) _).trans (hb1.mono (by omega))⟩
  · rcases h1 with rfl | rfl
    all_goals
      go_enter Try.func71, Try.ntmps71
      go_wp2_with (go_at_call 137; refine (Hc _).mono ?_; rintro e w' ⟨rfl, hb1⟩)
      all_goals go_ret2
      all_goals exact ⟨rfl, ((Below.refl w.heap.size w).alloc (Nat.le_refl _) _).trans (hb1.mono (by omega))⟩
theorem ownsRow_base {w : World} {B B' e size n : Nat} {v : Value} {xs : List Value} (h : w.ownsRow B e size v n xs) (hB : B' ≤ B) : w.ownsRow B' e size v n xs := by
  obtain ⟨hl, h2 | ⟨g, cap, cur, e1, hg, r⟩⟩ := h
  · exact ⟨hl, .inl h2⟩
  · exact ⟨hl, .inr ⟨g, cap, cur, e1, Nat.le_trans hB hg, r⟩⟩
set_option maxHeartbeats 1000000 in
theorem FloatsAL_ok (al : Int) (hal : al = 1 ∨ al = 2) (n : Nat) (b off c : Nat) (xs : List Nat) (m : Nat) (fs : List Fl) (w : World) (hv : VAt w b off c n xs) (hm : m ≤ 1000)
    (HF : ∀ (bb : Nat) (W : World), VAt W b off c n xs → W.cell? ⟨bb, 0, none⟩ = some (.int .i64 (m : Int)) → Calls Try.prog 144 #[.agg #[.int .i64 (n : Int), .slice (some ⟨b, off, none⟩) xs.length c], .int .i64 al, .func (.func 193) #[] #[.pointer (some ⟨bb, 0, none⟩)]] W
      fun e w' => ∃ v, e = .returned v ∧ w'.ownsRow W.heap.size 149 4 v fs.length (flCells fs) ∧ Below W.heap.size W w') :
    Calls Try.prog 71 #[.agg #[.int .i64 (n : Int), .slice (some ⟨b, off, none⟩) xs.length c], .int .i64 al, .int .i64 (m : Int)] w
      fun e w' => ∃ v, e = .returned (.tuple #[v, .int .i64 0]) ∧ w'.ownsRow w.heap.size 149 4 v fs.length (flCells fs) ∧ Below w.heap.size w w' := by
  have Hc := fun o => check_box n (some ⟨b, off, none⟩) c (ints xs) w o (by rw [ints_len]; exact hv.reads) 0 hv.ok.check
  rw [ints_len] at Hc
  have hmx : Try.prog.follows .mixedOrders = true := by kernel_rfl
  have hm0 : decide ((m : Int) < 0) = false := by simp
  have hm1 : decide ((1000 : Int) < (m : Int)) = false := by simp; omega
  have HV := Lib.hid hv
  have HFh := Lib.hid HF
  clear HF hv hm
  rcases hal with rfl | rfl
  all_goals
    go_enter Try.func71, Try.ntmps71
    go_wp2_with (go_at_call 137; refine (Hc _).mono ?_; rintro e w' ⟨rfl, hb1⟩)
    have hd0 : w'.cell? ⟨w.heap.size, 0, none⟩ = some (.int .i64 (n : Int)) := (hb1.cell (p := ⟨w.heap.size, 0, none⟩) (by simp)).trans (by simp)
    have hd1 : w'.cell? ⟨w.heap.size, 1, none⟩ = some (.slice (some ⟨b, off, none⟩) xs.length c) := (hb1.cell (p := ⟨w.heap.size, 1, none⟩) (by simp)).trans (by simp)
    have hz : w.heap.size < w'.heap.size := by have := hb1.size; simp at this; omega
    have ha : Below w'.heap.size w' (w'.alloc (.cells #[.int .i64 (m : Int)] 3)) := (Below.refl _ _).alloc (Nat.le_refl _) _
    have hd0a := (ha.cell (p := ⟨w.heap.size, 0, none⟩) hz).trans hd0
    have hd1a := (ha.cell (p := ⟨w.heap.size, 1, none⟩) hz).trans hd1
    have hBa : Below w.heap.size w (w'.alloc (.cells #[.int .i64 (m : Int)] 3)) := (((Below.refl w.heap.size w).alloc (Nat.le_refl _) _).trans (hb1.mono (by omega))).trans (ha.mono (by omega))
    have HVa : Hid (VAt (w'.alloc (.cells #[.int .i64 (m : Int)] 3)).drew b off c n xs) := Lib.hid (HV.out.below hBa.drew)
    go_region_with (first | (go_at_call 145; refine (longerThan_any _ _).mono ?_; rintro e w2 ⟨rfl, rfl⟩) | (go_at_call 144; refine (HFh.out w'.heap.size _ HVa.out (by simp)).mono ?_; rintro e w3 ⟨v, rfl, hrow, hb3⟩))
    all_goals go_wp2
    all_goals go_ret2
    all_goals exact ⟨v, rfl, ownsRow_base hrow hBa.drew.size, hBa.drew.trans (hb3.mono hBa.drew.size)⟩
theorem FloatsW_ok (n : Nat) (b off c : Nat) (xs : List Nat) (m : Nat) (w : World) (hv : VAt w b off c n xs) (hm : m ≤ 1000) :
    Calls Try.prog 71 #[.agg #[.int .i64 (n : Int), .slice (some ⟨b, off, none⟩) xs.length c], .int .i64 1, .int .i64 (m : Int)] w
      fun e w' => ∃ v, e = .returned (.tuple #[v, .int .i64 0]) ∧ w'.ownsRow w.heap.size 149 4 v (upTo (flW n xs m) xs.length).length (flCells (upTo (flW n xs m) xs.length)) ∧ Below w.heap.size w w' :=
  FloatsAL_ok 1 (.inl rfl) n b off c xs m _ w hv hm fun bb W hW hb => floatsW_any n b off c bb m xs W ⟨hW.ok.n0, hW.ok.n1⟩ hW.ok.l1 hW.lt hW.at' hW.ok.lt' hb
theorem FloatsH_ok (n : Nat) (b off c : Nat) (xs : List Nat) (m : Nat) (w : World) (hv : VAt w b off c n xs) (hm : m ≤ 1000) :
    Calls Try.prog 71 #[.agg #[.int .i64 (n : Int), .slice (some ⟨b, off, none⟩) xs.length c], .int .i64 2, .int .i64 (m : Int)] w
      fun e w' => ∃ v, e = .returned (.tuple #[v, .int .i64 0]) ∧ w'.ownsRow w.heap.size 149 4 v (upTo (flH xs m) n).length (flCells (upTo (flH xs m) n)) ∧ Below w.heap.size w w' :=
  FloatsAL_ok 2 (.inr rfl) n b off c xs m _ w hv hm fun bb W hW hb => floatsH_any n b off c bb m xs W ⟨hW.ok.n0, hW.ok.n1⟩ ⟨hW.ok.l0, hW.ok.l1⟩ hW.lt hW.at' hW.ok.lt' hb
end
end Go.Proofs.Ytdmgffoikebgkaa
