/- Harness ties: the first warps of hooks. -/
import Derived.Test.YtdmgffoikebgkaaTb10
import Derived.Test.YtdmgffoikebgkaaTb02
import Derived.Maps.StringElems
import Derived.StringKeys
import Derived.Test.YtdmgffoikebgkaaTb08
import Derived.Lib.Builder
import Derived.Lib.UnsafeStr
import Derived.Laws.Externs
namespace Go.Proofs.Ytdmgffoikebgkaa
open Go.RowKit Go.Shelf
attribute [local go_sem] Oper.semAt_some

/-- the first place from one on that holds a number: what is known behind m rounds from the last place on -/
def firstG (hs : List Nat) (m : Nat) (z : Int) : Option Nat := ((List.range hs.length).drop (hs.length - m)).find? fun i => decide ((nthN hs i : Int) = z)
theorem firstG_zero (hs : List Nat) : firstG hs 0 = fun _ => none := by
  funext z; unfold firstG; rw [Nat.sub_zero, List.drop_eq_nil_of_le (by simp)]; rfl
theorem firstG_succ (hs : List Nat) (m : Nat) (h : m < hs.length) : firstG hs (m + 1) = setG (firstG hs m) (nthN hs (hs.length - 1 - m) : Int) (hs.length - 1 - m) := by
  funext z
  unfold firstG setG
  have h1 : hs.length - (m + 1) < (List.range hs.length).length := by simp; omega
  rw [List.drop_eq_getElem_cons h1, List.find?_cons]
  have e1 : hs.length - (m + 1) = hs.length - 1 - m := by omega
  have e2 : hs.length - (m + 1) + 1 = hs.length - m := by omega
  rw [e2]
  simp only [List.getElem_range, e1]
  by_cases hz : z = (nthN hs (hs.length - 1 - m) : Int)
  · rw [if_pos hz, decide_eq_true hz.symm]
  · rw [if_neg hz, decide_eq_false (fun e => hz e.symm)]
/-- the first warp of a hook -/
def firstH (hs : List Nat) (h : Nat) : Option Nat := (List.range hs.length).find? fun i => decide (nthN hs i = h)
theorem firstG_all (hs : List Nat) (h : Nat) : firstG hs hs.length (h : Int) = firstH hs h := by
  unfold firstG firstH
  rw [Nat.sub_self, List.drop_zero]
  congr 1
  funext i
  exact decide_eq_decide.2 (by omega)
theorem firstH_some {hs : List Nat} {k : Nat} (hk : k < hs.length) : ∃ o, firstH hs (nthN hs k) = some o ∧ o ≤ k ∧ nthN hs o = nthN hs k ∧ ∀ j, j < o → nthN hs j ≠ nthN hs k := by
  have h : (firstH hs (nthN hs k)).isSome := by
    unfold firstH
    rw [List.find?_isSome]
    exact ⟨k, by simpa using hk, by simp⟩
  obtain ⟨o, ho⟩ := Option.isSome_iff_exists.1 h
  have h2 := ho
  unfold firstH at h2
  rw [List.find?_range_eq_some] at h2
  obtain ⟨h3, h4, h5⟩ := h2
  refine ⟨o, ho, ?_, by simpa using h3, fun j hj => by simpa using h5 j hj⟩
  rcases Nat.lt_or_ge k o with h6 | h6
  · have := h5 k h6; simp at this
  · exact h6
theorem IMap.calm {W W' : World} {mb k s n : Nat} {g : Int → Option Nat} (h : IMap W mb k s g) (hc : Calm n W W') (hn : mb < n) : IMap W' mb k s g := by
  obtain ⟨D, ⟨es, clock, hb, h1⟩, h2⟩ := h
  exact ⟨D, ⟨es, clock, hc.same _ _ hb (.inr hn), h1⟩, h2⟩
theorem IMap.upd {w : World} {mb k s : Nat} {g : Int → Option Nat} (h : IMap w mb k s g) {X : Int} {Y : Nat} (hX : -1000000 ≤ X ∧ X ≤ 1000000) (hY : Y ≤ 100000) (hk : k ≤ 100000) :
    ∃ w', (Instr.mapUpdate 178 (.map (some mb)) (.int .i64 X) (.int .i64 (Y : Int))).run Try.prog w = .ok () w' ∧ IMap w' mb (k + 1) (if (g X).isSome then s else s + 1) (setG g X Y) ∧ w.grownBy w' (some mb) := by
  obtain ⟨D, h1, h2, h3⟩ := h
  have hkey : keyOf Try.prog 3 (.int .i64 X) = some (.int .i64 X) := Maps.keyOf_int_mk Try.underlying3 (wf_near hX)
  obtain ⟨w', hrun, hown, hgrow⟩ := h1.update Try.intKeyed Try.underlying178 (by unfold maxLen; omega) hkey (plainElem_int Try.underlying3 (wf_near (x := (Y : Int)) (by omega)))
  refine ⟨w', hrun, ⟨_, hown, ?_, fun y hy => ?_⟩, hgrow⟩
  · rw [Maps.size_put (h1.tidy Try.intKeyed), (h3 X hX).1, h2]
  · by_cases e : y = X
    · subst e
      refine ⟨?_, ?_⟩
      · rw [Maps.has_put_same h1.isMap (Try.intKeyed.key hkey)]; simp [setG]
      · rw [Maps.atKey_put_same h1.isMap (Try.intKeyed.key hkey)]; simp [setG]
    · refine ⟨?_, ?_⟩
      · rw [Maps.has_put_other (key_ne e), (h3 y hy).1]; simp [setG, e]
      · rw [Maps.atKey_put_other (key_ne e), (h3 y hy).2]; simp [setG, e]
theorem back_any (b off c : Nat) (hs : List Nat) (w : World) :
    Calls Try.prog 186 #[.slice (some ⟨b, off, none⟩) hs.length c] w fun e w' => e = .returned (.func (.func 211) #[] #[.pointer (some ⟨w.heap.size, 0, none⟩)]) ∧ w' = w.alloc (.cells #[.slice (some ⟨b, off, none⟩) hs.length c] 24) := by
  go_enter Try.func186, Try.ntmps186
  go_wp2
  go_ret
  exact ⟨rfl, rfl⟩
/-- what a round of firsts finds -/
structure FiAt (w0 : World) (mb S b off c : Nat) (hs : List Nat) (pre : List Nat) (W : World) : Prop where
  map : ∃ k s, IMap W mb k s (firstG hs pre.length) ∧ k ≤ pre.length
  box : BoxAt W (w0.heap.size + 2) #[.map (some mb)] 178
  bm : BackM S b off c hs W
  b : Below w0.heap.size w0 W
theorem FiAt.calm {w0 W W' : World} {mb S b off c n : Nat} {hs pre : List Nat} (h : FiAt w0 mb S b off c hs pre W) (hc : Calm n W W') (hn : w0.heap.size ≤ n) (hm : mb < n) : FiAt w0 mb S b off c hs pre W' := by
  obtain ⟨k, s, h1, h2⟩ := h.map
  exact ⟨⟨k, s, h1.calm hc hm, h2⟩, hc.same _ _ h.box (.inl rfl), ⟨hc.cell h.bm.1, fun i hi => hc.cell (h.bm.2 i hi)⟩, by
    refine Below.trans h.b ⟨hc.os, hc.tape, hc.output, hc.size, fun i hi => ?_⟩
    have hlt : i < W.heap.size := Nat.lt_of_lt_of_le hi h.b.size
    rw [Array.getElem?_eq_getElem hlt]
    exact hc.same _ _ (Array.getElem?_eq_getElem hlt) (.inr (by omega))⟩
set_option maxRecDepth 100000 in
set_option maxHeartbeats 2000000 in
theorem firsts_any (n b off c : Nat) (hs : List Nat) (w : World) (hv : TAt w b off n hs) :
    Calls Try.prog 132 #[.agg #[.int .i64 (n : Int), .slice (some ⟨b, off, none⟩) hs.length c]] w fun e w' =>
      ∃ mb k s, e = .returned (.map (some mb)) ∧ IMap w' mb k s (firstG hs hs.length) ∧ w.heap.size ≤ mb ∧ Below w.heap.size w w' := by
  have l1 := hv.l1
  have n1 := hv.n1
  have hb0 := hv.lt
  have hbk := hv.hk
  have HV := Lib.hid hv
  have hmm := @run_makeMap Try.prog
  clear hv
  obtain ⟨nf, _⟩ : ∃ nf : Nat, nf = nf := ⟨3, rfl⟩
  refine (callsIn_wide (n := nf)).1 ?_
  refine callsIn_of_wp_marks Try.func132 rfl trivial ?_ rfl
  simp only [Try.ntmps132, List.size_toArray, List.length_cons, List.length_nil, Nat.reduceAdd, Nat.reduceSub, Array.replicate_succ, Array.replicate_zero, List.push_toArray, List.append_toArray, List.nil_append, List.cons_append]
  gi_wp2_with fail
  refine wideCall (back_any b off c hs _) ?_
  rintro e w1 ⟨rfl, rfl⟩
  gi_wp2_with fail
  have hI0 := (IMap.made (w.alloc (.cells #[.int .i64 (n : Int), .slice (some ⟨b, off, none⟩) hs.length c] 159))).next (((Below.refl _ _).alloc (Nat.le_refl _) (.cells #[.map (some (w.heap.size + 1))] 178)).alloc (by simp) (.cells #[.slice (some ⟨b, off, none⟩) hs.length c] 24))
  have hX0 := (BoxAt.new ((w.alloc (.cells #[.int .i64 (n : Int), .slice (some ⟨b, off, none⟩) hs.length c] 159)).alloc (.map #[] 0)) #[.map (some (w.heap.size + 1))] 178).next ((Below.refl _ _).alloc (Nat.le_refl _) (.cells #[.slice (some ⟨b, off, none⟩) hs.length c] 24))
  have hS0 := (BoxAt.new (((w.alloc (.cells #[.int .i64 (n : Int), .slice (some ⟨b, off, none⟩) hs.length c] 159)).alloc (.map #[] 0)).alloc (.cells #[.map (some (w.heap.size + 1))] 178)) #[.slice (some ⟨b, off, none⟩) hs.length c] 24).cell' 0 rfl
  have hB0 : Below w.heap.size w ((((w.alloc (.cells #[.int .i64 (n : Int), .slice (some ⟨b, off, none⟩) hs.length c] 159)).alloc (.map #[] 0)).alloc (.cells #[.map (some (w.heap.size + 1))] 178)).alloc (.cells #[.slice (some ⟨b, off, none⟩) hs.length c] 24)) :=
    ((((Below.refl w.heap.size w).alloc (Nat.le_refl _) _).alloc (by simp) _).alloc (by simp; omega) _).alloc (by simp; omega) _
  obtain ⟨W1, hW1⟩ : ∃ W1, (((w.alloc (.cells #[.int .i64 (n : Int), .slice (some ⟨b, off, none⟩) hs.length c] 159)).alloc (.map #[] 0)).alloc (.cells #[.map (some (w.heap.size + 1))] 178)).alloc (.cells #[.slice (some ⟨b, off, none⟩) hs.length c] 24) = W1 := ⟨_, rfl⟩
  have hz1 : W1.heap.size = w.heap.size + 4 := by rw [← hW1]; simp
  rw [hW1] at hI0 hX0 hS0 hB0
  simp only [World.size_alloc] at hI0 hX0 hS0
  have hF0 : FiAt w (w.heap.size + 1) (w.heap.size + 3) b off c hs [] W1 :=
    ⟨⟨0, 0, by rw [List.length_nil, firstG_zero]; exact hI0, Nat.le_refl _⟩, hX0, ⟨hS0, (HV.out.next hB0).at'⟩, hB0⟩
  have HF0 := Lib.hid hF0
  rw [hW1]
  clear hI0 hX0 hS0 hB0 hW1 hF0
  refine rangeC (gf := 211) (lb := #[.pointer (some ⟨w.heap.size + 1 + 1 + 1, 0, none⟩)]) rfl (enters_of Try.func211 (by kernel_rfl) rfl) (encs := fun i : Nat => #[.int .i64 (i : Int), .int .i64 (nthN hs i : Int)]) (xs := backL hs.length hs.length) (B := W1.heap.size) (Nat.le_refl _) (fun _ => rfl)
    (back_iter (w.heap.size + 3) b off c hs _ _ (by omega))
    (fun pre W' => FiAt w (w.heap.size + 1) (w.heap.size + 3) b off c hs pre W')
    ?stable ?hM HF0.out
    (fun x a1 _ => a1 = { tmps := #[.agg #[.int .i64 (n : Int), .slice (some ⟨b, off, none⟩) hs.length c], .pointer (some ⟨w.heap.size, 0, none⟩), .map none, .pointer (some ⟨w.heap.size + 1 + 1, 0, none⟩), .int .i64 (x : Int), .int .i64 (nthN hs x : Int), .map (some (w.heap.size + 1)), .pointer (some ⟨w.heap.size, 0, none⟩), .pointer (some ⟨w.heap.size, 1, none⟩), .slice (some ⟨b, off, none⟩) hs.length c, .func (.func 211) #[] #[.pointer (some ⟨w.heap.size + 1 + 1 + 1, 0, none⟩)], .int .i64 (x : Int), .int .i64 (nthN hs x : Int), undef, undef, undef, undef], defers := [] })
    ?stableA ?assign ?body ?done
  case stable => exact fun s A A' h hc => h.calm hc (by omega) (by omega)
  case hM => exact fun s A h => h.bm
  case stableA => exact fun _ _ _ _ h _ => h
  case assign =>
    intro l x W' K hK
    gi_wp2
    exact hK _ _ (Below.refl _ _) rfl
  case body =>
    rintro l pre x _ W' hf rfl hpre hsz
    obtain ⟨_, hx, hlt⟩ := backL_at hpre
    obtain ⟨k, s, hm, hk⟩ := hf.map
    have hx2 : x < hs.length := by omega
    have hh := hbk x hx2
    have hxc := hf.box.cell' (v := .map (some (w.heap.size + 1))) 0 rfl
    obtain ⟨W2, hrun, hm2, hg⟩ := hm.upd (X := (nthN hs x : Int)) (Y := x) (by omega) (by omega) (by omega)
    have hend : FiAt w (w.heap.size + 1) (w.heap.size + 3) b off c hs (pre ++ [x]) W2 := by
      have hcell : ∀ p v, W'.cell? p = some v → p.block ≠ w.heap.size + 1 → W2.cell? p = some v := fun p v h1 h2 =>
        (World.cell?_of_block (w := W') (hg.block _ (World.block_lt_of_cell? W' p h1) (by simpa using h2))).trans h1
      refine ⟨⟨k + 1, if ((firstG hs pre.length) (nthN hs x : Int)).isSome then s else s + 1, ?_, ?_⟩, hf.box.kept hg (by simp), ⟨hcell _ _ hf.bm.1 (by simp), fun i hi => hcell _ _ (hf.bm.2 i hi) (by simp; omega)⟩, hf.b.grown hg hf.b.size (fun j e => by cases e; omega)⟩
      · have e1 : (pre ++ [x]).length = pre.length + 1 := by simp
        rw [e1, firstG_succ hs pre.length hlt, ← hx]
        exact hm2
      · simp; omega
    have HE := Lib.hid hend
    have HK := Lib.hid (show KeepsFrom W1.heap.size W' W2 from KeepsFrom.of_grownBy hg (fun j e => by cases e; omega))
    clear hf hm hm2 hg hend HF0 hmm hx hlt hpre hh hsz hx2 hk hbk l1 n1 hb0
    gi_wp2_with fail
    exact ⟨HK.out, HE.out⟩
  case done =>
    rintro W' hlt' hf hD
    have hxc := hf.box.cell' (v := .map (some (w.heap.size + 1))) 0 rfl
    have HF := Lib.hid hf
    clear hf HF0 hmm
    gi_wp2
    refine leaves_marks (B := W1.heap.size) (v := .map (some (w.heap.size + 1))) [W1.heap.size] _ (fun D hD' => ?_) (by simp) fun w' hc => ⟨?_, ?_⟩
    · obtain rfl : D = W1.heap.size := by simpa using hD'
      exact ⟨Nat.le_refl _, hD⟩
    · simp [results, Try.f132, go_sem]
    · obtain ⟨k, s, h1, h2⟩ := (HF.out.calm hc (by omega) (by omega)).map
      rw [backL_len] at h1
      exact ⟨w.heap.size + 1, k, s, rfl, h1, by omega, (HF.out.calm hc (by omega) (by omega)).b⟩
end Go.Proofs.Ytdmgffoikebgkaa
/- Classes by a key, numbered as they come; a map from texts to numbers that a call makes. -/
namespace Go.Proofs.Ytdmgffoikebgkaa
open Go.RowKit Go.Shelf
open Go.Maps (Keyed IsMap)

section
variable {κ : Type} [DecidableEq κ]
/-- the first one with the same key -/
def fstI (key : Nat → κ) (k : Nat) : Nat := ((List.range k).find? fun j => decide (key j = key k)).getD k
/-- how many keys the first ones have -/
def cntF (key : Nat → κ) : Nat → Nat
  | 0 => 0
  | k + 1 => cntF key k + if fstI key k = k then 1 else 0
/-- the number of a key -/
def fewH (key : Nat → κ) (k : Nat) : Nat := cntF key (fstI key k)
variable {key : Nat → κ}
theorem fstI_key (k : Nat) : key (fstI key k) = key k := by
  unfold fstI
  cases h : (List.range k).find? fun j => decide (key j = key k) with
  | none => rfl
  | some o =>
    have := List.find?_some h
    simpa using this
theorem fstI_le (k : Nat) : fstI key k ≤ k := by
  unfold fstI
  cases h : (List.range k).find? fun j => decide (key j = key k) with
  | none => exact Nat.le_refl _
  | some o =>
    have := List.mem_of_find?_eq_some h
    simp at this
    simpa using Nat.le_of_lt this
theorem fstI_least {k j : Nat} (h : j < fstI key k) : key j ≠ key k := by
  unfold fstI at h
  cases ho : (List.range k).find? fun j => decide (key j = key k) with
  | none =>
    rw [ho] at h
    rw [List.find?_eq_none] at ho
    have := ho j (by simpa using h)
    simpa using this
  | some o =>
    rw [ho] at h
    rw [List.find?_range_eq_some] at ho
    have := ho.2.2 j (by simpa using h)
    simpa using this
theorem fstI_eq {a b : Nat} (h : key a = key b) : fstI key a = fstI key b := by
  rcases Nat.lt_trichotomy (fstI key a) (fstI key b) with h1 | h1 | h1
  · exact absurd ((fstI_key a).trans h) (fstI_least h1)
  · exact h1
  · exact absurd ((fstI_key b).trans h.symm) (fstI_least h1)
theorem fstI_self (k : Nat) : fstI key (fstI key k) = fstI key k := fstI_eq (fstI_key k)
theorem fstI_of_none {k : Nat} (h : ∀ j, j < k → key j ≠ key k) : fstI key k = k := by
  rcases Nat.lt_or_ge (fstI key k) k with h1 | h1
  · exact absurd (fstI_key k) (h _ h1)
  · exact Nat.le_antisymm (fstI_le k) h1
theorem cntF_mono {a b : Nat} (h : a ≤ b) : cntF key a ≤ cntF key b := by
  induction h with
  | refl => exact Nat.le_refl _
  | step _ ih => exact Nat.le_trans ih (by rw [cntF]; omega)
theorem cntF_lt {o k : Nat} (ho : fstI key o = o) (h : o < k) : cntF key o < cntF key k := by
  have h1 : cntF key (o + 1) = cntF key o + 1 := by rw [cntF, if_pos ho]
  have h2 := cntF_mono (key := key) (show o + 1 ≤ k from h)
  omega
theorem cntF_le_self (k : Nat) : cntF key k ≤ k := by
  induction k with
  | zero => exact Nat.le_refl _
  | succ k ih => rw [cntF]; split <;> omega
theorem fewH_lt {k n : Nat} (h : k < n) : fewH key k < cntF key n := cntF_lt (fstI_self k) (Nat.lt_of_le_of_lt (fstI_le k) h)
theorem fewH_eq {a b : Nat} (h : key a = key b) : fewH key a = fewH key b := by unfold fewH; rw [fstI_eq h]
theorem fewH_inj {a b : Nat} (h : fewH key a = fewH key b) : key a = key b := by
  unfold fewH at h
  have e : fstI key a = fstI key b := by
    rcases Nat.lt_trichotomy (fstI key a) (fstI key b) with h1 | h1 | h1
    · have := cntF_lt (fstI_self (key := key) a) h1; omega
    · exact h1
    · have := cntF_lt (fstI_self (key := key) b) h1; omega
  rw [← fstI_key (key := key) a, e]
  exact fstI_key b
theorem cntF_pos {n : Nat} (h : 1 ≤ n) : 1 ≤ cntF key n := by
  have := fewH_lt (key := key) (show 0 < n from h); omega
theorem fstI_congr {κ2 : Type} [DecidableEq κ2] {key2 : Nat → κ2} {n : Nat} (h : ∀ i j, i < n → j < n → (key i = key j ↔ key2 i = key2 j)) {k : Nat} (hk : k < n) : fstI key k = fstI key2 k := by
  have h1 := fstI_le (key := key) k
  have h2 := fstI_le (key := key2) k
  rcases Nat.lt_trichotomy (fstI key k) (fstI key2 k) with h3 | h3 | h3
  · exact absurd ((h _ _ (by omega) hk).1 (fstI_key k)) (fstI_least h3)
  · exact h3
  · exact absurd ((h _ _ (by omega) hk).2 (fstI_key k)) (fstI_least h3)
theorem cntF_congr {κ2 : Type} [DecidableEq κ2] {key2 : Nat → κ2} {n : Nat} (h : ∀ i j, i < n → j < n → (key i = key j ↔ key2 i = key2 j)) : ∀ k, k ≤ n → cntF key k = cntF key2 k
  | 0, _ => rfl
  | k + 1, hk => by rw [cntF, cntF, cntF_congr h k (by omega), fstI_congr h (show k < n by omega)]
theorem nodup_lt : ∀ (N : Nat) (l : List Nat), l.Nodup → (∀ x ∈ l, x < N) → l.length ≤ N
  | 0, l, _, h => by
    cases l with
    | nil => simp
    | cons a l => exact absurd (h a (by simp)) (by omega)
  | N + 1, l, hd, h => by
    have h1 := nodup_lt N (l.erase N) (hd.erase N) (fun x hx => by
      have h2 := (List.Nodup.mem_erase_iff hd).1 hx
      have h3 := h x h2.2
      have h4 := h2.1
      omega)
    by_cases hm : N ∈ l
    · rw [List.length_erase_of_mem hm] at h1; omega
    · rw [List.erase_of_not_mem hm] at h1; omega
/-- the places of the first ones -/
def fstL (key : Nat → κ) (k : Nat) : List Nat := (List.range k).filter fun i => decide (fstI key i = i)
theorem fstL_len : ∀ k, (fstL key k).length = cntF key k
  | 0 => rfl
  | k + 1 => by
    have h := fstL_len k
    unfold fstL at h ⊢
    rw [List.range_succ, List.filter_append, List.length_append, h, cntF]
    by_cases e : fstI key k = k
    · simp [e]
    · simp [e]
/-- no more keys than numbers that settle them -/
theorem cntF_le {n N : Nat} (f : Nat → Nat) (hf : ∀ i j, i < n → j < n → f i = f j → key i = key j) (hN : ∀ i, i < n → f i < N) : cntF key n ≤ N := by
  rw [← fstL_len]
  have hm : ∀ i, i ∈ fstL key n → i < n ∧ fstI key i = i := fun i hi => by
    unfold fstL at hi; simpa using hi
  have hd : (fstL key n).Nodup := List.Pairwise.filter _ List.nodup_range
  have hd2 : ((fstL key n).map f).Nodup := by
    unfold List.Nodup
    rw [List.pairwise_map]
    refine List.Pairwise.imp_of_mem ?_ hd
    intro a b ha hb hne e
    have h1 := hm a ha
    have h2 := hm b hb
    have h3 := fstI_eq (hf a b h1.1 h2.1 e)
    rw [h1.2, h2.2] at h3
    exact hne h3
  have := nodup_lt N _ hd2 (fun x hx => by
    obtain ⟨i, hi, rfl⟩ := List.mem_map.1 hx
    exact hN i (hm i hi).1)
  simpa using this
/-- what a map of numbers knows behind k of them -/
def ClG (key : Nat → κ) (k : Nat) (g : κ → Option Nat) : Prop := (∀ x, (∀ j, j < k → key j ≠ x) → g x = none) ∧ ∀ j, j < k → g (key j) = some (fewH key j)
theorem ClG.start : ClG key 0 fun _ => none := ⟨fun _ _ => rfl, fun j h => by omega⟩
theorem ClG.none {k : Nat} {g : κ → Option Nat} (h : ClG key k g) (hg : g (key k) = none) : fstI key k = k ∧ cntF key (k + 1) = cntF key k + 1 ∧ fewH key k = cntF key k ∧ ClG key (k + 1) (fun x => if x = key k then some (cntF key k) else g x) := by
  have h1 : fstI key k = k := fstI_of_none fun j hj e => by
    have := h.2 j hj
    rw [e, hg] at this
    cases this
  have h2 : fewH key k = cntF key k := by unfold fewH; rw [h1]
  refine ⟨h1, by rw [cntF, if_pos h1], h2, fun x hx => ?_, fun j hj => ?_⟩
  · have h3 := hx k (by omega)
    simp only []
    rw [if_neg (fun e => h3 e.symm)]
    exact h.1 x fun j hj => hx j (by omega)
  · simp only []
    by_cases e : key j = key k
    · rw [if_pos e, fewH_eq e, h2]
    · rw [if_neg e]
      have : j ≠ k := fun e2 => e (by rw [e2])
      exact h.2 j (by omega)
theorem ClG.some {k x : Nat} {g : κ → Option Nat} (h : ClG key k g) (hg : g (key k) = some x) : x = fewH key k ∧ cntF key (k + 1) = cntF key k ∧ ClG key (k + 1) g := by
  have h0 : ∃ j, j < k ∧ key j = key k := by
    rcases Classical.em (∃ j, j < k ∧ key j = key k) with h1 | h1
    · exact h1
    · have := h.1 (key k) fun j hj e => h1 ⟨j, hj, e⟩
      rw [hg] at this; cases this
  obtain ⟨j, hj, e⟩ := h0
  have h2 := h.2 j hj
  rw [e, hg] at h2
  have h3 : fstI key k ≠ k := fun e3 => by
    have := fstI_least (key := key) (k := k) (j := j) (by omega)
    exact this e
  refine ⟨by rw [← fewH_eq e]; exact Option.some.inj h2, by rw [cntF, if_neg h3]; rfl, fun y hy => h.1 y fun i hi => hy i (by omega), fun i hi => ?_⟩
  by_cases e4 : i = k
  · rw [e4, hg, ← fewH_eq e]; exact h2
  · exact h.2 i (by omega)
end
theorem Try.strKeyed : Keyed Try.prog 9 := Maps.string_keyed Try.underlying9
/-- block mb is a map with s entries that reads as g at short texts -/
def SMap (w : World) (mb k s : Nat) (g : List UInt8 → Option Nat) : Prop :=
  ∃ D : DataW Nat, w.ownsMap Try.prog 9 (plainElem Try.prog 3) mb k D ∧ Maps.size D = s ∧
    ∀ x : List UInt8, x.length ≤ 1000 → Maps.has D (.string x) = (g x).isSome ∧ D.atKey (.string x) (.lit (.int .i64 0)) = .lit (.int .i64 (((g x).getD 0 : Nat) : Int))
theorem SMap.made (w : World) : SMap (w.alloc (.map #[] 0)) w.heap.size 0 0 (fun _ => none) :=
  ⟨.map [], World.ownsMap_made w _ _ _, rfl, fun x _ => ⟨rfl, by rw [Maps.atKey_of_not_has]; rfl; rfl⟩⟩
theorem SMap.grown {w w' : World} {mb k s : Nat} {g : List UInt8 → Option Nat} {row : Option Nat} (h : SMap w mb k s g) (hg : w.grownBy w' row) (hne : some mb ≠ row) : SMap w' mb k s g := by
  obtain ⟨D, h1, h2⟩ := h
  exact ⟨D, h1.kept hg hne, h2⟩
theorem SMap.next {w w' : World} {mb k s : Nat} {g : List UInt8 → Option Nat} (h : SMap w mb k s g) (hb : Below w.heap.size w w') : SMap w' mb k s g := h.grown (below_grown hb none) (by simp)
theorem SMap.lt {w : World} {mb k s : Nat} {g : List UInt8 → Option Nat} (h : SMap w mb k s g) : mb < w.heap.size := by
  obtain ⟨D, h1, _⟩ := h; exact h1.lt
theorem str_key {s : ByteArray} (hs : s.size ≤ 1000) : keyOf Try.prog 9 (.string s) = some (.string s.data.toList) := WideMaps.keyOf_string_mk Try.underlying9 (by unfold maxLen; omega)
theorem skey_ne {x y : List UInt8} (h : x ≠ y) : (Lit.string x) ≠ (Lit.string y) := by simpa using h
theorem SMap.upd {w : World} {mb k s : Nat} {g : List UInt8 → Option Nat} (h : SMap w mb k s g) {X : ByteArray} {Y : Nat} (hX : X.size ≤ 1000) (hY : Y ≤ 100000) (hk : k ≤ 100000) :
    ∃ w', (Instr.mapUpdate 233 (.map (some mb)) (.string X) (.int .i64 (Y : Int))).run Try.prog w = .ok () w' ∧ SMap w' mb (k + 1) (if (g X.data.toList).isSome then s else s + 1) (fun x => if x = X.data.toList then some Y else g x) ∧ w.grownBy w' (some mb) := by
  obtain ⟨D, h1, h2, h3⟩ := h
  have hkey := str_key hX
  have hXl : X.data.toList.length ≤ 1000 := hX
  obtain ⟨w', hrun, hown, hgrow⟩ := h1.update Try.strKeyed Try.underlying233 (by unfold maxLen; omega) hkey (plainElem_int Try.underlying3 (wf_near (x := (Y : Int)) (by omega)))
  refine ⟨w', hrun, ⟨_, hown, ?_, fun y hy => ?_⟩, hgrow⟩
  · rw [Maps.size_put (h1.tidy Try.strKeyed), (h3 _ hXl).1, h2]
  · by_cases e : y = X.data.toList
    · subst e
      refine ⟨?_, ?_⟩
      · rw [Maps.has_put_same h1.isMap (Try.strKeyed.key hkey)]; simp
      · rw [Maps.atKey_put_same h1.isMap (Try.strKeyed.key hkey)]; simp
    · refine ⟨?_, ?_⟩
      · rw [Maps.has_put_other (skey_ne e), (h3 y hy).1]; simp [e]
      · rw [Maps.atKey_put_other (skey_ne e), (h3 y hy).2]; simp [e]
theorem SMap.look {w : World} {mb k s : Nat} {g : List UInt8 → Option Nat} (h : SMap w mb k s g) {X : ByteArray} (hX : X.size ≤ 1000) :
    (Instr.lookup 233 (.map (some mb)) (.string X) true).run Try.prog w = .ok (.tuple #[.int .i64 (((g X.data.toList).getD 0 : Nat) : Int), .bool (g X.data.toList).isSome]) w := by
  obtain ⟨D, h1, h2, h3⟩ := h
  have hkey := str_key hX
  have hXl : X.data.toList.length ≤ 1000 := hX
  obtain ⟨v, ps, hrun, hv⟩ := h1.look_ok Try.strKeyed Try.underlying233 (Try.zero3 w) (plainElem_int Try.underlying3 (by decide)) hkey
  obtain ⟨c, rfl, hc, _⟩ := plainElem_int_inv Try.underlying3 hv
  have e : D.atKey (.string X.data.toList) (.lit (.int .i64 0)) = .lit (.int .i64 c) := congrArg Prod.fst hc
  rw [(h3 _ hXl).2] at e
  have e2 : (((g X.data.toList).getD 0 : Nat) : Int) = c := by simpa using e
  rw [hrun, (h3 _ hXl).1, e2]
theorem SMap.len {w : World} {mb k s : Nat} {g : List UInt8 → Option Nat} (h : SMap w mb k s g) (ty : TypeId) : (Builtin.len_ #[233] ty #[.map (some mb)]).run Try.prog w = .ok (.int .i64 (s : Int)) w := by
  obtain ⟨D, h1, h2, h3⟩ := h
  rw [h1.len Try.underlying233 ty, h2]
end Go.Proofs.Ytdmgffoikebgkaa
/- strings.Builder; a warp from pick to pick. -/
namespace Go.Proofs.Ytdmgffoikebgkaa
open Go.RowKit Go.Shelf
attribute [local go_sem] Oper.semAt_some

theorem Try.size262 : (Try.prog.info? 262).map (·.size) = some 2 := by kernel_rfl
theorem Try.lies262 : liesAt Try.prog Try.prog.depth 262 (2 / Try.prog.cellsOf 262) 0 262 1 = true := by kernel_rfl
theorem Try.cells5 : Try.prog.cellsOf 5 = 1 := by kernel_rfl
set_option maxHeartbeats 1000000 in
set_option maxRecDepth 100000 in
theorem bldCheck_used (b : Nat) (w : World) (h0 : w.cell? ⟨b, 0, none⟩ = some (.pointer (some ⟨b, 0, none⟩))) :
    Calls Try.prog 229 #[.pointer (some ⟨b, 0, none⟩)] w fun e w' => e = .returned (.tuple #[]) ∧ w' = w := by
  obtain ⟨j, hj, _⟩ := Option.map_eq_some_iff.1 Try.size262
  go_enter Try.func229, Try.ntmps229
  go_wp2
  rw [Lib.run_neq_ptr_same w _ Try.underlying260 hj]
  go_wp2
  go_end0
  exact ⟨rfl, rfl⟩
set_option maxHeartbeats 1000000 in
set_option maxRecDepth 100000 in
theorem bldCheck_fresh (b : Nat) (w : World) (h0 : w.cell? ⟨b, 0, none⟩ = some (.pointer none)) (hsh : w.shape? b = some (262, 2)) (hfz : w.frozen? ⟨b, 0, none⟩ = false) :
    Calls Try.prog 229 #[.pointer (some ⟨b, 0, none⟩)] w fun e w' => e = .returned (.tuple #[]) ∧ w' = w.setCell ⟨b, 0, none⟩ (.pointer (some ⟨b, 0, none⟩)) := by
  obtain ⟨j, hj, hjs⟩ := Option.map_eq_some_iff.1 Try.size262
  go_enter Try.func229, Try.ntmps229
  go_wp2
  rw [Lib.run_to_unsafe w ⟨b, 0, none⟩ Try.underlying260 Try.underlying286 hj (by rw [hjs]; decide) hsh (Nat.zero_lt_succ 1)]
  simp only [Result.andThen]
  rw [Oper.upon_value]
  go_wp2
  rw [run_callFunc_extern Try.func233 (by kernel_rfl) (by kernel_rfl) (by kernel_rfl) (e := Extern.AbiNoEscape.same) (by kernel_rfl)]
  rw [Lib.run_noEscape]
  simp only [Result.andThen]
  rw [Oper.upon_value]
  go_wp2
  rw [Lib.run_from_unsafe w ⟨b, 0, none⟩ Try.underlying286 Try.underlying260 hj hsh Try.lies262]
  simp only [Result.andThen]
  rw [Oper.upon_value]
  go_wp2
  go_end0
  exact ⟨rfl, rfl⟩
theorem bldCheck (B b : Nat) (bs : List Value) (w : World) (h : Lib.IsBuilder 262 5 B b bs w) :
    Calls Try.prog 229 #[.pointer (some ⟨b, 0, none⟩)] w fun e w' => e = .returned (.tuple #[]) ∧ (Lib.BuilderAt 262 5 B b (.pointer (some ⟨b, 0, none⟩)) bs w' ∧ Below B w w') := by
  rcases h with h | h
  · refine (bldCheck_fresh b w h.cell0 h.shape h.frozen0).mono ?_
    rintro e w' ⟨rfl, rfl⟩
    exact ⟨rfl, h.used _, (Below.refl B w).setCell (p := ⟨b, 0, none⟩) h.1 _⟩
  · refine (bldCheck_used b w h.cell0).mono ?_
    rintro e w' ⟨rfl, rfl⟩
    exact ⟨rfl, h, Below.refl B _⟩
set_option maxHeartbeats 2000000 in
set_option maxRecDepth 100000 in
theorem bldByte (B b : Nat) (bs : List Value) (c : Int) (w : World) (h : Lib.IsBuilder 262 5 B b bs w) (hlen : bs.length ≤ 1000) (hBw : B ≤ w.heap.size) :
    Calls Try.prog 209 #[.pointer (some ⟨b, 0, none⟩), .int .u8 c] w fun e w' => e = .returned .nilIface ∧ (Lib.BuilderAt 262 5 B b (.pointer (some ⟨b, 0, none⟩)) (bs ++ [.int .u8 c]) w' ∧ Below B w w') := by
  obtain ⟨i0, hi, hz0, hz1, hz2⟩ := info_parts Try.info5'
  go_enter Try.func209, Try.ntmps209
  go_wp2_with fail
  refine (bldCheck B b bs _ h).mono ?_
  rintro e w1 ⟨rfl, h1, hb1⟩
  obtain ⟨hB, v, hbk, hown, hne⟩ := h1
  have c0 : w1.cell? ⟨b, 0, none⟩ = some (.pointer (some ⟨b, 0, none⟩)) := by rw [Lib.cell_of_heap hbk]; rfl
  have c1 : w1.cell? ⟨b, 1, none⟩ = some v := by rw [Lib.cell_of_heap hbk]; rfl
  go_wp2_with (at_builtin; refine wpList_append_own _ rfl _ _ 89 rfl B 5 i0 (.int .u8 0) 1 1 Try.underlying89 hi hz0 hz1 hz2 rfl (by decide) _ _ _ rfl (hown.alloc _) ⟨w1.heap.size, 0, none⟩ 1 1 [.int .u8 c] rfl rfl ?c1 ?c2 ?c3 ?c4 ?c5 ?_)
  case c1 =>
    intro j u hj
    match j, hj with
    | 0, hj => simp at hj; subst hj; simp [Addr.add]
  case c2 => intro u hu; simp at hu; subst hu; rfl
  case c3 => unfold maxLen; omega
  case c4 => omega
  case c5 => have := hb1.size; simp; omega
  intro v' w2 hown' hgrow _
  have hlt : b < w1.heap.size := by
    rcases Nat.lt_or_ge b w1.heap.size with h' | h'
    · exact h'
    · simp [Array.getElem?_eq_none h'] at hbk
  have hb2 : w2.heap[b]? = some (.cells #[.pointer (some ⟨b, 0, none⟩), v] 262 (0, 0)) := by
    rw [hgrow.block b (by simp; omega) (fun e => hne e.symm), Lib.alloc_old w1 _ b hlt]
    exact hbk
  have d0 : w2.cell? ⟨b, 0, none⟩ = some (.pointer (some ⟨b, 0, none⟩)) := by rw [Lib.cell_of_heap hb2]; rfl
  have d1 : w2.cell? ⟨b, 1, none⟩ = some v := by rw [Lib.cell_of_heap hb2]; rfl
  have f1 : w2.frozen? ⟨b, 1, none⟩ = false := Lib.frozen_of_heap hb2 1
  obtain ⟨g, cap, rfl⟩ : ∃ g cap, v' = .slice (some ⟨g, 0, none⟩) (bs.length + 1) cap := by
    rcases hown'.2 with ⟨_, h0⟩ | ⟨g, cap, cur, hv, _⟩
    · omega
    · exact ⟨g, cap, hv⟩
  have HP := Lib.hid (Lib.BuilderAt.put (T := 262) (e := 5) hB hb2 (bs' := bs ++ [.int .u8 c]) (by simpa using hown') (by decide))
  have HB := Lib.hid (((hb1.alloc (by have := hb1.size; omega) (.cells #[.int .u8 c] 5)).grown hgrow (by have := hb1.size; simp; omega) (fun k hk => (hown.lt k hk).1)).setCell (p := ⟨b, 1, none⟩) hB (.slice (some ⟨g, 0, none⟩) (bs.length + 1) cap))
  clear hown hown' hgrow hb1 hbk hb2 h hne
  go_wp2_with fail
  go_ret
  exact ⟨rfl, HP.out, HB.out⟩
set_option maxHeartbeats 2000000 in
set_option maxRecDepth 100000 in
theorem bldString (B b : Nat) (l : List UInt8) (w : World) (h : Lib.IsBuilder 262 5 B b (Lib.byteCells l) w) (h0 : l ≠ []) :
    Calls Try.prog 210 #[.pointer (some ⟨b, 0, none⟩)] w fun e w' => e = .returned (.string ⟨l.toArray⟩) ∧ Below B w w' := by
  obtain ⟨p, hB, v, hbk, hown, hne⟩ : ∃ p, Lib.BuilderAt 262 5 B b p (Lib.byteCells l) w := by
    rcases h with h | h
    · exact ⟨_, h⟩
    · exact ⟨_, h⟩
  have hl0 : l.length ≠ 0 := by simpa using h0
  rw [Lib.byteCells_length] at hown
  obtain ⟨g, cap, cur, rfl, hbg, hg, hnc, hcm, hcs, htake⟩ : ∃ g cap cur, v = .slice (some ⟨g, 0, none⟩) l.length cap ∧ B ≤ g ∧ w.heap[g]? = some (.cells cur 5 (0, 0)) ∧ l.length ≤ cap ∧ cap ≤ maxLen ∧ cur.size = cap * 1 ∧ cur.toList.take (l.length * 1) = Lib.byteCells l := by
    rcases hown.2 with ⟨_, hz⟩ | ⟨g, cap, cur, hv, r⟩
    · exact absurd hz hl0
    · exact ⟨g, cap, cur, hv, r⟩
  have c1 : w.drew.cell? ⟨b, 1, none⟩ = some (.slice (some ⟨g, 0, none⟩) l.length cap) := by
    have : w.drew.heap[b]? = some (.cells #[p, .slice (some ⟨g, 0, none⟩) l.length cap] 262 (0, 0)) := hbk
    rw [Lib.cell_of_heap this]; rfl
  have hSD : (Builtin.unsafeSliceData_ #[89] 284 #[.slice (some ⟨g, 0, none⟩) l.length cap]).run Try.prog w.drew = .ok (.pointer (some ⟨g, 0, none⟩)) w.drew :=
    Lib.run_unsafeSliceData_row _ _ _ _ _ _ (by omega)
  have hUS : (Builtin.unsafeString_ #[284, 3] 9 #[.pointer (some ⟨g, 0, none⟩), .int .i64 l.length]).run Try.prog w.drew = .ok (.string ⟨l.toArray⟩) (w.drew.freeze ⟨g, 0, none⟩ l.length) := by
    refine Lib.run_unsafeString_row w.drew 284 3 9 5 Try.underlying284 Try.cells5 g cur.size (by have hg' : w.drew.heap[g]? = some (.cells cur 5 (0, 0)) := hg; simp [World.shape?, hg']) l h0 (by omega) (by unfold maxLen at hcm; omega) ?_
    intro j x hx
    have := hown.cells (g := g) rfl j (.int .u8 x.toNat) (by simp [Lib.byteCells, hx])
    exact this
  have HB := Lib.hid (Lib.below_freeze (Below.drew (Below.refl B w)) (p := ⟨g, 0, none⟩) hbg l.length)
  clear hown hbk hg htake hcs hne h h0
  go_enter Try.func210, Try.ntmps210
  go_wp2
  go_region
  all_goals (go_wp2; go_ret; exact ⟨rfl, HB.out⟩)
/-- a cloth in memory: picks of so many warps -/
structure ClAt (w : World) (b off n : Nat) (ps : List Nat) : Prop where
  cell : ∀ i, i < ps.length → ∃ s, StrB s n (nthN ps i) ∧ w.cell? ⟨b, off + i, none⟩ = some (.string s)
  lt : b < w.heap.size
theorem ClAt.next {w w' : World} {b off n : Nat} {ps : List Nat} (h : ClAt w b off n ps) (hb : Below w.heap.size w w') : ClAt w' b off n ps :=
  ⟨fun i hi => by obtain ⟨s, h1, h2⟩ := h.cell i hi; exact ⟨s, h1, cell_next hb h2⟩, Nat.lt_of_lt_of_le h.lt hb.size⟩
def colL (ps : List Nat) (warp : Nat) : List UInt8 := ps.map fun p => UInt8.ofNat (byteP p warp).toNat
def colS (ps : List Nat) (warp : Nat) : ByteArray := ⟨(colL ps warp).toArray⟩
theorem colL_take (ps : List Nat) (warp k : Nat) (h : k < ps.length) : (colL ps warp).take (k + 1) = (colL ps warp).take k ++ [UInt8.ofNat (byteP (nthN ps k) warp).toNat] := by
  rw [List.take_add_one]
  congr 1
  simp [colL, nthN, h]
theorem colL_cells (ps : List Nat) (warp k : Nat) (h : k < ps.length) : Lib.byteCells ((colL ps warp).take (k + 1)) = Lib.byteCells ((colL ps warp).take k) ++ [.int .u8 (byteP (nthN ps k) warp)] := by
  rw [colL_take _ _ _ h, Lib.byteCells_append]
  congr 1
  simp only [Lib.byteCells, List.map_cons, List.map_nil, byteP_u8]
set_option maxHeartbeats 2000000 in
set_option maxRecDepth 100000 in
theorem column_any (b off c n warp : Nat) (ps : List Nat) (w : World) (hc : ClAt w b off n ps) (hl : ps.length ≤ 60) (hl0 : 1 ≤ ps.length) (hw : warp < n) :
    Calls Try.prog 185 #[.slice (some ⟨b, off, none⟩) ps.length c, .int .i64 (warp : Int)] w fun e w' => e = .returned (.string (colS ps warp)) ∧ Below w.heap.size w w' := by
  have HC := Lib.hid hc
  have hbl := hc.lt
  have HI0 := Lib.hid (Lib.fresh_isBuilder 262 5 w)
  have HB0 := Lib.hid ((Below.refl w.heap.size w).alloc (Nat.le_refl _) (.cells #[.pointer none, .slice none 0 0] 262))
  clear hc
  go_enter Try.func185, Try.ntmps185
  go_wp2_with fail
  go_loopw [10] (fun i wr => ∃ k : Nat, k ≤ ps.length ∧ i = .int .i64 (k : Int) ∧ Lib.IsBuilder 262 5 w.heap.size w.heap.size (Lib.byteCells ((colL ps warp).take k)) wr ∧ Below w.heap.size w wr) (fun i _ => ps.length - (intOf i).toNat)
  case atStart => exact ⟨0, Nat.zero_le _, rfl, HI0.out, HB0.out⟩
  case round =>
    obtain ⟨k, hk, rfl, hI, hb⟩ := hrel
    clear HI0 HB0
    by_cases hlt : k < ps.length
    · obtain ⟨s, hs, hcell⟩ := (HC.out.cell k hlt)
      have hc2 := (hb.cell (p := ⟨b, off + k, none⟩) hbl).trans hcell
      have hidx := fun W => hs.idx hw W
      have hcc := colL_cells ps warp k hlt
      have hlen : (Lib.byteCells ((colL ps warp).take k)).length ≤ 1000 := by
        rw [Lib.byteCells_length, List.length_take]; omega
      have HW := Lib.hid (bldByte w.heap.size w.heap.size _ (byteP (nthN ps k) warp) wr hI hlen hb.size)
      have Hcc := Lib.hid hcc
      have Hb := Lib.hid hb
      clear hs hcell hcc hlen hI hb
      go_wp2_with fail
      refine HW.out.mono ?_
      rintro e w1 ⟨rfl, h1, h2⟩
      have H1 := Lib.hid h1
      have H2 := Lib.hid h2
      clear h1 h2 hidx hc2
      go_wp2_with fail
      go_roundw
      case rel => exact ⟨k + 1, by omega, by go_num, by rw [Hcc.out]; exact .inr H1.out, Hb.out.trans H2.out⟩
      case measure => simp [intOf]; omega
    · obtain rfl : k = ps.length := by omega
      have hne : (colL ps warp).take ps.length ≠ [] := by
        intro e
        have := congrArg List.length e
        simp [colL] at this
        rw [this] at hl0
        simp at hl0
      have HW := Lib.hid (bldString w.heap.size w.heap.size _ wr hI hne)
      have he : (colL ps warp).take ps.length = colL ps warp := by rw [List.take_of_length_le]; simp [colL]
      rw [he] at HW
      have Hb := Lib.hid hb
      clear hI hb hne he
      go_wp2_with fail
      refine HW.out.mono ?_
      rintro e w1 ⟨rfl, h2⟩
      have H2 := Lib.hid h2
      clear h2
      go_wp2_with fail
      go_ret
      exact ⟨rfl, Hb.out.trans H2.out⟩
end Go.Proofs.Ytdmgffoikebgkaa
/- Harness ties: the check of a cloth. -/
namespace Go.Proofs.Ytdmgffoikebgkaa
open Go.RowKit Go.Shelf
attribute [local go_sem] Oper.semAt_some

set_option maxRecDepth 100000 in
set_option maxHeartbeats 1000000 in
theorem isPick_ok (s : ByteArray) (n p : Nat) (w : World) (h : StrB s n p) : Calls Try.prog 207 #[.string s] w fun e w' => e = .returned (.bool true) ∧ w' = w := by
  have hsz := h.size
  have hn1 := h.n1
  have H := Lib.hid h
  clear h
  go_enter Try.func207, Try.ntmps207
  go_wp2_with fail
  go_loopw [6] (fun i wr => ∃ k : Nat, k ≤ n ∧ i = .int .i64 (k : Int) ∧ wr = w) (fun i _ => n - (intOf i).toNat)
  case atStart => exact ⟨0, Nat.zero_le _, rfl, rfl⟩
  case round =>
    obtain ⟨k, hk, rfl, rfl⟩ := hrel
    by_cases hlt : k < n
    · have hi := fun W => H.out.idx hlt W
      have hI : (k : Int) < (n : Int) := by omega
      cases hb : bitN p k with
      | true =>
        have hv : byteP p k = 120 := by unfold byteP; rw [hb]; rfl
        rw [hv] at hi
        clear hb hv
        go_wp2_with fail
        go_roundw
        case rel => exact ⟨k + 1, by omega, by go_num, trivial⟩
        case measure => simp [intOf]; omega
      | false =>
        have hv : byteP p k = 46 := by unfold byteP; rw [hb]; rfl
        rw [hv] at hi
        clear hb hv
        go_wp2_with fail
        go_roundw
        case rel => exact ⟨k + 1, by omega, by go_num, trivial⟩
        case measure => simp [intOf]; omega
    · obtain rfl : k = n := by omega
      go_wp2_with fail
      go_ret
      exact ⟨rfl, rfl⟩
set_option maxRecDepth 100000 in
set_option maxHeartbeats 1000000 in
theorem wrongPick_ok (s : ByteArray) (n p S : Nat) (w : World) (h : StrB s n p) (hc : w.cell? ⟨S, 0, none⟩ = some (.int .i64 (n : Int))) :
    Calls Try.prog 206 #[.string s, .pointer (some ⟨S, 0, none⟩)] w fun e w' => e = .returned (.bool false) ∧ w' = w := by
  have hsz := h.size
  have H := Lib.hid (isPick_ok s n p w h)
  clear h
  go_enter Try.func206, Try.ntmps206
  go_wp2_with fail
  refine H.out.mono ?_
  rintro e w' ⟨rfl, rfl⟩
  go_wp2_with fail
  go_ret
  exact ⟨rfl, rfl⟩
set_option maxRecDepth 100000 in
set_option maxHeartbeats 1000000 in
theorem noWrong (b off c n S : Nat) (ps : List Nat) (w : World) (h : ClAt w b off n ps) (hl : ps.length ≤ 60) (hc : w.cell? ⟨S, 0, none⟩ = some (.int .i64 (n : Int))) :
    Calls Try.prog 228 #[.slice (some ⟨b, off, none⟩) ps.length c, .func (.func 206) #[] #[.pointer (some ⟨S, 0, none⟩)]] w fun e w' => e = .returned (.int .i64 (-1)) ∧ w' = w := by
  have H := Lib.hid h
  clear h
  go_enter Try.func228, Try.ntmps228
  go_wp2_with fail
  go_loopw [8] (fun i wr => ∃ k : Nat, k ≤ ps.length ∧ i = .int .i64 (k : Int) ∧ wr = w) (fun i _ => ps.length - (intOf i).toNat)
  case atStart => exact ⟨0, Nat.zero_le _, rfl, rfl⟩
  case round =>
    obtain ⟨k, hk, rfl, rfl⟩ := hrel
    by_cases hlt : k < ps.length
    · obtain ⟨s, hs, hcell⟩ := H.out.cell k hlt
      have HW := Lib.hid (wrongPick_ok s n _ S _ hs hc)
      clear hs hc
      go_wp2_with fail
      refine HW.out.mono ?_
      rintro e w' ⟨rfl, rfl⟩
      go_wp2_with fail
      go_roundw
      case rel => exact ⟨k + 1, by omega, by go_num, trivial⟩
      case measure => simp [intOf]; omega
    · obtain rfl : k = ps.length := by omega
      go_wp2_with fail
      go_ret
      exact ⟨rfl, rfl⟩
set_option maxRecDepth 100000 in
set_option maxHeartbeats 1000000 in
theorem noWrongs (b off c n S : Nat) (ps : List Nat) (w : World) (h : ClAt w b off n ps) (hl : ps.length ≤ 60) (hc : w.cell? ⟨S, 0, none⟩ = some (.int .i64 (n : Int))) :
    Calls Try.prog 208 #[.slice (some ⟨b, off, none⟩) ps.length c, .func (.func 206) #[] #[.pointer (some ⟨S, 0, none⟩)]] w fun e w' => e = .returned (.bool false) ∧ w' = w := by
  have H := Lib.hid (noWrong b off c n S ps w h hl hc)
  clear h hc
  go_enter Try.func208, Try.ntmps208
  go_wp2_with fail
  refine H.out.mono ?_
  rintro e w' ⟨rfl, rfl⟩
  go_wp2_with fail
  go_ret
  exact ⟨rfl, rfl⟩
set_option maxRecDepth 100000 in
set_option maxHeartbeats 1000000 in
theorem width184 (n : Nat) (w : World) (h0 : 1 ≤ n) (h1 : n ≤ 96) : Calls Try.prog 184 #[.int .i64 (n : Int)] w fun e w' => e = .returned (.bool true) ∧ Below w.heap.size w w' := by
  have HA := Lib.hid (areFrom_one 1 96 w.heap.size 0 1 n (w.alloc (.cells #[.int .i64 (n : Int)] 3)) (by simp) (by omega) (by omega))
  have HB := Lib.hid ((Below.refl w.heap.size w).alloc (Nat.le_refl _) (.cells #[.int .i64 (n : Int)] 3))
  go_enter Try.func184, Try.ntmps184
  go_wp2_with fail
  refine HA.out.mono ?_
  rintro e w' ⟨rfl, rfl⟩
  go_wp2_with fail
  go_ret
  exact ⟨rfl, HB.out⟩
set_option maxRecDepth 100000 in
set_option maxHeartbeats 1000000 in
theorem width182 (n A : Nat) (v0 : Option Addr) (c : Nat) (w : World) (h : w.cell? ⟨A, 1, none⟩ = some (.slice v0 n c)) : Calls Try.prog 182 #[.int .i64 (n : Int), .pointer (some ⟨A, 0, none⟩)] w fun e w' => e = .returned (.bool true) ∧ w' = w := by
  go_enter Try.func182, Try.ntmps182
  go_wp2_with fail
  go_ret
  exact ⟨rfl, rfl⟩
set_option maxRecDepth 100000 in
set_option maxHeartbeats 1000000 in
theorem checkCloth_few (b off c n : Nat) (ps : List Nat) (w : World) (h : ClAt w b off n ps) (hl : ps.length ≤ 60) (hl0 : 1 ≤ ps.length) (hn0 : 1 ≤ n) (hn1 : n ≤ 96) :
    Calls Try.prog 181 #[.slice (some ⟨b, off, none⟩) ps.length c, .func (.func 184) #[] #[]] w fun e w' => e = .returned (.int .i64 0) ∧ Below w.heap.size w w' := by
  have hd0 : ((ps.length : Int) == 0) = false := by rw [beq_eq_false_iff_ne]; omega
  have hd1 : decide ((60 : Int) < (ps.length : Int)) = false := by simp; omega
  obtain ⟨s, hs, hcell⟩ := h.cell 0 (by omega)
  have hsz := hs.size
  have hcell : w.cell? ⟨b, off, none⟩ = some (.string s) := hcell
  have hb1 : Below w.heap.size w (w.alloc (.cells #[.int .i64 (n : Int)] 3)) := (Below.refl _ _).alloc (Nat.le_refl _) _
  have HW := Lib.hid (width184 n (w.alloc (.cells #[.int .i64 (n : Int)] 3)) hn0 hn1)
  have HN := fun W (hb : Below (w.alloc (.cells #[.int .i64 (n : Int)] 3)).heap.size (w.alloc (.cells #[.int .i64 (n : Int)] 3)) W) => noWrongs b off c n w.heap.size ps W ((h.next hb1).next hb) hl (((BoxAt.new w #[.int .i64 (n : Int)] 3).next hb).cell' 0 rfl)
  have Hb1 := Lib.hid hb1
  clear hb1 h hs
  go_enter Try.func181, Try.ntmps181
  go_wp2_with fail
  refine HW.out.mono ?_
  rintro e w2 ⟨rfl, hb2⟩
  have H2 := Lib.hid (HN _ hb2)
  have Hb2 := Lib.hid hb2
  clear HN hb2
  go_wp2_with fail
  refine H2.out.mono ?_
  rintro e w' ⟨rfl, rfl⟩
  go_wp2_with fail
  go_ret
  exact ⟨rfl, Hb1.out.trans (Hb2.out.mono (by simp))⟩
set_option maxRecDepth 100000 in
set_option maxHeartbeats 1000000 in
theorem checkCloth_wov (b off c n A c2 : Nat) (v0 : Option Addr) (ps : List Nat) (w : World) (h : ClAt w b off n ps) (hl : ps.length ≤ 60) (hl0 : 1 ≤ ps.length) (hA : w.cell? ⟨A, 1, none⟩ = some (.slice v0 n c2)) :
    Calls Try.prog 181 #[.slice (some ⟨b, off, none⟩) ps.length c, .func (.func 182) #[] #[.pointer (some ⟨A, 0, none⟩)]] w fun e w' => e = .returned (.int .i64 0) ∧ Below w.heap.size w w' := by
  have hd0 : ((ps.length : Int) == 0) = false := by rw [beq_eq_false_iff_ne]; omega
  have hd1 : decide ((60 : Int) < (ps.length : Int)) = false := by simp; omega
  obtain ⟨s, hs, hcell⟩ := h.cell 0 (by omega)
  have hsz := hs.size
  have hcell : w.cell? ⟨b, off, none⟩ = some (.string s) := hcell
  have hb1 : Below w.heap.size w (w.alloc (.cells #[.int .i64 (n : Int)] 3)) := (Below.refl _ _).alloc (Nat.le_refl _) _
  have HW := Lib.hid (width182 n A v0 c2 (w.alloc (.cells #[.int .i64 (n : Int)] 3)) (cell_next hb1 hA))
  have HN := fun W (hb : Below (w.alloc (.cells #[.int .i64 (n : Int)] 3)).heap.size (w.alloc (.cells #[.int .i64 (n : Int)] 3)) W) => noWrongs b off c n w.heap.size ps W ((h.next hb1).next hb) hl (((BoxAt.new w #[.int .i64 (n : Int)] 3).next hb).cell' 0 rfl)
  have Hb1 := Lib.hid hb1
  clear hb1 h hs
  go_enter Try.func181, Try.ntmps181
  go_wp2_with fail
  refine HW.out.mono ?_
  rintro e w2 ⟨rfl, rfl⟩
  have hb2 := Below.refl (w.alloc (.cells #[.int .i64 (n : Int)] 3)).heap.size (w.alloc (.cells #[.int .i64 (n : Int)] 3))
  have H2 := Lib.hid (HN _ hb2)
  have Hb2 := Lib.hid hb2
  clear HN hb2
  go_wp2_with fail
  refine H2.out.mono ?_
  rintro e w' ⟨rfl, rfl⟩
  go_wp2_with fail
  go_ret
  exact ⟨rfl, Hb1.out.trans (Hb2.out.mono (by simp))⟩
end Go.Proofs.Ytdmgffoikebgkaa
