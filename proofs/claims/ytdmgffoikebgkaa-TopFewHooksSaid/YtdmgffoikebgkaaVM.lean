/- The map of Longest: its keys are sides. -/
import Derived.Test.YtdmgffoikebgkaaVI
import Derived.Maps.OwnOps
import Derived.Maps.Views
import Derived.DeepKeys4
import Derived.KernelRfl
namespace Go.Proofs.Ytdmgffoikebgkaa
open Go.RowKit
open Go.Maps (Keyed IsMap)

theorem Try.sideKeyed : Keyed Try.prog 221 := Keyed.of_law (deep_law_laid (m := 4) (by kernel_rfl) (by decide) (of_decide_eq_true (by kernel_rfl)) (by kernel_rfl) (by kernel_rfl))
def sideV (a : Nat) (b : Bool) : Value := .agg #[.int .i64 (a : Int), .bool b]
theorem sideKey_at {a : Nat} (b : Bool) (ha : a = 1 ∨ a = 2) : ∃ l, keyOf Try.prog 221 (sideV a b) = some l := by
  have h : (keyOf Try.prog 221 (sideV a b)).isSome = true := by
    rcases ha with rfl | rfl <;> cases b <;> kernel_rfl
  exact Option.isSome_iff_exists.1 h
theorem sideKey_inj {a a' : Nat} {b b' : Bool} {l l' : Lit} (h1 : keyOf Try.prog 221 (sideV a b) = some l) (h2 : keyOf Try.prog 221 (sideV a' b') = some l') (h : l = l') : a = a' ∧ b = b' := by
  subst h
  have := Try.sideKeyed.inj h1 h2
  simp [sideV] at this
  exact ⟨by omega, this.2⟩
/-- what the map says of each side -/
def MaxAt (D : DataW Nat) (g : Nat → Bool → Nat) : Prop :=
  IsMap D ∧ ∀ a b l, keyOf Try.prog 221 (sideV a b) = some l → D.atKey l (.lit (.int .i64 0)) = .lit (.int .i64 (g a b : Int))
def setM (g : Nat → Bool → Nat) (a : Nat) (b : Bool) (x : Nat) : Nat → Bool → Nat := fun a' b' => if a' = a ∧ b' = b then x else g a' b'
theorem MaxAt.put {D : DataW Nat} {g : Nat → Bool → Nat} (h : MaxAt D g) {a : Nat} {b : Bool} {l : Lit} (hl : keyOf Try.prog 221 (sideV a b) = some l) (x : Nat) :
    MaxAt (D.put l (.lit (.int .i64 (x : Int)))) (setM g a b x) := by
  refine ⟨h.1.put _ _, fun a' b' l' hl' => ?_⟩
  unfold setM
  by_cases e : a' = a ∧ b' = b
  · obtain ⟨rfl, rfl⟩ := e
    obtain rfl : l = l' := by rw [hl] at hl'; exact Option.some.inj hl'
    rw [if_pos ⟨rfl, rfl⟩]
    exact Maps.atKey_put_same h.1 (Try.sideKeyed.key hl) _ _
  · rw [if_neg e, Maps.atKey_put_other (fun k => e (sideKey_inj hl' hl k))]
    exact h.2 a' b' l' hl'
theorem wf_small {x : Nat} (hx : x ≤ 100000) : (Lit.int .i64 (x : Int)).wf = true := by
  have h1 : IntKind.i64.min ≤ (x : Int) := Int.le_trans (show IntKind.i64.min ≤ 0 by decide) (by omega)
  have h2 : (x : Int) ≤ IntKind.i64.max := Int.le_trans (show (x : Int) ≤ 100000 by omega) (by decide)
  simp [Lit.wf, h1]; omega
def SideMap (w : World) (mb k : Nat) (g : Nat → Bool → Nat) : Prop := ∃ D : DataW Nat, w.ownsMap Try.prog 221 (plainElem Try.prog 3) mb k D ∧ MaxAt D g
theorem SideMap.made (w : World) : SideMap (w.alloc (.map #[] 0)) w.heap.size 0 (fun _ _ => 0) :=
  ⟨.map [], World.ownsMap_made w _ _ _, Maps.isMap_empty, fun a b l _ => by
    rw [Maps.atKey_of_not_has]
    · rfl
    · rfl⟩
theorem SideMap.grown {w w' : World} {mb k : Nat} {g : Nat → Bool → Nat} {row : Option Nat} (h : SideMap w mb k g) (hg : w.grownBy w' row) (hne : some mb ≠ row) : SideMap w' mb k g := by
  obtain ⟨D, h1, h2⟩ := h
  exact ⟨D, h1.kept hg hne, h2⟩
theorem SideMap.below {w w' : World} {mb k : Nat} {g : Nat → Bool → Nat} (h : SideMap w mb k g) (hb : Below w.heap.size w w') : SideMap w' mb k g := by
  refine h.grown (row := none) ⟨hb.os, hb.tape, hb.output, hb.size, fun i hi _ => hb.block i hi⟩ (by simp)
theorem SideMap.lt {w : World} {mb k : Nat} {g : Nat → Bool → Nat} (h : SideMap w mb k g) : mb < w.heap.size := by
  obtain ⟨D, h1, _⟩ := h; exact h1.lt
theorem SideMap.lookup {w : World} {mb k : Nat} {g : Nat → Bool → Nat} (h : SideMap w mb k g) {a : Nat} (b : Bool) (ha : a = 1 ∨ a = 2) :
    (Instr.lookup 218 (.map (some mb)) (sideV a b) false).run Try.prog w = .ok (.int .i64 (g a b : Int)) w := by
  obtain ⟨D, h1, h2⟩ := h
  obtain ⟨l, hl⟩ := sideKey_at b ha
  obtain ⟨c, hrun, hat, _⟩ := h1.lookup_int Try.sideKeyed Try.underlying218 Try.underlying3 (by kernel_rfl) hl
  rw [h2.2 a b l hl] at hat
  have : (g a b : Int) = c := by simpa using hat
  rw [this]; exact hrun
theorem SideMap.update {w : World} {mb k : Nat} {g : Nat → Bool → Nat} (h : SideMap w mb k g) {a : Nat} (b : Bool) (ha : a = 1 ∨ a = 2) (x : Nat) (hx : x ≤ 100000) (hk : k ≤ 100000) :
    ∃ w', (Instr.mapUpdate 218 (.map (some mb)) (sideV a b) (.int .i64 (x : Int))).run Try.prog w = .ok () w' ∧ SideMap w' mb (k + 1) (setM g a b x) ∧ w.grownBy w' (some mb) := by
  obtain ⟨D, h1, h2⟩ := h
  obtain ⟨l, hl⟩ := sideKey_at b ha
  obtain ⟨w', r1, r2, r3⟩ := h1.update (val := .int .i64 (x : Int)) Try.sideKeyed Try.underlying218 (by unfold maxLen; omega) hl (plainElem_int Try.underlying3 (wf_small hx))
  exact ⟨w', r1, ⟨_, r2, h2.put hl x⟩, r3⟩
/-- the longest one of a side -/
def maxF (fs : List Fl) (b : Bool) : Nat := fs.foldl (fun m f => if f.lifted = b then max m f.length else m) 0
theorem maxF_snoc (fs : List Fl) (f : Fl) (b : Bool) : maxF (fs ++ [f]) b = if f.lifted = b then max (maxF fs b) f.length else maxF fs b := by simp [maxF]
theorem maxF_le : ∀ (fs : List Fl) (b : Bool) (M : Nat), (∀ f, f ∈ fs → f.length ≤ M) → maxF fs b ≤ M := by
  intro fs b M h
  have : ∀ (fs : List Fl) (m : Nat), m ≤ M → (∀ f, f ∈ fs → f.length ≤ M) → fs.foldl (fun m f => if f.lifted = b then max m f.length else m) m ≤ M := by
    intro fs
    induction fs with
    | nil => intro m hm _; exact hm
    | cons f fs ih =>
      intro m hm hf
      simp only [List.foldl_cons]
      refine ih _ ?_ (fun x hx => hf x (by simp [hx]))
      have := hf f (by simp)
      split <;> omega
  exact this fs 0 (by omega) h
end Go.Proofs.Ytdmgffoikebgkaa
