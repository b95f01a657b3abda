/- further. -/
import Derived.Test.YtjobbleabepaiaaWQ
import Derived.Deep.RegionWith
namespace Go.Proofs.Ytjobbleabepaiaa
open Go.RowKit

/-- one step of the choices with one more hook -/
def furStep (p f h L : Nat) (now : List Nat) (lift len : Nat) (next : List Nat) : List Nat :=
  let c := nthN now (lift * 24 + len)
  let n1 := if len < L then next.set (lift * 24 + (len + 1)) (putN p f c h lift) else next
  n1.set ((1 - lift) * 24 + 1) (min (nthN n1 ((1 - lift) * 24 + 1)) (putN p f c h (1 - lift)))
def furIn (p f h L : Nat) (now : List Nat) (lift : Nat) (next0 : List Nat) : Nat → List Nat
  | 0 => next0
  | k + 1 => furStep p f h L now lift (k + 1) (furIn p f h L now lift next0 k)
def furOut (p f h L : Nat) (now : List Nat) : Nat → List Nat
  | 0 => noTab
  | k + 1 => furIn p f h L now k (furOut p f h L now k) L
def furN (p f h L : Nat) (now : List Nat) : List Nat := furOut p f h L now 2
theorem furStep_len (p f h L : Nat) (now : List Nat) (lift len : Nat) (next : List Nat) : (furStep p f h L now lift len next).length = next.length := by
  unfold furStep
  simp only [List.length_set]
  split <;> simp
theorem furIn_len (p f h L : Nat) (now : List Nat) (lift : Nat) (next0 : List Nat) : ∀ k, (furIn p f h L now lift next0 k).length = next0.length
  | 0 => rfl
  | k + 1 => by rw [furIn, furStep_len, furIn_len]
theorem furOut_len (p f h L : Nat) (now : List Nat) : ∀ k, (furOut p f h L now k).length = 48
  | 0 => by simp [furOut, noTab]
  | k + 1 => by rw [furOut, furIn_len, furOut_len]
/-- all choices are at most M -/
def AllLe (M : Nat) (ys : List Nat) : Prop := ∀ i, nthN ys i ≤ M
theorem AllLe.set {M v i : Nat} {ys : List Nat} (h : AllLe M ys) (hv : v ≤ M) : AllLe M (ys.set i v) := fun j => by
  have := h j
  unfold nthN at *
  rw [List.getElem?_set]
  split
  · split
    · exact hv
    · simp
  · exact this
theorem furStep_le (p f h L : Nat) (now : List Nat) (lift len : Nat) (next : List Nat) (M M' : Nat) (hn : AllLe M now) (hx : AllLe M' next) (hM : M + 452984832 ≤ M') (hl : lift ≤ 1) (hh : h < 24) : AllLe M' (furStep p f h L now lift len next) := by
  unfold furStep
  have h1 := putN_le p f (nthN now (lift * 24 + len)) h lift hl hh
  have h3 := hn (lift * 24 + len)
  have hy : AllLe M' (if len < L then next.set (lift * 24 + (len + 1)) (putN p f (nthN now (lift * 24 + len)) h lift) else next) := by
    split
    · exact hx.set (by omega)
    · exact hx
  refine AllLe.set hy ?_
  have := hy ((1 - lift) * 24 + 1)
  omega
theorem furIn_le (p f h L : Nat) (now : List Nat) (lift : Nat) (next0 : List Nat) (M M' : Nat) (hn : AllLe M now) (hx : AllLe M' next0) (hM : M + 452984832 ≤ M') (hl : lift ≤ 1) (hh : h < 24) : ∀ k, AllLe M' (furIn p f h L now lift next0 k)
  | 0 => hx
  | k + 1 => furStep_le p f h L now lift (k + 1) _ M M' hn (furIn_le p f h L now lift next0 M M' hn hx hM hl hh k) hM hl hh
theorem noTab_le (M : Nat) (hM : never ≤ M) : AllLe M noTab := fun i => by
  unfold nthN noTab
  rw [List.getElem?_replicate]
  split <;> simp <;> omega
theorem furOut_le (p f h L : Nat) (now : List Nat) (M M' : Nat) (hn : AllLe M now) (hM : M + 452984832 ≤ M') (hh : h < 24) : ∀ k, k ≤ 2 → AllLe M' (furOut p f h L now k)
  | 0, _ => noTab_le M' (by unfold never; omega)
  | k + 1, hk => furIn_le p f h L now k _ M M' hn (furOut_le p f h L now M M' hn hM hh k (by omega)) hM (by omega) hh L

/-- what 'further' keeps -/
structure FurAt (B s p f m NB : Nat) (now next : List Nat) (W : World) : Prop where
  c0 : W.cell? ⟨B, 0, none⟩ = some (.int .i64 (s : Int))
  c1 : W.cell? ⟨B, 1, none⟩ = some (.int .i64 (p : Int))
  c2 : W.cell? ⟨B, 2, none⟩ = some (.int .i64 (f : Int))
  c3 : W.cell? ⟨B, 3, none⟩ = some (.int .i64 (m : Int))
  now' : Tab W (B + 1) now
  res : Tab W (B + 1 + 1) (fillTo 0)
  next' : Tab W NB next
  lt : B + 1 + 1 < NB
theorem FurAt.below {B s p f m NB : Nat} {now next : List Nat} {W W' : World} (h : FurAt B s p f m NB now next W) (hb : Below W.heap.size W W') : FurAt B s p f m NB now next W' := by
  have h1 := h.next'.lt
  have h2 := h.lt
  exact ⟨(hb.cell (p := ⟨B, 0, none⟩) (by show B < _; omega)).trans h.c0, (hb.cell (p := ⟨B, 1, none⟩) (by show B < _; omega)).trans h.c1, (hb.cell (p := ⟨B, 2, none⟩) (by show B < _; omega)).trans h.c2, (hb.cell (p := ⟨B, 3, none⟩) (by show B < _; omega)).trans h.c3,
    h.now'.below hb h.now'.lt, h.res.below hb h.res.lt, h.next'.below hb h1, h2⟩
theorem FurAt.set {B s p f m NB : Nat} {now next : List Nat} {W : World} (h : FurAt B s p f m NB now next W) (i v : Nat) (hi : i < next.length) : FurAt B s p f m NB now (next.set i v) (W.setCell ⟨NB, i, none⟩ (.int .i64 (v : Int))) := by
  have h2 := h.lt
  have e : ∀ k j, k ≠ NB → (W.setCell ⟨NB, i, none⟩ (.int .i64 (v : Int))).cell? ⟨k, j, none⟩ = W.cell? ⟨k, j, none⟩ := fun k j hk => World.cell?_of_block (w := W) (Below.heap_setCell _ _ _ _ hk)
  exact ⟨(e _ _ (by omega)).trans h.c0, (e _ _ (by omega)).trans h.c1, (e _ _ (by omega)).trans h.c2, (e _ _ (by omega)).trans h.c3, h.now'.other _ _ (by simp; omega), h.res.other _ _ (by simp; omega), h.next'.set i v hi, h2⟩
theorem FurAt.drew {B s p f m NB : Nat} {now next : List Nat} {W : World} (h : FurAt B s p f m NB now next W) : FurAt B s p f m NB now next W.drew :=
  ⟨h.c0, h.c1, h.c2, h.c3, h.now', h.res, h.next', h.lt⟩
theorem furIn_A (p f h L : Nat) (now : List Nat) (lift : Nat) (next0 : List Nat) (len : Nat) (h1 : 1 ≤ len) (hl : len < L) :
    furIn p f h L now lift next0 len = ((furIn p f h L now lift next0 (len - 1)).set (lift * 24 + (len + 1)) (putN p f (nthN now (lift * 24 + len)) h lift)).set ((1 - lift) * 24 + 1)
      (min (nthN ((furIn p f h L now lift next0 (len - 1)).set (lift * 24 + (len + 1)) (putN p f (nthN now (lift * 24 + len)) h lift)) ((1 - lift) * 24 + 1)) (putN p f (nthN now (lift * 24 + len)) h (1 - lift))) := by
  obtain ⟨k, rfl⟩ : ∃ k, len = k + 1 := ⟨len - 1, by omega⟩
  simp only [furIn, furStep, Nat.add_sub_cancel, if_pos hl]
theorem furIn_B (p f h L : Nat) (now : List Nat) (lift : Nat) (next0 : List Nat) (len : Nat) (h1 : 1 ≤ len) (hl : ¬ len < L) :
    furIn p f h L now lift next0 len = (furIn p f h L now lift next0 (len - 1)).set ((1 - lift) * 24 + 1)
      (min (nthN (furIn p f h L now lift next0 (len - 1)) ((1 - lift) * 24 + 1)) (putN p f (nthN now (lift * 24 + len)) h (1 - lift))) := by
  obtain ⟨k, rfl⟩ : ∃ k, len = k + 1 := ⟨len - 1, by omega⟩
  simp only [furIn, furStep, Nat.add_sub_cancel, if_neg hl]
-- furIn_A0
theorem FurAt.four {B s p f m NB : Nat} {now next : List Nat} {W : World} (h : FurAt B s p f m NB now next W) :
    W.cell? ⟨B, 0, none⟩ = some (.int .i64 (s : Int)) ∧ W.cell? ⟨B, 1, none⟩ = some (.int .i64 (p : Int)) ∧ W.cell? ⟨B, 2, none⟩ = some (.int .i64 (f : Int)) ∧ W.cell? ⟨B, 3, none⟩ = some (.int .i64 (m : Int)) := ⟨h.c0, h.c1, h.c2, h.c3⟩
theorem FurAt.far {B s p f m NB : Nat} {now next : List Nat} {W : World} (h : FurAt B s p f m NB now next W) (i : Nat) (v : Value) :
    (W.setCell ⟨NB, i, none⟩ v).cell? ⟨B, 0, none⟩ = some (.int .i64 (s : Int)) ∧ (W.setCell ⟨NB, i, none⟩ v).cell? ⟨B, 1, none⟩ = some (.int .i64 (p : Int)) ∧ (W.setCell ⟨NB, i, none⟩ v).cell? ⟨B, 2, none⟩ = some (.int .i64 (f : Int)) ∧ (W.setCell ⟨NB, i, none⟩ v).cell? ⟨B, 3, none⟩ = some (.int .i64 (m : Int)) := by
  have h2 := h.lt
  have e : ∀ k j, k ≠ NB → (W.setCell ⟨NB, i, none⟩ v).cell? ⟨k, j, none⟩ = W.cell? ⟨k, j, none⟩ := fun k j hk => World.cell?_of_block (w := W) (Below.heap_setCell _ _ _ _ hk)
  exact ⟨(e _ _ (by omega)).trans h.c0, (e _ _ (by omega)).trans h.c1, (e _ _ (by omega)).trans h.c2, (e _ _ (by omega)).trans h.c3⟩
theorem FurAt.setI {B s p f m NB : Nat} {now next : List Nat} {W : World} (h : FurAt B s p f m NB now next W) (i k : Nat) (v : Int) (hi : i < next.length) (hv : v = (k : Int)) : FurAt B s p f m NB now (next.set i k) (W.setCell ⟨NB, i, none⟩ (.int .i64 v)) := by
  subst hv; exact h.set i k hi
end Go.Proofs.Ytjobbleabepaiaa
