/- Lay's check. -/
import Derived.Test.YtjobbleabepaiaaWO
namespace Go.Proofs.Ytjobbleabepaiaa
open Go.RowKit Go.Shelf

/-- check of three designs -/
theorem check_three (d e f : Dsg) (W : World) (hr : Reads W d.v d.xs) (hs : Reads W e.v e.xs) (ht : Reads W f.v f.xs) :
    Calls Try.prog 66 #[.slice (some ⟨W.heap.size, 0, none⟩) 3 3] (W.alloc (.cells #[.int .i64 d.hooks, .slice d.p d.xs.length d.cap, .int .i64 e.hooks, .slice e.p e.xs.length e.cap, .int .i64 f.hooks, .slice f.p f.xs.length f.cap] 24))
      fun e' w' => e' = .returned (.int .i64 (firstE [d, e, f])) ∧ Below W.heap.size W w' := by
  refine (check_any W.heap.size 3 [d, e, f] _ (by simp) (DsAt_three W d e f hr hs ht)).mono ?_
  rintro e' w' ⟨rfl, hb⟩
  exact ⟨rfl, ((Below.refl _ _).alloc (Nat.le_refl _) _).trans (hb.mono (by simp))⟩

theorem below_four (w : World) (o1 o2 o3 o4 : Obj) : Below w.heap.size w ((((w.alloc o1).alloc o2).alloc o3).alloc o4) :=
  ((((Below.refl _ _).alloc (Nat.le_refl _) o1).alloc (by simp) o2).alloc (by simp; omega) o3).alloc (by simp; omega) o4
/-- check of three designs, behind four boxes -/
theorem check_res3 (d e f : Dsg) (w : World) (o1 o2 o3 o4 : Obj) (hr : Reads w d.v d.xs) (hs : Reads w e.v e.xs) (ht : Reads w f.v f.xs) (r : Int) (he : firstE [d, e, f] = r) :
    Calls Try.prog 66 #[.slice (some ⟨w.heap.size + 1 + 1 + 1 + 1, 0, none⟩) 3 3] (((((w.alloc o1).alloc o2).alloc o3).alloc o4).alloc (.cells #[.int .i64 d.hooks, .slice d.p d.xs.length d.cap, .int .i64 e.hooks, .slice e.p e.xs.length e.cap, .int .i64 f.hooks, .slice f.p f.xs.length f.cap] 24))
      fun e' w' => e' = .returned (.int .i64 r) ∧ Below (w.heap.size + 1 + 1 + 1 + 1) ((((w.alloc o1).alloc o2).alloc o3).alloc o4) w' := by
  have hb := below_four w o1 o2 o3 o4
  have := check_three d e f ((((w.alloc o1).alloc o2).alloc o3).alloc o4) (hr.below hb) (hs.below hb) (ht.below hb)
  simp only [World.size_alloc] at this
  rw [he] at this
  exact this

set_option maxHeartbeats 1000000 in
theorem Lay_err (d e f : Dsg) (w : World) (hr : Reads w d.v d.xs) (hs : Reads w e.v e.xs) (ht : Reads w f.v f.xs) (r : Int) (he : firstE [d, e, f] = r) (hne : r ≠ 0) :
    Calls Try.prog 55 #[.agg #[.int .i64 d.hooks, .slice d.p d.xs.length d.cap], .agg #[.int .i64 e.hooks, .slice e.p e.xs.length e.cap], .agg #[.int .i64 f.hooks, .slice f.p f.xs.length f.cap]] w (ErrD r w) := by
  have hne' : (r != 0) = true := by simpa using hne
  have Hc := fun o1 o2 o3 o4 => check_res3 d e f w o1 o2 o3 o4 hr hs ht r he
  clear he hr hs ht hne
  go_enter Try.func55, Try.ntmps55
  go_wp2_with fail
  refine (Hc _ _ _ _).mono ?_
  rintro e' w1 ⟨rfl, hb1⟩
  have q : ResBox w1 (w.heap.size + 1 + 1 + 1) := ((ResBox.new (((w.alloc (.cells #[.int .i64 d.hooks, .slice d.p d.xs.length d.cap] 24)).alloc (.cells #[.int .i64 e.hooks, .slice e.p e.xs.length e.cap] 24)).alloc (.cells #[.int .i64 f.hooks, .slice f.p f.xs.length f.cap] 24))).below hb1 (by simp)) |> (fun h => by simpa using h)
  have k0 := q.c0
  have k1 := q.c1
  have k2 := q.f 0
  have k3 := q.f 1
  have Hb := Lib.hid ((below_four _ _ _ _ _).trans (hb1.mono (by omega)))
  clear hb1 q
  go_wp2_with fail
  refine bodyPost_ret (v := .tuple #[.agg #[.int .i64 0, .slice none 0 0], .int .i64 r]) ?_ rfl ⟨rfl, ?_⟩
  · simp [results, Try.results55, go_sem, k0, k1]
  · exact (Hb.out.setCell (by simp; omega) _).setCell (by simp; omega) _
end Go.Proofs.Ytjobbleabepaiaa
