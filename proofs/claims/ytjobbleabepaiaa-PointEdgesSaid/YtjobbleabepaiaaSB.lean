/- What Mirror, Flip, Back, Shift do to windows and floats. -/
import Derived.Test.YtjobbleabepaiaaSA
namespace Go.Proofs.Ytjobbleabepaiaa
open Go.RowKit

theorem mod_refl (s M x : Nat) (hs : 0 < s) (hx : x < s * M) : (s * M - 1 - x) % s = s - 1 - x % s := by
  have hq : x / s < M := (Nat.div_lt_iff_lt_mul hs).2 (by rw [Nat.mul_comm]; exact hx)
  obtain ⟨t, ht⟩ : ∃ t, M = x / s + 1 + t := ⟨M - (x / s + 1), by omega⟩
  have hr := Nat.mod_lt x hs
  have hd := Nat.div_add_mod x s
  have e : s * M = s * (x / s) + s + s * t := by rw [ht, Nat.mul_add, Nat.mul_add, Nat.mul_one]
  have e2 : s * M - 1 - x = s * t + (s - 1 - x % s) := by
    generalize s * (x / s) = A at *
    generalize s * t = C at *
    omega
  rw [e2, Nat.mul_add_mod, Nat.mod_eq_of_lt (by omega)]
/-- a ring that is read the other way round -/
theorem run_refl {g : Nat → Bool} {s : Nat} (hs : 0 < s) (hg : ∀ i, g i = g (i % s)) (v : Bool) (k : Nat) (h : HasRun (fun i => g (s - 1 - i % s)) v k) : HasRun g v k := by
  obtain ⟨f, hf⟩ := h
  by_cases hk : k = 0
  · exact ⟨0, fun j hj => by omega⟩
  have hM : f + k ≤ s * (f + k) := Nat.le_mul_of_pos_left _ hs
  refine ⟨s * (f + k) - f - k, fun j hj => ?_⟩
  have h1 := hf (k - 1 - j) (by omega)
  have e : s * (f + k) - f - k + j = s * (f + k) - 1 - (f + (k - 1 - j)) := by
    generalize s * (f + k) = X at *
    omega
  rw [e, hg, mod_refl s (f + k) _ hs (by generalize s * (f + k) = X at *; omega)]
  exact h1
theorem run_refl' {g : Nat → Bool} {s : Nat} (hs : 0 < s) (hg : ∀ i, g i = g (i % s)) (v : Bool) (k : Nat) : HasRun (fun i => g (s - 1 - i % s)) v k ↔ HasRun g v k := by
  refine ⟨run_refl hs hg v k, fun h => ?_⟩
  refine run_refl (g := fun i => g (s - 1 - i % s)) hs (fun i => by show g (s - 1 - i % s) = g (s - 1 - i % s % s); rw [Nat.mod_mod]) v k ?_
  obtain ⟨f, hf⟩ := h
  refine ⟨f, fun j hj => ?_⟩
  show g (s - 1 - (s - 1 - (f + j) % s) % s) = v
  have hr := Nat.mod_lt (f + j) hs
  rw [Nat.mod_eq_of_lt (show s - 1 - (f + j) % s < s by omega), show s - 1 - (s - 1 - (f + j) % s) = (f + j) % s by omega, ← hg]
  exact hf j hj
section
variable {n : Nat} {xs : List Nat}
theorem pt_mod (i j : Nat) : pt n xs i j = pt n xs (i % xs.length) (j % n) := by unfold pt; rw [Nat.mod_mod, Nat.mod_mod]
theorem pt_row (i j : Nat) : pt n xs i j = pt n xs i (j % n) := by unfold pt; rw [Nat.mod_mod]
theorem pt_col (i j : Nat) : pt n xs i j = pt n xs (i % xs.length) j := by unfold pt; rw [Nat.mod_mod]
theorem pt_paint {g : Nat → Nat → Bool} {N m : Nat} (hN : 0 < N) (hm : 0 < m) (i j : Nat) : pt m (painted g N m) i j = g (i % N) (j % m) := by
  unfold pt
  rw [painted_len, bit_painted g N m _ _ (Nat.mod_lt _ hN) (Nat.mod_lt _ hm)]
theorem pt_mir (hv : Valid n xs) (i j : Nat) : pt n (painted (miG xs n) xs.length n) i j = pt n xs i (n - 1 - j % n) := by
  rw [pt_paint hv.l0 hv.n0]
  have := Nat.mod_lt j hv.n0
  unfold miG pt
  rw [Nat.mod_eq_of_lt (show n - 1 - j % n < n by omega)]
theorem pt_fli (hv : Valid n xs) (i j : Nat) : pt n (painted (flG xs) xs.length n) i j = pt n xs (xs.length - 1 - i % xs.length) j := by
  rw [pt_paint hv.l0 hv.n0]
  have := Nat.mod_lt i hv.l0
  unfold flG pt
  rw [Nat.mod_eq_of_lt (show xs.length - 1 - i % xs.length < xs.length by omega)]
theorem pt_bac (hv : Valid n xs) (i j : Nat) : pt n (painted (baG xs) xs.length n) i j = !pt n xs i j := by
  rw [pt_paint hv.l0 hv.n0]
  rfl
theorem pt_shi (hv : Valid n xs) (P H : Nat) (hP : P < xs.length) (hH : H < n) (i j : Nat) : pt n (painted (shG xs n P H) xs.length n) i j = pt n xs (i + (xs.length - P)) (j + (n - H)) := by
  rw [pt_paint hv.l0 hv.n0]
  unfold shG pt
  rw [show i % xs.length + xs.length - P = i % xs.length + (xs.length - P) by omega, show j % n + n - H = j % n + (n - H) by omega, Nat.mod_add_mod, Nat.mod_add_mod]
theorem wrun_mir (hv : Valid n xs) (v : Bool) (k : Nat) : WRun n (painted (miG xs n) xs.length n) v k ↔ WRun n xs v k := by
  unfold WRun
  refine exists_congr fun i => ?_
  have e : (fun j => pt n (painted (miG xs n) xs.length n) i j) = fun j => (fun j => pt n xs i j) (n - 1 - j % n) := by funext j; exact pt_mir hv i j
  rw [e]
  exact run_refl' hv.n0 (fun j => pt_row i j) v k
theorem hrun_mir (hv : Valid n xs) (v : Bool) (k : Nat) : HRun n (painted (miG xs n) xs.length n) v k ↔ HRun n xs v k := by
  unfold HRun
  have e : ∀ h, (fun i => pt n (painted (miG xs n) xs.length n) i h) = fun i => pt n xs i (n - 1 - h % n) := fun h => by funext i; exact pt_mir hv i h
  have hn := hv.n0
  constructor
  · rintro ⟨h, hr⟩
    rw [e] at hr
    exact ⟨_, hr⟩
  · rintro ⟨h, hr⟩
    refine ⟨n - 1 - h % n, ?_⟩
    rw [e]
    have := Nat.mod_lt h hn
    rw [Nat.mod_eq_of_lt (show n - 1 - h % n < n by omega), show n - 1 - (n - 1 - h % n) = h % n by omega]
    obtain ⟨f, hf⟩ := hr
    exact ⟨f, fun j hj => by show pt n xs (f + j) (h % n) = v; rw [← pt_row]; exact hf j hj⟩
theorem hrun_fli (hv : Valid n xs) (v : Bool) (k : Nat) : HRun n (painted (flG xs) xs.length n) v k ↔ HRun n xs v k := by
  unfold HRun
  refine exists_congr fun h => ?_
  have e : (fun i => pt n (painted (flG xs) xs.length n) i h) = fun i => (fun i => pt n xs i h) (xs.length - 1 - i % xs.length) := by funext i; exact pt_fli hv i h
  rw [e]
  exact run_refl' hv.l0 (fun i => pt_col i h) v k
theorem wrun_fli (hv : Valid n xs) (v : Bool) (k : Nat) : WRun n (painted (flG xs) xs.length n) v k ↔ WRun n xs v k := by
  unfold WRun
  have e : ∀ i, (fun j => pt n (painted (flG xs) xs.length n) i j) = fun j => pt n xs (xs.length - 1 - i % xs.length) j := fun i => by funext j; exact pt_fli hv i j
  have hn := hv.l0
  constructor
  · rintro ⟨i, hr⟩
    rw [e] at hr
    exact ⟨_, hr⟩
  · rintro ⟨i, hr⟩
    refine ⟨xs.length - 1 - i % xs.length, ?_⟩
    rw [e]
    have := Nat.mod_lt i hn
    rw [Nat.mod_eq_of_lt (show xs.length - 1 - i % xs.length < xs.length by omega), show xs.length - 1 - (xs.length - 1 - i % xs.length) = i % xs.length by omega]
    obtain ⟨f, hf⟩ := hr
    exact ⟨f, fun j hj => by show pt n xs (i % xs.length) (f + j) = v; rw [← pt_col]; exact hf j hj⟩
theorem wrun_bac (hv : Valid n xs) (v : Bool) (k : Nat) : WRun n (painted (baG xs) xs.length n) v k ↔ WRun n xs (!v) k := by
  unfold WRun HasRun
  refine exists_congr fun i => exists_congr fun f => forall_congr' fun j => forall_congr' fun _ => ?_
  show pt n (painted (baG xs) xs.length n) i (f + j) = v ↔ pt n xs i (f + j) = !v
  rw [pt_bac hv]
  cases pt n xs i (f + j) <;> cases v <;> simp
theorem hrun_bac (hv : Valid n xs) (v : Bool) (k : Nat) : HRun n (painted (baG xs) xs.length n) v k ↔ HRun n xs (!v) k := by
  unfold HRun HasRun
  refine exists_congr fun h => exists_congr fun f => forall_congr' fun j => forall_congr' fun _ => ?_
  show pt n (painted (baG xs) xs.length n) (f + j) h = v ↔ pt n xs (f + j) h = !v
  rw [pt_bac hv]
  cases pt n xs (f + j) h <;> cases v <;> simp
theorem wrun_shi (hv : Valid n xs) (P H : Nat) (hP : P < xs.length) (hH : H < n) (v : Bool) (k : Nat) : WRun n (painted (shG xs n P H) xs.length n) v k ↔ WRun n xs v k := by
  unfold WRun
  constructor
  · rintro ⟨i, f, hf⟩
    exact ⟨i + (xs.length - P), f + (n - H), fun j hj => by
      have := hf j hj
      simp only [pt_shi hv P H hP hH] at this
      rw [← this]; congr 1; omega⟩
  · rintro ⟨i, f, hf⟩
    refine ⟨i + P, f + H, fun j hj => ?_⟩
    have := hf j hj
    simp only [pt_shi hv P H hP hH]
    rw [← this]
    show pt n xs _ _ = pt n xs _ _
    rw [show i + P + (xs.length - P) = i + xs.length by omega, show f + H + j + (n - H) = f + j + n by omega]
    unfold pt
    rw [Nat.add_mod_right, Nat.add_mod_right]
theorem hrun_shi (hv : Valid n xs) (P H : Nat) (hP : P < xs.length) (hH : H < n) (v : Bool) (k : Nat) : HRun n (painted (shG xs n P H) xs.length n) v k ↔ HRun n xs v k := by
  unfold HRun
  constructor
  · rintro ⟨h, f, hf⟩
    exact ⟨h + (n - H), f + (xs.length - P), fun j hj => by
      have := hf j hj
      simp only [pt_shi hv P H hP hH] at this
      rw [← this]; congr 1; omega⟩
  · rintro ⟨h, f, hf⟩
    refine ⟨h + H, f + P, fun j hj => ?_⟩
    have := hf j hj
    simp only [pt_shi hv P H hP hH]
    rw [← this]
    show pt n xs _ _ = pt n xs _ _
    rw [show h + H + (n - H) = h + n by omega, show f + P + j + (xs.length - P) = f + j + xs.length by omega]
    unfold pt
    rw [Nat.add_mod_right, Nat.add_mod_right]
/-- the same longest floats -/
def LongSame (n : Nat) (xs : List Nat) (m : Nat) (ys : List Nat) : Prop := ∀ a, a = 1 ∨ a = 2 → ∀ v, doneM m ys 2 a v = doneM n xs 2 a v
theorem long_mir (hv : Valid n xs) : LongSame n xs n (painted (miG xs n) xs.length n) := by
  rintro a (rfl | rfl) v
  · exact done_w (painted_valid hv _) hv v v fun k => wrun_mir hv v k
  · exact done_h (painted_valid hv _) hv v v fun k => hrun_mir hv v k
theorem long_fli (hv : Valid n xs) : LongSame n xs n (painted (flG xs) xs.length n) := by
  rintro a (rfl | rfl) v
  · exact done_w (painted_valid hv _) hv v v fun k => wrun_fli hv v k
  · exact done_h (painted_valid hv _) hv v v fun k => hrun_fli hv v k
theorem long_shi (hv : Valid n xs) (P H : Nat) (hP : P < xs.length) (hH : H < n) : LongSame n xs n (painted (shG xs n P H) xs.length n) := by
  rintro a (rfl | rfl) v
  · exact done_w (painted_valid hv _) hv v v fun k => wrun_shi hv P H hP hH v k
  · exact done_h (painted_valid hv _) hv v v fun k => hrun_shi hv P H hP hH v k
theorem long_bac (hv : Valid n xs) (a : Nat) (ha : a = 1 ∨ a = 2) (v : Bool) : doneM n (painted (baG xs) xs.length n) 2 a v = doneM n xs 2 a (!v) := by
  rcases ha with rfl | rfl
  · exact done_w (painted_valid hv _) hv v (!v) fun k => wrun_bac hv v k
  · exact done_h (painted_valid hv _) hv v (!v) fun k => hrun_bac hv v k
end
/-- the same float on the other side -/
def Fl.other (f : Fl) : Fl := ⟨f.pick, f.hook, f.length, !f.lifted⟩
def Run.other (r : Run) : Run := ⟨r.first, r.length, !r.lifted⟩
theorem runs_other {s p q : Nat} (hs : 0 < s) (hp : p < 2 ^ s) (hq : q < 2 ^ s) (h : ∀ j, j < s → bitN q j = !bitN p j) : runsOf s q = (runsOf s p).map Run.other := by
  have hal : alikeB s q = alikeB s p := by
    rw [Bool.eq_iff_iff, alike_iff hs hq, alike_iff hs hp]
    refine forall_congr' fun j => forall_congr' fun hj => ?_
    rw [h j hj, h 0 hs]
    cases bitN p j <;> cases bitN p 0 <;> simp
  have hb : ∀ i, bitN q (i % s) = !bitN p (i % s) := fun i => h _ (Nat.mod_lt _ hs)
  have hbeg : ∀ i, i < s → begins s q i = begins s p i := fun i hi => by
    unfold begins
    rw [hb, h i hi]
    cases bitN p ((i + s - 1) % s) <;> cases bitN p i <;> rfl
  have hlen : ∀ f, f < s → lenF s q f = lenF s p f := fun f hf => by
    unfold lenF
    have key : ∀ fuel m, lenG s q f fuel m = lenG s p f fuel m := by
      intro fuel
      induction fuel with
      | zero => intro m; rfl
      | succ fuel ih =>
        intro m
        unfold lenG
        rw [hb, h f hf, ih]
        cases bitN p ((f + m) % s) <;> cases bitN p f <;> rfl
    exact key _ _
  unfold runsOf
  rw [hal]
  split
  · simp [Run.other, h 0 hs]
  · unfold runsTo
    rw [List.map_map]
    have hf : (List.range s).filter (begins s q) = (List.range s).filter (begins s p) := List.filter_congr fun i hi => hbeg i (by simpa using hi)
    rw [hf]
    refine List.map_congr_left fun i hi => ?_
    have hi' : i < s := by simpa using (List.mem_filter.1 hi).1
    show (⟨i, lenF s q i, bitN q i⟩ : Run) = ⟨i, lenF s p i, !bitN p i⟩
    rw [hlen i hi', h i hi']
theorem fl_other {mk : Run → Fl} {m : Int} {rs : List Run} (hm : ∀ r, mk r.other = (mk r).other) : ringFl mk m (rs.map Run.other) = (ringFl mk m rs).map Fl.other := by
  unfold ringFl
  rw [List.filter_map, List.map_map, List.map_map]
  have e : ((fun r : Run => decide (m < (r.length : Int))) ∘ Run.other) = fun r : Run => decide (m < (r.length : Int)) := by funext r; rfl
  rw [e]
  exact List.map_congr_left fun r _ => hm r
theorem upTo_map {f g : Nat → List Fl} {N : Nat} (h : ∀ i, i < N → g i = (f i).map Fl.other) : upTo g N = (upTo f N).map Fl.other := by
  induction N with
  | zero => rfl
  | succ N ih => rw [upTo_succ, upTo_succ, List.map_append, ih (fun i hi => h i (by omega)), h N (by omega)]
theorem back_w {n : Nat} {xs : List Nat} (hv : Valid n xs) (m : Int) : upTo (flW n (painted (baG xs) xs.length n) m) xs.length = (upTo (flW n xs m) xs.length).map Fl.other := by
  refine upTo_map fun i hi => ?_
  unfold flW
  rw [runs_other hv.n0 (hv.lt i) (painted_lt _ _ _ i) (fun j hj => by rw [bit_painted _ _ _ _ _ hi hj]; rfl)]
  exact fl_other fun r => rfl
theorem back_h {n : Nat} {xs : List Nat} (hv : Valid n xs) (m : Int) : upTo (flH (painted (baG xs) xs.length n) m) n = (upTo (flH xs m) n).map Fl.other := by
  refine upTo_map fun h hh => ?_
  unfold flH
  rw [painted_len]
  have hb : ∀ (ys : List Nat) j, j < xs.length → bitN (colTo ys h xs.length) j = bitN (nthN ys j) h := fun ys j hj => by
    have := colTo_bit ys h xs.length j
    rw [decide_eq_true hj, Bool.true_and] at this
    exact this
  rw [runs_other hv.l0 (colTo_lt xs h xs.length) (colTo_lt _ h xs.length) (fun j hj => by rw [hb _ j hj, hb _ j hj, bit_painted _ _ _ _ _ hj hh]; rfl)]
  exact fl_other fun r => rfl
end Go.Proofs.Ytjobbleabepaiaa
