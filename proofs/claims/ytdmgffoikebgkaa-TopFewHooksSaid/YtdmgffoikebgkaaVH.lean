/- Designs in boxes. -/
import Derived.Test.YtdmgffoikebgkaaWO
import Derived.Test.YtdmgffoikebgkaaWV
import Derived.Test.YtdmgffoikebgkaaWX
import Derived.KernelRfl
namespace Go.Proofs.Ytdmgffoikebgkaa
open Go.RowKit Go.Shelf

def dObj (n b off c : Nat) (xs : List Nat) : Obj := .cells #[.int .i64 (n : Int), .slice (some ⟨b, off, none⟩) xs.length c] 37
def rObj : Obj := .cells #[.int .i64 0, .slice none 0 0] 37
theorem DBox.new (w : World) (n b off c : Nat) (xs : List Nat) : DBox (w.alloc (dObj n b off c xs)) w.heap.size n b off c xs := by
  unfold dObj; exact ⟨by simp, by simp⟩
end Go.Proofs.Ytdmgffoikebgkaa
/- Mirror, Flip, Back. -/
namespace Go.Proofs.Ytdmgffoikebgkaa
open Go.RowKit Go.Shelf

def miG (xs : List Nat) (n i j : Nat) : Bool := bitN (nthN xs i) (n - 1 - j)
def flG (xs : List Nat) (i j : Nat) : Bool := bitN (nthN xs (xs.length - 1 - i)) j
def baG (xs : List Nat) (i j : Nat) : Bool := !bitN (nthN xs i) j

set_option maxHeartbeats 1000000 in
theorem Mirror1_any (n b off c B : Nat) (xs : List Nat) (i j : Nat) (w : World) (hv : VAt w b off c n xs) (hd : DBox w B n b off c xs) (hi : i < xs.length) (hj : j < n) :
    Calls Try.prog 162 #[.int .i64 (i : Int), .int .i64 (j : Int), .pointer (some ⟨B, 0, none⟩)] w fun e w' => e = .returned (.bool (miG xs n i j)) ∧ Below w.heap.size w w' := by
  have d0 := hd.c0
  have d1 := hd.c1
  have l1 := hv.ok.l1
  have n1 := hv.ok.n1
  have hn : (n : Int) - 1 - (j : Int) = ((n - 1 - j : Nat) : Int) := by omega
  have hx : (xs.length : Int) - 1 - (i : Int) = ((xs.length - 1 - i : Nat) : Int) := by omega
  have HL := fun W (h : Below w.heap.size w W) => paperLifted_any n b off c xs (i) (n - 1 - j) W (hv.below h).lt (by omega) (hv.below h).at' (by omega) (by have := hv.ok.lt' (i); omega) (by omega)
  clear hv hd
  go_enter Try.func162, Try.ntmps162
  go_wp2_with fail
  (try rw [hn])
  (try rw [hx])
  refine (HL _ ?_).mono ?_
  · first | exact Below.refl _ _ | exact (Below.refl _ _).drew
  rintro e w1 ⟨rfl, hb1⟩
  have Hb := Lib.hid hb1
  clear hb1
  go_wp2_with fail
  go_ret
  exact ⟨by first | rfl | (unfold miG; rfl) | simp [miG], Hb.out⟩

set_option maxHeartbeats 1000000 in
theorem Mirror_err (h : Int) (p : Option Addr) (c : Nat) (xs : List Int) (w : World) (hr : Reads w (.slice p xs.length c) xs) (r : Int) (he : checkE h xs = r) (hne : r ≠ 0) :
    Calls Try.prog 90 #[.agg #[.int .i64 h, .slice p xs.length c]] w (ErrD r w) := by
  have Hc := fun o o2 => check_res h p c xs w o o2 hr r he
  have hne' : (r != 0) = true := by simpa using hne
  clear he hr hne
  go_enter Try.func90, Try.ntmps90
  go_wp2_with fail
  refine (Hc _ _).mono ?_
  rintro e w1 ⟨rfl, hb1⟩
  have q : ResBox w1 (w.heap.size + 1) := ((ResBox.new (w.alloc (.cells #[.int .i64 h, .slice p xs.length c] 37))).below hb1 (by simp)) |> (fun h => by simpa using h)
  have k0 := q.c0
  have k1 := q.c1
  have k2 := q.f 0
  have k3 := q.f 1
  have Hb := Lib.hid hb1
  clear hb1 q
  go_wp2_with fail
  refine bodyPost_ret (v := .tuple #[.agg #[.int .i64 0, .slice none 0 0], .int .i64 r]) ?_ rfl ⟨rfl, ?_⟩
  · simp [results, Try.results90, go_sem, k0, k1]
  · exact ((((Below.refl w.heap.size w).alloc (Nat.le_refl _) _).alloc (by simp) _).trans (Hb.out.mono (by omega))).setCell (by simp) _ |>.setCell (by simp) _

set_option maxHeartbeats 1000000 in
theorem Mirror_ok (n b off c : Nat) (xs : List Nat) (w : World) (hv : VAt w b off c n xs) :
    Calls Try.prog 90 #[.agg #[.int .i64 (n : Int), .slice (some ⟨b, off, none⟩) xs.length c]] w (OkD n (painted (fun i j => miG xs n i j) xs.length n) w) := by
  have Hc := fun o o2 => check_res n (some ⟨b, off, none⟩) c (ints xs) w o o2 (by rw [ints_len]; exact hv.reads) 0 hv.ok.check
  simp only [ints_len] at Hc
  have HV := Lib.hid hv
  have l1 := hv.ok.l1
  have n1 := hv.ok.n1
  clear hv
  go_enter Try.func90, Try.ntmps90
  go_wp2_with fail
  refine (Hc _ _).mono ?_
  rintro e w1 ⟨rfl, hb1⟩
  obtain ⟨q, hD, hB⟩ := res_facts hb1
  have d0 := hD.c0
  have d1 := hD.c1
  have Hq := Lib.hid q
  have Hb := Lib.hid hB
  have HC : Cond 162 #[.pointer (some ⟨w.heap.size, 0, none⟩)] xs.length n (fun i j => miG xs n i j) w1 := by
    intro W i j h hi hj
    exact Mirror1_any n b off c _ xs i j W (HV.out.below (Hb.out.trans (h.mono Hb.out.size))) (hD.below h hD.lt) hi hj
  have HP := Lib.hid (paint_any 162 _ (enters_of Try.func162 (by kernel_rfl) rfl) xs.length n (fun i j => miG xs n i j) w1 l1 n1 HC)
  clear HC hb1 q hB hD
  go_wp2_with fail
  refine HP.out.mono ?_
  rintro e' w3 ⟨R, rfl, hR0, hR1, hR2⟩
  have q6 := Hq.out.below hR2 Hq.out.lt
  have k0 := q6.c0
  have k1 := q6.c1
  have k2 := q6.f 0
  have k3 := q6.f 1
  have hql := Hq.out.lt
  have HR0 := Lib.hid hR0
  have HR1 := Lib.hid hR1
  have HR2 := Lib.hid hR2
  clear hR0 hR1 hR2 q6 d0 d1
  go_wp2_with fail
  refine bodyPost_ret (v := .tuple #[.agg #[.int .i64 (n : Int), .slice (some ⟨R, 0, none⟩) xs.length xs.length], .int .i64 0]) ?_ rfl ⟨R, by rw [painted_len], ?_, ?_, ?_⟩
  · simp [results, Try.results90, go_sem, k0, k1]
  · exact Nat.le_trans Hb.out.size HR0.out
  · have hz := HR0.out
    exact (Below.heap_setCell _ _ _ _ (by simp; omega)).trans ((Below.heap_setCell _ _ _ _ (by simp; omega)).trans HR1.out)
  · exact ((Hb.out.trans (HR2.out.mono Hb.out.size)).setCell (by simp) _).setCell (by simp) _

set_option maxHeartbeats 1000000 in
theorem Flip1_any (n b off c B : Nat) (xs : List Nat) (i j : Nat) (w : World) (hv : VAt w b off c n xs) (hd : DBox w B n b off c xs) (hi : i < xs.length) (hj : j < n) :
    Calls Try.prog 163 #[.int .i64 (i : Int), .int .i64 (j : Int), .pointer (some ⟨B, 0, none⟩)] w fun e w' => e = .returned (.bool (flG xs i j)) ∧ Below w.heap.size w w' := by
  have d0 := hd.c0
  have d1 := hd.c1
  have l1 := hv.ok.l1
  have n1 := hv.ok.n1
  have hn : (n : Int) - 1 - (j : Int) = ((n - 1 - j : Nat) : Int) := by omega
  have hx : (xs.length : Int) - 1 - (i : Int) = ((xs.length - 1 - i : Nat) : Int) := by omega
  have HL := fun W (h : Below w.heap.size w W) => paperLifted_any n b off c xs (xs.length - 1 - i) (j) W (hv.below h).lt (by omega) (hv.below h).at' (by omega) (by have := hv.ok.lt' (xs.length - 1 - i); omega) (by omega)
  clear hv hd
  go_enter Try.func163, Try.ntmps163
  go_wp2_with fail
  (try rw [hn])
  (try rw [hx])
  refine (HL _ ?_).mono ?_
  · first | exact Below.refl _ _ | exact (Below.refl _ _).drew
  rintro e w1 ⟨rfl, hb1⟩
  have Hb := Lib.hid hb1
  clear hb1
  go_wp2_with fail
  go_ret
  exact ⟨by first | rfl | (unfold flG; rfl) | simp [flG], Hb.out⟩

set_option maxHeartbeats 1000000 in
theorem Flip_err (h : Int) (p : Option Addr) (c : Nat) (xs : List Int) (w : World) (hr : Reads w (.slice p xs.length c) xs) (r : Int) (he : checkE h xs = r) (hne : r ≠ 0) :
    Calls Try.prog 91 #[.agg #[.int .i64 h, .slice p xs.length c]] w (ErrD r w) := by
  have Hc := fun o o2 => check_res h p c xs w o o2 hr r he
  have hne' : (r != 0) = true := by simpa using hne
  clear he hr hne
  go_enter Try.func91, Try.ntmps91
  go_wp2_with fail
  refine (Hc _ _).mono ?_
  rintro e w1 ⟨rfl, hb1⟩
  have q : ResBox w1 (w.heap.size + 1) := ((ResBox.new (w.alloc (.cells #[.int .i64 h, .slice p xs.length c] 37))).below hb1 (by simp)) |> (fun h => by simpa using h)
  have k0 := q.c0
  have k1 := q.c1
  have k2 := q.f 0
  have k3 := q.f 1
  have Hb := Lib.hid hb1
  clear hb1 q
  go_wp2_with fail
  refine bodyPost_ret (v := .tuple #[.agg #[.int .i64 0, .slice none 0 0], .int .i64 r]) ?_ rfl ⟨rfl, ?_⟩
  · simp [results, Try.results91, go_sem, k0, k1]
  · exact ((((Below.refl w.heap.size w).alloc (Nat.le_refl _) _).alloc (by simp) _).trans (Hb.out.mono (by omega))).setCell (by simp) _ |>.setCell (by simp) _

set_option maxHeartbeats 1000000 in
theorem Flip_ok (n b off c : Nat) (xs : List Nat) (w : World) (hv : VAt w b off c n xs) :
    Calls Try.prog 91 #[.agg #[.int .i64 (n : Int), .slice (some ⟨b, off, none⟩) xs.length c]] w (OkD n (painted (fun i j => flG xs i j) xs.length n) w) := by
  have Hc := fun o o2 => check_res n (some ⟨b, off, none⟩) c (ints xs) w o o2 (by rw [ints_len]; exact hv.reads) 0 hv.ok.check
  simp only [ints_len] at Hc
  have HV := Lib.hid hv
  have l1 := hv.ok.l1
  have n1 := hv.ok.n1
  clear hv
  go_enter Try.func91, Try.ntmps91
  go_wp2_with fail
  refine (Hc _ _).mono ?_
  rintro e w1 ⟨rfl, hb1⟩
  obtain ⟨q, hD, hB⟩ := res_facts hb1
  have d0 := hD.c0
  have d1 := hD.c1
  have Hq := Lib.hid q
  have Hb := Lib.hid hB
  have HC : Cond 163 #[.pointer (some ⟨w.heap.size, 0, none⟩)] xs.length n (fun i j => flG xs i j) w1 := by
    intro W i j h hi hj
    exact Flip1_any n b off c _ xs i j W (HV.out.below (Hb.out.trans (h.mono Hb.out.size))) (hD.below h hD.lt) hi hj
  have HP := Lib.hid (paint_any 163 _ (enters_of Try.func163 (by kernel_rfl) rfl) xs.length n (fun i j => flG xs i j) w1 l1 n1 HC)
  clear HC hb1 q hB hD
  go_wp2_with fail
  refine HP.out.mono ?_
  rintro e' w3 ⟨R, rfl, hR0, hR1, hR2⟩
  have q6 := Hq.out.below hR2 Hq.out.lt
  have k0 := q6.c0
  have k1 := q6.c1
  have k2 := q6.f 0
  have k3 := q6.f 1
  have hql := Hq.out.lt
  have HR0 := Lib.hid hR0
  have HR1 := Lib.hid hR1
  have HR2 := Lib.hid hR2
  clear hR0 hR1 hR2 q6 d0 d1
  go_wp2_with fail
  refine bodyPost_ret (v := .tuple #[.agg #[.int .i64 (n : Int), .slice (some ⟨R, 0, none⟩) xs.length xs.length], .int .i64 0]) ?_ rfl ⟨R, by rw [painted_len], ?_, ?_, ?_⟩
  · simp [results, Try.results91, go_sem, k0, k1]
  · exact Nat.le_trans Hb.out.size HR0.out
  · have hz := HR0.out
    exact (Below.heap_setCell _ _ _ _ (by simp; omega)).trans ((Below.heap_setCell _ _ _ _ (by simp; omega)).trans HR1.out)
  · exact ((Hb.out.trans (HR2.out.mono Hb.out.size)).setCell (by simp) _).setCell (by simp) _

set_option maxHeartbeats 1000000 in
theorem Back1_any (n b off c B : Nat) (xs : List Nat) (i j : Nat) (w : World) (hv : VAt w b off c n xs) (hd : DBox w B n b off c xs) (hi : i < xs.length) (hj : j < n) :
    Calls Try.prog 170 #[.int .i64 (i : Int), .int .i64 (j : Int), .pointer (some ⟨B, 0, none⟩)] w fun e w' => e = .returned (.bool (baG xs i j)) ∧ Below w.heap.size w w' := by
  have d0 := hd.c0
  have d1 := hd.c1
  have l1 := hv.ok.l1
  have n1 := hv.ok.n1
  have hn : (n : Int) - 1 - (j : Int) = ((n - 1 - j : Nat) : Int) := by omega
  have hx : (xs.length : Int) - 1 - (i : Int) = ((xs.length - 1 - i : Nat) : Int) := by omega
  have HL := fun W (h : Below w.heap.size w W) => paperLifted_any n b off c xs (i) (j) W (hv.below h).lt (by omega) (hv.below h).at' (by omega) (by have := hv.ok.lt' (i); omega) (by omega)
  clear hv hd
  go_enter Try.func170, Try.ntmps170
  go_wp2_with fail
  (try rw [hn])
  (try rw [hx])
  refine (HL _ ?_).mono ?_
  · first | exact Below.refl _ _ | exact (Below.refl _ _).drew
  rintro e w1 ⟨rfl, hb1⟩
  have Hb := Lib.hid hb1
  clear hb1
  go_wp2_with fail
  go_ret
  exact ⟨by first | rfl | (unfold baG; rfl) | simp [baG], Hb.out⟩

set_option maxHeartbeats 1000000 in
theorem Back_err (h : Int) (p : Option Addr) (c : Nat) (xs : List Int) (w : World) (hr : Reads w (.slice p xs.length c) xs) (r : Int) (he : checkE h xs = r) (hne : r ≠ 0) :
    Calls Try.prog 107 #[.agg #[.int .i64 h, .slice p xs.length c]] w (ErrD r w) := by
  have Hc := fun o o2 => check_res h p c xs w o o2 hr r he
  have hne' : (r != 0) = true := by simpa using hne
  clear he hr hne
  go_enter Try.func107, Try.ntmps107
  go_wp2_with fail
  refine (Hc _ _).mono ?_
  rintro e w1 ⟨rfl, hb1⟩
  have q : ResBox w1 (w.heap.size + 1) := ((ResBox.new (w.alloc (.cells #[.int .i64 h, .slice p xs.length c] 37))).below hb1 (by simp)) |> (fun h => by simpa using h)
  have k0 := q.c0
  have k1 := q.c1
  have k2 := q.f 0
  have k3 := q.f 1
  have Hb := Lib.hid hb1
  clear hb1 q
  go_wp2_with fail
  refine bodyPost_ret (v := .tuple #[.agg #[.int .i64 0, .slice none 0 0], .int .i64 r]) ?_ rfl ⟨rfl, ?_⟩
  · simp [results, Try.results107, go_sem, k0, k1]
  · exact ((((Below.refl w.heap.size w).alloc (Nat.le_refl _) _).alloc (by simp) _).trans (Hb.out.mono (by omega))).setCell (by simp) _ |>.setCell (by simp) _

set_option maxHeartbeats 1000000 in
theorem Back_ok (n b off c : Nat) (xs : List Nat) (w : World) (hv : VAt w b off c n xs) :
    Calls Try.prog 107 #[.agg #[.int .i64 (n : Int), .slice (some ⟨b, off, none⟩) xs.length c]] w (OkD n (painted (fun i j => baG xs i j) xs.length n) w) := by
  have Hc := fun o o2 => check_res n (some ⟨b, off, none⟩) c (ints xs) w o o2 (by rw [ints_len]; exact hv.reads) 0 hv.ok.check
  simp only [ints_len] at Hc
  have HV := Lib.hid hv
  have l1 := hv.ok.l1
  have n1 := hv.ok.n1
  clear hv
  go_enter Try.func107, Try.ntmps107
  go_wp2_with fail
  refine (Hc _ _).mono ?_
  rintro e w1 ⟨rfl, hb1⟩
  obtain ⟨q, hD, hB⟩ := res_facts hb1
  have d0 := hD.c0
  have d1 := hD.c1
  have Hq := Lib.hid q
  have Hb := Lib.hid hB
  have HC : Cond 170 #[.pointer (some ⟨w.heap.size, 0, none⟩)] xs.length n (fun i j => baG xs i j) w1 := by
    intro W i j h hi hj
    exact Back1_any n b off c _ xs i j W (HV.out.below (Hb.out.trans (h.mono Hb.out.size))) (hD.below h hD.lt) hi hj
  have HP := Lib.hid (paint_any 170 _ (enters_of Try.func170 (by kernel_rfl) rfl) xs.length n (fun i j => baG xs i j) w1 l1 n1 HC)
  clear HC hb1 q hB hD
  go_wp2_with fail
  refine HP.out.mono ?_
  rintro e' w3 ⟨R, rfl, hR0, hR1, hR2⟩
  have q6 := Hq.out.below hR2 Hq.out.lt
  have k0 := q6.c0
  have k1 := q6.c1
  have k2 := q6.f 0
  have k3 := q6.f 1
  have hql := Hq.out.lt
  have HR0 := Lib.hid hR0
  have HR1 := Lib.hid hR1
  have HR2 := Lib.hid hR2
  clear hR0 hR1 hR2 q6 d0 d1
  go_wp2_with fail
  refine bodyPost_ret (v := .tuple #[.agg #[.int .i64 (n : Int), .slice (some ⟨R, 0, none⟩) xs.length xs.length], .int .i64 0]) ?_ rfl ⟨R, by rw [painted_len], ?_, ?_, ?_⟩
  · simp [results, Try.results107, go_sem, k0, k1]
  · exact Nat.le_trans Hb.out.size HR0.out
  · have hz := HR0.out
    exact (Below.heap_setCell _ _ _ _ (by simp; omega)).trans ((Below.heap_setCell _ _ _ _ (by simp; omega)).trans HR1.out)
  · exact ((Hb.out.trans (HR2.out.mono Hb.out.size)).setCell (by simp) _).setCell (by simp) _
end Go.Proofs.Ytdmgffoikebgkaa
