/- PointTwice: what its walk wants. -/
import Derived.Test.YtjobbleabepaiaaXQ
namespace Go.Proofs.Ytjobbleabepaiaa
open Go.RowKit Go.Shelf

theorem two_cells (W : World) (u v : Value) (t : TypeId) : (W.alloc (.cells #[u, v] t)).cell? ⟨W.heap.size, 0, none⟩ = some u ∧ (W.alloc (.cells #[u, v] t)).cell? ⟨W.heap.size, 1, none⟩ = some v := ⟨by simp, by simp⟩
/-- places out of bytes -/
structure Places2 (n N B0 B1 A0 A1 P Q p1 h1 : Nat) : Prop where
  m1 : (B0 : Int).tmod (N : Int) = (P : Int)
  m2 : (B1 : Int).tmod (n : Int) = (Q : Int)
  m3 : (A0 : Int).tmod (N : Int) = (p1 : Int)
  m4 : (A1 : Int).tmod (n : Int) = (h1 : Int)
  hP : P < N
  hQ : Q < n
  hp : p1 < N
  hh : h1 < n
theorem Places2.of (n N B0 B1 A0 A1 : Nat) (hn : 0 < n) (hN : 0 < N) : ∃ P Q p1 h1, Places2 n N B0 B1 A0 A1 P Q p1 h1 :=
  ⟨B0 % N, B1 % n, A0 % N, A1 % n, by rw [tmod_eq _ _ (by omega), Int.toNat_natCast], by rw [tmod_eq _ _ (by omega), Int.toNat_natCast], by rw [tmod_eq _ _ (by omega), Int.toNat_natCast], by rw [tmod_eq _ _ (by omega), Int.toNat_natCast],
    Nat.mod_lt _ hN, Nat.mod_lt _ hn, Nat.mod_lt _ hN, Nat.mod_lt _ hn⟩

abbrev dV (n b off c l : Nat) : Value := .agg #[.int .i64 (n : Int), .slice (some ⟨b, off, none⟩) l c]
/-- all that PointTwice's calls return -/
structure TwF (n : Nat) (ys ms fs ks ts : List Nat) (P Q P2 Q2 p1 h1 : Nat) (A : Bool) : Prop where
  v : Valid n ys
  vm : Valid n ms
  vf : Valid n fs
  vk : Valid n ks
  vt : Valid n ts
  lm : ms.length = ys.length
  lf : fs.length = ys.length
  lk : ks.length = ys.length
  lt : ts.length = ys.length
  M : ∀ W b o c, VAt W b o c n ys → Calls Try.prog 35 #[.agg #[.int .i64 (n : Int), .slice (some ⟨b, o, none⟩) ys.length c]] W (OkD n ms W)
  F : ∀ W b o c, VAt W b o c n ys → Calls Try.prog 36 #[.agg #[.int .i64 (n : Int), .slice (some ⟨b, o, none⟩) ys.length c]] W (OkD n fs W)
  K : ∀ W b o c, VAt W b o c n ys → Calls Try.prog 37 #[.agg #[.int .i64 (n : Int), .slice (some ⟨b, o, none⟩) ys.length c]] W (OkD n ks W)
  T : ∀ W b o c, VAt W b o c n ys → Calls Try.prog 38 #[.agg #[.int .i64 (n : Int), .slice (some ⟨b, o, none⟩) ys.length c], .int .i64 (P : Int), .int .i64 (Q : Int)] W (OkD n ts W)
  M2 : ∀ W b o c, VAt W b o c n ms → Calls Try.prog 35 #[.agg #[.int .i64 (n : Int), .slice (some ⟨b, o, none⟩) ms.length c]] W (OkD n ys W)
  F2 : ∀ W b o c, VAt W b o c n fs → Calls Try.prog 36 #[.agg #[.int .i64 (n : Int), .slice (some ⟨b, o, none⟩) fs.length c]] W (OkD n ys W)
  K2 : ∀ W b o c, VAt W b o c n ks → Calls Try.prog 37 #[.agg #[.int .i64 (n : Int), .slice (some ⟨b, o, none⟩) ks.length c]] W (OkD n ys W)
  T2 : ∀ W b o c, VAt W b o c n ts → Calls Try.prog 38 #[.agg #[.int .i64 (n : Int), .slice (some ⟨b, o, none⟩) ts.length c], .int .i64 (P2 : Int), .int .i64 (Q2 : Int)] W (OkD n ys W)
  Ld : ∀ W b o c, VAt W b o c n ys → Calls Try.prog 63 #[.agg #[.int .i64 (n : Int), .slice (some ⟨b, o, none⟩) ys.length c], .int .i64 (p1 : Int), .int .i64 (h1 : Int)] W fun e w' => e = .returned (.bool A) ∧ Below W.heap.size W w'
  Lm : ∀ W b o c, VAt W b o c n ms → Calls Try.prog 63 #[.agg #[.int .i64 (n : Int), .slice (some ⟨b, o, none⟩) ms.length c], .int .i64 (p1 : Int), .int .i64 ((n : Int) - 1 - (h1 : Int))] W fun e w' => e = .returned (.bool A) ∧ Below W.heap.size W w'
  Lf : ∀ W b o c, VAt W b o c n fs → Calls Try.prog 63 #[.agg #[.int .i64 (n : Int), .slice (some ⟨b, o, none⟩) fs.length c], .int .i64 ((ys.length : Int) - 1 - (p1 : Int)), .int .i64 (h1 : Int)] W fun e w' => e = .returned (.bool A) ∧ Below W.heap.size W w'
  Lk : ∀ W b o c, VAt W b o c n ks → Calls Try.prog 63 #[.agg #[.int .i64 (n : Int), .slice (some ⟨b, o, none⟩) ks.length c], .int .i64 (p1 : Int), .int .i64 (h1 : Int)] W fun e w' => e = .returned (.bool (!A)) ∧ Below W.heap.size W w'
  Ls : ∀ W b o c, VAt W b o c n ts → Calls Try.prog 63 #[.agg #[.int .i64 (n : Int), .slice (some ⟨b, o, none⟩) ts.length c], .int .i64 ((p1 : Int) + (P : Int)), .int .i64 ((h1 : Int) + (Q : Int))] W fun e w' => e = .returned (.bool A) ∧ Below W.heap.size W w'
  D : ∀ W b o c b2 o2 c2, VAt W b o c n ys → VAt W b2 o2 c2 n ks → Calls Try.prog 56 #[.agg #[.int .i64 (n : Int), .slice (some ⟨b, o, none⟩) ys.length c], .agg #[.int .i64 (n : Int), .slice (some ⟨b2, o2, none⟩) ks.length c2]] W
    fun e w' => ∃ x y : Nat, e = .returned (.tuple #[.int .i64 ((ys.length : Int) * (n : Int)), .int .i64 (x : Int), .int .i64 (y : Int), .int .i64 0]) ∧ Below W.heap.size W w'
  t1 : ((ys.length : Int) - (P : Int)).tmod (ys.length : Int) = (P2 : Int)
  t2 : ((n : Int) - (Q : Int)).tmod (n : Int) = (Q2 : Int)
theorem TwF.of {n : Nat} {ys : List Nat} {P Q p1 h1 : Nat} (hv : Valid n ys) (hP : P < ys.length) (hQ : Q < n) (hp : p1 < ys.length) (hh : h1 < n) : ∃ ms fs ks ts P2 Q2 A, TwF n ys ms fs ks ts P Q P2 Q2 p1 h1 A := by
  have l1 := hv.l1
  have n1 := hv.n1
  have hLm := pt_mirror hv p1 h1 hp hh
  have hLf := pt_flip hv p1 h1 hp hh
  have hLb := pt_back (n := n) (ys := ys) p1 h1 hp hh
  have hLs := pt_shift (n := n) (ys := ys) P Q p1 h1 hP hQ hp hh
  have hD := back_differs (n := n) (ys := ys)
  refine ⟨painted (miG ys n) ys.length n, painted (flG ys) ys.length n, painted (baG ys) ys.length n, painted (shG ys n P Q) ys.length n, (ys.length - P) % ys.length, (n - Q) % n, pt n ys p1 h1,
    ⟨hv, painted_valid hv _, painted_valid hv _, painted_valid hv _, painted_valid hv _, painted_len _ _ _, painted_len _ _ _, painted_len _ _ _, painted_len _ _ _,
     fun W b o c h => Mirror_ok n b o c ys W h, fun W b o c h => Flip_ok n b o c ys W h, fun W b o c h => Back_ok n b o c ys W h, fun W b o c h => Shift_ok n b o c P Q ys W h hP hQ,
     fun W b o c h => ?_, fun W b o c h => ?_, fun W b o c h => ?_, fun W b o c h => ?_, fun W b o c h => ?_, fun W b o c h => ?_, fun W b o c h => ?_, fun W b o c h => ?_, fun W b o c h => ?_, fun W b o c b2 o2 c2 h h2 => ?_, ?_, ?_⟩⟩
  · have := Mirror_ok n b o c _ W h
    rw [show painted (miG (painted (miG ys n) ys.length n) n) (painted (miG ys n) ys.length n).length n = ys by rw [painted_len]; exact mirror_twice hv] at this
    exact this
  · have := Flip_ok n b o c _ W h
    rw [show painted (flG (painted (flG ys) ys.length n)) (painted (flG ys) ys.length n).length n = ys by rw [painted_len]; exact flip_twice hv] at this
    exact this
  · have := Back_ok n b o c _ W h
    rw [show painted (baG (painted (baG ys) ys.length n)) (painted (baG ys) ys.length n).length n = ys by rw [painted_len]; exact back_twice hv] at this
    exact this
  · have := Shift_ok n b o c ((ys.length - P) % ys.length) ((n - Q) % n) _ W h (by rw [painted_len]; exact Nat.mod_lt _ (by omega)) (Nat.mod_lt _ (by omega))
    rw [show painted (shG (painted (shG ys n P Q) ys.length n) n ((ys.length - P) % ys.length) ((n - Q) % n)) (painted (shG ys n P Q) ys.length n).length n = ys by rw [painted_len]; exact shift_twice hv P Q hP hQ] at this
    exact this
  · have := lifted_any n b o c ys (p1 : Int) (h1 : Int) W h (by omega) (by omega)
    simpa only [Int.toNat_natCast] using this
  · have := lifted_any n b o c _ (p1 : Int) ((n : Int) - 1 - (h1 : Int)) W h (by omega) (by omega)
    rw [show ((n : Int) - 1 - (h1 : Int)).toNat = n - 1 - h1 by omega] at this
    simp only [Int.toNat_natCast] at this
    rwa [hLm] at this
  · have := lifted_any n b o c _ ((ys.length : Int) - 1 - (p1 : Int)) (h1 : Int) W h (by omega) (by omega)
    rw [show ((ys.length : Int) - 1 - (p1 : Int)).toNat = ys.length - 1 - p1 by omega] at this
    simp only [Int.toNat_natCast] at this
    rwa [hLf] at this
  · have := lifted_any n b o c _ (p1 : Int) (h1 : Int) W h (by omega) (by omega)
    simp only [Int.toNat_natCast] at this
    rwa [hLb] at this
  · have := lifted_any n b o c _ ((p1 : Int) + (P : Int)) ((h1 : Int) + (Q : Int)) W h (by omega) (by omega)
    rw [show ((p1 : Int) + (P : Int)).toNat = p1 + P by omega, show ((h1 : Int) + (Q : Int)).toNat = h1 + Q by omega, hLs] at this
    exact this
  · refine (Differ_ok n b o c b2 o2 c2 ys _ W h h2 (painted_len _ _ _)).mono ?_
    rintro e w' ⟨rfl, hb⟩
    rw [hD]
    exact ⟨(dfAll (dfB ys (painted (baG ys) ys.length n)) n ys.length).2.1, (dfAll (dfB ys (painted (baG ys) ys.length n)) n ys.length).2.2, by rw [show ((ys.length * n : Nat) : Int) = (ys.length : Int) * (n : Int) by simp], hb⟩
  · rw [tmod_eq _ _ (by omega), show ((ys.length : Int) - (P : Int)).toNat = ys.length - P by omega]
  · rw [tmod_eq _ _ (by omega), show ((n : Int) - (Q : Int)).toNat = n - Q by omega]
end Go.Proofs.Ytjobbleabepaiaa
namespace Go.Proofs.Ytjobbleabepaiaa
open Go.RowKit Go.Shelf
/-- a box that was laid ahead of the call whose design it holds -/
theorem Boxes.filled {w0 W w5 : World} {L : List BX} (s : Boxes w0 L W) {n R : Nat} {zs : List Nat} (hl : zs.length ≤ 1000) (hb : Below (W.heap.size + 1) ((W.alloc rObj).drew) w5) (hn : NatBlk w5 R zs) (hR : W.heap.size + 1 ≤ R) :
    Boxes w0 (⟨W.heap.size, n, some ⟨R, 0, none⟩, zs.length, zs.length, ints zs⟩ :: L) ((w5.setCell ⟨W.heap.size, 0, none⟩ (.int .i64 (n : Int))).setCell ⟨W.heap.size, 1, none⟩ (.slice (some ⟨R, 0, none⟩) zs.length zs.length)) := by
  have hq : ResBox w5 W.heap.size := ResBox.below (n := W.heap.size + 1) (ResBox.new W) (((Below.refl (W.heap.size + 1) (W.alloc rObj)).drew).trans hb) (by omega)
  have hB6 : Below W.heap.size W ((w5.setCell ⟨W.heap.size, 0, none⟩ (.int .i64 (n : Int))).setCell ⟨W.heap.size, 1, none⟩ (.slice (some ⟨R, 0, none⟩) zs.length zs.length)) :=
    (((below1 W rObj).drew.trans (hb.mono (show W.heap.size ≤ W.heap.size + 1 by omega))).setCell (Nat.le_refl _) _).setCell (Nat.le_refl _) _
  have hrb := (RBox.of_res hq n).set1 (.slice (some ⟨R, 0, none⟩) zs.length zs.length)
  have s6 := s.next hB6
  refine ⟨fun x hx => ?_, s6.below⟩
  rcases List.mem_cons.1 hx with rfl | hx
  · refine ⟨⟨hrb.c0, hrb.c1⟩, blk_reads ?_ hl _⟩
    exact (Below.heap_setCell _ _ _ _ (by simp; omega)).trans ((Below.heap_setCell _ _ _ _ (by simp; omega)).trans hn)
  · exact s6.all x hx
end Go.Proofs.Ytjobbleabepaiaa
namespace Go.Proofs.Ytjobbleabepaiaa
open Go.RowKit Go.Shelf
theorem resA {W w5 : World} (hb : Below ((W.alloc (.cells #[.int .i64 0, .slice none 0 0] 24)).drew).heap.size ((W.alloc (.cells #[.int .i64 0, .slice none 0 0] 24)).drew) w5) :
    w5.cell? ⟨W.heap.size, 0, none⟩ = some (.int .i64 0) ∧ w5.cell? ⟨W.heap.size, 1, none⟩ = some (.slice none 0 0) ∧ w5.frozen? ⟨W.heap.size, 0, none⟩ = false ∧ w5.frozen? ⟨W.heap.size, 1, none⟩ = false ∧ W.heap.size < w5.heap.size := by
  have hq : ResBox w5 W.heap.size := ResBox.below (n := W.heap.size + 1) (ResBox.new W) (((Below.refl (W.heap.size + 1) (W.alloc (.cells #[.int .i64 0, .slice none 0 0] 24))).drew).trans (hb.mono (by simp))) (by omega)
  exact ⟨hq.c0, hq.c1, hq.f 0, hq.f 1, hq.lt⟩
end Go.Proofs.Ytjobbleabepaiaa
