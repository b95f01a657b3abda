/- Turned and Shift of the reference. -/
import Derived.Test.YtjobbleabepaiaaXJ
import Derived.Maps.AppendAt
namespace Go.Proofs.Ytjobbleabepaiaa
open Go.RowKit

theorem step_append_own_at {P : Program} {w : World} {ops : Array Oper} {o : Oper} {a : Act} {K : Act → World → Prop} {Q : Exit → Act → World → Prop} {E : Prop} (hgd : o.guard = none) (s x : Operand) (t : TypeId)
    (ho : o.op = .call { callee := .builtin .append, args := #[s, x], argTypes := #[t, t] })
    (base : Nat) (e : TypeId) (i : TypeInfo) (z : Value) (size bytes : Nat) (ht : P.underlying t = some (.slice e)) (hi : P.info? e = some i) (hz : i.zero = some z)
    (hsize : i.size = size) (hby : i.bytes = bytes) (hzs : z.cells.size = size) (hsz : 0 < size)
    (v : Value) (n : Nat) (xs : List Value) (hs : a.eval s = v) (hown : w.ownsRow base e size v n xs)
    (ad : Addr) (m c : Nat) (news : List Value) (hx : a.eval x = .slice (some ad) m c) (hl : news.length = m * size) (hnews : ∀ j u, news[j]? = some u → w.cell? (ad.add j) = some u) (h1 : ∀ u ∈ news, u.oneCell' = true)
    (h63 : n + m ≤ maxLen) (hbytes : (n + m) * bytes ≤ 140737488355328) (hbase : base ≤ w.heap.size)
    (h : ∀ v' w', w'.ownsRow base e size v' (n + m) (xs ++ news) → w.grownBy w' v.ownBlock → (v' = .slice none 0 0 ↔ v = .slice none 0 0 ∧ m = 0) → (v'.ownBlock = v.ownBlock ∨ v'.ownBlock = some w.heap.size) → K (a.put o.dst v') w') :
    if Region.wanted o (yielded ops a.tmps) = true then Oper.wp P o a w K Q else E := by
  have hw : Region.wanted o (yielded ops a.tmps) = true := by simp [Region.wanted, hgd]
  rw [if_pos hw]
  obtain ⟨v', w', hr, h2, h3, h4, h5⟩ := run_append_own_at (P := P) w base t o.type e i z size bytes ht hi hz hsize hby hzs hsz v n xs hown ad m c news hl hnews h1 h63 hbytes hbase
  unfold Oper.wp execOp
  simp only [ho, resolve, invoke, builtin, Sem.run_bind, Sem.run_pure, Result.andThen_ok, List.map_toArray, List.map_cons, List.map_nil, hs, hx, hr]
  exact h v' w' h2 h3 h4 h5

theorem boolCells_add (f : Nat → Bool) (a b : Nat) : boolCells f (a + b) = boolCells f a ++ boolCells (fun j => f (a + j)) b := by
  induction b with
  | zero => simp [boolCells]
  | succ b ih => rw [show a + (b + 1) = (a + b) + 1 by omega, boolCells_succ, boolCells_succ, ih, List.append_assoc]
theorem boolCells_congr {f g : Nat → Bool} {k : Nat} (h : ∀ j, j < k → f j = g j) : boolCells f k = boolCells g k := by
  unfold boolCells
  exact List.map_congr_left fun j hj => by rw [h j (by simpa using hj)]
/-- points that lie in memory, from some place on -/
theorem news_at {W : World} {b m : Nat} {f : Nat → Bool} (h : BoolsAt W b m f) (off k : Nat) (hk : off + k ≤ m) : ∀ j u, (boolCells (fun j => f (off + j)) k)[j]? = some u → W.cell? ((⟨b, off, none⟩ : Addr).add j) = some u := fun j u hu => by
  rw [addr_add]
  unfold boolCells at hu
  rw [List.getElem?_map] at hu
  obtain ⟨x, hx, rfl⟩ := Option.map_eq_some_iff.1 hu
  obtain ⟨hj, e⟩ := List.getElem?_eq_some_iff.1 hx
  simp at hj e
  subst e
  exact h.c (off + j) (by omega)
theorem turned_list (f : Nat → Bool) (m H : Nat) (hH : H < m) : boolCells (fun j => f ((j + m - H) % m)) m = boolCells (fun j => f (m - H + j)) H ++ boolCells (fun j => f (0 + j)) (m - H) := by
  have e : m = H + (m - H) := by omega
  conv => lhs; rw [show boolCells (fun j => f ((j + m - H) % m)) m = boolCells (fun j => f ((j + m - H) % m)) (H + (m - H)) by rw [← e]]
  rw [boolCells_add]
  congr 1
  · refine boolCells_congr fun j hj => ?_
    rw [Nat.mod_eq_of_lt (by omega)]; congr 1; omega
  · refine boolCells_congr fun j hj => ?_
    rw [show H + j + m - H = j + m by omega, Nat.add_mod_right, Nat.mod_eq_of_lt (by omega)]; congr 1; omega

theorem own_capmax {W : World} {B e k b m c : Nat} {xs : List Value} (h : W.ownsRow B e 1 (.slice (some ⟨b, 0, none⟩) m c) k xs) : c ≤ maxLen := by
  obtain ⟨_, ⟨hx, _⟩ | ⟨g, cap, cur, e1, _, _, _, hc, _⟩⟩ := h
  · simp at hx
  · simp at e1; omega
set_option maxRecDepth 100000 in
set_option maxHeartbeats 2000000 in
theorem Turned_any (b c m H : Nat) (f : Nat → Bool) (w : World) (hm : m ≤ 60) (hH : H < m) (hc : m ≤ c) (hc2 : c ≤ maxLen) (hB : BoolsAt w b m f) :
    Calls Try.prog 85 #[.slice (some ⟨b, 0, none⟩) m c, .int .i64 (H : Int)] w fun e w' => ∃ g c', e = .returned (.slice (some ⟨g, 0, none⟩) m c') ∧ w'.ownsRow w.heap.size 4 1 (.slice (some ⟨g, 0, none⟩) m c') m (boolCells (fun j => f ((j + m - H) % m)) m) ∧ Below w.heap.size w w' := by
  obtain ⟨i0, hi, hz0, hz1, hz2⟩ := info_parts tInfo4
  have HT := Lib.hid (turned_list f m H hH)
  have HBs := Lib.hid hB
  unfold maxLen at hc2
  have hw1 : IntKind.i64.wrap ((m : Int) - (H : Int)) = ((m - H : Nat) : Int) := by rw [show (m : Int) - (H : Int) = ((m - H : Nat) : Int) by omega]; exact IntWalk.i64_in _ (by omega)
  obtain ⟨d, hd⟩ : ∃ d, d = m - H := ⟨_, rfl⟩
  rw [← hd] at hw1
  have hdm : d ≤ m := by omega
  have hd0 : (0 : Int) ≤ (d : Int) := by omega
  have hd1 : (d : Int) ≤ (m : Int) := by omega
  have hd2 : (d : Int) ≤ (c : Int) := by omega
  have hmd : m - d = H := by omega
  rw [← hd] at HT
  have HH := Lib.hid hmd
  have hX : ∃ ad, (if c = d then some (⟨b, 0, none⟩ : Addr) else some ⟨b, d, none⟩) = some ad ∧ ∀ W, BoolsAt W b m f → ∀ j u, (boolCells (fun j => f (d + j)) (m - d))[j]? = some u → W.cell? (ad.add j) = some u := by
    by_cases e : c = d
    · rw [if_pos e]
      refine ⟨_, rfl, fun W _ j u hu => ?_⟩
      rw [show m - d = 0 by omega] at hu
      simp [boolCells] at hu
    · rw [if_neg e]
      exact ⟨_, rfl, fun W h => news_at h d (m - d) (by omega)⟩
  obtain ⟨ad, hx1, hx2⟩ := hX
  have HX1 := Lib.hid (congrArg (fun q => Value.slice q (m - d) (c - d)) hx1)
  have HX2 := Lib.hid hx2
  have hone : ∀ (f : Nat → Bool) k, ∀ u ∈ boolCells f k, u.oneCell' = true := fun f k u h => by
    unfold boolCells at h
    obtain ⟨j, _, rfl⟩ := List.mem_map.1 h
    rfl
  have HO := Lib.hid hone
  have hdp : 0 < d := by omega
  clear hB hd hmd hx1 hx2 hone
  go_enter Try.func85, Try.ntmps85
  go_wp2_with fail
  have hbw := HBs.out.lt
  have HW0 := Lib.hid (World.ownsRow_made (base := w.heap.size) (e := 4) (size := 1) w #[] 0 (Nat.le_refl _) (Nat.zero_le _) rfl).drew
  go_region_law
    (first
      | (refine step_append_own_at (by rfl) (.tmp 5) (.tmp 11) _ (by rfl) w.heap.size 4 i0 _ 1 1 Try.underlying77 hi hz0 hz1 hz2 rfl (by omega) (.slice (some ⟨w.heap.size, 0, none⟩) 0 0) 0 [] (by rfl) HW0.out
          ad (m - d) (c - d) (boolCells (fun j => f (d + j)) (m - d)) HX1.out (by rw [boolCells_len]; omega) (HX2.out _ (HBs.out.below ((Below.refl _ _).alloc (Nat.le_refl _) _).drew hbw)) (HO.out _ _) (by unfold maxLen; omega) (by omega) (by simp) ?_; intro v1 w3 hown1 hgrow1 hnil1 hat1; have HN1 := Lib.hid hown1; have HG1 := Lib.hid (((Below.refl w.heap.size w).alloc (Nat.le_refl _) (.cells #[] 4)).drew.grown hgrow1 (by simp) (fun k hk => by simp [Value.ownBlock] at hk; omega)); clear hown1 hgrow1 hnil1 hat1)
      | (refine step_append_lies _ (by rfl) (.tmp 12) (.tmp 18) _ (by rfl) w.heap.size 4 i0 _ 1 1 Try.underlying77 hi hz0 hz1 hz2 rfl (by omega) v1 (0 + (m - d)) ([] ++ boolCells (fun j => f (d + j)) (m - d)) (by rfl) HN1.out
          ⟨b, 0, none⟩ d c (boolCells (fun j => f (0 + j)) d) (by rfl) (by rw [boolCells_len]; omega) (news_at (HBs.out.below HG1.out hbw) 0 d (by omega)) (HO.out _ _) hdp (by unfold maxLen; omega) (by omega) HG1.out.size w3.heap.size (by rfl) ?_; intro g5 cap w5 hown5 hgrow5 hat5 hglt5))
  all_goals
    (have hl : 0 + (m - d) + d = m := by omega
     rw [hl] at hown5
     rw [List.nil_append, HH.out, ← HT.out] at hown5
     have HN5 := Lib.hid hown5
     have HB5 := Lib.hid (HG1.out.grown hgrow5 HG1.out.size (fun k hk => (HN1.out.lt k hk).1))
     clear hl hown5 hgrow5 hat5 hglt5
     go_wp2
     all_goals go_ret
     all_goals exact ⟨g5, cap, rfl, HN5.out, HB5.out⟩)

set_option maxRecDepth 100000 in
set_option maxHeartbeats 4000000 in
theorem refShift_any (n b off c P H : Nat) (xs : List Nat) (w : World) (hv : VAt w b off c n xs) (hP : P < xs.length) (hH : H < n) :
    Calls Try.prog 43 #[.agg #[.int .i64 (n : Int), .slice (some ⟨b, off, none⟩) xs.length c], .int .i64 (P : Int), .int .i64 (H : Int)] w (CopyN (n : Int) (ints (painted (shG xs n P H) xs.length n)) w) := by
  obtain ⟨i0, hi, hz0, hz1, hz2⟩ := info_parts tInfo77
  have l1 := hv.ok.l1
  have l0 := hv.ok.l0
  have n1 := hv.ok.n1
  have HV := Lib.hid hv
  clear hv
  go_enter Try.func43, Try.ntmps43
  go_wp2_with fail
  obtain ⟨W1, hW1e⟩ : ∃ W1, W1 = (w.alloc (.cells #[.int .i64 (n : Int), .slice (some ⟨b, off, none⟩) xs.length c] 24)).alloc (.cells #[.int .i64 0, .slice none 0 0] 24) := ⟨_, rfl⟩
  have hB1 : Below w.heap.size w W1 := by rw [hW1e]; exact below2 w _ _
  have hQ : ResBox W1 (w.heap.size + 1) := by
    rw [hW1e]
    have := ResBox.new (w.alloc (.cells #[.int .i64 (n : Int), .slice (some ⟨b, off, none⟩) xs.length c] 24))
    rwa [World.size_alloc] at this
  have hs1 : W1.heap.size = w.heap.size + 2 := by rw [hW1e]; simp
  rw [← hW1e]
  have HB1 := Lib.hid hB1
  have HQ := Lib.hid hQ
  have Hs1 := Lib.hid hs1
  clear hW1e hB1 hQ hs1
  have hV1 := HV.out.below HB1.out
  have HV1 := Lib.hid hV1
  clear hV1
  refine (Table_own n b off c xs W1 (by omega) (by omega) HV1.out.at' HV1.out.lt HV1.out.ok.lt').mono ?_
  rintro e w2 ⟨g, gc, bs, cs, rfl, hT, hb2⟩
  have HT := Lib.hid hT
  have HB2 := Lib.hid hb2
  clear hT hb2
  go_wp2_with fail
  have hs2 := HB2.out.size
  have hgl2 := HT.out.lt
  go_loopw [8, 9] (fun v i wr => ∃ (k g2 c2 : Nat) (sl : List Value), k ≤ xs.length ∧ i = .int .i64 k ∧ v = .slice (some ⟨g2, 0, none⟩) k c2 ∧ wr.ownsRow w2.heap.size 77 1 (.slice (some ⟨g2, 0, none⟩) k c2) k sl ∧ RowsIn wr (.slice (some ⟨g2, 0, none⟩) k c2) sl k n (shG xs n P H) ∧ Below w2.heap.size w2 wr) (fun _ i _ => xs.length - (intOf i).toNat)
  case atStart =>
    exact ⟨0, w2.heap.size, 0, [], Nat.zero_le _, rfl, rfl, World.ownsRow_made w2 #[] 0 (Nat.le_refl _) (Nat.zero_le _) rfl, fun i hi => by omega, (Below.refl _ _).alloc (Nat.le_refl _) _⟩
  case round =>
    obtain ⟨k, g2, c2, sl, hk, rfl, rfl, hrow, hin, hB⟩ := hrel
    have hTr := HT.out.next hB
    have HTr := Lib.hid hTr
    have HRow := Lib.hid hrow
    have HIn := Lib.hid hin
    have HB := Lib.hid hB
    have hgl := (hrow.lt g2 rfl).2
    have hsr := hB.size
    clear hTr hrow hin hB
    by_cases hlt : k < xs.length
    · obtain ⟨J, hJ⟩ : ∃ J, J = (k + xs.length - P) % xs.length := ⟨_, rfl⟩
      have hJl : J < xs.length := by rw [hJ]; exact Nat.mod_lt _ (by omega)
      have hJe : ((k : Int) + (xs.length : Int) - (P : Int)) % (xs.length : Int) = (J : Int) := by rw [hJ, Int.natCast_emod, show ((k + xs.length - P : Nat) : Int) = (k : Int) + (xs.length : Int) - (P : Int) by omega]
      have hcell := HTr.out.cell J hJl
      have hJ0 : (0 : Int) ≤ (J : Int) := by omega
      have hJ1 : (J : Int) < (xs.length : Int) := by omega
      have HSh := Lib.hid (show (fun j => bitN (nthN xs J) ((j + n - H) % n)) = shG xs n P H k by funext j; unfold shG; rw [← hJ])
      clear hJ
      go_wp2_with fail
      refine (Turned_any (bs J) (cs J) n H (fun j => bitN (nthN xs J) j) wr (by omega) hH (HTr.out.cap J hJl) (own_capmax (HTr.out.r J hJl)) (HTr.out.bools J hJl)).mono ?_
      rintro e w3 ⟨b3, c3, rfl, hr3, hb3⟩
      rw [HSh.out] at hr3
      have HR3 := Lib.hid hr3
      have HB3 := Lib.hid hb3
      have hs3 := hb3.size
      have hsl : sl.length = k := by have := HRow.out.1; omega
      have HSl := Lib.hid hsl
      have hb3l := (hr3.lt b3 rfl).1
      have hb3m := (hr3.lt b3 rfl).2
      clear hr3 hb3 hsl hJe hcell
      go_wp2_with (at_builtin; refine Shut.out ?_)
      unfold Shut
      refine wpList_append_lies _ rfl _ _ 69 rfl w2.heap.size 77 i0 (.slice none 0 0) 1 24 Try.underlying69 hi hz0 hz1 hz2 rfl (by omega) (.slice (some ⟨g2, 0, none⟩) k c2) k sl rfl ((own_below HRow.out HB3.out).alloc _) ⟨w3.heap.size, 0, none⟩ 1 1 [.slice (some ⟨b3, 0, none⟩) n c3] rfl rfl (World.news_of_block (cs := #[.slice (some ⟨b3, 0, none⟩) n c3]) (t := 77) (fr := (0, 0)) (heap_alloc_new w3 _)) (by simp [Value.oneCell']) (by omega) (by unfold maxLen; omega) (by omega) (by simp; omega) (w3.heap.size + 1) (by simp) ?_
      intro g4 cap4 w5 hown1 hgrow hat hglt
      have hX : Below wr.heap.size wr (w3.alloc (.cells #[.slice (some ⟨b3, 0, none⟩) n c3] 77)) := HB3.out.alloc hs3 _
      have hin5 : RowsIn w5 (.slice (some ⟨g4, 0, none⟩) (k + 1) cap4) (sl ++ [.slice (some ⟨b3, 0, none⟩) n c3]) (k + 1) n (shG xs n P H) :=
        (HIn.out.below hX).grow (H := w3.heap.size + 1) HSl.out hgrow ((BoolsAt.of_row HR3.out).below (below_new1 w3 _) hb3m) (by simp [Value.ownBlock]; omega) (hat.imp (fun h => by simpa [Value.ownBlock] using h.symm) (fun h => by simp [Value.ownBlock, h])) (by simp)
      have hB5 : Below w2.heap.size wr w5 := (hX.mono hsr).grown hgrow (by simp; omega) (fun j hj => (HRow.out.lt j hj).1)
      have HR5 := Lib.hid hown1
      have HI5 := Lib.hid hin5
      have HB5 := Lib.hid (HB.out.trans hB5)
      clear hX hin5 hB5 hown1 hgrow hat
      go_wp2
      go_roundw
      case rel => exact ⟨k + 1, g4, cap4, _, by omega, by go_num, rfl, HR5.out, HI5.out, HB5.out⟩
      case measure => simp [intOf]; omega
    · obtain rfl : k = xs.length := by omega
      have HD := Lib.hid (Design_any g2 xs.length n c2 (shG xs n P H) wr HV1.out.ok.l0 (by omega) n1 (TabAt.of_rows HRow.out HIn.out))
      go_wp2_with fail
      refine HD.out.mono ?_
      rintro e w4 ⟨p, cc, rfl, hR4, hp4, hb4⟩
      have HP4 := Lib.hid hp4
      have HB4 := Lib.hid (HB2.out.trans ((HB.out.trans (hb4.mono hsr)).mono hs2))
      have q := HQ.out.below HB4.out (by rw [Hs1.out]; omega)
      have k0 := q.c0
      have k1 := q.c1
      have k2 := q.f 0
      have k3 := q.f 1
      have HR4 := Lib.hid hR4
      clear hb4 q hR4 hp4
      go_wp2_with fail
      have hs : w.heap.size + 2 ≤ wr.heap.size := by have := Hs1.out; omega
      refine bodyPost_ret (v := .agg #[.int .i64 (n : Int), .slice p (ints (painted (shG xs n P H) xs.length n)).length cc]) ?_ rfl ⟨p, cc, rfl, ?_, fun a e => by have := HP4.out a e; omega, ((HB1.out.trans (HB4.out.mono HB1.out.size)).setCell (by simp) _).setCell (by simp) _⟩
      · simp [results, Try.results43, go_sem, k0, k1]
      · exact (HR4.out.set _ _ (fun a e => by have := HP4.out a e; simp; omega)).set _ _ (fun a e => by have := HP4.out a e; simp; omega)
end Go.Proofs.Ytjobbleabepaiaa
