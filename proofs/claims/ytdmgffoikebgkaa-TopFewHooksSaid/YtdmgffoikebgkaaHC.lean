/- The statements' helpers: a byte, rows alike, picks alike, so many ones. -/
import Derived.Test.YtdmgffoikebgkaaHA
import Derived.Test.YtdmgffoikebgkaaCF
import Derived.Deep.QuietTactic
import Derived.BigQuiet
namespace Go.Proofs.Ytdmgffoikebgkaa
open Go.RowKit Go.Shelf
attribute [local go_sem] Oper.semAt_some

/-- the bytes of a row that came in -/
def BytesAt (w : World) (p : Option Addr) (xs : List Nat) : Prop := ∀ b off, p = some ⟨b, off, none⟩ → ∀ i, i < xs.length → w.cell? ⟨b, off + i, none⟩ = some (.int .u8 (nthN xs i : Int))
def ByteRow (w : World) (p : Option Addr) (xs : List Nat) : Prop := 0 < xs.length → ∃ b off, p = some ⟨b, off, none⟩ ∧ b < w.heap.size ∧ ∀ i, i < xs.length → w.cell? ⟨b, off + i, none⟩ = some (.int .u8 (nthN xs i : Int)) ∧ nthN xs i < 256
theorem ByteRow.next {w w' : World} {p : Option Addr} {xs : List Nat} (h : ByteRow w p xs) (hb : Below w.heap.size w w') : ByteRow w' p xs := fun h0 => by
  obtain ⟨b, off, e, hl, hc⟩ := h h0
  exact ⟨b, off, e, Nat.lt_of_lt_of_le hl hb.size, fun i hi => ⟨(hb.cell (p := ⟨b, off + i, none⟩) hl).trans (hc i hi).1, (hc i hi).2⟩⟩
def byteN (xs : List Nat) (i : Nat) : Nat := if xs.length = 0 then 0 else nthN xs (i % xs.length)
set_option maxHeartbeats 1000000 in
theorem armByte_any (p : Option Addr) (c i : Nat) (xs : List Nat) (w : World) (hx : ByteRow w p xs) (hl : xs.length ≤ 9223372036854775807) (hi : i ≤ 1000) :
    Calls Try.prog 98 #[.slice p xs.length c, .int .i64 (i : Int)] w fun e w' => e = .returned (.int .i64 (byteN xs i : Int)) ∧ w = w' := by
  by_cases h0 : xs.length = 0
  · have hd : ((xs.length : Int) == 0) = true := by rw [h0]; rfl
    have Hn := Lib.hid (show byteN xs i = 0 by simp [byteN, h0])
    clear h0 hx
    go_enter Try.func98, Try.ntmps98
    go_wp2
    go_ret
    exact ⟨by rw [Hn.out]; rfl, rfl⟩
  · obtain ⟨b, off, rfl, hb, hc⟩ := hx (by omega)
    have hd : ((xs.length : Int) == 0) = false := by rw [beq_eq_false_iff_ne]; omega
    have hm : i % xs.length < xs.length := Nat.mod_lt _ (by omega)
    obtain ⟨h1, h2⟩ := hc _ hm
    have Hn := Lib.hid (show byteN xs i = nthN xs (i % xs.length) by simp [byteN, h0])
    obtain ⟨x, hx⟩ : ∃ x, nthN xs (i % xs.length) = x := ⟨_, rfl⟩
    rw [hx] at h1 h2 Hn
    obtain ⟨q, hq⟩ : ∃ q, i % xs.length = q := ⟨_, rfl⟩
    have hq2 : (i : Int) % (xs.length : Int) = (q : Int) := by rw [← hq]; exact (Int.natCast_emod i xs.length).symm
    rw [hq] at h1 hm
    have hne : ¬ (xs.length : Int) = 0 := by omega
    clear hx hq hc h0
    go_enter Try.func98, Try.ntmps98
    go_wp2
    go_ret
    exact ⟨ret_int (by rw [Hn.out]), rfl⟩

/-- 'append' onto an empty row that is there already, one after the other -/
structure RoAt (w0 : World) (v : Value) (k : Nat) (W : World) : Prop where
  row : W.ownsRow w0.heap.size 3 1 v k ((List.replicate k 1).map natV)
  b : Below w0.heap.size w0 W
theorem RoAt.grew {w0 W W' : World} {v : Value} {k g5 cap : Nat} (h : RoAt w0 v k W) (hg : Grew w0.heap.size 3 1 W W' v g5 cap (k + 1) ((List.replicate k 1).map natV ++ [.int .i64 1])) :
    RoAt w0 (.slice (some ⟨g5, 0, none⟩) (k + 1) cap) (k + 1) W' := by
  refine ⟨?_, hg.below h.row (Nat.le_refl _) h.b.size h.b⟩
  have := hg.row
  rw [List.replicate_succ', List.map_append]
  exact this
set_option maxHeartbeats 1000000 in
theorem armRound_any (n : Nat) (w : World) (hn : n ≤ 60) :
    Calls Try.prog 101 #[.int .i64 (n : Int), .int .i64 1] w fun e w' =>
      ∃ v, e = .returned v ∧ w'.ownsRow w.heap.size 3 1 v n ((List.replicate n 1).map natV) ∧ Below w.heap.size w w' := by
  have hR0 : RoAt w (.slice (some ⟨w.heap.size, 0, none⟩) 0 0) 0 (w.alloc (.cells #[] 3)) :=
    ⟨⟨by simp, .inr ⟨_, 0, #[], rfl, Nat.le_refl _, World.alloc_heap_new w _, Nat.le_refl _, by decide, by simp, by simp⟩⟩, (Below.refl _ _).alloc (Nat.le_refl _) _⟩
  have HR0 := Lib.hid hR0
  have hmu : (n : Int) * 1 = (n : Int) := by omega
  clear hR0
  go_enter Try.func101, Try.ntmps101
  go_wp2_with fail
  go_loopw [5, 6] (fun v i wr => ∃ k : Nat, k ≤ n ∧ i = .int .i64 k ∧ RoAt w v k wr) (fun _ i _ => n - (intOf i).toNat)
  case atStart => exact ⟨0, Nat.zero_le _, rfl, HR0.out⟩
  case round =>
    obtain ⟨k, hk, rfl, hT⟩ := hrel
    clear HR0
    have HT := Lib.hid hT
    clear hT
    by_cases hlt : k < n
    · go_wp2_with (at_builtin; refine Shut.out ?_)
      unfold Shut
      refine app_one elemInt rfl _ _ rfl w.heap.size u5 k ((List.replicate k 1).map natV) #[.int .i64 1] rfl HT.out.row rfl rfl (by simp [Value.oneCell']) (by omega) (by decide) HT.out.b.size ?_
      intro g5 cap w5 hg
      have HT5 := Lib.hid (HT.out.grew hg)
      clear hg
      go_wp2_with fail
      go_roundw
      case rel => exact ⟨k + 1, by omega, by go_num, HT5.out⟩
      case measure => simp [intOf]; omega
    · obtain rfl : k = n := by omega
      go_wp2_with fail
      go_ret
      exact ⟨u5, rfl, HT.out.row, HT.out.b⟩

theorem take_same {α : Type} {xs ys : List α} {k : Nat} (h1 : k < xs.length) (h2 : k < ys.length) (h : xs.take k = ys.take k) (e : xs[k] = ys[k]) : xs.take (k + 1) = ys.take (k + 1) := by
  rw [List.take_succ_eq_append_getElem h1, List.take_succ_eq_append_getElem h2, h, e]
set_option maxHeartbeats 1000000 in
theorem armSame_any (b1 o1 c1 b2 o2 c2 : Nat) (xs ys : List Nat) (w : World) (hl1 : xs.length ≤ 1000) (_hl2 : ys.length ≤ 1000) (hx : NatsAt w b1 o1 xs) (hy : NatsAt w b2 o2 ys) (hb1 : b1 < w.heap.size) (hb2 : b2 < w.heap.size) :
    Calls Try.prog 102 #[.slice (some ⟨b1, o1, none⟩) xs.length c1, .slice (some ⟨b2, o2, none⟩) ys.length c2] w fun e w' => e = .returned (.bool (decide (xs = ys))) ∧ Below w.heap.size w w' := by
  by_cases hne : xs.length = ys.length
  · have hd : ((xs.length : Int) != (ys.length : Int)) = false := by rw [hne]; simp
    have Hne := Lib.hid hne
    clear hne
    go_enter Try.func102, Try.ntmps102
    go_wp2
    go_loopw [5] (fun i wr => ∃ k : Nat, k ≤ xs.length ∧ i = .int .i64 k ∧ xs.take k = ys.take k ∧ Below w.heap.size w wr) (fun i _ => xs.length - (intOf i).toNat)
    case atStart => exact ⟨0, Nat.zero_le _, rfl, by simp, Below.refl _ _⟩
    case round =>
      obtain ⟨k, hk, rfl, ht, hb⟩ := hrel
      have Ht := Lib.hid ht
      by_cases hlt : k < xs.length
      · have hlt2 : k < ys.length := by rw [← Hne.out]; exact hlt
        have e1 := (hx.below hb hb1) k hlt
        have e2 := (hy.below hb hb2) k hlt2
        have Hb := Lib.hid hb
        clear ht hb
        by_cases hxy : nthN xs k = nthN ys k
        · have hdx : ((nthN xs k : Int) != (nthN ys k : Int)) = false := by rw [hxy]; simp
          have Hst := Lib.hid (take_same hlt hlt2 Ht.out (by rw [← nthN_get xs k hlt, ← nthN_get ys k hlt2]; exact hxy))
          clear hxy
          go_wp2
          go_quiet (fail)
          all_goals go_wp2
          all_goals go_roundw
          all_goals first | (simp [intOf]; omega) | exact ⟨k + 1, by omega, by go_num, Hst.out, Hb.out.trans (below_drewN _ _ _)⟩
        · have hdx : ((nthN xs k : Int) != (nthN ys k : Int)) = true := by rw [bne_iff_ne]; exact fun e => hxy (by omega)
          have Hst := Lib.hid (show ¬ xs = ys from fun e => hxy (by rw [e]))
          clear hxy
          go_wp2
          go_quiet (fail)
          all_goals go_wp2
          all_goals go_ret
          all_goals exact ⟨ret_bool (by simp [Hst.out]), Hb.out.trans (below_drewN _ _ _)⟩
      · have Hb := Lib.hid hb
        have Hst := Lib.hid (show xs = ys by have := Ht.out; rwa [List.take_of_length_le (by omega), List.take_of_length_le (by rw [← Hne.out]; omega)] at this)
        clear ht hb
        go_wp2
        go_ret
        exact ⟨ret_bool (by simp [Hst.out]), Hb.out⟩
  · have hd : ((xs.length : Int) != (ys.length : Int)) = true := by rw [bne_iff_ne]; omega
    have Hst := Lib.hid (show ¬ xs = ys from fun e => hne (by rw [e]))
    clear hne
    go_enter Try.func102, Try.ntmps102
    go_wp2
    go_ret
    exact ⟨ret_bool (by simp [Hst.out]), Below.refl _ _⟩
/-- the cells of a row of strings -/
def nthB (ss : List ByteArray) (i : Nat) : ByteArray := ss[i]?.getD ByteArray.empty
theorem nthB_get (ss : List ByteArray) (i : Nat) (h : i < ss.length) : nthB ss i = ss[i] := by simp [nthB, h]
def StrsAt (w : World) (b off : Nat) (ss : List ByteArray) : Prop := ∀ i, i < ss.length → w.cell? ⟨b, off + i, none⟩ = some (.string (nthB ss i))
theorem StrsAt.below {k : Nat} {w w' : World} {b off : Nat} {ss : List ByteArray} (h : StrsAt w b off ss) (hb : Below k w w') (hl : b < k) : StrsAt w' b off ss :=
  fun i hi => (hb.cell (p := ⟨b, off + i, none⟩) hl).trans (h i hi)
theorem strs_of_row {w : World} {B g n cap : Nat} {ss : List ByteArray} (h : w.ownsRow B 9 1 (.slice (some ⟨g, 0, none⟩) n cap) n (ss.map Value.string)) (_h0 : 0 < n) : StrsAt w g 0 ss ∧ g < w.heap.size ∧ B ≤ g := by
  have h1 := h
  obtain ⟨hl, ⟨h2, _⟩ | ⟨g', cap', cur, e, hg, hh, r⟩⟩ := h
  · simp at h2
  · simp at e
    obtain ⟨rfl, rfl⟩ := e
    refine ⟨fun i hi => ?_, (Array.getElem?_eq_some_iff.1 hh).1, hg⟩
    rw [Nat.zero_add, h1.cellAt i (by simp at hl; omega), nthB_get _ _ hi]
    simp [hi]
set_option maxHeartbeats 1000000 in
/-- two clothes that are alike -/
theorem armLike_eq (b1 o1 c1 b2 o2 c2 : Nat) (xs : List ByteArray) (w : World) (hl1 : xs.length ≤ 1000) (hx : StrsAt w b1 o1 xs) (hy : StrsAt w b2 o2 xs) (hb1 : b1 < w.heap.size) (hb2 : b2 < w.heap.size) :
    Calls Try.prog 103 #[.slice (some ⟨b1, o1, none⟩) xs.length c1, .slice (some ⟨b2, o2, none⟩) xs.length c2] w fun e w' => e = .returned (.bool true) ∧ Below w.heap.size w w' := by
  go_enter Try.func103, Try.ntmps103
  go_wp2
  go_loopw [5] (fun i wr => ∃ k : Nat, k ≤ xs.length ∧ i = .int .i64 k ∧ Below w.heap.size w wr) (fun i _ => xs.length - (intOf i).toNat)
  case atStart => exact ⟨0, Nat.zero_le _, rfl, Below.refl _ _⟩
  case round =>
    obtain ⟨k, hk, rfl, hb⟩ := hrel
    by_cases hlt : k < xs.length
    · have e1 := (hx.below hb hb1) k hlt
      have e2 := (hy.below hb hb2) k hlt
      have Hb := Lib.hid hb
      clear hb
      go_wp2
      go_quiet (fail)
      all_goals go_wp2
      all_goals go_roundw
      all_goals first | (simp [intOf]; omega) | exact ⟨k + 1, by omega, by go_num, Hb.out.trans (below_drewN _ _ _)⟩
    · have Hb := Lib.hid hb
      clear hb
      go_wp2
      go_ret
      exact ⟨rfl, Hb.out⟩
end Go.Proofs.Ytdmgffoikebgkaa
