/- Chains: cards in memory; Check of a chain that is valid; what lies on a row of cards. -/
import Derived.Test.YtdmgffoikebgkaaTb01
import Derived.Test.YtdmgffoikebgkaaTb02
import Derived.Test.YtdmgffoikebgkaaTb03
import Derived.Test.YtdmgffoikebgkaaTb04
import Derived.Test.YtdmgffoikebgkaaTb05
import Derived.Test.YtdmgffoikebgkaaTb06
import Derived.Test.YtdmgffoikebgkaaTb07
import Derived.Test.YtdmgffoikebgkaaTb08
import Derived.Test.YtdmgffoikebgkaaTb09
import Derived.Test.YtdmgffoikebgkaaTb10
import Derived.Test.YtdmgffoikebgkaaTb11
import Derived.Test.YtdmgffoikebgkaaTb12
import Derived.Test.YtdmgffoikebgkaaTb13
import Derived.Test.YtdmgffoikebgkaaTb14
import Derived.Test.YtdmgffoikebgkaaTb15
import Derived.Test.YtdmgffoikebgkaaTb16
import Derived.Test.YtdmgffoikebgkaaTb17
import Derived.Test.YtdmgffoikebgkaaTb18
import Derived.Test.YtdmgffoikebgkaaTb19
import Derived.Test.YtdmgffoikebgkaaTb20
import Derived.Laws.IdiomStrings
namespace Go.Proofs.Ytdmgffoikebgkaa
open Go.RowKit

/-- a card -/
structure Card where
  num : Nat
  row : Nat
  turned : Bool
deriving DecidableEq, Repr
def Card.cells (c : Card) : List Value := [.int .i64 (c.num : Int), .int .i64 (c.row : Int), .bool c.turned]
def Card.enc (c : Card) : Value := .agg #[.int .i64 (c.num : Int), .int .i64 (c.row : Int), .bool c.turned]
def nthC (cs : List Card) (i : Nat) : Card := cs[i]?.getD ⟨0, 0, false⟩
end Go.Proofs.Ytdmgffoikebgkaa
/- numbered, of a chain that has a number of its own for each card. -/
namespace Go.Proofs.Ytdmgffoikebgkaa
open Go.RowKit Go.Shelf

/-- each card has a number of its own -/
def Apart (cs : List Card) : Prop := ∀ i j, i < cs.length → j < cs.length → (nthC cs i).num = (nthC cs j).num → i = j
end Go.Proofs.Ytdmgffoikebgkaa
/- Regions that draw their order, read, make boxes, call what only adds to memory, and store into the boxes that they made: each operation once, whatever was done before. -/
namespace Go.Proofs.Ytdmgffoikebgkaa
open Go.RowKit Go.Shelf

section
variable {R : RSp} {w : World} {ops : Array Oper} {L : Array Bool} {v : Nat → Value} {hs : Nat → Hd} {W W' : World} {i r : Nat} {o : Oper}
end
/-- the same for 'len' -/
def IsOpL (ops : Array Oper) (i : Nat) (dst : Option Nat) (op : Op) (g : Option (Nat × Bool)) (deps : List Nat) : Prop :=
  ∃ pos aft, ops[i]? = some ⟨dst, op, 3, pos, aft, g⟩ ∧ deps.all (depB ⟨dst, op, 3, pos, aft, g⟩) = true
end Go.Proofs.Ytdmgffoikebgkaa
/- Chapter 3: used hooks; equal designs and equal cloths. -/
namespace Go.Proofs.Ytdmgffoikebgkaa
open Go.RowKit Go.Shelf
attribute [local go_sem] Oper.semAt_some

set_option maxRecDepth 100000 in
set_option maxHeartbeats 1000000 in
theorem tieSame_ok (L b c b2 c2 : Nat) (ss : List ByteArray) (w : World) (hL : ss.length = L) (hl : L ≤ 1000) (h1 : StrsAt w b 0 ss) (h3 : StrsAt w b2 0 ss) :
    Calls Try.prog 68 #[.slice (some ⟨b, 0, none⟩) L c, .slice (some ⟨b2, 0, none⟩) L c2] w fun e w' => e = .returned (.bool true) ∧ Below w.heap.size w w' := by
  have H1 := Lib.hid h1
  have H3 := Lib.hid h3
  have HL := Lib.hid hL
  clear h1 h3 hL
  go_enter Try.func68, Try.ntmps68
  go_wp2_with fail
  go_loopw [5] (fun i wr => ∃ k : Nat, k ≤ L ∧ i = .int .i64 (k : Int) ∧ Below w.heap.size w wr ∧ StrsAt wr b 0 ss ∧ StrsAt wr b2 0 ss) (fun i _ => L - (intOf i).toNat)
  case atStart => exact ⟨0, Nat.zero_le _, rfl, Below.refl _ _, H1.out, H3.out⟩
  case round =>
    obtain ⟨k, hk, rfl, hb, h1, h3⟩ := hrel
    by_cases hlt : k < L
    · have hc1 := h1 k (by rw [HL.out]; exact hlt)
      have hc3 := h3 k (by rw [HL.out]; exact hlt)
      rw [Nat.zero_add] at hc1 hc3
      have Hr := Lib.hid (And.intro hb (And.intro h1 h3))
      obtain ⟨s, hs⟩ : ∃ s, nthB ss k = s := ⟨_, rfl⟩
      rw [hs] at hc1 hc3
      clear hb h1 h3 hs
      go_wp2_with fail
      go_region
      all_goals
        (go_wp2_with fail
         exact ⟨⟨k + 1, by omega, by go_num, Hr.out.1.drew, Hr.out.2⟩, by simp [intOf]; omega⟩)
    · obtain rfl : k = L := by omega
      have Hb := Lib.hid hb
      go_wp2_with fail
      go_ret
      exact ⟨rfl, Hb.out⟩
end Go.Proofs.Ytdmgffoikebgkaa
/- TieThreads: its regions that draw their order. -/
namespace Go.Proofs.Ytdmgffoikebgkaa
open Go.RowKit Go.Shelf
attribute [local go_sem] Oper.semAt_some

/-- the strings of a cloth -/
structure ClS (ss : List ByteArray) (n : Nat) (ps : List Nat) : Prop where
  len : ss.length = ps.length
  str : ∀ i, i < ps.length → StrB (nthB ss i) n (nthN ps i)
theorem ClS.at {ss : List ByteArray} {n : Nat} {ps : List Nat} {W : World} {b : Nat} (h : ClS ss n ps) (hx : StrsAt W b 0 ss) (hb : b < W.heap.size) : ClAt W b 0 n ps :=
  ⟨fun i hi => ⟨_, h.str i hi, hx i (by rw [h.len]; exact hi)⟩, hb⟩
theorem tat_of {W : World} {N T b : Nat} {HS : List Nat} (hT : HS.length = T) (hT0 : 1 ≤ T) (hT1 : T ≤ 96) (hN0 : 1 ≤ N) (hN1 : N ≤ 24) (hk : ∀ i, i < T → nthN HS i < N) (h1 : NatsAt W b 0 HS) (h2 : b < W.heap.size) : TAt W b 0 N HS := by
  subst hT
  exact ⟨h1, h2, hN0, hN1, hT0, hT1, hk⟩
end Go.Proofs.Ytdmgffoikebgkaa
/- TieThreads: its mathematics. -/
namespace Go.Proofs.Ytdmgffoikebgkaa
open Go.RowKit Go.Shelf
attribute [local go_sem] Oper.semAt_some

theorem cloth_ClS (hs xs : List Nat) (h0 : 1 ≤ hs.length) (h1 : hs.length ≤ 96) : ClS (clothS hs xs) hs.length (pks hs xs) := by
  refine ⟨by rw [clothS_len, pks_len], fun i hi => ?_⟩
  rw [pks_len] at hi
  rw [clothS_nth _ _ _ hi, pks_nth _ _ hi]
  exact pick_strB hs _ h0 h1
end Go.Proofs.Ytdmgffoikebgkaa
/- TieThreads: rows that can be written. -/
namespace Go.Proofs.Ytdmgffoikebgkaa
open Go.RowKit Go.Shelf
attribute [local go_sem] Oper.semAt_some

theorem NatRow.at {W : World} {g : Nat} {xs : List Nat} (h : NatRow W g xs) {B j : Nat} (v : Value) (hne : g ≠ B) : NatRow (W.setCell ⟨B, j, none⟩ v) g xs := by
  obtain ⟨cur, h1, h2⟩ := h
  exact ⟨cur, (Below.heap_setCell W ⟨B, j, none⟩ v g hne).trans h1, h2⟩
end Go.Proofs.Ytdmgffoikebgkaa
/- TieThreads, TieFew, TieBound: what lies in memory. -/
namespace Go.Proofs.Ytdmgffoikebgkaa
open Go.RowKit Go.Shelf
attribute [local go_sem] Oper.semAt_some

theorem hsTo_nthT (n : Nat) (ws : List Nat) (k i : Nat) (hn : 1 ≤ n) (hi : i < k) : nthN (hsTo n ws k) i < n := by
  rw [nthN_get _ _ (by rw [hsTo_len]; exact hi)]
  simp only [hsTo, List.getElem_map, List.getElem_range, hsG]
  split
  · exact Nat.mod_lt _ (by omega)
  · omega
/-- the harness and the design in memory -/
structure TtS (w : World) (P D g2 q2 E gh qh N L T : Nat) (A0 A1 : Nat) (DS HS : List Nat) (W : World) : Prop where
  p : BoxAt W P #[.int .u8 (A0 : Int), .int .u8 (A1 : Int)] 93
  d : BoxAt W D #[.int .i64 (N : Int), .slice (some ⟨g2, 0, none⟩) L q2] 37
  e : BoxAt W E #[.int .i64 (N : Int), .slice (some ⟨gh, 0, none⟩) T qh] 26
  nd : NatsAt W g2 0 DS
  l2 : g2 < W.heap.size
  nh : NatsAt W gh 0 HS
  lh : gh < W.heap.size
  b : Below w.heap.size w W
theorem TtS.next {w W W' : World} {P D g2 q2 E gh qh N L T A0 A1 : Nat} {DS HS : List Nat} (h : TtS w P D g2 q2 E gh qh N L T A0 A1 DS HS W) (hb : Below W.heap.size W W') : TtS w P D g2 q2 E gh qh N L T A0 A1 DS HS W' :=
  ⟨h.p.next hb, h.d.next hb, h.e.next hb, h.nd.below hb h.l2, Nat.lt_of_lt_of_le h.l2 hb.size, h.nh.below hb h.lh, Nat.lt_of_lt_of_le h.lh hb.size, h.b.trans (hb.mono h.b.size)⟩
theorem TtS.set {w W : World} {P D g2 q2 E gh qh N L T A0 A1 : Nat} {DS HS : List Nat} (h : TtS w P D g2 q2 E gh qh N L T A0 A1 DS HS W) {B j : Nat} (v : Value) (hB : w.heap.size ≤ B) (h1 : P < B) (h2 : D < B) (h3 : E < B) (h4 : g2 < B) (h5 : gh < B) : TtS w P D g2 q2 E gh qh N L T A0 A1 DS HS (W.setCell ⟨B, j, none⟩ v) :=
  ⟨h.p.other _ _ (by show P ≠ B; omega), h.d.other _ _ (by show D ≠ B; omega), h.e.other _ _ (by show E ≠ B; omega),
   fun i hi => (World.cell?_of_block (w := W) (Below.heap_setCell W ⟨B, j, none⟩ v g2 (by show g2 ≠ B; omega))).trans (h.nd i hi), by simpa using h.l2,
   fun i hi => (World.cell?_of_block (w := W) (Below.heap_setCell W ⟨B, j, none⟩ v gh (by show gh ≠ B; omega))).trans (h.nh i hi), by simpa using h.lh, h.b.setCell hB _⟩
theorem TtS.drew {w W : World} {P D g2 q2 E gh qh N L T A0 A1 : Nat} {DS HS : List Nat} (h : TtS w P D g2 q2 E gh qh N L T A0 A1 DS HS W) : TtS w P D g2 q2 E gh qh N L T A0 A1 DS HS W.drew := ⟨h.p, h.d, h.e, h.nd, h.l2, h.nh, h.lh, h.b.drew⟩
theorem call28w (n L b c : Nat) (xs : List Nat) (W : World) (hL : xs.length = L) (h0 : 0 < L) (h1 : L ≤ 96) (hx : NatsAt W b 0 xs) (hb : b < W.heap.size) :
    Calls Try.prog 28 #[.agg #[.int .i64 (n : Int), .slice (some ⟨b, 0, none⟩) L c]] W fun e w' =>
      ∃ g cap, e = .returned (.agg #[.int .i64 (n : Int), .slice (some ⟨g, 0, none⟩) L cap]) ∧ NatRow w' g xs ∧ W.heap.size ≤ g ∧ g < w'.heap.size ∧ Below W.heap.size W w' := by
  subst hL
  refine (tieOwn_ok n b c xs W h0 (by omega) hx hb).mono ?_
  rintro e w' ⟨g, cap, rfl, h1, h2⟩
  obtain ⟨a1, a2, a3⟩ := nats_of_row h1 (by omega)
  exact ⟨g, cap, rfl, NatRow.of_row h1 (by omega), by omega, a2, h2⟩
end Go.Proofs.Ytdmgffoikebgkaa
/- Arguments that come in: a loom of chapter 3, an array of two bytes. -/
namespace Go.Proofs.Ytdmgffoikebgkaa
open Go.ChangeShapes Go.WideShapes Go.ChangeAt Go.RowKit Go.Joins

set_option maxRecDepth 100000 in
/-- a loom of chapter 3 that came in -/
theorem lom_open {Ty : Type} {enc : TypeId × Value → Ty} {W : World} {v : Value} {d : DataW Ty} {p : List MemPlace} (hv : Value.okWide Try.prog W .any 0 92 v) (h : DataW.Trod enc Try.prog W 0 (fun _ => true) true 92 v d p) :
    ∃ (H : Nat) (p1 p2 : Option Addr) (c1 c2 : Nat) (ws rs : List Nat), v = .agg (lomA H p1 p2 ws.length c1 rs.length c2) ∧ H < 256 ∧ ByteRow W p1 ws ∧ WordRow W p2 rs ∧
      ws.length ≤ 9223372036854775807 ∧ rs.length ≤ 9223372036854775807 := by
  obtain ⟨k0, k1, k2, y0, y1, y2, m, rfl, rfl, rfl, h0, h1, h2⟩ := open_agg3 Try.underlying92 (by kernel_rfl) (by kernel_rfl) hv h
  obtain ⟨a, e0, rfl, wa⟩ := DataW.trod_int Try.underlying5 h0
  simp at e0
  subst e0
  obtain ⟨H, rfl, hH⟩ := u8_of wa
  obtain ⟨p1, c1, ws, rfl, hw1, hl1⟩ := u8s_of_trod h1
  obtain ⟨p2, c2, rs, rfl, hw2, hl2⟩ := u16s_of_trod h2
  exact ⟨H, p1, p2, c1, c2, ws, rs, rfl, hH, hw1, hw2, hl1, hl2⟩

set_option maxRecDepth 100000 in
/-- an array of two bytes that came in -/
theorem pair_open {Ty : Type} {enc : TypeId × Value → Ty} {W : World} {b0 : Nat} {v : Value} {d : DataW Ty} {p : List MemPlace} (hv : Value.okWide Try.prog W .any b0 93 v) (h : DataW.Trod enc Try.prog W 0 (fun _ => true) true 93 v d p) :
    ∃ x y : Nat, v = .agg #[.int .u8 (x : Int), .int .u8 (y : Int)] ∧ x < 256 ∧ y < 256 := by
  have hu : Try.prog.underlying 93 = some (.array 2 5) := by kernel_rfl
  have hc : Try.prog.cellsOf 93 = 2 := by kernel_rfl
  have h5 : Try.prog.cellsOf 5 = 1 := by kernel_rfl
  simp only [Value.okWide, hu] at hv
  obtain ⟨cs, rfl, h2, _⟩ := hv
  rw [hc] at h2
  obtain ⟨a, b, rfl⟩ : ∃ a b, cs = #[a, b] := by
    match cs, h2 with
    | ⟨[a, b]⟩, _ => exact ⟨a, b, rfl⟩
  obtain ⟨fuel, hf⟩ := h
  obtain ⟨xs, m, rfl, _, _, hn, he⟩ := DataW.trod_array hu hf
  have e0 := he 0 (by omega)
  have e1 := he 1 (by omega)
  rw [h5, List.getElem?_eq_getElem (by omega)] at e0 e1
  obtain ⟨x, ex, _, wx⟩ := DataW.trod_int Try.underlying5 e0
  obtain ⟨y, ey, _, wy⟩ := DataW.trod_int Try.underlying5 e1
  simp [Value.cells] at ex ey
  subst ex ey
  obtain ⟨x', rfl, hx⟩ := u8_of wx
  obtain ⟨y', rfl, hy⟩ := u8_of wy
  exact ⟨x', y', rfl, hx, hy⟩
end Go.Proofs.Ytdmgffoikebgkaa
/- TieFew: its mathematics. -/
namespace Go.Proofs.Ytdmgffoikebgkaa
open Go.RowKit Go.Shelf

theorem cnt_first {κ : Type} [DecidableEq κ] (key : Nat → κ) {h : Nat} : ∀ n, h < cntF key n → ∃ o, o < n ∧ fstI key o = o ∧ cntF key o = h
  | 0, hh => by simp [cntF] at hh
  | n + 1, hh => by
    by_cases h1 : h < cntF key n
    · obtain ⟨o, a, b, c⟩ := cnt_first key n h1
      exact ⟨o, by omega, b, c⟩
    · by_cases hf : fstI key n = n
      · have : cntF key (n + 1) = cntF key n + 1 := by simp [cntF, hf]
        exact ⟨n, by omega, hf, by omega⟩
      · have : cntF key (n + 1) = cntF key n := by simp [cntF, hf]
        omega
theorem few_first {ps : List Nat} {n h : Nat} (hh : h < cntF (colL ps) n) : ∃ o, firstH (fewL ps n) h = some o ∧ o < n ∧ fstI (colL ps) o = o ∧ cntF (colL ps) o = h := by
  obtain ⟨o, ho, hf, hc⟩ := cnt_first (colL ps) n hh
  have hfo : nthN (fewL ps n) o = h := by rw [fewL_nth _ ho]; unfold fewH; rw [hf]; exact hc
  obtain ⟨o', h1, h2, h3, h4⟩ := firstH_some (hs := fewL ps n) (k := o) (by rw [fewL_len]; exact ho)
  rw [hfo] at h1
  have e : o' = o := by
    rw [fewL_nth _ (by omega), fewL_nth _ ho] at h3
    have := fstI_eq (fewH_inj h3)
    have h5 := fstI_le (key := colL ps) o'
    omega
  subst e
  exact ⟨o', h1, ho, hf, hc⟩
theorem apL_nth (hs : List Nat) {k h : Nat} (hh : h < k) : nthN (apL hs k) h = (firstH hs h).getD 0 := by simp [apL, nthN, hh]
theorem ap_nth {ps : List Nat} {n M h : Nat} (hM : cntF (colL ps) n = M) (hh : h < M) : nthN (apL (fewL ps n) M) h < n ∧ fstI (colL ps) (nthN (apL (fewL ps n) M) h) = nthN (apL (fewL ps n) M) h ∧ cntF (colL ps) (nthN (apL (fewL ps n) M) h) = h := by
  subst hM
  obtain ⟨o, h1, h2, h3, h4⟩ := few_first hh
  rw [apL_nth _ hh, h1]
  exact ⟨h2, h3, h4⟩
theorem ap_asc {ps : List Nat} {n M h h' : Nat} (hM : cntF (colL ps) n = M) (hh : h < h') (hh' : h' < M) : nthN (apL (fewL ps n) M) h < nthN (apL (fewL ps n) M) h' := by
  have a := ap_nth hM (show h < M by omega)
  have b := ap_nth hM hh'
  rcases Nat.lt_or_ge (nthN (apL (fewL ps n) M) h) (nthN (apL (fewL ps n) M) h') with c | c
  · exact c
  · have := cntF_mono (key := colL ps) c
    omega
theorem ap_col {ps : List Nat} {n M h h' : Nat} (hM : cntF (colL ps) n = M) (hh : h < M) (hh' : h' < M) (hne : h ≠ h') : colL ps (nthN (apL (fewL ps n) M) h) ≠ colL ps (nthN (apL (fewL ps n) M) h') := fun e => by
  have a := ap_nth hM hh
  have b := ap_nth hM hh'
  have := fstI_eq e
  rw [a.2.1, b.2.1] at this
  rw [this] at a
  omega
/-- whether two warps differ at some of the first picks -/
def difB (ps : List Nat) (a b : Nat) : Nat → Bool
  | 0 => false
  | p + 1 => difB ps a b p || (bitN (nthN ps p) a != bitN (nthN ps p) b)
theorem difB_false {ps : List Nat} {a b : Nat} : ∀ k, difB ps a b k = false → ∀ i, i < k → bitN (nthN ps i) a = bitN (nthN ps i) b
  | 0, _, i, hi => by omega
  | k + 1, h, i, hi => by
    rw [difB, Bool.or_eq_false_iff] at h
    by_cases e : i = k
    · subst e; simpa using h.2
    · exact difB_false k h.1 i (by omega)
theorem difB_col {ps : List Nat} {a b : Nat} (h : colL ps a ≠ colL ps b) : difB ps a b ps.length = true := by
  cases e : difB ps a b ps.length with
  | true => rfl
  | false => exact (h (colL_iff.2 (difB_false _ e))).elim
/-- two hooks made one -/
def mrgL (hs : List Nat) (a b k : Nat) : List Nat := (List.range hs.length).map fun i => if i < k ∧ nthN hs i = b then a else nthN hs i
theorem mrgL_len (hs : List Nat) (a b k : Nat) : (mrgL hs a b k).length = hs.length := by simp [mrgL]
theorem mrgL_nth (hs : List Nat) (a b k : Nat) {i : Nat} (hi : i < hs.length) : nthN (mrgL hs a b k) i = if i < k ∧ nthN hs i = b then a else nthN hs i := by
  rw [nthN_get _ _ (by rw [mrgL_len]; exact hi)]; simp [mrgL]
theorem list_nthF {l l' : List Nat} (hl : l.length = l'.length) (h : ∀ i, i < l.length → nthN l i = nthN l' i) : l = l' :=
  List.ext_getElem hl fun i h1 h2 => by rw [← nthN_get _ _ h1, ← nthN_get _ _ h2]; exact h i h1
theorem mrgL_zero (hs : List Nat) (a b : Nat) : mrgL hs a b 0 = hs := list_nthF (mrgL_len _ _ _ _) fun i hi => by
  rw [mrgL_nth _ _ _ _ (by rw [mrgL_len] at hi; exact hi), if_neg (by omega)]
theorem mrgL_same (hs : List Nat) {a b k : Nat} (h : nthN hs k ≠ b) : mrgL hs a b k = mrgL hs a b (k + 1) := list_nthF (by rw [mrgL_len, mrgL_len]) fun i hi => by
  rw [mrgL_len] at hi
  rw [mrgL_nth _ _ _ _ hi, mrgL_nth _ _ _ _ hi]
  by_cases e : i = k
  · subst e; rw [if_neg (by omega), if_neg (fun x => h x.2)]
  · by_cases c : i < k ∧ nthN hs i = b
    · rw [if_pos c, if_pos ⟨by omega, c.2⟩]
    · rw [if_neg c, if_neg (fun x => c ⟨by omega, x.2⟩)]
theorem mrgL_set (hs : List Nat) {a b k : Nat} (hk : k < hs.length) (h : nthN hs k = b) : (mrgL hs a b k).set k a = mrgL hs a b (k + 1) := list_nthF (by rw [List.length_set, mrgL_len, mrgL_len]) fun i hi => by
  rw [List.length_set, mrgL_len] at hi
  rw [nthN_set _ _ _ _ (by rw [mrgL_len]; exact hk), mrgL_nth _ _ _ _ hi, mrgL_nth _ _ _ _ hi]
  by_cases e : i = k
  · subst e; rw [if_pos rfl, if_pos ⟨by omega, h⟩]
  · rw [if_neg e]
    by_cases c : i < k ∧ nthN hs i = b
    · rw [if_pos c, if_pos ⟨by omega, c.2⟩]
    · rw [if_neg c, if_neg (fun x => c ⟨by omega, x.2⟩)]
theorem mrg_part {ps : List Nat} {n M a b : Nat} (hM : cntF (colL ps) n = M) (ha : a < M) (hb : b < M) (hab : a ≠ b) : ¬ NoPart (mrgL (fewL ps n) a b n) ps := fun hn => by
  have A := ap_nth hM ha
  have B := ap_nth hM hb
  have C := ap_col hM ha hb hab
  obtain ⟨x, hx⟩ : ∃ x, nthN (apL (fewL ps n) M) a = x := ⟨_, rfl⟩
  obtain ⟨y, hy⟩ : ∃ y, nthN (apL (fewL ps n) M) b = y := ⟨_, rfl⟩
  rw [hx] at A C
  rw [hy] at B C
  have fx : nthN (fewL ps n) x = a := by rw [fewL_nth _ A.1]; unfold fewH; rw [A.2.1]; exact A.2.2
  have fy : nthN (fewL ps n) y = b := by rw [fewL_nth _ B.1]; unfold fewH; rw [B.2.1]; exact B.2.2
  have mx : nthN (mrgL (fewL ps n) a b n) x = a := by rw [mrgL_nth _ _ _ _ (by rw [fewL_len]; exact A.1), fx, if_neg (fun c => hab c.2)]
  have my : nthN (mrgL (fewL ps n) a b n) y = a := by rw [mrgL_nth _ _ _ _ (by rw [fewL_len]; exact B.1), fy, if_pos ⟨B.1, rfl⟩]
  have hf : fstI (nthN (mrgL (fewL ps n) a b n)) x = fstI (nthN (mrgL (fewL ps n) a b n)) y := fstI_eq (by rw [mx, my])
  refine C (colL_iff.2 fun i hi => ?_)
  have h1 := hn i x hi (by rw [mrgL_len, fewL_len]; exact A.1)
  have h2 := hn i y hi (by rw [mrgL_len, fewL_len]; exact B.1)
  unfold Like2 at h1 h2
  rw [h1, h2, hf]
theorem mrg_lt {ps : List Nat} {n M a b k : Nat} (hM : cntF (colL ps) n = M) (ha : a < M) {i : Nat} (hi : i < n) : nthN (mrgL (fewL ps n) a b k) i < M := by
  rw [mrgL_nth _ _ _ _ (by rw [fewL_len]; exact hi)]
  split
  · exact ha
  · rw [fewL_nth _ hi, ← hM]; exact fewH_lt hi
end Go.Proofs.Ytdmgffoikebgkaa
