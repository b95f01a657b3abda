/- Floats in memory; the windows of Proof. -/
import Derived.Test.YtdmgffoikebgkaaWJ
import Derived.Test.YtdmgffoikebgkaaWO
namespace Go.Proofs.Ytdmgffoikebgkaa
open Go.RowKit

def nthF (fs : List Fl) (i : Nat) : Fl := fs[i]?.getD ⟨0, 0, 0, false⟩
theorem nthF_get (fs : List Fl) (i : Nat) (h : i < fs.length) : nthF fs i = fs[i] := by simp [nthF, h]
theorem nthF_mem (fs : List Fl) (i : Nat) (h : i < fs.length) : nthF fs i ∈ fs := by rw [nthF_get fs i h]; exact List.getElem_mem _
theorem flCells_get : ∀ (fs : List Fl) (i j : Nat), i < fs.length → j < 4 → (flCells fs)[i * 4 + j]? = (nthF fs i).cells[j]?
  | [], i, j, h, _ => by simp at h
  | f :: fs, 0, j, _, hj => by
    have e : flCells (f :: fs) = f.cells ++ flCells fs := by simp [flCells]
    rw [e, Nat.zero_mul, Nat.zero_add, List.getElem?_append_left (by simpa [Fl.cells] using hj)]
    rfl
  | f :: fs, i + 1, j, h, hj => by
    have e : flCells (f :: fs) = f.cells ++ flCells fs := by simp [flCells]
    have hl : f.cells.length = 4 := rfl
    rw [e, List.getElem?_append_right (by omega), hl, show (i + 1) * 4 + j - 4 = i * 4 + j by omega]
    exact flCells_get fs i j (by simpa using h) hj
/-- the cells of a row of floats -/
structure FlsAt (w : World) (g : Nat) (fs : List Fl) : Prop where
  c0 : ∀ i, i < fs.length → w.cell? ⟨g, i * 4, none⟩ = some (.int .i64 ((nthF fs i).pick : Int))
  c1 : ∀ i, i < fs.length → w.cell? ⟨g, i * 4 + 1, none⟩ = some (.int .i64 ((nthF fs i).hook : Int))
  c2 : ∀ i, i < fs.length → w.cell? ⟨g, i * 4 + 2, none⟩ = some (.int .i64 ((nthF fs i).length : Int))
  c3 : ∀ i, i < fs.length → w.cell? ⟨g, i * 4 + 3, none⟩ = some (.bool (nthF fs i).lifted)
  lt : g < w.heap.size
theorem FlsAt.below {k : Nat} {w w' : World} {g : Nat} {fs : List Fl} (h : FlsAt w g fs) (hb : Below k w w') (hk : g < k) : FlsAt w' g fs :=
  ⟨fun i hi => (hb.cell (p := ⟨g, i * 4, none⟩) hk).trans (h.c0 i hi), fun i hi => (hb.cell (p := ⟨g, i * 4 + 1, none⟩) hk).trans (h.c1 i hi), fun i hi => (hb.cell (p := ⟨g, i * 4 + 2, none⟩) hk).trans (h.c2 i hi), fun i hi => (hb.cell (p := ⟨g, i * 4 + 3, none⟩) hk).trans (h.c3 i hi), Nat.lt_of_lt_of_le h.lt hb.size⟩
/-- a slice of floats that is read -/
def Fls (w : World) (v : Value) (fs : List Fl) : Prop := ∃ p cap, v = .slice p fs.length cap ∧ (0 < fs.length → ∃ g, p = some ⟨g, 0, none⟩ ∧ FlsAt w g fs)
theorem Fls.of_row {w : World} {B : Nat} {v : Value} {fs : List Fl} (h : w.ownsRow B 149 4 v fs.length (flCells fs)) : Fls w v fs := by
  have h0 := h
  obtain ⟨hl, ⟨rfl, hz⟩ | ⟨g, cap, cur, rfl, hg, hh, r⟩⟩ := h
  · exact ⟨none, 0, by rw [hz], fun hp => by omega⟩
  · refine ⟨_, cap, rfl, fun _ => ⟨g, rfl, ?_⟩⟩
    have hc : ∀ i j, i < fs.length → j < 4 → w.cell? ⟨g, i * 4 + j, none⟩ = (nthF fs i).cells[j]? := fun i j hi hj => by
      rw [h0.cellAt (i * 4 + j) (by omega), flCells_get fs i j hi hj]
    refine ⟨fun i hi => hc i 0 hi (by omega), fun i hi => hc i 1 hi (by omega), fun i hi => hc i 2 hi (by omega), fun i hi => hc i 3 hi (by omega), (Array.getElem?_eq_some_iff.1 hh).1⟩

/-- the windows of one float -/
def winTo (n m : Nat) (f : Fl) (k : Nat) : List Fl := (List.range k).map fun a => ⟨f.pick, (f.hook + a * (m + 1)) % n, m + 1, f.lifted⟩
def winOf (n m : Nat) (f : Fl) : List Fl := winTo n m f (min f.length n / (m + 1))
theorem winTo_succ (n m : Nat) (f : Fl) (k : Nat) : winTo n m f (k + 1) = winTo n m f k ++ [⟨f.pick, (f.hook + k * (m + 1)) % n, m + 1, f.lifted⟩] := by simp [winTo, List.range_succ]
def winsTo (n m : Nat) (fs : List Fl) (k : Nat) : List Fl := upTo (fun i => winOf n m (nthF fs i)) k
theorem winsTo_succ (n m : Nat) (fs : List Fl) (k : Nat) : winsTo n m fs (k + 1) = winsTo n m fs k ++ winOf n m (nthF fs k) := upTo_succ _ k
theorem winOf_len (n m : Nat) (f : Fl) (hn : n ≤ 24) : (winOf n m f).length ≤ 24 := by
  have : min f.length n / (m + 1) ≤ min f.length n := Nat.div_le_self _ _
  simp [winOf, winTo]; omega
theorem winsTo_len (n m : Nat) (fs : List Fl) (hn : n ≤ 24) : ∀ k, (winsTo n m fs k).length ≤ k * 24
  | 0 => by simp [winsTo, upTo]
  | k + 1 => by
    have h1 := winsTo_len n m fs hn k
    have h2 := winOf_len n m (nthF fs k) hn
    rw [winsTo_succ, List.length_append]; omega
def proofN (n m : Nat) (xs : List Nat) : List Fl := winsTo n m (upTo (flW n xs m) xs.length) (upTo (flW n xs m) xs.length).length

theorem runsTo_mem {s p k : Nat} {r : Run} (h : r ∈ runsTo s p k) : r.first < k ∧ begins s p r.first = true ∧ r = ⟨r.first, lenF s p r.first, bitN p r.first⟩ := by
  simp only [runsTo, List.mem_map, List.mem_filter, List.mem_range] at h
  obtain ⟨i, ⟨h1, h2⟩, rfl⟩ := h
  exact ⟨h1, h2, rfl⟩
theorem runsOf_mem {s p : Nat} {r : Run} (hs : 0 < s) (hs2 : s ≤ 60) (h : r ∈ runsOf s p) : r.first < s ∧ 1 ≤ r.length ∧ r.length ≤ 1000 := by
  unfold runsOf at h
  split at h
  · simp at h; subst h; exact ⟨hs, by simp, by simp⟩
  · obtain ⟨h1, h2, h3⟩ := runsTo_mem h
    obtain ⟨⟨h4, h5⟩, _⟩ := lenF_spec hs h2 h1
    rw [h3]
    exact ⟨h1, h4, by simp; omega⟩
theorem upTo_mem {f : Nat → List Fl} {k : Nat} {x : Fl} (h : x ∈ upTo f k) : ∃ i, i < k ∧ x ∈ f i := by
  simpa [upTo] using h
theorem flW_mem {n : Nat} {xs : List Nat} {m : Int} {x : Fl} {k : Nat} (hn : 0 < n) (hn2 : n ≤ 24) (h : x ∈ upTo (flW n xs m) k) : x.pick < k ∧ x.hook < n ∧ x.length ≤ 1000 := by
  obtain ⟨i, hi, hx⟩ := upTo_mem h
  simp only [flW, ringFl, List.mem_map, List.mem_filter] at hx
  obtain ⟨r, ⟨hr, _⟩, rfl⟩ := hx
  obtain ⟨h1, _, h3⟩ := runsOf_mem hn (by omega) hr
  exact ⟨hi, h1, h3⟩
theorem flW_all_len (n : Nat) (xs : List Nat) (m : Int) (hn : 0 < n) (hn2 : n ≤ 24) (hl : xs.length ≤ 60) : (upTo (flW n xs m) xs.length).length ≤ 3600 := by
  have := upTo_len (flW n xs m) (fun i => Nat.le_trans (ringFl_len _ _ _) (runsOf_len n (nthN xs i) (by omega) (by omega))) xs.length
  omega

/-- what Proof keeps between two floats -/
structure PAt (w0 : World) (n b off c : Nat) (xs : List Nat) (p : Option Addr) (fs : List Fl) (B : Nat) (v : Value) (ws : List Fl) (W : World) : Prop where
  d : DBox W w0.heap.size n b off c xs
  fl : 0 < fs.length → ∃ g, p = some ⟨g, 0, none⟩ ∧ g < B ∧ FlsAt W g fs
  row : W.ownsRow B 149 4 v ws.length (flCells ws)
  below : Below w0.heap.size w0 W
  lo : w0.heap.size < B
  hi : B ≤ W.heap.size
theorem ownsRow_next {W W' : World} {base e size k : Nat} {v : Value} {xs : List Value} (h : W.ownsRow base e size v k xs) (hb : Below W.heap.size W W') : W'.ownsRow base e size v k xs := by
  obtain ⟨hl, h2⟩ := h
  refine ⟨hl, ?_⟩
  rcases h2 with h2 | ⟨g, cap, cur, e, hg, hh, r⟩
  · exact .inl h2
  · exact .inr ⟨g, cap, cur, e, hg, (hb.block _ (Array.getElem?_eq_some_iff.1 hh).1).trans hh, r⟩
theorem PAt.next {w0 : World} {n b off c : Nat} {xs : List Nat} {p : Option Addr} {fs : List Fl} {B : Nat} {v : Value} {ws : List Fl} {W W' : World} (h : PAt w0 n b off c xs p fs B v ws W) (hb : Below W.heap.size W W') : PAt w0 n b off c xs p fs B v ws W' :=
  ⟨h.d.below hb h.d.lt, fun hp => by obtain ⟨g, e, hg, hf⟩ := h.fl hp; exact ⟨g, e, hg, hf.below hb hf.lt⟩, ownsRow_next h.row hb, h.below.trans (hb.mono h.below.size), h.lo, Nat.le_trans h.hi hb.size⟩
theorem ownsRow_far2 {W : World} {base e size k : Nat} {v : Value} {xs : List Value} (h : W.ownsRow base e size v k xs) {j : Nat} (hj : j < base) : some j ≠ v.ownBlock := by
  obtain ⟨_, ⟨rfl, _⟩ | ⟨g, cap, cur, rfl, hg, _⟩⟩ := h
  · simp [Value.ownBlock]
  · intro hb
    simp [Value.ownBlock] at hb
    omega
theorem PAt.grew {w0 : World} {n b off c : Nat} {xs : List Nat} {p : Option Addr} {fs : List Fl} {B : Nat} {v v' : Value} {ws ws' : List Fl} {W w5 : World} (h : PAt w0 n b off c xs p fs B v ws W) (hg : W.grownBy w5 v.ownBlock)
    (hown : w5.ownsRow B 149 4 v' ws'.length (flCells ws')) : PAt w0 n b off c xs p fs B v' ws' w5 := by
  have hfar : ∀ j, j < B → w5.heap[j]? = W.heap[j]? := fun j hj => hg.block j (Nat.lt_of_lt_of_le hj h.hi) (ownsRow_far2 h.row hj)
  have hbB : Below B W w5 := ⟨hg.os, hg.tape, hg.output, hg.size, hfar⟩
  exact ⟨h.d.below hbB h.lo, fun hp => by obtain ⟨g, e, hg, hf⟩ := h.fl hp; exact ⟨g, e, hg, hf.below hbB hg⟩, hown, h.below.trans (hbB.mono (Nat.le_of_lt h.lo)), h.lo, Nat.le_trans h.hi hg.size⟩
/-- one float in a box -/
def FBox (W : World) (e : Nat) (f : Fl) : Prop := W.heap[e]? = some (.cells #[.int .i64 (f.pick : Int), .int .i64 (f.hook : Int), .int .i64 (f.length : Int), .bool f.lifted] 149 (0, 0))
theorem FBox.c0 {W : World} {e : Nat} {f : Fl} (h : FBox W e f) : W.cell? ⟨e, 0, none⟩ = some (.int .i64 (f.pick : Int)) := by simp [World.cell?, show W.heap[e]? = _ from h]
theorem FBox.c1 {W : World} {e : Nat} {f : Fl} (h : FBox W e f) : W.cell? ⟨e, 1, none⟩ = some (.int .i64 (f.hook : Int)) := by simp [World.cell?, show W.heap[e]? = _ from h]
theorem FBox.c2 {W : World} {e : Nat} {f : Fl} (h : FBox W e f) : W.cell? ⟨e, 2, none⟩ = some (.int .i64 (f.length : Int)) := by simp [World.cell?, show W.heap[e]? = _ from h]
theorem FBox.c3 {W : World} {e : Nat} {f : Fl} (h : FBox W e f) : W.cell? ⟨e, 3, none⟩ = some (.bool f.lifted) := by simp [World.cell?, show W.heap[e]? = _ from h]
theorem FBox.lt {W : World} {e : Nat} {f : Fl} (h : FBox W e f) : e < W.heap.size := (Array.getElem?_eq_some_iff.1 h).1
theorem FBox.new (W : World) (f : Fl) : FBox (W.alloc (.cells #[.int .i64 (f.pick : Int), .int .i64 (f.hook : Int), .int .i64 (f.length : Int), .bool f.lifted] 149)) W.heap.size f := heap_alloc_new W _
end Go.Proofs.Ytdmgffoikebgkaa
