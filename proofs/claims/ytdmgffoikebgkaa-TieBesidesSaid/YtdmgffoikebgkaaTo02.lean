/- Chapter 3: Repeat and Mirrors of any harness; harnesses compared; none; too large. -/
import Derived.Deep.DeepCutAuto
import Derived.Deep.QuietTactic
import Derived.BigQuiet
import Derived.Test.YtdmgffoikebgkaaTb01
import Derived.Test.YtdmgffoikebgkaaTb02
import Derived.Test.YtdmgffoikebgkaaTb03
import Derived.Test.YtdmgffoikebgkaaTb04
import Derived.Test.YtdmgffoikebgkaaTb05
import Derived.Test.YtdmgffoikebgkaaTb06
import Derived.Test.YtdmgffoikebgkaaTb07
import Derived.Test.YtdmgffoikebgkaaTb08
import Derived.Test.YtdmgffoikebgkaaTb09
import Derived.Test.YtdmgffoikebgkaaTb10
import Derived.Test.YtdmgffoikebgkaaTb11
import Derived.Test.YtdmgffoikebgkaaTb12
import Derived.Test.YtdmgffoikebgkaaTb13
import Derived.Test.YtdmgffoikebgkaaTb14
import Derived.Test.YtdmgffoikebgkaaTb15
import Derived.Test.YtdmgffoikebgkaaTb16
import Derived.Test.YtdmgffoikebgkaaTb17
import Derived.Test.YtdmgffoikebgkaaTb18
import Derived.Test.YtdmgffoikebgkaaTb19
import Derived.Test.YtdmgffoikebgkaaTb20
import Derived.Test.YtdmgffoikebgkaaTo01
namespace Go.Proofs.Ytdmgffoikebgkaa
open Go.RowKit Go.Shelf
attribute [local go_sem] Oper.semAt_some

/-- the hooks of a valid harness -/
def hkN (xs : List Int) : List Nat := xs.map Int.toNat
theorem hkN_len (xs : List Int) : (hkN xs).length = xs.length := by simp [hkN]
theorem hkN_nth {h : Int} {xs : List Int} (hc : chkT h xs = 0) {i : Nat} (hi : i < xs.length) : nthI xs i = (nthN (hkN xs) i : Int) ∧ (nthN (hkN xs) i : Int) < h := by
  obtain ⟨_, _, _, _, hf⟩ := chkT_ok hc
  unfold frB at hf
  rw [List.all_eq_true] at hf
  have := hf _ (nthI_mem xs i hi)
  simp at this
  have e : nthN (hkN xs) i = (nthI xs i).toNat := by simp [nthN, hkN, nthI, hi]
  rw [e]
  omega
theorem hkN_tat {h : Int} {xs : List Int} {b off : Nat} {W : World} (hc : chkT h xs = 0) (hx : IntsAt W b off xs) (hb : b < W.heap.size) : TAt W b off h.toNat (hkN xs) := by
  obtain ⟨h1, h2, h3, h4, _⟩ := chkT_ok hc
  refine ⟨fun i hi => ?_, hb, by omega, by omega, by rw [hkN_len]; omega, by rw [hkN_len]; exact h4, fun i hi => ?_⟩
  · rw [hkN_len] at hi
    rw [hx i hi, (hkN_nth hc hi).1]
  · rw [hkN_len] at hi
    have := (hkN_nth hc hi).2
    omega
def RepA (h : Int) (xs : List Int) (e : Ending) : Prop := (chkT h xs ≠ 0 ∧ e = .returned (.tuple #[.int .i64 0, .int .i64 (chkT h xs)])) ∨ (chkT h xs = 0 ∧ ∃ p : Nat, RepP (hkN xs) p ∧ e = .returned (.tuple #[.int .i64 (p : Int), .int .i64 0]))
def MirA (h : Int) (xs : List Int) (e : Ending) : Prop := (chkT h xs ≠ 0 ∧ e = .returned (.tuple #[.int .i64 0, .int .i64 (chkT h xs)])) ∨ (chkT h xs = 0 ∧ MirR (hkN xs) e)
set_option maxHeartbeats 1000000 in
theorem Repeat_any (h : Int) (p : Option Addr) (c : Nat) (xs : List Int) (w : World) (hr : Reads w (.slice p xs.length c) xs) :
    Calls Try.prog 31 #[.agg #[.int .i64 h, .slice p xs.length c]] w fun e w' => RepA h xs e ∧ Below w.heap.size w w' := by
  by_cases he : chkT h xs = 0
  · have hok := chkT_ok he
    obtain ⟨p', c', hv, _, hx⟩ := hr
    simp only [Value.slice.injEq, true_and] at hv
    obtain ⟨rfl, rfl⟩ := hv
    obtain ⟨b, off, rfl, hb, hx⟩ := hx hok.2.2.1
    have hn : h = (h.toNat : Int) := by omega
    have H := Repeat_ok h.toNat b off c (hkN xs) w (hkN_tat he hx hb)
    rw [hkN_len, ← hn] at H
    refine H.mono ?_
    rintro e w' ⟨⟨q, a1, a2, a3, a4, rfl⟩, hb⟩
    exact ⟨.inr ⟨he, q, ⟨a1, a2, a3, a4⟩, rfl⟩, hb⟩
  · have hb0 : Below w.heap.size w (w.alloc (.cells #[.int .i64 h, .slice p xs.length c] 26)) := (Below.refl _ _).alloc (Nat.le_refl _) _
    have HC := Lib.hid (tieCheck_any h (.slice p xs.length c) xs _ (hr.next hb0))
    obtain ⟨er, her⟩ : ∃ er, chkT h xs = er := ⟨_, rfl⟩
    rw [her] at HC he
    have hd : (er != 0) = true := by simp; exact he
    have Her := Lib.hid (And.intro her he)
    have Hb0 := Lib.hid hb0
    clear her he hr hb0
    go_enter Try.func31, Try.ntmps31
    go_wp2_with fail
    refine HC.out.mono ?_
    rintro e w' ⟨rfl, hb⟩
    have Hb := Lib.hid (Hb0.out.trans (hb.mono Hb0.out.size))
    clear hb
    go_wp2_with fail
    refine bodyPost_ret (v := .tuple #[.int .i64 0, .int .i64 er]) ?_ rfl ⟨.inl ⟨by rw [Her.out.1]; exact Her.out.2, by rw [Her.out.1]⟩, Hb.out⟩
    simp [results, Try.results31, go_sem]
set_option maxHeartbeats 1000000 in
theorem Mirrors_any (h : Int) (p : Option Addr) (c : Nat) (xs : List Int) (w : World) (hr : Reads w (.slice p xs.length c) xs) :
    Calls Try.prog 32 #[.agg #[.int .i64 h, .slice p xs.length c]] w fun e w' => MirA h xs e ∧ Below w.heap.size w w' := by
  by_cases he : chkT h xs = 0
  · have hok := chkT_ok he
    obtain ⟨p', c', hv, _, hx⟩ := hr
    simp only [Value.slice.injEq, true_and] at hv
    obtain ⟨rfl, rfl⟩ := hv
    obtain ⟨b, off, rfl, hb, hx⟩ := hx hok.2.2.1
    have hn : h = (h.toNat : Int) := by omega
    have H := Mirrors_ok h.toNat b off c (hkN xs) w (hkN_tat he hx hb)
    rw [hkN_len, ← hn] at H
    exact H.mono fun e w' ⟨h1, h2⟩ => ⟨.inr ⟨he, h1⟩, h2⟩
  · have hb0 : Below w.heap.size w (w.alloc (.cells #[.int .i64 h, .slice p xs.length c] 26)) := (Below.refl _ _).alloc (Nat.le_refl _) _
    have HC := Lib.hid (tieCheck_any h (.slice p xs.length c) xs _ (hr.next hb0))
    obtain ⟨er, her⟩ : ∃ er, chkT h xs = er := ⟨_, rfl⟩
    rw [her] at HC he
    have hd : (er != 0) = true := by simp; exact he
    have Her := Lib.hid (And.intro her he)
    have Hb0 := Lib.hid hb0
    clear her he hr hb0
    go_enter Try.func32, Try.ntmps32
    go_wp2_with fail
    refine HC.out.mono ?_
    rintro e w' ⟨rfl, hb⟩
    have Hb := Lib.hid (Hb0.out.trans (hb.mono Hb0.out.size))
    clear hb
    go_wp2_with fail
    refine bodyPost_ret (v := .tuple #[.int .i64 0, .int .i64 er]) ?_ rfl ⟨.inl ⟨by rw [Her.out.1]; exact Her.out.2, by rw [Her.out.1]⟩, Hb.out⟩
    simp [results, Try.results32, go_sem]
set_option maxHeartbeats 1000000 in
theorem refSame3_eq (h : Int) (p p' : Option Addr) (c c' : Nat) (xs : List Int) (w : World) (hl : xs.length ≤ 1000) (h1 : Reads w (.slice p xs.length c) xs) (h2 : Reads w (.slice p' xs.length c') xs) :
    Calls Try.prog 26 #[.agg #[.int .i64 h, .slice p xs.length c], .agg #[.int .i64 h, .slice p' xs.length c']] w fun e w' => e = .returned (.bool true) ∧ Below w.heap.size w w' := by
  obtain ⟨w0, hw0⟩ : ∃ w0, w0 = (w.alloc (.cells #[.int .i64 h, .slice p xs.length c] 26)).alloc (.cells #[.int .i64 h, .slice p' xs.length c'] 26) := ⟨_, rfl⟩
  have hb0 : Below w.heap.size w w0 := by rw [hw0]; exact ((Below.refl _ _).alloc (Nat.le_refl _) _).alloc (by simp) _
  have hx : BoxAt w0 w.heap.size #[.int .i64 h, .slice p xs.length c] 26 := by rw [hw0]; exact (BoxAt.new w _ _).next ((Below.refl _ _).alloc (Nat.le_refl _) _)
  have hy : BoxAt w0 (w.heap.size + 1) #[.int .i64 h, .slice p' xs.length c'] 26 := by
    rw [hw0]; have := BoxAt.new (w.alloc (.cells #[.int .i64 h, .slice p xs.length c] 26)) #[.int .i64 h, .slice p' xs.length c'] 26; rw [World.size_alloc] at this; exact this
  have HM := Lib.hid (show Below w.heap.size w w0 ∧ BoxAt w0 w.heap.size #[.int .i64 h, .slice p xs.length c] 26 ∧ BoxAt w0 (w.heap.size + 1) #[.int .i64 h, .slice p' xs.length c'] 26 ∧ Reads w0 (.slice p xs.length c) xs ∧ Reads w0 (.slice p' xs.length c') xs from ⟨hb0, hx, hy, h1.next hb0, h2.next hb0⟩)
  have HW0 := Lib.hid hw0
  have hx0 := hx.cell' 0 rfl
  have hx1 := hx.cell' 1 rfl
  have hy0 := hy.cell' 0 rfl
  have hy1 := hy.cell' 1 rfl
  clear h1 h2 hw0 hb0 hx hy
  go_enter Try.func26, Try.ntmps26
  go_upto_region 1 with fail
  rw [← HW0.out]
  go_wp2_with fail
  clear hx0 hx1 hy0 hy1
  go_loopw [5] (fun i wr => ∃ k : Nat, k ≤ xs.length ∧ i = .int .i64 (k : Int) ∧ Below w.heap.size w wr ∧ BoxAt wr w.heap.size #[.int .i64 h, .slice p xs.length c] 26 ∧ BoxAt wr (w.heap.size + 1) #[.int .i64 h, .slice p' xs.length c'] 26 ∧ Reads wr (.slice p xs.length c) xs ∧ Reads wr (.slice p' xs.length c') xs) (fun i _ => xs.length - (intOf i).toNat)
  case atStart => exact ⟨0, Nat.zero_le _, rfl, HM.out⟩
  case round =>
    obtain ⟨k, hk, rfl, hS⟩ := hrel
    have hx1 := hS.2.1.cell' 1 rfl
    have hy1 := hS.2.2.1.cell' 1 rfl
    by_cases hlt : k < xs.length
    · obtain ⟨q1, d1, e1, _, r1⟩ := hS.2.2.2.1
      simp only [Value.slice.injEq, true_and] at e1
      obtain ⟨rfl, rfl⟩ := e1
      obtain ⟨b1, o1, rfl, _, r1⟩ := r1 (by omega)
      obtain ⟨q2, d2, e2, _, r2⟩ := hS.2.2.2.2
      simp only [Value.slice.injEq, true_and] at e2
      obtain ⟨rfl, rfl⟩ := e2
      obtain ⟨b2, o2, rfl, _, r2⟩ := r2 (by omega)
      have u1 := r1 k hlt
      have u2 := r2 k hlt
      obtain ⟨z, hz⟩ : ∃ z, nthI xs k = z := ⟨_, rfl⟩
      rw [hz] at u1 u2
      have Hr := Lib.hid hS
      clear hS hz r1 r2 HM
      go_upto_region 6 with fail
      go_quiet (fail)
      all_goals go_wp2_with fail
      all_goals exact ⟨⟨k + 1, by omega, by go_num, Hr.out.1.trans ((below_drewN _ _ _).mono Hr.out.1.size), Hr.out.2.1.next (below_drewN _ _ _), Hr.out.2.2.1.next (below_drewN _ _ _), Hr.out.2.2.2.1.next (below_drewN _ _ _), Hr.out.2.2.2.2.next (below_drewN _ _ _)⟩, by simp [intOf]; omega⟩
    · have hkd : decide ((k : Int) < (xs.length : Int)) = false := decide_eq_false (by omega)
      have Hb := Lib.hid hS.1
      clear hS HM
      go_wp2_with fail
      go_ret
      exact ⟨rfl, Hb.out⟩
set_option maxHeartbeats 1000000 in
theorem tieLarge_any (h : Int) (p : Option Addr) (c L : Nat) (w : World) :
    Calls Try.prog 27 #[.agg #[.int .i64 h, .slice p L c], .agg #[.int .i64 0, .slice none 0 0], .slice none 0 0] w fun e w' => e = .returned (.bool (decide (110 < L))) ∧ Below w.heap.size w w' := by
  have hb0 : Below w.heap.size w ((w.alloc (.cells #[.int .i64 h, .slice p L c] 26)).alloc (.cells #[.int .i64 0, .slice none 0 0] 37)) := ((Below.refl _ _).alloc (Nat.le_refl _) _).alloc (by simp) _
  have Hb0 := Lib.hid hb0
  clear hb0
  by_cases hl : 110 < L
  · have hd : decide ((110 : Int) < (L : Int)) = true := decide_eq_true (by omega)
    have hd2 : decide (110 < L) = true := decide_eq_true hl
    have Hd := Lib.hid hd2
    go_enter Try.func27, Try.ntmps27
    go_wp2_with fail
    go_loopw [7] (fun i wr => i = .int .i64 0 ∧ wr = (w.alloc (.cells #[.int .i64 h, .slice p L c] 26)).alloc (.cells #[.int .i64 0, .slice none 0 0] 37)) (fun _ _ => 1)
    case atStart => exact ⟨rfl, rfl⟩
    case round =>
      obtain ⟨rfl, rfl⟩ := hrel
      go_wp2_with fail
      go_ret
      exact ⟨ret_bool (by rw [Hd.out]), Hb0.out⟩
  · have hd : decide ((110 : Int) < (L : Int)) = false := decide_eq_false (by omega)
    have hd2 : decide (110 < L) = false := decide_eq_false hl
    have Hd := Lib.hid hd2
    go_enter Try.func27, Try.ntmps27
    go_wp2_with fail
    go_loopw [7] (fun i wr => i = .int .i64 0 ∧ wr = (w.alloc (.cells #[.int .i64 h, .slice p L c] 26)).alloc (.cells #[.int .i64 0, .slice none 0 0] 37)) (fun _ _ => 1)
    case atStart => exact ⟨rfl, rfl⟩
    case round =>
      obtain ⟨rfl, rfl⟩ := hrel
      go_wp2_with fail
      go_ret
      exact ⟨ret_bool (by rw [Hd.out]), Hb0.out⟩
theorem tieNone_ok (w : World) : Calls Try.prog 34 #[.agg #[.int .i64 0, .slice none 0 0]] w fun e w' => e = .returned (.bool true) ∧ Below w.heap.size w w' := by
  have Hb0 := Lib.hid (show Below w.heap.size w (w.alloc (.cells #[.int .i64 0, .slice none 0 0] 26)) from (Below.refl _ _).alloc (Nat.le_refl _) _)
  go_enter Try.func34, Try.ntmps34
  go_wp2_with fail
  go_ret
  exact ⟨rfl, Hb0.out⟩
end Go.Proofs.Ytdmgffoikebgkaa
/- Chapter 3: the reference's Repeat and Mirrors. -/
namespace Go.Proofs.Ytdmgffoikebgkaa
open Go.RowKit Go.Shelf
attribute [local go_sem] Oper.semAt_some

/-- whether the first numbers are like others -/
def alI (hs : List Nat) (F : Nat → Nat) : Nat → Bool
  | 0 => true
  | k + 1 => alI hs F k && (nthN hs k == nthN hs (F k))
theorem alI_iff (hs : List Nat) (F : Nat → Nat) : ∀ k, alI hs F k = true ↔ ∀ i, i < k → nthN hs i = nthN hs (F i)
  | 0 => ⟨fun _ i hi => absurd hi (Nat.not_lt_zero i), fun _ => rfl⟩
  | k + 1 => by
    rw [alI, Bool.and_eq_true, alI_iff hs F k, beq_iff_eq]
    constructor
    · rintro ⟨h1, h2⟩ i hi
      by_cases c : i = k
      · subst c; exact h2
      · exact h1 i (by omega)
    · exact fun h => ⟨fun i hi => h i (by omega), h k (by omega)⟩
theorem alI_mir {hs : List Nat} {s : Nat} : alI hs (fun i => (s + hs.length - i) % hs.length) hs.length = mirAt hs s := by
  rw [Bool.eq_iff_iff, alI_iff]
  unfold mirAt likeB
  rw [List.all_eq_true]
  have e : ∀ k, k < hs.length → aroundN hs ((s : Int) - (k : Int)) = nthN hs ((s + hs.length - k) % hs.length) := fun k hk => by
    unfold aroundN
    rw [show ((s : Int) - (k : Int) + (hs.length : Int)).toNat = s + hs.length - k by omega]
  constructor
  · intro h k hk
    have hk' : k < hs.length := by simpa using hk
    rw [beq_iff_eq, e k hk']
    exact h k hk'
  · intro h k hk
    have := h k (by simpa using hk)
    rw [beq_iff_eq, e k hk] at this
    exact this
theorem alI_rep {hs : List Nat} {p : Nat} (h0 : 0 < hs.length) (h1 : 1 ≤ p) (hd : hs.length % p = 0) : alI hs (fun i => i % p) hs.length = repAt hs p := by
  rw [Bool.eq_iff_iff, alI_iff]
  constructor
  · intro h
    refine gp_rep ⟨h1, fun i => ?_⟩ hd
    have hdv : p ∣ hs.length := Nat.dvd_of_mod_eq_zero hd
    have g : ∀ i, gN hs i = nthN hs (i % p) := fun i => by
      unfold gN
      rw [h _ (Nat.mod_lt _ h0), Nat.mod_mod_of_dvd _ hdv]
    rw [g, g, Nat.add_mod_right]
  · intro h i hi
    have hg := (rep_gp h0 h1 h).2
    have e := gp_mul hg (i % p) (i / p)
    rw [show i % p + i / p * p = i by have := Nat.mod_add_div i p; rw [Nat.mul_comm p] at this; omega] at e
    have hlt : i % p < hs.length := Nat.lt_of_le_of_lt (Nat.mod_le _ _) hi
    unfold gN at e
    rwa [Nat.mod_eq_of_lt hi, Nat.mod_eq_of_lt hlt] at e
structure NbS (w : World) (b off : Nat) (hs : List Nat) (W : World) : Prop where
  n : NatsAt W b off hs
  l : b < W.heap.size
  b : Below w.heap.size w W
theorem NbS.next {w W W' : World} {b off : Nat} {hs : List Nat} (h : NbS w b off hs W) (hb : Below W.heap.size W W') : NbS w b off hs W' :=
  ⟨h.n.below hb h.l, Nat.lt_of_lt_of_le h.l hb.size, h.b.trans (hb.mono h.b.size)⟩
set_option maxHeartbeats 2000000 in
theorem refRepeat3_ok (b off c T : Nat) (hs : List Nat) (w : World) (hT : hs.length = T) (hT0 : 1 ≤ T) (hT1 : T ≤ 96) (h1 : NatsAt w b off hs) (h2 : b < w.heap.size) :
    Calls Try.prog 36 #[.slice (some ⟨b, off, none⟩) T c] w fun e w' => (∃ p : Nat, RepP hs p ∧ e = .returned (.int .i64 (p : Int))) ∧ Below w.heap.size w w' := by
  have H := Lib.hid (show NbS w b off hs w from ⟨h1, h2, Below.refl _ _⟩)
  have HT := Lib.hid hT
  clear h1 h2 hT
  go_enter Try.func36, Try.ntmps36
  go_wp2_with fail
  go_loopw [3] (fun i wr => ∃ p : Nat, 1 ≤ p ∧ p ≤ T ∧ i = .int .i64 (p : Int) ∧ (∀ j, 1 ≤ j → j < p → repAt hs j = false) ∧ NbS w b off hs wr) (fun i _ => T - (intOf i).toNat)
  case atStart => exact ⟨1, Nat.le_refl _, hT0, rfl, fun j h1 h2 => by omega, H.out⟩
  case round =>
    obtain ⟨p, hp1, hp2, rfl, hno, hS⟩ := hrel
    have HN := Lib.hid hno
    have HS := Lib.hid hS
    clear hno hS H
    have hpz : ¬ p = 0 := by omega
    obtain ⟨r, hr⟩ : ∃ r, T % p = r := ⟨_, rfl⟩
    have hr0 := tmod_nn T p
    rw [hr] at hr0
    have Hr := Lib.hid hr
    clear hr
    by_cases hrz : r = 0
    · have hd : ((r : Int) != 0) = false := by rw [hrz]; rfl
      have Hd := Lib.hid (show hs.length % p = 0 from by rw [HT.out, Hr.out, hrz])
      clear hrz
      go_upto_region 4 with fail
      clear hr0 hd
      go_wp2_with fail
      go_loopw [4, 5] (fun s i wz => ∃ k : Nat, k ≤ T ∧ i = .int .i64 (k : Int) ∧ s = .bool (alI hs (fun i => i % p) k) ∧ NbS w b off hs wz) (fun _ i _ => T - (intOf i).toNat)
      case atStart => exact ⟨0, Nat.zero_le _, rfl, rfl, HS.out⟩
      case round =>
        obtain ⟨k, hk, rfl, rfl, hS⟩ := hrel
        have HS2 := Lib.hid hS
        clear hS HS
        by_cases hkT : k < T
        · have hcx := HS2.out.n k (by rw [HT.out]; exact hkT)
          obtain ⟨q, hq⟩ : ∃ q, k % p = q := ⟨_, rfl⟩
          have hqT : q < T := by rw [← hq]; exact Nat.lt_of_le_of_lt (Nat.mod_le _ _) hkT
          have hcy := HS2.out.n q (by rw [HT.out]; exact hqT)
          have hr1 := tmod_nn k p
          rw [hq] at hr1
          have Hst := Lib.hid (show alI hs (fun i => i % p) (k + 1) = (alI hs (fun i => i % p) k && (nthN hs k == nthN hs q)) from by rw [← hq]; rfl)
          obtain ⟨x, hx⟩ : ∃ x, nthN hs k = x := ⟨_, rfl⟩
          obtain ⟨y, hy⟩ : ∃ y, nthN hs q = y := ⟨_, rfl⟩
          rw [hx] at hcx Hst
          rw [hy] at hcy Hst
          clear hx hy hq
          cases ha : alI hs (fun i => i % p) k with
          | false =>
            rw [ha] at Hst
            clear ha
            go_upto_region 8 with fail
            go_quiet (fail)
            all_goals go_wp2_with fail
            all_goals exact ⟨⟨k + 1, by omega, by go_num, by rw [Hst.out]; rfl, HS2.out.next (below_drewN _ _ _)⟩, by simp [intOf]; omega⟩
          | true =>
            rw [ha] at Hst
            clear ha
            by_cases hxy : x = y
            · have hd1 : ((x : Int) == (y : Int)) = true := by rw [hxy]; simp
              have Hst2 := Lib.hid (show alI hs (fun i => i % p) (k + 1) = true from by rw [Hst.out, hxy]; simp)
              clear hxy
              go_upto_region 8 with fail
              go_quiet (fail)
              all_goals go_wp2_with fail
              all_goals exact ⟨⟨k + 1, by omega, by go_num, by rw [Hst2.out], HS2.out.next (below_drewN _ _ _)⟩, by simp [intOf]; omega⟩
            · have hd1 : ((x : Int) == (y : Int)) = false := by simp; omega
              have Hst2 := Lib.hid (show alI hs (fun i => i % p) (k + 1) = false from by rw [Hst.out]; simp; exact hxy)
              clear hxy
              go_upto_region 8 with fail
              go_quiet (fail)
              all_goals go_wp2_with fail
              all_goals exact ⟨⟨k + 1, by omega, by go_num, by rw [Hst2.out], HS2.out.next (below_drewN _ _ _)⟩, by simp [intOf]; omega⟩
        · have hke : k = T := by omega
          have hal := alI_rep (hs := hs) (p := p) (by rw [HT.out]; exact hT0) hp1 Hd.out
          rw [HT.out, ← hke] at hal
          rw [hal]
          have hkd : decide ((k : Int) < (T : Int)) = false := decide_eq_false (by omega)
          clear hal hke
          cases hrp : repAt hs p with
          | true =>
            have Hrp := Lib.hid hrp
            clear hrp
            go_wp2_with fail
            go_ret
            exact ⟨⟨p, ⟨hp1, by rw [HT.out]; exact hp2, .inr Hrp.out, HN.out⟩, rfl⟩, HS2.out.b⟩
          | false =>
            have hpT : p < T := by
              rcases Nat.lt_or_ge p T with c | c
              · exact c
              · have e : p = hs.length := by rw [HT.out]; omega
                have := gp_rep (hs := hs) (gp_len (hs := hs) (by rw [HT.out]; exact hT0)) (Nat.mod_self _)
                rw [← e, hrp] at this
                cases this
            have HN2 := Lib.hid (show ∀ j, 1 ≤ j → j < p + 1 → repAt hs j = false from fun j h1 h2 => by
              by_cases c : j = p
              · subst c; exact hrp
              · exact HN.out j h1 (by omega))
            clear hrp
            go_wp2_with fail
            all_goals exact ⟨⟨p + 1, by omega, by omega, by go_num, HN2.out, HS2.out⟩, by simp [intOf]; omega⟩
    · have hd : ((r : Int) != 0) = true := by simp; exact hrz
      have hpT : p < T := by
        rcases Nat.lt_or_ge p T with c | c
        · exact c
        · have e : p = T := by omega
          have := Hr.out
          rw [e, Nat.mod_self] at this
          exact absurd this.symm hrz
      have HN2 := Lib.hid (show ∀ j, 1 ≤ j → j < p + 1 → repAt hs j = false from fun j h1 h2 => by
        by_cases c : j = p
        · subst c
          unfold repAt
          have e : (hs.length % j == 0) = false := by rw [HT.out, Hr.out]; simp; exact hrz
          rw [e]; rfl
        · exact HN.out j h1 (by omega))
      clear hrz
      go_wp2_with fail
      all_goals exact ⟨⟨p + 1, by omega, by omega, by go_num, HN2.out, HS.out⟩, by simp [intOf]; omega⟩
end Go.Proofs.Ytdmgffoikebgkaa
/- Chapter 3: the reference's Mirrors. -/
namespace Go.Proofs.Ytdmgffoikebgkaa
open Go.RowKit Go.Shelf
attribute [local go_sem] Oper.semAt_some

def MirM (hs : List Nat) (e : Ending) : Prop := (∃ s, s < hs.length ∧ mirAt hs s = true ∧ (∀ j, j < s → mirAt hs j = false) ∧ e = .returned (.tuple #[.int .i64 (s : Int), .bool true])) ∨
  ((∀ j, j < hs.length → mirAt hs j = false) ∧ e = .returned (.tuple #[.int .i64 0, .bool false]))
set_option maxHeartbeats 2000000 in
theorem refMirrors3_ok (b off c T : Nat) (hs : List Nat) (w : World) (hT : hs.length = T) (hT0 : 1 ≤ T) (hT1 : T ≤ 96) (h1 : NatsAt w b off hs) (h2 : b < w.heap.size) :
    Calls Try.prog 35 #[.slice (some ⟨b, off, none⟩) T c] w fun e w' => MirM hs e ∧ Below w.heap.size w w' := by
  have H := Lib.hid (show NbS w b off hs w from ⟨h1, h2, Below.refl _ _⟩)
  have HT := Lib.hid hT
  clear h1 h2 hT
  go_enter Try.func35, Try.ntmps35
  go_wp2_with fail
  go_loopw [5] (fun i wr => ∃ s : Nat, s ≤ T ∧ i = .int .i64 (s : Int) ∧ (∀ j, j < s → mirAt hs j = false) ∧ NbS w b off hs wr) (fun i _ => T - (intOf i).toNat)
  case atStart => exact ⟨0, Nat.zero_le _, rfl, fun j h => absurd h (Nat.not_lt_zero j), H.out⟩
  case round =>
    obtain ⟨s, hs1, rfl, hno, hS⟩ := hrel
    have HN := Lib.hid hno
    have HS := Lib.hid hS
    clear hno hS H
    by_cases hsT : s < T
    · go_upto_region 6 with fail
      go_wp2_with fail
      go_loopw [6, 7] (fun m i wz => ∃ k : Nat, k ≤ T ∧ i = .int .i64 (k : Int) ∧ m = .bool (alI hs (fun i => (s + T - i) % T) k) ∧ NbS w b off hs wz) (fun _ i _ => T - (intOf i).toNat)
      case atStart => exact ⟨0, Nat.zero_le _, rfl, rfl, HS.out⟩
      case round =>
        obtain ⟨k, hk, rfl, rfl, hS⟩ := hrel
        have HS2 := Lib.hid hS
        clear hS HS
        by_cases hkT : k < T
        · have hcx := HS2.out.n k (by rw [HT.out]; exact hkT)
          obtain ⟨u, hu1, hu2⟩ : ∃ u, u + k ≤ s + T ∧ s + T ≤ u + k := ⟨s + T - k, by omega, by omega⟩
          obtain ⟨q, hq⟩ : ∃ q, u % T = q := ⟨_, rfl⟩
          have hqT : q < T := by rw [← hq]; exact Nat.mod_lt _ (by omega)
          have hcy := HS2.out.n q (by rw [HT.out]; exact hqT)
          have hr1 := tmod_nn u T
          rw [hq] at hr1
          have hTz : ¬ T = 0 := by omega
          have hsub : IntKind.i64.wrap ((s : Int) + (T : Int) - (k : Int)) = (u : Int) := by rw [IntWalk.i64_in _ (by omega)]; omega
          have hsub2 : (s : Int) + (T : Int) - (k : Int) = (u : Int) := by omega
          have hadd : IntKind.i64.wrap ((s : Int) + (T : Int)) = (s : Int) + (T : Int) := IntWalk.i64_in _ (by omega)
          have Hst := Lib.hid (show alI hs (fun i => (s + T - i) % T) (k + 1) = (alI hs (fun i => (s + T - i) % T) k && (nthN hs k == nthN hs q)) from by
            rw [← hq, show u = s + T - k by omega]; rfl)
          obtain ⟨x, hx⟩ : ∃ x, nthN hs k = x := ⟨_, rfl⟩
          obtain ⟨y, hy⟩ : ∃ y, nthN hs q = y := ⟨_, rfl⟩
          rw [hx] at hcx Hst
          rw [hy] at hcy Hst
          clear hx hy hq
          cases ha : alI hs (fun i => (s + T - i) % T) k with
          | false =>
            rw [ha] at Hst
            clear ha
            go_upto_region 9 with fail
            go_quiet (fail)
            all_goals go_wp2_with fail
            all_goals exact ⟨⟨k + 1, by omega, by go_num, by rw [Hst.out]; rfl, HS2.out.next (below_drewN _ _ _)⟩, by simp [intOf]; omega⟩
          | true =>
            rw [ha] at Hst
            clear ha
            by_cases hxy : x = y
            · have hd1 : ((x : Int) == (y : Int)) = true := by rw [hxy]; simp
              have Hst2 := Lib.hid (show alI hs (fun i => (s + T - i) % T) (k + 1) = true from by rw [Hst.out, hxy]; simp)
              clear hxy
              go_upto_region 9 with fail
              go_quiet (fail)
              all_goals go_wp2_with fail
              all_goals exact ⟨⟨k + 1, by omega, by go_num, by rw [Hst2.out], HS2.out.next (below_drewN _ _ _)⟩, by simp [intOf]; omega⟩
            · have hd1 : ((x : Int) == (y : Int)) = false := by simp; omega
              have Hst2 := Lib.hid (show alI hs (fun i => (s + T - i) % T) (k + 1) = false from by rw [Hst.out]; simp; exact hxy)
              clear hxy
              go_upto_region 9 with fail
              go_quiet (fail)
              all_goals go_wp2_with fail
              all_goals exact ⟨⟨k + 1, by omega, by go_num, by rw [Hst2.out], HS2.out.next (below_drewN _ _ _)⟩, by simp [intOf]; omega⟩
        · have hke : k = T := by omega
          have hal := alI_mir (hs := hs) (s := s)
          rw [HT.out] at hal
          rw [hke, hal]
          clear hal
          have hkd : decide ((k : Int) < (T : Int)) = false := decide_eq_false (by omega)
          cases hrp : mirAt hs s with
          | true =>
            have Hrp := Lib.hid hrp
            clear hrp
            go_wp2_with fail
            refine bodyPost_ret (v := .tuple #[.int .i64 (s : Int), .bool true]) ?_ rfl ⟨.inl ⟨s, by rw [HT.out]; exact hsT, Hrp.out, HN.out, rfl⟩, HS2.out.b⟩
            simp [results, Try.results35, go_sem]
          | false =>
            have HN2 := Lib.hid (show ∀ j, j < s + 1 → mirAt hs j = false from fun j h2 => by
              by_cases c : j = s
              · subst c; exact hrp
              · exact HN.out j (by omega))
            clear hrp
            go_wp2_with fail
            all_goals exact ⟨⟨s + 1, by omega, by go_num, HN2.out, HS2.out⟩, by simp [intOf]; omega⟩
    · have hse : s = T := by omega
      have hsd : decide ((s : Int) < (T : Int)) = false := decide_eq_false (by omega)
      have HN2 := Lib.hid (show ∀ j, j < hs.length → mirAt hs j = false from fun j h2 => HN.out j (by rw [hse, ← HT.out]; exact h2))
      clear hse
      go_wp2_with fail
      refine bodyPost_ret (v := .tuple #[.int .i64 0, .bool false]) ?_ rfl ⟨.inr ⟨HN2.out, rfl⟩, HS.out.b⟩
      simp [results, Try.results35, go_sem]
end Go.Proofs.Ytdmgffoikebgkaa
/- TieBesides: its regions; what is due. -/
namespace Go.Proofs.Ytdmgffoikebgkaa
open Go.RowKit Go.Shelf
attribute [local go_sem] Oper.semAt_some

theorem Reads.far {W W' : World} {g B L c : Nat} {xs : List Int} (h : Reads W (.slice (some ⟨g, 0, none⟩) L c) xs) (hB : SetAt B W W') (hne : g ≠ B) : Reads W' (.slice (some ⟨g, 0, none⟩) L c) xs := by
  obtain ⟨p, c', hv, hl, hx⟩ := h
  refine ⟨p, c', hv, hl, fun h0 => ?_⟩
  obtain ⟨b, off, rfl, h1, h2⟩ := hx h0
  simp only [Value.slice.injEq, Option.some.injEq, Addr.mk.injEq] at hv
  obtain ⟨⟨rfl, rfl, _⟩, _⟩ := hv
  exact ⟨_, _, rfl, by rw [hB.size]; exact h1, fun i hi => (World.cell?_of_block (w := W) (hB.other _ hne)).trans (h2 i hi)⟩
/-- a row of the region's own that reads as some numbers -/
def memRd (L : Nat) (xs : List Int) : Mem := ⟨fun h W => Reads W (.slice (some ⟨h.b, 0, none⟩) L h.c) xs, fun h => [h.b], fun _ _ _ h hb => h.next hb, fun _ _ _ _ h hn hB => h.far hB (fun e => hn (by simp [e]))⟩
/-- the error that two harnesses side by side have -/
def dueB (n1 n2 : Int) (xs ys : List Int) : Int :=
  if chkT n1 xs ≠ 0 then chkT n1 xs else if chkT n2 ys ≠ 0 then chkT n2 ys else if n1 ≠ n2 then 4 else if 96 < xs.length + ys.length then 8 else 0
theorem bes_due {n1 n2 : Int} {xs ys : List Int} {e : Ending} {w' : World} (h : BesR n1 n2 xs ys e w') :
    (dueB n1 n2 xs ys ≠ 0 ∧ BsE e (dueB n1 n2 xs ys)) ∨ (dueB n1 n2 xs ys = 0 ∧ chkT n1 xs = 0 ∧ chkT n2 ys = 0 ∧ n1 = n2 ∧ xs.length + ys.length ≤ 96 ∧ ∃ v, e = .returned (.tuple #[.agg #[.int .i64 n1, v], .int .i64 0]) ∧ Reads w' v (xs ++ ys)) := by
  unfold dueB
  rcases h with ⟨a, b⟩ | ⟨a, b, c⟩ | ⟨a, b, c, d⟩ | ⟨a, b, c, d, f⟩ | ⟨a, b, c, d, f⟩
  · rw [if_pos a]; exact .inl ⟨a, b⟩
  · rw [if_neg (by simp [a]), if_pos b]; exact .inl ⟨b, c⟩
  · rw [if_neg (by simp [a]), if_neg (by simp [b]), if_pos c]; exact .inl ⟨by decide, d⟩
  · rw [if_neg (by simp [a]), if_neg (by simp [b]), if_neg (by simp [c]), if_pos d]; exact .inl ⟨by decide, f⟩
  · rw [if_neg (by simp [a]), if_neg (by simp [b]), if_neg (by simp [c]), if_neg (by omega)]; exact .inr ⟨rfl, a, b, c, d, f⟩
theorem rep_one {hs : List Nat} {p q : Nat} (h : RepP hs p) (k : RepP hs q) : p = q := by
  rcases Nat.lt_trichotomy p q with c | c | c
  · rcases h.at' with e | e
    · have := k.pl; omega
    · rw [k.no p h.p1 c] at e; cases e
  · exact c
  · rcases k.at' with e | e
    · have := h.pl; omega
    · rw [h.no q k.p1 c] at e; cases e
/-- where both are their own mirror -/
theorem mir_one {hs : List Nat} {e e' : Ending} (h : MirR hs e) (k : MirM hs e') :
    (∃ s : Nat, e = .returned (.tuple #[.int .i64 (s : Int), .int .i64 0]) ∧ e' = .returned (.tuple #[.int .i64 (s : Int), .bool true])) ∨ (e = .returned (.tuple #[.int .i64 0, .int .i64 7]) ∧ e' = .returned (.tuple #[.int .i64 0, .bool false])) := by
  rcases h with ⟨s, h1, h2, h3, rfl⟩ | ⟨h1, rfl⟩
  · rcases k with ⟨t, k1, k2, k3, rfl⟩ | ⟨k1, rfl⟩
    · have e : s = t := by
        rcases Nat.lt_trichotomy s t with c | c | c
        · rw [k3 s c] at h2; cases h2
        · exact c
        · rw [h3 t c] at k2; cases k2
      subst e
      exact .inl ⟨s, rfl, rfl⟩
    · rw [k1 s h1] at h2; cases h2
  · rcases k with ⟨t, k1, k2, k3, rfl⟩ | ⟨k1, rfl⟩
    · rw [h1 t k1] at k2; cases k2
    · exact .inr ⟨rfl, rfl⟩
def region_bs3U : List (List Nat) := [[], [1], [], [3], [4], [5], [1, 4], [3, 5]]
def region_bs3X (_Za _Zb La Lb c1 c2 : Nat) (n1 n2 : Int) (p1 p2 : Option Addr) (_xs _ys : List Int) : Nat → (Nat → Hd) → Value
  | 0, _ => .agg #[.int .i64 n1, .slice p1 La c1]
  | 1, hds => .agg #[.int .i64 n1, .slice (some ⟨(hds 1).b, 0, none⟩) La (hds 1).c]
  | 2, _ => .agg #[.int .i64 n2, .slice p2 Lb c2]
  | 3, hds => .agg #[.int .i64 n2, .slice (some ⟨(hds 3).b, 0, none⟩) Lb (hds 3).c]
  | 4, hds => .pointer (some ⟨(hds 4).b, 0, none⟩)
  | 5, hds => .pointer (some ⟨(hds 5).b, 0, none⟩)
  | 6, _ => undef
  | 7, _ => undef
  | _ + 8, _ => undef
theorem region_bs3X.congr (Za Zb La Lb c1 c2 : Nat) (n1 n2 : Int) (p1 p2 : Option Addr) (xs ys : List Int) : ∀ i hds hds', (∀ r ∈ uOf region_bs3U i, hds r = hds' r) → region_bs3X Za Zb La Lb c1 c2 n1 n2 p1 p2 xs ys i hds = region_bs3X Za Zb La Lb c1 c2 n1 n2 p1 p2 xs ys i hds'
  | 0, _, _, _ => rfl
  | 1, hds, hds', h => by simp only [region_bs3X, h 1 (show 1 ∈ uOf region_bs3U 1 by decide)]
  | 2, _, _, _ => rfl
  | 3, hds, hds', h => by simp only [region_bs3X, h 3 (show 3 ∈ uOf region_bs3U 3 by decide)]
  | 4, hds, hds', h => by simp only [region_bs3X, h 4 (show 4 ∈ uOf region_bs3U 4 by decide)]
  | 5, hds, hds', h => by simp only [region_bs3X, h 5 (show 5 ∈ uOf region_bs3U 5 by decide)]
  | 6, _, _, _ => rfl
  | 7, _, _, _ => rfl
  | _ + 8, _, _, _ => rfl
def region_bs3M (_Za _Zb La Lb _c1 _c2 : Nat) (_n1 _n2 : Int) (_p1 _p2 : Option Addr) (xs ys : List Int) : Nat → Mem
  | 1 => memRd La xs
  | 3 => memRd Lb ys
  | 4 => memBox 2 26
  | 5 => memBox 2 26
  | _ => memNone
def region_bs3S (_Za _Zb La Lb _c1 _c2 : Nat) (n1 n2 : Int) (_p1 _p2 : Option Addr) (_xs _ys : List Int) : Nat → Option Sto
  | 6 => some ⟨4, 26, fun hds => #[.int .i64 n1, .slice (some ⟨(hds 1).b, 0, none⟩) La (hds 1).c]⟩
  | 7 => some ⟨5, 26, fun hds => #[.int .i64 n2, .slice (some ⟨(hds 3).b, 0, none⟩) Lb (hds 3).c]⟩
  | _ => none
set_option maxRecDepth 8000 in
set_option maxHeartbeats 2000000 in
theorem region_bs3 {id : Nat} {ops : Array Oper} {Q : Exit → Act → World → Prop} {a : Act} {w : World} (Za Zb La Lb c1 c2 : Nat) (n1 n2 : Int) (p1 p2 : Option Addr) (xs ys : List Int) (Ha : ∀ W, Below w.heap.size w W → Calls Try.prog 28 #[.agg #[.int .i64 n1, .slice p1 La c1]] W fun e w' => ∃ g cap, e = .returned (.agg #[.int .i64 n1, .slice (some ⟨g, 0, none⟩) La cap]) ∧ Reads w' (.slice (some ⟨g, 0, none⟩) La cap) xs ∧ W.heap.size ≤ g ∧ g < w'.heap.size ∧ Below W.heap.size W w') (Hb : ∀ W, Below w.heap.size w W → Calls Try.prog 28 #[.agg #[.int .i64 n2, .slice p2 Lb c2]] W fun e w' => ∃ g cap, e = .returned (.agg #[.int .i64 n2, .slice (some ⟨g, 0, none⟩) Lb cap]) ∧ Reads w' (.slice (some ⟨g, 0, none⟩) Lb cap) ys ∧ W.heap.size ≤ g ∧ g < w'.heap.size ∧ Below W.heap.size W w') (hZa : BoxAt w Za #[.int .i64 n1, .slice p1 La c1] 26) (hZb : BoxAt w Zb #[.int .i64 n2, .slice p2 Lb c2] 26)
    (gsize : ops.size = 8)
    (gops : IsOp ops 0 (some 27) (.load 26 (.tmp 2)) none [] ∧ IsOp ops 1 (some 28) (.call { callee := .value (.func 28), args := #[.tmp 27], argTypes := #[26] }) none [0] ∧ IsOp ops 2 (some 29) (.load 26 (.tmp 3)) none [] ∧ IsOp ops 3 (some 30) (.call { callee := .value (.func 28), args := #[.tmp 29], argTypes := #[26] }) none [2] ∧ IsOp ops 4 (some 5) (.alloc 26) none [] ∧ IsOp ops 5 (some 6) (.alloc 26) none [] ∧ IsOp ops 6 none (.store 26 (.tmp 5) (.tmp 28)) none [1, 4] ∧ IsOp ops 7 none (.store 26 (.tmp 6) (.tmp 30)) none [3, 5])
    (gbk : backB ops = true) (gds : dstsB ops (dOf [some 27, some 28, some 29, some 30, some 5, some 6, none, none]) = true) (gus : useB ops (uOf region_bs3U) (kOf [0, 1, 0, 1, 1, 1, 6, 7]) = true) (ggd : plainB ops = true) (gsz : ∀ e ∈ [27, 28, 29, 30, 5, 6], e < a.tmps.size)
    (gout : a.eval (.tmp 2) = .pointer (some ⟨Za, 0, none⟩) ∧ a.eval (.tmp 3) = .pointer (some ⟨Zb, 0, none⟩))
    (gend : ∀ (g28 q28 G28 Q28 g30 q30 G30 Q30 g5 q5 G5 Q5 g6 q6 G6 Q6 : Nat) (P28 P30 P5 P6 : Option Addr) (u27 u28 u29 u30 : Value) (W : World), Below w.heap.size w W → (memRd La xs).P ⟨g28, q28, G28, Q28, P28⟩ W → (∀ b ∈ (memRd La xs).bl ⟨g28, q28, G28, Q28, P28⟩, w.heap.size ≤ b ∧ b < W.heap.size) → (memRd Lb ys).P ⟨g30, q30, G30, Q30, P30⟩ W → (∀ b ∈ (memRd Lb ys).bl ⟨g30, q30, G30, Q30, P30⟩, w.heap.size ≤ b ∧ b < W.heap.size) → w.heap.size ≤ g5 → g5 < W.heap.size → w.heap.size ≤ g6 → g6 < W.heap.size → BoxAt W g5 #[.int .i64 n1, .slice (some ⟨g28, 0, none⟩) La q28] 26 → BoxAt W g6 #[.int .i64 n2, .slice (some ⟨g30, 0, none⟩) Lb q30] 26 → Q .normal (putL a [(27, u27), (28, u28), (29, u29), (30, u30), (5, .pointer (some ⟨g5, 0, none⟩)), (6, .pointer (some ⟨g6, 0, none⟩))]) W) :
    (Code.region id ops true).wp Try.prog Q a w := by
  obtain ⟨iop0, iop1, iop2, iop3, iop4, iop5, iop6, iop7⟩ := gops
  obtain ⟨o2, o3⟩ := gout
  refine region_all (RSp.of 8 [some 27, some 28, some 29, some 30, some 5, some 6, none, none] (fun _ => true) (region_bs3X Za Zb La Lb c1 c2 n1 n2 p1 p2 xs ys) region_bs3U [0, 1, 0, 1, 1, 1, 6, 7] (region_bs3M Za Zb La Lb c1 c2 n1 n2 p1 p2 xs ys) (region_bs3S Za Zb La Lb c1 c2 n1 n2 p1 p2 xs ys)) [(2, .pointer (some ⟨Za, 0, none⟩)), (3, .pointer (some ⟨Zb, 0, none⟩))] [27, 28, 29, 30, 5, 6] (RSp.of_fit gsize.symm gbk gds gus ggd (by decide) ?_) (RSp.of_ok _ (region_bs3X.congr Za Zb La Lb c1 c2 n1 n2 p1 p2 xs ys) ?_) gsz ?_ ?_ ?_
  · intro p hp
    have hp2 : p ∈ [(6, 4), (7, 5)] := hp
    simp only [List.mem_cons, List.not_mem_nil, or_false] at hp2
    rcases hp2 with rfl | rfl
    · refine ⟨rfl, (show 4 ∈ uOf region_bs3U 6 by decide), fun _ => rfl, fun j hj hm => ?_⟩
      match j, hj, hm with
      | 0, _, _ => rfl
      | 1, _, _ => rfl
      | 2, _, _ => rfl
      | 3, _, _ => rfl
      | 4, _, _ => rfl
      | 5, _, _ => rfl
      | 6, hj, _ => exact absurd rfl hj
      | 7, _, hm => exact absurd hm (by decide)
      | _ + 8, _, _ => rfl
    · refine ⟨rfl, (show 5 ∈ uOf region_bs3U 7 by decide), fun _ => rfl, fun j hj hm => ?_⟩
      match j, hj, hm with
      | 0, _, _ => rfl
      | 1, _, _ => rfl
      | 2, _, _ => rfl
      | 3, _, _ => rfl
      | 4, _, _ => rfl
      | 5, _, _ => rfl
      | 6, _, hm => exact absurd hm (by decide)
      | 7, hj, _ => exact absurd rfl hj
      | _ + 8, _, _ => rfl
  · intro i s hds
    match i, hds with
    | 0, hds => cases hds
    | 1, hds => cases hds
    | 2, hds => cases hds
    | 3, hds => cases hds
    | 4, hds => cases hds
    | 5, hds => cases hds
    | 6, hds =>
      obtain rfl := Option.some.inj hds
      refine ⟨(show 4 ∈ uOf region_bs3U 6 by decide), fun _ => rfl, fun hds hds' h => ?_⟩
      simp only [h 1 (show 1 ∈ uOf region_bs3U 6 by decide)]
    | 7, hds =>
      obtain rfl := Option.some.inj hds
      refine ⟨(show 5 ∈ uOf region_bs3U 7 by decide), fun _ => rfl, fun hds hds' h => ?_⟩
      simp only [h 3 (show 3 ∈ uOf region_bs3U 7 by decide)]
    | _ + 8, hds => cases hds
  · intro q hq
    simp only [List.mem_cons, List.not_mem_nil, or_false] at hq
    rcases hq with rfl | rfl
    · exact ⟨o2, by simp⟩
    · exact ⟨o3, by simp⟩
  · intro i o ho hw
    have hi : i < 8 := by rw [← gsize]; exact (Array.getElem?_eq_some_iff.1 ho).1
    match i, hi with
    | 0, _ =>
      obtain ⟨ty, pos, aft, e, hdp⟩ := iop0
      rw [e] at ho
      obtain rfl := Option.some.inj ho
      intro a' hds W K hB lq ld hmem hK
      have e2 : a'.eval (.tmp 2) = .pointer (some ⟨Za, 0, none⟩) := by rw [eval_tmp]; exact lq (2, .pointer (some ⟨Za, 0, none⟩)) (by simp)
      have t2 := (eval_tmp a' 2).symm.trans e2
      have HK := Lib.hid (show K (a'.put (some 27) (.agg #[.int .i64 n1, .slice p1 La c1])) W from hK W (Below.refl _ _) trivial)
      clear hK ld lq hmem
      have c0 := (hZa.next hB).cell' 0 rfl
      have c1 := (hZa.next hB).cell' 1 rfl
      unfold Oper.wp
      simp only [execOp, e2]
      go_simp
      exact HK.out
    | 1, _ =>
      obtain ⟨ty, pos, aft, e, hdp⟩ := iop1
      rw [e] at ho
      obtain rfl := Option.some.inj ho
      intro a' hds W K hB lq ld hmem hK
      have e27 : a'.eval (.tmp 27) = .agg #[.int .i64 n1, .slice p1 La c1] := by rw [eval_tmp]; exact ld 0 27 (List.all_eq_true.1 hdp 0 (by decide)) rfl
      have t27 := (eval_tmp a' 27).symm.trans e27
      have HK := Lib.hid (show ∀ hh W', Below W.heap.size W W' → (memRd La xs).P hh W' → (∀ b ∈ (memRd La xs).bl hh, W.heap.size ≤ b ∧ b < W'.heap.size) → K (a'.put (some 28) (.agg #[.int .i64 n1, .slice (some ⟨hh.b, 0, none⟩) La hh.c])) W' from fun hh W' h1 h2 h3 => by
        have h4 : K (a'.put (some 28) (region_bs3X Za Zb La Lb c1 c2 n1 n2 p1 p2 xs ys 1 (updH hds 1 hh))) W' := hK hh W' h1 h2 h3 trivial
        simp only [region_bs3X, updH_same] at h4
        exact h4)
      clear hK ld lq hmem
      refine step_call (vals := #[.agg #[.int .i64 n1, .slice p1 La c1]]) (by exact ⟨_, _, Try.func28, by kernel_rfl, rfl⟩) (by simp only [List.map_toArray, List.map_cons, List.map_nil, e27]) (Ha W hB) ?_
      rintro e w' ⟨g, cap, rfl, hn, hl, hg, hb'⟩
      exact ⟨_, rfl, HK.out ⟨g, cap, 0, 0, none⟩ _ hb' hn (bd_one hl hg)⟩
    | 2, _ =>
      obtain ⟨ty, pos, aft, e, hdp⟩ := iop2
      rw [e] at ho
      obtain rfl := Option.some.inj ho
      intro a' hds W K hB lq ld hmem hK
      have e3 : a'.eval (.tmp 3) = .pointer (some ⟨Zb, 0, none⟩) := by rw [eval_tmp]; exact lq (3, .pointer (some ⟨Zb, 0, none⟩)) (by simp)
      have t3 := (eval_tmp a' 3).symm.trans e3
      have HK := Lib.hid (show K (a'.put (some 29) (.agg #[.int .i64 n2, .slice p2 Lb c2])) W from hK W (Below.refl _ _) trivial)
      clear hK ld lq hmem
      have c0 := (hZb.next hB).cell' 0 rfl
      have c1 := (hZb.next hB).cell' 1 rfl
      unfold Oper.wp
      simp only [execOp, e3]
      go_simp
      exact HK.out
    | 3, _ =>
      obtain ⟨ty, pos, aft, e, hdp⟩ := iop3
      rw [e] at ho
      obtain rfl := Option.some.inj ho
      intro a' hds W K hB lq ld hmem hK
      have e29 : a'.eval (.tmp 29) = .agg #[.int .i64 n2, .slice p2 Lb c2] := by rw [eval_tmp]; exact ld 2 29 (List.all_eq_true.1 hdp 2 (by decide)) rfl
      have t29 := (eval_tmp a' 29).symm.trans e29
      have HK := Lib.hid (show ∀ hh W', Below W.heap.size W W' → (memRd Lb ys).P hh W' → (∀ b ∈ (memRd Lb ys).bl hh, W.heap.size ≤ b ∧ b < W'.heap.size) → K (a'.put (some 30) (.agg #[.int .i64 n2, .slice (some ⟨hh.b, 0, none⟩) Lb hh.c])) W' from fun hh W' h1 h2 h3 => by
        have h4 : K (a'.put (some 30) (region_bs3X Za Zb La Lb c1 c2 n1 n2 p1 p2 xs ys 3 (updH hds 3 hh))) W' := hK hh W' h1 h2 h3 trivial
        simp only [region_bs3X, updH_same] at h4
        exact h4)
      clear hK ld lq hmem
      refine step_call (vals := #[.agg #[.int .i64 n2, .slice p2 Lb c2]]) (by exact ⟨_, _, Try.func28, by kernel_rfl, rfl⟩) (by simp only [List.map_toArray, List.map_cons, List.map_nil, e29]) (Hb W hB) ?_
      rintro e w' ⟨g, cap, rfl, hn, hl, hg, hb'⟩
      exact ⟨_, rfl, HK.out ⟨g, cap, 0, 0, none⟩ _ hb' hn (bd_one hl hg)⟩
    | 4, _ =>
      obtain ⟨ty, pos, aft, e, hdp⟩ := iop4
      rw [e] at ho
      obtain rfl := Option.some.inj ho
      intro a' hds W K hB lq ld hmem hK
      have HK := Lib.hid (show ∀ hh W', Below W.heap.size W W' → (memBox 2 26).P hh W' → (∀ b ∈ (memBox 2 26).bl hh, W.heap.size ≤ b ∧ b < W'.heap.size) → K (a'.put (some 5) (.pointer (some ⟨hh.b, 0, none⟩))) W' from fun hh W' h1 h2 h3 => by
        have h4 : K (a'.put (some 5) (region_bs3X Za Zb La Lb c1 c2 n1 n2 p1 p2 xs ys 4 (updH hds 4 hh))) W' := hK hh W' h1 h2 h3 trivial
        simp only [region_bs3X, updH_same] at h4
        exact h4)
      clear hK ld lq hmem
      have hfin := Lib.hid (HK.out ⟨W.heap.size, 0, 0, 0, none⟩ _ ((Below.refl _ _).alloc (Nat.le_refl _) (.cells #[.int .i64 0, .slice none 0 0] 26)) ⟨_, rfl, BoxAt.new W #[.int .i64 0, .slice none 0 0] 26⟩ (bd_one (Nat.le_refl _) (by simp)))
      clear HK
      unfold Oper.wp
      simp only [execOp]
      go_simp
      exact hfin.out
    | 5, _ =>
      obtain ⟨ty, pos, aft, e, hdp⟩ := iop5
      rw [e] at ho
      obtain rfl := Option.some.inj ho
      intro a' hds W K hB lq ld hmem hK
      have HK := Lib.hid (show ∀ hh W', Below W.heap.size W W' → (memBox 2 26).P hh W' → (∀ b ∈ (memBox 2 26).bl hh, W.heap.size ≤ b ∧ b < W'.heap.size) → K (a'.put (some 6) (.pointer (some ⟨hh.b, 0, none⟩))) W' from fun hh W' h1 h2 h3 => by
        have h4 : K (a'.put (some 6) (region_bs3X Za Zb La Lb c1 c2 n1 n2 p1 p2 xs ys 5 (updH hds 5 hh))) W' := hK hh W' h1 h2 h3 trivial
        simp only [region_bs3X, updH_same] at h4
        exact h4)
      clear hK ld lq hmem
      have hfin := Lib.hid (HK.out ⟨W.heap.size, 0, 0, 0, none⟩ _ ((Below.refl _ _).alloc (Nat.le_refl _) (.cells #[.int .i64 0, .slice none 0 0] 26)) ⟨_, rfl, BoxAt.new W #[.int .i64 0, .slice none 0 0] 26⟩ (bd_one (Nat.le_refl _) (by simp)))
      clear HK
      unfold Oper.wp
      simp only [execOp]
      go_simp
      exact hfin.out
    | 6, _ =>
      obtain ⟨ty, pos, aft, e, hdp⟩ := iop6
      rw [e] at ho
      obtain rfl := Option.some.inj ho
      intro a' hds W K hB lq ld hmem hK
      have e5 : a'.eval (.tmp 5) = .pointer (some ⟨(hds 4).b, 0, none⟩) := by rw [eval_tmp]; exact ld 4 5 (List.all_eq_true.1 hdp 4 (by decide)) rfl
      have t5 := (eval_tmp a' 5).symm.trans e5
      have e28 : a'.eval (.tmp 28) = .agg #[.int .i64 n1, .slice (some ⟨(hds 1).b, 0, none⟩) La (hds 1).c] := by rw [eval_tmp]; exact ld 1 28 (List.all_eq_true.1 hdp 1 (by decide)) rfl
      have t28 := (eval_tmp a' 28).symm.trans e28
      obtain ⟨⟨vs, hvs, hbx⟩, _⟩ := hmem 4 (show 4 ∈ uOf region_bs3U 6 by decide) (by decide)
      have hvl : vs.toList.length = 2 := by simpa using hvs
      obtain ⟨v0, v1, rfl⟩ : ∃ v0 v1, vs = #[v0, v1] := by
        cases vs with
        | mk l =>
          match l, hvl with
          | [v0, v1], _ => exact ⟨_, _, rfl⟩
      have HK := Lib.hid (show ∀ W', SetAt (hds 4).b W W' → (memBox 2 26).P (hds 4) W' → BoxAt W' (hds 4).b #[.int .i64 n1, .slice (some ⟨(hds 1).b, 0, none⟩) La (hds 1).c] 26 → K a' W' from hK)
      clear hK ld lq hmem
      have hfin := Lib.hid (HK.out _ (((SetAt.refl (hds 4).b W).cell 0 (.int .i64 n1)).cell 1 (.slice (some ⟨(hds 1).b, 0, none⟩) La (hds 1).c)) ⟨_, rfl, ((hbx).set 0 (.int .i64 n1)).set 1 (.slice (some ⟨(hds 1).b, 0, none⟩) La (hds 1).c)⟩ (((hbx).set 0 (.int .i64 n1)).set 1 (.slice (some ⟨(hds 1).b, 0, none⟩) La (hds 1).c)))
      have c0 := hbx.cell' 0 rfl
      have f0 := hbx.frozen 0
      have c1 := hbx.cell' 1 rfl
      have f1 := hbx.frozen 1
      have hlt := hbx.lt
      clear hbx hvl hvs HK
      generalize (hds 4).b = B at *
      unfold Oper.wp
      simp only [execOp, e5, e28]
      clear e5 e28
      go_simp
      exact hfin.out
    | 7, _ =>
      obtain ⟨ty, pos, aft, e, hdp⟩ := iop7
      rw [e] at ho
      obtain rfl := Option.some.inj ho
      intro a' hds W K hB lq ld hmem hK
      have e6 : a'.eval (.tmp 6) = .pointer (some ⟨(hds 5).b, 0, none⟩) := by rw [eval_tmp]; exact ld 5 6 (List.all_eq_true.1 hdp 5 (by decide)) rfl
      have t6 := (eval_tmp a' 6).symm.trans e6
      have e30 : a'.eval (.tmp 30) = .agg #[.int .i64 n2, .slice (some ⟨(hds 3).b, 0, none⟩) Lb (hds 3).c] := by rw [eval_tmp]; exact ld 3 30 (List.all_eq_true.1 hdp 3 (by decide)) rfl
      have t30 := (eval_tmp a' 30).symm.trans e30
      obtain ⟨⟨vs, hvs, hbx⟩, _⟩ := hmem 5 (show 5 ∈ uOf region_bs3U 7 by decide) (by decide)
      have hvl : vs.toList.length = 2 := by simpa using hvs
      obtain ⟨v0, v1, rfl⟩ : ∃ v0 v1, vs = #[v0, v1] := by
        cases vs with
        | mk l =>
          match l, hvl with
          | [v0, v1], _ => exact ⟨_, _, rfl⟩
      have HK := Lib.hid (show ∀ W', SetAt (hds 5).b W W' → (memBox 2 26).P (hds 5) W' → BoxAt W' (hds 5).b #[.int .i64 n2, .slice (some ⟨(hds 3).b, 0, none⟩) Lb (hds 3).c] 26 → K a' W' from hK)
      clear hK ld lq hmem
      have hfin := Lib.hid (HK.out _ (((SetAt.refl (hds 5).b W).cell 0 (.int .i64 n2)).cell 1 (.slice (some ⟨(hds 3).b, 0, none⟩) Lb (hds 3).c)) ⟨_, rfl, ((hbx).set 0 (.int .i64 n2)).set 1 (.slice (some ⟨(hds 3).b, 0, none⟩) Lb (hds 3).c)⟩ (((hbx).set 0 (.int .i64 n2)).set 1 (.slice (some ⟨(hds 3).b, 0, none⟩) Lb (hds 3).c)))
      have c0 := hbx.cell' 0 rfl
      have f0 := hbx.frozen 0
      have c1 := hbx.cell' 1 rfl
      have f1 := hbx.frozen 1
      have hlt := hbx.lt
      clear hbx hvl hvs HK
      generalize (hds 5).b = B at *
      unfold Oper.wp
      simp only [execOp, e6, e30]
      clear e6 e30
      go_simp
      exact hfin.out
    | i + 8, h => omega
  · intro hds v W hO
    have hfin := gend (hds 1).b (hds 1).c (hds 1).b2 (hds 1).c2 (hds 3).b (hds 3).c (hds 3).b2 (hds 3).c2 (hds 4).b (hds 4).c (hds 4).b2 (hds 4).c2 (hds 5).b (hds 5).c (hds 5).b2 (hds 5).c2 (hds 1).p (hds 3).p (hds 4).p (hds 5).p (v 27) (v 28) (v 29) (v 30) W hO.b (hO.m 1 (by show 1 < 8; decide) rfl).1 (hO.m 1 (by show 1 < 8; decide) rfl).2 (hO.m 3 (by show 3 < 8; decide) rfl).1 (hO.m 3 (by show 3 < 8; decide) rfl).2 ((hO.m 4 (by show 4 < 8; decide) rfl).2 _ (by show _ ∈ [_]; simp)).1 ((hO.m 4 (by show 4 < 8; decide) rfl).2 _ (by show _ ∈ [_]; simp)).2 ((hO.m 5 (by show 5 < 8; decide) rfl).2 _ (by show _ ∈ [_]; simp)).1 ((hO.m 5 (by show 5 < 8; decide) rfl).2 _ (by show _ ∈ [_]; simp)).2 (hO.s 6 (by show 6 < 8; decide) rfl) (hO.s 7 (by show 7 < 8; decide) rfl)
    rw [← laid_putL _ a v ?_] at hfin
    · exact hfin
    · intro p hp
      simp only [List.mem_cons, List.not_mem_nil, or_false] at hp
      rcases hp with rfl | rfl | rfl | rfl | rfl | rfl
      · rfl
      · rfl
      · rfl
      · rfl
      · exact hO.x 4 (show 4 < 8 by decide) 5 rfl
      · exact hO.x 5 (show 5 < 8 by decide) 6 rfl
end Go.Proofs.Ytdmgffoikebgkaa
/- Appends that stand behind a guard: steps of a region that draws. -/
namespace Go.Proofs.Ytdmgffoikebgkaa
open Go.RowKit Go.Shelf
attribute [local go_sem] Oper.semAt_some

theorem step_copyW {t e size bytes : Nat} (E : ElemT t e size bytes) {ops : Array Oper} {o : Oper} {a : Act} {K : Act → World → Prop} {Q : Exit → Act → World → Prop} {F : Prop} {W : World} (hw : Region.wanted o (yielded ops a.tmps) = true) (s x : Operand)
    (ho : o.op = .call { callee := .builtin .append, args := #[s, x], argTypes := #[t, t] }) (hs : a.eval s = .slice (some ⟨W.heap.size, 0, none⟩) 0 0)
    (ad : Addr) (m c : Nat) (news : List Value) (hx : a.eval x = .slice (some ad) m c) (hl : news.length = m * size) (h1 : ∀ u ∈ news, u.oneCell' = true) (hm : 0 < m) (hlen : m ≤ 1000000) (hby : bytes ≤ 1000)
    (hnews : ∀ j u, news[j]? = some u → (W.alloc (.cells #[] e)).cell? (ad.add j) = some u)
    (h : ∀ g cap W', W'.ownsRow W.heap.size e size (.slice (some ⟨g, 0, none⟩) m cap) m news → Below W.heap.size W W' → K (a.put o.dst (.slice (some ⟨g, 0, none⟩) m cap)) W') :
    if Region.wanted o (yielded ops a.tmps) = true then Oper.wp Try.prog o a (W.alloc (.cells #[] e)).drew K Q else F := by
  obtain ⟨i, z, hu, hi, hz0, hz1, hz2, hz3, hz4⟩ := E.ex
  have hown : (W.alloc (.cells #[] e)).ownsRow W.heap.size e size (.slice (some ⟨W.heap.size, 0, none⟩) 0 0) 0 [] :=
    ⟨by simp, .inr ⟨_, 0, #[], rfl, Nat.le_refl _, World.alloc_heap_new W _, Nat.le_refl _, by decide, by simp, by simp⟩⟩
  rw [if_pos hw]
  refine wp_append_lies _ s x t ho W.heap.size e i z size bytes hu hi hz0 hz1 hz2 hz3 hz4 _ 0 [] hs hown.drew ad m c news hx hl hnews h1 hm (by unfold maxLen; omega) ?_ (by simp) (W.heap.size + 1) (by simp) ?_
  · exact Nat.le_trans (Nat.mul_le_mul (show 0 + m ≤ 1000000 by omega) hby) (by decide)
  · intro g cap w' hr hg _ _
    rw [Nat.zero_add] at hr ⊢
    rw [List.nil_append] at hr
    exact h g cap w' hr ((((Below.refl _ _).alloc (Nat.le_refl _) _).drew).grown hg (by simp) (fun j hj => by simp [Value.ownBlock] at hj; omega))
theorem step_appW {t e size bytes : Nat} (E : ElemT t e size bytes) {ops : Array Oper} {o : Oper} {a : Act} {K : Act → World → Prop} {Q : Exit → Act → World → Prop} {F : Prop} {W W0 : World} (hw : Region.wanted o (yielded ops a.tmps) = true) (s x : Operand)
    (ho : o.op = .call { callee := .builtin .append, args := #[s, x], argTypes := #[t, t] }) (g5 n cap5 : Nat) (xs : List Value) (hs : a.eval s = .slice (some ⟨g5, 0, none⟩) n cap5)
    (hown : W.ownsRow W0.heap.size e size (.slice (some ⟨g5, 0, none⟩) n cap5) n xs) (hb : Below W0.heap.size W0 W)
    (ad : Addr) (m c : Nat) (news : List Value) (hx : a.eval x = .slice (some ad) m c) (hl : news.length = m * size) (h1 : ∀ u ∈ news, u.oneCell' = true) (hm : 0 < m) (hlen : n + m ≤ 1000000) (hby : bytes ≤ 1000)
    (hnews : ∀ j u, news[j]? = some u → W.cell? (ad.add j) = some u)
    (h : ∀ g cap W', W'.ownsRow W0.heap.size e size (.slice (some ⟨g, 0, none⟩) (n + m) cap) (n + m) (xs ++ news) → Below W0.heap.size W0 W' → K (a.put o.dst (.slice (some ⟨g, 0, none⟩) (n + m) cap)) W') :
    if Region.wanted o (yielded ops a.tmps) = true then Oper.wp Try.prog o a W K Q else F := by
  obtain ⟨i, z, hu, hi, hz0, hz1, hz2, hz3, hz4⟩ := E.ex
  rw [if_pos hw]
  refine wp_append_lies _ s x t ho W0.heap.size e i z size bytes hu hi hz0 hz1 hz2 hz3 hz4 _ n xs hs hown ad m c news hx hl hnews h1 hm (by unfold maxLen; omega) ?_ hb.size W.heap.size rfl ?_
  · exact Nat.le_trans (Nat.mul_le_mul hlen hby) (by decide)
  · intro g cap w' hr hg _ _
    exact h g cap w' hr (hb.grown hg hb.size (fun j hj => Nat.le_of_not_lt fun hlt => own_far hown hlt hj.symm))
theorem rd_row {W : World} {B g cap : Nat} {xs ys : List Int} (h : W.ownsRow B 3 1 (.slice (some ⟨g, 0, none⟩) (xs.length + ys.length) cap) (xs.length + ys.length) (xs.map intV ++ ys.map intV)) (h0 : 0 < xs.length) (h1 : xs.length + ys.length ≤ 96) : Reads W (.slice (some ⟨g, 0, none⟩) (xs ++ ys).length cap) (xs ++ ys) := by
  rw [← List.map_append, ← List.length_append] at h
  have hl : (xs ++ ys).length = xs.length + ys.length := List.length_append
  obtain ⟨k1, k2, _⟩ := ints_of_row h (by omega)
  exact ⟨_, _, rfl, by omega, fun _ => ⟨_, _, rfl, k2, k1⟩⟩
theorem call26u (n1 : Int) (p8 : Option Addr) (c8 g cap B : Nat) (xs ys : List Int) (W : World) (h0 : 0 < xs.length) (h1 : xs.length + ys.length ≤ 96) (hr : Reads W (.slice p8 (xs.length + ys.length) c8) (xs ++ ys)) (h : W.ownsRow B 3 1 (.slice (some ⟨g, 0, none⟩) (xs.length + ys.length) cap) (xs.length + ys.length) (xs.map intV ++ ys.map intV)) :
    Calls Try.prog 26 #[.agg #[.int .i64 n1, .slice p8 (xs.length + ys.length) c8], .agg #[.int .i64 n1, .slice (some ⟨g, 0, none⟩) (xs.length + ys.length) cap]] W fun e w' => e = .returned (.bool true) ∧ Below W.heap.size W w' := by
  have hS := refSame3_eq n1 p8 (some ⟨g, 0, none⟩) c8 cap (xs ++ ys) W (by rw [List.length_append]; omega) (by rw [List.length_append]; exact hr) (rd_row h h0 h1)
  rw [List.length_append] at hS
  exact hS
end Go.Proofs.Ytdmgffoikebgkaa
/- TieBesides: harnesses that are too large. -/
namespace Go.Proofs.Ytdmgffoikebgkaa
open Go.RowKit Go.Shelf
attribute [local go_sem] Oper.semAt_some

set_option maxRecDepth 100000 in
set_option maxHeartbeats 2000000 in
theorem TieBesides_large (n1 n2 : Int) (p1 p2 : Option Addr) (c1 c2 l1 l2 : Nat) (w : World) (hl : 110 < l1 ∨ 110 < l2) :
    Calls Try.prog 4 #[.agg #[.int .i64 n1, .slice p1 l1 c1], .agg #[.int .i64 n2, .slice p2 l2 c2]] w fun e w' => e = .returned (.bool true) ∧ Below w.heap.size w w' := by
  obtain ⟨w0, hw0⟩ : ∃ w0, w0 = (w.alloc (.cells #[.int .i64 n1, .slice p1 l1 c1] 26)).alloc (.cells #[.int .i64 n2, .slice p2 l2 c2] 26) := ⟨_, rfl⟩
  have hb0 : Below w.heap.size w w0 := by rw [hw0]; exact ((Below.refl _ _).alloc (Nat.le_refl _) _).alloc (by simp) _
  have hA : BoxAt w0 w.heap.size #[.int .i64 n1, .slice p1 l1 c1] 26 := by rw [hw0]; exact (BoxAt.new w _ _).next ((Below.refl _ _).alloc (Nat.le_refl _) _)
  have hP : BoxAt w0 (w.heap.size + 1) #[.int .i64 n2, .slice p2 l2 c2] 26 := by
    rw [hw0]; have := BoxAt.new (w.alloc (.cells #[.int .i64 n1, .slice p1 l1 c1] 26)) #[.int .i64 n2, .slice p2 l2 c2] 26; rw [World.size_alloc] at this; exact this
  have HW0 := Lib.hid hw0
  have Hb0 := Lib.hid hb0
  have HA := Lib.hid hA
  have HP := Lib.hid hP
  clear hw0 hb0 hA hP
  go_enter Try.func4, Try.ntmps4
  go_upto_region 1 with fail
  rw [← HW0.out]
  have a0 := HA.out.cell' 0 rfl
  have a1 := HA.out.cell' 1 rfl
  have H27 := tieLarge_any n1 p1 c1 l1 w0
  by_cases la : 110 < l1
  · rw [decide_eq_true la] at H27
    go_wp2_with fail
    refine H27.mono ?_
    rintro e W1 ⟨rfl, hb1⟩
    have Hb1 := Lib.hid (Hb0.out.trans (hb1.mono Hb0.out.size))
    clear hb1
    go_wp2_with fail
    refine (tieKnown _).mono ?_
    rintro e WK ⟨rfl, hbk⟩
    have Hend := Lib.hid (show Below w.heap.size w WK from Hb1.out.trans (hbk.mono (Hb1.out).size))
    clear hbk
    go_wp2_with fail
    go_ret
    exact ⟨rfl, Hend.out⟩
  have lb : 110 < l2 := by omega
  rw [decide_eq_false la] at H27
  go_wp2_with fail
  refine H27.mono ?_
  rintro e W1 ⟨rfl, hb1⟩
  have Hb1 := Lib.hid (Hb0.out.trans (hb1.mono Hb0.out.size))
  have HP1 := Lib.hid (HP.out.next hb1)
  clear hb1 a0 a1 HA HP Hb0 HW0 H27
  have b0 := HP1.out.cell' 0 rfl
  have b1 := HP1.out.cell' 1 rfl
  have H27 := tieLarge_any n2 p2 c2 l2 W1
  rw [decide_eq_true lb] at H27
  go_wp2_with fail
  refine H27.mono ?_
  rintro e W2 ⟨rfl, hb2⟩
  have Hb2 := Lib.hid (Hb1.out.trans (hb2.mono Hb1.out.size))
  clear hb2
  go_wp2_with fail
  refine (tieKnown _).mono ?_
  rintro e WK ⟨rfl, hbk⟩
  have Hend := Lib.hid (show Below w.heap.size w WK from Hb2.out.trans (hbk.mono (Hb2.out).size))
  clear hbk
  go_wp2_with fail
  go_ret
  exact ⟨rfl, Hend.out⟩
end Go.Proofs.Ytdmgffoikebgkaa
