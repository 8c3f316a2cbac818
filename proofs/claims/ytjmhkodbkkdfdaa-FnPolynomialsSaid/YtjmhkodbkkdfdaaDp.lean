/- Contracts: DividePolys (program and model). -/
import Derived.Test.YtjmhkodbkkdfdaaDs
namespace Go.Proofs.Ytjmhkodbkkdfdaa
open Go.RowKit
set_option linter.unusedVariables false
set_option linter.unusedSimpArgs false

/-- The three results of a call: two lists in zones of their own and a code. -/
def Res2 (w : World) (v u : List Int) (c : Int) (e : Ending) (w' : World) : Prop :=
  ∃ a1 c1 a2 c2, e = .returned (.tuple #[.slice a1 v.length c1, .slice a2 u.length c2, .int .i64 c]) ∧ ∃ lo hi lo2 hi2, (w.heap.size ≤ lo ∧ hi ≤ w'.heap.size ∧ w.heap.size ≤ lo2 ∧ hi2 ≤ w'.heap.size ∧ hi ≤ lo2) ∧
    OZ lo hi w' a1 v.length c1 v ∧ OZ lo2 hi2 w' a2 u.length c2 u ∧ v.length ≤ 100000 ∧ u.length ≤ 100000 ∧ Below w.heap.size w w'
theorem Res2.nil {w w' : World} {v u : List Int} {c c' : Int} (hv : v = []) (hu : u = []) (hc : c = c') (hb : Below w.heap.size w w') : Res2 w v u c (.returned (.tuple #[.slice none 0 0, .slice none 0 0, .int .i64 c'])) w' := by
  subst hv; subst hu; subst hc
  exact ⟨none, 0, none, 0, rfl, w.heap.size, w.heap.size, w.heap.size, w.heap.size, ⟨Nat.le_refl _, hb.size, Nat.le_refl _, hb.size, Nat.le_refl _⟩, ⟨SL.nil _, .inl rfl⟩, ⟨SL.nil _, .inl rfl⟩, by simp, by simp, hb⟩
theorem Res2.mk {w w1 w' : World} {v u q r : List Int} {c c' : Int} {a1 a2 : Option Addr} {n1 n2 c1 c2 M : Nat} (hv : v = q) (hu : u = r) (hc : c = c') (h1 : n1 = q.length) (h2 : n2 = r.length) (o1 : OZ w1.heap.size M w' a1 n1 c1 q) (o2 : OZ M w'.heap.size w' a2 n2 c2 r)
    (hw : w.heap.size ≤ w1.heap.size) (hM : w1.heap.size ≤ M) (hM' : M ≤ w'.heap.size) (hlq : q.length ≤ 100000) (hlr : r.length ≤ 100000) (hb : Below w.heap.size w w') : Res2 w v u c (.returned (.tuple #[.slice a1 n1 c1, .slice a2 n2 c2, .int .i64 c'])) w' := by
  subst hv; subst hu; subst hc; subst h1; subst h2
  exact ⟨a1, c1, a2, c2, rfl, w1.heap.size, M, M, w'.heap.size, ⟨hw, hM', by omega, Nat.le_refl _, Nat.le_refl _⟩, o1, o2, hlq, hlr, hb⟩
def divC (p : Int) (f g : List Int) : Int := if chk2 p f g = 0 then (if g.isEmpty then 5 else 0) else chk2 p f g
def divV (p : Int) (f g : List Int) : List Int := if divC p f g = 0 then quoM p f g else []
def divU (p : Int) (f g : List Int) : List Int := if divC p f g = 0 then remM p f g else []
theorem trimL_le (xs : List Int) : (trimL xs).length ≤ xs.length := by rw [trimL_len]; exact trimN_le _ _
theorem quoM_len (p : Int) (f g : List Int) : (quoM p f g).length ≤ f.length + 1 := by
  unfold quoM
  split
  · simp
  · refine Nat.le_trans (trimL_le _) ?_
    rw [tab_len]; omega
theorem remM_len (p : Int) (f g : List Int) : (remM p f g).length ≤ f.length := by
  unfold remM
  split
  · exact Nat.le_refl _
  · refine Nat.le_trans (trimL_le _) ?_
    rw [tab_len]
    exact Nat.le_refl _
theorem poly_last {p : Int} {f : List Int} {n : Nat} (h : polyB p f = true) (hl : f.length = n) (hn : 0 < n) : f.getD (n - 1) 0 ≠ 0 := by
  rcases (polyB_rng h).2.2 with h | h
  · subst h; simp at hl; omega
  · rwa [hl] at h
/-- 'divide' of polynomials, g other than 0. -/
theorem divide_any (p : Int) (a1 : Option Addr) (n1 c1 : Nat) (f : List Int) (a2 : Option Addr) (n2 c2 : Nat) (g : List Int) (w : World) (h1 : SL w a1 n1 c1 f) (h2 : SL w a2 n2 c2 g)
    (b1 : n1 ≤ 1000) (b2 : n2 ≤ 1000) (hn : 0 < n2) (hpr : primeB p = true) (hf : polyB p f = true) (hg : polyB p g = true) :
    Calls Try.prog 94 #[.int .i64 p, .slice a1 n1 c1, .slice a2 n2 c2] w (Pair w (quoM p f g) (remM p f g)) := by
  have hp := primeB_lo hpr
  by_cases h : n1 < n2
  · exact divide_short p a1 n1 c1 f a2 n2 c2 g w h1 h2 b1 b2 h hp.1 hp.2 (polyB_rng hg).2.1
  · exact divide_long p a1 n1 c1 f a2 n2 c2 (n1 - n2) g w h1 h2 b1 (by omega) (by omega) hn hpr (polyB_rng hf).2.1 (polyB_rng hg).2.1 (poly_last hf h1.len (by omega)) (poly_last hg h2.len hn)
theorem l01Divide_any (p : Int) (a1 : Option Addr) (n1 c1 : Nat) (f : List Int) (a2 : Option Addr) (n2 c2 : Nat) (g : List Int) (w : World) (h1 : SL w a1 n1 c1 f) (h2 : SL w a2 n2 c2 g)
    (b1 : n1 ≤ 1000) (b2 : n2 ≤ 1000) (hn : 0 < n2) (hpr : primeB p = true) (hf : polyB p f = true) (hg : polyB p g = true) :
    Calls Try.prog 95 #[.int .i64 p, .slice a1 n1 c1, .slice a2 n2 c2] w (Pair w (quoM p f g) (remM p f g)) := by
  have hp := primeB_lo hpr
  by_cases h : n1 < n2
  · exact l01Divide_short p a1 n1 c1 f a2 n2 c2 g w h1 h2 b1 b2 h
  · exact l01Divide_long p a1 n1 c1 f a2 n2 c2 (n1 - n2) g w h1 h2 b1 (by omega) (by omega) hn hp.1 hp.2 (polyB_rng hf).2.1 (polyB_rng hg).2.1
set_option maxRecDepth 100000 in
set_option maxHeartbeats 1600000 in
theorem implDividePolys (p : Int) (a1 : Option Addr) (n1 c1 : Nat) (f : List Int) (a2 : Option Addr) (n2 c2 : Nat) (g : List Int) (w : World) (h1 : SL w a1 n1 c1 f) (h2 : SL w a2 n2 c2 g) (b1 : n1 ≤ 4000000) (b2 : n2 ≤ 4000000) :
    Calls Try.prog 29 #[.int .i64 p, .slice a1 n1 c1, .slice a2 n2 c2] w (Res2 w (divV p f g) (divU p f g) (divC p f g)) := by
  have hl1 := hide h1.len
  have hl2 := hide h2.len
  rcases chk2_cases p f g with hc | hc | ⟨hc, hf, hg, hp⟩
  · have HC := hide (show divC p f g = 1 by simp [divC, hc])
    have HV := hide (show divV p f g = [] by simp [divV, HC.out])
    have HV2 := hide (show divU p f g = [] by simp [divU, HC.out])
    have Hc := hide hc
    clear hc
    go_enter Try.func29, Try.ntmps29
    go_wp2_with (go_at_call 79; refine (check2 p _ _ _ f _ _ _ g 1 _ h1 h2 b1 b2 Hc.out).mono ?_; rintro e w1 ⟨rfl, hb1⟩)
    go_ret3
    exact Res2.nil HV.out HV2.out HC.out hb1
  · have HC := hide (show divC p f g = 2 by simp [divC, hc])
    have HV := hide (show divV p f g = [] by simp [divV, HC.out])
    have HV2 := hide (show divU p f g = [] by simp [divU, HC.out])
    have Hc := hide hc
    clear hc
    go_enter Try.func29, Try.ntmps29
    go_wp2_with (go_at_call 79; refine (check2 p _ _ _ f _ _ _ g 2 _ h1 h2 b1 b2 Hc.out).mono ?_; rintro e w1 ⟨rfl, hb1⟩)
    go_ret3
    exact Res2.nil HV.out HV2.out HC.out hb1
  · have d1 : n1 ≤ 25 := by have := poly_len hf; have := hl1.out; omega
    have d2 : n2 ≤ 25 := by have := poly_len hg; have := hl2.out; omega
    have Hf := hide hf
    have Hg := hide hg
    have Hp := hide hp
    clear hf hg hp
    by_cases h0 : n2 = 0
    · have hge : g = [] := List.eq_nil_of_length_eq_zero (by rw [hl2.out, h0])
      have HC := hide (show divC p f g = 5 by unfold divC; rw [if_pos hc]; simp [hge])
      have HV := hide (show divV p f g = [] by simp [divV, HC.out])
      have HV2 := hide (show divU p f g = [] by simp [divU, HC.out])
      have Hc := hide hc
      subst h0
      clear hc hge
      go_enter Try.func29, Try.ntmps29
      go_wp2_with (go_at_call 79; refine (check2 p _ _ _ f _ _ _ g 0 _ h1 h2 b1 b2 Hc.out).mono ?_; rintro e w1 ⟨rfl, hb1⟩)
      go_ret3
      exact Res2.nil HV.out HV2.out HC.out hb1
    · have hge : g.isEmpty = false := by have := hl2.out; cases g with | nil => simp at this; omega | cons a l => rfl
      have HC := hide (show divC p f g = 0 by simp [divC, hc, hge])
      have HV := hide (show divV p f g = quoM p f g by simp [divV, HC.out])
      have HV2 := hide (show divU p f g = remM p f g by simp [divU, HC.out])
      have Hc := hide hc
      have h0b : ((n2 : Int) == 0) = false := by simpa using h0
      clear hc hge
      go_enter Try.func29, Try.ntmps29
      go_wp2_with fail
      refine (check2 p _ _ _ f _ _ _ g 0 _ h1 h2 b1 b2 Hc.out).mono ?_
      rintro e w1 ⟨rfl, hb1⟩
      go_wp2_with fail
      refine (divide_any p _ _ _ f _ _ _ g _ (h1.below hb1) (h2.below hb1) (by omega) (by omega) (by omega) Hp.out Hf.out Hg.out).mono ?_
      rintro e w2 ⟨a3, c3, a4, c4, M, rfl, o1, o2, hM1, hM2, hb2⟩
      go_wp2
      go_ret3
      exact Res2.mk HV.out HV2.out HC.out rfl rfl o1 o2 hb1.size hM1 hM2 (by have := quoM_len p f g; rw [hl1.out] at this; omega) (by have := remM_len p f g; rw [hl1.out] at this; omega) (bnext hb1 hb2)
set_option maxRecDepth 100000 in
set_option maxHeartbeats 1600000 in
theorem specDividePolys (p : Int) (a1 : Option Addr) (n1 c1 : Nat) (f : List Int) (a2 : Option Addr) (n2 c2 : Nat) (g : List Int) (w : World) (h1 : SL w a1 n1 c1 f) (h2 : SL w a2 n2 c2 g) (b1 : n1 ≤ 4000000) (b2 : n2 ≤ 4000000) :
    Calls Try.prog 30 #[.int .i64 p, .slice a1 n1 c1, .slice a2 n2 c2] w (Res2 w (divV p f g) (divU p f g) (divC p f g)) := by
  have hl1 := hide h1.len
  have hl2 := hide h2.len
  rcases chk2_cases p f g with hc | hc | ⟨hc, hf, hg, hp⟩
  · have HC := hide (show divC p f g = 1 by simp [divC, hc])
    have HV := hide (show divV p f g = [] by simp [divV, HC.out])
    have HV2 := hide (show divU p f g = [] by simp [divU, HC.out])
    have Hc := hide hc
    clear hc
    go_enter Try.func30, Try.ntmps30
    go_wp2_with (go_at_call 76; refine (code2 p _ _ _ f _ _ _ g 1 _ h1 h2 b1 b2 Hc.out).mono ?_; rintro e w1 ⟨rfl, hb1⟩)
    go_ret3
    exact Res2.nil HV.out HV2.out HC.out hb1
  · have HC := hide (show divC p f g = 2 by simp [divC, hc])
    have HV := hide (show divV p f g = [] by simp [divV, HC.out])
    have HV2 := hide (show divU p f g = [] by simp [divU, HC.out])
    have Hc := hide hc
    clear hc
    go_enter Try.func30, Try.ntmps30
    go_wp2_with (go_at_call 76; refine (code2 p _ _ _ f _ _ _ g 2 _ h1 h2 b1 b2 Hc.out).mono ?_; rintro e w1 ⟨rfl, hb1⟩)
    go_ret3
    exact Res2.nil HV.out HV2.out HC.out hb1
  · have d1 : n1 ≤ 25 := by have := poly_len hf; have := hl1.out; omega
    have d2 : n2 ≤ 25 := by have := poly_len hg; have := hl2.out; omega
    have Hf := hide hf
    have Hg := hide hg
    have Hp := hide hp
    clear hf hg hp
    by_cases h0 : n2 = 0
    · have hge : g = [] := List.eq_nil_of_length_eq_zero (by rw [hl2.out, h0])
      have HC := hide (show divC p f g = 5 by unfold divC; rw [if_pos hc]; simp [hge])
      have HV := hide (show divV p f g = [] by simp [divV, HC.out])
      have HV2 := hide (show divU p f g = [] by simp [divU, HC.out])
      have Hc := hide hc
      subst h0
      clear hc hge
      go_enter Try.func30, Try.ntmps30
      go_wp2_with (go_at_call 76; refine (code2 p _ _ _ f _ _ _ g 0 _ h1 h2 b1 b2 Hc.out).mono ?_; rintro e w1 ⟨rfl, hb1⟩)
      go_ret3
      exact Res2.nil HV.out HV2.out HC.out hb1
    · have hge : g.isEmpty = false := by have := hl2.out; cases g with | nil => simp at this; omega | cons a l => rfl
      have HC := hide (show divC p f g = 0 by simp [divC, hc, hge])
      have HV := hide (show divV p f g = quoM p f g by simp [divV, HC.out])
      have HV2 := hide (show divU p f g = remM p f g by simp [divU, HC.out])
      have Hc := hide hc
      have h0b : ((n2 : Int) == 0) = false := by simpa using h0
      clear hc hge
      go_enter Try.func30, Try.ntmps30
      go_wp2_with fail
      refine (code2 p _ _ _ f _ _ _ g 0 _ h1 h2 b1 b2 Hc.out).mono ?_
      rintro e w1 ⟨rfl, hb1⟩
      go_wp2_with fail
      refine (l01Divide_any p _ _ _ f _ _ _ g _ (h1.below hb1) (h2.below hb1) (by omega) (by omega) (by omega) Hp.out Hf.out Hg.out).mono ?_
      rintro e w2 ⟨a3, c3, a4, c4, M, rfl, o1, o2, hM1, hM2, hb2⟩
      go_wp2
      go_ret3
      exact Res2.mk HV.out HV2.out HC.out rfl rfl o1 o2 hb1.size hM1 hM2 (by have := quoM_len p f g; rw [hl1.out] at this; omega) (by have := remM_len p f g; rw [hl1.out] at this; omega) (bnext hb1 hb2)
end Go.Proofs.Ytjmhkodbkkdfdaa
