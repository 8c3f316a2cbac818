/- Contracts: GcdPolys (program and model). -/
import Derived.Test.YtnojmghmkoojfaaDp
namespace Go.Proofs.Ytnojmghmkoojfaa
open Go.RowKit
set_option linter.unusedVariables false
set_option linter.unusedSimpArgs false

theorem divR_low {p inv : Int} {f g : List Int} {D : Nat} (hp : primeB p = true) (hf : areB p f = true) (hg : g.length ≠ 0) (hinv : g.getD (g.length - 1) 0 * inv % p = 1) (hD : f.length = D + g.length) :
    ∀ i, i ≤ D + 1 → ∀ j, D + g.length ≤ j + i → divR p inv f g D i j = 0 := by
  intro i
  induction i with
  | zero => intro _ j hj; exact divR_far hD j (by omega)
  | succ i ih =>
    intro hi j hj
    by_cases e : j = D - i + g.length - 1
    · rw [e]; exact divR_top hp hf hg hinv
    · rw [divR]
      unfold divS
      rw [if_neg (by omega)]
      exact ih (by omega) j (by omega)
theorem trimL_at (xs : List Int) (j : Nat) (h : j < (trimL xs).length) : (trimL xs).getD j 0 = xs.getD j 0 := by
  rw [trimL_len] at h
  unfold trimL
  exact getD_take _ _ _ h
theorem areB_mk {p : Int} {xs : List Int} (h : ∀ j, j < xs.length → 0 ≤ xs.getD j 0 ∧ xs.getD j 0 < p) : areB p xs = true := by
  unfold areB
  rw [List.all_eq_true]
  intro x hx
  obtain ⟨j, hj, rfl⟩ := List.getElem_of_mem hx
  have := h j hj
  simp [hj] at this
  simp [okN, this]
theorem polyB_mk {p : Int} {xs : List Int} (h1 : xs.length ≤ 25) (h2 : areB p xs = true) (h3 : xs.length = 0 ∨ xs.getD (xs.length - 1) 0 ≠ 0) : polyB p xs = true := by
  unfold polyB lastZ
  rw [h2]
  rcases h3 with h | h
  · have : xs = [] := List.eq_nil_of_length_eq_zero h
    subst this; simp
  · simp only [decide_eq_true h1, Bool.true_and]
    have : (xs.getD (xs.length - 1) 0 == 0) = false := by simpa using h
    rw [this]; simp
theorem trimL_last (xs : List Int) : (trimL xs).length = 0 ∨ (trimL xs).getD ((trimL xs).length - 1) 0 ≠ 0 := by
  by_cases h : (trimL xs).length = 0
  · exact .inl h
  · refine .inr ?_
    rw [trimL_at _ _ (by omega), trimL_len]
    rw [trimL_len] at h
    exact trimN_last xs xs.length h
theorem polyB_trim {p : Int} {xs : List Int} (h1 : xs.length ≤ 25) (h2 : ∀ j, j < xs.length → 0 ≤ xs.getD j 0 ∧ xs.getD j 0 < p) : polyB p (trimL xs) = true :=
  polyB_mk (Nat.le_trans (trimL_le _) h1) (areB_mk fun j hj => by
    rw [trimL_at _ _ hj]
    exact h2 j (Nat.lt_of_lt_of_le hj (trimL_le _))) (trimL_last xs)
theorem remM_poly {p : Int} {f g : List Int} (hp : primeB p = true) (hf : polyB p f = true) (hg : polyB p g = true) : polyB p (remM p f g) = true := by
  have hl := primeB_lo hp
  unfold remM
  split
  · exact hf
  · refine polyB_trim (by rw [tab_len]; exact (polyB_rng hf).1) fun j hj => ?_
    rw [tab_len] at hj
    rw [tab_at _ _ _ hj]
    exact divR_rng hl.1 (polyB_rng hf).2.1 _ j
theorem quoM_poly {p : Int} {f g : List Int} (hp : primeB p = true) (hf : polyB p f = true) (hg : polyB p g = true) (hg0 : g.length ≠ 0) : polyB p (quoM p f g) = true := by
  have hl := primeB_lo hp
  unfold quoM
  split
  · rfl
  · refine polyB_trim (by rw [tab_len]; have := (polyB_rng hf).1; omega) fun j hj => ?_
    rw [tab_len] at hj
    rw [tab_at _ _ _ hj]
    unfold divQ
    split
    · exact divN_rng hl.1
    · omega
theorem remM_lt {p : Int} {f g : List Int} (hp : primeB p = true) (hf : polyB p f = true) (hg : polyB p g = true) (h0 : g.length ≠ 0) : (remM p f g).length < g.length := by
  have hl := primeB_lo hp
  unfold remM
  split
  · assumption
  · have hgl := poly_last hg rfl (show 0 < g.length by omega)
    have hr := areB_at (polyB_rng hg).2.1 (g.length - 1) (by omega)
    have hi : g.getD (g.length - 1) 0 * invM p (g.getD (g.length - 1) 0) % p = 1 := invM_mul hp (by omega) hr.2
    have hz := divR_low (inv := invM p (g.getD (g.length - 1) 0)) (D := f.length - g.length) hp (polyB_rng hf).2.1 h0 hi (by omega) (f.length - g.length + 1) (by omega)
    rw [trimL_len, tab_len]
    have hm : trimN (tab f.length (divR p (invM p (g.getD (g.length - 1) 0)) f g (f.length - g.length) (f.length - g.length + 1))) f.length = trimN (tab f.length (divR p (invM p (g.getD (g.length - 1) 0)) f g (f.length - g.length) (f.length - g.length + 1))) (g.length - 1) :=
      trimN_mono _ _ _ (by omega) (fun j h1 h2 => by rw [tab_at _ _ _ h2]; exact hz j (by omega))
    rw [hm]
    have := trimN_le (tab f.length (divR p (invM p (g.getD (g.length - 1) 0)) f g (f.length - g.length) (f.length - g.length + 1))) (g.length - 1)
    omega
def gcdL (p : Int) : Nat → List Int → List Int → List Int
  | 0, f, _ => f
  | k + 1, f, g => if g.isEmpty then f else gcdL p k g (remM p f g)
def gcdM (p : Int) (f g : List Int) : List Int := monM p (gcdL p (g.length + 1) f g)
def gcdC (p : Int) (f g : List Int) : Int := chk2 p f g
def gcdV (p : Int) (f g : List Int) : List Int := if gcdC p f g = 0 then gcdM p f g else []
theorem gcdL_poly {p : Int} (hp : primeB p = true) : ∀ (k : Nat) (f g : List Int), polyB p f = true → polyB p g = true → polyB p (gcdL p k f g) = true := by
  intro k
  induction k with
  | zero => intro f g h1 _; exact h1
  | succ k ih =>
    intro f g h1 h2
    unfold gcdL
    split
    · exact h1
    · exact ih _ _ h2 (remM_poly hp h1 h2)
theorem gcdM_len {p : Int} {f g : List Int} (hp : primeB p = true) (hf : polyB p f = true) (hg : polyB p g = true) : (gcdM p f g).length ≤ 1000 :=
  monM_len (by have := poly_len (gcdL_poly hp (g.length + 1) f g hf hg); omega)
set_option maxRecDepth 100000 in
set_option maxHeartbeats 1600000 in
theorem l01Gcd_any (p : Int) (a1 : Option Addr) (n1 c1 : Nat) (f : List Int) (a2 : Option Addr) (n2 c2 : Nat) (g : List Int) (w : World) (h1 : SL w a1 n1 c1 f) (h2 : SL w a2 n2 c2 g) (hpr : primeB p = true) (hf : polyB p f = true) (hg : polyB p g = true) :
    Calls Try.prog 74 #[.int .i64 p, .slice a1 n1 c1, .slice a2 n2 c2] w fun e w' => ∃ a' c', e = .returned (.slice a' (gcdM p f g).length c') ∧ Own w.heap.size w' a' c' (gcdM p f g) ∧ Below w.heap.size w w' := by
  have hl1 := hide h1.len
  have hl2 := hide h2.len
  have Hp := hide hpr
  obtain ⟨hp, hp2⟩ := primeB_lo hpr
  have Hf := hide hf
  have Hg := hide hg
  clear hpr hf hg
  go_enter Try.func74, Try.ntmps74
  go_wp2
  go_loopw [1, 2] (fun v1 v2 wr => ∃ (F G : List Int) (b1 b2 : Option Addr) (m1 m2 d1 d2 k : Nat), v1 = .slice b1 m1 d1 ∧ v2 = .slice b2 m2 d2 ∧ SL wr b1 m1 d1 F ∧ SL wr b2 m2 d2 G ∧ Hid (polyB p F = true) ∧ Hid (polyB p G = true) ∧ m2 < k ∧ Hid (gcdM p f g = monM p (gcdL p k F G)) ∧ Below w.heap.size w wr)
    (fun _ v2 _ => match v2 with | .slice _ k _ => k | _ => 0)
  case atStart => exact ⟨f, g, a1, a2, n1, n2, c1, c2, g.length + 1, rfl, rfl, h1, h2, Hf, Hg, by have := hl2.out; omega, rfl, Below.refl _ _⟩
  case round =>
    obtain ⟨F, G, b1, b2, m1, m2, d1, d2, k, rfl, rfl, s1, s2, HF, HG, hk, hv, hBr⟩ := hrel
    have L1 := hide s1.len
    have L2 := hide s2.len
    have q1 : m1 ≤ 25 := by have := poly_len HF.out; have := L1.out; omega
    have q2 : m2 ≤ 25 := by have := poly_len HG.out; have := L2.out; omega
    obtain ⟨k, rfl⟩ : ∃ j, k = j + 1 := ⟨k - 1, by omega⟩
    by_cases hpos : 0 < m2
    · have hpos' : (0 : Int) < (m2 : Int) := by omega
      have hne : G.isEmpty = false := by have := L2.out; cases G with | nil => simp at this; omega | cons a l => rfl
      have hv2 : Hid (gcdM p f g = monM p (gcdL p k G (remM p F G))) := hide (by rw [hv.out, gcdL, hne]; rfl)
      have hrl : (remM p F G).length < m2 := by
        have := remM_lt Hp.out HF.out HG.out (by rw [L2.out]; omega)
        rwa [L2.out] at this
      have hrp := hide (remM_poly Hp.out HF.out HG.out)
      obtain ⟨R, hR⟩ : ∃ R, remM p F G = R := ⟨_, rfl⟩
      rw [hR] at hv2 hrl hrp
      have HR := hide hR
      clear hR hv hne
      go_wp2_with fail
      refine (l01Divide_any p _ _ _ F _ _ _ G _ s1 s2 (by omega) (by omega) hpos Hp.out HF.out HG.out).mono ?_
      rintro e w2 ⟨a3, c3, a4, c4, M, rfl, o1, o2, hM1, hM2, hb2⟩
      rw [HR.out] at o2 ⊢
      have s2' := s2.below hb2
      have sR := o2.sl
      have hB2 := hBr.trans (hb2.mono hBr.size)
      clear o1 o2 s1 s2 hb2
      go_wp2
      go_roundw
      case rel => exact ⟨G, R, b2, a4, m2, R.length, d2, c4, k, rfl, rfl, s2', sR, HG, hrp, by omega, hv2, hB2⟩
      case measure => simpa using hrl
    · obtain rfl : m2 = 0 := by omega
      have hG0 := s2.empty
      have hv2 : Hid (gcdM p f g = monM p F) := hide (by rw [hv.out, gcdL, hG0]; rfl)
      clear hv hG0
      go_wp2_with (go_at_call 109; refine (l01Monic_any p _ _ _ F _ s1 (by omega) hp hp2 (poly_are HF.out)).mono ?_; rintro e w2 ⟨a', c', rfl, hown, hb2⟩)
      go_ret
      exact ⟨a', c', by rw [hv2.out]; rfl, by rw [hv2.out]; exact hown.mono hBr.size, hBr.trans (hb2.mono hBr.size)⟩
set_option maxRecDepth 100000 in
set_option maxHeartbeats 1600000 in
theorem implGcdPolys (p : Int) (a1 : Option Addr) (n1 c1 : Nat) (f : List Int) (a2 : Option Addr) (n2 c2 : Nat) (g : List Int) (w : World) (h1 : SL w a1 n1 c1 f) (h2 : SL w a2 n2 c2 g) (b1 : n1 ≤ 4000000) (b2 : n2 ≤ 4000000) :
    Calls Try.prog 110 #[.int .i64 p, .slice a1 n1 c1, .slice a2 n2 c2] w (Res1 w (gcdV p f g) (gcdC p f g)) := by
  have hl1 := hide h1.len
  have hl2 := hide h2.len
  rcases chk2_cases p f g with hc | hc | ⟨hc, hf, hg, hpr⟩
  · have HC := hide (show gcdC p f g = 1 by simp [gcdC, hc])
    have HV := hide (show gcdV p f g = [] by simp [gcdV, HC.out])
    have Hc := hide hc
    clear hc
    go_enter Try.func110, Try.ntmps110
    go_wp2_with (go_at_call 63; refine (check2 p _ _ _ f _ _ _ g 1 _ h1 h2 b1 b2 Hc.out).mono ?_; rintro e w1 ⟨rfl, hb1⟩)
    go_ret2
    exact Res1.nil HV.out HC.out hb1
  · have HC := hide (show gcdC p f g = 2 by simp [gcdC, hc])
    have HV := hide (show gcdV p f g = [] by simp [gcdV, HC.out])
    have Hc := hide hc
    clear hc
    go_enter Try.func110, Try.ntmps110
    go_wp2_with (go_at_call 63; refine (check2 p _ _ _ f _ _ _ g 2 _ h1 h2 b1 b2 Hc.out).mono ?_; rintro e w1 ⟨rfl, hb1⟩)
    go_ret2
    exact Res1.nil HV.out HC.out hb1
  · have HC := hide (show gcdC p f g = 0 by simp [gcdC, hc])
    have HV := hide (show gcdV p f g = gcdM p f g by simp [gcdV, HC.out])
    have Hc := hide hc
    have Hf := hide hf
    have Hg := hide hg
    have Hp := hide hpr
    obtain ⟨hp, hp2⟩ := primeB_lo hpr
    clear hc hf hg hpr
    go_enter Try.func110, Try.ntmps110
    go_wp2_with (go_at_call 63; refine (check2 p _ _ _ f _ _ _ g 0 _ h1 h2 b1 b2 Hc.out).mono ?_; rintro e w0 ⟨rfl, hb0⟩)
    go_loopw [1, 2] (fun v1 v2 wr => ∃ (F G : List Int) (b1 b2 : Option Addr) (m1 m2 d1 d2 k : Nat), v1 = .slice b1 m1 d1 ∧ v2 = .slice b2 m2 d2 ∧ SL wr b1 m1 d1 F ∧ SL wr b2 m2 d2 G ∧ Hid (polyB p F = true) ∧ Hid (polyB p G = true) ∧ m2 < k ∧ Hid (gcdM p f g = monM p (gcdL p k F G)) ∧ Below w.heap.size w wr)
      (fun _ v2 _ => match v2 with | .slice _ k _ => k | _ => 0)
    case atStart => exact ⟨f, g, a1, a2, n1, n2, c1, c2, g.length + 1, rfl, rfl, h1.below hb0, h2.below hb0, Hf, Hg, by have := hl2.out; omega, rfl, hb0⟩
    case round =>
      obtain ⟨F, G, b1', b2', m1, m2, d1, d2, k, rfl, rfl, s1, s2, HF, HG, hk, hv, hBr⟩ := hrel
      clear hb0
      have L1 := hide s1.len
      have L2 := hide s2.len
      have q1 : m1 ≤ 25 := by have := poly_len HF.out; have := L1.out; omega
      have q2 : m2 ≤ 25 := by have := poly_len HG.out; have := L2.out; omega
      obtain ⟨k, rfl⟩ : ∃ j, k = j + 1 := ⟨k - 1, by omega⟩
      by_cases hpos : 0 < m2
      · have hpos' : (0 : Int) < (m2 : Int) := by omega
        have hne : G.isEmpty = false := by have := L2.out; cases G with | nil => simp at this; omega | cons a l => rfl
        have hv2 : Hid (gcdM p f g = monM p (gcdL p k G (remM p F G))) := hide (by rw [hv.out, gcdL, hne]; rfl)
        have hrl : (remM p F G).length < m2 := by
          have := remM_lt Hp.out HF.out HG.out (by rw [L2.out]; omega)
          rwa [L2.out] at this
        have hrp := hide (remM_poly Hp.out HF.out HG.out)
        obtain ⟨R, hR⟩ : ∃ R, remM p F G = R := ⟨_, rfl⟩
        rw [hR] at hv2 hrl hrp
        have HR := hide hR
        clear hR hv hne
        go_wp2_with fail
        refine (divide_any p _ _ _ F _ _ _ G _ s1 s2 (by omega) (by omega) hpos Hp.out HF.out HG.out).mono ?_
        rintro e w2 ⟨a3, c3, a4, c4, M, rfl, o1, o2, hM1, hM2, hb2⟩
        rw [HR.out] at o2 ⊢
        have s2' := s2.below hb2
        have sR := o2.sl
        have hB2 := hBr.trans (hb2.mono hBr.size)
        clear o1 o2 s1 s2 hb2
        go_wp2
        go_roundw
        case rel => exact ⟨G, R, b2', a4, m2, R.length, d2, c4, k, rfl, rfl, s2', sR, HG, hrp, by omega, hv2, hB2⟩
        case measure => simpa using hrl
      · obtain rfl : m2 = 0 := by omega
        have hG0 := s2.empty
        have hv2 : Hid (gcdM p f g = monM p F) := hide (by rw [hv.out, gcdL, hG0]; rfl)
        clear hv hG0
        go_wp2_with (go_at_call 120; refine (monic_any p _ _ _ F _ s1 (by omega) hp hp2 (poly_are HF.out)).mono ?_; rintro e w2 ⟨a', c', rfl, hown, hb2⟩)
        go_ret2
        exact Res1.own HC.out (by rw [HV.out, hv2.out]) (by rw [HV.out, hv2.out]; exact hown.mono hBr.size) (by rw [HV.out]; exact Nat.le_trans (gcdM_len Hp.out Hf.out Hg.out) (by omega)) (hBr.trans (hb2.mono hBr.size))
end Go.Proofs.Ytnojmghmkoojfaa
