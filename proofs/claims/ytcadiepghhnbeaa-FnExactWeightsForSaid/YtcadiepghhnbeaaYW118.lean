/- Merged texts. -/
import Derived.Test.YtcadiepghhnbeaaYW19
import Derived.Test.YtcadiepghhnbeaaYW110
import Derived.Test.YtcadiepghhnbeaaYW112
import Derived.Test.YtcadiepghhnbeaaYW117
import Derived.BigRegion
import Derived.Deep.RegionHeld3
import Derived.Deep.DeepFit
import Derived.Test.YtcadiepghhnbeaaYW18
/- Contracts: l01Points, interpolate, l01Interpolate, InterpolatePoly (program and model). -/
namespace Go.Proofs.Ytcadiepghhnbeaa
open Go.RowKit
set_option linter.unusedVariables false
set_option linter.unusedSimpArgs false

theorem mulpI {p : Int} {f g : List Int} (hp : primeB p = true) (hf : polyB p f = true) (hg : polyB p g = true) (hl : (mulM p f g).length ≤ 25) : polyB p (mulM p f g) = true := by
  have hpl := primeB_lo hp
  have := polyB_trim (p := p) (xs := mulM p f g) hl (fun j hj => areB_at (mulM_areB hpl.1 f g) j hj)
  rwa [mulM_trim hp hf hg] at this
theorem timesT (p : Int) (a1 : Option Addr) (n1 c1 : Nat) (f : List Int) (a2 : Option Addr) (n2 c2 : Nat) (g : List Int) (w : World) (h1 : SL w a1 n1 c1 f) (h2 : SL w a2 n2 c2 g)
    (b1 : n1 ≤ 1000) (b2 : n2 ≤ 1000) (hp : 2 ≤ p) (hp2 : p ≤ 10007) (hf : areB p f = true) (hg : areB p g = true) (ht : trimL (mulM p f g) = mulM p f g) :
    Calls Try.prog 78 #[.int .i64 p, .slice a1 n1 c1, .slice a2 n2 c2] w fun e w' => ∃ a' c', e = .returned (.slice a' (mulM p f g).length c') ∧ Own w.heap.size w' a' c' (mulM p f g) ∧ Below w.heap.size w w' := by
  have := l01Times_any p a1 n1 c1 f a2 n2 c2 g w h1 h2 b1 b2 hp hp2 hf hg
  rwa [ht] at this
/-- The polynomial that was found, and the product of x less the nodes, behind so many nodes. -/
def itpF (p : Int) (xs ys : List Int) : Nat → List Int × List Int
  | 0 => ([], [1])
  | i + 1 =>
    let s := itpF p xs ys i
    (addM p s.1 s.2 ((ys.getD i 0 - evM p s.1 (xs.getD i 0)) % p * invM p (evM p s.2 (xs.getD i 0)) % p), mulM p s.2 (linM p (xs.getD i 0)))
theorem itp_q {p : Int} (hp : primeB p = true) (xs ys : List Int) : ∀ i, areB p (itpF p xs ys i).2 = true ∧ (itpF p xs ys i).2.length ≤ i + 1 ∧ (i ≤ 24 → polyB p (itpF p xs ys i).2 = true) := by
  have hpl := primeB_lo hp
  intro i
  induction i with
  | zero => refine ⟨?_, ?_, fun _ => ?_⟩ <;> simp [itpF, areB, okN, polyB, lastZ] <;> omega
  | succ i ih =>
    have hlen : (itpF p xs ys (i + 1)).2.length ≤ i + 1 + 1 := by
      show (mulM p (itpF p xs ys i).2 (linM p (xs.getD i 0))).length ≤ _
      rcases mulM_up (p := p) (f := (itpF p xs ys i).2) (g := linM p (xs.getD i 0)) with h | ⟨_, _, h⟩
      · omega
      · rw [h]; have : (linM p (xs.getD i 0)).length = 2 := rfl; omega
    exact ⟨mulM_are hpl.1, hlen, fun h => mulpI hp (ih.2.2 (by omega)) (linM_poly hpl.1) (by have := hlen; show (itpF p xs ys (i + 1)).2.length ≤ 25; omega)⟩
theorem itp_f {p : Int} (hp : primeB p = true) (xs ys : List Int) : ∀ i, i ≤ 25 → areB p (itpF p xs ys i).1 = true ∧ (itpF p xs ys i).1.length ≤ i := by
  have hpl := primeB_lo hp
  intro i
  induction i with
  | zero => intro _; exact ⟨rfl, by simp [itpF]⟩
  | succ i ih =>
    intro hi
    replace ih := ih (by omega)
    refine ⟨(polyB_rng (addM_poly hpl.1 (by have := ih.2; omega) (by have := (itp_q hp xs ys i).2.1; omega) ih.1)).2.1, ?_⟩
    show (addM p _ _ _).length ≤ _
    unfold addM
    refine Nat.le_trans (trimL_le _) ?_
    rw [tab_len]
    have := (itp_q hp xs ys i).2.1
    omega
theorem itp_trim {p : Int} (hp : primeB p = true) (xs ys : List Int) (i : Nat) (hi : i ≤ 24) : trimL (mulM p (itpF p xs ys i).2 (linM p (xs.getD i 0))) = mulM p (itpF p xs ys i).2 (linM p (xs.getD i 0)) :=
  mulM_trim hp ((itp_q hp xs ys i).2.2 hi) (linM_poly (primeB_lo hp).1)
def itpC (p : Int) (xs ys : List Int) : Int := if primeB p && decide (xs.length ≤ 25) && decide (ys.length = xs.length) && areB p xs && areB p ys && difB xs then 0 else 2
def itpV (p : Int) (xs ys : List Int) : List Int := if itpC p xs ys = 0 then (itpF p xs ys xs.length).1 else []
set_option maxRecDepth 100000 in
set_option maxHeartbeats 1600000 in
theorem interpolate_any (p : Int) (a1 : Option Addr) (n c1 : Nat) (xs : List Int) (a2 : Option Addr) (c2 : Nat) (ys : List Int) (w : World) (h1 : SL w a1 n c1 xs) (h2 : SL w a2 n c2 ys) (hn : n ≤ 25) (hpr : primeB p = true) (hx : areB p xs = true) (hy : areB p ys = true) :
    Calls Try.prog 151 #[.int .i64 p, .slice a1 n c1, .slice a2 n c2] w fun e w' => ∃ a' c', e = .returned (.slice a' (itpF p xs ys n).1.length c') ∧ Own w.heap.size w' a' c' (itpF p xs ys n).1 ∧ Below w.heap.size w w' := by
  obtain ⟨hp, hp2⟩ := primeB_lo hpr
  have Hp := hide hpr
  have Hx := hide hx
  have Hy := hide hy
  clear hpr hx hy
  have hb0 := bl2 w (.cells #[] 2) (.cells #[.int .i64 1] 2)
  have hF0 : Hid (Own w.heap.size ((w.alloc (.cells #[] 2)).alloc (.cells #[.int .i64 1] 2)) (some ⟨w.heap.size, 0, none⟩) 0 (itpF p xs ys 0).1) := hide (by
    have h : Own w.heap.size (w.alloc (.cells #[] 2)) (some ⟨w.heap.size, 0, none⟩) 0 [] := World.ownsRow_lit w (base := w.heap.size) (e := 2) (size := 1) #[] 0 (Nat.le_refl _) (by decide) rfl
    exact h.below (bl1 _ _))
  have hQ0 : Hid (Own w.heap.size ((w.alloc (.cells #[] 2)).alloc (.cells #[.int .i64 1] 2)) (some ⟨w.heap.size + 1, 0, none⟩) 1 (itpF p xs ys 0).2) := hide (by
    have h : Own (w.alloc (.cells #[] 2)).heap.size ((w.alloc (.cells #[] 2)).alloc (.cells #[.int .i64 1] 2)) (some ⟨(w.alloc (.cells #[] 2)).heap.size, 0, none⟩) 1 [1] := World.ownsRow_lit _ (base := (w.alloc (.cells #[] 2)).heap.size) (e := 2) (size := 1) #[.int .i64 1] 1 (Nat.le_refl _) (by decide) rfl
    simp only [World.size_alloc] at h
    exact h.mono (by omega))
  by_cases h0 : n = 0
  · subst h0
    go_enter Try.func151, Try.ntmps151
    go_wp2
    refine wp_loop_rounds 1 ?_
    rw [rounds_succ]
    go_wp2
    refine bodyPost_ret (v := .slice (some ⟨w.heap.size, 0, none⟩) 0 0) (by simp [results, Try.results151]) rfl ?_
    exact ⟨_, _, rfl, hF0.out, hb0⟩
  obtain ⟨b1, o1, rfl, hw1, hc1⟩ := h1.at (by omega)
  obtain ⟨b2, o2, rfl, hw2, hc2⟩ := h2.at (by omega)
  have H1 := hide hc1
  have H2 := hide hc2
  clear h1 h2 hc1 hc2
  go_enter Try.func151, Try.ntmps151
  go_wp2
  go_loopw [7, 8, 17] (fun fv qv iv wr => ∃ (i : Nat) (a c a' c' : _) , i ≤ n ∧ iv = .int .i64 i ∧ fv = .slice a (itpF p xs ys i).1.length c ∧ qv = .slice a' (itpF p xs ys i).2.length c' ∧ Hid (Own w.heap.size wr a c (itpF p xs ys i).1) ∧ Hid (Own w.heap.size wr a' c' (itpF p xs ys i).2) ∧ Below w.heap.size w wr) (fun _ _ iv _ => n - (intOf iv).toNat)
  case atStart => exact ⟨0, _, _, _, _, by omega, rfl, rfl, rfl, hF0, hQ0, hb0⟩
  case round =>
    obtain ⟨i, a, c, a', c', hi, rfl, rfl, rfl, hF, hQ, hb⟩ := hrel
    clear hF0 hQ0 hb0
    by_cases hlt : i < n
    · have e1 := cell_be hb (H1.out i hlt)
      have e2 := cell_be hb (H2.out i hlt)
      have r1 := getD_rng Hx.out hp i
      have r2 := getD_rng Hy.out hp i
      have tf := hide (itp_f Hp.out xs ys i (by omega))
      have tq := hide (itp_q Hp.out xs ys i)
      have hstF : Hid ((itpF p xs ys (i + 1)).1 = addM p (itpF p xs ys i).1 (itpF p xs ys i).2 ((ys.getD i 0 - evM p (itpF p xs ys i).1 (xs.getD i 0)) % p * invM p (evM p (itpF p xs ys i).2 (xs.getD i 0)) % p)) := hide rfl
      have hstQ : Hid ((itpF p xs ys (i + 1)).2 = mulM p (itpF p xs ys i).2 (linM p (xs.getD i 0))) := hide rfl
      obtain ⟨f, hf⟩ : ∃ f, (itpF p xs ys i).1 = f := ⟨_, rfl⟩
      obtain ⟨q, hq⟩ : ∃ q, (itpF p xs ys i).2 = q := ⟨_, rfl⟩
      obtain ⟨x, hx⟩ : ∃ x, xs.getD i 0 = x := ⟨_, rfl⟩
      obtain ⟨y, hy⟩ : ∃ y, ys.getD i 0 = y := ⟨_, rfl⟩
      rw [hf] at tf hF hstF ⊢
      rw [hq] at tq hQ hstF hstQ ⊢
      rw [hx] at e1 r1 hstF hstQ
      rw [hy] at e2 r2 hstF
      clear hf hq hx hy
      have lf := tf.out.2
      have lq := tq.out.2.1
      have rE := evM_rng hp f x
      have rE2 := evM_rng hp q x
      have rI := invM_rng (p := p) (evM p q x) hp
      have hsub : Hid ((y + p - evM p f x) % p = (y - evM p f x) % p) := hide (by rw [show y + p - evM p f x = y - evM p f x + p by omega, Int.add_emod_right])
      have rM := modb (x := y - evM p f x) hp
      obtain ⟨E, hE⟩ : ∃ E, evM p f x = E := ⟨_, rfl⟩
      obtain ⟨E2, hE2⟩ : ∃ E2, evM p q x = E2 := ⟨_, rfl⟩
      obtain ⟨I, hI⟩ : ∃ I, invM p E2 = I := ⟨_, rfl⟩
      obtain ⟨M, hM⟩ : ∃ M, (y - E) % p = M := ⟨_, rfl⟩
      have HE := hide hE
      have HE2 := hide hE2
      have HI := hide hI
      rw [hE] at rE hsub hstF rM
      rw [hE2] at rE2 hstF rI
      rw [hI] at rI hstF
      rw [hM] at hstF rM hsub
      clear hE hE2 hI hM
      obtain ⟨m1, m2⟩ := mulb rM.1 rM.2 rI.1 rI.2 hp2
      have rK := modb (x := M * I) hp
      have v1 : IntKind.i64.wrap (y + p) = y + p := IntWalk.i64_in _ (by omega)
      have v2 : IntKind.i64.wrap (y + p - E) = y + p - E := IntWalk.i64_in _ (by omega)
      have v3 : (y + p - E).tmod p = M := by rw [Int.tmod_eq_emod_of_nonneg (by omega)]; exact hsub.out
      have v4 : IntKind.i64.wrap M = M := IntWalk.i64_in _ (by omega)
      have v5 : IntKind.i64.wrap (M * I) = M * I := IntWalk.i64_in _ (by omega)
      have v6 : (M * I).tmod p = M * I % p := Int.tmod_eq_emod_of_nonneg (by omega)
      obtain ⟨K, hK⟩ : ∃ K, M * I % p = K := ⟨_, rfl⟩
      rw [hK] at v6 rK hstF
      have v7 : IntKind.i64.wrap K = K := IntWalk.i64_in _ (by omega)
      clear hK
      have hp0 : ¬ p = 0 := by omega
      have hlt' : (i : Int) < (n : Int) := by omega
      have hi0 : (0 : Int) ≤ (i : Int) := by omega
      have hbd := (Below.refl wr.heap.size wr).drew
      have sF := Own.sl hF.out
      have sQ := Own.sl hQ.out
      go_upto_region 5 with fail
      go_region_held3 (fun w' => w'.cell? ⟨b2, o2 + i, none⟩ = some (.int .i64 y))
        (first | exact cell_be hbd e2 | exact cell_be (by assumption) e2)
        (first | (go_at_call 153; go_fit (evaluateAt_any p x _ _ _ f _ (sF.below hbd) (by omega) hp hp2 r1.1 r1.2 tf.out.1); rintro e w1 ⟨rfl, hb1⟩; rw [HE.out]; have hm1 := bnext hbd hb1))
      have hb3 := hb.trans (hm1.mono hb.size)
      clear e1 e2 hbd
      have sF1 := sF.below hm1
      have sQ1 := sQ.below hm1
      go_wp2_with fail
      refine (evaluateAt_any p x _ _ _ q _ sQ1 (by omega) hp hp2 r1.1 r1.2 tq.out.1).mono ?_
      rintro e w2 ⟨rfl, hb2⟩
      rw [HE2.out]
      go_wp2_with fail
      refine (inverse_any p E2 _ hp hp2 rE2.1 rE2.2).mono ?_
      rintro e w3 ⟨rfl, hb4⟩
      rw [HI.out]
      have hc3 := bnext hb2 hb4
      go_wp2_with fail
      refine (addMultiple_any p K _ _ _ f _ _ _ q _ (sF1.below hc3) (sQ1.below hc3) (by omega) (by omega) hp hp2 rK.1 rK.2 tf.out.1 tq.out.1).mono ?_
      rintro e w4 ⟨aF, cF, rfl, oF, hb5⟩
      have hc4 := bnext hc3 hb5
      go_wp2_with fail
      refine (linear_any p x _ hp hp2 r1.1 r1.2).mono ?_
      rintro e w5 ⟨rfl, oL, hb6⟩
      have hc5 := bnext hc4 hb6
      have sL := Own.sl oL
      go_wp2_with fail
      refine (multiply_any p _ _ _ q _ _ _ (linM p x) _ (sQ1.below hc5) sL (by omega) (show 2 ≤ 1000 by omega) hp hp2 tq.out.1 (polyB_rng (linM_poly hp)).2.1).mono ?_
      rintro e w6 ⟨aQ, cQ, rfl, oQ, hb7⟩
      have hc6 := bnext hc5 hb7
      have hbN := hb3.trans (hc6.mono hb3.size)
      have z1 := hb3.size
      have z3 := hc3.size
      have z5 := hc5.size
      have nF : Hid (Own w.heap.size w6 aF cF (itpF p xs ys (i + 1)).1) := hide (by rw [hstF.out]; exact ((oF.below hb6).below hb7).mono (by omega))
      have nQ : Hid (Own w.heap.size w6 aQ cQ (itpF p xs ys (i + 1)).2) := hide (by rw [hstQ.out]; exact oQ.mono (by omega))
      go_wp2
      go_roundw
      case rel => exact ⟨i + 1, aF, cF, aQ, cQ, by omega, by go_num, by rw [hstF.out], by rw [hstQ.out], nF, nQ, hbN⟩
      case measure => simp [intOf]; omega
    · obtain rfl : i = n := by omega
      have hlt' : ¬ (i : Int) < (i : Int) := by omega
      have lf := hide (itp_f Hp.out xs ys i hn)
      obtain ⟨f, hf⟩ : ∃ f, (itpF p xs ys i).1 = f := ⟨_, rfl⟩
      rw [hf] at hF ⊢
      have HF := hide hf
      clear hf
      go_wp2
      refine bodyPost_ret (v := .slice a f.length c) (by simp [results, Try.results151]) rfl ?_
      rw [HF.out]
      exact ⟨_, _, rfl, hF.out, hb⟩
end Go.Proofs.Ytcadiepghhnbeaa
/- Plain mathematics: quotient times divisor and rest together are the dividend; the greatest common divisor divides both. No program. -/
namespace Go.Proofs.Ytcadiepghhnbeaa
open Go.RowKit
set_option linter.unusedVariables false
set_option linter.unusedSimpArgs false
theorem tab_are' {p : Int} {n : Nat} {h : Nat → Int} (e : ∀ j, j < n → 0 ≤ h j ∧ h j < p) : areB p (tab n h) = true := areB_mk fun j hj => by
  rw [tab_len] at hj
  rw [tab_at _ _ _ hj]
  exact e j hj
theorem cf_tab (n : Nat) (h : Nat → Int) (j : Nat) : cf (tab n h) j = if j < n then h j else 0 := by
  by_cases e : j < n
  · rw [if_pos e]; exact tab_at _ _ _ e
  · rw [if_neg e]; exact cf_far (by rw [tab_len]; omega)
theorem cf_trim (xs : List Int) (j : Nat) : cf (trimL xs) j = cf xs j := by
  by_cases h : j < (trimL xs).length
  · exact trimL_at xs j h
  · rw [cf_far (by omega)]
    rw [trimL_len] at h
    by_cases e : j < xs.length
    · exact (trimN_zero_from xs xs.length j (by omega) e).symm
    · rw [cf_far (by omega)]
theorem cf_add {p : Int} (hp : 2 ≤ p) {f : List Int} (hf : areB p f = true) (g : List Int) (k : Int) (j : Nat) : cf (addM p f g k) j = (cf f j + k * cf g j) % p := by
  unfold addM
  rw [cf_trim, cf_tab]
  have hr := cf_rng hp hf j
  by_cases e : j < max f.length g.length
  · rw [if_pos e]
    unfold sumH
    split
    · rfl
    · rw [cf_far (f := g) (by omega), Int.mul_zero, Int.add_zero, Int.emod_eq_of_lt hr.1 hr.2]; rfl
  · rw [if_neg e, cf_far (by omega), cf_far (f := g) (by omega)]; simp
/-- No 0 at the end. -/
def Can (xs : List Int) : Prop := xs.length = 0 ∨ cf xs (xs.length - 1) ≠ 0
theorem can_trim (xs : List Int) : Can (trimL xs) := trimL_last xs
theorem can_poly {p : Int} {f : List Int} (h : polyB p f = true) : Can f := by
  rcases (polyB_rng h).2.2 with h | h
  · exact .inl (by rw [h]; rfl)
  · exact .inr h
theorem can_ext {xs ys : List Int} (h1 : Can xs) (h2 : Can ys) (h : ∀ j, cf xs j = cf ys j) : xs = ys := by
  have hl : ∀ {xs ys : List Int}, Can xs → (∀ j, cf xs j = cf ys j) → xs.length ≤ ys.length := fun {xs ys} h1 h => by
    rcases h1 with h1 | h1
    · omega
    · by_cases e : xs.length ≤ ys.length
      · exact e
      · exfalso
        apply h1
        rw [h, cf_far (by omega)]
  exact ext_cf (Nat.le_antisymm (hl h1 h) (hl h2 (fun j => (h j).symm))) h
theorem can_nil {xs : List Int} (h1 : Can xs) (h : ∀ j, cf xs j = 0) : xs = [] := can_ext h1 (.inl rfl) (fun j => by rw [h]; rfl)
theorem cv_add (F F' G : Nat → Int) (j : Nat) : cv (fun i => F i + F' i) G j = cv F G j + cv F' G j := by
  unfold cv
  rw [← sm_add]
  apply sm_congr
  intro k _
  rw [Int.add_mul]
theorem cv_scale (a : Int) (F G : Nat → Int) (j : Nat) : cv (fun i => a * F i) G j = a * cv F G j := by
  unfold cv
  rw [← sm_mul]
  apply sm_congr
  intro k _
  rw [Int.mul_assoc]
theorem cv_scale_r (a : Int) (F G : Nat → Int) (j : Nat) : cv F (fun i => a * G i) j = a * cv F G j := by rw [cv_comm, cv_scale, cv_comm]
theorem cv_zero (G : Nat → Int) (j : Nat) : cv (fun _ => 0) G j = 0 :=
  sm_ext (fun i => (0 : Int) * G (j - i)) 0 (j + 1) (by omega) (fun k _ _ => by simp)
theorem sm_one (f : Nat → Int) (a n : Nat) (h : ∀ k, k ≠ a → f k = 0) : sm n f = if a < n then f a else 0 := by
  induction n with
  | zero => rfl
  | succ n ih =>
    rw [sm, ih]
    by_cases e : a = n
    · subst e; rw [if_neg (by omega), if_pos (by omega), Int.zero_add]
    · rw [h n (fun x => e x.symm), Int.add_zero]
      by_cases e2 : a < n
      · rw [if_pos e2, if_pos (by omega)]
      · rw [if_neg e2, if_neg (by omega)]
theorem cv_delta (q : Int) (a : Nat) (G : Nat → Int) (j : Nat) : cv (fun i => if i = a then q else 0) G j = if a ≤ j then q * G (j - a) else 0 := by
  unfold cv
  rw [sm_one _ a _ (fun k hk => by
    show (if k = a then q else 0) * G (j - k) = 0
    rw [if_neg hk, Int.zero_mul])]
  show (if a < j + 1 then (if a = a then q else 0) * G (j - a) else 0) = _
  rw [if_pos (rfl : a = a)]
  by_cases e : a ≤ j
  · rw [if_pos e, if_pos (by omega)]
  · rw [if_neg e, if_neg (by omega)]
theorem cv_congr {F F' G G' : Nat → Int} (j : Nat) (h : ∀ i, i ≤ j → F i = F' i) (h2 : ∀ i, i ≤ j → G i = G' i) : cv F G j = cv F' G' j := by
  unfold cv
  apply sm_congr
  intro k hk
  rw [h k (by omega), h2 _ (by omega)]
/-- The quotient so far as numbers. -/
def dq (p inv : Int) (f g : List Int) (D i : Nat) : Nat → Int := fun j => if j ≤ D then divQ p inv f g D i j else 0
theorem dq_step (p inv : Int) (f g : List Int) (D i : Nat) (hi : i ≤ D) : dq p inv f g D (i + 1) = fun j => dq p inv f g D i j + if j = D - i then divN p inv f g D i else 0 := by
  funext j
  unfold dq divQ
  by_cases e : j = D - i
  · subst e
    rw [if_pos (by omega), if_pos (by omega), if_pos (by omega), if_neg (by omega), if_pos rfl, show D - (D - i) = i by omega, Int.zero_add]
  · rw [if_neg e, Int.add_zero]
    by_cases h : j ≤ D
    · rw [if_pos h, if_pos h]
      by_cases h2 : D < j + i
      · rw [if_pos h2, if_pos (by omega)]
      · rw [if_neg h2, if_neg (by omega)]
    · rw [if_neg h, if_neg h]
theorem div_inv {p inv : Int} {f g : List Int} {D : Nat} (hp : 2 ≤ p) (hf : areB p f = true) : ∀ i, i ≤ D + 1 → ∀ j, cf f j % p = (cv (dq p inv f g D i) (cf g) j + divR p inv f g D i j) % p := by
  intro i
  induction i with
  | zero =>
    intro _ j
    have e : cv (dq p inv f g D 0) (cf g) j = 0 := by
      rw [← cv_zero (cf g) j]
      apply cv_congr j _ (fun _ _ => rfl)
      intro i _
      unfold dq divQ
      split
      · rw [if_neg (by omega)]
      · rfl
    rw [e, Int.zero_add]; rfl
  | succ i ih =>
    intro hi j
    rw [ih (by omega) j, dq_step _ _ _ _ _ _ (by omega), cv_add, cv_delta]
    have e : divR p inv f g D (i + 1) j % p = (divR p inv f g D i j - if D - i ≤ j then divN p inv f g D i * cf g (j - (D - i)) else 0) % p := by
      rw [divR]
      unfold divS
      by_cases h : D - i ≤ j ∧ j < D - i + g.length
      · rw [if_pos h, if_pos h.1, Int.emod_emod]; rfl
      · rw [if_neg h]
        by_cases h2 : D - i ≤ j
        · rw [if_pos h2, cf_far (f := g) (by omega), Int.mul_zero, Int.sub_zero]
        · rw [if_neg h2, Int.sub_zero]
    rw [Int.add_emod _ (divR p inv f g D (i + 1) j), e, ← Int.add_emod]
    congr 1
    omega
theorem div_back {p : Int} {f g : List Int} (hp : primeB p = true) (hf : polyB p f = true) (hg : polyB p g = true) (h0 : g.length ≠ 0) (j : Nat) : cf f j = (cv (cf (quoM p f g)) (cf g) j + cf (remM p f g) j) % p := by
  have hl := primeB_lo hp
  have hfa := (polyB_rng hf).2.1
  have hr := cf_rng hl.1 hfa j
  have hfj : cf f j = cf f j % p := (Int.emod_eq_of_lt hr.1 hr.2).symm
  by_cases h : f.length < g.length
  · unfold quoM remM
    rw [if_pos h, if_pos h]
    have e : cv (cf []) (cf g) j = 0 := cv_zero (cf g) j
    rw [e, Int.zero_add]; exact hfj
  · rw [hfj, div_inv (inv := invM p (g.getD (g.length - 1) 0)) (g := g) (D := f.length - g.length) hl.1 hfa (f.length - g.length + 1) (by omega) j]
    unfold quoM remM
    rw [if_neg h, if_neg h]
    congr 2
    · apply cv_congr j _ (fun _ _ => rfl)
      intro i _
      rw [cf_trim, cf_tab]
      unfold dq
      by_cases e : i ≤ f.length - g.length
      · rw [if_pos e, if_pos (by omega)]
      · rw [if_neg e, if_neg (by omega)]
    · rw [cf_trim, cf_tab]
      by_cases e : j < f.length
      · rw [if_pos e]
      · rw [if_neg e]; exact divR_far (by omega) j (by omega)
theorem div_sum {p : Int} {f g : List Int} (hp : primeB p = true) (hf : polyB p f = true) (hg : polyB p g = true) (h0 : g.length ≠ 0) : addM p (mulM p (quoM p f g) g) (remM p f g) 1 = f := by
  have hl := primeB_lo hp
  refine can_ext (can_trim _) (can_poly hf) fun j => ?_
  rw [cf_add hl.1 (mulM_areB hl.1 _ _), mulM_cf hl.1, Int.one_mul, Int.add_emod, Int.emod_emod, ← Int.add_emod]
  exact (div_back hp hf hg h0 j).symm
/-- c divides f. -/
def DvdL (p : Int) (c f : List Int) : Prop := ∃ h : List Int, areB p h = true ∧ ∀ j, cf f j % p = cv (cf h) (cf c) j % p
theorem cv_top (d c : List Int) (h1 : d.length ≠ 0) (h2 : c.length ≠ 0) : cv (cf d) (cf c) (d.length - 1 + (c.length - 1)) = cf d (d.length - 1) * cf c (c.length - 1) := by
  unfold cv
  rw [sm_one _ (d.length - 1) _ (fun k hk => by
    by_cases e : k < d.length
    · rw [cf_far (f := c) (by omega), Int.mul_zero]
    · rw [cf_far (by omega), Int.zero_mul]), if_pos (by omega), show d.length - 1 + (c.length - 1) - (d.length - 1) = c.length - 1 by omega]
theorem addM_areB {p : Int} (hp : 2 ≤ p) {f : List Int} (hf : areB p f = true) (g : List Int) (k : Int) : areB p (addM p f g k) = true := areB_mk fun j _ => by
  have := cf_add hp hf g k j
  unfold cf at this
  rw [this]
  exact modb hp
theorem rem_zero {p : Int} {f c : List Int} (hp : primeB p = true) (hf : polyB p f = true) (hc : polyB p c = true) (h0 : c.length ≠ 0) (hd : DvdL p c f) : remM p f c = [] := by
  have hl := primeB_lo hp
  obtain ⟨h, hh, hd⟩ := hd
  have hrm := remM_poly hp hf hc
  have hlt := remM_lt hp hf hc h0
  have hda : areB p (addM p h (quoM p f c) (p - 1)) = true := addM_areB hl.1 hh _ _
  have key : ∀ j, cf (remM p f c) j = cv (cf (addM p h (quoM p f c) (p - 1))) (cf c) j % p := fun j => by
    have hr := cf_rng hl.1 (polyB_rng hrm).2.1 j
    have e1 : cv (cf (addM p h (quoM p f c) (p - 1))) (cf c) j % p = (cv (cf h) (cf c) j + (p - 1) * cv (cf (quoM p f c)) (cf c) j) % p := by
      rw [← cv_scale, ← cv_add]
      exact cv_mod j (fun i => by rw [cf_add hl.1 hh, Int.emod_emod]) (fun _ => rfl)
    have hb := div_back hp hf hc h0 j
    have hdj := hd j
    have hfr := cf_rng hl.1 (polyB_rng hf).2.1 j
    rw [Int.emod_eq_of_lt hfr.1 hfr.2] at hdj
    rw [e1]
    rw [← Int.emod_eq_of_lt hr.1 hr.2]
    generalize cv (cf h) (cf c) j = A at *
    generalize cv (cf (quoM p f c)) (cf c) j = B at *
    generalize cf (remM p f c) j = R at *
    have e2 : A + (p - 1) * B = A - B + p * B := by rw [Int.sub_mul, Int.one_mul]; omega
    rw [e2, Int.add_mul_emod_self_left]
    have e3 : A % p = (B + R) % p := by rw [← hdj, hb]
    rw [Int.sub_emod, e3, ← Int.sub_emod]
    congr 1
    omega
  rcases can_trim (tab (max h.length (quoM p f c).length) (sumH p (p - 1) h (quoM p f c) (quoM p f c).length)) with hz | hz
  · refine can_nil (can_poly hrm) fun j => ?_
    rw [key j]
    have e : addM p h (quoM p f c) (p - 1) = [] := List.eq_nil_of_length_eq_zero hz
    rw [e]
    have : cv (cf []) (cf c) j = 0 := cv_zero (cf c) j
    rw [this]; rfl
  · by_cases hz0 : (addM p h (quoM p f c) (p - 1)).length = 0
    · exact absurd (cf_far (by have : (trimL (tab (max h.length (quoM p f c).length) (sumH p (p - 1) h (quoM p f c) (quoM p f c).length))).length = 0 := hz0
                               omega)) hz
    · exfalso
      have hz' : cf (addM p h (quoM p f c) (p - 1)) ((addM p h (quoM p f c) (p - 1)).length - 1) ≠ 0 := hz
      generalize addM p h (quoM p f c) (p - 1) = d at *
      have k1 := key (d.length - 1 + (c.length - 1))
      rw [cv_top d c hz0 h0, cf_far (by omega)] at k1
      have r1 := cf_rng hl.1 hda (d.length - 1)
      have r2 := cf_rng hl.1 (polyB_rng hc).2.1 (c.length - 1)
      have hc0 : cf c (c.length - 1) ≠ 0 := by
        rcases can_poly hc with h | h
        · exact absurd h h0
        · exact h
      exact prime_mul hp (by omega) r1.2 (by omega) r2.2 k1.symm
theorem dvd_self {p : Int} (hp : 2 ≤ p) (c : List Int) : DvdL p c c := ⟨[1], by simp [areB, okN]; omega, fun j => by
  have e : cv (cf [1]) (cf c) j = cf c j := by
    have : cf [1] = fun i => if i = 0 then 1 else 0 := by
      funext i
      cases i with
      | zero => rfl
      | succ i => exact cf_far (by simp)
    rw [this, cv_delta, if_pos (Nat.zero_le _), Int.one_mul, Nat.sub_zero]
  rw [e]⟩
theorem dvd_nil (p : Int) (c : List Int) : DvdL p c [] := ⟨[], rfl, fun j => by
  have : cv (cf []) (cf c) j = 0 := cv_zero (cf c) j
  rw [this]; rfl⟩
theorem gcd_dvd {p : Int} (hp : primeB p = true) : ∀ (k : Nat) (f g : List Int), g.length < k → polyB p f = true → polyB p g = true → DvdL p (gcdL p k f g) f ∧ DvdL p (gcdL p k f g) g := by
  have hl := primeB_lo hp
  intro k
  induction k with
  | zero => intro f g h; omega
  | succ k ih =>
    intro f g hk hf hg
    unfold gcdL
    by_cases hz : g.isEmpty
    · rw [if_pos hz]
      have : g = [] := by simpa using hz
      subst this
      exact ⟨dvd_self hl.1 f, dvd_nil p f⟩
    · rw [if_neg hz]
      have h0 : g.length ≠ 0 := fun e => hz (by rw [List.eq_nil_of_length_eq_zero e]; rfl)
      have hlt := remM_lt hp hf hg h0
      obtain ⟨⟨u, hu, h1⟩, ⟨v, hv, h2⟩⟩ := ih g (remM p f g) (by omega) hg (remM_poly hp hf hg)
      refine ⟨⟨addM p (mulM p (quoM p f g) u) v 1, addM_areB hl.1 (mulM_areB hl.1 _ _) _ _, fun j => ?_⟩, ⟨u, hu, h1⟩⟩
      generalize gcdL p k g (remM p f g) = c at *
      have e1 : cv (cf (addM p (mulM p (quoM p f g) u) v 1)) (cf c) j % p = (cv (cv (cf (quoM p f g)) (cf u)) (cf c) j + cv (cf v) (cf c) j) % p := by
        rw [← cv_add]
        exact cv_mod j (fun i => by rw [cf_add hl.1 (mulM_areB hl.1 _ _), mulM_cf hl.1, Int.one_mul, Int.emod_emod, Int.add_emod, Int.emod_emod, ← Int.add_emod]) (fun _ => rfl)
      rw [e1, cv_assoc, div_back hp hf hg h0 j, Int.emod_emod, Int.add_emod, Int.add_emod (cv _ (cv _ _) _), h2 j]
      congr 2
      exact cv_mod j (fun _ => rfl) h1
theorem monM_cf {p : Int} (hp : 2 ≤ p) {c : List Int} (h0 : c.length ≠ 0) (j : Nat) : cf (monM p c) j = invM p (c.getD (c.length - 1) 0) * cf c j % p := by
  have e : c.isEmpty = false := by cases c with | nil => exact absurd rfl h0 | cons a l => rfl
  unfold monM
  rw [e]
  show cf (addM p [] c _) j = _
  rw [cf_add hp rfl]
  show (cf [] j + _) % p = _
  rw [cf_far (f := []) (by simp), Int.zero_add]
theorem monM_top {p : Int} (hp : primeB p = true) {c : List Int} (hc : polyB p c = true) (h0 : c.length ≠ 0) : (monM p c).length = c.length ∧ cf (monM p c) (c.length - 1) = 1 := by
  have hl := primeB_lo hp
  have hc0 : cf c (c.length - 1) ≠ 0 := by
    rcases can_poly hc with h | h
    · exact absurd h h0
    · exact h
  have hr := cf_rng hl.1 (polyB_rng hc).2.1 (c.length - 1)
  have h1 : cf (monM p c) (c.length - 1) = 1 := by
    rw [monM_cf hl.1 h0, Int.mul_comm]
    exact invM_mul hp (show 0 < cf c (c.length - 1) by omega) hr.2
  refine ⟨?_, h1⟩
  have hle : (monM p c).length ≤ c.length := by
    unfold monM
    split
    · simp
    · unfold addM
      exact Nat.le_trans (trimL_le _) (by rw [tab_len]; simp)
  by_cases e : (monM p c).length = c.length
  · exact e
  · rw [cf_far (by omega)] at h1; cases h1
theorem dvd_mon {p : Int} (hp : primeB p = true) {c f : List Int} (hc : polyB p c = true) (h0 : c.length ≠ 0) (h : DvdL p c f) : DvdL p (monM p c) f := by
  have hl := primeB_lo hp
  obtain ⟨u, hu, h1⟩ := h
  have hc0 : cf c (c.length - 1) ≠ 0 := by
    rcases can_poly hc with h | h
    · exact absurd h h0
    · exact h
  have hr := cf_rng hl.1 (polyB_rng hc).2.1 (c.length - 1)
  have hi : cf c (c.length - 1) * invM p (cf c (c.length - 1)) % p = 1 := invM_mul hp (by omega) hr.2
  refine ⟨tab u.length (fun j => cf c (c.length - 1) * cf u j % p), tab_are' fun _ _ => modb hl.1, fun j => ?_⟩
  have e1 : cv (cf (tab u.length (fun j => cf c (c.length - 1) * cf u j % p))) (cf (monM p c)) j % p = (cf c (c.length - 1) * (invM p (cf c (c.length - 1)) * cv (cf u) (cf c) j)) % p := by
    rw [← cv_scale_r, ← cv_scale]
    refine cv_mod j (fun i => ?_) (fun i => ?_)
    · rw [cf_tab]
      by_cases e : i < u.length
      · rw [if_pos e, Int.emod_emod]
      · rw [if_neg e, cf_far (f := u) (by omega), Int.mul_zero]
    · rw [monM_cf hl.1 h0, Int.emod_emod]; rfl
  rw [e1, ← Int.mul_assoc, Int.mul_emod, hi, Int.one_mul, Int.emod_emod]
  exact h1 j
end Go.Proofs.Ytcadiepghhnbeaa
