/- Merged texts. -/
import Derived.Test.YtllcgoachgfpjaaYD417
import Derived.Test.YtllcgoachgfpjaaYD418
import Derived.Test.YtllcgoachgfpjaaYD411
import Derived.Test.YtllcgoachgfpjaaYD416
import Derived.Test.YtllcgoachgfpjaaYD413
import Derived.BigRegion
import Derived.Deep.RegionHeld3
import Derived.Deep.DeepFit
/- Contracts: opposite, linear (program); l03Step, l03Poly, l03Second (model). -/
namespace Go.Proofs.Ytllcgoachgfpjaa
open Go.RowKit
set_option linter.unusedVariables false
set_option linter.unusedSimpArgs false

theorem opposite_any (p x : Int) (w : World) (hp : 2 ≤ p) (hp2 : p ≤ 10007) (h0 : 0 ≤ x) (h1 : x < p) :
    Calls Try.prog 102 #[.int .i64 p, .int .i64 x] w fun e w' => e = .returned (.int .i64 (opp p x)) ∧ w = w' := by
  have v1 : IntKind.i64.wrap (p - x) = p - x := IntWalk.i64_in _ (by omega)
  have v2 : (p - x).tmod p = opp p x := Int.tmod_eq_emod_of_nonneg (by omega)
  have r := opp_rng (x := x) (show 2 ≤ p by omega)
  generalize opp p x = y at v2 r ⊢
  have v3 : IntKind.i64.wrap y = y := IntWalk.i64_in _ (by omega)
  have hp0 : ¬ p = 0 := by omega
  go_enter Try.func102, Try.ntmps102
  go_wp2
  go_ret
  exact ⟨rfl, rfl⟩
theorem linear_any (p x : Int) (w : World) (hp : 2 ≤ p) (hp2 : p ≤ 10007) (h0 : 0 ≤ x) (h1 : x < p) :
    Calls Try.prog 63 #[.int .i64 p, .int .i64 x] w fun e w' => e = .returned (.slice (some ⟨w.heap.size, 0, none⟩) 2 2) ∧ Own w.heap.size w' (some ⟨w.heap.size, 0, none⟩) 2 (linM p x) ∧ Below w.heap.size w w' := by
  obtain ⟨y, hy⟩ : ∃ y, opp p x = y := ⟨_, rfl⟩
  unfold linM
  rw [hy]
  have Hy := Lib.hid hy
  clear hy
  go_enter Try.func63, Try.ntmps63
  go_wp2_with fail
  refine (opposite_any p x _ hp hp2 h0 h1).mono ?_
  rintro e w1 ⟨rfl, rfl⟩
  rw [Hy.out]
  go_wp2
  go_ret
  exact ⟨rfl, World.ownsRow_lit w (base := w.heap.size) (e := 2) (size := 1) #[.int .i64 y, .int .i64 1] 2 (Nat.le_refl _) (by decide) rfl, bl1 _ _⟩
end Go.Proofs.Ytllcgoachgfpjaa
/- Contracts: l01Points, interpolate, l01Interpolate, InterpolatePoly (program and model). -/
namespace Go.Proofs.Ytllcgoachgfpjaa
open Go.RowKit
set_option linter.unusedVariables false
set_option linter.unusedSimpArgs false

theorem mulpI {p : Int} {f g : List Int} (hp : primeB p = true) (hf : polyB p f = true) (hg : polyB p g = true) (hl : (mulM p f g).length ≤ 25) : polyB p (mulM p f g) = true := by
  have hpl := primeB_lo hp
  have := polyB_trim (p := p) (xs := mulM p f g) hl (fun j hj => areB_at (mulM_areB hpl.1 f g) j hj)
  rwa [mulM_trim hp hf hg] at this
theorem timesT (p : Int) (a1 : Option Addr) (n1 c1 : Nat) (f : List Int) (a2 : Option Addr) (n2 c2 : Nat) (g : List Int) (w : World) (h1 : SL w a1 n1 c1 f) (h2 : SL w a2 n2 c2 g)
    (b1 : n1 ≤ 1000) (b2 : n2 ≤ 1000) (hp : 2 ≤ p) (hp2 : p ≤ 10007) (hf : areB p f = true) (hg : areB p g = true) (ht : trimL (mulM p f g) = mulM p f g) :
    Calls Try.prog 118 #[.int .i64 p, .slice a1 n1 c1, .slice a2 n2 c2] w fun e w' => ∃ a' c', e = .returned (.slice a' (mulM p f g).length c') ∧ Own w.heap.size w' a' c' (mulM p f g) ∧ Below w.heap.size w w' := by
  have := l01Times_any p a1 n1 c1 f a2 n2 c2 g w h1 h2 b1 b2 hp hp2 hf hg
  rwa [ht] at this
/-- The polynomial that was found, and the product of x less the nodes, behind so many nodes. -/
def itpF (p : Int) (xs ys : List Int) : Nat → List Int × List Int
  | 0 => ([], [1])
  | i + 1 =>
    let s := itpF p xs ys i
    (addM p s.1 s.2 ((ys.getD i 0 - evM p s.1 (xs.getD i 0)) % p * invM p (evM p s.2 (xs.getD i 0)) % p), mulM p s.2 (linM p (xs.getD i 0)))
theorem itp_q {p : Int} (hp : primeB p = true) (xs ys : List Int) : ∀ i, areB p (itpF p xs ys i).2 = true ∧ (itpF p xs ys i).2.length ≤ i + 1 ∧ (i ≤ 24 → polyB p (itpF p xs ys i).2 = true) := by
  have hpl := primeB_lo hp
  intro i
  induction i with
  | zero => refine ⟨?_, ?_, fun _ => ?_⟩ <;> simp [itpF, areB, okN, polyB, lastZ] <;> omega
  | succ i ih =>
    have hlen : (itpF p xs ys (i + 1)).2.length ≤ i + 1 + 1 := by
      show (mulM p (itpF p xs ys i).2 (linM p (xs.getD i 0))).length ≤ _
      rcases mulM_up (p := p) (f := (itpF p xs ys i).2) (g := linM p (xs.getD i 0)) with h | ⟨_, _, h⟩
      · omega
      · rw [h]; have : (linM p (xs.getD i 0)).length = 2 := rfl; omega
    exact ⟨mulM_are hpl.1, hlen, fun h => mulpI hp (ih.2.2 (by omega)) (linM_poly hpl.1) (by have := hlen; show (itpF p xs ys (i + 1)).2.length ≤ 25; omega)⟩
theorem itp_f {p : Int} (hp : primeB p = true) (xs ys : List Int) : ∀ i, i ≤ 25 → areB p (itpF p xs ys i).1 = true ∧ (itpF p xs ys i).1.length ≤ i := by
  have hpl := primeB_lo hp
  intro i
  induction i with
  | zero => intro _; exact ⟨rfl, by simp [itpF]⟩
  | succ i ih =>
    intro hi
    replace ih := ih (by omega)
    refine ⟨(polyB_rng (addM_poly hpl.1 (by have := ih.2; omega) (by have := (itp_q hp xs ys i).2.1; omega) ih.1)).2.1, ?_⟩
    show (addM p _ _ _).length ≤ _
    unfold addM
    refine Nat.le_trans (trimL_le _) ?_
    rw [tab_len]
    have := (itp_q hp xs ys i).2.1
    omega
theorem itp_trim {p : Int} (hp : primeB p = true) (xs ys : List Int) (i : Nat) (hi : i ≤ 24) : trimL (mulM p (itpF p xs ys i).2 (linM p (xs.getD i 0))) = mulM p (itpF p xs ys i).2 (linM p (xs.getD i 0)) :=
  mulM_trim hp ((itp_q hp xs ys i).2.2 hi) (linM_poly (primeB_lo hp).1)
def itpC (p : Int) (xs ys : List Int) : Int := if primeB p && decide (xs.length ≤ 25) && decide (ys.length = xs.length) && areB p xs && areB p ys && difB xs then 0 else 2
def itpV (p : Int) (xs ys : List Int) : List Int := if itpC p xs ys = 0 then (itpF p xs ys xs.length).1 else []
set_option maxRecDepth 100000 in
set_option maxHeartbeats 1600000 in
theorem interpolate_any (p : Int) (a1 : Option Addr) (n c1 : Nat) (xs : List Int) (a2 : Option Addr) (c2 : Nat) (ys : List Int) (w : World) (h1 : SL w a1 n c1 xs) (h2 : SL w a2 n c2 ys) (hn : n ≤ 25) (hpr : primeB p = true) (hx : areB p xs = true) (hy : areB p ys = true) :
    Calls Try.prog 168 #[.int .i64 p, .slice a1 n c1, .slice a2 n c2] w fun e w' => ∃ a' c', e = .returned (.slice a' (itpF p xs ys n).1.length c') ∧ Own w.heap.size w' a' c' (itpF p xs ys n).1 ∧ Below w.heap.size w w' := by
  obtain ⟨hp, hp2⟩ := primeB_lo hpr
  have Hp := hide hpr
  have Hx := hide hx
  have Hy := hide hy
  clear hpr hx hy
  have hb0 := bl2 w (.cells #[] 2) (.cells #[.int .i64 1] 2)
  have hF0 : Hid (Own w.heap.size ((w.alloc (.cells #[] 2)).alloc (.cells #[.int .i64 1] 2)) (some ⟨w.heap.size, 0, none⟩) 0 (itpF p xs ys 0).1) := hide (by
    have h : Own w.heap.size (w.alloc (.cells #[] 2)) (some ⟨w.heap.size, 0, none⟩) 0 [] := World.ownsRow_lit w (base := w.heap.size) (e := 2) (size := 1) #[] 0 (Nat.le_refl _) (by decide) rfl
    exact h.below (bl1 _ _))
  have hQ0 : Hid (Own w.heap.size ((w.alloc (.cells #[] 2)).alloc (.cells #[.int .i64 1] 2)) (some ⟨w.heap.size + 1, 0, none⟩) 1 (itpF p xs ys 0).2) := hide (by
    have h : Own (w.alloc (.cells #[] 2)).heap.size ((w.alloc (.cells #[] 2)).alloc (.cells #[.int .i64 1] 2)) (some ⟨(w.alloc (.cells #[] 2)).heap.size, 0, none⟩) 1 [1] := World.ownsRow_lit _ (base := (w.alloc (.cells #[] 2)).heap.size) (e := 2) (size := 1) #[.int .i64 1] 1 (Nat.le_refl _) (by decide) rfl
    simp only [World.size_alloc] at h
    exact h.mono (by omega))
  by_cases h0 : n = 0
  · subst h0
    go_enter Try.func168, Try.ntmps168
    go_wp2
    refine wp_loop_rounds 1 ?_
    rw [rounds_succ]
    go_wp2
    refine bodyPost_ret (v := .slice (some ⟨w.heap.size, 0, none⟩) 0 0) (by simp [results, Try.results168]) rfl ?_
    exact ⟨_, _, rfl, hF0.out, hb0⟩
  obtain ⟨b1, o1, rfl, hw1, hc1⟩ := h1.at (by omega)
  obtain ⟨b2, o2, rfl, hw2, hc2⟩ := h2.at (by omega)
  have H1 := hide hc1
  have H2 := hide hc2
  clear h1 h2 hc1 hc2
  go_enter Try.func168, Try.ntmps168
  go_wp2
  go_loopw [7, 8, 17] (fun fv qv iv wr => ∃ (i : Nat) (a c a' c' : _) , i ≤ n ∧ iv = .int .i64 i ∧ fv = .slice a (itpF p xs ys i).1.length c ∧ qv = .slice a' (itpF p xs ys i).2.length c' ∧ Hid (Own w.heap.size wr a c (itpF p xs ys i).1) ∧ Hid (Own w.heap.size wr a' c' (itpF p xs ys i).2) ∧ Below w.heap.size w wr) (fun _ _ iv _ => n - (intOf iv).toNat)
  case atStart => exact ⟨0, _, _, _, _, by omega, rfl, rfl, rfl, hF0, hQ0, hb0⟩
  case round =>
    obtain ⟨i, a, c, a', c', hi, rfl, rfl, rfl, hF, hQ, hb⟩ := hrel
    clear hF0 hQ0 hb0
    by_cases hlt : i < n
    · have e1 := cell_be hb (H1.out i hlt)
      have e2 := cell_be hb (H2.out i hlt)
      have r1 := getD_rng Hx.out hp i
      have r2 := getD_rng Hy.out hp i
      have tf := hide (itp_f Hp.out xs ys i (by omega))
      have tq := hide (itp_q Hp.out xs ys i)
      have hstF : Hid ((itpF p xs ys (i + 1)).1 = addM p (itpF p xs ys i).1 (itpF p xs ys i).2 ((ys.getD i 0 - evM p (itpF p xs ys i).1 (xs.getD i 0)) % p * invM p (evM p (itpF p xs ys i).2 (xs.getD i 0)) % p)) := hide rfl
      have hstQ : Hid ((itpF p xs ys (i + 1)).2 = mulM p (itpF p xs ys i).2 (linM p (xs.getD i 0))) := hide rfl
      obtain ⟨f, hf⟩ : ∃ f, (itpF p xs ys i).1 = f := ⟨_, rfl⟩
      obtain ⟨q, hq⟩ : ∃ q, (itpF p xs ys i).2 = q := ⟨_, rfl⟩
      obtain ⟨x, hx⟩ : ∃ x, xs.getD i 0 = x := ⟨_, rfl⟩
      obtain ⟨y, hy⟩ : ∃ y, ys.getD i 0 = y := ⟨_, rfl⟩
      rw [hf] at tf hF hstF ⊢
      rw [hq] at tq hQ hstF hstQ ⊢
      rw [hx] at e1 r1 hstF hstQ
      rw [hy] at e2 r2 hstF
      clear hf hq hx hy
      have lf := tf.out.2
      have lq := tq.out.2.1
      have rE := evM_rng hp f x
      have rE2 := evM_rng hp q x
      have rI := invM_rng (p := p) (evM p q x) hp
      have hsub : Hid ((y + p - evM p f x) % p = (y - evM p f x) % p) := hide (by rw [show y + p - evM p f x = y - evM p f x + p by omega, Int.add_emod_right])
      have rM := modb (x := y - evM p f x) hp
      obtain ⟨E, hE⟩ : ∃ E, evM p f x = E := ⟨_, rfl⟩
      obtain ⟨E2, hE2⟩ : ∃ E2, evM p q x = E2 := ⟨_, rfl⟩
      obtain ⟨I, hI⟩ : ∃ I, invM p E2 = I := ⟨_, rfl⟩
      obtain ⟨M, hM⟩ : ∃ M, (y - E) % p = M := ⟨_, rfl⟩
      have HE := hide hE
      have HE2 := hide hE2
      have HI := hide hI
      rw [hE] at rE hsub hstF rM
      rw [hE2] at rE2 hstF rI
      rw [hI] at rI hstF
      rw [hM] at hstF rM hsub
      clear hE hE2 hI hM
      obtain ⟨m1, m2⟩ := mulb rM.1 rM.2 rI.1 rI.2 hp2
      have rK := modb (x := M * I) hp
      have v1 : IntKind.i64.wrap (y + p) = y + p := IntWalk.i64_in _ (by omega)
      have v2 : IntKind.i64.wrap (y + p - E) = y + p - E := IntWalk.i64_in _ (by omega)
      have v3 : (y + p - E).tmod p = M := by rw [Int.tmod_eq_emod_of_nonneg (by omega)]; exact hsub.out
      have v4 : IntKind.i64.wrap M = M := IntWalk.i64_in _ (by omega)
      have v5 : IntKind.i64.wrap (M * I) = M * I := IntWalk.i64_in _ (by omega)
      have v6 : (M * I).tmod p = M * I % p := Int.tmod_eq_emod_of_nonneg (by omega)
      obtain ⟨K, hK⟩ : ∃ K, M * I % p = K := ⟨_, rfl⟩
      rw [hK] at v6 rK hstF
      have v7 : IntKind.i64.wrap K = K := IntWalk.i64_in _ (by omega)
      clear hK
      have hp0 : ¬ p = 0 := by omega
      have hlt' : (i : Int) < (n : Int) := by omega
      have hi0 : (0 : Int) ≤ (i : Int) := by omega
      have hbd := (Below.refl wr.heap.size wr).drew
      have sF := Own.sl hF.out
      have sQ := Own.sl hQ.out
      go_upto_region 5 with fail
      go_region_held3 (fun w' => w'.cell? ⟨b2, o2 + i, none⟩ = some (.int .i64 y))
        (first | exact cell_be hbd e2 | exact cell_be (by assumption) e2)
        (first | (go_at_call 170; go_fit (evaluateAt_any p x _ _ _ f _ (sF.below hbd) (by omega) hp hp2 r1.1 r1.2 tf.out.1); rintro e w1 ⟨rfl, hb1⟩; rw [HE.out]; have hm1 := bnext hbd hb1))
      have hb3 := hb.trans (hm1.mono hb.size)
      clear e1 e2 hbd
      have sF1 := sF.below hm1
      have sQ1 := sQ.below hm1
      go_wp2_with fail
      refine (evaluateAt_any p x _ _ _ q _ sQ1 (by omega) hp hp2 r1.1 r1.2 tq.out.1).mono ?_
      rintro e w2 ⟨rfl, hb2⟩
      rw [HE2.out]
      go_wp2_with fail
      refine (inverse_any p E2 _ hp hp2 rE2.1 rE2.2).mono ?_
      rintro e w3 ⟨rfl, hb4⟩
      rw [HI.out]
      have hc3 := bnext hb2 hb4
      go_wp2_with fail
      refine (addMultiple_any p K _ _ _ f _ _ _ q _ (sF1.below hc3) (sQ1.below hc3) (by omega) (by omega) hp hp2 rK.1 rK.2 tf.out.1 tq.out.1).mono ?_
      rintro e w4 ⟨aF, cF, rfl, oF, hb5⟩
      have hc4 := bnext hc3 hb5
      go_wp2_with fail
      refine (linear_any p x _ hp hp2 r1.1 r1.2).mono ?_
      rintro e w5 ⟨rfl, oL, hb6⟩
      have hc5 := bnext hc4 hb6
      have sL := Own.sl oL
      go_wp2_with fail
      refine (multiply_any p _ _ _ q _ _ _ (linM p x) _ (sQ1.below hc5) sL (by omega) (show 2 ≤ 1000 by omega) hp hp2 tq.out.1 (polyB_rng (linM_poly hp)).2.1).mono ?_
      rintro e w6 ⟨aQ, cQ, rfl, oQ, hb7⟩
      have hc6 := bnext hc5 hb7
      have hbN := hb3.trans (hc6.mono hb3.size)
      have z1 := hb3.size
      have z3 := hc3.size
      have z5 := hc5.size
      have nF : Hid (Own w.heap.size w6 aF cF (itpF p xs ys (i + 1)).1) := hide (by rw [hstF.out]; exact ((oF.below hb6).below hb7).mono (by omega))
      have nQ : Hid (Own w.heap.size w6 aQ cQ (itpF p xs ys (i + 1)).2) := hide (by rw [hstQ.out]; exact oQ.mono (by omega))
      go_wp2
      go_roundw
      case rel => exact ⟨i + 1, aF, cF, aQ, cQ, by omega, by go_num, by rw [hstF.out], by rw [hstQ.out], nF, nQ, hbN⟩
      case measure => simp [intOf]; omega
    · obtain rfl : i = n := by omega
      have hlt' : ¬ (i : Int) < (i : Int) := by omega
      have lf := hide (itp_f Hp.out xs ys i hn)
      obtain ⟨f, hf⟩ : ∃ f, (itpF p xs ys i).1 = f := ⟨_, rfl⟩
      rw [hf] at hF ⊢
      have HF := hide hf
      clear hf
      go_wp2
      refine bodyPost_ret (v := .slice a f.length c) (by simp [results, Try.results168]) rfl ?_
      rw [HF.out]
      exact ⟨_, _, rfl, hF.out, hb⟩
end Go.Proofs.Ytllcgoachgfpjaa
