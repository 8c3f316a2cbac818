/- Merged texts. -/
import Derived.Test.YtnojmghmkoojfaaYRs15
import Derived.Test.YtnojmghmkoojfaaYRs10
import Derived.Test.YtnojmghmkoojfaaYRs12
import Derived.Test.YtnojmghmkoojfaaYRs7
/- Values of polynomials at polynomials: the closures of polysModulo, evaluate, composition (program and model). -/
namespace Go.Proofs.Ytnojmghmkoojfaa
open Go.RowKit
set_option linter.unusedVariables false
set_option linter.unusedSimpArgs false

/-- Horner's rule at a polynomial, k numbers taken in from the last one on. -/
def horP (p : Int) (f g : List Int) : Nat → List Int
  | 0 => []
  | k + 1 => addM p (mulM p (horP p f g k) g) (trimL [f.getD (f.length - 1 - k) 0]) 1
def comM (p : Int) (f g : List Int) : List Int := horP p f g f.length
theorem mulM_rng {p : Int} {f g : List Int} (hp : 2 ≤ p) (j : Nat) : 0 ≤ (mulM p f g).getD j 0 ∧ (mulM p f g).getD j 0 < p := by
  by_cases h : f.length = 0 ∨ g.length = 0
  · rw [mulM_nil (h.imp List.eq_nil_of_length_eq_zero List.eq_nil_of_length_eq_zero)]
    simp; omega
  · have h1 : f.length ≠ 0 := fun e => h (.inl e)
    have h2 : g.length ≠ 0 := fun e => h (.inr e)
    rw [mulM_tab h1 h2]
    by_cases hj : j < f.length + g.length - 1
    · rw [tab_at _ _ _ hj]
      exact mulH_rng hp _ _ _ _
    · have : (tab (f.length + g.length - 1) (mulH p f g f.length)).getD j 0 = 0 := by
        rw [List.getD_eq_getElem?_getD, List.getElem?_eq_none (by rw [tab_len]; omega)]; rfl
      rw [this]; omega
theorem mulM_are {p : Int} {f g : List Int} (hp : 2 ≤ p) : areB p (mulM p f g) = true := areB_mk fun j _ => mulM_rng hp j
theorem mulM_up {f g : List Int} {p : Int} : (mulM p f g).length = 0 ∨ (f.length ≠ 0 ∧ g.length ≠ 0 ∧ (mulM p f g).length = f.length + g.length - 1) := by
  by_cases h : f.length = 0 ∨ g.length = 0
  · exact .inl (by rw [mulM_nil (h.imp List.eq_nil_of_length_eq_zero List.eq_nil_of_length_eq_zero)]; rfl)
  · have h1 : f.length ≠ 0 := fun e => h (.inl e)
    have h2 : g.length ≠ 0 := fun e => h (.inr e)
    exact .inr ⟨h1, h2, by rw [mulM_tab h1 h2, tab_len]⟩
theorem addM_poly {p : Int} {f g : List Int} {k : Int} (hp : 2 ≤ p) (h1 : f.length ≤ 25) (h2 : g.length ≤ 25) (hf : areB p f = true) : polyB p (addM p f g k) = true := by
  unfold addM
  refine polyB_trim (by rw [tab_len]; omega) fun j hj => ?_
  rw [tab_len] at hj
  rw [tab_at _ _ _ hj]
  unfold sumH
  split
  · exact modb hp
  · exact getD_rng hf hp j
theorem addM_up {p : Int} {f g : List Int} {k : Int} : (addM p f g k).length ≤ max f.length g.length := by
  unfold addM
  exact Nat.le_trans (trimL_le _) (by rw [tab_len]; omega)
theorem one_up (x : Int) : (trimL [x]).length ≤ 1 := trimL_le [x]
theorem one_are {p x : Int} (h0 : 0 ≤ x) (h1 : x < p) : areB p (trimL [x]) = true := areB_mk fun j hj => by
  have := one_up x
  rw [trimL_at _ _ hj]
  have : j = 0 := by omega
  subst this
  exact ⟨h0, h1⟩
theorem horP_poly {p : Int} {f g : List Int} (hp : primeB p = true) (hf : polyB p f = true) (hg : polyB p g = true) (hd : (f.length - 1) * (g.length - 1) ≤ 24) :
    ∀ k, k ≤ f.length → polyB p (horP p f g k) = true ∧ (horP p f g k).length ≤ 1 + (k - 1) * (g.length - 1) ∧ (k = 0 → horP p f g k = []) := by
  have hpl := primeB_lo hp
  intro k
  induction k with
  | zero => exact fun _ => ⟨by simp [horP, polyB, areB], by simp [horP], fun _ => rfl⟩
  | succ k ih =>
    intro hk
    obtain ⟨i1, i2, i3⟩ := ih (by omega)
    have hle : k * (g.length - 1) ≤ (f.length - 1) * (g.length - 1) := Nat.mul_le_mul_right _ (by omega)
    have hm : (mulM p (horP p f g k) g).length ≤ 1 + k * (g.length - 1) := by
      rcases mulM_up (f := horP p f g k) (g := g) (p := p) with h | ⟨h1, h2, h⟩
      · omega
      · cases k with
        | zero => exact absurd (by rw [i3 rfl]; rfl) h1
        | succ k =>
          have : (k + 1) * (g.length - 1) = k * (g.length - 1) + (g.length - 1) := Nat.succ_mul _ _
          simp at i2
          omega
    have ho := one_up (f.getD (f.length - 1 - k) 0)
    refine ⟨addM_poly hpl.1 (by omega) (by omega) (mulM_are hpl.1), ?_, fun h => absurd h (by omega)⟩
    have := addM_up (p := p) (f := mulM p (horP p f g k) g) (g := trimL [f.getD (f.length - 1 - k) 0]) (k := 1)
    rw [horP, Nat.add_sub_cancel]
    omega
set_option maxHeartbeats 400000 in
theorem polyConst (x : Int) (w : World) :
    Calls Try.prog 98 #[num x] w fun e w' => ∃ a' c', e = .returned (.slice a' (trimL [x]).length c') ∧ Own w.heap.size w' a' c' (trimL [x]) ∧ Below w.heap.size w w' := by
  have ho : Own w.heap.size ((w.alloc (.cells #[.int .i64 x] 82)).alloc (.cells #[.int .i64 x] 2)) (some ⟨w.heap.size + 1, 0, none⟩) 1 [x] := by
    have := World.ownsRow_lit (w.alloc (.cells #[.int .i64 x] 82)) (base := w.heap.size) (e := 2) (size := 1) #[.int .i64 x] 1 (by simp) (by decide) rfl
    simp at this
    exact this
  have Ho := hide ho
  have hsl := ho.sl
  have hb2 := bl2 w (.cells #[.int .i64 x] 82) (.cells #[.int .i64 x] 2)
  clear ho
  go_enter Try.func98, Try.ntmps98
  go_wp2_with (go_at_call 99; refine (trim_any _ _ _ _ _ hsl (by simp)).mono ?_; rintro e w3 ⟨rfl, hb3⟩)
  go_ret
  refine ⟨_, _, ?_, (Ho.out.below hb3).takeG (m := trimN [x] 1) (trimN_le _ _), hb2.trans (hb3.mono (by simp; omega))⟩
  rw [trimL_len]; rfl
set_option maxHeartbeats 400000 in
theorem polySum (p : Int) (b : Nat) (a1 : Option Addr) (n1 c1 : Nat) (f : List Int) (a2 : Option Addr) (n2 c2 : Nat) (g : List Int) (w : World) (hc : w.cell? ⟨b, 0, none⟩ = some (.int .i64 p)) (h1 : SL w a1 n1 c1 f) (h2 : SL w a2 n2 c2 g)
    (b1 : n1 ≤ 1000) (b2 : n2 ≤ 1000) (hp : 2 ≤ p) (hp2 : p ≤ 10007) (hf : areB p f = true) (hg : areB p g = true) :
    Calls Try.prog 100 #[.slice a1 n1 c1, .slice a2 n2 c2, .pointer (some ⟨b, 0, none⟩)] w fun e w' => ∃ a' c', e = .returned (.slice a' (addM p f g 1).length c') ∧ Own w.heap.size w' a' c' (addM p f g 1) ∧ Below w.heap.size w w' := by
  have Hf := hide hf
  have Hg := hide hg
  clear hf hg
  go_enter Try.func100, Try.ntmps100
  go_wp2_with (go_at_call 101; refine (addMultiple_any p 1 _ _ _ f _ _ _ g _ h1 h2 b1 b2 hp hp2 (by omega) (by omega) Hf.out Hg.out).mono ?_; rintro e w3 ⟨a', c', rfl, ho, hb3⟩)
  go_ret
  exact ⟨_, _, rfl, ho, hb3⟩
set_option maxHeartbeats 400000 in
theorem polyMul (p : Int) (b : Nat) (a1 : Option Addr) (n1 c1 : Nat) (f : List Int) (a2 : Option Addr) (n2 c2 : Nat) (g : List Int) (w : World) (hc : w.cell? ⟨b, 0, none⟩ = some (.int .i64 p)) (h1 : SL w a1 n1 c1 f) (h2 : SL w a2 n2 c2 g)
    (b1 : n1 ≤ 1000) (b2 : n2 ≤ 1000) (hp : 2 ≤ p) (hp2 : p ≤ 10007) (hf : areB p f = true) (hg : areB p g = true) :
    Calls Try.prog 102 #[.slice a1 n1 c1, .slice a2 n2 c2, .pointer (some ⟨b, 0, none⟩)] w fun e w' => ∃ a' c', e = .returned (.slice a' (mulM p f g).length c') ∧ Own w.heap.size w' a' c' (mulM p f g) ∧ Below w.heap.size w w' := by
  have Hf := hide hf
  have Hg := hide hg
  clear hf hg
  go_enter Try.func102, Try.ntmps102
  go_wp2_with (go_at_call 56; refine (multiply_any p _ _ _ f _ _ _ g _ h1 h2 b1 b2 hp hp2 Hf.out Hg.out).mono ?_; rintro e w3 ⟨a', c', rfl, ho, hb3⟩)
  go_ret
  exact ⟨_, _, rfl, ho, hb3⟩
set_option maxHeartbeats 400000 in
theorem polysModulo_any (p : Int) (w : World) :
    Calls Try.prog 65 #[.int .i64 p] w fun e w' => e = .returned (.agg #[.func (.func 98) #[] #[], clo 100 w.heap.size, clo 102 w.heap.size]) ∧
      w'.cell? ⟨w.heap.size, 0, none⟩ = some (.int .i64 p) ∧ Below w.heap.size w w' ∧ w.heap.size < w'.heap.size := by
  go_enter Try.func65, Try.ntmps65
  go_wp2
  refine bodyPost_ret (v := .agg #[.func (.func 98) #[] #[], clo 100 w.heap.size, clo 102 w.heap.size]) (by simp [results, Try.results65, go_sem]) rfl ⟨rfl, by simp [go_sem], bl2 _ _ _, by simp; omega⟩
theorem polyConst0 (w : World) :
    Calls Try.prog 98 #[num 0] w fun e w' => ∃ a' c', e = .returned (.slice a' 0 c') ∧ Own w.heap.size w' a' c' [] ∧ Below w.heap.size w w' := polyConst 0 w
/-- The closures' cells. -/
structure CInv (w : World) (B b : Nat) : Prop where
  h0 : w.cell? ⟨B, 0, none⟩ = some (.func (.func 98) #[] #[])
  h1 : w.cell? ⟨B, 1, none⟩ = some (clo 100 b)
  h2 : w.cell? ⟨B, 2, none⟩ = some (clo 102 b)
theorem CInv.below {w w' : World} {B b : Nat} (h : CInv w B b) (hb : Below w.heap.size w w') : CInv w' B b := by
  have k : ∀ {a : Addr} {v : Value}, w.cell? a = some v → w'.cell? a = some v := fun hh => (hb.cell (World.block_lt_of_cell? w _ hh)).trans hh
  exact ⟨k h.h0, k h.h1, k h.h2⟩
set_option maxRecDepth 100000 in
set_option maxHeartbeats 3200000 in
theorem evaluate_poly (p : Int) (a1 : Option Addr) (n1 c1 : Nat) (f : List Int) (a2 : Option Addr) (n2 c2 : Nat) (g : List Int) (b : Nat) (w : World) (hc : w.cell? ⟨b, 0, none⟩ = some (.int .i64 p)) (h1 : SL w a1 n1 c1 f) (h2 : SL w a2 n2 c2 g)
    (hpr : primeB p = true) (hf : polyB p f = true) (hg : polyB p g = true) (hd : (f.length - 1) * (g.length - 1) ≤ 24) :
    Calls Try.prog 66 #[.agg #[.func (.func 98) #[] #[], clo 100 b, clo 102 b], .slice a1 n1 c1, .slice a2 n2 c2] w
      fun e w' => ∃ a' c', e = .returned (.slice a' (comM p f g).length c') ∧ Own w.heap.size w' a' c' (comM p f g) ∧ Below w.heap.size w w' := by
  have hl1 := hide h1.len
  have hl2 := hide h2.len
  have Hf := hide (poly_are hf)
  have Hg := hide (poly_are hg)
  have d1 : n1 ≤ 25 := by have := poly_len hf; have := hl1.out; omega
  have d2 : n2 ≤ 25 := by have := poly_len hg; have := hl2.out; omega
  have HP := hide (horP_poly hpr hf hg hd)
  obtain ⟨hp, hp2⟩ := primeB_lo hpr
  clear hf hg hpr hd
  have ci1 : CInv (w.alloc (.cells #[.func (.func 98) #[] #[], clo 100 b, clo 102 b] 68)) w.heap.size b := ⟨by simp [go_sem], by simp [go_sem], by simp [go_sem]⟩
  go_enter Try.func66, Try.ntmps66
  go_wp2_with fail
  refine (polyConst0 _).mono ?_
  rintro e w1 ⟨a0, c0, rfl, ho0, hb1⟩
  have hO0 : Hid (Own w.heap.size w1 a0 c0 (horP p f g 0)) := hide (ho0.mono (by simp))
  have hB1 : Below w.heap.size w w1 := (bl1 _ _).trans (hb1.mono (by simp))
  have ci2 := ci1.below hb1
  clear ci1 ho0 hb1
  go_wp2
  go_loopw [7, 8] (fun v i wr => ∃ (k : Nat) (a' : Option Addr) (c' : Nat), k ≤ n1 ∧ i = .int .i64 ((n1 : Int) - 1 - (k : Int)) ∧ v = .slice a' (horP p f g k).length c' ∧ Hid (Own w.heap.size wr a' c' (horP p f g k)) ∧ CInv wr w.heap.size b ∧ Below w.heap.size w wr) (fun _ i _ => (intOf i + 1).toNat)
  case atStart => exact ⟨0, a0, c0, by omega, by simp, rfl, hO0, ci2, hB1⟩
  case round =>
    obtain ⟨k, a', c', hk, rfl, rfl, hO, ci, hBr⟩ := hrel
    clear hO0 ci2 hB1
    by_cases hlt : k < n1
    · have hr := getD_rng Hf.out hp (n1 - 1 - k)
      have hh : Hid (horP p f g (k + 1) = addM p (mulM p (horP p f g k) g) (trimL [f.getD (n1 - 1 - k) 0]) 1) := hide (by rw [horP, hl1.out])
      obtain ⟨y, hy⟩ : ∃ y, f.getD (n1 - 1 - k) 0 = y := ⟨_, rfl⟩
      have hvp := (HP.out k (by rw [hl1.out]; exact hk)).1
      have hv1 := poly_len hvp
      have Hv := hide (poly_are hvp)
      obtain ⟨v, hvv⟩ : ∃ v, horP p f g k = v := ⟨_, rfl⟩
      rw [hy] at hr hh
      rw [hvv] at hh hv1 Hv hO ⊢
      have hge : (0 : Int) ≤ (n1 : Int) - 1 - (k : Int) := by omega
      have Hy := hide hy
      obtain ⟨r1, r2⟩ := hr
      have hm1 : (mulM p v g).length ≤ 1000 := by
        have := hl2.out
        rcases mulM_up (p := p) (f := v) (g := g) with h | ⟨_, _, h⟩ <;> omega
      have hsl := hO.out.sl
      have Hone := hide (one_are r1 r2)
      have hb00 : Below wr.heap.size wr wr.drew := (Below.refl _ _).drew
      have F0 : ∀ w', Below wr.heap.size wr w' → w'.cell? ⟨w.heap.size, 0, none⟩ = some (.func (.func 98) #[] #[]) := fun w' hb => (ci.below hb).h0
      have F1 : ∀ w', Below wr.heap.size wr w' → w'.cell? ⟨w.heap.size, 1, none⟩ = some (clo 100 b) := fun w' hb => (ci.below hb).h1
      have F2 : ∀ w', Below wr.heap.size wr w' → w'.cell? ⟨w.heap.size, 2, none⟩ = some (clo 102 b) := fun w' hb => (ci.below hb).h2
      have hP : ∀ w', Below wr.heap.size wr w' → w'.cell? ⟨b, 0, none⟩ = some (.int .i64 p) := fun w' hb =>
        ((hBr.trans (hb.mono hBr.size)).cell (World.block_lt_of_cell? w _ hc)).trans hc
      clear hy hvv hvp
      go_upto_block 1 with fail
      go_cut [7] (fun s7 wx => ∃ a' c', s7 = .slice a' (horP p f g (k + 1)).length c' ∧ Hid (Own w.heap.size wx a' c' (horP p f g (k + 1))) ∧ CInv wx w.heap.size b ∧ Below w.heap.size w wx)
      case first =>
        go_wp2
        go_region_held3 (fun w' => w'.cell? ⟨w.heap.size, 0, none⟩ = some (.func (.func 98) #[] #[]) ∧ w'.cell? ⟨w.heap.size, 1, none⟩ = some (clo 100 b) ∧ w'.cell? ⟨w.heap.size, 2, none⟩ = some (clo 102 b))
          (exact ⟨F0 _ (by assumption), F1 _ (by assumption), F2 _ (by assumption)⟩)
          (first
          | (go_at_call 102; refine (polyMul p b _ _ _ v _ _ _ g _ (hP _ (by assumption)) (hsl.below (by assumption)) ((h2.below hBr).below (by assumption)) (by omega) (by omega) hp hp2 Hv.out Hg.out).mono ?_; rintro e wn ⟨am, cm, rfl, hom, hbn⟩; have hbn2 := bnext (a := wr) (by assumption) hbn)
          | (go_at_call 103; refine (numberAt_v _ n1 c1 (n1 - 1 - k) _ f y _ ((h1.below hBr).below (by assumption)) (by omega) (by omega) (by omega) Hy.out).mono ?_; rintro e wn ⟨rfl, hbn⟩; have hbn2 := bnext (a := wr) (by assumption) hbn; replace hom := hom.below hbn)
          | (go_at_call 98; refine (polyConst y _).mono ?_; rintro e wn ⟨ao, co, rfl, hoo, hbn⟩; have hbn2 := bnext (a := wr) (by assumption) hbn; replace hom := hom.below hbn)
          | (go_at_call 100; refine (polySum p b _ _ _ (mulM p v g) _ _ _ (trimL [y]) _ (hP _ (by assumption)) hom.sl hoo.sl hm1 (by have := one_up y; omega) hp hp2 (mulM_are hp) Hone.out).mono ?_; rintro e wn ⟨az, cz, rfl, hos, hbn⟩; have hbz := hbn2.size; have hbn2 := bnext (a := wr) (by assumption) hbn))
        go_wp2
        go_meet
        have q := hBr.size
        refine ⟨_, _, by rw [hh.out], hide ?_, ci.below hbn2, hBr.trans (hbn2.mono q)⟩
        rw [hh.out]
        exact hos.mono (by omega)
      case rest =>
        obtain ⟨am, cm, rfl, hO', ci', hB'⟩ := hcut
        clear F0 F1 F2 hP hb00 hsl ci hO
        go_wp2
        go_roundw
        case rel => exact ⟨k + 1, am, cm, by omega, by go_num, rfl, hO', ci', hB'⟩
        case measure => simp [intOf]; omega
    · obtain rfl : k = n1 := by omega
      have he : Hid (comM p f g = horP p f g k) := hide (by unfold comM; rw [hl1.out])
      have hsz : (k : Int) - 1 - (k : Int) = -1 := by omega
      rw [hsz]
      clear hsz
      go_wp2
      go_ret
      exact ⟨_, _, by rw [he.out]; rfl, by rw [he.out]; exact hO.out, hBr⟩
end Go.Proofs.Ytnojmghmkoojfaa
/- Plain mathematics: products of polynomials as convolutions: they do not depend on order or brackets; powers. No program. -/
namespace Go.Proofs.Ytnojmghmkoojfaa
open Go.RowKit
set_option linter.unusedVariables false
set_option linter.unusedSimpArgs false
theorem sm_ext (f : Nat → Int) (n : Nat) : ∀ m, n ≤ m → (∀ k, n ≤ k → k < m → f k = 0) → sm m f = sm n f := by
  intro m
  induction m with
  | zero => intro h _; rw [show n = 0 by omega]
  | succ m ih =>
    intro h hz
    by_cases e : n = m + 1
    · rw [e]
    · rw [sm, ih (by omega) (fun k h1 h2 => hz k h1 (by omega)), hz m (by omega) (by omega), Int.add_zero]
theorem sm_emod {p : Int} {n : Nat} {f g : Nat → Int} (h : ∀ k, k < n → f k % p = g k % p) : sm n f % p = sm n g % p := by
  induction n with
  | zero => rfl
  | succ n ih => rw [sm, sm, Int.add_emod, ih (fun k hk => h k (by omega)), h n (by omega), ← Int.add_emod]
theorem sm_rev : ∀ (n : Nat) (f : Nat → Int), sm (n + 1) f = sm (n + 1) (fun i => f (n - i)) := by
  intro n
  induction n with
  | zero => intro f; simp [sm]
  | succ n ih =>
    intro f
    rw [sm, sm_head (n + 1), ih, Int.add_comm, Nat.sub_zero]
    congr 1
    apply sm_congr
    intro k hk
    rw [show n + 1 - (k + 1) = n - k by omega]
theorem sm_tri (T : Nat → Nat → Int) : ∀ n, sm (n + 1) (fun i => sm (i + 1) (fun a => T a (i - a))) = sm (n + 1) (fun a => sm (n - a + 1) (fun b => T a b)) := by
  intro n
  induction n with
  | zero => simp [sm]
  | succ n ih =>
    have e0 : sm (n + 1 + 1) (fun i => sm (i + 1) (fun a => T a (i - a))) = sm (n + 1) (fun i => sm (i + 1) (fun a => T a (i - a))) + sm (n + 1 + 1) (fun a => T a (n + 1 - a)) := rfl
    have e1 : sm (n + 1) (fun a => sm (n + 1 - a + 1) (fun b => T a b)) = sm (n + 1) (fun a => sm (n - a + 1) (fun b => T a b)) + sm (n + 1) (fun a => T a (n + 1 - a)) := by
      rw [← sm_add]
      apply sm_congr
      intro a ha
      rw [show n + 1 - a + 1 = (n - a + 1) + 1 by omega, sm, show n - a + 1 = n + 1 - a by omega]
    have e2 : sm (n + 1 + 1) (fun a => sm (n + 1 - a + 1) (fun b => T a b)) = sm (n + 1) (fun a => sm (n + 1 - a + 1) (fun b => T a b)) + sm (n + 1 - (n + 1) + 1) (fun b => T (n + 1) b) := rfl
    have e3 : sm (n + 1 + 1) (fun a => T a (n + 1 - a)) = sm (n + 1) (fun a => T a (n + 1 - a)) + T (n + 1) (n + 1 - (n + 1)) := rfl
    rw [e0, ih, e2, e1, e3]
    simp only [Nat.sub_self, sm, Int.zero_add, Nat.zero_add]
    omega
/-- The coefficient j of a product. -/
def cv (F G : Nat → Int) (j : Nat) : Int := sm (j + 1) (fun i => F i * G (j - i))
theorem cv_comm (F G : Nat → Int) (j : Nat) : cv F G j = cv G F j := by
  unfold cv
  rw [sm_rev]
  apply sm_congr
  intro k hk
  rw [show j - (j - k) = k by omega, Int.mul_comm]
theorem cv_assoc (F G H : Nat → Int) (j : Nat) : cv (cv F G) H j = cv F (cv G H) j := by
  unfold cv
  have e1 : sm (j + 1) (fun i => sm (i + 1) (fun a => F a * G (i - a)) * H (j - i)) = sm (j + 1) (fun i => sm (i + 1) (fun a => (fun a b => F a * G b * H (j - a - b)) a (i - a))) := by
    apply sm_congr
    intro i hi
    rw [Int.mul_comm, ← sm_mul]
    apply sm_congr
    intro a ha
    simp only
    rw [show j - a - (i - a) = j - i by omega, Int.mul_comm]
  rw [e1, sm_tri (fun a b => F a * G b * H (j - a - b))]
  apply sm_congr
  intro a ha
  rw [← sm_mul]
  apply sm_congr
  intro b hb
  rw [Int.mul_assoc]
theorem cv_mod {p : Int} {F G F' G' : Nat → Int} (j : Nat) (h1 : ∀ i, F i % p = F' i % p) (h2 : ∀ i, G i % p = G' i % p) : cv F G j % p = cv F' G' j % p := by
  unfold cv
  apply sm_emod
  intro k _
  rw [Int.mul_emod, h1, h2, ← Int.mul_emod]
/-- The numbers of a list as a function. -/
def cf (f : List Int) : Nat → Int := fun j => f.getD j 0
theorem cf_far {f : List Int} {j : Nat} (h : f.length ≤ j) : cf f j = 0 := by
  unfold cf
  rw [List.getD_eq_getElem?_getD, List.getElem?_eq_none h]; rfl
theorem mulH_sm (p : Int) (f g : List Int) (i j : Nat) : mulH p f g i j % p = sm i (fun a => if a ≤ j then cf f a * cf g (j - a) else 0) % p := by
  induction i with
  | zero => simp [mulH, sm]
  | succ i ih =>
    unfold mulH mulIn
    rw [sm, Int.add_emod (sm i _), ← ih]
    by_cases h : i ≤ j ∧ j < i + g.length
    · rw [if_pos h, if_pos h.1, Int.emod_emod, ← Int.add_emod]
      rfl
    · rw [if_neg h]
      have e : (if i ≤ j then cf f i * cf g (j - i) else 0) = 0 := by
        split
        · rw [cf_far (f := g) (j := j - i) (by omega), Int.mul_zero]
        · rfl
      rw [e]
      simp
theorem mulH_cv {p : Int} (hp : 2 ≤ p) (f g : List Int) (j : Nat) : mulH p f g f.length j = cv (cf f) (cf g) j % p := by
  have h := mulH_sm p f g f.length j
  rw [Int.emod_eq_of_lt (mulH_rng hp f g _ j).1 (mulH_rng hp f g _ j).2] at h
  rw [h]
  congr 1
  have e1 := sm_ext (fun a => if a ≤ j then cf f a * cf g (j - a) else 0) f.length (max f.length (j + 1)) (by omega) (fun k h1 h2 => by
    show (if k ≤ j then cf f k * cf g (j - k) else 0) = 0
    split
    · rw [cf_far h1, Int.zero_mul]
    · rfl)
  have e2 := sm_ext (fun a => if a ≤ j then cf f a * cf g (j - a) else 0) (j + 1) (max f.length (j + 1)) (by omega) (fun k h1 h2 => if_neg (by omega))
  rw [← e1, e2]
  unfold cv
  apply sm_congr
  intro k hk
  rw [if_pos (by omega)]
theorem cv_far {f g : List Int} {j : Nat} (h : f.length + g.length ≤ j + 1) : cv (cf f) (cf g) j = 0 := by
  unfold cv
  rw [show (0 : Int) = sm 0 (fun i => cf f i * cf g (j - i)) from rfl]
  apply sm_ext _ 0 _ (by omega)
  intro k _ hk
  by_cases e : f.length ≤ k
  · rw [cf_far e, Int.zero_mul]
  · rw [cf_far (f := g) (by omega), Int.mul_zero]
theorem mulM_cf {p : Int} (hp : 2 ≤ p) (f g : List Int) (j : Nat) : cf (mulM p f g) j = cv (cf f) (cf g) j % p := by
  by_cases h : f.length = 0 ∨ g.length = 0
  · rw [mulM_nil (h.imp List.eq_nil_of_length_eq_zero List.eq_nil_of_length_eq_zero)]
    have e : cv (cf f) (cf g) j = 0 := by
      unfold cv
      rw [show (0 : Int) = sm 0 (fun i => cf f i * cf g (j - i)) from rfl]
      apply sm_ext _ 0 _ (by omega)
      intro k _ _
      rcases h with h | h
      · rw [cf_far (by omega), Int.zero_mul]
      · rw [cf_far (f := g) (by omega), Int.mul_zero]
    rw [e]; rfl
  · have h1 : f.length ≠ 0 := fun e => h (.inl e)
    have h2 : g.length ≠ 0 := fun e => h (.inr e)
    rw [mulM_tab h1 h2]
    by_cases hj : j < f.length + g.length - 1
    · unfold cf
      rw [tab_at _ _ _ hj]
      exact mulH_cv hp f g j
    · rw [cf_far (by rw [tab_len]; omega), cv_far (by omega)]; rfl
/-- The length of a product. -/
def mlen (a b : Nat) : Nat := if a = 0 ∨ b = 0 then 0 else a + b - 1
theorem mulM_mlen (p : Int) (f g : List Int) : (mulM p f g).length = mlen f.length g.length := by
  unfold mlen
  by_cases h : f.length = 0 ∨ g.length = 0
  · rw [mulM_nil (h.imp List.eq_nil_of_length_eq_zero List.eq_nil_of_length_eq_zero), if_pos h]; rfl
  · rw [if_neg h, mulM_tab (fun e => h (.inl e)) (fun e => h (.inr e)), tab_len]
theorem ext_cf {xs ys : List Int} (hl : xs.length = ys.length) (h : ∀ j, cf xs j = cf ys j) : xs = ys := ext_tab hl (fun j _ => h j)
theorem mulM_comm {p : Int} (hp : 2 ≤ p) (f g : List Int) : mulM p f g = mulM p g f := by
  apply ext_cf
  · rw [mulM_mlen, mulM_mlen]; unfold mlen; split <;> split <;> omega
  · intro j
    rw [mulM_cf hp, mulM_cf hp, cv_comm]
theorem mulM_assoc {p : Int} (hp : 2 ≤ p) (f g h : List Int) : mulM p (mulM p f g) h = mulM p f (mulM p g h) := by
  apply ext_cf
  · simp only [mulM_mlen, mlen]
    by_cases a : f.length = 0
    · simp [a]
    by_cases b : g.length = 0
    · simp [b]
    by_cases c : h.length = 0
    · simp [c]
    rw [if_neg (show ¬ (f.length = 0 ∨ g.length = 0) by omega), if_neg (show ¬ (g.length = 0 ∨ h.length = 0) by omega), if_neg (by omega), if_neg (by omega)]
    omega
  · intro j
    rw [mulM_cf hp, mulM_cf hp, cv_mod (F' := cv (cf f) (cf g)) (G' := cf h) j (fun i => by rw [mulM_cf hp, Int.emod_emod]) (fun i => rfl), cv_assoc,
      cv_mod (F := cf f) (G := cf (mulM p g h)) (F' := cf f) (G' := cv (cf g) (cf h)) j (fun i => rfl) (fun i => by rw [mulM_cf hp, Int.emod_emod])]
theorem cf_rng {p : Int} (hp : 2 ≤ p) {f : List Int} (h : areB p f = true) (j : Nat) : 0 ≤ cf f j ∧ cf f j < p := getD_rng h hp j
theorem mulM_one {p : Int} (hp : 2 ≤ p) {f : List Int} (hf : areB p f = true) : mulM p [1] f = f := by
  apply ext_cf
  · rw [mulM_mlen]; unfold mlen; show (if 1 = 0 ∨ f.length = 0 then 0 else 1 + f.length - 1) = f.length; split <;> omega
  · intro j
    rw [mulM_cf hp]
    have e : cv (cf [1]) (cf f) j = cf f j := by
      unfold cv
      rw [sm_head, Nat.sub_zero]
      have : sm j (fun k => cf [1] (k + 1) * cf f (j - (k + 1))) = 0 := by
        rw [show (0 : Int) = sm 0 (fun k => cf [1] (k + 1) * cf f (j - (k + 1))) from rfl]
        apply sm_ext _ 0 _ (by omega)
        intro k _ _
        rw [cf_far (f := [1]) (by simp), Int.zero_mul]
      rw [this]
      simp [cf]
    rw [e]
    exact Int.emod_eq_of_lt (cf_rng hp hf j).1 (cf_rng hp hf j).2
theorem mulM_areB {p : Int} (hp : 2 ≤ p) (f g : List Int) : areB p (mulM p f g) = true := areB_mk fun j _ => by
  have := mulM_cf hp f g j
  unfold cf at this
  rw [this]
  exact modb hp
/-- Powers of a polynomial. -/
def pwL (p : Int) (f : List Int) : Nat → List Int
  | 0 => [1]
  | k + 1 => mulM p (pwL p f k) f
theorem pwL_areB {p : Int} (hp : 2 ≤ p) (f : List Int) (k : Nat) : areB p (pwL p f k) = true := by
  cases k with
  | zero => simp [pwL, areB, okN]; omega
  | succ k => exact mulM_areB hp _ _
theorem pwL_len (p : Int) (f : List Int) (k : Nat) : (pwL p f k).length ≤ 1 + k * (f.length - 1) := by
  induction k with
  | zero => simp [pwL]
  | succ k ih =>
    rw [pwL, mulM_mlen]
    unfold mlen
    rw [Nat.succ_mul]
    split <;> omega
theorem pwL_sq {p : Int} (hp : 2 ≤ p) (f : List Int) (k : Nat) : pwL p (mulM p f f) k = pwL p f (2 * k) := by
  induction k with
  | zero => rfl
  | succ k ih => rw [pwL, ih, show 2 * (k + 1) = 2 * k + 1 + 1 by omega, pwL, pwL, mulM_assoc hp]
theorem pwL_left {p : Int} (hp : 2 ≤ p) (f : List Int) (k : Nat) : mulM p f (pwL p f k) = pwL p f (k + 1) := by
  rw [pwL, mulM_comm hp]
/-- A step of the squaring loop. -/
theorem pwL_odd {p : Int} (hp : 2 ≤ p) (r f : List Int) (k : Nat) : mulM p (mulM p r f) (pwL p (mulM p f f) k) = mulM p r (pwL p f (2 * k + 1)) := by
  rw [pwL_sq hp, mulM_assoc hp, pwL_left hp]
theorem pwL_even {p : Int} (hp : 2 ≤ p) (r f : List Int) (k : Nat) : mulM p r (pwL p (mulM p f f) k) = mulM p r (pwL p f (2 * k)) := by
  rw [pwL_sq hp]
end Go.Proofs.Ytnojmghmkoojfaa
