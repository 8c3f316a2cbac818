/- Values of polynomials at polynomials: the closures of polysModulo, evaluate, composition (program and model). -/
import Derived.Test.YtnojmghmkoojfaaEv
import Derived.Test.YtnojmghmkoojfaaMu
import Derived.Test.YtnojmghmkoojfaaGc
namespace Go.Proofs.Ytnojmghmkoojfaa
open Go.RowKit
set_option linter.unusedVariables false
set_option linter.unusedSimpArgs false

/-- Horner's rule at a polynomial, k numbers taken in from the last one on. -/
def horP (p : Int) (f g : List Int) : Nat → List Int
  | 0 => []
  | k + 1 => addM p (mulM p (horP p f g k) g) (trimL [f.getD (f.length - 1 - k) 0]) 1
def comM (p : Int) (f g : List Int) : List Int := horP p f g f.length
theorem mulM_rng {p : Int} {f g : List Int} (hp : 2 ≤ p) (j : Nat) : 0 ≤ (mulM p f g).getD j 0 ∧ (mulM p f g).getD j 0 < p := by
  by_cases h : f.length = 0 ∨ g.length = 0
  · rw [mulM_nil (h.imp List.eq_nil_of_length_eq_zero List.eq_nil_of_length_eq_zero)]
    simp; omega
  · have h1 : f.length ≠ 0 := fun e => h (.inl e)
    have h2 : g.length ≠ 0 := fun e => h (.inr e)
    rw [mulM_tab h1 h2]
    by_cases hj : j < f.length + g.length - 1
    · rw [tab_at _ _ _ hj]
      exact mulH_rng hp _ _ _ _
    · have : (tab (f.length + g.length - 1) (mulH p f g f.length)).getD j 0 = 0 := by
        rw [List.getD_eq_getElem?_getD, List.getElem?_eq_none (by rw [tab_len]; omega)]; rfl
      rw [this]; omega
theorem mulM_are {p : Int} {f g : List Int} (hp : 2 ≤ p) : areB p (mulM p f g) = true := areB_mk fun j _ => mulM_rng hp j
theorem mulM_up {f g : List Int} {p : Int} : (mulM p f g).length = 0 ∨ (f.length ≠ 0 ∧ g.length ≠ 0 ∧ (mulM p f g).length = f.length + g.length - 1) := by
  by_cases h : f.length = 0 ∨ g.length = 0
  · exact .inl (by rw [mulM_nil (h.imp List.eq_nil_of_length_eq_zero List.eq_nil_of_length_eq_zero)]; rfl)
  · have h1 : f.length ≠ 0 := fun e => h (.inl e)
    have h2 : g.length ≠ 0 := fun e => h (.inr e)
    exact .inr ⟨h1, h2, by rw [mulM_tab h1 h2, tab_len]⟩
theorem addM_poly {p : Int} {f g : List Int} {k : Int} (hp : 2 ≤ p) (h1 : f.length ≤ 25) (h2 : g.length ≤ 25) (hf : areB p f = true) : polyB p (addM p f g k) = true := by
  unfold addM
  refine polyB_trim (by rw [tab_len]; omega) fun j hj => ?_
  rw [tab_len] at hj
  rw [tab_at _ _ _ hj]
  unfold sumH
  split
  · exact modb hp
  · exact getD_rng hf hp j
theorem addM_up {p : Int} {f g : List Int} {k : Int} : (addM p f g k).length ≤ max f.length g.length := by
  unfold addM
  exact Nat.le_trans (trimL_le _) (by rw [tab_len]; omega)
theorem one_up (x : Int) : (trimL [x]).length ≤ 1 := trimL_le [x]
theorem one_are {p x : Int} (h0 : 0 ≤ x) (h1 : x < p) : areB p (trimL [x]) = true := areB_mk fun j hj => by
  have := one_up x
  rw [trimL_at _ _ hj]
  have : j = 0 := by omega
  subst this
  exact ⟨h0, h1⟩
theorem horP_poly {p : Int} {f g : List Int} (hp : primeB p = true) (hf : polyB p f = true) (hg : polyB p g = true) (hd : (f.length - 1) * (g.length - 1) ≤ 24) :
    ∀ k, k ≤ f.length → polyB p (horP p f g k) = true ∧ (horP p f g k).length ≤ 1 + (k - 1) * (g.length - 1) ∧ (k = 0 → horP p f g k = []) := by
  have hpl := primeB_lo hp
  intro k
  induction k with
  | zero => exact fun _ => ⟨by simp [horP, polyB, areB], by simp [horP], fun _ => rfl⟩
  | succ k ih =>
    intro hk
    obtain ⟨i1, i2, i3⟩ := ih (by omega)
    have hle : k * (g.length - 1) ≤ (f.length - 1) * (g.length - 1) := Nat.mul_le_mul_right _ (by omega)
    have hm : (mulM p (horP p f g k) g).length ≤ 1 + k * (g.length - 1) := by
      rcases mulM_up (f := horP p f g k) (g := g) (p := p) with h | ⟨h1, h2, h⟩
      · omega
      · cases k with
        | zero => exact absurd (by rw [i3 rfl]; rfl) h1
        | succ k =>
          have : (k + 1) * (g.length - 1) = k * (g.length - 1) + (g.length - 1) := Nat.succ_mul _ _
          simp at i2
          omega
    have ho := one_up (f.getD (f.length - 1 - k) 0)
    refine ⟨addM_poly hpl.1 (by omega) (by omega) (mulM_are hpl.1), ?_, fun h => absurd h (by omega)⟩
    have := addM_up (p := p) (f := mulM p (horP p f g k) g) (g := trimL [f.getD (f.length - 1 - k) 0]) (k := 1)
    rw [horP, Nat.add_sub_cancel]
    omega
set_option maxHeartbeats 400000 in
theorem polyConst (x : Int) (w : World) :
    Calls Try.prog 98 #[num x] w fun e w' => ∃ a' c', e = .returned (.slice a' (trimL [x]).length c') ∧ Own w.heap.size w' a' c' (trimL [x]) ∧ Below w.heap.size w w' := by
  have ho : Own w.heap.size ((w.alloc (.cells #[.int .i64 x] 82)).alloc (.cells #[.int .i64 x] 2)) (some ⟨w.heap.size + 1, 0, none⟩) 1 [x] := by
    have := World.ownsRow_lit (w.alloc (.cells #[.int .i64 x] 82)) (base := w.heap.size) (e := 2) (size := 1) #[.int .i64 x] 1 (by simp) (by decide) rfl
    simp at this
    exact this
  have Ho := hide ho
  have hsl := ho.sl
  have hb2 := bl2 w (.cells #[.int .i64 x] 82) (.cells #[.int .i64 x] 2)
  clear ho
  go_enter Try.func98, Try.ntmps98
  go_wp2_with (go_at_call 99; refine (trim_any _ _ _ _ _ hsl (by simp)).mono ?_; rintro e w3 ⟨rfl, hb3⟩)
  go_ret
  refine ⟨_, _, ?_, (Ho.out.below hb3).takeG (m := trimN [x] 1) (trimN_le _ _), hb2.trans (hb3.mono (by simp; omega))⟩
  rw [trimL_len]; rfl
set_option maxHeartbeats 400000 in
theorem polySum (p : Int) (b : Nat) (a1 : Option Addr) (n1 c1 : Nat) (f : List Int) (a2 : Option Addr) (n2 c2 : Nat) (g : List Int) (w : World) (hc : w.cell? ⟨b, 0, none⟩ = some (.int .i64 p)) (h1 : SL w a1 n1 c1 f) (h2 : SL w a2 n2 c2 g)
    (b1 : n1 ≤ 1000) (b2 : n2 ≤ 1000) (hp : 2 ≤ p) (hp2 : p ≤ 10007) (hf : areB p f = true) (hg : areB p g = true) :
    Calls Try.prog 100 #[.slice a1 n1 c1, .slice a2 n2 c2, .pointer (some ⟨b, 0, none⟩)] w fun e w' => ∃ a' c', e = .returned (.slice a' (addM p f g 1).length c') ∧ Own w.heap.size w' a' c' (addM p f g 1) ∧ Below w.heap.size w w' := by
  have Hf := hide hf
  have Hg := hide hg
  clear hf hg
  go_enter Try.func100, Try.ntmps100
  go_wp2_with (go_at_call 101; refine (addMultiple_any p 1 _ _ _ f _ _ _ g _ h1 h2 b1 b2 hp hp2 (by omega) (by omega) Hf.out Hg.out).mono ?_; rintro e w3 ⟨a', c', rfl, ho, hb3⟩)
  go_ret
  exact ⟨_, _, rfl, ho, hb3⟩
set_option maxHeartbeats 400000 in
theorem polyMul (p : Int) (b : Nat) (a1 : Option Addr) (n1 c1 : Nat) (f : List Int) (a2 : Option Addr) (n2 c2 : Nat) (g : List Int) (w : World) (hc : w.cell? ⟨b, 0, none⟩ = some (.int .i64 p)) (h1 : SL w a1 n1 c1 f) (h2 : SL w a2 n2 c2 g)
    (b1 : n1 ≤ 1000) (b2 : n2 ≤ 1000) (hp : 2 ≤ p) (hp2 : p ≤ 10007) (hf : areB p f = true) (hg : areB p g = true) :
    Calls Try.prog 102 #[.slice a1 n1 c1, .slice a2 n2 c2, .pointer (some ⟨b, 0, none⟩)] w fun e w' => ∃ a' c', e = .returned (.slice a' (mulM p f g).length c') ∧ Own w.heap.size w' a' c' (mulM p f g) ∧ Below w.heap.size w w' := by
  have Hf := hide hf
  have Hg := hide hg
  clear hf hg
  go_enter Try.func102, Try.ntmps102
  go_wp2_with (go_at_call 56; refine (multiply_any p _ _ _ f _ _ _ g _ h1 h2 b1 b2 hp hp2 Hf.out Hg.out).mono ?_; rintro e w3 ⟨a', c', rfl, ho, hb3⟩)
  go_ret
  exact ⟨_, _, rfl, ho, hb3⟩
set_option maxHeartbeats 400000 in
theorem polysModulo_any (p : Int) (w : World) :
    Calls Try.prog 65 #[.int .i64 p] w fun e w' => e = .returned (.agg #[.func (.func 98) #[] #[], clo 100 w.heap.size, clo 102 w.heap.size]) ∧
      w'.cell? ⟨w.heap.size, 0, none⟩ = some (.int .i64 p) ∧ Below w.heap.size w w' ∧ w.heap.size < w'.heap.size := by
  go_enter Try.func65, Try.ntmps65
  go_wp2
  refine bodyPost_ret (v := .agg #[.func (.func 98) #[] #[], clo 100 w.heap.size, clo 102 w.heap.size]) (by simp [results, Try.results65, go_sem]) rfl ⟨rfl, by simp [go_sem], bl2 _ _ _, by simp; omega⟩
theorem polyConst0 (w : World) :
    Calls Try.prog 98 #[num 0] w fun e w' => ∃ a' c', e = .returned (.slice a' 0 c') ∧ Own w.heap.size w' a' c' [] ∧ Below w.heap.size w w' := polyConst 0 w
/-- The closures' cells. -/
structure CInv (w : World) (B b : Nat) : Prop where
  h0 : w.cell? ⟨B, 0, none⟩ = some (.func (.func 98) #[] #[])
  h1 : w.cell? ⟨B, 1, none⟩ = some (clo 100 b)
  h2 : w.cell? ⟨B, 2, none⟩ = some (clo 102 b)
theorem CInv.below {w w' : World} {B b : Nat} (h : CInv w B b) (hb : Below w.heap.size w w') : CInv w' B b := by
  have k : ∀ {a : Addr} {v : Value}, w.cell? a = some v → w'.cell? a = some v := fun hh => (hb.cell (World.block_lt_of_cell? w _ hh)).trans hh
  exact ⟨k h.h0, k h.h1, k h.h2⟩
set_option maxRecDepth 100000 in
set_option maxHeartbeats 3200000 in
theorem evaluate_poly (p : Int) (a1 : Option Addr) (n1 c1 : Nat) (f : List Int) (a2 : Option Addr) (n2 c2 : Nat) (g : List Int) (b : Nat) (w : World) (hc : w.cell? ⟨b, 0, none⟩ = some (.int .i64 p)) (h1 : SL w a1 n1 c1 f) (h2 : SL w a2 n2 c2 g)
    (hpr : primeB p = true) (hf : polyB p f = true) (hg : polyB p g = true) (hd : (f.length - 1) * (g.length - 1) ≤ 24) :
    Calls Try.prog 66 #[.agg #[.func (.func 98) #[] #[], clo 100 b, clo 102 b], .slice a1 n1 c1, .slice a2 n2 c2] w
      fun e w' => ∃ a' c', e = .returned (.slice a' (comM p f g).length c') ∧ Own w.heap.size w' a' c' (comM p f g) ∧ Below w.heap.size w w' := by
  have hl1 := hide h1.len
  have hl2 := hide h2.len
  have Hf := hide (poly_are hf)
  have Hg := hide (poly_are hg)
  have d1 : n1 ≤ 25 := by have := poly_len hf; have := hl1.out; omega
  have d2 : n2 ≤ 25 := by have := poly_len hg; have := hl2.out; omega
  have HP := hide (horP_poly hpr hf hg hd)
  obtain ⟨hp, hp2⟩ := primeB_lo hpr
  clear hf hg hpr hd
  have ci1 : CInv (w.alloc (.cells #[.func (.func 98) #[] #[], clo 100 b, clo 102 b] 68)) w.heap.size b := ⟨by simp [go_sem], by simp [go_sem], by simp [go_sem]⟩
  go_enter Try.func66, Try.ntmps66
  go_wp2_with fail
  refine (polyConst0 _).mono ?_
  rintro e w1 ⟨a0, c0, rfl, ho0, hb1⟩
  have hO0 : Hid (Own w.heap.size w1 a0 c0 (horP p f g 0)) := hide (ho0.mono (by simp))
  have hB1 : Below w.heap.size w w1 := (bl1 _ _).trans (hb1.mono (by simp))
  have ci2 := ci1.below hb1
  clear ci1 ho0 hb1
  go_wp2
  go_loopw [7, 8] (fun v i wr => ∃ (k : Nat) (a' : Option Addr) (c' : Nat), k ≤ n1 ∧ i = .int .i64 ((n1 : Int) - 1 - (k : Int)) ∧ v = .slice a' (horP p f g k).length c' ∧ Hid (Own w.heap.size wr a' c' (horP p f g k)) ∧ CInv wr w.heap.size b ∧ Below w.heap.size w wr) (fun _ i _ => (intOf i + 1).toNat)
  case atStart => exact ⟨0, a0, c0, by omega, by simp, rfl, hO0, ci2, hB1⟩
  case round =>
    obtain ⟨k, a', c', hk, rfl, rfl, hO, ci, hBr⟩ := hrel
    clear hO0 ci2 hB1
    by_cases hlt : k < n1
    · have hr := getD_rng Hf.out hp (n1 - 1 - k)
      have hh : Hid (horP p f g (k + 1) = addM p (mulM p (horP p f g k) g) (trimL [f.getD (n1 - 1 - k) 0]) 1) := hide (by rw [horP, hl1.out])
      obtain ⟨y, hy⟩ : ∃ y, f.getD (n1 - 1 - k) 0 = y := ⟨_, rfl⟩
      have hvp := (HP.out k (by rw [hl1.out]; exact hk)).1
      have hv1 := poly_len hvp
      have Hv := hide (poly_are hvp)
      obtain ⟨v, hvv⟩ : ∃ v, horP p f g k = v := ⟨_, rfl⟩
      rw [hy] at hr hh
      rw [hvv] at hh hv1 Hv hO ⊢
      have hge : (0 : Int) ≤ (n1 : Int) - 1 - (k : Int) := by omega
      have Hy := hide hy
      obtain ⟨r1, r2⟩ := hr
      have hm1 : (mulM p v g).length ≤ 1000 := by
        have := hl2.out
        rcases mulM_up (p := p) (f := v) (g := g) with h | ⟨_, _, h⟩ <;> omega
      have hsl := hO.out.sl
      have Hone := hide (one_are r1 r2)
      have hb00 : Below wr.heap.size wr wr.drew := (Below.refl _ _).drew
      have F0 : ∀ w', Below wr.heap.size wr w' → w'.cell? ⟨w.heap.size, 0, none⟩ = some (.func (.func 98) #[] #[]) := fun w' hb => (ci.below hb).h0
      have F1 : ∀ w', Below wr.heap.size wr w' → w'.cell? ⟨w.heap.size, 1, none⟩ = some (clo 100 b) := fun w' hb => (ci.below hb).h1
      have F2 : ∀ w', Below wr.heap.size wr w' → w'.cell? ⟨w.heap.size, 2, none⟩ = some (clo 102 b) := fun w' hb => (ci.below hb).h2
      have hP : ∀ w', Below wr.heap.size wr w' → w'.cell? ⟨b, 0, none⟩ = some (.int .i64 p) := fun w' hb =>
        ((hBr.trans (hb.mono hBr.size)).cell (World.block_lt_of_cell? w _ hc)).trans hc
      clear hy hvv hvp
      go_upto_block 1 with fail
      go_cut [7] (fun s7 wx => ∃ a' c', s7 = .slice a' (horP p f g (k + 1)).length c' ∧ Hid (Own w.heap.size wx a' c' (horP p f g (k + 1))) ∧ CInv wx w.heap.size b ∧ Below w.heap.size w wx)
      case first =>
        go_wp2
        go_region_held3 (fun w' => w'.cell? ⟨w.heap.size, 0, none⟩ = some (.func (.func 98) #[] #[]) ∧ w'.cell? ⟨w.heap.size, 1, none⟩ = some (clo 100 b) ∧ w'.cell? ⟨w.heap.size, 2, none⟩ = some (clo 102 b))
          (exact ⟨F0 _ (by assumption), F1 _ (by assumption), F2 _ (by assumption)⟩)
          (first
          | (go_at_call 102; refine (polyMul p b _ _ _ v _ _ _ g _ (hP _ (by assumption)) (hsl.below (by assumption)) ((h2.below hBr).below (by assumption)) (by omega) (by omega) hp hp2 Hv.out Hg.out).mono ?_; rintro e wn ⟨am, cm, rfl, hom, hbn⟩; have hbn2 := bnext (a := wr) (by assumption) hbn)
          | (go_at_call 103; refine (numberAt_v _ n1 c1 (n1 - 1 - k) _ f y _ ((h1.below hBr).below (by assumption)) (by omega) (by omega) (by omega) Hy.out).mono ?_; rintro e wn ⟨rfl, hbn⟩; have hbn2 := bnext (a := wr) (by assumption) hbn; replace hom := hom.below hbn)
          | (go_at_call 98; refine (polyConst y _).mono ?_; rintro e wn ⟨ao, co, rfl, hoo, hbn⟩; have hbn2 := bnext (a := wr) (by assumption) hbn; replace hom := hom.below hbn)
          | (go_at_call 100; refine (polySum p b _ _ _ (mulM p v g) _ _ _ (trimL [y]) _ (hP _ (by assumption)) hom.sl hoo.sl hm1 (by have := one_up y; omega) hp hp2 (mulM_are hp) Hone.out).mono ?_; rintro e wn ⟨az, cz, rfl, hos, hbn⟩; have hbz := hbn2.size; have hbn2 := bnext (a := wr) (by assumption) hbn))
        go_wp2
        go_meet
        have q := hBr.size
        refine ⟨_, _, by rw [hh.out], hide ?_, ci.below hbn2, hBr.trans (hbn2.mono q)⟩
        rw [hh.out]
        exact hos.mono (by omega)
      case rest =>
        obtain ⟨am, cm, rfl, hO', ci', hB'⟩ := hcut
        clear F0 F1 F2 hP hb00 hsl ci hO
        go_wp2
        go_roundw
        case rel => exact ⟨k + 1, am, cm, by omega, by go_num, rfl, hO', ci', hB'⟩
        case measure => simp [intOf]; omega
    · obtain rfl : k = n1 := by omega
      have he : Hid (comM p f g = horP p f g k) := hide (by unfold comM; rw [hl1.out])
      have hsz : (k : Int) - 1 - (k : Int) = -1 := by omega
      rw [hsz]
      clear hsz
      go_wp2
      go_ret
      exact ⟨_, _, by rw [he.out]; rfl, by rw [he.out]; exact hO.out, hBr⟩
end Go.Proofs.Ytnojmghmkoojfaa
