/- Contracts: DerivativeOf (program and model). -/
import Derived.Test.YtgaafhcnfeipbaaCl
import Derived.Test.YtgaafhcnfeipbaaAp
namespace Go.Proofs.Ytgaafhcnfeipbaa
open Go.RowKit
set_option linter.unusedVariables false
set_option linter.unusedSimpArgs false

theorem tab_snoc (j : Nat) (h : Nat → Int) : tab j h ++ [h j] = tab (j + 1) h := by simp [tab, List.range_succ]
theorem wp_push {w : World} {ops : Array Oper} {rest : List Oper} {o : Oper} {a : Act} {Q : Exit → Act → World → Prop}
    (hgd : o.guard = none) (s x : Operand) (ho : o.op = .call { callee := .builtin .append, args := #[s, x], argTypes := #[22, 22] })
    (B : Nat) (ad : Option Addr) (n cap : Nat) (ys : List Int) (hs : a.eval s = .slice ad n cap) (hn : n = ys.length) (hown : Own B w ad cap ys)
    (g : Nat) (v : Int) (hx : a.eval x = .slice (some ⟨g, 0, none⟩) 1 1) (hv : w.cell? ⟨g, 0, none⟩ = some (.int .i64 v)) (hmax : n ≤ 3999999) (hB : B ≤ w.heap.size)
    (hK : ∀ ad' cap' w', Own B w' ad' cap' (ys ++ [v]) → Below B w w' → wpList Try.prog ops Q rest (a.put o.dst (.slice ad' (n + 1) cap')) w') :
    wpList Try.prog ops Q (o :: rest) a w := by
  subst hn
  refine wp_append hgd s x ho B ad ys.length cap ys hs rfl hown (some ⟨g, 0, none⟩) 1 1 [v] hx ⟨rfl, ⟨Nat.le_refl _, fun h => by cases h⟩, .inr ⟨g, 0, rfl, fun j hj => ?_⟩⟩ (by omega) hB ?_
  · obtain rfl : j = 0 := by omega
    simpa using hv
  · intro ad' cap' w' h1 h2
    have := hK ad' cap' w' h1 h2
    simpa using this
def derH (p : Int) (f : List Int) : Nat → Int := fun j => ((j : Int) + 1) * f.getD (j + 1) 0 % p
def derM (p : Int) (f : List Int) : List Int := trimL (tab (f.length - 1) (derH p f))
def derC (p : Int) (f : List Int) : Int := chk1 p f
def derV (p : Int) (f : List Int) : List Int := if derC p f = 0 then derM p f else []
theorem derM_len (p : Int) (f : List Int) : (derM p f).length ≤ f.length := by
  unfold derM
  rw [trimL_len]
  have := trimN_le (tab (f.length - 1) (derH p f)) (tab (f.length - 1) (derH p f)).length
  rw [tab_len] at *
  omega
theorem mul25 {p x k : Int} (h1 : 0 ≤ x) (h2 : x < p) (hp : p ≤ 10007) (h3 : 0 ≤ k) (h4 : k ≤ 1000) : 0 ≤ k * x ∧ k * x ≤ 10007000 := by
  refine ⟨Int.mul_nonneg h3 h1, ?_⟩
  have : k * x ≤ 1000 * 10007 := Int.mul_le_mul h4 (by omega) h1 (by omega)
  omega
set_option maxRecDepth 100000 in
set_option maxHeartbeats 1600000 in
theorem l01Derive_any (p : Int) (a1 : Option Addr) (n1 c1 : Nat) (f : List Int) (w : World) (h1 : SL w a1 n1 c1 f) (b1 : n1 ≤ 1000) (hp : 2 ≤ p) (hp2 : p ≤ 10007) (hf : areB p f = true) :
    Calls Try.prog 77 #[.int .i64 p, .slice a1 n1 c1] w fun e w' => ∃ a' c', e = .returned (.slice a' (derM p f).length c') ∧ Own w.heap.size w' a' c' (derM p f) ∧ Below w.heap.size w w' := by
  have hl1 := hide h1.len
  have Hf := hide hf
  have hm : Hid (derM p f = trimL (tab (n1 - 1) (derH p f))) := hide (by unfold derM; rw [hl1.out])
  have ho0 : Hid (Own w.heap.size (w.alloc (.cells #[] 2)) (some ⟨w.heap.size, 0, none⟩) 0 (tab 0 (derH p f))) := hide (by
    have := World.ownsRow_lit w (base := w.heap.size) (e := 2) (size := 1) #[] 0 (Nat.le_refl _) (by simp) rfl
    exact this)
  clear hf
  go_enter Try.func77, Try.ntmps77
  go_wp2
  go_loopw [5, 6] (fun v i wr => ∃ (j : Nat) (a' : Option Addr) (c' : Nat), (j = 0 ∨ j + 1 ≤ n1) ∧ i = .int .i64 ((j : Int) + 1) ∧ v = .slice a' j c' ∧ a' ≠ none ∧ Hid (Own w.heap.size wr a' c' (tab j (derH p f))) ∧ Below w.heap.size w wr) (fun _ i _ => n1 + 1 - (intOf i).toNat)
  case atStart => exact ⟨0, _, 0, .inl rfl, by simp, rfl, by simp, ho0, bl1 _ _⟩
  case round =>
    obtain ⟨j, a', c', hj, rfl, rfl, ha', hO, hBr⟩ := hrel
    clear ho0
    by_cases hlt : j + 1 < n1
    · obtain ⟨b, off, ha, hbw, hcell⟩ := (h1.below hBr).at (by omega)
      subst ha
      have e1 := hcell (j + 1) hlt
      have hr := getD_rng Hf.out hp (j + 1)
      have hd : Hid (derH p f j = ((j : Int) + 1) * f.getD (j + 1) 0 % p) := hide rfl
      obtain ⟨y, hy⟩ : ∃ y, f.getD (j + 1) 0 = y := ⟨_, rfl⟩
      rw [hy] at e1 hr hd
      obtain ⟨m1, m2⟩ := mul25 (k := (j : Int) + 1) hr.1 hr.2 hp2 (by omega) (by omega)
      have hlt' : (j : Int) + 1 < (n1 : Int) := by omega
      have hkt : ((j : Int) + 1).toNat = j + 1 := by omega
      have hbs := hBr.size
      clear hcell hy
      go_wp2_with (at_builtin; refine wp_push rfl _ _ rfl w.heap.size a' j c' (tab j (derH p f)) rfl (tab_len _ _).symm (hO.out.below (bl1 _ _)) wr.heap.size (((j : Int) + 1) * y % p) rfl (by simp [go_sem]) (by omega) (by simp; omega) ?_; intro ad' cap' w1 hown hb)
      have hown' : Hid (Own w.heap.size w1 ad' cap' (tab (j + 1) (derH p f))) := hide (by
        have := hown
        rw [← hd.out, tab_snoc] at this
        exact this)
      have ha2 : ad' ≠ none := fun e => by
        obtain ⟨g, hg, _⟩ := hown'.out.blkG (by rw [tab_len]; omega)
        rw [e] at hg; cases hg
      have hB1 := (hBr.alloc hBr.size (.cells #[.int .i64 (((j : Int) + 1) * y % p)] 2)).trans hb
      clear hown hb hO
      go_wp2
      go_roundw
      case rel => exact ⟨j + 1, ad', cap', .inr (by omega), by go_num, rfl, ha2, hown', hB1⟩
      case measure => simp [intOf]; omega
    · have hje : j = n1 - 1 := by omega
      obtain ⟨ad, had⟩ : ∃ ad, a' = some ad := by
        cases a' with
        | none => exact absurd rfl ha'
        | some ad => exact ⟨ad, rfl⟩
      subst had
      have hsl := hO.out.sl
      rw [tab_len] at hsl
      obtain ⟨g, hg⟩ : ∃ g, ad = ⟨g, 0, none⟩ := by
        rcases hO.out.shape with ⟨h, _⟩ | ⟨g, _, h, _⟩
        · cases h
        · exact ⟨g, Option.some.inj h⟩
      subst hg
      have Hj := hide hje
      have hlt' : ¬ (j : Int) + 1 < (n1 : Int) := by omega
      have Hlen := hide (show (derM p f).length = (trimL (tab j (derH p f))).length by rw [hm.out, hje])
      have hm2 := hide (show derM p f = trimL (tab j (derH p f)) by rw [hm.out, hje])
      clear hje
      go_wp2_with (go_at_call 101; refine (l01Trim_any _ _ _ _ _ _ hsl (by omega)).mono ?_; rintro e w3 ⟨a3, c3, rfl, hown, hb3⟩)
      go_ret
      refine ⟨a3, c3, by rw [Hlen.out]; rfl, ?_, hBr.trans (hb3.mono hBr.size)⟩
      rw [hm2.out]
      exact hown.mono hBr.size
set_option maxRecDepth 100000 in
set_option maxHeartbeats 1600000 in
theorem implDerivativeOf (p : Int) (a1 : Option Addr) (n1 c1 : Nat) (f : List Int) (w : World) (h1 : SL w a1 n1 c1 f) (b1 : n1 ≤ 4000000) :
    Calls Try.prog 79 #[.int .i64 p, .slice a1 n1 c1] w (Res1 w (derV p f) (derC p f)) := by
  have hl1 := hide h1.len
  rcases chk1_cases p f with hc | hc | ⟨hc, hf, hpr⟩
  · have HC := hide (show derC p f = 1 by simp [derC, hc])
    have HV := hide (show derV p f = [] by simp [derV, HC.out])
    have Hc := hide hc
    clear hc
    go_enter Try.func79, Try.ntmps79
    go_wp2_with (go_at_call 105; refine (check1 p _ _ _ f 1 _ h1 b1 Hc.out).mono ?_; rintro e w1 ⟨rfl, hb1⟩)
    go_ret2
    exact Res1.nil HV.out HC.out hb1
  · have HC := hide (show derC p f = 2 by simp [derC, hc])
    have HV := hide (show derV p f = [] by simp [derV, HC.out])
    have Hc := hide hc
    clear hc
    go_enter Try.func79, Try.ntmps79
    go_wp2_with (go_at_call 105; refine (check1 p _ _ _ f 2 _ h1 b1 Hc.out).mono ?_; rintro e w1 ⟨rfl, hb1⟩)
    go_ret2
    exact Res1.nil HV.out HC.out hb1
  · obtain ⟨hp, hp2⟩ := primeB_lo hpr
    have d1 : n1 ≤ 25 := by have := poly_len hf; have := hl1.out; omega
    have Hf := hide (poly_are hf)
    have hm : Hid (derM p f = trimL (tab (n1 - 1) (derH p f))) := hide (by unfold derM; rw [hl1.out])
    have HC := hide (show derC p f = 0 by simp [derC, hc])
    have HV := hide (show derV p f = derM p f by simp [derV, HC.out])
    have Hc := hide hc
    clear hc hf hpr
    go_enter Try.func79, Try.ntmps79
    go_wp2_with fail
    refine (check1 p _ _ _ f 0 _ h1 b1 Hc.out).mono ?_
    rintro e w0 ⟨rfl, hb0⟩
    have ho0 : Hid (Own w.heap.size w0 none 0 (tab 0 (derH p f))) := hide (Own.nil _ _)
    go_wp2
    go_loopw [7, 8] (fun v i wr => ∃ (j : Nat) (a' : Option Addr) (c' : Nat), (j = 0 ∨ j + 1 ≤ n1) ∧ i = .int .i64 ((j : Int) + 1) ∧ v = .slice a' j c' ∧ Hid (Own w.heap.size wr a' c' (tab j (derH p f))) ∧ Below w.heap.size w wr) (fun _ i _ => n1 + 1 - (intOf i).toNat)
    case atStart => exact ⟨0, none, 0, .inl rfl, by simp, rfl, ho0, hb0⟩
    case round =>
      obtain ⟨j, a', c', hj, rfl, rfl, hO, hBr⟩ := hrel
      clear ho0 hb0
      by_cases hlt : j + 1 < n1
      · obtain ⟨b, off, ha, hbw, hcell⟩ := (h1.below hBr).at (by omega)
        subst ha
        have e1 := hcell (j + 1) hlt
        have hr := getD_rng Hf.out hp (j + 1)
        have hd : Hid (derH p f j = ((j : Int) + 1) * f.getD (j + 1) 0 % p) := hide rfl
        obtain ⟨y, hy⟩ : ∃ y, f.getD (j + 1) 0 = y := ⟨_, rfl⟩
        rw [hy] at e1 hr hd
        obtain ⟨m1, m2⟩ := mul25 (k := (j : Int) + 1) hr.1 hr.2 hp2 (by omega) (by omega)
        have hlt' : (j : Int) + 1 < (n1 : Int) := by omega
        have hkt : ((j : Int) + 1).toNat = j + 1 := by omega
        have hbs := hBr.size
        clear hcell hy
        go_wp2_with (at_builtin; refine wp_push rfl _ _ rfl w.heap.size a' j c' (tab j (derH p f)) rfl (tab_len _ _).symm (hO.out.below (bl1 _ _)) wr.heap.size (((j : Int) + 1) * y % p) rfl (by simp [go_sem]) (by omega) (by simp; omega) ?_; intro ad' cap' w1 hown hb)
        have hown' : Hid (Own w.heap.size w1 ad' cap' (tab (j + 1) (derH p f))) := hide (by
          have := hown
          rw [← hd.out, tab_snoc] at this
          exact this)
        have hB1 := (hBr.alloc hBr.size (.cells #[.int .i64 (((j : Int) + 1) * y % p)] 2)).trans hb
        clear hown hb hO
        go_wp2
        go_roundw
        case rel => exact ⟨j + 1, ad', cap', .inr (by omega), by go_num, rfl, hown', hB1⟩
        case measure => simp [intOf]; omega
      · have hje : j = n1 - 1 := by omega
        have hsl := hO.out.sl
        rw [tab_len] at hsl
        have hlt' : ¬ (j : Int) + 1 < (n1 : Int) := by omega
        have hm2 := hide (show derV p f = (tab j (derH p f)).take (trimN (tab j (derH p f)) j) by rw [HV.out, hm.out, ← hje]; unfold trimL; rw [tab_len])
        have hln := trimN_le (tab j (derH p f)) j
        clear hje
        go_wp2_with (go_at_call 80; refine (trim_any _ _ _ _ _ hsl (by omega)).mono ?_; rintro e w3 ⟨rfl, hb3⟩)
        go_ret2
        have ho3 := (hO.out.below hb3).takeG (m := trimN (tab j (derH p f)) j) (by rw [tab_len]; exact hln)
        rw [← hm2.out] at ho3
        exact Res1.own HC.out (by rw [hm2.out, List.length_take, tab_len]; omega) ho3 (by rw [hm2.out, List.length_take, tab_len]; omega) (hBr.trans (hb3.mono hBr.size))
end Go.Proofs.Ytgaafhcnfeipbaa
