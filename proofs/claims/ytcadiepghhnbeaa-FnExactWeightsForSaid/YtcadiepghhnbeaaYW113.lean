/- Merged texts. -/
import Derived.Test.YtcadiepghhnbeaaYW110
import Derived.Test.YtcadiepghhnbeaaYW18
import Derived.Test.YtcadiepghhnbeaaYW112
import Derived.Test.YtcadiepghhnbeaaYW16
import Derived.Deep.QuietTactic
import Derived.BigQuiet
import Derived.Deep.RegionWith
import Derived.Deep.RegionHeld3
/- Values of polynomials at polynomials: the closures of polysModulo, evaluate, composition (program and model). -/
namespace Go.Proofs.Ytcadiepghhnbeaa
open Go.RowKit
set_option linter.unusedVariables false
set_option linter.unusedSimpArgs false

/-- Horner's rule at a polynomial, k numbers taken in from the last one on. -/
def horP (p : Int) (f g : List Int) : Nat → List Int
  | 0 => []
  | k + 1 => addM p (mulM p (horP p f g k) g) (trimL [f.getD (f.length - 1 - k) 0]) 1
def comM (p : Int) (f g : List Int) : List Int := horP p f g f.length
theorem mulM_rng {p : Int} {f g : List Int} (hp : 2 ≤ p) (j : Nat) : 0 ≤ (mulM p f g).getD j 0 ∧ (mulM p f g).getD j 0 < p := by
  by_cases h : f.length = 0 ∨ g.length = 0
  · rw [mulM_nil (h.imp List.eq_nil_of_length_eq_zero List.eq_nil_of_length_eq_zero)]
    simp; omega
  · have h1 : f.length ≠ 0 := fun e => h (.inl e)
    have h2 : g.length ≠ 0 := fun e => h (.inr e)
    rw [mulM_tab h1 h2]
    by_cases hj : j < f.length + g.length - 1
    · rw [tab_at _ _ _ hj]
      exact mulH_rng hp _ _ _ _
    · have : (tab (f.length + g.length - 1) (mulH p f g f.length)).getD j 0 = 0 := by
        rw [List.getD_eq_getElem?_getD, List.getElem?_eq_none (by rw [tab_len]; omega)]; rfl
      rw [this]; omega
theorem mulM_are {p : Int} {f g : List Int} (hp : 2 ≤ p) : areB p (mulM p f g) = true := areB_mk fun j _ => mulM_rng hp j
theorem mulM_up {f g : List Int} {p : Int} : (mulM p f g).length = 0 ∨ (f.length ≠ 0 ∧ g.length ≠ 0 ∧ (mulM p f g).length = f.length + g.length - 1) := by
  by_cases h : f.length = 0 ∨ g.length = 0
  · exact .inl (by rw [mulM_nil (h.imp List.eq_nil_of_length_eq_zero List.eq_nil_of_length_eq_zero)]; rfl)
  · have h1 : f.length ≠ 0 := fun e => h (.inl e)
    have h2 : g.length ≠ 0 := fun e => h (.inr e)
    exact .inr ⟨h1, h2, by rw [mulM_tab h1 h2, tab_len]⟩
theorem addM_poly {p : Int} {f g : List Int} {k : Int} (hp : 2 ≤ p) (h1 : f.length ≤ 25) (h2 : g.length ≤ 25) (hf : areB p f = true) : polyB p (addM p f g k) = true := by
  unfold addM
  refine polyB_trim (by rw [tab_len]; omega) fun j hj => ?_
  rw [tab_len] at hj
  rw [tab_at _ _ _ hj]
  unfold sumH
  split
  · exact modb hp
  · exact getD_rng hf hp j
theorem addM_up {p : Int} {f g : List Int} {k : Int} : (addM p f g k).length ≤ max f.length g.length := by
  unfold addM
  exact Nat.le_trans (trimL_le _) (by rw [tab_len]; omega)
theorem one_up (x : Int) : (trimL [x]).length ≤ 1 := trimL_le [x]
theorem one_are {p x : Int} (h0 : 0 ≤ x) (h1 : x < p) : areB p (trimL [x]) = true := areB_mk fun j hj => by
  have := one_up x
  rw [trimL_at _ _ hj]
  have : j = 0 := by omega
  subst this
  exact ⟨h0, h1⟩
theorem horP_poly {p : Int} {f g : List Int} (hp : primeB p = true) (hf : polyB p f = true) (hg : polyB p g = true) (hd : (f.length - 1) * (g.length - 1) ≤ 24) :
    ∀ k, k ≤ f.length → polyB p (horP p f g k) = true ∧ (horP p f g k).length ≤ 1 + (k - 1) * (g.length - 1) ∧ (k = 0 → horP p f g k = []) := by
  have hpl := primeB_lo hp
  intro k
  induction k with
  | zero => exact fun _ => ⟨by simp [horP, polyB, areB], by simp [horP], fun _ => rfl⟩
  | succ k ih =>
    intro hk
    obtain ⟨i1, i2, i3⟩ := ih (by omega)
    have hle : k * (g.length - 1) ≤ (f.length - 1) * (g.length - 1) := Nat.mul_le_mul_right _ (by omega)
    have hm : (mulM p (horP p f g k) g).length ≤ 1 + k * (g.length - 1) := by
      rcases mulM_up (f := horP p f g k) (g := g) (p := p) with h | ⟨h1, h2, h⟩
      · omega
      · cases k with
        | zero => exact absurd (by rw [i3 rfl]; rfl) h1
        | succ k =>
          have : (k + 1) * (g.length - 1) = k * (g.length - 1) + (g.length - 1) := Nat.succ_mul _ _
          simp at i2
          omega
    have ho := one_up (f.getD (f.length - 1 - k) 0)
    refine ⟨addM_poly hpl.1 (by omega) (by omega) (mulM_are hpl.1), ?_, fun h => absurd h (by omega)⟩
    have := addM_up (p := p) (f := mulM p (horP p f g k) g) (g := trimL [f.getD (f.length - 1 - k) 0]) (k := 1)
    rw [horP, Nat.add_sub_cancel]
    omega
end Go.Proofs.Ytcadiepghhnbeaa
/- Contracts of the laws' helpers on moments: toMoments, szMoments, eqMoments, markMoments, heldMoments. -/
namespace Go.Proofs.Ytcadiepghhnbeaa
open Go.RowKit
set_option linter.unusedVariables false
set_option linter.unusedSimpArgs false

theorem row_len {w : World} {a : Option Addr} {len cap : Nat} {zs : List Int} (h : (a = none ∧ len = 0 ∧ cap = 0 ∧ zs = []) ∨
    ∃ x, a = some x ∧ len ≤ cap ∧ cap ≤ maxLen ∧ zs.length = cap ∧ (∀ i, i < zs.length → w.cell? (x.add i) = some (.int .i64 (zs.getD i 0))) ∧ ∀ n ∈ zs, (Lit.int .i64 n).wf = true) : len ≤ 9223372036854775807 := by
  rcases h with ⟨_, rfl, _⟩ | ⟨x, _, h1, h2, _⟩
  · omega
  · unfold maxLen at h2; omega
theorem cell_gr {w w' : World} {row : Option Nat} {lo hi b o : Nat} {v : Value} (hg : w.grownBy w' row) (hr : ∀ g, row = some g → lo ≤ g ∧ g < hi) (h : w.cell? ⟨b, o, none⟩ = some v) (hb : b < lo ∨ hi ≤ b) : w'.cell? ⟨b, o, none⟩ = some v :=
  (World.cell?_of_block (w := w) (hg.block b (World.block_lt_of_cell? w _ h) (fun e => by have := hr b e.symm; omega))).trans h
/-- Moments as a value. -/
abbrev mom (p : Int) (a : Option Addr) (n c : Nat) : Value := .agg #[.int .i64 p, .slice a n c]
theorem Own.setLow {B : Nat} {w : World} {a : Option Addr} {c : Nat} {ys : List Int} (h : Own B w a c ys) {x : Addr} (hx : x.block < B) (u : Value) : Own B (w.setCell x u) a c ys := ownsRow_setCell_below h hx u
set_option maxRecDepth 100000 in
set_option maxHeartbeats 800000 in
theorem toM (p : Int) (a : Option Addr) (n c : Nat) (xs : List Int) (w : World) (hs : SL w a n c xs) (hn : n ≤ 1048576) :
    Calls Try.prog 13 #[mom p a n c] w fun e w' => ∃ a', e = .returned (mom p a' n n) ∧ Own w.heap.size w' a' n xs ∧ Below w.heap.size w w' := by
  have hb0 := bl3 w (.cells #[.int .i64 p, .slice a n c] 24) (.cells #[.int .i64 0, .slice none 0 0] 30) (.cells #[.int .i64 p, .slice none 0 0] 30)
  have hs3 := hs.below hb0
  have hz0 := hb0.size
  go_enter Try.func13, Try.ntmps13
  go_wp2_with fail
  refine (toI _ _ _ _ _ hs3 hn).mono ?_
  rintro e w1 ⟨a', rfl, ho, hb1⟩
  have hz1 : w.heap.size + 2 < w1.heap.size := by have := hb1.size; simp at this; omega
  obtain ⟨hc1, hf1⟩ := bcell hb1
  have hB1 := bnext hb0 hb1
  go_wp2
  refine bodyPost_ret (v := mom p a' n n) (by simp [results, Try.results13, go_sem, hc1, hf1]) rfl ⟨a', rfl, ?_, ?_⟩
  · exact (((ho.setLow (by simp) _).setLow (by simp) _).setLow (by simp) _).mono hz0
  · exact ((hB1.setCell (by simp; omega) _).setCell (by simp) _).setCell (by simp) _
set_option maxHeartbeats 800000 in
theorem szI (a : Option Addr) (n c : Nat) (k : Int) (w : World) (hn : n ≤ 4000000) (hk0 : 0 ≤ k) (hk1 : k ≤ 4000000) :
    Calls Try.prog 45 #[.slice a n c, .int .i64 k] w fun e w' => e = .returned (.int .i64 (if k < n then -1 else k - n)) ∧ w = w' := by
  by_cases h : k < (n : Int)
  · have H : Hid ((if k < (n : Int) then (-1 : Int) else k - n) = -1) := Lib.hid (if_pos h)
    go_enter Try.func45, Try.ntmps45
    go_wp2
    go_ret
    exact ⟨rfl, rfl⟩
  · have H : Hid ((if k < (n : Int) then (-1 : Int) else k - n) = k - n) := Lib.hid (if_neg h)
    go_enter Try.func45, Try.ntmps45
    go_wp2
    go_ret
    exact ⟨rfl, rfl⟩
set_option maxRecDepth 100000 in
set_option maxHeartbeats 800000 in
theorem szM (p : Int) (a : Option Addr) (n c : Nat) (k : Int) (w : World) (hn : n ≤ 4000000) (hk0 : 0 ≤ k) (hk1 : k ≤ 4000000) (h : (n : Int) ≤ k) :
    Calls Try.prog 11 #[mom p a n c, .int .i64 k] w fun e w' => e = .returned (.int .i64 (k - n)) ∧ Below w.heap.size w w' := by
  have H : Hid ((if k < (n : Int) then (-1 : Int) else k - n) = k - n) := Lib.hid (if_neg (by omega))
  go_enter Try.func11, Try.ntmps11
  go_wp2_with fail
  refine (szI _ _ _ _ _ hn hk0 hk1).mono ?_
  rintro e w1 ⟨rfl, rfl⟩
  rw [H.out]
  go_wp2
  go_ret
  exact ⟨rfl, bl1 _ _⟩
set_option maxRecDepth 100000 in
set_option maxHeartbeats 800000 in
theorem szM_no (p : Int) (a : Option Addr) (n c : Nat) (k : Int) (w : World) (hn : n ≤ 9223372036854775807) (hk0 : 0 ≤ k) (hk1 : k ≤ 4000000) (h : k < (n : Int)) :
    Calls Try.prog 11 #[mom p a n c, .int .i64 k] w fun e w' => e = .returned (.int .i64 (-1)) ∧ Below w.heap.size w w' := by
  go_enter Try.func11, Try.ntmps11
  go_wp2_with (first | go_in)
  go_ret
  exact ⟨rfl, bl1 _ _⟩
set_option maxRecDepth 100000 in
set_option maxHeartbeats 800000 in
theorem eqM (p : Int) (a b : Option Addr) (n c d : Nat) (xs : List Int) (w : World) (h1 : SL w a n c xs) (h2 : SL w b n d xs) (hn : n ≤ 4000000) :
    Calls Try.prog 17 #[mom p a n c, mom p b n d] w fun e w' => e = .returned (.bool true) ∧ Below w.heap.size w w' := by
  have hb0 := bl2 w (.cells #[.int .i64 p, .slice a n c] 30) (.cells #[.int .i64 p, .slice b n d] 30)
  have g1 := h1.below hb0
  have g2 := h2.below hb0
  go_enter Try.func17, Try.ntmps17
  go_wp2_with fail
  refine (eqI _ _ _ _ _ _ _ g1 g2 hn).mono ?_
  rintro e w1 ⟨rfl, hb1⟩
  go_wp2
  go_ret
  exact ⟨rfl, bnext hb0 hb1⟩
set_option maxRecDepth 100000 in
set_option maxHeartbeats 800000 in
theorem markM (lo hi : Nat) (p : Int) (a : Option Addr) (n c : Nat) (ys : List Int) (k0 : Int) (w : World) (h1 : OZ lo hi w a n c ys) (hn : n ≤ 4000000) (hk0 : 0 ≤ k0) (hk1 : k0 ≤ 1000000000000) :
    Calls Try.prog 19 #[mom p a n c, .int .i64 k0] w fun e w' => e = .returned (.int .i64 (k0 + n)) ∧ OZ lo hi w' a n c (marks k0 n) ∧ ∃ row, w.grownBy w' row ∧ ∀ g, row = some g → lo ≤ g ∧ g < hi := by
  have hb0 := bl1 w (.cells #[.int .i64 p, .slice a n c] 30)
  have g1 := h1.below hb0
  have hg0 := World.grownBy_alloc w (.cells #[.int .i64 p, .slice a n c] 30)
  go_enter Try.func19, Try.ntmps19
  go_wp2_with fail
  refine (markZ _ _ _ _ _ _ _ _ g1 hn hk0 hk1).mono ?_
  rintro e w1 ⟨rfl, ho, row, gr, hr⟩
  go_wp2
  go_ret
  exact ⟨rfl, ho, row, grown_trans (hg0 _) gr, hr⟩
end Go.Proofs.Ytcadiepghhnbeaa
