/- Contracts: MultiplyPolys; monic, MonicPoly (program and model). -/
import Derived.Test.YtnojmghmkoojfaaMu
namespace Go.Proofs.Ytnojmghmkoojfaa
open Go.RowKit
set_option linter.unusedVariables false
set_option linter.unusedSimpArgs false

def mulC (p : Int) (f g : List Int) : Int := if chk2 p f g = 0 then (if (mulM p f g).length ≤ 25 then 0 else 3) else chk2 p f g
def mulV (p : Int) (f g : List Int) : List Int := if mulC p f g = 0 then mulM p f g else []
theorem mulM_le (p : Int) (f g : List Int) : (mulM p f g).length ≤ f.length + g.length := by
  unfold mulM
  split
  · simp
  · rw [tab_len]; omega
def monM (p : Int) (f : List Int) : List Int := if f.isEmpty then [] else addM p [] f (invM p (f.getD (f.length - 1) 0))
def monC (p : Int) (f : List Int) : Int := if chk1 p f = 0 then (if f.isEmpty then 5 else 0) else chk1 p f
def monV (p : Int) (f : List Int) : List Int := if monC p f = 0 then monM p f else []
theorem monM_nil (p : Int) : monM p [] = [] := rfl
theorem monM_cons {p : Int} {f : List Int} {n : Nat} (hl : f.length = n) (h : n ≠ 0) : monM p f = addM p [] f (invM p (f.getD (n - 1) 0)) := by
  unfold monM
  cases f with
  | nil => simp at hl; omega
  | cons a f => simp [← hl]
theorem invM_rng {p : Int} (x : Int) (hp : 2 ≤ p) : 0 ≤ invM p x ∧ invM p x < p := powM_rng hp
theorem areB_nil (p : Int) : areB p [] = true := rfl
set_option maxRecDepth 100000 in
set_option maxHeartbeats 1600000 in
theorem monic_any (p : Int) (a1 : Option Addr) (n1 c1 : Nat) (f : List Int) (w : World) (h1 : SL w a1 n1 c1 f) (b1 : n1 ≤ 1000) (hp : 2 ≤ p) (hp2 : p ≤ 10007) (hf : areB p f = true) :
    Calls Try.prog 120 #[.int .i64 p, .slice a1 n1 c1] w fun e w' => ∃ a' c', e = .returned (.slice a' (monM p f).length c') ∧ Own w.heap.size w' a' c' (monM p f) ∧ Below w.heap.size w w' := by
  have hl1 := hide h1.len
  by_cases h0 : n1 = 0
  · subst h0
    obtain rfl := h1.empty
    go_enter Try.func120, Try.ntmps120
    go_wp2
    go_ret
    exact ⟨none, 0, rfl, Own.nil _ _, Below.refl _ _⟩
  have h0b : ((n1 : Int) == 0) = false := by simpa using h0
  have hm := hide (monM_cons (p := p) hl1.out h0)
  obtain ⟨b, off, ha, hbw, hcell⟩ := h1.at (by omega)
  have hc := hcell (n1 - 1) (by omega)
  have hr := getD_rng hf hp (n1 - 1)
  obtain ⟨x, hx⟩ : ∃ x, f.getD (n1 - 1) 0 = x := ⟨_, rfl⟩
  rw [hx] at hc hr hm
  subst ha
  have Hf := hide hf
  clear hcell hx hf
  have hk := invM_rng x hp
  obtain ⟨r1, r2⟩ := hr
  go_enter Try.func120, Try.ntmps120
  go_wp2_with fail
  refine (inverse_any p x _ hp hp2 r1 r2).mono ?_
  rintro e w1 ⟨rfl, hb1⟩
  go_wp2_with fail
  refine (addMultiple_any p _ _ _ _ [] _ _ _ f _ (SL.nil _) (h1.below hb1) (by omega) (by omega) hp hp2 hk.1 hk.2 (areB_nil p) Hf.out).mono ?_
  rintro e w2 ⟨a', c', rfl, hown, hb2⟩
  go_wp2
  go_ret
  exact ⟨a', c', by rw [hm.out]; rfl, by rw [hm.out]; exact hown.mono hb1.size, bnext hb1 hb2⟩
set_option maxRecDepth 100000 in
set_option maxHeartbeats 1600000 in
theorem l01Monic_any (p : Int) (a1 : Option Addr) (n1 c1 : Nat) (f : List Int) (w : World) (h1 : SL w a1 n1 c1 f) (b1 : n1 ≤ 1000) (hp : 2 ≤ p) (hp2 : p ≤ 10007) (hf : areB p f = true) :
    Calls Try.prog 109 #[.int .i64 p, .slice a1 n1 c1] w fun e w' => ∃ a' c', e = .returned (.slice a' (monM p f).length c') ∧ Own w.heap.size w' a' c' (monM p f) ∧ Below w.heap.size w w' := by
  have hl1 := hide h1.len
  by_cases h0 : n1 = 0
  · subst h0
    obtain rfl := h1.empty
    go_enter Try.func109, Try.ntmps109
    go_wp2
    go_ret
    exact ⟨some ⟨w.heap.size, 0, none⟩, 0, rfl, World.ownsRow_lit w (base := w.heap.size) (e := 2) (size := 1) #[] 0 (Nat.le_refl _) (by simp) rfl, bl1 _ _⟩
  have h0b : ((n1 : Int) == 0) = false := by simpa using h0
  have hm := hide (monM_cons (p := p) hl1.out h0)
  obtain ⟨b, off, ha, hbw, hcell⟩ := h1.at (by omega)
  have hc := cell_al (hcell (n1 - 1) (by omega))
  have hr := getD_rng hf hp (n1 - 1)
  obtain ⟨x, hx⟩ : ∃ x, f.getD (n1 - 1) 0 = x := ⟨_, rfl⟩
  rw [hx] at hc hr hm
  subst ha
  have Hf := hide hf
  clear hcell hx hf
  have hk := invM_rng x hp
  obtain ⟨r1, r2⟩ := hr
  have hnil : SL (w.alloc (.cells #[] 2)) (some ⟨w.heap.size, 0, none⟩) 0 0 [] := ⟨rfl, ⟨Nat.le_refl _, fun h => by cases h⟩, .inl rfl⟩
  go_enter Try.func109, Try.ntmps109
  go_wp2_with fail
  refine (l01Inverse_any p x _ hp hp2 r1 r2).mono ?_
  rintro e w1 ⟨rfl, rfl⟩
  go_wp2_with fail
  refine (l01Add_any p _ _ _ _ [] _ _ _ f _ hnil (h1.below (bl1 _ _)) (by omega) (by omega) hp hp2 hk.1 hk.2 (areB_nil p) Hf.out).mono ?_
  rintro e w2 ⟨a', c', rfl, hown, hb2⟩
  go_wp2
  go_ret
  exact ⟨a', c', by rw [hm.out]; rfl, by rw [hm.out]; exact hown.mono (by simp), (bl1 _ _).trans (hb2.mono (by simp))⟩
theorem monM_len {p : Int} {f : List Int} (h : f.length ≤ 1000) : (monM p f).length ≤ 1000 := by
  unfold monM
  split
  · simp
  · exact addM_len (by simp) h
end Go.Proofs.Ytnojmghmkoojfaa
