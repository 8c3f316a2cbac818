/- Merged texts. -/
import Derived.Test.YtllcgoachgfpjaaYD33
import Derived.Test.YtllcgoachgfpjaaYD36
import Derived.Test.YtllcgoachgfpjaaYD35
/- Contracts: multiply, MultiplyPolys (program), l01Times, MultiplyPolys (model). -/
namespace Go.Proofs.Ytllcgoachgfpjaa
open Go.RowKit
set_option linter.unusedVariables false
set_option linter.unusedSimpArgs false

theorem mulM_nil {p : Int} {f g : List Int} (h : f = [] ∨ g = []) : mulM p f g = [] := by
  unfold mulM
  rcases h with rfl | rfl <;> simp
theorem mulM_tab {p : Int} {f g : List Int} (h1 : f.length ≠ 0) (h2 : g.length ≠ 0) : mulM p f g = tab (f.length + g.length - 1) (mulH p f g f.length) := by
  unfold mulM
  have e1 : f.isEmpty = false := by cases f <;> simp at *
  have e2 : g.isEmpty = false := by cases g <;> simp at *
  rw [e1, e2]; rfl
set_option maxRecDepth 100000 in
set_option maxHeartbeats 1600000 in
theorem multiply_any (p : Int) (a1 : Option Addr) (n1 c1 : Nat) (f : List Int) (a2 : Option Addr) (n2 c2 : Nat) (g : List Int) (w : World) (h1 : SL w a1 n1 c1 f) (h2 : SL w a2 n2 c2 g)
    (b1 : n1 ≤ 1000) (b2 : n2 ≤ 1000) (hp : 2 ≤ p) (hp2 : p ≤ 10007) (hf : areB p f = true) (hg : areB p g = true) :
    Calls Try.prog 172 #[.int .i64 p, .slice a1 n1 c1, .slice a2 n2 c2] w fun e w' => ∃ a' c', e = .returned (.slice a' (mulM p f g).length c') ∧ Own w.heap.size w' a' c' (mulM p f g) ∧ Below w.heap.size w w' := by
  have hl1 := hide h1.len
  have hl2 := hide h2.len
  by_cases h0 : n1 = 0
  · have Hm := hide (mulM_nil (p := p) (f := f) (g := g) (.inl (List.eq_nil_of_length_eq_zero (by rw [hl1.out, h0]))))
    subst h0
    go_enter Try.func172, Try.ntmps172
    go_wp2
    go_ret
    exact ⟨none, 0, by rw [Hm.out]; rfl, by rw [Hm.out]; exact Own.nil _ _, Below.refl _ _⟩
  have h0b : ((n1 : Int) == 0) = false := by simpa using h0
  by_cases h0' : n2 = 0
  · have Hm := hide (mulM_nil (p := p) (f := f) (g := g) (.inr (List.eq_nil_of_length_eq_zero (by rw [hl2.out, h0']))))
    subst h0'
    go_enter Try.func172, Try.ntmps172
    go_wp2
    go_ret
    exact ⟨none, 0, by rw [Hm.out]; rfl, by rw [Hm.out]; exact Own.nil _ _, Below.refl _ _⟩
  have h0c : ((n2 : Int) == 0) = false := by simpa using h0'
  obtain ⟨N, hN⟩ : ∃ N, n1 + n2 - 1 = N := ⟨_, rfl⟩
  have HN : (n1 : Int) + (n2 : Int) - 1 = (N : Int) := by omega
  have hN1 : n1 + n2 ≤ N + 1 := by omega
  have hN2 : N + 1 ≤ n1 + n2 := by omega
  have hm : Hid (mulM p f g = tab N (mulH p f g n1)) := hide (by rw [mulM_tab (by rw [hl1.out]; exact h0) (by rw [hl2.out]; exact h0'), hl1.out, hl2.out, hN])
  have Hf := hide hf
  have Hg := hide hg
  have HN' := hide HN
  clear hf hg hN HN h0 h0'
  go_enter Try.func172, Try.ntmps172
  go_wp2_with (first | (at_make; refine wp_make rfl _ _ rfl _ _ N rfl rfl HN'.out HN'.out (by omega) ?_; intro w1 hrow hb hsz))
  have hrow2 : Hid (RowI w1 w.heap.size (tab N (mulH p f g 0))) := hide (by have := hrow.out; rwa [tab_zero] at this)
  clear hrow
  go_loopw [29] (fun v wr => ∃ i : Nat, i ≤ n1 ∧ v = .int .i64 i ∧ Hid (RowI wr w.heap.size (tab N (mulH p f g i))) ∧ Below w.heap.size w wr ∧ w.heap.size < wr.heap.size) (fun v _ => n1 - (intOf v).toNat)
  case atStart => exact ⟨0, by omega, rfl, hrow2, hb, hsz⟩
  case round =>
    obtain ⟨i, hi, rfl, hR, hbr, hsr⟩ := hrel
    clear hrow2 hb hsz
    by_cases hlt : i < n1
    · obtain ⟨bf, off, ha, hbw, hcell⟩ := (h1.below hbr).at (by omega)
      subst ha
      have e1 := hcell i hlt
      have hr1 := getD_rng Hf.out hp i
      have hstep : Hid (mulH p f g (i + 1) = mulIn p (f.getD i 0) g (mulH p f g i) i n2) := hide (by rw [mulH, hl2.out])
      obtain ⟨x, hx⟩ : ∃ x, f.getD i 0 = x := ⟨_, rfl⟩
      rw [hx] at e1 hr1 hstep
      obtain ⟨r1, r2⟩ := hr1
      clear hcell hx
      have hlt' : (i : Int) < (n1 : Int) := by omega
      go_wp2
      obtain ⟨wo, hwo⟩ : ∃ wo : World, wo = wr := ⟨_, rfl⟩
      subst hwo
      have hR0 : Hid (RowI wo w.heap.size (tab N (mulIn p x g (mulH p f g i) i 0))) := hide (by rw [mulIn_zero]; exact hR.out)
      go_loopw [36] (fun v wr => ∃ k : Nat, k ≤ n2 ∧ v = .int .i64 k ∧ Hid (RowI wr w.heap.size (tab N (mulIn p x g (mulH p f g i) i k))) ∧ Below w.heap.size w wr ∧ w.heap.size < wr.heap.size) (fun v _ => n2 - (intOf v).toNat)
      case atStart => exact ⟨0, by omega, rfl, hR0, hbr, hsr⟩
      case round =>
        obtain ⟨k, hk, rfl, hRk, hbk, hsk⟩ := hrel
        clear hR0 hR e1
        by_cases hkt : k < n2
        · obtain ⟨bg, offg, hag, hbwg, hcellg⟩ := (h2.below hbk).at (by omega)
          subst hag
          have e2 := hcellg k hkt
          have hr2 := getD_rng Hg.out hp k
          have e3 := hRk.out.cell (i + k) (by rw [tab_len]; omega)
          rw [tab_at _ _ _ (by omega)] at e3
          have hz := mulIn_rng hp (a := x) (g := g) (i := i) (k := k) (mulH_rng hp f g i) (i + k)
          have hzz : mulIn p x g (mulH p f g i) i k (i + k) = mulH p f g i (i + k) := by unfold mulIn; rw [if_neg (by omega)]
          rw [hzz] at e3 hz
          have hfr := hRk.out.free (i + k)
          have hset := hRk.out.set (i + k) ((mulH p f g i (i + k) + x * g.getD k 0) % p)
          rw [mulIn_step] at hset
          obtain ⟨y, hy⟩ : ∃ y, g.getD k 0 = y := ⟨_, rfl⟩
          obtain ⟨z, hzd⟩ : ∃ z, mulH p f g i (i + k) = z := ⟨_, rfl⟩
          rw [hy] at e2 hr2 hset
          rw [hzd] at e3 hz hset
          have Hset := hide hset
          obtain ⟨r3, r4⟩ := hr2
          obtain ⟨r5, r6⟩ := hz
          obtain ⟨q1, q2⟩ := mulb r1 r2 r3 r4 hp2
          clear hset hcellg hy hzd hzz
          have hkt' : (k : Int) < (n2 : Int) := by omega
          have hiN : (i : Int) + (k : Int) < (N : Int) := by omega
          have hik : ((i : Int) + (k : Int)).toNat = i + k := by omega
          go_wp2
          go_roundw
          case rel => exact ⟨k + 1, by omega, by go_num, Hset, hbk.setCell (by simp) _, by simpa using hsk⟩
          case measure => simp [intOf]; omega
        · obtain rfl : k = n2 := by omega
          have hnext : Hid (RowI wr w.heap.size (tab N (mulH p f g (i + 1)))) := hide (by rw [hstep.out]; exact hRk.out)
          clear hRk
          go_wp2
          go_roundw
          case rel => exact ⟨i + 1, by omega, by go_num, hnext, hbk, hsk⟩
          case measure => simp [intOf]; omega
    · obtain rfl : i = n1 := by omega
      have hfin : Own w.heap.size wr (some ⟨w.heap.size, 0, none⟩) N (mulM p f g) ∧ (mulM p f g).length = N := by
        have h3 := hR.out.own' (Nat.le_refl _) (by rw [tab_len]; unfold maxLen; omega)
        rw [tab_len, ← hm.out] at h3
        exact ⟨h3, by rw [hm.out, tab_len]⟩
      obtain ⟨ho, hlen⟩ := hfin
      have Hlen := hide hlen
      clear hlen
      go_wp2
      go_ret
      exact ⟨_, N, by rw [Hlen.out]; rfl, ho, hbr⟩
set_option maxRecDepth 100000 in
set_option maxHeartbeats 1600000 in
theorem l01Times_any (p : Int) (a1 : Option Addr) (n1 c1 : Nat) (f : List Int) (a2 : Option Addr) (n2 c2 : Nat) (g : List Int) (w : World) (h1 : SL w a1 n1 c1 f) (h2 : SL w a2 n2 c2 g)
    (b1 : n1 ≤ 1000) (b2 : n2 ≤ 1000) (hp : 2 ≤ p) (hp2 : p ≤ 10007) (hf : areB p f = true) (hg : areB p g = true) :
    Calls Try.prog 118 #[.int .i64 p, .slice a1 n1 c1, .slice a2 n2 c2] w fun e w' => ∃ a' c', e = .returned (.slice a' (trimL (mulM p f g)).length c') ∧ Own w.heap.size w' a' c' (trimL (mulM p f g)) ∧ Below w.heap.size w w' := by
  have hl1 := hide h1.len
  have hl2 := hide h2.len
  have hown0 : ∀ w' : World, Own w'.heap.size (w'.alloc (.cells #[] 2)) (some ⟨w'.heap.size, 0, none⟩) 0 [] := fun w' => by
    have := World.ownsRow_lit w' (base := w'.heap.size) (e := 2) (size := 1) #[] 0 (Nat.le_refl _) (by simp) rfl
    exact this
  by_cases h0 : n1 = 0
  · have Hm := hide (mulM_nil (p := p) (f := f) (g := g) (.inl (List.eq_nil_of_length_eq_zero (by rw [hl1.out, h0]))))
    subst h0
    clear hown0
    go_enter Try.func118, Try.ntmps118
    go_wp2
    go_ret
    exact ⟨some ⟨w.heap.size, 0, none⟩, 0, by rw [Hm.out]; rfl, by rw [Hm.out]; exact World.ownsRow_lit w (base := w.heap.size) (e := 2) (size := 1) #[] 0 (Nat.le_refl _) (by simp) rfl, bl1 _ _⟩
  have h0b : ((n1 : Int) == 0) = false := by simpa using h0
  by_cases h0' : n2 = 0
  · have Hm := hide (mulM_nil (p := p) (f := f) (g := g) (.inr (List.eq_nil_of_length_eq_zero (by rw [hl2.out, h0']))))
    subst h0'
    clear hown0
    go_enter Try.func118, Try.ntmps118
    go_wp2
    go_ret
    exact ⟨some ⟨w.heap.size, 0, none⟩, 0, by rw [Hm.out]; rfl, by rw [Hm.out]; exact World.ownsRow_lit w (base := w.heap.size) (e := 2) (size := 1) #[] 0 (Nat.le_refl _) (by simp) rfl, bl1 _ _⟩
  clear hown0
  have h0c : ((n2 : Int) == 0) = false := by simpa using h0'
  obtain ⟨N, hN⟩ : ∃ N, n1 + n2 - 1 = N := ⟨_, rfl⟩
  have HN : (n1 : Int) + (n2 : Int) - 1 = (N : Int) := by omega
  have hN1 : n1 + n2 ≤ N + 1 := by omega
  have hN2 : N + 1 ≤ n1 + n2 := by omega
  have hm : Hid (mulM p f g = tab N (mulH p f g n1)) := hide (by rw [mulM_tab (by rw [hl1.out]; exact h0) (by rw [hl2.out]; exact h0'), hl1.out, hl2.out, hN])
  have Hf := hide hf
  have Hg := hide hg
  have HN' := hide HN
  clear hf hg hN HN h0 h0'
  go_enter Try.func118, Try.ntmps118
  go_wp2_with (first | (at_make; refine wp_make rfl _ _ rfl _ _ N rfl rfl HN'.out HN'.out (by omega) ?_; intro w1 hrow hb hsz))
  have hrow2 : Hid (RowI w1 w.heap.size (tab N (mulH p f g 0))) := hide (by have := hrow.out; rwa [tab_zero] at this)
  clear hrow
  go_loopw [8] (fun v wr => ∃ i : Nat, i ≤ n1 ∧ v = .int .i64 i ∧ Hid (RowI wr w.heap.size (tab N (mulH p f g i))) ∧ Below w.heap.size w wr ∧ w.heap.size < wr.heap.size) (fun v _ => n1 - (intOf v).toNat)
  case atStart => exact ⟨0, by omega, rfl, hrow2, hb, hsz⟩
  case round =>
    obtain ⟨i, hi, rfl, hR, hbr, hsr⟩ := hrel
    clear hrow2 hb hsz
    by_cases hlt : i < n1
    · have hr1 := getD_rng Hf.out hp i
      have hstep : Hid (mulH p f g (i + 1) = mulIn p (f.getD i 0) g (mulH p f g i) i n2) := hide (by rw [mulH, hl2.out])
      obtain ⟨x, hx⟩ : ∃ x, f.getD i 0 = x := ⟨_, rfl⟩
      rw [hx] at hr1 hstep
      have Hx := hide hx
      obtain ⟨r1, r2⟩ := hr1
      clear hx
      have hlt' : (i : Int) < (n1 : Int) := by omega
      go_wp2
      obtain ⟨wo, hwo⟩ : ∃ wo : World, wo = wr := ⟨_, rfl⟩
      subst hwo
      have hR0 : Hid (RowI wo w.heap.size (tab N (mulIn p x g (mulH p f g i) i 0))) := hide (by rw [mulIn_zero]; exact hR.out)
      go_loopw [9] (fun v wr => ∃ k : Nat, k ≤ n2 ∧ v = .int .i64 k ∧ Hid (RowI wr w.heap.size (tab N (mulIn p x g (mulH p f g i) i k))) ∧ Below w.heap.size w wr ∧ w.heap.size < wr.heap.size) (fun v _ => n2 - (intOf v).toNat)
      case atStart => exact ⟨0, by omega, rfl, hR0, hbr, hsr⟩
      case round =>
        obtain ⟨k, hk, rfl, hRk, hbk, hsk⟩ := hrel
        clear hR0 hR
        by_cases hkt : k < n2
        · obtain ⟨bf, off, ha, hbw, hcell⟩ := (h1.below hbk).at (by omega)
          obtain ⟨bg, offg, hag, hbwg, hcellg⟩ := (h2.below hbk).at (by omega)
          subst ha
          subst hag
          have e1 := hcell i hlt
          rw [Hx.out] at e1
          have e2 := hcellg k hkt
          have hr2 := getD_rng Hg.out hp k
          have e3 := hRk.out.cell (i + k) (by rw [tab_len]; omega)
          rw [tab_at _ _ _ (by omega)] at e3
          have hz := mulIn_rng hp (a := x) (g := g) (i := i) (k := k) (mulH_rng hp f g i) (i + k)
          have hzz : mulIn p x g (mulH p f g i) i k (i + k) = mulH p f g i (i + k) := by unfold mulIn; rw [if_neg (by omega)]
          rw [hzz] at e3 hz
          have hfr := hRk.out.free (i + k)
          have hset := hRk.out.set (i + k) ((mulH p f g i (i + k) + x * g.getD k 0) % p)
          rw [mulIn_step] at hset
          obtain ⟨y, hy⟩ : ∃ y, g.getD k 0 = y := ⟨_, rfl⟩
          obtain ⟨z, hzd⟩ : ∃ z, mulH p f g i (i + k) = z := ⟨_, rfl⟩
          rw [hy] at e2 hr2 hset
          rw [hzd] at e3 hz hset
          have Hset := hide hset
          obtain ⟨r3, r4⟩ := hr2
          obtain ⟨r5, r6⟩ := hz
          obtain ⟨q1, q2⟩ := mulb r1 r2 r3 r4 hp2
          clear hset hcellg hcell hy hzd hzz
          have hkt' : (k : Int) < (n2 : Int) := by omega
          have hiN : (i : Int) + (k : Int) < (N : Int) := by omega
          have hi0 : (0 : Int) ≤ (i : Int) + (k : Int) := by omega
          have v1 : IntKind.i64.wrap (x * y) = x * y := IntWalk.i64_in _ (by omega)
          have v2 : IntKind.i64.wrap (z + x * y) = z + x * y := IntWalk.i64_in _ (by omega)
          have v4 : (z + x * y).tmod p = (z + x * y) % p := Int.tmod_eq_emod_of_nonneg (by omega)
          have v3 : IntKind.i64.wrap ((i : Int) + (k : Int)) = (i : Int) + (k : Int) := IntWalk.i64_in _ (by omega)
          have v6 := modb (x := z + x * y) hp
          have v5 : IntKind.i64.wrap ((z + x * y) % p) = (z + x * y) % p := IntWalk.i64_in _ (by omega)
          have hik : ((i : Int) + (k : Int)).toNat = i + k := by omega
          have hp0 : ¬ p = 0 := by omega
          go_wp2
          refine wp_region_still_tail 23 (by kernel_rfl) (by kernel_rfl) ?_
          simp only [List.take_succ_cons, List.take_zero, List.drop_succ_cons, List.drop_zero]
          repeat still_step
          refine wpStill_nil ?_
          clear v1 v2 v3 v4 v5 hik
          go_wp2
          go_roundw
          case rel => exact ⟨k + 1, by omega, by go_num, Hset, (hbk.setCell (by simp) _).drew, by simpa using hsk⟩
          case measure => simp [intOf]; omega
        · obtain rfl : k = n2 := by omega
          have hnext : Hid (RowI wr w.heap.size (tab N (mulH p f g (i + 1)))) := hide (by rw [hstep.out]; exact hRk.out)
          clear hRk
          go_wp2
          go_roundw
          case rel => exact ⟨i + 1, by omega, by go_num, hnext, hbk, hsk⟩
          case measure => simp [intOf]; omega
    · obtain rfl : i = n1 := by omega
      have hsl := hR.out.slN (tab_len _ _)
      have Hlen := hide (show (trimL (mulM p f g)).length = (trimL (tab N (mulH p f g i))).length by rw [hm.out])
      go_wp2_with (go_at_call 129; refine (l01Trim_any _ _ _ _ _ _ hsl (by omega)).mono ?_; rintro e w3 ⟨a', c', rfl, hown, hb3⟩)
      go_ret
      refine ⟨a', c', by rw [Hlen.out]; rfl, ?_, hbr.trans (hb3.mono hbr.size)⟩
      rw [hm.out]
      exact hown.mono (by omega)
end Go.Proofs.Ytllcgoachgfpjaa
/- Plain mathematics: division of lists of numbers modulo a prime, as both loops compute it. No program. -/
namespace Go.Proofs.Ytllcgoachgfpjaa
open Go.RowKit
set_option linter.unusedVariables false
set_option linter.unusedSimpArgs false

/-- The rest with the first i numbers of q times g taken off from the place 'at' on. -/
def divS (p q : Int) (g : List Int) (R : Nat → Int) (at' i : Nat) : Nat → Int := fun j => if at' ≤ j ∧ j < at' + i then (R j - q * g.getD (j - at') 0) % p else R j
/-- The rest behind i steps; D: how much longer f is. -/
def divR (p inv : Int) (f g : List Int) (D : Nat) : Nat → Nat → Int
  | 0 => fun j => f.getD j 0
  | i + 1 => divS p (divR p inv f g D i (D - i + g.length - 1) * inv % p) g (divR p inv f g D i) (D - i) g.length
def divN (p inv : Int) (f g : List Int) (D i : Nat) : Int := divR p inv f g D i (D - i + g.length - 1) * inv % p
/-- The quotient behind i steps. -/
def divQ (p inv : Int) (f g : List Int) (D i : Nat) : Nat → Int := fun j => if D < j + i then divN p inv f g D (D - j) else 0
def quoM (p : Int) (f g : List Int) : List Int :=
  if f.length < g.length then [] else trimL (tab (f.length - g.length + 1) (divQ p (invM p (g.getD (g.length - 1) 0)) f g (f.length - g.length) (f.length - g.length + 1)))
def remM (p : Int) (f g : List Int) : List Int :=
  if f.length < g.length then f else trimL (tab f.length (divR p (invM p (g.getD (g.length - 1) 0)) f g (f.length - g.length) (f.length - g.length + 1)))
theorem divS_step (p q : Int) (g : List Int) (R : Nat → Int) (N a i : Nat) : (tab N (divS p q g R a i)).set (a + i) ((R (a + i) - q * g.getD i 0) % p) = tab N (divS p q g R a (i + 1)) := by
  rw [tab_set]
  apply tab_congr
  intro j _
  unfold divS
  by_cases e : j = a + i
  · subst e
    rw [if_pos rfl, if_pos (by omega), show a + i - a = i by omega]
  · rw [if_neg e]
    by_cases h : a ≤ j ∧ j < a + i
    · rw [if_pos h, if_pos (by omega)]
    · rw [if_neg h, if_neg (by omega)]
theorem divS_zero (p q : Int) (g : List Int) (R : Nat → Int) (a : Nat) : divS p q g R a 0 = R := by
  funext j
  unfold divS
  rw [if_neg (by omega)]
theorem divS_at (p q : Int) (g : List Int) (R : Nat → Int) (a i : Nat) : divS p q g R a i (a + i) = R (a + i) := by
  unfold divS
  rw [if_neg (by omega)]
theorem divR_rng {p inv : Int} {f g : List Int} {D : Nat} (hp : 2 ≤ p) (hf : areB p f = true) (i : Nat) : ∀ j, 0 ≤ divR p inv f g D i j ∧ divR p inv f g D i j < p := by
  induction i with
  | zero => intro j; exact getD_rng hf hp j
  | succ i ih =>
    intro j
    unfold divR divS
    split
    · exact modb hp
    · exact ih j
theorem divN_rng {p inv : Int} {f g : List Int} {D i : Nat} (hp : 2 ≤ p) : 0 ≤ divN p inv f g D i ∧ divN p inv f g D i < p := modb hp
theorem divQ_step (p inv : Int) (f g : List Int) (D i : Nat) (hi : i ≤ D) : (tab (D + 1) (divQ p inv f g D i)).set (D - i) (divN p inv f g D i) = tab (D + 1) (divQ p inv f g D (i + 1)) := by
  rw [tab_set]
  apply tab_congr
  intro j hj
  unfold divQ
  by_cases e : j = D - i
  · subst e
    rw [if_pos rfl, if_pos (by omega), show D - (D - i) = i by omega]
  · rw [if_neg e]
    by_cases h : D < j + i
    · rw [if_pos h, if_pos (by omega)]
    · rw [if_neg h, if_neg (by omega)]
theorem divQ_zero (p inv : Int) (f g : List Int) (D : Nat) : tab (D + 1) (divQ p inv f g D 0) = tab (D + 1) (fun _ => 0) := by
  apply tab_congr
  intro j hj
  unfold divQ
  rw [if_neg (by omega)]
/-- Where the number at the top is 0 a step changes nothing. -/
theorem divR_same {p inv : Int} {f g : List Int} {D i : Nat} (hp : 2 ≤ p) (hf : areB p f = true) (h : divR p inv f g D i (D - i + g.length - 1) = 0) : divN p inv f g D i = 0 ∧ divR p inv f g D (i + 1) = divR p inv f g D i := by
  have hn : divN p inv f g D i = 0 := by unfold divN; rw [h]; simp
  refine ⟨hn, ?_⟩
  funext j
  rw [divR]
  have e : divR p inv f g D i (D - i + g.length - 1) * inv % p = 0 := hn
  rw [e]
  unfold divS
  split
  · have := divR_rng (inv := inv) (g := g) (D := D) hp hf i j
    rw [Int.zero_mul, Int.sub_zero, Int.emod_eq_of_lt this.1 this.2]
  · rfl
theorem divR_skip {p inv : Int} {f g : List Int} {D i L : Nat} (hp : 2 ≤ p) (hf : areB p f = true) (hg : g.length ≠ 0) (hz : ∀ j, L ≤ j → divR p inv f g D i j = 0) (k : Nat) (hk : i + k ≤ D + 1) (hL : L + i + k ≤ D + g.length) :
    divR p inv f g D (i + k) = divR p inv f g D i ∧ (∀ j, j ≤ D → divQ p inv f g D (i + k) j = divQ p inv f g D i j) := by
  induction k with
  | zero => exact ⟨rfl, fun _ _ => rfl⟩
  | succ k ih =>
    obtain ⟨h1, h2⟩ := ih (by omega) (by omega)
    have h3 := divR_same (inv := inv) (g := g) (D := D) (i := i + k) hp hf (by rw [h1]; exact hz _ (by omega))
    refine ⟨by rw [← Nat.add_assoc, h3.2, h1], fun j hj => ?_⟩
    rw [← h2 j hj]
    unfold divQ
    by_cases e : D < j + (i + k)
    · rw [if_pos e, if_pos (by omega)]
    · rw [if_neg e]
      by_cases e2 : D < j + (i + (k + 1))
      · rw [if_pos e2, show D - j = i + k by omega, h3.1]
      · rw [if_neg e2]
/-- A step makes the number at the top 0. -/
theorem divR_top {p inv : Int} {f g : List Int} {D i : Nat} (hp : primeB p = true) (hf : areB p f = true) (hg : g.length ≠ 0) (hinv : g.getD (g.length - 1) 0 * inv % p = 1) :
    divR p inv f g D (i + 1) (D - i + g.length - 1) = 0 := by
  have hl := primeB_lo hp
  rw [divR]
  unfold divS
  rw [if_pos (by omega), show D - i + g.length - 1 - (D - i) = g.length - 1 by omega]
  generalize divR p inv f g D i (D - i + g.length - 1) = R
  generalize g.getD (g.length - 1) 0 = b at hinv ⊢
  rw [Int.sub_emod, Int.mul_emod, Int.emod_emod, ← Int.mul_emod, ← Int.sub_emod]
  have e : R - R * inv * b = R * (1 - b * inv) := by
    rw [Int.mul_sub, Int.mul_one, Int.mul_assoc, Int.mul_comm inv b]
  rw [e, Int.mul_emod, Int.sub_emod, hinv]
  have h1 : (1 : Int) % p = 1 := Int.emod_eq_of_lt (by omega) (by omega)
  rw [h1]
  simp
theorem divR_far {p inv : Int} {f g : List Int} {D i : Nat} (hD : f.length = D + g.length) : ∀ j, f.length ≤ j → divR p inv f g D i j = 0 := by
  induction i with
  | zero => intro j hj; simp [divR, show f[j]? = none from List.getElem?_eq_none hj]
  | succ i ih =>
    intro j hj
    unfold divR divS
    rw [if_neg (by omega)]
    exact ih j hj
/-- What the program adds in the place of taking off. -/
theorem minus_eq (p R q b : Int) : (R + (p - q) * b) % p = (R - q * b) % p := by
  have : R + (p - q) * b = R - q * b + p * b := by rw [Int.sub_mul]; omega
  rw [this, Int.add_mul_emod_self_left]
theorem trimN_zero_from (xs : List Int) (k : Nat) : ∀ j, trimN xs k ≤ j → j < k → xs.getD j 0 = 0 := by
  induction k with
  | zero => intro j _ h; omega
  | succ k ih =>
    intro j h1 h2
    unfold trimN at h1
    split at h1
    · rename_i hz
      by_cases e : j = k
      · subst e; exact hz
      · exact ih j h1 (by omega)
    · omega
theorem trimN_last (xs : List Int) (k : Nat) (h : trimN xs k ≠ 0) : xs.getD (trimN xs k - 1) 0 ≠ 0 := by
  induction k with
  | zero => exact absurd rfl h
  | succ k ih =>
    unfold trimN at h ⊢
    split
    · rename_i hz
      rw [if_pos hz] at h
      exact ih h
    · rename_i hz
      simpa using hz
/-- From a place on where all is 0 the cut is the same. -/
theorem trimN_mono (xs : List Int) (k m : Nat) (hm : m ≤ k) (hz : ∀ j, m ≤ j → j < k → xs.getD j 0 = 0) : trimN xs k = trimN xs m := by
  induction k with
  | zero => rw [show m = 0 by omega]
  | succ k ih =>
    by_cases e : m = k + 1
    · rw [e]
    · rw [trimN, if_pos (hz k (by omega) (by omega))]
      exact ih (by omega) (fun j h1 h2 => hz j h1 (by omega))
end Go.Proofs.Ytllcgoachgfpjaa
