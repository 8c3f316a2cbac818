/- Merged texts. -/
import Derived.Test.YtkpmonopjkjflaaYC46
import Derived.Test.YtkpmonopjkjflaaYC45
/- Contracts: multiply, MultiplyPolys (program), l01Times, MultiplyPolys (model). -/
namespace Go.Proofs.Ytkpmonopjkjflaa
open Go.RowKit
set_option linter.unusedVariables false
set_option linter.unusedSimpArgs false

theorem mulM_nil {p : Int} {f g : List Int} (h : f = [] ∨ g = []) : mulM p f g = [] := by
  unfold mulM
  rcases h with rfl | rfl <;> simp
theorem mulM_tab {p : Int} {f g : List Int} (h1 : f.length ≠ 0) (h2 : g.length ≠ 0) : mulM p f g = tab (f.length + g.length - 1) (mulH p f g f.length) := by
  unfold mulM
  have e1 : f.isEmpty = false := by cases f <;> simp at *
  have e2 : g.isEmpty = false := by cases g <;> simp at *
  rw [e1, e2]; rfl
set_option maxRecDepth 100000 in
set_option maxHeartbeats 1600000 in
theorem multiply_any (p : Int) (a1 : Option Addr) (n1 c1 : Nat) (f : List Int) (a2 : Option Addr) (n2 c2 : Nat) (g : List Int) (w : World) (h1 : SL w a1 n1 c1 f) (h2 : SL w a2 n2 c2 g)
    (b1 : n1 ≤ 1000) (b2 : n2 ≤ 1000) (hp : 2 ≤ p) (hp2 : p ≤ 10007) (hf : areB p f = true) (hg : areB p g = true) :
    Calls Try.prog 73 #[.int .i64 p, .slice a1 n1 c1, .slice a2 n2 c2] w fun e w' => ∃ a' c', e = .returned (.slice a' (mulM p f g).length c') ∧ Own w.heap.size w' a' c' (mulM p f g) ∧ Below w.heap.size w w' := by
  have hl1 := hide h1.len
  have hl2 := hide h2.len
  by_cases h0 : n1 = 0
  · have Hm := hide (mulM_nil (p := p) (f := f) (g := g) (.inl (List.eq_nil_of_length_eq_zero (by rw [hl1.out, h0]))))
    subst h0
    go_enter Try.func73, Try.ntmps73
    go_wp2
    go_ret
    exact ⟨none, 0, by rw [Hm.out]; rfl, by rw [Hm.out]; exact Own.nil _ _, Below.refl _ _⟩
  have h0b : ((n1 : Int) == 0) = false := by simpa using h0
  by_cases h0' : n2 = 0
  · have Hm := hide (mulM_nil (p := p) (f := f) (g := g) (.inr (List.eq_nil_of_length_eq_zero (by rw [hl2.out, h0']))))
    subst h0'
    go_enter Try.func73, Try.ntmps73
    go_wp2
    go_ret
    exact ⟨none, 0, by rw [Hm.out]; rfl, by rw [Hm.out]; exact Own.nil _ _, Below.refl _ _⟩
  have h0c : ((n2 : Int) == 0) = false := by simpa using h0'
  obtain ⟨N, hN⟩ : ∃ N, n1 + n2 - 1 = N := ⟨_, rfl⟩
  have HN : (n1 : Int) + (n2 : Int) - 1 = (N : Int) := by omega
  have hN1 : n1 + n2 ≤ N + 1 := by omega
  have hN2 : N + 1 ≤ n1 + n2 := by omega
  have hm : Hid (mulM p f g = tab N (mulH p f g n1)) := hide (by rw [mulM_tab (by rw [hl1.out]; exact h0) (by rw [hl2.out]; exact h0'), hl1.out, hl2.out, hN])
  have Hf := hide hf
  have Hg := hide hg
  have HN' := hide HN
  clear hf hg hN HN h0 h0'
  go_enter Try.func73, Try.ntmps73
  go_wp2_with (first | (at_make; refine wp_make rfl _ _ rfl _ _ N rfl rfl HN'.out HN'.out (by omega) ?_; intro w1 hrow hb hsz))
  have hrow2 : Hid (RowI w1 w.heap.size (tab N (mulH p f g 0))) := hide (by have := hrow.out; rwa [tab_zero] at this)
  clear hrow
  go_loopw [29] (fun v wr => ∃ i : Nat, i ≤ n1 ∧ v = .int .i64 i ∧ Hid (RowI wr w.heap.size (tab N (mulH p f g i))) ∧ Below w.heap.size w wr ∧ w.heap.size < wr.heap.size) (fun v _ => n1 - (intOf v).toNat)
  case atStart => exact ⟨0, by omega, rfl, hrow2, hb, hsz⟩
  case round =>
    obtain ⟨i, hi, rfl, hR, hbr, hsr⟩ := hrel
    clear hrow2 hb hsz
    by_cases hlt : i < n1
    · obtain ⟨bf, off, ha, hbw, hcell⟩ := (h1.below hbr).at (by omega)
      subst ha
      have e1 := hcell i hlt
      have hr1 := getD_rng Hf.out hp i
      have hstep : Hid (mulH p f g (i + 1) = mulIn p (f.getD i 0) g (mulH p f g i) i n2) := hide (by rw [mulH, hl2.out])
      obtain ⟨x, hx⟩ : ∃ x, f.getD i 0 = x := ⟨_, rfl⟩
      rw [hx] at e1 hr1 hstep
      obtain ⟨r1, r2⟩ := hr1
      clear hcell hx
      have hlt' : (i : Int) < (n1 : Int) := by omega
      go_wp2
      obtain ⟨wo, hwo⟩ : ∃ wo : World, wo = wr := ⟨_, rfl⟩
      subst hwo
      have hR0 : Hid (RowI wo w.heap.size (tab N (mulIn p x g (mulH p f g i) i 0))) := hide (by rw [mulIn_zero]; exact hR.out)
      go_loopw [36] (fun v wr => ∃ k : Nat, k ≤ n2 ∧ v = .int .i64 k ∧ Hid (RowI wr w.heap.size (tab N (mulIn p x g (mulH p f g i) i k))) ∧ Below w.heap.size w wr ∧ w.heap.size < wr.heap.size) (fun v _ => n2 - (intOf v).toNat)
      case atStart => exact ⟨0, by omega, rfl, hR0, hbr, hsr⟩
      case round =>
        obtain ⟨k, hk, rfl, hRk, hbk, hsk⟩ := hrel
        clear hR0 hR e1
        by_cases hkt : k < n2
        · obtain ⟨bg, offg, hag, hbwg, hcellg⟩ := (h2.below hbk).at (by omega)
          subst hag
          have e2 := hcellg k hkt
          have hr2 := getD_rng Hg.out hp k
          have e3 := hRk.out.cell (i + k) (by rw [tab_len]; omega)
          rw [tab_at _ _ _ (by omega)] at e3
          have hz := mulIn_rng hp (a := x) (g := g) (i := i) (k := k) (mulH_rng hp f g i) (i + k)
          have hzz : mulIn p x g (mulH p f g i) i k (i + k) = mulH p f g i (i + k) := by unfold mulIn; rw [if_neg (by omega)]
          rw [hzz] at e3 hz
          have hfr := hRk.out.free (i + k)
          have hset := hRk.out.set (i + k) ((mulH p f g i (i + k) + x * g.getD k 0) % p)
          rw [mulIn_step] at hset
          obtain ⟨y, hy⟩ : ∃ y, g.getD k 0 = y := ⟨_, rfl⟩
          obtain ⟨z, hzd⟩ : ∃ z, mulH p f g i (i + k) = z := ⟨_, rfl⟩
          rw [hy] at e2 hr2 hset
          rw [hzd] at e3 hz hset
          have Hset := hide hset
          obtain ⟨r3, r4⟩ := hr2
          obtain ⟨r5, r6⟩ := hz
          obtain ⟨q1, q2⟩ := mulb r1 r2 r3 r4 hp2
          clear hset hcellg hy hzd hzz
          have hkt' : (k : Int) < (n2 : Int) := by omega
          have hiN : (i : Int) + (k : Int) < (N : Int) := by omega
          have hik : ((i : Int) + (k : Int)).toNat = i + k := by omega
          go_wp2
          go_roundw
          case rel => exact ⟨k + 1, by omega, by go_num, Hset, hbk.setCell (by simp) _, by simpa using hsk⟩
          case measure => simp [intOf]; omega
        · obtain rfl : k = n2 := by omega
          have hnext : Hid (RowI wr w.heap.size (tab N (mulH p f g (i + 1)))) := hide (by rw [hstep.out]; exact hRk.out)
          clear hRk
          go_wp2
          go_roundw
          case rel => exact ⟨i + 1, by omega, by go_num, hnext, hbk, hsk⟩
          case measure => simp [intOf]; omega
    · obtain rfl : i = n1 := by omega
      have hfin : Own w.heap.size wr (some ⟨w.heap.size, 0, none⟩) N (mulM p f g) ∧ (mulM p f g).length = N := by
        have h3 := hR.out.own' (Nat.le_refl _) (by rw [tab_len]; unfold maxLen; omega)
        rw [tab_len, ← hm.out] at h3
        exact ⟨h3, by rw [hm.out, tab_len]⟩
      obtain ⟨ho, hlen⟩ := hfin
      have Hlen := hide hlen
      clear hlen
      go_wp2
      go_ret
      exact ⟨_, N, by rw [Hlen.out]; rfl, ho, hbr⟩
set_option maxRecDepth 100000 in
set_option maxHeartbeats 1600000 in
theorem l01Times_any (p : Int) (a1 : Option Addr) (n1 c1 : Nat) (f : List Int) (a2 : Option Addr) (n2 c2 : Nat) (g : List Int) (w : World) (h1 : SL w a1 n1 c1 f) (h2 : SL w a2 n2 c2 g)
    (b1 : n1 ≤ 1000) (b2 : n2 ≤ 1000) (hp : 2 ≤ p) (hp2 : p ≤ 10007) (hf : areB p f = true) (hg : areB p g = true) :
    Calls Try.prog 68 #[.int .i64 p, .slice a1 n1 c1, .slice a2 n2 c2] w fun e w' => ∃ a' c', e = .returned (.slice a' (trimL (mulM p f g)).length c') ∧ Own w.heap.size w' a' c' (trimL (mulM p f g)) ∧ Below w.heap.size w w' := by
  have hl1 := hide h1.len
  have hl2 := hide h2.len
  have hown0 : ∀ w' : World, Own w'.heap.size (w'.alloc (.cells #[] 2)) (some ⟨w'.heap.size, 0, none⟩) 0 [] := fun w' => by
    have := World.ownsRow_lit w' (base := w'.heap.size) (e := 2) (size := 1) #[] 0 (Nat.le_refl _) (by simp) rfl
    exact this
  by_cases h0 : n1 = 0
  · have Hm := hide (mulM_nil (p := p) (f := f) (g := g) (.inl (List.eq_nil_of_length_eq_zero (by rw [hl1.out, h0]))))
    subst h0
    clear hown0
    go_enter Try.func68, Try.ntmps68
    go_wp2
    go_ret
    exact ⟨some ⟨w.heap.size, 0, none⟩, 0, by rw [Hm.out]; rfl, by rw [Hm.out]; exact World.ownsRow_lit w (base := w.heap.size) (e := 2) (size := 1) #[] 0 (Nat.le_refl _) (by simp) rfl, bl1 _ _⟩
  have h0b : ((n1 : Int) == 0) = false := by simpa using h0
  by_cases h0' : n2 = 0
  · have Hm := hide (mulM_nil (p := p) (f := f) (g := g) (.inr (List.eq_nil_of_length_eq_zero (by rw [hl2.out, h0']))))
    subst h0'
    clear hown0
    go_enter Try.func68, Try.ntmps68
    go_wp2
    go_ret
    exact ⟨some ⟨w.heap.size, 0, none⟩, 0, by rw [Hm.out]; rfl, by rw [Hm.out]; exact World.ownsRow_lit w (base := w.heap.size) (e := 2) (size := 1) #[] 0 (Nat.le_refl _) (by simp) rfl, bl1 _ _⟩
  clear hown0
  have h0c : ((n2 : Int) == 0) = false := by simpa using h0'
  obtain ⟨N, hN⟩ : ∃ N, n1 + n2 - 1 = N := ⟨_, rfl⟩
  have HN : (n1 : Int) + (n2 : Int) - 1 = (N : Int) := by omega
  have hN1 : n1 + n2 ≤ N + 1 := by omega
  have hN2 : N + 1 ≤ n1 + n2 := by omega
  have hm : Hid (mulM p f g = tab N (mulH p f g n1)) := hide (by rw [mulM_tab (by rw [hl1.out]; exact h0) (by rw [hl2.out]; exact h0'), hl1.out, hl2.out, hN])
  have Hf := hide hf
  have Hg := hide hg
  have HN' := hide HN
  clear hf hg hN HN h0 h0'
  go_enter Try.func68, Try.ntmps68
  go_wp2_with (first | (at_make; refine wp_make rfl _ _ rfl _ _ N rfl rfl HN'.out HN'.out (by omega) ?_; intro w1 hrow hb hsz))
  have hrow2 : Hid (RowI w1 w.heap.size (tab N (mulH p f g 0))) := hide (by have := hrow.out; rwa [tab_zero] at this)
  clear hrow
  go_loopw [8] (fun v wr => ∃ i : Nat, i ≤ n1 ∧ v = .int .i64 i ∧ Hid (RowI wr w.heap.size (tab N (mulH p f g i))) ∧ Below w.heap.size w wr ∧ w.heap.size < wr.heap.size) (fun v _ => n1 - (intOf v).toNat)
  case atStart => exact ⟨0, by omega, rfl, hrow2, hb, hsz⟩
  case round =>
    obtain ⟨i, hi, rfl, hR, hbr, hsr⟩ := hrel
    clear hrow2 hb hsz
    by_cases hlt : i < n1
    · have hr1 := getD_rng Hf.out hp i
      have hstep : Hid (mulH p f g (i + 1) = mulIn p (f.getD i 0) g (mulH p f g i) i n2) := hide (by rw [mulH, hl2.out])
      obtain ⟨x, hx⟩ : ∃ x, f.getD i 0 = x := ⟨_, rfl⟩
      rw [hx] at hr1 hstep
      have Hx := hide hx
      obtain ⟨r1, r2⟩ := hr1
      clear hx
      have hlt' : (i : Int) < (n1 : Int) := by omega
      go_wp2
      obtain ⟨wo, hwo⟩ : ∃ wo : World, wo = wr := ⟨_, rfl⟩
      subst hwo
      have hR0 : Hid (RowI wo w.heap.size (tab N (mulIn p x g (mulH p f g i) i 0))) := hide (by rw [mulIn_zero]; exact hR.out)
      go_loopw [9] (fun v wr => ∃ k : Nat, k ≤ n2 ∧ v = .int .i64 k ∧ Hid (RowI wr w.heap.size (tab N (mulIn p x g (mulH p f g i) i k))) ∧ Below w.heap.size w wr ∧ w.heap.size < wr.heap.size) (fun v _ => n2 - (intOf v).toNat)
      case atStart => exact ⟨0, by omega, rfl, hR0, hbr, hsr⟩
      case round =>
        obtain ⟨k, hk, rfl, hRk, hbk, hsk⟩ := hrel
        clear hR0 hR
        by_cases hkt : k < n2
        · obtain ⟨bf, off, ha, hbw, hcell⟩ := (h1.below hbk).at (by omega)
          obtain ⟨bg, offg, hag, hbwg, hcellg⟩ := (h2.below hbk).at (by omega)
          subst ha
          subst hag
          have e1 := hcell i hlt
          rw [Hx.out] at e1
          have e2 := hcellg k hkt
          have hr2 := getD_rng Hg.out hp k
          have e3 := hRk.out.cell (i + k) (by rw [tab_len]; omega)
          rw [tab_at _ _ _ (by omega)] at e3
          have hz := mulIn_rng hp (a := x) (g := g) (i := i) (k := k) (mulH_rng hp f g i) (i + k)
          have hzz : mulIn p x g (mulH p f g i) i k (i + k) = mulH p f g i (i + k) := by unfold mulIn; rw [if_neg (by omega)]
          rw [hzz] at e3 hz
          have hfr := hRk.out.free (i + k)
          have hset := hRk.out.set (i + k) ((mulH p f g i (i + k) + x * g.getD k 0) % p)
          rw [mulIn_step] at hset
          obtain ⟨y, hy⟩ : ∃ y, g.getD k 0 = y := ⟨_, rfl⟩
          obtain ⟨z, hzd⟩ : ∃ z, mulH p f g i (i + k) = z := ⟨_, rfl⟩
          rw [hy] at e2 hr2 hset
          rw [hzd] at e3 hz hset
          have Hset := hide hset
          obtain ⟨r3, r4⟩ := hr2
          obtain ⟨r5, r6⟩ := hz
          obtain ⟨q1, q2⟩ := mulb r1 r2 r3 r4 hp2
          clear hset hcellg hcell hy hzd hzz
          have hkt' : (k : Int) < (n2 : Int) := by omega
          have hiN : (i : Int) + (k : Int) < (N : Int) := by omega
          have hi0 : (0 : Int) ≤ (i : Int) + (k : Int) := by omega
          have v1 : IntKind.i64.wrap (x * y) = x * y := IntWalk.i64_in _ (by omega)
          have v2 : IntKind.i64.wrap (z + x * y) = z + x * y := IntWalk.i64_in _ (by omega)
          have v4 : (z + x * y).tmod p = (z + x * y) % p := Int.tmod_eq_emod_of_nonneg (by omega)
          have v3 : IntKind.i64.wrap ((i : Int) + (k : Int)) = (i : Int) + (k : Int) := IntWalk.i64_in _ (by omega)
          have v6 := modb (x := z + x * y) hp
          have v5 : IntKind.i64.wrap ((z + x * y) % p) = (z + x * y) % p := IntWalk.i64_in _ (by omega)
          have hik : ((i : Int) + (k : Int)).toNat = i + k := by omega
          have hp0 : ¬ p = 0 := by omega
          go_wp2
          refine wp_region_still_tail 23 (by kernel_rfl) (by kernel_rfl) ?_
          simp only [List.take_succ_cons, List.take_zero, List.drop_succ_cons, List.drop_zero]
          repeat still_step
          refine wpStill_nil ?_
          clear v1 v2 v3 v4 v5 hik
          go_wp2
          go_roundw
          case rel => exact ⟨k + 1, by omega, by go_num, Hset, (hbk.setCell (by simp) _).drew, by simpa using hsk⟩
          case measure => simp [intOf]; omega
        · obtain rfl : k = n2 := by omega
          have hnext : Hid (RowI wr w.heap.size (tab N (mulH p f g (i + 1)))) := hide (by rw [hstep.out]; exact hRk.out)
          clear hRk
          go_wp2
          go_roundw
          case rel => exact ⟨i + 1, by omega, by go_num, hnext, hbk, hsk⟩
          case measure => simp [intOf]; omega
    · obtain rfl : i = n1 := by omega
      have hsl := hR.out.slN (tab_len _ _)
      have Hlen := hide (show (trimL (mulM p f g)).length = (trimL (tab N (mulH p f g i))).length by rw [hm.out])
      go_wp2_with (go_at_call 66; refine (l01Trim_any _ _ _ _ _ _ hsl (by omega)).mono ?_; rintro e w3 ⟨a', c', rfl, hown, hb3⟩)
      go_ret
      refine ⟨a', c', by rw [Hlen.out]; rfl, ?_, hbr.trans (hb3.mono hbr.size)⟩
      rw [hm.out]
      exact hown.mono (by omega)
end Go.Proofs.Ytkpmonopjkjflaa
/- Plain mathematics: powers modulo a prime; Fermat's theorem; inverses. No program. -/
namespace Go.Proofs.Ytkpmonopjkjflaa
open Go.RowKit
set_option linter.unusedVariables false
set_option linter.unusedSimpArgs false

theorem pow_mod (p x : Int) (n : Nat) : (x % p) ^ n % p = x ^ n % p := by
  induction n with
  | zero => simp
  | succ n ih =>
    rw [Int.pow_succ, Int.pow_succ, Int.mul_emod, ih, Int.emod_emod, ← Int.mul_emod]
theorem powLoop_eq {p : Int} (hp : 2 ≤ p) : ∀ (f : Nat) (r b k : Int), 0 ≤ r → r < p → 0 ≤ k → Few f k → powLoop f p r b k = r * b ^ k.toNat % p := by
  intro f
  induction f with
  | zero =>
    intro r b k h1 h2 h3 h4
    have hk : k = 0 := by have := h4.zero; omega
    subst hk
    simp [powLoop]
    exact (Int.emod_eq_of_lt h1 h2).symm
  | succ f ih =>
    intro r b k h1 h2 h3 h4
    unfold powLoop
    by_cases hk : 0 < k
    · rw [if_pos hk]
      have hm : (b * b % p) ^ (k / 2).toNat % p = (b * b) ^ (k / 2).toNat % p := pow_mod _ _ _
      have hsq : (b * b) ^ (k / 2).toNat = b ^ (2 * (k / 2).toNat) := by
        rw [Int.pow_mul]
        congr 1
        rw [Int.pow_succ, Int.pow_succ, Int.pow_zero, Int.one_mul]
      by_cases ho : k % 2 = 1
      · rw [if_pos ho, ih _ _ _ (modb hp).1 (modb hp).2 (by omega) h4.half]
        have e : k.toNat = 2 * (k / 2).toNat + 1 := by omega
        rw [Int.mul_emod, hm, Int.emod_emod, ← Int.mul_emod, hsq, e, Int.pow_succ]
        congr 1
        rw [Int.mul_assoc, Int.mul_comm b]
      · rw [if_neg ho, ih _ _ _ h1 h2 (by omega) h4.half]
        have e : k.toNat = 2 * (k / 2).toNat := by omega
        rw [Int.mul_emod, hm, ← Int.mul_emod, hsq, ← e]
    · rw [if_neg hk]
      have hk : k = 0 := by omega
      subst hk
      simp
      exact (Int.emod_eq_of_lt h1 h2).symm
theorem powM_eq {p x k : Int} (hp : 2 ≤ p) (h0 : 0 ≤ k) (h1 : k ≤ 1000000000) : powM p x k = x ^ k.toNat % p := by
  unfold powM
  rw [powLoop_eq hp 64 1 x k (by omega) (by omega) h0 (few64 h1), Int.one_mul]

/-- Pascal's numbers. -/
def ch : Nat → Nat → Nat
  | _, 0 => 1
  | 0, _ + 1 => 0
  | n + 1, k + 1 => ch n k + ch n (k + 1)
theorem ch_big : ∀ (n k : Nat), n < k → ch n k = 0 := by
  intro n
  induction n with
  | zero => intro k h; cases k with | zero => omega | succ k => rfl
  | succ n ih =>
    intro k h
    cases k with
    | zero => omega
    | succ k => unfold ch; rw [ih k (by omega), ih (k + 1) (by omega)]
theorem ch_self : ∀ n, ch n n = 1 := by
  intro n
  induction n with
  | zero => rfl
  | succ n ih => unfold ch; rw [ih, ch_big n (n + 1) (by omega)]
theorem ch_zero (n : Nat) : ch n 0 = 1 := by cases n <;> rfl
theorem ch_absorb : ∀ (n k : Nat), (k + 1) * ch (n + 1) (k + 1) = (n + 1) * ch n k := by
  intro n
  induction n with
  | zero =>
    intro k
    cases k with
    | zero => rfl
    | succ k => rw [ch_big 1 (k + 1 + 1) (by omega), ch_big 0 (k + 1) (by omega)]; simp
  | succ m ih =>
    intro k
    cases k with
    | zero =>
      have h1 := ih 0
      rw [ch_zero] at h1 ⊢
      have e1 : ch (m + 1 + 1) (0 + 1) = ch (m + 1) 0 + ch (m + 1) (0 + 1) := rfl
      rw [e1, ch_zero]
      simp only [Nat.zero_add, Nat.one_mul, Nat.mul_one] at *
      omega
    | succ j =>
      have h1 := ih j
      have h2 := ih (j + 1)
      have e1 : ch (m + 1 + 1) (j + 1 + 1) = ch (m + 1) (j + 1) + ch (m + 1) (j + 1 + 1) := by rw [ch]
      have e2 : ch (m + 1) (j + 1) = ch m j + ch m (j + 1) := by rw [ch]
      rw [e1, Nat.mul_add, h2]
      have e3 : (j + 1 + 1) * ch (m + 1) (j + 1) = (j + 1) * ch (m + 1) (j + 1) + ch (m + 1) (j + 1) := Nat.succ_mul _ _
      rw [e3, h1]
      have e4 : (m + 1 + 1) * ch (m + 1) (j + 1) = (m + 1) * ch (m + 1) (j + 1) + ch (m + 1) (j + 1) := Nat.succ_mul _ _
      rw [e4, show (m + 1) * ch (m + 1) (j + 1) = (m + 1) * ch m j + (m + 1) * ch m (j + 1) by rw [e2, Nat.mul_add]]
      omega
/-- Sums of the first n. -/
def sm : Nat → (Nat → Int) → Int
  | 0, _ => 0
  | n + 1, f => sm n f + f n
theorem sm_congr {n : Nat} {f g : Nat → Int} (h : ∀ k, k < n → f k = g k) : sm n f = sm n g := by
  induction n with
  | zero => rfl
  | succ n ih => unfold sm; rw [ih (fun k hk => h k (by omega)), h n (by omega)]
theorem sm_head (n : Nat) (f : Nat → Int) : sm (n + 1) f = f 0 + sm n (fun k => f (k + 1)) := by
  induction n with
  | zero => simp [sm]
  | succ n ih => rw [sm, ih, sm, Int.add_assoc]
theorem sm_add (n : Nat) (f g : Nat → Int) : sm n (fun k => f k + g k) = sm n f + sm n g := by
  induction n with
  | zero => rfl
  | succ n ih => rw [sm, sm, sm, ih]; omega
theorem sm_mul (n : Nat) (a : Int) (f : Nat → Int) : sm n (fun k => a * f k) = a * sm n f := by
  induction n with
  | zero => simp [sm]
  | succ n ih => rw [sm, sm, ih, Int.mul_add]
theorem sm_mod (p : Int) (n : Nat) (f : Nat → Int) (h : ∀ k, k < n → f k % p = 0) : sm n f % p = 0 := by
  induction n with
  | zero => simp [sm]
  | succ n ih => rw [sm, Int.add_emod, ih (fun k hk => h k (by omega)), h n (by omega)]; simp
theorem binom (a : Int) : ∀ n : Nat, (a + 1) ^ n = sm (n + 1) (fun k => (ch n k : Int) * a ^ k) := by
  intro n
  induction n with
  | zero => simp [sm, ch]
  | succ n ih =>
    have h1 : sm (n + 2) (fun k => (ch (n + 1) k : Int) * a ^ k) = 1 + sm (n + 1) (fun k => ((ch n k : Int) + (ch n (k + 1) : Int)) * a ^ (k + 1)) := by
      rw [sm_head]
      simp [ch]
    have h2 : sm (n + 1) (fun k => ((ch n k : Int) + (ch n (k + 1) : Int)) * a ^ (k + 1)) = a * sm (n + 1) (fun k => (ch n k : Int) * a ^ k) + sm (n + 1) (fun k => (ch n (k + 1) : Int) * a ^ (k + 1)) := by
      rw [← sm_mul, ← sm_add]
      apply sm_congr
      intro k _
      rw [Int.add_mul, Int.pow_succ]
      congr 1
      rw [← Int.mul_assoc, ← Int.mul_assoc, Int.mul_comm]
      rw [Int.mul_assoc]
    have h3 : 1 + sm (n + 1) (fun k => (ch n (k + 1) : Int) * a ^ (k + 1)) = sm (n + 1) (fun k => (ch n k : Int) * a ^ k) := by
      have e := sm_head (n + 1) (fun k => (ch n k : Int) * a ^ k)
      rw [sm] at e
      simp only [ch_big n (n + 1) (by omega), ch_zero] at e
      simp at e
      rw [e]
    rw [h1, h2, Int.pow_succ, ih, Int.mul_add, Int.mul_one]
    rw [Int.mul_comm _ a]
    omega
theorem dvd_ch {p : Int} (hp : primeB p = true) (k : Nat) (h0 : 0 < k) (h1 : (k : Int) < p) : ((ch p.toNat k : Nat) : Int) % p = 0 := by
  have hl := primeB_lo hp
  obtain ⟨n, hn⟩ : ∃ n, p.toNat = n + 1 := ⟨p.toNat - 1, by omega⟩
  obtain ⟨j, rfl⟩ : ∃ j, k = j + 1 := ⟨k - 1, by omega⟩
  have ha := ch_absorb n j
  have hd : p.toNat ∣ (j + 1) * ch p.toNat (j + 1) := by rw [hn, ha]; exact Nat.dvd_mul_right _ _
  have hg1 : Nat.gcd p.toNat (j + 1) = 1 := by
    rcases Nat.lt_or_ge (Nat.gcd p.toNat (j + 1)) 2 with hlt | hge
    · have : 0 < Nat.gcd p.toNat (j + 1) := Nat.gcd_pos_of_pos_left _ (by omega)
      omega
    · have h2 := primeB_dvd hp _ hge (Nat.gcd_dvd_left _ _)
      have h3 : Nat.gcd p.toNat (j + 1) ≤ j + 1 := Nat.gcd_le_right _ (by omega)
      omega
  have hq : p.toNat ∣ ch p.toNat (j + 1) := Nat.Coprime.dvd_of_dvd_mul_left (Nat.coprime_iff_gcd_eq_one.2 hg1) hd
  have e : ((p.toNat : Nat) : Int) = p := Int.toNat_of_nonneg (by omega)
  have : ((p.toNat : Nat) : Int) ∣ ((ch p.toNat (j + 1) : Nat) : Int) := by exact_mod_cast hq
  rw [e] at this
  exact Int.emod_eq_zero_of_dvd this
theorem dream {p : Int} (hp : primeB p = true) (a : Int) : (a + 1) ^ p.toNat % p = (a ^ p.toNat + 1) % p := by
  have hl := primeB_lo hp
  obtain ⟨n, hn⟩ : ∃ n, p.toNat = n + 1 := ⟨p.toNat - 1, by omega⟩
  rw [binom, hn, sm, sm_head]
  have hz : sm n (fun k => (ch (n + 1) (k + 1) : Int) * a ^ (k + 1)) % p = 0 := by
    apply sm_mod
    intro k hk
    rw [Int.mul_emod, ← hn, dvd_ch hp (k + 1) (by omega) (by omega)]
    simp
  rw [ch_zero, ch_self]
  simp only [Int.pow_zero, Int.cast_ofNat_Int, Int.one_mul, Int.mul_one]
  have e : (1 + sm n (fun k => (ch (n + 1) (k + 1) : Int) * a ^ (k + 1)) + a ^ (n + 1)) = (a ^ (n + 1) + 1) + sm n (fun k => (ch (n + 1) (k + 1) : Int) * a ^ (k + 1)) := by omega
  rw [e, Int.add_emod, hz]
  simp
theorem fermat {p : Int} (hp : primeB p = true) (a : Nat) : (a : Int) ^ p.toNat % p = (a : Int) % p := by
  have hl := primeB_lo hp
  induction a with
  | zero =>
    obtain ⟨n, hn⟩ : ∃ n, p.toNat = n + 1 := ⟨p.toNat - 1, by omega⟩
    rw [hn, Int.pow_succ]
    simp
  | succ a ih =>
    rw [show ((a + 1 : Nat) : Int) = (a : Int) + 1 by omega, dream hp, Int.add_emod, ih, ← Int.add_emod]
theorem cancel {p a b : Int} (hp : primeB p = true) (ha0 : 0 < a) (ha1 : a < p) (h : a * b % p = 0) : b % p = 0 := by
  have hl := primeB_lo hp
  have hb := modb (x := b) hl.1
  by_cases hz : b % p = 0
  · exact hz
  · exfalso
    have := prime_mul hp ha0 ha1 (show 0 < b % p by omega) hb.2
    rw [Int.mul_emod, Int.emod_emod, ← Int.mul_emod] at this
    exact this h
theorem fermat1 {p a : Int} (hp : primeB p = true) (ha0 : 0 < a) (ha1 : a < p) : a ^ (p - 1).toNat % p = 1 := by
  have hl := primeB_lo hp
  obtain ⟨A, rfl⟩ := Int.eq_ofNat_of_zero_le (show 0 ≤ a by omega)
  have hf := fermat hp A
  have e : p.toNat = (p - 1).toNat + 1 := by omega
  rw [e, Int.pow_succ] at hf
  have h0 : (A : Int) * ((A : Int) ^ (p - 1).toNat - 1) % p = 0 := by
    rw [Int.mul_sub, Int.mul_one, Int.mul_comm]
    exact Int.emod_eq_emod_iff_emod_sub_eq_zero.1 hf
  have h1 := cancel hp ha0 ha1 h0
  have h2 : (A : Int) ^ (p - 1).toNat % p = 1 % p := Int.emod_eq_emod_iff_emod_sub_eq_zero.2 h1
  rw [h2]
  exact Int.emod_eq_of_lt (by omega) (by omega)
/-- The inverse is one. -/
theorem invM_mul {p x : Int} (hp : primeB p = true) (h0 : 0 < x) (h1 : x < p) : x * invM p x % p = 1 := by
  have hl := primeB_lo hp
  unfold invM
  rw [powM_eq hl.1 (by omega) (by omega), Int.mul_emod, Int.emod_emod, ← Int.mul_emod]
  have e : x * x ^ (p - 2).toNat = x ^ (p - 1).toNat := by
    rw [show (p - 1).toNat = (p - 2).toNat + 1 by omega, Int.pow_succ, Int.mul_comm]
  rw [e]
  exact fermat1 hp h0 h1
end Go.Proofs.Ytkpmonopjkjflaa
