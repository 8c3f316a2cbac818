/- Merged texts. -/
import Derived.Test.YtkpmonopjkjflaaYC18
import Derived.Test.YtkpmonopjkjflaaYC12
import Derived.StillTailTactics
import Derived.IntWalk
/- Plain mathematics: powers modulo a prime; Fermat's theorem; inverses. No program. -/
namespace Go.Proofs.Ytkpmonopjkjflaa
open Go.RowKit
set_option linter.unusedVariables false
set_option linter.unusedSimpArgs false

theorem pow_mod (p x : Int) (n : Nat) : (x % p) ^ n % p = x ^ n % p := by
  induction n with
  | zero => simp
  | succ n ih =>
    rw [Int.pow_succ, Int.pow_succ, Int.mul_emod, ih, Int.emod_emod, ← Int.mul_emod]
theorem powLoop_eq {p : Int} (hp : 2 ≤ p) : ∀ (f : Nat) (r b k : Int), 0 ≤ r → r < p → 0 ≤ k → Few f k → powLoop f p r b k = r * b ^ k.toNat % p := by
  intro f
  induction f with
  | zero =>
    intro r b k h1 h2 h3 h4
    have hk : k = 0 := by have := h4.zero; omega
    subst hk
    simp [powLoop]
    exact (Int.emod_eq_of_lt h1 h2).symm
  | succ f ih =>
    intro r b k h1 h2 h3 h4
    unfold powLoop
    by_cases hk : 0 < k
    · rw [if_pos hk]
      have hm : (b * b % p) ^ (k / 2).toNat % p = (b * b) ^ (k / 2).toNat % p := pow_mod _ _ _
      have hsq : (b * b) ^ (k / 2).toNat = b ^ (2 * (k / 2).toNat) := by
        rw [Int.pow_mul]
        congr 1
        rw [Int.pow_succ, Int.pow_succ, Int.pow_zero, Int.one_mul]
      by_cases ho : k % 2 = 1
      · rw [if_pos ho, ih _ _ _ (modb hp).1 (modb hp).2 (by omega) h4.half]
        have e : k.toNat = 2 * (k / 2).toNat + 1 := by omega
        rw [Int.mul_emod, hm, Int.emod_emod, ← Int.mul_emod, hsq, e, Int.pow_succ]
        congr 1
        rw [Int.mul_assoc, Int.mul_comm b]
      · rw [if_neg ho, ih _ _ _ h1 h2 (by omega) h4.half]
        have e : k.toNat = 2 * (k / 2).toNat := by omega
        rw [Int.mul_emod, hm, ← Int.mul_emod, hsq, ← e]
    · rw [if_neg hk]
      have hk : k = 0 := by omega
      subst hk
      simp
      exact (Int.emod_eq_of_lt h1 h2).symm
theorem powM_eq {p x k : Int} (hp : 2 ≤ p) (h0 : 0 ≤ k) (h1 : k ≤ 1000000000) : powM p x k = x ^ k.toNat % p := by
  unfold powM
  rw [powLoop_eq hp 64 1 x k (by omega) (by omega) h0 (few64 h1), Int.one_mul]

/-- Pascal's numbers. -/
def ch : Nat → Nat → Nat
  | _, 0 => 1
  | 0, _ + 1 => 0
  | n + 1, k + 1 => ch n k + ch n (k + 1)
theorem ch_big : ∀ (n k : Nat), n < k → ch n k = 0 := by
  intro n
  induction n with
  | zero => intro k h; cases k with | zero => omega | succ k => rfl
  | succ n ih =>
    intro k h
    cases k with
    | zero => omega
    | succ k => unfold ch; rw [ih k (by omega), ih (k + 1) (by omega)]
theorem ch_self : ∀ n, ch n n = 1 := by
  intro n
  induction n with
  | zero => rfl
  | succ n ih => unfold ch; rw [ih, ch_big n (n + 1) (by omega)]
theorem ch_zero (n : Nat) : ch n 0 = 1 := by cases n <;> rfl
theorem ch_absorb : ∀ (n k : Nat), (k + 1) * ch (n + 1) (k + 1) = (n + 1) * ch n k := by
  intro n
  induction n with
  | zero =>
    intro k
    cases k with
    | zero => rfl
    | succ k => rw [ch_big 1 (k + 1 + 1) (by omega), ch_big 0 (k + 1) (by omega)]; simp
  | succ m ih =>
    intro k
    cases k with
    | zero =>
      have h1 := ih 0
      rw [ch_zero] at h1 ⊢
      have e1 : ch (m + 1 + 1) (0 + 1) = ch (m + 1) 0 + ch (m + 1) (0 + 1) := rfl
      rw [e1, ch_zero]
      simp only [Nat.zero_add, Nat.one_mul, Nat.mul_one] at *
      omega
    | succ j =>
      have h1 := ih j
      have h2 := ih (j + 1)
      have e1 : ch (m + 1 + 1) (j + 1 + 1) = ch (m + 1) (j + 1) + ch (m + 1) (j + 1 + 1) := by rw [ch]
      have e2 : ch (m + 1) (j + 1) = ch m j + ch m (j + 1) := by rw [ch]
      rw [e1, Nat.mul_add, h2]
      have e3 : (j + 1 + 1) * ch (m + 1) (j + 1) = (j + 1) * ch (m + 1) (j + 1) + ch (m + 1) (j + 1) := Nat.succ_mul _ _
      rw [e3, h1]
      have e4 : (m + 1 + 1) * ch (m + 1) (j + 1) = (m + 1) * ch (m + 1) (j + 1) + ch (m + 1) (j + 1) := Nat.succ_mul _ _
      rw [e4, show (m + 1) * ch (m + 1) (j + 1) = (m + 1) * ch m j + (m + 1) * ch m (j + 1) by rw [e2, Nat.mul_add]]
      omega
/-- Sums of the first n. -/
def sm : Nat → (Nat → Int) → Int
  | 0, _ => 0
  | n + 1, f => sm n f + f n
theorem sm_congr {n : Nat} {f g : Nat → Int} (h : ∀ k, k < n → f k = g k) : sm n f = sm n g := by
  induction n with
  | zero => rfl
  | succ n ih => unfold sm; rw [ih (fun k hk => h k (by omega)), h n (by omega)]
theorem sm_head (n : Nat) (f : Nat → Int) : sm (n + 1) f = f 0 + sm n (fun k => f (k + 1)) := by
  induction n with
  | zero => simp [sm]
  | succ n ih => rw [sm, ih, sm, Int.add_assoc]
theorem sm_add (n : Nat) (f g : Nat → Int) : sm n (fun k => f k + g k) = sm n f + sm n g := by
  induction n with
  | zero => rfl
  | succ n ih => rw [sm, sm, sm, ih]; omega
theorem sm_mul (n : Nat) (a : Int) (f : Nat → Int) : sm n (fun k => a * f k) = a * sm n f := by
  induction n with
  | zero => simp [sm]
  | succ n ih => rw [sm, sm, ih, Int.mul_add]
theorem sm_mod (p : Int) (n : Nat) (f : Nat → Int) (h : ∀ k, k < n → f k % p = 0) : sm n f % p = 0 := by
  induction n with
  | zero => simp [sm]
  | succ n ih => rw [sm, Int.add_emod, ih (fun k hk => h k (by omega)), h n (by omega)]; simp
theorem binom (a : Int) : ∀ n : Nat, (a + 1) ^ n = sm (n + 1) (fun k => (ch n k : Int) * a ^ k) := by
  intro n
  induction n with
  | zero => simp [sm, ch]
  | succ n ih =>
    have h1 : sm (n + 2) (fun k => (ch (n + 1) k : Int) * a ^ k) = 1 + sm (n + 1) (fun k => ((ch n k : Int) + (ch n (k + 1) : Int)) * a ^ (k + 1)) := by
      rw [sm_head]
      simp [ch]
    have h2 : sm (n + 1) (fun k => ((ch n k : Int) + (ch n (k + 1) : Int)) * a ^ (k + 1)) = a * sm (n + 1) (fun k => (ch n k : Int) * a ^ k) + sm (n + 1) (fun k => (ch n (k + 1) : Int) * a ^ (k + 1)) := by
      rw [← sm_mul, ← sm_add]
      apply sm_congr
      intro k _
      rw [Int.add_mul, Int.pow_succ]
      congr 1
      rw [← Int.mul_assoc, ← Int.mul_assoc, Int.mul_comm]
      rw [Int.mul_assoc]
    have h3 : 1 + sm (n + 1) (fun k => (ch n (k + 1) : Int) * a ^ (k + 1)) = sm (n + 1) (fun k => (ch n k : Int) * a ^ k) := by
      have e := sm_head (n + 1) (fun k => (ch n k : Int) * a ^ k)
      rw [sm] at e
      simp only [ch_big n (n + 1) (by omega), ch_zero] at e
      simp at e
      rw [e]
    rw [h1, h2, Int.pow_succ, ih, Int.mul_add, Int.mul_one]
    rw [Int.mul_comm _ a]
    omega
theorem dvd_ch {p : Int} (hp : primeB p = true) (k : Nat) (h0 : 0 < k) (h1 : (k : Int) < p) : ((ch p.toNat k : Nat) : Int) % p = 0 := by
  have hl := primeB_lo hp
  obtain ⟨n, hn⟩ : ∃ n, p.toNat = n + 1 := ⟨p.toNat - 1, by omega⟩
  obtain ⟨j, rfl⟩ : ∃ j, k = j + 1 := ⟨k - 1, by omega⟩
  have ha := ch_absorb n j
  have hd : p.toNat ∣ (j + 1) * ch p.toNat (j + 1) := by rw [hn, ha]; exact Nat.dvd_mul_right _ _
  have hg1 : Nat.gcd p.toNat (j + 1) = 1 := by
    rcases Nat.lt_or_ge (Nat.gcd p.toNat (j + 1)) 2 with hlt | hge
    · have : 0 < Nat.gcd p.toNat (j + 1) := Nat.gcd_pos_of_pos_left _ (by omega)
      omega
    · have h2 := primeB_dvd hp _ hge (Nat.gcd_dvd_left _ _)
      have h3 : Nat.gcd p.toNat (j + 1) ≤ j + 1 := Nat.gcd_le_right _ (by omega)
      omega
  have hq : p.toNat ∣ ch p.toNat (j + 1) := Nat.Coprime.dvd_of_dvd_mul_left (Nat.coprime_iff_gcd_eq_one.2 hg1) hd
  have e : ((p.toNat : Nat) : Int) = p := Int.toNat_of_nonneg (by omega)
  have : ((p.toNat : Nat) : Int) ∣ ((ch p.toNat (j + 1) : Nat) : Int) := by exact_mod_cast hq
  rw [e] at this
  exact Int.emod_eq_zero_of_dvd this
theorem dream {p : Int} (hp : primeB p = true) (a : Int) : (a + 1) ^ p.toNat % p = (a ^ p.toNat + 1) % p := by
  have hl := primeB_lo hp
  obtain ⟨n, hn⟩ : ∃ n, p.toNat = n + 1 := ⟨p.toNat - 1, by omega⟩
  rw [binom, hn, sm, sm_head]
  have hz : sm n (fun k => (ch (n + 1) (k + 1) : Int) * a ^ (k + 1)) % p = 0 := by
    apply sm_mod
    intro k hk
    rw [Int.mul_emod, ← hn, dvd_ch hp (k + 1) (by omega) (by omega)]
    simp
  rw [ch_zero, ch_self]
  simp only [Int.pow_zero, Int.cast_ofNat_Int, Int.one_mul, Int.mul_one]
  have e : (1 + sm n (fun k => (ch (n + 1) (k + 1) : Int) * a ^ (k + 1)) + a ^ (n + 1)) = (a ^ (n + 1) + 1) + sm n (fun k => (ch (n + 1) (k + 1) : Int) * a ^ (k + 1)) := by omega
  rw [e, Int.add_emod, hz]
  simp
theorem fermat {p : Int} (hp : primeB p = true) (a : Nat) : (a : Int) ^ p.toNat % p = (a : Int) % p := by
  have hl := primeB_lo hp
  induction a with
  | zero =>
    obtain ⟨n, hn⟩ : ∃ n, p.toNat = n + 1 := ⟨p.toNat - 1, by omega⟩
    rw [hn, Int.pow_succ]
    simp
  | succ a ih =>
    rw [show ((a + 1 : Nat) : Int) = (a : Int) + 1 by omega, dream hp, Int.add_emod, ih, ← Int.add_emod]
theorem cancel {p a b : Int} (hp : primeB p = true) (ha0 : 0 < a) (ha1 : a < p) (h : a * b % p = 0) : b % p = 0 := by
  have hl := primeB_lo hp
  have hb := modb (x := b) hl.1
  by_cases hz : b % p = 0
  · exact hz
  · exfalso
    have := prime_mul hp ha0 ha1 (show 0 < b % p by omega) hb.2
    rw [Int.mul_emod, Int.emod_emod, ← Int.mul_emod] at this
    exact this h
theorem fermat1 {p a : Int} (hp : primeB p = true) (ha0 : 0 < a) (ha1 : a < p) : a ^ (p - 1).toNat % p = 1 := by
  have hl := primeB_lo hp
  obtain ⟨A, rfl⟩ := Int.eq_ofNat_of_zero_le (show 0 ≤ a by omega)
  have hf := fermat hp A
  have e : p.toNat = (p - 1).toNat + 1 := by omega
  rw [e, Int.pow_succ] at hf
  have h0 : (A : Int) * ((A : Int) ^ (p - 1).toNat - 1) % p = 0 := by
    rw [Int.mul_sub, Int.mul_one, Int.mul_comm]
    exact Int.emod_eq_emod_iff_emod_sub_eq_zero.1 hf
  have h1 := cancel hp ha0 ha1 h0
  have h2 : (A : Int) ^ (p - 1).toNat % p = 1 % p := Int.emod_eq_emod_iff_emod_sub_eq_zero.2 h1
  rw [h2]
  exact Int.emod_eq_of_lt (by omega) (by omega)
/-- The inverse is one. -/
theorem invM_mul {p x : Int} (hp : primeB p = true) (h0 : 0 < x) (h1 : x < p) : x * invM p x % p = 1 := by
  have hl := primeB_lo hp
  unfold invM
  rw [powM_eq hl.1 (by omega) (by omega), Int.mul_emod, Int.emod_emod, ← Int.mul_emod]
  have e : x * x ^ (p - 2).toNat = x ^ (p - 1).toNat := by
    rw [show (p - 1).toNat = (p - 2).toNat + 1 by omega, Int.pow_succ, Int.mul_comm]
  rw [e]
  exact fermat1 hp h0 h1
end Go.Proofs.Ytkpmonopjkjflaa
/- Contracts: addMultiple (program), l01Add (model): f and k times g together. -/
namespace Go.Proofs.Ytkpmonopjkjflaa
open Go.RowKit
set_option linter.unusedVariables false
set_option linter.unusedSimpArgs false

theorem RowI.slN {w : World} {g n : Nat} {ys : List Int} (h : RowI w g ys) (hn : ys.length = n) : SL w (some ⟨g, 0, none⟩) n n ys := by
  subst hn; exact h.sl'
theorem pad_tab (f : List Int) (m N : Nat) (hm : f.length = m) (hN : m ≤ N) : f ++ (List.replicate N (0 : Int)).drop m = tab N (fun j => f.getD j 0) := by
  apply ext_tab
  · simp [tab]; omega
  · intro j hj
    have hj' : j < N := by simp at hj; omega
    rw [tab_at _ _ _ hj']
    by_cases h : j < m
    · simp [List.getElem?_append_left (show j < f.length by omega)]
    · simp [List.getElem?_append_right (show f.length ≤ j by omega), show ¬ j < f.length by omega]
      have : ∀ (i : Nat), (List.replicate (N - m) (0 : Int))[i]?.getD 0 = 0 := fun i => by
        by_cases hi : i < N - m <;> simp [hi]
      exact this _
/-- The numbers of f and k times g, the first i of g done. -/
def sumH (p k : Int) (f g : List Int) (i : Nat) : Nat → Int := fun j => if j < i then (f.getD j 0 + k * g.getD j 0) % p else f.getD j 0
def addM (p : Int) (f g : List Int) (k : Int) : List Int := trimL (tab (max f.length g.length) (sumH p k f g g.length))
theorem sumH_step (p k : Int) (f g : List Int) (N i : Nat) : (tab N (sumH p k f g i)).set i ((f.getD i 0 + k * g.getD i 0) % p) = tab N (sumH p k f g (i + 1)) := by
  rw [tab_set]
  apply tab_congr
  intro j _
  unfold sumH
  by_cases e : j = i
  · subst e; simp
  · rw [if_neg e]
    by_cases h : j < i
    · rw [if_pos h, if_pos (by omega)]
    · rw [if_neg h, if_neg (by omega)]
theorem getD_rng {p : Int} {f : List Int} (h : areB p f = true) (hp : 2 ≤ p) (j : Nat) : 0 ≤ f.getD j 0 ∧ f.getD j 0 < p := by
  by_cases hj : j < f.length
  · exact areB_at h j hj
  · simp [show f[j]? = none from List.getElem?_eq_none (by omega)]; omega

set_option maxRecDepth 100000 in
set_option maxHeartbeats 1600000 in
theorem addMultiple_any (p k : Int) (a1 : Option Addr) (n1 c1 : Nat) (f : List Int) (a2 : Option Addr) (n2 c2 : Nat) (g : List Int) (w : World) (h1 : SL w a1 n1 c1 f) (h2 : SL w a2 n2 c2 g)
    (b1 : n1 ≤ 1000) (b2 : n2 ≤ 1000) (hp : 2 ≤ p) (hp2 : p ≤ 10007) (hk0 : 0 ≤ k) (hk1 : k < p) (hf : areB p f = true) (hg : areB p g = true) :
    Calls Try.prog 123 #[.int .i64 p, .slice a1 n1 c1, .slice a2 n2 c2, .int .i64 k] w fun e w' => ∃ a' c', e = .returned (.slice a' (addM p f g k).length c') ∧ Own w.heap.size w' a' c' (addM p f g k) ∧ Below w.heap.size w w' := by
  have hl1 := hide h1.len
  have hl2 := hide h2.len
  obtain ⟨N, hN⟩ : ∃ N, max f.length g.length = N := ⟨_, rfl⟩
  have hN1 : n1 ≤ N := by have := hl1.out; omega
  have hN2 : n2 ≤ N := by have := hl2.out; omega
  have hN3 : N ≤ 1000 := by have := hl1.out; have := hl2.out; omega
  have hmax : Hid ((if (n1 : Int) < (n2 : Int) then (n2 : Int) else (n1 : Int)) = (N : Int)) := hide (by have := hl1.out; have := hl2.out; split <;> omega)
  have Hf := hide hf
  have Hg := hide hg
  have HN := hide hN
  have hadd : Hid (addM p f g k = trimL (tab N (sumH p k f g n2))) := hide (by unfold addM; rw [hN, hl2.out])
  clear hf hg hN
  have hc : ∀ x : Int, Hid (x = (N : Int)) → True := fun _ _ => trivial
  by_cases hcmp : (n1 : Int) < (n2 : Int)
  all_goals
    have HN' := Lib.hid (show (if (n1 : Int) < (n2 : Int) then (n2 : Int) else (n1 : Int)) = (N : Int) from hmax.out)
    first
      | rw [if_pos hcmp] at HN'
      | rw [if_neg hcmp] at HN'
    go_enter Try.func123, Try.ntmps123
    go_wp2_with (first | (at_make; refine wp_make rfl _ _ rfl _ _ N rfl rfl HN'.out HN'.out (by omega) ?_; intro w1 hrow hb hsz) | (with_reducible refine wp_copy rfl _ _ rfl w.heap.size _ _ (List.replicate N 0) rfl hrow.out (by simp) _ _ _ f rfl (h1.below hb) (by simp; omega) w.heap.size (Nat.le_refl _) ?_; intro w2 hrow2 hb2))
    have hB2 := hb.trans hb2
    have hs2 : w.heap.size < w2.heap.size := Nat.lt_of_lt_of_le hsz hb2.size
    have hrow3 : RowI w2 w.heap.size (tab N (sumH p k f g 0)) := by
      have := hrow2.out
      rw [pad_tab f n1 N hl1.out hN1] at this
      have e : tab N (sumH p k f g 0) = tab N (fun j => f.getD j 0) := tab_congr (fun j _ => by simp [sumH])
      rwa [e]
    have Hrow3 := hide hrow3
    clear hrow3 hrow2 hrow hb hb2 hsz
    go_loopw [23] (fun i wr => ∃ m : Nat, m ≤ n2 ∧ i = .int .i64 m ∧ Hid (RowI wr w.heap.size (tab N (sumH p k f g m))) ∧ Below w.heap.size w wr ∧ w.heap.size < wr.heap.size) (fun i _ => n2 - (intOf i).toNat)
    case atStart => exact ⟨0, by omega, rfl, Hrow3, hB2, hs2⟩
    case round =>
      obtain ⟨m, hm, rfl, hR, hbr, hsr⟩ := hrel
      clear Hrow3 hB2 hs2
      by_cases hlt : m < n2
      · obtain ⟨b, off, ha, hbw, hcell⟩ := (h2.below hbr).at (by omega)
        subst ha
        have e1 := hcell m hlt
        have e2 := hR.out.cell m (by rw [tab_len]; omega)
        rw [tab_at _ _ _ (by omega), show sumH p k f g m m = f.getD m 0 by simp [sumH]] at e2
        have hfr := hR.out.free m
        have hset := hR.out.set m ((f.getD m 0 + k * g.getD m 0) % p)
        rw [sumH_step] at hset
        have hr1 := getD_rng Hf.out hp m
        have hr2 := getD_rng Hg.out hp m
        obtain ⟨x, hx⟩ : ∃ x, f.getD m 0 = x := ⟨_, rfl⟩
        obtain ⟨y, hy⟩ : ∃ y, g.getD m 0 = y := ⟨_, rfl⟩
        rw [hx] at e2 hset hr1
        rw [hy] at e1 hset hr2
        have Hset := hide hset
        obtain ⟨q1, q2⟩ := mulb hk0 hk1 hr2.1 hr2.2 hp2
        clear hset hcell hx hy
        have hlt' : (m : Int) < (n2 : Int) := by omega
        have hmN : (m : Int) < (N : Int) := by omega
        go_wp2
        go_roundw
        case rel => exact ⟨m + 1, by omega, by go_num, Hset, hbr.setCell (by simp) _, by simpa using hsr⟩
        case measure => simp [intOf]; omega
      · obtain rfl : m = n2 := by omega
        have hsl := hR.out.slN (tab_len _ _)
        have hres : ∀ w', Below wr.heap.size wr w' → Own w.heap.size w' (some ⟨w.heap.size, 0, none⟩) N (addM p f g k) ∧ (addM p f g k).length = trimN (tab N (sumH p k f g m)) N := fun w' hb' => by
          have hr' := hR.out.next hb'
          have hle := trimN_le (tab N (sumH p k f g m)) N
          have e : (addM p f g k).length = trimN (tab N (sumH p k f g m)) N := by rw [hadd.out, trimL_len, tab_len]
          refine ⟨?_, e⟩
          have h3 := hr'.ownT (zs := addM p f g k) (Nat.le_refl _) (by rw [tab_len]; unfold maxLen; omega) (m := trimN (tab N (sumH p k f g m)) N) (by rw [tab_len]; exact hle) (by rw [hadd.out]; unfold trimL; rw [tab_len]) e
          rw [tab_len] at h3
          exact h3
        go_wp2_with (go_at_call 74; refine (trim_any _ _ _ _ _ hsl (by omega)).mono ?_; rintro e w3 ⟨rfl, hb3⟩)
        go_ret
        obtain ⟨ho, hlen⟩ := hres _ hb3
        exact ⟨_, N, by rw [hlen]; rfl, ho, hbr.trans (hb3.mono hbr.size)⟩
theorem still_of {P : Program} {f : FuncId} {args : Array Value} {w : World} {v : Value} (h : Calls P f args w fun e w' => e = .returned v ∧ w = w') : Calls P f args w fun e w' => e = .returned v ∧ w' = w :=
  h.mono fun _ _ hh => ⟨hh.1, hh.2.symm⟩
/-- The first i numbers of f, then zeros. -/
def cpH (f : List Int) (i : Nat) : Nat → Int := fun j => if j < i then f.getD j 0 else 0
theorem cpH_step (f : List Int) (N i : Nat) : (tab N (cpH f i)).set i (f.getD i 0) = tab N (cpH f (i + 1)) := by
  rw [tab_set]
  apply tab_congr
  intro j _
  unfold cpH
  by_cases e : j = i
  · subst e; simp
  · rw [if_neg e]
    by_cases h : j < i
    · rw [if_pos h, if_pos (by omega)]
    · rw [if_neg h, if_neg (by omega)]
set_option maxRecDepth 100000 in
set_option maxHeartbeats 1600000 in
theorem l01Add_any (p k : Int) (a1 : Option Addr) (n1 c1 : Nat) (f : List Int) (a2 : Option Addr) (n2 c2 : Nat) (g : List Int) (w : World) (h1 : SL w a1 n1 c1 f) (h2 : SL w a2 n2 c2 g)
    (b1 : n1 ≤ 1000) (b2 : n2 ≤ 1000) (hp : 2 ≤ p) (hp2 : p ≤ 10007) (hk0 : 0 ≤ k) (hk1 : k < p) (hf : areB p f = true) (hg : areB p g = true) :
    Calls Try.prog 84 #[.int .i64 p, .slice a1 n1 c1, .slice a2 n2 c2, .int .i64 k] w fun e w' => ∃ a' c', e = .returned (.slice a' (addM p f g k).length c') ∧ Own w.heap.size w' a' c' (addM p f g k) ∧ Below w.heap.size w w' := by
  have hl1 := hide h1.len
  have hl2 := hide h2.len
  obtain ⟨N, hN⟩ : ∃ N, max f.length g.length = N := ⟨_, rfl⟩
  have hN1 : n1 ≤ N := by have := hl1.out; omega
  have hN2 : n2 ≤ N := by have := hl2.out; omega
  have hN3 : N ≤ 1000 := by have := hl1.out; have := hl2.out; omega
  have hmax : Hid ((if (n1 : Int) < (n2 : Int) then (n2 : Int) else (n1 : Int)) = (N : Int)) := hide (by have := hl1.out; have := hl2.out; split <;> omega)
  have Hf := hide hf
  have Hg := hide hg
  have HN := hide hN
  have hadd : Hid (addM p f g k = trimL (tab N (sumH p k f g n2))) := hide (by unfold addM; rw [hN, hl2.out])
  clear hf hg hN
  by_cases hcmp : (n1 : Int) < (n2 : Int)
  all_goals
    have HN' := Lib.hid (show (if (n1 : Int) < (n2 : Int) then (n2 : Int) else (n1 : Int)) = (N : Int) from hmax.out)
    first
      | rw [if_pos hcmp] at HN'
      | rw [if_neg hcmp] at HN'
    go_enter Try.func84, Try.ntmps84
    go_wp2_with (first | (at_make; refine wp_make rfl _ _ rfl _ _ N rfl rfl HN'.out HN'.out (by omega) ?_; intro w1 hrow hb hsz))
    have hrow2 : Hid (RowI w1 w.heap.size (tab N (cpH f 0))) := hide (by
      have := hrow.out
      rw [tab_zero] at this
      have e : tab N (cpH f 0) = tab N (fun _ => 0) := tab_congr (fun j _ => by simp [cpH])
      rwa [e])
    clear hrow
    go_loopw [10] (fun i wr => ∃ m : Nat, m ≤ n1 ∧ i = .int .i64 m ∧ Hid (RowI wr w.heap.size (tab N (cpH f m))) ∧ Below w.heap.size w wr ∧ w.heap.size < wr.heap.size) (fun i _ => n1 - (intOf i).toNat)
    case atStart => exact ⟨0, by omega, rfl, hrow2, hb, hsz⟩
    case round =>
      obtain ⟨m, hm, rfl, hR, hbr, hsr⟩ := hrel
      clear hrow2 hb hsz
      by_cases hlt : m < n1
      · obtain ⟨b, off, ha, hbw, hcell⟩ := (h1.below hbr).at (by omega)
        subst ha
        have e1 := hcell m hlt
        have e2 := hR.out.cell m (by rw [tab_len]; omega)
        have hfr := hR.out.free m
        have hset := hR.out.set m (f.getD m 0)
        rw [cpH_step] at hset
        obtain ⟨x, hx⟩ : ∃ x, f.getD m 0 = x := ⟨_, rfl⟩
        rw [hx] at e1 hset
        have Hset := hide hset
        clear hset hcell hx
        have hlt' : (m : Int) < (n1 : Int) := by omega
        have hmN : (m : Int) < (N : Int) := by omega
        go_wp2
        go_roundw
        case rel => exact ⟨m + 1, by omega, by go_num, Hset, hbr.setCell (by simp) _, by simpa using hsr⟩
        case measure => simp [intOf]; omega
      · obtain rfl : m = n1 := by omega
        have hrow3 : Hid (RowI wr w.heap.size (tab N (sumH p k f g 0))) := hide (by
          have := hR.out
          have e : tab N (sumH p k f g 0) = tab N (cpH f m) := tab_congr (fun j _ => by
            simp only [sumH, cpH, Nat.not_lt_zero, if_false]
            by_cases h : j < m
            · rw [if_pos h]
            · rw [if_neg h]; simp [show f[j]? = none from List.getElem?_eq_none (by have := hl1.out; omega)])
          rwa [e])
        clear hR
        go_wp2
        obtain ⟨wo, hwo⟩ : ∃ wo : World, wo = wr := ⟨_, rfl⟩
        subst hwo
        go_loopw [11] (fun i wr => ∃ m : Nat, m ≤ n2 ∧ i = .int .i64 m ∧ Hid (RowI wr w.heap.size (tab N (sumH p k f g m))) ∧ Below w.heap.size w wr ∧ w.heap.size < wr.heap.size) (fun i _ => n2 - (intOf i).toNat)
        case atStart => exact ⟨0, by omega, rfl, hrow3, hbr, hsr⟩
        case round =>
          obtain ⟨m, hm, rfl, hR, hbr, hsr⟩ := hrel
          clear hrow3
          by_cases hlt : m < n2
          · obtain ⟨b, off, ha, hbw, hcell⟩ := (h2.below hbr).at (by omega)
            subst ha
            have e1 := hcell m hlt
            have e2 := hR.out.cell m (by rw [tab_len]; omega)
            rw [tab_at _ _ _ (by omega), show sumH p k f g m m = f.getD m 0 by simp [sumH]] at e2
            have hfr := hR.out.free m
            have hset := hR.out.set m ((f.getD m 0 + k * g.getD m 0) % p)
            rw [sumH_step] at hset
            have hr1 := getD_rng Hf.out hp m
            have hr2 := getD_rng Hg.out hp m
            obtain ⟨x, hx⟩ : ∃ x, f.getD m 0 = x := ⟨_, rfl⟩
            obtain ⟨y, hy⟩ : ∃ y, g.getD m 0 = y := ⟨_, rfl⟩
            rw [hx] at e2 hset hr1
            rw [hy] at e1 hset hr2
            have Hset := hide hset
            obtain ⟨q1, q2⟩ := mulb hk0 hk1 hr2.1 hr2.2 hp2
            clear hset hcell hx hy
            have hlt' : (m : Int) < (n2 : Int) := by omega
            have hmN : (m : Int) < (N : Int) := by omega
            have bb1 : -9223372036854775808 ≤ x + k * y := by omega
            have bb2 : x + k * y ≤ 9223372036854775807 := by omega
            have w1 : IntKind.i64.wrap (k * y) = k * y := IntWalk.i64_in _ (by omega)
            have w2 : IntKind.i64.wrap (x + k * y) = x + k * y := IntWalk.i64_in _ (by omega)
            go_wp2
            refine wp_region_still_tail 16 (by kernel_rfl) (by kernel_rfl) ?_
            simp only [List.take_succ_cons, List.take_zero, List.drop_succ_cons, List.drop_zero]
            repeat still_step
            still_call (still_of (l01Mod_any p (x + k * y) _ hp hp2 bb1 bb2))
            repeat still_step
            refine wpStill_nil ?_
            clear w1 w2 bb1 bb2
            go_wp2
            go_roundw
            case rel => exact ⟨m + 1, by omega, by go_num, Hset, (hbr.setCell (by simp) _).drew, by simpa using hsr⟩
            case measure => simp [intOf]; omega
          · obtain rfl : m = n2 := by omega
            have hsl := hR.out.slN (tab_len _ _)
            have hlen : (addM p f g k).length = (trimL (tab N (sumH p k f g m))).length := by rw [hadd.out]
            have Hlen := hide hlen
            have Hadd := hadd
            clear hlen
            go_wp2_with (go_at_call 66; refine (l01Trim_any _ _ _ _ _ _ hsl (by omega)).mono ?_; rintro e w3 ⟨a', c', rfl, hown, hb3⟩)
            go_ret
            refine ⟨a', c', by rw [Hlen.out]; rfl, ?_, hbr.trans (hb3.mono hbr.size)⟩
            rw [hadd.out]
            exact hown.mono (by omega)
end Go.Proofs.Ytkpmonopjkjflaa
