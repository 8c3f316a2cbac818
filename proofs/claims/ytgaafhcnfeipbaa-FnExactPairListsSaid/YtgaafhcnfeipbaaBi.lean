/- Contracts: sumOfProducts (program); PairLists (program, model). -/
import Derived.Test.YtgaafhcnfeipbaaBb
import Derived.Test.YtgaafhcnfeipbaaBd
namespace Go.Proofs.Ytgaafhcnfeipbaa
open Go.RowKit
set_option linter.unusedVariables false
set_option linter.unusedSimpArgs false

/-- the sum of the first products -/
def prS (p : Int) (nr f g : List Int) : Nat → Int
  | 0 => 0
  | k + 1 => (prS p nr f g k + nr.getD k 0 * f.getD k 0 % p * g.getD k 0 % p) % p
theorem prS_rng {p : Int} (hp : 2 ≤ p) (nr f g : List Int) : ∀ k, 0 ≤ prS p nr f g k ∧ prS p nr f g k < p
  | 0 => by unfold prS; omega
  | k + 1 => modb hp
theorem pr_eq (p s x y z : Int) : (s + x * y % p * z) % p = (s + z * x % p * y % p) % p := by
  have e1 : (s + x * y % p * z) % p = (s + x * y * z) % p := by
    rw [Int.add_emod, Int.mul_emod, Int.emod_emod, ← Int.mul_emod, ← Int.add_emod]
  have e2 : (s + z * x % p * y % p) % p = (s + z * x * y) % p := by
    rw [Int.add_emod, Int.emod_emod, Int.mul_emod (z * x % p), Int.emod_emod, ← Int.mul_emod, ← Int.add_emod]
  rw [e1, e2, Int.mul_comm z x, Int.mul_assoc, Int.mul_assoc, Int.mul_comm z y]
def ls2C (p : Int) (xs ys : List Int) (most : Int) (f g : List Int) : Int := if jacB p xs ys then (if okR p most f && okR p most g then 0 else 2) else 1
def plC (p : Int) (xs ys f g : List Int) : Int := ls2C p xs ys (xs.length : Int) f g
def plV (p : Int) (xs ys f g : List Int) : Int := if plC p xs ys f g = 0 then prS p (nrmL p ys) f g (min f.length g.length) else 0
theorem Lists.two {w : World} {g : Nat} {f1 h1 : Option Addr} {q1 c1 q2 c2 : Nat} {f h : List Int} (e0 : w.cell? ⟨g, 0, none⟩ = some (.slice f1 q1 c1)) (e1 : w.cell? ⟨g, 1, none⟩ = some (.slice h1 q2 c2)) (hf : SL w f1 q1 c1 f) (hh : SL w h1 q2 c2 h) (hq1 : q1 ≤ 4000000) (hq2 : q2 ≤ 4000000) : Lists w g 2 (fun j => if j = 0 then f1 else h1) (fun j => if j = 0 then q1 else q2) (fun j => if j = 0 then c1 else c2) (fun j => if j = 0 then f else h) := by
  intro j hj
  by_cases e : j = 0
  · subst e; exact ⟨e0, hf, hq1⟩
  · have : j = 1 := by omega
    subst this; exact ⟨e1, hh, hq2⟩
theorem checkLists_two (p : Int) (a : Option Addr) (n c : Nat) (xs : List Int) (b : Option Addr) (m d : Nat) (ys : List Int) (most : Int) (g cc : Nat) (f1 : Option Addr) (q1 c1 : Nat) (f : List Int) (h1 : Option Addr) (q2 c2 : Nat) (h : List Int) (C : Int) (w : World) (hs : SL w a n c xs) (ht : SL w b m d ys) (e0 : w.cell? ⟨g, 0, none⟩ = some (.slice f1 q1 c1)) (e1 : w.cell? ⟨g, 1, none⟩ = some (.slice h1 q2 c2)) (hf : SL w f1 q1 c1 f) (hh : SL w h1 q2 c2 h) (hn : n ≤ 4000000) (hm : m ≤ 4000000) (hq1 : q1 ≤ 4000000) (hq2 : q2 ≤ 4000000) (hC : ls2C p xs ys most f h = C) :
    Calls Try.prog 57 #[jac p a n c b m d, .int .i64 most, .slice (some ⟨g, 0, none⟩) 2 cc] w fun e w' => e = .returned (.int .i64 C) ∧ Below w.heap.size w w' := by
  have t := checkLists_any p a n c xs b m d ys most g 2 cc _ _ _ _ w hs ht (Lists.two e0 e1 hf hh hq1 hq2) (by omega) hn hm
  rw [show chlC p xs ys most (fun j => if j = 0 then f else h) 2 = C by rw [← hC]; unfold chlC ls2C; simp [chlB]] at t
  exact t
set_option maxRecDepth 100000 in
set_option maxHeartbeats 1600000 in
theorem sumOfProducts_any (p : Int) (r1 : Option Addr) (N cr : Nat) (nr : List Int) (g cc : Nat) (f1 : Option Addr) (q1 c1 : Nat) (f : List Int) (h1 : Option Addr) (q2 c2 : Nat) (h : List Int) (w : World) (hr : SL w r1 N cr nr) (e0 : w.cell? ⟨g, 0, none⟩ = some (.slice f1 q1 c1)) (e1 : w.cell? ⟨g, 1, none⟩ = some (.slice h1 q2 c2)) (hf : SL w f1 q1 c1 f) (hh : SL w h1 q2 c2 h) (hN : N ≤ 1000) (hq1 : q1 ≤ N) (hq2 : q2 ≤ N) (hp : 2 ≤ p) (hp2 : p ≤ 10007) (hra : areB p nr = true) (hfa : areB p f = true) (hha : areB p h = true) :
    Calls Try.prog 59 #[.int .i64 p, .slice r1 N cr, .slice (some ⟨g, 0, none⟩) 2 cc] w fun e w' => e = .returned (.int .i64 (prS p nr f h (min q1 q2))) ∧ w = w' := by
  have HR := hide hra
  have HF := hide hfa
  have HH := hide hha
  have hp0 : ¬ p = 0 := by omega
  clear hra hfa hha
  go_enter Try.func59, Try.ntmps59
  go_wp2
  go_step3
  go_wp2
  try go_step3
  try go_wp2
  go_loop [7, 14] (fun lv iv => ∃ (t : Nat) (L : Int), t ≤ N ∧ iv = .int .i64 t ∧ lv = .int .i64 L ∧ Hid (prS p nr f h (min t (min q1 q2)) = L)) (fun _ iv => N - (intOf iv).toNat)
  case atStart => exact ⟨0, 0, by omega, rfl, rfl, hide (by rw [Nat.zero_min]; rfl)⟩
  case round =>
    obtain ⟨t, L, htN, rfl, rfl, hL⟩ := hrel
    by_cases hlt : t < N
    · have hlt' : (t : Int) < (N : Int) := by omega
      obtain ⟨br, orr, rfl, _, hcr⟩ := hr.at (by omega)
      have er := hcr t hlt
      have rr := getD_rng HR.out hp t
      obtain ⟨z, hz⟩ : ∃ z, nr.getD t 0 = z := ⟨_, rfl⟩
      rw [hz] at er rr
      have Hz := hide hz
      have rL := prS_rng hp nr f h (min t (min q1 q2))
      rw [hL.out] at rL
      clear hcr hz
      by_cases hA : q1 ≤ t
      · have hA' : (q1 : Int) ≤ (t : Int) := by omega
        have hLn := hide (show prS p nr f h (min (t + 1) (min q1 q2)) = L by rw [← hL.out]; congr 1; omega)
        go_wp2
        refine wp_loop_rounds 3 ?_
        rw [rounds_succ]
        go_wp2
        go_round
        case rel => exact ⟨t + 1, L, by omega, by go_num, rfl, hLn⟩
        case measure => simp [intOf]; omega
      · have hA' : ¬ (q1 : Int) ≤ (t : Int) := by omega
        have hA2 : (t : Int) < (q1 : Int) := by omega
        obtain ⟨bf, of, rfl, _, hcf⟩ := hf.at (by omega)
        have ef := hcf t (by omega)
        have rf := getD_rng HF.out hp t
        obtain ⟨x, hx⟩ : ∃ x, f.getD t 0 = x := ⟨_, rfl⟩
        rw [hx] at ef rf
        have Hx := hide hx
        obtain ⟨m1, m2⟩ := mulb rr.1 rr.2 rf.1 rf.2 hp2
        have v1 : IntKind.i64.wrap (z * x) = z * x := IntWalk.i64_in _ (by omega)
        have v2 : (z * x).tmod p = z * x % p := Int.tmod_eq_emod_of_nonneg m1
        obtain ⟨r, hr'⟩ : ∃ r, z * x % p = r := ⟨_, rfl⟩
        have rr' := modb (x := z * x) hp
        rw [hr'] at v2 rr'
        have Hr' := hide hr'
        clear hcf hx hr'
        by_cases hB : q2 ≤ t
        · have hB' : (q2 : Int) ≤ (t : Int) := by omega
          have hLn := hide (show prS p nr f h (min (t + 1) (min q1 q2)) = L by rw [← hL.out]; congr 1; omega)
          go_wp2
          refine wp_loop_rounds 3 ?_
          rw [rounds_succ]
          go_wp2
          rw [rounds_succ]
          go_wp2
          go_round
          case rel => exact ⟨t + 1, L, by omega, by go_num, rfl, hLn⟩
          case measure => simp [intOf]; omega
        · have hB' : ¬ (q2 : Int) ≤ (t : Int) := by omega
          have hB2 : (t : Int) < (q2 : Int) := by omega
          obtain ⟨bh, oh, rfl, _, hch⟩ := hh.at (by omega)
          have eh := hch t (by omega)
          have rh := getD_rng HH.out hp t
          obtain ⟨y, hy⟩ : ∃ y, h.getD t 0 = y := ⟨_, rfl⟩
          rw [hy] at eh rh
          have Hy := hide hy
          obtain ⟨m3, m4⟩ := mulb rr'.1 rr'.2 rh.1 rh.2 hp2
          have v3 : IntKind.i64.wrap (r * y) = r * y := IntWalk.i64_in _ (by omega)
          have v4 : (r * y).tmod p = r * y % p := Int.tmod_eq_emod_of_nonneg m3
          have ru := modb (x := r * y) hp
          obtain ⟨u, hu⟩ : ∃ u, r * y % p = u := ⟨_, rfl⟩
          rw [hu] at v4 ru
          have v5 : IntKind.i64.wrap (L + u) = L + u := IntWalk.i64_in _ (by omega)
          have v6 : (L + u).tmod p = (L + u) % p := Int.tmod_eq_emod_of_nonneg (by omega)
          have hLn := hide (show prS p nr f h (min (t + 1) (min q1 q2)) = (L + u) % p by
            rw [Nat.min_eq_left (by omega)]
            have q := hL.out
            rw [Nat.min_eq_left (by omega)] at q
            unfold prS
            rw [q, Hz.out, Hx.out, Hr'.out, Hy.out, hu])
          obtain ⟨L', hL'⟩ : ∃ L', (L + u) % p = L' := ⟨_, rfl⟩
          rw [hL'] at v6 hLn
          clear hch hy hu hL'
          go_wp2
          refine wp_loop_rounds 3 ?_
          rw [rounds_succ]
          go_wp2
          rw [rounds_succ]
          go_wp2
          rw [rounds_succ]
          go_wp2
          go_round
          case rel => exact ⟨t + 1, L', by omega, by go_num, rfl, hLn⟩
          case measure => simp [intOf]; omega
    · have htN2 : Hid (t = N) := hide (by omega)
      have hge : ¬ (t : Int) < (N : Int) := by omega
      go_wp2
      go_ret
      exact ⟨ret_int (by rw [← hL.out, htN2.out, Nat.min_eq_right (by omega)]), rfl⟩
theorem ls2C_cases (p : Int) (xs ys : List Int) (most : Int) (f g : List Int) : ls2C p xs ys most f g = 1 ∨ ls2C p xs ys most f g = 2 ∨ (ls2C p xs ys most f g = 0 ∧ jacB p xs ys = true ∧ ((f.length : Int) ≤ most ∧ areB p f = true) ∧ (g.length : Int) ≤ most ∧ areB p g = true) := by
  unfold ls2C
  cases jacB p xs ys
  · exact .inl rfl
  · cases h : okR p most f && okR p most g
    · exact .inr (.inl rfl)
    · refine .inr (.inr ⟨rfl, rfl, ?_⟩)
      unfold okR at h
      simpa [and_assoc] using h
theorem nrmL_are {p : Int} (hp : 2 ≤ p) (ys : List Int) : areB p (nrmL p ys) = true := areB_mk fun j hj => by
  rw [nrmL_len] at hj
  unfold nrmL
  rw [tab_at _ _ _ hj]
  exact nrmK_rng hp ys (j + 1)
set_option maxRecDepth 100000 in
set_option maxHeartbeats 1600000 in
theorem implPairLists (p : Int) (a : Option Addr) (n c : Nat) (xs : List Int) (b : Option Addr) (m d : Nat) (ys : List Int) (f1 : Option Addr) (q1 c1 : Nat) (f : List Int) (h1 : Option Addr) (q2 c2 : Nat) (h : List Int) (w : World) (hs : SL w a n c xs) (ht : SL w b m d ys) (hf : SL w f1 q1 c1 f) (hh : SL w h1 q2 c2 h) (hn : n ≤ 4000000) (hm : m ≤ 4000000) (hq : q1 ≤ 4000000) (hq2 : q2 ≤ 4000000) :
    Calls Try.prog 27 #[jac p a n c b m d, .slice f1 q1 c1, .slice h1 q2 c2] w (fun e w' => e = .returned (.tuple #[.int .i64 (plV p xs ys f h), .int .i64 (plC p xs ys f h)]) ∧ Below w.heap.size w w') := by
  have hl := hide hs.len
  have hl2 := hide ht.len
  have hl3 := hide hf.len
  have hb0 := bl1 w (.cells #[.int .i64 p, .slice a n c, .slice b m d] 24)
  have e0 : (w.alloc (.cells #[.int .i64 p, .slice a n c, .slice b m d] 24)).cell? ⟨w.heap.size, 0, none⟩ = some (.int .i64 p) := by simp [go_sem]
  have e1 : (w.alloc (.cells #[.int .i64 p, .slice a n c, .slice b m d] 24)).cell? ⟨w.heap.size, 1, none⟩ = some (.slice a n c) := by simp [go_sem]
  have e2 : (w.alloc (.cells #[.int .i64 p, .slice a n c, .slice b m d] 24)).cell? ⟨w.heap.size, 2, none⟩ = some (.slice b m d) := by simp [go_sem]
  have g1 := hs.below hb0
  have g2 := ht.below hb0
  have g3 := hf.below hb0
  have g4 := hh.below hb0
  have hl4 := hide hh.len
  have zx : w.heap.size + 1 = (w.alloc (.cells #[.int .i64 p, .slice a n c, .slice b m d] 24)).heap.size := by simp
  rcases ls2C_cases p xs ys (xs.length : Int) f h with hc | hc | ⟨hc, hj, ⟨hle, hfa⟩, hle2, hha⟩
  · have HC := hide (show plC p xs ys f h = 1 from hc)
    have HV := hide (show plV p xs ys f h = 0 by unfold plV; rw [HC.out]; rfl)
    have HL := hide (show ls2C p xs ys (n : Int) f h = 1 by rw [← hl.out]; exact hc)
    clear hc
    go_enter Try.func27, Try.ntmps27
    go_upto_region 1 with fail
    generalize (w.alloc (.cells #[.int .i64 p, .slice a n c, .slice b m d] 24)) = wx at *
    have hd0 := (Below.refl wx.heap.size wx).drew
    have hd1 : Below wx.heap.size wx (wx.alloc (.cells #[.slice f1 q1 c1, .slice h1 q2 c2] 22)).drew := (bl1 wx _).drew
    have F : ∀ w', Below wx.heap.size wx w' → w'.cell? ⟨w.heap.size, 0, none⟩ = some (.int .i64 p) ∧ w'.cell? ⟨w.heap.size, 1, none⟩ = some (.slice a n c) ∧ w'.cell? ⟨w.heap.size, 2, none⟩ = some (.slice b m d) := fun w' h => ⟨cell_be h e0, cell_be h e1, cell_be h e2⟩
    go_region_held3 (fun w' => w'.cell? ⟨w.heap.size, 0, none⟩ = some (.int .i64 p) ∧ w'.cell? ⟨w.heap.size, 1, none⟩ = some (.slice a n c) ∧ w'.cell? ⟨w.heap.size, 2, none⟩ = some (.slice b m d))
      (first | exact F _ (by assumption) | exact F _ (hm1.alloc (by have := hm1.size; simp at this ⊢; omega) _))
      (first
      | (go_at_call 58; refine (sizeOf_any _ _ _ _ _ _ _ _ hn).mono ?_; rintro e w1 ⟨rfl, hb1⟩; have hm1 := bnext hd1 hb1; have x0 := cell_be hb1 (show (wx.alloc (.cells #[.slice f1 q1 c1, .slice h1 q2 c2] 22)).drew.cell? ⟨wx.heap.size, 0, none⟩ = some (.slice f1 q1 c1) by simp [go_sem]); have x1 := cell_be hb1 (show (wx.alloc (.cells #[.slice f1 q1 c1, .slice h1 q2 c2] 22)).drew.cell? ⟨wx.heap.size, 1, none⟩ = some (.slice h1 q2 c2) by simp [go_sem]))
      | (go_at_call 58; refine (sizeOf_any _ _ _ _ _ _ _ _ hn).mono ?_; rintro e w1 ⟨rfl, hb1⟩; have hm1 := bnext hd0 hb1)
      | (go_at_call 57; refine (checkLists_two p a n c xs b m d ys _ _ _ f1 q1 c1 f h1 q2 c2 h 1 _ (g1.below hm1) (g2.below hm1) x0 x1 (g3.below hm1) (g4.below hm1) hn hm hq hq2 HL.out).mono ?_; rintro e w2 ⟨rfl, hb2⟩; have hm2 := bnext hm1 hb2)
      | (go_at_call 57; have hm1a := bnext hm1 (bl1 w1 (.cells #[.slice f1 q1 c1, .slice h1 q2 c2] 22)); refine (checkLists_two p a n c xs b m d ys _ _ _ f1 q1 c1 f h1 q2 c2 h 1 _ (g1.below hm1a) (g2.below hm1a) (by simp [go_sem]) (by simp [go_sem]) (g3.below hm1a) (g4.below hm1a) hn hm hq hq2 HL.out).mono ?_; rintro e w2 ⟨rfl, hb2⟩; have hm2 := bnext hm1a hb2))
    all_goals
      have hB2 := bnext hb0 hm2
      go_wp2
      go_ret2
      exact ⟨by rw [HV.out, HC.out] <;> rfl, hB2⟩
  · have HC := hide (show plC p xs ys f h = 2 from hc)
    have HV := hide (show plV p xs ys f h = 0 by unfold plV; rw [HC.out]; rfl)
    have HL := hide (show ls2C p xs ys (n : Int) f h = 2 by rw [← hl.out]; exact hc)
    clear hc
    go_enter Try.func27, Try.ntmps27
    go_upto_region 1 with fail
    generalize (w.alloc (.cells #[.int .i64 p, .slice a n c, .slice b m d] 24)) = wx at *
    have hd0 := (Below.refl wx.heap.size wx).drew
    have hd1 : Below wx.heap.size wx (wx.alloc (.cells #[.slice f1 q1 c1, .slice h1 q2 c2] 22)).drew := (bl1 wx _).drew
    have F : ∀ w', Below wx.heap.size wx w' → w'.cell? ⟨w.heap.size, 0, none⟩ = some (.int .i64 p) ∧ w'.cell? ⟨w.heap.size, 1, none⟩ = some (.slice a n c) ∧ w'.cell? ⟨w.heap.size, 2, none⟩ = some (.slice b m d) := fun w' h => ⟨cell_be h e0, cell_be h e1, cell_be h e2⟩
    go_region_held3 (fun w' => w'.cell? ⟨w.heap.size, 0, none⟩ = some (.int .i64 p) ∧ w'.cell? ⟨w.heap.size, 1, none⟩ = some (.slice a n c) ∧ w'.cell? ⟨w.heap.size, 2, none⟩ = some (.slice b m d))
      (first | exact F _ (by assumption) | exact F _ (hm1.alloc (by have := hm1.size; simp at this ⊢; omega) _))
      (first
      | (go_at_call 58; refine (sizeOf_any _ _ _ _ _ _ _ _ hn).mono ?_; rintro e w1 ⟨rfl, hb1⟩; have hm1 := bnext hd1 hb1; have x0 := cell_be hb1 (show (wx.alloc (.cells #[.slice f1 q1 c1, .slice h1 q2 c2] 22)).drew.cell? ⟨wx.heap.size, 0, none⟩ = some (.slice f1 q1 c1) by simp [go_sem]); have x1 := cell_be hb1 (show (wx.alloc (.cells #[.slice f1 q1 c1, .slice h1 q2 c2] 22)).drew.cell? ⟨wx.heap.size, 1, none⟩ = some (.slice h1 q2 c2) by simp [go_sem]))
      | (go_at_call 58; refine (sizeOf_any _ _ _ _ _ _ _ _ hn).mono ?_; rintro e w1 ⟨rfl, hb1⟩; have hm1 := bnext hd0 hb1)
      | (go_at_call 57; refine (checkLists_two p a n c xs b m d ys _ _ _ f1 q1 c1 f h1 q2 c2 h 2 _ (g1.below hm1) (g2.below hm1) x0 x1 (g3.below hm1) (g4.below hm1) hn hm hq hq2 HL.out).mono ?_; rintro e w2 ⟨rfl, hb2⟩; have hm2 := bnext hm1 hb2)
      | (go_at_call 57; have hm1a := bnext hm1 (bl1 w1 (.cells #[.slice f1 q1 c1, .slice h1 q2 c2] 22)); refine (checkLists_two p a n c xs b m d ys _ _ _ f1 q1 c1 f h1 q2 c2 h 2 _ (g1.below hm1a) (g2.below hm1a) (by simp [go_sem]) (by simp [go_sem]) (g3.below hm1a) (g4.below hm1a) hn hm hq hq2 HL.out).mono ?_; rintro e w2 ⟨rfl, hb2⟩; have hm2 := bnext hm1a hb2))
    all_goals
      have hB2 := bnext hb0 hm2
      go_wp2
      go_ret2
      exact ⟨by rw [HV.out, HC.out] <;> rfl, hB2⟩
  · obtain ⟨hpr, n1, n2, n3, hx, hy⟩ := jacB_rng hj
    obtain ⟨hp, hp2⟩ := primeB_lo hpr
    have HJ := hide hj
    have HY := hide (posB_are hy)
    have HFA := hide hfa
    have HHA := hide hha
    rw [hl.out] at n1 n2 n3
    rw [hl2.out] at n3
    subst n3
    rw [hl3.out, hl.out] at hle
    rw [hl4.out, hl.out] at hle2
    have HC := hide (show plC p xs ys f h = 0 from hc)
    have HV := hide (show plV p xs ys f h = prS p (nrmL p ys) f h (min q1 q2) by unfold plV; rw [if_pos HC.out, hl3.out, hl4.out])
    have HLS := hide (show ls2C p xs ys (xs.length : Int) f h = 0 from hc)
    have HL := hide (show ls2C p xs ys (m : Int) f h = 0 by rw [← hl.out]; exact hc)
    have HNA := hide (nrmL_are hp ys)
    have hnl := hide (show (nrmL p ys).length = m by rw [nrmL_len, hl2.out])
    clear hc hj hpr hx hy hfa hha
    go_enter Try.func27, Try.ntmps27
    go_upto_region 1 with fail
    generalize (w.alloc (.cells #[.int .i64 p, .slice a m c, .slice b m d] 24)) = wx at *
    have hd0 := (Below.refl wx.heap.size wx).drew
    have hd1 : Below wx.heap.size wx (wx.alloc (.cells #[.slice f1 q1 c1, .slice h1 q2 c2] 22)).drew := (bl1 wx _).drew
    have F : ∀ w', Below wx.heap.size wx w' → w'.cell? ⟨w.heap.size, 0, none⟩ = some (.int .i64 p) ∧ w'.cell? ⟨w.heap.size, 1, none⟩ = some (.slice a m c) ∧ w'.cell? ⟨w.heap.size, 2, none⟩ = some (.slice b m d) := fun w' h => ⟨cell_be h e0, cell_be h e1, cell_be h e2⟩
    go_region_held3 (fun w' => w'.cell? ⟨w.heap.size, 0, none⟩ = some (.int .i64 p) ∧ w'.cell? ⟨w.heap.size, 1, none⟩ = some (.slice a m c) ∧ w'.cell? ⟨w.heap.size, 2, none⟩ = some (.slice b m d))
      (first | exact F _ (by assumption) | exact F _ (hm1.alloc (by have := hm1.size; simp at this ⊢; omega) _))
      (first
      | (go_at_call 58; refine (sizeOf_any _ _ _ _ _ _ _ _ hm).mono ?_; rintro e w1 ⟨rfl, hb1⟩; have hm1 := bnext hd1 hb1; have x0 := cell_be hb1 (show (wx.alloc (.cells #[.slice f1 q1 c1, .slice h1 q2 c2] 22)).drew.cell? ⟨wx.heap.size, 0, none⟩ = some (.slice f1 q1 c1) by simp [go_sem]); have x1 := cell_be hb1 (show (wx.alloc (.cells #[.slice f1 q1 c1, .slice h1 q2 c2] 22)).drew.cell? ⟨wx.heap.size, 1, none⟩ = some (.slice h1 q2 c2) by simp [go_sem]))
      | (go_at_call 58; refine (sizeOf_any _ _ _ _ _ _ _ _ hm).mono ?_; rintro e w1 ⟨rfl, hb1⟩; have hm1 := bnext hd0 hb1)
      | (go_at_call 57; refine (checkLists_two p a m c xs b m d ys _ _ _ f1 q1 c1 f h1 q2 c2 h 0 _ (g1.below hm1) (g2.below hm1) x0 x1 (g3.below hm1) (g4.below hm1) hm hm hq hq2 HL.out).mono ?_; rintro e w2 ⟨rfl, hb2⟩; have hm2 := bnext hm1 hb2)
      | (go_at_call 57; have hm1a := bnext hm1 (bl1 w1 (.cells #[.slice f1 q1 c1, .slice h1 q2 c2] 22)); refine (checkLists_two p a m c xs b m d ys _ _ _ f1 q1 c1 f h1 q2 c2 h 0 _ (g1.below hm1a) (g2.below hm1a) (by simp [go_sem]) (by simp [go_sem]) (g3.below hm1a) (g4.below hm1a) hm hm hq hq2 HL.out).mono ?_; rintro e w2 ⟨rfl, hb2⟩; have hm2 := bnext hm1a hb2))
    all_goals
      have hB2 := bnext hb0 hm2
      obtain ⟨f0, k1, k2⟩ := F _ hm2
      have s1 := g1.below hm2
      have s2 := g2.below hm2
      have s3 := g3.below hm2
      have s4 := g4.below hm2
      clear F hm2 hm1 hd0 hd1 g1 g2 g3 g4 hb0 hb1 hb2 e0 e1 e2
      have hd0 := (Below.refl w2.heap.size w2).drew
      have hd1 : Below w2.heap.size w2 (w2.alloc (.cells #[.slice f1 q1 c1, .slice h1 q2 c2] 22)).drew := (bl1 w2 _).drew
      have F : ∀ w', Below w2.heap.size w2 w' → w'.cell? ⟨w.heap.size, 0, none⟩ = some (.int .i64 p) ∧ w'.cell? ⟨w.heap.size, 1, none⟩ = some (.slice a m c) ∧ w'.cell? ⟨w.heap.size, 2, none⟩ = some (.slice b m d) := fun w' h => ⟨cell_be h f0, cell_be h k1, cell_be h k2⟩
      go_upto_region 4 with fail
      go_region_held3 (fun w' => w'.cell? ⟨w.heap.size, 0, none⟩ = some (.int .i64 p) ∧ w'.cell? ⟨w.heap.size, 1, none⟩ = some (.slice a m c) ∧ w'.cell? ⟨w.heap.size, 2, none⟩ = some (.slice b m d))
        (first | exact F _ (by assumption) | exact F _ (hm5.alloc (by have := hm5.size; simp at this ⊢; omega) _))
        (first
        | (go_at_call 55; refine (squaredNorms_any p a m c b m d ys _ (s2.below hd1) (by omega) hp hp2 HY.out).mono ?_; rintro e w5 ⟨a5, c5, rfl, ho5, hb5⟩; rw [hnl.out]; have so5 := ho5.sl; rw [hnl.out] at so5; have hm5 := bnext hd1 hb5; have y0 := cell_be hb5 (show (w2.alloc (.cells #[.slice f1 q1 c1, .slice h1 q2 c2] 22)).drew.cell? ⟨w2.heap.size, 0, none⟩ = some (.slice f1 q1 c1) by simp [go_sem]); have y1 := cell_be hb5 (show (w2.alloc (.cells #[.slice f1 q1 c1, .slice h1 q2 c2] 22)).drew.cell? ⟨w2.heap.size, 1, none⟩ = some (.slice h1 q2 c2) by simp [go_sem]))
        | (go_at_call 55; refine (squaredNorms_any p a m c b m d ys _ (s2.below hd0) (by omega) hp hp2 HY.out).mono ?_; rintro e w5 ⟨a5, c5, rfl, ho5, hb5⟩; rw [hnl.out]; have so5 := ho5.sl; rw [hnl.out] at so5; have hm5 := bnext hd0 hb5)
        | (go_at_call 59; refine (sumOfProducts_any p a5 m c5 (nrmL p ys) _ _ f1 q1 c1 f h1 q2 c2 h _ so5 y0 y1 (s3.below hm5) (s4.below hm5) (by omega) (by omega) (by omega) hp hp2 HNA.out HFA.out HHA.out).mono ?_; rintro e w6 ⟨rfl, rfl⟩; have hm6 := hm5)
        | (go_at_call 59; have hm5a := bnext hm5 (bl1 w5 (.cells #[.slice f1 q1 c1, .slice h1 q2 c2] 22)); refine (sumOfProducts_any p a5 m c5 (nrmL p ys) _ _ f1 q1 c1 f h1 q2 c2 h _ (so5.below (bl1 w5 (.cells #[.slice f1 q1 c1, .slice h1 q2 c2] 22))) (by simp [go_sem]) (by simp [go_sem]) (s3.below hm5a) (s4.below hm5a) (by omega) (by omega) (by omega) hp hp2 HNA.out HFA.out HHA.out).mono ?_; rintro e w6 ⟨rfl, rfl⟩; have hm6 := hm5a))
      all_goals
        have hB6 := bnext hB2 hm6
        go_wp2
        go_ret2
        exact ⟨by rw [HV.out, HC.out] <;> rfl, hB6⟩
set_option maxRecDepth 100000 in
set_option maxHeartbeats 1600000 in
theorem specPairLists (p : Int) (a : Option Addr) (n c : Nat) (xs : List Int) (b : Option Addr) (m d : Nat) (ys : List Int) (f1 : Option Addr) (q1 c1 : Nat) (f : List Int) (h1 : Option Addr) (q2 c2 : Nat) (h : List Int) (w : World) (hs : SL w a n c xs) (ht : SL w b m d ys) (hf : SL w f1 q1 c1 f) (hh : SL w h1 q2 c2 h) (hn : n ≤ 4000000) (hm : m ≤ 4000000) (hq : q1 ≤ 4000000) (hq2 : q2 ≤ 4000000) :
    Calls Try.prog 25 #[jac p a n c b m d, .slice f1 q1 c1, .slice h1 q2 c2] w (fun e w' => e = .returned (.tuple #[.int .i64 (plV p xs ys f h), .int .i64 (plC p xs ys f h)]) ∧ Below w.heap.size w w') := by
  have hl := hide hs.len
  have hl2 := hide ht.len
  have hl3 := hide hf.len
  have hb0 := bl1 w (.cells #[.int .i64 p, .slice a n c, .slice b m d] 24)
  have e0 : (w.alloc (.cells #[.int .i64 p, .slice a n c, .slice b m d] 24)).cell? ⟨w.heap.size, 0, none⟩ = some (.int .i64 p) := by simp [go_sem]
  have e1 : (w.alloc (.cells #[.int .i64 p, .slice a n c, .slice b m d] 24)).cell? ⟨w.heap.size, 1, none⟩ = some (.slice a n c) := by simp [go_sem]
  have e2 : (w.alloc (.cells #[.int .i64 p, .slice a n c, .slice b m d] 24)).cell? ⟨w.heap.size, 2, none⟩ = some (.slice b m d) := by simp [go_sem]
  have g1 := hs.below hb0
  have g2 := ht.below hb0
  have g3 := hf.below hb0
  have g4 := hh.below hb0
  have hl4 := hide hh.len
  have zx : w.heap.size + 1 = (w.alloc (.cells #[.int .i64 p, .slice a n c, .slice b m d] 24)).heap.size := by simp
  clear zx
  have hbd := (Below.refl (w.alloc (.cells #[.int .i64 p, .slice a n c, .slice b m d] 24)).heap.size (w.alloc (.cells #[.int .i64 p, .slice a n c, .slice b m d] 24))).drew
  have F : ∀ w', Below (w.alloc (.cells #[.int .i64 p, .slice a n c, .slice b m d] 24)).heap.size (w.alloc (.cells #[.int .i64 p, .slice a n c, .slice b m d] 24)) w' → w'.cell? ⟨w.heap.size, 0, none⟩ = some (.int .i64 p) ∧ w'.cell? ⟨w.heap.size, 1, none⟩ = some (.slice a n c) ∧ w'.cell? ⟨w.heap.size, 2, none⟩ = some (.slice b m d) := fun w' h => ⟨cell_be h e0, cell_be h e1, cell_be h e2⟩
  have hcd : ∀ C (f' : List Int), lstC p xs ys (xs.length : Int) f' = C → Hid (lstC p xs ys ((n : Int) + 0) f' = C) := fun C f' h => hide (by rw [← h, hl.out, Int.add_zero])
  cases hj : jacB p xs ys
  · have hc : ls2C p xs ys (xs.length : Int) f h = 1 := by simp [ls2C, hj]
    have HC := hide (show plC p xs ys f h = 1 from hc)
    have HV := hide (show plV p xs ys f h = 0 by unfold plV; rw [HC.out]; rfl)
    have HL1 := hcd 1 f (by simp [lstC, hj])
    have HL2 := hcd 1 h (by simp [lstC, hj])
    clear hc hj hcd
    go_enter Try.func25, Try.ntmps25
    go_upto_region 1 with fail
    go_region_held3 (fun w' => w'.cell? ⟨w.heap.size, 0, none⟩ = some (.int .i64 p) ∧ w'.cell? ⟨w.heap.size, 1, none⟩ = some (.slice a n c) ∧ w'.cell? ⟨w.heap.size, 2, none⟩ = some (.slice b m d))
      (exact F _ (by assumption))
      (first
      | (go_at_call 56; refine (l10List_any p a n c xs b m d ys h1 q2 c2 h 0 1 _ (g1.below hm1) (g2.below hm1) (g4.below hm1) hn hm hq2 (by omega) (by omega) HL2.out).mono ?_; rintro e w2 ⟨rfl, hb2⟩; have hm2 := bnext hm1 hb2)
      | (go_at_call 56; refine (l10List_any p a n c xs b m d ys f1 q1 c1 f 0 1 _ (g1.below hbd) (g2.below hbd) (g3.below hbd) hn hm hq (by omega) (by omega) HL1.out).mono ?_; rintro e w1 ⟨rfl, hb1⟩; have hm1 := bnext hbd hb1))
    have hB2 := bnext hb0 hm2
    go_wp2
    go_ret2
    exact ⟨by rw [HV.out, HC.out] <;> rfl, hB2⟩
  cases hk1 : okR p (xs.length : Int) f
  · have hc : ls2C p xs ys (xs.length : Int) f h = 2 := by simp [ls2C, hj, hk1]
    have HC := hide (show plC p xs ys f h = 2 from hc)
    have HV := hide (show plV p xs ys f h = 0 by unfold plV; rw [HC.out]; rfl)
    have HL1 := hcd 2 f (by simp [lstC, hj, hk1])
    cases hk2 : okR p (xs.length : Int) h
    · have HL2 := hcd 2 h (by simp [lstC, hj, hk2])
      clear hc hj hcd hk1 hk2
      go_enter Try.func25, Try.ntmps25
      go_upto_region 1 with fail
      go_region_held3 (fun w' => w'.cell? ⟨w.heap.size, 0, none⟩ = some (.int .i64 p) ∧ w'.cell? ⟨w.heap.size, 1, none⟩ = some (.slice a n c) ∧ w'.cell? ⟨w.heap.size, 2, none⟩ = some (.slice b m d))
        (exact F _ (by assumption))
        (first
        | (go_at_call 56; refine (l10List_any p a n c xs b m d ys h1 q2 c2 h 0 2 _ (g1.below hm1) (g2.below hm1) (g4.below hm1) hn hm hq2 (by omega) (by omega) HL2.out).mono ?_; rintro e w2 ⟨rfl, hb2⟩; have hm2 := bnext hm1 hb2)
        | (go_at_call 56; refine (l10List_any p a n c xs b m d ys f1 q1 c1 f 0 2 _ (g1.below hbd) (g2.below hbd) (g3.below hbd) hn hm hq (by omega) (by omega) HL1.out).mono ?_; rintro e w1 ⟨rfl, hb1⟩; have hm1 := bnext hbd hb1))
      have hB2 := bnext hb0 hm2
      go_wp2
      go_ret2
      exact ⟨by rw [HV.out, HC.out] <;> rfl, hB2⟩
    · have HL2 := hcd 0 h (by simp [lstC, hj, hk2])
      clear hc hj hcd hk1 hk2
      go_enter Try.func25, Try.ntmps25
      go_upto_region 1 with fail
      go_region_held3 (fun w' => w'.cell? ⟨w.heap.size, 0, none⟩ = some (.int .i64 p) ∧ w'.cell? ⟨w.heap.size, 1, none⟩ = some (.slice a n c) ∧ w'.cell? ⟨w.heap.size, 2, none⟩ = some (.slice b m d))
        (exact F _ (by assumption))
        (first
        | (go_at_call 56; refine (l10List_any p a n c xs b m d ys h1 q2 c2 h 0 0 _ (g1.below hm1) (g2.below hm1) (g4.below hm1) hn hm hq2 (by omega) (by omega) HL2.out).mono ?_; rintro e w2 ⟨rfl, hb2⟩; have hm2 := bnext hm1 hb2)
        | (go_at_call 56; refine (l10List_any p a n c xs b m d ys f1 q1 c1 f 0 2 _ (g1.below hbd) (g2.below hbd) (g3.below hbd) hn hm hq (by omega) (by omega) HL1.out).mono ?_; rintro e w1 ⟨rfl, hb1⟩; have hm1 := bnext hbd hb1))
      have hB2 := bnext hb0 hm2
      go_wp2
      go_ret2
      exact ⟨by rw [HV.out, HC.out] <;> rfl, hB2⟩
  cases hk2 : okR p (xs.length : Int) h
  · have hc : ls2C p xs ys (xs.length : Int) f h = 2 := by simp [ls2C, hj, hk2]
    have HC := hide (show plC p xs ys f h = 2 from hc)
    have HV := hide (show plV p xs ys f h = 0 by unfold plV; rw [HC.out]; rfl)
    have HL1 := hcd 0 f (by simp [lstC, hj, hk1])
    have HL2 := hcd 2 h (by simp [lstC, hj, hk2])
    clear hc hj hcd hk1 hk2
    go_enter Try.func25, Try.ntmps25
    go_upto_region 1 with fail
    go_region_held3 (fun w' => w'.cell? ⟨w.heap.size, 0, none⟩ = some (.int .i64 p) ∧ w'.cell? ⟨w.heap.size, 1, none⟩ = some (.slice a n c) ∧ w'.cell? ⟨w.heap.size, 2, none⟩ = some (.slice b m d))
      (exact F _ (by assumption))
      (first
      | (go_at_call 56; refine (l10List_any p a n c xs b m d ys h1 q2 c2 h 0 2 _ (g1.below hm1) (g2.below hm1) (g4.below hm1) hn hm hq2 (by omega) (by omega) HL2.out).mono ?_; rintro e w2 ⟨rfl, hb2⟩; have hm2 := bnext hm1 hb2)
      | (go_at_call 56; refine (l10List_any p a n c xs b m d ys f1 q1 c1 f 0 0 _ (g1.below hbd) (g2.below hbd) (g3.below hbd) hn hm hq (by omega) (by omega) HL1.out).mono ?_; rintro e w1 ⟨rfl, hb1⟩; have hm1 := bnext hbd hb1))
    have hB2 := bnext hb0 hm2
    go_wp2
    go_ret2
    exact ⟨by rw [HV.out, HC.out] <;> rfl, hB2⟩
  have HL1 := hcd 0 f (by simp [lstC, hj, hk1])
  have HL2 := hcd 0 h (by simp [lstC, hj, hk2])
  have hc : ls2C p xs ys (xs.length : Int) f h = 0 := by simp [ls2C, hj, hk1, hk2]
  obtain ⟨hle, hfa⟩ : (f.length : Int) ≤ (xs.length : Int) ∧ areB p f = true := by unfold okR at hk1; simpa using hk1
  obtain ⟨hle2, hha⟩ : (h.length : Int) ≤ (xs.length : Int) ∧ areB p h = true := by unfold okR at hk2; simpa using hk2
  clear hk1 hk2 hcd
  obtain ⟨hpr, n1, n2, n3, hx, hy⟩ := jacB_rng hj
  obtain ⟨hp, hp2⟩ := primeB_lo hpr
  have HJ := hide hj
  have HY := hide (posB_are hy)
  have HFA := hide hfa
  have HHA := hide hha
  rw [hl.out] at n1 n2 n3
  rw [hl2.out] at n3
  subst n3
  rw [hl3.out, hl.out] at hle
  rw [hl4.out, hl.out] at hle2
  have HC := hide (show plC p xs ys f h = 0 from hc)
  have HV := hide (show plV p xs ys f h = prS p (nrmL p ys) f h (min q1 q2) by unfold plV; rw [if_pos HC.out, hl3.out, hl4.out])
  have HLS := hide (show ls2C p xs ys (xs.length : Int) f h = 0 from hc)
  have HL := hide (show ls2C p xs ys (m : Int) f h = 0 by rw [← hl.out]; exact hc)
  have HNA := hide (nrmL_are hp ys)
  have hnl := hide (show (nrmL p ys).length = m by rw [nrmL_len, hl2.out])
  clear hc hj hpr hx hy hfa hha
  go_enter Try.func25, Try.ntmps25
  go_upto_region 1 with fail
  go_region_held3 (fun w' => w'.cell? ⟨w.heap.size, 0, none⟩ = some (.int .i64 p) ∧ w'.cell? ⟨w.heap.size, 1, none⟩ = some (.slice a m c) ∧ w'.cell? ⟨w.heap.size, 2, none⟩ = some (.slice b m d))
    (exact F _ (by assumption))
    (first
    | (go_at_call 56; refine (l10List_any p a m c xs b m d ys h1 q2 c2 h 0 0 _ (g1.below hm1) (g2.below hm1) (g4.below hm1) hm hm hq2 (by omega) (by omega) HL2.out).mono ?_; rintro e w2 ⟨rfl, hb2⟩; have hm2 := bnext hm1 hb2)
    | (go_at_call 56; refine (l10List_any p a m c xs b m d ys f1 q1 c1 f 0 0 _ (g1.below hbd) (g2.below hbd) (g3.below hbd) hm hm hq (by omega) (by omega) HL1.out).mono ?_; rintro e w1 ⟨rfl, hb1⟩; have hm1 := bnext hbd hb1))
  have hB2 := bnext hb0 hm2
  have f0 := (F _ hm2).1
  have k1 := (F _ hm2).2.1
  have k2 := (F _ hm2).2.2
  have s2 := g2.below hm2
  clear F hm2 hm1 hbd g1 g2 g3 g4 hb0 hb1 hb2 e0 e1 e2
  go_wp2_with fail
  refine (l10Norms_any p a m c b m d ys _ s2 (by omega) hp hp2 HY.out).mono ?_
  rintro e w3 ⟨a3, c3, rfl, ho3, t3⟩
  rw [hnl.out]
  have so3 := ho3.sl
  rw [hnl.out] at so3
  have SO := hide so3
  have B3 := hide (bnext hB2 t3)
  have E3 := hide (And.intro (cell_be t3 f0) (And.intro (cell_be t3 k1) (cell_be t3 k2)))
  have hp0 : ¬ p = 0 := by omega
  clear f0 k1 k2 s2 so3 ho3 t3 hB2
  go_wp2
  go_loopw [11, 12] (fun lv iv wr => ∃ (t : Nat) (L : Int), t ≤ min q1 q2 ∧ iv = .int .i64 t ∧ lv = .int .i64 L ∧ Hid (prS p (nrmL p ys) f h t = L) ∧ Hid (SL wr a3 m c3 (nrmL p ys)) ∧ Hid (Below w.heap.size w wr) ∧ Hid (wr.cell? ⟨w.heap.size, 0, none⟩ = some (.int .i64 p) ∧ wr.cell? ⟨w.heap.size, 1, none⟩ = some (.slice a m c) ∧ wr.cell? ⟨w.heap.size, 2, none⟩ = some (.slice b m d))) (fun _ iv _ => min q1 q2 - (intOf iv).toNat)
  case atStart => exact ⟨0, 0, by omega, rfl, rfl, hide rfl, SO, B3, E3⟩
  case round =>
    obtain ⟨t, L, htq, rfl, rfl, hL, hS, hW, hE⟩ := hrel
    clear SO B3 E3
    by_cases hlt : t < min q1 q2
    · have i1 : (t : Int) < (q1 : Int) := by omega
      have i2 : (t : Int) < (q2 : Int) := by omega
      have i3 : (t : Int) < (m : Int) := by omega
      obtain ⟨f0, k1, k2⟩ := hE.out
      obtain ⟨bf, of, rfl, _, hcf⟩ := (hf.below hW.out).at (by omega)
      obtain ⟨bh, oh, rfl, _, hch⟩ := (hh.below hW.out).at (by omega)
      obtain ⟨br, orr, rfl, _, hcr⟩ := hS.out.at (by omega)
      have ef := hcf t (by omega)
      have eh := hch t (by omega)
      have er := hcr t (by omega)
      have rf := getD_rng HFA.out hp t
      have rh := getD_rng HHA.out hp t
      have rr := getD_rng HNA.out hp t
      have rL := prS_rng hp (nrmL p ys) f h t
      rw [hL.out] at rL
      obtain ⟨x, hx⟩ : ∃ x, f.getD t 0 = x := ⟨_, rfl⟩
      obtain ⟨y, hy⟩ : ∃ y, h.getD t 0 = y := ⟨_, rfl⟩
      obtain ⟨z, hz⟩ : ∃ z, (nrmL p ys).getD t 0 = z := ⟨_, rfl⟩
      rw [hx] at ef rf
      rw [hy] at eh rh
      rw [hz] at er rr
      obtain ⟨m1, m2⟩ := mulb rf.1 rf.2 rh.1 rh.2 hp2
      have v1 : IntKind.i64.wrap (x * y) = x * y := IntWalk.i64_in _ (by omega)
      have v2 : (x * y).tmod p = x * y % p := Int.tmod_eq_emod_of_nonneg m1
      have ru := modb (x := x * y) hp
      have hnx := hide (show prS p (nrmL p ys) f h (t + 1) = (L + x * y % p * z) % p by rw [pr_eq]; unfold prS; rw [hL.out, hx, hy, hz])
      obtain ⟨u, hu⟩ : ∃ u, x * y % p = u := ⟨_, rfl⟩
      rw [hu] at v2 ru hnx
      obtain ⟨m3, m4⟩ := mulb ru.1 ru.2 rr.1 rr.2 hp2
      have v3 : IntKind.i64.wrap (u * z) = u * z := IntWalk.i64_in _ (by omega)
      have v4 : IntKind.i64.wrap (L + u * z) = L + u * z := IntWalk.i64_in _ (by omega)
      have v5 : (L + u * z).tmod p = (L + u * z) % p := Int.tmod_eq_emod_of_nonneg (by omega)
      obtain ⟨L', hL'⟩ : ∃ L', (L + u * z) % p = L' := ⟨_, rfl⟩
      rw [hL'] at v5 hnx
      have zw := hW.out.size
      clear hx hy hz hu hL' hcf hch hcr
      go_wp2
      go_quiet (fail)
      have hbq := below_drewN (Below.refl wr.heap.size wr) nq
      obtain ⟨wq, hwq⟩ : ∃ wq, wr.drewN nq = wq := ⟨_, rfl⟩
      rw [hwq] at hbq ⊢
      have hS2 := hide (hS.out.below hbq)
      have hW2 := hide (hW.out.trans (hbq.mono zw))
      have hE2 := hide (And.intro (cell_be hbq f0) (And.intro (cell_be hbq k1) (cell_be hbq k2)))
      clear hwq hbq hS hW hE f0 k1 k2 ef eh er
      go_wp2
      go_roundw
      case rel => exact ⟨t + 1, L', by omega, by go_num, rfl, hnx, hS2, hW2, hE2⟩
      case measure => simp [intOf]; omega
    · have htm : Hid (t = min q1 q2) := hide (by omega)
      by_cases i1 : (t : Int) < (q1 : Int)
      · have i2 : ¬ (t : Int) < (q2 : Int) := by omega
        go_wp2
        go_ret2
        exact ⟨by rw [HV.out, HC.out, ← hL.out, htm.out] <;> rfl, hW.out⟩
      · go_wp2
        go_ret2
        exact ⟨by rw [HV.out, HC.out, ← hL.out, htm.out] <;> rfl, hW.out⟩
end Go.Proofs.Ytgaafhcnfeipbaa
