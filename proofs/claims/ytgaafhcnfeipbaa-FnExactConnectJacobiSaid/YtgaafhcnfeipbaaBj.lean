/- Contracts: ConnectJacobi (program, model). -/
import Derived.Test.YtgaafhcnfeipbaaBg
import Derived.Test.YtgaafhcnfeipbaaUw
namespace Go.Proofs.Ytgaafhcnfeipbaa
open Go.RowKit
set_option linter.unusedVariables false
set_option linter.unusedSimpArgs false

def cjC (p : Int) (xs ys : List Int) (p2 : Int) (us vs : List Int) (k : Int) : Int :=
  if jcd p xs ys k 0 (xs.length : Int) = 1 ∨ jcd p2 us vs k 0 (us.length : Int) = 1 then 1 else if jcd p xs ys k 0 (xs.length : Int) = 2 ∨ jcd p2 us vs k 0 (us.length : Int) = 2 ∨ p ≠ p2 then 2 else 0
def cjV (p : Int) (xs ys : List Int) (p2 : Int) (us vs : List Int) (k : Int) : List Int := if cjC p xs ys p2 us vs k = 0 then expL p2 us vs (polJ p xs ys k.toNat) else []
set_option maxRecDepth 100000 in
set_option maxHeartbeats 3200000 in
theorem implConnectJacobi (p : Int) (a : Option Addr) (n c : Nat) (xs : List Int) (b : Option Addr) (m d : Nat) (ys : List Int) (p2 : Int) (a2 : Option Addr) (n2 c2 : Nat) (us : List Int) (b2 : Option Addr) (m2 d2 : Nat) (vs : List Int) (k : Int) (w : World) (hs : SL w a n c xs) (ht : SL w b m d ys) (hs2 : SL w a2 n2 c2 us) (ht2 : SL w b2 m2 d2 vs) (hn : n ≤ 4000000) (hm : m ≤ 4000000) (hn2 : n2 ≤ 4000000) (hm2 : m2 ≤ 4000000) :
    Calls Try.prog 37 #[jac p a n c b m d, jac p2 a2 n2 c2 b2 m2 d2, .int .i64 k] w (Res1 w (cjV p xs ys p2 us vs k) (cjC p xs ys p2 us vs k)) := by
  have hl := hide hs.len
  have hl2 := hide ht.len
  have hl3 := hide hs2.len
  have hl4 := hide ht2.len
  have hb0 := bl2 w (.cells #[.int .i64 p, .slice a n c, .slice b m d] 24) (.cells #[.int .i64 p2, .slice a2 n2 c2, .slice b2 m2 d2] 24)
  have e0 : ((w.alloc (.cells #[.int .i64 p, .slice a n c, .slice b m d] 24)).alloc (.cells #[.int .i64 p2, .slice a2 n2 c2, .slice b2 m2 d2] 24)).cell? ⟨w.heap.size, 0, none⟩ = some (.int .i64 p) := by simp [go_sem]
  have e1 : ((w.alloc (.cells #[.int .i64 p, .slice a n c, .slice b m d] 24)).alloc (.cells #[.int .i64 p2, .slice a2 n2 c2, .slice b2 m2 d2] 24)).cell? ⟨w.heap.size, 1, none⟩ = some (.slice a n c) := by simp [go_sem]
  have e2 : ((w.alloc (.cells #[.int .i64 p, .slice a n c, .slice b m d] 24)).alloc (.cells #[.int .i64 p2, .slice a2 n2 c2, .slice b2 m2 d2] 24)).cell? ⟨w.heap.size, 2, none⟩ = some (.slice b m d) := by simp [go_sem]
  have e3 : ((w.alloc (.cells #[.int .i64 p, .slice a n c, .slice b m d] 24)).alloc (.cells #[.int .i64 p2, .slice a2 n2 c2, .slice b2 m2 d2] 24)).cell? ⟨w.heap.size + 1, 0, none⟩ = some (.int .i64 p2) := by simp [go_sem]
  have e4 : ((w.alloc (.cells #[.int .i64 p, .slice a n c, .slice b m d] 24)).alloc (.cells #[.int .i64 p2, .slice a2 n2 c2, .slice b2 m2 d2] 24)).cell? ⟨w.heap.size + 1, 1, none⟩ = some (.slice a2 n2 c2) := by simp [go_sem]
  have e5 : ((w.alloc (.cells #[.int .i64 p, .slice a n c, .slice b m d] 24)).alloc (.cells #[.int .i64 p2, .slice a2 n2 c2, .slice b2 m2 d2] 24)).cell? ⟨w.heap.size + 1, 2, none⟩ = some (.slice b2 m2 d2) := by simp [go_sem]
  have g1 := hs.below hb0
  have g2 := ht.below hb0
  have g3 := hs2.below hb0
  have g4 := ht2.below hb0
  cases hj : jacB p xs ys
  · have HC := hide (show cjC p xs ys p2 us vs k = 1 by unfold cjC; rw [if_pos (.inl (by simp [jcd, hj]))])
    have HV := hide (show cjV p xs ys p2 us vs k = [] by unfold cjV; rw [HC.out]; rfl)
    have HJ := hide hj
    clear hj
    go_enter Try.func37, Try.ntmps37
    go_wp2_with fail
    refine (implIsJacobi _ _ _ _ _ _ _ _ _ _ g1 g2 hn hm).mono ?_
    rintro e w1 ⟨rfl, t1⟩
    rw [HJ.out]
    have B1 := bnext hb0 t1
    go_wp2
    go_ret2
    exact Res1.nil HV.out HC.out B1
  cases hj2 : jacB p2 us vs
  · have HC := hide (show cjC p xs ys p2 us vs k = 1 by unfold cjC; rw [if_pos (.inr (by simp [jcd, hj2]))])
    have HV := hide (show cjV p xs ys p2 us vs k = [] by unfold cjV; rw [HC.out]; rfl)
    have HJ := hide hj
    have HJ2 := hide hj2
    clear hj hj2
    go_enter Try.func37, Try.ntmps37
    go_wp2_with fail
    refine (implIsJacobi _ _ _ _ _ _ _ _ _ _ g1 g2 hn hm).mono ?_
    rintro e w1 ⟨rfl, t1⟩
    rw [HJ.out]
    have B1 := bnext hb0 t1
    replace e0 := cell_be t1 e0
    replace e1 := cell_be t1 e1
    replace e2 := cell_be t1 e2
    replace e3 := cell_be t1 e3
    replace e4 := cell_be t1 e4
    replace e5 := cell_be t1 e5
    go_wp2_with fail
    refine (implIsJacobi _ _ _ _ _ _ _ _ _ _ (g3.below t1) (g4.below t1) hn2 hm2).mono ?_
    rintro e w2 ⟨rfl, t2⟩
    rw [HJ2.out]
    have B2 := bnext B1 t2
    replace e0 := cell_be t2 e0
    replace e1 := cell_be t2 e1
    replace e2 := cell_be t2 e2
    replace e3 := cell_be t2 e3
    replace e4 := cell_be t2 e4
    replace e5 := cell_be t2 e5
    go_wp2
    go_ret2
    exact Res1.nil HV.out HC.out B2
  have HJ := hide hj
  have HJ2 := hide hj2
  have k1 : jcd p xs ys k 0 (xs.length : Int) = if 0 ≤ k ∧ k ≤ (n : Int) then 0 else 2 := by unfold jcd; rw [hj, hl.out]; rfl
  have k2 : jcd p2 us vs k 0 (us.length : Int) = if 0 ≤ k ∧ k ≤ (n2 : Int) then 0 else 2 := by unfold jcd; rw [hj2, hl3.out]; rfl
  have HE := hide (show cjC p xs ys p2 us vs k = if ((0 ≤ k ∧ k ≤ (n : Int)) ∧ (0 ≤ k ∧ k ≤ (n2 : Int))) ∧ p = p2 then 0 else 2 by
    unfold cjC
    rw [k1, k2]
    by_cases q1 : 0 ≤ k ∧ k ≤ (n : Int)
    · rw [if_pos q1]
      by_cases q2 : 0 ≤ k ∧ k ≤ (n2 : Int)
      · rw [if_pos q2]
        by_cases q3 : p = p2
        · rw [if_neg (by decide), if_neg (by simp [q3]), if_pos ⟨⟨q1, q2⟩, q3⟩]
        · rw [if_neg (by decide), if_pos (.inr (.inr q3)), if_neg (fun h => q3 h.2)]
      · rw [if_neg q2, if_neg (by decide), if_pos (.inr (.inl rfl)), if_neg (fun h => q2 h.1.2)]
    · rw [if_neg q1]
      by_cases q2 : 0 ≤ k ∧ k ≤ (n2 : Int)
      · rw [if_pos q2, if_neg (by decide), if_pos (.inl rfl), if_neg (fun h => q1 h.1.1)]
      · rw [if_neg q2, if_neg (by decide), if_pos (.inl rfl), if_neg (fun h => q1 h.1.1)])
  obtain ⟨hpr, n1, n12, n3, hx, hy⟩ := jacB_rng hj
  obtain ⟨hpr2, m1, m12, m3, hu, hv⟩ := jacB_rng hj2
  obtain ⟨hp, hpt⟩ := primeB_lo hpr
  rw [hl.out] at n1 n12 n3
  rw [hl2.out] at n3
  rw [hl3.out] at m1 m12 m3
  rw [hl4.out] at m3
  subst n3
  subst m3
  have HPR := hide hpr
  have HX := hide hx
  have HY := hide (posB_are hy)
  have HU := hide hu
  have HVV := hide (posB_are hv)
  clear hj hj2 k1 k2 hpr hpr2 hx hy hu hv
  by_cases hpp : p = p2
  rotate_left
  · have HC := hide (show cjC p xs ys p2 us vs k = 2 by rw [HE.out, if_neg (fun h => hpp h.2)])
    have HV := hide (show cjV p xs ys p2 us vs k = [] by unfold cjV; rw [HC.out]; rfl)
    have hne : (p != p2) = true := by simpa using hpp
    clear HE
    go_enter Try.func37, Try.ntmps37
    go_wp2_with fail
    refine (implIsJacobi _ _ _ _ _ _ _ _ _ _ g1 g2 hm hm).mono ?_
    rintro e w1 ⟨rfl, t1⟩
    rw [HJ.out]
    have B1 := bnext hb0 t1
    replace e0 := cell_be t1 e0
    replace e1 := cell_be t1 e1
    replace e2 := cell_be t1 e2
    replace e3 := cell_be t1 e3
    replace e4 := cell_be t1 e4
    replace e5 := cell_be t1 e5
    go_wp2_with fail
    refine (implIsJacobi _ _ _ _ _ _ _ _ _ _ (g3.below t1) (g4.below t1) hm2 hm2).mono ?_
    rintro e w2 ⟨rfl, t2⟩
    rw [HJ2.out]
    have B2 := bnext B1 t2
    replace e0 := cell_be t2 e0
    replace e1 := cell_be t2 e1
    replace e2 := cell_be t2 e2
    replace e3 := cell_be t2 e3
    replace e4 := cell_be t2 e4
    replace e5 := cell_be t2 e5
    go_upto_region 3 with fail
    go_quiet (fail)
    have hbd := below_drewN (Below.refl w2.heap.size w2) nq
    have B4 := bnext B2 hbd
    go_wp2
    go_ret2
    exact Res1.nil HV.out HC.out B4
  subst hpp
  by_cases hk0 : 0 ≤ k
  rotate_left
  · have HC := hide (show cjC p xs ys p us vs k = 2 by rw [HE.out, if_neg (fun h => hk0 h.1.1.1)])
    have HV := hide (show cjV p xs ys p us vs k = [] by unfold cjV; rw [HC.out]; rfl)
    have hk1 : k < 0 := by omega
    clear HE
    go_enter Try.func37, Try.ntmps37
    go_wp2_with fail
    refine (implIsJacobi _ _ _ _ _ _ _ _ _ _ g1 g2 hm hm).mono ?_
    rintro e w1 ⟨rfl, t1⟩
    rw [HJ.out]
    have B1 := bnext hb0 t1
    replace e0 := cell_be t1 e0
    replace e1 := cell_be t1 e1
    replace e2 := cell_be t1 e2
    replace e3 := cell_be t1 e3
    replace e4 := cell_be t1 e4
    replace e5 := cell_be t1 e5
    go_wp2_with fail
    refine (implIsJacobi _ _ _ _ _ _ _ _ _ _ (g3.below t1) (g4.below t1) hm2 hm2).mono ?_
    rintro e w2 ⟨rfl, t2⟩
    rw [HJ2.out]
    have B2 := bnext B1 t2
    replace e0 := cell_be t2 e0
    replace e1 := cell_be t2 e1
    replace e2 := cell_be t2 e2
    replace e3 := cell_be t2 e3
    replace e4 := cell_be t2 e4
    replace e5 := cell_be t2 e5
    go_upto_region 3 with fail
    go_quiet (fail)
    have hbd := below_drewN (Below.refl w2.heap.size w2) nq
    have B4 := bnext B2 hbd
    go_wp2
    go_ret2
    exact Res1.nil HV.out HC.out B4
  have hk1 : ¬ k < 0 := by omega
  obtain ⟨K, rfl⟩ : ∃ K : Nat, k = K := ⟨k.toNat, by omega⟩
  have lP := polJ_small hp xs ys K
  by_cases hmm : (m : Int) < (m2 : Int)
  · have hmm2 : ¬ (m2 : Int) < (m : Int) := by omega
    have hmm3 : (m : Int) ≤ (m2 : Int) := by omega
    by_cases hle : (K : Int) ≤ (m : Int)
    · have HC := hide (show cjC p xs ys p us vs (K : Int) = 0 by rw [HE.out, if_pos ⟨⟨⟨hk0, by omega⟩, hk0, by omega⟩, rfl⟩])
      have HV := hide (show cjV p xs ys p us vs (K : Int) = expL p us vs (polJ p xs ys K) by unfold cjV; rw [if_pos HC.out]; rfl)
      have lP2 := (lP (by omega)).2
      have hnl : ¬ (m : Int) < (K : Int) := by omega
      clear HE lP
      go_enter Try.func37, Try.ntmps37
      go_wp2_with fail
      refine (implIsJacobi _ _ _ _ _ _ _ _ _ _ g1 g2 hm hm).mono ?_
      rintro e w1 ⟨rfl, t1⟩
      rw [HJ.out]
      have B1 := bnext hb0 t1
      replace e0 := cell_be t1 e0
      replace e1 := cell_be t1 e1
      replace e2 := cell_be t1 e2
      replace e3 := cell_be t1 e3
      replace e4 := cell_be t1 e4
      replace e5 := cell_be t1 e5
      go_wp2_with fail
      refine (implIsJacobi _ _ _ _ _ _ _ _ _ _ (g3.below t1) (g4.below t1) hm2 hm2).mono ?_
      rintro e w2 ⟨rfl, t2⟩
      rw [HJ2.out]
      have B2 := bnext B1 t2
      replace e0 := cell_be t2 e0
      replace e1 := cell_be t2 e1
      replace e2 := cell_be t2 e2
      replace e3 := cell_be t2 e3
      replace e4 := cell_be t2 e4
      replace e5 := cell_be t2 e5
      have s1 := (g1.below t1).below t2
      have s2 := (g2.below t1).below t2
      have s3 := (g3.below t1).below t2
      have s4 := (g4.below t1).below t2
      have hbd := (Below.refl w2.heap.size w2).drew
      have F : ∀ w', Below w2.heap.size w2 w' → w'.cell? ⟨w.heap.size, 0, none⟩ = some (.int .i64 p) ∧ w'.cell? ⟨w.heap.size, 1, none⟩ = some (.slice a m c) ∧ w'.cell? ⟨w.heap.size, 2, none⟩ = some (.slice b m d) ∧ w'.cell? ⟨w.heap.size + 1, 0, none⟩ = some (.int .i64 p) ∧ w'.cell? ⟨w.heap.size + 1, 1, none⟩ = some (.slice a2 m2 c2) ∧ w'.cell? ⟨w.heap.size + 1, 2, none⟩ = some (.slice b2 m2 d2) := fun w' h => ⟨cell_be h e0, cell_be h e1, cell_be h e2, cell_be h e3, cell_be h e4, cell_be h e5⟩
      go_upto_region 3 with fail
      go_region_held3 (fun w' => w'.cell? ⟨w.heap.size, 0, none⟩ = some (.int .i64 p) ∧ w'.cell? ⟨w.heap.size, 1, none⟩ = some (.slice a m c) ∧ w'.cell? ⟨w.heap.size, 2, none⟩ = some (.slice b m d) ∧ w'.cell? ⟨w.heap.size + 1, 0, none⟩ = some (.int .i64 p) ∧ w'.cell? ⟨w.heap.size + 1, 1, none⟩ = some (.slice a2 m2 c2) ∧ w'.cell? ⟨w.heap.size + 1, 2, none⟩ = some (.slice b2 m2 d2))
        (exact F _ (by assumption))
        (first
        | (go_at_call 58; refine (sizeOf_any p a2 m2 c2 b2 m2 d2 _ hm2).mono ?_; rintro e w4 ⟨rfl, t4⟩; have hm4 := bnext hm3 t4)
        | (go_at_call 58; refine (sizeOf_any p a m c b m d _ hm).mono ?_; rintro e w3 ⟨rfl, t3⟩; have hm3 := bnext hbd t3))
      have B4 := bnext B2 hm4
      obtain ⟨f0, f1, f2, f3, f4, f5⟩ := F _ hm4
      have hbd4 := (Below.refl w4.heap.size w4).drew
      have F4 : ∀ w', Below w4.heap.size w4 w' → w'.cell? ⟨w.heap.size, 0, none⟩ = some (.int .i64 p) ∧ w'.cell? ⟨w.heap.size, 1, none⟩ = some (.slice a m c) ∧ w'.cell? ⟨w.heap.size, 2, none⟩ = some (.slice b m d) ∧ w'.cell? ⟨w.heap.size + 1, 0, none⟩ = some (.int .i64 p) ∧ w'.cell? ⟨w.heap.size + 1, 1, none⟩ = some (.slice a2 m2 c2) ∧ w'.cell? ⟨w.heap.size + 1, 2, none⟩ = some (.slice b2 m2 d2) := fun w' h => ⟨cell_be h f0, cell_be h f1, cell_be h f2, cell_be h f3, cell_be h f4, cell_be h f5⟩
      have z4 : w.heap.size + 1 < w4.heap.size := World.block_lt_of_cell? _ _ f3
      have B4d := B4.trans (hbd4.mono (by omega))
      clear F hm3 hm4 hbd e0 e1 e2 e3 e4 e5 t1 t2 t3 t4 s1 s2 s3 s4 g1 g2 g3 g4 hb0 B1 B2
      go_upto_region 5 with fail
      go_region_held3 (fun w' => w'.cell? ⟨w.heap.size, 0, none⟩ = some (.int .i64 p) ∧ w'.cell? ⟨w.heap.size, 1, none⟩ = some (.slice a m c) ∧ w'.cell? ⟨w.heap.size, 2, none⟩ = some (.slice b m d) ∧ w'.cell? ⟨w.heap.size + 1, 0, none⟩ = some (.int .i64 p) ∧ w'.cell? ⟨w.heap.size + 1, 1, none⟩ = some (.slice a2 m2 c2) ∧ w'.cell? ⟨w.heap.size + 1, 2, none⟩ = some (.slice b2 m2 d2))
        (first | exact hS5 | exact hS4 | exact F4 _ (by assumption))
        (first
        | (go_at_call 64; refine (expandBy_any p a2 m2 c2 us b2 m2 d2 vs a6 _ c6 (gP p xs ys m K) _ (hs2.below hR6.hb) (ht2.below hR6.hb) hk6.sl (by rw [gP_le (by omega)]; omega) (by rw [gP_le (by omega)]; omega) (by omega) hp hpt HU.out HVV.out (gP_small hp xs ys m K n12).are).mono ?_; rintro e w7 ⟨a7, c7, rfl, ho7, t7⟩; obtain ⟨y0, y1, y2, y3, y4, y5⟩ := hS4; have hS5 := And.intro (cell_be t7 y0) (And.intro (cell_be t7 y1) (And.intro (cell_be t7 y2) (And.intro (cell_be t7 y3) (And.intro (cell_be t7 y4) (cell_be t7 y5))))))
        | (go_at_call 75; refine (goOn_any p _ _ _ xs _ _ ys K (gP p xs ys m) 0 0 B w _ hs ht HPR.out HX.out HY.out (by omega) (by omega) (gP_step p xs ys m) (fun i => gP_small hp xs ys m i n12) (hR5.polys hp n1) (.inr (Nat.zero_le _))).mono ?_; rintro e w6 ⟨a6, c6, rfl, hk6, hR6, t6⟩; obtain ⟨y0, y1, y2, y3, y4, y5⟩ := F4 _ hm5; have hS4 := And.intro (t6.cell y0 (.inl (by omega))) (And.intro (t6.cell y1 (.inl (by omega))) (And.intro (t6.cell y2 (.inl (by omega))) (And.intro (t6.cell y3 (.inl (by omega))) (And.intro (t6.cell y4 (.inl (by omega))) (t6.cell y5 (.inl (by omega))))))))
        | (go_at_call 76; refine (polysOf_any p _ _ _ xs _ _ ys 0 0 w _ hs n1 hp hpt HX.out B4d (Nat.zero_le _)).mono ?_; rintro e w5 ⟨B, rfl, hBB, hR5, t5⟩; have hm5 := bnext hbd4 t5; have zB : w.heap.size + 1 < B := by (have := hbd4.size); omega))
      have hz := hR6.hb.size
      have B7 := hR6.hb.trans (t7.mono hz)
      rw [gP_le (by omega)] at ho7
      try rw [gP_le (by omega)]
      go_wp
      go_ret2
      exact Res1.own HC.out (by rw [HV.out]) (by rw [HV.out]; exact ho7.mono hz) (by rw [HV.out, expL_len]; omega) B7
    · have HC := hide (show cjC p xs ys p us vs (K : Int) = 2 by rw [HE.out, if_neg (fun h => by omega)])
      have HV := hide (show cjV p xs ys p us vs (K : Int) = [] by unfold cjV; rw [HC.out]; rfl)
      have hnl : (m : Int) < (K : Int) := by omega
      clear HE lP
      go_enter Try.func37, Try.ntmps37
      go_wp2_with fail
      refine (implIsJacobi _ _ _ _ _ _ _ _ _ _ g1 g2 hm hm).mono ?_
      rintro e w1 ⟨rfl, t1⟩
      rw [HJ.out]
      have B1 := bnext hb0 t1
      replace e0 := cell_be t1 e0
      replace e1 := cell_be t1 e1
      replace e2 := cell_be t1 e2
      replace e3 := cell_be t1 e3
      replace e4 := cell_be t1 e4
      replace e5 := cell_be t1 e5
      go_wp2_with fail
      refine (implIsJacobi _ _ _ _ _ _ _ _ _ _ (g3.below t1) (g4.below t1) hm2 hm2).mono ?_
      rintro e w2 ⟨rfl, t2⟩
      rw [HJ2.out]
      have B2 := bnext B1 t2
      replace e0 := cell_be t2 e0
      replace e1 := cell_be t2 e1
      replace e2 := cell_be t2 e2
      replace e3 := cell_be t2 e3
      replace e4 := cell_be t2 e4
      replace e5 := cell_be t2 e5
      have s1 := (g1.below t1).below t2
      have s2 := (g2.below t1).below t2
      have s3 := (g3.below t1).below t2
      have s4 := (g4.below t1).below t2
      have hbd := (Below.refl w2.heap.size w2).drew
      have F : ∀ w', Below w2.heap.size w2 w' → w'.cell? ⟨w.heap.size, 0, none⟩ = some (.int .i64 p) ∧ w'.cell? ⟨w.heap.size, 1, none⟩ = some (.slice a m c) ∧ w'.cell? ⟨w.heap.size, 2, none⟩ = some (.slice b m d) ∧ w'.cell? ⟨w.heap.size + 1, 0, none⟩ = some (.int .i64 p) ∧ w'.cell? ⟨w.heap.size + 1, 1, none⟩ = some (.slice a2 m2 c2) ∧ w'.cell? ⟨w.heap.size + 1, 2, none⟩ = some (.slice b2 m2 d2) := fun w' h => ⟨cell_be h e0, cell_be h e1, cell_be h e2, cell_be h e3, cell_be h e4, cell_be h e5⟩
      go_upto_region 3 with fail
      go_region_held3 (fun w' => w'.cell? ⟨w.heap.size, 0, none⟩ = some (.int .i64 p) ∧ w'.cell? ⟨w.heap.size, 1, none⟩ = some (.slice a m c) ∧ w'.cell? ⟨w.heap.size, 2, none⟩ = some (.slice b m d) ∧ w'.cell? ⟨w.heap.size + 1, 0, none⟩ = some (.int .i64 p) ∧ w'.cell? ⟨w.heap.size + 1, 1, none⟩ = some (.slice a2 m2 c2) ∧ w'.cell? ⟨w.heap.size + 1, 2, none⟩ = some (.slice b2 m2 d2))
        (exact F _ (by assumption))
        (first
        | (go_at_call 58; refine (sizeOf_any p a2 m2 c2 b2 m2 d2 _ hm2).mono ?_; rintro e w4 ⟨rfl, t4⟩; have hm4 := bnext hm3 t4)
        | (go_at_call 58; refine (sizeOf_any p a m c b m d _ hm).mono ?_; rintro e w3 ⟨rfl, t3⟩; have hm3 := bnext hbd t3))
      have B4 := bnext B2 hm4
      go_wp2
      go_ret2
      exact Res1.nil HV.out HC.out B4
  by_cases hmm2 : (m2 : Int) < (m : Int)
  · have hmm3 : (m2 : Int) ≤ (m : Int) := by omega
    by_cases hle : (K : Int) ≤ (m2 : Int)
    · have HC := hide (show cjC p xs ys p us vs (K : Int) = 0 by rw [HE.out, if_pos ⟨⟨⟨hk0, by omega⟩, hk0, by omega⟩, rfl⟩])
      have HV := hide (show cjV p xs ys p us vs (K : Int) = expL p us vs (polJ p xs ys K) by unfold cjV; rw [if_pos HC.out]; rfl)
      have lP2 := (lP (by omega)).2
      have hnl : ¬ (m2 : Int) < (K : Int) := by omega
      clear HE lP
      go_enter Try.func37, Try.ntmps37
      go_wp2_with fail
      refine (implIsJacobi _ _ _ _ _ _ _ _ _ _ g1 g2 hm hm).mono ?_
      rintro e w1 ⟨rfl, t1⟩
      rw [HJ.out]
      have B1 := bnext hb0 t1
      replace e0 := cell_be t1 e0
      replace e1 := cell_be t1 e1
      replace e2 := cell_be t1 e2
      replace e3 := cell_be t1 e3
      replace e4 := cell_be t1 e4
      replace e5 := cell_be t1 e5
      go_wp2_with fail
      refine (implIsJacobi _ _ _ _ _ _ _ _ _ _ (g3.below t1) (g4.below t1) hm2 hm2).mono ?_
      rintro e w2 ⟨rfl, t2⟩
      rw [HJ2.out]
      have B2 := bnext B1 t2
      replace e0 := cell_be t2 e0
      replace e1 := cell_be t2 e1
      replace e2 := cell_be t2 e2
      replace e3 := cell_be t2 e3
      replace e4 := cell_be t2 e4
      replace e5 := cell_be t2 e5
      have s1 := (g1.below t1).below t2
      have s2 := (g2.below t1).below t2
      have s3 := (g3.below t1).below t2
      have s4 := (g4.below t1).below t2
      have hbd := (Below.refl w2.heap.size w2).drew
      have F : ∀ w', Below w2.heap.size w2 w' → w'.cell? ⟨w.heap.size, 0, none⟩ = some (.int .i64 p) ∧ w'.cell? ⟨w.heap.size, 1, none⟩ = some (.slice a m c) ∧ w'.cell? ⟨w.heap.size, 2, none⟩ = some (.slice b m d) ∧ w'.cell? ⟨w.heap.size + 1, 0, none⟩ = some (.int .i64 p) ∧ w'.cell? ⟨w.heap.size + 1, 1, none⟩ = some (.slice a2 m2 c2) ∧ w'.cell? ⟨w.heap.size + 1, 2, none⟩ = some (.slice b2 m2 d2) := fun w' h => ⟨cell_be h e0, cell_be h e1, cell_be h e2, cell_be h e3, cell_be h e4, cell_be h e5⟩
      go_upto_region 3 with fail
      go_region_held3 (fun w' => w'.cell? ⟨w.heap.size, 0, none⟩ = some (.int .i64 p) ∧ w'.cell? ⟨w.heap.size, 1, none⟩ = some (.slice a m c) ∧ w'.cell? ⟨w.heap.size, 2, none⟩ = some (.slice b m d) ∧ w'.cell? ⟨w.heap.size + 1, 0, none⟩ = some (.int .i64 p) ∧ w'.cell? ⟨w.heap.size + 1, 1, none⟩ = some (.slice a2 m2 c2) ∧ w'.cell? ⟨w.heap.size + 1, 2, none⟩ = some (.slice b2 m2 d2))
        (exact F _ (by assumption))
        (first
        | (go_at_call 58; refine (sizeOf_any p a2 m2 c2 b2 m2 d2 _ hm2).mono ?_; rintro e w4 ⟨rfl, t4⟩; have hm4 := bnext hm3 t4)
        | (go_at_call 58; refine (sizeOf_any p a m c b m d _ hm).mono ?_; rintro e w3 ⟨rfl, t3⟩; have hm3 := bnext hbd t3))
      have B4 := bnext B2 hm4
      obtain ⟨f0, f1, f2, f3, f4, f5⟩ := F _ hm4
      have hbd4 := (Below.refl w4.heap.size w4).drew
      have F4 : ∀ w', Below w4.heap.size w4 w' → w'.cell? ⟨w.heap.size, 0, none⟩ = some (.int .i64 p) ∧ w'.cell? ⟨w.heap.size, 1, none⟩ = some (.slice a m c) ∧ w'.cell? ⟨w.heap.size, 2, none⟩ = some (.slice b m d) ∧ w'.cell? ⟨w.heap.size + 1, 0, none⟩ = some (.int .i64 p) ∧ w'.cell? ⟨w.heap.size + 1, 1, none⟩ = some (.slice a2 m2 c2) ∧ w'.cell? ⟨w.heap.size + 1, 2, none⟩ = some (.slice b2 m2 d2) := fun w' h => ⟨cell_be h f0, cell_be h f1, cell_be h f2, cell_be h f3, cell_be h f4, cell_be h f5⟩
      have z4 : w.heap.size + 1 < w4.heap.size := World.block_lt_of_cell? _ _ f3
      have B4d := B4.trans (hbd4.mono (by omega))
      clear F hm3 hm4 hbd e0 e1 e2 e3 e4 e5 t1 t2 t3 t4 s1 s2 s3 s4 g1 g2 g3 g4 hb0 B1 B2
      go_upto_region 5 with fail
      go_region_held3 (fun w' => w'.cell? ⟨w.heap.size, 0, none⟩ = some (.int .i64 p) ∧ w'.cell? ⟨w.heap.size, 1, none⟩ = some (.slice a m c) ∧ w'.cell? ⟨w.heap.size, 2, none⟩ = some (.slice b m d) ∧ w'.cell? ⟨w.heap.size + 1, 0, none⟩ = some (.int .i64 p) ∧ w'.cell? ⟨w.heap.size + 1, 1, none⟩ = some (.slice a2 m2 c2) ∧ w'.cell? ⟨w.heap.size + 1, 2, none⟩ = some (.slice b2 m2 d2))
        (first | exact hS5 | exact hS4 | exact F4 _ (by assumption))
        (first
        | (go_at_call 64; refine (expandBy_any p a2 m2 c2 us b2 m2 d2 vs a6 _ c6 (gP p xs ys m K) _ (hs2.below hR6.hb) (ht2.below hR6.hb) hk6.sl (by rw [gP_le (by omega)]; omega) (by rw [gP_le (by omega)]; omega) (by omega) hp hpt HU.out HVV.out (gP_small hp xs ys m K n12).are).mono ?_; rintro e w7 ⟨a7, c7, rfl, ho7, t7⟩; obtain ⟨y0, y1, y2, y3, y4, y5⟩ := hS4; have hS5 := And.intro (cell_be t7 y0) (And.intro (cell_be t7 y1) (And.intro (cell_be t7 y2) (And.intro (cell_be t7 y3) (And.intro (cell_be t7 y4) (cell_be t7 y5))))))
        | (go_at_call 75; refine (goOn_any p _ _ _ xs _ _ ys K (gP p xs ys m) 0 0 B w _ hs ht HPR.out HX.out HY.out (by omega) (by omega) (gP_step p xs ys m) (fun i => gP_small hp xs ys m i n12) (hR5.polys hp n1) (.inr (Nat.zero_le _))).mono ?_; rintro e w6 ⟨a6, c6, rfl, hk6, hR6, t6⟩; obtain ⟨y0, y1, y2, y3, y4, y5⟩ := F4 _ hm5; have hS4 := And.intro (t6.cell y0 (.inl (by omega))) (And.intro (t6.cell y1 (.inl (by omega))) (And.intro (t6.cell y2 (.inl (by omega))) (And.intro (t6.cell y3 (.inl (by omega))) (And.intro (t6.cell y4 (.inl (by omega))) (t6.cell y5 (.inl (by omega))))))))
        | (go_at_call 76; refine (polysOf_any p _ _ _ xs _ _ ys 0 0 w _ hs n1 hp hpt HX.out B4d (Nat.zero_le _)).mono ?_; rintro e w5 ⟨B, rfl, hBB, hR5, t5⟩; have hm5 := bnext hbd4 t5; have zB : w.heap.size + 1 < B := by (have := hbd4.size); omega))
      have hz := hR6.hb.size
      have B7 := hR6.hb.trans (t7.mono hz)
      rw [gP_le (by omega)] at ho7
      try rw [gP_le (by omega)]
      go_wp
      go_ret2
      exact Res1.own HC.out (by rw [HV.out]) (by rw [HV.out]; exact ho7.mono hz) (by rw [HV.out, expL_len]; omega) B7
    · have HC := hide (show cjC p xs ys p us vs (K : Int) = 2 by rw [HE.out, if_neg (fun h => by omega)])
      have HV := hide (show cjV p xs ys p us vs (K : Int) = [] by unfold cjV; rw [HC.out]; rfl)
      have hnl : (m2 : Int) < (K : Int) := by omega
      clear HE lP
      go_enter Try.func37, Try.ntmps37
      go_wp2_with fail
      refine (implIsJacobi _ _ _ _ _ _ _ _ _ _ g1 g2 hm hm).mono ?_
      rintro e w1 ⟨rfl, t1⟩
      rw [HJ.out]
      have B1 := bnext hb0 t1
      replace e0 := cell_be t1 e0
      replace e1 := cell_be t1 e1
      replace e2 := cell_be t1 e2
      replace e3 := cell_be t1 e3
      replace e4 := cell_be t1 e4
      replace e5 := cell_be t1 e5
      go_wp2_with fail
      refine (implIsJacobi _ _ _ _ _ _ _ _ _ _ (g3.below t1) (g4.below t1) hm2 hm2).mono ?_
      rintro e w2 ⟨rfl, t2⟩
      rw [HJ2.out]
      have B2 := bnext B1 t2
      replace e0 := cell_be t2 e0
      replace e1 := cell_be t2 e1
      replace e2 := cell_be t2 e2
      replace e3 := cell_be t2 e3
      replace e4 := cell_be t2 e4
      replace e5 := cell_be t2 e5
      have s1 := (g1.below t1).below t2
      have s2 := (g2.below t1).below t2
      have s3 := (g3.below t1).below t2
      have s4 := (g4.below t1).below t2
      have hbd := (Below.refl w2.heap.size w2).drew
      have F : ∀ w', Below w2.heap.size w2 w' → w'.cell? ⟨w.heap.size, 0, none⟩ = some (.int .i64 p) ∧ w'.cell? ⟨w.heap.size, 1, none⟩ = some (.slice a m c) ∧ w'.cell? ⟨w.heap.size, 2, none⟩ = some (.slice b m d) ∧ w'.cell? ⟨w.heap.size + 1, 0, none⟩ = some (.int .i64 p) ∧ w'.cell? ⟨w.heap.size + 1, 1, none⟩ = some (.slice a2 m2 c2) ∧ w'.cell? ⟨w.heap.size + 1, 2, none⟩ = some (.slice b2 m2 d2) := fun w' h => ⟨cell_be h e0, cell_be h e1, cell_be h e2, cell_be h e3, cell_be h e4, cell_be h e5⟩
      go_upto_region 3 with fail
      go_region_held3 (fun w' => w'.cell? ⟨w.heap.size, 0, none⟩ = some (.int .i64 p) ∧ w'.cell? ⟨w.heap.size, 1, none⟩ = some (.slice a m c) ∧ w'.cell? ⟨w.heap.size, 2, none⟩ = some (.slice b m d) ∧ w'.cell? ⟨w.heap.size + 1, 0, none⟩ = some (.int .i64 p) ∧ w'.cell? ⟨w.heap.size + 1, 1, none⟩ = some (.slice a2 m2 c2) ∧ w'.cell? ⟨w.heap.size + 1, 2, none⟩ = some (.slice b2 m2 d2))
        (exact F _ (by assumption))
        (first
        | (go_at_call 58; refine (sizeOf_any p a2 m2 c2 b2 m2 d2 _ hm2).mono ?_; rintro e w4 ⟨rfl, t4⟩; have hm4 := bnext hm3 t4)
        | (go_at_call 58; refine (sizeOf_any p a m c b m d _ hm).mono ?_; rintro e w3 ⟨rfl, t3⟩; have hm3 := bnext hbd t3))
      have B4 := bnext B2 hm4
      go_wp2
      go_ret2
      exact Res1.nil HV.out HC.out B4
  · have hmm4 : (m2 : Int) ≤ (m : Int) := by omega
    by_cases hle : (K : Int) ≤ (m : Int)
    · have HC := hide (show cjC p xs ys p us vs (K : Int) = 0 by rw [HE.out, if_pos ⟨⟨⟨hk0, by omega⟩, hk0, by omega⟩, rfl⟩])
      have HV := hide (show cjV p xs ys p us vs (K : Int) = expL p us vs (polJ p xs ys K) by unfold cjV; rw [if_pos HC.out]; rfl)
      have lP2 := (lP (by omega)).2
      have hnl : ¬ (m : Int) < (K : Int) := by omega
      clear HE lP
      go_enter Try.func37, Try.ntmps37
      go_wp2_with fail
      refine (implIsJacobi _ _ _ _ _ _ _ _ _ _ g1 g2 hm hm).mono ?_
      rintro e w1 ⟨rfl, t1⟩
      rw [HJ.out]
      have B1 := bnext hb0 t1
      replace e0 := cell_be t1 e0
      replace e1 := cell_be t1 e1
      replace e2 := cell_be t1 e2
      replace e3 := cell_be t1 e3
      replace e4 := cell_be t1 e4
      replace e5 := cell_be t1 e5
      go_wp2_with fail
      refine (implIsJacobi _ _ _ _ _ _ _ _ _ _ (g3.below t1) (g4.below t1) hm2 hm2).mono ?_
      rintro e w2 ⟨rfl, t2⟩
      rw [HJ2.out]
      have B2 := bnext B1 t2
      replace e0 := cell_be t2 e0
      replace e1 := cell_be t2 e1
      replace e2 := cell_be t2 e2
      replace e3 := cell_be t2 e3
      replace e4 := cell_be t2 e4
      replace e5 := cell_be t2 e5
      have s1 := (g1.below t1).below t2
      have s2 := (g2.below t1).below t2
      have s3 := (g3.below t1).below t2
      have s4 := (g4.below t1).below t2
      have hbd := (Below.refl w2.heap.size w2).drew
      have F : ∀ w', Below w2.heap.size w2 w' → w'.cell? ⟨w.heap.size, 0, none⟩ = some (.int .i64 p) ∧ w'.cell? ⟨w.heap.size, 1, none⟩ = some (.slice a m c) ∧ w'.cell? ⟨w.heap.size, 2, none⟩ = some (.slice b m d) ∧ w'.cell? ⟨w.heap.size + 1, 0, none⟩ = some (.int .i64 p) ∧ w'.cell? ⟨w.heap.size + 1, 1, none⟩ = some (.slice a2 m2 c2) ∧ w'.cell? ⟨w.heap.size + 1, 2, none⟩ = some (.slice b2 m2 d2) := fun w' h => ⟨cell_be h e0, cell_be h e1, cell_be h e2, cell_be h e3, cell_be h e4, cell_be h e5⟩
      go_upto_region 3 with fail
      go_region_held3 (fun w' => w'.cell? ⟨w.heap.size, 0, none⟩ = some (.int .i64 p) ∧ w'.cell? ⟨w.heap.size, 1, none⟩ = some (.slice a m c) ∧ w'.cell? ⟨w.heap.size, 2, none⟩ = some (.slice b m d) ∧ w'.cell? ⟨w.heap.size + 1, 0, none⟩ = some (.int .i64 p) ∧ w'.cell? ⟨w.heap.size + 1, 1, none⟩ = some (.slice a2 m2 c2) ∧ w'.cell? ⟨w.heap.size + 1, 2, none⟩ = some (.slice b2 m2 d2))
        (exact F _ (by assumption))
        (first
        | (go_at_call 58; refine (sizeOf_any p a2 m2 c2 b2 m2 d2 _ hm2).mono ?_; rintro e w4 ⟨rfl, t4⟩; have hm4 := bnext hm3 t4)
        | (go_at_call 58; refine (sizeOf_any p a m c b m d _ hm).mono ?_; rintro e w3 ⟨rfl, t3⟩; have hm3 := bnext hbd t3))
      have B4 := bnext B2 hm4
      obtain ⟨f0, f1, f2, f3, f4, f5⟩ := F _ hm4
      have hbd4 := (Below.refl w4.heap.size w4).drew
      have F4 : ∀ w', Below w4.heap.size w4 w' → w'.cell? ⟨w.heap.size, 0, none⟩ = some (.int .i64 p) ∧ w'.cell? ⟨w.heap.size, 1, none⟩ = some (.slice a m c) ∧ w'.cell? ⟨w.heap.size, 2, none⟩ = some (.slice b m d) ∧ w'.cell? ⟨w.heap.size + 1, 0, none⟩ = some (.int .i64 p) ∧ w'.cell? ⟨w.heap.size + 1, 1, none⟩ = some (.slice a2 m2 c2) ∧ w'.cell? ⟨w.heap.size + 1, 2, none⟩ = some (.slice b2 m2 d2) := fun w' h => ⟨cell_be h f0, cell_be h f1, cell_be h f2, cell_be h f3, cell_be h f4, cell_be h f5⟩
      have z4 : w.heap.size + 1 < w4.heap.size := World.block_lt_of_cell? _ _ f3
      have B4d := B4.trans (hbd4.mono (by omega))
      clear F hm3 hm4 hbd e0 e1 e2 e3 e4 e5 t1 t2 t3 t4 s1 s2 s3 s4 g1 g2 g3 g4 hb0 B1 B2
      go_upto_region 5 with fail
      go_region_held3 (fun w' => w'.cell? ⟨w.heap.size, 0, none⟩ = some (.int .i64 p) ∧ w'.cell? ⟨w.heap.size, 1, none⟩ = some (.slice a m c) ∧ w'.cell? ⟨w.heap.size, 2, none⟩ = some (.slice b m d) ∧ w'.cell? ⟨w.heap.size + 1, 0, none⟩ = some (.int .i64 p) ∧ w'.cell? ⟨w.heap.size + 1, 1, none⟩ = some (.slice a2 m2 c2) ∧ w'.cell? ⟨w.heap.size + 1, 2, none⟩ = some (.slice b2 m2 d2))
        (first | exact hS5 | exact hS4 | exact F4 _ (by assumption))
        (first
        | (go_at_call 64; refine (expandBy_any p a2 m2 c2 us b2 m2 d2 vs a6 _ c6 (gP p xs ys m K) _ (hs2.below hR6.hb) (ht2.below hR6.hb) hk6.sl (by rw [gP_le (by omega)]; omega) (by rw [gP_le (by omega)]; omega) (by omega) hp hpt HU.out HVV.out (gP_small hp xs ys m K n12).are).mono ?_; rintro e w7 ⟨a7, c7, rfl, ho7, t7⟩; obtain ⟨y0, y1, y2, y3, y4, y5⟩ := hS4; have hS5 := And.intro (cell_be t7 y0) (And.intro (cell_be t7 y1) (And.intro (cell_be t7 y2) (And.intro (cell_be t7 y3) (And.intro (cell_be t7 y4) (cell_be t7 y5))))))
        | (go_at_call 75; refine (goOn_any p _ _ _ xs _ _ ys K (gP p xs ys m) 0 0 B w _ hs ht HPR.out HX.out HY.out (by omega) (by omega) (gP_step p xs ys m) (fun i => gP_small hp xs ys m i n12) (hR5.polys hp n1) (.inr (Nat.zero_le _))).mono ?_; rintro e w6 ⟨a6, c6, rfl, hk6, hR6, t6⟩; obtain ⟨y0, y1, y2, y3, y4, y5⟩ := F4 _ hm5; have hS4 := And.intro (t6.cell y0 (.inl (by omega))) (And.intro (t6.cell y1 (.inl (by omega))) (And.intro (t6.cell y2 (.inl (by omega))) (And.intro (t6.cell y3 (.inl (by omega))) (And.intro (t6.cell y4 (.inl (by omega))) (t6.cell y5 (.inl (by omega))))))))
        | (go_at_call 76; refine (polysOf_any p _ _ _ xs _ _ ys 0 0 w _ hs n1 hp hpt HX.out B4d (Nat.zero_le _)).mono ?_; rintro e w5 ⟨B, rfl, hBB, hR5, t5⟩; have hm5 := bnext hbd4 t5; have zB : w.heap.size + 1 < B := by (have := hbd4.size); omega))
      have hz := hR6.hb.size
      have B7 := hR6.hb.trans (t7.mono hz)
      rw [gP_le (by omega)] at ho7
      try rw [gP_le (by omega)]
      go_wp
      go_ret2
      exact Res1.own HC.out (by rw [HV.out]) (by rw [HV.out]; exact ho7.mono hz) (by rw [HV.out, expL_len]; omega) B7
    · have HC := hide (show cjC p xs ys p us vs (K : Int) = 2 by rw [HE.out, if_neg (fun h => by omega)])
      have HV := hide (show cjV p xs ys p us vs (K : Int) = [] by unfold cjV; rw [HC.out]; rfl)
      have hnl : (m : Int) < (K : Int) := by omega
      clear HE lP
      go_enter Try.func37, Try.ntmps37
      go_wp2_with fail
      refine (implIsJacobi _ _ _ _ _ _ _ _ _ _ g1 g2 hm hm).mono ?_
      rintro e w1 ⟨rfl, t1⟩
      rw [HJ.out]
      have B1 := bnext hb0 t1
      replace e0 := cell_be t1 e0
      replace e1 := cell_be t1 e1
      replace e2 := cell_be t1 e2
      replace e3 := cell_be t1 e3
      replace e4 := cell_be t1 e4
      replace e5 := cell_be t1 e5
      go_wp2_with fail
      refine (implIsJacobi _ _ _ _ _ _ _ _ _ _ (g3.below t1) (g4.below t1) hm2 hm2).mono ?_
      rintro e w2 ⟨rfl, t2⟩
      rw [HJ2.out]
      have B2 := bnext B1 t2
      replace e0 := cell_be t2 e0
      replace e1 := cell_be t2 e1
      replace e2 := cell_be t2 e2
      replace e3 := cell_be t2 e3
      replace e4 := cell_be t2 e4
      replace e5 := cell_be t2 e5
      have s1 := (g1.below t1).below t2
      have s2 := (g2.below t1).below t2
      have s3 := (g3.below t1).below t2
      have s4 := (g4.below t1).below t2
      have hbd := (Below.refl w2.heap.size w2).drew
      have F : ∀ w', Below w2.heap.size w2 w' → w'.cell? ⟨w.heap.size, 0, none⟩ = some (.int .i64 p) ∧ w'.cell? ⟨w.heap.size, 1, none⟩ = some (.slice a m c) ∧ w'.cell? ⟨w.heap.size, 2, none⟩ = some (.slice b m d) ∧ w'.cell? ⟨w.heap.size + 1, 0, none⟩ = some (.int .i64 p) ∧ w'.cell? ⟨w.heap.size + 1, 1, none⟩ = some (.slice a2 m2 c2) ∧ w'.cell? ⟨w.heap.size + 1, 2, none⟩ = some (.slice b2 m2 d2) := fun w' h => ⟨cell_be h e0, cell_be h e1, cell_be h e2, cell_be h e3, cell_be h e4, cell_be h e5⟩
      go_upto_region 3 with fail
      go_region_held3 (fun w' => w'.cell? ⟨w.heap.size, 0, none⟩ = some (.int .i64 p) ∧ w'.cell? ⟨w.heap.size, 1, none⟩ = some (.slice a m c) ∧ w'.cell? ⟨w.heap.size, 2, none⟩ = some (.slice b m d) ∧ w'.cell? ⟨w.heap.size + 1, 0, none⟩ = some (.int .i64 p) ∧ w'.cell? ⟨w.heap.size + 1, 1, none⟩ = some (.slice a2 m2 c2) ∧ w'.cell? ⟨w.heap.size + 1, 2, none⟩ = some (.slice b2 m2 d2))
        (exact F _ (by assumption))
        (first
        | (go_at_call 58; refine (sizeOf_any p a2 m2 c2 b2 m2 d2 _ hm2).mono ?_; rintro e w4 ⟨rfl, t4⟩; have hm4 := bnext hm3 t4)
        | (go_at_call 58; refine (sizeOf_any p a m c b m d _ hm).mono ?_; rintro e w3 ⟨rfl, t3⟩; have hm3 := bnext hbd t3))
      have B4 := bnext B2 hm4
      go_wp2
      go_ret2
      exact Res1.nil HV.out HC.out B4
set_option maxRecDepth 100000 in
set_option maxHeartbeats 3200000 in
theorem specConnectJacobi (p : Int) (a : Option Addr) (n c : Nat) (xs : List Int) (b : Option Addr) (m d : Nat) (ys : List Int) (p2 : Int) (a2 : Option Addr) (n2 c2 : Nat) (us : List Int) (b2 : Option Addr) (m2 d2 : Nat) (vs : List Int) (k : Int) (w : World) (hs : SL w a n c xs) (ht : SL w b m d ys) (hs2 : SL w a2 n2 c2 us) (ht2 : SL w b2 m2 d2 vs) (hn : n ≤ 4000000) (hm : m ≤ 4000000) (hn2 : n2 ≤ 4000000) (hm2 : m2 ≤ 4000000) :
    Calls Try.prog 36 #[jac p a n c b m d, jac p2 a2 n2 c2 b2 m2 d2, .int .i64 k] w (Res1 w (cjV p xs ys p2 us vs k) (cjC p xs ys p2 us vs k)) := by
  have hl := hide hs.len
  have hl2 := hide ht.len
  have hl3 := hide hs2.len
  have hl4 := hide ht2.len
  have hb0 := bl2 w (.cells #[.int .i64 p, .slice a n c, .slice b m d] 24) (.cells #[.int .i64 p2, .slice a2 n2 c2, .slice b2 m2 d2] 24)
  have e0 : ((w.alloc (.cells #[.int .i64 p, .slice a n c, .slice b m d] 24)).alloc (.cells #[.int .i64 p2, .slice a2 n2 c2, .slice b2 m2 d2] 24)).cell? ⟨w.heap.size, 0, none⟩ = some (.int .i64 p) := by simp [go_sem]
  have e1 : ((w.alloc (.cells #[.int .i64 p, .slice a n c, .slice b m d] 24)).alloc (.cells #[.int .i64 p2, .slice a2 n2 c2, .slice b2 m2 d2] 24)).cell? ⟨w.heap.size, 1, none⟩ = some (.slice a n c) := by simp [go_sem]
  have e2 : ((w.alloc (.cells #[.int .i64 p, .slice a n c, .slice b m d] 24)).alloc (.cells #[.int .i64 p2, .slice a2 n2 c2, .slice b2 m2 d2] 24)).cell? ⟨w.heap.size, 2, none⟩ = some (.slice b m d) := by simp [go_sem]
  have e3 : ((w.alloc (.cells #[.int .i64 p, .slice a n c, .slice b m d] 24)).alloc (.cells #[.int .i64 p2, .slice a2 n2 c2, .slice b2 m2 d2] 24)).cell? ⟨w.heap.size + 1, 0, none⟩ = some (.int .i64 p2) := by simp [go_sem]
  have e4 : ((w.alloc (.cells #[.int .i64 p, .slice a n c, .slice b m d] 24)).alloc (.cells #[.int .i64 p2, .slice a2 n2 c2, .slice b2 m2 d2] 24)).cell? ⟨w.heap.size + 1, 1, none⟩ = some (.slice a2 n2 c2) := by simp [go_sem]
  have e5 : ((w.alloc (.cells #[.int .i64 p, .slice a n c, .slice b m d] 24)).alloc (.cells #[.int .i64 p2, .slice a2 n2 c2, .slice b2 m2 d2] 24)).cell? ⟨w.heap.size + 1, 2, none⟩ = some (.slice b2 m2 d2) := by simp [go_sem]
  have g1 := hs.below hb0
  have g2 := ht.below hb0
  have g3 := hs2.below hb0
  have g4 := ht2.below hb0
  obtain ⟨C1, hC1⟩ : ∃ C1, jcd p xs ys k 0 (xs.length : Int) = C1 := ⟨_, rfl⟩
  obtain ⟨C2, hC2⟩ : ∃ C2, jcd p2 us vs k 0 (us.length : Int) = C2 := ⟨_, rfl⟩
  have H1 := hide (show lcdC p xs ys [k] = C1 by rw [lcd_one]; exact hC1)
  have H2 := hide (show lcdC p2 us vs [k] = C2 by rw [lcd_one]; exact hC2)
  have HE := hide (show cjC p xs ys p2 us vs k = if C1 = 1 ∨ C2 = 1 then 1 else if C1 = 2 ∨ C2 = 2 ∨ p ≠ p2 then 2 else 0 by unfold cjC; rw [hC1, hC2])
  have HA := hide (show C1 = 1 ∨ C1 = 2 ∨ (C1 = 0 ∧ jacB p xs ys = true ∧ 0 ≤ k ∧ k ≤ (n : Int)) by have t := jcd_cases p xs ys k 0 (xs.length : Int); rw [hC1, hl.out] at t; exact t)
  have HB := hide (show C2 = 1 ∨ C2 = 2 ∨ (C2 = 0 ∧ jacB p2 us vs = true ∧ 0 ≤ k ∧ k ≤ (n2 : Int)) by have t := jcd_cases p2 us vs k 0 (us.length : Int); rw [hC2, hl3.out] at t; exact t)
  clear hC1 hC2
  go_enter Try.func36, Try.ntmps36
  go_upto_region 1 with fail
  generalize ((w.alloc (.cells #[.int .i64 p, .slice a n c, .slice b m d] 24)).alloc (.cells #[.int .i64 p2, .slice a2 n2 c2, .slice b2 m2 d2] 24)) = wx at *
  have F : ∀ w', Below wx.heap.size wx w' → w'.cell? ⟨w.heap.size, 0, none⟩ = some (.int .i64 p) ∧ w'.cell? ⟨w.heap.size, 1, none⟩ = some (.slice a n c) ∧ w'.cell? ⟨w.heap.size, 2, none⟩ = some (.slice b m d) ∧ w'.cell? ⟨w.heap.size + 1, 0, none⟩ = some (.int .i64 p2) ∧ w'.cell? ⟨w.heap.size + 1, 1, none⟩ = some (.slice a2 n2 c2) ∧ w'.cell? ⟨w.heap.size + 1, 2, none⟩ = some (.slice b2 m2 d2) := fun w' h => ⟨cell_be h e0, cell_be h e1, cell_be h e2, cell_be h e3, cell_be h e4, cell_be h e5⟩
  have hm' := hm
  clear hm
  go_cut [8, 9] (fun s8 s9 wy => s8 = .int .i64 C1 ∧ s9 = .int .i64 C2 ∧ Hid (Below wx.heap.size wx wy))
  case first =>
    have hm := (Below.refl wx.heap.size wx).drew
    refine region_E (fun w' => w'.cell? ⟨w.heap.size, 0, none⟩ = some (.int .i64 p) ∧ w'.cell? ⟨w.heap.size, 1, none⟩ = some (.slice a n c) ∧ w'.cell? ⟨w.heap.size, 2, none⟩ = some (.slice b m d) ∧ w'.cell? ⟨w.heap.size + 1, 0, none⟩ = some (.int .i64 p2) ∧ w'.cell? ⟨w.heap.size + 1, 1, none⟩ = some (.slice a2 n2 c2) ∧ w'.cell? ⟨w.heap.size + 1, 2, none⟩ = some (.slice b2 m2 d2)) 100 (by kernel_rfl) (F _ hm) ?_
    intro hS
    refine anyE_takeH 0 rfl (by kernel_rfl) (fun _ _ _ h => h) hS (by rfl) (v := ?_) ?_ ?_
    rotate_left
    · intro w' hSw; (try dsimp only at hSw); go_simp; (try with_reducible rfl)
    try simp only [Act.put, List.setIfInBounds_toArray, List.set_cons_zero, List.set_cons_succ]
    refine anyE_takeH 1 rfl (by kernel_rfl) (fun _ _ _ h => h) hS (by rfl) (v := ?_) ?_ ?_
    rotate_left
    · intro w' hSw; (try dsimp only at hSw); go_simp; (try with_reducible rfl)
    try simp only [Act.put, List.setIfInBounds_toArray, List.set_cons_zero, List.set_cons_succ]
    refine anyE_takeH 4 rfl (by kernel_rfl) (fun _ _ _ h => h) hS (by rfl) (v := ?_) ?_ ?_
    rotate_left
    · intro w' hSw; (try dsimp only at hSw); go_simp; (try with_reducible rfl)
    try simp only [Act.put, List.setIfInBounds_toArray, List.set_cons_zero, List.set_cons_succ]
    refine anyE_takeH 5 rfl (by kernel_rfl) (fun _ _ _ h => h) hS (by rfl) (v := ?_) ?_ ?_
    rotate_left
    · intro w' hSw; (try dsimp only at hSw); go_simp; (try with_reducible rfl)
    try simp only [Act.put, List.setIfInBounds_toArray, List.set_cons_zero, List.set_cons_succ]
    clear hS
    obtain ⟨u0, hu0⟩ : ∃ u, u = wx.drew := ⟨_, rfl⟩
    rw [← hu0] at hm ⊢
    clear hu0
    refine anyE_2L 2 6 (by kernel_rfl) rfl rfl (fun K' hK' => ?_) (fun K' hK' => ?_)
    · go_simp
      obtain ⟨u1, hu⟩ : ∃ u, u = u0.alloc (.cells #[.int .i64 k] 2) := ⟨_, rfl⟩
      have lx : Below u0.heap.size u0 u1 := by rw [hu]; exact bl1 _ _
      have lA : SL u1 (some ⟨u0.heap.size, 0, none⟩) 1 1 [k] := by rw [hu]; exact litSL _ k
      rw [← hu]
      clear hu
      have hm := bnext hm lx
      refine hK'.out _ _ (F _ hm) ?_
      clear hK' K'
      try simp only [Act.put, List.setIfInBounds_toArray, List.set_cons_zero, List.set_cons_succ]
      refine anyE_2L 3 6 (by kernel_rfl) rfl rfl (fun K' hK' => ?_) (fun K' hK' => ?_)
      · go_simp
        refine (l10Code_any p a n c xs b m d ys _ 1 1 [k] C1 _ (g1.below hm) (g2.below hm) lA hn hm' (by omega) H1.out).mono ?_
        rintro e u2 ⟨rfl, lx⟩
        dsimp only
        replace lA := lA.below lx
        have hm := bnext hm lx
        refine hK'.out _ _ (F _ hm) ?_
        clear hK' K'
        try simp only [Act.put, List.setIfInBounds_toArray, List.set_cons_zero, List.set_cons_succ]
        refine anyE_oneL 6 (by kernel_rfl) rfl (fun K' hK' => ?_)
        go_simp
        obtain ⟨u3, hu⟩ : ∃ u, u = u2.alloc (.cells #[.int .i64 k] 2) := ⟨_, rfl⟩
        have lx : Below u2.heap.size u2 u3 := by rw [hu]; exact bl1 _ _
        replace lA := lA.below lx
        have lB : SL u3 (some ⟨u2.heap.size, 0, none⟩) 1 1 [k] := by rw [hu]; exact litSL _ k
        rw [← hu]
        clear hu
        have hm := bnext hm lx
        refine hK'.out _ _ (F _ hm) ?_
        clear hK' K'
        try simp only [Act.put, List.setIfInBounds_toArray, List.set_cons_zero, List.set_cons_succ]
        refine anyE_oneL 7 (by kernel_rfl) rfl (fun K' hK' => ?_)
        go_simp
        refine (l10Code_any p2 a2 n2 c2 us b2 m2 d2 vs _ 1 1 [k] C2 _ (g3.below hm) (g4.below hm) lB hn2 hm2 (by omega) H2.out).mono ?_
        rintro e u4 ⟨rfl, lx⟩
        dsimp only
        have hm := bnext hm lx
        refine hK'.out _ _ (F _ hm) ?_
        clear hK' K'
        try simp only [Act.put, List.setIfInBounds_toArray, List.set_cons_zero, List.set_cons_succ]
        refine anyE_oneL 8 (by kernel_rfl) rfl (fun K' hK' => ?_)
        go_simp
        refine hK'.out _ _ (F _ hm) ?_
        clear hK' K'
        try simp only [Act.put, List.setIfInBounds_toArray, List.set_cons_zero, List.set_cons_succ]
        refine anyE_oneL 9 (by kernel_rfl) rfl (fun K' hK' => ?_)
        go_simp
        refine hK'.out _ _ (F _ hm) (anyE_doneL (by kernel_rfl) ?_)
        clear hK' K'
        try simp only [Act.put, List.setIfInBounds_toArray, List.set_cons_zero, List.set_cons_succ]
        go_wp2_with fail
        go_meet
        exact ⟨rfl, rfl, hide hm⟩
      · go_simp
        obtain ⟨u7, hu⟩ : ∃ u, u = u1.alloc (.cells #[.int .i64 k] 2) := ⟨_, rfl⟩
        have lx : Below u1.heap.size u1 u7 := by rw [hu]; exact bl1 _ _
        replace lA := lA.below lx
        have lB : SL u7 (some ⟨u1.heap.size, 0, none⟩) 1 1 [k] := by rw [hu]; exact litSL _ k
        rw [← hu]
        clear hu
        have hm := bnext hm lx
        refine hK'.out _ _ (F _ hm) ?_
        clear hK' K'
        try simp only [Act.put, List.setIfInBounds_toArray, List.set_cons_zero, List.set_cons_succ]
        refine anyE_oneL 3 (by kernel_rfl) rfl (fun K' hK' => ?_)
        go_simp
        refine (l10Code_any p a n c xs b m d ys _ 1 1 [k] C1 _ (g1.below hm) (g2.below hm) lA hn hm' (by omega) H1.out).mono ?_
        rintro e u8 ⟨rfl, lx⟩
        dsimp only
        replace lA := lA.below lx
        replace lB := lB.below lx
        have hm := bnext hm lx
        refine hK'.out _ _ (F _ hm) ?_
        clear hK' K'
        try simp only [Act.put, List.setIfInBounds_toArray, List.set_cons_zero, List.set_cons_succ]
        refine anyE_oneL 7 (by kernel_rfl) rfl (fun K' hK' => ?_)
        go_simp
        refine (l10Code_any p2 a2 n2 c2 us b2 m2 d2 vs _ 1 1 [k] C2 _ (g3.below hm) (g4.below hm) lB hn2 hm2 (by omega) H2.out).mono ?_
        rintro e u9 ⟨rfl, lx⟩
        dsimp only
        have hm := bnext hm lx
        refine hK'.out _ _ (F _ hm) ?_
        clear hK' K'
        try simp only [Act.put, List.setIfInBounds_toArray, List.set_cons_zero, List.set_cons_succ]
        refine anyE_oneL 8 (by kernel_rfl) rfl (fun K' hK' => ?_)
        go_simp
        refine hK'.out _ _ (F _ hm) ?_
        clear hK' K'
        try simp only [Act.put, List.setIfInBounds_toArray, List.set_cons_zero, List.set_cons_succ]
        refine anyE_oneL 9 (by kernel_rfl) rfl (fun K' hK' => ?_)
        go_simp
        refine hK'.out _ _ (F _ hm) (anyE_doneL (by kernel_rfl) ?_)
        clear hK' K'
        try simp only [Act.put, List.setIfInBounds_toArray, List.set_cons_zero, List.set_cons_succ]
        go_wp2_with fail
        go_meet
        exact ⟨rfl, rfl, hide hm⟩
    · go_simp
      obtain ⟨u12, hu⟩ : ∃ u, u = u0.alloc (.cells #[.int .i64 k] 2) := ⟨_, rfl⟩
      have lx : Below u0.heap.size u0 u12 := by rw [hu]; exact bl1 _ _
      have lB : SL u12 (some ⟨u0.heap.size, 0, none⟩) 1 1 [k] := by rw [hu]; exact litSL _ k
      rw [← hu]
      clear hu
      have hm := bnext hm lx
      refine hK'.out _ _ (F _ hm) ?_
      clear hK' K'
      try simp only [Act.put, List.setIfInBounds_toArray, List.set_cons_zero, List.set_cons_succ]
      refine anyE_oneL 2 (by kernel_rfl) rfl (fun K' hK' => ?_)
      go_simp
      obtain ⟨u13, hu⟩ : ∃ u, u = u12.alloc (.cells #[.int .i64 k] 2) := ⟨_, rfl⟩
      have lx : Below u12.heap.size u12 u13 := by rw [hu]; exact bl1 _ _
      replace lB := lB.below lx
      have lA : SL u13 (some ⟨u12.heap.size, 0, none⟩) 1 1 [k] := by rw [hu]; exact litSL _ k
      rw [← hu]
      clear hu
      have hm := bnext hm lx
      refine hK'.out _ _ (F _ hm) ?_
      clear hK' K'
      try simp only [Act.put, List.setIfInBounds_toArray, List.set_cons_zero, List.set_cons_succ]
      refine anyE_oneL 3 (by kernel_rfl) rfl (fun K' hK' => ?_)
      go_simp
      refine (l10Code_any p a n c xs b m d ys _ 1 1 [k] C1 _ (g1.below hm) (g2.below hm) lA hn hm' (by omega) H1.out).mono ?_
      rintro e u14 ⟨rfl, lx⟩
      dsimp only
      replace lA := lA.below lx
      replace lB := lB.below lx
      have hm := bnext hm lx
      refine hK'.out _ _ (F _ hm) ?_
      clear hK' K'
      try simp only [Act.put, List.setIfInBounds_toArray, List.set_cons_zero, List.set_cons_succ]
      refine anyE_oneL 7 (by kernel_rfl) rfl (fun K' hK' => ?_)
      go_simp
      refine (l10Code_any p2 a2 n2 c2 us b2 m2 d2 vs _ 1 1 [k] C2 _ (g3.below hm) (g4.below hm) lB hn2 hm2 (by omega) H2.out).mono ?_
      rintro e u15 ⟨rfl, lx⟩
      dsimp only
      have hm := bnext hm lx
      refine hK'.out _ _ (F _ hm) ?_
      clear hK' K'
      try simp only [Act.put, List.setIfInBounds_toArray, List.set_cons_zero, List.set_cons_succ]
      refine anyE_oneL 8 (by kernel_rfl) rfl (fun K' hK' => ?_)
      go_simp
      refine hK'.out _ _ (F _ hm) ?_
      clear hK' K'
      try simp only [Act.put, List.setIfInBounds_toArray, List.set_cons_zero, List.set_cons_succ]
      refine anyE_oneL 9 (by kernel_rfl) rfl (fun K' hK' => ?_)
      go_simp
      refine hK'.out _ _ (F _ hm) (anyE_doneL (by kernel_rfl) ?_)
      clear hK' K'
      try simp only [Act.put, List.setIfInBounds_toArray, List.set_cons_zero, List.set_cons_succ]
      go_wp2_with fail
      go_meet
      exact ⟨rfl, rfl, hide hm⟩
  case rest =>
  obtain ⟨rfl, rfl, hcb⟩ := hcut
  have t2 := hcb.out
  obtain ⟨f0, f1, f2, f3, f4, f5⟩ := F _ t2
  have hB2 := bnext hb0 t2
  have s1 := g1.below t2
  have s2 := g2.below t2
  have s3 := g3.below t2
  have s4 := g4.below t2
  clear F e0 e1 e2 e3 e4 e5 g1 g2 g3 g4 hb0 hcb t2 H1 H2
  obtain ⟨w2, hw2⟩ : ∃ w2, w2 = wc := ⟨wc, rfl⟩
  subst hw2
  rcases HA.out with hA | hA | ⟨hA, hj, q1, q2⟩
  · subst hA
    rcases HB.out with hB | hB | ⟨hB, _, _, _⟩
    · subst hB
      have HC := hide (show cjC p xs ys p2 us vs k = 1 by rw [HE.out]; simp)
      have HV := hide (show cjV p xs ys p2 us vs k = [] by unfold cjV; rw [HC.out]; rfl)
      clear HA HB HE
      go_wp2
      go_ret2
      exact Res1.nil HV.out HC.out hB2
    · subst hB
      have HC := hide (show cjC p xs ys p2 us vs k = 1 by rw [HE.out]; simp)
      have HV := hide (show cjV p xs ys p2 us vs k = [] by unfold cjV; rw [HC.out]; rfl)
      clear HA HB HE
      go_wp2
      go_ret2
      exact Res1.nil HV.out HC.out hB2
    · subst hB
      have HC := hide (show cjC p xs ys p2 us vs k = 1 by rw [HE.out]; simp)
      have HV := hide (show cjV p xs ys p2 us vs k = [] by unfold cjV; rw [HC.out]; rfl)
      clear HA HB HE
      go_wp2
      go_ret2
      exact Res1.nil HV.out HC.out hB2
  · subst hA
    rcases HB.out with hB | hB | ⟨hB, _, _, _⟩
    · subst hB
      have HC := hide (show cjC p xs ys p2 us vs k = 1 by rw [HE.out]; simp)
      have HV := hide (show cjV p xs ys p2 us vs k = [] by unfold cjV; rw [HC.out]; rfl)
      clear HA HB HE
      go_wp2
      go_ret2
      exact Res1.nil HV.out HC.out hB2
    · subst hB
      have HC := hide (show cjC p xs ys p2 us vs k = 2 by rw [HE.out]; simp)
      have HV := hide (show cjV p xs ys p2 us vs k = [] by unfold cjV; rw [HC.out]; rfl)
      clear HA HB HE
      go_wp2
      go_ret2
      exact Res1.nil HV.out HC.out hB2
    · subst hB
      have HC := hide (show cjC p xs ys p2 us vs k = 2 by rw [HE.out]; simp)
      have HV := hide (show cjV p xs ys p2 us vs k = [] by unfold cjV; rw [HC.out]; rfl)
      clear HA HB HE
      go_wp2
      go_ret2
      exact Res1.nil HV.out HC.out hB2
  · subst hA
    rcases HB.out with hB | hB | ⟨hB, hj2, r1, r2⟩
    · subst hB
      have HC := hide (show cjC p xs ys p2 us vs k = 1 by rw [HE.out]; simp)
      clear hj
      have HV := hide (show cjV p xs ys p2 us vs k = [] by unfold cjV; rw [HC.out]; rfl)
      clear HA HB HE
      go_wp2
      go_ret2
      exact Res1.nil HV.out HC.out hB2
    · subst hB
      have HC := hide (show cjC p xs ys p2 us vs k = 2 by rw [HE.out]; simp)
      clear hj
      have HV := hide (show cjV p xs ys p2 us vs k = [] by unfold cjV; rw [HC.out]; rfl)
      clear HA HB HE
      go_wp2
      go_ret2
      exact Res1.nil HV.out HC.out hB2
    · subst hB
      have HE2 := hide (show cjC p xs ys p2 us vs k = if p ≠ p2 then 2 else 0 by rw [HE.out]; simp)
      clear HE HA HB
      obtain ⟨hpr, n1, n12, n3, hx, hy⟩ := jacB_rng hj
      obtain ⟨hpr2, m1, m12, m3, hu, hv⟩ := jacB_rng hj2
      obtain ⟨hp, hpt⟩ := primeB_lo hpr
      have HJ := hide hj
      have HJ2 := hide hj2
      rw [hl.out] at n1 n12
      rw [hl3.out] at m1 m12
      clear hj hj2 hpr hpr2 n3 m3 hx hy hu hv
      by_cases hpp : p = p2
      rotate_left
      · have HC := hide (show cjC p xs ys p2 us vs k = 2 by rw [HE2.out, if_pos hpp])
        have HV := hide (show cjV p xs ys p2 us vs k = [] by unfold cjV; rw [HC.out]; rfl)
        have hne : (p != p2) = true := by simpa using hpp
        clear HE2
        go_wp2
        go_ret2
        exact Res1.nil HV.out HC.out hB2
      subst hpp
      obtain ⟨K, rfl⟩ : ∃ K : Nat, k = K := ⟨k.toNat, by omega⟩
      have HC := hide (show cjC p xs ys p us vs (K : Int) = 0 by rw [HE2.out, if_neg (by simp)])
      have HV := hide (show cjV p xs ys p us vs (K : Int) = expL p us vs (polJ p xs ys K) by unfold cjV; rw [if_pos HC.out]; rfl)
      have lP := polJ_small hp xs ys K (by omega)
      have lP2 := lP.2
      have HLP := hide lP.1
      clear HE2
      have hbd := (Below.refl w2.heap.size w2).drew
      have F : ∀ w', Below w2.heap.size w2 w' → w'.cell? ⟨w.heap.size, 0, none⟩ = some (.int .i64 p) ∧ w'.cell? ⟨w.heap.size, 1, none⟩ = some (.slice a n c) ∧ w'.cell? ⟨w.heap.size, 2, none⟩ = some (.slice b m d) ∧ w'.cell? ⟨w.heap.size + 1, 0, none⟩ = some (.int .i64 p) ∧ w'.cell? ⟨w.heap.size + 1, 1, none⟩ = some (.slice a2 n2 c2) ∧ w'.cell? ⟨w.heap.size + 1, 2, none⟩ = some (.slice b2 m2 d2) := fun w' h => ⟨cell_be h f0, cell_be h f1, cell_be h f2, cell_be h f3, cell_be h f4, cell_be h f5⟩
      go_wp2
      go_region_held3 (fun w' => w'.cell? ⟨w.heap.size, 0, none⟩ = some (.int .i64 p) ∧ w'.cell? ⟨w.heap.size, 1, none⟩ = some (.slice a n c) ∧ w'.cell? ⟨w.heap.size, 2, none⟩ = some (.slice b m d) ∧ w'.cell? ⟨w.heap.size + 1, 0, none⟩ = some (.int .i64 p) ∧ w'.cell? ⟨w.heap.size + 1, 1, none⟩ = some (.slice a2 n2 c2) ∧ w'.cell? ⟨w.heap.size + 1, 2, none⟩ = some (.slice b2 m2 d2))
        (exact F _ (by assumption))
        (first
        | (go_at_call 61; refine (l10Expand_any p a2 n2 c2 us b2 m2 d2 vs a3 _ c3 (polJ p xs ys K) _ (s3.below hm3) (s4.below hm3) ho3.sl (by omega) HJ2.out HLP.out).mono ?_; rintro e w4 ⟨a4, c4, rfl, ho4, t4⟩; have hm4 := bnext hm3 t4)
        | (go_at_call 72; refine (l03Poly_any p a n c xs b m d ys K _ (s1.below hbd) (s2.below hbd) HJ.out (by omega)).mono ?_; rintro e w3 ⟨a3, c3, rfl, ho3, t3⟩; have hm3 := bnext hbd t3))
      have hB4 := bnext hB2 hm4
      have hz := (bnext hB2 hm3).size
      go_wp2
      go_ret2
      exact Res1.own HC.out (by rw [HV.out]) (by rw [HV.out]; exact ho4.mono hz) (by rw [HV.out, expL_len]; omega) hB4
end Go.Proofs.Ytgaafhcnfeipbaa
