/- Contracts: WronskiAt (program and model). -/
import Derived.Test.YtagheoddbikdgaaRf
namespace Go.Proofs.Ytagheoddbikdgaa
open Go.RowKit
set_option linter.unusedVariables false
set_option linter.unusedSimpArgs false

set_option maxRecDepth 100000 in
set_option maxHeartbeats 1600000 in
theorem implWronskiAt (p : Int) (a : Option Addr) (n c : Nat) (xs : List Int) (b : Option Addr) (m d : Nat) (ys : List Int) (k : Int) (w : World) (hs : SL w a n c xs) (ht : SL w b m d ys) (hn : n ≤ 4000000) (hm : m ≤ 4000000) :
    Calls Try.prog 29 #[jac p a n c b m d, .int .i64 k] w (Res1 w (wroV p xs ys k) (wroC p xs ys k)) := by
  have hl := hide hs.len
  have hl2 := hide ht.len
  have hb0 := bl1 w (.cells #[.int .i64 p, .slice a n c, .slice b m d] 28)
  have g1 := hs.below hb0
  have g2 := ht.below hb0
  have hcd : ∀ C, wroC p xs ys k = C → Hid (jcd p xs ys k 0 ((n : Int) - 1) = C) := fun C h => hide (by rw [← h, wroC, hl.out])
  have hw1 : IntKind.i64.wrap ((n : Int) - 1) = (n : Int) - 1 := IntWalk.i64_in _ (by omega)
  have hbd := (Below.refl (w.alloc (.cells #[.int .i64 p, .slice a n c, .slice b m d] 28)).heap.size (w.alloc (.cells #[.int .i64 p, .slice a n c, .slice b m d] 28))).drew
  have F : ∀ w', Below (w.alloc (.cells #[.int .i64 p, .slice a n c, .slice b m d] 28)).heap.size (w.alloc (.cells #[.int .i64 p, .slice a n c, .slice b m d] 28)) w' → w'.cell? ⟨w.heap.size, 0, none⟩ = some (.int .i64 p) ∧ w'.cell? ⟨w.heap.size, 1, none⟩ = some (.slice a n c) ∧ w'.cell? ⟨w.heap.size, 2, none⟩ = some (.slice b m d) := fun w' h => ⟨cell_be h (by simp [go_sem]), cell_be h (by simp [go_sem]), cell_be h (by simp [go_sem])⟩
  rcases jcd_cases p xs ys k 0 ((xs.length : Int) - 1) with hc | hc | ⟨hc, hj, q1, q2⟩
  · have Hb := hide (show wroC p xs ys k = 1 from hc)
    have HC := hide (show wroC p xs ys k = 1 by exact hc)
    have HV := hide (show wroV p xs ys k = [] by simp [wroV, HC.out])
    have Hcd := hcd _ Hb.out
    clear hc hcd
    go_enter Try.func29, Try.ntmps29
    go_upto_region 1 with fail
    go_region_held3 (fun w' => w'.cell? ⟨w.heap.size, 0, none⟩ = some (.int .i64 p) ∧ w'.cell? ⟨w.heap.size, 1, none⟩ = some (.slice a n c) ∧ w'.cell? ⟨w.heap.size, 2, none⟩ = some (.slice b m d))
      (exact F _ (by assumption))
      (first
      | (go_at_call 60; refine (sizeOf_any _ _ _ _ _ _ _ _ hn).mono ?_; rintro e w1 ⟨rfl, hb1⟩; have hm1 := bnext hbd hb1)
      | (go_at_call 59; refine (checkJacobi_any _ _ _ _ _ _ _ _ _ _ _ _ _ _ (g1.below hm1) (g2.below hm1) hn hm Hcd.out).mono ?_; rintro e w2 ⟨rfl, hb2⟩; have hm2 := bnext hm1 hb2))
    have hB2 := bnext hb0 hm2
    have z2 := hm2.size
    simp at z2
    go_wp2
    go_ret2
    exact Res1.nil HV.out HC.out hB2
  · have Hb := hide (show wroC p xs ys k = 2 from hc)
    have HC := hide (show wroC p xs ys k = 2 by exact hc)
    have HV := hide (show wroV p xs ys k = [] by simp [wroV, HC.out])
    have Hcd := hcd _ Hb.out
    clear hc hcd
    go_enter Try.func29, Try.ntmps29
    go_upto_region 1 with fail
    go_region_held3 (fun w' => w'.cell? ⟨w.heap.size, 0, none⟩ = some (.int .i64 p) ∧ w'.cell? ⟨w.heap.size, 1, none⟩ = some (.slice a n c) ∧ w'.cell? ⟨w.heap.size, 2, none⟩ = some (.slice b m d))
      (exact F _ (by assumption))
      (first
      | (go_at_call 60; refine (sizeOf_any _ _ _ _ _ _ _ _ hn).mono ?_; rintro e w1 ⟨rfl, hb1⟩; have hm1 := bnext hbd hb1)
      | (go_at_call 59; refine (checkJacobi_any _ _ _ _ _ _ _ _ _ _ _ _ _ _ (g1.below hm1) (g2.below hm1) hn hm Hcd.out).mono ?_; rintro e w2 ⟨rfl, hb2⟩; have hm2 := bnext hm1 hb2))
    have hB2 := bnext hb0 hm2
    have z2 := hm2.size
    simp at z2
    go_wp2
    go_ret2
    exact Res1.nil HV.out HC.out hB2
  · obtain ⟨hpr, n1, n2, n3, hx, hy⟩ := jacB_rng hj
    obtain ⟨hp, hp2⟩ := primeB_lo hpr
    have Hj := hide hj
    have Hpr := hide hpr
    have Hx := hide hx
    have Hy := hide (posB_are hy)
    rw [hl.out] at n1 n2 n3
    rw [hl2.out] at n3
    subst n3
    rw [hl.out] at q2
    have Hb := hide (show wroC p xs ys k = 0 from hc)
    have Hcd := hcd _ Hb.out
    clear hc hcd hj hpr hx hy
    obtain ⟨K, rfl⟩ : ∃ K : Nat, k = K := ⟨k.toNat, by omega⟩
    have HC := hide (show wroC p xs ys (K : Int) = 0 from Hb.out)
    have HV := hide (show wroV p xs ys (K : Int) = wroM p xs ys K by simp [wroV, HC.out])
    go_enter Try.func29, Try.ntmps29
    go_upto_region 1 with fail
    go_region_held3 (fun w' => w'.cell? ⟨w.heap.size, 0, none⟩ = some (.int .i64 p) ∧ w'.cell? ⟨w.heap.size, 1, none⟩ = some (.slice a m c) ∧ w'.cell? ⟨w.heap.size, 2, none⟩ = some (.slice b m d))
      (exact F _ (by assumption))
      (first
      | (go_at_call 60; refine (sizeOf_any _ _ _ _ _ _ _ _ hn).mono ?_; rintro e w1 ⟨rfl, hb1⟩; have hm1 := bnext hbd hb1)
      | (go_at_call 59; refine (checkJacobi_any _ _ _ _ _ _ _ _ _ _ _ _ _ _ (g1.below hm1) (g2.below hm1) hn hm Hcd.out).mono ?_; rintro e w2 ⟨rfl, hb2⟩; have hm2 := bnext hm1 hb2))
    have hB2 := bnext hb0 hm2
    have z2 := hm2.size
    simp at z2
    have f0 : w2.cell? ⟨w.heap.size, 0, none⟩ = some (.int .i64 p) := cell_be hm2 (by simp [go_sem])
    have f1 : w2.cell? ⟨w.heap.size, 1, none⟩ = some (.slice a m c) := cell_be hm2 (by simp [go_sem])
    have f2 : w2.cell? ⟨w.heap.size, 2, none⟩ = some (.slice b m d) := cell_be hm2 (by simp [go_sem])
    have hbd2 := (Below.refl w2.heap.size w2).drew
    have F2 : ∀ w', Below w2.heap.size w2 w' → w'.cell? ⟨w.heap.size, 0, none⟩ = some (.int .i64 p) ∧ w'.cell? ⟨w.heap.size, 1, none⟩ = some (.slice a m c) ∧ w'.cell? ⟨w.heap.size, 2, none⟩ = some (.slice b m d) := fun w' h => ⟨cell_be h f0, cell_be h f1, cell_be h f2⟩
    have hBd := hB2.trans (hbd2.mono (by omega))
    have v1 : IntKind.i64.wrap (p - 1) = p - 1 := IntWalk.i64_in _ (by omega)
    go_upto_region 4 with fail
    go_region_held3 (fun w' => w'.cell? ⟨w.heap.size, 0, none⟩ = some (.int .i64 p) ∧ w'.cell? ⟨w.heap.size, 1, none⟩ = some (.slice a m c) ∧ w'.cell? ⟨w.heap.size, 2, none⟩ = some (.slice b m d))
      (exact F2 _ (by assumption))
      (first
      | (go_at_call 62; refine (polysOf_any p _ _ _ xs _ _ ys 0 0 w _ hs n1 hp hp2 Hx.out hBd (Nat.zero_le _)).mono ?_; rintro e w3 ⟨B, rfl, hBB, hR, hb3⟩; have hm3 := bnext hbd2 hb3)
      | (go_at_call 64; refine (associatesOf_any p _ _ _ _ _ B (B + 4) w _ hR.hb hR.sz).mono ?_; rintro e w4 ⟨B', rfl, hBB', hQ, hb4⟩; have hm4 := bnext hm3 hb4))
    have zB := hR.lb
    have zB' := hR.sz
    have hR4 := (hR.polys (ys := ys) hp n1).zone hBB' hb4 hQ.sz
    have hQ4 := hQ.seconds (xs := xs) (ys := ys) n1
    clear F2 hm3 hm4 hbd2 hR hQ
    go_wp2_with fail
    refine (goOn_any p _ _ _ xs _ _ ys K (gP p xs ys m) B' (B' + 4) B w _ hs ht Hpr.out Hx.out Hy.out (by omega) (by omega) (gP_step p xs ys m) (fun i => gP_small hp xs ys m i n2) hR4 (.inl (by omega))).mono ?_
    rintro e w5 ⟨ac, cc, rfl, hk5, hR5, ht5⟩
    have hQ5 := hQ4.touch ht5 (.inr (by omega)) (by omega)
    go_wp2_with fail
    refine (goOn_any p _ _ _ xs _ _ ys K (gS p xs ys m) B (B + 4) B' w _ hs ht Hpr.out Hx.out Hy.out (by omega) (by omega) (gS_step p xs ys m) (fun i => gS_small hp xs ys m i n2) hQ5 (.inr (by omega))).mono ?_
    rintro e w6 ⟨ad, cd, rfl, hk6, hQ6, ht6⟩
    have hR6 := hR5.touch ht6 (.inl (by omega)) (by omega)
    replace hk5 := hk5.touchZ ht6
    clear hR5 hQ5 hR4 hQ4
    go_wp2_with fail
    refine (next_any p _ _ _ xs _ _ ys (K + 1) 24 (gS p xs ys m (K + 1)) (gS p xs ys m (K + 2)) B (B + 4) B' w _ hs ht Hpr.out Hx.out Hy.out (by omega) (by omega) (gS_small hp xs ys m _ n2) (gS_small hp xs ys m _ n2) (Nat.le_refl _) hQ6 (.inr (by omega))).mono ?_
    rintro e w7 ⟨ae, ce, rfl, hk7, hQ7, ht7⟩
    have hR7 := hR6.touch ht7 (.inl (by omega)) (by omega)
    replace hk5 := hk5.touchZ ht7
    replace hk6 := hk6.touch ht7
    have sP := gP_small hp xs ys m K n2
    have sQ := gS_small hp xs ys m K n2
    have sP1 := gP_small hp xs ys m (K + 1) n2
    have sQ1 := gS_small hp xs ys m (K + 1) n2
    have lP := sP.2
    have lQ := sQ.2
    have lP1 := sP1.2
    have lQ1 := sQ1.2
    have zw7 := hR7.sz
    go_wp2_with fail
    refine (multiply_any p _ _ _ (gP p xs ys m K) _ _ _ (gS p xs ys m (K + 1)) _ hk5.sl hk7.sl (by omega) (by omega) hp hp2 sP.are sQ1.are).mono ?_
    rintro e w8 ⟨af, cf', rfl, ho8, hb8⟩
    have hR8 := hR7.below hb8
    replace hk6 := hk6.below hb8
    have zw8 := hb8.size
    clear hQ6 hQ7 hR6 hR7
    go_wp2_with fail
    refine (next_any p _ _ _ xs _ _ ys (K + 1) 24 (gP p xs ys m (K + 1)) (gP p xs ys m (K + 2)) B' (B' + 4) B w _ hs ht Hpr.out Hx.out Hy.out (by omega) (by omega) (gP_small hp xs ys m _ n2) (gP_small hp xs ys m _ n2) (Nat.le_refl _) hR8 (.inl (by omega))).mono ?_
    rintro e w9 ⟨ag, cg, rfl, hk9, hR9, ht9⟩
    replace hk6 := hk6.touchZ ht9
    have o8 := (OZ.of ho8 rfl).touch ht9 (.inr (by omega))
    have zw9 := ht9.size
    have hB9 := hR9.hb
    have zw9' := hB9.size
    have m1 := mulM_le p (gP p xs ys m K) (gS p xs ys m (K + 1))
    have m2 := mulM_le p (gS p xs ys m K) (gP p xs ys m (K + 1))
    go_wp2_with fail
    refine (multiply_any p _ _ _ (gS p xs ys m K) _ _ _ (gP p xs ys m (K + 1)) _ hk6.sl hk9.sl (by omega) (by omega) hp hp2 sQ.are sP1.are).mono ?_
    rintro e w10 ⟨ah, ch, rfl, ho10, hb10⟩
    replace o8 := o8.below hb10
    have hB10 := hB9.trans (hb10.mono zw9')
    have zw10 := hB10.size
    go_wp2_with fail
    refine (addMultiple_any p (p - 1) _ _ _ (mulM p (gP p xs ys m K) (gS p xs ys m (K + 1))) _ _ _ (mulM p (gS p xs ys m K) (gP p xs ys m (K + 1))) _ o8.sl ho10.sl (by omega) (by omega) hp hp2 (by omega) (by omega) (mulM_are hp) (mulM_are hp)).mono ?_
    rintro e w11 ⟨ai, ci, rfl, ho11, hb11⟩
    have hB11 := hB10.trans (hb11.mono zw10)
    rw [gP_le (show K ≤ m by omega), gP_le (show K + 1 ≤ m by omega), gS_le (show K ≤ m by omega), gS_le (show K + 1 ≤ m by omega)] at ho11 ⊢
    have hW : Hid (wroV p xs ys K = addM p (mulM p (polJ p xs ys K) (secJ p xs ys (K + 1))) (mulM p (secJ p xs ys K) (polJ p xs ys (K + 1))) (p - 1)) := HV
    go_wp2
    go_ret2
    exact Res1.own HC.out (by rw [hW.out]) (by rw [hW.out]; exact ho11.mono zw10) (by rw [hW.out]; exact Nat.le_trans (addM_len (by rw [← gP_le (show K ≤ m by omega), ← gS_le (show K + 1 ≤ m by omega)]; omega) (by rw [← gS_le (show K ≤ m by omega), ← gP_le (show K + 1 ≤ m by omega)]; omega)) (by omega)) hB11
set_option maxRecDepth 100000 in
set_option maxHeartbeats 1600000 in
theorem specWronskiAt (p : Int) (a : Option Addr) (n c : Nat) (xs : List Int) (b : Option Addr) (m d : Nat) (ys : List Int) (k : Int) (w : World) (hs : SL w a n c xs) (ht : SL w b m d ys) (hn : n ≤ 4000000) (hm : m ≤ 4000000) :
    Calls Try.prog 28 #[jac p a n c b m d, .int .i64 k] w (Res1 w (wroV p xs ys k) (wroC p xs ys k)) := by
  have hl := hide hs.len
  have hl2 := hide ht.len
  have hb0 := bl1 w (.cells #[.int .i64 p, .slice a n c, .slice b m d] 28)
  have g1 := hs.below hb0
  have g2 := ht.below hb0
  have hcd : ∀ C, wroC p xs ys k = C → Hid (jcd p xs ys k 0 ((n : Int) - 1) = C) := fun C h => hide (by rw [← h, wroC, hl.out])
  have hw1 : IntKind.i64.wrap ((n : Int) - 1) = (n : Int) - 1 := IntWalk.i64_in _ (by omega)
  rcases jcd_cases p xs ys k 0 ((xs.length : Int) - 1) with hc | hc | ⟨hc, hj, q1, q2⟩
  · have Hb := hide (show wroC p xs ys k = 1 from hc)
    have HC := hide (show wroC p xs ys k = 1 by exact hc)
    have HV := hide (show wroV p xs ys k = [] by simp [wroV, HC.out])
    have Hcd := hcd _ Hb.out
    clear hc hcd
    go_enter Try.func28, Try.ntmps28
    go_wp2_with fail
    refine (l03Code_any _ _ _ _ _ _ _ _ _ _ _ _ _ _ g1 g2 hn hm Hcd.out).mono ?_
    rintro e w2 ⟨rfl, hm2⟩
    have hB2 := bnext hb0 hm2
    have z2 := hm2.size
    simp at z2
    go_wp2
    go_ret2
    exact Res1.nil HV.out HC.out hB2
  · have Hb := hide (show wroC p xs ys k = 2 from hc)
    have HC := hide (show wroC p xs ys k = 2 by exact hc)
    have HV := hide (show wroV p xs ys k = [] by simp [wroV, HC.out])
    have Hcd := hcd _ Hb.out
    clear hc hcd
    go_enter Try.func28, Try.ntmps28
    go_wp2_with fail
    refine (l03Code_any _ _ _ _ _ _ _ _ _ _ _ _ _ _ g1 g2 hn hm Hcd.out).mono ?_
    rintro e w2 ⟨rfl, hm2⟩
    have hB2 := bnext hb0 hm2
    have z2 := hm2.size
    simp at z2
    go_wp2
    go_ret2
    exact Res1.nil HV.out HC.out hB2
  · obtain ⟨hpr, n1, n2, n3, hx, hy⟩ := jacB_rng hj
    obtain ⟨hp, hp2⟩ := primeB_lo hpr
    have Hj := hide hj
    have Hpr := hide hpr
    have Hx := hide hx
    have Hy := hide (posB_are hy)
    rw [hl.out] at n1 n2 n3
    rw [hl2.out] at n3
    subst n3
    rw [hl.out] at q2
    have Hb := hide (show wroC p xs ys k = 0 from hc)
    have Hcd := hcd _ Hb.out
    clear hc hcd hj hpr hx hy
    obtain ⟨K, rfl⟩ : ∃ K : Nat, k = K := ⟨k.toNat, by omega⟩
    have HC := hide (show wroC p xs ys (K : Int) = 0 from Hb.out)
    have HV := hide (show wroV p xs ys (K : Int) = wroM p xs ys K by simp [wroV, HC.out])
    obtain ⟨K1, hK1⟩ : ∃ K1, K + 1 = K1 := ⟨_, rfl⟩
    have wK : IntKind.i64.wrap ((K : Int) + 1) = (K1 : Int) := by rw [← hK1]; exact IntWalk.i64_in _ (by omega)
    have v1 : IntKind.i64.wrap (p - 1) = p - 1 := IntWalk.i64_in _ (by omega)
    have hK1m : K1 ≤ m := by omega
    have HV2 : Hid (wroV p xs ys K = addM p (mulM p (polJ p xs ys K) (secJ p xs ys K1)) (mulM p (secJ p xs ys K) (polJ p xs ys K1)) (p - 1)) := hide (by rw [HV.out, ← hK1]; rfl)
    clear hK1
    have sP := polJ_small hp xs ys K (by omega)
    have sQ := secJ_small hp xs ys K (by omega)
    have sP1 := polJ_small hp xs ys K1 (by omega)
    have sQ1 := secJ_small hp xs ys K1 (by omega)
    have lP := sP.2
    have lQ := sQ.2
    have lP1 := sP1.2
    have lQ1 := sQ1.2
    have T1 := Lib.hid (mulM_trim Hpr.out sP.1 sQ1.1)
    have T2 := Lib.hid (mulM_trim Hpr.out sQ.1 sP1.1)
    have m1 := mulM_le p (polJ p xs ys K) (secJ p xs ys K1)
    have m2 := mulM_le p (secJ p xs ys K) (polJ p xs ys K1)
    go_enter Try.func28, Try.ntmps28
    go_wp2_with fail
    refine (l03Code_any _ _ _ _ _ _ _ _ _ _ _ _ _ _ g1 g2 hn hm Hcd.out).mono ?_
    rintro e w2 ⟨rfl, hm2⟩
    have hB2 := bnext hb0 hm2
    have z2 := hm2.size
    simp at z2
    have f0 : w2.cell? ⟨w.heap.size, 0, none⟩ = some (.int .i64 p) := cell_be hm2 (by simp [go_sem])
    have f1 : w2.cell? ⟨w.heap.size, 1, none⟩ = some (.slice a m c) := cell_be hm2 (by simp [go_sem])
    have f2 : w2.cell? ⟨w.heap.size, 2, none⟩ = some (.slice b m d) := cell_be hm2 (by simp [go_sem])
    have hbd2 := (Below.refl w2.heap.size w2).drew
    have F2 : ∀ w', Below w2.heap.size w2 w' → w'.cell? ⟨w.heap.size, 0, none⟩ = some (.int .i64 p) ∧ w'.cell? ⟨w.heap.size, 1, none⟩ = some (.slice a m c) ∧ w'.cell? ⟨w.heap.size, 2, none⟩ = some (.slice b m d) := fun w' h => ⟨cell_be h f0, cell_be h f1, cell_be h f2⟩
    have hBd := hB2.trans (hbd2.mono (by omega))
    go_upto_region 5 with fail
    go_region_held3 (fun w' => w'.cell? ⟨w.heap.size, 0, none⟩ = some (.int .i64 p) ∧ w'.cell? ⟨w.heap.size, 1, none⟩ = some (.slice a m c) ∧ w'.cell? ⟨w.heap.size, 2, none⟩ = some (.slice b m d))
      (exact F2 _ (by assumption))
      (first
      | (go_at_call 69; refine (l01Times_any p _ _ _ (secJ p xs ys K) _ _ _ (polJ p xs ys K1) _ (ho6.sl.below hb7) ho7.sl (by omega) (by omega) hp hp2 sQ.are sP1.are).mono ?_; rintro e w8 ⟨a8, c8, rfl, ho8, hb8⟩; have hm8 := bnext hm7 hb8)
      | (go_at_call 58; refine (l03Poly_any p _ _ _ xs _ _ _ ys K1 _ ((g1.below hm2).below hm6) ((g2.below hm2).below hm6) Hj.out (by omega)).mono ?_; rintro e w7 ⟨a7, c7, rfl, ho7, hb7⟩; have hm7 := bnext hm6 hb7)
      | (go_at_call 63; refine (l03Second_any p _ _ _ xs _ _ _ ys K _ ((g1.below hm2).below hm5) ((g2.below hm2).below hm5) Hj.out (by omega)).mono ?_; rintro e w6 ⟨a6, c6, rfl, ho6, hb6⟩; have hm6 := bnext hm5 hb6)
      | (go_at_call 69; refine (l01Times_any p _ _ _ (polJ p xs ys K) _ _ _ (secJ p xs ys K1) _ (ho3.sl.below hb4) ho4.sl (by omega) (by omega) hp hp2 sP.are sQ1.are).mono ?_; rintro e w5 ⟨a5, c5, rfl, ho5, hb5⟩; have hm5 := bnext hm4 hb5)
      | (go_at_call 63; refine (l03Second_any p _ _ _ xs _ _ _ ys K1 _ ((g1.below hm2).below hm3) ((g2.below hm2).below hm3) Hj.out (by omega)).mono ?_; rintro e w4 ⟨a4, c4, rfl, ho4, hb4⟩; have hm4 := bnext hm3 hb4)
      | (go_at_call 58; refine (l03Poly_any p _ _ _ xs _ _ _ ys K _ ((g1.below hm2).below hbd2) ((g2.below hm2).below hbd2) Hj.out (by omega)).mono ?_; rintro e w3 ⟨a3, c3, rfl, ho3, hb3⟩; have hm3 := bnext hbd2 hb3))
    have o5 := ((ho5.sl.below hb6).below hb7).below hb8
    have o8 := ho8.sl
    rw [T1.out] at o5 ⊢
    rw [T2.out] at o8 ⊢
    have hB8 := hB2.trans (hm8.mono (by omega))
    have zw8 := hB8.size
    go_wp2_with fail
    refine (l01Add_any p (p - 1) _ _ _ (mulM p (polJ p xs ys K) (secJ p xs ys K1)) _ _ _ (mulM p (secJ p xs ys K) (polJ p xs ys K1)) _ o5 o8 (by omega) (by omega) hp hp2 (by omega) (by omega) (mulM_are hp) (mulM_are hp)).mono ?_
    rintro e w9 ⟨a9, c9, rfl, ho9, hb9⟩
    have hB9 := hB8.trans (hb9.mono zw8)
    go_wp2
    go_ret2
    exact Res1.own HC.out (by rw [HV2.out]) (by rw [HV2.out]; exact ho9.mono zw8) (by rw [HV2.out]; exact Nat.le_trans (addM_len (by omega) (by omega)) (by omega)) hB9
end Go.Proofs.Ytagheoddbikdgaa
