/- Merged texts. -/
import Derived.Test.YtkpmonopjkjflaaYC418
import Derived.Test.YtkpmonopjkjflaaYC425
/- Contracts: christoffel, ChristoffelAt (program and model). -/
namespace Go.Proofs.Ytkpmonopjkjflaa
open Go.RowKit
set_option linter.unusedVariables false
set_option linter.unusedSimpArgs false

/-- The last polynomial's value, its derivative's value, the weight. -/
def chV (p : Int) (xs ys : List Int) (a : Int) : Int := evM p (polJ p xs ys xs.length) a
def chS (p : Int) (xs ys : List Int) (a : Int) : Int := evM p (derM p (polJ p xs ys xs.length)) a
def chQ (p : Int) (xs ys : List Int) (a : Int) : Int := evM p (secJ p xs ys xs.length) a
def chW (p : Int) (xs ys : List Int) (a : Int) : Int := ys.getD 0 0 * chQ p xs ys a % p * invM p (chS p xs ys a) % p
def chC (p : Int) (xs ys : List Int) (a : Int) : Int := if jacB p xs ys then (if 0 ≤ a ∧ a < p then (if chV p xs ys a = 0 ∧ chS p xs ys a ≠ 0 then 0 else 5) else 2) else 1
def chA (p : Int) (xs ys : List Int) (a : Int) : Int := if chC p xs ys a = 0 then chW p xs ys a else 0
set_option maxRecDepth 100000 in
set_option maxHeartbeats 6400000 in
theorem christoffel_any (p : Int) (a : Option Addr) (m c : Nat) (xs : List Int) (b : Option Addr) (d : Nat) (ys : List Int) (x : Int) (w : World) (hs : SL w a m c xs) (ht : SL w b m d ys) (hj : jacB p xs ys = true) (x0 : 0 ≤ x) (x1 : x < p) :
    Calls Try.prog 114 #[jac p a m c b m d, .int .i64 x] w fun e w' => e = .returned (.tuple #[.int .i64 (if chV p xs ys x = 0 ∧ chS p xs ys x ≠ 0 then chW p xs ys x else 0), .bool (decide (chV p xs ys x = 0 ∧ chS p xs ys x ≠ 0))]) ∧ Below w.heap.size w w' := by
  have hl := hide hs.len
  have hl2 := hide ht.len
  obtain ⟨hpr, n1, n2, n3, hx, hy⟩ := jacB_rng hj
  obtain ⟨hp, hp2⟩ := primeB_lo hpr
  have Hpr := hide hpr
  have Hx := hide hx
  have Hy := hide (posB_are hy)
  rw [hl.out] at n1 n2
  have hb0 := bl1 w (.cells #[.int .i64 p, .slice a m c, .slice b m d] 63)
  have hP1 := polJ_small hp xs ys m (by omega)
  have hQ1 := secJ_small hp xs ys m (by omega)
  obtain ⟨P, hP⟩ : ∃ P, polJ p xs ys m = P := ⟨_, rfl⟩
  obtain ⟨Q, hQ⟩ : ∃ Q, secJ p xs ys m = Q := ⟨_, rfl⟩
  have eV : chV p xs ys x = evM p P x := by unfold chV; rw [hl.out, hP]
  have eS : chS p xs ys x = evM p (derM p P) x := by unfold chS; rw [hl.out, hP]
  have eQ : chQ p xs ys x = evM p Q x := by unfold chQ; rw [hl.out, hQ]
  have rV := evM_rng hp P x
  have rS := evM_rng hp (derM p P) x
  have rQ := evM_rng hp Q x
  obtain ⟨V, hV⟩ : ∃ V, evM p P x = V := ⟨_, rfl⟩
  obtain ⟨S, hS⟩ : ∃ S, evM p (derM p P) x = S := ⟨_, rfl⟩
  obtain ⟨R, hR⟩ : ∃ R, evM p Q x = R := ⟨_, rfl⟩
  rw [hV] at eV rV
  rw [hS] at eS rS
  rw [hR] at eQ rQ
  rw [hP] at hP1
  rw [hQ] at hQ1
  have rY := getD_rng (posB_are hy) hp 0
  obtain ⟨y, hyy⟩ : ∃ y, ys.getD 0 0 = y := ⟨_, rfl⟩
  rw [hyy] at rY
  have eW : Hid (chW p xs ys x = y * R % p * invM p S % p) := hide (by unfold chW; rw [eQ, eS, hyy])
  rw [eV, eS]
  have HV := hide hV
  have HS := hide hS
  have HR := hide hR
  have HP := hide hP
  have HQ := hide hQ
  have HPp := hide hP1.1
  have HPa := hide hP1.are
  have HQa := hide hQ1.are
  have lP : P.length ≤ 13 := Nat.le_trans hP1.2 (by omega)
  have lQ : Q.length ≤ 13 := Nat.le_trans hQ1.2 (by omega)
  have hd := der_zero hpr hP1.1
  have HD1 := hide hd.1
  have HD2 := hide hd.2
  have lD : (derM p P).length ≤ 13 := Nat.le_trans (derM_len p P) lP
  have HDa : Hid (areB p (derM p P) = true) := hide (poly_are (derM_poly hp hP1.1))
  obtain ⟨b2, o2, rfl, hbw2, hc2⟩ := ht.at (show 0 < m by omega)
  have e0 := hc2 0 (by omega)
  rw [hyy, Nat.add_zero] at e0
  have hmd : ys.length = m := hl2.out
  clear hP hQ hV hS hR hyy eQ eV eS hd hP1 hQ1 hc2 hj hpr hx hy n3
  have hbd := (Below.refl (w.alloc (.cells #[.int .i64 p, .slice a m c, .slice (some ⟨b2, o2, none⟩) m d] 63)).heap.size (w.alloc (.cells #[.int .i64 p, .slice a m c, .slice (some ⟨b2, o2, none⟩) m d] 63))).drew
  have F : ∀ w', Below (w.alloc (.cells #[.int .i64 p, .slice a m c, .slice (some ⟨b2, o2, none⟩) m d] 63)).heap.size (w.alloc (.cells #[.int .i64 p, .slice a m c, .slice (some ⟨b2, o2, none⟩) m d] 63)) w' → w'.cell? ⟨w.heap.size, 0, none⟩ = some (.int .i64 p) ∧ w'.cell? ⟨w.heap.size, 1, none⟩ = some (.slice a m c) ∧ w'.cell? ⟨w.heap.size, 2, none⟩ = some (.slice (some ⟨b2, o2, none⟩) m d) := fun w' h => ⟨cell_be h (by simp [go_sem]), cell_be h (by simp [go_sem]), cell_be h (by simp [go_sem])⟩
  go_enter Try.func114, Try.ntmps114
  go_upto_region 2 with fail
  go_cut [7] (fun fv wx => ∃ ac cc, fv = .slice ac P.length cc ∧ Hid (SL wx ac P.length cc P) ∧ Hid (wx.cell? ⟨w.heap.size, 0, none⟩ = some (.int .i64 p) ∧ wx.cell? ⟨w.heap.size, 1, none⟩ = some (.slice a m c) ∧ wx.cell? ⟨w.heap.size, 2, none⟩ = some (.slice (some ⟨b2, o2, none⟩) m d)) ∧ Hid (Below w.heap.size w wx))
  case first =>
    have hm := hbd
    go_region_held3 (fun w' => w'.cell? ⟨w.heap.size, 0, none⟩ = some (.int .i64 p) ∧ w'.cell? ⟨w.heap.size, 1, none⟩ = some (.slice a m c) ∧ w'.cell? ⟨w.heap.size, 2, none⟩ = some (.slice (some ⟨b2, o2, none⟩) m d))
      (first | exact F _ (by assumption) | exact hS4)
      (first
      | (go_at_call 104; refine (polysOf_any p _ _ _ xs _ _ ys 0 0 w _ hs n1 hp hp2 Hx.out (bnext hb0 hm) (Nat.zero_le _)).mono ?_; rintro e w3 ⟨B, rfl, hBB, hR, hb3⟩; have hzB : w.heap.size + 1 ≤ B := Nat.le_trans (Nat.le_trans (by simp) hm.size) hBB; have hm := bnext hm hb3)
      | (go_at_call 106; refine (sizeOf_any _ _ _ _ _ _ _ _ (by omega)).mono ?_; rintro e w4 ⟨rfl, hb4⟩; have hm := bnext hm hb4; (try replace hR := hR.below hb4))
      | (go_at_call 144; refine (goOn_any p _ _ _ xs _ _ ys m (gP p xs ys m) 0 0 B w _ hs ht Hpr.out Hx.out Hy.out (by omega) (by omega) (gP_step p xs ys m) (fun i => gP_small hp xs ys m i n2) (hR.polys hp n1) (.inr (Nat.zero_le _))).mono ?_; rintro e w5 ⟨ac, cc, rfl, hk, hR2, ht4⟩; obtain ⟨s0, s1, s2⟩ := F _ hm; have hS4 := And.intro (ht4.cell s0 (.inl (by omega))) (And.intro (ht4.cell s1 (.inl (by omega))) (ht4.cell s2 (.inl (by omega))))))
    all_goals rw [gP_le (Nat.le_refl _), HP.out] at hk ⊢
    all_goals go_wp2_with fail
    all_goals go_meet
    all_goals exact ⟨ac, cc, rfl, hide hk.sl, hide hS4, hide hR2.hb⟩
  case rest =>
  obtain ⟨ac, cc, rfl, hsP, hF2, hB2⟩ := hcut
  clear hbd F
  obtain ⟨f0, f1, f2⟩ := hF2.out
  obtain ⟨w2, hw2⟩ : ∃ w2, w2 = wc := ⟨wc, rfl⟩
  subst hw2
  go_wp2_with fail
  refine (implDerivativeOf p _ _ _ P _ hsP.out (by omega)).mono ?_
  rintro e w3 ⟨a3, c3, rfl, o3, l3, t3⟩
  rw [HD1.out, HD2.out] at *
  have B3 := bnext hB2.out t3
  have sD := hide o3.sl
  have sP := hide (hsP.out.below t3)
  replace f0 := cell_be t3 f0
  replace f1 := cell_be t3 f1
  replace f2 := cell_be t3 f2
  clear o3 l3 t3 hsP hF2 hB2
  go_wp2_with fail
  refine (evaluateAt_any p x _ _ _ (derM p P) _ sD.out (by omega) hp hp2 x0 x1 HDa.out).mono ?_
  rintro e w4 ⟨rfl, t4⟩
  rw [HS.out]
  have B4 := bnext B3 t4
  replace sP := hide (sP.out.below t4)
  replace f0 := cell_be t4 f0
  replace f1 := cell_be t4 f1
  replace f2 := cell_be t4 f2
  clear t4 sD
  by_cases hv : V = 0
  rotate_left
  · have hv2 : (V != 0) = true := by simpa using hv
    have HN : Hid (¬ (V = 0 ∧ S ≠ 0)) := hide (fun h => hv h.1)
    clear hv
    go_wp2_with fail
    refine (evaluateAt_any p x _ _ _ P _ sP.out (by omega) hp hp2 x0 x1 HPa.out).mono ?_
    rintro e w5 ⟨rfl, t5⟩
    rw [HV.out]
    go_wp2
    (try rw [if_neg HN.out, decide_eq_false HN.out])
    go_ret2
    exact ⟨rfl, bnext B4 t5⟩
  have hv2 : (V != 0) = false := by simpa using hv
  have HV0 := hide hv
  by_cases hss : S = 0
  · have hs2 : decide (S = 0) = true := by simpa using hss
    have hs3 : (S == 0) = true := by simpa using hss
    have HN : Hid (¬ (V = 0 ∧ S ≠ 0)) := hide (fun h => h.2 hss)
    clear hv hss
    go_wp2_with fail
    refine (evaluateAt_any p x _ _ _ P _ sP.out (by omega) hp hp2 x0 x1 HPa.out).mono ?_
    rintro e w5 ⟨rfl, t5⟩
    rw [HV.out]
    go_wp2
    (try rw [if_neg HN.out, decide_eq_false HN.out])
    go_ret2
    exact ⟨rfl, bnext B4 t5⟩
  have hs2 : decide (S = 0) = false := by simpa using hss
  have hs3 : (S == 0) = false := by simpa using hss
  have HN : Hid (V = 0 ∧ S ≠ 0) := hide ⟨hv, hss⟩
  clear hv hss
  go_wp2_with fail
  refine (evaluateAt_any p x _ _ _ P _ sP.out (by omega) hp hp2 x0 x1 HPa.out).mono ?_
  rintro e w5 ⟨rfl, t5⟩
  rw [HV.out]
  have B5 := bnext B4 t5
  replace f0 := cell_be t5 f0
  replace f1 := cell_be t5 f1
  replace f2 := cell_be t5 f2
  clear t5 sP
  have z5 : w.heap.size + 1 ≤ w5.heap.size := by
    have := World.block_lt_of_cell? _ _ f0
    exact this
  have F5 : ∀ w', Below w5.heap.size w5 w' → w'.cell? ⟨w.heap.size, 0, none⟩ = some (.int .i64 p) ∧ w'.cell? ⟨w.heap.size, 1, none⟩ = some (.slice a m c) ∧ w'.cell? ⟨w.heap.size, 2, none⟩ = some (.slice (some ⟨b2, o2, none⟩) m d) := fun w' h => ⟨cell_be h f0, cell_be h f1, cell_be h f2⟩
  have hbd := (Below.refl w5.heap.size w5).drew
  go_upto_region 7 with fail
  go_cut [11] (fun fv wx => fv = .int .i64 R ∧ Hid (wx.cell? ⟨w.heap.size, 0, none⟩ = some (.int .i64 p) ∧ wx.cell? ⟨w.heap.size, 1, none⟩ = some (.slice a m c) ∧ wx.cell? ⟨w.heap.size, 2, none⟩ = some (.slice (some ⟨b2, o2, none⟩) m d)) ∧ Hid (Below w.heap.size w wx))
  case first =>
    have hm := hbd
    go_region_held3 (fun w' => w'.cell? ⟨w.heap.size, 0, none⟩ = some (.int .i64 p) ∧ w'.cell? ⟨w.heap.size, 1, none⟩ = some (.slice a m c) ∧ w'.cell? ⟨w.heap.size, 2, none⟩ = some (.slice (some ⟨b2, o2, none⟩) m d))
      (first | exact F5 _ (by assumption) | exact hS4 | exact hS5)
      (first
      | (go_at_call 146; refine (associatesOf_any p _ _ _ _ _ 0 0 w _ (bnext B5 hm) (Nat.zero_le _)).mono ?_; rintro e w6 ⟨B, rfl, hBB, hR, hb3⟩; have hzB : w.heap.size + 1 ≤ B := Nat.le_trans (Nat.le_trans z5 hm.size) hBB; have hm := bnext hm hb3)
      | (go_at_call 106; refine (sizeOf_any _ _ _ _ _ _ _ _ (by omega)).mono ?_; rintro e w7 ⟨rfl, hb4⟩; have hm := bnext hm hb4; (try replace hR := hR.below hb4))
      | (go_at_call 144; refine (goOn_any p _ _ _ xs _ _ ys m (gS p xs ys m) 0 0 B w _ hs ht Hpr.out Hx.out Hy.out (by omega) (by omega) (gS_step p xs ys m) (fun i => gS_small hp xs ys m i n2) (hR.seconds n1) (.inr (Nat.zero_le _))).mono ?_; rintro e w8 ⟨ac, cc, rfl, hk, hR2, ht4⟩; rw [gS_le (Nat.le_refl _), HQ.out] at hk; (try rw [gS_le (Nat.le_refl _), HQ.out]); obtain ⟨s0, s1, s2⟩ := F5 _ hm; have hS4 := And.intro (ht4.cell s0 (.inl (by omega))) (And.intro (ht4.cell s1 (.inl (by omega))) (ht4.cell s2 (.inl (by omega)))))
      | (go_at_call 105; refine (evaluateAt_any p x _ _ _ Q _ hk.sl (by omega) hp hp2 x0 x1 HQa.out).mono ?_; rintro e w9 ⟨rfl, hb5⟩; rw [HR.out]; have hB5 := bnext hR2.hb hb5; obtain ⟨s0, s1, s2⟩ := hS4; have hS5 := And.intro (cell_be hb5 s0) (And.intro (cell_be hb5 s1) (cell_be hb5 s2))))
    all_goals go_wp2_with fail
    all_goals go_meet
    all_goals exact ⟨rfl, hide hS5, hide hB5⟩
  case rest =>
  obtain ⟨rfl, hF6, hB6⟩ := hcut
  clear hbd F5 f0 f1 f2
  obtain ⟨f0, f1, f2⟩ := hF6.out
  obtain ⟨m1, m2⟩ := mulb rY.1 rY.2 rQ.1 rQ.2 hp2
  have v1 : IntKind.i64.wrap (y * R) = y * R := IntWalk.i64_in _ (by omega)
  have v2 : (y * R).tmod p = y * R % p := Int.tmod_eq_emod_of_nonneg m1
  have rF := modb (x := y * R) hp
  obtain ⟨G, hG⟩ : ∃ G, y * R % p = G := ⟨_, rfl⟩
  rw [hG] at v2 rF
  have v3 : IntKind.i64.wrap G = G := IntWalk.i64_in _ (by omega)
  have rI := invM_rng S hp
  obtain ⟨I, hI⟩ : ∃ I, invM p S = I := ⟨_, rfl⟩
  rw [hI] at rI
  have eW2 : Hid (chW p xs ys x = G * I % p) := hide (by rw [eW.out, hG, hI])
  have HI := hide hI
  obtain ⟨k1, k2⟩ := mulb rF.1 rF.2 rI.1 rI.2 hp2
  have v4 : IntKind.i64.wrap (G * I) = G * I := IntWalk.i64_in _ (by omega)
  have v5 : (G * I).tmod p = G * I % p := Int.tmod_eq_emod_of_nonneg k1
  have rK := modb (x := G * I) hp
  obtain ⟨K, hK⟩ : ∃ K, G * I % p = K := ⟨_, rfl⟩
  rw [hK] at v5 rK
  have v6 : IntKind.i64.wrap K = K := IntWalk.i64_in _ (by omega)
  have eW3 : Hid (chW p xs ys x = K) := hide (by rw [eW2.out, hK])
  have hp0 : ¬ p = 0 := by omega
  have e1 := cell_be hB6.out e0
  have hlt0 : (0 : Int) < (m : Int) := by omega
  have hm0 : 0 < m := n1
  have hm1 : ¬ m = 0 := by omega
  obtain ⟨w6, hw6⟩ : ∃ w6, w6 = wc := ⟨wc, rfl⟩
  subst hw6
  have F6 : ∀ w', Below w6.heap.size w6 w' → w'.cell? ⟨w.heap.size, 2, none⟩ = some (.slice (some ⟨b2, o2, none⟩) m d) ∧ w'.cell? ⟨b2, o2, none⟩ = some (.int .i64 y) := fun w' h => ⟨cell_be h f2, cell_be h e1⟩
  have hbd := (Below.refl w6.heap.size w6).drew
  clear hG hI hK e0 m1 m2 k1 k2 f0 f1 f2 hF6 eW eW2
  go_upto_region 8 with fail
  go_region_held3 (fun w' => w'.cell? ⟨w.heap.size, 2, none⟩ = some (.slice (some ⟨b2, o2, none⟩) m d) ∧ w'.cell? ⟨b2, o2, none⟩ = some (.int .i64 y))
    (first | exact F6 _ (by assumption))
    (first
    | (go_at_call 107; refine (inverse_any p S _ hp hp2 rS.1 rS.2).mono ?_; rintro e w7 ⟨rfl, hb7⟩; have hm := bnext hbd hb7; rw [HI.out]))
  all_goals go_wp2
  all_goals (try rw [if_pos HN.out, decide_eq_true HN.out])
  all_goals rw [eW3.out]
  all_goals go_ret2
  all_goals exact ⟨rfl, bnext hB6.out hm⟩
set_option maxRecDepth 100000 in
set_option maxHeartbeats 1600000 in
theorem implChristoffelAt (p : Int) (a : Option Addr) (n c : Nat) (xs : List Int) (b : Option Addr) (m d : Nat) (ys : List Int) (x : Int) (w : World) (hs : SL w a n c xs) (ht : SL w b m d ys) (hn : n ≤ 4000000) (hm : m ≤ 4000000) :
    Calls Try.prog 62 #[jac p a n c b m d, .int .i64 x] w fun e w' => e = .returned (.tuple #[.int .i64 (chA p xs ys x), .int .i64 (chC p xs ys x)]) ∧ Below w.heap.size w w' := by
  have hl := hide hs.len
  have hl2 := hide ht.len
  have hb0 := bl1 w (.cells #[.int .i64 p, .slice a n c, .slice b m d] 63)
  have g1 := hs.below hb0
  have g2 := ht.below hb0
  cases hj : jacB p xs ys
  · have HC := hide (show chC p xs ys x = 1 by simp [chC, hj])
    have HV := hide (show chA p xs ys x = 0 by simp [chA, HC.out])
    have Hj := hide hj
    clear hj
    go_enter Try.func62, Try.ntmps62
    go_wp2_with fail
    refine (implIsJacobi _ _ _ _ _ _ _ _ _ _ g1 g2 hn hm).mono ?_
    rintro e w1 ⟨rfl, t1⟩
    rw [Hj.out]
    go_wp2
    go_ret2
    exact ⟨by rw [HV.out, HC.out] <;> rfl, bnext hb0 t1⟩
  have Hj := hide hj
  obtain ⟨hpr, n1, n2, n3, hx, hy⟩ := jacB_rng hj
  obtain ⟨hp, hp2⟩ := primeB_lo hpr
  rw [hl.out] at n1 n2 n3
  rw [hl2.out] at n3
  subst n3
  by_cases hxx : 0 ≤ x ∧ x < p
  rotate_left
  · have HC := hide (show chC p xs ys x = 2 by simp [chC, hj, hxx])
    have HV := hide (show chA p xs ys x = 0 by simp [chA, HC.out])
    have Hn := hide hxx
    clear hj hxx hpr hx hy
    go_enter Try.func62, Try.ntmps62
    go_wp2_with fail
    refine (implIsJacobi _ _ _ _ _ _ _ _ _ _ g1 g2 hn hm).mono ?_
    rintro e w1 ⟨rfl, t1⟩
    rw [Hj.out]
    have f0 : w1.cell? ⟨w.heap.size, 0, none⟩ = some (.int .i64 p) := cell_be t1 (by simp [go_sem])
    go_wp2_with fail
    refine (isNumber_no _ _ _ Hn.out).mono ?_
    rintro e w2' ⟨rfl, rfl⟩
    go_wp2
    go_ret2
    exact ⟨by rw [HV.out, HC.out] <;> rfl, bnext hb0 t1⟩
  obtain ⟨x0, x1⟩ := hxx
  have hxx : 0 ≤ x ∧ x < p := ⟨x0, x1⟩
  by_cases hq : chV p xs ys x = 0 ∧ chS p xs ys x ≠ 0
  · have HC := hide (show chC p xs ys x = 0 by simp only [chC, hj, if_true]; rw [if_pos hxx, if_pos hq])
    have HV := hide (show chA p xs ys x = chW p xs ys x by unfold chA; rw [HC.out, if_pos rfl])
    have HQ := hide hq
    clear hj hpr hx hy hq hxx
    go_enter Try.func62, Try.ntmps62
    go_wp2_with fail
    refine (implIsJacobi _ _ _ _ _ _ _ _ _ _ g1 g2 hn hm).mono ?_
    rintro e w1 ⟨rfl, t1⟩
    rw [Hj.out]
    have f0 : w1.cell? ⟨w.heap.size, 0, none⟩ = some (.int .i64 p) := cell_be t1 (by simp [go_sem])
    have f1 : w1.cell? ⟨w.heap.size, 1, none⟩ = some (.slice a m c) := cell_be t1 (by simp [go_sem])
    have f2 : w1.cell? ⟨w.heap.size, 2, none⟩ = some (.slice b m d) := cell_be t1 (by simp [go_sem])
    go_wp2_with fail
    refine (isNumber_yes _ _ _ x0 x1).mono ?_
    rintro e w2' ⟨rfl, rfl⟩
    go_wp2_with fail
    refine (christoffel_any p _ _ _ xs _ _ ys x _ (g1.below t1) (g2.below t1) Hj.out x0 x1).mono ?_
    rintro e w3 ⟨rfl, t3⟩
    rw [if_pos HQ.out, decide_eq_true HQ.out]
    go_wp2
    go_ret2
    exact ⟨by rw [HV.out, HC.out] <;> rfl, bnext (bnext hb0 t1) t3⟩
  · have HC := hide (show chC p xs ys x = 5 by simp only [chC, hj, if_true]; rw [if_pos hxx, if_neg hq])
    have HV := hide (show chA p xs ys x = 0 by unfold chA; rw [HC.out]; rfl)
    have HQ := hide hq
    clear hj hpr hx hy hq hxx
    go_enter Try.func62, Try.ntmps62
    go_wp2_with fail
    refine (implIsJacobi _ _ _ _ _ _ _ _ _ _ g1 g2 hn hm).mono ?_
    rintro e w1 ⟨rfl, t1⟩
    rw [Hj.out]
    have f0 : w1.cell? ⟨w.heap.size, 0, none⟩ = some (.int .i64 p) := cell_be t1 (by simp [go_sem])
    have f1 : w1.cell? ⟨w.heap.size, 1, none⟩ = some (.slice a m c) := cell_be t1 (by simp [go_sem])
    have f2 : w1.cell? ⟨w.heap.size, 2, none⟩ = some (.slice b m d) := cell_be t1 (by simp [go_sem])
    go_wp2_with fail
    refine (isNumber_yes _ _ _ x0 x1).mono ?_
    rintro e w2' ⟨rfl, rfl⟩
    go_wp2_with fail
    refine (christoffel_any p _ _ _ xs _ _ ys x _ (g1.below t1) (g2.below t1) Hj.out x0 x1).mono ?_
    rintro e w3 ⟨rfl, t3⟩
    rw [if_neg HQ.out, decide_eq_false HQ.out]
    go_wp2
    go_ret2
    exact ⟨by rw [HV.out, HC.out] <;> rfl, bnext (bnext hb0 t1) t3⟩
end Go.Proofs.Ytkpmonopjkjflaa
/- Contracts: l07Christoffel, ChristoffelAt (model). -/
namespace Go.Proofs.Ytkpmonopjkjflaa
open Go.RowKit
set_option linter.unusedVariables false
set_option linter.unusedSimpArgs false

set_option maxRecDepth 100000 in
set_option maxHeartbeats 6400000 in
theorem l07Chr_any (p : Int) (a : Option Addr) (m c : Nat) (xs : List Int) (b : Option Addr) (d : Nat) (ys : List Int) (x : Int) (w : World) (hs : SL w a m c xs) (ht : SL w b m d ys) (hj : jacB p xs ys = true) (x0 : 0 ≤ x) (x1 : x < p) :
    Calls Try.prog 113 #[jac p a m c b m d, .int .i64 x] w fun e w' => e = .returned (.int .i64 (chW p xs ys x)) ∧ Below w.heap.size w w' := by
  have hl := hide hs.len
  have hl2 := hide ht.len
  obtain ⟨hpr, n1, n2, n3, hx, hy⟩ := jacB_rng hj
  obtain ⟨hp, hp2⟩ := primeB_lo hpr
  have Hpr := hide hpr
  have Hx := hide hx
  have Hy := hide (posB_are hy)
  rw [hl.out] at n1 n2
  have hb0 := bl1 w (.cells #[.int .i64 p, .slice a m c, .slice b m d] 63)
  have hP1 := polJ_small hp xs ys m (by omega)
  have hQ1 := secJ_small hp xs ys m (by omega)
  obtain ⟨P, hP⟩ : ∃ P, polJ p xs ys m = P := ⟨_, rfl⟩
  obtain ⟨Q, hQ⟩ : ∃ Q, secJ p xs ys m = Q := ⟨_, rfl⟩
  have eV : chV p xs ys x = evM p P x := by unfold chV; rw [hl.out, hP]
  have eS : chS p xs ys x = evM p (derM p P) x := by unfold chS; rw [hl.out, hP]
  have eQ : chQ p xs ys x = evM p Q x := by unfold chQ; rw [hl.out, hQ]
  have rV := evM_rng hp P x
  have rS := evM_rng hp (derM p P) x
  have rQ := evM_rng hp Q x
  obtain ⟨V, hV⟩ : ∃ V, evM p P x = V := ⟨_, rfl⟩
  obtain ⟨S, hS⟩ : ∃ S, evM p (derM p P) x = S := ⟨_, rfl⟩
  obtain ⟨R, hR⟩ : ∃ R, evM p Q x = R := ⟨_, rfl⟩
  rw [hV] at eV rV
  rw [hS] at eS rS
  rw [hR] at eQ rQ
  rw [hP] at hP1
  rw [hQ] at hQ1
  have rY := getD_rng (posB_are hy) hp 0
  obtain ⟨y, hyy⟩ : ∃ y, ys.getD 0 0 = y := ⟨_, rfl⟩
  rw [hyy] at rY
  have eW : Hid (chW p xs ys x = y * R % p * invM p S % p) := hide (by unfold chW; rw [eQ, eS, hyy])
  have HV := hide hV
  have HS := hide hS
  have HR := hide hR
  have HP := hide hP
  have HQ := hide hQ
  have HPp := hide hP1.1
  have Hj := hide hj
  have HPa := hide hP1.are
  have HQa := hide hQ1.are
  have lP : P.length ≤ 13 := Nat.le_trans hP1.2 (by omega)
  have lQ : Q.length ≤ 13 := Nat.le_trans hQ1.2 (by omega)
  have hd := der_zero hpr hP1.1
  have HD1 := hide hd.1
  have HD2 := hide hd.2
  have lD : (derM p P).length ≤ 13 := Nat.le_trans (derM_len p P) lP
  have HDa : Hid (areB p (derM p P) = true) := hide (poly_are (derM_poly hp hP1.1))
  obtain ⟨b2, o2, rfl, hbw2, hc2⟩ := ht.at (show 0 < m by omega)
  have e0 := hc2 0 (by omega)
  rw [hyy, Nat.add_zero] at e0
  have hmd : ys.length = m := hl2.out
  clear hP hQ hV hS hR hyy eQ eV eS hd hP1 hQ1 hc2 hj hpr hx hy n3 rV HV
  have g1 := hs.below hb0
  have g2 := ht.below hb0
  obtain ⟨m1, m2⟩ := mulb rY.1 rY.2 rQ.1 rQ.2 hp2
  have v1 : IntKind.i64.wrap (y * R) = y * R := IntWalk.i64_in _ (by omega)
  have v2 : (y * R).tmod p = y * R % p := Int.tmod_eq_emod_of_nonneg m1
  have rF := modb (x := y * R) hp
  obtain ⟨G, hG⟩ : ∃ G, y * R % p = G := ⟨_, rfl⟩
  rw [hG] at v2 rF
  have v3 : IntKind.i64.wrap G = G := IntWalk.i64_in _ (by omega)
  have rI := invM_rng S hp
  obtain ⟨I, hI⟩ : ∃ I, invM p S = I := ⟨_, rfl⟩
  rw [hI] at rI
  have eW2 : Hid (chW p xs ys x = G * I % p) := hide (by rw [eW.out, hG, hI])
  have HI := hide hI
  obtain ⟨k1, k2⟩ := mulb rF.1 rF.2 rI.1 rI.2 hp2
  have v4 : IntKind.i64.wrap (G * I) = G * I := IntWalk.i64_in _ (by omega)
  have v5 : (G * I).tmod p = G * I % p := Int.tmod_eq_emod_of_nonneg k1
  have rK := modb (x := G * I) hp
  obtain ⟨K, hK⟩ : ∃ K, G * I % p = K := ⟨_, rfl⟩
  rw [hK] at v5 rK
  have v6 : IntKind.i64.wrap K = K := IntWalk.i64_in _ (by omega)
  have eW3 : Hid (chW p xs ys x = K) := hide (by rw [eW2.out, hK])
  have hp0 : ¬ p = 0 := by omega
  have hlt0 : (0 : Int) < (m : Int) := by omega
  have hm0 : 0 < m := n1
  have hm1 : ¬ m = 0 := by omega
  clear hG hI hK m1 m2 k1 k2 eW eW2
  go_enter Try.func113, Try.ntmps113
  go_upto_region 1 with fail
  go_quiet (fail)
  obtain ⟨w1, hw1⟩ : ∃ w1 : World, w1 = (w.alloc (.cells #[.int .i64 p, .slice a m c, .slice (some ⟨b2, o2, none⟩) m d] 63)).drewN nq := ⟨_, rfl⟩
  have B1 : Below w.heap.size w w1 := by rw [hw1]; exact below_drewN hb0 _
  have f0 : w1.cell? ⟨w.heap.size, 0, none⟩ = some (.int .i64 p) := by rw [hw1]; simp [go_sem]
  have f1 : w1.cell? ⟨w.heap.size, 1, none⟩ = some (.slice a m c) := by rw [hw1]; simp [go_sem]
  have f2 : w1.cell? ⟨w.heap.size, 2, none⟩ = some (.slice (some ⟨b2, o2, none⟩) m d) := by rw [hw1]; simp [go_sem]
  rw [← hw1]
  clear hw1
  go_wp2_with fail
  refine (l03Poly_any p _ _ _ xs _ _ _ ys m _ (hs.below B1) (ht.below B1) Hj.out (Nat.le_refl _)).mono ?_
  rintro e w2 ⟨a2, c2, rfl, ho2, t2⟩
  rw [HP.out] at ho2 ⊢
  have B2 := bnext B1 t2
  replace f0 := cell_be t2 f0
  replace f1 := cell_be t2 f1
  replace f2 := cell_be t2 f2
  have sP := hide ho2.sl
  clear ho2 t2
  go_wp2_with fail
  refine (l01Derive_any p _ _ _ P _ sP.out (by omega) hp hp2 HPa.out).mono ?_
  rintro e w3 ⟨a3, c3, rfl, ho3, t3⟩
  have B3 := bnext B2 t3
  replace f0 := cell_be t3 f0
  replace f1 := cell_be t3 f1
  replace f2 := cell_be t3 f2
  have sD := hide ho3.sl
  clear ho3 t3
  go_wp2_with fail
  refine (l01At_any p x _ _ _ (derM p P) _ sD.out (by omega) hp hp2 x0 x1 HDa.out).mono ?_
  rintro e w4 ⟨rfl, rfl⟩
  rw [HS.out]
  have e1 := cell_be B3 e0
  have F3 : ∀ w', Below w3.heap.size w3 w' → w'.cell? ⟨w.heap.size, 0, none⟩ = some (.int .i64 p) ∧ w'.cell? ⟨w.heap.size, 1, none⟩ = some (.slice a m c) ∧ w'.cell? ⟨w.heap.size, 2, none⟩ = some (.slice (some ⟨b2, o2, none⟩) m d) ∧ w'.cell? ⟨b2, o2, none⟩ = some (.int .i64 y) := fun w' h => ⟨cell_be h f0, cell_be h f1, cell_be h f2, cell_be h e1⟩
  have hbd := (Below.refl w3.heap.size w3).drew
  have s1 := hs.below B3
  have s2 := ht.below B3
  clear sP sD e0 e1 f0 f1 f2
  go_upto_region 3 with fail
  have hm := hbd
  go_region_held3 (fun w' => w'.cell? ⟨w.heap.size, 0, none⟩ = some (.int .i64 p) ∧ w'.cell? ⟨w.heap.size, 1, none⟩ = some (.slice a m c) ∧ w'.cell? ⟨w.heap.size, 2, none⟩ = some (.slice (some ⟨b2, o2, none⟩) m d) ∧ w'.cell? ⟨b2, o2, none⟩ = some (.int .i64 y))
    (first | exact F3 _ (by assumption))
    (first
    | (go_at_call 143; refine (l03Second_any p _ _ _ xs _ _ _ ys m _ (s1.below hm) (s2.below hm) Hj.out (Nat.le_refl _)).mono ?_; rintro e w5 ⟨a5, c5, rfl, ho5, t5⟩; rw [HQ.out] at ho5; (try rw [HQ.out]); have sQ := ho5.sl; have hm := bnext hm t5)
    | (go_at_call 97; refine (l01At_any p x _ _ _ Q _ sQ (by omega) hp hp2 x0 x1 HQa.out).mono ?_; rintro e w6 ⟨rfl, rfl⟩; rw [HR.out])
    | (go_at_call 96; refine (l01Inverse_any p S _ hp hp2 rS.1 rS.2).mono ?_; rintro e w7 ⟨rfl, rfl⟩; rw [HI.out]))
  all_goals go_wp2
  all_goals rw [eW3.out]
  all_goals go_ret
  all_goals exact ⟨rfl, bnext B3 hm⟩
theorem l01At_v (p x : Int) (a1 : Option Addr) (n1 c1 : Nat) (f : List Int) (v : Int) (w : World) (h1 : SL w a1 n1 c1 f) (b1 : n1 ≤ 1000) (hp : 2 ≤ p) (hp2 : p ≤ 10007) (hx0 : 0 ≤ x) (hx1 : x < p) (hf : areB p f = true) (hv : evM p f x = v) :
    Calls Try.prog 97 #[.int .i64 p, .slice a1 n1 c1, .int .i64 x] w fun e w' => e = .returned (.int .i64 v) ∧ w = w' := by
  subst hv
  exact l01At_any p x a1 n1 c1 f w h1 b1 hp hp2 hx0 hx1 hf
set_option maxRecDepth 100000 in
set_option maxHeartbeats 3200000 in
theorem specChristoffelAt (p : Int) (a : Option Addr) (n c : Nat) (xs : List Int) (b : Option Addr) (m d : Nat) (ys : List Int) (x : Int) (w : World) (hs : SL w a n c xs) (ht : SL w b m d ys) (hn : n ≤ 4000000) (hm : m ≤ 4000000) :
    Calls Try.prog 61 #[jac p a n c b m d, .int .i64 x] w fun e w' => e = .returned (.tuple #[.int .i64 (chA p xs ys x), .int .i64 (chC p xs ys x)]) ∧ Below w.heap.size w w' := by
  have hl := hide hs.len
  have hl2 := hide ht.len
  have hb0 := bl1 w (.cells #[.int .i64 p, .slice a n c, .slice b m d] 63)
  have g1 := hs.below hb0
  have g2 := ht.below hb0
  cases hj : jacB p xs ys
  · have HC := hide (show chC p xs ys x = 1 by simp [chC, hj])
    have HV := hide (show chA p xs ys x = 0 by simp [chA, HC.out])
    have Hj := hide hj
    clear hj
    go_enter Try.func61, Try.ntmps61
    go_wp2_with fail
    refine (l03Is_any _ _ _ _ _ _ _ _ _ _ g1 g2 hn hm).mono ?_
    rintro e w1 ⟨rfl, t1⟩
    rw [Hj.out]
    go_wp2
    go_ret2
    exact ⟨by rw [HV.out, HC.out] <;> rfl, bnext hb0 t1⟩
  have Hj := hide hj
  obtain ⟨hpr, n1, n2, n3, hx, hy⟩ := jacB_rng hj
  obtain ⟨hp, hp2⟩ := primeB_lo hpr
  rw [hl.out] at n1 n2 n3
  rw [hl2.out] at n3
  subst n3
  by_cases hxx : 0 ≤ x ∧ x < p
  rotate_left
  · have HC := hide (show chC p xs ys x = 2 by simp [chC, hj, hxx])
    have HV := hide (show chA p xs ys x = 0 by simp [chA, HC.out])
    have Hn2 : Hid (¬ (0 ≤ x ∧ x ≤ p - 1)) := hide (by omega)
    clear hj hxx hpr hx hy
    go_enter Try.func61, Try.ntmps61
    go_wp2_with fail
    refine (l03Is_any _ _ _ _ _ _ _ _ _ _ g1 g2 hn hm).mono ?_
    rintro e w1 ⟨rfl, t1⟩
    rw [Hj.out]
    have f0 : w1.cell? ⟨w.heap.size, 0, none⟩ = some (.int .i64 p) := cell_be t1 (by simp [go_sem])
    go_wp2_with fail
    refine (l01In_no _ _ _ _ Hn2.out).mono ?_
    rintro e w2' ⟨rfl, rfl⟩
    go_wp2
    go_ret2
    exact ⟨by rw [HV.out, HC.out] <;> rfl, bnext hb0 t1⟩
  obtain ⟨x0, x1⟩ := hxx
  have hxx : 0 ≤ x ∧ x < p := ⟨x0, x1⟩
  have x2 : x ≤ p - 1 := by omega
  have hP1 := polJ_small hp xs ys m (by omega)
  have eV : chV p xs ys x = evM p (polJ p xs ys m) x := by unfold chV; rw [hl.out]
  have eS : chS p xs ys x = evM p (derM p (polJ p xs ys m)) x := by unfold chS; rw [hl.out]
  obtain ⟨P, hP⟩ : ∃ P, polJ p xs ys m = P := ⟨_, rfl⟩
  rw [hP] at hP1 eV eS
  obtain ⟨V, hV⟩ : ∃ V, chV p xs ys x = V := ⟨_, rfl⟩
  obtain ⟨S, hS⟩ : ∃ S, chS p xs ys x = S := ⟨_, rfl⟩
  rw [hV] at eV
  rw [hS] at eS
  have HC0 : Hid (chC p xs ys x = if V = 0 ∧ S ≠ 0 then 0 else 5) := hide (by simp only [chC, hj, if_true]; rw [if_pos hxx, hV, hS])
  have HPa := hide hP1.are
  have lP : P.length ≤ 13 := Nat.le_trans hP1.2 (by omega)
  have lD : (derM p P).length ≤ 13 := Nat.le_trans (derM_len p P) lP
  have HDa : Hid (areB p (derM p P) = true) := hide (poly_are (derM_poly hp hP1.1))
  have HP := hide hP
  have HV := hide eV.symm
  have HS := hide eS.symm
  clear hP hV hS eV eS hj hpr hx hy hxx hP1
  have hgo : Hid (∀ (Q : Ending → World → Prop), True) := hide fun _ => trivial
  clear hgo
  by_cases hv : V = 0
  rotate_left
  · have hv2 : (V != 0) = true := by simpa using hv
    have HC := hide (show chC p xs ys x = 5 by rw [HC0.out, if_neg (fun h => hv h.1)])
    have HA := hide (show chA p xs ys x = 0 by unfold chA; rw [HC.out]; rfl)
    clear hv
    go_enter Try.func61, Try.ntmps61
    go_wp2_with fail
    refine (l03Is_any _ _ _ _ _ _ _ _ _ _ g1 g2 hn hm).mono ?_
    rintro e w1 ⟨rfl, t1⟩
    rw [Hj.out]
    have f0 : w1.cell? ⟨w.heap.size, 0, none⟩ = some (.int .i64 p) := cell_be t1 (by simp [go_sem])
    have f1 : w1.cell? ⟨w.heap.size, 1, none⟩ = some (.slice a m c) := cell_be t1 (by simp [go_sem])
    have f2 : w1.cell? ⟨w.heap.size, 2, none⟩ = some (.slice b m d) := cell_be t1 (by simp [go_sem])
    have B1 := bnext hb0 t1
    clear t1
    go_wp2_with fail
    refine (l01In_yes _ _ _ _ x0 x2).mono ?_
    rintro e w2' ⟨rfl, rfl⟩
    go_wp2_with fail
    refine (l03Poly_any p _ _ _ xs _ _ _ ys m _ (hs.below B1) (ht.below B1) Hj.out (Nat.le_refl _)).mono ?_
    rintro e w2 ⟨a2, c2, rfl, ho2, t2⟩
    rw [HP.out] at ho2 ⊢
    have B2 := bnext B1 t2
    replace f0 := cell_be t2 f0
    replace f1 := cell_be t2 f1
    replace f2 := cell_be t2 f2
    have sP := hide ho2.sl
    have F : ∀ w', Below w2.heap.size w2 w' → w'.cell? ⟨w.heap.size, 0, none⟩ = some (.int .i64 p) ∧ w'.cell? ⟨w.heap.size, 1, none⟩ = some (.slice a m c) ∧ w'.cell? ⟨w.heap.size, 2, none⟩ = some (.slice b m d) := fun w' h => ⟨cell_be h f0, cell_be h f1, cell_be h f2⟩
    have hbd := (Below.refl w2.heap.size w2).drew
    clear ho2 t2
    go_upto_region 6 with fail
    go_quiet (first
      | (go_at_call 97; refine Calls.quiet_of_same (still_of (l01At_v p x a2 P.length c2 P V _ (sP.out.below (below_drewN (Below.refl _ _) _)) (by omega) hp hp2 x0 x1 HPa.out HV.out))))
    go_wp2
    go_ret2
    exact ⟨by rw [HA.out, HC.out] <;> rfl, below_drewN B2 _⟩
  have hv2 : (V != 0) = false := by simpa using hv
  by_cases hss : S = 0
  · have hs2 : decide (S = 0) = true := by simpa using hss
    have hs3 : (S == 0) = true := by simpa using hss
    have HC := hide (show chC p xs ys x = 5 by rw [HC0.out, if_neg (fun h => h.2 hss)])
    have HA := hide (show chA p xs ys x = 0 by unfold chA; rw [HC.out]; rfl)
    clear hv hss
    go_enter Try.func61, Try.ntmps61
    go_wp2_with fail
    refine (l03Is_any _ _ _ _ _ _ _ _ _ _ g1 g2 hn hm).mono ?_
    rintro e w1 ⟨rfl, t1⟩
    rw [Hj.out]
    have f0 : w1.cell? ⟨w.heap.size, 0, none⟩ = some (.int .i64 p) := cell_be t1 (by simp [go_sem])
    have f1 : w1.cell? ⟨w.heap.size, 1, none⟩ = some (.slice a m c) := cell_be t1 (by simp [go_sem])
    have f2 : w1.cell? ⟨w.heap.size, 2, none⟩ = some (.slice b m d) := cell_be t1 (by simp [go_sem])
    have B1 := bnext hb0 t1
    clear t1
    go_wp2_with fail
    refine (l01In_yes _ _ _ _ x0 x2).mono ?_
    rintro e w2' ⟨rfl, rfl⟩
    go_wp2_with fail
    refine (l03Poly_any p _ _ _ xs _ _ _ ys m _ (hs.below B1) (ht.below B1) Hj.out (Nat.le_refl _)).mono ?_
    rintro e w2 ⟨a2, c2, rfl, ho2, t2⟩
    rw [HP.out] at ho2 ⊢
    have B2 := bnext B1 t2
    replace f0 := cell_be t2 f0
    replace f1 := cell_be t2 f1
    replace f2 := cell_be t2 f2
    have sP := hide ho2.sl
    have F : ∀ w', Below w2.heap.size w2 w' → w'.cell? ⟨w.heap.size, 0, none⟩ = some (.int .i64 p) ∧ w'.cell? ⟨w.heap.size, 1, none⟩ = some (.slice a m c) ∧ w'.cell? ⟨w.heap.size, 2, none⟩ = some (.slice b m d) := fun w' h => ⟨cell_be h f0, cell_be h f1, cell_be h f2⟩
    have hbd := (Below.refl w2.heap.size w2).drew
    clear ho2 t2
    go_upto_region 6 with fail
    have hm := hbd
    go_region_held3 (fun w' => w'.cell? ⟨w.heap.size, 0, none⟩ = some (.int .i64 p) ∧ w'.cell? ⟨w.heap.size, 1, none⟩ = some (.slice a m c) ∧ w'.cell? ⟨w.heap.size, 2, none⟩ = some (.slice b m d))
      (first | exact F _ (by assumption))
      (first
      | (go_at_call 97; go_fit (l01At_any p x a2 P.length c2 P _ (sP.out.below hm) (by omega) hp hp2 x0 x1 HPa.out); rintro e w6 ⟨rfl, rfl⟩; rw [HV.out])
      | (go_at_call 112; refine (l01Derive_any p _ _ _ P _ (sP.out.below hm) (by omega) hp hp2 HPa.out).mono ?_; rintro e w7 ⟨a3, c3, rfl, ho3, t3⟩; have sD := ho3.sl; have hm := bnext hm t3)
      | (go_at_call 97; go_fit (l01At_any p x a3 (derM p P).length c3 (derM p P) _ sD (by omega) hp hp2 x0 x1 HDa.out); rintro e w8 ⟨rfl, rfl⟩; rw [HS.out]))
    all_goals go_wp2
    all_goals go_ret2
    all_goals exact ⟨by rw [HA.out, HC.out] <;> rfl, bnext B2 hm⟩
  have hs2 : decide (S = 0) = false := by simpa using hss
  have hs3 : (S == 0) = false := by simpa using hss
  have HC := hide (show chC p xs ys x = 0 by rw [HC0.out, if_pos ⟨hv, hss⟩])
  have HA := hide (show chA p xs ys x = chW p xs ys x by unfold chA; rw [HC.out]; rfl)
  clear hv hss
  go_enter Try.func61, Try.ntmps61
  go_wp2_with fail
  refine (l03Is_any _ _ _ _ _ _ _ _ _ _ g1 g2 hn hm).mono ?_
  rintro e w1 ⟨rfl, t1⟩
  rw [Hj.out]
  have f0 : w1.cell? ⟨w.heap.size, 0, none⟩ = some (.int .i64 p) := cell_be t1 (by simp [go_sem])
  have f1 : w1.cell? ⟨w.heap.size, 1, none⟩ = some (.slice a m c) := cell_be t1 (by simp [go_sem])
  have f2 : w1.cell? ⟨w.heap.size, 2, none⟩ = some (.slice b m d) := cell_be t1 (by simp [go_sem])
  have B1 := bnext hb0 t1
  clear t1
  go_wp2_with fail
  refine (l01In_yes _ _ _ _ x0 x2).mono ?_
  rintro e w2' ⟨rfl, rfl⟩
  go_wp2_with fail
  refine (l03Poly_any p _ _ _ xs _ _ _ ys m _ (hs.below B1) (ht.below B1) Hj.out (Nat.le_refl _)).mono ?_
  rintro e w2 ⟨a2, c2, rfl, ho2, t2⟩
  rw [HP.out] at ho2 ⊢
  have B2 := bnext B1 t2
  replace f0 := cell_be t2 f0
  replace f1 := cell_be t2 f1
  replace f2 := cell_be t2 f2
  have sP := hide ho2.sl
  have F : ∀ w', Below w2.heap.size w2 w' → w'.cell? ⟨w.heap.size, 0, none⟩ = some (.int .i64 p) ∧ w'.cell? ⟨w.heap.size, 1, none⟩ = some (.slice a m c) ∧ w'.cell? ⟨w.heap.size, 2, none⟩ = some (.slice b m d) := fun w' h => ⟨cell_be h f0, cell_be h f1, cell_be h f2⟩
  have hbd := (Below.refl w2.heap.size w2).drew
  clear ho2 t2
  go_upto_region 6 with fail
  go_cut [39] (fun bv wx => bv = .bool false ∧ Hid (wx.cell? ⟨w.heap.size, 0, none⟩ = some (.int .i64 p) ∧ wx.cell? ⟨w.heap.size, 1, none⟩ = some (.slice a m c) ∧ wx.cell? ⟨w.heap.size, 2, none⟩ = some (.slice b m d)) ∧ Hid (Below w.heap.size w wx))
  case first =>
    have hm := hbd
    go_region_held3 (fun w' => w'.cell? ⟨w.heap.size, 0, none⟩ = some (.int .i64 p) ∧ w'.cell? ⟨w.heap.size, 1, none⟩ = some (.slice a m c) ∧ w'.cell? ⟨w.heap.size, 2, none⟩ = some (.slice b m d))
      (first | exact F _ (by assumption))
      (first
      | (go_at_call 97; go_fit (l01At_any p x a2 P.length c2 P _ (sP.out.below hm) (by omega) hp hp2 x0 x1 HPa.out); rintro e w6 ⟨rfl, rfl⟩; rw [HV.out])
      | (go_at_call 112; refine (l01Derive_any p _ _ _ P _ (sP.out.below hm) (by omega) hp hp2 HPa.out).mono ?_; rintro e w7 ⟨a3, c3, rfl, ho3, t3⟩; have sD := ho3.sl; have hm := bnext hm t3)
      | (go_at_call 97; go_fit (l01At_any p x a3 (derM p P).length c3 (derM p P) _ sD (by omega) hp hp2 x0 x1 HDa.out); rintro e w8 ⟨rfl, rfl⟩; rw [HS.out]))
    all_goals go_wp2_with fail
    all_goals go_meet
    all_goals exact ⟨rfl, hide (F _ hm), hide (bnext B2 hm)⟩
  case rest =>
  obtain ⟨rfl, hF2, hB2⟩ := hcut
  clear F f0 f1 f2 hbd
  obtain ⟨f0, f1, f2⟩ := hF2.out
  go_wp2_with fail
  refine (l07Chr_any p _ _ _ xs _ _ ys x _ (hs.below hB2.out) (ht.below hB2.out) Hj.out x0 x1).mono ?_
  rintro e w9 ⟨rfl, t9⟩
  go_wp2
  go_ret2
  exact ⟨by rw [HA.out, HC.out] <;> rfl, bnext hB2.out t9⟩
end Go.Proofs.Ytkpmonopjkjflaa
