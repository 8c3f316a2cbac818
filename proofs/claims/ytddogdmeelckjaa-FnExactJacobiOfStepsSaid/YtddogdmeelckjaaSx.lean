/- Contract: JacobiOfSteps (model). -/
import Derived.Test.YtddogdmeelckjaaSw
namespace Go.Proofs.Ytddogdmeelckjaa
open Go.RowKit
set_option linter.unusedVariables false
set_option linter.unusedSimpArgs false

theorem jos_jac {p : Int} (hP : primeB p = true) {xs : List Int} (h : areB p xs = true) (r : Nat) (h1 : 1 ≤ r) (h2 : r ≤ 12) : jacB p (tab r (jsA p xs)) (tab r (jsB p xs)) = !hasB 0 (tab r (jsB p xs)) := by
  have hp := (primeB_lo hP).1
  have e1 : areB p (tab r (jsA p xs)) = true := areB_mk fun j hj => by
    rw [tab_len] at hj
    rw [tab_at _ _ _ hj]
    exact jsA_rng hp h j
  have e2 : areB p (tab r (jsB p xs)) = true := areB_mk fun j hj => by
    rw [tab_len] at hj
    rw [tab_at _ _ _ hj]
    exact jsB_rng hp h j
  unfold jacB
  rw [posB_eq, hP, e1, e2, tab_len, tab_len]
  simp [h1, h2]
set_option maxRecDepth 100000 in
set_option maxHeartbeats 6400000 in
theorem specJacobiOfSteps (p : Int) (a : Option Addr) (n c : Nat) (xs : List Int) (w : World) (hs : SL w a n c xs) (hn : n ≤ 4000000) :
    Calls Try.prog 30 #[.int .i64 p, .slice a n c] w (ResJ w (josP p xs) (josV p xs) (josU p xs) (josC p xs)) := by
  have hl := hide hs.len
  have hb0 := bl1 w (.cells #[.int .i64 0, .slice none 0 0, .slice none 0 0] 41)
  replace hs := hs.below hb0
  obtain ⟨r, hr⟩ : ∃ r, r = n / 2 := ⟨_, rfl⟩
  have vq : (n : Int).tdiv 2 = (r : Int) := by rw [Int.tdiv_eq_ediv_of_nonneg (by omega)]; omega
  have vm : (n : Int).tmod 2 = ((n % 2 : Nat) : Int) := by rw [Int.tmod_eq_emod_of_nonneg (by omega)]; omega
  have hz0 : IntKind.i64.wrap (r : Int) = (r : Int) := IntWalk.i64_in _ (by omega)
  cases hP : primeB p
  · have HP := hide hP
    have HC := hide (show josC p xs = 2 by simp [josC, lisB, hP])
    have HV := hide (show josV p xs = [] by simp [josV, HC.out])
    have HU := hide (show josU p xs = [] by simp [josU, HC.out])
    have HQ := hide (show josP p xs = 0 by simp [josP, HC.out])
    clear hP vm
    go_enter Try.func30, Try.ntmps30
    go_wp2_with fail
    refine (l01Prime_any _ _).mono ?_
    rintro e v1 ⟨rfl, rfl⟩
    rw [HP.out]
    go_wp2
    refine bodyPost_ret (v := .tuple #[jac 0 none 0 0 none 0 0, .int .i64 2]) (by simp [results, Try.results30, go_sem]) rfl ?_
    exact ResJ.nil HQ.out HV.out HU.out HC.out hb0
  have HP := hide hP
  obtain ⟨hp, hp2⟩ := primeB_lo hP
  by_cases hev : n % 2 = 0
  rotate_left
  · have hodd : n % 2 = 1 := by omega
    have vm1 : (n : Int).tmod 2 = 1 := by rw [vm, hodd]; rfl
    have HC := hide (show josC p xs = 2 by simp [josC, hl.out, hodd])
    have HV := hide (show josV p xs = [] by simp [josV, HC.out])
    have HU := hide (show josU p xs = [] by simp [josU, HC.out])
    have HQ := hide (show josP p xs = 0 by simp [josP, HC.out])
    clear hP vm hev hodd hr
    go_enter Try.func30, Try.ntmps30
    go_wp2_with fail
    refine (l01Prime_any _ _).mono ?_
    rintro e v1 ⟨rfl, rfl⟩
    rw [HP.out]
    go_wp2
    refine bodyPost_ret (v := .tuple #[jac 0 none 0 0 none 0 0, .int .i64 2]) (by simp [results, Try.results30, go_sem]) rfl ?_
    exact ResJ.nil HQ.out HV.out HU.out HC.out hb0
  have vm0 : (n : Int).tmod 2 = 0 := by rw [vm, hev]; rfl
  have hnr : n = 2 * r := by omega
  have Hnr := hide hnr
  by_cases hr1 : (r : Int) < 1
  · have HC := hide (show josC p xs = 2 by
      have : lisB p xs 2 24 = false := by simp [lisB, hl.out]; omega
      simp [josC, this])
    have HV := hide (show josV p xs = [] by simp [josV, HC.out])
    have HU := hide (show josU p xs = [] by simp [josU, HC.out])
    have HQ := hide (show josP p xs = 0 by simp [josP, HC.out])
    clear hP vm hev hr hnr
    go_enter Try.func30, Try.ntmps30
    go_wp2_with fail
    refine (l01Prime_any _ _).mono ?_
    rintro e v1 ⟨rfl, rfl⟩
    rw [HP.out]
    go_wp2
    refine bodyPost_ret (v := .tuple #[jac 0 none 0 0 none 0 0, .int .i64 2]) (by simp [results, Try.results30, go_sem]) rfl ?_
    exact ResJ.nil HQ.out HV.out HU.out HC.out hb0
  by_cases hr2 : (12 : Int) < (r : Int)
  · have HC := hide (show josC p xs = 2 by
      have : lisB p xs 2 24 = false := by simp [lisB, hl.out]; omega
      simp [josC, this])
    have HV := hide (show josV p xs = [] by simp [josV, HC.out])
    have HU := hide (show josU p xs = [] by simp [josU, HC.out])
    have HQ := hide (show josP p xs = 0 by simp [josP, HC.out])
    clear hP vm hev hr hnr
    go_enter Try.func30, Try.ntmps30
    go_wp2_with fail
    refine (l01Prime_any _ _).mono ?_
    rintro e v1 ⟨rfl, rfl⟩
    rw [HP.out]
    go_wp2
    refine bodyPost_ret (v := .tuple #[jac 0 none 0 0 none 0 0, .int .i64 2]) (by simp [results, Try.results30, go_sem]) rfl ?_
    exact ResJ.nil HQ.out HV.out HU.out HC.out hb0
  obtain ⟨w2', hw2⟩ : ∃ w2, w2 = w.alloc (.cells #[.int .i64 0, .slice none 0 0, .slice none 0 0] 41) := ⟨_, rfl⟩
  have r0 : w2'.cell? ⟨w.heap.size, 0, none⟩ = some (.int .i64 0) := by rw [hw2]; simp [go_sem]
  have r1 : w2'.cell? ⟨w.heap.size, 1, none⟩ = some (.slice none 0 0) := by rw [hw2]; simp [go_sem]
  have r2 : w2'.cell? ⟨w.heap.size, 2, none⟩ = some (.slice none 0 0) := by rw [hw2]; simp [go_sem]
  have y0 : w2'.frozen? ⟨w.heap.size, 0, none⟩ = false := by rw [hw2]; simp [go_sem]
  have y1 : w2'.frozen? ⟨w.heap.size, 1, none⟩ = false := by rw [hw2]; simp [go_sem]
  have y2 : w2'.frozen? ⟨w.heap.size, 2, none⟩ = false := by rw [hw2]; simp [go_sem]
  have hz2 : w.heap.size + 1 = w2'.heap.size := by rw [hw2]; simp
  rw [← hw2] at hb0 hs
  have hn1 : n ≤ 24 := by omega
  cases hX : areB p xs
  · have HX := hide hX
    have HC := hide (show josC p xs = 2 by simp [josC, lisB, hX])
    have HV := hide (show josV p xs = [] by simp [josV, HC.out])
    have HU := hide (show josU p xs = [] by simp [josU, HC.out])
    have HQ := hide (show josP p xs = 0 by simp [josP, HC.out])
    clear hP vm hev hr hnr hX
    go_enter Try.func30, Try.ntmps30
    go_wp2_with fail
    refine (l01Prime_any _ _).mono ?_
    rintro e v1 ⟨rfl, rfl⟩
    rw [HP.out]
    go_wp2_with fail
    rw [← hw2]
    clear hw2
    refine (l01Points_f _ _ _ _ _ _ hs (by omega) (by omega) (by omega)).mono ?_
    rintro e w3 ⟨rfl, t3⟩
    rw [HX.out]
    replace r0 := cell_be t3 r0
    replace r1 := cell_be t3 r1
    replace r2 := cell_be t3 r2
    replace y0 := (t3.frozen (p := ⟨w.heap.size, 0, none⟩) (by simp; omega)).trans y0
    replace y1 := (t3.frozen (p := ⟨w.heap.size, 1, none⟩) (by simp; omega)).trans y1
    replace y2 := (t3.frozen (p := ⟨w.heap.size, 2, none⟩) (by simp; omega)).trans y2
    have B3 := hb0.trans (t3.mono (by omega))
    go_wp2
    refine bodyPost_ret (v := .tuple #[jac 0 none 0 0 none 0 0, .int .i64 2]) (by simp [results, Try.results30, go_sem, r0, r1, r2]) rfl ?_
    exact ResJ.nil HQ.out HV.out HU.out HC.out (((B3.setCell (by simp) _).setCell (by simp) _).setCell (by simp) _)
  have HX := hide hX
  have hL : lisB p xs 2 24 = true := by simp [lisB, hP, hX, hl.out]; omega
  have hCC : josC p xs = if hasB 0 (tab r (jsB p xs)) = true then 5 else 0 := by simp only [josC, hL, hl.out, hev, hr, if_true, and_self]
  have HCC := hide hCC
  have Hr := hide hr
  have HJ := hide (jos_jac hP hX r (by omega) (by omega))
  have hnn : 2 ≤ n := by omega
  clear hL hCC hP hX vm hev hr hnr
  go_enter Try.func30, Try.ntmps30
  go_wp2_with fail
  refine (l01Prime_any _ _).mono ?_
  rintro e v1 ⟨rfl, rfl⟩
  rw [HP.out]
  go_wp2_with fail
  rw [← hw2]
  clear hw2
  refine (l01Points_f _ _ _ _ _ _ hs (by omega) (by omega) (by omega)).mono ?_
  rintro e w2 ⟨rfl, t3⟩
  rw [HX.out]
  replace r0 := cell_be t3 r0
  replace r1 := cell_be t3 r1
  replace r2 := cell_be t3 r2
  replace y0 := (t3.frozen (p := ⟨w.heap.size, 0, none⟩) (by simp; omega)).trans y0
  replace y1 := (t3.frozen (p := ⟨w.heap.size, 1, none⟩) (by simp; omega)).trans y1
  replace y2 := (t3.frozen (p := ⟨w.heap.size, 2, none⟩) (by simp; omega)).trans y2
  have hz3 := t3.size
  have hB2 := hb0.trans (t3.mono (by omega))
  replace hs := hs.below t3
  obtain ⟨b, off, rfl, hbw, hcell⟩ := hs.at (by omega)
  have Hc := hide hcell
  have e0 := hcell 0 (by omega)
  have e1 := hcell 1 (by omega)
  rw [Nat.add_zero] at e0
  obtain ⟨X0, hX0⟩ : ∃ X0, xs.getD 0 0 = X0 := ⟨_, rfl⟩
  obtain ⟨X1, hX1⟩ : ∃ X1, xs.getD 1 0 = X1 := ⟨_, rfl⟩
  rw [hX0] at e0
  rw [hX1] at e1
  have hA1 : Hid (tab 1 (jsA p xs) = [X1]) := hide (by simp [tab, jsA]; rw [← hX1]; simp)
  have hB1 : Hid (tab 1 (jsB p xs) = [X0]) := hide (by simp [tab, jsB]; rw [← hX0]; simp)
  have q3 : (1 : Int) < (n : Int) := by omega
  have q4 : (0 : Int) < (n : Int) := by omega
  have q5 : 1 < n := by omega
  have q6 : 0 < n := by omega
  have hF2 : ∀ w', Below w2.heap.size w2 w' → Below w2.heap.size w2 w' ∧ w'.cell? ⟨b, off, none⟩ = some (.int .i64 X0) ∧ w'.cell? ⟨b, off + 1, none⟩ = some (.int .i64 X1) := fun w' h => ⟨h, cell_be h e0, cell_be h e1⟩
  clear hX0 hX1 hcell t3
  go_upto_region 4 with fail
  go_cut [7] (fun sq wx => ∃ (q ga gb : Nat), sq = .pointer (some ⟨q, 0, none⟩) ∧ Hid (wx.cell? ⟨q, 0, none⟩ = some (.int .i64 p) ∧ wx.cell? ⟨q, 1, none⟩ = some (.slice (some ⟨ga, 0, none⟩) 1 1) ∧ wx.cell? ⟨q, 2, none⟩ = some (.slice (some ⟨gb, 0, none⟩) 1 1)) ∧ Hid (wx.frozen? ⟨q, 1, none⟩ = false ∧ wx.frozen? ⟨q, 2, none⟩ = false) ∧
      Hid (ga ≠ gb ∧ ga ≠ q ∧ gb ≠ q) ∧ Hid (w2.heap.size ≤ q ∧ q < wx.heap.size) ∧ Hid (Own w2.heap.size wx (some ⟨ga, 0, none⟩) 1 [X1]) ∧ Hid (Own w2.heap.size wx (some ⟨gb, 0, none⟩) 1 [X0]) ∧ Hid (Below w2.heap.size w2 wx))
  case first =>
    go_region_held3 (fun w' => Below w2.heap.size w2 w' ∧ w'.cell? ⟨b, off, none⟩ = some (.int .i64 X0) ∧ w'.cell? ⟨b, off + 1, none⟩ = some (.int .i64 X1))
      (first | exact hF2 _ (((bl1 _ _)).drew) | exact hF2 _ (((bl2 _ _ _)).drew) | exact hF2 _ (((bl3 _ _ _ _)).drew) | exact hF2 _ ((Below.refl _ _).drew) | exact hF2 _ (Below.drew (Below.setCell (Below.setCell (Below.setCell (bl3 _ _ _ _) (by first | omega | (simp; done) | (simp; omega)) _) (by first | omega | (simp; done) | (simp; omega)) _) (by first | omega | (simp; done) | (simp; omega)) _)))
      (fail)
    all_goals go_wp2_with fail
    all_goals go_meet
    all_goals first
      | exact ⟨w2.heap.size + 1 + 1, w2.heap.size, w2.heap.size + 1, rfl, hide ⟨by simp [go_sem], by simp [go_sem], by simp [go_sem]⟩, hide ⟨by simp [go_sem], by simp [go_sem]⟩, hide ⟨by omega, by omega, by omega⟩, hide ⟨by omega, (by first | (simp; done) | (simp; omega))⟩, hide (((own_lit1' _ _ _ (by first | rfl | simp) _ (by omega)).below (bl2 _ _ _)).below ((Below.refl _ _).drew)), hide (((own_lit1' _ _ _ (by first | rfl | simp) _ (by omega)).below (bl1 _ _)).below ((Below.refl _ _).drew)), hide ((bl3 _ _ _ _).drew)⟩
      | exact ⟨w2.heap.size + 1, w2.heap.size, w2.heap.size + 1 + 1, rfl, hide ⟨by simp [go_sem], by simp [go_sem], by simp [go_sem]⟩, hide ⟨by simp [go_sem], by simp [go_sem]⟩, hide ⟨by omega, by omega, by omega⟩, hide ⟨by omega, (by first | (simp; done) | (simp; omega))⟩, hide (((own_lit1' _ _ _ (by first | rfl | simp) _ (by omega)).below (bl2 _ _ _)).below ((Below.refl _ _).drew)), hide (((own_lit1' _ _ _ (by first | rfl | simp) _ (by omega))).below ((Below.refl _ _).drew)), hide ((bl3 _ _ _ _).drew)⟩
      | exact ⟨w2.heap.size + 1 + 1, w2.heap.size + 1, w2.heap.size, rfl, hide ⟨by simp [go_sem], by simp [go_sem], by simp [go_sem]⟩, hide ⟨by simp [go_sem], by simp [go_sem]⟩, hide ⟨by omega, by omega, by omega⟩, hide ⟨by omega, (by first | (simp; done) | (simp; omega))⟩, hide (((own_lit1' _ _ _ (by first | rfl | simp) _ (by omega)).below (bl1 _ _)).below ((Below.refl _ _).drew)), hide (((own_lit1' _ _ _ (by first | rfl | simp) _ (by omega)).below (bl2 _ _ _)).below ((Below.refl _ _).drew)), hide ((bl3 _ _ _ _).drew)⟩
      | exact ⟨w2.heap.size, w2.heap.size + 1, w2.heap.size + 1 + 1, rfl, hide ⟨by simp [go_sem], by simp [go_sem], by simp [go_sem]⟩, hide ⟨by simp [go_sem], by simp [go_sem]⟩, hide ⟨by omega, by omega, by omega⟩, hide ⟨by omega, (by first | (simp; done) | (simp; omega))⟩, hide (((own_lit1' _ _ _ (by first | rfl | simp) _ (by omega)).below (bl1 _ _)).below ((Below.refl _ _).drew)), hide (((own_lit1' _ _ _ (by first | rfl | simp) _ (by omega))).below ((Below.refl _ _).drew)), hide ((bl3 _ _ _ _).drew)⟩
      | exact ⟨w2.heap.size + 1, w2.heap.size + 1 + 1, w2.heap.size, rfl, hide ⟨by simp [go_sem], by simp [go_sem], by simp [go_sem]⟩, hide ⟨by simp [go_sem], by simp [go_sem]⟩, hide ⟨by omega, by omega, by omega⟩, hide ⟨by omega, (by first | (simp; done) | (simp; omega))⟩, hide (((own_lit1' _ _ _ (by first | rfl | simp) _ (by omega))).below ((Below.refl _ _).drew)), hide (((own_lit1' _ _ _ (by first | rfl | simp) _ (by omega)).below (bl2 _ _ _)).below ((Below.refl _ _).drew)), hide ((bl3 _ _ _ _).drew)⟩
      | exact ⟨w2.heap.size, w2.heap.size + 1 + 1, w2.heap.size + 1, rfl, hide ⟨by simp [go_sem], by simp [go_sem], by simp [go_sem]⟩, hide ⟨by simp [go_sem], by simp [go_sem]⟩, hide ⟨by omega, by omega, by omega⟩, hide ⟨by omega, (by first | (simp; done) | (simp; omega))⟩, hide (((own_lit1' _ _ _ (by first | rfl | simp) _ (by omega))).below ((Below.refl _ _).drew)), hide (((own_lit1' _ _ _ (by first | rfl | simp) _ (by omega)).below (bl1 _ _)).below ((Below.refl _ _).drew)), hide ((bl3 _ _ _ _).drew)⟩
  case rest =>
    obtain ⟨q, ga, gb, rfl, hq, hf, hd, hge, oA, oB, hW⟩ := hcut
    obtain ⟨w5, hu⟩ : ∃ u, u = wc := ⟨wc, rfl⟩
    subst hu
    clear hF2
    obtain ⟨d1, d2, d3⟩ := hd.out
    obtain ⟨e1', e2'⟩ := hge.out
    have hn0 : Hid (blk (some ⟨ga, 0, none⟩) ≠ some q ∧ blk (some ⟨gb, 0, none⟩) ≠ some q ∧ (∀ g, blk (some ⟨ga, 0, none⟩) = some g → blk (some ⟨gb, 0, none⟩) ≠ some g)) := hide ⟨by simp [blk]; omega, by simp [blk]; omega, fun g h1 h2 => by simp [blk] at h1 h2; omega⟩
    have oA0 : Hid (Own w2.heap.size w5 (some ⟨ga, 0, none⟩) 1 (tab 1 (jsA p xs))) := hide (by rw [hA1.out]; exact oA.out)
    have oB0 : Hid (Own w2.heap.size w5 (some ⟨gb, 0, none⟩) 1 (tab 1 (jsB p xs))) := hide (by rw [hB1.out]; exact oB.out)
    clear oA oB hd hge e0 e1 d1 d2 d3
    go_wp2_with fail
    go_loopw [8] (fun kv wr => ∃ (i c' d' : Nat) (a' b' : Option Addr), 1 ≤ i ∧ i ≤ r ∧ kv = .int .i64 i ∧ Hid (Own w2.heap.size wr a' c' (tab i (jsA p xs))) ∧ Hid (Own w2.heap.size wr b' d' (tab i (jsB p xs))) ∧
      Hid (blk a' ≠ some q ∧ blk b' ≠ some q ∧ (∀ g, blk a' = some g → blk b' ≠ some g)) ∧ Hid (wr.cell? ⟨q, 0, none⟩ = some (.int .i64 p) ∧ wr.cell? ⟨q, 1, none⟩ = some (.slice a' i c') ∧ wr.cell? ⟨q, 2, none⟩ = some (.slice b' i d')) ∧ Hid (wr.frozen? ⟨q, 1, none⟩ = false ∧ wr.frozen? ⟨q, 2, none⟩ = false) ∧ q < wr.heap.size ∧ Hid (Below w2.heap.size w2 wr)) (fun kv _ => r - (intOf kv).toNat)
    case atStart => exact ⟨1, 1, 1, _, _, by omega, by omega, rfl, oA0, oB0, hn0, hq, hf, e2', hW⟩
    case round =>
      obtain ⟨i, c', d', a', b', hi1, hi2, rfl, oA, oB, hn', hq', hf', hqs, hW'⟩ := hrel
      clear oA0 oB0 hn0 hq hf hW
      obtain ⟨q0, q1, q2⟩ := hq'.out
      obtain ⟨y1q, y2q⟩ := hf'.out
      obtain ⟨n1', n2', n3'⟩ := hn'.out
      have zr := hW'.out.size
      by_cases hlt : i < r
      · have k1 : wr.cell? ⟨b, off + 2 * i, none⟩ = some (.int .i64 (xs.getD (2 * i) 0)) := cell_be hW'.out (Hc.out (2 * i) (by have := Hnr.out; omega))
        have k2 : wr.cell? ⟨b, off + (2 * i + 1), none⟩ = some (.int .i64 (xs.getD (2 * i + 1) 0)) := cell_be hW'.out (Hc.out (2 * i + 1) (by have := Hnr.out; omega))
        have g1 := getD_rng HX.out hp (2 * i)
        have g2 := getD_rng HX.out hp (2 * i + 1)
        have g3 := getD_rng HX.out hp (2 * i - 1)
        have hstA : Hid (tab (i + 1) (jsA p xs) = tab i (jsA p xs) ++ [(xs.getD (2 * i) 0 + xs.getD (2 * i + 1) 0) % p]) := hide (by rw [← tab_snoc]; unfold jsA; rw [if_neg (by omega)])
        have hstB : Hid (tab (i + 1) (jsB p xs) = tab i (jsB p xs) ++ [xs.getD (2 * i - 1) 0 * xs.getD (2 * i) 0 % p]) := hide (by rw [← tab_snoc]; unfold jsB; rw [if_neg (by omega)])
        obtain ⟨X, hX⟩ : ∃ X, xs.getD (2 * i) 0 = X := ⟨_, rfl⟩
        obtain ⟨Y, hY⟩ : ∃ Y, xs.getD (2 * i + 1) 0 = Y := ⟨_, rfl⟩
        obtain ⟨V, hV⟩ : ∃ V, xs.getD (2 * i - 1) 0 = V := ⟨_, rfl⟩
        rw [hX] at k1 g1 hstA hstB
        rw [hY] at k2 g2 hstA
        rw [hV] at g3 hstB
        have HXd := hide hX
        have HVd := hide hV
        obtain ⟨m1, m2⟩ := mulb g3.1 g3.2 g1.1 g1.2 hp2
        have v0 : IntKind.i64.wrap (2 * (i : Int)) = 2 * (i : Int) := IntWalk.i64_in _ (by omega)
        have v1 : IntKind.i64.wrap (2 * (i : Int) + 1) = 2 * (i : Int) + 1 := IntWalk.i64_in _ (by omega)
        have v2 : (2 * (i : Int)).toNat = 2 * i := by omega
        have v3 : (2 * (i : Int) + 1).toNat = 2 * i + 1 := by omega
        have v4 : IntKind.i64.wrap (X + Y) = X + Y := IntWalk.i64_in _ (by omega)
        have v5 : (X + Y).tmod p = (X + Y) % p := Int.tmod_eq_emod_of_nonneg (by omega)
        have v7 := modb (x := X + Y) hp
        obtain ⟨Z, hZ⟩ : ∃ Z, (X + Y) % p = Z := ⟨_, rfl⟩
        rw [hZ] at v5 v7 hstA
        have v6 : IntKind.i64.wrap Z = Z := IntWalk.i64_in _ (by omega)
        have hp0 : ¬ p = 0 := by omega
        obtain ⟨zs, hzs⟩ : ∃ zs, tab i (jsA p xs) = zs := ⟨_, rfl⟩
        have hzl := hide (show zs.length = i by rw [← hzs, tab_len])
        rw [hzs] at oA hstA
        have l1 : 2 * (i : Int) < (n : Int) := by have := Hnr.out; omega
        have l2 : 2 * (i : Int) + 1 < (n : Int) := by have := Hnr.out; omega
        have l3 : (0 : Int) ≤ 2 * (i : Int) := by omega
        have l4 : (0 : Int) ≤ 2 * (i : Int) + 1 := by omega
        have l5 : 2 * (i : Int) - 1 < (n : Int) := by omega
        have l6 : (0 : Int) ≤ 2 * (i : Int) - 1 := by omega
        have l7 : (1 : Int) ≤ 2 * (i : Int) := by omega
        have hir : (i : Int) < (r : Int) := by omega
        clear hX hY hV hzs hZ
        have hbd := (Below.refl wr.heap.size wr).drew
        have hba : Below wr.heap.size wr ((wr.alloc (.cells #[.int .i64 Z] 2)).drew) := (bl1 wr _).drew
        have s1a : ((wr.alloc (.cells #[.int .i64 Z] 2)).drew).cell? ⟨q, 1, none⟩ = some (.slice a' i c') := cell_be hba q1
        have sfa : ((wr.alloc (.cells #[.int .i64 Z] 2)).drew).frozen? ⟨q, 1, none⟩ = false := (hba.frozen (World.block_lt_of_cell? _ _ q1)).trans y1q
        have hOa := hide (oA.out.below hba)
        have hOo := hide (oB.out.below hba)
        have hcl : ((wr.alloc (.cells #[.int .i64 Z] 2)).drew).cell? ⟨wr.heap.size, 0, none⟩ = some (.int .i64 Z) := by simp [go_sem]
        go_upto_region 8 with fail
        refine region_E (fun w' => w'.cell? ⟨q, 1, none⟩ = some (.slice a' i c') ∧ w'.cell? ⟨b, off + 2 * i, none⟩ = some (.int .i64 X) ∧ w'.cell? ⟨b, off + (2 * i + 1), none⟩ = some (.int .i64 Y)) 19 (by kernel_rfl) ⟨cell_be hbd q1, cell_be hbd k1, cell_be hbd k2⟩ ?_
        intro hS
        refine anyE_takeL 0 rfl (by kernel_rfl) (fun _ _ _ h => h) hS (by rfl) (v := ?_) ?_ ?_
        rotate_left
        · intro w' hSw; (try dsimp only at hSw); go_simp; (try with_reducible rfl)
        try simp only [Act.put, List.setIfInBounds_toArray, List.set_cons_zero, List.set_cons_succ]
        refine anyE_takeL 1 rfl (by kernel_rfl) (fun _ _ _ h => h) hS (by rfl) (v := ?_) ?_ ?_
        rotate_left
        · intro w' hSw; (try dsimp only at hSw); go_simp; (try with_reducible rfl)
        try simp only [Act.put, List.setIfInBounds_toArray, List.set_cons_zero, List.set_cons_succ]
        refine anyE_takeL 2 rfl (by kernel_rfl) (fun _ _ _ h => h) hS (by rfl) (v := ?_) ?_ ?_
        rotate_left
        · intro w' hSw; (try dsimp only at hSw); go_simp; (try with_reducible rfl)
        try simp only [Act.put, List.setIfInBounds_toArray, List.set_cons_zero, List.set_cons_succ]
        refine anyE_takeL 3 rfl (by kernel_rfl) (fun _ _ _ h => h) hS (by rfl) (v := ?_) ?_ ?_
        rotate_left
        · intro w' hSw; (try dsimp only at hSw); go_simp; (try with_reducible rfl)
        try simp only [Act.put, List.setIfInBounds_toArray, List.set_cons_zero, List.set_cons_succ]
        refine anyE_takeL 4 rfl (by kernel_rfl) (fun _ _ _ h => h) hS (by rfl) (v := ?_) ?_ ?_
        rotate_left
        · intro w' hSw; (try dsimp only at hSw); go_simp; (try with_reducible rfl)
        try simp only [Act.put, List.setIfInBounds_toArray, List.set_cons_zero, List.set_cons_succ]
        refine anyE_takeL 5 rfl (by kernel_rfl) (fun _ _ _ h => h) hS (by rfl) (v := ?_) ?_ ?_
        rotate_left
        · intro w' hSw; (try dsimp only at hSw); go_simp; (try with_reducible rfl)
        try simp only [Act.put, List.setIfInBounds_toArray, List.set_cons_zero, List.set_cons_succ]
        refine anyE_takeL 6 rfl (by kernel_rfl) (fun _ _ _ h => h) hS (by rfl) (v := ?_) ?_ ?_
        rotate_left
        · intro w' hSw; (try dsimp only at hSw); go_simp; (try with_reducible rfl)
        try simp only [Act.put, List.setIfInBounds_toArray, List.set_cons_zero, List.set_cons_succ]
        refine anyE_takeL 7 rfl (by kernel_rfl) (fun _ _ _ h => h) hS (by rfl) (v := ?_) ?_ ?_
        rotate_left
        · intro w' hSw; (try dsimp only at hSw); go_simp; (try with_reducible rfl)
        try simp only [Act.put, List.setIfInBounds_toArray, List.set_cons_zero, List.set_cons_succ]
        refine anyE_takeL 8 rfl (by kernel_rfl) (fun _ _ _ h => h) hS (by rfl) (v := ?_) ?_ ?_
        rotate_left
        · intro w' hSw; (try dsimp only at hSw); go_simp; (try with_reducible rfl)
        try simp only [Act.put, List.setIfInBounds_toArray, List.set_cons_zero, List.set_cons_succ]
        refine anyE_takeL 9 rfl (by kernel_rfl) (fun _ _ _ h => h) hS (by rfl) (v := ?_) ?_ ?_
        rotate_left
        · intro w' hSw; (try dsimp only at hSw); go_simp; (try with_reducible rfl)
        try simp only [Act.put, List.setIfInBounds_toArray, List.set_cons_zero, List.set_cons_succ]
        refine anyE_takeL 10 rfl (by kernel_rfl) (fun _ _ _ h => h) hS (by rfl) (v := ?_) ?_ ?_
        rotate_left
        · intro w' hSw; (try dsimp only at hSw); go_simp; (try with_reducible rfl)
        try simp only [Act.put, List.setIfInBounds_toArray, List.set_cons_zero, List.set_cons_succ]
        refine anyE_takeL 11 rfl (by kernel_rfl) (fun _ _ _ h => h) hS (by rfl) (v := ?_) ?_ ?_
        rotate_left
        · intro w' hSw; (try dsimp only at hSw); go_simp; (try with_reducible rfl)
        try simp only [Act.put, List.setIfInBounds_toArray, List.set_cons_zero, List.set_cons_succ]
        refine anyE_takeL 12 rfl (by kernel_rfl) (fun _ _ _ h => h) hS (by rfl) (v := ?_) ?_ ?_
        rotate_left
        · intro w' hSw; (try dsimp only at hSw); go_simp; (try with_reducible rfl)
        try simp only [Act.put, List.setIfInBounds_toArray, List.set_cons_zero, List.set_cons_succ]
        refine anyE_takeL 13 rfl (by kernel_rfl) (fun _ _ _ h => h) hS (by rfl) (v := ?_) ?_ ?_
        rotate_left
        · intro w' hSw; (try dsimp only at hSw); go_simp; (try with_reducible rfl)
        try simp only [Act.put, List.setIfInBounds_toArray, List.set_cons_zero, List.set_cons_succ]
        refine anyE_takeL 14 rfl (by kernel_rfl) (fun _ _ _ h => h) hS (by rfl) (v := ?_) ?_ ?_
        rotate_left
        · intro w' hSw; (try dsimp only at hSw); go_simp; (try with_reducible rfl)
        try simp only [Act.put, List.setIfInBounds_toArray, List.set_cons_zero, List.set_cons_succ]
        refine anyE_takeL 15 rfl (by kernel_rfl) (fun _ _ _ h => h) hS (by rfl) (v := ?_) ?_ ?_
        rotate_left
        · intro w' hSw; (try dsimp only at hSw); go_simp; (try with_reducible rfl)
        try simp only [Act.put, List.setIfInBounds_toArray, List.set_cons_zero, List.set_cons_succ]
        clear hS
        refine anyE_oneL 16 (by kernel_rfl) rfl (fun K' hK' => ?_)
        go_simp
        have S1 := And.intro s1a (And.intro (cell_be hba k1) (cell_be hba k2))
        refine hK'.out _ _ S1 ?_
        clear hK' K'
        try simp only [Act.put, List.setIfInBounds_toArray, List.set_cons_zero, List.set_cons_succ]
        refine anyE_oneL 17 (by kernel_rfl) rfl (fun K' hK' => ?_)
        refine step_app1 (by rfl) _ _ (by rfl) w2.heap.size _ _ _ zs (by rfl) hzl.out.symm hOa.out _ _ Z (by rfl) hcl (by omega) (by simp; omega) ?_
        intro ad' cap' w' hown' hgr hloc
        have s1' := cell_ne hgr s1a n1'
        have sf' := frz_ne hgr s1a sfa n1'
        have hge := own_blk_ge hOa.out
        have S2 := And.intro s1' (And.intro (cell_ne hgr S1.2.1 (fun e => by have := hge _ e; omega)) (cell_ne hgr S1.2.2 (fun e => by have := hge _ e; omega)))
        refine hK'.out _ _ S2 ?_
        clear hK' K'
        try simp only [Act.put, List.setIfInBounds_toArray, List.set_cons_zero, List.set_cons_succ]
        refine anyE_takeL 18 rfl (by kernel_rfl) (fun _ _ _ h => h) S2 (by rfl) (v := ?_) ?_ ?_
        rotate_left
        · intro w' hSw; (try dsimp only at hSw); go_simp; (try with_reducible rfl)
        try simp only [Act.put, List.setIfInBounds_toArray, List.set_cons_zero, List.set_cons_succ]
        clear S1 S2 hbd
        refine anyE_lastL (by kernel_rfl) rfl (by kernel_rfl) (fun K' hK' => ?_)
        go_simp
        refine hK'.out _ _ ?_
        clear hK' K'
        try simp only [Act.put, List.setIfInBounds_toArray, List.set_cons_zero, List.set_cons_succ]
        obtain ⟨w6, hw6⟩ : ∃ w6, w6 = w'.setCell ⟨q, 1, none⟩ (.slice ad' (zs.length + 1) cap') := ⟨_, rfl⟩
        rw [← hw6]
        have hnew : Hid (blk ad' ≠ some q) := hide (by
          rcases hloc with h | h <;> rw [h]
          · exact n1'
          · simp; omega)
        have oA6 : Hid (Own w2.heap.size w6 ad' cap' (tab (i + 1) (jsA p xs))) := hide (by rw [hw6, hstA.out]; exact hown'.otherG hnew.out _)
        have oB6 : Hid (Own w2.heap.size w6 b' d' (tab i (jsB p xs))) := hide (by rw [hw6]; exact (Own.keep hOo.out hgr (fun g h1 h2 => n3' g h2 h1)).otherG n2' _)
        have n3 : Hid (∀ g, blk ad' = some g → blk b' ≠ some g) := hide (fun g h1 h2 => by
          rcases hloc with h | h
          · rw [h] at h1; exact n3' g h1 h2
          · rw [h] at h1
            have := own_blk_lt oB.out g h2
            simp at h1
            omega)
        have p0 : w6.cell? ⟨q, 0, none⟩ = some (.int .i64 p) := by rw [hw6]; exact cell_set2' (cell_ne hgr (cell_be hba q0) n1') (by simp) _
        have p1 : w6.cell? ⟨q, 1, none⟩ = some (.slice ad' (i + 1) cap') := by rw [hw6, show i + 1 = zs.length + 1 by rw [hzl.out]]; exact World.cell?_setCell_same _ _ _ s1'
        have p2 : w6.cell? ⟨q, 2, none⟩ = some (.slice b' i d') := by rw [hw6]; exact cell_set2' (cell_ne hgr (cell_be hba q2) n1') (by simp) _
        have yy1 : w6.frozen? ⟨q, 1, none⟩ = false := by rw [hw6]; simpa using sf'
        have yy2 : w6.frozen? ⟨q, 2, none⟩ = false := by rw [hw6]; simpa using frz_ne hgr (cell_be hba q2) ((hba.frozen (World.block_lt_of_cell? _ _ q2)).trans y2q) n1'
        have hW6 : Hid (Below w2.heap.size w2 w6) := hide (by rw [hw6]; exact ((hW'.out.trans (hba.mono (by omega))).grown hgr (by simp; omega) (own_blk_ge hOa.out)).setCell (by simp; omega) _)
        have zq : q < w6.heap.size := by rw [hw6]; have := hgr.size; simp at this ⊢; omega
        have j1 : w6.cell? ⟨b, off + 2 * i, none⟩ = some (.int .i64 X) := by rw [← HXd.out]; exact cell_be hW6.out (Hc.out (2 * i) (by have := Hnr.out; omega))
        have j3 : w6.cell? ⟨b, off + (2 * i - 1), none⟩ = some (.int .i64 V) := by rw [← HVd.out]; exact cell_be hW6.out (Hc.out (2 * i - 1) (by have := Hnr.out; omega))
        have z66 := hW6.out.size
        clear hw6 hgr hown' hloc hOa hOo hba hcl s1a sfa s1' sf' oA oB q0 q1 q2 y1q y2q n1' n3' hq' hf' hn' k1 k2 hge v1 v3 v4 v5 v6 v7
        have w1' : IntKind.i64.wrap (2 * (i : Int) - 1) = 2 * (i : Int) - 1 := IntWalk.i64_in _ (by omega)
        have w2' : (2 * (i : Int) - 1).toNat = 2 * i - 1 := by omega
        have w4' : IntKind.i64.wrap (V * X) = V * X := IntWalk.i64_in _ (by omega)
        have w5' : (V * X).tmod p = V * X % p := Int.tmod_eq_emod_of_nonneg (by omega)
        have w7' := modb (x := V * X) hp
        obtain ⟨Z2, hZ2⟩ : ∃ Z2, V * X % p = Z2 := ⟨_, rfl⟩
        rw [hZ2] at w5' w7' hstB
        have w6' : IntKind.i64.wrap Z2 = Z2 := IntWalk.i64_in _ (by omega)
        obtain ⟨us, hus⟩ : ∃ us, tab i (jsB p xs) = us := ⟨_, rfl⟩
        have hul := hide (show us.length = i by rw [← hus, tab_len])
        rw [hus] at oB6 hstB
        clear hus hZ2
        have hbd := (Below.refl w6.heap.size w6).drew
        have hba : Below w6.heap.size w6 ((w6.alloc (.cells #[.int .i64 Z2] 2)).drew) := (bl1 w6 _).drew
        have s1a : ((w6.alloc (.cells #[.int .i64 Z2] 2)).drew).cell? ⟨q, 2, none⟩ = some (.slice b' i d') := cell_be hba p2
        have sfa : ((w6.alloc (.cells #[.int .i64 Z2] 2)).drew).frozen? ⟨q, 2, none⟩ = false := (hba.frozen (World.block_lt_of_cell? _ _ p2)).trans yy2
        have hOa := hide (oB6.out.below hba)
        have hOo := hide (oA6.out.below hba)
        have hcl : ((w6.alloc (.cells #[.int .i64 Z2] 2)).drew).cell? ⟨w6.heap.size, 0, none⟩ = some (.int .i64 Z2) := by simp [go_sem]
        go_upto_region 9 with fail
        refine region_E (fun w' => w'.cell? ⟨q, 2, none⟩ = some (.slice b' i d') ∧ w'.cell? ⟨b, off + (2 * i - 1), none⟩ = some (.int .i64 V) ∧ w'.cell? ⟨b, off + 2 * i, none⟩ = some (.int .i64 X)) 19 (by kernel_rfl) ⟨cell_be hbd p2, cell_be hbd j3, cell_be hbd j1⟩ ?_
        intro hS
        refine anyE_takeL 0 rfl (by kernel_rfl) (fun _ _ _ h => h) hS (by rfl) (v := ?_) ?_ ?_
        rotate_left
        · intro w' hSw; (try dsimp only at hSw); go_simp; (try with_reducible rfl)
        try simp only [Act.put, List.setIfInBounds_toArray, List.set_cons_zero, List.set_cons_succ]
        refine anyE_takeL 1 rfl (by kernel_rfl) (fun _ _ _ h => h) hS (by rfl) (v := ?_) ?_ ?_
        rotate_left
        · intro w' hSw; (try dsimp only at hSw); go_simp; (try with_reducible rfl)
        try simp only [Act.put, List.setIfInBounds_toArray, List.set_cons_zero, List.set_cons_succ]
        refine anyE_takeL 2 rfl (by kernel_rfl) (fun _ _ _ h => h) hS (by rfl) (v := ?_) ?_ ?_
        rotate_left
        · intro w' hSw; (try dsimp only at hSw); go_simp; (try with_reducible rfl)
        try simp only [Act.put, List.setIfInBounds_toArray, List.set_cons_zero, List.set_cons_succ]
        refine anyE_takeL 3 rfl (by kernel_rfl) (fun _ _ _ h => h) hS (by rfl) (v := ?_) ?_ ?_
        rotate_left
        · intro w' hSw; (try dsimp only at hSw); go_simp; (try with_reducible rfl)
        try simp only [Act.put, List.setIfInBounds_toArray, List.set_cons_zero, List.set_cons_succ]
        refine anyE_takeL 4 rfl (by kernel_rfl) (fun _ _ _ h => h) hS (by rfl) (v := ?_) ?_ ?_
        rotate_left
        · intro w' hSw; (try dsimp only at hSw); go_simp; (try with_reducible rfl)
        try simp only [Act.put, List.setIfInBounds_toArray, List.set_cons_zero, List.set_cons_succ]
        refine anyE_takeL 5 rfl (by kernel_rfl) (fun _ _ _ h => h) hS (by rfl) (v := ?_) ?_ ?_
        rotate_left
        · intro w' hSw; (try dsimp only at hSw); go_simp; (try with_reducible rfl)
        try simp only [Act.put, List.setIfInBounds_toArray, List.set_cons_zero, List.set_cons_succ]
        refine anyE_takeL 6 rfl (by kernel_rfl) (fun _ _ _ h => h) hS (by rfl) (v := ?_) ?_ ?_
        rotate_left
        · intro w' hSw; (try dsimp only at hSw); go_simp; (try with_reducible rfl)
        try simp only [Act.put, List.setIfInBounds_toArray, List.set_cons_zero, List.set_cons_succ]
        refine anyE_takeL 7 rfl (by kernel_rfl) (fun _ _ _ h => h) hS (by rfl) (v := ?_) ?_ ?_
        rotate_left
        · intro w' hSw; (try dsimp only at hSw); go_simp; (try with_reducible rfl)
        try simp only [Act.put, List.setIfInBounds_toArray, List.set_cons_zero, List.set_cons_succ]
        refine anyE_takeL 8 rfl (by kernel_rfl) (fun _ _ _ h => h) hS (by rfl) (v := ?_) ?_ ?_
        rotate_left
        · intro w' hSw; (try dsimp only at hSw); go_simp; (try with_reducible rfl)
        try simp only [Act.put, List.setIfInBounds_toArray, List.set_cons_zero, List.set_cons_succ]
        refine anyE_takeL 9 rfl (by kernel_rfl) (fun _ _ _ h => h) hS (by rfl) (v := ?_) ?_ ?_
        rotate_left
        · intro w' hSw; (try dsimp only at hSw); go_simp; (try with_reducible rfl)
        try simp only [Act.put, List.setIfInBounds_toArray, List.set_cons_zero, List.set_cons_succ]
        refine anyE_takeL 10 rfl (by kernel_rfl) (fun _ _ _ h => h) hS (by rfl) (v := ?_) ?_ ?_
        rotate_left
        · intro w' hSw; (try dsimp only at hSw); go_simp; (try with_reducible rfl)
        try simp only [Act.put, List.setIfInBounds_toArray, List.set_cons_zero, List.set_cons_succ]
        refine anyE_takeL 11 rfl (by kernel_rfl) (fun _ _ _ h => h) hS (by rfl) (v := ?_) ?_ ?_
        rotate_left
        · intro w' hSw; (try dsimp only at hSw); go_simp; (try with_reducible rfl)
        try simp only [Act.put, List.setIfInBounds_toArray, List.set_cons_zero, List.set_cons_succ]
        refine anyE_takeL 12 rfl (by kernel_rfl) (fun _ _ _ h => h) hS (by rfl) (v := ?_) ?_ ?_
        rotate_left
        · intro w' hSw; (try dsimp only at hSw); go_simp; (try with_reducible rfl)
        try simp only [Act.put, List.setIfInBounds_toArray, List.set_cons_zero, List.set_cons_succ]
        refine anyE_takeL 13 rfl (by kernel_rfl) (fun _ _ _ h => h) hS (by rfl) (v := ?_) ?_ ?_
        rotate_left
        · intro w' hSw; (try dsimp only at hSw); go_simp; (try with_reducible rfl)
        try simp only [Act.put, List.setIfInBounds_toArray, List.set_cons_zero, List.set_cons_succ]
        refine anyE_takeL 14 rfl (by kernel_rfl) (fun _ _ _ h => h) hS (by rfl) (v := ?_) ?_ ?_
        rotate_left
        · intro w' hSw; (try dsimp only at hSw); go_simp; (try with_reducible rfl)
        try simp only [Act.put, List.setIfInBounds_toArray, List.set_cons_zero, List.set_cons_succ]
        refine anyE_takeL 15 rfl (by kernel_rfl) (fun _ _ _ h => h) hS (by rfl) (v := ?_) ?_ ?_
        rotate_left
        · intro w' hSw; (try dsimp only at hSw); go_simp; (try with_reducible rfl)
        try simp only [Act.put, List.setIfInBounds_toArray, List.set_cons_zero, List.set_cons_succ]
        clear hS
        refine anyE_oneL 16 (by kernel_rfl) rfl (fun K' hK' => ?_)
        go_simp
        have S1 := And.intro s1a (And.intro (cell_be hba j3) (cell_be hba j1))
        refine hK'.out _ _ S1 ?_
        clear hK' K'
        try simp only [Act.put, List.setIfInBounds_toArray, List.set_cons_zero, List.set_cons_succ]
        refine anyE_oneL 17 (by kernel_rfl) rfl (fun K' hK' => ?_)
        refine step_app1 (by rfl) _ _ (by rfl) w2.heap.size _ _ _ us (by rfl) hul.out.symm hOa.out _ _ Z2 (by rfl) hcl (by omega) (by simp; omega) ?_
        intro bd' bap' w' hown' hgr hloc
        have s1' := cell_ne hgr s1a n2'
        have sf' := frz_ne hgr s1a sfa n2'
        have hge := own_blk_ge hOa.out
        have S2 := And.intro s1' (And.intro (cell_ne hgr S1.2.1 (fun e => by have := hge _ e; omega)) (cell_ne hgr S1.2.2 (fun e => by have := hge _ e; omega)))
        refine hK'.out _ _ S2 ?_
        clear hK' K'
        try simp only [Act.put, List.setIfInBounds_toArray, List.set_cons_zero, List.set_cons_succ]
        refine anyE_takeL 18 rfl (by kernel_rfl) (fun _ _ _ h => h) S2 (by rfl) (v := ?_) ?_ ?_
        rotate_left
        · intro w' hSw; (try dsimp only at hSw); go_simp; (try with_reducible rfl)
        try simp only [Act.put, List.setIfInBounds_toArray, List.set_cons_zero, List.set_cons_succ]
        clear S1 S2 hbd
        refine anyE_lastL (by kernel_rfl) rfl (by kernel_rfl) (fun K' hK' => ?_)
        go_simp
        refine hK'.out _ _ ?_
        clear hK' K'
        try simp only [Act.put, List.setIfInBounds_toArray, List.set_cons_zero, List.set_cons_succ]
        obtain ⟨w7, hw7⟩ : ∃ w7, w7 = w'.setCell ⟨q, 2, none⟩ (.slice bd' (us.length + 1) bap') := ⟨_, rfl⟩
        rw [← hw7]
        have hnewB : Hid (blk bd' ≠ some q) := hide (by
          rcases hloc with h | h <;> rw [h]
          · exact n2'
          · simp; omega)
        have oB7 : Hid (Own w2.heap.size w7 bd' bap' (tab (i + 1) (jsB p xs))) := hide (by rw [hw7, hstB.out]; exact hown'.otherG hnewB.out _)
        have oA7 : Hid (Own w2.heap.size w7 ad' cap' (tab (i + 1) (jsA p xs))) := hide (by rw [hw7]; exact (Own.keep hOo.out hgr (fun g h1 h2 => n3.out g h1 h2)).otherG hnew.out _)
        have n3b : Hid (∀ g, blk ad' = some g → blk bd' ≠ some g) := hide (fun g h1 h2 => by
          rcases hloc with h | h
          · rw [h] at h2; exact n3.out g h1 h2
          · rw [h] at h2
            have := own_blk_lt oA6.out g h1
            simp at h2
            omega)
        have p0' : w7.cell? ⟨q, 0, none⟩ = some (.int .i64 p) := by rw [hw7]; exact cell_set2' (cell_ne hgr (cell_be hba p0) n2') (by simp) _
        have p2' : w7.cell? ⟨q, 2, none⟩ = some (.slice bd' (i + 1) bap') := by rw [hw7, show i + 1 = us.length + 1 by rw [hul.out]]; exact World.cell?_setCell_same _ _ _ s1'
        have p1' : w7.cell? ⟨q, 1, none⟩ = some (.slice ad' (i + 1) cap') := by rw [hw7]; exact cell_set2' (cell_ne hgr (cell_be hba p1) n2') (by simp) _
        have yy2' : w7.frozen? ⟨q, 2, none⟩ = false := by rw [hw7]; simpa using sf'
        have yy1' : w7.frozen? ⟨q, 1, none⟩ = false := by rw [hw7]; simpa using frz_ne hgr (cell_be hba p1) ((hba.frozen (World.block_lt_of_cell? _ _ p1)).trans yy1) n2'
        have hW7 : Hid (Below w2.heap.size w2 w7) := hide (by rw [hw7]; exact ((hW6.out.trans (hba.mono (by omega))).grown hgr (by simp; omega) (own_blk_ge hOa.out)).setCell (by simp; omega) _)
        have zq7 : q < w7.heap.size := by rw [hw7]; have := hgr.size; simp at this ⊢; omega
        clear hw7 hgr hown' hloc hOa hOo hba hcl s1a sfa s1' sf' oA6 oB6 p0 p1 p2 yy1 yy2 hW6 j1 j3 hge v0 v2 w1' w2' w4' w5' w6' w7'
        go_wp2
        go_roundw
        case rel => exact ⟨i + 1, cap', bap', ad', bd', by omega, by omega, by go_num, oA7, oB7, hide ⟨hnew.out, hnewB.out, n3b.out⟩, hide ⟨p0', p1', p2'⟩, hide ⟨yy1', yy2'⟩, zq7, hW7⟩
        case measure => first | (simp [intOf]; done) | (simp [intOf]; omega)
      · have hirr : i = r := by omega
        subst hirr
        have hgn : ¬ (i : Int) < (i : Int) := by omega
        have slA : Hid (SL wr a' i c' (tab i (jsA p xs))) := hide (by have := oA.out.sl; rwa [tab_len] at this)
        have slB : Hid (SL wr b' i d' (tab i (jsB p xs))) := hide (by have := oB.out.sl; rwa [tab_len] at this)
        cases hz : hasB 0 (tab i (jsB p xs))
        · have hC : josC p xs = 0 := by rw [HCC.out, hz]; rfl
          have HC := hide hC
          have HV := hide (show josV p xs = tab i (jsA p xs) by simp [josV, hC, hl.out, ← Hr.out])
          have HU := hide (show josU p xs = tab i (jsB p xs) by simp [josU, hC, hl.out, ← Hr.out])
          have HQ := hide (show josP p xs = p by simp [josP, hC])
          have hj := HJ.out
          rw [hz] at hj
          have HJ2 := hide hj
          clear hC hz hlt hj
          go_wp2_with fail
          refine (l03Is_any p _ _ _ (tab i (jsA p xs)) _ _ _ (tab i (jsB p xs)) _ slA.out slB.out (by omega) (by omega)).mono ?_
          rintro e w8 ⟨rfl, t8⟩
          rw [HJ2.out]
          have hB8 := bthen hW'.out t8 (by omega)
          replace r0 := cell_be hB8 r0
          replace r1 := cell_be hB8 r1
          replace r2 := cell_be hB8 r2
          replace y0 := (hB8.frozen (p := ⟨w.heap.size, 0, none⟩) (by simp; omega)).trans y0
          replace y1 := (hB8.frozen (p := ⟨w.heap.size, 1, none⟩) (by simp; omega)).trans y1
          replace y2 := (hB8.frozen (p := ⟨w.heap.size, 2, none⟩) (by simp; omega)).trans y2
          have x0 := cell_be t8 q0
          have x1 := cell_be t8 q1
          have x2 := cell_be t8 q2
          have hBw := hB2.trans (hB8.mono (by omega))
          have oA8 := hide (oA.out.below t8)
          have oB8 := hide (oB.out.below t8)
          have z8 := hB8.size
          clear q0 q1 q2 hq'
          go_wp2
          refine bodyPost_ret (v := .tuple #[jac p a' i c' b' i d', .int .i64 0]) (by simp [results, Try.results30, go_sem, r0, r1, r2]) rfl ?_
          have jz : JZ w2.heap.size w8.heap.size w8 a' i c' (tab i (jsA p xs)) b' i d' (tab i (jsB p xs)) := ⟨OZ.of oA8.out (tab_len _ _).symm, OZ.of oB8.out (tab_len _ _).symm, .inr (.inr (fun h => by obtain ⟨g, rfl, _⟩ := Own.blkG oA8.out (by rw [tab_len]; omega); exact n3' g rfl h.symm))⟩
          have jz2 := ((jz.setLow (x := ⟨w.heap.size, 0, none⟩) (by simp; omega) (.int .i64 p)).setLow (x := ⟨w.heap.size, 1, none⟩) (by simp; omega) (.slice a' i c')).setLow (x := ⟨w.heap.size, 2, none⟩) (by simp; omega) (.slice b' i d')
          exact ResJ.mk HQ.out HC.out (by rw [HV.out]; exact (tab_len _ _).symm) (by rw [HU.out]; exact (tab_len _ _).symm) (by rw [HV.out, HU.out]; simpa using jz2.mono (lo' := w.heap.size) (by omega) (Nat.le_refl _)) (by rw [HV.out, tab_len]; omega) (by rw [HU.out, tab_len]; omega) (((hBw.setCell (by simp) _).setCell (by simp) _).setCell (by simp) _)
        · have hC : josC p xs = 5 := by rw [HCC.out, hz]; rfl
          have HC := hide hC
          have HV := hide (show josV p xs = [] by simp [josV, hC])
          have HU := hide (show josU p xs = [] by simp [josU, hC])
          have HQ := hide (show josP p xs = 0 by simp [josP, hC])
          have hj := HJ.out
          rw [hz] at hj
          have HJ2 := hide hj
          clear hC hz hlt hj
          go_wp2_with fail
          refine (l03Is_any p _ _ _ (tab i (jsA p xs)) _ _ _ (tab i (jsB p xs)) _ slA.out slB.out (by omega) (by omega)).mono ?_
          rintro e w8 ⟨rfl, t8⟩
          rw [HJ2.out]
          have hB8 := bthen hW'.out t8 (by omega)
          replace r0 := cell_be hB8 r0
          replace r1 := cell_be hB8 r1
          replace r2 := cell_be hB8 r2
          replace y0 := (hB8.frozen (p := ⟨w.heap.size, 0, none⟩) (by simp; omega)).trans y0
          replace y1 := (hB8.frozen (p := ⟨w.heap.size, 1, none⟩) (by simp; omega)).trans y1
          replace y2 := (hB8.frozen (p := ⟨w.heap.size, 2, none⟩) (by simp; omega)).trans y2
          have hBw := hB2.trans (hB8.mono (by omega))
          go_wp2
          refine bodyPost_ret (v := .tuple #[jac 0 none 0 0 none 0 0, .int .i64 5]) (by simp [results, Try.results30, go_sem, r0, r1, r2]) rfl ?_
          exact ResJ.nil HQ.out HV.out HU.out HC.out (((hBw.setCell (by simp) _).setCell (by simp) _).setCell (by simp) _)
end Go.Proofs.Ytddogdmeelckjaa
