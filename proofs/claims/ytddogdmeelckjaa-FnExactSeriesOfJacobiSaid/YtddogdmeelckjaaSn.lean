/- Contracts: SeriesOfJacobi (model). -/
import Derived.Test.YtddogdmeelckjaaSk
namespace Go.Proofs.Ytddogdmeelckjaa
open Go.RowKit
set_option linter.unusedVariables false
set_option linter.unusedSimpArgs false

theorem SL.emp (w : World) (b : Nat) : SL w (some ⟨b, 0, none⟩) 0 0 [] := ⟨rfl, ⟨Nat.le_refl _, fun h => by cases h⟩, .inl rfl⟩
theorem SL.rev {w : World} {a : Option Addr} {c : Nat} {xs : List Int} (h : SL w a (revL xs).length c (revL xs)) : SL w a xs.length c (revL xs) := by rwa [revL_len] at h
set_option maxRecDepth 100000 in
set_option maxHeartbeats 1600000 in
theorem specSeriesOfJacobi (p : Int) (a : Option Addr) (n c : Nat) (xs : List Int) (b : Option Addr) (m d : Nat) (ys : List Int) (k : Int) (w : World) (hs : SL w a n c xs) (ht : SL w b m d ys) (hn : n ≤ 4000000) (hm : m ≤ 4000000) :
    Calls Try.prog 36 #[jac p a n c b m d, .int .i64 k] w (Res1 w (sojV p xs ys k) (sojC p xs ys k)) := by
  have hl := hide hs.len
  have hl2 := hide ht.len
  have hb0 := bl1 w (.cells #[.int .i64 p, .slice a n c, .slice b m d] 41)
  have g1 := hs.below hb0
  have g2 := ht.below hb0
  rcases jcd_cases p xs ys k 0 24 with hc | hc | ⟨hc, hj, q1, q2⟩
  · have Hcd := hide hc
    have HC := hide (show sojC p xs ys k = 1 by exact hc)
    have HV := hide (show sojV p xs ys k = [] by simp [sojV, HC.out])
    clear hc
    go_enter Try.func36, Try.ntmps36
    go_wp2_with fail
    refine (l03Code_any _ _ _ _ _ _ _ _ _ _ _ _ _ _ g1 g2 hn hm Hcd.out).mono ?_
    rintro e w2 ⟨rfl, hm2⟩
    have hB2 := bnext hb0 hm2
    have z2 := hm2.size
    simp at z2
    go_wp2
    go_ret2
    exact Res1.nil HV.out HC.out hB2
  · have Hcd := hide hc
    have HC := hide (show sojC p xs ys k = 2 by exact hc)
    have HV := hide (show sojV p xs ys k = [] by simp [sojV, HC.out])
    clear hc
    go_enter Try.func36, Try.ntmps36
    go_wp2_with fail
    refine (l03Code_any _ _ _ _ _ _ _ _ _ _ _ _ _ _ g1 g2 hn hm Hcd.out).mono ?_
    rintro e w2 ⟨rfl, hm2⟩
    have hB2 := bnext hb0 hm2
    have z2 := hm2.size
    simp at z2
    go_wp2
    go_ret2
    exact Res1.nil HV.out HC.out hB2
  obtain ⟨hpr, n1, n2, n3, hx, hy⟩ := jacB_rng hj
  obtain ⟨hp, hp2⟩ := primeB_lo hpr
  have Hj := hide hj
  have Hpr := hide hpr
  have Hx := hide hx
  have Hy := hide (posB_are hy)
  have r0 := getD_rng (posB_are hy) hp 0
  rw [hl.out] at n1 n2 n3
  rw [hl2.out] at n3
  subst n3
  have Hcd := hide hc
  have HC := hide (show sojC p xs ys k = 0 by exact hc)
  have HV := hide (show sojV p xs ys k = serL p (revL (sojF p xs ys)) (revL (polJ p xs ys m)) k.toNat by simp only [sojV, HC.out, if_true]; rw [hl.out])
  obtain ⟨K, rfl⟩ : ∃ K : Nat, k = K := ⟨k.toNat, by omega⟩
  rw [Int.toNat_natCast] at HV
  obtain ⟨Y0, hY0⟩ : ∃ Y0, ys.getD 0 0 = Y0 := ⟨_, rfl⟩
  have HF := hide (show sojF p xs ys = addM p [] (secJ p xs ys m) Y0 by unfold sojF; rw [hl.out, hY0])
  obtain ⟨b2, o2, rfl, hw2, hc2⟩ := ht.at (by omega)
  have eY := hc2 0 (by omega)
  rw [hY0, Nat.add_zero] at eY
  rw [hY0] at r0
  have hmn : 0 < m := by omega
  have hmp : (0 : Int) < (m : Int) := by omega
  clear hc hj hpr hx hy hY0 hc2
  go_enter Try.func36, Try.ntmps36
  go_wp2_with fail
  refine (l03Code_any _ _ _ _ _ _ _ _ _ _ _ _ _ _ g1 g2 hn hm Hcd.out).mono ?_
  rintro e w2 ⟨rfl, hm2⟩
  have hB2 := bnext hb0 hm2
  have z2 := hm2.size
  simp at z2
  have f0 : w2.cell? ⟨w.heap.size, 0, none⟩ = some (.int .i64 p) := cell_be hm2 (by simp [go_sem])
  have f1 : w2.cell? ⟨w.heap.size, 1, none⟩ = some (.slice a m c) := cell_be hm2 (by simp [go_sem])
  have f2 : w2.cell? ⟨w.heap.size, 2, none⟩ = some (.slice (some ⟨b2, o2, none⟩) m d) := cell_be hm2 (by simp [go_sem])
  have fY : w2.cell? ⟨b2, o2, none⟩ = some (.int .i64 Y0) := cell_be hB2 eY
  have g3 := g1.below hm2
  have g4 := g2.below hm2
  have hbd2 := (Below.refl w2.heap.size w2).drew
  have F2 : ∀ w', Below w2.heap.size w2 w' → Below w2.heap.size w2 w' ∧ w'.cell? ⟨w.heap.size, 0, none⟩ = some (.int .i64 p) ∧ w'.cell? ⟨w.heap.size, 1, none⟩ = some (.slice a m c) ∧ w'.cell? ⟨w.heap.size, 2, none⟩ = some (.slice (some ⟨b2, o2, none⟩) m d) ∧ w'.cell? ⟨b2, o2, none⟩ = some (.int .i64 Y0) := fun w' h => ⟨h, cell_be h f0, cell_be h f1, cell_be h f2, cell_be h fY⟩
  have G2 : ∀ w', (Below w2.heap.size w2 w' ∧ w'.cell? ⟨w.heap.size, 0, none⟩ = some (.int .i64 p) ∧ w'.cell? ⟨w.heap.size, 1, none⟩ = some (.slice a m c) ∧ w'.cell? ⟨w.heap.size, 2, none⟩ = some (.slice (some ⟨b2, o2, none⟩) m d) ∧ w'.cell? ⟨b2, o2, none⟩ = some (.int .i64 Y0)) → Below w2.heap.size w2 w' := fun w' h => h.1
  have sQ := secJ_small hp xs ys m (by omega)
  have lQ := sQ.2
  go_upto_region 5 with fail
  go_cut [8] (fun sv wx => ∃ (a' : Option Addr) (c' : Nat), sv = .slice a' (sojF p xs ys).length c' ∧ Hid (Own w2.heap.size wx a' c' (sojF p xs ys)) ∧ Hid (Below w2.heap.size w2 wx))
  case first =>
    go_region_held3 (fun w' => Below w2.heap.size w2 w' ∧ w'.cell? ⟨w.heap.size, 0, none⟩ = some (.int .i64 p) ∧ w'.cell? ⟨w.heap.size, 1, none⟩ = some (.slice a m c) ∧ w'.cell? ⟨w.heap.size, 2, none⟩ = some (.slice (some ⟨b2, o2, none⟩) m d) ∧ w'.cell? ⟨b2, o2, none⟩ = some (.int .i64 Y0))
      (first | exact F2 _ (by assumption) | exact F2 _ ((bl1 _ _).drew) | exact F2 _ ((Below.refl _ _).drew) | exact F2 _ (Below.alloc (by assumption) (Below.size (by assumption)) _) | exact F2 _ (Below.alloc ((Below.refl _ _).drew) (Below.size ((Below.refl _ _).drew)) _))
      (first
      | (go_at_call 76; refine (l03Second_any p _ _ _ xs _ _ _ ys m _ (g3.below (G2 _ (by assumption))) (g4.below (G2 _ (by assumption))) Hj.out (by omega)).mono ?_; rintro e w3 ⟨ac, cc, rfl, hk, hb3⟩; have hm3 := bnext (G2 _ (by assumption)) hb3)
      | (go_at_call 75; refine (l01Add_any p Y0 _ _ _ [] _ _ _ (secJ p xs ys m) _ (SL.emp _ _) hk.sl (by omega) (by omega) hp hp2 r0.1 r0.2 (areB_nil p) sQ.are).mono ?_; rintro e w4 ⟨af, cf', rfl, ho4, hb4⟩; have hs4 := Below.size (G2 _ (by assumption)); have hm4 := bnext (G2 _ (by assumption)) hb4)
      | (go_at_call 75; refine (l01Add_any p Y0 _ _ _ [] _ _ _ (secJ p xs ys m) _ (SL.emp _ _) (hk.sl.below (bl1 _ _)) (by omega) (by omega) hp hp2 r0.1 r0.2 (areB_nil p) sQ.are).mono ?_; rintro e w4 ⟨af, cf', rfl, ho4, hb4⟩; have hs4 := Below.size (G2 _ (by assumption)); have hm4 := bnext (G2 _ (by assumption)) hb4))
    all_goals go_wp2_with fail
    all_goals go_meet
    all_goals exact ⟨af, cf', by rw [HF.out], hide (by rw [HF.out]; exact ho4.mono hs4), hide hm4⟩
  case rest =>
    obtain ⟨af, cf', rfl, hO, hW⟩ := hcut
    obtain ⟨w4, hw4⟩ : ∃ w4, w4 = wc := ⟨_, rfl⟩
    subst hw4
    have hB4 := hB2.trans (hW.out.mono (by omega))
    have z4 := hB4.size
    have lF : (sojF p xs ys).length ≤ 1000 := by rw [HF.out]; exact addM_len (by simp) (by omega)
    have aF : Hid (areB p (sojF p xs ys) = true) := hide (by rw [HF.out]; exact addM_areB hp (areB_nil p) _ _)
    have sP := polJ_small hp xs ys m (by omega)
    have lP := sP.2
    have lP1 := Nat.le_of_eq (polJ_len Hpr.out xs ys m (by omega)).symm
    have s0 := cell_be hW.out f0
    have s1 := cell_be hW.out f1
    have s2 := cell_be hW.out f2
    have hF := hO.out.sl
    have g5 := g3.below hW.out
    have g6 := g4.below hW.out
    have aP := hide (revL_are (p := p) sP.are)
    clear F2 G2 hO f0 f1 f2 fY
    have hbd4 := (Below.refl w4.heap.size w4).drew
    have F4 : ∀ w', Below w4.heap.size w4 w' → w'.cell? ⟨w.heap.size, 0, none⟩ = some (.int .i64 p) ∧ w'.cell? ⟨w.heap.size, 1, none⟩ = some (.slice a m c) ∧ w'.cell? ⟨w.heap.size, 2, none⟩ = some (.slice (some ⟨b2, o2, none⟩) m d) := fun w' h => ⟨cell_be h s0, cell_be h s1, cell_be h s2⟩
    go_upto_region 6 with fail
    go_region_held3 (fun w' => w'.cell? ⟨w.heap.size, 0, none⟩ = some (.int .i64 p) ∧ w'.cell? ⟨w.heap.size, 1, none⟩ = some (.slice a m c) ∧ w'.cell? ⟨w.heap.size, 2, none⟩ = some (.slice (some ⟨b2, o2, none⟩) m d))
      (exact F4 _ (by assumption))
      (first
      | (go_at_call 77; refine (l05Reverse_any _ _ _ (polJ p xs ys m) _ h7.sl (by omega)).mono ?_; rintro e w8 ⟨ah, ch, rfl, h8, hb8⟩; have hm8 := bnext hm7 hb8; have h6b := h6.below hb8)
      | (go_at_call 77; refine (l05Reverse_any _ _ _ (sojF p xs ys) _ (hF.below hbd4) (by omega)).mono ?_; rintro e w6 ⟨ag, cg, rfl, h5, hb6⟩; have hm6 := bnext hbd4 hb6)
      | (go_at_call 78; refine (l03Poly_any p _ _ _ xs _ _ _ ys m _ (g5.below hm6) (g6.below hm6) Hj.out (by omega)).mono ?_; rintro e w7 ⟨ai, ci, rfl, h7, hb7⟩; have hm7 := bnext hm6 hb7; have h6 := h5.below hb7)
      | (go_at_call 60; refine (l05Series_any p _ _ _ (revL (sojF p xs ys)) _ _ _ (revL (polJ p xs ys m)) K _ (SL.rev h6b.sl) (SL.rev h8.sl) (by omega) (by omega) (by omega) (by omega) hp hp2 (revL_are aF.out) aP.out).mono ?_; rintro e w9 ⟨aj, cj, rfl, h9, hb9⟩; have hz9 := Below.size hm8; have hm9 := bnext hm8 hb9))
    have B9 := hB4.trans (hm9.mono z4)
    have ho2 := Own.mono (B' := w.heap.size) h9 (by omega)
    go_wp2
    go_ret2
    exact Res1.own HC.out (by rw [HV.out, serL_len]) (by rw [HV.out]; exact ho2) (by rw [HV.out, serL_len]; omega) B9
end Go.Proofs.Ytddogdmeelckjaa
