/- Merged texts. -/
import Derived.Test.YtkpmonopjkjflaaYC531
import Derived.Test.YtkpmonopjkjflaaYC530
/- Contracts: MergeRules (program). -/
namespace Go.Proofs.Ytkpmonopjkjflaa
open Go.RowKit Go.Sort
set_option linter.unusedVariables false
set_option linter.unusedSimpArgs false

set_option maxRecDepth 100000 in
set_option maxHeartbeats 3200000 in
theorem implMergeRules (p : Int) (a : Option Addr) (n c : Nat) (xs : List Int) (b : Option Addr) (m d : Nat) (ys : List Int) (q : Int) (a2 : Option Addr) (n2 c2 : Nat) (zs : List Int) (b2 : Option Addr) (m2 d2 : Nat) (ws : List Int) (k : Int) (w : World) (hs : SL w a n c xs) (ht : SL w b m d ys) (hs2 : SL w a2 n2 c2 zs) (ht2 : SL w b2 m2 d2 ws) (hn : n ≤ 4000000) (hm : m ≤ 4000000) (hn2 : n2 ≤ 4000000) (hm2' : m2 ≤ 4000000) :
    Calls Try.prog 56 #[jac p a n c b m d, jac q a2 n2 c2 b2 m2 d2, .int .i64 k] w (ResJ w (mrgP p xs ys q zs ws k) (mrgV p xs ys q zs ws k) (mrgU p xs ys q zs ws k) (mrgC p xs ys q zs ws k)) := by
  have hl := hide hs.len
  have hl2 := hide ht.len
  have hl3 := hide hs2.len
  have hl4 := hide ht2.len
  have hb0 := bl3 w (.cells #[.int .i64 p, .slice a n c, .slice b m d] 52) (.cells #[.int .i64 q, .slice a2 n2 c2, .slice b2 m2 d2] 52) (.cells #[.int .i64 0, .slice none 0 0, .slice none 0 0] 52)
  have g1 := hs.below hb0
  have g2 := ht.below hb0
  cases hj : rulB p xs ys
  · have HC := hide (show mrgC p xs ys q zs ws k = 1 by simp [mrgC, hj])
    have HE := hide (mrg_err HC.out (by decide))
    have Hj := hide hj
    clear hj
    go_enter Try.func56, Try.ntmps56
    go_wp2_with fail
    refine (implIsRule _ _ _ _ _ _ _ _ _ _ g1 g2 hn hm).mono ?_
    rintro e w2 ⟨rfl, hm2⟩
    rw [Hj.out]
    have hB2 := bnext hb0 hm2
    have r0 : w2.cell? ⟨w.heap.size + 1 + 1, 0, none⟩ = some (.int .i64 0) := cell_be hm2 (by simp [go_sem])
    have r1 : w2.cell? ⟨w.heap.size + 1 + 1, 1, none⟩ = some (.slice none 0 0) := cell_be hm2 (by simp [go_sem])
    have r2 : w2.cell? ⟨w.heap.size + 1 + 1, 2, none⟩ = some (.slice none 0 0) := cell_be hm2 (by simp [go_sem])
    have y0 : w2.frozen? ⟨w.heap.size + 1 + 1, 0, none⟩ = false := (hm2.frozen (by simp)).trans (by simp [go_sem])
    have y1 : w2.frozen? ⟨w.heap.size + 1 + 1, 1, none⟩ = false := (hm2.frozen (by simp)).trans (by simp [go_sem])
    have y2 : w2.frozen? ⟨w.heap.size + 1 + 1, 2, none⟩ = false := (hm2.frozen (by simp)).trans (by simp [go_sem])
    go_wp2
    refine bodyPost_ret (v := .tuple #[jac 0 none 0 0 none 0 0, .int .i64 1]) (by simp [results, Try.results56, go_sem, r0, r1, r2]) rfl ?_
    exact ResJ.nil HE.out.1 HE.out.2.1 HE.out.2.2 HC.out (((hB2.setCell (p := ⟨w.heap.size + 1 + 1, 0, none⟩) (by show w.heap.size ≤ w.heap.size + 1 + 1; omega) _).setCell (p := ⟨w.heap.size + 1 + 1, 1, none⟩) (by show w.heap.size ≤ w.heap.size + 1 + 1; omega) _).setCell (p := ⟨w.heap.size + 1 + 1, 2, none⟩) (by show w.heap.size ≤ w.heap.size + 1 + 1; omega) _)
  have Hj := hide hj
  cases hj2 : rulB q zs ws
  · have HC := hide (show mrgC p xs ys q zs ws k = 1 by simp [mrgC, hj2])
    have HE := hide (mrg_err HC.out (by decide))
    have Hj2 := hide hj2
    clear hj hj2
    go_enter Try.func56, Try.ntmps56
    go_wp2_with fail
    refine (implIsRule _ _ _ _ _ _ _ _ _ _ g1 g2 hn hm).mono ?_
    rintro e w1 ⟨rfl, hm1⟩
    rw [Hj.out]
    have hB1 := bnext hb0 hm1
    have k0 : w1.cell? ⟨w.heap.size + 1, 0, none⟩ = some (.int .i64 q) := cell_be hm1 (by simp [go_sem])
    have k1 : w1.cell? ⟨w.heap.size + 1, 1, none⟩ = some (.slice a2 n2 c2) := cell_be hm1 (by simp [go_sem])
    have k2 : w1.cell? ⟨w.heap.size + 1, 2, none⟩ = some (.slice b2 m2 d2) := cell_be hm1 (by simp [go_sem])
    go_wp2_with fail
    refine (implIsRule _ _ _ _ _ _ _ _ _ _ (hs2.below hB1) (ht2.below hB1) hn2 hm2').mono ?_
    rintro e w2 ⟨rfl, hmm⟩
    rw [Hj2.out]
    have hm2 := bnext hm1 hmm
    have hB2 := bnext hb0 hm2
    have r0 : w2.cell? ⟨w.heap.size + 1 + 1, 0, none⟩ = some (.int .i64 0) := cell_be hm2 (by simp [go_sem])
    have r1 : w2.cell? ⟨w.heap.size + 1 + 1, 1, none⟩ = some (.slice none 0 0) := cell_be hm2 (by simp [go_sem])
    have r2 : w2.cell? ⟨w.heap.size + 1 + 1, 2, none⟩ = some (.slice none 0 0) := cell_be hm2 (by simp [go_sem])
    have y0 : w2.frozen? ⟨w.heap.size + 1 + 1, 0, none⟩ = false := (hm2.frozen (by simp)).trans (by simp [go_sem])
    have y1 : w2.frozen? ⟨w.heap.size + 1 + 1, 1, none⟩ = false := (hm2.frozen (by simp)).trans (by simp [go_sem])
    have y2 : w2.frozen? ⟨w.heap.size + 1 + 1, 2, none⟩ = false := (hm2.frozen (by simp)).trans (by simp [go_sem])
    go_wp2
    refine bodyPost_ret (v := .tuple #[jac 0 none 0 0 none 0 0, .int .i64 1]) (by simp [results, Try.results56, go_sem, r0, r1, r2]) rfl ?_
    exact ResJ.nil HE.out.1 HE.out.2.1 HE.out.2.2 HC.out (((hB2.setCell (p := ⟨w.heap.size + 1 + 1, 0, none⟩) (by show w.heap.size ≤ w.heap.size + 1 + 1; omega) _).setCell (p := ⟨w.heap.size + 1 + 1, 1, none⟩) (by show w.heap.size ≤ w.heap.size + 1 + 1; omega) _).setCell (p := ⟨w.heap.size + 1 + 1, 2, none⟩) (by show w.heap.size ≤ w.heap.size + 1 + 1; omega) _)
  have Hj2 := hide hj2
  obtain ⟨hpr, n2', n3, hx, hy, hasc⟩ := rulB_rng hj
  obtain ⟨hp, hp2⟩ := primeB_lo hpr
  obtain ⟨hpq, nn2, nn3, hz, hw, _⟩ := rulB_rng hj2
  rw [hl.out] at n2' n3
  rw [hl2.out] at n3
  subst n3
  rw [hl3.out] at nn2 nn3
  rw [hl4.out] at nn3
  subst nn3
  have vp : IntKind.i64.wrap (p - 1) = p - 1 := IntWalk.i64_in _ (by omega)
  by_cases hq : p = q
  rotate_left
  · have HC := hide (show mrgC p xs ys q zs ws k = 2 by simp only [mrgC, hj, hj2, Bool.and_self, if_true]; rw [if_neg (by omega)])
    have HE := hide (mrg_err HC.out (by decide))
    have hq1 : (p == q) = false := by simpa using hq
    have hq2 : (p != q) = true := by simpa using hq
    have hq3 : decide (p = q) = false := by simpa using hq
    clear hj hj2 hpr hx hy hasc hpq hz hw
    go_enter Try.func56, Try.ntmps56
    go_wp2_with fail
    refine (implIsRule _ _ _ _ _ _ _ _ _ _ g1 g2 hn hm).mono ?_
    rintro e w1 ⟨rfl, hm1⟩
    rw [Hj.out]
    have hB1 := bnext hb0 hm1
    have k0 : w1.cell? ⟨w.heap.size + 1, 0, none⟩ = some (.int .i64 q) := cell_be hm1 (by simp [go_sem])
    have k1 : w1.cell? ⟨w.heap.size + 1, 1, none⟩ = some (.slice a2 m2 c2) := cell_be hm1 (by simp [go_sem])
    have k2 : w1.cell? ⟨w.heap.size + 1, 2, none⟩ = some (.slice b2 m2 d2) := cell_be hm1 (by simp [go_sem])
    have f0 : w1.cell? ⟨w.heap.size, 0, none⟩ = some (.int .i64 p) := cell_be hm1 (by simp [go_sem])
    go_wp2_with fail
    refine (implIsRule _ _ _ _ _ _ _ _ _ _ (hs2.below hB1) (ht2.below hB1) hn2 hm2').mono ?_
    rintro e w2 ⟨rfl, hmm⟩
    rw [Hj2.out]
    have hm2 := bnext hm1 hmm
    have hB2 := bnext hb0 hm2
    replace k0 := cell_be hmm k0
    replace f0 := cell_be hmm f0
    clear k1 k2
    have r0 : w2.cell? ⟨w.heap.size + 1 + 1, 0, none⟩ = some (.int .i64 0) := cell_be hm2 (by simp [go_sem])
    have r1 : w2.cell? ⟨w.heap.size + 1 + 1, 1, none⟩ = some (.slice none 0 0) := cell_be hm2 (by simp [go_sem])
    have r2 : w2.cell? ⟨w.heap.size + 1 + 1, 2, none⟩ = some (.slice none 0 0) := cell_be hm2 (by simp [go_sem])
    have y0 : w2.frozen? ⟨w.heap.size + 1 + 1, 0, none⟩ = false := (hm2.frozen (by simp)).trans (by simp [go_sem])
    have y1 : w2.frozen? ⟨w.heap.size + 1 + 1, 1, none⟩ = false := (hm2.frozen (by simp)).trans (by simp [go_sem])
    have y2 : w2.frozen? ⟨w.heap.size + 1 + 1, 2, none⟩ = false := (hm2.frozen (by simp)).trans (by simp [go_sem])
    go_wp2
    refine bodyPost_ret (v := .tuple #[jac 0 none 0 0 none 0 0, .int .i64 2]) (by simp [results, Try.results56, go_sem, r0, r1, r2]) rfl ?_
    exact ResJ.nil HE.out.1 HE.out.2.1 HE.out.2.2 HC.out (((hB2.setCell (p := ⟨w.heap.size + 1 + 1, 0, none⟩) (by show w.heap.size ≤ w.heap.size + 1 + 1; omega) _).setCell (p := ⟨w.heap.size + 1 + 1, 1, none⟩) (by show w.heap.size ≤ w.heap.size + 1 + 1; omega) _).setCell (p := ⟨w.heap.size + 1 + 1, 2, none⟩) (by show w.heap.size ≤ w.heap.size + 1 + 1; omega) _)
  subst hq
  by_cases h1 : 0 ≤ k ∧ k < p
  rotate_left
  · have HC := hide (show mrgC p xs ys p zs ws k = 2 by simp only [mrgC, hj, hj2, Bool.and_self, if_true]; rw [if_neg (fun h => h1 ⟨h.2.1, h.2.2⟩)])
    have HE := hide (mrg_err HC.out (by decide))
    have Hn := hide h1
    clear hj hj2 hpr hx hy hasc hpq hz hw h1
    go_enter Try.func56, Try.ntmps56
    go_wp2_with fail
    refine (implIsRule _ _ _ _ _ _ _ _ _ _ g1 g2 hn hm).mono ?_
    rintro e w1 ⟨rfl, hm1⟩
    rw [Hj.out]
    have hB1 := bnext hb0 hm1
    have k0 : w1.cell? ⟨w.heap.size + 1, 0, none⟩ = some (.int .i64 p) := cell_be hm1 (by simp [go_sem])
    have k1 : w1.cell? ⟨w.heap.size + 1, 1, none⟩ = some (.slice a2 m2 c2) := cell_be hm1 (by simp [go_sem])
    have k2 : w1.cell? ⟨w.heap.size + 1, 2, none⟩ = some (.slice b2 m2 d2) := cell_be hm1 (by simp [go_sem])
    have f0 : w1.cell? ⟨w.heap.size, 0, none⟩ = some (.int .i64 p) := cell_be hm1 (by simp [go_sem])
    go_wp2_with fail
    refine (implIsRule _ _ _ _ _ _ _ _ _ _ (hs2.below hB1) (ht2.below hB1) hn2 hm2').mono ?_
    rintro e w2 ⟨rfl, hmm⟩
    rw [Hj2.out]
    have hm2 := bnext hm1 hmm
    have hB2 := bnext hb0 hm2
    replace k0 := cell_be hmm k0
    replace f0 := cell_be hmm f0
    clear k1 k2
    have r0 : w2.cell? ⟨w.heap.size + 1 + 1, 0, none⟩ = some (.int .i64 0) := cell_be hm2 (by simp [go_sem])
    have r1 : w2.cell? ⟨w.heap.size + 1 + 1, 1, none⟩ = some (.slice none 0 0) := cell_be hm2 (by simp [go_sem])
    have r2 : w2.cell? ⟨w.heap.size + 1 + 1, 2, none⟩ = some (.slice none 0 0) := cell_be hm2 (by simp [go_sem])
    have y0 : w2.frozen? ⟨w.heap.size + 1 + 1, 0, none⟩ = false := (hm2.frozen (by simp)).trans (by simp [go_sem])
    have y1 : w2.frozen? ⟨w.heap.size + 1 + 1, 1, none⟩ = false := (hm2.frozen (by simp)).trans (by simp [go_sem])
    have y2 : w2.frozen? ⟨w.heap.size + 1 + 1, 2, none⟩ = false := (hm2.frozen (by simp)).trans (by simp [go_sem])
    go_wp2_with fail
    refine (isNumber_no _ _ _ Hn.out).mono ?_
    rintro e w2' ⟨rfl, rfl⟩
    go_wp2
    refine bodyPost_ret (v := .tuple #[jac 0 none 0 0 none 0 0, .int .i64 2]) (by simp [results, Try.results56, go_sem, r0, r1, r2]) rfl ?_
    exact ResJ.nil HE.out.1 HE.out.2.1 HE.out.2.2 HC.out (((hB2.setCell (p := ⟨w.heap.size + 1 + 1, 0, none⟩) (by show w.heap.size ≤ w.heap.size + 1 + 1; omega) _).setCell (p := ⟨w.heap.size + 1 + 1, 1, none⟩) (by show w.heap.size ≤ w.heap.size + 1 + 1; omega) _).setCell (p := ⟨w.heap.size + 1 + 1, 2, none⟩) (by show w.heap.size ≤ w.heap.size + 1 + 1; omega) _)
  obtain ⟨k0', k1'⟩ := h1
  have HC0 := hide (show mrgC p xs ys p zs ws k = if 24 < (mrgR p xs ys zs ws k).length then 3 else 0 by simp only [mrgC, hj, hj2, Bool.and_self, if_true]; rw [if_pos ⟨by trivial, k0', k1'⟩])
  have HW := hide (mulW_wts hp k (zipW zs ws))
  have HW0 := hide (zipW_wts (xs := xs) hp hy)
  have HD : Hid ((mulW p k (zipW zs ws) ++ zipW xs ys).length = m2 + m) := hide (by rw [List.length_append, mulW_len, zipW_len, zipW_len, hl.out, hl3.out])
  have HDw : Hid (∀ e ∈ mulW p k (zipW zs ws) ++ zipW xs ys, 0 ≤ e.2 ∧ e.2 < p) := hide fun e he => by
    rcases List.mem_append.1 he with h | h
    · exact HW.out e h
    · exact HW0.out e h
  have HS := hide (mrgR_sort (p := p) (xs := xs) (ys := ys) (zs := zs) (ws := ws) (k := k) hasc)
  have hlen : (mrgR p xs ys zs ws k).length ≤ 48 := by
    have := putsR_len p (mulW p k (zipW zs ws)) (zipW xs ys)
    rw [mulW_len, zipW_len, zipW_len, hl.out, hl3.out] at this
    unfold mrgR
    omega
  have Hlen := hide hlen
  clear hj hj2 hpr hx hy hasc hpq hz hw hlen
  go_enter Try.func56, Try.ntmps56
  go_wp2_with fail
  refine (implIsRule _ _ _ _ _ _ _ _ _ _ g1 g2 hn hm).mono ?_
  rintro e w1 ⟨rfl, hm1⟩
  rw [Hj.out]
  have hB1 := bnext hb0 hm1
  have k0 : w1.cell? ⟨w.heap.size + 1, 0, none⟩ = some (.int .i64 p) := cell_be hm1 (by simp [go_sem])
  have k1 : w1.cell? ⟨w.heap.size + 1, 1, none⟩ = some (.slice a2 m2 c2) := cell_be hm1 (by simp [go_sem])
  have k2 : w1.cell? ⟨w.heap.size + 1, 2, none⟩ = some (.slice b2 m2 d2) := cell_be hm1 (by simp [go_sem])
  have f0 : w1.cell? ⟨w.heap.size, 0, none⟩ = some (.int .i64 p) := cell_be hm1 (by simp [go_sem])
  have f1 : w1.cell? ⟨w.heap.size, 1, none⟩ = some (.slice a m c) := cell_be hm1 (by simp [go_sem])
  have f2 : w1.cell? ⟨w.heap.size, 2, none⟩ = some (.slice b m d) := cell_be hm1 (by simp [go_sem])
  go_wp2_with fail
  refine (implIsRule _ _ _ _ _ _ _ _ _ _ (hs2.below hB1) (ht2.below hB1) hn2 hm2').mono ?_
  rintro e w2 ⟨rfl, hmm⟩
  rw [Hj2.out]
  have hm2 := bnext hm1 hmm
  have hB2 := bnext hb0 hm2
  replace k0 := cell_be hmm k0
  replace k1 := cell_be hmm k1
  replace k2 := cell_be hmm k2
  replace f0 := cell_be hmm f0
  replace f1 := cell_be hmm f1
  replace f2 := cell_be hmm f2
  have z2 := hm2.size
  simp at z2
  have r0 : w2.cell? ⟨w.heap.size + 1 + 1, 0, none⟩ = some (.int .i64 0) := cell_be hm2 (by simp [go_sem])
  have r1 : w2.cell? ⟨w.heap.size + 1 + 1, 1, none⟩ = some (.slice none 0 0) := cell_be hm2 (by simp [go_sem])
  have r2 : w2.cell? ⟨w.heap.size + 1 + 1, 2, none⟩ = some (.slice none 0 0) := cell_be hm2 (by simp [go_sem])
  have y0 : w2.frozen? ⟨w.heap.size + 1 + 1, 0, none⟩ = false := (hm2.frozen (by simp)).trans (by simp [go_sem])
  have y1 : w2.frozen? ⟨w.heap.size + 1 + 1, 1, none⟩ = false := (hm2.frozen (by simp)).trans (by simp [go_sem])
  have y2 : w2.frozen? ⟨w.heap.size + 1 + 1, 2, none⟩ = false := (hm2.frozen (by simp)).trans (by simp [go_sem])
  go_wp2_with fail
  refine (isNumber_yes _ _ _ k0' k1').mono ?_
  rintro e w2' ⟨rfl, rfl⟩
  go_wp2_with fail
  refine (ruleOf_merged p a m c b d a2 m2 c2 b2 d2 k (mulW p k (zipW zs ws) ++ zipW xs ys) _ hp hp2 (by rw [HD.out]; omega) HDw.out (fun w' hb => ?_)).mono ?_
  · refine (mergedParts_any p a m c xs b d ys a2 m2 c2 zs b2 d2 ws k w' (hs.below (bnext hB2 hb)) (ht.below (bnext hB2 hb)) (hs2.below (bnext hB2 hb)) (ht2.below (bnext hB2 hb)) Hj.out Hj2.out k0' k1').mono ?_
    rintro e u ⟨g, cap, rfl, hg, hP, hB⟩
    exact ⟨g, cap, by rw [HD.out], hg, hP, hB⟩
  rintro e w3 ⟨a3, c3, b3, d3, rfl, hJ, t3⟩
  rw [HS.out] at hJ ⊢
  have hB3 := bnext hB2 t3
  replace y0 := (t3.frozen (World.block_lt_of_cell? _ _ r0)).trans y0
  replace y1 := (t3.frozen (World.block_lt_of_cell? _ _ r1)).trans y1
  replace y2 := (t3.frozen (World.block_lt_of_cell? _ _ r2)).trans y2
  replace r0 := cell_be t3 r0
  replace r1 := cell_be t3 r1
  replace r2 := cell_be t3 r2
  obtain ⟨N, hN⟩ : ∃ N, (mrgR p xs ys zs ws k).length = N := ⟨_, rfl⟩
  rw [hN] at hJ HC0 Hlen ⊢
  have HN := hide hN
  have hJ' := hide hJ
  have hN48 := Hlen.out
  clear hJ t3 hN
  have hb4 := bl1 w3 (.cells #[.int .i64 p, .slice a3 N c3, .slice b3 N d3] 52)
  have hB4 := hide (bnext hB3 hb4)
  have s0 := frz_al r0 y0 (.cells #[.int .i64 p, .slice a3 N c3, .slice b3 N d3] 52)
  have s1 := frz_al r1 y1 (.cells #[.int .i64 p, .slice a3 N c3, .slice b3 N d3] 52)
  have s2 := frz_al r2 y2 (.cells #[.int .i64 p, .slice a3 N c3, .slice b3 N d3] 52)
  have a0 := cell_al r0 (.cells #[.int .i64 p, .slice a3 N c3, .slice b3 N d3] 52)
  have a1 := cell_al r1 (.cells #[.int .i64 p, .slice a3 N c3, .slice b3 N d3] 52)
  have a2' := cell_al r2 (.cells #[.int .i64 p, .slice a3 N c3, .slice b3 N d3] 52)
  have e0 : (w3.alloc (.cells #[.int .i64 p, .slice a3 N c3, .slice b3 N d3] 52)).cell? ⟨w3.heap.size, 0, none⟩ = some (.int .i64 p) := by simp [go_sem]
  have e1 : (w3.alloc (.cells #[.int .i64 p, .slice a3 N c3, .slice b3 N d3] 52)).cell? ⟨w3.heap.size, 1, none⟩ = some (.slice a3 N c3) := by simp [go_sem]
  have e2 : (w3.alloc (.cells #[.int .i64 p, .slice a3 N c3, .slice b3 N d3] 52)).cell? ⟨w3.heap.size, 2, none⟩ = some (.slice b3 N d3) := by simp [go_sem]
  have hJ4 := hide (hJ'.out.below hb4)
  have sz4 : w3.heap.size ≤ (w3.alloc (.cells #[.int .i64 p, .slice a3 N c3, .slice b3 N d3] 52)).heap.size := by simp
  obtain ⟨w4, hw4⟩ : ∃ w4, w4 = w3.alloc (.cells #[.int .i64 p, .slice a3 N c3, .slice b3 N d3] 52) := ⟨_, rfl⟩
  rw [← hw4] at s0 s1 s2 a0 a1 a2' e0 e1 e2 hB4 hJ4 sz4
  clear r0 r1 r2 y0 y1 y2 hb4 hJ'
  obtain ⟨q, hq⟩ : ∃ q, w3.heap.size = q := ⟨_, rfl⟩
  rw [hq] at e0 e1 e2 hJ4 sz4
  by_cases hlim : 24 < N
  · have HC := hide (show mrgC p xs ys p zs ws k = 3 by rw [HC0.out, if_pos hlim])
    have HE := hide (mrg_err HC.out (by decide))
    have hlim' : (24 : Int) < (N : Int) := by omega
    go_upto_region 6 with fail
    rw [← hw4]
    clear hw4 hq
    go_wp2
    refine bodyPost_ret (v := .tuple #[jac 0 none 0 0 none 0 0, .int .i64 3]) (by simp [results, Try.results56, go_sem, a0, a1, a2']) rfl ?_
    exact ResJ.nil HE.out.1 HE.out.2.1 HE.out.2.2 HC.out (((hB4.out.setCell (p := ⟨w.heap.size + 1 + 1, 0, none⟩) (by show w.heap.size ≤ w.heap.size + 1 + 1; omega) _).setCell (p := ⟨w.heap.size + 1 + 1, 1, none⟩) (by show w.heap.size ≤ w.heap.size + 1 + 1; omega) _).setCell (p := ⟨w.heap.size + 1 + 1, 2, none⟩) (by show w.heap.size ≤ w.heap.size + 1 + 1; omega) _)
  · have HC := hide (show mrgC p xs ys p zs ws k = 0 by rw [HC0.out, if_neg hlim])
    have HO := hide (mrg_out HC.out)
    have hlim' : ¬ (24 : Int) < (N : Int) := by omega
    go_upto_region 6 with fail
    rw [← hw4]
    clear hw4 hq
    go_wp2
    refine bodyPost_ret (v := .tuple #[jac p a3 N c3 b3 N d3, .int .i64 0]) (by simp [results, Try.results56, go_sem, a0, a1, a2']) rfl ?_
    have j2 := ((hJ4.out.setLow (x := ⟨w.heap.size + 1 + 1, 0, none⟩) (by show w.heap.size + 1 + 1 < w2.heap.size; omega) (.int .i64 p)).setLow (x := ⟨w.heap.size + 1 + 1, 1, none⟩) (by show w.heap.size + 1 + 1 < w2.heap.size; omega) (.slice a3 N c3)).setLow (x := ⟨w.heap.size + 1 + 1, 2, none⟩) (by show w.heap.size + 1 + 1 < w2.heap.size; omega) (.slice b3 N d3)
    exact ResJ.mk HO.out.1 HC.out (by rw [HO.out.2.1, nodesR_len]; exact HN.out.symm) (by rw [HO.out.2.2, wtsR_len]; exact HN.out.symm) (by rw [HO.out.2.1, HO.out.2.2]; exact j2.mono (lo' := w.heap.size) (by omega) (by simp; omega)) (by rw [HO.out.2.1, nodesR_len, HN.out]; omega) (by rw [HO.out.2.2, wtsR_len, HN.out]; omega) (((hB4.out.setCell (p := ⟨w.heap.size + 1 + 1, 0, none⟩) (by show w.heap.size ≤ w.heap.size + 1 + 1; omega) _).setCell (p := ⟨w.heap.size + 1 + 1, 1, none⟩) (by show w.heap.size ≤ w.heap.size + 1 + 1; omega) _).setCell (p := ⟨w.heap.size + 1 + 1, 2, none⟩) (by show w.heap.size ≤ w.heap.size + 1 + 1; omega) _)

end Go.Proofs.Ytkpmonopjkjflaa
/- Contracts: MergeRules (model). -/
namespace Go.Proofs.Ytkpmonopjkjflaa
open Go.RowKit Go.Sort
set_option linter.unusedVariables false
set_option linter.unusedSimpArgs false

/-- A rule's variable, still zero. -/
def ZR (w : World) (q : Nat) : Prop := w.heap[q]? = some (.cells #[.int .i64 0, .slice none 0 0, .slice none 0 0] 52 (0, 0))
section
variable {w w' : World} {q : Nat}
theorem ZR.lt (h : ZR w q) : q < w.heap.size := lt_of_block h
theorem ZR.c0 (h : ZR w q) : w.cell? ⟨q, 0, none⟩ = some (.int .i64 0) := by rw [cell_of_row w q 0 _ _ (0, 0) h]; rfl
theorem ZR.c1 (h : ZR w q) : w.cell? ⟨q, 1, none⟩ = some (.slice none 0 0) := by rw [cell_of_row w q 1 _ _ (0, 0) h]; rfl
theorem ZR.c2 (h : ZR w q) : w.cell? ⟨q, 2, none⟩ = some (.slice none 0 0) := by rw [cell_of_row w q 2 _ _ (0, 0) h]; rfl
theorem ZR.fr (h : ZR w q) (j : Nat) : w.frozen? ⟨q, j, none⟩ = false := frozen_of_row w q j _ _ h
theorem ZR.next (h : ZR w q) (hb : Below w.heap.size w w') : ZR w' q := (hb.block q h.lt).trans h
theorem ZR.put (h : ZR w q) (p' : Int) (ga' n' c' gb' m' d' : Nat) : OutR (((w.setCell ⟨q, 0, none⟩ (.int .i64 p')).setCell ⟨q, 1, none⟩ (.slice (some ⟨ga', 0, none⟩) n' c')).setCell ⟨q, 2, none⟩ (.slice (some ⟨gb', 0, none⟩) m' d')) q p' ga' n' c' gb' m' d' := by
  unfold OutR
  have h1 := heap_setCell_same w q 0 _ _ (.int .i64 p') h
  have h2 := heap_setCell_same _ q 1 _ _ (.slice (some ⟨ga', 0, none⟩) n' c') h1
  have h3 := heap_setCell_same _ q 2 _ _ (.slice (some ⟨gb', 0, none⟩) m' d') h2
  rw [h3]
  rfl
theorem ZR.ne (h : ZR w q) {B g cap : Nat} {ys : List Int} (ho : Own B w (some ⟨g, 0, none⟩) cap ys) : g ≠ q := by
  rintro rfl
  rcases ho.shape with ⟨h1, _⟩ | ⟨g', cur, h1, _, h2, _⟩
  · cases h1
  · obtain rfl : g = g' := by cases h1; rfl
    rw [ZR] at h
    rw [h] at h2
    simp at h2
end
theorem putsZ_take (p : Int) (Z L : List (Int × Int)) (k : Nat) (h : k < L.length) : putsR p Z (L.take (k + 1)) = putR p (putsR p Z (L.take k)) (L.getD k (0, 0)).1 (L.getD k (0, 0)).2 := by
  have e : L.getD k (0, 0) = L[k] := by rw [List.getD, List.getElem?_eq_getElem h]; rfl
  rw [e, List.take_add_one, List.getElem?_eq_getElem h]
  unfold putsR
  rw [List.foldl_append]
  rfl
set_option maxRecDepth 100000 in
set_option maxHeartbeats 3200000 in
theorem specMergeRules (p : Int) (a : Option Addr) (n c : Nat) (xs : List Int) (b : Option Addr) (m d : Nat) (ys : List Int) (q : Int) (a2 : Option Addr) (n2 c2 : Nat) (zs : List Int) (b2 : Option Addr) (m2 d2 : Nat) (ws : List Int) (k : Int) (w : World) (hs : SL w a n c xs) (ht : SL w b m d ys) (hs2 : SL w a2 n2 c2 zs) (ht2 : SL w b2 m2 d2 ws) (hn : n ≤ 4000000) (hm : m ≤ 4000000) (hn2 : n2 ≤ 4000000) (hm2' : m2 ≤ 4000000) :
    Calls Try.prog 55 #[jac p a n c b m d, jac q a2 n2 c2 b2 m2 d2, .int .i64 k] w (ResJ w (mrgP p xs ys q zs ws k) (mrgV p xs ys q zs ws k) (mrgU p xs ys q zs ws k) (mrgC p xs ys q zs ws k)) := by
  have hl := hide hs.len
  have hl2 := hide ht.len
  have hl3 := hide hs2.len
  have hl4 := hide ht2.len
  have hb0 := bl3 w (.cells #[.int .i64 p, .slice a n c, .slice b m d] 52) (.cells #[.int .i64 q, .slice a2 n2 c2, .slice b2 m2 d2] 52) (.cells #[.int .i64 0, .slice none 0 0, .slice none 0 0] 52)
  have g1 := hs.below hb0
  have g2 := ht.below hb0
  cases hj : rulB p xs ys
  · have HC := hide (show mrgC p xs ys q zs ws k = 1 by simp [mrgC, hj])
    have HE := hide (mrg_err HC.out (by decide))
    have Hj := hide hj
    clear hj
    go_enter Try.func55, Try.ntmps55
    go_wp2_with fail
    refine (l07Is_any _ _ _ _ _ _ _ _ _ _ g1 g2 hn hm).mono ?_
    rintro e w2 ⟨rfl, hm2⟩
    rw [Hj.out]
    have hB2 := bnext hb0 hm2
    have r0 : w2.cell? ⟨w.heap.size + 1 + 1, 0, none⟩ = some (.int .i64 0) := cell_be hm2 (by simp [go_sem])
    have r1 : w2.cell? ⟨w.heap.size + 1 + 1, 1, none⟩ = some (.slice none 0 0) := cell_be hm2 (by simp [go_sem])
    have r2 : w2.cell? ⟨w.heap.size + 1 + 1, 2, none⟩ = some (.slice none 0 0) := cell_be hm2 (by simp [go_sem])
    have y0 : w2.frozen? ⟨w.heap.size + 1 + 1, 0, none⟩ = false := (hm2.frozen (by simp)).trans (by simp [go_sem])
    have y1 : w2.frozen? ⟨w.heap.size + 1 + 1, 1, none⟩ = false := (hm2.frozen (by simp)).trans (by simp [go_sem])
    have y2 : w2.frozen? ⟨w.heap.size + 1 + 1, 2, none⟩ = false := (hm2.frozen (by simp)).trans (by simp [go_sem])
    go_wp2
    refine bodyPost_ret (v := .tuple #[jac 0 none 0 0 none 0 0, .int .i64 1]) (by simp [results, Try.results55, go_sem, r0, r1, r2]) rfl ?_
    exact ResJ.nil HE.out.1 HE.out.2.1 HE.out.2.2 HC.out (((hB2.setCell (p := ⟨w.heap.size + 1 + 1, 0, none⟩) (by show w.heap.size ≤ w.heap.size + 1 + 1; omega) _).setCell (p := ⟨w.heap.size + 1 + 1, 1, none⟩) (by show w.heap.size ≤ w.heap.size + 1 + 1; omega) _).setCell (p := ⟨w.heap.size + 1 + 1, 2, none⟩) (by show w.heap.size ≤ w.heap.size + 1 + 1; omega) _)
  have Hj := hide hj
  cases hj2 : rulB q zs ws
  · have HC := hide (show mrgC p xs ys q zs ws k = 1 by simp [mrgC, hj2])
    have HE := hide (mrg_err HC.out (by decide))
    have Hj2 := hide hj2
    clear hj hj2
    go_enter Try.func55, Try.ntmps55
    go_wp2_with fail
    refine (l07Is_any _ _ _ _ _ _ _ _ _ _ g1 g2 hn hm).mono ?_
    rintro e w1 ⟨rfl, hm1⟩
    rw [Hj.out]
    have hB1 := bnext hb0 hm1
    have k0 : w1.cell? ⟨w.heap.size + 1, 0, none⟩ = some (.int .i64 q) := cell_be hm1 (by simp [go_sem])
    have k1 : w1.cell? ⟨w.heap.size + 1, 1, none⟩ = some (.slice a2 n2 c2) := cell_be hm1 (by simp [go_sem])
    have k2 : w1.cell? ⟨w.heap.size + 1, 2, none⟩ = some (.slice b2 m2 d2) := cell_be hm1 (by simp [go_sem])
    go_wp2_with fail
    refine (l07Is_any _ _ _ _ _ _ _ _ _ _ (hs2.below hB1) (ht2.below hB1) hn2 hm2').mono ?_
    rintro e w2 ⟨rfl, hmm⟩
    rw [Hj2.out]
    have hm2 := bnext hm1 hmm
    have hB2 := bnext hb0 hm2
    have r0 : w2.cell? ⟨w.heap.size + 1 + 1, 0, none⟩ = some (.int .i64 0) := cell_be hm2 (by simp [go_sem])
    have r1 : w2.cell? ⟨w.heap.size + 1 + 1, 1, none⟩ = some (.slice none 0 0) := cell_be hm2 (by simp [go_sem])
    have r2 : w2.cell? ⟨w.heap.size + 1 + 1, 2, none⟩ = some (.slice none 0 0) := cell_be hm2 (by simp [go_sem])
    have y0 : w2.frozen? ⟨w.heap.size + 1 + 1, 0, none⟩ = false := (hm2.frozen (by simp)).trans (by simp [go_sem])
    have y1 : w2.frozen? ⟨w.heap.size + 1 + 1, 1, none⟩ = false := (hm2.frozen (by simp)).trans (by simp [go_sem])
    have y2 : w2.frozen? ⟨w.heap.size + 1 + 1, 2, none⟩ = false := (hm2.frozen (by simp)).trans (by simp [go_sem])
    go_wp2
    refine bodyPost_ret (v := .tuple #[jac 0 none 0 0 none 0 0, .int .i64 1]) (by simp [results, Try.results55, go_sem, r0, r1, r2]) rfl ?_
    exact ResJ.nil HE.out.1 HE.out.2.1 HE.out.2.2 HC.out (((hB2.setCell (p := ⟨w.heap.size + 1 + 1, 0, none⟩) (by show w.heap.size ≤ w.heap.size + 1 + 1; omega) _).setCell (p := ⟨w.heap.size + 1 + 1, 1, none⟩) (by show w.heap.size ≤ w.heap.size + 1 + 1; omega) _).setCell (p := ⟨w.heap.size + 1 + 1, 2, none⟩) (by show w.heap.size ≤ w.heap.size + 1 + 1; omega) _)
  have Hj2 := hide hj2
  obtain ⟨hpr, n2', n3, hx, hy, hasc⟩ := rulB_rng hj
  obtain ⟨hp, hp2⟩ := primeB_lo hpr
  obtain ⟨hpq, nn2, nn3, hz, hw, _⟩ := rulB_rng hj2
  rw [hl.out] at n2' n3
  rw [hl2.out] at n3
  subst n3
  rw [hl3.out] at nn2 nn3
  rw [hl4.out] at nn3
  subst nn3
  have vp : IntKind.i64.wrap (p - 1) = p - 1 := IntWalk.i64_in _ (by omega)
  by_cases hq : p = q
  rotate_left
  · have HC := hide (show mrgC p xs ys q zs ws k = 2 by simp only [mrgC, hj, hj2, Bool.and_self, if_true]; rw [if_neg (by omega)])
    have HE := hide (mrg_err HC.out (by decide))
    have hq1 : (p == q) = false := by simpa using hq
    have hq2 : (p != q) = true := by simpa using hq
    have hq3 : decide (p = q) = false := by simpa using hq
    clear hj hj2 hpr hx hy hasc hpq hz hw
    go_enter Try.func55, Try.ntmps55
    go_wp2_with fail
    refine (l07Is_any _ _ _ _ _ _ _ _ _ _ g1 g2 hn hm).mono ?_
    rintro e w1 ⟨rfl, hm1⟩
    rw [Hj.out]
    have hB1 := bnext hb0 hm1
    have k0 : w1.cell? ⟨w.heap.size + 1, 0, none⟩ = some (.int .i64 q) := cell_be hm1 (by simp [go_sem])
    have k1 : w1.cell? ⟨w.heap.size + 1, 1, none⟩ = some (.slice a2 m2 c2) := cell_be hm1 (by simp [go_sem])
    have k2 : w1.cell? ⟨w.heap.size + 1, 2, none⟩ = some (.slice b2 m2 d2) := cell_be hm1 (by simp [go_sem])
    have f0 : w1.cell? ⟨w.heap.size, 0, none⟩ = some (.int .i64 p) := cell_be hm1 (by simp [go_sem])
    go_wp2_with fail
    refine (l07Is_any _ _ _ _ _ _ _ _ _ _ (hs2.below hB1) (ht2.below hB1) hn2 hm2').mono ?_
    rintro e w2 ⟨rfl, hmm⟩
    rw [Hj2.out]
    have hm2 := bnext hm1 hmm
    have hB2 := bnext hb0 hm2
    replace k0 := cell_be hmm k0
    replace f0 := cell_be hmm f0
    clear k1 k2
    have r0 : w2.cell? ⟨w.heap.size + 1 + 1, 0, none⟩ = some (.int .i64 0) := cell_be hm2 (by simp [go_sem])
    have r1 : w2.cell? ⟨w.heap.size + 1 + 1, 1, none⟩ = some (.slice none 0 0) := cell_be hm2 (by simp [go_sem])
    have r2 : w2.cell? ⟨w.heap.size + 1 + 1, 2, none⟩ = some (.slice none 0 0) := cell_be hm2 (by simp [go_sem])
    have y0 : w2.frozen? ⟨w.heap.size + 1 + 1, 0, none⟩ = false := (hm2.frozen (by simp)).trans (by simp [go_sem])
    have y1 : w2.frozen? ⟨w.heap.size + 1 + 1, 1, none⟩ = false := (hm2.frozen (by simp)).trans (by simp [go_sem])
    have y2 : w2.frozen? ⟨w.heap.size + 1 + 1, 2, none⟩ = false := (hm2.frozen (by simp)).trans (by simp [go_sem])
    go_wp2
    refine bodyPost_ret (v := .tuple #[jac 0 none 0 0 none 0 0, .int .i64 2]) (by simp [results, Try.results55, go_sem, r0, r1, r2]) rfl ?_
    exact ResJ.nil HE.out.1 HE.out.2.1 HE.out.2.2 HC.out (((hB2.setCell (p := ⟨w.heap.size + 1 + 1, 0, none⟩) (by show w.heap.size ≤ w.heap.size + 1 + 1; omega) _).setCell (p := ⟨w.heap.size + 1 + 1, 1, none⟩) (by show w.heap.size ≤ w.heap.size + 1 + 1; omega) _).setCell (p := ⟨w.heap.size + 1 + 1, 2, none⟩) (by show w.heap.size ≤ w.heap.size + 1 + 1; omega) _)
  subst hq
  by_cases h1 : 0 ≤ k ∧ k ≤ p - 1
  rotate_left
  · have HC := hide (show mrgC p xs ys p zs ws k = 2 by simp only [mrgC, hj, hj2, Bool.and_self, if_true]; rw [if_neg (fun h => h1 ⟨h.2.1, by have := h.2.2; omega⟩)])
    have HE := hide (mrg_err HC.out (by decide))
    have Hn := hide h1
    clear hj hj2 hpr hx hy hasc hpq hz hw h1
    go_enter Try.func55, Try.ntmps55
    go_wp2_with fail
    refine (l07Is_any _ _ _ _ _ _ _ _ _ _ g1 g2 hn hm).mono ?_
    rintro e w1 ⟨rfl, hm1⟩
    rw [Hj.out]
    have hB1 := bnext hb0 hm1
    have k0 : w1.cell? ⟨w.heap.size + 1, 0, none⟩ = some (.int .i64 p) := cell_be hm1 (by simp [go_sem])
    have k1 : w1.cell? ⟨w.heap.size + 1, 1, none⟩ = some (.slice a2 m2 c2) := cell_be hm1 (by simp [go_sem])
    have k2 : w1.cell? ⟨w.heap.size + 1, 2, none⟩ = some (.slice b2 m2 d2) := cell_be hm1 (by simp [go_sem])
    have f0 : w1.cell? ⟨w.heap.size, 0, none⟩ = some (.int .i64 p) := cell_be hm1 (by simp [go_sem])
    go_wp2_with fail
    refine (l07Is_any _ _ _ _ _ _ _ _ _ _ (hs2.below hB1) (ht2.below hB1) hn2 hm2').mono ?_
    rintro e w2 ⟨rfl, hmm⟩
    rw [Hj2.out]
    have hm2 := bnext hm1 hmm
    have hB2 := bnext hb0 hm2
    replace k0 := cell_be hmm k0
    replace f0 := cell_be hmm f0
    clear k1 k2
    have r0 : w2.cell? ⟨w.heap.size + 1 + 1, 0, none⟩ = some (.int .i64 0) := cell_be hm2 (by simp [go_sem])
    have r1 : w2.cell? ⟨w.heap.size + 1 + 1, 1, none⟩ = some (.slice none 0 0) := cell_be hm2 (by simp [go_sem])
    have r2 : w2.cell? ⟨w.heap.size + 1 + 1, 2, none⟩ = some (.slice none 0 0) := cell_be hm2 (by simp [go_sem])
    have y0 : w2.frozen? ⟨w.heap.size + 1 + 1, 0, none⟩ = false := (hm2.frozen (by simp)).trans (by simp [go_sem])
    have y1 : w2.frozen? ⟨w.heap.size + 1 + 1, 1, none⟩ = false := (hm2.frozen (by simp)).trans (by simp [go_sem])
    have y2 : w2.frozen? ⟨w.heap.size + 1 + 1, 2, none⟩ = false := (hm2.frozen (by simp)).trans (by simp [go_sem])
    go_wp2_with fail
    refine (l01In_no _ _ _ _ Hn.out).mono ?_
    rintro e w2' ⟨rfl, rfl⟩
    go_wp2
    refine bodyPost_ret (v := .tuple #[jac 0 none 0 0 none 0 0, .int .i64 2]) (by simp [results, Try.results55, go_sem, r0, r1, r2]) rfl ?_
    exact ResJ.nil HE.out.1 HE.out.2.1 HE.out.2.2 HC.out (((hB2.setCell (p := ⟨w.heap.size + 1 + 1, 0, none⟩) (by show w.heap.size ≤ w.heap.size + 1 + 1; omega) _).setCell (p := ⟨w.heap.size + 1 + 1, 1, none⟩) (by show w.heap.size ≤ w.heap.size + 1 + 1; omega) _).setCell (p := ⟨w.heap.size + 1 + 1, 2, none⟩) (by show w.heap.size ≤ w.heap.size + 1 + 1; omega) _)
  obtain ⟨k0', k1'⟩ := h1
  have HC0 := hide (show mrgC p xs ys p zs ws k = if 24 < (mrgR p xs ys zs ws k).length then 3 else 0 by simp only [mrgC, hj, hj2, Bool.and_self, if_true]; rw [if_pos ⟨by trivial, k0', by omega⟩])
  have HW := hide (mulW_wts hp k (zipW zs ws))
  have HW0 := hide (zipW_wts (xs := xs) hp hy)
  have HX := hide hx
  have HY := hide hy
  have HZ := hide hz
  have HWs := hide hw
  clear hj hj2 hpr hx hy hasc hpq hz hw
  go_enter Try.func55, Try.ntmps55
  go_wp2_with fail
  refine (l07Is_any _ _ _ _ _ _ _ _ _ _ g1 g2 hn hm).mono ?_
  rintro e w1 ⟨rfl, hm1⟩
  rw [Hj.out]
  have hB1 := bnext hb0 hm1
  have k0 : w1.cell? ⟨w.heap.size + 1, 0, none⟩ = some (.int .i64 p) := cell_be hm1 (by simp [go_sem])
  have k1 : w1.cell? ⟨w.heap.size + 1, 1, none⟩ = some (.slice a2 m2 c2) := cell_be hm1 (by simp [go_sem])
  have k2 : w1.cell? ⟨w.heap.size + 1, 2, none⟩ = some (.slice b2 m2 d2) := cell_be hm1 (by simp [go_sem])
  have f0 : w1.cell? ⟨w.heap.size, 0, none⟩ = some (.int .i64 p) := cell_be hm1 (by simp [go_sem])
  have f1 : w1.cell? ⟨w.heap.size, 1, none⟩ = some (.slice a m c) := cell_be hm1 (by simp [go_sem])
  have f2 : w1.cell? ⟨w.heap.size, 2, none⟩ = some (.slice b m d) := cell_be hm1 (by simp [go_sem])
  go_wp2_with fail
  refine (l07Is_any _ _ _ _ _ _ _ _ _ _ (hs2.below hB1) (ht2.below hB1) hn2 hm2').mono ?_
  rintro e w2 ⟨rfl, hmm⟩
  rw [Hj2.out]
  have hm2 := bnext hm1 hmm
  have hB2 := bnext hb0 hm2
  replace k0 := cell_be hmm k0
  replace k1 := cell_be hmm k1
  replace k2 := cell_be hmm k2
  replace f0 := cell_be hmm f0
  replace f1 := cell_be hmm f1
  replace f2 := cell_be hmm f2
  have z2 := hm2.size
  simp at z2
  have r0 : w2.cell? ⟨w.heap.size + 1 + 1, 0, none⟩ = some (.int .i64 0) := cell_be hm2 (by simp [go_sem])
  have r1 : w2.cell? ⟨w.heap.size + 1 + 1, 1, none⟩ = some (.slice none 0 0) := cell_be hm2 (by simp [go_sem])
  have r2 : w2.cell? ⟨w.heap.size + 1 + 1, 2, none⟩ = some (.slice none 0 0) := cell_be hm2 (by simp [go_sem])
  have y0 : w2.frozen? ⟨w.heap.size + 1 + 1, 0, none⟩ = false := (hm2.frozen (by simp)).trans (by simp [go_sem])
  have y1 : w2.frozen? ⟨w.heap.size + 1 + 1, 1, none⟩ = false := (hm2.frozen (by simp)).trans (by simp [go_sem])
  have y2 : w2.frozen? ⟨w.heap.size + 1 + 1, 2, none⟩ = false := (hm2.frozen (by simp)).trans (by simp [go_sem])
  go_wp2_with fail
  refine (l01In_yes _ _ _ _ k0' k1').mono ?_
  rintro e w2' ⟨rfl, rfl⟩
  go_wp2_with fail
  have sa := hs.below hB2
  have sb := ht.below hB2
  have F : ∀ w', Below w2.heap.size w2 w' → w'.cell? ⟨w.heap.size, 0, none⟩ = some (.int .i64 p) ∧ w'.cell? ⟨w.heap.size, 1, none⟩ = some (.slice a m c) ∧ w'.cell? ⟨w.heap.size, 2, none⟩ = some (.slice b m d) := fun w' h => ⟨cell_be h f0, cell_be h f1, cell_be h f2⟩
  go_cut [8] (fun sq wx => ∃ (qo ga ca gb cb : Nat), sq = .pointer (some ⟨qo, 0, none⟩) ∧ Hid (OutR wx qo p ga m ca gb m cb) ∧ Hid (Own w2.heap.size wx (some ⟨ga, 0, none⟩) ca xs) ∧ Hid (Own w2.heap.size wx (some ⟨gb, 0, none⟩) cb ys) ∧ Hid (ga ≠ gb) ∧ Hid (Below w2.heap.size w2 wx) ∧ Hid (w2.heap.size ≤ qo))
  case first =>
    have hm := (Below.refl w2.heap.size w2).drew
    refine region_E (fun w' => w'.cell? ⟨w.heap.size, 0, none⟩ = some (.int .i64 p) ∧ w'.cell? ⟨w.heap.size, 1, none⟩ = some (.slice a m c) ∧ w'.cell? ⟨w.heap.size, 2, none⟩ = some (.slice b m d)) 100 (by kernel_rfl) (F _ hm) ?_
    intro hS
    refine anyE_takeH 0 rfl (by kernel_rfl) (fun _ _ _ h => h) hS (by rfl) (v := ?_) ?_ ?_
    rotate_left
    · intro w' hSw; (try dsimp only at hSw); go_simp; (try with_reducible rfl)
    try simp only [Act.put, List.setIfInBounds_toArray, List.set_cons_zero, List.set_cons_succ]
    refine anyE_takeH 1 rfl (by kernel_rfl) (fun _ _ _ h => h) hS (by rfl) (v := ?_) ?_ ?_
    rotate_left
    · intro w' hSw; (try dsimp only at hSw); go_simp; (try with_reducible rfl)
    try simp only [Act.put, List.setIfInBounds_toArray, List.set_cons_zero, List.set_cons_succ]
    refine anyE_takeH 2 rfl (by kernel_rfl) (fun _ _ _ h => h) hS (by rfl) (v := ?_) ?_ ?_
    rotate_left
    · intro w' hSw; (try dsimp only at hSw); go_simp; (try with_reducible rfl)
    try simp only [Act.put, List.setIfInBounds_toArray, List.set_cons_zero, List.set_cons_succ]
    refine anyE_takeH 3 rfl (by kernel_rfl) (fun _ _ _ h => h) hS (by rfl) (v := ?_) ?_ ?_
    rotate_left
    · intro w' hSw; (try dsimp only at hSw); go_simp; (try with_reducible rfl)
    try simp only [Act.put, List.setIfInBounds_toArray, List.set_cons_zero, List.set_cons_succ]
    refine anyE_takeH 5 rfl (by kernel_rfl) (fun _ _ _ h => h) hS (by rfl) (v := ?_) ?_ ?_
    rotate_left
    · intro w' hSw; (try dsimp only at hSw); go_simp; (try with_reducible rfl)
    try simp only [Act.put, List.setIfInBounds_toArray, List.set_cons_zero, List.set_cons_succ]
    refine anyE_takeH 6 rfl (by kernel_rfl) (fun _ _ _ h => h) hS (by rfl) (v := ?_) ?_ ?_
    rotate_left
    · intro w' hSw; (try dsimp only at hSw); go_simp; (try with_reducible rfl)
    try simp only [Act.put, List.setIfInBounds_toArray, List.set_cons_zero, List.set_cons_succ]
    clear hS
    obtain ⟨v0, hv0⟩ : ∃ u, u = w2.drew := ⟨_, rfl⟩
    rw [← hv0] at hm ⊢
    clear hv0
    refine anyE_2L 4 9 (by kernel_rfl) rfl rfl (fun K' hK' => ?_) (fun K' hK' => ?_)
    · go_simp
      refine (l01Own_some _ m c xs _ (sa.below hm) (by omega)).mono ?_
      rintro e v1 ⟨ga, ca, rfl, oA, lx⟩
      dsimp only
      replace oA := oA.mono hm.size
      have hm := bnext hm lx
      clear lx
      refine hK'.out _ _ (F _ hm) ?_
      clear hK' K'
      try simp only [Act.put, List.setIfInBounds_toArray, List.set_cons_zero, List.set_cons_succ]
      refine anyE_2L 7 9 (by kernel_rfl) rfl rfl (fun K' hK' => ?_) (fun K' hK' => ?_)
      · go_simp
        refine (l01Own_some _ m d ys _ (sb.below hm) (by omega)).mono ?_
        rintro e v2 ⟨gb, cb, rfl, oB, lx⟩
        dsimp only
        have dis : ga ≠ gb := fun q => by have := ownLt oA ga rfl; have := own_blk_ge oB gb rfl; omega
        replace oB := oB.mono hm.size
        have hm := bnext hm lx
        replace oA := oA.below lx
        clear lx
        refine hK'.out _ _ (F _ hm) ?_
        clear hK' K'
        try simp only [Act.put, List.setIfInBounds_toArray, List.set_cons_zero, List.set_cons_succ]
        refine anyE_2L 8 9 (by kernel_rfl) rfl rfl (fun K' hK' => ?_) (fun K' hK' => ?_)
        · go_simp
          refine hK'.out _ _ (F _ hm) ?_
          clear hK' K'
          try simp only [Act.put, List.setIfInBounds_toArray, List.set_cons_zero, List.set_cons_succ]
          refine anyE_oneL 9 (by kernel_rfl) rfl (fun K' hK' => ?_)
          go_simp
          obtain ⟨v4, hu⟩ : ∃ u, u = v2.alloc (.cells #[.int .i64 0, .slice none 0 0, .slice none 0 0] 52) := ⟨_, rfl⟩
          have lx : Below v2.heap.size v2 v4 := by rw [hu]; exact bl1 _ _
          have zq : ZR v4 v2.heap.size := by rw [hu]; exact heap_alloc_new _ _
          rw [← hu]
          clear hu
          replace oA := oA.below lx
          replace oB := oB.below lx
          have hq2 : w2.heap.size ≤ v2.heap.size := hm.size
          have hm := bnext hm lx
          clear lx
          refine hK'.out _ _ (F _ hm) ?_
          clear hK' K'
          try simp only [Act.put, List.setIfInBounds_toArray, List.set_cons_zero, List.set_cons_succ]
          refine anyE_oneL 10 (by kernel_rfl) rfl (fun K' hK' => ?_)
          have z0 := zq.c0
          have x0 := zq.fr 0
          have z1 := zq.c1
          have x1 := zq.fr 1
          have z2 := zq.c2
          have x2 := zq.fr 2
          have oq := hide (zq.put p ga m ca gb m cb)
          have ra : blk (some (⟨ga, 0, none⟩ : Addr)) ≠ some v2.heap.size := fun e => zq.ne oA (Option.some.inj e)
          have rb : blk (some (⟨gb, 0, none⟩ : Addr)) ≠ some v2.heap.size := fun e => zq.ne oB (Option.some.inj e)
          have oA2 := hide (((oA.otherG (j := 0) ra (.int .i64 p)).otherG (j := 1) ra (.slice (some ⟨ga, 0, none⟩) m ca)).otherG (j := 2) ra (.slice (some ⟨gb, 0, none⟩) m cb))
          have oB2 := hide (((oB.otherG (j := 0) rb (.int .i64 p)).otherG (j := 1) rb (.slice (some ⟨ga, 0, none⟩) m ca)).otherG (j := 2) rb (.slice (some ⟨gb, 0, none⟩) m cb))
          have hm2 := hide (((hm.setCell (p := ⟨v2.heap.size, 0, none⟩) hq2 (.int .i64 p)).setCell (p := ⟨v2.heap.size, 1, none⟩) hq2 (.slice (some ⟨ga, 0, none⟩) m ca)).setCell (p := ⟨v2.heap.size, 2, none⟩) hq2 (.slice (some ⟨gb, 0, none⟩) m cb))
          have FF := hide (F _ hm2.out)
          go_simp
          refine hK'.out _ _ FF.out (anyE_doneL (by kernel_rfl) ?_)
          clear hK' K'
          try simp only [Act.put, List.setIfInBounds_toArray, List.set_cons_zero, List.set_cons_succ]
          go_wp2_with fail
          go_meet
          exact ⟨v2.heap.size, ga, ca, gb, cb, rfl, oq, oA2, oB2, hide dis, hm2, hide hq2⟩
        · go_simp
          obtain ⟨v6, hu⟩ : ∃ u, u = v2.alloc (.cells #[.int .i64 0, .slice none 0 0, .slice none 0 0] 52) := ⟨_, rfl⟩
          have lx : Below v2.heap.size v2 v6 := by rw [hu]; exact bl1 _ _
          have zq : ZR v6 v2.heap.size := by rw [hu]; exact heap_alloc_new _ _
          rw [← hu]
          clear hu
          replace oA := oA.below lx
          replace oB := oB.below lx
          have hq2 : w2.heap.size ≤ v2.heap.size := hm.size
          have hm := bnext hm lx
          clear lx
          refine hK'.out _ _ (F _ hm) ?_
          clear hK' K'
          try simp only [Act.put, List.setIfInBounds_toArray, List.set_cons_zero, List.set_cons_succ]
          refine anyE_oneL 8 (by kernel_rfl) rfl (fun K' hK' => ?_)
          go_simp
          refine hK'.out _ _ (F _ hm) ?_
          clear hK' K'
          try simp only [Act.put, List.setIfInBounds_toArray, List.set_cons_zero, List.set_cons_succ]
          refine anyE_oneL 10 (by kernel_rfl) rfl (fun K' hK' => ?_)
          have z0 := zq.c0
          have x0 := zq.fr 0
          have z1 := zq.c1
          have x1 := zq.fr 1
          have z2 := zq.c2
          have x2 := zq.fr 2
          have oq := hide (zq.put p ga m ca gb m cb)
          have ra : blk (some (⟨ga, 0, none⟩ : Addr)) ≠ some v2.heap.size := fun e => zq.ne oA (Option.some.inj e)
          have rb : blk (some (⟨gb, 0, none⟩ : Addr)) ≠ some v2.heap.size := fun e => zq.ne oB (Option.some.inj e)
          have oA2 := hide (((oA.otherG (j := 0) ra (.int .i64 p)).otherG (j := 1) ra (.slice (some ⟨ga, 0, none⟩) m ca)).otherG (j := 2) ra (.slice (some ⟨gb, 0, none⟩) m cb))
          have oB2 := hide (((oB.otherG (j := 0) rb (.int .i64 p)).otherG (j := 1) rb (.slice (some ⟨ga, 0, none⟩) m ca)).otherG (j := 2) rb (.slice (some ⟨gb, 0, none⟩) m cb))
          have hm2 := hide (((hm.setCell (p := ⟨v2.heap.size, 0, none⟩) hq2 (.int .i64 p)).setCell (p := ⟨v2.heap.size, 1, none⟩) hq2 (.slice (some ⟨ga, 0, none⟩) m ca)).setCell (p := ⟨v2.heap.size, 2, none⟩) hq2 (.slice (some ⟨gb, 0, none⟩) m cb))
          have FF := hide (F _ hm2.out)
          go_simp
          refine hK'.out _ _ FF.out (anyE_doneL (by kernel_rfl) ?_)
          clear hK' K'
          try simp only [Act.put, List.setIfInBounds_toArray, List.set_cons_zero, List.set_cons_succ]
          go_wp2_with fail
          go_meet
          exact ⟨v2.heap.size, ga, ca, gb, cb, rfl, oq, oA2, oB2, hide dis, hm2, hide hq2⟩
      · go_simp
        obtain ⟨v9, hu⟩ : ∃ u, u = v1.alloc (.cells #[.int .i64 0, .slice none 0 0, .slice none 0 0] 52) := ⟨_, rfl⟩
        have lx : Below v1.heap.size v1 v9 := by rw [hu]; exact bl1 _ _
        have zq : ZR v9 v1.heap.size := by rw [hu]; exact heap_alloc_new _ _
        rw [← hu]
        clear hu
        replace oA := oA.below lx
        have hq2 : w2.heap.size ≤ v1.heap.size := hm.size
        have hm := bnext hm lx
        clear lx
        refine hK'.out _ _ (F _ hm) ?_
        clear hK' K'
        try simp only [Act.put, List.setIfInBounds_toArray, List.set_cons_zero, List.set_cons_succ]
        refine anyE_oneL 7 (by kernel_rfl) rfl (fun K' hK' => ?_)
        go_simp
        refine (l01Own_some _ m d ys _ (sb.below hm) (by omega)).mono ?_
        rintro e v10 ⟨gb, cb, rfl, oB, lx⟩
        dsimp only
        have dis : ga ≠ gb := fun q => by have := ownLt oA ga rfl; have := own_blk_ge oB gb rfl; omega
        replace oB := oB.mono hm.size
        have hm := bnext hm lx
        replace oA := oA.below lx
        replace zq := zq.next lx
        clear lx
        refine hK'.out _ _ (F _ hm) ?_
        clear hK' K'
        try simp only [Act.put, List.setIfInBounds_toArray, List.set_cons_zero, List.set_cons_succ]
        refine anyE_oneL 8 (by kernel_rfl) rfl (fun K' hK' => ?_)
        go_simp
        refine hK'.out _ _ (F _ hm) ?_
        clear hK' K'
        try simp only [Act.put, List.setIfInBounds_toArray, List.set_cons_zero, List.set_cons_succ]
        refine anyE_oneL 10 (by kernel_rfl) rfl (fun K' hK' => ?_)
        have z0 := zq.c0
        have x0 := zq.fr 0
        have z1 := zq.c1
        have x1 := zq.fr 1
        have z2 := zq.c2
        have x2 := zq.fr 2
        have oq := hide (zq.put p ga m ca gb m cb)
        have ra : blk (some (⟨ga, 0, none⟩ : Addr)) ≠ some v1.heap.size := fun e => zq.ne oA (Option.some.inj e)
        have rb : blk (some (⟨gb, 0, none⟩ : Addr)) ≠ some v1.heap.size := fun e => zq.ne oB (Option.some.inj e)
        have oA2 := hide (((oA.otherG (j := 0) ra (.int .i64 p)).otherG (j := 1) ra (.slice (some ⟨ga, 0, none⟩) m ca)).otherG (j := 2) ra (.slice (some ⟨gb, 0, none⟩) m cb))
        have oB2 := hide (((oB.otherG (j := 0) rb (.int .i64 p)).otherG (j := 1) rb (.slice (some ⟨ga, 0, none⟩) m ca)).otherG (j := 2) rb (.slice (some ⟨gb, 0, none⟩) m cb))
        have hm2 := hide (((hm.setCell (p := ⟨v1.heap.size, 0, none⟩) hq2 (.int .i64 p)).setCell (p := ⟨v1.heap.size, 1, none⟩) hq2 (.slice (some ⟨ga, 0, none⟩) m ca)).setCell (p := ⟨v1.heap.size, 2, none⟩) hq2 (.slice (some ⟨gb, 0, none⟩) m cb))
        have FF := hide (F _ hm2.out)
        go_simp
        refine hK'.out _ _ FF.out (anyE_doneL (by kernel_rfl) ?_)
        clear hK' K'
        try simp only [Act.put, List.setIfInBounds_toArray, List.set_cons_zero, List.set_cons_succ]
        go_wp2_with fail
        go_meet
        exact ⟨v1.heap.size, ga, ca, gb, cb, rfl, oq, oA2, oB2, hide dis, hm2, hide hq2⟩
    · go_simp
      obtain ⟨v13, hu⟩ : ∃ u, u = v0.alloc (.cells #[.int .i64 0, .slice none 0 0, .slice none 0 0] 52) := ⟨_, rfl⟩
      have lx : Below v0.heap.size v0 v13 := by rw [hu]; exact bl1 _ _
      have zq : ZR v13 v0.heap.size := by rw [hu]; exact heap_alloc_new _ _
      rw [← hu]
      clear hu
      have hq2 : w2.heap.size ≤ v0.heap.size := hm.size
      have hm := bnext hm lx
      clear lx
      refine hK'.out _ _ (F _ hm) ?_
      clear hK' K'
      try simp only [Act.put, List.setIfInBounds_toArray, List.set_cons_zero, List.set_cons_succ]
      refine anyE_oneL 4 (by kernel_rfl) rfl (fun K' hK' => ?_)
      go_simp
      refine (l01Own_some _ m c xs _ (sa.below hm) (by omega)).mono ?_
      rintro e v14 ⟨ga, ca, rfl, oA, lx⟩
      dsimp only
      replace oA := oA.mono hm.size
      have hm := bnext hm lx
      replace zq := zq.next lx
      clear lx
      refine hK'.out _ _ (F _ hm) ?_
      clear hK' K'
      try simp only [Act.put, List.setIfInBounds_toArray, List.set_cons_zero, List.set_cons_succ]
      refine anyE_oneL 7 (by kernel_rfl) rfl (fun K' hK' => ?_)
      go_simp
      refine (l01Own_some _ m d ys _ (sb.below hm) (by omega)).mono ?_
      rintro e v15 ⟨gb, cb, rfl, oB, lx⟩
      dsimp only
      have dis : ga ≠ gb := fun q => by have := ownLt oA ga rfl; have := own_blk_ge oB gb rfl; omega
      replace oB := oB.mono hm.size
      have hm := bnext hm lx
      replace oA := oA.below lx
      replace zq := zq.next lx
      clear lx
      refine hK'.out _ _ (F _ hm) ?_
      clear hK' K'
      try simp only [Act.put, List.setIfInBounds_toArray, List.set_cons_zero, List.set_cons_succ]
      refine anyE_oneL 8 (by kernel_rfl) rfl (fun K' hK' => ?_)
      go_simp
      refine hK'.out _ _ (F _ hm) ?_
      clear hK' K'
      try simp only [Act.put, List.setIfInBounds_toArray, List.set_cons_zero, List.set_cons_succ]
      refine anyE_oneL 10 (by kernel_rfl) rfl (fun K' hK' => ?_)
      have z0 := zq.c0
      have x0 := zq.fr 0
      have z1 := zq.c1
      have x1 := zq.fr 1
      have z2 := zq.c2
      have x2 := zq.fr 2
      have oq := hide (zq.put p ga m ca gb m cb)
      have ra : blk (some (⟨ga, 0, none⟩ : Addr)) ≠ some v0.heap.size := fun e => zq.ne oA (Option.some.inj e)
      have rb : blk (some (⟨gb, 0, none⟩ : Addr)) ≠ some v0.heap.size := fun e => zq.ne oB (Option.some.inj e)
      have oA2 := hide (((oA.otherG (j := 0) ra (.int .i64 p)).otherG (j := 1) ra (.slice (some ⟨ga, 0, none⟩) m ca)).otherG (j := 2) ra (.slice (some ⟨gb, 0, none⟩) m cb))
      have oB2 := hide (((oB.otherG (j := 0) rb (.int .i64 p)).otherG (j := 1) rb (.slice (some ⟨ga, 0, none⟩) m ca)).otherG (j := 2) rb (.slice (some ⟨gb, 0, none⟩) m cb))
      have hm2 := hide (((hm.setCell (p := ⟨v0.heap.size, 0, none⟩) hq2 (.int .i64 p)).setCell (p := ⟨v0.heap.size, 1, none⟩) hq2 (.slice (some ⟨ga, 0, none⟩) m ca)).setCell (p := ⟨v0.heap.size, 2, none⟩) hq2 (.slice (some ⟨gb, 0, none⟩) m cb))
      have FF := hide (F _ hm2.out)
      go_simp
      refine hK'.out _ _ FF.out (anyE_doneL (by kernel_rfl) ?_)
      clear hK' K'
      try simp only [Act.put, List.setIfInBounds_toArray, List.set_cons_zero, List.set_cons_succ]
      go_wp2_with fail
      go_meet
      exact ⟨v0.heap.size, ga, ca, gb, cb, rfl, oq, oA2, oB2, hide dis, hm2, hide hq2⟩
  case rest =>
    obtain ⟨qo, ga, ca, gb, cb, rfl, oq, oA, oB, dis, hm, hqo⟩ := hcut
    have hB3 := hide (bnext hB2 hm.out)
    replace k0 := cell_be hm.out k0
    replace k1 := cell_be hm.out k1
    replace k2 := cell_be hm.out k2
    replace f0 := cell_be hm.out f0
    replace f1 := cell_be hm.out f1
    replace f2 := cell_be hm.out f2
    replace y0 := (hm.out.frozen (World.block_lt_of_cell? _ _ r0)).trans y0
    replace y1 := (hm.out.frozen (World.block_lt_of_cell? _ _ r1)).trans y1
    replace y2 := (hm.out.frozen (World.block_lt_of_cell? _ _ r2)).trans y2
    replace r0 := cell_be hm.out r0
    replace r1 := cell_be hm.out r1
    replace r2 := cell_be hm.out r2
    obtain ⟨w3, hw3⟩ : ∃ u, u = wc := ⟨_, rfl⟩
    subst hw3
    have z3 := hm.out.size
    have hZ := hide (wtsR_zip (xs := xs) (ys := ys) (by rw [hl.out, hl2.out]))
    have hXn := hide (nodesR_zip (xs := xs) (ys := ys))
    have hU := hide (show UOwn w2.heap.size w3 ga ca gb cb (zipW xs ys) from ⟨by rw [hXn.out]; exact oA.out, by rw [hZ.out]; exact oB.out, dis.out⟩)
    have HLl : Hid ((mulW p k (zipW zs ws)).length = m2) := hide (by rw [mulW_len, zipW_len]; exact hl3.out)
    have HLv : Hid (∀ i, i < m2 → (mulW p k (zipW zs ws)).getD i (0, 0) = (zs.getD i 0, ws.getD i 0 * k % p)) := hide fun i hi => by
      rw [mulW_at _ _ _ _ (by rw [zipW_len, hl3.out]; exact hi), zipW_at zs ws i (by rw [hl3.out]; exact hi)]
    have HRe : Hid (mrgR p xs ys zs ws k = putsR p (zipW xs ys) (mulW p k (zipW zs ws))) := hide rfl
    have HZl : Hid ((zipW xs ys).length = m) := hide (by rw [zipW_len]; exact hl.out)
    obtain ⟨L, hL⟩ : ∃ L, mulW p k (zipW zs ws) = L := ⟨_, rfl⟩
    rw [hL] at HLl HLv HRe HW
    obtain ⟨Z, hZe⟩ : ∃ Z, zipW xs ys = Z := ⟨_, rfl⟩
    rw [hZe] at HRe hU HW0 HZl
    clear hL hZe hZ hXn oA oB dis
    have hRw : Hid (∀ i, i ≤ m2 → areB p (wtsR (putsR p Z (L.take i))) = true ∧ (putsR p Z (L.take i)).length ≤ 48) := hide fun i hi => by
      refine ⟨wtsR_are (putsR_wts hp _ _ HW0.out (fun e he => HW.out e (List.mem_of_mem_take he))), ?_⟩
      have := putsR_len p (L.take i) Z
      rw [List.length_take, HLl.out, HZl.out] at this
      omega
    go_wp2
    go_loopw [9] (fun iv wr => ∃ i ga ca gb cb N : Nat, i ≤ m2 ∧ iv = .int .i64 i ∧ Hid (wr.cell? ⟨w.heap.size, 0, none⟩ = some (.int .i64 p) ∧ wr.cell? ⟨w.heap.size + 1, 1, none⟩ = some (.slice a2 m2 c2) ∧ wr.cell? ⟨w.heap.size + 1, 2, none⟩ = some (.slice b2 m2 d2)) ∧ Hid (wr.cell? ⟨w.heap.size + 1 + 1, 0, none⟩ = some (.int .i64 0) ∧ wr.cell? ⟨w.heap.size + 1 + 1, 1, none⟩ = some (.slice none 0 0) ∧ wr.cell? ⟨w.heap.size + 1 + 1, 2, none⟩ = some (.slice none 0 0) ∧ wr.frozen? ⟨w.heap.size + 1 + 1, 0, none⟩ = false ∧ wr.frozen? ⟨w.heap.size + 1 + 1, 1, none⟩ = false ∧ wr.frozen? ⟨w.heap.size + 1 + 1, 2, none⟩ = false) ∧ Hid ((putsR p Z (L.take i)).length = N) ∧ Hid (OutR wr qo p ga N ca gb N cb) ∧ Hid (UOwn w2.heap.size wr ga ca gb cb (putsR p Z (L.take i))) ∧ Hid (Below w.heap.size w wr) ∧ w3.heap.size ≤ wr.heap.size) (fun iv _ => m2 - (intOf iv).toNat)
    case atStart => exact ⟨0, _, _, _, _, m, by omega, rfl, hide ⟨f0, k1, k2⟩, hide ⟨r0, r1, r2, y0, y1, y2⟩, hide HZl.out, oq, hU, hB3, Nat.le_refl _⟩
    case round =>
      clear f0 f1 f2 k0 k1 k2 r0 r1 r2 y0 y1 y2 oq hU hB3 hm
      obtain ⟨i, ga, ca, gb, cb, N, hi, rfl, hF, hR, hN, oq, hU, hB3, z4⟩ := hrel
      obtain ⟨f0, f1, f2⟩ := hF.out
      obtain ⟨r0, r1, r2, y0, y1, y2⟩ := hR.out
      by_cases him : i < m2
      · have him' : (i : Int) < (m2 : Int) := by omega
        have hi0 : (0 : Int) ≤ (i : Int) := by omega
        obtain ⟨b1, o1, rfl, hb1, e1'⟩ := (hs2.below hB3.out).at (show 0 < m2 by omega)
        obtain ⟨b2', o2, rfl, hb2, e2'⟩ := (ht2.below hB3.out).at (show 0 < m2 by omega)
        have e1 := e1' i him
        have e2 := e2' i him
        have hLk := HLv.out i him
        have rX := getD_rng HZ.out hp i
        have rY := getD_rng HWs.out hp i
        obtain ⟨X, hX⟩ : ∃ X, zs.getD i 0 = X := ⟨_, rfl⟩
        obtain ⟨Y, hY⟩ : ∃ Y, ws.getD i 0 = Y := ⟨_, rfl⟩
        rw [hX] at e1 hLk rX
        rw [hY] at e2 hLk rY
        have hst := putsZ_take p Z L i (by rw [HLl.out]; exact him)
        rw [hLk] at hst
        have q0 := oq.out.c0
        have q1 := oq.out.c1
        have q2 := oq.out.c2
        have q3 := oq.out.fr 0
        have q4 := oq.out.fr 1
        have q5 := oq.out.fr 2
        have m1 : k * Y ≤ 10007 * 10007 := Int.mul_le_mul (by omega) (by omega) (by omega) (by omega)
        have m0 : 0 ≤ k * Y := Int.mul_nonneg (by omega) (by omega)
        have v1 : IntKind.i64.wrap (k * Y) = k * Y := IntWalk.i64_in _ (by omega)
        have v3 : (k * Y).tmod p = Y * k % p := by rw [Int.tmod_eq_emod_of_nonneg (by omega), Int.mul_comm]
        have rV := modb (x := Y * k) hp
        obtain ⟨V, hV⟩ : ∃ V, Y * k % p = V := ⟨_, rfl⟩
        rw [hV] at v3 rV hst
        have v4 : IntKind.i64.wrap V = V := IntWalk.i64_in _ (by omega)
        have hp0 : ¬ p = 0 := by omega
        have Hst := hide hst
        have HRk := hRw.out i hi
        obtain ⟨R, hR'⟩ : ∃ R, putsR p Z (L.take i) = R := ⟨_, rfl⟩
        rw [hR'] at hN hU Hst HRk
        have HRk := hide HRk
        clear hX hY e1' e2' hLk hst hV hR' m1 m0
        go_wp2_with fail
        have hbd := (Below.refl wr.heap.size wr).drew
        have F : ∀ w', Below wr.heap.size wr w' → w'.cell? ⟨w.heap.size, 0, none⟩ = some (.int .i64 p) ∧ w'.cell? ⟨w.heap.size + 1, 1, none⟩ = some (.slice (some ⟨b1, o1, none⟩) m2 c2) ∧ w'.cell? ⟨w.heap.size + 1, 2, none⟩ = some (.slice (some ⟨b2', o2, none⟩) m2 d2) ∧ w'.cell? ⟨qo, 0, none⟩ = some (.int .i64 p) ∧ w'.cell? ⟨qo, 1, none⟩ = some (.slice (some ⟨ga, 0, none⟩) N ca) ∧ w'.cell? ⟨qo, 2, none⟩ = some (.slice (some ⟨gb, 0, none⟩) N cb) ∧ w'.cell? ⟨b1, o1 + i, none⟩ = some (.int .i64 X) ∧ w'.cell? ⟨b2', o2 + i, none⟩ = some (.int .i64 Y) := fun w' h => ⟨cell_be h f0, cell_be h f1, cell_be h f2, cell_be h q0, cell_be h q1, cell_be h q2, cell_be h e1, cell_be h e2⟩
        refine region_E (fun w' => w'.cell? ⟨w.heap.size, 0, none⟩ = some (.int .i64 p) ∧ w'.cell? ⟨w.heap.size + 1, 1, none⟩ = some (.slice (some ⟨b1, o1, none⟩) m2 c2) ∧ w'.cell? ⟨w.heap.size + 1, 2, none⟩ = some (.slice (some ⟨b2', o2, none⟩) m2 d2) ∧ w'.cell? ⟨qo, 0, none⟩ = some (.int .i64 p) ∧ w'.cell? ⟨qo, 1, none⟩ = some (.slice (some ⟨ga, 0, none⟩) N ca) ∧ w'.cell? ⟨qo, 2, none⟩ = some (.slice (some ⟨gb, 0, none⟩) N cb) ∧ w'.cell? ⟨b1, o1 + i, none⟩ = some (.int .i64 X) ∧ w'.cell? ⟨b2', o2 + i, none⟩ = some (.int .i64 Y)) 17 (by kernel_rfl) (F _ hbd) ?_
        intro hS
        refine anyE_takeL 0 rfl (by kernel_rfl) (fun _ _ _ h => h) hS (by rfl) (v := ?_) ?_ ?_
        rotate_left
        · intro w' hSw; (try dsimp only at hSw); go_simp; (try with_reducible rfl)
        try simp only [Act.put, List.setIfInBounds_toArray, List.set_cons_zero, List.set_cons_succ]
        refine anyE_takeL 1 rfl (by kernel_rfl) (fun _ _ _ h => h) hS (by rfl) (v := ?_) ?_ ?_
        rotate_left
        · intro w' hSw; (try dsimp only at hSw); go_simp; (try with_reducible rfl)
        try simp only [Act.put, List.setIfInBounds_toArray, List.set_cons_zero, List.set_cons_succ]
        refine anyE_takeL 2 rfl (by kernel_rfl) (fun _ _ _ h => h) hS (by rfl) (v := ?_) ?_ ?_
        rotate_left
        · intro w' hSw; (try dsimp only at hSw); go_simp; (try with_reducible rfl)
        try simp only [Act.put, List.setIfInBounds_toArray, List.set_cons_zero, List.set_cons_succ]
        refine anyE_takeL 3 rfl (by kernel_rfl) (fun _ _ _ h => h) hS (by rfl) (v := ?_) ?_ ?_
        rotate_left
        · intro w' hSw; (try dsimp only at hSw); go_simp; (try with_reducible rfl)
        try simp only [Act.put, List.setIfInBounds_toArray, List.set_cons_zero, List.set_cons_succ]
        refine anyE_takeL 4 rfl (by kernel_rfl) (fun _ _ _ h => h) hS (by rfl) (v := ?_) ?_ ?_
        rotate_left
        · intro w' hSw; (try dsimp only at hSw); go_simp; (try with_reducible rfl)
        try simp only [Act.put, List.setIfInBounds_toArray, List.set_cons_zero, List.set_cons_succ]
        refine anyE_takeL 5 rfl (by kernel_rfl) (fun _ _ _ h => h) hS (by rfl) (v := ?_) ?_ ?_
        rotate_left
        · intro w' hSw; (try dsimp only at hSw); go_simp; (try with_reducible rfl)
        try simp only [Act.put, List.setIfInBounds_toArray, List.set_cons_zero, List.set_cons_succ]
        refine anyE_takeL 6 rfl (by kernel_rfl) (fun _ _ _ h => h) hS (by rfl) (v := ?_) ?_ ?_
        rotate_left
        · intro w' hSw; (try dsimp only at hSw); go_simp; (try with_reducible rfl)
        try simp only [Act.put, List.setIfInBounds_toArray, List.set_cons_zero, List.set_cons_succ]
        refine anyE_takeL 7 rfl (by kernel_rfl) (fun _ _ _ h => h) hS (by rfl) (v := ?_) ?_ ?_
        rotate_left
        · intro w' hSw; (try dsimp only at hSw); go_simp; (try with_reducible rfl)
        try simp only [Act.put, List.setIfInBounds_toArray, List.set_cons_zero, List.set_cons_succ]
        refine anyE_takeL 8 rfl (by kernel_rfl) (fun _ _ _ h => h) hS (by rfl) (v := ?_) ?_ ?_
        rotate_left
        · intro w' hSw; (try dsimp only at hSw); go_simp; (try with_reducible rfl)
        try simp only [Act.put, List.setIfInBounds_toArray, List.set_cons_zero, List.set_cons_succ]
        refine anyE_takeL 9 rfl (by kernel_rfl) (fun _ _ _ h => h) hS (by rfl) (v := ?_) ?_ ?_
        rotate_left
        · intro w' hSw; (try dsimp only at hSw); go_simp; (try with_reducible rfl)
        try simp only [Act.put, List.setIfInBounds_toArray, List.set_cons_zero, List.set_cons_succ]
        refine anyE_takeL 10 rfl (by kernel_rfl) (fun _ _ _ h => h) hS (by rfl) (v := ?_) ?_ ?_
        rotate_left
        · intro w' hSw; (try dsimp only at hSw); go_simp; (try with_reducible rfl)
        try simp only [Act.put, List.setIfInBounds_toArray, List.set_cons_zero, List.set_cons_succ]
        refine anyE_takeL 11 rfl (by kernel_rfl) (fun _ _ _ h => h) hS (by rfl) (v := ?_) ?_ ?_
        rotate_left
        · intro w' hSw; (try dsimp only at hSw); go_simp; (try with_reducible rfl)
        try simp only [Act.put, List.setIfInBounds_toArray, List.set_cons_zero, List.set_cons_succ]
        refine anyE_takeL 12 rfl (by kernel_rfl) (fun _ _ _ h => h) hS (by rfl) (v := ?_) ?_ ?_
        rotate_left
        · intro w' hSw; (try dsimp only at hSw); go_simp; (try with_reducible rfl)
        try simp only [Act.put, List.setIfInBounds_toArray, List.set_cons_zero, List.set_cons_succ]
        refine anyE_takeL 13 rfl (by kernel_rfl) (fun _ _ _ h => h) hS (by rfl) (v := ?_) ?_ ?_
        rotate_left
        · intro w' hSw; (try dsimp only at hSw); go_simp; (try with_reducible rfl)
        try simp only [Act.put, List.setIfInBounds_toArray, List.set_cons_zero, List.set_cons_succ]
        refine anyE_takeL 14 rfl (by kernel_rfl) (fun _ _ _ h => h) hS (by rfl) (v := ?_) ?_ ?_
        rotate_left
        · intro w' hSw; (try dsimp only at hSw); go_simp; (try with_reducible rfl)
        try simp only [Act.put, List.setIfInBounds_toArray, List.set_cons_zero, List.set_cons_succ]
        refine anyE_takeL 15 rfl (by kernel_rfl) (fun _ _ _ h => h) hS (by rfl) (v := ?_) ?_ ?_
        rotate_left
        · intro w' hSw; (try dsimp only at hSw); go_simp; (try with_reducible rfl)
        try simp only [Act.put, List.setIfInBounds_toArray, List.set_cons_zero, List.set_cons_succ]
        clear hS
        refine anyE_oneL 16 (by kernel_rfl) rfl (fun K' hK' => ?_)
        go_simp
        have hUd : UOwn w2.heap.size wr.drew ga ca gb cb R := ⟨hU.out.1.below hbd, hU.out.2.1.below hbd, hU.out.2.2⟩
        refine (l07Put_any p ga N ca gb cb R X V w2.heap.size _ hUd hN.out (by have := hbd.size; omega) (by have := HRk.out.2; rw [hN.out] at this; omega) hp hp2 HRk.out.1 (by omega) (by omega)).mono ?_
        rintro e w5 ⟨ga', ca', gb', cb', rfl, hU5, t5⟩
        dsimp only
        have hm5 := bnext hbd t5
        rw [← Hst.out] at hU5 ⊢
        obtain ⟨R', hR'⟩ : ∃ R', putsR p Z (L.take (i + 1)) = R' := ⟨_, rfl⟩
        rw [hR'] at hU5 ⊢
        obtain ⟨N', hN'⟩ : ∃ N', R'.length = N' := ⟨_, rfl⟩
        rw [hN']
        refine hK'.out _ _ (F _ hm5) ?_
        clear hK' K'
        try simp only [Act.put, List.setIfInBounds_toArray, List.set_cons_zero, List.set_cons_succ]
        have oq5 := oq.out.next hm5
        have p0 := oq5.c0
        have p1 := oq5.c1
        have p2 := oq5.c2
        have p3 := oq5.fr 0
        have p4 := oq5.fr 1
        have p5 := oq5.fr 2
        have oq6 := oq5.put p ga' N' ca' gb' N' cb'
        have n1 := oq5.ne hU5.1
        have n2 := oq5.ne hU5.2.1
        have HU5 := hide hU5
        have hz := oq.out.lt
        have hm5' := hide hm5
        have hw2 := hide (show qo ≠ w.heap.size by have := hqo.out; omega)
        have hw3 := hide (show qo ≠ w.heap.size + 1 by have := hqo.out; omega)
        clear hU5 oq5
        refine anyE_lastL (by kernel_rfl) rfl (by kernel_rfl) (fun K' hK' => ?_)
        go_simp
        refine hK'.out _ _ ?_
        clear hK' K'
        try simp only [Act.put, List.setIfInBounds_toArray, List.set_cons_zero, List.set_cons_succ]
        have hE : ∀ b o v, b ≠ qo → w5.cell? ⟨b, o, none⟩ = some v → (((w5.setCell ⟨qo, 0, none⟩ (.int .i64 p)).setCell ⟨qo, 1, none⟩ (.slice (some ⟨ga', 0, none⟩) N' ca')).setCell ⟨qo, 2, none⟩ (.slice (some ⟨gb', 0, none⟩) N' cb')).cell? ⟨b, o, none⟩ = some v := fun b o v hb h => cell_set2 (cell_set2 (cell_set2 h (Ne.symm hb) _) (Ne.symm hb) _) (Ne.symm hb) _
        have hEf : ∀ a, w5.frozen? a = false → (((w5.setCell ⟨qo, 0, none⟩ (.int .i64 p)).setCell ⟨qo, 1, none⟩ (.slice (some ⟨ga', 0, none⟩) N' ca')).setCell ⟨qo, 2, none⟩ (.slice (some ⟨gb', 0, none⟩) N' cb')).frozen? a = false := fun a h => by simpa using h
        have hO : ∀ {g cap : Nat} {ys : List Int}, Own w2.heap.size w5 (some ⟨g, 0, none⟩) cap ys → g ≠ qo → Own w2.heap.size (((w5.setCell ⟨qo, 0, none⟩ (.int .i64 p)).setCell ⟨qo, 1, none⟩ (.slice (some ⟨ga', 0, none⟩) N' ca')).setCell ⟨qo, 2, none⟩ (.slice (some ⟨gb', 0, none⟩) N' cb')) (some ⟨g, 0, none⟩) cap ys := fun {g cap ys} h hne => by
          have hr : blk (some (⟨g, 0, none⟩ : Addr)) ≠ some (qo) := fun e => hne (Option.some.inj e)
          exact ((h.otherG hr _).otherG hr _).otherG hr _
        have hU6 := hide (show UOwn w2.heap.size _ ga' ca' gb' cb' R' from ⟨hO HU5.out.1 n1, hO HU5.out.2.1 n2, HU5.out.2.2⟩)
        have hB6 := hide (show Below w.heap.size w _ from ((((hB3.out.trans (hm5'.out.mono (by have := hB3.out.size; omega))).setCell (p := ⟨qo, 0, none⟩) (show w.heap.size ≤ qo by have := hqo.out; omega) (.int .i64 p)).setCell (p := ⟨qo, 1, none⟩) (show w.heap.size ≤ qo by have := hqo.out; omega) (.slice (some ⟨ga', 0, none⟩) N' ca')).setCell (p := ⟨qo, 2, none⟩) (show w.heap.size ≤ qo by have := hqo.out; omega) (.slice (some ⟨gb', 0, none⟩) N' cb')))
        have hF6 := hide (And.intro (hE _ _ _ hw2.out.symm (cell_be hm5'.out f0)) (And.intro (hE _ _ _ hw3.out.symm (cell_be hm5'.out f1)) (hE _ _ _ hw3.out.symm (cell_be hm5'.out f2))))
        have hqr : w.heap.size + 1 + 1 ≠ qo := by have := hqo.out; omega
        have hfz : ∀ o v, wr.cell? ⟨w.heap.size + 1 + 1, o, none⟩ = some v → wr.frozen? ⟨w.heap.size + 1 + 1, o, none⟩ = false → w5.frozen? ⟨w.heap.size + 1 + 1, o, none⟩ = false := fun o v h hf => (hm5'.out.frozen (World.block_lt_of_cell? _ _ h)).trans hf
        have hR6 := hide (And.intro (hE _ _ _ hqr (cell_be hm5'.out r0)) (And.intro (hE _ _ _ hqr (cell_be hm5'.out r1)) (And.intro (hE _ _ _ hqr (cell_be hm5'.out r2)) (And.intro (hEf _ (hfz _ _ r0 y0)) (And.intro (hEf _ (hfz _ _ r1 y1)) (hEf _ (hfz _ _ r2 y2)))))))
        have z6 : w3.heap.size ≤ (((w5.setCell ⟨qo, 0, none⟩ (.int .i64 p)).setCell ⟨qo, 1, none⟩ (.slice (some ⟨ga', 0, none⟩) N' ca')).setCell ⟨qo, 2, none⟩ (.slice (some ⟨gb', 0, none⟩) N' cb')).heap.size := by have := hm5'.out.size; simp; omega
        have hN6 := hide (show (putsR p Z (L.take (i + 1))).length = N' by rw [hR', hN'])
        have oq6' := hide oq6
        rw [← hR'] at hU6
        clear hE hEf hO hfz p0 p1 p2 p3 p4 p5 oq6
        obtain ⟨w6, hw6⟩ : ∃ w6, w6 = (((w5.setCell ⟨qo, 0, none⟩ (.int .i64 p)).setCell ⟨qo, 1, none⟩ (.slice (some ⟨ga', 0, none⟩) N' ca')).setCell ⟨qo, 2, none⟩ (.slice (some ⟨gb', 0, none⟩) N' cb')) := ⟨_, rfl⟩
        rw [← hw6]
        rw [← hw6] at hU6 hB6 hF6 hR6 z6 oq6'
        clear hw6
        go_wp2
        go_roundw
        case rel => exact ⟨i + 1, ga', ca', gb', cb', N', by omega, by go_num, hF6, hR6, hN6, oq6', hU6, hB6, z6⟩
        case measure => simp [intOf]; omega
      · obtain rfl : i = m2 := by omega
        have him' : ¬ (i : Int) < (i : Int) := by omega
        have q0 := oq.out.c0
        have q1 := oq.out.c1
        have q2 := oq.out.c2
        have hLm : L.take i = L := List.take_of_length_le (by rw [HLl.out]; omega)
        rw [hLm, ← HRe.out] at hN hU
        have hNl : N ≤ 48 := by have := (hRw.out i (by omega)).2; rw [hLm, ← HRe.out, hN.out] at this; exact this
        rw [hN.out] at HC0
        by_cases hlim : 24 < N
        · have HC := hide (show mrgC p xs ys p zs ws k = 3 by rw [HC0.out, if_pos hlim])
          have HE := hide (mrg_err HC.out (by decide))
          have hlim' : (24 : Int) < (N : Int) := by omega
          go_wp2
          refine bodyPost_ret (v := .tuple #[jac 0 none 0 0 none 0 0, .int .i64 3]) (by simp [results, Try.results55, go_sem, r0, r1, r2]) rfl ?_
          exact ResJ.nil HE.out.1 HE.out.2.1 HE.out.2.2 HC.out (((hB3.out.setCell (p := ⟨w.heap.size + 1 + 1, 0, none⟩) (by show w.heap.size ≤ w.heap.size + 1 + 1; omega) _).setCell (p := ⟨w.heap.size + 1 + 1, 1, none⟩) (by show w.heap.size ≤ w.heap.size + 1 + 1; omega) _).setCell (p := ⟨w.heap.size + 1 + 1, 2, none⟩) (by show w.heap.size ≤ w.heap.size + 1 + 1; omega) _)
        · have HC := hide (show mrgC p xs ys p zs ws k = 0 by rw [HC0.out, if_neg hlim])
          have HO := hide (mrg_out HC.out)
          have hlim' : ¬ (24 : Int) < (N : Int) := by omega
          go_wp2
          refine bodyPost_ret (v := .tuple #[jac p (some ⟨ga, 0, none⟩) N ca (some ⟨gb, 0, none⟩) N cb, .int .i64 0]) (by simp [results, Try.results55, go_sem, r0, r1, r2]) rfl ?_
          have g1' := own_blk_ge hU.out.1 ga rfl
          have g2' := own_blk_ge hU.out.2.1 gb rfl
          have ha : blk (some (⟨ga, 0, none⟩ : Addr)) ≠ some (w.heap.size + 1 + 1) := fun e => by have e2 : some ga = some (w.heap.size + 1 + 1) := e; have e3 := Option.some.inj e2; omega
          have hb : blk (some (⟨gb, 0, none⟩ : Addr)) ≠ some (w.heap.size + 1 + 1) := fun e => by have e2 : some gb = some (w.heap.size + 1 + 1) := e; have e3 := Option.some.inj e2; omega
          have j1 := (((hU.out.1.mono (show w.heap.size ≤ w2.heap.size by omega)).otherG (j := 0) ha (.int .i64 p)).otherG (j := 1) ha (.slice (some ⟨ga, 0, none⟩) N ca)).otherG (j := 2) ha (.slice (some ⟨gb, 0, none⟩) N cb)
          have j2 := (((hU.out.2.1.mono (show w.heap.size ≤ w2.heap.size by omega)).otherG (j := 0) hb (.int .i64 p)).otherG (j := 1) hb (.slice (some ⟨ga, 0, none⟩) N ca)).otherG (j := 2) hb (.slice (some ⟨gb, 0, none⟩) N cb)
          have j3 := JZ_of (OZ.of j1 (show N = _ by rw [nodesR_len]; exact hN.out.symm)) (OZ.of j2 (show N = _ by rw [wtsR_len]; exact hN.out.symm)) (fun g e1 e2 => hU.out.2.2 (by have q1 : some ga = some g := e1; have q2 : some gb = some g := e2; rw [Option.some.inj q1, Option.some.inj q2]))
          exact ResJ.mk HO.out.1 HC.out (by rw [HO.out.2.1, nodesR_len]; exact hN.out.symm) (by rw [HO.out.2.2, wtsR_len]; exact hN.out.symm) (by rw [HO.out.2.1, HO.out.2.2]; exact j3) (by rw [HO.out.2.1, nodesR_len, hN.out]; omega) (by rw [HO.out.2.2, wtsR_len, hN.out]; omega) (((hB3.out.setCell (p := ⟨w.heap.size + 1 + 1, 0, none⟩) (by show w.heap.size ≤ w.heap.size + 1 + 1; omega) _).setCell (p := ⟨w.heap.size + 1 + 1, 1, none⟩) (by show w.heap.size ≤ w.heap.size + 1 + 1; omega) _).setCell (p := ⟨w.heap.size + 1 + 1, 2, none⟩) (by show w.heap.size ≤ w.heap.size + 1 + 1; omega) _)

end Go.Proofs.Ytkpmonopjkjflaa
