/- Contract: ReverseJacobi (model). -/
import Derived.Test.YtjilggjldnlkpaaRv
import Derived.Test.YtjilggjldnlkpaaRw
import Derived.Test.YtjilggjldnlkpaaAx
namespace Go.Proofs.Ytjilggjldnlkpaa
open Go.RowKit
set_option linter.unusedVariables false
set_option linter.unusedSimpArgs false

set_option maxRecDepth 100000 in
set_option maxHeartbeats 3200000 in
theorem specReverseJacobi (p : Int) (x : Option Addr) (n c : Nat) (xs : List Int) (y : Option Addr) (m d : Nat) (ys : List Int) (w : World) (hs : SL w x n c xs) (ht : SL w y m d ys) (hn : n ≤ 4000000) (hm : m ≤ 4000000) :
    Calls Try.prog 26 #[jac p x n c y m d] w (ResJ w (revP p xs ys) (revV p xs ys) (revU p xs ys) (revC p xs ys)) := by
  have hl := hide hs.len
  have hl2 := hide ht.len
  have hb0 := bl2 w (.cells #[.int .i64 p, .slice x n c, .slice y m d] 27) (.cells #[.int .i64 0, .slice none 0 0, .slice none 0 0] 27)
  have g1 := hs.below hb0
  have g2 := ht.below hb0
  have hz0 : w.heap.size + 1 < ((w.alloc (.cells #[.int .i64 p, .slice x n c, .slice y m d] 27)).alloc (.cells #[.int .i64 0, .slice none 0 0, .slice none 0 0] 27)).heap.size := by simp
  cases hj : jacB p xs ys
  · have Hj := hide hj
    have HC := hide (show revC p xs ys = 1 by simp [revC, hj])
    have HV := hide (show revV p xs ys = [] by simp [revV, HC.out])
    have HU := hide (show revU p xs ys = [] by simp [revU, HC.out])
    have HQ := hide (show revP p xs ys = 0 by simp [revP, HC.out])
    clear hj
    go_enter Try.func26, Try.ntmps26
    go_wp2_with fail
    refine (l03Is_any _ _ _ _ _ _ _ _ _ _ g1 g2 hn hm).mono ?_
    rintro e w2 ⟨rfl, hm2⟩
    rw [Hj.out]
    have hB2 := bnext hb0 hm2
    have z2 := hm2.size
    simp at z2
    have f0 : w2.cell? ⟨w.heap.size, 0, none⟩ = some (.int .i64 p) := cell_be hm2 (by simp [go_sem])
    have f1 : w2.cell? ⟨w.heap.size, 1, none⟩ = some (.slice x n c) := cell_be hm2 (by simp [go_sem])
    have f2 : w2.cell? ⟨w.heap.size, 2, none⟩ = some (.slice y m d) := cell_be hm2 (by simp [go_sem])
    have r0 : w2.cell? ⟨w.heap.size + 1, 0, none⟩ = some (.int .i64 0) := cell_be hm2 (by simp [go_sem])
    have r1 : w2.cell? ⟨w.heap.size + 1, 1, none⟩ = some (.slice none 0 0) := cell_be hm2 (by simp [go_sem])
    have r2 : w2.cell? ⟨w.heap.size + 1, 2, none⟩ = some (.slice none 0 0) := cell_be hm2 (by simp [go_sem])
    have y0 : w2.frozen? ⟨w.heap.size + 1, 0, none⟩ = false := (hm2.frozen (by simp)).trans (by simp [go_sem])
    have y1 : w2.frozen? ⟨w.heap.size + 1, 1, none⟩ = false := (hm2.frozen (by simp)).trans (by simp [go_sem])
    have y2 : w2.frozen? ⟨w.heap.size + 1, 2, none⟩ = false := (hm2.frozen (by simp)).trans (by simp [go_sem])
    go_wp2
    refine bodyPost_ret (v := .tuple #[jac 0 none 0 0 none 0 0, .int .i64 1]) (by simp [results, Try.results26, go_sem, r0, r1, r2]) rfl ?_
    exact ResJ.nil HQ.out HV.out HU.out HC.out (((hB2.setCell (by simp) _).setCell (by simp) _).setCell (by simp) _)
  have Hj := hide hj
  obtain ⟨hpr, n1, n2, n3, hx, hy⟩ := jacB_rng hj
  obtain ⟨hp, hp2⟩ := primeB_lo hpr
  rw [hl.out] at n1 n2 n3
  rw [hl2.out] at n3
  subst n3
  clear hx hy hpr
  have HC := hide (show revC p xs ys = 0 by simp [revC, hj])
  have HV := hide (show revV p xs ys = rvA m xs by simp [revV, HC.out, hl.out])
  have HU := hide (show revU p xs ys = rvB m ys by simp [revU, HC.out, hl.out])
  have HQ := hide (show revP p xs ys = p by simp [revP, HC.out])
  clear hj
  obtain ⟨b1, o1, rfl, hw1, hc1⟩ := hs.at (by omega)
  obtain ⟨b2, o2, rfl, hw2, hc2⟩ := ht.at (by omega)
  have hmp : (0 : Int) < (m : Int) := by omega
  have hmn : 0 < m := by omega
  go_enter Try.func26, Try.ntmps26
  go_wp2_with fail
  refine (l03Is_any _ _ _ _ _ _ _ _ _ _ g1 g2 hn hm).mono ?_
  rintro e w2 ⟨rfl, hm2⟩
  rw [Hj.out]
  have hB2 := bnext hb0 hm2
  have z2 := hm2.size
  simp at z2
  have f0 : w2.cell? ⟨w.heap.size, 0, none⟩ = some (.int .i64 p) := cell_be hm2 (by simp [go_sem])
  have f1 : w2.cell? ⟨w.heap.size, 1, none⟩ = some (.slice (some ⟨b1, o1, none⟩) m c) := cell_be hm2 (by simp [go_sem])
  have f2 : w2.cell? ⟨w.heap.size, 2, none⟩ = some (.slice (some ⟨b2, o2, none⟩) m d) := cell_be hm2 (by simp [go_sem])
  have r0 : w2.cell? ⟨w.heap.size + 1, 0, none⟩ = some (.int .i64 0) := cell_be hm2 (by simp [go_sem])
  have r1 : w2.cell? ⟨w.heap.size + 1, 1, none⟩ = some (.slice none 0 0) := cell_be hm2 (by simp [go_sem])
  have r2 : w2.cell? ⟨w.heap.size + 1, 2, none⟩ = some (.slice none 0 0) := cell_be hm2 (by simp [go_sem])
  have y0 : w2.frozen? ⟨w.heap.size + 1, 0, none⟩ = false := (hm2.frozen (by simp)).trans (by simp [go_sem])
  have y1 : w2.frozen? ⟨w.heap.size + 1, 1, none⟩ = false := (hm2.frozen (by simp)).trans (by simp [go_sem])
  have y2 : w2.frozen? ⟨w.heap.size + 1, 2, none⟩ = false := (hm2.frozen (by simp)).trans (by simp [go_sem])
  obtain ⟨Y0, hY0⟩ : ∃ Y0, ys.getD 0 0 = Y0 := ⟨_, rfl⟩
  have e0 : w2.cell? ⟨b2, o2, none⟩ = some (.int .i64 Y0) := by rw [← hY0]; exact cell_be hB2 (by simpa using hc2 0 (by omega))
  have HY0 := hide hY0
  clear hY0
  have F2 : ∀ w', Below w2.heap.size w2 w' → Below w2.heap.size w2 w' ∧ w'.cell? ⟨w.heap.size, 0, none⟩ = some (.int .i64 p) ∧ w'.cell? ⟨w.heap.size, 2, none⟩ = some (.slice (some ⟨b2, o2, none⟩) m d) ∧ w'.cell? ⟨b2, o2, none⟩ = some (.int .i64 Y0) := fun w' h => ⟨h, cell_be h f0, cell_be h f2, cell_be h e0⟩
  go_upto_region 3 with fail
  go_cut [4] (fun sq wx => ∃ (q ga gb : Nat), sq = .pointer (some ⟨q, 0, none⟩) ∧ Hid (wx.cell? ⟨q, 0, none⟩ = some (.int .i64 p) ∧ wx.cell? ⟨q, 1, none⟩ = some (.slice (some ⟨ga, 0, none⟩) 0 0) ∧ wx.cell? ⟨q, 2, none⟩ = some (.slice (some ⟨gb, 0, none⟩) 1 1)) ∧ Hid (wx.frozen? ⟨q, 1, none⟩ = false ∧ wx.frozen? ⟨q, 2, none⟩ = false) ∧
      Hid (ga ≠ gb ∧ ga ≠ q ∧ gb ≠ q) ∧ Hid (w2.heap.size ≤ q ∧ q < wx.heap.size) ∧ Hid (Own w2.heap.size wx (some ⟨ga, 0, none⟩) 0 []) ∧ Hid (Own w2.heap.size wx (some ⟨gb, 0, none⟩) 1 [Y0]) ∧ Hid (Below w2.heap.size w2 wx))
  case first =>
    go_region_held3 (fun w' => Below w2.heap.size w2 w' ∧ w'.cell? ⟨w.heap.size, 0, none⟩ = some (.int .i64 p) ∧ w'.cell? ⟨w.heap.size, 2, none⟩ = some (.slice (some ⟨b2, o2, none⟩) m d) ∧ w'.cell? ⟨b2, o2, none⟩ = some (.int .i64 Y0))
      (first | exact F2 _ (((bl1 _ _)).drew) | exact F2 _ (((bl2 _ _ _)).drew) | exact F2 _ (((bl3 _ _ _ _)).drew) | exact F2 _ ((Below.refl _ _).drew) | exact F2 _ (Below.drew (Below.setCell (Below.setCell (Below.setCell (bl3 _ _ _ _) (by first | omega | (simp; done) | (simp; omega)) _) (by first | omega | (simp; done) | (simp; omega)) _) (by first | omega | (simp; done) | (simp; omega)) _)))
      (fail)
    all_goals go_wp2_with fail
    all_goals go_meet
    all_goals first
      | exact ⟨w2.heap.size, w2.heap.size + 1, w2.heap.size + 1 + 1, rfl, hide ⟨by simp [go_sem], by simp [go_sem], by simp [go_sem]⟩, hide ⟨by simp [go_sem], by simp [go_sem]⟩, hide ⟨by omega, by omega, by omega⟩, hide ⟨by omega, (by first | (simp; done) | (simp; omega))⟩, hide (((own_lit0' _ _ (by first | rfl | simp) _ (by omega)).below (bl1 _ _)).below ((Below.refl _ _).drew)), hide ((own_lit1' _ _ _ (by first | rfl | simp) _ (by omega)).below ((Below.refl _ _).drew)), hide ((bl3 _ _ _ _).drew)⟩
      | exact ⟨w2.heap.size, w2.heap.size + 1 + 1, w2.heap.size + 1, rfl, hide ⟨by simp [go_sem], by simp [go_sem], by simp [go_sem]⟩, hide ⟨by simp [go_sem], by simp [go_sem]⟩, hide ⟨by omega, by omega, by omega⟩, hide ⟨by omega, (by first | (simp; done) | (simp; omega))⟩, hide ((own_lit0' _ _ (by first | rfl | simp) _ (by omega)).below ((Below.refl _ _).drew)), hide (((own_lit1' _ _ _ (by first | rfl | simp) _ (by omega)).below (bl1 _ _)).below ((Below.refl _ _).drew)), hide ((bl3 _ _ _ _).drew)⟩
      | exact ⟨w2.heap.size + 1, w2.heap.size, w2.heap.size + 1 + 1, rfl, hide ⟨by simp [go_sem], by simp [go_sem], by simp [go_sem]⟩, hide ⟨by simp [go_sem], by simp [go_sem]⟩, hide ⟨by omega, by omega, by omega⟩, hide ⟨by omega, (by first | (simp; done) | (simp; omega))⟩, hide (((own_lit0' _ _ (by first | rfl | simp) _ (by omega)).below (bl2 _ _ _)).below ((Below.refl _ _).drew)), hide ((own_lit1' _ _ _ (by first | rfl | simp) _ (by omega)).below ((Below.refl _ _).drew)), hide ((bl3 _ _ _ _).drew)⟩
      | exact ⟨w2.heap.size + 1, w2.heap.size + 1 + 1, w2.heap.size, rfl, hide ⟨by simp [go_sem], by simp [go_sem], by simp [go_sem]⟩, hide ⟨by simp [go_sem], by simp [go_sem]⟩, hide ⟨by omega, by omega, by omega⟩, hide ⟨by omega, (by first | (simp; done) | (simp; omega))⟩, hide ((own_lit0' _ _ (by first | rfl | simp) _ (by omega)).below ((Below.refl _ _).drew)), hide (((own_lit1' _ _ _ (by first | rfl | simp) _ (by omega)).below (bl2 _ _ _)).below ((Below.refl _ _).drew)), hide ((bl3 _ _ _ _).drew)⟩
      | exact ⟨w2.heap.size + 1 + 1, w2.heap.size, w2.heap.size + 1, rfl, hide ⟨by simp [go_sem], by simp [go_sem], by simp [go_sem]⟩, hide ⟨by simp [go_sem], by simp [go_sem]⟩, hide ⟨by omega, by omega, by omega⟩, hide ⟨by omega, (by first | (simp; done) | (simp; omega))⟩, hide (((own_lit0' _ _ (by first | rfl | simp) _ (by omega)).below (bl2 _ _ _)).below ((Below.refl _ _).drew)), hide (((own_lit1' _ _ _ (by first | rfl | simp) _ (by omega)).below (bl1 _ _)).below ((Below.refl _ _).drew)), hide ((bl3 _ _ _ _).drew)⟩
      | exact ⟨w2.heap.size + 1 + 1, w2.heap.size + 1, w2.heap.size, rfl, hide ⟨by simp [go_sem], by simp [go_sem], by simp [go_sem]⟩, hide ⟨by simp [go_sem], by simp [go_sem]⟩, hide ⟨by omega, by omega, by omega⟩, hide ⟨by omega, (by first | (simp; done) | (simp; omega))⟩, hide (((own_lit0' _ _ (by first | rfl | simp) _ (by omega)).below (bl1 _ _)).below ((Below.refl _ _).drew)), hide (((own_lit1' _ _ _ (by first | rfl | simp) _ (by omega)).below (bl2 _ _ _)).below ((Below.refl _ _).drew)), hide ((bl3 _ _ _ _).drew)⟩
  case rest =>
    obtain ⟨q, ga, gb, rfl, hq, hf, hd, hge, oA, oB, hW⟩ := hcut
    obtain ⟨w5, hu⟩ : ∃ u, u = wc := ⟨wc, rfl⟩
    subst hu
    clear F2
    obtain ⟨d1, d2, d3⟩ := hd.out
    obtain ⟨e1, e2⟩ := hge.out
    have gA := hide hc1
    have gB := hide hc2
    clear hc1 hc2
    have c1w := cell_be hW.out f1
    have v1 : IntKind.i64.wrap ((m : Int) - 1) = (m : Int) - 1 := IntWalk.i64_in _ (by omega)
    have oA0 : Hid (Own w2.heap.size w5 (some ⟨ga, 0, none⟩) 0 (tab 0 (fun j => xs.getD (m - 1 - j) 0))) := oA
    have oB0 : Hid (Own w2.heap.size w5 (some ⟨gb, 0, none⟩) 1 (tab 1 (rvG m ys))) := hide (by
      have e : tab 1 (rvG m ys) = [Y0] := by simp [tab, rvG]; simpa using HY0.out
      rw [e]; exact oB.out)
    clear oA oB
    have hL0 : Hid (1 = min (0 + 1) m) := hide (by omega)
    have hn0 : Hid (blk (some ⟨ga, 0, none⟩) ≠ some q ∧ blk (some ⟨gb, 0, none⟩) ≠ some q ∧ (∀ g, blk (some ⟨ga, 0, none⟩) = some g → blk (some ⟨gb, 0, none⟩) ≠ some g)) := hide ⟨by simp [blk]; omega, by simp [blk]; omega, fun g h1 h2 => by simp [blk] at h1 h2; omega⟩
    go_wp2_with fail
    clear c1w
    go_loopw [5] (fun iv wr => ∃ (K L c' d' : Nat) (a' b' : Option Addr), K ≤ m ∧ Hid (L = min (K + 1) m) ∧ iv = .int .i64 ((m : Int) - 1 - K) ∧ Hid (Own w2.heap.size wr a' c' (tab K (fun j => xs.getD (m - 1 - j) 0))) ∧ Hid (Own w2.heap.size wr b' d' (tab L (rvG m ys))) ∧
      Hid (blk a' ≠ some q ∧ blk b' ≠ some q ∧ (∀ g, blk a' = some g → blk b' ≠ some g)) ∧ Hid (wr.cell? ⟨q, 0, none⟩ = some (.int .i64 p) ∧ wr.cell? ⟨q, 1, none⟩ = some (.slice a' K c') ∧ wr.cell? ⟨q, 2, none⟩ = some (.slice b' L d')) ∧ Hid (wr.frozen? ⟨q, 1, none⟩ = false ∧ wr.frozen? ⟨q, 2, none⟩ = false) ∧ q < wr.heap.size ∧ Hid (Below w2.heap.size w2 wr)) (fun iv _ => (intOf iv + 1).toNat)
    case atStart => exact ⟨0, 1, 0, 1, _, _, by omega, hL0, by go_num, oA0, oB0, hn0, hq, hf, e2, hW⟩
    case round =>
      obtain ⟨K, L, c', d', a', b', hK, hL, rfl, oA, oB, hn, hq', hf', hqs, hW'⟩ := hrel
      clear oA0 oB0 hn0 hL0 hq hf hW
      obtain ⟨q0, q1, q2⟩ := hq'.out
      obtain ⟨y1q, y2q⟩ := hf'.out
      obtain ⟨n1', n2', n3'⟩ := hn.out
      have zr := hW'.out.size
      by_cases hlt : K < m
      · obtain ⟨k, hk⟩ : ∃ k : Nat, k = m - 1 - K := ⟨_, rfl⟩
        have hki : (m : Int) - 1 - K = (k : Int) := by omega
        rw [hki]
        have Hk := hide hk
        have hkm : (k : Int) < (m : Int) := by omega
        have hk0 : (0 : Int) ≤ (k : Int) := by omega
        have hkn : ¬ (k : Int) < 0 := by omega
        have vk : IntKind.i64.wrap ((k : Int) - 1) = (k : Int) - 1 := IntWalk.i64_in _ (by omega)
        have eX : wr.cell? ⟨b1, o1 + k, none⟩ = some (.int .i64 (xs.getD k 0)) := cell_be hW'.out (cell_be hB2 (gA.out k (by omega)))
        have eY : wr.cell? ⟨b2, o2 + k, none⟩ = some (.int .i64 (ys.getD k 0)) := cell_be hW'.out (cell_be hB2 (gB.out k (by omega)))
        have k1 := cell_be hW'.out f1
        have k2 := cell_be hW'.out f2
        have hstA : Hid (tab (K + 1) (fun j => xs.getD (m - 1 - j) 0) = tab K (fun j => xs.getD (m - 1 - j) 0) ++ [xs.getD k 0]) := hide (by rw [hk]; exact (tab_snoc K (fun j => xs.getD (m - 1 - j) 0)).symm)
        obtain ⟨X, hX⟩ : ∃ X, xs.getD k 0 = X := ⟨_, rfl⟩
        obtain ⟨Y, hY⟩ : ∃ Y, ys.getD k 0 = Y := ⟨_, rfl⟩
        have HY := hide hY
        rw [hX] at eX hstA
        rw [hY] at eY
        obtain ⟨zs, hzs⟩ : ∃ zs, tab K (fun j => xs.getD (m - 1 - j) 0) = zs := ⟨_, rfl⟩
        have hzl := hide (show zs.length = K by rw [← hzs, tab_len])
        rw [hzs] at oA hstA
        clear hX hY hzs hk hki
        have hbd := (Below.refl wr.heap.size wr).drew
        have hba : Below wr.heap.size wr ((wr.alloc (.cells #[.int .i64 X] 2)).drew) := (bl1 wr _).drew
        have s1a : ((wr.alloc (.cells #[.int .i64 X] 2)).drew).cell? ⟨q, 1, none⟩ = some (.slice a' K c') := cell_be hba q1
        have sfa : ((wr.alloc (.cells #[.int .i64 X] 2)).drew).frozen? ⟨q, 1, none⟩ = false := (hba.frozen (World.block_lt_of_cell? _ _ q1)).trans y1q
        have hOa := hide (oA.out.below hba)
        have hOo := hide (oB.out.below hba)
        have hcl : ((wr.alloc (.cells #[.int .i64 X] 2)).drew).cell? ⟨wr.heap.size, 0, none⟩ = some (.int .i64 X) := by simp [go_sem]
        go_upto_region 7 with fail
        refine region_E (fun w' => w'.cell? ⟨q, 1, none⟩ = some (.slice a' K c') ∧ w'.cell? ⟨w.heap.size, 1, none⟩ = some (.slice (some ⟨b1, o1, none⟩) m c) ∧ w'.cell? ⟨b1, o1 + k, none⟩ = some (.int .i64 X)) 10 (by kernel_rfl) ⟨cell_be hbd q1, cell_be hbd k1, cell_be hbd eX⟩ ?_
        intro hS
        refine anyE_takeL 0 rfl (by kernel_rfl) (fun _ _ _ h => h) hS (by rfl) (v := ?_) ?_ ?_
        rotate_left
        · intro w' hSw; (try dsimp only at hSw); go_simp; (try with_reducible rfl)
        try simp only [Act.put, List.setIfInBounds_toArray, List.set_cons_zero, List.set_cons_succ]
        refine anyE_takeL 1 rfl (by kernel_rfl) (fun _ _ _ h => h) hS (by rfl) (v := ?_) ?_ ?_
        rotate_left
        · intro w' hSw; (try dsimp only at hSw); go_simp; (try with_reducible rfl)
        try simp only [Act.put, List.setIfInBounds_toArray, List.set_cons_zero, List.set_cons_succ]
        refine anyE_takeL 2 rfl (by kernel_rfl) (fun _ _ _ h => h) hS (by rfl) (v := ?_) ?_ ?_
        rotate_left
        · intro w' hSw; (try dsimp only at hSw); go_simp; (try with_reducible rfl)
        try simp only [Act.put, List.setIfInBounds_toArray, List.set_cons_zero, List.set_cons_succ]
        refine anyE_takeL 3 rfl (by kernel_rfl) (fun _ _ _ h => h) hS (by rfl) (v := ?_) ?_ ?_
        rotate_left
        · intro w' hSw; (try dsimp only at hSw); go_simp; (try with_reducible rfl)
        try simp only [Act.put, List.setIfInBounds_toArray, List.set_cons_zero, List.set_cons_succ]
        refine anyE_takeL 4 rfl (by kernel_rfl) (fun _ _ _ h => h) hS (by rfl) (v := ?_) ?_ ?_
        rotate_left
        · intro w' hSw; (try dsimp only at hSw); go_simp; (try with_reducible rfl)
        try simp only [Act.put, List.setIfInBounds_toArray, List.set_cons_zero, List.set_cons_succ]
        refine anyE_takeL 5 rfl (by kernel_rfl) (fun _ _ _ h => h) hS (by rfl) (v := ?_) ?_ ?_
        rotate_left
        · intro w' hSw; (try dsimp only at hSw); go_simp; (try with_reducible rfl)
        try simp only [Act.put, List.setIfInBounds_toArray, List.set_cons_zero, List.set_cons_succ]
        refine anyE_takeL 6 rfl (by kernel_rfl) (fun _ _ _ h => h) hS (by rfl) (v := ?_) ?_ ?_
        rotate_left
        · intro w' hSw; (try dsimp only at hSw); go_simp; (try with_reducible rfl)
        try simp only [Act.put, List.setIfInBounds_toArray, List.set_cons_zero, List.set_cons_succ]
        clear hS
        refine anyE_oneL 7 (by kernel_rfl) rfl (fun K' hK' => ?_)
        go_simp
        have S1 := And.intro s1a (And.intro (cell_be hba k1) (cell_be hba eX))
        refine hK'.out _ _ S1 ?_
        clear hK' K'
        try simp only [Act.put, List.setIfInBounds_toArray, List.set_cons_zero, List.set_cons_succ]
        refine anyE_oneL 8 (by kernel_rfl) rfl (fun K' hK' => ?_)
        refine step_app1 (by rfl) _ _ (by rfl) w2.heap.size _ _ _ zs (by rfl) hzl.out.symm hOa.out _ _ X (by rfl) hcl (by omega) (by simp; omega) ?_
        intro ad' cap' w' hown' hgr hloc
        have s1' := cell_ne hgr s1a n1'
        have sf' := frz_ne hgr s1a sfa n1'
        have hge := own_blk_ge hOa.out
        have S2 := And.intro s1' (And.intro (cell_ne hgr S1.2.1 (fun e => by have := hge _ e; omega)) (cell_ne hgr S1.2.2 (fun e => by have := hge _ e; omega)))
        refine hK'.out _ _ S2 ?_
        clear hK' K'
        try simp only [Act.put, List.setIfInBounds_toArray, List.set_cons_zero, List.set_cons_succ]
        refine anyE_takeL 9 rfl (by kernel_rfl) (fun _ _ _ h => h) S2 (by rfl) (v := ?_) ?_ ?_
        rotate_left
        · intro w' hSw; (try dsimp only at hSw); go_simp; (try with_reducible rfl)
        try simp only [Act.put, List.setIfInBounds_toArray, List.set_cons_zero, List.set_cons_succ]
        clear S1 S2 hge hbd
        refine anyE_lastL (by kernel_rfl) rfl (by kernel_rfl) (fun K' hK' => ?_)
        go_simp
        refine hK'.out _ _ ?_
        clear hK' K'
        try simp only [Act.put, List.setIfInBounds_toArray, List.set_cons_zero, List.set_cons_succ]
        obtain ⟨w6, hw6⟩ : ∃ w6, w6 = w'.setCell ⟨q, 1, none⟩ (.slice ad' (zs.length + 1) cap') := ⟨_, rfl⟩
        rw [← hw6]
        have hnew : Hid (blk ad' ≠ some q) := hide (by
          rcases hloc with h | h <;> rw [h]
          · exact n1'
          · simp; omega)
        have oA6 : Hid (Own w2.heap.size w6 ad' cap' (tab (K + 1) (fun j => xs.getD (m - 1 - j) 0))) := hide (by rw [hw6, hstA.out]; exact hown'.otherG hnew.out _)
        have oB6 : Hid (Own w2.heap.size w6 b' d' (tab L (rvG m ys))) := hide (by rw [hw6]; exact (Own.keep hOo.out hgr (fun g h1 h2 => n3' g h2 h1)).otherG n2' _)
        have hbl := Own.blkG oB.out (by rw [tab_len]; have := hL.out; omega)
        obtain ⟨g2, rfl, _, hg2, _⟩ := hbl
        have n3 : Hid (∀ g, blk ad' = some g → blk (some ⟨g2, 0, none⟩) ≠ some g) := hide (fun g h1 h2 => by
          rcases hloc with h | h
          · rw [h] at h1; exact n3' g h1 h2
          · rw [h] at h1
            simp [blk] at h1 h2
            omega)
        have n1 := hnew
        have p0 : w6.cell? ⟨q, 0, none⟩ = some (.int .i64 p) := by rw [hw6]; exact cell_set2' (cell_ne hgr (cell_be hba q0) n1') (by simp) _
        have p1 : w6.cell? ⟨q, 1, none⟩ = some (.slice ad' (K + 1) cap') := by rw [hw6, show K + 1 = zs.length + 1 by rw [hzl.out]]; exact World.cell?_setCell_same _ _ _ s1'
        have p2 : w6.cell? ⟨q, 2, none⟩ = some (.slice (some ⟨g2, 0, none⟩) L d') := by rw [hw6]; exact cell_set2' (cell_ne hgr (cell_be hba q2) n1') (by simp) _
        have yy1 : w6.frozen? ⟨q, 1, none⟩ = false := by rw [hw6]; simpa using sf'
        have yy2 : w6.frozen? ⟨q, 2, none⟩ = false := by rw [hw6]; simpa using frz_ne hgr (cell_be hba q2) ((hba.frozen (World.block_lt_of_cell? _ _ q2)).trans y2q) n1'
        have hW6 : Hid (Below w2.heap.size w2 w6) := hide (by rw [hw6]; exact ((hW'.out.trans (hba.mono (by omega))).grown hgr (by simp; omega) (own_blk_ge hOa.out)).setCell (by simp; omega) _)
        have zq : q < w6.heap.size := by rw [hw6]; have := hgr.size; simp at this ⊢; omega
        have kk2 := cell_be hW6.out f2
        have eY6 : w6.cell? ⟨b2, o2 + k, none⟩ = some (.int .i64 Y) := by rw [← HY.out]; exact cell_be hW6.out (cell_be hB2 (gB.out k (by omega)))
        have z66 := hW6.out.size
        clear hw6 hgr hown' hloc hOa hOo hba hcl s1a sfa s1' sf' hnew oA oB q0 q1 q2 y1q y2q n1' n3' hq' hf' hn eX eY k1 k2
        by_cases hkz : k = 0
        · have hng : ¬ (0 : Int) < (k : Int) := by omega
          have Hkz := hide hkz
          clear hkz
          go_wp2
          go_roundw
          case rel => exact ⟨K + 1, L, cap', d', ad', _, by omega, hide (by have := hL.out; have := Hk.out; have := Hkz.out; omega), by rw [show ((m : Int) - 1 - ((K + 1 : Nat) : Int)) = (k : Int) - 1 by have := Hk.out; omega], oA6, oB6, hide ⟨n1.out, n2', n3.out⟩, hide ⟨p0, p1, p2⟩, hide ⟨yy1, yy2⟩, zq, hW6⟩
          case measure => first | (simp [intOf]; done) | (simp [intOf]; omega)
        · have hng : (0 : Int) < (k : Int) := by omega
          have HL2 := hide (show L = K + 1 by have := hL.out; have := Hk.out; omega)
          have hstB : Hid (tab (L + 1) (rvG m ys) = tab L (rvG m ys) ++ [Y]) := hide (by
            have e := (tab_snoc L (rvG m ys)).symm
            rw [show rvG m ys L = Y by unfold rvG; rw [if_pos (by have := HL2.out; omega), ← HY.out]; congr 1; have := HL2.out; have := Hk.out; omega] at e
            exact e)
          obtain ⟨us, hus⟩ : ∃ us, tab L (rvG m ys) = us := ⟨_, rfl⟩
          have hul := hide (show us.length = L by rw [← hus, tab_len])
          rw [hus] at oB6 hstB
          have hLm : L ≤ m := by have := HL2.out; omega
          clear hus
          have hbd := (Below.refl w6.heap.size w6).drew
          have hba : Below w6.heap.size w6 ((w6.alloc (.cells #[.int .i64 Y] 2)).drew) := (bl1 w6 _).drew
          have s1a : ((w6.alloc (.cells #[.int .i64 Y] 2)).drew).cell? ⟨q, 2, none⟩ = some (.slice (some ⟨g2, 0, none⟩) L d') := cell_be hba p2
          have sfa : ((w6.alloc (.cells #[.int .i64 Y] 2)).drew).frozen? ⟨q, 2, none⟩ = false := (hba.frozen (World.block_lt_of_cell? _ _ p2)).trans yy2
          have hOa := hide (oB6.out.below hba)
          have hOo := hide (oA6.out.below hba)
          have hcl : ((w6.alloc (.cells #[.int .i64 Y] 2)).drew).cell? ⟨w6.heap.size, 0, none⟩ = some (.int .i64 Y) := by simp [go_sem]
          go_upto_region 9 with fail
          refine region_E (fun w' => w'.cell? ⟨q, 2, none⟩ = some (.slice (some ⟨g2, 0, none⟩) L d') ∧ w'.cell? ⟨w.heap.size, 2, none⟩ = some (.slice (some ⟨b2, o2, none⟩) m d) ∧ w'.cell? ⟨b2, o2 + k, none⟩ = some (.int .i64 Y)) 10 (by kernel_rfl) ⟨cell_be hbd p2, cell_be hbd kk2, cell_be hbd eY6⟩ ?_
          intro hS
          refine anyE_takeL 0 rfl (by kernel_rfl) (fun _ _ _ h => h) hS (by rfl) (v := ?_) ?_ ?_
          rotate_left
          · intro w' hSw; (try dsimp only at hSw); go_simp; (try with_reducible rfl)
          try simp only [Act.put, List.setIfInBounds_toArray, List.set_cons_zero, List.set_cons_succ]
          refine anyE_takeL 1 rfl (by kernel_rfl) (fun _ _ _ h => h) hS (by rfl) (v := ?_) ?_ ?_
          rotate_left
          · intro w' hSw; (try dsimp only at hSw); go_simp; (try with_reducible rfl)
          try simp only [Act.put, List.setIfInBounds_toArray, List.set_cons_zero, List.set_cons_succ]
          refine anyE_takeL 2 rfl (by kernel_rfl) (fun _ _ _ h => h) hS (by rfl) (v := ?_) ?_ ?_
          rotate_left
          · intro w' hSw; (try dsimp only at hSw); go_simp; (try with_reducible rfl)
          try simp only [Act.put, List.setIfInBounds_toArray, List.set_cons_zero, List.set_cons_succ]
          refine anyE_takeL 3 rfl (by kernel_rfl) (fun _ _ _ h => h) hS (by rfl) (v := ?_) ?_ ?_
          rotate_left
          · intro w' hSw; (try dsimp only at hSw); go_simp; (try with_reducible rfl)
          try simp only [Act.put, List.setIfInBounds_toArray, List.set_cons_zero, List.set_cons_succ]
          refine anyE_takeL 4 rfl (by kernel_rfl) (fun _ _ _ h => h) hS (by rfl) (v := ?_) ?_ ?_
          rotate_left
          · intro w' hSw; (try dsimp only at hSw); go_simp; (try with_reducible rfl)
          try simp only [Act.put, List.setIfInBounds_toArray, List.set_cons_zero, List.set_cons_succ]
          refine anyE_takeL 5 rfl (by kernel_rfl) (fun _ _ _ h => h) hS (by rfl) (v := ?_) ?_ ?_
          rotate_left
          · intro w' hSw; (try dsimp only at hSw); go_simp; (try with_reducible rfl)
          try simp only [Act.put, List.setIfInBounds_toArray, List.set_cons_zero, List.set_cons_succ]
          refine anyE_takeL 6 rfl (by kernel_rfl) (fun _ _ _ h => h) hS (by rfl) (v := ?_) ?_ ?_
          rotate_left
          · intro w' hSw; (try dsimp only at hSw); go_simp; (try with_reducible rfl)
          try simp only [Act.put, List.setIfInBounds_toArray, List.set_cons_zero, List.set_cons_succ]
          clear hS
          refine anyE_oneL 7 (by kernel_rfl) rfl (fun K' hK' => ?_)
          go_simp
          have S1 := And.intro s1a (And.intro (cell_be hba kk2) (cell_be hba eY6))
          refine hK'.out _ _ S1 ?_
          clear hK' K'
          try simp only [Act.put, List.setIfInBounds_toArray, List.set_cons_zero, List.set_cons_succ]
          refine anyE_oneL 8 (by kernel_rfl) rfl (fun K' hK' => ?_)
          refine step_app1 (by rfl) _ _ (by rfl) w2.heap.size _ _ _ us (by rfl) hul.out.symm hOa.out _ _ Y (by rfl) hcl (by omega) (by simp; omega) ?_
          intro bd' bap' w' hown' hgr hloc
          have s1' := cell_ne hgr s1a n2'
          have sf' := frz_ne hgr s1a sfa n2'
          have hge := own_blk_ge hOa.out
          have S2 := And.intro s1' (And.intro (cell_ne hgr S1.2.1 (fun e => by have := hge _ e; omega)) (cell_ne hgr S1.2.2 (fun e => by have := hge _ e; omega)))
          refine hK'.out _ _ S2 ?_
          clear hK' K'
          try simp only [Act.put, List.setIfInBounds_toArray, List.set_cons_zero, List.set_cons_succ]
          refine anyE_takeL 9 rfl (by kernel_rfl) (fun _ _ _ h => h) S2 (by rfl) (v := ?_) ?_ ?_
          rotate_left
          · intro w' hSw; (try dsimp only at hSw); go_simp; (try with_reducible rfl)
          try simp only [Act.put, List.setIfInBounds_toArray, List.set_cons_zero, List.set_cons_succ]
          clear S1 S2 hge hbd
          refine anyE_lastL (by kernel_rfl) rfl (by kernel_rfl) (fun K' hK' => ?_)
          go_simp
          refine hK'.out _ _ ?_
          clear hK' K'
          try simp only [Act.put, List.setIfInBounds_toArray, List.set_cons_zero, List.set_cons_succ]
          obtain ⟨w7, hw7⟩ : ∃ w7, w7 = w'.setCell ⟨q, 2, none⟩ (.slice bd' (us.length + 1) bap') := ⟨_, rfl⟩
          rw [← hw7]
          have hnew : Hid (blk bd' ≠ some q) := hide (by
            rcases hloc with h | h <;> rw [h]
            · exact n2'
            · simp; omega)
          have oB7 : Hid (Own w2.heap.size w7 bd' bap' (tab (L + 1) (rvG m ys))) := hide (by rw [hw7, hstB.out]; exact hown'.otherG hnew.out _)
          have oA7 : Hid (Own w2.heap.size w7 ad' cap' (tab (K + 1) (fun j => xs.getD (m - 1 - j) 0))) := hide (by rw [hw7]; exact (Own.keep hOo.out hgr (fun g h1 h2 => n3.out g h1 h2)).otherG n1.out _)
          have hbl := Own.blkG oA6.out (by rw [tab_len]; omega)
          obtain ⟨g1, rfl, _, hg1, _⟩ := hbl
          have n3b : Hid (∀ g, blk (some ⟨g1, 0, none⟩) = some g → blk bd' ≠ some g) := hide (fun g h1 h2 => by
            rcases hloc with h | h
            · rw [h] at h2; exact n3.out g h1 h2
            · rw [h] at h2
              simp [blk] at h1 h2
              omega)
          have n2b := hnew
          have p0' : w7.cell? ⟨q, 0, none⟩ = some (.int .i64 p) := by rw [hw7]; exact cell_set2' (cell_ne hgr (cell_be hba p0) n2') (by simp) _
          have p2' : w7.cell? ⟨q, 2, none⟩ = some (.slice bd' (L + 1) bap') := by rw [hw7, show L + 1 = us.length + 1 by rw [hul.out]]; exact World.cell?_setCell_same _ _ _ s1'
          have p1' : w7.cell? ⟨q, 1, none⟩ = some (.slice (some ⟨g1, 0, none⟩) (K + 1) cap') := by rw [hw7]; exact cell_set2' (cell_ne hgr (cell_be hba p1) n2') (by simp) _
          have yy2' : w7.frozen? ⟨q, 2, none⟩ = false := by rw [hw7]; simpa using sf'
          have yy1' : w7.frozen? ⟨q, 1, none⟩ = false := by rw [hw7]; simpa using frz_ne hgr (cell_be hba p1) ((hba.frozen (World.block_lt_of_cell? _ _ p1)).trans yy1) n2'
          have hW7 : Hid (Below w2.heap.size w2 w7) := hide (by rw [hw7]; exact ((hW6.out.trans (hba.mono (by omega))).grown hgr (by simp; omega) (own_blk_ge hOa.out)).setCell (by simp; omega) _)
          have zq7 : q < w7.heap.size := by rw [hw7]; have := hgr.size; simp at this ⊢; omega
          clear hw7 hgr hown' hloc hOa hOo hba hcl s1a sfa s1' sf' hnew oA6 oB6 p0 p1 p2 yy1 yy2 hW6 kk2 eY6
          go_wp2
          go_roundw
          case rel => exact ⟨K + 1, L + 1, cap', bap', _, bd', by omega, hide (by have := hL.out; have := Hk.out; omega), by rw [show ((m : Int) - 1 - ((K + 1 : Nat) : Int)) = (k : Int) - 1 by have := Hk.out; omega], oA7, oB7, hide ⟨n1.out, n2b.out, n3b.out⟩, hide ⟨p0', p1', p2'⟩, hide ⟨yy1', yy2'⟩, zq7, hW7⟩
          case measure => first | (simp [intOf]; done) | (simp [intOf]; omega)
      · have hKm : K = m := by omega
        subst hKm
        obtain rfl : L = K := by have := hL.out; omega
        have hneg : ¬ (0 : Int) ≤ (L : Int) - 1 - (L : Int) := by omega
        have r0' := cell_be hW'.out r0
        have r1' := cell_be hW'.out r1
        have r2' := cell_be hW'.out r2
        have y0' := (hW'.out.frozen (World.block_lt_of_cell? _ _ r0)).trans y0
        have y1' := (hW'.out.frozen (World.block_lt_of_cell? _ _ r1)).trans y1
        have y2' := (hW'.out.frozen (World.block_lt_of_cell? _ _ r2)).trans y2
        clear r0 r1 r2 y0 y1 y2
        have z6 := hW'.out.size
        go_wp2
        refine bodyPost_ret (v := .tuple #[jac p a' L c' b' L d', .int .i64 0]) (by simp [results, Try.results26, go_sem, r0', r1', r2']) rfl ?_
        have jz : JZ w2.heap.size wr.heap.size wr a' L c' (rvA L xs) b' L d' (rvB L ys) := ⟨OZ.of oA.out (tab_len _ _).symm, OZ.of oB.out (tab_len _ _).symm, .inr (.inr (fun h => by obtain ⟨g, rfl, _⟩ := Own.blkG oA.out (by rw [tab_len]; omega); exact n3' g rfl h.symm))⟩
        have jz2 := ((jz.setLow (x := ⟨w.heap.size + 1, 0, none⟩) (by simp; omega) (.int .i64 p)).setLow (x := ⟨w.heap.size + 1, 1, none⟩) (by simp; omega) (.slice a' L c')).setLow (x := ⟨w.heap.size + 1, 2, none⟩) (by simp; omega) (.slice b' L d')
        exact ResJ.mk HQ.out HC.out (by rw [HV.out]; exact (tab_len _ _).symm) (by rw [HU.out]; exact (tab_len _ _).symm) (by rw [HV.out, HU.out]; simpa using jz2.mono (lo' := w.heap.size) (by omega) (Nat.le_refl _)) (by rw [HV.out]; unfold rvA; rw [tab_len]; omega) (by rw [HU.out]; unfold rvB; rw [tab_len]; omega) ((((hB2.trans (hW'.out.mono (by omega))).setCell (by simp) _).setCell (by simp) _).setCell (by simp) _)
end Go.Proofs.Ytjilggjldnlkpaa
