/- Contracts: AddMoments (model). -/
import Derived.Test.YtjilggjldnlkpaaAx
import Derived.OwnWalk
import Derived.Test.YtjilggjldnlkpaaRx
namespace Go.Proofs.Ytjilggjldnlkpaa
open Go.RowKit
set_option linter.unusedVariables false
set_option linter.unusedSimpArgs false

set_option maxRecDepth 100000 in
set_option maxHeartbeats 1600000 in
theorem specAddMoments (p : Int) (a1 : Option Addr) (n1 c1 : Nat) (xs : List Int) (q : Int) (a2 : Option Addr) (n2 c2 : Nat) (ys : List Int) (k : Int) (w : World) (h1 : SL w a1 n1 c1 xs) (h2 : SL w a2 n2 c2 ys) (b1 : n1 ≤ 4000000) (b2 : n2 ≤ 4000000) :
    Calls Try.prog 45 #[mom p a1 n1 c1, mom q a2 n2 c2, .int .i64 k] w (ResM w (adP p xs q ys k) (adV p xs q ys k) (adC p xs q ys k)) := by
  have hl1 := hide h1.len
  have hl2 := hide h2.len
  have hb0 := bl3 w (.cells #[.int .i64 p, .slice a1 n1 c1] 50) (.cells #[.int .i64 q, .slice a2 n2 c2] 50) (.cells #[.int .i64 0, .slice none 0 0] 50)
  have g1 := h1.below hb0
  have g2 := h2.below hb0
  have hz0 : w.heap.size + 2 < (((w.alloc (.cells #[.int .i64 p, .slice a1 n1 c1] 50)).alloc (.cells #[.int .i64 q, .slice a2 n2 c2] 50)).alloc (.cells #[.int .i64 0, .slice none 0 0] 50)).heap.size := by simp
  cases hm1 : momB p xs
  · have Hm1 := hide hm1
    have HC := hide (show adC p xs q ys k = 1 by simp [adC, hm1])
    have HV := hide (show adV p xs q ys k = [] by simp [adV, HC.out])
    have HQ := hide (show adP p xs q ys k = 0 by simp [adP, HC.out])
    clear hm1
    go_enter Try.func45, Try.ntmps45
    go_wp2_with fail
    refine (l02Are_any _ _ _ _ _ _ g1 b1).mono ?_
    rintro e w1 ⟨rfl, t1⟩
    rw [Hm1.out]
    have p0 : w1.cell? ⟨w.heap.size, 0, none⟩ = some (.int .i64 p) := cell_be t1 (by simp [go_sem])
    have p1 : w1.cell? ⟨w.heap.size, 1, none⟩ = some (.slice a1 n1 c1) := cell_be t1 (by simp [go_sem])
    have q0 : w1.cell? ⟨w.heap.size + 1, 0, none⟩ = some (.int .i64 q) := cell_be t1 (by simp [go_sem])
    have q1 : w1.cell? ⟨w.heap.size + 1, 1, none⟩ = some (.slice a2 n2 c2) := cell_be t1 (by simp [go_sem])
    have r0 : w1.cell? ⟨w.heap.size + 1 + 1, 0, none⟩ = some (.int .i64 0) := cell_be t1 (by simp [go_sem])
    have r1 : w1.cell? ⟨w.heap.size + 1 + 1, 1, none⟩ = some (.slice none 0 0) := cell_be t1 (by simp [go_sem])
    have y0 : w1.frozen? ⟨w.heap.size + 1 + 1, 0, none⟩ = false := (t1.frozen (by simp)).trans (by simp [go_sem])
    have y1 : w1.frozen? ⟨w.heap.size + 1 + 1, 1, none⟩ = false := (t1.frozen (by simp)).trans (by simp [go_sem])
    have hB := bnext hb0 t1
    have hz := t1.size
    go_wp2
    refine bodyPost_ret (v := .tuple #[mom 0 none 0 0, .int .i64 1]) (by simp [results, Try.results45, go_sem, r0, r1]) rfl ?_
    exact ResM.nil HQ.out HV.out HC.out ((hB.setCell (by simp <;> omega) _).setCell (by simp <;> omega) _)
  · have Hm1 := hide hm1
    cases hm2 : momB q ys
    · have Hm2 := hide hm2
      have HC := hide (show adC p xs q ys k = 1 by simp [adC, hm2])
      have HV := hide (show adV p xs q ys k = [] by simp [adV, HC.out])
      have HQ := hide (show adP p xs q ys k = 0 by simp [adP, HC.out])
      clear hm1 hm2
      go_enter Try.func45, Try.ntmps45
      go_wp2_with fail
      refine (l02Are_any _ _ _ _ _ _ g1 b1).mono ?_
      rintro e w1 ⟨rfl, t1⟩
      rw [Hm1.out]
      have p0 : w1.cell? ⟨w.heap.size, 0, none⟩ = some (.int .i64 p) := cell_be t1 (by simp [go_sem])
      have p1 : w1.cell? ⟨w.heap.size, 1, none⟩ = some (.slice a1 n1 c1) := cell_be t1 (by simp [go_sem])
      have q0 : w1.cell? ⟨w.heap.size + 1, 0, none⟩ = some (.int .i64 q) := cell_be t1 (by simp [go_sem])
      have q1 : w1.cell? ⟨w.heap.size + 1, 1, none⟩ = some (.slice a2 n2 c2) := cell_be t1 (by simp [go_sem])
      have r0 : w1.cell? ⟨w.heap.size + 1 + 1, 0, none⟩ = some (.int .i64 0) := cell_be t1 (by simp [go_sem])
      have r1 : w1.cell? ⟨w.heap.size + 1 + 1, 1, none⟩ = some (.slice none 0 0) := cell_be t1 (by simp [go_sem])
      have y0 : w1.frozen? ⟨w.heap.size + 1 + 1, 0, none⟩ = false := (t1.frozen (by simp)).trans (by simp [go_sem])
      have y1 : w1.frozen? ⟨w.heap.size + 1 + 1, 1, none⟩ = false := (t1.frozen (by simp)).trans (by simp [go_sem])
      have hB := bnext hb0 t1
      have hz := t1.size
      go_wp2_with fail
      refine (l02Are_any _ _ _ _ _ _ (g2.below t1) b2).mono ?_
      rintro e w2 ⟨rfl, t2⟩
      rw [Hm2.out]
      replace p0 := cell_be t2 p0
      replace p1 := cell_be t2 p1
      replace q0 := cell_be t2 q0
      replace q1 := cell_be t2 q1
      replace y0 := (t2.frozen (World.block_lt_of_cell? _ _ r0)).trans y0
      replace y1 := (t2.frozen (World.block_lt_of_cell? _ _ r1)).trans y1
      replace r0 := cell_be t2 r0
      replace r1 := cell_be t2 r1
      have hB2 := bnext hB t2
      have hz2 := t2.size
      replace hB := hB2
      go_wp2
      refine bodyPost_ret (v := .tuple #[mom 0 none 0 0, .int .i64 1]) (by simp [results, Try.results45, go_sem, r0, r1]) rfl ?_
      exact ResM.nil HQ.out HV.out HC.out ((hB.setCell (by simp <;> omega) _).setCell (by simp <;> omega) _)
    · have Hm2 := hide hm2
      by_cases hpq : p = q
      · subst hpq
        by_cases hnn : n1 = n2
        · subst hnn
          obtain ⟨hpr, k1, k2, hxa⟩ := momB_rng hm1
          obtain ⟨_, _, _, hya⟩ := momB_rng hm2
          obtain ⟨hp, hp2⟩ := primeB_lo hpr
          rw [hl1.out] at k1 k2
          by_cases hk : 0 ≤ k ∧ k ≤ p - 1
          · have HC := hide (show adC p xs p ys k = 0 by simp [adC, hm1, hm2, hl1.out, hl2.out]; omega)
            have HV := hide (show adV p xs p ys k = addlM p k xs ys by simp [adV, HC.out])
            have HQ := hide (show adP p xs p ys k = p by simp [adP, HC.out])
            have Hxa := hide hxa
            have Hya := hide hya
            clear hm1 hm2 hxa hya hpr
            go_enter Try.func45, Try.ntmps45
            go_wp2_with fail
            refine (l02Are_any _ _ _ _ _ _ g1 b1).mono ?_
            rintro e w1 ⟨rfl, t1⟩
            rw [Hm1.out]
            have p0 : w1.cell? ⟨w.heap.size, 0, none⟩ = some (.int .i64 p) := cell_be t1 (by simp [go_sem])
            have p1 : w1.cell? ⟨w.heap.size, 1, none⟩ = some (.slice a1 n1 c1) := cell_be t1 (by simp [go_sem])
            have q0 : w1.cell? ⟨w.heap.size + 1, 0, none⟩ = some (.int .i64 p) := cell_be t1 (by simp [go_sem])
            have q1 : w1.cell? ⟨w.heap.size + 1, 1, none⟩ = some (.slice a2 n1 c2) := cell_be t1 (by simp [go_sem])
            have r0 : w1.cell? ⟨w.heap.size + 1 + 1, 0, none⟩ = some (.int .i64 0) := cell_be t1 (by simp [go_sem])
            have r1 : w1.cell? ⟨w.heap.size + 1 + 1, 1, none⟩ = some (.slice none 0 0) := cell_be t1 (by simp [go_sem])
            have y0 : w1.frozen? ⟨w.heap.size + 1 + 1, 0, none⟩ = false := (t1.frozen (by simp)).trans (by simp [go_sem])
            have y1 : w1.frozen? ⟨w.heap.size + 1 + 1, 1, none⟩ = false := (t1.frozen (by simp)).trans (by simp [go_sem])
            have hB := bnext hb0 t1
            have hz := t1.size
            go_wp2_with fail
            refine (l02Are_any _ _ _ _ _ _ (g2.below t1) b2).mono ?_
            rintro e w2 ⟨rfl, t2⟩
            rw [Hm2.out]
            replace p0 := cell_be t2 p0
            replace p1 := cell_be t2 p1
            replace q0 := cell_be t2 q0
            replace q1 := cell_be t2 q1
            replace y0 := (t2.frozen (World.block_lt_of_cell? _ _ r0)).trans y0
            replace y1 := (t2.frozen (World.block_lt_of_cell? _ _ r1)).trans y1
            replace r0 := cell_be t2 r0
            replace r1 := cell_be t2 r1
            have hB2 := bnext hB t2
            have hz2 := t2.size
            replace hB := hB2
            go_wp2_with fail
            refine (l01In_yes _ _ _ _ hk.1 hk.2).mono ?_
            rintro e w2' ⟨rfl, rfl⟩
            have hzz : w.heap.size + 3 ≤ w2.heap.size := by simp at hz; omega
            have hO0 : Hid (Own w2.heap.size ((w2.alloc (.cells #[] 2)).alloc (.cells #[.int .i64 p, .slice (some ⟨w2.heap.size, 0, none⟩) 0 0] 50)) (some ⟨w2.heap.size, 0, none⟩) 0 (tab 0 (fun j => (xs.getD j 0 + k * ys.getD j 0) % p))) := hide (by
              have := World.ownsRow_lit w2 (base := w2.heap.size) (e := 2) (size := 1) #[] 0 (Nat.le_refl _) (by simp) rfl
              exact Own.below (ys := []) this (bl1 _ _))
            have hB0 := bl2 w2 (.cells #[] 2) (.cells #[.int .i64 p, .slice (some ⟨w2.heap.size, 0, none⟩) 0 0] 50)
            go_wp2
            go_loopw [9] (fun iv wr => ∃ (m : Nat) (a' : Option Addr) (c' : Nat), m ≤ n1 ∧ iv = .int .i64 m ∧ Hid (Own w2.heap.size wr a' c' (tab m (fun j => (xs.getD j 0 + k * ys.getD j 0) % p))) ∧ Hid (blk a' ≠ some (w2.heap.size + 1)) ∧
              wr.cell? ⟨w2.heap.size + 1, 0, none⟩ = some (.int .i64 p) ∧ wr.cell? ⟨w2.heap.size + 1, 1, none⟩ = some (.slice a' m c') ∧ wr.frozen? ⟨w2.heap.size + 1, 1, none⟩ = false ∧ Below w2.heap.size w2 wr ∧ w2.heap.size + 2 ≤ wr.heap.size) (fun iv _ => n1 - (intOf iv).toNat)
            case atStart => exact ⟨0, some ⟨w2.heap.size, 0, none⟩, 0, by omega, rfl, hO0, hide (by simp [blk]), by simp [go_sem], by simp [go_sem], by simp [go_sem], hB0, by simp⟩
            case round =>
              obtain ⟨m, a', c', hm, rfl, hO, hne, s0, s1, sf, hbr, hsz⟩ := hrel
              clear hO0 hB0
              replace p0 := cell_be hbr p0
              replace p1 := cell_be hbr p1
              replace q1 := cell_be hbr q1
              replace y0 := (hbr.frozen (World.block_lt_of_cell? _ _ r0)).trans y0
              replace y1 := (hbr.frozen (World.block_lt_of_cell? _ _ r1)).trans y1
              replace r0 := cell_be hbr r0
              replace r1 := cell_be hbr r1
              by_cases hlt : m < n1
              · obtain ⟨b, off, ha1, hbw, hcell⟩ := h1.at (by omega)
                obtain ⟨b', off', ha2, hbw', hcell'⟩ := h2.at (by omega)
                subst ha1 ha2
                have hBr := hB.trans (hbr.mono (by omega))
                have e1 := cell_be hBr (hcell m hlt)
                have e2 := cell_be hBr (hcell' m hlt)
                have hst : Hid (tab (m + 1) (fun j => (xs.getD j 0 + k * ys.getD j 0) % p) = tab m (fun j => (xs.getD j 0 + k * ys.getD j 0) % p) ++ [(xs.getD m 0 + k * ys.getD m 0) % p]) := hide (tab_snoc m (fun j => (xs.getD j 0 + k * ys.getD j 0) % p)).symm
                have x1 := getD_rng Hxa.out hp m
                have x2 := getD_rng Hya.out hp m
                obtain ⟨x, hx⟩ : ∃ x, xs.getD m 0 = x := ⟨_, rfl⟩
                obtain ⟨y, hy⟩ : ∃ y, ys.getD m 0 = y := ⟨_, rfl⟩
                rw [hx] at e1 hst x1
                rw [hy] at e2 hst x2
                obtain ⟨m1, m2⟩ := mulb hk.1 (show k < p by omega) x2.1 x2.2 hp2
                clear hx hy hcell hcell'
                have hlt' : (m : Int) < (n1 : Int) := by omega
                have v3 : IntKind.i64.wrap (k * y) = k * y := IntWalk.i64_in _ (by omega)
                have v4 : IntKind.i64.wrap (x + k * y) = x + k * y := IntWalk.i64_in _ (by omega)
                have v6 : (x + k * y).tmod p = (x + k * y) % p := Int.tmod_eq_emod_of_nonneg (by omega)
                obtain ⟨zs, hzs⟩ : ∃ zs, tab m (fun j => (xs.getD j 0 + k * ys.getD j 0) % p) = zs := ⟨_, rfl⟩
                have hzl := hide (show zs.length = m by rw [← hzs, tab_len])
                rw [hzs] at hO hst
                obtain ⟨v, hv⟩ : ∃ v, (x + k * y) % p = v := ⟨_, rfl⟩
                have v7 := modb (x := x + k * y) hp
                rw [hv] at hst v6 v7
                have v5 : IntKind.i64.wrap v = v := IntWalk.i64_in _ (by omega)
                have hp0 : ¬ p = 0 := by omega
                clear hzs hv
                have s0a : ((wr.alloc (.cells #[.int .i64 v] 2)).drew).cell? ⟨w2.heap.size + 1, 0, none⟩ = some (.int .i64 p) := cell_al s0 (.cells #[.int .i64 v] 2)
                have s1a : ((wr.alloc (.cells #[.int .i64 v] 2)).drew).cell? ⟨w2.heap.size + 1, 1, none⟩ = some (.slice a' m c') := cell_al s1 (.cells #[.int .i64 v] 2)
                have sfa : ((wr.alloc (.cells #[.int .i64 v] 2)).drew).frozen? ⟨w2.heap.size + 1, 1, none⟩ = false := frz_al s1 sf (.cells #[.int .i64 v] 2)
                have hba : Below wr.heap.size wr ((wr.alloc (.cells #[.int .i64 v] 2)).drew) := (bl1 wr _).drew
                have hOa := hide (hO.out.below hba)
                have hcl : ((wr.alloc (.cells #[.int .i64 v] 2)).drew).cell? ⟨wr.heap.size, 0, none⟩ = some (.int .i64 v) := by simp [go_sem]
                clear hO
                have hb2 : Below w2.heap.size w2 ((wr.alloc (.cells #[.int .i64 v] 2)).drew) := (hbr.alloc (by omega) _).drew
                have F : ∀ w', Below wr.heap.size wr w' → w'.cell? ⟨w.heap.size, 0, none⟩ = some (.int .i64 p) ∧ w'.cell? ⟨w.heap.size, 1, none⟩ = some (.slice (some ⟨b, off, none⟩) n1 c1) ∧ w'.cell? ⟨w.heap.size + 1, 1, none⟩ = some (.slice (some ⟨b', off', none⟩) n1 c2) ∧ w'.cell? ⟨b, off + m, none⟩ = some (.int .i64 x) ∧ w'.cell? ⟨b', off' + m, none⟩ = some (.int .i64 y) := fun w' hb => ⟨cell_be hb p0, cell_be hb p1, cell_be hb q1, cell_be hb e1, cell_be hb e2⟩
                have hbd := (Below.refl wr.heap.size wr).drew
                have hm0 : (0 : Int) ≤ (m : Int) := by omega
                go_wp2
                go_upto_region 9 with fail
                refine region_E (fun w' => w'.cell? ⟨w.heap.size, 0, none⟩ = some (.int .i64 p) ∧ w'.cell? ⟨w.heap.size, 1, none⟩ = some (.slice (some ⟨b, off, none⟩) n1 c1) ∧ w'.cell? ⟨w.heap.size + 1, 1, none⟩ = some (.slice (some ⟨b', off', none⟩) n1 c2) ∧ w'.cell? ⟨b, off + m, none⟩ = some (.int .i64 x) ∧ w'.cell? ⟨b', off' + m, none⟩ = some (.int .i64 y) ∧ w'.cell? ⟨w2.heap.size + 1, 1, none⟩ = some (.slice a' m c')) 21 (by kernel_rfl) ?_ ?_
                · have F0 := F _ hbd
                  exact ⟨F0.1, F0.2.1, F0.2.2.1, F0.2.2.2.1, F0.2.2.2.2, cell_be hbd s1⟩
                intro hS
                refine anyE_takeL 0 rfl (by kernel_rfl) (fun _ _ _ h => h) hS (by rfl) (v := ?_) ?_ ?_
                rotate_left
                · intro w' hSw; (try dsimp only at hSw); go_simp; (try with_reducible rfl)
                try simp only [Act.put, List.setIfInBounds_toArray, List.set_cons_zero, List.set_cons_succ]
                refine anyE_takeL 1 rfl (by kernel_rfl) (fun _ _ _ h => h) hS (by rfl) (v := ?_) ?_ ?_
                rotate_left
                · intro w' hSw; (try dsimp only at hSw); go_simp; (try with_reducible rfl)
                try simp only [Act.put, List.setIfInBounds_toArray, List.set_cons_zero, List.set_cons_succ]
                refine anyE_takeL 2 rfl (by kernel_rfl) (fun _ _ _ h => h) hS (by rfl) (v := ?_) ?_ ?_
                rotate_left
                · intro w' hSw; (try dsimp only at hSw); go_simp; (try with_reducible rfl)
                try simp only [Act.put, List.setIfInBounds_toArray, List.set_cons_zero, List.set_cons_succ]
                refine anyE_takeL 3 rfl (by kernel_rfl) (fun _ _ _ h => h) hS (by rfl) (v := ?_) ?_ ?_
                rotate_left
                · intro w' hSw; (try dsimp only at hSw); go_simp; (try with_reducible rfl)
                try simp only [Act.put, List.setIfInBounds_toArray, List.set_cons_zero, List.set_cons_succ]
                refine anyE_takeL 4 rfl (by kernel_rfl) (fun _ _ _ h => h) hS (by rfl) (v := ?_) ?_ ?_
                rotate_left
                · intro w' hSw; (try dsimp only at hSw); go_simp; (try with_reducible rfl)
                try simp only [Act.put, List.setIfInBounds_toArray, List.set_cons_zero, List.set_cons_succ]
                refine anyE_takeL 5 rfl (by kernel_rfl) (fun _ _ _ h => h) hS (by rfl) (v := ?_) ?_ ?_
                rotate_left
                · intro w' hSw; (try dsimp only at hSw); go_simp; (try with_reducible rfl)
                try simp only [Act.put, List.setIfInBounds_toArray, List.set_cons_zero, List.set_cons_succ]
                refine anyE_takeL 6 rfl (by kernel_rfl) (fun _ _ _ h => h) hS (by rfl) (v := ?_) ?_ ?_
                rotate_left
                · intro w' hSw; (try dsimp only at hSw); go_simp; (try with_reducible rfl)
                try simp only [Act.put, List.setIfInBounds_toArray, List.set_cons_zero, List.set_cons_succ]
                refine anyE_takeL 7 rfl (by kernel_rfl) (fun _ _ _ h => h) hS (by rfl) (v := ?_) ?_ ?_
                rotate_left
                · intro w' hSw; (try dsimp only at hSw); go_simp; (try with_reducible rfl)
                try simp only [Act.put, List.setIfInBounds_toArray, List.set_cons_zero, List.set_cons_succ]
                refine anyE_takeL 8 rfl (by kernel_rfl) (fun _ _ _ h => h) hS (by rfl) (v := ?_) ?_ ?_
                rotate_left
                · intro w' hSw; (try dsimp only at hSw); go_simp; (try with_reducible rfl)
                try simp only [Act.put, List.setIfInBounds_toArray, List.set_cons_zero, List.set_cons_succ]
                refine anyE_takeL 9 rfl (by kernel_rfl) (fun _ _ _ h => h) hS (by rfl) (v := ?_) ?_ ?_
                rotate_left
                · intro w' hSw; (try dsimp only at hSw); go_simp; (try with_reducible rfl)
                try simp only [Act.put, List.setIfInBounds_toArray, List.set_cons_zero, List.set_cons_succ]
                refine anyE_takeL 10 rfl (by kernel_rfl) (fun _ _ _ h => h) hS (by rfl) (v := ?_) ?_ ?_
                rotate_left
                · intro w' hSw; (try dsimp only at hSw); go_simp; (try with_reducible rfl)
                try simp only [Act.put, List.setIfInBounds_toArray, List.set_cons_zero, List.set_cons_succ]
                refine anyE_takeL 11 rfl (by kernel_rfl) (fun _ _ _ h => h) hS (by rfl) (v := ?_) ?_ ?_
                rotate_left
                · intro w' hSw; (try dsimp only at hSw); go_simp; (try with_reducible rfl)
                try simp only [Act.put, List.setIfInBounds_toArray, List.set_cons_zero, List.set_cons_succ]
                refine anyE_takeL 12 rfl (by kernel_rfl) (fun _ _ _ h => h) hS (by rfl) (v := ?_) ?_ ?_
                rotate_left
                · intro w' hSw; (try dsimp only at hSw); go_simp; (try with_reducible rfl)
                try simp only [Act.put, List.setIfInBounds_toArray, List.set_cons_zero, List.set_cons_succ]
                refine anyE_takeL 13 rfl (by kernel_rfl) (fun _ _ _ h => h) hS (by rfl) (v := ?_) ?_ ?_
                rotate_left
                · intro w' hSw; (try dsimp only at hSw); go_simp; (try with_reducible rfl)
                try simp only [Act.put, List.setIfInBounds_toArray, List.set_cons_zero, List.set_cons_succ]
                refine anyE_takeL 14 rfl (by kernel_rfl) (fun _ _ _ h => h) hS (by rfl) (v := ?_) ?_ ?_
                rotate_left
                · intro w' hSw; (try dsimp only at hSw); go_simp; (try with_reducible rfl)
                try simp only [Act.put, List.setIfInBounds_toArray, List.set_cons_zero, List.set_cons_succ]
                refine anyE_takeL 15 rfl (by kernel_rfl) (fun _ _ _ h => h) hS (by rfl) (v := ?_) ?_ ?_
                rotate_left
                · intro w' hSw; (try dsimp only at hSw); go_simp; (try with_reducible rfl)
                try simp only [Act.put, List.setIfInBounds_toArray, List.set_cons_zero, List.set_cons_succ]
                refine anyE_takeL 16 rfl (by kernel_rfl) (fun _ _ _ h => h) hS (by rfl) (v := ?_) ?_ ?_
                rotate_left
                · intro w' hSw; (try dsimp only at hSw); go_simp; (try with_reducible rfl)
                try simp only [Act.put, List.setIfInBounds_toArray, List.set_cons_zero, List.set_cons_succ]
                refine anyE_takeL 17 rfl (by kernel_rfl) (fun _ _ _ h => h) hS (by rfl) (v := ?_) ?_ ?_
                rotate_left
                · intro w' hSw; (try dsimp only at hSw); go_simp; (try with_reducible rfl)
                try simp only [Act.put, List.setIfInBounds_toArray, List.set_cons_zero, List.set_cons_succ]
                clear hS
                refine anyE_oneL 18 (by kernel_rfl) rfl (fun K hK => ?_)
                go_simp
                have S0 := F _ hba
                have S1 := And.intro S0.1 (And.intro S0.2.1 (And.intro S0.2.2.1 (And.intro S0.2.2.2.1 (And.intro S0.2.2.2.2 s1a))))
                refine hK.out _ _ S1 ?_
                clear hK K
                try simp only [Act.put, List.setIfInBounds_toArray, List.set_cons_zero, List.set_cons_succ]
                refine anyE_oneL 19 (by kernel_rfl) rfl (fun K hK => ?_)
                refine step_app1 (by rfl) _ _ (by rfl) w2.heap.size _ _ _ zs (by rfl) hzl.out.symm hOa.out _ _ v (by rfl) hcl (by omega) (by simp; omega) ?_
                intro ad' cap' w' hown' hgr hloc
                have s0' := cell_ne hgr s0a hne.out
                have s1' := cell_ne hgr s1a hne.out
                have sf' := frz_ne hgr s1a sfa hne.out
                have hge := own_blk_ge hOa.out
                have S2 := And.intro (cell_ne hgr S0.1 (fun e => by have := hge _ e; omega)) (And.intro (cell_ne hgr S0.2.1 (fun e => by have := hge _ e; omega)) (And.intro (cell_ne hgr S0.2.2.1 (fun e => by have := hge _ e; omega)) (And.intro (cell_ne hgr S0.2.2.2.1 (fun e => by have := hge _ e; omega)) (And.intro (cell_ne hgr S0.2.2.2.2 (fun e => by have := hge _ e; omega)) s1'))))
                refine hK.out _ _ S2 ?_
                clear hK K
                try simp only [Act.put, List.setIfInBounds_toArray, List.set_cons_zero, List.set_cons_succ]
                refine anyE_takeL 20 rfl (by kernel_rfl) (fun _ _ _ h => h) S2 (by rfl) (v := ?_) ?_ ?_
                rotate_left
                · intro w' hSw; (try dsimp only at hSw); go_simp; (try with_reducible rfl)
                try simp only [Act.put, List.setIfInBounds_toArray, List.set_cons_zero, List.set_cons_succ]
                clear S0 S1 S2
                refine anyE_lastL (by kernel_rfl) rfl (by kernel_rfl) (fun K hK => ?_)
                go_simp
                refine hK.out _ _ ?_
                clear hK K
                try simp only [Act.put, List.setIfInBounds_toArray, List.set_cons_zero, List.set_cons_succ]
                all_goals
                  have hbn := hb2.grown hgr (by simp; omega) (own_blk_ge hOa.out)
                  have hn2 := hide (show blk ad' ≠ some (w2.heap.size + 1) from by
                    rcases hloc with h | h <;> rw [h]
                    · exact hne.out
                    · simp; omega)
                  have hzl2 := hide (show (zs ++ [v]).length = m + 1 by simp [hzl.out])
                  have hgs := hgr.size
                  go_wp2
                  go_roundw
                  case rel => exact ⟨m + 1, ad', cap', by omega, by go_num, by rw [hst.out]; exact hide (hown'.otherG hn2.out _), hn2, cell_set2' s0' (by simp) _, by rw [show m + 1 = zs.length + 1 by rw [hzl.out]]; exact World.cell?_setCell_same _ _ _ s1', by simpa using sf', hbn.setCell (by simp) _, by simp at hgs ⊢; omega⟩
                  case measure => simp [intOf]; omega
              · have hmn : Hid (m = n1) := hide (by omega)
                have hge : (n1 : Int) ≤ (m : Int) := by omega
                have hfull : Hid (tab m (fun j => (xs.getD j 0 + k * ys.getD j 0) % p) = addlM p k xs ys) := hide (by rw [hmn.out]; unfold addlM; rw [hl1.out])
                have hBr := hB.trans (hbr.mono (by omega))
                have ho := hide hO.out
                rw [hfull.out] at ho
                clear hO
                go_wp2
                refine bodyPost_ret (v := .tuple #[mom p a' m c', .int .i64 0]) (by simp [results, Try.results45, go_sem, r0, r1]) rfl ?_
                exact ResM.own HQ.out HC.out (by rw [HV.out, addlM_len, hl1.out, hmn.out]) (by rw [HV.out]; exact ((ho.out.setLow (by simp <;> omega) _).setLow (by simp <;> omega) _).mono (by omega)) (by rw [HV.out, addlM_len, hl1.out]; omega) ((hBr.setCell (by simp <;> omega) _).setCell (by simp <;> omega) _)
          · have Hk := hide hk
            have HC := hide (show adC p xs p ys k = 2 by simp only [adC, hm1, hm2, Bool.and_self, if_true]; rw [if_neg (by omega)])
            have HV := hide (show adV p xs p ys k = [] by simp [adV, HC.out])
            have HQ := hide (show adP p xs p ys k = 0 by simp [adP, HC.out])
            clear hm1 hm2 hk
            go_enter Try.func45, Try.ntmps45
            go_wp2_with fail
            refine (l02Are_any _ _ _ _ _ _ g1 b1).mono ?_
            rintro e w1 ⟨rfl, t1⟩
            rw [Hm1.out]
            have p0 : w1.cell? ⟨w.heap.size, 0, none⟩ = some (.int .i64 p) := cell_be t1 (by simp [go_sem])
            have p1 : w1.cell? ⟨w.heap.size, 1, none⟩ = some (.slice a1 n1 c1) := cell_be t1 (by simp [go_sem])
            have q0 : w1.cell? ⟨w.heap.size + 1, 0, none⟩ = some (.int .i64 p) := cell_be t1 (by simp [go_sem])
            have q1 : w1.cell? ⟨w.heap.size + 1, 1, none⟩ = some (.slice a2 n1 c2) := cell_be t1 (by simp [go_sem])
            have r0 : w1.cell? ⟨w.heap.size + 1 + 1, 0, none⟩ = some (.int .i64 0) := cell_be t1 (by simp [go_sem])
            have r1 : w1.cell? ⟨w.heap.size + 1 + 1, 1, none⟩ = some (.slice none 0 0) := cell_be t1 (by simp [go_sem])
            have y0 : w1.frozen? ⟨w.heap.size + 1 + 1, 0, none⟩ = false := (t1.frozen (by simp)).trans (by simp [go_sem])
            have y1 : w1.frozen? ⟨w.heap.size + 1 + 1, 1, none⟩ = false := (t1.frozen (by simp)).trans (by simp [go_sem])
            have hB := bnext hb0 t1
            have hz := t1.size
            go_wp2_with fail
            refine (l02Are_any _ _ _ _ _ _ (g2.below t1) b2).mono ?_
            rintro e w2 ⟨rfl, t2⟩
            rw [Hm2.out]
            replace p0 := cell_be t2 p0
            replace p1 := cell_be t2 p1
            replace q0 := cell_be t2 q0
            replace q1 := cell_be t2 q1
            replace y0 := (t2.frozen (World.block_lt_of_cell? _ _ r0)).trans y0
            replace y1 := (t2.frozen (World.block_lt_of_cell? _ _ r1)).trans y1
            replace r0 := cell_be t2 r0
            replace r1 := cell_be t2 r1
            have hB2 := bnext hB t2
            have hz2 := t2.size
            replace hB := hB2
            go_wp2_with fail
            refine (l01In_no _ _ _ _ Hk.out).mono ?_
            rintro e w2' ⟨rfl, rfl⟩
            go_wp2
            refine bodyPost_ret (v := .tuple #[mom 0 none 0 0, .int .i64 2]) (by simp [results, Try.results45, go_sem, r0, r1]) rfl ?_
            exact ResM.nil HQ.out HV.out HC.out ((hB.setCell (by simp <;> omega) _).setCell (by simp <;> omega) _)
        · have HC := hide (show adC p xs p ys k = 2 by simp only [adC, hm1, hm2, Bool.and_self, if_true]; rw [if_neg (by rw [hl1.out, hl2.out]; omega)])
          have HV := hide (show adV p xs p ys k = [] by simp [adV, HC.out])
          have HQ := hide (show adP p xs p ys k = 0 by simp [adP, HC.out])
          clear hm1 hm2
          go_enter Try.func45, Try.ntmps45
          go_wp2_with fail
          refine (l02Are_any _ _ _ _ _ _ g1 b1).mono ?_
          rintro e w1 ⟨rfl, t1⟩
          rw [Hm1.out]
          have p0 : w1.cell? ⟨w.heap.size, 0, none⟩ = some (.int .i64 p) := cell_be t1 (by simp [go_sem])
          have p1 : w1.cell? ⟨w.heap.size, 1, none⟩ = some (.slice a1 n1 c1) := cell_be t1 (by simp [go_sem])
          have q0 : w1.cell? ⟨w.heap.size + 1, 0, none⟩ = some (.int .i64 p) := cell_be t1 (by simp [go_sem])
          have q1 : w1.cell? ⟨w.heap.size + 1, 1, none⟩ = some (.slice a2 n2 c2) := cell_be t1 (by simp [go_sem])
          have r0 : w1.cell? ⟨w.heap.size + 1 + 1, 0, none⟩ = some (.int .i64 0) := cell_be t1 (by simp [go_sem])
          have r1 : w1.cell? ⟨w.heap.size + 1 + 1, 1, none⟩ = some (.slice none 0 0) := cell_be t1 (by simp [go_sem])
          have y0 : w1.frozen? ⟨w.heap.size + 1 + 1, 0, none⟩ = false := (t1.frozen (by simp)).trans (by simp [go_sem])
          have y1 : w1.frozen? ⟨w.heap.size + 1 + 1, 1, none⟩ = false := (t1.frozen (by simp)).trans (by simp [go_sem])
          have hB := bnext hb0 t1
          have hz := t1.size
          go_wp2_with fail
          refine (l02Are_any _ _ _ _ _ _ (g2.below t1) b2).mono ?_
          rintro e w2 ⟨rfl, t2⟩
          rw [Hm2.out]
          replace p0 := cell_be t2 p0
          replace p1 := cell_be t2 p1
          replace q0 := cell_be t2 q0
          replace q1 := cell_be t2 q1
          replace y0 := (t2.frozen (World.block_lt_of_cell? _ _ r0)).trans y0
          replace y1 := (t2.frozen (World.block_lt_of_cell? _ _ r1)).trans y1
          replace r0 := cell_be t2 r0
          replace r1 := cell_be t2 r1
          have hB2 := bnext hB t2
          have hz2 := t2.size
          replace hB := hB2
          go_wp2
          refine bodyPost_ret (v := .tuple #[mom 0 none 0 0, .int .i64 2]) (by simp [results, Try.results45, go_sem, r0, r1]) rfl ?_
          exact ResM.nil HQ.out HV.out HC.out ((hB.setCell (by simp <;> omega) _).setCell (by simp <;> omega) _)
      · have HC := hide (show adC p xs q ys k = 2 by simp only [adC, hm1, hm2, Bool.and_self, if_true]; rw [if_neg (fun h => hpq h.1)])
        have HV := hide (show adV p xs q ys k = [] by simp [adV, HC.out])
        have HQ := hide (show adP p xs q ys k = 0 by simp [adP, HC.out])
        clear hm1 hm2
        go_enter Try.func45, Try.ntmps45
        go_wp2_with fail
        refine (l02Are_any _ _ _ _ _ _ g1 b1).mono ?_
        rintro e w1 ⟨rfl, t1⟩
        rw [Hm1.out]
        have p0 : w1.cell? ⟨w.heap.size, 0, none⟩ = some (.int .i64 p) := cell_be t1 (by simp [go_sem])
        have p1 : w1.cell? ⟨w.heap.size, 1, none⟩ = some (.slice a1 n1 c1) := cell_be t1 (by simp [go_sem])
        have q0 : w1.cell? ⟨w.heap.size + 1, 0, none⟩ = some (.int .i64 q) := cell_be t1 (by simp [go_sem])
        have q1 : w1.cell? ⟨w.heap.size + 1, 1, none⟩ = some (.slice a2 n2 c2) := cell_be t1 (by simp [go_sem])
        have r0 : w1.cell? ⟨w.heap.size + 1 + 1, 0, none⟩ = some (.int .i64 0) := cell_be t1 (by simp [go_sem])
        have r1 : w1.cell? ⟨w.heap.size + 1 + 1, 1, none⟩ = some (.slice none 0 0) := cell_be t1 (by simp [go_sem])
        have y0 : w1.frozen? ⟨w.heap.size + 1 + 1, 0, none⟩ = false := (t1.frozen (by simp)).trans (by simp [go_sem])
        have y1 : w1.frozen? ⟨w.heap.size + 1 + 1, 1, none⟩ = false := (t1.frozen (by simp)).trans (by simp [go_sem])
        have hB := bnext hb0 t1
        have hz := t1.size
        go_wp2_with fail
        refine (l02Are_any _ _ _ _ _ _ (g2.below t1) b2).mono ?_
        rintro e w2 ⟨rfl, t2⟩
        rw [Hm2.out]
        replace p0 := cell_be t2 p0
        replace p1 := cell_be t2 p1
        replace q0 := cell_be t2 q0
        replace q1 := cell_be t2 q1
        replace y0 := (t2.frozen (World.block_lt_of_cell? _ _ r0)).trans y0
        replace y1 := (t2.frozen (World.block_lt_of_cell? _ _ r1)).trans y1
        replace r0 := cell_be t2 r0
        replace r1 := cell_be t2 r1
        have hB2 := bnext hB t2
        have hz2 := t2.size
        replace hB := hB2
        go_wp2
        refine bodyPost_ret (v := .tuple #[mom 0 none 0 0, .int .i64 2]) (by simp [results, Try.results45, go_sem, r0, r1]) rfl ?_
        exact ResM.nil HQ.out HV.out HC.out ((hB.setCell (by simp <;> omega) _).setCell (by simp <;> omega) _)
end Go.Proofs.Ytjilggjldnlkpaa
