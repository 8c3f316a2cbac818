/- Merged texts. -/
import Derived.Test.YtdjifjlgllohmaaDoorYDS27
import Derived.Test.YtdjifjlgllohmaaDoorYDS21
/- Contract: longerData of the program, where it answers. -/
namespace Go.Proofs.YtdjifjlgllohmaaDoor
open Go.RowKit
set_option linter.unusedVariables false
set_option linter.unusedSimpArgs false

set_option maxRecDepth 100000 in
set_option maxHeartbeats 3200000 in
theorem longer_ok (p : Int) (a2 : Option Addr) (n2 c2 : Nat) (xs : List Int) (k : Nat) (a : Option Addr) (c : Nat) (b : Option Addr) (d : Nat) (a1 : Option Addr) (c1 : Nat) (B : Nat) (w : World) (h2 : SL w a2 n2 c2 xs) (hf : SL w a1 (k + 1) c1 (opL p xs k)) (hP : primeB p = true) (hx : areB p xs = true) (b2 : n2 ≤ 24) (hk : k ≤ 12) (hN : Nxt p xs k) (hT : Told p xs k) (ha : Own B w a c (jdL p xs k).1) (hb : Own B w b d (jdL p xs k).2) (hne : ∀ g, blk a = some g → blk b ≠ some g) (hB : B ≤ w.heap.size) :
    Calls Tryd.prog 96 #[mom p a2 n2 c2, jac p a k c b k d, .slice a1 (k + 1) c1] w fun e w' => ∃ a' c' b' d', e = .returned (jac p a' (k + 1) c' b' (k + 1) d') ∧ (Own B w' a' c' (jdL p xs (k + 1)).1 ∧ Own B w' b' d' (jdL p xs (k + 1)).2) ∧
      (∀ g, blk a' = some g → blk b' ≠ some g) ∧ ((blk a' = blk a ∨ ∀ g, blk a' = some g → w.heap.size ≤ g) ∧ (blk b' = blk b ∨ ∀ g, blk b' = some g → w.heap.size ≤ g)) ∧ Agr (fun g => blk a ≠ some g ∧ blk b ≠ some g) w w' := by
  have hX0 := hN.1
  have hz := hide hN.2
  clear hN
  rw [h2.len] at hX0
  have hlow := hide (show (∀ g, blk a = some g → g < w.heap.size) ∧ (∀ g, blk b = some g → g < w.heap.size) from ⟨own_ltO ha, own_ltO hb⟩)
  have hT1 := hide hT
  have hjl := jdL_len p xs k
  have hja := jdL_are (primeB_lo hP).1 xs k
  have hpn := hide (prB_nz hP xs hT)
  have rB := prB_rng (primeB_lo hP).1 (jdL p xs k).2
  have hA1 := hide (show (jdL p xs (k + 1)).1 = (jdL p xs k).1 ++ [opA p xs k] from rfl)
  have hA2 := hide (show (jdL p xs (k + 1)).2 = (jdL p xs k).2 ++ [opB p xs k] from rfl)
  have hAo := hide (show opA p xs k = dotK p (mulM p (opL p xs k) (opL p xs k)) xs 1 (mulM p (opL p xs k) (opL p xs k)).length * invM p (opH p xs k) % p from rfl)
  have hBo := hide (show opB p xs k = opH p xs k * invM p (prB p (jdL p xs k).2) % p from rfl)
  obtain ⟨al, hal⟩ : ∃ al, (jdL p xs k).1 = al := ⟨_, rfl⟩
  obtain ⟨be, hbe⟩ : ∃ be, (jdL p xs k).2 = be := ⟨_, rfl⟩
  rw [hal] at ha hjl hja hA1
  rw [hbe] at hb hjl hja hpn rB hA2 hBo
  clear hal hbe
  obtain ⟨l1, l2⟩ := hjl
  replace l1 := hide l1
  replace l2 := hide l2
  have rA : 0 ≤ opA p xs k ∧ opA p xs k < p := modb (primeB_lo hP).1
  have rBo : 0 ≤ opB p xs k ∧ opB p xs k < p := modb (primeB_lo hP).1
  obtain ⟨hp, hp2⟩ := primeB_lo hP
  have hlx := hide h2.len
  have hsm := opL_small hp xs k (by omega)
  have hfa := hsm.are
  have hfl := (opL_len hp xs k (by omega)).1
  have hsq := hide (sq_len (p := p) hfl)
  have hsa := mulM_areB (p := p) hp (opL p xs k) (opL p xs k)
  have hb0 := bl3 w (.cells #[.int .i64 p, .slice a2 n2 c2] 30) (.cells #[.int .i64 p, .slice a k c, .slice b k d] 27) (.cells #[.int .i64 0, .slice none 0 0, .slice none 0 0] 27)
  replace h2 := h2.below hb0
  replace hf := hf.below hb0
  clear hsm hfl
  go_enter Tryd.func96, Tryd.ntmps96
  go_wp2_with fail
  refine (multiply_any _ _ _ _ _ _ _ _ _ _ hf hf (by omega) (by omega) hp hp2 hfa hfa).mono ?_
  rintro e w1 ⟨aq, cq, rfl, oq, hb1⟩
  have m0 : w1.cell? ⟨w.heap.size, 0, none⟩ = some (.int .i64 p) := cell_be hb1 (by simp [go_sem])
  have m1 : w1.cell? ⟨w.heap.size, 1, none⟩ = some (.slice a2 n2 c2) := cell_be hb1 (by simp [go_sem])
  have m2 : w1.cell? ⟨w.heap.size + 1, 0, none⟩ = some (.int .i64 p) := cell_be hb1 (by simp [go_sem])
  have m3 : w1.cell? ⟨w.heap.size + 1, 1, none⟩ = some (.slice a k c) := cell_be hb1 (by simp [go_sem])
  have m4 : w1.cell? ⟨w.heap.size + 1, 2, none⟩ = some (.slice b k d) := cell_be hb1 (by simp [go_sem])
  have r0 : w1.cell? ⟨w.heap.size + 1 + 1, 0, none⟩ = some (.int .i64 0) := cell_be hb1 (by simp [go_sem])
  have y0 : w1.frozen? ⟨w.heap.size + 1 + 1, 0, none⟩ = false := (hb1.frozen (by simp)).trans (by simp [go_sem])
  have r1 : w1.cell? ⟨w.heap.size + 1 + 1, 1, none⟩ = some (.slice none 0 0) := cell_be hb1 (by simp [go_sem])
  have y1 : w1.frozen? ⟨w.heap.size + 1 + 1, 1, none⟩ = false := (hb1.frozen (by simp)).trans (by simp [go_sem])
  have r2 : w1.cell? ⟨w.heap.size + 1 + 1, 2, none⟩ = some (.slice none 0 0) := cell_be hb1 (by simp [go_sem])
  have y2 : w1.frozen? ⟨w.heap.size + 1 + 1, 2, none⟩ = false := (hb1.frozen (by simp)).trans (by simp [go_sem])
  have z1 : w.heap.size + 3 ≤ w1.heap.size := by have := hb1.size; simp at this; omega
  replace h2 := h2.below hb1
  have hB1 := bnext hb0 hb1
  replace ha := (ha.below hb0).below hb1
  replace hb := (hb.below hb0).below hb1
  clear hb1 hf
  have hB0 : B ≤ w1.heap.size := by omega
  go_wp2_with fail
  refine (apply_ok _ _ _ _ _ _ _ _ _ _ h2 oq.sl (by have := hsq.out; omega) (by omega) (by have := hsq.out; omega) hp hp2 hsa hx).mono ?_
  rintro e w2 ⟨rfl, hb2⟩
  have eH : dotK p (mulM p (opL p xs k) (opL p xs k)) xs 0 (mulM p (opL p xs k) (opL p xs k)).length = opH p xs k := rfl
  rw [eH]
  clear eH
  replace m0 := cell_be hb2 m0
  replace m1 := cell_be hb2 m1
  replace m2 := cell_be hb2 m2
  replace m3 := cell_be hb2 m3
  replace m4 := cell_be hb2 m4
  replace y0 := (hb2.frozen (by simp <;> omega)).trans y0
  replace r0 := cell_be hb2 r0
  replace y1 := (hb2.frozen (by simp <;> omega)).trans y1
  replace r1 := cell_be hb2 r1
  replace y2 := (hb2.frozen (by simp <;> omega)).trans y2
  replace r2 := cell_be hb2 r2
  have z2 := hb2.size
  replace h2 := h2.below hb2
  replace oq := oq.below hb2
  have hB2 := bnext hB1 hb2
  replace ha := ha.below hb2
  replace hb := hb.below hb2
  clear hb2 hB1
  have hX := hide (mulX_dot hp (mulM p (opL p xs k) (opL p xs k)) xs (by have := hsq.out; omega))
  have rX := dotK_rng hp (mulM p (opL p xs k) (opL p xs k)) xs 1 (mulM p (opL p xs k) (opL p xs k)).length
  have rH := opH_rng hp xs k
  go_upto_region 4 with fail
  have hm := (Below.refl w2.heap.size w2).drew
  have F : ∀ w', Below w2.heap.size w2 w' → w'.cell? ⟨w.heap.size, 0, none⟩ = some (.int .i64 p) ∧ w'.cell? ⟨w.heap.size, 1, none⟩ = some (.slice a2 n2 c2) ∧ w'.cell? ⟨w.heap.size + 1, 0, none⟩ = some (.int .i64 p) ∧ w'.cell? ⟨w.heap.size + 1, 1, none⟩ = some (.slice a k c) ∧ w'.cell? ⟨w.heap.size + 1, 2, none⟩ = some (.slice b k d) := fun w' hb => ⟨cell_be hb m0, cell_be hb m1, cell_be hb m2, cell_be hb m3, cell_be hb m4⟩
  go_cut [10] (fun s10 wy => s10 = .int .i64 (opA p xs k) ∧ Hid (Below w2.heap.size w2 wy))
  case first =>
    refine region_E (fun w' => w'.cell? ⟨w.heap.size, 0, none⟩ = some (.int .i64 p) ∧ w'.cell? ⟨w.heap.size, 1, none⟩ = some (.slice a2 n2 c2) ∧ w'.cell? ⟨w.heap.size + 1, 0, none⟩ = some (.int .i64 p) ∧ w'.cell? ⟨w.heap.size + 1, 1, none⟩ = some (.slice a k c) ∧ w'.cell? ⟨w.heap.size + 1, 2, none⟩ = some (.slice b k d)) 99 (by kernel_rfl) (F _ hm) ?_
    intro hS
    refine anyE_takeH 0 rfl (by kernel_rfl) (fun _ _ _ h => h) hS (by rfl) (v := ?_) ?_ ?_
    rotate_left
    · intro w' hSw; (try dsimp only at hSw); go_simp; (try with_reducible rfl)
    try simp only [Act.put, List.setIfInBounds_toArray, List.set_cons_zero, List.set_cons_succ]
    refine anyE_takeH 1 rfl (by kernel_rfl) (fun _ _ _ h => h) hS (by rfl) (v := ?_) ?_ ?_
    rotate_left
    · intro w' hSw; (try dsimp only at hSw); go_simp; (try with_reducible rfl)
    try simp only [Act.put, List.setIfInBounds_toArray, List.set_cons_zero, List.set_cons_succ]
    refine anyE_takeH 2 rfl (by kernel_rfl) (fun _ _ _ h => h) hS (by rfl) (v := ?_) ?_ ?_
    rotate_left
    · intro w' hSw; (try dsimp only at hSw); go_simp; (try with_reducible rfl)
    try simp only [Act.put, List.setIfInBounds_toArray, List.set_cons_zero, List.set_cons_succ]
    refine anyE_takeH 4 rfl (by kernel_rfl) (fun _ _ _ h => h) hS (by rfl) (v := ?_) ?_ ?_
    rotate_left
    · intro w' hSw; (try dsimp only at hSw); go_simp; (try with_reducible rfl)
    try simp only [Act.put, List.setIfInBounds_toArray, List.set_cons_zero, List.set_cons_succ]
    refine anyE_takeH 7 rfl (by kernel_rfl) (fun _ _ _ h => h) hS (by rfl) (v := ?_) ?_ ?_
    rotate_left
    · intro w' hSw; (try dsimp only at hSw); go_simp; (try with_reducible rfl)
    try simp only [Act.put, List.setIfInBounds_toArray, List.set_cons_zero, List.set_cons_succ]
    clear hS
    obtain ⟨u0, hu0⟩ : ∃ u, u = w2.drew := ⟨_, rfl⟩
    rw [← hu0] at hm ⊢
    clear hu0
    refine anyE_oneL 3 (by kernel_rfl) rfl (fun K' hK' => ?_)
    go_simp
    obtain ⟨u1, hu⟩ : ∃ u, u = u0.alloc (.cells #[.int .i64 0, .int .i64 1] 2) := ⟨_, rfl⟩
    have lx : Below u0.heap.size u0 u1 := by rw [hu]; exact bl1 _ _
    have lA : SL u1 (some ⟨u0.heap.size, 0, none⟩) 2 2 [0, 1] := by rw [hu]; exact litSL2 _ 0 1
    rw [← hu]
    clear hu
    replace hm := bnext hm lx
    refine hK'.out _ _ (F _ hm) ?_
    clear hK' K'
    try simp only [Act.put, List.setIfInBounds_toArray, List.set_cons_zero, List.set_cons_succ]
    refine anyE_oneL 5 (by kernel_rfl) rfl (fun K' hK' => ?_)
    go_simp
    refine (multiply_any _ _ _ _ _ _ _ _ _ _ lA (oq.sl.below hm) (by omega) (by have := hsq.out; omega) hp hp2 (by simp [areB, okN]; omega) hsa).mono ?_
    rintro e u2 ⟨ax, cx, rfl, ox, lx2⟩
    dsimp only
    replace hm := bnext hm lx2
    refine hK'.out _ _ (F _ hm) ?_
    clear hK' K'
    try simp only [Act.put, List.setIfInBounds_toArray, List.set_cons_zero, List.set_cons_succ]
    refine anyE_oneL 6 (by kernel_rfl) rfl (fun K' hK' => ?_)
    go_simp
    refine (apply_ok _ _ _ _ _ _ _ _ _ _ (h2.below hm) ox.sl (by have := hX.out.1; have := hsq.out; omega) (by omega) (by have := hX.out.1; have := hsq.out; omega) hp hp2 (mulM_areB hp _ _) hx).mono ?_
    rintro e u3 ⟨rfl, lx3⟩
    dsimp only
    rw [hX.out.2]
    replace hm := bnext hm lx3
    refine hK'.out _ _ (F _ hm) ?_
    clear hK' K'
    try simp only [Act.put, List.setIfInBounds_toArray, List.set_cons_zero, List.set_cons_succ]
    refine anyE_oneL 8 (by kernel_rfl) rfl (fun K' hK' => ?_)
    go_simp
    refine (divn_ok _ _ _ _ hp hp2 rX.1 rX.2 rH.1 rH.2 hz.out).mono ?_
    rintro e u4 ⟨rfl, lx4⟩
    dsimp only
    replace hm := bnext hm lx4
    refine hK'.out _ _ (F _ hm) ?_
    clear hK' K'
    try simp only [Act.put, List.setIfInBounds_toArray, List.set_cons_zero, List.set_cons_succ]
    refine anyE_oneL 9 (by kernel_rfl) rfl (fun K' hK' => ?_)
    go_simp
    refine hK'.out _ _ (F _ hm) ?_
    clear hK' K'
    try simp only [Act.put, List.setIfInBounds_toArray, List.set_cons_zero, List.set_cons_succ]
    refine anyE_doneL (by kernel_rfl) ?_
    go_wp2_with fail
    go_meet
    exact ⟨by rw [hAo.out], hide hm⟩
  case rest =>
  obtain ⟨rfl, hcb⟩ := hcut
  have hB3c := hcb.out
  clear hcb
  replace m0 := (F _ hB3c).1
  replace m1 := (F _ hB3c).2.1
  replace m2 := (F _ hB3c).2.2.1
  replace m3 := (F _ hB3c).2.2.2.1
  replace m4 := (F _ hB3c).2.2.2.2
  clear F
  replace y0 := (hB3c.frozen (by simp <;> omega)).trans y0
  replace r0 := cell_be hB3c r0
  replace y1 := (hB3c.frozen (by simp <;> omega)).trans y1
  replace r1 := cell_be hB3c r1
  replace y2 := (hB3c.frozen (by simp <;> omega)).trans y2
  replace r2 := cell_be hB3c r2
  replace ha := ha.below hB3c
  replace hb := hb.below hB3c
  replace hB2 := bnext hB2 hB3c
  have z3 := hB3c.size
  clear hB3c h2 oq hX rX
  have hbs := hb.sl
  rw [l2.out] at hbs
  have Hbe := hide hja.2
  have Hal := hide hja.1
  clear hja
  go_wp2
  go_loop [11, 36] (fun nv iv => ∃ i : Nat, i ≤ k ∧ nv = .int .i64 (prB p (be.take i)) ∧ iv = .int .i64 i) (fun _ iv => k - (intOf iv).toNat)
  case atStart => exact ⟨0, by omega, rfl, rfl⟩
  case round =>
    obtain ⟨i, hi, rfl, rfl⟩ := hrel
    by_cases hlt : i < k
    · obtain ⟨gb, off, rfl, -, hcell⟩ := hbs.at (by omega)
      have e1 := hcell i hlt
      have hst : Hid (prB p (be.take (i + 1)) = prB p (be.take i) * be.getD i 0 % p) := hide (prB_take p be i (by have := l2.out; omega))
      have r1' := getD_rng Hbe.out hp i
      have r2' := prB_rng hp (be.take i)
      obtain ⟨x, hx'⟩ : ∃ x, be.getD i 0 = x := ⟨_, rfl⟩
      obtain ⟨s, hs'⟩ : ∃ s, prB p (be.take i) = s := ⟨_, rfl⟩
      rw [hx'] at e1 hst r1'
      rw [hs'] at hst r2' ⊢
      clear hx' hs' hcell
      have hlt' : (i : Int) < (k : Int) := by omega
      obtain ⟨q1, q2⟩ := mulb r2'.1 r2'.2 r1'.1 r1'.2 hp2
      have hp0 : ¬ p = 0 := by omega
      go_wp2
      go_round
      case rel => exact ⟨i + 1, by omega, by rw [hst.out], by go_num⟩
      case measure => simp [intOf]; omega
    · have he' : Hid (prB p (be.take i) = prB p be) := hide (by rw [List.take_of_length_le (by have := l2.out; omega)])
      have hlt' : ¬ (i : Int) < (k : Int) := by omega
      rw [he'.out]
      go_wp2_with fail
      refine (divn_ok _ _ _ _ hp hp2 rH.1 rH.2 rB.1 rB.2 hpn.out).mono ?_
      rintro e w5 ⟨rfl, hb5⟩
      rw [← hBo.out]
      replace m0 := cell_be hb5 m0
      replace m1 := cell_be hb5 m1
      replace m2 := cell_be hb5 m2
      replace m3 := cell_be hb5 m3
      replace m4 := cell_be hb5 m4
      replace y0 := (hb5.frozen (by simp <;> omega)).trans y0
      replace r0 := cell_be hb5 r0
      replace y1 := (hb5.frozen (by simp <;> omega)).trans y1
      replace r1 := cell_be hb5 r1
      replace y2 := (hb5.frozen (by simp <;> omega)).trans y2
      replace r2 := cell_be hb5 r2
      replace ha := ha.below hb5
      replace hb := hb.below hb5
      replace hB2 := bnext hB2 hb5
      have z5 := hb5.size
      clear hb5 hbs hlt hlt' he' hi
      have hlA := hide (show (al ++ [opA p xs k]).length = k + 1 by rw [List.length_append, l1.out]; rfl)
      have hlB := hide (show (be ++ [opB p xs k]).length = k + 1 by rw [List.length_append, l2.out]; rfl)
      go_upto_region 12 with fail
      have P0 : ∀ g, w.heap.size ≤ g → blk a ≠ some g ∧ blk b ≠ some g := fun g hg => ⟨fun h => by have := hlow.out.1 g h; omega, fun h => by have := hlow.out.2 g h; omega⟩
      have F : ∀ w', Agr (fun g => blk a ≠ some g ∧ blk b ≠ some g) w5 w' → w'.cell? ⟨w.heap.size + 1, 0, none⟩ = some (.int .i64 p) ∧ w'.cell? ⟨w.heap.size + 1, 1, none⟩ = some (.slice a k c) ∧ w'.cell? ⟨w.heap.size + 1, 2, none⟩ = some (.slice b k d) := fun w' hb' => ⟨hb'.cell m2 (P0 _ (by omega)), hb'.cell m3 (P0 _ (by omega)), hb'.cell m4 (P0 _ (by omega))⟩
      have hm := Agr.drew (fun g => blk a ≠ some g ∧ blk b ≠ some g) w5
      refine region_E (fun w' => w'.cell? ⟨w.heap.size + 1, 0, none⟩ = some (.int .i64 p) ∧ w'.cell? ⟨w.heap.size + 1, 1, none⟩ = some (.slice a k c) ∧ w'.cell? ⟨w.heap.size + 1, 2, none⟩ = some (.slice b k d)) 12 (by kernel_rfl) (F _ hm) ?_
      intro hS
      refine anyE_takeL 0 rfl (by kernel_rfl) (fun _ _ _ h => h) hS (by rfl) (v := ?_) ?_ ?_
      rotate_left
      · intro w' hSw; (try dsimp only at hSw); go_simp; (try with_reducible rfl)
      try simp only [Act.put, List.setIfInBounds_toArray, List.set_cons_zero, List.set_cons_succ]
      refine anyE_takeL 1 rfl (by kernel_rfl) (fun _ _ _ h => h) hS (by rfl) (v := ?_) ?_ ?_
      rotate_left
      · intro w' hSw; (try dsimp only at hSw); go_simp; (try with_reducible rfl)
      try simp only [Act.put, List.setIfInBounds_toArray, List.set_cons_zero, List.set_cons_succ]
      refine anyE_takeL 2 rfl (by kernel_rfl) (fun _ _ _ h => h) hS (by rfl) (v := ?_) ?_ ?_
      rotate_left
      · intro w' hSw; (try dsimp only at hSw); go_simp; (try with_reducible rfl)
      try simp only [Act.put, List.setIfInBounds_toArray, List.set_cons_zero, List.set_cons_succ]
      refine anyE_takeL 3 rfl (by kernel_rfl) (fun _ _ _ h => h) hS (by rfl) (v := ?_) ?_ ?_
      rotate_left
      · intro w' hSw; (try dsimp only at hSw); go_simp; (try with_reducible rfl)
      try simp only [Act.put, List.setIfInBounds_toArray, List.set_cons_zero, List.set_cons_succ]
      refine anyE_takeL 6 rfl (by kernel_rfl) (fun _ _ _ h => h) hS (by rfl) (v := ?_) ?_ ?_
      rotate_left
      · intro w' hSw; (try dsimp only at hSw); go_simp; (try with_reducible rfl)
      try simp only [Act.put, List.setIfInBounds_toArray, List.set_cons_zero, List.set_cons_succ]
      refine anyE_takeL 7 rfl (by kernel_rfl) (fun _ _ _ h => h) hS (by rfl) (v := ?_) ?_ ?_
      rotate_left
      · intro w' hSw; (try dsimp only at hSw); go_simp; (try with_reducible rfl)
      try simp only [Act.put, List.setIfInBounds_toArray, List.set_cons_zero, List.set_cons_succ]
      refine anyE_takeL 8 rfl (by kernel_rfl) (fun _ _ _ h => h) hS (by rfl) (v := ?_) ?_ ?_
      rotate_left
      · intro w' hSw; (try dsimp only at hSw); go_simp; (try with_reducible rfl)
      try simp only [Act.put, List.setIfInBounds_toArray, List.set_cons_zero, List.set_cons_succ]
      clear hS
      replace ha := ha.below (Below.refl w5.heap.size w5).drew
      replace hb := hb.below (Below.refl w5.heap.size w5).drew
      obtain ⟨u0, hu0⟩ : ∃ u, u = w5.drew := ⟨_, rfl⟩
      have zu0 : w5.heap.size ≤ u0.heap.size := by rw [hu0]; exact Nat.le_refl _
      rw [← hu0] at hm ha hb ⊢
      clear hu0
      refine anyE_2L 4 9 (by kernel_rfl) rfl rfl (fun K' hK' => ?_) (fun K' hK' => ?_)
      · go_simp
        obtain ⟨u1, hu⟩ : ∃ u, u = u0.alloc (.cells #[.int .i64 (opA p xs k)] 2) := ⟨_, rfl⟩
        have lx : Below u0.heap.size u0 u1 := by rw [hu]; exact bl1 _ _
        have cA : u1.cell? ⟨u0.heap.size, 0, none⟩ = some (.int .i64 (opA p xs k)) := by rw [hu]; simp [go_sem]
        have zA : u0.heap.size < u1.heap.size := by rw [hu]; simp
        rw [← hu]
        clear hu
        replace ha := ha.below lx
        replace hb := hb.below lx
        replace hm := hm.trans (Agr.new lx)
        refine hK'.out _ _ (F _ hm) ?_
        clear hK' K'
        try simp only [Act.put, List.setIfInBounds_toArray, List.set_cons_zero, List.set_cons_succ]
        refine anyE_2L 5 9 (by kernel_rfl) rfl rfl (fun K' hK' => ?_) (fun K' hK' => ?_)
        · refine step_app1 (by rfl) _ _ (by rfl) B a k c al (by rfl) l1.out.symm ha ⟨u0.heap.size, 0, none⟩ 1 (opA p xs k) (by rfl) cA (by omega) (by omega) ?_
          intro aA dA u2 hown hgr hloc
          rw [hlA.out]
          have hm' := hm.trans (Agr.grown hgr (fun r hr h => h.1 hr))
          have locA : blk aA = blk a ∨ ∀ g, blk aA = some g → w5.heap.size ≤ g := by
            rcases hloc with h | h
            · exact .inl h
            · exact .inr fun g hg => by rw [h] at hg; cases hg; omega
          replace hb := hb.keep hgr (fun g hg he => hne g he hg)
          have neA : ∀ g, blk aA = some g → blk b ≠ some g := fun g hg hbg => by
            rcases hloc with h | h
            · rw [h] at hg; exact hne g hg hbg
            · rw [h] at hg; cases hg; have := hlow.out.2 _ hbg; omega
          have zgr := hgr.size
          replace hm := hm'
          replace ha := hown
          clear hm' hown hgr hloc
          refine hK'.out _ _ (F _ hm) ?_
          clear hK' K'
          try simp only [Act.put, List.setIfInBounds_toArray, List.set_cons_zero, List.set_cons_succ]
          refine anyE_oneL 9 (by kernel_rfl) rfl (fun K' hK' => ?_)
          go_simp
          obtain ⟨u3, hu⟩ : ∃ u, u = u2.alloc (.cells #[.int .i64 (opB p xs k)] 2) := ⟨_, rfl⟩
          have lx : Below u2.heap.size u2 u3 := by rw [hu]; exact bl1 _ _
          have cB : u3.cell? ⟨u2.heap.size, 0, none⟩ = some (.int .i64 (opB p xs k)) := by rw [hu]; simp [go_sem]
          have zB : u2.heap.size < u3.heap.size := by rw [hu]; simp
          rw [← hu]
          clear hu
          replace ha := ha.below lx
          replace hb := hb.below lx
          replace hm := hm.trans (Agr.new lx)
          refine hK'.out _ _ (F _ hm) ?_
          clear hK' K'
          try simp only [Act.put, List.setIfInBounds_toArray, List.set_cons_zero, List.set_cons_succ]
          refine anyE_oneL 10 (by kernel_rfl) rfl (fun K' hK' => ?_)
          refine step_app1 (by rfl) _ _ (by rfl) B b k d be (by rfl) l2.out.symm hb ⟨u2.heap.size, 0, none⟩ 1 (opB p xs k) (by rfl) cB (by omega) (by omega) ?_
          intro aB dB u4 hown hgr hloc
          rw [hlB.out]
          have hm' := hm.trans (Agr.grown hgr (fun r hr h => h.2 hr))
          have locB : blk aB = blk b ∨ ∀ g, blk aB = some g → w5.heap.size ≤ g := by
            rcases hloc with h | h
            · exact .inl h
            · exact .inr fun g hg => by rw [h] at hg; cases hg; omega
          have ltA := own_ltO ha
          replace ha := ha.keep hgr (fun g hg he => neA g hg he)
          have hneAB : ∀ g, blk aA = some g → blk aB ≠ some g := fun g hg hbg => by
            rcases hloc with h | h
            · rw [h] at hbg; exact neA g hg hbg
            · rw [h] at hbg; cases hbg; have := ltA _ hg; omega
          have zgr2 := hgr.size
          replace hm := hm'
          replace hb := hown
          clear hm' hown hgr hloc
          refine hK'.out _ _ (F _ hm) ?_
          clear hK' K'
          try simp only [Act.put, List.setIfInBounds_toArray, List.set_cons_zero, List.set_cons_succ]
          refine anyE_oneL 11 (by kernel_rfl) rfl (fun K' hK' => ?_)
          go_simp
          refine hK'.out _ _ (F _ hm) ?_
          clear hK' K'
          try simp only [Act.put, List.setIfInBounds_toArray, List.set_cons_zero, List.set_cons_succ]
          have rr0 := hm.cell r0 (P0 _ (by omega))
          have rr1 := hm.cell r1 (P0 _ (by omega))
          have rr2 := hm.cell r2 (P0 _ (by omega))
          have yy0 := hm.frozen r0 y0 (P0 _ (by omega))
          have yy1 := hm.frozen r1 y1 (P0 _ (by omega))
          have yy2 := hm.frozen r2 y2 (P0 _ (by omega))
          have hzz := hm.size
          have hAA := ha
          refine anyE_lastL (by kernel_rfl) rfl (by kernel_rfl) (fun K' hK' => ?_)
          go_simp
          refine hK'.out _ _ ?_
          clear hK' K'
          go_wp2
          refine bodyPost_ret (v := jac p aA (k + 1) dA aB (k + 1) dB) (by simp [results, Tryd.results96, go_sem, rr0, rr1, rr2]) rfl ?_
          rw [hA1.out, hA2.out]
          have farA : ∀ q, w.heap.size ≤ q → q < w5.heap.size → ∀ g, blk aA = some g → q ≠ g := fun q h1 h2 g hg e => by
            rcases locA with h | h
            · rw [h] at hg; have := hlow.out.1 g hg; omega
            · have := h g hg; omega
          have farB : ∀ q, w.heap.size ≤ q → q < w5.heap.size → ∀ g, blk aB = some g → q ≠ g := fun q h1 h2 g hg e => by
            rcases locB with h | h
            · rw [h] at hg; have := hlow.out.2 g hg; omega
            · have := h g hg; omega
          refine ⟨aA, dA, aB, dB, rfl, ⟨?_, ?_⟩, ?_, ⟨?_, ?_⟩, ?_⟩
          · exact ((ha.setFar (x := ⟨w.heap.size + 1 + 1, 0, none⟩) (farA (w.heap.size + 1 + 1) (by omega) (by omega)) _).setFar (x := ⟨w.heap.size + 1 + 1, 1, none⟩) (farA (w.heap.size + 1 + 1) (by omega) (by omega)) _).setFar (x := ⟨w.heap.size + 1 + 1, 2, none⟩) (farA (w.heap.size + 1 + 1) (by omega) (by omega)) _
          · exact ((hb.setFar (x := ⟨w.heap.size + 1 + 1, 0, none⟩) (farB (w.heap.size + 1 + 1) (by omega) (by omega)) _).setFar (x := ⟨w.heap.size + 1 + 1, 1, none⟩) (farB (w.heap.size + 1 + 1) (by omega) (by omega)) _).setFar (x := ⟨w.heap.size + 1 + 1, 2, none⟩) (farB (w.heap.size + 1 + 1) (by omega) (by omega)) _
          · exact hneAB
          · exact locA.imp id (fun h g hg => by have := h g hg; omega)
          · exact locB.imp id (fun h g hg => by have := h g hg; omega)
          · exact (((((Agr.new hB2).trans hm).setNew _ (by simp <;> omega)).setNew _ (by simp <;> omega)).setNew _ (by simp <;> omega))
        · go_simp
          obtain ⟨u5, hu⟩ : ∃ u, u = u1.alloc (.cells #[.int .i64 (opB p xs k)] 2) := ⟨_, rfl⟩
          have lx : Below u1.heap.size u1 u5 := by rw [hu]; exact bl1 _ _
          have cB : u5.cell? ⟨u1.heap.size, 0, none⟩ = some (.int .i64 (opB p xs k)) := by rw [hu]; simp [go_sem]
          have zB : u1.heap.size < u5.heap.size := by rw [hu]; simp
          rw [← hu]
          clear hu
          replace ha := ha.below lx
          replace hb := hb.below lx
          replace hm := hm.trans (Agr.new lx)
          replace cA := cell_be lx cA
          refine hK'.out _ _ (F _ hm) ?_
          clear hK' K'
          try simp only [Act.put, List.setIfInBounds_toArray, List.set_cons_zero, List.set_cons_succ]
          refine anyE_oneL 5 (by kernel_rfl) rfl (fun K' hK' => ?_)
          refine step_app1 (by rfl) _ _ (by rfl) B a k c al (by rfl) l1.out.symm ha ⟨u0.heap.size, 0, none⟩ 1 (opA p xs k) (by rfl) cA (by omega) (by omega) ?_
          intro aA dA u6 hown hgr hloc
          rw [hlA.out]
          have hm' := hm.trans (Agr.grown hgr (fun r hr h => h.1 hr))
          have locA : blk aA = blk a ∨ ∀ g, blk aA = some g → w5.heap.size ≤ g := by
            rcases hloc with h | h
            · exact .inl h
            · exact .inr fun g hg => by rw [h] at hg; cases hg; omega
          replace hb := hb.keep hgr (fun g hg he => hne g he hg)
          replace cB := cell_ne hgr cB (fun h => by have := hlow.out.1 _ h; omega)
          have neA : ∀ g, blk aA = some g → blk b ≠ some g := fun g hg hbg => by
            rcases hloc with h | h
            · rw [h] at hg; exact hne g hg hbg
            · rw [h] at hg; cases hg; have := hlow.out.2 _ hbg; omega
          have zgr := hgr.size
          replace hm := hm'
          replace ha := hown
          clear hm' hown hgr hloc
          refine hK'.out _ _ (F _ hm) ?_
          clear hK' K'
          try simp only [Act.put, List.setIfInBounds_toArray, List.set_cons_zero, List.set_cons_succ]
          refine anyE_oneL 10 (by kernel_rfl) rfl (fun K' hK' => ?_)
          refine step_app1 (by rfl) _ _ (by rfl) B b k d be (by rfl) l2.out.symm hb ⟨u1.heap.size, 0, none⟩ 1 (opB p xs k) (by rfl) cB (by omega) (by omega) ?_
          intro aB dB u7 hown hgr hloc
          rw [hlB.out]
          have hm' := hm.trans (Agr.grown hgr (fun r hr h => h.2 hr))
          have locB : blk aB = blk b ∨ ∀ g, blk aB = some g → w5.heap.size ≤ g := by
            rcases hloc with h | h
            · exact .inl h
            · exact .inr fun g hg => by rw [h] at hg; cases hg; omega
          have ltA := own_ltO ha
          replace ha := ha.keep hgr (fun g hg he => neA g hg he)
          have hneAB : ∀ g, blk aA = some g → blk aB ≠ some g := fun g hg hbg => by
            rcases hloc with h | h
            · rw [h] at hbg; exact neA g hg hbg
            · rw [h] at hbg; cases hbg; have := ltA _ hg; omega
          have zgr2 := hgr.size
          replace hm := hm'
          replace hb := hown
          clear hm' hown hgr hloc
          refine hK'.out _ _ (F _ hm) ?_
          clear hK' K'
          try simp only [Act.put, List.setIfInBounds_toArray, List.set_cons_zero, List.set_cons_succ]
          refine anyE_oneL 11 (by kernel_rfl) rfl (fun K' hK' => ?_)
          go_simp
          refine hK'.out _ _ (F _ hm) ?_
          clear hK' K'
          try simp only [Act.put, List.setIfInBounds_toArray, List.set_cons_zero, List.set_cons_succ]
          have rr0 := hm.cell r0 (P0 _ (by omega))
          have rr1 := hm.cell r1 (P0 _ (by omega))
          have rr2 := hm.cell r2 (P0 _ (by omega))
          have yy0 := hm.frozen r0 y0 (P0 _ (by omega))
          have yy1 := hm.frozen r1 y1 (P0 _ (by omega))
          have yy2 := hm.frozen r2 y2 (P0 _ (by omega))
          have hzz := hm.size
          have hAA := ha
          refine anyE_lastL (by kernel_rfl) rfl (by kernel_rfl) (fun K' hK' => ?_)
          go_simp
          refine hK'.out _ _ ?_
          clear hK' K'
          go_wp2
          refine bodyPost_ret (v := jac p aA (k + 1) dA aB (k + 1) dB) (by simp [results, Tryd.results96, go_sem, rr0, rr1, rr2]) rfl ?_
          rw [hA1.out, hA2.out]
          have farA : ∀ q, w.heap.size ≤ q → q < w5.heap.size → ∀ g, blk aA = some g → q ≠ g := fun q h1 h2 g hg e => by
            rcases locA with h | h
            · rw [h] at hg; have := hlow.out.1 g hg; omega
            · have := h g hg; omega
          have farB : ∀ q, w.heap.size ≤ q → q < w5.heap.size → ∀ g, blk aB = some g → q ≠ g := fun q h1 h2 g hg e => by
            rcases locB with h | h
            · rw [h] at hg; have := hlow.out.2 g hg; omega
            · have := h g hg; omega
          refine ⟨aA, dA, aB, dB, rfl, ⟨?_, ?_⟩, ?_, ⟨?_, ?_⟩, ?_⟩
          · exact ((ha.setFar (x := ⟨w.heap.size + 1 + 1, 0, none⟩) (farA (w.heap.size + 1 + 1) (by omega) (by omega)) _).setFar (x := ⟨w.heap.size + 1 + 1, 1, none⟩) (farA (w.heap.size + 1 + 1) (by omega) (by omega)) _).setFar (x := ⟨w.heap.size + 1 + 1, 2, none⟩) (farA (w.heap.size + 1 + 1) (by omega) (by omega)) _
          · exact ((hb.setFar (x := ⟨w.heap.size + 1 + 1, 0, none⟩) (farB (w.heap.size + 1 + 1) (by omega) (by omega)) _).setFar (x := ⟨w.heap.size + 1 + 1, 1, none⟩) (farB (w.heap.size + 1 + 1) (by omega) (by omega)) _).setFar (x := ⟨w.heap.size + 1 + 1, 2, none⟩) (farB (w.heap.size + 1 + 1) (by omega) (by omega)) _
          · exact hneAB
          · exact locA.imp id (fun h g hg => by have := h g hg; omega)
          · exact locB.imp id (fun h g hg => by have := h g hg; omega)
          · exact (((((Agr.new hB2).trans hm).setNew _ (by simp <;> omega)).setNew _ (by simp <;> omega)).setNew _ (by simp <;> omega))
      · go_simp
        obtain ⟨u8, hu⟩ : ∃ u, u = u0.alloc (.cells #[.int .i64 (opB p xs k)] 2) := ⟨_, rfl⟩
        have lx : Below u0.heap.size u0 u8 := by rw [hu]; exact bl1 _ _
        have cB : u8.cell? ⟨u0.heap.size, 0, none⟩ = some (.int .i64 (opB p xs k)) := by rw [hu]; simp [go_sem]
        have zB : u0.heap.size < u8.heap.size := by rw [hu]; simp
        rw [← hu]
        clear hu
        replace ha := ha.below lx
        replace hb := hb.below lx
        replace hm := hm.trans (Agr.new lx)
        refine hK'.out _ _ (F _ hm) ?_
        clear hK' K'
        try simp only [Act.put, List.setIfInBounds_toArray, List.set_cons_zero, List.set_cons_succ]
        refine anyE_oneL 4 (by kernel_rfl) rfl (fun K' hK' => ?_)
        go_simp
        obtain ⟨u9, hu⟩ : ∃ u, u = u8.alloc (.cells #[.int .i64 (opA p xs k)] 2) := ⟨_, rfl⟩
        have lx : Below u8.heap.size u8 u9 := by rw [hu]; exact bl1 _ _
        have cA : u9.cell? ⟨u8.heap.size, 0, none⟩ = some (.int .i64 (opA p xs k)) := by rw [hu]; simp [go_sem]
        have zA : u8.heap.size < u9.heap.size := by rw [hu]; simp
        rw [← hu]
        clear hu
        replace ha := ha.below lx
        replace hb := hb.below lx
        replace hm := hm.trans (Agr.new lx)
        replace cB := cell_be lx cB
        refine hK'.out _ _ (F _ hm) ?_
        clear hK' K'
        try simp only [Act.put, List.setIfInBounds_toArray, List.set_cons_zero, List.set_cons_succ]
        refine anyE_oneL 5 (by kernel_rfl) rfl (fun K' hK' => ?_)
        refine step_app1 (by rfl) _ _ (by rfl) B a k c al (by rfl) l1.out.symm ha ⟨u8.heap.size, 0, none⟩ 1 (opA p xs k) (by rfl) cA (by omega) (by omega) ?_
        intro aA dA u10 hown hgr hloc
        rw [hlA.out]
        have hm' := hm.trans (Agr.grown hgr (fun r hr h => h.1 hr))
        have locA : blk aA = blk a ∨ ∀ g, blk aA = some g → w5.heap.size ≤ g := by
          rcases hloc with h | h
          · exact .inl h
          · exact .inr fun g hg => by rw [h] at hg; cases hg; omega
        replace hb := hb.keep hgr (fun g hg he => hne g he hg)
        replace cB := cell_ne hgr cB (fun h => by have := hlow.out.1 _ h; omega)
        have neA : ∀ g, blk aA = some g → blk b ≠ some g := fun g hg hbg => by
          rcases hloc with h | h
          · rw [h] at hg; exact hne g hg hbg
          · rw [h] at hg; cases hg; have := hlow.out.2 _ hbg; omega
        have zgr := hgr.size
        replace hm := hm'
        replace ha := hown
        clear hm' hown hgr hloc
        refine hK'.out _ _ (F _ hm) ?_
        clear hK' K'
        try simp only [Act.put, List.setIfInBounds_toArray, List.set_cons_zero, List.set_cons_succ]
        refine anyE_oneL 10 (by kernel_rfl) rfl (fun K' hK' => ?_)
        refine step_app1 (by rfl) _ _ (by rfl) B b k d be (by rfl) l2.out.symm hb ⟨u0.heap.size, 0, none⟩ 1 (opB p xs k) (by rfl) cB (by omega) (by omega) ?_
        intro aB dB u11 hown hgr hloc
        rw [hlB.out]
        have hm' := hm.trans (Agr.grown hgr (fun r hr h => h.2 hr))
        have locB : blk aB = blk b ∨ ∀ g, blk aB = some g → w5.heap.size ≤ g := by
          rcases hloc with h | h
          · exact .inl h
          · exact .inr fun g hg => by rw [h] at hg; cases hg; omega
        have ltA := own_ltO ha
        replace ha := ha.keep hgr (fun g hg he => neA g hg he)
        have hneAB : ∀ g, blk aA = some g → blk aB ≠ some g := fun g hg hbg => by
          rcases hloc with h | h
          · rw [h] at hbg; exact neA g hg hbg
          · rw [h] at hbg; cases hbg; have := ltA _ hg; omega
        have zgr2 := hgr.size
        replace hm := hm'
        replace hb := hown
        clear hm' hown hgr hloc
        refine hK'.out _ _ (F _ hm) ?_
        clear hK' K'
        try simp only [Act.put, List.setIfInBounds_toArray, List.set_cons_zero, List.set_cons_succ]
        refine anyE_oneL 11 (by kernel_rfl) rfl (fun K' hK' => ?_)
        go_simp
        refine hK'.out _ _ (F _ hm) ?_
        clear hK' K'
        try simp only [Act.put, List.setIfInBounds_toArray, List.set_cons_zero, List.set_cons_succ]
        have rr0 := hm.cell r0 (P0 _ (by omega))
        have rr1 := hm.cell r1 (P0 _ (by omega))
        have rr2 := hm.cell r2 (P0 _ (by omega))
        have yy0 := hm.frozen r0 y0 (P0 _ (by omega))
        have yy1 := hm.frozen r1 y1 (P0 _ (by omega))
        have yy2 := hm.frozen r2 y2 (P0 _ (by omega))
        have hzz := hm.size
        have hAA := ha
        refine anyE_lastL (by kernel_rfl) rfl (by kernel_rfl) (fun K' hK' => ?_)
        go_simp
        refine hK'.out _ _ ?_
        clear hK' K'
        go_wp2
        refine bodyPost_ret (v := jac p aA (k + 1) dA aB (k + 1) dB) (by simp [results, Tryd.results96, go_sem, rr0, rr1, rr2]) rfl ?_
        rw [hA1.out, hA2.out]
        have farA : ∀ q, w.heap.size ≤ q → q < w5.heap.size → ∀ g, blk aA = some g → q ≠ g := fun q h1 h2 g hg e => by
          rcases locA with h | h
          · rw [h] at hg; have := hlow.out.1 g hg; omega
          · have := h g hg; omega
        have farB : ∀ q, w.heap.size ≤ q → q < w5.heap.size → ∀ g, blk aB = some g → q ≠ g := fun q h1 h2 g hg e => by
          rcases locB with h | h
          · rw [h] at hg; have := hlow.out.2 g hg; omega
          · have := h g hg; omega
        refine ⟨aA, dA, aB, dB, rfl, ⟨?_, ?_⟩, ?_, ⟨?_, ?_⟩, ?_⟩
        · exact ((ha.setFar (x := ⟨w.heap.size + 1 + 1, 0, none⟩) (farA (w.heap.size + 1 + 1) (by omega) (by omega)) _).setFar (x := ⟨w.heap.size + 1 + 1, 1, none⟩) (farA (w.heap.size + 1 + 1) (by omega) (by omega)) _).setFar (x := ⟨w.heap.size + 1 + 1, 2, none⟩) (farA (w.heap.size + 1 + 1) (by omega) (by omega)) _
        · exact ((hb.setFar (x := ⟨w.heap.size + 1 + 1, 0, none⟩) (farB (w.heap.size + 1 + 1) (by omega) (by omega)) _).setFar (x := ⟨w.heap.size + 1 + 1, 1, none⟩) (farB (w.heap.size + 1 + 1) (by omega) (by omega)) _).setFar (x := ⟨w.heap.size + 1 + 1, 2, none⟩) (farB (w.heap.size + 1 + 1) (by omega) (by omega)) _
        · exact hneAB
        · exact locA.imp id (fun h g hg => by have := h g hg; omega)
        · exact locB.imp id (fun h g hg => by have := h g hg; omega)
        · exact (((((Agr.new hB2).trans hm).setNew _ (by simp <;> omega)).setNew _ (by simp <;> omega)).setNew _ (by simp <;> omega))
end Go.Proofs.YtdjifjlgllohmaaDoor
/- Contract: what orthogonals produces: P(0), P(1), .. behind their data, or the panic. -/
namespace Go.Proofs.YtdjifjlgllohmaaDoor
open Go.RowKit Go.Shelf
set_option linter.unusedVariables false
set_option linter.unusedSimpArgs false
attribute [local go_sem] Oper.semAt_some

theorem Own.agr {B : Nat} {w w' : World} {a : Option Addr} {c : Nat} {ys : List Int} {P : Nat → Prop} (h : Own B w a c ys) (hA : Agr P w w') (hP : ∀ g, blk a = some g → P g) : Own B w' a c ys := by
  refine ⟨h.1, ?_⟩
  rcases h.2 with h' | ⟨g, c, cur, h1, h2, h3, h4⟩
  · exact .inl h'
  · refine .inr ⟨g, c, cur, h1, h2, ?_, h4⟩
    have ha : blk a = some g := by
      simp only [Value.slice.injEq] at h1
      rw [h1.1]; rfl
    rw [hA.block g (lt_of_block h3) (hP g ha)]
    exact h3
theorem Own.low {B : Nat} {w : World} {a : Option Addr} {c : Nat} {ys : List Int} (h : Own B w a c ys) : ∀ g, blk a = some g → B ≤ g := fun g hg => by
  rcases h.shape with ⟨rfl, _, _⟩ | ⟨g', cur, rfl, hB, _⟩
  · cases hg
  · cases hg; exact hB
theorem SL.agr {w w' : World} {a : Option Addr} {n c : Nat} {xs : List Int} {P : Nat → Prop} (h : SL w a n c xs) (hA : Agr P w w') (hP : ∀ g, blk a = some g → P g) : SL w' a n c xs := by
  obtain ⟨h1, h2, h3⟩ := h
  refine ⟨h1, h2, ?_⟩
  rcases h3 with h3 | ⟨b, off, rfl, hc⟩
  · exact .inl h3
  · exact .inr ⟨b, off, rfl, fun j hj => hA.cell (hc j hj) (hP b rfl)⟩
/-- What comes in a round: the number, the data, the polynomial. -/
structure OX where
  k : Nat
  a : Option Addr
  c : Nat
  b : Option Addr
  d : Nat
  f : Option Addr
  g : Nat
def oxE (p : Int) (x : OX) : Array Value := #[jac p x.a x.k x.c x.b x.k x.d, .slice x.f (x.k + 1) x.g]
/-- P(0) to P(k) can be told. -/
def TL (p : Int) (xs : List Int) (k : Nat) : Prop := ∀ j, j < k → Nxt p xs j
theorem TL.told {p : Int} {xs : List Int} {k : Nat} (h : TL p xs k) : Told p xs k := fun j hj => (h j hj).2
def bfL (p : Int) (xs : List Int) (q : Nat) : List Int := if q = 0 then [] else opL p xs (q - 1)
/-- The iterator's memory: data of q numbers, P(q), P(q - 1). -/
structure ItM (p : Int) (xs : List Int) (B0 bj : Nat) (S : Nat → Prop) (q : Nat) (a : Option Addr) (c : Nat) (b : Option Addr) (d : Nat) (f : Option Addr) (g : Nat) (e : Option Addr) (h : Nat) (W : World) : Prop where
  j0 : W.cell? ⟨bj, 0, none⟩ = some (.int .i64 p)
  j1 : W.cell? ⟨bj, 1, none⟩ = some (.slice a q c)
  j2 : W.cell? ⟨bj, 2, none⟩ = some (.slice b q d)
  z0 : W.frozen? ⟨bj, 0, none⟩ = false
  z1 : W.frozen? ⟨bj, 1, none⟩ = false
  z2 : W.frozen? ⟨bj, 2, none⟩ = false
  oa : Own B0 W a c (jdL p xs q).1
  ob : Own B0 W b d (jdL p xs q).2
  of : Own B0 W f g (opL p xs q)
  oe : Own B0 W e h (bfL p xs q)
  lo : B0 ≤ bj
  sj : ¬ S bj
  sa : ∀ x, blk a = some x → ¬ S x ∧ x ≠ bj ∧ blk b ≠ some x ∧ blk f ≠ some x ∧ blk e ≠ some x
  sb : ∀ x, blk b = some x → ¬ S x ∧ x ≠ bj ∧ blk f ≠ some x ∧ blk e ≠ some x
  sf : ∀ x, blk f = some x → ¬ S x ∧ x ≠ bj
  se : ∀ x, blk e = some x → ¬ S x ∧ x ≠ bj
theorem ItM.agr {p : Int} {xs : List Int} {B0 bj : Nat} {S : Nat → Prop} {q : Nat} {a : Option Addr} {c : Nat} {b : Option Addr} {d : Nat} {f : Option Addr} {g : Nat} {e : Option Addr} {h : Nat} {W W' : World} {P : Nat → Prop}
    (m : ItM p xs B0 bj S q a c b d f g e h W) (hA : Agr P W W') (hj : P bj) (ha : ∀ x, blk a = some x → P x) (hb : ∀ x, blk b = some x → P x) (hf : ∀ x, blk f = some x → P x) (he : ∀ x, blk e = some x → P x) : ItM p xs B0 bj S q a c b d f g e h W' :=
  ⟨hA.cell m.j0 hj, hA.cell m.j1 hj, hA.cell m.j2 hj, hA.frozen m.j0 m.z0 hj, hA.frozen m.j1 m.z1 hj, hA.frozen m.j2 m.z2 hj, m.oa.agr hA ha, m.ob.agr hA hb, m.of.agr hA hf, m.oe.agr hA he, m.lo, m.sj, m.sa, m.sb, m.sf, m.se⟩
/-- Behind a round: the rounds' own blocks may be more, but new ones. -/
theorem ItM.round {p : Int} {xs : List Int} {B0 bj : Nat} {S S' : Nat → Prop} {q : Nat} {a : Option Addr} {c : Nat} {b : Option Addr} {d : Nat} {f : Option Addr} {g : Nat} {e : Option Addr} {h : Nat} {W W' : World}
    (m : ItM p xs B0 bj S q a c b d f g e h W) (hA : Agr (fun b => B0 ≤ b ∧ ¬ S b) W W') (hS : ∀ b, S' b → S b ∨ W.heap.size ≤ b) : ItM p xs B0 bj S' q a c b d f g e h W' := by
  have lj := World.block_lt_of_cell? W _ m.j0
  have la := own_ltO m.oa
  have lb := own_ltO m.ob
  have lf := own_ltO m.of
  have le := own_ltO m.oe
  have no : ∀ x, x < W.heap.size → ¬ S x → ¬ S' x := fun x h1 h2 h3 => by
    rcases hS x h3 with h' | h'
    · exact h2 h'
    · omega
  have m2 := m.agr hA ⟨m.lo, m.sj⟩ (fun x hx => ⟨m.oa.low x hx, (m.sa x hx).1⟩) (fun x hx => ⟨m.ob.low x hx, (m.sb x hx).1⟩) (fun x hx => ⟨m.of.low x hx, (m.sf x hx).1⟩) (fun x hx => ⟨m.oe.low x hx, (m.se x hx).1⟩)
  exact ⟨m2.j0, m2.j1, m2.j2, m2.z0, m2.z1, m2.z2, m2.oa, m2.ob, m2.of, m2.oe, m2.lo, no _ lj m.sj, fun x hx => ⟨no x (la x hx) (m.sa x hx).1, (m.sa x hx).2⟩, fun x hx => ⟨no x (lb x hx) (m.sb x hx).1, (m.sb x hx).2⟩, fun x hx => ⟨no x (lf x hx) (m.sf x hx).1, (m.sf x hx).2⟩, fun x hx => ⟨no x (le x hx) (m.se x hx).1, (m.se x hx).2⟩⟩
/-- What has come lies as it came. -/
def Come (p : Int) (xs : List Int) (B0 bj : Nat) (S : Nat → Prop) (a b : Option Addr) (pre : List OX) (W : World) : Prop :=
  ∀ j x, pre[j]? = some x → x.k = j ∧ Own B0 W x.f x.g (opL p xs j) ∧ ∀ y, blk x.f = some y → ¬ S y ∧ y ≠ bj ∧ blk a ≠ some y ∧ blk b ≠ some y
theorem Come.round {p : Int} {xs : List Int} {B0 bj : Nat} {S S' : Nat → Prop} {a b : Option Addr} {pre : List OX} {W W' : World} (m : Come p xs B0 bj S a b pre W) (hA : Agr (fun b => B0 ≤ b ∧ ¬ S b) W W') (hS : ∀ b, S' b → S b ∨ W.heap.size ≤ b) : Come p xs B0 bj S' a b pre W' := fun j x hx => by
  obtain ⟨h1, h2, h3⟩ := m j x hx
  refine ⟨h1, h2.agr hA (fun g hg => ⟨h2.low g hg, (h3 g hg).1⟩), fun y hy => ⟨fun hs => ?_, (h3 y hy).2⟩⟩
  rcases hS y hs with h' | h'
  · exact (h3 y hy).1 h'
  · have := own_ltO h2 y hy; omega
theorem cell_setO {w : World} {a b : Addr} {v : Value} (h : w.cell? b = some v) (hne : a ≠ b) (u : Value) : (w.setCell a u).cell? b = some v := (World.cell?_setCell_other _ _ _ _ hne).trans h
/-- The data grow, and P(q + 1) comes. -/
theorem ItM.next {p : Int} {xs : List Int} {B0 bj : Nat} {S : Nat → Prop} {q : Nat} {a : Option Addr} {c : Nat} {b : Option Addr} {d : Nat} {f : Option Addr} {g : Nat} {e : Option Addr} {h : Nat} {W W1 W2 W3 : World} {a' : Option Addr} {c' : Nat} {b' : Option Addr} {d' : Nat} {f' : Option Addr} {g' : Nat}
    (m : ItM p xs B0 bj S q a c b d f g e h W) (hS : ∀ x, S x → x < W.heap.size) (oa : Own B0 W1 a' c' (jdL p xs (q + 1)).1) (ob : Own B0 W1 b' d' (jdL p xs (q + 1)).2) (hne : ∀ x, blk a' = some x → blk b' ≠ some x)
    (la : blk a' = blk a ∨ ∀ x, blk a' = some x → W.heap.size ≤ x) (lb : blk b' = blk b ∨ ∀ x, blk b' = some x → W.heap.size ≤ x) (hA : Agr (fun x => blk a ≠ some x ∧ blk b ≠ some x) W W1)
    (hW2 : ((W1.setCell ⟨bj, 0, none⟩ (.int .i64 p)).setCell ⟨bj, 1, none⟩ (.slice a' (q + 1) c')).setCell ⟨bj, 2, none⟩ (.slice b' (q + 1) d') = W2)
    (of : Own W2.heap.size W3 f' g' (opL p xs (q + 1))) (hb3 : Below W2.heap.size W2 W3) : ItM p xs B0 bj S (q + 1) a' c' b' d' f' g' f g W3 := by
  have lj : bj < W.heap.size := World.block_lt_of_cell? W _ m.j0
  have lA := own_ltO m.oa
  have lB := own_ltO m.ob
  have lF := own_ltO m.of
  have lA' := own_ltO oa
  have lB' := own_ltO ob
  have z1 := hA.size
  have z2 : W2.heap.size = W1.heap.size := by rw [← hW2]; simp
  have pj : blk a ≠ some bj ∧ blk b ≠ some bj := ⟨fun h => (m.sa _ h).2.1 rfl, fun h => (m.sb _ h).2.1 rfl⟩
  have c0 := hA.cell m.j0 pj
  have c1 := hA.cell m.j1 pj
  have c2 := hA.cell m.j2 pj
  have y0 := hA.frozen m.j0 m.z0 pj
  have y1 := hA.frozen m.j1 m.z1 pj
  have y2 := hA.frozen m.j2 m.z2 pj
  have na' : ∀ x, blk a' = some x → ¬ S x ∧ x ≠ bj ∧ blk f ≠ some x ∧ x < W1.heap.size := fun x hx => by
    rcases la with h' | h'
    · have := m.sa x (by rw [← h']; exact hx)
      exact ⟨this.1, this.2.1, this.2.2.2.1, lA' x hx⟩
    · have := h' x hx
      exact ⟨fun hs => by have := hS x hs; omega, by omega, fun hf => by have := lF x hf; omega, lA' x hx⟩
  have nb' : ∀ x, blk b' = some x → ¬ S x ∧ x ≠ bj ∧ blk f ≠ some x ∧ x < W1.heap.size := fun x hx => by
    rcases lb with h' | h'
    · have := m.sb x (by rw [← h']; exact hx)
      exact ⟨this.1, this.2.1, this.2.2.1, lB' x hx⟩
    · have := h' x hx
      exact ⟨fun hs => by have := hS x hs; omega, by omega, fun hf => by have := lF x hf; omega, lB' x hx⟩
  have nf' : ∀ x, blk f' = some x → W1.heap.size ≤ x := fun x hx => by have := of.low x hx; omega
  have k0 : W2.cell? ⟨bj, 0, none⟩ = some (.int .i64 p) := by
    rw [← hW2]
    exact cell_setO (cell_setO (World.cell?_setCell_same _ _ _ c0) (by simp) _) (by simp) _
  have k1 : W2.cell? ⟨bj, 1, none⟩ = some (.slice a' (q + 1) c') := by
    rw [← hW2]
    exact cell_setO (World.cell?_setCell_same _ _ _ (cell_setO c1 (by simp) _)) (by simp) _
  have k2 : W2.cell? ⟨bj, 2, none⟩ = some (.slice b' (q + 1) d') := by
    rw [← hW2]
    exact World.cell?_setCell_same _ _ _ (cell_setO (cell_setO c2 (by simp) _) (by simp) _)
  have far : ∀ {B : Nat} {x : Option Addr} {n : Nat} {ys : List Int}, Own B W1 x n ys → (∀ z, blk x = some z → z ≠ bj) → Own B W2 x n ys := fun o hz => by
    rw [← hW2]
    exact ((o.setFar (x := ⟨bj, 0, none⟩) (fun z h e => hz z h e.symm) _).setFar (x := ⟨bj, 1, none⟩) (fun z h e => hz z h e.symm) _).setFar (x := ⟨bj, 2, none⟩) (fun z h e => hz z h e.symm) _
  have b3 : Below W2.heap.size W2 W3 := hb3
  refine ⟨cell_be b3 k0, cell_be b3 k1, cell_be b3 k2, ?_, ?_, ?_, (far oa fun z h => (na' z h).2.1).below b3, (far ob fun z h => (nb' z h).2.1).below b3, of.mono (by have := m.lo; omega), ?_, m.lo, m.sj, fun x hx => ⟨(na' x hx).1, (na' x hx).2.1, hne x hx, fun h' => ?_, (na' x hx).2.2.1⟩, fun x hx => ⟨(nb' x hx).1, (nb' x hx).2.1, fun h' => ?_, (nb' x hx).2.2.1⟩, fun x hx => ⟨fun hs => ?_, ?_⟩, m.sf⟩
  · rw [b3.frozen (p := ⟨bj, 0, none⟩) (by show bj < _; omega), ← hW2]; simpa using y0
  · rw [b3.frozen (p := ⟨bj, 1, none⟩) (by show bj < _; omega), ← hW2]; simpa using y1
  · rw [b3.frozen (p := ⟨bj, 2, none⟩) (by show bj < _; omega), ← hW2]; simpa using y2
  · have e1 : bfL p xs (q + 1) = opL p xs q := by unfold bfL; rw [if_neg (by omega)]; rfl
    rw [e1]
    exact (far (m.of.agr hA fun x hx => ⟨fun h' => (m.sa x h').2.2.2.1 hx, fun h' => (m.sb x h').2.2.1 hx⟩) fun z h => (m.sf z h).2).below b3
  · have := nf' x h'; have := (na' x hx).2.2.2; omega
  · have := nf' x h'; have := (nb' x hx).2.2.2; omega
  · have := nf' x hx; have := hS x hs; omega
  · have := nf' x hx; omega
theorem Come.next {p : Int} {xs : List Int} {B0 bj : Nat} {S : Nat → Prop} {q : Nat} {a b a' b' : Option Addr} {c' d' : Nat} {pre : List OX} {W W1 W2 W3 : World}
    (m : Come p xs B0 bj S a b pre W) (la : blk a' = blk a ∨ ∀ x, blk a' = some x → W.heap.size ≤ x) (lb : blk b' = blk b ∨ ∀ x, blk b' = some x → W.heap.size ≤ x) (hA : Agr (fun x => blk a ≠ some x ∧ blk b ≠ some x) W W1)
    (hW2 : ((W1.setCell ⟨bj, 0, none⟩ (.int .i64 p)).setCell ⟨bj, 1, none⟩ (.slice a' (q + 1) c')).setCell ⟨bj, 2, none⟩ (.slice b' (q + 1) d') = W2) (hb3 : Below W2.heap.size W2 W3) : Come p xs B0 bj S a' b' pre W3 := fun j x hx => by
  obtain ⟨h1, h2, h3⟩ := m j x hx
  have o1 := h2.agr hA (fun y hy => ⟨(h3 y hy).2.2.1, (h3 y hy).2.2.2⟩)
  have o2 : Own B0 W2 x.f x.g (opL p xs j) := by
    rw [← hW2]
    exact ((o1.setFar (x := ⟨bj, 0, none⟩) (fun z h e => (h3 z h).2.1 e.symm) _).setFar (x := ⟨bj, 1, none⟩) (fun z h e => (h3 z h).2.1 e.symm) _).setFar (x := ⟨bj, 2, none⟩) (fun z h e => (h3 z h).2.1 e.symm) _
  refine ⟨h1, o2.below hb3, fun y hy => ⟨(h3 y hy).1, (h3 y hy).2.1, fun h' => ?_, fun h' => ?_⟩⟩
  · rcases la with l | l
    · exact (h3 y hy).2.2.1 (by rw [← l]; exact h')
    · have := l y h'; have := own_ltO h2 y hy; omega
  · rcases lb with l | l
    · exact (h3 y hy).2.2.2 (by rw [← l]; exact h')
    · have := l y h'; have := own_ltO h2 y hy; omega
set_option maxRecDepth 100000 in
set_option maxHeartbeats 1600000 in
theorem orthogonals_any (p : Int) (a2 : Option Addr) (n2 c2 : Nat) (n : Int) (w : World) :
    Calls Tryd.prog 59 #[mom p a2 n2 c2, .int .i64 n] w fun e w' => e = .returned (.func (.func 95) #[] #[.pointer (some ⟨w.heap.size, 0, none⟩), .pointer (some ⟨w.heap.size + 1, 0, none⟩)]) ∧ w' = (w.alloc (.cells #[.int .i64 p, .slice a2 n2 c2] 30)).alloc (.cells #[.int .i64 n] 2) := by
  go_enter Tryd.func59, Tryd.ntmps59
  go_wp2
  go_ret
  exact ⟨rfl, rfl⟩
/-- What the rounds must keep: the iterator's variables, the moments, the package's error. -/
def OrB (p : Int) (a2 : Option Addr) (n2 c2 : Nat) (xs : List Int) (n : Nat) (Bm Bn : Nat) (ae : Addr) (A : World) : Prop :=
  A.cell? ⟨Bm, 0, none⟩ = some (.int .i64 p) ∧ A.cell? ⟨Bm, 1, none⟩ = some (.slice a2 n2 c2) ∧ A.cell? ⟨Bn, 0, none⟩ = some (.int .i64 n) ∧ ErrV A ae ∧ SL A a2 n2 c2 xs
/-- What a round is told. -/
def OrH (p : Int) (xs : List Int) (n B : Nat) (S : Nat → Prop) (pre : List OX) (x : OX) (A : World) : Prop :=
  x.k = pre.length ∧ x.k < n ∧ TL p xs x.k ∧ (Own B A x.a x.c (jdL p xs x.k).1 ∧ Own B A x.b x.d (jdL p xs x.k).2 ∧ Own B A x.f x.g (opL p xs x.k)) ∧ ∀ y, blk x.a = some y ∨ blk x.b = some y ∨ blk x.f = some y → ¬ S y
/-- What is told at the end. -/
def OrF (p : Int) (xs : List Int) (n B : Nat) (pre : List OX) (A : World) : Prop :=
  pre.length = n ∧ TL p xs (n - 1) ∧ (∀ j x, pre[j]? = some x → x.k = j ∧ Own B A x.f x.g (opL p xs j)) ∧
  ∀ x, pre[n - 1]? = some x → Own B A x.a x.c (jdL p xs (n - 1)).1 ∧ Own B A x.b x.d (jdL p xs (n - 1)).2 ∧ ∀ y, blk x.a = some y → blk x.b ≠ some y ∧ blk x.f ≠ some y
set_option maxRecDepth 100000 in
set_option maxHeartbeats 6400000 in
theorem ortho_iter (p : Int) (a2 : Option Addr) (n2 c2 : Nat) (xs : List Int) (n : Nat) (Bm Bn : Nat) (ae : Addr) (w0 : World) (Rs : Prop) (hP : primeB p = true) (hx : areB p xs = true) (b2 : n2 ≤ 24) (hl2 : xs.length = n2) (hn : n ≤ 13) (hRs : ¬ TL p xs (n - 1) → Rs) :
    IterC Tryd.prog 95 #[.pointer (some ⟨Bm, 0, none⟩), .pointer (some ⟨Bn, 0, none⟩)] (oxE p) (OrH p xs n w0.heap.size) (OrF p xs n w0.heap.size) (fun _ => OrB p a2 n2 c2 xs n Bm Bn ae) (chE ae) Rs w0 := by
  intro l J W hW hJ hSl hJB hY h0
  obtain ⟨hp, hp2⟩ := primeB_lo hP
  obtain ⟨k1, k2, k3, k4, k5⟩ := hJB _ _ _ h0
  replace hl2 := hide hl2
  refine callsIn_of_wp Tryd.func95 rfl trivial ?_ rfl
  simp only [Tryd.ntmps95, List.size_toArray, List.length_cons, List.length_nil, Nat.reduceAdd, Nat.reduceSub, Array.replicate_succ, Array.replicate_zero, List.push_toArray, List.append_toArray, List.nil_append, List.cons_append]
  have b12 := bl2 W (.cells #[.int .i64 1] 2) (.cells #[.int .i64 p, .slice none 0 0, .slice none 0 0] 27)
  have k3' := cell_be b12 k3
  have hJ1 := hJ _ _ _ _ h0 (Agr.new b12)
  have hM1 : ItM p xs W.heap.size (W.heap.size + 1) (fun _ => False) 0 none 0 none 0 (some ⟨W.heap.size, 0, none⟩) 1 none 0 ((W.alloc (.cells #[.int .i64 1] 2)).alloc (.cells #[.int .i64 p, .slice none 0 0, .slice none 0 0] 27)) := by
    refine ⟨by simp [go_sem], by simp [go_sem], by simp [go_sem], by simp [go_sem], by simp [go_sem], by simp [go_sem], Own.nil _ _, Own.nil _ _, ?_, Own.nil _ _, by omega, fun h => h, fun x h => (by cases h), fun x h => (by cases h), fun x h => ⟨fun h => h, ?_⟩, fun x h => (by cases h)⟩
    · exact (litOwn W _ (Nat.le_refl _) 1).below (bl1 _ _)
    · have : W.heap.size = x := Option.some.inj h
      omega
  gi_wp2
  obtain ⟨W1, hW1⟩ : ∃ W1, (W.alloc (.cells #[.int .i64 1] 2)).alloc (.cells #[.int .i64 p, .slice none 0 0, .slice none 0 0] 27) = W1 := ⟨_, rfl⟩
  rw [hW1] at b12 k3' hJ1 hM1 ⊢
  have zW1 : W.heap.size + 2 ≤ W1.heap.size := by rw [← hW1]; simp
  clear hW1
  gi_loopw [5, 6, 13] (fun ev fv iv wr => ∃ (i q : Nat) (pre : List OX) (S : Nat → Prop) (a : Option Addr) (c : Nat) (b : Option Addr) (d : Nat) (f : Option Addr) (g : Nat) (e : Option Addr) (h : Nat), (i ≤ n ∧ q = i - 1) ∧ iv = .int .i64 i ∧ fv = .slice f (q + 1) g ∧ ev = .slice e q h ∧
      Hid (pre.length = i ∧ TL p xs q ∧ J pre S wr ∧ ItM p xs W.heap.size (W.heap.size + 1) S q a c b d f g e h wr ∧ Come p xs W.heap.size (W.heap.size + 1) S a b pre wr ∧ (0 < i → pre[q]? = some ⟨q, a, c, b, d, f, g⟩)))
    (fun _ _ iv _ => n - (intOf iv).toNat)
  case atStart =>
    exact ⟨0, 0, [], fun _ => False, none, 0, none, 0, _, 1, none, 0, ⟨by omega, rfl⟩, rfl, rfl, rfl, hide ⟨rfl, fun j hj => by omega, hJ1, hM1, fun j x hx => by simp at hx, fun h => by omega⟩⟩
  case round =>
    obtain ⟨i, q, pre, S, a, c, b, d, f, g, e, h, ⟨hi, hq⟩, rfl, rfl, rfl, hh⟩ := hrel
    by_cases hlt : i < n
    · have hlt' : (i : Int) < (n : Int) := by omega
      by_cases hi0 : i = 0
      · subst hi0
        have : q = 0 := by omega
        subst this
        obtain ⟨e1, e2, e3, e4, e5⟩ := hJB _ _ _ hh.out.2.2.1
        have j0 := hh.out.2.2.2.1.j0
        have j1 := hh.out.2.2.2.1.j1
        have j2 := hh.out.2.2.2.1.j2
        have hng : ¬ ((0 : Int) < ((0 : Nat) : Int)) := by omega
        obtain ⟨fn, tmps, assign, body, hy, hR⟩ := hY _ _ ⟨0, a, c, b, d, f, g⟩ wr hh.out.2.2.1 ⟨by rw [hh.out.1], hlt, hh.out.2.1, ⟨hh.out.2.2.2.1.oa.mono hW.size, hh.out.2.2.2.1.ob.mono hW.size, hh.out.2.2.2.1.of.mono hW.size⟩, fun y hy => by
          rcases hy with h' | h' | h'
          · exact (hh.out.2.2.2.1.sa y h').1
          · exact (hh.out.2.2.2.1.sb y h').1
          · exact (hh.out.2.2.2.1.sf y h').1⟩
        dsimp only [oxE] at hy
        replace hi := hide hi
        replace hq := hide hq
        gi_wp2
        refine hR.mono ?_
        rintro e' W3 (⟨rfl, hA3, S', hS', hJ3⟩ | ⟨rfl, hr3, pre', S', hJ3⟩)
        · gi_wp2
          go_roundw
          case rel =>
            exact ⟨1, 0, pre ++ [⟨0, a, c, b, d, f, g⟩], S', a, c, b, d, f, g, e, h, ⟨by have := hlt; omega, rfl⟩, rfl, rfl, rfl, hide ⟨by rw [List.length_append, hh.out.1]; rfl, hh.out.2.1, hJ3, hh.out.2.2.2.1.round hA3 hS', fun j x hx => by
              have hpl := hh.out.1
              have : pre = [] := List.eq_nil_of_length_eq_zero hpl
              subst this
              cases j with
              | zero =>
                simp at hx
                subst hx
                have hM3 := hh.out.2.2.2.1.round hA3 hS'
                exact ⟨rfl, hM3.of, fun y hy => ⟨(hM3.sf y hy).1, (hM3.sf y hy).2, fun h' => (hM3.sa y h').2.2.2.1 hy, fun h' => (hM3.sb y h').2.2.1 hy⟩⟩
              | succ j => simp at hx, fun _ => by
              have hpl := hh.out.1
              have : pre = [] := List.eq_nil_of_length_eq_zero hpl
              subst this
              rfl⟩⟩
          case measure => first | (simp [intOf]; done) | (simp [intOf]; omega)
        · gi_wp2
          exact ⟨rfl, pre', S', hJ3, .inr ⟨rfl, hr3⟩⟩
      · have hq1 := hide (show i = q + 1 by omega)
        have hqb : q + 1 < n := by omega
        have hgt : (0 : Int) < (i : Int) := by omega
        have wi : IntKind.i64.wrap ((i : Int) - 1) = (i : Int) - 1 := IntWalk.i64_in _ (by omega)
        obtain ⟨e1, e2, e3, e4, e5⟩ := hJB _ _ _ hh.out.2.2.1
        have j0 := hh.out.2.2.2.1.j0
        have j1 := hh.out.2.2.2.1.j1
        have j2 := hh.out.2.2.2.1.j2
        have z0 := hh.out.2.2.2.1.z0
        have z1 := hh.out.2.2.2.1.z1
        have z2 := hh.out.2.2.2.1.z2
        replace hi := hide hi
        replace hq := hide hq
        by_cases hN : Nxt p xs q
        · have hM := hide hh.out.2.2.2.1
          have hSS := hSl _ _ _ hh.out.2.2.1
          have fsl := hM.out.of.sl
          rw [(opL_len hp xs q (by omega)).1] at fsl
          have lj : W.heap.size + 1 < wr.heap.size := World.block_lt_of_cell? wr _ j0
          gi_wp2_with fail
          refine ⟨trivial, (callsIn_wide.2 (longer_ok p a2 n2 c2 xs q a c b d f g W.heap.size wr e5 fsl hP hx b2 (by omega) hN hh.out.2.1.told hM.out.oa hM.out.ob (fun x hx => (hM.out.sa x hx).2.2.1) (by omega))).mono ?_⟩
          rintro e' w1 ⟨a', c', b', d', rfl, ⟨oa, ob⟩, hne, ⟨la, lb⟩, hA⟩
          have pj : blk a ≠ some (W.heap.size + 1) ∧ blk b ≠ some (W.heap.size + 1) := ⟨fun h => (hM.out.sa _ h).2.1 rfl, fun h => (hM.out.sb _ h).2.1 rfl⟩
          have c0 := hA.cell j0 pj
          have c1 := hA.cell j1 pj
          have c2' := hA.cell j2 pj
          have y0 := hA.frozen j0 z0 pj
          have y1 := hA.frozen j1 z1 pj
          have y2 := hA.frozen j2 z2 pj
          clear j0 j1 j2 z0 z1 z2 e1 e2 e3 e4 e5 fsl
          gi_wp2_with fail
          obtain ⟨w2, hw2⟩ : ∃ w2, ((w1.setCell ⟨W.heap.size + 1, 0, none⟩ (.int .i64 p)).setCell ⟨W.heap.size + 1, 1, none⟩ (.slice a' (q + 1) c')).setCell ⟨W.heap.size + 1, 2, none⟩ (.slice b' (q + 1) d') = w2 := ⟨_, rfl⟩
          rw [hw2]
          have Hw2 := hide hw2
          have n1 : ∀ x, blk a' = some x → x ≠ W.heap.size + 1 := fun x hx => by
            rcases la with l | l
            · exact (hM.out.sa x (by rw [← l]; exact hx)).2.1
            · have := l x hx; omega
          have n2' : ∀ x, blk b' = some x → x ≠ W.heap.size + 1 := fun x hx => by
            rcases lb with l | l
            · exact (hM.out.sb x (by rw [← l]; exact hx)).2.1
            · have := l x hx; omega
          have far : ∀ {B : Nat} {x : Option Addr} {n : Nat} {ys : List Int}, Own B w1 x n ys → (∀ z, blk x = some z → z ≠ W.heap.size + 1) → Own B w2 x n ys := fun o hz => by
            rw [← hw2]
            exact ((o.setFar (x := ⟨W.heap.size + 1, 0, none⟩) (fun z h e => hz z h e.symm) _).setFar (x := ⟨W.heap.size + 1, 1, none⟩) (fun z h e => hz z h e.symm) _).setFar (x := ⟨W.heap.size + 1, 2, none⟩) (fun z h e => hz z h e.symm) _
          have sA := (far oa n1).sl
          have sB := (far ob n2').sl
          have sF := (far (hM.out.of.agr hA fun x hx => ⟨fun h' => (hM.out.sa x h').2.2.2.1 hx, fun h' => (hM.out.sb x h').2.2.1 hx⟩) fun z h => (hM.out.sf z h).2).sl
          have sE := (far (hM.out.oe.agr hA fun x hx => ⟨fun h' => (hM.out.sa x h').2.2.2.2 hx, fun h' => (hM.out.sb x h').2.2.2 hx⟩) fun z h => (hM.out.se z h).2).sl
          have lE : (bfL p xs q).length = q := by
            unfold bfL
            by_cases h0 : q = 0
            · rw [if_pos h0, h0]; rfl
            · rw [if_neg h0, (opL_len hp xs (q - 1) (by omega)).1]; omega
          rw [(jdL_len p xs (q + 1)).1] at sA
          rw [(jdL_len p xs (q + 1)).2] at sB
          rw [(opL_len hp xs q (by omega)).1] at sF
          rw [lE] at sE
          have aE : areB p (bfL p xs q) = true := by
            unfold bfL
            by_cases h0 : q = 0
            · rw [if_pos h0]; rfl
            · rw [if_neg h0]; exact (opL_small hp xs (q - 1) (by omega)).are
          have jat := jdL_at p xs q (q + 1) (by omega)
          have rA : 0 ≤ opA p xs q ∧ opA p xs q < p := modb hp
          have rB : 0 ≤ opB p xs q ∧ opB p xs q < p := modb hp
          have v2 : w2.cell? ⟨W.heap.size + 1, 0, none⟩ = some (.int .i64 p) := by
            rw [← hw2]
            exact cell_setO (cell_setO (World.cell?_setCell_same _ _ _ c0) (by simp) _) (by simp) _
          have v3 : w2.cell? ⟨W.heap.size + 1, 1, none⟩ = some (.slice a' (q + 1) c') := by
            rw [← hw2]
            exact cell_setO (World.cell?_setCell_same _ _ _ (cell_setO c1 (by simp) _)) (by simp) _
          have v4 : w2.cell? ⟨W.heap.size + 1, 2, none⟩ = some (.slice b' (q + 1) d') := by
            rw [← hw2]
            exact World.cell?_setCell_same _ _ _ (cell_setO (cell_setO c2' (by simp) _) (by simp) _)
          clear hw2 far lE c0 c1 c2' y0 y1 y2
          refine ⟨trivial, (callsIn_wide.2 (nextPoly_any p a' (q + 1) c' _ b' (q + 1) d' _ q ((i : Int) - 1) (opA p xs q) (opB p xs q) e q h (bfL p xs q) f (q + 1) g (opL p xs q) w2 sA sB sE sF (by have := hq1.out; omega) jat.1 jat.2 (by omega) (by omega) (by have := hq1.out; omega) (by have := hq1.out; omega) hp hp2 rA.1 rA.2 rB.1 rB.2 aE (opL_small hp xs q (by have := hq1.out; omega)).are (by have := hq1.out; omega) (by have := hq1.out; omega))).mono ?_⟩
          rintro e' w3 ⟨f', g', rfl, of, hb3⟩
          have hop : stp p (opA p xs q) (opB p xs q) (opL p xs q) (bfL p xs q) = opL p xs (q + 1) := (opL_next p xs q).symm
          rw [hop] at of ⊢
          rw [(opL_len hp xs (q + 1) (by have := hq1.out; omega)).1]
          have hM3 := hide (hM.out.next (fun x hs => (hSS x hs).2) oa ob hne la lb hA Hw2.out of hb3)
          have hC3 := hide (hh.out.2.2.2.2.1.next (q := q) (c' := c') (d' := d') la lb hA Hw2.out hb3)
          have hJ3 := hJ _ _ _ _ hh.out.2.2.1 (show Agr (fun b => b < W.heap.size ∨ S b) wr w3 from by
            refine (hA.mono fun x _ hx => ?_).trans ((?_ : Agr _ w1 w2).trans (Agr.new hb3))
            · rcases hx with hx | hx
              · exact ⟨fun h' => by have := hM.out.oa.low x h'; omega, fun h' => by have := hM.out.ob.low x h'; omega⟩
              · exact ⟨fun h' => (hM.out.sa x h').1 hx, fun h' => (hM.out.sb x h').1 hx⟩
            · rw [← Hw2.out]
              have nj : ¬ (W.heap.size + 1 < W.heap.size ∨ S (W.heap.size + 1)) := fun h' => by
                rcases h' with h' | h'
                · omega
                · exact hM.out.sj h'
              exact ((Agr.setCell _ _ nj).trans (Agr.setCell _ _ nj)).trans (Agr.setCell _ _ nj))
          have hT3 : TL p xs (q + 1) := fun j hj => by
            by_cases h' : j = q
            · rw [h']; exact hN
            · exact hh.out.2.1 j (by omega)
          clear hop sA sB sF sE aE jat v2 v3 v4 n1 n2' hM lj hne la lb hA Hw2 of hb3 oa ob
          have j0 := hM3.out.j0
          have j1 := hM3.out.j1
          have j2 := hM3.out.j2
          obtain ⟨fn, tmps, assign, body, hy, hR⟩ := hY _ _ ⟨q + 1, a', c', b', d', f', g'⟩ w3 hJ3 ⟨by show q + 1 = _; rw [hh.out.1]; exact hq1.out.symm, by show q + 1 < n; have := hq1.out; omega, hT3, ⟨hM3.out.oa.mono hW.size, hM3.out.ob.mono hW.size, hM3.out.of.mono hW.size⟩, fun y hy => by
            rcases hy with h' | h' | h'
            · exact (hM3.out.sa y h').1
            · exact (hM3.out.sb y h').1
            · exact (hM3.out.sf y h').1⟩
          dsimp only [oxE] at hy
          gi_wp2
          refine hR.mono ?_
          rintro e' W3 (⟨rfl, hA3, S', hS', hJ4⟩ | ⟨rfl, hr3, pre', S', hJ4⟩)
          · gi_wp2
            go_roundw
            case rel =>
              refine ⟨i + 1, q + 1, pre ++ [⟨q + 1, a', c', b', d', f', g'⟩], S', a', c', b', d', f', g', f, g, ⟨by have := hlt; omega, by have := hq1.out; omega⟩, by go_num, rfl, rfl, hide ⟨by rw [List.length_append, hh.out.1]; rfl, hT3, hJ4, hM3.out.round hA3 hS', fun j x hx => ?_, fun _ => ?_⟩⟩
              · by_cases hj : j < pre.length
                · rw [List.getElem?_append_left hj] at hx
                  exact hC3.out.round hA3 hS' j x hx
                · have hj2 : j = pre.length := by
                    have := (List.getElem?_eq_some_iff.1 hx).1
                    simp at this; omega
                  subst hj2
                  rw [List.getElem?_append_right (Nat.le_refl _)] at hx
                  simp at hx
                  subst hx
                  have hM4 := hM3.out.round hA3 hS'
                  refine ⟨by show q + 1 = _; rw [hh.out.1]; exact hq1.out.symm, ?_, fun y hy => ⟨(hM4.sf y hy).1, (hM4.sf y hy).2, fun h' => (hM4.sa y h').2.2.2.1 hy, fun h' => (hM4.sb y h').2.2.1 hy⟩⟩
                  rw [hh.out.1, hq1.out]
                  exact hM4.of
              · rw [← hq1.out, ← hh.out.1, List.getElem?_append_right (Nat.le_refl _)]
                simp
            case measure => first | (simp [intOf]; done) | (simp [intOf]; omega)
          · gi_wp2
            exact ⟨rfl, pre', S', hJ4, .inr ⟨rfl, hr3⟩⟩
        · have hM := hide hh.out.2.2.2.1
          have fsl := hM.out.of.sl
          rw [(opL_len hp xs q (by omega)).1] at fsl
          gi_wp2_with fail
          refine ⟨trivial, (callsIn_wide.2 (longer_no p a2 n2 c2 xs q a c b d f g ae wr e4 e5 fsl hP hx b2 (by omega) hN)).mono ?_⟩
          rintro e' w1 ⟨rfl, hb1⟩
          have hJ1' := hJ _ _ _ _ hh.out.2.2.1 (Agr.new hb1)
          gi_wp2
          exact ⟨rfl, pre, S, hJ1', .inr ⟨rfl, hRs fun hT => hN (hT q (by have := hq1.out; omega))⟩⟩
    · have hlt' : ¬ (i : Int) < (n : Int) := by omega
      gi_wp2
      go_end0
      obtain ⟨hpl, hT, hJ2, hM, hC, hX⟩ := hh.out
      have hin : i = n := by omega
      subst hin
      refine ⟨pre, ⟨S, hJ2⟩, .inl ⟨⟨_, rfl⟩, hpl, by rw [← hq]; exact hT, fun j x hx => ⟨(hC j x hx).1, (hC j x hx).2.1.mono hW.size⟩, fun x hx => ?_⟩⟩
      by_cases h0 : i = 0
      · have : pre = [] := List.eq_nil_of_length_eq_zero (by omega)
        rw [this] at hx; simp at hx
      · rw [← hq] at hx ⊢
        rw [hX (by omega)] at hx
        cases hx
        exact ⟨hM.oa.mono hW.size, hM.ob.mono hW.size, fun y hy => ⟨(hM.sa y hy).2.2.1, (hM.sa y hy).2.2.2.1⟩⟩
end Go.Proofs.YtdjifjlgllohmaaDoor
