/- Contract: MomentsOfNodes (model). -/
import Derived.Test.YtagheoddbikdgaaNq
namespace Go.Proofs.Ytagheoddbikdgaa
open Go.RowKit
set_option linter.unusedVariables false
set_option linter.unusedSimpArgs false

set_option maxRecDepth 100000 in
set_option maxHeartbeats 3200000 in
theorem specMomentsOfNodes (p : Int) (a1 : Option Addr) (n1 c1 : Nat) (xs : List Int) (a2 : Option Addr) (n2 c2 : Nat) (ys : List Int) (k : Int) (w : World) (h1 : SL w a1 n1 c1 xs) (h2 : SL w a2 n2 c2 ys) (b1 : n1 ≤ 4000000) (b2 : n2 ≤ 4000000) :
    Calls Try.prog 42 #[.int .i64 p, .slice a1 n1 c1, .slice a2 n2 c2, .int .i64 k] w (ResM w (mnP p xs ys k) (mnV p xs ys k) (mnC p xs ys k)) := by
  have hl1 := hide h1.len
  have hl2 := hide h2.len
  have hb0 := bl1 w (.cells #[.int .i64 0, .slice none 0 0] 46)
  replace h1 := h1.below hb0
  replace h2 := h2.below hb0
  cases hM : mnOk p xs ys
  · have HM := hide hM
    have HC := hide (show mnC p xs ys k = 2 by simp [mnC, hM])
    have HV := hide (show mnV p xs ys k = [] by simp [mnV, HC.out])
    have HQ := hide (show mnP p xs ys k = 0 by simp [mnP, HC.out])
    clear hM
    go_enter Try.func42, Try.ntmps42
    go_wp2_with fail
    refine (l02Nodes_any p _ _ _ xs _ _ _ ys _ h1 h2 b1 b2).mono ?_
    rintro e w1 ⟨rfl, t1⟩
    rw [HM.out]
    have r0 : w1.cell? ⟨w.heap.size, 0, none⟩ = some (.int .i64 0) := cell_be t1 (by simp [go_sem])
    have yr0 : w1.frozen? ⟨w.heap.size, 0, none⟩ = false := (t1.frozen (by simp)).trans (by simp [go_sem])
    have r1 : w1.cell? ⟨w.heap.size, 1, none⟩ = some (.slice none 0 0) := cell_be t1 (by simp [go_sem])
    have yr1 : w1.frozen? ⟨w.heap.size, 1, none⟩ = false := (t1.frozen (by simp)).trans (by simp [go_sem])
    replace h1 := h1.below t1
    replace h2 := h2.below t1
    have B1 := bnext hb0 t1
    have z1 := B1.size
    try simp only [World.size_alloc] at z1
    go_wp2
    refine bodyPost_ret (v := .tuple #[mom 0 none 0 0, .int .i64 2]) (by simp [results, Try.results42, go_sem, r0, r1]) rfl ?_
    exact ResM.nil HQ.out HV.out HC.out ((B1.setCell (by first | omega | (simp; done) | (simp; omega) | exact Nat.le_refl _) _).setCell (by first | omega | (simp; done) | (simp; omega) | exact Nat.le_refl _) _)
  have HM := hide hM
  by_cases hN : 1 ≤ k ∧ k ≤ 24
  rotate_left
  · have HC := hide (show mnC p xs ys k = 2 by simp only [mnC, decide_eq_false hN, Bool.and_false]; rfl)
    have HV := hide (show mnV p xs ys k = [] by simp [mnV, HC.out])
    have HQ := hide (show mnP p xs ys k = 0 by simp [mnP, HC.out])
    clear hM
    go_enter Try.func42, Try.ntmps42
    go_wp2_with fail
    refine (l02Nodes_any p _ _ _ xs _ _ _ ys _ h1 h2 b1 b2).mono ?_
    rintro e w1 ⟨rfl, t1⟩
    rw [HM.out]
    have r0 : w1.cell? ⟨w.heap.size, 0, none⟩ = some (.int .i64 0) := cell_be t1 (by simp [go_sem])
    have yr0 : w1.frozen? ⟨w.heap.size, 0, none⟩ = false := (t1.frozen (by simp)).trans (by simp [go_sem])
    have r1 : w1.cell? ⟨w.heap.size, 1, none⟩ = some (.slice none 0 0) := cell_be t1 (by simp [go_sem])
    have yr1 : w1.frozen? ⟨w.heap.size, 1, none⟩ = false := (t1.frozen (by simp)).trans (by simp [go_sem])
    replace h1 := h1.below t1
    replace h2 := h2.below t1
    have B1 := bnext hb0 t1
    have z1 := B1.size
    try simp only [World.size_alloc] at z1
    go_wp2_with fail
    refine (l01In_no _ _ _ _ hN).mono ?_
    rintro e v2 ⟨rfl, rfl⟩
    go_wp2
    refine bodyPost_ret (v := .tuple #[mom 0 none 0 0, .int .i64 2]) (by simp [results, Try.results42, go_sem, r0, r1]) rfl ?_
    exact ResM.nil HQ.out HV.out HC.out ((B1.setCell (by first | omega | (simp; done) | (simp; omega) | exact Nat.le_refl _) _).setCell (by first | omega | (simp; done) | (simp; omega) | exact Nat.le_refl _) _)
  have HC0 : mnC p xs ys k = 0 := by simp only [mnC, hM, decide_eq_true hN]; rfl
  obtain ⟨n, rfl⟩ : ∃ n : Nat, k = n := ⟨k.toNat, by omega⟩
  have HC := hide HC0
  have HV := hide (show mnV p xs ys n = mnM p xs ys n by simp [mnV, HC.out])
  have HQ := hide (show mnP p xs ys n = p by simp [mnP, HC.out])
  have hmo := hM
  unfold mnOk at hmo
  simp only [Bool.and_eq_true, decide_eq_true_eq] at hmo
  obtain ⟨⟨⟨⟨⟨hP, c1'⟩, c2'⟩, hX⟩, hY⟩, hD⟩ := hmo
  obtain ⟨hp, hp2⟩ := primeB_lo hP
  rw [hl1.out] at c1'
  rw [hl1.out, hl2.out] at c2'
  subst c2'
  have HX := hide hX
  have HY := hide hY
  clear hM HC0 hP hX hY hD
  go_enter Try.func42, Try.ntmps42
  go_wp2_with fail
  refine (l02Nodes_any p _ _ _ xs _ _ _ ys _ h1 h2 b1 b2).mono ?_
  rintro e w1 ⟨rfl, t1⟩
  rw [HM.out]
  have r0 : w1.cell? ⟨w.heap.size, 0, none⟩ = some (.int .i64 0) := cell_be t1 (by simp [go_sem])
  have yr0 : w1.frozen? ⟨w.heap.size, 0, none⟩ = false := (t1.frozen (by simp)).trans (by simp [go_sem])
  have r1 : w1.cell? ⟨w.heap.size, 1, none⟩ = some (.slice none 0 0) := cell_be t1 (by simp [go_sem])
  have yr1 : w1.frozen? ⟨w.heap.size, 1, none⟩ = false := (t1.frozen (by simp)).trans (by simp [go_sem])
  replace h1 := h1.below t1
  replace h2 := h2.below t1
  have B1 := bnext hb0 t1
  have z1 := B1.size
  try simp only [World.size_alloc] at z1
  go_wp2_with fail
  refine (l01In_yes _ _ _ _ (by omega) (by omega)).mono ?_
  rintro e v2 ⟨rfl, rfl⟩
  go_wp2_with fail
  refine (l02Of_any p _ _ _ xs _ _ ys n _ h1 h2 (by omega) (by omega) hp hp2 HX.out HY.out).mono ?_
  rintro e w3 ⟨a', c', rfl, ho, t3⟩
  replace yr0 := (t3.frozen (World.block_lt_of_cell? _ _ r0)).trans yr0
  replace yr1 := (t3.frozen (World.block_lt_of_cell? _ _ r1)).trans yr1
  replace r0 := cell_be t3 r0
  replace r1 := cell_be t3 r1
  replace h1 := h1.below t3
  replace h2 := h2.below t3
  have B3 := bnext B1 t3
  have z3 := B3.size
  try simp only [World.size_alloc] at z3
  have ho2 := ho.mono (B' := w.heap.size) (by have q := t1.size; simp at q; omega)
  have hlo : w.heap.size < w1.heap.size := by have q := t1.size; simp at q; omega
  go_wp2
  refine bodyPost_ret (v := .tuple #[mom p a' n c', .int .i64 0]) (by simp [results, Try.results42, go_sem, r0, r1]) rfl ?_
  exact ResM.own HQ.out HC.out (by rw [HV.out]; exact (tab_len _ _).symm) (by rw [HV.out]; exact ((ho.setLow hlo _).setLow hlo _).mono (by omega)) (by rw [HV.out]; unfold mnM; rw [tab_len]; omega) ((B3.setCell (by first | omega | (simp; done) | (simp; omega) | exact Nat.le_refl _) _).setCell (by first | omega | (simp; done) | (simp; omega) | exact Nat.le_refl _) _)
end Go.Proofs.Ytagheoddbikdgaa
