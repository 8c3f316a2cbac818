/- Contracts: eliminate, determinant (program). -/
import Derived.Test.YtagheoddbikdgaaHd
import Derived.Test.YtagheoddbikdgaaRx
import Derived.Test.YtagheoddbikdgaaAx
namespace Go.Proofs.Ytagheoddbikdgaa
open Go.RowKit
set_option linter.unusedVariables false
set_option linter.unusedSimpArgs false

theorem stepR_at (p : Int) (n k m : Nat) (X : Nat → List Int) (i : Nat) (h : i ≤ k ∨ m ≤ i) : stepR p n k m X i = X i := by
  unfold stepR
  rw [if_neg (by omega)]
theorem stepR_len (p : Int) (n k m : Nat) (X : Nat → List Int) (h : ∀ i, (X i).length = n) (i : Nat) : (stepR p n k m X i).length = n := by
  unfold stepR elimR
  split
  · exact tab_len _ _
  · exact h i
theorem stepR_next (p : Int) (n k m : Nat) (X : Nat → List Int) (i : Nat) (h : i ≠ m) : stepR p n k (m + 1) X i = stepR p n k m X i := by
  unfold stepR
  by_cases e : k < i ∧ i < m
  · rw [if_pos e, if_pos (by omega)]
  · rw [if_neg e, if_neg (by omega)]
theorem elim_add (p : Int) (own row : List Int) (k n : Nat) (h : row.length = n) : addlM p ((p - invM p (own.getD k 0)) * row.getD k 0 % p) row own = elimR p own row k n := by
  unfold addlM elimR
  rw [h]
  apply tab_congr
  intro j _
  exact elim_eq p _ _ _ _
theorem elimR_are {p : Int} (hp : 2 ≤ p) (own row : List Int) (k n : Nat) : areB p (elimR p own row k n) = true := tab_are fun _ _ => modb hp
theorem stepR_are {p : Int} (hp : 2 ≤ p) (n k m : Nat) (X : Nat → List Int) (N : Nat) (h : ∀ i, i < N → areB p (X i) = true) (i : Nat) (hi : i < N) : areB p (stepR p n k m X i) = true := by
  unfold stepR
  split
  · exact elimR_are hp _ _ _ _
  · exact h i hi
set_option maxRecDepth 100000 in
set_option maxHeartbeats 3200000 in
theorem eliminate_any (p : Int) (B g n cap k : Nat) (vs : List Value) (X : Nat → List Int) (w : World) (h : RowsX B g n cap w vs X n) (hk : k < n) (hn : n ≤ 1000) (hp : 2 ≤ p) (hp2 : p ≤ 10007) (hX : ∀ i, i < n → areB p (X i) = true) :
    Calls Try.prog 144 #[.int .i64 p, .slice (some ⟨g, 0, none⟩) n cap, .int .i64 k] w
      fun e w' => e = .returned (.tuple #[]) ∧ (∃ vs', RowsX B g n cap w' vs' (stepR p n k n X) n) ∧ Touch g (g + 1) w w' := by
  have HX := hide hX
  obtain ⟨ak, ck, e1, s1, _, _⟩ := h.get k hk
  obtain ⟨bk, ok, rfl, _, hck⟩ := s1.at (by omega)
  have e2 := hck k hk
  have r1 := getD_rng (hX k hk) hp k
  obtain ⟨x, hx⟩ : ∃ x, (X k).getD k 0 = x := ⟨_, rfl⟩
  rw [hx] at e2 r1
  have Hx := hide hx
  have rI := invM_rng (p := p) x hp
  obtain ⟨I, hI⟩ : ∃ I, invM p x = I := ⟨_, rfl⟩
  have HI := hide hI
  rw [hI] at rI
  have hkn : (k : Int) < (n : Int) := by omega
  have hgl := (h.own.lt (by rw [h.len]; omega))
  have H := hide h
  clear hck hX h hx hI
  have vI : IntKind.i64.wrap (p - I) = p - I := IntWalk.i64_in _ (by omega)
  have vk : IntKind.i64.wrap ((k : Int) + 1) = (k : Int) + 1 := IntWalk.i64_in _ (by omega)
  go_enter Try.func144, Try.ntmps144
  go_wp2_with fail
  refine (inverse_any p x _ hp hp2 r1.1 r1.2).mono ?_
  rintro e w1 ⟨rfl, t1⟩
  rw [HI.out]
  have z1 := t1.size
  have hR0 : Hid (RowsX B g n cap w1 vs (stepR p n k (k + 1) X) n) := hide ((H.out.below t1).congr (fun i hi => by unfold stepR; rw [if_neg (by omega)]))
  have hT0 : Touch g (g + 1) w w1 := Touch.ofBelow t1
  clear e1 e2 s1
  go_wp2_with fail
  clear vk
  go_loopw [7] (fun iv wr => ∃ (i : Nat) (us : List Value), k + 1 ≤ i ∧ i ≤ n ∧ iv = .int .i64 i ∧ Hid (RowsX B g n cap wr us (stepR p n k i X) n) ∧ Hid (Touch g (g + 1) w wr)) (fun iv _ => n - (intOf iv).toNat)
  case atStart => exact ⟨k + 1, vs, Nat.le_refl _, by omega, by go_num, hR0, hide hT0⟩
  case round =>
    obtain ⟨i, us, hik, hi, rfl, hR, hT⟩ := hrel
    clear hR0 hT0
    by_cases hlt : i < n
    · have hlt' : (i : Int) < (n : Int) := by omega
      obtain ⟨ai, ci, c1, s1, g1, f1⟩ := hR.out.get i hlt
      obtain ⟨ak, ck', c2, s2, g2, f2⟩ := hR.out.get k hk
      rw [stepR_at p n k i X i (.inr (Nat.le_refl _))] at s1
      rw [stepR_at p n k i X k (.inl (Nat.le_refl _))] at s2
      obtain ⟨bi, oi, rfl, _, hci⟩ := s1.at (by omega)
      have c3 := hci k hk
      have r3 := getD_rng (HX.out i hlt) hp k
      have HF : Hid (∀ y, (X i).getD k 0 = y → addlM p ((p - I) * y % p) (X i) (X k) = elimR p (X k) (X i) k n) := hide (fun y hy => by rw [← hy, ← HI.out, ← Hx.out]; exact elim_add p (X k) (X i) k n s1.len)
      obtain ⟨y, hy⟩ : ∃ y, (X i).getD k 0 = y := ⟨_, rfl⟩
      have HF2 := hide (HF.out y hy)
      rw [hy] at c3 r3
      clear hy HF hci
      have m1 : 0 ≤ (p - I) * y := Int.mul_nonneg (by omega) r3.1
      have m2 : (p - I) * y ≤ 10007 * 10007 := Int.mul_le_mul (by omega) (by omega) r3.1 (by omega)
      have v1 : IntKind.i64.wrap ((p - I) * y) = (p - I) * y := IntWalk.i64_in _ (by omega)
      have v2 : ((p - I) * y).tmod p = (p - I) * y % p := Int.tmod_eq_emod_of_nonneg m1
      have rF := modb (x := (p - I) * y) hp
      obtain ⟨F, hF⟩ : ∃ F, (p - I) * y % p = F := ⟨_, rfl⟩
      rw [hF] at v2 rF HF2
      have v3 : IntKind.i64.wrap F = F := IntWalk.i64_in _ (by omega)
      have vi : IntKind.i64.wrap ((i : Int) + 1) = (i : Int) + 1 := IntWalk.i64_in _ (by omega)
      have hp0 : ¬ p = 0 := by omega
      have hi0 : (0 : Int) ≤ (i : Int) := by omega
      have hk0 : (0 : Int) ≤ (k : Int) := by omega
      have A1 := hide (HX.out i hlt)
      have A2 := hide (HX.out k hk)
      clear hF m1 m2
      have hbd := (Below.refl wr.heap.size wr).drew
      have hgw := World.block_lt_of_cell? _ _ c1
      simp only at hgw
      go_upto_region 4 with fail
      refine region_E (fun w' => w'.cell? ⟨g, i, none⟩ = some (.slice (some ⟨bi, oi, none⟩) n ci) ∧ w'.cell? ⟨g, k, none⟩ = some (.slice ak n ck') ∧ w'.cell? ⟨bi, oi + k, none⟩ = some (.int .i64 y)) 24 (by kernel_rfl) ⟨cell_be hbd c1, cell_be hbd c2, cell_be hbd c3⟩ ?_
      intro hS
      refine anyE_takeL 0 rfl (by kernel_rfl) (fun _ _ _ h => h) hS (by rfl) (v := ?_) ?_ ?_
      rotate_left
      · intro w' hSw; (try dsimp only at hSw); go_simp; (try with_reducible rfl)
      try simp only [Act.put, List.setIfInBounds_toArray, List.set_cons_zero, List.set_cons_succ]
      refine anyE_takeL 1 rfl (by kernel_rfl) (fun _ _ _ h => h) hS (by rfl) (v := ?_) ?_ ?_
      rotate_left
      · intro w' hSw; (try dsimp only at hSw); go_simp; (try with_reducible rfl)
      try simp only [Act.put, List.setIfInBounds_toArray, List.set_cons_zero, List.set_cons_succ]
      refine anyE_takeL 2 rfl (by kernel_rfl) (fun _ _ _ h => h) hS (by rfl) (v := ?_) ?_ ?_
      rotate_left
      · intro w' hSw; (try dsimp only at hSw); go_simp; (try with_reducible rfl)
      try simp only [Act.put, List.setIfInBounds_toArray, List.set_cons_zero, List.set_cons_succ]
      refine anyE_takeL 3 rfl (by kernel_rfl) (fun _ _ _ h => h) hS (by rfl) (v := ?_) ?_ ?_
      rotate_left
      · intro w' hSw; (try dsimp only at hSw); go_simp; (try with_reducible rfl)
      try simp only [Act.put, List.setIfInBounds_toArray, List.set_cons_zero, List.set_cons_succ]
      refine anyE_takeL 4 rfl (by kernel_rfl) (fun _ _ _ h => h) hS (by rfl) (v := ?_) ?_ ?_
      rotate_left
      · intro w' hSw; (try dsimp only at hSw); go_simp; (try with_reducible rfl)
      try simp only [Act.put, List.setIfInBounds_toArray, List.set_cons_zero, List.set_cons_succ]
      refine anyE_takeL 5 rfl (by kernel_rfl) (fun _ _ _ h => h) hS (by rfl) (v := ?_) ?_ ?_
      rotate_left
      · intro w' hSw; (try dsimp only at hSw); go_simp; (try with_reducible rfl)
      try simp only [Act.put, List.setIfInBounds_toArray, List.set_cons_zero, List.set_cons_succ]
      refine anyE_takeL 6 rfl (by kernel_rfl) (fun _ _ _ h => h) hS (by rfl) (v := ?_) ?_ ?_
      rotate_left
      · intro w' hSw; (try dsimp only at hSw); go_simp; (try with_reducible rfl)
      try simp only [Act.put, List.setIfInBounds_toArray, List.set_cons_zero, List.set_cons_succ]
      refine anyE_takeL 7 rfl (by kernel_rfl) (fun _ _ _ h => h) hS (by rfl) (v := ?_) ?_ ?_
      rotate_left
      · intro w' hSw; (try dsimp only at hSw); go_simp; (try with_reducible rfl)
      try simp only [Act.put, List.setIfInBounds_toArray, List.set_cons_zero, List.set_cons_succ]
      refine anyE_takeL 8 rfl (by kernel_rfl) (fun _ _ _ h => h) hS (by rfl) (v := ?_) ?_ ?_
      rotate_left
      · intro w' hSw; (try dsimp only at hSw); go_simp; (try with_reducible rfl)
      try simp only [Act.put, List.setIfInBounds_toArray, List.set_cons_zero, List.set_cons_succ]
      refine anyE_takeL 9 rfl (by kernel_rfl) (fun _ _ _ h => h) hS (by rfl) (v := ?_) ?_ ?_
      rotate_left
      · intro w' hSw; (try dsimp only at hSw); go_simp; (try with_reducible rfl)
      try simp only [Act.put, List.setIfInBounds_toArray, List.set_cons_zero, List.set_cons_succ]
      refine anyE_takeL 10 rfl (by kernel_rfl) (fun _ _ _ h => h) hS (by rfl) (v := ?_) ?_ ?_
      rotate_left
      · intro w' hSw; (try dsimp only at hSw); go_simp; (try with_reducible rfl)
      try simp only [Act.put, List.setIfInBounds_toArray, List.set_cons_zero, List.set_cons_succ]
      refine anyE_takeL 11 rfl (by kernel_rfl) (fun _ _ _ h => h) hS (by rfl) (v := ?_) ?_ ?_
      rotate_left
      · intro w' hSw; (try dsimp only at hSw); go_simp; (try with_reducible rfl)
      try simp only [Act.put, List.setIfInBounds_toArray, List.set_cons_zero, List.set_cons_succ]
      refine anyE_takeL 12 rfl (by kernel_rfl) (fun _ _ _ h => h) hS (by rfl) (v := ?_) ?_ ?_
      rotate_left
      · intro w' hSw; (try dsimp only at hSw); go_simp; (try with_reducible rfl)
      try simp only [Act.put, List.setIfInBounds_toArray, List.set_cons_zero, List.set_cons_succ]
      refine anyE_takeL 13 rfl (by kernel_rfl) (fun _ _ _ h => h) hS (by rfl) (v := ?_) ?_ ?_
      rotate_left
      · intro w' hSw; (try dsimp only at hSw); go_simp; (try with_reducible rfl)
      try simp only [Act.put, List.setIfInBounds_toArray, List.set_cons_zero, List.set_cons_succ]
      refine anyE_takeL 14 rfl (by kernel_rfl) (fun _ _ _ h => h) hS (by rfl) (v := ?_) ?_ ?_
      rotate_left
      · intro w' hSw; (try dsimp only at hSw); go_simp; (try with_reducible rfl)
      try simp only [Act.put, List.setIfInBounds_toArray, List.set_cons_zero, List.set_cons_succ]
      refine anyE_takeL 15 rfl (by kernel_rfl) (fun _ _ _ h => h) hS (by rfl) (v := ?_) ?_ ?_
      rotate_left
      · intro w' hSw; (try dsimp only at hSw); go_simp; (try with_reducible rfl)
      try simp only [Act.put, List.setIfInBounds_toArray, List.set_cons_zero, List.set_cons_succ]
      refine anyE_takeL 16 rfl (by kernel_rfl) (fun _ _ _ h => h) hS (by rfl) (v := ?_) ?_ ?_
      rotate_left
      · intro w' hSw; (try dsimp only at hSw); go_simp; (try with_reducible rfl)
      try simp only [Act.put, List.setIfInBounds_toArray, List.set_cons_zero, List.set_cons_succ]
      refine anyE_takeL 17 rfl (by kernel_rfl) (fun _ _ _ h => h) hS (by rfl) (v := ?_) ?_ ?_
      rotate_left
      · intro w' hSw; (try dsimp only at hSw); go_simp; (try with_reducible rfl)
      try simp only [Act.put, List.setIfInBounds_toArray, List.set_cons_zero, List.set_cons_succ]
      refine anyE_takeL 18 rfl (by kernel_rfl) (fun _ _ _ h => h) hS (by rfl) (v := ?_) ?_ ?_
      rotate_left
      · intro w' hSw; (try dsimp only at hSw); go_simp; (try with_reducible rfl)
      try simp only [Act.put, List.setIfInBounds_toArray, List.set_cons_zero, List.set_cons_succ]
      refine anyE_takeL 19 rfl (by kernel_rfl) (fun _ _ _ h => h) hS (by rfl) (v := ?_) ?_ ?_
      rotate_left
      · intro w' hSw; (try dsimp only at hSw); go_simp; (try with_reducible rfl)
      try simp only [Act.put, List.setIfInBounds_toArray, List.set_cons_zero, List.set_cons_succ]
      refine anyE_takeL 20 rfl (by kernel_rfl) (fun _ _ _ h => h) hS (by rfl) (v := ?_) ?_ ?_
      rotate_left
      · intro w' hSw; (try dsimp only at hSw); go_simp; (try with_reducible rfl)
      try simp only [Act.put, List.setIfInBounds_toArray, List.set_cons_zero, List.set_cons_succ]
      refine anyE_takeL 21 rfl (by kernel_rfl) (fun _ _ _ h => h) hS (by rfl) (v := ?_) ?_ ?_
      rotate_left
      · intro w' hSw; (try dsimp only at hSw); go_simp; (try with_reducible rfl)
      try simp only [Act.put, List.setIfInBounds_toArray, List.set_cons_zero, List.set_cons_succ]
      refine anyE_oneL 22 (by kernel_rfl) rfl (fun K' hK' => ?_)
      go_simp
      refine (addList_any p F _ _ _ (X i) _ _ _ (X k) _ (s1.below hbd) (s2.below hbd) hn (Nat.le_refl _) hp hp2 rF.1 rF.2 A1.out A2.out).mono ?_
      rintro e w3 ⟨a3, rfl, o3, t3⟩
      dsimp only
      have hm3 := bnext hbd t3
      have S3 := And.intro (cell_be hm3 c1) (And.intro (cell_be hm3 c2) (cell_be hm3 c3))
      refine hK'.out _ _ S3 ?_
      clear hK' K'
      try simp only [Act.put, List.setIfInBounds_toArray, List.set_cons_zero, List.set_cons_succ]
      refine anyE_takeL 23 rfl (by kernel_rfl) (fun _ _ _ h => h) S3 (by rfl) (v := ?_) ?_ ?_
      rotate_left
      · intro w' hSw; (try dsimp only at hSw); go_simp; (try with_reducible rfl)
      try simp only [Act.put, List.setIfInBounds_toArray, List.set_cons_zero, List.set_cons_succ]
      clear hS
      refine anyE_lastL (by kernel_rfl) rfl (by kernel_rfl) (fun K' hK' => ?_)
      have f3 := (hm3.frozen (World.block_lt_of_cell? _ _ c1)).trans f1
      have c3' := S3.1
      go_simp
      refine hK'.out _ _ ?_
      clear hK' K'
      try simp only [Act.put, List.setIfInBounds_toArray, List.set_cons_zero, List.set_cons_succ]
      have g3 : blk a3 ≠ some g := fun e => by
        have := own_blk_ge o3 g e
        simp at this
        omega
      have hR3 : Hid (RowsX B g n cap (w3.setCell ⟨g, i, none⟩ (.slice a3 n n)) (us.set i (.slice a3 n n)) (stepR p n k (i + 1) X) n) := hide ((hR.out.below hm3).put i hlt (by
        have t := o3.sl
        rw [HF2.out] at t
        rw [show (elimR p (X k) (X i) k n).length = n from tab_len _ _] at t
        unfold stepR
        rw [if_pos (by omega)]
        exact t) g3 (fun j hj hne => stepR_next p n k i X j hne))
      have hT3 : Hid (Touch g (g + 1) w (w3.setCell ⟨g, i, none⟩ (.slice a3 n n))) := hide ((hT.out.trans (Touch.ofBelow hm3)).set (by simp) (by simp) _)
      clear hR hT S3 c3' c1 c2 c3 o3 s1 s2 v1 v2 v3 hm3 t3 hbd
      go_wp2
      go_roundw
      case rel => exact ⟨i + 1, _, by omega, by omega, by go_num, hR3, hT3⟩
      case measure => simp [intOf]; omega
    · have hin : i = n := by omega
      have hge : ¬ (i : Int) < (n : Int) := by omega
      have Hin := hide hin
      clear hin
      go_wp2
      refine bodyPost_end (v := .tuple #[]) (by simp [results, Try.results144]) rfl ?_
      exact ⟨rfl, ⟨us, by have t := hR.out; rwa [Hin.out] at t⟩, hT.out⟩
end Go.Proofs.Ytagheoddbikdgaa
