/- Merged texts. -/
import Derived.Test.YtnojmghmkoojfaaYRs21
import Derived.Test.YtnojmghmkoojfaaYRs14
import Derived.BigRegion
/- Contracts: eliminate, determinant (program). -/
namespace Go.Proofs.Ytnojmghmkoojfaa
open Go.RowKit
set_option linter.unusedVariables false
set_option linter.unusedSimpArgs false

theorem stepR_at (p : Int) (n k m : Nat) (X : Nat → List Int) (i : Nat) (h : i ≤ k ∨ m ≤ i) : stepR p n k m X i = X i := by
  unfold stepR
  rw [if_neg (by omega)]
theorem stepR_len (p : Int) (n k m : Nat) (X : Nat → List Int) (h : ∀ i, (X i).length = n) (i : Nat) : (stepR p n k m X i).length = n := by
  unfold stepR elimR
  split
  · exact tab_len _ _
  · exact h i
theorem stepR_next (p : Int) (n k m : Nat) (X : Nat → List Int) (i : Nat) (h : i ≠ m) : stepR p n k (m + 1) X i = stepR p n k m X i := by
  unfold stepR
  by_cases e : k < i ∧ i < m
  · rw [if_pos e, if_pos (by omega)]
  · rw [if_neg e, if_neg (by omega)]
theorem elim_add (p : Int) (own row : List Int) (k n : Nat) (h : row.length = n) : addlM p ((p - invM p (own.getD k 0)) * row.getD k 0 % p) row own = elimR p own row k n := by
  unfold addlM elimR
  rw [h]
  apply tab_congr
  intro j _
  exact elim_eq p _ _ _ _
theorem elimR_are {p : Int} (hp : 2 ≤ p) (own row : List Int) (k n : Nat) : areB p (elimR p own row k n) = true := tab_are fun _ _ => modb hp
theorem stepR_are {p : Int} (hp : 2 ≤ p) (n k m : Nat) (X : Nat → List Int) (N : Nat) (h : ∀ i, i < N → areB p (X i) = true) (i : Nat) (hi : i < N) : areB p (stepR p n k m X i) = true := by
  unfold stepR
  split
  · exact elimR_are hp _ _ _ _
  · exact h i hi
set_option maxRecDepth 100000 in
set_option maxHeartbeats 3200000 in
theorem eliminate_any (p : Int) (B g n cap k : Nat) (vs : List Value) (X : Nat → List Int) (w : World) (h : RowsX B g n cap w vs X n) (hk : k < n) (hn : n ≤ 1000) (hp : 2 ≤ p) (hp2 : p ≤ 10007) (hX : ∀ i, i < n → areB p (X i) = true) :
    Calls Try.prog 124 #[.int .i64 p, .slice (some ⟨g, 0, none⟩) n cap, .int .i64 k] w
      fun e w' => e = .returned (.tuple #[]) ∧ (∃ vs', RowsX B g n cap w' vs' (stepR p n k n X) n) ∧ Touch g (g + 1) w w' := by
  have HX := hide hX
  obtain ⟨ak, ck, e1, s1, _, _⟩ := h.get k hk
  obtain ⟨bk, ok, rfl, _, hck⟩ := s1.at (by omega)
  have e2 := hck k hk
  have r1 := getD_rng (hX k hk) hp k
  obtain ⟨x, hx⟩ : ∃ x, (X k).getD k 0 = x := ⟨_, rfl⟩
  rw [hx] at e2 r1
  have Hx := hide hx
  have rI := invM_rng (p := p) x hp
  obtain ⟨I, hI⟩ : ∃ I, invM p x = I := ⟨_, rfl⟩
  have HI := hide hI
  rw [hI] at rI
  have hkn : (k : Int) < (n : Int) := by omega
  have hgl := (h.own.lt (by rw [h.len]; omega))
  have H := hide h
  clear hck hX h hx hI
  have vI : IntKind.i64.wrap (p - I) = p - I := IntWalk.i64_in _ (by omega)
  have vk : IntKind.i64.wrap ((k : Int) + 1) = (k : Int) + 1 := IntWalk.i64_in _ (by omega)
  go_enter Try.func124, Try.ntmps124
  go_wp2_with fail
  refine (inverse_any p x _ hp hp2 r1.1 r1.2).mono ?_
  rintro e w1 ⟨rfl, t1⟩
  rw [HI.out]
  have z1 := t1.size
  have hR0 : Hid (RowsX B g n cap w1 vs (stepR p n k (k + 1) X) n) := hide ((H.out.below t1).congr (fun i hi => by unfold stepR; rw [if_neg (by omega)]))
  have hT0 : Touch g (g + 1) w w1 := Touch.ofBelow t1
  clear e1 e2 s1
  go_wp2_with fail
  clear vk
  go_loopw [7] (fun iv wr => ∃ (i : Nat) (us : List Value), k + 1 ≤ i ∧ i ≤ n ∧ iv = .int .i64 i ∧ Hid (RowsX B g n cap wr us (stepR p n k i X) n) ∧ Hid (Touch g (g + 1) w wr)) (fun iv _ => n - (intOf iv).toNat)
  case atStart => exact ⟨k + 1, vs, Nat.le_refl _, by omega, by go_num, hR0, hide hT0⟩
  case round =>
    obtain ⟨i, us, hik, hi, rfl, hR, hT⟩ := hrel
    clear hR0 hT0
    by_cases hlt : i < n
    · have hlt' : (i : Int) < (n : Int) := by omega
      obtain ⟨ai, ci, c1, s1, g1, f1⟩ := hR.out.get i hlt
      obtain ⟨ak, ck', c2, s2, g2, f2⟩ := hR.out.get k hk
      rw [stepR_at p n k i X i (.inr (Nat.le_refl _))] at s1
      rw [stepR_at p n k i X k (.inl (Nat.le_refl _))] at s2
      obtain ⟨bi, oi, rfl, _, hci⟩ := s1.at (by omega)
      have c3 := hci k hk
      have r3 := getD_rng (HX.out i hlt) hp k
      have HF : Hid (∀ y, (X i).getD k 0 = y → addlM p ((p - I) * y % p) (X i) (X k) = elimR p (X k) (X i) k n) := hide (fun y hy => by rw [← hy, ← HI.out, ← Hx.out]; exact elim_add p (X k) (X i) k n s1.len)
      obtain ⟨y, hy⟩ : ∃ y, (X i).getD k 0 = y := ⟨_, rfl⟩
      have HF2 := hide (HF.out y hy)
      rw [hy] at c3 r3
      clear hy HF hci
      have m1 : 0 ≤ (p - I) * y := Int.mul_nonneg (by omega) r3.1
      have m2 : (p - I) * y ≤ 10007 * 10007 := Int.mul_le_mul (by omega) (by omega) r3.1 (by omega)
      have v1 : IntKind.i64.wrap ((p - I) * y) = (p - I) * y := IntWalk.i64_in _ (by omega)
      have v2 : ((p - I) * y).tmod p = (p - I) * y % p := Int.tmod_eq_emod_of_nonneg m1
      have rF := modb (x := (p - I) * y) hp
      obtain ⟨F, hF⟩ : ∃ F, (p - I) * y % p = F := ⟨_, rfl⟩
      rw [hF] at v2 rF HF2
      have v3 : IntKind.i64.wrap F = F := IntWalk.i64_in _ (by omega)
      have vi : IntKind.i64.wrap ((i : Int) + 1) = (i : Int) + 1 := IntWalk.i64_in _ (by omega)
      have hp0 : ¬ p = 0 := by omega
      have hi0 : (0 : Int) ≤ (i : Int) := by omega
      have hk0 : (0 : Int) ≤ (k : Int) := by omega
      have A1 := hide (HX.out i hlt)
      have A2 := hide (HX.out k hk)
      clear hF m1 m2
      have hbd := (Below.refl wr.heap.size wr).drew
      have hgw := World.block_lt_of_cell? _ _ c1
      simp only at hgw
      go_upto_region 4 with fail
      refine region_E (fun w' => w'.cell? ⟨g, i, none⟩ = some (.slice (some ⟨bi, oi, none⟩) n ci) ∧ w'.cell? ⟨g, k, none⟩ = some (.slice ak n ck') ∧ w'.cell? ⟨bi, oi + k, none⟩ = some (.int .i64 y)) 24 (by kernel_rfl) ⟨cell_be hbd c1, cell_be hbd c2, cell_be hbd c3⟩ ?_
      intro hS
      refine anyE_takeL 0 rfl (by kernel_rfl) (fun _ _ _ h => h) hS (by rfl) (v := ?_) ?_ ?_
      rotate_left
      · intro w' hSw; (try dsimp only at hSw); go_simp; (try with_reducible rfl)
      try simp only [Act.put, List.setIfInBounds_toArray, List.set_cons_zero, List.set_cons_succ]
      refine anyE_takeL 1 rfl (by kernel_rfl) (fun _ _ _ h => h) hS (by rfl) (v := ?_) ?_ ?_
      rotate_left
      · intro w' hSw; (try dsimp only at hSw); go_simp; (try with_reducible rfl)
      try simp only [Act.put, List.setIfInBounds_toArray, List.set_cons_zero, List.set_cons_succ]
      refine anyE_takeL 2 rfl (by kernel_rfl) (fun _ _ _ h => h) hS (by rfl) (v := ?_) ?_ ?_
      rotate_left
      · intro w' hSw; (try dsimp only at hSw); go_simp; (try with_reducible rfl)
      try simp only [Act.put, List.setIfInBounds_toArray, List.set_cons_zero, List.set_cons_succ]
      refine anyE_takeL 3 rfl (by kernel_rfl) (fun _ _ _ h => h) hS (by rfl) (v := ?_) ?_ ?_
      rotate_left
      · intro w' hSw; (try dsimp only at hSw); go_simp; (try with_reducible rfl)
      try simp only [Act.put, List.setIfInBounds_toArray, List.set_cons_zero, List.set_cons_succ]
      refine anyE_takeL 4 rfl (by kernel_rfl) (fun _ _ _ h => h) hS (by rfl) (v := ?_) ?_ ?_
      rotate_left
      · intro w' hSw; (try dsimp only at hSw); go_simp; (try with_reducible rfl)
      try simp only [Act.put, List.setIfInBounds_toArray, List.set_cons_zero, List.set_cons_succ]
      refine anyE_takeL 5 rfl (by kernel_rfl) (fun _ _ _ h => h) hS (by rfl) (v := ?_) ?_ ?_
      rotate_left
      · intro w' hSw; (try dsimp only at hSw); go_simp; (try with_reducible rfl)
      try simp only [Act.put, List.setIfInBounds_toArray, List.set_cons_zero, List.set_cons_succ]
      refine anyE_takeL 6 rfl (by kernel_rfl) (fun _ _ _ h => h) hS (by rfl) (v := ?_) ?_ ?_
      rotate_left
      · intro w' hSw; (try dsimp only at hSw); go_simp; (try with_reducible rfl)
      try simp only [Act.put, List.setIfInBounds_toArray, List.set_cons_zero, List.set_cons_succ]
      refine anyE_takeL 7 rfl (by kernel_rfl) (fun _ _ _ h => h) hS (by rfl) (v := ?_) ?_ ?_
      rotate_left
      · intro w' hSw; (try dsimp only at hSw); go_simp; (try with_reducible rfl)
      try simp only [Act.put, List.setIfInBounds_toArray, List.set_cons_zero, List.set_cons_succ]
      refine anyE_takeL 8 rfl (by kernel_rfl) (fun _ _ _ h => h) hS (by rfl) (v := ?_) ?_ ?_
      rotate_left
      · intro w' hSw; (try dsimp only at hSw); go_simp; (try with_reducible rfl)
      try simp only [Act.put, List.setIfInBounds_toArray, List.set_cons_zero, List.set_cons_succ]
      refine anyE_takeL 9 rfl (by kernel_rfl) (fun _ _ _ h => h) hS (by rfl) (v := ?_) ?_ ?_
      rotate_left
      · intro w' hSw; (try dsimp only at hSw); go_simp; (try with_reducible rfl)
      try simp only [Act.put, List.setIfInBounds_toArray, List.set_cons_zero, List.set_cons_succ]
      refine anyE_takeL 10 rfl (by kernel_rfl) (fun _ _ _ h => h) hS (by rfl) (v := ?_) ?_ ?_
      rotate_left
      · intro w' hSw; (try dsimp only at hSw); go_simp; (try with_reducible rfl)
      try simp only [Act.put, List.setIfInBounds_toArray, List.set_cons_zero, List.set_cons_succ]
      refine anyE_takeL 11 rfl (by kernel_rfl) (fun _ _ _ h => h) hS (by rfl) (v := ?_) ?_ ?_
      rotate_left
      · intro w' hSw; (try dsimp only at hSw); go_simp; (try with_reducible rfl)
      try simp only [Act.put, List.setIfInBounds_toArray, List.set_cons_zero, List.set_cons_succ]
      refine anyE_takeL 12 rfl (by kernel_rfl) (fun _ _ _ h => h) hS (by rfl) (v := ?_) ?_ ?_
      rotate_left
      · intro w' hSw; (try dsimp only at hSw); go_simp; (try with_reducible rfl)
      try simp only [Act.put, List.setIfInBounds_toArray, List.set_cons_zero, List.set_cons_succ]
      refine anyE_takeL 13 rfl (by kernel_rfl) (fun _ _ _ h => h) hS (by rfl) (v := ?_) ?_ ?_
      rotate_left
      · intro w' hSw; (try dsimp only at hSw); go_simp; (try with_reducible rfl)
      try simp only [Act.put, List.setIfInBounds_toArray, List.set_cons_zero, List.set_cons_succ]
      refine anyE_takeL 14 rfl (by kernel_rfl) (fun _ _ _ h => h) hS (by rfl) (v := ?_) ?_ ?_
      rotate_left
      · intro w' hSw; (try dsimp only at hSw); go_simp; (try with_reducible rfl)
      try simp only [Act.put, List.setIfInBounds_toArray, List.set_cons_zero, List.set_cons_succ]
      refine anyE_takeL 15 rfl (by kernel_rfl) (fun _ _ _ h => h) hS (by rfl) (v := ?_) ?_ ?_
      rotate_left
      · intro w' hSw; (try dsimp only at hSw); go_simp; (try with_reducible rfl)
      try simp only [Act.put, List.setIfInBounds_toArray, List.set_cons_zero, List.set_cons_succ]
      refine anyE_takeL 16 rfl (by kernel_rfl) (fun _ _ _ h => h) hS (by rfl) (v := ?_) ?_ ?_
      rotate_left
      · intro w' hSw; (try dsimp only at hSw); go_simp; (try with_reducible rfl)
      try simp only [Act.put, List.setIfInBounds_toArray, List.set_cons_zero, List.set_cons_succ]
      refine anyE_takeL 17 rfl (by kernel_rfl) (fun _ _ _ h => h) hS (by rfl) (v := ?_) ?_ ?_
      rotate_left
      · intro w' hSw; (try dsimp only at hSw); go_simp; (try with_reducible rfl)
      try simp only [Act.put, List.setIfInBounds_toArray, List.set_cons_zero, List.set_cons_succ]
      refine anyE_takeL 18 rfl (by kernel_rfl) (fun _ _ _ h => h) hS (by rfl) (v := ?_) ?_ ?_
      rotate_left
      · intro w' hSw; (try dsimp only at hSw); go_simp; (try with_reducible rfl)
      try simp only [Act.put, List.setIfInBounds_toArray, List.set_cons_zero, List.set_cons_succ]
      refine anyE_takeL 19 rfl (by kernel_rfl) (fun _ _ _ h => h) hS (by rfl) (v := ?_) ?_ ?_
      rotate_left
      · intro w' hSw; (try dsimp only at hSw); go_simp; (try with_reducible rfl)
      try simp only [Act.put, List.setIfInBounds_toArray, List.set_cons_zero, List.set_cons_succ]
      refine anyE_takeL 20 rfl (by kernel_rfl) (fun _ _ _ h => h) hS (by rfl) (v := ?_) ?_ ?_
      rotate_left
      · intro w' hSw; (try dsimp only at hSw); go_simp; (try with_reducible rfl)
      try simp only [Act.put, List.setIfInBounds_toArray, List.set_cons_zero, List.set_cons_succ]
      refine anyE_takeL 21 rfl (by kernel_rfl) (fun _ _ _ h => h) hS (by rfl) (v := ?_) ?_ ?_
      rotate_left
      · intro w' hSw; (try dsimp only at hSw); go_simp; (try with_reducible rfl)
      try simp only [Act.put, List.setIfInBounds_toArray, List.set_cons_zero, List.set_cons_succ]
      refine anyE_oneL 22 (by kernel_rfl) rfl (fun K' hK' => ?_)
      go_simp
      refine (addList_any p F _ _ _ (X i) _ _ _ (X k) _ (s1.below hbd) (s2.below hbd) hn (Nat.le_refl _) hp hp2 rF.1 rF.2 A1.out A2.out).mono ?_
      rintro e w3 ⟨a3, rfl, o3, t3⟩
      dsimp only
      have hm3 := bnext hbd t3
      have S3 := And.intro (cell_be hm3 c1) (And.intro (cell_be hm3 c2) (cell_be hm3 c3))
      refine hK'.out _ _ S3 ?_
      clear hK' K'
      try simp only [Act.put, List.setIfInBounds_toArray, List.set_cons_zero, List.set_cons_succ]
      refine anyE_takeL 23 rfl (by kernel_rfl) (fun _ _ _ h => h) S3 (by rfl) (v := ?_) ?_ ?_
      rotate_left
      · intro w' hSw; (try dsimp only at hSw); go_simp; (try with_reducible rfl)
      try simp only [Act.put, List.setIfInBounds_toArray, List.set_cons_zero, List.set_cons_succ]
      clear hS
      refine anyE_lastL (by kernel_rfl) rfl (by kernel_rfl) (fun K' hK' => ?_)
      have f3 := (hm3.frozen (World.block_lt_of_cell? _ _ c1)).trans f1
      have c3' := S3.1
      go_simp
      refine hK'.out _ _ ?_
      clear hK' K'
      try simp only [Act.put, List.setIfInBounds_toArray, List.set_cons_zero, List.set_cons_succ]
      have g3 : blk a3 ≠ some g := fun e => by
        have := own_blk_ge o3 g e
        simp at this
        omega
      have hR3 : Hid (RowsX B g n cap (w3.setCell ⟨g, i, none⟩ (.slice a3 n n)) (us.set i (.slice a3 n n)) (stepR p n k (i + 1) X) n) := hide ((hR.out.below hm3).put i hlt (by
        have t := o3.sl
        rw [HF2.out] at t
        rw [show (elimR p (X k) (X i) k n).length = n from tab_len _ _] at t
        unfold stepR
        rw [if_pos (by omega)]
        exact t) g3 (fun j hj hne => stepR_next p n k i X j hne))
      have hT3 : Hid (Touch g (g + 1) w (w3.setCell ⟨g, i, none⟩ (.slice a3 n n))) := hide ((hT.out.trans (Touch.ofBelow hm3)).set (by simp) (by simp) _)
      clear hR hT S3 c3' c1 c2 c3 o3 s1 s2 v1 v2 v3 hm3 t3 hbd
      go_wp2
      go_roundw
      case rel => exact ⟨i + 1, _, by omega, by omega, by go_num, hR3, hT3⟩
      case measure => simp [intOf]; omega
    · have hin : i = n := by omega
      have hge : ¬ (i : Int) < (n : Int) := by omega
      have Hin := hide hin
      clear hin
      go_wp2
      refine bodyPost_end (v := .tuple #[]) (by simp [results, Try.results124]) rfl ?_
      exact ⟨rfl, ⟨us, by have t := hR.out; rwa [Hin.out] at t⟩, hT.out⟩
end Go.Proofs.Ytnojmghmkoojfaa
/- Contracts: determinant, hankel (program). -/
namespace Go.Proofs.Ytnojmghmkoojfaa
open Go.RowKit
set_option linter.unusedVariables false
set_option linter.unusedSimpArgs false

theorem swapR_are {p : Int} (n : Nat) (X : Nat → List Int) (a b : Nat) (ha : a < n) (hb : b < n) (h : ∀ i, i < n → areB p (X i) = true) (i : Nat) (hi : i < n) : areB p (swapR X a b i) = true := by
  unfold swapR
  split
  · exact h b hb
  · split
    · exact h a ha
    · exact h i hi
theorem swapR_self (X : Nat → List Int) (a : Nat) : swapR X a a = X := by
  funext i
  unfold swapR
  split
  · rename_i e; rw [e]
  · rfl
theorem RowsX.swap {B g n cap m : Nat} {w : World} {vs : List Value} {X : Nat → List Int} (h : RowsX B g n cap w vs X m) (k i : Nat) (hk : k < m) (hi : i < m) {ak ai : Option Addr} {ck ci : Nat} (hne : i ≠ k)
    (sk : SL w ak n ck (X k)) (si : SL w ai n ci (X i)) (gk : blk ak ≠ some g) (gi : blk ai ≠ some g) :
    RowsX B g n cap ((w.setCell ⟨g, k, none⟩ (.slice ai n ci)).setCell ⟨g, i, none⟩ (.slice ak n ck)) ((vs.set k (.slice ai n ci)).set i (.slice ak n ck)) (swapR X k i) m := by
  have h1 := h.put (Y := fun j => if j = k then X i else X j) k hk (by simpa using si) gi (fun j _ hj => if_neg hj)
  refine h1.put i hi ?_ gk (fun j _ hj => ?_)
  · unfold swapR
    rw [if_neg hne, if_pos rfl]
    exact sk.otherG gk _
  · unfold swapR
    by_cases e : j = k
    · rw [if_pos e, if_pos e]
    · rw [if_neg e, if_neg hj, if_neg e]
set_option maxRecDepth 100000 in
set_option maxHeartbeats 3200000 in
theorem determinant_any (p : Int) (g0 n cap0 : Nat) (X : Nat → List Int) (w : World) (hc : ∀ i, i < n → ∃ a c, w.cell? ⟨g0, i, none⟩ = some (.slice a n c) ∧ SL w a n c (X i)) (hn1 : 1 ≤ n) (hn : n ≤ 1000) (hp : 2 ≤ p) (hp2 : p ≤ 10007) (hX : ∀ i, i < n → areB p (X i) = true) :
    Calls Try.prog 114 #[.int .i64 p, .slice (some ⟨g0, 0, none⟩) n cap0] w
      fun e w' => e = .returned (.int .i64 (detM p n X)) ∧ Below w.heap.size w w' := by
  go_enter Try.func114, Try.ntmps114
  go_wp2_with fail
  refine (cloneV_any g0 n n cap0 X _ hc hn hn1).mono ?_
  rintro e w1 ⟨ad, cap, vs, rfl, hO, hl, hrow, t1⟩
  obtain ⟨g, rfl, _⟩ := OwnV.at hO (by omega)
  have hg := hO.lt (by omega)
  have hle : n ≤ cap := by
    rcases hO.2 with ⟨h1, _⟩ | ⟨g', c', cur, h1, h2, h3, h4, h5, h6, h7⟩
    · cases h1
    · simp only [Value.slice.injEq] at h1
      omega
  have hR0 : Hid (RowsX w.heap.size g n cap w1 vs X n) := hide ⟨hO, hl, hle, fun i hi => by
    obtain ⟨a, c, h1, h2, h3⟩ := hrow i hi
    exact ⟨a, c, h1, h2, fun e => by have := h3 g e; omega⟩⟩
  have hA0 : Hid (∀ i, i < n → areB p (X i) = true) := hide hX
  have hD0 : Hid (detL p n n 0 X 1 = detM p n X) := hide rfl
  have hz1 := t1.size
  clear hO hl hrow hc hX
  go_wp2_with fail
  go_loopw [6, 13] (fun rv iv wr => ∃ (k : Nat) (us : List Value) (Y : Nat → List Int) (r : Int), k ≤ n ∧ iv = .int .i64 k ∧ rv = .int .i64 r ∧ 0 ≤ r ∧ r < p ∧ Hid (RowsX w.heap.size g n cap wr us Y n) ∧ Hid (∀ i, i < n → areB p (Y i) = true) ∧ Hid (detL p n (n - k) k Y r = detM p n X) ∧ Hid (Below w.heap.size w wr)) (fun _ iv _ => n - (intOf iv).toNat)
  case atStart => exact ⟨0, vs, X, 1, by omega, rfl, rfl, by omega, by omega, hR0, hA0, hD0, hide t1⟩
  case round =>
    obtain ⟨k, us, Y, r, hk, rfl, rfl, r0, r1, hR, hA, hD, hB⟩ := hrel
    clear hR0 hA0 hD0
    have hzr := hB.out.size
    by_cases hlt : k < n
    · have hlt' : (k : Int) < (n : Int) := by omega
      have hkc : (k : Int) ≤ (cap : Int) := by omega
      have hk0 : (0 : Int) ≤ (k : Int) := by omega
      have hkle : (k : Int) ≤ (n : Int) := by omega
      have hkne : ¬ k = cap := by omega
      have hbk := bl1 wr (.cells #[.int .i64 k] 3)
      obtain ⟨wk, hwk⟩ : ∃ wk, wk = wr.alloc (.cells #[.int .i64 k] 3) := ⟨_, rfl⟩
      obtain ⟨kb, hkb⟩ : ∃ kb, kb = wr.heap.size := ⟨_, rfl⟩
      have hR2 := hide (hR.out.below hbk)
      have hB2 := hide (hB.out.trans (hbk.mono hzr))
      have ck : wk.cell? ⟨kb, 0, none⟩ = some (.int .i64 k) := by rw [hwk, hkb]; simp [go_sem]
      have hgk : g < kb := by rw [hkb]; exact (hR.out.own.lt (by rw [hR.out.len]; omega)).2
      have hkz : kb < wk.heap.size := by rw [hwk, hkb]; simp
      rw [← hwk] at hR2 hB2
      have hgw : w.heap.size ≤ g := hg.1
      clear hR hB hbk
      go_upto_region 6 with fail
      rw [← hwk, ← hkb]
      clear hwk hkb
      go_wp2_with fail
      refine (indexFunc_any w.heap.size g n cap us Y k kb _ hR2.out ck hlt hn).mono ?_
      rintro e wv ⟨rr, rfl, hcase, rfl⟩
      rcases hcase with ⟨hpv, rfl⟩ | ⟨j, hpv, rfl, hjn⟩
      · have hdet : Hid (detM p n X = 0) := hide (by
          rw [← hD.out, show n - k = (n - k - 1) + 1 by omega, detL, if_pos (by rw [hpv])])
        go_wp2
        go_ret
        exact ⟨ret_int hdet.out.symm, hB2.out⟩
      · have hpos : 0 ≤ (j : Int) := by omega
        have hkj : k + j < n := hjn
        have hstep : Hid (detL p n (n - k - 1) (k + 1) (stepR p n k n (swapR Y k (k + j))) (sgn p r (k + j) k * (swapR Y k (k + j) k).getD k 0 % p) = detM p n X) := hide (by
          have t := hD.out
          rw [show n - k = (n - k - 1) + 1 by omega, detL, hpv, if_neg (by omega)] at t
          exact t)
        clear hpv hD
        by_cases hj0 : j = 0
        · subst hj0
          have hRS := hR2
          have hAS := hA
          have hBS := hB2
          have e0 : ((0 : Nat) : Int) = 0 := rfl
          simp only [Nat.add_zero, swapR_self] at hstep
          clear hR2 hA hB2 e0
          obtain ⟨ap, cp, d1, sp, gp, fp⟩ := hRS.out.get k hlt
          obtain ⟨bp, op, rfl, _, hcp⟩ := sp.at (by omega)
          have d2 := hcp k hlt
          have rx := getD_rng (hAS.out k hlt) hp k
          obtain ⟨x, hx⟩ : ∃ x, (Y k).getD k 0 = x := ⟨_, rfl⟩
          rw [hx] at d2 rx hstep
          have m1 : 0 ≤ r * x := Int.mul_nonneg (by omega) rx.1
          have m2 : r * x ≤ 10007 * 10007 := Int.mul_le_mul (by omega) (by omega) rx.1 (by omega)
          have v1 : IntKind.i64.wrap (r * x) = r * x := IntWalk.i64_in _ (by omega)
          have v2 : (r * x).tmod p = r * x % p := Int.tmod_eq_emod_of_nonneg m1
          have rr := modb (x := r * x) hp
          have hnx : r * x % p = sgn p r k k * x % p := by
            unfold sgn
            rw [if_pos rfl]
          obtain ⟨r', hr'⟩ : ∃ r', r * x % p = r' := ⟨_, rfl⟩
          rw [← hnx] at hstep
          rw [hr'] at v2 rr hstep
          have v3 : IntKind.i64.wrap r' = r' := IntWalk.i64_in _ (by omega)
          have hp0 : ¬ p = 0 := by omega
          have vk1 : IntKind.i64.wrap ((k : Int) + 1) = (k : Int) + 1 := IntWalk.i64_in _ (by omega)
          clear hx hcp sp gp fp m1 m2 hnx hr'
          go_wp2
          go_quiet (fail)
          clear v1 v2 v3
          have hbq := below_drewN (Below.refl wk.heap.size wk)
          go_wp2_with fail
          refine (eliminate_any p w.heap.size g n cap k _ Y _ (hRS.out.below (hbq _)) hlt hn hp hp2 hAS.out).mono ?_
          rintro e w5 ⟨rfl, ⟨us5, hR5⟩, hT5⟩
          have hR6 := hide hR5
          have hA6 : Hid (∀ i, i < n → areB p (stepR p n k n Y i) = true) := hide (fun i hi => stepR_are hp n k n _ n hAS.out i hi)
          have hB6 : Hid (Below w.heap.size w w5) := hide (below_touch (below_drewN hBS.out _) hT5 hgw (by have := hBS.out.size; simpa using this))
          have hD6 : Hid (detL p n (n - (k + 1)) (k + 1) (stepR p n k n Y) r' = detM p n X) := hide (by have t := hstep.out; rwa [show n - k - 1 = n - (k + 1) by omega] at t)
          clear hR5 hT5 hRS hAS hBS hstep
          go_wp2
          go_roundw
          case rel => exact ⟨k + 1, us5, _, r', by omega, by go_num, rfl, rr.1, rr.2, hR6, hA6, hD6, hB6⟩
          case measure => simp [intOf]; omega
        · have hjp : (0 : Int) < (j : Int) := by omega
          obtain ⟨ak, ak2, c1, s1, g1, f1⟩ := hR2.out.get k hlt
          obtain ⟨ai, ai2, c2, s2, g2, f2⟩ := hR2.out.get (k + j) hkj
          have vkj : IntKind.i64.wrap ((k : Int) + (j : Int)) = (k : Int) + (j : Int) := IntWalk.i64_in _ (by omega)
          have vkt : ((k : Int) + (j : Int)).toNat = k + j := by omega
          have hkjn : (k : Int) + (j : Int) < (n : Int) := by omega
          have hkj0 : (0 : Int) ≤ (k : Int) + (j : Int) := by omega
          have q6 : k + j ≠ k := by omega
          have q7 : k ≠ k + j := by omega
          have q8 : g ≠ kb := by omega
          have q9 : kb ≠ g := by omega
          go_upto_region 10 with fail
          go_region
          obtain ⟨ws, hws⟩ : ∃ ws, ws = ((wk.setCell ⟨g, k, none⟩ (.slice ai n ai2)).setCell ⟨g, k + j, none⟩ (.slice ak n ak2)).drew := ⟨_, rfl⟩
          rw [← hws]
          have ckS : ws.cell? ⟨kb, 0, none⟩ = some (.int .i64 k) := by rw [hws]; exact cell_set2 (cell_set2 ck (by simp; omega) _) (by simp; omega) _
          have hRS : Hid (RowsX w.heap.size g n cap ws ((us.set k (.slice ai n ai2)).set (k + j) (.slice ak n ak2)) (swapR Y k (k + j)) n) := hide (by rw [hws]; exact (hR2.out.swap k (k + j) hlt hkj q6 s1 s2 g1 g2).below ((Below.refl _ _).drew))
          have hBS : Hid (Below w.heap.size w ws) := hide (by rw [hws]; exact ((hB2.out.setCell (by simp; omega) _).setCell (by simp; omega) _).drew)
          have hAS : Hid (∀ i, i < n → areB p (swapR Y k (k + j) i) = true) := hide (fun i hi => swapR_are n Y k (k + j) hlt hkj hA.out i hi)
          clear hws hR2 hA hB2 ck c1 c2 s1 s2 g1 g2 f1 f2 vkj vkt
          obtain ⟨ap, cp, d1, sp, gp, fp⟩ := hRS.out.get k hlt
          obtain ⟨bp, op, rfl, _, hcp⟩ := sp.at (by omega)
          have d2 := hcp k hlt
          have rx := getD_rng (hAS.out k hlt) hp k
          obtain ⟨x, hx⟩ : ∃ x, ((swapR Y k (k + j)) k).getD k 0 = x := ⟨_, rfl⟩
          rw [hx] at d2 rx hstep
          have m1 : 0 ≤ (p - r) * x := Int.mul_nonneg (by omega) rx.1
          have m2 : (p - r) * x ≤ 10007 * 10007 := Int.mul_le_mul (by omega) (by omega) rx.1 (by omega)
          have v1 : IntKind.i64.wrap ((p - r) * x) = (p - r) * x := IntWalk.i64_in _ (by omega)
          have v2 : ((p - r) * x).tmod p = (p - r) * x % p := Int.tmod_eq_emod_of_nonneg m1
          have rr := modb (x := (p - r) * x) hp
          have hnx : (p - r) * x % p = sgn p r (k + j) k * x % p := by
            unfold sgn
            rw [if_neg q6]; exact neg_eq p r x
          obtain ⟨r', hr'⟩ : ∃ r', (p - r) * x % p = r' := ⟨_, rfl⟩
          rw [← hnx] at hstep
          rw [hr'] at v2 rr hstep
          have v3 : IntKind.i64.wrap r' = r' := IntWalk.i64_in _ (by omega)
          have v0 : IntKind.i64.wrap (p - r) = p - r := IntWalk.i64_in _ (by omega)
          have hp0 : ¬ p = 0 := by omega
          have vk1 : IntKind.i64.wrap ((k : Int) + 1) = (k : Int) + 1 := IntWalk.i64_in _ (by omega)
          clear hx hcp sp gp fp m1 m2 hnx hr'
          go_wp2
          go_quiet (fail)
          clear v1 v2 v3 v0
          have hbq := below_drewN (Below.refl ws.heap.size ws)
          go_wp2_with fail
          refine (eliminate_any p w.heap.size g n cap k _ (swapR Y k (k + j)) _ (hRS.out.below (hbq _)) hlt hn hp hp2 hAS.out).mono ?_
          rintro e w5 ⟨rfl, ⟨us5, hR5⟩, hT5⟩
          have hR6 := hide hR5
          have hA6 : Hid (∀ i, i < n → areB p (stepR p n k n (swapR Y k (k + j)) i) = true) := hide (fun i hi => stepR_are hp n k n _ n hAS.out i hi)
          have hB6 : Hid (Below w.heap.size w w5) := hide (below_touch (below_drewN hBS.out _) hT5 hgw (by have := hBS.out.size; simpa using this))
          have hD6 : Hid (detL p n (n - (k + 1)) (k + 1) (stepR p n k n (swapR Y k (k + j))) r' = detM p n X) := hide (by have t := hstep.out; rwa [show n - k - 1 = n - (k + 1) by omega] at t)
          clear hR5 hT5 hRS hAS hBS hstep
          go_wp2
          go_roundw
          case rel => exact ⟨k + 1, us5, _, r', by omega, by go_num, rfl, rr.1, rr.2, hR6, hA6, hD6, hB6⟩
          case measure => simp [intOf]; omega
    · have hkn : k = n := by omega
      have hge : ¬ (k : Int) < (n : Int) := by omega
      have hd : Hid (r = detM p n X) := hide (by have := hD.out; rw [hkn, Nat.sub_self] at this; exact this)
      clear hkn
      go_wp2
      go_ret
      exact ⟨ret_int hd.out, hB.out⟩
end Go.Proofs.Ytnojmghmkoojfaa
