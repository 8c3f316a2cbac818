/- Merged texts. -/
import Derived.Test.YtkpmonopjkjflaaYC527
import Derived.Test.YtkpmonopjkjflaaYC521
import Derived.Test.YtkpmonopjkjflaaYC522
import Derived.Test.YtkpmonopjkjflaaYC523
import Derived.Test.YtkpmonopjkjflaaYC518
import Derived.Test.YtkpmonopjkjflaaYC526
import Derived.Test.YtkpmonopjkjflaaYC524
/- Contract: l07Put (model). -/
namespace Go.Proofs.Ytkpmonopjkjflaa
open Go.RowKit Go.Sort
set_option linter.unusedVariables false
set_option linter.unusedSimpArgs false

/-- A rule of a call's own, blocks from lo on. -/
def UOwn (lo : Nat) (w : World) (ga c gb d : Nat) (R : List (Int × Int)) : Prop :=
  Own lo w (some ⟨ga, 0, none⟩) c (nodesR R) ∧ Own lo w (some ⟨gb, 0, none⟩) d (wtsR R) ∧ ga ≠ gb
theorem own_some {lo : Nat} {w : World} {a : Option Addr} {c : Nat} {ys : List Int} {g : Nat} (h : Own lo w a c ys) (hb : blk a = some g) : a = some ⟨g, 0, none⟩ := by
  rcases h.shape with ⟨rfl, _, _⟩ | ⟨g', cur, rfl, _, _, _⟩
  · cases hb
  · cases hb; rfl
theorem own_grows {lo : Nat} {w w' : World} {g s : Nat} {a' : Option Addr} {c' : Nat} {ys : List Int} (h : Own lo w' a' c' ys) (hl : blk a' = blk (some ⟨g, 0, none⟩) ∨ blk a' = some s) : ∃ g', a' = some ⟨g', 0, none⟩ ∧ (g' = g ∨ g' = s) := by
  rcases hl with hl | hl
  · exact ⟨g, own_some h hl, .inl rfl⟩
  · exact ⟨s, own_some h hl, .inr rfl⟩
theorem SL.old {B : Nat} {w w' : World} {a : Option Addr} {n c : Nat} {xs : List Int} (h : SL w a n c xs) (hb : Below B w w') (hl : ∀ g, blk a = some g → g < B) : SL w' a n c xs := by
  obtain ⟨h1, h2, h3⟩ := h
  refine ⟨h1, h2, ?_⟩
  rcases h3 with h3 | ⟨b, off, rfl, hc⟩
  · exact .inl h3
  · exact .inr ⟨b, off, rfl, fun j hj => (hb.cell (hl b rfl)).trans (hc j hj)⟩
set_option maxRecDepth 100000 in
set_option maxHeartbeats 6400000 in
theorem l07Put_any (p : Int) (ga n c gb d : Nat) (R : List (Int × Int)) (x v : Int) (lo : Nat) (w : World) (hO : UOwn lo w ga c gb d R) (hn : R.length = n) (hlo : lo ≤ w.heap.size) (hnl : n ≤ 1000) (hp : 2 ≤ p) (hp2 : p ≤ 10007) (hW : areB p (wtsR R) = true) (v0 : 0 ≤ v) (v1 : v < p) :
    Calls Try.prog 110 #[jac p (some ⟨ga, 0, none⟩) n c (some ⟨gb, 0, none⟩) n d, .int .i64 x, .int .i64 v] w fun e w' => ∃ a' c' b' d', e = .returned (jac p (some ⟨a', 0, none⟩) (putR p R x v).length c' (some ⟨b', 0, none⟩) (putR p R x v).length d') ∧ UOwn lo w' a' c' b' d' (putR p R x v) ∧ Below w.heap.size w w' := by
  obtain ⟨oA, oB, hdis⟩ := hO
  have hN := hide (nodesR_len R)
  have hWl := hide (wtsR_len R)
  have hn' := hide hn
  have HW := hide hW
  have hat := hide (putR_at p x v R)
  have hb0 := bl2 w (.cells #[.int .i64 p, .slice (some ⟨ga, 0, none⟩) n c, .slice (some ⟨gb, 0, none⟩) n d] 52) (.cells #[.int .i64 0, .slice none 0 0, .slice none 0 0] 52)
  obtain ⟨w1, hw1⟩ : ∃ w1, w1 = (w.alloc (.cells #[.int .i64 p, .slice (some ⟨ga, 0, none⟩) n c, .slice (some ⟨gb, 0, none⟩) n d] 52)).alloc (.cells #[.int .i64 0, .slice none 0 0, .slice none 0 0] 52) := ⟨_, rfl⟩
  have z1 : w1.heap.size ≤ w.heap.size + 2 := by rw [hw1]; simp
  have z1' : w.heap.size + 2 ≤ w1.heap.size := by rw [hw1]; simp
  have f0 : w1.cell? ⟨w.heap.size, 0, none⟩ = some (.int .i64 p) := by rw [hw1]; simp [go_sem]
  have f1 : w1.cell? ⟨w.heap.size, 1, none⟩ = some (.slice (some ⟨ga, 0, none⟩) n c) := by rw [hw1]; simp [go_sem]
  have f2 : w1.cell? ⟨w.heap.size, 2, none⟩ = some (.slice (some ⟨gb, 0, none⟩) n d) := by rw [hw1]; simp [go_sem]
  have h0 : w1.frozen? ⟨w.heap.size, 0, none⟩ = false := by rw [hw1]; simp [go_sem]
  have h1 : w1.frozen? ⟨w.heap.size, 1, none⟩ = false := by rw [hw1]; simp [go_sem]
  have h2 : w1.frozen? ⟨w.heap.size, 2, none⟩ = false := by rw [hw1]; simp [go_sem]
  have r0 : w1.cell? ⟨w.heap.size + 1, 0, none⟩ = some (.int .i64 0) := by rw [hw1]; simp [go_sem]
  have r1 : w1.cell? ⟨w.heap.size + 1, 1, none⟩ = some (.slice none 0 0) := by rw [hw1]; simp [go_sem]
  have r2 : w1.cell? ⟨w.heap.size + 1, 2, none⟩ = some (.slice none 0 0) := by rw [hw1]; simp [go_sem]
  have y0 : w1.frozen? ⟨w.heap.size + 1, 0, none⟩ = false := by rw [hw1]; simp [go_sem]
  have y1 : w1.frozen? ⟨w.heap.size + 1, 1, none⟩ = false := by rw [hw1]; simp [go_sem]
  have y2 : w1.frozen? ⟨w.heap.size + 1, 2, none⟩ = false := by rw [hw1]; simp [go_sem]
  rw [← hw1] at hb0
  have oA1 := hide (oA.below hb0)
  have oB1 := hide (oB.below hb0)
  have lA := hide (ownLt oA)
  have lB := hide (ownLt oB)
  have sA := oA1.out.sl
  have sB := oB1.out.sl
  have HB := hide hb0
  have oA0 := hide oA
  have Hdis := hide hdis
  clear oA oB hn hb0 hdis
  have hlen := hN.out
  rw [hn'.out] at hlen
  have hlenW := hWl.out
  rw [hn'.out] at hlenW
  rw [hlen] at sA
  rw [hlenW] at sB
  go_enter Try.func110, Try.ntmps110
  go_upto_region 1 with fail
  rw [← hw1]
  clear hw1
  go_wp2
  go_loop [7] (fun iv => ∃ k : Nat, k ≤ n ∧ iv = .int .i64 k ∧ Hid (∀ j, j < k → (nodesR R).getD j 0 < x)) (fun iv => n - (intOf iv).toNat)
  case atStart => exact ⟨0, by omega, rfl, hide (fun j hj => by omega)⟩
  case round =>
    obtain ⟨k, hk, rfl, hlt⟩ := hrel
    by_cases hkn : k < n
    · have hkn' : (k : Int) < (n : Int) := by omega
      have e0 := Own.cellG oA1.out k (by rw [hlen]; exact hkn)
      obtain ⟨y, hy⟩ : ∃ y, (nodesR R).getD k 0 = y := ⟨_, rfl⟩
      rw [hy] at e0
      by_cases hyx : y < x
      · have hnx := hide (show ∀ j, j < k + 1 → (nodesR R).getD j 0 < x from fun j hj => by
          by_cases q : j = k
          · rw [q, hy]; exact hyx
          · exact hlt.out j (by omega))
        clear hy
        go_wp2
        go_round
        case rel => exact ⟨k + 1, by omega, by go_num, hnx⟩
        case measure => simp [intOf]; omega
      · have hput := hat.out k (by rw [hn'.out]; omega) hlt.out (.inr (by rw [hy]; omega))
        have hd1 : decide (y < x) = false := by simpa using hyx
        by_cases hyx2 : y = x
        · have hd2 : (y == x) = true := by simpa using hyx2
          have hP := hide (hput.1 ⟨by rw [hn'.out]; omega, by rw [hy]; exact hyx2⟩)
          have eb := Own.cellG oB1.out k (by rw [hlenW]; exact hkn)
          obtain ⟨u, hu⟩ : ∃ u, (wtsR R).getD k 0 = u := ⟨_, rfl⟩
          rw [hu] at eb
          have hur : 0 ≤ u ∧ u < p := by have := getD_rng HW.out hp k; rw [hu] at this; exact this
          have hP2 := hP.out.2
          rw [hu] at hP2
          have HP2 := hide hP2
          subst hyx2
          clear hput hy hyx hu hP2
          go_upto_region 6 with fail
          refine (l01Own_any _ n d (wtsR R) _ sB (by omega)).mono ?_
          rintro e w2 ⟨b1, d1, rfl, o1, lx⟩
          have c0 := cell_be lx f0
          have c1 := cell_be lx f1
          have c2 := cell_be lx f2
          have k2 := (lx.frozen (World.block_lt_of_cell? _ _ f2)).trans h2
          dsimp only
          go_upto_region 6 with fail
          obtain ⟨gb', eb', lo1, hi1, hcap⟩ := o1.blkG (by rw [hlenW]; omega)
          subst eb'
          have eb2 := Own.cellG o1 k (by rw [hlenW]; exact hkn)
          have hne : gb' ≠ w.heap.size := by omega
          have o3 := o1.otherG (show blk (some (⟨gb', 0, none⟩ : Addr)) ≠ some w.heap.size from fun e => hne (Option.some.inj e)) (j := 2) (.slice (some ⟨gb', 0, none⟩) n d1)
          have V1 : IntKind.i64.wrap (u + v) = u + v := IntWalk.i64_in _ (by omega)
          have V2 : (u + v).tmod p = (u + v) % p := Int.tmod_eq_emod_of_nonneg (by omega)
          obtain ⟨V, hV⟩ : ∃ V, (u + v) % p = V := ⟨_, rfl⟩
          have rV := modb (x := u + v) hp
          rw [hV] at V2 rV HP2
          have V3 : IntKind.i64.wrap V = V := IntWalk.i64_in _ (by omega)
          have hp0 : ¬ p = 0 := by omega
          have hge0 : (0 : Int) ≤ (k : Int) := by omega
          have hu3 : (wtsR R).getD k 0 = u := by have := eb; have e5 := Own.cellG oB1.out k (by rw [hlenW]; exact hkn); rw [e5] at this; simpa using this
          have ef := Own.cellG o3 k (by rw [hlenW]; exact hkn)
          rw [hu3] at ef
          have d0 := cell_set2' c0 (show (2 : Nat) ≠ 0 by omega) (.slice (some ⟨gb', 0, none⟩) n d1)
          have d1' := cell_set2' c1 (show (2 : Nat) ≠ 1 by omega) (.slice (some ⟨gb', 0, none⟩) n d1)
          have d2' := World.cell?_setCell_same _ _ (.slice (some ⟨gb', 0, none⟩) n d1) c2
          have hR3 : ∀ o v, w1.cell? ⟨w.heap.size + 1, o, none⟩ = some v → (w2.setCell ⟨w.heap.size, 2, none⟩ (.slice (some ⟨gb', 0, none⟩) n d1)).cell? ⟨w.heap.size + 1, o, none⟩ = some v := fun o v h => cell_set2 (cell_be lx h) (by simp) _
          have hF3 : ∀ o v, w1.cell? ⟨w.heap.size + 1, o, none⟩ = some v → w1.frozen? ⟨w.heap.size + 1, o, none⟩ = false → (w2.setCell ⟨w.heap.size, 2, none⟩ (.slice (some ⟨gb', 0, none⟩) n d1)).frozen? ⟨w.heap.size + 1, o, none⟩ = false := fun o v h hf => by
            have := (lx.frozen (World.block_lt_of_cell? _ _ h)).trans hf
            simpa using this
          have HR3 := hide hR3
          have HF3 := hide hF3
          clear hR3 hF3
          have hm3 := hide (show Below w.heap.size w1 (w2.setCell ⟨w.heap.size, 2, none⟩ (.slice (some ⟨gb', 0, none⟩) n d1)) from (lx.mono (by omega)).setCell (by simp) _)
          obtain ⟨w3, hw3⟩ : ∃ w3, w3 = w2.setCell ⟨w.heap.size, 2, none⟩ (.slice (some ⟨gb', 0, none⟩) n d1) := ⟨_, rfl⟩
          rw [← hw3] at o3 ef d0 d1' d2' hm3 HR3 HF3 ⊢
          clear hw3 lx c0 c1 c2 k2
          have hbd := (Below.refl w3.heap.size w3).drew
          have fr := Own.freeG o3 k
          have ho3 := hide o3
          clear hV hu3 eb o3 o1
          refine region_E (fun w' => w'.cell? ⟨w.heap.size, 0, none⟩ = some (.int .i64 p) ∧ w'.cell? ⟨w.heap.size, 2, none⟩ = some (.slice (some ⟨gb', 0, none⟩) n d1) ∧ w'.cell? ⟨gb', k, none⟩ = some (.int .i64 u)) 14 (by kernel_rfl) ⟨cell_be hbd d0, cell_be hbd d2', cell_be hbd ef⟩ ?_
          intro hS
          refine anyE_takeL 0 rfl (by kernel_rfl) (fun _ _ _ h => h) hS (by rfl) (v := ?_) ?_ ?_
          rotate_left
          · intro w' hSw; (try dsimp only at hSw); go_simp; (try with_reducible rfl)
          try simp only [Act.put, List.setIfInBounds_toArray, List.set_cons_zero, List.set_cons_succ]
          refine anyE_takeL 1 rfl (by kernel_rfl) (fun _ _ _ h => h) hS (by rfl) (v := ?_) ?_ ?_
          rotate_left
          · intro w' hSw; (try dsimp only at hSw); go_simp; (try with_reducible rfl)
          try simp only [Act.put, List.setIfInBounds_toArray, List.set_cons_zero, List.set_cons_succ]
          refine anyE_takeL 2 rfl (by kernel_rfl) (fun _ _ _ h => h) hS (by rfl) (v := ?_) ?_ ?_
          rotate_left
          · intro w' hSw; (try dsimp only at hSw); go_simp; (try with_reducible rfl)
          try simp only [Act.put, List.setIfInBounds_toArray, List.set_cons_zero, List.set_cons_succ]
          refine anyE_takeL 3 rfl (by kernel_rfl) (fun _ _ _ h => h) hS (by rfl) (v := ?_) ?_ ?_
          rotate_left
          · intro w' hSw; (try dsimp only at hSw); go_simp; (try with_reducible rfl)
          try simp only [Act.put, List.setIfInBounds_toArray, List.set_cons_zero, List.set_cons_succ]
          refine anyE_takeL 4 rfl (by kernel_rfl) (fun _ _ _ h => h) hS (by rfl) (v := ?_) ?_ ?_
          rotate_left
          · intro w' hSw; (try dsimp only at hSw); go_simp; (try with_reducible rfl)
          try simp only [Act.put, List.setIfInBounds_toArray, List.set_cons_zero, List.set_cons_succ]
          refine anyE_takeL 5 rfl (by kernel_rfl) (fun _ _ _ h => h) hS (by rfl) (v := ?_) ?_ ?_
          rotate_left
          · intro w' hSw; (try dsimp only at hSw); go_simp; (try with_reducible rfl)
          try simp only [Act.put, List.setIfInBounds_toArray, List.set_cons_zero, List.set_cons_succ]
          refine anyE_takeL 6 rfl (by kernel_rfl) (fun _ _ _ h => h) hS (by rfl) (v := ?_) ?_ ?_
          rotate_left
          · intro w' hSw; (try dsimp only at hSw); go_simp; (try with_reducible rfl)
          try simp only [Act.put, List.setIfInBounds_toArray, List.set_cons_zero, List.set_cons_succ]
          refine anyE_takeL 7 rfl (by kernel_rfl) (fun _ _ _ h => h) hS (by rfl) (v := ?_) ?_ ?_
          rotate_left
          · intro w' hSw; (try dsimp only at hSw); go_simp; (try with_reducible rfl)
          try simp only [Act.put, List.setIfInBounds_toArray, List.set_cons_zero, List.set_cons_succ]
          refine anyE_takeL 8 rfl (by kernel_rfl) (fun _ _ _ h => h) hS (by rfl) (v := ?_) ?_ ?_
          rotate_left
          · intro w' hSw; (try dsimp only at hSw); go_simp; (try with_reducible rfl)
          try simp only [Act.put, List.setIfInBounds_toArray, List.set_cons_zero, List.set_cons_succ]
          refine anyE_takeL 9 rfl (by kernel_rfl) (fun _ _ _ h => h) hS (by rfl) (v := ?_) ?_ ?_
          rotate_left
          · intro w' hSw; (try dsimp only at hSw); go_simp; (try with_reducible rfl)
          try simp only [Act.put, List.setIfInBounds_toArray, List.set_cons_zero, List.set_cons_succ]
          refine anyE_takeL 10 rfl (by kernel_rfl) (fun _ _ _ h => h) hS (by rfl) (v := ?_) ?_ ?_
          rotate_left
          · intro w' hSw; (try dsimp only at hSw); go_simp; (try with_reducible rfl)
          try simp only [Act.put, List.setIfInBounds_toArray, List.set_cons_zero, List.set_cons_succ]
          refine anyE_takeL 11 rfl (by kernel_rfl) (fun _ _ _ h => h) hS (by rfl) (v := ?_) ?_ ?_
          rotate_left
          · intro w' hSw; (try dsimp only at hSw); go_simp; (try with_reducible rfl)
          try simp only [Act.put, List.setIfInBounds_toArray, List.set_cons_zero, List.set_cons_succ]
          refine anyE_takeL 12 rfl (by kernel_rfl) (fun _ _ _ h => h) hS (by rfl) (v := ?_) ?_ ?_
          rotate_left
          · intro w' hSw; (try dsimp only at hSw); go_simp; (try with_reducible rfl)
          try simp only [Act.put, List.setIfInBounds_toArray, List.set_cons_zero, List.set_cons_succ]
          refine anyE_takeL 13 rfl (by kernel_rfl) (fun _ _ _ h => h) hS (by rfl) (v := ?_) ?_ ?_
          rotate_left
          · intro w' hSw; (try dsimp only at hSw); go_simp; (try with_reducible rfl)
          try simp only [Act.put, List.setIfInBounds_toArray, List.set_cons_zero, List.set_cons_succ]
          clear hS
          refine anyE_lastL (by kernel_rfl) rfl (by kernel_rfl) (fun K' hK' => ?_)
          go_simp
          refine hK'.out _ _ ?_
          clear hK' K' hbd
          try simp only [Act.put, List.setIfInBounds_toArray, List.set_cons_zero, List.set_cons_succ]
          have oS := Own.setG ho3.out k V
          have hlo2 := own_blk_ge ho3.out gb' rfl
          have hA1 := lA.out ga rfl
          have hgE : ga ≠ gb' := by omega
          have e0' := cell_set2 (a := ⟨gb', k, none⟩) d0 (show gb' ≠ w.heap.size by omega) (.int .i64 V)
          have e1' := cell_set2 (a := ⟨gb', k, none⟩) d1' (show gb' ≠ w.heap.size by omega) (.int .i64 V)
          have e2' := cell_set2 (a := ⟨gb', k, none⟩) d2' (show gb' ≠ w.heap.size by omega) (.int .i64 V)
          have hm4 := hm3.out.setCell (p := ⟨gb', k, none⟩) (by simp; omega) (.int .i64 V)
          have sB : ∀ o v, w1.cell? ⟨w.heap.size + 1, o, none⟩ = some v → w1.frozen? ⟨w.heap.size + 1, o, none⟩ = false → ((w3.setCell ⟨gb', k, none⟩ (.int .i64 V)).cell? ⟨w.heap.size + 1, o, none⟩ = some v ∧ (w3.setCell ⟨gb', k, none⟩ (.int .i64 V)).frozen? ⟨w.heap.size + 1, o, none⟩ = false) := fun o v h hf => ⟨cell_set2 (HR3.out o v h) (by show gb' ≠ w.heap.size + 1; omega) _, by have := HF3.out o v h hf; simpa using this⟩
          obtain ⟨t0, p0⟩ := sB 0 _ r0 y0
          obtain ⟨t1, p1⟩ := sB 1 _ r1 y1
          obtain ⟨t2, p2⟩ := sB 2 _ r2 y2
          clear d0 d1' d2' ef fr hm3 ho3 HR3 HF3 sB
          obtain ⟨w4, hw4⟩ : ∃ w4, w4 = w3.setCell ⟨gb', k, none⟩ (.int .i64 V) := ⟨_, rfl⟩
          rw [← hw4] at oS e0' e1' e2' hm4 t0 t1 t2 p0 p1 p2 ⊢
          clear hw4
          have hbd := (Below.refl w4.heap.size w4).drew
          have oA4 := (oA1.out.below (w' := w1) (Below.refl _ _))
          replace oS := oS.below hbd
          replace e0' := cell_be hbd e0'
          replace e1' := cell_be hbd e1'
          replace e2' := cell_be hbd e2'
          have g0 := (hbd.frozen (World.block_lt_of_cell? _ _ t0)).trans p0
          have g1 := (hbd.frozen (World.block_lt_of_cell? _ _ t1)).trans p1
          have g2 := (hbd.frozen (World.block_lt_of_cell? _ _ t2)).trans p2
          replace t0 := cell_be hbd t0
          replace t1 := cell_be hbd t1
          replace t2 := cell_be hbd t2
          have hm5 := hm4.trans (hbd.mono (show w.heap.size ≤ w4.heap.size by have := hm4.size; omega))
          clear hbd hm4 p0 p1 p2
          obtain ⟨w5, hw5⟩ : ∃ w5, w5 = w4.drew := ⟨_, rfl⟩
          rw [← hw5] at oS e0' e1' e2' hm5 t0 t1 t2 g0 g1 g2 ⊢
          clear hw5
          have oS := hide oS
          have hm5 := hide hm5
          have sz5 := hm5.out.size
          go_wp2
          have HlP := hide (show (putR p R y v).length = n by rw [← nodesR_len, hP.out.1]; exact hlen)
          refine bodyPost_ret (v := jac p (some ⟨ga, 0, none⟩) n c (some ⟨gb', 0, none⟩) n d1) (by simp [results, Try.results110, go_sem, t0, t1, t2]) rfl ?_
          refine ⟨ga, c, gb', d1, by rw [HlP.out], ⟨?_, ?_, hgE⟩, ?_⟩
          · rw [hP.out.1]
            have hr : blk (some (⟨ga, 0, none⟩ : Addr)) ≠ some (w.heap.size + 1) := fun e => by have e2 : some ga = some (w.heap.size + 1) := e; have e3 := Option.some.inj e2; omega
            exact (((oA0.out.below (HB.out.trans hm5.out)).otherG hr _).otherG hr _).otherG hr _
          · rw [HP2.out]
            have hr : blk (some (⟨gb', 0, none⟩ : Addr)) ≠ some (w.heap.size + 1) := fun e => by have e2 : some gb' = some (w.heap.size + 1) := e; have e3 := Option.some.inj e2; omega
            exact (((oS.out.mono (show lo ≤ w1.heap.size by omega)).otherG hr _).otherG hr _).otherG hr _
          · exact (((HB.out.trans hm5.out).setCell (Nat.le_succ _) _).setCell (Nat.le_succ _) _).setCell (Nat.le_succ _) _
        · have hd2 : (y == x) = false := by simpa using hyx2
          have hd3 : decide (y = x) = false := by simpa using hyx2
          have hP := hide (hput.2 (fun q => hyx2 (by rw [← hy]; exact q.2)))
          clear hput hy hyx hyx2
          have sAk := sA.take (show k ≤ n from hk)
          have sBk := sB.take (show k ≤ n from hk)
          have hkN : k = ((nodesR R).take k).length := by rw [List.length_take, hlen]; omega
          have hkW : k = ((wtsR R).take k).length := by rw [List.length_take, hlenW]; omega
          have hkN1 : ((nodesR R).take k ++ [x]).length = k + 1 := by rw [List.length_append, ← hkN]; rfl
          have hkW1 : ((wtsR R).take k ++ [v]).length = k + 1 := by rw [List.length_append, ← hkW]; rfl
          have q1 : (0 : Int) ≤ (k : Int) := by omega
          have q2 : (k : Int) ≤ (c : Int) := by have := sA.le; omega
          have q3 : (k : Int) ≤ (d : Int) := by have := sB.le; omega
          have F : ∀ w', Below w1.heap.size w1 w' → w'.cell? ⟨w.heap.size, 1, none⟩ = some (.slice (some ⟨ga, 0, none⟩) n c) ∧ w'.cell? ⟨w.heap.size, 2, none⟩ = some (.slice (some ⟨gb, 0, none⟩) n d) := fun w' h => ⟨cell_be h f1, cell_be h f2⟩
          have HmN := hide (show min k (nodesR R).length = k by rw [hlen]; omega)
          have HmW := hide (show min k (wtsR R).length = k by rw [hlenW]; omega)
          have HdN := hide (show ((nodesR R).take k ++ [x] ++ (nodesR R).drop k).length = n + 1 by rw [List.length_append, hkN1, List.length_drop, hlen]; omega)
          have HdW := hide (show ((wtsR R).take k ++ [v] ++ (wtsR R).drop k).length = n + 1 by rw [List.length_append, hkW1, List.length_drop, hlenW]; omega)
          have HkN := hide hkN
          have HkW := hide hkW
          have HkN1 := hide hkN1
          have HkW1 := hide hkW1
          clear hkN hkW hkN1 hkW1 hlen hlenW
          go_upto_region 8 with fail
          go_cut [8, 9] (fun sa sb wx => ∃ (aA : Option Addr) (dA : Nat) (bB : Option Addr) (dB : Nat), sa = .slice aA (k + 1) dA ∧ sb = .slice bB (k + 1) dB ∧ Hid (Own w1.heap.size wx aA dA ((nodesR R).take k ++ [x])) ∧ Hid (Own w1.heap.size wx bB dB ((wtsR R).take k ++ [v])) ∧ Hid (∀ g, blk aA = some g → blk bB ≠ some g) ∧ Hid (Below w1.heap.size w1 wx))
          case first =>
            have hm := (Below.refl w1.heap.size w1).drew
            refine region_E (fun w' => w'.cell? ⟨w.heap.size, 1, none⟩ = some (.slice (some ⟨ga, 0, none⟩) n c) ∧ w'.cell? ⟨w.heap.size, 2, none⟩ = some (.slice (some ⟨gb, 0, none⟩) n d)) 100 (by kernel_rfl) (F _ hm) ?_
            intro hS
            refine anyE_takeH 0 rfl (by kernel_rfl) (fun _ _ _ h => h) hS (by rfl) (v := ?_) ?_ ?_
            rotate_left
            · intro w' hSw; (try dsimp only at hSw); go_simp; (try with_reducible rfl)
            try simp only [Act.put, List.setIfInBounds_toArray, List.set_cons_zero, List.set_cons_succ]
            refine anyE_takeH 1 rfl (by kernel_rfl) (fun _ _ _ h => h) hS (by rfl) (v := ?_) ?_ ?_
            rotate_left
            · intro w' hSw; (try dsimp only at hSw); go_simp; (try with_reducible rfl)
            try simp only [Act.put, List.setIfInBounds_toArray, List.set_cons_zero, List.set_cons_succ]
            refine anyE_takeH 2 rfl (by kernel_rfl) (fun _ _ _ h => h) hS (by rfl) (v := ?_) ?_ ?_
            rotate_left
            · intro w' hSw; (try dsimp only at hSw); go_simp; (try with_reducible rfl)
            try simp only [Act.put, List.setIfInBounds_toArray, List.set_cons_zero, List.set_cons_succ]
            refine anyE_takeH 3 rfl (by kernel_rfl) (fun _ _ _ h => h) hS (by rfl) (v := ?_) ?_ ?_
            rotate_left
            · intro w' hSw; (try dsimp only at hSw); go_simp; (try with_reducible rfl)
            try simp only [Act.put, List.setIfInBounds_toArray, List.set_cons_zero, List.set_cons_succ]
            refine anyE_takeH 5 rfl (by kernel_rfl) (fun _ _ _ h => h) hS (by rfl) (v := ?_) ?_ ?_
            rotate_left
            · intro w' hSw; (try dsimp only at hSw); go_simp; (try with_reducible rfl)
            try simp only [Act.put, List.setIfInBounds_toArray, List.set_cons_zero, List.set_cons_succ]
            refine anyE_takeH 8 rfl (by kernel_rfl) (fun _ _ _ h => h) hS (by rfl) (v := ?_) ?_ ?_
            rotate_left
            · intro w' hSw; (try dsimp only at hSw); go_simp; (try with_reducible rfl)
            try simp only [Act.put, List.setIfInBounds_toArray, List.set_cons_zero, List.set_cons_succ]
            refine anyE_takeH 9 rfl (by kernel_rfl) (fun _ _ _ h => h) hS (by rfl) (v := ?_) ?_ ?_
            rotate_left
            · intro w' hSw; (try dsimp only at hSw); go_simp; (try with_reducible rfl)
            try simp only [Act.put, List.setIfInBounds_toArray, List.set_cons_zero, List.set_cons_succ]
            refine anyE_takeH 10 rfl (by kernel_rfl) (fun _ _ _ h => h) hS (by rfl) (v := ?_) ?_ ?_
            rotate_left
            · intro w' hSw; (try dsimp only at hSw); go_simp; (try with_reducible rfl)
            try simp only [Act.put, List.setIfInBounds_toArray, List.set_cons_zero, List.set_cons_succ]
            refine anyE_takeH 11 rfl (by kernel_rfl) (fun _ _ _ h => h) hS (by rfl) (v := ?_) ?_ ?_
            rotate_left
            · intro w' hSw; (try dsimp only at hSw); go_simp; (try with_reducible rfl)
            try simp only [Act.put, List.setIfInBounds_toArray, List.set_cons_zero, List.set_cons_succ]
            refine anyE_takeH 13 rfl (by kernel_rfl) (fun _ _ _ h => h) hS (by rfl) (v := ?_) ?_ ?_
            rotate_left
            · intro w' hSw; (try dsimp only at hSw); go_simp; (try with_reducible rfl)
            try simp only [Act.put, List.setIfInBounds_toArray, List.set_cons_zero, List.set_cons_succ]
            clear hS
            obtain ⟨u0, hu0⟩ : ∃ u, u = w1.drew := ⟨_, rfl⟩
            rw [← hu0] at hm ⊢
            clear hu0
            refine anyE_3L 4 6 14 (by kernel_rfl) rfl rfl rfl (fun K' hK' => ?_) (fun K' hK' => ?_) (fun K' hK' => ?_)
            · go_simp
              refine (l01Own_any _ k c ((nodesR R).take k) _ (sAk.below hm) (by omega)).mono ?_
              rintro e u1 ⟨a1, d1, rfl, o1, lx⟩
              dsimp only
              replace o1 := o1.mono hm.size
              have hm := bnext hm lx
              refine hK'.out _ _ (F _ hm) ?_
              clear hK' K'
              try simp only [Act.put, List.setIfInBounds_toArray, List.set_cons_zero, List.set_cons_succ]
              refine anyE_2L 6 14 (by kernel_rfl) rfl rfl (fun K' hK' => ?_) (fun K' hK' => ?_)
              · go_simp
                obtain ⟨u2, hu⟩ : ∃ u, u = u1.alloc (.cells #[.int .i64 x] 2) := ⟨_, rfl⟩
                have lx : Below u1.heap.size u1 u2 := by rw [hu]; exact bl1 _ _
                have cA : u2.cell? ⟨u1.heap.size, 0, none⟩ = some (.int .i64 x) := by rw [hu]; simp [go_sem]
                rw [← hu]
                clear hu
                have hm := bnext hm lx
                replace o1 := o1.below lx
                refine hK'.out _ _ (F _ hm) ?_
                clear hK' K'
                try simp only [Act.put, List.setIfInBounds_toArray, List.set_cons_zero, List.set_cons_succ]
                refine anyE_2L 7 14 (by kernel_rfl) rfl rfl (fun K' hK' => ?_) (fun K' hK' => ?_)
                · refine step_app1 (by rfl) _ _ (by rfl) w1.heap.size a1 k d1 ((nodesR R).take k) (by rfl) HkN.out o1 ⟨u1.heap.size, 0, none⟩ 1 x (by rfl) cA (by omega) hm.size ?_
                  intro aA dA u3 oA hgr hloc
                  have hm := hm.grown hgr hm.size (fun g hg => own_blk_ge o1 g hg)
                  clear hgr hloc o1 cA
                  refine hK'.out _ _ (F _ hm) ?_
                  clear hK' K'
                  try simp only [Act.put, List.setIfInBounds_toArray, List.set_cons_zero, List.set_cons_succ]
                  refine anyE_2L 12 14 (by kernel_rfl) rfl rfl (fun K' hK' => ?_) (fun K' hK' => ?_)
                  · go_simp
                    refine (l01Own_any _ k d ((wtsR R).take k) _ (sBk.below hm) (by omega)).mono ?_
                    rintro e u4 ⟨b1, d2, rfl, o2, lx⟩
                    dsimp only
                    have dis : ∀ g, blk aA = some g → blk b1 ≠ some g := fun g q1 q2 => by have := ownLt oA _ q1; have := own_blk_ge o2 _ q2; omega
                    replace o2 := o2.mono hm.size
                    have hm := bnext hm lx
                    replace oA := oA.below lx
                    refine hK'.out _ _ (F _ hm) ?_
                    clear hK' K'
                    try simp only [Act.put, List.setIfInBounds_toArray, List.set_cons_zero, List.set_cons_succ]
                    refine anyE_oneL 14 (by kernel_rfl) rfl (fun K' hK' => ?_)
                    go_simp
                    obtain ⟨u5, hu⟩ : ∃ u, u = u4.alloc (.cells #[.int .i64 v] 2) := ⟨_, rfl⟩
                    have lx : Below u4.heap.size u4 u5 := by rw [hu]; exact bl1 _ _
                    have cB : u5.cell? ⟨u4.heap.size, 0, none⟩ = some (.int .i64 v) := by rw [hu]; simp [go_sem]
                    rw [← hu]
                    clear hu
                    have nB2 : blk b1 ≠ some u4.heap.size := fun q => by have := ownLt o2 _ q; omega
                    have hm := bnext hm lx
                    replace o2 := o2.below lx
                    replace oA := oA.below lx
                    refine hK'.out _ _ (F _ hm) ?_
                    clear hK' K'
                    try simp only [Act.put, List.setIfInBounds_toArray, List.set_cons_zero, List.set_cons_succ]
                    refine anyE_oneL 15 (by kernel_rfl) rfl (fun K' hK' => ?_)
                    refine step_app1 (by rfl) _ _ (by rfl) w1.heap.size b1 k d2 ((wtsR R).take k) (by rfl) HkW.out o2 ⟨u4.heap.size, 0, none⟩ 1 v (by rfl) cB (by omega) hm.size ?_
                    intro bB dB u6 oB hgr hloc
                    have disF : ∀ g, blk aA = some g → blk bB ≠ some g := fun g q1 q2 => by rcases hloc with h | h; exact dis g q1 (by rw [← h]; exact q2); rw [h] at q2; have := ownLt oA _ q1; simp at q2; omega
                    have oA := Own.keep oA hgr (fun g q1 q2 => dis g q1 q2)
                    have hm := hm.grown hgr hm.size (fun g hg => own_blk_ge o2 g hg)
                    clear hgr hloc o2 cB
                    refine hK'.out _ _ (F _ hm) ?_
                    clear hK' K'
                    try simp only [Act.put, List.setIfInBounds_toArray, List.set_cons_zero, List.set_cons_succ]
                    refine anyE_oneL 16 (by kernel_rfl) rfl (fun K' hK' => ?_)
                    go_simp
                    refine hK'.out _ _ (F _ hm) ?_
                    clear hK' K'
                    try simp only [Act.put, List.setIfInBounds_toArray, List.set_cons_zero, List.set_cons_succ]
                    refine anyE_oneL 17 (by kernel_rfl) rfl (fun K' hK' => ?_)
                    go_simp
                    refine hK'.out _ _ (F _ hm) (anyE_doneL (by kernel_rfl) ?_)
                    clear hK' K'
                    try simp only [Act.put, List.setIfInBounds_toArray, List.set_cons_zero, List.set_cons_succ]
                    go_wp2_with fail
                    go_meet
                    exact ⟨aA, dA, bB, dB, by rw [HmN.out], by rw [HmW.out], hide oA, hide oB, hide disF, hide hm⟩
                  · go_simp
                    obtain ⟨u9, hu⟩ : ∃ u, u = u3.alloc (.cells #[.int .i64 v] 2) := ⟨_, rfl⟩
                    have lx : Below u3.heap.size u3 u9 := by rw [hu]; exact bl1 _ _
                    have cB : u9.cell? ⟨u3.heap.size, 0, none⟩ = some (.int .i64 v) := by rw [hu]; simp [go_sem]
                    rw [← hu]
                    clear hu
                    have hm := bnext hm lx
                    replace oA := oA.below lx
                    refine hK'.out _ _ (F _ hm) ?_
                    clear hK' K'
                    try simp only [Act.put, List.setIfInBounds_toArray, List.set_cons_zero, List.set_cons_succ]
                    refine anyE_oneL 12 (by kernel_rfl) rfl (fun K' hK' => ?_)
                    go_simp
                    refine (l01Own_any _ k d ((wtsR R).take k) _ (sBk.below hm) (by omega)).mono ?_
                    rintro e u10 ⟨b1, d2, rfl, o2, lx⟩
                    dsimp only
                    have nB2 : blk b1 ≠ some u3.heap.size := fun q => by have := own_blk_ge o2 _ q; have := World.block_lt_of_cell? _ _ cB; simp at this; omega
                    have dis : ∀ g, blk aA = some g → blk b1 ≠ some g := fun g q1 q2 => by have := ownLt oA _ q1; have := own_blk_ge o2 _ q2; omega
                    replace o2 := o2.mono hm.size
                    have hm := bnext hm lx
                    replace cB := cell_be lx cB
                    replace oA := oA.below lx
                    refine hK'.out _ _ (F _ hm) ?_
                    clear hK' K'
                    try simp only [Act.put, List.setIfInBounds_toArray, List.set_cons_zero, List.set_cons_succ]
                    refine anyE_oneL 15 (by kernel_rfl) rfl (fun K' hK' => ?_)
                    refine step_app1 (by rfl) _ _ (by rfl) w1.heap.size b1 k d2 ((wtsR R).take k) (by rfl) HkW.out o2 ⟨u3.heap.size, 0, none⟩ 1 v (by rfl) cB (by omega) hm.size ?_
                    intro bB dB u11 oB hgr hloc
                    have disF : ∀ g, blk aA = some g → blk bB ≠ some g := fun g q1 q2 => by rcases hloc with h | h; exact dis g q1 (by rw [← h]; exact q2); rw [h] at q2; have := ownLt oA _ q1; simp at q2; omega
                    have oA := Own.keep oA hgr (fun g q1 q2 => dis g q1 q2)
                    have hm := hm.grown hgr hm.size (fun g hg => own_blk_ge o2 g hg)
                    clear hgr hloc o2 cB
                    refine hK'.out _ _ (F _ hm) ?_
                    clear hK' K'
                    try simp only [Act.put, List.setIfInBounds_toArray, List.set_cons_zero, List.set_cons_succ]
                    refine anyE_oneL 16 (by kernel_rfl) rfl (fun K' hK' => ?_)
                    go_simp
                    refine hK'.out _ _ (F _ hm) ?_
                    clear hK' K'
                    try simp only [Act.put, List.setIfInBounds_toArray, List.set_cons_zero, List.set_cons_succ]
                    refine anyE_oneL 17 (by kernel_rfl) rfl (fun K' hK' => ?_)
                    go_simp
                    refine hK'.out _ _ (F _ hm) (anyE_doneL (by kernel_rfl) ?_)
                    clear hK' K'
                    try simp only [Act.put, List.setIfInBounds_toArray, List.set_cons_zero, List.set_cons_succ]
                    go_wp2_with fail
                    go_meet
                    exact ⟨aA, dA, bB, dB, by rw [HmN.out], by rw [HmW.out], hide oA, hide oB, hide disF, hide hm⟩
                · go_simp
                  obtain ⟨u14, hu⟩ : ∃ u, u = u2.alloc (.cells #[.int .i64 v] 2) := ⟨_, rfl⟩
                  have lx : Below u2.heap.size u2 u14 := by rw [hu]; exact bl1 _ _
                  have cB : u14.cell? ⟨u2.heap.size, 0, none⟩ = some (.int .i64 v) := by rw [hu]; simp [go_sem]
                  rw [← hu]
                  clear hu
                  have nB : blk a1 ≠ some u2.heap.size := fun q => by have := ownLt o1 _ q; omega
                  have hm := bnext hm lx
                  replace cA := cell_be lx cA
                  replace o1 := o1.below lx
                  refine hK'.out _ _ (F _ hm) ?_
                  clear hK' K'
                  try simp only [Act.put, List.setIfInBounds_toArray, List.set_cons_zero, List.set_cons_succ]
                  refine anyE_oneL 7 (by kernel_rfl) rfl (fun K' hK' => ?_)
                  refine step_app1 (by rfl) _ _ (by rfl) w1.heap.size a1 k d1 ((nodesR R).take k) (by rfl) HkN.out o1 ⟨u1.heap.size, 0, none⟩ 1 x (by rfl) cA (by omega) hm.size ?_
                  intro aA dA u15 oA hgr hloc
                  have hm := hm.grown hgr hm.size (fun g hg => own_blk_ge o1 g hg)
                  replace cB := cell_ne hgr cB nB
                  clear hgr hloc o1 cA
                  refine hK'.out _ _ (F _ hm) ?_
                  clear hK' K'
                  try simp only [Act.put, List.setIfInBounds_toArray, List.set_cons_zero, List.set_cons_succ]
                  refine anyE_oneL 12 (by kernel_rfl) rfl (fun K' hK' => ?_)
                  go_simp
                  refine (l01Own_any _ k d ((wtsR R).take k) _ (sBk.below hm) (by omega)).mono ?_
                  rintro e u16 ⟨b1, d2, rfl, o2, lx⟩
                  dsimp only
                  have nB2 : blk b1 ≠ some u2.heap.size := fun q => by have := own_blk_ge o2 _ q; have := World.block_lt_of_cell? _ _ cB; simp at this; omega
                  have dis : ∀ g, blk aA = some g → blk b1 ≠ some g := fun g q1 q2 => by have := ownLt oA _ q1; have := own_blk_ge o2 _ q2; omega
                  replace o2 := o2.mono hm.size
                  have hm := bnext hm lx
                  replace cB := cell_be lx cB
                  replace oA := oA.below lx
                  refine hK'.out _ _ (F _ hm) ?_
                  clear hK' K'
                  try simp only [Act.put, List.setIfInBounds_toArray, List.set_cons_zero, List.set_cons_succ]
                  refine anyE_oneL 15 (by kernel_rfl) rfl (fun K' hK' => ?_)
                  refine step_app1 (by rfl) _ _ (by rfl) w1.heap.size b1 k d2 ((wtsR R).take k) (by rfl) HkW.out o2 ⟨u2.heap.size, 0, none⟩ 1 v (by rfl) cB (by omega) hm.size ?_
                  intro bB dB u17 oB hgr hloc
                  have disF : ∀ g, blk aA = some g → blk bB ≠ some g := fun g q1 q2 => by rcases hloc with h | h; exact dis g q1 (by rw [← h]; exact q2); rw [h] at q2; have := ownLt oA _ q1; simp at q2; omega
                  have oA := Own.keep oA hgr (fun g q1 q2 => dis g q1 q2)
                  have hm := hm.grown hgr hm.size (fun g hg => own_blk_ge o2 g hg)
                  clear hgr hloc o2 cB
                  refine hK'.out _ _ (F _ hm) ?_
                  clear hK' K'
                  try simp only [Act.put, List.setIfInBounds_toArray, List.set_cons_zero, List.set_cons_succ]
                  refine anyE_oneL 16 (by kernel_rfl) rfl (fun K' hK' => ?_)
                  go_simp
                  refine hK'.out _ _ (F _ hm) ?_
                  clear hK' K'
                  try simp only [Act.put, List.setIfInBounds_toArray, List.set_cons_zero, List.set_cons_succ]
                  refine anyE_oneL 17 (by kernel_rfl) rfl (fun K' hK' => ?_)
                  go_simp
                  refine hK'.out _ _ (F _ hm) (anyE_doneL (by kernel_rfl) ?_)
                  clear hK' K'
                  try simp only [Act.put, List.setIfInBounds_toArray, List.set_cons_zero, List.set_cons_succ]
                  go_wp2_with fail
                  go_meet
                  exact ⟨aA, dA, bB, dB, by rw [HmN.out], by rw [HmW.out], hide oA, hide oB, hide disF, hide hm⟩
              · go_simp
                obtain ⟨u20, hu⟩ : ∃ u, u = u1.alloc (.cells #[.int .i64 v] 2) := ⟨_, rfl⟩
                have lx : Below u1.heap.size u1 u20 := by rw [hu]; exact bl1 _ _
                have cB : u20.cell? ⟨u1.heap.size, 0, none⟩ = some (.int .i64 v) := by rw [hu]; simp [go_sem]
                rw [← hu]
                clear hu
                have nB : blk a1 ≠ some u1.heap.size := fun q => by have := ownLt o1 _ q; omega
                have hm := bnext hm lx
                replace o1 := o1.below lx
                refine hK'.out _ _ (F _ hm) ?_
                clear hK' K'
                try simp only [Act.put, List.setIfInBounds_toArray, List.set_cons_zero, List.set_cons_succ]
                refine anyE_oneL 6 (by kernel_rfl) rfl (fun K' hK' => ?_)
                go_simp
                obtain ⟨u21, hu⟩ : ∃ u, u = u20.alloc (.cells #[.int .i64 x] 2) := ⟨_, rfl⟩
                have lx : Below u20.heap.size u20 u21 := by rw [hu]; exact bl1 _ _
                have cA : u21.cell? ⟨u20.heap.size, 0, none⟩ = some (.int .i64 x) := by rw [hu]; simp [go_sem]
                rw [← hu]
                clear hu
                have hm := bnext hm lx
                replace cB := cell_be lx cB
                replace o1 := o1.below lx
                refine hK'.out _ _ (F _ hm) ?_
                clear hK' K'
                try simp only [Act.put, List.setIfInBounds_toArray, List.set_cons_zero, List.set_cons_succ]
                refine anyE_oneL 7 (by kernel_rfl) rfl (fun K' hK' => ?_)
                refine step_app1 (by rfl) _ _ (by rfl) w1.heap.size a1 k d1 ((nodesR R).take k) (by rfl) HkN.out o1 ⟨u20.heap.size, 0, none⟩ 1 x (by rfl) cA (by omega) hm.size ?_
                intro aA dA u22 oA hgr hloc
                have hm := hm.grown hgr hm.size (fun g hg => own_blk_ge o1 g hg)
                replace cB := cell_ne hgr cB nB
                clear hgr hloc o1 cA
                refine hK'.out _ _ (F _ hm) ?_
                clear hK' K'
                try simp only [Act.put, List.setIfInBounds_toArray, List.set_cons_zero, List.set_cons_succ]
                refine anyE_oneL 12 (by kernel_rfl) rfl (fun K' hK' => ?_)
                go_simp
                refine (l01Own_any _ k d ((wtsR R).take k) _ (sBk.below hm) (by omega)).mono ?_
                rintro e u23 ⟨b1, d2, rfl, o2, lx⟩
                dsimp only
                have nB2 : blk b1 ≠ some u1.heap.size := fun q => by have := own_blk_ge o2 _ q; have := World.block_lt_of_cell? _ _ cB; simp at this; omega
                have dis : ∀ g, blk aA = some g → blk b1 ≠ some g := fun g q1 q2 => by have := ownLt oA _ q1; have := own_blk_ge o2 _ q2; omega
                replace o2 := o2.mono hm.size
                have hm := bnext hm lx
                replace cB := cell_be lx cB
                replace oA := oA.below lx
                refine hK'.out _ _ (F _ hm) ?_
                clear hK' K'
                try simp only [Act.put, List.setIfInBounds_toArray, List.set_cons_zero, List.set_cons_succ]
                refine anyE_oneL 15 (by kernel_rfl) rfl (fun K' hK' => ?_)
                refine step_app1 (by rfl) _ _ (by rfl) w1.heap.size b1 k d2 ((wtsR R).take k) (by rfl) HkW.out o2 ⟨u1.heap.size, 0, none⟩ 1 v (by rfl) cB (by omega) hm.size ?_
                intro bB dB u24 oB hgr hloc
                have disF : ∀ g, blk aA = some g → blk bB ≠ some g := fun g q1 q2 => by rcases hloc with h | h; exact dis g q1 (by rw [← h]; exact q2); rw [h] at q2; have := ownLt oA _ q1; simp at q2; omega
                have oA := Own.keep oA hgr (fun g q1 q2 => dis g q1 q2)
                have hm := hm.grown hgr hm.size (fun g hg => own_blk_ge o2 g hg)
                clear hgr hloc o2 cB
                refine hK'.out _ _ (F _ hm) ?_
                clear hK' K'
                try simp only [Act.put, List.setIfInBounds_toArray, List.set_cons_zero, List.set_cons_succ]
                refine anyE_oneL 16 (by kernel_rfl) rfl (fun K' hK' => ?_)
                go_simp
                refine hK'.out _ _ (F _ hm) ?_
                clear hK' K'
                try simp only [Act.put, List.setIfInBounds_toArray, List.set_cons_zero, List.set_cons_succ]
                refine anyE_oneL 17 (by kernel_rfl) rfl (fun K' hK' => ?_)
                go_simp
                refine hK'.out _ _ (F _ hm) (anyE_doneL (by kernel_rfl) ?_)
                clear hK' K'
                try simp only [Act.put, List.setIfInBounds_toArray, List.set_cons_zero, List.set_cons_succ]
                go_wp2_with fail
                go_meet
                exact ⟨aA, dA, bB, dB, by rw [HmN.out], by rw [HmW.out], hide oA, hide oB, hide disF, hide hm⟩
            · go_simp
              obtain ⟨u27, hu⟩ : ∃ u, u = u0.alloc (.cells #[.int .i64 x] 2) := ⟨_, rfl⟩
              have lx : Below u0.heap.size u0 u27 := by rw [hu]; exact bl1 _ _
              have cA : u27.cell? ⟨u0.heap.size, 0, none⟩ = some (.int .i64 x) := by rw [hu]; simp [go_sem]
              rw [← hu]
              clear hu
              have hm := bnext hm lx
              refine hK'.out _ _ (F _ hm) ?_
              clear hK' K'
              try simp only [Act.put, List.setIfInBounds_toArray, List.set_cons_zero, List.set_cons_succ]
              refine anyE_2L 4 14 (by kernel_rfl) rfl rfl (fun K' hK' => ?_) (fun K' hK' => ?_)
              · go_simp
                refine (l01Own_any _ k c ((nodesR R).take k) _ (sAk.below hm) (by omega)).mono ?_
                rintro e u28 ⟨a1, d1, rfl, o1, lx⟩
                dsimp only
                replace o1 := o1.mono hm.size
                have hm := bnext hm lx
                replace cA := cell_be lx cA
                refine hK'.out _ _ (F _ hm) ?_
                clear hK' K'
                try simp only [Act.put, List.setIfInBounds_toArray, List.set_cons_zero, List.set_cons_succ]
                refine anyE_2L 7 14 (by kernel_rfl) rfl rfl (fun K' hK' => ?_) (fun K' hK' => ?_)
                · refine step_app1 (by rfl) _ _ (by rfl) w1.heap.size a1 k d1 ((nodesR R).take k) (by rfl) HkN.out o1 ⟨u0.heap.size, 0, none⟩ 1 x (by rfl) cA (by omega) hm.size ?_
                  intro aA dA u29 oA hgr hloc
                  have hm := hm.grown hgr hm.size (fun g hg => own_blk_ge o1 g hg)
                  clear hgr hloc o1 cA
                  refine hK'.out _ _ (F _ hm) ?_
                  clear hK' K'
                  try simp only [Act.put, List.setIfInBounds_toArray, List.set_cons_zero, List.set_cons_succ]
                  refine anyE_2L 12 14 (by kernel_rfl) rfl rfl (fun K' hK' => ?_) (fun K' hK' => ?_)
                  · go_simp
                    refine (l01Own_any _ k d ((wtsR R).take k) _ (sBk.below hm) (by omega)).mono ?_
                    rintro e u30 ⟨b1, d2, rfl, o2, lx⟩
                    dsimp only
                    have dis : ∀ g, blk aA = some g → blk b1 ≠ some g := fun g q1 q2 => by have := ownLt oA _ q1; have := own_blk_ge o2 _ q2; omega
                    replace o2 := o2.mono hm.size
                    have hm := bnext hm lx
                    replace oA := oA.below lx
                    refine hK'.out _ _ (F _ hm) ?_
                    clear hK' K'
                    try simp only [Act.put, List.setIfInBounds_toArray, List.set_cons_zero, List.set_cons_succ]
                    refine anyE_oneL 14 (by kernel_rfl) rfl (fun K' hK' => ?_)
                    go_simp
                    obtain ⟨u31, hu⟩ : ∃ u, u = u30.alloc (.cells #[.int .i64 v] 2) := ⟨_, rfl⟩
                    have lx : Below u30.heap.size u30 u31 := by rw [hu]; exact bl1 _ _
                    have cB : u31.cell? ⟨u30.heap.size, 0, none⟩ = some (.int .i64 v) := by rw [hu]; simp [go_sem]
                    rw [← hu]
                    clear hu
                    have nB2 : blk b1 ≠ some u30.heap.size := fun q => by have := ownLt o2 _ q; omega
                    have hm := bnext hm lx
                    replace o2 := o2.below lx
                    replace oA := oA.below lx
                    refine hK'.out _ _ (F _ hm) ?_
                    clear hK' K'
                    try simp only [Act.put, List.setIfInBounds_toArray, List.set_cons_zero, List.set_cons_succ]
                    refine anyE_oneL 15 (by kernel_rfl) rfl (fun K' hK' => ?_)
                    refine step_app1 (by rfl) _ _ (by rfl) w1.heap.size b1 k d2 ((wtsR R).take k) (by rfl) HkW.out o2 ⟨u30.heap.size, 0, none⟩ 1 v (by rfl) cB (by omega) hm.size ?_
                    intro bB dB u32 oB hgr hloc
                    have disF : ∀ g, blk aA = some g → blk bB ≠ some g := fun g q1 q2 => by rcases hloc with h | h; exact dis g q1 (by rw [← h]; exact q2); rw [h] at q2; have := ownLt oA _ q1; simp at q2; omega
                    have oA := Own.keep oA hgr (fun g q1 q2 => dis g q1 q2)
                    have hm := hm.grown hgr hm.size (fun g hg => own_blk_ge o2 g hg)
                    clear hgr hloc o2 cB
                    refine hK'.out _ _ (F _ hm) ?_
                    clear hK' K'
                    try simp only [Act.put, List.setIfInBounds_toArray, List.set_cons_zero, List.set_cons_succ]
                    refine anyE_oneL 16 (by kernel_rfl) rfl (fun K' hK' => ?_)
                    go_simp
                    refine hK'.out _ _ (F _ hm) ?_
                    clear hK' K'
                    try simp only [Act.put, List.setIfInBounds_toArray, List.set_cons_zero, List.set_cons_succ]
                    refine anyE_oneL 17 (by kernel_rfl) rfl (fun K' hK' => ?_)
                    go_simp
                    refine hK'.out _ _ (F _ hm) (anyE_doneL (by kernel_rfl) ?_)
                    clear hK' K'
                    try simp only [Act.put, List.setIfInBounds_toArray, List.set_cons_zero, List.set_cons_succ]
                    go_wp2_with fail
                    go_meet
                    exact ⟨aA, dA, bB, dB, by rw [HmN.out], by rw [HmW.out], hide oA, hide oB, hide disF, hide hm⟩
                  · go_simp
                    obtain ⟨u35, hu⟩ : ∃ u, u = u29.alloc (.cells #[.int .i64 v] 2) := ⟨_, rfl⟩
                    have lx : Below u29.heap.size u29 u35 := by rw [hu]; exact bl1 _ _
                    have cB : u35.cell? ⟨u29.heap.size, 0, none⟩ = some (.int .i64 v) := by rw [hu]; simp [go_sem]
                    rw [← hu]
                    clear hu
                    have hm := bnext hm lx
                    replace oA := oA.below lx
                    refine hK'.out _ _ (F _ hm) ?_
                    clear hK' K'
                    try simp only [Act.put, List.setIfInBounds_toArray, List.set_cons_zero, List.set_cons_succ]
                    refine anyE_oneL 12 (by kernel_rfl) rfl (fun K' hK' => ?_)
                    go_simp
                    refine (l01Own_any _ k d ((wtsR R).take k) _ (sBk.below hm) (by omega)).mono ?_
                    rintro e u36 ⟨b1, d2, rfl, o2, lx⟩
                    dsimp only
                    have nB2 : blk b1 ≠ some u29.heap.size := fun q => by have := own_blk_ge o2 _ q; have := World.block_lt_of_cell? _ _ cB; simp at this; omega
                    have dis : ∀ g, blk aA = some g → blk b1 ≠ some g := fun g q1 q2 => by have := ownLt oA _ q1; have := own_blk_ge o2 _ q2; omega
                    replace o2 := o2.mono hm.size
                    have hm := bnext hm lx
                    replace cB := cell_be lx cB
                    replace oA := oA.below lx
                    refine hK'.out _ _ (F _ hm) ?_
                    clear hK' K'
                    try simp only [Act.put, List.setIfInBounds_toArray, List.set_cons_zero, List.set_cons_succ]
                    refine anyE_oneL 15 (by kernel_rfl) rfl (fun K' hK' => ?_)
                    refine step_app1 (by rfl) _ _ (by rfl) w1.heap.size b1 k d2 ((wtsR R).take k) (by rfl) HkW.out o2 ⟨u29.heap.size, 0, none⟩ 1 v (by rfl) cB (by omega) hm.size ?_
                    intro bB dB u37 oB hgr hloc
                    have disF : ∀ g, blk aA = some g → blk bB ≠ some g := fun g q1 q2 => by rcases hloc with h | h; exact dis g q1 (by rw [← h]; exact q2); rw [h] at q2; have := ownLt oA _ q1; simp at q2; omega
                    have oA := Own.keep oA hgr (fun g q1 q2 => dis g q1 q2)
                    have hm := hm.grown hgr hm.size (fun g hg => own_blk_ge o2 g hg)
                    clear hgr hloc o2 cB
                    refine hK'.out _ _ (F _ hm) ?_
                    clear hK' K'
                    try simp only [Act.put, List.setIfInBounds_toArray, List.set_cons_zero, List.set_cons_succ]
                    refine anyE_oneL 16 (by kernel_rfl) rfl (fun K' hK' => ?_)
                    go_simp
                    refine hK'.out _ _ (F _ hm) ?_
                    clear hK' K'
                    try simp only [Act.put, List.setIfInBounds_toArray, List.set_cons_zero, List.set_cons_succ]
                    refine anyE_oneL 17 (by kernel_rfl) rfl (fun K' hK' => ?_)
                    go_simp
                    refine hK'.out _ _ (F _ hm) (anyE_doneL (by kernel_rfl) ?_)
                    clear hK' K'
                    try simp only [Act.put, List.setIfInBounds_toArray, List.set_cons_zero, List.set_cons_succ]
                    go_wp2_with fail
                    go_meet
                    exact ⟨aA, dA, bB, dB, by rw [HmN.out], by rw [HmW.out], hide oA, hide oB, hide disF, hide hm⟩
                · go_simp
                  obtain ⟨u40, hu⟩ : ∃ u, u = u28.alloc (.cells #[.int .i64 v] 2) := ⟨_, rfl⟩
                  have lx : Below u28.heap.size u28 u40 := by rw [hu]; exact bl1 _ _
                  have cB : u40.cell? ⟨u28.heap.size, 0, none⟩ = some (.int .i64 v) := by rw [hu]; simp [go_sem]
                  rw [← hu]
                  clear hu
                  have nB : blk a1 ≠ some u28.heap.size := fun q => by have := ownLt o1 _ q; omega
                  have hm := bnext hm lx
                  replace cA := cell_be lx cA
                  replace o1 := o1.below lx
                  refine hK'.out _ _ (F _ hm) ?_
                  clear hK' K'
                  try simp only [Act.put, List.setIfInBounds_toArray, List.set_cons_zero, List.set_cons_succ]
                  refine anyE_oneL 7 (by kernel_rfl) rfl (fun K' hK' => ?_)
                  refine step_app1 (by rfl) _ _ (by rfl) w1.heap.size a1 k d1 ((nodesR R).take k) (by rfl) HkN.out o1 ⟨u0.heap.size, 0, none⟩ 1 x (by rfl) cA (by omega) hm.size ?_
                  intro aA dA u41 oA hgr hloc
                  have hm := hm.grown hgr hm.size (fun g hg => own_blk_ge o1 g hg)
                  replace cB := cell_ne hgr cB nB
                  clear hgr hloc o1 cA
                  refine hK'.out _ _ (F _ hm) ?_
                  clear hK' K'
                  try simp only [Act.put, List.setIfInBounds_toArray, List.set_cons_zero, List.set_cons_succ]
                  refine anyE_oneL 12 (by kernel_rfl) rfl (fun K' hK' => ?_)
                  go_simp
                  refine (l01Own_any _ k d ((wtsR R).take k) _ (sBk.below hm) (by omega)).mono ?_
                  rintro e u42 ⟨b1, d2, rfl, o2, lx⟩
                  dsimp only
                  have nB2 : blk b1 ≠ some u28.heap.size := fun q => by have := own_blk_ge o2 _ q; have := World.block_lt_of_cell? _ _ cB; simp at this; omega
                  have dis : ∀ g, blk aA = some g → blk b1 ≠ some g := fun g q1 q2 => by have := ownLt oA _ q1; have := own_blk_ge o2 _ q2; omega
                  replace o2 := o2.mono hm.size
                  have hm := bnext hm lx
                  replace cB := cell_be lx cB
                  replace oA := oA.below lx
                  refine hK'.out _ _ (F _ hm) ?_
                  clear hK' K'
                  try simp only [Act.put, List.setIfInBounds_toArray, List.set_cons_zero, List.set_cons_succ]
                  refine anyE_oneL 15 (by kernel_rfl) rfl (fun K' hK' => ?_)
                  refine step_app1 (by rfl) _ _ (by rfl) w1.heap.size b1 k d2 ((wtsR R).take k) (by rfl) HkW.out o2 ⟨u28.heap.size, 0, none⟩ 1 v (by rfl) cB (by omega) hm.size ?_
                  intro bB dB u43 oB hgr hloc
                  have disF : ∀ g, blk aA = some g → blk bB ≠ some g := fun g q1 q2 => by rcases hloc with h | h; exact dis g q1 (by rw [← h]; exact q2); rw [h] at q2; have := ownLt oA _ q1; simp at q2; omega
                  have oA := Own.keep oA hgr (fun g q1 q2 => dis g q1 q2)
                  have hm := hm.grown hgr hm.size (fun g hg => own_blk_ge o2 g hg)
                  clear hgr hloc o2 cB
                  refine hK'.out _ _ (F _ hm) ?_
                  clear hK' K'
                  try simp only [Act.put, List.setIfInBounds_toArray, List.set_cons_zero, List.set_cons_succ]
                  refine anyE_oneL 16 (by kernel_rfl) rfl (fun K' hK' => ?_)
                  go_simp
                  refine hK'.out _ _ (F _ hm) ?_
                  clear hK' K'
                  try simp only [Act.put, List.setIfInBounds_toArray, List.set_cons_zero, List.set_cons_succ]
                  refine anyE_oneL 17 (by kernel_rfl) rfl (fun K' hK' => ?_)
                  go_simp
                  refine hK'.out _ _ (F _ hm) (anyE_doneL (by kernel_rfl) ?_)
                  clear hK' K'
                  try simp only [Act.put, List.setIfInBounds_toArray, List.set_cons_zero, List.set_cons_succ]
                  go_wp2_with fail
                  go_meet
                  exact ⟨aA, dA, bB, dB, by rw [HmN.out], by rw [HmW.out], hide oA, hide oB, hide disF, hide hm⟩
              · go_simp
                obtain ⟨u46, hu⟩ : ∃ u, u = u27.alloc (.cells #[.int .i64 v] 2) := ⟨_, rfl⟩
                have lx : Below u27.heap.size u27 u46 := by rw [hu]; exact bl1 _ _
                have cB : u46.cell? ⟨u27.heap.size, 0, none⟩ = some (.int .i64 v) := by rw [hu]; simp [go_sem]
                rw [← hu]
                clear hu
                have hm := bnext hm lx
                replace cA := cell_be lx cA
                refine hK'.out _ _ (F _ hm) ?_
                clear hK' K'
                try simp only [Act.put, List.setIfInBounds_toArray, List.set_cons_zero, List.set_cons_succ]
                refine anyE_oneL 4 (by kernel_rfl) rfl (fun K' hK' => ?_)
                go_simp
                refine (l01Own_any _ k c ((nodesR R).take k) _ (sAk.below hm) (by omega)).mono ?_
                rintro e u47 ⟨a1, d1, rfl, o1, lx⟩
                dsimp only
                have nB : blk a1 ≠ some u27.heap.size := fun q => by have := own_blk_ge o1 _ q; have := World.block_lt_of_cell? _ _ cB; simp at this; omega
                replace o1 := o1.mono hm.size
                have hm := bnext hm lx
                replace cA := cell_be lx cA
                replace cB := cell_be lx cB
                refine hK'.out _ _ (F _ hm) ?_
                clear hK' K'
                try simp only [Act.put, List.setIfInBounds_toArray, List.set_cons_zero, List.set_cons_succ]
                refine anyE_oneL 7 (by kernel_rfl) rfl (fun K' hK' => ?_)
                refine step_app1 (by rfl) _ _ (by rfl) w1.heap.size a1 k d1 ((nodesR R).take k) (by rfl) HkN.out o1 ⟨u0.heap.size, 0, none⟩ 1 x (by rfl) cA (by omega) hm.size ?_
                intro aA dA u48 oA hgr hloc
                have hm := hm.grown hgr hm.size (fun g hg => own_blk_ge o1 g hg)
                replace cB := cell_ne hgr cB nB
                clear hgr hloc o1 cA
                refine hK'.out _ _ (F _ hm) ?_
                clear hK' K'
                try simp only [Act.put, List.setIfInBounds_toArray, List.set_cons_zero, List.set_cons_succ]
                refine anyE_oneL 12 (by kernel_rfl) rfl (fun K' hK' => ?_)
                go_simp
                refine (l01Own_any _ k d ((wtsR R).take k) _ (sBk.below hm) (by omega)).mono ?_
                rintro e u49 ⟨b1, d2, rfl, o2, lx⟩
                dsimp only
                have nB2 : blk b1 ≠ some u27.heap.size := fun q => by have := own_blk_ge o2 _ q; have := World.block_lt_of_cell? _ _ cB; simp at this; omega
                have dis : ∀ g, blk aA = some g → blk b1 ≠ some g := fun g q1 q2 => by have := ownLt oA _ q1; have := own_blk_ge o2 _ q2; omega
                replace o2 := o2.mono hm.size
                have hm := bnext hm lx
                replace cB := cell_be lx cB
                replace oA := oA.below lx
                refine hK'.out _ _ (F _ hm) ?_
                clear hK' K'
                try simp only [Act.put, List.setIfInBounds_toArray, List.set_cons_zero, List.set_cons_succ]
                refine anyE_oneL 15 (by kernel_rfl) rfl (fun K' hK' => ?_)
                refine step_app1 (by rfl) _ _ (by rfl) w1.heap.size b1 k d2 ((wtsR R).take k) (by rfl) HkW.out o2 ⟨u27.heap.size, 0, none⟩ 1 v (by rfl) cB (by omega) hm.size ?_
                intro bB dB u50 oB hgr hloc
                have disF : ∀ g, blk aA = some g → blk bB ≠ some g := fun g q1 q2 => by rcases hloc with h | h; exact dis g q1 (by rw [← h]; exact q2); rw [h] at q2; have := ownLt oA _ q1; simp at q2; omega
                have oA := Own.keep oA hgr (fun g q1 q2 => dis g q1 q2)
                have hm := hm.grown hgr hm.size (fun g hg => own_blk_ge o2 g hg)
                clear hgr hloc o2 cB
                refine hK'.out _ _ (F _ hm) ?_
                clear hK' K'
                try simp only [Act.put, List.setIfInBounds_toArray, List.set_cons_zero, List.set_cons_succ]
                refine anyE_oneL 16 (by kernel_rfl) rfl (fun K' hK' => ?_)
                go_simp
                refine hK'.out _ _ (F _ hm) ?_
                clear hK' K'
                try simp only [Act.put, List.setIfInBounds_toArray, List.set_cons_zero, List.set_cons_succ]
                refine anyE_oneL 17 (by kernel_rfl) rfl (fun K' hK' => ?_)
                go_simp
                refine hK'.out _ _ (F _ hm) (anyE_doneL (by kernel_rfl) ?_)
                clear hK' K'
                try simp only [Act.put, List.setIfInBounds_toArray, List.set_cons_zero, List.set_cons_succ]
                go_wp2_with fail
                go_meet
                exact ⟨aA, dA, bB, dB, by rw [HmN.out], by rw [HmW.out], hide oA, hide oB, hide disF, hide hm⟩
            · go_simp
              obtain ⟨u53, hu⟩ : ∃ u, u = u0.alloc (.cells #[.int .i64 v] 2) := ⟨_, rfl⟩
              have lx : Below u0.heap.size u0 u53 := by rw [hu]; exact bl1 _ _
              have cB : u53.cell? ⟨u0.heap.size, 0, none⟩ = some (.int .i64 v) := by rw [hu]; simp [go_sem]
              rw [← hu]
              clear hu
              have hm := bnext hm lx
              refine hK'.out _ _ (F _ hm) ?_
              clear hK' K'
              try simp only [Act.put, List.setIfInBounds_toArray, List.set_cons_zero, List.set_cons_succ]
              refine anyE_2L 4 6 (by kernel_rfl) rfl rfl (fun K' hK' => ?_) (fun K' hK' => ?_)
              · go_simp
                refine (l01Own_any _ k c ((nodesR R).take k) _ (sAk.below hm) (by omega)).mono ?_
                rintro e u54 ⟨a1, d1, rfl, o1, lx⟩
                dsimp only
                have nB : blk a1 ≠ some u0.heap.size := fun q => by have := own_blk_ge o1 _ q; have := World.block_lt_of_cell? _ _ cB; simp at this; omega
                replace o1 := o1.mono hm.size
                have hm := bnext hm lx
                replace cB := cell_be lx cB
                refine hK'.out _ _ (F _ hm) ?_
                clear hK' K'
                try simp only [Act.put, List.setIfInBounds_toArray, List.set_cons_zero, List.set_cons_succ]
                refine anyE_oneL 6 (by kernel_rfl) rfl (fun K' hK' => ?_)
                go_simp
                obtain ⟨u55, hu⟩ : ∃ u, u = u54.alloc (.cells #[.int .i64 x] 2) := ⟨_, rfl⟩
                have lx : Below u54.heap.size u54 u55 := by rw [hu]; exact bl1 _ _
                have cA : u55.cell? ⟨u54.heap.size, 0, none⟩ = some (.int .i64 x) := by rw [hu]; simp [go_sem]
                rw [← hu]
                clear hu
                have hm := bnext hm lx
                replace cB := cell_be lx cB
                replace o1 := o1.below lx
                refine hK'.out _ _ (F _ hm) ?_
                clear hK' K'
                try simp only [Act.put, List.setIfInBounds_toArray, List.set_cons_zero, List.set_cons_succ]
                refine anyE_oneL 7 (by kernel_rfl) rfl (fun K' hK' => ?_)
                refine step_app1 (by rfl) _ _ (by rfl) w1.heap.size a1 k d1 ((nodesR R).take k) (by rfl) HkN.out o1 ⟨u54.heap.size, 0, none⟩ 1 x (by rfl) cA (by omega) hm.size ?_
                intro aA dA u56 oA hgr hloc
                have hm := hm.grown hgr hm.size (fun g hg => own_blk_ge o1 g hg)
                replace cB := cell_ne hgr cB nB
                clear hgr hloc o1 cA
                refine hK'.out _ _ (F _ hm) ?_
                clear hK' K'
                try simp only [Act.put, List.setIfInBounds_toArray, List.set_cons_zero, List.set_cons_succ]
                refine anyE_oneL 12 (by kernel_rfl) rfl (fun K' hK' => ?_)
                go_simp
                refine (l01Own_any _ k d ((wtsR R).take k) _ (sBk.below hm) (by omega)).mono ?_
                rintro e u57 ⟨b1, d2, rfl, o2, lx⟩
                dsimp only
                have nB2 : blk b1 ≠ some u0.heap.size := fun q => by have := own_blk_ge o2 _ q; have := World.block_lt_of_cell? _ _ cB; simp at this; omega
                have dis : ∀ g, blk aA = some g → blk b1 ≠ some g := fun g q1 q2 => by have := ownLt oA _ q1; have := own_blk_ge o2 _ q2; omega
                replace o2 := o2.mono hm.size
                have hm := bnext hm lx
                replace cB := cell_be lx cB
                replace oA := oA.below lx
                refine hK'.out _ _ (F _ hm) ?_
                clear hK' K'
                try simp only [Act.put, List.setIfInBounds_toArray, List.set_cons_zero, List.set_cons_succ]
                refine anyE_oneL 15 (by kernel_rfl) rfl (fun K' hK' => ?_)
                refine step_app1 (by rfl) _ _ (by rfl) w1.heap.size b1 k d2 ((wtsR R).take k) (by rfl) HkW.out o2 ⟨u0.heap.size, 0, none⟩ 1 v (by rfl) cB (by omega) hm.size ?_
                intro bB dB u58 oB hgr hloc
                have disF : ∀ g, blk aA = some g → blk bB ≠ some g := fun g q1 q2 => by rcases hloc with h | h; exact dis g q1 (by rw [← h]; exact q2); rw [h] at q2; have := ownLt oA _ q1; simp at q2; omega
                have oA := Own.keep oA hgr (fun g q1 q2 => dis g q1 q2)
                have hm := hm.grown hgr hm.size (fun g hg => own_blk_ge o2 g hg)
                clear hgr hloc o2 cB
                refine hK'.out _ _ (F _ hm) ?_
                clear hK' K'
                try simp only [Act.put, List.setIfInBounds_toArray, List.set_cons_zero, List.set_cons_succ]
                refine anyE_oneL 16 (by kernel_rfl) rfl (fun K' hK' => ?_)
                go_simp
                refine hK'.out _ _ (F _ hm) ?_
                clear hK' K'
                try simp only [Act.put, List.setIfInBounds_toArray, List.set_cons_zero, List.set_cons_succ]
                refine anyE_oneL 17 (by kernel_rfl) rfl (fun K' hK' => ?_)
                go_simp
                refine hK'.out _ _ (F _ hm) (anyE_doneL (by kernel_rfl) ?_)
                clear hK' K'
                try simp only [Act.put, List.setIfInBounds_toArray, List.set_cons_zero, List.set_cons_succ]
                go_wp2_with fail
                go_meet
                exact ⟨aA, dA, bB, dB, by rw [HmN.out], by rw [HmW.out], hide oA, hide oB, hide disF, hide hm⟩
              · go_simp
                obtain ⟨u61, hu⟩ : ∃ u, u = u53.alloc (.cells #[.int .i64 x] 2) := ⟨_, rfl⟩
                have lx : Below u53.heap.size u53 u61 := by rw [hu]; exact bl1 _ _
                have cA : u61.cell? ⟨u53.heap.size, 0, none⟩ = some (.int .i64 x) := by rw [hu]; simp [go_sem]
                rw [← hu]
                clear hu
                have hm := bnext hm lx
                replace cB := cell_be lx cB
                refine hK'.out _ _ (F _ hm) ?_
                clear hK' K'
                try simp only [Act.put, List.setIfInBounds_toArray, List.set_cons_zero, List.set_cons_succ]
                refine anyE_oneL 4 (by kernel_rfl) rfl (fun K' hK' => ?_)
                go_simp
                refine (l01Own_any _ k c ((nodesR R).take k) _ (sAk.below hm) (by omega)).mono ?_
                rintro e u62 ⟨a1, d1, rfl, o1, lx⟩
                dsimp only
                have nB : blk a1 ≠ some u0.heap.size := fun q => by have := own_blk_ge o1 _ q; have := World.block_lt_of_cell? _ _ cB; simp at this; omega
                replace o1 := o1.mono hm.size
                have hm := bnext hm lx
                replace cA := cell_be lx cA
                replace cB := cell_be lx cB
                refine hK'.out _ _ (F _ hm) ?_
                clear hK' K'
                try simp only [Act.put, List.setIfInBounds_toArray, List.set_cons_zero, List.set_cons_succ]
                refine anyE_oneL 7 (by kernel_rfl) rfl (fun K' hK' => ?_)
                refine step_app1 (by rfl) _ _ (by rfl) w1.heap.size a1 k d1 ((nodesR R).take k) (by rfl) HkN.out o1 ⟨u53.heap.size, 0, none⟩ 1 x (by rfl) cA (by omega) hm.size ?_
                intro aA dA u63 oA hgr hloc
                have hm := hm.grown hgr hm.size (fun g hg => own_blk_ge o1 g hg)
                replace cB := cell_ne hgr cB nB
                clear hgr hloc o1 cA
                refine hK'.out _ _ (F _ hm) ?_
                clear hK' K'
                try simp only [Act.put, List.setIfInBounds_toArray, List.set_cons_zero, List.set_cons_succ]
                refine anyE_oneL 12 (by kernel_rfl) rfl (fun K' hK' => ?_)
                go_simp
                refine (l01Own_any _ k d ((wtsR R).take k) _ (sBk.below hm) (by omega)).mono ?_
                rintro e u64 ⟨b1, d2, rfl, o2, lx⟩
                dsimp only
                have nB2 : blk b1 ≠ some u0.heap.size := fun q => by have := own_blk_ge o2 _ q; have := World.block_lt_of_cell? _ _ cB; simp at this; omega
                have dis : ∀ g, blk aA = some g → blk b1 ≠ some g := fun g q1 q2 => by have := ownLt oA _ q1; have := own_blk_ge o2 _ q2; omega
                replace o2 := o2.mono hm.size
                have hm := bnext hm lx
                replace cB := cell_be lx cB
                replace oA := oA.below lx
                refine hK'.out _ _ (F _ hm) ?_
                clear hK' K'
                try simp only [Act.put, List.setIfInBounds_toArray, List.set_cons_zero, List.set_cons_succ]
                refine anyE_oneL 15 (by kernel_rfl) rfl (fun K' hK' => ?_)
                refine step_app1 (by rfl) _ _ (by rfl) w1.heap.size b1 k d2 ((wtsR R).take k) (by rfl) HkW.out o2 ⟨u0.heap.size, 0, none⟩ 1 v (by rfl) cB (by omega) hm.size ?_
                intro bB dB u65 oB hgr hloc
                have disF : ∀ g, blk aA = some g → blk bB ≠ some g := fun g q1 q2 => by rcases hloc with h | h; exact dis g q1 (by rw [← h]; exact q2); rw [h] at q2; have := ownLt oA _ q1; simp at q2; omega
                have oA := Own.keep oA hgr (fun g q1 q2 => dis g q1 q2)
                have hm := hm.grown hgr hm.size (fun g hg => own_blk_ge o2 g hg)
                clear hgr hloc o2 cB
                refine hK'.out _ _ (F _ hm) ?_
                clear hK' K'
                try simp only [Act.put, List.setIfInBounds_toArray, List.set_cons_zero, List.set_cons_succ]
                refine anyE_oneL 16 (by kernel_rfl) rfl (fun K' hK' => ?_)
                go_simp
                refine hK'.out _ _ (F _ hm) ?_
                clear hK' K'
                try simp only [Act.put, List.setIfInBounds_toArray, List.set_cons_zero, List.set_cons_succ]
                refine anyE_oneL 17 (by kernel_rfl) rfl (fun K' hK' => ?_)
                go_simp
                refine hK'.out _ _ (F _ hm) (anyE_doneL (by kernel_rfl) ?_)
                clear hK' K'
                try simp only [Act.put, List.setIfInBounds_toArray, List.set_cons_zero, List.set_cons_succ]
                go_wp2_with fail
                go_meet
                exact ⟨aA, dA, bB, dB, by rw [HmN.out], by rw [HmW.out], hide oA, hide oB, hide disF, hide hm⟩
          case rest =>
          obtain ⟨aA, dA, bB, dB, rfl, rfl, oA, oB, disF, hm⟩ := hcut
          obtain ⟨w5, hw5⟩ : ∃ w5, w5 = wc := ⟨wc, rfl⟩
          subst hw5
          have t5 := hm.out
          have z5 := t5.size
          have c1 := cell_be t5 f1
          have c2 := cell_be t5 f2
          have c0 := cell_be t5 f0
          have k1 := (t5.frozen (World.block_lt_of_cell? _ _ f1)).trans h1
          have k2 := (t5.frozen (World.block_lt_of_cell? _ _ f2)).trans h2
          have kn : (k : Int) ≤ (n : Int) := by omega
          have hneq : blk aA ≠ some w.heap.size := fun e => by have := own_blk_ge oA.out _ e; omega
          have hAl := ownLt oA.out
          have hBl := ownLt oB.out
          have sl1 : ∃ z1 e1, (c - k = e1 ∧ SL w5 (some ⟨ga, z1, none⟩) (n - k) e1 ((nodesR R).drop k) ∧ ((e1 = 0 ∧ z1 = 0) ∨ (z1 = k ∧ ∃ e2, e1 = e2 + 1))) := by
            have hle := sA.le
            have sd1 := (sA.below t5).dropS k (show k ≤ n from hk)
            rw [Nat.zero_add] at sd1
            by_cases q : c - k = 0
            · refine ⟨0, 0, q, ?_, .inl ⟨rfl, rfl⟩⟩
              rw [q] at sd1
              exact ⟨sd1.len, ⟨sd1.le, fun h => by cases h⟩, .inl (by have := sd1.le; omega)⟩
            · exact ⟨k, c - k, rfl, sd1, .inr ⟨rfl, c - k - 1, by omega⟩⟩
          obtain ⟨m1, e1, he1, sl1, hs1⟩ := sl1
          have hXN : min k (nodesR R).length + ((nodesR R).length - k + 1) = n + 1 := by have := HmN.out; have := hN.out; have := hn'.out; omega
          have hXW : min k (wtsR R).length + ((wtsR R).length - k + 1) = n + 1 := by have := HmW.out; have := hWl.out; have := hn'.out; omega
          have HXN := hide hXN
          have HXW := hide hXW
          clear hXN hXW
          go_upto_region 9 with fail
          go_cut [] (fun wx => ∃ (a6 : Option Addr) (d6 : Nat), Hid (wx.cell? ⟨w.heap.size, 1, none⟩ = some (.slice a6 (n + 1) d6)) ∧ Hid (wx.cell? ⟨w.heap.size, 2, none⟩ = some (.slice (some ⟨gb, 0, none⟩) n d)) ∧ Hid (wx.cell? ⟨w.heap.size, 0, none⟩ = some (.int .i64 p)) ∧ Hid (wx.frozen? ⟨w.heap.size, 2, none⟩ = false) ∧ Hid (Own w1.heap.size wx a6 d6 ((nodesR R).take k ++ [x] ++ (nodesR R).drop k)) ∧ Hid (Own w1.heap.size wx bB dB ((wtsR R).take k ++ [v])) ∧ Hid (∀ g, blk a6 = some g → blk bB ≠ some g) ∧ Hid (Below w.heap.size w1 wx) ∧ Hid (wx.cell? ⟨w.heap.size + 1, 0, none⟩ = some (.int .i64 0) ∧ wx.cell? ⟨w.heap.size + 1, 1, none⟩ = some (.slice none 0 0) ∧ wx.cell? ⟨w.heap.size + 1, 2, none⟩ = some (.slice none 0 0) ∧ wx.frozen? ⟨w.heap.size + 1, 0, none⟩ = false ∧ wx.frozen? ⟨w.heap.size + 1, 1, none⟩ = false ∧ wx.frozen? ⟨w.heap.size + 1, 2, none⟩ = false) ∧ w1.heap.size ≤ wx.heap.size)
          case first =>
            have hne1 : blk aA ≠ some (w.heap.size + 1) := fun e => by have := own_blk_ge oA.out _ e; omega
            rcases hs1 with ⟨rfl, rfl⟩ | ⟨hz, e3, he⟩
            · go_upto_region 10 with (at_builtin; refine wp_appG rfl _ _ rfl w1.heap.size aA (k + 1) dA ((nodesR R).take k ++ [x]) rfl HkN1.out.symm oA.out (some ⟨ga, 0, none⟩) (n - k) 0 ((nodesR R).drop k) rfl sl1 (by omega) z5 ?_; intro a6 d6 w6 oN hgr hloc; have s' := cell_ne hgr c1 hneq; have sf := frz_ne hgr c1 k1 hneq)
              rw [HXN.out]
              go_meet
              obtain ⟨g6, e6, _⟩ := oN.blkG (by rw [HdN.out]; omega)
              have hno : ∀ o v, w5.cell? ⟨w.heap.size + 1, o, none⟩ = some v → (w6.setCell ⟨w.heap.size, 1, none⟩ (.slice a6 (n + 1) d6)).cell? ⟨w.heap.size + 1, o, none⟩ = some v := fun o v h => cell_set2 (cell_ne hgr h hne1) (by simp) _
              have hnf : ∀ o v, w5.cell? ⟨w.heap.size + 1, o, none⟩ = some v → w5.frozen? ⟨w.heap.size + 1, o, none⟩ = false → (w6.setCell ⟨w.heap.size, 1, none⟩ (.slice a6 (n + 1) d6)).frozen? ⟨w.heap.size + 1, o, none⟩ = false := fun o v h hf => by
                have := frz_ne hgr h hf hne1
                simpa using this
              have hB6 : Below w.heap.size w1 (w6.setCell ⟨w.heap.size, 1, none⟩ (.slice a6 (n + 1) d6)) := ((t5.mono (show w.heap.size ≤ w1.heap.size by omega)).grown hgr (by omega) (fun g hg => by have := own_blk_ge oA.out g hg; omega)).setCell (by simp) _
              have hd6 : ∀ g, blk a6 = some g → blk bB ≠ some g := fun g q1 q2 => by
                rcases hloc with h | h
                · exact disF.out g (by rw [← h]; exact q1) q2
                · rw [h] at q1
                  have := hBl g q2
                  simp at q1
                  omega
              have hfz2 : (w6.setCell ⟨w.heap.size, 1, none⟩ (.slice a6 (n + 1) d6)).frozen? ⟨w.heap.size, 2, none⟩ = false := by
                have := frz_ne hgr c2 k2 hneq
                simpa using this
              exact ⟨a6, d6, hide (World.cell?_setCell_same _ _ _ s'), hide (cell_set2' (cell_ne hgr c2 hneq) (by omega) _), hide (cell_set2' (cell_ne hgr c0 hneq) (by omega) _), hide hfz2, hide (oN.otherG (fun e => by have := own_blk_ge oN _ e; omega) _), hide ((Own.keep oB.out hgr (fun g q1 q2 => disF.out g q2 q1)).otherG (fun e => by have := own_blk_ge oB.out _ e; omega) _), hide hd6, hide hB6, hide ⟨hno _ _ (cell_be t5 r0), hno _ _ (cell_be t5 r1), hno _ _ (cell_be t5 r2), hnf _ _ (cell_be t5 r0) ((t5.frozen (World.block_lt_of_cell? _ _ r0)).trans y0), hnf _ _ (cell_be t5 r1) ((t5.frozen (World.block_lt_of_cell? _ _ r1)).trans y1), hnf _ _ (cell_be t5 r2) ((t5.frozen (World.block_lt_of_cell? _ _ r2)).trans y2)⟩, by have := hgr.size; simp; omega⟩
            · rw [hz, he] at sl1
              rw [he] at he1
              go_upto_region 10 with (at_builtin; refine wp_appG rfl _ _ rfl w1.heap.size aA (k + 1) dA ((nodesR R).take k ++ [x]) rfl HkN1.out.symm oA.out (some ⟨ga, k, none⟩) (n - k) (e3 + 1) ((nodesR R).drop k) rfl sl1 (by omega) z5 ?_; intro a6 d6 w6 oN hgr hloc; have s' := cell_ne hgr c1 hneq; have sf := frz_ne hgr c1 k1 hneq)
              rw [HXN.out]
              go_meet
              obtain ⟨g6, e6, _⟩ := oN.blkG (by rw [HdN.out]; omega)
              have hno : ∀ o v, w5.cell? ⟨w.heap.size + 1, o, none⟩ = some v → (w6.setCell ⟨w.heap.size, 1, none⟩ (.slice a6 (n + 1) d6)).cell? ⟨w.heap.size + 1, o, none⟩ = some v := fun o v h => cell_set2 (cell_ne hgr h hne1) (by simp) _
              have hnf : ∀ o v, w5.cell? ⟨w.heap.size + 1, o, none⟩ = some v → w5.frozen? ⟨w.heap.size + 1, o, none⟩ = false → (w6.setCell ⟨w.heap.size, 1, none⟩ (.slice a6 (n + 1) d6)).frozen? ⟨w.heap.size + 1, o, none⟩ = false := fun o v h hf => by
                have := frz_ne hgr h hf hne1
                simpa using this
              have hB6 : Below w.heap.size w1 (w6.setCell ⟨w.heap.size, 1, none⟩ (.slice a6 (n + 1) d6)) := ((t5.mono (show w.heap.size ≤ w1.heap.size by omega)).grown hgr (by omega) (fun g hg => by have := own_blk_ge oA.out g hg; omega)).setCell (by simp) _
              have hd6 : ∀ g, blk a6 = some g → blk bB ≠ some g := fun g q1 q2 => by
                rcases hloc with h | h
                · exact disF.out g (by rw [← h]; exact q1) q2
                · rw [h] at q1
                  have := hBl g q2
                  simp at q1
                  omega
              have hfz2 : (w6.setCell ⟨w.heap.size, 1, none⟩ (.slice a6 (n + 1) d6)).frozen? ⟨w.heap.size, 2, none⟩ = false := by
                have := frz_ne hgr c2 k2 hneq
                simpa using this
              exact ⟨a6, d6, hide (World.cell?_setCell_same _ _ _ s'), hide (cell_set2' (cell_ne hgr c2 hneq) (by omega) _), hide (cell_set2' (cell_ne hgr c0 hneq) (by omega) _), hide hfz2, hide (oN.otherG (fun e => by have := own_blk_ge oN _ e; omega) _), hide ((Own.keep oB.out hgr (fun g q1 q2 => disF.out g q2 q1)).otherG (fun e => by have := own_blk_ge oB.out _ e; omega) _), hide hd6, hide hB6, hide ⟨hno _ _ (cell_be t5 r0), hno _ _ (cell_be t5 r1), hno _ _ (cell_be t5 r2), hnf _ _ (cell_be t5 r0) ((t5.frozen (World.block_lt_of_cell? _ _ r0)).trans y0), hnf _ _ (cell_be t5 r1) ((t5.frozen (World.block_lt_of_cell? _ _ r1)).trans y1), hnf _ _ (cell_be t5 r2) ((t5.frozen (World.block_lt_of_cell? _ _ r2)).trans y2)⟩, by have := hgr.size; simp; omega⟩
          case rest =>
          obtain ⟨a6, d6, c1', c2', c0', k2', oN, oB', dis6, hB6, hR6, z6⟩ := hcut
          clear c0 c1 c2 k1 k2 t5 z5 hm oA oB disF sl1 hs1 he1 hAl hBl hneq
          obtain ⟨w6, hw6⟩ : ∃ w6, w6 = wc := ⟨wc, rfl⟩
          subst hw6
          have c1 := c1'.out
          have c2 := c2'.out
          have c0 := c0'.out
          have k2 := k2'.out
          have hneq : blk bB ≠ some w.heap.size := fun e => by have := own_blk_ge oB'.out _ e; omega
          have hne1 : blk bB ≠ some (w.heap.size + 1) := fun e => by have := own_blk_ge oB'.out _ e; omega
          have hlB := lB.out gb rfl
          have sB6 := sB.old hB6.out (fun g hg => by cases hg; exact hlB)
          obtain ⟨q0, q1', q2', p0, p1, p2⟩ := hR6.out
          have sl2 : ∃ z1 e1, (d - k = e1 ∧ SL w6 (some ⟨gb, z1, none⟩) (n - k) e1 ((wtsR R).drop k) ∧ ((e1 = 0 ∧ z1 = 0) ∨ (z1 = k ∧ ∃ e2, e1 = e2 + 1))) := by
            have hle := sB6.le
            have sd1 := sB6.dropS k (show k ≤ n from hk)
            rw [Nat.zero_add] at sd1
            by_cases q : d - k = 0
            · refine ⟨0, 0, q, ?_, .inl ⟨rfl, rfl⟩⟩
              rw [q] at sd1
              exact ⟨sd1.len, ⟨sd1.le, fun h => by cases h⟩, .inl (by have := sd1.le; omega)⟩
            · exact ⟨k, d - k, rfl, sd1, .inr ⟨rfl, d - k - 1, by omega⟩⟩
          obtain ⟨m1, e1, he1, sl2, hs1⟩ := sl2
          clear c1' c2' c0' k2' hR6 sB6
          go_upto_region 10 with fail
          go_cut [] (fun wx => ∃ (g6 g8 d8 : Nat), a6 = some ⟨g6, 0, none⟩ ∧ Hid (wx.cell? ⟨w.heap.size, 0, none⟩ = some (.int .i64 p) ∧ wx.cell? ⟨w.heap.size, 1, none⟩ = some (.slice a6 (n + 1) d6) ∧ wx.cell? ⟨w.heap.size, 2, none⟩ = some (.slice (some ⟨g8, 0, none⟩) (n + 1) d8)) ∧ Hid (Own w1.heap.size wx a6 d6 ((nodesR R).take k ++ [x] ++ (nodesR R).drop k)) ∧ Hid (Own w1.heap.size wx (some ⟨g8, 0, none⟩) d8 ((wtsR R).take k ++ [v] ++ (wtsR R).drop k)) ∧ g6 ≠ g8 ∧ Hid (Below w.heap.size w1 wx) ∧ Hid (wx.cell? ⟨w.heap.size + 1, 0, none⟩ = some (.int .i64 0) ∧ wx.cell? ⟨w.heap.size + 1, 1, none⟩ = some (.slice none 0 0) ∧ wx.cell? ⟨w.heap.size + 1, 2, none⟩ = some (.slice none 0 0) ∧ wx.frozen? ⟨w.heap.size + 1, 0, none⟩ = false ∧ wx.frozen? ⟨w.heap.size + 1, 1, none⟩ = false ∧ wx.frozen? ⟨w.heap.size + 1, 2, none⟩ = false) ∧ w1.heap.size ≤ wx.heap.size)
          case first =>
            rcases hs1 with ⟨rfl, rfl⟩ | ⟨hz, e3, he⟩
            · go_upto_region 11 with (at_builtin; refine wp_appG rfl _ _ rfl w1.heap.size bB (k + 1) dB ((wtsR R).take k ++ [v]) rfl HkW1.out.symm oB'.out (some ⟨gb, 0, none⟩) (n - k) 0 ((wtsR R).drop k) rfl sl2 (by omega) z6 ?_; intro a8 d8 w8 oW hgr hloc; have s' := cell_ne hgr c2 hneq; have sf := frz_ne hgr c2 k2 hneq)
              rw [HXW.out]
              go_meet
              obtain ⟨g8, e8, _⟩ := oW.blkG (by rw [HdW.out]; omega)
              obtain ⟨g6, e6, _⟩ := oN.out.blkG (by rw [HdN.out]; omega)
              have hno : ∀ o v, w6.cell? ⟨w.heap.size + 1, o, none⟩ = some v → (w8.setCell ⟨w.heap.size, 2, none⟩ (.slice a8 (n + 1) d8)).cell? ⟨w.heap.size + 1, o, none⟩ = some v := fun o v h => cell_set2 (cell_ne hgr h hne1) (by simp) _
              have hnf : ∀ o v, w6.cell? ⟨w.heap.size + 1, o, none⟩ = some v → w6.frozen? ⟨w.heap.size + 1, o, none⟩ = false → (w8.setCell ⟨w.heap.size, 2, none⟩ (.slice a8 (n + 1) d8)).frozen? ⟨w.heap.size + 1, o, none⟩ = false := fun o v h hf => by
                have := frz_ne hgr h hf hne1
                simpa using this
              have hB8 : Below w.heap.size w1 (w8.setCell ⟨w.heap.size, 2, none⟩ (.slice a8 (n + 1) d8)) := (hB6.out.grown hgr (by omega) (fun g hg => by have := own_blk_ge oB'.out g hg; omega)).setCell (by simp) _
              have hd8 : g6 ≠ g8 := fun e => by
                subst e
                rcases hloc with h | h
                · exact dis6.out g6 (by rw [e6]; rfl) (by rw [← h, e8]; rfl)
                · rw [e8] at h
                  have := ownLt oN.out g6 (by rw [e6]; rfl)
                  simp [blk] at h
                  omega
              subst e8
              have cF0 := cell_set2' (cell_ne hgr c0 hneq) (show (2 : Nat) ≠ 0 by omega) (.slice (some ⟨g8, 0, none⟩) (n + 1) d8)
              have cF1 := cell_set2' (cell_ne hgr c1 hneq) (show (2 : Nat) ≠ 1 by omega) (.slice (some ⟨g8, 0, none⟩) (n + 1) d8)
              exact ⟨g6, g8, d8, e6, hide ⟨cF0, cF1, World.cell?_setCell_same _ _ _ s'⟩, hide ((Own.keep oN.out hgr (fun g q1 q2 => dis6.out g q1 q2)).otherG (fun e => by have := own_blk_ge oN.out _ e; omega) _), hide (oW.otherG (fun e => by have := own_blk_ge oW _ e; omega) _), hd8, hide hB8, hide ⟨hno _ _ q0, hno _ _ q1', hno _ _ q2', hnf _ _ q0 p0, hnf _ _ q1' p1, hnf _ _ q2' p2⟩, by have := hgr.size; simp; omega⟩
            · rw [hz, he] at sl2
              rw [he] at he1
              go_upto_region 11 with (at_builtin; refine wp_appG rfl _ _ rfl w1.heap.size bB (k + 1) dB ((wtsR R).take k ++ [v]) rfl HkW1.out.symm oB'.out (some ⟨gb, k, none⟩) (n - k) (e3 + 1) ((wtsR R).drop k) rfl sl2 (by omega) z6 ?_; intro a8 d8 w8 oW hgr hloc; have s' := cell_ne hgr c2 hneq; have sf := frz_ne hgr c2 k2 hneq)
              rw [HXW.out]
              go_meet
              obtain ⟨g8, e8, _⟩ := oW.blkG (by rw [HdW.out]; omega)
              obtain ⟨g6, e6, _⟩ := oN.out.blkG (by rw [HdN.out]; omega)
              have hno : ∀ o v, w6.cell? ⟨w.heap.size + 1, o, none⟩ = some v → (w8.setCell ⟨w.heap.size, 2, none⟩ (.slice a8 (n + 1) d8)).cell? ⟨w.heap.size + 1, o, none⟩ = some v := fun o v h => cell_set2 (cell_ne hgr h hne1) (by simp) _
              have hnf : ∀ o v, w6.cell? ⟨w.heap.size + 1, o, none⟩ = some v → w6.frozen? ⟨w.heap.size + 1, o, none⟩ = false → (w8.setCell ⟨w.heap.size, 2, none⟩ (.slice a8 (n + 1) d8)).frozen? ⟨w.heap.size + 1, o, none⟩ = false := fun o v h hf => by
                have := frz_ne hgr h hf hne1
                simpa using this
              have hB8 : Below w.heap.size w1 (w8.setCell ⟨w.heap.size, 2, none⟩ (.slice a8 (n + 1) d8)) := (hB6.out.grown hgr (by omega) (fun g hg => by have := own_blk_ge oB'.out g hg; omega)).setCell (by simp) _
              have hd8 : g6 ≠ g8 := fun e => by
                subst e
                rcases hloc with h | h
                · exact dis6.out g6 (by rw [e6]; rfl) (by rw [← h, e8]; rfl)
                · rw [e8] at h
                  have := ownLt oN.out g6 (by rw [e6]; rfl)
                  simp [blk] at h
                  omega
              subst e8
              have cF0 := cell_set2' (cell_ne hgr c0 hneq) (show (2 : Nat) ≠ 0 by omega) (.slice (some ⟨g8, 0, none⟩) (n + 1) d8)
              have cF1 := cell_set2' (cell_ne hgr c1 hneq) (show (2 : Nat) ≠ 1 by omega) (.slice (some ⟨g8, 0, none⟩) (n + 1) d8)
              exact ⟨g6, g8, d8, e6, hide ⟨cF0, cF1, World.cell?_setCell_same _ _ _ s'⟩, hide ((Own.keep oN.out hgr (fun g q1 q2 => dis6.out g q1 q2)).otherG (fun e => by have := own_blk_ge oN.out _ e; omega) _), hide (oW.otherG (fun e => by have := own_blk_ge oW _ e; omega) _), hd8, hide hB8, hide ⟨hno _ _ q0, hno _ _ q1', hno _ _ q2', hnf _ _ q0 p0, hnf _ _ q1' p1, hnf _ _ q2' p2⟩, by have := hgr.size; simp; omega⟩
          case rest =>
          obtain ⟨g6, g8, d8, rfl, hC, oN8, oW8, hdd, hB8, hR8, z8⟩ := hcut
          obtain ⟨x0, x1, x2⟩ := hC.out
          clear q0 q1' q2' p0 p1 p2 c0 c1 c2 k2
          obtain ⟨q0, q1', q2', p0, p1, p2⟩ := hR8.out
          have hlo' := own_blk_ge oN8.out g6 rfl
          have hlo2 := own_blk_ge oW8.out g8 rfl
          have HlP := hide (show (putR p R x v).length = n + 1 by rw [← nodesR_len, hP.out.1]; exact HdN.out)
          go_wp2
          refine bodyPost_ret (v := jac p (some ⟨g6, 0, none⟩) (n + 1) d6 (some ⟨g8, 0, none⟩) (n + 1) d8) (by simp [results, Try.results110, go_sem, q0, q1', q2']) rfl ?_
          refine ⟨g6, d6, g8, d8, by rw [HlP.out], ⟨?_, ?_, hdd⟩, ?_⟩
          · rw [hP.out.1]
            have hr : blk (some (⟨g6, 0, none⟩ : Addr)) ≠ some (w.heap.size + 1) := fun e => by have e2 : some g6 = some (w.heap.size + 1) := e; have e3 := Option.some.inj e2; omega
            exact (((oN8.out.mono (show lo ≤ w1.heap.size by omega)).otherG hr _).otherG hr _).otherG hr _
          · rw [hP.out.2]
            have hr : blk (some (⟨g8, 0, none⟩ : Addr)) ≠ some (w.heap.size + 1) := fun e => by have e2 : some g8 = some (w.heap.size + 1) := e; have e3 := Option.some.inj e2; omega
            exact (((oW8.out.mono (show lo ≤ w1.heap.size by omega)).otherG hr _).otherG hr _).otherG hr _
          · exact (((HB.out.trans hB8.out).setCell (Nat.le_succ _) _).setCell (Nat.le_succ _) _).setCell (Nat.le_succ _) _
    · have hkn' : ¬ (k : Int) < (n : Int) := by omega
      have hput := hat.out k (by rw [hn'.out]; omega) hlt.out (.inl (by rw [hn'.out]; omega))
      have hP := hide (hput.2 (fun q => hkn (by have := q.1; rw [hn'.out] at this; exact this)))
      clear hput
      have sAk := sA.take (show k ≤ n from hk)
      have sBk := sB.take (show k ≤ n from hk)
      have hkN : k = ((nodesR R).take k).length := by rw [List.length_take, hlen]; omega
      have hkW : k = ((wtsR R).take k).length := by rw [List.length_take, hlenW]; omega
      have hkN1 : ((nodesR R).take k ++ [x]).length = k + 1 := by rw [List.length_append, ← hkN]; rfl
      have hkW1 : ((wtsR R).take k ++ [v]).length = k + 1 := by rw [List.length_append, ← hkW]; rfl
      have q1 : (0 : Int) ≤ (k : Int) := by omega
      have q2 : (k : Int) ≤ (c : Int) := by have := sA.le; omega
      have q3 : (k : Int) ≤ (d : Int) := by have := sB.le; omega
      have F : ∀ w', Below w1.heap.size w1 w' → w'.cell? ⟨w.heap.size, 1, none⟩ = some (.slice (some ⟨ga, 0, none⟩) n c) ∧ w'.cell? ⟨w.heap.size, 2, none⟩ = some (.slice (some ⟨gb, 0, none⟩) n d) := fun w' h => ⟨cell_be h f1, cell_be h f2⟩
      have HmN := hide (show min k (nodesR R).length = k by rw [hlen]; omega)
      have HmW := hide (show min k (wtsR R).length = k by rw [hlenW]; omega)
      have HdN := hide (show ((nodesR R).take k ++ [x] ++ (nodesR R).drop k).length = n + 1 by rw [List.length_append, hkN1, List.length_drop, hlen]; omega)
      have HdW := hide (show ((wtsR R).take k ++ [v] ++ (wtsR R).drop k).length = n + 1 by rw [List.length_append, hkW1, List.length_drop, hlenW]; omega)
      have HkN := hide hkN
      have HkW := hide hkW
      have HkN1 := hide hkN1
      have HkW1 := hide hkW1
      clear hkN hkW hkN1 hkW1 hlen hlenW
      go_upto_region 8 with fail
      go_cut [8, 9] (fun sa sb wx => ∃ (aA : Option Addr) (dA : Nat) (bB : Option Addr) (dB : Nat), sa = .slice aA (k + 1) dA ∧ sb = .slice bB (k + 1) dB ∧ Hid (Own w1.heap.size wx aA dA ((nodesR R).take k ++ [x])) ∧ Hid (Own w1.heap.size wx bB dB ((wtsR R).take k ++ [v])) ∧ Hid (∀ g, blk aA = some g → blk bB ≠ some g) ∧ Hid (Below w1.heap.size w1 wx))
      case first =>
        have hm := (Below.refl w1.heap.size w1).drew
        refine region_E (fun w' => w'.cell? ⟨w.heap.size, 1, none⟩ = some (.slice (some ⟨ga, 0, none⟩) n c) ∧ w'.cell? ⟨w.heap.size, 2, none⟩ = some (.slice (some ⟨gb, 0, none⟩) n d)) 100 (by kernel_rfl) (F _ hm) ?_
        intro hS
        refine anyE_takeH 0 rfl (by kernel_rfl) (fun _ _ _ h => h) hS (by rfl) (v := ?_) ?_ ?_
        rotate_left
        · intro w' hSw; (try dsimp only at hSw); go_simp; (try with_reducible rfl)
        try simp only [Act.put, List.setIfInBounds_toArray, List.set_cons_zero, List.set_cons_succ]
        refine anyE_takeH 1 rfl (by kernel_rfl) (fun _ _ _ h => h) hS (by rfl) (v := ?_) ?_ ?_
        rotate_left
        · intro w' hSw; (try dsimp only at hSw); go_simp; (try with_reducible rfl)
        try simp only [Act.put, List.setIfInBounds_toArray, List.set_cons_zero, List.set_cons_succ]
        refine anyE_takeH 2 rfl (by kernel_rfl) (fun _ _ _ h => h) hS (by rfl) (v := ?_) ?_ ?_
        rotate_left
        · intro w' hSw; (try dsimp only at hSw); go_simp; (try with_reducible rfl)
        try simp only [Act.put, List.setIfInBounds_toArray, List.set_cons_zero, List.set_cons_succ]
        refine anyE_takeH 3 rfl (by kernel_rfl) (fun _ _ _ h => h) hS (by rfl) (v := ?_) ?_ ?_
        rotate_left
        · intro w' hSw; (try dsimp only at hSw); go_simp; (try with_reducible rfl)
        try simp only [Act.put, List.setIfInBounds_toArray, List.set_cons_zero, List.set_cons_succ]
        refine anyE_takeH 5 rfl (by kernel_rfl) (fun _ _ _ h => h) hS (by rfl) (v := ?_) ?_ ?_
        rotate_left
        · intro w' hSw; (try dsimp only at hSw); go_simp; (try with_reducible rfl)
        try simp only [Act.put, List.setIfInBounds_toArray, List.set_cons_zero, List.set_cons_succ]
        refine anyE_takeH 8 rfl (by kernel_rfl) (fun _ _ _ h => h) hS (by rfl) (v := ?_) ?_ ?_
        rotate_left
        · intro w' hSw; (try dsimp only at hSw); go_simp; (try with_reducible rfl)
        try simp only [Act.put, List.setIfInBounds_toArray, List.set_cons_zero, List.set_cons_succ]
        refine anyE_takeH 9 rfl (by kernel_rfl) (fun _ _ _ h => h) hS (by rfl) (v := ?_) ?_ ?_
        rotate_left
        · intro w' hSw; (try dsimp only at hSw); go_simp; (try with_reducible rfl)
        try simp only [Act.put, List.setIfInBounds_toArray, List.set_cons_zero, List.set_cons_succ]
        refine anyE_takeH 10 rfl (by kernel_rfl) (fun _ _ _ h => h) hS (by rfl) (v := ?_) ?_ ?_
        rotate_left
        · intro w' hSw; (try dsimp only at hSw); go_simp; (try with_reducible rfl)
        try simp only [Act.put, List.setIfInBounds_toArray, List.set_cons_zero, List.set_cons_succ]
        refine anyE_takeH 11 rfl (by kernel_rfl) (fun _ _ _ h => h) hS (by rfl) (v := ?_) ?_ ?_
        rotate_left
        · intro w' hSw; (try dsimp only at hSw); go_simp; (try with_reducible rfl)
        try simp only [Act.put, List.setIfInBounds_toArray, List.set_cons_zero, List.set_cons_succ]
        refine anyE_takeH 13 rfl (by kernel_rfl) (fun _ _ _ h => h) hS (by rfl) (v := ?_) ?_ ?_
        rotate_left
        · intro w' hSw; (try dsimp only at hSw); go_simp; (try with_reducible rfl)
        try simp only [Act.put, List.setIfInBounds_toArray, List.set_cons_zero, List.set_cons_succ]
        clear hS
        obtain ⟨u0, hu0⟩ : ∃ u, u = w1.drew := ⟨_, rfl⟩
        rw [← hu0] at hm ⊢
        clear hu0
        refine anyE_3L 4 6 14 (by kernel_rfl) rfl rfl rfl (fun K' hK' => ?_) (fun K' hK' => ?_) (fun K' hK' => ?_)
        · go_simp
          refine (l01Own_any _ k c ((nodesR R).take k) _ (sAk.below hm) (by omega)).mono ?_
          rintro e u68 ⟨a1, d1, rfl, o1, lx⟩
          dsimp only
          replace o1 := o1.mono hm.size
          have hm := bnext hm lx
          refine hK'.out _ _ (F _ hm) ?_
          clear hK' K'
          try simp only [Act.put, List.setIfInBounds_toArray, List.set_cons_zero, List.set_cons_succ]
          refine anyE_2L 6 14 (by kernel_rfl) rfl rfl (fun K' hK' => ?_) (fun K' hK' => ?_)
          · go_simp
            obtain ⟨u69, hu⟩ : ∃ u, u = u68.alloc (.cells #[.int .i64 x] 2) := ⟨_, rfl⟩
            have lx : Below u68.heap.size u68 u69 := by rw [hu]; exact bl1 _ _
            have cA : u69.cell? ⟨u68.heap.size, 0, none⟩ = some (.int .i64 x) := by rw [hu]; simp [go_sem]
            rw [← hu]
            clear hu
            have hm := bnext hm lx
            replace o1 := o1.below lx
            refine hK'.out _ _ (F _ hm) ?_
            clear hK' K'
            try simp only [Act.put, List.setIfInBounds_toArray, List.set_cons_zero, List.set_cons_succ]
            refine anyE_2L 7 14 (by kernel_rfl) rfl rfl (fun K' hK' => ?_) (fun K' hK' => ?_)
            · refine step_app1 (by rfl) _ _ (by rfl) w1.heap.size a1 k d1 ((nodesR R).take k) (by rfl) HkN.out o1 ⟨u68.heap.size, 0, none⟩ 1 x (by rfl) cA (by omega) hm.size ?_
              intro aA dA u70 oA hgr hloc
              have hm := hm.grown hgr hm.size (fun g hg => own_blk_ge o1 g hg)
              clear hgr hloc o1 cA
              refine hK'.out _ _ (F _ hm) ?_
              clear hK' K'
              try simp only [Act.put, List.setIfInBounds_toArray, List.set_cons_zero, List.set_cons_succ]
              refine anyE_2L 12 14 (by kernel_rfl) rfl rfl (fun K' hK' => ?_) (fun K' hK' => ?_)
              · go_simp
                refine (l01Own_any _ k d ((wtsR R).take k) _ (sBk.below hm) (by omega)).mono ?_
                rintro e u71 ⟨b1, d2, rfl, o2, lx⟩
                dsimp only
                have dis : ∀ g, blk aA = some g → blk b1 ≠ some g := fun g q1 q2 => by have := ownLt oA _ q1; have := own_blk_ge o2 _ q2; omega
                replace o2 := o2.mono hm.size
                have hm := bnext hm lx
                replace oA := oA.below lx
                refine hK'.out _ _ (F _ hm) ?_
                clear hK' K'
                try simp only [Act.put, List.setIfInBounds_toArray, List.set_cons_zero, List.set_cons_succ]
                refine anyE_oneL 14 (by kernel_rfl) rfl (fun K' hK' => ?_)
                go_simp
                obtain ⟨u72, hu⟩ : ∃ u, u = u71.alloc (.cells #[.int .i64 v] 2) := ⟨_, rfl⟩
                have lx : Below u71.heap.size u71 u72 := by rw [hu]; exact bl1 _ _
                have cB : u72.cell? ⟨u71.heap.size, 0, none⟩ = some (.int .i64 v) := by rw [hu]; simp [go_sem]
                rw [← hu]
                clear hu
                have nB2 : blk b1 ≠ some u71.heap.size := fun q => by have := ownLt o2 _ q; omega
                have hm := bnext hm lx
                replace o2 := o2.below lx
                replace oA := oA.below lx
                refine hK'.out _ _ (F _ hm) ?_
                clear hK' K'
                try simp only [Act.put, List.setIfInBounds_toArray, List.set_cons_zero, List.set_cons_succ]
                refine anyE_oneL 15 (by kernel_rfl) rfl (fun K' hK' => ?_)
                refine step_app1 (by rfl) _ _ (by rfl) w1.heap.size b1 k d2 ((wtsR R).take k) (by rfl) HkW.out o2 ⟨u71.heap.size, 0, none⟩ 1 v (by rfl) cB (by omega) hm.size ?_
                intro bB dB u73 oB hgr hloc
                have disF : ∀ g, blk aA = some g → blk bB ≠ some g := fun g q1 q2 => by rcases hloc with h | h; exact dis g q1 (by rw [← h]; exact q2); rw [h] at q2; have := ownLt oA _ q1; simp at q2; omega
                have oA := Own.keep oA hgr (fun g q1 q2 => dis g q1 q2)
                have hm := hm.grown hgr hm.size (fun g hg => own_blk_ge o2 g hg)
                clear hgr hloc o2 cB
                refine hK'.out _ _ (F _ hm) ?_
                clear hK' K'
                try simp only [Act.put, List.setIfInBounds_toArray, List.set_cons_zero, List.set_cons_succ]
                refine anyE_oneL 16 (by kernel_rfl) rfl (fun K' hK' => ?_)
                go_simp
                refine hK'.out _ _ (F _ hm) ?_
                clear hK' K'
                try simp only [Act.put, List.setIfInBounds_toArray, List.set_cons_zero, List.set_cons_succ]
                refine anyE_oneL 17 (by kernel_rfl) rfl (fun K' hK' => ?_)
                go_simp
                refine hK'.out _ _ (F _ hm) (anyE_doneL (by kernel_rfl) ?_)
                clear hK' K'
                try simp only [Act.put, List.setIfInBounds_toArray, List.set_cons_zero, List.set_cons_succ]
                go_wp2_with fail
                go_meet
                exact ⟨aA, dA, bB, dB, by rw [HmN.out], by rw [HmW.out], hide oA, hide oB, hide disF, hide hm⟩
              · go_simp
                obtain ⟨u76, hu⟩ : ∃ u, u = u70.alloc (.cells #[.int .i64 v] 2) := ⟨_, rfl⟩
                have lx : Below u70.heap.size u70 u76 := by rw [hu]; exact bl1 _ _
                have cB : u76.cell? ⟨u70.heap.size, 0, none⟩ = some (.int .i64 v) := by rw [hu]; simp [go_sem]
                rw [← hu]
                clear hu
                have hm := bnext hm lx
                replace oA := oA.below lx
                refine hK'.out _ _ (F _ hm) ?_
                clear hK' K'
                try simp only [Act.put, List.setIfInBounds_toArray, List.set_cons_zero, List.set_cons_succ]
                refine anyE_oneL 12 (by kernel_rfl) rfl (fun K' hK' => ?_)
                go_simp
                refine (l01Own_any _ k d ((wtsR R).take k) _ (sBk.below hm) (by omega)).mono ?_
                rintro e u77 ⟨b1, d2, rfl, o2, lx⟩
                dsimp only
                have nB2 : blk b1 ≠ some u70.heap.size := fun q => by have := own_blk_ge o2 _ q; have := World.block_lt_of_cell? _ _ cB; simp at this; omega
                have dis : ∀ g, blk aA = some g → blk b1 ≠ some g := fun g q1 q2 => by have := ownLt oA _ q1; have := own_blk_ge o2 _ q2; omega
                replace o2 := o2.mono hm.size
                have hm := bnext hm lx
                replace cB := cell_be lx cB
                replace oA := oA.below lx
                refine hK'.out _ _ (F _ hm) ?_
                clear hK' K'
                try simp only [Act.put, List.setIfInBounds_toArray, List.set_cons_zero, List.set_cons_succ]
                refine anyE_oneL 15 (by kernel_rfl) rfl (fun K' hK' => ?_)
                refine step_app1 (by rfl) _ _ (by rfl) w1.heap.size b1 k d2 ((wtsR R).take k) (by rfl) HkW.out o2 ⟨u70.heap.size, 0, none⟩ 1 v (by rfl) cB (by omega) hm.size ?_
                intro bB dB u78 oB hgr hloc
                have disF : ∀ g, blk aA = some g → blk bB ≠ some g := fun g q1 q2 => by rcases hloc with h | h; exact dis g q1 (by rw [← h]; exact q2); rw [h] at q2; have := ownLt oA _ q1; simp at q2; omega
                have oA := Own.keep oA hgr (fun g q1 q2 => dis g q1 q2)
                have hm := hm.grown hgr hm.size (fun g hg => own_blk_ge o2 g hg)
                clear hgr hloc o2 cB
                refine hK'.out _ _ (F _ hm) ?_
                clear hK' K'
                try simp only [Act.put, List.setIfInBounds_toArray, List.set_cons_zero, List.set_cons_succ]
                refine anyE_oneL 16 (by kernel_rfl) rfl (fun K' hK' => ?_)
                go_simp
                refine hK'.out _ _ (F _ hm) ?_
                clear hK' K'
                try simp only [Act.put, List.setIfInBounds_toArray, List.set_cons_zero, List.set_cons_succ]
                refine anyE_oneL 17 (by kernel_rfl) rfl (fun K' hK' => ?_)
                go_simp
                refine hK'.out _ _ (F _ hm) (anyE_doneL (by kernel_rfl) ?_)
                clear hK' K'
                try simp only [Act.put, List.setIfInBounds_toArray, List.set_cons_zero, List.set_cons_succ]
                go_wp2_with fail
                go_meet
                exact ⟨aA, dA, bB, dB, by rw [HmN.out], by rw [HmW.out], hide oA, hide oB, hide disF, hide hm⟩
            · go_simp
              obtain ⟨u81, hu⟩ : ∃ u, u = u69.alloc (.cells #[.int .i64 v] 2) := ⟨_, rfl⟩
              have lx : Below u69.heap.size u69 u81 := by rw [hu]; exact bl1 _ _
              have cB : u81.cell? ⟨u69.heap.size, 0, none⟩ = some (.int .i64 v) := by rw [hu]; simp [go_sem]
              rw [← hu]
              clear hu
              have nB : blk a1 ≠ some u69.heap.size := fun q => by have := ownLt o1 _ q; omega
              have hm := bnext hm lx
              replace cA := cell_be lx cA
              replace o1 := o1.below lx
              refine hK'.out _ _ (F _ hm) ?_
              clear hK' K'
              try simp only [Act.put, List.setIfInBounds_toArray, List.set_cons_zero, List.set_cons_succ]
              refine anyE_oneL 7 (by kernel_rfl) rfl (fun K' hK' => ?_)
              refine step_app1 (by rfl) _ _ (by rfl) w1.heap.size a1 k d1 ((nodesR R).take k) (by rfl) HkN.out o1 ⟨u68.heap.size, 0, none⟩ 1 x (by rfl) cA (by omega) hm.size ?_
              intro aA dA u82 oA hgr hloc
              have hm := hm.grown hgr hm.size (fun g hg => own_blk_ge o1 g hg)
              replace cB := cell_ne hgr cB nB
              clear hgr hloc o1 cA
              refine hK'.out _ _ (F _ hm) ?_
              clear hK' K'
              try simp only [Act.put, List.setIfInBounds_toArray, List.set_cons_zero, List.set_cons_succ]
              refine anyE_oneL 12 (by kernel_rfl) rfl (fun K' hK' => ?_)
              go_simp
              refine (l01Own_any _ k d ((wtsR R).take k) _ (sBk.below hm) (by omega)).mono ?_
              rintro e u83 ⟨b1, d2, rfl, o2, lx⟩
              dsimp only
              have nB2 : blk b1 ≠ some u69.heap.size := fun q => by have := own_blk_ge o2 _ q; have := World.block_lt_of_cell? _ _ cB; simp at this; omega
              have dis : ∀ g, blk aA = some g → blk b1 ≠ some g := fun g q1 q2 => by have := ownLt oA _ q1; have := own_blk_ge o2 _ q2; omega
              replace o2 := o2.mono hm.size
              have hm := bnext hm lx
              replace cB := cell_be lx cB
              replace oA := oA.below lx
              refine hK'.out _ _ (F _ hm) ?_
              clear hK' K'
              try simp only [Act.put, List.setIfInBounds_toArray, List.set_cons_zero, List.set_cons_succ]
              refine anyE_oneL 15 (by kernel_rfl) rfl (fun K' hK' => ?_)
              refine step_app1 (by rfl) _ _ (by rfl) w1.heap.size b1 k d2 ((wtsR R).take k) (by rfl) HkW.out o2 ⟨u69.heap.size, 0, none⟩ 1 v (by rfl) cB (by omega) hm.size ?_
              intro bB dB u84 oB hgr hloc
              have disF : ∀ g, blk aA = some g → blk bB ≠ some g := fun g q1 q2 => by rcases hloc with h | h; exact dis g q1 (by rw [← h]; exact q2); rw [h] at q2; have := ownLt oA _ q1; simp at q2; omega
              have oA := Own.keep oA hgr (fun g q1 q2 => dis g q1 q2)
              have hm := hm.grown hgr hm.size (fun g hg => own_blk_ge o2 g hg)
              clear hgr hloc o2 cB
              refine hK'.out _ _ (F _ hm) ?_
              clear hK' K'
              try simp only [Act.put, List.setIfInBounds_toArray, List.set_cons_zero, List.set_cons_succ]
              refine anyE_oneL 16 (by kernel_rfl) rfl (fun K' hK' => ?_)
              go_simp
              refine hK'.out _ _ (F _ hm) ?_
              clear hK' K'
              try simp only [Act.put, List.setIfInBounds_toArray, List.set_cons_zero, List.set_cons_succ]
              refine anyE_oneL 17 (by kernel_rfl) rfl (fun K' hK' => ?_)
              go_simp
              refine hK'.out _ _ (F _ hm) (anyE_doneL (by kernel_rfl) ?_)
              clear hK' K'
              try simp only [Act.put, List.setIfInBounds_toArray, List.set_cons_zero, List.set_cons_succ]
              go_wp2_with fail
              go_meet
              exact ⟨aA, dA, bB, dB, by rw [HmN.out], by rw [HmW.out], hide oA, hide oB, hide disF, hide hm⟩
          · go_simp
            obtain ⟨u87, hu⟩ : ∃ u, u = u68.alloc (.cells #[.int .i64 v] 2) := ⟨_, rfl⟩
            have lx : Below u68.heap.size u68 u87 := by rw [hu]; exact bl1 _ _
            have cB : u87.cell? ⟨u68.heap.size, 0, none⟩ = some (.int .i64 v) := by rw [hu]; simp [go_sem]
            rw [← hu]
            clear hu
            have nB : blk a1 ≠ some u68.heap.size := fun q => by have := ownLt o1 _ q; omega
            have hm := bnext hm lx
            replace o1 := o1.below lx
            refine hK'.out _ _ (F _ hm) ?_
            clear hK' K'
            try simp only [Act.put, List.setIfInBounds_toArray, List.set_cons_zero, List.set_cons_succ]
            refine anyE_oneL 6 (by kernel_rfl) rfl (fun K' hK' => ?_)
            go_simp
            obtain ⟨u88, hu⟩ : ∃ u, u = u87.alloc (.cells #[.int .i64 x] 2) := ⟨_, rfl⟩
            have lx : Below u87.heap.size u87 u88 := by rw [hu]; exact bl1 _ _
            have cA : u88.cell? ⟨u87.heap.size, 0, none⟩ = some (.int .i64 x) := by rw [hu]; simp [go_sem]
            rw [← hu]
            clear hu
            have hm := bnext hm lx
            replace cB := cell_be lx cB
            replace o1 := o1.below lx
            refine hK'.out _ _ (F _ hm) ?_
            clear hK' K'
            try simp only [Act.put, List.setIfInBounds_toArray, List.set_cons_zero, List.set_cons_succ]
            refine anyE_oneL 7 (by kernel_rfl) rfl (fun K' hK' => ?_)
            refine step_app1 (by rfl) _ _ (by rfl) w1.heap.size a1 k d1 ((nodesR R).take k) (by rfl) HkN.out o1 ⟨u87.heap.size, 0, none⟩ 1 x (by rfl) cA (by omega) hm.size ?_
            intro aA dA u89 oA hgr hloc
            have hm := hm.grown hgr hm.size (fun g hg => own_blk_ge o1 g hg)
            replace cB := cell_ne hgr cB nB
            clear hgr hloc o1 cA
            refine hK'.out _ _ (F _ hm) ?_
            clear hK' K'
            try simp only [Act.put, List.setIfInBounds_toArray, List.set_cons_zero, List.set_cons_succ]
            refine anyE_oneL 12 (by kernel_rfl) rfl (fun K' hK' => ?_)
            go_simp
            refine (l01Own_any _ k d ((wtsR R).take k) _ (sBk.below hm) (by omega)).mono ?_
            rintro e u90 ⟨b1, d2, rfl, o2, lx⟩
            dsimp only
            have nB2 : blk b1 ≠ some u68.heap.size := fun q => by have := own_blk_ge o2 _ q; have := World.block_lt_of_cell? _ _ cB; simp at this; omega
            have dis : ∀ g, blk aA = some g → blk b1 ≠ some g := fun g q1 q2 => by have := ownLt oA _ q1; have := own_blk_ge o2 _ q2; omega
            replace o2 := o2.mono hm.size
            have hm := bnext hm lx
            replace cB := cell_be lx cB
            replace oA := oA.below lx
            refine hK'.out _ _ (F _ hm) ?_
            clear hK' K'
            try simp only [Act.put, List.setIfInBounds_toArray, List.set_cons_zero, List.set_cons_succ]
            refine anyE_oneL 15 (by kernel_rfl) rfl (fun K' hK' => ?_)
            refine step_app1 (by rfl) _ _ (by rfl) w1.heap.size b1 k d2 ((wtsR R).take k) (by rfl) HkW.out o2 ⟨u68.heap.size, 0, none⟩ 1 v (by rfl) cB (by omega) hm.size ?_
            intro bB dB u91 oB hgr hloc
            have disF : ∀ g, blk aA = some g → blk bB ≠ some g := fun g q1 q2 => by rcases hloc with h | h; exact dis g q1 (by rw [← h]; exact q2); rw [h] at q2; have := ownLt oA _ q1; simp at q2; omega
            have oA := Own.keep oA hgr (fun g q1 q2 => dis g q1 q2)
            have hm := hm.grown hgr hm.size (fun g hg => own_blk_ge o2 g hg)
            clear hgr hloc o2 cB
            refine hK'.out _ _ (F _ hm) ?_
            clear hK' K'
            try simp only [Act.put, List.setIfInBounds_toArray, List.set_cons_zero, List.set_cons_succ]
            refine anyE_oneL 16 (by kernel_rfl) rfl (fun K' hK' => ?_)
            go_simp
            refine hK'.out _ _ (F _ hm) ?_
            clear hK' K'
            try simp only [Act.put, List.setIfInBounds_toArray, List.set_cons_zero, List.set_cons_succ]
            refine anyE_oneL 17 (by kernel_rfl) rfl (fun K' hK' => ?_)
            go_simp
            refine hK'.out _ _ (F _ hm) (anyE_doneL (by kernel_rfl) ?_)
            clear hK' K'
            try simp only [Act.put, List.setIfInBounds_toArray, List.set_cons_zero, List.set_cons_succ]
            go_wp2_with fail
            go_meet
            exact ⟨aA, dA, bB, dB, by rw [HmN.out], by rw [HmW.out], hide oA, hide oB, hide disF, hide hm⟩
        · go_simp
          obtain ⟨u94, hu⟩ : ∃ u, u = u0.alloc (.cells #[.int .i64 x] 2) := ⟨_, rfl⟩
          have lx : Below u0.heap.size u0 u94 := by rw [hu]; exact bl1 _ _
          have cA : u94.cell? ⟨u0.heap.size, 0, none⟩ = some (.int .i64 x) := by rw [hu]; simp [go_sem]
          rw [← hu]
          clear hu
          have hm := bnext hm lx
          refine hK'.out _ _ (F _ hm) ?_
          clear hK' K'
          try simp only [Act.put, List.setIfInBounds_toArray, List.set_cons_zero, List.set_cons_succ]
          refine anyE_2L 4 14 (by kernel_rfl) rfl rfl (fun K' hK' => ?_) (fun K' hK' => ?_)
          · go_simp
            refine (l01Own_any _ k c ((nodesR R).take k) _ (sAk.below hm) (by omega)).mono ?_
            rintro e u95 ⟨a1, d1, rfl, o1, lx⟩
            dsimp only
            replace o1 := o1.mono hm.size
            have hm := bnext hm lx
            replace cA := cell_be lx cA
            refine hK'.out _ _ (F _ hm) ?_
            clear hK' K'
            try simp only [Act.put, List.setIfInBounds_toArray, List.set_cons_zero, List.set_cons_succ]
            refine anyE_2L 7 14 (by kernel_rfl) rfl rfl (fun K' hK' => ?_) (fun K' hK' => ?_)
            · refine step_app1 (by rfl) _ _ (by rfl) w1.heap.size a1 k d1 ((nodesR R).take k) (by rfl) HkN.out o1 ⟨u0.heap.size, 0, none⟩ 1 x (by rfl) cA (by omega) hm.size ?_
              intro aA dA u96 oA hgr hloc
              have hm := hm.grown hgr hm.size (fun g hg => own_blk_ge o1 g hg)
              clear hgr hloc o1 cA
              refine hK'.out _ _ (F _ hm) ?_
              clear hK' K'
              try simp only [Act.put, List.setIfInBounds_toArray, List.set_cons_zero, List.set_cons_succ]
              refine anyE_2L 12 14 (by kernel_rfl) rfl rfl (fun K' hK' => ?_) (fun K' hK' => ?_)
              · go_simp
                refine (l01Own_any _ k d ((wtsR R).take k) _ (sBk.below hm) (by omega)).mono ?_
                rintro e u97 ⟨b1, d2, rfl, o2, lx⟩
                dsimp only
                have dis : ∀ g, blk aA = some g → blk b1 ≠ some g := fun g q1 q2 => by have := ownLt oA _ q1; have := own_blk_ge o2 _ q2; omega
                replace o2 := o2.mono hm.size
                have hm := bnext hm lx
                replace oA := oA.below lx
                refine hK'.out _ _ (F _ hm) ?_
                clear hK' K'
                try simp only [Act.put, List.setIfInBounds_toArray, List.set_cons_zero, List.set_cons_succ]
                refine anyE_oneL 14 (by kernel_rfl) rfl (fun K' hK' => ?_)
                go_simp
                obtain ⟨u98, hu⟩ : ∃ u, u = u97.alloc (.cells #[.int .i64 v] 2) := ⟨_, rfl⟩
                have lx : Below u97.heap.size u97 u98 := by rw [hu]; exact bl1 _ _
                have cB : u98.cell? ⟨u97.heap.size, 0, none⟩ = some (.int .i64 v) := by rw [hu]; simp [go_sem]
                rw [← hu]
                clear hu
                have nB2 : blk b1 ≠ some u97.heap.size := fun q => by have := ownLt o2 _ q; omega
                have hm := bnext hm lx
                replace o2 := o2.below lx
                replace oA := oA.below lx
                refine hK'.out _ _ (F _ hm) ?_
                clear hK' K'
                try simp only [Act.put, List.setIfInBounds_toArray, List.set_cons_zero, List.set_cons_succ]
                refine anyE_oneL 15 (by kernel_rfl) rfl (fun K' hK' => ?_)
                refine step_app1 (by rfl) _ _ (by rfl) w1.heap.size b1 k d2 ((wtsR R).take k) (by rfl) HkW.out o2 ⟨u97.heap.size, 0, none⟩ 1 v (by rfl) cB (by omega) hm.size ?_
                intro bB dB u99 oB hgr hloc
                have disF : ∀ g, blk aA = some g → blk bB ≠ some g := fun g q1 q2 => by rcases hloc with h | h; exact dis g q1 (by rw [← h]; exact q2); rw [h] at q2; have := ownLt oA _ q1; simp at q2; omega
                have oA := Own.keep oA hgr (fun g q1 q2 => dis g q1 q2)
                have hm := hm.grown hgr hm.size (fun g hg => own_blk_ge o2 g hg)
                clear hgr hloc o2 cB
                refine hK'.out _ _ (F _ hm) ?_
                clear hK' K'
                try simp only [Act.put, List.setIfInBounds_toArray, List.set_cons_zero, List.set_cons_succ]
                refine anyE_oneL 16 (by kernel_rfl) rfl (fun K' hK' => ?_)
                go_simp
                refine hK'.out _ _ (F _ hm) ?_
                clear hK' K'
                try simp only [Act.put, List.setIfInBounds_toArray, List.set_cons_zero, List.set_cons_succ]
                refine anyE_oneL 17 (by kernel_rfl) rfl (fun K' hK' => ?_)
                go_simp
                refine hK'.out _ _ (F _ hm) (anyE_doneL (by kernel_rfl) ?_)
                clear hK' K'
                try simp only [Act.put, List.setIfInBounds_toArray, List.set_cons_zero, List.set_cons_succ]
                go_wp2_with fail
                go_meet
                exact ⟨aA, dA, bB, dB, by rw [HmN.out], by rw [HmW.out], hide oA, hide oB, hide disF, hide hm⟩
              · go_simp
                obtain ⟨u102, hu⟩ : ∃ u, u = u96.alloc (.cells #[.int .i64 v] 2) := ⟨_, rfl⟩
                have lx : Below u96.heap.size u96 u102 := by rw [hu]; exact bl1 _ _
                have cB : u102.cell? ⟨u96.heap.size, 0, none⟩ = some (.int .i64 v) := by rw [hu]; simp [go_sem]
                rw [← hu]
                clear hu
                have hm := bnext hm lx
                replace oA := oA.below lx
                refine hK'.out _ _ (F _ hm) ?_
                clear hK' K'
                try simp only [Act.put, List.setIfInBounds_toArray, List.set_cons_zero, List.set_cons_succ]
                refine anyE_oneL 12 (by kernel_rfl) rfl (fun K' hK' => ?_)
                go_simp
                refine (l01Own_any _ k d ((wtsR R).take k) _ (sBk.below hm) (by omega)).mono ?_
                rintro e u103 ⟨b1, d2, rfl, o2, lx⟩
                dsimp only
                have nB2 : blk b1 ≠ some u96.heap.size := fun q => by have := own_blk_ge o2 _ q; have := World.block_lt_of_cell? _ _ cB; simp at this; omega
                have dis : ∀ g, blk aA = some g → blk b1 ≠ some g := fun g q1 q2 => by have := ownLt oA _ q1; have := own_blk_ge o2 _ q2; omega
                replace o2 := o2.mono hm.size
                have hm := bnext hm lx
                replace cB := cell_be lx cB
                replace oA := oA.below lx
                refine hK'.out _ _ (F _ hm) ?_
                clear hK' K'
                try simp only [Act.put, List.setIfInBounds_toArray, List.set_cons_zero, List.set_cons_succ]
                refine anyE_oneL 15 (by kernel_rfl) rfl (fun K' hK' => ?_)
                refine step_app1 (by rfl) _ _ (by rfl) w1.heap.size b1 k d2 ((wtsR R).take k) (by rfl) HkW.out o2 ⟨u96.heap.size, 0, none⟩ 1 v (by rfl) cB (by omega) hm.size ?_
                intro bB dB u104 oB hgr hloc
                have disF : ∀ g, blk aA = some g → blk bB ≠ some g := fun g q1 q2 => by rcases hloc with h | h; exact dis g q1 (by rw [← h]; exact q2); rw [h] at q2; have := ownLt oA _ q1; simp at q2; omega
                have oA := Own.keep oA hgr (fun g q1 q2 => dis g q1 q2)
                have hm := hm.grown hgr hm.size (fun g hg => own_blk_ge o2 g hg)
                clear hgr hloc o2 cB
                refine hK'.out _ _ (F _ hm) ?_
                clear hK' K'
                try simp only [Act.put, List.setIfInBounds_toArray, List.set_cons_zero, List.set_cons_succ]
                refine anyE_oneL 16 (by kernel_rfl) rfl (fun K' hK' => ?_)
                go_simp
                refine hK'.out _ _ (F _ hm) ?_
                clear hK' K'
                try simp only [Act.put, List.setIfInBounds_toArray, List.set_cons_zero, List.set_cons_succ]
                refine anyE_oneL 17 (by kernel_rfl) rfl (fun K' hK' => ?_)
                go_simp
                refine hK'.out _ _ (F _ hm) (anyE_doneL (by kernel_rfl) ?_)
                clear hK' K'
                try simp only [Act.put, List.setIfInBounds_toArray, List.set_cons_zero, List.set_cons_succ]
                go_wp2_with fail
                go_meet
                exact ⟨aA, dA, bB, dB, by rw [HmN.out], by rw [HmW.out], hide oA, hide oB, hide disF, hide hm⟩
            · go_simp
              obtain ⟨u107, hu⟩ : ∃ u, u = u95.alloc (.cells #[.int .i64 v] 2) := ⟨_, rfl⟩
              have lx : Below u95.heap.size u95 u107 := by rw [hu]; exact bl1 _ _
              have cB : u107.cell? ⟨u95.heap.size, 0, none⟩ = some (.int .i64 v) := by rw [hu]; simp [go_sem]
              rw [← hu]
              clear hu
              have nB : blk a1 ≠ some u95.heap.size := fun q => by have := ownLt o1 _ q; omega
              have hm := bnext hm lx
              replace cA := cell_be lx cA
              replace o1 := o1.below lx
              refine hK'.out _ _ (F _ hm) ?_
              clear hK' K'
              try simp only [Act.put, List.setIfInBounds_toArray, List.set_cons_zero, List.set_cons_succ]
              refine anyE_oneL 7 (by kernel_rfl) rfl (fun K' hK' => ?_)
              refine step_app1 (by rfl) _ _ (by rfl) w1.heap.size a1 k d1 ((nodesR R).take k) (by rfl) HkN.out o1 ⟨u0.heap.size, 0, none⟩ 1 x (by rfl) cA (by omega) hm.size ?_
              intro aA dA u108 oA hgr hloc
              have hm := hm.grown hgr hm.size (fun g hg => own_blk_ge o1 g hg)
              replace cB := cell_ne hgr cB nB
              clear hgr hloc o1 cA
              refine hK'.out _ _ (F _ hm) ?_
              clear hK' K'
              try simp only [Act.put, List.setIfInBounds_toArray, List.set_cons_zero, List.set_cons_succ]
              refine anyE_oneL 12 (by kernel_rfl) rfl (fun K' hK' => ?_)
              go_simp
              refine (l01Own_any _ k d ((wtsR R).take k) _ (sBk.below hm) (by omega)).mono ?_
              rintro e u109 ⟨b1, d2, rfl, o2, lx⟩
              dsimp only
              have nB2 : blk b1 ≠ some u95.heap.size := fun q => by have := own_blk_ge o2 _ q; have := World.block_lt_of_cell? _ _ cB; simp at this; omega
              have dis : ∀ g, blk aA = some g → blk b1 ≠ some g := fun g q1 q2 => by have := ownLt oA _ q1; have := own_blk_ge o2 _ q2; omega
              replace o2 := o2.mono hm.size
              have hm := bnext hm lx
              replace cB := cell_be lx cB
              replace oA := oA.below lx
              refine hK'.out _ _ (F _ hm) ?_
              clear hK' K'
              try simp only [Act.put, List.setIfInBounds_toArray, List.set_cons_zero, List.set_cons_succ]
              refine anyE_oneL 15 (by kernel_rfl) rfl (fun K' hK' => ?_)
              refine step_app1 (by rfl) _ _ (by rfl) w1.heap.size b1 k d2 ((wtsR R).take k) (by rfl) HkW.out o2 ⟨u95.heap.size, 0, none⟩ 1 v (by rfl) cB (by omega) hm.size ?_
              intro bB dB u110 oB hgr hloc
              have disF : ∀ g, blk aA = some g → blk bB ≠ some g := fun g q1 q2 => by rcases hloc with h | h; exact dis g q1 (by rw [← h]; exact q2); rw [h] at q2; have := ownLt oA _ q1; simp at q2; omega
              have oA := Own.keep oA hgr (fun g q1 q2 => dis g q1 q2)
              have hm := hm.grown hgr hm.size (fun g hg => own_blk_ge o2 g hg)
              clear hgr hloc o2 cB
              refine hK'.out _ _ (F _ hm) ?_
              clear hK' K'
              try simp only [Act.put, List.setIfInBounds_toArray, List.set_cons_zero, List.set_cons_succ]
              refine anyE_oneL 16 (by kernel_rfl) rfl (fun K' hK' => ?_)
              go_simp
              refine hK'.out _ _ (F _ hm) ?_
              clear hK' K'
              try simp only [Act.put, List.setIfInBounds_toArray, List.set_cons_zero, List.set_cons_succ]
              refine anyE_oneL 17 (by kernel_rfl) rfl (fun K' hK' => ?_)
              go_simp
              refine hK'.out _ _ (F _ hm) (anyE_doneL (by kernel_rfl) ?_)
              clear hK' K'
              try simp only [Act.put, List.setIfInBounds_toArray, List.set_cons_zero, List.set_cons_succ]
              go_wp2_with fail
              go_meet
              exact ⟨aA, dA, bB, dB, by rw [HmN.out], by rw [HmW.out], hide oA, hide oB, hide disF, hide hm⟩
          · go_simp
            obtain ⟨u113, hu⟩ : ∃ u, u = u94.alloc (.cells #[.int .i64 v] 2) := ⟨_, rfl⟩
            have lx : Below u94.heap.size u94 u113 := by rw [hu]; exact bl1 _ _
            have cB : u113.cell? ⟨u94.heap.size, 0, none⟩ = some (.int .i64 v) := by rw [hu]; simp [go_sem]
            rw [← hu]
            clear hu
            have hm := bnext hm lx
            replace cA := cell_be lx cA
            refine hK'.out _ _ (F _ hm) ?_
            clear hK' K'
            try simp only [Act.put, List.setIfInBounds_toArray, List.set_cons_zero, List.set_cons_succ]
            refine anyE_oneL 4 (by kernel_rfl) rfl (fun K' hK' => ?_)
            go_simp
            refine (l01Own_any _ k c ((nodesR R).take k) _ (sAk.below hm) (by omega)).mono ?_
            rintro e u114 ⟨a1, d1, rfl, o1, lx⟩
            dsimp only
            have nB : blk a1 ≠ some u94.heap.size := fun q => by have := own_blk_ge o1 _ q; have := World.block_lt_of_cell? _ _ cB; simp at this; omega
            replace o1 := o1.mono hm.size
            have hm := bnext hm lx
            replace cA := cell_be lx cA
            replace cB := cell_be lx cB
            refine hK'.out _ _ (F _ hm) ?_
            clear hK' K'
            try simp only [Act.put, List.setIfInBounds_toArray, List.set_cons_zero, List.set_cons_succ]
            refine anyE_oneL 7 (by kernel_rfl) rfl (fun K' hK' => ?_)
            refine step_app1 (by rfl) _ _ (by rfl) w1.heap.size a1 k d1 ((nodesR R).take k) (by rfl) HkN.out o1 ⟨u0.heap.size, 0, none⟩ 1 x (by rfl) cA (by omega) hm.size ?_
            intro aA dA u115 oA hgr hloc
            have hm := hm.grown hgr hm.size (fun g hg => own_blk_ge o1 g hg)
            replace cB := cell_ne hgr cB nB
            clear hgr hloc o1 cA
            refine hK'.out _ _ (F _ hm) ?_
            clear hK' K'
            try simp only [Act.put, List.setIfInBounds_toArray, List.set_cons_zero, List.set_cons_succ]
            refine anyE_oneL 12 (by kernel_rfl) rfl (fun K' hK' => ?_)
            go_simp
            refine (l01Own_any _ k d ((wtsR R).take k) _ (sBk.below hm) (by omega)).mono ?_
            rintro e u116 ⟨b1, d2, rfl, o2, lx⟩
            dsimp only
            have nB2 : blk b1 ≠ some u94.heap.size := fun q => by have := own_blk_ge o2 _ q; have := World.block_lt_of_cell? _ _ cB; simp at this; omega
            have dis : ∀ g, blk aA = some g → blk b1 ≠ some g := fun g q1 q2 => by have := ownLt oA _ q1; have := own_blk_ge o2 _ q2; omega
            replace o2 := o2.mono hm.size
            have hm := bnext hm lx
            replace cB := cell_be lx cB
            replace oA := oA.below lx
            refine hK'.out _ _ (F _ hm) ?_
            clear hK' K'
            try simp only [Act.put, List.setIfInBounds_toArray, List.set_cons_zero, List.set_cons_succ]
            refine anyE_oneL 15 (by kernel_rfl) rfl (fun K' hK' => ?_)
            refine step_app1 (by rfl) _ _ (by rfl) w1.heap.size b1 k d2 ((wtsR R).take k) (by rfl) HkW.out o2 ⟨u94.heap.size, 0, none⟩ 1 v (by rfl) cB (by omega) hm.size ?_
            intro bB dB u117 oB hgr hloc
            have disF : ∀ g, blk aA = some g → blk bB ≠ some g := fun g q1 q2 => by rcases hloc with h | h; exact dis g q1 (by rw [← h]; exact q2); rw [h] at q2; have := ownLt oA _ q1; simp at q2; omega
            have oA := Own.keep oA hgr (fun g q1 q2 => dis g q1 q2)
            have hm := hm.grown hgr hm.size (fun g hg => own_blk_ge o2 g hg)
            clear hgr hloc o2 cB
            refine hK'.out _ _ (F _ hm) ?_
            clear hK' K'
            try simp only [Act.put, List.setIfInBounds_toArray, List.set_cons_zero, List.set_cons_succ]
            refine anyE_oneL 16 (by kernel_rfl) rfl (fun K' hK' => ?_)
            go_simp
            refine hK'.out _ _ (F _ hm) ?_
            clear hK' K'
            try simp only [Act.put, List.setIfInBounds_toArray, List.set_cons_zero, List.set_cons_succ]
            refine anyE_oneL 17 (by kernel_rfl) rfl (fun K' hK' => ?_)
            go_simp
            refine hK'.out _ _ (F _ hm) (anyE_doneL (by kernel_rfl) ?_)
            clear hK' K'
            try simp only [Act.put, List.setIfInBounds_toArray, List.set_cons_zero, List.set_cons_succ]
            go_wp2_with fail
            go_meet
            exact ⟨aA, dA, bB, dB, by rw [HmN.out], by rw [HmW.out], hide oA, hide oB, hide disF, hide hm⟩
        · go_simp
          obtain ⟨u120, hu⟩ : ∃ u, u = u0.alloc (.cells #[.int .i64 v] 2) := ⟨_, rfl⟩
          have lx : Below u0.heap.size u0 u120 := by rw [hu]; exact bl1 _ _
          have cB : u120.cell? ⟨u0.heap.size, 0, none⟩ = some (.int .i64 v) := by rw [hu]; simp [go_sem]
          rw [← hu]
          clear hu
          have hm := bnext hm lx
          refine hK'.out _ _ (F _ hm) ?_
          clear hK' K'
          try simp only [Act.put, List.setIfInBounds_toArray, List.set_cons_zero, List.set_cons_succ]
          refine anyE_2L 4 6 (by kernel_rfl) rfl rfl (fun K' hK' => ?_) (fun K' hK' => ?_)
          · go_simp
            refine (l01Own_any _ k c ((nodesR R).take k) _ (sAk.below hm) (by omega)).mono ?_
            rintro e u121 ⟨a1, d1, rfl, o1, lx⟩
            dsimp only
            have nB : blk a1 ≠ some u0.heap.size := fun q => by have := own_blk_ge o1 _ q; have := World.block_lt_of_cell? _ _ cB; simp at this; omega
            replace o1 := o1.mono hm.size
            have hm := bnext hm lx
            replace cB := cell_be lx cB
            refine hK'.out _ _ (F _ hm) ?_
            clear hK' K'
            try simp only [Act.put, List.setIfInBounds_toArray, List.set_cons_zero, List.set_cons_succ]
            refine anyE_oneL 6 (by kernel_rfl) rfl (fun K' hK' => ?_)
            go_simp
            obtain ⟨u122, hu⟩ : ∃ u, u = u121.alloc (.cells #[.int .i64 x] 2) := ⟨_, rfl⟩
            have lx : Below u121.heap.size u121 u122 := by rw [hu]; exact bl1 _ _
            have cA : u122.cell? ⟨u121.heap.size, 0, none⟩ = some (.int .i64 x) := by rw [hu]; simp [go_sem]
            rw [← hu]
            clear hu
            have hm := bnext hm lx
            replace cB := cell_be lx cB
            replace o1 := o1.below lx
            refine hK'.out _ _ (F _ hm) ?_
            clear hK' K'
            try simp only [Act.put, List.setIfInBounds_toArray, List.set_cons_zero, List.set_cons_succ]
            refine anyE_oneL 7 (by kernel_rfl) rfl (fun K' hK' => ?_)
            refine step_app1 (by rfl) _ _ (by rfl) w1.heap.size a1 k d1 ((nodesR R).take k) (by rfl) HkN.out o1 ⟨u121.heap.size, 0, none⟩ 1 x (by rfl) cA (by omega) hm.size ?_
            intro aA dA u123 oA hgr hloc
            have hm := hm.grown hgr hm.size (fun g hg => own_blk_ge o1 g hg)
            replace cB := cell_ne hgr cB nB
            clear hgr hloc o1 cA
            refine hK'.out _ _ (F _ hm) ?_
            clear hK' K'
            try simp only [Act.put, List.setIfInBounds_toArray, List.set_cons_zero, List.set_cons_succ]
            refine anyE_oneL 12 (by kernel_rfl) rfl (fun K' hK' => ?_)
            go_simp
            refine (l01Own_any _ k d ((wtsR R).take k) _ (sBk.below hm) (by omega)).mono ?_
            rintro e u124 ⟨b1, d2, rfl, o2, lx⟩
            dsimp only
            have nB2 : blk b1 ≠ some u0.heap.size := fun q => by have := own_blk_ge o2 _ q; have := World.block_lt_of_cell? _ _ cB; simp at this; omega
            have dis : ∀ g, blk aA = some g → blk b1 ≠ some g := fun g q1 q2 => by have := ownLt oA _ q1; have := own_blk_ge o2 _ q2; omega
            replace o2 := o2.mono hm.size
            have hm := bnext hm lx
            replace cB := cell_be lx cB
            replace oA := oA.below lx
            refine hK'.out _ _ (F _ hm) ?_
            clear hK' K'
            try simp only [Act.put, List.setIfInBounds_toArray, List.set_cons_zero, List.set_cons_succ]
            refine anyE_oneL 15 (by kernel_rfl) rfl (fun K' hK' => ?_)
            refine step_app1 (by rfl) _ _ (by rfl) w1.heap.size b1 k d2 ((wtsR R).take k) (by rfl) HkW.out o2 ⟨u0.heap.size, 0, none⟩ 1 v (by rfl) cB (by omega) hm.size ?_
            intro bB dB u125 oB hgr hloc
            have disF : ∀ g, blk aA = some g → blk bB ≠ some g := fun g q1 q2 => by rcases hloc with h | h; exact dis g q1 (by rw [← h]; exact q2); rw [h] at q2; have := ownLt oA _ q1; simp at q2; omega
            have oA := Own.keep oA hgr (fun g q1 q2 => dis g q1 q2)
            have hm := hm.grown hgr hm.size (fun g hg => own_blk_ge o2 g hg)
            clear hgr hloc o2 cB
            refine hK'.out _ _ (F _ hm) ?_
            clear hK' K'
            try simp only [Act.put, List.setIfInBounds_toArray, List.set_cons_zero, List.set_cons_succ]
            refine anyE_oneL 16 (by kernel_rfl) rfl (fun K' hK' => ?_)
            go_simp
            refine hK'.out _ _ (F _ hm) ?_
            clear hK' K'
            try simp only [Act.put, List.setIfInBounds_toArray, List.set_cons_zero, List.set_cons_succ]
            refine anyE_oneL 17 (by kernel_rfl) rfl (fun K' hK' => ?_)
            go_simp
            refine hK'.out _ _ (F _ hm) (anyE_doneL (by kernel_rfl) ?_)
            clear hK' K'
            try simp only [Act.put, List.setIfInBounds_toArray, List.set_cons_zero, List.set_cons_succ]
            go_wp2_with fail
            go_meet
            exact ⟨aA, dA, bB, dB, by rw [HmN.out], by rw [HmW.out], hide oA, hide oB, hide disF, hide hm⟩
          · go_simp
            obtain ⟨u128, hu⟩ : ∃ u, u = u120.alloc (.cells #[.int .i64 x] 2) := ⟨_, rfl⟩
            have lx : Below u120.heap.size u120 u128 := by rw [hu]; exact bl1 _ _
            have cA : u128.cell? ⟨u120.heap.size, 0, none⟩ = some (.int .i64 x) := by rw [hu]; simp [go_sem]
            rw [← hu]
            clear hu
            have hm := bnext hm lx
            replace cB := cell_be lx cB
            refine hK'.out _ _ (F _ hm) ?_
            clear hK' K'
            try simp only [Act.put, List.setIfInBounds_toArray, List.set_cons_zero, List.set_cons_succ]
            refine anyE_oneL 4 (by kernel_rfl) rfl (fun K' hK' => ?_)
            go_simp
            refine (l01Own_any _ k c ((nodesR R).take k) _ (sAk.below hm) (by omega)).mono ?_
            rintro e u129 ⟨a1, d1, rfl, o1, lx⟩
            dsimp only
            have nB : blk a1 ≠ some u0.heap.size := fun q => by have := own_blk_ge o1 _ q; have := World.block_lt_of_cell? _ _ cB; simp at this; omega
            replace o1 := o1.mono hm.size
            have hm := bnext hm lx
            replace cA := cell_be lx cA
            replace cB := cell_be lx cB
            refine hK'.out _ _ (F _ hm) ?_
            clear hK' K'
            try simp only [Act.put, List.setIfInBounds_toArray, List.set_cons_zero, List.set_cons_succ]
            refine anyE_oneL 7 (by kernel_rfl) rfl (fun K' hK' => ?_)
            refine step_app1 (by rfl) _ _ (by rfl) w1.heap.size a1 k d1 ((nodesR R).take k) (by rfl) HkN.out o1 ⟨u120.heap.size, 0, none⟩ 1 x (by rfl) cA (by omega) hm.size ?_
            intro aA dA u130 oA hgr hloc
            have hm := hm.grown hgr hm.size (fun g hg => own_blk_ge o1 g hg)
            replace cB := cell_ne hgr cB nB
            clear hgr hloc o1 cA
            refine hK'.out _ _ (F _ hm) ?_
            clear hK' K'
            try simp only [Act.put, List.setIfInBounds_toArray, List.set_cons_zero, List.set_cons_succ]
            refine anyE_oneL 12 (by kernel_rfl) rfl (fun K' hK' => ?_)
            go_simp
            refine (l01Own_any _ k d ((wtsR R).take k) _ (sBk.below hm) (by omega)).mono ?_
            rintro e u131 ⟨b1, d2, rfl, o2, lx⟩
            dsimp only
            have nB2 : blk b1 ≠ some u0.heap.size := fun q => by have := own_blk_ge o2 _ q; have := World.block_lt_of_cell? _ _ cB; simp at this; omega
            have dis : ∀ g, blk aA = some g → blk b1 ≠ some g := fun g q1 q2 => by have := ownLt oA _ q1; have := own_blk_ge o2 _ q2; omega
            replace o2 := o2.mono hm.size
            have hm := bnext hm lx
            replace cB := cell_be lx cB
            replace oA := oA.below lx
            refine hK'.out _ _ (F _ hm) ?_
            clear hK' K'
            try simp only [Act.put, List.setIfInBounds_toArray, List.set_cons_zero, List.set_cons_succ]
            refine anyE_oneL 15 (by kernel_rfl) rfl (fun K' hK' => ?_)
            refine step_app1 (by rfl) _ _ (by rfl) w1.heap.size b1 k d2 ((wtsR R).take k) (by rfl) HkW.out o2 ⟨u0.heap.size, 0, none⟩ 1 v (by rfl) cB (by omega) hm.size ?_
            intro bB dB u132 oB hgr hloc
            have disF : ∀ g, blk aA = some g → blk bB ≠ some g := fun g q1 q2 => by rcases hloc with h | h; exact dis g q1 (by rw [← h]; exact q2); rw [h] at q2; have := ownLt oA _ q1; simp at q2; omega
            have oA := Own.keep oA hgr (fun g q1 q2 => dis g q1 q2)
            have hm := hm.grown hgr hm.size (fun g hg => own_blk_ge o2 g hg)
            clear hgr hloc o2 cB
            refine hK'.out _ _ (F _ hm) ?_
            clear hK' K'
            try simp only [Act.put, List.setIfInBounds_toArray, List.set_cons_zero, List.set_cons_succ]
            refine anyE_oneL 16 (by kernel_rfl) rfl (fun K' hK' => ?_)
            go_simp
            refine hK'.out _ _ (F _ hm) ?_
            clear hK' K'
            try simp only [Act.put, List.setIfInBounds_toArray, List.set_cons_zero, List.set_cons_succ]
            refine anyE_oneL 17 (by kernel_rfl) rfl (fun K' hK' => ?_)
            go_simp
            refine hK'.out _ _ (F _ hm) (anyE_doneL (by kernel_rfl) ?_)
            clear hK' K'
            try simp only [Act.put, List.setIfInBounds_toArray, List.set_cons_zero, List.set_cons_succ]
            go_wp2_with fail
            go_meet
            exact ⟨aA, dA, bB, dB, by rw [HmN.out], by rw [HmW.out], hide oA, hide oB, hide disF, hide hm⟩
      case rest =>
      obtain ⟨aA, dA, bB, dB, rfl, rfl, oA, oB, disF, hm⟩ := hcut
      obtain ⟨w5, hw5⟩ : ∃ w5, w5 = wc := ⟨wc, rfl⟩
      subst hw5
      have t5 := hm.out
      have z5 := t5.size
      have c1 := cell_be t5 f1
      have c2 := cell_be t5 f2
      have c0 := cell_be t5 f0
      have k1 := (t5.frozen (World.block_lt_of_cell? _ _ f1)).trans h1
      have k2 := (t5.frozen (World.block_lt_of_cell? _ _ f2)).trans h2
      have kn : (k : Int) ≤ (n : Int) := by omega
      have hneq : blk aA ≠ some w.heap.size := fun e => by have := own_blk_ge oA.out _ e; omega
      have hAl := ownLt oA.out
      have hBl := ownLt oB.out
      have sl1 : ∃ z1 e1, (c - k = e1 ∧ SL w5 (some ⟨ga, z1, none⟩) (n - k) e1 ((nodesR R).drop k) ∧ ((e1 = 0 ∧ z1 = 0) ∨ (z1 = k ∧ ∃ e2, e1 = e2 + 1))) := by
        have hle := sA.le
        have sd1 := (sA.below t5).dropS k (show k ≤ n from hk)
        rw [Nat.zero_add] at sd1
        by_cases q : c - k = 0
        · refine ⟨0, 0, q, ?_, .inl ⟨rfl, rfl⟩⟩
          rw [q] at sd1
          exact ⟨sd1.len, ⟨sd1.le, fun h => by cases h⟩, .inl (by have := sd1.le; omega)⟩
        · exact ⟨k, c - k, rfl, sd1, .inr ⟨rfl, c - k - 1, by omega⟩⟩
      obtain ⟨m1, e1, he1, sl1, hs1⟩ := sl1
      have hXN : min k (nodesR R).length + ((nodesR R).length - k + 1) = n + 1 := by have := HmN.out; have := hN.out; have := hn'.out; omega
      have hXW : min k (wtsR R).length + ((wtsR R).length - k + 1) = n + 1 := by have := HmW.out; have := hWl.out; have := hn'.out; omega
      have HXN := hide hXN
      have HXW := hide hXW
      clear hXN hXW
      go_upto_region 9 with fail
      go_cut [] (fun wx => ∃ (a6 : Option Addr) (d6 : Nat), Hid (wx.cell? ⟨w.heap.size, 1, none⟩ = some (.slice a6 (n + 1) d6)) ∧ Hid (wx.cell? ⟨w.heap.size, 2, none⟩ = some (.slice (some ⟨gb, 0, none⟩) n d)) ∧ Hid (wx.cell? ⟨w.heap.size, 0, none⟩ = some (.int .i64 p)) ∧ Hid (wx.frozen? ⟨w.heap.size, 2, none⟩ = false) ∧ Hid (Own w1.heap.size wx a6 d6 ((nodesR R).take k ++ [x] ++ (nodesR R).drop k)) ∧ Hid (Own w1.heap.size wx bB dB ((wtsR R).take k ++ [v])) ∧ Hid (∀ g, blk a6 = some g → blk bB ≠ some g) ∧ Hid (Below w.heap.size w1 wx) ∧ Hid (wx.cell? ⟨w.heap.size + 1, 0, none⟩ = some (.int .i64 0) ∧ wx.cell? ⟨w.heap.size + 1, 1, none⟩ = some (.slice none 0 0) ∧ wx.cell? ⟨w.heap.size + 1, 2, none⟩ = some (.slice none 0 0) ∧ wx.frozen? ⟨w.heap.size + 1, 0, none⟩ = false ∧ wx.frozen? ⟨w.heap.size + 1, 1, none⟩ = false ∧ wx.frozen? ⟨w.heap.size + 1, 2, none⟩ = false) ∧ w1.heap.size ≤ wx.heap.size)
      case first =>
        have hne1 : blk aA ≠ some (w.heap.size + 1) := fun e => by have := own_blk_ge oA.out _ e; omega
        rcases hs1 with ⟨rfl, rfl⟩ | ⟨hz, e3, he⟩
        · go_upto_region 10 with (at_builtin; refine wp_appG rfl _ _ rfl w1.heap.size aA (k + 1) dA ((nodesR R).take k ++ [x]) rfl HkN1.out.symm oA.out (some ⟨ga, 0, none⟩) (n - k) 0 ((nodesR R).drop k) rfl sl1 (by omega) z5 ?_; intro a6 d6 w6 oN hgr hloc; have s' := cell_ne hgr c1 hneq; have sf := frz_ne hgr c1 k1 hneq)
          rw [HXN.out]
          go_meet
          obtain ⟨g6, e6, _⟩ := oN.blkG (by rw [HdN.out]; omega)
          have hno : ∀ o v, w5.cell? ⟨w.heap.size + 1, o, none⟩ = some v → (w6.setCell ⟨w.heap.size, 1, none⟩ (.slice a6 (n + 1) d6)).cell? ⟨w.heap.size + 1, o, none⟩ = some v := fun o v h => cell_set2 (cell_ne hgr h hne1) (by simp) _
          have hnf : ∀ o v, w5.cell? ⟨w.heap.size + 1, o, none⟩ = some v → w5.frozen? ⟨w.heap.size + 1, o, none⟩ = false → (w6.setCell ⟨w.heap.size, 1, none⟩ (.slice a6 (n + 1) d6)).frozen? ⟨w.heap.size + 1, o, none⟩ = false := fun o v h hf => by
            have := frz_ne hgr h hf hne1
            simpa using this
          have hB6 : Below w.heap.size w1 (w6.setCell ⟨w.heap.size, 1, none⟩ (.slice a6 (n + 1) d6)) := ((t5.mono (show w.heap.size ≤ w1.heap.size by omega)).grown hgr (by omega) (fun g hg => by have := own_blk_ge oA.out g hg; omega)).setCell (by simp) _
          have hd6 : ∀ g, blk a6 = some g → blk bB ≠ some g := fun g q1 q2 => by
            rcases hloc with h | h
            · exact disF.out g (by rw [← h]; exact q1) q2
            · rw [h] at q1
              have := hBl g q2
              simp at q1
              omega
          have hfz2 : (w6.setCell ⟨w.heap.size, 1, none⟩ (.slice a6 (n + 1) d6)).frozen? ⟨w.heap.size, 2, none⟩ = false := by
            have := frz_ne hgr c2 k2 hneq
            simpa using this
          exact ⟨a6, d6, hide (World.cell?_setCell_same _ _ _ s'), hide (cell_set2' (cell_ne hgr c2 hneq) (by omega) _), hide (cell_set2' (cell_ne hgr c0 hneq) (by omega) _), hide hfz2, hide (oN.otherG (fun e => by have := own_blk_ge oN _ e; omega) _), hide ((Own.keep oB.out hgr (fun g q1 q2 => disF.out g q2 q1)).otherG (fun e => by have := own_blk_ge oB.out _ e; omega) _), hide hd6, hide hB6, hide ⟨hno _ _ (cell_be t5 r0), hno _ _ (cell_be t5 r1), hno _ _ (cell_be t5 r2), hnf _ _ (cell_be t5 r0) ((t5.frozen (World.block_lt_of_cell? _ _ r0)).trans y0), hnf _ _ (cell_be t5 r1) ((t5.frozen (World.block_lt_of_cell? _ _ r1)).trans y1), hnf _ _ (cell_be t5 r2) ((t5.frozen (World.block_lt_of_cell? _ _ r2)).trans y2)⟩, by have := hgr.size; simp; omega⟩
        · rw [hz, he] at sl1
          rw [he] at he1
          go_upto_region 10 with (at_builtin; refine wp_appG rfl _ _ rfl w1.heap.size aA (k + 1) dA ((nodesR R).take k ++ [x]) rfl HkN1.out.symm oA.out (some ⟨ga, k, none⟩) (n - k) (e3 + 1) ((nodesR R).drop k) rfl sl1 (by omega) z5 ?_; intro a6 d6 w6 oN hgr hloc; have s' := cell_ne hgr c1 hneq; have sf := frz_ne hgr c1 k1 hneq)
          rw [HXN.out]
          go_meet
          obtain ⟨g6, e6, _⟩ := oN.blkG (by rw [HdN.out]; omega)
          have hno : ∀ o v, w5.cell? ⟨w.heap.size + 1, o, none⟩ = some v → (w6.setCell ⟨w.heap.size, 1, none⟩ (.slice a6 (n + 1) d6)).cell? ⟨w.heap.size + 1, o, none⟩ = some v := fun o v h => cell_set2 (cell_ne hgr h hne1) (by simp) _
          have hnf : ∀ o v, w5.cell? ⟨w.heap.size + 1, o, none⟩ = some v → w5.frozen? ⟨w.heap.size + 1, o, none⟩ = false → (w6.setCell ⟨w.heap.size, 1, none⟩ (.slice a6 (n + 1) d6)).frozen? ⟨w.heap.size + 1, o, none⟩ = false := fun o v h hf => by
            have := frz_ne hgr h hf hne1
            simpa using this
          have hB6 : Below w.heap.size w1 (w6.setCell ⟨w.heap.size, 1, none⟩ (.slice a6 (n + 1) d6)) := ((t5.mono (show w.heap.size ≤ w1.heap.size by omega)).grown hgr (by omega) (fun g hg => by have := own_blk_ge oA.out g hg; omega)).setCell (by simp) _
          have hd6 : ∀ g, blk a6 = some g → blk bB ≠ some g := fun g q1 q2 => by
            rcases hloc with h | h
            · exact disF.out g (by rw [← h]; exact q1) q2
            · rw [h] at q1
              have := hBl g q2
              simp at q1
              omega
          have hfz2 : (w6.setCell ⟨w.heap.size, 1, none⟩ (.slice a6 (n + 1) d6)).frozen? ⟨w.heap.size, 2, none⟩ = false := by
            have := frz_ne hgr c2 k2 hneq
            simpa using this
          exact ⟨a6, d6, hide (World.cell?_setCell_same _ _ _ s'), hide (cell_set2' (cell_ne hgr c2 hneq) (by omega) _), hide (cell_set2' (cell_ne hgr c0 hneq) (by omega) _), hide hfz2, hide (oN.otherG (fun e => by have := own_blk_ge oN _ e; omega) _), hide ((Own.keep oB.out hgr (fun g q1 q2 => disF.out g q2 q1)).otherG (fun e => by have := own_blk_ge oB.out _ e; omega) _), hide hd6, hide hB6, hide ⟨hno _ _ (cell_be t5 r0), hno _ _ (cell_be t5 r1), hno _ _ (cell_be t5 r2), hnf _ _ (cell_be t5 r0) ((t5.frozen (World.block_lt_of_cell? _ _ r0)).trans y0), hnf _ _ (cell_be t5 r1) ((t5.frozen (World.block_lt_of_cell? _ _ r1)).trans y1), hnf _ _ (cell_be t5 r2) ((t5.frozen (World.block_lt_of_cell? _ _ r2)).trans y2)⟩, by have := hgr.size; simp; omega⟩
      case rest =>
      obtain ⟨a6, d6, c1', c2', c0', k2', oN, oB', dis6, hB6, hR6, z6⟩ := hcut
      clear c0 c1 c2 k1 k2 t5 z5 hm oA oB disF sl1 hs1 he1 hAl hBl hneq
      obtain ⟨w6, hw6⟩ : ∃ w6, w6 = wc := ⟨wc, rfl⟩
      subst hw6
      have c1 := c1'.out
      have c2 := c2'.out
      have c0 := c0'.out
      have k2 := k2'.out
      have hneq : blk bB ≠ some w.heap.size := fun e => by have := own_blk_ge oB'.out _ e; omega
      have hne1 : blk bB ≠ some (w.heap.size + 1) := fun e => by have := own_blk_ge oB'.out _ e; omega
      have hlB := lB.out gb rfl
      have sB6 := sB.old hB6.out (fun g hg => by cases hg; exact hlB)
      obtain ⟨q0, q1', q2', p0, p1, p2⟩ := hR6.out
      have sl2 : ∃ z1 e1, (d - k = e1 ∧ SL w6 (some ⟨gb, z1, none⟩) (n - k) e1 ((wtsR R).drop k) ∧ ((e1 = 0 ∧ z1 = 0) ∨ (z1 = k ∧ ∃ e2, e1 = e2 + 1))) := by
        have hle := sB6.le
        have sd1 := sB6.dropS k (show k ≤ n from hk)
        rw [Nat.zero_add] at sd1
        by_cases q : d - k = 0
        · refine ⟨0, 0, q, ?_, .inl ⟨rfl, rfl⟩⟩
          rw [q] at sd1
          exact ⟨sd1.len, ⟨sd1.le, fun h => by cases h⟩, .inl (by have := sd1.le; omega)⟩
        · exact ⟨k, d - k, rfl, sd1, .inr ⟨rfl, d - k - 1, by omega⟩⟩
      obtain ⟨m1, e1, he1, sl2, hs1⟩ := sl2
      clear c1' c2' c0' k2' hR6 sB6
      go_upto_region 10 with fail
      go_cut [] (fun wx => ∃ (g6 g8 d8 : Nat), a6 = some ⟨g6, 0, none⟩ ∧ Hid (wx.cell? ⟨w.heap.size, 0, none⟩ = some (.int .i64 p) ∧ wx.cell? ⟨w.heap.size, 1, none⟩ = some (.slice a6 (n + 1) d6) ∧ wx.cell? ⟨w.heap.size, 2, none⟩ = some (.slice (some ⟨g8, 0, none⟩) (n + 1) d8)) ∧ Hid (Own w1.heap.size wx a6 d6 ((nodesR R).take k ++ [x] ++ (nodesR R).drop k)) ∧ Hid (Own w1.heap.size wx (some ⟨g8, 0, none⟩) d8 ((wtsR R).take k ++ [v] ++ (wtsR R).drop k)) ∧ g6 ≠ g8 ∧ Hid (Below w.heap.size w1 wx) ∧ Hid (wx.cell? ⟨w.heap.size + 1, 0, none⟩ = some (.int .i64 0) ∧ wx.cell? ⟨w.heap.size + 1, 1, none⟩ = some (.slice none 0 0) ∧ wx.cell? ⟨w.heap.size + 1, 2, none⟩ = some (.slice none 0 0) ∧ wx.frozen? ⟨w.heap.size + 1, 0, none⟩ = false ∧ wx.frozen? ⟨w.heap.size + 1, 1, none⟩ = false ∧ wx.frozen? ⟨w.heap.size + 1, 2, none⟩ = false) ∧ w1.heap.size ≤ wx.heap.size)
      case first =>
        rcases hs1 with ⟨rfl, rfl⟩ | ⟨hz, e3, he⟩
        · go_upto_region 11 with (at_builtin; refine wp_appG rfl _ _ rfl w1.heap.size bB (k + 1) dB ((wtsR R).take k ++ [v]) rfl HkW1.out.symm oB'.out (some ⟨gb, 0, none⟩) (n - k) 0 ((wtsR R).drop k) rfl sl2 (by omega) z6 ?_; intro a8 d8 w8 oW hgr hloc; have s' := cell_ne hgr c2 hneq; have sf := frz_ne hgr c2 k2 hneq)
          rw [HXW.out]
          go_meet
          obtain ⟨g8, e8, _⟩ := oW.blkG (by rw [HdW.out]; omega)
          obtain ⟨g6, e6, _⟩ := oN.out.blkG (by rw [HdN.out]; omega)
          have hno : ∀ o v, w6.cell? ⟨w.heap.size + 1, o, none⟩ = some v → (w8.setCell ⟨w.heap.size, 2, none⟩ (.slice a8 (n + 1) d8)).cell? ⟨w.heap.size + 1, o, none⟩ = some v := fun o v h => cell_set2 (cell_ne hgr h hne1) (by simp) _
          have hnf : ∀ o v, w6.cell? ⟨w.heap.size + 1, o, none⟩ = some v → w6.frozen? ⟨w.heap.size + 1, o, none⟩ = false → (w8.setCell ⟨w.heap.size, 2, none⟩ (.slice a8 (n + 1) d8)).frozen? ⟨w.heap.size + 1, o, none⟩ = false := fun o v h hf => by
            have := frz_ne hgr h hf hne1
            simpa using this
          have hB8 : Below w.heap.size w1 (w8.setCell ⟨w.heap.size, 2, none⟩ (.slice a8 (n + 1) d8)) := (hB6.out.grown hgr (by omega) (fun g hg => by have := own_blk_ge oB'.out g hg; omega)).setCell (by simp) _
          have hd8 : g6 ≠ g8 := fun e => by
            subst e
            rcases hloc with h | h
            · exact dis6.out g6 (by rw [e6]; rfl) (by rw [← h, e8]; rfl)
            · rw [e8] at h
              have := ownLt oN.out g6 (by rw [e6]; rfl)
              simp [blk] at h
              omega
          subst e8
          have cF0 := cell_set2' (cell_ne hgr c0 hneq) (show (2 : Nat) ≠ 0 by omega) (.slice (some ⟨g8, 0, none⟩) (n + 1) d8)
          have cF1 := cell_set2' (cell_ne hgr c1 hneq) (show (2 : Nat) ≠ 1 by omega) (.slice (some ⟨g8, 0, none⟩) (n + 1) d8)
          exact ⟨g6, g8, d8, e6, hide ⟨cF0, cF1, World.cell?_setCell_same _ _ _ s'⟩, hide ((Own.keep oN.out hgr (fun g q1 q2 => dis6.out g q1 q2)).otherG (fun e => by have := own_blk_ge oN.out _ e; omega) _), hide (oW.otherG (fun e => by have := own_blk_ge oW _ e; omega) _), hd8, hide hB8, hide ⟨hno _ _ q0, hno _ _ q1', hno _ _ q2', hnf _ _ q0 p0, hnf _ _ q1' p1, hnf _ _ q2' p2⟩, by have := hgr.size; simp; omega⟩
        · rw [hz, he] at sl2
          rw [he] at he1
          go_upto_region 11 with (at_builtin; refine wp_appG rfl _ _ rfl w1.heap.size bB (k + 1) dB ((wtsR R).take k ++ [v]) rfl HkW1.out.symm oB'.out (some ⟨gb, k, none⟩) (n - k) (e3 + 1) ((wtsR R).drop k) rfl sl2 (by omega) z6 ?_; intro a8 d8 w8 oW hgr hloc; have s' := cell_ne hgr c2 hneq; have sf := frz_ne hgr c2 k2 hneq)
          rw [HXW.out]
          go_meet
          obtain ⟨g8, e8, _⟩ := oW.blkG (by rw [HdW.out]; omega)
          obtain ⟨g6, e6, _⟩ := oN.out.blkG (by rw [HdN.out]; omega)
          have hno : ∀ o v, w6.cell? ⟨w.heap.size + 1, o, none⟩ = some v → (w8.setCell ⟨w.heap.size, 2, none⟩ (.slice a8 (n + 1) d8)).cell? ⟨w.heap.size + 1, o, none⟩ = some v := fun o v h => cell_set2 (cell_ne hgr h hne1) (by simp) _
          have hnf : ∀ o v, w6.cell? ⟨w.heap.size + 1, o, none⟩ = some v → w6.frozen? ⟨w.heap.size + 1, o, none⟩ = false → (w8.setCell ⟨w.heap.size, 2, none⟩ (.slice a8 (n + 1) d8)).frozen? ⟨w.heap.size + 1, o, none⟩ = false := fun o v h hf => by
            have := frz_ne hgr h hf hne1
            simpa using this
          have hB8 : Below w.heap.size w1 (w8.setCell ⟨w.heap.size, 2, none⟩ (.slice a8 (n + 1) d8)) := (hB6.out.grown hgr (by omega) (fun g hg => by have := own_blk_ge oB'.out g hg; omega)).setCell (by simp) _
          have hd8 : g6 ≠ g8 := fun e => by
            subst e
            rcases hloc with h | h
            · exact dis6.out g6 (by rw [e6]; rfl) (by rw [← h, e8]; rfl)
            · rw [e8] at h
              have := ownLt oN.out g6 (by rw [e6]; rfl)
              simp [blk] at h
              omega
          subst e8
          have cF0 := cell_set2' (cell_ne hgr c0 hneq) (show (2 : Nat) ≠ 0 by omega) (.slice (some ⟨g8, 0, none⟩) (n + 1) d8)
          have cF1 := cell_set2' (cell_ne hgr c1 hneq) (show (2 : Nat) ≠ 1 by omega) (.slice (some ⟨g8, 0, none⟩) (n + 1) d8)
          exact ⟨g6, g8, d8, e6, hide ⟨cF0, cF1, World.cell?_setCell_same _ _ _ s'⟩, hide ((Own.keep oN.out hgr (fun g q1 q2 => dis6.out g q1 q2)).otherG (fun e => by have := own_blk_ge oN.out _ e; omega) _), hide (oW.otherG (fun e => by have := own_blk_ge oW _ e; omega) _), hd8, hide hB8, hide ⟨hno _ _ q0, hno _ _ q1', hno _ _ q2', hnf _ _ q0 p0, hnf _ _ q1' p1, hnf _ _ q2' p2⟩, by have := hgr.size; simp; omega⟩
      case rest =>
      obtain ⟨g6, g8, d8, rfl, hC, oN8, oW8, hdd, hB8, hR8, z8⟩ := hcut
      obtain ⟨x0, x1, x2⟩ := hC.out
      clear q0 q1' q2' p0 p1 p2 c0 c1 c2 k2
      obtain ⟨q0, q1', q2', p0, p1, p2⟩ := hR8.out
      have hlo' := own_blk_ge oN8.out g6 rfl
      have hlo2 := own_blk_ge oW8.out g8 rfl
      have HlP := hide (show (putR p R x v).length = n + 1 by rw [← nodesR_len, hP.out.1]; exact HdN.out)
      go_wp2
      refine bodyPost_ret (v := jac p (some ⟨g6, 0, none⟩) (n + 1) d6 (some ⟨g8, 0, none⟩) (n + 1) d8) (by simp [results, Try.results110, go_sem, q0, q1', q2']) rfl ?_
      refine ⟨g6, d6, g8, d8, by rw [HlP.out], ⟨?_, ?_, hdd⟩, ?_⟩
      · rw [hP.out.1]
        have hr : blk (some (⟨g6, 0, none⟩ : Addr)) ≠ some (w.heap.size + 1) := fun e => by have e2 : some g6 = some (w.heap.size + 1) := e; have e3 := Option.some.inj e2; omega
        exact (((oN8.out.mono (show lo ≤ w1.heap.size by omega)).otherG hr _).otherG hr _).otherG hr _
      · rw [hP.out.2]
        have hr : blk (some (⟨g8, 0, none⟩ : Addr)) ≠ some (w.heap.size + 1) := fun e => by have e2 : some g8 = some (w.heap.size + 1) := e; have e3 := Option.some.inj e2; omega
        exact (((oW8.out.mono (show lo ≤ w1.heap.size by omega)).otherG hr _).otherG hr _).otherG hr _
      · exact (((HB.out.trans hB8.out).setCell (Nat.le_succ _) _).setCell (Nat.le_succ _) _).setCell (Nat.le_succ _) _
end Go.Proofs.Ytkpmonopjkjflaa
/- The parts of moved rules. -/
namespace Go.Proofs.Ytkpmonopjkjflaa
open Go.RowKit Go.Sort
set_option linter.unusedVariables false
set_option linter.unusedSimpArgs false

def mvK (p A B : Int) (L : List (Int × Int)) (k : Nat) : List (Int × Int) := (List.range L.length).map fun i => if i < k then ((B + A * (L.getD i (0, 0)).1) % p, (L.getD i (0, 0)).2) else L.getD i (0, 0)
theorem mvK_len (p A B : Int) (L : List (Int × Int)) (k : Nat) : (mvK p A B L k).length = L.length := by simp [mvK]
theorem mvK_at (p A B : Int) (L : List (Int × Int)) (k i : Nat) (h : i < L.length) : (mvK p A B L k).getD i (0, 0) = if i < k then ((B + A * (L.getD i (0, 0)).1) % p, (L.getD i (0, 0)).2) else L.getD i (0, 0) := by
  rw [List.getD, mvK, List.getElem?_map, List.getElem?_range h]; rfl
theorem mvK_zero (p A B : Int) (L : List (Int × Int)) : mvK p A B L 0 = L :=
  pext (mvK_len _ _ _ _ _) fun i hi => by rw [mvK_len] at hi; rw [mvK_at _ _ _ _ _ _ hi, if_neg (by omega)]
theorem mvK_step (p A B : Int) (L : List (Int × Int)) (k : Nat) (h : k < L.length) : (mvK p A B L k).set k ((B + A * (L.getD k (0, 0)).1) % p, (L.getD k (0, 0)).2) = mvK p A B L (k + 1) := by
  refine pext (by rw [List.length_set, mvK_len, mvK_len]) fun i hi => ?_
  rw [List.length_set, mvK_len] at hi
  rw [pget_set (by rw [mvK_len]; exact hi), mvK_at _ _ _ _ _ _ hi, mvK_at _ _ _ _ _ _ hi]
  by_cases e : k = i
  · subst e; rw [if_pos rfl, if_pos (by omega)]
  · rw [if_neg e]
    by_cases q : i < k
    · rw [if_pos q, if_pos (by omega)]
    · rw [if_neg q, if_neg (by omega)]
def movW (p A B : Int) (L : List (Int × Int)) : List (Int × Int) := mvK p A B L L.length
theorem zipW_len (xs ys : List Int) : (zipW xs ys).length = xs.length := zipK_len _ _ _ _
theorem zipW_at (xs ys : List Int) (i : Nat) (h : i < xs.length) : (zipW xs ys).getD i (0, 0) = (xs.getD i 0, ys.getD i 0) := by
  unfold zipW; rw [zipK_at _ _ _ _ _ h, if_pos h]
set_option maxRecDepth 100000 in
set_option maxHeartbeats 3200000 in
theorem movedParts_any (p : Int) (a : Option Addr) (n c : Nat) (xs : List Int) (b : Option Addr) (d : Nat) (ys : List Int) (A B : Int) (w : World) (hs : SL w a n c xs) (ht : SL w b n d ys) (hR : rulB p xs ys = true) (A0 : 0 ≤ A) (A1 : A < p) (B0 : 0 ≤ B) (B1 : B < p) :
    Calls Try.prog 190 #[.agg #[.int .i64 p, .slice a n c, .slice b n d, .int .i64 A, .int .i64 B]] w fun e w' => ∃ g, e = .returned (.slice (some ⟨g, 0, none⟩) n n) ∧ w.heap.size ≤ g ∧ PR w' g (movW p A B (zipW xs ys)) ∧ Below w.heap.size w w' := by
  have hl := hide hs.len
  obtain ⟨r1, r2, r3, r4, r5, r6⟩ := rulB_rng hR
  obtain ⟨hp, hp2⟩ := primeB_lo r1
  rw [hl.out] at r2
  have hb0 := bl1 w (.cells #[.int .i64 p, .slice a n c, .slice b n d, .int .i64 A, .int .i64 B] 115)
  have hZ := hide (zipW_len xs ys)
  have hZn : (zipW xs ys).length = n := by rw [hZ.out, hl.out]
  have hZa := hide (zipW_at xs ys)
  have Hx := hide r4
  obtain ⟨L, hL⟩ : ∃ L, zipW xs ys = L := ⟨_, rfl⟩
  have HL := hide hL
  rw [hL] at hZn hZ hZa ⊢
  have hm0 := hide (mvK_zero p A B L)
  clear hL hR r1 r3 r4 r5 r6
  go_enter Try.func190, Try.ntmps190
  go_wp2_with fail
  refine (weightedNodes_any p _ _ _ xs _ _ ys _ (hs.below hb0) (ht.below hb0) (by omega)).mono ?_
  rintro e w1 ⟨g, rfl, hg, hP, t1⟩
  rw [HL.out] at hP
  have hB1 := bnext hb0 t1
  have hg1 : w.heap.size < g := by simp at hg; omega
  have f0 : w1.cell? ⟨w.heap.size, 0, none⟩ = some (.int .i64 p) := cell_be t1 (by simp [go_sem])
  have f3 : w1.cell? ⟨w.heap.size, 3, none⟩ = some (.int .i64 A) := cell_be t1 (by simp [go_sem])
  have f4 : w1.cell? ⟨w.heap.size, 4, none⟩ = some (.int .i64 B) := cell_be t1 (by simp [go_sem])
  have hP0 : Hid (PR w1 g (mvK p A B L 0)) := hide (by rw [hm0.out]; exact hP)
  have hF0 := hide (And.intro f0 (And.intro f3 f4))
  have hBB := hide hB1
  clear hP t1 f0 f3 f4 hB1 hb0
  go_wp2
  go_loopw [10] (fun iv wr => ∃ k : Nat, k ≤ n ∧ iv = .int .i64 k ∧ Hid (PR wr g (mvK p A B L k)) ∧ Hid (Below w.heap.size w wr) ∧ Hid (wr.cell? ⟨w.heap.size, 0, none⟩ = some (.int .i64 p) ∧ wr.cell? ⟨w.heap.size, 3, none⟩ = some (.int .i64 A) ∧ wr.cell? ⟨w.heap.size, 4, none⟩ = some (.int .i64 B))) (fun iv _ => n - (intOf iv).toNat)
  case atStart => exact ⟨0, by omega, rfl, hP0, hBB, hF0⟩
  case round =>
    obtain ⟨k, hk, rfl, hP, hB, hF⟩ := hrel
    clear hP0 hBB hF0
    by_cases hlt : k < n
    · have hlt' : (k : Int) < (n : Int) := by omega
      have hk0 : (0 : Int) ≤ (k : Int) := by omega
      obtain ⟨f0, f3, f4⟩ := hF.out
      have st := hide (mvK_step p A B L k (by omega))
      have hlen := mvK_len p A B L k
      have c0 := hP.out.c0 k (by omega)
      have fr := hP.out.f0 k (by omega)
      have at0 := mvK_at p A B L k k (by omega)
      rw [if_neg (by omega)] at at0
      rw [at0] at c0
      have e0 := hZa.out k (by rw [hl.out]; exact hlt)
      rw [e0] at c0
      have rx := getD_rng Hx.out hp k
      have hS := fun v => hide (hP.out.setOne (show k < (mvK p A B L k).length by omega) v)
      rw [at0] at hS
      rw [e0] at hS st
      simp only at hS st c0
      obtain ⟨X, hX⟩ : ∃ X, xs.getD k 0 = X := ⟨_, rfl⟩
      rw [hX] at c0 rx st
      obtain ⟨V, hV⟩ : ∃ V, (B + A * X) % p = V := ⟨_, rfl⟩
      rw [hV] at st
      have HV := hide hV
      have hSV := hS V
      rw [st.out] at hSV
      have hbd := (Below.refl wr.heap.size wr).drew
      have hSd := hide (hSV.out.below (Below.refl _ _).drew)
      clear hS hX hV hlen at0 e0
      go_upto_region 5 with fail
      refine region_E (fun w' => w'.cell? ⟨w.heap.size, 0, none⟩ = some (.int .i64 p) ∧ w'.cell? ⟨w.heap.size, 3, none⟩ = some (.int .i64 A) ∧ w'.cell? ⟨w.heap.size, 4, none⟩ = some (.int .i64 B) ∧ w'.cell? ⟨g, k * 2, none⟩ = some (.int .i64 X)) 17 (by kernel_rfl) ⟨cell_be hbd f0, cell_be hbd f3, cell_be hbd f4, cell_be hbd c0⟩ ?_
      intro hS
      refine anyE_takeL 0 rfl (by kernel_rfl) (fun _ _ _ h => h) hS (by rfl) (v := ?_) ?_ ?_
      rotate_left
      · intro w' hSw; (try dsimp only at hSw); go_simp; (try with_reducible rfl)
      try simp only [Act.put, List.setIfInBounds_toArray, List.set_cons_zero, List.set_cons_succ]
      refine anyE_takeL 1 rfl (by kernel_rfl) (fun _ _ _ h => h) hS (by rfl) (v := ?_) ?_ ?_
      rotate_left
      · intro w' hSw; (try dsimp only at hSw); go_simp; (try with_reducible rfl)
      try simp only [Act.put, List.setIfInBounds_toArray, List.set_cons_zero, List.set_cons_succ]
      refine anyE_takeL 2 rfl (by kernel_rfl) (fun _ _ _ h => h) hS (by rfl) (v := ?_) ?_ ?_
      rotate_left
      · intro w' hSw; (try dsimp only at hSw); go_simp; (try with_reducible rfl)
      try simp only [Act.put, List.setIfInBounds_toArray, List.set_cons_zero, List.set_cons_succ]
      refine anyE_takeL 3 rfl (by kernel_rfl) (fun _ _ _ h => h) hS (by rfl) (v := ?_) ?_ ?_
      rotate_left
      · intro w' hSw; (try dsimp only at hSw); go_simp; (try with_reducible rfl)
      try simp only [Act.put, List.setIfInBounds_toArray, List.set_cons_zero, List.set_cons_succ]
      refine anyE_takeL 4 rfl (by kernel_rfl) (fun _ _ _ h => h) hS (by rfl) (v := ?_) ?_ ?_
      rotate_left
      · intro w' hSw; (try dsimp only at hSw); go_simp; (try with_reducible rfl)
      try simp only [Act.put, List.setIfInBounds_toArray, List.set_cons_zero, List.set_cons_succ]
      refine anyE_takeL 5 rfl (by kernel_rfl) (fun _ _ _ h => h) hS (by rfl) (v := ?_) ?_ ?_
      rotate_left
      · intro w' hSw; (try dsimp only at hSw); go_simp; (try with_reducible rfl)
      try simp only [Act.put, List.setIfInBounds_toArray, List.set_cons_zero, List.set_cons_succ]
      refine anyE_takeL 6 rfl (by kernel_rfl) (fun _ _ _ h => h) hS (by rfl) (v := ?_) ?_ ?_
      rotate_left
      · intro w' hSw; (try dsimp only at hSw); go_simp; (try with_reducible rfl)
      try simp only [Act.put, List.setIfInBounds_toArray, List.set_cons_zero, List.set_cons_succ]
      refine anyE_takeL 7 rfl (by kernel_rfl) (fun _ _ _ h => h) hS (by rfl) (v := ?_) ?_ ?_
      rotate_left
      · intro w' hSw; (try dsimp only at hSw); go_simp; (try with_reducible rfl)
      try simp only [Act.put, List.setIfInBounds_toArray, List.set_cons_zero, List.set_cons_succ]
      refine anyE_takeL 8 rfl (by kernel_rfl) (fun _ _ _ h => h) hS (by rfl) (v := ?_) ?_ ?_
      rotate_left
      · intro w' hSw; (try dsimp only at hSw); go_simp; (try with_reducible rfl)
      try simp only [Act.put, List.setIfInBounds_toArray, List.set_cons_zero, List.set_cons_succ]
      refine anyE_takeL 9 rfl (by kernel_rfl) (fun _ _ _ h => h) hS (by rfl) (v := ?_) ?_ ?_
      rotate_left
      · intro w' hSw; (try dsimp only at hSw); go_simp; (try with_reducible rfl)
      try simp only [Act.put, List.setIfInBounds_toArray, List.set_cons_zero, List.set_cons_succ]
      refine anyE_takeL 10 rfl (by kernel_rfl) (fun _ _ _ h => h) hS (by rfl) (v := ?_) ?_ ?_
      rotate_left
      · intro w' hSw; (try dsimp only at hSw); go_simp; (try with_reducible rfl)
      try simp only [Act.put, List.setIfInBounds_toArray, List.set_cons_zero, List.set_cons_succ]
      refine anyE_takeL 11 rfl (by kernel_rfl) (fun _ _ _ h => h) hS (by rfl) (v := ?_) ?_ ?_
      rotate_left
      · intro w' hSw; (try dsimp only at hSw); go_simp; (try with_reducible rfl)
      try simp only [Act.put, List.setIfInBounds_toArray, List.set_cons_zero, List.set_cons_succ]
      refine anyE_takeL 12 rfl (by kernel_rfl) (fun _ _ _ h => h) hS (by rfl) (v := ?_) ?_ ?_
      rotate_left
      · intro w' hSw; (try dsimp only at hSw); go_simp; (try with_reducible rfl)
      try simp only [Act.put, List.setIfInBounds_toArray, List.set_cons_zero, List.set_cons_succ]
      refine anyE_takeL 13 rfl (by kernel_rfl) (fun _ _ _ h => h) hS (by rfl) (v := ?_) ?_ ?_
      rotate_left
      · intro w' hSw; (try dsimp only at hSw); go_simp; (try with_reducible rfl)
      try simp only [Act.put, List.setIfInBounds_toArray, List.set_cons_zero, List.set_cons_succ]
      refine anyE_oneL 14 (by kernel_rfl) rfl (fun K' hK' => ?_)
      go_simp
      refine (addNumber_any p B A X _ hp hp2 B0 B1 A0 A1 rx.1 rx.2).mono ?_
      rintro e u2 ⟨rfl, rfl⟩
      rw [HV.out]
      dsimp only
      refine hK'.out _ _ hS ?_
      clear hK' K'
      try simp only [Act.put, List.setIfInBounds_toArray, List.set_cons_zero, List.set_cons_succ]
      refine anyE_oneL 15 (by kernel_rfl) rfl (fun K' hK' => ?_)
      go_simp
      refine hK'.out _ _ hS ?_
      clear hK' K'
      try simp only [Act.put, List.setIfInBounds_toArray, List.set_cons_zero, List.set_cons_succ]
      refine anyE_oneL 16 (by kernel_rfl) rfl (fun K' hK' => ?_)
      go_simp
      refine hK'.out _ _ hS ?_
      clear hK' K' hS
      try simp only [Act.put, List.setIfInBounds_toArray, List.set_cons_zero, List.set_cons_succ]
      refine anyE_lastL (by kernel_rfl) rfl (by kernel_rfl) (fun K' hK' => ?_)
      go_simp
      refine hK'.out _ _ ?_
      clear hK' K'
      try simp only [Act.put, List.setIfInBounds_toArray, List.set_cons_zero, List.set_cons_succ]
      have hBS := hide ((hB.out.setCell (p := ⟨g, k * 2, none⟩) (by simp; omega) (.int .i64 V)).drew)
      have hFS := hide (And.intro (cell_set2 f0 (show g ≠ w.heap.size by omega) (.int .i64 V) (a := ⟨g, k * 2, none⟩)) (And.intro (cell_set2 f3 (show g ≠ w.heap.size by omega) (.int .i64 V) (a := ⟨g, k * 2, none⟩)) (cell_set2 f4 (show g ≠ w.heap.size by omega) (.int .i64 V) (a := ⟨g, k * 2, none⟩))))
      clear f0 f3 f4 c0 fr hbd hB hP hF hSV
      go_wp2
      go_roundw
      case rel => exact ⟨k + 1, by omega, by go_num, hSd, hBS, hFS⟩
      case measure => simp [intOf]; omega
    · have hkn : k = n := by omega
      subst hkn
      have hge : ¬ (k : Int) < (k : Int) := by omega
      have hM : Hid (mvK p A B L k = movW p A B L) := hide (by unfold movW; rw [hZn])
      go_wp2
      go_ret
      refine ⟨_, rfl, by omega, ?_, hB.out⟩
      rw [← hM.out]
      exact hP.out
end Go.Proofs.Ytkpmonopjkjflaa
