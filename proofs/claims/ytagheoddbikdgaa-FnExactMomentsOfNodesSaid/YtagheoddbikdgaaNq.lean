/- Contracts: l02Of, MomentsOfNodes (model). -/
import Derived.Test.YtagheoddbikdgaaNp
namespace Go.Proofs.Ytagheoddbikdgaa
open Go.RowKit
set_option linter.unusedVariables false
set_option linter.unusedSimpArgs false

set_option maxRecDepth 100000 in
set_option maxHeartbeats 3200000 in
theorem l02Of_any (p : Int) (a1 : Option Addr) (n1 c1 : Nat) (xs : List Int) (a2 : Option Addr) (c2 : Nat) (ys : List Int) (n : Nat) (w : World) (h1 : SL w a1 n1 c1 xs) (h2 : SL w a2 n1 c2 ys) (b1 : n1 ≤ 1000) (hn : n ≤ 1000) (hp : 2 ≤ p) (hp2 : p ≤ 10007) (hx : areB p xs = true) (hy : areB p ys = true) :
    Calls Try.prog 92 #[.int .i64 p, .slice a1 n1 c1, .slice a2 n1 c2, .int .i64 n] w fun e w' => ∃ a' c', e = .returned (mom p a' n c') ∧ Own w.heap.size w' a' c' (mnM p xs ys n) ∧ Below w.heap.size w w' := by
  have hl1 := hide h1.len
  have hl2 := hide h2.len
  have Hx := hide hx
  have Hy := hide hy
  have hb2 := bl2 w (.cells #[.int .i64 0, .slice none 0 0] 46) (.cells #[] 2)
  have g2 := h2.below hb2
  have z2 : ((w.alloc (.cells #[.int .i64 0, .slice none 0 0] 46)).alloc (.cells #[] 2)).heap.size = w.heap.size + 2 := by simp
  have oE : Own (w.heap.size + 1) ((w.alloc (.cells #[.int .i64 0, .slice none 0 0] 46)).alloc (.cells #[] 2)) (some ⟨w.heap.size + 1, 0, none⟩) 0 [] := own_lit0'' (w.alloc (.cells #[.int .i64 0, .slice none 0 0] 46)) (w.heap.size + 1) (by simp) (w.heap.size + 1) (Nat.le_refl _)
  clear hx hy
  go_enter Try.func92, Try.ntmps92
  go_wp2_with fail
  refine (l01Own_any _ _ _ ys _ g2 (by omega)).mono ?_
  rintro e w3 ⟨pa, pc, rfl, hO, t3⟩
  have r0 : w3.cell? ⟨w.heap.size, 0, none⟩ = some (.int .i64 0) := cell_be t3 (by simp [go_sem])
  have r1 : w3.cell? ⟨w.heap.size, 1, none⟩ = some (.slice none 0 0) := cell_be t3 (by simp [go_sem])
  have y0 : w3.frozen? ⟨w.heap.size, 0, none⟩ = false := (t3.frozen (by simp <;> omega)).trans (by simp [go_sem])
  have y1 : w3.frozen? ⟨w.heap.size, 1, none⟩ = false := (t3.frozen (by simp <;> omega)).trans (by simp [go_sem])
  replace oE := oE.below t3
  have hB3 := bnext hb2 t3
  have z3 := t3.size
  rw [z2] at z3 hO
  obtain ⟨q, hq⟩ : ∃ q, q = w3.heap.size := ⟨_, rfl⟩
  have hb4 := bl1 w3 (.cells #[.int .i64 p, .slice (some ⟨w.heap.size + 1, 0, none⟩) 0 0] 46)
  obtain ⟨w4, hw4⟩ : ∃ w4, w4 = w3.alloc (.cells #[.int .i64 p, .slice (some ⟨w.heap.size + 1, 0, none⟩) 0 0] 46) := ⟨_, rfl⟩
  have q0 : w4.cell? ⟨q, 0, none⟩ = some (.int .i64 p) := by rw [hw4, hq]; simp [go_sem]
  have q1 : w4.cell? ⟨q, 1, none⟩ = some (.slice (some ⟨w.heap.size + 1, 0, none⟩) 0 0) := by rw [hw4, hq]; simp [go_sem]
  have fq : w4.frozen? ⟨q, 1, none⟩ = false := by rw [hw4, hq]; simp [go_sem]
  have z4 : w4.heap.size = q + 1 := by rw [hw4, hq]; simp
  have hpos : ∃ lo hi : Nat, (n1 = 0 ∧ lo = 0 ∧ hi = 0) ∨ (∃ pg, pa = some ⟨pg, 0, none⟩ ∧ lo = pg ∧ hi = pg + 1 ∧ w.heap.size + 2 ≤ pg ∧ pg < q) := by
    by_cases h0 : n1 = 0
    · exact ⟨0, 0, .inl ⟨h0, rfl, rfl⟩⟩
    · obtain ⟨pg, rfl, k1, k2, _⟩ := hO.blkG (by rw [hl2.out]; exact h0)
      exact ⟨pg, pg + 1, .inr ⟨pg, rfl, rfl, rfl, k1, by rw [hq]; exact k2⟩⟩
  obtain ⟨lo, hi, hlh⟩ := hpos
  have HL := hide hlh
  rw [← hw4] at hb4
  have r0' := cell_be hb4 r0
  have r1' := cell_be hb4 r1
  have y0' := (hb4.frozen (World.block_lt_of_cell? _ _ r0)).trans y0
  have y1' := (hb4.frozen (World.block_lt_of_cell? _ _ r1)).trans y1
  have oL0 : Hid (Own (w.heap.size + 1) w4 (some ⟨w.heap.size + 1, 0, none⟩) 0 (tab 0 (fun j => mnS p xs ys j n1))) := hide (oE.below hb4)
  have oP0 : Hid (0 < n1 → Own (w.heap.size + 2) w4 pa pc (tab n1 (wqH p xs ys 0 0))) := hide (fun _ => by rw [wqH_zero p xs ys n1 hl2.out]; exact hO.below hb4)
  have hq2 : w.heap.size + 2 ≤ q := by rw [hq]; exact z3
  have oN0 : Hid (∀ g, blk (some (⟨w.heap.size + 1, 0, none⟩ : Addr)) = some g → g ≠ q ∧ (g < lo ∨ hi ≤ g)) := hide (fun g hg => by
    simp [blk] at hg
    subst hg
    refine ⟨by omega, ?_⟩
    rcases hlh with ⟨_, rfl, rfl⟩ | ⟨pg, _, rfl, rfl, k1, _⟩
    · exact .inr (Nat.zero_le _)
    · exact .inl (by omega))
  have hB4 : Below w.heap.size w w4 := bnext hB3 hb4
  have g1 := h1.below hB4
  have hmn : Hid (mnM p xs ys n = tab n (fun j => mnS p xs ys j n1)) := hide (by unfold mnM; rw [hl1.out])
  clear hlh oE hO h2 g2 g1 t3 hb4 r0 r1 y0 y1
  go_upto_region 2 with fail
  rw [← hw4, ← hq]
  clear hw4 hq
  go_wp2_with fail
  go_loopw [11] (fun iv wr => ∃ (k c' : Nat) (a' : Option Addr), k ≤ n ∧ iv = .int .i64 k ∧ Hid (Own (w.heap.size + 1) wr a' c' (tab k (fun j => mnS p xs ys j n1))) ∧ Hid (∀ g, blk a' = some g → g ≠ q ∧ (g < lo ∨ hi ≤ g)) ∧ Hid (0 < n1 → Own (w.heap.size + 2) wr pa pc (tab n1 (wqH p xs ys k 0))) ∧ Hid (wr.cell? ⟨q, 0, none⟩ = some (.int .i64 p) ∧ wr.cell? ⟨q, 1, none⟩ = some (.slice a' k c')) ∧ Hid (wr.frozen? ⟨q, 1, none⟩ = false) ∧ Hid (Below (w.heap.size + 1) w4 wr)) (fun iv _ => n - (intOf iv).toNat)
  case atStart => exact ⟨0, 0, _, by omega, rfl, oL0, oN0, oP0, hide ⟨q0, q1⟩, hide fq, hide (Below.refl _ _)⟩
  case round =>
    obtain ⟨k, c', a', hk, rfl, oL, oN, oP, hqc, hqf, hW⟩ := hrel
    clear oL0 oN0 oP0 q0 q1 fq
    have zr := hW.out.size
    have hBr : Below w.heap.size w wr := hB4.trans (hW.out.mono (by omega))
    by_cases hlt : k < n
    · have hlt' : (k : Int) < (n : Int) := by omega
      go_wp2_with fail
      obtain ⟨wo, hwo⟩ : ∃ wo : World, wo = wr := ⟨_, rfl⟩
      subst hwo
      go_loopw [12, 13] (fun sv jv wq => ∃ j : Nat, j ≤ n1 ∧ jv = .int .i64 j ∧ sv = .int .i64 (mnS p xs ys k j) ∧ Hid (0 < n1 → Own (w.heap.size + 2) wq pa pc (tab n1 (wqH p xs ys k j))) ∧ Hid (Touch lo hi wo wq)) (fun _ jv _ => n1 - (intOf jv).toNat)
      case atStart => exact ⟨0, by omega, rfl, rfl, oP, hide (Touch.refl _ _ _)⟩
      case round =>
        obtain ⟨j, hj, rfl, rfl, oQ, hT⟩ := hrel
        clear oP
        by_cases hjl : j < n1
        · rcases HL.out with ⟨h0, _, _⟩ | ⟨pg, hpa, hlo, hhi, k1, k2⟩
          · omega
          subst hpa
          have hBq : Below w.heap.size w wr := below_touch hBr hT.out (by omega) (by omega)
          have sx := h1.below hBq
          have oQ' := oQ.out (by omega)
          obtain ⟨bx, ox, rfl, _, hcx⟩ := sx.at (by omega)
          have ex := hcx j hjl
          have ep := oQ'.cellG j (by rw [tab_len]; exact hjl)
          rw [tab_at _ _ _ hjl] at ep
          have hY0 := getD_rng Hy.out hp j
          have hX0 := getD_rng Hx.out hp j
          have hstS := hide (mnS_step hp xs ys k j hY0.1 hY0.2)
          have hstW := hide (wqH_step p xs ys k j n1)
          have rY := wqN_rng hp (xs.getD j 0) hY0.1 hY0.2 k
          have rS := mnS_rng hp xs ys k j
          have hwj : wqH p xs ys k j j = wqN p (xs.getD j 0) (ys.getD j 0) k := by unfold wqH; rw [if_neg (by omega)]
          rw [hwj] at ep
          obtain ⟨X, hX⟩ : ∃ X, xs.getD j 0 = X := ⟨_, rfl⟩
          rw [hX] at ex hX0 hstS hstW rY ep
          obtain ⟨Y, hY⟩ : ∃ Y, wqN p X (ys.getD j 0) k = Y := ⟨_, rfl⟩
          rw [hY] at ep rY hstS hstW
          obtain ⟨S, hS⟩ : ∃ S, mnS p xs ys k j = S := ⟨_, rfl⟩
          rw [hS] at rS hstS ⊢
          clear hcx hwj hX hY hS sx hY0
          obtain ⟨m1, m2⟩ := mulb rY.1 rY.2 hX0.1 hX0.2 hp2
          have v1 : IntKind.i64.wrap (S + Y) = S + Y := IntWalk.i64_in _ (by omega)
          have v2 : (S + Y).tmod p = (S + Y) % p := Int.tmod_eq_emod_of_nonneg (by omega)
          have v3 : IntKind.i64.wrap (Y * X) = Y * X := IntWalk.i64_in _ (by omega)
          have v4 : (Y * X).tmod p = Y * X % p := Int.tmod_eq_emod_of_nonneg (by omega)
          have r6 := modb (x := Y * X) hp
          have v5 : IntKind.i64.wrap (Y * X % p) = Y * X % p := IntWalk.i64_in _ (by omega)
          have r7 := modb (x := S + Y) hp
          have v6 : IntKind.i64.wrap ((S + Y) % p) = (S + Y) % p := IntWalk.i64_in _ (by omega)
          have vj : IntKind.i64.wrap ((j : Int) + 1) = (j : Int) + 1 := IntWalk.i64_in _ (by omega)
          have hp0 : ¬ p = 0 := by omega
          have hjl' : (j : Int) < (n1 : Int) := by omega
          have hj0 : (0 : Int) ≤ (j : Int) := by omega
          have ef := oQ'.freeG j
          have hset := oQ'.setG j (Y * X % p)
          rw [hstW.out] at hset
          have HS : Hid (0 < n1 → Own (w.heap.size + 2) (wr.setCell ⟨pg, j, none⟩ (.int .i64 (Y * X % p))).drew (some ⟨pg, 0, none⟩) pc (tab n1 (wqH p xs ys k (j + 1)))) := hide (fun _ => hset.below ((Below.refl _ _).drew))
          have hT2 : Hid (Touch lo hi wo (wr.setCell ⟨pg, j, none⟩ (.int .i64 (Y * X % p))).drew) := hide (touch_dr (hT.out.set (by simp; omega) (by simp; omega) _))
          clear hset hT oQ oQ' hlo hhi hBq
          go_wp2
          refine wp_region_still_tail 14 (by kernel_rfl) (by kernel_rfl) ?_
          simp only [List.take_succ_cons, List.take_zero, List.drop_succ_cons, List.drop_zero]
          repeat still_step
          refine wpStill_nil ?_
          clear v1 v2 v3 v4 v5 v6
          go_wp2
          go_roundw
          case rel => exact ⟨j + 1, by omega, by go_num, by rw [hstS.out], HS, hT2⟩
          case measure => simp [intOf]; omega
        · have hjn : j = n1 := by omega
          have hge : ¬ (j : Int) < (n1 : Int) := by omega
          have Hj := hide hjn
          have t := hT.out
          have zq := t.size
          have oP2 : Hid (0 < n1 → Own (w.heap.size + 2) wr pa pc (tab n1 (wqH p xs ys (k + 1) 0))) := hide (fun h0 => by
            have t := oQ.out h0
            rw [hjn, wqH_all] at t
            exact t)
          have hqd : q < lo ∨ hi ≤ q := by
            rcases HL.out with ⟨_, rfl, rfl⟩ | ⟨pg, _, rfl, rfl, k1, k2⟩
            · exact .inr (Nat.zero_le _)
            · exact .inr (by omega)
          have hrd : w.heap.size + 1 ≤ lo ∨ hi = 0 := by
            rcases HL.out with ⟨_, rfl, rfl⟩ | ⟨pg, _, rfl, rfl, k1, k2⟩
            · exact .inr rfl
            · exact .inl (by omega)
          have e0 := t.cell hqc.out.1 hqd
          have e1 := t.cell hqc.out.2 hqd
          have ef := t.frozen hqc.out.2 hqf.out hqd
          have hW2 : Below (w.heap.size + 1) w4 wr := by
            rcases hrd with h | h
            · exact below_touch hW.out t h (by omega)
            · exact below_touch0 hW.out t h (by omega)
          have oL2 := oL.out.touch t (fun g hg => (oN.out g hg).2)
          obtain ⟨S, hS⟩ : ∃ S, mnS p xs ys k j = S := ⟨_, rfl⟩
          have hst : Hid (tab (k + 1) (fun j => mnS p xs ys j n1) = tab k (fun j => mnS p xs ys j n1) ++ [S]) := hide (by rw [← tab_snoc k (fun j => mnS p xs ys j n1), ← hS, hjn])
          rw [hS]
          obtain ⟨zs, hzs⟩ : ∃ zs, tab k (fun j => mnS p xs ys j n1) = zs := ⟨_, rfl⟩
          have hzl := hide (show zs.length = k by rw [← hzs, tab_len])
          rw [hzs] at oL2 hst
          clear hjn oQ hT t hS hzs oL hqc hqf hW
          have hba : Below wr.heap.size wr (wr.alloc (.cells #[.int .i64 S] 2)) := bl1 _ _
          have hOa := hide (oL2.below hba)
          have hcl : (wr.alloc (.cells #[.int .i64 S] 2)).cell? ⟨wr.heap.size, 0, none⟩ = some (.int .i64 S) := by simp [go_sem]
          have q1a : (wr.alloc (.cells #[.int .i64 S] 2)).cell? ⟨q, 1, none⟩ = some (.slice a' k c') := cell_be hba e1
          have qfa : (wr.alloc (.cells #[.int .i64 S] 2)).frozen? ⟨q, 1, none⟩ = false := (hba.frozen (World.block_lt_of_cell? _ _ e1)).trans ef
          have q0a := cell_be hba e0
          have oPa : Hid (0 < n1 → Own (w.heap.size + 2) (wr.alloc (.cells #[.int .i64 S] 2)) pa pc (tab n1 (wqH p xs ys (k + 1) 0))) := hide (fun h0 => (oP2.out h0).below hba)
          have hz5 := hW2.size
          have vk : IntKind.i64.wrap ((k : Int) + 1) = (k : Int) + 1 := IntWalk.i64_in _ (by omega)
          clear oP2
          go_wp2_with (at_builtin; refine wp_app1 rfl _ _ rfl (w.heap.size + 1) _ _ _ zs rfl hzl.out.symm hOa.out _ _ S rfl hcl (by omega) (by simp; omega) ?_; intro ad' cap' w' hown' hgr hloc; have s1' := cell_ne hgr q1a (fun e => (oN.out q e).1 rfl); have sf' := frz_ne hgr q1a qfa (fun e => (oN.out q e).1 rfl); have s0' := cell_ne hgr q0a (fun e => (oN.out q e).1 rfl))
          obtain ⟨w6, hw6⟩ : ∃ w6, w6 = w'.setCell ⟨q, 1, none⟩ (.slice ad' (zs.length + 1) cap') := ⟨_, rfl⟩
          rw [← hw6]
          have hnew : Hid (∀ g, blk ad' = some g → g ≠ q ∧ (g < lo ∨ hi ≤ g)) := hide (fun g hg => by
            rcases hloc with h | h
            · exact oN.out g (by rw [← h]; exact hg)
            · rw [h] at hg
              simp at hg
              subst hg
              refine ⟨by omega, ?_⟩
              rcases HL.out with ⟨_, rfl, rfl⟩ | ⟨pg, _, rfl, rfl, k1, k2⟩
              · exact .inr (Nat.zero_le _)
              · exact .inr (by omega))
          have oNw : Hid (Own (w.heap.size + 1) w6 ad' cap' (tab (k + 1) (fun j => mnS p xs ys j n1))) := hide (by rw [hw6, hst.out]; exact hown'.otherG (fun e => (hnew.out q e).1 rfl) _)
          have oPw : Hid (0 < n1 → Own (w.heap.size + 2) w6 pa pc (tab n1 (wqH p xs ys (k + 1) 0))) := hide (fun h0 => by
            rw [hw6]
            rcases HL.out with ⟨hz, _, _⟩ | ⟨pg, rfl, hlo, hhi, k1, k2⟩
            · omega
            refine Own.otherG ((oPa.out h0).keep hgr (fun g hg e => ?_)) (fun e => ?_) _
            · simp [blk] at hg
              subst hg
              rcases oN.out _ e with ⟨_, h | h⟩ <;> omega
            · simp [blk] at e
              omega)
          have p0 : w6.cell? ⟨q, 0, none⟩ = some (.int .i64 p) := by rw [hw6]; exact cell_set2' s0' (by simp) _
          have p1 : w6.cell? ⟨q, 1, none⟩ = some (.slice ad' (k + 1) cap') := by rw [hw6, show k + 1 = zs.length + 1 by rw [hzl.out]]; exact World.cell?_setCell_same _ _ _ s1'
          have pf : w6.frozen? ⟨q, 1, none⟩ = false := by rw [hw6]; simpa using sf'
          have hW6 : Hid (Below (w.heap.size + 1) w4 w6) := hide (by rw [hw6]; exact ((hW2.trans (hba.mono (by omega))).grown hgr (by simp; omega) (own_blk_ge hOa.out)).setCell (by simp; omega) _)
          have hx := hnew
          clear hw6 hgr hown' hloc hOa hba hcl q1a qfa q0a s1' sf' s0' oPa hnew e0 e1 ef oN hW2
          go_wp2
          go_roundw
          case rel => exact ⟨k + 1, cap', ad', by omega, by go_num, oNw, hx, oPw, hide ⟨p0, p1⟩, hide pf, hW6⟩
          case measure => simp [intOf]; omega
    · obtain rfl : k = n := by omega
      have hge : ¬ (k : Int) < (k : Int) := by omega
      have s0 := (hW.out.cell (p := ⟨w.heap.size, 0, none⟩) (by simp)).trans r0'
      have s1 := (hW.out.cell (p := ⟨w.heap.size, 1, none⟩) (by simp)).trans r1'
      have s2 := (hW.out.frozen (p := ⟨w.heap.size, 0, none⟩) (by simp)).trans y0'
      have s3 := (hW.out.frozen (p := ⟨w.heap.size, 1, none⟩) (by simp)).trans y1'
      obtain ⟨e0, e1⟩ := hqc.out
      clear hqc r0' r1' y0' y1'
      go_wp2
      refine bodyPost_ret (v := mom p a' k c') (by simp [results, Try.results92, go_sem, s0, s1]) rfl ?_
      exact ⟨a', c', rfl, by rw [hmn.out]; exact ((oL.out.setLow (by simp) _).setLow (by simp) _).mono (by omega), (hBr.setCell (by simp) _).setCell (by simp) _⟩

end Go.Proofs.Ytagheoddbikdgaa
