/- Merged texts. -/
import Derived.Test.YtdjifjlgllohmaaDoorYDS31
import Derived.Test.YtdjifjlgllohmaaDoorYDS25
/- Contracts: l02Hankel, l02Order (model). -/
namespace Go.Proofs.YtdjifjlgllohmaaDoor
open Go.RowKit
set_option linter.unusedVariables false
set_option linter.unusedSimpArgs false

theorem SL.grown {w w' : World} {row : Option Nat} {a : Option Addr} {n c : Nat} {xs : List Int} (h : SL w a n c xs) (hg : w.grownBy w' row) (hne : ∀ b, blk a = some b → row ≠ some b) : SL w' a n c xs := by
  obtain ⟨h1, h2, h3⟩ := h
  refine ⟨h1, h2, ?_⟩
  rcases h3 with h3 | ⟨b, off, rfl, hc⟩
  · exact .inl h3
  · exact .inr ⟨b, off, rfl, fun i hi => cell_ne hg (hc i hi) (hne b rfl)⟩
theorem OwnV.blkLt {B : Nat} {w : World} {a : Option Addr} {c : Nat} {ys : List Value} (h : OwnV B w a c ys) : ∀ g, blk a = some g → g < w.heap.size := fun g hg => by
  rcases h.2 with ⟨h1, _⟩ | ⟨g', c', cur, h1, _, h3, _⟩
  · simp only [Value.slice.injEq] at h1
    rw [h1.1] at hg; cases hg
  · simp only [Value.slice.injEq] at h1
    rw [h1.1] at hg; cases hg; exact lt_of_block h3
/-- Rows that have been collected: slices of n numbers each, in blocks other than that of the rows. -/
def Coll (w : World) (r : Option Addr) (n : Nat) (vs : List Value) (X : Nat → List Int) (i : Nat) : Prop :=
  ∀ j, j < i → ∃ a c, vs[j]? = some (.slice a n c) ∧ SL w a n c (X j) ∧ (∀ b, blk a = some b → blk r ≠ some b ∧ b < w.heap.size)
set_option maxRecDepth 100000 in
set_option maxHeartbeats 800000 in
theorem l02Det_zero (p : Int) (a : Option Addr) (c : Nat) (w : World) :
    Calls Tryd.prog 109 #[.int .i64 p, .slice a 0 c] w fun e w' => e = .returned (.int .i64 1) ∧ w = w' := by
  go_enter Tryd.func109, Tryd.ntmps109
  go_wp2
  refine wp_loop_rounds 1 ?_
  rw [rounds_succ]
  go_wp2
  go_ret
  exact ⟨rfl, rfl⟩
set_option maxRecDepth 100000 in
set_option maxHeartbeats 1600000 in
theorem l02Hankel_any (p : Int) (a : Option Addr) (N c : Nat) (xs : List Int) (k : Nat) (kk : Int) (w : World) (hs : SL w a N c xs) (hkk : kk = k) (hN : 1 ≤ N) (hN2 : N ≤ 1000) (hk : 2 * k ≤ N + 1) (hp : 2 ≤ p) (hp2 : p ≤ 10007) (hx : areB p xs = true) :
    Calls Tryd.prog 92 #[mom p a N c, .int .i64 kk] w fun e w' => e = .returned (.int .i64 (hkM p xs k)) ∧ Below w.heap.size w w' := by
  subst hkk
  have hl := hide hs.len
  have hb0 := bl2 w (.cells #[.int .i64 p, .slice a N c] 30) (.cells #[] 22)
  have g1 := hs.below hb0
  by_cases h0 : k = 0
  · subst h0
    have hr := hide (hkM_zero p xs)
    clear hs hx
    go_enter Tryd.func92, Tryd.ntmps92
    go_wp2
    refine wp_loop_rounds 1 ?_
    rw [rounds_succ]
    go_wp2_with fail
    refine (l02Det_zero p _ _ _).mono ?_
    rintro e w1 ⟨rfl, rfl⟩
    go_wp2
    go_ret
    exact ⟨ret_int hr.out.symm, hb0⟩
  have hk1 : 1 ≤ k := by omega
  obtain ⟨w2, hw2⟩ : ∃ w2, w2 = (w.alloc (.cells #[.int .i64 p, .slice a N c] 30)).alloc (.cells #[] 22) := ⟨_, rfl⟩
  have f0 : w2.cell? ⟨w.heap.size, 0, none⟩ = some (.int .i64 p) := by rw [hw2]; simp [go_sem]
  have f1 : w2.cell? ⟨w.heap.size, 1, none⟩ = some (.slice a N c) := by rw [hw2]; simp [go_sem]
  have z2 : w2.heap.size = w.heap.size + 2 := by rw [hw2]; simp
  have hO0 : Hid (OwnV (w.heap.size + 1) w2 (some ⟨w.heap.size + 1, 0, none⟩) 0 []) := hide (by
    rw [hw2]
    have t := World.ownsRow_lit (w.alloc (.cells #[.int .i64 p, .slice a N c] 30)) (base := w.heap.size + 1) (e := 22) (size := 1) #[] 0 (by simp) (by simp) rfl
    simp at t
    exact t)
  have hC0 : Hid (Coll w2 (some ⟨w.heap.size + 1, 0, none⟩) k [] (winR xs k) 0) := hide (fun j hj => by omega)
  rw [← hw2] at hb0 g1
  have Hw := hide (fun i => areB_winR (p := p) hx hp k i)
  have hcN := g1.le
  clear hx g1
  go_enter Tryd.func92, Tryd.ntmps92
  go_upto_region 2 with fail
  rw [← hw2]
  clear hw2
  go_wp2_with fail
  go_loopw [5, 6] (fun rv iv wr => ∃ (i : Nat) (a' : Option Addr) (c' : Nat) (vs : List Value), i ≤ k ∧ iv = .int .i64 i ∧ rv = .slice a' i c' ∧ Hid (vs.length = i) ∧ Hid (OwnV (w.heap.size + 1) wr a' c' vs) ∧ Hid (Coll wr a' k vs (winR xs k) i) ∧ Hid (Below (w.heap.size + 1) w2 wr)) (fun _ iv _ => k - (intOf iv).toNat)
  case atStart => exact ⟨0, _, 0, [], by omega, rfl, rfl, rfl, hO0, hC0, hide (Below.refl _ _)⟩
  case round =>
    obtain ⟨i, a', c', vs, hi, rfl, rfl, hvl, hO, hC, hW⟩ := hrel
    clear hO0 hC0
    have zr := hW.out.size
    have hBr : Below w.heap.size w wr := hb0.trans (hW.out.mono (by omega))
    have e0 := (hW.out.cell (p := ⟨w.heap.size, 0, none⟩) (by simp)).trans f0
    have e1 := (hW.out.cell (p := ⟨w.heap.size, 1, none⟩) (by simp)).trans f1
    by_cases hlt : i < k
    · have hlt' : (i : Int) < (k : Int) := by omega
      have vik : IntKind.i64.wrap ((i : Int) + k) = (i : Int) + k := IntWalk.i64_in _ (by omega)
      have vi : IntKind.i64.wrap ((i : Int) + 1) = (i : Int) + 1 := IntWalk.i64_in _ (by omega)
      have g2 := hs.below hBr
      obtain ⟨b, off, rfl, _, _⟩ := g2.at (by omega)
      have s1 : SL wr (some ⟨b, off + i, none⟩) k (c - i) (winR xs k i) := by
        have t := SL.part g2 i (i + k) (by omega) (by omega)
        rw [Nat.add_sub_cancel_left] at t
        have e : (xs.take (i + k)).drop i = winR xs k i := by unfold winR; rw [List.drop_take, Nat.add_sub_cancel_left]
        rwa [e] at t
      have q1 : (i : Int) ≤ (i : Int) + (k : Int) := by omega
      have q2 : (i : Int) + (k : Int) ≤ (c : Int) := by omega
      have q3 : (0 : Int) ≤ (i : Int) := by omega
      have q4 : ((i : Int) + (k : Int)).toNat = i + k := by omega
      have q5 : i + k - i = k := by omega
      have q6 : ¬ i = c := by omega
      go_wp2_with fail
      refine (l01Own_any _ _ _ (winR xs k i) _ s1 (by omega)).mono ?_
      rintro e w3 ⟨a3, c3, rfl, ho3, t3⟩
      clear q1 q2 q3 q4 q5 q6 vik
      have hba := bl1 w3 (.cells #[.slice a3 k c3] 22)
      have hOa := hide ((hO.out.below t3).below hba)
      have hcl : (w3.alloc (.cells #[.slice a3 k c3] 22)).cell? ⟨w3.heap.size, 0, none⟩ = some (.slice a3 k c3) := by simp [go_sem]
      have z3 := t3.size
      have hblt := hide (OwnV.blkLt hO.out)
      have Ho3 := hide ho3
      clear ho3 s1 g2 e0 e1
      go_wp2_with (at_builtin; with_reducible refine wp_appV rfl _ _ rfl (w.heap.size + 1) _ _ _ vs rfl hvl.out.symm hOa.out _ _ _ rfl hcl rfl (by omega) (by simp; omega) ?_; intro ad' cap' w' hown' hgr hloc)
      have hvl2 := hide (show (vs ++ [Value.slice a3 k c3]).length = i + 1 by rw [List.length_append, hvl.out]; rfl)
      have hW2 : Hid (Below (w.heap.size + 1) w2 w') := hide (((hW.out.trans (t3.mono (by omega))).trans (hba.mono (by omega))).grown hgr (by simp; omega) (OwnV.blkG hOa.out))
      have hsz : w3.heap.size + 1 ≤ w'.heap.size := by have := hgr.size; simpa using this
      have hC2 : Hid (Coll w' ad' k (vs ++ [Value.slice a3 k c3]) (winR xs k) (i + 1)) := hide (fun j hj => by
        by_cases e : j = i
        · subst e
          refine ⟨a3, c3, by rw [List.getElem?_append_right (by rw [hvl.out]; exact Nat.le_refl _), hvl.out]; simp, ?_, fun b' hb' => ?_⟩
          · have t := Ho3.out.sl
            rw [show (winR xs k j).length = k by unfold winR; simp; have := hl.out; omega] at t
            refine (t.below hba).grown hgr (fun b' hb' hr => ?_)
            have h1 := own_blk_ge Ho3.out b' hb'
            have h2 := hblt.out b' hr
            omega
          · have h1 := own_blk_ge Ho3.out b' hb'
            have h3 : b' < w3.heap.size := by
              rcases Ho3.out.shape with ⟨rfl, _, _⟩ | ⟨g', cur, rfl, _, hg', _⟩
              · cases hb'
              · simp [blk] at hb'; subst hb'; exact lt_of_block hg'
            refine ⟨fun hr => ?_, by omega⟩
            rcases hloc with h | h
            · rw [h] at hr
              have h2 := hblt.out b' hr
              omega
            · rw [h] at hr
              simp at hr
              omega
        · obtain ⟨a0, c0, h1, h2, h3⟩ := hC.out j (by omega)
          refine ⟨a0, c0, by rw [List.getElem?_append_left (by rw [hvl.out]; omega)]; exact h1, ((h2.below t3).below hba).grown hgr (fun b' hb' => (h3 b' hb').1), fun b' hb' => ⟨fun hr => ?_, by have := (h3 b' hb').2; omega⟩⟩
          rcases hloc with h | h
          · rw [h] at hr
            exact (h3 b' hb').1 hr
          · rw [h] at hr
            simp at hr
            have := (h3 b' hb').2
            omega)
      have hN' := hide hown'
      clear hown' hgr hloc hOa hcl hba hO hC hW t3 Ho3
      go_wp2
      go_roundw
      case rel => exact ⟨i + 1, ad', cap', _, by omega, by go_num, by rw [hvl.out], hvl2, hN', hC2, hW2⟩
      case measure => simp [intOf]; omega
    · have hik : i = k := by omega
      have hge : ¬ (i : Int) < (k : Int) := by omega
      obtain ⟨g, rfl, _⟩ := OwnV.at hO.out (by rw [hvl.out]; omega)
      have hR : RowsX (w.heap.size + 1) g k c' wr vs (winR xs k) k := ⟨hO.out, by rw [hvl.out, hik], by have := OwnV.le hO.out (by rw [hvl.out]; omega); rw [hvl.out] at this; omega, fun j hj => by
        obtain ⟨a0, c0, h1, h2, h3⟩ := hC.out j (by omega)
        exact ⟨a0, c0, h1, h2, fun e => (h3 g e).1 rfl⟩⟩
      have HR := hide hR
      have hg := hR.own.lt (by rw [hR.len]; omega)
      have Hik := hide hik
      clear hR hO hC hvl hik
      go_wp2_with fail
      rw [Hik.out]
      refine (l02Det_any p (w.heap.size + 1) g k c' vs (winR xs k) _ HR.out hk1 (by omega) hp hp2 (fun i _ => Hw.out i)).mono ?_
      rintro e w9 ⟨rfl, t9⟩
      go_wp2
      go_ret
      exact ⟨rfl, below_touch hBr t9 (by omega) (by omega)⟩
end Go.Proofs.YtdjifjlgllohmaaDoor
/- Contracts: HankelDeterminant, l02Order, OrderOf (model). -/
namespace Go.Proofs.YtdjifjlgllohmaaDoor
open Go.RowKit
set_option linter.unusedVariables false
set_option linter.unusedSimpArgs false

set_option maxRecDepth 100000 in
set_option maxHeartbeats 1600000 in
theorem l02Order_any (p : Int) (a : Option Addr) (n c : Nat) (xs : List Int) (w : World) (hs : SL w a n c xs) (hm : momB p xs = true) :
    Calls Tryd.prog 56 #[mom p a n c] w fun e w' => e = .returned (.int .i64 (ordM p xs : Nat)) ∧ Below w.heap.size w w' := by
  have hl := hide hs.len
  have hb0 := bl1 w (.cells #[.int .i64 p, .slice a n c] 30)
  replace hs := hs.below hb0
  obtain ⟨hpr, m1, m2, hx⟩ := momB_rng hm
  obtain ⟨hp, hp2⟩ := primeB_lo hpr
  rw [hl.out] at m1 m2
  have Hx := hide hx
  obtain ⟨G, hG⟩ : ∃ G, (n + 1) / 2 = G := ⟨_, rfl⟩
  have v1 : IntKind.i64.wrap ((n : Int) + 1) = (n : Int) + 1 := IntWalk.i64_in _ (by omega)
  have v2 : ((n : Int) + 1) / 2 = (G : Int) := by omega
  have HO := hide (show ordM p xs = ordF p xs G G 0 by unfold ordM; rw [hl.out, hG])
  have hG2 : 2 * G ≤ n + 1 := by omega
  clear hm hG hx hpr
  obtain ⟨w1, hw1⟩ : ∃ w1, w1 = w.alloc (.cells #[.int .i64 p, .slice a n c] 30) := ⟨_, rfl⟩
  have f0 : w1.cell? ⟨w.heap.size, 0, none⟩ = some (.int .i64 p) := by rw [hw1]; simp [go_sem]
  have f1 : w1.cell? ⟨w.heap.size, 1, none⟩ = some (.slice a n c) := by rw [hw1]; simp [go_sem]
  rw [← hw1] at hs hb0
  have hR0 : Hid (ordF p xs G G 0 = ordF p xs G (G - 0) 0) := hide rfl
  have hbz := Below.refl w1.heap.size w1
  go_enter Tryd.func56, Tryd.ntmps56
  go_upto_region 1 with fail
  rw [← hw1]
  clear hw1
  go_wp2_with fail
  go_loopw [3] (fun iv wr => ∃ i : Nat, i ≤ G ∧ iv = .int .i64 i ∧ Hid (ordF p xs G G 0 = ordF p xs G (G - i) i) ∧ Below w1.heap.size w1 wr) (fun iv _ => G - (intOf iv).toNat)
  case atStart => exact ⟨0, by omega, rfl, hR0, hbz⟩
  case round =>
    obtain ⟨i, hi, rfl, hR, hbr⟩ := hrel
    clear hR0 hbz
    have s1 := hs.below hbr
    have g0 := cell_be hbr f0
    have g1 := cell_be hbr f1
    have hB := hb0.trans (hbr.mono hb0.size)
    have vi : IntKind.i64.wrap ((i : Int) + 1) = (i : Int) + 1 := IntWalk.i64_in _ (by omega)
    by_cases hlt : i < G
    · have hlt' : (i : Int) < (G : Int) := by omega
      obtain ⟨X, hX⟩ : ∃ X, hkM p xs (i + 1) = X := ⟨_, rfl⟩
      have HX := hide hX
      clear hX
      by_cases hz : X = 0
      · subst hz
        have hF : Hid (ordF p xs G G 0 = i) := hide (by rw [hR.out]; exact ordF_stop (by omega) HX.out)
        go_wp2_with fail
        refine (l02Hankel_any p _ _ _ xs (i + 1) _ _ s1 (by simp) m1 (by omega) (by omega) hp hp2 Hx.out).mono ?_
        rintro e wb ⟨rfl, tb⟩
        rw [HX.out]
        have hBn := hB.trans (tb.mono hB.size)
        go_wp2
        go_ret
        exact ⟨ret_int (by rw [HO.out, hF.out]), hBn⟩
      · have ob : (X != 0) = true := by simpa using hz
        have hF : Hid (ordF p xs G G 0 = ordF p xs G (G - (i + 1)) (i + 1)) := hide (by rw [hR.out, ordF_go (by omega) hlt (by rw [HX.out]; exact hz)]; rfl)
        clear hz
        go_wp2_with fail
        refine (l02Hankel_any p _ _ _ xs (i + 1) _ _ s1 (by simp) m1 (by omega) (by omega) hp hp2 Hx.out).mono ?_
        rintro e wb ⟨rfl, tb⟩
        rw [HX.out]
        have hbn := hbr.trans (tb.mono hbr.size)
        go_wp2
        go_roundw
        case rel => exact ⟨i + 1, by omega, by go_num, hF, hbn⟩
        case measure => simp [intOf]; omega
    · have hge : ¬ (i : Int) < (G : Int) := by omega
      have hF : Hid (ordF p xs G G 0 = i) := hide (by rw [hR.out]; exact ordF_out hlt)
      go_wp2
      go_ret
      exact ⟨ret_int (by rw [HO.out, hF.out]), hB⟩
end Go.Proofs.YtdjifjlgllohmaaDoor
