/- Contracts: sums of numbers times polynomials of data (program, model). -/
import Derived.Test.YtgaafhcnfeipbaaRf
namespace Go.Proofs.Ytgaafhcnfeipbaa
open Go.RowKit
set_option linter.unusedVariables false
set_option linter.unusedSimpArgs false

/-- the sum of the first numbers times P(0), P(1), .. -/
def smL (p : Int) (xs ys f : List Int) : Nat → List Int
  | 0 => []
  | k + 1 => addM p (smL p xs ys f k) (polJ p xs ys k) (f.getD k 0)
theorem smL_small {p : Int} (hp : 2 ≤ p) (xs ys f : List Int) : ∀ k, k ≤ 24 → polyB p (smL p xs ys f k) = true ∧ (smL p xs ys f k).length ≤ k := by
  intro k
  induction k with
  | zero => intro _; exact ⟨rfl, Nat.le_refl _⟩
  | succ k ih =>
    intro hk
    obtain ⟨h1, h2⟩ := ih (by omega)
    have h3 := polJ_small hp xs ys k (by omega)
    have h4 := addM_up (p := p) (f := smL p xs ys f k) (g := polJ p xs ys k) (k := f.getD k 0)
    have h5 := h3.2
    refine ⟨addM_poly hp (by omega) (by omega) (polyB_rng h1).2.1, ?_⟩
    unfold smL
    omega
set_option maxRecDepth 100000 in
set_option maxHeartbeats 3200000 in
theorem sumBy_any (p : Int) (a : Option Addr) (n c : Nat) (xs : List Int) (b : Option Addr) (d : Nat) (ys : List Int) (f1 : Option Addr) (q1 c1 : Nat) (f : List Int) (w : World) (hs : SL w a n c xs) (ht : SL w b n d ys) (hf : SL w f1 q1 c1 f) (hn1 : 1 ≤ n) (hn : n ≤ 12) (hq : q1 ≤ n + 1) (hpr : primeB p = true) (hx : areB p xs = true) (hy : areB p ys = true) (hfa : areB p f = true) :
    Calls Try.prog 66 #[jac p a n c b n d, .slice f1 q1 c1] w fun e w' => ∃ a' c', e = .returned (.slice a' (smL p xs ys f q1).length c') ∧ OZ w.heap.size w'.heap.size w' a' (smL p xs ys f q1).length c' (smL p xs ys f q1) ∧ Below w.heap.size w w' := by
  obtain ⟨hp, hp2⟩ := primeB_lo hpr
  have hb0 := bl1 w (.cells #[.int .i64 p, .slice a n c, .slice b n d] 24)
  have e0 : (w.alloc (.cells #[.int .i64 p, .slice a n c, .slice b n d] 24)).cell? ⟨w.heap.size, 0, none⟩ = some (.int .i64 p) := by simp [go_sem]
  have e1 : (w.alloc (.cells #[.int .i64 p, .slice a n c, .slice b n d] 24)).cell? ⟨w.heap.size, 1, none⟩ = some (.slice a n c) := by simp [go_sem]
  have e2 : (w.alloc (.cells #[.int .i64 p, .slice a n c, .slice b n d] 24)).cell? ⟨w.heap.size, 2, none⟩ = some (.slice b n d) := by simp [go_sem]
  have HP := hide hpr
  have HX := hide hx
  have HY := hide hy
  have HF := hide hfa
  have z0 : (w.alloc (.cells #[.int .i64 p, .slice a n c, .slice b n d] 24)).heap.size = w.heap.size + 1 := by simp
  clear hpr hx hy hfa
  go_enter Try.func66, Try.ntmps66
  go_wp2_with fail
  refine (polysOf_any p a n c xs b d ys 0 0 w _ hs hn1 hp hp2 HX.out hb0 (Nat.zero_le _)).mono ?_
  rintro e w3 ⟨B, rfl, hBB, hR, hb3⟩
  rw [z0] at hBB
  have E0 := hide (cell_be hb3 e0)
  have R0 := hide (hR.polys (ys := ys) hp hn1)
  have K0 : Hid (Kept w.heap.size B 0 0 w3 none 0 ([] : List Int)) := hide ⟨w.heap.size, w.heap.size, Nat.le_refl _, hR.hb.size, .inl (by omega), .inr (Nat.zero_le _), OZ.nilZ _ _ _ _ _ (fun _ => rfl)⟩
  clear e0 e1 e2 hR hb3 hb0 z0
  go_wp2
  go_loopw [5, 13] (fun sv iv wr => ∃ (t : Nat) (a' : Option Addr) (c' : Nat), t ≤ q1 ∧ iv = .int .i64 t ∧ sv = .slice a' (smL p xs ys f t).length c' ∧ Hid (Kept w.heap.size B 0 0 wr a' c' (smL p xs ys f t)) ∧ Hid (RInv 0 0 B w wr p a n c b d t (gP p xs ys n t) (gP p xs ys n (t + 1))) ∧ Hid (wr.cell? ⟨w.heap.size, 0, none⟩ = some (.int .i64 p))) (fun _ iv _ => q1 - (intOf iv).toNat)
  case atStart => exact ⟨0, none, 0, by omega, rfl, rfl, K0, R0, E0⟩
  case round =>
    obtain ⟨t, a', c', htq, rfl, rfl, hK, hR, hF⟩ := hrel
    clear K0 R0 E0
    by_cases hlt : t < q1
    · have hlt' : (t : Int) < (q1 : Int) := by omega
      obtain ⟨b', o', rfl, _, hc⟩ := (hf.below hR.out.hb).at (by omega)
      have ec := hc t hlt
      have rf := getD_rng HF.out hp t
      obtain ⟨y, hyy⟩ : ∃ y, f.getD t 0 = y := ⟨_, rfl⟩
      rw [hyy] at ec rf
      have Hst := hide (show smL p xs ys f (t + 1) = addM p (smL p xs ys f t) (polJ p xs ys t) y by rw [← hyy]; rfl)
      have lS := (smL_small hp xs ys f t (by omega))
      have lG := gP_small hp xs ys n t hn
      have l2 := lS.2
      have l3 := lG.2
      have HS := hide (polyB_rng lS.1).2.1
      have T0 : Touch B (B + 4) wr wr.drew := Touch.ofBelow (Below.refl _ _).drew
      have F : ∀ w', Touch B (B + 4) wr w' → w'.cell? ⟨w.heap.size, 0, none⟩ = some (.int .i64 p) := fun w' h => h.cell hF.out (.inl (by show w.heap.size < B; omega))
      have K1 := hK.out.below (Below.refl wr.heap.size wr).drew
      have R1 := hR.out.below (Below.refl wr.heap.size wr).drew
      clear hyy hc lS
      go_upto_region 6 with fail
      go_region_held3 (fun w' => w'.cell? ⟨w.heap.size, 0, none⟩ = some (.int .i64 p))
        (exact F _ (by assumption))
        (first
        | (go_at_call 113; refine (next_any p a n c xs b d ys t 24 (gP p xs ys n t) (gP p xs ys n (t + 1)) 0 0 B w _ hs ht HP.out HX.out HY.out (by omega) (by omega) lG (gP_small hp xs ys n _ hn) (Nat.le_refl _) R1 (.inr (Nat.zero_le _))).mono ?_; rintro e w4 ⟨ac, cc, rfl, hk4, hR4, T4⟩; have T1 := T0.trans T4; have K4 := K1.touch T4)
        | (go_at_call 98; refine (addMultiple_any p y _ _ _ (smL p xs ys f t) _ _ _ (gP p xs ys n t) _ K4.sl hk4.sl (by omega) (by omega) hp hp2 (by omega) (by omega) HS.out lG.are).mono ?_; rintro e w5 ⟨a5, c5, rfl, ho5, t5⟩; have T5 := T1.trans (Touch.ofBelow t5)))
      rw [gP_le (by omega)] at ho5 ⊢
      rw [← gP_step] at hR4
      have K5 : Hid (Kept w.heap.size B 0 0 w5 a5 c5 (smL p xs ys f (t + 1))) := hide (by
        rw [Hst.out]
        have := hR4.hb.size
        have := hR4.sz
        exact ⟨w4.heap.size, w5.heap.size, by omega, Nat.le_refl _, .inr (by omega), .inr (Nat.zero_le _), OZ.of ho5 rfl⟩)
      have R5 := hide (hR4.below t5)
      have E5 := hide (F _ T5)
      clear hR4 hk4 K4 K1 R1 hR hK hF F T0 T1 T4 T5 t5
      rw [← Hst.out]
      go_wp2
      go_roundw
      case rel => exact ⟨t + 1, a5, c5, by omega, by go_num, rfl, K5, R5, E5⟩
      case measure => simp [intOf]; omega
    · have htm2 : Hid (t = q1) := hide (by omega)
      have hge : ¬ (t : Int) < (q1 : Int) := by omega
      go_wp2
      refine bodyPost_ret (v := .slice a' (smL p xs ys f t).length c') (by simp [results, Try.results66, go_sem]) rfl ?_
      exact ⟨a', c', by rw [htm2.out], by rw [← htm2.out]; exact hK.out.res, hR.out.hb⟩
set_option maxRecDepth 100000 in
set_option maxHeartbeats 3200000 in
theorem l10Sum_any (p : Int) (a : Option Addr) (n c : Nat) (xs : List Int) (b : Option Addr) (d : Nat) (ys : List Int) (f1 : Option Addr) (q1 c1 : Nat) (f : List Int) (w : World) (hs : SL w a n c xs) (ht : SL w b n d ys) (hf : SL w f1 q1 c1 f) (hq : q1 ≤ n + 1) (hj : jacB p xs ys = true) (hfa : areB p f = true) :
    Calls Try.prog 65 #[jac p a n c b n d, .slice f1 q1 c1] w fun e w' => ∃ a' c', e = .returned (.slice a' (smL p xs ys f q1).length c') ∧ Own w.heap.size w' a' c' (smL p xs ys f q1) ∧ Below w.heap.size w w' := by
  obtain ⟨hpr, n1, n2, n3, hx, hy⟩ := jacB_rng hj
  obtain ⟨hp, hp2⟩ := primeB_lo hpr
  have hl := hs.len
  rw [hl] at n1 n2
  have hb0 := bl2 w (.cells #[.int .i64 p, .slice a n c, .slice b n d] 24) (.cells #[] 2)
  have E0 := hide (show ((w.alloc (.cells #[.int .i64 p, .slice a n c, .slice b n d] 24)).alloc (.cells #[] 2)).cell? ⟨w.heap.size, 0, none⟩ = some (.int .i64 p) ∧ ((w.alloc (.cells #[.int .i64 p, .slice a n c, .slice b n d] 24)).alloc (.cells #[] 2)).cell? ⟨w.heap.size, 1, none⟩ = some (.slice a n c) ∧ ((w.alloc (.cells #[.int .i64 p, .slice a n c, .slice b n d] 24)).alloc (.cells #[] 2)).cell? ⟨w.heap.size, 2, none⟩ = some (.slice b n d) by refine ⟨?_, ?_, ?_⟩ <;> simp [go_sem])
  have Z0 : Hid (Own (w.heap.size + 1) ((w.alloc (.cells #[.int .i64 p, .slice a n c, .slice b n d] 24)).alloc (.cells #[] 2)) (some ⟨w.heap.size + 1, 0, none⟩) 0 (smL p xs ys f 0)) := hide (by
    have t := World.ownsRow_lit (w.alloc (.cells #[.int .i64 p, .slice a n c, .slice b n d] 24)) (base := w.heap.size + 1) (e := 2) (size := 1) #[] 0 (by simp) (by simp) rfl
    rw [show (w.alloc (.cells #[.int .i64 p, .slice a n c, .slice b n d] 24)).heap.size = w.heap.size + 1 by simp] at t
    exact t)
  have HB := hide hb0
  have HJ := hide hj
  have HF := hide hfa
  have zl : (smL p xs ys f 0).length = 0 := rfl
  clear hb0 hj hfa hx hy hpr n3
  go_enter Try.func65, Try.ntmps65
  go_wp2
  generalize ((w.alloc (.cells #[.int .i64 p, .slice a n c, .slice b n d] 24)).alloc (.cells #[] 2)) = wx at *
  go_loopw [5, 6] (fun sv iv wr => ∃ (t : Nat) (a' : Option Addr) (c' : Nat), t ≤ q1 ∧ iv = .int .i64 t ∧ sv = .slice a' (smL p xs ys f t).length c' ∧ Hid (Own (w.heap.size + 1) wr a' c' (smL p xs ys f t)) ∧ Hid (Below w.heap.size w wr) ∧ Hid (wr.cell? ⟨w.heap.size, 0, none⟩ = some (.int .i64 p) ∧ wr.cell? ⟨w.heap.size, 1, none⟩ = some (.slice a n c) ∧ wr.cell? ⟨w.heap.size, 2, none⟩ = some (.slice b n d))) (fun _ iv _ => q1 - (intOf iv).toNat)
  case atStart => exact ⟨0, _, _, by omega, rfl, rfl, Z0, HB, E0⟩
  case round =>
    obtain ⟨t, a', c', htq, rfl, rfl, hO, hW, hF⟩ := hrel
    clear Z0 HB E0
    by_cases hlt : t < q1
    · have hlt' : (t : Int) < (q1 : Int) := by omega
      obtain ⟨f0, e1, e2⟩ := hF.out
      obtain ⟨b', o', rfl, _, hc⟩ := (hf.below hW.out).at (by omega)
      have ec := hc t hlt
      have rf := getD_rng HF.out hp t
      obtain ⟨y, hyy⟩ : ∃ y, f.getD t 0 = y := ⟨_, rfl⟩
      rw [hyy] at ec rf
      have Hst := hide (show smL p xs ys f (t + 1) = addM p (smL p xs ys f t) (polJ p xs ys t) y by rw [← hyy]; rfl)
      have lS := (smL_small hp xs ys f t (by omega))
      have lG := polJ_small hp xs ys t (by omega)
      have l2 := lS.2
      have l3 := lG.2
      have HS := hide (polyB_rng lS.1).2.1
      have hbd := (Below.refl wr.heap.size wr).drew
      have zw := hW.out.size
      have s1 := hs.below hW.out
      have s2 := ht.below hW.out
      have F : ∀ w', Below wr.heap.size wr w' → w'.cell? ⟨w.heap.size, 0, none⟩ = some (.int .i64 p) ∧ w'.cell? ⟨w.heap.size, 1, none⟩ = some (.slice a n c) ∧ w'.cell? ⟨w.heap.size, 2, none⟩ = some (.slice b n d) ∧ w'.cell? ⟨b', o' + t, none⟩ = some (.int .i64 y) := fun w' h => ⟨cell_be h f0, cell_be h e1, cell_be h e2, cell_be h ec⟩
      clear hyy hc lS
      go_upto_region 5 with fail
      go_region_held3 (fun w' => w'.cell? ⟨w.heap.size, 0, none⟩ = some (.int .i64 p) ∧ w'.cell? ⟨w.heap.size, 1, none⟩ = some (.slice a n c) ∧ w'.cell? ⟨w.heap.size, 2, none⟩ = some (.slice b n d) ∧ w'.cell? ⟨b', o' + t, none⟩ = some (.int .i64 y))
        (exact F _ (by assumption))
        (first
        | (go_at_call 72; refine (l03Poly_any p a n c xs b n d ys t _ (s1.below hbd) (s2.below hbd) HJ.out (by omega)).mono ?_; rintro e w4 ⟨ac, cc, rfl, ho4, t4⟩; have hm4 := bnext hbd t4)
        | (go_at_call 94; refine (l01Add_any p y _ _ _ (smL p xs ys f t) _ _ _ (polJ p xs ys t) _ (hO.out.sl.below hm4) ho4.sl (by omega) (by omega) hp hp2 (by omega) (by omega) HS.out lG.are).mono ?_; rintro e w5 ⟨a5, c5, rfl, ho5, t5⟩; have hm5 := bnext hm4 t5))
      have O5 : Hid (Own (w.heap.size + 1) w5 a5 c5 (smL p xs ys f (t + 1))) := hide (by
        rw [Hst.out]
        have := hm4.size
        have q : w.heap.size < wr.heap.size := World.block_lt_of_cell? _ _ f0
        exact ho5.mono (by omega))
      have W5 := hide (hW.out.trans (hm5.mono zw))
      have E5 := hide (show w5.cell? ⟨w.heap.size, 0, none⟩ = some (.int .i64 p) ∧ w5.cell? ⟨w.heap.size, 1, none⟩ = some (.slice a n c) ∧ w5.cell? ⟨w.heap.size, 2, none⟩ = some (.slice b n d) from ⟨(F _ hm5).1, (F _ hm5).2.1, (F _ hm5).2.2.1⟩)
      clear hO hF hW F hm4 hm5 ho5 ho4 t4 t5 s1 s2 hbd f0 e1 e2 ec
      rw [← Hst.out]
      go_wp2
      go_roundw
      case rel => exact ⟨t + 1, a5, c5, by omega, by go_num, rfl, O5, W5, E5⟩
      case measure => simp [intOf]; omega
    · have htm2 : Hid (t = q1) := hide (by omega)
      have hge : ¬ (t : Int) < (q1 : Int) := by omega
      go_wp2
      refine bodyPost_ret (v := .slice a' (smL p xs ys f t).length c') (by simp [results, Try.results65, go_sem]) rfl ?_
      exact ⟨a', c', by rw [htm2.out], by rw [← htm2.out]; exact hO.out.mono (by omega), hW.out⟩
end Go.Proofs.Ytgaafhcnfeipbaa
