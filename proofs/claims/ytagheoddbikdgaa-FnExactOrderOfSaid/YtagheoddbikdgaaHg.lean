/- Contracts: hankel, greatestHankel, HankelDeterminant, OrderOf (program). -/
import Derived.Test.YtagheoddbikdgaaHf
namespace Go.Proofs.Ytagheoddbikdgaa
open Go.RowKit
set_option linter.unusedVariables false
set_option linter.unusedSimpArgs false

def winR (xs : List Int) (k : Nat) : Nat → List Int := fun i => (xs.drop i).take k
/-- The Hankel determinant of k rows. -/
def hkM (p : Int) (xs : List Int) (k : Nat) : Int := detM p k (winR xs k)
theorem hkM_zero (p : Int) (xs : List Int) : hkM p xs 0 = 1 := rfl
theorem areB_winR {p : Int} {xs : List Int} (h : areB p xs = true) (hp : 2 ≤ p) (k i : Nat) : areB p (winR xs k i) = true := areB_mk fun j hj => by
  unfold winR at hj ⊢
  have e : ((xs.drop i).take k).getD j 0 = xs.getD (i + j) 0 := by
    simp at hj
    have hij : i + j < xs.length := by omega
    simp [List.getElem?_take, hj, hij]
  rw [e]
  exact getD_rng h hp _
theorem hkM_rng {p : Int} (hp : 2 ≤ p) (xs : List Int) (k : Nat) : 0 ≤ hkM p xs k ∧ hkM p xs k < p := detL_rng hp _ _ _ _ (by omega) (by omega)
theorem OwnV.le {B c : Nat} {a : Option Addr} {w : World} {vs : List Value} (h : OwnV B w a c vs) (h0 : vs.length ≠ 0) : vs.length ≤ c := by
  rcases h.2 with ⟨_, h2⟩ | ⟨g', c', cur, h1, h2, h3, h4, _⟩
  · exact absurd h2 h0
  · simp only [Value.slice.injEq] at h1
    omega
set_option maxRecDepth 100000 in
set_option maxHeartbeats 1600000 in
theorem windows_cap (b off N c n : Nat) (xs : List Int) (w : World) (h1 : SL w (some ⟨b, off, none⟩) N c xs) (hn : 1 ≤ n) (hnN : n ≤ N) (hN : N ≤ 1000) :
    Calls Try.prog 124 #[.slice (some ⟨b, off, none⟩) N c, .int .i64 n] w fun e w' => ∃ g cap, e = .returned (.slice (some ⟨g, 0, none⟩) (N - n + 1) cap) ∧ (∀ i, i < N - n + 1 → w'.cell? ⟨g, i, none⟩ = some (.slice (some ⟨b, off + i, none⟩) n n)) ∧ N - n + 1 ≤ cap ∧ Below w.heap.size w w' := by
  have hcc := h1.le
  have hO0 : Hid (OwnV w.heap.size w none 0 (winV b off n 0)) := hide (OwnV.nil _ _)
  go_enter Try.func124, Try.ntmps124
  go_wp2
  go_loopw [5, 6] (fun av ev wr => ∃ (i : Nat) (a' : Option Addr) (c' : Nat), i ≤ N - n + 1 ∧ av = .slice a' i c' ∧ ev = .int .i64 ((n : Int) + i) ∧ Hid (OwnV w.heap.size wr a' c' (winV b off n i)) ∧ Below w.heap.size w wr) (fun _ ev _ => (N + 1 - (intOf ev).toNat))
  case atStart => exact ⟨0, none, 0, by omega, rfl, by go_num, hO0, Below.refl _ _⟩
  case round =>
    obtain ⟨i, a', c', hi, rfl, rfl, hO, hb⟩ := hrel
    clear hO0
    obtain ⟨e, he⟩ : ∃ e : Nat, e = n + i := ⟨_, rfl⟩
    have hei : (n : Int) + i = (e : Int) := by omega
    rw [hei]
    have He := hide he
    clear he hei
    by_cases hlt : i < N - n + 1
    · have q1 : (e : Int) ≤ (N : Int) := by have := He.out; omega
      have q2 : (e : Int) ≤ (c : Int) := by omega
      have q3 : (0 : Int) ≤ (e : Int) := by omega
      have v1 : IntKind.i64.wrap ((e : Int) - n) = (i : Int) := by rw [show (e : Int) - n = (i : Int) by have := He.out; omega]; exact IntWalk.i64_in _ (by omega)
      have q4 : (i : Int) ≤ (e : Int) := by have := He.out; omega
      have q5 : (0 : Int) ≤ (i : Int) := by omega
      have v2 : IntKind.i64.wrap ((e : Int) + 1) = (e : Int) + 1 := IntWalk.i64_in _ (by omega)
      have q6 : ¬ i = e := by have := He.out; omega
      have hba : Below wr.heap.size wr (wr.alloc (.cells #[.slice (some ⟨b, off + i, none⟩) n n] 22)) := bl1 _ _
      have hen : e - i = n := by have := He.out; omega
      obtain ⟨vs, hvs⟩ : ∃ vs, winV b off n i = vs := ⟨_, rfl⟩
      have hst : Hid (winV b off n (i + 1) = vs ++ [Value.slice (some ⟨b, off + i, none⟩) n n]) := hide (by rw [← hvs, winV_step])
      have hvl := hide (show vs.length = i by rw [← hvs, winV_len])
      rw [hvs] at hO
      clear hvs
      have hOa := hide (hO.out.below hba)
      clear hO
      have hcl : (wr.alloc (.cells #[.slice (some ⟨b, off + i, none⟩) n n] 22)).cell? ⟨wr.heap.size, 0, none⟩ = some (.slice (some ⟨b, off + i, none⟩) n n) := by simp [go_sem]
      go_wp2_with (at_builtin; with_reducible refine wp_appV rfl _ _ rfl w.heap.size _ _ _ vs rfl hvl.out.symm hOa.out _ _ _ rfl hcl rfl (by omega) (by have := hb.size; simp; omega) ?_; intro ad' cap' w' hown' hgr hloc)
      have hvl2 := hide (show (vs ++ [Value.slice (some ⟨b, off + i, none⟩) n n]).length = i + 1 by rw [List.length_append, hvl.out]; rfl)
      have hb2 : Below w.heap.size w w' := (hb.trans (hba.mono hb.size)).grown hgr (by have := hb.size; simp; omega) (OwnV.blkG hOa.out)
      go_roundw
      case rel => exact ⟨i + 1, ad', cap', by omega, by rw [hvl.out], by rw [show (e : Int) + 1 = (n : Int) + ((i + 1 : Nat) : Int) by have := He.out; omega], by rw [hst.out]; exact hide hown', hb2⟩
      case measure => simp [intOf]; omega
    · have q1 : ¬ (e : Int) ≤ (N : Int) := by have := He.out; omega
      have hiN : i = N - n + 1 := by omega
      obtain ⟨g, rfl, hat⟩ := OwnV.at hO.out (by rw [winV_len]; omega)
      rw [winV_len] at hat
      have hcap : i ≤ c' := by
        have t := hO.out.le (by rw [winV_len]; omega)
        rwa [winV_len] at t
      have hat2 := hide hat
      have HI := hide hiN
      clear hO hat hiN
      go_wp2
      refine bodyPost_ret (v := .slice (some ⟨g, 0, none⟩) i c') (by simp [results, Try.results124]) rfl ?_
      exact ⟨g, c', by rw [← HI.out], fun j hj => by rw [hat2.out j (by rw [HI.out]; exact hj), winV_at _ _ _ _ _ (by rw [HI.out]; exact hj)], by rw [← HI.out]; exact hcap, hb⟩
set_option maxRecDepth 100000 in
set_option maxHeartbeats 1600000 in
theorem windows_zero (b off N c : Nat) (xs : List Int) (w : World) (h1 : SL w (some ⟨b, off, none⟩) N c xs) (hN : N ≤ 1000) :
    Calls Try.prog 124 #[.slice (some ⟨b, off, none⟩) N c, .int .i64 0] w fun e w' => ∃ g cap, e = .returned (.slice (some ⟨g, 0, none⟩) (N + 1) cap) ∧ Below w.heap.size w w' := by
  have hcc := h1.le
  have hO0 : Hid (OwnV w.heap.size w none 0 []) := hide (OwnV.nil _ _)
  go_enter Try.func124, Try.ntmps124
  go_wp2
  go_loopw [5, 6] (fun av ev wr => ∃ (i : Nat) (a' : Option Addr) (c' : Nat) (vs : List Value), i ≤ N + 1 ∧ av = .slice a' i c' ∧ ev = .int .i64 i ∧ Hid (vs.length = i) ∧ Hid (OwnV w.heap.size wr a' c' vs) ∧ Below w.heap.size w wr) (fun _ ev _ => (N + 1 - (intOf ev).toNat))
  case atStart => exact ⟨0, none, 0, [], by omega, rfl, rfl, rfl, hO0, Below.refl _ _⟩
  case round =>
    obtain ⟨i, a', c', vs, hi, rfl, rfl, hvl, hO, hb⟩ := hrel
    clear hO0
    by_cases hlt : i < N + 1
    · have q1 : (i : Int) ≤ (N : Int) := by omega
      have q2 : (i : Int) ≤ (c : Int) := by omega
      have q3 : (0 : Int) ≤ (i : Int) := by omega
      have v1 : IntKind.i64.wrap ((i : Int) - 0) = (i : Int) := by rw [Int.sub_zero]; exact IntWalk.i64_in _ (by omega)
      have v1b : IntKind.i64.wrap (i : Int) = (i : Int) := IntWalk.i64_in _ (by omega)
      have v2 : IntKind.i64.wrap ((i : Int) + 1) = (i : Int) + 1 := IntWalk.i64_in _ (by omega)
      have hba : Below wr.heap.size wr (wr.alloc (.cells #[.slice (some ⟨b, off, none⟩) 0 0] 22)) := bl1 _ _
      have hOa := hide (hO.out.below hba)
      clear hO
      have hcl : (wr.alloc (.cells #[.slice (some ⟨b, off, none⟩) 0 0] 22)).cell? ⟨wr.heap.size, 0, none⟩ = some (.slice (some ⟨b, off, none⟩) 0 0) := by simp [go_sem]
      go_wp2_with (at_builtin; with_reducible refine wp_appV rfl _ _ rfl w.heap.size _ _ _ vs rfl hvl.out.symm hOa.out _ _ _ rfl hcl rfl (by omega) (by have := hb.size; simp; omega) ?_; intro ad' cap' w' hown' hgr hloc)
      have hvl2 := hide (show (vs ++ [Value.slice (some ⟨b, off, none⟩) 0 0]).length = i + 1 by rw [List.length_append, hvl.out]; rfl)
      have hb2 : Below w.heap.size w w' := (hb.trans (hba.mono hb.size)).grown hgr (by have := hb.size; simp; omega) (OwnV.blkG hOa.out)
      go_roundw
      case rel => exact ⟨i + 1, ad', cap', _, by omega, by rw [hvl.out], by go_num, hvl2, hide hown', hb2⟩
      case measure => simp [intOf]; omega
    · have q1 : ¬ (i : Int) ≤ (N : Int) := by omega
      have hiN : i = N + 1 := by omega
      obtain ⟨g, rfl, hat⟩ := OwnV.at hO.out (by rw [hvl.out]; omega)
      have HI := hide hiN
      clear hO hat hiN
      go_wp2
      refine bodyPost_ret (v := .slice (some ⟨g, 0, none⟩) i c') (by simp [results, Try.results124]) rfl ?_
      exact ⟨⟨g, c', by rw [← HI.out]⟩, hb⟩
set_option maxRecDepth 100000 in
set_option maxHeartbeats 1600000 in
theorem determinant_zero (p : Int) (g0 cap0 : Nat) (w : World) :
    Calls Try.prog 131 #[.int .i64 p, .slice (some ⟨g0, 0, none⟩) 0 cap0] w
      fun e w' => e = .returned (.int .i64 1) ∧ Below w.heap.size w w' := by
  go_enter Try.func131, Try.ntmps131
  go_wp2_with fail
  refine (cloneV_any g0 1 0 cap0 (fun _ => []) _ (fun i hi => by omega) (by omega) (by omega)).mono ?_
  rintro e w1 ⟨ad, cap, vs, rfl, hO, hl, hrow, t1⟩
  clear hO hl hrow
  go_wp2
  refine wp_loop_rounds 1 ?_
  rw [rounds_succ]
  go_wp2
  go_ret
  exact ⟨rfl, t1⟩
set_option maxRecDepth 100000 in
set_option maxHeartbeats 1600000 in
theorem hankel_any (p : Int) (a : Option Addr) (N c : Nat) (xs : List Int) (k : Nat) (kk : Int) (w : World) (hs : SL w a N c xs) (hkk : kk = k) (hN : 1 ≤ N) (hN2 : N ≤ 1000) (hk : 2 * k ≤ N + 1) (hp : 2 ≤ p) (hp2 : p ≤ 10007) (hx : areB p xs = true) :
    Calls Try.prog 107 #[mom p a N c, .int .i64 kk] w fun e w' => e = .returned (.int .i64 (hkM p xs k)) ∧ Below w.heap.size w w' := by
  subst hkk
  obtain ⟨b, off, rfl, _, _⟩ := hs.at (by omega)
  have hb0 := bl1 w (.cells #[.int .i64 p, .slice (some ⟨b, off, none⟩) N c] 46)
  have g1 := hs.below hb0
  obtain ⟨w1, hw1⟩ : ∃ w1, w1 = w.alloc (.cells #[.int .i64 p, .slice (some ⟨b, off, none⟩) N c] 46) := ⟨_, rfl⟩
  have f0 : w1.cell? ⟨w.heap.size, 0, none⟩ = some (.int .i64 p) := by rw [hw1]; simp [go_sem]
  have f1 : w1.cell? ⟨w.heap.size, 1, none⟩ = some (.slice (some ⟨b, off, none⟩) N c) := by rw [hw1]; simp [go_sem]
  rw [← hw1] at hb0 g1
  have Hx := hide hx
  have hbd := (Below.refl w1.heap.size w1).drew
  have F : ∀ w', Below w1.heap.size w1 w' → w'.cell? ⟨w.heap.size, 0, none⟩ = some (.int .i64 p) ∧ w'.cell? ⟨w.heap.size, 1, none⟩ = some (.slice (some ⟨b, off, none⟩) N c) := fun w' h => ⟨cell_be h f0, cell_be h f1⟩
  by_cases h0 : k = 0
  · subst h0
    have hr := hide (hkM_zero p xs)
    clear hs hx
    go_enter Try.func107, Try.ntmps107
    go_upto_region 1 with fail
    rw [← hw1]
    clear hw1
    go_region_held3 (fun w' => w'.cell? ⟨w.heap.size, 0, none⟩ = some (.int .i64 p) ∧ w'.cell? ⟨w.heap.size, 1, none⟩ = some (.slice (some ⟨b, off, none⟩) N c))
      (exact F _ (by assumption))
      (first
      | (go_at_call 124; go_fit (windows_zero b off N c xs _ (g1.below hbd) hN2); rintro e w3 ⟨g, cap, rfl, t3⟩; have hm3 := bnext hbd t3; have q1 : (0 : Int) ≤ (cap : Int) := by omega)
      | (go_at_call 131; go_fit (determinant_zero p g cap _); rintro e w4 ⟨rfl, t4⟩; have hm4 := bnext hm3 t4))
    go_wp2
    go_ret
    exact ⟨ret_int hr.out.symm, hb0.trans (hm4.mono (by have := hb0.size; omega))⟩
  · have hk1 : 1 ≤ k := by omega
    have hcell := fun (W : World) (g : Nat) (hc : ∀ i, i < N - k + 1 → W.cell? ⟨g, i, none⟩ = some (.slice (some ⟨b, off + i, none⟩) k k)) (hS : SL W (some ⟨b, off, none⟩) N c xs) => show ∀ i, i < k → ∃ a c, W.cell? ⟨g, i, none⟩ = some (.slice a k c) ∧ SL W a k c (winR xs k i) from fun i hi => ⟨_, _, hc i (by omega), SL.win hS (by omega)⟩
    have Hc := hide hcell
    have Hw := hide (fun i => areB_winR (p := p) hx hp k i)
    clear hs hx hcell
    go_enter Try.func107, Try.ntmps107
    go_upto_region 1 with fail
    rw [← hw1]
    clear hw1
    go_region_held3 (fun w' => w'.cell? ⟨w.heap.size, 0, none⟩ = some (.int .i64 p) ∧ w'.cell? ⟨w.heap.size, 1, none⟩ = some (.slice (some ⟨b, off, none⟩) N c))
      (exact F _ (by assumption))
      (first
      | (go_at_call 124; go_fit (windows_cap b off N c k xs _ (g1.below hbd) hk1 (by omega) hN2); rintro e w3 ⟨g, cap, rfl, hcc, hcap, t3⟩; have hm3 := bnext hbd t3; have Hcc := hide hcc; clear hcc; have q1 : (k : Int) ≤ (cap : Int) := by omega)
      | (go_at_call 131; go_fit (determinant_any p g k cap (winR xs k) _ (Hc.out _ g Hcc.out (g1.below hm3)) hk1 (by omega) hp hp2 (fun i _ => Hw.out i)); rintro e w4 ⟨rfl, t4⟩; have hm4 := bnext hm3 t4))
    go_wp2
    go_ret
    exact ⟨rfl, hb0.trans (hm4.mono (by have := hb0.size; omega))⟩

end Go.Proofs.Ytagheoddbikdgaa
