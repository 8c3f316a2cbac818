/- Contracts: ProductMoments (program and model). -/
import Derived.Test.YtagheoddbikdgaaWi
import Derived.Test.YtagheoddbikdgaaDs
import Derived.Test.YtagheoddbikdgaaRx
import Derived.Deep.DeepFit
namespace Go.Proofs.Ytagheoddbikdgaa
open Go.RowKit
set_option linter.unusedVariables false
set_option linter.unusedSimpArgs false

def prmV (p : Int) (xs f : List Int) : List Int := if fnC p xs f = 0 then prodM p f xs (xs.length + 1 - max f.length 1) else []
def prmP (p : Int) (xs f : List Int) : Int := if fnC p xs f = 0 then p else 0
def prmC (p : Int) (xs f : List Int) : Int := fnC p xs f
theorem funF_dot (p : Int) (f xs : List Int) (n : Nat) : ∀ i, (i = 0 ∨ i + n ≤ xs.length + 1) → funF p f (fun i => (xs.drop i).take n) (tab n (fun _ => 0)) i = tab n (fun j => dotK p f xs j i) := by
  intro i
  induction i with
  | zero => intro _; rfl
  | succ i ih =>
    intro h
    rw [funF, ih (by omega), addlM_dot p f xs n i (by omega)]
theorem own_lit0'' (w : World) (q : Nat) (hq : q = w.heap.size) (B : Nat) (hB : B ≤ q) : Own B (w.alloc (.cells #[] 2)) (some ⟨q, 0, none⟩) 0 [] := by
  subst hq
  have h : Own w.heap.size (w.alloc (.cells #[] 2)) (some ⟨w.heap.size, 0, none⟩) 0 [] := World.ownsRow_lit w (base := w.heap.size) (e := 2) (size := 1) #[] 0 (Nat.le_refl _) (by decide) rfl
  exact h.mono hB
theorem mk_own (W : World) (n : Nat) (hn : n ≤ 1000) : Own W.heap.size (W.alloc (.cells (zrow n) 2)) (some ⟨W.heap.size, 0, none⟩) n (tab n (fun _ => 0)) := by
  have h := (zrow_row W n).own' (Nat.le_refl _) (by rw [tab_len]; unfold maxLen; omega)
  rwa [tab_len] at h
theorem mk_ownD (W v : World) (n : Nat) (hn : n ≤ 1000) (h : Below (W.alloc (.cells (zrow n) 2)).drew.heap.size (W.alloc (.cells (zrow n) 2)).drew v) : Own W.heap.size v (some ⟨W.heap.size, 0, none⟩) n (tab n (fun _ => 0)) :=
  ((mk_own W n hn).below ((Below.refl _ _).drew)).below h
theorem areB_win {p : Int} {xs : List Int} (h : areB p xs = true) (hp : 2 ≤ p) (i n : Nat) : areB p ((xs.drop i).take n) = true := areB_mk fun j hj => by
  have e : ((xs.drop i).take n).getD j 0 = xs.getD (i + j) 0 := by
    simp at hj
    have hij : i + j < xs.length := by omega
    simp [List.getElem?_take, hj, hij]
  rw [e]
  exact getD_rng h hp _
set_option maxRecDepth 100000 in
set_option maxHeartbeats 3200000 in
theorem implProductMoments (p : Int) (a2 : Option Addr) (n2 c2 : Nat) (xs : List Int) (a1 : Option Addr) (n1 c1 : Nat) (f : List Int) (w : World) (h2 : SL w a2 n2 c2 xs) (h1 : SL w a1 n1 c1 f) (b2 : n2 ≤ 4000000) (b1 : n1 ≤ 4000000) :
    Calls Try.prog 85 #[mom p a2 n2 c2, .slice a1 n1 c1] w (ResM w (prmP p xs f) (prmV p xs f) (prmC p xs f)) := by
  have hl1 := hide h1.len
  have hl2 := hide h2.len
  have hb0 := bl2 w (.cells #[.int .i64 p, .slice a2 n2 c2] 46) (.cells #[.int .i64 0, .slice none 0 0] 46)
  have g2 := h2.below hb0
  have g1 := h1.below hb0
  have hz0 : w.heap.size + 1 < ((w.alloc (.cells #[.int .i64 p, .slice a2 n2 c2] 46)).alloc (.cells #[.int .i64 0, .slice none 0 0] 46)).heap.size := by simp
  rcases fnC_cases p xs f with hC | hC | ⟨hC, hm, hf, hle⟩
  · have HC := hide hC
    have HV := hide (show prmV p xs f = [] by simp [prmV, hC])
    have HQ := hide (show prmP p xs f = 0 by simp [prmP, hC])
    clear hC
    go_enter Try.func85, Try.ntmps85
    go_wp2_with fail
    refine (checkFunctional_any _ _ _ _ _ _ _ _ f _ g2 g1 b2 b1).mono ?_
    rintro e w2 ⟨rfl, hm2⟩
    rw [HC.out]
    have hB2 := bnext hb0 hm2
    have z2 := hm2.size
    simp at z2
    have f0 : w2.cell? ⟨w.heap.size, 0, none⟩ = some (.int .i64 p) := cell_be hm2 (by simp [go_sem])
    have f1 : w2.cell? ⟨w.heap.size, 1, none⟩ = some (.slice a2 n2 c2) := cell_be hm2 (by simp [go_sem])
    have r0 : w2.cell? ⟨w.heap.size + 1, 0, none⟩ = some (.int .i64 0) := cell_be hm2 (by simp [go_sem])
    have r1 : w2.cell? ⟨w.heap.size + 1, 1, none⟩ = some (.slice none 0 0) := cell_be hm2 (by simp [go_sem])
    have y0 : w2.frozen? ⟨w.heap.size + 1, 0, none⟩ = false := (hm2.frozen (by simp)).trans (by simp [go_sem])
    have y1 : w2.frozen? ⟨w.heap.size + 1, 1, none⟩ = false := (hm2.frozen (by simp)).trans (by simp [go_sem])
    go_wp2
    refine bodyPost_ret (v := .tuple #[mom 0 none 0 0, .int .i64 1]) (by simp [results, Try.results85, go_sem, r0, r1]) rfl ?_
    exact ResM.nil HQ.out HV.out HC.out ((hB2.setCell (by simp) _).setCell (by simp) _)
  · have HC := hide hC
    have HV := hide (show prmV p xs f = [] by simp [prmV, hC])
    have HQ := hide (show prmP p xs f = 0 by simp [prmP, hC])
    clear hC
    go_enter Try.func85, Try.ntmps85
    go_wp2_with fail
    refine (checkFunctional_any _ _ _ _ _ _ _ _ f _ g2 g1 b2 b1).mono ?_
    rintro e w2 ⟨rfl, hm2⟩
    rw [HC.out]
    have hB2 := bnext hb0 hm2
    have z2 := hm2.size
    simp at z2
    have f0 : w2.cell? ⟨w.heap.size, 0, none⟩ = some (.int .i64 p) := cell_be hm2 (by simp [go_sem])
    have f1 : w2.cell? ⟨w.heap.size, 1, none⟩ = some (.slice a2 n2 c2) := cell_be hm2 (by simp [go_sem])
    have r0 : w2.cell? ⟨w.heap.size + 1, 0, none⟩ = some (.int .i64 0) := cell_be hm2 (by simp [go_sem])
    have r1 : w2.cell? ⟨w.heap.size + 1, 1, none⟩ = some (.slice none 0 0) := cell_be hm2 (by simp [go_sem])
    have y0 : w2.frozen? ⟨w.heap.size + 1, 0, none⟩ = false := (hm2.frozen (by simp)).trans (by simp [go_sem])
    have y1 : w2.frozen? ⟨w.heap.size + 1, 1, none⟩ = false := (hm2.frozen (by simp)).trans (by simp [go_sem])
    go_wp2
    refine bodyPost_ret (v := .tuple #[mom 0 none 0 0, .int .i64 2]) (by simp [results, Try.results85, go_sem, r0, r1]) rfl ?_
    exact ResM.nil HQ.out HV.out HC.out ((hB2.setCell (by simp) _).setCell (by simp) _)
  · have HC := hide hC
    have HQ := hide (show prmP p xs f = p by simp [prmP, hC])
    obtain ⟨hpr, q1, q2, hx⟩ := momB_rng hm
    obtain ⟨hp, hp2⟩ := primeB_lo hpr
    have Hf := hide (polyB_rng hf).2.1
    have Hx := hide hx
    have hfl := (polyB_rng hf).1
    rw [hl1.out] at hfl hle
    rw [hl2.out] at q1 q2 hle
    obtain ⟨n, hn⟩ : ∃ n, n = n2 + 1 - max n1 1 := ⟨_, rfl⟩
    have HV := hide (show prmV p xs f = prodM p f xs n by simp [prmV, hC, hl1.out, hl2.out, hn])
    have hnn : n + max n1 1 = n2 + 1 := by omega
    have hn1 : 1 ≤ n := by omega
    have hn24 : n ≤ 24 := by omega
    have Hn := hide hnn
    clear hC hm hf hpr hx hn hnn
    obtain ⟨bb, oo, rfl, hw1, hc1⟩ := h2.at (by omega)
    clear hc1
    have key : n1 = 0 ∨ 1 ≤ n1 := by omega
    have Hk := hide key
    clear key
    go_enter Try.func85, Try.ntmps85
    go_wp2_with fail
    refine (checkFunctional_any _ _ _ _ _ _ _ _ f _ g2 g1 b2 b1).mono ?_
    rintro e w2 ⟨rfl, hm2⟩
    rw [HC.out]
    have hB2 := bnext hb0 hm2
    have z2 := hm2.size
    simp at z2
    have f0 : w2.cell? ⟨w.heap.size, 0, none⟩ = some (.int .i64 p) := cell_be hm2 (by simp [go_sem])
    have f1 : w2.cell? ⟨w.heap.size, 1, none⟩ = some (.slice (some ⟨bb, oo, none⟩) n2 c2) := cell_be hm2 (by simp [go_sem])
    have r0 : w2.cell? ⟨w.heap.size + 1, 0, none⟩ = some (.int .i64 0) := cell_be hm2 (by simp [go_sem])
    have r1 : w2.cell? ⟨w.heap.size + 1, 1, none⟩ = some (.slice none 0 0) := cell_be hm2 (by simp [go_sem])
    have y0 : w2.frozen? ⟨w.heap.size + 1, 0, none⟩ = false := (hm2.frozen (by simp)).trans (by simp [go_sem])
    have y1 : w2.frozen? ⟨w.heap.size + 1, 1, none⟩ = false := (hm2.frozen (by simp)).trans (by simp [go_sem])
    have F2 : ∀ w', Below w2.heap.size w2 w' → Below w2.heap.size w2 w' ∧ w'.cell? ⟨w.heap.size, 0, none⟩ = some (.int .i64 p) ∧ w'.cell? ⟨w.heap.size, 1, none⟩ = some (.slice (some ⟨bb, oo, none⟩) n2 c2) := fun w' h => ⟨h, cell_be h f0, cell_be h f1⟩
    have GK : ∀ w', (Below w2.heap.size w2 w' ∧ w'.cell? ⟨w.heap.size, 0, none⟩ = some (.int .i64 p) ∧ w'.cell? ⟨w.heap.size, 1, none⟩ = some (.slice (some ⟨bb, oo, none⟩) n2 c2)) → Below w2.heap.size w2 w' := fun w' h => h.1
    have hmk := run_mk n (by omega)
    have v1 : IntKind.i64.wrap ((n1 : Int) - 1) = (n1 : Int) - 1 := IntWalk.i64_in _ (by omega)
    have v2 : IntKind.i64.wrap ((n2 : Int) - ((n1 : Int) - 1)) = (n2 : Int) - ((n1 : Int) - 1) := IntWalk.i64_in _ (by omega)
    have v3 : IntKind.i64.wrap ((n2 : Int) - 0) = (n2 : Int) := by rw [Int.sub_zero]; exact IntWalk.i64_in _ (by omega)
    have v4 : IntKind.i64.wrap (n2 : Int) = (n2 : Int) := IntWalk.i64_in _ (by omega)
    rcases Hk.out with hk | hk
    · subst hk
      have e7 : (n2 : Int) = (n : Int) := by have := Hn.out; omega
      go_upto_region 5 with fail
      go_cut [8] (fun sq wx => ∃ (a' : Option Addr) (c' : Nat), sq = .slice a' n c' ∧ Hid (Own w2.heap.size wx a' c' (prodM p f xs n)) ∧ Hid (Below w2.heap.size w2 wx))
      case first =>
        go_region_held3 (fun w' => Below w2.heap.size w2 w' ∧ w'.cell? ⟨w.heap.size, 0, none⟩ = some (.int .i64 p) ∧ w'.cell? ⟨w.heap.size, 1, none⟩ = some (.slice (some ⟨bb, oo, none⟩) n2 c2))
          (first | exact F2 _ (by assumption) | exact F2 _ ((bl1 _ _).drew) | exact F2 _ ((Below.refl _ _).drew) | exact F2 _ (Below.alloc (by assumption) (Below.size (by assumption)) _))
          (first
          | (go_at_call 124; go_fit (windows_any bb oo n2 c2 n xs _ (g2.below (bnext hm2 (GK _ (by assumption)))) hn1 (by have := Hn.out; omega) (by omega)); rintro e v1 ⟨g, cap, rfl, hcw, tw⟩; have hm1 := bnext (GK _ (by assumption)) tw; have zz1 := Below.size hm1; first | (with_reducible have own0 := mk_ownD _ _ n (by omega) tw) | skip)
          | (go_at_call 95; go_fit (functional_lists p _ _ c1 f g _ cap (fun i => some ⟨bb, oo + i, none⟩) (fun _ => n) (fun i => (xs.drop i).take n) _ n n (tab n (fun _ => 0)) w2.heap.size (v1.alloc (.cells (zrow n) 2))
              (g1.below (bnext hm2 (bnext hm1 (bl1 v1 (.cells (zrow n) 2))))) (fun i hi => cell_be (bl1 _ _) (hcw i (by have := Hn.out; omega))) (fun i hi => SL.win (g2.below (bnext hm2 (bnext hm1 (bl1 v1 (.cells (zrow n) 2))))) (by have := Hn.out; omega)) (by have := Hn.out; omega)
              ((mk_own v1 n (by omega)).mono zz1) (Below.size (bnext hm1 (bl1 v1 (.cells (zrow n) 2)))) (tab_len _ _) (by omega) (by omega) hp hp2 Hf.out (fun i hi => areB_win Hx.out hp i n) (tab_are (fun j hj => ⟨Int.le_refl _, (show (0 : Int) < p by omega)⟩))); rintro e v2 ⟨a', c', rfl, oF, tF⟩; have hm3 := bnext (bnext hm1 (bl1 v1 (.cells (zrow n) 2))) tF)
          | (go_at_call 95; go_fit (functional_lists p _ _ c1 f g _ cap (fun i => some ⟨bb, oo + i, none⟩) (fun _ => n) (fun i => (xs.drop i).take n) _ n n (tab n (fun _ => 0)) w2.heap.size v1
              (g1.below (bnext hm2 hm1)) (fun i hi => hcw i (by have := Hn.out; omega)) (fun i hi => SL.win (g2.below (bnext hm2 hm1)) (by have := Hn.out; omega)) (by have := Hn.out; omega)
              own0 (Below.size hm1) (tab_len _ _) (by omega) (by omega) hp hp2 Hf.out (fun i hi => areB_win Hx.out hp i n) (tab_are (fun j hj => ⟨Int.le_refl _, (show (0 : Int) < p by omega)⟩))); rintro e v2 ⟨a', c', rfl, oF, tF⟩; have hm3 := bnext hm1 tF))
        all_goals go_wp2_with fail
        all_goals go_meet
        all_goals exact ⟨a', c', rfl, hide (by
          have t := oF
          rw [funF_dot p f xs n _ (by have := hl2.out; have := Hn.out; omega)] at t
          unfold prodM
          rw [hl1.out]
          exact t), hide hm3⟩
      case rest =>
        obtain ⟨a', c', rfl, oF, hW⟩ := hcut
        obtain ⟨w5, hu⟩ : ∃ u, u = wc := ⟨wc, rfl⟩
        subst hu
        have k0 := cell_be hW.out f0
        have r0' := cell_be hW.out r0
        have r1' := cell_be hW.out r1
        have y0' := (hW.out.frozen (World.block_lt_of_cell? _ _ r0)).trans y0
        have y1' := (hW.out.frozen (World.block_lt_of_cell? _ _ r1)).trans y1
        clear r0 r1 y0 y1 F2 GK
        have z5 := hW.out.size
        go_wp2
        refine bodyPost_ret (v := .tuple #[mom p a' n c', .int .i64 0]) (by simp [results, Try.results85, go_sem, r0', r1']) rfl ?_
        exact ResM.own HQ.out HC.out (by rw [HV.out]; exact (tab_len _ _).symm) (by rw [HV.out]; exact ((oF.out.setLow (by simp; omega) _).setLow (by simp; omega) _).mono (by omega)) (by rw [HV.out]; unfold prodM; rw [tab_len]; omega) (((hB2.trans (hW.out.mono (by omega))).setCell (by simp) _).setCell (by simp) _)
    · have e7 : (n2 : Int) - ((n1 : Int) - 1) = (n : Int) := by have := Hn.out; omega
      go_upto_region 5 with fail
      go_cut [8] (fun sq wx => ∃ (a' : Option Addr) (c' : Nat), sq = .slice a' n c' ∧ Hid (Own w2.heap.size wx a' c' (prodM p f xs n)) ∧ Hid (Below w2.heap.size w2 wx))
      case first =>
        go_region_held3 (fun w' => Below w2.heap.size w2 w' ∧ w'.cell? ⟨w.heap.size, 0, none⟩ = some (.int .i64 p) ∧ w'.cell? ⟨w.heap.size, 1, none⟩ = some (.slice (some ⟨bb, oo, none⟩) n2 c2))
          (first | exact F2 _ (by assumption) | exact F2 _ ((bl1 _ _).drew) | exact F2 _ ((Below.refl _ _).drew) | exact F2 _ (Below.alloc (by assumption) (Below.size (by assumption)) _))
          (first
          | (go_at_call 124; go_fit (windows_any bb oo n2 c2 n xs _ (g2.below (bnext hm2 (GK _ (by assumption)))) hn1 (by have := Hn.out; omega) (by omega)); rintro e v1 ⟨g, cap, rfl, hcw, tw⟩; have hm1 := bnext (GK _ (by assumption)) tw; have zz1 := Below.size hm1; first | (with_reducible have own0 := mk_ownD _ _ n (by omega) tw) | skip)
          | (go_at_call 95; go_fit (functional_lists p _ _ c1 f g _ cap (fun i => some ⟨bb, oo + i, none⟩) (fun _ => n) (fun i => (xs.drop i).take n) _ n n (tab n (fun _ => 0)) w2.heap.size (v1.alloc (.cells (zrow n) 2))
              (g1.below (bnext hm2 (bnext hm1 (bl1 v1 (.cells (zrow n) 2))))) (fun i hi => cell_be (bl1 _ _) (hcw i (by have := Hn.out; omega))) (fun i hi => SL.win (g2.below (bnext hm2 (bnext hm1 (bl1 v1 (.cells (zrow n) 2))))) (by have := Hn.out; omega)) (by have := Hn.out; omega)
              ((mk_own v1 n (by omega)).mono zz1) (Below.size (bnext hm1 (bl1 v1 (.cells (zrow n) 2)))) (tab_len _ _) (by omega) (by omega) hp hp2 Hf.out (fun i hi => areB_win Hx.out hp i n) (tab_are (fun j hj => ⟨Int.le_refl _, (show (0 : Int) < p by omega)⟩))); rintro e v2 ⟨a', c', rfl, oF, tF⟩; have hm3 := bnext (bnext hm1 (bl1 v1 (.cells (zrow n) 2))) tF)
          | (go_at_call 95; go_fit (functional_lists p _ _ c1 f g _ cap (fun i => some ⟨bb, oo + i, none⟩) (fun _ => n) (fun i => (xs.drop i).take n) _ n n (tab n (fun _ => 0)) w2.heap.size v1
              (g1.below (bnext hm2 hm1)) (fun i hi => hcw i (by have := Hn.out; omega)) (fun i hi => SL.win (g2.below (bnext hm2 hm1)) (by have := Hn.out; omega)) (by have := Hn.out; omega)
              own0 (Below.size hm1) (tab_len _ _) (by omega) (by omega) hp hp2 Hf.out (fun i hi => areB_win Hx.out hp i n) (tab_are (fun j hj => ⟨Int.le_refl _, (show (0 : Int) < p by omega)⟩))); rintro e v2 ⟨a', c', rfl, oF, tF⟩; have hm3 := bnext hm1 tF))
        all_goals go_wp2_with fail
        all_goals go_meet
        all_goals exact ⟨a', c', rfl, hide (by
          have t := oF
          rw [funF_dot p f xs n _ (by have := hl2.out; have := Hn.out; omega)] at t
          unfold prodM
          rw [hl1.out]
          exact t), hide hm3⟩
      case rest =>
        obtain ⟨a', c', rfl, oF, hW⟩ := hcut
        obtain ⟨w5, hu⟩ : ∃ u, u = wc := ⟨wc, rfl⟩
        subst hu
        have k0 := cell_be hW.out f0
        have r0' := cell_be hW.out r0
        have r1' := cell_be hW.out r1
        have y0' := (hW.out.frozen (World.block_lt_of_cell? _ _ r0)).trans y0
        have y1' := (hW.out.frozen (World.block_lt_of_cell? _ _ r1)).trans y1
        clear r0 r1 y0 y1 F2 GK
        have z5 := hW.out.size
        go_wp2
        refine bodyPost_ret (v := .tuple #[mom p a' n c', .int .i64 0]) (by simp [results, Try.results85, go_sem, r0', r1']) rfl ?_
        exact ResM.own HQ.out HC.out (by rw [HV.out]; exact (tab_len _ _).symm) (by rw [HV.out]; exact ((oF.out.setLow (by simp; omega) _).setLow (by simp; omega) _).mono (by omega)) (by rw [HV.out]; unfold prodM; rw [tab_len]; omega) (((hB2.trans (hW.out.mono (by omega))).setCell (by simp) _).setCell (by simp) _)
end Go.Proofs.Ytagheoddbikdgaa
