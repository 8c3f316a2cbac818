/- Merged texts. -/
import Derived.Test.YtmdfgibpkfkceaaYMj5
import Derived.Test.YtmdfgibpkfkceaaYMj6
import Derived.Test.YtmdfgibpkfkceaaYMj15
import Derived.Deep.AppendLies
import Derived.Deep.RegionHeld3
import Derived.Deep.DrawnRows
/- Contracts: addList, AddMoments (program). -/
namespace Go.Proofs.Ytmdfgibpkfkceaa
open Go.RowKit
set_option linter.unusedVariables false
set_option linter.unusedSimpArgs false

/-- The first m numbers of a sum. -/
def alH (p k : Int) (xs ys : List Int) (m : Nat) : Nat → Int := fun j => if j < m then (xs.getD j 0 + k * ys.getD j 0) % p else 0
theorem alH_step (p k : Int) (xs ys : List Int) (N m : Nat) : (tab N (alH p k xs ys m)).set m ((xs.getD m 0 + k * ys.getD m 0) % p) = tab N (alH p k xs ys (m + 1)) := by
  rw [tab_set]
  apply tab_congr
  intro j _
  unfold alH
  by_cases e : j = m
  · subst e; simp
  · rw [if_neg e]
    by_cases h : j < m
    · rw [if_pos h, if_pos (by omega)]
    · rw [if_neg h, if_neg (by omega)]
theorem alH_all (p k : Int) (xs ys : List Int) (N : Nat) (h : xs.length = N) : tab N (alH p k xs ys N) = addlM p k xs ys := by
  unfold addlM
  rw [h]
  apply tab_congr
  intro j hj
  unfold alH
  rw [if_pos hj]
theorem addlM_nil (p k : Int) (ys : List Int) : addlM p k [] ys = [] := rfl
set_option maxRecDepth 100000 in
set_option maxHeartbeats 1600000 in
theorem addList_any (p k : Int) (a1 : Option Addr) (n1 c1 : Nat) (xs : List Int) (a2 : Option Addr) (n2 c2 : Nat) (ys : List Int) (w : World) (h1 : SL w a1 n1 c1 xs) (h2 : SL w a2 n2 c2 ys)
    (b1 : n1 ≤ 1000) (hn : n1 ≤ n2) (hp : 2 ≤ p) (hp2 : p ≤ 10007) (hk0 : 0 ≤ k) (hk1 : k < p) (hx : areB p xs = true) (hy : areB p ys = true) :
    Calls Try.prog 121 #[.int .i64 p, .slice a1 n1 c1, .int .i64 k, .slice a2 n2 c2] w fun e w' => ∃ a', e = .returned (.slice a' n1 n1) ∧ Own w.heap.size w' a' n1 (addlM p k xs ys) ∧ Below w.heap.size w w' := by
  have hl1 := hide h1.len
  have Hx := hide hx
  have Hy := hide hy
  clear hx hy
  by_cases h0 : n1 = 0
  · subst h0
    obtain rfl := h1.empty
    go_enter Try.func121, Try.ntmps121
    go_wp2_with (at_make; refine wp_make rfl _ _ rfl _ _ 0 rfl rfl rfl rfl (by omega) ?_; intro w1 hrow hb hsz)
    refine wp_loop_rounds 1 ?_
    rw [rounds_succ]
    go_wp2
    go_ret
    exact ⟨_, rfl, (hrow.out.own' (Nat.le_refl _) (by simp)), hb⟩
  obtain ⟨b, off, rfl, hbw, hcell⟩ := h1.at (by omega)
  obtain ⟨b', off', rfl, hbw', hcell'⟩ := h2.at (by omega)
  clear h1 h2
  go_enter Try.func121, Try.ntmps121
  go_wp2_with (at_make; refine wp_make rfl _ _ rfl _ _ n1 rfl rfl rfl rfl (by omega) ?_; intro w1 hrow hb hsz)
  have hrow2 : Hid (RowI w1 w.heap.size (tab n1 (alH p k xs ys 0))) := hide (by
    have := hrow.out
    rw [tab_zero] at this
    have e : tab n1 (alH p k xs ys 0) = tab n1 (fun _ => 0) := tab_congr (fun j _ => by simp [alH])
    rwa [e])
  clear hrow
  go_loopw [17] (fun i wr => ∃ m : Nat, m ≤ n1 ∧ i = .int .i64 m ∧ Hid (RowI wr w.heap.size (tab n1 (alH p k xs ys m))) ∧ Below w.heap.size w wr ∧ w.heap.size < wr.heap.size) (fun i _ => n1 - (intOf i).toNat)
  case atStart => exact ⟨0, by omega, rfl, hrow2, hb, hsz⟩
  case round =>
    obtain ⟨m, hm, rfl, hR, hbr, hsr⟩ := hrel
    clear hrow2 hb hsz
    by_cases hlt : m < n1
    · have e1 : wr.cell? ⟨b, off + m, none⟩ = some (.int .i64 (xs.getD m 0)) := cell_be hbr (hcell m hlt)
      have e2 : wr.cell? ⟨b', off' + m, none⟩ = some (.int .i64 (ys.getD m 0)) := cell_be hbr (hcell' m (by omega))
      have e3 := hR.out.cell m (by rw [tab_len]; omega)
      have hfr := hR.out.free m
      have hset := hR.out.set m ((xs.getD m 0 + k * ys.getD m 0) % p)
      rw [alH_step] at hset
      have r1 := getD_rng Hx.out hp m
      have r2 := getD_rng Hy.out hp m
      obtain ⟨x, hx⟩ : ∃ x, xs.getD m 0 = x := ⟨_, rfl⟩
      obtain ⟨y, hy⟩ : ∃ y, ys.getD m 0 = y := ⟨_, rfl⟩
      rw [hx] at e1 hset r1
      rw [hy] at e2 hset r2
      have Hset := hide hset
      clear hset hcell hcell' hx hy
      have hlt' : (m : Int) < (n1 : Int) := by omega
      have hlt2 : (m : Int) < (n2 : Int) := by omega
      go_wp2_with (go_at_call 125; refine (addNumber_any p x k y _ hp hp2 r1.1 r1.2 hk0 hk1 r2.1 r2.2).mono ?_; rintro e w' ⟨rfl, rfl⟩)
      go_roundw
      case rel => exact ⟨m + 1, by omega, by go_num, Hset, hbr.setCell (by simp) _, by simpa using hsr⟩
      case measure => simp [intOf]; omega
    · obtain rfl : m = n1 := by omega
      have ho : Own w.heap.size wr (some ⟨w.heap.size, 0, none⟩) m (addlM p k xs ys) := by
        have h2 := hR.out
        rw [alH_all _ _ _ _ _ hl1.out] at h2
        have h3 := h2.own' (Nat.le_refl _) (by rw [addlM_len, hl1.out]; unfold maxLen; omega)
        rwa [addlM_len, hl1.out] at h3
      clear hcell hcell'
      go_wp2
      go_ret
      exact ⟨_, rfl, ho, hbr⟩
def adC (p : Int) (xs : List Int) (q : Int) (ys : List Int) (k : Int) : Int := if momB p xs && momB q ys then (if p = q ∧ xs.length = ys.length ∧ 0 ≤ k ∧ k < p then 0 else 2) else 1
def adV (p : Int) (xs : List Int) (q : Int) (ys : List Int) (k : Int) : List Int := if adC p xs q ys k = 0 then addlM p k xs ys else []
def adP (p : Int) (xs : List Int) (q : Int) (ys : List Int) (k : Int) : Int := if adC p xs q ys k = 0 then p else 0
set_option maxRecDepth 100000 in
set_option maxHeartbeats 1600000 in
theorem implAddMoments (p : Int) (a1 : Option Addr) (n1 c1 : Nat) (xs : List Int) (q : Int) (a2 : Option Addr) (n2 c2 : Nat) (ys : List Int) (k : Int) (w : World) (h1 : SL w a1 n1 c1 xs) (h2 : SL w a2 n2 c2 ys) (b1 : n1 ≤ 4000000) (b2 : n2 ≤ 4000000) :
    Calls Try.prog 50 #[mom p a1 n1 c1, mom q a2 n2 c2, .int .i64 k] w (ResM w (adP p xs q ys k) (adV p xs q ys k) (adC p xs q ys k)) := by
  have hl1 := hide h1.len
  have hl2 := hide h2.len
  have hb0 := bl3 w (.cells #[.int .i64 p, .slice a1 n1 c1] 36) (.cells #[.int .i64 q, .slice a2 n2 c2] 36) (.cells #[.int .i64 0, .slice none 0 0] 36)
  have g1 := h1.below hb0
  have g2 := h2.below hb0
  have hz0 : w.heap.size + 2 < (((w.alloc (.cells #[.int .i64 p, .slice a1 n1 c1] 36)).alloc (.cells #[.int .i64 q, .slice a2 n2 c2] 36)).alloc (.cells #[.int .i64 0, .slice none 0 0] 36)).heap.size := by simp
  cases hm1 : momB p xs
  · have Hm1 := hide hm1
    have HC := hide (show adC p xs q ys k = 1 by simp [adC, hm1])
    have HV := hide (show adV p xs q ys k = [] by simp [adV, HC.out])
    have HQ := hide (show adP p xs q ys k = 0 by simp [adP, HC.out])
    clear hm1
    go_enter Try.func50, Try.ntmps50
    go_wp2_with fail
    refine (areMoments_any _ _ _ _ _ _ g1 b1).mono ?_
    rintro e w1 ⟨rfl, t1⟩
    rw [Hm1.out]
    have p0 : w1.cell? ⟨w.heap.size, 0, none⟩ = some (.int .i64 p) := cell_be t1 (by simp [go_sem])
    have p1 : w1.cell? ⟨w.heap.size, 1, none⟩ = some (.slice a1 n1 c1) := cell_be t1 (by simp [go_sem])
    have q0 : w1.cell? ⟨w.heap.size + 1, 0, none⟩ = some (.int .i64 q) := cell_be t1 (by simp [go_sem])
    have q1 : w1.cell? ⟨w.heap.size + 1, 1, none⟩ = some (.slice a2 n2 c2) := cell_be t1 (by simp [go_sem])
    have r0 : w1.cell? ⟨w.heap.size + 1 + 1, 0, none⟩ = some (.int .i64 0) := cell_be t1 (by simp [go_sem])
    have r1 : w1.cell? ⟨w.heap.size + 1 + 1, 1, none⟩ = some (.slice none 0 0) := cell_be t1 (by simp [go_sem])
    have y0 : w1.frozen? ⟨w.heap.size + 1 + 1, 0, none⟩ = false := (t1.frozen (by simp)).trans (by simp [go_sem])
    have y1 : w1.frozen? ⟨w.heap.size + 1 + 1, 1, none⟩ = false := (t1.frozen (by simp)).trans (by simp [go_sem])
    have hB := bnext hb0 t1
    have hz := t1.size
    go_wp2
    refine bodyPost_ret (v := .tuple #[mom 0 none 0 0, .int .i64 1]) (by simp [results, Try.results50, go_sem, r0, r1]) rfl ?_
    exact ResM.nil HQ.out HV.out HC.out ((hB.setCell (by simp <;> omega) _).setCell (by simp <;> omega) _)
  · have Hm1 := hide hm1
    cases hm2 : momB q ys
    · have Hm2 := hide hm2
      have HC := hide (show adC p xs q ys k = 1 by simp [adC, hm2])
      have HV := hide (show adV p xs q ys k = [] by simp [adV, HC.out])
      have HQ := hide (show adP p xs q ys k = 0 by simp [adP, HC.out])
      clear hm1 hm2
      go_enter Try.func50, Try.ntmps50
      go_wp2_with fail
      refine (areMoments_any _ _ _ _ _ _ g1 b1).mono ?_
      rintro e w1 ⟨rfl, t1⟩
      rw [Hm1.out]
      have p0 : w1.cell? ⟨w.heap.size, 0, none⟩ = some (.int .i64 p) := cell_be t1 (by simp [go_sem])
      have p1 : w1.cell? ⟨w.heap.size, 1, none⟩ = some (.slice a1 n1 c1) := cell_be t1 (by simp [go_sem])
      have q0 : w1.cell? ⟨w.heap.size + 1, 0, none⟩ = some (.int .i64 q) := cell_be t1 (by simp [go_sem])
      have q1 : w1.cell? ⟨w.heap.size + 1, 1, none⟩ = some (.slice a2 n2 c2) := cell_be t1 (by simp [go_sem])
      have r0 : w1.cell? ⟨w.heap.size + 1 + 1, 0, none⟩ = some (.int .i64 0) := cell_be t1 (by simp [go_sem])
      have r1 : w1.cell? ⟨w.heap.size + 1 + 1, 1, none⟩ = some (.slice none 0 0) := cell_be t1 (by simp [go_sem])
      have y0 : w1.frozen? ⟨w.heap.size + 1 + 1, 0, none⟩ = false := (t1.frozen (by simp)).trans (by simp [go_sem])
      have y1 : w1.frozen? ⟨w.heap.size + 1 + 1, 1, none⟩ = false := (t1.frozen (by simp)).trans (by simp [go_sem])
      have hB := bnext hb0 t1
      have hz := t1.size
      go_wp2_with fail
      refine (areMoments_any _ _ _ _ _ _ (g2.below t1) b2).mono ?_
      rintro e w2 ⟨rfl, t2⟩
      rw [Hm2.out]
      replace p0 := cell_be t2 p0
      replace p1 := cell_be t2 p1
      replace q0 := cell_be t2 q0
      replace q1 := cell_be t2 q1
      replace y0 := (t2.frozen (World.block_lt_of_cell? _ _ r0)).trans y0
      replace y1 := (t2.frozen (World.block_lt_of_cell? _ _ r1)).trans y1
      replace r0 := cell_be t2 r0
      replace r1 := cell_be t2 r1
      have hB2 := bnext hB t2
      have hz2 := t2.size
      replace hB := hB2
      go_wp2
      refine bodyPost_ret (v := .tuple #[mom 0 none 0 0, .int .i64 1]) (by simp [results, Try.results50, go_sem, r0, r1]) rfl ?_
      exact ResM.nil HQ.out HV.out HC.out ((hB.setCell (by simp <;> omega) _).setCell (by simp <;> omega) _)
    · have Hm2 := hide hm2
      by_cases hpq : p = q
      · subst hpq
        by_cases hnn : n1 = n2
        · subst hnn
          obtain ⟨hpr, k1, k2, hxa⟩ := momB_rng hm1
          obtain ⟨_, _, _, hya⟩ := momB_rng hm2
          obtain ⟨hp, hp2⟩ := primeB_lo hpr
          rw [hl1.out] at k1 k2
          by_cases hk : 0 ≤ k ∧ k < p
          · have HC := hide (show adC p xs p ys k = 0 by simp [adC, hm1, hm2, hl1.out, hl2.out, hk])
            have HV := hide (show adV p xs p ys k = addlM p k xs ys by simp [adV, HC.out])
            have HQ := hide (show adP p xs p ys k = p by simp [adP, HC.out])
            have Hxa := hide hxa
            have Hya := hide hya
            clear hm1 hm2 hxa hya hpr
            go_enter Try.func50, Try.ntmps50
            go_wp2_with fail
            refine (areMoments_any _ _ _ _ _ _ g1 b1).mono ?_
            rintro e w1 ⟨rfl, t1⟩
            rw [Hm1.out]
            have p0 : w1.cell? ⟨w.heap.size, 0, none⟩ = some (.int .i64 p) := cell_be t1 (by simp [go_sem])
            have p1 : w1.cell? ⟨w.heap.size, 1, none⟩ = some (.slice a1 n1 c1) := cell_be t1 (by simp [go_sem])
            have q0 : w1.cell? ⟨w.heap.size + 1, 0, none⟩ = some (.int .i64 p) := cell_be t1 (by simp [go_sem])
            have q1 : w1.cell? ⟨w.heap.size + 1, 1, none⟩ = some (.slice a2 n1 c2) := cell_be t1 (by simp [go_sem])
            have r0 : w1.cell? ⟨w.heap.size + 1 + 1, 0, none⟩ = some (.int .i64 0) := cell_be t1 (by simp [go_sem])
            have r1 : w1.cell? ⟨w.heap.size + 1 + 1, 1, none⟩ = some (.slice none 0 0) := cell_be t1 (by simp [go_sem])
            have y0 : w1.frozen? ⟨w.heap.size + 1 + 1, 0, none⟩ = false := (t1.frozen (by simp)).trans (by simp [go_sem])
            have y1 : w1.frozen? ⟨w.heap.size + 1 + 1, 1, none⟩ = false := (t1.frozen (by simp)).trans (by simp [go_sem])
            have hB := bnext hb0 t1
            have hz := t1.size
            go_wp2_with fail
            refine (areMoments_any _ _ _ _ _ _ (g2.below t1) b2).mono ?_
            rintro e w2 ⟨rfl, t2⟩
            rw [Hm2.out]
            replace p0 := cell_be t2 p0
            replace p1 := cell_be t2 p1
            replace q0 := cell_be t2 q0
            replace q1 := cell_be t2 q1
            replace y0 := (t2.frozen (World.block_lt_of_cell? _ _ r0)).trans y0
            replace y1 := (t2.frozen (World.block_lt_of_cell? _ _ r1)).trans y1
            replace r0 := cell_be t2 r0
            replace r1 := cell_be t2 r1
            have hB2 := bnext hB t2
            have hz2 := t2.size
            replace hB := hB2
            go_wp2_with fail
            refine (isNumber_yes _ _ _ hk.1 hk.2).mono ?_
            rintro e w2' ⟨rfl, rfl⟩
            have hbd := (Below.refl w2.heap.size w2).drew
            have F : ∀ w', Below w2.heap.size w2 w' → w'.cell? ⟨w.heap.size, 0, none⟩ = some (.int .i64 p) ∧ w'.cell? ⟨w.heap.size, 1, none⟩ = some (.slice a1 n1 c1) ∧ w'.cell? ⟨w.heap.size + 1, 1, none⟩ = some (.slice a2 n1 c2) := fun w' hb => ⟨cell_be hb p0, cell_be hb p1, cell_be hb q1⟩
            have hzz : w.heap.size + 3 ≤ w2.heap.size := by simp at hz; omega
            go_upto_region 5 with fail
            go_region_held3 (fun w' => w'.cell? ⟨w.heap.size, 0, none⟩ = some (.int .i64 p) ∧ w'.cell? ⟨w.heap.size, 1, none⟩ = some (.slice a1 n1 c1) ∧ w'.cell? ⟨w.heap.size + 1, 1, none⟩ = some (.slice a2 n1 c2))
              (first | exact F _ (by assumption) | exact ⟨cell_set2 (cell_set2 x0 (by simp <;> omega) _) (by simp <;> omega) _, cell_set2 (cell_set2 x1 (by simp <;> omega) _) (by simp <;> omega) _, cell_set2 (cell_set2 x2 (by simp <;> omega) _) (by simp <;> omega) _⟩)
              (first
              | (go_at_call 121; refine (addList_any p k _ _ _ xs _ _ _ ys _ (((g1.below t1).below t2).below hbd) (((g2.below t1).below t2).below hbd) (by omega) (Nat.le_refl _) hp hp2 hk.1 hk.2 Hxa.out Hya.out).mono ?_; rintro e w3 ⟨a', rfl, ho, t3'⟩; have t3 := bnext hbd t3'; obtain ⟨x0, x1, x2⟩ := F _ t3; have r0' := cell_be t3 r0; have r1' := cell_be t3 r1; have y0' := (t3.frozen (World.block_lt_of_cell? _ _ r0)).trans y0; have y1' := (t3.frozen (World.block_lt_of_cell? _ _ r1)).trans y1))
            all_goals go_wp2
            refine bodyPost_ret (v := .tuple #[mom p a' n1 n1, .int .i64 0]) (by simp [results, Try.results50, go_sem, r0', r1']) rfl ?_
            exact ResM.own HQ.out HC.out (by rw [HV.out, addlM_len, hl1.out]) (by rw [HV.out]; exact ((ho.setLow (by simp <;> omega) _).setLow (by simp <;> omega) _).mono (by simp <;> omega)) (by rw [HV.out, addlM_len, hl1.out]; omega) (((hB.trans (t3.mono (by omega))).setCell (by simp <;> omega) _).setCell (by simp <;> omega) _)
          · have Hk := hide hk
            have HC := hide (show adC p xs p ys k = 2 by simp only [adC, hm1, hm2, Bool.and_self, if_true]; rw [if_neg (by omega)])
            have HV := hide (show adV p xs p ys k = [] by simp [adV, HC.out])
            have HQ := hide (show adP p xs p ys k = 0 by simp [adP, HC.out])
            clear hm1 hm2 hk
            go_enter Try.func50, Try.ntmps50
            go_wp2_with fail
            refine (areMoments_any _ _ _ _ _ _ g1 b1).mono ?_
            rintro e w1 ⟨rfl, t1⟩
            rw [Hm1.out]
            have p0 : w1.cell? ⟨w.heap.size, 0, none⟩ = some (.int .i64 p) := cell_be t1 (by simp [go_sem])
            have p1 : w1.cell? ⟨w.heap.size, 1, none⟩ = some (.slice a1 n1 c1) := cell_be t1 (by simp [go_sem])
            have q0 : w1.cell? ⟨w.heap.size + 1, 0, none⟩ = some (.int .i64 p) := cell_be t1 (by simp [go_sem])
            have q1 : w1.cell? ⟨w.heap.size + 1, 1, none⟩ = some (.slice a2 n1 c2) := cell_be t1 (by simp [go_sem])
            have r0 : w1.cell? ⟨w.heap.size + 1 + 1, 0, none⟩ = some (.int .i64 0) := cell_be t1 (by simp [go_sem])
            have r1 : w1.cell? ⟨w.heap.size + 1 + 1, 1, none⟩ = some (.slice none 0 0) := cell_be t1 (by simp [go_sem])
            have y0 : w1.frozen? ⟨w.heap.size + 1 + 1, 0, none⟩ = false := (t1.frozen (by simp)).trans (by simp [go_sem])
            have y1 : w1.frozen? ⟨w.heap.size + 1 + 1, 1, none⟩ = false := (t1.frozen (by simp)).trans (by simp [go_sem])
            have hB := bnext hb0 t1
            have hz := t1.size
            go_wp2_with fail
            refine (areMoments_any _ _ _ _ _ _ (g2.below t1) b2).mono ?_
            rintro e w2 ⟨rfl, t2⟩
            rw [Hm2.out]
            replace p0 := cell_be t2 p0
            replace p1 := cell_be t2 p1
            replace q0 := cell_be t2 q0
            replace q1 := cell_be t2 q1
            replace y0 := (t2.frozen (World.block_lt_of_cell? _ _ r0)).trans y0
            replace y1 := (t2.frozen (World.block_lt_of_cell? _ _ r1)).trans y1
            replace r0 := cell_be t2 r0
            replace r1 := cell_be t2 r1
            have hB2 := bnext hB t2
            have hz2 := t2.size
            replace hB := hB2
            go_wp2_with fail
            refine (isNumber_no _ _ _ Hk.out).mono ?_
            rintro e w2' ⟨rfl, rfl⟩
            go_wp2
            refine bodyPost_ret (v := .tuple #[mom 0 none 0 0, .int .i64 2]) (by simp [results, Try.results50, go_sem, r0, r1]) rfl ?_
            exact ResM.nil HQ.out HV.out HC.out ((hB.setCell (by simp <;> omega) _).setCell (by simp <;> omega) _)
        · have HC := hide (show adC p xs p ys k = 2 by simp only [adC, hm1, hm2, Bool.and_self, if_true]; rw [if_neg (by rw [hl1.out, hl2.out]; omega)])
          have HV := hide (show adV p xs p ys k = [] by simp [adV, HC.out])
          have HQ := hide (show adP p xs p ys k = 0 by simp [adP, HC.out])
          clear hm1 hm2
          go_enter Try.func50, Try.ntmps50
          go_wp2_with fail
          refine (areMoments_any _ _ _ _ _ _ g1 b1).mono ?_
          rintro e w1 ⟨rfl, t1⟩
          rw [Hm1.out]
          have p0 : w1.cell? ⟨w.heap.size, 0, none⟩ = some (.int .i64 p) := cell_be t1 (by simp [go_sem])
          have p1 : w1.cell? ⟨w.heap.size, 1, none⟩ = some (.slice a1 n1 c1) := cell_be t1 (by simp [go_sem])
          have q0 : w1.cell? ⟨w.heap.size + 1, 0, none⟩ = some (.int .i64 p) := cell_be t1 (by simp [go_sem])
          have q1 : w1.cell? ⟨w.heap.size + 1, 1, none⟩ = some (.slice a2 n2 c2) := cell_be t1 (by simp [go_sem])
          have r0 : w1.cell? ⟨w.heap.size + 1 + 1, 0, none⟩ = some (.int .i64 0) := cell_be t1 (by simp [go_sem])
          have r1 : w1.cell? ⟨w.heap.size + 1 + 1, 1, none⟩ = some (.slice none 0 0) := cell_be t1 (by simp [go_sem])
          have y0 : w1.frozen? ⟨w.heap.size + 1 + 1, 0, none⟩ = false := (t1.frozen (by simp)).trans (by simp [go_sem])
          have y1 : w1.frozen? ⟨w.heap.size + 1 + 1, 1, none⟩ = false := (t1.frozen (by simp)).trans (by simp [go_sem])
          have hB := bnext hb0 t1
          have hz := t1.size
          go_wp2_with fail
          refine (areMoments_any _ _ _ _ _ _ (g2.below t1) b2).mono ?_
          rintro e w2 ⟨rfl, t2⟩
          rw [Hm2.out]
          replace p0 := cell_be t2 p0
          replace p1 := cell_be t2 p1
          replace q0 := cell_be t2 q0
          replace q1 := cell_be t2 q1
          replace y0 := (t2.frozen (World.block_lt_of_cell? _ _ r0)).trans y0
          replace y1 := (t2.frozen (World.block_lt_of_cell? _ _ r1)).trans y1
          replace r0 := cell_be t2 r0
          replace r1 := cell_be t2 r1
          have hB2 := bnext hB t2
          have hz2 := t2.size
          replace hB := hB2
          go_wp2
          refine bodyPost_ret (v := .tuple #[mom 0 none 0 0, .int .i64 2]) (by simp [results, Try.results50, go_sem, r0, r1]) rfl ?_
          exact ResM.nil HQ.out HV.out HC.out ((hB.setCell (by simp <;> omega) _).setCell (by simp <;> omega) _)
      · have HC := hide (show adC p xs q ys k = 2 by simp only [adC, hm1, hm2, Bool.and_self, if_true]; rw [if_neg (fun h => hpq h.1)])
        have HV := hide (show adV p xs q ys k = [] by simp [adV, HC.out])
        have HQ := hide (show adP p xs q ys k = 0 by simp [adP, HC.out])
        clear hm1 hm2
        go_enter Try.func50, Try.ntmps50
        go_wp2_with fail
        refine (areMoments_any _ _ _ _ _ _ g1 b1).mono ?_
        rintro e w1 ⟨rfl, t1⟩
        rw [Hm1.out]
        have p0 : w1.cell? ⟨w.heap.size, 0, none⟩ = some (.int .i64 p) := cell_be t1 (by simp [go_sem])
        have p1 : w1.cell? ⟨w.heap.size, 1, none⟩ = some (.slice a1 n1 c1) := cell_be t1 (by simp [go_sem])
        have q0 : w1.cell? ⟨w.heap.size + 1, 0, none⟩ = some (.int .i64 q) := cell_be t1 (by simp [go_sem])
        have q1 : w1.cell? ⟨w.heap.size + 1, 1, none⟩ = some (.slice a2 n2 c2) := cell_be t1 (by simp [go_sem])
        have r0 : w1.cell? ⟨w.heap.size + 1 + 1, 0, none⟩ = some (.int .i64 0) := cell_be t1 (by simp [go_sem])
        have r1 : w1.cell? ⟨w.heap.size + 1 + 1, 1, none⟩ = some (.slice none 0 0) := cell_be t1 (by simp [go_sem])
        have y0 : w1.frozen? ⟨w.heap.size + 1 + 1, 0, none⟩ = false := (t1.frozen (by simp)).trans (by simp [go_sem])
        have y1 : w1.frozen? ⟨w.heap.size + 1 + 1, 1, none⟩ = false := (t1.frozen (by simp)).trans (by simp [go_sem])
        have hB := bnext hb0 t1
        have hz := t1.size
        go_wp2_with fail
        refine (areMoments_any _ _ _ _ _ _ (g2.below t1) b2).mono ?_
        rintro e w2 ⟨rfl, t2⟩
        rw [Hm2.out]
        replace p0 := cell_be t2 p0
        replace p1 := cell_be t2 p1
        replace q0 := cell_be t2 q0
        replace q1 := cell_be t2 q1
        replace y0 := (t2.frozen (World.block_lt_of_cell? _ _ r0)).trans y0
        replace y1 := (t2.frozen (World.block_lt_of_cell? _ _ r1)).trans y1
        replace r0 := cell_be t2 r0
        replace r1 := cell_be t2 r1
        have hB2 := bnext hB t2
        have hz2 := t2.size
        replace hB := hB2
        go_wp2
        refine bodyPost_ret (v := .tuple #[mom 0 none 0 0, .int .i64 2]) (by simp [results, Try.results50, go_sem, r0, r1]) rfl ?_
        exact ResM.nil HQ.out HV.out HC.out ((hB.setCell (by simp <;> omega) _).setCell (by simp <;> omega) _)
end Go.Proofs.Ytmdfgibpkfkceaa
/- Contracts: windows (slices of one list) and functional over lists. -/
namespace Go.Proofs.Ytmdfgibpkfkceaa
open Go.RowKit
set_option linter.unusedVariables false
set_option linter.unusedSimpArgs false

/-- An owned row of slices. -/
def OwnV (B : Nat) (w : World) (a : Option Addr) (cap : Nat) (ys : List Value) : Prop := w.ownsRow B 24 1 (.slice a ys.length cap) ys.length ys
theorem OwnV.nil (B : Nat) (w : World) : OwnV B w none 0 [] := World.ownsRow_nil _ _ _ _
theorem infoS : (Try.prog.info? 24).map (fun i => (i.zero, i.size, i.bytes)) = some (some (.slice none 0 0), 1, 24) := by kernel_rfl
set_option maxRecDepth 100000 in
/-- An append of one number onto an owned row of numbers: only that row and new blocks turn. -/
theorem op_appV {w : World} {o : Oper} {a : Act} {K : Act → World → Prop} {Q : Exit → Act → World → Prop}
    (s x : Operand) (ho : o.op = .call { callee := .builtin .append, args := #[s, x], argTypes := #[22, 22] })
    (B : Nat) (ad : Option Addr) (n cap : Nat) (ys : List Value) (hs : a.eval s = .slice ad n cap) (hn : n = ys.length) (hown : OwnV B w ad cap ys)
    (ax : Addr) (c : Nat) (z : Value) (hx : a.eval x = .slice (some ax) 1 c) (hz : w.cell? ax = some z) (hz1' : z.oneCell' = true) (hmax : n + 1 ≤ 4000000) (hB : B ≤ w.heap.size)
    (hK : ∀ ad' cap' w', OwnV B w' ad' cap' (ys ++ [z]) → w.grownBy w' (blk ad) → (blk ad' = blk ad ∨ blk ad' = some w.heap.size) → K (a.put o.dst (.slice ad' (ys ++ [z]).length cap')) w') :
    o.wp Try.prog a w K Q := by
  subst hn
  obtain ⟨i0, hi, hz0, hz1, hz2⟩ := info_parts infoS
  have hnews : ∀ j u, [z][j]? = some u → w.cell? (ax.add j) = some u := by
    intro j u hj
    cases j with
    | zero =>
      simp at hj
      subst hj
      have : ax.add 0 = ax := by cases ax; simp [Addr.add]
      rw [this]; exact hz
    | succ j => simp at hj
  have h1 : ∀ u ∈ [z], u.oneCell' = true := by
    intro u hu
    simp at hu
    subst hu
    exact hz1'
  obtain ⟨v', w1, hr, hown', hgrow, _, hloc⟩ := run_append_own_at (P := Try.prog) w B 22 o.type 24 i0 (.slice none 0 0) 1 24 Try.underlying22 hi hz0 hz1 hz2 rfl (by decide) _ _ _ hown ax 1 c [z] rfl hnews h1 (by unfold maxLen; omega) (by omega) hB
  have hb1 : ∀ (ad : Option Addr) (n c : Nat), (Value.slice ad n c).ownBlock = blk ad := fun ad n c => by cases ad <;> rfl
  rw [hb1] at hgrow hloc
  have hv : ∃ ad' cap', v' = .slice ad' (ys ++ [z]).length cap' := by
    rcases hown'.2 with ⟨h1, h2⟩ | ⟨g, c', cur, h1, h2⟩
    · exact ⟨none, 0, by rw [h1]; congr 1; simp; omega⟩
    · exact ⟨_, c', by rw [h1]; congr 1; simp⟩
  obtain ⟨ad', cap', rfl⟩ := hv
  rw [hb1] at hloc
  unfold Oper.wp execOp
  simp only [ho, resolve, invoke, builtin, Sem.run_bind, Sem.run_pure, Result.andThen_ok, List.map_toArray, List.map_cons, List.map_nil, hs, hx, hr]
  refine hK ad' cap' w1 ?_ hgrow hloc
  unfold OwnV
  have e : (ys ++ [z]).length = ys.length + 1 := by simp
  rw [e] at hown' ⊢
  exact hown'
theorem wp_appV {w : World} {ops : Array Oper} {rest : List Oper} {o : Oper} {a : Act} {Q : Exit → Act → World → Prop}
    (hgd : o.guard = none) (s x : Operand) (ho : o.op = .call { callee := .builtin .append, args := #[s, x], argTypes := #[22, 22] })
    (B : Nat) (ad : Option Addr) (n cap : Nat) (ys : List Value) (hs : a.eval s = .slice ad n cap) (hn : n = ys.length) (hown : OwnV B w ad cap ys)
    (ax : Addr) (c : Nat) (z : Value) (hx : a.eval x = .slice (some ax) 1 c) (hz : w.cell? ax = some z) (hz1' : z.oneCell' = true) (hmax : n + 1 ≤ 4000000) (hB : B ≤ w.heap.size)
    (hK : ∀ ad' cap' w', OwnV B w' ad' cap' (ys ++ [z]) → w.grownBy w' (blk ad) → (blk ad' = blk ad ∨ blk ad' = some w.heap.size) → wpList Try.prog ops Q rest (a.put o.dst (.slice ad' (ys ++ [z]).length cap')) w') :
    wpList Try.prog ops Q (o :: rest) a w :=
  wpList_plain hgd fun K hK' => op_appV s x ho B ad n cap ys hs hn hown ax c z hx hz hz1' hmax hB fun ad' cap' w' h1 h2 h3 => hK' _ _ (hK ad' cap' w' h1 h2 h3)
theorem OwnV.below {B : Nat} {w w' : World} {a : Option Addr} {cap : Nat} {ys : List Value} (h : OwnV B w a cap ys) (hb : Below w.heap.size w w') : OwnV B w' a cap ys := by
  refine ⟨h.1, ?_⟩
  rcases h.2 with h' | ⟨g, c, cur, h1, h2, h3, h4⟩
  · exact .inl h'
  · exact .inr ⟨g, c, cur, h1, h2, (hb.block g (lt_of_block h3)).trans h3, h4⟩
theorem OwnV.blkG {B : Nat} {w : World} {a : Option Addr} {c : Nat} {ys : List Value} (h : OwnV B w a c ys) : ∀ g, blk a = some g → B ≤ g := fun g hg => by
  rcases h.2 with ⟨h1, _⟩ | ⟨g', c', cur, h1, h2, _⟩
  · simp only [Value.slice.injEq] at h1
    rw [h1.1] at hg; cases hg
  · simp only [Value.slice.injEq] at h1
    rw [h1.1] at hg; cases hg; exact h2
theorem OwnV.at {B : Nat} {w : World} {a : Option Addr} {c : Nat} {ys : List Value} (h : OwnV B w a c ys) (h0 : ys.length ≠ 0) : ∃ g, a = some ⟨g, 0, none⟩ ∧ ∀ j, j < ys.length → w.cell? ⟨g, j, none⟩ = ys[j]? := by
  rcases h.2 with ⟨h1, h2⟩ | ⟨g', c', cur, h1, _⟩
  · exact absurd h2 h0
  · simp only [Value.slice.injEq] at h1
    obtain ⟨rfl, _, rfl⟩ := h1
    exact ⟨g', rfl, fun j hj => World.ownsRow.cellAt h j (by omega)⟩
theorem SL.win {w : World} {b off N c n i : Nat} {xs : List Int} (h : SL w (some ⟨b, off, none⟩) N c xs) (hi : i + n ≤ N) : SL w (some ⟨b, off + i, none⟩) n n ((xs.drop i).take n) := by
  have hl := h.1
  refine ⟨by simp; omega, ⟨Nat.le_refl _, fun e => by cases e⟩, ?_⟩
  rcases h.2.2 with h0 | ⟨b', o', e, hc⟩
  · left; simp [h0] at hl ⊢ <;> omega
  · right
    cases e
    refine ⟨b, off + i, rfl, fun j hj => ?_⟩
    have := hc (i + j) (by omega)
    rw [← Nat.add_assoc] at this
    rw [this]
    simp [List.getElem?_take, hj]
def winV (b off n i : Nat) : List Value := (List.range i).map (fun j => Value.slice (some ⟨b, off + j, none⟩) n n)
theorem winV_len (b off n i : Nat) : (winV b off n i).length = i := by simp [winV]
theorem winV_step (b off n i : Nat) : winV b off n i ++ [Value.slice (some ⟨b, off + i, none⟩) n n] = winV b off n (i + 1) := by simp [winV, List.range_succ]
theorem winV_at (b off n i j : Nat) (hj : j < i) : (winV b off n i)[j]? = some (Value.slice (some ⟨b, off + j, none⟩) n n) := by simp [winV, hj]
set_option maxRecDepth 100000 in
set_option maxHeartbeats 1600000 in
theorem windows_any (b off N c n : Nat) (xs : List Int) (w : World) (h1 : SL w (some ⟨b, off, none⟩) N c xs) (hn : 1 ≤ n) (hnN : n ≤ N) (hN : N ≤ 1000) :
    Calls Try.prog 130 #[.slice (some ⟨b, off, none⟩) N c, .int .i64 n] w fun e w' => ∃ g cap, e = .returned (.slice (some ⟨g, 0, none⟩) (N - n + 1) cap) ∧ (∀ i, i < N - n + 1 → w'.cell? ⟨g, i, none⟩ = some (.slice (some ⟨b, off + i, none⟩) n n)) ∧ Below w.heap.size w w' := by
  have hcc := h1.le
  have hO0 : Hid (OwnV w.heap.size w none 0 (winV b off n 0)) := hide (OwnV.nil _ _)
  go_enter Try.func130, Try.ntmps130
  go_wp2
  go_loopw [5, 6] (fun av ev wr => ∃ (i : Nat) (a' : Option Addr) (c' : Nat), i ≤ N - n + 1 ∧ av = .slice a' i c' ∧ ev = .int .i64 ((n : Int) + i) ∧ Hid (OwnV w.heap.size wr a' c' (winV b off n i)) ∧ Below w.heap.size w wr) (fun _ ev _ => (N + 1 - (intOf ev).toNat))
  case atStart => exact ⟨0, none, 0, by omega, rfl, by go_num, hO0, Below.refl _ _⟩
  case round =>
    obtain ⟨i, a', c', hi, rfl, rfl, hO, hb⟩ := hrel
    clear hO0
    obtain ⟨e, he⟩ : ∃ e : Nat, e = n + i := ⟨_, rfl⟩
    have hei : (n : Int) + i = (e : Int) := by omega
    rw [hei]
    have He := hide he
    clear he hei
    by_cases hlt : i < N - n + 1
    · have q1 : (e : Int) ≤ (N : Int) := by have := He.out; omega
      have q2 : (e : Int) ≤ (c : Int) := by omega
      have q3 : (0 : Int) ≤ (e : Int) := by omega
      have v1 : IntKind.i64.wrap ((e : Int) - n) = (i : Int) := by rw [show (e : Int) - n = (i : Int) by have := He.out; omega]; exact IntWalk.i64_in _ (by omega)
      have q4 : (i : Int) ≤ (e : Int) := by have := He.out; omega
      have q5 : (0 : Int) ≤ (i : Int) := by omega
      have v2 : IntKind.i64.wrap ((e : Int) + 1) = (e : Int) + 1 := IntWalk.i64_in _ (by omega)
      have q6 : ¬ i = e := by have := He.out; omega
      have hba : Below wr.heap.size wr (wr.alloc (.cells #[.slice (some ⟨b, off + i, none⟩) n n] 24)) := bl1 _ _
      have hen : e - i = n := by have := He.out; omega
      obtain ⟨vs, hvs⟩ : ∃ vs, winV b off n i = vs := ⟨_, rfl⟩
      have hst : Hid (winV b off n (i + 1) = vs ++ [Value.slice (some ⟨b, off + i, none⟩) n n]) := hide (by rw [← hvs, winV_step])
      have hvl := hide (show vs.length = i by rw [← hvs, winV_len])
      rw [hvs] at hO
      clear hvs
      have hOa := hide (hO.out.below hba)
      clear hO
      have hcl : (wr.alloc (.cells #[.slice (some ⟨b, off + i, none⟩) n n] 24)).cell? ⟨wr.heap.size, 0, none⟩ = some (.slice (some ⟨b, off + i, none⟩) n n) := by simp [go_sem]
      go_wp2_with (at_builtin; with_reducible refine wp_appV rfl _ _ rfl w.heap.size _ _ _ vs rfl hvl.out.symm hOa.out _ _ _ rfl hcl rfl (by omega) (by have := hb.size; simp; omega) ?_; intro ad' cap' w' hown' hgr hloc)
      have hvl2 := hide (show (vs ++ [Value.slice (some ⟨b, off + i, none⟩) n n]).length = i + 1 by rw [List.length_append, hvl.out]; rfl)
      have hb2 : Below w.heap.size w w' := (hb.trans (hba.mono hb.size)).grown hgr (by have := hb.size; simp; omega) (OwnV.blkG hOa.out)
      go_roundw
      case rel => exact ⟨i + 1, ad', cap', by omega, by rw [hvl.out], by rw [show (e : Int) + 1 = (n : Int) + ((i + 1 : Nat) : Int) by have := He.out; omega], by rw [hst.out]; exact hide hown', hb2⟩
      case measure => simp [intOf]; omega
    · have q1 : ¬ (e : Int) ≤ (N : Int) := by have := He.out; omega
      have hiN : i = N - n + 1 := by omega
      obtain ⟨g, rfl, hat⟩ := OwnV.at hO.out (by rw [winV_len]; omega)
      rw [winV_len] at hat
      have hat2 := hide hat
      have HI := hide hiN
      clear hO hat hiN
      go_wp2
      refine bodyPost_ret (v := .slice (some ⟨g, 0, none⟩) i c') (by simp [results, Try.results130]) rfl ?_
      exact ⟨g, ⟨c', by rw [← HI.out]⟩, fun j hj => by rw [hat2.out j (by rw [HI.out]; exact hj), winV_at _ _ _ _ _ (by rw [HI.out]; exact hj)], hb⟩
/-- A list to which multiples of lists are added, one after the other. -/
def funF (p : Int) (f : List Int) (R : Nat → List Int) (ys : List Int) : Nat → List Int
  | 0 => ys
  | i + 1 => addlM p (f.getD i 0) (funF p f R ys i) (R i)
theorem funF_len (p : Int) (f : List Int) (R : Nat → List Int) (ys : List Int) (i : Nat) : (funF p f R ys i).length = ys.length := by
  induction i with
  | zero => rfl
  | succ i ih => rw [funF, addlM_len, ih]
theorem funF_are {p : Int} (hp : 2 ≤ p) (f : List Int) (R : Nat → List Int) (ys : List Int) (hy : areB p ys = true) (i : Nat) : areB p (funF p f R ys i) = true := by
  cases i with
  | zero => exact hy
  | succ i => exact addlM_are hp _ _ _
set_option maxRecDepth 100000 in
set_option maxHeartbeats 1600000 in
theorem functional_lists (p : Int) (a1 : Option Addr) (n1 c1 : Nat) (f : List Int) (g cnt cap : Nat) (A : Nat → Option Addr) (C : Nat → Nat) (R : Nat → List Int) (a3 : Option Addr) (n c3 : Nat) (ys : List Int) (B : Nat) (w : World)
    (h1 : SL w a1 n1 c1 f) (hcell : ∀ i, i < n1 → w.cell? ⟨g, i, none⟩ = some (.slice (A i) n (C i))) (hrow : ∀ i, i < n1 → SL w (A i) n (C i) (R i)) (hcnt : n1 ≤ cnt) (ho : Own B w a3 c3 ys) (hB : B ≤ w.heap.size) (hyl : ys.length = n)
    (b1 : n1 ≤ 1000) (b2 : n ≤ 1000) (hp : 2 ≤ p) (hp2 : p ≤ 10007) (hf : areB p f = true) (hR : ∀ i, i < n1 → areB p (R i) = true) (hy : areB p ys = true) :
    Calls Try.prog 120 #[.int .i64 p, .slice a1 n1 c1, .slice (some ⟨g, 0, none⟩) cnt cap, .slice a3 n c3, .func (.func 121) #[] #[]] w
      fun e w' => ∃ a' c', e = .returned (.slice a' n c') ∧ Own B w' a' c' (funF p f R ys n1) ∧ Below w.heap.size w w' := by
  have hl1 := hide h1.len
  have Hf := hide hf
  have Hy := hide hy
  have HR := hide hR
  have Hcell := hide hcell
  have Hrow := hide hrow
  have hO0 : Hid (Own B w a3 c3 (funF p f R ys 0)) := hide ho
  have Hyl := hide hyl
  clear hf hy hR hcell hrow ho hyl
  by_cases h0 : n1 = 0
  · subst h0
    go_enter Try.func120, Try.ntmps120
    go_wp2
    refine wp_loop_rounds 1 ?_
    rw [rounds_succ]
    go_wp2
    refine bodyPost_ret (v := .slice a3 n c3) (by simp [results, Try.results120]) rfl ?_
    exact ⟨a3, c3, rfl, hO0.out, Below.refl _ _⟩
  obtain ⟨b, off, rfl, hbw, hcell'⟩ := h1.at (by omega)
  have Hc' := hide hcell'
  clear h1 hcell'
  have hb0 := Below.refl w.heap.size w
  go_enter Try.func120, Try.ntmps120
  go_wp2
  go_loopw [3, 15] (fun sv iv wr => ∃ (i : Nat) (a' : Option Addr) (c' : Nat), i ≤ n1 ∧ iv = .int .i64 i ∧ sv = .slice a' n c' ∧ Hid (Own B wr a' c' (funF p f R ys i)) ∧ Below w.heap.size w wr) (fun _ iv _ => n1 - (intOf iv).toNat)
  case atStart => exact ⟨0, a3, c3, by omega, rfl, rfl, hO0, hb0⟩
  case round =>
    obtain ⟨i, a', c', hi, rfl, rfl, hO, hb⟩ := hrel
    clear hO0 hb0
    by_cases hlt : i < n1
    · have e1 := cell_be hb (Hc'.out i hlt)
      have e2 := cell_be hb (Hcell.out i hlt)
      have e3 := (Hrow.out i hlt).below hb
      have r1 := getD_rng Hf.out hp i
      have hst : Hid (funF p f R ys (i + 1) = addlM p (f.getD i 0) (funF p f R ys i) (R i)) := hide rfl
      have hl3 := hide (show (funF p f R ys i).length = n by rw [funF_len, Hyl.out])
      have ar := hide (funF_are hp f R ys Hy.out i)
      have ar2 := hide (HR.out i hlt)
      obtain ⟨x, hx⟩ : ∃ x, f.getD i 0 = x := ⟨_, rfl⟩
      obtain ⟨zs, hzs⟩ : ∃ zs, funF p f R ys i = zs := ⟨_, rfl⟩
      obtain ⟨rs, hrs⟩ : ∃ rs, R i = rs := ⟨_, rfl⟩
      obtain ⟨Ai, hAi⟩ : ∃ Ai, A i = Ai := ⟨_, rfl⟩
      obtain ⟨Ci, hCi⟩ : ∃ Ci, C i = Ci := ⟨_, rfl⟩
      rw [hAi, hCi] at e2 e3
      rw [hrs] at e3 hst ar2
      rw [hx] at e1 hst r1
      rw [hzs] at hst hl3 ar hO
      clear hx hzs hrs hAi hCi
      have s1 := Own.sl hO.out
      rw [hl3.out] at s1
      have S1 := s1
      have hlt' : (i : Int) < (n1 : Int) := by omega
      have hlt2 : (i : Int) < (cnt : Int) := by omega
      go_wp2_with fail
      refine (addList_any p x _ _ _ zs _ _ _ rs _ S1 e3 b2 (Nat.le_refl _) hp hp2 r1.1 r1.2 ar.out ar2.out).mono ?_
      rintro e w' ⟨a2, rfl, ho2, hb2⟩
      have hB2 : B ≤ wr.heap.size := Nat.le_trans hB hb.size
      have hbn := hb.trans (hb2.mono hb.size)
      have hoN : Hid (Own B w' a2 n (funF p f R ys (i + 1))) := hide (by rw [hst.out]; exact ho2.mono hB2)
      go_wp2
      go_roundw
      case rel => exact ⟨i + 1, a2, n, by omega, by go_num, rfl, hoN, hbn⟩
      case measure => simp [intOf]; omega
    · obtain rfl : i = n1 := by omega
      have hlt' : ¬ (i : Int) < (i : Int) := by omega
      go_wp2
      refine bodyPost_ret (v := .slice a' n c') (by simp [results, Try.results120]) rfl ?_
      exact ⟨a', c', rfl, hO.out, hb⟩
end Go.Proofs.Ytmdfgibpkfkceaa
