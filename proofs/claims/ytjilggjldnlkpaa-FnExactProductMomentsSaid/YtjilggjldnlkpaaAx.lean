/- Contracts: addList, AddMoments (program). -/
import Derived.Test.YtjilggjldnlkpaaSm
import Derived.Test.YtjilggjldnlkpaaJa
import Derived.Test.YtjilggjldnlkpaaAf
import Derived.Test.YtjilggjldnlkpaaWa
import Derived.Deep.AppendLies
import Derived.Deep.RegionHeld3
import Derived.Deep.DrawnRows
namespace Go.Proofs.Ytjilggjldnlkpaa
open Go.RowKit
set_option linter.unusedVariables false
set_option linter.unusedSimpArgs false

/-- The first m numbers of a sum. -/
def alH (p k : Int) (xs ys : List Int) (m : Nat) : Nat → Int := fun j => if j < m then (xs.getD j 0 + k * ys.getD j 0) % p else 0
theorem alH_step (p k : Int) (xs ys : List Int) (N m : Nat) : (tab N (alH p k xs ys m)).set m ((xs.getD m 0 + k * ys.getD m 0) % p) = tab N (alH p k xs ys (m + 1)) := by
  rw [tab_set]
  apply tab_congr
  intro j _
  unfold alH
  by_cases e : j = m
  · subst e; simp
  · rw [if_neg e]
    by_cases h : j < m
    · rw [if_pos h, if_pos (by omega)]
    · rw [if_neg h, if_neg (by omega)]
theorem alH_all (p k : Int) (xs ys : List Int) (N : Nat) (h : xs.length = N) : tab N (alH p k xs ys N) = addlM p k xs ys := by
  unfold addlM
  rw [h]
  apply tab_congr
  intro j hj
  unfold alH
  rw [if_pos hj]
theorem addlM_nil (p k : Int) (ys : List Int) : addlM p k [] ys = [] := rfl
set_option maxRecDepth 100000 in
set_option maxHeartbeats 1600000 in
theorem addList_any (p k : Int) (a1 : Option Addr) (n1 c1 : Nat) (xs : List Int) (a2 : Option Addr) (n2 c2 : Nat) (ys : List Int) (w : World) (h1 : SL w a1 n1 c1 xs) (h2 : SL w a2 n2 c2 ys)
    (b1 : n1 ≤ 1000) (hn : n1 ≤ n2) (hp : 2 ≤ p) (hp2 : p ≤ 10007) (hk0 : 0 ≤ k) (hk1 : k < p) (hx : areB p xs = true) (hy : areB p ys = true) :
    Calls Try.prog 89 #[.int .i64 p, .slice a1 n1 c1, .int .i64 k, .slice a2 n2 c2] w fun e w' => ∃ a', e = .returned (.slice a' n1 n1) ∧ Own w.heap.size w' a' n1 (addlM p k xs ys) ∧ Below w.heap.size w w' := by
  have hl1 := hide h1.len
  have Hx := hide hx
  have Hy := hide hy
  clear hx hy
  by_cases h0 : n1 = 0
  · subst h0
    obtain rfl := h1.empty
    go_enter Try.func89, Try.ntmps89
    go_wp2_with (at_make; refine wp_make rfl _ _ rfl _ _ 0 rfl rfl rfl rfl (by omega) ?_; intro w1 hrow hb hsz)
    refine wp_loop_rounds 1 ?_
    rw [rounds_succ]
    go_wp2
    go_ret
    exact ⟨_, rfl, (hrow.out.own' (Nat.le_refl _) (by simp)), hb⟩
  obtain ⟨b, off, rfl, hbw, hcell⟩ := h1.at (by omega)
  obtain ⟨b', off', rfl, hbw', hcell'⟩ := h2.at (by omega)
  clear h1 h2
  go_enter Try.func89, Try.ntmps89
  go_wp2_with (at_make; refine wp_make rfl _ _ rfl _ _ n1 rfl rfl rfl rfl (by omega) ?_; intro w1 hrow hb hsz)
  have hrow2 : Hid (RowI w1 w.heap.size (tab n1 (alH p k xs ys 0))) := hide (by
    have := hrow.out
    rw [tab_zero] at this
    have e : tab n1 (alH p k xs ys 0) = tab n1 (fun _ => 0) := tab_congr (fun j _ => by simp [alH])
    rwa [e])
  clear hrow
  go_loopw [17] (fun i wr => ∃ m : Nat, m ≤ n1 ∧ i = .int .i64 m ∧ Hid (RowI wr w.heap.size (tab n1 (alH p k xs ys m))) ∧ Below w.heap.size w wr ∧ w.heap.size < wr.heap.size) (fun i _ => n1 - (intOf i).toNat)
  case atStart => exact ⟨0, by omega, rfl, hrow2, hb, hsz⟩
  case round =>
    obtain ⟨m, hm, rfl, hR, hbr, hsr⟩ := hrel
    clear hrow2 hb hsz
    by_cases hlt : m < n1
    · have e1 : wr.cell? ⟨b, off + m, none⟩ = some (.int .i64 (xs.getD m 0)) := cell_be hbr (hcell m hlt)
      have e2 : wr.cell? ⟨b', off' + m, none⟩ = some (.int .i64 (ys.getD m 0)) := cell_be hbr (hcell' m (by omega))
      have e3 := hR.out.cell m (by rw [tab_len]; omega)
      have hfr := hR.out.free m
      have hset := hR.out.set m ((xs.getD m 0 + k * ys.getD m 0) % p)
      rw [alH_step] at hset
      have r1 := getD_rng Hx.out hp m
      have r2 := getD_rng Hy.out hp m
      obtain ⟨x, hx⟩ : ∃ x, xs.getD m 0 = x := ⟨_, rfl⟩
      obtain ⟨y, hy⟩ : ∃ y, ys.getD m 0 = y := ⟨_, rfl⟩
      rw [hx] at e1 hset r1
      rw [hy] at e2 hset r2
      have Hset := hide hset
      clear hset hcell hcell' hx hy
      have hlt' : (m : Int) < (n1 : Int) := by omega
      have hlt2 : (m : Int) < (n2 : Int) := by omega
      go_wp2_with (go_at_call 112; refine (addNumber_any p x k y _ hp hp2 r1.1 r1.2 hk0 hk1 r2.1 r2.2).mono ?_; rintro e w' ⟨rfl, rfl⟩)
      go_roundw
      case rel => exact ⟨m + 1, by omega, by go_num, Hset, hbr.setCell (by simp) _, by simpa using hsr⟩
      case measure => simp [intOf]; omega
    · obtain rfl : m = n1 := by omega
      have ho : Own w.heap.size wr (some ⟨w.heap.size, 0, none⟩) m (addlM p k xs ys) := by
        have h2 := hR.out
        rw [alH_all _ _ _ _ _ hl1.out] at h2
        have h3 := h2.own' (Nat.le_refl _) (by rw [addlM_len, hl1.out]; unfold maxLen; omega)
        rwa [addlM_len, hl1.out] at h3
      clear hcell hcell'
      go_wp2
      go_ret
      exact ⟨_, rfl, ho, hbr⟩
def adC (p : Int) (xs : List Int) (q : Int) (ys : List Int) (k : Int) : Int := if momB p xs && momB q ys then (if p = q ∧ xs.length = ys.length ∧ 0 ≤ k ∧ k < p then 0 else 2) else 1
def adV (p : Int) (xs : List Int) (q : Int) (ys : List Int) (k : Int) : List Int := if adC p xs q ys k = 0 then addlM p k xs ys else []
def adP (p : Int) (xs : List Int) (q : Int) (ys : List Int) (k : Int) : Int := if adC p xs q ys k = 0 then p else 0
set_option maxRecDepth 100000 in
set_option maxHeartbeats 1600000 in
theorem implAddMoments (p : Int) (a1 : Option Addr) (n1 c1 : Nat) (xs : List Int) (q : Int) (a2 : Option Addr) (n2 c2 : Nat) (ys : List Int) (k : Int) (w : World) (h1 : SL w a1 n1 c1 xs) (h2 : SL w a2 n2 c2 ys) (b1 : n1 ≤ 4000000) (b2 : n2 ≤ 4000000) :
    Calls Try.prog 47 #[mom p a1 n1 c1, mom q a2 n2 c2, .int .i64 k] w (ResM w (adP p xs q ys k) (adV p xs q ys k) (adC p xs q ys k)) := by
  have hl1 := hide h1.len
  have hl2 := hide h2.len
  have hb0 := bl3 w (.cells #[.int .i64 p, .slice a1 n1 c1] 50) (.cells #[.int .i64 q, .slice a2 n2 c2] 50) (.cells #[.int .i64 0, .slice none 0 0] 50)
  have g1 := h1.below hb0
  have g2 := h2.below hb0
  have hz0 : w.heap.size + 2 < (((w.alloc (.cells #[.int .i64 p, .slice a1 n1 c1] 50)).alloc (.cells #[.int .i64 q, .slice a2 n2 c2] 50)).alloc (.cells #[.int .i64 0, .slice none 0 0] 50)).heap.size := by simp
  cases hm1 : momB p xs
  · have Hm1 := hide hm1
    have HC := hide (show adC p xs q ys k = 1 by simp [adC, hm1])
    have HV := hide (show adV p xs q ys k = [] by simp [adV, HC.out])
    have HQ := hide (show adP p xs q ys k = 0 by simp [adP, HC.out])
    clear hm1
    go_enter Try.func47, Try.ntmps47
    go_wp2_with fail
    refine (areMoments_any _ _ _ _ _ _ g1 b1).mono ?_
    rintro e w1 ⟨rfl, t1⟩
    rw [Hm1.out]
    have p0 : w1.cell? ⟨w.heap.size, 0, none⟩ = some (.int .i64 p) := cell_be t1 (by simp [go_sem])
    have p1 : w1.cell? ⟨w.heap.size, 1, none⟩ = some (.slice a1 n1 c1) := cell_be t1 (by simp [go_sem])
    have q0 : w1.cell? ⟨w.heap.size + 1, 0, none⟩ = some (.int .i64 q) := cell_be t1 (by simp [go_sem])
    have q1 : w1.cell? ⟨w.heap.size + 1, 1, none⟩ = some (.slice a2 n2 c2) := cell_be t1 (by simp [go_sem])
    have r0 : w1.cell? ⟨w.heap.size + 1 + 1, 0, none⟩ = some (.int .i64 0) := cell_be t1 (by simp [go_sem])
    have r1 : w1.cell? ⟨w.heap.size + 1 + 1, 1, none⟩ = some (.slice none 0 0) := cell_be t1 (by simp [go_sem])
    have y0 : w1.frozen? ⟨w.heap.size + 1 + 1, 0, none⟩ = false := (t1.frozen (by simp)).trans (by simp [go_sem])
    have y1 : w1.frozen? ⟨w.heap.size + 1 + 1, 1, none⟩ = false := (t1.frozen (by simp)).trans (by simp [go_sem])
    have hB := bnext hb0 t1
    have hz := t1.size
    go_wp2
    refine bodyPost_ret (v := .tuple #[mom 0 none 0 0, .int .i64 1]) (by simp [results, Try.results47, go_sem, r0, r1]) rfl ?_
    exact ResM.nil HQ.out HV.out HC.out ((hB.setCell (by simp <;> omega) _).setCell (by simp <;> omega) _)
  · have Hm1 := hide hm1
    cases hm2 : momB q ys
    · have Hm2 := hide hm2
      have HC := hide (show adC p xs q ys k = 1 by simp [adC, hm2])
      have HV := hide (show adV p xs q ys k = [] by simp [adV, HC.out])
      have HQ := hide (show adP p xs q ys k = 0 by simp [adP, HC.out])
      clear hm1 hm2
      go_enter Try.func47, Try.ntmps47
      go_wp2_with fail
      refine (areMoments_any _ _ _ _ _ _ g1 b1).mono ?_
      rintro e w1 ⟨rfl, t1⟩
      rw [Hm1.out]
      have p0 : w1.cell? ⟨w.heap.size, 0, none⟩ = some (.int .i64 p) := cell_be t1 (by simp [go_sem])
      have p1 : w1.cell? ⟨w.heap.size, 1, none⟩ = some (.slice a1 n1 c1) := cell_be t1 (by simp [go_sem])
      have q0 : w1.cell? ⟨w.heap.size + 1, 0, none⟩ = some (.int .i64 q) := cell_be t1 (by simp [go_sem])
      have q1 : w1.cell? ⟨w.heap.size + 1, 1, none⟩ = some (.slice a2 n2 c2) := cell_be t1 (by simp [go_sem])
      have r0 : w1.cell? ⟨w.heap.size + 1 + 1, 0, none⟩ = some (.int .i64 0) := cell_be t1 (by simp [go_sem])
      have r1 : w1.cell? ⟨w.heap.size + 1 + 1, 1, none⟩ = some (.slice none 0 0) := cell_be t1 (by simp [go_sem])
      have y0 : w1.frozen? ⟨w.heap.size + 1 + 1, 0, none⟩ = false := (t1.frozen (by simp)).trans (by simp [go_sem])
      have y1 : w1.frozen? ⟨w.heap.size + 1 + 1, 1, none⟩ = false := (t1.frozen (by simp)).trans (by simp [go_sem])
      have hB := bnext hb0 t1
      have hz := t1.size
      go_wp2_with fail
      refine (areMoments_any _ _ _ _ _ _ (g2.below t1) b2).mono ?_
      rintro e w2 ⟨rfl, t2⟩
      rw [Hm2.out]
      replace p0 := cell_be t2 p0
      replace p1 := cell_be t2 p1
      replace q0 := cell_be t2 q0
      replace q1 := cell_be t2 q1
      replace y0 := (t2.frozen (World.block_lt_of_cell? _ _ r0)).trans y0
      replace y1 := (t2.frozen (World.block_lt_of_cell? _ _ r1)).trans y1
      replace r0 := cell_be t2 r0
      replace r1 := cell_be t2 r1
      have hB2 := bnext hB t2
      have hz2 := t2.size
      replace hB := hB2
      go_wp2
      refine bodyPost_ret (v := .tuple #[mom 0 none 0 0, .int .i64 1]) (by simp [results, Try.results47, go_sem, r0, r1]) rfl ?_
      exact ResM.nil HQ.out HV.out HC.out ((hB.setCell (by simp <;> omega) _).setCell (by simp <;> omega) _)
    · have Hm2 := hide hm2
      by_cases hpq : p = q
      · subst hpq
        by_cases hnn : n1 = n2
        · subst hnn
          obtain ⟨hpr, k1, k2, hxa⟩ := momB_rng hm1
          obtain ⟨_, _, _, hya⟩ := momB_rng hm2
          obtain ⟨hp, hp2⟩ := primeB_lo hpr
          rw [hl1.out] at k1 k2
          by_cases hk : 0 ≤ k ∧ k < p
          · have HC := hide (show adC p xs p ys k = 0 by simp [adC, hm1, hm2, hl1.out, hl2.out, hk])
            have HV := hide (show adV p xs p ys k = addlM p k xs ys by simp [adV, HC.out])
            have HQ := hide (show adP p xs p ys k = p by simp [adP, HC.out])
            have Hxa := hide hxa
            have Hya := hide hya
            clear hm1 hm2 hxa hya hpr
            go_enter Try.func47, Try.ntmps47
            go_wp2_with fail
            refine (areMoments_any _ _ _ _ _ _ g1 b1).mono ?_
            rintro e w1 ⟨rfl, t1⟩
            rw [Hm1.out]
            have p0 : w1.cell? ⟨w.heap.size, 0, none⟩ = some (.int .i64 p) := cell_be t1 (by simp [go_sem])
            have p1 : w1.cell? ⟨w.heap.size, 1, none⟩ = some (.slice a1 n1 c1) := cell_be t1 (by simp [go_sem])
            have q0 : w1.cell? ⟨w.heap.size + 1, 0, none⟩ = some (.int .i64 p) := cell_be t1 (by simp [go_sem])
            have q1 : w1.cell? ⟨w.heap.size + 1, 1, none⟩ = some (.slice a2 n1 c2) := cell_be t1 (by simp [go_sem])
            have r0 : w1.cell? ⟨w.heap.size + 1 + 1, 0, none⟩ = some (.int .i64 0) := cell_be t1 (by simp [go_sem])
            have r1 : w1.cell? ⟨w.heap.size + 1 + 1, 1, none⟩ = some (.slice none 0 0) := cell_be t1 (by simp [go_sem])
            have y0 : w1.frozen? ⟨w.heap.size + 1 + 1, 0, none⟩ = false := (t1.frozen (by simp)).trans (by simp [go_sem])
            have y1 : w1.frozen? ⟨w.heap.size + 1 + 1, 1, none⟩ = false := (t1.frozen (by simp)).trans (by simp [go_sem])
            have hB := bnext hb0 t1
            have hz := t1.size
            go_wp2_with fail
            refine (areMoments_any _ _ _ _ _ _ (g2.below t1) b2).mono ?_
            rintro e w2 ⟨rfl, t2⟩
            rw [Hm2.out]
            replace p0 := cell_be t2 p0
            replace p1 := cell_be t2 p1
            replace q0 := cell_be t2 q0
            replace q1 := cell_be t2 q1
            replace y0 := (t2.frozen (World.block_lt_of_cell? _ _ r0)).trans y0
            replace y1 := (t2.frozen (World.block_lt_of_cell? _ _ r1)).trans y1
            replace r0 := cell_be t2 r0
            replace r1 := cell_be t2 r1
            have hB2 := bnext hB t2
            have hz2 := t2.size
            replace hB := hB2
            go_wp2_with fail
            refine (isNumber_yes _ _ _ hk.1 hk.2).mono ?_
            rintro e w2' ⟨rfl, rfl⟩
            have hbd := (Below.refl w2.heap.size w2).drew
            have F : ∀ w', Below w2.heap.size w2 w' → w'.cell? ⟨w.heap.size, 0, none⟩ = some (.int .i64 p) ∧ w'.cell? ⟨w.heap.size, 1, none⟩ = some (.slice a1 n1 c1) ∧ w'.cell? ⟨w.heap.size + 1, 1, none⟩ = some (.slice a2 n1 c2) := fun w' hb => ⟨cell_be hb p0, cell_be hb p1, cell_be hb q1⟩
            have hzz : w.heap.size + 3 ≤ w2.heap.size := by simp at hz; omega
            go_upto_region 5 with fail
            go_region_held3 (fun w' => w'.cell? ⟨w.heap.size, 0, none⟩ = some (.int .i64 p) ∧ w'.cell? ⟨w.heap.size, 1, none⟩ = some (.slice a1 n1 c1) ∧ w'.cell? ⟨w.heap.size + 1, 1, none⟩ = some (.slice a2 n1 c2))
              (first | exact F _ (by assumption) | exact ⟨cell_set2 (cell_set2 x0 (by simp <;> omega) _) (by simp <;> omega) _, cell_set2 (cell_set2 x1 (by simp <;> omega) _) (by simp <;> omega) _, cell_set2 (cell_set2 x2 (by simp <;> omega) _) (by simp <;> omega) _⟩)
              (first
              | (go_at_call 89; refine (addList_any p k _ _ _ xs _ _ _ ys _ (((g1.below t1).below t2).below hbd) (((g2.below t1).below t2).below hbd) (by omega) (Nat.le_refl _) hp hp2 hk.1 hk.2 Hxa.out Hya.out).mono ?_; rintro e w3 ⟨a', rfl, ho, t3'⟩; have t3 := bnext hbd t3'; obtain ⟨x0, x1, x2⟩ := F _ t3; have r0' := cell_be t3 r0; have r1' := cell_be t3 r1; have y0' := (t3.frozen (World.block_lt_of_cell? _ _ r0)).trans y0; have y1' := (t3.frozen (World.block_lt_of_cell? _ _ r1)).trans y1))
            all_goals go_wp2
            refine bodyPost_ret (v := .tuple #[mom p a' n1 n1, .int .i64 0]) (by simp [results, Try.results47, go_sem, r0', r1']) rfl ?_
            exact ResM.own HQ.out HC.out (by rw [HV.out, addlM_len, hl1.out]) (by rw [HV.out]; exact ((ho.setLow (by simp <;> omega) _).setLow (by simp <;> omega) _).mono (by simp <;> omega)) (by rw [HV.out, addlM_len, hl1.out]; omega) (((hB.trans (t3.mono (by omega))).setCell (by simp <;> omega) _).setCell (by simp <;> omega) _)
          · have Hk := hide hk
            have HC := hide (show adC p xs p ys k = 2 by simp only [adC, hm1, hm2, Bool.and_self, if_true]; rw [if_neg (by omega)])
            have HV := hide (show adV p xs p ys k = [] by simp [adV, HC.out])
            have HQ := hide (show adP p xs p ys k = 0 by simp [adP, HC.out])
            clear hm1 hm2 hk
            go_enter Try.func47, Try.ntmps47
            go_wp2_with fail
            refine (areMoments_any _ _ _ _ _ _ g1 b1).mono ?_
            rintro e w1 ⟨rfl, t1⟩
            rw [Hm1.out]
            have p0 : w1.cell? ⟨w.heap.size, 0, none⟩ = some (.int .i64 p) := cell_be t1 (by simp [go_sem])
            have p1 : w1.cell? ⟨w.heap.size, 1, none⟩ = some (.slice a1 n1 c1) := cell_be t1 (by simp [go_sem])
            have q0 : w1.cell? ⟨w.heap.size + 1, 0, none⟩ = some (.int .i64 p) := cell_be t1 (by simp [go_sem])
            have q1 : w1.cell? ⟨w.heap.size + 1, 1, none⟩ = some (.slice a2 n1 c2) := cell_be t1 (by simp [go_sem])
            have r0 : w1.cell? ⟨w.heap.size + 1 + 1, 0, none⟩ = some (.int .i64 0) := cell_be t1 (by simp [go_sem])
            have r1 : w1.cell? ⟨w.heap.size + 1 + 1, 1, none⟩ = some (.slice none 0 0) := cell_be t1 (by simp [go_sem])
            have y0 : w1.frozen? ⟨w.heap.size + 1 + 1, 0, none⟩ = false := (t1.frozen (by simp)).trans (by simp [go_sem])
            have y1 : w1.frozen? ⟨w.heap.size + 1 + 1, 1, none⟩ = false := (t1.frozen (by simp)).trans (by simp [go_sem])
            have hB := bnext hb0 t1
            have hz := t1.size
            go_wp2_with fail
            refine (areMoments_any _ _ _ _ _ _ (g2.below t1) b2).mono ?_
            rintro e w2 ⟨rfl, t2⟩
            rw [Hm2.out]
            replace p0 := cell_be t2 p0
            replace p1 := cell_be t2 p1
            replace q0 := cell_be t2 q0
            replace q1 := cell_be t2 q1
            replace y0 := (t2.frozen (World.block_lt_of_cell? _ _ r0)).trans y0
            replace y1 := (t2.frozen (World.block_lt_of_cell? _ _ r1)).trans y1
            replace r0 := cell_be t2 r0
            replace r1 := cell_be t2 r1
            have hB2 := bnext hB t2
            have hz2 := t2.size
            replace hB := hB2
            go_wp2_with fail
            refine (isNumber_no _ _ _ Hk.out).mono ?_
            rintro e w2' ⟨rfl, rfl⟩
            go_wp2
            refine bodyPost_ret (v := .tuple #[mom 0 none 0 0, .int .i64 2]) (by simp [results, Try.results47, go_sem, r0, r1]) rfl ?_
            exact ResM.nil HQ.out HV.out HC.out ((hB.setCell (by simp <;> omega) _).setCell (by simp <;> omega) _)
        · have HC := hide (show adC p xs p ys k = 2 by simp only [adC, hm1, hm2, Bool.and_self, if_true]; rw [if_neg (by rw [hl1.out, hl2.out]; omega)])
          have HV := hide (show adV p xs p ys k = [] by simp [adV, HC.out])
          have HQ := hide (show adP p xs p ys k = 0 by simp [adP, HC.out])
          clear hm1 hm2
          go_enter Try.func47, Try.ntmps47
          go_wp2_with fail
          refine (areMoments_any _ _ _ _ _ _ g1 b1).mono ?_
          rintro e w1 ⟨rfl, t1⟩
          rw [Hm1.out]
          have p0 : w1.cell? ⟨w.heap.size, 0, none⟩ = some (.int .i64 p) := cell_be t1 (by simp [go_sem])
          have p1 : w1.cell? ⟨w.heap.size, 1, none⟩ = some (.slice a1 n1 c1) := cell_be t1 (by simp [go_sem])
          have q0 : w1.cell? ⟨w.heap.size + 1, 0, none⟩ = some (.int .i64 p) := cell_be t1 (by simp [go_sem])
          have q1 : w1.cell? ⟨w.heap.size + 1, 1, none⟩ = some (.slice a2 n2 c2) := cell_be t1 (by simp [go_sem])
          have r0 : w1.cell? ⟨w.heap.size + 1 + 1, 0, none⟩ = some (.int .i64 0) := cell_be t1 (by simp [go_sem])
          have r1 : w1.cell? ⟨w.heap.size + 1 + 1, 1, none⟩ = some (.slice none 0 0) := cell_be t1 (by simp [go_sem])
          have y0 : w1.frozen? ⟨w.heap.size + 1 + 1, 0, none⟩ = false := (t1.frozen (by simp)).trans (by simp [go_sem])
          have y1 : w1.frozen? ⟨w.heap.size + 1 + 1, 1, none⟩ = false := (t1.frozen (by simp)).trans (by simp [go_sem])
          have hB := bnext hb0 t1
          have hz := t1.size
          go_wp2_with fail
          refine (areMoments_any _ _ _ _ _ _ (g2.below t1) b2).mono ?_
          rintro e w2 ⟨rfl, t2⟩
          rw [Hm2.out]
          replace p0 := cell_be t2 p0
          replace p1 := cell_be t2 p1
          replace q0 := cell_be t2 q0
          replace q1 := cell_be t2 q1
          replace y0 := (t2.frozen (World.block_lt_of_cell? _ _ r0)).trans y0
          replace y1 := (t2.frozen (World.block_lt_of_cell? _ _ r1)).trans y1
          replace r0 := cell_be t2 r0
          replace r1 := cell_be t2 r1
          have hB2 := bnext hB t2
          have hz2 := t2.size
          replace hB := hB2
          go_wp2
          refine bodyPost_ret (v := .tuple #[mom 0 none 0 0, .int .i64 2]) (by simp [results, Try.results47, go_sem, r0, r1]) rfl ?_
          exact ResM.nil HQ.out HV.out HC.out ((hB.setCell (by simp <;> omega) _).setCell (by simp <;> omega) _)
      · have HC := hide (show adC p xs q ys k = 2 by simp only [adC, hm1, hm2, Bool.and_self, if_true]; rw [if_neg (fun h => hpq h.1)])
        have HV := hide (show adV p xs q ys k = [] by simp [adV, HC.out])
        have HQ := hide (show adP p xs q ys k = 0 by simp [adP, HC.out])
        clear hm1 hm2
        go_enter Try.func47, Try.ntmps47
        go_wp2_with fail
        refine (areMoments_any _ _ _ _ _ _ g1 b1).mono ?_
        rintro e w1 ⟨rfl, t1⟩
        rw [Hm1.out]
        have p0 : w1.cell? ⟨w.heap.size, 0, none⟩ = some (.int .i64 p) := cell_be t1 (by simp [go_sem])
        have p1 : w1.cell? ⟨w.heap.size, 1, none⟩ = some (.slice a1 n1 c1) := cell_be t1 (by simp [go_sem])
        have q0 : w1.cell? ⟨w.heap.size + 1, 0, none⟩ = some (.int .i64 q) := cell_be t1 (by simp [go_sem])
        have q1 : w1.cell? ⟨w.heap.size + 1, 1, none⟩ = some (.slice a2 n2 c2) := cell_be t1 (by simp [go_sem])
        have r0 : w1.cell? ⟨w.heap.size + 1 + 1, 0, none⟩ = some (.int .i64 0) := cell_be t1 (by simp [go_sem])
        have r1 : w1.cell? ⟨w.heap.size + 1 + 1, 1, none⟩ = some (.slice none 0 0) := cell_be t1 (by simp [go_sem])
        have y0 : w1.frozen? ⟨w.heap.size + 1 + 1, 0, none⟩ = false := (t1.frozen (by simp)).trans (by simp [go_sem])
        have y1 : w1.frozen? ⟨w.heap.size + 1 + 1, 1, none⟩ = false := (t1.frozen (by simp)).trans (by simp [go_sem])
        have hB := bnext hb0 t1
        have hz := t1.size
        go_wp2_with fail
        refine (areMoments_any _ _ _ _ _ _ (g2.below t1) b2).mono ?_
        rintro e w2 ⟨rfl, t2⟩
        rw [Hm2.out]
        replace p0 := cell_be t2 p0
        replace p1 := cell_be t2 p1
        replace q0 := cell_be t2 q0
        replace q1 := cell_be t2 q1
        replace y0 := (t2.frozen (World.block_lt_of_cell? _ _ r0)).trans y0
        replace y1 := (t2.frozen (World.block_lt_of_cell? _ _ r1)).trans y1
        replace r0 := cell_be t2 r0
        replace r1 := cell_be t2 r1
        have hB2 := bnext hB t2
        have hz2 := t2.size
        replace hB := hB2
        go_wp2
        refine bodyPost_ret (v := .tuple #[mom 0 none 0 0, .int .i64 2]) (by simp [results, Try.results47, go_sem, r0, r1]) rfl ?_
        exact ResM.nil HQ.out HV.out HC.out ((hB.setCell (by simp <;> omega) _).setCell (by simp <;> omega) _)
end Go.Proofs.Ytjilggjldnlkpaa
