/- Merged texts. -/
import Derived.Test.YtkpmonopjkjflaaYC422
import Derived.Test.YtkpmonopjkjflaaYC418
import Derived.Test.YtkpmonopjkjflaaYC427
/- Contracts: RadauJacobi (program). -/
namespace Go.Proofs.Ytkpmonopjkjflaa
open Go.RowKit
set_option linter.unusedVariables false
set_option linter.unusedSimpArgs false

/-- The polynomial ahead of the last but one. -/
def radB (p : Int) (xs ys : List Int) : List Int := if xs.length < 2 then [] else polJ p xs ys (xs.length - 2)
def radE (p : Int) (xs ys : List Int) (c : Int) : Int := evM p (polJ p xs ys (xs.length - 1)) c
def radX (p : Int) (xs ys : List Int) (c : Int) : Int := (c + opp p (ys.getD (xs.length - 1) 0) * (evM p (radB p xs ys) c * invM p (radE p xs ys c) % p)) % p
def radC (p : Int) (xs ys : List Int) (c : Int) : Int := if jacB p xs ys then (if 0 ≤ c ∧ c < p then (if radE p xs ys c = 0 then 5 else 0) else 2) else 1
def radP (p : Int) (xs ys : List Int) (c : Int) : Int := if radC p xs ys c = 0 then p else 0
def radV (p : Int) (xs ys : List Int) (c : Int) : List Int := if radC p xs ys c = 0 then xs.set (xs.length - 1) (radX p xs ys c) else []
def radU (p : Int) (xs ys : List Int) (c : Int) : List Int := if radC p xs ys c = 0 then ys else []
theorem rad_err {p : Int} {xs ys : List Int} {c e : Int} (h : radC p xs ys c = e) (he : e ≠ 0) : radP p xs ys c = 0 ∧ radV p xs ys c = [] ∧ radU p xs ys c = [] := by
  have : radC p xs ys c ≠ 0 := by rw [h]; exact he
  exact ⟨if_neg this, if_neg this, if_neg this⟩
def bfP (p : Int) (xs ys : List Int) (n i : Nat) : List Int := if i < 2 then [] else gP p xs ys n (i - 2)
def lsP (p : Int) (xs ys : List Int) (n i : Nat) : List Int := if i < 1 then [] else gP p xs ys n (i - 1)
theorem bfP_succ (p : Int) (xs ys : List Int) (n i : Nat) : bfP p xs ys n (i + 1) = lsP p xs ys n i := by
  unfold bfP lsP
  by_cases h : i < 1
  · rw [if_pos (by omega), if_pos h]
  · rw [if_neg (by omega), if_neg h]; congr 1
theorem lsP_succ (p : Int) (xs ys : List Int) (n i : Nat) : lsP p xs ys n (i + 1) = gP p xs ys n i := by
  unfold lsP
  rw [if_neg (by omega)]; congr 1
theorem Kept.nil (lo B : Nat) (w : World) : Kept lo B 0 0 w none 0 [] := ⟨lo, 0, Nat.le_refl _, Nat.zero_le _, .inl (Nat.zero_le _), .inr (Nat.zero_le _), OZ.nilZ _ _ _ _ _ (fun _ => rfl)⟩
set_option maxRecDepth 100000 in
set_option maxHeartbeats 6400000 in
theorem implRadauJacobi (p : Int) (a : Option Addr) (n c : Nat) (xs : List Int) (b : Option Addr) (m d : Nat) (ys : List Int) (x : Int) (w : World) (hs : SL w a n c xs) (ht : SL w b m d ys) (hn : n ≤ 4000000) (hm : m ≤ 4000000) :
    Calls Try.prog 49 #[jac p a n c b m d, .int .i64 x] w (ResJ w (radP p xs ys x) (radV p xs ys x) (radU p xs ys x) (radC p xs ys x)) := by
  have hl := hide hs.len
  have hl2 := hide ht.len
  have hb0 := bl2 w (.cells #[.int .i64 p, .slice a n c, .slice b m d] 63) (.cells #[.int .i64 0, .slice none 0 0, .slice none 0 0] 63)
  have g1 := hs.below hb0
  have g2 := ht.below hb0
  cases hj : jacB p xs ys
  · have HC := hide (show radC p xs ys x = 1 by simp [radC, hj])
    have HE := hide (rad_err HC.out (by decide))
    have Hj := hide hj
    clear hj
    go_enter Try.func49, Try.ntmps49
    go_wp2_with fail
    refine (implIsJacobi _ _ _ _ _ _ _ _ _ _ g1 g2 hn hm).mono ?_
    rintro e w2 ⟨rfl, hm2⟩
    rw [Hj.out]
    have hB2 := bnext hb0 hm2
    have r0 : w2.cell? ⟨w.heap.size + 1, 0, none⟩ = some (.int .i64 0) := cell_be hm2 (by simp [go_sem])
    have r1 : w2.cell? ⟨w.heap.size + 1, 1, none⟩ = some (.slice none 0 0) := cell_be hm2 (by simp [go_sem])
    have r2 : w2.cell? ⟨w.heap.size + 1, 2, none⟩ = some (.slice none 0 0) := cell_be hm2 (by simp [go_sem])
    have y0 : w2.frozen? ⟨w.heap.size + 1, 0, none⟩ = false := (hm2.frozen (by simp)).trans (by simp [go_sem])
    have y1 : w2.frozen? ⟨w.heap.size + 1, 1, none⟩ = false := (hm2.frozen (by simp)).trans (by simp [go_sem])
    have y2 : w2.frozen? ⟨w.heap.size + 1, 2, none⟩ = false := (hm2.frozen (by simp)).trans (by simp [go_sem])
    go_wp2
    refine bodyPost_ret (v := .tuple #[jac 0 none 0 0 none 0 0, .int .i64 1]) (by simp [results, Try.results49, go_sem, r0, r1, r2]) rfl ?_
    exact ResJ.nil HE.out.1 HE.out.2.1 HE.out.2.2 HC.out (((hB2.setCell (by simp) _).setCell (by simp) _).setCell (by simp) _)
  have Hj := hide hj
  obtain ⟨hpr, n1, n2, n3, hx, hy⟩ := jacB_rng hj
  obtain ⟨hp, hp2⟩ := primeB_lo hpr
  rw [hl.out] at n1 n2 n3
  rw [hl2.out] at n3
  subst n3
  by_cases hxx : 0 ≤ x ∧ x < p
  rotate_left
  · have HC := hide (show radC p xs ys x = 2 by simp [radC, hj, hxx])
    have HE := hide (rad_err HC.out (by decide))
    have Hn := hide hxx
    clear hj hxx hpr hx hy
    go_enter Try.func49, Try.ntmps49
    go_wp2_with fail
    refine (implIsJacobi _ _ _ _ _ _ _ _ _ _ g1 g2 hn hm).mono ?_
    rintro e w2 ⟨rfl, hm2⟩
    rw [Hj.out]
    have hB2 := bnext hb0 hm2
    have f0 : w2.cell? ⟨w.heap.size, 0, none⟩ = some (.int .i64 p) := cell_be hm2 (by simp [go_sem])
    have r0 : w2.cell? ⟨w.heap.size + 1, 0, none⟩ = some (.int .i64 0) := cell_be hm2 (by simp [go_sem])
    have r1 : w2.cell? ⟨w.heap.size + 1, 1, none⟩ = some (.slice none 0 0) := cell_be hm2 (by simp [go_sem])
    have r2 : w2.cell? ⟨w.heap.size + 1, 2, none⟩ = some (.slice none 0 0) := cell_be hm2 (by simp [go_sem])
    have y0 : w2.frozen? ⟨w.heap.size + 1, 0, none⟩ = false := (hm2.frozen (by simp)).trans (by simp [go_sem])
    have y1 : w2.frozen? ⟨w.heap.size + 1, 1, none⟩ = false := (hm2.frozen (by simp)).trans (by simp [go_sem])
    have y2 : w2.frozen? ⟨w.heap.size + 1, 2, none⟩ = false := (hm2.frozen (by simp)).trans (by simp [go_sem])
    go_wp2_with fail
    refine (isNumber_no _ _ _ Hn.out).mono ?_
    rintro e w2' ⟨rfl, rfl⟩
    go_wp2
    refine bodyPost_ret (v := .tuple #[jac 0 none 0 0 none 0 0, .int .i64 2]) (by simp [results, Try.results49, go_sem, r0, r1, r2]) rfl ?_
    exact ResJ.nil HE.out.1 HE.out.2.1 HE.out.2.2 HC.out (((hB2.setCell (by simp) _).setCell (by simp) _).setCell (by simp) _)
  obtain ⟨x0, x1⟩ := hxx
  have hxx : 0 ≤ x ∧ x < p := ⟨x0, x1⟩
  have Hpr := hide hpr
  have Hx := hide hx
  have Hy := hide (posB_are hy)
  have hG0 := gP_zero p xs ys m
  have eE : Hid (evM p (lsP p xs ys m m) x = radE p xs ys x) := hide (by unfold radE lsP; rw [if_neg (by omega), gP_le (by omega), hl.out])
  have eB : Hid (bfP p xs ys m m = radB p xs ys) := hide (by
    unfold radB bfP
    rw [hl.out]
    by_cases q : m < 2
    · rw [if_pos q, if_pos q]
    · rw [if_neg q, if_neg q, gP_le (by omega)])
  have SG := hide (fun i => gP_small hp xs ys m i n2)
  have SL1 : Hid (∀ i, Small p 24 (lsP p xs ys m i)) := hide (fun i => by unfold lsP; split; exact Small.nil p 24; exact SG.out _)
  have SB1 : Hid (∀ i, Small p 24 (bfP p xs ys m i)) := hide (fun i => by unfold bfP; split; exact Small.nil p 24; exact SG.out _)
  have HRD := hide (show radC p xs ys x = if radE p xs ys x = 0 then 5 else 0 by simp only [radC, hj, if_true]; rw [if_pos hxx])
  clear hj hpr hx hy hxx hG0
  go_enter Try.func49, Try.ntmps49
  go_wp2_with fail
  refine (implIsJacobi _ _ _ _ _ _ _ _ _ _ g1 g2 hn hm).mono ?_
  rintro e w2 ⟨rfl, hm2⟩
  rw [Hj.out]
  have hB2 := bnext hb0 hm2
  have z2 := hm2.size
  simp at z2
  have f0 : w2.cell? ⟨w.heap.size, 0, none⟩ = some (.int .i64 p) := cell_be hm2 (by simp [go_sem])
  have f1 : w2.cell? ⟨w.heap.size, 1, none⟩ = some (.slice a m c) := cell_be hm2 (by simp [go_sem])
  have f2 : w2.cell? ⟨w.heap.size, 2, none⟩ = some (.slice b m d) := cell_be hm2 (by simp [go_sem])
  have r0 : w2.cell? ⟨w.heap.size + 1, 0, none⟩ = some (.int .i64 0) := cell_be hm2 (by simp [go_sem])
  have r1 : w2.cell? ⟨w.heap.size + 1, 1, none⟩ = some (.slice none 0 0) := cell_be hm2 (by simp [go_sem])
  have r2 : w2.cell? ⟨w.heap.size + 1, 2, none⟩ = some (.slice none 0 0) := cell_be hm2 (by simp [go_sem])
  have y0 : w2.frozen? ⟨w.heap.size + 1, 0, none⟩ = false := (hm2.frozen (by simp)).trans (by simp [go_sem])
  have y1 : w2.frozen? ⟨w.heap.size + 1, 1, none⟩ = false := (hm2.frozen (by simp)).trans (by simp [go_sem])
  have y2 : w2.frozen? ⟨w.heap.size + 1, 2, none⟩ = false := (hm2.frozen (by simp)).trans (by simp [go_sem])
  go_wp2_with fail
  refine (isNumber_yes _ _ _ x0 x1).mono ?_
  rintro e w2' ⟨rfl, rfl⟩
  go_wp2_with fail
  refine (polysOf_any p _ _ _ xs _ _ ys 0 0 w _ hs n1 hp hp2 Hx.out hB2 (Nat.zero_le _)).mono ?_
  rintro e w3 ⟨B, rfl, hBB, hR, hb3⟩
  have hB3 := bnext hB2 hb3
  have hzB : w.heap.size + 2 ≤ B := Nat.le_trans z2 hBB
  replace f0 := cell_be hb3 f0
  replace f1 := cell_be hb3 f1
  replace f2 := cell_be hb3 f2
  replace y0 := (hb3.frozen (World.block_lt_of_cell? _ _ r0)).trans y0
  replace y1 := (hb3.frozen (World.block_lt_of_cell? _ _ r1)).trans y1
  replace y2 := (hb3.frozen (World.block_lt_of_cell? _ _ r2)).trans y2
  replace r0 := cell_be hb3 r0
  replace r1 := cell_be hb3 r1
  replace r2 := cell_be hb3 r2
  have hR0 : Hid (RInv 0 0 B w w3 p a m c b d 0 (gP p xs ys m 0) (gP p xs ys m 1)) := hide (hR.polys hp n1)
  have K0 := hide (Kept.nil w.heap.size B w3)
  have T0 := hide (Touch.refl B (B + 4) w3)
  have C0 := hide (And.intro f0 (And.intro f1 (And.intro f2 (And.intro r0 (And.intro r1 (And.intro r2 (And.intro y0 (And.intro y1 y2))))))))
  clear hR g1 g2 hb0 hm2 hb3 r0 r1 r2 y0 y1 y2 f0 f2
  go_wp2
  clear f1
  go_loopw [7, 8, 30] (fun bv lv iv wr => ∃ (i : Nat) (a1 : Option Addr) (c1 : Nat) (a2 : Option Addr) (c2 : Nat), i ≤ m ∧ iv = .int .i64 i ∧ bv = .slice a1 (bfP p xs ys m i).length c1 ∧ lv = .slice a2 (lsP p xs ys m i).length c2 ∧ Hid (Kept w.heap.size B 0 0 wr a1 c1 (bfP p xs ys m i)) ∧ Hid (Kept w.heap.size B 0 0 wr a2 c2 (lsP p xs ys m i)) ∧ Hid (RInv 0 0 B w wr p a m c b d i (gP p xs ys m i) (gP p xs ys m (i + 1))) ∧ Hid (Touch B (B + 4) w3 wr)) (fun _ _ iv _ => m - (intOf iv).toNat)
  case atStart => exact ⟨0, none, 0, none, 0, by omega, rfl, by simp [bfP], by simp [lsP], hide (by simpa [bfP] using K0.out), hide (by simpa [lsP] using K0.out), hR0, T0⟩
  case round =>
    obtain ⟨i, a1, c1, a2, c2, hi, rfl, rfl, rfl, k1, k2, hR, hT⟩ := hrel
    clear hR0 K0 T0
    by_cases hlt : i < m
    · have hlt' : (i : Int) < (m : Int) := by omega
      have hst := hide (gP_step p xs ys m i)
      have e1 := hide (bfP_succ p xs ys m i)
      have e2 := hide (lsP_succ p xs ys m i)
      go_wp2_with fail
      refine (next_any p a m c xs b d ys i 24 (gP p xs ys m i) (gP p xs ys m (i + 1)) 0 0 B w _ hs ht Hpr.out Hx.out Hy.out (by omega) (by omega) (SG.out i) (SG.out (i + 1)) (Nat.le_refl _) hR.out (.inr (Nat.zero_le _))).mono ?_
      rintro e w4 ⟨ac, cc, rfl, hk, hR2, ht2⟩
      rw [← hst.out] at hR2
      have Hk := hide hk
      have HR2 := hide hR2
      have k2' := hide (k2.out.touch ht2)
      have HT2 := hide (hT.out.trans ht2)
      rw [← e1.out] at k2'
      rw [← e2.out] at Hk
      clear hk hR2 ht2 k1 k2 hR hT hst
      go_wp2
      go_roundw
      case rel => exact ⟨i + 1, a2, c2, ac, cc, by omega, by go_num, by rw [e1.out], by rw [e2.out], k2', Hk, HR2, HT2⟩
      case measure => simp [intOf]; omega
    · obtain rfl : i = m := by omega
      have hge : ¬ (i : Int) < (i : Int) := by omega
      obtain ⟨f0, f1, f2, r0, r1, r2, y0, y1, y2⟩ := C0.out
      have t := hT.out
      replace y0 := t.frozen r0 y0 (.inl (by omega))
      replace y1 := t.frozen r1 y1 (.inl (by omega))
      replace y2 := t.frozen r2 y2 (.inl (by omega))
      replace f0 := t.cell f0 (.inl (by omega))
      replace f1 := t.cell f1 (.inl (by omega))
      replace f2 := t.cell f2 (.inl (by omega))
      replace r0 := t.cell r0 (.inl (by omega))
      replace r1 := t.cell r1 (.inl (by omega))
      replace r2 := t.cell r2 (.inl (by omega))
      have hBw := hR.out.hb
      clear t C0 hR hT
      have sL := hide k2.out.sl
      have sB := hide k1.out.sl
      have lL := (SL1.out i).2
      have lB := (SB1.out i).2
      have aL := hide (SL1.out i).are
      have aB := hide (SB1.out i).are
      clear k1 k2
      obtain ⟨Lp, hLp⟩ : ∃ Lp, lsP p xs ys i i = Lp := ⟨_, rfl⟩
      obtain ⟨Bp, hBp⟩ : ∃ Bp, bfP p xs ys i i = Bp := ⟨_, rfl⟩
      rw [hLp] at sL lL aL eE ⊢
      rw [hBp] at sB lB aB eB ⊢
      clear hLp hBp SG SL1 SB1
      have rE := evM_rng hp Lp x
      have rB := evM_rng hp Bp x
      obtain ⟨E, hE⟩ : ∃ E, evM p Lp x = E := ⟨_, rfl⟩
      have HE := hide hE
      rw [hE] at eE rE
      clear hE
      go_wp2_with fail
      refine (evaluateAt_any p x _ _ _ Lp _ sL.out (by omega) hp hp2 x0 x1 aL.out).mono ?_
      rintro e w5 ⟨rfl, t5⟩
      rw [HE.out]
      have hB5 := bnext hBw t5
      replace y0 := (t5.frozen (World.block_lt_of_cell? _ _ r0)).trans y0
      replace y1 := (t5.frozen (World.block_lt_of_cell? _ _ r1)).trans y1
      replace y2 := (t5.frozen (World.block_lt_of_cell? _ _ r2)).trans y2
      replace f0 := cell_be t5 f0
      replace f1 := cell_be t5 f1
      replace f2 := cell_be t5 f2
      replace r0 := cell_be t5 r0
      replace r1 := cell_be t5 r1
      replace r2 := cell_be t5 r2
      have sB5 := hide (sB.out.below t5)
      clear sL sB t5
      by_cases hz : E = 0
      · have hz1 : (E == 0) = true := by simpa using hz
        have hz2 : decide (E = 0) = true := by simpa using hz
        have HC := hide (show radC p xs ys x = 5 by rw [HRD.out, ← eE.out, if_pos hz])
        have HE := hide (rad_err HC.out (by decide))
        have hB2 := hB5
        clear hz
        go_wp2
        refine bodyPost_ret (v := .tuple #[jac 0 none 0 0 none 0 0, .int .i64 5]) (by simp [results, Try.results49, go_sem, r0, r1, r2]) rfl ?_
        exact ResJ.nil HE.out.1 HE.out.2.1 HE.out.2.2 HC.out (((hB2.setCell (by simp) _).setCell (by simp) _).setCell (by simp) _)
      have hz1 : (E == 0) = false := by simpa using hz
      have hz2 : decide (E = 0) = false := by simpa using hz
      have HC := hide (show radC p xs ys x = 0 by rw [HRD.out, ← eE.out, if_neg hz])
      have HQ := hide (show radP p xs ys x = p by unfold radP; rw [if_pos HC.out])
      have HU := hide (show radU p xs ys x = ys by unfold radU; rw [if_pos HC.out])
      have HV := hide (show radV p xs ys x = xs.set (i - 1) (radX p xs ys x) by unfold radV; rw [if_pos HC.out, hl.out])
      clear hz
      go_wp2_with fail
      refine (sizeOf_any _ _ _ _ _ _ _ _ hn).mono ?_
      rintro e w6 ⟨rfl, t6⟩
      have hB6 := bnext hB5 t6
      replace y0 := (t6.frozen (World.block_lt_of_cell? _ _ r0)).trans y0
      replace y1 := (t6.frozen (World.block_lt_of_cell? _ _ r1)).trans y1
      replace y2 := (t6.frozen (World.block_lt_of_cell? _ _ r2)).trans y2
      replace f0 := cell_be t6 f0
      replace f1 := cell_be t6 f1
      replace f2 := cell_be t6 f2
      replace r0 := cell_be t6 r0
      replace r1 := cell_be t6 r1
      replace r2 := cell_be t6 r2
      have sB6 := hide (sB5.out.below t6)
      clear sB5 t6
      obtain ⟨F, hF⟩ : ∃ F, evM p Bp x = F := ⟨_, rfl⟩
      have HF := hide hF
      rw [hF] at rB
      go_wp2_with fail
      refine (evaluateAt_any p x _ _ _ Bp _ sB6.out (by omega) hp hp2 x0 x1 aB.out).mono ?_
      rintro e w7 ⟨rfl, t7⟩
      rw [HF.out]
      have hB7 := bnext hB6 t7
      replace y0 := (t7.frozen (World.block_lt_of_cell? _ _ r0)).trans y0
      replace y1 := (t7.frozen (World.block_lt_of_cell? _ _ r1)).trans y1
      replace y2 := (t7.frozen (World.block_lt_of_cell? _ _ r2)).trans y2
      replace f0 := cell_be t7 f0
      replace f1 := cell_be t7 f1
      replace f2 := cell_be t7 f2
      replace r0 := cell_be t7 r0
      replace r1 := cell_be t7 r1
      replace r2 := cell_be t7 r2
      clear sB6 t7
      have rI := invM_rng E hp
      obtain ⟨I, hI⟩ : ∃ I, invM p E = I := ⟨_, rfl⟩
      rw [hI] at rI
      have HI := hide hI
      obtain ⟨m1, m2⟩ := mulb rB.1 rB.2 rI.1 rI.2 hp2
      have v1 : IntKind.i64.wrap (F * I) = F * I := IntWalk.i64_in _ (by omega)
      have v2 : (F * I).tmod p = F * I % p := Int.tmod_eq_emod_of_nonneg m1
      have rQ := modb (x := F * I) hp
      obtain ⟨Q, hQ⟩ : ∃ Q, F * I % p = Q := ⟨_, rfl⟩
      rw [hQ] at v2 rQ
      have v3 : IntKind.i64.wrap Q = Q := IntWalk.i64_in _ (by omega)
      have hp0 : ¬ p = 0 := by omega
      have rY := getD_rng Hy.out hp (i - 1)
      obtain ⟨y, hyy⟩ : ∃ y, ys.getD (i - 1) 0 = y := ⟨_, rfl⟩
      rw [hyy] at rY
      have rO := opp_rng (p := p) (x := y) hp
      obtain ⟨O, hO⟩ : ∃ O, opp p y = O := ⟨_, rfl⟩
      rw [hO] at rO
      have HO := hide hO
      have eX : Hid ((x + O * Q) % p = radX p xs ys x) := hide (by unfold radX; rw [hl.out, hyy, hO, ← eB.out, hF, ← eE.out, hI, hQ])
      obtain ⟨X, hX⟩ : ∃ X, (x + O * Q) % p = X := ⟨_, rfl⟩
      have HX := hide hX
      rw [hX] at eX
      obtain ⟨bb, oo, rfl, hbw, hcc⟩ := ht.at (show 0 < i by omega)
      have eY := hcc (i - 1) (by omega)
      rw [hyy] at eY
      clear hF hI hQ hO hX m1 m2 hyy hcc
      go_wp2_with fail
      refine (inverse_any p E _ hp hp2 rE.1 rE.2).mono ?_
      rintro e w8 ⟨rfl, t8⟩
      rw [HI.out]
      have hB8 := bnext hB7 t8
      replace y0 := (t8.frozen (World.block_lt_of_cell? _ _ r0)).trans y0
      replace y1 := (t8.frozen (World.block_lt_of_cell? _ _ r1)).trans y1
      replace y2 := (t8.frozen (World.block_lt_of_cell? _ _ r2)).trans y2
      replace f0 := cell_be t8 f0
      replace f1 := cell_be t8 f1
      replace f2 := cell_be t8 f2
      replace r0 := cell_be t8 r0
      replace r1 := cell_be t8 r1
      replace r2 := cell_be t8 r2
      clear t8
      go_wp2_with fail
      refine (partOf_any p _ _ _ xs _ _ ys 0 i _ (hs.below hB8) (ht.below hB8) (by omega) (Nat.le_refl _) hn).mono ?_
      rintro e w9 ⟨a', c', b', d', rfl, ho, t9⟩
      have hB9 := bnext hB8 t9
      have z10 : w.heap.size + 1 < w8.heap.size := World.block_lt_of_cell? _ _ r0
      have z8 := hB8.size
      have z9 := t9.size
      replace y0 := (t9.frozen (World.block_lt_of_cell? _ _ r0)).trans y0
      replace y1 := (t9.frozen (World.block_lt_of_cell? _ _ r1)).trans y1
      replace y2 := (t9.frozen (World.block_lt_of_cell? _ _ r2)).trans y2
      replace f0 := cell_be t9 f0
      replace f1 := cell_be t9 f1
      replace f2 := cell_be t9 f2
      replace r0 := cell_be t9 r0
      replace r1 := cell_be t9 r1
      replace r2 := cell_be t9 r2
      rw [List.take_of_length_le (by rw [hl.out]; exact Nat.le_refl _), List.take_of_length_le (by rw [hl2.out]; exact Nat.le_refl _)] at ho
      simp only [Nat.sub_zero, List.drop_zero] at ho ⊢
      obtain ⟨ga, gb, rfl, rfl, d1, d2, d3, d4, d5, oA, oB⟩ := ho.rows (by omega) (by omega)
      have WA : (.cells #[.int .i64 p, .slice (some ⟨ga, 0, none⟩) i c', .slice (some ⟨gb, 0, none⟩) i d'] 63 : Obj) = (.cells #[.int .i64 p, .slice (some ⟨ga, 0, none⟩) i c', .slice (some ⟨gb, 0, none⟩) i d'] 63) := rfl
      have hba := (bl1 w9 (.cells #[.int .i64 p, .slice (some ⟨ga, 0, none⟩) i c', .slice (some ⟨gb, 0, none⟩) i d'] 63)).drew
      have hBA := bnext hB9 hba
      have q0 : (w9.alloc (.cells #[.int .i64 p, .slice (some ⟨ga, 0, none⟩) i c', .slice (some ⟨gb, 0, none⟩) i d'] 63)).drew.cell? ⟨w9.heap.size, 0, none⟩ = some (.int .i64 p) := by simp [go_sem]
      have q1 : (w9.alloc (.cells #[.int .i64 p, .slice (some ⟨ga, 0, none⟩) i c', .slice (some ⟨gb, 0, none⟩) i d'] 63)).drew.cell? ⟨w9.heap.size, 1, none⟩ = some (.slice (some ⟨ga, 0, none⟩) i c') := by simp [go_sem]
      have q2 : (w9.alloc (.cells #[.int .i64 p, .slice (some ⟨ga, 0, none⟩) i c', .slice (some ⟨gb, 0, none⟩) i d'] 63)).drew.cell? ⟨w9.heap.size, 2, none⟩ = some (.slice (some ⟨gb, 0, none⟩) i d') := by simp [go_sem]
      have k2 := cell_be hba f2
      have kY := cell_be hba (cell_be hB9 eY)
      have fA := Own.freeG (oA.below hba) (i - 1)
      have oA2 := hide (Own.setG oA (i - 1) X)
      have oB2 := hide (Own.otherG oB (show blk (some ⟨gb, 0, none⟩) ≠ some ga by simp [blk]; omega) (j := i - 1) (.int .i64 X))
      have cA := Own.cellG (oA.below hba) (i - 1) (by rw [hl.out]; omega)
      have j1 : (0 : Int) ≤ (i : Int) - 1 := by omega
      have j5 : (1 : Int) ≤ (i : Int) := by omega
      have j2 : (i : Int) - 1 < (i : Int) := by omega
      have j3 : ((i : Int) - 1).toNat = i - 1 := by omega
      have j4 : IntKind.i64.wrap ((i : Int) - 1) = (i : Int) - 1 := IntWalk.i64_in _ (by omega)
      clear hba ho oA oB f0 f1 hB5 hB6 hB7 hB8 t9 v1 v2 v3
      go_upto_region 18 with fail
      refine region_E (fun w' => w'.cell? ⟨w9.heap.size, 1, none⟩ = some (.slice (some ⟨ga, 0, none⟩) i c') ∧ w'.cell? ⟨w.heap.size, 2, none⟩ = some (.slice (some ⟨bb, oo, none⟩) i d) ∧ w'.cell? ⟨bb, oo + (i - 1), none⟩ = some (.int .i64 y)) 17 (by kernel_rfl) ⟨q1, k2, kY⟩ ?_
      intro hS
      refine anyE_takeL 0 rfl (by kernel_rfl) (fun _ _ _ h => h) hS (by rfl) (v := ?_) ?_ ?_
      rotate_left
      · intro w' hSw; (try dsimp only at hSw); go_simp; (try with_reducible rfl)
      try simp only [Act.put, List.setIfInBounds_toArray, List.set_cons_zero, List.set_cons_succ]
      refine anyE_takeL 1 rfl (by kernel_rfl) (fun _ _ _ h => h) hS (by rfl) (v := ?_) ?_ ?_
      rotate_left
      · intro w' hSw; (try dsimp only at hSw); go_simp; (try with_reducible rfl)
      try simp only [Act.put, List.setIfInBounds_toArray, List.set_cons_zero, List.set_cons_succ]
      refine anyE_takeL 2 rfl (by kernel_rfl) (fun _ _ _ h => h) hS (by rfl) (v := ?_) ?_ ?_
      rotate_left
      · intro w' hSw; (try dsimp only at hSw); go_simp; (try with_reducible rfl)
      try simp only [Act.put, List.setIfInBounds_toArray, List.set_cons_zero, List.set_cons_succ]
      refine anyE_takeL 3 rfl (by kernel_rfl) (fun _ _ _ h => h) hS (by rfl) (v := ?_) ?_ ?_
      rotate_left
      · intro w' hSw; (try dsimp only at hSw); go_simp; (try with_reducible rfl)
      try simp only [Act.put, List.setIfInBounds_toArray, List.set_cons_zero, List.set_cons_succ]
      refine anyE_takeL 4 rfl (by kernel_rfl) (fun _ _ _ h => h) hS (by rfl) (v := ?_) ?_ ?_
      rotate_left
      · intro w' hSw; (try dsimp only at hSw); go_simp; (try with_reducible rfl)
      try simp only [Act.put, List.setIfInBounds_toArray, List.set_cons_zero, List.set_cons_succ]
      refine anyE_takeL 5 rfl (by kernel_rfl) (fun _ _ _ h => h) hS (by rfl) (v := ?_) ?_ ?_
      rotate_left
      · intro w' hSw; (try dsimp only at hSw); go_simp; (try with_reducible rfl)
      try simp only [Act.put, List.setIfInBounds_toArray, List.set_cons_zero, List.set_cons_succ]
      refine anyE_takeL 6 rfl (by kernel_rfl) (fun _ _ _ h => h) hS (by rfl) (v := ?_) ?_ ?_
      rotate_left
      · intro w' hSw; (try dsimp only at hSw); go_simp; (try with_reducible rfl)
      try simp only [Act.put, List.setIfInBounds_toArray, List.set_cons_zero, List.set_cons_succ]
      refine anyE_takeL 7 rfl (by kernel_rfl) (fun _ _ _ h => h) hS (by rfl) (v := ?_) ?_ ?_
      rotate_left
      · intro w' hSw; (try dsimp only at hSw); go_simp; (try with_reducible rfl)
      try simp only [Act.put, List.setIfInBounds_toArray, List.set_cons_zero, List.set_cons_succ]
      refine anyE_takeL 8 rfl (by kernel_rfl) (fun _ _ _ h => h) hS (by rfl) (v := ?_) ?_ ?_
      rotate_left
      · intro w' hSw; (try dsimp only at hSw); go_simp; (try with_reducible rfl)
      try simp only [Act.put, List.setIfInBounds_toArray, List.set_cons_zero, List.set_cons_succ]
      refine anyE_takeL 9 rfl (by kernel_rfl) (fun _ _ _ h => h) hS (by rfl) (v := ?_) ?_ ?_
      rotate_left
      · intro w' hSw; (try dsimp only at hSw); go_simp; (try with_reducible rfl)
      try simp only [Act.put, List.setIfInBounds_toArray, List.set_cons_zero, List.set_cons_succ]
      refine anyE_takeL 10 rfl (by kernel_rfl) (fun _ _ _ h => h) hS (by rfl) (v := ?_) ?_ ?_
      rotate_left
      · intro w' hSw; (try dsimp only at hSw); go_simp; (try with_reducible rfl)
      try simp only [Act.put, List.setIfInBounds_toArray, List.set_cons_zero, List.set_cons_succ]
      refine anyE_takeL 11 rfl (by kernel_rfl) (fun _ _ _ h => h) hS (by rfl) (v := ?_) ?_ ?_
      rotate_left
      · intro w' hSw; (try dsimp only at hSw); go_simp; (try with_reducible rfl)
      try simp only [Act.put, List.setIfInBounds_toArray, List.set_cons_zero, List.set_cons_succ]
      refine anyE_takeL 12 rfl (by kernel_rfl) (fun _ _ _ h => h) hS (by rfl) (v := ?_) ?_ ?_
      rotate_left
      · intro w' hSw; (try dsimp only at hSw); go_simp; (try with_reducible rfl)
      try simp only [Act.put, List.setIfInBounds_toArray, List.set_cons_zero, List.set_cons_succ]
      refine anyE_takeL 14 rfl (by kernel_rfl) (fun _ _ _ h => h) hS (by rfl) (v := ?_) ?_ ?_
      rotate_left
      · intro w' hSw; (try dsimp only at hSw); go_simp; (try with_reducible rfl)
      try simp only [Act.put, List.setIfInBounds_toArray, List.set_cons_zero, List.set_cons_succ]
      refine anyE_oneL 13 (by kernel_rfl) rfl (fun K' hK' => ?_)
      go_simp
      refine (opposite_any p y _ hp hp2 rY.1 rY.2).mono ?_
      rintro e u1 ⟨rfl, rfl⟩
      rw [HO.out]
      dsimp only
      refine hK'.out _ _ hS ?_
      clear hK' K'
      try simp only [Act.put, List.setIfInBounds_toArray, List.set_cons_zero, List.set_cons_succ]
      refine anyE_oneL 15 (by kernel_rfl) rfl (fun K' hK' => ?_)
      go_simp
      refine (addNumber_any p x O Q _ hp hp2 x0 x1 rO.1 rO.2 rQ.1 rQ.2).mono ?_
      rintro e u2 ⟨rfl, rfl⟩
      rw [HX.out]
      dsimp only
      refine hK'.out _ _ hS ?_
      clear hK' K'
      try simp only [Act.put, List.setIfInBounds_toArray, List.set_cons_zero, List.set_cons_succ]
      refine anyE_oneL 16 (by kernel_rfl) rfl (fun K' hK' => ?_)
      go_simp
      refine hK'.out _ _ hS ?_
      clear hK' K' hS
      try simp only [Act.put, List.setIfInBounds_toArray, List.set_cons_zero, List.set_cons_succ]
      refine anyE_lastL (by kernel_rfl) rfl (by kernel_rfl) (fun K' hK' => ?_)
      go_simp
      refine hK'.out _ _ ?_
      clear hK' K'
      try simp only [Act.put, List.setIfInBounds_toArray, List.set_cons_zero, List.set_cons_succ]
      have hbz := (bl1 (w9.setCell ⟨ga, i - 1, none⟩ (.int .i64 X)) (.cells #[.int .i64 p, .slice (some ⟨ga, 0, none⟩) i c', .slice (some ⟨gb, 0, none⟩) i d'] 63)).drew
      clear k2 kY cA fA f2 eY q0 q1 q2
      have q0 : ((w9.setCell ⟨ga, i - 1, none⟩ (.int .i64 X)).alloc (.cells #[.int .i64 p, .slice (some ⟨ga, 0, none⟩) i c', .slice (some ⟨gb, 0, none⟩) i d'] 63)).drew.cell? ⟨w9.heap.size, 0, none⟩ = some (.int .i64 p) := by simp [go_sem]
      have q1 : ((w9.setCell ⟨ga, i - 1, none⟩ (.int .i64 X)).alloc (.cells #[.int .i64 p, .slice (some ⟨ga, 0, none⟩) i c', .slice (some ⟨gb, 0, none⟩) i d'] 63)).drew.cell? ⟨w9.heap.size, 1, none⟩ = some (.slice (some ⟨ga, 0, none⟩) i c') := by simp [go_sem]
      have q2 : ((w9.setCell ⟨ga, i - 1, none⟩ (.int .i64 X)).alloc (.cells #[.int .i64 p, .slice (some ⟨ga, 0, none⟩) i c', .slice (some ⟨gb, 0, none⟩) i d'] 63)).drew.cell? ⟨w9.heap.size, 2, none⟩ = some (.slice (some ⟨gb, 0, none⟩) i d') := by simp [go_sem]
      have s0 := cell_set2 r0 (show ga ≠ w.heap.size + 1 by omega) (.int .i64 X) (a := ⟨ga, i - 1, none⟩)
      have s1 := cell_set2 r1 (show ga ≠ w.heap.size + 1 by omega) (.int .i64 X) (a := ⟨ga, i - 1, none⟩)
      have s2 := cell_set2 r2 (show ga ≠ w.heap.size + 1 by omega) (.int .i64 X) (a := ⟨ga, i - 1, none⟩)
      have yy0 : (w9.setCell ⟨ga, i - 1, none⟩ (.int .i64 X)).frozen? ⟨w.heap.size + 1, 0, none⟩ = false := by simpa using y0
      have yy1 : (w9.setCell ⟨ga, i - 1, none⟩ (.int .i64 X)).frozen? ⟨w.heap.size + 1, 1, none⟩ = false := by simpa using y1
      have yy2 : (w9.setCell ⟨ga, i - 1, none⟩ (.int .i64 X)).frozen? ⟨w.heap.size + 1, 2, none⟩ = false := by simpa using y2
      replace yy0 := (hbz.frozen (World.block_lt_of_cell? _ _ s0)).trans yy0
      replace yy1 := (hbz.frozen (World.block_lt_of_cell? _ _ s1)).trans yy1
      replace yy2 := (hbz.frozen (World.block_lt_of_cell? _ _ s2)).trans yy2
      clear r0 r1 r2 y0 y1 y2
      have r0 := cell_be hbz s0
      have r1 := cell_be hbz s1
      have r2 := cell_be hbz s2
      have hBZ := bnext (hB9.setCell (p := ⟨ga, i - 1, none⟩) (by simp; omega) (.int .i64 X)) hbz
      have oA3 := hide (oA2.out.below hbz)
      have oB3 := hide (oB2.out.below hbz)
      have hzz := hbz.size
      simp at hzz
      obtain ⟨wz, hwz⟩ : ∃ wz, wz = ((w9.setCell ⟨ga, i - 1, none⟩ (.int .i64 X)).alloc (.cells #[.int .i64 p, .slice (some ⟨ga, 0, none⟩) i c', .slice (some ⟨gb, 0, none⟩) i d'] 63)).drew := ⟨_, rfl⟩
      have hz3 : w9.heap.size ≤ wz.heap.size := by rw [hwz]; simp
      rw [← hwz] at q0 q1 q2 r0 r1 r2 yy0 yy1 yy2 hBZ oA3 oB3 ⊢
      clear hwz oA2 oB2 hbz s0 s1 s2 hzz
      go_wp2
      refine bodyPost_ret (v := .tuple #[jac p (some ⟨ga, 0, none⟩) i c' (some ⟨gb, 0, none⟩) i d', .int .i64 0]) (by simp [results, Try.results49, go_sem, r0, r1, r2]) rfl ?_
      rw [eX.out] at oA3
      have jz : JZ w8.heap.size wz.heap.size wz (some ⟨ga, 0, none⟩) i c' (xs.set (i - 1) (radX p xs ys x)) (some ⟨gb, 0, none⟩) i d' ys := ⟨OZ.of oA3.out (by rw [List.length_set]; exact hl.out.symm), OZ.of oB3.out hl2.out.symm, .inr (.inr (by simp [blk]; omega))⟩
      have jz2 := ((jz.setLow (x := ⟨w.heap.size + 1, 0, none⟩) (by simp; omega) (.int .i64 p)).setLow (x := ⟨w.heap.size + 1, 1, none⟩) (by simp; omega) (.slice (some ⟨ga, 0, none⟩) i c')).setLow (x := ⟨w.heap.size + 1, 2, none⟩) (by simp; omega) (.slice (some ⟨gb, 0, none⟩) i d')
      exact ResJ.mk HQ.out HC.out (by rw [HV.out, List.length_set]; exact hl.out.symm) (by rw [HU.out]; exact hl2.out.symm) (by rw [HV.out, HU.out]; simpa using jz2.mono (lo' := w.heap.size) (by omega) (Nat.le_refl _)) (by rw [HV.out, List.length_set, hl.out]; omega) (by rw [HU.out, hl2.out]; omega) (((hBZ.setCell (by simp) _).setCell (by simp) _).setCell (by simp) _)
end Go.Proofs.Ytkpmonopjkjflaa
/- Contracts: RadauJacobi (model). -/
namespace Go.Proofs.Ytkpmonopjkjflaa
open Go.RowKit
set_option linter.unusedVariables false
set_option linter.unusedSimpArgs false
section
variable {P : Program} {Q : Exit → Act → World → Prop} {md : Region.Mode} {S : World → Prop} {L : Nat}
/-- Two operations may come up next; S holds behind either. -/
theorem anyE_twoL (i j : Nat) {l : List Oper} {oi oj : Oper} {n : Nat} {done : Array Bool} {a : Act} {w : World} (hr : Region.ready md l.toArray done = [i, j]) (hoi : l[i]? = some oi) (hoj : l[j]? = some oj)
    (hi : ∀ K : Act → World → Prop, Shut (∀ a w, S w → anyE P md l.toArray Q S L n (done.setIfInBounds i true) a w → K a w) → if Region.wanted oi (yielded l.toArray a.tmps) = true then Oper.wp P oi a w K Q else K (a.put oi.dst undef) w)
    (hj : ∀ K : Act → World → Prop, Shut (∀ a w, S w → anyE P md l.toArray Q S L n (done.setIfInBounds j true) a w → K a w) → if Region.wanted oj (yielded l.toArray a.tmps) = true then Oper.wp P oj a w K Q else K (a.put oj.dst undef) w) :
    anyE P md l.toArray Q S L (n + 1) done a w := by
  refine ⟨fun h0 => (by rw [h0] at hr; cases hr), fun k hk => ?_⟩
  rw [hr] at hk
  rw [List.mem_cons, List.mem_singleton] at hk
  rcases hk with rfl | rfl
  · exact wpOp_step (by rw [List.getElem?_toArray]; exact hoi) fun K hK => hi K (fun a w k1 k2 => hK a w ⟨fun _ => k1, k2⟩)
  · exact wpOp_step (by rw [List.getElem?_toArray]; exact hoj) fun K hK => hj K (fun a w k1 k2 => hK a w ⟨fun _ => k1, k2⟩)
end
theorem rad_mod {p c y F I : Int} (hp : 2 ≤ p) : (c - y * F % p * I) % p = (c + opp p y * (F * I % p)) % p := by
  have h1 : (y * F % p * I) % p = (y * F * I) % p := by rw [Int.mul_emod, Int.emod_emod, ← Int.mul_emod]
  have h2 : (opp p y * (F * I % p)) % p = ((p - y) * (F * I)) % p := by unfold opp; rw [← Int.mul_emod]
  rw [Int.sub_emod, h1, ← Int.sub_emod, Int.add_emod, h2, ← Int.add_emod]
  have e : c + (p - y) * (F * I) = c - y * F * I + p * (F * I) := by rw [Int.sub_mul, Int.mul_assoc]; omega
  rw [e, Int.add_mul_emod_self_left]
theorem evM_nil (p x : Int) : evM p [] x = 0 := rfl
theorem evM_one {p : Int} (hp : 2 ≤ p) (x : Int) : evM p [1] x = 1 := by
  have : evM p [1] x = (0 * x + 1) % p := rfl
  rw [this, Int.zero_mul, Int.zero_add]
  exact Int.emod_eq_of_lt (by omega) (by omega)
set_option maxRecDepth 100000 in
set_option maxHeartbeats 6400000 in
theorem specRadauJacobi (p : Int) (a : Option Addr) (n c : Nat) (xs : List Int) (b : Option Addr) (m d : Nat) (ys : List Int) (x : Int) (w : World) (hs : SL w a n c xs) (ht : SL w b m d ys) (hn : n ≤ 4000000) (hm : m ≤ 4000000) :
    Calls Try.prog 47 #[jac p a n c b m d, .int .i64 x] w (ResJ w (radP p xs ys x) (radV p xs ys x) (radU p xs ys x) (radC p xs ys x)) := by
  have hl := hide hs.len
  have hl2 := hide ht.len
  have hb0 := bl2 w (.cells #[.int .i64 p, .slice a n c, .slice b m d] 63) (.cells #[.int .i64 0, .slice none 0 0, .slice none 0 0] 63)
  have g1 := hs.below hb0
  have g2 := ht.below hb0
  cases hj : jacB p xs ys
  · have HC := hide (show radC p xs ys x = 1 by simp [radC, hj])
    have HE := hide (rad_err HC.out (by decide))
    have Hj := hide hj
    clear hj
    go_enter Try.func47, Try.ntmps47
    go_wp2_with fail
    refine (l03Is_any _ _ _ _ _ _ _ _ _ _ g1 g2 hn hm).mono ?_
    rintro e w2 ⟨rfl, hm2⟩
    rw [Hj.out]
    have hB2 := bnext hb0 hm2
    have r0 : w2.cell? ⟨w.heap.size + 1, 0, none⟩ = some (.int .i64 0) := cell_be hm2 (by simp [go_sem])
    have r1 : w2.cell? ⟨w.heap.size + 1, 1, none⟩ = some (.slice none 0 0) := cell_be hm2 (by simp [go_sem])
    have r2 : w2.cell? ⟨w.heap.size + 1, 2, none⟩ = some (.slice none 0 0) := cell_be hm2 (by simp [go_sem])
    have y0 : w2.frozen? ⟨w.heap.size + 1, 0, none⟩ = false := (hm2.frozen (by simp)).trans (by simp [go_sem])
    have y1 : w2.frozen? ⟨w.heap.size + 1, 1, none⟩ = false := (hm2.frozen (by simp)).trans (by simp [go_sem])
    have y2 : w2.frozen? ⟨w.heap.size + 1, 2, none⟩ = false := (hm2.frozen (by simp)).trans (by simp [go_sem])
    go_wp2
    refine bodyPost_ret (v := .tuple #[jac 0 none 0 0 none 0 0, .int .i64 1]) (by simp [results, Try.results47, go_sem, r0, r1, r2]) rfl ?_
    exact ResJ.nil HE.out.1 HE.out.2.1 HE.out.2.2 HC.out (((hB2.setCell (by simp) _).setCell (by simp) _).setCell (by simp) _)
  have Hj := hide hj
  obtain ⟨hpr, n1, n2, n3, hx, hy⟩ := jacB_rng hj
  obtain ⟨hp, hp2⟩ := primeB_lo hpr
  rw [hl.out] at n1 n2 n3
  rw [hl2.out] at n3
  subst n3
  by_cases hxx : 0 ≤ x ∧ x < p
  rotate_left
  · have HC := hide (show radC p xs ys x = 2 by simp [radC, hj, hxx])
    have HE := hide (rad_err HC.out (by decide))
    have Hn2 : Hid (¬ (0 ≤ x ∧ x ≤ p - 1)) := hide (by omega)
    clear hj hxx hpr hx hy
    go_enter Try.func47, Try.ntmps47
    go_wp2_with fail
    refine (l03Is_any _ _ _ _ _ _ _ _ _ _ g1 g2 hn hm).mono ?_
    rintro e w2 ⟨rfl, hm2⟩
    rw [Hj.out]
    have hB2 := bnext hb0 hm2
    have f0 : w2.cell? ⟨w.heap.size, 0, none⟩ = some (.int .i64 p) := cell_be hm2 (by simp [go_sem])
    have r0 : w2.cell? ⟨w.heap.size + 1, 0, none⟩ = some (.int .i64 0) := cell_be hm2 (by simp [go_sem])
    have r1 : w2.cell? ⟨w.heap.size + 1, 1, none⟩ = some (.slice none 0 0) := cell_be hm2 (by simp [go_sem])
    have r2 : w2.cell? ⟨w.heap.size + 1, 2, none⟩ = some (.slice none 0 0) := cell_be hm2 (by simp [go_sem])
    have y0 : w2.frozen? ⟨w.heap.size + 1, 0, none⟩ = false := (hm2.frozen (by simp)).trans (by simp [go_sem])
    have y1 : w2.frozen? ⟨w.heap.size + 1, 1, none⟩ = false := (hm2.frozen (by simp)).trans (by simp [go_sem])
    have y2 : w2.frozen? ⟨w.heap.size + 1, 2, none⟩ = false := (hm2.frozen (by simp)).trans (by simp [go_sem])
    go_wp2_with fail
    refine (l01In_no _ _ _ _ Hn2.out).mono ?_
    rintro e w2' ⟨rfl, rfl⟩
    go_wp2
    refine bodyPost_ret (v := .tuple #[jac 0 none 0 0 none 0 0, .int .i64 2]) (by simp [results, Try.results47, go_sem, r0, r1, r2]) rfl ?_
    exact ResJ.nil HE.out.1 HE.out.2.1 HE.out.2.2 HC.out (((hB2.setCell (by simp) _).setCell (by simp) _).setCell (by simp) _)
  obtain ⟨x0, x1⟩ := hxx
  have hxx : 0 ≤ x ∧ x < p := ⟨x0, x1⟩
  have x2 : x ≤ p - 1 := by omega
  have Hy := hide (posB_are hy)
  have Hpr := hide hpr
  have HRD := hide (show radC p xs ys x = if radE p xs ys x = 0 then 5 else 0 by simp only [radC, hj, if_true]; rw [if_pos hxx])
  obtain ⟨K, hK⟩ : ∃ K, m = K + 1 := ⟨m - 1, by omega⟩
  have eE : radE p xs ys x = evM p (polJ p xs ys K) x := by unfold radE; rw [hl.out, hK]; rfl
  have HQ : Hid (radC p xs ys x = 0 → radP p xs ys x = p) := hide fun h => by unfold radP; rw [if_pos h]
  have HU : Hid (radC p xs ys x = 0 → radU p xs ys x = ys) := hide fun h => by unfold radU; rw [if_pos h]
  have HV : Hid (radC p xs ys x = 0 → radV p xs ys x = xs.set K (radX p xs ys x)) := hide fun h => by unfold radV; rw [if_pos h, hl.out, hK]; rfl
  have hKm : K < m := by omega
  have hKn : (K : Int) < (m : Int) := by omega
  have hK0 : (0 : Int) ≤ (K : Int) := by omega
  have hm0 : (0 : Int) < (m : Int) := by omega
  have hm00 : 0 < m := n1
  have vK : IntKind.i64.wrap ((m : Int) - 1) = (K : Int) := by rw [show (m : Int) - 1 = (K : Int) by omega]; exact IntWalk.i64_in _ (by omega)
  have HK := hide hK
  clear hj hpr hx hy hxx hK
  go_enter Try.func47, Try.ntmps47
  go_wp2_with fail
  refine (l03Is_any _ _ _ _ _ _ _ _ _ _ g1 g2 hn hm).mono ?_
  rintro e w2 ⟨rfl, hm2⟩
  rw [Hj.out]
  have hB2 := bnext hb0 hm2
  have f0 : w2.cell? ⟨w.heap.size, 0, none⟩ = some (.int .i64 p) := cell_be hm2 (by simp [go_sem])
  have f1 : w2.cell? ⟨w.heap.size, 1, none⟩ = some (.slice a m c) := cell_be hm2 (by simp [go_sem])
  have f2 : w2.cell? ⟨w.heap.size, 2, none⟩ = some (.slice b m d) := cell_be hm2 (by simp [go_sem])
  have r0 : w2.cell? ⟨w.heap.size + 1, 0, none⟩ = some (.int .i64 0) := cell_be hm2 (by simp [go_sem])
  have r1 : w2.cell? ⟨w.heap.size + 1, 1, none⟩ = some (.slice none 0 0) := cell_be hm2 (by simp [go_sem])
  have r2 : w2.cell? ⟨w.heap.size + 1, 2, none⟩ = some (.slice none 0 0) := cell_be hm2 (by simp [go_sem])
  have y0 : w2.frozen? ⟨w.heap.size + 1, 0, none⟩ = false := (hm2.frozen (by simp)).trans (by simp [go_sem])
  have y1 : w2.frozen? ⟨w.heap.size + 1, 1, none⟩ = false := (hm2.frozen (by simp)).trans (by simp [go_sem])
  have y2 : w2.frozen? ⟨w.heap.size + 1, 2, none⟩ = false := (hm2.frozen (by simp)).trans (by simp [go_sem])
  go_wp2_with fail
  refine (l01In_yes _ _ _ _ x0 x2).mono ?_
  rintro e w2' ⟨rfl, rfl⟩
  go_upto_region 5 with fail
  go_quiet (fail)
  obtain ⟨w3, hw3⟩ : ∃ w3 : World, w3 = w2.drewN nq := ⟨_, rfl⟩
  have t3 : Below w2.heap.size w2 w3 := by rw [hw3]; exact below_drewN (Below.refl _ _) _
  rw [← hw3]
  clear hw3
  have hB3 := bnext hB2 t3
  replace y0 := (t3.frozen (World.block_lt_of_cell? _ _ r0)).trans y0
  replace y1 := (t3.frozen (World.block_lt_of_cell? _ _ r1)).trans y1
  replace y2 := (t3.frozen (World.block_lt_of_cell? _ _ r2)).trans y2
  replace f0 := cell_be t3 f0
  replace f1 := cell_be t3 f1
  replace f2 := cell_be t3 f2
  replace r0 := cell_be t3 r0
  replace r1 := cell_be t3 r1
  replace r2 := cell_be t3 r2
  clear t3
  go_wp2_with fail
  refine (l03Cut_any p _ _ _ xs _ _ ys m _ (hs.below hB3) (ht.below hB3) hm00 (Nat.le_refl _) hn).mono ?_
  rintro e w9 ⟨a', c', b', d', rfl, ho, t9⟩
  have z10 : w.heap.size + 1 < w3.heap.size := World.block_lt_of_cell? _ _ r0
  have z9 := t9.size
  have z3 := hB3.size
  have hB9 := bnext hB3 t9
  replace y0 := (t9.frozen (World.block_lt_of_cell? _ _ r0)).trans y0
  replace y1 := (t9.frozen (World.block_lt_of_cell? _ _ r1)).trans y1
  replace y2 := (t9.frozen (World.block_lt_of_cell? _ _ r2)).trans y2
  replace f0 := cell_be t9 f0
  replace f1 := cell_be t9 f1
  replace f2 := cell_be t9 f2
  replace r0 := cell_be t9 r0
  replace r1 := cell_be t9 r1
  replace r2 := cell_be t9 r2
  rw [List.take_of_length_le (by rw [hl.out]; exact Nat.le_refl _), List.take_of_length_le (by rw [hl2.out]; exact Nat.le_refl _)] at ho
  obtain ⟨ga, gb, rfl, rfl, d1, d2, d3, d4, d5, oA, oB⟩ := ho.rows (by omega) (by omega)
  have hbA := bl1 w9 (.cells #[.int .i64 p, .slice (some ⟨ga, 0, none⟩) m c', .slice (some ⟨gb, 0, none⟩) m d'] 63)
  clear t9 ho g1 g2 hb0 hm2
  by_cases h1 : m = 1
  · have hq : ((m : Int) == 1) = true := by simp; omega
    have hq2 : decide ((m : Int) = 1) = true := by simp; omega
    have hK1 : K = 0 := by omega
    have HC := hide (show radC p xs ys x = 0 by rw [HRD.out, eE, hK1, polJ_zero, evM_one hp]; rfl)
    have HX := hide (show radX p xs ys x = x by
      unfold radX radB
      rw [hl.out, if_pos (by omega), evM_nil, Int.zero_mul, Int.zero_emod, Int.mul_zero, Int.add_zero]
      exact Int.emod_eq_of_lt x0 x1)
    have cA := Own.cellG oA 0 (by rw [hl.out]; omega)
    have fA := Own.freeG oA 0
    have oA2 := hide (Own.setG oA 0 x)
    have oB2 := hide (Own.otherG oB (show blk (some ⟨gb, 0, none⟩) ≠ some ga by simp [blk]; omega) (j := 0) (.int .i64 x))
    have HK1 := hide hK1
    clear h1 hK1 vK f0 f1 f2 oA oB hK0 hKn hKm
    go_upto_region 9 with fail
    have hbz := bl1 (w9.setCell ⟨ga, 0, none⟩ (.int .i64 x)) (.cells #[.int .i64 p, .slice (some ⟨ga, 0, none⟩) m c', .slice (some ⟨gb, 0, none⟩) m d'] 63)
    have q0 : ((w9.setCell ⟨ga, 0, none⟩ (.int .i64 x)).alloc (.cells #[.int .i64 p, .slice (some ⟨ga, 0, none⟩) m c', .slice (some ⟨gb, 0, none⟩) m d'] 63)).cell? ⟨w9.heap.size, 0, none⟩ = some (.int .i64 p) := by simp [go_sem]
    have q1 : ((w9.setCell ⟨ga, 0, none⟩ (.int .i64 x)).alloc (.cells #[.int .i64 p, .slice (some ⟨ga, 0, none⟩) m c', .slice (some ⟨gb, 0, none⟩) m d'] 63)).cell? ⟨w9.heap.size, 1, none⟩ = some (.slice (some ⟨ga, 0, none⟩) m c') := by simp [go_sem]
    have q2 : ((w9.setCell ⟨ga, 0, none⟩ (.int .i64 x)).alloc (.cells #[.int .i64 p, .slice (some ⟨ga, 0, none⟩) m c', .slice (some ⟨gb, 0, none⟩) m d'] 63)).cell? ⟨w9.heap.size, 2, none⟩ = some (.slice (some ⟨gb, 0, none⟩) m d') := by simp [go_sem]
    have s0 := cell_set2 r0 (show ga ≠ w.heap.size + 1 by omega) (.int .i64 x) (a := ⟨ga, 0, none⟩)
    have s1 := cell_set2 r1 (show ga ≠ w.heap.size + 1 by omega) (.int .i64 x) (a := ⟨ga, 0, none⟩)
    have s2 := cell_set2 r2 (show ga ≠ w.heap.size + 1 by omega) (.int .i64 x) (a := ⟨ga, 0, none⟩)
    have yy0 : (w9.setCell ⟨ga, 0, none⟩ (.int .i64 x)).frozen? ⟨w.heap.size + 1, 0, none⟩ = false := by simpa using y0
    have yy1 : (w9.setCell ⟨ga, 0, none⟩ (.int .i64 x)).frozen? ⟨w.heap.size + 1, 1, none⟩ = false := by simpa using y1
    have yy2 : (w9.setCell ⟨ga, 0, none⟩ (.int .i64 x)).frozen? ⟨w.heap.size + 1, 2, none⟩ = false := by simpa using y2
    replace yy0 := (hbz.frozen (World.block_lt_of_cell? _ _ s0)).trans yy0
    replace yy1 := (hbz.frozen (World.block_lt_of_cell? _ _ s1)).trans yy1
    replace yy2 := (hbz.frozen (World.block_lt_of_cell? _ _ s2)).trans yy2
    clear r0 r1 r2 y0 y1 y2
    have r0 := cell_be hbz s0
    have r1 := cell_be hbz s1
    have r2 := cell_be hbz s2
    have hBZ := bnext (hB9.setCell (p := ⟨ga, 0, none⟩) (by simp; omega) (.int .i64 x)) hbz
    have oA3 := hide (oA2.out.below hbz)
    have oB3 := hide (oB2.out.below hbz)
    obtain ⟨wz, hwz⟩ : ∃ wz, wz = ((w9.setCell ⟨ga, 0, none⟩ (.int .i64 x)).alloc (.cells #[.int .i64 p, .slice (some ⟨ga, 0, none⟩) m c', .slice (some ⟨gb, 0, none⟩) m d'] 63)) := ⟨_, rfl⟩
    have hz3 : w9.heap.size ≤ wz.heap.size := by rw [hwz]; simp
    rw [← hwz] at q0 q1 q2 r0 r1 r2 yy0 yy1 yy2 hBZ oA3 oB3 ⊢
    clear hwz oA2 oB2 hbz s0 s1 s2
    go_wp2
    refine bodyPost_ret (v := .tuple #[jac p (some ⟨ga, 0, none⟩) m c' (some ⟨gb, 0, none⟩) m d', .int .i64 0]) (by simp [results, Try.results47, go_sem, r0, r1, r2]) rfl ?_
    have HV := hide (HV.out HC.out)
    have HU := hide (HU.out HC.out)
    have HQ := hide (HQ.out HC.out)
    have oA4 : Hid (Own w3.heap.size wz (some ⟨ga, 0, none⟩) c' (xs.set K (radX p xs ys x))) := (by rw [HK1.out, HX.out]; exact oA3)
    have jz : JZ w3.heap.size wz.heap.size wz (some ⟨ga, 0, none⟩) m c' (xs.set K (radX p xs ys x)) (some ⟨gb, 0, none⟩) m d' ys := ⟨OZ.of oA4.out (by rw [List.length_set]; exact hl.out.symm), OZ.of oB3.out hl2.out.symm, .inr (.inr (by simp [blk]; omega))⟩
    have jz2 := ((jz.setLow (x := ⟨w.heap.size + 1, 0, none⟩) (by simp; omega) (.int .i64 p)).setLow (x := ⟨w.heap.size + 1, 1, none⟩) (by simp; omega) (.slice (some ⟨ga, 0, none⟩) m c')).setLow (x := ⟨w.heap.size + 1, 2, none⟩) (by simp; omega) (.slice (some ⟨gb, 0, none⟩) m d')
    exact ResJ.mk HQ.out HC.out (by rw [HV.out, List.length_set]; exact hl.out.symm) (by rw [HU.out]; exact hl2.out.symm) (by rw [HV.out, HU.out]; simpa using jz2.mono (lo' := w.heap.size) (by omega) (Nat.le_refl _)) (by rw [HV.out, List.length_set, hl.out]; omega) (by rw [HU.out, hl2.out]; omega) (((hBZ.setCell (by simp) _).setCell (by simp) _).setCell (by simp) _)
  have hq : ((m : Int) == 1) = false := by simp; omega
  have hq2 : decide ((m : Int) = 1) = false := by simp; omega
  obtain ⟨K2, hK2⟩ : ∃ K2, K = K2 + 1 := ⟨K - 1, by have := HK.out; omega⟩
  have vK2 : IntKind.i64.wrap ((m : Int) - 2) = (K2 : Int) := by rw [show (m : Int) - 2 = (K2 : Int) by have := HK.out; omega]; exact IntWalk.i64_in _ (by have := HK.out; omega)
  have hP1 := polJ_small hp xs ys K (by omega)
  have hP2 := polJ_small hp xs ys K2 (by omega)
  have eB : Hid (radB p xs ys = polJ p xs ys K2) := hide (by unfold radB; rw [hl.out, if_neg (by omega)]; congr 1; have := HK.out; omega)
  obtain ⟨P1, hP1e⟩ : ∃ P, polJ p xs ys K = P := ⟨_, rfl⟩
  obtain ⟨P2, hP2e⟩ : ∃ P, polJ p xs ys K2 = P := ⟨_, rfl⟩
  rw [hP1e] at hP1 eE
  rw [hP2e] at hP2 eB
  have HP1 := hide hP1e
  have HP2 := hide hP2e
  have HA1 := hide hP1.are
  have HA2 := hide hP2.are
  have l1 : P1.length ≤ 1000 := Nat.le_trans hP1.2 (by omega)
  have l2 : P2.length ≤ 1000 := Nat.le_trans hP2.2 (by omega)
  have rE := evM_rng hp P1 x
  have rF := evM_rng hp P2 x
  obtain ⟨E, hE⟩ : ∃ E, evM p P1 x = E := ⟨_, rfl⟩
  obtain ⟨F, hF⟩ : ∃ F, evM p P2 x = F := ⟨_, rfl⟩
  rw [hE] at eE rE
  rw [hF] at rF
  have HEe := hide hE
  have HFe := hide hF
  have EE := hide eE
  have K20 : K2 ≤ m := by omega
  clear hP1 hP2 hP1e hP2e hE hF eE h1 hK2
  have fa0 := cell_al f0 (.cells #[.int .i64 p, .slice (some ⟨ga, 0, none⟩) m c', .slice (some ⟨gb, 0, none⟩) m d'] 63)
  have fa1 := cell_al f1 (.cells #[.int .i64 p, .slice (some ⟨ga, 0, none⟩) m c', .slice (some ⟨gb, 0, none⟩) m d'] 63)
  have fa2 := cell_al f2 (.cells #[.int .i64 p, .slice (some ⟨ga, 0, none⟩) m c', .slice (some ⟨gb, 0, none⟩) m d'] 63)
  go_wp2_with fail
  refine (l03Poly_any p _ _ _ xs _ _ _ ys K _ (hs.below (bnext hB9 hbA)) (ht.below (bnext hB9 hbA)) Hj.out (by omega)).mono ?_
  rintro e w10 ⟨a1, c1, rfl, ho1, t10⟩
  rw [HP1.out] at ho1 ⊢
  have s10 := hide ho1.sl
  have hBA := bnext hB9 (bnext hbA t10)
  clear fa0 fa1 fa2
  have q0 : w10.cell? ⟨w9.heap.size, 0, none⟩ = some (.int .i64 p) := cell_be t10 (by simp [go_sem])
  have q1 : w10.cell? ⟨w9.heap.size, 1, none⟩ = some (.slice (some ⟨ga, 0, none⟩) m c') := cell_be t10 (by simp [go_sem])
  have q2 : w10.cell? ⟨w9.heap.size, 2, none⟩ = some (.slice (some ⟨gb, 0, none⟩) m d') := cell_be t10 (by simp [go_sem])
  have tA := bnext hbA t10
  have oA1 := hide (oA.below tA)
  have oB1 := hide (oB.below tA)
  have z11 : w9.heap.size < w10.heap.size := World.block_lt_of_cell? _ _ q0
  replace y0 := (tA.frozen (World.block_lt_of_cell? _ _ r0)).trans y0
  replace y1 := (tA.frozen (World.block_lt_of_cell? _ _ r1)).trans y1
  replace y2 := (tA.frozen (World.block_lt_of_cell? _ _ r2)).trans y2
  replace f0 := cell_be tA f0
  replace f1 := cell_be tA f1
  replace f2 := cell_be tA f2
  replace r0 := cell_be tA r0
  replace r1 := cell_be tA r1
  replace r2 := cell_be tA r2
  clear ho1 t10 hbA oA oB tA
  go_wp2_with fail
  refine (l01At_any p x _ _ _ P1 _ s10.out l1 hp hp2 x0 x1 HA1.out).mono ?_
  rintro e w11 ⟨rfl, rfl⟩
  rw [HEe.out]
  by_cases hz : E = 0
  · have hz1 : (E == 0) = true := by simpa using hz
    have hz2 : decide (E = 0) = true := by simpa using hz
    have HC := hide (show radC p xs ys x = 5 by rw [HRD.out, EE.out, if_pos hz])
    have HE := hide (rad_err HC.out (by decide))
    have hB2 := hBA
    clear hz
    go_wp2
    refine bodyPost_ret (v := .tuple #[jac 0 none 0 0 none 0 0, .int .i64 5]) (by simp [results, Try.results47, go_sem, r0, r1, r2]) rfl ?_
    exact ResJ.nil HE.out.1 HE.out.2.1 HE.out.2.2 HC.out (((hB2.setCell (by simp) _).setCell (by simp) _).setCell (by simp) _)
  have hz1 : (E == 0) = false := by simpa using hz
  have hz2 : decide (E = 0) = false := by simpa using hz
  have HC := hide (show radC p xs ys x = 0 by rw [HRD.out, EE.out, if_neg hz])
  clear hz s10
  have rY := getD_rng Hy.out hp K
  obtain ⟨y, hyy⟩ : ∃ y, ys.getD K 0 = y := ⟨_, rfl⟩
  rw [hyy] at rY
  obtain ⟨m1, m2⟩ := mulb rY.1 rY.2 rF.1 rF.2 hp2
  have v1 : IntKind.i64.wrap (y * F) = y * F := IntWalk.i64_in _ (by omega)
  have v2 : (y * F).tmod p = y * F % p := Int.tmod_eq_emod_of_nonneg m1
  have rG := modb (x := y * F) hp
  have rI := invM_rng E hp
  obtain ⟨I, hI⟩ : ∃ I, invM p E = I := ⟨_, rfl⟩
  rw [hI] at rI
  have HI := hide hI
  have eX : Hid ((x - y * F % p * I) % p = radX p xs ys x) := hide (by
    unfold radX
    rw [hl.out, eB.out, EE.out, HFe.out, hI, show m - 1 = K by have := HK.out; omega, hyy]
    exact rad_mod hp)
  obtain ⟨G, hG⟩ : ∃ G, y * F % p = G := ⟨_, rfl⟩
  rw [hG] at v2 rG eX
  have v3 : IntKind.i64.wrap G = G := IntWalk.i64_in _ (by omega)
  obtain ⟨k1, k2⟩ := mulb rG.1 rG.2 rI.1 rI.2 hp2
  have v4 : IntKind.i64.wrap (G * I) = G * I := IntWalk.i64_in _ (by omega)
  have v5 : IntKind.i64.wrap (x - G * I) = x - G * I := IntWalk.i64_in _ (by omega)
  have b1 : -9223372036854775808 ≤ x - G * I := by omega
  have b2 : x - G * I ≤ 9223372036854775807 := by omega
  obtain ⟨X, hX⟩ : ∃ X, (x - G * I) % p = X := ⟨_, rfl⟩
  have HX := hide hX
  rw [hX] at eX
  have hp0 : ¬ p = 0 := by omega
  obtain ⟨bb, oo, rfl, hbw, hcc⟩ := ht.at (show 0 < m by omega)
  have eY := hcc K (by omega)
  rw [hyy] at eY
  have eY10 := cell_be hBA eY
  have F10 : ∀ w', Below w10.heap.size w10 w' → w'.cell? ⟨w9.heap.size, 1, none⟩ = some (.slice (some ⟨ga, 0, none⟩) m c') ∧ w'.cell? ⟨w.heap.size, 0, none⟩ = some (.int .i64 p) ∧ w'.cell? ⟨w.heap.size, 1, none⟩ = some (.slice a m c) ∧ w'.cell? ⟨w.heap.size, 2, none⟩ = some (.slice (some ⟨bb, oo, none⟩) m d) ∧ w'.cell? ⟨bb, oo + K, none⟩ = some (.int .i64 y) := fun w' h => ⟨cell_be h q1, cell_be h f0, cell_be h f1, cell_be h f2, cell_be h eY10⟩
  have hm := (Below.refl w10.heap.size w10).drew
  have ss := hs.below hBA
  have st := ht.below hBA
  clear hI hG hX m1 m2 k1 k2 hyy hcc eY eY10
  go_upto_region 13 with fail
  refine region_E (fun w' => w'.cell? ⟨w9.heap.size, 1, none⟩ = some (.slice (some ⟨ga, 0, none⟩) m c') ∧ w'.cell? ⟨w.heap.size, 0, none⟩ = some (.int .i64 p) ∧ w'.cell? ⟨w.heap.size, 1, none⟩ = some (.slice a m c) ∧ w'.cell? ⟨w.heap.size, 2, none⟩ = some (.slice (some ⟨bb, oo, none⟩) m d) ∧ w'.cell? ⟨bb, oo + K, none⟩ = some (.int .i64 y)) 29 (by kernel_rfl) (F10 _ hm) ?_
  intro hS
  refine anyE_takeL 0 rfl (by kernel_rfl) (fun _ _ _ h => h) hS (by rfl) (v := ?_) ?_ ?_
  rotate_left
  · intro w' hSw; (try dsimp only at hSw); go_simp; (try with_reducible rfl)
  try simp only [Act.put, List.setIfInBounds_toArray, List.set_cons_zero, List.set_cons_succ]
  refine anyE_takeL 1 rfl (by kernel_rfl) (fun _ _ _ h => h) hS (by rfl) (v := ?_) ?_ ?_
  rotate_left
  · intro w' hSw; (try dsimp only at hSw); go_simp; (try with_reducible rfl)
  try simp only [Act.put, List.setIfInBounds_toArray, List.set_cons_zero, List.set_cons_succ]
  refine anyE_takeL 2 rfl (by kernel_rfl) (fun _ _ _ h => h) hS (by rfl) (v := ?_) ?_ ?_
  rotate_left
  · intro w' hSw; (try dsimp only at hSw); go_simp; (try with_reducible rfl)
  try simp only [Act.put, List.setIfInBounds_toArray, List.set_cons_zero, List.set_cons_succ]
  refine anyE_takeL 3 rfl (by kernel_rfl) (fun _ _ _ h => h) hS (by rfl) (v := ?_) ?_ ?_
  rotate_left
  · intro w' hSw; (try dsimp only at hSw); go_simp; (try with_reducible rfl)
  try simp only [Act.put, List.setIfInBounds_toArray, List.set_cons_zero, List.set_cons_succ]
  refine anyE_takeL 4 rfl (by kernel_rfl) (fun _ _ _ h => h) hS (by rfl) (v := ?_) ?_ ?_
  rotate_left
  · intro w' hSw; (try dsimp only at hSw); go_simp; (try with_reducible rfl)
  try simp only [Act.put, List.setIfInBounds_toArray, List.set_cons_zero, List.set_cons_succ]
  refine anyE_takeL 5 rfl (by kernel_rfl) (fun _ _ _ h => h) hS (by rfl) (v := ?_) ?_ ?_
  rotate_left
  · intro w' hSw; (try dsimp only at hSw); go_simp; (try with_reducible rfl)
  try simp only [Act.put, List.setIfInBounds_toArray, List.set_cons_zero, List.set_cons_succ]
  refine anyE_takeL 6 rfl (by kernel_rfl) (fun _ _ _ h => h) hS (by rfl) (v := ?_) ?_ ?_
  rotate_left
  · intro w' hSw; (try dsimp only at hSw); go_simp; (try with_reducible rfl)
  try simp only [Act.put, List.setIfInBounds_toArray, List.set_cons_zero, List.set_cons_succ]
  refine anyE_takeL 7 rfl (by kernel_rfl) (fun _ _ _ h => h) hS (by rfl) (v := ?_) ?_ ?_
  rotate_left
  · intro w' hSw; (try dsimp only at hSw); go_simp; (try with_reducible rfl)
  try simp only [Act.put, List.setIfInBounds_toArray, List.set_cons_zero, List.set_cons_succ]
  refine anyE_takeL 8 rfl (by kernel_rfl) (fun _ _ _ h => h) hS (by rfl) (v := ?_) ?_ ?_
  rotate_left
  · intro w' hSw; (try dsimp only at hSw); go_simp; (try with_reducible rfl)
  try simp only [Act.put, List.setIfInBounds_toArray, List.set_cons_zero, List.set_cons_succ]
  refine anyE_takeL 9 rfl (by kernel_rfl) (fun _ _ _ h => h) hS (by rfl) (v := ?_) ?_ ?_
  rotate_left
  · intro w' hSw; (try dsimp only at hSw); go_simp; (try with_reducible rfl)
  try simp only [Act.put, List.setIfInBounds_toArray, List.set_cons_zero, List.set_cons_succ]
  refine anyE_takeL 10 rfl (by kernel_rfl) (fun _ _ _ h => h) hS (by rfl) (v := ?_) ?_ ?_
  rotate_left
  · intro w' hSw; (try dsimp only at hSw); go_simp; (try with_reducible rfl)
  try simp only [Act.put, List.setIfInBounds_toArray, List.set_cons_zero, List.set_cons_succ]
  refine anyE_takeL 11 rfl (by kernel_rfl) (fun _ _ _ h => h) hS (by rfl) (v := ?_) ?_ ?_
  rotate_left
  · intro w' hSw; (try dsimp only at hSw); go_simp; (try with_reducible rfl)
  try simp only [Act.put, List.setIfInBounds_toArray, List.set_cons_zero, List.set_cons_succ]
  refine anyE_takeL 12 rfl (by kernel_rfl) (fun _ _ _ h => h) hS (by rfl) (v := ?_) ?_ ?_
  rotate_left
  · intro w' hSw; (try dsimp only at hSw); go_simp; (try with_reducible rfl)
  try simp only [Act.put, List.setIfInBounds_toArray, List.set_cons_zero, List.set_cons_succ]
  refine anyE_takeL 13 rfl (by kernel_rfl) (fun _ _ _ h => h) hS (by rfl) (v := ?_) ?_ ?_
  rotate_left
  · intro w' hSw; (try dsimp only at hSw); go_simp; (try with_reducible rfl)
  try simp only [Act.put, List.setIfInBounds_toArray, List.set_cons_zero, List.set_cons_succ]
  refine anyE_takeL 14 rfl (by kernel_rfl) (fun _ _ _ h => h) hS (by rfl) (v := ?_) ?_ ?_
  rotate_left
  · intro w' hSw; (try dsimp only at hSw); go_simp; (try with_reducible rfl)
  try simp only [Act.put, List.setIfInBounds_toArray, List.set_cons_zero, List.set_cons_succ]
  refine anyE_takeL 15 rfl (by kernel_rfl) (fun _ _ _ h => h) hS (by rfl) (v := ?_) ?_ ?_
  rotate_left
  · intro w' hSw; (try dsimp only at hSw); go_simp; (try with_reducible rfl)
  try simp only [Act.put, List.setIfInBounds_toArray, List.set_cons_zero, List.set_cons_succ]
  refine anyE_takeL 17 rfl (by kernel_rfl) (fun _ _ _ h => h) hS (by rfl) (v := ?_) ?_ ?_
  rotate_left
  · intro w' hSw; (try dsimp only at hSw); go_simp; (try with_reducible rfl)
  try simp only [Act.put, List.setIfInBounds_toArray, List.set_cons_zero, List.set_cons_succ]
  refine anyE_takeL 20 rfl (by kernel_rfl) (fun _ _ _ h => h) hS (by rfl) (v := ?_) ?_ ?_
  rotate_left
  · intro w' hSw; (try dsimp only at hSw); go_simp; (try with_reducible rfl)
  try simp only [Act.put, List.setIfInBounds_toArray, List.set_cons_zero, List.set_cons_succ]
  refine anyE_takeL 22 rfl (by kernel_rfl) (fun _ _ _ h => h) hS (by rfl) (v := ?_) ?_ ?_
  rotate_left
  · intro w' hSw; (try dsimp only at hSw); go_simp; (try with_reducible rfl)
  try simp only [Act.put, List.setIfInBounds_toArray, List.set_cons_zero, List.set_cons_succ]
  refine anyE_takeL 23 rfl (by kernel_rfl) (fun _ _ _ h => h) hS (by rfl) (v := ?_) ?_ ?_
  rotate_left
  · intro w' hSw; (try dsimp only at hSw); go_simp; (try with_reducible rfl)
  try simp only [Act.put, List.setIfInBounds_toArray, List.set_cons_zero, List.set_cons_succ]
  refine anyE_oneL 16 (by kernel_rfl) rfl (fun K' hK' => ?_)
  go_simp
  refine (l03Poly_any p _ _ _ xs _ _ _ ys K2 _ (ss.below hm) (st.below hm) Hj.out K20).mono ?_
  rintro e u1 ⟨a5, c5, rfl, ho5, t5⟩
  rw [HP2.out] at ho5 ⊢
  have sP := ho5.sl
  have hm := bnext hm t5
  dsimp only
  have hS := F10 _ hm
  refine hK'.out _ _ hS ?_
  clear hK' K'
  try simp only [Act.put, List.setIfInBounds_toArray, List.set_cons_zero, List.set_cons_succ]
  refine anyE_oneL 18 (by kernel_rfl) rfl (fun K' hK' => ?_)
  go_simp
  refine (l01At_any p x _ _ _ P2 _ sP l2 hp hp2 x0 x1 HA2.out).mono ?_
  rintro e u2 ⟨rfl, rfl⟩
  rw [HFe.out]
  dsimp only
  refine hK'.out _ _ hS ?_
  clear hK' K'
  try simp only [Act.put, List.setIfInBounds_toArray, List.set_cons_zero, List.set_cons_succ]
  refine anyE_takeL 19 rfl (by kernel_rfl) (fun _ _ _ h => h) hS (by rfl) (v := ?_) ?_ ?_
  rotate_left
  · intro w' hSw; (try dsimp only at hSw); go_simp; (try with_reducible rfl)
  try simp only [Act.put, List.setIfInBounds_toArray, List.set_cons_zero, List.set_cons_succ]
  refine anyE_takeL 21 rfl (by kernel_rfl) (fun _ _ _ h => h) hS (by rfl) (v := ?_) ?_ ?_
  rotate_left
  · intro w' hSw; (try dsimp only at hSw); go_simp; (try with_reducible rfl)
  try simp only [Act.put, List.setIfInBounds_toArray, List.set_cons_zero, List.set_cons_succ]
  refine anyE_oneL 24 (by kernel_rfl) rfl (fun K' hK' => ?_)
  go_simp
  refine (l01Inverse_any p E _ hp hp2 rE.1 rE.2).mono ?_
  rintro e u3 ⟨rfl, rfl⟩
  rw [HI.out]
  dsimp only
  refine hK'.out _ _ hS ?_
  clear hK' K'
  try simp only [Act.put, List.setIfInBounds_toArray, List.set_cons_zero, List.set_cons_succ]
  refine anyE_takeL 25 rfl (by kernel_rfl) (fun _ _ _ h => h) hS (by rfl) (v := ?_) ?_ ?_
  rotate_left
  · intro w' hSw; (try dsimp only at hSw); go_simp; (try with_reducible rfl)
  try simp only [Act.put, List.setIfInBounds_toArray, List.set_cons_zero, List.set_cons_succ]
  refine anyE_takeL 26 rfl (by kernel_rfl) (fun _ _ _ h => h) hS (by rfl) (v := ?_) ?_ ?_
  rotate_left
  · intro w' hSw; (try dsimp only at hSw); go_simp; (try with_reducible rfl)
  try simp only [Act.put, List.setIfInBounds_toArray, List.set_cons_zero, List.set_cons_succ]
  refine anyE_oneL 27 (by kernel_rfl) rfl (fun K' hK' => ?_)
  go_simp
  refine (l01Mod_any p (x - G * I) _ hp hp2 b1 b2).mono ?_
  rintro e u4 ⟨rfl, rfl⟩
  rw [HX.out]
  dsimp only
  refine hK'.out _ _ hS ?_
  clear hK' K'
  try simp only [Act.put, List.setIfInBounds_toArray, List.set_cons_zero, List.set_cons_succ]
  refine anyE_oneL 28 (by kernel_rfl) rfl (fun K' hK' => ?_)
  go_simp
  refine hK'.out _ _ hS ?_
  clear hK' K'
  try simp only [Act.put, List.setIfInBounds_toArray, List.set_cons_zero, List.set_cons_succ]
  replace q0 := cell_be hm q0
  replace q1 := cell_be hm q1
  replace q2 := cell_be hm q2
  have cA := Own.cellG (oA1.out.below hm) K (by rw [hl.out]; omega)
  have fA := Own.freeG (oA1.out.below hm) K
  have oA3 := hide (Own.setG (oA1.out.below hm) K X)
  have oB3 := hide (Own.otherG (oB1.out.below hm) (show blk (some ⟨gb, 0, none⟩) ≠ some ga by simp [blk]; omega) (j := K) (.int .i64 X))
  replace y0 := (hm.frozen (World.block_lt_of_cell? _ _ r0)).trans y0
  replace y1 := (hm.frozen (World.block_lt_of_cell? _ _ r1)).trans y1
  replace y2 := (hm.frozen (World.block_lt_of_cell? _ _ r2)).trans y2
  replace r0 := cell_be hm r0
  replace r1 := cell_be hm r1
  replace r2 := cell_be hm r2
  have hBU := bnext hBA hm
  have zu := hm.size
  clear hm F10 hS ss st v1 v2 v3 v4 v5
  refine anyE_lastL (by kernel_rfl) rfl (by kernel_rfl) (fun K' hK' => ?_)
  go_simp
  refine hK'.out _ _ ?_
  clear hK' K' cA fA
  try simp only [Act.put, List.setIfInBounds_toArray, List.set_cons_zero, List.set_cons_succ]
  replace q0 := cell_set2 q0 (show ga ≠ w9.heap.size by omega) (.int .i64 X) (a := ⟨ga, K, none⟩)
  replace q1 := cell_set2 q1 (show ga ≠ w9.heap.size by omega) (.int .i64 X) (a := ⟨ga, K, none⟩)
  replace q2 := cell_set2 q2 (show ga ≠ w9.heap.size by omega) (.int .i64 X) (a := ⟨ga, K, none⟩)
  have s0 := cell_set2 r0 (show ga ≠ w.heap.size + 1 by omega) (.int .i64 X) (a := ⟨ga, K, none⟩)
  have s1 := cell_set2 r1 (show ga ≠ w.heap.size + 1 by omega) (.int .i64 X) (a := ⟨ga, K, none⟩)
  have s2 := cell_set2 r2 (show ga ≠ w.heap.size + 1 by omega) (.int .i64 X) (a := ⟨ga, K, none⟩)
  have yy0 : (u1.setCell ⟨ga, K, none⟩ (.int .i64 X)).frozen? ⟨w.heap.size + 1, 0, none⟩ = false := by simpa using y0
  have yy1 : (u1.setCell ⟨ga, K, none⟩ (.int .i64 X)).frozen? ⟨w.heap.size + 1, 1, none⟩ = false := by simpa using y1
  have yy2 : (u1.setCell ⟨ga, K, none⟩ (.int .i64 X)).frozen? ⟨w.heap.size + 1, 2, none⟩ = false := by simpa using y2
  have hBZ := hBU.setCell (p := ⟨ga, K, none⟩) (by simp; omega) (.int .i64 X)
  obtain ⟨wz, hwz⟩ : ∃ wz, wz = u1.setCell ⟨ga, K, none⟩ (.int .i64 X) := ⟨_, rfl⟩
  have hz3 : w9.heap.size ≤ wz.heap.size := by rw [hwz]; simp; omega
  rw [← hwz] at q0 q1 q2 s0 s1 s2 yy0 yy1 yy2 hBZ oA3 oB3 ⊢
  clear hwz r0 r1 r2 y0 y1 y2 oA1 oB1
  have r0 := s0
  have r1 := s1
  have r2 := s2
  clear s0 s1 s2
  go_wp2
  refine bodyPost_ret (v := .tuple #[jac p (some ⟨ga, 0, none⟩) m c' (some ⟨gb, 0, none⟩) m d', .int .i64 0]) (by simp [results, Try.results47, go_sem, r0, r1, r2]) rfl ?_
  have HV := hide (HV.out HC.out)
  have HU := hide (HU.out HC.out)
  have HQ := hide (HQ.out HC.out)
  have oA4 : Hid (Own w3.heap.size wz (some ⟨ga, 0, none⟩) c' (xs.set K (radX p xs ys x))) := hide (by rw [← eX.out]; exact oA3.out)
  have jz : JZ w3.heap.size wz.heap.size wz (some ⟨ga, 0, none⟩) m c' (xs.set K (radX p xs ys x)) (some ⟨gb, 0, none⟩) m d' ys := ⟨OZ.of oA4.out (by rw [List.length_set]; exact hl.out.symm), OZ.of oB3.out hl2.out.symm, .inr (.inr (by simp [blk]; omega))⟩
  have jz2 := ((jz.setLow (x := ⟨w.heap.size + 1, 0, none⟩) (by simp; omega) (.int .i64 p)).setLow (x := ⟨w.heap.size + 1, 1, none⟩) (by simp; omega) (.slice (some ⟨ga, 0, none⟩) m c')).setLow (x := ⟨w.heap.size + 1, 2, none⟩) (by simp; omega) (.slice (some ⟨gb, 0, none⟩) m d')
  exact ResJ.mk HQ.out HC.out (by rw [HV.out, List.length_set]; exact hl.out.symm) (by rw [HU.out]; exact hl2.out.symm) (by rw [HV.out, HU.out]; simpa using jz2.mono (lo' := w.heap.size) (by omega) (Nat.le_refl _)) (by rw [HV.out, List.length_set, hl.out]; omega) (by rw [HU.out, hl2.out]; omega) (((hBZ.setCell (by simp) _).setCell (by simp) _).setCell (by simp) _)
end Go.Proofs.Ytkpmonopjkjflaa
