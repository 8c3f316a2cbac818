/- Contracts: AffineMoments (program). -/
import Derived.Test.YtldcbdehgmmkjaaIp
import Derived.Test.YtldcbdehgmmkjaaWp
namespace Go.Proofs.Ytldcbdehgmmkjaa
open Go.RowKit
set_option linter.unusedVariables false
set_option linter.unusedSimpArgs false

/-- The powers of a x + b. -/
def afP (p : Int) (st : List Int) : Nat → List Int
  | 0 => [1]
  | i + 1 => mulM p (afP p st i) st
theorem afP_len (p : Int) (st : List Int) (hl : st.length ≤ 2) : ∀ i, (afP p st i).length ≤ i + 1 := by
  intro i
  induction i with
  | zero => simp [afP]
  | succ i ih =>
    show (mulM p (afP p st i) st).length ≤ _
    rcases mulM_up (p := p) (f := afP p st i) (g := st) with h | ⟨_, _, h⟩
    · omega
    · rw [h]; omega
theorem afP_poly {p : Int} (hp : primeB p = true) {st : List Int} (hst : polyB p st = true) (hl : st.length ≤ 2) : ∀ i, i ≤ 24 → polyB p (afP p st i) = true := by
  have hpl := primeB_lo hp
  intro i
  induction i with
  | zero => intro _; simp [afP, polyB, areB, okN, lastZ]; omega
  | succ i ih =>
    intro h
    exact mulpI hp (ih (by omega)) hst (by have := afP_len p st hl (i + 1); show (afP p st (i + 1)).length ≤ 25; omega)
theorem afP_are {p : Int} (hp : 2 ≤ p) (st : List Int) : ∀ i, areB p (afP p st i) = true := by
  intro i
  cases i with
  | zero => simp [afP, areB, okN]; omega
  | succ i => exact mulM_are hp
theorem step_poly {p a b : Int} (hp : 2 ≤ p) (ha0 : 0 ≤ a) (ha1 : a < p) (hb0 : 0 ≤ b) (hb1 : b < p) : polyB p (trimL [b, a]) = true ∧ (trimL [b, a]).length ≤ 2 := by
  refine ⟨polyB_trim (by simp) (fun j hj => ?_), trimL_le _⟩
  match j, hj with
  | 0, _ => exact ⟨hb0, hb1⟩
  | 1, _ => exact ⟨ha0, ha1⟩
theorem trimV (a : Option Addr) (n c : Nat) (xs : List Int) (t : Nat) (w : World) (hs : SL w a n c xs) (hn : n ≤ 4000000) (ht : trimN xs n = t) :
    Calls Try.prog 33 #[.slice a n c] w fun e w' => e = .returned (.slice a t c) ∧ Below w.heap.size w w' := by
  subst ht
  exact trim_any a n c xs w hs hn
def afH (p : Int) (st xs : List Int) : Nat → Int := fun k => dotK p (afP p st k) xs 0 (afP p st k).length
def afmC (p : Int) (xs : List Int) (a b : Int) : Int := if momB p xs then (if (0 ≤ a ∧ a < p) ∧ (0 ≤ b ∧ b < p) then 0 else 2) else 1
def afmV (p : Int) (xs : List Int) (a b : Int) : List Int := if afmC p xs a b = 0 then tab xs.length (afH p (trimL [b, a]) xs) else []
def afmP (p : Int) (xs : List Int) (a b : Int) : Int := if afmC p xs a b = 0 then p else 0
theorem afRow_step (p : Int) (st xs : List Int) (N k : Nat) : (tab N (fun j => if j < k then afH p st xs j else 0)).set k (afH p st xs k) = tab N (fun j => if j < k + 1 then afH p st xs j else 0) := by
  rw [tab_set]
  apply tab_congr
  intro j _
  by_cases e : j = k
  · subst e; rw [if_pos rfl, if_pos (by omega)]
  · rw [if_neg e]
    by_cases h : j < k
    · rw [if_pos h, if_pos (by omega)]
    · rw [if_neg h, if_neg (by omega)]
theorem afRow_all (p : Int) (st xs : List Int) (N : Nat) : tab N (fun j => if j < N then afH p st xs j else 0) = tab N (afH p st xs) := tab_congr fun j hj => if_pos hj
set_option maxRecDepth 100000 in
set_option maxHeartbeats 3200000 in
theorem implAffineMoments (p : Int) (a1 : Option Addr) (n c1 : Nat) (xs : List Int) (a b : Int) (w : World) (hs : SL w a1 n c1 xs) (hn : n ≤ 4000000) :
    Calls Try.prog 8 #[mom p a1 n c1, .int .i64 a, .int .i64 b] w (ResM w (afmP p xs a b) (afmV p xs a b) (afmC p xs a b)) := by
  have hl := hide hs.len
  have hb0 := bl2 w (.cells #[.int .i64 p, .slice a1 n c1] 26) (.cells #[.int .i64 0, .slice none 0 0] 26)
  replace hs := hs.below hb0
  cases hm : momB p xs
  · have Hm := hide hm
    have HC := hide (show afmC p xs a b = 1 by simp [afmC, hm])
    have HV := hide (show afmV p xs a b = [] by simp [afmV, HC.out])
    have HQ := hide (show afmP p xs a b = 0 by simp [afmP, HC.out])
    clear hm
    go_enter Try.func8, Try.ntmps8
    go_wp2_with fail
    refine (areMoments_any _ _ _ _ _ _ hs hn).mono ?_
    rintro e w1 ⟨rfl, t1⟩
    rw [Hm.out]
    have f0 : w1.cell? ⟨w.heap.size, 0, none⟩ = some (.int .i64 p) := cell_be t1 (by simp [go_sem])
    have f1 : w1.cell? ⟨w.heap.size, 1, none⟩ = some (.slice a1 n c1) := cell_be t1 (by simp [go_sem])
    have r0 : w1.cell? ⟨w.heap.size + 1, 0, none⟩ = some (.int .i64 0) := cell_be t1 (by simp [go_sem])
    have yr0 : w1.frozen? ⟨w.heap.size + 1, 0, none⟩ = false := (t1.frozen (by simp)).trans (by simp [go_sem])
    have r1 : w1.cell? ⟨w.heap.size + 1, 1, none⟩ = some (.slice none 0 0) := cell_be t1 (by simp [go_sem])
    have yr1 : w1.frozen? ⟨w.heap.size + 1, 1, none⟩ = false := (t1.frozen (by simp)).trans (by simp [go_sem])
    replace hs := hs.below t1
    have B1 := bnext hb0 t1
    have z1 := B1.size
    try simp only [World.size_alloc] at z1
    go_wp2
    refine bodyPost_ret (v := .tuple #[mom 0 none 0 0, .int .i64 1]) (by simp [results, Try.results8, go_sem, r0, r1]) rfl ?_
    exact ResM.nil HQ.out HV.out HC.out ((B1.setCell (by first | omega | (simp; done) | (simp; omega) | exact Nat.le_refl _) _).setCell (by first | omega | (simp; done) | (simp; omega) | exact Nat.le_refl _) _)
  have Hm := hide hm
  obtain ⟨hpr, m1, m2, hx⟩ := momB_rng hm
  obtain ⟨hp, hp2⟩ := primeB_lo hpr
  rw [hl.out] at m1 m2
  have Hx := hide hx
  have Hpr := hide hpr
  by_cases ha : 0 ≤ a ∧ a < p
  rotate_left
  · have HC := hide (show afmC p xs a b = 2 by simp only [afmC, hm, if_true]; rw [if_neg (fun h => ha h.1)])
    have HV := hide (show afmV p xs a b = [] by simp [afmV, HC.out])
    have HQ := hide (show afmP p xs a b = 0 by simp [afmP, HC.out])
    clear hm hx hpr
    go_enter Try.func8, Try.ntmps8
    go_wp2_with fail
    refine (areMoments_any _ _ _ _ _ _ hs hn).mono ?_
    rintro e w1 ⟨rfl, t1⟩
    rw [Hm.out]
    have f0 : w1.cell? ⟨w.heap.size, 0, none⟩ = some (.int .i64 p) := cell_be t1 (by simp [go_sem])
    have f1 : w1.cell? ⟨w.heap.size, 1, none⟩ = some (.slice a1 n c1) := cell_be t1 (by simp [go_sem])
    have r0 : w1.cell? ⟨w.heap.size + 1, 0, none⟩ = some (.int .i64 0) := cell_be t1 (by simp [go_sem])
    have yr0 : w1.frozen? ⟨w.heap.size + 1, 0, none⟩ = false := (t1.frozen (by simp)).trans (by simp [go_sem])
    have r1 : w1.cell? ⟨w.heap.size + 1, 1, none⟩ = some (.slice none 0 0) := cell_be t1 (by simp [go_sem])
    have yr1 : w1.frozen? ⟨w.heap.size + 1, 1, none⟩ = false := (t1.frozen (by simp)).trans (by simp [go_sem])
    replace hs := hs.below t1
    have B1 := bnext hb0 t1
    have z1 := B1.size
    try simp only [World.size_alloc] at z1
    go_wp2_with fail
    refine (isNumber_no _ _ _ ha).mono ?_
    rintro e v2 ⟨rfl, rfl⟩
    go_wp2
    refine bodyPost_ret (v := .tuple #[mom 0 none 0 0, .int .i64 2]) (by simp [results, Try.results8, go_sem, r0, r1]) rfl ?_
    exact ResM.nil HQ.out HV.out HC.out ((B1.setCell (by first | omega | (simp; done) | (simp; omega) | exact Nat.le_refl _) _).setCell (by first | omega | (simp; done) | (simp; omega) | exact Nat.le_refl _) _)
  by_cases hb : 0 ≤ b ∧ b < p
  rotate_left
  · have HC := hide (show afmC p xs a b = 2 by simp only [afmC, hm, if_true]; rw [if_neg (fun h => hb h.2)])
    have HV := hide (show afmV p xs a b = [] by simp [afmV, HC.out])
    have HQ := hide (show afmP p xs a b = 0 by simp [afmP, HC.out])
    clear hm hx hpr
    go_enter Try.func8, Try.ntmps8
    go_wp2_with fail
    refine (areMoments_any _ _ _ _ _ _ hs hn).mono ?_
    rintro e w1 ⟨rfl, t1⟩
    rw [Hm.out]
    have f0 : w1.cell? ⟨w.heap.size, 0, none⟩ = some (.int .i64 p) := cell_be t1 (by simp [go_sem])
    have f1 : w1.cell? ⟨w.heap.size, 1, none⟩ = some (.slice a1 n c1) := cell_be t1 (by simp [go_sem])
    have r0 : w1.cell? ⟨w.heap.size + 1, 0, none⟩ = some (.int .i64 0) := cell_be t1 (by simp [go_sem])
    have yr0 : w1.frozen? ⟨w.heap.size + 1, 0, none⟩ = false := (t1.frozen (by simp)).trans (by simp [go_sem])
    have r1 : w1.cell? ⟨w.heap.size + 1, 1, none⟩ = some (.slice none 0 0) := cell_be t1 (by simp [go_sem])
    have yr1 : w1.frozen? ⟨w.heap.size + 1, 1, none⟩ = false := (t1.frozen (by simp)).trans (by simp [go_sem])
    replace hs := hs.below t1
    have B1 := bnext hb0 t1
    have z1 := B1.size
    try simp only [World.size_alloc] at z1
    go_wp2_with fail
    refine (isNumber_yes _ _ _ ha.1 ha.2).mono ?_
    rintro e v2 ⟨rfl, rfl⟩
    go_wp2_with fail
    refine (isNumber_no _ _ _ hb).mono ?_
    rintro e v3 ⟨rfl, rfl⟩
    go_wp2
    refine bodyPost_ret (v := .tuple #[mom 0 none 0 0, .int .i64 2]) (by simp [results, Try.results8, go_sem, r0, r1]) rfl ?_
    exact ResM.nil HQ.out HV.out HC.out ((B1.setCell (by first | omega | (simp; done) | (simp; omega) | exact Nat.le_refl _) _).setCell (by first | omega | (simp; done) | (simp; omega) | exact Nat.le_refl _) _)
  have HC := hide (show afmC p xs a b = 0 by simp only [afmC, hm, if_true]; rw [if_pos ⟨ha, hb⟩])
  have HV := hide (show afmV p xs a b = tab n (afH p (trimL [b, a]) xs) by simp only [afmV, HC.out, if_true]; rw [hl.out])
  have HQ := hide (show afmP p xs a b = p by simp [afmP, HC.out])
  have hmk := run_mk n (by omega)
  obtain ⟨sp1, sp2⟩ := step_poly hp ha.1 ha.2 hb.1 hb.2
  have Hs := hide sp1
  obtain ⟨ba, hba⟩ : ∃ ba, [b, a] = ba := ⟨_, rfl⟩
  obtain ⟨tn, htn⟩ : ∃ tn, trimN [b, a] 2 = tn := ⟨_, rfl⟩
  have htl : tn ≤ 2 := by rw [← htn]; exact trimN_le _ _
  have htr : Hid (trimL [b, a] = ba.take tn) := hide (by rw [← hba, ← htn]; rfl)
  rw [hba] at htn
  have HTN := hide htn
  have HBA := hide hba
  clear htn hba
  obtain ⟨st, hst⟩ : ∃ st, trimL [b, a] = st := ⟨_, rfl⟩
  rw [hst] at HV Hs htr sp2
  clear hm hx hpr sp1 hst
  go_enter Try.func8, Try.ntmps8
  go_wp2_with fail
  refine (areMoments_any _ _ _ _ _ _ hs hn).mono ?_
  rintro e w1 ⟨rfl, t1⟩
  rw [Hm.out]
  have f0 : w1.cell? ⟨w.heap.size, 0, none⟩ = some (.int .i64 p) := cell_be t1 (by simp [go_sem])
  have f1 : w1.cell? ⟨w.heap.size, 1, none⟩ = some (.slice a1 n c1) := cell_be t1 (by simp [go_sem])
  have r0 : w1.cell? ⟨w.heap.size + 1, 0, none⟩ = some (.int .i64 0) := cell_be t1 (by simp [go_sem])
  have yr0 : w1.frozen? ⟨w.heap.size + 1, 0, none⟩ = false := (t1.frozen (by simp)).trans (by simp [go_sem])
  have r1 : w1.cell? ⟨w.heap.size + 1, 1, none⟩ = some (.slice none 0 0) := cell_be t1 (by simp [go_sem])
  have yr1 : w1.frozen? ⟨w.heap.size + 1, 1, none⟩ = false := (t1.frozen (by simp)).trans (by simp [go_sem])
  replace hs := hs.below t1
  have B1 := bnext hb0 t1
  have z1 := B1.size
  try simp only [World.size_alloc] at z1
  go_wp2_with fail
  refine (isNumber_yes _ _ _ ha.1 ha.2).mono ?_
  rintro e v2 ⟨rfl, rfl⟩
  go_wp2_with fail
  refine (isNumber_yes _ _ _ hb.1 hb.2).mono ?_
  rintro e v3 ⟨rfl, rfl⟩
  have hzz : w.heap.size + 2 ≤ w1.heap.size := by have q := t1.size; simp at q; omega
  have hbz := bl2 w1 (.cells (zrow n) 2) (.cells #[.int .i64 1] 2)
  have hR0 : Hid (RowI ((w1.alloc (.cells (zrow n) 2)).alloc (.cells #[.int .i64 1] 2)) w1.heap.size (tab n (fun j => if j < 0 then afH p st xs j else 0))) := hide (by
    have t := (zrow_row w1 n).next (bl1 _ (.cells #[.int .i64 1] 2))
    have e : tab n (fun j => if j < 0 then afH p st xs j else 0) = tab n (fun _ => 0) := tab_congr fun j _ => if_neg (by omega)
    rw [e]
    exact t)
  have hP0 : Hid (Own (w1.heap.size + 1) ((w1.alloc (.cells (zrow n) 2)).alloc (.cells #[.int .i64 1] 2)) (some ⟨w1.heap.size + 1, 0, none⟩) 1 (afP p st 0)) := hide (by
    have t := litOwn (w1.alloc (.cells (zrow n) 2)) (w1.heap.size + 1) (by simp) 1
    simp only [World.size_alloc] at t
    exact t)
  go_wp2_with fail
  go_loopw [10, 36] (fun pv iv wr => ∃ (k : Nat) (a' : Option Addr) (c' : Nat), k ≤ n ∧ iv = .int .i64 k ∧ pv = .slice a' (afP p st k).length c' ∧ Hid (RowI wr w1.heap.size (tab n (fun j => if j < k then afH p st xs j else 0))) ∧ Hid (Own (w1.heap.size + 1) wr a' c' (afP p st k)) ∧ Below w1.heap.size w1 wr) (fun _ iv _ => n - (intOf iv).toNat)
  case atStart => exact ⟨0, _, 1, by omega, rfl, rfl, hR0, hP0, hbz⟩
  case round =>
    obtain ⟨k, a', c', hk, rfl, rfl, hR, hP, hbr⟩ := hrel
    clear hR0 hP0 hbz
    have hB := B1.trans (hbr.mono B1.size)
    have hgl := hR.out.lt
    by_cases hlt : k < n
    · have hlt' : (k : Int) < (n : Int) := by omega
      have s1 := hs.below hbr
      have g0 := cell_be hbr f0
      have g1 := cell_be hbr f1
      have lf := afP_len p st sp2 k
      have Hf := hide (afP_are hp st k)
      have hcell := hR.out.cell k (by rw [tab_len]; exact hlt)
      rw [tab_at _ _ _ hlt, if_neg (by omega)] at hcell
      have hfree := hR.out.free k
      have hset := hR.out.set k (afH p st xs k)
      rw [afRow_step] at hset
      have Hset := hide hset
      have hst2 : Hid (afP p st (k + 1) = mulM p (afP p st k) st) := hide rfl
      have hX : Hid (dotK p (afP p st k) xs 0 (afP p st k).length = afH p st xs k) := hide rfl
      obtain ⟨X, hXX⟩ : ∃ X, afH p st xs k = X := ⟨_, rfl⟩
      rw [hXX] at hX Hset
      obtain ⟨f, hf⟩ : ∃ f, afP p st k = f := ⟨_, rfl⟩
      rw [hf] at hP lf Hf hst2 hX ⊢
      clear hXX hf hset
      have sp := Own.sl hP.out
      go_wp2_with fail
      refine (functional_int p _ _ _ f _ _ _ xs _ sp s1 (by omega) (by omega) hp hp2 Hf.out Hx.out).mono ?_
      rintro e wv ⟨rfl, rfl⟩
      rw [hX.out]
      have hb2 : Below w1.heap.size w1 (wr.setCell ⟨w1.heap.size, k, none⟩ (.int .i64 X)) := hbr.setCell (by simp) _
      have hP2 := hide (hP.out.setLow (x := ⟨w1.heap.size, k, none⟩) (Nat.lt_succ_self _) (.int .i64 X))
      obtain ⟨ws, hws⟩ : ∃ ws, ws = wr.setCell ⟨w1.heap.size, k, none⟩ (.int .i64 X) := ⟨_, rfl⟩
      rw [← hws] at Hset hb2 hP2
      have hsw : ws.heap.size = wr.heap.size := by rw [hws]; simp
      have sb := litSL2 ws b a
      rw [HBA.out] at sb
      have hsw1 : wr.heap.size ≤ ws.heap.size := by omega
      clear hsw
      go_upto_region 12 with fail
      rw [← hws]
      clear hws hR hP sp hcell hfree s1 g0 g1
      go_wp2_with fail
      refine (trimV _ _ _ ba tn _ sb (by omega) HTN.out).mono ?_
      rintro e w4 ⟨rfl, t4⟩
      have hm4 := bnext (bl1 ws (.cells #[.int .i64 b, .int .i64 a] 2)) t4
      have ss : SL w4 (some ⟨ws.heap.size, 0, none⟩) tn 2 st := by rw [htr.out]; exact (sb.take htl).below t4
      have sq := (Own.sl hP2.out).below hm4
      go_wp2_with fail
      refine (multiply_any p _ _ _ f _ _ _ st _ sq ss (by omega) (by omega) hp hp2 Hf.out (polyB_rng Hs.out).2.1).mono ?_
      rintro e w5 ⟨a5, c5, rfl, o5, t5⟩
      have hm5 := bnext hm4 t5
      have hR5 := hide (Hset.out.next hm5)
      have hb5 := hb2.trans (hm5.mono hb2.size)
      have z4 := hm4.size
      have hP5 : Hid (Own (w1.heap.size + 1) w5 a5 c5 (afP p st (k + 1))) := hide (by rw [hst2.out]; exact o5.mono (by omega))
      clear Hset hb2 hP2 sb ss sq o5 t5 t4 hm4 hm5
      go_wp2
      go_roundw
      case rel => exact ⟨k + 1, a5, c5, by omega, by go_num, by rw [hst2.out], hR5, hP5, hb5⟩
      case measure => simp [intOf]; omega
    · have hkn : k = n := by omega
      have hge : ¬ (k : Int) < (n : Int) := by omega
      have hO : Own w1.heap.size wr (some ⟨w1.heap.size, 0, none⟩) n (tab n (afH p st xs)) := by
        have t := hR.out.own' (Nat.le_refl _) (by rw [tab_len]; unfold maxLen; omega)
        rw [hkn, afRow_all, tab_len] at t
        exact t
      have r0' := cell_be hbr r0
      have r1' := cell_be hbr r1
      have x0' := (hbr.frozen (World.block_lt_of_cell? _ _ r0)).trans yr0
      have x1' := (hbr.frozen (World.block_lt_of_cell? _ _ r1)).trans yr1
      clear hkn hR hP
      go_wp2
      refine bodyPost_ret (v := .tuple #[mom p (some ⟨w1.heap.size, 0, none⟩) n n, .int .i64 0]) (by simp [results, Try.results8, go_sem, r0', r1']) rfl ?_
      exact ResM.own HQ.out HC.out (by rw [HV.out, tab_len]) (by rw [HV.out]; exact ((hO.setLow (by simp; omega) _).setLow (by simp; omega) _).mono (by omega)) (by rw [HV.out, tab_len]; omega) ((hB.setCell (by first | omega | (simp; done) | (simp; omega) | exact Nat.le_refl _) _).setCell (by first | omega | (simp; done) | (simp; omega) | exact Nat.le_refl _) _)
end Go.Proofs.Ytldcbdehgmmkjaa
