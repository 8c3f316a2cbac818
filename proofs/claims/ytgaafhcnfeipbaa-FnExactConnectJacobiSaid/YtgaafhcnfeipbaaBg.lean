/- Contracts: l10Code (model); ExpandDerivative, ExpandProduct (program, model). -/
import Derived.Test.YtgaafhcnfeipbaaBe
import Derived.Test.YtgaafhcnfeipbaaJc
import Derived.Test.YtgaafhcnfeipbaaDe
namespace Go.Proofs.Ytgaafhcnfeipbaa
open Go.RowKit
set_option linter.unusedVariables false
set_option linter.unusedSimpArgs false

/-- the first numbers of a list are in 0..N -/
def inB (N : Int) (f : List Int) : Nat → Bool
  | 0 => true
  | k + 1 => inB N f k && decide (0 ≤ f.getD k 0 ∧ f.getD k 0 ≤ N)
theorem inB_false (N : Int) (f : List Int) (n k : Nat) (hk : k < n) (h : ¬ (0 ≤ f.getD k 0 ∧ f.getD k 0 ≤ N)) : inB N f n = false := by
  induction n with
  | zero => omega
  | succ n ih =>
    unfold inB
    by_cases e : k = n
    · subst e; rw [decide_eq_false h]; simp
    · rw [ih (by omega)]; rfl
def lcdC (p : Int) (xs ys : List Int) (f : List Int) : Int := if jacB p xs ys then (if inB (xs.length : Int) f f.length then 0 else 2) else 1
theorem lcd_one (p : Int) (xs ys : List Int) (k : Int) : lcdC p xs ys [k] = jcd p xs ys k 0 (xs.length : Int) := by
  unfold lcdC jcd
  simp [inB]
set_option maxRecDepth 100000 in
set_option maxHeartbeats 1600000 in
theorem l10Code_any (p : Int) (a : Option Addr) (n c : Nat) (xs : List Int) (b : Option Addr) (m d : Nat) (ys : List Int) (f1 : Option Addr) (q1 c1 : Nat) (f : List Int) (C : Int) (w : World) (hs : SL w a n c xs) (ht : SL w b m d ys) (hf : SL w f1 q1 c1 f) (hn : n ≤ 4000000) (hm : m ≤ 4000000) (hq : q1 ≤ 1000) (hC : lcdC p xs ys f = C) :
    Calls Try.prog 70 #[jac p a n c b m d, .slice f1 q1 c1] w fun e w' => e = .returned (.int .i64 C) ∧ Below w.heap.size w w' := by
  subst hC
  have hl3 := hide hf.len
  have hl := hide hs.len
  have hl2 := hide ht.len
  have hb0 := bl1 w (.cells #[.int .i64 p, .slice a n c, .slice b m d] 24)
  have e0 : (w.alloc (.cells #[.int .i64 p, .slice a n c, .slice b m d] 24)).cell? ⟨w.heap.size, 0, none⟩ = some (.int .i64 p) := by simp [go_sem]
  have e1 : (w.alloc (.cells #[.int .i64 p, .slice a n c, .slice b m d] 24)).cell? ⟨w.heap.size, 1, none⟩ = some (.slice a n c) := by simp [go_sem]
  have e2 : (w.alloc (.cells #[.int .i64 p, .slice a n c, .slice b m d] 24)).cell? ⟨w.heap.size, 2, none⟩ = some (.slice b m d) := by simp [go_sem]
  have g1 := hs.below hb0
  have g2 := ht.below hb0
  have g3 := hf.below hb0
  cases hj : jacB p xs ys
  · have H := hide (show lcdC p xs ys f = 1 by simp [lcdC, hj])
    have Hj := hide hj
    clear hj
    go_enter Try.func70, Try.ntmps70
    go_wp2_with fail
    refine (l03Is_any _ _ _ _ _ _ _ _ _ _ g1 g2 hn hm).mono ?_
    rintro e w1 ⟨rfl, t1⟩
    rw [Hj.out]
    go_wp2
    go_ret
    exact ⟨ret_int H.out.symm, bnext hb0 t1⟩
  have HE := hide (show lcdC p xs ys f = if inB (n : Int) f q1 then 0 else 2 by simp [lcdC, hj, hl.out, hl3.out])
  have Hj := hide hj
  clear hj
  go_enter Try.func70, Try.ntmps70
  go_wp2_with fail
  refine (l03Is_any _ _ _ _ _ _ _ _ _ _ g1 g2 hn hm).mono ?_
  rintro e w1 ⟨rfl, t1⟩
  rw [Hj.out]
  have B1 := hide (bnext hb0 t1)
  have E1 := hide (cell_be t1 e1)
  clear g1 g2 g3 hb0 t1 e0 e1 e2
  go_wp2
  go_loopw [5] (fun iv wr => ∃ k : Nat, k ≤ q1 ∧ iv = .int .i64 k ∧ Hid (inB (n : Int) f k = true) ∧ Hid (Below w.heap.size w wr) ∧ Hid (wr.cell? ⟨w.heap.size, 1, none⟩ = some (.slice a n c))) (fun iv _ => q1 - (intOf iv).toNat)
  case atStart => exact ⟨0, by omega, rfl, hide rfl, B1, E1⟩
  case round =>
    obtain ⟨k, hk, rfl, hR, hW, hE⟩ := hrel
    clear B1 E1
    by_cases hlt : k < q1
    · have hlt' : (k : Int) < (q1 : Int) := by omega
      obtain ⟨b', o', rfl, _, hc⟩ := (hf.below hW.out).at (by omega)
      have ec := hc k hlt
      have f1' := hE.out
      obtain ⟨y, hyy⟩ : ∃ y, f.getD k 0 = y := ⟨_, rfl⟩
      rw [hyy] at ec
      have Hyy := hide hyy
      have hbd := (Below.refl wr.heap.size wr).drew
      have zw := hW.out.size
      have B2 := hide (hW.out.trans (hbd.mono zw))
      have E2 := hide (cell_be hbd f1')
      clear hyy hc
      by_cases hr : 0 ≤ y ∧ y ≤ (n : Int)
      · have hF := hide (show inB (n : Int) f (k + 1) = true by unfold inB; rw [hR.out, Hyy.out, decide_eq_true hr]; rfl)
        go_upto_region 6 with fail
        go_region_held3 (fun w' => w'.cell? ⟨w.heap.size, 1, none⟩ = some (.slice a n c) ∧ w'.cell? ⟨b', o' + k, none⟩ = some (.int .i64 y))
          (exact ⟨cell_be hbd f1', cell_be hbd ec⟩)
          (first | (go_at_call 43; refine (l01In_yes _ _ _ _ hr.1 hr.2).mono ?_; rintro e w4 ⟨rfl, rfl⟩))
        clear hW hE hR ec f1' hbd
        go_wp2
        go_roundw
        case rel => exact ⟨k + 1, by omega, by go_num, hF, B2, E2⟩
        case measure => simp [intOf]; omega
      · have hF := hide (show lcdC p xs ys f = 2 by rw [HE.out, inB_false (n : Int) f q1 k hlt (by rw [Hyy.out]; exact hr)]; rfl)
        have Hr := hide hr
        clear hr
        go_upto_region 6 with fail
        go_region_held3 (fun w' => w'.cell? ⟨w.heap.size, 1, none⟩ = some (.slice a n c) ∧ w'.cell? ⟨b', o' + k, none⟩ = some (.int .i64 y))
          (exact ⟨cell_be hbd f1', cell_be hbd ec⟩)
          (first | (go_at_call 43; refine (l01In_no _ _ _ _ Hr.out).mono ?_; rintro e w4 ⟨rfl, rfl⟩))
        go_wp2
        go_ret
        exact ⟨ret_int hF.out.symm, B2.out⟩
    · have hkN : Hid (k = q1) := hide (by omega)
      have hge : ¬ (k : Int) < (q1 : Int) := by omega
      have hF := hide (show lcdC p xs ys f = 0 by rw [HE.out, ← hkN.out, hR.out]; rfl)
      go_wp2
      go_ret
      exact ⟨ret_int hF.out.symm, hW.out⟩
theorem mulE_poly {p : Int} {f g : List Int} (hp : primeB p = true) (hf : polyB p f = true) (hg : polyB p g = true) (hl : (mulM p f g).length ≤ 25) : polyB p (mulM p f g) = true := by
  have h := mulM_areB (primeB_lo hp).1 f g
  have := polyB_trim hl (fun j hj => areB_at h j hj)
  rwa [mulM_trim hp hf hg] at this
theorem derE_poly {p : Int} (hp : 2 ≤ p) {f : List Int} (hl : f.length ≤ 25) : polyB p (derM p f) = true :=
  polyB_trim (by rw [tab_len]; omega) (fun j hj => by rw [tab_len] at hj; rw [tab_at _ _ _ hj]; exact modb hp)
def xdC (p : Int) (xs ys : List Int) (k : Int) : Int := polC p xs ys k
def xdV (p : Int) (xs ys : List Int) (k : Int) : List Int := if xdC p xs ys k = 0 then expL p xs ys (derM p (polJ p xs ys k.toNat)) else []
set_option maxRecDepth 100000 in
set_option maxHeartbeats 3200000 in
theorem implExpandDerivative (p : Int) (a : Option Addr) (n c : Nat) (xs : List Int) (b : Option Addr) (m d : Nat) (ys : List Int) (k : Int) (w : World) (hs : SL w a n c xs) (ht : SL w b m d ys) (hn : n ≤ 4000000) (hm : m ≤ 4000000) :
    Calls Try.prog 39 #[jac p a n c b m d, .int .i64 k] w (Res1 w (xdV p xs ys k) (xdC p xs ys k)) := by
  have hl := hide hs.len
  have hl2 := hide ht.len
  have hb0 := bl1 w (.cells #[.int .i64 p, .slice a n c, .slice b m d] 24)
  have e0 : (w.alloc (.cells #[.int .i64 p, .slice a n c, .slice b m d] 24)).cell? ⟨w.heap.size, 0, none⟩ = some (.int .i64 p) := by simp [go_sem]
  have e1 : (w.alloc (.cells #[.int .i64 p, .slice a n c, .slice b m d] 24)).cell? ⟨w.heap.size, 1, none⟩ = some (.slice a n c) := by simp [go_sem]
  have e2 : (w.alloc (.cells #[.int .i64 p, .slice a n c, .slice b m d] 24)).cell? ⟨w.heap.size, 2, none⟩ = some (.slice b m d) := by simp [go_sem]
  have g1 := hs.below hb0
  have g2 := ht.below hb0
  obtain ⟨C, hC⟩ : ∃ C, polC p xs ys k = C := ⟨_, rfl⟩
  by_cases h0 : C = 0
  · subst h0
    have hj : jacB p xs ys = true ∧ 0 ≤ k ∧ k ≤ (xs.length : Int) := by
      rcases jcd_cases p xs ys k 0 (xs.length : Int) with h | h | ⟨h, hj, q1, q2⟩
      · exact absurd (h.symm.trans hC) (by decide)
      · exact absurd (h.symm.trans hC) (by decide)
      · exact ⟨hj, q1, q2⟩
    obtain ⟨hj, q1, q2⟩ := hj
    obtain ⟨hpr, n1, n2, n3, hx, hy⟩ := jacB_rng hj
    obtain ⟨hp, hp2⟩ := primeB_lo hpr
    have HJ := hide hj
    have HPR := hide hpr
    have HX := hide hx
    have HY := hide (posB_are hy)
    rw [hl.out] at n1 n2 n3
    rw [hl2.out] at n3
    subst n3
    rw [hl.out] at q2
    have HC := hide (show xdC p xs ys k = 0 from hC)
    obtain ⟨K, rfl⟩ : ∃ K : Nat, k = K := ⟨k.toNat, by omega⟩
    have lP := polJ_small hp xs ys K (by omega)
    have lP2 := lP.2
    have lD := derM_len p (polJ p xs ys K)
    have HV := hide (show xdV p xs ys (K : Int) = expL p xs ys (derM p (polJ p xs ys K)) by unfold xdV; rw [if_pos HC.out]; rfl)
    have HDP := hide (derE_poly hp (show (polJ p xs ys K).length ≤ 25 by omega))
    have hpo := hide (show polC p xs ys (K : Int) = 0 from hC)
    have hpv := hide (show polV p xs ys (K : Int) = polJ p xs ys K by unfold polV; rw [if_pos hC]; rfl)
    have hdc := hide (show derC p (polJ p xs ys K) = 0 by unfold derC chk1; rw [lP.1, hpr]; rfl)
    have hdv := hide (show derV p (polJ p xs ys K) = derM p (polJ p xs ys K) by unfold derV; rw [if_pos hdc.out])
    clear hC hj hpr hx hy
    go_enter Try.func39, Try.ntmps39
    go_wp2_with fail
    refine (implPolyOf p a m c xs b m d ys K _ g1 g2 hm hm).mono ?_
    rintro e w1 ⟨a1, c1, rfl, ho1, hs1, t1⟩
    rw [hpo.out, hpv.out]
    rw [hpv.out] at ho1 hs1
    have s1 := hide ho1.sl
    have B1 := bnext hb0 t1
    have k0 := cell_be t1 e0
    have k1 := cell_be t1 e1
    have k2 := cell_be t1 e2
    clear ho1
    go_wp2_with fail
    refine (implDerivativeOf p a1 _ c1 (polJ p xs ys K) _ s1.out (by omega)).mono ?_
    rintro e w2 ⟨a2, c2, rfl, ho2, hs2, t2⟩
    rw [hdc.out, hdv.out]
    rw [hdv.out] at ho2 hs2
    have s2 := hide ho2.sl
    have B2 := bnext B1 t2
    replace k0 := cell_be t2 k0
    replace k1 := cell_be t2 k1
    replace k2 := cell_be t2 k2
    clear ho2
    go_wp2_with fail
    refine (expandBy_any p a m c xs b m d ys a2 _ c2 (derM p (polJ p xs ys K)) _ ((g1.below t1).below t2) ((g2.below t1).below t2) s2.out (by omega) (by omega) (by omega) hp hp2 HX.out HY.out (polyB_rng HDP.out).2.1).mono ?_
    rintro e w3 ⟨a3, c3, rfl, ho3, t3⟩
    have B3 := bnext B2 t3
    have hz := B2.size
    go_wp2
    go_ret2
    exact Res1.own HC.out (by rw [HV.out]) (by rw [HV.out]; exact ho3.mono hz) (by rw [HV.out, expL_len]; omega) B3
  · have HC := hide (show xdC p xs ys k = C from hC)
    have HV := hide (show xdV p xs ys k = [] by unfold xdV; rw [if_neg (by rw [HC.out]; exact h0)])
    have hpo := hide (show polC p xs ys k = C from hC)
    have hpv := hide (show polV p xs ys k = [] by unfold polV; rw [if_neg (by rw [hC]; exact h0)])
    clear hC
    go_enter Try.func39, Try.ntmps39
    go_wp2_with fail
    refine (implPolyOf p a n c xs b m d ys k _ g1 g2 hn hm).mono ?_
    rintro e w1 ⟨a1, c1, rfl, ho1, hs1, t1⟩
    rw [hpo.out]
    have B1 := bnext hb0 t1
    clear ho1
    go_wp2
    go_ret2
    exact Res1.nil HV.out HC.out B1
set_option maxRecDepth 100000 in
set_option maxHeartbeats 3200000 in
theorem specExpandDerivative (p : Int) (a : Option Addr) (n c : Nat) (xs : List Int) (b : Option Addr) (m d : Nat) (ys : List Int) (k : Int) (w : World) (hs : SL w a n c xs) (ht : SL w b m d ys) (hn : n ≤ 4000000) (hm : m ≤ 4000000) :
    Calls Try.prog 38 #[jac p a n c b m d, .int .i64 k] w (Res1 w (xdV p xs ys k) (xdC p xs ys k)) := by
  have hl := hide hs.len
  have hl2 := hide ht.len
  have hb0 := bl1 w (.cells #[.int .i64 p, .slice a n c, .slice b m d] 24)
  have e0 : (w.alloc (.cells #[.int .i64 p, .slice a n c, .slice b m d] 24)).cell? ⟨w.heap.size, 0, none⟩ = some (.int .i64 p) := by simp [go_sem]
  have e1 : (w.alloc (.cells #[.int .i64 p, .slice a n c, .slice b m d] 24)).cell? ⟨w.heap.size, 1, none⟩ = some (.slice a n c) := by simp [go_sem]
  have e2 : (w.alloc (.cells #[.int .i64 p, .slice a n c, .slice b m d] 24)).cell? ⟨w.heap.size, 2, none⟩ = some (.slice b m d) := by simp [go_sem]
  have g1 := hs.below hb0
  have g2 := ht.below hb0
  have hbL := bl2 w (.cells #[.int .i64 p, .slice a n c, .slice b m d] 24) (.cells #[.int .i64 k] 2)
  have hL1 := bl1 (w.alloc (.cells #[.int .i64 p, .slice a n c, .slice b m d] 24)) (.cells #[.int .i64 k] 2)
  have k1' := g1.below hL1
  have k2' := g2.below hL1
  have gx : SL ((w.alloc (.cells #[.int .i64 p, .slice a n c, .slice b m d] 24)).alloc (.cells #[.int .i64 k] 2)) (some ⟨w.heap.size + 1, 0, none⟩) 1 1 [k] := by simpa using litSL (w.alloc (.cells #[.int .i64 p, .slice a n c, .slice b m d] 24)) k
  rcases jcd_cases p xs ys k 0 (xs.length : Int) with hc | hc | ⟨hc, hj, q1, q2⟩
  · have HC := hide (show xdC p xs ys k = 1 from hc)
    have HV := hide (show xdV p xs ys k = [] by unfold xdV; rw [HC.out]; rfl)
    have HL := hide (show lcdC p xs ys [k] = 1 by rw [lcd_one]; exact hc)
    clear hc
    go_enter Try.func38, Try.ntmps38
    go_wp2_with fail
    refine (l10Code_any p a n c xs b m d ys _ 1 1 [k] 1 _ k1' k2' gx hn hm (by omega) HL.out).mono ?_
    rintro e w2 ⟨rfl, t2⟩
    have B2 := bnext hbL t2
    go_wp2
    go_ret2
    exact Res1.nil HV.out HC.out B2
  · have HC := hide (show xdC p xs ys k = 2 from hc)
    have HV := hide (show xdV p xs ys k = [] by unfold xdV; rw [HC.out]; rfl)
    have HL := hide (show lcdC p xs ys [k] = 2 by rw [lcd_one]; exact hc)
    clear hc
    go_enter Try.func38, Try.ntmps38
    go_wp2_with fail
    refine (l10Code_any p a n c xs b m d ys _ 1 1 [k] 2 _ k1' k2' gx hn hm (by omega) HL.out).mono ?_
    rintro e w2 ⟨rfl, t2⟩
    have B2 := bnext hbL t2
    go_wp2
    go_ret2
    exact Res1.nil HV.out HC.out B2
  · obtain ⟨hpr, n1, n2, n3, hx, hy⟩ := jacB_rng hj
    obtain ⟨hp, hp2⟩ := primeB_lo hpr
    have HJ := hide hj
    have HPR := hide hpr
    have HX := hide hx
    have HY := hide (posB_are hy)
    rw [hl.out] at n1 n2 n3
    rw [hl2.out] at n3
    subst n3
    rw [hl.out] at q2
    have HC := hide (show xdC p xs ys k = 0 from hc)
    have HL := hide (show lcdC p xs ys [k] = 0 by rw [lcd_one]; exact hc)
    obtain ⟨K, rfl⟩ : ∃ K : Nat, k = K := ⟨k.toNat, by omega⟩
    have lP := polJ_small hp xs ys K (by omega)
    have lP2 := lP.2
    have lD := derM_len p (polJ p xs ys K)
    have HV := hide (show xdV p xs ys (K : Int) = expL p xs ys (derM p (polJ p xs ys K)) by unfold xdV; rw [if_pos HC.out]; rfl)
    have HDP := hide (derE_poly hp (show (polJ p xs ys K).length ≤ 25 by omega))
    clear hc hj hpr hx hy
    go_enter Try.func38, Try.ntmps38
    go_wp2_with fail
    refine (l10Code_any p a m c xs b m d ys _ 1 1 [(K : Int)] 0 _ k1' k2' gx hm hm (by omega) HL.out).mono ?_
    rintro e w2 ⟨rfl, t2⟩
    have B2 := bnext hbL t2
    have k0 : w2.cell? ⟨w.heap.size, 0, none⟩ = some (.int .i64 p) := cell_be t2 (by simp [go_sem])
    have k1 : w2.cell? ⟨w.heap.size, 1, none⟩ = some (.slice a m c) := cell_be t2 (by simp [go_sem])
    have k2 : w2.cell? ⟨w.heap.size, 2, none⟩ = some (.slice b m d) := cell_be t2 (by simp [go_sem])
    have s1 := k1'.below t2
    have s2 := k2'.below t2
    have hbd := (Below.refl w2.heap.size w2).drew
    have F : ∀ w', Below w2.heap.size w2 w' → w'.cell? ⟨w.heap.size, 0, none⟩ = some (.int .i64 p) ∧ w'.cell? ⟨w.heap.size, 1, none⟩ = some (.slice a m c) ∧ w'.cell? ⟨w.heap.size, 2, none⟩ = some (.slice b m d) := fun w' h => ⟨cell_be h k0, cell_be h k1, cell_be h k2⟩
    go_wp2
    go_region_held3 (fun w' => w'.cell? ⟨w.heap.size, 0, none⟩ = some (.int .i64 p) ∧ w'.cell? ⟨w.heap.size, 1, none⟩ = some (.slice a m c) ∧ w'.cell? ⟨w.heap.size, 2, none⟩ = some (.slice b m d))
      (exact F _ (by assumption))
      (first
      | (go_at_call 72; refine (l03Poly_any p a m c xs b m d ys K _ (s1.below hbd) (s2.below hbd) HJ.out (by omega)).mono ?_; rintro e w3 ⟨a3, c3, rfl, ho3, t3⟩; have hm3 := bnext hbd t3)
      | (go_at_call 77; refine (l01Derive_any p a3 _ c3 (polJ p xs ys K) _ ho3.sl (by omega) hp hp2 lP.are).mono ?_; rintro e w4 ⟨a4, c4, rfl, ho4, t4⟩; have hm4 := bnext hm3 t4)
      | (go_at_call 61; refine (l10Expand_any p a m c xs b m d ys a4 _ c4 (derM p (polJ p xs ys K)) _ (s1.below hm4) (s2.below hm4) ho4.sl (by omega) HJ.out HDP.out).mono ?_; rintro e w5 ⟨a5, c5, rfl, ho5, t5⟩; have hm5 := bnext hm4 t5))
    have B5 := bnext B2 hm5
    have hz := (bnext B2 hm4).size
    go_wp2
    go_ret2
    exact Res1.own HC.out (by rw [HV.out]) (by rw [HV.out]; exact ho5.mono hz) (by rw [HV.out, expL_len]; omega) B5
def xpC (p : Int) (xs ys : List Int) (k l : Int) : Int := if jcd p xs ys k 0 (xs.length : Int) = 0 then jcd p xs ys l 0 ((xs.length : Int) - k) else jcd p xs ys k 0 (xs.length : Int)
def xpV (p : Int) (xs ys : List Int) (k l : Int) : List Int := if xpC p xs ys k l = 0 then expL p xs ys (mulM p (polJ p xs ys k.toNat) (polJ p xs ys l.toNat)) else []
theorem lcd_two (p : Int) (xs ys : List Int) (k l : Int) : lcdC p xs ys [k, l] = if jacB p xs ys then (if (0 ≤ k ∧ k ≤ (xs.length : Int)) ∧ (0 ≤ l ∧ l ≤ (xs.length : Int)) then 0 else 2) else 1 := by
  unfold lcdC
  simp [inB]
set_option maxRecDepth 100000 in
set_option maxHeartbeats 3200000 in
theorem implExpandProduct (p : Int) (a : Option Addr) (n c : Nat) (xs : List Int) (b : Option Addr) (m d : Nat) (ys : List Int) (k l : Int) (w : World) (hs : SL w a n c xs) (ht : SL w b m d ys) (hn : n ≤ 4000000) (hm : m ≤ 4000000) :
    Calls Try.prog 35 #[jac p a n c b m d, .int .i64 k, .int .i64 l] w (Res1 w (xpV p xs ys k l) (xpC p xs ys k l)) := by
  have hl := hide hs.len
  have hl2 := hide ht.len
  have hb0 := bl1 w (.cells #[.int .i64 p, .slice a n c, .slice b m d] 24)
  have e0 : (w.alloc (.cells #[.int .i64 p, .slice a n c, .slice b m d] 24)).cell? ⟨w.heap.size, 0, none⟩ = some (.int .i64 p) := by simp [go_sem]
  have e1 : (w.alloc (.cells #[.int .i64 p, .slice a n c, .slice b m d] 24)).cell? ⟨w.heap.size, 1, none⟩ = some (.slice a n c) := by simp [go_sem]
  have e2 : (w.alloc (.cells #[.int .i64 p, .slice a n c, .slice b m d] 24)).cell? ⟨w.heap.size, 2, none⟩ = some (.slice b m d) := by simp [go_sem]
  have g1 := hs.below hb0
  have g2 := ht.below hb0
  have hbd := (Below.refl (w.alloc (.cells #[.int .i64 p, .slice a n c, .slice b m d] 24)).heap.size (w.alloc (.cells #[.int .i64 p, .slice a n c, .slice b m d] 24))).drew
  have F : ∀ w', Below (w.alloc (.cells #[.int .i64 p, .slice a n c, .slice b m d] 24)).heap.size (w.alloc (.cells #[.int .i64 p, .slice a n c, .slice b m d] 24)) w' → w'.cell? ⟨w.heap.size, 0, none⟩ = some (.int .i64 p) ∧ w'.cell? ⟨w.heap.size, 1, none⟩ = some (.slice a n c) ∧ w'.cell? ⟨w.heap.size, 2, none⟩ = some (.slice b m d) := fun w' h => ⟨cell_be h e0, cell_be h e1, cell_be h e2⟩
  have hcd : ∀ C, jcd p xs ys k 0 (xs.length : Int) = C → Hid (jcd p xs ys k 0 (n : Int) = C) := fun C h => hide (by rw [← h, hl.out])
  rcases jcd_cases p xs ys k 0 (xs.length : Int) with hc | hc | ⟨hc, hj, q1, q2⟩
  · have HC := hide (show xpC p xs ys k l = 1 by unfold xpC; rw [hc]; rfl)
    have HV := hide (show xpV p xs ys k l = [] by unfold xpV; rw [HC.out]; rfl)
    have HCD := hcd _ hc
    clear hc hcd
    go_enter Try.func35, Try.ntmps35
    go_upto_region 1 with fail
    go_region_held3 (fun w' => w'.cell? ⟨w.heap.size, 0, none⟩ = some (.int .i64 p) ∧ w'.cell? ⟨w.heap.size, 1, none⟩ = some (.slice a n c) ∧ w'.cell? ⟨w.heap.size, 2, none⟩ = some (.slice b m d))
      (exact F _ (by assumption))
      (first
      | (go_at_call 58; refine (sizeOf_any _ _ _ _ _ _ _ _ hn).mono ?_; rintro e w1 ⟨rfl, hb1⟩; have hm1 := bnext hbd hb1)
      | (go_at_call 73; refine (checkJacobi_any _ _ _ _ _ _ _ _ _ _ _ _ _ _ (g1.below hm1) (g2.below hm1) hn hm HCD.out).mono ?_; rintro e w2 ⟨rfl, hb2⟩; have hm2 := bnext hm1 hb2))
    have B2 := bnext hb0 hm2
    go_wp2
    go_ret2
    exact Res1.nil HV.out HC.out B2
  · have HC := hide (show xpC p xs ys k l = 2 by unfold xpC; rw [hc]; rfl)
    have HV := hide (show xpV p xs ys k l = [] by unfold xpV; rw [HC.out]; rfl)
    have HCD := hcd _ hc
    clear hc hcd
    go_enter Try.func35, Try.ntmps35
    go_upto_region 1 with fail
    go_region_held3 (fun w' => w'.cell? ⟨w.heap.size, 0, none⟩ = some (.int .i64 p) ∧ w'.cell? ⟨w.heap.size, 1, none⟩ = some (.slice a n c) ∧ w'.cell? ⟨w.heap.size, 2, none⟩ = some (.slice b m d))
      (exact F _ (by assumption))
      (first
      | (go_at_call 58; refine (sizeOf_any _ _ _ _ _ _ _ _ hn).mono ?_; rintro e w1 ⟨rfl, hb1⟩; have hm1 := bnext hbd hb1)
      | (go_at_call 73; refine (checkJacobi_any _ _ _ _ _ _ _ _ _ _ _ _ _ _ (g1.below hm1) (g2.below hm1) hn hm HCD.out).mono ?_; rintro e w2 ⟨rfl, hb2⟩; have hm2 := bnext hm1 hb2))
    have B2 := bnext hb0 hm2
    go_wp2
    go_ret2
    exact Res1.nil HV.out HC.out B2
  have HCD := hcd _ hc
  have hcd2 : ∀ C, jcd p xs ys l 0 ((xs.length : Int) - k) = C → Hid (jcd p xs ys l 0 ((n : Int) - k) = C) := fun C h => hide (by rw [← h, hl.out])
  have HXP := hide (show xpC p xs ys k l = jcd p xs ys l 0 ((xs.length : Int) - k) by unfold xpC; rw [if_pos hc])
  rw [hl.out] at q2
  have vk : IntKind.i64.wrap ((n : Int) - k) = (n : Int) - k := IntWalk.i64_in _ (by omega)
  clear hc hcd
  rcases jcd_cases p xs ys l 0 ((xs.length : Int) - k) with hc | hc | ⟨hc, _, r1, r2⟩
  · have HC := hide (show xpC p xs ys k l = 1 by rw [HXP.out]; exact hc)
    have HV := hide (show xpV p xs ys k l = [] by unfold xpV; rw [HC.out]; rfl)
    have HCD2 := hcd2 _ hc
    clear hc hcd2
    go_enter Try.func35, Try.ntmps35
    go_upto_region 1 with fail
    go_region_held3 (fun w' => w'.cell? ⟨w.heap.size, 0, none⟩ = some (.int .i64 p) ∧ w'.cell? ⟨w.heap.size, 1, none⟩ = some (.slice a n c) ∧ w'.cell? ⟨w.heap.size, 2, none⟩ = some (.slice b m d))
      (exact F _ (by assumption))
      (first
      | (go_at_call 58; refine (sizeOf_any _ _ _ _ _ _ _ _ hn).mono ?_; rintro e w1 ⟨rfl, hb1⟩; have hm1 := bnext hbd hb1)
      | (go_at_call 73; refine (checkJacobi_any _ _ _ _ _ _ _ _ _ _ _ _ _ _ (g1.below hm1) (g2.below hm1) hn hm HCD.out).mono ?_; rintro e w2 ⟨rfl, hb2⟩; have hm2 := bnext hm1 hb2))
    have B2 := bnext hb0 hm2
    have k0 := cell_be hm2 e0
    have k1 := cell_be hm2 e1
    have k2 := cell_be hm2 e2
    have s1 := g1.below hm2
    have s2 := g2.below hm2
    have hbd2 := (Below.refl w2.heap.size w2).drew
    have F2 : ∀ w', Below w2.heap.size w2 w' → w'.cell? ⟨w.heap.size, 0, none⟩ = some (.int .i64 p) ∧ w'.cell? ⟨w.heap.size, 1, none⟩ = some (.slice a n c) ∧ w'.cell? ⟨w.heap.size, 2, none⟩ = some (.slice b m d) := fun w' h => ⟨cell_be h k0, cell_be h k1, cell_be h k2⟩
    go_upto_region 4 with fail
    go_region_held3 (fun w' => w'.cell? ⟨w.heap.size, 0, none⟩ = some (.int .i64 p) ∧ w'.cell? ⟨w.heap.size, 1, none⟩ = some (.slice a n c) ∧ w'.cell? ⟨w.heap.size, 2, none⟩ = some (.slice b m d))
      (exact F2 _ (by assumption))
      (first
      | (go_at_call 58; refine (sizeOf_any _ _ _ _ _ _ _ _ hn).mono ?_; rintro e w3 ⟨rfl, hb3⟩; have hm3 := bnext hbd2 hb3)
      | (go_at_call 73; refine (checkJacobi_any _ _ _ _ _ _ _ _ _ _ _ _ _ _ (s1.below hm3) (s2.below hm3) hn hm HCD2.out).mono ?_; rintro e w4 ⟨rfl, hb4⟩; have hm4 := bnext hm3 hb4))
    have B4 := bnext B2 hm4
    go_wp2
    go_ret2
    exact Res1.nil HV.out HC.out B4
  · have HC := hide (show xpC p xs ys k l = 2 by rw [HXP.out]; exact hc)
    have HV := hide (show xpV p xs ys k l = [] by unfold xpV; rw [HC.out]; rfl)
    have HCD2 := hcd2 _ hc
    clear hc hcd2
    go_enter Try.func35, Try.ntmps35
    go_upto_region 1 with fail
    go_region_held3 (fun w' => w'.cell? ⟨w.heap.size, 0, none⟩ = some (.int .i64 p) ∧ w'.cell? ⟨w.heap.size, 1, none⟩ = some (.slice a n c) ∧ w'.cell? ⟨w.heap.size, 2, none⟩ = some (.slice b m d))
      (exact F _ (by assumption))
      (first
      | (go_at_call 58; refine (sizeOf_any _ _ _ _ _ _ _ _ hn).mono ?_; rintro e w1 ⟨rfl, hb1⟩; have hm1 := bnext hbd hb1)
      | (go_at_call 73; refine (checkJacobi_any _ _ _ _ _ _ _ _ _ _ _ _ _ _ (g1.below hm1) (g2.below hm1) hn hm HCD.out).mono ?_; rintro e w2 ⟨rfl, hb2⟩; have hm2 := bnext hm1 hb2))
    have B2 := bnext hb0 hm2
    have k0 := cell_be hm2 e0
    have k1 := cell_be hm2 e1
    have k2 := cell_be hm2 e2
    have s1 := g1.below hm2
    have s2 := g2.below hm2
    have hbd2 := (Below.refl w2.heap.size w2).drew
    have F2 : ∀ w', Below w2.heap.size w2 w' → w'.cell? ⟨w.heap.size, 0, none⟩ = some (.int .i64 p) ∧ w'.cell? ⟨w.heap.size, 1, none⟩ = some (.slice a n c) ∧ w'.cell? ⟨w.heap.size, 2, none⟩ = some (.slice b m d) := fun w' h => ⟨cell_be h k0, cell_be h k1, cell_be h k2⟩
    go_upto_region 4 with fail
    go_region_held3 (fun w' => w'.cell? ⟨w.heap.size, 0, none⟩ = some (.int .i64 p) ∧ w'.cell? ⟨w.heap.size, 1, none⟩ = some (.slice a n c) ∧ w'.cell? ⟨w.heap.size, 2, none⟩ = some (.slice b m d))
      (exact F2 _ (by assumption))
      (first
      | (go_at_call 58; refine (sizeOf_any _ _ _ _ _ _ _ _ hn).mono ?_; rintro e w3 ⟨rfl, hb3⟩; have hm3 := bnext hbd2 hb3)
      | (go_at_call 73; refine (checkJacobi_any _ _ _ _ _ _ _ _ _ _ _ _ _ _ (s1.below hm3) (s2.below hm3) hn hm HCD2.out).mono ?_; rintro e w4 ⟨rfl, hb4⟩; have hm4 := bnext hm3 hb4))
    have B4 := bnext B2 hm4
    go_wp2
    go_ret2
    exact Res1.nil HV.out HC.out B4
  · have HCD2 := hcd2 _ hc
    have hcc := hide (show xpC p xs ys k l = 0 by rw [HXP.out]; exact hc)
    clear hcd2 hc HXP
    obtain ⟨hpr, n1, n2, n3, hx, hy⟩ := jacB_rng hj
    obtain ⟨hp, hp2⟩ := primeB_lo hpr
    have HJ := hide hj
    have HPR := hide hpr
    have HX := hide hx
    have HY := hide (posB_are hy)
    rw [hl.out] at n1 n2 n3
    rw [hl2.out] at n3
    subst n3
    rw [hl.out] at r2
    obtain ⟨K, rfl⟩ : ∃ K : Nat, k = K := ⟨k.toNat, by omega⟩
    obtain ⟨L, rfl⟩ : ∃ L : Nat, l = L := ⟨l.toNat, by omega⟩
    have HC := hide (show xpC p xs ys (K : Int) (L : Int) = 0 from hcc.out)
    have lP := polJ_small hp xs ys K (by omega)
    have lQ := polJ_small hp xs ys L (by omega)
    have lP2 := lP.2
    have lQ2 := lQ.2
    have lM := mulM_mlen p (polJ p xs ys K) (polJ p xs ys L)
    have lM2 : (mulM p (polJ p xs ys K) (polJ p xs ys L)).length ≤ m + 1 := by rw [lM]; unfold mlen; split <;> omega
    have HMP := hide (mulE_poly hpr lP.1 lQ.1 (show (mulM p (polJ p xs ys K) (polJ p xs ys L)).length ≤ 25 by omega))
    have HV := hide (show xpV p xs ys (K : Int) (L : Int) = expL p xs ys (mulM p (polJ p xs ys K) (polJ p xs ys L)) by unfold xpV; rw [if_pos HC.out]; rfl)
    clear hcc hj hpr hx hy lM
    go_enter Try.func35, Try.ntmps35
    go_upto_region 1 with fail
    go_region_held3 (fun w' => w'.cell? ⟨w.heap.size, 0, none⟩ = some (.int .i64 p) ∧ w'.cell? ⟨w.heap.size, 1, none⟩ = some (.slice a m c) ∧ w'.cell? ⟨w.heap.size, 2, none⟩ = some (.slice b m d))
      (exact F _ (by assumption))
      (first
      | (go_at_call 58; refine (sizeOf_any _ _ _ _ _ _ _ _ hm).mono ?_; rintro e w1 ⟨rfl, hb1⟩; have hm1 := bnext hbd hb1)
      | (go_at_call 73; refine (checkJacobi_any _ _ _ _ _ _ _ _ _ _ _ _ _ _ (g1.below hm1) (g2.below hm1) hm hm HCD.out).mono ?_; rintro e w2 ⟨rfl, hb2⟩; have hm2 := bnext hm1 hb2))
    have B2 := bnext hb0 hm2
    have k0 := cell_be hm2 e0
    have k1 := cell_be hm2 e1
    have k2 := cell_be hm2 e2
    have s1 := g1.below hm2
    have s2 := g2.below hm2
    have hbd2 := (Below.refl w2.heap.size w2).drew
    have F2 : ∀ w', Below w2.heap.size w2 w' → w'.cell? ⟨w.heap.size, 0, none⟩ = some (.int .i64 p) ∧ w'.cell? ⟨w.heap.size, 1, none⟩ = some (.slice a m c) ∧ w'.cell? ⟨w.heap.size, 2, none⟩ = some (.slice b m d) := fun w' h => ⟨cell_be h k0, cell_be h k1, cell_be h k2⟩
    go_upto_region 4 with fail
    go_region_held3 (fun w' => w'.cell? ⟨w.heap.size, 0, none⟩ = some (.int .i64 p) ∧ w'.cell? ⟨w.heap.size, 1, none⟩ = some (.slice a m c) ∧ w'.cell? ⟨w.heap.size, 2, none⟩ = some (.slice b m d))
      (exact F2 _ (by assumption))
      (first
      | (go_at_call 58; refine (sizeOf_any _ _ _ _ _ _ _ _ hm).mono ?_; rintro e w3 ⟨rfl, hb3⟩; have hm3 := bnext hbd2 hb3)
      | (go_at_call 73; refine (checkJacobi_any _ _ _ _ _ _ _ _ _ _ _ _ _ _ (s1.below hm3) (s2.below hm3) hm hm HCD2.out).mono ?_; rintro e w4 ⟨rfl, hb4⟩; have hm4 := bnext hm3 hb4))
    have B4 := bnext B2 hm4
    have j0 := cell_be hm4 k0
    have j1 := cell_be hm4 k1
    have j2 := cell_be hm4 k2
    have hbd4 := (Below.refl w4.heap.size w4).drew
    have F4 : ∀ w', Below w4.heap.size w4 w' → w'.cell? ⟨w.heap.size, 0, none⟩ = some (.int .i64 p) ∧ w'.cell? ⟨w.heap.size, 1, none⟩ = some (.slice a m c) ∧ w'.cell? ⟨w.heap.size, 2, none⟩ = some (.slice b m d) := fun w' h => ⟨cell_be h j0, cell_be h j1, cell_be h j2⟩
    have z4 : w.heap.size < w4.heap.size := World.block_lt_of_cell? _ _ j0
    have B4d := B4.trans (hbd4.mono (by omega))
    clear F F2 hm2 hm3 hm4 hbd hbd2 e0 e1 e2 k0 k1 k2
    go_upto_region 7 with fail
    go_region_held3 (fun w' => w'.cell? ⟨w.heap.size, 0, none⟩ = some (.int .i64 p) ∧ w'.cell? ⟨w.heap.size, 1, none⟩ = some (.slice a m c) ∧ w'.cell? ⟨w.heap.size, 2, none⟩ = some (.slice b m d))
      (first | exact hS5 | exact hS4 | exact hS3 | exact hS2 | exact F4 _ (by assumption))
      (first
      | (go_at_call 74; refine (multiply_any p _ _ _ (gP p xs ys m K) _ _ _ (gP p xs ys m L) _ hk5.sl hk8.sl (by have := (gP_small hp xs ys m K n2).2; omega) (by have := (gP_small hp xs ys m L n2).2; omega) hp hp2 (gP_small hp xs ys m K n2).are (gP_small hp xs ys m L n2).are).mono ?_; rintro e w9 ⟨a9, c9, rfl, ho9, t9⟩; obtain ⟨y0, y1, y2⟩ := hS4; have hS5 := And.intro (cell_be t9 y0) (And.intro (cell_be t9 y1) (cell_be t9 y2)))
      | (go_at_call 75; refine (goOn_any p _ _ _ xs _ _ ys L (gP p xs ys m) 0 0 B' w _ hs ht HPR.out HX.out HY.out (by omega) (by omega) (gP_step p xs ys m) (fun i => gP_small hp xs ys m i n2) (hR7.polys hp n1) (.inr (Nat.zero_le _))).mono ?_; rintro e w8 ⟨a8, c8, rfl, hk8, hR8, t8⟩; obtain ⟨y0, y1, y2⟩ := hS3; have hS4 := And.intro (t8.cell y0 (.inl (by omega))) (And.intro (t8.cell y1 (.inl (by omega))) (t8.cell y2 (.inl (by omega)))); replace hk5 := hk5.touchZ t8)
      | (go_at_call 76; refine (polysOf_any p _ _ _ xs _ _ ys 0 0 w _ hs n1 hp hp2 HX.out hR6.hb (Nat.zero_le _)).mono ?_; rintro e w7 ⟨B', rfl, hBB', hR7, t7⟩; obtain ⟨y0, y1, y2⟩ := hS2; have hS3 := And.intro (cell_be t7 y0) (And.intro (cell_be t7 y1) (cell_be t7 y2)); replace hk5 := (hk5.zone (z' := B') (ze' := B' + 4) hBB').below t7; have zB' := hR6.sz)
      | (go_at_call 75; refine (goOn_any p _ _ _ xs _ _ ys K (gP p xs ys m) 0 0 B w _ hs ht HPR.out HX.out HY.out (by omega) (by omega) (gP_step p xs ys m) (fun i => gP_small hp xs ys m i n2) (hR5.polys hp n1) (.inr (Nat.zero_le _))).mono ?_; rintro e w6 ⟨a5, c5, rfl, hk5, hR6, t6⟩; obtain ⟨y0, y1, y2⟩ := F4 _ hm5; have hS2 := And.intro (t6.cell y0 (.inl (by omega))) (And.intro (t6.cell y1 (.inl (by omega))) (t6.cell y2 (.inl (by omega)))))
      | (go_at_call 76; refine (polysOf_any p _ _ _ xs _ _ ys 0 0 w _ hs n1 hp hp2 HX.out B4d (Nat.zero_le _)).mono ?_; rintro e w5 ⟨B, rfl, hBB, hR5, t5⟩; have hm5 := bnext hbd4 t5; have zB : w.heap.size < B := by (have := hbd4.size); omega))
    rw [gP_le (by omega), gP_le (by omega)] at ho9
    try rw [gP_le (show K ≤ m by omega)]
    try rw [gP_le (show L ≤ m by omega)]
    have B9 := hR8.hb.trans (t9.mono (Nat.le_trans (by omega) hR8.sz))
    obtain ⟨y0, y1, y2⟩ := hS5
    clear hk5 hk8 F4
    go_wp2_with fail
    refine (expandBy_any p a m c xs b m d ys a9 _ c9 (mulM p (polJ p xs ys K) (polJ p xs ys L)) _ (hs.below B9) (ht.below B9) ho9.sl lM2 lM2 (by omega) hp hp2 HX.out HY.out (polyB_rng HMP.out).2.1).mono ?_
    rintro e w10 ⟨a10, c10, rfl, ho10, t10⟩
    have B10 := bnext B9 t10
    have hz := B9.size
    go_wp2
    go_ret2
    exact Res1.own HC.out (by rw [HV.out]) (by rw [HV.out]; exact ho10.mono hz) (by rw [HV.out, expL_len]; omega) B10
set_option maxRecDepth 100000 in
set_option maxHeartbeats 3200000 in
theorem specExpandProduct (p : Int) (a : Option Addr) (n c : Nat) (xs : List Int) (b : Option Addr) (m d : Nat) (ys : List Int) (k l : Int) (w : World) (hs : SL w a n c xs) (ht : SL w b m d ys) (hn : n ≤ 4000000) (hm : m ≤ 4000000) :
    Calls Try.prog 34 #[jac p a n c b m d, .int .i64 k, .int .i64 l] w (Res1 w (xpV p xs ys k l) (xpC p xs ys k l)) := by
  have hl := hide hs.len
  have hl2 := hide ht.len
  have hb0 := bl1 w (.cells #[.int .i64 p, .slice a n c, .slice b m d] 24)
  have e0 : (w.alloc (.cells #[.int .i64 p, .slice a n c, .slice b m d] 24)).cell? ⟨w.heap.size, 0, none⟩ = some (.int .i64 p) := by simp [go_sem]
  have e1 : (w.alloc (.cells #[.int .i64 p, .slice a n c, .slice b m d] 24)).cell? ⟨w.heap.size, 1, none⟩ = some (.slice a n c) := by simp [go_sem]
  have e2 : (w.alloc (.cells #[.int .i64 p, .slice a n c, .slice b m d] 24)).cell? ⟨w.heap.size, 2, none⟩ = some (.slice b m d) := by simp [go_sem]
  have g1 := hs.below hb0
  have g2 := ht.below hb0
  have hbL := bl2 w (.cells #[.int .i64 p, .slice a n c, .slice b m d] 24) (.cells #[.int .i64 k, .int .i64 l] 2)
  have hL1 := bl1 (w.alloc (.cells #[.int .i64 p, .slice a n c, .slice b m d] 24)) (.cells #[.int .i64 k, .int .i64 l] 2)
  have k1' := g1.below hL1
  have k2' := g2.below hL1
  have gx : SL ((w.alloc (.cells #[.int .i64 p, .slice a n c, .slice b m d] 24)).alloc (.cells #[.int .i64 k, .int .i64 l] 2)) (some ⟨w.heap.size + 1, 0, none⟩) 2 2 [k, l] := by simpa using litSL2 (w.alloc (.cells #[.int .i64 p, .slice a n c, .slice b m d] 24)) k l
  cases hj : jacB p xs ys
  · have hc : jcd p xs ys k 0 (xs.length : Int) = 1 := by simp [jcd, hj]
    have HC := hide (show xpC p xs ys k l = 1 by unfold xpC; rw [hc]; rfl)
    have HV := hide (show xpV p xs ys k l = [] by unfold xpV; rw [HC.out]; rfl)
    have HL := hide (show lcdC p xs ys [k, l] = 1 by rw [lcd_two, hj]; rfl)
    clear hc hj
    go_enter Try.func34, Try.ntmps34
    go_wp2_with fail
    refine (l10Code_any p a n c xs b m d ys _ 2 2 [k, l] 1 _ k1' k2' gx hn hm (by omega) HL.out).mono ?_
    rintro e w2 ⟨rfl, t2⟩
    have B2 := bnext hbL t2
    go_wp2
    go_ret2
    exact Res1.nil HV.out HC.out B2
  by_cases hkl : (0 ≤ k ∧ k ≤ (xs.length : Int)) ∧ (0 ≤ l ∧ l ≤ (xs.length : Int))
  rotate_left
  · have HC := hide (show xpC p xs ys k l = 2 by
      unfold xpC jcd
      rw [hj]
      simp only [if_true]
      by_cases h1 : 0 ≤ k ∧ k ≤ (xs.length : Int)
      · rw [if_pos h1, if_pos rfl, if_neg (by omega)]
      · rw [if_neg h1, if_neg (by decide)])
    have HV := hide (show xpV p xs ys k l = [] by unfold xpV; rw [HC.out]; rfl)
    have HL := hide (show lcdC p xs ys [k, l] = 2 by rw [lcd_two, hj, if_neg hkl]; rfl)
    clear hj hkl
    go_enter Try.func34, Try.ntmps34
    go_wp2_with fail
    refine (l10Code_any p a n c xs b m d ys _ 2 2 [k, l] 2 _ k1' k2' gx hn hm (by omega) HL.out).mono ?_
    rintro e w2 ⟨rfl, t2⟩
    have B2 := bnext hbL t2
    go_wp2
    go_ret2
    exact Res1.nil HV.out HC.out B2
  have HL := hide (show lcdC p xs ys [k, l] = 0 by rw [lcd_two, hj, if_pos hkl]; rfl)
  have HXP := hide (show xpC p xs ys k l = if k + l ≤ (xs.length : Int) then 0 else 2 by
    unfold xpC jcd
    rw [hj]
    simp only [if_true]
    rw [if_pos hkl.1, if_pos rfl]
    by_cases h : k + l ≤ (xs.length : Int)
    · rw [if_pos h, if_pos (by omega)]
    · rw [if_neg h, if_neg (by omega)])
  obtain ⟨⟨q1, q2⟩, r1, r2⟩ := hkl
  obtain ⟨hpr, n1, n2, n3, hx, hy⟩ := jacB_rng hj
  obtain ⟨hp, hp2⟩ := primeB_lo hpr
  have HJ := hide hj
  have HPR := hide hpr
  have HX := hide hx
  have HY := hide (posB_are hy)
  rw [hl.out] at n1 n2 n3
  rw [hl2.out] at n3
  subst n3
  rw [hl.out] at q2 r2 HXP
  obtain ⟨K, rfl⟩ : ∃ K : Nat, k = K := ⟨k.toNat, by omega⟩
  obtain ⟨L, rfl⟩ : ∃ L : Nat, l = L := ⟨l.toNat, by omega⟩
  have vkl : IntKind.i64.wrap ((K : Int) + (L : Int)) = (K : Int) + (L : Int) := IntWalk.i64_in _ (by omega)
  by_cases hle : (K : Int) + (L : Int) ≤ (m : Int)
  · have hcc := hide (show xpC p xs ys (K : Int) (L : Int) = 0 by rw [HXP.out, if_pos hle])
    have HC := hide (show xpC p xs ys (K : Int) (L : Int) = 0 from hcc.out)
    have lP := polJ_small hp xs ys K (by omega)
    have lQ := polJ_small hp xs ys L (by omega)
    have lP2 := lP.2
    have lQ2 := lQ.2
    have lM := mulM_mlen p (polJ p xs ys K) (polJ p xs ys L)
    have lM2 : (mulM p (polJ p xs ys K) (polJ p xs ys L)).length ≤ m + 1 := by rw [lM]; unfold mlen; split <;> omega
    have HMP := hide (mulE_poly hpr lP.1 lQ.1 (show (mulM p (polJ p xs ys K) (polJ p xs ys L)).length ≤ 25 by omega))
    have HV := hide (show xpV p xs ys (K : Int) (L : Int) = expL p xs ys (mulM p (polJ p xs ys K) (polJ p xs ys L)) by unfold xpV; rw [if_pos HC.out]; rfl)
    have HMT := hide (mulM_trim hpr lP.1 lQ.1)
    have hnle : ¬ (m : Int) < (K : Int) + (L : Int) := by omega
    clear hcc hj hpr hx hy lM HXP
    go_enter Try.func34, Try.ntmps34
    go_wp2_with fail
    refine (l10Code_any p a m c xs b m d ys _ 2 2 [(K : Int), (L : Int)] 0 _ k1' k2' gx hm hm (by omega) HL.out).mono ?_
    rintro e w2 ⟨rfl, t2⟩
    have B2 := bnext hbL t2
    have k0 : w2.cell? ⟨w.heap.size, 0, none⟩ = some (.int .i64 p) := cell_be t2 (by simp [go_sem])
    have k1 : w2.cell? ⟨w.heap.size, 1, none⟩ = some (.slice a m c) := cell_be t2 (by simp [go_sem])
    have k2 : w2.cell? ⟨w.heap.size, 2, none⟩ = some (.slice b m d) := cell_be t2 (by simp [go_sem])
    have s1 := k1'.below t2
    have s2 := k2'.below t2
    have hbd := (Below.refl w2.heap.size w2).drew
    have F : ∀ w', Below w2.heap.size w2 w' → w'.cell? ⟨w.heap.size, 0, none⟩ = some (.int .i64 p) ∧ w'.cell? ⟨w.heap.size, 1, none⟩ = some (.slice a m c) ∧ w'.cell? ⟨w.heap.size, 2, none⟩ = some (.slice b m d) := fun w' h => ⟨cell_be h k0, cell_be h k1, cell_be h k2⟩
    go_wp2
    go_region_held3 (fun w' => w'.cell? ⟨w.heap.size, 0, none⟩ = some (.int .i64 p) ∧ w'.cell? ⟨w.heap.size, 1, none⟩ = some (.slice a m c) ∧ w'.cell? ⟨w.heap.size, 2, none⟩ = some (.slice b m d))
      (exact F _ (by assumption))
      (first
      | (go_at_call 61; refine (l10Expand_any p a m c xs b m d ys a5 _ c5 (mulM p (polJ p xs ys K) (polJ p xs ys L)) _ (s1.below hm5) (s2.below hm5) ho5.sl lM2 HJ.out HMP.out).mono ?_; rintro e w6 ⟨a6, c6, rfl, ho6, t6⟩; have hm6 := bnext hm5 t6)
      | (go_at_call 71; refine (l01Times_any p a3 _ c3 (polJ p xs ys K) a4 _ c4 (polJ p xs ys L) _ (ho3.sl.below t4) ho4.sl (by omega) (by omega) hp hp2 lP.are lQ.are).mono ?_; rintro e w5 ⟨a5, c5, rfl, ho5, t5⟩; rw [HMT.out] at ho5 ⊢; have hm5 := bnext hm4 t5)
      | (go_at_call 72; refine (l03Poly_any p a m c xs b m d ys L _ (s1.below hm3) (s2.below hm3) HJ.out (by omega)).mono ?_; rintro e w4 ⟨a4, c4, rfl, ho4, t4⟩; have hm4 := bnext hm3 t4)
      | (go_at_call 72; refine (l03Poly_any p a m c xs b m d ys K _ (s1.below hbd) (s2.below hbd) HJ.out (by omega)).mono ?_; rintro e w3 ⟨a3, c3, rfl, ho3, t3⟩; have hm3 := bnext hbd t3))
    have B6 := bnext B2 hm6
    have hz := (bnext B2 hm5).size
    go_wp2
    go_ret2
    exact Res1.own HC.out (by rw [HV.out]) (by rw [HV.out]; exact ho6.mono hz) (by rw [HV.out, expL_len]; omega) B6
  · have HC := hide (show xpC p xs ys (K : Int) (L : Int) = 2 by rw [HXP.out, if_neg hle])
    have HV := hide (show xpV p xs ys (K : Int) (L : Int) = [] by unfold xpV; rw [HC.out]; rfl)
    have hnle : (m : Int) < (K : Int) + (L : Int) := by omega
    clear hj hpr hx hy HXP
    go_enter Try.func34, Try.ntmps34
    go_wp2_with fail
    refine (l10Code_any p a m c xs b m d ys _ 2 2 [(K : Int), (L : Int)] 0 _ k1' k2' gx hm hm (by omega) HL.out).mono ?_
    rintro e w2 ⟨rfl, t2⟩
    have B2 := bnext hbL t2
    have k1 : w2.cell? ⟨w.heap.size, 1, none⟩ = some (.slice a m c) := cell_be t2 (by simp [go_sem])
    go_wp2
    go_ret2
    exact Res1.nil HV.out HC.out B2
end Go.Proofs.Ytgaafhcnfeipbaa
