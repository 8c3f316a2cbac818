/- Moments of steps: mathematics; contracts of l05Moments and MomentsOfSteps (model). -/
import Derived.Test.YtddogdmeelckjaaSg
import Derived.Test.YtddogdmeelckjaaSm
namespace Go.Proofs.Ytddogdmeelckjaa
open Go.RowKit
set_option linter.unusedVariables false
set_option linter.unusedSimpArgs false

theorem serT_congrG (p : Int) (f g g' : List Int) (S : Nat → Int) (k : Nat) (h : ∀ j, j ≤ k → g.getD j 0 = g'.getD j 0) : ∀ i, i ≤ k → serT p f g S k i = serT p f g' S k i := by
  intro i
  induction i with
  | zero => intro _; rfl
  | succ i ih => intro hi; rw [serT, serT, ih (by omega), h (i + 1) hi]
/-- The series needs no more numbers of its divisor than it has itself. -/
theorem serL_congr (p : Int) (f g g' : List Int) : ∀ n, (∀ j, j < n → g.getD j 0 = g'.getD j 0) → serL p f g n = serL p f g' n := by
  intro n
  induction n with
  | zero => intro _; rfl
  | succ n ih =>
    intro h
    rw [serL, serL, ih (fun j hj => h j (by omega)), serT_congrG p f g g' _ n (fun j hj => h j (by omega)) n (Nat.le_refl _), h 0 (by omega)]
/-- 1 less x times a series. -/
def lessX (p : Int) (n : Nat) (s : List Int) : List Int := 1 :: tab (n - 1) (fun j => (-(s.getD j 0)) % p)
/-- The first n numbers of the series of steps. -/
def mosF (p : Int) (n : Nat) : List Int → List Int
  | [] => List.replicate n 0
  | a :: l => serL p [a] (lessX p n (mosF p n l)) n
theorem mosF_len (p : Int) (n : Nat) (l : List Int) : (mosF p n l).length = n := by
  cases l with
  | nil => simp [mosF]
  | cons a l => simp [mosF, serL_len]
theorem lessX_are {p : Int} (hp : 2 ≤ p) (n : Nat) (s : List Int) : areB p (lessX p n s) = true := areB_mk fun j hj => by
  unfold lessX
  cases j with
  | zero => simp; omega
  | succ j =>
    rw [List.getD_cons_succ]
    have : j < n - 1 := by simp [lessX, tab_len] at hj; omega
    rw [tab_at _ _ _ this]
    exact modb hp
theorem lessX_len (p : Int) (n : Nat) (s : List Int) (hn : 1 ≤ n) : (lessX p n s).length = n := by simp [lessX, tab_len]; omega
theorem mosF_are {p : Int} (hp : 2 ≤ p) (n : Nat) (l : List Int) : areB p (mosF p n l) = true := by
  cases l with
  | nil =>
    refine areB_mk fun j hj => ?_
    have : (List.replicate n (0 : Int)).getD j 0 = 0 := by
      by_cases h : j < n <;> simp [h]
    simp only [mosF]
    rw [this]; omega
  | cons a l => exact serL_are hp _ _ _
theorem drop_cons (xs : List Int) (i : Nat) (h : i < xs.length) : xs.drop i = xs.getD i 0 :: xs.drop (i + 1) := by
  rw [List.drop_eq_getElem_cons h]
  simp [h]
def mosC (p : Int) (xs : List Int) (k : Int) : Int := if lisB p xs 1 24 = true ∧ 1 ≤ k ∧ k ≤ 24 then (if hasB 0 (xs.take (xs.length - 1)) = true then 5 else 0) else 2
def mosV (p : Int) (xs : List Int) (k : Int) : List Int := if mosC p xs k = 0 then mosF p k.toNat xs else []
def mosP (p : Int) (xs : List Int) (k : Int) : Int := if mosC p xs k = 0 then p else 0
set_option maxRecDepth 100000 in
set_option maxHeartbeats 3200000 in
theorem l05Moments_any (p : Int) (a : Option Addr) (n1 c : Nat) (xs : List Int) (n : Nat) (w : World) (hs : SL w a n1 c xs) (h1 : 1 ≤ n1) (h2 : n1 ≤ 1000) (hn1 : 1 ≤ n) (hn : n ≤ 1000) (hp : 2 ≤ p) (hp2 : p ≤ 10007) (hx : areB p xs = true) :
    Calls Try.prog 68 #[.int .i64 p, .slice a n1 c, .int .i64 n] w fun e w' => ∃ a' c', e = .returned (.slice a' n c') ∧ Own w.heap.size w' a' c' (mosF p n xs) ∧ Below w.heap.size w w' := by
  have hl := hide hs.len
  have Hx := hide hx
  obtain ⟨b, off, rfl, hbw, hcell⟩ := hs.at (by omega)
  have Hc := hide hcell
  have v0 : IntKind.i64.wrap ((n1 : Int) - 1) = (n1 : Int) - 1 := IntWalk.i64_in _ (by omega)
  clear hx hcell
  go_enter Try.func68, Try.ntmps68
  go_wp2_with (at_make; refine wp_make rfl _ _ rfl _ _ n rfl rfl rfl rfl (by omega) ?_; intro w1 hrow hb hsz)
  have hO1 : Hid (Own w.heap.size w1 (some ⟨w.heap.size, 0, none⟩) n (mosF p n (xs.drop n1))) := hide (by
    have := hrow.out.own' (Nat.le_refl _) (by simp; unfold maxLen; omega)
    rw [List.drop_of_length_le (by rw [hl.out]; omega)]
    simpa [mosF] using this)
  clear v0 hrow hsz
  go_loopw [7, 8] (fun ov iv wr => ∃ (k : Nat) (a' : Option Addr) (c' : Nat), k ≤ n1 ∧ iv = .int .i64 ((k : Int) - 1) ∧ ov = .slice a' n c' ∧ Hid (Own w.heap.size wr a' c' (mosF p n (xs.drop k))) ∧ Below w.heap.size w wr) (fun _ iv _ => (intOf iv + 1).toNat)
  case atStart => exact ⟨n1, _, n, by omega, by simp, rfl, hO1, hb⟩
  case round =>
    obtain ⟨k, a', c', hk, rfl, rfl, hO, hBr⟩ := hrel
    clear hO1 hb
    by_cases hpos : 0 < k
    · obtain ⟨i, rfl⟩ : ∃ i, k = i + 1 := ⟨k - 1, by omega⟩
      have hii : ((i + 1 : Nat) : Int) - 1 = (i : Int) := by omega
      rw [hii]
      have q0 : (0 : Int) ≤ (i : Int) := by omega
      have q1 : (i : Int) < (n1 : Int) := by omega
      have hstep : Hid (mosF p n (xs.drop i) = serL p [xs.getD i 0] (lessX p n (mosF p n (xs.drop (i + 1)))) n) := hide (by rw [drop_cons xs i (by rw [hl.out]; omega), mosF])
      have eX := cell_be hBr (Hc.out i (by omega))
      have rX := getD_rng Hx.out hp i
      obtain ⟨x, hxd⟩ : ∃ x, xs.getD i 0 = x := ⟨_, rfl⟩
      rw [hxd] at eX rX hstep
      have aS := mosF_are hp n (xs.drop (i + 1))
      obtain ⟨S, hS⟩ : ∃ S, mosF p n (xs.drop (i + 1)) = S := ⟨_, rfl⟩
      have HSl := hide (show S.length = n by rw [← hS, mosF_len])
      rw [hS] at hO hstep aS
      have AS := hide aS
      obtain ⟨gS, rfl, hgS, hgl, _⟩ := hO.out.blkG (by rw [HSl.out]; omega)
      have hbs := hBr.size
      have v1 : IntKind.i64.wrap ((i : Int) - 1) = (i : Int) - 1 := IntWalk.i64_in _ (by omega)
      clear hxd hS hii aS
      go_wp2
      obtain ⟨wo, hwo⟩ : ∃ wo : World, wo = wr := ⟨_, rfl⟩
      subst hwo
      have hb1 := bl1 wo (.cells #[.int .i64 1] 2)
      have hOq : Hid (Own wo.heap.size (wo.alloc (.cells #[.int .i64 1] 2)) (some ⟨wo.heap.size, 0, none⟩) 1 [1]) := hide (litOwn wo wo.heap.size (Nat.le_refl _) 1)
      have hz0 : Hid ([1] = lessX p 1 S) := hide (by simp [lessX, tab])
      go_loopw [9, 10] (fun bv kv wx => ∃ (m : Nat) (a2 : Option Addr) (c2 : Nat) (zs : List Int), m + 1 ≤ n ∧ kv = .int .i64 m ∧ bv = .slice a2 (m + 1) c2 ∧ Hid (zs = lessX p (m + 1) S) ∧ Hid (zs.length = m + 1) ∧ Hid (Own wo.heap.size wx a2 c2 zs) ∧ Below wo.heap.size wo wx) (fun _ kv _ => n - (intOf kv).toNat)
      case atStart => exact ⟨0, _, 1, [1], by omega, rfl, rfl, hz0, hide rfl, hOq, hb1⟩
      case round =>
        obtain ⟨m, a2, c2, zs, hm, rfl, rfl, hZ, hzl, hQ, hbx⟩ := hrel
        clear hOq hz0 hb1
        have hOx := hO.out.below hbx
        have w1' : IntKind.i64.wrap ((m : Int) + 1) = (m : Int) + 1 := IntWalk.i64_in _ (by omega)
        by_cases hlt : m + 1 < n
        · have e1 := hOx.cellG m (by rw [HSl.out]; omega)
          have r1 := getD_rng AS.out hp m
          have hst : Hid (lessX p (m + 2) S = zs ++ [(-(S.getD m 0)) % p]) := hide (by
            rw [hZ.out]
            unfold lessX
            rw [show m + 2 - 1 = m + 1 by omega, show m + 1 - 1 = m by omega, ← tab_snoc]
            rfl)
          obtain ⟨s, hs'⟩ : ∃ s, S.getD m 0 = s := ⟨_, rfl⟩
          rw [hs'] at e1 r1 hst
          have v3 : IntKind.i64.wrap (-s) = -s := IntWalk.i64_in _ (by omega)
          obtain ⟨z, hz⟩ : ∃ z, (-s) % p = z := ⟨_, rfl⟩
          rw [hz] at hst
          have Hz := hide hz
          have g1 : (m : Int) + 1 < (n : Int) := by omega
          have g2 : (m : Int) < (n : Int) := by omega
          have hbs2 := hbx.size
          have hOa := hide (hQ.out.below (bl1 wr (.cells #[.int .i64 z] 2)))
          clear hs' hOx hQ hz
          go_wp2_with fail
          refine (l01Mod_any p (-s) _ hp hp2 (by omega) (by omega)).mono ?_
          rintro e w' ⟨rfl, rfl⟩
          rw [Hz.out]
          go_wp2_with (at_builtin; refine wp_append rfl _ _ rfl wo.heap.size _ (m + 1) _ zs rfl hzl.out.symm hOa.out _ 1 1 [z] rfl (litSL wr z) (by omega) (by simp; omega) ?_; intro ad' cap' w1 hown hb)
          have hown' := hide hown
          have hB1 := (hbx.alloc hbs2 (.cells #[.int .i64 z] 2)).trans hb
          have hl2 : Hid ((zs ++ [z]).length = m + 1 + 1) := hide (by rw [List.length_append, hzl.out]; rfl)
          have hst' := hide hst.out.symm
          clear hown hb hOa hst
          go_wp2
          go_roundw
          case rel => exact ⟨m + 1, ad', cap', zs ++ [z], by omega, by go_num, by rw [hzl.out], hst', hl2, hown', hB1⟩
          case measure => simp [intOf]; omega
        · have g1 : ¬ (m : Int) + 1 < (n : Int) := by omega
          have hzz : Hid (zs = lessX p n S) := hide (by rw [hZ.out, show m + 1 = n by omega])
          have hsl := hQ.out.sl
          rw [hzl.out] at hsl
          have hB1 := bthen hBr hbx hbs
          have eX1 := cell_be hbx eX
          have hbs2 := hbx.size
          have aZ := hide (lessX_are hp n S)
          have hmn : m + 1 = n := by omega
          have Hmn := hide hmn
          clear hQ hOx hmn hlt
          go_wp2_with fail
          refine (l05Series_any p _ _ _ [x] _ _ _ zs n _ (litSL _ x) (hsl.below (bl1 _ _)) (by omega) (by omega) (by omega) (by omega) hp hp2 (by simp [areB, okN]; omega) (by rw [hzz.out]; exact aZ.out)).mono ?_
          rintro e w2 ⟨a3, c3, rfl, ho, t2⟩
          have hB2 := (hB1.alloc (Nat.le_trans hbs hbs2) (.cells #[.int .i64 x] 2)).trans (t2.mono (by simp; omega))
          have hO3 : Hid (Own w.heap.size w2 a3 c3 (mosF p n (xs.drop i))) := hide (by rw [hstep.out, ← hzz.out]; exact ho.mono (by simp; omega))
          clear ho
          go_wp2
          go_roundw
          case rel => exact ⟨i, a3, c3, by omega, rfl, rfl, hO3, hB2⟩
          case measure => first | (simp [intOf]; done) | (simp [intOf]; omega)
    · obtain rfl : k = 0 := by omega
      have hneg : ¬ (0 : Int) ≤ ((0 : Nat) : Int) - 1 := by omega
      have hO2 : Hid (Own w.heap.size wr a' c' (mosF p n xs)) := hide (by have := hO.out; rwa [List.drop_zero] at this)
      clear hO
      go_wp2
      refine bodyPost_ret (v := .slice a' n c') (by simp [results, Try.results68]) rfl ?_
      exact ⟨a', c', rfl, hO2.out, hBr⟩
set_option maxRecDepth 100000 in
set_option maxHeartbeats 3200000 in
theorem specMomentsOfSteps (p : Int) (a : Option Addr) (n1 c : Nat) (xs : List Int) (k : Int) (w : World) (hs : SL w a n1 c xs) (hn1 : n1 ≤ 4000000) :
    Calls Try.prog 25 #[.int .i64 p, .slice a n1 c, .int .i64 k] w (ResM w (mosP p xs k) (mosV p xs k) (mosC p xs k)) := by
  have hl := hide hs.len
  have hb0 := bl1 w (.cells #[.int .i64 0, .slice none 0 0] 34)
  replace hs := hs.below hb0
  cases hP : primeB p
  · have HP := hide hP
    have hL : lisB p xs 1 24 = false := by simp [lisB, hP]
    have HC := hide (show mosC p xs k = 2 by simp [mosC, hL])
    have HV := hide (show mosV p xs k = [] by simp [mosV, HC.out])
    have HQ := hide (show mosP p xs k = 0 by simp [mosP, HC.out])
    clear hP hL
    go_enter Try.func25, Try.ntmps25
    go_wp2_with fail
    refine (l01Prime_any _ _).mono ?_
    rintro e v1 ⟨rfl, rfl⟩
    rw [HP.out]
    go_wp2
    refine bodyPost_ret (v := .tuple #[mom 0 none 0 0, .int .i64 2]) (by simp [results, Try.results25, go_sem]) rfl ?_
    exact ResM.nil HQ.out HV.out HC.out hb0
  have HP := hide hP
  obtain ⟨hp, hp2⟩ := primeB_lo hP
  by_cases q1 : (1 : Int) ≤ (n1 : Int) ∧ (n1 : Int) ≤ 24
  rotate_left
  · have hL : lisB p xs 1 24 = false := by
      have : (decide ((1 : Int) ≤ (n1 : Int)) && decide ((n1 : Int) ≤ 24)) = false := by simp; omega
      simp only [lisB, hl.out, this, Bool.and_false, Bool.false_and]
    have HC := hide (show mosC p xs k = 2 by simp [mosC, hL])
    have HV := hide (show mosV p xs k = [] by simp [mosV, HC.out])
    have HQ := hide (show mosP p xs k = 0 by simp [mosP, HC.out])
    clear hP hL
    go_enter Try.func25, Try.ntmps25
    go_wp2_with fail
    refine (l01Prime_any _ _).mono ?_
    rintro e v1 ⟨rfl, rfl⟩
    rw [HP.out]
    go_wp2_with fail
    refine (l01In_no _ _ _ _ q1).mono ?_
    rintro e v2 ⟨rfl, rfl⟩
    go_wp2
    refine bodyPost_ret (v := .tuple #[mom 0 none 0 0, .int .i64 2]) (by simp [results, Try.results25, go_sem]) rfl ?_
    exact ResM.nil HQ.out HV.out HC.out hb0
  obtain ⟨q1, q2⟩ := q1
  cases hX : areB p xs
  · have HX := hide hX
    have hL : lisB p xs 1 24 = false := by simp [lisB, hX]
    have HC := hide (show mosC p xs k = 2 by simp [mosC, hL])
    have HV := hide (show mosV p xs k = [] by simp [mosV, HC.out])
    have HQ := hide (show mosP p xs k = 0 by simp [mosP, HC.out])
    clear hP hL hX
    go_enter Try.func25, Try.ntmps25
    go_wp2_with fail
    refine (l01Prime_any _ _).mono ?_
    rintro e v1 ⟨rfl, rfl⟩
    rw [HP.out]
    go_wp2_with fail
    refine (l01In_yes _ _ _ _ q1 q2).mono ?_
    rintro e v2 ⟨rfl, rfl⟩
    go_wp2_with fail
    refine (l01Points_f _ _ _ _ _ _ hs hn1 (by omega) (by omega)).mono ?_
    rintro e w3 ⟨rfl, t3⟩
    rw [HX.out]
    have r0 : w3.cell? ⟨w.heap.size, 0, none⟩ = some (.int .i64 0) := cell_be t3 (by simp [go_sem])
    have yr0 : w3.frozen? ⟨w.heap.size, 0, none⟩ = false := (t3.frozen (by simp)).trans (by simp [go_sem])
    have r1 : w3.cell? ⟨w.heap.size, 1, none⟩ = some (.slice none 0 0) := cell_be t3 (by simp [go_sem])
    have yr1 : w3.frozen? ⟨w.heap.size, 1, none⟩ = false := (t3.frozen (by simp)).trans (by simp [go_sem])
    have B3 := bnext hb0 t3
    have z3 := B3.size
    go_wp2
    refine bodyPost_ret (v := .tuple #[mom 0 none 0 0, .int .i64 2]) (by simp [results, Try.results25, go_sem, r0, r1]) rfl ?_
    exact ResM.nil HQ.out HV.out HC.out ((B3.setCell (by first | omega | (simp; done) | (simp; omega) | exact Nat.le_refl _) _).setCell (by first | omega | (simp; done) | (simp; omega) | exact Nat.le_refl _) _)
  have HX := hide hX
  have hL : lisB p xs 1 24 = true := by simp [lisB, hP, hX, hl.out, q1, q2]
  by_cases hN : 1 ≤ k ∧ k ≤ 24
  rotate_left
  · have HC := hide (show mosC p xs k = 2 by simp only [mosC, hN, and_false, if_false])
    have HV := hide (show mosV p xs k = [] by simp [mosV, HC.out])
    have HQ := hide (show mosP p xs k = 0 by simp [mosP, HC.out])
    clear hP hL hX
    go_enter Try.func25, Try.ntmps25
    go_wp2_with fail
    refine (l01Prime_any _ _).mono ?_
    rintro e v1 ⟨rfl, rfl⟩
    rw [HP.out]
    go_wp2_with fail
    refine (l01In_yes _ _ _ _ q1 q2).mono ?_
    rintro e v2 ⟨rfl, rfl⟩
    go_wp2_with fail
    refine (l01Points_f _ _ _ _ _ _ hs hn1 (by omega) (by omega)).mono ?_
    rintro e w3 ⟨rfl, t3⟩
    rw [HX.out]
    have r0 : w3.cell? ⟨w.heap.size, 0, none⟩ = some (.int .i64 0) := cell_be t3 (by simp [go_sem])
    have yr0 : w3.frozen? ⟨w.heap.size, 0, none⟩ = false := (t3.frozen (by simp)).trans (by simp [go_sem])
    have r1 : w3.cell? ⟨w.heap.size, 1, none⟩ = some (.slice none 0 0) := cell_be t3 (by simp [go_sem])
    have yr1 : w3.frozen? ⟨w.heap.size, 1, none⟩ = false := (t3.frozen (by simp)).trans (by simp [go_sem])
    have B3 := bnext hb0 t3
    have z3 := B3.size
    go_wp2_with fail
    refine (l01In_no _ _ _ _ hN).mono ?_
    rintro e v4 ⟨rfl, rfl⟩
    go_wp2
    refine bodyPost_ret (v := .tuple #[mom 0 none 0 0, .int .i64 2]) (by simp [results, Try.results25, go_sem, r0, r1]) rfl ?_
    exact ResM.nil HQ.out HV.out HC.out ((B3.setCell (by first | omega | (simp; done) | (simp; omega) | exact Nat.le_refl _) _).setCell (by first | omega | (simp; done) | (simp; omega) | exact Nat.le_refl _) _)
  obtain ⟨k1, k2⟩ := hN
  have h5 : hasB 0 (xs.take (n1 - 1)) = true → mosC p xs k = 5 := fun h => by simp only [mosC, hL, k1, k2, hl.out, h, if_true, and_self]
  have h0 : hasB 0 (xs.take (n1 - 1)) = false → mosC p xs k = 0 := fun h => by
    simp only [mosC, hL, k1, k2, hl.out, h, if_true, and_self]
    rfl
  have H5 := hide h5
  have H0 := hide h0
  obtain ⟨n, rfl⟩ : ∃ n : Nat, k = n := ⟨k.toNat, by omega⟩
  clear hP hL hX h5 h0
  go_enter Try.func25, Try.ntmps25
  go_wp2_with fail
  refine (l01Prime_any _ _).mono ?_
  rintro e v1 ⟨rfl, rfl⟩
  rw [HP.out]
  go_wp2_with fail
  refine (l01In_yes _ _ _ _ q1 q2).mono ?_
  rintro e v2 ⟨rfl, rfl⟩
  go_wp2_with fail
  refine (l01Points_f _ _ _ _ _ _ hs hn1 (by omega) (by omega)).mono ?_
  rintro e w3 ⟨rfl, t3⟩
  rw [HX.out]
  have r0 : w3.cell? ⟨w.heap.size, 0, none⟩ = some (.int .i64 0) := cell_be t3 (by simp [go_sem])
  have yr0 : w3.frozen? ⟨w.heap.size, 0, none⟩ = false := (t3.frozen (by simp)).trans (by simp [go_sem])
  have r1 : w3.cell? ⟨w.heap.size, 1, none⟩ = some (.slice none 0 0) := cell_be t3 (by simp [go_sem])
  have yr1 : w3.frozen? ⟨w.heap.size, 1, none⟩ = false := (t3.frozen (by simp)).trans (by simp [go_sem])
  have B3 := bnext hb0 t3
  have z3 := B3.size
  have z3' := t3.size
  simp at z3'
  replace hs := hs.below t3
  obtain ⟨b, off, rfl, hbw, hcell⟩ := hs.at (by omega)
  have Hc := hide hcell
  clear hcell t3
  go_wp2_with fail
  refine (l01In_yes _ _ _ _ k1 k2).mono ?_
  rintro e v4 ⟨rfl, rfl⟩
  go_wp2
  go_loop [8] (fun iv => ∃ i : Nat, i + 1 ≤ n1 ∧ iv = .int .i64 i ∧ Hid (hasB 0 (xs.take i) = false)) (fun iv => n1 - (intOf iv).toNat)
  case atStart => exact ⟨0, by omega, rfl, hide (by simp [hasB])⟩
  case round =>
    obtain ⟨i, hi, rfl, hH⟩ := hrel
    have v1' : IntKind.i64.wrap ((i : Int) + 1) = (i : Int) + 1 := IntWalk.i64_in _ (by omega)
    by_cases hlt : i + 1 < n1
    · have e1 := Hc.out i (by omega)
      have hsn := hide (hasB_snoc 0 xs i (by rw [hl.out]; omega))
      have htr := fun h => hide (hasB_true 0 (xs.take (n1 - 1)) i (by simp [hl.out]; omega) h)
      have htk := getD_take xs (n1 - 1) i (by omega)
      rw [htk] at htr
      obtain ⟨x, hx⟩ : ∃ x, xs.getD i 0 = x := ⟨_, rfl⟩
      rw [hx] at e1 hsn htr
      have g1 : (i : Int) + 1 < (n1 : Int) := by omega
      have g2 : (i : Int) < (n1 : Int) := by omega
      clear hx htk
      by_cases hz : x = 0
      · have hC := H5.out (htr hz.symm).out
        have HC := hide hC
        have HV := hide (show mosV p xs n = [] by simp [mosV, hC])
        have HQ := hide (show mosP p xs n = 0 by simp [mosP, hC])
        subst hz
        clear htr hC
        go_wp2
        refine bodyPost_ret (v := .tuple #[mom 0 none 0 0, .int .i64 5]) (by simp [results, Try.results25, go_sem, r0, r1]) rfl ?_
        exact ResM.nil HQ.out HV.out HC.out ((B3.setCell (by first | omega | (simp; done) | (simp; omega) | exact Nat.le_refl _) _).setCell (by first | omega | (simp; done) | (simp; omega) | exact Nat.le_refl _) _)
      · have hz' : (x == 0) = false := by simpa using hz
        have hn2 : Hid (hasB 0 (xs.take (i + 1)) = false) := hide (by rw [hsn.out, hH.out]; simp; omega)
        clear htr hz
        go_wp2
        go_round
        case rel => exact ⟨i + 1, by omega, by go_num, hn2⟩
        case measure => simp [intOf]; omega
    · have hin : i = n1 - 1 := by omega
      have hC := H0.out (by rw [← hin]; exact hH.out)
      have HC := hide hC
      have HV := hide (show mosV p xs n = mosF p n xs by simp [mosV, hC])
      have HQ := hide (show mosP p xs n = p by simp [mosP, hC])
      have g1 : ¬ (i : Int) + 1 < (n1 : Int) := by omega
      clear hC hin hlt
      go_wp2_with fail
      refine (l05Moments_any p _ _ _ xs n _ hs (by omega) (by omega) (by omega) (by omega) hp hp2 HX.out).mono ?_
      rintro e w5 ⟨a', c', rfl, ho, t5⟩
      replace r0 := cell_be t5 r0
      replace r1 := cell_be t5 r1
      replace yr0 := (t5.frozen (p := ⟨w.heap.size, 0, none⟩) (by simp; omega)).trans yr0
      replace yr1 := (t5.frozen (p := ⟨w.heap.size, 1, none⟩) (by simp; omega)).trans yr1
      have B5 := B3.trans (t5.mono z3)
      have z5 := B5.size
      go_wp2
      refine bodyPost_ret (v := .tuple #[mom p a' n c', .int .i64 0]) (by simp [results, Try.results25, go_sem, r0, r1]) rfl ?_
      exact ResM.own HQ.out HC.out (by rw [HV.out, mosF_len]) (by rw [HV.out]; exact ((ho.setLow (by simp; omega) _).setLow (by simp; omega) _).mono z3) (by rw [HV.out, mosF_len]; omega) ((B5.setCell (by first | omega | (simp; done) | (simp; omega) | exact Nat.le_refl _) _).setCell (by first | omega | (simp; done) | (simp; omega) | exact Nat.le_refl _) _)
end Go.Proofs.Ytddogdmeelckjaa
