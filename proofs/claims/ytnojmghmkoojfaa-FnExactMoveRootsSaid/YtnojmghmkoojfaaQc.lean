/- Contracts: MoveRoots (program and model). -/
import Derived.Test.YtnojmghmkoojfaaSk
import Derived.Test.YtnojmghmkoojfaaSh
namespace Go.Proofs.Ytnojmghmkoojfaa
open Go.RowKit
set_option linter.unusedVariables false
set_option linter.unusedSimpArgs false

theorem addM_one {p y : Int} {u : List Int} (hu : areB p u = true) (hp : 2 ≤ p) (h0 : 0 ≤ y) (h1 : y < p) : addM p u [1] y = addM p u (trimL [y]) 1 := by
  have r := getD_rng hu hp 0
  have e0 : u.getD 0 0 % p = u.getD 0 0 := Int.emod_eq_of_lt r.1 r.2
  by_cases hy : y = 0
  · subst hy
    have ht : trimL [(0 : Int)] = [] := by decide
    rw [ht]
    cases u with
    | nil => simp [addM, sumH, tab, trimL, trimN]
    | cons a l =>
      unfold addM
      congr 1
      simp only [List.length_cons, List.length_nil]
      rw [show max (l.length + 1) (0 + 1) = l.length + 1 by omega, show max (l.length + 1) 0 = l.length + 1 by omega]
      apply tab_congr
      intro j hj
      unfold sumH
      by_cases hj0 : j = 0
      · subst hj0
        simp only [Int.zero_mul, Int.add_zero, Nat.lt_irrefl, if_false]
        rw [if_pos (by omega), e0]
      · rw [if_neg (by omega), if_neg (by omega)]
  · have ht : trimL [y] = [y] := by simp [trimL, trimN, hy]
    rw [ht]
    unfold addM
    congr 1
    apply tab_congr
    intro j hj
    unfold sumH
    by_cases hj0 : j < 1
    · obtain rfl : j = 0 := by omega
      rw [if_pos (by simp), if_pos (by simp)]
      simp
    · rw [if_neg (by simpa using hj0), if_neg (by simpa using hj0)]
def mvrV (p : Int) (f : List Int) (a : Int) : List Int := if valC p f a = 0 then comM p f (linM p a) else []
set_option maxRecDepth 100000 in
set_option maxHeartbeats 3200000 in
theorem implMoveRoots (p : Int) (a1 : Option Addr) (n1 c1 : Nat) (f : List Int) (x : Int) (w : World) (h1 : SL w a1 n1 c1 f) (b1 : n1 ≤ 4000000) :
    Calls Try.prog 22 #[.int .i64 p, .slice a1 n1 c1, .int .i64 x] w (Res1 w (mvrV p f x) (valC p f x)) := by
  have hl1 := hide h1.len
  rcases chk1_cases p f with hc | hc | ⟨hc, hf, hpr⟩
  · have HC := hide (show valC p f x = 1 by simp [valC, hc])
    have HV := hide (show mvrV p f x = [] by simp [mvrV, HC.out])
    have Hc := hide hc
    clear hc
    go_enter Try.func22, Try.ntmps22
    go_wp2_with (go_at_call 63; refine (check1 p _ _ _ f 1 _ h1 b1 Hc.out).mono ?_; rintro e w1 ⟨rfl, hb1⟩)
    go_ret2
    exact Res1.nil HV.out HC.out hb1
  · have HC := hide (show valC p f x = 2 by simp [valC, hc])
    have HV := hide (show mvrV p f x = [] by simp [mvrV, HC.out])
    have Hc := hide hc
    clear hc
    go_enter Try.func22, Try.ntmps22
    go_wp2_with (go_at_call 63; refine (check1 p _ _ _ f 2 _ h1 b1 Hc.out).mono ?_; rintro e w1 ⟨rfl, hb1⟩)
    go_ret2
    exact Res1.nil HV.out HC.out hb1
  · obtain ⟨hp, hp2⟩ := primeB_lo hpr
    have d1 : n1 ≤ 25 := by have := poly_len hf; have := hl1.out; omega
    by_cases hx : 0 ≤ x ∧ x < p
    · have HC := hide (show valC p f x = 0 by simp [valC, hc, hx])
      have HV := hide (show mvrV p f x = comM p f (linM p x) by simp [mvrV, HC.out])
      have Hc := hide hc
      have HF := hide hf
      have HPR := hide hpr
      obtain ⟨hx0, hx1⟩ := hx
      have HG := hide (linM_poly (p := p) (a := x) hp)
      have HD : Hid ((f.length - 1) * ((linM p x).length - 1) ≤ 24) := hide (by simp [linM]; have := hl1.out; omega)
      clear hc hf hpr
      go_enter Try.func22, Try.ntmps22
      go_wp2_with fail
      refine (check1 p _ _ _ f 0 _ h1 b1 Hc.out).mono ?_
      rintro e w1 ⟨rfl, hb1⟩
      go_wp2_with fail
      refine (isNumber_yes _ _ _ hx0 hx1).mono ?_
      rintro e w2 ⟨rfl, rfl⟩
      go_wp2_with fail
      refine (polysModulo_any p _).mono ?_
      rintro e w3 ⟨rfl, hc3, hb3, hs3⟩
      have hB3 := bnext hb1 hb3
      go_wp2_with fail
      refine (linear_any p x _ hp hp2 hx0 hx1).mono ?_
      rintro e w4 ⟨rfl, ho4, hb4⟩
      have hc4 := cell_be hb4 hc3
      have hB4 := bnext hB3 hb4
      go_wp2_with fail
      refine (evaluate_poly p _ _ _ f _ _ _ (linM p x) _ _ hc4 (h1.below hB4) ho4.sl HPR.out HF.out HG.out HD.out).mono ?_
      rintro e w5 ⟨a', c', rfl, ho, hb5⟩
      have hB5 := bnext hB4 hb5
      have hz := hB4.size
      go_wp2
      go_ret2
      exact Res1.own HC.out (by rw [HV.out]) (by rw [HV.out]; exact ho.mono hz) (by rw [HV.out]; exact Nat.le_trans (comM_len HPR.out HF.out HG.out HD.out) (by omega)) hB5
    · have HC := hide (show valC p f x = 2 by simp [valC, hc, hx])
      have HV := hide (show mvrV p f x = [] by simp [mvrV, HC.out])
      have Hc := hide hc
      have Hx := hide hx
      clear hc hf hpr hx
      go_enter Try.func22, Try.ntmps22
      go_wp2_with fail
      refine (check1 p _ _ _ f 0 _ h1 b1 Hc.out).mono ?_
      rintro e w1 ⟨rfl, hb1⟩
      go_wp2_with fail
      refine (isNumber_no _ _ _ Hx.out).mono ?_
      rintro e w2 ⟨rfl, rfl⟩
      go_wp2
      go_ret2
      exact Res1.nil HV.out HC.out hb1
set_option maxRecDepth 100000 in
set_option maxHeartbeats 3200000 in
theorem specMoveRoots (p : Int) (a1 : Option Addr) (n1 c1 : Nat) (f : List Int) (x : Int) (w : World) (h1 : SL w a1 n1 c1 f) (b1 : n1 ≤ 4000000) :
    Calls Try.prog 21 #[.int .i64 p, .slice a1 n1 c1, .int .i64 x] w (Res1 w (mvrV p f x) (valC p f x)) := by
  have hl1 := hide h1.len
  rcases chk1_cases p f with hc | hc | ⟨hc, hf, hpr⟩
  · have HC := hide (show valC p f x = 1 by simp [valC, hc])
    have HV := hide (show mvrV p f x = [] by simp [mvrV, HC.out])
    have Hc := hide hc
    clear hc
    go_enter Try.func21, Try.ntmps21
    go_wp2_with (go_at_call 58; refine (code1 p _ _ _ f 1 _ h1 b1 Hc.out).mono ?_; rintro e w1 ⟨rfl, hb1⟩)
    go_ret2
    exact Res1.nil HV.out HC.out hb1
  · have HC := hide (show valC p f x = 2 by simp [valC, hc])
    have HV := hide (show mvrV p f x = [] by simp [mvrV, HC.out])
    have Hc := hide hc
    clear hc
    go_enter Try.func21, Try.ntmps21
    go_wp2_with (go_at_call 58; refine (code1 p _ _ _ f 2 _ h1 b1 Hc.out).mono ?_; rintro e w1 ⟨rfl, hb1⟩)
    go_ret2
    exact Res1.nil HV.out HC.out hb1
  · obtain ⟨hp, hp2⟩ := primeB_lo hpr
    have d1 : n1 ≤ 25 := by have := poly_len hf; have := hl1.out; omega
    by_cases hx : 0 ≤ x ∧ x < p
    · have HC := hide (show valC p f x = 0 by simp [valC, hc, hx])
      have HV := hide (show mvrV p f x = comM p f (linM p x) by simp [mvrV, HC.out])
      have Hc := hide hc
      have HF := hide hf
      have HPR := hide hpr
      obtain ⟨hx0, hx1⟩ := hx
      have HG := hide (linM_poly (p := p) (a := x) hp)
      have HD : Hid ((f.length - 1) * ((linM p x).length - 1) ≤ 24) := hide (by simp [linM]; have := hl1.out; omega)
      have HL := hide (comM_len hpr hf HG.out HD.out)
      have HP := hide (horP_poly hpr hf HG.out HD.out)
      have HT := hide (fun v (h : polyB p v = true) => mulM_trim hpr h HG.out)
      have Hf := hide (poly_are hf)
      have Hg := hide (poly_are HG.out)
      have HO := hide (fun v (hv : areB p v = true) y h0 h1 => addM_one (y := y) hv hp h0 h1)
      have v1 : IntKind.i64.wrap (-x) = -x := IntWalk.i64_in _ (by omega)
      have oa := Lib.hid (opp_neg p x)
      clear hc hf hpr
      go_enter Try.func21, Try.ntmps21
      go_wp2_with fail
      refine (code1 p _ _ _ f 0 _ h1 b1 Hc.out).mono ?_
      rintro e w1 ⟨rfl, hb1⟩
      go_wp2_with fail
      refine (l01In_yes _ _ _ _ hx0 (by omega)).mono ?_
      rintro e w2 ⟨rfl, rfl⟩
      have hb2 := bl1 w1 (.cells #[] 2)
      have ho2 : Own w1.heap.size (w1.alloc (.cells #[] 2)) (some ⟨w1.heap.size, 0, none⟩) 0 [] := World.ownsRow_lit w1 (base := w1.heap.size) (e := 2) (size := 1) #[] 0 (Nat.le_refl _) (by simp) rfl
      have hB2 := bnext hb1 hb2
      go_wp2_with fail
      refine (l01Mod_any p (-x) _ hp hp2 (by omega) (by omega)).mono ?_
      rintro e w3 ⟨rfl, rfl⟩
      rw [oa.out]
      obtain ⟨w2, hw2⟩ : ∃ w2, w1.alloc (.cells #[] 2) = w2 := ⟨_, rfl⟩
      rw [hw2] at hb2 ho2 hB2 ⊢
      have hsl0 : SL (w2.alloc (.cells #[.int .i64 (opp p x), .int .i64 1] 2)) (some ⟨w2.heap.size, 0, none⟩) 2 2 (linM p x) := litSL2 w2 (opp p x) 1
      have hb3 := bl1 w2 (.cells #[.int .i64 (opp p x), .int .i64 1] 2)
      have hB3 := bnext hB2 hb3
      have hO0 : Hid (Own w.heap.size (w2.alloc (.cells #[.int .i64 (opp p x), .int .i64 1] 2)) (some ⟨w1.heap.size, 0, none⟩) 0 (horP p f (linM p x) 0)) := hide ((ho2.below hb3).mono hb1.size)
      have Hs0 := hide hsl0
      clear hb2 ho2 hB2 hsl0 hb3
      go_wp2
      clear hw2
      go_loopw [9, 11] (fun v i wr => ∃ (k : Nat) (a' : Option Addr) (c' : Nat), k ≤ n1 ∧ i = .int .i64 ((n1 : Int) - 1 - (k : Int)) ∧ v = .slice a' (horP p f (linM p x) k).length c' ∧ Hid (Own w.heap.size wr a' c' (horP p f (linM p x) k)) ∧ Hid (SL wr (some ⟨w2.heap.size, 0, none⟩) 2 2 (linM p x)) ∧ Below w.heap.size w wr) (fun _ i _ => (intOf i + 1).toNat)
      case atStart => exact ⟨0, some ⟨w1.heap.size, 0, none⟩, 0, by omega, by simp, rfl, hO0, Hs0, hB3⟩
      case round =>
        obtain ⟨k, a', c', hk, rfl, rfl, hO, hS, hBr⟩ := hrel
        clear hO0 hB3 Hs0
        by_cases hlt : k < n1
        · have hr := getD_rng Hf.out hp (n1 - 1 - k)
          have hh : Hid (horP p f (linM p x) (k + 1) = addM p (mulM p (horP p f (linM p x) k) (linM p x)) [1] (f.getD (n1 - 1 - k) 0)) := hide (by rw [HO.out _ (mulM_are hp) _ hr.1 hr.2, horP, hl1.out])
          obtain ⟨b, off, ha, hbw, hcell⟩ := (h1.below hBr).at (by omega)
          subst ha
          have e1 := hcell (n1 - 1 - k) (by omega)
          obtain ⟨y, hy⟩ : ∃ y, f.getD (n1 - 1 - k) 0 = y := ⟨_, rfl⟩
          have hvp := (HP.out k (by rw [hl1.out]; exact hk)).1
          have hv1 := poly_len hvp
          have Hv := hide (poly_are hvp)
          have Ht := hide (HT.out _ hvp)
          obtain ⟨v, hvv⟩ : ∃ v, horP p f (linM p x) k = v := ⟨_, rfl⟩
          rw [hy] at hr hh e1
          rw [hvv] at hh hv1 Hv hO Ht ⊢
          have hge : (0 : Int) ≤ (n1 : Int) - 1 - (k : Int) := by omega
          have hkt : ((n1 : Int) - 1 - (k : Int)).toNat = n1 - 1 - k := by omega
          have hi1 : (n1 : Int) - 1 - (k : Int) < (n1 : Int) := by omega
          have hi2 : ¬ (n1 : Int) - 1 - (k : Int) < 0 := by omega
          have hi3 : n1 - 1 - k < n1 := by omega
          obtain ⟨r1, r2⟩ := hr
          have hm1 : (mulM p v (linM p x)).length ≤ 1000 := by
            rcases mulM_up (p := p) (f := v) (g := linM p x) with h | ⟨_, _, h⟩
            · omega
            · simp [linM] at h ⊢; omega
          have hsl := hO.out.sl
          have hst := hS.out
          have Hone : Hid (areB p [1] = true) := hide (by simp [areB, okN]; omega)
          have hb00 : Below wr.heap.size wr wr.drew := (Below.refl _ _).drew
          have hb01 : Below wr.heap.size wr (wr.drew.alloc (.cells #[.int .i64 1] 2)) := hb00.alloc hb00.size _
          have F0 : ∀ w', Below wr.heap.size wr w' → w'.cell? ⟨b, off + (n1 - 1 - k), none⟩ = some (.int .i64 y) := fun w' hb => (hb.cell (World.block_lt_of_cell? wr _ e1)).trans e1
          clear hy hvv hvp hcell
          go_upto_block 1 with fail
          go_cut [9] (fun s7 wx => ∃ a' c', s7 = .slice a' (horP p f (linM p x) (k + 1)).length c' ∧ Hid (Own w.heap.size wx a' c' (horP p f (linM p x) (k + 1))) ∧ Below wr.heap.size wr wx)
          case first =>
            go_wp2
            go_region_held3 (fun w' => w'.cell? ⟨b, off + (n1 - 1 - k), none⟩ = some (.int .i64 y))
              (first | exact F0 _ (by assumption) | exact F0 _ (Below.alloc (by assumption) (Below.size (by assumption)) _))
              (first
              | (go_at_call 62; refine (l01TimesP p _ _ _ v _ _ _ (linM p x) _ (hsl.below hb00) (hst.below hb00) (by omega) (by omega) hp hp2 Hv.out Hg.out Ht.out).mono ?_; rintro e wn ⟨am, cm, rfl, hom, hbn⟩; have hbn2 := bnext hb00 hbn)
              | (go_at_call 62; refine (l01TimesP p _ _ _ v _ _ _ (linM p x) _ (hsl.below hb01) (hst.below hb01) (by omega) (by omega) hp hp2 Hv.out Hg.out Ht.out).mono ?_; rintro e wn ⟨am, cm, rfl, hom, hbn⟩; have hbn2 := bnext hb01 hbn)
              | (go_at_call_of 61 (Value.slice (some ⟨wn.heap.size, 0, none⟩) 1 1); refine (l01Add_any p y _ _ _ (mulM p v (linM p x)) _ _ _ [1] _ (hom.sl.below (bl1 wn _)) (litSL wn 1) hm1 (by omega) hp hp2 r1 r2 (mulM_are hp) Hone.out).mono ?_; rintro e wz ⟨az, cz, rfl, hoz, hbz⟩; have hbs := (hbn2.alloc hbn2.size (.cells #[.int .i64 1] 2)).size; have hbz2 := bnext (hbn2.alloc hbn2.size (.cells #[.int .i64 1] 2)) hbz)
              | (go_at_call 61; refine (l01Add_any p y _ _ _ (mulM p v (linM p x)) _ _ _ [1] _ hom.sl ((litSL wr.drew 1).below hbn) hm1 (by omega) hp hp2 r1 r2 (mulM_are hp) Hone.out).mono ?_; rintro e wz ⟨az, cz, rfl, hoz, hbz⟩; have hbs := hbn2.size; have hbz2 := bnext hbn2 hbz))
            all_goals
              go_wp2
              go_meet
              have q := hBr.size
              refine ⟨_, _, by rw [hh.out], hide ?_, hbz2⟩
              rw [hh.out]
              exact hoz.mono (by omega)
          case rest =>
            obtain ⟨am, cm, rfl, hO', hB'⟩ := hcut
            have hS' := hide (hst.below hB')
            have q := hBr.size
            have hB2 := hBr.trans (hB'.mono q)
            clear F0 hb00 hb01 hsl hst hS hO e1 hB'
            go_wp2
            go_roundw
            case rel => exact ⟨k + 1, am, cm, by omega, by go_num, rfl, hO', hS', hB2⟩
            case measure => simp [intOf]; omega
        · obtain rfl : k = n1 := by omega
          have he : Hid (comM p f (linM p x) = horP p f (linM p x) k) := hide (by unfold comM; rw [hl1.out])
          have hsz : (k : Int) - 1 - (k : Int) = -1 := by omega
          rw [hsz]
          clear hsz
          go_wp2
          go_ret2
          exact Res1.own HC.out (by rw [HV.out, he.out]) (by rw [HV.out, he.out]; exact hO.out) (by rw [HV.out]; exact Nat.le_trans HL.out (by omega)) hBr
    · have HC := hide (show valC p f x = 2 by simp [valC, hc, hx])
      have HV := hide (show mvrV p f x = [] by simp [mvrV, HC.out])
      have Hc := hide hc
      have Hx := hide hx
      clear hc hf hpr hx
      go_enter Try.func21, Try.ntmps21
      go_wp2_with fail
      refine (code1 p _ _ _ f 0 _ h1 b1 Hc.out).mono ?_
      rintro e w1 ⟨rfl, hb1⟩
      go_wp2_with fail
      refine (l01In_no _ _ _ _ (fun h => Hx.out ⟨h.1, by omega⟩)).mono ?_
      rintro e w2 ⟨rfl, rfl⟩
      go_wp2
      go_ret2
      exact Res1.nil HV.out HC.out hb1
end Go.Proofs.Ytnojmghmkoojfaa
