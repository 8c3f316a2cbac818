/- Contracts: SeriesOf, MultiplySeries (program and model). -/
import Derived.Test.YtddogdmeelckjaaSg
namespace Go.Proofs.Ytddogdmeelckjaa
open Go.RowKit
set_option linter.unusedVariables false
set_option linter.unusedSimpArgs false

def serOk (g : List Int) : Bool := g.getD 0 0 != 0
def serC (p : Int) (f g : List Int) (k : Int) : Int := if chk2 p f g = 0 then (if 0 ≤ k ∧ k ≤ 24 then (if g.getD 0 0 = 0 then 5 else 0) else 2) else chk2 p f g
def serV (p : Int) (f g : List Int) (k : Int) : List Int := if serC p f g k = 0 then serL p f g k.toNat else []
set_option maxRecDepth 100000 in
set_option maxHeartbeats 1600000 in
theorem implSeriesOf (p : Int) (a1 : Option Addr) (n1 c1 : Nat) (f : List Int) (a2 : Option Addr) (n2 c2 : Nat) (g : List Int) (k : Int) (w : World) (h1 : SL w a1 n1 c1 f) (h2 : SL w a2 n2 c2 g) (b1 : n1 ≤ 4000000) (b2 : n2 ≤ 4000000) :
    Calls Try.prog 17 #[.int .i64 p, .slice a1 n1 c1, .slice a2 n2 c2, .int .i64 k] w (Res1 w (serV p f g k) (serC p f g k)) := by
  have hl1 := hide h1.len
  have hl2 := hide h2.len
  rcases chk2_cases p f g with hc | hc | ⟨hc, hf, hg, hP⟩
  · have HC := hide (show serC p f g k = 1 by simp [serC, hc])
    have HV := hide (show serV p f g k = [] by simp [serV, HC.out])
    have Hc := hide hc
    clear hc
    go_enter Try.func17, Try.ntmps17
    go_wp2_with (go_at_call 61; refine (check2 p _ _ _ f _ _ _ g 1 _ h1 h2 b1 b2 Hc.out).mono ?_; rintro e w1 ⟨rfl, hb1⟩)
    go_ret2
    exact Res1.nil HV.out HC.out hb1
  · have HC := hide (show serC p f g k = 2 by simp [serC, hc])
    have HV := hide (show serV p f g k = [] by simp [serV, HC.out])
    have Hc := hide hc
    clear hc
    go_enter Try.func17, Try.ntmps17
    go_wp2_with (go_at_call 61; refine (check2 p _ _ _ f _ _ _ g 2 _ h1 h2 b1 b2 Hc.out).mono ?_; rintro e w1 ⟨rfl, hb1⟩)
    go_ret2
    exact Res1.nil HV.out HC.out hb1
  obtain ⟨hp, hp2⟩ := primeB_lo hP
  by_cases hk : 0 ≤ k ∧ k ≤ 24
  rotate_left
  · have HC := hide (show serC p f g k = 2 by simp [serC, hc, hk])
    have HV := hide (show serV p f g k = [] by simp [serV, HC.out])
    have Hc := hide hc
    clear hc hf hg hP
    by_cases hk0 : k < 0
    · go_enter Try.func17, Try.ntmps17
      go_wp2_with fail
      refine (check2 p _ _ _ f _ _ _ g 0 _ h1 h2 b1 b2 Hc.out).mono ?_
      rintro e w1 ⟨rfl, hb1⟩
      go_wp2
      go_ret2
      exact Res1.nil HV.out HC.out hb1
    · have hk1 : 24 < k := by omega
      go_enter Try.func17, Try.ntmps17
      go_wp2_with fail
      refine (check2 p _ _ _ f _ _ _ g 0 _ h1 h2 b1 b2 Hc.out).mono ?_
      rintro e w1 ⟨rfl, hb1⟩
      go_wp2
      go_ret2
      exact Res1.nil HV.out HC.out hb1
  obtain ⟨hk0, hk1⟩ := hk
  have Hc := hide hc
  have Hf := hide hf
  have Hg := hide hg
  have hn1 := poly_len hf
  have hn2 := poly_len hg
  rw [hl1.out] at hn1
  rw [hl2.out] at hn2
  by_cases h0 : n2 = 0
  · have hgn : g = [] := List.eq_nil_of_length_eq_zero (by rw [hl2.out, h0])
    have hg0 : g.getD 0 0 = 0 := by rw [hgn]; rfl
    have HC := hide (show serC p f g k = 5 by simp only [serC, hc, hk0, hk1, hg0, if_true, and_self])
    have HV := hide (show serV p f g k = [] by simp [serV, HC.out])
    subst h0
    clear hc hf hg hP hgn hg0
    go_enter Try.func17, Try.ntmps17
    go_wp2_with fail
    refine (check2 p _ _ _ f _ _ _ g 0 _ h1 h2 b1 b2 Hc.out).mono ?_
    rintro e w1 ⟨rfl, hb1⟩
    go_wp2
    go_ret2
    exact Res1.nil HV.out HC.out hb1
  have ob : ((n2 : Int) == 0) = false := by simpa using h0
  have hpos : 0 < n2 := by omega
  obtain ⟨b, off, rfl, hbw, hcell⟩ := h2.at hpos
  have e0 := hcell 0 hpos
  obtain ⟨x, hx⟩ : ∃ x, g.getD 0 0 = x := ⟨_, rfl⟩
  rw [hx, Nat.add_zero] at e0
  by_cases hz : x = 0
  · have HC := hide (show serC p f g k = 5 by simp only [serC, hc, hk0, hk1, hx, hz, if_true, and_self])
    have HV := hide (show serV p f g k = [] by simp [serV, HC.out])
    subst hz
    clear hc hf hg hP hcell hx h0
    go_enter Try.func17, Try.ntmps17
    go_wp2_with fail
    refine (check2 p _ _ _ f _ _ _ g 0 _ h1 h2 b1 b2 Hc.out).mono ?_
    rintro e w1 ⟨rfl, hb1⟩
    replace e0 := cell_be hb1 e0
    go_wp2
    go_ret2
    exact Res1.nil HV.out HC.out hb1
  have HC := hide (show serC p f g k = 0 by simp only [serC, hc, hk0, hk1, hx, hz, if_true, if_false, and_self])
  have HV := hide (show serV p f g k = serL p f g k.toNat by simp [serV, HC.out])
  have hz' : (x == 0) = false := by simpa using hz
  obtain ⟨m, rfl⟩ : ∃ m : Nat, k = m := ⟨k.toNat, by omega⟩
  clear hc hf hg hP hcell hx hz h0
  go_enter Try.func17, Try.ntmps17
  go_wp2_with fail
  refine (check2 p _ _ _ f _ _ _ g 0 _ h1 h2 b1 b2 Hc.out).mono ?_
  rintro e w1 ⟨rfl, hb1⟩
  replace e0 := cell_be hb1 e0
  go_wp2_with fail
  refine (seriesOf_any p _ _ _ f _ _ _ g m _ (h1.below hb1) (h2.below hb1) b1 b2 (by omega) (by omega) hp hp2 (poly_are Hf.out) (poly_are Hg.out)).mono ?_
  rintro e w2 ⟨a', c', rfl, ho, t2⟩
  have B2 := bnext hb1 t2
  have ho2 := Own.mono (B' := w.heap.size) ho hb1.size
  go_wp2
  go_ret2
  exact Res1.own HC.out (by rw [HV.out, serL_len, Int.toNat_natCast]) (by rw [HV.out]; exact ho2) (by rw [HV.out, serL_len]; omega) B2
set_option maxRecDepth 100000 in
set_option maxHeartbeats 1600000 in
theorem specSeriesOf (p : Int) (a1 : Option Addr) (n1 c1 : Nat) (f : List Int) (a2 : Option Addr) (n2 c2 : Nat) (g : List Int) (k : Int) (w : World) (h1 : SL w a1 n1 c1 f) (h2 : SL w a2 n2 c2 g) (b1 : n1 ≤ 4000000) (b2 : n2 ≤ 4000000) :
    Calls Try.prog 15 #[.int .i64 p, .slice a1 n1 c1, .slice a2 n2 c2, .int .i64 k] w (Res1 w (serV p f g k) (serC p f g k)) := by
  have hl1 := hide h1.len
  have hl2 := hide h2.len
  rcases chk2_cases p f g with hc | hc | ⟨hc, hf, hg, hP⟩
  · have HC := hide (show serC p f g k = 1 by simp [serC, hc])
    have HV := hide (show serV p f g k = [] by simp [serV, HC.out])
    have Hc := hide hc
    clear hc
    go_enter Try.func15, Try.ntmps15
    go_wp2_with (go_at_call 58; refine (code2 p _ _ _ f _ _ _ g 1 _ h1 h2 b1 b2 Hc.out).mono ?_; rintro e w1 ⟨rfl, hb1⟩)
    go_ret2
    exact Res1.nil HV.out HC.out hb1
  · have HC := hide (show serC p f g k = 2 by simp [serC, hc])
    have HV := hide (show serV p f g k = [] by simp [serV, HC.out])
    have Hc := hide hc
    clear hc
    go_enter Try.func15, Try.ntmps15
    go_wp2_with (go_at_call 58; refine (code2 p _ _ _ f _ _ _ g 2 _ h1 h2 b1 b2 Hc.out).mono ?_; rintro e w1 ⟨rfl, hb1⟩)
    go_ret2
    exact Res1.nil HV.out HC.out hb1
  obtain ⟨hp, hp2⟩ := primeB_lo hP
  by_cases hk : 0 ≤ k ∧ k ≤ 24
  rotate_left
  · have HC := hide (show serC p f g k = 2 by simp [serC, hc, hk])
    have HV := hide (show serV p f g k = [] by simp [serV, HC.out])
    have Hc := hide hc
    clear hc hf hg hP
    go_enter Try.func15, Try.ntmps15
    go_wp2_with fail
    refine (code2 p _ _ _ f _ _ _ g 0 _ h1 h2 b1 b2 Hc.out).mono ?_
    rintro e w1 ⟨rfl, hb1⟩
    go_wp2_with fail
    refine (l01In_no _ _ _ _ hk).mono ?_
    rintro e w2 ⟨rfl, rfl⟩
    go_wp2
    go_ret2
    exact Res1.nil HV.out HC.out hb1
  obtain ⟨hk0, hk1⟩ := hk
  have Hc := hide hc
  have Hf := hide hf
  have Hg := hide hg
  have hn1 := poly_len hf
  have hn2 := poly_len hg
  rw [hl1.out] at hn1
  rw [hl2.out] at hn2
  by_cases h0 : n2 = 0
  · have hgn : g = [] := List.eq_nil_of_length_eq_zero (by rw [hl2.out, h0])
    have hg0 : g.getD 0 0 = 0 := by rw [hgn]; rfl
    have HC := hide (show serC p f g k = 5 by simp only [serC, hc, hk0, hk1, hg0, if_true, and_self])
    have HV := hide (show serV p f g k = [] by simp [serV, HC.out])
    subst h0
    clear hc hf hg hP hgn hg0
    go_enter Try.func15, Try.ntmps15
    go_wp2_with fail
    refine (code2 p _ _ _ f _ _ _ g 0 _ h1 h2 b1 b2 Hc.out).mono ?_
    rintro e w1 ⟨rfl, hb1⟩
    go_wp2_with fail
    refine (l01In_yes _ _ _ _ hk0 hk1).mono ?_
    rintro e w2 ⟨rfl, rfl⟩
    go_wp2
    go_ret2
    exact Res1.nil HV.out HC.out hb1
  have ob : ((n2 : Int) == 0) = false := by simpa using h0
  have hpos : 0 < n2 := by omega
  obtain ⟨b, off, rfl, hbw, hcell⟩ := h2.at hpos
  have e0 := hcell 0 hpos
  obtain ⟨x, hx⟩ : ∃ x, g.getD 0 0 = x := ⟨_, rfl⟩
  rw [hx, Nat.add_zero] at e0
  by_cases hz : x = 0
  · have HC := hide (show serC p f g k = 5 by simp only [serC, hc, hk0, hk1, hx, hz, if_true, and_self])
    have HV := hide (show serV p f g k = [] by simp [serV, HC.out])
    subst hz
    clear hc hf hg hP hcell hx h0
    go_enter Try.func15, Try.ntmps15
    go_wp2_with fail
    refine (code2 p _ _ _ f _ _ _ g 0 _ h1 h2 b1 b2 Hc.out).mono ?_
    rintro e w1 ⟨rfl, hb1⟩
    replace e0 := cell_be hb1 e0
    go_wp2_with fail
    refine (l01In_yes _ _ _ _ hk0 hk1).mono ?_
    rintro e w2 ⟨rfl, rfl⟩
    go_wp2
    go_ret2
    exact Res1.nil HV.out HC.out hb1
  have HC := hide (show serC p f g k = 0 by simp only [serC, hc, hk0, hk1, hx, hz, if_true, if_false, and_self])
  have HV := hide (show serV p f g k = serL p f g k.toNat by simp [serV, HC.out])
  have hz' : (x == 0) = false := by simpa using hz
  obtain ⟨m, rfl⟩ : ∃ m : Nat, k = m := ⟨k.toNat, by omega⟩
  clear hc hf hg hP hcell hx hz h0
  go_enter Try.func15, Try.ntmps15
  go_wp2_with fail
  refine (code2 p _ _ _ f _ _ _ g 0 _ h1 h2 b1 b2 Hc.out).mono ?_
  rintro e w1 ⟨rfl, hb1⟩
  replace e0 := cell_be hb1 e0
  go_wp2_with fail
  refine (l01In_yes _ _ _ _ hk0 hk1).mono ?_
  rintro e w2 ⟨rfl, rfl⟩
  go_wp2_with fail
  refine (l05Series_any p _ _ _ f _ _ _ g m _ (h1.below hb1) (h2.below hb1) b1 b2 (by omega) (by omega) hp hp2 (poly_are Hf.out) (poly_are Hg.out)).mono ?_
  rintro e w3 ⟨a', c', rfl, ho, t2⟩
  have B2 := bnext hb1 t2
  have ho2 := Own.mono (B' := w.heap.size) ho hb1.size
  go_wp2
  go_ret2
  exact Res1.own HC.out (by rw [HV.out, serL_len, Int.toNat_natCast]) (by rw [HV.out]; exact ho2) (by rw [HV.out, serL_len]; omega) B2
end Go.Proofs.Ytddogdmeelckjaa
