/- Contracts: TimesX (program, model). -/
import Derived.Test.YtgaafhcnfeipbaaBd
import Derived.Test.YtgaafhcnfeipbaaBe
namespace Go.Proofs.Ytgaafhcnfeipbaa
open Go.RowKit
set_option linter.unusedVariables false
set_option linter.unusedSimpArgs false

def txC (p : Int) (xs ys f : List Int) : Int := if lstC p xs ys (xs.length : Int) f = 0 then (if f.length = 0 ∨ f.getD (f.length - 1) 0 ≠ 0 then 0 else 2) else lstC p xs ys (xs.length : Int) f
def txV (p : Int) (xs ys f : List Int) : List Int := if txC p xs ys f = 0 then trimL (tmxL p xs ys f) else []
theorem tmxL_nil {p : Int} (xs ys : List Int) : trimL (tmxL p xs ys []) = [] := by
  have e : tmxL p xs ys [] = [0] := by
    unfold tmxL tab
    simp [List.range_succ, tmx, shF, cf]
  rw [e]
  rfl
theorem tmxL_full {p : Int} (hp : 2 ≤ p) (xs ys : List Int) {f : List Int} (hf : areB p f = true) (h0 : f.length ≠ 0) (hl : f.getD (f.length - 1) 0 ≠ 0) : trimL (tmxL p xs ys f) = tmxL p xs ys f := by
  apply trimL_self
  rw [tmxL_len, Nat.add_sub_cancel]
  unfold tmxL
  rw [tab_at _ _ _ (by omega)]
  have far : ∀ i, f.length ≤ i → cf f i = 0 := fun i h => cf_far h
  unfold tmx
  rw [far _ (Nat.le_refl _), far (f.length + 1) (by omega), Int.mul_zero, Int.mul_zero, Int.add_zero, Int.add_zero]
  unfold shF
  rw [if_neg h0]
  have r := cf_rng hp hf (f.length - 1)
  rw [Int.emod_eq_of_lt r.1 r.2]
  exact hl
def txF (p : Int) (xs ys f : List Int) (i : Nat) : Int := tmx (cf xs) (cf ys) (cf f) i % p
set_option maxRecDepth 100000 in
set_option maxHeartbeats 1600000 in
theorem implTimesX (p : Int) (a : Option Addr) (n c : Nat) (xs : List Int) (b : Option Addr) (m d : Nat) (ys : List Int) (f1 : Option Addr) (q1 c1 : Nat) (f : List Int) (w : World) (hs : SL w a n c xs) (ht : SL w b m d ys) (hf : SL w f1 q1 c1 f) (hn : n ≤ 4000000) (hm : m ≤ 4000000) (hq : q1 ≤ 4000000) :
    Calls Try.prog 41 #[jac p a n c b m d, .slice f1 q1 c1] w (Res1 w (txV p xs ys f) (txC p xs ys f)) := by
  have hl := hide hs.len
  have hl2 := hide ht.len
  have hl3 := hide hf.len
  have hb0 := bl1 w (.cells #[.int .i64 p, .slice a n c, .slice b m d] 24)
  have e0 : (w.alloc (.cells #[.int .i64 p, .slice a n c, .slice b m d] 24)).cell? ⟨w.heap.size, 0, none⟩ = some (.int .i64 p) := by simp [go_sem]
  have e1 : (w.alloc (.cells #[.int .i64 p, .slice a n c, .slice b m d] 24)).cell? ⟨w.heap.size, 1, none⟩ = some (.slice a n c) := by simp [go_sem]
  have e2 : (w.alloc (.cells #[.int .i64 p, .slice a n c, .slice b m d] 24)).cell? ⟨w.heap.size, 2, none⟩ = some (.slice b m d) := by simp [go_sem]
  have g1 := hs.below hb0
  have g2 := ht.below hb0
  have g3 := hf.below hb0
  have zx : w.heap.size + 1 = (w.alloc (.cells #[.int .i64 p, .slice a n c, .slice b m d] 24)).heap.size := by simp
  rcases lstC_cases p xs ys (xs.length : Int) f with hc | hc | ⟨hc, hj, hle, hfa⟩
  · have HC := hide (show txC p xs ys f = 1 by unfold txC; rw [hc]; rfl)
    have HV := hide (show txV p xs ys f = [] by unfold txV; rw [HC.out]; rfl)
    have HL := hide (show lstC p xs ys (n : Int) f = 1 by rw [← hl.out]; exact hc)
    clear hc
    go_enter Try.func41, Try.ntmps41
    go_upto_region 1 with fail
    generalize (w.alloc (.cells #[.int .i64 p, .slice a n c, .slice b m d] 24)) = wx at *
    have hd0 := (Below.refl wx.heap.size wx).drew
    have hd1 : Below wx.heap.size wx (wx.alloc (.cells #[.slice f1 q1 c1] 22)).drew := (bl1 wx _).drew
    have L1 : Lists (wx.alloc (.cells #[.slice f1 q1 c1] 22)).drew wx.heap.size 1 (fun _ => f1) (fun _ => q1) (fun _ => c1) (fun _ => f) := Lists.one (by simp [go_sem]) (g3.below hd1) hq
    have F : ∀ w', Below wx.heap.size wx w' → w'.cell? ⟨w.heap.size, 0, none⟩ = some (.int .i64 p) ∧ w'.cell? ⟨w.heap.size, 1, none⟩ = some (.slice a n c) ∧ w'.cell? ⟨w.heap.size, 2, none⟩ = some (.slice b m d) := fun w' h => ⟨cell_be h e0, cell_be h e1, cell_be h e2⟩
    go_region_held3 (fun w' => w'.cell? ⟨w.heap.size, 0, none⟩ = some (.int .i64 p) ∧ w'.cell? ⟨w.heap.size, 1, none⟩ = some (.slice a n c) ∧ w'.cell? ⟨w.heap.size, 2, none⟩ = some (.slice b m d))
      (first | exact F _ (by assumption) | exact F _ (hm1.alloc (by have := hm1.size; simp at this ⊢; omega) _))
      (first
      | (go_at_call 58; refine (sizeOf_any _ _ _ _ _ _ _ _ hn).mono ?_; rintro e w1 ⟨rfl, hb1⟩; have hm1 := bnext hd1 hb1)
      | (go_at_call 58; refine (sizeOf_any _ _ _ _ _ _ _ _ hn).mono ?_; rintro e w1 ⟨rfl, hb1⟩; have hm1 := bnext hd0 hb1)
      | (go_at_call 57; refine (checkLists_one p a n c xs b m d ys _ _ _ f1 q1 c1 f 1 _ (g1.below hm1) (g2.below hm1) (L1.below hb1) hn hm HL.out).mono ?_; rintro e w2 ⟨rfl, hb2⟩; have hm2 := bnext hm1 hb2)
      | (go_at_call 57; have hm1a := bnext hm1 (bl1 w1 (.cells #[.slice f1 q1 c1] 22)); refine (checkLists_one p a n c xs b m d ys _ _ _ f1 q1 c1 f 1 _ (g1.below hm1a) (g2.below hm1a) (Lists.one (by simp [go_sem]) (g3.below hm1a) hq) hn hm HL.out).mono ?_; rintro e w2 ⟨rfl, hb2⟩; have hm2 := bnext hm1a hb2))
    all_goals
      have hB2 := bnext hb0 hm2
      go_wp2
      go_ret2
      exact Res1.nil HV.out HC.out hB2
  · have HC := hide (show txC p xs ys f = 2 by unfold txC; rw [hc]; rfl)
    have HV := hide (show txV p xs ys f = [] by unfold txV; rw [HC.out]; rfl)
    have HL := hide (show lstC p xs ys (n : Int) f = 2 by rw [← hl.out]; exact hc)
    clear hc
    go_enter Try.func41, Try.ntmps41
    go_upto_region 1 with fail
    generalize (w.alloc (.cells #[.int .i64 p, .slice a n c, .slice b m d] 24)) = wx at *
    have hd0 := (Below.refl wx.heap.size wx).drew
    have hd1 : Below wx.heap.size wx (wx.alloc (.cells #[.slice f1 q1 c1] 22)).drew := (bl1 wx _).drew
    have L1 : Lists (wx.alloc (.cells #[.slice f1 q1 c1] 22)).drew wx.heap.size 1 (fun _ => f1) (fun _ => q1) (fun _ => c1) (fun _ => f) := Lists.one (by simp [go_sem]) (g3.below hd1) hq
    have F : ∀ w', Below wx.heap.size wx w' → w'.cell? ⟨w.heap.size, 0, none⟩ = some (.int .i64 p) ∧ w'.cell? ⟨w.heap.size, 1, none⟩ = some (.slice a n c) ∧ w'.cell? ⟨w.heap.size, 2, none⟩ = some (.slice b m d) := fun w' h => ⟨cell_be h e0, cell_be h e1, cell_be h e2⟩
    go_region_held3 (fun w' => w'.cell? ⟨w.heap.size, 0, none⟩ = some (.int .i64 p) ∧ w'.cell? ⟨w.heap.size, 1, none⟩ = some (.slice a n c) ∧ w'.cell? ⟨w.heap.size, 2, none⟩ = some (.slice b m d))
      (first | exact F _ (by assumption) | exact F _ (hm1.alloc (by have := hm1.size; simp at this ⊢; omega) _))
      (first
      | (go_at_call 58; refine (sizeOf_any _ _ _ _ _ _ _ _ hn).mono ?_; rintro e w1 ⟨rfl, hb1⟩; have hm1 := bnext hd1 hb1)
      | (go_at_call 58; refine (sizeOf_any _ _ _ _ _ _ _ _ hn).mono ?_; rintro e w1 ⟨rfl, hb1⟩; have hm1 := bnext hd0 hb1)
      | (go_at_call 57; refine (checkLists_one p a n c xs b m d ys _ _ _ f1 q1 c1 f 2 _ (g1.below hm1) (g2.below hm1) (L1.below hb1) hn hm HL.out).mono ?_; rintro e w2 ⟨rfl, hb2⟩; have hm2 := bnext hm1 hb2)
      | (go_at_call 57; have hm1a := bnext hm1 (bl1 w1 (.cells #[.slice f1 q1 c1] 22)); refine (checkLists_one p a n c xs b m d ys _ _ _ f1 q1 c1 f 2 _ (g1.below hm1a) (g2.below hm1a) (Lists.one (by simp [go_sem]) (g3.below hm1a) hq) hn hm HL.out).mono ?_; rintro e w2 ⟨rfl, hb2⟩; have hm2 := bnext hm1a hb2))
    all_goals
      have hB2 := bnext hb0 hm2
      go_wp2
      go_ret2
      exact Res1.nil HV.out HC.out hB2
  · obtain ⟨hpr, n1, n2, n3, hx, hy⟩ := jacB_rng hj
    obtain ⟨hp, hp2⟩ := primeB_lo hpr
    have HJ := hide hj
    have HPR := hide hpr
    have HX := hide hx
    have HY := hide (posB_are hy)
    have HFA := hide hfa
    rw [hl.out] at n1 n2 n3
    rw [hl2.out] at n3
    subst n3
    rw [hl3.out, hl.out] at hle
    have lq : q1 ≤ m := by omega
    have HL := hide (show lstC p xs ys (m : Int) f = 0 by rw [← hl.out]; exact hc)
    have HE := hide (show txC p xs ys f = if q1 = 0 ∨ f.getD (q1 - 1) 0 ≠ 0 then 0 else 2 by unfold txC; rw [if_pos hc, hl3.out])
    clear hc hj hpr hx hy hfa hle
    have nle := trimN_le f q1
    by_cases hz : q1 = 0 ∨ f.getD (q1 - 1) 0 ≠ 0
    · have HC := hide (show txC p xs ys f = 0 by rw [HE.out, if_pos hz])
      have HV := hide (show txV p xs ys f = trimL (tmxL p xs ys f) by unfold txV; rw [if_pos HC.out])
      have hT := hide (show trimN f q1 = q1 by
        rcases hz with h | h
        · rw [h]; rfl
        · by_cases h0 : q1 = 0
          · rw [h0]; rfl
          · exact trimN_stop h (by omega))
      clear hz HE
      go_enter Try.func41, Try.ntmps41
      go_upto_region 1 with fail
      generalize (w.alloc (.cells #[.int .i64 p, .slice a m c, .slice b m d] 24)) = wx at *
      have hd0 := (Below.refl wx.heap.size wx).drew
      have hd1 : Below wx.heap.size wx (wx.alloc (.cells #[.slice f1 q1 c1] 22)).drew := (bl1 wx _).drew
      have L1 : Lists (wx.alloc (.cells #[.slice f1 q1 c1] 22)).drew wx.heap.size 1 (fun _ => f1) (fun _ => q1) (fun _ => c1) (fun _ => f) := Lists.one (by simp [go_sem]) (g3.below hd1) hq
      have F : ∀ w', Below wx.heap.size wx w' → w'.cell? ⟨w.heap.size, 0, none⟩ = some (.int .i64 p) ∧ w'.cell? ⟨w.heap.size, 1, none⟩ = some (.slice a m c) ∧ w'.cell? ⟨w.heap.size, 2, none⟩ = some (.slice b m d) := fun w' h => ⟨cell_be h e0, cell_be h e1, cell_be h e2⟩
      go_region_held3 (fun w' => w'.cell? ⟨w.heap.size, 0, none⟩ = some (.int .i64 p) ∧ w'.cell? ⟨w.heap.size, 1, none⟩ = some (.slice a m c) ∧ w'.cell? ⟨w.heap.size, 2, none⟩ = some (.slice b m d))
        (first | exact F _ (by assumption) | exact F _ (hm1.alloc (by have := hm1.size; simp at this ⊢; omega) _))
        (first
        | (go_at_call 58; refine (sizeOf_any _ _ _ _ _ _ _ _ hm).mono ?_; rintro e w1 ⟨rfl, hb1⟩; have hm1 := bnext hd1 hb1)
        | (go_at_call 58; refine (sizeOf_any _ _ _ _ _ _ _ _ hm).mono ?_; rintro e w1 ⟨rfl, hb1⟩; have hm1 := bnext hd0 hb1)
        | (go_at_call 57; refine (checkLists_one p a m c xs b m d ys _ _ _ f1 q1 c1 f 0 _ (g1.below hm1) (g2.below hm1) (L1.below hb1) hm hm HL.out).mono ?_; rintro e w2 ⟨rfl, hb2⟩; have hm2 := bnext hm1 hb2)
        | (go_at_call 57; have hm1a := bnext hm1 (bl1 w1 (.cells #[.slice f1 q1 c1] 22)); refine (checkLists_one p a m c xs b m d ys _ _ _ f1 q1 c1 f 0 _ (g1.below hm1a) (g2.below hm1a) (Lists.one (by simp [go_sem]) (g3.below hm1a) hq) hm hm HL.out).mono ?_; rintro e w2 ⟨rfl, hb2⟩; have hm2 := bnext hm1a hb2))
      all_goals
        have hB2 := bnext hb0 hm2
        obtain ⟨f0, k1, k2⟩ := F _ hm2
        go_wp2_with fail
        refine (trim_any f1 q1 c1 f _ (g3.below hm2) hq).mono ?_
        rintro e w3 ⟨rfl, t3⟩
        rw [hT.out]
        have hB3 := bnext hB2 t3
        have hm3 := bnext hm2 t3
        replace f0 := cell_be t3 f0
        replace k1 := cell_be t3 k1
        replace k2 := cell_be t3 k2
        go_wp2_with fail
        refine (timesX_any p a m c xs b m d ys f1 q1 c1 f _ (g1.below hm3) (g2.below hm3) (g3.below hm3) lq lq (by omega) hp hp2 HX.out HY.out HFA.out).mono ?_
        rintro e w4 ⟨a4, c4, rfl, ho4, t4⟩
        have hB4 := bnext hB3 t4
        have s4 := hide ho4.sl
        go_wp2_with fail
        refine (trim_any a4 _ c4 (tmxL p xs ys f) _ s4.out (by rw [tmxL_len, hl3.out]; omega)).mono ?_
        rintro e w5 ⟨rfl, t5⟩
        have hB5 := bnext hB4 t5
        have hz3 := hB3.size
        have ho5 := (ho4.below t5).takeG (m := trimN (tmxL p xs ys f) (tmxL p xs ys f).length) (trimN_le _ _)
        have hln := trimN_le (tmxL p xs ys f) (tmxL p xs ys f).length
        have hlt := tmxL_len p xs ys f
        rw [hl3.out] at hlt
        go_wp2
        go_ret2
        exact Res1.own HC.out (by rw [HV.out, trimL_len, hlt]) (by rw [HV.out]; exact ho5.mono hz3) (by rw [HV.out, trimL_len]; omega) hB5
    · have HC := hide (show txC p xs ys f = 2 by rw [HE.out, if_neg hz])
      have HV := hide (show txV p xs ys f = [] by unfold txV; rw [HC.out]; rfl)
      have q0 : 0 < q1 := by omega
      have hT := hide (show trimN f q1 ≤ q1 - 1 by
        have h : f.getD (q1 - 1) 0 = 0 := by
          by_cases h : f.getD (q1 - 1) 0 = 0
          · exact h
          · exact absurd (.inr h) hz
        rw [trimN_zero h q0]
        exact trimN_le _ _)
      clear hz HE
      go_enter Try.func41, Try.ntmps41
      go_upto_region 1 with fail
      generalize (w.alloc (.cells #[.int .i64 p, .slice a m c, .slice b m d] 24)) = wx at *
      have hd0 := (Below.refl wx.heap.size wx).drew
      have hd1 : Below wx.heap.size wx (wx.alloc (.cells #[.slice f1 q1 c1] 22)).drew := (bl1 wx _).drew
      have L1 : Lists (wx.alloc (.cells #[.slice f1 q1 c1] 22)).drew wx.heap.size 1 (fun _ => f1) (fun _ => q1) (fun _ => c1) (fun _ => f) := Lists.one (by simp [go_sem]) (g3.below hd1) hq
      have F : ∀ w', Below wx.heap.size wx w' → w'.cell? ⟨w.heap.size, 0, none⟩ = some (.int .i64 p) ∧ w'.cell? ⟨w.heap.size, 1, none⟩ = some (.slice a m c) ∧ w'.cell? ⟨w.heap.size, 2, none⟩ = some (.slice b m d) := fun w' h => ⟨cell_be h e0, cell_be h e1, cell_be h e2⟩
      go_region_held3 (fun w' => w'.cell? ⟨w.heap.size, 0, none⟩ = some (.int .i64 p) ∧ w'.cell? ⟨w.heap.size, 1, none⟩ = some (.slice a m c) ∧ w'.cell? ⟨w.heap.size, 2, none⟩ = some (.slice b m d))
        (first | exact F _ (by assumption) | exact F _ (hm1.alloc (by have := hm1.size; simp at this ⊢; omega) _))
        (first
        | (go_at_call 58; refine (sizeOf_any _ _ _ _ _ _ _ _ hm).mono ?_; rintro e w1 ⟨rfl, hb1⟩; have hm1 := bnext hd1 hb1)
        | (go_at_call 58; refine (sizeOf_any _ _ _ _ _ _ _ _ hm).mono ?_; rintro e w1 ⟨rfl, hb1⟩; have hm1 := bnext hd0 hb1)
        | (go_at_call 57; refine (checkLists_one p a m c xs b m d ys _ _ _ f1 q1 c1 f 0 _ (g1.below hm1) (g2.below hm1) (L1.below hb1) hm hm HL.out).mono ?_; rintro e w2 ⟨rfl, hb2⟩; have hm2 := bnext hm1 hb2)
        | (go_at_call 57; have hm1a := bnext hm1 (bl1 w1 (.cells #[.slice f1 q1 c1] 22)); refine (checkLists_one p a m c xs b m d ys _ _ _ f1 q1 c1 f 0 _ (g1.below hm1a) (g2.below hm1a) (Lists.one (by simp [go_sem]) (g3.below hm1a) hq) hm hm HL.out).mono ?_; rintro e w2 ⟨rfl, hb2⟩; have hm2 := bnext hm1a hb2))
      all_goals
        have hB2 := bnext hb0 hm2
        have hT2 : (trimN f q1 : Int) < (q1 : Int) := by have := hT.out; omega
        go_wp2_with fail
        refine (trim_any f1 q1 c1 f _ (g3.below hm2) hq).mono ?_
        rintro e w3 ⟨rfl, t3⟩
        have hB3 := bnext hB2 t3
        go_wp2
        go_ret2
        exact Res1.nil HV.out HC.out hB3
set_option maxRecDepth 100000 in
set_option maxHeartbeats 1600000 in
theorem specTimesX (p : Int) (a : Option Addr) (n c : Nat) (xs : List Int) (b : Option Addr) (m d : Nat) (ys : List Int) (f1 : Option Addr) (q1 c1 : Nat) (f : List Int) (w : World) (hs : SL w a n c xs) (ht : SL w b m d ys) (hf : SL w f1 q1 c1 f) (hn : n ≤ 4000000) (hm : m ≤ 4000000) (hq : q1 ≤ 4000000) :
    Calls Try.prog 40 #[jac p a n c b m d, .slice f1 q1 c1] w (Res1 w (txV p xs ys f) (txC p xs ys f)) := by
  have hl := hide hs.len
  have hl2 := hide ht.len
  have hl3 := hide hf.len
  have hb0 := bl1 w (.cells #[.int .i64 p, .slice a n c, .slice b m d] 24)
  have e0 : (w.alloc (.cells #[.int .i64 p, .slice a n c, .slice b m d] 24)).cell? ⟨w.heap.size, 0, none⟩ = some (.int .i64 p) := by simp [go_sem]
  have e1 : (w.alloc (.cells #[.int .i64 p, .slice a n c, .slice b m d] 24)).cell? ⟨w.heap.size, 1, none⟩ = some (.slice a n c) := by simp [go_sem]
  have e2 : (w.alloc (.cells #[.int .i64 p, .slice a n c, .slice b m d] 24)).cell? ⟨w.heap.size, 2, none⟩ = some (.slice b m d) := by simp [go_sem]
  have g1 := hs.below hb0
  have g2 := ht.below hb0
  have g3 := hf.below hb0
  have v1 : IntKind.i64.wrap ((n : Int) + 0) = (n : Int) := by rw [Int.add_zero]; exact IntWalk.i64_in _ (by omega)
  have zx : w.heap.size + 1 = (w.alloc (.cells #[.int .i64 p, .slice a n c, .slice b m d] 24)).heap.size := by simp
  rcases lstC_cases p xs ys (xs.length : Int) f with hc | hc | ⟨hc, hj, hle, hfa⟩
  · have HC := hide (show txC p xs ys f = 1 by unfold txC; rw [hc]; rfl)
    have HV := hide (show txV p xs ys f = [] by unfold txV; rw [HC.out]; rfl)
    have HL := hide (show lstC p xs ys ((n : Int) + 0) f = 1 by rw [← hl.out, Int.add_zero]; exact hc)
    clear hc
    go_enter Try.func40, Try.ntmps40
    go_wp2_with fail
    refine (l10List_any p a n c xs b m d ys f1 q1 c1 f 0 1 _ g1 g2 g3 hn hm hq (by omega) (by omega) HL.out).mono ?_
    rintro e w2 ⟨rfl, t2⟩
    have hB2 := bnext hb0 t2
    go_wp2
    go_ret2
    exact Res1.nil HV.out HC.out hB2
  · have HC := hide (show txC p xs ys f = 2 by unfold txC; rw [hc]; rfl)
    have HV := hide (show txV p xs ys f = [] by unfold txV; rw [HC.out]; rfl)
    have HL := hide (show lstC p xs ys ((n : Int) + 0) f = 2 by rw [← hl.out, Int.add_zero]; exact hc)
    clear hc
    go_enter Try.func40, Try.ntmps40
    go_wp2_with fail
    refine (l10List_any p a n c xs b m d ys f1 q1 c1 f 0 2 _ g1 g2 g3 hn hm hq (by omega) (by omega) HL.out).mono ?_
    rintro e w2 ⟨rfl, t2⟩
    have hB2 := bnext hb0 t2
    go_wp2
    go_ret2
    exact Res1.nil HV.out HC.out hB2
  · obtain ⟨hpr, n1, n2, n3, hx, hy⟩ := jacB_rng hj
    obtain ⟨hp, hp2⟩ := primeB_lo hpr
    have HJ := hide hj
    have HPR := hide hpr
    have HX := hide hx
    have HY := hide (posB_are hy)
    have HFA := hide hfa
    rw [hl.out] at n1 n2 n3
    rw [hl2.out] at n3
    subst n3
    rw [hl3.out, hl.out] at hle
    have lq : q1 ≤ m := by omega
    have HL := hide (show lstC p xs ys ((m : Int) + 0) f = 0 by rw [← hl.out, Int.add_zero]; exact hc)
    have HE := hide (show txC p xs ys f = if q1 = 0 ∨ f.getD (q1 - 1) 0 ≠ 0 then 0 else 2 by unfold txC; rw [if_pos hc, hl3.out])
    clear hc hj hpr hx hy hfa hle
    by_cases hq0 : q1 = 0
    · have HC := hide (show txC p xs ys f = 0 by rw [HE.out, if_pos (.inl hq0)])
      have HV := hide (show txV p xs ys f = [] by
        unfold txV
        rw [if_pos HC.out, List.eq_nil_of_length_eq_zero (hl3.out.trans hq0)]
        exact tmxL_nil xs ys)
      have nq : ¬ (0 : Int) < (q1 : Int) := by omega
      have nq2 : (0 : Int) ≤ (q1 : Int) := by omega
      clear HE hq0
      go_enter Try.func40, Try.ntmps40
      go_wp2_with fail
      refine (l10List_any p a m c xs b m d ys f1 q1 c1 f 0 0 _ g1 g2 g3 hm hm hq (by omega) (by omega) HL.out).mono ?_
      rintro e w2 ⟨rfl, t2⟩
      have hB2 := bnext hb0 t2
      have hbz := bl1 w2 (.cells #[] 2)
      have hbx := bnext hB2 hbz
      have hz2 := hB2.size
      have ho0 : Own w.heap.size (w2.alloc (.cells #[] 2)) (some ⟨w2.heap.size, 0, none⟩) 0 [] := World.ownsRow_lit w2 (base := w.heap.size) (e := 2) (size := 1) #[] 0 hz2 (by simp) rfl
      go_wp2
      refine wp_loop_rounds 1 ?_
      rw [rounds_succ]
      go_wp2
      go_ret2
      exact Res1.own HC.out (by rw [HV.out]; rfl) (by rw [HV.out]; exact ho0) (by rw [HV.out]; simp) hbx
    have q0 : (0 : Int) < (q1 : Int) := by omega
    have vq : IntKind.i64.wrap ((q1 : Int) - 1) = ((q1 - 1 : Nat) : Int) := by rw [show (q1 : Int) - 1 = ((q1 - 1 : Nat) : Int) by omega]; exact IntWalk.i64_in _ (by omega)
    obtain ⟨K, hK⟩ : ∃ K, K = q1 - 1 := ⟨_, rfl⟩
    rw [← hK] at vq
    have hK1 : (K : Int) < (q1 : Int) := by omega
    obtain ⟨b3, o3, rfl, _, hc3⟩ := hf.at (by omega)
    have hcl : ∀ w', Below w.heap.size w w' → w'.cell? ⟨b3, o3 + K, none⟩ = some (.int .i64 (f.getD K 0)) := fun w' h => cell_be h (hc3 K (by omega))
    have HK := hide hK
    clear hK hc3
    by_cases hz : f.getD K 0 = 0
    · have HC := hide (show txC p xs ys f = 2 by rw [HE.out, ← HK.out, hz, if_neg (by omega)])
      have HV := hide (show txV p xs ys f = [] by unfold txV; rw [HC.out]; rfl)
      rw [hz] at hcl
      clear hz HE
      go_enter Try.func40, Try.ntmps40
      go_wp2_with fail
      refine (l10List_any p a m c xs b m d ys (some ⟨b3, o3, none⟩) q1 c1 f 0 0 _ g1 g2 g3 hm hm hq (by omega) (by omega) HL.out).mono ?_
      rintro e w2 ⟨rfl, t2⟩
      have hB2 := bnext hb0 t2
      have e3 := hcl _ hB2
      go_wp2
      go_ret2
      exact Res1.nil HV.out HC.out hB2
    · have HC := hide (show txC p xs ys f = 0 by rw [HE.out, ← HK.out, if_pos (.inr hz)])
      have HV := hide (show txV p xs ys f = tab (q1 + 1) (txF p xs ys f) by
        unfold txV
        rw [if_pos HC.out, tmxL_full hp xs ys HFA.out (by rw [hl3.out]; omega) (by rw [hl3.out, ← HK.out]; exact hz)]
        unfold tmxL
        rw [hl3.out]
        rfl)
      obtain ⟨y, hy⟩ : ∃ y, f.getD K 0 = y := ⟨_, rfl⟩
      rw [hy] at hz hcl
      have hyz : (y == 0) = false := by simpa using hz
      clear HE hy
      go_enter Try.func40, Try.ntmps40
      go_wp2_with fail
      refine (l10List_any p a m c xs b m d ys (some ⟨b3, o3, none⟩) q1 c1 f 0 0 _ g1 g2 g3 hm hm hq (by omega) (by omega) HL.out).mono ?_
      rintro e w2 ⟨rfl, t2⟩
      have hB2 := bnext hb0 t2
      have e3 := hcl _ hB2
      have hbz := bl1 w2 (.cells #[] 2)
      have hz2 := hB2.size
      have O0 : Hid (Own w.heap.size (w2.alloc (.cells #[] 2)) (some ⟨w2.heap.size, 0, none⟩) 0 (tab 0 (txF p xs ys f))) := hide (World.ownsRow_lit w2 (base := w.heap.size) (e := 2) (size := 1) #[] 0 hz2 (by simp) rfl)
      replace O0 : Hid (Own (w.heap.size + 1) (w2.alloc (.cells #[] 2)) (some ⟨w2.heap.size, 0, none⟩) 0 (tab 0 (txF p xs ys f))) := hide (World.ownsRow_lit w2 (base := w.heap.size + 1) (e := 2) (size := 1) #[] 0 (World.block_lt_of_cell? _ _ (cell_be t2 e0)) (by simp) rfl)
      have HB := hide (bnext hB2 hbz)
      have E0 := hide (And.intro (cell_be hbz (cell_be t2 e0)) (And.intro (cell_be hbz (cell_be t2 e1)) (cell_be hbz (cell_be t2 e2))))
      clear g1 g2 g3 hb0 e0 e1 e2 t2 hbz hcl zx
      go_wp2
      generalize (w2.alloc (.cells #[] 2)) = wx at *
      clear hB2 hz2 e3
      go_loopw [7, 9] (fun sv iv wr => ∃ (t : Nat) (a' : Option Addr) (c' : Nat), t ≤ q1 + 1 ∧ iv = .int .i64 t ∧ sv = .slice a' t c' ∧ Hid (Own (w.heap.size + 1) wr a' c' (tab t (txF p xs ys f))) ∧ Hid (Below w.heap.size w wr) ∧ Hid (wr.cell? ⟨w.heap.size, 0, none⟩ = some (.int .i64 p) ∧ wr.cell? ⟨w.heap.size, 1, none⟩ = some (.slice a m c) ∧ wr.cell? ⟨w.heap.size, 2, none⟩ = some (.slice b m d))) (fun _ iv _ => q1 + 1 - (intOf iv).toNat)
      case atStart => exact ⟨0, _, 0, by omega, rfl, rfl, O0, HB, E0⟩
      case round =>
        obtain ⟨t, a', c', htq, rfl, rfl, hO, hW, hE⟩ := hrel
        clear O0 HB E0
        by_cases hlt : t < q1 + 1
        · have hle : (t : Int) ≤ (q1 : Int) := by omega
          obtain ⟨f0, k1, k2⟩ := hE.out
          obtain ⟨b1, o1, rfl, _, hc1⟩ := (hs.below hW.out).at (by omega)
          obtain ⟨b2, o2, rfl, _, hc2⟩ := (ht.below hW.out).at (by omega)
          obtain ⟨b3', o3', heq, _, hc3⟩ := (hf.below hW.out).at (by omega)
          cases heq
          have hp0 : ¬ p = 0 := by omega
          have zw := hW.out.size
          have zw1 : w.heap.size + 1 ≤ wr.heap.size := World.block_lt_of_cell? _ _ f0
          by_cases hP : 0 < t
          · by_cases hA : t < q1
            · by_cases hB : t + 1 < q1
              · have ip : (0 : Int) < (t : Int) := by omega
                obtain ⟨T0, hT0⟩ : ∃ T0, T0 = t - 1 := ⟨_, rfl⟩
                have vT0 : IntKind.i64.wrap ((t : Int) - 1) = (T0 : Int) := by rw [show (t : Int) - 1 = (T0 : Int) by omega]; exact IntWalk.i64_in _ (by omega)
                have iT0 : (T0 : Int) < (q1 : Int) := by omega
                have ep := hc3 T0 (by omega)
                have rp := getD_rng HFA.out hp T0
                obtain ⟨s0, hs0⟩ : ∃ s0, f.getD T0 0 = s0 := ⟨_, rfl⟩
                rw [hs0] at ep rp
                have h0 : shF (cf f) t = s0 := by unfold shF cf; rw [if_neg (by omega), ← hT0, hs0]
                have ia : (t : Int) < (q1 : Int) := by omega
                have ia2 : (t : Int) < (m : Int) := by omega
                have ea := hc1 t (by omega)
                have ef := hc3 t (by omega)
                have rx := getD_rng HX.out hp t
                have rf := getD_rng HFA.out hp t
                obtain ⟨x, hx⟩ : ∃ x, xs.getD t 0 = x := ⟨_, rfl⟩
                obtain ⟨z, hz'⟩ : ∃ z, f.getD t 0 = z := ⟨_, rfl⟩
                rw [hx] at ea rx
                rw [hz'] at ef rf
                obtain ⟨m1, m2⟩ := mulb rx.1 rx.2 rf.1 rf.2 hp2
                have h1 : cf xs t * cf f t = x * z := by unfold cf; rw [hx, hz']
                have va : IntKind.i64.wrap (x * z) = x * z := IntWalk.i64_in _ (by omega)
                have vs1 : IntKind.i64.wrap (s0 + x * z) = s0 + x * z := IntWalk.i64_in _ (by omega)
                clear hx hz'
                obtain ⟨T1, hT1⟩ : ∃ T1, T1 = t + 1 := ⟨_, rfl⟩
                have vT1 : IntKind.i64.wrap ((t : Int) + 1) = (T1 : Int) := by rw [show (t : Int) + 1 = (T1 : Int) by omega]; exact IntWalk.i64_in _ (by omega)
                have ib : (T1 : Int) < (q1 : Int) := by omega
                have ib2 : (T1 : Int) < (m : Int) := by omega
                have eb := hc2 T1 (by omega)
                have eg := hc3 T1 (by omega)
                have ry := getD_rng HY.out hp T1
                have rg := getD_rng HFA.out hp T1
                obtain ⟨y', hy'⟩ : ∃ y, ys.getD T1 0 = y := ⟨_, rfl⟩
                obtain ⟨u, hu⟩ : ∃ u, f.getD T1 0 = u := ⟨_, rfl⟩
                rw [hy'] at eb ry
                rw [hu] at eg rg
                obtain ⟨m3, m4⟩ := mulb ry.1 ry.2 rg.1 rg.2 hp2
                have h2 : cf ys (t + 1) * cf f (t + 1) = y' * u := by unfold cf; rw [← hT1, hy', hu]
                have vb : IntKind.i64.wrap (y' * u) = y' * u := IntWalk.i64_in _ (by omega)
                have vs2 : IntKind.i64.wrap ((s0 + x * z) + y' * u) = (s0 + x * z) + y' * u := IntWalk.i64_in _ (by omega)
                clear hy' hu
                have hF := hide (show txF p xs ys f t = ((s0 + x * z) + y' * u) % p by unfold txF tmx; rw [h0, h1, h2]; try simp only [Int.zero_add, Int.add_zero])
                have vt : (((s0 + x * z) + y' * u)).tmod p = ((s0 + x * z) + y' * u) % p := Int.tmod_eq_emod_of_nonneg (by omega)
                rw [← hF.out] at vt
                obtain ⟨v, hv⟩ : ∃ v, txF p xs ys f t = v := ⟨_, rfl⟩
                rw [hv] at vt
                have Hv := hide hv
                have hO' := hO
                have hW' := hW
                clear hc1 hc2 hc3 h0 h1 h2 hv hF hT1 hE hO hW
                clear hT0 hs0
                go_wp2
                go_quiet (fail)
                have hbq1 := below_drewN (Below.refl wr.heap.size wr) nq
                obtain ⟨wq1, hwq⟩ : ∃ wq, wr.drewN nq = wq := ⟨_, rfl⟩
                rw [hwq] at hbq1 ⊢
                clear hwq
                replace f0 := cell_be hbq1 f0
                replace k1 := cell_be hbq1 k1
                replace k2 := cell_be hbq1 k2
                replace eb := cell_be hbq1 eb
                replace eg := cell_be hbq1 eg
                replace hO' := hide (hO'.out.below hbq1)
                replace hW' := hide (hW'.out.trans (hbq1.mono zw))
                replace zw1 : w.heap.size + 1 ≤ wq1.heap.size := Nat.le_trans zw1 hbq1.size
                go_wp2
                go_quiet (fail)
                have hbq2 := below_drewN (Below.refl wq1.heap.size wq1) nq
                obtain ⟨wq2, hwq⟩ : ∃ wq, wq1.drewN nq = wq := ⟨_, rfl⟩
                rw [hwq] at hbq2 ⊢
                clear hwq
                replace f0 := cell_be hbq2 f0
                replace k1 := cell_be hbq2 k1
                replace k2 := cell_be hbq2 k2
                replace hO' := hide (hO'.out.below hbq2)
                replace hW' := hide (hW'.out.trans (hbq2.mono hW'.out.size))
                replace zw1 : w.heap.size + 1 ≤ wq2.heap.size := Nat.le_trans zw1 hbq2.size
                have hba := bl1 wq2 (.cells #[.int .i64 v] 2)
                have hOa := hide (hO'.out.below hba)
                have hF5 := hide (And.intro (cell_be hba f0) (And.intro (cell_be hba k1) (cell_be hba k2)))
                have hB5 := hW'.out.trans (hba.mono hW'.out.size)
                have hz6 : w.heap.size + 1 ≤ (wq2.alloc (.cells #[.int .i64 v] 2)).heap.size := by simp; omega
                clear hO' hba k1 k2 hW' vT1
                go_wp2_with (at_builtin; refine wp_append rfl _ _ rfl (w.heap.size + 1) _ t _ (tab t (txF p xs ys f)) rfl (tab_len _ _).symm hOa.out _ 1 1 [v] rfl (litSL wq2 v) (by omega) hz6 ?_; intro ad' cap' w7 hown hb7)
                have Hown := hide (show Own (w.heap.size + 1) w7 ad' cap' (tab (t + 1) (txF p xs ys f)) by have q := hown; rwa [← Hv.out, tab_snoc] at q)
                have cb : ∀ {o : Nat} {v' : Value}, (wq2.alloc (.cells #[.int .i64 v] 2)).cell? ⟨w.heap.size, o, none⟩ = some v' → w7.cell? ⟨w.heap.size, o, none⟩ = some v' := fun h => (hb7.cell (Nat.lt_succ_self _)).trans h
                have hF7 := hide (And.intro (cb hF5.out.1) (And.intro (cb hF5.out.2.1) (cb hF5.out.2.2)))
                have hW7 := hide (hB5.trans (hb7.mono (Nat.le_succ _)))
                clear hown hb7 cb hF5 hOa hB5
                go_roundw
                case rel => exact ⟨t + 1, ad', cap', by omega, by go_num, by rw [tab_len], Hown, hW7, hF7⟩
                case measure => simp [intOf]; omega
              · have ip : (0 : Int) < (t : Int) := by omega
                obtain ⟨T0, hT0⟩ : ∃ T0, T0 = t - 1 := ⟨_, rfl⟩
                have vT0 : IntKind.i64.wrap ((t : Int) - 1) = (T0 : Int) := by rw [show (t : Int) - 1 = (T0 : Int) by omega]; exact IntWalk.i64_in _ (by omega)
                have iT0 : (T0 : Int) < (q1 : Int) := by omega
                have ep := hc3 T0 (by omega)
                have rp := getD_rng HFA.out hp T0
                obtain ⟨s0, hs0⟩ : ∃ s0, f.getD T0 0 = s0 := ⟨_, rfl⟩
                rw [hs0] at ep rp
                have h0 : shF (cf f) t = s0 := by unfold shF cf; rw [if_neg (by omega), ← hT0, hs0]
                have ia : (t : Int) < (q1 : Int) := by omega
                have ia2 : (t : Int) < (m : Int) := by omega
                have ea := hc1 t (by omega)
                have ef := hc3 t (by omega)
                have rx := getD_rng HX.out hp t
                have rf := getD_rng HFA.out hp t
                obtain ⟨x, hx⟩ : ∃ x, xs.getD t 0 = x := ⟨_, rfl⟩
                obtain ⟨z, hz'⟩ : ∃ z, f.getD t 0 = z := ⟨_, rfl⟩
                rw [hx] at ea rx
                rw [hz'] at ef rf
                obtain ⟨m1, m2⟩ := mulb rx.1 rx.2 rf.1 rf.2 hp2
                have h1 : cf xs t * cf f t = x * z := by unfold cf; rw [hx, hz']
                have va : IntKind.i64.wrap (x * z) = x * z := IntWalk.i64_in _ (by omega)
                have vs1 : IntKind.i64.wrap (s0 + x * z) = s0 + x * z := IntWalk.i64_in _ (by omega)
                clear hx hz'
                obtain ⟨T1, hT1⟩ : ∃ T1, T1 = t + 1 := ⟨_, rfl⟩
                have vT1 : IntKind.i64.wrap ((t : Int) + 1) = (T1 : Int) := by rw [show (t : Int) + 1 = (T1 : Int) by omega]; exact IntWalk.i64_in _ (by omega)
                have ib : ¬ (T1 : Int) < (q1 : Int) := by omega
                have h2 : cf ys (t + 1) * cf f (t + 1) = 0 := by rw [show cf f (t + 1) = 0 from cf_far (by rw [hl3.out]; omega), Int.mul_zero]
                have hF := hide (show txF p xs ys f t = (s0 + x * z) % p by unfold txF tmx; rw [h0, h1, h2]; try simp only [Int.zero_add, Int.add_zero])
                have vt : ((s0 + x * z)).tmod p = (s0 + x * z) % p := Int.tmod_eq_emod_of_nonneg (by omega)
                rw [← hF.out] at vt
                obtain ⟨v, hv⟩ : ∃ v, txF p xs ys f t = v := ⟨_, rfl⟩
                rw [hv] at vt
                have Hv := hide hv
                have hO' := hO
                have hW' := hW
                clear hc1 hc2 hc3 h0 h1 h2 hv hF hT1 hE hO hW
                clear hT0 hs0
                go_wp2
                go_quiet (fail)
                have hbq1 := below_drewN (Below.refl wr.heap.size wr) nq
                obtain ⟨wq1, hwq⟩ : ∃ wq, wr.drewN nq = wq := ⟨_, rfl⟩
                rw [hwq] at hbq1 ⊢
                clear hwq
                replace f0 := cell_be hbq1 f0
                replace k1 := cell_be hbq1 k1
                replace k2 := cell_be hbq1 k2
                replace hO' := hide (hO'.out.below hbq1)
                replace hW' := hide (hW'.out.trans (hbq1.mono zw))
                replace zw1 : w.heap.size + 1 ≤ wq1.heap.size := Nat.le_trans zw1 hbq1.size
                have hba := bl1 wq1 (.cells #[.int .i64 v] 2)
                have hOa := hide (hO'.out.below hba)
                have hF5 := hide (And.intro (cell_be hba f0) (And.intro (cell_be hba k1) (cell_be hba k2)))
                have hB5 := hW'.out.trans (hba.mono hW'.out.size)
                have hz6 : w.heap.size + 1 ≤ (wq1.alloc (.cells #[.int .i64 v] 2)).heap.size := by simp; omega
                clear hO' hba k1 k2 hW' vT1
                go_wp2_with (at_builtin; refine wp_append rfl _ _ rfl (w.heap.size + 1) _ t _ (tab t (txF p xs ys f)) rfl (tab_len _ _).symm hOa.out _ 1 1 [v] rfl (litSL wq1 v) (by omega) hz6 ?_; intro ad' cap' w7 hown hb7)
                have Hown := hide (show Own (w.heap.size + 1) w7 ad' cap' (tab (t + 1) (txF p xs ys f)) by have q := hown; rwa [← Hv.out, tab_snoc] at q)
                have cb : ∀ {o : Nat} {v' : Value}, (wq1.alloc (.cells #[.int .i64 v] 2)).cell? ⟨w.heap.size, o, none⟩ = some v' → w7.cell? ⟨w.heap.size, o, none⟩ = some v' := fun h => (hb7.cell (Nat.lt_succ_self _)).trans h
                have hF7 := hide (And.intro (cb hF5.out.1) (And.intro (cb hF5.out.2.1) (cb hF5.out.2.2)))
                have hW7 := hide (hB5.trans (hb7.mono (Nat.le_succ _)))
                clear hown hb7 cb hF5 hOa hB5
                go_roundw
                case rel => exact ⟨t + 1, ad', cap', by omega, by go_num, by rw [tab_len], Hown, hW7, hF7⟩
                case measure => simp [intOf]; omega
            · have ip : (0 : Int) < (t : Int) := by omega
              obtain ⟨T0, hT0⟩ : ∃ T0, T0 = t - 1 := ⟨_, rfl⟩
              have vT0 : IntKind.i64.wrap ((t : Int) - 1) = (T0 : Int) := by rw [show (t : Int) - 1 = (T0 : Int) by omega]; exact IntWalk.i64_in _ (by omega)
              have iT0 : (T0 : Int) < (q1 : Int) := by omega
              have ep := hc3 T0 (by omega)
              have rp := getD_rng HFA.out hp T0
              obtain ⟨s0, hs0⟩ : ∃ s0, f.getD T0 0 = s0 := ⟨_, rfl⟩
              rw [hs0] at ep rp
              have h0 : shF (cf f) t = s0 := by unfold shF cf; rw [if_neg (by omega), ← hT0, hs0]
              have ia : ¬ (t : Int) < (q1 : Int) := by omega
              have h1 : cf xs t * cf f t = 0 := by rw [show cf f t = 0 from cf_far (by rw [hl3.out]; omega), Int.mul_zero]
              obtain ⟨T1, hT1⟩ : ∃ T1, T1 = t + 1 := ⟨_, rfl⟩
              have vT1 : IntKind.i64.wrap ((t : Int) + 1) = (T1 : Int) := by rw [show (t : Int) + 1 = (T1 : Int) by omega]; exact IntWalk.i64_in _ (by omega)
              have ib : ¬ (T1 : Int) < (q1 : Int) := by omega
              have h2 : cf ys (t + 1) * cf f (t + 1) = 0 := by rw [show cf f (t + 1) = 0 from cf_far (by rw [hl3.out]; omega), Int.mul_zero]
              have hF := hide (show txF p xs ys f t = s0 % p by unfold txF tmx; rw [h0, h1, h2]; try simp only [Int.zero_add, Int.add_zero])
              have vt : (s0).tmod p = s0 % p := Int.tmod_eq_emod_of_nonneg (by omega)
              rw [← hF.out] at vt
              obtain ⟨v, hv⟩ : ∃ v, txF p xs ys f t = v := ⟨_, rfl⟩
              rw [hv] at vt
              have Hv := hide hv
              have hO' := hO
              have hW' := hW
              clear hc1 hc2 hc3 h0 h1 h2 hv hF hT1 hE hO hW
              clear hT0 hs0
              have hba := bl1 wr (.cells #[.int .i64 v] 2)
              have hOa := hide (hO'.out.below hba)
              have hF5 := hide (And.intro (cell_be hba f0) (And.intro (cell_be hba k1) (cell_be hba k2)))
              have hB5 := hW'.out.trans (hba.mono hW'.out.size)
              have hz6 : w.heap.size + 1 ≤ (wr.alloc (.cells #[.int .i64 v] 2)).heap.size := by simp; omega
              clear hO' hba k1 k2 hW' vT1
              go_wp2_with (at_builtin; refine wp_append rfl _ _ rfl (w.heap.size + 1) _ t _ (tab t (txF p xs ys f)) rfl (tab_len _ _).symm hOa.out _ 1 1 [v] rfl (litSL wr v) (by omega) hz6 ?_; intro ad' cap' w7 hown hb7)
              have Hown := hide (show Own (w.heap.size + 1) w7 ad' cap' (tab (t + 1) (txF p xs ys f)) by have q := hown; rwa [← Hv.out, tab_snoc] at q)
              have cb : ∀ {o : Nat} {v' : Value}, (wr.alloc (.cells #[.int .i64 v] 2)).cell? ⟨w.heap.size, o, none⟩ = some v' → w7.cell? ⟨w.heap.size, o, none⟩ = some v' := fun h => (hb7.cell (Nat.lt_succ_self _)).trans h
              have hF7 := hide (And.intro (cb hF5.out.1) (And.intro (cb hF5.out.2.1) (cb hF5.out.2.2)))
              have hW7 := hide (hB5.trans (hb7.mono (Nat.le_succ _)))
              clear hown hb7 cb hF5 hOa hB5
              go_roundw
              case rel => exact ⟨t + 1, ad', cap', by omega, by go_num, by rw [tab_len], Hown, hW7, hF7⟩
              case measure => simp [intOf]; omega
          · by_cases hB : t + 1 < q1
            · have ip : ¬ (0 : Int) < (t : Int) := by omega
              have h0 : shF (cf f) t = 0 := by unfold shF; rw [if_pos (by omega)]
              have rp : (0 : Int) ≤ 0 ∧ (0 : Int) < p := by omega
              have ia : (t : Int) < (q1 : Int) := by omega
              have ia2 : (t : Int) < (m : Int) := by omega
              have ea := hc1 t (by omega)
              have ef := hc3 t (by omega)
              have rx := getD_rng HX.out hp t
              have rf := getD_rng HFA.out hp t
              obtain ⟨x, hx⟩ : ∃ x, xs.getD t 0 = x := ⟨_, rfl⟩
              obtain ⟨z, hz'⟩ : ∃ z, f.getD t 0 = z := ⟨_, rfl⟩
              rw [hx] at ea rx
              rw [hz'] at ef rf
              obtain ⟨m1, m2⟩ := mulb rx.1 rx.2 rf.1 rf.2 hp2
              have h1 : cf xs t * cf f t = x * z := by unfold cf; rw [hx, hz']
              have va : IntKind.i64.wrap (x * z) = x * z := IntWalk.i64_in _ (by omega)
              have vs1 : IntKind.i64.wrap (0 + x * z) = x * z := by rw [Int.zero_add]; exact va
              clear hx hz'
              obtain ⟨T1, hT1⟩ : ∃ T1, T1 = t + 1 := ⟨_, rfl⟩
              have vT1 : IntKind.i64.wrap ((t : Int) + 1) = (T1 : Int) := by rw [show (t : Int) + 1 = (T1 : Int) by omega]; exact IntWalk.i64_in _ (by omega)
              have ib : (T1 : Int) < (q1 : Int) := by omega
              have ib2 : (T1 : Int) < (m : Int) := by omega
              have eb := hc2 T1 (by omega)
              have eg := hc3 T1 (by omega)
              have ry := getD_rng HY.out hp T1
              have rg := getD_rng HFA.out hp T1
              obtain ⟨y', hy'⟩ : ∃ y, ys.getD T1 0 = y := ⟨_, rfl⟩
              obtain ⟨u, hu⟩ : ∃ u, f.getD T1 0 = u := ⟨_, rfl⟩
              rw [hy'] at eb ry
              rw [hu] at eg rg
              obtain ⟨m3, m4⟩ := mulb ry.1 ry.2 rg.1 rg.2 hp2
              have h2 : cf ys (t + 1) * cf f (t + 1) = y' * u := by unfold cf; rw [← hT1, hy', hu]
              have vb : IntKind.i64.wrap (y' * u) = y' * u := IntWalk.i64_in _ (by omega)
              have vs2 : IntKind.i64.wrap ((x * z) + y' * u) = (x * z) + y' * u := IntWalk.i64_in _ (by omega)
              clear hy' hu
              have hF := hide (show txF p xs ys f t = ((x * z) + y' * u) % p by unfold txF tmx; rw [h0, h1, h2]; try simp only [Int.zero_add, Int.add_zero])
              have vt : (((x * z) + y' * u)).tmod p = ((x * z) + y' * u) % p := Int.tmod_eq_emod_of_nonneg (by omega)
              rw [← hF.out] at vt
              obtain ⟨v, hv⟩ : ∃ v, txF p xs ys f t = v := ⟨_, rfl⟩
              rw [hv] at vt
              have Hv := hide hv
              have hO' := hO
              have hW' := hW
              clear hc1 hc2 hc3 h0 h1 h2 hv hF hT1 hE hO hW
              go_wp2
              go_quiet (fail)
              have hbq1 := below_drewN (Below.refl wr.heap.size wr) nq
              obtain ⟨wq1, hwq⟩ : ∃ wq, wr.drewN nq = wq := ⟨_, rfl⟩
              rw [hwq] at hbq1 ⊢
              clear hwq
              replace f0 := cell_be hbq1 f0
              replace k1 := cell_be hbq1 k1
              replace k2 := cell_be hbq1 k2
              replace eb := cell_be hbq1 eb
              replace eg := cell_be hbq1 eg
              replace hO' := hide (hO'.out.below hbq1)
              replace hW' := hide (hW'.out.trans (hbq1.mono zw))
              replace zw1 : w.heap.size + 1 ≤ wq1.heap.size := Nat.le_trans zw1 hbq1.size
              go_wp2
              go_quiet (fail)
              have hbq2 := below_drewN (Below.refl wq1.heap.size wq1) nq
              obtain ⟨wq2, hwq⟩ : ∃ wq, wq1.drewN nq = wq := ⟨_, rfl⟩
              rw [hwq] at hbq2 ⊢
              clear hwq
              replace f0 := cell_be hbq2 f0
              replace k1 := cell_be hbq2 k1
              replace k2 := cell_be hbq2 k2
              replace hO' := hide (hO'.out.below hbq2)
              replace hW' := hide (hW'.out.trans (hbq2.mono hW'.out.size))
              replace zw1 : w.heap.size + 1 ≤ wq2.heap.size := Nat.le_trans zw1 hbq2.size
              have hba := bl1 wq2 (.cells #[.int .i64 v] 2)
              have hOa := hide (hO'.out.below hba)
              have hF5 := hide (And.intro (cell_be hba f0) (And.intro (cell_be hba k1) (cell_be hba k2)))
              have hB5 := hW'.out.trans (hba.mono hW'.out.size)
              have hz6 : w.heap.size + 1 ≤ (wq2.alloc (.cells #[.int .i64 v] 2)).heap.size := by simp; omega
              clear hO' hba k1 k2 hW' vT1
              go_wp2_with (at_builtin; refine wp_append rfl _ _ rfl (w.heap.size + 1) _ t _ (tab t (txF p xs ys f)) rfl (tab_len _ _).symm hOa.out _ 1 1 [v] rfl (litSL wq2 v) (by omega) hz6 ?_; intro ad' cap' w7 hown hb7)
              have Hown := hide (show Own (w.heap.size + 1) w7 ad' cap' (tab (t + 1) (txF p xs ys f)) by have q := hown; rwa [← Hv.out, tab_snoc] at q)
              have cb : ∀ {o : Nat} {v' : Value}, (wq2.alloc (.cells #[.int .i64 v] 2)).cell? ⟨w.heap.size, o, none⟩ = some v' → w7.cell? ⟨w.heap.size, o, none⟩ = some v' := fun h => (hb7.cell (Nat.lt_succ_self _)).trans h
              have hF7 := hide (And.intro (cb hF5.out.1) (And.intro (cb hF5.out.2.1) (cb hF5.out.2.2)))
              have hW7 := hide (hB5.trans (hb7.mono (Nat.le_succ _)))
              clear hown hb7 cb hF5 hOa hB5
              go_roundw
              case rel => exact ⟨t + 1, ad', cap', by omega, by go_num, by rw [tab_len], Hown, hW7, hF7⟩
              case measure => simp [intOf]; omega
            · have ip : ¬ (0 : Int) < (t : Int) := by omega
              have h0 : shF (cf f) t = 0 := by unfold shF; rw [if_pos (by omega)]
              have rp : (0 : Int) ≤ 0 ∧ (0 : Int) < p := by omega
              have ia : (t : Int) < (q1 : Int) := by omega
              have ia2 : (t : Int) < (m : Int) := by omega
              have ea := hc1 t (by omega)
              have ef := hc3 t (by omega)
              have rx := getD_rng HX.out hp t
              have rf := getD_rng HFA.out hp t
              obtain ⟨x, hx⟩ : ∃ x, xs.getD t 0 = x := ⟨_, rfl⟩
              obtain ⟨z, hz'⟩ : ∃ z, f.getD t 0 = z := ⟨_, rfl⟩
              rw [hx] at ea rx
              rw [hz'] at ef rf
              obtain ⟨m1, m2⟩ := mulb rx.1 rx.2 rf.1 rf.2 hp2
              have h1 : cf xs t * cf f t = x * z := by unfold cf; rw [hx, hz']
              have va : IntKind.i64.wrap (x * z) = x * z := IntWalk.i64_in _ (by omega)
              have vs1 : IntKind.i64.wrap (0 + x * z) = x * z := by rw [Int.zero_add]; exact va
              clear hx hz'
              obtain ⟨T1, hT1⟩ : ∃ T1, T1 = t + 1 := ⟨_, rfl⟩
              have vT1 : IntKind.i64.wrap ((t : Int) + 1) = (T1 : Int) := by rw [show (t : Int) + 1 = (T1 : Int) by omega]; exact IntWalk.i64_in _ (by omega)
              have ib : ¬ (T1 : Int) < (q1 : Int) := by omega
              have h2 : cf ys (t + 1) * cf f (t + 1) = 0 := by rw [show cf f (t + 1) = 0 from cf_far (by rw [hl3.out]; omega), Int.mul_zero]
              have hF := hide (show txF p xs ys f t = (x * z) % p by unfold txF tmx; rw [h0, h1, h2]; try simp only [Int.zero_add, Int.add_zero])
              have vt : ((x * z)).tmod p = (x * z) % p := Int.tmod_eq_emod_of_nonneg (by omega)
              rw [← hF.out] at vt
              obtain ⟨v, hv⟩ : ∃ v, txF p xs ys f t = v := ⟨_, rfl⟩
              rw [hv] at vt
              have Hv := hide hv
              have hO' := hO
              have hW' := hW
              clear hc1 hc2 hc3 h0 h1 h2 hv hF hT1 hE hO hW
              go_wp2
              go_quiet (fail)
              have hbq1 := below_drewN (Below.refl wr.heap.size wr) nq
              obtain ⟨wq1, hwq⟩ : ∃ wq, wr.drewN nq = wq := ⟨_, rfl⟩
              rw [hwq] at hbq1 ⊢
              clear hwq
              replace f0 := cell_be hbq1 f0
              replace k1 := cell_be hbq1 k1
              replace k2 := cell_be hbq1 k2
              replace hO' := hide (hO'.out.below hbq1)
              replace hW' := hide (hW'.out.trans (hbq1.mono zw))
              replace zw1 : w.heap.size + 1 ≤ wq1.heap.size := Nat.le_trans zw1 hbq1.size
              have hba := bl1 wq1 (.cells #[.int .i64 v] 2)
              have hOa := hide (hO'.out.below hba)
              have hF5 := hide (And.intro (cell_be hba f0) (And.intro (cell_be hba k1) (cell_be hba k2)))
              have hB5 := hW'.out.trans (hba.mono hW'.out.size)
              have hz6 : w.heap.size + 1 ≤ (wq1.alloc (.cells #[.int .i64 v] 2)).heap.size := by simp; omega
              clear hO' hba k1 k2 hW' vT1
              go_wp2_with (at_builtin; refine wp_append rfl _ _ rfl (w.heap.size + 1) _ t _ (tab t (txF p xs ys f)) rfl (tab_len _ _).symm hOa.out _ 1 1 [v] rfl (litSL wq1 v) (by omega) hz6 ?_; intro ad' cap' w7 hown hb7)
              have Hown := hide (show Own (w.heap.size + 1) w7 ad' cap' (tab (t + 1) (txF p xs ys f)) by have q := hown; rwa [← Hv.out, tab_snoc] at q)
              have cb : ∀ {o : Nat} {v' : Value}, (wq1.alloc (.cells #[.int .i64 v] 2)).cell? ⟨w.heap.size, o, none⟩ = some v' → w7.cell? ⟨w.heap.size, o, none⟩ = some v' := fun h => (hb7.cell (Nat.lt_succ_self _)).trans h
              have hF7 := hide (And.intro (cb hF5.out.1) (And.intro (cb hF5.out.2.1) (cb hF5.out.2.2)))
              have hW7 := hide (hB5.trans (hb7.mono (Nat.le_succ _)))
              clear hown hb7 cb hF5 hOa hB5
              go_roundw
              case rel => exact ⟨t + 1, ad', cap', by omega, by go_num, by rw [tab_len], Hown, hW7, hF7⟩
              case measure => simp [intOf]; omega
        · have htm2 : Hid (t = q1 + 1) := hide (by omega)
          have hge : ¬ (t : Int) ≤ (q1 : Int) := by omega
          go_wp2
          refine bodyPost_ret (v := .tuple #[.slice a' t c', .int .i64 0]) (by simp [results, Try.results40, go_sem]) rfl ?_
          exact Res1.own HC.out (by rw [HV.out, tab_len, htm2.out]) (by rw [HV.out, ← htm2.out]; exact hO.out.mono (by omega)) (by rw [HV.out, tab_len]; omega) hW.out
end Go.Proofs.Ytgaafhcnfeipbaa
