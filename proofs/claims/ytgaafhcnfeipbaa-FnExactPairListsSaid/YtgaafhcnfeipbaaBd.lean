/- Contracts: checkLists (program), l10List (model); SumBy, ValueBy (both). -/
import Derived.Test.YtgaafhcnfeipbaaBc
import Derived.Test.YtgaafhcnfeipbaaJc
import Derived.Test.YtgaafhcnfeipbaaAm
namespace Go.Proofs.Ytgaafhcnfeipbaa
open Go.RowKit
set_option linter.unusedVariables false
set_option linter.unusedSimpArgs false

/-- a list of at most so many numbers modulo p -/
def okR (p most : Int) (f : List Int) : Bool := decide ((f.length : Int) ≤ most) && areB p f
def chlB (p most : Int) (X : Nat → List Int) : Nat → Bool
  | 0 => true
  | k + 1 => chlB p most X k && okR p most (X k)
theorem chlB_false (p most : Int) (X : Nat → List Int) (n k : Nat) (hk : k < n) (h : okR p most (X k) = false) : chlB p most X n = false := by
  induction n with
  | zero => omega
  | succ n ih =>
    unfold chlB
    by_cases e : k = n
    · subst e; simp [h]
    · rw [ih (by omega)]; rfl
def chlC (p : Int) (xs ys : List Int) (most : Int) (X : Nat → List Int) (n : Nat) : Int := if jacB p xs ys then (if chlB p most X n then 0 else 2) else 1
def lstC (p : Int) (xs ys : List Int) (most : Int) (f : List Int) : Int := if jacB p xs ys then (if okR p most f then 0 else 2) else 1
theorem lstC_cases (p : Int) (xs ys : List Int) (most : Int) (f : List Int) : lstC p xs ys most f = 1 ∨ lstC p xs ys most f = 2 ∨ (lstC p xs ys most f = 0 ∧ jacB p xs ys = true ∧ (f.length : Int) ≤ most ∧ areB p f = true) := by
  unfold lstC
  cases jacB p xs ys
  · exact .inl rfl
  · cases h : okR p most f
    · exact .inr (.inl rfl)
    · refine .inr (.inr ⟨rfl, rfl, ?_⟩)
      unfold okR at h
      simpa using h
theorem Lists.one {w : World} {g : Nat} {f1 : Option Addr} {q1 c1 : Nat} {f : List Int} (h : w.cell? ⟨g, 0, none⟩ = some (.slice f1 q1 c1)) (hf : SL w f1 q1 c1 f) (hq : q1 ≤ 4000000) : Lists w g 1 (fun _ => f1) (fun _ => q1) (fun _ => c1) (fun _ => f) :=
  fun j hj => ⟨by rw [show j = 0 by omega]; exact h, hf, hq⟩
set_option maxRecDepth 100000 in
set_option maxHeartbeats 1600000 in
theorem checkLists_any (p : Int) (a : Option Addr) (n c : Nat) (xs : List Int) (b : Option Addr) (m d : Nat) (ys : List Int) (most : Int) (g N cc : Nat) (A : Nat → Option Addr) (L C : Nat → Nat) (X : Nat → List Int) (w : World) (hs : SL w a n c xs) (ht : SL w b m d ys) (hL : Lists w g N A L C X) (hN : N ≤ 100) (hn : n ≤ 4000000) (hm : m ≤ 4000000) :
    Calls Try.prog 57 #[jac p a n c b m d, .int .i64 most, .slice (some ⟨g, 0, none⟩) N cc] w fun e w' => e = .returned (.int .i64 (chlC p xs ys most X N)) ∧ Below w.heap.size w w' := by
  have hb0 := bl1 w (.cells #[.int .i64 p, .slice a n c, .slice b m d] 24)
  have g1 := hs.below hb0
  have g2 := ht.below hb0
  cases hj : jacB p xs ys
  · have H := hide (show chlC p xs ys most X N = 1 by simp [chlC, hj])
    have Hj := hide hj
    clear hj
    go_enter Try.func57, Try.ntmps57
    go_wp2_with fail
    refine (implIsJacobi _ _ _ _ _ _ _ _ _ _ g1 g2 hn hm).mono ?_
    rintro e w1 ⟨rfl, t1⟩
    rw [Hj.out]
    go_wp2
    go_ret
    exact ⟨ret_int H.out.symm, bnext hb0 t1⟩
  have HE := hide (show chlC p xs ys most X N = if chlB p most X N then 0 else 2 by simp [chlC, hj])
  have Hj := hide hj
  have g3 := hL.below hb0
  clear hj
  go_enter Try.func57, Try.ntmps57
  go_wp2_with fail
  refine (implIsJacobi _ _ _ _ _ _ _ _ _ _ g1 g2 hn hm).mono ?_
  rintro e w1 ⟨rfl, t1⟩
  rw [Hj.out]
  have B1 := bnext hb0 t1
  have e0 : w1.cell? ⟨w.heap.size, 0, none⟩ = some (.int .i64 p) := cell_be t1 (by simp [go_sem])
  have g4 := g3.below t1
  clear g1 g2 g3 hb0 t1
  go_wp2
  go_loop [14] (fun i => ∃ k : Nat, k ≤ N ∧ i = .int .i64 k ∧ Hid (chlB p most X k = true)) (fun i => N - (intOf i).toNat)
  case atStart => exact ⟨0, by omega, rfl, hide rfl⟩
  case round =>
    obtain ⟨k, hk, rfl, hR⟩ := hrel
    by_cases hlt : k < N
    · have hlt' : (k : Int) < (N : Int) := by omega
      obtain ⟨h1, h2, h3⟩ := g4 k hlt
      have hlen := h2.len
      by_cases hq : most < (L k : Int)
      · have hF := Lib.hid (show chlC p xs ys most X N = 2 by
          rw [HE.out, chlB_false p most X N k hlt (by unfold okR; rw [hlen]; simp; omega)]; rfl)
        clear hlen
        go_wp2
        go_ret
        exact ⟨ret_int hF.out.symm, B1⟩
      · cases hb : areB p (X k)
        · have hF := Lib.hid (show chlC p xs ys most X N = 2 by
            rw [HE.out, chlB_false p most X N k hlt (by unfold okR; rw [hb]; simp)]; rfl)
          have Hb := hide hb
          clear hlen hb
          go_wp2_with fail
          refine (areNumbers_any _ _ _ _ _ _ h2 h3).mono ?_
          rintro e w2 ⟨rfl, rfl⟩
          rw [Hb.out]
          go_wp2
          go_ret
          exact ⟨ret_int hF.out.symm, B1⟩
        · have hF := Lib.hid (show chlB p most X (k + 1) = true by unfold chlB okR; rw [hR.out, hb, hlen]; simp; omega)
          have Hb := hide hb
          clear hlen hb
          go_wp2_with fail
          refine (areNumbers_any _ _ _ _ _ _ h2 h3).mono ?_
          rintro e w2 ⟨rfl, rfl⟩
          rw [Hb.out]
          go_wp2
          go_round
          case rel => exact ⟨k + 1, by omega, by go_num, hF⟩
          case measure => simp [intOf]; omega
    · have hkN : Hid (k = N) := hide (by omega)
      have hge : ¬ (k : Int) < (N : Int) := by omega
      have hF := Lib.hid (show chlC p xs ys most X N = 0 by rw [HE.out, ← hkN.out, hR.out]; rfl)
      go_wp2
      go_ret
      exact ⟨ret_int hF.out.symm, B1⟩
theorem checkLists_one (p : Int) (a : Option Addr) (n c : Nat) (xs : List Int) (b : Option Addr) (m d : Nat) (ys : List Int) (most : Int) (g cc : Nat) (f1 : Option Addr) (q1 c1 : Nat) (f : List Int) (C : Int) (w : World) (hs : SL w a n c xs) (ht : SL w b m d ys) (hL : Lists w g 1 (fun _ => f1) (fun _ => q1) (fun _ => c1) (fun _ => f)) (hn : n ≤ 4000000) (hm : m ≤ 4000000) (hC : lstC p xs ys most f = C) :
    Calls Try.prog 57 #[jac p a n c b m d, .int .i64 most, .slice (some ⟨g, 0, none⟩) 1 cc] w fun e w' => e = .returned (.int .i64 C) ∧ Below w.heap.size w w' := by
  have h := checkLists_any p a n c xs b m d ys most g 1 cc _ _ _ _ w hs ht hL (by omega) hn hm
  rw [show chlC p xs ys most (fun _ => f) 1 = C by rw [← hC]; unfold chlC lstC chlB chlB; simp] at h
  exact h
set_option maxRecDepth 100000 in
set_option maxHeartbeats 1600000 in
theorem l10List_any (p : Int) (a : Option Addr) (n c : Nat) (xs : List Int) (b : Option Addr) (m d : Nat) (ys : List Int) (f1 : Option Addr) (q1 c1 : Nat) (f : List Int) (more : Int) (C : Int) (w : World) (hs : SL w a n c xs) (ht : SL w b m d ys) (hf : SL w f1 q1 c1 f) (hn : n ≤ 4000000) (hm : m ≤ 4000000) (hq : q1 ≤ 4000000) (r0 : 0 ≤ more) (r1 : more ≤ 1000) (hC : lstC p xs ys ((n : Int) + more) f = C) :
    Calls Try.prog 56 #[jac p a n c b m d, .slice f1 q1 c1, .int .i64 more] w fun e w' => e = .returned (.int .i64 C) ∧ Below w.heap.size w w' := by
  subst hC
  have hl := hide hf.len
  have hb0 := bl1 w (.cells #[.int .i64 p, .slice a n c, .slice b m d] 24)
  have g1 := hs.below hb0
  have g2 := ht.below hb0
  have v1 : IntKind.i64.wrap ((n : Int) + more) = (n : Int) + more := IntWalk.i64_in _ (by omega)
  cases hj : jacB p xs ys
  · have H := hide (show lstC p xs ys ((n : Int) + more) f = 1 by simp [lstC, hj])
    have Hj := hide hj
    clear hj
    go_enter Try.func56, Try.ntmps56
    go_wp2_with fail
    refine (l03Is_any _ _ _ _ _ _ _ _ _ _ g1 g2 hn hm).mono ?_
    rintro e w1 ⟨rfl, t1⟩
    rw [Hj.out]
    go_wp2
    go_ret
    exact ⟨ret_int H.out.symm, bnext hb0 t1⟩
  have Hj := hide hj
  obtain ⟨hpr, _⟩ := jacB_rng hj
  obtain ⟨hp, hp2⟩ := primeB_lo hpr
  by_cases hq2 : (n : Int) + more < (q1 : Int)
  · have H := hide (show lstC p xs ys ((n : Int) + more) f = 2 by
      unfold lstC okR; rw [hj, hl.out, decide_eq_false (by omega)]; rfl)
    clear hj hpr
    go_enter Try.func56, Try.ntmps56
    go_wp2_with fail
    refine (l03Is_any _ _ _ _ _ _ _ _ _ _ g1 g2 hn hm).mono ?_
    rintro e w1 ⟨rfl, t1⟩
    rw [Hj.out]
    have e1 : w1.cell? ⟨w.heap.size, 1, none⟩ = some (.slice a n c) := cell_be t1 (by simp [go_sem])
    have B1 := bnext hb0 t1
    clear t1 hb0
    go_wp2
    go_ret
    exact ⟨ret_int H.out.symm, B1⟩
  have Hp0 : Hid (lstC p xs ys ((n : Int) + more) f = if areB p f then 0 else 2) := hide (by
    unfold lstC okR; rw [hj, hl.out, decide_eq_true (by omega)]; simp)
  clear hj hpr
  cases hb : areB p f
  all_goals
    have Hb := hide hb
    have H := Hp0
    rw [hb] at H
    clear hb
    go_enter Try.func56, Try.ntmps56
    go_wp2_with fail
    refine (l03Is_any _ _ _ _ _ _ _ _ _ _ g1 g2 hn hm).mono ?_
    rintro e w1 ⟨rfl, t1⟩
    rw [Hj.out]
    have e0 : w1.cell? ⟨w.heap.size, 0, none⟩ = some (.int .i64 p) := cell_be t1 (by simp [go_sem])
    have e1 : w1.cell? ⟨w.heap.size, 1, none⟩ = some (.slice a n c) := cell_be t1 (by simp [go_sem])
    have B1 := bnext hb0 t1
    have s1 := hf.below B1
    clear t1 hb0
    go_wp2_with fail
    refine (l02Numbers_any _ _ _ _ _ _ s1 hq (by omega) (by omega)).mono ?_
    rintro e w2 ⟨rfl, rfl⟩
    rw [Hb.out]
    go_wp2
    go_ret
    exact ⟨ret_int (by rw [H.out]; rfl), B1⟩
def sbyC (p : Int) (xs ys f : List Int) : Int := lstC p xs ys ((xs.length : Int) + 1) f
def sbyV (p : Int) (xs ys f : List Int) : List Int := if sbyC p xs ys f = 0 then smL p xs ys f f.length else []
def vbyC (p : Int) (xs ys f : List Int) (x : Int) : Int := if sbyC p xs ys f = 0 then (if 0 ≤ x ∧ x < p then 0 else 2) else sbyC p xs ys f
def vbyV (p : Int) (xs ys f : List Int) (x : Int) : Int := if vbyC p xs ys f x = 0 then evM p (smL p xs ys f f.length) x else 0
set_option maxRecDepth 100000 in
set_option maxHeartbeats 1600000 in
theorem implSumBy (p : Int) (a : Option Addr) (n c : Nat) (xs : List Int) (b : Option Addr) (m d : Nat) (ys : List Int) (f1 : Option Addr) (q1 c1 : Nat) (f : List Int) (w : World) (hs : SL w a n c xs) (ht : SL w b m d ys) (hf : SL w f1 q1 c1 f) (hn : n ≤ 4000000) (hm : m ≤ 4000000) (hq : q1 ≤ 4000000) :
    Calls Try.prog 31 #[jac p a n c b m d, .slice f1 q1 c1] w (Res1 w (sbyV p xs ys f) (sbyC p xs ys f)) := by
  have hl := hide hs.len
  have hl2 := hide ht.len
  have hl3 := hide hf.len
  have hb0 := bl1 w (.cells #[.int .i64 p, .slice a n c, .slice b m d] 24)
  have e0 : (w.alloc (.cells #[.int .i64 p, .slice a n c, .slice b m d] 24)).cell? ⟨w.heap.size, 0, none⟩ = some (.int .i64 p) := by simp [go_sem]
  have e1 : (w.alloc (.cells #[.int .i64 p, .slice a n c, .slice b m d] 24)).cell? ⟨w.heap.size, 1, none⟩ = some (.slice a n c) := by simp [go_sem]
  have e2 : (w.alloc (.cells #[.int .i64 p, .slice a n c, .slice b m d] 24)).cell? ⟨w.heap.size, 2, none⟩ = some (.slice b m d) := by simp [go_sem]
  have g1 := hs.below hb0
  have g2 := ht.below hb0
  have g3 := hf.below hb0
  have v1 : IntKind.i64.wrap ((n : Int) + 1) = (n : Int) + 1 := IntWalk.i64_in _ (by omega)
  have zx : w.heap.size + 1 = (w.alloc (.cells #[.int .i64 p, .slice a n c, .slice b m d] 24)).heap.size := by simp
  rcases lstC_cases p xs ys ((xs.length : Int) + 1) f with hc | hc | ⟨hc, hj, hle, hfa⟩
  · have HC := hide (show sbyC p xs ys f = 1 from hc)
    have HV := hide (show sbyV p xs ys f = [] by simp [sbyV, HC.out])
    have HL := hide (show lstC p xs ys ((n : Int) + 1) f = 1 by rw [← hl.out]; exact hc)
    clear hc
    go_enter Try.func31, Try.ntmps31
    go_upto_region 1 with fail
    generalize (w.alloc (.cells #[.int .i64 p, .slice a n c, .slice b m d] 24)) = wx at *
    have hd0 := (Below.refl wx.heap.size wx).drew
    have hd1 : Below wx.heap.size wx (wx.alloc (.cells #[.slice f1 q1 c1] 22)).drew := (bl1 wx _).drew
    have L1 : Lists (wx.alloc (.cells #[.slice f1 q1 c1] 22)).drew wx.heap.size 1 (fun _ => f1) (fun _ => q1) (fun _ => c1) (fun _ => f) := Lists.one (by simp [go_sem]) (g3.below hd1) hq
    have F : ∀ w', Below wx.heap.size wx w' → w'.cell? ⟨w.heap.size, 0, none⟩ = some (.int .i64 p) ∧ w'.cell? ⟨w.heap.size, 1, none⟩ = some (.slice a n c) ∧ w'.cell? ⟨w.heap.size, 2, none⟩ = some (.slice b m d) := fun w' h => ⟨cell_be h e0, cell_be h e1, cell_be h e2⟩
    go_region_held3 (fun w' => w'.cell? ⟨w.heap.size, 0, none⟩ = some (.int .i64 p) ∧ w'.cell? ⟨w.heap.size, 1, none⟩ = some (.slice a n c) ∧ w'.cell? ⟨w.heap.size, 2, none⟩ = some (.slice b m d))
      (first | exact F _ (by assumption) | exact F _ (hm1.alloc (by have := hm1.size; simp at this ⊢; omega) _))
      (first
      | (go_at_call 58; refine (sizeOf_any _ _ _ _ _ _ _ _ hn).mono ?_; rintro e w1 ⟨rfl, hb1⟩; have hm1 := bnext hd1 hb1)
      | (go_at_call 58; refine (sizeOf_any _ _ _ _ _ _ _ _ hn).mono ?_; rintro e w1 ⟨rfl, hb1⟩; have hm1 := bnext hd0 hb1)
      | (go_at_call 57; refine (checkLists_one p a n c xs b m d ys _ _ _ f1 q1 c1 f 1 _ (g1.below hm1) (g2.below hm1) (L1.below hb1) hn hm HL.out).mono ?_; rintro e w2 ⟨rfl, hb2⟩; have hm2 := bnext hm1 hb2)
      | (go_at_call 57; have hm1a := bnext hm1 (bl1 w1 (.cells #[.slice f1 q1 c1] 22)); refine (checkLists_one p a n c xs b m d ys _ _ _ f1 q1 c1 f 1 _ (g1.below hm1a) (g2.below hm1a) (Lists.one (by simp [go_sem]) (g3.below hm1a) hq) hn hm HL.out).mono ?_; rintro e w2 ⟨rfl, hb2⟩; have hm2 := bnext hm1a hb2))
    all_goals
      have hB2 := bnext hb0 hm2
      go_wp2
      go_ret2
      exact Res1.nil HV.out HC.out hB2
  · have HC := hide (show sbyC p xs ys f = 2 from hc)
    have HV := hide (show sbyV p xs ys f = [] by simp [sbyV, HC.out])
    have HL := hide (show lstC p xs ys ((n : Int) + 1) f = 2 by rw [← hl.out]; exact hc)
    clear hc
    go_enter Try.func31, Try.ntmps31
    go_upto_region 1 with fail
    generalize (w.alloc (.cells #[.int .i64 p, .slice a n c, .slice b m d] 24)) = wx at *
    have hd0 := (Below.refl wx.heap.size wx).drew
    have hd1 : Below wx.heap.size wx (wx.alloc (.cells #[.slice f1 q1 c1] 22)).drew := (bl1 wx _).drew
    have L1 : Lists (wx.alloc (.cells #[.slice f1 q1 c1] 22)).drew wx.heap.size 1 (fun _ => f1) (fun _ => q1) (fun _ => c1) (fun _ => f) := Lists.one (by simp [go_sem]) (g3.below hd1) hq
    have F : ∀ w', Below wx.heap.size wx w' → w'.cell? ⟨w.heap.size, 0, none⟩ = some (.int .i64 p) ∧ w'.cell? ⟨w.heap.size, 1, none⟩ = some (.slice a n c) ∧ w'.cell? ⟨w.heap.size, 2, none⟩ = some (.slice b m d) := fun w' h => ⟨cell_be h e0, cell_be h e1, cell_be h e2⟩
    go_region_held3 (fun w' => w'.cell? ⟨w.heap.size, 0, none⟩ = some (.int .i64 p) ∧ w'.cell? ⟨w.heap.size, 1, none⟩ = some (.slice a n c) ∧ w'.cell? ⟨w.heap.size, 2, none⟩ = some (.slice b m d))
      (first | exact F _ (by assumption) | exact F _ (hm1.alloc (by have := hm1.size; simp at this ⊢; omega) _))
      (first
      | (go_at_call 58; refine (sizeOf_any _ _ _ _ _ _ _ _ hn).mono ?_; rintro e w1 ⟨rfl, hb1⟩; have hm1 := bnext hd1 hb1)
      | (go_at_call 58; refine (sizeOf_any _ _ _ _ _ _ _ _ hn).mono ?_; rintro e w1 ⟨rfl, hb1⟩; have hm1 := bnext hd0 hb1)
      | (go_at_call 57; refine (checkLists_one p a n c xs b m d ys _ _ _ f1 q1 c1 f 2 _ (g1.below hm1) (g2.below hm1) (L1.below hb1) hn hm HL.out).mono ?_; rintro e w2 ⟨rfl, hb2⟩; have hm2 := bnext hm1 hb2)
      | (go_at_call 57; have hm1a := bnext hm1 (bl1 w1 (.cells #[.slice f1 q1 c1] 22)); refine (checkLists_one p a n c xs b m d ys _ _ _ f1 q1 c1 f 2 _ (g1.below hm1a) (g2.below hm1a) (Lists.one (by simp [go_sem]) (g3.below hm1a) hq) hn hm HL.out).mono ?_; rintro e w2 ⟨rfl, hb2⟩; have hm2 := bnext hm1a hb2))
    all_goals
      have hB2 := bnext hb0 hm2
      go_wp2
      go_ret2
      exact Res1.nil HV.out HC.out hB2
  · obtain ⟨hpr, n1, n2, n3, hx, hy⟩ := jacB_rng hj
    obtain ⟨hp, hp2⟩ := primeB_lo hpr
    have HJ := hide hj
    have HPR := hide hpr
    have HX := hide hx
    have HY := hide (posB_are hy)
    have HFA := hide hfa
    rw [hl.out] at n1 n2 n3
    rw [hl2.out] at n3
    subst n3
    rw [hl3.out, hl.out] at hle
    have lq : q1 ≤ m + 1 := by omega
    have HL := hide (show lstC p xs ys ((m : Int) + 1) f = 0 by rw [← hl.out]; exact hc)
    have HC := hide (show sbyC p xs ys f = 0 from hc)
    have HV := hide (show sbyV p xs ys f = smL p xs ys f q1 by simp [sbyV, HC.out, hl3.out])
    clear hc hj hpr hx hy hfa hle
    go_enter Try.func31, Try.ntmps31
    go_upto_region 1 with fail
    generalize (w.alloc (.cells #[.int .i64 p, .slice a m c, .slice b m d] 24)) = wx at *
    have hd0 := (Below.refl wx.heap.size wx).drew
    have hd1 : Below wx.heap.size wx (wx.alloc (.cells #[.slice f1 q1 c1] 22)).drew := (bl1 wx _).drew
    have L1 : Lists (wx.alloc (.cells #[.slice f1 q1 c1] 22)).drew wx.heap.size 1 (fun _ => f1) (fun _ => q1) (fun _ => c1) (fun _ => f) := Lists.one (by simp [go_sem]) (g3.below hd1) hq
    have F : ∀ w', Below wx.heap.size wx w' → w'.cell? ⟨w.heap.size, 0, none⟩ = some (.int .i64 p) ∧ w'.cell? ⟨w.heap.size, 1, none⟩ = some (.slice a m c) ∧ w'.cell? ⟨w.heap.size, 2, none⟩ = some (.slice b m d) := fun w' h => ⟨cell_be h e0, cell_be h e1, cell_be h e2⟩
    go_region_held3 (fun w' => w'.cell? ⟨w.heap.size, 0, none⟩ = some (.int .i64 p) ∧ w'.cell? ⟨w.heap.size, 1, none⟩ = some (.slice a m c) ∧ w'.cell? ⟨w.heap.size, 2, none⟩ = some (.slice b m d))
      (first | exact F _ (by assumption) | exact F _ (hm1.alloc (by have := hm1.size; simp at this ⊢; omega) _))
      (first
      | (go_at_call 58; refine (sizeOf_any _ _ _ _ _ _ _ _ hm).mono ?_; rintro e w1 ⟨rfl, hb1⟩; have hm1 := bnext hd1 hb1)
      | (go_at_call 58; refine (sizeOf_any _ _ _ _ _ _ _ _ hm).mono ?_; rintro e w1 ⟨rfl, hb1⟩; have hm1 := bnext hd0 hb1)
      | (go_at_call 57; refine (checkLists_one p a m c xs b m d ys _ _ _ f1 q1 c1 f 0 _ (g1.below hm1) (g2.below hm1) (L1.below hb1) hm hm HL.out).mono ?_; rintro e w2 ⟨rfl, hb2⟩; have hm2 := bnext hm1 hb2)
      | (go_at_call 57; have hm1a := bnext hm1 (bl1 w1 (.cells #[.slice f1 q1 c1] 22)); refine (checkLists_one p a m c xs b m d ys _ _ _ f1 q1 c1 f 0 _ (g1.below hm1a) (g2.below hm1a) (Lists.one (by simp [go_sem]) (g3.below hm1a) hq) hm hm HL.out).mono ?_; rintro e w2 ⟨rfl, hb2⟩; have hm2 := bnext hm1a hb2))
    all_goals
      have hB2 := bnext hb0 hm2
      obtain ⟨f0, k1, k2⟩ := F _ hm2
      go_wp2_with fail
      refine (sumBy_any p a m c xs b d ys f1 q1 c1 f _ (g1.below hm2) (g2.below hm2) (g3.below hm2) n1 n2 lq HPR.out HX.out HY.out HFA.out).mono ?_
      rintro e w3 ⟨a3, c3, rfl, ho, t3⟩
      have hB3 := bnext hB2 t3
      have hsz := (smL_small hp xs ys f q1 (by omega)).2
      have hz := hB2.size
      go_wp2
      go_ret2
      exact Res1.some HC.out (by rw [HV.out]) (by rw [HV.out]; exact ho.mono hz (Nat.le_refl _)) (by rw [HV.out]; omega) hB3
set_option maxRecDepth 100000 in
set_option maxHeartbeats 1600000 in
theorem specSumBy (p : Int) (a : Option Addr) (n c : Nat) (xs : List Int) (b : Option Addr) (m d : Nat) (ys : List Int) (f1 : Option Addr) (q1 c1 : Nat) (f : List Int) (w : World) (hs : SL w a n c xs) (ht : SL w b m d ys) (hf : SL w f1 q1 c1 f) (hn : n ≤ 4000000) (hm : m ≤ 4000000) (hq : q1 ≤ 4000000) :
    Calls Try.prog 30 #[jac p a n c b m d, .slice f1 q1 c1] w (Res1 w (sbyV p xs ys f) (sbyC p xs ys f)) := by
  have hl := hide hs.len
  have hl2 := hide ht.len
  have hl3 := hide hf.len
  have hb0 := bl1 w (.cells #[.int .i64 p, .slice a n c, .slice b m d] 24)
  have e0 : (w.alloc (.cells #[.int .i64 p, .slice a n c, .slice b m d] 24)).cell? ⟨w.heap.size, 0, none⟩ = some (.int .i64 p) := by simp [go_sem]
  have e1 : (w.alloc (.cells #[.int .i64 p, .slice a n c, .slice b m d] 24)).cell? ⟨w.heap.size, 1, none⟩ = some (.slice a n c) := by simp [go_sem]
  have e2 : (w.alloc (.cells #[.int .i64 p, .slice a n c, .slice b m d] 24)).cell? ⟨w.heap.size, 2, none⟩ = some (.slice b m d) := by simp [go_sem]
  have g1 := hs.below hb0
  have g2 := ht.below hb0
  have g3 := hf.below hb0
  have v1 : IntKind.i64.wrap ((n : Int) + 1) = (n : Int) + 1 := IntWalk.i64_in _ (by omega)
  have zx : w.heap.size + 1 = (w.alloc (.cells #[.int .i64 p, .slice a n c, .slice b m d] 24)).heap.size := by simp
  rcases lstC_cases p xs ys ((xs.length : Int) + 1) f with hc | hc | ⟨hc, hj, hle, hfa⟩
  · have HC := hide (show sbyC p xs ys f = 1 from hc)
    have HV := hide (show sbyV p xs ys f = [] by simp [sbyV, HC.out])
    have HL := hide (show lstC p xs ys ((n : Int) + 1) f = 1 by rw [← hl.out]; exact hc)
    clear hc
    go_enter Try.func30, Try.ntmps30
    go_wp2_with fail
    refine (l10List_any p a n c xs b m d ys f1 q1 c1 f 1 1 _ g1 g2 g3 hn hm hq (by omega) (by omega) HL.out).mono ?_
    rintro e w2 ⟨rfl, t2⟩
    have hB2 := bnext hb0 t2
    go_wp2
    go_ret2
    exact Res1.nil HV.out HC.out hB2
  · have HC := hide (show sbyC p xs ys f = 2 from hc)
    have HV := hide (show sbyV p xs ys f = [] by simp [sbyV, HC.out])
    have HL := hide (show lstC p xs ys ((n : Int) + 1) f = 2 by rw [← hl.out]; exact hc)
    clear hc
    go_enter Try.func30, Try.ntmps30
    go_wp2_with fail
    refine (l10List_any p a n c xs b m d ys f1 q1 c1 f 1 2 _ g1 g2 g3 hn hm hq (by omega) (by omega) HL.out).mono ?_
    rintro e w2 ⟨rfl, t2⟩
    have hB2 := bnext hb0 t2
    go_wp2
    go_ret2
    exact Res1.nil HV.out HC.out hB2
  · obtain ⟨hpr, n1, n2, n3, hx, hy⟩ := jacB_rng hj
    obtain ⟨hp, hp2⟩ := primeB_lo hpr
    have HJ := hide hj
    have HPR := hide hpr
    have HX := hide hx
    have HY := hide (posB_are hy)
    have HFA := hide hfa
    rw [hl.out] at n1 n2 n3
    rw [hl2.out] at n3
    subst n3
    rw [hl3.out, hl.out] at hle
    have lq : q1 ≤ m + 1 := by omega
    have HL := hide (show lstC p xs ys ((m : Int) + 1) f = 0 by rw [← hl.out]; exact hc)
    have HC := hide (show sbyC p xs ys f = 0 from hc)
    have HV := hide (show sbyV p xs ys f = smL p xs ys f q1 by simp [sbyV, HC.out, hl3.out])
    clear hc hj hpr hx hy hfa hle
    go_enter Try.func30, Try.ntmps30
    go_wp2_with fail
    refine (l10List_any p a m c xs b m d ys f1 q1 c1 f 1 0 _ g1 g2 g3 hm hm hq (by omega) (by omega) HL.out).mono ?_
    rintro e w2 ⟨rfl, t2⟩
    have hB2 := bnext hb0 t2
    replace e0 := cell_be t2 e0
    replace e1 := cell_be t2 e1
    replace e2 := cell_be t2 e2
    go_wp2_with fail
    refine (l10Sum_any p a m c xs b d ys f1 q1 c1 f _ (g1.below t2) (g2.below t2) (g3.below t2) lq HJ.out HFA.out).mono ?_
    rintro e w3 ⟨a3, c3, rfl, ho, t3⟩
    have hB3 := bnext hB2 t3
    have hsz := (smL_small hp xs ys f q1 (by omega)).2
    have hz := hB2.size
    go_wp2
    go_ret2
    exact Res1.own HC.out (by rw [HV.out]) (by rw [HV.out]; exact ho.mono hz) (by rw [HV.out]; omega) hB3
set_option maxRecDepth 100000 in
set_option maxHeartbeats 1600000 in
theorem implValueBy (p : Int) (a : Option Addr) (n c : Nat) (xs : List Int) (b : Option Addr) (m d : Nat) (ys : List Int) (f1 : Option Addr) (q1 c1 : Nat) (f : List Int) (x : Int) (w : World) (hs : SL w a n c xs) (ht : SL w b m d ys) (hf : SL w f1 q1 c1 f) (hn : n ≤ 4000000) (hm : m ≤ 4000000) (hq : q1 ≤ 4000000) :
    Calls Try.prog 33 #[jac p a n c b m d, .slice f1 q1 c1, .int .i64 x] w (fun e w' => e = .returned (.tuple #[.int .i64 (vbyV p xs ys f x), .int .i64 (vbyC p xs ys f x)]) ∧ Below w.heap.size w w') := by
  have hl := hide hs.len
  have hl2 := hide ht.len
  have hl3 := hide hf.len
  have hb0 := bl1 w (.cells #[.int .i64 p, .slice a n c, .slice b m d] 24)
  have e0 : (w.alloc (.cells #[.int .i64 p, .slice a n c, .slice b m d] 24)).cell? ⟨w.heap.size, 0, none⟩ = some (.int .i64 p) := by simp [go_sem]
  have e1 : (w.alloc (.cells #[.int .i64 p, .slice a n c, .slice b m d] 24)).cell? ⟨w.heap.size, 1, none⟩ = some (.slice a n c) := by simp [go_sem]
  have e2 : (w.alloc (.cells #[.int .i64 p, .slice a n c, .slice b m d] 24)).cell? ⟨w.heap.size, 2, none⟩ = some (.slice b m d) := by simp [go_sem]
  have g1 := hs.below hb0
  have g2 := ht.below hb0
  have g3 := hf.below hb0
  have v1 : IntKind.i64.wrap ((n : Int) + 1) = (n : Int) + 1 := IntWalk.i64_in _ (by omega)
  have zx : w.heap.size + 1 = (w.alloc (.cells #[.int .i64 p, .slice a n c, .slice b m d] 24)).heap.size := by simp
  rcases lstC_cases p xs ys ((xs.length : Int) + 1) f with hc | hc | ⟨hc, hj, hle, hfa⟩
  · have HC := hide (show vbyC p xs ys f x = 1 by unfold vbyC; rw [show sbyC p xs ys f = 1 from hc]; rfl)
    have HV := hide (show vbyV p xs ys f x = 0 by unfold vbyV; rw [HC.out]; rfl)
    have HL := hide (show lstC p xs ys ((n : Int) + 1) f = 1 by rw [← hl.out]; exact hc)
    clear hc
    go_enter Try.func33, Try.ntmps33
    go_upto_region 1 with fail
    generalize (w.alloc (.cells #[.int .i64 p, .slice a n c, .slice b m d] 24)) = wx at *
    have hd0 := (Below.refl wx.heap.size wx).drew
    have hd1 : Below wx.heap.size wx (wx.alloc (.cells #[.slice f1 q1 c1] 22)).drew := (bl1 wx _).drew
    have L1 : Lists (wx.alloc (.cells #[.slice f1 q1 c1] 22)).drew wx.heap.size 1 (fun _ => f1) (fun _ => q1) (fun _ => c1) (fun _ => f) := Lists.one (by simp [go_sem]) (g3.below hd1) hq
    have F : ∀ w', Below wx.heap.size wx w' → w'.cell? ⟨w.heap.size, 0, none⟩ = some (.int .i64 p) ∧ w'.cell? ⟨w.heap.size, 1, none⟩ = some (.slice a n c) ∧ w'.cell? ⟨w.heap.size, 2, none⟩ = some (.slice b m d) := fun w' h => ⟨cell_be h e0, cell_be h e1, cell_be h e2⟩
    go_region_held3 (fun w' => w'.cell? ⟨w.heap.size, 0, none⟩ = some (.int .i64 p) ∧ w'.cell? ⟨w.heap.size, 1, none⟩ = some (.slice a n c) ∧ w'.cell? ⟨w.heap.size, 2, none⟩ = some (.slice b m d))
      (first | exact F _ (by assumption) | exact F _ (hm1.alloc (by have := hm1.size; simp at this ⊢; omega) _))
      (first
      | (go_at_call 58; refine (sizeOf_any _ _ _ _ _ _ _ _ hn).mono ?_; rintro e w1 ⟨rfl, hb1⟩; have hm1 := bnext hd1 hb1)
      | (go_at_call 58; refine (sizeOf_any _ _ _ _ _ _ _ _ hn).mono ?_; rintro e w1 ⟨rfl, hb1⟩; have hm1 := bnext hd0 hb1)
      | (go_at_call 57; refine (checkLists_one p a n c xs b m d ys _ _ _ f1 q1 c1 f 1 _ (g1.below hm1) (g2.below hm1) (L1.below hb1) hn hm HL.out).mono ?_; rintro e w2 ⟨rfl, hb2⟩; have hm2 := bnext hm1 hb2)
      | (go_at_call 57; have hm1a := bnext hm1 (bl1 w1 (.cells #[.slice f1 q1 c1] 22)); refine (checkLists_one p a n c xs b m d ys _ _ _ f1 q1 c1 f 1 _ (g1.below hm1a) (g2.below hm1a) (Lists.one (by simp [go_sem]) (g3.below hm1a) hq) hn hm HL.out).mono ?_; rintro e w2 ⟨rfl, hb2⟩; have hm2 := bnext hm1a hb2))
    all_goals
      have hB2 := bnext hb0 hm2
      go_wp2
      go_ret2
      exact ⟨by rw [HV.out, HC.out] <;> rfl, hB2⟩
  · have HC := hide (show vbyC p xs ys f x = 2 by unfold vbyC; rw [show sbyC p xs ys f = 2 from hc]; rfl)
    have HV := hide (show vbyV p xs ys f x = 0 by unfold vbyV; rw [HC.out]; rfl)
    have HL := hide (show lstC p xs ys ((n : Int) + 1) f = 2 by rw [← hl.out]; exact hc)
    clear hc
    go_enter Try.func33, Try.ntmps33
    go_upto_region 1 with fail
    generalize (w.alloc (.cells #[.int .i64 p, .slice a n c, .slice b m d] 24)) = wx at *
    have hd0 := (Below.refl wx.heap.size wx).drew
    have hd1 : Below wx.heap.size wx (wx.alloc (.cells #[.slice f1 q1 c1] 22)).drew := (bl1 wx _).drew
    have L1 : Lists (wx.alloc (.cells #[.slice f1 q1 c1] 22)).drew wx.heap.size 1 (fun _ => f1) (fun _ => q1) (fun _ => c1) (fun _ => f) := Lists.one (by simp [go_sem]) (g3.below hd1) hq
    have F : ∀ w', Below wx.heap.size wx w' → w'.cell? ⟨w.heap.size, 0, none⟩ = some (.int .i64 p) ∧ w'.cell? ⟨w.heap.size, 1, none⟩ = some (.slice a n c) ∧ w'.cell? ⟨w.heap.size, 2, none⟩ = some (.slice b m d) := fun w' h => ⟨cell_be h e0, cell_be h e1, cell_be h e2⟩
    go_region_held3 (fun w' => w'.cell? ⟨w.heap.size, 0, none⟩ = some (.int .i64 p) ∧ w'.cell? ⟨w.heap.size, 1, none⟩ = some (.slice a n c) ∧ w'.cell? ⟨w.heap.size, 2, none⟩ = some (.slice b m d))
      (first | exact F _ (by assumption) | exact F _ (hm1.alloc (by have := hm1.size; simp at this ⊢; omega) _))
      (first
      | (go_at_call 58; refine (sizeOf_any _ _ _ _ _ _ _ _ hn).mono ?_; rintro e w1 ⟨rfl, hb1⟩; have hm1 := bnext hd1 hb1)
      | (go_at_call 58; refine (sizeOf_any _ _ _ _ _ _ _ _ hn).mono ?_; rintro e w1 ⟨rfl, hb1⟩; have hm1 := bnext hd0 hb1)
      | (go_at_call 57; refine (checkLists_one p a n c xs b m d ys _ _ _ f1 q1 c1 f 2 _ (g1.below hm1) (g2.below hm1) (L1.below hb1) hn hm HL.out).mono ?_; rintro e w2 ⟨rfl, hb2⟩; have hm2 := bnext hm1 hb2)
      | (go_at_call 57; have hm1a := bnext hm1 (bl1 w1 (.cells #[.slice f1 q1 c1] 22)); refine (checkLists_one p a n c xs b m d ys _ _ _ f1 q1 c1 f 2 _ (g1.below hm1a) (g2.below hm1a) (Lists.one (by simp [go_sem]) (g3.below hm1a) hq) hn hm HL.out).mono ?_; rintro e w2 ⟨rfl, hb2⟩; have hm2 := bnext hm1a hb2))
    all_goals
      have hB2 := bnext hb0 hm2
      go_wp2
      go_ret2
      exact ⟨by rw [HV.out, HC.out] <;> rfl, hB2⟩
  · obtain ⟨hpr, n1, n2, n3, hx, hy⟩ := jacB_rng hj
    obtain ⟨hp, hp2⟩ := primeB_lo hpr
    have HJ := hide hj
    have HPR := hide hpr
    have HX := hide hx
    have HY := hide (posB_are hy)
    have HFA := hide hfa
    rw [hl.out] at n1 n2 n3
    rw [hl2.out] at n3
    subst n3
    rw [hl3.out, hl.out] at hle
    have lq : q1 ≤ m + 1 := by omega
    have HL := hide (show lstC p xs ys ((m : Int) + 1) f = 0 by rw [← hl.out]; exact hc)
    have HS := hide (smL_small hp xs ys f q1 (by omega))
    clear hj hpr hx hy hfa hle
    have HSC := hide (show sbyC p xs ys f = 0 from hc)
    clear hc
    by_cases hxr : 0 ≤ x ∧ x < p
    · have HC := hide (show vbyC p xs ys f x = 0 by unfold vbyC; rw [HSC.out, if_pos rfl, if_pos hxr])
      have HV := hide (show vbyV p xs ys f x = evM p (smL p xs ys f q1) x by unfold vbyV; rw [if_pos HC.out, hl3.out])
      obtain ⟨x0, x1⟩ := hxr
      go_enter Try.func33, Try.ntmps33
      go_upto_region 1 with fail
      generalize (w.alloc (.cells #[.int .i64 p, .slice a m c, .slice b m d] 24)) = wx at *
      have hd0 := (Below.refl wx.heap.size wx).drew
      have hd1 : Below wx.heap.size wx (wx.alloc (.cells #[.slice f1 q1 c1] 22)).drew := (bl1 wx _).drew
      have L1 : Lists (wx.alloc (.cells #[.slice f1 q1 c1] 22)).drew wx.heap.size 1 (fun _ => f1) (fun _ => q1) (fun _ => c1) (fun _ => f) := Lists.one (by simp [go_sem]) (g3.below hd1) hq
      have F : ∀ w', Below wx.heap.size wx w' → w'.cell? ⟨w.heap.size, 0, none⟩ = some (.int .i64 p) ∧ w'.cell? ⟨w.heap.size, 1, none⟩ = some (.slice a m c) ∧ w'.cell? ⟨w.heap.size, 2, none⟩ = some (.slice b m d) := fun w' h => ⟨cell_be h e0, cell_be h e1, cell_be h e2⟩
      go_region_held3 (fun w' => w'.cell? ⟨w.heap.size, 0, none⟩ = some (.int .i64 p) ∧ w'.cell? ⟨w.heap.size, 1, none⟩ = some (.slice a m c) ∧ w'.cell? ⟨w.heap.size, 2, none⟩ = some (.slice b m d))
        (first | exact F _ (by assumption) | exact F _ (hm1.alloc (by have := hm1.size; simp at this ⊢; omega) _))
        (first
        | (go_at_call 58; refine (sizeOf_any _ _ _ _ _ _ _ _ hm).mono ?_; rintro e w1 ⟨rfl, hb1⟩; have hm1 := bnext hd1 hb1)
        | (go_at_call 58; refine (sizeOf_any _ _ _ _ _ _ _ _ hm).mono ?_; rintro e w1 ⟨rfl, hb1⟩; have hm1 := bnext hd0 hb1)
        | (go_at_call 57; refine (checkLists_one p a m c xs b m d ys _ _ _ f1 q1 c1 f 0 _ (g1.below hm1) (g2.below hm1) (L1.below hb1) hm hm HL.out).mono ?_; rintro e w2 ⟨rfl, hb2⟩; have hm2 := bnext hm1 hb2)
        | (go_at_call 57; have hm1a := bnext hm1 (bl1 w1 (.cells #[.slice f1 q1 c1] 22)); refine (checkLists_one p a m c xs b m d ys _ _ _ f1 q1 c1 f 0 _ (g1.below hm1a) (g2.below hm1a) (Lists.one (by simp [go_sem]) (g3.below hm1a) hq) hm hm HL.out).mono ?_; rintro e w2 ⟨rfl, hb2⟩; have hm2 := bnext hm1a hb2))
      all_goals
        have hB2 := bnext hb0 hm2
        obtain ⟨f0, k1, k2⟩ := F _ hm2
        go_wp2_with fail
        refine (isNumber_yes _ _ _ x0 x1).mono ?_
        rintro e w2' ⟨rfl, rfl⟩
        have hbd2 := (Below.refl w2.heap.size w2).drew
        have s1 := g1.below hm2
        have s2 := g2.below hm2
        have s3 := g3.below hm2
        have F2 : ∀ w', Below w2.heap.size w2 w' → w'.cell? ⟨w.heap.size, 0, none⟩ = some (.int .i64 p) ∧ w'.cell? ⟨w.heap.size, 1, none⟩ = some (.slice a m c) ∧ w'.cell? ⟨w.heap.size, 2, none⟩ = some (.slice b m d) := fun w' h => ⟨cell_be h f0, cell_be h k1, cell_be h k2⟩
        go_wp2
        go_region_held3 (fun w' => w'.cell? ⟨w.heap.size, 0, none⟩ = some (.int .i64 p) ∧ w'.cell? ⟨w.heap.size, 1, none⟩ = some (.slice a m c) ∧ w'.cell? ⟨w.heap.size, 2, none⟩ = some (.slice b m d))
          (exact F2 _ (by assumption))
          (first
          | (go_at_call 66; refine (sumBy_any p a m c xs b d ys f1 q1 c1 f _ (s1.below hbd2) (s2.below hbd2) (s3.below hbd2) n1 n2 lq HPR.out HX.out HY.out HFA.out).mono ?_; rintro e w3 ⟨a3, c3, rfl, ho, t3⟩; have hm3 := bnext hbd2 t3)
          | (go_at_call 69; refine (evaluateAt_any p x _ _ _ (smL p xs ys f q1) _ ho.sl (by have := HS.out.2; omega) hp hp2 x0 x1 (polyB_rng HS.out.1).2.1).mono ?_; rintro e w4 ⟨rfl, t4⟩; have hm4 := bnext hm3 t4))
        have hB4 := bnext hB2 hm4
        go_wp2
        go_ret2
        exact ⟨by rw [HV.out, HC.out] <;> rfl, hB4⟩
    · have HC := hide (show vbyC p xs ys f x = 2 by unfold vbyC; rw [HSC.out, if_pos rfl, if_neg hxr])
      have HV := hide (show vbyV p xs ys f x = 0 by unfold vbyV; rw [HC.out]; rfl)
      have HN := hide hxr
      have HN2 : Hid (¬ (0 ≤ x ∧ x ≤ p - 1)) := hide (by omega)
      clear hxr
      go_enter Try.func33, Try.ntmps33
      go_upto_region 1 with fail
      generalize (w.alloc (.cells #[.int .i64 p, .slice a m c, .slice b m d] 24)) = wx at *
      have hd0 := (Below.refl wx.heap.size wx).drew
      have hd1 : Below wx.heap.size wx (wx.alloc (.cells #[.slice f1 q1 c1] 22)).drew := (bl1 wx _).drew
      have L1 : Lists (wx.alloc (.cells #[.slice f1 q1 c1] 22)).drew wx.heap.size 1 (fun _ => f1) (fun _ => q1) (fun _ => c1) (fun _ => f) := Lists.one (by simp [go_sem]) (g3.below hd1) hq
      have F : ∀ w', Below wx.heap.size wx w' → w'.cell? ⟨w.heap.size, 0, none⟩ = some (.int .i64 p) ∧ w'.cell? ⟨w.heap.size, 1, none⟩ = some (.slice a m c) ∧ w'.cell? ⟨w.heap.size, 2, none⟩ = some (.slice b m d) := fun w' h => ⟨cell_be h e0, cell_be h e1, cell_be h e2⟩
      go_region_held3 (fun w' => w'.cell? ⟨w.heap.size, 0, none⟩ = some (.int .i64 p) ∧ w'.cell? ⟨w.heap.size, 1, none⟩ = some (.slice a m c) ∧ w'.cell? ⟨w.heap.size, 2, none⟩ = some (.slice b m d))
        (first | exact F _ (by assumption) | exact F _ (hm1.alloc (by have := hm1.size; simp at this ⊢; omega) _))
        (first
        | (go_at_call 58; refine (sizeOf_any _ _ _ _ _ _ _ _ hm).mono ?_; rintro e w1 ⟨rfl, hb1⟩; have hm1 := bnext hd1 hb1)
        | (go_at_call 58; refine (sizeOf_any _ _ _ _ _ _ _ _ hm).mono ?_; rintro e w1 ⟨rfl, hb1⟩; have hm1 := bnext hd0 hb1)
        | (go_at_call 57; refine (checkLists_one p a m c xs b m d ys _ _ _ f1 q1 c1 f 0 _ (g1.below hm1) (g2.below hm1) (L1.below hb1) hm hm HL.out).mono ?_; rintro e w2 ⟨rfl, hb2⟩; have hm2 := bnext hm1 hb2)
        | (go_at_call 57; have hm1a := bnext hm1 (bl1 w1 (.cells #[.slice f1 q1 c1] 22)); refine (checkLists_one p a m c xs b m d ys _ _ _ f1 q1 c1 f 0 _ (g1.below hm1a) (g2.below hm1a) (Lists.one (by simp [go_sem]) (g3.below hm1a) hq) hm hm HL.out).mono ?_; rintro e w2 ⟨rfl, hb2⟩; have hm2 := bnext hm1a hb2))
      all_goals
        have hB2 := bnext hb0 hm2
        obtain ⟨f0, k1, k2⟩ := F _ hm2
        go_wp2_with fail
        refine (isNumber_no _ _ _ HN.out).mono ?_
        rintro e w2' ⟨rfl, rfl⟩
        go_wp2
        go_ret2
        exact ⟨by rw [HV.out, HC.out] <;> rfl, hB2⟩
set_option maxRecDepth 100000 in
set_option maxHeartbeats 1600000 in
theorem specValueBy (p : Int) (a : Option Addr) (n c : Nat) (xs : List Int) (b : Option Addr) (m d : Nat) (ys : List Int) (f1 : Option Addr) (q1 c1 : Nat) (f : List Int) (x : Int) (w : World) (hs : SL w a n c xs) (ht : SL w b m d ys) (hf : SL w f1 q1 c1 f) (hn : n ≤ 4000000) (hm : m ≤ 4000000) (hq : q1 ≤ 4000000) :
    Calls Try.prog 32 #[jac p a n c b m d, .slice f1 q1 c1, .int .i64 x] w (fun e w' => e = .returned (.tuple #[.int .i64 (vbyV p xs ys f x), .int .i64 (vbyC p xs ys f x)]) ∧ Below w.heap.size w w') := by
  have hl := hide hs.len
  have hl2 := hide ht.len
  have hl3 := hide hf.len
  have hb0 := bl1 w (.cells #[.int .i64 p, .slice a n c, .slice b m d] 24)
  have e0 : (w.alloc (.cells #[.int .i64 p, .slice a n c, .slice b m d] 24)).cell? ⟨w.heap.size, 0, none⟩ = some (.int .i64 p) := by simp [go_sem]
  have e1 : (w.alloc (.cells #[.int .i64 p, .slice a n c, .slice b m d] 24)).cell? ⟨w.heap.size, 1, none⟩ = some (.slice a n c) := by simp [go_sem]
  have e2 : (w.alloc (.cells #[.int .i64 p, .slice a n c, .slice b m d] 24)).cell? ⟨w.heap.size, 2, none⟩ = some (.slice b m d) := by simp [go_sem]
  have g1 := hs.below hb0
  have g2 := ht.below hb0
  have g3 := hf.below hb0
  have v1 : IntKind.i64.wrap ((n : Int) + 1) = (n : Int) + 1 := IntWalk.i64_in _ (by omega)
  have zx : w.heap.size + 1 = (w.alloc (.cells #[.int .i64 p, .slice a n c, .slice b m d] 24)).heap.size := by simp
  rcases lstC_cases p xs ys ((xs.length : Int) + 1) f with hc | hc | ⟨hc, hj, hle, hfa⟩
  · have HC := hide (show vbyC p xs ys f x = 1 by unfold vbyC; rw [show sbyC p xs ys f = 1 from hc]; rfl)
    have HV := hide (show vbyV p xs ys f x = 0 by unfold vbyV; rw [HC.out]; rfl)
    have HL := hide (show lstC p xs ys ((n : Int) + 1) f = 1 by rw [← hl.out]; exact hc)
    clear hc
    go_enter Try.func32, Try.ntmps32
    go_wp2_with fail
    refine (l10List_any p a n c xs b m d ys f1 q1 c1 f 1 1 _ g1 g2 g3 hn hm hq (by omega) (by omega) HL.out).mono ?_
    rintro e w2 ⟨rfl, t2⟩
    have hB2 := bnext hb0 t2
    go_wp2
    go_ret2
    exact ⟨by rw [HV.out, HC.out] <;> rfl, hB2⟩
  · have HC := hide (show vbyC p xs ys f x = 2 by unfold vbyC; rw [show sbyC p xs ys f = 2 from hc]; rfl)
    have HV := hide (show vbyV p xs ys f x = 0 by unfold vbyV; rw [HC.out]; rfl)
    have HL := hide (show lstC p xs ys ((n : Int) + 1) f = 2 by rw [← hl.out]; exact hc)
    clear hc
    go_enter Try.func32, Try.ntmps32
    go_wp2_with fail
    refine (l10List_any p a n c xs b m d ys f1 q1 c1 f 1 2 _ g1 g2 g3 hn hm hq (by omega) (by omega) HL.out).mono ?_
    rintro e w2 ⟨rfl, t2⟩
    have hB2 := bnext hb0 t2
    go_wp2
    go_ret2
    exact ⟨by rw [HV.out, HC.out] <;> rfl, hB2⟩
  · obtain ⟨hpr, n1, n2, n3, hx, hy⟩ := jacB_rng hj
    obtain ⟨hp, hp2⟩ := primeB_lo hpr
    have HJ := hide hj
    have HPR := hide hpr
    have HX := hide hx
    have HY := hide (posB_are hy)
    have HFA := hide hfa
    rw [hl.out] at n1 n2 n3
    rw [hl2.out] at n3
    subst n3
    rw [hl3.out, hl.out] at hle
    have lq : q1 ≤ m + 1 := by omega
    have HL := hide (show lstC p xs ys ((m : Int) + 1) f = 0 by rw [← hl.out]; exact hc)
    have HS := hide (smL_small hp xs ys f q1 (by omega))
    clear hj hpr hx hy hfa hle
    have HSC := hide (show sbyC p xs ys f = 0 from hc)
    clear hc
    by_cases hxr : 0 ≤ x ∧ x < p
    · have HC := hide (show vbyC p xs ys f x = 0 by unfold vbyC; rw [HSC.out, if_pos rfl, if_pos hxr])
      have HV := hide (show vbyV p xs ys f x = evM p (smL p xs ys f q1) x by unfold vbyV; rw [if_pos HC.out, hl3.out])
      obtain ⟨x0, x1⟩ := hxr
      go_enter Try.func32, Try.ntmps32
      go_wp2_with fail
      refine (l10List_any p a m c xs b m d ys f1 q1 c1 f 1 0 _ g1 g2 g3 hm hm hq (by omega) (by omega) HL.out).mono ?_
      rintro e w2 ⟨rfl, t2⟩
      have hB2 := bnext hb0 t2
      have f0 := cell_be t2 e0
      have k1 := cell_be t2 e1
      have k2 := cell_be t2 e2
      have vp : IntKind.i64.wrap (p - 1) = p - 1 := IntWalk.i64_in _ (by omega)
      go_wp2_with fail
      refine (l01In_yes _ _ _ _ x0 (by omega)).mono ?_
      rintro e w2' ⟨rfl, rfl⟩
      have hbd2 := (Below.refl w2.heap.size w2).drew
      have s1 := g1.below t2
      have s2 := g2.below t2
      have s3 := g3.below t2
      have F2 : ∀ w', Below w2.heap.size w2 w' → w'.cell? ⟨w.heap.size, 0, none⟩ = some (.int .i64 p) ∧ w'.cell? ⟨w.heap.size, 1, none⟩ = some (.slice a m c) ∧ w'.cell? ⟨w.heap.size, 2, none⟩ = some (.slice b m d) := fun w' h => ⟨cell_be h f0, cell_be h k1, cell_be h k2⟩
      go_wp2
      go_region_held3 (fun w' => w'.cell? ⟨w.heap.size, 0, none⟩ = some (.int .i64 p) ∧ w'.cell? ⟨w.heap.size, 1, none⟩ = some (.slice a m c) ∧ w'.cell? ⟨w.heap.size, 2, none⟩ = some (.slice b m d))
        (exact F2 _ (by assumption))
        (first
        | (go_at_call 65; refine (l10Sum_any p a m c xs b d ys f1 q1 c1 f _ (s1.below hbd2) (s2.below hbd2) (s3.below hbd2) lq HJ.out HFA.out).mono ?_; rintro e w3 ⟨a3, c3, rfl, ho, t3⟩; have hm3 := bnext hbd2 t3)
        | (go_at_call 67; refine (l01At_any p x _ _ _ (smL p xs ys f q1) _ ho.sl (by have := HS.out.2; omega) hp hp2 x0 x1 (polyB_rng HS.out.1).2.1).mono ?_; rintro e w4 ⟨rfl, rfl⟩; have hm4 := hm3))
      have hB4 := bnext hB2 hm4
      go_wp2
      go_ret2
      exact ⟨by rw [HV.out, HC.out] <;> rfl, hB4⟩
    · have HC := hide (show vbyC p xs ys f x = 2 by unfold vbyC; rw [HSC.out, if_pos rfl, if_neg hxr])
      have HV := hide (show vbyV p xs ys f x = 0 by unfold vbyV; rw [HC.out]; rfl)
      have HN := hide hxr
      have HN2 : Hid (¬ (0 ≤ x ∧ x ≤ p - 1)) := hide (by omega)
      clear hxr
      go_enter Try.func32, Try.ntmps32
      go_wp2_with fail
      refine (l10List_any p a m c xs b m d ys f1 q1 c1 f 1 0 _ g1 g2 g3 hm hm hq (by omega) (by omega) HL.out).mono ?_
      rintro e w2 ⟨rfl, t2⟩
      have hB2 := bnext hb0 t2
      have f0 := cell_be t2 e0
      have vp : IntKind.i64.wrap (p - 1) = p - 1 := IntWalk.i64_in _ (by omega)
      go_wp2_with fail
      refine (l01In_no _ _ _ _ HN2.out).mono ?_
      rintro e w2' ⟨rfl, rfl⟩
      go_wp2
      go_ret2
      exact ⟨by rw [HV.out, HC.out] <;> rfl, hB2⟩
end Go.Proofs.Ytgaafhcnfeipbaa
