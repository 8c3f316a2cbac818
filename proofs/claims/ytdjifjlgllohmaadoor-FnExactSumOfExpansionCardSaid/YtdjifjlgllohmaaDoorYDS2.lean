/- Merged texts. -/
import Derived.Test.YtdjifjlgllohmaaDoorYDS0
import Derived.Test.YtdjifjlgllohmaaDoorYDS1
/- Contracts: areNumbers, numberAt, isZero, IsPoly, degree, trim (program); l01Poly, IsPoly, l01Own, l01Trim (model). -/
namespace Go.Proofs.YtdjifjlgllohmaaDoor
open Go.RowKit
set_option linter.unusedVariables false
set_option linter.unusedSimpArgs false

def okN (p x : Int) : Bool := decide (0 ≤ x ∧ x < p)
def areB (p : Int) (xs : List Int) : Bool := xs.all (okN p)
def lastZ (f : List Int) : Bool := f.getD (f.length - 1) 0 == 0
def polyB (p : Int) (f : List Int) : Bool := decide (f.length ≤ 25) && areB p f && (f.isEmpty || !lastZ f)
theorem take_snocI (xs : List Int) (k : Nat) (h : k < xs.length) : xs.take (k + 1) = xs.take k ++ [xs.getD k 0] := by
  rw [List.take_add_one, List.getElem?_eq_getElem h]
  simp [h]
theorem areB_snoc (p : Int) (xs : List Int) (k : Nat) (h : k < xs.length) : areB p (xs.take (k + 1)) = (areB p (xs.take k) && okN p (xs.getD k 0)) := by
  rw [take_snocI xs k h]
  simp [areB]
theorem areB_false (p : Int) (xs : List Int) (k : Nat) (h : k < xs.length) (hx : okN p (xs.getD k 0) = false) : areB p xs = false := by
  unfold areB
  rw [Bool.eq_false_iff]
  intro hall
  rw [List.all_eq_true] at hall
  have := hall (xs.getD k 0) (by simp [h])
  rw [hx] at this
  cases this
theorem areB_at {p : Int} {xs : List Int} (h : areB p xs = true) (k : Nat) (hk : k < xs.length) : 0 ≤ xs.getD k 0 ∧ xs.getD k 0 < p := by
  unfold areB at h
  rw [List.all_eq_true] at h
  have := h (xs.getD k 0) (by simp [hk])
  simpa [okN] using this
theorem polyB_rng {p : Int} {f : List Int} (h : polyB p f = true) : f.length ≤ 25 ∧ areB p f = true ∧ (f = [] ∨ f.getD (f.length - 1) 0 ≠ 0) := by
  unfold polyB at h
  simp only [Bool.and_eq_true, decide_eq_true_eq, Bool.or_eq_true, List.isEmpty_iff, Bool.not_eq_true'] at h
  refine ⟨h.1.1, h.1.2, h.2.imp id (fun h => ?_)⟩
  unfold lastZ at h
  simpa using h

theorem polyB_ne {p : Int} {xs : List Int} {n : Nat} (hn : xs.length = n) (h0 : n ≠ 0) (h : areB p xs = true) : polyB p xs = (decide (n ≤ 25) && !(xs.getD (n - 1) 0 == 0)) := by
  have hne : xs.isEmpty = false := by
    cases xs with
    | nil => simp at hn; omega
    | cons a l => rfl
  unfold polyB lastZ
  rw [h, hne, hn]
  simp
set_option maxHeartbeats 800000 in
theorem areNumbers_any (p : Int) (a : Option Addr) (n c : Nat) (xs : List Int) (w : World) (hs : SL w a n c xs) (hn : n ≤ 4000000) :
    Calls Tryd.prog 70 #[.int .i64 p, .slice a n c] w fun e w' => e = .returned (.bool (areB p xs)) ∧ w = w' := by
  have hl := hide hs.len
  by_cases h0 : n = 0
  · subst h0
    obtain rfl := hs.empty
    go_enter Tryd.func70, Tryd.ntmps70
    go_wp2
    refine wp_loop_rounds 1 ?_
    rw [rounds_succ]
    go_wp2
    go_ret
    exact ⟨rfl, rfl⟩
  obtain ⟨b, off, rfl, hbw, hcell⟩ := hs.at (by omega)
  clear hs
  go_enter Tryd.func70, Tryd.ntmps70
  go_wp2
  go_loop [9] (fun i => ∃ k : Nat, k ≤ n ∧ i = .int .i64 k ∧ Hid (areB p (xs.take k) = true)) (fun i => n - (intOf i).toNat)
  case atStart => exact ⟨0, by omega, rfl, by simp [Hid, areB]⟩
  case round =>
    obtain ⟨k, hk, rfl, hR⟩ := hrel
    by_cases hlt : k < n
    · have e1 := hcell k hlt
      have hsn := Lib.hid (areB_snoc p xs k (by rw [hl.out]; exact hlt))
      obtain ⟨x, hx⟩ : ∃ x, x = xs.getD k 0 := ⟨_, rfl⟩
      rw [← hx] at e1
      have Hx := Lib.hid hx
      clear hx hcell
      by_cases hok : 0 ≤ x ∧ x < p
      · go_wp2_with (go_at_call 101; refine (isNumber_yes _ _ _ hok.1 hok.2).mono ?_; rintro e w' ⟨rfl, rfl⟩)
        go_round
        case rel => exact ⟨k + 1, by omega, by go_num, hide (by rw [hsn.out, hR.out, ← Hx.out]; simp [okN, hok])⟩
        case measure => simp [intOf]; omega
      · have hF : Hid (areB p xs = false) := hide (areB_false p xs k (by rw [hl.out]; exact hlt) (by rw [← Hx.out]; simp [okN]; omega))
        go_wp2_with (go_at_call 101; refine (isNumber_no _ _ _ hok).mono ?_; rintro e w' ⟨rfl, rfl⟩)
        go_ret
        exact ⟨ret_bool hF.out.symm, rfl⟩
    · obtain rfl : k = n := by omega
      have hF : Hid (areB p xs = true) := hide (by have := hR.out; rwa [List.take_of_length_le (by rw [hl.out]; omega)] at this)
      go_wp2
      go_ret
      exact ⟨ret_bool hF.out.symm, rfl⟩
theorem SL.take {w : World} {a : Option Addr} {n c : Nat} {xs : List Int} (h : SL w a n c xs) {k : Nat} (hk : k ≤ n) : SL w a k c (xs.take k) := by
  obtain ⟨h1, h2, h3⟩ := h
  obtain ⟨h2, h2'⟩ := h2
  refine ⟨by simp; omega, ⟨by omega, h2'⟩, ?_⟩
  rcases h3 with h3 | ⟨b, off, rfl, hc⟩
  · exact .inl (by omega)
  · refine .inr ⟨b, off, rfl, fun j hj => ?_⟩
    rw [hc j (by omega)]
    simp [List.getElem?_take, hj]
theorem getD_take (xs : List Int) (k j : Nat) (h : j < k) : (xs.take k).getD j 0 = xs.getD j 0 := by simp [List.getElem?_take, h]

theorem run_arrayAt (ad : Addr) (n c : Nat) (hn : 1 ≤ n) (w : World) : (Instr.arrayAt 97 (.slice (some ad) n c)).run Tryd.prog w = .ok (.pointer (some ad)) w := by
  simp [Instr.arrayAt, run_underlying Tryd.underlying97, go_sem]
  omega
theorem run_part1 (x : Int) (w : World) : (part 2 #[.int .i64 x] 0).run Tryd.prog w = .ok (.int .i64 x) w := by kernel_rfl
theorem run_eqArr (d : Nat) (x y : Int) (w : World) : (Op.equalIn (d + 2) 97 (.agg #[.int .i64 x]) (.agg #[.int .i64 y])).run Tryd.prog w = .ok (x == y) w := by
  have h2 := fun w => run_equalIn_int (P := Tryd.prog) w d 2 .i64 .i64 x y Tryd.underlying2
  simp [Op.equalIn, run_underlying Tryd.underlying97, Result.andThen, Std.Legacy.Range.forIn_eq_forIn_range', Std.Legacy.Range.size, run_part1]
  by_cases h : x = y <;> simp [h]
set_option maxRecDepth 100000 in
set_option maxHeartbeats 800000 in
theorem numberAt_any (a : Option Addr) (n c k : Nat) (kk : Int) (xs : List Int) (w : World) (hs : SL w a n c xs) (hk : k < n) (hkk : kk = k) (hn : n ≤ 4000000) :
    Calls Tryd.prog 114 #[.slice a n c, .int .i64 kk] w fun e w' => e = .returned (.agg #[.int .i64 (xs.getD k 0)]) ∧ Below w.heap.size w w' := by
  subst hkk
  obtain ⟨b, off, rfl, hbw, hcell⟩ := hs.at (by omega)
  have hc := cell_al (hcell k hk)
  have hle := hs.le
  obtain ⟨v, hv⟩ : ∃ v, v = xs.getD k 0 := ⟨_, rfl⟩
  rw [← hv] at hc ⊢
  clear hcell hs hv
  have h1 : (k : Int) + 1 ≤ (c : Int) := by omega
  have h2 : ¬ c = k := by omega
  have ha := fun ad c => run_arrayAt ad 1 c (by omega)
  go_enter Tryd.func114, Tryd.ntmps114
  go_wp2
  refine bodyPost_ret (v := .agg #[.int .i64 v]) (by simp [results, Tryd.results114, go_sem]) rfl ⟨rfl, bl1 _ _⟩
set_option maxRecDepth 100000 in
set_option maxHeartbeats 800000 in
theorem isZero_any (x : Int) (w : World) :
    Calls Tryd.prog 113 #[.agg #[.int .i64 x]] w fun e w' => e = .returned (.bool (x == 0)) ∧ Below w.heap.size w w' := by
  have hq := fun w => run_eqArr 9998 x 0 w
  go_enter Tryd.func113, Tryd.ntmps113
  go_wp2
  go_ret
  exact ⟨rfl, bl1 _ _⟩
theorem numberAt_v (a : Option Addr) (n c k : Nat) (kk : Int) (xs : List Int) (v : Int) (w : World) (hs : SL w a n c xs) (hk : k < n) (hkk : kk = k) (hn : n ≤ 4000000) (hv : xs.getD k 0 = v) :
    Calls Tryd.prog 114 #[.slice a n c, .int .i64 kk] w fun e w' => e = .returned (.agg #[.int .i64 v]) ∧ Below w.heap.size w w' := by
  subst hv
  exact numberAt_any a n c k kk xs w hs hk hkk hn
theorem isZero_t (x : Int) (w : World) (h : x = 0) : Calls Tryd.prog 113 #[.agg #[.int .i64 x]] w fun e w' => e = .returned (.bool true) ∧ Below w.heap.size w w' :=
  (isZero_any x w).mono fun e w' hh => ⟨by rw [hh.1, h]; rfl, hh.2⟩
theorem isZero_f (x : Int) (w : World) (h : x ≠ 0) : Calls Tryd.prog 113 #[.agg #[.int .i64 x]] w fun e w' => e = .returned (.bool false) ∧ Below w.heap.size w w' :=
  (isZero_any x w).mono fun e w' hh => ⟨by rw [hh.1]; congr 2; simpa using h, hh.2⟩
set_option maxHeartbeats 800000 in
theorem degree_any (a : Option Addr) (n c : Nat) (w : World) (hn : n ≤ 4000000) :
    Calls Tryd.prog 65 #[.slice a n c] w fun e w' => e = .returned (.int .i64 ((n : Int) - 1)) ∧ w = w' := by
  go_enter Tryd.func65, Tryd.ntmps65
  go_wp2
  go_ret
  exact ⟨rfl, rfl⟩
set_option maxHeartbeats 1600000 in
theorem isPoly_any (p : Int) (a : Option Addr) (n c : Nat) (xs : List Int) (w : World) (hs : SL w a n c xs) (hn : n ≤ 4000000) :
    Calls Tryd.prog 98 #[.int .i64 p, .slice a n c] w fun e w' => e = .returned (.bool (polyB p xs)) ∧ Below w.heap.size w w' := by
  have hl := hide hs.len
  by_cases hlong : 25 < (n : Int)
  · have H : Hid (polyB p xs = false) := hide (by simp [polyB, hl.out]; omega)
    go_enter Tryd.func98, Tryd.ntmps98
    go_wp2
    go_ret
    exact ⟨ret_bool H.out.symm, Below.refl _ _⟩
  cases hb : areB p xs
  · have H : Hid (polyB p xs = false) := hide (by simp [polyB, hb])
    go_enter Tryd.func98, Tryd.ntmps98
    go_wp2_with (go_at_call 70; refine (areNumbers_any _ _ _ _ _ _ hs hn).mono ?_; rintro e w' ⟨rfl, rfl⟩)
    go_ret
    exact ⟨ret_bool H.out.symm, Below.refl _ _⟩
  by_cases h0 : n = 0
  · subst h0
    obtain rfl := hs.empty
    go_enter Tryd.func98, Tryd.ntmps98
    go_wp2_with (go_at_call 70; refine (areNumbers_any _ _ _ _ _ _ hs (by omega)).mono ?_; rintro e w' ⟨rfl, rfl⟩)
    go_ret
    exact ⟨ret_bool (by simp [polyB, areB]), Below.refl _ _⟩
  have hn0 : ((n : Int) == 0) = false := by simpa using h0
  have H : Hid (polyB p xs = !(xs.getD (n - 1) 0 == 0)) := hide (by rw [polyB_ne hl.out h0 hb]; simp; omega)
  go_enter Tryd.func98, Tryd.ntmps98
  go_wp2_with fail
  refine (areNumbers_any _ _ _ _ _ _ hs hn).mono ?_
  rintro e w' ⟨rfl, rfl⟩
  go_wp2_with fail
  refine (numberAt_any a n c (n - 1) _ xs _ hs (by omega) (by omega) hn).mono ?_
  rintro e w1 ⟨rfl, hb1⟩
  go_wp2_with fail
  refine (isZero_any _ _).mono ?_
  rintro e w2 ⟨rfl, hb2⟩
  go_wp2
  go_ret
  exact ⟨ret_bool (by rw [H.out]; simp), bnext hb1 hb2⟩
set_option maxHeartbeats 1600000 in
theorem l01Poly_any (p : Int) (a : Option Addr) (n c : Nat) (xs : List Int) (w : World) (hs : SL w a n c xs) (hn : n ≤ 4000000) :
    Calls Tryd.prog 60 #[.int .i64 p, .slice a n c] w fun e w' => e = .returned (.bool (polyB p xs)) ∧ w = w' := by
  have hl := hide hs.len
  by_cases h0 : n = 0
  · subst h0
    obtain rfl := hs.empty
    go_enter Tryd.func60, Tryd.ntmps60
    go_wp2
    refine wp_loop_rounds 1 ?_
    rw [rounds_succ]
    go_wp2
    go_ret
    exact ⟨ret_bool (by simp [polyB, areB]), rfl⟩
  obtain ⟨b, off, rfl, hbw, hcell⟩ := hs.at (by omega)
  clear hs
  have hn0 : ((n : Int) == 0) = false := by simpa using h0
  go_enter Tryd.func60, Tryd.ntmps60
  go_wp2
  go_loop [5] (fun i => ∃ k : Nat, k ≤ n ∧ i = .int .i64 k ∧ Hid (areB p (xs.take k) = true)) (fun i => n - (intOf i).toNat)
  case atStart => exact ⟨0, by omega, rfl, by simp [Hid, areB]⟩
  case round =>
    obtain ⟨k, hk, rfl, hR⟩ := hrel
    by_cases hlt : k < n
    · have e1 := hcell k hlt
      have hsn := Lib.hid (areB_snoc p xs k (by rw [hl.out]; exact hlt))
      obtain ⟨x, hx⟩ : ∃ x, x = xs.getD k 0 := ⟨_, rfl⟩
      rw [← hx] at e1
      have Hx := Lib.hid hx
      clear hx hcell
      by_cases hx0 : x < 0
      · have hF : Hid (polyB p xs = false) := hide (by unfold polyB; rw [areB_false p xs k (by rw [hl.out]; exact hlt) (by rw [← Hx.out]; simp [okN]; omega)]; simp)
        go_wp2
        go_ret
        exact ⟨ret_bool hF.out.symm, rfl⟩
      by_cases hx1 : p ≤ x
      · have hF : Hid (polyB p xs = false) := hide (by unfold polyB; rw [areB_false p xs k (by rw [hl.out]; exact hlt) (by rw [← Hx.out]; simp [okN]; omega)]; simp)
        go_wp2
        go_ret
        exact ⟨ret_bool hF.out.symm, rfl⟩
      · go_wp2
        go_round
        case rel => exact ⟨k + 1, by omega, by go_num, hide (by rw [hsn.out, hR.out, ← Hx.out]; simp [okN]; omega)⟩
        case measure => simp [intOf]; omega
    · obtain rfl : k = n := by omega
      have hF : Hid (areB p xs = true) := hide (by have := hR.out; rwa [List.take_of_length_le (by rw [hl.out]; omega)] at this)
      have e1 := hcell (k - 1) (by omega)
      have hkk : (k : Int) - 1 = ((k - 1 : Nat) : Int) := by omega
      have H : Hid (polyB p xs = (decide (k ≤ 25) && !(xs.getD (k - 1) 0 == 0))) := hide (polyB_ne hl.out h0 hF.out)
      clear hcell
      by_cases h25 : (k : Int) ≤ 25
      · go_wp2
        go_ret
        exact ⟨ret_bool (by rw [H.out]; simp [show k ≤ 25 by omega, bne]), rfl⟩
      · go_wp2
        go_ret
        exact ⟨ret_bool (by rw [H.out]; simp [show ¬ k ≤ 25 by omega]), rfl⟩
end Go.Proofs.YtdjifjlgllohmaaDoor
/- Contracts: trim, checkPolys (program); l01Own, l01Trim, l01Code (model). -/
namespace Go.Proofs.YtdjifjlgllohmaaDoor
open Go.RowKit
set_option linter.unusedVariables false
set_option linter.unusedSimpArgs false

/-- How many numbers are left of the first k when the zeros at the end go. -/
def trimN (xs : List Int) : Nat → Nat
  | 0 => 0
  | k + 1 => if xs.getD k 0 = 0 then trimN xs k else k + 1
def trimL (xs : List Int) : List Int := xs.take (trimN xs xs.length)
theorem trimN_le (xs : List Int) (k : Nat) : trimN xs k ≤ k := by
  induction k with
  | zero => simp [trimN]
  | succ k ih => unfold trimN; split <;> omega
theorem trimL_len (xs : List Int) : (trimL xs).length = trimN xs xs.length := by
  unfold trimL
  have := trimN_le xs xs.length
  simp
  omega
theorem trimN_zero {xs : List Int} {k : Nat} (h : xs.getD (k - 1) 0 = 0) (hk : 0 < k) : trimN xs k = trimN xs (k - 1) := by
  obtain ⟨j, rfl⟩ : ∃ j, k = j + 1 := ⟨k - 1, by omega⟩
  simp only [Nat.add_sub_cancel] at *
  rw [trimN, if_pos h]
theorem trimN_stop {xs : List Int} {k : Nat} (h : xs.getD (k - 1) 0 ≠ 0) (hk : 0 < k) : trimN xs k = k := by
  obtain ⟨j, rfl⟩ : ∃ j, k = j + 1 := ⟨k - 1, by omega⟩
  simp only [Nat.add_sub_cancel] at *
  rw [trimN, if_neg h]

set_option maxHeartbeats 1600000 in
theorem trim_any (a : Option Addr) (n c : Nat) (xs : List Int) (w : World) (hs : SL w a n c xs) (hn : n ≤ 4000000) :
    Calls Tryd.prog 102 #[.slice a n c] w fun e w' => e = .returned (.slice a (trimN xs n) c) ∧ Below w.heap.size w w' := by
  have hl := hide hs.len
  have hle := hs.le
  go_enter Tryd.func102, Tryd.ntmps102
  go_wp2
  go_loopw [0] (fun v wr => ∃ k : Nat, k ≤ n ∧ v = .slice a k c ∧ Hid (trimN xs n = trimN xs k) ∧ Below w.heap.size w wr) (fun v _ => match v with | .slice _ k _ => k | _ => 0)
  case atStart => exact ⟨n, by omega, rfl, rfl, Below.refl _ _⟩
  case round =>
    obtain ⟨k, hk, rfl, hR, hbr⟩ := hrel
    by_cases hpos : 0 < k
    · have hp : (0 : Int) < (k : Int) := by omega
      have hsr := (hs.below hbr).take hk
      have hx := Lib.hid (getD_take xs k (k - 1) (by omega))
      obtain ⟨b, off, ha, _, _⟩ := hsr.at hpos
      subst ha
      by_cases hz : xs.getD (k - 1) 0 = 0
      · have hR2 := Lib.hid (hR.out.trans (trimN_zero hz hpos))
        have hzz := hx.out.trans hz
        have Hz := Lib.hid hzz
        clear hz hzz
        go_wp2_with fail
        refine (numberAt_v _ k c (k - 1) _ (xs.take k) 0 _ hsr (by omega) (by omega) (by omega) Hz.out).mono ?_
        rintro e w1 ⟨rfl, hb1⟩
        go_wp2_with fail
        refine (isZero_t _ _ rfl).mono ?_
        rintro e w2 ⟨rfl, hb2⟩
        have hcm : (k : Int) - 1 ≤ (c : Int) := by omega
        have hkk : ((k : Int) - 1).toNat = k - 1 := by omega
        go_wp2
        go_roundw
        case rel => exact ⟨k - 1, by omega, rfl, hR2, hbr.trans ((bnext hb1 hb2).mono hbr.size)⟩
        case measure => simp; omega
      · have hR2 := Lib.hid (hR.out.trans (trimN_stop hz hpos))
        obtain ⟨v, hv⟩ : ∃ v, xs.getD (k - 1) 0 = v := ⟨_, rfl⟩
        have Hv := Lib.hid (hx.out.trans hv)
        have Hz : v ≠ 0 := fun e => hz (hv.trans e)
        clear hz hv
        go_wp2_with fail
        refine (numberAt_v _ k c (k - 1) _ (xs.take k) v _ hsr (by omega) (by omega) (by omega) Hv.out).mono ?_
        rintro e w1 ⟨rfl, hb1⟩
        go_wp2_with fail
        refine (isZero_f _ _ Hz).mono ?_
        rintro e w2 ⟨rfl, hb2⟩
        go_wp2
        go_ret
        exact ⟨by rw [hR2.out]; rfl, hbr.trans ((bnext hb1 hb2).mono hbr.size)⟩
    · obtain rfl : k = 0 := by omega
      have hR2 : Hid (trimN xs n = 0) := hide hR.out
      go_wp2
      go_ret
      exact ⟨by rw [hR2.out]; rfl, hbr⟩
set_option maxHeartbeats 800000 in
theorem l01Own_any (a : Option Addr) (n c : Nat) (xs : List Int) (w : World) (hs : SL w a n c xs) (hn : n ≤ 4000000) :
    Calls Tryd.prog 108 #[.slice a n c] w fun e w' => ∃ a' c', e = .returned (.slice a' n c') ∧ Own w.heap.size w' a' c' xs ∧ Below w.heap.size w w' := by
  have hl := hs.len
  have hs' := hs.below (bl1 w (.cells #[] 2))
  have ho : Own w.heap.size (w.alloc (.cells #[] 2)) (some ⟨w.heap.size, 0, none⟩) 0 [] := by
    have := World.ownsRow_lit w (base := w.heap.size) (e := 2) (size := 1) #[] 0 (Nat.le_refl _) (by simp) rfl
    exact this
  subst hl
  go_enter Tryd.func108, Tryd.ntmps108
  go_wp2_with (at_builtin; refine wp_append rfl _ _ rfl w.heap.size _ _ _ [] rfl rfl ho _ _ _ xs rfl hs' (by omega) (by simp) ?_; intro ad' cap' w1 hown hb; simp only [List.nil_append] at hown)
  go_ret
  exact ⟨_, _, rfl, hown, (bl1 w _).trans hb⟩
set_option maxHeartbeats 1600000 in
theorem l01Trim_any (b off n c : Nat) (xs : List Int) (w : World) (hs : SL w (some ⟨b, off, none⟩) n c xs) (hn : n ≤ 4000000) :
    Calls Tryd.prog 86 #[.slice (some ⟨b, off, none⟩) n c] w fun e w' => ∃ a' c', e = .returned (.slice a' (trimL xs).length c') ∧ Own w.heap.size w' a' c' (trimL xs) ∧ Below w.heap.size w w' := by
  have hl := hide hs.len
  have hle := hs.le
  go_enter Tryd.func86, Tryd.ntmps86
  go_wp2
  go_loop [3] (fun v => ∃ k : Nat, k ≤ n ∧ v = .int .i64 k ∧ Hid (trimN xs n = trimN xs k)) (fun v => (intOf v).toNat)
  case atStart => exact ⟨n, by omega, rfl, rfl⟩
  case round =>
    obtain ⟨k, hk, rfl, hR⟩ := hrel
    have hfin : trimN xs n = k → SL w (some ⟨b, off, none⟩) k c (trimL xs) := fun h => by
      have := hs.take hk
      unfold trimL
      rwa [hl.out, h]
    have hcm : (k : Int) ≤ (c : Int) := by omega
    by_cases hpos : 0 < k
    · have hp : (0 : Int) < (k : Int) := by omega
      have hkk : ((k : Int) - 1).toNat = k - 1 := by omega
      obtain ⟨b', off', ha, _, hcell⟩ := hs.at (by omega)
      simp only [Option.some.injEq, Addr.mk.injEq, and_true] at ha
      obtain ⟨rfl, rfl⟩ := ha
      have hc := hcell (k - 1) (by omega)
      clear hcell
      by_cases hz : xs.getD (k - 1) 0 = 0
      · have hR2 := Lib.hid (hR.out.trans (trimN_zero hz hpos))
        rw [hz] at hc
        clear hz hfin
        go_wp2
        go_round
        case rel => exact ⟨k - 1, by omega, by go_num, hR2⟩
        case measure => simp [intOf]; omega
      · have hR2 := hR.out.trans (trimN_stop hz hpos)
        have hsl := hfin hR2
        have hlen := Lib.hid hsl.len
        obtain ⟨v, hv⟩ : ∃ v, xs.getD (k - 1) 0 = v := ⟨_, rfl⟩
        rw [hv] at hc
        have hv0 : (v == 0) = false := by
          have : v ≠ 0 := fun e => hz (hv.trans e)
          simpa using this
        clear hz hfin hv hR2
        go_wp2_with (go_at_call 108; refine (l01Own_any _ _ _ _ _ hsl (by omega)).mono ?_; rintro e w1 ⟨a', c', rfl, hown, hb⟩)
        go_ret
        exact ⟨a', c', by rw [hlen.out]; rfl, hown, hb⟩
    · obtain rfl : k = 0 := by omega
      have hR2 : trimN xs n = 0 := hR.out
      have hsl := hfin hR2
      have hlen := Lib.hid hsl.len
      clear hfin hR2
      go_wp2_with (go_at_call 108; refine (l01Own_any _ _ _ _ _ hsl (by omega)).mono ?_; rintro e w1 ⟨a', c', rfl, hown, hb⟩)
      go_ret
      exact ⟨a', c', by rw [hlen.out]; rfl, hown, hb⟩
/-- A list of lists in memory (block b): the k-th cell holds a slice that reads as X k. -/
def Lists (w : World) (b n : Nat) (A : Nat → Option Addr) (L C : Nat → Nat) (X : Nat → List Int) : Prop :=
  ∀ j, j < n → w.cell? ⟨b, j, none⟩ = some (.slice (A j) (L j) (C j)) ∧ SL w (A j) (L j) (C j) (X j) ∧ L j ≤ 4000000
theorem Lists.below {w w' : World} {b n : Nat} {A : Nat → Option Addr} {L C : Nat → Nat} {X : Nat → List Int} (h : Lists w b n A L C X) (hb : Below w.heap.size w w') : Lists w' b n A L C X :=
  fun j hj => ⟨cell_be hb (h j hj).1, (h j hj).2.1.below hb, (h j hj).2.2⟩
def chkB (p : Int) (X : Nat → List Int) : Nat → Bool
  | 0 => true
  | k + 1 => chkB p X k && polyB p (X k)
def chkC (p : Int) (X : Nat → List Int) (n : Nat) : Int := if chkB p X n then (if primeB p then 0 else 2) else 1
theorem chkB_false (p : Int) (X : Nat → List Int) (n k : Nat) (hk : k < n) (h : polyB p (X k) = false) : chkB p X n = false := by
  induction n with
  | zero => omega
  | succ n ih =>
    unfold chkB
    by_cases e : k = n
    · subst e; simp [h]
    · rw [ih (by omega)]; rfl
end Go.Proofs.YtdjifjlgllohmaaDoor
