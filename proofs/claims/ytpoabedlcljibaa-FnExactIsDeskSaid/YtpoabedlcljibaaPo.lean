/- Contracts: areNumbers, numberAt, isZero, IsPoly, degree, trim (program); l01Poly, IsPoly, l01Own, l01Trim (model). -/
import Derived.Test.YtpoabedlcljibaaPn
import Derived.Test.YtpoabedlcljibaaGl
namespace Go.Proofs.Ytpoabedlcljibaa
open Go.RowKit
set_option linter.unusedVariables false
set_option linter.unusedSimpArgs false

def okN (p x : Int) : Bool := decide (0 ≤ x ∧ x < p)
def areB (p : Int) (xs : List Int) : Bool := xs.all (okN p)
def lastZ (f : List Int) : Bool := f.getD (f.length - 1) 0 == 0
def polyB (p : Int) (f : List Int) : Bool := decide (f.length ≤ 25) && areB p f && (f.isEmpty || !lastZ f)
theorem take_snocI (xs : List Int) (k : Nat) (h : k < xs.length) : xs.take (k + 1) = xs.take k ++ [xs.getD k 0] := by
  rw [List.take_add_one, List.getElem?_eq_getElem h]
  simp [h]
theorem areB_snoc (p : Int) (xs : List Int) (k : Nat) (h : k < xs.length) : areB p (xs.take (k + 1)) = (areB p (xs.take k) && okN p (xs.getD k 0)) := by
  rw [take_snocI xs k h]
  simp [areB]
theorem areB_false (p : Int) (xs : List Int) (k : Nat) (h : k < xs.length) (hx : okN p (xs.getD k 0) = false) : areB p xs = false := by
  unfold areB
  rw [Bool.eq_false_iff]
  intro hall
  rw [List.all_eq_true] at hall
  have := hall (xs.getD k 0) (by simp [h])
  rw [hx] at this
  cases this
theorem areB_at {p : Int} {xs : List Int} (h : areB p xs = true) (k : Nat) (hk : k < xs.length) : 0 ≤ xs.getD k 0 ∧ xs.getD k 0 < p := by
  unfold areB at h
  rw [List.all_eq_true] at h
  have := h (xs.getD k 0) (by simp [hk])
  simpa [okN] using this
theorem polyB_rng {p : Int} {f : List Int} (h : polyB p f = true) : f.length ≤ 25 ∧ areB p f = true ∧ (f = [] ∨ f.getD (f.length - 1) 0 ≠ 0) := by
  unfold polyB at h
  simp only [Bool.and_eq_true, decide_eq_true_eq, Bool.or_eq_true, List.isEmpty_iff, Bool.not_eq_true'] at h
  refine ⟨h.1.1, h.1.2, h.2.imp id (fun h => ?_)⟩
  unfold lastZ at h
  simpa using h

theorem polyB_ne {p : Int} {xs : List Int} {n : Nat} (hn : xs.length = n) (h0 : n ≠ 0) (h : areB p xs = true) : polyB p xs = (decide (n ≤ 25) && !(xs.getD (n - 1) 0 == 0)) := by
  have hne : xs.isEmpty = false := by
    cases xs with
    | nil => simp at hn; omega
    | cons a l => rfl
  unfold polyB lastZ
  rw [h, hne, hn]
  simp
set_option maxHeartbeats 800000 in
theorem areNumbers_any (p : Int) (a : Option Addr) (n c : Nat) (xs : List Int) (w : World) (hs : SL w a n c xs) (hn : n ≤ 4000000) :
    Calls Try.prog 44 #[.int .i64 p, .slice a n c] w fun e w' => e = .returned (.bool (areB p xs)) ∧ w = w' := by
  have hl := hide hs.len
  by_cases h0 : n = 0
  · subst h0
    obtain rfl := hs.empty
    go_enter Try.func44, Try.ntmps44
    go_wp2
    refine wp_loop_rounds 1 ?_
    rw [rounds_succ]
    go_wp2
    go_ret
    exact ⟨rfl, rfl⟩
  obtain ⟨b, off, rfl, hbw, hcell⟩ := hs.at (by omega)
  clear hs
  go_enter Try.func44, Try.ntmps44
  go_wp2
  go_loop [9] (fun i => ∃ k : Nat, k ≤ n ∧ i = .int .i64 k ∧ Hid (areB p (xs.take k) = true)) (fun i => n - (intOf i).toNat)
  case atStart => exact ⟨0, by omega, rfl, by simp [Hid, areB]⟩
  case round =>
    obtain ⟨k, hk, rfl, hR⟩ := hrel
    by_cases hlt : k < n
    · have e1 := hcell k hlt
      have hsn := Lib.hid (areB_snoc p xs k (by rw [hl.out]; exact hlt))
      obtain ⟨x, hx⟩ : ∃ x, x = xs.getD k 0 := ⟨_, rfl⟩
      rw [← hx] at e1
      have Hx := Lib.hid hx
      clear hx hcell
      by_cases hok : 0 ≤ x ∧ x < p
      · go_wp2_with (go_at_call 54; refine (isNumber_yes _ _ _ hok.1 hok.2).mono ?_; rintro e w' ⟨rfl, rfl⟩)
        go_round
        case rel => exact ⟨k + 1, by omega, by go_num, hide (by rw [hsn.out, hR.out, ← Hx.out]; simp [okN, hok])⟩
        case measure => simp [intOf]; omega
      · have hF : Hid (areB p xs = false) := hide (areB_false p xs k (by rw [hl.out]; exact hlt) (by rw [← Hx.out]; simp [okN]; omega))
        go_wp2_with (go_at_call 54; refine (isNumber_no _ _ _ hok).mono ?_; rintro e w' ⟨rfl, rfl⟩)
        go_ret
        exact ⟨ret_bool hF.out.symm, rfl⟩
    · obtain rfl : k = n := by omega
      have hF : Hid (areB p xs = true) := hide (by have := hR.out; rwa [List.take_of_length_le (by rw [hl.out]; omega)] at this)
      go_wp2
      go_ret
      exact ⟨ret_bool hF.out.symm, rfl⟩
theorem SL.take {w : World} {a : Option Addr} {n c : Nat} {xs : List Int} (h : SL w a n c xs) {k : Nat} (hk : k ≤ n) : SL w a k c (xs.take k) := by
  obtain ⟨h1, h2, h3⟩ := h
  obtain ⟨h2, h2'⟩ := h2
  refine ⟨by simp; omega, ⟨by omega, h2'⟩, ?_⟩
  rcases h3 with h3 | ⟨b, off, rfl, hc⟩
  · exact .inl (by omega)
  · refine .inr ⟨b, off, rfl, fun j hj => ?_⟩
    rw [hc j (by omega)]
    simp [List.getElem?_take, hj]
theorem getD_take (xs : List Int) (k j : Nat) (h : j < k) : (xs.take k).getD j 0 = xs.getD j 0 := by simp [List.getElem?_take, h]

theorem run_arrayAt (ad : Addr) (n c : Nat) (hn : 1 ≤ n) (w : World) : (Instr.arrayAt 66 (.slice (some ad) n c)).run Try.prog w = .ok (.pointer (some ad)) w := by
  simp [Instr.arrayAt, run_underlying Try.underlying66, go_sem]
  omega
theorem run_part1 (x : Int) (w : World) : (part 2 #[.int .i64 x] 0).run Try.prog w = .ok (.int .i64 x) w := by kernel_rfl
theorem run_eqArr (d : Nat) (x y : Int) (w : World) : (Op.equalIn (d + 2) 66 (.agg #[.int .i64 x]) (.agg #[.int .i64 y])).run Try.prog w = .ok (x == y) w := by
  have h2 := fun w => run_equalIn_int (P := Try.prog) w d 2 .i64 .i64 x y Try.underlying2
  simp [Op.equalIn, run_underlying Try.underlying66, Result.andThen, Std.Legacy.Range.forIn_eq_forIn_range', Std.Legacy.Range.size, run_part1]
  by_cases h : x = y <;> simp [h]
set_option maxRecDepth 100000 in
set_option maxHeartbeats 800000 in
theorem numberAt_any (a : Option Addr) (n c k : Nat) (kk : Int) (xs : List Int) (w : World) (hs : SL w a n c xs) (hk : k < n) (hkk : kk = k) (hn : n ≤ 4000000) :
    Calls Try.prog 47 #[.slice a n c, .int .i64 kk] w fun e w' => e = .returned (.agg #[.int .i64 (xs.getD k 0)]) ∧ Below w.heap.size w w' := by
  subst hkk
  obtain ⟨b, off, rfl, hbw, hcell⟩ := hs.at (by omega)
  have hc := cell_al (hcell k hk)
  have hle := hs.le
  obtain ⟨v, hv⟩ : ∃ v, v = xs.getD k 0 := ⟨_, rfl⟩
  rw [← hv] at hc ⊢
  clear hcell hs hv
  have h1 : (k : Int) + 1 ≤ (c : Int) := by omega
  have h2 : ¬ c = k := by omega
  have ha := fun ad c => run_arrayAt ad 1 c (by omega)
  go_enter Try.func47, Try.ntmps47
  go_wp2
  refine bodyPost_ret (v := .agg #[.int .i64 v]) (by simp [results, Try.results47, go_sem]) rfl ⟨rfl, bl1 _ _⟩
set_option maxRecDepth 100000 in
set_option maxHeartbeats 800000 in
theorem isZero_any (x : Int) (w : World) :
    Calls Try.prog 46 #[.agg #[.int .i64 x]] w fun e w' => e = .returned (.bool (x == 0)) ∧ Below w.heap.size w w' := by
  have hq := fun w => run_eqArr 9998 x 0 w
  go_enter Try.func46, Try.ntmps46
  go_wp2
  go_ret
  exact ⟨rfl, bl1 _ _⟩
theorem numberAt_v (a : Option Addr) (n c k : Nat) (kk : Int) (xs : List Int) (v : Int) (w : World) (hs : SL w a n c xs) (hk : k < n) (hkk : kk = k) (hn : n ≤ 4000000) (hv : xs.getD k 0 = v) :
    Calls Try.prog 47 #[.slice a n c, .int .i64 kk] w fun e w' => e = .returned (.agg #[.int .i64 v]) ∧ Below w.heap.size w w' := by
  subst hv
  exact numberAt_any a n c k kk xs w hs hk hkk hn
theorem isZero_t (x : Int) (w : World) (h : x = 0) : Calls Try.prog 46 #[.agg #[.int .i64 x]] w fun e w' => e = .returned (.bool true) ∧ Below w.heap.size w w' :=
  (isZero_any x w).mono fun e w' hh => ⟨by rw [hh.1, h]; rfl, hh.2⟩
theorem isZero_f (x : Int) (w : World) (h : x ≠ 0) : Calls Try.prog 46 #[.agg #[.int .i64 x]] w fun e w' => e = .returned (.bool false) ∧ Below w.heap.size w w' :=
  (isZero_any x w).mono fun e w' hh => ⟨by rw [hh.1]; congr 2; simpa using h, hh.2⟩
set_option maxHeartbeats 1600000 in
theorem isPoly_any (p : Int) (a : Option Addr) (n c : Nat) (xs : List Int) (w : World) (hs : SL w a n c xs) (hn : n ≤ 4000000) :
    Calls Try.prog 36 #[.int .i64 p, .slice a n c] w fun e w' => e = .returned (.bool (polyB p xs)) ∧ Below w.heap.size w w' := by
  have hl := hide hs.len
  by_cases hlong : 25 < (n : Int)
  · have H : Hid (polyB p xs = false) := hide (by simp [polyB, hl.out]; omega)
    go_enter Try.func36, Try.ntmps36
    go_wp2
    go_ret
    exact ⟨ret_bool H.out.symm, Below.refl _ _⟩
  cases hb : areB p xs
  · have H : Hid (polyB p xs = false) := hide (by simp [polyB, hb])
    go_enter Try.func36, Try.ntmps36
    go_wp2_with (go_at_call 44; refine (areNumbers_any _ _ _ _ _ _ hs hn).mono ?_; rintro e w' ⟨rfl, rfl⟩)
    go_ret
    exact ⟨ret_bool H.out.symm, Below.refl _ _⟩
  by_cases h0 : n = 0
  · subst h0
    obtain rfl := hs.empty
    go_enter Try.func36, Try.ntmps36
    go_wp2_with (go_at_call 44; refine (areNumbers_any _ _ _ _ _ _ hs (by omega)).mono ?_; rintro e w' ⟨rfl, rfl⟩)
    go_ret
    exact ⟨ret_bool (by simp [polyB, areB]), Below.refl _ _⟩
  have hn0 : ((n : Int) == 0) = false := by simpa using h0
  have H : Hid (polyB p xs = !(xs.getD (n - 1) 0 == 0)) := hide (by rw [polyB_ne hl.out h0 hb]; simp; omega)
  go_enter Try.func36, Try.ntmps36
  go_wp2_with fail
  refine (areNumbers_any _ _ _ _ _ _ hs hn).mono ?_
  rintro e w' ⟨rfl, rfl⟩
  go_wp2_with fail
  refine (numberAt_any a n c (n - 1) _ xs _ hs (by omega) (by omega) hn).mono ?_
  rintro e w1 ⟨rfl, hb1⟩
  go_wp2_with fail
  refine (isZero_any _ _).mono ?_
  rintro e w2 ⟨rfl, hb2⟩
  go_wp2
  go_ret
  exact ⟨ret_bool (by rw [H.out]; simp), bnext hb1 hb2⟩
set_option maxHeartbeats 1600000 in
theorem l01Poly_any (p : Int) (a : Option Addr) (n c : Nat) (xs : List Int) (w : World) (hs : SL w a n c xs) (hn : n ≤ 4000000) :
    Calls Try.prog 30 #[.int .i64 p, .slice a n c] w fun e w' => e = .returned (.bool (polyB p xs)) ∧ w = w' := by
  have hl := hide hs.len
  by_cases h0 : n = 0
  · subst h0
    obtain rfl := hs.empty
    go_enter Try.func30, Try.ntmps30
    go_wp2
    refine wp_loop_rounds 1 ?_
    rw [rounds_succ]
    go_wp2
    go_ret
    exact ⟨ret_bool (by simp [polyB, areB]), rfl⟩
  obtain ⟨b, off, rfl, hbw, hcell⟩ := hs.at (by omega)
  clear hs
  have hn0 : ((n : Int) == 0) = false := by simpa using h0
  go_enter Try.func30, Try.ntmps30
  go_wp2
  go_loop [5] (fun i => ∃ k : Nat, k ≤ n ∧ i = .int .i64 k ∧ Hid (areB p (xs.take k) = true)) (fun i => n - (intOf i).toNat)
  case atStart => exact ⟨0, by omega, rfl, by simp [Hid, areB]⟩
  case round =>
    obtain ⟨k, hk, rfl, hR⟩ := hrel
    by_cases hlt : k < n
    · have e1 := hcell k hlt
      have hsn := Lib.hid (areB_snoc p xs k (by rw [hl.out]; exact hlt))
      obtain ⟨x, hx⟩ : ∃ x, x = xs.getD k 0 := ⟨_, rfl⟩
      rw [← hx] at e1
      have Hx := Lib.hid hx
      clear hx hcell
      by_cases hx0 : x < 0
      · have hF : Hid (polyB p xs = false) := hide (by unfold polyB; rw [areB_false p xs k (by rw [hl.out]; exact hlt) (by rw [← Hx.out]; simp [okN]; omega)]; simp)
        go_wp2
        go_ret
        exact ⟨ret_bool hF.out.symm, rfl⟩
      by_cases hx1 : p ≤ x
      · have hF : Hid (polyB p xs = false) := hide (by unfold polyB; rw [areB_false p xs k (by rw [hl.out]; exact hlt) (by rw [← Hx.out]; simp [okN]; omega)]; simp)
        go_wp2
        go_ret
        exact ⟨ret_bool hF.out.symm, rfl⟩
      · go_wp2
        go_round
        case rel => exact ⟨k + 1, by omega, by go_num, hide (by rw [hsn.out, hR.out, ← Hx.out]; simp [okN]; omega)⟩
        case measure => simp [intOf]; omega
    · obtain rfl : k = n := by omega
      have hF : Hid (areB p xs = true) := hide (by have := hR.out; rwa [List.take_of_length_le (by rw [hl.out]; omega)] at this)
      have e1 := hcell (k - 1) (by omega)
      have hkk : (k : Int) - 1 = ((k - 1 : Nat) : Int) := by omega
      have H : Hid (polyB p xs = (decide (k ≤ 25) && !(xs.getD (k - 1) 0 == 0))) := hide (polyB_ne hl.out h0 hF.out)
      clear hcell
      by_cases h25 : (k : Int) ≤ 25
      · go_wp2
        go_ret
        exact ⟨ret_bool (by rw [H.out]; simp [show k ≤ 25 by omega, bne]), rfl⟩
      · go_wp2
        go_ret
        exact ⟨ret_bool (by rw [H.out]; simp [show ¬ k ≤ 25 by omega]), rfl⟩
end Go.Proofs.Ytpoabedlcljibaa
