/- Merged texts. -/
import Derived.Test.YtkpmonopjkjflaaYC13
import Derived.Test.YtkpmonopjkjflaaYC12
import Derived.WalkSpells
/- Contracts: l02Numbers, l02Are, AreMoments (program and model). -/
namespace Go.Proofs.Ytkpmonopjkjflaa
open Go.RowKit
set_option linter.unusedVariables false
set_option linter.unusedSimpArgs false

def momB (p : Int) (xs : List Int) : Bool := primeB p && decide (1 ≤ xs.length) && decide (xs.length ≤ 24) && areB p xs
theorem momB_rng {p : Int} {xs : List Int} (h : momB p xs = true) : primeB p = true ∧ 1 ≤ xs.length ∧ xs.length ≤ 24 ∧ areB p xs = true := by
  unfold momB at h
  simp only [Bool.and_eq_true, decide_eq_true_eq] at h
  exact ⟨h.1.1.1, h.1.1.2, h.1.2, h.2⟩
set_option maxRecDepth 100000 in
set_option maxHeartbeats 800000 in
theorem l02Numbers_any (p : Int) (a : Option Addr) (n c : Nat) (xs : List Int) (w : World) (hs : SL w a n c xs) (hn : n ≤ 4000000) (hp : -1000000000000 ≤ p) (hp2 : p ≤ 1000000000000) :
    Calls Try.prog 115 #[.int .i64 p, .slice a n c] w fun e w' => e = .returned (.bool (areB p xs)) ∧ w = w' := by
  have hl := hide hs.len
  by_cases h0 : n = 0
  · subst h0
    obtain rfl := hs.empty
    go_enter Try.func115, Try.ntmps115
    go_wp2
    refine wp_loop_rounds 1 ?_
    rw [rounds_succ]
    go_wp2
    go_ret
    exact ⟨rfl, rfl⟩
  obtain ⟨b, off, rfl, hbw, hcell⟩ := hs.at (by omega)
  clear hs
  go_enter Try.func115, Try.ntmps115
  go_wp2
  go_loop [5] (fun i => ∃ k : Nat, k ≤ n ∧ i = .int .i64 k ∧ Hid (areB p (xs.take k) = true)) (fun i => n - (intOf i).toNat)
  case atStart => exact ⟨0, by omega, rfl, by simp [Hid, areB]⟩
  case round =>
    obtain ⟨k, hk, rfl, hR⟩ := hrel
    by_cases hlt : k < n
    · have e1 := hcell k hlt
      have hsn := Lib.hid (areB_snoc p xs k (by rw [hl.out]; exact hlt))
      obtain ⟨x, hx⟩ : ∃ x, x = xs.getD k 0 := ⟨_, rfl⟩
      rw [← hx] at e1
      have Hx := Lib.hid hx
      clear hx hcell
      by_cases hok : 0 ≤ x ∧ x ≤ p - 1
      · go_wp2_with (go_at_call 65; refine (l01In_yes _ _ _ _ hok.1 hok.2).mono ?_; rintro e w' ⟨rfl, rfl⟩)
        go_round
        case rel => exact ⟨k + 1, by omega, by go_num, hide (by rw [hsn.out, hR.out, ← Hx.out]; simp [okN]; omega)⟩
        case measure => simp [intOf]; omega
      · have hF : Hid (areB p xs = false) := hide (areB_false p xs k (by rw [hl.out]; exact hlt) (by rw [← Hx.out]; simp [okN]; omega))
        go_wp2_with (go_at_call 65; refine (l01In_no _ _ _ _ hok).mono ?_; rintro e w' ⟨rfl, rfl⟩)
        go_ret
        exact ⟨ret_bool hF.out.symm, rfl⟩
    · obtain rfl : k = n := by omega
      have hF : Hid (areB p xs = true) := hide (by have := hR.out; rwa [List.take_of_length_le (by rw [hl.out]; omega)] at this)
      go_wp2
      go_ret
      exact ⟨ret_bool hF.out.symm, rfl⟩
set_option maxRecDepth 100000 in
set_option maxHeartbeats 800000 in
theorem l02Are_any (p : Int) (a : Option Addr) (n c : Nat) (xs : List Int) (w : World) (hs : SL w a n c xs) (hn : n ≤ 4000000) :
    Calls Try.prog 64 #[mom p a n c] w fun e w' => e = .returned (.bool (momB p xs)) ∧ Below w.heap.size w w' := by
  have hl := hide hs.len
  have hb0 := bl1 w (.cells #[.int .i64 p, .slice a n c] 26)
  have g1 := hs.below hb0
  cases hp : primeB p
  · have H : Hid (momB p xs = false) := hide (by simp [momB, hp])
    have Hp := hide hp
    clear hp
    go_enter Try.func64, Try.ntmps64
    go_wp2_with fail
    refine (l01Prime_any _ _).mono ?_
    rintro e w1 ⟨rfl, rfl⟩
    rw [Hp.out]
    go_wp2
    go_ret
    exact ⟨ret_bool H.out.symm, hb0⟩
  · have Hp := hide hp
    obtain ⟨hp1, hp2⟩ := primeB_lo hp
    clear hp
    by_cases h1 : (1 : Int) ≤ (n : Int)
    · by_cases h2 : (n : Int) ≤ 24
      · have H : Hid (momB p xs = areB p xs) := hide (by simp [momB, Hp.out, hl.out]; omega)
        go_enter Try.func64, Try.ntmps64
        go_wp2_with fail
        refine (l01Prime_any _ _).mono ?_
        rintro e w1 ⟨rfl, rfl⟩
        rw [Hp.out]
        go_wp2_with fail
        refine (l02Numbers_any _ _ _ _ _ _ g1 hn (by omega) (by omega)).mono ?_
        rintro e w1 ⟨rfl, rfl⟩
        go_wp2
        go_ret
        exact ⟨ret_bool H.out.symm, hb0⟩
      · have H : Hid (momB p xs = false) := hide (by simp [momB, hl.out]; omega)
        go_enter Try.func64, Try.ntmps64
        go_wp2_with fail
        refine (l01Prime_any _ _).mono ?_
        rintro e w1 ⟨rfl, rfl⟩
        rw [Hp.out]
        go_wp2
        go_ret
        exact ⟨ret_bool H.out.symm, hb0⟩
    · have H : Hid (momB p xs = false) := hide (by simp [momB, hl.out]; omega)
      go_enter Try.func64, Try.ntmps64
      go_wp2_with fail
      refine (l01Prime_any _ _).mono ?_
      rintro e w1 ⟨rfl, rfl⟩
      rw [Hp.out]
      go_wp2
      go_ret
      exact ⟨ret_bool H.out.symm, hb0⟩
set_option maxRecDepth 100000 in
set_option maxHeartbeats 800000 in
theorem areMoments_any (p : Int) (a : Option Addr) (n c : Nat) (xs : List Int) (w : World) (hs : SL w a n c xs) (hn : n ≤ 4000000) :
    Calls Try.prog 69 #[mom p a n c] w fun e w' => e = .returned (.bool (momB p xs)) ∧ Below w.heap.size w w' := by
  have hl := hide hs.len
  have hb0 := bl1 w (.cells #[.int .i64 p, .slice a n c] 26)
  have g1 := hs.below hb0
  cases hp : primeB p
  · have H : Hid (momB p xs = false) := hide (by simp [momB, hp])
    have Hp := hide hp
    clear hp
    go_enter Try.func69, Try.ntmps69
    go_wp2_with fail
    refine (isPrime_any _ _).mono ?_
    rintro e w1 ⟨rfl, rfl⟩
    rw [Hp.out]
    go_wp2
    go_ret
    exact ⟨ret_bool H.out.symm, hb0⟩
  · have Hp := hide hp
    obtain ⟨hp1, hp2⟩ := primeB_lo hp
    clear hp
    by_cases h1 : (n : Int) < 1
    · have H : Hid (momB p xs = false) := hide (by simp [momB, hl.out]; omega)
      go_enter Try.func69, Try.ntmps69
      go_wp2_with fail
      refine (isPrime_any _ _).mono ?_
      rintro e w1 ⟨rfl, rfl⟩
      rw [Hp.out]
      go_wp2
      go_ret
      exact ⟨ret_bool H.out.symm, hb0⟩
    · by_cases h2 : 24 < (n : Int)
      · have H : Hid (momB p xs = false) := hide (by simp [momB, hl.out]; omega)
        go_enter Try.func69, Try.ntmps69
        go_wp2_with fail
        refine (isPrime_any _ _).mono ?_
        rintro e w1 ⟨rfl, rfl⟩
        rw [Hp.out]
        go_wp2
        go_ret
        exact ⟨ret_bool H.out.symm, hb0⟩
      · have H : Hid (momB p xs = areB p xs) := hide (by simp [momB, Hp.out, hl.out]; omega)
        go_enter Try.func69, Try.ntmps69
        go_wp2_with fail
        refine (isPrime_any _ _).mono ?_
        rintro e w1 ⟨rfl, rfl⟩
        rw [Hp.out]
        go_wp2_with fail
        refine (areNumbers_any _ _ _ _ _ _ g1 hn).mono ?_
        rintro e w1 ⟨rfl, rfl⟩
        go_wp2
        go_ret
        exact ⟨ret_bool H.out.symm, hb0⟩
end Go.Proofs.Ytkpmonopjkjflaa
/- Contract: slices.Clone at []int64; owned rows read and written. -/
namespace Go.Proofs.Ytkpmonopjkjflaa
open Go.RowKit
set_option linter.unusedVariables false
set_option linter.unusedSimpArgs false

theorem Own.blkG {B : Nat} {w : World} {a : Option Addr} {c : Nat} {ys : List Int} (h : Own B w a c ys) (h0 : ys.length ≠ 0) : ∃ g, a = some ⟨g, 0, none⟩ ∧ B ≤ g ∧ g < w.heap.size ∧ ys.length ≤ c := by
  rcases h.shape with ⟨_, _, rfl⟩ | ⟨g, cur, rfl, hB, hg, hl, _⟩
  · exact absurd rfl h0
  · exact ⟨g, rfl, hB, lt_of_block hg, hl⟩
theorem Own.cellG {B : Nat} {w : World} {g c : Nat} {ys : List Int} (h : Own B w (some ⟨g, 0, none⟩) c ys) (j : Nat) (hj : j < ys.length) : w.cell? ⟨g, j, none⟩ = some (.int .i64 (ys.getD j 0)) := by
  have := World.ownsRow.cellAt h j (by omega)
  rw [this]
  simp [hj]
theorem Own.freeG {B : Nat} {w : World} {g c : Nat} {ys : List Int} (h : Own B w (some ⟨g, 0, none⟩) c ys) (j : Nat) : w.frozen? ⟨g, j, none⟩ = false := World.ownsRow.frozenAt h j
theorem Own.setG {B : Nat} {w : World} {g c : Nat} {ys : List Int} (h : Own B w (some ⟨g, 0, none⟩) c ys) (j : Nat) (u : Int) : Own B (w.setCell ⟨g, j, none⟩ (.int .i64 u)) (some ⟨g, 0, none⟩) c (ys.set j u) := by
  have := (World.ownsRow.stored h j (.int .i64 u)).1
  unfold Own
  rw [List.map_set, List.length_set]
  exact this
theorem Own.otherG {B : Nat} {w : World} {a : Option Addr} {c g j : Nat} {ys : List Int} (h : Own B w a c ys) (hne : blk a ≠ some g) (u : Value) : Own B (w.setCell ⟨g, j, none⟩ u) a c ys := by
  refine h.keep (row := some g) ⟨rfl, rfl, rfl, by simp, fun k _ hk => Below.heap_setCell _ _ _ _ (fun e => hk (by rw [e]))⟩ (fun g' hg' e => ?_)
  rw [hg'] at hne
  exact hne e.symm
/-- A shorter beginning of an owned row. -/
theorem Own.takeG {B : Nat} {w : World} {a : Option Addr} {c : Nat} {ys : List Int} (h : Own B w a c ys) {m : Nat} (hm : m ≤ ys.length) : Own B w a c (ys.take m) := by
  rcases h.shape with ⟨rfl, rfl, rfl⟩ | ⟨g, cur, rfl, hB, hg, hl, hcm, hcs, ht⟩
  · simpa using Own.nil B w
  · have e : (ys.take m).length = m := by simp; omega
    unfold Own
    rw [e]
    refine ⟨by simp; omega, .inr ⟨g, c, cur, rfl, hB, hg, by omega, hcm, by omega, ?_⟩⟩
    rw [Nat.mul_one, List.map_take, ← ht, List.take_take, Nat.min_eq_left hm]
set_option maxHeartbeats 800000 in
theorem clone_any (a : Option Addr) (n c : Nat) (xs : List Int) (w : World) (hs : SL w a n c xs) (hn : n ≤ 4000000) :
    Calls Try.prog 142 #[.slice a n c] w fun e w' => ∃ a' c', e = .returned (.slice a' n c') ∧ Own w.heap.size w' a' c' xs ∧ Below w.heap.size w w' := by
  have hl := hide hs.len
  cases a with
  | none =>
    have h0 : n = 0 := by
      rcases hs.2.2 with h | ⟨_, _, h, _⟩
      · exact h
      · cases h
    subst h0
    obtain rfl := hs.empty
    have hq := fun w => Lib.run_eql_slice_nil (P := Try.prog) w 22 2 none 0 c 0 0 Try.underlying22
    go_enter Try.func142, Try.ntmps142
    go_wp2
    go_ret
    exact ⟨none, 0, rfl, Own.nil _ _, Below.refl _ _⟩
  | some ad =>
    have hq := fun w => Lib.run_eql_slice_nil (P := Try.prog) w 22 2 (some ad) n c 0 0 Try.underlying22
    have hs' := hs.below (bl1 w (.cells #[] 2))
    have ho : Own w.heap.size (w.alloc (.cells #[] 2)) (some ⟨w.heap.size, 0, none⟩) 0 [] := by
      have := World.ownsRow_lit w (base := w.heap.size) (e := 2) (size := 1) #[] 0 (Nat.le_refl _) (by simp) rfl
      exact this
    go_enter Try.func142, Try.ntmps142
    go_wp2_with (at_builtin; refine wp_append rfl _ _ rfl w.heap.size _ _ _ [] rfl rfl ho _ _ _ xs rfl hs' (by simp; omega) (by simp) ?_; intro ad' cap' w1 hown hb; simp only [List.nil_append] at hown)
    go_ret
    exact ⟨_, cap', by rw [← hl.out]; rfl, hown, (bl1 w _).trans hb⟩
end Go.Proofs.Ytkpmonopjkjflaa
