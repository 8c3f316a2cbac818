/- Contracts: trim, checkPolys (program); l01Own, l01Trim, l01Code (model). -/
import Derived.Test.YtgaafhcnfeipbaaPo
namespace Go.Proofs.Ytgaafhcnfeipbaa
open Go.RowKit
set_option linter.unusedVariables false
set_option linter.unusedSimpArgs false

/-- How many numbers are left of the first k when the zeros at the end go. -/
def trimN (xs : List Int) : Nat → Nat
  | 0 => 0
  | k + 1 => if xs.getD k 0 = 0 then trimN xs k else k + 1
def trimL (xs : List Int) : List Int := xs.take (trimN xs xs.length)
theorem trimN_le (xs : List Int) (k : Nat) : trimN xs k ≤ k := by
  induction k with
  | zero => simp [trimN]
  | succ k ih => unfold trimN; split <;> omega
theorem trimL_len (xs : List Int) : (trimL xs).length = trimN xs xs.length := by
  unfold trimL
  have := trimN_le xs xs.length
  simp
  omega
theorem trimN_zero {xs : List Int} {k : Nat} (h : xs.getD (k - 1) 0 = 0) (hk : 0 < k) : trimN xs k = trimN xs (k - 1) := by
  obtain ⟨j, rfl⟩ : ∃ j, k = j + 1 := ⟨k - 1, by omega⟩
  simp only [Nat.add_sub_cancel] at *
  rw [trimN, if_pos h]
theorem trimN_stop {xs : List Int} {k : Nat} (h : xs.getD (k - 1) 0 ≠ 0) (hk : 0 < k) : trimN xs k = k := by
  obtain ⟨j, rfl⟩ : ∃ j, k = j + 1 := ⟨k - 1, by omega⟩
  simp only [Nat.add_sub_cancel] at *
  rw [trimN, if_neg h]

set_option maxHeartbeats 1600000 in
theorem trim_any (a : Option Addr) (n c : Nat) (xs : List Int) (w : World) (hs : SL w a n c xs) (hn : n ≤ 4000000) :
    Calls Try.prog 80 #[.slice a n c] w fun e w' => e = .returned (.slice a (trimN xs n) c) ∧ Below w.heap.size w w' := by
  have hl := hide hs.len
  have hle := hs.le
  go_enter Try.func80, Try.ntmps80
  go_wp2
  go_loopw [0] (fun v wr => ∃ k : Nat, k ≤ n ∧ v = .slice a k c ∧ Hid (trimN xs n = trimN xs k) ∧ Below w.heap.size w wr) (fun v _ => match v with | .slice _ k _ => k | _ => 0)
  case atStart => exact ⟨n, by omega, rfl, rfl, Below.refl _ _⟩
  case round =>
    obtain ⟨k, hk, rfl, hR, hbr⟩ := hrel
    by_cases hpos : 0 < k
    · have hp : (0 : Int) < (k : Int) := by omega
      have hsr := (hs.below hbr).take hk
      have hx := Lib.hid (getD_take xs k (k - 1) (by omega))
      obtain ⟨b, off, ha, _, _⟩ := hsr.at hpos
      subst ha
      by_cases hz : xs.getD (k - 1) 0 = 0
      · have hR2 := Lib.hid (hR.out.trans (trimN_zero hz hpos))
        have hzz := hx.out.trans hz
        have Hz := Lib.hid hzz
        clear hz hzz
        go_wp2_with fail
        refine (numberAt_v _ k c (k - 1) _ (xs.take k) 0 _ hsr (by omega) (by omega) (by omega) Hz.out).mono ?_
        rintro e w1 ⟨rfl, hb1⟩
        go_wp2_with fail
        refine (isZero_t _ _ rfl).mono ?_
        rintro e w2 ⟨rfl, hb2⟩
        have hcm : (k : Int) - 1 ≤ (c : Int) := by omega
        have hkk : ((k : Int) - 1).toNat = k - 1 := by omega
        go_wp2
        go_roundw
        case rel => exact ⟨k - 1, by omega, rfl, hR2, hbr.trans ((bnext hb1 hb2).mono hbr.size)⟩
        case measure => simp; omega
      · have hR2 := Lib.hid (hR.out.trans (trimN_stop hz hpos))
        obtain ⟨v, hv⟩ : ∃ v, xs.getD (k - 1) 0 = v := ⟨_, rfl⟩
        have Hv := Lib.hid (hx.out.trans hv)
        have Hz : v ≠ 0 := fun e => hz (hv.trans e)
        clear hz hv
        go_wp2_with fail
        refine (numberAt_v _ k c (k - 1) _ (xs.take k) v _ hsr (by omega) (by omega) (by omega) Hv.out).mono ?_
        rintro e w1 ⟨rfl, hb1⟩
        go_wp2_with fail
        refine (isZero_f _ _ Hz).mono ?_
        rintro e w2 ⟨rfl, hb2⟩
        go_wp2
        go_ret
        exact ⟨by rw [hR2.out]; rfl, hbr.trans ((bnext hb1 hb2).mono hbr.size)⟩
    · obtain rfl : k = 0 := by omega
      have hR2 : Hid (trimN xs n = 0) := hide hR.out
      go_wp2
      go_ret
      exact ⟨by rw [hR2.out]; rfl, hbr⟩
set_option maxHeartbeats 800000 in
theorem l01Own_any (a : Option Addr) (n c : Nat) (xs : List Int) (w : World) (hs : SL w a n c xs) (hn : n ≤ 4000000) :
    Calls Try.prog 112 #[.slice a n c] w fun e w' => ∃ a' c', e = .returned (.slice a' n c') ∧ Own w.heap.size w' a' c' xs ∧ Below w.heap.size w w' := by
  have hl := hs.len
  have hs' := hs.below (bl1 w (.cells #[] 2))
  have ho : Own w.heap.size (w.alloc (.cells #[] 2)) (some ⟨w.heap.size, 0, none⟩) 0 [] := by
    have := World.ownsRow_lit w (base := w.heap.size) (e := 2) (size := 1) #[] 0 (Nat.le_refl _) (by simp) rfl
    exact this
  subst hl
  go_enter Try.func112, Try.ntmps112
  go_wp2_with (at_builtin; refine wp_append rfl _ _ rfl w.heap.size _ _ _ [] rfl rfl ho _ _ _ xs rfl hs' (by omega) (by simp) ?_; intro ad' cap' w1 hown hb; simp only [List.nil_append] at hown)
  go_ret
  exact ⟨_, _, rfl, hown, (bl1 w _).trans hb⟩
set_option maxHeartbeats 1600000 in
theorem l01Trim_any (b off n c : Nat) (xs : List Int) (w : World) (hs : SL w (some ⟨b, off, none⟩) n c xs) (hn : n ≤ 4000000) :
    Calls Try.prog 101 #[.slice (some ⟨b, off, none⟩) n c] w fun e w' => ∃ a' c', e = .returned (.slice a' (trimL xs).length c') ∧ Own w.heap.size w' a' c' (trimL xs) ∧ Below w.heap.size w w' := by
  have hl := hide hs.len
  have hle := hs.le
  go_enter Try.func101, Try.ntmps101
  go_wp2
  go_loop [3] (fun v => ∃ k : Nat, k ≤ n ∧ v = .int .i64 k ∧ Hid (trimN xs n = trimN xs k)) (fun v => (intOf v).toNat)
  case atStart => exact ⟨n, by omega, rfl, rfl⟩
  case round =>
    obtain ⟨k, hk, rfl, hR⟩ := hrel
    have hfin : trimN xs n = k → SL w (some ⟨b, off, none⟩) k c (trimL xs) := fun h => by
      have := hs.take hk
      unfold trimL
      rwa [hl.out, h]
    have hcm : (k : Int) ≤ (c : Int) := by omega
    by_cases hpos : 0 < k
    · have hp : (0 : Int) < (k : Int) := by omega
      have hkk : ((k : Int) - 1).toNat = k - 1 := by omega
      obtain ⟨b', off', ha, _, hcell⟩ := hs.at (by omega)
      simp only [Option.some.injEq, Addr.mk.injEq, and_true] at ha
      obtain ⟨rfl, rfl⟩ := ha
      have hc := hcell (k - 1) (by omega)
      clear hcell
      by_cases hz : xs.getD (k - 1) 0 = 0
      · have hR2 := Lib.hid (hR.out.trans (trimN_zero hz hpos))
        rw [hz] at hc
        clear hz hfin
        go_wp2
        go_round
        case rel => exact ⟨k - 1, by omega, by go_num, hR2⟩
        case measure => simp [intOf]; omega
      · have hR2 := hR.out.trans (trimN_stop hz hpos)
        have hsl := hfin hR2
        have hlen := Lib.hid hsl.len
        obtain ⟨v, hv⟩ : ∃ v, xs.getD (k - 1) 0 = v := ⟨_, rfl⟩
        rw [hv] at hc
        have hv0 : (v == 0) = false := by
          have : v ≠ 0 := fun e => hz (hv.trans e)
          simpa using this
        clear hz hfin hv hR2
        go_wp2_with (go_at_call 112; refine (l01Own_any _ _ _ _ _ hsl (by omega)).mono ?_; rintro e w1 ⟨a', c', rfl, hown, hb⟩)
        go_ret
        exact ⟨a', c', by rw [hlen.out]; rfl, hown, hb⟩
    · obtain rfl : k = 0 := by omega
      have hR2 : trimN xs n = 0 := hR.out
      have hsl := hfin hR2
      have hlen := Lib.hid hsl.len
      clear hfin hR2
      go_wp2_with (go_at_call 112; refine (l01Own_any _ _ _ _ _ hsl (by omega)).mono ?_; rintro e w1 ⟨a', c', rfl, hown, hb⟩)
      go_ret
      exact ⟨a', c', by rw [hlen.out]; rfl, hown, hb⟩
/-- A list of lists in memory (block b): the k-th cell holds a slice that reads as X k. -/
def Lists (w : World) (b n : Nat) (A : Nat → Option Addr) (L C : Nat → Nat) (X : Nat → List Int) : Prop :=
  ∀ j, j < n → w.cell? ⟨b, j, none⟩ = some (.slice (A j) (L j) (C j)) ∧ SL w (A j) (L j) (C j) (X j) ∧ L j ≤ 4000000
theorem Lists.below {w w' : World} {b n : Nat} {A : Nat → Option Addr} {L C : Nat → Nat} {X : Nat → List Int} (h : Lists w b n A L C X) (hb : Below w.heap.size w w') : Lists w' b n A L C X :=
  fun j hj => ⟨cell_be hb (h j hj).1, (h j hj).2.1.below hb, (h j hj).2.2⟩
def chkB (p : Int) (X : Nat → List Int) : Nat → Bool
  | 0 => true
  | k + 1 => chkB p X k && polyB p (X k)
def chkC (p : Int) (X : Nat → List Int) (n : Nat) : Int := if chkB p X n then (if primeB p then 0 else 2) else 1
theorem chkB_false (p : Int) (X : Nat → List Int) (n k : Nat) (hk : k < n) (h : polyB p (X k) = false) : chkB p X n = false := by
  induction n with
  | zero => omega
  | succ n ih =>
    unfold chkB
    by_cases e : k = n
    · subst e; simp [h]
    · rw [ih (by omega)]; rfl
set_option maxHeartbeats 1600000 in
theorem checkPolys_any (p : Int) (b n c : Nat) (A : Nat → Option Addr) (L C : Nat → Nat) (X : Nat → List Int) (w : World) (hs : Lists w b n A L C X) (hn : n ≤ 100) :
    Calls Try.prog 105 #[.int .i64 p, .slice (some ⟨b, 0, none⟩) n c] w fun e w' => e = .returned (.int .i64 (chkC p X n)) ∧ Below w.heap.size w w' := by
  go_enter Try.func105, Try.ntmps105
  go_wp2
  go_loopw [9] (fun i wr => ∃ k : Nat, k ≤ n ∧ i = .int .i64 k ∧ Hid (chkB p X k = true) ∧ Below w.heap.size w wr) (fun i _ => n - (intOf i).toNat)
  case atStart => exact ⟨0, by omega, rfl, rfl, Below.refl _ _⟩
  case round =>
    obtain ⟨k, hk, rfl, hR, hbr⟩ := hrel
    by_cases hlt : k < n
    · obtain ⟨h1, h2, h3⟩ := hs.below hbr k hlt
      cases hb : polyB p (X k)
      · have hF := Lib.hid (show chkC p X n = 1 by unfold chkC; rw [chkB_false p X n k hlt hb]; rfl)
        go_wp2_with (go_at_call 62; refine (isPoly_any _ _ _ _ _ _ h2 h3).mono ?_; rintro e w1 ⟨rfl, hb1⟩)
        go_ret
        exact ⟨ret_int hF.out.symm, hbr.trans (hb1.mono hbr.size)⟩
      · have hF := Lib.hid (show chkB p X (k + 1) = true by unfold chkB; rw [hR.out, hb]; rfl)
        go_wp2_with (go_at_call 62; refine (isPoly_any _ _ _ _ _ _ h2 h3).mono ?_; rintro e w1 ⟨rfl, hb1⟩)
        go_roundw
        case rel => exact ⟨k + 1, by omega, by go_num, hF, hbr.trans (hb1.mono hbr.size)⟩
        case measure => simp [intOf]; omega
    · obtain rfl : k = n := by omega
      cases hb : primeB p
      · have hF := Lib.hid (show chkC p X k = 2 by unfold chkC; rw [hR.out, hb]; rfl)
        go_wp2_with (go_at_call 48; refine (isPrime_any _ _).mono ?_; rintro e w1 ⟨rfl, rfl⟩)
        go_ret
        exact ⟨ret_int hF.out.symm, hbr⟩
      · have hF := Lib.hid (show chkC p X k = 0 by unfold chkC; rw [hR.out, hb]; rfl)
        go_wp2_with (go_at_call 48; refine (isPrime_any _ _).mono ?_; rintro e w1 ⟨rfl, rfl⟩)
        go_ret
        exact ⟨ret_int hF.out.symm, hbr⟩
end Go.Proofs.Ytgaafhcnfeipbaa
