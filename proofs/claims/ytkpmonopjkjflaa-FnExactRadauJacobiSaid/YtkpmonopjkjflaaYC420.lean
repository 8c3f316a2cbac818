/- Merged texts. -/
import Derived.Test.YtkpmonopjkjflaaYC43
import Derived.Test.YtkpmonopjkjflaaYC49
import Derived.Maps.OwnSet
import Derived.DeepKeys4
import Derived.Test.YtkpmonopjkjflaaYC418
import Derived.Test.YtkpmonopjkjflaaYC412
import Derived.Test.YtkpmonopjkjflaaYC411
import Derived.Test.YtkpmonopjkjflaaYC416
import Derived.BigRegion
import Derived.Deep.RegionHeld3
import Derived.Deep.DeepFit
/- Contract: areDifferent, a set by a map whose keys are arrays of one number. -/
namespace Go.Proofs.Ytkpmonopjkjflaa
open Go.RowKit Go.Maps Go.WideMaps
set_option linter.unusedVariables false
set_option linter.unusedSimpArgs false

theorem laidN : laidOutB Try.prog = true := by kernel_rfl
theorem wideN : (match Try.prog.underlying 97 with | some (.array _ _) | some (.struct _) => true | _ => false) = true := by kernel_rfl
theorem rowN : (97 : TypeId) < Try.prog.types.size := of_decide_eq_true (by kernel_rfl)
set_option maxRecDepth 100000 in
theorem lawN : KeyLaw Try.prog 97 := deep_law_laid laidN (m := 2) (by omega) rowN (by kernel_rfl) wideN
theorem keyedN : Keyed Try.prog 97 := Keyed.of_law lawN
def kN (x : Int) : Lit := .string (keyBytes [.int .i64 x])
set_option maxRecDepth 100000 in
theorem keyN {x : Int} (hx : (Lit.int .i64 x).wf = true) : keyOf Try.prog 97 (.agg #[.int .i64 x]) = some (kN x) := by
  have h1 : Try.prog.keyType 97 = true := by kernel_rfl
  have h2 : Try.prog.cellsOf 97 = 1 := by kernel_rfl
  have h3 : Try.prog.cellsOf 2 = 1 := by kernel_rfl
  obtain ⟨d, hd⟩ : ∃ d, Try.prog.types.size = d + 1 := ⟨Try.prog.types.size - 1, (Nat.succ_pred_eq_of_pos (Nat.lt_of_le_of_lt (Nat.zero_le _) rowN)).symm⟩
  simp [keyOf, Try.underlying97, h1, Value.formed, h2, hd, Program.keyLits, Try.underlying2, h3, hx, Value.cells, kN]
theorem kN_inj {x y : Int} (hx : (Lit.int .i64 x).wf = true) (hy : (Lit.int .i64 y).wf = true) (h : kN x = kN y) : x = y := by
  have := lawN.inj (keyN hx) (by rw [h]; exact keyN hy)
  simpa using this
def ksN (xs : List Int) (k : Nat) : List Lit := (xs.take k).map kN
def SnN (xs : List Int) (k : Nat) : DataW Unit := setOf (.lit (.bool true)) (ksN xs k)
theorem ksN_key (xs : List Int) (k : Nat) : ∀ y ∈ ksN xs k, WideAt.IsKeyLit y := fun y hy => by
  obtain ⟨_, _, rfl⟩ := List.mem_map.1 hy
  trivial
theorem SnN_zero (xs : List Int) : SnN xs 0 = .map [] := by simp [SnN, ksN, setOf]
theorem take_snoc (xs : List Int) (k : Nat) (hk : k < xs.length) : xs.take (k + 1) = xs.take k ++ [xs.getD k 0] := by
  rw [List.take_add_one]
  simp [List.getElem?_eq_getElem hk]
theorem SnN_succ (xs : List Int) (k : Nat) (hk : k < xs.length) : SnN xs (k + 1) = (SnN xs k).put (kN (xs.getD k 0)) (.lit (.bool true)) := by
  unfold SnN ksN
  rw [take_snoc xs k hk, List.map_append]
  exact setOf_snoc _ _ _
theorem SnN_has (xs : List Int) (k : Nat) (x : Int) (hx : (Lit.int .i64 x).wf = true) (hxs : ∀ y ∈ xs, (Lit.int .i64 y).wf = true) : Maps.has (SnN xs k) (kN x) = true ↔ x ∈ xs.take k := by
  unfold SnN
  rw [has_setOf _ _ _ (ksN_key xs k), List.any_eq_true]
  constructor
  · rintro ⟨l, hl, h⟩
    obtain ⟨y, hy, rfl⟩ := List.mem_map.1 hl
    have e := kN_inj (hxs y (List.mem_of_mem_take hy)) hx (WideAt.sameKey_eq h)
    exact e ▸ hy
  · intro h
    exact ⟨kN x, List.mem_map.2 ⟨x, h, rfl⟩, WideAt.sameKey_self trivial⟩
theorem SnN_tidy (xs : List Int) (k : Nat) : Tidy (SnN xs k) := tidy_fold _ _ _ tidy_empty (ksN_key xs k)
theorem SnN_size (xs : List Int) (hxs : ∀ y ∈ xs, (Lit.int .i64 y).wf = true) : ∀ k, k ≤ xs.length → Maps.size (SnN xs k) ≤ k ∧ (Maps.size (SnN xs k) = k ↔ (xs.take k).Nodup) := by
  intro k
  induction k with
  | zero => intro _; rw [SnN_zero]; exact ⟨Nat.le_refl _, by simp [Maps.size]⟩
  | succ k ih =>
    intro hk
    obtain ⟨h1, h2⟩ := ih (by omega)
    have hx : (Lit.int .i64 (xs.getD k 0)).wf = true := hxs _ (by rw [List.getD, List.getElem?_eq_getElem (by omega)]; exact List.getElem_mem _)
    have hh := SnN_has xs k _ hx hxs
    rw [SnN_succ xs k (by omega), size_put (SnN_tidy xs k), take_snoc xs k (by omega)]
    by_cases hm : xs.getD k 0 ∈ xs.take k
    · rw [if_pos (hh.2 hm)]
      refine ⟨by omega, ⟨fun h => by omega, fun h => ?_⟩⟩
      rw [List.nodup_append] at h
      exact absurd rfl (h.2.2 _ hm _ (by simp))
    · rw [if_neg (fun h => hm (hh.1 h))]
      refine ⟨by omega, ⟨fun h => ?_, fun h => ?_⟩⟩
      · rw [List.nodup_append]
        refine ⟨h2.1 (by omega), by simp, fun a ha b hb e => ?_⟩
        simp at hb
        exact hm (by rw [List.getD]; rw [hb] at e; rw [← e]; exact ha)
      · rw [List.nodup_append] at h
        have := h2.2 h.1
        omega
def difB (xs : List Int) : Bool := decide xs.Nodup
set_option maxRecDepth 100000 in
set_option maxHeartbeats 1600000 in
theorem areDifferent_any (a : Option Addr) (n c : Nat) (xs : List Int) (w : World) (hs : SL w a n c xs) (hn : n ≤ 1000) (hxs : ∀ y ∈ xs, (Lit.int .i64 y).wf = true) :
    Calls Try.prog 131 #[.slice a n c] w fun e w' => e = .returned (.bool (difB xs)) ∧ Below w.heap.size w w' := by
  have hl := hide hs.len
  have Hx := hide hxs
  have hmm := @run_makeMap Try.prog
  have fin : ∀ m : Nat, m = n → Hid ((((Maps.size (SnN xs m) : Nat) : Int) == (n : Int)) = difB xs) := fun m e => hide (by
    subst e
    have h := (SnN_size xs hxs m (by rw [hl.out]; exact Nat.le_refl _)).2
    rw [List.take_of_length_le (by rw [hl.out]; exact Nat.le_refl _)] at h
    unfold difB
    by_cases hd : xs.Nodup
    · rw [decide_eq_true hd]; simp [h.2 hd]
    · rw [decide_eq_false hd]; simp; intro e; exact hd (h.1 (by omega)))
  clear hxs
  go_enter Try.func131, Try.ntmps131
  go_wp2
  go_loopw [8] (fun i wr => ∃ k : Nat, k ≤ n ∧ i = .int .i64 k ∧ Hid (wr.ownsMap Try.prog 97 (plainElem Try.prog 4) w.heap.size k (SnN xs k)) ∧ Below w.heap.size w wr) (fun i _ => n - (intOf i).toNat)
  case atStart => exact ⟨0, Nat.zero_le _, rfl, hide (by rw [SnN_zero]; exact World.ownsMap_made _ _ _ _), (Below.refl _ _).alloc (Nat.le_refl _) _⟩
  case round =>
    obtain ⟨k, hk, rfl, hown, hb⟩ := hrel
    by_cases hlt : k < n
    · have hlt' : (k : Int) < (n : Int) := by omega
      obtain ⟨x, hx⟩ : ∃ x, xs.getD k 0 = x := ⟨_, rfl⟩
      have hwf : (Lit.int .i64 x).wf = true := by
        rw [← hx]
        refine Hx.out _ ?_
        rw [List.getD, List.getElem?_eq_getElem (by rw [hl.out]; exact hlt)]
        exact List.getElem_mem _
      have hkey := keyN hwf
      have hst : Hid (SnN xs (k + 1) = (SnN xs k).put (kN x) (.lit (.bool true))) := hide (by rw [← hx]; exact SnN_succ xs k (by rw [hl.out]; exact hlt))
      have HX := hide hx
      clear hx
      go_wp2_with fail
      refine (numberAt_v _ n c k _ xs x _ (hs.below hb) hlt rfl (by omega) HX.out).mono ?_
      rintro e w2 ⟨rfl, hb2⟩
      have hown2 : w2.ownsMap Try.prog 97 (plainElem Try.prog 4) w.heap.size k (SnN xs k) := by
        obtain ⟨es, clock, h1, h2⟩ := hown.out
        exact ⟨es, clock, (hb2.block _ (lt_of_block h1)).trans h1, h2⟩
      have Hown2 := hide hown2
      have hb3 := hb.trans (hb2.mono hb.size)
      clear hown hown2
      go_wp2_with (at_mapUpdate; refine wpList_mapUpdate_own _ rfl _ _ _ 156 rfl 97 4 keyedN Try.underlying156 (plainElem (H := Unit) Try.prog 4) w.heap.size k _ rfl Hown2.out (by unfold maxLen; omega) _ _ _ rfl rfl hkey _ [] (plainElem_bool Try.underlying4 true) ?_; intro w3 hown3 hgrow3)
      have hown4 := hide hown3
      rw [← hst.out] at hown4
      have hb4 := hb3.grown hgrow3 hb3.size (fun j hj => by cases hj; exact Nat.le_refl _)
      clear hown3 hgrow3
      go_wp2
      go_roundw
      case rel => exact ⟨k + 1, by omega, by go_num, hown4, hb4⟩
      case measure => simp [intOf]; omega
    · have hkn : k = n := by omega
      have hF := fin k hkn
      have Hkn := hide hkn
      have hlt' : ¬ (k : Int) < (n : Int) := by omega
      clear hkn
      go_wp2_with (at_len; refine wpList_len_own _ rfl _ 156 rfl 97 4 Try.underlying156 (plainElem (H := Unit) Try.prog 4) w.heap.size k _ rfl hown.out ?_)
      go_ret
      exact ⟨ret_bool hF.out, hb⟩
end Go.Proofs.Ytkpmonopjkjflaa
/- Contracts: l01Points, interpolate, l01Interpolate, InterpolatePoly (program and model). -/
namespace Go.Proofs.Ytkpmonopjkjflaa
open Go.RowKit
set_option linter.unusedVariables false
set_option linter.unusedSimpArgs false

set_option maxRecDepth 100000 in
set_option maxHeartbeats 800000 in
theorem l01Points_f (p : Int) (a : Option Addr) (n c : Nat) (xs : List Int) (w : World) (hs : SL w a n c xs) (hn : n ≤ 4000000) (hp : -1000000000000 ≤ p) (hp2 : p ≤ 1000000000000) :
    Calls Try.prog 76 #[.int .i64 p, .slice a n c, .bool false] w fun e w' => e = .returned (.bool (areB p xs)) ∧ Below w.heap.size w w' := by
  have hl := hide hs.len
  by_cases h0 : n = 0
  · subst h0
    obtain rfl := hs.empty
    go_enter Try.func76, Try.ntmps76
    go_wp2
    refine wp_loop_rounds 1 ?_
    rw [rounds_succ]
    go_wp2
    go_ret
    exact ⟨rfl, Below.refl _ _⟩
  obtain ⟨b, off, rfl, hbw, hcell⟩ := hs.at (by omega)
  clear hs
  have hb0 := Below.refl w.heap.size w
  go_enter Try.func76, Try.ntmps76
  go_wp2
  go_loopw [7] (fun i wr => ∃ k : Nat, k ≤ n ∧ i = .int .i64 k ∧ Hid (areB p (xs.take k) = true) ∧ Below w.heap.size w wr) (fun i _ => n - (intOf i).toNat)
  case atStart => exact ⟨0, by omega, rfl, by simp [Hid, areB], hb0⟩
  case round =>
    obtain ⟨k, hk, rfl, hR, hb⟩ := hrel
    by_cases hlt : k < n
    · have e1 := cell_be hb (hcell k hlt)
      have hsn := hide (areB_snoc p xs k (by rw [hl.out]; exact hlt))
      obtain ⟨x, hx⟩ : ∃ x, x = xs.getD k 0 := ⟨_, rfl⟩
      rw [← hx] at e1
      have Hx := hide hx
      clear hx hcell
      have hlt' : (k : Int) < (n : Int) := by omega
      by_cases hok : 0 ≤ x ∧ x ≤ p - 1
      · go_wp2_with fail
        refine (l01In_yes _ _ _ _ hok.1 hok.2).mono ?_
        rintro e w' ⟨rfl, rfl⟩
        go_wp2
        refine wp_loop_rounds 1 ?_
        rw [rounds_succ]
        go_wp2
        all_goals exact ⟨⟨k + 1, by omega, by go_num, hide (by rw [hsn.out, hR.out, ← Hx.out]; simp [okN]; omega), hb⟩, by simp [intOf]; omega⟩
      · have hF : Hid (areB p xs = false) := hide (areB_false p xs k (by rw [hl.out]; exact hlt) (by rw [← Hx.out]; simp [okN]; omega))
        go_wp2_with fail
        refine (l01In_no _ _ _ _ hok).mono ?_
        rintro e w' ⟨rfl, rfl⟩
        go_wp2
        go_ret
        exact ⟨ret_bool hF.out.symm, hb⟩
    · obtain rfl : k = n := by omega
      have hF : Hid (areB p xs = true) := hide (by have := hR.out; rwa [List.take_of_length_le (by rw [hl.out]; omega)] at this)
      go_wp2
      go_ret
      exact ⟨ret_bool hF.out.symm, hb⟩
theorem nodup_snoc (xs : List Int) (k : Nat) (hk : k < xs.length) : (xs.take (k + 1)).Nodup ↔ (xs.take k).Nodup ∧ xs.getD k 0 ∉ xs.take k := by
  rw [take_snoc xs k hk, List.nodup_append]
  constructor
  · rintro ⟨h1, _, h3⟩
    exact ⟨h1, fun h => h3 _ h _ (by simp) rfl⟩
  · rintro ⟨h1, h2⟩
    exact ⟨h1, by simp, fun a ha b hb e => by simp at hb; rw [hb] at e; rw [List.getD] at h2; rw [e] at ha; exact h2 ha⟩
theorem nodup_take {xs : List Int} (h : xs.Nodup) (k : Nat) : (xs.take k).Nodup := List.Sublist.nodup (List.take_sublist k xs) h
theorem mem_take_snoc (xs : List Int) (j : Nat) (x : Int) (hj : j < xs.length) : x ∈ xs.take (j + 1) ↔ x ∈ xs.take j ∨ x = xs.getD j 0 := by
  rw [take_snoc xs j hj]; simp
set_option maxRecDepth 100000 in
set_option maxHeartbeats 1600000 in
theorem l01Points_t (p : Int) (a : Option Addr) (n c : Nat) (xs : List Int) (w : World) (hs : SL w a n c xs) (hn : n ≤ 4000000) (hp : -1000000000000 ≤ p) (hp2 : p ≤ 1000000000000) :
    Calls Try.prog 76 #[.int .i64 p, .slice a n c, .bool true] w fun e w' => e = .returned (.bool (areB p xs && difB xs)) ∧ Below w.heap.size w w' := by
  have hl := hide hs.len
  by_cases h0 : n = 0
  · subst h0
    obtain rfl := hs.empty
    go_enter Try.func76, Try.ntmps76
    go_wp2
    refine wp_loop_rounds 1 ?_
    rw [rounds_succ]
    go_wp2
    go_ret
    exact ⟨rfl, Below.refl _ _⟩
  obtain ⟨b, off, rfl, hbw, hcell'⟩ := hs.at (by omega)
  have hcell := hide hcell'
  clear hs hcell'
  have hb0 := Below.refl w.heap.size w
  go_enter Try.func76, Try.ntmps76
  go_wp2
  go_loopw [7] (fun i wr => ∃ k : Nat, k ≤ n ∧ i = .int .i64 k ∧ Hid (areB p (xs.take k) = true) ∧ Hid ((xs.take k).Nodup) ∧ Below w.heap.size w wr) (fun i _ => n - (intOf i).toNat)
  case atStart => exact ⟨0, by omega, rfl, by simp [Hid, areB], hide (by simp), hb0⟩
  case round =>
    obtain ⟨k, hk, rfl, hR, hD, hb⟩ := hrel
    by_cases hlt : k < n
    · have e1 := cell_be hb (hcell.out k hlt)
      have hsn := hide (areB_snoc p xs k (by rw [hl.out]; exact hlt))
      obtain ⟨x, hx⟩ : ∃ x, x = xs.getD k 0 := ⟨_, rfl⟩
      rw [← hx] at e1
      have Hx := hide hx
      clear hx
      have hlt' : (k : Int) < (n : Int) := by omega
      by_cases hok : 0 ≤ x ∧ x ≤ p - 1
      · go_wp2_with fail
        refine (l01In_yes _ _ _ _ hok.1 hok.2).mono ?_
        rintro e w' ⟨rfl, rfl⟩
        go_wp2
        clear hb0
        go_loopw [8] (fun j wq => ∃ m : Nat, m ≤ k ∧ j = .int .i64 m ∧ Hid (x ∉ xs.take m) ∧ Below w.heap.size w wq) (fun j _ => k - (intOf j).toNat)
        case atStart => exact ⟨0, by omega, rfl, hide (by simp), hb⟩
        case round =>
          obtain ⟨m, hm, rfl, hN, hb2⟩ := hrel
          clear hb e1
          have hk0 : (0 : Int) ≤ (k : Int) := by omega
          have hm0 : (0 : Int) ≤ (m : Int) := by omega
          by_cases hlm : m < k
          · have e1 := cell_be hb2 (hcell.out k hlt)
            rw [← Hx.out] at e1
            have e2 := cell_be hb2 (hcell.out m (by omega))
            obtain ⟨y, hy⟩ : ∃ y, y = xs.getD m 0 := ⟨_, rfl⟩
            rw [← hy] at e2
            have Hy := hide hy
            clear hy
            have hlm' : (m : Int) < (k : Int) := by omega
            have hmn : (m : Int) < (n : Int) := by omega
            by_cases hxy : y = x
            · have hF : Hid ((areB p xs && difB xs) = false) := hide (by
                have h1 : ¬ xs.Nodup := fun h => by
                  have h2 := (nodup_snoc xs k (by rw [hl.out]; exact hlt)).1 (nodup_take h (k + 1))
                  refine h2.2 ?_
                  rw [← Hx.out, ← hxy, Hy.out]
                  have h3 := (mem_take_snoc xs m (xs.getD m 0) (by rw [hl.out]; omega)).2 (.inr rfl)
                  have h4 : xs.take (m + 1) = (xs.take k).take (m + 1) := by rw [List.take_take, Nat.min_eq_left (by omega)]
                  rw [h4] at h3
                  exact List.mem_of_mem_take h3
                unfold difB
                rw [decide_eq_false h1]; simp)
              have ob : (y == x) = true := by simpa using hxy
              clear hxy
              go_wp2_with fail
              go_region
              all_goals go_wp2
              all_goals go_ret
              all_goals exact ⟨ret_bool hF.out.symm, hb2.drew⟩
            · have hN2 : Hid (x ∉ xs.take (m + 1)) := hide (by
                rw [mem_take_snoc xs m x (by rw [hl.out]; omega)]
                rintro (h | h)
                · exact hN.out h
                · exact hxy (by rw [Hy.out, h]))
              have ob : (y == x) = false := by simpa using hxy
              clear hxy
              go_wp2_with fail
              go_region
              all_goals go_wp2
              all_goals go_roundw
              all_goals first
                | exact ⟨m + 1, by omega, by go_num, hN2, hb2.drew⟩
                | (simp [intOf]; omega)
          · have hmk : m = k := by omega
            have hN2 : Hid ((xs.take (k + 1)).Nodup) := hide ((nodup_snoc xs k (by rw [hl.out]; exact hlt)).2 ⟨hD.out, by rw [← Hx.out]; have := hN.out; rwa [hmk] at this⟩)
            have hlm' : ¬ (m : Int) < (k : Int) := by omega
            clear hmk
            go_wp2
            go_roundw
            case rel => exact ⟨k + 1, by omega, by go_num, hide (by rw [hsn.out, hR.out, ← Hx.out]; simp [okN]; omega), hN2, hb2⟩
            case measure => simp [intOf]; omega
      · have hF : Hid ((areB p xs && difB xs) = false) := hide (by rw [areB_false p xs k (by rw [hl.out]; exact hlt) (by rw [← Hx.out]; simp [okN]; omega)]; rfl)
        go_wp2_with fail
        refine (l01In_no _ _ _ _ hok).mono ?_
        rintro e w' ⟨rfl, rfl⟩
        go_wp2
        go_ret
        exact ⟨ret_bool hF.out.symm, hb⟩
    · obtain rfl : k = n := by omega
      have hF : Hid ((areB p xs && difB xs) = true) := hide (by
        have h1 := hR.out
        have h2 := hD.out
        rw [List.take_of_length_le (by rw [hl.out]; omega)] at h1 h2
        unfold difB
        rw [h1, decide_eq_true h2]; rfl)
      go_wp2
      go_ret
      exact ⟨ret_bool hF.out.symm, hb⟩
theorem mulpI {p : Int} {f g : List Int} (hp : primeB p = true) (hf : polyB p f = true) (hg : polyB p g = true) (hl : (mulM p f g).length ≤ 25) : polyB p (mulM p f g) = true := by
  have hpl := primeB_lo hp
  have := polyB_trim (p := p) (xs := mulM p f g) hl (fun j hj => areB_at (mulM_areB hpl.1 f g) j hj)
  rwa [mulM_trim hp hf hg] at this
theorem timesT (p : Int) (a1 : Option Addr) (n1 c1 : Nat) (f : List Int) (a2 : Option Addr) (n2 c2 : Nat) (g : List Int) (w : World) (h1 : SL w a1 n1 c1 f) (h2 : SL w a2 n2 c2 g)
    (b1 : n1 ≤ 1000) (b2 : n2 ≤ 1000) (hp : 2 ≤ p) (hp2 : p ≤ 10007) (hf : areB p f = true) (hg : areB p g = true) (ht : trimL (mulM p f g) = mulM p f g) :
    Calls Try.prog 68 #[.int .i64 p, .slice a1 n1 c1, .slice a2 n2 c2] w fun e w' => ∃ a' c', e = .returned (.slice a' (mulM p f g).length c') ∧ Own w.heap.size w' a' c' (mulM p f g) ∧ Below w.heap.size w w' := by
  have := l01Times_any p a1 n1 c1 f a2 n2 c2 g w h1 h2 b1 b2 hp hp2 hf hg
  rwa [ht] at this
/-- The polynomial that was found, and the product of x less the nodes, behind so many nodes. -/
def itpF (p : Int) (xs ys : List Int) : Nat → List Int × List Int
  | 0 => ([], [1])
  | i + 1 =>
    let s := itpF p xs ys i
    (addM p s.1 s.2 ((ys.getD i 0 - evM p s.1 (xs.getD i 0)) % p * invM p (evM p s.2 (xs.getD i 0)) % p), mulM p s.2 (linM p (xs.getD i 0)))
theorem itp_q {p : Int} (hp : primeB p = true) (xs ys : List Int) : ∀ i, areB p (itpF p xs ys i).2 = true ∧ (itpF p xs ys i).2.length ≤ i + 1 ∧ (i ≤ 24 → polyB p (itpF p xs ys i).2 = true) := by
  have hpl := primeB_lo hp
  intro i
  induction i with
  | zero => refine ⟨?_, ?_, fun _ => ?_⟩ <;> simp [itpF, areB, okN, polyB, lastZ] <;> omega
  | succ i ih =>
    have hlen : (itpF p xs ys (i + 1)).2.length ≤ i + 1 + 1 := by
      show (mulM p (itpF p xs ys i).2 (linM p (xs.getD i 0))).length ≤ _
      rcases mulM_up (p := p) (f := (itpF p xs ys i).2) (g := linM p (xs.getD i 0)) with h | ⟨_, _, h⟩
      · omega
      · rw [h]; have : (linM p (xs.getD i 0)).length = 2 := rfl; omega
    exact ⟨mulM_are hpl.1, hlen, fun h => mulpI hp (ih.2.2 (by omega)) (linM_poly hpl.1) (by have := hlen; show (itpF p xs ys (i + 1)).2.length ≤ 25; omega)⟩
theorem itp_f {p : Int} (hp : primeB p = true) (xs ys : List Int) : ∀ i, i ≤ 25 → areB p (itpF p xs ys i).1 = true ∧ (itpF p xs ys i).1.length ≤ i := by
  have hpl := primeB_lo hp
  intro i
  induction i with
  | zero => intro _; exact ⟨rfl, by simp [itpF]⟩
  | succ i ih =>
    intro hi
    replace ih := ih (by omega)
    refine ⟨(polyB_rng (addM_poly hpl.1 (by have := ih.2; omega) (by have := (itp_q hp xs ys i).2.1; omega) ih.1)).2.1, ?_⟩
    show (addM p _ _ _).length ≤ _
    unfold addM
    refine Nat.le_trans (trimL_le _) ?_
    rw [tab_len]
    have := (itp_q hp xs ys i).2.1
    omega
theorem itp_trim {p : Int} (hp : primeB p = true) (xs ys : List Int) (i : Nat) (hi : i ≤ 24) : trimL (mulM p (itpF p xs ys i).2 (linM p (xs.getD i 0))) = mulM p (itpF p xs ys i).2 (linM p (xs.getD i 0)) :=
  mulM_trim hp ((itp_q hp xs ys i).2.2 hi) (linM_poly (primeB_lo hp).1)
def itpC (p : Int) (xs ys : List Int) : Int := if primeB p && decide (xs.length ≤ 25) && decide (ys.length = xs.length) && areB p xs && areB p ys && difB xs then 0 else 2
def itpV (p : Int) (xs ys : List Int) : List Int := if itpC p xs ys = 0 then (itpF p xs ys xs.length).1 else []
set_option maxRecDepth 100000 in
set_option maxHeartbeats 1600000 in
theorem interpolate_any (p : Int) (a1 : Option Addr) (n c1 : Nat) (xs : List Int) (a2 : Option Addr) (c2 : Nat) (ys : List Int) (w : World) (h1 : SL w a1 n c1 xs) (h2 : SL w a2 n c2 ys) (hn : n ≤ 25) (hpr : primeB p = true) (hx : areB p xs = true) (hy : areB p ys = true) :
    Calls Try.prog 189 #[.int .i64 p, .slice a1 n c1, .slice a2 n c2] w fun e w' => ∃ a' c', e = .returned (.slice a' (itpF p xs ys n).1.length c') ∧ Own w.heap.size w' a' c' (itpF p xs ys n).1 ∧ Below w.heap.size w w' := by
  obtain ⟨hp, hp2⟩ := primeB_lo hpr
  have Hp := hide hpr
  have Hx := hide hx
  have Hy := hide hy
  clear hpr hx hy
  have hb0 := bl2 w (.cells #[] 2) (.cells #[.int .i64 1] 2)
  have hF0 : Hid (Own w.heap.size ((w.alloc (.cells #[] 2)).alloc (.cells #[.int .i64 1] 2)) (some ⟨w.heap.size, 0, none⟩) 0 (itpF p xs ys 0).1) := hide (by
    have h : Own w.heap.size (w.alloc (.cells #[] 2)) (some ⟨w.heap.size, 0, none⟩) 0 [] := World.ownsRow_lit w (base := w.heap.size) (e := 2) (size := 1) #[] 0 (Nat.le_refl _) (by decide) rfl
    exact h.below (bl1 _ _))
  have hQ0 : Hid (Own w.heap.size ((w.alloc (.cells #[] 2)).alloc (.cells #[.int .i64 1] 2)) (some ⟨w.heap.size + 1, 0, none⟩) 1 (itpF p xs ys 0).2) := hide (by
    have h : Own (w.alloc (.cells #[] 2)).heap.size ((w.alloc (.cells #[] 2)).alloc (.cells #[.int .i64 1] 2)) (some ⟨(w.alloc (.cells #[] 2)).heap.size, 0, none⟩) 1 [1] := World.ownsRow_lit _ (base := (w.alloc (.cells #[] 2)).heap.size) (e := 2) (size := 1) #[.int .i64 1] 1 (Nat.le_refl _) (by decide) rfl
    simp only [World.size_alloc] at h
    exact h.mono (by omega))
  by_cases h0 : n = 0
  · subst h0
    go_enter Try.func189, Try.ntmps189
    go_wp2
    refine wp_loop_rounds 1 ?_
    rw [rounds_succ]
    go_wp2
    refine bodyPost_ret (v := .slice (some ⟨w.heap.size, 0, none⟩) 0 0) (by simp [results, Try.results189]) rfl ?_
    exact ⟨_, _, rfl, hF0.out, hb0⟩
  obtain ⟨b1, o1, rfl, hw1, hc1⟩ := h1.at (by omega)
  obtain ⟨b2, o2, rfl, hw2, hc2⟩ := h2.at (by omega)
  have H1 := hide hc1
  have H2 := hide hc2
  clear h1 h2 hc1 hc2
  go_enter Try.func189, Try.ntmps189
  go_wp2
  go_loopw [7, 8, 17] (fun fv qv iv wr => ∃ (i : Nat) (a c a' c' : _) , i ≤ n ∧ iv = .int .i64 i ∧ fv = .slice a (itpF p xs ys i).1.length c ∧ qv = .slice a' (itpF p xs ys i).2.length c' ∧ Hid (Own w.heap.size wr a c (itpF p xs ys i).1) ∧ Hid (Own w.heap.size wr a' c' (itpF p xs ys i).2) ∧ Below w.heap.size w wr) (fun _ _ iv _ => n - (intOf iv).toNat)
  case atStart => exact ⟨0, _, _, _, _, by omega, rfl, rfl, rfl, hF0, hQ0, hb0⟩
  case round =>
    obtain ⟨i, a, c, a', c', hi, rfl, rfl, rfl, hF, hQ, hb⟩ := hrel
    clear hF0 hQ0 hb0
    by_cases hlt : i < n
    · have e1 := cell_be hb (H1.out i hlt)
      have e2 := cell_be hb (H2.out i hlt)
      have r1 := getD_rng Hx.out hp i
      have r2 := getD_rng Hy.out hp i
      have tf := hide (itp_f Hp.out xs ys i (by omega))
      have tq := hide (itp_q Hp.out xs ys i)
      have hstF : Hid ((itpF p xs ys (i + 1)).1 = addM p (itpF p xs ys i).1 (itpF p xs ys i).2 ((ys.getD i 0 - evM p (itpF p xs ys i).1 (xs.getD i 0)) % p * invM p (evM p (itpF p xs ys i).2 (xs.getD i 0)) % p)) := hide rfl
      have hstQ : Hid ((itpF p xs ys (i + 1)).2 = mulM p (itpF p xs ys i).2 (linM p (xs.getD i 0))) := hide rfl
      obtain ⟨f, hf⟩ : ∃ f, (itpF p xs ys i).1 = f := ⟨_, rfl⟩
      obtain ⟨q, hq⟩ : ∃ q, (itpF p xs ys i).2 = q := ⟨_, rfl⟩
      obtain ⟨x, hx⟩ : ∃ x, xs.getD i 0 = x := ⟨_, rfl⟩
      obtain ⟨y, hy⟩ : ∃ y, ys.getD i 0 = y := ⟨_, rfl⟩
      rw [hf] at tf hF hstF ⊢
      rw [hq] at tq hQ hstF hstQ ⊢
      rw [hx] at e1 r1 hstF hstQ
      rw [hy] at e2 r2 hstF
      clear hf hq hx hy
      have lf := tf.out.2
      have lq := tq.out.2.1
      have rE := evM_rng hp f x
      have rE2 := evM_rng hp q x
      have rI := invM_rng (p := p) (evM p q x) hp
      have hsub : Hid ((y + p - evM p f x) % p = (y - evM p f x) % p) := hide (by rw [show y + p - evM p f x = y - evM p f x + p by omega, Int.add_emod_right])
      have rM := modb (x := y - evM p f x) hp
      obtain ⟨E, hE⟩ : ∃ E, evM p f x = E := ⟨_, rfl⟩
      obtain ⟨E2, hE2⟩ : ∃ E2, evM p q x = E2 := ⟨_, rfl⟩
      obtain ⟨I, hI⟩ : ∃ I, invM p E2 = I := ⟨_, rfl⟩
      obtain ⟨M, hM⟩ : ∃ M, (y - E) % p = M := ⟨_, rfl⟩
      have HE := hide hE
      have HE2 := hide hE2
      have HI := hide hI
      rw [hE] at rE hsub hstF rM
      rw [hE2] at rE2 hstF rI
      rw [hI] at rI hstF
      rw [hM] at hstF rM hsub
      clear hE hE2 hI hM
      obtain ⟨m1, m2⟩ := mulb rM.1 rM.2 rI.1 rI.2 hp2
      have rK := modb (x := M * I) hp
      have v1 : IntKind.i64.wrap (y + p) = y + p := IntWalk.i64_in _ (by omega)
      have v2 : IntKind.i64.wrap (y + p - E) = y + p - E := IntWalk.i64_in _ (by omega)
      have v3 : (y + p - E).tmod p = M := by rw [Int.tmod_eq_emod_of_nonneg (by omega)]; exact hsub.out
      have v4 : IntKind.i64.wrap M = M := IntWalk.i64_in _ (by omega)
      have v5 : IntKind.i64.wrap (M * I) = M * I := IntWalk.i64_in _ (by omega)
      have v6 : (M * I).tmod p = M * I % p := Int.tmod_eq_emod_of_nonneg (by omega)
      obtain ⟨K, hK⟩ : ∃ K, M * I % p = K := ⟨_, rfl⟩
      rw [hK] at v6 rK hstF
      have v7 : IntKind.i64.wrap K = K := IntWalk.i64_in _ (by omega)
      clear hK
      have hp0 : ¬ p = 0 := by omega
      have hlt' : (i : Int) < (n : Int) := by omega
      have hi0 : (0 : Int) ≤ (i : Int) := by omega
      have hbd := (Below.refl wr.heap.size wr).drew
      have sF := Own.sl hF.out
      have sQ := Own.sl hQ.out
      go_upto_region 5 with fail
      go_region_held3 (fun w' => w'.cell? ⟨b2, o2 + i, none⟩ = some (.int .i64 y))
        (first | exact cell_be hbd e2 | exact cell_be (by assumption) e2)
        (first | (go_at_call 105; go_fit (evaluateAt_any p x _ _ _ f _ (sF.below hbd) (by omega) hp hp2 r1.1 r1.2 tf.out.1); rintro e w1 ⟨rfl, hb1⟩; rw [HE.out]; have hm1 := bnext hbd hb1))
      have hb3 := hb.trans (hm1.mono hb.size)
      clear e1 e2 hbd
      have sF1 := sF.below hm1
      have sQ1 := sQ.below hm1
      go_wp2_with fail
      refine (evaluateAt_any p x _ _ _ q _ sQ1 (by omega) hp hp2 r1.1 r1.2 tq.out.1).mono ?_
      rintro e w2 ⟨rfl, hb2⟩
      rw [HE2.out]
      go_wp2_with fail
      refine (inverse_any p E2 _ hp hp2 rE2.1 rE2.2).mono ?_
      rintro e w3 ⟨rfl, hb4⟩
      rw [HI.out]
      have hc3 := bnext hb2 hb4
      go_wp2_with fail
      refine (addMultiple_any p K _ _ _ f _ _ _ q _ (sF1.below hc3) (sQ1.below hc3) (by omega) (by omega) hp hp2 rK.1 rK.2 tf.out.1 tq.out.1).mono ?_
      rintro e w4 ⟨aF, cF, rfl, oF, hb5⟩
      have hc4 := bnext hc3 hb5
      go_wp2_with fail
      refine (linear_any p x _ hp hp2 r1.1 r1.2).mono ?_
      rintro e w5 ⟨rfl, oL, hb6⟩
      have hc5 := bnext hc4 hb6
      have sL := Own.sl oL
      go_wp2_with fail
      refine (multiply_any p _ _ _ q _ _ _ (linM p x) _ (sQ1.below hc5) sL (by omega) (show 2 ≤ 1000 by omega) hp hp2 tq.out.1 (polyB_rng (linM_poly hp)).2.1).mono ?_
      rintro e w6 ⟨aQ, cQ, rfl, oQ, hb7⟩
      have hc6 := bnext hc5 hb7
      have hbN := hb3.trans (hc6.mono hb3.size)
      have z1 := hb3.size
      have z3 := hc3.size
      have z5 := hc5.size
      have nF : Hid (Own w.heap.size w6 aF cF (itpF p xs ys (i + 1)).1) := hide (by rw [hstF.out]; exact ((oF.below hb6).below hb7).mono (by omega))
      have nQ : Hid (Own w.heap.size w6 aQ cQ (itpF p xs ys (i + 1)).2) := hide (by rw [hstQ.out]; exact oQ.mono (by omega))
      go_wp2
      go_roundw
      case rel => exact ⟨i + 1, aF, cF, aQ, cQ, by omega, by go_num, by rw [hstF.out], by rw [hstQ.out], nF, nQ, hbN⟩
      case measure => simp [intOf]; omega
    · obtain rfl : i = n := by omega
      have hlt' : ¬ (i : Int) < (i : Int) := by omega
      have lf := hide (itp_f Hp.out xs ys i hn)
      obtain ⟨f, hf⟩ : ∃ f, (itpF p xs ys i).1 = f := ⟨_, rfl⟩
      rw [hf] at hF ⊢
      have HF := hide hf
      clear hf
      go_wp2
      refine bodyPost_ret (v := .slice a f.length c) (by simp [results, Try.results189]) rfl ?_
      rw [HF.out]
      exact ⟨_, _, rfl, hF.out, hb⟩
end Go.Proofs.Ytkpmonopjkjflaa
