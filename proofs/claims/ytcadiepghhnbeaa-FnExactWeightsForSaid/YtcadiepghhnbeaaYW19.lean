/- Merged texts. -/
import Derived.Test.YtcadiepghhnbeaaYW15
import Derived.Test.YtcadiepghhnbeaaYW16
import Derived.Test.YtcadiepghhnbeaaYW18
import Derived.Deep.LoopGhost
import Derived.StillTailTactics
import Derived.IntWalk
import Derived.Test.YtcadiepghhnbeaaYW11
import Derived.Maps.OwnSet
import Derived.DeepKeys4
/- Contracts: divide (program). -/
namespace Go.Proofs.Ytcadiepghhnbeaa
open Go.RowKit
set_option linter.unusedVariables false
set_option linter.unusedSimpArgs false

/-- A pair of lists as the call's result: the first lies below M, the second from M on. -/
def Pair (w : World) (q r : List Int) (e : Ending) (w' : World) : Prop :=
  ∃ a1 c1 a2 c2 M, e = .returned (.tuple #[.slice a1 q.length c1, .slice a2 r.length c2]) ∧ OZ w.heap.size M w' a1 q.length c1 q ∧ OZ M w'.heap.size w' a2 r.length c2 r ∧ w.heap.size ≤ M ∧ M ≤ w'.heap.size ∧ Below w.heap.size w w'
theorem Pair.mk {w w' : World} {q r : List Int} {a1 a2 : Option Addr} {n1 n2 c1 c2 M : Nat} (h1 : n1 = q.length) (h2 : n2 = r.length) (o1 : OZ w.heap.size M w' a1 n1 c1 q) (o2 : OZ M w'.heap.size w' a2 n2 c2 r) (hM : w.heap.size ≤ M) (hM' : M ≤ w'.heap.size) (hb : Below w.heap.size w w') :
    Pair w q r (.returned (.tuple #[.slice a1 n1 c1, .slice a2 n2 c2])) w' := by
  subst h1; subst h2
  exact ⟨a1, c1, a2, c2, M, rfl, o1, o2, hM, hM', hb⟩
theorem quoM_short {p : Int} {f g : List Int} (h : f.length < g.length) : quoM p f g = [] ∧ remM p f g = f := by
  unfold quoM remM
  rw [if_pos h, if_pos h]
  exact ⟨rfl, rfl⟩
theorem quoM_long {p inv : Int} {f g : List Int} {D n2 : Nat} (hg : g.length = n2) (h : f.length = D + n2) (hi : inv = invM p (g.getD (n2 - 1) 0)) : quoM p f g = trimL (tab (D + 1) (divQ p inv f g D (D + 1))) ∧ remM p f g = trimL (tab (D + n2) (divR p inv f g D (D + 1))) := by
  unfold quoM remM
  rw [if_neg (by omega), if_neg (by omega), hg, h, hi, Nat.add_sub_cancel]
  exact ⟨rfl, rfl⟩
end Go.Proofs.Ytcadiepghhnbeaa
/- Contract: areDifferent, a set by a map whose keys are arrays of one number. -/
namespace Go.Proofs.Ytcadiepghhnbeaa
open Go.RowKit Go.Maps Go.WideMaps
set_option linter.unusedVariables false
set_option linter.unusedSimpArgs false

theorem laidN : laidOutB Try.prog = true := by kernel_rfl
theorem wideN : (match Try.prog.underlying 112 with | some (.array _ _) | some (.struct _) => true | _ => false) = true := by kernel_rfl
theorem rowN : (112 : TypeId) < Try.prog.types.size := of_decide_eq_true (by kernel_rfl)
set_option maxRecDepth 100000 in
theorem lawN : KeyLaw Try.prog 112 := deep_law_laid laidN (m := 2) (by omega) rowN (by kernel_rfl) wideN
theorem keyedN : Keyed Try.prog 112 := Keyed.of_law lawN
def kN (x : Int) : Lit := .string (keyBytes [.int .i64 x])
set_option maxRecDepth 100000 in
theorem keyN {x : Int} (hx : (Lit.int .i64 x).wf = true) : keyOf Try.prog 112 (.agg #[.int .i64 x]) = some (kN x) := by
  have h1 : Try.prog.keyType 112 = true := by kernel_rfl
  have h2 : Try.prog.cellsOf 112 = 1 := by kernel_rfl
  have h3 : Try.prog.cellsOf 2 = 1 := by kernel_rfl
  obtain ⟨d, hd⟩ : ∃ d, Try.prog.types.size = d + 1 := ⟨Try.prog.types.size - 1, (Nat.succ_pred_eq_of_pos (Nat.lt_of_le_of_lt (Nat.zero_le _) rowN)).symm⟩
  simp [keyOf, Try.underlying112, h1, Value.formed, h2, hd, Program.keyLits, Try.underlying2, h3, hx, Value.cells, kN]
theorem kN_inj {x y : Int} (hx : (Lit.int .i64 x).wf = true) (hy : (Lit.int .i64 y).wf = true) (h : kN x = kN y) : x = y := by
  have := lawN.inj (keyN hx) (by rw [h]; exact keyN hy)
  simpa using this
def ksN (xs : List Int) (k : Nat) : List Lit := (xs.take k).map kN
def SnN (xs : List Int) (k : Nat) : DataW Unit := setOf (.lit (.bool true)) (ksN xs k)
theorem ksN_key (xs : List Int) (k : Nat) : ∀ y ∈ ksN xs k, WideAt.IsKeyLit y := fun y hy => by
  obtain ⟨_, _, rfl⟩ := List.mem_map.1 hy
  trivial
theorem SnN_zero (xs : List Int) : SnN xs 0 = .map [] := by simp [SnN, ksN, setOf]
theorem take_snoc (xs : List Int) (k : Nat) (hk : k < xs.length) : xs.take (k + 1) = xs.take k ++ [xs.getD k 0] := by
  rw [List.take_add_one]
  simp [List.getElem?_eq_getElem hk]
theorem SnN_succ (xs : List Int) (k : Nat) (hk : k < xs.length) : SnN xs (k + 1) = (SnN xs k).put (kN (xs.getD k 0)) (.lit (.bool true)) := by
  unfold SnN ksN
  rw [take_snoc xs k hk, List.map_append]
  exact setOf_snoc _ _ _
theorem SnN_has (xs : List Int) (k : Nat) (x : Int) (hx : (Lit.int .i64 x).wf = true) (hxs : ∀ y ∈ xs, (Lit.int .i64 y).wf = true) : Maps.has (SnN xs k) (kN x) = true ↔ x ∈ xs.take k := by
  unfold SnN
  rw [has_setOf _ _ _ (ksN_key xs k), List.any_eq_true]
  constructor
  · rintro ⟨l, hl, h⟩
    obtain ⟨y, hy, rfl⟩ := List.mem_map.1 hl
    have e := kN_inj (hxs y (List.mem_of_mem_take hy)) hx (WideAt.sameKey_eq h)
    exact e ▸ hy
  · intro h
    exact ⟨kN x, List.mem_map.2 ⟨x, h, rfl⟩, WideAt.sameKey_self trivial⟩
theorem SnN_tidy (xs : List Int) (k : Nat) : Tidy (SnN xs k) := tidy_fold _ _ _ tidy_empty (ksN_key xs k)
theorem SnN_size (xs : List Int) (hxs : ∀ y ∈ xs, (Lit.int .i64 y).wf = true) : ∀ k, k ≤ xs.length → Maps.size (SnN xs k) ≤ k ∧ (Maps.size (SnN xs k) = k ↔ (xs.take k).Nodup) := by
  intro k
  induction k with
  | zero => intro _; rw [SnN_zero]; exact ⟨Nat.le_refl _, by simp [Maps.size]⟩
  | succ k ih =>
    intro hk
    obtain ⟨h1, h2⟩ := ih (by omega)
    have hx : (Lit.int .i64 (xs.getD k 0)).wf = true := hxs _ (by rw [List.getD, List.getElem?_eq_getElem (by omega)]; exact List.getElem_mem _)
    have hh := SnN_has xs k _ hx hxs
    rw [SnN_succ xs k (by omega), size_put (SnN_tidy xs k), take_snoc xs k (by omega)]
    by_cases hm : xs.getD k 0 ∈ xs.take k
    · rw [if_pos (hh.2 hm)]
      refine ⟨by omega, ⟨fun h => by omega, fun h => ?_⟩⟩
      rw [List.nodup_append] at h
      exact absurd rfl (h.2.2 _ hm _ (by simp))
    · rw [if_neg (fun h => hm (hh.1 h))]
      refine ⟨by omega, ⟨fun h => ?_, fun h => ?_⟩⟩
      · rw [List.nodup_append]
        refine ⟨h2.1 (by omega), by simp, fun a ha b hb e => ?_⟩
        simp at hb
        exact hm (by rw [List.getD]; rw [hb] at e; rw [← e]; exact ha)
      · rw [List.nodup_append] at h
        have := h2.2 h.1
        omega
def difB (xs : List Int) : Bool := decide xs.Nodup
set_option maxRecDepth 100000 in
set_option maxHeartbeats 1600000 in
theorem areDifferent_any (a : Option Addr) (n c : Nat) (xs : List Int) (w : World) (hs : SL w a n c xs) (hn : n ≤ 1000) (hxs : ∀ y ∈ xs, (Lit.int .i64 y).wf = true) :
    Calls Try.prog 83 #[.slice a n c] w fun e w' => e = .returned (.bool (difB xs)) ∧ Below w.heap.size w w' := by
  have hl := hide hs.len
  have Hx := hide hxs
  have hmm := @run_makeMap Try.prog
  have fin : ∀ m : Nat, m = n → Hid ((((Maps.size (SnN xs m) : Nat) : Int) == (n : Int)) = difB xs) := fun m e => hide (by
    subst e
    have h := (SnN_size xs hxs m (by rw [hl.out]; exact Nat.le_refl _)).2
    rw [List.take_of_length_le (by rw [hl.out]; exact Nat.le_refl _)] at h
    unfold difB
    by_cases hd : xs.Nodup
    · rw [decide_eq_true hd]; simp [h.2 hd]
    · rw [decide_eq_false hd]; simp; intro e; exact hd (h.1 (by omega)))
  clear hxs
  go_enter Try.func83, Try.ntmps83
  go_wp2
  go_loopw [8] (fun i wr => ∃ k : Nat, k ≤ n ∧ i = .int .i64 k ∧ Hid (wr.ownsMap Try.prog 112 (plainElem Try.prog 4) w.heap.size k (SnN xs k)) ∧ Below w.heap.size w wr) (fun i _ => n - (intOf i).toNat)
  case atStart => exact ⟨0, Nat.zero_le _, rfl, hide (by rw [SnN_zero]; exact World.ownsMap_made _ _ _ _), (Below.refl _ _).alloc (Nat.le_refl _) _⟩
  case round =>
    obtain ⟨k, hk, rfl, hown, hb⟩ := hrel
    by_cases hlt : k < n
    · have hlt' : (k : Int) < (n : Int) := by omega
      obtain ⟨x, hx⟩ : ∃ x, xs.getD k 0 = x := ⟨_, rfl⟩
      have hwf : (Lit.int .i64 x).wf = true := by
        rw [← hx]
        refine Hx.out _ ?_
        rw [List.getD, List.getElem?_eq_getElem (by rw [hl.out]; exact hlt)]
        exact List.getElem_mem _
      have hkey := keyN hwf
      have hst : Hid (SnN xs (k + 1) = (SnN xs k).put (kN x) (.lit (.bool true))) := hide (by rw [← hx]; exact SnN_succ xs k (by rw [hl.out]; exact hlt))
      have HX := hide hx
      clear hx
      go_wp2_with fail
      refine (numberAt_v _ n c k _ xs x _ (hs.below hb) hlt rfl (by omega) HX.out).mono ?_
      rintro e w2 ⟨rfl, hb2⟩
      have hown2 : w2.ownsMap Try.prog 112 (plainElem Try.prog 4) w.heap.size k (SnN xs k) := by
        obtain ⟨es, clock, h1, h2⟩ := hown.out
        exact ⟨es, clock, (hb2.block _ (lt_of_block h1)).trans h1, h2⟩
      have Hown2 := hide hown2
      have hb3 := hb.trans (hb2.mono hb.size)
      clear hown hown2
      go_wp2_with (at_mapUpdate; refine wpList_mapUpdate_own _ rfl _ _ _ 110 rfl 112 4 keyedN Try.underlying110 (plainElem (H := Unit) Try.prog 4) w.heap.size k _ rfl Hown2.out (by unfold maxLen; omega) _ _ _ rfl rfl hkey _ [] (plainElem_bool Try.underlying4 true) ?_; intro w3 hown3 hgrow3)
      have hown4 := hide hown3
      rw [← hst.out] at hown4
      have hb4 := hb3.grown hgrow3 hb3.size (fun j hj => by cases hj; exact Nat.le_refl _)
      clear hown3 hgrow3
      go_wp2
      go_roundw
      case rel => exact ⟨k + 1, by omega, by go_num, hown4, hb4⟩
      case measure => simp [intOf]; omega
    · have hkn : k = n := by omega
      have hF := fin k hkn
      have Hkn := hide hkn
      have hlt' : ¬ (k : Int) < (n : Int) := by omega
      clear hkn
      go_wp2_with (at_len; refine wpList_len_own _ rfl _ 110 rfl 112 4 Try.underlying110 (plainElem (H := Unit) Try.prog 4) w.heap.size k _ rfl hown.out ?_)
      go_ret
      exact ⟨ret_bool hF.out, hb⟩
end Go.Proofs.Ytcadiepghhnbeaa
