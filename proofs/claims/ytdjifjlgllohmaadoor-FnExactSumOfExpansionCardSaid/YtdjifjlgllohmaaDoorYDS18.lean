/- Merged texts. -/
import Derived.Test.YtdjifjlgllohmaaDoorYDS17
import Derived.Test.YtdjifjlgllohmaaDoorYDS2
import Derived.Test.YtdjifjlgllohmaaDoorYDS6
import Derived.StillTailTactics
import Derived.IntWalk
import Derived.Deep.RegionWith
import Derived.Deep.RegionHeld3
import Derived.Deep.CutBlock
import Derived.Deep.DeepCutAuto
import Derived.Deep.LoopGhost
import Derived.Test.YtdjifjlgllohmaaDoorYDS4
import Derived.Test.YtdjifjlgllohmaaDoorYDS11
/- Contracts: ShiftMoments, CutMoments (program and model). -/
namespace Go.Proofs.YtdjifjlgllohmaaDoor
open Go.RowKit
set_option linter.unusedVariables false
set_option linter.unusedSimpArgs false

/-- The two results of a call: moments and a code. -/
def ResM (w : World) (q : Int) (v : List Int) (c : Int) (e : Ending) (w' : World) : Prop :=
  ∃ a cap, e = .returned (.tuple #[mom q a v.length cap, .int .i64 c]) ∧ OZ w.heap.size w'.heap.size w' a v.length cap v ∧ v.length ≤ 100000 ∧ Below w.heap.size w w'
theorem ResM.nil {w w' : World} {q : Int} {v : List Int} {c c' : Int} (hq : q = 0) (hv : v = []) (hc : c = c') (hb : Below w.heap.size w w') : ResM w q v c (.returned (.tuple #[mom 0 none 0 0, .int .i64 c'])) w' := by
  subst hv; subst hc; subst hq
  exact ⟨none, 0, rfl, ⟨SL.nil _, .inl rfl⟩, by simp, hb⟩
theorem ResM.own {w w' : World} {q q' : Int} {v : List Int} {c c' : Int} {a : Option Addr} {n cap : Nat} (hq : q = q') (hc : c = c') (hn : n = v.length) (ho : Own w.heap.size w' a cap v) (hl : v.length ≤ 100000) (hb : Below w.heap.size w w') : ResM w q v c (.returned (.tuple #[mom q' a n cap, .int .i64 c'])) w' := by
  subst hc; subst hn; subst hq
  exact ⟨a, cap, rfl, OZ.of ho rfl, hl, hb⟩
theorem SL.dropS {w : World} {b off n c : Nat} {xs : List Int} (h : SL w (some ⟨b, off, none⟩) n c xs) (k : Nat) (hk : k ≤ n) : SL w (some ⟨b, off + k, none⟩) (n - k) (c - k) (xs.drop k) := by
  obtain ⟨h1, ⟨h2, h2'⟩, h3⟩ := h
  refine ⟨by simp; omega, ⟨by omega, fun h => by cases h⟩, ?_⟩
  rcases h3 with h3 | ⟨b', off', he, hc⟩
  · exact .inl (by omega)
  · simp only [Option.some.injEq, Addr.mk.injEq, and_true] at he
    obtain ⟨rfl, rfl⟩ := he
    refine .inr ⟨b, off + k, rfl, fun j hj => ?_⟩
    rw [show off + k + j = off + (k + j) by omega, hc (k + j) (by omega)]
    simp
def shmC (p : Int) (xs : List Int) : Int := if momB p xs then (if xs.length = 1 then 5 else 0) else 1
def shmV (p : Int) (xs : List Int) : List Int := if shmC p xs = 0 then xs.drop 1 else []
def shmP (p : Int) (xs : List Int) : Int := if shmC p xs = 0 then p else 0
def cutC (p : Int) (xs : List Int) (k : Int) : Int := if momB p xs then (if 1 ≤ k ∧ k ≤ (xs.length : Int) then 0 else 2) else 1
def cutV (p : Int) (xs : List Int) (k : Int) : List Int := if cutC p xs k = 0 then xs.take k.toNat else []
def cutP (p : Int) (xs : List Int) (k : Int) : Int := if cutC p xs k = 0 then p else 0
end Go.Proofs.YtdjifjlgllohmaaDoor
/- Contracts: addNumber, functional at numbers, l02Apply, checkFunctional, l02Code, ApplyFunctional (program and model). -/
namespace Go.Proofs.YtdjifjlgllohmaaDoor
open Go.RowKit
set_option linter.unusedVariables false
set_option linter.unusedSimpArgs false

set_option maxHeartbeats 400000 in
theorem addNumber_any (p s k x : Int) (w : World) (hp : 2 ≤ p) (hp2 : p ≤ 10007) (hs : 0 ≤ s) (hs2 : s < p) (hk : 0 ≤ k) (hk2 : k < p) (hx : 0 ≤ x) (hx2 : x < p) :
    Calls Tryd.prog 107 #[.int .i64 p, .int .i64 s, .int .i64 k, .int .i64 x] w fun e w' => e = .returned (.int .i64 ((s + k * x) % p)) ∧ w = w' := by
  obtain ⟨m1, m2⟩ := mulb hk hk2 hx hx2 hp2
  go_enter Tryd.func107, Tryd.ntmps107
  go_wp2
  go_ret
  exact ⟨rfl, rfl⟩
set_option maxRecDepth 100000 in
set_option maxHeartbeats 1600000 in
theorem functional_int (p : Int) (a1 : Option Addr) (n1 c1 : Nat) (f : List Int) (a2 : Option Addr) (n2 c2 : Nat) (xs : List Int) (w : World) (h1 : SL w a1 n1 c1 f) (h2 : SL w a2 n2 c2 xs)
    (b1 : n1 ≤ 1000) (hn : n1 ≤ n2) (hp : 2 ≤ p) (hp2 : p ≤ 10007) (hf : areB p f = true) (hx : areB p xs = true) :
    Calls Tryd.prog 106 #[.int .i64 p, .slice a1 n1 c1, .slice a2 n2 c2, .int .i64 0, .func (.func 107) #[] #[]] w
      fun e w' => e = .returned (.int .i64 (dotK p f xs 0 f.length)) ∧ w = w' := by
  have hl1 := hide h1.len
  have Hf := hide hf
  have Hx := hide hx
  clear hf hx
  by_cases h0 : n1 = 0
  · subst h0
    have he : Hid (dotK p f xs 0 f.length = 0) := hide (by rw [hl1.out]; rfl)
    go_enter Tryd.func106, Tryd.ntmps106
    go_wp2
    refine wp_loop_rounds 1 ?_
    rw [rounds_succ]
    go_wp2
    go_ret
    exact ⟨ret_int he.out.symm, rfl⟩
  obtain ⟨b, off, rfl, hbw, hcell⟩ := h1.at (by omega)
  obtain ⟨b', off', rfl, hbw', hcell'⟩ := h2.at (by omega)
  clear h1 h2
  go_enter Tryd.func106, Tryd.ntmps106
  go_wp2
  go_loop [3, 15] (fun sv iv => ∃ i : Nat, i ≤ n1 ∧ iv = .int .i64 i ∧ sv = .int .i64 (dotK p f xs 0 i)) (fun _ iv => n1 - (intOf iv).toNat)
  case atStart => exact ⟨0, by omega, rfl, rfl⟩
  case round =>
    obtain ⟨i, hi, rfl, rfl⟩ := hrel
    by_cases hlt : i < n1
    · have e1 := hcell i hlt
      have e2 := hcell' i (by omega)
      have hst : Hid (dotK p f xs 0 (i + 1) = (dotK p f xs 0 i + f.getD i 0 * xs.getD i 0) % p) := hide (by rw [dotK, Nat.add_zero])
      have r1 := getD_rng Hf.out hp i
      have r2 := getD_rng Hx.out hp i
      have r3 := dotK_rng hp f xs 0 i
      obtain ⟨x, hx⟩ : ∃ x, f.getD i 0 = x := ⟨_, rfl⟩
      obtain ⟨y, hy⟩ : ∃ y, xs.getD i 0 = y := ⟨_, rfl⟩
      obtain ⟨s, hs⟩ : ∃ s, dotK p f xs 0 i = s := ⟨_, rfl⟩
      rw [hx] at e1 hst r1
      rw [hy] at e2 hst r2
      rw [hs] at hst r3 ⊢
      clear hx hy hs hcell hcell'
      have hlt' : (i : Int) < (n1 : Int) := by omega
      have hlt2 : (i : Int) < (n2 : Int) := by omega
      go_wp2_with (go_at_call 107; refine (addNumber_any p s x y _ hp hp2 r3.1 r3.2 r1.1 r1.2 r2.1 r2.2).mono ?_; rintro e w' ⟨rfl, rfl⟩)
      go_round
      case rel => exact ⟨i + 1, by omega, by go_num, by rw [hst.out]⟩
      case measure => simp [intOf]; omega
    · have he : Hid (i = f.length) := hide (by rw [hl1.out]; omega)
      have hlt' : ¬ (i : Int) < (n1 : Int) := by omega
      go_wp2
      go_ret
      exact ⟨ret_int (by rw [← he.out]), rfl⟩
set_option maxRecDepth 100000 in
set_option maxHeartbeats 1600000 in
theorem l02Apply_any (p : Int) (a2 : Option Addr) (n2 c2 : Nat) (xs : List Int) (a1 : Option Addr) (n1 c1 : Nat) (f : List Int) (k : Nat) (kk : Int) (w : World) (h2 : SL w a2 n2 c2 xs) (h1 : SL w a1 n1 c1 f)
    (b1 : n1 ≤ 1000) (b2 : n2 ≤ 1000) (hkk : kk = k) (hn : n1 + k ≤ n2) (hp : 2 ≤ p) (hp2 : p ≤ 10007) (hf : areB p f = true) (hx : areB p xs = true) :
    Calls Tryd.prog 81 #[mom p a2 n2 c2, .slice a1 n1 c1, .int .i64 kk] w
      fun e w' => e = .returned (.int .i64 (dotK p f xs k f.length)) ∧ Below w.heap.size w w' := by
  subst hkk
  have hl1 := hide h1.len
  have Hf := hide hf
  have Hx := hide hx
  have hb0 := bl1 w (.cells #[.int .i64 p, .slice a2 n2 c2] 30)
  clear hf hx
  by_cases h0 : n1 = 0
  · subst h0
    have he : Hid (dotK p f xs k f.length = 0) := hide (by rw [hl1.out]; rfl)
    go_enter Tryd.func81, Tryd.ntmps81
    go_wp2
    refine wp_loop_rounds 1 ?_
    rw [rounds_succ]
    go_wp2
    go_ret
    exact ⟨ret_int he.out.symm, hb0⟩
  obtain ⟨b, off, rfl, hbw, hcell⟩ := h1.at (by omega)
  obtain ⟨b', off', rfl, hbw', hcell'⟩ := h2.at (by omega)
  clear h1 h2
  have f0 : (w.alloc (.cells #[.int .i64 p, .slice (some ⟨b', off', none⟩) n2 c2] 30)).cell? ⟨w.heap.size, 0, none⟩ = some (.int .i64 p) := by simp [go_sem]
  have f1 : (w.alloc (.cells #[.int .i64 p, .slice (some ⟨b', off', none⟩) n2 c2] 30)).cell? ⟨w.heap.size, 1, none⟩ = some (.slice (some ⟨b', off', none⟩) n2 c2) := by simp [go_sem]
  go_enter Tryd.func81, Tryd.ntmps81
  go_wp2
  go_loopw [7, 8] (fun sv iv wr => ∃ i : Nat, i ≤ n1 ∧ iv = .int .i64 i ∧ sv = .int .i64 (dotK p f xs k i) ∧ wr.cell? ⟨w.heap.size, 0, none⟩ = some (.int .i64 p) ∧ wr.cell? ⟨w.heap.size, 1, none⟩ = some (.slice (some ⟨b', off', none⟩) n2 c2) ∧ Below w.heap.size w wr) (fun _ iv _ => n1 - (intOf iv).toNat)
  case atStart => exact ⟨0, by omega, rfl, rfl, f0, f1, hb0⟩
  case round =>
    obtain ⟨i, hi, rfl, rfl, g0, g1, hBr⟩ := hrel
    clear f0 f1
    by_cases hlt : i < n1
    · have e1 : wr.cell? ⟨b, off + i, none⟩ = some (.int .i64 (f.getD i 0)) := cell_be hBr (hcell i hlt)
      have e2 : wr.cell? ⟨b', off' + (i + k), none⟩ = some (.int .i64 (xs.getD (i + k) 0)) := cell_be hBr (hcell' (i + k) (by omega))
      have hst : Hid (dotK p f xs k (i + 1) = (dotK p f xs k i + f.getD i 0 * xs.getD (i + k) 0) % p) := hide (by rw [dotK])
      have r1 := getD_rng Hf.out hp i
      have r2 := getD_rng Hx.out hp (i + k)
      have r3 := dotK_rng hp f xs k i
      obtain ⟨x, hx⟩ : ∃ x, f.getD i 0 = x := ⟨_, rfl⟩
      obtain ⟨y, hy⟩ : ∃ y, xs.getD (i + k) 0 = y := ⟨_, rfl⟩
      obtain ⟨s, hs⟩ : ∃ s, dotK p f xs k i = s := ⟨_, rfl⟩
      rw [hx] at e1 hst r1
      rw [hy] at e2 hst r2
      rw [hs] at hst r3 ⊢
      clear hx hy hs hcell hcell'
      obtain ⟨m1, m2⟩ := mulb r1.1 r1.2 r2.1 r2.2 hp2
      have hlt' : (i : Int) < (n1 : Int) := by omega
      have hlt2 : (i : Int) + (k : Int) < (n2 : Int) := by omega
      have v1 : IntKind.i64.wrap ((i : Int) + (k : Int)) = (i : Int) + (k : Int) := IntWalk.i64_in _ (by omega)
      have v2 : ((i : Int) + (k : Int)).toNat = i + k := by omega
      have v3 : IntKind.i64.wrap (x * y) = x * y := IntWalk.i64_in _ (by omega)
      have v4 : IntKind.i64.wrap (s + x * y) = s + x * y := IntWalk.i64_in _ (by omega)
      have v5 : (0 : Int) ≤ (i : Int) + (k : Int) := by omega
      have v6 : (s + x * y).tmod p = (s + x * y) % p := Int.tmod_eq_emod_of_nonneg (by omega)
      go_wp2
      go_quiet (fail)
      clear v1 v2 v3 v4 v6
      go_wp2
      go_roundw
      case rel => exact ⟨i + 1, by omega, by go_num, by rw [hst.out], by simpa using g0, by simpa using g1, below_drewN hBr _⟩
      case measure => simp [intOf]; omega
    · have he : Hid (i = f.length) := hide (by rw [hl1.out]; omega)
      have hlt' : ¬ (i : Int) < (n1 : Int) := by omega
      clear hcell hcell'
      go_wp2
      go_ret
      exact ⟨ret_int (by rw [← he.out]), hBr⟩
def fnC (p : Int) (xs f : List Int) : Int := if momB p xs then (if polyB p f then (if f.length ≤ xs.length then 0 else 2) else 1) else 1
def fnV (p : Int) (xs f : List Int) : Int := if fnC p xs f = 0 then dotK p f xs 0 f.length else 0
theorem fnC_cases (p : Int) (xs f : List Int) : fnC p xs f = 1 ∨ fnC p xs f = 2 ∨ (fnC p xs f = 0 ∧ momB p xs = true ∧ polyB p f = true ∧ f.length ≤ xs.length) := by
  unfold fnC
  cases momB p xs <;> cases polyB p f <;> simp
  by_cases h : f.length ≤ xs.length
  · exact .inr (.inr h)
  · exact .inr (.inl (by omega))
end Go.Proofs.YtdjifjlgllohmaaDoor
