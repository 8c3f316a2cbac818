/- Contracts: values of polynomials: evaluate (numbers), evaluateAt, ValueAt (program); l01At, ValueAt (model). -/
import Derived.Test.YtnojmghmkoojfaaAp
import Derived.Test.YtnojmghmkoojfaaPi
import Derived.Deep.RegionWith
import Derived.Deep.DeepCutAuto
import Derived.Deep.CutBlock
import Derived.Deep.RegionHeld3
namespace Go.Proofs.Ytnojmghmkoojfaa
open Go.RowKit
set_option linter.unusedVariables false
set_option linter.unusedSimpArgs false

/-- Horner's rule, k numbers taken in from the last one on. -/
def hor (p : Int) (f : List Int) (x : Int) : Nat → Int
  | 0 => 0
  | k + 1 => (hor p f x k * x + f.getD (f.length - 1 - k) 0) % p
def evM (p : Int) (f : List Int) (x : Int) : Int := hor p f x f.length
theorem hor_rng {p : Int} (hp : 2 ≤ p) (f : List Int) (x : Int) (k : Nat) : 0 ≤ hor p f x k ∧ hor p f x k < p := by
  cases k with
  | zero => simp [hor]; omega
  | succ k => exact modb hp
theorem evM_rng {p : Int} (hp : 2 ≤ p) (f : List Int) (x : Int) : 0 ≤ evM p f x ∧ evM p f x < p := hor_rng hp f x _
set_option maxRecDepth 100000 in
set_option maxHeartbeats 1600000 in
theorem l01At_any (p x : Int) (a1 : Option Addr) (n1 c1 : Nat) (f : List Int) (w : World) (h1 : SL w a1 n1 c1 f) (b1 : n1 ≤ 1000) (hp : 2 ≤ p) (hp2 : p ≤ 10007) (hx0 : 0 ≤ x) (hx1 : x < p) (hf : areB p f = true) :
    Calls Try.prog 117 #[.int .i64 p, .slice a1 n1 c1, .int .i64 x] w fun e w' => e = .returned (.int .i64 (evM p f x)) ∧ w = w' := by
  have hl1 := hide h1.len
  have Hf := hide hf
  clear hf
  go_enter Try.func117, Try.ntmps117
  go_wp2
  go_loop [7, 8] (fun o i => ∃ k : Nat, k ≤ n1 ∧ i = .int .i64 ((n1 : Int) - 1 - (k : Int)) ∧ o = .int .i64 (hor p f x k)) (fun _ i => (intOf i + 1).toNat)
  case atStart => exact ⟨0, by omega, by simp, rfl⟩
  case round =>
    obtain ⟨k, hk, rfl, rfl⟩ := hrel
    by_cases hlt : k < n1
    · obtain ⟨b, off, ha, hbw, hcell⟩ := h1.at (by omega)
      subst ha
      have e1 := hcell (n1 - 1 - k) (by omega)
      have hr := getD_rng Hf.out hp (n1 - 1 - k)
      have hh : Hid (hor p f x (k + 1) = (hor p f x k * x + f.getD (n1 - 1 - k) 0) % p) := hide (by rw [hor, hl1.out])
      have hv := hor_rng hp f x k
      obtain ⟨y, hy⟩ : ∃ y, f.getD (n1 - 1 - k) 0 = y := ⟨_, rfl⟩
      obtain ⟨v, hvv⟩ : ∃ v, hor p f x k = v := ⟨_, rfl⟩
      rw [hy] at e1 hr hh
      rw [hvv] at hh hv ⊢
      obtain ⟨m1, m2⟩ := mulb hv.1 hv.2 hx0 hx1 hp2
      have hge : (0 : Int) ≤ (n1 : Int) - 1 - (k : Int) := by omega
      have hkt : ((n1 : Int) - 1 - (k : Int)).toNat = n1 - 1 - k := by omega
      obtain ⟨r1, r2⟩ := hr
      clear hcell hy hvv
      go_wp2
      go_round
      case rel => exact ⟨k + 1, by omega, by go_num, by rw [hh.out]⟩
      case measure => simp [intOf]; omega
    · obtain rfl : k = n1 := by omega
      have hneg : ¬ (0 : Int) ≤ (k : Int) - 1 - (k : Int) := by omega
      have hsz : (k : Int) - 1 - (k : Int) = -1 := by omega
      have hfin : Hid (hor p f x k = evM p f x) := hide (by unfold evM; rw [hl1.out])
      rw [hsz]
      clear hsz hneg
      go_wp2
      go_ret
      exact ⟨ret_int hfin.out, rfl⟩
set_option maxHeartbeats 400000 in
theorem numAdd (p x y : Int) (b : Nat) (w : World) (hc : w.cell? ⟨b, 0, none⟩ = some (.int .i64 p)) (hx : 0 ≤ x) (hx2 : x ≤ 100140049) (hy : 0 ≤ y) (hy2 : y ≤ 100140049) (hp : 2 ≤ p) :
    Calls Try.prog 126 #[num x, num y, .pointer (some ⟨b, 0, none⟩)] w fun e w' => e = .returned (num ((x + y) % p)) ∧ Below w.heap.size w w' := by
  have hc3 := cell_al3 hc
  go_enter Try.func126, Try.ntmps126
  go_wp2
  refine bodyPost_ret (v := num ((x + y) % p)) (by simp [results, Try.results126, go_sem]) rfl ⟨rfl, ?_⟩
  exact bl3 _ _ _ _
end Go.Proofs.Ytnojmghmkoojfaa
