/- Contracts: inverse, InverseOf, PowerOf (program and model). -/
import Derived.Test.YtpoabedlcljibaaPw
import Derived.KernelRfl
namespace Go.Proofs.Ytpoabedlcljibaa
open Go.RowKit
set_option linter.unusedVariables false
set_option linter.unusedSimpArgs false

theorem num_index (v : Int) (w : World) : (Instr.index 66 (.agg #[.int .i64 v]) (.int .i64 0)).run Try.prog w = .ok (.int .i64 v) w := by kernel_rfl
set_option maxRecDepth 100000 in
set_option maxHeartbeats 400000 in
theorem inverse_any (p x : Int) (w : World) (hp : 2 ≤ p) (hp2 : p ≤ 10007) (hx : 0 ≤ x) (hx2 : x < p) :
    Calls Try.prog 74 #[.int .i64 p, .int .i64 x] w fun e w' => e = .returned (.int .i64 (invM p x)) ∧ Below w.heap.size w w' := by
  go_enter Try.func74, Try.ntmps74
  go_wp2_with fail
  refine (numbersModulo_any p _).mono ?_
  rintro e w1 ⟨rfl, hc1, hb1, hs1⟩
  go_wp2_with fail
  refine (power_num p x (p - 2) _ _ hc1 hp hp2 hx hx2 (by omega) (by omega)).mono ?_
  rintro e w2 ⟨rfl, hb2⟩
  have i0 := num_index (powM p x (p - 2))
  go_wp2
  go_ret
  exact ⟨rfl, hb1.trans (hb2.mono (by omega))⟩
set_option maxHeartbeats 400000 in
theorem l01Mod_any (p x : Int) (w : World) (hp : 2 ≤ p) (hp2 : p ≤ 10007) (_h1 : -9223372036854775808 ≤ x) (_h2 : x ≤ 9223372036854775807) :
    Calls Try.prog 85 #[.int .i64 p, .int .i64 x] w fun e w' => e = .returned (.int .i64 (x % p)) ∧ w = w' := by
  have h1 : -p < x.tmod p := by have := Int.lt_tmod_of_pos x (show 0 < p by omega); omega
  have h2 : x.tmod p < p := Int.tmod_lt_of_pos x (by omega)
  by_cases hx : 0 ≤ x
  · have h3 : x % p < p := (modb hp).2
    have h4 : 0 ≤ x % p := (modb hp).1
    have H : Hid ((x % p + p) % p = x % p) := Lib.hid (by rw [Int.add_emod_right]; exact Int.emod_eq_of_lt h4 h3)
    go_enter Try.func85, Try.ntmps85
    go_wp2
    go_ret
    exact ⟨ret_int H.out, rfl⟩
  · have H : Hid (x.tmod p % p = x % p) := Lib.hid (tmod_emod x hp)
    go_enter Try.func85, Try.ntmps85
    go_wp2
    go_ret
    exact ⟨ret_int H.out, rfl⟩
set_option maxHeartbeats 800000 in
theorem l01Power_any (p x k : Int) (w : World) (hp : 2 ≤ p) (hp2 : p ≤ 10007) (hx : 0 ≤ x) (hx2 : x < p) (hk : 0 ≤ k) (hk2 : k ≤ 1000000000) :
    Calls Try.prog 78 #[.int .i64 p, .int .i64 x, .int .i64 k] w fun e w' => e = .returned (.int .i64 (powM p x k)) ∧ w = w' := by
  have hmod := Lib.hid (Int.emod_eq_of_lt hx hx2)
  go_enter Try.func78, Try.ntmps78
  go_wp2_with fail
  refine (l01Mod_any p x _ hp hp2 (by omega) (by omega)).mono ?_
  rintro e w1 ⟨rfl, rfl⟩
  rw [hmod.out]
  go_wp2
  go_loop [2, 7, 8] (fun kv rv bv => ∃ (f : Nat) (kk bb r : Int), kv = .int .i64 kk ∧ rv = .int .i64 r ∧ bv = .int .i64 bb ∧ 0 ≤ kk ∧ kk ≤ 1000000000 ∧ 0 ≤ bb ∧ bb < p ∧ 0 ≤ r ∧ r < p ∧ Few f kk ∧ Hid (powM p x k = powLoop f p r bb kk)) (fun kv _ _ => (intOf kv).toNat)
  case atStart => exact ⟨64, k, x, 1, rfl, rfl, rfl, hk, hk2, hx, hx2, by omega, by omega, few64 hk2, rfl⟩
  case round =>
    obtain ⟨f, kk, bb, r, rfl, rfl, rfl, hk0, hk1, hb0, hbp, hr0, hrp, hf, hval⟩ := hrel
    by_cases hpos : 0 < kk
    · obtain ⟨f, rfl⟩ : ∃ g, f = g + 1 := by
        cases f with
        | zero => exact absurd hpos hf.zero
        | succ g => exact ⟨g, rfl⟩
      have m1 := mulb hr0 hrp hb0 hbp hp2
      have m2 := mulb hb0 hbp hb0 hbp hp2
      obtain ⟨m1a, m1b⟩ := m1
      obtain ⟨m2a, m2b⟩ := m2
      have n1 : 0 ≤ r * bb % p ∧ r * bb % p < p := modb hp
      have n2 : 0 ≤ bb * bb % p ∧ bb * bb % p < p := modb hp
      by_cases hodd : kk % 2 = 1
      · have hv2 : Hid (powM p x k = powLoop f p (r * bb % p) (bb * bb % p) (kk / 2)) := hide (hval.out.trans (by rw [powLoop, if_pos hpos, if_pos hodd]))
        have ob : (kk % 2 == 1) = true := by simpa using hodd
        clear hodd
        go_wp2
        go_round
        case rel => exact ⟨f, kk / 2, _, _, rfl, rfl, rfl, by omega, by omega, n2.1, n2.2, n1.1, n1.2, hf.half, hv2⟩
        case measure => simp [intOf]; omega
      · have hv2 : Hid (powM p x k = powLoop f p r (bb * bb % p) (kk / 2)) := hide (hval.out.trans (by rw [powLoop, if_pos hpos, if_neg hodd]))
        have ob : (kk % 2 == 1) = false := by simpa using hodd
        clear hodd
        go_wp2
        go_round
        case rel => exact ⟨f, kk / 2, _, _, rfl, rfl, rfl, by omega, by omega, n2.1, n2.2, hr0, hrp, hf.half, hv2⟩
        case measure => simp [intOf]; omega
    · have Hv := Lib.hid (hval.out.trans (powLoop_zero _ _ _ _ _ hpos))
      have Hm := Lib.hid (Int.emod_eq_of_lt hr0 hrp)
      go_wp2
      go_ret
      exact ⟨ret_int (by rw [Hv.out, Hm.out]), rfl⟩
set_option maxHeartbeats 400000 in
theorem l01Inverse_any (p x : Int) (w : World) (hp : 2 ≤ p) (hp2 : p ≤ 10007) (hx : 0 ≤ x) (hx2 : x < p) :
    Calls Try.prog 61 #[.int .i64 p, .int .i64 x] w fun e w' => e = .returned (.int .i64 (invM p x)) ∧ w = w' := by
  go_enter Try.func61, Try.ntmps61
  go_wp2_with fail
  refine (l01Power_any p x (p - 2) _ hp hp2 hx hx2 (by omega) (by omega)).mono ?_
  rintro e w1 ⟨rfl, rfl⟩
  go_wp2
  go_ret
  exact ⟨rfl, rfl⟩
/-- What InverseOf and PowerOf answer. -/
def invOk (p x : Int) : Bool := primeB p && decide (1 ≤ x ∧ x < p)
def invOfV (p x : Int) : Int := if invOk p x then invM p x else 0
def invOfC (p x : Int) : Int := if invOk p x then 0 else 2
def powOk (p x k : Int) : Bool := primeB p && decide (0 ≤ x ∧ x < p ∧ 0 ≤ k ∧ k ≤ 1000000000)
def powOfV (p x k : Int) : Int := if powOk p x k then powM p x k else 0
def powOfC (p x k : Int) : Int := if powOk p x k then 0 else 2
theorem ret_int2 {a b c d : Int} (h : a = c) (h' : b = d) : Ending.returned (.tuple #[.int .i64 a, .int .i64 b]) = .returned (.tuple #[.int .i64 c, .int .i64 d]) := by rw [h, h']
end Go.Proofs.Ytpoabedlcljibaa
