/- Merged texts. -/
import Derived.Test.YtpoabedlcljibaaYW130
/- Contracts: l10Known, l10Alpha, l10Beta (model). -/
namespace Go.Proofs.Ytpoabedlcljibaa
open Go.RowKit Go.Maps Go.WideMaps
set_option linter.unusedVariables false
set_option linter.unusedSimpArgs false

theorem l10Known_0 (w : World) : Calls Try.prog 58 #[.string nm0] w fun e w' => e = .returned (.bool true) ∧ w = w' := by
  have q0 : nm0.toList = [104, 101, 114, 109, 105, 116, 101] := by simp [nm0]
  have q1 : ¬ (nm0.toList = [108, 97, 103, 117, 101, 114, 114, 101]) := by simp [nm0]
  have q2 : ¬ (nm0.toList = [112, 111, 105, 115, 115, 111, 110]) := by simp [nm0]
  have q3 : ¬ (nm0.toList = [99, 97, 116, 97, 108, 97, 110]) := by simp [nm0]
  have q4 : ¬ (nm0.toList = [115, 101, 99, 111, 110, 100]) := by simp [nm0]
  have q5 : ¬ (nm0.toList = [108, 101, 103, 101, 110, 100, 114, 101]) := by simp [nm0]
  go_enter Try.func58, Try.ntmps58
  go_wp2
  go_ret
  exact ⟨rfl, rfl⟩
theorem l10Known_1 (w : World) : Calls Try.prog 58 #[.string nm1] w fun e w' => e = .returned (.bool true) ∧ w = w' := by
  have q0 : ¬ (nm1.toList = [104, 101, 114, 109, 105, 116, 101]) := by simp [nm1]
  have q1 : nm1.toList = [108, 97, 103, 117, 101, 114, 114, 101] := by simp [nm1]
  have q2 : ¬ (nm1.toList = [112, 111, 105, 115, 115, 111, 110]) := by simp [nm1]
  have q3 : ¬ (nm1.toList = [99, 97, 116, 97, 108, 97, 110]) := by simp [nm1]
  have q4 : ¬ (nm1.toList = [115, 101, 99, 111, 110, 100]) := by simp [nm1]
  have q5 : ¬ (nm1.toList = [108, 101, 103, 101, 110, 100, 114, 101]) := by simp [nm1]
  go_enter Try.func58, Try.ntmps58
  go_wp2
  go_ret
  exact ⟨rfl, rfl⟩
theorem l10Known_2 (w : World) : Calls Try.prog 58 #[.string nm2] w fun e w' => e = .returned (.bool true) ∧ w = w' := by
  have q0 : ¬ (nm2.toList = [104, 101, 114, 109, 105, 116, 101]) := by simp [nm2]
  have q1 : ¬ (nm2.toList = [108, 97, 103, 117, 101, 114, 114, 101]) := by simp [nm2]
  have q2 : nm2.toList = [112, 111, 105, 115, 115, 111, 110] := by simp [nm2]
  have q3 : ¬ (nm2.toList = [99, 97, 116, 97, 108, 97, 110]) := by simp [nm2]
  have q4 : ¬ (nm2.toList = [115, 101, 99, 111, 110, 100]) := by simp [nm2]
  have q5 : ¬ (nm2.toList = [108, 101, 103, 101, 110, 100, 114, 101]) := by simp [nm2]
  go_enter Try.func58, Try.ntmps58
  go_wp2
  go_ret
  exact ⟨rfl, rfl⟩
theorem l10Known_3 (w : World) : Calls Try.prog 58 #[.string nm3] w fun e w' => e = .returned (.bool true) ∧ w = w' := by
  have q0 : ¬ (nm3.toList = [104, 101, 114, 109, 105, 116, 101]) := by simp [nm3]
  have q1 : ¬ (nm3.toList = [108, 97, 103, 117, 101, 114, 114, 101]) := by simp [nm3]
  have q2 : ¬ (nm3.toList = [112, 111, 105, 115, 115, 111, 110]) := by simp [nm3]
  have q3 : nm3.toList = [99, 97, 116, 97, 108, 97, 110] := by simp [nm3]
  have q4 : ¬ (nm3.toList = [115, 101, 99, 111, 110, 100]) := by simp [nm3]
  have q5 : ¬ (nm3.toList = [108, 101, 103, 101, 110, 100, 114, 101]) := by simp [nm3]
  go_enter Try.func58, Try.ntmps58
  go_wp2
  go_ret
  exact ⟨rfl, rfl⟩
theorem l10Known_4 (w : World) : Calls Try.prog 58 #[.string nm4] w fun e w' => e = .returned (.bool true) ∧ w = w' := by
  have q0 : ¬ (nm4.toList = [104, 101, 114, 109, 105, 116, 101]) := by simp [nm4]
  have q1 : ¬ (nm4.toList = [108, 97, 103, 117, 101, 114, 114, 101]) := by simp [nm4]
  have q2 : ¬ (nm4.toList = [112, 111, 105, 115, 115, 111, 110]) := by simp [nm4]
  have q3 : ¬ (nm4.toList = [99, 97, 116, 97, 108, 97, 110]) := by simp [nm4]
  have q4 : nm4.toList = [115, 101, 99, 111, 110, 100] := by simp [nm4]
  have q5 : ¬ (nm4.toList = [108, 101, 103, 101, 110, 100, 114, 101]) := by simp [nm4]
  go_enter Try.func58, Try.ntmps58
  go_wp2
  go_ret
  exact ⟨rfl, rfl⟩
theorem l10Known_5 (w : World) : Calls Try.prog 58 #[.string nm5] w fun e w' => e = .returned (.bool true) ∧ w = w' := by
  have q0 : ¬ (nm5.toList = [104, 101, 114, 109, 105, 116, 101]) := by simp [nm5]
  have q1 : ¬ (nm5.toList = [108, 97, 103, 117, 101, 114, 114, 101]) := by simp [nm5]
  have q2 : ¬ (nm5.toList = [112, 111, 105, 115, 115, 111, 110]) := by simp [nm5]
  have q3 : ¬ (nm5.toList = [99, 97, 116, 97, 108, 97, 110]) := by simp [nm5]
  have q4 : ¬ (nm5.toList = [115, 101, 99, 111, 110, 100]) := by simp [nm5]
  have q5 : nm5.toList = [108, 101, 103, 101, 110, 100, 114, 101] := by simp [nm5]
  go_enter Try.func58, Try.ntmps58
  go_wp2
  go_ret
  exact ⟨rfl, rfl⟩
theorem l10Known_no (s : ByteArray) (h0 : s ≠ nm0) (h1 : s ≠ nm1) (h2 : s ≠ nm2) (h3 : s ≠ nm3) (h4 : s ≠ nm4) (h5 : s ≠ nm5) (w : World) : Calls Try.prog 58 #[.string s] w fun e w' => e = .returned (.bool false) ∧ w = w' := by
  have q0 : ¬ (s.toList = [104, 101, 114, 109, 105, 116, 101]) := fun e => h0 (by apply ByteArray.ext; apply Array.ext'; rw [ByteArray.toList_eq] at e; simpa [nm0] using e)
  have q1 : ¬ (s.toList = [108, 97, 103, 117, 101, 114, 114, 101]) := fun e => h1 (by apply ByteArray.ext; apply Array.ext'; rw [ByteArray.toList_eq] at e; simpa [nm1] using e)
  have q2 : ¬ (s.toList = [112, 111, 105, 115, 115, 111, 110]) := fun e => h2 (by apply ByteArray.ext; apply Array.ext'; rw [ByteArray.toList_eq] at e; simpa [nm2] using e)
  have q3 : ¬ (s.toList = [99, 97, 116, 97, 108, 97, 110]) := fun e => h3 (by apply ByteArray.ext; apply Array.ext'; rw [ByteArray.toList_eq] at e; simpa [nm3] using e)
  have q4 : ¬ (s.toList = [115, 101, 99, 111, 110, 100]) := fun e => h4 (by apply ByteArray.ext; apply Array.ext'; rw [ByteArray.toList_eq] at e; simpa [nm4] using e)
  have q5 : ¬ (s.toList = [108, 101, 103, 101, 110, 100, 114, 101]) := fun e => h5 (by apply ByteArray.ext; apply Array.ext'; rw [ByteArray.toList_eq] at e; simpa [nm5] using e)
  go_enter Try.func58, Try.ntmps58
  go_wp2
  go_ret
  exact ⟨by simp [q0, q1, q2, q3, q4, q5], rfl⟩
theorem l10Known_any (s : ByteArray) (w : World) : Calls Try.prog 58 #[.string s] w fun e w' => e = .returned (.bool (decide (famI s < 6))) ∧ w = w' := by
  obtain ⟨f0, f1, f2, f3, f4, f5⟩ := famI_nm
  rcases famI_cases s with rfl | rfl | rfl | rfl | rfl | rfl | ⟨h, h0, h1, h2, h3, h4, h5⟩
  · rw [f0]; exact l10Known_0 w
  · rw [f1]; exact l10Known_1 w
  · rw [f2]; exact l10Known_2 w
  · rw [f3]; exact l10Known_3 w
  · rw [f4]; exact l10Known_4 w
  · rw [f5]; exact l10Known_5 w
  · rw [h]; exact l10Known_no s h0 h1 h2 h3 h4 h5 w
theorem l10Alpha_0 (k : Nat) (hk : k ≤ 12) (w : World) : Calls Try.prog 60 #[.string nm0, .int .i64 k] w fun e w' => e = .returned (.int .i64 (faA 0 k)) ∧ w = w' := by
  have q0 : nm0.toList = [104, 101, 114, 109, 105, 116, 101] := by simp [nm0]
  have q1 : ¬ (nm0.toList = [108, 97, 103, 117, 101, 114, 114, 101]) := by simp [nm0]
  have q2 : ¬ (nm0.toList = [112, 111, 105, 115, 115, 111, 110]) := by simp [nm0]
  have q3 : ¬ (nm0.toList = [99, 97, 116, 97, 108, 97, 110]) := by simp [nm0]
  have q4 : ¬ (nm0.toList = [115, 101, 99, 111, 110, 100]) := by simp [nm0]
  have q5 : ¬ (nm0.toList = [108, 101, 103, 101, 110, 100, 114, 101]) := by simp [nm0]
  have v2 : IntKind.i64.wrap (2 * (k : Int)) = 2 * (k : Int) := IntWalk.i64_in _ (by omega)
  have v3 : IntKind.i64.wrap (2 * (k : Int) + 1) = 2 * (k : Int) + 1 := IntWalk.i64_in _ (by omega)
  have v4 : IntKind.i64.wrap ((k : Int) + 1) = (k : Int) + 1 := IntWalk.i64_in _ (by omega)
  go_enter Try.func60, Try.ntmps60
  go_wp2
  go_ret
  exact ⟨by simp [faA], rfl⟩
theorem l10Alpha_1 (k : Nat) (hk : k ≤ 12) (w : World) : Calls Try.prog 60 #[.string nm1, .int .i64 k] w fun e w' => e = .returned (.int .i64 (faA 1 k)) ∧ w = w' := by
  have q0 : ¬ (nm1.toList = [104, 101, 114, 109, 105, 116, 101]) := by simp [nm1]
  have q1 : nm1.toList = [108, 97, 103, 117, 101, 114, 114, 101] := by simp [nm1]
  have q2 : ¬ (nm1.toList = [112, 111, 105, 115, 115, 111, 110]) := by simp [nm1]
  have q3 : ¬ (nm1.toList = [99, 97, 116, 97, 108, 97, 110]) := by simp [nm1]
  have q4 : ¬ (nm1.toList = [115, 101, 99, 111, 110, 100]) := by simp [nm1]
  have q5 : ¬ (nm1.toList = [108, 101, 103, 101, 110, 100, 114, 101]) := by simp [nm1]
  have v2 : IntKind.i64.wrap (2 * (k : Int)) = 2 * (k : Int) := IntWalk.i64_in _ (by omega)
  have v3 : IntKind.i64.wrap (2 * (k : Int) + 1) = 2 * (k : Int) + 1 := IntWalk.i64_in _ (by omega)
  have v4 : IntKind.i64.wrap ((k : Int) + 1) = (k : Int) + 1 := IntWalk.i64_in _ (by omega)
  go_enter Try.func60, Try.ntmps60
  go_wp2
  go_ret
  exact ⟨by simp [faA], rfl⟩
theorem l10Alpha_2 (k : Nat) (hk : k ≤ 12) (w : World) : Calls Try.prog 60 #[.string nm2, .int .i64 k] w fun e w' => e = .returned (.int .i64 (faA 2 k)) ∧ w = w' := by
  have q0 : ¬ (nm2.toList = [104, 101, 114, 109, 105, 116, 101]) := by simp [nm2]
  have q1 : ¬ (nm2.toList = [108, 97, 103, 117, 101, 114, 114, 101]) := by simp [nm2]
  have q2 : nm2.toList = [112, 111, 105, 115, 115, 111, 110] := by simp [nm2]
  have q3 : ¬ (nm2.toList = [99, 97, 116, 97, 108, 97, 110]) := by simp [nm2]
  have q4 : ¬ (nm2.toList = [115, 101, 99, 111, 110, 100]) := by simp [nm2]
  have q5 : ¬ (nm2.toList = [108, 101, 103, 101, 110, 100, 114, 101]) := by simp [nm2]
  have v2 : IntKind.i64.wrap (2 * (k : Int)) = 2 * (k : Int) := IntWalk.i64_in _ (by omega)
  have v3 : IntKind.i64.wrap (2 * (k : Int) + 1) = 2 * (k : Int) + 1 := IntWalk.i64_in _ (by omega)
  have v4 : IntKind.i64.wrap ((k : Int) + 1) = (k : Int) + 1 := IntWalk.i64_in _ (by omega)
  go_enter Try.func60, Try.ntmps60
  go_wp2
  go_ret
  exact ⟨by simp [faA], rfl⟩
theorem l10Alpha_3 (k : Nat) (hk : k ≤ 12) (w : World) : Calls Try.prog 60 #[.string nm3, .int .i64 k] w fun e w' => e = .returned (.int .i64 (faA 3 k)) ∧ w = w' := by
  have q0 : ¬ (nm3.toList = [104, 101, 114, 109, 105, 116, 101]) := by simp [nm3]
  have q1 : ¬ (nm3.toList = [108, 97, 103, 117, 101, 114, 114, 101]) := by simp [nm3]
  have q2 : ¬ (nm3.toList = [112, 111, 105, 115, 115, 111, 110]) := by simp [nm3]
  have q3 : nm3.toList = [99, 97, 116, 97, 108, 97, 110] := by simp [nm3]
  have q4 : ¬ (nm3.toList = [115, 101, 99, 111, 110, 100]) := by simp [nm3]
  have q5 : ¬ (nm3.toList = [108, 101, 103, 101, 110, 100, 114, 101]) := by simp [nm3]
  by_cases h0 : k = 0
  · subst h0
    go_enter Try.func60, Try.ntmps60
    go_wp2
    go_ret
    exact ⟨by simp [faA], rfl⟩
  · have k0 : ¬ (k : Int) = 0 := by omega
    have kb : ((k : Int) == 0) = false := by simpa using h0
    go_enter Try.func60, Try.ntmps60
    go_wp2
    go_ret
    exact ⟨by simp [faA, h0], rfl⟩
theorem l10Alpha_4 (k : Nat) (hk : k ≤ 12) (w : World) : Calls Try.prog 60 #[.string nm4, .int .i64 k] w fun e w' => e = .returned (.int .i64 (faA 4 k)) ∧ w = w' := by
  have q0 : ¬ (nm4.toList = [104, 101, 114, 109, 105, 116, 101]) := by simp [nm4]
  have q1 : ¬ (nm4.toList = [108, 97, 103, 117, 101, 114, 114, 101]) := by simp [nm4]
  have q2 : ¬ (nm4.toList = [112, 111, 105, 115, 115, 111, 110]) := by simp [nm4]
  have q3 : ¬ (nm4.toList = [99, 97, 116, 97, 108, 97, 110]) := by simp [nm4]
  have q4 : nm4.toList = [115, 101, 99, 111, 110, 100] := by simp [nm4]
  have q5 : ¬ (nm4.toList = [108, 101, 103, 101, 110, 100, 114, 101]) := by simp [nm4]
  have v2 : IntKind.i64.wrap (2 * (k : Int)) = 2 * (k : Int) := IntWalk.i64_in _ (by omega)
  have v3 : IntKind.i64.wrap (2 * (k : Int) + 1) = 2 * (k : Int) + 1 := IntWalk.i64_in _ (by omega)
  have v4 : IntKind.i64.wrap ((k : Int) + 1) = (k : Int) + 1 := IntWalk.i64_in _ (by omega)
  go_enter Try.func60, Try.ntmps60
  go_wp2
  go_ret
  exact ⟨by simp [faA], rfl⟩
theorem l10Alpha_5 (k : Nat) (hk : k ≤ 12) (w : World) : Calls Try.prog 60 #[.string nm5, .int .i64 k] w fun e w' => e = .returned (.int .i64 (faA 5 k)) ∧ w = w' := by
  have q0 : ¬ (nm5.toList = [104, 101, 114, 109, 105, 116, 101]) := by simp [nm5]
  have q1 : ¬ (nm5.toList = [108, 97, 103, 117, 101, 114, 114, 101]) := by simp [nm5]
  have q2 : ¬ (nm5.toList = [112, 111, 105, 115, 115, 111, 110]) := by simp [nm5]
  have q3 : ¬ (nm5.toList = [99, 97, 116, 97, 108, 97, 110]) := by simp [nm5]
  have q4 : ¬ (nm5.toList = [115, 101, 99, 111, 110, 100]) := by simp [nm5]
  have q5 : nm5.toList = [108, 101, 103, 101, 110, 100, 114, 101] := by simp [nm5]
  have v2 : IntKind.i64.wrap (2 * (k : Int)) = 2 * (k : Int) := IntWalk.i64_in _ (by omega)
  have v3 : IntKind.i64.wrap (2 * (k : Int) + 1) = 2 * (k : Int) + 1 := IntWalk.i64_in _ (by omega)
  have v4 : IntKind.i64.wrap ((k : Int) + 1) = (k : Int) + 1 := IntWalk.i64_in _ (by omega)
  go_enter Try.func60, Try.ntmps60
  go_wp2
  go_ret
  exact ⟨by simp [faA], rfl⟩
theorem l10Alpha_any (s : ByteArray) (hi : famI s < 6) (k : Nat) (hk : k ≤ 12) (w : World) : Calls Try.prog 60 #[.string s, .int .i64 k] w fun e w' => e = .returned (.int .i64 (faA (famI s) k)) ∧ w = w' := by
  obtain ⟨f0, f1, f2, f3, f4, f5⟩ := famI_nm
  rcases famI_cases s with rfl | rfl | rfl | rfl | rfl | rfl | ⟨h, _⟩
  · rw [f0]; exact l10Alpha_0 k hk w
  · rw [f1]; exact l10Alpha_1 k hk w
  · rw [f2]; exact l10Alpha_2 k hk w
  · rw [f3]; exact l10Alpha_3 k hk w
  · rw [f4]; exact l10Alpha_4 k hk w
  · rw [f5]; exact l10Alpha_5 k hk w
  · omega
theorem l10Beta_0 (k : Nat) (hk : k ≤ 12) (w : World) : Calls Try.prog 59 #[.string nm0, .int .i64 k] w fun e w' => e = .returned (.tuple #[.int .i64 (faB 0 k), .int .i64 (faD 0 k)]) ∧ w = w' := by
  have q0 : nm0.toList = [104, 101, 114, 109, 105, 116, 101] := by simp [nm0]
  have qq1 : ¬ (nm0.toList = [108, 97, 103, 117, 101, 114, 114, 101]) := by simp [nm0]
  have q2 : ¬ (nm0.toList = [112, 111, 105, 115, 115, 111, 110]) := by simp [nm0]
  have q3 : ¬ (nm0.toList = [99, 97, 116, 97, 108, 97, 110]) := by simp [nm0]
  have q4 : ¬ (nm0.toList = [115, 101, 99, 111, 110, 100]) := by simp [nm0]
  have q5 : ¬ (nm0.toList = [108, 101, 103, 101, 110, 100, 114, 101]) := by simp [nm0]
  by_cases h0 : k = 0
  · subst h0
    go_enter Try.func59, Try.ntmps59
    go_wp2
    go_ret2
    exact ⟨by simp [faB, faD], rfl⟩
  · have k0 : ¬ (k : Int) = 0 := by omega
    have kb : ((k : Int) == 0) = false := by simpa using h0
    obtain ⟨q1, q2'⟩ := mulb2k (k := k) hk
    have v1 : IntKind.i64.wrap ((k : Int) * (k : Int)) = (k : Int) * (k : Int) := IntWalk.i64_in _ (by omega)
    have v2 : IntKind.i64.wrap (4 * (k : Int)) = 4 * (k : Int) := IntWalk.i64_in _ (by omega)
    have e4 : 4 * (k : Int) * (k : Int) = 4 * ((k : Int) * (k : Int)) := Int.mul_assoc _ _ _
    have v3 : IntKind.i64.wrap (4 * (k : Int) * (k : Int)) = 4 * (k : Int) * (k : Int) := IntWalk.i64_in _ (by omega)
    have v4 : IntKind.i64.wrap (4 * (k : Int) * (k : Int) - 1) = 4 * (k : Int) * (k : Int) - 1 := IntWalk.i64_in _ (by omega)
    clear e4
    go_enter Try.func59, Try.ntmps59
    go_wp2
    go_ret2
    exact ⟨by simp [faB, faD, h0], rfl⟩
theorem l10Beta_1 (k : Nat) (hk : k ≤ 12) (w : World) : Calls Try.prog 59 #[.string nm1, .int .i64 k] w fun e w' => e = .returned (.tuple #[.int .i64 (faB 1 k), .int .i64 (faD 1 k)]) ∧ w = w' := by
  have q0 : ¬ (nm1.toList = [104, 101, 114, 109, 105, 116, 101]) := by simp [nm1]
  have qq1 : nm1.toList = [108, 97, 103, 117, 101, 114, 114, 101] := by simp [nm1]
  have q2 : ¬ (nm1.toList = [112, 111, 105, 115, 115, 111, 110]) := by simp [nm1]
  have q3 : ¬ (nm1.toList = [99, 97, 116, 97, 108, 97, 110]) := by simp [nm1]
  have q4 : ¬ (nm1.toList = [115, 101, 99, 111, 110, 100]) := by simp [nm1]
  have q5 : ¬ (nm1.toList = [108, 101, 103, 101, 110, 100, 114, 101]) := by simp [nm1]
  by_cases h0 : k = 0
  · subst h0
    go_enter Try.func59, Try.ntmps59
    go_wp2
    go_ret2
    exact ⟨by simp [faB, faD], rfl⟩
  · have k0 : ¬ (k : Int) = 0 := by omega
    have kb : ((k : Int) == 0) = false := by simpa using h0
    obtain ⟨q1, q2'⟩ := mulb2k (k := k) hk
    have v1 : IntKind.i64.wrap ((k : Int) * (k : Int)) = (k : Int) * (k : Int) := IntWalk.i64_in _ (by omega)
    have v2 : IntKind.i64.wrap (4 * (k : Int)) = 4 * (k : Int) := IntWalk.i64_in _ (by omega)
    have e4 : 4 * (k : Int) * (k : Int) = 4 * ((k : Int) * (k : Int)) := Int.mul_assoc _ _ _
    have v3 : IntKind.i64.wrap (4 * (k : Int) * (k : Int)) = 4 * (k : Int) * (k : Int) := IntWalk.i64_in _ (by omega)
    have v4 : IntKind.i64.wrap (4 * (k : Int) * (k : Int) - 1) = 4 * (k : Int) * (k : Int) - 1 := IntWalk.i64_in _ (by omega)
    clear e4
    go_enter Try.func59, Try.ntmps59
    go_wp2
    go_ret2
    exact ⟨by simp [faB, faD, h0], rfl⟩
theorem l10Beta_2 (k : Nat) (hk : k ≤ 12) (w : World) : Calls Try.prog 59 #[.string nm2, .int .i64 k] w fun e w' => e = .returned (.tuple #[.int .i64 (faB 2 k), .int .i64 (faD 2 k)]) ∧ w = w' := by
  have q0 : ¬ (nm2.toList = [104, 101, 114, 109, 105, 116, 101]) := by simp [nm2]
  have qq1 : ¬ (nm2.toList = [108, 97, 103, 117, 101, 114, 114, 101]) := by simp [nm2]
  have q2 : nm2.toList = [112, 111, 105, 115, 115, 111, 110] := by simp [nm2]
  have q3 : ¬ (nm2.toList = [99, 97, 116, 97, 108, 97, 110]) := by simp [nm2]
  have q4 : ¬ (nm2.toList = [115, 101, 99, 111, 110, 100]) := by simp [nm2]
  have q5 : ¬ (nm2.toList = [108, 101, 103, 101, 110, 100, 114, 101]) := by simp [nm2]
  by_cases h0 : k = 0
  · subst h0
    go_enter Try.func59, Try.ntmps59
    go_wp2
    go_ret2
    exact ⟨by simp [faB, faD], rfl⟩
  · have k0 : ¬ (k : Int) = 0 := by omega
    have kb : ((k : Int) == 0) = false := by simpa using h0
    obtain ⟨q1, q2'⟩ := mulb2k (k := k) hk
    have v1 : IntKind.i64.wrap ((k : Int) * (k : Int)) = (k : Int) * (k : Int) := IntWalk.i64_in _ (by omega)
    have v2 : IntKind.i64.wrap (4 * (k : Int)) = 4 * (k : Int) := IntWalk.i64_in _ (by omega)
    have e4 : 4 * (k : Int) * (k : Int) = 4 * ((k : Int) * (k : Int)) := Int.mul_assoc _ _ _
    have v3 : IntKind.i64.wrap (4 * (k : Int) * (k : Int)) = 4 * (k : Int) * (k : Int) := IntWalk.i64_in _ (by omega)
    have v4 : IntKind.i64.wrap (4 * (k : Int) * (k : Int) - 1) = 4 * (k : Int) * (k : Int) - 1 := IntWalk.i64_in _ (by omega)
    clear e4
    go_enter Try.func59, Try.ntmps59
    go_wp2
    go_ret2
    exact ⟨by simp [faB, faD, h0], rfl⟩
theorem l10Beta_3 (k : Nat) (hk : k ≤ 12) (w : World) : Calls Try.prog 59 #[.string nm3, .int .i64 k] w fun e w' => e = .returned (.tuple #[.int .i64 (faB 3 k), .int .i64 (faD 3 k)]) ∧ w = w' := by
  have q0 : ¬ (nm3.toList = [104, 101, 114, 109, 105, 116, 101]) := by simp [nm3]
  have qq1 : ¬ (nm3.toList = [108, 97, 103, 117, 101, 114, 114, 101]) := by simp [nm3]
  have q2 : ¬ (nm3.toList = [112, 111, 105, 115, 115, 111, 110]) := by simp [nm3]
  have q3 : nm3.toList = [99, 97, 116, 97, 108, 97, 110] := by simp [nm3]
  have q4 : ¬ (nm3.toList = [115, 101, 99, 111, 110, 100]) := by simp [nm3]
  have q5 : ¬ (nm3.toList = [108, 101, 103, 101, 110, 100, 114, 101]) := by simp [nm3]
  by_cases h0 : k = 0
  · subst h0
    go_enter Try.func59, Try.ntmps59
    go_wp2
    go_ret2
    exact ⟨by simp [faB, faD], rfl⟩
  · have k0 : ¬ (k : Int) = 0 := by omega
    have kb : ((k : Int) == 0) = false := by simpa using h0
    obtain ⟨q1, q2'⟩ := mulb2k (k := k) hk
    have v1 : IntKind.i64.wrap ((k : Int) * (k : Int)) = (k : Int) * (k : Int) := IntWalk.i64_in _ (by omega)
    have v2 : IntKind.i64.wrap (4 * (k : Int)) = 4 * (k : Int) := IntWalk.i64_in _ (by omega)
    have e4 : 4 * (k : Int) * (k : Int) = 4 * ((k : Int) * (k : Int)) := Int.mul_assoc _ _ _
    have v3 : IntKind.i64.wrap (4 * (k : Int) * (k : Int)) = 4 * (k : Int) * (k : Int) := IntWalk.i64_in _ (by omega)
    have v4 : IntKind.i64.wrap (4 * (k : Int) * (k : Int) - 1) = 4 * (k : Int) * (k : Int) - 1 := IntWalk.i64_in _ (by omega)
    clear e4
    go_enter Try.func59, Try.ntmps59
    go_wp2
    go_ret2
    exact ⟨by simp [faB, faD, h0], rfl⟩
theorem l10Beta_4 (k : Nat) (hk : k ≤ 12) (w : World) : Calls Try.prog 59 #[.string nm4, .int .i64 k] w fun e w' => e = .returned (.tuple #[.int .i64 (faB 4 k), .int .i64 (faD 4 k)]) ∧ w = w' := by
  have q0 : ¬ (nm4.toList = [104, 101, 114, 109, 105, 116, 101]) := by simp [nm4]
  have qq1 : ¬ (nm4.toList = [108, 97, 103, 117, 101, 114, 114, 101]) := by simp [nm4]
  have q2 : ¬ (nm4.toList = [112, 111, 105, 115, 115, 111, 110]) := by simp [nm4]
  have q3 : ¬ (nm4.toList = [99, 97, 116, 97, 108, 97, 110]) := by simp [nm4]
  have q4 : nm4.toList = [115, 101, 99, 111, 110, 100] := by simp [nm4]
  have q5 : ¬ (nm4.toList = [108, 101, 103, 101, 110, 100, 114, 101]) := by simp [nm4]
  by_cases h0 : k = 0
  · subst h0
    go_enter Try.func59, Try.ntmps59
    go_wp2
    go_ret2
    exact ⟨by simp [faB, faD], rfl⟩
  · have k0 : ¬ (k : Int) = 0 := by omega
    have kb : ((k : Int) == 0) = false := by simpa using h0
    obtain ⟨q1, q2'⟩ := mulb2k (k := k) hk
    have v1 : IntKind.i64.wrap ((k : Int) * (k : Int)) = (k : Int) * (k : Int) := IntWalk.i64_in _ (by omega)
    have v2 : IntKind.i64.wrap (4 * (k : Int)) = 4 * (k : Int) := IntWalk.i64_in _ (by omega)
    have e4 : 4 * (k : Int) * (k : Int) = 4 * ((k : Int) * (k : Int)) := Int.mul_assoc _ _ _
    have v3 : IntKind.i64.wrap (4 * (k : Int) * (k : Int)) = 4 * (k : Int) * (k : Int) := IntWalk.i64_in _ (by omega)
    have v4 : IntKind.i64.wrap (4 * (k : Int) * (k : Int) - 1) = 4 * (k : Int) * (k : Int) - 1 := IntWalk.i64_in _ (by omega)
    clear e4
    go_enter Try.func59, Try.ntmps59
    go_wp2
    go_ret2
    exact ⟨by simp [faB, faD, h0], rfl⟩
theorem l10Beta_5 (k : Nat) (hk : k ≤ 12) (w : World) : Calls Try.prog 59 #[.string nm5, .int .i64 k] w fun e w' => e = .returned (.tuple #[.int .i64 (faB 5 k), .int .i64 (faD 5 k)]) ∧ w = w' := by
  have q0 : ¬ (nm5.toList = [104, 101, 114, 109, 105, 116, 101]) := by simp [nm5]
  have qq1 : ¬ (nm5.toList = [108, 97, 103, 117, 101, 114, 114, 101]) := by simp [nm5]
  have q2 : ¬ (nm5.toList = [112, 111, 105, 115, 115, 111, 110]) := by simp [nm5]
  have q3 : ¬ (nm5.toList = [99, 97, 116, 97, 108, 97, 110]) := by simp [nm5]
  have q4 : ¬ (nm5.toList = [115, 101, 99, 111, 110, 100]) := by simp [nm5]
  have q5 : nm5.toList = [108, 101, 103, 101, 110, 100, 114, 101] := by simp [nm5]
  by_cases h0 : k = 0
  · subst h0
    go_enter Try.func59, Try.ntmps59
    go_wp2
    go_ret2
    exact ⟨by simp [faB, faD], rfl⟩
  · have k0 : ¬ (k : Int) = 0 := by omega
    have kb : ((k : Int) == 0) = false := by simpa using h0
    obtain ⟨q1, q2'⟩ := mulb2k (k := k) hk
    have v1 : IntKind.i64.wrap ((k : Int) * (k : Int)) = (k : Int) * (k : Int) := IntWalk.i64_in _ (by omega)
    have v2 : IntKind.i64.wrap (4 * (k : Int)) = 4 * (k : Int) := IntWalk.i64_in _ (by omega)
    have e4 : 4 * (k : Int) * (k : Int) = 4 * ((k : Int) * (k : Int)) := Int.mul_assoc _ _ _
    have v3 : IntKind.i64.wrap (4 * (k : Int) * (k : Int)) = 4 * (k : Int) * (k : Int) := IntWalk.i64_in _ (by omega)
    have v4 : IntKind.i64.wrap (4 * (k : Int) * (k : Int) - 1) = 4 * (k : Int) * (k : Int) - 1 := IntWalk.i64_in _ (by omega)
    clear e4
    go_enter Try.func59, Try.ntmps59
    go_wp2
    go_ret2
    exact ⟨by simp [faB, faD, h0], rfl⟩
theorem l10Beta_any (s : ByteArray) (hi : famI s < 6) (k : Nat) (hk : k ≤ 12) (w : World) : Calls Try.prog 59 #[.string s, .int .i64 k] w fun e w' => e = .returned (.tuple #[.int .i64 (faB (famI s) k), .int .i64 (faD (famI s) k)]) ∧ w = w' := by
  obtain ⟨f0, f1, f2, f3, f4, f5⟩ := famI_nm
  rcases famI_cases s with rfl | rfl | rfl | rfl | rfl | rfl | ⟨h, _⟩
  · rw [f0]; exact l10Beta_0 k hk w
  · rw [f1]; exact l10Beta_1 k hk w
  · rw [f2]; exact l10Beta_2 k hk w
  · rw [f3]; exact l10Beta_3 k hk w
  · rw [f4]; exact l10Beta_4 k hk w
  · rw [f5]; exact l10Beta_5 k hk w
  · omega
end Go.Proofs.Ytpoabedlcljibaa
/- Contract: NamedJacobi (model). -/
namespace Go.Proofs.Ytpoabedlcljibaa
open Go.RowKit Go.Maps Go.WideMaps
set_option linter.unusedVariables false
set_option linter.unusedSimpArgs false

set_option maxRecDepth 100000 in
set_option maxHeartbeats 3200000 in
theorem specNamedJacobi (s : ByteArray) (p n : Int) (w : World) (hs : s.size ≤ 1048576) :
    Calls Try.prog 49 #[.string s, .int .i64 p, .int .i64 n] w (ResJ w (njP s p n) (njV s p n) (njU s p n) (njC s p n)) := by
  have hb0 := bl1 w (.cells #[.int .i64 0, .slice none 0 0, .slice none 0 0] 26)
  have r0 : (w.alloc (.cells #[.int .i64 0, .slice none 0 0, .slice none 0 0] 26)).cell? ⟨w.heap.size, 0, none⟩ = some (.int .i64 0) := by simp [go_sem]
  have r1 : (w.alloc (.cells #[.int .i64 0, .slice none 0 0, .slice none 0 0] 26)).cell? ⟨w.heap.size, 1, none⟩ = some (.slice none 0 0) := by simp [go_sem]
  have r2 : (w.alloc (.cells #[.int .i64 0, .slice none 0 0, .slice none 0 0] 26)).cell? ⟨w.heap.size, 2, none⟩ = some (.slice none 0 0) := by simp [go_sem]
  have y0 : (w.alloc (.cells #[.int .i64 0, .slice none 0 0, .slice none 0 0] 26)).frozen? ⟨w.heap.size, 0, none⟩ = false := by simp [go_sem]
  have y1 : (w.alloc (.cells #[.int .i64 0, .slice none 0 0, .slice none 0 0] 26)).frozen? ⟨w.heap.size, 1, none⟩ = false := by simp [go_sem]
  have y2 : (w.alloc (.cells #[.int .i64 0, .slice none 0 0, .slice none 0 0] 26)).frozen? ⟨w.heap.size, 2, none⟩ = false := by simp [go_sem]
  cases hpr : primeB p
  · have HC := hide (show njC s p n = 2 by unfold njC; rw [if_neg (by rw [hpr]; simp)])
    have HE := hide (nj_err HC.out (by decide))
    have Hp := hide hpr
    clear hpr
    go_enter Try.func49, Try.ntmps49
    go_wp2_with fail
    refine (l01Prime_any _ _).mono ?_
    rintro e w1 ⟨rfl, rfl⟩
    rw [Hp.out]
    go_wp2
    refine bodyPost_ret (v := .tuple #[jac 0 none 0 0 none 0 0, .int .i64 2]) (by simp [results, Try.results49, go_sem, r0, r1, r2]) rfl ?_
    exact ResJ.nil HE.out.1 HE.out.2.1 HE.out.2.2 HC.out hb0
  have Hp := hide hpr
  by_cases hn : 1 ≤ n ∧ n ≤ 12
  rotate_left
  · have HC := hide (show njC s p n = 2 by unfold njC; rw [if_neg (fun h => hn h.2)])
    have HE := hide (nj_err HC.out (by decide))
    have HN := hide hn
    clear hpr hn
    go_enter Try.func49, Try.ntmps49
    go_wp2_with fail
    refine (l01Prime_any _ _).mono ?_
    rintro e w1 ⟨rfl, rfl⟩
    rw [Hp.out]
    go_wp2_with fail
    refine (l01In_no _ _ _ _ HN.out).mono ?_
    rintro e w1 ⟨rfl, rfl⟩
    go_wp2
    refine bodyPost_ret (v := .tuple #[jac 0 none 0 0 none 0 0, .int .i64 2]) (by simp [results, Try.results49, go_sem, r0, r1, r2]) rfl ?_
    exact ResJ.nil HE.out.1 HE.out.2.1 HE.out.2.2 HC.out hb0
  obtain ⟨hn1, hn2⟩ := hn
  obtain ⟨N, rfl⟩ : ∃ N : Nat, n = N := ⟨n.toNat, by omega⟩
  obtain ⟨hp, hp2⟩ := primeB_lo hpr
  have f6 : famI s < 6 ∨ famI s = 6 := by rcases fam_look s with h | h; exact .inl h.1; exact .inr h.1
  rcases f6 with hi | hi
  rotate_left
  · have HC := hide (show njC s p (N : Int) = 4 by unfold njC; rw [if_pos ⟨hpr, hn1, hn2⟩, if_pos hi])
    have HE := hide (nj_err HC.out (by decide))
    have HK := hide (show decide (famI s < 6) = false by rw [hi]; rfl)
    clear hpr hi
    go_enter Try.func49, Try.ntmps49
    go_wp2_with fail
    refine (l01Prime_any _ _).mono ?_
    rintro e w1 ⟨rfl, rfl⟩
    rw [Hp.out]
    go_wp2_with fail
    refine (l01In_yes _ _ _ _ hn1 hn2).mono ?_
    rintro e w1 ⟨rfl, rfl⟩
    go_wp2_with fail
    refine (l10Known_any s _).mono ?_
    rintro e w1 ⟨rfl, rfl⟩
    rw [HK.out]
    go_wp2
    refine bodyPost_ret (v := .tuple #[jac 0 none 0 0 none 0 0, .int .i64 4]) (by simp [results, Try.results49, go_sem, r0, r1, r2]) rfl ?_
    exact ResJ.nil HE.out.1 HE.out.2.1 HE.out.2.2 HC.out hb0
  obtain ⟨E1, E2, E3, E4⟩ := nj_bg (s := s) hpr (show 1 ≤ N by omega) (show N ≤ 12 by omega) hi
  have HEE := hide (And.intro E1 (And.intro E2 (And.intro E3 E4)))
  have HK := hide (show decide (famI s < 6) = true by simpa using hi)
  clear E1 E2 E3 E4 hpr r0 r1 r2 y0 y1 y2 hb0
  have hb0 := (bl3 w (.cells #[.int .i64 0, .slice none 0 0, .slice none 0 0] 26) (.cells #[] 2) (.cells #[] 2)).alloc (by simp; omega) (.cells #[.int .i64 p, .slice (some ⟨w.heap.size + 1, 0, none⟩) 0 0, .slice (some ⟨w.heap.size + 1 + 1, 0, none⟩) 0 0] 26)
  have r0 : ((((w.alloc (.cells #[.int .i64 0, .slice none 0 0, .slice none 0 0] 26)).alloc (.cells #[] 2)).alloc (.cells #[] 2)).alloc (.cells #[.int .i64 p, .slice (some ⟨w.heap.size + 1, 0, none⟩) 0 0, .slice (some ⟨w.heap.size + 1 + 1, 0, none⟩) 0 0] 26)).cell? ⟨w.heap.size, 0, none⟩ = some (.int .i64 0) := by simp [go_sem]
  have r1 : ((((w.alloc (.cells #[.int .i64 0, .slice none 0 0, .slice none 0 0] 26)).alloc (.cells #[] 2)).alloc (.cells #[] 2)).alloc (.cells #[.int .i64 p, .slice (some ⟨w.heap.size + 1, 0, none⟩) 0 0, .slice (some ⟨w.heap.size + 1 + 1, 0, none⟩) 0 0] 26)).cell? ⟨w.heap.size, 1, none⟩ = some (.slice none 0 0) := by simp [go_sem]
  have r2 : ((((w.alloc (.cells #[.int .i64 0, .slice none 0 0, .slice none 0 0] 26)).alloc (.cells #[] 2)).alloc (.cells #[] 2)).alloc (.cells #[.int .i64 p, .slice (some ⟨w.heap.size + 1, 0, none⟩) 0 0, .slice (some ⟨w.heap.size + 1 + 1, 0, none⟩) 0 0] 26)).cell? ⟨w.heap.size, 2, none⟩ = some (.slice none 0 0) := by simp [go_sem]
  have y0 : ((((w.alloc (.cells #[.int .i64 0, .slice none 0 0, .slice none 0 0] 26)).alloc (.cells #[] 2)).alloc (.cells #[] 2)).alloc (.cells #[.int .i64 p, .slice (some ⟨w.heap.size + 1, 0, none⟩) 0 0, .slice (some ⟨w.heap.size + 1 + 1, 0, none⟩) 0 0] 26)).frozen? ⟨w.heap.size, 0, none⟩ = false := by simp [go_sem]
  have y1 : ((((w.alloc (.cells #[.int .i64 0, .slice none 0 0, .slice none 0 0] 26)).alloc (.cells #[] 2)).alloc (.cells #[] 2)).alloc (.cells #[.int .i64 p, .slice (some ⟨w.heap.size + 1, 0, none⟩) 0 0, .slice (some ⟨w.heap.size + 1 + 1, 0, none⟩) 0 0] 26)).frozen? ⟨w.heap.size, 1, none⟩ = false := by simp [go_sem]
  have y2 : ((((w.alloc (.cells #[.int .i64 0, .slice none 0 0, .slice none 0 0] 26)).alloc (.cells #[] 2)).alloc (.cells #[] 2)).alloc (.cells #[.int .i64 p, .slice (some ⟨w.heap.size + 1, 0, none⟩) 0 0, .slice (some ⟨w.heap.size + 1 + 1, 0, none⟩) 0 0] 26)).frozen? ⟨w.heap.size, 2, none⟩ = false := by simp [go_sem]
  have o1 : Own (w.heap.size + 1) ((((w.alloc (.cells #[.int .i64 0, .slice none 0 0, .slice none 0 0] 26)).alloc (.cells #[] 2)).alloc (.cells #[] 2)).alloc (.cells #[.int .i64 p, .slice (some ⟨w.heap.size + 1, 0, none⟩) 0 0, .slice (some ⟨w.heap.size + 1 + 1, 0, none⟩) 0 0] 26)) (some ⟨w.heap.size + 1, 0, none⟩) 0 [] := by
    have t := World.ownsRow_lit (w.alloc (.cells #[.int .i64 0, .slice none 0 0, .slice none 0 0] 26)) (base := w.heap.size + 1) (e := 2) (size := 1) #[] 0 (by simp) (by simp) rfl
    rw [show (w.alloc (.cells #[.int .i64 0, .slice none 0 0, .slice none 0 0] 26)).heap.size = w.heap.size + 1 by simp] at t
    exact (show Own (w.heap.size + 1) ((w.alloc (.cells #[.int .i64 0, .slice none 0 0, .slice none 0 0] 26)).alloc (.cells #[] 2)) (some ⟨w.heap.size + 1, 0, none⟩) 0 [] from t).below (bl2 _ _ _)
  have o2 : Own (w.heap.size + 1) ((((w.alloc (.cells #[.int .i64 0, .slice none 0 0, .slice none 0 0] 26)).alloc (.cells #[] 2)).alloc (.cells #[] 2)).alloc (.cells #[.int .i64 p, .slice (some ⟨w.heap.size + 1, 0, none⟩) 0 0, .slice (some ⟨w.heap.size + 1 + 1, 0, none⟩) 0 0] 26)) (some ⟨w.heap.size + 1 + 1, 0, none⟩) 0 [] := by
    have t := World.ownsRow_lit ((w.alloc (.cells #[.int .i64 0, .slice none 0 0, .slice none 0 0] 26)).alloc (.cells #[] 2)) (base := w.heap.size + 1) (e := 2) (size := 1) #[] 0 (by simp) (by simp) rfl
    rw [show ((w.alloc (.cells #[.int .i64 0, .slice none 0 0, .slice none 0 0] 26)).alloc (.cells #[] 2)).heap.size = w.heap.size + 1 + 1 by simp] at t
    exact (show Own (w.heap.size + 1) (((w.alloc (.cells #[.int .i64 0, .slice none 0 0, .slice none 0 0] 26)).alloc (.cells #[] 2)).alloc (.cells #[] 2)) (some ⟨w.heap.size + 1 + 1, 0, none⟩) 0 [] from t).below (bl1 _ _)
  have J0 : Hid (JS (w.heap.size + 1) (w.heap.size + 1 + 1 + 1) ((((w.alloc (.cells #[.int .i64 0, .slice none 0 0, .slice none 0 0] 26)).alloc (.cells #[] 2)).alloc (.cells #[] 2)).alloc (.cells #[.int .i64 p, .slice (some ⟨w.heap.size + 1, 0, none⟩) 0 0, .slice (some ⟨w.heap.size + 1 + 1, 0, none⟩) 0 0] 26)) p (some ⟨w.heap.size + 1, 0, none⟩) 0 (tab 0 (njF p (famI s))) (some ⟨w.heap.size + 1 + 1, 0, none⟩) 0 (tab 0 (njG p (famI s)))) := hide ⟨o1, o2, ⟨by simp [blk], by simp [blk], fun g h h' => by simp [blk] at h h'; omega⟩, ⟨by simp [go_sem], by simp [go_sem, tab], by simp [go_sem, tab]⟩, ⟨by simp [go_sem], by simp [go_sem]⟩, by omega⟩
  have hsz0 : w.heap.size + 1 + 1 + 1 < ((((w.alloc (.cells #[.int .i64 0, .slice none 0 0, .slice none 0 0] 26)).alloc (.cells #[] 2)).alloc (.cells #[] 2)).alloc (.cells #[.int .i64 p, .slice (some ⟨w.heap.size + 1, 0, none⟩) 0 0, .slice (some ⟨w.heap.size + 1 + 1, 0, none⟩) 0 0] 26)).heap.size := by simp
  have R0 := hide (And.intro r0 (And.intro r1 r2))
  have Y0 := hide (And.intro y0 (And.intro y1 y2))
  have W1 : Hid (Below (w.heap.size + 1) ((((w.alloc (.cells #[.int .i64 0, .slice none 0 0, .slice none 0 0] 26)).alloc (.cells #[] 2)).alloc (.cells #[] 2)).alloc (.cells #[.int .i64 p, .slice (some ⟨w.heap.size + 1, 0, none⟩) 0 0, .slice (some ⟨w.heap.size + 1 + 1, 0, none⟩) 0 0] 26)) ((((w.alloc (.cells #[.int .i64 0, .slice none 0 0, .slice none 0 0] 26)).alloc (.cells #[] 2)).alloc (.cells #[] 2)).alloc (.cells #[.int .i64 p, .slice (some ⟨w.heap.size + 1, 0, none⟩) 0 0, .slice (some ⟨w.heap.size + 1 + 1, 0, none⟩) 0 0] 26))) := hide (Below.refl _ _)
  obtain ⟨i, hii⟩ : ∃ i, famI s = i := ⟨_, rfl⟩
  clear r0 r1 r2 y0 y1 y2 o1 o2
  go_enter Try.func49, Try.ntmps49
  go_wp2_with fail
  refine (l01Prime_any _ _).mono ?_
  rintro e w1 ⟨rfl, rfl⟩
  rw [Hp.out]
  go_wp2_with fail
  refine (l01In_yes _ _ _ _ hn1 hn2).mono ?_
  rintro e w1 ⟨rfl, rfl⟩
  go_wp2_with fail
  refine (l10Known_any s _).mono ?_
  rintro e w1 ⟨rfl, rfl⟩
  rw [HK.out]
  go_wp2
  generalize ((((w.alloc (.cells #[.int .i64 0, .slice none 0 0, .slice none 0 0] 26)).alloc (.cells #[] 2)).alloc (.cells #[] 2)).alloc (.cells #[.int .i64 p, .slice (some ⟨w.heap.size + 1, 0, none⟩) 0 0, .slice (some ⟨w.heap.size + 1 + 1, 0, none⟩) 0 0] 26)) = wx at *
  obtain ⟨q0, hq0⟩ : ∃ q0, w.heap.size + 1 + 1 + 1 = q0 := ⟨_, rfl⟩
  rw [hq0] at J0 hsz0 ⊢
  have Hq0 := hide hq0
  have hql : w.heap.size + 1 ≤ q0 := by omega
  have Hii := hide hii
  clear hq0 hii
  go_loopw [9] (fun kv wr => ∃ (k ca cb : Nat) (a' b' : Option Addr), k ≤ N ∧ kv = .int .i64 k ∧ Hid (JS (w.heap.size + 1) q0 wr p a' ca (tab k (njF p (famI s))) b' cb (tab k (njG p (famI s)))) ∧ Hid (Below (w.heap.size + 1) wx wr) ∧ Hid (njOk p (famI s) k = true)) (fun kv _ => N - (intOf kv).toNat)
  case atStart => exact ⟨0, 0, 0, _, _, by omega, rfl, J0, W1, hide rfl⟩
  case round =>
    obtain ⟨k, ca, cb, a', b', hkn, rfl, hJ, hW, hOk⟩ := hrel
    clear J0 W1
    have hsz := hW.out.size
    by_cases hlt : k < N
    · have hlt' : (k : Int) < (N : Int) := by omega
      obtain ⟨⟨a1, a2⟩, ⟨b1, b2⟩, ⟨d1, d2⟩⟩ := fa_rng (famI s) k (by omega)
      obtain ⟨zs, hzs⟩ : ∃ zs, tab k (njF p (famI s)) = zs := ⟨_, rfl⟩
      have hzl := hide (show zs.length = k by rw [← hzs, tab_len])
      obtain ⟨vs, hvs⟩ : ∃ vs, tab k (njG p (famI s)) = vs := ⟨_, rfl⟩
      have hvl := hide (show vs.length = k by rw [← hvs, tab_len])
      rw [hzs, hvs] at hJ
      have hstA := hide (show tab (k + 1) (njF p (famI s)) = zs ++ [faA (famI s) k % p] by rw [← hzs]; exact (tab_snoc k (njF p (famI s))).symm)
      have hstB := hide (show tab (k + 1) (njG p (famI s)) = vs ++ [faB (famI s) k % p * invM p (faD (famI s) k % p) % p] by rw [← hvs]; exact (tab_snoc k (njG p (famI s))).symm)
      have hOk1 := hide (show njOk p (famI s) (k + 1) = (njOk p (famI s) k && !(faB (famI s) k % p == 0) && !(faD (famI s) k % p == 0)) from rfl)
      obtain ⟨A, hA⟩ : ∃ A, faA (famI s) k = A := ⟨_, rfl⟩
      obtain ⟨Bt, hBt⟩ : ∃ Bt, faB (famI s) k = Bt := ⟨_, rfl⟩
      obtain ⟨D, hD⟩ : ∃ D, faD (famI s) k = D := ⟨_, rfl⟩
      have HBD := hide (And.intro hBt hD)
      have hAA := hide hA
      rw [hA] at a1 a2 hstA
      rw [hBt] at b1 b2 hstB hOk1
      rw [hD] at d1 d2 hstB hOk1
      have zk : zs.length ≤ 12 := by have := hzl.out; omega
      have vk' : vs.length ≤ 12 := by have := hvl.out; omega
      have tA : A.tmod p = A % p := Int.tmod_eq_emod_of_nonneg a1
      have tB : Bt.tmod p = Bt % p := Int.tmod_eq_emod_of_nonneg b1
      have tD : D.tmod p = D % p := Int.tmod_eq_emod_of_nonneg d1
      have rA := modb (x := A) hp
      have rB := modb (x := Bt) hp
      have rD := modb (x := D) hp
      obtain ⟨A', hA'⟩ : ∃ A', A % p = A' := ⟨_, rfl⟩
      obtain ⟨B', hB'⟩ : ∃ B', Bt % p = B' := ⟨_, rfl⟩
      obtain ⟨D', hD'⟩ : ∃ D', D % p = D' := ⟨_, rfl⟩
      rw [hA'] at rA hstA tA
      rw [hB'] at rB hstB hOk1 tB
      rw [hD'] at rD hstB hOk1 tD
      have HB' := hide hB'
      have HD' := hide hD'
      have hp0 : ¬ p = 0 := by omega
      clear hzs hvs hA hBt hD hA' hB' hD'
      go_wp2_with fail
      refine (l10Beta_any s hi k (by omega) _).mono ?_
      rintro e w1 ⟨rfl, rfl⟩
      rw [HBD.out.1, HBD.out.2]
      by_cases hz : B' = 0 ∨ D' = 0
      · have HC := hide (show bgC p (famI s) N = 5 by
          unfold bgC
          rw [njOk_false hlt (by
            obtain ⟨q1, q2⟩ := HBD.out
            rw [q1, q2, HB'.out, HD'.out]
            exact hz)]
          rfl)
        have HC2 := hide (show njC s p (N : Int) = 5 by rw [HEE.out.1]; exact HC.out)
        have HE := hide (nj_err HC2.out (by decide))
        have hBw := hb0.trans (hW.out.mono (by omega))
        have r0 := cell_be' hW.out (Nat.lt_succ_self _) R0.out.1
        have r1 := cell_be' hW.out (Nat.lt_succ_self _) R0.out.2.1
        have r2 := cell_be' hW.out (Nat.lt_succ_self _) R0.out.2.2
        have y0 := (hW.out.frozen (p := ⟨w.heap.size, 0, none⟩) (Nat.lt_succ_self _)).trans Y0.out.1
        have y1 := (hW.out.frozen (p := ⟨w.heap.size, 1, none⟩) (Nat.lt_succ_self _)).trans Y0.out.2.1
        have y2 := (hW.out.frozen (p := ⟨w.heap.size, 2, none⟩) (Nat.lt_succ_self _)).trans Y0.out.2.2
        by_cases hz1 : B' = 0
        · have ob : (B' == 0) = true := by simp [hz1]
          clear hz
          go_wp2
          refine bodyPost_ret (v := .tuple #[jac 0 none 0 0 none 0 0, .int .i64 5]) (by simp [results, Try.results49, go_sem, r0, r1, r2]) rfl ?_
          exact ResJ.nil HE.out.1 HE.out.2.1 HE.out.2.2 HC2.out (((hBw.setCell (by simp) _).setCell (by simp) _).setCell (by simp) _)
        · have ob : (B' == 0) = false := by simp [hz1]
          have hz2 : D' = 0 := by omega
          have ob2 : (D' == 0) = true := by simp [hz2]
          clear hz
          go_wp2
          refine bodyPost_ret (v := .tuple #[jac 0 none 0 0 none 0 0, .int .i64 5]) (by simp [results, Try.results49, go_sem, r0, r1, r2]) rfl ?_
          exact ResJ.nil HE.out.1 HE.out.2.1 HE.out.2.2 HC2.out (((hBw.setCell (by simp) _).setCell (by simp) _).setCell (by simp) _)
      · have hz1 : ¬ B' = 0 := fun h => hz (.inl h)
        have hz2 : ¬ D' = 0 := fun h => hz (.inr h)
        have ob : (B' == 0) = false := by simp [hz1]
        have ob2 : (D' == 0) = false := by simp [hz2]
        have hOk2 := hide (show njOk p (famI s) (k + 1) = true by rw [hOk1.out, hOk.out, ob, ob2]; rfl)
        clear hz
        go_upto_region 12 with fail
        have jx := hJ.out
        have hbd := (Below.refl wr.heap.size wr).drew
        have hS7 := cell_be hbd jx.c1
        refine region_E (fun v => v.cell? ⟨q0, 1, none⟩ = some (.slice a' zs.length ca)) 10 (by kernel_rfl) hS7 ?_
        intro hS
        refine anyE_takeL 0 rfl (by kernel_rfl) (fun _ _ _ h => h) hS (by rfl) (v := ?_) ?_ ?_
        rotate_left
        · intro w' hSw; (try dsimp only at hSw); go_simp; (try with_reducible rfl)
        try simp only [Act.put, List.setIfInBounds_toArray, List.set_cons_zero, List.set_cons_succ]
        refine anyE_takeL 1 rfl (by kernel_rfl) (fun _ _ _ h => h) hS (by rfl) (v := ?_) ?_ ?_
        rotate_left
        · intro w' hSw; (try dsimp only at hSw); go_simp; (try with_reducible rfl)
        try simp only [Act.put, List.setIfInBounds_toArray, List.set_cons_zero, List.set_cons_succ]
        refine anyE_takeL 2 rfl (by kernel_rfl) (fun _ _ _ h => h) hS (by rfl) (v := ?_) ?_ ?_
        rotate_left
        · intro w' hSw; (try dsimp only at hSw); go_simp; (try with_reducible rfl)
        try simp only [Act.put, List.setIfInBounds_toArray, List.set_cons_zero, List.set_cons_succ]
        refine anyE_takeL 3 rfl (by kernel_rfl) (fun _ _ _ h => h) hS (by rfl) (v := ?_) ?_ ?_
        rotate_left
        · intro w' hSw; (try dsimp only at hSw); go_simp; (try with_reducible rfl)
        try simp only [Act.put, List.setIfInBounds_toArray, List.set_cons_zero, List.set_cons_succ]
        refine anyE_takeL 5 rfl (by kernel_rfl) (fun _ _ _ h => h) hS (by rfl) (v := ?_) ?_ ?_
        rotate_left
        · intro w' hSw; (try dsimp only at hSw); go_simp; (try with_reducible rfl)
        try simp only [Act.put, List.setIfInBounds_toArray, List.set_cons_zero, List.set_cons_succ]
        clear hS
        refine anyE_oneL 4 (by kernel_rfl) rfl (fun K hK => ?_)
        go_simp
        refine (l10Alpha_any s hi k (by omega) _).mono ?_
        rintro e wc6 ⟨rfl, hwc⟩
        have t8 : Below wr.heap.size wr wc6 := hwc ▸ hbd
        clear hwc
        rw [hAA.out]
        dsimp only
        have J8 := hide (jx.below t8)
        have szw := hW.out.size
        have W8 := hide (hW.out.trans (t8.mono (by omega)))
        clear jx hbd t8 hS7
        have S8 := J8.out.c1
        refine hK.out _ _ S8 ?_
        clear hK K
        try simp only [Act.put, List.setIfInBounds_toArray, List.set_cons_zero, List.set_cons_succ]
        refine anyE_takeL 6 rfl (by kernel_rfl) (fun _ _ _ h => h) S8 (by rfl) (v := ?_) ?_ ?_
        rotate_left
        · intro w' hSw; (try dsimp only at hSw); go_simp; (try with_reducible rfl)
        try simp only [Act.put, List.setIfInBounds_toArray, List.set_cons_zero, List.set_cons_succ]
        have hcl : (wc6.alloc (.cells #[.int .i64 A'] 2)).cell? ⟨wc6.heap.size, 0, none⟩ = some (.int .i64 A') := by simp [go_sem]
        have JA := J8.out.below (bl1 wc6 (.cells #[.int .i64 A'] 2))
        have hOb := hide JA.oA
        have sz8 := W8.out.size
        refine anyE_oneL 7 (by kernel_rfl) rfl (fun K hK => ?_)
        go_simp
        have S1 := JA.c1
        refine hK.out _ _ S1 ?_
        clear hK K
        try simp only [Act.put, List.setIfInBounds_toArray, List.set_cons_zero, List.set_cons_succ]
        refine anyE_oneL 8 (by kernel_rfl) rfl (fun K hK => ?_)
        refine step_app1 (by rfl) _ _ (by rfl) (w.heap.size + 1) _ _ _ zs (by rfl) rfl hOb.out _ _ A' (by rfl) hcl (by omega) (by first | omega | (simp; omega)) ?_
        intro ad6 cap6 v9 hown2 hgr2 hloc2
        have S9 := cell_ne hgr2 JA.c1 JA.2.2.1.1
        have sf2 := frz_ne hgr2 JA.c1 JA.z1 JA.2.2.1.1
        refine hK.out _ _ S9 ?_
        clear hK K
        try simp only [Act.put, List.setIfInBounds_toArray, List.set_cons_zero, List.set_cons_succ]
        refine anyE_takeL 9 rfl (by kernel_rfl) (fun _ _ _ h => h) S9 (by rfl) (v := ?_) ?_ ?_
        rotate_left
        · intro w' hSw; (try dsimp only at hSw); go_simp; (try with_reducible rfl)
        try simp only [Act.put, List.setIfInBounds_toArray, List.set_cons_zero, List.set_cons_succ]
        refine anyE_lastL (by kernel_rfl) rfl (by kernel_rfl) (fun K hK => ?_)
        go_simp
        refine hK.out _ _ ?_
        clear hK K
        try simp only [Act.put, List.setIfInBounds_toArray, List.set_cons_zero, List.set_cons_succ]
        have J6 := hide (J8.out.pushA hown2 (drew_grown hgr2) hloc2)
        have W6 := hide (below_push W8.out (by omega) (drew_grown hgr2) (own_blk_ge hOb.out) J8.out.lo (k := 1) (.slice ad6 (zs.length + 1) cap6))
        obtain ⟨w6, hw9⟩ : ∃ w9, w9 = v9.setCell ⟨q0, 1, none⟩ (.slice ad6 (zs.length + 1) cap6) := ⟨_, rfl⟩
        rw [← hw9] at J6 W6 ⊢
        clear hw9 hgr2 hown2 hloc2 hOb JA S9 sf2 J8 W8 S1 S8 hcl szw sz8
        have J7 : Hid (JS (w.heap.size + 1) q0 w6 p ad6 cap6 (tab (k + 1) (njF p (famI s))) b' cb vs) := hide (by rw [hstA.out]; exact J6.out)
        clear J6
        have rI := invM_rng D' hp
        obtain ⟨I, hI⟩ : ∃ I, invM p D' = I := ⟨_, rfl⟩
        rw [hI] at rI hstB
        have HI := hide hI
        obtain ⟨m1, m2⟩ := mulb rB.1 rB.2 rI.1 rI.2 hp2
        have v1 : IntKind.i64.wrap (B' * I) = B' * I := IntWalk.i64_in _ (by omega)
        have v2 : (B' * I).tmod p = B' * I % p := Int.tmod_eq_emod_of_nonneg m1
        obtain ⟨Z, hZ⟩ : ∃ Z, B' * I % p = Z := ⟨_, rfl⟩
        rw [hZ] at v2 hstB
        clear hI hZ
        go_upto_region 13 with fail
        have jx := J7.out
        have hbd := (Below.refl w6.heap.size w6).drew
        have hS7 := cell_be hbd jx.c2
        refine region_E (fun v => v.cell? ⟨q0, 2, none⟩ = some (.slice b' vs.length cb)) 16 (by kernel_rfl) hS7 ?_
        intro hS
        refine anyE_takeL 0 rfl (by kernel_rfl) (fun _ _ _ h => h) hS (by rfl) (v := ?_) ?_ ?_
        rotate_left
        · intro w' hSw; (try dsimp only at hSw); go_simp; (try with_reducible rfl)
        try simp only [Act.put, List.setIfInBounds_toArray, List.set_cons_zero, List.set_cons_succ]
        refine anyE_takeL 1 rfl (by kernel_rfl) (fun _ _ _ h => h) hS (by rfl) (v := ?_) ?_ ?_
        rotate_left
        · intro w' hSw; (try dsimp only at hSw); go_simp; (try with_reducible rfl)
        try simp only [Act.put, List.setIfInBounds_toArray, List.set_cons_zero, List.set_cons_succ]
        refine anyE_takeL 2 rfl (by kernel_rfl) (fun _ _ _ h => h) hS (by rfl) (v := ?_) ?_ ?_
        rotate_left
        · intro w' hSw; (try dsimp only at hSw); go_simp; (try with_reducible rfl)
        try simp only [Act.put, List.setIfInBounds_toArray, List.set_cons_zero, List.set_cons_succ]
        refine anyE_takeL 3 rfl (by kernel_rfl) (fun _ _ _ h => h) hS (by rfl) (v := ?_) ?_ ?_
        rotate_left
        · intro w' hSw; (try dsimp only at hSw); go_simp; (try with_reducible rfl)
        try simp only [Act.put, List.setIfInBounds_toArray, List.set_cons_zero, List.set_cons_succ]
        refine anyE_takeL 4 rfl (by kernel_rfl) (fun _ _ _ h => h) hS (by rfl) (v := ?_) ?_ ?_
        rotate_left
        · intro w' hSw; (try dsimp only at hSw); go_simp; (try with_reducible rfl)
        try simp only [Act.put, List.setIfInBounds_toArray, List.set_cons_zero, List.set_cons_succ]
        refine anyE_takeL 5 rfl (by kernel_rfl) (fun _ _ _ h => h) hS (by rfl) (v := ?_) ?_ ?_
        rotate_left
        · intro w' hSw; (try dsimp only at hSw); go_simp; (try with_reducible rfl)
        try simp only [Act.put, List.setIfInBounds_toArray, List.set_cons_zero, List.set_cons_succ]
        refine anyE_takeL 6 rfl (by kernel_rfl) (fun _ _ _ h => h) hS (by rfl) (v := ?_) ?_ ?_
        rotate_left
        · intro w' hSw; (try dsimp only at hSw); go_simp; (try with_reducible rfl)
        try simp only [Act.put, List.setIfInBounds_toArray, List.set_cons_zero, List.set_cons_succ]
        refine anyE_takeL 7 rfl (by kernel_rfl) (fun _ _ _ h => h) hS (by rfl) (v := ?_) ?_ ?_
        rotate_left
        · intro w' hSw; (try dsimp only at hSw); go_simp; (try with_reducible rfl)
        try simp only [Act.put, List.setIfInBounds_toArray, List.set_cons_zero, List.set_cons_succ]
        refine anyE_takeL 8 rfl (by kernel_rfl) (fun _ _ _ h => h) hS (by rfl) (v := ?_) ?_ ?_
        rotate_left
        · intro w' hSw; (try dsimp only at hSw); go_simp; (try with_reducible rfl)
        try simp only [Act.put, List.setIfInBounds_toArray, List.set_cons_zero, List.set_cons_succ]
        refine anyE_takeL 11 rfl (by kernel_rfl) (fun _ _ _ h => h) hS (by rfl) (v := ?_) ?_ ?_
        rotate_left
        · intro w' hSw; (try dsimp only at hSw); go_simp; (try with_reducible rfl)
        try simp only [Act.put, List.setIfInBounds_toArray, List.set_cons_zero, List.set_cons_succ]
        clear hS
        refine anyE_oneL 9 (by kernel_rfl) rfl (fun K hK => ?_)
        go_simp
        refine (l01Inverse_any p D' _ hp hp2 rD.1 rD.2).mono ?_
        rintro e wc9 ⟨rfl, hwc⟩
        have t8 : Below w6.heap.size w6 wc9 := hwc ▸ hbd
        clear hwc
        rw [HI.out]
        dsimp only
        have J8 := hide (jx.below t8)
        have szw := W6.out.size
        have W8 := hide (W6.out.trans (t8.mono (by omega)))
        clear jx hbd t8 hS7
        have S8 := J8.out.c2
        refine hK.out _ _ S8 ?_
        clear hK K
        try simp only [Act.put, List.setIfInBounds_toArray, List.set_cons_zero, List.set_cons_succ]
        refine anyE_takeL 10 rfl (by kernel_rfl) (fun _ _ _ h => h) S8 (by rfl) (v := ?_) ?_ ?_
        rotate_left
        · intro w' hSw; (try dsimp only at hSw); go_simp; (try with_reducible rfl)
        try simp only [Act.put, List.setIfInBounds_toArray, List.set_cons_zero, List.set_cons_succ]
        refine anyE_takeL 12 rfl (by kernel_rfl) (fun _ _ _ h => h) S8 (by rfl) (v := ?_) ?_ ?_
        rotate_left
        · intro w' hSw; (try dsimp only at hSw); go_simp; (try with_reducible rfl)
        try simp only [Act.put, List.setIfInBounds_toArray, List.set_cons_zero, List.set_cons_succ]
        have hcl : (wc9.alloc (.cells #[.int .i64 Z] 2)).cell? ⟨wc9.heap.size, 0, none⟩ = some (.int .i64 Z) := by simp [go_sem]
        have JA := J8.out.below (bl1 wc9 (.cells #[.int .i64 Z] 2))
        have hOb := hide JA.oB
        have sz8 := W8.out.size
        refine anyE_oneL 13 (by kernel_rfl) rfl (fun K hK => ?_)
        go_simp
        have S1 := JA.c2
        refine hK.out _ _ S1 ?_
        clear hK K
        try simp only [Act.put, List.setIfInBounds_toArray, List.set_cons_zero, List.set_cons_succ]
        refine anyE_oneL 14 (by kernel_rfl) rfl (fun K hK => ?_)
        refine step_app1 (by rfl) _ _ (by rfl) (w.heap.size + 1) _ _ _ vs (by rfl) rfl hOb.out _ _ Z (by rfl) hcl (by omega) (by first | omega | (simp; omega)) ?_
        intro ad9 cap9 v9 hown2 hgr2 hloc2
        have S9 := cell_ne hgr2 JA.c2 JA.2.2.1.2.1
        have sf2 := frz_ne hgr2 JA.c2 JA.z2 JA.2.2.1.2.1
        refine hK.out _ _ S9 ?_
        clear hK K
        try simp only [Act.put, List.setIfInBounds_toArray, List.set_cons_zero, List.set_cons_succ]
        refine anyE_takeL 15 rfl (by kernel_rfl) (fun _ _ _ h => h) S9 (by rfl) (v := ?_) ?_ ?_
        rotate_left
        · intro w' hSw; (try dsimp only at hSw); go_simp; (try with_reducible rfl)
        try simp only [Act.put, List.setIfInBounds_toArray, List.set_cons_zero, List.set_cons_succ]
        refine anyE_lastL (by kernel_rfl) rfl (by kernel_rfl) (fun K hK => ?_)
        go_simp
        refine hK.out _ _ ?_
        clear hK K
        try simp only [Act.put, List.setIfInBounds_toArray, List.set_cons_zero, List.set_cons_succ]
        have J9 := hide (J8.out.pushB hown2 (drew_grown hgr2) hloc2)
        have W9 := hide (below_push W8.out (by omega) (drew_grown hgr2) (own_blk_ge hOb.out) J8.out.lo (k := 2) (.slice ad9 (vs.length + 1) cap9))
        obtain ⟨w9, hw9⟩ : ∃ w9, w9 = v9.setCell ⟨q0, 2, none⟩ (.slice ad9 (vs.length + 1) cap9) := ⟨_, rfl⟩
        rw [← hw9] at J9 W9 ⊢
        clear hw9 hgr2 hown2 hloc2 hOb JA S9 sf2 J8 W8 S1 S8 hcl szw sz8
        have J10 : Hid (JS (w.heap.size + 1) q0 w9 p ad6 cap6 (tab (k + 1) (njF p (famI s))) ad9 cap9 (tab (k + 1) (njG p (famI s)))) := hide (by rw [hstB.out]; exact J9.out)
        clear J9 v1 v2 tA tB tD
        go_wp2
        go_roundw
        case rel => exact ⟨k + 1, cap6, cap9, ad6, ad9, by omega, by go_num, J10, W9, hOk2⟩
        case measure => simp [intOf]; omega
    · have hge : ¬ (k : Int) < (N : Int) := by omega
      have hkn2 : k = N := by omega
      have HC := hide (show njC s p (N : Int) = 0 by rw [HEE.out.1]; unfold bgC; rw [← hkn2, hOk.out]; rfl)
      have HV := hide (show njV s p (N : Int) = tab k (njF p (famI s)) by unfold njV; rw [HC.out, hkn2, Int.toNat_natCast]; rfl)
      have HU := hide (show njU s p (N : Int) = tab k (njG p (famI s)) by unfold njU; rw [HC.out, hkn2, Int.toNat_natCast]; rfl)
      have HP := hide (show njP s p (N : Int) = p by unfold njP; rw [HC.out]; rfl)
      have hk1 : 1 ≤ k := by omega
      clear hkn2
      obtain ⟨us, hus⟩ : ∃ us, tab k (njF p (famI s)) = us := ⟨_, rfl⟩
      have hul := hide (show us.length = k by rw [← hus, tab_len])
      obtain ⟨vs, hvs⟩ : ∃ vs, tab k (njG p (famI s)) = vs := ⟨_, rfl⟩
      have hvl := hide (show vs.length = k by rw [← hvs, tab_len])
      rw [hus, hvs] at hJ
      rw [hus] at HV
      rw [hvs] at HU
      have c0 := hJ.out.c0
      have c1 := hJ.out.c1
      have c2 := hJ.out.c2
      have hqw := hJ.out.hi
      have r0 := cell_be' hW.out (Nat.lt_succ_self _) R0.out.1
      have r1 := cell_be' hW.out (Nat.lt_succ_self _) R0.out.2.1
      have r2 := cell_be' hW.out (Nat.lt_succ_self _) R0.out.2.2
      have y0 := (hW.out.frozen (p := ⟨w.heap.size, 0, none⟩) (Nat.lt_succ_self _)).trans Y0.out.1
      have y1 := (hW.out.frozen (p := ⟨w.heap.size, 1, none⟩) (Nat.lt_succ_self _)).trans Y0.out.2.1
      have y2 := (hW.out.frozen (p := ⟨w.heap.size, 2, none⟩) (Nat.lt_succ_self _)).trans Y0.out.2.2
      have hBw := hb0.trans (hW.out.mono (by omega))
      have jz := hJ.out.jz (by rw [hul.out]; omega)
      clear hus hvs
      go_wp2
      refine bodyPost_ret (v := .tuple #[jac p a' us.length ca b' vs.length cb, .int .i64 0]) (by simp [results, Try.results49, go_sem, r0, r1, r2]) rfl ?_
      have jz2 := ((jz.setLow (x := ⟨w.heap.size, 0, none⟩) (by simp) (.int .i64 p)).setLow (x := ⟨w.heap.size, 1, none⟩) (by simp) (.slice a' us.length ca)).setLow (x := ⟨w.heap.size, 2, none⟩) (by simp) (.slice b' vs.length cb)
      exact ResJ.mk HP.out HC.out (by rw [HV.out]) (by rw [HU.out]) (by rw [HV.out, HU.out]; simpa using jz2.mono (lo' := w.heap.size) (by omega) (Nat.le_refl _)) (by rw [HV.out, hul.out]; omega) (by rw [HU.out, hvl.out]; omega) (((hBw.setCell (by simp) _).setCell (by simp) _).setCell (by simp) _)
end Go.Proofs.Ytpoabedlcljibaa
