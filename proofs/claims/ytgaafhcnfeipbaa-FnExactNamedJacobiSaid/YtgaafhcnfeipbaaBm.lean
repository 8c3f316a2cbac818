/- Contracts: l10Known, l10Alpha, l10Beta (model). -/
import Derived.Test.YtgaafhcnfeipbaaBl
namespace Go.Proofs.Ytgaafhcnfeipbaa
open Go.RowKit Go.Maps Go.WideMaps
set_option linter.unusedVariables false
set_option linter.unusedSimpArgs false

theorem l10Known_0 (w : World) : Calls Try.prog 44 #[.string nm0] w fun e w' => e = .returned (.bool true) ∧ w = w' := by
  have q0 : nm0.toList = [104, 101, 114, 109, 105, 116, 101] := by simp [nm0]
  have q1 : ¬ (nm0.toList = [108, 97, 103, 117, 101, 114, 114, 101]) := by simp [nm0]
  have q2 : ¬ (nm0.toList = [112, 111, 105, 115, 115, 111, 110]) := by simp [nm0]
  have q3 : ¬ (nm0.toList = [99, 97, 116, 97, 108, 97, 110]) := by simp [nm0]
  have q4 : ¬ (nm0.toList = [115, 101, 99, 111, 110, 100]) := by simp [nm0]
  have q5 : ¬ (nm0.toList = [108, 101, 103, 101, 110, 100, 114, 101]) := by simp [nm0]
  go_enter Try.func44, Try.ntmps44
  go_wp2
  go_ret
  exact ⟨rfl, rfl⟩
theorem l10Known_1 (w : World) : Calls Try.prog 44 #[.string nm1] w fun e w' => e = .returned (.bool true) ∧ w = w' := by
  have q0 : ¬ (nm1.toList = [104, 101, 114, 109, 105, 116, 101]) := by simp [nm1]
  have q1 : nm1.toList = [108, 97, 103, 117, 101, 114, 114, 101] := by simp [nm1]
  have q2 : ¬ (nm1.toList = [112, 111, 105, 115, 115, 111, 110]) := by simp [nm1]
  have q3 : ¬ (nm1.toList = [99, 97, 116, 97, 108, 97, 110]) := by simp [nm1]
  have q4 : ¬ (nm1.toList = [115, 101, 99, 111, 110, 100]) := by simp [nm1]
  have q5 : ¬ (nm1.toList = [108, 101, 103, 101, 110, 100, 114, 101]) := by simp [nm1]
  go_enter Try.func44, Try.ntmps44
  go_wp2
  go_ret
  exact ⟨rfl, rfl⟩
theorem l10Known_2 (w : World) : Calls Try.prog 44 #[.string nm2] w fun e w' => e = .returned (.bool true) ∧ w = w' := by
  have q0 : ¬ (nm2.toList = [104, 101, 114, 109, 105, 116, 101]) := by simp [nm2]
  have q1 : ¬ (nm2.toList = [108, 97, 103, 117, 101, 114, 114, 101]) := by simp [nm2]
  have q2 : nm2.toList = [112, 111, 105, 115, 115, 111, 110] := by simp [nm2]
  have q3 : ¬ (nm2.toList = [99, 97, 116, 97, 108, 97, 110]) := by simp [nm2]
  have q4 : ¬ (nm2.toList = [115, 101, 99, 111, 110, 100]) := by simp [nm2]
  have q5 : ¬ (nm2.toList = [108, 101, 103, 101, 110, 100, 114, 101]) := by simp [nm2]
  go_enter Try.func44, Try.ntmps44
  go_wp2
  go_ret
  exact ⟨rfl, rfl⟩
theorem l10Known_3 (w : World) : Calls Try.prog 44 #[.string nm3] w fun e w' => e = .returned (.bool true) ∧ w = w' := by
  have q0 : ¬ (nm3.toList = [104, 101, 114, 109, 105, 116, 101]) := by simp [nm3]
  have q1 : ¬ (nm3.toList = [108, 97, 103, 117, 101, 114, 114, 101]) := by simp [nm3]
  have q2 : ¬ (nm3.toList = [112, 111, 105, 115, 115, 111, 110]) := by simp [nm3]
  have q3 : nm3.toList = [99, 97, 116, 97, 108, 97, 110] := by simp [nm3]
  have q4 : ¬ (nm3.toList = [115, 101, 99, 111, 110, 100]) := by simp [nm3]
  have q5 : ¬ (nm3.toList = [108, 101, 103, 101, 110, 100, 114, 101]) := by simp [nm3]
  go_enter Try.func44, Try.ntmps44
  go_wp2
  go_ret
  exact ⟨rfl, rfl⟩
theorem l10Known_4 (w : World) : Calls Try.prog 44 #[.string nm4] w fun e w' => e = .returned (.bool true) ∧ w = w' := by
  have q0 : ¬ (nm4.toList = [104, 101, 114, 109, 105, 116, 101]) := by simp [nm4]
  have q1 : ¬ (nm4.toList = [108, 97, 103, 117, 101, 114, 114, 101]) := by simp [nm4]
  have q2 : ¬ (nm4.toList = [112, 111, 105, 115, 115, 111, 110]) := by simp [nm4]
  have q3 : ¬ (nm4.toList = [99, 97, 116, 97, 108, 97, 110]) := by simp [nm4]
  have q4 : nm4.toList = [115, 101, 99, 111, 110, 100] := by simp [nm4]
  have q5 : ¬ (nm4.toList = [108, 101, 103, 101, 110, 100, 114, 101]) := by simp [nm4]
  go_enter Try.func44, Try.ntmps44
  go_wp2
  go_ret
  exact ⟨rfl, rfl⟩
theorem l10Known_5 (w : World) : Calls Try.prog 44 #[.string nm5] w fun e w' => e = .returned (.bool true) ∧ w = w' := by
  have q0 : ¬ (nm5.toList = [104, 101, 114, 109, 105, 116, 101]) := by simp [nm5]
  have q1 : ¬ (nm5.toList = [108, 97, 103, 117, 101, 114, 114, 101]) := by simp [nm5]
  have q2 : ¬ (nm5.toList = [112, 111, 105, 115, 115, 111, 110]) := by simp [nm5]
  have q3 : ¬ (nm5.toList = [99, 97, 116, 97, 108, 97, 110]) := by simp [nm5]
  have q4 : ¬ (nm5.toList = [115, 101, 99, 111, 110, 100]) := by simp [nm5]
  have q5 : nm5.toList = [108, 101, 103, 101, 110, 100, 114, 101] := by simp [nm5]
  go_enter Try.func44, Try.ntmps44
  go_wp2
  go_ret
  exact ⟨rfl, rfl⟩
theorem l10Known_no (s : ByteArray) (h0 : s ≠ nm0) (h1 : s ≠ nm1) (h2 : s ≠ nm2) (h3 : s ≠ nm3) (h4 : s ≠ nm4) (h5 : s ≠ nm5) (w : World) : Calls Try.prog 44 #[.string s] w fun e w' => e = .returned (.bool false) ∧ w = w' := by
  have q0 : ¬ (s.toList = [104, 101, 114, 109, 105, 116, 101]) := fun e => h0 (by apply ByteArray.ext; apply Array.ext'; rw [ByteArray.toList_eq] at e; simpa [nm0] using e)
  have q1 : ¬ (s.toList = [108, 97, 103, 117, 101, 114, 114, 101]) := fun e => h1 (by apply ByteArray.ext; apply Array.ext'; rw [ByteArray.toList_eq] at e; simpa [nm1] using e)
  have q2 : ¬ (s.toList = [112, 111, 105, 115, 115, 111, 110]) := fun e => h2 (by apply ByteArray.ext; apply Array.ext'; rw [ByteArray.toList_eq] at e; simpa [nm2] using e)
  have q3 : ¬ (s.toList = [99, 97, 116, 97, 108, 97, 110]) := fun e => h3 (by apply ByteArray.ext; apply Array.ext'; rw [ByteArray.toList_eq] at e; simpa [nm3] using e)
  have q4 : ¬ (s.toList = [115, 101, 99, 111, 110, 100]) := fun e => h4 (by apply ByteArray.ext; apply Array.ext'; rw [ByteArray.toList_eq] at e; simpa [nm4] using e)
  have q5 : ¬ (s.toList = [108, 101, 103, 101, 110, 100, 114, 101]) := fun e => h5 (by apply ByteArray.ext; apply Array.ext'; rw [ByteArray.toList_eq] at e; simpa [nm5] using e)
  go_enter Try.func44, Try.ntmps44
  go_wp2
  go_ret
  exact ⟨by simp [q0, q1, q2, q3, q4, q5], rfl⟩
theorem l10Known_any (s : ByteArray) (w : World) : Calls Try.prog 44 #[.string s] w fun e w' => e = .returned (.bool (decide (famI s < 6))) ∧ w = w' := by
  obtain ⟨f0, f1, f2, f3, f4, f5⟩ := famI_nm
  rcases famI_cases s with rfl | rfl | rfl | rfl | rfl | rfl | ⟨h, h0, h1, h2, h3, h4, h5⟩
  · rw [f0]; exact l10Known_0 w
  · rw [f1]; exact l10Known_1 w
  · rw [f2]; exact l10Known_2 w
  · rw [f3]; exact l10Known_3 w
  · rw [f4]; exact l10Known_4 w
  · rw [f5]; exact l10Known_5 w
  · rw [h]; exact l10Known_no s h0 h1 h2 h3 h4 h5 w
theorem l10Alpha_0 (k : Nat) (hk : k ≤ 12) (w : World) : Calls Try.prog 46 #[.string nm0, .int .i64 k] w fun e w' => e = .returned (.int .i64 (faA 0 k)) ∧ w = w' := by
  have q0 : nm0.toList = [104, 101, 114, 109, 105, 116, 101] := by simp [nm0]
  have q1 : ¬ (nm0.toList = [108, 97, 103, 117, 101, 114, 114, 101]) := by simp [nm0]
  have q2 : ¬ (nm0.toList = [112, 111, 105, 115, 115, 111, 110]) := by simp [nm0]
  have q3 : ¬ (nm0.toList = [99, 97, 116, 97, 108, 97, 110]) := by simp [nm0]
  have q4 : ¬ (nm0.toList = [115, 101, 99, 111, 110, 100]) := by simp [nm0]
  have q5 : ¬ (nm0.toList = [108, 101, 103, 101, 110, 100, 114, 101]) := by simp [nm0]
  have v2 : IntKind.i64.wrap (2 * (k : Int)) = 2 * (k : Int) := IntWalk.i64_in _ (by omega)
  have v3 : IntKind.i64.wrap (2 * (k : Int) + 1) = 2 * (k : Int) + 1 := IntWalk.i64_in _ (by omega)
  have v4 : IntKind.i64.wrap ((k : Int) + 1) = (k : Int) + 1 := IntWalk.i64_in _ (by omega)
  go_enter Try.func46, Try.ntmps46
  go_wp2
  go_ret
  exact ⟨by simp [faA], rfl⟩
theorem l10Alpha_1 (k : Nat) (hk : k ≤ 12) (w : World) : Calls Try.prog 46 #[.string nm1, .int .i64 k] w fun e w' => e = .returned (.int .i64 (faA 1 k)) ∧ w = w' := by
  have q0 : ¬ (nm1.toList = [104, 101, 114, 109, 105, 116, 101]) := by simp [nm1]
  have q1 : nm1.toList = [108, 97, 103, 117, 101, 114, 114, 101] := by simp [nm1]
  have q2 : ¬ (nm1.toList = [112, 111, 105, 115, 115, 111, 110]) := by simp [nm1]
  have q3 : ¬ (nm1.toList = [99, 97, 116, 97, 108, 97, 110]) := by simp [nm1]
  have q4 : ¬ (nm1.toList = [115, 101, 99, 111, 110, 100]) := by simp [nm1]
  have q5 : ¬ (nm1.toList = [108, 101, 103, 101, 110, 100, 114, 101]) := by simp [nm1]
  have v2 : IntKind.i64.wrap (2 * (k : Int)) = 2 * (k : Int) := IntWalk.i64_in _ (by omega)
  have v3 : IntKind.i64.wrap (2 * (k : Int) + 1) = 2 * (k : Int) + 1 := IntWalk.i64_in _ (by omega)
  have v4 : IntKind.i64.wrap ((k : Int) + 1) = (k : Int) + 1 := IntWalk.i64_in _ (by omega)
  go_enter Try.func46, Try.ntmps46
  go_wp2
  go_ret
  exact ⟨by simp [faA], rfl⟩
theorem l10Alpha_2 (k : Nat) (hk : k ≤ 12) (w : World) : Calls Try.prog 46 #[.string nm2, .int .i64 k] w fun e w' => e = .returned (.int .i64 (faA 2 k)) ∧ w = w' := by
  have q0 : ¬ (nm2.toList = [104, 101, 114, 109, 105, 116, 101]) := by simp [nm2]
  have q1 : ¬ (nm2.toList = [108, 97, 103, 117, 101, 114, 114, 101]) := by simp [nm2]
  have q2 : nm2.toList = [112, 111, 105, 115, 115, 111, 110] := by simp [nm2]
  have q3 : ¬ (nm2.toList = [99, 97, 116, 97, 108, 97, 110]) := by simp [nm2]
  have q4 : ¬ (nm2.toList = [115, 101, 99, 111, 110, 100]) := by simp [nm2]
  have q5 : ¬ (nm2.toList = [108, 101, 103, 101, 110, 100, 114, 101]) := by simp [nm2]
  have v2 : IntKind.i64.wrap (2 * (k : Int)) = 2 * (k : Int) := IntWalk.i64_in _ (by omega)
  have v3 : IntKind.i64.wrap (2 * (k : Int) + 1) = 2 * (k : Int) + 1 := IntWalk.i64_in _ (by omega)
  have v4 : IntKind.i64.wrap ((k : Int) + 1) = (k : Int) + 1 := IntWalk.i64_in _ (by omega)
  go_enter Try.func46, Try.ntmps46
  go_wp2
  go_ret
  exact ⟨by simp [faA], rfl⟩
theorem l10Alpha_3 (k : Nat) (hk : k ≤ 12) (w : World) : Calls Try.prog 46 #[.string nm3, .int .i64 k] w fun e w' => e = .returned (.int .i64 (faA 3 k)) ∧ w = w' := by
  have q0 : ¬ (nm3.toList = [104, 101, 114, 109, 105, 116, 101]) := by simp [nm3]
  have q1 : ¬ (nm3.toList = [108, 97, 103, 117, 101, 114, 114, 101]) := by simp [nm3]
  have q2 : ¬ (nm3.toList = [112, 111, 105, 115, 115, 111, 110]) := by simp [nm3]
  have q3 : nm3.toList = [99, 97, 116, 97, 108, 97, 110] := by simp [nm3]
  have q4 : ¬ (nm3.toList = [115, 101, 99, 111, 110, 100]) := by simp [nm3]
  have q5 : ¬ (nm3.toList = [108, 101, 103, 101, 110, 100, 114, 101]) := by simp [nm3]
  by_cases h0 : k = 0
  · subst h0
    go_enter Try.func46, Try.ntmps46
    go_wp2
    go_ret
    exact ⟨by simp [faA], rfl⟩
  · have k0 : ¬ (k : Int) = 0 := by omega
    have kb : ((k : Int) == 0) = false := by simpa using h0
    go_enter Try.func46, Try.ntmps46
    go_wp2
    go_ret
    exact ⟨by simp [faA, h0], rfl⟩
theorem l10Alpha_4 (k : Nat) (hk : k ≤ 12) (w : World) : Calls Try.prog 46 #[.string nm4, .int .i64 k] w fun e w' => e = .returned (.int .i64 (faA 4 k)) ∧ w = w' := by
  have q0 : ¬ (nm4.toList = [104, 101, 114, 109, 105, 116, 101]) := by simp [nm4]
  have q1 : ¬ (nm4.toList = [108, 97, 103, 117, 101, 114, 114, 101]) := by simp [nm4]
  have q2 : ¬ (nm4.toList = [112, 111, 105, 115, 115, 111, 110]) := by simp [nm4]
  have q3 : ¬ (nm4.toList = [99, 97, 116, 97, 108, 97, 110]) := by simp [nm4]
  have q4 : nm4.toList = [115, 101, 99, 111, 110, 100] := by simp [nm4]
  have q5 : ¬ (nm4.toList = [108, 101, 103, 101, 110, 100, 114, 101]) := by simp [nm4]
  have v2 : IntKind.i64.wrap (2 * (k : Int)) = 2 * (k : Int) := IntWalk.i64_in _ (by omega)
  have v3 : IntKind.i64.wrap (2 * (k : Int) + 1) = 2 * (k : Int) + 1 := IntWalk.i64_in _ (by omega)
  have v4 : IntKind.i64.wrap ((k : Int) + 1) = (k : Int) + 1 := IntWalk.i64_in _ (by omega)
  go_enter Try.func46, Try.ntmps46
  go_wp2
  go_ret
  exact ⟨by simp [faA], rfl⟩
theorem l10Alpha_5 (k : Nat) (hk : k ≤ 12) (w : World) : Calls Try.prog 46 #[.string nm5, .int .i64 k] w fun e w' => e = .returned (.int .i64 (faA 5 k)) ∧ w = w' := by
  have q0 : ¬ (nm5.toList = [104, 101, 114, 109, 105, 116, 101]) := by simp [nm5]
  have q1 : ¬ (nm5.toList = [108, 97, 103, 117, 101, 114, 114, 101]) := by simp [nm5]
  have q2 : ¬ (nm5.toList = [112, 111, 105, 115, 115, 111, 110]) := by simp [nm5]
  have q3 : ¬ (nm5.toList = [99, 97, 116, 97, 108, 97, 110]) := by simp [nm5]
  have q4 : ¬ (nm5.toList = [115, 101, 99, 111, 110, 100]) := by simp [nm5]
  have q5 : nm5.toList = [108, 101, 103, 101, 110, 100, 114, 101] := by simp [nm5]
  have v2 : IntKind.i64.wrap (2 * (k : Int)) = 2 * (k : Int) := IntWalk.i64_in _ (by omega)
  have v3 : IntKind.i64.wrap (2 * (k : Int) + 1) = 2 * (k : Int) + 1 := IntWalk.i64_in _ (by omega)
  have v4 : IntKind.i64.wrap ((k : Int) + 1) = (k : Int) + 1 := IntWalk.i64_in _ (by omega)
  go_enter Try.func46, Try.ntmps46
  go_wp2
  go_ret
  exact ⟨by simp [faA], rfl⟩
theorem l10Alpha_any (s : ByteArray) (hi : famI s < 6) (k : Nat) (hk : k ≤ 12) (w : World) : Calls Try.prog 46 #[.string s, .int .i64 k] w fun e w' => e = .returned (.int .i64 (faA (famI s) k)) ∧ w = w' := by
  obtain ⟨f0, f1, f2, f3, f4, f5⟩ := famI_nm
  rcases famI_cases s with rfl | rfl | rfl | rfl | rfl | rfl | ⟨h, _⟩
  · rw [f0]; exact l10Alpha_0 k hk w
  · rw [f1]; exact l10Alpha_1 k hk w
  · rw [f2]; exact l10Alpha_2 k hk w
  · rw [f3]; exact l10Alpha_3 k hk w
  · rw [f4]; exact l10Alpha_4 k hk w
  · rw [f5]; exact l10Alpha_5 k hk w
  · omega
theorem l10Beta_0 (k : Nat) (hk : k ≤ 12) (w : World) : Calls Try.prog 45 #[.string nm0, .int .i64 k] w fun e w' => e = .returned (.tuple #[.int .i64 (faB 0 k), .int .i64 (faD 0 k)]) ∧ w = w' := by
  have q0 : nm0.toList = [104, 101, 114, 109, 105, 116, 101] := by simp [nm0]
  have qq1 : ¬ (nm0.toList = [108, 97, 103, 117, 101, 114, 114, 101]) := by simp [nm0]
  have q2 : ¬ (nm0.toList = [112, 111, 105, 115, 115, 111, 110]) := by simp [nm0]
  have q3 : ¬ (nm0.toList = [99, 97, 116, 97, 108, 97, 110]) := by simp [nm0]
  have q4 : ¬ (nm0.toList = [115, 101, 99, 111, 110, 100]) := by simp [nm0]
  have q5 : ¬ (nm0.toList = [108, 101, 103, 101, 110, 100, 114, 101]) := by simp [nm0]
  by_cases h0 : k = 0
  · subst h0
    go_enter Try.func45, Try.ntmps45
    go_wp2
    go_ret2
    exact ⟨by simp [faB, faD], rfl⟩
  · have k0 : ¬ (k : Int) = 0 := by omega
    have kb : ((k : Int) == 0) = false := by simpa using h0
    obtain ⟨q1, q2'⟩ := mulb2k (k := k) hk
    have v1 : IntKind.i64.wrap ((k : Int) * (k : Int)) = (k : Int) * (k : Int) := IntWalk.i64_in _ (by omega)
    have v2 : IntKind.i64.wrap (4 * (k : Int)) = 4 * (k : Int) := IntWalk.i64_in _ (by omega)
    have e4 : 4 * (k : Int) * (k : Int) = 4 * ((k : Int) * (k : Int)) := Int.mul_assoc _ _ _
    have v3 : IntKind.i64.wrap (4 * (k : Int) * (k : Int)) = 4 * (k : Int) * (k : Int) := IntWalk.i64_in _ (by omega)
    have v4 : IntKind.i64.wrap (4 * (k : Int) * (k : Int) - 1) = 4 * (k : Int) * (k : Int) - 1 := IntWalk.i64_in _ (by omega)
    clear e4
    go_enter Try.func45, Try.ntmps45
    go_wp2
    go_ret2
    exact ⟨by simp [faB, faD, h0], rfl⟩
theorem l10Beta_1 (k : Nat) (hk : k ≤ 12) (w : World) : Calls Try.prog 45 #[.string nm1, .int .i64 k] w fun e w' => e = .returned (.tuple #[.int .i64 (faB 1 k), .int .i64 (faD 1 k)]) ∧ w = w' := by
  have q0 : ¬ (nm1.toList = [104, 101, 114, 109, 105, 116, 101]) := by simp [nm1]
  have qq1 : nm1.toList = [108, 97, 103, 117, 101, 114, 114, 101] := by simp [nm1]
  have q2 : ¬ (nm1.toList = [112, 111, 105, 115, 115, 111, 110]) := by simp [nm1]
  have q3 : ¬ (nm1.toList = [99, 97, 116, 97, 108, 97, 110]) := by simp [nm1]
  have q4 : ¬ (nm1.toList = [115, 101, 99, 111, 110, 100]) := by simp [nm1]
  have q5 : ¬ (nm1.toList = [108, 101, 103, 101, 110, 100, 114, 101]) := by simp [nm1]
  by_cases h0 : k = 0
  · subst h0
    go_enter Try.func45, Try.ntmps45
    go_wp2
    go_ret2
    exact ⟨by simp [faB, faD], rfl⟩
  · have k0 : ¬ (k : Int) = 0 := by omega
    have kb : ((k : Int) == 0) = false := by simpa using h0
    obtain ⟨q1, q2'⟩ := mulb2k (k := k) hk
    have v1 : IntKind.i64.wrap ((k : Int) * (k : Int)) = (k : Int) * (k : Int) := IntWalk.i64_in _ (by omega)
    have v2 : IntKind.i64.wrap (4 * (k : Int)) = 4 * (k : Int) := IntWalk.i64_in _ (by omega)
    have e4 : 4 * (k : Int) * (k : Int) = 4 * ((k : Int) * (k : Int)) := Int.mul_assoc _ _ _
    have v3 : IntKind.i64.wrap (4 * (k : Int) * (k : Int)) = 4 * (k : Int) * (k : Int) := IntWalk.i64_in _ (by omega)
    have v4 : IntKind.i64.wrap (4 * (k : Int) * (k : Int) - 1) = 4 * (k : Int) * (k : Int) - 1 := IntWalk.i64_in _ (by omega)
    clear e4
    go_enter Try.func45, Try.ntmps45
    go_wp2
    go_ret2
    exact ⟨by simp [faB, faD, h0], rfl⟩
theorem l10Beta_2 (k : Nat) (hk : k ≤ 12) (w : World) : Calls Try.prog 45 #[.string nm2, .int .i64 k] w fun e w' => e = .returned (.tuple #[.int .i64 (faB 2 k), .int .i64 (faD 2 k)]) ∧ w = w' := by
  have q0 : ¬ (nm2.toList = [104, 101, 114, 109, 105, 116, 101]) := by simp [nm2]
  have qq1 : ¬ (nm2.toList = [108, 97, 103, 117, 101, 114, 114, 101]) := by simp [nm2]
  have q2 : nm2.toList = [112, 111, 105, 115, 115, 111, 110] := by simp [nm2]
  have q3 : ¬ (nm2.toList = [99, 97, 116, 97, 108, 97, 110]) := by simp [nm2]
  have q4 : ¬ (nm2.toList = [115, 101, 99, 111, 110, 100]) := by simp [nm2]
  have q5 : ¬ (nm2.toList = [108, 101, 103, 101, 110, 100, 114, 101]) := by simp [nm2]
  by_cases h0 : k = 0
  · subst h0
    go_enter Try.func45, Try.ntmps45
    go_wp2
    go_ret2
    exact ⟨by simp [faB, faD], rfl⟩
  · have k0 : ¬ (k : Int) = 0 := by omega
    have kb : ((k : Int) == 0) = false := by simpa using h0
    obtain ⟨q1, q2'⟩ := mulb2k (k := k) hk
    have v1 : IntKind.i64.wrap ((k : Int) * (k : Int)) = (k : Int) * (k : Int) := IntWalk.i64_in _ (by omega)
    have v2 : IntKind.i64.wrap (4 * (k : Int)) = 4 * (k : Int) := IntWalk.i64_in _ (by omega)
    have e4 : 4 * (k : Int) * (k : Int) = 4 * ((k : Int) * (k : Int)) := Int.mul_assoc _ _ _
    have v3 : IntKind.i64.wrap (4 * (k : Int) * (k : Int)) = 4 * (k : Int) * (k : Int) := IntWalk.i64_in _ (by omega)
    have v4 : IntKind.i64.wrap (4 * (k : Int) * (k : Int) - 1) = 4 * (k : Int) * (k : Int) - 1 := IntWalk.i64_in _ (by omega)
    clear e4
    go_enter Try.func45, Try.ntmps45
    go_wp2
    go_ret2
    exact ⟨by simp [faB, faD, h0], rfl⟩
theorem l10Beta_3 (k : Nat) (hk : k ≤ 12) (w : World) : Calls Try.prog 45 #[.string nm3, .int .i64 k] w fun e w' => e = .returned (.tuple #[.int .i64 (faB 3 k), .int .i64 (faD 3 k)]) ∧ w = w' := by
  have q0 : ¬ (nm3.toList = [104, 101, 114, 109, 105, 116, 101]) := by simp [nm3]
  have qq1 : ¬ (nm3.toList = [108, 97, 103, 117, 101, 114, 114, 101]) := by simp [nm3]
  have q2 : ¬ (nm3.toList = [112, 111, 105, 115, 115, 111, 110]) := by simp [nm3]
  have q3 : nm3.toList = [99, 97, 116, 97, 108, 97, 110] := by simp [nm3]
  have q4 : ¬ (nm3.toList = [115, 101, 99, 111, 110, 100]) := by simp [nm3]
  have q5 : ¬ (nm3.toList = [108, 101, 103, 101, 110, 100, 114, 101]) := by simp [nm3]
  by_cases h0 : k = 0
  · subst h0
    go_enter Try.func45, Try.ntmps45
    go_wp2
    go_ret2
    exact ⟨by simp [faB, faD], rfl⟩
  · have k0 : ¬ (k : Int) = 0 := by omega
    have kb : ((k : Int) == 0) = false := by simpa using h0
    obtain ⟨q1, q2'⟩ := mulb2k (k := k) hk
    have v1 : IntKind.i64.wrap ((k : Int) * (k : Int)) = (k : Int) * (k : Int) := IntWalk.i64_in _ (by omega)
    have v2 : IntKind.i64.wrap (4 * (k : Int)) = 4 * (k : Int) := IntWalk.i64_in _ (by omega)
    have e4 : 4 * (k : Int) * (k : Int) = 4 * ((k : Int) * (k : Int)) := Int.mul_assoc _ _ _
    have v3 : IntKind.i64.wrap (4 * (k : Int) * (k : Int)) = 4 * (k : Int) * (k : Int) := IntWalk.i64_in _ (by omega)
    have v4 : IntKind.i64.wrap (4 * (k : Int) * (k : Int) - 1) = 4 * (k : Int) * (k : Int) - 1 := IntWalk.i64_in _ (by omega)
    clear e4
    go_enter Try.func45, Try.ntmps45
    go_wp2
    go_ret2
    exact ⟨by simp [faB, faD, h0], rfl⟩
theorem l10Beta_4 (k : Nat) (hk : k ≤ 12) (w : World) : Calls Try.prog 45 #[.string nm4, .int .i64 k] w fun e w' => e = .returned (.tuple #[.int .i64 (faB 4 k), .int .i64 (faD 4 k)]) ∧ w = w' := by
  have q0 : ¬ (nm4.toList = [104, 101, 114, 109, 105, 116, 101]) := by simp [nm4]
  have qq1 : ¬ (nm4.toList = [108, 97, 103, 117, 101, 114, 114, 101]) := by simp [nm4]
  have q2 : ¬ (nm4.toList = [112, 111, 105, 115, 115, 111, 110]) := by simp [nm4]
  have q3 : ¬ (nm4.toList = [99, 97, 116, 97, 108, 97, 110]) := by simp [nm4]
  have q4 : nm4.toList = [115, 101, 99, 111, 110, 100] := by simp [nm4]
  have q5 : ¬ (nm4.toList = [108, 101, 103, 101, 110, 100, 114, 101]) := by simp [nm4]
  by_cases h0 : k = 0
  · subst h0
    go_enter Try.func45, Try.ntmps45
    go_wp2
    go_ret2
    exact ⟨by simp [faB, faD], rfl⟩
  · have k0 : ¬ (k : Int) = 0 := by omega
    have kb : ((k : Int) == 0) = false := by simpa using h0
    obtain ⟨q1, q2'⟩ := mulb2k (k := k) hk
    have v1 : IntKind.i64.wrap ((k : Int) * (k : Int)) = (k : Int) * (k : Int) := IntWalk.i64_in _ (by omega)
    have v2 : IntKind.i64.wrap (4 * (k : Int)) = 4 * (k : Int) := IntWalk.i64_in _ (by omega)
    have e4 : 4 * (k : Int) * (k : Int) = 4 * ((k : Int) * (k : Int)) := Int.mul_assoc _ _ _
    have v3 : IntKind.i64.wrap (4 * (k : Int) * (k : Int)) = 4 * (k : Int) * (k : Int) := IntWalk.i64_in _ (by omega)
    have v4 : IntKind.i64.wrap (4 * (k : Int) * (k : Int) - 1) = 4 * (k : Int) * (k : Int) - 1 := IntWalk.i64_in _ (by omega)
    clear e4
    go_enter Try.func45, Try.ntmps45
    go_wp2
    go_ret2
    exact ⟨by simp [faB, faD, h0], rfl⟩
theorem l10Beta_5 (k : Nat) (hk : k ≤ 12) (w : World) : Calls Try.prog 45 #[.string nm5, .int .i64 k] w fun e w' => e = .returned (.tuple #[.int .i64 (faB 5 k), .int .i64 (faD 5 k)]) ∧ w = w' := by
  have q0 : ¬ (nm5.toList = [104, 101, 114, 109, 105, 116, 101]) := by simp [nm5]
  have qq1 : ¬ (nm5.toList = [108, 97, 103, 117, 101, 114, 114, 101]) := by simp [nm5]
  have q2 : ¬ (nm5.toList = [112, 111, 105, 115, 115, 111, 110]) := by simp [nm5]
  have q3 : ¬ (nm5.toList = [99, 97, 116, 97, 108, 97, 110]) := by simp [nm5]
  have q4 : ¬ (nm5.toList = [115, 101, 99, 111, 110, 100]) := by simp [nm5]
  have q5 : nm5.toList = [108, 101, 103, 101, 110, 100, 114, 101] := by simp [nm5]
  by_cases h0 : k = 0
  · subst h0
    go_enter Try.func45, Try.ntmps45
    go_wp2
    go_ret2
    exact ⟨by simp [faB, faD], rfl⟩
  · have k0 : ¬ (k : Int) = 0 := by omega
    have kb : ((k : Int) == 0) = false := by simpa using h0
    obtain ⟨q1, q2'⟩ := mulb2k (k := k) hk
    have v1 : IntKind.i64.wrap ((k : Int) * (k : Int)) = (k : Int) * (k : Int) := IntWalk.i64_in _ (by omega)
    have v2 : IntKind.i64.wrap (4 * (k : Int)) = 4 * (k : Int) := IntWalk.i64_in _ (by omega)
    have e4 : 4 * (k : Int) * (k : Int) = 4 * ((k : Int) * (k : Int)) := Int.mul_assoc _ _ _
    have v3 : IntKind.i64.wrap (4 * (k : Int) * (k : Int)) = 4 * (k : Int) * (k : Int) := IntWalk.i64_in _ (by omega)
    have v4 : IntKind.i64.wrap (4 * (k : Int) * (k : Int) - 1) = 4 * (k : Int) * (k : Int) - 1 := IntWalk.i64_in _ (by omega)
    clear e4
    go_enter Try.func45, Try.ntmps45
    go_wp2
    go_ret2
    exact ⟨by simp [faB, faD, h0], rfl⟩
theorem l10Beta_any (s : ByteArray) (hi : famI s < 6) (k : Nat) (hk : k ≤ 12) (w : World) : Calls Try.prog 45 #[.string s, .int .i64 k] w fun e w' => e = .returned (.tuple #[.int .i64 (faB (famI s) k), .int .i64 (faD (famI s) k)]) ∧ w = w' := by
  obtain ⟨f0, f1, f2, f3, f4, f5⟩ := famI_nm
  rcases famI_cases s with rfl | rfl | rfl | rfl | rfl | rfl | ⟨h, _⟩
  · rw [f0]; exact l10Beta_0 k hk w
  · rw [f1]; exact l10Beta_1 k hk w
  · rw [f2]; exact l10Beta_2 k hk w
  · rw [f3]; exact l10Beta_3 k hk w
  · rw [f4]; exact l10Beta_4 k hk w
  · rw [f5]; exact l10Beta_5 k hk w
  · omega
end Go.Proofs.Ytgaafhcnfeipbaa
