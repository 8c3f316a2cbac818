/- Merged texts. -/
import Derived.Test.YtkpmonopjkjflaaYC121
import Derived.Test.YtkpmonopjkjflaaYC17
import Derived.Test.YtkpmonopjkjflaaYC13
/- zeroMatrix (program): a matrix whose rows are parts of one list. -/
namespace Go.Proofs.Ytkpmonopjkjflaa
open Go.RowKit
set_option linter.unusedVariables false
set_option linter.unusedSimpArgs false

/-- A row of slices known whole. -/
def RowS (w : World) (g : Nat) (vs : List Value) : Prop := w.heap[g]? = some (.cells vs.toArray 22 (0, 0))
theorem RowS.lt {w : World} {g : Nat} {vs : List Value} (h : RowS w g vs) : g < w.heap.size := lt_of_block h
theorem RowS.cell {w : World} {g : Nat} {vs : List Value} (h : RowS w g vs) (j : Nat) : w.cell? ⟨g, j, none⟩ = vs[j]? := by
  rw [cell_of_row w g j _ _ (0, 0) h]
  simp
theorem RowS.free {w : World} {g : Nat} {vs : List Value} (h : RowS w g vs) (j : Nat) : w.frozen? ⟨g, j, none⟩ = false := frozen_of_row w g j _ _ h
theorem RowS.set {w : World} {g : Nat} {vs : List Value} (h : RowS w g vs) (j : Nat) (u : Value) : RowS (w.setCell ⟨g, j, none⟩ u) g (vs.set j u) := by
  unfold RowS
  rw [heap_setCell_same w g j _ _ _ h]
  simp
theorem RowS.below {w w' : World} {B g : Nat} {vs : List Value} (h : RowS w g vs) (hb : Below B w w') (hg : g < B) : RowS w' g vs := (hb.block g hg).trans h
theorem RowS.next {w w' : World} {g : Nat} {vs : List Value} (h : RowS w g vs) (hb : Below w.heap.size w w') : RowS w' g vs := h.below hb h.lt
theorem RowS.other {w : World} {g b j : Nat} {vs : List Value} (h : RowS w g vs) (hne : b ≠ g) (u : Value) : RowS (w.setCell ⟨b, j, none⟩ u) g vs := by
  unfold RowS
  rw [Below.heap_setCell _ _ _ _ (fun e => hne e.symm)]
  exact h
def zrowZ (n : Nat) : Array Value := (List.replicate n (Value.slice none 0 0)).toArray
set_option maxRecDepth 100000 in
theorem run_mkZ (n : Nat) (hn : n ≤ 4000000) : ∀ W : World, (Instr.makeSlice 33 (.int .i64 (n : Int)) (.int .i64 (n : Int))).run Try.prog W = .ok (.slice (some ⟨W.heap.size, 0, none⟩) n n) (W.alloc (.cells (zrowZ n) 22)) := by
  intro W
  obtain ⟨i0, hi, hz0, hz1, hz2⟩ := info_parts infoS
  have hr := run_make (P := Try.prog) W 33 22 i0 (.slice none 0 0) Try.underlying33 hi hz0 .i64 .i64 n n (by omega) (by omega) (by rw [hz2]; omega) (by omega)
  simp only [Int.toNat_natCast] at hr
  rw [hr, hz1, Nat.mul_one]
  congr 2
  have e : madeCells (Value.slice none 0 0).cells n = zrowZ n := by
    have : (madeCells (Value.slice none 0 0).cells n).toList = (zrowZ n).toList := by
      rw [Value.cells.eq_def]
      simp [toList_madeCells_one, zrowZ]
    exact Array.toList_inj.1 this
  rw [e]
theorem zrowZ_row (W : World) (n : Nat) : RowS (W.alloc (.cells (zrowZ n) 22)) W.heap.size (List.replicate n (Value.slice none 0 0)) := heap_alloc_new W _
/-- The first k rows of a matrix of n rows, which lie one behind the other in block L. -/
def mrows (L n k : Nat) : List Value := (List.range n).map fun i => if i < k then Value.slice (some ⟨L, i * n, none⟩) n n else .slice none 0 0
theorem mrows_len (L n k : Nat) : (mrows L n k).length = n := by simp [mrows]
theorem mrows_zero (L n : Nat) : List.replicate n (Value.slice none 0 0) = mrows L n 0 := by
  apply List.ext_getElem
  · simp [mrows]
  · intro i h1 h2
    simp [mrows]
theorem mrows_set (L n k : Nat) : (mrows L n k).set k (Value.slice (some ⟨L, k * n, none⟩) n n) = mrows L n (k + 1) := by
  apply List.ext_getElem
  · simp [mrows]
  · intro i h1 h2
    rw [List.getElem_set]
    by_cases e : k = i
    · subst e
      simp [mrows]
    · rw [if_neg e]
      simp only [mrows, List.getElem_map, List.getElem_range]
      by_cases h : i < k
      · rw [if_pos h, if_pos (by omega)]
      · rw [if_neg h, if_neg (by omega)]
theorem mrows_at (L n i : Nat) (h : i < n) : (mrows L n n)[i]? = some (Value.slice (some ⟨L, i * n, none⟩) n n) := by
  simp [mrows, h]
/-- A matrix of n rows of n numbers in block L, whose slices lie in block g. -/
structure MatW (w : World) (L g n : Nat) (Y : List Int) : Prop where
  row : RowI w L Y
  len : Y.length = n * n
  sl : RowS w g (mrows L n n)
  ne : L ≠ g
theorem MatW.below {w w' : World} {B L g n : Nat} {Y : List Int} (h : MatW w L g n Y) (hb : Below B w w') (h1 : L < B) (h2 : g < B) : MatW w' L g n Y :=
  ⟨h.row.below hb h1, h.len, h.sl.below hb h2, h.ne⟩
theorem MatW.next {w w' : World} {L g n : Nat} {Y : List Int} (h : MatW w L g n Y) (hb : Below w.heap.size w w') : MatW w' L g n Y :=
  h.below hb h.row.lt h.sl.lt
theorem MatW.cell {w : World} {L g n : Nat} {Y : List Int} (h : MatW w L g n Y) (i : Nat) (hi : i < n) : w.cell? ⟨g, i, none⟩ = some (Value.slice (some ⟨L, i * n, none⟩) n n) := by
  rw [h.sl.cell, mrows_at _ _ _ hi]
theorem mat_lt {n i j : Nat} (hi : i < n) (hj : j < n) : i * n + j < n * n := by
  have : (i + 1) * n ≤ n * n := Nat.mul_le_mul_right n (by omega)
  rw [Nat.add_mul] at this
  omega
theorem MatW.num {w : World} {L g n : Nat} {Y : List Int} (h : MatW w L g n Y) (i j : Nat) (hi : i < n) (hj : j < n) : w.cell? ⟨L, i * n + j, none⟩ = some (.int .i64 (Y.getD (i * n + j) 0)) :=
  h.row.cell _ (by rw [h.len]; exact mat_lt hi hj)
theorem MatW.free {w : World} {L g n : Nat} {Y : List Int} (h : MatW w L g n Y) (k : Nat) : w.frozen? ⟨L, k, none⟩ = false := h.row.free k
theorem MatW.set {w : World} {L g n : Nat} {Y : List Int} (h : MatW w L g n Y) (k : Nat) (u : Int) : MatW (w.setCell ⟨L, k, none⟩ (.int .i64 u)) L g n (Y.set k u) :=
  ⟨h.row.set k u, by rw [List.length_set]; exact h.len, h.sl.other h.ne _, h.ne⟩
/-- Row i of the matrix. -/
def rowM (n : Nat) (Y : List Int) (i : Nat) : List Int := tab n (fun j => Y.getD (i * n + j) 0)
theorem MatW.slr {w : World} {L g n : Nat} {Y : List Int} (h : MatW w L g n Y) (i : Nat) (hi : i < n) : SL w (some ⟨L, i * n, none⟩) n n (rowM n Y i) :=
  ⟨tab_len _ _, ⟨Nat.le_refl _, by simp⟩, .inr ⟨L, i * n, rfl, fun j hj => by rw [h.num i j hi hj]; unfold rowM; rw [tab_at _ _ _ hj]⟩⟩
set_option maxRecDepth 100000 in
set_option maxHeartbeats 1600000 in
theorem zeroMatrix_any (n : Nat) (w : World) (hn : n ≤ 1000) :
    Calls Try.prog 80 #[.int .i64 n] w fun e w' => e = .returned (.slice (some ⟨w.heap.size + 1, 0, none⟩) n n) ∧ MatW w' w.heap.size (w.heap.size + 1) n (tab (n * n) (fun _ => 0)) ∧ Below w.heap.size w w' := by
  obtain ⟨NN, hNN⟩ : ∃ NN, n * n = NN := ⟨_, rfl⟩
  have HNN := hide hNN
  have hNl : NN ≤ 1000000 := by rw [← hNN]; exact Nat.mul_le_mul hn hn
  have v0 : IntKind.i64.wrap ((n : Int) * (n : Int)) = (NN : Int) := by
    rw [show (n : Int) * (n : Int) = (NN : Int) by rw [← hNN]; simp]; exact IntWalk.i64_in _ (by omega)
  have k1 := run_mk NN (by omega)
  have k2 := run_mkZ n (by omega)
  have hb0 := bl2 w (.cells (zrow NN) 2) (.cells (zrowZ n) 22)
  have hR0 : RowI ((w.alloc (.cells (zrow NN) 2)).alloc (.cells (zrowZ n) 22)) w.heap.size (tab NN (fun _ => 0)) := (zrow_row w NN).next (bl1 _ _)
  have hS0 : RowS ((w.alloc (.cells (zrow NN) 2)).alloc (.cells (zrowZ n) 22)) (w.heap.size + 1) (mrows w.heap.size n 0) := by
    have := zrowZ_row (w.alloc (.cells (zrow NN) 2)) n
    rw [mrows_zero w.heap.size] at this
    simpa using this
  have HR0 := hide hR0
  have HS0 := hide hS0
  clear hR0 hS0 hNN
  go_enter Try.func80, Try.ntmps80
  go_wp2
  clear v0 k1 k2
  go_loopw [14] (fun iv wr => ∃ i : Nat, i ≤ n ∧ iv = .int .i64 i ∧ Hid (RowI wr w.heap.size (tab NN (fun _ => 0))) ∧ Hid (RowS wr (w.heap.size + 1) (mrows w.heap.size n i)) ∧ Below w.heap.size w wr) (fun iv _ => n - (intOf iv).toNat)
  case atStart => exact ⟨0, by omega, rfl, HR0, HS0, hb0⟩
  case round =>
    obtain ⟨i, hi, rfl, hR, hS, hBr⟩ := hrel
    clear HR0 HS0 hb0
    by_cases hlt : i < n
    · obtain ⟨P, hP⟩ : ∃ P, i * n = P := ⟨_, rfl⟩
      have hQ : P + n ≤ NN := by rw [← hP, ← HNN.out]; have := mat_lt (j := n - 1) hlt (by omega); omega
      have v1 : IntKind.i64.wrap ((i : Int) * (n : Int)) = (P : Int) := by
        rw [show (i : Int) * (n : Int) = (P : Int) by rw [← hP]; simp]; exact IntWalk.i64_in _ (by omega)
      have v2 : IntKind.i64.wrap ((i : Int) + 1) = (i : Int) + 1 := IntWalk.i64_in _ (by omega)
      have v3 : IntKind.i64.wrap (((i : Int) + 1) * (n : Int)) = ((P + n : Nat) : Int) := by
        rw [show ((i : Int) + 1) * (n : Int) = ((P + n : Nat) : Int) by rw [Int.add_mul, ← hP]; simp]; exact IntWalk.i64_in _ (by omega)
      obtain ⟨Q, hQd⟩ : ∃ Q, P + n = Q := ⟨_, rfl⟩
      rw [hQd] at v3 hQ
      have q1 : (P : Int) ≤ (Q : Int) := by omega
      have q2 : (Q : Int) ≤ (NN : Int) := by omega
      have q3 : (0 : Int) ≤ (P : Int) := by omega
      have q4 : (0 : Int) ≤ (Q : Int) := by omega
      have q5 : ¬ P = Q := by omega
      have q6 : Q - P = n := by omega
      have q7 : (i : Int) < (n : Int) := by omega
      have hfr := hS.out.free i
      have hcl : wr.cell? ⟨w.heap.size + 1, i, none⟩ = some (.slice none 0 0) := by rw [hS.out.cell]; simp [mrows, hlt]
      have hst := hS.out.set i (Value.slice (some ⟨w.heap.size, P, none⟩) n n)
      rw [← hP, mrows_set, hP] at hst
      have Hst := hide hst
      have Hrw := hide (hR.out.other (b := w.heap.size + 1) (j := i) (by omega) (Value.slice (some ⟨w.heap.size, P, none⟩) n n))
      have hBn := hBr.setCell (p := ⟨w.heap.size + 1, i, none⟩) (by simp) (Value.slice (some ⟨w.heap.size, P, none⟩) n n)
      clear hst hS hR hP hQd
      go_wp2
      go_roundw
      case rel => exact ⟨i + 1, by omega, by go_num, Hrw, Hst, hBn⟩
      case measure => simp [intOf]; omega
    · obtain rfl : i = n := by omega
      go_wp2
      go_ret
      exact ⟨rfl, ⟨by rw [HNN.out]; exact hR.out, by rw [tab_len], hS.out, by omega⟩, hBr⟩
end Go.Proofs.Ytkpmonopjkjflaa
/- Lists of lists that a law is given: szInt64SS, toInt64SS. -/
namespace Go.Proofs.Ytkpmonopjkjflaa
open Go.RowKit
set_option linter.unusedVariables false
set_option linter.unusedSimpArgs false

/-- n rows X whose slices lie in block b from off on; rows may share memory. -/
structure RowsR (w : World) (b off n : Nat) (A : Nat → Option Addr) (C : Nat → Nat) (X : Nat → List Int) : Prop where
  cell : ∀ i, i < n → w.cell? ⟨b, off + i, none⟩ = some (.slice (A i) (X i).length (C i))
  row : ∀ i, i < n → SL w (A i) (X i).length (C i) (X i)
theorem RowsR.below {w w' : World} {b off n : Nat} {A : Nat → Option Addr} {C : Nat → Nat} {X : Nat → List Int} (h : RowsR w b off n A C X) (hb : Below w.heap.size w w') : RowsR w' b off n A C X :=
  ⟨fun i hi => cell_be hb (h.cell i hi), fun i hi => (h.row i hi).below hb⟩
theorem own_blk_lt {B : Nat} {w : World} {a : Option Addr} {c : Nat} {ys : List Int} (h : Own B w a c ys) : ∀ g, blk a = some g → g < w.heap.size := fun g hg => by
  rcases h.shape with ⟨rfl, _, _⟩ | ⟨g', cur, rfl, hB, hg', _⟩
  · cases hg
  · cases hg
    exact lt_of_block hg'
theorem tot_mono (X : Nat → List Int) {i j : Nat} (h : i ≤ j) : tot X i ≤ tot X j := by
  induction j with
  | zero => obtain rfl : i = 0 := by omega
            exact Nat.le_refl _
  | succ j ih =>
    by_cases e : i = j + 1
    · rw [e]; exact Nat.le_refl _
    · have := ih (by omega)
      show tot X i ≤ tot X j + (X j).length
      omega
set_option maxHeartbeats 800000 in
theorem szIN (a : Option Addr) (n c : Nat) (k : Int) (w : World) (hn : n ≤ 9223372036854775807) (hk0 : 0 ≤ k) (hk1 : k ≤ 4000000) :
    Calls Try.prog 63 #[.slice a n c, .int .i64 k] w fun e w' => e = .returned (.int .i64 (if k < n then -1 else k - n)) ∧ w = w' := by
  by_cases h : k < (n : Int)
  · have H : Hid ((if k < (n : Int) then (-1 : Int) else k - n) = -1) := Lib.hid (if_pos h)
    have v : IntKind.i64.wrap (k - (n : Int)) = k - (n : Int) := IntWalk.i64_in _ (by omega)
    go_enter Try.func63, Try.ntmps63
    go_wp2
    go_ret
    exact ⟨rfl, rfl⟩
  · have H : Hid ((if k < (n : Int) then (-1 : Int) else k - n) = k - n) := Lib.hid (if_neg h)
    go_enter Try.func63, Try.ntmps63
    go_wp2
    go_ret
    exact ⟨rfl, rfl⟩
def szF (n : Nat) (X : Nat → List Int) (k : Int) : Int := if k < (n : Int) + (tot X n : Nat) then -1 else k - n - (tot X n : Nat)
set_option maxRecDepth 100000 in
set_option maxHeartbeats 1600000 in
theorem szSS (b off n c : Nat) (A : Nat → Option Addr) (C : Nat → Nat) (X : Nat → List Int) (k : Int) (w : World) (h : RowsR w b off n A C X) (hn : n ≤ 9223372036854775807) (hX : ∀ i, i < n → (X i).length ≤ 9223372036854775807) (hk0 : 0 ≤ k) (hk1 : k ≤ 4000000) :
    Calls Try.prog 22 #[.slice (some ⟨b, off, none⟩) n c, .int .i64 k] w fun e w' => e = .returned (.int .i64 (szF n X k)) ∧ w = w' := by
  have H := hide h
  have HX := hide hX
  have v0 : IntKind.i64.wrap (k - (n : Int)) = k - (n : Int) := IntWalk.i64_in _ (by omega)
  clear h hX
  by_cases hkn : k < (n : Int)
  · have hF := hide (show szF n X k = -1 by unfold szF; rw [if_pos (by omega)])
    have q : k - (n : Int) < 0 := by omega
    go_enter Try.func22, Try.ntmps22
    go_wp2
    go_ret
    exact ⟨congrArg (fun z => Ending.returned (.int .i64 z)) hF.out.symm, rfl⟩
  have q : ¬ k - (n : Int) < 0 := by omega
  go_enter Try.func22, Try.ntmps22
  go_wp2
  clear v0 q
  go_loopw [1, 5] (fun lv iv wr => ∃ i : Nat, i ≤ n ∧ iv = .int .i64 i ∧ lv = .int .i64 (k - n - (tot X i : Nat)) ∧ (0 : Int) ≤ k - n - (tot X i : Nat) ∧ w = wr) (fun _ iv _ => n - (intOf iv).toNat)
  case atStart => exact ⟨0, by omega, rfl, by simp [tot], by simp [tot]; omega, rfl⟩
  case round =>
    obtain ⟨i, hi, rfl, rfl, hl, rfl⟩ := hrel
    by_cases hlt : i < n
    · have hlt' : (i : Int) < (n : Int) := by omega
      have q0 : (0 : Int) ≤ (i : Int) := by omega
      have e1 := H.out.cell i hlt
      have e2 := HX.out i hlt
      have ht : Hid (tot X (i + 1) = tot X i + (X i).length) := hide rfl
      have hm := tot_mono X (show i + 1 ≤ n by omega)
      rw [ht.out] at hm
      obtain ⟨T, hT⟩ : ∃ T, tot X i = T := ⟨_, rfl⟩
      rw [hT] at ht hm hl
      obtain ⟨L, hL⟩ : ∃ L, (X i).length = L := ⟨_, rfl⟩
      rw [hL] at e1 e2 hm ht
      rw [hT]
      have v1 : IntKind.i64.wrap ((i : Int) + 1) = ((i + 1 : Nat) : Int) := by rw [IntWalk.i64_in _ (by omega)]; omega
      clear hT hL
      go_wp2_with fail
      refine (szIN _ _ _ _ _ e2 hl (by omega)).mono ?_
      rintro e w9 ⟨rfl, rfl⟩
      by_cases hc : k - (n : Int) - (T : Int) < (L : Int)
      · have hF := hide (show szF n X k = -1 by unfold szF; rw [if_pos (by omega)])
        rw [if_pos hc]
        clear hc
        go_wp2
        go_ret
        exact ⟨congrArg (fun z => Ending.returned (.int .i64 z)) hF.out.symm, rfl⟩
      · have hq : ¬ k - (n : Int) - (T : Int) - (L : Int) < 0 := by omega
        rw [if_neg hc]
        clear hc
        go_wp2
        go_roundw
        case rel => exact ⟨i + 1, by omega, by go_num, by rw [ht.out]; congr 1; omega, by rw [ht.out]; omega, trivial⟩
        case measure => simp [intOf]; omega
    · obtain rfl : i = n := by omega
      have hF := hide (show szF i X k = k - i - (tot X i : Nat) by unfold szF; rw [if_neg (by omega)])
      go_wp2
      go_ret
      exact ⟨congrArg (fun z => Ending.returned (.int .i64 z)) hF.out.symm, rfl⟩
/-- The first k rows are copied. -/
def Copied (B : Nat) (w : World) (vs : List Value) (X : Nat → List Int) (A : Nat → Option Addr) (k : Nat) : Prop :=
  (∀ j, j < k → vs[j]? = some (.slice (A j) (X j).length (X j).length)) ∧ (∀ j, j < k → Own (B + 1) w (A j) (X j).length (X j)) ∧ (∀ i j, i < j → j < k → ∀ b, blk (A i) = some b → blk (A j) ≠ some b)
theorem Copied.next {B : Nat} {w w9 : World} {vs : List Value} {X : Nat → List Int} {A : Nat → Option Addr} {k : Nat} {a9 : Option Addr} (h : Copied B w vs X A k) (hb : Below w.heap.size w w9) (hk : k < vs.length)
    (ho : Own w.heap.size w9 a9 (X k).length (X k)) (hB : B < w.heap.size) (v : Value) (hv : v = .slice a9 (X k).length (X k).length) :
    Copied B (w9.setCell ⟨B, k, none⟩ v) (vs.set k v) X (fun j => if j = k then a9 else A j) (k + 1) := by
  subst hv
  obtain ⟨h1, h2, h3⟩ := h
  refine ⟨fun j hj => ?_, fun j hj => ?_, fun i j hij hj b hi => ?_⟩
  · by_cases e : j = k
    · subst e
      simp [hk]
    · simp only [if_neg e]
      rw [List.getElem?_set_ne (fun q => e q.symm)]
      exact h1 j (by omega)
  · by_cases e : j = k
    · subst e
      simp only [if_true]
      exact (ho.mono (by omega)).otherG (fun q => by have := own_blk_ge ho _ q; omega) _
    · simp only [if_neg e]
      have o := h2 j (by omega)
      exact (o.below hb).otherG (fun q => by have := own_blk_ge o _ q; omega) _
  · simp only at hi ⊢
    rw [if_neg (by omega)] at hi
    by_cases e : j = k
    · subst e
      simp only [if_true]
      intro q
      have := own_blk_ge ho _ q
      have := own_blk_lt (h2 i hij) _ hi
      omega
    · rw [if_neg e]
      exact h3 i j hij (by omega) b hi
theorem toSS_ZL {B n : Nat} {w : World} {vs : List Value} {X : Nat → List Int} {A : Nat → Option Addr} (h : Copied B w vs X A n) (hr : RowS w B vs) : ZL B w.heap.size w (some ⟨B, 0, none⟩) n n X := by
  obtain ⟨h1, h2, h3⟩ := h
  refine .inr ⟨B, A, fun j => (X j).length, rfl, ⟨fun i hi => by rw [hr.cell]; exact h1 i hi, fun i hi => (h2 i hi).sl, fun i hi b o hA j hj => ?_, fun i hi b hb => ?_, fun i j hi hj hij b o o' hA hA' => ?_, Nat.le_refl _, hr.lt⟩⟩
  · obtain ⟨g, e, _, _, _⟩ := (h2 i hi).blkG (by omega)
    have o2 := h2 i hi
    rw [hA] at e
    simp only [Option.some.injEq, Addr.mk.injEq, and_true] at e
    obtain ⟨rfl, rfl⟩ := e
    rw [hA] at o2
    rw [Nat.zero_add]
    exact o2.freeG j
  · have a := own_blk_ge (h2 i hi) _ hb
    have c := own_blk_lt (h2 i hi) _ hb
    exact ⟨by omega, c, by omega⟩
  · exfalso
    have e1 : blk (A i) = some b := by rw [hA]; rfl
    have e2 : blk (A j) = some b := by rw [hA']; rfl
    rcases Nat.lt_or_ge i j with q | q
    · exact h3 i j q hj b e1 e2
    · exact h3 j i (by omega) hi b e2 e1
set_option maxRecDepth 100000 in
set_option maxHeartbeats 1600000 in
theorem toSS (b off n c : Nat) (A : Nat → Option Addr) (C : Nat → Nat) (X : Nat → List Int) (w : World) (h : RowsR w b off n A C X) (hn : n ≤ 1048576) (hX : ∀ i, i < n → (X i).length ≤ 1048576) :
    Calls Try.prog 24 #[.slice (some ⟨b, off, none⟩) n c] w fun e w' => e = .returned (.slice (some ⟨w.heap.size, 0, none⟩) n n) ∧ ZL w.heap.size w'.heap.size w' (some ⟨w.heap.size, 0, none⟩) n n X ∧ Below w.heap.size w w' := by
  have H := hide h
  have HX := hide hX
  have hmk := run_mkZ n (by omega) w
  have hS0 := hide (zrowZ_row w n)
  have hb0 := hide (bl1 w (.cells (zrowZ n) 22))
  have hC0 : Hid (Copied w.heap.size (w.alloc (.cells (zrowZ n) 22)) (List.replicate n (Value.slice none 0 0)) X (fun _ => none) 0) := hide ⟨fun j hj => by omega, fun j hj => by omega, fun i j hij hj => by omega⟩
  clear h hX
  go_enter Try.func24, Try.ntmps24
  go_wp2
  clear hmk
  go_loopw [4] (fun iv wr => ∃ (k : Nat) (vs : List Value) (Y : Nat → Option Addr), k ≤ n ∧ iv = .int .i64 k ∧ Hid (vs.length = n) ∧ Hid (RowS wr w.heap.size vs) ∧ Hid (Copied w.heap.size wr vs X Y k) ∧ Hid (Below w.heap.size w wr)) (fun iv _ => n - (intOf iv).toNat)
  case atStart => exact ⟨0, _, _, by omega, rfl, hide (List.length_replicate ..), hS0, hC0, hb0⟩
  case round =>
    obtain ⟨k, vs, Y, hk, rfl, hvl, hS, hC, hB⟩ := hrel
    clear hS0 hC0 hb0
    by_cases hlt : k < n
    · have hlt' : (k : Int) < (n : Int) := by omega
      have q0 : (0 : Int) ≤ (k : Int) := by omega
      have HR := hide (H.out.below hB.out)
      have e1 := HR.out.cell k hlt
      have hx := HX.out k hlt
      have lt1 := hS.out.lt
      go_wp2_with fail
      refine (toI _ _ _ _ _ (HR.out.row k hlt) hx).mono ?_
      rintro e w9 ⟨a9, rfl, ho, hb9⟩
      have hS9 := hide (hS.out.next hb9)
      obtain ⟨v, hcv⟩ : ∃ v, w9.cell? ⟨w.heap.size, k, none⟩ = some v := by
        rw [hS9.out.cell]
        exact ⟨_, List.getElem?_eq_getElem (by rw [hvl.out]; exact hlt)⟩
      have hfv := hS9.out.free k
      have hn := hide (hC.out.next hb9 (by rw [hvl.out]; exact hlt) ho lt1 _ rfl)
      have hSn := hide (hS9.out.set k (.slice a9 (X k).length (X k).length))
      have hBn := hide (((hB.out.trans (hb9.mono hB.out.size))).setCell (p := ⟨w.heap.size, k, none⟩) (Nat.le_refl _) (.slice a9 (X k).length (X k).length))
      clear ho hS hC e1
      go_wp2
      go_roundw
      case rel => exact ⟨k + 1, _, _, by omega, by go_num, hide (by rw [List.length_set]; exact hvl.out), hSn, hn, hBn⟩
      case measure => simp [intOf]; omega
    · obtain rfl : k = n := by omega
      have hz := toSS_ZL hC.out hS.out
      have Hz := hide hz
      clear hz
      go_wp2
      go_ret
      exact ⟨rfl, Hz.out, hB.out⟩

/-- A slice of slices that came in, as rows. -/
theorem grid_rows {w : World} {a : Option Addr} {len cap : Nat} {A : Nat → Option Addr} {L C : Nat → Nat} {Z : Nat → List Int} (h : (a = none ∧ len = 0 ∧ cap = 0) ∨
    ∃ x, a = some x ∧ len ≤ cap ∧ cap ≤ maxLen ∧ ∀ r, r < cap → w.cell? (x.add r) = some (.slice (A r) (L r) (C r)) ∧ L r ≤ C r ∧ C r ≤ maxLen ∧ (Z r).length = C r ∧ (A r = none → C r = 0) ∧
      ∀ a', A r = some a' → ∀ c, c < C r → w.cell? (a'.add c) = some (.int .i64 ((Z r).getD c 0))) :
    len ≤ maxLen ∧ (∀ i, i < len → ((Z i).take (L i)).length = L i ∧ L i ≤ maxLen) ∧ (len = 0 ∨ ∃ b off, a = some ⟨b, off, none⟩ ∧ RowsR w b off len A C (fun i => (Z i).take (L i))) := by
  rcases h with ⟨rfl, rfl, rfl⟩ | ⟨x, rfl, h1, h2, h3⟩
  · exact ⟨by unfold maxLen; omega, fun i hi => by omega, .inl rfl⟩
  have hl : ∀ i, i < len → ((Z i).take (L i)).length = L i ∧ L i ≤ maxLen := fun i hi => by
    obtain ⟨_, q2, q3, q4, _⟩ := h3 i (by omega)
    exact ⟨by rw [List.length_take]; omega, by omega⟩
  refine ⟨by omega, hl, ?_⟩
  by_cases h0 : len = 0
  · exact .inl h0
  obtain ⟨b, off, spot⟩ := x
  have hc := (h3 0 (by omega)).1
  have hs : spot = none := by simpa [Addr.add] using World.cell?_spot hc
  subst hs
  refine .inr ⟨b, off, rfl, fun i hi => ?_, fun i hi => ?_⟩
  · have q := (h3 i (by omega)).1
    rw [Addr.add_lit] at q
    simp only [(hl i hi).1]
    exact q
  · obtain ⟨_, q2, q3, q4, q5, q6⟩ := h3 i (by omega)
    simp only [(hl i hi).1]
    have t := sl_of_row (w := w) (a := A i) (len := L i) (cap := C i) (zs := Z i)
    refine ⟨(hl i hi).1, ⟨q2, fun e => q5 e⟩, ?_⟩
    by_cases e0 : L i = 0
    · exact .inl e0
    cases hA : A i with
    | none => have := q5 hA; omega
    | some a' =>
      obtain ⟨b', off', spot'⟩ := a'
      have hc' := q6 _ hA 0 (by omega)
      have hs' : spot' = none := by simpa [Addr.add] using World.cell?_spot hc'
      subst hs'
      refine .inr ⟨b', off', rfl, fun j hj => ?_⟩
      have q := q6 _ hA j (by omega)
      rw [Addr.add_lit] at q
      rw [q]
      simp [hj]
set_option maxRecDepth 100000 in
set_option maxHeartbeats 800000 in
theorem szSS0 (a : Option Addr) (c : Nat) (k : Int) (w : World) (hk0 : 0 ≤ k) (hk1 : k ≤ 4000000) :
    Calls Try.prog 22 #[.slice a 0 c, .int .i64 k] w fun e w' => e = .returned (.int .i64 k) ∧ w = w' := by
  have v0 : IntKind.i64.wrap (k - ((0 : Nat) : Int)) = k := by rw [IntWalk.i64_in _ (by omega)]; omega
  have v1 : IntKind.i64.wrap k = k := IntWalk.i64_in _ (by omega)
  have q : ¬ k < 0 := by omega
  go_enter Try.func22, Try.ntmps22
  go_wp2
  refine wp_loop_rounds 1 ?_
  rw [rounds_succ]
  go_wp2
  go_ret
  exact ⟨rfl, rfl⟩
set_option maxRecDepth 100000 in
set_option maxHeartbeats 800000 in
theorem toSS0 (a : Option Addr) (c : Nat) (w : World) :
    Calls Try.prog 24 #[.slice a 0 c] w fun e w' => e = .returned (.slice (some ⟨w.heap.size, 0, none⟩) 0 0) ∧ Below w.heap.size w w' := by
  have hmk := run_mkZ 0 (by omega) w
  rw [show ((0 : Nat) : Int) = 0 from rfl] at hmk
  have hb0 := hide (bl1 w (.cells (zrowZ 0) 22))
  go_enter Try.func24, Try.ntmps24
  go_wp2
  refine wp_loop_rounds 1 ?_
  rw [rounds_succ]
  go_wp2
  go_ret
  exact ⟨rfl, bl1 w _⟩
/-- A slice of slices that came in: empty, or rows. -/
def GridR (w : World) (a : Option Addr) (n : Nat) (A : Nat → Option Addr) (C : Nat → Nat) (X : Nat → List Int) : Prop := n = 0 ∨ ∃ b off, a = some ⟨b, off, none⟩ ∧ RowsR w b off n A C X
theorem GridR.below {w w' : World} {a : Option Addr} {n : Nat} {A : Nat → Option Addr} {C : Nat → Nat} {X : Nat → List Int} (h : GridR w a n A C X) (hb : Below w.heap.size w w') : GridR w' a n A C X := by
  rcases h with h | ⟨b, off, ha, h⟩
  · exact .inl h
  · exact .inr ⟨b, off, ha, h.below hb⟩
theorem szSSa (a : Option Addr) (n c : Nat) (A : Nat → Option Addr) (C : Nat → Nat) (X : Nat → List Int) (k : Int) (w : World) (h : GridR w a n A C X) (hn : n ≤ 9223372036854775807) (hX : ∀ i, i < n → (X i).length ≤ 9223372036854775807) (hk0 : 0 ≤ k) (hk1 : k ≤ 4000000) :
    Calls Try.prog 22 #[.slice a n c, .int .i64 k] w fun e w' => e = .returned (.int .i64 (szF n X k)) ∧ w = w' := by
  rcases h with h | ⟨b, off, rfl, h⟩
  · subst h
    refine (szSS0 a c k w hk0 hk1).mono ?_
    rintro e w' ⟨rfl, rfl⟩
    refine ⟨?_, rfl⟩
    have : szF 0 X k = k := by unfold szF; simp [tot]; omega
    rw [this]
  · exact szSS b off n c A C X k w h hn hX hk0 hk1
theorem toSSa (a : Option Addr) (n c : Nat) (A : Nat → Option Addr) (C : Nat → Nat) (X : Nat → List Int) (w : World) (h : GridR w a n A C X) (hn : n ≤ 1048576) (hX : ∀ i, i < n → (X i).length ≤ 1048576) :
    Calls Try.prog 24 #[.slice a n c] w fun e w' => e = .returned (.slice (some ⟨w.heap.size, 0, none⟩) n n) ∧ ZL w.heap.size w'.heap.size w' (some ⟨w.heap.size, 0, none⟩) n n X ∧ Below w.heap.size w w' := by
  rcases h with h | ⟨b, off, rfl, h⟩
  · subst h
    refine (toSS0 a c w).mono ?_
    rintro e w' ⟨rfl, hb⟩
    exact ⟨rfl, .inl rfl, hb⟩
  · exact toSS b off n c A C X w h hn hX
/-- Lists that lie in zones, as the contracts of functions take them. -/
theorem ZL.listsN {lo hi n c g : Nat} {w : World} {X : Nat → List Int} (h : ZL lo hi w (some ⟨g, 0, none⟩) n c X) (hX : ∀ i, i < n → (X i).length ≤ 4000000) : ∃ A C, Lists w g n A (fun i => (X i).length) C X := by
  rcases h with h | ⟨g', A, C, ha, h⟩
  · exact ⟨fun _ => none, fun _ => 0, fun j hj => by omega⟩
  · simp only [Option.some.injEq, Addr.mk.injEq, and_true] at ha
    subst ha
    exact ⟨A, C, fun i hi => ⟨h.cell i hi, h.row i hi, hX i hi⟩⟩
end Go.Proofs.Ytkpmonopjkjflaa
