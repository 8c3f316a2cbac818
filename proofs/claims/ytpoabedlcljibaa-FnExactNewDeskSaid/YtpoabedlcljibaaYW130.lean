/- Merged texts. -/
import Derived.Test.YtpoabedlcljibaaYW129
import Derived.Maps.OwnSet
import Derived.Test.YtpoabedlcljibaaYW126
import Derived.Test.YtpoabedlcljibaaYW16
/- Contracts: the families by their names, their terms, modulo (program). -/
namespace Go.Proofs.Ytpoabedlcljibaa
open Go.RowKit Go.Maps Go.WideMaps
set_option linter.unusedVariables false
set_option linter.unusedSimpArgs false

def nm0 : ByteArray := { data := #[104, 101, 114, 109, 105, 116, 101] }
def nm1 : ByteArray := { data := #[108, 97, 103, 117, 101, 114, 114, 101] }
def nm2 : ByteArray := { data := #[112, 111, 105, 115, 115, 111, 110] }
def nm3 : ByteArray := { data := #[99, 97, 116, 97, 108, 97, 110] }
def nm4 : ByteArray := { data := #[115, 101, 99, 111, 110, 100] }
def nm5 : ByteArray := { data := #[108, 101, 103, 101, 110, 100, 114, 101] }
/-- the numbers of the families: Alpha[k], and Beta[k] as a fraction -/
def faA (i : Nat) (k : Nat) : Int := if i = 1 then 2 * (k : Int) + 1 else if i = 2 then (k : Int) + 1 else if i = 3 then (if k = 0 then 1 else 2) else 0
def faB (i : Nat) (k : Nat) : Int := if k = 0 then (if i = 5 then 2 else 1) else if i = 1 ∨ i = 5 then (k : Int) * k else if i = 3 ∨ i = 4 then 1 else (k : Int)
def faD (i : Nat) (k : Nat) : Int := if k = 0 then 1 else if i = 4 then 4 else if i = 5 then 4 * (k : Int) * k - 1 else 1
/-- the family with a name; 6: none -/
def famI (s : ByteArray) : Nat := if s = nm0 then 0 else if s = nm1 then 1 else if s = nm2 then 2 else if s = nm3 then 3 else if s = nm4 then 4 else if s = nm5 then 5 else 6
def famF (i : Nat) : Nat := if i = 0 then 67 else if i = 1 then 68 else if i = 2 then 69 else if i = 3 then 70 else if i = 4 then 71 else 72
/-- how a family reads as data -/
def famR : Value → Option (DataW Unit × List MemPlace)
  | .func (.func i) ⟨[]⟩ ⟨[]⟩ => some (.lit (.int .i64 i), [])
  | .nilFunc => some (.lit (.bool false), [])
  | _ => none
theorem famR_inv {v : Value} {i : Nat} {ps : List MemPlace} (h : famR v = some (.lit (.int .i64 i), ps)) : v = .func (.func i) #[] #[] := by
  unfold famR at h
  split at h
  · simp at h
    obtain ⟨h, _⟩ := h
    obtain rfl := Int.ofNat_inj.1 h
    rfl
  · simp at h
  · cases h
def kS (s : ByteArray) : Lit := .string s.data.toList
theorem kS_ne {s t : ByteArray} (h : s ≠ t) : kS s ≠ kS t := fun e => h (by
  unfold kS at e
  injection e with e
  have : s.data = t.data := by rw [← Array.toList_inj]; exact e
  cases s; cases t; simp at this; rw [this])
def fd0 : DataW Unit := .map []
def fd1 : DataW Unit := fd0.put (kS nm0) (.lit (.int .i64 (67 : Nat)))
def fd2 : DataW Unit := fd1.put (kS nm1) (.lit (.int .i64 (68 : Nat)))
def fd3 : DataW Unit := fd2.put (kS nm2) (.lit (.int .i64 (69 : Nat)))
def fd4 : DataW Unit := fd3.put (kS nm3) (.lit (.int .i64 (70 : Nat)))
def fd5 : DataW Unit := fd4.put (kS nm4) (.lit (.int .i64 (71 : Nat)))
def fd6 : DataW Unit := fd5.put (kS nm5) (.lit (.int .i64 (72 : Nat)))
theorem lawS : Keyed Try.prog 9 := string_keyed Try.underlying9
theorem zeroFam (w : World) : (zeroValue 71).run Try.prog w = .ok .nilFunc w := by kernel_rfl
theorem put_map (D : DataW Unit) (k : Lit) (d : DataW Unit) (h : IsMap D) : IsMap (D.put k d) := by
  obtain ⟨es, rfl⟩ := h
  exact ⟨_, rfl⟩
theorem fdm0 : IsMap fd0 := ⟨[], rfl⟩
theorem fdm1 : IsMap fd1 := put_map _ _ _ fdm0
theorem fdm2 : IsMap fd2 := put_map _ _ _ fdm1
theorem fdm3 : IsMap fd3 := put_map _ _ _ fdm2
theorem fdm4 : IsMap fd4 := put_map _ _ _ fdm3
theorem fdm5 : IsMap fd5 := put_map _ _ _ fdm4
theorem kS_lit (s : ByteArray) : WideAt.IsKeyLit (kS s) := trivial
theorem nm_ne : nm1 ≠ nm0 ∧ nm2 ≠ nm0 ∧ nm2 ≠ nm1 ∧ nm3 ≠ nm0 ∧ nm3 ≠ nm1 ∧ nm3 ≠ nm2 ∧ nm4 ≠ nm0 ∧ nm4 ≠ nm1 ∧ nm4 ≠ nm2 ∧ nm4 ≠ nm3 ∧ nm5 ≠ nm0 ∧ nm5 ≠ nm1 ∧ nm5 ≠ nm2 ∧ nm5 ≠ nm3 ∧ nm5 ≠ nm4 := by
  refine ⟨?_, ?_, ?_, ?_, ?_, ?_, ?_, ?_, ?_, ?_, ?_, ?_, ?_, ?_, ?_⟩ <;> intro h <;> exact absurd (congrArg ByteArray.data h) (by decide)
theorem famI_nm : famI nm0 = 0 ∧ famI nm1 = 1 ∧ famI nm2 = 2 ∧ famI nm3 = 3 ∧ famI nm4 = 4 ∧ famI nm5 = 5 := by
  obtain ⟨q10, q20, q21, q30, q31, q32, q40, q41, q42, q43, q50, q51, q52, q53, q54⟩ := nm_ne
  refine ⟨?_, ?_, ?_, ?_, ?_, ?_⟩ <;> unfold famI
  · rw [if_pos rfl]
  · rw [if_neg q10, if_pos rfl]
  · rw [if_neg q20, if_neg q21, if_pos rfl]
  · rw [if_neg q30, if_neg q31, if_neg q32, if_pos rfl]
  · rw [if_neg q40, if_neg q41, if_neg q42, if_neg q43, if_pos rfl]
  · rw [if_neg q50, if_neg q51, if_neg q52, if_neg q53, if_neg q54, if_pos rfl]
/-- the six names, or none of them -/
theorem famI_cases (s : ByteArray) : s = nm0 ∨ s = nm1 ∨ s = nm2 ∨ s = nm3 ∨ s = nm4 ∨ s = nm5 ∨ (famI s = 6 ∧ s ≠ nm0 ∧ s ≠ nm1 ∧ s ≠ nm2 ∧ s ≠ nm3 ∧ s ≠ nm4 ∧ s ≠ nm5) := by
  by_cases h0 : s = nm0
  · exact .inl h0
  by_cases h1 : s = nm1
  · exact .inr (.inl h1)
  by_cases h2 : s = nm2
  · exact .inr (.inr (.inl h2))
  by_cases h3 : s = nm3
  · exact .inr (.inr (.inr (.inl h3)))
  by_cases h4 : s = nm4
  · exact .inr (.inr (.inr (.inr (.inl h4))))
  by_cases h5 : s = nm5
  · exact .inr (.inr (.inr (.inr (.inr (.inl h5)))))
  · exact .inr (.inr (.inr (.inr (.inr (.inr ⟨by unfold famI; rw [if_neg h0, if_neg h1, if_neg h2, if_neg h3, if_neg h4, if_neg h5], h0, h1, h2, h3, h4, h5⟩)))))
theorem famD_at (z : DataW Unit) : fd6.atKey (kS nm0) z = .lit (.int .i64 (famF 0 : Nat)) ∧ Maps.has fd6 (kS nm0) = true ∧ fd6.atKey (kS nm1) z = .lit (.int .i64 (famF 1 : Nat)) ∧ Maps.has fd6 (kS nm1) = true ∧ fd6.atKey (kS nm2) z = .lit (.int .i64 (famF 2 : Nat)) ∧ Maps.has fd6 (kS nm2) = true ∧ fd6.atKey (kS nm3) z = .lit (.int .i64 (famF 3 : Nat)) ∧ Maps.has fd6 (kS nm3) = true ∧ fd6.atKey (kS nm4) z = .lit (.int .i64 (famF 4 : Nat)) ∧ Maps.has fd6 (kS nm4) = true ∧ fd6.atKey (kS nm5) z = .lit (.int .i64 (famF 5 : Nat)) ∧ Maps.has fd6 (kS nm5) = true := by
  obtain ⟨q10, q20, q21, q30, q31, q32, q40, q41, q42, q43, q50, q51, q52, q53, q54⟩ := nm_ne
  refine ⟨?_, ?_, ?_, ?_, ?_, ?_, ?_, ?_, ?_, ?_, ?_, ?_⟩
  · rw [show fd6 = fd5.put (kS nm5) (.lit (.int .i64 (72 : Nat))) from rfl, atKey_put_other (kS_ne (Ne.symm q50)), show fd5 = fd4.put (kS nm4) (.lit (.int .i64 (71 : Nat))) from rfl, atKey_put_other (kS_ne (Ne.symm q40)), show fd4 = fd3.put (kS nm3) (.lit (.int .i64 (70 : Nat))) from rfl, atKey_put_other (kS_ne (Ne.symm q30)), show fd3 = fd2.put (kS nm2) (.lit (.int .i64 (69 : Nat))) from rfl, atKey_put_other (kS_ne (Ne.symm q20)), show fd2 = fd1.put (kS nm1) (.lit (.int .i64 (68 : Nat))) from rfl, atKey_put_other (kS_ne (Ne.symm q10)), show fd1 = fd0.put (kS nm0) (.lit (.int .i64 (67 : Nat))) from rfl, atKey_put_same fdm0 (kS_lit _)]; rfl
  · rw [show fd6 = fd5.put (kS nm5) (.lit (.int .i64 (72 : Nat))) from rfl, has_put_other (kS_ne (Ne.symm q50)), show fd5 = fd4.put (kS nm4) (.lit (.int .i64 (71 : Nat))) from rfl, has_put_other (kS_ne (Ne.symm q40)), show fd4 = fd3.put (kS nm3) (.lit (.int .i64 (70 : Nat))) from rfl, has_put_other (kS_ne (Ne.symm q30)), show fd3 = fd2.put (kS nm2) (.lit (.int .i64 (69 : Nat))) from rfl, has_put_other (kS_ne (Ne.symm q20)), show fd2 = fd1.put (kS nm1) (.lit (.int .i64 (68 : Nat))) from rfl, has_put_other (kS_ne (Ne.symm q10)), show fd1 = fd0.put (kS nm0) (.lit (.int .i64 (67 : Nat))) from rfl, has_put_same fdm0 (kS_lit _)]
  · rw [show fd6 = fd5.put (kS nm5) (.lit (.int .i64 (72 : Nat))) from rfl, atKey_put_other (kS_ne (Ne.symm q51)), show fd5 = fd4.put (kS nm4) (.lit (.int .i64 (71 : Nat))) from rfl, atKey_put_other (kS_ne (Ne.symm q41)), show fd4 = fd3.put (kS nm3) (.lit (.int .i64 (70 : Nat))) from rfl, atKey_put_other (kS_ne (Ne.symm q31)), show fd3 = fd2.put (kS nm2) (.lit (.int .i64 (69 : Nat))) from rfl, atKey_put_other (kS_ne (Ne.symm q21)), show fd2 = fd1.put (kS nm1) (.lit (.int .i64 (68 : Nat))) from rfl, atKey_put_same fdm1 (kS_lit _)]; rfl
  · rw [show fd6 = fd5.put (kS nm5) (.lit (.int .i64 (72 : Nat))) from rfl, has_put_other (kS_ne (Ne.symm q51)), show fd5 = fd4.put (kS nm4) (.lit (.int .i64 (71 : Nat))) from rfl, has_put_other (kS_ne (Ne.symm q41)), show fd4 = fd3.put (kS nm3) (.lit (.int .i64 (70 : Nat))) from rfl, has_put_other (kS_ne (Ne.symm q31)), show fd3 = fd2.put (kS nm2) (.lit (.int .i64 (69 : Nat))) from rfl, has_put_other (kS_ne (Ne.symm q21)), show fd2 = fd1.put (kS nm1) (.lit (.int .i64 (68 : Nat))) from rfl, has_put_same fdm1 (kS_lit _)]
  · rw [show fd6 = fd5.put (kS nm5) (.lit (.int .i64 (72 : Nat))) from rfl, atKey_put_other (kS_ne (Ne.symm q52)), show fd5 = fd4.put (kS nm4) (.lit (.int .i64 (71 : Nat))) from rfl, atKey_put_other (kS_ne (Ne.symm q42)), show fd4 = fd3.put (kS nm3) (.lit (.int .i64 (70 : Nat))) from rfl, atKey_put_other (kS_ne (Ne.symm q32)), show fd3 = fd2.put (kS nm2) (.lit (.int .i64 (69 : Nat))) from rfl, atKey_put_same fdm2 (kS_lit _)]; rfl
  · rw [show fd6 = fd5.put (kS nm5) (.lit (.int .i64 (72 : Nat))) from rfl, has_put_other (kS_ne (Ne.symm q52)), show fd5 = fd4.put (kS nm4) (.lit (.int .i64 (71 : Nat))) from rfl, has_put_other (kS_ne (Ne.symm q42)), show fd4 = fd3.put (kS nm3) (.lit (.int .i64 (70 : Nat))) from rfl, has_put_other (kS_ne (Ne.symm q32)), show fd3 = fd2.put (kS nm2) (.lit (.int .i64 (69 : Nat))) from rfl, has_put_same fdm2 (kS_lit _)]
  · rw [show fd6 = fd5.put (kS nm5) (.lit (.int .i64 (72 : Nat))) from rfl, atKey_put_other (kS_ne (Ne.symm q53)), show fd5 = fd4.put (kS nm4) (.lit (.int .i64 (71 : Nat))) from rfl, atKey_put_other (kS_ne (Ne.symm q43)), show fd4 = fd3.put (kS nm3) (.lit (.int .i64 (70 : Nat))) from rfl, atKey_put_same fdm3 (kS_lit _)]; rfl
  · rw [show fd6 = fd5.put (kS nm5) (.lit (.int .i64 (72 : Nat))) from rfl, has_put_other (kS_ne (Ne.symm q53)), show fd5 = fd4.put (kS nm4) (.lit (.int .i64 (71 : Nat))) from rfl, has_put_other (kS_ne (Ne.symm q43)), show fd4 = fd3.put (kS nm3) (.lit (.int .i64 (70 : Nat))) from rfl, has_put_same fdm3 (kS_lit _)]
  · rw [show fd6 = fd5.put (kS nm5) (.lit (.int .i64 (72 : Nat))) from rfl, atKey_put_other (kS_ne (Ne.symm q54)), show fd5 = fd4.put (kS nm4) (.lit (.int .i64 (71 : Nat))) from rfl, atKey_put_same fdm4 (kS_lit _)]; rfl
  · rw [show fd6 = fd5.put (kS nm5) (.lit (.int .i64 (72 : Nat))) from rfl, has_put_other (kS_ne (Ne.symm q54)), show fd5 = fd4.put (kS nm4) (.lit (.int .i64 (71 : Nat))) from rfl, has_put_same fdm4 (kS_lit _)]
  · rw [show fd6 = fd5.put (kS nm5) (.lit (.int .i64 (72 : Nat))) from rfl, atKey_put_same fdm5 (kS_lit _)]; rfl
  · rw [show fd6 = fd5.put (kS nm5) (.lit (.int .i64 (72 : Nat))) from rfl, has_put_same fdm5 (kS_lit _)]
theorem famD_none (s : ByteArray) (h0 : s ≠ nm0) (h1 : s ≠ nm1) (h2 : s ≠ nm2) (h3 : s ≠ nm3) (h4 : s ≠ nm4) (h5 : s ≠ nm5) : Maps.has fd6 (kS s) = false := by
  rw [show fd6 = fd5.put (kS nm5) (.lit (.int .i64 (72 : Nat))) from rfl, has_put_other (kS_ne h5), show fd5 = fd4.put (kS nm4) (.lit (.int .i64 (71 : Nat))) from rfl, has_put_other (kS_ne h4), show fd4 = fd3.put (kS nm3) (.lit (.int .i64 (70 : Nat))) from rfl, has_put_other (kS_ne h3), show fd3 = fd2.put (kS nm2) (.lit (.int .i64 (69 : Nat))) from rfl, has_put_other (kS_ne h2), show fd2 = fd1.put (kS nm1) (.lit (.int .i64 (68 : Nat))) from rfl, has_put_other (kS_ne h1), show fd1 = fd0.put (kS nm0) (.lit (.int .i64 (67 : Nat))) from rfl, has_put_other (kS_ne h0)]
  rfl
set_option maxRecDepth 100000 in
set_option maxHeartbeats 1600000 in
theorem families_any (w : World) :
    Calls Try.prog 52 #[] w fun e w' => e = .returned (.map (some w.heap.size)) ∧ w'.ownsMap Try.prog 9 famR w.heap.size 6 fd6 ∧ Below w.heap.size w w' := by
  have hmm := @run_makeMap Try.prog
  have m0 := World.ownsMap_made w Try.prog 9 famR
  obtain ⟨w1, r1, m1, g1⟩ := m0.update (t := 73) (e := 71) lawS Try.underlying73 (by unfold maxLen; omega) (key := .string nm0) (val := .func (.func 67) #[] #[]) (keyOf_string_mk Try.underlying9 (by decide)) (show famR (.func (.func 67) #[] #[]) = some (.lit (.int .i64 (67 : Nat)), []) from rfl)
  obtain ⟨w2, r2, m2, g2⟩ := m1.update (t := 73) (e := 71) lawS Try.underlying73 (by unfold maxLen; omega) (key := .string nm1) (val := .func (.func 68) #[] #[]) (keyOf_string_mk Try.underlying9 (by decide)) (show famR (.func (.func 68) #[] #[]) = some (.lit (.int .i64 (68 : Nat)), []) from rfl)
  obtain ⟨w3, r3, m3, g3⟩ := m2.update (t := 73) (e := 71) lawS Try.underlying73 (by unfold maxLen; omega) (key := .string nm2) (val := .func (.func 69) #[] #[]) (keyOf_string_mk Try.underlying9 (by decide)) (show famR (.func (.func 69) #[] #[]) = some (.lit (.int .i64 (69 : Nat)), []) from rfl)
  obtain ⟨w4, r4, m4, g4⟩ := m3.update (t := 73) (e := 71) lawS Try.underlying73 (by unfold maxLen; omega) (key := .string nm3) (val := .func (.func 70) #[] #[]) (keyOf_string_mk Try.underlying9 (by decide)) (show famR (.func (.func 70) #[] #[]) = some (.lit (.int .i64 (70 : Nat)), []) from rfl)
  obtain ⟨w5, r5, m5, g5⟩ := m4.update (t := 73) (e := 71) lawS Try.underlying73 (by unfold maxLen; omega) (key := .string nm4) (val := .func (.func 71) #[] #[]) (keyOf_string_mk Try.underlying9 (by decide)) (show famR (.func (.func 71) #[] #[]) = some (.lit (.int .i64 (71 : Nat)), []) from rfl)
  obtain ⟨w6, r6, m6, g6⟩ := m5.update (t := 73) (e := 71) lawS Try.underlying73 (by unfold maxLen; omega) (key := .string nm5) (val := .func (.func 72) #[] #[]) (keyOf_string_mk Try.underlying9 (by decide)) (show famR (.func (.func 72) #[] #[]) = some (.lit (.int .i64 (72 : Nat)), []) from rfl)
  have hB : Below w.heap.size w w6 := (((((((Below.refl w.heap.size w).alloc (Nat.le_refl _) _).grown g1 (by simp) (fun g e => by cases e; exact Nat.le_refl _)).grown g2 (by have := g1.size; simp at this; omega) (fun g e => by cases e; exact Nat.le_refl _)).grown g3 (by have := g1.size; have := g2.size; simp at *; omega) (fun g e => by cases e; exact Nat.le_refl _)).grown g4 (by have := g1.size; have := g2.size; have := g3.size; simp at *; omega) (fun g e => by cases e; exact Nat.le_refl _)).grown g5 (by have := g1.size; have := g2.size; have := g3.size; have := g4.size; simp at *; omega) (fun g e => by cases e; exact Nat.le_refl _)).grown g6 (by have := g1.size; have := g2.size; have := g3.size; have := g4.size; have := g5.size; simp at *; omega) (fun g e => by cases e; exact Nat.le_refl _)
  have hm := hide m6
  have hB' := hide hB
  clear m0 m1 m2 m3 m4 m5 m6 g1 g2 g3 g4 g5 g6 hB
  unfold nm0 at r1
  unfold nm1 at r2
  unfold nm2 at r3
  unfold nm3 at r4
  unfold nm4 at r5
  unfold nm5 at r6
  go_enter Try.func52, Try.ntmps52
  go_wp2
  go_ret
  exact ⟨rfl, hm.out, hB'.out⟩
/-- A family: its terms at k up to 12. -/
def FamC (f i : Nat) : Prop := ∀ (k : Nat) (w : World), k ≤ 12 → Calls Try.prog f #[.int .i64 k] w fun e w' => e = .returned (.agg #[.int .i64 (faA i k), .int .i64 (faB i k), .int .i64 (faD i k)]) ∧ Below w.heap.size w w'
theorem mulb2k {k : Nat} (h : k ≤ 12) : (k : Int) ≤ (k : Int) * (k : Int) ∧ (k : Int) * (k : Int) ≤ 144 := by
  have h1 : k * k ≤ 12 * 12 := Nat.mul_le_mul h h
  have h2 : k ≤ k * k := by cases k with | zero => omega | succ k => exact Nat.le_mul_of_pos_left _ (by omega)
  have e : (k : Int) * (k : Int) = ((k * k : Nat) : Int) := by rw [Int.natCast_mul]
  rw [e]
  omega
set_option maxHeartbeats 800000 in
theorem fam0 : FamC 67 0 := by
  intro k w hk
  have hb := bl1 w (.cells #[.int .i64 0, .int .i64 0, .int .i64 0] 90)
  by_cases h0 : k = 0
  · subst h0
    go_enter Try.func67, Try.ntmps67
    go_wp2
    refine bodyPost_ret (v := .agg #[.int .i64 0, .int .i64 1, .int .i64 1]) (by simp [results, Try.results67, go_sem]) rfl ?_
    exact ⟨by simp [faA, faB, faD], bl1 w _⟩
  · have k1 : (1 : Int) ≤ (k : Int) := by omega
    have k0 : ¬ (k : Int) = 0 := by omega
    go_enter Try.func67, Try.ntmps67
    go_wp2
    refine bodyPost_ret (v := .agg #[.int .i64 0, .int .i64 (k : Int), .int .i64 1]) (by simp [results, Try.results67, go_sem]) rfl ?_
    exact ⟨by simp [faA, faB, faD, h0], bl1 w _⟩
set_option maxHeartbeats 800000 in
theorem fam1 : FamC 68 1 := by
  intro k w hk
  have hb := bl1 w (.cells #[.int .i64 0, .int .i64 0, .int .i64 0] 90)
  by_cases h0 : k = 0
  · subst h0
    go_enter Try.func68, Try.ntmps68
    go_wp2
    refine bodyPost_ret (v := .agg #[.int .i64 1, .int .i64 1, .int .i64 1]) (by simp [results, Try.results68, go_sem]) rfl ?_
    exact ⟨by simp [faA, faB, faD], bl1 w _⟩
  · have k1 : (1 : Int) ≤ (k : Int) := by omega
    have k0 : ¬ (k : Int) = 0 := by omega
    obtain ⟨q1, q2⟩ := mulb2k (k := k) hk
    have v1 : IntKind.i64.wrap ((k : Int) * (k : Int)) = (k : Int) * (k : Int) := IntWalk.i64_in _ (by omega)
    have v2 : IntKind.i64.wrap (2 * (k : Int)) = 2 * (k : Int) := IntWalk.i64_in _ (by omega)
    have v3 : IntKind.i64.wrap (2 * (k : Int) + 1) = 2 * (k : Int) + 1 := IntWalk.i64_in _ (by omega)
    have q3 : (1 : Int) ≤ (k : Int) * (k : Int) := by omega
    go_enter Try.func68, Try.ntmps68
    go_wp2
    refine bodyPost_ret (v := .agg #[.int .i64 (2 * (k : Int) + 1), .int .i64 ((k : Int) * (k : Int)), .int .i64 1]) (by simp [results, Try.results68, go_sem]) rfl ?_
    exact ⟨by simp [faA, faB, faD, h0], bl1 w _⟩
set_option maxHeartbeats 800000 in
theorem fam2 : FamC 69 2 := by
  intro k w hk
  have hb := bl1 w (.cells #[.int .i64 0, .int .i64 0, .int .i64 0] 90)
  by_cases h0 : k = 0
  · subst h0
    go_enter Try.func69, Try.ntmps69
    go_wp2
    refine bodyPost_ret (v := .agg #[.int .i64 1, .int .i64 1, .int .i64 1]) (by simp [results, Try.results69, go_sem]) rfl ?_
    exact ⟨by simp [faA, faB, faD], bl1 w _⟩
  · have k1 : (1 : Int) ≤ (k : Int) := by omega
    have k0 : ¬ (k : Int) = 0 := by omega
    have v2 : IntKind.i64.wrap ((k : Int) + 1) = (k : Int) + 1 := IntWalk.i64_in _ (by omega)
    go_enter Try.func69, Try.ntmps69
    go_wp2
    refine bodyPost_ret (v := .agg #[.int .i64 ((k : Int) + 1), .int .i64 (k : Int), .int .i64 1]) (by simp [results, Try.results69, go_sem]) rfl ?_
    exact ⟨by simp [faA, faB, faD, h0], bl1 w _⟩
set_option maxHeartbeats 800000 in
theorem fam3 : FamC 70 3 := by
  intro k w hk
  have hb := bl1 w (.cells #[.int .i64 0, .int .i64 0, .int .i64 0] 90)
  by_cases h0 : k = 0
  · subst h0
    go_enter Try.func70, Try.ntmps70
    go_wp2
    refine bodyPost_ret (v := .agg #[.int .i64 1, .int .i64 1, .int .i64 1]) (by simp [results, Try.results70, go_sem]) rfl ?_
    exact ⟨by simp [faA, faB, faD], bl1 w _⟩
  by_cases h1 : k = 1
  · subst h1
    go_enter Try.func70, Try.ntmps70
    go_wp2
    refine bodyPost_ret (v := .agg #[.int .i64 2, .int .i64 1, .int .i64 1]) (by simp [results, Try.results70, go_sem]) rfl ?_
    exact ⟨by simp [faA, faB, faD], bl1 w _⟩
  · have k1 : (1 : Int) ≤ (k : Int) := by omega
    have k2 : ¬ (k : Int) + 1 ≤ 2 := by omega
    have k0 : ¬ (k : Int) = 0 := by omega
    have v2 : IntKind.i64.wrap ((k : Int) + 1) = (k : Int) + 1 := IntWalk.i64_in _ (by omega)
    have q3 : (2 : Int) ≤ (k : Int) + 1 := by omega
    go_enter Try.func70, Try.ntmps70
    go_wp2
    refine bodyPost_ret (v := .agg #[.int .i64 2, .int .i64 1, .int .i64 1]) (by simp [results, Try.results70, go_sem]) rfl ?_
    exact ⟨by simp [faA, faB, faD, h0], bl1 w _⟩
set_option maxHeartbeats 800000 in
theorem fam4 : FamC 71 4 := by
  intro k w hk
  have hb := bl1 w (.cells #[.int .i64 0, .int .i64 0, .int .i64 0] 90)
  by_cases h0 : k = 0
  · subst h0
    go_enter Try.func71, Try.ntmps71
    go_wp2
    refine bodyPost_ret (v := .agg #[.int .i64 0, .int .i64 1, .int .i64 1]) (by simp [results, Try.results71, go_sem]) rfl ?_
    exact ⟨by simp [faA, faB, faD], bl1 w _⟩
  · have k1 : (1 : Int) ≤ (k : Int) := by omega
    have k0 : ¬ (k : Int) = 0 := by omega
    go_enter Try.func71, Try.ntmps71
    go_wp2
    refine bodyPost_ret (v := .agg #[.int .i64 0, .int .i64 1, .int .i64 4]) (by simp [results, Try.results71, go_sem]) rfl ?_
    exact ⟨by simp [faA, faB, faD, h0], bl1 w _⟩
set_option maxHeartbeats 800000 in
theorem fam5 : FamC 72 5 := by
  intro k w hk
  have hb := bl1 w (.cells #[.int .i64 0, .int .i64 0, .int .i64 0] 90)
  by_cases h0 : k = 0
  · subst h0
    go_enter Try.func72, Try.ntmps72
    go_wp2
    refine bodyPost_ret (v := .agg #[.int .i64 0, .int .i64 2, .int .i64 1]) (by simp [results, Try.results72, go_sem]) rfl ?_
    exact ⟨by simp [faA, faB, faD], bl1 w _⟩
  · have k1 : (1 : Int) ≤ (k : Int) := by omega
    have k0 : ¬ (k : Int) = 0 := by omega
    obtain ⟨q1, q2⟩ := mulb2k (k := k) hk
    have v1 : IntKind.i64.wrap ((k : Int) * (k : Int)) = (k : Int) * (k : Int) := IntWalk.i64_in _ (by omega)
    have v2 : IntKind.i64.wrap (4 * (k : Int)) = 4 * (k : Int) := IntWalk.i64_in _ (by omega)
    have e4 : 4 * (k : Int) * (k : Int) = 4 * ((k : Int) * (k : Int)) := Int.mul_assoc _ _ _
    have v3 : IntKind.i64.wrap (4 * (k : Int) * (k : Int)) = 4 * (k : Int) * (k : Int) := IntWalk.i64_in _ (by omega)
    have v4 : IntKind.i64.wrap (4 * (k : Int) * (k : Int) - 1) = 4 * (k : Int) * (k : Int) - 1 := IntWalk.i64_in _ (by omega)
    clear e4
    go_enter Try.func72, Try.ntmps72
    go_wp2
    refine bodyPost_ret (v := .agg #[.int .i64 0, .int .i64 ((k : Int) * (k : Int)), .int .i64 (4 * (k : Int) * (k : Int) - 1)]) (by simp [results, Try.results72, go_sem]) rfl ?_
    exact ⟨by simp [faA, faB, faD, h0], bl1 w _⟩
/-- a call of a function value enters the function -/
def FamE (f : Nat) : Prop := ∀ (args : Array Value) (w : World), (callFunc f args).run Try.prog w = .ok (.enter f args) w
theorem fe0 : FamE 67 := fun _ _ => by kernel_rfl
theorem fe1 : FamE 68 := fun _ _ => by kernel_rfl
theorem fe2 : FamE 69 := fun _ _ => by kernel_rfl
theorem fe3 : FamE 70 := fun _ _ => by kernel_rfl
theorem fe4 : FamE 71 := fun _ _ => by kernel_rfl
theorem fe5 : FamE 72 := fun _ _ => by kernel_rfl
theorem fe_all (i : Nat) (hi : i < 6) : FamE (famF i) := by
  unfold famF
  match i, hi with
  | 0, _ => exact fe0
  | 1, _ => exact fe1
  | 2, _ => exact fe2
  | 3, _ => exact fe3
  | 4, _ => exact fe4
  | 5, _ => exact fe5
theorem fam_all (i : Nat) (hi : i < 6) : FamC (famF i) i := by
  unfold famF
  match i, hi with
  | 0, _ => exact fam0
  | 1, _ => exact fam1
  | 2, _ => exact fam2
  | 3, _ => exact fam3
  | 4, _ => exact fam4
  | 5, _ => exact fam5
set_option maxHeartbeats 800000 in
theorem modulo_any (p x y z : Int) (w : World) (hp : 2 ≤ p) (hx : 0 ≤ x) (hy : 0 ≤ y) (hz : 0 ≤ z) (hx2 : x ≤ 1000) (hy2 : y ≤ 1000) (hz2 : z ≤ 1000) :
    Calls Try.prog 73 #[.agg #[.int .i64 x, .int .i64 y, .int .i64 z], .int .i64 p] w fun e w' => e = .returned (.tuple #[.int .i64 (x % p), .int .i64 (y % p), .int .i64 (z % p)]) ∧ Below w.heap.size w w' := by
  have hb := bl1 w (.cells #[.int .i64 x, .int .i64 y, .int .i64 z] 90)
  have t1 : x.tmod p = x % p := Int.tmod_eq_emod_of_nonneg hx
  have t2 : y.tmod p = y % p := Int.tmod_eq_emod_of_nonneg hy
  have t3 : z.tmod p = z % p := Int.tmod_eq_emod_of_nonneg hz
  have hp0 : ¬ p = 0 := by omega
  go_enter Try.func73, Try.ntmps73
  go_wp2
  go_quiet (fail)
  go_wp2
  refine bodyPost_ret (v := .tuple #[.int .i64 (x % p), .int .i64 (y % p), .int .i64 (z % p)]) (by simp [results, Try.results73, go_sem]) rfl ?_
  exact ⟨rfl, below_drewN hb _⟩
end Go.Proofs.Ytpoabedlcljibaa
/- Contracts: beginningOf, NamedJacobi (program). -/
namespace Go.Proofs.Ytpoabedlcljibaa
open Go.RowKit Go.Maps Go.WideMaps
set_option linter.unusedVariables false
set_option linter.unusedSimpArgs false

def njF (p : Int) (i k : Nat) : Int := faA i k % p
def njG (p : Int) (i k : Nat) : Int := faB i k % p * invM p (faD i k % p) % p
def njOk (p : Int) (i : Nat) : Nat → Bool
  | 0 => true
  | k + 1 => njOk p i k && !(faB i k % p == 0) && !(faD i k % p == 0)
theorem njOk_false {p : Int} {i n k : Nat} (hk : k < n) (h : faB i k % p = 0 ∨ faD i k % p = 0) : njOk p i n = false := by
  induction n with
  | zero => omega
  | succ n ih =>
    unfold njOk
    by_cases e : k = n
    · subst e
      rcases h with h | h <;> simp [h]
    · rw [ih (by omega)]; rfl
theorem fa_rng (i k : Nat) (hk : k ≤ 12) : (0 ≤ faA i k ∧ faA i k ≤ 1000) ∧ (0 ≤ faB i k ∧ faB i k ≤ 1000) ∧ (0 ≤ faD i k ∧ faD i k ≤ 1000) := by
  have h1 : (k : Int) * k ≤ 144 ∧ (k : Int) ≤ (k : Int) * k := by
    have h2 : k * k ≤ 12 * 12 := Nat.mul_le_mul hk hk
    have h3 : k ≤ k * k := by cases k with | zero => omega | succ k => exact Nat.le_mul_of_pos_left _ (by omega)
    have e : (k : Int) * (k : Int) = ((k * k : Nat) : Int) := by rw [Int.natCast_mul]
    rw [e]
    omega
  have e4 : 4 * (k : Int) * (k : Int) = 4 * ((k : Int) * (k : Int)) := Int.mul_assoc _ _ _
  refine ⟨?_, ?_, ?_⟩
  · unfold faA
    repeat' split
    all_goals omega
  · unfold faB
    repeat' split
    all_goals omega
  · unfold faD
    repeat' split
    all_goals (try rw [e4])
    all_goals omega
def bgC (p : Int) (i n : Nat) : Int := if njOk p i n then 0 else 5
def bgP (p : Int) (i n : Nat) : Int := if bgC p i n = 0 then p else 0
def bgV (p : Int) (i n : Nat) : List Int := if bgC p i n = 0 then tab n (njF p i) else []
def bgU (p : Int) (i n : Nat) : List Int := if bgC p i n = 0 then tab n (njG p i) else []
theorem cell_be' {B : Nat} {w w' : World} {b o : Nat} {v : Value} (hb : Below B w w') (hlt : b < B) (h : w.cell? ⟨b, o, none⟩ = some v) : w'.cell? ⟨b, o, none⟩ = some v := (hb.cell hlt).trans h
theorem drew_grown {w w' : World} {row : Option Nat} (h : w.grownBy w' row) : w.drew.grownBy w' row := ⟨h.os, h.tape, h.output, h.size, h.block⟩
set_option maxRecDepth 100000 in
set_option maxHeartbeats 3200000 in
theorem beginningOf_any (p : Int) (f i n : Nat) (w : World) (hF : FamC f i) (hE : FamE f) (hp : 2 ≤ p) (hp2 : p ≤ 10007) (hn : n ≤ 12) (hn1 : 1 ≤ n) :
    Calls Try.prog 53 #[.func (.func f) #[] #[], .int .i64 p, .int .i64 n] w (ResJ w (bgP p i n) (bgV p i n) (bgU p i n) (bgC p i n)) := by
  have hent : ∀ (args : Array Value) (w : World), (callFunc f args).run Try.prog w = .ok (.enter f args) w := hE
  clear hE
  have hb0 := bl2 w (.cells #[.int .i64 0, .slice none 0 0, .slice none 0 0] 26) (.cells #[.int .i64 p, .slice none 0 0, .slice none 0 0] 26)
  have r0 : ((w.alloc (.cells #[.int .i64 0, .slice none 0 0, .slice none 0 0] 26)).alloc (.cells #[.int .i64 p, .slice none 0 0, .slice none 0 0] 26)).cell? ⟨w.heap.size, 0, none⟩ = some (.int .i64 0) := by simp [go_sem]
  have r1 : ((w.alloc (.cells #[.int .i64 0, .slice none 0 0, .slice none 0 0] 26)).alloc (.cells #[.int .i64 p, .slice none 0 0, .slice none 0 0] 26)).cell? ⟨w.heap.size, 1, none⟩ = some (.slice none 0 0) := by simp [go_sem]
  have r2 : ((w.alloc (.cells #[.int .i64 0, .slice none 0 0, .slice none 0 0] 26)).alloc (.cells #[.int .i64 p, .slice none 0 0, .slice none 0 0] 26)).cell? ⟨w.heap.size, 2, none⟩ = some (.slice none 0 0) := by simp [go_sem]
  have y0 : ((w.alloc (.cells #[.int .i64 0, .slice none 0 0, .slice none 0 0] 26)).alloc (.cells #[.int .i64 p, .slice none 0 0, .slice none 0 0] 26)).frozen? ⟨w.heap.size, 0, none⟩ = false := by simp [go_sem]
  have y1 : ((w.alloc (.cells #[.int .i64 0, .slice none 0 0, .slice none 0 0] 26)).alloc (.cells #[.int .i64 p, .slice none 0 0, .slice none 0 0] 26)).frozen? ⟨w.heap.size, 1, none⟩ = false := by simp [go_sem]
  have y2 : ((w.alloc (.cells #[.int .i64 0, .slice none 0 0, .slice none 0 0] 26)).alloc (.cells #[.int .i64 p, .slice none 0 0, .slice none 0 0] 26)).frozen? ⟨w.heap.size, 2, none⟩ = false := by simp [go_sem]
  have J0 : Hid (JS (w.heap.size + 1) (w.heap.size + 1) ((w.alloc (.cells #[.int .i64 0, .slice none 0 0, .slice none 0 0] 26)).alloc (.cells #[.int .i64 p, .slice none 0 0, .slice none 0 0] 26)) p none 0 (tab 0 (njF p i)) none 0 (tab 0 (njG p i))) := hide ⟨Own.nil _ _, Own.nil _ _, ⟨by simp [blk], by simp [blk], fun g h => by simp [blk] at h⟩, ⟨by simp [go_sem], by simp [go_sem, tab], by simp [go_sem, tab]⟩, ⟨by simp [go_sem], by simp [go_sem]⟩, Nat.le_refl _⟩
  have hsz0 : w.heap.size + 1 < ((w.alloc (.cells #[.int .i64 0, .slice none 0 0, .slice none 0 0] 26)).alloc (.cells #[.int .i64 p, .slice none 0 0, .slice none 0 0] 26)).heap.size := by simp
  have R0 := hide (And.intro r0 (And.intro r1 r2))
  have Y0 := hide (And.intro y0 (And.intro y1 y2))
  have W0 := hide (Below.refl ((w.alloc (.cells #[.int .i64 0, .slice none 0 0, .slice none 0 0] 26)).alloc (.cells #[.int .i64 p, .slice none 0 0, .slice none 0 0] 26)).heap.size ((w.alloc (.cells #[.int .i64 0, .slice none 0 0, .slice none 0 0] 26)).alloc (.cells #[.int .i64 p, .slice none 0 0, .slice none 0 0] 26)))
  have W1 : Hid (Below (w.heap.size + 1) ((w.alloc (.cells #[.int .i64 0, .slice none 0 0, .slice none 0 0] 26)).alloc (.cells #[.int .i64 p, .slice none 0 0, .slice none 0 0] 26)) ((w.alloc (.cells #[.int .i64 0, .slice none 0 0, .slice none 0 0] 26)).alloc (.cells #[.int .i64 p, .slice none 0 0, .slice none 0 0] 26))) := hide (Below.refl _ _)
  clear r0 r1 r2 y0 y1 y2 W0
  go_enter Try.func53, Try.ntmps53
  go_wp2
  generalize ((w.alloc (.cells #[.int .i64 0, .slice none 0 0, .slice none 0 0] 26)).alloc (.cells #[.int .i64 p, .slice none 0 0, .slice none 0 0] 26)) = wx at *
  go_loopw [16] (fun kv wr => ∃ (k ca cb : Nat) (a' b' : Option Addr), k ≤ n ∧ kv = .int .i64 k ∧ Hid (JS (w.heap.size + 1) (w.heap.size + 1) wr p a' ca (tab k (njF p i)) b' cb (tab k (njG p i))) ∧ Hid (Below (w.heap.size + 1) wx wr) ∧ Hid (njOk p i k = true)) (fun kv _ => n - (intOf kv).toNat)
  case atStart => exact ⟨0, 0, 0, none, none, by omega, rfl, J0, W1, hide rfl⟩
  case round =>
    obtain ⟨k, ca, cb, a', b', hkn, rfl, hJ, hW, hOk⟩ := hrel
    clear J0 W1
    have hsz := hW.out.size
    by_cases hlt : k < n
    · have hlt' : (k : Int) < (n : Int) := by omega
      obtain ⟨⟨a1, a2⟩, ⟨b1, b2⟩, ⟨d1, d2⟩⟩ := fa_rng i k (by omega)
      obtain ⟨zs, hzs⟩ : ∃ zs, tab k (njF p i) = zs := ⟨_, rfl⟩
      have hzl := hide (show zs.length = k by rw [← hzs, tab_len])
      obtain ⟨vs, hvs⟩ : ∃ vs, tab k (njG p i) = vs := ⟨_, rfl⟩
      have hvl := hide (show vs.length = k by rw [← hvs, tab_len])
      rw [hzs, hvs] at hJ
      have hstA := hide (show tab (k + 1) (njF p i) = zs ++ [faA i k % p] by rw [← hzs]; exact (tab_snoc k (njF p i)).symm)
      have hstB := hide (show tab (k + 1) (njG p i) = vs ++ [faB i k % p * invM p (faD i k % p) % p] by rw [← hvs]; exact (tab_snoc k (njG p i)).symm)
      have hOk1 := hide (show njOk p i (k + 1) = (njOk p i k && !(faB i k % p == 0) && !(faD i k % p == 0)) from rfl)
      obtain ⟨A, hA⟩ : ∃ A, faA i k = A := ⟨_, rfl⟩
      obtain ⟨Bt, hBt⟩ : ∃ Bt, faB i k = Bt := ⟨_, rfl⟩
      obtain ⟨D, hD⟩ : ∃ D, faD i k = D := ⟨_, rfl⟩
      have HBD := hide (And.intro hBt hD)
      have hFk := hide (hF k)
      rw [hA] at a1 a2 hstA
      rw [hBt] at b1 b2 hstB hOk1
      rw [hD] at d1 d2 hstB hOk1
      have zk : zs.length ≤ 12 := by have := hzl.out; omega
      have vk' : vs.length ≤ 12 := by have := hvl.out; omega
      clear hzs hvs
      go_wp2_with fail
      refine (hFk.out wr (by omega)).mono ?_
      rintro e w1 ⟨rfl, t1⟩
      rw [hA, hBt, hD]
      clear hA hBt hD
      go_wp2_with fail
      refine (modulo_any p A Bt D _ hp a1 b1 d1 a2 b2 d2).mono ?_
      rintro e w2 ⟨rfl, t2⟩
      have t12 := bnext t1 t2
      have J2 := hide (hJ.out.below t12)
      have W2 := hide (hW.out.trans (t12.mono (by omega)))
      have rA := modb (x := A) hp
      have rB := modb (x := Bt) hp
      have rD := modb (x := D) hp
      obtain ⟨A', hA'⟩ : ∃ A', A % p = A' := ⟨_, rfl⟩
      obtain ⟨B', hB'⟩ : ∃ B', Bt % p = B' := ⟨_, rfl⟩
      obtain ⟨D', hD'⟩ : ∃ D', D % p = D' := ⟨_, rfl⟩
      rw [hA'] at rA hstA ⊢
      rw [hB'] at rB hstB hOk1 ⊢
      rw [hD'] at rD hstB hOk1 ⊢
      have HB' := hide hB'
      have HD' := hide hD'
      clear hA' hB' hD' t1 t2 t12 hJ hW hFk
      have sz2 := W2.out.size
      by_cases hz : B' = 0 ∨ D' = 0
      · have HC := hide (show bgC p i n = 5 by
          unfold bgC
          rw [njOk_false hlt (by
            obtain ⟨q1, q2⟩ := HBD.out
            rw [q1, q2, HB'.out, HD'.out]
            exact hz)]
          rfl)
        have HV := hide (show bgV p i n = [] by unfold bgV; rw [HC.out]; rfl)
        have HU := hide (show bgU p i n = [] by unfold bgU; rw [HC.out]; rfl)
        have HP := hide (show bgP p i n = 0 by unfold bgP; rw [HC.out]; rfl)
        have hBw := hb0.trans (W2.out.mono (by omega))
        have r0 := cell_be' W2.out (Nat.lt_succ_self _) R0.out.1
        have r1 := cell_be' W2.out (Nat.lt_succ_self _) R0.out.2.1
        have r2 := cell_be' W2.out (Nat.lt_succ_self _) R0.out.2.2
        have y0 := (W2.out.frozen (p := ⟨w.heap.size, 0, none⟩) (Nat.lt_succ_self _)).trans Y0.out.1
        have y1 := (W2.out.frozen (p := ⟨w.heap.size, 1, none⟩) (Nat.lt_succ_self _)).trans Y0.out.2.1
        have y2 := (W2.out.frozen (p := ⟨w.heap.size, 2, none⟩) (Nat.lt_succ_self _)).trans Y0.out.2.2
        by_cases hz1 : B' = 0
        · have ob : (B' == 0) = true := by simp [hz1]
          clear hz
          go_wp2
          refine bodyPost_ret (v := .tuple #[jac 0 none 0 0 none 0 0, .int .i64 5]) (by simp [results, Try.results53, go_sem, r0, r1, r2]) rfl ?_
          exact ResJ.nil HP.out HV.out HU.out HC.out (((hBw.setCell (by simp) _).setCell (by simp) _).setCell (by simp) _)
        · have ob : (B' == 0) = false := by simp [hz1]
          have hz2 : D' = 0 := by omega
          have ob2 : (D' == 0) = true := by simp [hz2]
          clear hz
          go_wp2
          refine bodyPost_ret (v := .tuple #[jac 0 none 0 0 none 0 0, .int .i64 5]) (by simp [results, Try.results53, go_sem, r0, r1, r2]) rfl ?_
          exact ResJ.nil HP.out HV.out HU.out HC.out (((hBw.setCell (by simp) _).setCell (by simp) _).setCell (by simp) _)
      · have hz1 : ¬ B' = 0 := fun h => hz (.inl h)
        have hz2 : ¬ D' = 0 := fun h => hz (.inr h)
        have ob : (B' == 0) = false := by simp [hz1]
        have ob2 : (D' == 0) = false := by simp [hz2]
        have hOk2 := hide (show njOk p i (k + 1) = true by rw [hOk1.out, hOk.out, ob, ob2]; rfl)
        clear hz
        -- Alpha
        have Jx := J2.out
        have hba : Below w2.heap.size w2 (w2.alloc (.cells #[.int .i64 A'] 2)) := bl1 w2 _
        have JA := Jx.below hba
        have hOa := hide JA.oA
        have hqw := Jx.hi
        have c1 := Jx.c1
        have ca1 := JA.c1
        go_upto_region 9 with (at_builtin; refine wp_appG (by rfl) _ _ (by rfl) (w.heap.size + 1) _ _ _ zs (by rfl) rfl hOa.out _ 1 1 [A'] (by rfl) (litSL w2 A') (by omega) (by simp; omega) ?_; intro ad' cap' v' hown' hgr hloc; have s1' := cell_ne hgr JA.c1 JA.2.2.1.1; have sf' := frz_ne hgr JA.c1 JA.z1 JA.2.2.1.1)
        have hgr' := drew_grown hgr
        have J6 := hide (Jx.pushA hown' hgr' hloc)
        have W6 := hide (below_push W2.out (by omega) hgr' (own_blk_ge hOa.out) Jx.lo (k := 1) (.slice ad' (zs.length + 1) cap'))
        obtain ⟨w6, hw6⟩ : ∃ w6, w6 = v'.setCell ⟨w.heap.size + 1, 1, none⟩ (.slice ad' (zs.length + 1) cap') := ⟨_, rfl⟩
        rw [← hw6] at J6 W6 ⊢
        clear hw6 hgr hgr' hown' hloc hOa hba JA Jx s1' sf' hqw c1 ca1 J2 W2
        have J7 : Hid (JS (w.heap.size + 1) (w.heap.size + 1) w6 p ad' cap' (tab (k + 1) (njF p i)) b' cb vs) := hide (by rw [hstA.out]; exact J6.out)
        clear J6
        -- Beta
        have rI := invM_rng D' hp
        obtain ⟨I, hI⟩ : ∃ I, invM p D' = I := ⟨_, rfl⟩
        rw [hI] at rI hstB
        have HI := hide hI
        obtain ⟨m1, m2⟩ := mulb rB.1 rB.2 rI.1 rI.2 hp2
        have v1 : IntKind.i64.wrap (B' * I) = B' * I := IntWalk.i64_in _ (by omega)
        have v2 : (B' * I).tmod p = B' * I % p := Int.tmod_eq_emod_of_nonneg m1
        obtain ⟨Z, hZ⟩ : ∃ Z, B' * I % p = Z := ⟨_, rfl⟩
        rw [hZ] at v2 hstB
        have hp0 : ¬ p = 0 := by omega
        clear hI hZ
        have jx := J7.out
        have hbd := (Below.refl w6.heap.size w6).drew
        have hS7 := cell_be hbd jx.c2
        refine region_E (fun v => v.cell? ⟨w.heap.size + 1, 2, none⟩ = some (.slice b' vs.length cb)) 12 (by kernel_rfl) hS7 ?_
        intro hS
        refine anyE_takeL 0 rfl (by kernel_rfl) (fun _ _ _ h => h) hS (by rfl) (v := ?_) ?_ ?_
        rotate_left
        · intro w' hSw; (try dsimp only at hSw); go_simp; (try with_reducible rfl)
        try simp only [Act.put, List.setIfInBounds_toArray, List.set_cons_zero, List.set_cons_succ]
        refine anyE_takeL 1 rfl (by kernel_rfl) (fun _ _ _ h => h) hS (by rfl) (v := ?_) ?_ ?_
        rotate_left
        · intro w' hSw; (try dsimp only at hSw); go_simp; (try with_reducible rfl)
        try simp only [Act.put, List.setIfInBounds_toArray, List.set_cons_zero, List.set_cons_succ]
        refine anyE_takeL 2 rfl (by kernel_rfl) (fun _ _ _ h => h) hS (by rfl) (v := ?_) ?_ ?_
        rotate_left
        · intro w' hSw; (try dsimp only at hSw); go_simp; (try with_reducible rfl)
        try simp only [Act.put, List.setIfInBounds_toArray, List.set_cons_zero, List.set_cons_succ]
        refine anyE_takeL 3 rfl (by kernel_rfl) (fun _ _ _ h => h) hS (by rfl) (v := ?_) ?_ ?_
        rotate_left
        · intro w' hSw; (try dsimp only at hSw); go_simp; (try with_reducible rfl)
        try simp only [Act.put, List.setIfInBounds_toArray, List.set_cons_zero, List.set_cons_succ]
        refine anyE_takeL 4 rfl (by kernel_rfl) (fun _ _ _ h => h) hS (by rfl) (v := ?_) ?_ ?_
        rotate_left
        · intro w' hSw; (try dsimp only at hSw); go_simp; (try with_reducible rfl)
        try simp only [Act.put, List.setIfInBounds_toArray, List.set_cons_zero, List.set_cons_succ]
        refine anyE_takeL 7 rfl (by kernel_rfl) (fun _ _ _ h => h) hS (by rfl) (v := ?_) ?_ ?_
        rotate_left
        · intro w' hSw; (try dsimp only at hSw); go_simp; (try with_reducible rfl)
        try simp only [Act.put, List.setIfInBounds_toArray, List.set_cons_zero, List.set_cons_succ]
        clear hS
        refine anyE_oneL 5 (by kernel_rfl) rfl (fun K hK => ?_)
        go_simp
        refine (inverse_any p D' _ hp hp2 rD.1 rD.2).mono ?_
        rintro e w8 ⟨rfl, t8⟩
        rw [HI.out]
        dsimp only
        have J8 := hide (jx.below (bnext hbd t8))
        have sz6 := W6.out.size
        have W8 := hide (W6.out.trans ((bnext hbd t8).mono (by omega)))
        clear jx J7 hbd t8 hS7 W6
        have S8 := J8.out.c2
        refine hK.out _ _ S8 ?_
        clear hK K
        try simp only [Act.put, List.setIfInBounds_toArray, List.set_cons_zero, List.set_cons_succ]
        refine anyE_takeL 6 rfl (by kernel_rfl) (fun _ _ _ h => h) S8 (by rfl) (v := ?_) ?_ ?_
        rotate_left
        · intro w' hSw; (try dsimp only at hSw); go_simp; (try with_reducible rfl)
        try simp only [Act.put, List.setIfInBounds_toArray, List.set_cons_zero, List.set_cons_succ]
        refine anyE_takeL 8 rfl (by kernel_rfl) (fun _ _ _ h => h) S8 (by rfl) (v := ?_) ?_ ?_
        rotate_left
        · intro w' hSw; (try dsimp only at hSw); go_simp; (try with_reducible rfl)
        try simp only [Act.put, List.setIfInBounds_toArray, List.set_cons_zero, List.set_cons_succ]
        have hcl : (w8.alloc (.cells #[.int .i64 Z] 2)).cell? ⟨w8.heap.size, 0, none⟩ = some (.int .i64 Z) := by simp [go_sem]
        have JA := J8.out.below (bl1 w8 (.cells #[.int .i64 Z] 2))
        have hOb := hide JA.oB
        have sz8 := W8.out.size
        refine anyE_oneL 9 (by kernel_rfl) rfl (fun K hK => ?_)
        go_simp
        have S1 := JA.c2
        refine hK.out _ _ S1 ?_
        clear hK K
        try simp only [Act.put, List.setIfInBounds_toArray, List.set_cons_zero, List.set_cons_succ]
        refine anyE_oneL 10 (by kernel_rfl) rfl (fun K hK => ?_)
        refine step_app1 (by rfl) _ _ (by rfl) (w.heap.size + 1) _ _ _ vs (by rfl) rfl hOb.out _ _ Z (by rfl) hcl (by omega) (by first | omega | (simp; omega)) ?_
        intro bd' bap' v9 hown2 hgr2 hloc2
        have S9 := cell_ne hgr2 JA.c2 JA.2.2.1.2.1
        have sf2 := frz_ne hgr2 JA.c2 JA.z2 JA.2.2.1.2.1
        refine hK.out _ _ S9 ?_
        clear hK K
        try simp only [Act.put, List.setIfInBounds_toArray, List.set_cons_zero, List.set_cons_succ]
        refine anyE_takeL 11 rfl (by kernel_rfl) (fun _ _ _ h => h) S9 (by rfl) (v := ?_) ?_ ?_
        rotate_left
        · intro w' hSw; (try dsimp only at hSw); go_simp; (try with_reducible rfl)
        try simp only [Act.put, List.setIfInBounds_toArray, List.set_cons_zero, List.set_cons_succ]
        refine anyE_lastL (by kernel_rfl) rfl (by kernel_rfl) (fun K hK => ?_)
        go_simp
        refine hK.out _ _ ?_
        clear hK K
        try simp only [Act.put, List.setIfInBounds_toArray, List.set_cons_zero, List.set_cons_succ]
        have J9 := hide (J8.out.pushB hown2 (drew_grown hgr2) hloc2)
        have W9 := hide (below_push W8.out (by omega) (drew_grown hgr2) (own_blk_ge hOb.out) J8.out.lo (k := 2) (.slice bd' (vs.length + 1) bap'))
        obtain ⟨w9, hw9⟩ : ∃ w9, w9 = v9.setCell ⟨w.heap.size + 1, 2, none⟩ (.slice bd' (vs.length + 1) bap') := ⟨_, rfl⟩
        rw [← hw9] at J9 W9 ⊢
        clear hw9 hgr2 hown2 hloc2 hOb JA S9 sf2 J8 W8 S1 S8 hcl
        have J10 : Hid (JS (w.heap.size + 1) (w.heap.size + 1) w9 p ad' cap' (tab (k + 1) (njF p i)) bd' bap' (tab (k + 1) (njG p i))) := hide (by rw [hstB.out]; exact J9.out)
        clear J9 v1 v2
        go_wp2
        go_roundw
        case rel => exact ⟨k + 1, cap', bap', ad', bd', by omega, by go_num, J10, W9, hOk2⟩
        case measure => simp [intOf]; omega
    · have hge : ¬ (k : Int) < (n : Int) := by omega
      have hkn2 : k = n := by omega
      have HC := hide (show bgC p i n = 0 by unfold bgC; rw [← hkn2, hOk.out]; rfl)
      have HV := hide (show bgV p i n = tab k (njF p i) by unfold bgV; rw [HC.out, hkn2]; rfl)
      have HU := hide (show bgU p i n = tab k (njG p i) by unfold bgU; rw [HC.out, hkn2]; rfl)
      have HP := hide (show bgP p i n = p by unfold bgP; rw [HC.out]; rfl)
      have hk1 : 1 ≤ k := by omega
      clear hkn2
      obtain ⟨us, hus⟩ : ∃ us, tab k (njF p i) = us := ⟨_, rfl⟩
      have hul := hide (show us.length = k by rw [← hus, tab_len])
      obtain ⟨vs, hvs⟩ : ∃ vs, tab k (njG p i) = vs := ⟨_, rfl⟩
      have hvl := hide (show vs.length = k by rw [← hvs, tab_len])
      rw [hus, hvs] at hJ
      rw [hus] at HV
      rw [hvs] at HU
      have c0 := hJ.out.c0
      have c1 := hJ.out.c1
      have c2 := hJ.out.c2
      have hqw := hJ.out.hi
      have r0 := cell_be' hW.out (Nat.lt_succ_self _) R0.out.1
      have r1 := cell_be' hW.out (Nat.lt_succ_self _) R0.out.2.1
      have r2 := cell_be' hW.out (Nat.lt_succ_self _) R0.out.2.2
      have y0 := (hW.out.frozen (p := ⟨w.heap.size, 0, none⟩) (Nat.lt_succ_self _)).trans Y0.out.1
      have y1 := (hW.out.frozen (p := ⟨w.heap.size, 1, none⟩) (Nat.lt_succ_self _)).trans Y0.out.2.1
      have y2 := (hW.out.frozen (p := ⟨w.heap.size, 2, none⟩) (Nat.lt_succ_self _)).trans Y0.out.2.2
      have hBw := hb0.trans (hW.out.mono (by omega))
      have jz := hJ.out.jz (by rw [hul.out]; omega)
      clear hus hvs
      go_wp2
      refine bodyPost_ret (v := .tuple #[jac p a' us.length ca b' vs.length cb, .int .i64 0]) (by simp [results, Try.results53, go_sem, r0, r1, r2]) rfl ?_
      have jz2 := ((jz.setLow (x := ⟨w.heap.size, 0, none⟩) (by simp) (.int .i64 p)).setLow (x := ⟨w.heap.size, 1, none⟩) (by simp) (.slice a' us.length ca)).setLow (x := ⟨w.heap.size, 2, none⟩) (by simp) (.slice b' vs.length cb)
      exact ResJ.mk HP.out HC.out (by rw [HV.out]) (by rw [HU.out]) (by rw [HV.out, HU.out]; simpa using jz2.mono (lo' := w.heap.size) (by omega) (Nat.le_refl _)) (by rw [HV.out, hul.out]; omega) (by rw [HU.out, hvl.out]; omega) (((hBw.setCell (by simp) _).setCell (by simp) _).setCell (by simp) _)
def njC (s : ByteArray) (p n : Int) : Int := if primeB p = true ∧ 1 ≤ n ∧ n ≤ 12 then (if famI s = 6 then 4 else bgC p (famI s) n.toNat) else 2
def njP (s : ByteArray) (p n : Int) : Int := if njC s p n = 0 then p else 0
def njV (s : ByteArray) (p n : Int) : List Int := if njC s p n = 0 then tab n.toNat (njF p (famI s)) else []
def njU (s : ByteArray) (p n : Int) : List Int := if njC s p n = 0 then tab n.toNat (njG p (famI s)) else []
theorem nj_err {s : ByteArray} {p n C : Int} (h : njC s p n = C) (hC : C ≠ 0) : njP s p n = 0 ∧ njV s p n = [] ∧ njU s p n = [] := by
  subst h
  unfold njP njV njU
  rw [if_neg hC, if_neg hC, if_neg hC]
  exact ⟨rfl, rfl, rfl⟩
theorem nj_bg {s : ByteArray} {p : Int} {n : Nat} (hp : primeB p = true) (h1 : 1 ≤ n) (h2 : n ≤ 12) (hi : famI s < 6) : njC s p n = bgC p (famI s) n ∧ njP s p n = bgP p (famI s) n ∧ njV s p n = bgV p (famI s) n ∧ njU s p n = bgU p (famI s) n := by
  have e : njC s p n = bgC p (famI s) n := by
    unfold njC
    rw [if_pos ⟨hp, by omega, by omega⟩, if_neg (by omega), Int.toNat_natCast]
  refine ⟨e, ?_, ?_, ?_⟩
  · unfold njP bgP; rw [e]
  · unfold njV bgV; rw [e, Int.toNat_natCast]
  · unfold njU bgU; rw [e, Int.toNat_natCast]
theorem fam_look (s : ByteArray) : (famI s < 6 ∧ (∀ z, fd6.atKey (kS s) z = .lit (.int .i64 (famF (famI s) : Nat))) ∧ Maps.has fd6 (kS s) = true) ∨ (famI s = 6 ∧ Maps.has fd6 (kS s) = false) := by
  obtain ⟨f0, f1, f2, f3, f4, f5⟩ := famI_nm
  rcases famI_cases s with rfl | rfl | rfl | rfl | rfl | rfl | ⟨h, h0, h1, h2, h3, h4, h5⟩
  · left; rw [f0]; exact ⟨by omega, fun z => (famD_at z).1, (famD_at (.map [])).2.1⟩
  · left; rw [f1]; exact ⟨by omega, fun z => (famD_at z).2.2.1, (famD_at (.map [])).2.2.2.1⟩
  · left; rw [f2]; exact ⟨by omega, fun z => (famD_at z).2.2.2.2.1, (famD_at (.map [])).2.2.2.2.2.1⟩
  · left; rw [f3]; exact ⟨by omega, fun z => (famD_at z).2.2.2.2.2.2.1, (famD_at (.map [])).2.2.2.2.2.2.2.1⟩
  · left; rw [f4]; exact ⟨by omega, fun z => (famD_at z).2.2.2.2.2.2.2.2.1, (famD_at (.map [])).2.2.2.2.2.2.2.2.2.1⟩
  · left; rw [f5]; exact ⟨by omega, fun z => (famD_at z).2.2.2.2.2.2.2.2.2.2.1, (famD_at (.map [])).2.2.2.2.2.2.2.2.2.2.2⟩
  · right; exact ⟨h, famD_none s h0 h1 h2 h3 h4 h5⟩
set_option maxRecDepth 100000 in
set_option maxHeartbeats 1600000 in
theorem implNamedJacobi (s : ByteArray) (p n : Int) (w : World) (hs : s.size ≤ 1048576) :
    Calls Try.prog 39 #[.string s, .int .i64 p, .int .i64 n] w (ResJ w (njP s p n) (njV s p n) (njU s p n) (njC s p n)) := by
  have hb0 := bl1 w (.cells #[.int .i64 0, .slice none 0 0, .slice none 0 0] 26)
  have r0 : (w.alloc (.cells #[.int .i64 0, .slice none 0 0, .slice none 0 0] 26)).cell? ⟨w.heap.size, 0, none⟩ = some (.int .i64 0) := by simp [go_sem]
  have r1 : (w.alloc (.cells #[.int .i64 0, .slice none 0 0, .slice none 0 0] 26)).cell? ⟨w.heap.size, 1, none⟩ = some (.slice none 0 0) := by simp [go_sem]
  have r2 : (w.alloc (.cells #[.int .i64 0, .slice none 0 0, .slice none 0 0] 26)).cell? ⟨w.heap.size, 2, none⟩ = some (.slice none 0 0) := by simp [go_sem]
  have y0 : (w.alloc (.cells #[.int .i64 0, .slice none 0 0, .slice none 0 0] 26)).frozen? ⟨w.heap.size, 0, none⟩ = false := by simp [go_sem]
  have y1 : (w.alloc (.cells #[.int .i64 0, .slice none 0 0, .slice none 0 0] 26)).frozen? ⟨w.heap.size, 1, none⟩ = false := by simp [go_sem]
  have y2 : (w.alloc (.cells #[.int .i64 0, .slice none 0 0, .slice none 0 0] 26)).frozen? ⟨w.heap.size, 2, none⟩ = false := by simp [go_sem]
  cases hpr : primeB p
  · have HC := hide (show njC s p n = 2 by unfold njC; rw [if_neg (by rw [hpr]; simp)])
    have HE := hide (nj_err HC.out (by decide))
    have Hp := hide hpr
    clear hpr
    go_enter Try.func39, Try.ntmps39
    go_wp2_with fail
    refine (isPrime_any _ _).mono ?_
    rintro e w1 ⟨rfl, rfl⟩
    rw [Hp.out]
    go_wp2
    refine bodyPost_ret (v := .tuple #[jac 0 none 0 0 none 0 0, .int .i64 2]) (by simp [results, Try.results39, go_sem, r0, r1, r2]) rfl ?_
    exact ResJ.nil HE.out.1 HE.out.2.1 HE.out.2.2 HC.out hb0
  have Hp := hide hpr
  by_cases hn : n < 1 ∨ 12 < n
  · have HC := hide (show njC s p n = 2 by unfold njC; rw [if_neg (fun h => by omega)])
    have HE := hide (nj_err HC.out (by decide))
    clear hpr
    by_cases h1 : n < 1
    · clear hn
      go_enter Try.func39, Try.ntmps39
      go_wp2_with fail
      refine (isPrime_any _ _).mono ?_
      rintro e w1 ⟨rfl, rfl⟩
      rw [Hp.out]
      go_wp2
      refine bodyPost_ret (v := .tuple #[jac 0 none 0 0 none 0 0, .int .i64 2]) (by simp [results, Try.results39, go_sem, r0, r1, r2]) rfl ?_
      exact ResJ.nil HE.out.1 HE.out.2.1 HE.out.2.2 HC.out hb0
    · have h2 : 12 < n := by omega
      clear hn
      go_enter Try.func39, Try.ntmps39
      go_wp2_with fail
      refine (isPrime_any _ _).mono ?_
      rintro e w1 ⟨rfl, rfl⟩
      rw [Hp.out]
      go_wp2
      refine bodyPost_ret (v := .tuple #[jac 0 none 0 0 none 0 0, .int .i64 2]) (by simp [results, Try.results39, go_sem, r0, r1, r2]) rfl ?_
      exact ResJ.nil HE.out.1 HE.out.2.1 HE.out.2.2 HC.out hb0
  have h1 : ¬ n < 1 := fun h => hn (.inl h)
  have h2 : ¬ 12 < n := fun h => hn (.inr h)
  obtain ⟨N, rfl⟩ : ∃ N : Nat, n = N := ⟨n.toNat, by omega⟩
  obtain ⟨hp, hp2⟩ := primeB_lo hpr
  clear hn
  rcases fam_look s with ⟨hi, hat, hhas⟩ | ⟨hi, hhas⟩
  · obtain ⟨E1, E2, E3, E4⟩ := nj_bg (s := s) hpr (show 1 ≤ N by omega) (show N ≤ 12 by omega) hi
    have HE := hide (And.intro E1 (And.intro E2 (And.intro E3 E4)))
    have HF := hide (And.intro (fam_all (famI s) hi) (fe_all (famI s) hi))
    have Hat := hide (hat (.lit (.bool false)))
    have Hhas := hide hhas
    clear E1 E2 E3 E4 hat hhas hpr hi
    go_enter Try.func39, Try.ntmps39
    go_wp2_with fail
    refine (isPrime_any _ _).mono ?_
    rintro e w1 ⟨rfl, rfl⟩
    rw [Hp.out]
    go_wp2_with fail
    refine (families_any _).mono ?_
    rintro e w2 ⟨rfl, hmap, t2⟩
    obtain ⟨v, ps, hrun, hv⟩ := hmap.look_ok (t := 73) (e := 71) lawS Try.underlying73 (zeroFam _) (show famR .nilFunc = some (.lit (.bool false), []) from rfl) (keyOf_string_mk Try.underlying9 (show s.size ≤ maxLen by unfold maxLen; omega))
    rw [show (.string s.data.toList : Lit) = kS s from rfl, Hhas.out, show (w.alloc (.cells #[.int .i64 0, .slice none 0 0, .slice none 0 0] 26)).heap.size = w.heap.size + 1 by simp] at hrun
    rw [show (.string s.data.toList : Lit) = kS s from rfl, Hat.out] at hv
    obtain rfl := famR_inv hv
    have B2 := bnext hb0 t2
    replace y0 := (t2.frozen (World.block_lt_of_cell? _ _ r0)).trans y0
    replace y1 := (t2.frozen (World.block_lt_of_cell? _ _ r1)).trans y1
    replace y2 := (t2.frozen (World.block_lt_of_cell? _ _ r2)).trans y2
    replace r0 := cell_be t2 r0
    replace r1 := cell_be t2 r1
    replace r2 := cell_be t2 r2
    clear hv hmap t2 hb0
    go_wp2_with fail
    refine (beginningOf_any p (famF (famI s)) (famI s) N _ HF.out.1 HF.out.2 hp hp2 (by omega) (by omega)).mono ?_
    rintro e w3 ⟨a3, c3, b3, d3, rfl, jz, ⟨l1, l2⟩, t3⟩
    have B3 := bnext B2 t3
    replace y0 := (t3.frozen (World.block_lt_of_cell? _ _ r0)).trans y0
    replace y1 := (t3.frozen (World.block_lt_of_cell? _ _ r1)).trans y1
    replace y2 := (t3.frozen (World.block_lt_of_cell? _ _ r2)).trans y2
    have hlt : w.heap.size < w2.heap.size := World.block_lt_of_cell? _ _ r0
    replace r0 := cell_be t3 r0
    replace r1 := cell_be t3 r1
    replace r2 := cell_be t3 r2
    obtain ⟨P', hP⟩ : ∃ P', bgP p (famI s) N = P' := ⟨_, rfl⟩
    obtain ⟨V', hV⟩ : ∃ V', bgV p (famI s) N = V' := ⟨_, rfl⟩
    obtain ⟨U', hU⟩ : ∃ U', bgU p (famI s) N = U' := ⟨_, rfl⟩
    obtain ⟨C', hC⟩ : ∃ C', bgC p (famI s) N = C' := ⟨_, rfl⟩
    rw [hP, hV, hU, hC] at HE ⊢
    rw [hV, hU] at jz
    rw [hV] at l1
    rw [hU] at l2
    clear hP hV hU hC hrun
    go_wp2
    refine bodyPost_ret (v := .tuple #[jac P' a3 V'.length c3 b3 U'.length d3, .int .i64 C']) (by simp [results, Try.results39, go_sem, r0, r1, r2]) rfl ?_
    have jz2 := ((jz.setLow (x := ⟨w.heap.size, 0, none⟩) (by simp; omega) (.int .i64 P')).setLow (x := ⟨w.heap.size, 1, none⟩) (by simp; omega) (.slice a3 V'.length c3)).setLow (x := ⟨w.heap.size, 2, none⟩) (by simp; omega) (.slice b3 U'.length d3)
    exact ResJ.mk HE.out.2.1 HE.out.1 (by rw [HE.out.2.2.1]) (by rw [HE.out.2.2.2]) (by rw [HE.out.2.2.1, HE.out.2.2.2]; simpa using jz2.mono (lo' := w.heap.size) (by omega) (Nat.le_refl _)) (by rw [HE.out.2.2.1]; exact l1) (by rw [HE.out.2.2.2]; exact l2) (((B3.setCell (by simp) _).setCell (by simp) _).setCell (by simp) _)
  · have HC := hide (show njC s p (N : Int) = 4 by unfold njC; rw [if_pos ⟨hpr, by omega, by omega⟩, if_pos hi])
    have HE := hide (nj_err HC.out (by decide))
    have Hhas := hide hhas
    clear hhas hpr hi
    go_enter Try.func39, Try.ntmps39
    go_wp2_with fail
    refine (isPrime_any _ _).mono ?_
    rintro e w1 ⟨rfl, rfl⟩
    rw [Hp.out]
    go_wp2_with fail
    refine (families_any _).mono ?_
    rintro e w2 ⟨rfl, hmap, t2⟩
    obtain ⟨v, ps, hrun, hv⟩ := hmap.look_ok (t := 73) (e := 71) lawS Try.underlying73 (zeroFam _) (show famR .nilFunc = some (.lit (.bool false), []) from rfl) (keyOf_string_mk Try.underlying9 (show s.size ≤ maxLen by unfold maxLen; omega))
    rw [show (.string s.data.toList : Lit) = kS s from rfl, Hhas.out, show (w.alloc (.cells #[.int .i64 0, .slice none 0 0, .slice none 0 0] 26)).heap.size = w.heap.size + 1 by simp] at hrun
    have B2 := bnext hb0 t2
    replace y0 := (t2.frozen (World.block_lt_of_cell? _ _ r0)).trans y0
    replace y1 := (t2.frozen (World.block_lt_of_cell? _ _ r1)).trans y1
    replace y2 := (t2.frozen (World.block_lt_of_cell? _ _ r2)).trans y2
    replace r0 := cell_be t2 r0
    replace r1 := cell_be t2 r1
    replace r2 := cell_be t2 r2
    clear hv hmap t2 hb0
    go_wp2
    refine bodyPost_ret (v := .tuple #[jac 0 none 0 0 none 0 0, .int .i64 4]) (by simp [results, Try.results39, go_sem, r0, r1, r2]) rfl ?_
    exact ResJ.nil HE.out.1 HE.out.2.1 HE.out.2.2 HC.out (((B2.setCell (by simp) _).setCell (by simp) _).setCell (by simp) _)
end Go.Proofs.Ytpoabedlcljibaa
