/- Contracts: the families by their names, their terms, modulo (program). -/
import Derived.Test.YtgaafhcnfeipbaaKp
import Derived.Maps.OwnSet
namespace Go.Proofs.Ytgaafhcnfeipbaa
open Go.RowKit Go.Maps Go.WideMaps
set_option linter.unusedVariables false
set_option linter.unusedSimpArgs false

def nm0 : ByteArray := { data := #[104, 101, 114, 109, 105, 116, 101] }
def nm1 : ByteArray := { data := #[108, 97, 103, 117, 101, 114, 114, 101] }
def nm2 : ByteArray := { data := #[112, 111, 105, 115, 115, 111, 110] }
def nm3 : ByteArray := { data := #[99, 97, 116, 97, 108, 97, 110] }
def nm4 : ByteArray := { data := #[115, 101, 99, 111, 110, 100] }
def nm5 : ByteArray := { data := #[108, 101, 103, 101, 110, 100, 114, 101] }
/-- the numbers of the families: Alpha[k], and Beta[k] as a fraction -/
def faA (i : Nat) (k : Nat) : Int := if i = 1 then 2 * (k : Int) + 1 else if i = 2 then (k : Int) + 1 else if i = 3 then (if k = 0 then 1 else 2) else 0
def faB (i : Nat) (k : Nat) : Int := if k = 0 then (if i = 5 then 2 else 1) else if i = 1 ∨ i = 5 then (k : Int) * k else if i = 3 ∨ i = 4 then 1 else (k : Int)
def faD (i : Nat) (k : Nat) : Int := if k = 0 then 1 else if i = 4 then 4 else if i = 5 then 4 * (k : Int) * k - 1 else 1
/-- the family with a name; 6: none -/
def famI (s : ByteArray) : Nat := if s = nm0 then 0 else if s = nm1 then 1 else if s = nm2 then 2 else if s = nm3 then 3 else if s = nm4 then 4 else if s = nm5 then 5 else 6
def famF (i : Nat) : Nat := if i = 0 then 83 else if i = 1 then 84 else if i = 2 then 85 else if i = 3 then 86 else if i = 4 then 87 else 88
/-- how a family reads as data -/
def famR : Value → Option (DataW Unit × List MemPlace)
  | .func (.func i) ⟨[]⟩ ⟨[]⟩ => some (.lit (.int .i64 i), [])
  | .nilFunc => some (.lit (.bool false), [])
  | _ => none
theorem famR_inv {v : Value} {i : Nat} {ps : List MemPlace} (h : famR v = some (.lit (.int .i64 i), ps)) : v = .func (.func i) #[] #[] := by
  unfold famR at h
  split at h
  · simp at h
    obtain ⟨h, _⟩ := h
    obtain rfl := Int.ofNat_inj.1 h
    rfl
  · simp at h
  · cases h
def kS (s : ByteArray) : Lit := .string s.data.toList
theorem kS_ne {s t : ByteArray} (h : s ≠ t) : kS s ≠ kS t := fun e => h (by
  unfold kS at e
  injection e with e
  have : s.data = t.data := by rw [← Array.toList_inj]; exact e
  cases s; cases t; simp at this; rw [this])
def fd0 : DataW Unit := .map []
def fd1 : DataW Unit := fd0.put (kS nm0) (.lit (.int .i64 (83 : Nat)))
def fd2 : DataW Unit := fd1.put (kS nm1) (.lit (.int .i64 (84 : Nat)))
def fd3 : DataW Unit := fd2.put (kS nm2) (.lit (.int .i64 (85 : Nat)))
def fd4 : DataW Unit := fd3.put (kS nm3) (.lit (.int .i64 (86 : Nat)))
def fd5 : DataW Unit := fd4.put (kS nm4) (.lit (.int .i64 (87 : Nat)))
def fd6 : DataW Unit := fd5.put (kS nm5) (.lit (.int .i64 (88 : Nat)))
theorem lawS : Keyed Try.prog 9 := string_keyed Try.underlying9
theorem zeroFam (w : World) : (zeroValue 59).run Try.prog w = .ok .nilFunc w := by kernel_rfl
theorem put_map (D : DataW Unit) (k : Lit) (d : DataW Unit) (h : IsMap D) : IsMap (D.put k d) := by
  obtain ⟨es, rfl⟩ := h
  exact ⟨_, rfl⟩
theorem fdm0 : IsMap fd0 := ⟨[], rfl⟩
theorem fdm1 : IsMap fd1 := put_map _ _ _ fdm0
theorem fdm2 : IsMap fd2 := put_map _ _ _ fdm1
theorem fdm3 : IsMap fd3 := put_map _ _ _ fdm2
theorem fdm4 : IsMap fd4 := put_map _ _ _ fdm3
theorem fdm5 : IsMap fd5 := put_map _ _ _ fdm4
theorem kS_lit (s : ByteArray) : WideAt.IsKeyLit (kS s) := trivial
theorem nm_ne : nm1 ≠ nm0 ∧ nm2 ≠ nm0 ∧ nm2 ≠ nm1 ∧ nm3 ≠ nm0 ∧ nm3 ≠ nm1 ∧ nm3 ≠ nm2 ∧ nm4 ≠ nm0 ∧ nm4 ≠ nm1 ∧ nm4 ≠ nm2 ∧ nm4 ≠ nm3 ∧ nm5 ≠ nm0 ∧ nm5 ≠ nm1 ∧ nm5 ≠ nm2 ∧ nm5 ≠ nm3 ∧ nm5 ≠ nm4 := by
  refine ⟨?_, ?_, ?_, ?_, ?_, ?_, ?_, ?_, ?_, ?_, ?_, ?_, ?_, ?_, ?_⟩ <;> intro h <;> exact absurd (congrArg ByteArray.data h) (by decide)
theorem famI_nm : famI nm0 = 0 ∧ famI nm1 = 1 ∧ famI nm2 = 2 ∧ famI nm3 = 3 ∧ famI nm4 = 4 ∧ famI nm5 = 5 := by
  obtain ⟨q10, q20, q21, q30, q31, q32, q40, q41, q42, q43, q50, q51, q52, q53, q54⟩ := nm_ne
  refine ⟨?_, ?_, ?_, ?_, ?_, ?_⟩ <;> unfold famI
  · rw [if_pos rfl]
  · rw [if_neg q10, if_pos rfl]
  · rw [if_neg q20, if_neg q21, if_pos rfl]
  · rw [if_neg q30, if_neg q31, if_neg q32, if_pos rfl]
  · rw [if_neg q40, if_neg q41, if_neg q42, if_neg q43, if_pos rfl]
  · rw [if_neg q50, if_neg q51, if_neg q52, if_neg q53, if_neg q54, if_pos rfl]
/-- the six names, or none of them -/
theorem famI_cases (s : ByteArray) : s = nm0 ∨ s = nm1 ∨ s = nm2 ∨ s = nm3 ∨ s = nm4 ∨ s = nm5 ∨ (famI s = 6 ∧ s ≠ nm0 ∧ s ≠ nm1 ∧ s ≠ nm2 ∧ s ≠ nm3 ∧ s ≠ nm4 ∧ s ≠ nm5) := by
  by_cases h0 : s = nm0
  · exact .inl h0
  by_cases h1 : s = nm1
  · exact .inr (.inl h1)
  by_cases h2 : s = nm2
  · exact .inr (.inr (.inl h2))
  by_cases h3 : s = nm3
  · exact .inr (.inr (.inr (.inl h3)))
  by_cases h4 : s = nm4
  · exact .inr (.inr (.inr (.inr (.inl h4))))
  by_cases h5 : s = nm5
  · exact .inr (.inr (.inr (.inr (.inr (.inl h5)))))
  · exact .inr (.inr (.inr (.inr (.inr (.inr ⟨by unfold famI; rw [if_neg h0, if_neg h1, if_neg h2, if_neg h3, if_neg h4, if_neg h5], h0, h1, h2, h3, h4, h5⟩)))))
theorem famD_at (z : DataW Unit) : fd6.atKey (kS nm0) z = .lit (.int .i64 (famF 0 : Nat)) ∧ Maps.has fd6 (kS nm0) = true ∧ fd6.atKey (kS nm1) z = .lit (.int .i64 (famF 1 : Nat)) ∧ Maps.has fd6 (kS nm1) = true ∧ fd6.atKey (kS nm2) z = .lit (.int .i64 (famF 2 : Nat)) ∧ Maps.has fd6 (kS nm2) = true ∧ fd6.atKey (kS nm3) z = .lit (.int .i64 (famF 3 : Nat)) ∧ Maps.has fd6 (kS nm3) = true ∧ fd6.atKey (kS nm4) z = .lit (.int .i64 (famF 4 : Nat)) ∧ Maps.has fd6 (kS nm4) = true ∧ fd6.atKey (kS nm5) z = .lit (.int .i64 (famF 5 : Nat)) ∧ Maps.has fd6 (kS nm5) = true := by
  obtain ⟨q10, q20, q21, q30, q31, q32, q40, q41, q42, q43, q50, q51, q52, q53, q54⟩ := nm_ne
  refine ⟨?_, ?_, ?_, ?_, ?_, ?_, ?_, ?_, ?_, ?_, ?_, ?_⟩
  · rw [show fd6 = fd5.put (kS nm5) (.lit (.int .i64 (88 : Nat))) from rfl, atKey_put_other (kS_ne (Ne.symm q50)), show fd5 = fd4.put (kS nm4) (.lit (.int .i64 (87 : Nat))) from rfl, atKey_put_other (kS_ne (Ne.symm q40)), show fd4 = fd3.put (kS nm3) (.lit (.int .i64 (86 : Nat))) from rfl, atKey_put_other (kS_ne (Ne.symm q30)), show fd3 = fd2.put (kS nm2) (.lit (.int .i64 (85 : Nat))) from rfl, atKey_put_other (kS_ne (Ne.symm q20)), show fd2 = fd1.put (kS nm1) (.lit (.int .i64 (84 : Nat))) from rfl, atKey_put_other (kS_ne (Ne.symm q10)), show fd1 = fd0.put (kS nm0) (.lit (.int .i64 (83 : Nat))) from rfl, atKey_put_same fdm0 (kS_lit _)]; rfl
  · rw [show fd6 = fd5.put (kS nm5) (.lit (.int .i64 (88 : Nat))) from rfl, has_put_other (kS_ne (Ne.symm q50)), show fd5 = fd4.put (kS nm4) (.lit (.int .i64 (87 : Nat))) from rfl, has_put_other (kS_ne (Ne.symm q40)), show fd4 = fd3.put (kS nm3) (.lit (.int .i64 (86 : Nat))) from rfl, has_put_other (kS_ne (Ne.symm q30)), show fd3 = fd2.put (kS nm2) (.lit (.int .i64 (85 : Nat))) from rfl, has_put_other (kS_ne (Ne.symm q20)), show fd2 = fd1.put (kS nm1) (.lit (.int .i64 (84 : Nat))) from rfl, has_put_other (kS_ne (Ne.symm q10)), show fd1 = fd0.put (kS nm0) (.lit (.int .i64 (83 : Nat))) from rfl, has_put_same fdm0 (kS_lit _)]
  · rw [show fd6 = fd5.put (kS nm5) (.lit (.int .i64 (88 : Nat))) from rfl, atKey_put_other (kS_ne (Ne.symm q51)), show fd5 = fd4.put (kS nm4) (.lit (.int .i64 (87 : Nat))) from rfl, atKey_put_other (kS_ne (Ne.symm q41)), show fd4 = fd3.put (kS nm3) (.lit (.int .i64 (86 : Nat))) from rfl, atKey_put_other (kS_ne (Ne.symm q31)), show fd3 = fd2.put (kS nm2) (.lit (.int .i64 (85 : Nat))) from rfl, atKey_put_other (kS_ne (Ne.symm q21)), show fd2 = fd1.put (kS nm1) (.lit (.int .i64 (84 : Nat))) from rfl, atKey_put_same fdm1 (kS_lit _)]; rfl
  · rw [show fd6 = fd5.put (kS nm5) (.lit (.int .i64 (88 : Nat))) from rfl, has_put_other (kS_ne (Ne.symm q51)), show fd5 = fd4.put (kS nm4) (.lit (.int .i64 (87 : Nat))) from rfl, has_put_other (kS_ne (Ne.symm q41)), show fd4 = fd3.put (kS nm3) (.lit (.int .i64 (86 : Nat))) from rfl, has_put_other (kS_ne (Ne.symm q31)), show fd3 = fd2.put (kS nm2) (.lit (.int .i64 (85 : Nat))) from rfl, has_put_other (kS_ne (Ne.symm q21)), show fd2 = fd1.put (kS nm1) (.lit (.int .i64 (84 : Nat))) from rfl, has_put_same fdm1 (kS_lit _)]
  · rw [show fd6 = fd5.put (kS nm5) (.lit (.int .i64 (88 : Nat))) from rfl, atKey_put_other (kS_ne (Ne.symm q52)), show fd5 = fd4.put (kS nm4) (.lit (.int .i64 (87 : Nat))) from rfl, atKey_put_other (kS_ne (Ne.symm q42)), show fd4 = fd3.put (kS nm3) (.lit (.int .i64 (86 : Nat))) from rfl, atKey_put_other (kS_ne (Ne.symm q32)), show fd3 = fd2.put (kS nm2) (.lit (.int .i64 (85 : Nat))) from rfl, atKey_put_same fdm2 (kS_lit _)]; rfl
  · rw [show fd6 = fd5.put (kS nm5) (.lit (.int .i64 (88 : Nat))) from rfl, has_put_other (kS_ne (Ne.symm q52)), show fd5 = fd4.put (kS nm4) (.lit (.int .i64 (87 : Nat))) from rfl, has_put_other (kS_ne (Ne.symm q42)), show fd4 = fd3.put (kS nm3) (.lit (.int .i64 (86 : Nat))) from rfl, has_put_other (kS_ne (Ne.symm q32)), show fd3 = fd2.put (kS nm2) (.lit (.int .i64 (85 : Nat))) from rfl, has_put_same fdm2 (kS_lit _)]
  · rw [show fd6 = fd5.put (kS nm5) (.lit (.int .i64 (88 : Nat))) from rfl, atKey_put_other (kS_ne (Ne.symm q53)), show fd5 = fd4.put (kS nm4) (.lit (.int .i64 (87 : Nat))) from rfl, atKey_put_other (kS_ne (Ne.symm q43)), show fd4 = fd3.put (kS nm3) (.lit (.int .i64 (86 : Nat))) from rfl, atKey_put_same fdm3 (kS_lit _)]; rfl
  · rw [show fd6 = fd5.put (kS nm5) (.lit (.int .i64 (88 : Nat))) from rfl, has_put_other (kS_ne (Ne.symm q53)), show fd5 = fd4.put (kS nm4) (.lit (.int .i64 (87 : Nat))) from rfl, has_put_other (kS_ne (Ne.symm q43)), show fd4 = fd3.put (kS nm3) (.lit (.int .i64 (86 : Nat))) from rfl, has_put_same fdm3 (kS_lit _)]
  · rw [show fd6 = fd5.put (kS nm5) (.lit (.int .i64 (88 : Nat))) from rfl, atKey_put_other (kS_ne (Ne.symm q54)), show fd5 = fd4.put (kS nm4) (.lit (.int .i64 (87 : Nat))) from rfl, atKey_put_same fdm4 (kS_lit _)]; rfl
  · rw [show fd6 = fd5.put (kS nm5) (.lit (.int .i64 (88 : Nat))) from rfl, has_put_other (kS_ne (Ne.symm q54)), show fd5 = fd4.put (kS nm4) (.lit (.int .i64 (87 : Nat))) from rfl, has_put_same fdm4 (kS_lit _)]
  · rw [show fd6 = fd5.put (kS nm5) (.lit (.int .i64 (88 : Nat))) from rfl, atKey_put_same fdm5 (kS_lit _)]; rfl
  · rw [show fd6 = fd5.put (kS nm5) (.lit (.int .i64 (88 : Nat))) from rfl, has_put_same fdm5 (kS_lit _)]
theorem famD_none (s : ByteArray) (h0 : s ≠ nm0) (h1 : s ≠ nm1) (h2 : s ≠ nm2) (h3 : s ≠ nm3) (h4 : s ≠ nm4) (h5 : s ≠ nm5) : Maps.has fd6 (kS s) = false := by
  rw [show fd6 = fd5.put (kS nm5) (.lit (.int .i64 (88 : Nat))) from rfl, has_put_other (kS_ne h5), show fd5 = fd4.put (kS nm4) (.lit (.int .i64 (87 : Nat))) from rfl, has_put_other (kS_ne h4), show fd4 = fd3.put (kS nm3) (.lit (.int .i64 (86 : Nat))) from rfl, has_put_other (kS_ne h3), show fd3 = fd2.put (kS nm2) (.lit (.int .i64 (85 : Nat))) from rfl, has_put_other (kS_ne h2), show fd2 = fd1.put (kS nm1) (.lit (.int .i64 (84 : Nat))) from rfl, has_put_other (kS_ne h1), show fd1 = fd0.put (kS nm0) (.lit (.int .i64 (83 : Nat))) from rfl, has_put_other (kS_ne h0)]
  rfl
set_option maxRecDepth 100000 in
set_option maxHeartbeats 1600000 in
theorem families_any (w : World) :
    Calls Try.prog 49 #[] w fun e w' => e = .returned (.map (some w.heap.size)) ∧ w'.ownsMap Try.prog 9 famR w.heap.size 6 fd6 ∧ Below w.heap.size w w' := by
  have hmm := @run_makeMap Try.prog
  have m0 := World.ownsMap_made w Try.prog 9 famR
  obtain ⟨w1, r1, m1, g1⟩ := m0.update (t := 61) (e := 59) lawS Try.underlying61 (by unfold maxLen; omega) (key := .string nm0) (val := .func (.func 83) #[] #[]) (keyOf_string_mk Try.underlying9 (by decide)) (show famR (.func (.func 83) #[] #[]) = some (.lit (.int .i64 (83 : Nat)), []) from rfl)
  obtain ⟨w2, r2, m2, g2⟩ := m1.update (t := 61) (e := 59) lawS Try.underlying61 (by unfold maxLen; omega) (key := .string nm1) (val := .func (.func 84) #[] #[]) (keyOf_string_mk Try.underlying9 (by decide)) (show famR (.func (.func 84) #[] #[]) = some (.lit (.int .i64 (84 : Nat)), []) from rfl)
  obtain ⟨w3, r3, m3, g3⟩ := m2.update (t := 61) (e := 59) lawS Try.underlying61 (by unfold maxLen; omega) (key := .string nm2) (val := .func (.func 85) #[] #[]) (keyOf_string_mk Try.underlying9 (by decide)) (show famR (.func (.func 85) #[] #[]) = some (.lit (.int .i64 (85 : Nat)), []) from rfl)
  obtain ⟨w4, r4, m4, g4⟩ := m3.update (t := 61) (e := 59) lawS Try.underlying61 (by unfold maxLen; omega) (key := .string nm3) (val := .func (.func 86) #[] #[]) (keyOf_string_mk Try.underlying9 (by decide)) (show famR (.func (.func 86) #[] #[]) = some (.lit (.int .i64 (86 : Nat)), []) from rfl)
  obtain ⟨w5, r5, m5, g5⟩ := m4.update (t := 61) (e := 59) lawS Try.underlying61 (by unfold maxLen; omega) (key := .string nm4) (val := .func (.func 87) #[] #[]) (keyOf_string_mk Try.underlying9 (by decide)) (show famR (.func (.func 87) #[] #[]) = some (.lit (.int .i64 (87 : Nat)), []) from rfl)
  obtain ⟨w6, r6, m6, g6⟩ := m5.update (t := 61) (e := 59) lawS Try.underlying61 (by unfold maxLen; omega) (key := .string nm5) (val := .func (.func 88) #[] #[]) (keyOf_string_mk Try.underlying9 (by decide)) (show famR (.func (.func 88) #[] #[]) = some (.lit (.int .i64 (88 : Nat)), []) from rfl)
  have hB : Below w.heap.size w w6 := (((((((Below.refl w.heap.size w).alloc (Nat.le_refl _) _).grown g1 (by simp) (fun g e => by cases e; exact Nat.le_refl _)).grown g2 (by have := g1.size; simp at this; omega) (fun g e => by cases e; exact Nat.le_refl _)).grown g3 (by have := g1.size; have := g2.size; simp at *; omega) (fun g e => by cases e; exact Nat.le_refl _)).grown g4 (by have := g1.size; have := g2.size; have := g3.size; simp at *; omega) (fun g e => by cases e; exact Nat.le_refl _)).grown g5 (by have := g1.size; have := g2.size; have := g3.size; have := g4.size; simp at *; omega) (fun g e => by cases e; exact Nat.le_refl _)).grown g6 (by have := g1.size; have := g2.size; have := g3.size; have := g4.size; have := g5.size; simp at *; omega) (fun g e => by cases e; exact Nat.le_refl _)
  have hm := hide m6
  have hB' := hide hB
  clear m0 m1 m2 m3 m4 m5 m6 g1 g2 g3 g4 g5 g6 hB
  unfold nm0 at r1
  unfold nm1 at r2
  unfold nm2 at r3
  unfold nm3 at r4
  unfold nm4 at r5
  unfold nm5 at r6
  go_enter Try.func49, Try.ntmps49
  go_wp2
  go_ret
  exact ⟨rfl, hm.out, hB'.out⟩
/-- A family: its terms at k up to 12. -/
def FamC (f i : Nat) : Prop := ∀ (k : Nat) (w : World), k ≤ 12 → Calls Try.prog f #[.int .i64 k] w fun e w' => e = .returned (.agg #[.int .i64 (faA i k), .int .i64 (faB i k), .int .i64 (faD i k)]) ∧ Below w.heap.size w w'
theorem mulb2k {k : Nat} (h : k ≤ 12) : (k : Int) ≤ (k : Int) * (k : Int) ∧ (k : Int) * (k : Int) ≤ 144 := by
  have h1 : k * k ≤ 12 * 12 := Nat.mul_le_mul h h
  have h2 : k ≤ k * k := by cases k with | zero => omega | succ k => exact Nat.le_mul_of_pos_left _ (by omega)
  have e : (k : Int) * (k : Int) = ((k * k : Nat) : Int) := by rw [Int.natCast_mul]
  rw [e]
  omega
set_option maxHeartbeats 800000 in
theorem fam0 : FamC 83 0 := by
  intro k w hk
  have hb := bl1 w (.cells #[.int .i64 0, .int .i64 0, .int .i64 0] 89)
  by_cases h0 : k = 0
  · subst h0
    go_enter Try.func83, Try.ntmps83
    go_wp2
    refine bodyPost_ret (v := .agg #[.int .i64 0, .int .i64 1, .int .i64 1]) (by simp [results, Try.results83, go_sem]) rfl ?_
    exact ⟨by simp [faA, faB, faD], bl1 w _⟩
  · have k1 : (1 : Int) ≤ (k : Int) := by omega
    have k0 : ¬ (k : Int) = 0 := by omega
    go_enter Try.func83, Try.ntmps83
    go_wp2
    refine bodyPost_ret (v := .agg #[.int .i64 0, .int .i64 (k : Int), .int .i64 1]) (by simp [results, Try.results83, go_sem]) rfl ?_
    exact ⟨by simp [faA, faB, faD, h0], bl1 w _⟩
set_option maxHeartbeats 800000 in
theorem fam1 : FamC 84 1 := by
  intro k w hk
  have hb := bl1 w (.cells #[.int .i64 0, .int .i64 0, .int .i64 0] 89)
  by_cases h0 : k = 0
  · subst h0
    go_enter Try.func84, Try.ntmps84
    go_wp2
    refine bodyPost_ret (v := .agg #[.int .i64 1, .int .i64 1, .int .i64 1]) (by simp [results, Try.results84, go_sem]) rfl ?_
    exact ⟨by simp [faA, faB, faD], bl1 w _⟩
  · have k1 : (1 : Int) ≤ (k : Int) := by omega
    have k0 : ¬ (k : Int) = 0 := by omega
    obtain ⟨q1, q2⟩ := mulb2k (k := k) hk
    have v1 : IntKind.i64.wrap ((k : Int) * (k : Int)) = (k : Int) * (k : Int) := IntWalk.i64_in _ (by omega)
    have v2 : IntKind.i64.wrap (2 * (k : Int)) = 2 * (k : Int) := IntWalk.i64_in _ (by omega)
    have v3 : IntKind.i64.wrap (2 * (k : Int) + 1) = 2 * (k : Int) + 1 := IntWalk.i64_in _ (by omega)
    have q3 : (1 : Int) ≤ (k : Int) * (k : Int) := by omega
    go_enter Try.func84, Try.ntmps84
    go_wp2
    refine bodyPost_ret (v := .agg #[.int .i64 (2 * (k : Int) + 1), .int .i64 ((k : Int) * (k : Int)), .int .i64 1]) (by simp [results, Try.results84, go_sem]) rfl ?_
    exact ⟨by simp [faA, faB, faD, h0], bl1 w _⟩
set_option maxHeartbeats 800000 in
theorem fam2 : FamC 85 2 := by
  intro k w hk
  have hb := bl1 w (.cells #[.int .i64 0, .int .i64 0, .int .i64 0] 89)
  by_cases h0 : k = 0
  · subst h0
    go_enter Try.func85, Try.ntmps85
    go_wp2
    refine bodyPost_ret (v := .agg #[.int .i64 1, .int .i64 1, .int .i64 1]) (by simp [results, Try.results85, go_sem]) rfl ?_
    exact ⟨by simp [faA, faB, faD], bl1 w _⟩
  · have k1 : (1 : Int) ≤ (k : Int) := by omega
    have k0 : ¬ (k : Int) = 0 := by omega
    have v2 : IntKind.i64.wrap ((k : Int) + 1) = (k : Int) + 1 := IntWalk.i64_in _ (by omega)
    go_enter Try.func85, Try.ntmps85
    go_wp2
    refine bodyPost_ret (v := .agg #[.int .i64 ((k : Int) + 1), .int .i64 (k : Int), .int .i64 1]) (by simp [results, Try.results85, go_sem]) rfl ?_
    exact ⟨by simp [faA, faB, faD, h0], bl1 w _⟩
set_option maxHeartbeats 800000 in
theorem fam3 : FamC 86 3 := by
  intro k w hk
  have hb := bl1 w (.cells #[.int .i64 0, .int .i64 0, .int .i64 0] 89)
  by_cases h0 : k = 0
  · subst h0
    go_enter Try.func86, Try.ntmps86
    go_wp2
    refine bodyPost_ret (v := .agg #[.int .i64 1, .int .i64 1, .int .i64 1]) (by simp [results, Try.results86, go_sem]) rfl ?_
    exact ⟨by simp [faA, faB, faD], bl1 w _⟩
  by_cases h1 : k = 1
  · subst h1
    go_enter Try.func86, Try.ntmps86
    go_wp2
    refine bodyPost_ret (v := .agg #[.int .i64 2, .int .i64 1, .int .i64 1]) (by simp [results, Try.results86, go_sem]) rfl ?_
    exact ⟨by simp [faA, faB, faD], bl1 w _⟩
  · have k1 : (1 : Int) ≤ (k : Int) := by omega
    have k2 : ¬ (k : Int) + 1 ≤ 2 := by omega
    have k0 : ¬ (k : Int) = 0 := by omega
    have v2 : IntKind.i64.wrap ((k : Int) + 1) = (k : Int) + 1 := IntWalk.i64_in _ (by omega)
    have q3 : (2 : Int) ≤ (k : Int) + 1 := by omega
    go_enter Try.func86, Try.ntmps86
    go_wp2
    refine bodyPost_ret (v := .agg #[.int .i64 2, .int .i64 1, .int .i64 1]) (by simp [results, Try.results86, go_sem]) rfl ?_
    exact ⟨by simp [faA, faB, faD, h0], bl1 w _⟩
set_option maxHeartbeats 800000 in
theorem fam4 : FamC 87 4 := by
  intro k w hk
  have hb := bl1 w (.cells #[.int .i64 0, .int .i64 0, .int .i64 0] 89)
  by_cases h0 : k = 0
  · subst h0
    go_enter Try.func87, Try.ntmps87
    go_wp2
    refine bodyPost_ret (v := .agg #[.int .i64 0, .int .i64 1, .int .i64 1]) (by simp [results, Try.results87, go_sem]) rfl ?_
    exact ⟨by simp [faA, faB, faD], bl1 w _⟩
  · have k1 : (1 : Int) ≤ (k : Int) := by omega
    have k0 : ¬ (k : Int) = 0 := by omega
    go_enter Try.func87, Try.ntmps87
    go_wp2
    refine bodyPost_ret (v := .agg #[.int .i64 0, .int .i64 1, .int .i64 4]) (by simp [results, Try.results87, go_sem]) rfl ?_
    exact ⟨by simp [faA, faB, faD, h0], bl1 w _⟩
set_option maxHeartbeats 800000 in
theorem fam5 : FamC 88 5 := by
  intro k w hk
  have hb := bl1 w (.cells #[.int .i64 0, .int .i64 0, .int .i64 0] 89)
  by_cases h0 : k = 0
  · subst h0
    go_enter Try.func88, Try.ntmps88
    go_wp2
    refine bodyPost_ret (v := .agg #[.int .i64 0, .int .i64 2, .int .i64 1]) (by simp [results, Try.results88, go_sem]) rfl ?_
    exact ⟨by simp [faA, faB, faD], bl1 w _⟩
  · have k1 : (1 : Int) ≤ (k : Int) := by omega
    have k0 : ¬ (k : Int) = 0 := by omega
    obtain ⟨q1, q2⟩ := mulb2k (k := k) hk
    have v1 : IntKind.i64.wrap ((k : Int) * (k : Int)) = (k : Int) * (k : Int) := IntWalk.i64_in _ (by omega)
    have v2 : IntKind.i64.wrap (4 * (k : Int)) = 4 * (k : Int) := IntWalk.i64_in _ (by omega)
    have e4 : 4 * (k : Int) * (k : Int) = 4 * ((k : Int) * (k : Int)) := Int.mul_assoc _ _ _
    have v3 : IntKind.i64.wrap (4 * (k : Int) * (k : Int)) = 4 * (k : Int) * (k : Int) := IntWalk.i64_in _ (by omega)
    have v4 : IntKind.i64.wrap (4 * (k : Int) * (k : Int) - 1) = 4 * (k : Int) * (k : Int) - 1 := IntWalk.i64_in _ (by omega)
    clear e4
    go_enter Try.func88, Try.ntmps88
    go_wp2
    refine bodyPost_ret (v := .agg #[.int .i64 0, .int .i64 ((k : Int) * (k : Int)), .int .i64 (4 * (k : Int) * (k : Int) - 1)]) (by simp [results, Try.results88, go_sem]) rfl ?_
    exact ⟨by simp [faA, faB, faD, h0], bl1 w _⟩
/-- a call of a function value enters the function -/
def FamE (f : Nat) : Prop := ∀ (args : Array Value) (w : World), (callFunc f args).run Try.prog w = .ok (.enter f args) w
theorem fe0 : FamE 83 := fun _ _ => by kernel_rfl
theorem fe1 : FamE 84 := fun _ _ => by kernel_rfl
theorem fe2 : FamE 85 := fun _ _ => by kernel_rfl
theorem fe3 : FamE 86 := fun _ _ => by kernel_rfl
theorem fe4 : FamE 87 := fun _ _ => by kernel_rfl
theorem fe5 : FamE 88 := fun _ _ => by kernel_rfl
theorem fe_all (i : Nat) (hi : i < 6) : FamE (famF i) := by
  unfold famF
  match i, hi with
  | 0, _ => exact fe0
  | 1, _ => exact fe1
  | 2, _ => exact fe2
  | 3, _ => exact fe3
  | 4, _ => exact fe4
  | 5, _ => exact fe5
theorem fam_all (i : Nat) (hi : i < 6) : FamC (famF i) i := by
  unfold famF
  match i, hi with
  | 0, _ => exact fam0
  | 1, _ => exact fam1
  | 2, _ => exact fam2
  | 3, _ => exact fam3
  | 4, _ => exact fam4
  | 5, _ => exact fam5
set_option maxHeartbeats 800000 in
theorem modulo_any (p x y z : Int) (w : World) (hp : 2 ≤ p) (hx : 0 ≤ x) (hy : 0 ≤ y) (hz : 0 ≤ z) (hx2 : x ≤ 1000) (hy2 : y ≤ 1000) (hz2 : z ≤ 1000) :
    Calls Try.prog 89 #[.agg #[.int .i64 x, .int .i64 y, .int .i64 z], .int .i64 p] w fun e w' => e = .returned (.tuple #[.int .i64 (x % p), .int .i64 (y % p), .int .i64 (z % p)]) ∧ Below w.heap.size w w' := by
  have hb := bl1 w (.cells #[.int .i64 x, .int .i64 y, .int .i64 z] 89)
  have t1 : x.tmod p = x % p := Int.tmod_eq_emod_of_nonneg hx
  have t2 : y.tmod p = y % p := Int.tmod_eq_emod_of_nonneg hy
  have t3 : z.tmod p = z % p := Int.tmod_eq_emod_of_nonneg hz
  have hp0 : ¬ p = 0 := by omega
  go_enter Try.func89, Try.ntmps89
  go_wp2
  go_quiet (fail)
  go_wp2
  refine bodyPost_ret (v := .tuple #[.int .i64 (x % p), .int .i64 (y % p), .int .i64 (z % p)]) (by simp [results, Try.results89, go_sem]) rfl ?_
  exact ⟨rfl, below_drewN hb _⟩
end Go.Proofs.Ytgaafhcnfeipbaa
