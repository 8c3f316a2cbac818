/- Merged texts. -/
import Derived.Test.YtdjifjlgllohmaaDoorYDS29
import Derived.Defers
import Derived.Recover
import Derived.Test.YtdjifjlgllohmaaDoorYDS18
/- Contracts: behindDoor at Jacobi data, lists and numbers: what the work returns, or 5 where it panics. -/
namespace Go.Proofs.YtdjifjlgllohmaaDoor
open Go.RowKit
set_option linter.unusedVariables false
set_option linter.unusedSimpArgs false

def EnterF (f : Nat) : Prop := ∀ (args : Array Value) (w : World), (callFunc f args).run Tryd.prog w = .ok (.enter f args) w
theorem assertNone (w : World) : (Instr.typeAssert .nilIface 20 87 true).run Tryd.prog w = .ok (.tuple #[.nilIface, .bool false]) w := by kernel_rfl
theorem assertErr (ae : Addr) (w : World) : (Instr.typeAssert (.iface 117 (.pointer (some ae))) 20 87 true).run Tryd.prog w = .ok (.tuple #[.iface 117 (.pointer (some ae)), .bool true]) w := by kernel_rfl

/-- The deferred closure where nothing panics. -/
theorem idleJ (q : Addr) (w : World) :
    CallsD Tryd.prog 88 #[.pointer (some q)] .returning w fun e u' w' => e = .returned (.tuple #[]) ∧ u' = .returning ∧ w' = w := by
  have hta := assertNone
  refine callsD_of_wpS Tryd.func88 rfl fun c₀ cs hu => ?_
  apply wpS_seq
  apply wpS_region
  simp [wpOpsS, go_sem, recoverD, hu, hta, Tryd.ntmps88, Exit.thenS, Array.replicate_succ, Array.replicate_zero]
  apply wpS_seq
  apply wpS_region
  simp [wpOpsS, go_sem, Exit.thenS]
  refine wpS_cond (t := false) (by simp [Act.eval]) ?_
  refine wpS_of_wp (wp_skip ?_)
  cases c₀
  simp_all [bodyPostS, results, Tryd.results88, Exit.thenS]
/-- The deferred closure where the package's error is caught. -/
theorem catchJ (b : Nat) (ae : Addr) (w : World) (v : Value) (hc : w.cell? ⟨b, 0, none⟩ = some v) (hf : w.frozen? ⟨b, 0, none⟩ = false) :
    CallsD Tryd.prog 88 #[.pointer (some ⟨b, 0, none⟩)] (.panicking (chE ae)) w fun e u' w' => e = .returned (.tuple #[]) ∧ settle u' = .returning ∧ w' = w.setCell ⟨b, 0, none⟩ (.int .i64 5) := by
  have hta := assertErr ae
  refine callsD_of_wpS Tryd.func88 rfl fun c₀ cs hu => ?_
  have hu' : c₀.mode = .panicking [{ v := .iface 117 (.pointer (some ae)), recovered := false }] := hu
  apply wpS_seq
  apply wpS_region
  simp [wpOpsS, go_sem, recoverD, hu', hta, Tryd.ntmps88, Exit.thenS, Array.replicate_succ, Array.replicate_zero]
  apply wpS_seq
  apply wpS_region
  simp [wpOpsS, go_sem, Exit.thenS]
  refine wpS_cond (t := true) (by simp [Act.eval]) ?_
  simp only [if_true]
  apply wpS_region
  simp [wpOpsS, go_sem, Exit.thenS, hc, hf]
  cases c₀
  simp_all [bodyPostS, results, Tryd.results88, Exit.thenS, settle]

set_option maxRecDepth 100000 in
set_option maxHeartbeats 3200000 in
theorem doorJ (f : Nat) (caps : Array Value) (ae : Addr) (w : World) (Bad : Prop) (R : Value → World → Prop) (hE : EnterF f)
    (hR : ∀ v W W', R v W → Agr (fun b => w.heap.size + 2 ≤ b) W W' → R v W')
    (hw : ∀ W, Below w.heap.size w W → w.heap.size + 2 ≤ W.heap.size → Calls Tryd.prog f caps W fun e w' => Below W.heap.size W w' ∧ ((∃ q a n c b m d, e = .returned (jac q a n c b m d) ∧ R (jac q a n c b m d) w') ∨ (e = .panicked (chE ae) ∧ Bad))) :
    Calls Tryd.prog 47 #[.func (.func f) #[] caps] w fun e w' => Below w.heap.size w w' ∧ ((∃ q a n c b m d, e = .returned (.tuple #[jac q a n c b m d, .int .i64 0]) ∧ R (jac q a n c b m d) w') ∨ (e = .returned (.tuple #[jac 0 none 0 0 none 0 0, .int .i64 5]) ∧ Bad)) := by
  have hmf : ∀ (fn : Fn) (first cap : Array Value) (w : World), (Instr.makeFunc fn first cap).run Tryd.prog w = .ok (.func fn first cap) w := fun _ _ _ _ => rfl
  have hent : ∀ (args : Array Value) (w : World), (callFunc f args).run Tryd.prog w = .ok (.enter f args) w := hE
  go_enter_defers Tryd.func47, Tryd.ntmps47
  go_wp2_with fail
  refine (hw ((w.alloc (.cells #[.int .i64 0, .slice none 0 0, .slice none 0 0] 27)).alloc (.cells #[.int .i64 0] 2)) (by first | exact bl2 w _ _ | exact bl1 w _) (by simp)).mono ?_
  rintro e w1 ⟨hb1, (⟨q, a, n, c, b, m, d, rfl, hr⟩ | ⟨rfl, hbad⟩)⟩
  · have hB1 := (by first | exact bnext (bl2 w _ _) hb1 | exact bnext (bl1 w _) hb1 : Below w.heap.size w w1)
    have zz := hb1.size
    have c0 : w1.cell? ⟨w.heap.size, 0, none⟩ = some (.int .i64 0) := cell_be hb1 (by simp [go_sem])
    have f0 : w1.frozen? ⟨w.heap.size, 0, none⟩ = false := (hb1.frozen (by simp <;> omega)).trans (by simp [go_sem])
    have c1 : w1.cell? ⟨w.heap.size, 1, none⟩ = some (.slice none 0 0) := cell_be hb1 (by simp [go_sem])
    have f1 : w1.frozen? ⟨w.heap.size, 1, none⟩ = false := (hb1.frozen (by simp <;> omega)).trans (by simp [go_sem])
    have c2 : w1.cell? ⟨w.heap.size, 2, none⟩ = some (.slice none 0 0) := cell_be hb1 (by simp [go_sem])
    have f2 : w1.frozen? ⟨w.heap.size, 2, none⟩ = false := (hb1.frozen (by simp <;> omega)).trans (by simp [go_sem])
    have c3 : w1.cell? ⟨w.heap.size + 1, 0, none⟩ = some (.int .i64 0) := cell_be hb1 (by simp [go_sem])
    have f3 : w1.frozen? ⟨w.heap.size + 1, 0, none⟩ = false := (hb1.frozen (by simp <;> omega)).trans (by simp [go_sem])
    simp at zz
    clear hb1
    go_wp2
    refine leaves_cons (f := 88) (args := #[.pointer (some ⟨w.heap.size + 1, 0, none⟩)]) (by simp) (by simp [go_sem]) ?_
    refine (idleJ _ _).mono ?_
    rintro e u' w'' ⟨rfl, rfl, rfl⟩
    obtain ⟨u1, hu1⟩ : ∃ u, ((((w1.setCell ⟨w.heap.size, 0, none⟩ (.int .i64 q)).setCell ⟨w.heap.size, 1, none⟩ (.slice a n c)).setCell ⟨w.heap.size, 2, none⟩ (.slice b m d)).setCell ⟨w.heap.size + 1, 0, none⟩ (.int .i64 0)) = u := ⟨_, rfl⟩
    rw [hu1]
    have k0 : u1.cell? ⟨w.heap.size, 0, none⟩ = some (.int .i64 q) := by rw [← hu1]; exact (cell_setO (cell_setO (cell_setO (World.cell?_setCell_same _ _ _ c0) (by simp) _) (by simp) _) (by simp) _)
    have k1 : u1.cell? ⟨w.heap.size, 1, none⟩ = some (.slice a n c) := by rw [← hu1]; exact (cell_setO (cell_setO (World.cell?_setCell_same _ _ _ (cell_setO (c1) (by simp) _)) (by simp) _) (by simp) _)
    have k2 : u1.cell? ⟨w.heap.size, 2, none⟩ = some (.slice b m d) := by rw [← hu1]; exact (cell_setO (World.cell?_setCell_same _ _ _ (cell_setO (cell_setO (c2) (by simp) _) (by simp) _)) (by simp) _)
    have k3 : u1.cell? ⟨w.heap.size + 1, 0, none⟩ = some (.int .i64 0) := by rw [← hu1]; exact (World.cell?_setCell_same _ _ _ (cell_setO (cell_setO (cell_setO (c3) (by simp) _) (by simp) _) (by simp) _))
    have gA : Agr (fun b => w.heap.size + 2 ≤ b) w1 u1 := by rw [← hu1]; exact ((((Agr.setCell _ _ (fun h => absurd (show w.heap.size + 2 ≤ w.heap.size from h) (by omega))).trans (Agr.setCell _ _ (fun h => absurd (show w.heap.size + 2 ≤ w.heap.size from h) (by omega)))).trans (Agr.setCell _ _ (fun h => absurd (show w.heap.size + 2 ≤ w.heap.size from h) (by omega)))).trans (Agr.setCell _ _ (fun h => absurd (show w.heap.size + 2 ≤ w.heap.size + 1 from h) (by omega))))
    have hB2 : Below w.heap.size w u1 := by rw [← hu1]; exact ((((hB1.setCell (by simp) _).setCell (by simp) _).setCell (by simp) _).setCell (by simp) _)
    exact ⟨.tuple #[jac q a n c b m d, .int .i64 0], by simp [settle, results, Tryd.results47, go_sem, k0, k1, k2, k3], hB2, .inl ⟨q, a, n, c, b, m, d, rfl, hR _ _ _ hr gA⟩⟩
  · have hB1 := (by first | exact bnext (bl2 w _ _) hb1 | exact bnext (bl1 w _) hb1 : Below w.heap.size w w1)
    have zz := hb1.size
    have c0 : w1.cell? ⟨w.heap.size, 0, none⟩ = some (.int .i64 0) := cell_be hb1 (by simp [go_sem])
    have f0 : w1.frozen? ⟨w.heap.size, 0, none⟩ = false := (hb1.frozen (by simp <;> omega)).trans (by simp [go_sem])
    have c1 : w1.cell? ⟨w.heap.size, 1, none⟩ = some (.slice none 0 0) := cell_be hb1 (by simp [go_sem])
    have f1 : w1.frozen? ⟨w.heap.size, 1, none⟩ = false := (hb1.frozen (by simp <;> omega)).trans (by simp [go_sem])
    have c2 : w1.cell? ⟨w.heap.size, 2, none⟩ = some (.slice none 0 0) := cell_be hb1 (by simp [go_sem])
    have f2 : w1.frozen? ⟨w.heap.size, 2, none⟩ = false := (hb1.frozen (by simp <;> omega)).trans (by simp [go_sem])
    have c3 : w1.cell? ⟨w.heap.size + 1, 0, none⟩ = some (.int .i64 0) := cell_be hb1 (by simp [go_sem])
    have f3 : w1.frozen? ⟨w.heap.size + 1, 0, none⟩ = false := (hb1.frozen (by simp <;> omega)).trans (by simp [go_sem])
    simp at zz
    clear hb1
    go_wp2
    refine leaves_cons (f := 88) (args := #[.pointer (some ⟨w.heap.size + 1, 0, none⟩)]) (by simp) (by simp [go_sem]) ?_
    refine (catchJ (w.heap.size + 1) ae _ _ c3 f3).mono ?_
    rintro e u' w'' ⟨rfl, hu, rfl⟩
    dsimp only
    rw [hu]
    obtain ⟨u1, hu1⟩ : ∃ u, w1.setCell ⟨w.heap.size + 1, 0, none⟩ (.int .i64 5) = u := ⟨_, rfl⟩
    rw [hu1]
    have k0 : u1.cell? ⟨w.heap.size, 0, none⟩ = some (.int .i64 0) := by rw [← hu1]; exact cell_setO c0 (by simp) _
    have k1 : u1.cell? ⟨w.heap.size, 1, none⟩ = some (.slice none 0 0) := by rw [← hu1]; exact cell_setO c1 (by simp) _
    have k2 : u1.cell? ⟨w.heap.size, 2, none⟩ = some (.slice none 0 0) := by rw [← hu1]; exact cell_setO c2 (by simp) _
    have k3 : u1.cell? ⟨w.heap.size + 1, 0, none⟩ = some (.int .i64 5) := by rw [← hu1]; exact World.cell?_setCell_same _ _ _ c3
    have hB2 : Below w.heap.size w u1 := by rw [← hu1]; exact hB1.setCell (by simp) _
    exact ⟨.tuple #[jac 0 none 0 0 none 0 0, .int .i64 5], by simp [results, Tryd.results47, go_sem, k0, k1, k2, k3], hB2, .inr ⟨rfl, hbad⟩⟩
/-- The deferred closure where nothing panics. -/
theorem idleS (q : Addr) (w : World) :
    CallsD Tryd.prog 89 #[.pointer (some q)] .returning w fun e u' w' => e = .returned (.tuple #[]) ∧ u' = .returning ∧ w' = w := by
  have hta := assertNone
  refine callsD_of_wpS Tryd.func89 rfl fun c₀ cs hu => ?_
  apply wpS_seq
  apply wpS_region
  simp [wpOpsS, go_sem, recoverD, hu, hta, Tryd.ntmps89, Exit.thenS, Array.replicate_succ, Array.replicate_zero]
  apply wpS_seq
  apply wpS_region
  simp [wpOpsS, go_sem, Exit.thenS]
  refine wpS_cond (t := false) (by simp [Act.eval]) ?_
  refine wpS_of_wp (wp_skip ?_)
  cases c₀
  simp_all [bodyPostS, results, Tryd.results89, Exit.thenS]
/-- The deferred closure where the package's error is caught. -/
theorem catchS (b : Nat) (ae : Addr) (w : World) (v : Value) (hc : w.cell? ⟨b, 0, none⟩ = some v) (hf : w.frozen? ⟨b, 0, none⟩ = false) :
    CallsD Tryd.prog 89 #[.pointer (some ⟨b, 0, none⟩)] (.panicking (chE ae)) w fun e u' w' => e = .returned (.tuple #[]) ∧ settle u' = .returning ∧ w' = w.setCell ⟨b, 0, none⟩ (.int .i64 5) := by
  have hta := assertErr ae
  refine callsD_of_wpS Tryd.func89 rfl fun c₀ cs hu => ?_
  have hu' : c₀.mode = .panicking [{ v := .iface 117 (.pointer (some ae)), recovered := false }] := hu
  apply wpS_seq
  apply wpS_region
  simp [wpOpsS, go_sem, recoverD, hu', hta, Tryd.ntmps89, Exit.thenS, Array.replicate_succ, Array.replicate_zero]
  apply wpS_seq
  apply wpS_region
  simp [wpOpsS, go_sem, Exit.thenS]
  refine wpS_cond (t := true) (by simp [Act.eval]) ?_
  simp only [if_true]
  apply wpS_region
  simp [wpOpsS, go_sem, Exit.thenS, hc, hf]
  cases c₀
  simp_all [bodyPostS, results, Tryd.results89, Exit.thenS, settle]

set_option maxRecDepth 100000 in
set_option maxHeartbeats 3200000 in
theorem doorS (f : Nat) (caps : Array Value) (ae : Addr) (w : World) (Bad : Prop) (R : Value → World → Prop) (hE : EnterF f)
    (hR : ∀ v W W', R v W → Agr (fun b => w.heap.size + 1 ≤ b) W W' → R v W')
    (hw : ∀ W, Below w.heap.size w W → w.heap.size + 1 ≤ W.heap.size → Calls Tryd.prog f caps W fun e w' => Below W.heap.size W w' ∧ ((∃ a n c, e = .returned (.slice a n c) ∧ R (.slice a n c) w') ∨ (e = .panicked (chE ae) ∧ Bad))) :
    Calls Tryd.prog 50 #[.func (.func f) #[] caps] w fun e w' => Below w.heap.size w w' ∧ ((∃ a n c, e = .returned (.tuple #[.slice a n c, .int .i64 0]) ∧ R (.slice a n c) w') ∨ (e = .returned (.tuple #[.slice none 0 0, .int .i64 5]) ∧ Bad)) := by
  have hmf : ∀ (fn : Fn) (first cap : Array Value) (w : World), (Instr.makeFunc fn first cap).run Tryd.prog w = .ok (.func fn first cap) w := fun _ _ _ _ => rfl
  have hent : ∀ (args : Array Value) (w : World), (callFunc f args).run Tryd.prog w = .ok (.enter f args) w := hE
  go_enter_defers Tryd.func50, Tryd.ntmps50
  go_wp2_with fail
  refine (hw (w.alloc (.cells #[.int .i64 0] 2)) (by first | exact bl2 w _ _ | exact bl1 w _) (by simp)).mono ?_
  rintro e w1 ⟨hb1, (⟨a, n, c, rfl, hr⟩ | ⟨rfl, hbad⟩)⟩
  · have hB1 := (by first | exact bnext (bl2 w _ _) hb1 | exact bnext (bl1 w _) hb1 : Below w.heap.size w w1)
    have zz := hb1.size
    have c0 : w1.cell? ⟨w.heap.size, 0, none⟩ = some (.int .i64 0) := cell_be hb1 (by simp [go_sem])
    have f0 : w1.frozen? ⟨w.heap.size, 0, none⟩ = false := (hb1.frozen (by simp <;> omega)).trans (by simp [go_sem])
    simp at zz
    clear hb1
    go_wp2
    refine leaves_cons (f := 89) (args := #[.pointer (some ⟨w.heap.size, 0, none⟩)]) (by simp) (by simp [go_sem]) ?_
    refine (idleS _ _).mono ?_
    rintro e u' w'' ⟨rfl, rfl, rfl⟩
    obtain ⟨u1, hu1⟩ : ∃ u, (w1.setCell ⟨w.heap.size, 0, none⟩ (.int .i64 0)) = u := ⟨_, rfl⟩
    rw [hu1]
    have k0 : u1.cell? ⟨w.heap.size, 0, none⟩ = some (.int .i64 0) := by rw [← hu1]; exact (World.cell?_setCell_same _ _ _ c0)
    have gA : Agr (fun b => w.heap.size + 1 ≤ b) w1 u1 := by rw [← hu1]; exact (Agr.setCell _ _ (fun h => absurd (show w.heap.size + 1 ≤ w.heap.size from h) (by omega)))
    have hB2 : Below w.heap.size w u1 := by rw [← hu1]; exact (hB1.setCell (by simp) _)
    exact ⟨.tuple #[.slice a n c, .int .i64 0], by simp [settle, results, Tryd.results50, go_sem, k0], hB2, .inl ⟨a, n, c, rfl, hR _ _ _ hr gA⟩⟩
  · have hB1 := (by first | exact bnext (bl2 w _ _) hb1 | exact bnext (bl1 w _) hb1 : Below w.heap.size w w1)
    have zz := hb1.size
    have c0 : w1.cell? ⟨w.heap.size, 0, none⟩ = some (.int .i64 0) := cell_be hb1 (by simp [go_sem])
    have f0 : w1.frozen? ⟨w.heap.size, 0, none⟩ = false := (hb1.frozen (by simp <;> omega)).trans (by simp [go_sem])
    simp at zz
    clear hb1
    go_wp2
    refine leaves_cons (f := 89) (args := #[.pointer (some ⟨w.heap.size, 0, none⟩)]) (by simp) (by simp [go_sem]) ?_
    refine (catchS (w.heap.size) ae _ _ c0 f0).mono ?_
    rintro e u' w'' ⟨rfl, hu, rfl⟩
    dsimp only
    rw [hu]
    obtain ⟨u1, hu1⟩ : ∃ u, w1.setCell ⟨w.heap.size, 0, none⟩ (.int .i64 5) = u := ⟨_, rfl⟩
    rw [hu1]
    have k0 : u1.cell? ⟨w.heap.size, 0, none⟩ = some (.int .i64 5) := by rw [← hu1]; exact World.cell?_setCell_same _ _ _ c0
    have hB2 : Below w.heap.size w u1 := by rw [← hu1]; exact hB1.setCell (by simp) _
    exact ⟨.tuple #[.slice none 0 0, .int .i64 5], by simp [results, Tryd.results50, go_sem, k0], hB2, .inr ⟨rfl, hbad⟩⟩
/-- The deferred closure where nothing panics. -/
theorem idleI (q : Addr) (w : World) :
    CallsD Tryd.prog 90 #[.pointer (some q)] .returning w fun e u' w' => e = .returned (.tuple #[]) ∧ u' = .returning ∧ w' = w := by
  have hta := assertNone
  refine callsD_of_wpS Tryd.func90 rfl fun c₀ cs hu => ?_
  apply wpS_seq
  apply wpS_region
  simp [wpOpsS, go_sem, recoverD, hu, hta, Tryd.ntmps90, Exit.thenS, Array.replicate_succ, Array.replicate_zero]
  apply wpS_seq
  apply wpS_region
  simp [wpOpsS, go_sem, Exit.thenS]
  refine wpS_cond (t := false) (by simp [Act.eval]) ?_
  refine wpS_of_wp (wp_skip ?_)
  cases c₀
  simp_all [bodyPostS, results, Tryd.results90, Exit.thenS]
/-- The deferred closure where the package's error is caught. -/
theorem catchI (b : Nat) (ae : Addr) (w : World) (v : Value) (hc : w.cell? ⟨b, 0, none⟩ = some v) (hf : w.frozen? ⟨b, 0, none⟩ = false) :
    CallsD Tryd.prog 90 #[.pointer (some ⟨b, 0, none⟩)] (.panicking (chE ae)) w fun e u' w' => e = .returned (.tuple #[]) ∧ settle u' = .returning ∧ w' = w.setCell ⟨b, 0, none⟩ (.int .i64 5) := by
  have hta := assertErr ae
  refine callsD_of_wpS Tryd.func90 rfl fun c₀ cs hu => ?_
  have hu' : c₀.mode = .panicking [{ v := .iface 117 (.pointer (some ae)), recovered := false }] := hu
  apply wpS_seq
  apply wpS_region
  simp [wpOpsS, go_sem, recoverD, hu', hta, Tryd.ntmps90, Exit.thenS, Array.replicate_succ, Array.replicate_zero]
  apply wpS_seq
  apply wpS_region
  simp [wpOpsS, go_sem, Exit.thenS]
  refine wpS_cond (t := true) (by simp [Act.eval]) ?_
  simp only [if_true]
  apply wpS_region
  simp [wpOpsS, go_sem, Exit.thenS, hc, hf]
  cases c₀
  simp_all [bodyPostS, results, Tryd.results90, Exit.thenS, settle]

set_option maxRecDepth 100000 in
set_option maxHeartbeats 3200000 in
theorem doorI (f : Nat) (caps : Array Value) (ae : Addr) (w : World) (Bad : Prop) (R : Value → World → Prop) (hE : EnterF f)
    (hR : ∀ v W W', R v W → Agr (fun b => w.heap.size + 1 ≤ b) W W' → R v W')
    (hw : ∀ W, Below w.heap.size w W → w.heap.size + 1 ≤ W.heap.size → Calls Tryd.prog f caps W fun e w' => Below W.heap.size W w' ∧ ((∃ x, e = .returned (.int .i64 x) ∧ R (.int .i64 x) w') ∨ (e = .panicked (chE ae) ∧ Bad))) :
    Calls Tryd.prog 52 #[.func (.func f) #[] caps] w fun e w' => Below w.heap.size w w' ∧ ((∃ x, e = .returned (.tuple #[.int .i64 x, .int .i64 0]) ∧ R (.int .i64 x) w') ∨ (e = .returned (.tuple #[.int .i64 0, .int .i64 5]) ∧ Bad)) := by
  have hmf : ∀ (fn : Fn) (first cap : Array Value) (w : World), (Instr.makeFunc fn first cap).run Tryd.prog w = .ok (.func fn first cap) w := fun _ _ _ _ => rfl
  have hent : ∀ (args : Array Value) (w : World), (callFunc f args).run Tryd.prog w = .ok (.enter f args) w := hE
  go_enter_defers Tryd.func52, Tryd.ntmps52
  go_wp2_with fail
  refine (hw (w.alloc (.cells #[.int .i64 0] 2)) (by first | exact bl2 w _ _ | exact bl1 w _) (by simp)).mono ?_
  rintro e w1 ⟨hb1, (⟨x, rfl, hr⟩ | ⟨rfl, hbad⟩)⟩
  · have hB1 := (by first | exact bnext (bl2 w _ _) hb1 | exact bnext (bl1 w _) hb1 : Below w.heap.size w w1)
    have zz := hb1.size
    have c0 : w1.cell? ⟨w.heap.size, 0, none⟩ = some (.int .i64 0) := cell_be hb1 (by simp [go_sem])
    have f0 : w1.frozen? ⟨w.heap.size, 0, none⟩ = false := (hb1.frozen (by simp <;> omega)).trans (by simp [go_sem])
    simp at zz
    clear hb1
    go_wp2
    refine leaves_cons (f := 90) (args := #[.pointer (some ⟨w.heap.size, 0, none⟩)]) (by simp) (by simp [go_sem]) ?_
    refine (idleI _ _).mono ?_
    rintro e u' w'' ⟨rfl, rfl, rfl⟩
    obtain ⟨u1, hu1⟩ : ∃ u, (w1.setCell ⟨w.heap.size, 0, none⟩ (.int .i64 0)) = u := ⟨_, rfl⟩
    rw [hu1]
    have k0 : u1.cell? ⟨w.heap.size, 0, none⟩ = some (.int .i64 0) := by rw [← hu1]; exact (World.cell?_setCell_same _ _ _ c0)
    have gA : Agr (fun b => w.heap.size + 1 ≤ b) w1 u1 := by rw [← hu1]; exact (Agr.setCell _ _ (fun h => absurd (show w.heap.size + 1 ≤ w.heap.size from h) (by omega)))
    have hB2 : Below w.heap.size w u1 := by rw [← hu1]; exact (hB1.setCell (by simp) _)
    exact ⟨.tuple #[.int .i64 x, .int .i64 0], by simp [settle, results, Tryd.results52, go_sem, k0], hB2, .inl ⟨x, rfl, hR _ _ _ hr gA⟩⟩
  · have hB1 := (by first | exact bnext (bl2 w _ _) hb1 | exact bnext (bl1 w _) hb1 : Below w.heap.size w w1)
    have zz := hb1.size
    have c0 : w1.cell? ⟨w.heap.size, 0, none⟩ = some (.int .i64 0) := cell_be hb1 (by simp [go_sem])
    have f0 : w1.frozen? ⟨w.heap.size, 0, none⟩ = false := (hb1.frozen (by simp <;> omega)).trans (by simp [go_sem])
    simp at zz
    clear hb1
    go_wp2
    refine leaves_cons (f := 90) (args := #[.pointer (some ⟨w.heap.size, 0, none⟩)]) (by simp) (by simp [go_sem]) ?_
    refine (catchI (w.heap.size) ae _ _ c0 f0).mono ?_
    rintro e u' w'' ⟨rfl, hu, rfl⟩
    dsimp only
    rw [hu]
    obtain ⟨u1, hu1⟩ : ∃ u, w1.setCell ⟨w.heap.size, 0, none⟩ (.int .i64 5) = u := ⟨_, rfl⟩
    rw [hu1]
    have k0 : u1.cell? ⟨w.heap.size, 0, none⟩ = some (.int .i64 5) := by rw [← hu1]; exact World.cell?_setCell_same _ _ _ c0
    have hB2 : Below w.heap.size w u1 := by rw [← hu1]; exact hB1.setCell (by simp) _
    exact ⟨.tuple #[.int .i64 0, .int .i64 5], by simp [results, Tryd.results52, go_sem, k0], hB2, .inr ⟨rfl, hbad⟩⟩
end Go.Proofs.YtdjifjlgllohmaaDoor
/- Contracts: checkMoments (program), l08Number (model). -/
namespace Go.Proofs.YtdjifjlgllohmaaDoor
open Go.RowKit
set_option linter.unusedVariables false
set_option linter.unusedSimpArgs false

/-- The code for moments and a number in lo..hi. -/
def mcd (p : Int) (xs : List Int) (k lo hi : Int) : Int := if momB p xs then (if lo ≤ k ∧ k ≤ hi then 0 else 2) else 1
/-- The code for moments and numbers modulo their prime. -/
def mnd (p : Int) (xs zs : List Int) : Int := if momB p xs then (if areB p zs then 0 else 2) else 1
theorem areB_one (p x : Int) : areB p [x] = decide (0 ≤ x ∧ x < p) := by simp [areB, okN]
theorem areB_two (p x y : Int) : areB p [x, y] = decide ((0 ≤ x ∧ x < p) ∧ (0 ≤ y ∧ y < p)) := by simp [areB, okN]
set_option maxRecDepth 100000 in
set_option maxHeartbeats 800000 in
theorem checkMoments_any (p : Int) (a : Option Addr) (n c : Nat) (xs : List Int) (k lo hi C : Int) (w : World) (hs : SL w a n c xs) (hn : n ≤ 4000000) (hC : mcd p xs k lo hi = C) :
    Calls Tryd.prog 46 #[mom p a n c, .int .i64 k, .int .i64 lo, .int .i64 hi] w fun e w' => e = .returned (.int .i64 C) ∧ Below w.heap.size w w' := by
  subst hC
  have hb0 := bl1 w (.cells #[.int .i64 p, .slice a n c] 30)
  have g1 := hs.below hb0
  cases hj : momB p xs
  · have H : Hid (mcd p xs k lo hi = 1) := hide (by simp [mcd, hj])
    have Hj := hide hj
    clear hj
    go_enter Tryd.func46, Tryd.ntmps46
    go_wp2_with fail
    refine (areMoments_any _ _ _ _ _ _ g1 hn).mono ?_
    rintro e w1 ⟨rfl, hb1⟩
    rw [Hj.out]
    go_wp2
    go_ret
    exact ⟨ret_int H.out.symm, bnext hb0 hb1⟩
  · by_cases h1 : k < lo
    · have H : Hid (mcd p xs k lo hi = 2) := hide (by simp only [mcd, hj, if_true]; rw [if_neg (by omega)])
      have Hj := hide hj
      clear hj
      go_enter Tryd.func46, Tryd.ntmps46
      go_wp2_with fail
      refine (areMoments_any _ _ _ _ _ _ g1 hn).mono ?_
      rintro e w1 ⟨rfl, hb1⟩
      rw [Hj.out]
      go_wp2
      go_ret
      exact ⟨ret_int H.out.symm, bnext hb0 hb1⟩
    · by_cases h2 : hi < k
      · have H : Hid (mcd p xs k lo hi = 2) := hide (by simp only [mcd, hj, if_true]; rw [if_neg (by omega)])
        have Hj := hide hj
        clear hj
        go_enter Tryd.func46, Tryd.ntmps46
        go_wp2_with fail
        refine (areMoments_any _ _ _ _ _ _ g1 hn).mono ?_
        rintro e w1 ⟨rfl, hb1⟩
        rw [Hj.out]
        go_wp2
        go_ret
        exact ⟨ret_int H.out.symm, bnext hb0 hb1⟩
      · have H : Hid (mcd p xs k lo hi = 0) := hide (by simp only [mcd, hj, if_true]; rw [if_pos (by omega)])
        have Hj := hide hj
        clear hj
        go_enter Tryd.func46, Tryd.ntmps46
        go_wp2_with fail
        refine (areMoments_any _ _ _ _ _ _ g1 hn).mono ?_
        rintro e w1 ⟨rfl, hb1⟩
        rw [Hj.out]
        go_wp2
        go_ret
        exact ⟨ret_int H.out.symm, bnext hb0 hb1⟩
end Go.Proofs.YtdjifjlgllohmaaDoor
