/- Merged texts. -/
import Derived.Test.YtdjifjlgllohmaaDoorYDJ29
import Derived.Test.YtdjifjlgllohmaaDoorYDJ20
import Derived.Test.YtdjifjlgllohmaaDoorYDJ19
import Derived.Test.YtdjifjlgllohmaaDoorYDJ35
import Derived.Test.YtdjifjlgllohmaaDoorYDJ36
/- Jacobi data of the call's own in a variable, whose two lists grow by appends (Kp, on a thin chain). -/
namespace Go.Proofs.YtdjifjlgllohmaaDoor
open Go.RowKit
set_option linter.unusedVariables false
set_option linter.unusedSimpArgs false

def JS (B q : Nat) (w : World) (p : Int) (a : Option Addr) (ca : Nat) (us : List Int) (b : Option Addr) (cb : Nat) (vs : List Int) : Prop :=
  Own B w a ca us ∧ Own B w b cb vs ∧ (blk a ≠ some q ∧ blk b ≠ some q ∧ ∀ g, blk a = some g → blk b ≠ some g) ∧
    (w.cell? ⟨q, 0, none⟩ = some (.int .i64 p) ∧ w.cell? ⟨q, 1, none⟩ = some (.slice a us.length ca) ∧ w.cell? ⟨q, 2, none⟩ = some (.slice b vs.length cb)) ∧ (w.frozen? ⟨q, 1, none⟩ = false ∧ w.frozen? ⟨q, 2, none⟩ = false) ∧ B ≤ q
section
variable {B q : Nat} {w w' : World} {p : Int} {a : Option Addr} {ca : Nat} {us : List Int} {b : Option Addr} {cb : Nat} {vs : List Int}
theorem JS.oA (h : JS B q w p a ca us b cb vs) : Own B w a ca us := h.1
theorem JS.oB (h : JS B q w p a ca us b cb vs) : Own B w b cb vs := h.2.1
theorem JS.c0 (h : JS B q w p a ca us b cb vs) : w.cell? ⟨q, 0, none⟩ = some (.int .i64 p) := h.2.2.2.1.1
theorem JS.c1 (h : JS B q w p a ca us b cb vs) : w.cell? ⟨q, 1, none⟩ = some (.slice a us.length ca) := h.2.2.2.1.2.1
theorem JS.c2 (h : JS B q w p a ca us b cb vs) : w.cell? ⟨q, 2, none⟩ = some (.slice b vs.length cb) := h.2.2.2.1.2.2
theorem JS.z1 (h : JS B q w p a ca us b cb vs) : w.frozen? ⟨q, 1, none⟩ = false := h.2.2.2.2.1.1
theorem JS.z2 (h : JS B q w p a ca us b cb vs) : w.frozen? ⟨q, 2, none⟩ = false := h.2.2.2.2.1.2
theorem JS.lo (h : JS B q w p a ca us b cb vs) : B ≤ q := h.2.2.2.2.2
theorem JS.hi (h : JS B q w p a ca us b cb vs) : q < w.heap.size := World.block_lt_of_cell? _ _ h.c0
theorem JS.below (h : JS B q w p a ca us b cb vs) (hb : Below w.heap.size w w') : JS B q w' p a ca us b cb vs :=
  ⟨h.oA.below hb, h.oB.below hb, h.2.2.1, ⟨cell_be hb h.c0, cell_be hb h.c1, cell_be hb h.c2⟩, ⟨(hb.frozen (World.block_lt_of_cell? _ _ h.c1)).trans h.z1, (hb.frozen (World.block_lt_of_cell? _ _ h.c2)).trans h.z2⟩, h.lo⟩
theorem JS.jz (h : JS B q w p a ca us b cb vs) (h0 : us.length ≠ 0) : JZ B w.heap.size w a us.length ca us b vs.length cb vs :=
  ⟨OZ.of h.oA rfl, OZ.of h.oB rfl, .inr (.inr (fun e => by
    obtain ⟨g, rfl, _⟩ := Own.blkG h.oA h0
    exact h.2.2.1.2.2 g rfl e.symm))⟩
theorem JS.pushA (h : JS B q w p a ca us b cb vs) {z : Int} {ad : Option Addr} {cap : Nat} (hown : Own B w' ad cap (us ++ [z])) (hgr : ((w.alloc (.cells #[.int .i64 z] 2)).drew).grownBy w' (blk a))
    (hloc : blk ad = blk a ∨ blk ad = some ((w.alloc (.cells #[.int .i64 z] 2)).drew).heap.size) : JS B q (w'.setCell ⟨q, 1, none⟩ (.slice ad (us.length + 1) cap)) p ad cap (us ++ [z]) b cb vs := by
  have hq := h.hi
  obtain ⟨n1, n2, n3⟩ := h.2.2.1
  have hba : Below w.heap.size w ((w.alloc (.cells #[.int .i64 z] 2)).drew) := (bl1 w _).drew
  have k := h.below hba
  have hnew : blk ad ≠ some q := by
    rcases hloc with e | e <;> rw [e]
    · exact n1
    · simp; omega
  have s1 := cell_ne hgr k.c1 n1
  refine ⟨hown.otherG hnew _, (Own.keep k.oB hgr (fun g h1 h2 => n3 g h2 h1)).otherG n2 _, ⟨hnew, n2, fun g h1 h2 => ?_⟩, ⟨cell_set2' (cell_ne hgr k.c0 n1) (by simp) _, ?_, cell_set2' (cell_ne hgr k.c2 n1) (by simp) _⟩, ⟨by simpa using frz_ne hgr k.c1 k.z1 n1, by simpa using frz_ne hgr k.c2 k.z2 n1⟩, h.lo⟩
  · rcases hloc with e | e
    · rw [e] at h1; exact n3 g h1 h2
    · rw [e] at h1
      have := own_ltQ h.oB g h2
      simp at h1
      omega
  · rw [List.length_append]
    exact World.cell?_setCell_same _ _ _ s1
theorem JS.pushB (h : JS B q w p a ca us b cb vs) {z : Int} {bd : Option Addr} {cap : Nat} (hown : Own B w' bd cap (vs ++ [z])) (hgr : ((w.alloc (.cells #[.int .i64 z] 2)).drew).grownBy w' (blk b))
    (hloc : blk bd = blk b ∨ blk bd = some ((w.alloc (.cells #[.int .i64 z] 2)).drew).heap.size) : JS B q (w'.setCell ⟨q, 2, none⟩ (.slice bd (vs.length + 1) cap)) p a ca us bd cap (vs ++ [z]) := by
  have hq := h.hi
  obtain ⟨n1, n2, n3⟩ := h.2.2.1
  have hba : Below w.heap.size w ((w.alloc (.cells #[.int .i64 z] 2)).drew) := (bl1 w _).drew
  have k := h.below hba
  have hnew : blk bd ≠ some q := by
    rcases hloc with e | e <;> rw [e]
    · exact n2
    · simp; omega
  have s2 := cell_ne hgr k.c2 n2
  refine ⟨(Own.keep k.oA hgr (fun g h1 h2 => n3 g h1 h2)).otherG n1 _, hown.otherG hnew _, ⟨n1, hnew, fun g h1 h2 => ?_⟩, ⟨cell_set2' (cell_ne hgr k.c0 n2) (by simp) _, cell_set2' (cell_ne hgr k.c1 n2) (by simp) _, ?_⟩, ⟨by simpa using frz_ne hgr k.c1 k.z1 n2, by simpa using frz_ne hgr k.c2 k.z2 n2⟩, h.lo⟩
  · rcases hloc with e | e
    · rw [e] at h2; exact n3 g h1 h2
    · rw [e] at h2
      have := own_ltQ h.oA g h1
      simp at h2
      omega
  · rw [List.length_append]
    exact World.cell?_setCell_same _ _ _ s2
theorem below_push {w0 : World} (hW : Below B w0 w) (hw : B ≤ w.heap.size) {z : Int} {row : Option Nat} (hgr : ((w.alloc (.cells #[.int .i64 z] 2)).drew).grownBy w' row) (hr : ∀ g, row = some g → B ≤ g) {q k : Nat} (hq : B ≤ q) (u : Value) : Below B w0 (w'.setCell ⟨q, k, none⟩ u) :=
  ((hW.trans ((bl1 w (.cells #[.int .i64 z] 2)).drew.mono hw)).grown hgr (by simp; omega) hr).setCell (by simpa using hq) _
end
theorem drew_grown {w w' : World} {row : Option Nat} (h : w.grownBy w' row) : w.drew.grownBy w' row := ⟨h.os, h.tape, h.output, h.size, h.block⟩
end Go.Proofs.YtdjifjlgllohmaaDoor
/- Contract: JacobiOfMoments of the model. -/
namespace Go.Proofs.YtdjifjlgllohmaaDoor
open Go.RowKit
set_option linter.unusedVariables false
set_option linter.unusedSimpArgs false

theorem invM_rngO {p : Int} (x : Int) (hp : 2 ≤ p) : 0 ≤ invM p x ∧ invM p x < p := powM_rng (p := p) (x := x) (k := p - 2) hp
theorem cell_beO {B : Nat} {w w' : World} {b o : Nat} {v : Value} (hb : Below B w w') (hlt : b < B) (h : w.cell? ⟨b, o, none⟩ = some v) : w'.cell? ⟨b, o, none⟩ = some v := (hb.cell hlt).trans h
set_option maxRecDepth 100000 in
set_option maxHeartbeats 6400000 in
theorem specJacobiOfMoments (p : Int) (a2 : Option Addr) (n2 c2 : Nat) (xs : List Int) (n : Int) (w : World) (h2 : SL w a2 n2 c2 xs) (hn : n2 ≤ 4000000) :
    Calls Tryd.prog 13 #[mom p a2 n2 c2, .int .i64 n] w (ResJ w (jomP p xs n) (jomV p xs n) (jomU p xs n) (jomC p xs n)) := by
  have hb0 := bl2 w (.cells #[.int .i64 p, .slice a2 n2 c2] 30) (.cells #[.int .i64 0, .slice none 0 0, .slice none 0 0] 27)
  obtain ⟨w0, hw0⟩ : ∃ w0, w0 = (w.alloc (.cells #[.int .i64 p, .slice a2 n2 c2] 30)).alloc (.cells #[.int .i64 0, .slice none 0 0, .slice none 0 0] 27) := ⟨_, rfl⟩
  rw [← hw0] at hb0
  have m0 : w0.cell? ⟨w.heap.size, 0, none⟩ = some (.int .i64 p) := by rw [hw0]; simp [go_sem]
  have m1 : w0.cell? ⟨w.heap.size, 1, none⟩ = some (.slice a2 n2 c2) := by rw [hw0]; simp [go_sem]
  have r0 : w0.cell? ⟨w.heap.size + 1, 0, none⟩ = some (.int .i64 0) := by rw [hw0]; simp [go_sem]
  have r1 : w0.cell? ⟨w.heap.size + 1, 1, none⟩ = some (.slice none 0 0) := by rw [hw0]; simp [go_sem]
  have r2 : w0.cell? ⟨w.heap.size + 1, 2, none⟩ = some (.slice none 0 0) := by rw [hw0]; simp [go_sem]
  have y0 : w0.frozen? ⟨w.heap.size + 1, 0, none⟩ = false := by rw [hw0]; simp [go_sem]
  have y1 : w0.frozen? ⟨w.heap.size + 1, 1, none⟩ = false := by rw [hw0]; simp [go_sem]
  have y2 : w0.frozen? ⟨w.heap.size + 1, 2, none⟩ = false := by rw [hw0]; simp [go_sem]
  have z0 : w.heap.size + 1 < w0.heap.size := by rw [hw0]; simp
  have hl := hide h2.len
  have Hw0 := hide hw0
  replace h2 := h2.below hb0
  clear hw0
  go_enter Tryd.func13, Tryd.ntmps13
  go_upto_region 1 with fail
  rw [← Hw0.out]
  go_wp2_with fail
  refine (l04Code_any p _ _ _ xs n 1 _ h2 hn (by omega)).mono ?_
  rintro e w1 ⟨rfl, t1⟩
  have hB := bnext hb0 t1
  have z1 := t1.size
  replace y0 := (t1.frozen (World.block_lt_of_cell? _ _ r0)).trans y0
  replace y1 := (t1.frozen (World.block_lt_of_cell? _ _ r1)).trans y1
  replace y2 := (t1.frozen (World.block_lt_of_cell? _ _ r2)).trans y2
  replace m0 := cell_be t1 m0
  replace m1 := cell_be t1 m1
  replace r0 := cell_be t1 r0
  replace r1 := cell_be t1 r1
  replace r2 := cell_be t1 r2
  replace h2 := h2.below t1
  clear t1 hb0
  have HC := hide (show jomC p xs n = l4C p xs n 1 from rfl)
  by_cases hC : l4C p xs n 1 = 0
  rotate_left
  · have ob : (l4C p xs n 1 != 0) = true := by simpa using hC
    have HE := hide (jom_err HC.out hC)
    replace hC := hide hC
    generalize l4C p xs n 1 = C at *
    go_wp2
    refine bodyPost_ret (v := .tuple #[jac 0 none 0 0 none 0 0, .int .i64 C]) (by simp [results, Tryd.results13, go_sem, r0, r1, r2]) rfl ?_
    exact ResJ.nil HE.out.1 HE.out.2.1 HE.out.2.2 HC.out (((hB.setCell (by simp) _).setCell (by simp) _).setCell (by simp) _)
  obtain ⟨hM, k0, k12, hR⟩ := l4_ok hC
  obtain ⟨N, rfl⟩ : ∃ N : Nat, n = N := ⟨n.toNat, by omega⟩
  rw [Int.toNat_natCast] at hR
  obtain ⟨g2, hT⟩ := reg_told hM hR
  rw [hl.out] at g2
  obtain ⟨hP, m1', m2', hx⟩ := momB_rng hM
  rw [hl.out] at m2'
  obtain ⟨hp, hp2⟩ := primeB_lo hP
  have hp0 : ¬ p = 0 := by omega
  have HO := hide (jom_ok (HC.out.trans hC))
  have HC2 := hide (HC.out.trans hC)
  rw [hC]
  clear hR HC hC m1'
  replace hM := hide hM
  replace hT := hide hT
  replace hP := hide hP
  replace hx := hide hx
  go_upto_region 4 with fail
  have FF : ∀ w', Below w1.heap.size w1 w' → w'.cell? ⟨w.heap.size, 0, none⟩ = some (.int .i64 p) ∧ w'.cell? ⟨w.heap.size, 1, none⟩ = some (.slice a2 n2 c2) := fun w' hb => ⟨cell_be hb m0, cell_be hb m1⟩
  have hm := (Below.refl w1.heap.size w1).drew
  refine region_E (fun w' => w'.cell? ⟨w.heap.size, 0, none⟩ = some (.int .i64 p) ∧ w'.cell? ⟨w.heap.size, 1, none⟩ = some (.slice a2 n2 c2)) 99 (by kernel_rfl) (FF _ hm) ?_
  intro hS
  refine anyE_takeH 0 rfl (by kernel_rfl) (fun _ _ _ h => h) hS (by rfl) (v := ?_) ?_ ?_
  rotate_left
  · intro w' hSw; (try dsimp only at hSw); go_simp; (try with_reducible rfl)
  try simp only [Act.put, List.setIfInBounds_toArray, List.set_cons_zero, List.set_cons_succ]
  refine anyE_takeH 1 rfl (by kernel_rfl) (fun _ _ _ h => h) hS (by rfl) (v := ?_) ?_ ?_
  rotate_left
  · intro w' hSw; (try dsimp only at hSw); go_simp; (try with_reducible rfl)
  try simp only [Act.put, List.setIfInBounds_toArray, List.set_cons_zero, List.set_cons_succ]
  refine anyE_takeH 3 rfl (by kernel_rfl) (fun _ _ _ h => h) hS (by rfl) (v := ?_) ?_ ?_
  rotate_left
  · intro w' hSw; (try dsimp only at hSw); go_simp; (try with_reducible rfl)
  try simp only [Act.put, List.setIfInBounds_toArray, List.set_cons_zero, List.set_cons_succ]
  refine anyE_takeH 4 rfl (by kernel_rfl) (fun _ _ _ h => h) hS (by rfl) (v := ?_) ?_ ?_
  rotate_left
  · intro w' hSw; (try dsimp only at hSw); go_simp; (try with_reducible rfl)
  try simp only [Act.put, List.setIfInBounds_toArray, List.set_cons_zero, List.set_cons_succ]
  clear hS
  obtain ⟨u0, hu0⟩ : ∃ u, u = w1.drew := ⟨_, rfl⟩
  rw [← hu0] at hm ⊢
  clear hu0
  refine anyE_oneL 2 (by kernel_rfl) rfl (fun K' hK' => ?_)
  go_simp
  refine (l04Polys_any p _ _ _ xs N _ (h2.below hm) hM.out g2 hT.out).mono ?_
  rintro e w4 ⟨aa, cc, vs0, RA, RC, rfl, hvl, hOV, hKQ, t2⟩
  dsimp only
  have hG0 := OwnV.blkLtQ hOV
  obtain ⟨G, rfl, hcG⟩ := hOV.at (by rw [hvl]; omega)
  have hGl : G < w4.heap.size := hG0 G rfl
  have gks : ∀ j, j < N + 1 → w4.cell? ⟨G, j, none⟩ = some (.slice (RA j) (j + 1) (RC j)) := fun j hj => by
    have := hcG j (by rw [hvl]; omega)
    rw [hKQ.1 j hj, (opL_len hp xs j (by omega)).1] at this
    exact this
  have sls : ∀ j, j < N + 1 → SL w4 (RA j) (j + 1) (RC j) (opL p xs j) := fun j hj => by
    have := (hKQ.2.1 j hj).sl
    rwa [(opL_len hp xs j (by omega)).1] at this
  replace hm := bnext hm t2
  refine hK'.out _ _ (FF _ hm) ?_
  clear hK' K' hcG hvl hOV hKQ t2 hG0
  try simp only [Act.put, List.setIfInBounds_toArray, List.set_cons_zero, List.set_cons_succ]
  refine anyE_oneL 5 (by kernel_rfl) rfl (fun K' hK' => ?_)
  go_simp
  refine hK'.out _ _ (FF _ hm) ?_
  clear hK' K'
  try simp only [Act.put, List.setIfInBounds_toArray, List.set_cons_zero, List.set_cons_succ]
  refine anyE_oneL 6 (by kernel_rfl) rfl (fun K' hK' => ?_)
  go_simp
  refine hK'.out _ _ (FF _ hm) ?_
  clear hK' K'
  try simp only [Act.put, List.setIfInBounds_toArray, List.set_cons_zero, List.set_cons_succ]
  refine anyE_oneL 7 (by kernel_rfl) rfl (fun K' hK' => ?_)
  go_simp
  refine hK'.out _ _ (FF _ hm) ?_
  clear hK' K'
  refine anyE_doneL (by kernel_rfl) ?_
  try simp only [Act.put, List.setIfInBounds_toArray, List.set_cons_zero, List.set_cons_succ]
  have z4 := hm.size
  replace hB := hB.trans (hm.mono hB.size)
  have zw4 : w.heap.size + 1 < w4.heap.size := by omega
  replace m0 := cell_be hm m0
  replace m1 := cell_be hm m1
  replace y0 := (hm.frozen (World.block_lt_of_cell? _ _ r0)).trans y0
  replace y1 := (hm.frozen (World.block_lt_of_cell? _ _ r1)).trans y1
  replace y2 := (hm.frozen (World.block_lt_of_cell? _ _ r2)).trans y2
  replace r0 := cell_be hm r0
  replace r1 := cell_be hm r1
  replace r2 := cell_be hm r2
  replace h2 := h2.below hm
  clear hm FF z4 z1 z0
  have hbx := (bl2 w4 (.cells #[] 2) (.cells #[] 2)).alloc (by simp; omega) (.cells #[.int .i64 p, .slice (some ⟨w4.heap.size, 0, none⟩) 0 0, .slice (some ⟨w4.heap.size + 1, 0, none⟩) 0 0] 27)
  have o1 : Own w4.heap.size (((w4.alloc (.cells #[] 2)).alloc (.cells #[] 2)).alloc (.cells #[.int .i64 p, .slice (some ⟨w4.heap.size, 0, none⟩) 0 0, .slice (some ⟨w4.heap.size + 1, 0, none⟩) 0 0] 27)) (some ⟨w4.heap.size, 0, none⟩) 0 [] := by
    have t := World.ownsRow_lit w4 (base := w4.heap.size) (e := 2) (size := 1) #[] 0 (by simp) (by simp) rfl
    exact (show Own w4.heap.size (w4.alloc (.cells #[] 2)) (some ⟨w4.heap.size, 0, none⟩) 0 [] from t).below (bl2 _ _ _)
  have o2 : Own w4.heap.size (((w4.alloc (.cells #[] 2)).alloc (.cells #[] 2)).alloc (.cells #[.int .i64 p, .slice (some ⟨w4.heap.size, 0, none⟩) 0 0, .slice (some ⟨w4.heap.size + 1, 0, none⟩) 0 0] 27)) (some ⟨w4.heap.size + 1, 0, none⟩) 0 [] := by
    have t := World.ownsRow_lit (w4.alloc (.cells #[] 2)) (base := w4.heap.size) (e := 2) (size := 1) #[] 0 (by simp) (by simp) rfl
    rw [show (w4.alloc (.cells #[] 2)).heap.size = w4.heap.size + 1 by simp] at t
    exact (show Own w4.heap.size ((w4.alloc (.cells #[] 2)).alloc (.cells #[] 2)) (some ⟨w4.heap.size + 1, 0, none⟩) 0 [] from t).below (bl1 _ _)
  have J0 : Hid (JS w4.heap.size (w4.heap.size + 1 + 1) (((w4.alloc (.cells #[] 2)).alloc (.cells #[] 2)).alloc (.cells #[.int .i64 p, .slice (some ⟨w4.heap.size, 0, none⟩) 0 0, .slice (some ⟨w4.heap.size + 1, 0, none⟩) 0 0] 27)) p (some ⟨w4.heap.size, 0, none⟩) 0 (jdL p xs 0).1 (some ⟨w4.heap.size + 1, 0, none⟩) 0 (jdL p xs 0).2) := hide ⟨o1, o2, ⟨by simp [blk]; try omega, by simp [blk]; try omega, fun g h h' => by simp [blk] at h h'; omega⟩, ⟨by simp [go_sem], by simp [go_sem, jdL], by simp [go_sem, jdL]⟩, ⟨by simp [go_sem], by simp [go_sem]⟩, by omega⟩
  have hsz0 : w4.heap.size + 1 + 1 < (((w4.alloc (.cells #[] 2)).alloc (.cells #[] 2)).alloc (.cells #[.int .i64 p, .slice (some ⟨w4.heap.size, 0, none⟩) 0 0, .slice (some ⟨w4.heap.size + 1, 0, none⟩) 0 0] 27)).heap.size := by simp
  have W1 : Hid (Below w4.heap.size (((w4.alloc (.cells #[] 2)).alloc (.cells #[] 2)).alloc (.cells #[.int .i64 p, .slice (some ⟨w4.heap.size, 0, none⟩) 0 0, .slice (some ⟨w4.heap.size + 1, 0, none⟩) 0 0] 27)) (((w4.alloc (.cells #[] 2)).alloc (.cells #[] 2)).alloc (.cells #[.int .i64 p, .slice (some ⟨w4.heap.size, 0, none⟩) 0 0, .slice (some ⟨w4.heap.size + 1, 0, none⟩) 0 0] 27))) := hide (Below.refl _ _)
  clear o1 o2
  go_wp2
  generalize (((w4.alloc (.cells #[] 2)).alloc (.cells #[] 2)).alloc (.cells #[.int .i64 p, .slice (some ⟨w4.heap.size, 0, none⟩) 0 0, .slice (some ⟨w4.heap.size + 1, 0, none⟩) 0 0] 27)) = wx at *
  obtain ⟨q0, hq0⟩ : ∃ q0, w4.heap.size + 1 + 1 = q0 := ⟨_, rfl⟩
  rw [hq0] at J0 hsz0 ⊢
  have Hq0 := hide hq0
  have hql : w4.heap.size ≤ q0 := by omega
  clear hq0
  go_loopw [9, 11] (fun lv kv wr => ∃ (k ca cb : Nat) (a' b' : Option Addr), k ≤ N ∧ kv = .int .i64 k ∧ lv = .int .i64 (lsN p xs k) ∧ Hid (JS w4.heap.size q0 wr p a' ca (jdL p xs k).1 b' cb (jdL p xs k).2) ∧ Hid (Below w4.heap.size wx wr)) (fun _ kv _ => N - (intOf kv).toNat)
  case atStart => exact ⟨0, 0, 0, _, _, by omega, rfl, rfl, J0, W1⟩
  case round =>
    obtain ⟨k, ca, cb, a', b', hkn, rfl, rfl, hJ, hW⟩ := hrel
    clear J0 W1
    have hsz := hW.out.size
    have h4r : Below w4.heap.size w4 wr := hbx.trans hW.out
    by_cases hlt : k < N
    · have hlt' : (k : Int) < (N : Int) := by omega
      have q0' : (0 : Int) ≤ (k : Int) := by omega
      have q1 : (k : Int) < (N : Int) + 1 := by omega
      have k24 : k ≤ 24 := by omega
      have hwr := h4r.size
      have GK := gks k (by omega)
      have gk := cell_be h4r GK
      have sk := hide ((sls k (by omega)).below h4r)
      have s2 := hide (h2.below h4r)
      have M0 := cell_be h4r m0
      have M1 := cell_be h4r m1
      have v5 : IntKind.i64.wrap ((k : Int) + 1) = (k : Int) + 1 := IntWalk.i64_in _ (by omega)
      have hst := jdL_succ p xs k
      have hll := jdL_len p xs k
      obtain ⟨zs, hzs⟩ : ∃ zs, (jdL p xs k).1 = zs := ⟨_, rfl⟩
      obtain ⟨vs, hvs⟩ : ∃ vs, (jdL p xs k).2 = vs := ⟨_, rfl⟩
      rw [hzs, hvs] at hJ hst hll
      have zk : zs.length ≤ 12 := by omega
      have vk' : vs.length ≤ 12 := by omega
      have hstA := hide (congrArg Prod.fst hst)
      have hstB := hide (congrArg Prod.snd hst)
      dsimp only at hstA hstB
      have SO := opL_small hp xs k k24
      have AO := hide SO.are
      have QO := hide (own_sq hP.out xs k24)
      have h1r : 0 ≤ nrI p (opL p xs k) xs 1 ∧ nrI p (opL p xs k) xs 1 < p := dotK_rng hp _ _ _ _
      have h0r := opH_rng hp xs k
      have lr := lsN_rng hp xs k
      have HB := hide (opB_ls hP.out (fun j hj => hT.out j (by omega) : Told p xs k))
      have HA := hide (show opA p xs k = nrI p (opL p xs k) xs 1 * invM p (opH p xs k) % p from rfl)
      have ir := invM_rngO (opH p xs k) hp
      have jr := invM_rngO (lsN p xs k) hp
      have lsx := hide (lsN_next p xs k)
      have HH0 := hide (show opH p xs k = nrI p (opL p xs k) xs 0 from rfl)
      obtain ⟨H, hH⟩ : ∃ H, H = opH p xs k := ⟨_, rfl⟩
      obtain ⟨H1, hH1⟩ : ∃ H1, H1 = nrI p (opL p xs k) xs 1 := ⟨_, rfl⟩
      obtain ⟨V, hV⟩ : ∃ V, V = invM p H := ⟨_, rfl⟩
      obtain ⟨A, hA⟩ : ∃ A, A = opA p xs k := ⟨_, rfl⟩
      obtain ⟨Bt, hBt⟩ : ∃ Bt, Bt = opB p xs k := ⟨_, rfl⟩
      obtain ⟨f, hf⟩ : ∃ f, f = opL p xs k := ⟨_, rfl⟩
      obtain ⟨L, hL⟩ : ∃ L, L = lsN p xs k := ⟨_, rfl⟩
      obtain ⟨V2, hV2⟩ : ∃ V2, V2 = invM p L := ⟨_, rfl⟩
      rw [← hH] at h0r HB HA ir lsx HH0
      rw [← hV] at HA ir
      rw [← hf] at sk AO QO HA h1r hH1 HH0
      rw [← hH1] at h1r HA
      rw [← hA] at HA hstA
      rw [← hBt] at HB hstB
      rw [← hL] at lr HB jr
      rw [← hV2] at HB jr
      obtain ⟨x1, x2⟩ := mulb h1r.1 h1r.2 ir.1 ir.2 hp2
      obtain ⟨y1', y2'⟩ := mulb h0r.1 h0r.2 jr.1 jr.2 hp2
      have em : (H1 * V).tmod p = A := by rw [Int.tmod_eq_emod_of_nonneg x1]; exact HA.out.symm
      have em2 : (H * V2).tmod p = Bt := by rw [Int.tmod_eq_emod_of_nonneg y1']; exact HB.out.symm
      have v1 : IntKind.i64.wrap (H1 * V) = H1 * V := IntWalk.i64_in _ (by omega)
      have v2 : IntKind.i64.wrap (H * V2) = H * V2 := IntWalk.i64_in _ (by omega)
      obtain ⟨h0a, h0b⟩ := h0r
      obtain ⟨lra, lrb⟩ := lr
      replace hH := hide hH
      replace hH1 := hide hH1
      replace hV := hide hV
      replace hA := hide hA
      replace hBt := hide hBt
      replace hf := hide hf
      replace hL := hide hL
      replace hV2 := hide hV2
      clear SO hst hzs hvs hll
      go_upto_region 9 with fail
      have FF : ∀ w', Below wr.heap.size wr w' → w'.cell? ⟨w.heap.size, 0, none⟩ = some (.int .i64 p) ∧ w'.cell? ⟨w.heap.size, 1, none⟩ = some (.slice a2 n2 c2) ∧ w'.cell? ⟨G, k, none⟩ = some (.slice (RA k) (k + 1) (RC k)) := fun w' hb => ⟨cell_be hb M0, cell_be hb M1, cell_be hb gk⟩
      have hm := (Below.refl wr.heap.size wr).drew
      refine region_E (fun w' => w'.cell? ⟨w.heap.size, 0, none⟩ = some (.int .i64 p) ∧ w'.cell? ⟨w.heap.size, 1, none⟩ = some (.slice a2 n2 c2) ∧ w'.cell? ⟨G, k, none⟩ = some (.slice (RA k) (k + 1) (RC k))) 99 (by kernel_rfl) (FF _ hm) ?_
      intro hS
      refine anyE_takeH 0 rfl (by kernel_rfl) (fun _ _ _ h => h) hS (by rfl) (v := ?_) ?_ ?_
      rotate_left
      · intro w' hSw; (try dsimp only at hSw); go_simp; (try with_reducible rfl)
      try simp only [Act.put, List.setIfInBounds_toArray, List.set_cons_zero, List.set_cons_succ]
      refine anyE_takeH 1 rfl (by kernel_rfl) (fun _ _ _ h => h) hS (by rfl) (v := ?_) ?_ ?_
      rotate_left
      · intro w' hSw; (try dsimp only at hSw); go_simp; (try with_reducible rfl)
      try simp only [Act.put, List.setIfInBounds_toArray, List.set_cons_zero, List.set_cons_succ]
      refine anyE_takeH 2 rfl (by kernel_rfl) (fun _ _ _ h => h) hS (by rfl) (v := ?_) ?_ ?_
      rotate_left
      · intro w' hSw; (try dsimp only at hSw); go_simp; (try with_reducible rfl)
      try simp only [Act.put, List.setIfInBounds_toArray, List.set_cons_zero, List.set_cons_succ]
      refine anyE_takeH 3 rfl (by kernel_rfl) (fun _ _ _ h => h) hS (by rfl) (v := ?_) ?_ ?_
      rotate_left
      · intro w' hSw; (try dsimp only at hSw); go_simp; (try with_reducible rfl)
      try simp only [Act.put, List.setIfInBounds_toArray, List.set_cons_zero, List.set_cons_succ]
      refine anyE_takeH 4 rfl (by kernel_rfl) (fun _ _ _ h => h) hS (by rfl) (v := ?_) ?_ ?_
      rotate_left
      · intro w' hSw; (try dsimp only at hSw); go_simp; (try with_reducible rfl)
      try simp only [Act.put, List.setIfInBounds_toArray, List.set_cons_zero, List.set_cons_succ]
      clear hS
      obtain ⟨u0, hu0⟩ : ∃ u, u = wr.drew := ⟨_, rfl⟩
      rw [← hu0] at hm ⊢
      clear hu0
      refine anyE_oneL 5 (by kernel_rfl) rfl (fun K' hK' => ?_)
      go_simp
      refine (l04Norm_any p _ _ _ xs _ _ _ f 0 _ _ (s2.out.below hm) (sk.out.below hm) (by omega) (by omega) (by omega) rfl (by omega) hp hp2 AO.out hx.out QO.out).mono ?_
      rintro e u1 ⟨rfl, tt⟩
      dsimp only
      rw [← HH0.out]
      replace hm := bnext hm tt
      refine hK'.out _ _ (FF _ hm) ?_
      clear hK' K' tt
      try simp only [Act.put, List.setIfInBounds_toArray, List.set_cons_zero, List.set_cons_succ]
      refine anyE_oneL 6 (by kernel_rfl) rfl (fun K' hK' => ?_)
      go_simp
      refine hK'.out _ _ (FF _ hm) ?_
      clear hK' K'
      refine anyE_doneL (by kernel_rfl) ?_
      try simp only [Act.put, List.setIfInBounds_toArray, List.set_cons_zero, List.set_cons_succ]
      have j5 := hide (hJ.out.below hm)
      have W5 := hide (hW.out.trans (hm.mono (by omega)))
      replace M0 := cell_be hm M0
      replace M1 := cell_be hm M1
      replace gk := cell_be hm gk
      have s5 := hide (s2.out.below hm)
      have k5 := hide (sk.out.below hm)
      have z5 := hm.size
      clear hm FF s2 sk hJ hW h4r
      go_upto_region 10 with fail
      have jx := j5.out
      have hm := (Below.refl u1.heap.size u1).drew
      have FF : ∀ v, Below u1.heap.size u1 v → v.cell? ⟨q0, 1, none⟩ = some (.slice a' zs.length ca) ∧ v.cell? ⟨w.heap.size, 0, none⟩ = some (.int .i64 p) ∧ v.cell? ⟨w.heap.size, 1, none⟩ = some (.slice a2 n2 c2) ∧ v.cell? ⟨G, k, none⟩ = some (.slice (RA k) (k + 1) (RC k)) := fun v hb => And.intro ((jx.below hb).c1) (And.intro (cell_be hb M0) (And.intro (cell_be hb M1) (cell_be hb gk)))
      refine region_E (fun v => v.cell? ⟨q0, 1, none⟩ = some (.slice a' zs.length ca) ∧ v.cell? ⟨w.heap.size, 0, none⟩ = some (.int .i64 p) ∧ v.cell? ⟨w.heap.size, 1, none⟩ = some (.slice a2 n2 c2) ∧ v.cell? ⟨G, k, none⟩ = some (.slice (RA k) (k + 1) (RC k))) 17 (by kernel_rfl) (FF _ hm) ?_
      intro hS
      refine anyE_takeL 0 rfl (by kernel_rfl) (fun _ _ _ h => h) hS (by rfl) (v := ?_) ?_ ?_
      rotate_left
      · intro w' hSw; (try dsimp only at hSw); go_simp; (try with_reducible rfl)
      try simp only [Act.put, List.setIfInBounds_toArray, List.set_cons_zero, List.set_cons_succ]
      refine anyE_takeL 1 rfl (by kernel_rfl) (fun _ _ _ h => h) hS (by rfl) (v := ?_) ?_ ?_
      rotate_left
      · intro w' hSw; (try dsimp only at hSw); go_simp; (try with_reducible rfl)
      try simp only [Act.put, List.setIfInBounds_toArray, List.set_cons_zero, List.set_cons_succ]
      refine anyE_takeL 2 rfl (by kernel_rfl) (fun _ _ _ h => h) hS (by rfl) (v := ?_) ?_ ?_
      rotate_left
      · intro w' hSw; (try dsimp only at hSw); go_simp; (try with_reducible rfl)
      try simp only [Act.put, List.setIfInBounds_toArray, List.set_cons_zero, List.set_cons_succ]
      refine anyE_takeL 3 rfl (by kernel_rfl) (fun _ _ _ h => h) hS (by rfl) (v := ?_) ?_ ?_
      rotate_left
      · intro w' hSw; (try dsimp only at hSw); go_simp; (try with_reducible rfl)
      try simp only [Act.put, List.setIfInBounds_toArray, List.set_cons_zero, List.set_cons_succ]
      refine anyE_takeL 4 rfl (by kernel_rfl) (fun _ _ _ h => h) hS (by rfl) (v := ?_) ?_ ?_
      rotate_left
      · intro w' hSw; (try dsimp only at hSw); go_simp; (try with_reducible rfl)
      try simp only [Act.put, List.setIfInBounds_toArray, List.set_cons_zero, List.set_cons_succ]
      refine anyE_takeL 5 rfl (by kernel_rfl) (fun _ _ _ h => h) hS (by rfl) (v := ?_) ?_ ?_
      rotate_left
      · intro w' hSw; (try dsimp only at hSw); go_simp; (try with_reducible rfl)
      try simp only [Act.put, List.setIfInBounds_toArray, List.set_cons_zero, List.set_cons_succ]
      refine anyE_takeL 6 rfl (by kernel_rfl) (fun _ _ _ h => h) hS (by rfl) (v := ?_) ?_ ?_
      rotate_left
      · intro w' hSw; (try dsimp only at hSw); go_simp; (try with_reducible rfl)
      try simp only [Act.put, List.setIfInBounds_toArray, List.set_cons_zero, List.set_cons_succ]
      refine anyE_takeL 8 rfl (by kernel_rfl) (fun _ _ _ h => h) hS (by rfl) (v := ?_) ?_ ?_
      rotate_left
      · intro w' hSw; (try dsimp only at hSw); go_simp; (try with_reducible rfl)
      try simp only [Act.put, List.setIfInBounds_toArray, List.set_cons_zero, List.set_cons_succ]
      refine anyE_takeL 9 rfl (by kernel_rfl) (fun _ _ _ h => h) hS (by rfl) (v := ?_) ?_ ?_
      rotate_left
      · intro w' hSw; (try dsimp only at hSw); go_simp; (try with_reducible rfl)
      try simp only [Act.put, List.setIfInBounds_toArray, List.set_cons_zero, List.set_cons_succ]
      refine anyE_takeL 12 rfl (by kernel_rfl) (fun _ _ _ h => h) hS (by rfl) (v := ?_) ?_ ?_
      rotate_left
      · intro w' hSw; (try dsimp only at hSw); go_simp; (try with_reducible rfl)
      try simp only [Act.put, List.setIfInBounds_toArray, List.set_cons_zero, List.set_cons_succ]
      clear hS
      obtain ⟨y0, hy0⟩ : ∃ u, u = u1.drew := ⟨_, rfl⟩
      rw [← hy0] at hm ⊢
      clear hy0
      refine anyE_oneL 7 (by kernel_rfl) rfl (fun K hK => ?_)
      go_simp
      refine (l04Norm_any p _ _ _ xs _ _ _ f 1 _ _ (s5.out.below hm) (k5.out.below hm) (by omega) (by omega) (by omega) rfl (by omega) hp hp2 AO.out hx.out QO.out).mono ?_
      rintro e y1 ⟨rfl, tt⟩
      dsimp only
      rw [← hH1.out]
      replace hm := bnext hm tt
      clear tt
      refine hK.out _ _ (FF _ hm) ?_
      clear hK K
      try simp only [Act.put, List.setIfInBounds_toArray, List.set_cons_zero, List.set_cons_succ]
      refine anyE_oneL 10 (by kernel_rfl) rfl (fun K hK => ?_)
      go_simp
      refine (l01Inverse_any p H _ hp hp2 h0a h0b).mono ?_
      rintro e y1' ⟨rfl, rfl⟩
      dsimp only
      rw [← hV.out]
      refine hK.out _ _ (FF _ hm) ?_
      clear hK K
      try simp only [Act.put, List.setIfInBounds_toArray, List.set_cons_zero, List.set_cons_succ]
      have S8 := FF _ hm
      refine anyE_takeL 11 rfl (by kernel_rfl) (fun _ _ _ h => h) S8 (by rfl) (v := ?_) ?_ ?_
      rotate_left
      · intro w' hSw; (try dsimp only at hSw); go_simp; (try with_reducible rfl)
      try simp only [Act.put, List.setIfInBounds_toArray, List.set_cons_zero, List.set_cons_succ]
      refine anyE_takeL 13 rfl (by kernel_rfl) (fun _ _ _ h => h) S8 (by rfl) (v := ?_) ?_ ?_
      rotate_left
      · intro w' hSw; (try dsimp only at hSw); go_simp; (try with_reducible rfl)
      try simp only [Act.put, List.setIfInBounds_toArray, List.set_cons_zero, List.set_cons_succ]
      clear S8
      have J8 := hide (jx.below hm)
      have szw := W5.out.size
      have W8 := hide (W5.out.trans (hm.mono (by omega)))
      have X8 := FF _ hm
      clear jx hm FF
      have hcl : (y1.alloc (.cells #[.int .i64 A] 2)).cell? ⟨y1.heap.size, 0, none⟩ = some (.int .i64 A) := by simp [go_sem]
      have hba := bl1 y1 (.cells #[.int .i64 A] 2)
      have JA := J8.out.below hba
      have hOb := hide JA.oA
      have sz8 := W8.out.size
      have S1 := And.intro (JA.c1) (And.intro (cell_be hba X8.2.1) (And.intro (cell_be hba X8.2.2.1) (cell_be hba X8.2.2.2)))
      clear hba X8
      refine anyE_oneL 14 (by kernel_rfl) rfl (fun K hK => ?_)
      go_simp
      refine hK.out _ _ S1 ?_
      clear hK K
      try simp only [Act.put, List.setIfInBounds_toArray, List.set_cons_zero, List.set_cons_succ]
      refine anyE_oneL 15 (by kernel_rfl) rfl (fun K hK => ?_)
      refine step_app1 (by rfl) _ _ (by rfl) w4.heap.size _ _ _ zs (by rfl) rfl hOb.out _ _ A (by rfl) hcl (by omega) (by first | omega | (simp; omega)) ?_
      intro ad6 cap6 v9 hown2 hgr2 hloc2
      have hge := own_blk_ge hOb.out
      have S9 := And.intro (cell_ne hgr2 JA.c1 JA.2.2.1.1) (And.intro (cell_ne hgr2 S1.2.1 (fun e => by have := hge _ e; omega)) (And.intro (cell_ne hgr2 S1.2.2.1 (fun e => by have := hge _ e; omega)) (cell_ne hgr2 S1.2.2.2 (fun e => by have := hge _ e; omega))))
      have sf2 := frz_ne hgr2 JA.c1 JA.z1 JA.2.2.1.1
      refine hK.out _ _ S9 ?_
      clear hK K
      try simp only [Act.put, List.setIfInBounds_toArray, List.set_cons_zero, List.set_cons_succ]
      refine anyE_takeL 16 rfl (by kernel_rfl) (fun _ _ _ h => h) S9 (by rfl) (v := ?_) ?_ ?_
      rotate_left
      · intro w' hSw; (try dsimp only at hSw); go_simp; (try with_reducible rfl)
      try simp only [Act.put, List.setIfInBounds_toArray, List.set_cons_zero, List.set_cons_succ]
      have S9' := S9.1
      clear S9 S1
      refine anyE_lastL (by kernel_rfl) rfl (by kernel_rfl) (fun K hK => ?_)
      go_simp
      refine hK.out _ _ ?_
      clear hK K
      try simp only [Act.put, List.setIfInBounds_toArray, List.set_cons_zero, List.set_cons_succ]
      have J6 := hide (J8.out.pushA hown2 (drew_grown hgr2) hloc2)
      have W6 := hide (below_push W8.out (by omega) (drew_grown hgr2) (own_blk_ge hOb.out) J8.out.lo (k := 1) (.slice ad6 (zs.length + 1) cap6))
      obtain ⟨w6, hw9⟩ : ∃ w9, w9 = v9.setCell ⟨q0, 1, none⟩ (.slice ad6 (zs.length + 1) cap6) := ⟨_, rfl⟩
      rw [← hw9] at J6 W6 ⊢
      clear hw9 hgr2 hown2 hloc2 hOb JA S9' sf2 J8 W8 hcl szw sz8 hge
      have J7 : Hid (JS w4.heap.size q0 w6 p ad6 cap6 (jdL p xs (k + 1)).1 b' cb vs) := hide (by rw [hstA.out]; exact J6.out)
      clear J6 M0 M1 gk s5 k5
      have z6 := W6.out.size
      go_upto_region 11 with fail
      have jx := J7.out
      have hm := (Below.refl w6.heap.size w6).drew
      have FF : ∀ v, Below w6.heap.size w6 v → v.cell? ⟨q0, 2, none⟩ = some (.slice b' vs.length cb) := fun v hb => (jx.below hb).c2
      refine region_E (fun v => v.cell? ⟨q0, 2, none⟩ = some (.slice b' vs.length cb)) 12 (by kernel_rfl) (FF _ hm) ?_
      intro hS
      refine anyE_takeL 0 rfl (by kernel_rfl) (fun _ _ _ h => h) hS (by rfl) (v := ?_) ?_ ?_
      rotate_left
      · intro w' hSw; (try dsimp only at hSw); go_simp; (try with_reducible rfl)
      try simp only [Act.put, List.setIfInBounds_toArray, List.set_cons_zero, List.set_cons_succ]
      refine anyE_takeL 1 rfl (by kernel_rfl) (fun _ _ _ h => h) hS (by rfl) (v := ?_) ?_ ?_
      rotate_left
      · intro w' hSw; (try dsimp only at hSw); go_simp; (try with_reducible rfl)
      try simp only [Act.put, List.setIfInBounds_toArray, List.set_cons_zero, List.set_cons_succ]
      refine anyE_takeL 2 rfl (by kernel_rfl) (fun _ _ _ h => h) hS (by rfl) (v := ?_) ?_ ?_
      rotate_left
      · intro w' hSw; (try dsimp only at hSw); go_simp; (try with_reducible rfl)
      try simp only [Act.put, List.setIfInBounds_toArray, List.set_cons_zero, List.set_cons_succ]
      refine anyE_takeL 3 rfl (by kernel_rfl) (fun _ _ _ h => h) hS (by rfl) (v := ?_) ?_ ?_
      rotate_left
      · intro w' hSw; (try dsimp only at hSw); go_simp; (try with_reducible rfl)
      try simp only [Act.put, List.setIfInBounds_toArray, List.set_cons_zero, List.set_cons_succ]
      refine anyE_takeL 4 rfl (by kernel_rfl) (fun _ _ _ h => h) hS (by rfl) (v := ?_) ?_ ?_
      rotate_left
      · intro w' hSw; (try dsimp only at hSw); go_simp; (try with_reducible rfl)
      try simp only [Act.put, List.setIfInBounds_toArray, List.set_cons_zero, List.set_cons_succ]
      refine anyE_takeL 7 rfl (by kernel_rfl) (fun _ _ _ h => h) hS (by rfl) (v := ?_) ?_ ?_
      rotate_left
      · intro w' hSw; (try dsimp only at hSw); go_simp; (try with_reducible rfl)
      try simp only [Act.put, List.setIfInBounds_toArray, List.set_cons_zero, List.set_cons_succ]
      clear hS
      obtain ⟨y0, hy0⟩ : ∃ u, u = w6.drew := ⟨_, rfl⟩
      rw [← hy0] at hm ⊢
      clear hy0
      refine anyE_oneL 5 (by kernel_rfl) rfl (fun K hK => ?_)
      go_simp
      refine (l01Inverse_any p (lsN p xs k) _ hp hp2 (by rw [← hL.out]; exact lra) (by rw [← hL.out]; exact lrb)).mono ?_
      rintro e y0' ⟨rfl, rfl⟩
      dsimp only
      rw [← hL.out, ← hV2.out]
      refine hK.out _ _ (FF _ hm) ?_
      clear hK K
      try simp only [Act.put, List.setIfInBounds_toArray, List.set_cons_zero, List.set_cons_succ]
      have S8 := FF _ hm
      refine anyE_takeL 6 rfl (by kernel_rfl) (fun _ _ _ h => h) S8 (by rfl) (v := ?_) ?_ ?_
      rotate_left
      · intro w' hSw; (try dsimp only at hSw); go_simp; (try with_reducible rfl)
      try simp only [Act.put, List.setIfInBounds_toArray, List.set_cons_zero, List.set_cons_succ]
      refine anyE_takeL 8 rfl (by kernel_rfl) (fun _ _ _ h => h) S8 (by rfl) (v := ?_) ?_ ?_
      rotate_left
      · intro w' hSw; (try dsimp only at hSw); go_simp; (try with_reducible rfl)
      try simp only [Act.put, List.setIfInBounds_toArray, List.set_cons_zero, List.set_cons_succ]
      clear S8
      have J8 := hide (jx.below hm)
      have szw := W6.out.size
      have W8 := hide (W6.out.trans (hm.mono (by omega)))
      have X8 := FF _ hm
      clear jx hm FF
      have hcl : (y0.alloc (.cells #[.int .i64 Bt] 2)).cell? ⟨y0.heap.size, 0, none⟩ = some (.int .i64 Bt) := by simp [go_sem]
      have hba := bl1 y0 (.cells #[.int .i64 Bt] 2)
      have JA := J8.out.below hba
      have hOb := hide JA.oB
      have sz8 := W8.out.size
      have S1 := JA.c2
      clear hba X8
      refine anyE_oneL 9 (by kernel_rfl) rfl (fun K hK => ?_)
      go_simp
      refine hK.out _ _ S1 ?_
      clear hK K
      try simp only [Act.put, List.setIfInBounds_toArray, List.set_cons_zero, List.set_cons_succ]
      refine anyE_oneL 10 (by kernel_rfl) rfl (fun K hK => ?_)
      refine step_app1 (by rfl) _ _ (by rfl) w4.heap.size _ _ _ vs (by rfl) rfl hOb.out _ _ Bt (by rfl) hcl (by omega) (by first | omega | (simp; omega)) ?_
      intro ad9 cap9 v9 hown2 hgr2 hloc2
      have hge := own_blk_ge hOb.out
      have S9 := cell_ne hgr2 JA.c2 JA.2.2.1.2.1
      have sf2 := frz_ne hgr2 JA.c2 JA.z2 JA.2.2.1.2.1
      refine hK.out _ _ S9 ?_
      clear hK K
      try simp only [Act.put, List.setIfInBounds_toArray, List.set_cons_zero, List.set_cons_succ]
      refine anyE_takeL 11 rfl (by kernel_rfl) (fun _ _ _ h => h) S9 (by rfl) (v := ?_) ?_ ?_
      rotate_left
      · intro w' hSw; (try dsimp only at hSw); go_simp; (try with_reducible rfl)
      try simp only [Act.put, List.setIfInBounds_toArray, List.set_cons_zero, List.set_cons_succ]
      have S9' := S9
      clear S9 S1
      refine anyE_lastL (by kernel_rfl) rfl (by kernel_rfl) (fun K hK => ?_)
      go_simp
      refine hK.out _ _ ?_
      clear hK K
      try simp only [Act.put, List.setIfInBounds_toArray, List.set_cons_zero, List.set_cons_succ]
      have J9 := hide (J8.out.pushB hown2 (drew_grown hgr2) hloc2)
      have W9 := hide (below_push W8.out (by omega) (drew_grown hgr2) (own_blk_ge hOb.out) J8.out.lo (k := 2) (.slice ad9 (vs.length + 1) cap9))
      obtain ⟨w9, hw9⟩ : ∃ w9, w9 = v9.setCell ⟨q0, 2, none⟩ (.slice ad9 (vs.length + 1) cap9) := ⟨_, rfl⟩
      rw [← hw9] at J9 W9 ⊢
      clear hw9 hgr2 hown2 hloc2 hOb JA S9' sf2 J8 W8 hcl szw sz8 hge
      have J10 : Hid (JS w4.heap.size q0 w9 p ad6 cap6 (jdL p xs (k + 1)).1 ad9 cap9 (jdL p xs (k + 1)).2) := hide (by rw [hstB.out]; exact J9.out)
      clear J9 J7
      go_wp2
      go_roundw
      case rel => exact ⟨k + 1, cap6, cap9, ad6, ad9, by omega, by go_num, by rw [lsx.out], J10, W9⟩
      case measure => simp [intOf]; omega
    · have hge : ¬ (k : Int) < (N : Int) := by omega
      have hkn2 : k = N := by omega
      have HP := hide HO.out.1
      have HV := hide (show jomV p xs (N : Int) = (jdL p xs k).1 by rw [HO.out.2.1, hkn2, Int.toNat_natCast])
      have HU := hide (show jomU p xs (N : Int) = (jdL p xs k).2 by rw [HO.out.2.2, hkn2, Int.toNat_natCast])
      have hk1 : 1 ≤ k := by omega
      clear hkn2
      have hll := jdL_len p xs k
      obtain ⟨us, hus⟩ : ∃ us, (jdL p xs k).1 = us := ⟨_, rfl⟩
      obtain ⟨vs, hvs⟩ : ∃ vs, (jdL p xs k).2 = vs := ⟨_, rfl⟩
      rw [hus, hvs] at hJ hll
      rw [hus] at HV
      rw [hvs] at HU
      have hul := hide hll.1
      have hvl := hide hll.2
      have c0 := hJ.out.c0
      have c1 := hJ.out.c1
      have c2 := hJ.out.c2
      have hqw := hJ.out.hi
      replace y0 := (h4r.frozen (World.block_lt_of_cell? _ _ r0)).trans y0
      replace y1 := (h4r.frozen (World.block_lt_of_cell? _ _ r1)).trans y1
      replace y2 := (h4r.frozen (World.block_lt_of_cell? _ _ r2)).trans y2
      replace r0 := cell_be h4r r0
      replace r1 := cell_be h4r r1
      replace r2 := cell_be h4r r2
      have hBw := hB.trans (h4r.mono hB.size)
      have jz := hJ.out.jz (by rw [hul.out]; omega)
      clear hus hvs hll
      go_wp2
      refine bodyPost_ret (v := .tuple #[jac p a' us.length ca b' vs.length cb, .int .i64 0]) (by simp [results, Tryd.results13, go_sem, r0, r1, r2]) rfl ?_
      have jz2 := ((jz.setLow (x := ⟨w.heap.size + 1, 0, none⟩) (by simp; omega) (.int .i64 p)).setLow (x := ⟨w.heap.size + 1, 1, none⟩) (by simp; omega) (.slice a' us.length ca)).setLow (x := ⟨w.heap.size + 1, 2, none⟩) (by simp; omega) (.slice b' vs.length cb)
      exact ResJ.mk HP.out HC2.out (by rw [HV.out]) (by rw [HU.out]) (by rw [HV.out, HU.out]; simpa using jz2.mono (lo' := w.heap.size) (by omega) (Nat.le_refl _)) (by rw [HV.out, hul.out]; omega) (by rw [HU.out, hvl.out]; omega) (((hBw.setCell (by simp) _).setCell (by simp) _).setCell (by simp) _)
end Go.Proofs.YtdjifjlgllohmaaDoor
