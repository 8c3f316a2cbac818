/- Merged texts. -/
import Derived.Test.YtpoabedlcljibaaYW120
import Derived.Test.YtpoabedlcljibaaYW119
import Derived.Test.YtpoabedlcljibaaYW122
import Derived.Test.YtpoabedlcljibaaYW128
/- Contract: JacobiOfSteps (program). -/
namespace Go.Proofs.Ytpoabedlcljibaa
open Go.RowKit
set_option linter.unusedVariables false
set_option linter.unusedSimpArgs false

def jsA (p : Int) (xs : List Int) (k : Nat) : Int := if k = 0 then xs.getD 1 0 else (xs.getD (2 * k) 0 + xs.getD (2 * k + 1) 0) % p
def jsB (p : Int) (xs : List Int) (k : Nat) : Int := if k = 0 then xs.getD 0 0 else xs.getD (2 * k - 1) 0 * xs.getD (2 * k) 0 % p
def josC (p : Int) (xs : List Int) : Int := if lisB p xs 2 24 = true ∧ xs.length % 2 = 0 then (if hasB 0 (tab (xs.length / 2) (jsB p xs)) = true then 5 else 0) else 2
def josP (p : Int) (xs : List Int) : Int := if josC p xs = 0 then p else 0
def josV (p : Int) (xs : List Int) : List Int := if josC p xs = 0 then tab (xs.length / 2) (jsA p xs) else []
def josU (p : Int) (xs : List Int) : List Int := if josC p xs = 0 then tab (xs.length / 2) (jsB p xs) else []
theorem jsA_rng {p : Int} (hp : 2 ≤ p) {xs : List Int} (h : areB p xs = true) (k : Nat) : 0 ≤ jsA p xs k ∧ jsA p xs k < p := by
  unfold jsA
  split
  · exact getD_rng h hp 1
  · exact modb hp
theorem jsB_rng {p : Int} (hp : 2 ≤ p) {xs : List Int} (h : areB p xs = true) (k : Nat) : 0 ≤ jsB p xs k ∧ jsB p xs k < p := by
  unfold jsB
  split
  · exact getD_rng h hp 0
  · exact modb hp
theorem own_blk_lt {B : Nat} {w : World} {a : Option Addr} {c : Nat} {ys : List Int} (h : Own B w a c ys) : ∀ g, blk a = some g → g < w.heap.size := fun g hg => by
  rcases h.shape with ⟨rfl, _, _⟩ | ⟨g', cur, rfl, _, hgc, _⟩
  · cases hg
  · cases hg; exact lt_of_block hgc
end Go.Proofs.Ytpoabedlcljibaa
/- Jacobi data of the call's own in a variable, whose two lists grow by appends. -/
namespace Go.Proofs.Ytpoabedlcljibaa
open Go.RowKit
set_option linter.unusedVariables false
set_option linter.unusedSimpArgs false

def JS (B q : Nat) (w : World) (p : Int) (a : Option Addr) (ca : Nat) (us : List Int) (b : Option Addr) (cb : Nat) (vs : List Int) : Prop :=
  Own B w a ca us ∧ Own B w b cb vs ∧ (blk a ≠ some q ∧ blk b ≠ some q ∧ ∀ g, blk a = some g → blk b ≠ some g) ∧
    (w.cell? ⟨q, 0, none⟩ = some (.int .i64 p) ∧ w.cell? ⟨q, 1, none⟩ = some (.slice a us.length ca) ∧ w.cell? ⟨q, 2, none⟩ = some (.slice b vs.length cb)) ∧ (w.frozen? ⟨q, 1, none⟩ = false ∧ w.frozen? ⟨q, 2, none⟩ = false) ∧ B ≤ q
section
variable {B q : Nat} {w w' : World} {p : Int} {a : Option Addr} {ca : Nat} {us : List Int} {b : Option Addr} {cb : Nat} {vs : List Int}
theorem JS.oA (h : JS B q w p a ca us b cb vs) : Own B w a ca us := h.1
theorem JS.oB (h : JS B q w p a ca us b cb vs) : Own B w b cb vs := h.2.1
theorem JS.c0 (h : JS B q w p a ca us b cb vs) : w.cell? ⟨q, 0, none⟩ = some (.int .i64 p) := h.2.2.2.1.1
theorem JS.c1 (h : JS B q w p a ca us b cb vs) : w.cell? ⟨q, 1, none⟩ = some (.slice a us.length ca) := h.2.2.2.1.2.1
theorem JS.c2 (h : JS B q w p a ca us b cb vs) : w.cell? ⟨q, 2, none⟩ = some (.slice b vs.length cb) := h.2.2.2.1.2.2
theorem JS.z1 (h : JS B q w p a ca us b cb vs) : w.frozen? ⟨q, 1, none⟩ = false := h.2.2.2.2.1.1
theorem JS.z2 (h : JS B q w p a ca us b cb vs) : w.frozen? ⟨q, 2, none⟩ = false := h.2.2.2.2.1.2
theorem JS.lo (h : JS B q w p a ca us b cb vs) : B ≤ q := h.2.2.2.2.2
theorem JS.hi (h : JS B q w p a ca us b cb vs) : q < w.heap.size := World.block_lt_of_cell? _ _ h.c0
theorem JS.below (h : JS B q w p a ca us b cb vs) (hb : Below w.heap.size w w') : JS B q w' p a ca us b cb vs :=
  ⟨h.oA.below hb, h.oB.below hb, h.2.2.1, ⟨cell_be hb h.c0, cell_be hb h.c1, cell_be hb h.c2⟩, ⟨(hb.frozen (World.block_lt_of_cell? _ _ h.c1)).trans h.z1, (hb.frozen (World.block_lt_of_cell? _ _ h.c2)).trans h.z2⟩, h.lo⟩
theorem JS.jz (h : JS B q w p a ca us b cb vs) (h0 : us.length ≠ 0) : JZ B w.heap.size w a us.length ca us b vs.length cb vs :=
  ⟨OZ.of h.oA rfl, OZ.of h.oB rfl, .inr (.inr (fun e => by
    obtain ⟨g, rfl, _⟩ := Own.blkG h.oA h0
    exact h.2.2.1.2.2 g rfl e.symm))⟩
theorem JS.pushA (h : JS B q w p a ca us b cb vs) {z : Int} {ad : Option Addr} {cap : Nat} (hown : Own B w' ad cap (us ++ [z])) (hgr : ((w.alloc (.cells #[.int .i64 z] 2)).drew).grownBy w' (blk a))
    (hloc : blk ad = blk a ∨ blk ad = some ((w.alloc (.cells #[.int .i64 z] 2)).drew).heap.size) : JS B q (w'.setCell ⟨q, 1, none⟩ (.slice ad (us.length + 1) cap)) p ad cap (us ++ [z]) b cb vs := by
  have hq := h.hi
  obtain ⟨n1, n2, n3⟩ := h.2.2.1
  have hba : Below w.heap.size w ((w.alloc (.cells #[.int .i64 z] 2)).drew) := (bl1 w _).drew
  have k := h.below hba
  have hnew : blk ad ≠ some q := by
    rcases hloc with e | e <;> rw [e]
    · exact n1
    · simp; omega
  have s1 := cell_ne hgr k.c1 n1
  refine ⟨hown.otherG hnew _, (Own.keep k.oB hgr (fun g h1 h2 => n3 g h2 h1)).otherG n2 _, ⟨hnew, n2, fun g h1 h2 => ?_⟩, ⟨cell_set2' (cell_ne hgr k.c0 n1) (by simp) _, ?_, cell_set2' (cell_ne hgr k.c2 n1) (by simp) _⟩, ⟨by simpa using frz_ne hgr k.c1 k.z1 n1, by simpa using frz_ne hgr k.c2 k.z2 n1⟩, h.lo⟩
  · rcases hloc with e | e
    · rw [e] at h1; exact n3 g h1 h2
    · rw [e] at h1
      have := own_blk_lt h.oB g h2
      simp at h1
      omega
  · rw [List.length_append]
    exact World.cell?_setCell_same _ _ _ s1
theorem JS.pushB (h : JS B q w p a ca us b cb vs) {z : Int} {bd : Option Addr} {cap : Nat} (hown : Own B w' bd cap (vs ++ [z])) (hgr : ((w.alloc (.cells #[.int .i64 z] 2)).drew).grownBy w' (blk b))
    (hloc : blk bd = blk b ∨ blk bd = some ((w.alloc (.cells #[.int .i64 z] 2)).drew).heap.size) : JS B q (w'.setCell ⟨q, 2, none⟩ (.slice bd (vs.length + 1) cap)) p a ca us bd cap (vs ++ [z]) := by
  have hq := h.hi
  obtain ⟨n1, n2, n3⟩ := h.2.2.1
  have hba : Below w.heap.size w ((w.alloc (.cells #[.int .i64 z] 2)).drew) := (bl1 w _).drew
  have k := h.below hba
  have hnew : blk bd ≠ some q := by
    rcases hloc with e | e <;> rw [e]
    · exact n2
    · simp; omega
  have s2 := cell_ne hgr k.c2 n2
  refine ⟨(Own.keep k.oA hgr (fun g h1 h2 => n3 g h1 h2)).otherG n1 _, hown.otherG hnew _, ⟨n1, hnew, fun g h1 h2 => ?_⟩, ⟨cell_set2' (cell_ne hgr k.c0 n2) (by simp) _, cell_set2' (cell_ne hgr k.c1 n2) (by simp) _, ?_⟩, ⟨by simpa using frz_ne hgr k.c1 k.z1 n2, by simpa using frz_ne hgr k.c2 k.z2 n2⟩, h.lo⟩
  · rcases hloc with e | e
    · rw [e] at h2; exact n3 g h1 h2
    · rw [e] at h2
      have := own_blk_lt h.oA g h1
      simp at h2
      omega
  · rw [List.length_append]
    exact World.cell?_setCell_same _ _ _ s2
theorem below_push {w0 : World} (hW : Below B w0 w) (hw : B ≤ w.heap.size) {z : Int} {row : Option Nat} (hgr : ((w.alloc (.cells #[.int .i64 z] 2)).drew).grownBy w' row) (hr : ∀ g, row = some g → B ≤ g) {q k : Nat} (hq : B ≤ q) (u : Value) : Below B w0 (w'.setCell ⟨q, k, none⟩ u) :=
  ((hW.trans ((bl1 w (.cells #[.int .i64 z] 2)).drew.mono hw)).grown hgr (by simp; omega) hr).setCell (by simpa using hq) _
end
end Go.Proofs.Ytpoabedlcljibaa
