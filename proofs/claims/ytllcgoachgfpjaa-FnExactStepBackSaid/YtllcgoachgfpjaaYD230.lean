/- Merged texts. -/
import Derived.Test.YtllcgoachgfpjaaYD224
import Derived.Test.YtllcgoachgfpjaaYD228
import Derived.Test.YtllcgoachgfpjaaYD229
/- Jacobi data of the call's own in a variable, whose two lists grow by appends. -/
namespace Go.Proofs.Ytllcgoachgfpjaa
open Go.RowKit
set_option linter.unusedVariables false
set_option linter.unusedSimpArgs false

def JS (B q : Nat) (w : World) (p : Int) (a : Option Addr) (ca : Nat) (us : List Int) (b : Option Addr) (cb : Nat) (vs : List Int) : Prop :=
  Own B w a ca us ∧ Own B w b cb vs ∧ (blk a ≠ some q ∧ blk b ≠ some q ∧ ∀ g, blk a = some g → blk b ≠ some g) ∧
    (w.cell? ⟨q, 0, none⟩ = some (.int .i64 p) ∧ w.cell? ⟨q, 1, none⟩ = some (.slice a us.length ca) ∧ w.cell? ⟨q, 2, none⟩ = some (.slice b vs.length cb)) ∧ (w.frozen? ⟨q, 1, none⟩ = false ∧ w.frozen? ⟨q, 2, none⟩ = false) ∧ B ≤ q
section
variable {B q : Nat} {w w' : World} {p : Int} {a : Option Addr} {ca : Nat} {us : List Int} {b : Option Addr} {cb : Nat} {vs : List Int}
theorem JS.oA (h : JS B q w p a ca us b cb vs) : Own B w a ca us := h.1
theorem JS.oB (h : JS B q w p a ca us b cb vs) : Own B w b cb vs := h.2.1
theorem JS.c0 (h : JS B q w p a ca us b cb vs) : w.cell? ⟨q, 0, none⟩ = some (.int .i64 p) := h.2.2.2.1.1
theorem JS.c1 (h : JS B q w p a ca us b cb vs) : w.cell? ⟨q, 1, none⟩ = some (.slice a us.length ca) := h.2.2.2.1.2.1
theorem JS.c2 (h : JS B q w p a ca us b cb vs) : w.cell? ⟨q, 2, none⟩ = some (.slice b vs.length cb) := h.2.2.2.1.2.2
theorem JS.z1 (h : JS B q w p a ca us b cb vs) : w.frozen? ⟨q, 1, none⟩ = false := h.2.2.2.2.1.1
theorem JS.z2 (h : JS B q w p a ca us b cb vs) : w.frozen? ⟨q, 2, none⟩ = false := h.2.2.2.2.1.2
theorem JS.lo (h : JS B q w p a ca us b cb vs) : B ≤ q := h.2.2.2.2.2
theorem JS.hi (h : JS B q w p a ca us b cb vs) : q < w.heap.size := World.block_lt_of_cell? _ _ h.c0
theorem JS.below (h : JS B q w p a ca us b cb vs) (hb : Below w.heap.size w w') : JS B q w' p a ca us b cb vs :=
  ⟨h.oA.below hb, h.oB.below hb, h.2.2.1, ⟨cell_be hb h.c0, cell_be hb h.c1, cell_be hb h.c2⟩, ⟨(hb.frozen (World.block_lt_of_cell? _ _ h.c1)).trans h.z1, (hb.frozen (World.block_lt_of_cell? _ _ h.c2)).trans h.z2⟩, h.lo⟩
theorem JS.jz (h : JS B q w p a ca us b cb vs) (h0 : us.length ≠ 0) : JZ B w.heap.size w a us.length ca us b vs.length cb vs :=
  ⟨OZ.of h.oA rfl, OZ.of h.oB rfl, .inr (.inr (fun e => by
    obtain ⟨g, rfl, _⟩ := Own.blkG h.oA h0
    exact h.2.2.1.2.2 g rfl e.symm))⟩
theorem JS.pushA (h : JS B q w p a ca us b cb vs) {z : Int} {ad : Option Addr} {cap : Nat} (hown : Own B w' ad cap (us ++ [z])) (hgr : ((w.alloc (.cells #[.int .i64 z] 2)).drew).grownBy w' (blk a))
    (hloc : blk ad = blk a ∨ blk ad = some ((w.alloc (.cells #[.int .i64 z] 2)).drew).heap.size) : JS B q (w'.setCell ⟨q, 1, none⟩ (.slice ad (us.length + 1) cap)) p ad cap (us ++ [z]) b cb vs := by
  have hq := h.hi
  obtain ⟨n1, n2, n3⟩ := h.2.2.1
  have hba : Below w.heap.size w ((w.alloc (.cells #[.int .i64 z] 2)).drew) := (bl1 w _).drew
  have k := h.below hba
  have hnew : blk ad ≠ some q := by
    rcases hloc with e | e <;> rw [e]
    · exact n1
    · simp; omega
  have s1 := cell_ne hgr k.c1 n1
  refine ⟨hown.otherG hnew _, (Own.keep k.oB hgr (fun g h1 h2 => n3 g h2 h1)).otherG n2 _, ⟨hnew, n2, fun g h1 h2 => ?_⟩, ⟨cell_set2' (cell_ne hgr k.c0 n1) (by simp) _, ?_, cell_set2' (cell_ne hgr k.c2 n1) (by simp) _⟩, ⟨by simpa using frz_ne hgr k.c1 k.z1 n1, by simpa using frz_ne hgr k.c2 k.z2 n1⟩, h.lo⟩
  · rcases hloc with e | e
    · rw [e] at h1; exact n3 g h1 h2
    · rw [e] at h1
      have := own_blk_lt h.oB g h2
      simp at h1
      omega
  · rw [List.length_append]
    exact World.cell?_setCell_same _ _ _ s1
theorem JS.pushB (h : JS B q w p a ca us b cb vs) {z : Int} {bd : Option Addr} {cap : Nat} (hown : Own B w' bd cap (vs ++ [z])) (hgr : ((w.alloc (.cells #[.int .i64 z] 2)).drew).grownBy w' (blk b))
    (hloc : blk bd = blk b ∨ blk bd = some ((w.alloc (.cells #[.int .i64 z] 2)).drew).heap.size) : JS B q (w'.setCell ⟨q, 2, none⟩ (.slice bd (vs.length + 1) cap)) p a ca us bd cap (vs ++ [z]) := by
  have hq := h.hi
  obtain ⟨n1, n2, n3⟩ := h.2.2.1
  have hba : Below w.heap.size w ((w.alloc (.cells #[.int .i64 z] 2)).drew) := (bl1 w _).drew
  have k := h.below hba
  have hnew : blk bd ≠ some q := by
    rcases hloc with e | e <;> rw [e]
    · exact n2
    · simp; omega
  have s2 := cell_ne hgr k.c2 n2
  refine ⟨(Own.keep k.oA hgr (fun g h1 h2 => n3 g h1 h2)).otherG n1 _, hown.otherG hnew _, ⟨n1, hnew, fun g h1 h2 => ?_⟩, ⟨cell_set2' (cell_ne hgr k.c0 n2) (by simp) _, cell_set2' (cell_ne hgr k.c1 n2) (by simp) _, ?_⟩, ⟨by simpa using frz_ne hgr k.c1 k.z1 n2, by simpa using frz_ne hgr k.c2 k.z2 n2⟩, h.lo⟩
  · rcases hloc with e | e
    · rw [e] at h2; exact n3 g h1 h2
    · rw [e] at h2
      have := own_blk_lt h.oA g h1
      simp at h2
      omega
  · rw [List.length_append]
    exact World.cell?_setCell_same _ _ _ s2
theorem below_push {w0 : World} (hW : Below B w0 w) (hw : B ≤ w.heap.size) {z : Int} {row : Option Nat} (hgr : ((w.alloc (.cells #[.int .i64 z] 2)).drew).grownBy w' row) (hr : ∀ g, row = some g → B ≤ g) {q k : Nat} (hq : B ≤ q) (u : Value) : Below B w0 (w'.setCell ⟨q, k, none⟩ u) :=
  ((hW.trans ((bl1 w (.cells #[.int .i64 z] 2)).drew.mono hw)).grown hgr (by simp; omega) hr).setCell (by simpa using hq) _
end
end Go.Proofs.Ytllcgoachgfpjaa
/- Mathematics of steps back. -/
namespace Go.Proofs.Ytllcgoachgfpjaa
open Go.RowKit
set_option linter.unusedVariables false
set_option linter.unusedSimpArgs false

def sbE (p : Int) (xs ys : List Int) (c q : Int) (k : Nat) : Int := if k = 0 then 0 else dfD p xs ys c q (k - 1)
def sbA (p : Int) (xs ys : List Int) (c q : Int) (k : Nat) : Int := (dfL p xs ys c q k + sbE p xs ys c q k + c) % p
def sbB (p : Int) (xs ys : List Int) (c q : Int) (k : Nat) : Int := if k = 0 then ys.getD 0 0 * invM p q % p else dfL p xs ys c q (k - 1) * dfD p xs ys c q (k - 1) % p
def sbkC (p : Int) (xs ys : List Int) (c q : Int) : Int := if jacB p xs ys then (if (0 ≤ c ∧ c ≤ p - 1) ∧ (1 ≤ q ∧ q ≤ p - 1) then (if dqB p xs ys c q (xs.length - 1) then 0 else 5) else 2) else 1
def sbkP (p : Int) (xs ys : List Int) (c q : Int) : Int := if sbkC p xs ys c q = 0 then p else 0
def sbkV (p : Int) (xs ys : List Int) (c q : Int) : List Int := if sbkC p xs ys c q = 0 then tab xs.length (sbA p xs ys c q) else []
def sbkU (p : Int) (xs ys : List Int) (c q : Int) : List Int := if sbkC p xs ys c q = 0 then tab xs.length (sbB p xs ys c q) else []
theorem sbk_err {p : Int} {xs ys : List Int} {c q e : Int} (h : sbkC p xs ys c q = e) (he : e ≠ 0) : sbkP p xs ys c q = 0 ∧ sbkV p xs ys c q = [] ∧ sbkU p xs ys c q = [] := by
  have : sbkC p xs ys c q ≠ 0 := by rw [h]; exact he
  exact ⟨if_neg this, if_neg this, if_neg this⟩
def sbT (p : Int) (xs ys : List Int) (c q : Int) (n : Nat) : List Int := [ys.getD 0 0 * invM p q % p, q] ++ dqV p xs ys c q (n - 1)
theorem sbT_len (p : Int) (xs ys : List Int) (c q : Int) (n : Nat) (hn : 1 ≤ n) : (sbT p xs ys c q n).length = 2 * n := by
  simp only [sbT, List.length_append, dqV_len, List.length_cons, List.length_nil]
  omega
theorem sbT_tail (p : Int) (xs ys : List Int) (c q : Int) (n j : Nat) : (sbT p xs ys c q n).getD (j + 2) 0 = (dqV p xs ys c q (n - 1)).getD j 0 := by
  simp [sbT, List.getD_eq_getElem?_getD, List.getElem?_append]
theorem sbT_L (p : Int) (xs ys : List Int) (c q : Int) (n k : Nat) (hk : k < n) : (sbT p xs ys c q n).getD (2 * k + 1) 0 = dfL p xs ys c q k := by
  cases k with
  | zero => rfl
  | succ k => rw [show 2 * (k + 1) + 1 = (2 * k + 1) + 2 by omega, sbT_tail, (dqV_at p xs ys c q (n - 1) k (by omega)).2]
theorem sbT_D (p : Int) (xs ys : List Int) (c q : Int) (n k : Nat) (hk : k + 1 < n) : (sbT p xs ys c q n).getD (2 * (k + 1)) 0 = dfD p xs ys c q k := by
  rw [show 2 * (k + 1) = (2 * k) + 2 by omega, sbT_tail, (dqV_at p xs ys c q (n - 1) k (by omega)).1]
theorem sbk_jos {p : Int} (hP : primeB p = true) {xs ys : List Int} {c q : Int} {n : Nat} (hl : xs.length = n) (hl2 : ys.length = n) (n1 : 1 ≤ n) (n2 : n ≤ 12) (hy : posB p ys = true) (q0 : 1 ≤ q) (q1 : q < p) (hd : dqB p xs ys c q (n - 1) = true) :
    josC p (sbT p xs ys c q n) = 0 ∧ josV p (sbT p xs ys c q n) = tab n (jsA p (sbT p xs ys c q n)) ∧ josU p (sbT p xs ys c q n) = tab n (jsB p (sbT p xs ys c q n)) ∧ josP p (sbT p xs ys c q n) = p ∧
      jacB p (tab n (jsA p (sbT p xs ys c q n))) (tab n (jsB p (sbT p xs ys c q n))) = true ∧ tab n (afA p 1 c (tab n (jsA p (sbT p xs ys c q n))) n) = tab n (sbA p xs ys c q) ∧ tab n (afB p 1 (tab n (jsB p (sbT p xs ys c q n))) n) = tab n (sbB p xs ys c q) := by
  have hp := (primeB_lo hP).1
  have hT := sbT_len p xs ys c q n n1
  have hA : areB p (sbT p xs ys c q n) = true := areB_mk fun j hj => by
    rw [hT] at hj
    by_cases e : j % 2 = 1
    · rw [show j = 2 * (j / 2) + 1 by omega, sbT_L _ _ _ _ _ _ _ (by omega)]
      exact dfL_rng hp xs ys c (by omega) q1 _
    · by_cases e0 : j = 0
      · subst e0; exact modb hp
      · rw [show j = 2 * ((j / 2 - 1) + 1) by omega, sbT_D _ _ _ _ _ _ _ (by omega)]
        exact dfD_rng hp xs ys c q _
  have hB : ∀ k, k < n → jsB p (sbT p xs ys c q n) k = sbB p xs ys c q k := fun k hk => by
    unfold jsB sbB
    by_cases e : k = 0
    · subst e; rfl
    · rw [if_neg e, if_neg e]
      obtain ⟨j, rfl⟩ : ∃ j, k = j + 1 := ⟨k - 1, by omega⟩
      rw [sbT_D _ _ _ _ _ _ _ hk, show 2 * (j + 1) - 1 = 2 * j + 1 by omega, sbT_L _ _ _ _ _ _ _ (by omega)]
      rfl
  have hL : ∀ k, k < n → 0 < dfL p xs ys c q k := fun k hk => by
    cases k with
    | zero => exact q0
    | succ k => exact dfL_pos hP hy hd k (by omega) (by omega)
  have hne : ∀ k, k < n → jsB p (sbT p xs ys c q n) k ≠ 0 := fun k hk => by
    rw [hB k hk]
    unfold sbB
    by_cases e : k = 0
    · rw [if_pos e]
      have a1 := posB_at hy 0 (by omega)
      have a2 := invM_pos hP (x := q) (by omega) q1
      have a3 := invM_rng q hp
      exact prime_mul hP (by omega) a1.2 a2 a3.2
    · rw [if_neg e]
      have a1 := hL (k - 1) (by omega)
      have a2 := dfL_rng hp xs ys c (l0 := q) (by omega) q1 (k - 1)
      have a3 := dqB_at hd (k - 1) (by omega)
      have a4 := dfD_rng hp xs ys c q (k - 1)
      exact prime_mul hP a1 a2.2 (by omega) a4.2
  have hz : hasB 0 (tab n (jsB p (sbT p xs ys c q n))) = false := hasB_tab hne
  have hLi : lisB p (sbT p xs ys c q n) 2 24 = true := by
    simp only [lisB, hP, hA, hT]
    simp
    omega
  have hC : josC p (sbT p xs ys c q n) = 0 := by
    unfold josC
    rw [if_pos ⟨hLi, by rw [hT]; omega⟩, hT, show 2 * n / 2 = n by omega, hz]
    rfl
  have hJ := jos_jac hP hA n n1 n2
  rw [hz] at hJ
  refine ⟨hC, ?_, ?_, ?_, hJ, ?_, ?_⟩
  · rw [josV, if_pos hC, hT, show 2 * n / 2 = n by omega]
  · rw [josU, if_pos hC, hT, show 2 * n / 2 = n by omega]
  · rw [josP, if_pos hC]
  · apply tab_congr
    intro k hk
    unfold afA sbA
    rw [if_pos hk, tab_at _ _ _ hk, Int.one_mul]
    have e : jsA p (sbT p xs ys c q n) k = (dfL p xs ys c q k + sbE p xs ys c q k) % p := by
      unfold jsA sbE
      by_cases e : k = 0
      · subst e
        rw [if_pos rfl, if_pos rfl]
        show q = (q + 0) % p
        rw [Int.add_zero, Int.emod_eq_of_lt (by omega) q1]
      · rw [if_neg e, if_neg e, sbT_L _ _ _ _ _ _ _ hk]
        obtain ⟨j, rfl⟩ : ∃ j, k = j + 1 := ⟨k - 1, by omega⟩
        rw [sbT_D _ _ _ _ _ _ _ hk, Int.add_comm]
        rfl
    rw [e, Int.emod_add_emod]
  · rw [afB_id hp (areB_mk fun j hj => by rw [tab_len] at hj; rw [tab_at _ _ _ hj]; exact jsB_rng hp hA j) n (tab_len _ _)]
    exact tab_congr hB
end Go.Proofs.Ytllcgoachgfpjaa
