/- Contracts: polysOf with the places of its rows, InverseTriangle (program, model). -/
import Derived.Test.YtcadiepghhnbeaaRe
import Derived.Test.YtcadiepghhnbeaaCk
import Derived.Test.YtcadiepghhnbeaaRf
namespace Go.Proofs.Ytcadiepghhnbeaa
open Go.RowKit
set_option linter.unusedVariables false
set_option linter.unusedSimpArgs false

/-- What a closure of a recurrence keeps of memory, with the places of the two rows. -/
structure RCx (B : Nat) (w0 w : World) (p : Int) (a : Option Addr) (n c : Nat) (b : Option Addr) (d : Nat) (k : Nat) (ac : Option Addr) (nf cc : Nat) (an : Option Addr) (ng cn : Nat) : Prop where
  hb : Below w0.heap.size w0 w
  lb : w0.heap.size ≤ B
  sz : B + 4 ≤ w.heap.size
  j0 : w.cell? ⟨B, 0, none⟩ = some (.int .i64 p)
  j1 : w.cell? ⟨B, 1, none⟩ = some (.slice a n c)
  j2 : w.cell? ⟨B, 2, none⟩ = some (.slice b n d)
  c0 : w.cell? ⟨B + 1, 0, none⟩ = some (.slice ac nf cc)
  n0 : w.cell? ⟨B + 1 + 1, 0, none⟩ = some (.slice an ng cn)
  kk : w.cell? ⟨B + 1 + 1 + 1, 0, none⟩ = some (.int .i64 k)
  fc : w.frozen? ⟨B + 1, 0, none⟩ = false
  fn : w.frozen? ⟨B + 1 + 1, 0, none⟩ = false
  fk : w.frozen? ⟨B + 1 + 1 + 1, 0, none⟩ = false
theorem RCx.below {B : Nat} {w0 w w' : World} {p : Int} {a : Option Addr} {n c : Nat} {b : Option Addr} {d k : Nat} {ac : Option Addr} {nf cc : Nat} {an : Option Addr} {ng cn : Nat} (h : RCx B w0 w p a n c b d k ac nf cc an ng cn) (t : Below w.heap.size w w') : RCx B w0 w' p a n c b d k ac nf cc an ng cn :=
  ⟨h.hb.trans (t.mono h.hb.size), h.lb, Nat.le_trans h.sz t.size, cell_be t h.j0, cell_be t h.j1, cell_be t h.j2, cell_be t h.c0, cell_be t h.n0, cell_be t h.kk,
    (t.frozen (World.block_lt_of_cell? _ _ h.c0)).trans h.fc, (t.frozen (World.block_lt_of_cell? _ _ h.n0)).trans h.fn, (t.frozen (World.block_lt_of_cell? _ _ h.kk)).trans h.fk⟩
theorem RCx.grown {B : Nat} {w0 w w' : World} {p : Int} {a : Option Addr} {n c : Nat} {b : Option Addr} {d k : Nat} {ac : Option Addr} {nf cc : Nat} {an : Option Addr} {ng cn : Nat} {row : Option Nat} (h : RCx B w0 w p a n c b d k ac nf cc an ng cn) (g : w.grownBy w' row) (hr : ∀ x, row = some x → w0.heap.size ≤ x ∧ (x < B ∨ B + 4 ≤ x)) : RCx B w0 w' p a n c b d k ac nf cc an ng cn := by
  have ne : ∀ i, B ≤ i → i < B + 4 → row ≠ some i := fun i h1 h2 e => by have := (hr i e).2; omega
  have n0 := ne B (by omega) (by omega)
  have n1 := ne (B + 1) (by omega) (by omega)
  have n2 := ne (B + 1 + 1) (by omega) (by omega)
  have n3 := ne (B + 1 + 1 + 1) (by omega) (by omega)
  exact ⟨h.hb.grown g h.hb.size (fun x e => (hr x e).1), h.lb, Nat.le_trans h.sz g.size, cell_ne g h.j0 n0, cell_ne g h.j1 n0, cell_ne g h.j2 n0, cell_ne g h.c0 n1, cell_ne g h.n0 n2, cell_ne g h.kk n3,
    frz_ne g h.c0 h.fc n1, frz_ne g h.n0 h.fn n2, frz_ne g h.kk h.fk n3⟩
set_option maxRecDepth 100000 in
set_option maxHeartbeats 1600000 in
theorem recurrence_rc (p : Int) (a : Option Addr) (n c : Nat) (b : Option Addr) (d : Nat) (x1 : Option Addr) (n1 c1 : Nat) (x2 : Option Addr) (n2 c2 : Nat) (w0 w : World) (hb : Below w0.heap.size w0 w) :
    Calls Try.prog 90 #[jac p a n c b n d, .slice x1 n1 c1, .slice x2 n2 c2] w fun e w' => e = .returned (rclo w.heap.size) ∧ RCx w.heap.size w0 w' p a n c b d 0 x1 n1 c1 x2 n2 c2 ∧ Below w.heap.size w w' := by
  have hs := hb.size
  go_enter Try.func90, Try.ntmps90
  go_wp2
  go_ret
  have t : Below w.heap.size w ((((w.alloc (.cells #[.int .i64 p, .slice a n c, .slice b n d] 45)).alloc (.cells #[.slice x1 n1 c1] 22)).alloc (.cells #[.slice x2 n2 c2] 22)).alloc (.cells #[.int .i64 0] 3)) := bl4 _ _ _ _ _
  refine ⟨rfl, ⟨hb.trans (t.mono hs), hs, by simp, by simp [go_sem], by simp [go_sem], by simp [go_sem], by simp [go_sem], by simp [go_sem], by simp [go_sem], by simp [go_sem], by simp [go_sem], by simp [go_sem]⟩, t⟩
set_option maxRecDepth 100000 in
set_option maxHeartbeats 3200000 in
theorem next_rc (p : Int) (a : Option Addr) (n c : Nat) (xs : List Int) (b : Option Addr) (d : Nat) (ys : List Int) (k m : Nat) (f g : List Int) (B : Nat) (ac : Option Addr) (cc : Nat) (an : Option Addr) (cn : Nat) (w0 w : World) (hs : SL w0 a n c xs) (ht : SL w0 b n d ys) (hpr : primeB p = true) (hx : areB p xs = true) (hy : areB p ys = true) (hn : n ≤ 100) (hk : k ≤ n)
    (hf : Small p m f) (hg : Small p m g) (hm : m ≤ 24) (h : RCx B w0 w p a n c b d k ac f.length cc an g.length cn) (ck : SL w ac f.length cc f) (nk : SL w an g.length cn g) (dc : ∀ x, blk ac = some x → x < B ∨ B + 4 ≤ x) (dn : ∀ x, blk an = some x → x < B ∨ B + 4 ≤ x) :
    Calls Try.prog 105 #[.pointer (some ⟨B + 1, 0, none⟩), .pointer (some ⟨B + 1 + 1, 0, none⟩), .pointer (some ⟨B + 1 + 1 + 1, 0, none⟩), .pointer (some ⟨B, 0, none⟩)] w
      fun e w' => e = .returned (.slice ac f.length cc) ∧ Touch B (B + 4) w w' ∧ (k + 1 < n → ∃ a' c', Own w.heap.size w' a' c' (stp p (xs.getD (k + 1) 0) (ys.getD (k + 1) 0) g f) ∧ RCx B w0 w' p a n c b d (k + 1) an g.length cn a' (stp p (xs.getD (k + 1) 0) (ys.getD (k + 1) 0) g f).length c') := by
  obtain ⟨hb, lb, sz, j0, j1, j2, c0, n0, kk, fc, fn, fk⟩ := h
  obtain ⟨hp, hp2⟩ := primeB_lo hpr
  obtain ⟨i, hi⟩ : ∃ i, k + 1 = i := ⟨_, rfl⟩
  rw [hi]
  have Hi := Lib.hid hi
  have vk : IntKind.i64.wrap ((k : Int) + 1) = (i : Int) := by rw [← hi]; exact IntWalk.i64_in _ (by omega)
  -- the world behind the first two stores
  have t2 : Touch B (B + 4) w ((w.setCell ⟨B + 1, 0, none⟩ (.slice an g.length cn)).setCell ⟨B + 1 + 1 + 1, 0, none⟩ (.int .i64 i)) := ((Touch.refl _ _ _).set (by simp) (by simp) _).set (by simp; omega) (by simp) _
  have q0 : ((w.setCell ⟨B + 1, 0, none⟩ (.slice an g.length cn)).setCell ⟨B + 1 + 1 + 1, 0, none⟩ (.int .i64 i)).cell? ⟨B, 0, none⟩ = some (.int .i64 p) := cell_set2 (cell_set2 j0 (by simp) _) (by simp; omega) _
  have q1 : ((w.setCell ⟨B + 1, 0, none⟩ (.slice an g.length cn)).setCell ⟨B + 1 + 1 + 1, 0, none⟩ (.int .i64 i)).cell? ⟨B, 1, none⟩ = some (.slice a n c) := cell_set2 (cell_set2 j1 (by simp) _) (by simp; omega) _
  have q2 : ((w.setCell ⟨B + 1, 0, none⟩ (.slice an g.length cn)).setCell ⟨B + 1 + 1 + 1, 0, none⟩ (.int .i64 i)).cell? ⟨B, 2, none⟩ = some (.slice b n d) := cell_set2 (cell_set2 j2 (by simp) _) (by simp; omega) _
  have q3 : ((w.setCell ⟨B + 1, 0, none⟩ (.slice an g.length cn)).setCell ⟨B + 1 + 1 + 1, 0, none⟩ (.int .i64 i)).cell? ⟨B + 1, 0, none⟩ = some (.slice an g.length cn) := cell_set2 (World.cell?_setCell_same _ _ _ c0) (by simp <;> omega) _
  have q4 : ((w.setCell ⟨B + 1, 0, none⟩ (.slice an g.length cn)).setCell ⟨B + 1 + 1 + 1, 0, none⟩ (.int .i64 i)).cell? ⟨B + 1 + 1, 0, none⟩ = some (.slice an g.length cn) := cell_set2 (cell_set2 n0 (by simp <;> omega) _) (by simp <;> omega) _
  have q6 : ((w.setCell ⟨B + 1, 0, none⟩ (.slice an g.length cn)).setCell ⟨B + 1 + 1 + 1, 0, none⟩ (.int .i64 i)).cell? ⟨B + 1 + 1 + 1, 0, none⟩ = some (.int .i64 i) := World.cell?_setCell_same _ _ _ (cell_set2 kk (by simp <;> omega) _)
  have r1 : ((w.setCell ⟨B + 1, 0, none⟩ (.slice an g.length cn)).setCell ⟨B + 1 + 1 + 1, 0, none⟩ (.int .i64 i)).frozen? ⟨B + 1, 0, none⟩ = false := by simpa using fc
  have r2 : ((w.setCell ⟨B + 1, 0, none⟩ (.slice an g.length cn)).setCell ⟨B + 1 + 1 + 1, 0, none⟩ (.int .i64 i)).frozen? ⟨B + 1 + 1, 0, none⟩ = false := by simpa using fn
  have r3 : ((w.setCell ⟨B + 1, 0, none⟩ (.slice an g.length cn)).setCell ⟨B + 1 + 1 + 1, 0, none⟩ (.int .i64 i)).frozen? ⟨B + 1 + 1 + 1, 0, none⟩ = false := by simpa using fk
  have ck2 : SL ((w.setCell ⟨B + 1, 0, none⟩ (.slice an g.length cn)).setCell ⟨B + 1 + 1 + 1, 0, none⟩ (.int .i64 i)) ac f.length cc f := (ck.otherG (fun e => by have := dc _ e; omega) _).otherG (fun e => by have := dc _ e; omega) _
  have nk2 : SL ((w.setCell ⟨B + 1, 0, none⟩ (.slice an g.length cn)).setCell ⟨B + 1 + 1 + 1, 0, none⟩ (.int .i64 i)) an g.length cn g := (nk.otherG (fun e => by have := dn _ e; omega) _).otherG (fun e => by have := dn _ e; omega) _
  have B2 := below_touch hb t2 lb (by omega)
  have z2 := t2.size
  have HZ := hide (show w.heap.size = ((w.setCell ⟨B + 1, 0, none⟩ (.slice an g.length cn)).setCell ⟨B + 1 + 1 + 1, 0, none⟩ (.int .i64 i)).heap.size by simp)
  by_cases hlt : i < n
  · have hlt' : (i : Int) < (n : Int) := by omega
    have x1 := getD_rng hx hp i
    have x2 := getD_rng hy hp i
    obtain ⟨x, hxx⟩ : ∃ x, xs.getD i 0 = x := ⟨_, rfl⟩
    obtain ⟨y, hyy⟩ : ∃ y, ys.getD i 0 = y := ⟨_, rfl⟩
    rw [hxx] at x1
    rw [hyy] at x2
    have HX := hide hxx
    have HY := hide hyy
    have Hx := hide hx
    have Hy := hide hy
    have HF := hide hf.are
    have HG := hide hg.are
    have lf := hf.2
    have lg := hg.2
    have ss := hs.below B2
    have st := ht.below B2
    clear hxx hyy hs ht hx hy hpr hi hf hg
    go_enter Try.func105, Try.ntmps105
    go_wp2_with fail
    clear c0 n0 kk j0 j1 j2 fc fn fk ck nk vk
    generalize ((w.setCell ⟨B + 1, 0, none⟩ (.slice an g.length cn)).setCell ⟨B + 1 + 1 + 1, 0, none⟩ (.int .i64 i)) = wx at *
    refine (nextPoly_any p _ _ _ xs _ _ _ ys i _ x y _ _ _ f _ _ _ g _ ss st ck2 nk2 rfl HX.out HY.out hlt hlt hn hn hp hp2 x1.1 x1.2 x2.1 x2.2 HF.out HG.out (by omega) (by omega)).mono ?_
    rintro e w5 ⟨a5, c5, rfl, ho5, hm5⟩
    have y0 := cell_be hm5 q0
    have y1 := cell_be hm5 q1
    have y2 := cell_be hm5 q2
    have y3 := cell_be hm5 q3
    have y4 := cell_be hm5 q4
    have y6 := cell_be hm5 q6
    have v1 := (hm5.frozen (World.block_lt_of_cell? _ _ q3)).trans r1
    have v2 := (hm5.frozen (World.block_lt_of_cell? _ _ q4)).trans r2
    have v3 := (hm5.frozen (World.block_lt_of_cell? _ _ q6)).trans r3
    have t4 : Touch B (B + 4) w w5 := t2.trans (Touch.ofBelow hm5)
    have z5 := hm5.size
    have B5 := below_touch hb t4 lb (by omega)
    have zx : w.heap.size = wx.heap.size := HZ.out
    clear q0 q1 q2 q3 q4 q6 r1 r2 r3 ck2 nk2 B2 t2 ss st
    go_wp2
    go_ret
    have t5 : Touch B (B + 4) w5 (w5.setCell ⟨B + 1 + 1, 0, none⟩ (.slice a5 (stp p x y g f).length c5)) := (Touch.refl _ _ _).set (by simp <;> omega) (by simp) _
    have tf := t4.trans t5
    have zf := t5.size
    refine ⟨rfl, tf, fun _ => ⟨a5, c5, ?_, ?_⟩⟩
    · rw [HX.out, HY.out]
      exact (ho5.mono (B' := w.heap.size) (by omega)).otherG (fun e => by have := own_blk_ge ho5 _ e; omega) _
    · rw [HX.out, HY.out]
      exact ⟨below_touch B5 t5 lb (by omega), lb, Nat.le_trans (show B + 4 ≤ w5.heap.size by omega) zf, cell_set2 y0 (by simp <;> omega) _, cell_set2 y1 (by simp <;> omega) _, cell_set2 y2 (by simp <;> omega) _, cell_set2 y3 (by simp <;> omega) _, World.cell?_setCell_same _ _ _ y4, cell_set2 y6 (by simp <;> omega) _, by simpa using v1, by simpa using v2, by simpa using v3⟩
  · have hge : (n : Int) ≤ (i : Int) := by omega
    clear hi
    go_enter Try.func105, Try.ntmps105
    go_wp2
    go_ret
    exact ⟨rfl, t2, fun e => absurd e hlt⟩
set_option maxRecDepth 100000 in
set_option maxHeartbeats 1200000 in
theorem polysOf_rc (p : Int) (a : Option Addr) (n c : Nat) (xs : List Int) (b : Option Addr) (d : Nat) (ys : List Int) (w0 w : World) (hs : SL w0 a n c xs) (hn : 1 ≤ n) (hp : 2 ≤ p) (hp2 : p ≤ 10007) (hx : areB p xs = true) (hb : Below w0.heap.size w0 w) :
    Calls Try.prog 68 #[jac p a n c b n d] w fun e w' => ∃ B ac cc an cn, e = .returned (rclo B) ∧ w.heap.size ≤ B ∧ RCx B w0 w' p a n c b d 0 ac 1 cc an 2 cn ∧ Own w.heap.size w' ac cc [1] ∧ Own w.heap.size w' an cn (linM p (xs.getD 0 0)) ∧ (∀ x, blk ac = some x → x < B ∧ blk an ≠ some x) ∧ (∀ x, blk an = some x → x < B) ∧ Below w.heap.size w w' := by
  obtain ⟨b1, o1, rfl, hw1, hc1⟩ := hs.at (by omega)
  have hbx := bl1 w (.cells #[.int .i64 p, .slice (some ⟨b1, o1, none⟩) n c, .slice b n d] 45)
  have e1 : (w.alloc (.cells #[.int .i64 p, .slice (some ⟨b1, o1, none⟩) n c, .slice b n d] 45)).cell? ⟨b1, o1, none⟩ = some (.int .i64 (xs.getD 0 0)) := cell_al (cell_be hb (hc1 0 (by omega))) _
  have f0 : (w.alloc (.cells #[.int .i64 p, .slice (some ⟨b1, o1, none⟩) n c, .slice b n d] 45)).cell? ⟨w.heap.size, 0, none⟩ = some (.int .i64 p) := by simp [go_sem]
  have f1 : (w.alloc (.cells #[.int .i64 p, .slice (some ⟨b1, o1, none⟩) n c, .slice b n d] 45)).cell? ⟨w.heap.size, 1, none⟩ = some (.slice (some ⟨b1, o1, none⟩) n c) := by simp [go_sem]
  have f2 : (w.alloc (.cells #[.int .i64 p, .slice (some ⟨b1, o1, none⟩) n c, .slice b n d] 45)).cell? ⟨w.heap.size, 2, none⟩ = some (.slice b n d) := by simp [go_sem]
  have x1 := getD_rng hx hp 0
  obtain ⟨x, hxx⟩ : ∃ x, xs.getD 0 0 = x := ⟨_, rfl⟩
  rw [hxx] at e1 x1 ⊢
  have hlt : (0 : Int) < (n : Int) := by omega
  have hn0 : 0 < n := hn
  have hn1 : ¬ n = 0 := by omega
  have hs0 := hb.size
  have hsz : w.heap.size + 1 = (w.alloc (.cells #[.int .i64 p, .slice (some ⟨b1, o1, none⟩) n c, .slice b n d] 45)).heap.size := by simp
  clear hc1 hxx hs hx
  go_enter Try.func68, Try.ntmps68
  go_wp2
  generalize (w.alloc (.cells #[.int .i64 p, .slice (some ⟨b1, o1, none⟩) n c, .slice b n d] 45)) = wx at *
  have hd0 := (Below.refl wx.heap.size wx).drew
  have hd1 : Below wx.heap.size wx (wx.alloc (.cells #[.int .i64 1] 2)).drew := (bl1 wx _).drew
  have L1 : Own wx.heap.size (wx.alloc (.cells #[.int .i64 1] 2)).drew (some ⟨wx.heap.size, 0, none⟩) 1 [1] := (litOwn wx wx.heap.size (Nat.le_refl _) 1).below (Below.refl _ _).drew
  have F : ∀ w', Below wx.heap.size wx w' → w'.cell? ⟨w.heap.size, 0, none⟩ = some (.int .i64 p) ∧ w'.cell? ⟨w.heap.size, 1, none⟩ = some (.slice (some ⟨b1, o1, none⟩) n c) ∧ w'.cell? ⟨w.heap.size, 2, none⟩ = some (.slice b n d) ∧ w'.cell? ⟨b1, o1, none⟩ = some (.int .i64 x) := fun w' h => ⟨cell_be h f0, cell_be h f1, cell_be h f2, cell_be h e1⟩
  have hB0 : Below w0.heap.size w0 wx := hb.trans (hbx.mono hs0)
  go_region_held3 (fun w' => w'.cell? ⟨w.heap.size, 0, none⟩ = some (.int .i64 p) ∧ w'.cell? ⟨w.heap.size, 1, none⟩ = some (.slice (some ⟨b1, o1, none⟩) n c) ∧ w'.cell? ⟨w.heap.size, 2, none⟩ = some (.slice b n d) ∧ w'.cell? ⟨b1, o1, none⟩ = some (.int .i64 x))
    (first | exact F _ (by assumption) | exact F _ (hm3.alloc (by have := hb3.size; simp at this ⊢; omega) _))
    (first
    | (go_at_call 91; refine (linear_any p x _ hp hp2 x1.1 x1.2).mono ?_; rintro e w3 ⟨rfl, ho3, hb3⟩; have hm3 := bnext hd1 hb3)
    | (go_at_call 91; refine (linear_any p x _ hp hp2 x1.1 x1.2).mono ?_; rintro e w3 ⟨rfl, ho3, hb3⟩; have hm3 := bnext hd0 hb3)
    | (go_at_call 90
       have zz := hb3.size
       simp at zz ho3
       have O1 := L1.below hb3
       have c3 := own_ltQ ho3 _ rfl
       refine (recurrence_rc p _ n c b d _ 1 1 _ 2 2 w0 _ (hB0.trans (hm3.mono (by omega)))).mono ?_
       rintro e w4 ⟨rfl, hR, hb4⟩
       have hm4 := bnext hm3 hb4)
    | (go_at_call 90
       have zz := hm3.size
       simp at ho3
       have hx3 := bl1 w3 (.cells #[.int .i64 1] 2)
       have hz3 : (w3.alloc (.cells #[.int .i64 1] 2)).heap.size = w3.heap.size + 1 := by simp
       have O1 := litOwn w3 w3.heap.size (Nat.le_refl _) 1
       have c3 := own_ltQ ho3 _ rfl
       have ho4 := ho3.below hx3
       clear ho3
       have ho3 := ho4
       refine (recurrence_rc p _ n c b d _ 1 1 _ 2 2 w0 _ (hB0.trans ((bnext hm3 hx3).mono (by omega)))).mono ?_
       rintro e w4 ⟨rfl, hR, hb4⟩
       have hm4 := bnext (bnext hm3 hx3) hb4))
  all_goals
    go_wp2
    go_ret
    have c1 := own_ltQ O1
    have c2 := own_ltQ ho3
    refine ⟨_, _, _, _, _, rfl, ?_, (by first | exact hR | simpa using hR), (O1.below hb4).mono ?_, (ho3.below hb4).mono ?_, fun x hx => ⟨?_, ?_⟩, fun x hx => ?_, hbx.trans (hm4.mono (by omega))⟩
    · have := hm3.size; simp at *; omega
    · first | omega | (have := hm3.size; simp at *; omega)
    · first | omega | (have := hm3.size; simp at *; omega)
    · have q := c1 x hx; (try simp at q); omega
    · intro e; simp only [blk, Option.some.injEq] at hx e; omega
    · have q := c2 x hx; (try simp at q); omega
theorem OwnV.touchQ {B lo hi : Nat} {w w' : World} {a : Option Addr} {cap : Nat} {ys : List Value} (h : OwnV B w a cap ys) (t : Touch lo hi w w') (hd : ∀ g, blk a = some g → g < lo ∨ hi ≤ g) : OwnV B w' a cap ys := by
  refine ⟨h.1, ?_⟩
  rcases h.2 with h' | ⟨g, c, cur, h1, h2, h3, h4⟩
  · exact .inl h'
  · refine .inr ⟨g, c, cur, h1, h2, (t.block g (lt_of_block h3) (hd g ?_)).trans h3, h4⟩
    simp only [Value.slice.injEq] at h1
    rw [h1.1]; rfl
/-- Behind t rounds: the rows that are kept, the row that comes next and the one behind it. -/
structure TriI (w wr : World) (B : Nat) (p : Int) (a : Option Addr) (m c : Nat) (b : Option Addr) (d : Nat) (X : Nat → List Int) (t : Nat) (r : Option Addr) (vs : List Value) (A : Nat → Option Addr) (C : Nat → Nat) : Prop where
  v : ∀ j, j < t → vs[j]? = some (.slice (A j) (X j).length (C j))
  o : ∀ j, j < t + 2 → (j < m ∨ t < m) → Own w.heap.size wr (A j) (C j) (X j)
  dj : ∀ j, j < t + 2 → (j < m ∨ t < m) → ∀ x, blk (A j) = some x → blk r ≠ some x ∧ (x < B ∨ B + 4 ≤ x)
  e : ∀ i j, i < j → j < t + 2 → (j < m ∨ t < m) → ∀ x, blk (A i) = some x → blk (A j) ≠ some x
  rr : ∀ x, blk r = some x → w.heap.size + 1 ≤ x ∧ x < wr.heap.size ∧ (x < B ∨ B + 4 ≤ x)
  rc : t < m → RCx B w wr p a m c b d t (A t) (X t).length (C t) (A (t + 1)) (X (t + 1)).length (C (t + 1))
  sz : B + 4 ≤ wr.heap.size
  lo : w.heap.size ≤ B
theorem TriI.step {w wr w3 wl w' : World} {B : Nat} {p : Int} {a : Option Addr} {m c : Nat} {b : Option Addr} {d : Nat} {X : Nat → List Int} {t : Nat} {r ad' : Option Addr} {vs : List Value} {A : Nat → Option Addr} {C : Nat → Nat}
    (h : TriI w wr B p a m c b d X t r vs A C) (ht : t < m) (hvl : vs.length = t) (tt : Touch B (B + 4) wr w3) (a' : Option Addr) (c' : Nat)
    (hn : t + 1 < m → Own wr.heap.size w3 a' c' (X (t + 2)) ∧ RCx B w w3 p a m c b d (t + 1) (A (t + 1)) (X (t + 1)).length (C (t + 1)) a' (X (t + 2)).length c')
    (hba : Below w3.heap.size w3 wl) (hzl : w3.heap.size ≤ wl.heap.size) (hgr : wl.grownBy w' (blk r)) (hloc : blk ad' = blk r ∨ blk ad' = some wl.heap.size) (hlt : ∀ x, blk ad' = some x → x < w'.heap.size) :
    TriI w w' B p a m c b d X (t + 1) ad' (vs ++ [Value.slice (A t) (X t).length (C t)]) (fun j => if j = t + 2 then a' else A j) (fun j => if j = t + 2 then c' else C j) := by
  obtain ⟨v, o, dd, e, rr, rc, sz, lo⟩ := h
  have z3 := tt.size
  have z4 := hgr.size
  have ol : ∀ j, j < t + 2 → ∀ x, blk (A j) = some x → x < wr.heap.size := fun j hj x hx => own_ltQ (o j hj (.inr ht)) x hx
  have on : ∀ j, j < t + 2 → Own w.heap.size w' (A j) (C j) (X j) := fun j hj =>
    (((o j hj (.inr ht)).touch tt (fun g hg => (dd j hj (.inr ht) g hg).2)).below hba).growQ hgr (fun x hx => (dd j hj (.inr ht) x hx).1)
  have al : ∀ x, blk ad' = some x → blk r = some x ∨ x = wl.heap.size := fun x hx => by
    rcases hloc with q | q
    · exact .inl (by rw [← q]; exact hx)
    · rw [q] at hx; simp at hx; exact .inr hx.symm
  refine ⟨fun j hj => ?_, fun j hj hm => ?_, fun j hj hm x hx => ?_, fun i j hij hj hm x hx => ?_, fun x hx => ?_, fun hm => ?_, by omega, lo⟩
  · have ne : ¬ j = t + 2 := by omega
    simp only [if_neg ne]
    by_cases q : j = t
    · subst q
      rw [List.getElem?_append_right (by omega), hvl]
      simp
    · rw [List.getElem?_append_left (by omega)]
      exact v j (by omega)
  · by_cases q : j = t + 2
    · subst q
      simp only [if_true]
      have hm' : t + 1 < m := by omega
      have hO := (hn hm').1
      refine (((hO.mono (by omega)).below hba).growQ hgr (fun x hx e' => ?_))
      have g1 := own_blk_ge hO x hx
      have g2 := (rr x e').2.1
      omega
    · simp only [if_neg q]
      exact on j (by omega)
  · by_cases q : j = t + 2
    · subst q
      simp only [if_true] at hx
      have hm' : t + 1 < m := by omega
      have hO := (hn hm').1
      have g1 := own_blk_ge hO x hx
      have g2 := own_ltQ hO x hx
      refine ⟨fun e' => ?_, by omega⟩
      rcases al x e' with k | k
      · have := (rr x k).2.1; omega
      · omega
    · simp only [if_neg q] at hx
      have g1 := dd j (by omega) (.inr ht) x hx
      have g2 := ol j (by omega) x hx
      refine ⟨fun e' => ?_, g1.2⟩
      rcases al x e' with k | k
      · exact g1.1 k
      · omega
  · have ni : ¬ i = t + 2 := by omega
    simp only [if_neg ni] at hx
    by_cases q : j = t + 2
    · subst q
      simp only [if_true]
      have hm' : t + 1 < m := by omega
      intro e'
      have g1 := own_blk_ge (hn hm').1 x e'
      have g2 := ol i (by omega) x hx
      omega
    · simp only [if_neg q]
      exact e i j hij (by omega) (.inr ht) x hx
  · refine ⟨?_, hlt x hx, ?_⟩
    · rcases al x hx with k | k
      · exact (rr x k).1
      · omega
    · rcases al x hx with k | k
      · exact (rr x k).2.2
      · omega
  · have n1 : ¬ t + 1 = t + 2 := by omega
    have n2 : t + 1 + 1 = t + 2 := by omega
    simp only [if_neg n1, n2, if_true]
    exact ((hn hm).2.below hba).grown hgr (fun x hx => ⟨by have := (rr x hx).1; omega, (rr x hx).2.2⟩)
def invN (p : Int) (xs ys : List Int) : Nat := if jacB p xs ys then xs.length else 0
def invC (p : Int) (xs ys : List Int) : Int := if jacB p xs ys then 0 else 1
set_option maxRecDepth 100000 in
set_option maxHeartbeats 3200000 in
theorem implInverseTriangle (p : Int) (a : Option Addr) (n c : Nat) (xs : List Int) (b : Option Addr) (m d : Nat) (ys : List Int) (w : World) (hs : SL w a n c xs) (ht : SL w b m d ys) (hn : n ≤ 4000000) (hm : m ≤ 4000000) :
    Calls Try.prog 35 #[jac p a n c b m d] w (ResL w (polJ p xs ys) (invN p xs ys) (invC p xs ys)) := by
  have hl := hide hs.len
  have hl2 := hide ht.len
  have hb0 := bl1 w (.cells #[.int .i64 p, .slice a n c, .slice b m d] 45)
  have g1 := hs.below hb0
  have g2 := ht.below hb0
  cases hJ : jacB p xs ys
  · have HC := hide (show invC p xs ys = 1 by simp [invC, hJ])
    have HN := hide (show invN p xs ys = 0 by simp [invN, hJ])
    have HJ := hide hJ
    clear hJ
    go_enter Try.func35, Try.ntmps35
    go_wp2_with fail
    refine (implIsJacobi p a n c xs b m d ys _ g1 g2 hn hm).mono ?_
    rintro e w1 ⟨rfl, t1⟩
    rw [HJ.out]
    go_wp2
    refine bodyPost_ret (v := .tuple #[.slice none 0 0, .int .i64 1]) (by simp [results, Try.results35, go_sem]) rfl ?_
    exact ResL.nil HN.out HC.out (bnext hb0 t1)
  obtain ⟨hpr, l1, l12, l2, hax, hay⟩ := jacB_rng hJ
  obtain ⟨hp, hp2⟩ := primeB_lo hpr
  obtain rfl : m = n := by rw [← hl2.out, ← hl.out]; omega
  rw [hl.out] at l1 l12
  have HC := hide (show invC p xs ys = 0 by simp [invC, hJ])
  have HN := hide (show invN p xs ys = m by simp [invN, hJ, hl.out])
  have HJ := hide hJ
  have HA := hide hax
  have HBy := hide (posB_are hay)
  have HP := hide hpr
  have HSm := hide (fun i (hi : i ≤ 24) => polJ_small hp xs ys i hi)
  have HSt := hide (polJ_step p xs ys)
  have HX1 := hide (polJ_one hp xs ys)
  clear hJ hpr hax hay l2
  go_enter Try.func35, Try.ntmps35
  go_wp2_with fail
  refine (implIsJacobi p a m c xs b m d ys _ g1 g2 hm hm).mono ?_
  rintro e w1 ⟨rfl, t1⟩
  rw [HJ.out]
  have B1 := bnext hb0 t1
  have e0 : w1.cell? ⟨w.heap.size, 0, none⟩ = some (.int .i64 p) := cell_be t1 (by simp [go_sem])
  have e1 : w1.cell? ⟨w.heap.size, 1, none⟩ = some (.slice a m c) := cell_be t1 (by simp [go_sem])
  have e2 : w1.cell? ⟨w.heap.size, 2, none⟩ = some (.slice b m d) := cell_be t1 (by simp [go_sem])
  clear hb0 t1 g1 g2
  go_wp2_with fail
  refine (polysOf_rc p a m c xs b d ys w _ hs l1 hp hp2 HA.out B1).mono ?_
  rintro e w3 ⟨B, ac, cc, an, cn, rfl, hBB, hR, o1, o2, d1, d2, hb3⟩
  have hB3 := hide (bnext B1 hb3)
  have z1 := B1.size
  replace e1 := cell_be hb3 e1
  have hI : Hid (TriI w w3 B p a m c b d (polJ p xs ys) 0 none [] (fun j => if j = 0 then ac else an) (fun j => if j = 0 then cc else cn)) := hide (by
    refine ⟨fun j hj => by omega, fun j hj _ => ?_, fun j hj _ x hx => ?_, fun i j hij hj _ x hx => ?_, fun x hx => by simp [blk] at hx, fun _ => ?_, hR.sz, by omega⟩
    · rcases (show j = 0 ∨ j = 1 by omega) with rfl | rfl
      · simp only [if_true, polJ_zero]; exact o1.mono z1
      · simp only [Nat.one_ne_zero, if_false]; rw [HX1.out]; exact o2.mono z1
    · refine ⟨by simp [blk], .inl ?_⟩
      rcases (show j = 0 ∨ j = 1 by omega) with rfl | rfl
      · simp only [if_true] at hx; exact (d1 x hx).1
      · simp only [Nat.one_ne_zero, if_false] at hx; exact d2 x hx
    · obtain rfl : i = 0 := by omega
      obtain rfl : j = 1 := by omega
      simp only [if_true] at hx
      simp only [Nat.one_ne_zero, if_false]
      exact (d1 x hx).2
    · simp only [if_true, Nat.zero_add, Nat.one_ne_zero, if_false, polJ_zero]
      rw [HX1.out]
      simpa [linM] using hR)
  have Z0 := hide (OwnV.nil (w.heap.size + 1) w3)
  clear hR o1 o2 d1 d2 hb3 B1 e0 e2
  go_wp2_with fail
  go_loopw [4, 14] (fun sv iv wr => ∃ (t : Nat) (r : Option Addr) (c' : Nat) (vs : List Value) (A : Nat → Option Addr) (C : Nat → Nat), t ≤ m ∧ iv = .int .i64 t ∧ sv = .slice r t c' ∧ Hid (vs.length = t) ∧ Hid (OwnV (w.heap.size + 1) wr r c' vs) ∧ Hid (TriI w wr B p a m c b d (polJ p xs ys) t r vs A C) ∧ Hid (Below w.heap.size w wr)) (fun _ iv _ => m - (intOf iv).toNat)
  case atStart => exact ⟨0, none, 0, [], _, _, by omega, rfl, rfl, hide rfl, Z0, hI, hB3⟩
  case round =>
    obtain ⟨t, r, c', vs, A, C, htm, rfl, rfl, hvl, hO, hT, hW⟩ := hrel
    clear Z0 hI hB3 e1
    by_cases hlt : t < m
    · have hlt' : (t : Int) < (m : Int) := by omega
      have k1 := hide ((hT.out.o t (by omega) (.inr hlt)).sl)
      have k2 := hide ((hT.out.o (t + 1) (by omega) (.inr hlt)).sl)
      have q1 := hide (fun x hx => (hT.out.dj t (by omega) (.inr hlt) x hx).2)
      have q2 := hide (fun x hx => (hT.out.dj (t + 1) (by omega) (.inr hlt) x hx).2)
      have HR := hide (hT.out.rc hlt)
      go_wp2_with fail
      refine (next_rc p a m c xs b d ys t 24 (polJ p xs ys t) (polJ p xs ys (t + 1)) B (A t) (C t) (A (t + 1)) (C (t + 1)) w _ hs ht HP.out HA.out HBy.out (by omega) (by omega) ((HSm.out t (by omega)).up (by omega)) ((HSm.out (t + 1) (by omega)).up (by omega)) (Nat.le_refl _) HR.out k1.out k2.out q1.out q2.out).mono ?_
      rintro e w3 ⟨rfl, tt, hn3⟩
      have hn4 : Hid (∃ a' c', t + 1 < m → Own wr.heap.size w3 a' c' (polJ p xs ys (t + 2)) ∧ RCx B w w3 p a m c b d (t + 1) (A (t + 1)) (polJ p xs ys (t + 1)).length (C (t + 1)) a' (polJ p xs ys (t + 2)).length c') := hide (by
        by_cases q : t + 1 < m
        · obtain ⟨a', c', y1, y2⟩ := hn3 q
          rw [← HSt.out t] at y1 y2
          exact ⟨a', c', fun _ => ⟨y1, y2⟩⟩
        · exact ⟨none, 0, fun e => absurd e q⟩)
      have TT := hide tt
      have hz3 := tt.size
      have hrr := hide hT.out.rr
      have hO3 := hO.out.touchQ tt (fun g hg => (hrr.out g hg).2.2)
      have hba := bl1 w3 (.cells #[.slice (A t) (polJ p xs ys t).length (C t)] 22)
      have hcl : (w3.alloc (.cells #[.slice (A t) (polJ p xs ys t).length (C t)] 22)).cell? ⟨w3.heap.size, 0, none⟩ = some (.slice (A t) (polJ p xs ys t).length (C t)) := by simp [go_sem]
      have HZa := hide (show (w3.alloc (.cells #[.slice (A t) (polJ p xs ys t).length (C t)] 22)).heap.size = w3.heap.size + 1 by simp)
      have hOa := hide (hO3.below hba)
      have zw := hW.out.size
      have hlo := hT.out.lo
      have hsz := hT.out.sz
      have hW3 := hide (below_touch hW.out tt hlo (by omega))
      clear hn3 hO3 k1 k2 q1 q2 HR tt
      go_wp2_with (at_builtin; with_reducible refine wp_appVQ rfl _ _ rfl (w.heap.size + 1) _ _ _ vs rfl hvl.out.symm hOa.out _ _ _ rfl hcl rfl (by omega) (by have := HZa.out; omega) ?_; intro ad' cap' w' hown' hgr hloc)
      have hvl2 := hide (show (vs ++ [Value.slice (A t) (polJ p xs ys t).length (C t)]).length = t + 1 by rw [List.length_append, hvl.out]; rfl)
      have hbg := OwnV.blkG hOa.out
      have hW2 : Hid (Below w.heap.size w w') := hide ((hW3.out.trans (hba.mono hW3.out.size)).grown hgr (by have := HZa.out; omega) (fun k e => by have := hbg k e; omega))
      have Hown := hide hown'
      have hT2 : Hid (∃ A' C', TriI w w' B p a m c b d (polJ p xs ys) (t + 1) ad' (vs ++ [Value.slice (A t) (polJ p xs ys t).length (C t)]) A' C') := hide (by
        obtain ⟨a', c'', y⟩ := hn4.out
        exact ⟨_, _, hT.out.step hlt hvl.out TT.out a' c'' y hba hba.size hgr hloc (OwnV.blkLtQ Hown.out)⟩)
      clear hown' hgr hloc hOa hO hT hcl hba hbg hrr hn4 TT
      obtain ⟨A', C', hT3⟩ := hT2.out
      have HT3 := hide hT3
      clear hT2 hT3
      go_roundw
      case rel => exact ⟨t + 1, ad', cap', _, A', C', by omega, by go_num, by rw [hvl.out], hvl2, Hown, HT3, hW2⟩
      case measure => simp [intOf]; omega
    · have hte : Hid (t = m) := hide (by omega)
      have hge : ¬ (t : Int) < (m : Int) := by omega
      go_wp2
      refine bodyPost_ret (v := .tuple #[.slice r t c', .int .i64 0]) (by simp [results, Try.results35, go_sem]) rfl ?_
      refine ⟨r, c', by rw [HC.out, HN.out, hte.out], ?_, ?_, hW.out⟩
      · rw [HN.out, ← hte.out]
        have k : KeptQ w.heap.size _ r vs (polJ p xs ys) A C t :=
          ⟨hT.out.v, fun j hj => hT.out.o j (by omega) (.inl (by have := hte.out; omega)), fun j hj x hx => (hT.out.dj j (by omega) (.inl (by have := hte.out; omega)) x hx).1, fun i j hij hj => hT.out.e i j hij (by omega) (.inl (by have := hte.out; omega))⟩
        exact k.zl hvl.out (hO.out.mono (by omega))
      · rw [HN.out]
        exact ⟨by omega, fun i hi => Nat.le_trans (HSm.out i (by omega)).2 (by omega)⟩
set_option maxRecDepth 100000 in
set_option maxHeartbeats 3200000 in
theorem specInverseTriangle (p : Int) (a : Option Addr) (n c : Nat) (xs : List Int) (b : Option Addr) (m d : Nat) (ys : List Int) (w : World) (hs : SL w a n c xs) (ht : SL w b m d ys) (hn : n ≤ 4000000) (hm : m ≤ 4000000) :
    Calls Try.prog 34 #[jac p a n c b m d] w (ResL w (polJ p xs ys) (invN p xs ys) (invC p xs ys)) := by
  have hl := hide hs.len
  have hl2 := hide ht.len
  have hb0 := bl1 w (.cells #[.int .i64 p, .slice a n c, .slice b m d] 45)
  have g1 := hs.below hb0
  have g2 := ht.below hb0
  cases hJ : jacB p xs ys
  · have HC := hide (show invC p xs ys = 1 by simp [invC, hJ])
    have HN := hide (show invN p xs ys = 0 by simp [invN, hJ])
    have HJ := hide hJ
    clear hJ
    go_enter Try.func34, Try.ntmps34
    go_wp2_with fail
    refine (l03Is_any p a n c xs b m d ys _ g1 g2 hn hm).mono ?_
    rintro e w1 ⟨rfl, t1⟩
    rw [HJ.out]
    go_wp2
    refine bodyPost_ret (v := .tuple #[.slice none 0 0, .int .i64 1]) (by simp [results, Try.results34, go_sem]) rfl ?_
    exact ResL.nil HN.out HC.out (bnext hb0 t1)
  obtain ⟨hpr, l1, l12, l2, hax, hay⟩ := jacB_rng hJ
  obtain ⟨hp, hp2⟩ := primeB_lo hpr
  obtain rfl : m = n := by rw [← hl2.out, ← hl.out]; omega
  rw [hl.out] at l1 l12
  have HC := hide (show invC p xs ys = 0 by simp [invC, hJ])
  have HN := hide (show invN p xs ys = m by simp [invN, hJ, hl.out])
  have HJ := hide hJ
  have HSm := hide (fun i (hi : i ≤ 24) => polJ_small hp xs ys i hi)
  clear hJ hpr hax hay l2
  go_enter Try.func34, Try.ntmps34
  go_wp2_with fail
  refine (l03Is_any p a m c xs b m d ys _ g1 g2 hm hm).mono ?_
  rintro e w1 ⟨rfl, t1⟩
  rw [HJ.out]
  have B1 := bnext hb0 t1
  have e0 : w1.cell? ⟨w.heap.size, 0, none⟩ = some (.int .i64 p) := cell_be t1 (by simp [go_sem])
  have e1 : w1.cell? ⟨w.heap.size, 1, none⟩ = some (.slice a m c) := cell_be t1 (by simp [go_sem])
  have e2 : w1.cell? ⟨w.heap.size, 2, none⟩ = some (.slice b m d) := cell_be t1 (by simp [go_sem])
  have Zs : w.heap.size + 1 ≤ w1.heap.size := World.block_lt_of_cell? _ _ e0
  have ba := bl1 w1 (.cells #[] 22)
  have hO0 := hide (show OwnV (w.heap.size + 1) (w1.alloc (.cells #[] 22)) (some ⟨w1.heap.size, 0, none⟩) 0 [] from World.ownsRow_lit w1 (base := w.heap.size + 1) (e := 22) (size := 1) #[] 0 (by omega) (by simp) rfl)
  have hK0 : Hid (KeptQ w.heap.size (w1.alloc (.cells #[] 22)) (some ⟨w1.heap.size, 0, none⟩) [] (polJ p xs ys) (fun _ => none) (fun _ => 0) 0) := hide ⟨fun j hj => by omega, fun j hj => by omega, fun j hj => by omega, fun i j hij hj => by omega⟩
  have hF0 := hide (And.intro (cell_be ba e0) (And.intro (cell_be ba e1) (cell_be ba e2)))
  have hB0 := hide (bnext B1 ba)
  have Zt : w.heap.size + 1 ≤ (w1.alloc (.cells #[] 22)).heap.size := Nat.le_trans Zs ba.size
  clear ba e0 e1 e2 Zs B1 hb0 t1 g1 g2
  go_wp2
  generalize (w1.alloc (.cells #[] 22)) = wx at *
  go_loopw [4, 5] (fun sv iv wr => ∃ (t : Nat) (a' : Option Addr) (c' : Nat) (vs : List Value) (RA : Nat → Option Addr) (RC : Nat → Nat), t ≤ m ∧ iv = .int .i64 t ∧ sv = .slice a' t c' ∧ Hid (vs.length = t) ∧ Hid (OwnV (w.heap.size + 1) wr a' c' vs) ∧ Hid (KeptQ w.heap.size wr a' vs (polJ p xs ys) RA RC t) ∧ Hid (Below w.heap.size w wr) ∧ Hid (wr.cell? ⟨w.heap.size, 0, none⟩ = some (.int .i64 p) ∧ wr.cell? ⟨w.heap.size, 1, none⟩ = some (.slice a m c) ∧ wr.cell? ⟨w.heap.size, 2, none⟩ = some (.slice b m d)) ∧ w.heap.size + 1 ≤ wr.heap.size) (fun _ iv _ => m - (intOf iv).toNat)
  case atStart => exact ⟨0, _, _, _, _, _, by omega, rfl, rfl, hide rfl, hO0, hK0, hB0, hF0, Zt⟩
  case round =>
    obtain ⟨t, a', c', vs, RA, RC, htm, rfl, rfl, hvl, hO, hK, hW, hF, hz⟩ := hrel
    clear hO0 hK0 hB0 hF0 Zt
    obtain ⟨f0, f1, f2⟩ := hF.out
    by_cases hlt : t < m
    · have hlt' : (t : Int) < (m : Int) := by omega
      have s1 := hide (hs.below hW.out)
      have s2 := hide (ht.below hW.out)
      have zw := hW.out.size
      go_wp2_with fail
      refine (l03Poly_any p a m c xs b m d ys t _ s1.out s2.out HJ.out (by omega)).mono ?_
      rintro e w4 ⟨a4, c4, rfl, o4, t34⟩
      have hlen := (HSm.out t (by omega)).2
      have hba := bl1 w4 (.cells #[.slice a4 (polJ p xs ys t).length c4] 22)
      have hcl : (w4.alloc (.cells #[.slice a4 (polJ p xs ys t).length c4] 22)).cell? ⟨w4.heap.size, 0, none⟩ = some (.slice a4 (polJ p xs ys t).length c4) := by simp [go_sem]
      have HZa := hide (show (w4.alloc (.cells #[.slice a4 (polJ p xs ys t).length c4] 22)).heap.size = w4.heap.size + 1 by simp)
      have hOa := hide ((hO.out.below t34).below hba)
      have hblt := hide (OwnV.blkLtQ hO.out)
      have z34 := t34.size
      have O4 := hide o4
      clear o4 hlen
      go_wp2_with (at_builtin; with_reducible refine wp_appVQ rfl _ _ rfl (w.heap.size + 1) _ _ _ vs rfl hvl.out.symm hOa.out _ _ _ rfl hcl rfl (by omega) (by have := HZa.out; omega) ?_; intro ad' cap' w' hown' hgr hloc)
      have hvl2 := hide (show (vs ++ [Value.slice a4 (polJ p xs ys t).length c4]).length = t + 1 by rw [List.length_append, hvl.out]; rfl)
      have hW3 := hW.out.trans (t34.mono zw)
      have hbg := OwnV.blkG hOa.out
      have hW2 : Hid (Below w.heap.size w w') := hide ((hW3.trans (hba.mono hW3.size)).grown hgr (by have := HZa.out; omega) (fun k e => by have := hbg k e; omega))
      have hK2 := hide (hK.out.push (X := polJ p xs ys) (ad' := ad') (w' := w') hvl.out hblt.out zw t34 O4.out hba (by have := HZa.out; omega) hgr hloc)
      have hGw : blk a' ≠ some w.heap.size := fun e => by
        have := hbg _ e
        omega
      have hF2 := hide (And.intro (cell_ne hgr (cell_be hba (cell_be t34 f0)) hGw) (And.intro (cell_ne hgr (cell_be hba (cell_be t34 f1)) hGw) (cell_ne hgr (cell_be hba (cell_be t34 f2)) hGw)))
      have hzn : w.heap.size + 1 ≤ w'.heap.size := by have := hgr.size; have := HZa.out; omega
      have Hown := hide hown'
      clear hown' hgr hloc hOa hO hK hblt hcl hba t34 O4 f0 f1 f2 hW3 hbg
      go_roundw
      case rel => exact ⟨t + 1, ad', cap', _, _, _, by omega, by go_num, by rw [hvl.out], hvl2, Hown, hK2, hW2, hF2, hzn⟩
      case measure => simp [intOf]; omega
    · have hte : Hid (t = m) := hide (by omega)
      have hge : ¬ (t : Int) < (m : Int) := by omega
      go_wp2
      refine bodyPost_ret (v := .tuple #[.slice a' t c', .int .i64 0]) (by simp [results, Try.results34, go_sem]) rfl ?_
      refine ⟨a', c', by rw [HC.out, HN.out, hte.out], ?_, ?_, hW.out⟩
      · rw [HN.out, ← hte.out]
        exact hK.out.zl hvl.out (hO.out.mono (by omega))
      · rw [HN.out]
        exact ⟨by omega, fun i hi => Nat.le_trans (HSm.out i (by omega)).2 (by omega)⟩
end Go.Proofs.Ytcadiepghhnbeaa
