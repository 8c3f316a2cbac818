/- Contracts of the laws' helpers on desks: toDesk, szDesk, eqDesk, markDesk, heldDesk. -/
import Derived.Test.YtpoabedlcljibaaJa
namespace Go.Proofs.Ytpoabedlcljibaa
open Go.RowKit
set_option linter.unusedVariables false
set_option linter.unusedSimpArgs false

/-- A desk as a value: moments, Jacobi data and a polynomial. -/
abbrev dsk (p : Int) (a : Option Addr) (n c : Nat) (q : Int) (b : Option Addr) (m d : Nat) (b2 : Option Addr) (m2 d2 : Nat) (f : Option Addr) (k g : Nat) : Value :=
  .agg #[.int .i64 p, .slice a n c, .int .i64 q, .slice b m d, .slice b2 m2 d2, .slice f k g]
/-- The memory of a desk of the call's own: three zones apart. -/
def DZ (lo hi : Nat) (w : World) (a : Option Addr) (n c : Nat) (xs : List Int) (b : Option Addr) (m d : Nat) (ys : List Int) (b2 : Option Addr) (m2 d2 : Nat) (zs : List Int) (f : Option Addr) (k g : Nat) (us : List Int) : Prop :=
  ∃ l1 h1 l2 h2 l3 h3, (lo ≤ l1 ∧ l1 ≤ h1 ∧ h1 ≤ hi) ∧ (lo ≤ l2 ∧ l2 ≤ h2 ∧ h2 ≤ hi) ∧ (lo ≤ l3 ∧ l3 ≤ h3 ∧ h3 ≤ hi) ∧ (h1 ≤ l2 ∨ h2 ≤ l1) ∧ (h1 ≤ l3 ∨ h3 ≤ l1) ∧ (h2 ≤ l3 ∨ h3 ≤ l2) ∧
    OZ l1 h1 w a n c xs ∧ JZ l2 h2 w b m d ys b2 m2 d2 zs ∧ OZ l3 h3 w f k g us
section
variable {lo hi : Nat} {w w' : World} {a : Option Addr} {n c : Nat} {xs : List Int} {b : Option Addr} {m d : Nat} {ys : List Int} {b2 : Option Addr} {m2 d2 : Nat} {zs : List Int} {f : Option Addr} {k g : Nat} {us : List Int}
theorem DZ.s1 (h : DZ lo hi w a n c xs b m d ys b2 m2 d2 zs f k g us) : SL w a n c xs := by obtain ⟨_, _, _, _, _, _, _, _, _, _, _, _, h, _⟩ := h; exact h.sl
theorem DZ.s2 (h : DZ lo hi w a n c xs b m d ys b2 m2 d2 zs f k g us) : SL w b m d ys := by obtain ⟨_, _, _, _, _, _, _, _, _, _, _, _, _, h, _⟩ := h; exact h.sl1
theorem DZ.s3 (h : DZ lo hi w a n c xs b m d ys b2 m2 d2 zs f k g us) : SL w b2 m2 d2 zs := by obtain ⟨_, _, _, _, _, _, _, _, _, _, _, _, _, h, _⟩ := h; exact h.sl2
theorem DZ.s4 (h : DZ lo hi w a n c xs b m d ys b2 m2 d2 zs f k g us) : SL w f k g us := by obtain ⟨_, _, _, _, _, _, _, _, _, _, _, _, _, _, h⟩ := h; exact h.sl
theorem DZ.below (h : DZ lo hi w a n c xs b m d ys b2 m2 d2 zs f k g us) (hb : Below w.heap.size w w') : DZ lo hi w' a n c xs b m d ys b2 m2 d2 zs f k g us := by
  obtain ⟨l1, h1, l2, h2, l3, h3, e1, e2, e3, e4, e5, e6, x, y, z⟩ := h
  exact ⟨l1, h1, l2, h2, l3, h3, e1, e2, e3, e4, e5, e6, x.below hb, y.below hb, z.below hb⟩
theorem DZ.mono {lo' hi' : Nat} (h : DZ lo hi w a n c xs b m d ys b2 m2 d2 zs f k g us) (h1 : lo' ≤ lo) (h2 : hi ≤ hi') : DZ lo' hi' w a n c xs b m d ys b2 m2 d2 zs f k g us := by
  obtain ⟨l1, p1, l2, p2, l3, p3, e1, e2, e3, e4, e5, e6, x, y, z⟩ := h
  exact ⟨l1, p1, l2, p2, l3, p3, by omega, by omega, by omega, e4, e5, e6, x, y, z⟩
theorem DZ.touch {lo' hi' : Nat} (h : DZ lo hi w a n c xs b m d ys b2 m2 d2 zs f k g us) (t : Touch lo' hi' w w') (hd : hi ≤ lo' ∨ hi' ≤ lo) : DZ lo hi w' a n c xs b m d ys b2 m2 d2 zs f k g us := by
  obtain ⟨l1, p1, l2, p2, l3, p3, e1, e2, e3, e4, e5, e6, x, y, z⟩ := h
  exact ⟨l1, p1, l2, p2, l3, p3, e1, e2, e3, e4, e5, e6, x.touch t (by omega), y.touch t (by omega), z.touch t (by omega)⟩
theorem DZ.setLow (h : DZ lo hi w a n c xs b m d ys b2 m2 d2 zs f k g us) {x : Addr} (hx : x.block < lo) (u : Value) : DZ lo hi (w.setCell x u) a n c xs b m d ys b2 m2 d2 zs f k g us := by
  obtain ⟨l1, p1, l2, p2, l3, p3, e1, e2, e3, e4, e5, e6, x1, y, z⟩ := h
  exact ⟨l1, p1, l2, p2, l3, p3, e1, e2, e3, e4, e5, e6, x1.setLow (by omega) u, y.setLow (by omega) u, z.setLow (by omega) u⟩
end

set_option maxRecDepth 100000 in
set_option maxHeartbeats 1600000 in
theorem toD (p : Int) (a : Option Addr) (n c : Nat) (q : Int) (b : Option Addr) (m d : Nat) (b2 : Option Addr) (m2 d2 : Nat) (f : Option Addr) (k g : Nat) (xs ys zs us : List Int) (w : World) (h1 : SL w a n c xs) (h2 : SL w b m d ys) (h3 : SL w b2 m2 d2 zs) (h4 : SL w f k g us) (hn : n ≤ 1048576) (hm : m ≤ 1048576) (hm2 : m2 ≤ 1048576) (hk : k ≤ 1048576) :
    Calls Try.prog 12 #[dsk p a n c q b m d b2 m2 d2 f k g] w fun e w' => ∃ a' b' b2' f', e = .returned (dsk p a' n n q b' m m b2' m2 m2 f' k k) ∧ DZ w.heap.size w'.heap.size w' a' n n xs b' m m ys b2' m2 m2 zs f' k k us ∧ Below w.heap.size w w' := by
  have hb0 := bl3 w (.cells #[.int .i64 p, .slice a n c, .int .i64 q, .slice b m d, .slice b2 m2 d2, .slice f k g] 36) (.cells #[.int .i64 0, .slice none 0 0, .int .i64 0, .slice none 0 0, .slice none 0 0, .slice none 0 0] 28) (.cells #[.int .i64 0, .slice none 0 0, .int .i64 0, .slice none 0 0, .slice none 0 0, .slice none 0 0] 28)
  have hz0 := hb0.size
  go_enter Try.func12, Try.ntmps12
  go_wp2_with fail
  refine (toM _ _ _ _ _ _ (h1.below hb0) hn).mono ?_
  rintro e w1 ⟨a', rfl, ho1, hb1⟩
  have hz1 : w.heap.size + 2 < w1.heap.size := by have := hb1.size; simp at this; omega
  have hB1 := bnext hb0 hb1
  have o1 := OZ.of ho1 h1.len.symm
  have f0 : w1.cell? ⟨w.heap.size, 0, none⟩ = some (.int .i64 p) := cell_be hb1 (by simp [go_sem])
  have f1 : w1.cell? ⟨w.heap.size, 1, none⟩ = some (.slice a n c) := cell_be hb1 (by simp [go_sem])
  have f2 : w1.cell? ⟨w.heap.size, 2, none⟩ = some (.int .i64 q) := cell_be hb1 (by simp [go_sem])
  have f3 : w1.cell? ⟨w.heap.size, 3, none⟩ = some (.slice b m d) := cell_be hb1 (by simp [go_sem])
  have f4 : w1.cell? ⟨w.heap.size, 4, none⟩ = some (.slice b2 m2 d2) := cell_be hb1 (by simp [go_sem])
  have f5 : w1.cell? ⟨w.heap.size, 5, none⟩ = some (.slice f k g) := cell_be hb1 (by simp [go_sem])
  have r0 : w1.cell? ⟨w.heap.size + 1, 0, none⟩ = some (.int .i64 0) := cell_be hb1 (by simp [go_sem])
  have dd0 : w1.cell? ⟨w.heap.size + 1 + 1, 0, none⟩ = some (.int .i64 0) := cell_be hb1 (by simp [go_sem])
  have y0 : w1.frozen? ⟨w.heap.size + 1, 0, none⟩ = false := (hb1.frozen (by simp)).trans (by simp [go_sem])
  have x0 : w1.frozen? ⟨w.heap.size + 1 + 1, 0, none⟩ = false := (hb1.frozen (by simp)).trans (by simp [go_sem])
  have r1 : w1.cell? ⟨w.heap.size + 1, 1, none⟩ = some (.slice none 0 0) := cell_be hb1 (by simp [go_sem])
  have dd1 : w1.cell? ⟨w.heap.size + 1 + 1, 1, none⟩ = some (.slice none 0 0) := cell_be hb1 (by simp [go_sem])
  have y1 : w1.frozen? ⟨w.heap.size + 1, 1, none⟩ = false := (hb1.frozen (by simp)).trans (by simp [go_sem])
  have x1 : w1.frozen? ⟨w.heap.size + 1 + 1, 1, none⟩ = false := (hb1.frozen (by simp)).trans (by simp [go_sem])
  have r2 : w1.cell? ⟨w.heap.size + 1, 2, none⟩ = some (.int .i64 0) := cell_be hb1 (by simp [go_sem])
  have dd2 : w1.cell? ⟨w.heap.size + 1 + 1, 2, none⟩ = some (.int .i64 0) := cell_be hb1 (by simp [go_sem])
  have y2 : w1.frozen? ⟨w.heap.size + 1, 2, none⟩ = false := (hb1.frozen (by simp)).trans (by simp [go_sem])
  have x2 : w1.frozen? ⟨w.heap.size + 1 + 1, 2, none⟩ = false := (hb1.frozen (by simp)).trans (by simp [go_sem])
  have r3 : w1.cell? ⟨w.heap.size + 1, 3, none⟩ = some (.slice none 0 0) := cell_be hb1 (by simp [go_sem])
  have dd3 : w1.cell? ⟨w.heap.size + 1 + 1, 3, none⟩ = some (.slice none 0 0) := cell_be hb1 (by simp [go_sem])
  have y3 : w1.frozen? ⟨w.heap.size + 1, 3, none⟩ = false := (hb1.frozen (by simp)).trans (by simp [go_sem])
  have x3 : w1.frozen? ⟨w.heap.size + 1 + 1, 3, none⟩ = false := (hb1.frozen (by simp)).trans (by simp [go_sem])
  have r4 : w1.cell? ⟨w.heap.size + 1, 4, none⟩ = some (.slice none 0 0) := cell_be hb1 (by simp [go_sem])
  have dd4 : w1.cell? ⟨w.heap.size + 1 + 1, 4, none⟩ = some (.slice none 0 0) := cell_be hb1 (by simp [go_sem])
  have y4 : w1.frozen? ⟨w.heap.size + 1, 4, none⟩ = false := (hb1.frozen (by simp)).trans (by simp [go_sem])
  have x4 : w1.frozen? ⟨w.heap.size + 1 + 1, 4, none⟩ = false := (hb1.frozen (by simp)).trans (by simp [go_sem])
  have r5 : w1.cell? ⟨w.heap.size + 1, 5, none⟩ = some (.slice none 0 0) := cell_be hb1 (by simp [go_sem])
  have dd5 : w1.cell? ⟨w.heap.size + 1 + 1, 5, none⟩ = some (.slice none 0 0) := cell_be hb1 (by simp [go_sem])
  have y5 : w1.frozen? ⟨w.heap.size + 1, 5, none⟩ = false := (hb1.frozen (by simp)).trans (by simp [go_sem])
  have x5 : w1.frozen? ⟨w.heap.size + 1 + 1, 5, none⟩ = false := (hb1.frozen (by simp)).trans (by simp [go_sem])
  clear ho1 hb1
  have hC2 := ((hB1.setCell (p := ⟨w.heap.size + 1 + 1, 0, none⟩) (by simp <;> omega) (.int .i64 p)).setCell (p := ⟨w.heap.size + 1 + 1, 1, none⟩) (by simp <;> omega) (.slice a' n n))
  go_wp2_with fail
  refine (toJ _ _ _ _ _ _ _ _ _ _ (h2.below hC2) (h3.below hC2) hm hm2).mono ?_
  rintro e w2 ⟨b', b2', rfl, o2, hb2⟩
  have hz2 := hb2.size
  simp at hz2
  have hB2 := hC2.trans (hb2.mono (by simp <;> omega))
  replace o1 := ((o1.setLow (x := ⟨w.heap.size + 1 + 1, 0, none⟩) (by simp <;> omega) (.int .i64 p)).setLow (x := ⟨w.heap.size + 1 + 1, 1, none⟩) (by simp <;> omega) (.slice a' n n)).below hb2
  replace f0 : w2.cell? ⟨w.heap.size, 0, none⟩ = some (.int .i64 p) := cell_be hb2 (by simp [go_sem, f0])
  replace r0 : w2.cell? ⟨w.heap.size + 1, 0, none⟩ = some (.int .i64 0) := cell_be hb2 (by simp [go_sem, r0])
  replace dd0 : w2.cell? ⟨w.heap.size + 1 + 1, 0, none⟩ = some (.int .i64 p) := cell_be hb2 (by simp [go_sem, dd0])
  replace y0 : w2.frozen? ⟨w.heap.size + 1, 0, none⟩ = false := (hb2.frozen (by simp <;> omega)).trans (by simpa using y0)
  replace x0 : w2.frozen? ⟨w.heap.size + 1 + 1, 0, none⟩ = false := (hb2.frozen (by simp <;> omega)).trans (by simpa using x0)
  replace f1 : w2.cell? ⟨w.heap.size, 1, none⟩ = some (.slice a n c) := cell_be hb2 (by simp [go_sem, f1])
  replace r1 : w2.cell? ⟨w.heap.size + 1, 1, none⟩ = some (.slice none 0 0) := cell_be hb2 (by simp [go_sem, r1])
  replace dd1 : w2.cell? ⟨w.heap.size + 1 + 1, 1, none⟩ = some (.slice a' n n) := cell_be hb2 (by simp [go_sem, dd1])
  replace y1 : w2.frozen? ⟨w.heap.size + 1, 1, none⟩ = false := (hb2.frozen (by simp <;> omega)).trans (by simpa using y1)
  replace x1 : w2.frozen? ⟨w.heap.size + 1 + 1, 1, none⟩ = false := (hb2.frozen (by simp <;> omega)).trans (by simpa using x1)
  replace f2 : w2.cell? ⟨w.heap.size, 2, none⟩ = some (.int .i64 q) := cell_be hb2 (by simp [go_sem, f2])
  replace r2 : w2.cell? ⟨w.heap.size + 1, 2, none⟩ = some (.int .i64 0) := cell_be hb2 (by simp [go_sem, r2])
  replace dd2 : w2.cell? ⟨w.heap.size + 1 + 1, 2, none⟩ = some (.int .i64 0) := cell_be hb2 (by simp [go_sem, dd2])
  replace y2 : w2.frozen? ⟨w.heap.size + 1, 2, none⟩ = false := (hb2.frozen (by simp <;> omega)).trans (by simpa using y2)
  replace x2 : w2.frozen? ⟨w.heap.size + 1 + 1, 2, none⟩ = false := (hb2.frozen (by simp <;> omega)).trans (by simpa using x2)
  replace f3 : w2.cell? ⟨w.heap.size, 3, none⟩ = some (.slice b m d) := cell_be hb2 (by simp [go_sem, f3])
  replace r3 : w2.cell? ⟨w.heap.size + 1, 3, none⟩ = some (.slice none 0 0) := cell_be hb2 (by simp [go_sem, r3])
  replace dd3 : w2.cell? ⟨w.heap.size + 1 + 1, 3, none⟩ = some (.slice none 0 0) := cell_be hb2 (by simp [go_sem, dd3])
  replace y3 : w2.frozen? ⟨w.heap.size + 1, 3, none⟩ = false := (hb2.frozen (by simp <;> omega)).trans (by simpa using y3)
  replace x3 : w2.frozen? ⟨w.heap.size + 1 + 1, 3, none⟩ = false := (hb2.frozen (by simp <;> omega)).trans (by simpa using x3)
  replace f4 : w2.cell? ⟨w.heap.size, 4, none⟩ = some (.slice b2 m2 d2) := cell_be hb2 (by simp [go_sem, f4])
  replace r4 : w2.cell? ⟨w.heap.size + 1, 4, none⟩ = some (.slice none 0 0) := cell_be hb2 (by simp [go_sem, r4])
  replace dd4 : w2.cell? ⟨w.heap.size + 1 + 1, 4, none⟩ = some (.slice none 0 0) := cell_be hb2 (by simp [go_sem, dd4])
  replace y4 : w2.frozen? ⟨w.heap.size + 1, 4, none⟩ = false := (hb2.frozen (by simp <;> omega)).trans (by simpa using y4)
  replace x4 : w2.frozen? ⟨w.heap.size + 1 + 1, 4, none⟩ = false := (hb2.frozen (by simp <;> omega)).trans (by simpa using x4)
  replace f5 : w2.cell? ⟨w.heap.size, 5, none⟩ = some (.slice f k g) := cell_be hb2 (by simp [go_sem, f5])
  replace r5 : w2.cell? ⟨w.heap.size + 1, 5, none⟩ = some (.slice none 0 0) := cell_be hb2 (by simp [go_sem, r5])
  replace dd5 : w2.cell? ⟨w.heap.size + 1 + 1, 5, none⟩ = some (.slice none 0 0) := cell_be hb2 (by simp [go_sem, dd5])
  replace y5 : w2.frozen? ⟨w.heap.size + 1, 5, none⟩ = false := (hb2.frozen (by simp <;> omega)).trans (by simpa using y5)
  replace x5 : w2.frozen? ⟨w.heap.size + 1 + 1, 5, none⟩ = false := (hb2.frozen (by simp <;> omega)).trans (by simpa using x5)
  clear hb2
  simp at o2
  have hC3 := (((hB2.setCell (p := ⟨w.heap.size + 1 + 1, 2, none⟩) (by simp <;> omega) (.int .i64 q)).setCell (p := ⟨w.heap.size + 1 + 1, 3, none⟩) (by simp <;> omega) (.slice b' m m)).setCell (p := ⟨w.heap.size + 1 + 1, 4, none⟩) (by simp <;> omega) (.slice b2' m2 m2))
  go_wp2_with fail
  refine (toI _ _ _ _ _ (h4.below hC3) hk).mono ?_
  rintro e w3 ⟨f', rfl, ho3, hb3⟩
  have hz3 := hb3.size
  simp at hz3
  have hB3 := hC3.trans (hb3.mono (by simp <;> omega))
  replace o1 := (((o1.setLow (x := ⟨w.heap.size + 1 + 1, 2, none⟩) (by simp <;> omega) (.int .i64 q)).setLow (x := ⟨w.heap.size + 1 + 1, 3, none⟩) (by simp <;> omega) (.slice b' m m)).setLow (x := ⟨w.heap.size + 1 + 1, 4, none⟩) (by simp <;> omega) (.slice b2' m2 m2)).below hb3
  replace o2 := (((o2.setLow (x := ⟨w.heap.size + 1 + 1, 2, none⟩) (by simp <;> omega) (.int .i64 q)).setLow (x := ⟨w.heap.size + 1 + 1, 3, none⟩) (by simp <;> omega) (.slice b' m m)).setLow (x := ⟨w.heap.size + 1 + 1, 4, none⟩) (by simp <;> omega) (.slice b2' m2 m2)).below hb3
  replace f0 : w3.cell? ⟨w.heap.size, 0, none⟩ = some (.int .i64 p) := cell_be hb3 (by simp [go_sem, f0])
  replace r0 : w3.cell? ⟨w.heap.size + 1, 0, none⟩ = some (.int .i64 0) := cell_be hb3 (by simp [go_sem, r0])
  replace dd0 : w3.cell? ⟨w.heap.size + 1 + 1, 0, none⟩ = some (.int .i64 p) := cell_be hb3 (by simp [go_sem, dd0])
  replace y0 : w3.frozen? ⟨w.heap.size + 1, 0, none⟩ = false := (hb3.frozen (by simp <;> omega)).trans (by simpa using y0)
  replace x0 : w3.frozen? ⟨w.heap.size + 1 + 1, 0, none⟩ = false := (hb3.frozen (by simp <;> omega)).trans (by simpa using x0)
  replace f1 : w3.cell? ⟨w.heap.size, 1, none⟩ = some (.slice a n c) := cell_be hb3 (by simp [go_sem, f1])
  replace r1 : w3.cell? ⟨w.heap.size + 1, 1, none⟩ = some (.slice none 0 0) := cell_be hb3 (by simp [go_sem, r1])
  replace dd1 : w3.cell? ⟨w.heap.size + 1 + 1, 1, none⟩ = some (.slice a' n n) := cell_be hb3 (by simp [go_sem, dd1])
  replace y1 : w3.frozen? ⟨w.heap.size + 1, 1, none⟩ = false := (hb3.frozen (by simp <;> omega)).trans (by simpa using y1)
  replace x1 : w3.frozen? ⟨w.heap.size + 1 + 1, 1, none⟩ = false := (hb3.frozen (by simp <;> omega)).trans (by simpa using x1)
  replace f2 : w3.cell? ⟨w.heap.size, 2, none⟩ = some (.int .i64 q) := cell_be hb3 (by simp [go_sem, f2])
  replace r2 : w3.cell? ⟨w.heap.size + 1, 2, none⟩ = some (.int .i64 0) := cell_be hb3 (by simp [go_sem, r2])
  replace dd2 : w3.cell? ⟨w.heap.size + 1 + 1, 2, none⟩ = some (.int .i64 q) := cell_be hb3 (by simp [go_sem, dd2])
  replace y2 : w3.frozen? ⟨w.heap.size + 1, 2, none⟩ = false := (hb3.frozen (by simp <;> omega)).trans (by simpa using y2)
  replace x2 : w3.frozen? ⟨w.heap.size + 1 + 1, 2, none⟩ = false := (hb3.frozen (by simp <;> omega)).trans (by simpa using x2)
  replace f3 : w3.cell? ⟨w.heap.size, 3, none⟩ = some (.slice b m d) := cell_be hb3 (by simp [go_sem, f3])
  replace r3 : w3.cell? ⟨w.heap.size + 1, 3, none⟩ = some (.slice none 0 0) := cell_be hb3 (by simp [go_sem, r3])
  replace dd3 : w3.cell? ⟨w.heap.size + 1 + 1, 3, none⟩ = some (.slice b' m m) := cell_be hb3 (by simp [go_sem, dd3])
  replace y3 : w3.frozen? ⟨w.heap.size + 1, 3, none⟩ = false := (hb3.frozen (by simp <;> omega)).trans (by simpa using y3)
  replace x3 : w3.frozen? ⟨w.heap.size + 1 + 1, 3, none⟩ = false := (hb3.frozen (by simp <;> omega)).trans (by simpa using x3)
  replace f4 : w3.cell? ⟨w.heap.size, 4, none⟩ = some (.slice b2 m2 d2) := cell_be hb3 (by simp [go_sem, f4])
  replace r4 : w3.cell? ⟨w.heap.size + 1, 4, none⟩ = some (.slice none 0 0) := cell_be hb3 (by simp [go_sem, r4])
  replace dd4 : w3.cell? ⟨w.heap.size + 1 + 1, 4, none⟩ = some (.slice b2' m2 m2) := cell_be hb3 (by simp [go_sem, dd4])
  replace y4 : w3.frozen? ⟨w.heap.size + 1, 4, none⟩ = false := (hb3.frozen (by simp <;> omega)).trans (by simpa using y4)
  replace x4 : w3.frozen? ⟨w.heap.size + 1 + 1, 4, none⟩ = false := (hb3.frozen (by simp <;> omega)).trans (by simpa using x4)
  replace f5 : w3.cell? ⟨w.heap.size, 5, none⟩ = some (.slice f k g) := cell_be hb3 (by simp [go_sem, f5])
  replace r5 : w3.cell? ⟨w.heap.size + 1, 5, none⟩ = some (.slice none 0 0) := cell_be hb3 (by simp [go_sem, r5])
  replace dd5 : w3.cell? ⟨w.heap.size + 1 + 1, 5, none⟩ = some (.slice none 0 0) := cell_be hb3 (by simp [go_sem, dd5])
  replace y5 : w3.frozen? ⟨w.heap.size + 1, 5, none⟩ = false := (hb3.frozen (by simp <;> omega)).trans (by simpa using y5)
  replace x5 : w3.frozen? ⟨w.heap.size + 1 + 1, 5, none⟩ = false := (hb3.frozen (by simp <;> omega)).trans (by simpa using x5)
  clear hb3
  have o3 := OZ.of ho3 h4.len.symm
  simp at o3
  have hC4 := hB3.setCell (p := ⟨w.heap.size + 1 + 1, 5, none⟩) (by simp <;> omega) (.slice f' k k)
  clear ho3 h1 h2 h3 h4 f0 f1 f2 f3 f4 f5
  go_wp2
  refine bodyPost_ret (v := dsk p a' n n q b' m m b2' m2 m2 f' k k) (by simp [results, Try.results12, go_sem, r0, r1, r2, r3, r4, r5]) rfl ⟨a', b', b2', f', rfl, ?_, ?_⟩
  · have q1 := (((((((o1.setLow (x := ⟨w.heap.size + 1 + 1, 5, none⟩) (by simp <;> omega) (.slice f' k k)).setLow (x := ⟨w.heap.size + 1, 0, none⟩) (by simp <;> omega) (.int .i64 p)).setLow (x := ⟨w.heap.size + 1, 1, none⟩) (by simp <;> omega) (.slice a' n n)).setLow (x := ⟨w.heap.size + 1, 2, none⟩) (by simp <;> omega) (.int .i64 q)).setLow (x := ⟨w.heap.size + 1, 3, none⟩) (by simp <;> omega) (.slice b' m m)).setLow (x := ⟨w.heap.size + 1, 4, none⟩) (by simp <;> omega) (.slice b2' m2 m2)).setLow (x := ⟨w.heap.size + 1, 5, none⟩) (by simp <;> omega) (.slice f' k k))
    have q2 := (((((((o2.setLow (x := ⟨w.heap.size + 1 + 1, 5, none⟩) (by simp <;> omega) (.slice f' k k)).setLow (x := ⟨w.heap.size + 1, 0, none⟩) (by simp <;> omega) (.int .i64 p)).setLow (x := ⟨w.heap.size + 1, 1, none⟩) (by simp <;> omega) (.slice a' n n)).setLow (x := ⟨w.heap.size + 1, 2, none⟩) (by simp <;> omega) (.int .i64 q)).setLow (x := ⟨w.heap.size + 1, 3, none⟩) (by simp <;> omega) (.slice b' m m)).setLow (x := ⟨w.heap.size + 1, 4, none⟩) (by simp <;> omega) (.slice b2' m2 m2)).setLow (x := ⟨w.heap.size + 1, 5, none⟩) (by simp <;> omega) (.slice f' k k))
    have q3 := (((((((o3.setLow (x := ⟨w.heap.size + 1 + 1, 5, none⟩) (by simp <;> omega) (.slice f' k k)).setLow (x := ⟨w.heap.size + 1, 0, none⟩) (by simp <;> omega) (.int .i64 p)).setLow (x := ⟨w.heap.size + 1, 1, none⟩) (by simp <;> omega) (.slice a' n n)).setLow (x := ⟨w.heap.size + 1, 2, none⟩) (by simp <;> omega) (.int .i64 q)).setLow (x := ⟨w.heap.size + 1, 3, none⟩) (by simp <;> omega) (.slice b' m m)).setLow (x := ⟨w.heap.size + 1, 4, none⟩) (by simp <;> omega) (.slice b2' m2 m2)).setLow (x := ⟨w.heap.size + 1, 5, none⟩) (by simp <;> omega) (.slice f' k k))
    simp at hz1 hz2 hz3 hz0
    refine ⟨_, _, _, _, _, _, ?_, ?_, ?_, ?_, ?_, ?_, q1, q2, q3⟩ <;> (try simp) <;> omega
  · exact ((((((hC4.setCell (by simp <;> omega) _).setCell (by simp <;> omega) _).setCell (by simp <;> omega) _).setCell (by simp <;> omega) _).setCell (by simp <;> omega) _).setCell (by simp <;> omega) _)
set_option maxRecDepth 100000 in
set_option maxHeartbeats 1600000 in
theorem szD (p : Int) (a : Option Addr) (n c : Nat) (q : Int) (b : Option Addr) (m d : Nat) (b2 : Option Addr) (m2 d2 : Nat) (f : Option Addr) (k g : Nat) (l : Int) (w : World) (hl0 : 0 ≤ l) (hl1 : l ≤ 4000000) (hn : n ≤ 4000000) (hm : m ≤ 4000000) (hm2 : m2 ≤ 4000000) (hk : k ≤ 4000000) (h : (n : Int) + m + m2 + k ≤ l) :
    Calls Try.prog 10 #[dsk p a n c q b m d b2 m2 d2 f k g, .int .i64 l] w fun e w' => e = .returned (.int .i64 (l - n - m - m2 - k)) ∧ Below w.heap.size w w' := by
  have H : Hid ((if l - (n : Int) - (m : Int) - (m2 : Int) < (k : Int) then (-1 : Int) else l - n - m - m2 - k) = l - n - m - m2 - k) := Lib.hid (if_neg (by omega))
  have hb0 := bl1 w (.cells #[.int .i64 p, .slice a n c, .int .i64 q, .slice b m d, .slice b2 m2 d2, .slice f k g] 36)
  go_enter Try.func10, Try.ntmps10
  go_wp2_with fail
  refine (szM _ _ _ _ _ _ hn hl0 hl1 (by omega)).mono ?_
  rintro e w1 ⟨rfl, hb1⟩
  have f0 : w1.cell? ⟨w.heap.size, 0, none⟩ = some (.int .i64 p) := cell_be hb1 (by simp [go_sem])
  have f1 : w1.cell? ⟨w.heap.size, 1, none⟩ = some (.slice a n c) := cell_be hb1 (by simp [go_sem])
  have f2 : w1.cell? ⟨w.heap.size, 2, none⟩ = some (.int .i64 q) := cell_be hb1 (by simp [go_sem])
  have f3 : w1.cell? ⟨w.heap.size, 3, none⟩ = some (.slice b m d) := cell_be hb1 (by simp [go_sem])
  have f4 : w1.cell? ⟨w.heap.size, 4, none⟩ = some (.slice b2 m2 d2) := cell_be hb1 (by simp [go_sem])
  have f5 : w1.cell? ⟨w.heap.size, 5, none⟩ = some (.slice f k g) := cell_be hb1 (by simp [go_sem])
  have hB1 := bnext hb0 hb1
  clear hb1
  go_wp2_with fail
  refine (szJ _ _ _ _ _ _ _ _ _ (by omega) (by omega) hm hm2 (by omega)).mono ?_
  rintro e w2 ⟨rfl, hb2⟩
  replace f0 : w2.cell? ⟨w.heap.size, 0, none⟩ = some (.int .i64 p) := cell_be hb2 f0
  replace f1 : w2.cell? ⟨w.heap.size, 1, none⟩ = some (.slice a n c) := cell_be hb2 f1
  replace f2 : w2.cell? ⟨w.heap.size, 2, none⟩ = some (.int .i64 q) := cell_be hb2 f2
  replace f3 : w2.cell? ⟨w.heap.size, 3, none⟩ = some (.slice b m d) := cell_be hb2 f3
  replace f4 : w2.cell? ⟨w.heap.size, 4, none⟩ = some (.slice b2 m2 d2) := cell_be hb2 f4
  replace f5 : w2.cell? ⟨w.heap.size, 5, none⟩ = some (.slice f k g) := cell_be hb2 f5
  have hB2 := bnext hB1 hb2
  clear hb2
  go_wp2_with fail
  refine (szI _ _ _ _ _ hk (by omega) (by omega)).mono ?_
  rintro e w3 ⟨rfl, rfl⟩
  rw [H.out]
  go_wp2
  go_ret
  exact ⟨rfl, hB2⟩
set_option maxRecDepth 100000 in
set_option maxHeartbeats 1600000 in
theorem szD_no1 (p : Int) (a : Option Addr) (n c : Nat) (q : Int) (b : Option Addr) (m d : Nat) (b2 : Option Addr) (m2 d2 : Nat) (f : Option Addr) (k g : Nat) (l : Int) (w : World) (hl0 : 0 ≤ l) (hl1 : l ≤ 4000000) (hn : n ≤ 9223372036854775807) (hm : m ≤ 9223372036854775807) (hm2 : m2 ≤ 9223372036854775807) (hk : k ≤ 9223372036854775807) (h : l < (n : Int)) :
    Calls Try.prog 10 #[dsk p a n c q b m d b2 m2 d2 f k g, .int .i64 l] w fun e w' => e = .returned (.int .i64 (-1)) ∧ Below w.heap.size w w' := by
  have hb0 := bl1 w (.cells #[.int .i64 p, .slice a n c, .int .i64 q, .slice b m d, .slice b2 m2 d2, .slice f k g] 36)
  go_enter Try.func10, Try.ntmps10
  go_wp2_with fail
  refine (szM_no _ _ _ _ _ _ (by omega) hl0 hl1 (by omega)).mono ?_
  rintro e w1 ⟨rfl, hb1⟩
  go_wp2
  go_ret
  exact ⟨rfl, bnext hb0 hb1⟩
set_option maxRecDepth 100000 in
set_option maxHeartbeats 1600000 in
theorem szD_no2 (p : Int) (a : Option Addr) (n c : Nat) (q : Int) (b : Option Addr) (m d : Nat) (b2 : Option Addr) (m2 d2 : Nat) (f : Option Addr) (k g : Nat) (l : Int) (w : World) (hl0 : 0 ≤ l) (hl1 : l ≤ 4000000) (hn : n ≤ 9223372036854775807) (hm : m ≤ 9223372036854775807) (hm2 : m2 ≤ 9223372036854775807) (hk : k ≤ 9223372036854775807) (h0 : (n : Int) ≤ l) (h : l < (n : Int) + m + m2) :
    Calls Try.prog 10 #[dsk p a n c q b m d b2 m2 d2 f k g, .int .i64 l] w fun e w' => e = .returned (.int .i64 (-1)) ∧ Below w.heap.size w w' := by
  have hb0 := bl1 w (.cells #[.int .i64 p, .slice a n c, .int .i64 q, .slice b m d, .slice b2 m2 d2, .slice f k g] 36)
  go_enter Try.func10, Try.ntmps10
  go_wp2_with fail
  refine (szM _ _ _ _ _ _ (by omega) hl0 hl1 (by omega)).mono ?_
  rintro e w1 ⟨rfl, hb1⟩
  have f0 : w1.cell? ⟨w.heap.size, 0, none⟩ = some (.int .i64 p) := cell_be hb1 (by simp [go_sem])
  have f1 : w1.cell? ⟨w.heap.size, 1, none⟩ = some (.slice a n c) := cell_be hb1 (by simp [go_sem])
  have f2 : w1.cell? ⟨w.heap.size, 2, none⟩ = some (.int .i64 q) := cell_be hb1 (by simp [go_sem])
  have f3 : w1.cell? ⟨w.heap.size, 3, none⟩ = some (.slice b m d) := cell_be hb1 (by simp [go_sem])
  have f4 : w1.cell? ⟨w.heap.size, 4, none⟩ = some (.slice b2 m2 d2) := cell_be hb1 (by simp [go_sem])
  have f5 : w1.cell? ⟨w.heap.size, 5, none⟩ = some (.slice f k g) := cell_be hb1 (by simp [go_sem])
  have hB1 := bnext hb0 hb1
  clear hb1
  go_wp2_with fail
  refine (szJ_no _ _ _ _ _ _ _ _ _ (by omega) (by omega) (by omega) (by omega) (by omega)).mono ?_
  rintro e w2 ⟨rfl, hb2⟩
  go_wp2
  go_ret
  exact ⟨rfl, bnext hB1 hb2⟩
set_option maxRecDepth 100000 in
set_option maxHeartbeats 1600000 in
theorem szD_no3 (p : Int) (a : Option Addr) (n c : Nat) (q : Int) (b : Option Addr) (m d : Nat) (b2 : Option Addr) (m2 d2 : Nat) (f : Option Addr) (k g : Nat) (l : Int) (w : World) (hl0 : 0 ≤ l) (hl1 : l ≤ 4000000) (hn : n ≤ 9223372036854775807) (hm : m ≤ 9223372036854775807) (hm2 : m2 ≤ 9223372036854775807) (hk : k ≤ 9223372036854775807) (h0 : (n : Int) + m + m2 ≤ l) (h : l < (n : Int) + m + m2 + k) :
    Calls Try.prog 10 #[dsk p a n c q b m d b2 m2 d2 f k g, .int .i64 l] w fun e w' => e = .returned (.int .i64 (-1)) ∧ Below w.heap.size w w' := by
  have hb0 := bl1 w (.cells #[.int .i64 p, .slice a n c, .int .i64 q, .slice b m d, .slice b2 m2 d2, .slice f k g] 36)
  go_enter Try.func10, Try.ntmps10
  go_wp2_with fail
  refine (szM _ _ _ _ _ _ (by omega) hl0 hl1 (by omega)).mono ?_
  rintro e w1 ⟨rfl, hb1⟩
  have f0 : w1.cell? ⟨w.heap.size, 0, none⟩ = some (.int .i64 p) := cell_be hb1 (by simp [go_sem])
  have f1 : w1.cell? ⟨w.heap.size, 1, none⟩ = some (.slice a n c) := cell_be hb1 (by simp [go_sem])
  have f2 : w1.cell? ⟨w.heap.size, 2, none⟩ = some (.int .i64 q) := cell_be hb1 (by simp [go_sem])
  have f3 : w1.cell? ⟨w.heap.size, 3, none⟩ = some (.slice b m d) := cell_be hb1 (by simp [go_sem])
  have f4 : w1.cell? ⟨w.heap.size, 4, none⟩ = some (.slice b2 m2 d2) := cell_be hb1 (by simp [go_sem])
  have f5 : w1.cell? ⟨w.heap.size, 5, none⟩ = some (.slice f k g) := cell_be hb1 (by simp [go_sem])
  have hB1 := bnext hb0 hb1
  clear hb1
  go_wp2_with fail
  refine (szJ _ _ _ _ _ _ _ _ _ (by omega) (by omega) (by omega) (by omega) (by omega)).mono ?_
  rintro e w2 ⟨rfl, hb2⟩
  replace f0 : w2.cell? ⟨w.heap.size, 0, none⟩ = some (.int .i64 p) := cell_be hb2 f0
  replace f1 : w2.cell? ⟨w.heap.size, 1, none⟩ = some (.slice a n c) := cell_be hb2 f1
  replace f2 : w2.cell? ⟨w.heap.size, 2, none⟩ = some (.int .i64 q) := cell_be hb2 f2
  replace f3 : w2.cell? ⟨w.heap.size, 3, none⟩ = some (.slice b m d) := cell_be hb2 f3
  replace f4 : w2.cell? ⟨w.heap.size, 4, none⟩ = some (.slice b2 m2 d2) := cell_be hb2 f4
  replace f5 : w2.cell? ⟨w.heap.size, 5, none⟩ = some (.slice f k g) := cell_be hb2 f5
  have hB2 := bnext hB1 hb2
  clear hb2
  go_wp2_with (first | go_in)
  go_ret
  exact ⟨rfl, hB2⟩
theorem szD_no (p : Int) (a : Option Addr) (n c : Nat) (q : Int) (b : Option Addr) (m d : Nat) (b2 : Option Addr) (m2 d2 : Nat) (f : Option Addr) (k g : Nat) (l : Int) (w : World) (hl0 : 0 ≤ l) (hl1 : l ≤ 4000000) (hn : n ≤ 9223372036854775807) (hm : m ≤ 9223372036854775807) (hm2 : m2 ≤ 9223372036854775807) (hk : k ≤ 9223372036854775807) (h : l < (n : Int) + m + m2 + k) :
    Calls Try.prog 10 #[dsk p a n c q b m d b2 m2 d2 f k g, .int .i64 l] w fun e w' => e = .returned (.int .i64 (-1)) ∧ Below w.heap.size w w' := by
  by_cases c1 : l < (n : Int)
  · exact szD_no1 p a n c q b m d b2 m2 d2 f k g l w hl0 hl1 hn hm hm2 hk c1
  by_cases c2 : l < (n : Int) + m + m2
  · exact szD_no2 p a n c q b m d b2 m2 d2 f k g l w hl0 hl1 hn hm hm2 hk (by omega) c2
  exact szD_no3 p a n c q b m d b2 m2 d2 f k g l w hl0 hl1 hn hm hm2 hk (by omega) h
set_option maxRecDepth 100000 in
set_option maxHeartbeats 1600000 in
theorem eqD (p : Int) (a : Option Addr) (n c : Nat) (q : Int) (b : Option Addr) (m d : Nat) (b2 : Option Addr) (m2 d2 : Nat) (f : Option Addr) (k g : Nat) (a1 : Option Addr) (c1 : Nat) (b1 : Option Addr) (d1 : Nat) (b21 : Option Addr) (d21 : Nat) (f1 : Option Addr) (g1 : Nat) (xs ys zs us : List Int) (w : World) (h1 : SL w a n c xs) (h2 : SL w b m d ys) (h3 : SL w b2 m2 d2 zs) (h4 : SL w f k g us) (h5 : SL w a1 n c1 xs) (h6 : SL w b1 m d1 ys) (h7 : SL w b21 m2 d21 zs) (h8 : SL w f1 k g1 us) (hn : n ≤ 4000000) (hm : m ≤ 4000000) (hm2 : m2 ≤ 4000000) (hk : k ≤ 4000000) :
    Calls Try.prog 7 #[dsk p a n c q b m d b2 m2 d2 f k g, dsk p a1 n c1 q b1 m d1 b21 m2 d21 f1 k g1] w fun e w' => e = .returned (.bool true) ∧ Below w.heap.size w w' := by
  have hb0 := bl2 w (.cells #[.int .i64 p, .slice a n c, .int .i64 q, .slice b m d, .slice b2 m2 d2, .slice f k g] 28) (.cells #[.int .i64 p, .slice a1 n c1, .int .i64 q, .slice b1 m d1, .slice b21 m2 d21, .slice f1 k g1] 28)
  go_enter Try.func7, Try.ntmps7
  go_wp2_with fail
  refine (eqM _ _ _ _ _ _ _ _ (h1.below hb0) (h5.below hb0) hn).mono ?_
  rintro e w1 ⟨rfl, hb1⟩
  have hB1 := bnext hb0 hb1
  have u0 : w1.cell? ⟨w.heap.size, 0, none⟩ = some (.int .i64 p) := cell_be hb1 (by simp [go_sem])
  have v0 : w1.cell? ⟨w.heap.size + 1, 0, none⟩ = some (.int .i64 p) := cell_be hb1 (by simp [go_sem])
  have u1 : w1.cell? ⟨w.heap.size, 1, none⟩ = some (.slice a n c) := cell_be hb1 (by simp [go_sem])
  have v1 : w1.cell? ⟨w.heap.size + 1, 1, none⟩ = some (.slice a1 n c1) := cell_be hb1 (by simp [go_sem])
  have u2 : w1.cell? ⟨w.heap.size, 2, none⟩ = some (.int .i64 q) := cell_be hb1 (by simp [go_sem])
  have v2 : w1.cell? ⟨w.heap.size + 1, 2, none⟩ = some (.int .i64 q) := cell_be hb1 (by simp [go_sem])
  have u3 : w1.cell? ⟨w.heap.size, 3, none⟩ = some (.slice b m d) := cell_be hb1 (by simp [go_sem])
  have v3 : w1.cell? ⟨w.heap.size + 1, 3, none⟩ = some (.slice b1 m d1) := cell_be hb1 (by simp [go_sem])
  have u4 : w1.cell? ⟨w.heap.size, 4, none⟩ = some (.slice b2 m2 d2) := cell_be hb1 (by simp [go_sem])
  have v4 : w1.cell? ⟨w.heap.size + 1, 4, none⟩ = some (.slice b21 m2 d21) := cell_be hb1 (by simp [go_sem])
  have u5 : w1.cell? ⟨w.heap.size, 5, none⟩ = some (.slice f k g) := cell_be hb1 (by simp [go_sem])
  have v5 : w1.cell? ⟨w.heap.size + 1, 5, none⟩ = some (.slice f1 k g1) := cell_be hb1 (by simp [go_sem])
  clear hb1
  go_wp2_with fail
  refine (eqJ _ _ _ _ _ _ _ _ _ _ _ _ _ _ (h2.below hB1) (h6.below hB1) (h3.below hB1) (h7.below hB1) hm hm2).mono ?_
  rintro e w2 ⟨rfl, hb2⟩
  have hB2 := bnext hB1 hb2
  replace u0 := cell_be hb2 u0
  replace v0 := cell_be hb2 v0
  replace u1 := cell_be hb2 u1
  replace v1 := cell_be hb2 v1
  replace u2 := cell_be hb2 u2
  replace v2 := cell_be hb2 v2
  replace u3 := cell_be hb2 u3
  replace v3 := cell_be hb2 v3
  replace u4 := cell_be hb2 u4
  replace v4 := cell_be hb2 v4
  replace u5 := cell_be hb2 u5
  replace v5 := cell_be hb2 v5
  clear hb2
  go_wp2_with fail
  refine (eqI _ _ _ _ _ _ _ (h4.below hB2) (h8.below hB2) hk).mono ?_
  rintro e w3 ⟨rfl, hb3⟩
  go_wp2
  go_ret
  exact ⟨rfl, bnext hB2 hb3⟩
set_option maxRecDepth 100000 in
set_option maxHeartbeats 1600000 in
theorem markD (lo hi : Nat) (p : Int) (a : Option Addr) (n c : Nat) (q : Int) (b : Option Addr) (m d : Nat) (b2 : Option Addr) (m2 d2 : Nat) (f : Option Addr) (k g : Nat) (xs ys zs us : List Int) (l : Int) (w : World) (h : DZ lo hi w a n c xs b m d ys b2 m2 d2 zs f k g us) (hhi : hi ≤ w.heap.size) (hn : n ≤ 4000000) (hm : m ≤ 4000000) (hm2 : m2 ≤ 4000000) (hk : k ≤ 4000000) (hl0 : 0 ≤ l) (hl1 : l ≤ 10000000000) :
    Calls Try.prog 8 #[dsk p a n c q b m d b2 m2 d2 f k g, .int .i64 l] w fun e w' => e = .returned (.int .i64 (l + n + m + m2 + k)) ∧ DZ lo hi w' a n c (marks l n) b m d (marks (l + n) m) b2 m2 d2 (marks (l + n + m) m2) f k g (marks (l + n + m + m2) k) ∧ Touch lo hi w w' := by
  obtain ⟨l1, p1, l2, p2, l3, p3, e1, e2, e3, e4, e5, e6, x, y, z⟩ := h
  have hb0 := bl1 w (.cells #[.int .i64 p, .slice a n c, .int .i64 q, .slice b m d, .slice b2 m2 d2, .slice f k g] 28)
  have t0 := Touch.alloc lo hi w (.cells #[.int .i64 p, .slice a n c, .int .i64 q, .slice b m d, .slice b2 m2 d2, .slice f k g] 28)
  replace x := x.below hb0
  replace y := y.below hb0
  replace z := z.below hb0
  go_enter Try.func8, Try.ntmps8
  go_wp2_with fail
  refine (markMT l1 p1 _ _ _ _ _ _ _ x hn hl0 (by omega)).mono ?_
  rintro e w1 ⟨rfl, x1, t1⟩
  have hz1 := t1.size
  simp at hz1
  have f0 : w1.cell? ⟨w.heap.size, 0, none⟩ = some (.int .i64 p) := t1.cell (by simp [go_sem]) (.inr (by omega))
  have f1 : w1.cell? ⟨w.heap.size, 1, none⟩ = some (.slice a n c) := t1.cell (by simp [go_sem]) (.inr (by omega))
  have f2 : w1.cell? ⟨w.heap.size, 2, none⟩ = some (.int .i64 q) := t1.cell (by simp [go_sem]) (.inr (by omega))
  have f3 : w1.cell? ⟨w.heap.size, 3, none⟩ = some (.slice b m d) := t1.cell (by simp [go_sem]) (.inr (by omega))
  have f4 : w1.cell? ⟨w.heap.size, 4, none⟩ = some (.slice b2 m2 d2) := t1.cell (by simp [go_sem]) (.inr (by omega))
  have f5 : w1.cell? ⟨w.heap.size, 5, none⟩ = some (.slice f k g) := t1.cell (by simp [go_sem]) (.inr (by omega))
  replace y := y.touch t1 (by omega)
  replace z := z.touch t1 (by omega)
  go_wp2_with fail
  refine (markJ l2 p2 _ _ _ _ _ _ _ _ _ _ _ y (by omega) (by omega) hm hm2 (by omega) (by omega)).mono ?_
  rintro e w2 ⟨rfl, y1, t2⟩
  replace f0 : w2.cell? ⟨w.heap.size, 0, none⟩ = some (.int .i64 p) := t2.cell f0 (.inr (by omega))
  replace f1 : w2.cell? ⟨w.heap.size, 1, none⟩ = some (.slice a n c) := t2.cell f1 (.inr (by omega))
  replace f2 : w2.cell? ⟨w.heap.size, 2, none⟩ = some (.int .i64 q) := t2.cell f2 (.inr (by omega))
  replace f3 : w2.cell? ⟨w.heap.size, 3, none⟩ = some (.slice b m d) := t2.cell f3 (.inr (by omega))
  replace f4 : w2.cell? ⟨w.heap.size, 4, none⟩ = some (.slice b2 m2 d2) := t2.cell f4 (.inr (by omega))
  replace f5 : w2.cell? ⟨w.heap.size, 5, none⟩ = some (.slice f k g) := t2.cell f5 (.inr (by omega))
  replace x1 := x1.touch t2 (by omega)
  replace z := z.touch t2 (by omega)
  go_wp2_with fail
  refine (markZT l3 p3 _ _ _ _ _ _ z hk (by omega) (by omega)).mono ?_
  rintro e w3 ⟨rfl, z1, t3⟩
  replace x1 := x1.touch t3 (by omega)
  replace y1 := y1.touch t3 (by omega)
  go_wp2
  go_ret
  exact ⟨rfl, ⟨l1, p1, l2, p2, l3, p3, e1, e2, e3, e4, e5, e6, x1, y1, z1⟩, t0.trans ((t1.mono (by omega) (by omega)).trans ((t2.mono (by omega) (by omega)).trans (t3.mono (by omega) (by omega))))⟩
set_option maxRecDepth 100000 in
set_option maxHeartbeats 1600000 in
theorem heldD (p : Int) (a : Option Addr) (n c : Nat) (q : Int) (b : Option Addr) (m d : Nat) (b2 : Option Addr) (m2 d2 : Nat) (f : Option Addr) (k g : Nat) (l : Int) (w : World) (h1 : SL w a n c (marks l n)) (h2 : SL w b m d (marks (l + n) m)) (h3 : SL w b2 m2 d2 (marks (l + n + m) m2)) (h4 : SL w f k g (marks (l + n + m + m2) k)) (hn : n ≤ 4000000) (hm : m ≤ 4000000) (hm2 : m2 ≤ 4000000) (hk : k ≤ 4000000) (hl0 : 0 ≤ l) (hl1 : l ≤ 10000000000) :
    Calls Try.prog 9 #[dsk p a n c q b m d b2 m2 d2 f k g, .int .i64 l] w fun e w' => e = .returned (.int .i64 (l + n + m + m2 + k)) ∧ Below w.heap.size w w' := by
  have hb0 := bl1 w (.cells #[.int .i64 p, .slice a n c, .int .i64 q, .slice b m d, .slice b2 m2 d2, .slice f k g] 28)
  have c1 : ¬ l + (n : Int) < 0 := by omega
  have c2 : ¬ l + (n : Int) + (m : Int) + (m2 : Int) < 0 := by omega
  have c3 : ¬ l + (n : Int) + (m : Int) + (m2 : Int) + (k : Int) < 0 := by omega
  go_enter Try.func9, Try.ntmps9
  go_wp2_with fail
  refine (heldM _ _ _ _ _ _ (h1.below hb0) hn hl0 (by omega)).mono ?_
  rintro e w1 ⟨rfl, hb1⟩
  have f0 : w1.cell? ⟨w.heap.size, 0, none⟩ = some (.int .i64 p) := cell_be hb1 (by simp [go_sem])
  have f1 : w1.cell? ⟨w.heap.size, 1, none⟩ = some (.slice a n c) := cell_be hb1 (by simp [go_sem])
  have f2 : w1.cell? ⟨w.heap.size, 2, none⟩ = some (.int .i64 q) := cell_be hb1 (by simp [go_sem])
  have f3 : w1.cell? ⟨w.heap.size, 3, none⟩ = some (.slice b m d) := cell_be hb1 (by simp [go_sem])
  have f4 : w1.cell? ⟨w.heap.size, 4, none⟩ = some (.slice b2 m2 d2) := cell_be hb1 (by simp [go_sem])
  have f5 : w1.cell? ⟨w.heap.size, 5, none⟩ = some (.slice f k g) := cell_be hb1 (by simp [go_sem])
  have hB1 := bnext hb0 hb1
  clear hb1
  go_wp2_with fail
  refine (heldJ _ _ _ _ _ _ _ _ _ (h2.below hB1) (h3.below hB1) hm hm2 (by omega) (by omega)).mono ?_
  rintro e w2 ⟨rfl, hb2⟩
  replace f0 : w2.cell? ⟨w.heap.size, 0, none⟩ = some (.int .i64 p) := cell_be hb2 f0
  replace f1 : w2.cell? ⟨w.heap.size, 1, none⟩ = some (.slice a n c) := cell_be hb2 f1
  replace f2 : w2.cell? ⟨w.heap.size, 2, none⟩ = some (.int .i64 q) := cell_be hb2 f2
  replace f3 : w2.cell? ⟨w.heap.size, 3, none⟩ = some (.slice b m d) := cell_be hb2 f3
  replace f4 : w2.cell? ⟨w.heap.size, 4, none⟩ = some (.slice b2 m2 d2) := cell_be hb2 f4
  replace f5 : w2.cell? ⟨w.heap.size, 5, none⟩ = some (.slice f k g) := cell_be hb2 f5
  have hB2 := bnext hB1 hb2
  clear hb2
  go_wp2_with fail
  refine (heldI _ _ _ _ _ (h4.below hB2) hk (by omega) (by omega)).mono ?_
  rintro e w3 ⟨rfl, rfl⟩
  go_wp2
  go_ret
  exact ⟨rfl, hB2⟩
end Go.Proofs.Ytpoabedlcljibaa
