/- Contracts: the closures that go on (recurrence, polysOf, associatesOf, goOn). -/
import Derived.Test.YtgaafhcnfeipbaaRc
namespace Go.Proofs.Ytgaafhcnfeipbaa
open Go.RowKit
set_option linter.unusedVariables false
set_option linter.unusedSimpArgs false

theorem OZ.nilZ (lo hi : Nat) (w : World) (a : Option Addr) (cap : Nat) (h : a = none → cap = 0) : OZ lo hi w a 0 cap [] := ⟨⟨rfl, ⟨Nat.zero_le _, h⟩, .inl rfl⟩, .inl rfl⟩
/-- A list of the call's own (blocks from lo on) that lies neither in the four blocks from B on nor in those from z up to ze. -/
def Kept (lo B z ze : Nat) (w : World) (a : Option Addr) (c : Nat) (f : List Int) : Prop :=
  ∃ l h, lo ≤ l ∧ h ≤ w.heap.size ∧ (h ≤ B ∨ B + 4 ≤ l) ∧ (h ≤ z ∨ ze ≤ l) ∧ OZ l h w a f.length c f
theorem Kept.below {lo B z ze : Nat} {w w' : World} {a : Option Addr} {c : Nat} {f : List Int} (h : Kept lo B z ze w a c f) (hb : Below w.heap.size w w') : Kept lo B z ze w' a c f := by
  obtain ⟨l, hh, h1, h2, h3, h4, h5⟩ := h
  exact ⟨l, hh, h1, Nat.le_trans h2 hb.size, h3, h4, h5.below hb⟩
theorem Kept.touch {lo B z ze : Nat} {w w' : World} {a : Option Addr} {c : Nat} {f : List Int} (h : Kept lo B z ze w a c f) (t : Touch B (B + 4) w w') : Kept lo B z ze w' a c f := by
  obtain ⟨l, hh, h1, h2, h3, h4, h5⟩ := h
  exact ⟨l, hh, h1, Nat.le_trans h2 t.size, h3, h4, h5.touch t h3⟩
theorem Kept.touchZ {lo B z ze : Nat} {w w' : World} {a : Option Addr} {c : Nat} {f : List Int} (h : Kept lo B z ze w a c f) (t : Touch z (ze) w w') : Kept lo B z ze w' a c f := by
  obtain ⟨l, hh, h1, h2, h3, h4, h5⟩ := h
  exact ⟨l, hh, h1, Nat.le_trans h2 t.size, h3, h4, h5.touch t h4⟩
theorem Kept.sl {lo B z ze : Nat} {w : World} {a : Option Addr} {c : Nat} {f : List Int} (h : Kept lo B z ze w a c f) : SL w a f.length c f := by
  obtain ⟨l, hh, h1, h2, h3, h4, h5⟩ := h
  exact h5.sl
theorem Kept.new {lo B z ze : Nat} {w w' : World} {a : Option Addr} {c : Nat} {f : List Int} (h : Own w.heap.size w' a c f) (h1 : lo ≤ w.heap.size) (h2 : B + 4 ≤ w.heap.size) (h3 : ze ≤ w.heap.size) : Kept lo B z ze w' a c f :=
  ⟨w.heap.size, w'.heap.size, h1, Nat.le_refl _, .inr h2, .inr h3, OZ.of h rfl⟩
/-- The closure of a recurrence, whose four blocks begin at B. -/
abbrev rclo (B : Nat) : Value := .func (.func 113) #[] #[.pointer (some ⟨B + 1, 0, none⟩), .pointer (some ⟨B + 1 + 1, 0, none⟩), .pointer (some ⟨B + 1 + 1 + 1, 0, none⟩), .pointer (some ⟨B, 0, none⟩)]
theorem Touch.set {lo hi : Nat} {a w : World} (h : Touch lo hi a w) {x : Addr} (h1 : lo ≤ x.block) (h2 : x.block < hi) (u : Value) : Touch lo hi a (w.setCell x u) :=
  h.trans ⟨rfl, rfl, rfl, by simp [World.setCell], fun k hk hd => Below.heap_setCell _ _ _ _ (by omega)⟩
theorem Touch.ofBelow {lo hi : Nat} {w w' : World} (h : Below w.heap.size w w') : Touch lo hi w w' := ⟨h.os, h.tape, h.output, h.size, fun k hk _ => h.block k hk⟩
theorem Touch.refl (lo hi : Nat) (w : World) : Touch lo hi w w := ⟨rfl, rfl, rfl, Nat.le_refl _, fun _ _ _ => rfl⟩
theorem Touch.frozen {lo hi b o : Nat} {w w' : World} {v : Value} {x : Bool} (t : Touch lo hi w w') (h : w.cell? ⟨b, o, none⟩ = some v) (hf : w.frozen? ⟨b, o, none⟩ = x) (hd : b < lo ∨ hi ≤ b) : w'.frozen? ⟨b, o, none⟩ = x :=
  (World.frozen?_of_block (w := w) (t.block b (World.block_lt_of_cell? w _ h) hd)).trans hf
/-- What a closure of a recurrence keeps of memory: data at B, the current and the next polynomial f, g, the number k. -/
structure RInv (z ze B : Nat) (w0 w : World) (p : Int) (a : Option Addr) (n c : Nat) (b : Option Addr) (d : Nat) (k : Nat) (f g : List Int) : Prop where
  hb : Below w0.heap.size w0 w
  lb : w0.heap.size ≤ B
  sz : B + 4 ≤ w.heap.size
  zs : ze ≤ w.heap.size
  j0 : w.cell? ⟨B, 0, none⟩ = some (.int .i64 p)
  j1 : w.cell? ⟨B, 1, none⟩ = some (.slice a n c)
  j2 : w.cell? ⟨B, 2, none⟩ = some (.slice b n d)
  cc : ∃ ac cc, w.cell? ⟨B + 1, 0, none⟩ = some (.slice ac f.length cc) ∧ Kept w0.heap.size B z ze w ac cc f
  cn : ∃ an cn, w.cell? ⟨B + 1 + 1, 0, none⟩ = some (.slice an g.length cn) ∧ Kept w0.heap.size B z ze w an cn g
  kk : w.cell? ⟨B + 1 + 1 + 1, 0, none⟩ = some (.int .i64 k)
  fc : w.frozen? ⟨B + 1, 0, none⟩ = false
  fn : w.frozen? ⟨B + 1 + 1, 0, none⟩ = false
  fk : w.frozen? ⟨B + 1 + 1 + 1, 0, none⟩ = false
/-- Another closure of the same kind has gone on. -/
theorem RInv.touch {z ze B : Nat} {w0 w w' : World} {p : Int} {a : Option Addr} {n c : Nat} {b : Option Addr} {d k : Nat} {f g : List Int} (h : RInv z ze B w0 w p a n c b d k f g) (t : Touch z (ze) w w') (hd : B + 4 ≤ z ∨ ze ≤ B) (hz : w0.heap.size ≤ z) : RInv z ze B w0 w' p a n c b d k f g := by
  obtain ⟨hb, lb, sz, zs, j0, j1, j2, ⟨ac, cc, c0, ck⟩, ⟨an, cn, n0, nk⟩, kk, fc, fn, fk⟩ := h
  have m : ∀ {x : Nat}, x < B + 4 → B ≤ x → x < z ∨ ze ≤ x := fun h1 h2 => by omega
  exact ⟨below_touch hb t hz (by omega), lb, Nat.le_trans sz t.size, Nat.le_trans zs t.size, t.cell j0 (m (by omega) (by omega)), t.cell j1 (m (by omega) (by omega)), t.cell j2 (m (by omega) (by omega)),
    ⟨ac, cc, t.cell c0 (m (by omega) (by omega)), ck.touchZ t⟩, ⟨an, cn, t.cell n0 (m (by omega) (by omega)), nk.touchZ t⟩, t.cell kk (m (by omega) (by omega)),
    t.frozen c0 fc (m (by omega) (by omega)), t.frozen n0 fn (m (by omega) (by omega)), t.frozen kk fk (m (by omega) (by omega))⟩
theorem RInv.below {z ze B : Nat} {w0 w w' : World} {p : Int} {a : Option Addr} {n c : Nat} {b : Option Addr} {d k : Nat} {f g : List Int} (h : RInv z ze B w0 w p a n c b d k f g) (t : Below w.heap.size w w') : RInv z ze B w0 w' p a n c b d k f g := by
  obtain ⟨hb, lb, sz, zs, j0, j1, j2, ⟨ac, cc, c0, ck⟩, ⟨an, cn, n0, nk⟩, kk, fc, fn, fk⟩ := h
  exact ⟨hb.trans (t.mono (by omega)), lb, Nat.le_trans sz t.size, Nat.le_trans zs t.size, cell_be t j0, cell_be t j1, cell_be t j2, ⟨ac, cc, cell_be t c0, ck.below t⟩, ⟨an, cn, cell_be t n0, nk.below t⟩, cell_be t kk,
    (t.frozen (World.block_lt_of_cell? _ _ c0)).trans fc, (t.frozen (World.block_lt_of_cell? _ _ n0)).trans fn, (t.frozen (World.block_lt_of_cell? _ _ kk)).trans fk⟩
/-- The zone of another closure that is made later. -/
theorem Kept.zone {lo B z ze z' ze' : Nat} {w : World} {a : Option Addr} {c : Nat} {f : List Int} (h : Kept lo B z ze w a c f) (hz : w.heap.size ≤ z') : Kept lo B z' ze' w a c f := by
  obtain ⟨l, hh, h1, h2, h3, h4, h5⟩ := h
  exact ⟨l, hh, h1, h2, h3, .inl (by omega), h5⟩
theorem RInv.zone {z ze z' ze' B : Nat} {w0 w w' : World} {p : Int} {a : Option Addr} {n c : Nat} {b : Option Addr} {d k : Nat} {f g : List Int} (h : RInv z ze B w0 w p a n c b d k f g) (hz : w.heap.size ≤ z') (t : Below w.heap.size w w') (hs : ze' ≤ w'.heap.size) : RInv z' ze' B w0 w' p a n c b d k f g := by
  obtain ⟨hb, lb, sz, zs, j0, j1, j2, ⟨ac, cc, c0, ck⟩, ⟨an, cn, n0, nk⟩, kk, fc, fn, fk⟩ := h
  exact ⟨hb.trans (t.mono (by omega)), lb, Nat.le_trans sz t.size, hs, cell_be t j0, cell_be t j1, cell_be t j2, ⟨ac, cc, cell_be t c0, (ck.zone hz).below t⟩, ⟨an, cn, cell_be t n0, (nk.zone hz).below t⟩, cell_be t kk,
    (t.frozen (World.block_lt_of_cell? _ _ c0)).trans fc, (t.frozen (World.block_lt_of_cell? _ _ n0)).trans fn, (t.frozen (World.block_lt_of_cell? _ _ kk)).trans fk⟩
set_option maxRecDepth 100000 in
set_option maxHeartbeats 1600000 in
theorem nextPoly_any (p : Int) (a : Option Addr) (n c : Nat) (xs : List Int) (b : Option Addr) (n2 d : Nat) (ys : List Int) (i : Nat) (ii : Int) (x y : Int) (a1 : Option Addr) (n1 c1 : Nat) (f : List Int) (a2 : Option Addr) (m2 c2 : Nat) (g : List Int) (w : World) (hs : SL w a n c xs) (ht : SL w b n2 d ys) (h1 : SL w a1 n1 c1 f) (h2 : SL w a2 m2 c2 g)
    (hii : ii = i) (hx : xs.getD i 0 = x) (hy : ys.getD i 0 = y) (hi : i < n) (hi2 : i < n2) (hn : n ≤ 100) (hn2 : n2 ≤ 100) (hp : 2 ≤ p) (hp2 : p ≤ 10007) (x1 : 0 ≤ x) (x2 : x < p) (y1 : 0 ≤ y) (y2 : y < p) (hf : areB p f = true) (hg : areB p g = true) (b1 : n1 ≤ 100) (b2 : m2 ≤ 100) :
    Calls Try.prog 114 #[jac p a n c b n2 d, .int .i64 ii, .slice a1 n1 c1, .slice a2 m2 c2] w
      fun e w' => ∃ a' c', e = .returned (.slice a' (stp p x y g f).length c') ∧ Own w.heap.size w' a' c' (stp p x y g f) ∧ Below w.heap.size w w' := by
  subst hii
  obtain ⟨b1', o1, rfl, hw1, hc1⟩ := hs.at (by omega)
  obtain ⟨b2', o2, rfl, hw2, hc2⟩ := ht.at (by omega)
  have l1 := h1.len
  have l2 := h2.len
  have hb0 := bl1 w (.cells #[.int .i64 p, .slice (some ⟨b1', o1, none⟩) n c, .slice (some ⟨b2', o2, none⟩) n2 d] 24)
  have e1 := cell_be hb0 (hc1 i hi)
  have e2 := cell_be hb0 (hc2 i hi2)
  rw [hx] at e1
  rw [hy] at e2
  have s1 := h1.below hb0
  have s2 := h2.below hb0
  have f0 : (w.alloc (.cells #[.int .i64 p, .slice (some ⟨b1', o1, none⟩) n c, .slice (some ⟨b2', o2, none⟩) n2 d] 24)).cell? ⟨w.heap.size, 0, none⟩ = some (.int .i64 p) := by simp [go_sem]
  have f1 : (w.alloc (.cells #[.int .i64 p, .slice (some ⟨b1', o1, none⟩) n c, .slice (some ⟨b2', o2, none⟩) n2 d] 24)).cell? ⟨w.heap.size, 1, none⟩ = some (.slice (some ⟨b1', o1, none⟩) n c) := by simp [go_sem]
  have f2 : (w.alloc (.cells #[.int .i64 p, .slice (some ⟨b1', o1, none⟩) n c, .slice (some ⟨b2', o2, none⟩) n2 d] 24)).cell? ⟨w.heap.size, 2, none⟩ = some (.slice (some ⟨b2', o2, none⟩) n2 d) := by simp [go_sem]
  have z0 : w.heap.size + 1 = (w.alloc (.cells #[.int .i64 p, .slice (some ⟨b1', o1, none⟩) n c, .slice (some ⟨b2', o2, none⟩) n2 d] 24)).heap.size := by simp
  have hlt : (i : Int) < (n : Int) := by omega
  have hlt2 : (i : Int) < (n2 : Int) := by omega
  have hll := lin_len p x g
  have ry := opp_rng (x := y) hp
  have HL := hide (linM_poly (a := x) hp)
  have HF := hide hf
  have HG := hide hg
  have L1 := hide l1
  have L2 := hide l2
  clear hc1 hc2 hs ht h1 h2 hx hy hf hg l1 l2
  go_enter Try.func114, Try.ntmps114
  go_wp2
  generalize (w.alloc (.cells #[.int .i64 p, .slice (some ⟨b1', o1, none⟩) n c, .slice (some ⟨b2', o2, none⟩) n2 d] 24)) = wx at *
  have hbd := (Below.refl wx.heap.size wx).drew
  have F : ∀ w', Below wx.heap.size wx w' → w'.cell? ⟨w.heap.size, 0, none⟩ = some (.int .i64 p) ∧ w'.cell? ⟨w.heap.size, 1, none⟩ = some (.slice (some ⟨b1', o1, none⟩) n c) ∧ w'.cell? ⟨b1', o1 + i, none⟩ = some (.int .i64 x) := fun w' h => ⟨cell_be h f0, cell_be h f1, cell_be h e1⟩
  go_region_held3 (fun w' => w'.cell? ⟨w.heap.size, 0, none⟩ = some (.int .i64 p) ∧ w'.cell? ⟨w.heap.size, 1, none⟩ = some (.slice (some ⟨b1', o1, none⟩) n c) ∧ w'.cell? ⟨b1', o1 + i, none⟩ = some (.int .i64 x))
    (exact F _ (by assumption))
    (first
    | (go_at_call 104; refine (linear_any p x _ hp hp2 x1 x2).mono ?_; rintro e w3 ⟨rfl, ho3, hb3⟩; have hm3 := bnext hbd hb3)
    | (go_at_call 74; refine (multiply_any p _ _ _ (linM p x) _ _ _ g _ ho3.sl (s2.below hm3) (by simp [linM]) (by omega) hp hp2 (polyB_rng HL.out).2.1 HG.out).mono ?_; rintro e w4 ⟨a', c', rfl, ho4, hb4⟩; have hm4 := bnext hm3 hb4))
  have q0 := cell_be hm4 f0
  have q2 := cell_be hm4 f2
  have e4 := cell_be hm4 e2
  have p4 := ho4.sl
  have s4 := s1.below hm4
  have L2' := L2.out
  have hbd4 := (Below.refl w4.heap.size w4).drew
  have F4 : ∀ w', Below w4.heap.size w4 w' → w'.cell? ⟨w.heap.size, 0, none⟩ = some (.int .i64 p) ∧ w'.cell? ⟨w.heap.size, 2, none⟩ = some (.slice (some ⟨b2', o2, none⟩) n2 d) ∧ w'.cell? ⟨b2', o2 + i, none⟩ = some (.int .i64 y) := fun w' h => ⟨cell_be h q0, cell_be h q2, cell_be h e4⟩
  have z4 := hm4.size
  have hB4 := hb0.trans (hm4.mono (by omega))
  have hlen : (mulM p (linM p x) g).length ≤ 1000 := by omega
  clear hbd F hm3 ho3 ho4 hb3 hb4 e1 e2 f0 f1 f2 s1 s2 L2' hll
  go_wp2
  go_region_held3 (fun w' => w'.cell? ⟨w.heap.size, 0, none⟩ = some (.int .i64 p) ∧ w'.cell? ⟨w.heap.size, 2, none⟩ = some (.slice (some ⟨b2', o2, none⟩) n2 d) ∧ w'.cell? ⟨b2', o2 + i, none⟩ = some (.int .i64 y))
    (exact F4 _ (by assumption))
    (first
    | (go_at_call 115; refine (opposite_any p y _ hp hp2 y1 y2).mono ?_; rintro e w' ⟨rfl, rfl⟩)
    | (go_at_call 98; refine (addMultiple_any p (opp p y) _ _ _ (mulM p (linM p x) g) _ _ _ f _ (p4.below hbd4) (s4.below hbd4) hlen (by omega) hp hp2 ry.1 ry.2 (mulM_are hp) HF.out).mono ?_; rintro e w5 ⟨a5, c5, rfl, ho5, hb5⟩; have hm5 := bnext hbd4 hb5))
  go_wp2
  go_ret
  exact ⟨a5, c5, rfl, ho5.mono (by simp; omega), bnext hB4 hm5⟩
set_option maxRecDepth 100000 in
set_option maxHeartbeats 1600000 in
theorem recurrence_any (p : Int) (a : Option Addr) (n c : Nat) (b : Option Addr) (d : Nat) (x1 : Option Addr) (c1 : Nat) (f : List Int) (x2 : Option Addr) (c2 : Nat) (g : List Int) (z ze : Nat) (w0 w : World) (hb : Below w0.heap.size w0 w) (h1 : Kept w0.heap.size w.heap.size z ze w x1 c1 f) (h2 : Kept w0.heap.size w.heap.size z ze w x2 c2 g) (hz : ze ≤ w.heap.size) :
    Calls Try.prog 103 #[jac p a n c b n d, .slice x1 f.length c1, .slice x2 g.length c2] w fun e w' => e = .returned (rclo w.heap.size) ∧ RInv z ze w.heap.size w0 w' p a n c b d 0 f g ∧ Below w.heap.size w w' := by
  have hs := hb.size
  go_enter Try.func103, Try.ntmps103
  go_wp2
  go_ret
  have t : Below w.heap.size w ((((w.alloc (.cells #[.int .i64 p, .slice a n c, .slice b n d] 24)).alloc (.cells #[.slice x1 f.length c1] 22)).alloc (.cells #[.slice x2 g.length c2] 22)).alloc (.cells #[.int .i64 0] 3)) := bl4 _ _ _ _ _
  refine ⟨rfl, ⟨hb.trans (t.mono hs), hs, by simp, by simp; omega, by simp [go_sem], by simp [go_sem], by simp [go_sem], ⟨x1, c1, by simp [go_sem], h1.below t⟩, ⟨x2, c2, by simp [go_sem], h2.below t⟩, by simp [go_sem], by simp [go_sem], by simp [go_sem], by simp [go_sem]⟩, t⟩
set_option maxRecDepth 100000 in
set_option maxHeartbeats 3200000 in
theorem next_any (p : Int) (a : Option Addr) (n c : Nat) (xs : List Int) (b : Option Addr) (d : Nat) (ys : List Int) (k m : Nat) (f g : List Int) (z ze B : Nat) (w0 w : World) (hs : SL w0 a n c xs) (ht : SL w0 b n d ys) (hpr : primeB p = true) (hx : areB p xs = true) (hy : areB p ys = true) (hn : n ≤ 100) (hk : k ≤ n)
    (hf : Small p m f) (hg : Small p m g) (hm : m ≤ 24) (h : RInv z ze B w0 w p a n c b d k f g) (hd : B + 4 ≤ z ∨ ze ≤ B) :
    Calls Try.prog 113 #[.pointer (some ⟨B + 1, 0, none⟩), .pointer (some ⟨B + 1 + 1, 0, none⟩), .pointer (some ⟨B + 1 + 1 + 1, 0, none⟩), .pointer (some ⟨B, 0, none⟩)] w
      fun e w' => ∃ ac cc, e = .returned (.slice ac f.length cc) ∧ Kept w0.heap.size B z ze w' ac cc f ∧ RInv z ze B w0 w' p a n c b d (k + 1) g (if k + 1 < n then stp p (xs.getD (k + 1) 0) (ys.getD (k + 1) 0) g f else g) ∧ Touch B (B + 4) w w' := by
  obtain ⟨hb, lb, sz, zs, j0, j1, j2, ⟨ac, cc, c0, ck⟩, ⟨an, cn, n0, nk⟩, kk, fc, fn, fk⟩ := h
  obtain ⟨hp, hp2⟩ := primeB_lo hpr
  obtain ⟨i, hi⟩ : ∃ i, k + 1 = i := ⟨_, rfl⟩
  rw [hi]
  have Hi := Lib.hid hi
  have vk : IntKind.i64.wrap ((k : Int) + 1) = (i : Int) := by rw [← hi]; exact IntWalk.i64_in _ (by omega)
  -- the world behind the first two stores
  have t2 : Touch B (B + 4) w ((w.setCell ⟨B + 1, 0, none⟩ (.slice an g.length cn)).setCell ⟨B + 1 + 1 + 1, 0, none⟩ (.int .i64 i)) := ((Touch.refl _ _ _).set (by simp) (by simp) _).set (by simp; omega) (by simp) _
  have q0 : ((w.setCell ⟨B + 1, 0, none⟩ (.slice an g.length cn)).setCell ⟨B + 1 + 1 + 1, 0, none⟩ (.int .i64 i)).cell? ⟨B, 0, none⟩ = some (.int .i64 p) := cell_set2 (cell_set2 j0 (by simp) _) (by simp; omega) _
  have q1 : ((w.setCell ⟨B + 1, 0, none⟩ (.slice an g.length cn)).setCell ⟨B + 1 + 1 + 1, 0, none⟩ (.int .i64 i)).cell? ⟨B, 1, none⟩ = some (.slice a n c) := cell_set2 (cell_set2 j1 (by simp) _) (by simp; omega) _
  have q2 : ((w.setCell ⟨B + 1, 0, none⟩ (.slice an g.length cn)).setCell ⟨B + 1 + 1 + 1, 0, none⟩ (.int .i64 i)).cell? ⟨B, 2, none⟩ = some (.slice b n d) := cell_set2 (cell_set2 j2 (by simp) _) (by simp; omega) _
  have q3 : ((w.setCell ⟨B + 1, 0, none⟩ (.slice an g.length cn)).setCell ⟨B + 1 + 1 + 1, 0, none⟩ (.int .i64 i)).cell? ⟨B + 1, 0, none⟩ = some (.slice an g.length cn) := cell_set2 (World.cell?_setCell_same _ _ _ c0) (by simp <;> omega) _
  have q4 : ((w.setCell ⟨B + 1, 0, none⟩ (.slice an g.length cn)).setCell ⟨B + 1 + 1 + 1, 0, none⟩ (.int .i64 i)).cell? ⟨B + 1 + 1, 0, none⟩ = some (.slice an g.length cn) := cell_set2 (cell_set2 n0 (by simp <;> omega) _) (by simp <;> omega) _
  have q6 : ((w.setCell ⟨B + 1, 0, none⟩ (.slice an g.length cn)).setCell ⟨B + 1 + 1 + 1, 0, none⟩ (.int .i64 i)).cell? ⟨B + 1 + 1 + 1, 0, none⟩ = some (.int .i64 i) := World.cell?_setCell_same _ _ _ (cell_set2 kk (by simp <;> omega) _)
  have r1 : ((w.setCell ⟨B + 1, 0, none⟩ (.slice an g.length cn)).setCell ⟨B + 1 + 1 + 1, 0, none⟩ (.int .i64 i)).frozen? ⟨B + 1, 0, none⟩ = false := by simpa using fc
  have r2 : ((w.setCell ⟨B + 1, 0, none⟩ (.slice an g.length cn)).setCell ⟨B + 1 + 1 + 1, 0, none⟩ (.int .i64 i)).frozen? ⟨B + 1 + 1, 0, none⟩ = false := by simpa using fn
  have r3 : ((w.setCell ⟨B + 1, 0, none⟩ (.slice an g.length cn)).setCell ⟨B + 1 + 1 + 1, 0, none⟩ (.int .i64 i)).frozen? ⟨B + 1 + 1 + 1, 0, none⟩ = false := by simpa using fk
  have ck2 := ck.touch t2
  have nk2 := nk.touch t2
  have B2 := below_touch hb t2 lb (by omega)
  have z2 := t2.size
  by_cases hlt : i < n
  · rw [if_pos hlt]
    have hlt' : (i : Int) < (n : Int) := by omega
    have x1 := getD_rng hx hp i
    have x2 := getD_rng hy hp i
    obtain ⟨x, hxx⟩ : ∃ x, xs.getD i 0 = x := ⟨_, rfl⟩
    obtain ⟨y, hyy⟩ : ∃ y, ys.getD i 0 = y := ⟨_, rfl⟩
    rw [hxx] at x1 ⊢
    rw [hyy] at x2 ⊢
    have HX := hide hxx
    have HY := hide hyy
    have Hx := hide hx
    have Hy := hide hy
    have HF := hide hf.are
    have HG := hide hg.are
    have lf := hf.2
    have lg := hg.2
    have ss := hs.below B2
    have st := ht.below B2
    clear hxx hyy hs ht hx hy hpr hi hf hg
    go_enter Try.func113, Try.ntmps113
    go_wp2_with fail
    clear c0 n0 kk j0 j1 j2 fc fn fk ck nk vk
    generalize ((w.setCell ⟨B + 1, 0, none⟩ (.slice an g.length cn)).setCell ⟨B + 1 + 1 + 1, 0, none⟩ (.int .i64 i)) = wx at *
    refine (nextPoly_any p _ _ _ xs _ _ _ ys i _ x y _ _ _ f _ _ _ g _ ss st ck2.sl nk2.sl rfl HX.out HY.out hlt hlt hn hn hp hp2 x1.1 x1.2 x2.1 x2.2 HF.out HG.out (by omega) (by omega)).mono ?_
    rintro e w5 ⟨a5, c5, rfl, ho5, hm5⟩
    have y0 := cell_be hm5 q0
    have y1 := cell_be hm5 q1
    have y2 := cell_be hm5 q2
    have y3 := cell_be hm5 q3
    have y4 := cell_be hm5 q4
    have y6 := cell_be hm5 q6
    have v1 := (hm5.frozen (World.block_lt_of_cell? _ _ q3)).trans r1
    have v2 := (hm5.frozen (World.block_lt_of_cell? _ _ q4)).trans r2
    have v3 := (hm5.frozen (World.block_lt_of_cell? _ _ q6)).trans r3
    have ck5 := ck2.below hm5
    have nk5 := nk2.below hm5
    have t4 : Touch B (B + 4) w w5 := t2.trans (Touch.ofBelow hm5)
    have z5 := hm5.size
    have B5 := below_touch hb t4 lb (by omega)
    have kn : Kept w0.heap.size B z ze w5 a5 c5 (stp p x y g f) := Kept.new ho5 (by omega) (by omega) (by omega)
    clear q0 q1 q2 q3 q4 q6 r1 r2 r3 ck2 nk2 B2 t2 ss st
    go_wp2
    go_ret
    have t5 : Touch B (B + 4) w5 (w5.setCell ⟨B + 1 + 1, 0, none⟩ (.slice a5 (stp p x y g f).length c5)) := (Touch.refl _ _ _).set (by simp <;> omega) (by simp) _
    have tf := t4.trans t5
    have zf := t5.size
    refine ⟨ac, cc, rfl, ck5.touch t5, ⟨below_touch B5 t5 lb (by omega), lb, Nat.le_trans (show B + 4 ≤ w5.heap.size by omega) zf, Nat.le_trans (show ze ≤ w5.heap.size by omega) zf, cell_set2 y0 (by simp <;> omega) _, cell_set2 y1 (by simp <;> omega) _, cell_set2 y2 (by simp <;> omega) _,
      ⟨an, cn, cell_set2 y3 (by simp <;> omega) _, nk5.touch t5⟩, ⟨a5, c5, World.cell?_setCell_same _ _ _ y4, kn.touch t5⟩, cell_set2 y6 (by simp <;> omega) _, ?_, ?_, ?_⟩, tf⟩
    · simpa using v1
    · simpa using v2
    · simpa using v3
  · rw [if_neg hlt]
    have hge : (n : Int) ≤ (i : Int) := by omega
    clear hi
    go_enter Try.func113, Try.ntmps113
    go_wp2
    go_ret
    exact ⟨ac, cc, rfl, ck2, ⟨B2, lb, by omega, by omega, q0, q1, q2, ⟨an, cn, q3, nk2⟩, ⟨an, cn, q4, nk2⟩, q6, r1, r2, r3⟩, t2⟩
set_option maxRecDepth 100000 in
set_option maxHeartbeats 1600000 in
theorem goOn_any (p : Int) (a : Option Addr) (n c : Nat) (xs : List Int) (b : Option Addr) (d : Nat) (ys : List Int) (K : Nat) (G : Nat → List Int) (z ze B : Nat) (w0 w : World) (hs : SL w0 a n c xs) (ht : SL w0 b n d ys) (hpr : primeB p = true) (hx : areB p xs = true) (hy : areB p ys = true) (hn : n ≤ 100) (hK : K ≤ n)
    (hG : ∀ i, G (i + 2) = if i + 1 < n then stp p (xs.getD (i + 1) 0) (ys.getD (i + 1) 0) (G (i + 1)) (G i) else G (i + 1)) (hS : ∀ i, Small p 24 (G i)) (h : RInv z ze B w0 w p a n c b d 0 (G 0) (G 1)) (hd : B + 4 ≤ z ∨ ze ≤ B) :
    Calls Try.prog 75 #[rclo B, .int .i64 K] w
      fun e w' => ∃ ac cc, e = .returned (.slice ac (G K).length cc) ∧ Kept w0.heap.size B z ze w' ac cc (G K) ∧ RInv z ze B w0 w' p a n c b d (K + 1) (G (K + 1)) (G (K + 2)) ∧ Touch B (B + 4) w w' := by
  have HG := fun i => Lib.hid (hG i)
  clear hG
  go_enter Try.func75, Try.ntmps75
  go_wp2
  go_loopw [6] (fun iv wr => ∃ i : Nat, i ≤ K ∧ iv = .int .i64 i ∧ RInv z ze B w0 wr p a n c b d i (G i) (G (i + 1)) ∧ Touch B (B + 4) w wr) (fun iv _ => K - (intOf iv).toNat)
  case atStart => exact ⟨0, by omega, rfl, h, Touch.refl _ _ _⟩
  case round =>
    obtain ⟨i, hi, rfl, hR, ht1⟩ := hrel
    by_cases hlt : i < K
    · have hlt' : (i : Int) < (K : Int) := by omega
      go_wp2_with fail
      refine (next_any p a n c xs b d ys i 24 (G i) (G (i + 1)) z ze B w0 _ hs ht hpr hx hy hn (by omega) (hS i) (hS (i + 1)) (Nat.le_refl _) hR hd).mono ?_
      rintro e w2 ⟨ac, cc, rfl, hk, hR2, ht2⟩
      rw [← (HG i).out] at hR2
      go_wp2
      go_roundw
      case rel => exact ⟨i + 1, by omega, by go_num, hR2, ht1.trans ht2⟩
      case measure => simp [intOf]; omega
    · have hge : (K : Int) ≤ (i : Int) := by omega
      obtain hKi : i = K := by omega
      have HK := hide hKi
      clear hKi
      go_wp2_with fail
      refine (next_any p a n c xs b d ys i 24 (G i) (G (i + 1)) z ze B w0 _ hs ht hpr hx hy hn (by omega) (hS i) (hS (i + 1)) (Nat.le_refl _) hR hd).mono ?_
      rintro e w2 ⟨ac, cc, rfl, hk, hR2, ht2⟩
      rw [← (HG i).out] at hR2
      go_wp2
      go_ret
      rw [← HK.out]
      exact ⟨ac, cc, rfl, hk, hR2, ht1.trans ht2⟩
end Go.Proofs.Ytgaafhcnfeipbaa
