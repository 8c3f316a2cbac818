/- Merged texts. -/
import Derived.Test.YtdjifjlgllohmaaDoorYDS15
import Derived.Test.YtdjifjlgllohmaaDoorYDS20
/- Contracts: opposite, linear (program); l03Step, l03Poly, l03Second (model). -/
namespace Go.Proofs.YtdjifjlgllohmaaDoor
open Go.RowKit
set_option linter.unusedVariables false
set_option linter.unusedSimpArgs false

theorem opposite_any (p x : Int) (w : World) (hp : 2 ≤ p) (hp2 : p ≤ 10007) (h0 : 0 ≤ x) (h1 : x < p) :
    Calls Tryd.prog 99 #[.int .i64 p, .int .i64 x] w fun e w' => e = .returned (.int .i64 (opp p x)) ∧ w = w' := by
  have v1 : IntKind.i64.wrap (p - x) = p - x := IntWalk.i64_in _ (by omega)
  have v2 : (p - x).tmod p = opp p x := Int.tmod_eq_emod_of_nonneg (by omega)
  have r := opp_rng (x := x) (show 2 ≤ p by omega)
  generalize opp p x = y at v2 r ⊢
  have v3 : IntKind.i64.wrap y = y := IntWalk.i64_in _ (by omega)
  have hp0 : ¬ p = 0 := by omega
  go_enter Tryd.func99, Tryd.ntmps99
  go_wp2
  go_ret
  exact ⟨rfl, rfl⟩
theorem linear_any (p x : Int) (w : World) (hp : 2 ≤ p) (hp2 : p ≤ 10007) (h0 : 0 ≤ x) (h1 : x < p) :
    Calls Tryd.prog 112 #[.int .i64 p, .int .i64 x] w fun e w' => e = .returned (.slice (some ⟨w.heap.size, 0, none⟩) 2 2) ∧ Own w.heap.size w' (some ⟨w.heap.size, 0, none⟩) 2 (linM p x) ∧ Below w.heap.size w w' := by
  obtain ⟨y, hy⟩ : ∃ y, opp p x = y := ⟨_, rfl⟩
  unfold linM
  rw [hy]
  have Hy := Lib.hid hy
  clear hy
  go_enter Tryd.func112, Tryd.ntmps112
  go_wp2_with fail
  refine (opposite_any p x _ hp hp2 h0 h1).mono ?_
  rintro e w1 ⟨rfl, rfl⟩
  rw [Hy.out]
  go_wp2
  go_ret
  exact ⟨rfl, World.ownsRow_lit w (base := w.heap.size) (e := 2) (size := 1) #[.int .i64 y, .int .i64 1] 2 (Nat.le_refl _) (by decide) rfl, bl1 _ _⟩
end Go.Proofs.YtdjifjlgllohmaaDoor
/- Contracts: the closures that go on (recurrence, polysOf, associatesOf, goOn). -/
namespace Go.Proofs.YtdjifjlgllohmaaDoor
open Go.RowKit
set_option linter.unusedVariables false
set_option linter.unusedSimpArgs false

theorem OZ.nilZ (lo hi : Nat) (w : World) (a : Option Addr) (cap : Nat) (h : a = none → cap = 0) : OZ lo hi w a 0 cap [] := ⟨⟨rfl, ⟨Nat.zero_le _, h⟩, .inl rfl⟩, .inl rfl⟩
/-- A list of the call's own (blocks from lo on) that lies neither in the four blocks from B on nor in those from z up to ze. -/
def Kept (lo B z ze : Nat) (w : World) (a : Option Addr) (c : Nat) (f : List Int) : Prop :=
  ∃ l h, lo ≤ l ∧ h ≤ w.heap.size ∧ (h ≤ B ∨ B + 4 ≤ l) ∧ (h ≤ z ∨ ze ≤ l) ∧ OZ l h w a f.length c f
theorem Kept.below {lo B z ze : Nat} {w w' : World} {a : Option Addr} {c : Nat} {f : List Int} (h : Kept lo B z ze w a c f) (hb : Below w.heap.size w w') : Kept lo B z ze w' a c f := by
  obtain ⟨l, hh, h1, h2, h3, h4, h5⟩ := h
  exact ⟨l, hh, h1, Nat.le_trans h2 hb.size, h3, h4, h5.below hb⟩
theorem Kept.touch {lo B z ze : Nat} {w w' : World} {a : Option Addr} {c : Nat} {f : List Int} (h : Kept lo B z ze w a c f) (t : Touch B (B + 4) w w') : Kept lo B z ze w' a c f := by
  obtain ⟨l, hh, h1, h2, h3, h4, h5⟩ := h
  exact ⟨l, hh, h1, Nat.le_trans h2 t.size, h3, h4, h5.touch t h3⟩
theorem Kept.touchZ {lo B z ze : Nat} {w w' : World} {a : Option Addr} {c : Nat} {f : List Int} (h : Kept lo B z ze w a c f) (t : Touch z (ze) w w') : Kept lo B z ze w' a c f := by
  obtain ⟨l, hh, h1, h2, h3, h4, h5⟩ := h
  exact ⟨l, hh, h1, Nat.le_trans h2 t.size, h3, h4, h5.touch t h4⟩
theorem Kept.sl {lo B z ze : Nat} {w : World} {a : Option Addr} {c : Nat} {f : List Int} (h : Kept lo B z ze w a c f) : SL w a f.length c f := by
  obtain ⟨l, hh, h1, h2, h3, h4, h5⟩ := h
  exact h5.sl
theorem Kept.new {lo B z ze : Nat} {w w' : World} {a : Option Addr} {c : Nat} {f : List Int} (h : Own w.heap.size w' a c f) (h1 : lo ≤ w.heap.size) (h2 : B + 4 ≤ w.heap.size) (h3 : ze ≤ w.heap.size) : Kept lo B z ze w' a c f :=
  ⟨w.heap.size, w'.heap.size, h1, Nat.le_refl _, .inr h2, .inr h3, OZ.of h rfl⟩
/-- The closure of a recurrence, whose four blocks begin at B. -/
theorem Touch.set {lo hi : Nat} {a w : World} (h : Touch lo hi a w) {x : Addr} (h1 : lo ≤ x.block) (h2 : x.block < hi) (u : Value) : Touch lo hi a (w.setCell x u) :=
  h.trans ⟨rfl, rfl, rfl, by simp [World.setCell], fun k hk hd => Below.heap_setCell _ _ _ _ (by omega)⟩
theorem Touch.ofBelow {lo hi : Nat} {w w' : World} (h : Below w.heap.size w w') : Touch lo hi w w' := ⟨h.os, h.tape, h.output, h.size, fun k hk _ => h.block k hk⟩
theorem Touch.refl (lo hi : Nat) (w : World) : Touch lo hi w w := ⟨rfl, rfl, rfl, Nat.le_refl _, fun _ _ _ => rfl⟩
theorem Touch.frozen {lo hi b o : Nat} {w w' : World} {v : Value} {x : Bool} (t : Touch lo hi w w') (h : w.cell? ⟨b, o, none⟩ = some v) (hf : w.frozen? ⟨b, o, none⟩ = x) (hd : b < lo ∨ hi ≤ b) : w'.frozen? ⟨b, o, none⟩ = x :=
  (World.frozen?_of_block (w := w) (t.block b (World.block_lt_of_cell? w _ h) hd)).trans hf
/-- What a closure of a recurrence keeps of memory: data at B, the current and the next polynomial f, g, the number k. -/
structure RInv (z ze B : Nat) (w0 w : World) (p : Int) (a : Option Addr) (n c : Nat) (b : Option Addr) (d : Nat) (k : Nat) (f g : List Int) : Prop where
  hb : Below w0.heap.size w0 w
  lb : w0.heap.size ≤ B
  sz : B + 4 ≤ w.heap.size
  zs : ze ≤ w.heap.size
  j0 : w.cell? ⟨B, 0, none⟩ = some (.int .i64 p)
  j1 : w.cell? ⟨B, 1, none⟩ = some (.slice a n c)
  j2 : w.cell? ⟨B, 2, none⟩ = some (.slice b n d)
  cc : ∃ ac cc, w.cell? ⟨B + 1, 0, none⟩ = some (.slice ac f.length cc) ∧ Kept w0.heap.size B z ze w ac cc f
  cn : ∃ an cn, w.cell? ⟨B + 1 + 1, 0, none⟩ = some (.slice an g.length cn) ∧ Kept w0.heap.size B z ze w an cn g
  kk : w.cell? ⟨B + 1 + 1 + 1, 0, none⟩ = some (.int .i64 k)
  fc : w.frozen? ⟨B + 1, 0, none⟩ = false
  fn : w.frozen? ⟨B + 1 + 1, 0, none⟩ = false
  fk : w.frozen? ⟨B + 1 + 1 + 1, 0, none⟩ = false
/-- Another closure of the same kind has gone on. -/
theorem RInv.touch {z ze B : Nat} {w0 w w' : World} {p : Int} {a : Option Addr} {n c : Nat} {b : Option Addr} {d k : Nat} {f g : List Int} (h : RInv z ze B w0 w p a n c b d k f g) (t : Touch z (ze) w w') (hd : B + 4 ≤ z ∨ ze ≤ B) (hz : w0.heap.size ≤ z) : RInv z ze B w0 w' p a n c b d k f g := by
  obtain ⟨hb, lb, sz, zs, j0, j1, j2, ⟨ac, cc, c0, ck⟩, ⟨an, cn, n0, nk⟩, kk, fc, fn, fk⟩ := h
  have m : ∀ {x : Nat}, x < B + 4 → B ≤ x → x < z ∨ ze ≤ x := fun h1 h2 => by omega
  exact ⟨below_touch hb t hz (by omega), lb, Nat.le_trans sz t.size, Nat.le_trans zs t.size, t.cell j0 (m (by omega) (by omega)), t.cell j1 (m (by omega) (by omega)), t.cell j2 (m (by omega) (by omega)),
    ⟨ac, cc, t.cell c0 (m (by omega) (by omega)), ck.touchZ t⟩, ⟨an, cn, t.cell n0 (m (by omega) (by omega)), nk.touchZ t⟩, t.cell kk (m (by omega) (by omega)),
    t.frozen c0 fc (m (by omega) (by omega)), t.frozen n0 fn (m (by omega) (by omega)), t.frozen kk fk (m (by omega) (by omega))⟩
theorem RInv.below {z ze B : Nat} {w0 w w' : World} {p : Int} {a : Option Addr} {n c : Nat} {b : Option Addr} {d k : Nat} {f g : List Int} (h : RInv z ze B w0 w p a n c b d k f g) (t : Below w.heap.size w w') : RInv z ze B w0 w' p a n c b d k f g := by
  obtain ⟨hb, lb, sz, zs, j0, j1, j2, ⟨ac, cc, c0, ck⟩, ⟨an, cn, n0, nk⟩, kk, fc, fn, fk⟩ := h
  exact ⟨hb.trans (t.mono (by omega)), lb, Nat.le_trans sz t.size, Nat.le_trans zs t.size, cell_be t j0, cell_be t j1, cell_be t j2, ⟨ac, cc, cell_be t c0, ck.below t⟩, ⟨an, cn, cell_be t n0, nk.below t⟩, cell_be t kk,
    (t.frozen (World.block_lt_of_cell? _ _ c0)).trans fc, (t.frozen (World.block_lt_of_cell? _ _ n0)).trans fn, (t.frozen (World.block_lt_of_cell? _ _ kk)).trans fk⟩
/-- The zone of another closure that is made later. -/
theorem Kept.zone {lo B z ze z' ze' : Nat} {w : World} {a : Option Addr} {c : Nat} {f : List Int} (h : Kept lo B z ze w a c f) (hz : w.heap.size ≤ z') : Kept lo B z' ze' w a c f := by
  obtain ⟨l, hh, h1, h2, h3, h4, h5⟩ := h
  exact ⟨l, hh, h1, h2, h3, .inl (by omega), h5⟩
theorem RInv.zone {z ze z' ze' B : Nat} {w0 w w' : World} {p : Int} {a : Option Addr} {n c : Nat} {b : Option Addr} {d k : Nat} {f g : List Int} (h : RInv z ze B w0 w p a n c b d k f g) (hz : w.heap.size ≤ z') (t : Below w.heap.size w w') (hs : ze' ≤ w'.heap.size) : RInv z' ze' B w0 w' p a n c b d k f g := by
  obtain ⟨hb, lb, sz, zs, j0, j1, j2, ⟨ac, cc, c0, ck⟩, ⟨an, cn, n0, nk⟩, kk, fc, fn, fk⟩ := h
  exact ⟨hb.trans (t.mono (by omega)), lb, Nat.le_trans sz t.size, hs, cell_be t j0, cell_be t j1, cell_be t j2, ⟨ac, cc, cell_be t c0, (ck.zone hz).below t⟩, ⟨an, cn, cell_be t n0, (nk.zone hz).below t⟩, cell_be t kk,
    (t.frozen (World.block_lt_of_cell? _ _ c0)).trans fc, (t.frozen (World.block_lt_of_cell? _ _ n0)).trans fn, (t.frozen (World.block_lt_of_cell? _ _ kk)).trans fk⟩
set_option maxRecDepth 100000 in
set_option maxHeartbeats 1600000 in
theorem nextPoly_any (p : Int) (a : Option Addr) (n c : Nat) (xs : List Int) (b : Option Addr) (n2 d : Nat) (ys : List Int) (i : Nat) (ii : Int) (x y : Int) (a1 : Option Addr) (n1 c1 : Nat) (f : List Int) (a2 : Option Addr) (m2 c2 : Nat) (g : List Int) (w : World) (hs : SL w a n c xs) (ht : SL w b n2 d ys) (h1 : SL w a1 n1 c1 f) (h2 : SL w a2 m2 c2 g)
    (hii : ii = i) (hx : xs.getD i 0 = x) (hy : ys.getD i 0 = y) (hi : i < n) (hi2 : i < n2) (hn : n ≤ 100) (hn2 : n2 ≤ 100) (hp : 2 ≤ p) (hp2 : p ≤ 10007) (x1 : 0 ≤ x) (x2 : x < p) (y1 : 0 ≤ y) (y2 : y < p) (hf : areB p f = true) (hg : areB p g = true) (b1 : n1 ≤ 100) (b2 : m2 ≤ 100) :
    Calls Tryd.prog 97 #[jac p a n c b n2 d, .int .i64 ii, .slice a1 n1 c1, .slice a2 m2 c2] w
      fun e w' => ∃ a' c', e = .returned (.slice a' (stp p x y g f).length c') ∧ Own w.heap.size w' a' c' (stp p x y g f) ∧ Below w.heap.size w w' := by
  subst hii
  obtain ⟨b1', o1, rfl, hw1, hc1⟩ := hs.at (by omega)
  obtain ⟨b2', o2, rfl, hw2, hc2⟩ := ht.at (by omega)
  have l1 := h1.len
  have l2 := h2.len
  have hb0 := bl1 w (.cells #[.int .i64 p, .slice (some ⟨b1', o1, none⟩) n c, .slice (some ⟨b2', o2, none⟩) n2 d] 27)
  have e1 := cell_be hb0 (hc1 i hi)
  have e2 := cell_be hb0 (hc2 i hi2)
  rw [hx] at e1
  rw [hy] at e2
  have s1 := h1.below hb0
  have s2 := h2.below hb0
  have f0 : (w.alloc (.cells #[.int .i64 p, .slice (some ⟨b1', o1, none⟩) n c, .slice (some ⟨b2', o2, none⟩) n2 d] 27)).cell? ⟨w.heap.size, 0, none⟩ = some (.int .i64 p) := by simp [go_sem]
  have f1 : (w.alloc (.cells #[.int .i64 p, .slice (some ⟨b1', o1, none⟩) n c, .slice (some ⟨b2', o2, none⟩) n2 d] 27)).cell? ⟨w.heap.size, 1, none⟩ = some (.slice (some ⟨b1', o1, none⟩) n c) := by simp [go_sem]
  have f2 : (w.alloc (.cells #[.int .i64 p, .slice (some ⟨b1', o1, none⟩) n c, .slice (some ⟨b2', o2, none⟩) n2 d] 27)).cell? ⟨w.heap.size, 2, none⟩ = some (.slice (some ⟨b2', o2, none⟩) n2 d) := by simp [go_sem]
  have z0 : w.heap.size + 1 = (w.alloc (.cells #[.int .i64 p, .slice (some ⟨b1', o1, none⟩) n c, .slice (some ⟨b2', o2, none⟩) n2 d] 27)).heap.size := by simp
  have hlt : (i : Int) < (n : Int) := by omega
  have hlt2 : (i : Int) < (n2 : Int) := by omega
  have hll := lin_len p x g
  have ry := opp_rng (x := y) hp
  have HL := hide (linM_poly (a := x) hp)
  have HF := hide hf
  have HG := hide hg
  have L1 := hide l1
  have L2 := hide l2
  clear hc1 hc2 hs ht h1 h2 hx hy hf hg l1 l2
  go_enter Tryd.func97, Tryd.ntmps97
  go_wp2
  generalize (w.alloc (.cells #[.int .i64 p, .slice (some ⟨b1', o1, none⟩) n c, .slice (some ⟨b2', o2, none⟩) n2 d] 27)) = wx at *
  have hbd := (Below.refl wx.heap.size wx).drew
  have F : ∀ w', Below wx.heap.size wx w' → w'.cell? ⟨w.heap.size, 0, none⟩ = some (.int .i64 p) ∧ w'.cell? ⟨w.heap.size, 1, none⟩ = some (.slice (some ⟨b1', o1, none⟩) n c) ∧ w'.cell? ⟨b1', o1 + i, none⟩ = some (.int .i64 x) := fun w' h => ⟨cell_be h f0, cell_be h f1, cell_be h e1⟩
  go_region_held3 (fun w' => w'.cell? ⟨w.heap.size, 0, none⟩ = some (.int .i64 p) ∧ w'.cell? ⟨w.heap.size, 1, none⟩ = some (.slice (some ⟨b1', o1, none⟩) n c) ∧ w'.cell? ⟨b1', o1 + i, none⟩ = some (.int .i64 x))
    (exact F _ (by assumption))
    (first
    | (go_at_call 112; refine (linear_any p x _ hp hp2 x1 x2).mono ?_; rintro e w3 ⟨rfl, ho3, hb3⟩; have hm3 := bnext hbd hb3)
    | (go_at_call 85; refine (multiply_any p _ _ _ (linM p x) _ _ _ g _ ho3.sl (s2.below hm3) (by simp [linM]) (by omega) hp hp2 (polyB_rng HL.out).2.1 HG.out).mono ?_; rintro e w4 ⟨a', c', rfl, ho4, hb4⟩; have hm4 := bnext hm3 hb4))
  have q0 := cell_be hm4 f0
  have q2 := cell_be hm4 f2
  have e4 := cell_be hm4 e2
  have p4 := ho4.sl
  have s4 := s1.below hm4
  have L2' := L2.out
  have hbd4 := (Below.refl w4.heap.size w4).drew
  have F4 : ∀ w', Below w4.heap.size w4 w' → w'.cell? ⟨w.heap.size, 0, none⟩ = some (.int .i64 p) ∧ w'.cell? ⟨w.heap.size, 2, none⟩ = some (.slice (some ⟨b2', o2, none⟩) n2 d) ∧ w'.cell? ⟨b2', o2 + i, none⟩ = some (.int .i64 y) := fun w' h => ⟨cell_be h q0, cell_be h q2, cell_be h e4⟩
  have z4 := hm4.size
  have hB4 := hb0.trans (hm4.mono (by omega))
  have hlen : (mulM p (linM p x) g).length ≤ 1000 := by omega
  clear hbd F hm3 ho3 ho4 hb3 hb4 e1 e2 f0 f1 f2 s1 s2 L2' hll
  go_wp2
  go_region_held3 (fun w' => w'.cell? ⟨w.heap.size, 0, none⟩ = some (.int .i64 p) ∧ w'.cell? ⟨w.heap.size, 2, none⟩ = some (.slice (some ⟨b2', o2, none⟩) n2 d) ∧ w'.cell? ⟨b2', o2 + i, none⟩ = some (.int .i64 y))
    (exact F4 _ (by assumption))
    (first
    | (go_at_call 99; refine (opposite_any p y _ hp hp2 y1 y2).mono ?_; rintro e w' ⟨rfl, rfl⟩)
    | (go_at_call 72; refine (addMultiple_any p (opp p y) _ _ _ (mulM p (linM p x) g) _ _ _ f _ (p4.below hbd4) (s4.below hbd4) hlen (by omega) hp hp2 ry.1 ry.2 (mulM_are hp) HF.out).mono ?_; rintro e w5 ⟨a5, c5, rfl, ho5, hb5⟩; have hm5 := bnext hbd4 hb5))
  go_wp2
  go_ret
  exact ⟨a5, c5, rfl, ho5.mono (by simp; omega), bnext hB4 hm5⟩
end Go.Proofs.YtdjifjlgllohmaaDoor
