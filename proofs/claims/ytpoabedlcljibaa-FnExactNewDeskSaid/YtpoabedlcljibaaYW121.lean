/- Merged texts. -/
import Derived.Test.YtpoabedlcljibaaYW119
/- Contracts: the closures that go on (recurrence, polysOf, associatesOf, goOn). -/
namespace Go.Proofs.Ytpoabedlcljibaa
open Go.RowKit
set_option linter.unusedVariables false
set_option linter.unusedSimpArgs false

theorem OZ.nilZ (lo hi : Nat) (w : World) (a : Option Addr) (cap : Nat) (h : a = none → cap = 0) : OZ lo hi w a 0 cap [] := ⟨⟨rfl, ⟨Nat.zero_le _, h⟩, .inl rfl⟩, .inl rfl⟩
/-- A list of the call's own (blocks from lo on) that lies neither in the four blocks from B on nor in those from z up to ze. -/
def Kept (lo B z ze : Nat) (w : World) (a : Option Addr) (c : Nat) (f : List Int) : Prop :=
  ∃ l h, lo ≤ l ∧ h ≤ w.heap.size ∧ (h ≤ B ∨ B + 4 ≤ l) ∧ (h ≤ z ∨ ze ≤ l) ∧ OZ l h w a f.length c f
theorem Kept.below {lo B z ze : Nat} {w w' : World} {a : Option Addr} {c : Nat} {f : List Int} (h : Kept lo B z ze w a c f) (hb : Below w.heap.size w w') : Kept lo B z ze w' a c f := by
  obtain ⟨l, hh, h1, h2, h3, h4, h5⟩ := h
  exact ⟨l, hh, h1, Nat.le_trans h2 hb.size, h3, h4, h5.below hb⟩
theorem Kept.touch {lo B z ze : Nat} {w w' : World} {a : Option Addr} {c : Nat} {f : List Int} (h : Kept lo B z ze w a c f) (t : Touch B (B + 4) w w') : Kept lo B z ze w' a c f := by
  obtain ⟨l, hh, h1, h2, h3, h4, h5⟩ := h
  exact ⟨l, hh, h1, Nat.le_trans h2 t.size, h3, h4, h5.touch t h3⟩
theorem Kept.touchZ {lo B z ze : Nat} {w w' : World} {a : Option Addr} {c : Nat} {f : List Int} (h : Kept lo B z ze w a c f) (t : Touch z (ze) w w') : Kept lo B z ze w' a c f := by
  obtain ⟨l, hh, h1, h2, h3, h4, h5⟩ := h
  exact ⟨l, hh, h1, Nat.le_trans h2 t.size, h3, h4, h5.touch t h4⟩
theorem Kept.sl {lo B z ze : Nat} {w : World} {a : Option Addr} {c : Nat} {f : List Int} (h : Kept lo B z ze w a c f) : SL w a f.length c f := by
  obtain ⟨l, hh, h1, h2, h3, h4, h5⟩ := h
  exact h5.sl
theorem Kept.new {lo B z ze : Nat} {w w' : World} {a : Option Addr} {c : Nat} {f : List Int} (h : Own w.heap.size w' a c f) (h1 : lo ≤ w.heap.size) (h2 : B + 4 ≤ w.heap.size) (h3 : ze ≤ w.heap.size) : Kept lo B z ze w' a c f :=
  ⟨w.heap.size, w'.heap.size, h1, Nat.le_refl _, .inr h2, .inr h3, OZ.of h rfl⟩
/-- The closure of a recurrence, whose four blocks begin at B. -/
theorem Touch.set {lo hi : Nat} {a w : World} (h : Touch lo hi a w) {x : Addr} (h1 : lo ≤ x.block) (h2 : x.block < hi) (u : Value) : Touch lo hi a (w.setCell x u) :=
  h.trans ⟨rfl, rfl, rfl, by simp [World.setCell], fun k hk hd => Below.heap_setCell _ _ _ _ (by omega)⟩
theorem Touch.ofBelow {lo hi : Nat} {w w' : World} (h : Below w.heap.size w w') : Touch lo hi w w' := ⟨h.os, h.tape, h.output, h.size, fun k hk _ => h.block k hk⟩
theorem Touch.refl (lo hi : Nat) (w : World) : Touch lo hi w w := ⟨rfl, rfl, rfl, Nat.le_refl _, fun _ _ _ => rfl⟩
theorem Touch.frozen {lo hi b o : Nat} {w w' : World} {v : Value} {x : Bool} (t : Touch lo hi w w') (h : w.cell? ⟨b, o, none⟩ = some v) (hf : w.frozen? ⟨b, o, none⟩ = x) (hd : b < lo ∨ hi ≤ b) : w'.frozen? ⟨b, o, none⟩ = x :=
  (World.frozen?_of_block (w := w) (t.block b (World.block_lt_of_cell? w _ h) hd)).trans hf
/-- What a closure of a recurrence keeps of memory: data at B, the current and the next polynomial f, g, the number k. -/
structure RInv (z ze B : Nat) (w0 w : World) (p : Int) (a : Option Addr) (n c : Nat) (b : Option Addr) (d : Nat) (k : Nat) (f g : List Int) : Prop where
  hb : Below w0.heap.size w0 w
  lb : w0.heap.size ≤ B
  sz : B + 4 ≤ w.heap.size
  zs : ze ≤ w.heap.size
  j0 : w.cell? ⟨B, 0, none⟩ = some (.int .i64 p)
  j1 : w.cell? ⟨B, 1, none⟩ = some (.slice a n c)
  j2 : w.cell? ⟨B, 2, none⟩ = some (.slice b n d)
  cc : ∃ ac cc, w.cell? ⟨B + 1, 0, none⟩ = some (.slice ac f.length cc) ∧ Kept w0.heap.size B z ze w ac cc f
  cn : ∃ an cn, w.cell? ⟨B + 1 + 1, 0, none⟩ = some (.slice an g.length cn) ∧ Kept w0.heap.size B z ze w an cn g
  kk : w.cell? ⟨B + 1 + 1 + 1, 0, none⟩ = some (.int .i64 k)
  fc : w.frozen? ⟨B + 1, 0, none⟩ = false
  fn : w.frozen? ⟨B + 1 + 1, 0, none⟩ = false
  fk : w.frozen? ⟨B + 1 + 1 + 1, 0, none⟩ = false
/-- Another closure of the same kind has gone on. -/
theorem RInv.touch {z ze B : Nat} {w0 w w' : World} {p : Int} {a : Option Addr} {n c : Nat} {b : Option Addr} {d k : Nat} {f g : List Int} (h : RInv z ze B w0 w p a n c b d k f g) (t : Touch z (ze) w w') (hd : B + 4 ≤ z ∨ ze ≤ B) (hz : w0.heap.size ≤ z) : RInv z ze B w0 w' p a n c b d k f g := by
  obtain ⟨hb, lb, sz, zs, j0, j1, j2, ⟨ac, cc, c0, ck⟩, ⟨an, cn, n0, nk⟩, kk, fc, fn, fk⟩ := h
  have m : ∀ {x : Nat}, x < B + 4 → B ≤ x → x < z ∨ ze ≤ x := fun h1 h2 => by omega
  exact ⟨below_touch hb t hz (by omega), lb, Nat.le_trans sz t.size, Nat.le_trans zs t.size, t.cell j0 (m (by omega) (by omega)), t.cell j1 (m (by omega) (by omega)), t.cell j2 (m (by omega) (by omega)),
    ⟨ac, cc, t.cell c0 (m (by omega) (by omega)), ck.touchZ t⟩, ⟨an, cn, t.cell n0 (m (by omega) (by omega)), nk.touchZ t⟩, t.cell kk (m (by omega) (by omega)),
    t.frozen c0 fc (m (by omega) (by omega)), t.frozen n0 fn (m (by omega) (by omega)), t.frozen kk fk (m (by omega) (by omega))⟩
theorem RInv.below {z ze B : Nat} {w0 w w' : World} {p : Int} {a : Option Addr} {n c : Nat} {b : Option Addr} {d k : Nat} {f g : List Int} (h : RInv z ze B w0 w p a n c b d k f g) (t : Below w.heap.size w w') : RInv z ze B w0 w' p a n c b d k f g := by
  obtain ⟨hb, lb, sz, zs, j0, j1, j2, ⟨ac, cc, c0, ck⟩, ⟨an, cn, n0, nk⟩, kk, fc, fn, fk⟩ := h
  exact ⟨hb.trans (t.mono (by omega)), lb, Nat.le_trans sz t.size, Nat.le_trans zs t.size, cell_be t j0, cell_be t j1, cell_be t j2, ⟨ac, cc, cell_be t c0, ck.below t⟩, ⟨an, cn, cell_be t n0, nk.below t⟩, cell_be t kk,
    (t.frozen (World.block_lt_of_cell? _ _ c0)).trans fc, (t.frozen (World.block_lt_of_cell? _ _ n0)).trans fn, (t.frozen (World.block_lt_of_cell? _ _ kk)).trans fk⟩
/-- The zone of another closure that is made later. -/
theorem Kept.zone {lo B z ze z' ze' : Nat} {w : World} {a : Option Addr} {c : Nat} {f : List Int} (h : Kept lo B z ze w a c f) (hz : w.heap.size ≤ z') : Kept lo B z' ze' w a c f := by
  obtain ⟨l, hh, h1, h2, h3, h4, h5⟩ := h
  exact ⟨l, hh, h1, h2, h3, .inl (by omega), h5⟩
theorem RInv.zone {z ze z' ze' B : Nat} {w0 w w' : World} {p : Int} {a : Option Addr} {n c : Nat} {b : Option Addr} {d k : Nat} {f g : List Int} (h : RInv z ze B w0 w p a n c b d k f g) (hz : w.heap.size ≤ z') (t : Below w.heap.size w w') (hs : ze' ≤ w'.heap.size) : RInv z' ze' B w0 w' p a n c b d k f g := by
  obtain ⟨hb, lb, sz, zs, j0, j1, j2, ⟨ac, cc, c0, ck⟩, ⟨an, cn, n0, nk⟩, kk, fc, fn, fk⟩ := h
  exact ⟨hb.trans (t.mono (by omega)), lb, Nat.le_trans sz t.size, hs, cell_be t j0, cell_be t j1, cell_be t j2, ⟨ac, cc, cell_be t c0, (ck.zone hz).below t⟩, ⟨an, cn, cell_be t n0, (nk.zone hz).below t⟩, cell_be t kk,
    (t.frozen (World.block_lt_of_cell? _ _ c0)).trans fc, (t.frozen (World.block_lt_of_cell? _ _ n0)).trans fn, (t.frozen (World.block_lt_of_cell? _ _ kk)).trans fk⟩
end Go.Proofs.Ytpoabedlcljibaa
/- Contracts: polysOf, associatesOf. -/
namespace Go.Proofs.Ytpoabedlcljibaa
open Go.RowKit
set_option linter.unusedVariables false
set_option linter.unusedSimpArgs false

end Go.Proofs.Ytpoabedlcljibaa
