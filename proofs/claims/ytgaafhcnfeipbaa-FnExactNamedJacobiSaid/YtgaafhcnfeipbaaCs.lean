/- Contracts: the model's composition; ShiftPoly, ComposePolys (program and model). -/
import Derived.Test.YtgaafhcnfeipbaaEp
import Derived.Test.YtgaafhcnfeipbaaCh
namespace Go.Proofs.Ytgaafhcnfeipbaa
open Go.RowKit
set_option linter.unusedVariables false
set_option linter.unusedSimpArgs false
theorem litOwn (w : World) (B : Nat) (hB : B ≤ w.heap.size) (y : Int) : Own B (w.alloc (.cells #[.int .i64 y] 2)) (some ⟨w.heap.size, 0, none⟩) 1 [y] := by
  have := World.ownsRow_lit w (base := B) (e := 2) (size := 1) #[.int .i64 y] 1 hB (by decide) rfl
  exact this
theorem litSL (w : World) (y : Int) : SL (w.alloc (.cells #[.int .i64 y] 2)) (some ⟨w.heap.size, 0, none⟩) 1 1 [y] := (litOwn w _ (Nat.le_refl _) y).sl
theorem litSL2 (w : World) (y z : Int) : SL (w.alloc (.cells #[.int .i64 y, .int .i64 z] 2)) (some ⟨w.heap.size, 0, none⟩) 2 2 [y, z] := by
  have := World.ownsRow_lit w (base := w.heap.size) (e := 2) (size := 1) #[.int .i64 y, .int .i64 z] 2 (Nat.le_refl _) (by decide) rfl
  exact Own.sl this
theorem l01TimesP (p : Int) (a1 : Option Addr) (n1 c1 : Nat) (f : List Int) (a2 : Option Addr) (n2 c2 : Nat) (g : List Int) (w : World) (h1 : SL w a1 n1 c1 f) (h2 : SL w a2 n2 c2 g)
    (b1 : n1 ≤ 1000) (b2 : n2 ≤ 1000) (hp : 2 ≤ p) (hp2 : p ≤ 10007) (hf : areB p f = true) (hg : areB p g = true) (ht : trimL (mulM p f g) = mulM p f g) :
    Calls Try.prog 71 #[.int .i64 p, .slice a1 n1 c1, .slice a2 n2 c2] w fun e w' => ∃ a' c', e = .returned (.slice a' (mulM p f g).length c') ∧ Own w.heap.size w' a' c' (mulM p f g) ∧ Below w.heap.size w w' := by
  have := l01Times_any p a1 n1 c1 f a2 n2 c2 g w h1 h2 b1 b2 hp hp2 hf hg
  rwa [ht] at this
end Go.Proofs.Ytgaafhcnfeipbaa
