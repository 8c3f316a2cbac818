/- Contracts: polysOf, associatesOf. -/
import Derived.Test.YtgaafhcnfeipbaaRd
namespace Go.Proofs.Ytgaafhcnfeipbaa
open Go.RowKit
set_option linter.unusedVariables false
set_option linter.unusedSimpArgs false

set_option maxRecDepth 100000 in
set_option maxHeartbeats 600000 in
theorem polysOf_any (p : Int) (a : Option Addr) (n c : Nat) (xs : List Int) (b : Option Addr) (d : Nat) (ys : List Int) (z ze : Nat) (w0 w : World) (hs : SL w0 a n c xs) (hn : 1 ≤ n) (hp : 2 ≤ p) (hp2 : p ≤ 10007) (hx : areB p xs = true) (hb : Below w0.heap.size w0 w) (hz : ze ≤ w.heap.size) :
    Calls Try.prog 76 #[jac p a n c b n d] w fun e w' => ∃ B, e = .returned (rclo B) ∧ w.heap.size ≤ B ∧ RInv z ze B w0 w' p a n c b d 0 [1] (linM p (xs.getD 0 0)) ∧ Below w.heap.size w w' := by
  obtain ⟨b1, o1, rfl, hw1, hc1⟩ := hs.at (by omega)
  have hbx := bl1 w (.cells #[.int .i64 p, .slice (some ⟨b1, o1, none⟩) n c, .slice b n d] 24)
  have e1 : (w.alloc (.cells #[.int .i64 p, .slice (some ⟨b1, o1, none⟩) n c, .slice b n d] 24)).cell? ⟨b1, o1, none⟩ = some (.int .i64 (xs.getD 0 0)) := cell_al (cell_be hb (hc1 0 (by omega))) _
  have f0 : (w.alloc (.cells #[.int .i64 p, .slice (some ⟨b1, o1, none⟩) n c, .slice b n d] 24)).cell? ⟨w.heap.size, 0, none⟩ = some (.int .i64 p) := by simp [go_sem]
  have f1 : (w.alloc (.cells #[.int .i64 p, .slice (some ⟨b1, o1, none⟩) n c, .slice b n d] 24)).cell? ⟨w.heap.size, 1, none⟩ = some (.slice (some ⟨b1, o1, none⟩) n c) := by simp [go_sem]
  have f2 : (w.alloc (.cells #[.int .i64 p, .slice (some ⟨b1, o1, none⟩) n c, .slice b n d] 24)).cell? ⟨w.heap.size, 2, none⟩ = some (.slice b n d) := by simp [go_sem]
  have x1 := getD_rng hx hp 0
  obtain ⟨x, hxx⟩ : ∃ x, xs.getD 0 0 = x := ⟨_, rfl⟩
  rw [hxx] at e1 x1 ⊢
  have hlt : (0 : Int) < (n : Int) := by omega
  have hn0 : 0 < n := hn
  have hn1 : ¬ n = 0 := by omega
  have hs0 := hb.size
  have hsz : w.heap.size + 1 = (w.alloc (.cells #[.int .i64 p, .slice (some ⟨b1, o1, none⟩) n c, .slice b n d] 24)).heap.size := by simp
  clear hc1 hxx hs hx
  go_enter Try.func76, Try.ntmps76
  go_wp2
  generalize (w.alloc (.cells #[.int .i64 p, .slice (some ⟨b1, o1, none⟩) n c, .slice b n d] 24)) = wx at *
  have hd0 := (Below.refl wx.heap.size wx).drew
  have hd1 : Below wx.heap.size wx (wx.alloc (.cells #[.int .i64 1] 2)).drew := (bl1 wx _).drew
  have L1 : Own wx.heap.size (wx.alloc (.cells #[.int .i64 1] 2)).drew (some ⟨wx.heap.size, 0, none⟩) 1 [1] := (litOwn wx wx.heap.size (Nat.le_refl _) 1).below (Below.refl _ _).drew
  have F : ∀ w', Below wx.heap.size wx w' → w'.cell? ⟨w.heap.size, 0, none⟩ = some (.int .i64 p) ∧ w'.cell? ⟨w.heap.size, 1, none⟩ = some (.slice (some ⟨b1, o1, none⟩) n c) ∧ w'.cell? ⟨w.heap.size, 2, none⟩ = some (.slice b n d) ∧ w'.cell? ⟨b1, o1, none⟩ = some (.int .i64 x) := fun w' h => ⟨cell_be h f0, cell_be h f1, cell_be h f2, cell_be h e1⟩
  have hB0 : Below w0.heap.size w0 wx := hb.trans (hbx.mono hs0)
  go_region_held3 (fun w' => w'.cell? ⟨w.heap.size, 0, none⟩ = some (.int .i64 p) ∧ w'.cell? ⟨w.heap.size, 1, none⟩ = some (.slice (some ⟨b1, o1, none⟩) n c) ∧ w'.cell? ⟨w.heap.size, 2, none⟩ = some (.slice b n d) ∧ w'.cell? ⟨b1, o1, none⟩ = some (.int .i64 x))
    (first | exact F _ (by assumption) | exact F _ (hm3.alloc (by have := hb3.size; simp at this ⊢; omega) _))
    (first
    | (go_at_call 104; refine (linear_any p x _ hp hp2 x1.1 x1.2).mono ?_; rintro e w3 ⟨rfl, ho3, hb3⟩; have hm3 := bnext hd1 hb3)
    | (go_at_call 104; refine (linear_any p x _ hp hp2 x1.1 x1.2).mono ?_; rintro e w3 ⟨rfl, ho3, hb3⟩; have hm3 := bnext hd0 hb3)
    | (go_at_call 103
       have zz := hb3.size
       simp at zz ho3
       have K1 : Kept w0.heap.size w3.heap.size z ze w3 (some ⟨wx.heap.size, 0, none⟩) 1 [1] := ⟨wx.heap.size, w3.heap.size, by omega, Nat.le_refl _, .inl (Nat.le_refl _), .inr (by omega), OZ.of (L1.below hb3) rfl⟩
       have K2 : Kept w0.heap.size w3.heap.size z ze w3 (some ⟨wx.heap.size + 1, 0, none⟩) 2 (linM p x) := ⟨wx.heap.size + 1, w3.heap.size, by omega, Nat.le_refl _, .inl (Nat.le_refl _), .inr (by omega), OZ.of ho3 rfl⟩
       refine (recurrence_any p _ n c b d _ 1 [1] _ 2 (linM p x) z ze w0 _ (hB0.trans (hm3.mono (by omega))) K1 K2 (by omega)).mono ?_
       rintro e w4 ⟨rfl, hR, hb4⟩
       have hm4 := bnext hm3 hb4)
    | (go_at_call 103
       have zz := hm3.size
       simp at ho3
       have hx3 := bl1 w3 (.cells #[.int .i64 1] 2)
       have hz3 : (w3.alloc (.cells #[.int .i64 1] 2)).heap.size = w3.heap.size + 1 := by simp
       have K1 : Kept w0.heap.size (w3.alloc (.cells #[.int .i64 1] 2)).heap.size z ze (w3.alloc (.cells #[.int .i64 1] 2)) (some ⟨w3.heap.size, 0, none⟩) 1 [1] := ⟨w3.heap.size, (w3.alloc (.cells #[.int .i64 1] 2)).heap.size, by omega, Nat.le_refl _, .inl (Nat.le_refl _), .inr (by omega), OZ.of (litOwn w3 w3.heap.size (Nat.le_refl _) 1) rfl⟩
       have K2 : Kept w0.heap.size (w3.alloc (.cells #[.int .i64 1] 2)).heap.size z ze (w3.alloc (.cells #[.int .i64 1] 2)) (some ⟨wx.heap.size, 0, none⟩) 2 (linM p x) := ⟨wx.heap.size, (w3.alloc (.cells #[.int .i64 1] 2)).heap.size, by omega, Nat.le_refl _, .inl (Nat.le_refl _), .inr (by omega), OZ.of (ho3.below hx3) rfl⟩
       refine (recurrence_any p _ n c b d _ 1 [1] _ 2 (linM p x) z ze w0 _ (hB0.trans ((bnext hm3 hx3).mono (by omega))) K1 K2 (by omega)).mono ?_
       rintro e w4 ⟨rfl, hR, hb4⟩
       have hm4 := bnext (bnext hm3 hx3) hb4))
  all_goals
    go_wp2
    go_ret
    exact ⟨_, rfl, by (have := hm3.size; simp at *; omega), (by first | exact hR | simpa using hR), hbx.trans (hm4.mono (by omega))⟩
end Go.Proofs.Ytgaafhcnfeipbaa
