/- Contracts: partOf, l03Cut; CutJacobi, ShiftJacobi (program and model). -/
import Derived.Test.YtcadiepghhnbeaaJb
import Derived.Test.YtcadiepghhnbeaaSm
namespace Go.Proofs.Ytcadiepghhnbeaa
open Go.RowKit
set_option linter.unusedVariables false
set_option linter.unusedSimpArgs false

/-- The two results of a call: data and a code. -/
def ResJ (w : World) (q : Int) (v u : List Int) (c : Int) (e : Ending) (w' : World) : Prop :=
  ∃ a cap b cap', e = .returned (.tuple #[jac q a v.length cap b u.length cap', .int .i64 c]) ∧ JZ w.heap.size w'.heap.size w' a v.length cap v b u.length cap' u ∧ (v.length ≤ 100000 ∧ u.length ≤ 100000) ∧ Below w.heap.size w w'
theorem ResJ.nil {w w' : World} {q : Int} {v u : List Int} {c c' : Int} (hq : q = 0) (hv : v = []) (hu : u = []) (hc : c = c') (hb : Below w.heap.size w w') : ResJ w q v u c (.returned (.tuple #[jac 0 none 0 0 none 0 0, .int .i64 c'])) w' := by
  subst hv; subst hu; subst hc; subst hq
  exact ⟨none, 0, none, 0, rfl, ⟨⟨SL.nil _, .inl rfl⟩, ⟨SL.nil _, .inl rfl⟩, .inl rfl⟩, by simp, hb⟩
theorem ResJ.mk {w w' : World} {q q' : Int} {v u : List Int} {c c' : Int} {a : Option Addr} {n cap : Nat} {b : Option Addr} {m cap' : Nat} (hq : q = q') (hc : c = c') (hn : n = v.length) (hm : m = u.length) (ho : JZ w.heap.size w'.heap.size w' a n cap v b m cap' u)
    (hl : v.length ≤ 100000) (hl' : u.length ≤ 100000) (hb : Below w.heap.size w w') : ResJ w q v u c (.returned (.tuple #[jac q' a n cap b m cap', .int .i64 c'])) w' := by
  subst hc; subst hn; subst hm; subst hq
  exact ⟨a, cap, b, cap', rfl, ho, ⟨hl, hl'⟩, hb⟩
theorem SL.part {w : World} {b off n c : Nat} {xs : List Int} (h : SL w (some ⟨b, off, none⟩) n c xs) (lo hi : Nat) (h1 : lo ≤ hi) (h2 : hi ≤ n) : SL w (some ⟨b, off + lo, none⟩) (hi - lo) (c - lo) ((xs.take hi).drop lo) :=
  (h.take h2).dropS lo h1
set_option maxRecDepth 100000 in
set_option maxHeartbeats 1600000 in
theorem partOf_any (p : Int) (a : Option Addr) (n c : Nat) (xs : List Int) (b : Option Addr) (d : Nat) (ys : List Int) (lo hi : Nat) (w : World) (hs : SL w a n c xs) (ht : SL w b n d ys) (hlo : lo < hi) (hhi : hi ≤ n) (hn : n ≤ 4000000) :
    Calls Try.prog 74 #[jac p a n c b n d, .int .i64 lo, .int .i64 hi] w fun e w' => ∃ a' c' b' d', e = .returned (jac p a' (hi - lo) c' b' (hi - lo) d') ∧ JZ w.heap.size w'.heap.size w' a' (hi - lo) c' ((xs.take hi).drop lo) b' (hi - lo) d' ((ys.take hi).drop lo) ∧ Below w.heap.size w w' := by
  have hb0 := bl2 w (.cells #[.int .i64 p, .slice a n c, .slice b n d] 45) (.cells #[.int .i64 0, .slice none 0 0, .slice none 0 0] 45)
  have g1 := hs.below hb0
  have g2 := ht.below hb0
  have hc := hs.le
  have hd := ht.le
  obtain ⟨b1, o1, rfl, hw1, _⟩ := hs.at (by omega)
  obtain ⟨b2, o2, rfl, hw2, _⟩ := ht.at (by omega)
  have k1 := g1.part lo hi (by omega) hhi
  have k2 := g2.part lo hi (by omega) hhi
  have e1 : ¬ c = lo := by omega
  have e2 : ¬ d = lo := by omega
  have i1 : (hi : Int) ≤ (c : Int) := by omega
  have i2 : (hi : Int) ≤ (d : Int) := by omega
  have i3 : (lo : Int) ≤ (hi : Int) := by omega
  clear hs ht g1 g2
  generalize hX : (xs.take hi).drop lo = X at k1 ⊢
  generalize hY : (ys.take hi).drop lo = Y at k2 ⊢
  clear hX hY
  have hbd := (Below.refl ((w.alloc (.cells #[.int .i64 p, .slice (some ⟨b1, o1, none⟩) n c, .slice (some ⟨b2, o2, none⟩) n d] 45)).alloc (.cells #[.int .i64 0, .slice none 0 0, .slice none 0 0] 45)).heap.size ((w.alloc (.cells #[.int .i64 p, .slice (some ⟨b1, o1, none⟩) n c, .slice (some ⟨b2, o2, none⟩) n d] 45)).alloc (.cells #[.int .i64 0, .slice none 0 0, .slice none 0 0] 45))).drew
  have F : ∀ w', Below ((w.alloc (.cells #[.int .i64 p, .slice (some ⟨b1, o1, none⟩) n c, .slice (some ⟨b2, o2, none⟩) n d] 45)).alloc (.cells #[.int .i64 0, .slice none 0 0, .slice none 0 0] 45)).heap.size ((w.alloc (.cells #[.int .i64 p, .slice (some ⟨b1, o1, none⟩) n c, .slice (some ⟨b2, o2, none⟩) n d] 45)).alloc (.cells #[.int .i64 0, .slice none 0 0, .slice none 0 0] 45)) w' →
      w'.cell? ⟨w.heap.size, 0, none⟩ = some (.int .i64 p) ∧ w'.cell? ⟨w.heap.size, 1, none⟩ = some (.slice (some ⟨b1, o1, none⟩) n c) ∧ w'.cell? ⟨w.heap.size, 2, none⟩ = some (.slice (some ⟨b2, o2, none⟩) n d) :=
    fun w' h => ⟨cell_be h (by simp [go_sem]), cell_be h (by simp [go_sem]), cell_be h (by simp [go_sem])⟩
  go_enter Try.func74, Try.ntmps74
  go_upto_region 1 with fail
  go_region_held3 (fun w' => w'.cell? ⟨w.heap.size, 0, none⟩ = some (.int .i64 p) ∧ w'.cell? ⟨w.heap.size, 1, none⟩ = some (.slice (some ⟨b1, o1, none⟩) n c) ∧ w'.cell? ⟨w.heap.size, 2, none⟩ = some (.slice (some ⟨b2, o2, none⟩) n d))
    (first | exact F _ (by assumption) | exact ⟨cell_set2 (cell_set2 (cell_set2 x0 (by simp) _) (by simp) _) (by simp) _, cell_set2 (cell_set2 (cell_set2 x1 (by simp) _) (by simp) _) (by simp) _, cell_set2 (cell_set2 (cell_set2 x2 (by simp) _) (by simp) _) (by simp) _⟩)
    (first
    | (go_at_call 94; refine (clone_any _ _ _ X _ (k1.below hbd) (by omega)).mono ?_; rintro e w2 ⟨a', c', rfl, ho1, hb2⟩; have hm2 := bnext hbd hb2)
    | (go_at_call 94; refine (clone_any _ _ _ Y _ (k2.below hm2) (by omega)).mono ?_; rintro e w3 ⟨b', d', rfl, ho2, hb3⟩; have hm3 := bnext hm2 hb3; obtain ⟨x0, x1, x2⟩ := F _ hm3
       have r0 : w3.cell? ⟨w.heap.size + 1, 0, none⟩ = some (.int .i64 0) := cell_be hm3 (by simp [go_sem])
       have r1 : w3.cell? ⟨w.heap.size + 1, 1, none⟩ = some (.slice none 0 0) := cell_be hm3 (by simp [go_sem])
       have r2 : w3.cell? ⟨w.heap.size + 1, 2, none⟩ = some (.slice none 0 0) := cell_be hm3 (by simp [go_sem])
       have y0 : w3.frozen? ⟨w.heap.size + 1, 0, none⟩ = false := (hm3.frozen (by simp)).trans (by simp [go_sem])
       have y1 : w3.frozen? ⟨w.heap.size + 1, 1, none⟩ = false := (hm3.frozen (by simp)).trans (by simp [go_sem])
       have y2 : w3.frozen? ⟨w.heap.size + 1, 2, none⟩ = false := (hm3.frozen (by simp)).trans (by simp [go_sem])))
  all_goals go_wp2
  refine bodyPost_ret (v := jac p a' (hi - lo) c' b' (hi - lo) d') (by simp [results, Try.results74, go_sem, r0, r1, r2]) rfl ⟨a', c', b', d', rfl, ?_, ?_⟩
  · have o1 := (OZ.of ho1 k1.len.symm).below hb3
    have o2 := OZ.of ho2 k2.len.symm
    have z2 := hb2.size
    have z3 := hb3.size
    simp at z2
    have := (((JZ.two o1 o2 (by simp; omega) z3).setLow (x := ⟨w.heap.size + 1, 0, none⟩) (by simp) (.int .i64 p)).setLow (x := ⟨w.heap.size + 1, 1, none⟩) (by simp) (.slice a' (hi - lo) c')).setLow (x := ⟨w.heap.size + 1, 2, none⟩) (by simp) (.slice b' (hi - lo) d')
    simpa using this.mono (lo' := w.heap.size) (by simp; omega) (Nat.le_refl _)
  · exact (((hb0.trans (hm3.mono (by simp; omega))).setCell (by simp) _).setCell (by simp) _).setCell (by simp) _
def cutjV (k : Int) (xs : List Int) : List Int := xs.take k.toNat
def shjV (k : Int) (xs : List Int) : List Int := xs.drop k.toNat
def cutjC (p : Int) (xs ys : List Int) (k : Int) : Int := jcd p xs ys k 1 xs.length
def cutJP (p : Int) (xs ys : List Int) (k : Int) : Int := if cutjC p xs ys k = 0 then p else 0
def cutJV (p : Int) (xs ys : List Int) (k : Int) : List Int := if cutjC p xs ys k = 0 then xs.take k.toNat else []
def cutJU (p : Int) (xs ys : List Int) (k : Int) : List Int := if cutjC p xs ys k = 0 then ys.take k.toNat else []
def shjC (p : Int) (xs ys : List Int) (k : Int) : Int := jcd p xs ys k 0 ((xs.length : Int) - 1)
def shJP (p : Int) (xs ys : List Int) (k : Int) : Int := if shjC p xs ys k = 0 then p else 0
def shJV (p : Int) (xs ys : List Int) (k : Int) : List Int := if shjC p xs ys k = 0 then xs.drop k.toNat else []
def shJU (p : Int) (xs ys : List Int) (k : Int) : List Int := if shjC p xs ys k = 0 then ys.drop k.toNat else []
end Go.Proofs.Ytcadiepghhnbeaa
