/- Contracts: partOf, l03Cut; CutJacobi, ShiftJacobi (program and model). -/
import Derived.Test.YtgkolocmlbnokaaJb
import Derived.Test.YtgkolocmlbnokaaSm
namespace Go.Proofs.Ytgkolocmlbnokaa
open Go.RowKit
set_option linter.unusedVariables false
set_option linter.unusedSimpArgs false

/-- The two results of a call: data and a code. -/
def ResJ (w : World) (q : Int) (v u : List Int) (c : Int) (e : Ending) (w' : World) : Prop :=
  ∃ a cap b cap', e = .returned (.tuple #[jac q a v.length cap b u.length cap', .int .i64 c]) ∧ JZ w.heap.size w'.heap.size w' a v.length cap v b u.length cap' u ∧ (v.length ≤ 100000 ∧ u.length ≤ 100000) ∧ Below w.heap.size w w'
theorem ResJ.nil {w w' : World} {q : Int} {v u : List Int} {c c' : Int} (hq : q = 0) (hv : v = []) (hu : u = []) (hc : c = c') (hb : Below w.heap.size w w') : ResJ w q v u c (.returned (.tuple #[jac 0 none 0 0 none 0 0, .int .i64 c'])) w' := by
  subst hv; subst hu; subst hc; subst hq
  exact ⟨none, 0, none, 0, rfl, ⟨⟨SL.nil _, .inl rfl⟩, ⟨SL.nil _, .inl rfl⟩, .inl rfl⟩, by simp, hb⟩
theorem ResJ.mk {w w' : World} {q q' : Int} {v u : List Int} {c c' : Int} {a : Option Addr} {n cap : Nat} {b : Option Addr} {m cap' : Nat} (hq : q = q') (hc : c = c') (hn : n = v.length) (hm : m = u.length) (ho : JZ w.heap.size w'.heap.size w' a n cap v b m cap' u)
    (hl : v.length ≤ 100000) (hl' : u.length ≤ 100000) (hb : Below w.heap.size w w') : ResJ w q v u c (.returned (.tuple #[jac q' a n cap b m cap', .int .i64 c'])) w' := by
  subst hc; subst hn; subst hm; subst hq
  exact ⟨a, cap, b, cap', rfl, ho, ⟨hl, hl'⟩, hb⟩
theorem SL.part {w : World} {b off n c : Nat} {xs : List Int} (h : SL w (some ⟨b, off, none⟩) n c xs) (lo hi : Nat) (h1 : lo ≤ hi) (h2 : hi ≤ n) : SL w (some ⟨b, off + lo, none⟩) (hi - lo) (c - lo) ((xs.take hi).drop lo) :=
  (h.take h2).dropS lo h1
set_option maxRecDepth 100000 in
set_option maxHeartbeats 1600000 in
theorem partOf_any (p : Int) (a : Option Addr) (n c : Nat) (xs : List Int) (b : Option Addr) (d : Nat) (ys : List Int) (lo hi : Nat) (w : World) (hs : SL w a n c xs) (ht : SL w b n d ys) (hlo : lo < hi) (hhi : hi ≤ n) (hn : n ≤ 4000000) :
    Calls Try.prog 171 #[jac p a n c b n d, .int .i64 lo, .int .i64 hi] w fun e w' => ∃ a' c' b' d', e = .returned (jac p a' (hi - lo) c' b' (hi - lo) d') ∧ JZ w.heap.size w'.heap.size w' a' (hi - lo) c' ((xs.take hi).drop lo) b' (hi - lo) d' ((ys.take hi).drop lo) ∧ Below w.heap.size w w' := by
  have hb0 := bl2 w (.cells #[.int .i64 p, .slice a n c, .slice b n d] 24) (.cells #[.int .i64 0, .slice none 0 0, .slice none 0 0] 24)
  have g1 := hs.below hb0
  have g2 := ht.below hb0
  have hc := hs.le
  have hd := ht.le
  obtain ⟨b1, o1, rfl, hw1, _⟩ := hs.at (by omega)
  obtain ⟨b2, o2, rfl, hw2, _⟩ := ht.at (by omega)
  have k1 := g1.part lo hi (by omega) hhi
  have k2 := g2.part lo hi (by omega) hhi
  have e1 : ¬ c = lo := by omega
  have e2 : ¬ d = lo := by omega
  have i1 : (hi : Int) ≤ (c : Int) := by omega
  have i2 : (hi : Int) ≤ (d : Int) := by omega
  have i3 : (lo : Int) ≤ (hi : Int) := by omega
  clear hs ht g1 g2
  generalize hX : (xs.take hi).drop lo = X at k1 ⊢
  generalize hY : (ys.take hi).drop lo = Y at k2 ⊢
  clear hX hY
  have hbd := (Below.refl ((w.alloc (.cells #[.int .i64 p, .slice (some ⟨b1, o1, none⟩) n c, .slice (some ⟨b2, o2, none⟩) n d] 24)).alloc (.cells #[.int .i64 0, .slice none 0 0, .slice none 0 0] 24)).heap.size ((w.alloc (.cells #[.int .i64 p, .slice (some ⟨b1, o1, none⟩) n c, .slice (some ⟨b2, o2, none⟩) n d] 24)).alloc (.cells #[.int .i64 0, .slice none 0 0, .slice none 0 0] 24))).drew
  have F : ∀ w', Below ((w.alloc (.cells #[.int .i64 p, .slice (some ⟨b1, o1, none⟩) n c, .slice (some ⟨b2, o2, none⟩) n d] 24)).alloc (.cells #[.int .i64 0, .slice none 0 0, .slice none 0 0] 24)).heap.size ((w.alloc (.cells #[.int .i64 p, .slice (some ⟨b1, o1, none⟩) n c, .slice (some ⟨b2, o2, none⟩) n d] 24)).alloc (.cells #[.int .i64 0, .slice none 0 0, .slice none 0 0] 24)) w' →
      w'.cell? ⟨w.heap.size, 0, none⟩ = some (.int .i64 p) ∧ w'.cell? ⟨w.heap.size, 1, none⟩ = some (.slice (some ⟨b1, o1, none⟩) n c) ∧ w'.cell? ⟨w.heap.size, 2, none⟩ = some (.slice (some ⟨b2, o2, none⟩) n d) :=
    fun w' h => ⟨cell_be h (by simp [go_sem]), cell_be h (by simp [go_sem]), cell_be h (by simp [go_sem])⟩
  go_enter Try.func171, Try.ntmps171
  go_upto_region 1 with fail
  go_region_held3 (fun w' => w'.cell? ⟨w.heap.size, 0, none⟩ = some (.int .i64 p) ∧ w'.cell? ⟨w.heap.size, 1, none⟩ = some (.slice (some ⟨b1, o1, none⟩) n c) ∧ w'.cell? ⟨w.heap.size, 2, none⟩ = some (.slice (some ⟨b2, o2, none⟩) n d))
    (first | exact F _ (by assumption) | exact ⟨cell_set2 (cell_set2 (cell_set2 x0 (by simp) _) (by simp) _) (by simp) _, cell_set2 (cell_set2 (cell_set2 x1 (by simp) _) (by simp) _) (by simp) _, cell_set2 (cell_set2 (cell_set2 x2 (by simp) _) (by simp) _) (by simp) _⟩)
    (first
    | (go_at_call 158; refine (clone_any _ _ _ X _ (k1.below hbd) (by omega)).mono ?_; rintro e w2 ⟨a', c', rfl, ho1, hb2⟩; have hm2 := bnext hbd hb2)
    | (go_at_call 158; refine (clone_any _ _ _ Y _ (k2.below hm2) (by omega)).mono ?_; rintro e w3 ⟨b', d', rfl, ho2, hb3⟩; have hm3 := bnext hm2 hb3; obtain ⟨x0, x1, x2⟩ := F _ hm3
       have r0 : w3.cell? ⟨w.heap.size + 1, 0, none⟩ = some (.int .i64 0) := cell_be hm3 (by simp [go_sem])
       have r1 : w3.cell? ⟨w.heap.size + 1, 1, none⟩ = some (.slice none 0 0) := cell_be hm3 (by simp [go_sem])
       have r2 : w3.cell? ⟨w.heap.size + 1, 2, none⟩ = some (.slice none 0 0) := cell_be hm3 (by simp [go_sem])
       have y0 : w3.frozen? ⟨w.heap.size + 1, 0, none⟩ = false := (hm3.frozen (by simp)).trans (by simp [go_sem])
       have y1 : w3.frozen? ⟨w.heap.size + 1, 1, none⟩ = false := (hm3.frozen (by simp)).trans (by simp [go_sem])
       have y2 : w3.frozen? ⟨w.heap.size + 1, 2, none⟩ = false := (hm3.frozen (by simp)).trans (by simp [go_sem])))
  all_goals go_wp2
  refine bodyPost_ret (v := jac p a' (hi - lo) c' b' (hi - lo) d') (by simp [results, Try.results171, go_sem, r0, r1, r2]) rfl ⟨a', c', b', d', rfl, ?_, ?_⟩
  · have o1 := (OZ.of ho1 k1.len.symm).below hb3
    have o2 := OZ.of ho2 k2.len.symm
    have z2 := hb2.size
    have z3 := hb3.size
    simp at z2
    have := (((JZ.two o1 o2 (by simp; omega) z3).setLow (x := ⟨w.heap.size + 1, 0, none⟩) (by simp) (.int .i64 p)).setLow (x := ⟨w.heap.size + 1, 1, none⟩) (by simp) (.slice a' (hi - lo) c')).setLow (x := ⟨w.heap.size + 1, 2, none⟩) (by simp) (.slice b' (hi - lo) d')
    simpa using this.mono (lo' := w.heap.size) (by simp; omega) (Nat.le_refl _)
  · exact (((hb0.trans (hm3.mono (by simp; omega))).setCell (by simp) _).setCell (by simp) _).setCell (by simp) _
set_option maxRecDepth 100000 in
set_option maxHeartbeats 1600000 in
theorem l03Cut_any (p : Int) (a : Option Addr) (n c : Nat) (xs : List Int) (b : Option Addr) (d : Nat) (ys : List Int) (hi : Nat) (w : World) (hs : SL w a n c xs) (ht : SL w b n d ys) (hlo : 0 < hi) (hhi : hi ≤ n) (hn : n ≤ 4000000) :
    Calls Try.prog 185 #[jac p a n c b n d, .int .i64 hi] w fun e w' => ∃ a' c' b' d', e = .returned (jac p a' hi c' b' hi d') ∧ JZ w.heap.size w'.heap.size w' a' hi c' (xs.take hi) b' hi d' (ys.take hi) ∧ Below w.heap.size w w' := by
  have hb0 := bl2 w (.cells #[.int .i64 p, .slice a n c, .slice b n d] 24) (.cells #[.int .i64 0, .slice none 0 0, .slice none 0 0] 24)
  have g1 := hs.below hb0
  have g2 := ht.below hb0
  have hc := hs.le
  have hd := ht.le
  obtain ⟨b1, o1, rfl, hw1, _⟩ := hs.at (by omega)
  obtain ⟨b2, o2, rfl, hw2, _⟩ := ht.at (by omega)
  have k1 := g1.take hhi
  have k2 := g2.take hhi
  have i1 : (hi : Int) ≤ (c : Int) := by omega
  have i2 : (hi : Int) ≤ (d : Int) := by omega
  clear hs ht g1 g2
  generalize hX : xs.take hi = X at k1 ⊢
  generalize hY : ys.take hi = Y at k2 ⊢
  clear hX hY
  have hbd := (Below.refl ((w.alloc (.cells #[.int .i64 p, .slice (some ⟨b1, o1, none⟩) n c, .slice (some ⟨b2, o2, none⟩) n d] 24)).alloc (.cells #[.int .i64 0, .slice none 0 0, .slice none 0 0] 24)).heap.size ((w.alloc (.cells #[.int .i64 p, .slice (some ⟨b1, o1, none⟩) n c, .slice (some ⟨b2, o2, none⟩) n d] 24)).alloc (.cells #[.int .i64 0, .slice none 0 0, .slice none 0 0] 24))).drew
  have F : ∀ w', Below ((w.alloc (.cells #[.int .i64 p, .slice (some ⟨b1, o1, none⟩) n c, .slice (some ⟨b2, o2, none⟩) n d] 24)).alloc (.cells #[.int .i64 0, .slice none 0 0, .slice none 0 0] 24)).heap.size ((w.alloc (.cells #[.int .i64 p, .slice (some ⟨b1, o1, none⟩) n c, .slice (some ⟨b2, o2, none⟩) n d] 24)).alloc (.cells #[.int .i64 0, .slice none 0 0, .slice none 0 0] 24)) w' →
      w'.cell? ⟨w.heap.size, 0, none⟩ = some (.int .i64 p) ∧ w'.cell? ⟨w.heap.size, 1, none⟩ = some (.slice (some ⟨b1, o1, none⟩) n c) ∧ w'.cell? ⟨w.heap.size, 2, none⟩ = some (.slice (some ⟨b2, o2, none⟩) n d) :=
    fun w' h => ⟨cell_be h (by simp [go_sem]), cell_be h (by simp [go_sem]), cell_be h (by simp [go_sem])⟩
  go_enter Try.func185, Try.ntmps185
  go_upto_region 1 with fail
  go_region_held3 (fun w' => w'.cell? ⟨w.heap.size, 0, none⟩ = some (.int .i64 p) ∧ w'.cell? ⟨w.heap.size, 1, none⟩ = some (.slice (some ⟨b1, o1, none⟩) n c) ∧ w'.cell? ⟨w.heap.size, 2, none⟩ = some (.slice (some ⟨b2, o2, none⟩) n d))
    (first | exact F _ (by assumption) | exact ⟨cell_set2 (cell_set2 (cell_set2 x0 (by simp) _) (by simp) _) (by simp) _, cell_set2 (cell_set2 (cell_set2 x1 (by simp) _) (by simp) _) (by simp) _, cell_set2 (cell_set2 (cell_set2 x2 (by simp) _) (by simp) _) (by simp) _⟩)
    (first
    | (go_at_call 132; refine (l01Own_any _ _ _ X _ (k1.below hbd) (by omega)).mono ?_; rintro e w2 ⟨a', c', rfl, ho1, hb2⟩; have hm2 := bnext hbd hb2)
    | (go_at_call 132; refine (l01Own_any _ _ _ Y _ (k2.below hm2) (by omega)).mono ?_; rintro e w3 ⟨b', d', rfl, ho2, hb3⟩; have hm3 := bnext hm2 hb3; obtain ⟨x0, x1, x2⟩ := F _ hm3
       have r0 : w3.cell? ⟨w.heap.size + 1, 0, none⟩ = some (.int .i64 0) := cell_be hm3 (by simp [go_sem])
       have r1 : w3.cell? ⟨w.heap.size + 1, 1, none⟩ = some (.slice none 0 0) := cell_be hm3 (by simp [go_sem])
       have r2 : w3.cell? ⟨w.heap.size + 1, 2, none⟩ = some (.slice none 0 0) := cell_be hm3 (by simp [go_sem])
       have y0 : w3.frozen? ⟨w.heap.size + 1, 0, none⟩ = false := (hm3.frozen (by simp)).trans (by simp [go_sem])
       have y1 : w3.frozen? ⟨w.heap.size + 1, 1, none⟩ = false := (hm3.frozen (by simp)).trans (by simp [go_sem])
       have y2 : w3.frozen? ⟨w.heap.size + 1, 2, none⟩ = false := (hm3.frozen (by simp)).trans (by simp [go_sem])))
  all_goals go_wp2
  refine bodyPost_ret (v := jac p a' hi c' b' hi d') (by simp [results, Try.results185, go_sem, r0, r1, r2]) rfl ⟨a', c', b', d', rfl, ?_, ?_⟩
  · have o1 := (OZ.of ho1 k1.len.symm).below hb3
    have o2 := OZ.of ho2 k2.len.symm
    have z2 := hb2.size
    have z3 := hb3.size
    simp at z2
    have := (((JZ.two o1 o2 (by simp; omega) z3).setLow (x := ⟨w.heap.size + 1, 0, none⟩) (by simp) (.int .i64 p)).setLow (x := ⟨w.heap.size + 1, 1, none⟩) (by simp) (.slice a' hi c')).setLow (x := ⟨w.heap.size + 1, 2, none⟩) (by simp) (.slice b' hi d')
    simpa using this.mono (lo' := w.heap.size) (by simp; omega) (Nat.le_refl _)
  · exact (((hb0.trans (hm3.mono (by simp; omega))).setCell (by simp) _).setCell (by simp) _).setCell (by simp) _
def cutjV (k : Int) (xs : List Int) : List Int := xs.take k.toNat
def shjV (k : Int) (xs : List Int) : List Int := xs.drop k.toNat
def cutjC (p : Int) (xs ys : List Int) (k : Int) : Int := jcd p xs ys k 1 xs.length
def cutJP (p : Int) (xs ys : List Int) (k : Int) : Int := if cutjC p xs ys k = 0 then p else 0
def cutJV (p : Int) (xs ys : List Int) (k : Int) : List Int := if cutjC p xs ys k = 0 then xs.take k.toNat else []
def cutJU (p : Int) (xs ys : List Int) (k : Int) : List Int := if cutjC p xs ys k = 0 then ys.take k.toNat else []
def shjC (p : Int) (xs ys : List Int) (k : Int) : Int := jcd p xs ys k 0 ((xs.length : Int) - 1)
def shJP (p : Int) (xs ys : List Int) (k : Int) : Int := if shjC p xs ys k = 0 then p else 0
def shJV (p : Int) (xs ys : List Int) (k : Int) : List Int := if shjC p xs ys k = 0 then xs.drop k.toNat else []
def shJU (p : Int) (xs ys : List Int) (k : Int) : List Int := if shjC p xs ys k = 0 then ys.drop k.toNat else []
set_option maxRecDepth 100000 in
set_option maxHeartbeats 1600000 in
theorem implCutJacobi (p : Int) (a : Option Addr) (n c : Nat) (xs : List Int) (b : Option Addr) (m d : Nat) (ys : List Int) (k : Int) (w : World) (hs : SL w a n c xs) (ht : SL w b m d ys) (hn : n ≤ 4000000) (hm : m ≤ 4000000) :
    Calls Try.prog 75 #[jac p a n c b m d, .int .i64 k] w (ResJ w (cutJP p xs ys k) (cutJV p xs ys k) (cutJU p xs ys k) (cutjC p xs ys k)) := by
  have hl := hide hs.len
  have hl2 := hide ht.len
  have hb0 := bl2 w (.cells #[.int .i64 p, .slice a n c, .slice b m d] 24) (.cells #[.int .i64 0, .slice none 0 0, .slice none 0 0] 24)
  have g1 := hs.below hb0
  have g2 := ht.below hb0
  have hcd : ∀ C, cutjC p xs ys k = C → Hid (jcd p xs ys k 1 (n : Int) = C) := fun C h => hide (by rw [← h, cutjC, hl.out])
  have hbd := (Below.refl ((w.alloc (.cells #[.int .i64 p, .slice a n c, .slice b m d] 24)).alloc (.cells #[.int .i64 0, .slice none 0 0, .slice none 0 0] 24)).heap.size ((w.alloc (.cells #[.int .i64 p, .slice a n c, .slice b m d] 24)).alloc (.cells #[.int .i64 0, .slice none 0 0, .slice none 0 0] 24))).drew
  have F : ∀ w', Below ((w.alloc (.cells #[.int .i64 p, .slice a n c, .slice b m d] 24)).alloc (.cells #[.int .i64 0, .slice none 0 0, .slice none 0 0] 24)).heap.size ((w.alloc (.cells #[.int .i64 p, .slice a n c, .slice b m d] 24)).alloc (.cells #[.int .i64 0, .slice none 0 0, .slice none 0 0] 24)) w' → w'.cell? ⟨w.heap.size, 0, none⟩ = some (.int .i64 p) ∧ w'.cell? ⟨w.heap.size, 1, none⟩ = some (.slice a n c) ∧ w'.cell? ⟨w.heap.size, 2, none⟩ = some (.slice b m d) := fun w' h => ⟨cell_be h (by simp [go_sem]), cell_be h (by simp [go_sem]), cell_be h (by simp [go_sem])⟩
  rcases jcd_cases p xs ys k 1 (xs.length : Int) with hc | hc | ⟨hc, hj, q1, q2⟩
  · have HC := hide (show cutjC p xs ys k = 1 from hc)
    have HV := hide (show cutJV p xs ys k = [] by simp [cutJV, HC.out])
    have HU := hide (show cutJU p xs ys k = [] by simp [cutJU, HC.out])
    have HQ := hide (show cutJP p xs ys k = 0 by simp [cutJP, HC.out])
    have Hcd := hcd _ HC.out
    clear hc hcd
    go_enter Try.func75, Try.ntmps75
    go_upto_region 1 with fail
    go_region_held3 (fun w' => w'.cell? ⟨w.heap.size, 0, none⟩ = some (.int .i64 p) ∧ w'.cell? ⟨w.heap.size, 1, none⟩ = some (.slice a n c) ∧ w'.cell? ⟨w.heap.size, 2, none⟩ = some (.slice b m d))
      (exact F _ (by assumption))
      (first
      | (go_at_call 164; refine (sizeOf_any _ _ _ _ _ _ _ _ hn).mono ?_; rintro e w1 ⟨rfl, hb1⟩; have hm1 := bnext hbd hb1)
      | (go_at_call 163; refine (checkJacobi_any _ _ _ _ _ _ _ _ _ _ _ _ _ _ (g1.below hm1) (g2.below hm1) hn hm Hcd.out).mono ?_; rintro e w2 ⟨rfl, hb2⟩; have hm2 := bnext hm1 hb2))
    have hB2 := bnext hb0 hm2
    have z2 := hm2.size
    simp at z2
    have r0 : w2.cell? ⟨w.heap.size + 1, 0, none⟩ = some (.int .i64 0) := cell_be hm2 (by simp [go_sem])
    have r1 : w2.cell? ⟨w.heap.size + 1, 1, none⟩ = some (.slice none 0 0) := cell_be hm2 (by simp [go_sem])
    have r2 : w2.cell? ⟨w.heap.size + 1, 2, none⟩ = some (.slice none 0 0) := cell_be hm2 (by simp [go_sem])
    have y0 : w2.frozen? ⟨w.heap.size + 1, 0, none⟩ = false := (hm2.frozen (by simp)).trans (by simp [go_sem])
    have y1 : w2.frozen? ⟨w.heap.size + 1, 1, none⟩ = false := (hm2.frozen (by simp)).trans (by simp [go_sem])
    have y2 : w2.frozen? ⟨w.heap.size + 1, 2, none⟩ = false := (hm2.frozen (by simp)).trans (by simp [go_sem])
    go_wp2
    refine bodyPost_ret (v := .tuple #[jac 0 none 0 0 none 0 0, .int .i64 1]) (by simp [results, Try.results75, go_sem, r0, r1, r2]) rfl ?_
    exact ResJ.nil HQ.out HV.out HU.out HC.out (((hB2.setCell (by simp) _).setCell (by simp) _).setCell (by simp) _)
  · have HC := hide (show cutjC p xs ys k = 2 from hc)
    have HV := hide (show cutJV p xs ys k = [] by simp [cutJV, HC.out])
    have HU := hide (show cutJU p xs ys k = [] by simp [cutJU, HC.out])
    have HQ := hide (show cutJP p xs ys k = 0 by simp [cutJP, HC.out])
    have Hcd := hcd _ HC.out
    clear hc hcd
    go_enter Try.func75, Try.ntmps75
    go_upto_region 1 with fail
    go_region_held3 (fun w' => w'.cell? ⟨w.heap.size, 0, none⟩ = some (.int .i64 p) ∧ w'.cell? ⟨w.heap.size, 1, none⟩ = some (.slice a n c) ∧ w'.cell? ⟨w.heap.size, 2, none⟩ = some (.slice b m d))
      (exact F _ (by assumption))
      (first
      | (go_at_call 164; refine (sizeOf_any _ _ _ _ _ _ _ _ hn).mono ?_; rintro e w1 ⟨rfl, hb1⟩; have hm1 := bnext hbd hb1)
      | (go_at_call 163; refine (checkJacobi_any _ _ _ _ _ _ _ _ _ _ _ _ _ _ (g1.below hm1) (g2.below hm1) hn hm Hcd.out).mono ?_; rintro e w2 ⟨rfl, hb2⟩; have hm2 := bnext hm1 hb2))
    have hB2 := bnext hb0 hm2
    have z2 := hm2.size
    simp at z2
    have r0 : w2.cell? ⟨w.heap.size + 1, 0, none⟩ = some (.int .i64 0) := cell_be hm2 (by simp [go_sem])
    have r1 : w2.cell? ⟨w.heap.size + 1, 1, none⟩ = some (.slice none 0 0) := cell_be hm2 (by simp [go_sem])
    have r2 : w2.cell? ⟨w.heap.size + 1, 2, none⟩ = some (.slice none 0 0) := cell_be hm2 (by simp [go_sem])
    have y0 : w2.frozen? ⟨w.heap.size + 1, 0, none⟩ = false := (hm2.frozen (by simp)).trans (by simp [go_sem])
    have y1 : w2.frozen? ⟨w.heap.size + 1, 1, none⟩ = false := (hm2.frozen (by simp)).trans (by simp [go_sem])
    have y2 : w2.frozen? ⟨w.heap.size + 1, 2, none⟩ = false := (hm2.frozen (by simp)).trans (by simp [go_sem])
    go_wp2
    refine bodyPost_ret (v := .tuple #[jac 0 none 0 0 none 0 0, .int .i64 2]) (by simp [results, Try.results75, go_sem, r0, r1, r2]) rfl ?_
    exact ResJ.nil HQ.out HV.out HU.out HC.out (((hB2.setCell (by simp) _).setCell (by simp) _).setCell (by simp) _)
  · have HC := hide (show cutjC p xs ys k = 0 from hc)
    have HV := hide (show cutJV p xs ys k = xs.take k.toNat by simp [cutJV, HC.out])
    have HU := hide (show cutJU p xs ys k = ys.take k.toNat by simp [cutJU, HC.out])
    have HQ := hide (show cutJP p xs ys k = p by simp [cutJP, HC.out])
    obtain ⟨_, n1, n2, n3, _, _⟩ := jacB_rng hj
    rw [hl.out] at n1 n2 n3
    rw [hl2.out] at n3
    subst n3
    rw [hl.out] at q2
    have Hcd := hcd _ HC.out
    clear hc hcd hj
    obtain ⟨K, rfl⟩ : ∃ K : Nat, k = K := ⟨k.toNat, by omega⟩
    rw [Int.toNat_natCast] at HV HU
    go_enter Try.func75, Try.ntmps75
    go_upto_region 1 with fail
    go_region_held3 (fun w' => w'.cell? ⟨w.heap.size, 0, none⟩ = some (.int .i64 p) ∧ w'.cell? ⟨w.heap.size, 1, none⟩ = some (.slice a m c) ∧ w'.cell? ⟨w.heap.size, 2, none⟩ = some (.slice b m d))
      (exact F _ (by assumption))
      (first
      | (go_at_call 164; refine (sizeOf_any _ _ _ _ _ _ _ _ hn).mono ?_; rintro e w1 ⟨rfl, hb1⟩; have hm1 := bnext hbd hb1)
      | (go_at_call 163; refine (checkJacobi_any _ _ _ _ _ _ _ _ _ _ _ _ _ _ (g1.below hm1) (g2.below hm1) hn hm Hcd.out).mono ?_; rintro e w2 ⟨rfl, hb2⟩; have hm2 := bnext hm1 hb2))
    have hB2 := bnext hb0 hm2
    have z2 := hm2.size
    simp at z2
    have r0 : w2.cell? ⟨w.heap.size + 1, 0, none⟩ = some (.int .i64 0) := cell_be hm2 (by simp [go_sem])
    have r1 : w2.cell? ⟨w.heap.size + 1, 1, none⟩ = some (.slice none 0 0) := cell_be hm2 (by simp [go_sem])
    have r2 : w2.cell? ⟨w.heap.size + 1, 2, none⟩ = some (.slice none 0 0) := cell_be hm2 (by simp [go_sem])
    have y0 : w2.frozen? ⟨w.heap.size + 1, 0, none⟩ = false := (hm2.frozen (by simp)).trans (by simp [go_sem])
    have y1 : w2.frozen? ⟨w.heap.size + 1, 1, none⟩ = false := (hm2.frozen (by simp)).trans (by simp [go_sem])
    have y2 : w2.frozen? ⟨w.heap.size + 1, 2, none⟩ = false := (hm2.frozen (by simp)).trans (by simp [go_sem])
    have f0 : w2.cell? ⟨w.heap.size, 0, none⟩ = some (.int .i64 p) := cell_be hm2 (by simp [go_sem])
    have f1 : w2.cell? ⟨w.heap.size, 1, none⟩ = some (.slice a m c) := cell_be hm2 (by simp [go_sem])
    have f2 : w2.cell? ⟨w.heap.size, 2, none⟩ = some (.slice b m d) := cell_be hm2 (by simp [go_sem])
    go_wp2_with fail
    refine (partOf_any _ _ _ _ _ _ _ _ 0 K _ (g1.below hm2) (g2.below hm2) (by omega) (by omega) hn).mono ?_
    rintro e w4 ⟨a', c', b', d', rfl, ho, hb4⟩
    simp only [Nat.sub_zero, List.drop_zero] at ho ⊢
    replace r0 := cell_be hb4 r0
    replace r1 := cell_be hb4 r1
    replace r2 := cell_be hb4 r2
    replace y0 := (hb4.frozen (p := ⟨w.heap.size + 1, 0, none⟩) (by simp; omega)).trans y0
    replace y1 := (hb4.frozen (p := ⟨w.heap.size + 1, 1, none⟩) (by simp; omega)).trans y1
    replace y2 := (hb4.frozen (p := ⟨w.heap.size + 1, 2, none⟩) (by simp; omega)).trans y2
    go_wp2
    refine bodyPost_ret (v := .tuple #[jac p a' K c' b' K d', .int .i64 0]) (by simp [results, Try.results75, go_sem, r0, r1, r2]) rfl ?_
    have z4 := hb4.size
    have jz := ((ho.setLow (x := ⟨w.heap.size + 1, 0, none⟩) (by simp; omega) (.int .i64 p)).setLow (x := ⟨w.heap.size + 1, 1, none⟩) (by simp; omega) (.slice a' K c')).setLow (x := ⟨w.heap.size + 1, 2, none⟩) (by simp; omega) (.slice b' K d')
    exact ResJ.mk HQ.out HC.out (by rw [HV.out, jz.sl1.len]) (by rw [HU.out, jz.sl2.len]) (by rw [HV.out, HU.out]; simpa using jz.mono (lo' := w.heap.size) (by omega) (Nat.le_refl _)) (by rw [HV.out, jz.sl1.len]; omega) (by rw [HU.out, jz.sl2.len]; omega) ((((hB2.trans (hb4.mono (by omega))).setCell (by simp) _).setCell (by simp) _).setCell (by simp) _)
set_option maxRecDepth 100000 in
set_option maxHeartbeats 1600000 in
theorem specCutJacobi (p : Int) (a : Option Addr) (n c : Nat) (xs : List Int) (b : Option Addr) (m d : Nat) (ys : List Int) (k : Int) (w : World) (hs : SL w a n c xs) (ht : SL w b m d ys) (hn : n ≤ 4000000) (hm : m ≤ 4000000) :
    Calls Try.prog 102 #[jac p a n c b m d, .int .i64 k] w (ResJ w (cutJP p xs ys k) (cutJV p xs ys k) (cutJU p xs ys k) (cutjC p xs ys k)) := by
  have hl := hide hs.len
  have hl2 := hide ht.len
  have hb0 := bl2 w (.cells #[.int .i64 p, .slice a n c, .slice b m d] 24) (.cells #[.int .i64 0, .slice none 0 0, .slice none 0 0] 24)
  have g1 := hs.below hb0
  have g2 := ht.below hb0
  have hcd : ∀ C, cutjC p xs ys k = C → Hid (jcd p xs ys k 1 (n : Int) = C) := fun C h => hide (by rw [← h, cutjC, hl.out])
  rcases jcd_cases p xs ys k 1 (xs.length : Int) with hc | hc | ⟨hc, hj, q1, q2⟩
  · have HC := hide (show cutjC p xs ys k = 1 from hc)
    have HV := hide (show cutJV p xs ys k = [] by simp [cutJV, HC.out])
    have HU := hide (show cutJU p xs ys k = [] by simp [cutJU, HC.out])
    have HQ := hide (show cutJP p xs ys k = 0 by simp [cutJP, HC.out])
    have Hcd := hcd _ HC.out
    clear hc hcd
    go_enter Try.func102, Try.ntmps102
    go_wp2_with fail
    refine (l03Code_any _ _ _ _ _ _ _ _ _ _ _ _ _ _ g1 g2 hn hm Hcd.out).mono ?_
    rintro e w2 ⟨rfl, hm2⟩
    have hB2 := bnext hb0 hm2
    have z2 := hm2.size
    simp at z2
    have r0 : w2.cell? ⟨w.heap.size + 1, 0, none⟩ = some (.int .i64 0) := cell_be hm2 (by simp [go_sem])
    have r1 : w2.cell? ⟨w.heap.size + 1, 1, none⟩ = some (.slice none 0 0) := cell_be hm2 (by simp [go_sem])
    have r2 : w2.cell? ⟨w.heap.size + 1, 2, none⟩ = some (.slice none 0 0) := cell_be hm2 (by simp [go_sem])
    have y0 : w2.frozen? ⟨w.heap.size + 1, 0, none⟩ = false := (hm2.frozen (by simp)).trans (by simp [go_sem])
    have y1 : w2.frozen? ⟨w.heap.size + 1, 1, none⟩ = false := (hm2.frozen (by simp)).trans (by simp [go_sem])
    have y2 : w2.frozen? ⟨w.heap.size + 1, 2, none⟩ = false := (hm2.frozen (by simp)).trans (by simp [go_sem])
    go_wp2
    refine bodyPost_ret (v := .tuple #[jac 0 none 0 0 none 0 0, .int .i64 1]) (by simp [results, Try.results102, go_sem, r0, r1, r2]) rfl ?_
    exact ResJ.nil HQ.out HV.out HU.out HC.out (((hB2.setCell (by simp) _).setCell (by simp) _).setCell (by simp) _)
  · have HC := hide (show cutjC p xs ys k = 2 from hc)
    have HV := hide (show cutJV p xs ys k = [] by simp [cutJV, HC.out])
    have HU := hide (show cutJU p xs ys k = [] by simp [cutJU, HC.out])
    have HQ := hide (show cutJP p xs ys k = 0 by simp [cutJP, HC.out])
    have Hcd := hcd _ HC.out
    clear hc hcd
    go_enter Try.func102, Try.ntmps102
    go_wp2_with fail
    refine (l03Code_any _ _ _ _ _ _ _ _ _ _ _ _ _ _ g1 g2 hn hm Hcd.out).mono ?_
    rintro e w2 ⟨rfl, hm2⟩
    have hB2 := bnext hb0 hm2
    have z2 := hm2.size
    simp at z2
    have r0 : w2.cell? ⟨w.heap.size + 1, 0, none⟩ = some (.int .i64 0) := cell_be hm2 (by simp [go_sem])
    have r1 : w2.cell? ⟨w.heap.size + 1, 1, none⟩ = some (.slice none 0 0) := cell_be hm2 (by simp [go_sem])
    have r2 : w2.cell? ⟨w.heap.size + 1, 2, none⟩ = some (.slice none 0 0) := cell_be hm2 (by simp [go_sem])
    have y0 : w2.frozen? ⟨w.heap.size + 1, 0, none⟩ = false := (hm2.frozen (by simp)).trans (by simp [go_sem])
    have y1 : w2.frozen? ⟨w.heap.size + 1, 1, none⟩ = false := (hm2.frozen (by simp)).trans (by simp [go_sem])
    have y2 : w2.frozen? ⟨w.heap.size + 1, 2, none⟩ = false := (hm2.frozen (by simp)).trans (by simp [go_sem])
    go_wp2
    refine bodyPost_ret (v := .tuple #[jac 0 none 0 0 none 0 0, .int .i64 2]) (by simp [results, Try.results102, go_sem, r0, r1, r2]) rfl ?_
    exact ResJ.nil HQ.out HV.out HU.out HC.out (((hB2.setCell (by simp) _).setCell (by simp) _).setCell (by simp) _)
  · have HC := hide (show cutjC p xs ys k = 0 from hc)
    have HV := hide (show cutJV p xs ys k = xs.take k.toNat by simp [cutJV, HC.out])
    have HU := hide (show cutJU p xs ys k = ys.take k.toNat by simp [cutJU, HC.out])
    have HQ := hide (show cutJP p xs ys k = p by simp [cutJP, HC.out])
    obtain ⟨_, n1, n2, n3, _, _⟩ := jacB_rng hj
    rw [hl.out] at n1 n2 n3
    rw [hl2.out] at n3
    subst n3
    rw [hl.out] at q2
    have Hcd := hcd _ HC.out
    clear hc hcd hj
    obtain ⟨K, rfl⟩ : ∃ K : Nat, k = K := ⟨k.toNat, by omega⟩
    rw [Int.toNat_natCast] at HV HU
    go_enter Try.func102, Try.ntmps102
    go_wp2_with fail
    refine (l03Code_any _ _ _ _ _ _ _ _ _ _ _ _ _ _ g1 g2 hn hm Hcd.out).mono ?_
    rintro e w2 ⟨rfl, hm2⟩
    have hB2 := bnext hb0 hm2
    have z2 := hm2.size
    simp at z2
    have r0 : w2.cell? ⟨w.heap.size + 1, 0, none⟩ = some (.int .i64 0) := cell_be hm2 (by simp [go_sem])
    have r1 : w2.cell? ⟨w.heap.size + 1, 1, none⟩ = some (.slice none 0 0) := cell_be hm2 (by simp [go_sem])
    have r2 : w2.cell? ⟨w.heap.size + 1, 2, none⟩ = some (.slice none 0 0) := cell_be hm2 (by simp [go_sem])
    have y0 : w2.frozen? ⟨w.heap.size + 1, 0, none⟩ = false := (hm2.frozen (by simp)).trans (by simp [go_sem])
    have y1 : w2.frozen? ⟨w.heap.size + 1, 1, none⟩ = false := (hm2.frozen (by simp)).trans (by simp [go_sem])
    have y2 : w2.frozen? ⟨w.heap.size + 1, 2, none⟩ = false := (hm2.frozen (by simp)).trans (by simp [go_sem])
    have f0 : w2.cell? ⟨w.heap.size, 0, none⟩ = some (.int .i64 p) := cell_be hm2 (by simp [go_sem])
    have f1 : w2.cell? ⟨w.heap.size, 1, none⟩ = some (.slice a m c) := cell_be hm2 (by simp [go_sem])
    have f2 : w2.cell? ⟨w.heap.size, 2, none⟩ = some (.slice b m d) := cell_be hm2 (by simp [go_sem])
    go_wp2_with fail
    refine (l03Cut_any _ _ _ _ _ _ _ _ K _ (g1.below hm2) (g2.below hm2) (by omega) (by omega) hn).mono ?_
    rintro e w4 ⟨a', c', b', d', rfl, ho, hb4⟩
    replace r0 := cell_be hb4 r0
    replace r1 := cell_be hb4 r1
    replace r2 := cell_be hb4 r2
    replace y0 := (hb4.frozen (p := ⟨w.heap.size + 1, 0, none⟩) (by simp; omega)).trans y0
    replace y1 := (hb4.frozen (p := ⟨w.heap.size + 1, 1, none⟩) (by simp; omega)).trans y1
    replace y2 := (hb4.frozen (p := ⟨w.heap.size + 1, 2, none⟩) (by simp; omega)).trans y2
    go_wp2
    refine bodyPost_ret (v := .tuple #[jac p a' K c' b' K d', .int .i64 0]) (by simp [results, Try.results102, go_sem, r0, r1, r2]) rfl ?_
    have z4 := hb4.size
    have jz := ((ho.setLow (x := ⟨w.heap.size + 1, 0, none⟩) (by simp; omega) (.int .i64 p)).setLow (x := ⟨w.heap.size + 1, 1, none⟩) (by simp; omega) (.slice a' K c')).setLow (x := ⟨w.heap.size + 1, 2, none⟩) (by simp; omega) (.slice b' K d')
    exact ResJ.mk HQ.out HC.out (by rw [HV.out, jz.sl1.len]) (by rw [HU.out, jz.sl2.len]) (by rw [HV.out, HU.out]; simpa using jz.mono (lo' := w.heap.size) (by omega) (Nat.le_refl _)) (by rw [HV.out, jz.sl1.len]; omega) (by rw [HU.out, jz.sl2.len]; omega) ((((hB2.trans (hb4.mono (by omega))).setCell (by simp) _).setCell (by simp) _).setCell (by simp) _)
set_option maxRecDepth 100000 in
set_option maxHeartbeats 1600000 in
theorem implShiftJacobi (p : Int) (a : Option Addr) (n c : Nat) (xs : List Int) (b : Option Addr) (m d : Nat) (ys : List Int) (k : Int) (w : World) (hs : SL w a n c xs) (ht : SL w b m d ys) (hn : n ≤ 4000000) (hm : m ≤ 4000000) :
    Calls Try.prog 84 #[jac p a n c b m d, .int .i64 k] w (ResJ w (shJP p xs ys k) (shJV p xs ys k) (shJU p xs ys k) (shjC p xs ys k)) := by
  have hl := hide hs.len
  have hl2 := hide ht.len
  have hb0 := bl2 w (.cells #[.int .i64 p, .slice a n c, .slice b m d] 24) (.cells #[.int .i64 0, .slice none 0 0, .slice none 0 0] 24)
  have g1 := hs.below hb0
  have g2 := ht.below hb0
  have hcd : ∀ C, shjC p xs ys k = C → Hid (jcd p xs ys k 0 ((n : Int) - 1) = C) := fun C h => hide (by rw [← h, shjC, hl.out])
  have hw1 : IntKind.i64.wrap ((n : Int) - 1) = (n : Int) - 1 := IntWalk.i64_in _ (by omega)
  have hbd := (Below.refl ((w.alloc (.cells #[.int .i64 p, .slice a n c, .slice b m d] 24)).alloc (.cells #[.int .i64 0, .slice none 0 0, .slice none 0 0] 24)).heap.size ((w.alloc (.cells #[.int .i64 p, .slice a n c, .slice b m d] 24)).alloc (.cells #[.int .i64 0, .slice none 0 0, .slice none 0 0] 24))).drew
  have F : ∀ w', Below ((w.alloc (.cells #[.int .i64 p, .slice a n c, .slice b m d] 24)).alloc (.cells #[.int .i64 0, .slice none 0 0, .slice none 0 0] 24)).heap.size ((w.alloc (.cells #[.int .i64 p, .slice a n c, .slice b m d] 24)).alloc (.cells #[.int .i64 0, .slice none 0 0, .slice none 0 0] 24)) w' → w'.cell? ⟨w.heap.size, 0, none⟩ = some (.int .i64 p) ∧ w'.cell? ⟨w.heap.size, 1, none⟩ = some (.slice a n c) ∧ w'.cell? ⟨w.heap.size, 2, none⟩ = some (.slice b m d) := fun w' h => ⟨cell_be h (by simp [go_sem]), cell_be h (by simp [go_sem]), cell_be h (by simp [go_sem])⟩
  rcases jcd_cases p xs ys k 0 ((xs.length : Int) - 1) with hc | hc | ⟨hc, hj, q1, q2⟩
  · have HC := hide (show shjC p xs ys k = 1 from hc)
    have HV := hide (show shJV p xs ys k = [] by simp [shJV, HC.out])
    have HU := hide (show shJU p xs ys k = [] by simp [shJU, HC.out])
    have HQ := hide (show shJP p xs ys k = 0 by simp [shJP, HC.out])
    have Hcd := hcd _ HC.out
    clear hc hcd
    go_enter Try.func84, Try.ntmps84
    go_upto_region 1 with fail
    go_region_held3 (fun w' => w'.cell? ⟨w.heap.size, 0, none⟩ = some (.int .i64 p) ∧ w'.cell? ⟨w.heap.size, 1, none⟩ = some (.slice a n c) ∧ w'.cell? ⟨w.heap.size, 2, none⟩ = some (.slice b m d))
      (exact F _ (by assumption))
      (first
      | (go_at_call 164; refine (sizeOf_any _ _ _ _ _ _ _ _ hn).mono ?_; rintro e w1 ⟨rfl, hb1⟩; have hm1 := bnext hbd hb1)
      | (go_at_call 163; refine (checkJacobi_any _ _ _ _ _ _ _ _ _ _ _ _ _ _ (g1.below hm1) (g2.below hm1) hn hm Hcd.out).mono ?_; rintro e w2 ⟨rfl, hb2⟩; have hm2 := bnext hm1 hb2))
    have hB2 := bnext hb0 hm2
    have z2 := hm2.size
    simp at z2
    have r0 : w2.cell? ⟨w.heap.size + 1, 0, none⟩ = some (.int .i64 0) := cell_be hm2 (by simp [go_sem])
    have r1 : w2.cell? ⟨w.heap.size + 1, 1, none⟩ = some (.slice none 0 0) := cell_be hm2 (by simp [go_sem])
    have r2 : w2.cell? ⟨w.heap.size + 1, 2, none⟩ = some (.slice none 0 0) := cell_be hm2 (by simp [go_sem])
    have y0 : w2.frozen? ⟨w.heap.size + 1, 0, none⟩ = false := (hm2.frozen (by simp)).trans (by simp [go_sem])
    have y1 : w2.frozen? ⟨w.heap.size + 1, 1, none⟩ = false := (hm2.frozen (by simp)).trans (by simp [go_sem])
    have y2 : w2.frozen? ⟨w.heap.size + 1, 2, none⟩ = false := (hm2.frozen (by simp)).trans (by simp [go_sem])
    go_wp2
    refine bodyPost_ret (v := .tuple #[jac 0 none 0 0 none 0 0, .int .i64 1]) (by simp [results, Try.results84, go_sem, r0, r1, r2]) rfl ?_
    exact ResJ.nil HQ.out HV.out HU.out HC.out (((hB2.setCell (by simp) _).setCell (by simp) _).setCell (by simp) _)
  · have HC := hide (show shjC p xs ys k = 2 from hc)
    have HV := hide (show shJV p xs ys k = [] by simp [shJV, HC.out])
    have HU := hide (show shJU p xs ys k = [] by simp [shJU, HC.out])
    have HQ := hide (show shJP p xs ys k = 0 by simp [shJP, HC.out])
    have Hcd := hcd _ HC.out
    clear hc hcd
    go_enter Try.func84, Try.ntmps84
    go_upto_region 1 with fail
    go_region_held3 (fun w' => w'.cell? ⟨w.heap.size, 0, none⟩ = some (.int .i64 p) ∧ w'.cell? ⟨w.heap.size, 1, none⟩ = some (.slice a n c) ∧ w'.cell? ⟨w.heap.size, 2, none⟩ = some (.slice b m d))
      (exact F _ (by assumption))
      (first
      | (go_at_call 164; refine (sizeOf_any _ _ _ _ _ _ _ _ hn).mono ?_; rintro e w1 ⟨rfl, hb1⟩; have hm1 := bnext hbd hb1)
      | (go_at_call 163; refine (checkJacobi_any _ _ _ _ _ _ _ _ _ _ _ _ _ _ (g1.below hm1) (g2.below hm1) hn hm Hcd.out).mono ?_; rintro e w2 ⟨rfl, hb2⟩; have hm2 := bnext hm1 hb2))
    have hB2 := bnext hb0 hm2
    have z2 := hm2.size
    simp at z2
    have r0 : w2.cell? ⟨w.heap.size + 1, 0, none⟩ = some (.int .i64 0) := cell_be hm2 (by simp [go_sem])
    have r1 : w2.cell? ⟨w.heap.size + 1, 1, none⟩ = some (.slice none 0 0) := cell_be hm2 (by simp [go_sem])
    have r2 : w2.cell? ⟨w.heap.size + 1, 2, none⟩ = some (.slice none 0 0) := cell_be hm2 (by simp [go_sem])
    have y0 : w2.frozen? ⟨w.heap.size + 1, 0, none⟩ = false := (hm2.frozen (by simp)).trans (by simp [go_sem])
    have y1 : w2.frozen? ⟨w.heap.size + 1, 1, none⟩ = false := (hm2.frozen (by simp)).trans (by simp [go_sem])
    have y2 : w2.frozen? ⟨w.heap.size + 1, 2, none⟩ = false := (hm2.frozen (by simp)).trans (by simp [go_sem])
    go_wp2
    refine bodyPost_ret (v := .tuple #[jac 0 none 0 0 none 0 0, .int .i64 2]) (by simp [results, Try.results84, go_sem, r0, r1, r2]) rfl ?_
    exact ResJ.nil HQ.out HV.out HU.out HC.out (((hB2.setCell (by simp) _).setCell (by simp) _).setCell (by simp) _)
  · have HC := hide (show shjC p xs ys k = 0 from hc)
    have HV := hide (show shJV p xs ys k = xs.drop k.toNat by simp [shJV, HC.out])
    have HU := hide (show shJU p xs ys k = ys.drop k.toNat by simp [shJU, HC.out])
    have HQ := hide (show shJP p xs ys k = p by simp [shJP, HC.out])
    obtain ⟨_, n1, n2, n3, _, _⟩ := jacB_rng hj
    rw [hl.out] at n1 n2 n3
    rw [hl2.out] at n3
    subst n3
    rw [hl.out] at q2
    have Hcd := hcd _ HC.out
    clear hc hcd hj
    obtain ⟨K, rfl⟩ : ∃ K : Nat, k = K := ⟨k.toNat, by omega⟩
    rw [Int.toNat_natCast] at HV HU
    go_enter Try.func84, Try.ntmps84
    go_upto_region 1 with fail
    go_region_held3 (fun w' => w'.cell? ⟨w.heap.size, 0, none⟩ = some (.int .i64 p) ∧ w'.cell? ⟨w.heap.size, 1, none⟩ = some (.slice a m c) ∧ w'.cell? ⟨w.heap.size, 2, none⟩ = some (.slice b m d))
      (exact F _ (by assumption))
      (first
      | (go_at_call 164; refine (sizeOf_any _ _ _ _ _ _ _ _ hn).mono ?_; rintro e w1 ⟨rfl, hb1⟩; have hm1 := bnext hbd hb1)
      | (go_at_call 163; refine (checkJacobi_any _ _ _ _ _ _ _ _ _ _ _ _ _ _ (g1.below hm1) (g2.below hm1) hn hm Hcd.out).mono ?_; rintro e w2 ⟨rfl, hb2⟩; have hm2 := bnext hm1 hb2))
    have hB2 := bnext hb0 hm2
    have z2 := hm2.size
    simp at z2
    have r0 : w2.cell? ⟨w.heap.size + 1, 0, none⟩ = some (.int .i64 0) := cell_be hm2 (by simp [go_sem])
    have r1 : w2.cell? ⟨w.heap.size + 1, 1, none⟩ = some (.slice none 0 0) := cell_be hm2 (by simp [go_sem])
    have r2 : w2.cell? ⟨w.heap.size + 1, 2, none⟩ = some (.slice none 0 0) := cell_be hm2 (by simp [go_sem])
    have y0 : w2.frozen? ⟨w.heap.size + 1, 0, none⟩ = false := (hm2.frozen (by simp)).trans (by simp [go_sem])
    have y1 : w2.frozen? ⟨w.heap.size + 1, 1, none⟩ = false := (hm2.frozen (by simp)).trans (by simp [go_sem])
    have y2 : w2.frozen? ⟨w.heap.size + 1, 2, none⟩ = false := (hm2.frozen (by simp)).trans (by simp [go_sem])
    have f0 : w2.cell? ⟨w.heap.size, 0, none⟩ = some (.int .i64 p) := cell_be hm2 (by simp [go_sem])
    have f1 : w2.cell? ⟨w.heap.size, 1, none⟩ = some (.slice a m c) := cell_be hm2 (by simp [go_sem])
    have f2 : w2.cell? ⟨w.heap.size, 2, none⟩ = some (.slice b m d) := cell_be hm2 (by simp [go_sem])
    have hbd2 := (Below.refl w2.heap.size w2).drew
    have F2 : ∀ w', Below w2.heap.size w2 w' → w'.cell? ⟨w.heap.size, 0, none⟩ = some (.int .i64 p) ∧ w'.cell? ⟨w.heap.size, 1, none⟩ = some (.slice a m c) ∧ w'.cell? ⟨w.heap.size, 2, none⟩ = some (.slice b m d) := fun w' h => ⟨cell_be h f0, cell_be h f1, cell_be h f2⟩
    go_upto_region 4 with fail
    go_region_held3 (fun w' => w'.cell? ⟨w.heap.size, 0, none⟩ = some (.int .i64 p) ∧ w'.cell? ⟨w.heap.size, 1, none⟩ = some (.slice a m c) ∧ w'.cell? ⟨w.heap.size, 2, none⟩ = some (.slice b m d))
      (first | exact F2 _ (by assumption) | exact ⟨cell_set2 (cell_set2 (cell_set2 x0 (by simp) _) (by simp) _) (by simp) _, cell_set2 (cell_set2 (cell_set2 x1 (by simp) _) (by simp) _) (by simp) _, cell_set2 (cell_set2 (cell_set2 x2 (by simp) _) (by simp) _) (by simp) _⟩)
      (first
      | (go_at_call 164; refine (sizeOf_any _ _ _ _ _ _ _ _ hn).mono ?_; rintro e w3 ⟨rfl, hb3⟩; have hm3 := bnext hbd2 hb3)
      | (go_at_call 171; refine (partOf_any _ _ _ _ _ _ _ _ K m _ ((g1.below hm2).below hm3) ((g2.below hm2).below hm3) (by omega) (by omega) hn).mono ?_; rintro e w4 ⟨a', c', b', d', rfl, ho, hb4⟩; have hm5 := bnext hm3 hb4; obtain ⟨x0, x1, x2⟩ := F2 _ hm5
         have r0 := cell_be hm5 r0
         have r1 := cell_be hm5 r1
         have r2 := cell_be hm5 r2
         have y0 := (hm5.frozen (p := ⟨w.heap.size + 1, 0, none⟩) (by simp; omega)).trans y0
         have y1 := (hm5.frozen (p := ⟨w.heap.size + 1, 1, none⟩) (by simp; omega)).trans y1
         have y2 := (hm5.frozen (p := ⟨w.heap.size + 1, 2, none⟩) (by simp; omega)).trans y2))
    all_goals go_wp2
    rw [List.take_of_length_le (by rw [hl.out]; exact Nat.le_refl _), List.take_of_length_le (by rw [hl2.out]; exact Nat.le_refl _)] at ho
    have hz3 := hm3.size
    refine bodyPost_ret (v := .tuple #[jac p a' (m - K) c' b' (m - K) d', .int .i64 0]) (by simp [results, Try.results84, go_sem, r0, r1, r2]) rfl ?_
    have z4 := hb4.size
    replace hb4 := hm5
    have jz := ((ho.setLow (x := ⟨w.heap.size + 1, 0, none⟩) (by simp; omega) (.int .i64 p)).setLow (x := ⟨w.heap.size + 1, 1, none⟩) (by simp; omega) (.slice a' (m - K) c')).setLow (x := ⟨w.heap.size + 1, 2, none⟩) (by simp; omega) (.slice b' (m - K) d')
    exact ResJ.mk HQ.out HC.out (by rw [HV.out, jz.sl1.len]) (by rw [HU.out, jz.sl2.len]) (by rw [HV.out, HU.out]; simpa using jz.mono (lo' := w.heap.size) (by omega) (Nat.le_refl _)) (by rw [HV.out, jz.sl1.len]; omega) (by rw [HU.out, jz.sl2.len]; omega) ((((hB2.trans (hb4.mono (by omega))).setCell (by simp) _).setCell (by simp) _).setCell (by simp) _)
set_option maxRecDepth 100000 in
set_option maxHeartbeats 1600000 in
theorem specShiftJacobi (p : Int) (a : Option Addr) (n c : Nat) (xs : List Int) (b : Option Addr) (m d : Nat) (ys : List Int) (k : Int) (w : World) (hs : SL w a n c xs) (ht : SL w b m d ys) (hn : n ≤ 4000000) (hm : m ≤ 4000000) :
    Calls Try.prog 104 #[jac p a n c b m d, .int .i64 k] w (ResJ w (shJP p xs ys k) (shJV p xs ys k) (shJU p xs ys k) (shjC p xs ys k)) := by
  have hl := hide hs.len
  have hl2 := hide ht.len
  have hb0 := bl2 w (.cells #[.int .i64 p, .slice a n c, .slice b m d] 24) (.cells #[.int .i64 0, .slice none 0 0, .slice none 0 0] 24)
  have g1 := hs.below hb0
  have g2 := ht.below hb0
  have hcd : ∀ C, shjC p xs ys k = C → Hid (jcd p xs ys k 0 ((n : Int) - 1) = C) := fun C h => hide (by rw [← h, shjC, hl.out])
  have hw1 : IntKind.i64.wrap ((n : Int) - 1) = (n : Int) - 1 := IntWalk.i64_in _ (by omega)
  rcases jcd_cases p xs ys k 0 ((xs.length : Int) - 1) with hc | hc | ⟨hc, hj, q1, q2⟩
  · have HC := hide (show shjC p xs ys k = 1 from hc)
    have HV := hide (show shJV p xs ys k = [] by simp [shJV, HC.out])
    have HU := hide (show shJU p xs ys k = [] by simp [shJU, HC.out])
    have HQ := hide (show shJP p xs ys k = 0 by simp [shJP, HC.out])
    have Hcd := hcd _ HC.out
    clear hc hcd
    go_enter Try.func104, Try.ntmps104
    go_wp2_with fail
    refine (l03Code_any _ _ _ _ _ _ _ _ _ _ _ _ _ _ g1 g2 hn hm Hcd.out).mono ?_
    rintro e w2 ⟨rfl, hm2⟩
    have hB2 := bnext hb0 hm2
    have z2 := hm2.size
    simp at z2
    have r0 : w2.cell? ⟨w.heap.size + 1, 0, none⟩ = some (.int .i64 0) := cell_be hm2 (by simp [go_sem])
    have r1 : w2.cell? ⟨w.heap.size + 1, 1, none⟩ = some (.slice none 0 0) := cell_be hm2 (by simp [go_sem])
    have r2 : w2.cell? ⟨w.heap.size + 1, 2, none⟩ = some (.slice none 0 0) := cell_be hm2 (by simp [go_sem])
    have y0 : w2.frozen? ⟨w.heap.size + 1, 0, none⟩ = false := (hm2.frozen (by simp)).trans (by simp [go_sem])
    have y1 : w2.frozen? ⟨w.heap.size + 1, 1, none⟩ = false := (hm2.frozen (by simp)).trans (by simp [go_sem])
    have y2 : w2.frozen? ⟨w.heap.size + 1, 2, none⟩ = false := (hm2.frozen (by simp)).trans (by simp [go_sem])
    go_wp2
    refine bodyPost_ret (v := .tuple #[jac 0 none 0 0 none 0 0, .int .i64 1]) (by simp [results, Try.results104, go_sem, r0, r1, r2]) rfl ?_
    exact ResJ.nil HQ.out HV.out HU.out HC.out (((hB2.setCell (by simp) _).setCell (by simp) _).setCell (by simp) _)
  · have HC := hide (show shjC p xs ys k = 2 from hc)
    have HV := hide (show shJV p xs ys k = [] by simp [shJV, HC.out])
    have HU := hide (show shJU p xs ys k = [] by simp [shJU, HC.out])
    have HQ := hide (show shJP p xs ys k = 0 by simp [shJP, HC.out])
    have Hcd := hcd _ HC.out
    clear hc hcd
    go_enter Try.func104, Try.ntmps104
    go_wp2_with fail
    refine (l03Code_any _ _ _ _ _ _ _ _ _ _ _ _ _ _ g1 g2 hn hm Hcd.out).mono ?_
    rintro e w2 ⟨rfl, hm2⟩
    have hB2 := bnext hb0 hm2
    have z2 := hm2.size
    simp at z2
    have r0 : w2.cell? ⟨w.heap.size + 1, 0, none⟩ = some (.int .i64 0) := cell_be hm2 (by simp [go_sem])
    have r1 : w2.cell? ⟨w.heap.size + 1, 1, none⟩ = some (.slice none 0 0) := cell_be hm2 (by simp [go_sem])
    have r2 : w2.cell? ⟨w.heap.size + 1, 2, none⟩ = some (.slice none 0 0) := cell_be hm2 (by simp [go_sem])
    have y0 : w2.frozen? ⟨w.heap.size + 1, 0, none⟩ = false := (hm2.frozen (by simp)).trans (by simp [go_sem])
    have y1 : w2.frozen? ⟨w.heap.size + 1, 1, none⟩ = false := (hm2.frozen (by simp)).trans (by simp [go_sem])
    have y2 : w2.frozen? ⟨w.heap.size + 1, 2, none⟩ = false := (hm2.frozen (by simp)).trans (by simp [go_sem])
    go_wp2
    refine bodyPost_ret (v := .tuple #[jac 0 none 0 0 none 0 0, .int .i64 2]) (by simp [results, Try.results104, go_sem, r0, r1, r2]) rfl ?_
    exact ResJ.nil HQ.out HV.out HU.out HC.out (((hB2.setCell (by simp) _).setCell (by simp) _).setCell (by simp) _)
  · have HC := hide (show shjC p xs ys k = 0 from hc)
    have HV := hide (show shJV p xs ys k = xs.drop k.toNat by simp [shJV, HC.out])
    have HU := hide (show shJU p xs ys k = ys.drop k.toNat by simp [shJU, HC.out])
    have HQ := hide (show shJP p xs ys k = p by simp [shJP, HC.out])
    obtain ⟨_, n1, n2, n3, _, _⟩ := jacB_rng hj
    rw [hl.out] at n1 n2 n3
    rw [hl2.out] at n3
    subst n3
    rw [hl.out] at q2
    have Hcd := hcd _ HC.out
    clear hc hcd hj
    obtain ⟨K, rfl⟩ : ∃ K : Nat, k = K := ⟨k.toNat, by omega⟩
    rw [Int.toNat_natCast] at HV HU
    have hcc := hs.le
    have hdd := ht.le
    obtain ⟨b1, o1, rfl, hw1, _⟩ := hs.at (by omega)
    obtain ⟨b2, o2, rfl, hw2, _⟩ := ht.at (by omega)
    have k1 := g1.dropS K (by omega)
    have k2 := g2.dropS K (by omega)
    have e1 : ¬ c = K := by omega
    have e2 : ¬ d = K := by omega
    have i1 : (K : Int) ≤ (m : Int) := by omega
    go_enter Try.func104, Try.ntmps104
    go_wp2_with fail
    refine (l03Code_any _ _ _ _ _ _ _ _ _ _ _ _ _ _ g1 g2 hn hm Hcd.out).mono ?_
    rintro e w2 ⟨rfl, hm2⟩
    have hB2 := bnext hb0 hm2
    have z2 := hm2.size
    simp at z2
    have r0 : w2.cell? ⟨w.heap.size + 1, 0, none⟩ = some (.int .i64 0) := cell_be hm2 (by simp [go_sem])
    have r1 : w2.cell? ⟨w.heap.size + 1, 1, none⟩ = some (.slice none 0 0) := cell_be hm2 (by simp [go_sem])
    have r2 : w2.cell? ⟨w.heap.size + 1, 2, none⟩ = some (.slice none 0 0) := cell_be hm2 (by simp [go_sem])
    have y0 : w2.frozen? ⟨w.heap.size + 1, 0, none⟩ = false := (hm2.frozen (by simp)).trans (by simp [go_sem])
    have y1 : w2.frozen? ⟨w.heap.size + 1, 1, none⟩ = false := (hm2.frozen (by simp)).trans (by simp [go_sem])
    have y2 : w2.frozen? ⟨w.heap.size + 1, 2, none⟩ = false := (hm2.frozen (by simp)).trans (by simp [go_sem])
    have f0 : w2.cell? ⟨w.heap.size, 0, none⟩ = some (.int .i64 p) := cell_be hm2 (by simp [go_sem])
    have f1 : w2.cell? ⟨w.heap.size, 1, none⟩ = some (.slice (some ⟨b1, o1, none⟩) m c) := cell_be hm2 (by simp [go_sem])
    have f2 : w2.cell? ⟨w.heap.size, 2, none⟩ = some (.slice (some ⟨b2, o2, none⟩) m d) := cell_be hm2 (by simp [go_sem])
    have hbd2 := (Below.refl w2.heap.size w2).drew
    have F2 : ∀ w', Below w2.heap.size w2 w' → w'.cell? ⟨w.heap.size, 0, none⟩ = some (.int .i64 p) ∧ w'.cell? ⟨w.heap.size, 1, none⟩ = some (.slice (some ⟨b1, o1, none⟩) m c) ∧ w'.cell? ⟨w.heap.size, 2, none⟩ = some (.slice (some ⟨b2, o2, none⟩) m d) := fun w' h => ⟨cell_be h f0, cell_be h f1, cell_be h f2⟩
    go_upto_region 4 with fail
    go_region_held3 (fun w' => w'.cell? ⟨w.heap.size, 0, none⟩ = some (.int .i64 p) ∧ w'.cell? ⟨w.heap.size, 1, none⟩ = some (.slice (some ⟨b1, o1, none⟩) m c) ∧ w'.cell? ⟨w.heap.size, 2, none⟩ = some (.slice (some ⟨b2, o2, none⟩) m d))
      (first | exact F2 _ (by assumption) | exact ⟨cell_set2 (cell_set2 (cell_set2 x0 (by simp) _) (by simp) _) (by simp) _, cell_set2 (cell_set2 (cell_set2 x1 (by simp) _) (by simp) _) (by simp) _, cell_set2 (cell_set2 (cell_set2 x2 (by simp) _) (by simp) _) (by simp) _⟩)
      (first
      | (go_at_call 132; refine (l01Own_any _ _ _ (xs.drop K) _ ((k1.below hm2).below hbd2) (by omega)).mono ?_; rintro e w3 ⟨a', c', rfl, ho1, hb3⟩; have hm3 := bnext hbd2 hb3)
      | (go_at_call 132; refine (l01Own_any _ _ _ (ys.drop K) _ ((k2.below hm2).below hm3) (by omega)).mono ?_; rintro e w4 ⟨b', d', rfl, ho2, hb4⟩; have hm5 := bnext hm3 hb4; obtain ⟨x0, x1, x2⟩ := F2 _ hm5
         have r0 := cell_be hm5 r0
         have r1 := cell_be hm5 r1
         have r2 := cell_be hm5 r2
         have y0 := (hm5.frozen (p := ⟨w.heap.size + 1, 0, none⟩) (by simp; omega)).trans y0
         have y1 := (hm5.frozen (p := ⟨w.heap.size + 1, 1, none⟩) (by simp; omega)).trans y1
         have y2 := (hm5.frozen (p := ⟨w.heap.size + 1, 2, none⟩) (by simp; omega)).trans y2))
    all_goals go_wp2
    have hz3 := hm3.size
    have z4 := hb4.size
    have hz1 := hbd2.size
    have ho := JZ.two ((OZ.of ho1 k1.len.symm).below hb4) (OZ.of ho2 k2.len.symm) hz3 z4
    refine bodyPost_ret (v := .tuple #[jac p a' (m - K) c' b' (m - K) d', .int .i64 0]) (by simp [results, Try.results104, go_sem, r0, r1, r2]) rfl ?_
    replace hb4 := hm5
    have z5 := hb4.size
    have jz := ((ho.setLow (x := ⟨w.heap.size + 1, 0, none⟩) (by simp; omega) (.int .i64 p)).setLow (x := ⟨w.heap.size + 1, 1, none⟩) (by simp; omega) (.slice a' (m - K) c')).setLow (x := ⟨w.heap.size + 1, 2, none⟩) (by simp; omega) (.slice b' (m - K) d')
    exact ResJ.mk HQ.out HC.out (by rw [HV.out, jz.sl1.len]) (by rw [HU.out, jz.sl2.len]) (by rw [HV.out, HU.out]; simpa using jz.mono (lo' := w.heap.size) (by omega) (Nat.le_refl _)) (by rw [HV.out, jz.sl1.len]; omega) (by rw [HU.out, jz.sl2.len]; omega) ((((hB2.trans (hb4.mono (by omega))).setCell (by simp) _).setCell (by simp) _).setCell (by simp) _)
end Go.Proofs.Ytgkolocmlbnokaa
