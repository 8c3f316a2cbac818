/- Contracts: AffineMoments (model). -/
import Derived.Test.YtldcbdehgmmkjaaAn
import Derived.Test.YtldcbdehgmmkjaaRx
import Derived.Test.YtldcbdehgmmkjaaRw
import Derived.Test.YtldcbdehgmmkjaaUw
import Derived.Deep.RegionWith
import Derived.Deep.DeepCutAuto
namespace Go.Proofs.Ytldcbdehgmmkjaa
open Go.RowKit
set_option linter.unusedVariables false
set_option linter.unusedSimpArgs false

theorem fr_of {w w1 : World} {b o : Nat} {v : Value} (t : Below w.heap.size w w1) (h : w.cell? ⟨b, o, none⟩ = some v) (hf : w.frozen? ⟨b, o, none⟩ = false) : w1.frozen? ⟨b, o, none⟩ = false := (t.frozen (World.block_lt_of_cell? _ _ h)).trans hf
theorem litSL2q (W : World) (y z : Int) (x : Nat) (hx : x = W.heap.size) : SL (W.alloc (.cells #[.int .i64 y, .int .i64 z] 2)) (some ⟨x, 0, none⟩) 2 2 [y, z] := by subst hx; exact litSL2 W y z
theorem top2 (W : World) (a b : Value) (t : TypeId) : (W.alloc (.cells #[a, b] t)).cell? ⟨W.heap.size, 0, none⟩ = some a ∧ (W.alloc (.cells #[a, b] t)).cell? ⟨W.heap.size, 1, none⟩ = some b ∧ (W.alloc (.cells #[a, b] t)).frozen? ⟨W.heap.size, 1, none⟩ = false := ⟨by simp [go_sem], by simp [go_sem], by simp [go_sem]⟩
theorem ownLtA {B : Nat} {w : World} {a : Option Addr} {c : Nat} {ys : List Int} (h : Own B w a c ys) : ∀ g, blk a = some g → g < w.heap.size := fun g hg => by
  rcases h.shape with ⟨rfl, _, _⟩ | ⟨g', cur, rfl, _, hgc, _⟩
  · cases hg
  · cases hg
    exact lt_of_block hgc
theorem SL.otherX {w : World} {b n c g j : Nat} {xs : List Int} (h : SL w (some ⟨b, 0, none⟩) n c xs) (hne : b ≠ g) (u : Value) : SL (w.setCell ⟨g, j, none⟩ u) (some ⟨b, 0, none⟩) n c xs := by
  obtain ⟨h1, h2, h3⟩ := h
  refine ⟨h1, h2, ?_⟩
  rcases h3 with h3 | ⟨b', off, he, hc⟩
  · exact .inl h3
  · cases he
    exact .inr ⟨b, 0, rfl, fun i hi => cell_set2 (hc i hi) (fun e => hne (by simp at e; exact e.symm)) u⟩
theorem al {u w : World} {o : Obj} (hu : u = w.alloc o) : Below w.heap.size w u ∧ w.heap.size < u.heap.size := by subst hu; exact ⟨bl1 _ _, by simp⟩
theorem mE {u w : World} {B : Nat} (hu : u = w.alloc (.cells #[] 2)) (hB : B ≤ w.heap.size) : Own B u (some ⟨w.heap.size, 0, none⟩) 0 [] := by subst hu; exact own_lit0' w _ rfl B hB
theorem mP {u w : World} {B : Nat} (hu : u = w.alloc (.cells #[.int .i64 1] 2)) (hB : B ≤ w.heap.size) : Own B u (some ⟨w.heap.size, 0, none⟩) 1 [1] := by subst hu; exact own_lit1' w 1 _ rfl B hB
theorem mL {u w : World} {a b : Int} (hu : u = w.alloc (.cells #[.int .i64 b, .int .i64 a] 2)) : SL u (some ⟨w.heap.size, 0, none⟩) 2 2 [b, a] := by subst hu; exact litSL2q w b a _ rfl
theorem mQ {u w : World} {T : TypeId} (hu : u = w.alloc (.cells #[.int .i64 0, .slice none 0 0] T)) : u.cell? ⟨w.heap.size, 0, none⟩ = some (.int .i64 0) ∧ u.cell? ⟨w.heap.size, 1, none⟩ = some (.slice none 0 0) ∧ u.frozen? ⟨w.heap.size, 0, none⟩ = false ∧ u.frozen? ⟨w.heap.size, 1, none⟩ = false := by subst hu; exact ⟨by simp [go_sem], by simp [go_sem], by simp [go_sem], by simp [go_sem]⟩
section
variable {u w : World} {q : Nat} {x y v0 v1 : Value} (hu : u = (w.setCell ⟨q, 0, none⟩ x).setCell ⟨q, 1, none⟩ y)
include hu
theorem mS (d0 : w.cell? ⟨q, 0, none⟩ = some v0) (d1 : w.cell? ⟨q, 1, none⟩ = some v1) (e1 : w.frozen? ⟨q, 1, none⟩ = false) : u.cell? ⟨q, 0, none⟩ = some x ∧ u.cell? ⟨q, 1, none⟩ = some y ∧ u.frozen? ⟨q, 1, none⟩ = false ∧ w.heap.size ≤ u.heap.size ∧ u.heap.size ≤ w.heap.size := by
  subst hu
  exact ⟨cell_set2' (World.cell?_setCell_same _ _ _ d0) (by simp) _, World.cell?_setCell_same _ _ _ (cell_set2' d1 (by simp) _), by simpa using e1, by simp, by simp⟩
theorem mO {B : Nat} {a : Option Addr} {c : Nat} {ys : List Int} (h : Own B w a c ys) (hne : blk a ≠ some q) : Own B u a c ys := by
  subst hu
  exact (h.otherG hne _).otherG hne _
theorem mB {B : Nat} {w1 : World} (h : Below B w1 w) (hq : B ≤ q) : Below B w1 u := by
  subst hu
  exact (h.setCell hq _).setCell hq _
end
section
variable {P : Program} {md : Region.Mode} {Q : Exit → Act → World → Prop} {S : World → Prop} {L : Nat}
theorem anyE_4L (i j k m : Nat) {l : List Oper} {oi oj ok om : Oper} {n : Nat} {done : Array Bool} {a : Act} {w : World} (hr : Region.ready md l.toArray done = [i, j, k, m]) (hoi : l[i]? = some oi) (hoj : l[j]? = some oj) (hok : l[k]? = some ok) (hom : l[m]? = some om)
    (hi : ∀ K : Act → World → Prop, Shut (∀ a w, S w → anyE P md l.toArray Q S L n (done.setIfInBounds i true) a w → K a w) → if Region.wanted oi (yielded l.toArray a.tmps) = true then Oper.wp P oi a w K Q else K (a.put oi.dst undef) w)
    (hj : ∀ K : Act → World → Prop, Shut (∀ a w, S w → anyE P md l.toArray Q S L n (done.setIfInBounds j true) a w → K a w) → if Region.wanted oj (yielded l.toArray a.tmps) = true then Oper.wp P oj a w K Q else K (a.put oj.dst undef) w)
    (hk : ∀ K : Act → World → Prop, Shut (∀ a w, S w → anyE P md l.toArray Q S L n (done.setIfInBounds k true) a w → K a w) → if Region.wanted ok (yielded l.toArray a.tmps) = true then Oper.wp P ok a w K Q else K (a.put ok.dst undef) w)
    (hm : ∀ K : Act → World → Prop, Shut (∀ a w, S w → anyE P md l.toArray Q S L n (done.setIfInBounds m true) a w → K a w) → if Region.wanted om (yielded l.toArray a.tmps) = true then Oper.wp P om a w K Q else K (a.put om.dst undef) w) :
    anyE P md l.toArray Q S L (n + 1) done a w := by
  refine ⟨fun h0 => (by rw [h0] at hr; cases hr), fun q hq => ?_⟩
  rw [hr] at hq
  rw [List.mem_cons, List.mem_cons, List.mem_cons, List.mem_singleton] at hq
  rcases hq with rfl | rfl | rfl | rfl
  · exact Next.step hoi hi
  · exact Next.step hoj hj
  · exact Next.step hok hk
  · exact Next.step hom hm
end
/-- Moments in a variable (at q) whose list grows, beside two lists that stay. -/
def AF (B q : Nat) (w : World) (p : Int) (a : Option Addr) (n c : Nat) (zs : List Int) (pa : Option Addr) (pc : Nat) (f : List Int) (sa : Option Addr) (sc : Nat) (st : List Int) : Prop :=
  Own B w a c zs ∧ Own B w pa pc f ∧ Own B w sa sc st ∧ (w.cell? ⟨q, 0, none⟩ = some (.int .i64 p) ∧ w.cell? ⟨q, 1, none⟩ = some (.slice a n c) ∧ w.frozen? ⟨q, 1, none⟩ = false) ∧
    (blk a ≠ some q ∧ blk pa ≠ some q ∧ blk sa ≠ some q ∧ ∀ g, blk a = some g → blk pa ≠ some g ∧ blk sa ≠ some g) ∧ B ≤ q
set_option maxRecDepth 100000 in
set_option maxHeartbeats 3200000 in
theorem specAffineMoments (p : Int) (a1 : Option Addr) (n c1 : Nat) (xs : List Int) (a b : Int) (w : World) (hs : SL w a1 n c1 xs) (hn : n ≤ 4000000) :
    Calls Try.prog 6 #[mom p a1 n c1, .int .i64 a, .int .i64 b] w (ResM w (afmP p xs a b) (afmV p xs a b) (afmC p xs a b)) := by
  have hl := hide hs.len
  have hb0 := bl2 w (.cells #[.int .i64 p, .slice a1 n c1] 26) (.cells #[.int .i64 0, .slice none 0 0] 26)
  replace hs := hs.below hb0
  cases hm : momB p xs
  · have Hm := hide hm
    have HC := hide (show afmC p xs a b = 1 by simp [afmC, hm])
    have HV := hide (show afmV p xs a b = [] by simp [afmV, HC.out])
    have HQ := hide (show afmP p xs a b = 0 by simp [afmP, HC.out])
    clear hm
    go_enter Try.func6, Try.ntmps6
    go_wp2_with fail
    refine (l02Are_any _ _ _ _ _ _ hs hn).mono ?_
    rintro e w1 ⟨rfl, t1⟩
    rw [Hm.out]
    have f0 : w1.cell? ⟨w.heap.size, 0, none⟩ = some (.int .i64 p) := cell_be t1 (by simp [go_sem])
    have f1 : w1.cell? ⟨w.heap.size, 1, none⟩ = some (.slice a1 n c1) := cell_be t1 (by simp [go_sem])
    have r0 : w1.cell? ⟨w.heap.size + 1, 0, none⟩ = some (.int .i64 0) := cell_be t1 (by simp [go_sem])
    have yr0 : w1.frozen? ⟨w.heap.size + 1, 0, none⟩ = false := (t1.frozen (by simp)).trans (by simp [go_sem])
    have r1 : w1.cell? ⟨w.heap.size + 1, 1, none⟩ = some (.slice none 0 0) := cell_be t1 (by simp [go_sem])
    have yr1 : w1.frozen? ⟨w.heap.size + 1, 1, none⟩ = false := (t1.frozen (by simp)).trans (by simp [go_sem])
    replace hs := hs.below t1
    have B1 := bnext hb0 t1
    have z1 := B1.size
    try simp only [World.size_alloc] at z1
    go_wp2
    refine bodyPost_ret (v := .tuple #[mom 0 none 0 0, .int .i64 1]) (by simp [results, Try.results6, go_sem, r0, r1]) rfl ?_
    exact ResM.nil HQ.out HV.out HC.out ((B1.setCell (by first | omega | (simp; done) | (simp; omega) | exact Nat.le_refl _) _).setCell (by first | omega | (simp; done) | (simp; omega) | exact Nat.le_refl _) _)
  have Hm := hide hm
  obtain ⟨hpr, m1, m2, hx⟩ := momB_rng hm
  obtain ⟨hp, hp2⟩ := primeB_lo hpr
  rw [hl.out] at m1 m2
  have Hx := hide hx
  have Hpr := hide hpr
  have vp : IntKind.i64.wrap (p - 1) = p - 1 := IntWalk.i64_in _ (by omega)
  by_cases ha : 0 ≤ a ∧ a < p
  rotate_left
  · have HC := hide (show afmC p xs a b = 2 by simp only [afmC, hm, if_true]; rw [if_neg (fun h => ha h.1)])
    have HV := hide (show afmV p xs a b = [] by simp [afmV, HC.out])
    have HQ := hide (show afmP p xs a b = 0 by simp [afmP, HC.out])
    clear hm hx hpr
    go_enter Try.func6, Try.ntmps6
    go_wp2_with fail
    refine (l02Are_any _ _ _ _ _ _ hs hn).mono ?_
    rintro e w1 ⟨rfl, t1⟩
    rw [Hm.out]
    have f0 : w1.cell? ⟨w.heap.size, 0, none⟩ = some (.int .i64 p) := cell_be t1 (by simp [go_sem])
    have f1 : w1.cell? ⟨w.heap.size, 1, none⟩ = some (.slice a1 n c1) := cell_be t1 (by simp [go_sem])
    have r0 : w1.cell? ⟨w.heap.size + 1, 0, none⟩ = some (.int .i64 0) := cell_be t1 (by simp [go_sem])
    have yr0 : w1.frozen? ⟨w.heap.size + 1, 0, none⟩ = false := (t1.frozen (by simp)).trans (by simp [go_sem])
    have r1 : w1.cell? ⟨w.heap.size + 1, 1, none⟩ = some (.slice none 0 0) := cell_be t1 (by simp [go_sem])
    have yr1 : w1.frozen? ⟨w.heap.size + 1, 1, none⟩ = false := (t1.frozen (by simp)).trans (by simp [go_sem])
    replace hs := hs.below t1
    have B1 := bnext hb0 t1
    have z1 := B1.size
    try simp only [World.size_alloc] at z1
    go_wp2_with fail
    refine (l01In_no a 0 (p - 1) _ (fun h => ha ⟨h.1, by omega⟩)).mono ?_
    rintro e v2 ⟨rfl, rfl⟩
    go_wp2
    refine bodyPost_ret (v := .tuple #[mom 0 none 0 0, .int .i64 2]) (by simp [results, Try.results6, go_sem, r0, r1]) rfl ?_
    exact ResM.nil HQ.out HV.out HC.out ((B1.setCell (by first | omega | (simp; done) | (simp; omega) | exact Nat.le_refl _) _).setCell (by first | omega | (simp; done) | (simp; omega) | exact Nat.le_refl _) _)
  by_cases hb : 0 ≤ b ∧ b < p
  rotate_left
  · have HC := hide (show afmC p xs a b = 2 by simp only [afmC, hm, if_true]; rw [if_neg (fun h => hb h.2)])
    have HV := hide (show afmV p xs a b = [] by simp [afmV, HC.out])
    have HQ := hide (show afmP p xs a b = 0 by simp [afmP, HC.out])
    clear hm hx hpr
    go_enter Try.func6, Try.ntmps6
    go_wp2_with fail
    refine (l02Are_any _ _ _ _ _ _ hs hn).mono ?_
    rintro e w1 ⟨rfl, t1⟩
    rw [Hm.out]
    have f0 : w1.cell? ⟨w.heap.size, 0, none⟩ = some (.int .i64 p) := cell_be t1 (by simp [go_sem])
    have f1 : w1.cell? ⟨w.heap.size, 1, none⟩ = some (.slice a1 n c1) := cell_be t1 (by simp [go_sem])
    have r0 : w1.cell? ⟨w.heap.size + 1, 0, none⟩ = some (.int .i64 0) := cell_be t1 (by simp [go_sem])
    have yr0 : w1.frozen? ⟨w.heap.size + 1, 0, none⟩ = false := (t1.frozen (by simp)).trans (by simp [go_sem])
    have r1 : w1.cell? ⟨w.heap.size + 1, 1, none⟩ = some (.slice none 0 0) := cell_be t1 (by simp [go_sem])
    have yr1 : w1.frozen? ⟨w.heap.size + 1, 1, none⟩ = false := (t1.frozen (by simp)).trans (by simp [go_sem])
    replace hs := hs.below t1
    have B1 := bnext hb0 t1
    have z1 := B1.size
    try simp only [World.size_alloc] at z1
    go_wp2_with fail
    refine (l01In_yes a 0 (p - 1) _ ha.1 (by omega)).mono ?_
    rintro e v2 ⟨rfl, rfl⟩
    go_wp2_with fail
    refine (l01In_no b 0 (p - 1) _ (fun h => hb ⟨h.1, by omega⟩)).mono ?_
    rintro e v3 ⟨rfl, rfl⟩
    go_wp2
    refine bodyPost_ret (v := .tuple #[mom 0 none 0 0, .int .i64 2]) (by simp [results, Try.results6, go_sem, r0, r1]) rfl ?_
    exact ResM.nil HQ.out HV.out HC.out ((B1.setCell (by first | omega | (simp; done) | (simp; omega) | exact Nat.le_refl _) _).setCell (by first | omega | (simp; done) | (simp; omega) | exact Nat.le_refl _) _)
  have HC := hide (show afmC p xs a b = 0 by simp only [afmC, hm, if_true]; rw [if_pos ⟨ha, hb⟩])
  have HV := hide (show afmV p xs a b = tab n (afH p (trimL [b, a]) xs) by simp only [afmV, HC.out, if_true]; rw [hl.out])
  have HQ := hide (show afmP p xs a b = p by simp [afmP, HC.out])
  obtain ⟨sp1, sp2⟩ := step_poly hp ha.1 ha.2 hb.1 hb.2
  have Hs := hide sp1
  have htrim := fun (W : World) (x : Nat) (hsl : SL W (some ⟨x, 0, none⟩) 2 2 [b, a]) => l01Trim_any x 0 2 2 [b, a] W hsl (by omega)
  obtain ⟨st, hst⟩ : ∃ st, trimL [b, a] = st := ⟨_, rfl⟩
  rw [hst] at HV Hs sp2 htrim
  have HT := hide htrim
  clear hm hx hpr sp1 hst htrim
  go_enter Try.func6, Try.ntmps6
  go_wp2_with fail
  refine (l02Are_any _ _ _ _ _ _ hs hn).mono ?_
  rintro e w1 ⟨rfl, t1⟩
  rw [Hm.out]
  have f0 : w1.cell? ⟨w.heap.size, 0, none⟩ = some (.int .i64 p) := cell_be t1 (by simp [go_sem])
  have f1 : w1.cell? ⟨w.heap.size, 1, none⟩ = some (.slice a1 n c1) := cell_be t1 (by simp [go_sem])
  have r0 : w1.cell? ⟨w.heap.size + 1, 0, none⟩ = some (.int .i64 0) := cell_be t1 (by simp [go_sem])
  have yr0 : w1.frozen? ⟨w.heap.size + 1, 0, none⟩ = false := (t1.frozen (by simp)).trans (by simp [go_sem])
  have r1 : w1.cell? ⟨w.heap.size + 1, 1, none⟩ = some (.slice none 0 0) := cell_be t1 (by simp [go_sem])
  have yr1 : w1.frozen? ⟨w.heap.size + 1, 1, none⟩ = false := (t1.frozen (by simp)).trans (by simp [go_sem])
  replace hs := hs.below t1
  have B1 := bnext hb0 t1
  have z1 := B1.size
  try simp only [World.size_alloc] at z1
  go_wp2_with fail
  refine (l01In_yes a 0 (p - 1) _ ha.1 (by omega)).mono ?_
  rintro e v2 ⟨rfl, rfl⟩
  go_wp2_with fail
  refine (l01In_yes b 0 (p - 1) _ hb.1 (by omega)).mono ?_
  rintro e v3 ⟨rfl, rfl⟩
  clear vp
  have hzz : w.heap.size + 2 ≤ w1.heap.size := by have q := t1.size; simp at q; omega
  have F : ∀ w', Below w1.heap.size w1 w' → w'.cell? ⟨w.heap.size, 0, none⟩ = some (.int .i64 p) := fun w' h => cell_be h f0
  go_upto_region 5 with fail
  go_cut [8, 9, 10] (fun s8 s9 s10 wx => ∃ (q gE gP : Nat) (sa : Option Addr) (sc : Nat), s8 = .pointer (some ⟨q, 0, none⟩) ∧ s9 = .slice (some ⟨gP, 0, none⟩) 1 1 ∧ s10 = .slice sa st.length sc ∧ Hid (wx.cell? ⟨q, 0, none⟩ = some (.int .i64 p) ∧ wx.cell? ⟨q, 1, none⟩ = some (.slice (some ⟨gE, 0, none⟩) 0 0) ∧ wx.frozen? ⟨q, 1, none⟩ = false) ∧ Hid (gE ≠ q ∧ gP ≠ q ∧ gE ≠ gP ∧ w1.heap.size ≤ q ∧ ∀ g, blk sa = some g → g ≠ q ∧ g ≠ gE) ∧ Hid (Own w1.heap.size wx (some ⟨gE, 0, none⟩) 0 []) ∧ Hid (Own w1.heap.size wx (some ⟨gP, 0, none⟩) 1 [1]) ∧ Hid (Own w1.heap.size wx sa sc st) ∧ Hid (Below w1.heap.size w1 wx))
  case first =>
    have hm := (Below.refl w1.heap.size w1).drew
    refine region_E (fun w' => w'.cell? ⟨w.heap.size, 0, none⟩ = some (.int .i64 p)) 100 (by kernel_rfl) (F _ hm) ?_
    intro hS
    refine anyE_takeH 0 rfl (by kernel_rfl) (fun _ _ _ h => h) hS (by rfl) (v := ?_) ?_ ?_
    rotate_left
    · intro w' hSw; (try dsimp only at hSw); go_simp; (try with_reducible rfl)
    try simp only [Act.put, List.setIfInBounds_toArray, List.set_cons_zero, List.set_cons_succ]
    refine anyE_takeH 1 rfl (by kernel_rfl) (fun _ _ _ h => h) hS (by rfl) (v := ?_) ?_ ?_
    rotate_left
    · intro w' hSw; (try dsimp only at hSw); go_simp; (try with_reducible rfl)
    try simp only [Act.put, List.setIfInBounds_toArray, List.set_cons_zero, List.set_cons_succ]
    refine anyE_takeH 5 rfl (by kernel_rfl) (fun _ _ _ h => h) hS (by rfl) (v := ?_) ?_ ?_
    rotate_left
    · intro w' hSw; (try dsimp only at hSw); go_simp; (try with_reducible rfl)
    try simp only [Act.put, List.setIfInBounds_toArray, List.set_cons_zero, List.set_cons_succ]
    refine anyE_takeH 6 rfl (by kernel_rfl) (fun _ _ _ h => h) hS (by rfl) (v := ?_) ?_ ?_
    rotate_left
    · intro w' hSw; (try dsimp only at hSw); go_simp; (try with_reducible rfl)
    try simp only [Act.put, List.setIfInBounds_toArray, List.set_cons_zero, List.set_cons_succ]
    clear hS
    obtain ⟨u0, hu0⟩ : ∃ u, u = w1.drew := ⟨_, rfl⟩
    rw [← hu0] at hm ⊢
    clear hu0
    have hz0 := hm.size
    refine anyE_4L 2 4 7 9 (by kernel_rfl) rfl rfl rfl rfl (fun K' hK' => ?_) (fun K' hK' => ?_) (fun K' hK' => ?_) (fun K' hK' => ?_)
    · go_simp
      obtain ⟨u1, hu⟩ : ∃ u, u = u0.alloc (.cells #[] 2) := ⟨_, rfl⟩
      have ⟨lx, yu1⟩ := al hu
      have oE := mE hu hm.size
      rw [← hu]
      clear hu
      replace hm := bnext hm lx
      clear lx
      refine hK'.out _ _ (F _ hm) ?_
      clear hK' K'
      have hS2 := F _ hm
      refine anyE_takeH 3 rfl (by kernel_rfl) (fun _ _ _ h => h) hS2 (by rfl) (v := ?_) ?_ ?_
      rotate_left
      · intro w' hSw; (try dsimp only at hSw); go_simp; (try with_reducible rfl)
      try simp only [Act.put, List.setIfInBounds_toArray, List.set_cons_zero, List.set_cons_succ]
      clear hS2
      refine anyE_3L 4 7 9 (by kernel_rfl) rfl rfl rfl (fun K' hK' => ?_) (fun K' hK' => ?_) (fun K' hK' => ?_)
      · go_simp
        obtain ⟨u2, hu⟩ : ∃ u, u = u1.alloc (.cells #[.int .i64 1] 2) := ⟨_, rfl⟩
        have ⟨lx, yu2⟩ := al hu
        replace oE := oE.below lx
        have oP := mP hu hm.size
        rw [← hu]
        clear hu
        replace hm := bnext hm lx
        clear lx
        refine hK'.out _ _ (F _ hm) ?_
        clear hK' K'
        refine anyE_2L 7 9 (by kernel_rfl) rfl rfl (fun K' hK' => ?_) (fun K' hK' => ?_)
        · go_simp
          obtain ⟨u3, hu⟩ : ∃ u, u = u2.alloc (.cells #[.int .i64 b, .int .i64 a] 2) := ⟨_, rfl⟩
          have ⟨lx, yu3⟩ := al hu
          replace oE := oE.below lx
          replace oP := oP.below lx
          have sl := mL hu
          rw [← hu]
          clear hu
          replace hm := bnext hm lx
          clear lx
          refine hK'.out _ _ (F _ hm) ?_
          clear hK' K'
          refine anyE_2L 8 9 (by kernel_rfl) rfl rfl (fun K' hK' => ?_) (fun K' hK' => ?_)
          · go_simp
            refine (HT.out _ _ sl).mono ?_
            rintro e u4 ⟨sa, sc, rfl, oS, lx⟩
            dsimp only
            have gS := own_blk_ge oS
            have gS2 := ownLtA oS
            replace oS := oS.mono hm.size
            have yu4 := lx.size
            replace oE := oE.below lx
            replace oP := oP.below lx
            replace sl := sl.below lx
            replace hm := bnext hm lx
            clear lx sl
            refine hK'.out _ _ (F _ hm) ?_
            clear hK' K'
            refine anyE_oneL 9 (by kernel_rfl) rfl (fun K' hK' => ?_)
            go_simp
            obtain ⟨u5, hu⟩ : ∃ u, u = u4.alloc (.cells #[.int .i64 0, .slice none 0 0] 26) := ⟨_, rfl⟩
            have ⟨lx, yu5⟩ := al hu
            replace oE := oE.below lx
            replace oP := oP.below lx
            replace oS := oS.below lx
            have ⟨d0, d1, e0, e1⟩ := mQ hu
            rw [← hu]
            clear hu
            replace hm := bnext hm lx
            clear lx
            refine hK'.out _ _ (F _ hm) ?_
            clear hK' K'
            refine anyE_oneL 10 (by kernel_rfl) rfl (fun K' hK' => ?_)
            go_simp
            obtain ⟨u6, hu⟩ : ∃ u, u = (u5.setCell ⟨u4.heap.size, 0, none⟩ (.int .i64 p)).setCell ⟨u4.heap.size, 1, none⟩ (.slice (some ⟨u0.heap.size, 0, none⟩) 0 0) := ⟨_, rfl⟩
            have ⟨c0, c1, z1, yu6, yyu6⟩ := mS hu d0 d1 e1
            replace oE := mO hu oE (fun h => by simp [blk] at h; omega)
            replace oP := mO hu oP (fun h => by simp [blk] at h; omega)
            replace oS := mO hu oS (fun h => by have := gS _ h; have := gS2 _ h; omega)
            replace hm := mB hu hm (by omega)
            rw [← hu]
            clear hu d0 d1 e0 e1
            refine hK'.out _ _ (F _ hm) ?_
            clear hK' K'
            have hS2 := F _ hm
            refine anyE_takeH 11 rfl (by kernel_rfl) (fun _ _ _ h => h) hS2 (by rfl) (v := ?_) ?_ ?_
            rotate_left
            · intro w' hSw; (try dsimp only at hSw); go_simp; (try with_reducible rfl)
            try simp only [Act.put, List.setIfInBounds_toArray, List.set_cons_zero, List.set_cons_succ]
            refine anyE_takeH 12 rfl (by kernel_rfl) (fun _ _ _ h => h) hS2 (by rfl) (v := ?_) ?_ ?_
            rotate_left
            · intro w' hSw; (try dsimp only at hSw); go_simp; (try with_reducible rfl)
            try simp only [Act.put, List.setIfInBounds_toArray, List.set_cons_zero, List.set_cons_succ]
            clear hS2
            refine anyE_doneL (by kernel_rfl) ?_
            go_wp2_with fail
            go_meet
            exact ⟨u4.heap.size, u0.heap.size, u1.heap.size, sa, sc, rfl, rfl, rfl, hide ⟨c0, c1, z1⟩, hide ⟨by omega, by omega, by omega, by omega, fun g h => by have := gS g h; have := gS2 g h; constructor <;> omega⟩, hide oE, hide oP, hide oS, hide hm⟩
          · go_simp
            obtain ⟨u7, hu⟩ : ∃ u, u = u3.alloc (.cells #[.int .i64 0, .slice none 0 0] 26) := ⟨_, rfl⟩
            have ⟨lx, yu7⟩ := al hu
            replace oE := oE.below lx
            replace oP := oP.below lx
            replace sl := sl.below lx
            have ⟨d0, d1, e0, e1⟩ := mQ hu
            rw [← hu]
            clear hu
            replace hm := bnext hm lx
            clear lx
            refine hK'.out _ _ (F _ hm) ?_
            clear hK' K'
            refine anyE_oneL 8 (by kernel_rfl) rfl (fun K' hK' => ?_)
            go_simp
            refine (HT.out _ _ sl).mono ?_
            rintro e u8 ⟨sa, sc, rfl, oS, lx⟩
            dsimp only
            have gS := own_blk_ge oS
            have gS2 := ownLtA oS
            replace oS := oS.mono hm.size
            have yu8 := lx.size
            replace e0 := fr_of lx d0 e0
            replace e1 := fr_of lx d1 e1
            replace d0 := cell_be lx d0
            replace d1 := cell_be lx d1
            replace oE := oE.below lx
            replace oP := oP.below lx
            replace sl := sl.below lx
            replace hm := bnext hm lx
            clear lx sl
            refine hK'.out _ _ (F _ hm) ?_
            clear hK' K'
            refine anyE_oneL 10 (by kernel_rfl) rfl (fun K' hK' => ?_)
            go_simp
            obtain ⟨u9, hu⟩ : ∃ u, u = (u8.setCell ⟨u3.heap.size, 0, none⟩ (.int .i64 p)).setCell ⟨u3.heap.size, 1, none⟩ (.slice (some ⟨u0.heap.size, 0, none⟩) 0 0) := ⟨_, rfl⟩
            have ⟨c0, c1, z1, yu9, yyu9⟩ := mS hu d0 d1 e1
            replace oE := mO hu oE (fun h => by simp [blk] at h; omega)
            replace oP := mO hu oP (fun h => by simp [blk] at h; omega)
            replace oS := mO hu oS (fun h => by have := gS _ h; have := gS2 _ h; omega)
            replace hm := mB hu hm (by omega)
            rw [← hu]
            clear hu d0 d1 e0 e1
            refine hK'.out _ _ (F _ hm) ?_
            clear hK' K'
            have hS2 := F _ hm
            refine anyE_takeH 11 rfl (by kernel_rfl) (fun _ _ _ h => h) hS2 (by rfl) (v := ?_) ?_ ?_
            rotate_left
            · intro w' hSw; (try dsimp only at hSw); go_simp; (try with_reducible rfl)
            try simp only [Act.put, List.setIfInBounds_toArray, List.set_cons_zero, List.set_cons_succ]
            refine anyE_takeH 12 rfl (by kernel_rfl) (fun _ _ _ h => h) hS2 (by rfl) (v := ?_) ?_ ?_
            rotate_left
            · intro w' hSw; (try dsimp only at hSw); go_simp; (try with_reducible rfl)
            try simp only [Act.put, List.setIfInBounds_toArray, List.set_cons_zero, List.set_cons_succ]
            clear hS2
            refine anyE_doneL (by kernel_rfl) ?_
            go_wp2_with fail
            go_meet
            exact ⟨u3.heap.size, u0.heap.size, u1.heap.size, sa, sc, rfl, rfl, rfl, hide ⟨c0, c1, z1⟩, hide ⟨by omega, by omega, by omega, by omega, fun g h => by have := gS g h; have := gS2 g h; constructor <;> omega⟩, hide oE, hide oP, hide oS, hide hm⟩
        · go_simp
          obtain ⟨u10, hu⟩ : ∃ u, u = u2.alloc (.cells #[.int .i64 0, .slice none 0 0] 26) := ⟨_, rfl⟩
          have ⟨lx, yu10⟩ := al hu
          replace oE := oE.below lx
          replace oP := oP.below lx
          have ⟨d0, d1, e0, e1⟩ := mQ hu
          rw [← hu]
          clear hu
          replace hm := bnext hm lx
          clear lx
          refine hK'.out _ _ (F _ hm) ?_
          clear hK' K'
          refine anyE_oneL 7 (by kernel_rfl) rfl (fun K' hK' => ?_)
          go_simp
          obtain ⟨u11, hu⟩ : ∃ u, u = u10.alloc (.cells #[.int .i64 b, .int .i64 a] 2) := ⟨_, rfl⟩
          have ⟨lx, yu11⟩ := al hu
          replace e0 := fr_of lx d0 e0
          replace e1 := fr_of lx d1 e1
          replace d0 := cell_be lx d0
          replace d1 := cell_be lx d1
          replace oE := oE.below lx
          replace oP := oP.below lx
          have sl := mL hu
          rw [← hu]
          clear hu
          replace hm := bnext hm lx
          clear lx
          refine hK'.out _ _ (F _ hm) ?_
          clear hK' K'
          refine anyE_oneL 8 (by kernel_rfl) rfl (fun K' hK' => ?_)
          go_simp
          refine (HT.out _ _ sl).mono ?_
          rintro e u12 ⟨sa, sc, rfl, oS, lx⟩
          dsimp only
          have gS := own_blk_ge oS
          have gS2 := ownLtA oS
          replace oS := oS.mono hm.size
          have yu12 := lx.size
          replace e0 := fr_of lx d0 e0
          replace e1 := fr_of lx d1 e1
          replace d0 := cell_be lx d0
          replace d1 := cell_be lx d1
          replace oE := oE.below lx
          replace oP := oP.below lx
          replace sl := sl.below lx
          replace hm := bnext hm lx
          clear lx sl
          refine hK'.out _ _ (F _ hm) ?_
          clear hK' K'
          refine anyE_oneL 10 (by kernel_rfl) rfl (fun K' hK' => ?_)
          go_simp
          obtain ⟨u13, hu⟩ : ∃ u, u = (u12.setCell ⟨u2.heap.size, 0, none⟩ (.int .i64 p)).setCell ⟨u2.heap.size, 1, none⟩ (.slice (some ⟨u0.heap.size, 0, none⟩) 0 0) := ⟨_, rfl⟩
          have ⟨c0, c1, z1, yu13, yyu13⟩ := mS hu d0 d1 e1
          replace oE := mO hu oE (fun h => by simp [blk] at h; omega)
          replace oP := mO hu oP (fun h => by simp [blk] at h; omega)
          replace oS := mO hu oS (fun h => by have := gS _ h; have := gS2 _ h; omega)
          replace hm := mB hu hm (by omega)
          rw [← hu]
          clear hu d0 d1 e0 e1
          refine hK'.out _ _ (F _ hm) ?_
          clear hK' K'
          have hS2 := F _ hm
          refine anyE_takeH 11 rfl (by kernel_rfl) (fun _ _ _ h => h) hS2 (by rfl) (v := ?_) ?_ ?_
          rotate_left
          · intro w' hSw; (try dsimp only at hSw); go_simp; (try with_reducible rfl)
          try simp only [Act.put, List.setIfInBounds_toArray, List.set_cons_zero, List.set_cons_succ]
          refine anyE_takeH 12 rfl (by kernel_rfl) (fun _ _ _ h => h) hS2 (by rfl) (v := ?_) ?_ ?_
          rotate_left
          · intro w' hSw; (try dsimp only at hSw); go_simp; (try with_reducible rfl)
          try simp only [Act.put, List.setIfInBounds_toArray, List.set_cons_zero, List.set_cons_succ]
          clear hS2
          refine anyE_doneL (by kernel_rfl) ?_
          go_wp2_with fail
          go_meet
          exact ⟨u2.heap.size, u0.heap.size, u1.heap.size, sa, sc, rfl, rfl, rfl, hide ⟨c0, c1, z1⟩, hide ⟨by omega, by omega, by omega, by omega, fun g h => by have := gS g h; have := gS2 g h; constructor <;> omega⟩, hide oE, hide oP, hide oS, hide hm⟩
      · go_simp
        obtain ⟨u14, hu⟩ : ∃ u, u = u1.alloc (.cells #[.int .i64 b, .int .i64 a] 2) := ⟨_, rfl⟩
        have ⟨lx, yu14⟩ := al hu
        replace oE := oE.below lx
        have sl := mL hu
        rw [← hu]
        clear hu
        replace hm := bnext hm lx
        clear lx
        refine hK'.out _ _ (F _ hm) ?_
        clear hK' K'
        refine anyE_3L 4 8 9 (by kernel_rfl) rfl rfl rfl (fun K' hK' => ?_) (fun K' hK' => ?_) (fun K' hK' => ?_)
        · go_simp
          obtain ⟨u15, hu⟩ : ∃ u, u = u14.alloc (.cells #[.int .i64 1] 2) := ⟨_, rfl⟩
          have ⟨lx, yu15⟩ := al hu
          replace oE := oE.below lx
          replace sl := sl.below lx
          have oP := mP hu hm.size
          rw [← hu]
          clear hu
          replace hm := bnext hm lx
          clear lx
          refine hK'.out _ _ (F _ hm) ?_
          clear hK' K'
          refine anyE_2L 8 9 (by kernel_rfl) rfl rfl (fun K' hK' => ?_) (fun K' hK' => ?_)
          · go_simp
            refine (HT.out _ _ sl).mono ?_
            rintro e u16 ⟨sa, sc, rfl, oS, lx⟩
            dsimp only
            have gS := own_blk_ge oS
            have gS2 := ownLtA oS
            replace oS := oS.mono hm.size
            have yu16 := lx.size
            replace oE := oE.below lx
            replace oP := oP.below lx
            replace sl := sl.below lx
            replace hm := bnext hm lx
            clear lx sl
            refine hK'.out _ _ (F _ hm) ?_
            clear hK' K'
            refine anyE_oneL 9 (by kernel_rfl) rfl (fun K' hK' => ?_)
            go_simp
            obtain ⟨u17, hu⟩ : ∃ u, u = u16.alloc (.cells #[.int .i64 0, .slice none 0 0] 26) := ⟨_, rfl⟩
            have ⟨lx, yu17⟩ := al hu
            replace oE := oE.below lx
            replace oP := oP.below lx
            replace oS := oS.below lx
            have ⟨d0, d1, e0, e1⟩ := mQ hu
            rw [← hu]
            clear hu
            replace hm := bnext hm lx
            clear lx
            refine hK'.out _ _ (F _ hm) ?_
            clear hK' K'
            refine anyE_oneL 10 (by kernel_rfl) rfl (fun K' hK' => ?_)
            go_simp
            obtain ⟨u18, hu⟩ : ∃ u, u = (u17.setCell ⟨u16.heap.size, 0, none⟩ (.int .i64 p)).setCell ⟨u16.heap.size, 1, none⟩ (.slice (some ⟨u0.heap.size, 0, none⟩) 0 0) := ⟨_, rfl⟩
            have ⟨c0, c1, z1, yu18, yyu18⟩ := mS hu d0 d1 e1
            replace oE := mO hu oE (fun h => by simp [blk] at h; omega)
            replace oP := mO hu oP (fun h => by simp [blk] at h; omega)
            replace oS := mO hu oS (fun h => by have := gS _ h; have := gS2 _ h; omega)
            replace hm := mB hu hm (by omega)
            rw [← hu]
            clear hu d0 d1 e0 e1
            refine hK'.out _ _ (F _ hm) ?_
            clear hK' K'
            have hS2 := F _ hm
            refine anyE_takeH 11 rfl (by kernel_rfl) (fun _ _ _ h => h) hS2 (by rfl) (v := ?_) ?_ ?_
            rotate_left
            · intro w' hSw; (try dsimp only at hSw); go_simp; (try with_reducible rfl)
            try simp only [Act.put, List.setIfInBounds_toArray, List.set_cons_zero, List.set_cons_succ]
            refine anyE_takeH 12 rfl (by kernel_rfl) (fun _ _ _ h => h) hS2 (by rfl) (v := ?_) ?_ ?_
            rotate_left
            · intro w' hSw; (try dsimp only at hSw); go_simp; (try with_reducible rfl)
            try simp only [Act.put, List.setIfInBounds_toArray, List.set_cons_zero, List.set_cons_succ]
            clear hS2
            refine anyE_doneL (by kernel_rfl) ?_
            go_wp2_with fail
            go_meet
            exact ⟨u16.heap.size, u0.heap.size, u14.heap.size, sa, sc, rfl, rfl, rfl, hide ⟨c0, c1, z1⟩, hide ⟨by omega, by omega, by omega, by omega, fun g h => by have := gS g h; have := gS2 g h; constructor <;> omega⟩, hide oE, hide oP, hide oS, hide hm⟩
          · go_simp
            obtain ⟨u19, hu⟩ : ∃ u, u = u15.alloc (.cells #[.int .i64 0, .slice none 0 0] 26) := ⟨_, rfl⟩
            have ⟨lx, yu19⟩ := al hu
            replace oE := oE.below lx
            replace oP := oP.below lx
            replace sl := sl.below lx
            have ⟨d0, d1, e0, e1⟩ := mQ hu
            rw [← hu]
            clear hu
            replace hm := bnext hm lx
            clear lx
            refine hK'.out _ _ (F _ hm) ?_
            clear hK' K'
            refine anyE_oneL 8 (by kernel_rfl) rfl (fun K' hK' => ?_)
            go_simp
            refine (HT.out _ _ sl).mono ?_
            rintro e u20 ⟨sa, sc, rfl, oS, lx⟩
            dsimp only
            have gS := own_blk_ge oS
            have gS2 := ownLtA oS
            replace oS := oS.mono hm.size
            have yu20 := lx.size
            replace e0 := fr_of lx d0 e0
            replace e1 := fr_of lx d1 e1
            replace d0 := cell_be lx d0
            replace d1 := cell_be lx d1
            replace oE := oE.below lx
            replace oP := oP.below lx
            replace sl := sl.below lx
            replace hm := bnext hm lx
            clear lx sl
            refine hK'.out _ _ (F _ hm) ?_
            clear hK' K'
            refine anyE_oneL 10 (by kernel_rfl) rfl (fun K' hK' => ?_)
            go_simp
            obtain ⟨u21, hu⟩ : ∃ u, u = (u20.setCell ⟨u15.heap.size, 0, none⟩ (.int .i64 p)).setCell ⟨u15.heap.size, 1, none⟩ (.slice (some ⟨u0.heap.size, 0, none⟩) 0 0) := ⟨_, rfl⟩
            have ⟨c0, c1, z1, yu21, yyu21⟩ := mS hu d0 d1 e1
            replace oE := mO hu oE (fun h => by simp [blk] at h; omega)
            replace oP := mO hu oP (fun h => by simp [blk] at h; omega)
            replace oS := mO hu oS (fun h => by have := gS _ h; have := gS2 _ h; omega)
            replace hm := mB hu hm (by omega)
            rw [← hu]
            clear hu d0 d1 e0 e1
            refine hK'.out _ _ (F _ hm) ?_
            clear hK' K'
            have hS2 := F _ hm
            refine anyE_takeH 11 rfl (by kernel_rfl) (fun _ _ _ h => h) hS2 (by rfl) (v := ?_) ?_ ?_
            rotate_left
            · intro w' hSw; (try dsimp only at hSw); go_simp; (try with_reducible rfl)
            try simp only [Act.put, List.setIfInBounds_toArray, List.set_cons_zero, List.set_cons_succ]
            refine anyE_takeH 12 rfl (by kernel_rfl) (fun _ _ _ h => h) hS2 (by rfl) (v := ?_) ?_ ?_
            rotate_left
            · intro w' hSw; (try dsimp only at hSw); go_simp; (try with_reducible rfl)
            try simp only [Act.put, List.setIfInBounds_toArray, List.set_cons_zero, List.set_cons_succ]
            clear hS2
            refine anyE_doneL (by kernel_rfl) ?_
            go_wp2_with fail
            go_meet
            exact ⟨u15.heap.size, u0.heap.size, u14.heap.size, sa, sc, rfl, rfl, rfl, hide ⟨c0, c1, z1⟩, hide ⟨by omega, by omega, by omega, by omega, fun g h => by have := gS g h; have := gS2 g h; constructor <;> omega⟩, hide oE, hide oP, hide oS, hide hm⟩
        · go_simp
          refine (HT.out _ _ sl).mono ?_
          rintro e u22 ⟨sa, sc, rfl, oS, lx⟩
          dsimp only
          have gS := own_blk_ge oS
          have gS2 := ownLtA oS
          replace oS := oS.mono hm.size
          have yu22 := lx.size
          replace oE := oE.below lx
          replace sl := sl.below lx
          replace hm := bnext hm lx
          clear lx sl
          refine hK'.out _ _ (F _ hm) ?_
          clear hK' K'
          refine anyE_2L 4 9 (by kernel_rfl) rfl rfl (fun K' hK' => ?_) (fun K' hK' => ?_)
          · go_simp
            obtain ⟨u23, hu⟩ : ∃ u, u = u22.alloc (.cells #[.int .i64 1] 2) := ⟨_, rfl⟩
            have ⟨lx, yu23⟩ := al hu
            replace oE := oE.below lx
            replace oS := oS.below lx
            have oP := mP hu hm.size
            rw [← hu]
            clear hu
            replace hm := bnext hm lx
            clear lx
            refine hK'.out _ _ (F _ hm) ?_
            clear hK' K'
            refine anyE_oneL 9 (by kernel_rfl) rfl (fun K' hK' => ?_)
            go_simp
            obtain ⟨u24, hu⟩ : ∃ u, u = u23.alloc (.cells #[.int .i64 0, .slice none 0 0] 26) := ⟨_, rfl⟩
            have ⟨lx, yu24⟩ := al hu
            replace oE := oE.below lx
            replace oP := oP.below lx
            replace oS := oS.below lx
            have ⟨d0, d1, e0, e1⟩ := mQ hu
            rw [← hu]
            clear hu
            replace hm := bnext hm lx
            clear lx
            refine hK'.out _ _ (F _ hm) ?_
            clear hK' K'
            refine anyE_oneL 10 (by kernel_rfl) rfl (fun K' hK' => ?_)
            go_simp
            obtain ⟨u25, hu⟩ : ∃ u, u = (u24.setCell ⟨u23.heap.size, 0, none⟩ (.int .i64 p)).setCell ⟨u23.heap.size, 1, none⟩ (.slice (some ⟨u0.heap.size, 0, none⟩) 0 0) := ⟨_, rfl⟩
            have ⟨c0, c1, z1, yu25, yyu25⟩ := mS hu d0 d1 e1
            replace oE := mO hu oE (fun h => by simp [blk] at h; omega)
            replace oP := mO hu oP (fun h => by simp [blk] at h; omega)
            replace oS := mO hu oS (fun h => by have := gS _ h; have := gS2 _ h; omega)
            replace hm := mB hu hm (by omega)
            rw [← hu]
            clear hu d0 d1 e0 e1
            refine hK'.out _ _ (F _ hm) ?_
            clear hK' K'
            have hS2 := F _ hm
            refine anyE_takeH 11 rfl (by kernel_rfl) (fun _ _ _ h => h) hS2 (by rfl) (v := ?_) ?_ ?_
            rotate_left
            · intro w' hSw; (try dsimp only at hSw); go_simp; (try with_reducible rfl)
            try simp only [Act.put, List.setIfInBounds_toArray, List.set_cons_zero, List.set_cons_succ]
            refine anyE_takeH 12 rfl (by kernel_rfl) (fun _ _ _ h => h) hS2 (by rfl) (v := ?_) ?_ ?_
            rotate_left
            · intro w' hSw; (try dsimp only at hSw); go_simp; (try with_reducible rfl)
            try simp only [Act.put, List.setIfInBounds_toArray, List.set_cons_zero, List.set_cons_succ]
            clear hS2
            refine anyE_doneL (by kernel_rfl) ?_
            go_wp2_with fail
            go_meet
            exact ⟨u23.heap.size, u0.heap.size, u22.heap.size, sa, sc, rfl, rfl, rfl, hide ⟨c0, c1, z1⟩, hide ⟨by omega, by omega, by omega, by omega, fun g h => by have := gS g h; have := gS2 g h; constructor <;> omega⟩, hide oE, hide oP, hide oS, hide hm⟩
          · go_simp
            obtain ⟨u26, hu⟩ : ∃ u, u = u22.alloc (.cells #[.int .i64 0, .slice none 0 0] 26) := ⟨_, rfl⟩
            have ⟨lx, yu26⟩ := al hu
            replace oE := oE.below lx
            replace oS := oS.below lx
            have ⟨d0, d1, e0, e1⟩ := mQ hu
            rw [← hu]
            clear hu
            replace hm := bnext hm lx
            clear lx
            refine hK'.out _ _ (F _ hm) ?_
            clear hK' K'
            refine anyE_2L 4 10 (by kernel_rfl) rfl rfl (fun K' hK' => ?_) (fun K' hK' => ?_)
            · go_simp
              obtain ⟨u27, hu⟩ : ∃ u, u = u26.alloc (.cells #[.int .i64 1] 2) := ⟨_, rfl⟩
              have ⟨lx, yu27⟩ := al hu
              replace e0 := fr_of lx d0 e0
              replace e1 := fr_of lx d1 e1
              replace d0 := cell_be lx d0
              replace d1 := cell_be lx d1
              replace oE := oE.below lx
              replace oS := oS.below lx
              have oP := mP hu hm.size
              rw [← hu]
              clear hu
              replace hm := bnext hm lx
              clear lx
              refine hK'.out _ _ (F _ hm) ?_
              clear hK' K'
              refine anyE_oneL 10 (by kernel_rfl) rfl (fun K' hK' => ?_)
              go_simp
              obtain ⟨u28, hu⟩ : ∃ u, u = (u27.setCell ⟨u22.heap.size, 0, none⟩ (.int .i64 p)).setCell ⟨u22.heap.size, 1, none⟩ (.slice (some ⟨u0.heap.size, 0, none⟩) 0 0) := ⟨_, rfl⟩
              have ⟨c0, c1, z1, yu28, yyu28⟩ := mS hu d0 d1 e1
              replace oE := mO hu oE (fun h => by simp [blk] at h; omega)
              replace oP := mO hu oP (fun h => by simp [blk] at h; omega)
              replace oS := mO hu oS (fun h => by have := gS _ h; have := gS2 _ h; omega)
              replace hm := mB hu hm (by omega)
              rw [← hu]
              clear hu d0 d1 e0 e1
              refine hK'.out _ _ (F _ hm) ?_
              clear hK' K'
              have hS2 := F _ hm
              refine anyE_takeH 11 rfl (by kernel_rfl) (fun _ _ _ h => h) hS2 (by rfl) (v := ?_) ?_ ?_
              rotate_left
              · intro w' hSw; (try dsimp only at hSw); go_simp; (try with_reducible rfl)
              try simp only [Act.put, List.setIfInBounds_toArray, List.set_cons_zero, List.set_cons_succ]
              refine anyE_takeH 12 rfl (by kernel_rfl) (fun _ _ _ h => h) hS2 (by rfl) (v := ?_) ?_ ?_
              rotate_left
              · intro w' hSw; (try dsimp only at hSw); go_simp; (try with_reducible rfl)
              try simp only [Act.put, List.setIfInBounds_toArray, List.set_cons_zero, List.set_cons_succ]
              clear hS2
              refine anyE_doneL (by kernel_rfl) ?_
              go_wp2_with fail
              go_meet
              exact ⟨u22.heap.size, u0.heap.size, u26.heap.size, sa, sc, rfl, rfl, rfl, hide ⟨c0, c1, z1⟩, hide ⟨by omega, by omega, by omega, by omega, fun g h => by have := gS g h; have := gS2 g h; constructor <;> omega⟩, hide oE, hide oP, hide oS, hide hm⟩
            · go_simp
              obtain ⟨u29, hu⟩ : ∃ u, u = (u26.setCell ⟨u22.heap.size, 0, none⟩ (.int .i64 p)).setCell ⟨u22.heap.size, 1, none⟩ (.slice (some ⟨u0.heap.size, 0, none⟩) 0 0) := ⟨_, rfl⟩
              have ⟨c0, c1, z1, yu29, yyu29⟩ := mS hu d0 d1 e1
              replace oE := mO hu oE (fun h => by simp [blk] at h; omega)
              replace oS := mO hu oS (fun h => by have := gS _ h; have := gS2 _ h; omega)
              replace hm := mB hu hm (by omega)
              rw [← hu]
              clear hu d0 d1 e0 e1
              refine hK'.out _ _ (F _ hm) ?_
              clear hK' K'
              refine anyE_oneL 4 (by kernel_rfl) rfl (fun K' hK' => ?_)
              go_simp
              obtain ⟨u30, hu⟩ : ∃ u, u = u29.alloc (.cells #[.int .i64 1] 2) := ⟨_, rfl⟩
              have ⟨lx, yu30⟩ := al hu
              replace c0 := cell_be lx c0
              replace z1 := fr_of lx c1 z1
              replace c1 := cell_be lx c1
              replace oE := oE.below lx
              replace oS := oS.below lx
              have oP := mP hu hm.size
              rw [← hu]
              clear hu
              replace hm := bnext hm lx
              clear lx
              refine hK'.out _ _ (F _ hm) ?_
              clear hK' K'
              have hS2 := F _ hm
              refine anyE_takeH 11 rfl (by kernel_rfl) (fun _ _ _ h => h) hS2 (by rfl) (v := ?_) ?_ ?_
              rotate_left
              · intro w' hSw; (try dsimp only at hSw); go_simp; (try with_reducible rfl)
              try simp only [Act.put, List.setIfInBounds_toArray, List.set_cons_zero, List.set_cons_succ]
              refine anyE_takeH 12 rfl (by kernel_rfl) (fun _ _ _ h => h) hS2 (by rfl) (v := ?_) ?_ ?_
              rotate_left
              · intro w' hSw; (try dsimp only at hSw); go_simp; (try with_reducible rfl)
              try simp only [Act.put, List.setIfInBounds_toArray, List.set_cons_zero, List.set_cons_succ]
              clear hS2
              refine anyE_doneL (by kernel_rfl) ?_
              go_wp2_with fail
              go_meet
              exact ⟨u22.heap.size, u0.heap.size, u29.heap.size, sa, sc, rfl, rfl, rfl, hide ⟨c0, c1, z1⟩, hide ⟨by omega, by omega, by omega, by omega, fun g h => by have := gS g h; have := gS2 g h; constructor <;> omega⟩, hide oE, hide oP, hide oS, hide hm⟩
        · go_simp
          obtain ⟨u31, hu⟩ : ∃ u, u = u14.alloc (.cells #[.int .i64 0, .slice none 0 0] 26) := ⟨_, rfl⟩
          have ⟨lx, yu31⟩ := al hu
          replace oE := oE.below lx
          replace sl := sl.below lx
          have ⟨d0, d1, e0, e1⟩ := mQ hu
          rw [← hu]
          clear hu
          replace hm := bnext hm lx
          clear lx
          refine hK'.out _ _ (F _ hm) ?_
          clear hK' K'
          refine anyE_2L 4 8 (by kernel_rfl) rfl rfl (fun K' hK' => ?_) (fun K' hK' => ?_)
          · go_simp
            obtain ⟨u32, hu⟩ : ∃ u, u = u31.alloc (.cells #[.int .i64 1] 2) := ⟨_, rfl⟩
            have ⟨lx, yu32⟩ := al hu
            replace e0 := fr_of lx d0 e0
            replace e1 := fr_of lx d1 e1
            replace d0 := cell_be lx d0
            replace d1 := cell_be lx d1
            replace oE := oE.below lx
            replace sl := sl.below lx
            have oP := mP hu hm.size
            rw [← hu]
            clear hu
            replace hm := bnext hm lx
            clear lx
            refine hK'.out _ _ (F _ hm) ?_
            clear hK' K'
            refine anyE_oneL 8 (by kernel_rfl) rfl (fun K' hK' => ?_)
            go_simp
            refine (HT.out _ _ sl).mono ?_
            rintro e u33 ⟨sa, sc, rfl, oS, lx⟩
            dsimp only
            have gS := own_blk_ge oS
            have gS2 := ownLtA oS
            replace oS := oS.mono hm.size
            have yu33 := lx.size
            replace e0 := fr_of lx d0 e0
            replace e1 := fr_of lx d1 e1
            replace d0 := cell_be lx d0
            replace d1 := cell_be lx d1
            replace oE := oE.below lx
            replace oP := oP.below lx
            replace sl := sl.below lx
            replace hm := bnext hm lx
            clear lx sl
            refine hK'.out _ _ (F _ hm) ?_
            clear hK' K'
            refine anyE_oneL 10 (by kernel_rfl) rfl (fun K' hK' => ?_)
            go_simp
            obtain ⟨u34, hu⟩ : ∃ u, u = (u33.setCell ⟨u14.heap.size, 0, none⟩ (.int .i64 p)).setCell ⟨u14.heap.size, 1, none⟩ (.slice (some ⟨u0.heap.size, 0, none⟩) 0 0) := ⟨_, rfl⟩
            have ⟨c0, c1, z1, yu34, yyu34⟩ := mS hu d0 d1 e1
            replace oE := mO hu oE (fun h => by simp [blk] at h; omega)
            replace oP := mO hu oP (fun h => by simp [blk] at h; omega)
            replace oS := mO hu oS (fun h => by have := gS _ h; have := gS2 _ h; omega)
            replace hm := mB hu hm (by omega)
            rw [← hu]
            clear hu d0 d1 e0 e1
            refine hK'.out _ _ (F _ hm) ?_
            clear hK' K'
            have hS2 := F _ hm
            refine anyE_takeH 11 rfl (by kernel_rfl) (fun _ _ _ h => h) hS2 (by rfl) (v := ?_) ?_ ?_
            rotate_left
            · intro w' hSw; (try dsimp only at hSw); go_simp; (try with_reducible rfl)
            try simp only [Act.put, List.setIfInBounds_toArray, List.set_cons_zero, List.set_cons_succ]
            refine anyE_takeH 12 rfl (by kernel_rfl) (fun _ _ _ h => h) hS2 (by rfl) (v := ?_) ?_ ?_
            rotate_left
            · intro w' hSw; (try dsimp only at hSw); go_simp; (try with_reducible rfl)
            try simp only [Act.put, List.setIfInBounds_toArray, List.set_cons_zero, List.set_cons_succ]
            clear hS2
            refine anyE_doneL (by kernel_rfl) ?_
            go_wp2_with fail
            go_meet
            exact ⟨u14.heap.size, u0.heap.size, u31.heap.size, sa, sc, rfl, rfl, rfl, hide ⟨c0, c1, z1⟩, hide ⟨by omega, by omega, by omega, by omega, fun g h => by have := gS g h; have := gS2 g h; constructor <;> omega⟩, hide oE, hide oP, hide oS, hide hm⟩
          · go_simp
            refine (HT.out _ _ sl).mono ?_
            rintro e u35 ⟨sa, sc, rfl, oS, lx⟩
            dsimp only
            have gS := own_blk_ge oS
            have gS2 := ownLtA oS
            replace oS := oS.mono hm.size
            have yu35 := lx.size
            replace e0 := fr_of lx d0 e0
            replace e1 := fr_of lx d1 e1
            replace d0 := cell_be lx d0
            replace d1 := cell_be lx d1
            replace oE := oE.below lx
            replace sl := sl.below lx
            replace hm := bnext hm lx
            clear lx sl
            refine hK'.out _ _ (F _ hm) ?_
            clear hK' K'
            refine anyE_2L 4 10 (by kernel_rfl) rfl rfl (fun K' hK' => ?_) (fun K' hK' => ?_)
            · go_simp
              obtain ⟨u36, hu⟩ : ∃ u, u = u35.alloc (.cells #[.int .i64 1] 2) := ⟨_, rfl⟩
              have ⟨lx, yu36⟩ := al hu
              replace e0 := fr_of lx d0 e0
              replace e1 := fr_of lx d1 e1
              replace d0 := cell_be lx d0
              replace d1 := cell_be lx d1
              replace oE := oE.below lx
              replace oS := oS.below lx
              have oP := mP hu hm.size
              rw [← hu]
              clear hu
              replace hm := bnext hm lx
              clear lx
              refine hK'.out _ _ (F _ hm) ?_
              clear hK' K'
              refine anyE_oneL 10 (by kernel_rfl) rfl (fun K' hK' => ?_)
              go_simp
              obtain ⟨u37, hu⟩ : ∃ u, u = (u36.setCell ⟨u14.heap.size, 0, none⟩ (.int .i64 p)).setCell ⟨u14.heap.size, 1, none⟩ (.slice (some ⟨u0.heap.size, 0, none⟩) 0 0) := ⟨_, rfl⟩
              have ⟨c0, c1, z1, yu37, yyu37⟩ := mS hu d0 d1 e1
              replace oE := mO hu oE (fun h => by simp [blk] at h; omega)
              replace oP := mO hu oP (fun h => by simp [blk] at h; omega)
              replace oS := mO hu oS (fun h => by have := gS _ h; have := gS2 _ h; omega)
              replace hm := mB hu hm (by omega)
              rw [← hu]
              clear hu d0 d1 e0 e1
              refine hK'.out _ _ (F _ hm) ?_
              clear hK' K'
              have hS2 := F _ hm
              refine anyE_takeH 11 rfl (by kernel_rfl) (fun _ _ _ h => h) hS2 (by rfl) (v := ?_) ?_ ?_
              rotate_left
              · intro w' hSw; (try dsimp only at hSw); go_simp; (try with_reducible rfl)
              try simp only [Act.put, List.setIfInBounds_toArray, List.set_cons_zero, List.set_cons_succ]
              refine anyE_takeH 12 rfl (by kernel_rfl) (fun _ _ _ h => h) hS2 (by rfl) (v := ?_) ?_ ?_
              rotate_left
              · intro w' hSw; (try dsimp only at hSw); go_simp; (try with_reducible rfl)
              try simp only [Act.put, List.setIfInBounds_toArray, List.set_cons_zero, List.set_cons_succ]
              clear hS2
              refine anyE_doneL (by kernel_rfl) ?_
              go_wp2_with fail
              go_meet
              exact ⟨u14.heap.size, u0.heap.size, u35.heap.size, sa, sc, rfl, rfl, rfl, hide ⟨c0, c1, z1⟩, hide ⟨by omega, by omega, by omega, by omega, fun g h => by have := gS g h; have := gS2 g h; constructor <;> omega⟩, hide oE, hide oP, hide oS, hide hm⟩
            · go_simp
              obtain ⟨u38, hu⟩ : ∃ u, u = (u35.setCell ⟨u14.heap.size, 0, none⟩ (.int .i64 p)).setCell ⟨u14.heap.size, 1, none⟩ (.slice (some ⟨u0.heap.size, 0, none⟩) 0 0) := ⟨_, rfl⟩
              have ⟨c0, c1, z1, yu38, yyu38⟩ := mS hu d0 d1 e1
              replace oE := mO hu oE (fun h => by simp [blk] at h; omega)
              replace oS := mO hu oS (fun h => by have := gS _ h; have := gS2 _ h; omega)
              replace hm := mB hu hm (by omega)
              rw [← hu]
              clear hu d0 d1 e0 e1
              refine hK'.out _ _ (F _ hm) ?_
              clear hK' K'
              refine anyE_oneL 4 (by kernel_rfl) rfl (fun K' hK' => ?_)
              go_simp
              obtain ⟨u39, hu⟩ : ∃ u, u = u38.alloc (.cells #[.int .i64 1] 2) := ⟨_, rfl⟩
              have ⟨lx, yu39⟩ := al hu
              replace c0 := cell_be lx c0
              replace z1 := fr_of lx c1 z1
              replace c1 := cell_be lx c1
              replace oE := oE.below lx
              replace oS := oS.below lx
              have oP := mP hu hm.size
              rw [← hu]
              clear hu
              replace hm := bnext hm lx
              clear lx
              refine hK'.out _ _ (F _ hm) ?_
              clear hK' K'
              have hS2 := F _ hm
              refine anyE_takeH 11 rfl (by kernel_rfl) (fun _ _ _ h => h) hS2 (by rfl) (v := ?_) ?_ ?_
              rotate_left
              · intro w' hSw; (try dsimp only at hSw); go_simp; (try with_reducible rfl)
              try simp only [Act.put, List.setIfInBounds_toArray, List.set_cons_zero, List.set_cons_succ]
              refine anyE_takeH 12 rfl (by kernel_rfl) (fun _ _ _ h => h) hS2 (by rfl) (v := ?_) ?_ ?_
              rotate_left
              · intro w' hSw; (try dsimp only at hSw); go_simp; (try with_reducible rfl)
              try simp only [Act.put, List.setIfInBounds_toArray, List.set_cons_zero, List.set_cons_succ]
              clear hS2
              refine anyE_doneL (by kernel_rfl) ?_
              go_wp2_with fail
              go_meet
              exact ⟨u14.heap.size, u0.heap.size, u38.heap.size, sa, sc, rfl, rfl, rfl, hide ⟨c0, c1, z1⟩, hide ⟨by omega, by omega, by omega, by omega, fun g h => by have := gS g h; have := gS2 g h; constructor <;> omega⟩, hide oE, hide oP, hide oS, hide hm⟩
      · go_simp
        obtain ⟨u40, hu⟩ : ∃ u, u = u1.alloc (.cells #[.int .i64 0, .slice none 0 0] 26) := ⟨_, rfl⟩
        have ⟨lx, yu40⟩ := al hu
        replace oE := oE.below lx
        have ⟨d0, d1, e0, e1⟩ := mQ hu
        rw [← hu]
        clear hu
        replace hm := bnext hm lx
        clear lx
        refine hK'.out _ _ (F _ hm) ?_
        clear hK' K'
        refine anyE_2L 4 7 (by kernel_rfl) rfl rfl (fun K' hK' => ?_) (fun K' hK' => ?_)
        · go_simp
          obtain ⟨u41, hu⟩ : ∃ u, u = u40.alloc (.cells #[.int .i64 1] 2) := ⟨_, rfl⟩
          have ⟨lx, yu41⟩ := al hu
          replace e0 := fr_of lx d0 e0
          replace e1 := fr_of lx d1 e1
          replace d0 := cell_be lx d0
          replace d1 := cell_be lx d1
          replace oE := oE.below lx
          have oP := mP hu hm.size
          rw [← hu]
          clear hu
          replace hm := bnext hm lx
          clear lx
          refine hK'.out _ _ (F _ hm) ?_
          clear hK' K'
          refine anyE_oneL 7 (by kernel_rfl) rfl (fun K' hK' => ?_)
          go_simp
          obtain ⟨u42, hu⟩ : ∃ u, u = u41.alloc (.cells #[.int .i64 b, .int .i64 a] 2) := ⟨_, rfl⟩
          have ⟨lx, yu42⟩ := al hu
          replace e0 := fr_of lx d0 e0
          replace e1 := fr_of lx d1 e1
          replace d0 := cell_be lx d0
          replace d1 := cell_be lx d1
          replace oE := oE.below lx
          replace oP := oP.below lx
          have sl := mL hu
          rw [← hu]
          clear hu
          replace hm := bnext hm lx
          clear lx
          refine hK'.out _ _ (F _ hm) ?_
          clear hK' K'
          refine anyE_oneL 8 (by kernel_rfl) rfl (fun K' hK' => ?_)
          go_simp
          refine (HT.out _ _ sl).mono ?_
          rintro e u43 ⟨sa, sc, rfl, oS, lx⟩
          dsimp only
          have gS := own_blk_ge oS
          have gS2 := ownLtA oS
          replace oS := oS.mono hm.size
          have yu43 := lx.size
          replace e0 := fr_of lx d0 e0
          replace e1 := fr_of lx d1 e1
          replace d0 := cell_be lx d0
          replace d1 := cell_be lx d1
          replace oE := oE.below lx
          replace oP := oP.below lx
          replace sl := sl.below lx
          replace hm := bnext hm lx
          clear lx sl
          refine hK'.out _ _ (F _ hm) ?_
          clear hK' K'
          refine anyE_oneL 10 (by kernel_rfl) rfl (fun K' hK' => ?_)
          go_simp
          obtain ⟨u44, hu⟩ : ∃ u, u = (u43.setCell ⟨u1.heap.size, 0, none⟩ (.int .i64 p)).setCell ⟨u1.heap.size, 1, none⟩ (.slice (some ⟨u0.heap.size, 0, none⟩) 0 0) := ⟨_, rfl⟩
          have ⟨c0, c1, z1, yu44, yyu44⟩ := mS hu d0 d1 e1
          replace oE := mO hu oE (fun h => by simp [blk] at h; omega)
          replace oP := mO hu oP (fun h => by simp [blk] at h; omega)
          replace oS := mO hu oS (fun h => by have := gS _ h; have := gS2 _ h; omega)
          replace hm := mB hu hm (by omega)
          rw [← hu]
          clear hu d0 d1 e0 e1
          refine hK'.out _ _ (F _ hm) ?_
          clear hK' K'
          have hS2 := F _ hm
          refine anyE_takeH 11 rfl (by kernel_rfl) (fun _ _ _ h => h) hS2 (by rfl) (v := ?_) ?_ ?_
          rotate_left
          · intro w' hSw; (try dsimp only at hSw); go_simp; (try with_reducible rfl)
          try simp only [Act.put, List.setIfInBounds_toArray, List.set_cons_zero, List.set_cons_succ]
          refine anyE_takeH 12 rfl (by kernel_rfl) (fun _ _ _ h => h) hS2 (by rfl) (v := ?_) ?_ ?_
          rotate_left
          · intro w' hSw; (try dsimp only at hSw); go_simp; (try with_reducible rfl)
          try simp only [Act.put, List.setIfInBounds_toArray, List.set_cons_zero, List.set_cons_succ]
          clear hS2
          refine anyE_doneL (by kernel_rfl) ?_
          go_wp2_with fail
          go_meet
          exact ⟨u1.heap.size, u0.heap.size, u40.heap.size, sa, sc, rfl, rfl, rfl, hide ⟨c0, c1, z1⟩, hide ⟨by omega, by omega, by omega, by omega, fun g h => by have := gS g h; have := gS2 g h; constructor <;> omega⟩, hide oE, hide oP, hide oS, hide hm⟩
        · go_simp
          obtain ⟨u45, hu⟩ : ∃ u, u = u40.alloc (.cells #[.int .i64 b, .int .i64 a] 2) := ⟨_, rfl⟩
          have ⟨lx, yu45⟩ := al hu
          replace e0 := fr_of lx d0 e0
          replace e1 := fr_of lx d1 e1
          replace d0 := cell_be lx d0
          replace d1 := cell_be lx d1
          replace oE := oE.below lx
          have sl := mL hu
          rw [← hu]
          clear hu
          replace hm := bnext hm lx
          clear lx
          refine hK'.out _ _ (F _ hm) ?_
          clear hK' K'
          refine anyE_2L 4 8 (by kernel_rfl) rfl rfl (fun K' hK' => ?_) (fun K' hK' => ?_)
          · go_simp
            obtain ⟨u46, hu⟩ : ∃ u, u = u45.alloc (.cells #[.int .i64 1] 2) := ⟨_, rfl⟩
            have ⟨lx, yu46⟩ := al hu
            replace e0 := fr_of lx d0 e0
            replace e1 := fr_of lx d1 e1
            replace d0 := cell_be lx d0
            replace d1 := cell_be lx d1
            replace oE := oE.below lx
            replace sl := sl.below lx
            have oP := mP hu hm.size
            rw [← hu]
            clear hu
            replace hm := bnext hm lx
            clear lx
            refine hK'.out _ _ (F _ hm) ?_
            clear hK' K'
            refine anyE_oneL 8 (by kernel_rfl) rfl (fun K' hK' => ?_)
            go_simp
            refine (HT.out _ _ sl).mono ?_
            rintro e u47 ⟨sa, sc, rfl, oS, lx⟩
            dsimp only
            have gS := own_blk_ge oS
            have gS2 := ownLtA oS
            replace oS := oS.mono hm.size
            have yu47 := lx.size
            replace e0 := fr_of lx d0 e0
            replace e1 := fr_of lx d1 e1
            replace d0 := cell_be lx d0
            replace d1 := cell_be lx d1
            replace oE := oE.below lx
            replace oP := oP.below lx
            replace sl := sl.below lx
            replace hm := bnext hm lx
            clear lx sl
            refine hK'.out _ _ (F _ hm) ?_
            clear hK' K'
            refine anyE_oneL 10 (by kernel_rfl) rfl (fun K' hK' => ?_)
            go_simp
            obtain ⟨u48, hu⟩ : ∃ u, u = (u47.setCell ⟨u1.heap.size, 0, none⟩ (.int .i64 p)).setCell ⟨u1.heap.size, 1, none⟩ (.slice (some ⟨u0.heap.size, 0, none⟩) 0 0) := ⟨_, rfl⟩
            have ⟨c0, c1, z1, yu48, yyu48⟩ := mS hu d0 d1 e1
            replace oE := mO hu oE (fun h => by simp [blk] at h; omega)
            replace oP := mO hu oP (fun h => by simp [blk] at h; omega)
            replace oS := mO hu oS (fun h => by have := gS _ h; have := gS2 _ h; omega)
            replace hm := mB hu hm (by omega)
            rw [← hu]
            clear hu d0 d1 e0 e1
            refine hK'.out _ _ (F _ hm) ?_
            clear hK' K'
            have hS2 := F _ hm
            refine anyE_takeH 11 rfl (by kernel_rfl) (fun _ _ _ h => h) hS2 (by rfl) (v := ?_) ?_ ?_
            rotate_left
            · intro w' hSw; (try dsimp only at hSw); go_simp; (try with_reducible rfl)
            try simp only [Act.put, List.setIfInBounds_toArray, List.set_cons_zero, List.set_cons_succ]
            refine anyE_takeH 12 rfl (by kernel_rfl) (fun _ _ _ h => h) hS2 (by rfl) (v := ?_) ?_ ?_
            rotate_left
            · intro w' hSw; (try dsimp only at hSw); go_simp; (try with_reducible rfl)
            try simp only [Act.put, List.setIfInBounds_toArray, List.set_cons_zero, List.set_cons_succ]
            clear hS2
            refine anyE_doneL (by kernel_rfl) ?_
            go_wp2_with fail
            go_meet
            exact ⟨u1.heap.size, u0.heap.size, u45.heap.size, sa, sc, rfl, rfl, rfl, hide ⟨c0, c1, z1⟩, hide ⟨by omega, by omega, by omega, by omega, fun g h => by have := gS g h; have := gS2 g h; constructor <;> omega⟩, hide oE, hide oP, hide oS, hide hm⟩
          · go_simp
            refine (HT.out _ _ sl).mono ?_
            rintro e u49 ⟨sa, sc, rfl, oS, lx⟩
            dsimp only
            have gS := own_blk_ge oS
            have gS2 := ownLtA oS
            replace oS := oS.mono hm.size
            have yu49 := lx.size
            replace e0 := fr_of lx d0 e0
            replace e1 := fr_of lx d1 e1
            replace d0 := cell_be lx d0
            replace d1 := cell_be lx d1
            replace oE := oE.below lx
            replace sl := sl.below lx
            replace hm := bnext hm lx
            clear lx sl
            refine hK'.out _ _ (F _ hm) ?_
            clear hK' K'
            refine anyE_2L 4 10 (by kernel_rfl) rfl rfl (fun K' hK' => ?_) (fun K' hK' => ?_)
            · go_simp
              obtain ⟨u50, hu⟩ : ∃ u, u = u49.alloc (.cells #[.int .i64 1] 2) := ⟨_, rfl⟩
              have ⟨lx, yu50⟩ := al hu
              replace e0 := fr_of lx d0 e0
              replace e1 := fr_of lx d1 e1
              replace d0 := cell_be lx d0
              replace d1 := cell_be lx d1
              replace oE := oE.below lx
              replace oS := oS.below lx
              have oP := mP hu hm.size
              rw [← hu]
              clear hu
              replace hm := bnext hm lx
              clear lx
              refine hK'.out _ _ (F _ hm) ?_
              clear hK' K'
              refine anyE_oneL 10 (by kernel_rfl) rfl (fun K' hK' => ?_)
              go_simp
              obtain ⟨u51, hu⟩ : ∃ u, u = (u50.setCell ⟨u1.heap.size, 0, none⟩ (.int .i64 p)).setCell ⟨u1.heap.size, 1, none⟩ (.slice (some ⟨u0.heap.size, 0, none⟩) 0 0) := ⟨_, rfl⟩
              have ⟨c0, c1, z1, yu51, yyu51⟩ := mS hu d0 d1 e1
              replace oE := mO hu oE (fun h => by simp [blk] at h; omega)
              replace oP := mO hu oP (fun h => by simp [blk] at h; omega)
              replace oS := mO hu oS (fun h => by have := gS _ h; have := gS2 _ h; omega)
              replace hm := mB hu hm (by omega)
              rw [← hu]
              clear hu d0 d1 e0 e1
              refine hK'.out _ _ (F _ hm) ?_
              clear hK' K'
              have hS2 := F _ hm
              refine anyE_takeH 11 rfl (by kernel_rfl) (fun _ _ _ h => h) hS2 (by rfl) (v := ?_) ?_ ?_
              rotate_left
              · intro w' hSw; (try dsimp only at hSw); go_simp; (try with_reducible rfl)
              try simp only [Act.put, List.setIfInBounds_toArray, List.set_cons_zero, List.set_cons_succ]
              refine anyE_takeH 12 rfl (by kernel_rfl) (fun _ _ _ h => h) hS2 (by rfl) (v := ?_) ?_ ?_
              rotate_left
              · intro w' hSw; (try dsimp only at hSw); go_simp; (try with_reducible rfl)
              try simp only [Act.put, List.setIfInBounds_toArray, List.set_cons_zero, List.set_cons_succ]
              clear hS2
              refine anyE_doneL (by kernel_rfl) ?_
              go_wp2_with fail
              go_meet
              exact ⟨u1.heap.size, u0.heap.size, u49.heap.size, sa, sc, rfl, rfl, rfl, hide ⟨c0, c1, z1⟩, hide ⟨by omega, by omega, by omega, by omega, fun g h => by have := gS g h; have := gS2 g h; constructor <;> omega⟩, hide oE, hide oP, hide oS, hide hm⟩
            · go_simp
              obtain ⟨u52, hu⟩ : ∃ u, u = (u49.setCell ⟨u1.heap.size, 0, none⟩ (.int .i64 p)).setCell ⟨u1.heap.size, 1, none⟩ (.slice (some ⟨u0.heap.size, 0, none⟩) 0 0) := ⟨_, rfl⟩
              have ⟨c0, c1, z1, yu52, yyu52⟩ := mS hu d0 d1 e1
              replace oE := mO hu oE (fun h => by simp [blk] at h; omega)
              replace oS := mO hu oS (fun h => by have := gS _ h; have := gS2 _ h; omega)
              replace hm := mB hu hm (by omega)
              rw [← hu]
              clear hu d0 d1 e0 e1
              refine hK'.out _ _ (F _ hm) ?_
              clear hK' K'
              refine anyE_oneL 4 (by kernel_rfl) rfl (fun K' hK' => ?_)
              go_simp
              obtain ⟨u53, hu⟩ : ∃ u, u = u52.alloc (.cells #[.int .i64 1] 2) := ⟨_, rfl⟩
              have ⟨lx, yu53⟩ := al hu
              replace c0 := cell_be lx c0
              replace z1 := fr_of lx c1 z1
              replace c1 := cell_be lx c1
              replace oE := oE.below lx
              replace oS := oS.below lx
              have oP := mP hu hm.size
              rw [← hu]
              clear hu
              replace hm := bnext hm lx
              clear lx
              refine hK'.out _ _ (F _ hm) ?_
              clear hK' K'
              have hS2 := F _ hm
              refine anyE_takeH 11 rfl (by kernel_rfl) (fun _ _ _ h => h) hS2 (by rfl) (v := ?_) ?_ ?_
              rotate_left
              · intro w' hSw; (try dsimp only at hSw); go_simp; (try with_reducible rfl)
              try simp only [Act.put, List.setIfInBounds_toArray, List.set_cons_zero, List.set_cons_succ]
              refine anyE_takeH 12 rfl (by kernel_rfl) (fun _ _ _ h => h) hS2 (by rfl) (v := ?_) ?_ ?_
              rotate_left
              · intro w' hSw; (try dsimp only at hSw); go_simp; (try with_reducible rfl)
              try simp only [Act.put, List.setIfInBounds_toArray, List.set_cons_zero, List.set_cons_succ]
              clear hS2
              refine anyE_doneL (by kernel_rfl) ?_
              go_wp2_with fail
              go_meet
              exact ⟨u1.heap.size, u0.heap.size, u52.heap.size, sa, sc, rfl, rfl, rfl, hide ⟨c0, c1, z1⟩, hide ⟨by omega, by omega, by omega, by omega, fun g h => by have := gS g h; have := gS2 g h; constructor <;> omega⟩, hide oE, hide oP, hide oS, hide hm⟩
    · go_simp
      obtain ⟨u54, hu⟩ : ∃ u, u = u0.alloc (.cells #[.int .i64 1] 2) := ⟨_, rfl⟩
      have ⟨lx, yu54⟩ := al hu
      have oP := mP hu hm.size
      rw [← hu]
      clear hu
      replace hm := bnext hm lx
      clear lx
      refine hK'.out _ _ (F _ hm) ?_
      clear hK' K'
      refine anyE_3L 2 7 9 (by kernel_rfl) rfl rfl rfl (fun K' hK' => ?_) (fun K' hK' => ?_) (fun K' hK' => ?_)
      · go_simp
        obtain ⟨u55, hu⟩ : ∃ u, u = u54.alloc (.cells #[] 2) := ⟨_, rfl⟩
        have ⟨lx, yu55⟩ := al hu
        replace oP := oP.below lx
        have oE := mE hu hm.size
        rw [← hu]
        clear hu
        replace hm := bnext hm lx
        clear lx
        refine hK'.out _ _ (F _ hm) ?_
        clear hK' K'
        have hS2 := F _ hm
        refine anyE_takeH 3 rfl (by kernel_rfl) (fun _ _ _ h => h) hS2 (by rfl) (v := ?_) ?_ ?_
        rotate_left
        · intro w' hSw; (try dsimp only at hSw); go_simp; (try with_reducible rfl)
        try simp only [Act.put, List.setIfInBounds_toArray, List.set_cons_zero, List.set_cons_succ]
        clear hS2
        refine anyE_2L 7 9 (by kernel_rfl) rfl rfl (fun K' hK' => ?_) (fun K' hK' => ?_)
        · go_simp
          obtain ⟨u56, hu⟩ : ∃ u, u = u55.alloc (.cells #[.int .i64 b, .int .i64 a] 2) := ⟨_, rfl⟩
          have ⟨lx, yu56⟩ := al hu
          replace oE := oE.below lx
          replace oP := oP.below lx
          have sl := mL hu
          rw [← hu]
          clear hu
          replace hm := bnext hm lx
          clear lx
          refine hK'.out _ _ (F _ hm) ?_
          clear hK' K'
          refine anyE_2L 8 9 (by kernel_rfl) rfl rfl (fun K' hK' => ?_) (fun K' hK' => ?_)
          · go_simp
            refine (HT.out _ _ sl).mono ?_
            rintro e u57 ⟨sa, sc, rfl, oS, lx⟩
            dsimp only
            have gS := own_blk_ge oS
            have gS2 := ownLtA oS
            replace oS := oS.mono hm.size
            have yu57 := lx.size
            replace oE := oE.below lx
            replace oP := oP.below lx
            replace sl := sl.below lx
            replace hm := bnext hm lx
            clear lx sl
            refine hK'.out _ _ (F _ hm) ?_
            clear hK' K'
            refine anyE_oneL 9 (by kernel_rfl) rfl (fun K' hK' => ?_)
            go_simp
            obtain ⟨u58, hu⟩ : ∃ u, u = u57.alloc (.cells #[.int .i64 0, .slice none 0 0] 26) := ⟨_, rfl⟩
            have ⟨lx, yu58⟩ := al hu
            replace oE := oE.below lx
            replace oP := oP.below lx
            replace oS := oS.below lx
            have ⟨d0, d1, e0, e1⟩ := mQ hu
            rw [← hu]
            clear hu
            replace hm := bnext hm lx
            clear lx
            refine hK'.out _ _ (F _ hm) ?_
            clear hK' K'
            refine anyE_oneL 10 (by kernel_rfl) rfl (fun K' hK' => ?_)
            go_simp
            obtain ⟨u59, hu⟩ : ∃ u, u = (u58.setCell ⟨u57.heap.size, 0, none⟩ (.int .i64 p)).setCell ⟨u57.heap.size, 1, none⟩ (.slice (some ⟨u54.heap.size, 0, none⟩) 0 0) := ⟨_, rfl⟩
            have ⟨c0, c1, z1, yu59, yyu59⟩ := mS hu d0 d1 e1
            replace oE := mO hu oE (fun h => by simp [blk] at h; omega)
            replace oP := mO hu oP (fun h => by simp [blk] at h; omega)
            replace oS := mO hu oS (fun h => by have := gS _ h; have := gS2 _ h; omega)
            replace hm := mB hu hm (by omega)
            rw [← hu]
            clear hu d0 d1 e0 e1
            refine hK'.out _ _ (F _ hm) ?_
            clear hK' K'
            have hS2 := F _ hm
            refine anyE_takeH 11 rfl (by kernel_rfl) (fun _ _ _ h => h) hS2 (by rfl) (v := ?_) ?_ ?_
            rotate_left
            · intro w' hSw; (try dsimp only at hSw); go_simp; (try with_reducible rfl)
            try simp only [Act.put, List.setIfInBounds_toArray, List.set_cons_zero, List.set_cons_succ]
            refine anyE_takeH 12 rfl (by kernel_rfl) (fun _ _ _ h => h) hS2 (by rfl) (v := ?_) ?_ ?_
            rotate_left
            · intro w' hSw; (try dsimp only at hSw); go_simp; (try with_reducible rfl)
            try simp only [Act.put, List.setIfInBounds_toArray, List.set_cons_zero, List.set_cons_succ]
            clear hS2
            refine anyE_doneL (by kernel_rfl) ?_
            go_wp2_with fail
            go_meet
            exact ⟨u57.heap.size, u54.heap.size, u0.heap.size, sa, sc, rfl, rfl, rfl, hide ⟨c0, c1, z1⟩, hide ⟨by omega, by omega, by omega, by omega, fun g h => by have := gS g h; have := gS2 g h; constructor <;> omega⟩, hide oE, hide oP, hide oS, hide hm⟩
          · go_simp
            obtain ⟨u60, hu⟩ : ∃ u, u = u56.alloc (.cells #[.int .i64 0, .slice none 0 0] 26) := ⟨_, rfl⟩
            have ⟨lx, yu60⟩ := al hu
            replace oE := oE.below lx
            replace oP := oP.below lx
            replace sl := sl.below lx
            have ⟨d0, d1, e0, e1⟩ := mQ hu
            rw [← hu]
            clear hu
            replace hm := bnext hm lx
            clear lx
            refine hK'.out _ _ (F _ hm) ?_
            clear hK' K'
            refine anyE_oneL 8 (by kernel_rfl) rfl (fun K' hK' => ?_)
            go_simp
            refine (HT.out _ _ sl).mono ?_
            rintro e u61 ⟨sa, sc, rfl, oS, lx⟩
            dsimp only
            have gS := own_blk_ge oS
            have gS2 := ownLtA oS
            replace oS := oS.mono hm.size
            have yu61 := lx.size
            replace e0 := fr_of lx d0 e0
            replace e1 := fr_of lx d1 e1
            replace d0 := cell_be lx d0
            replace d1 := cell_be lx d1
            replace oE := oE.below lx
            replace oP := oP.below lx
            replace sl := sl.below lx
            replace hm := bnext hm lx
            clear lx sl
            refine hK'.out _ _ (F _ hm) ?_
            clear hK' K'
            refine anyE_oneL 10 (by kernel_rfl) rfl (fun K' hK' => ?_)
            go_simp
            obtain ⟨u62, hu⟩ : ∃ u, u = (u61.setCell ⟨u56.heap.size, 0, none⟩ (.int .i64 p)).setCell ⟨u56.heap.size, 1, none⟩ (.slice (some ⟨u54.heap.size, 0, none⟩) 0 0) := ⟨_, rfl⟩
            have ⟨c0, c1, z1, yu62, yyu62⟩ := mS hu d0 d1 e1
            replace oE := mO hu oE (fun h => by simp [blk] at h; omega)
            replace oP := mO hu oP (fun h => by simp [blk] at h; omega)
            replace oS := mO hu oS (fun h => by have := gS _ h; have := gS2 _ h; omega)
            replace hm := mB hu hm (by omega)
            rw [← hu]
            clear hu d0 d1 e0 e1
            refine hK'.out _ _ (F _ hm) ?_
            clear hK' K'
            have hS2 := F _ hm
            refine anyE_takeH 11 rfl (by kernel_rfl) (fun _ _ _ h => h) hS2 (by rfl) (v := ?_) ?_ ?_
            rotate_left
            · intro w' hSw; (try dsimp only at hSw); go_simp; (try with_reducible rfl)
            try simp only [Act.put, List.setIfInBounds_toArray, List.set_cons_zero, List.set_cons_succ]
            refine anyE_takeH 12 rfl (by kernel_rfl) (fun _ _ _ h => h) hS2 (by rfl) (v := ?_) ?_ ?_
            rotate_left
            · intro w' hSw; (try dsimp only at hSw); go_simp; (try with_reducible rfl)
            try simp only [Act.put, List.setIfInBounds_toArray, List.set_cons_zero, List.set_cons_succ]
            clear hS2
            refine anyE_doneL (by kernel_rfl) ?_
            go_wp2_with fail
            go_meet
            exact ⟨u56.heap.size, u54.heap.size, u0.heap.size, sa, sc, rfl, rfl, rfl, hide ⟨c0, c1, z1⟩, hide ⟨by omega, by omega, by omega, by omega, fun g h => by have := gS g h; have := gS2 g h; constructor <;> omega⟩, hide oE, hide oP, hide oS, hide hm⟩
        · go_simp
          obtain ⟨u63, hu⟩ : ∃ u, u = u55.alloc (.cells #[.int .i64 0, .slice none 0 0] 26) := ⟨_, rfl⟩
          have ⟨lx, yu63⟩ := al hu
          replace oE := oE.below lx
          replace oP := oP.below lx
          have ⟨d0, d1, e0, e1⟩ := mQ hu
          rw [← hu]
          clear hu
          replace hm := bnext hm lx
          clear lx
          refine hK'.out _ _ (F _ hm) ?_
          clear hK' K'
          refine anyE_oneL 7 (by kernel_rfl) rfl (fun K' hK' => ?_)
          go_simp
          obtain ⟨u64, hu⟩ : ∃ u, u = u63.alloc (.cells #[.int .i64 b, .int .i64 a] 2) := ⟨_, rfl⟩
          have ⟨lx, yu64⟩ := al hu
          replace e0 := fr_of lx d0 e0
          replace e1 := fr_of lx d1 e1
          replace d0 := cell_be lx d0
          replace d1 := cell_be lx d1
          replace oE := oE.below lx
          replace oP := oP.below lx
          have sl := mL hu
          rw [← hu]
          clear hu
          replace hm := bnext hm lx
          clear lx
          refine hK'.out _ _ (F _ hm) ?_
          clear hK' K'
          refine anyE_oneL 8 (by kernel_rfl) rfl (fun K' hK' => ?_)
          go_simp
          refine (HT.out _ _ sl).mono ?_
          rintro e u65 ⟨sa, sc, rfl, oS, lx⟩
          dsimp only
          have gS := own_blk_ge oS
          have gS2 := ownLtA oS
          replace oS := oS.mono hm.size
          have yu65 := lx.size
          replace e0 := fr_of lx d0 e0
          replace e1 := fr_of lx d1 e1
          replace d0 := cell_be lx d0
          replace d1 := cell_be lx d1
          replace oE := oE.below lx
          replace oP := oP.below lx
          replace sl := sl.below lx
          replace hm := bnext hm lx
          clear lx sl
          refine hK'.out _ _ (F _ hm) ?_
          clear hK' K'
          refine anyE_oneL 10 (by kernel_rfl) rfl (fun K' hK' => ?_)
          go_simp
          obtain ⟨u66, hu⟩ : ∃ u, u = (u65.setCell ⟨u55.heap.size, 0, none⟩ (.int .i64 p)).setCell ⟨u55.heap.size, 1, none⟩ (.slice (some ⟨u54.heap.size, 0, none⟩) 0 0) := ⟨_, rfl⟩
          have ⟨c0, c1, z1, yu66, yyu66⟩ := mS hu d0 d1 e1
          replace oE := mO hu oE (fun h => by simp [blk] at h; omega)
          replace oP := mO hu oP (fun h => by simp [blk] at h; omega)
          replace oS := mO hu oS (fun h => by have := gS _ h; have := gS2 _ h; omega)
          replace hm := mB hu hm (by omega)
          rw [← hu]
          clear hu d0 d1 e0 e1
          refine hK'.out _ _ (F _ hm) ?_
          clear hK' K'
          have hS2 := F _ hm
          refine anyE_takeH 11 rfl (by kernel_rfl) (fun _ _ _ h => h) hS2 (by rfl) (v := ?_) ?_ ?_
          rotate_left
          · intro w' hSw; (try dsimp only at hSw); go_simp; (try with_reducible rfl)
          try simp only [Act.put, List.setIfInBounds_toArray, List.set_cons_zero, List.set_cons_succ]
          refine anyE_takeH 12 rfl (by kernel_rfl) (fun _ _ _ h => h) hS2 (by rfl) (v := ?_) ?_ ?_
          rotate_left
          · intro w' hSw; (try dsimp only at hSw); go_simp; (try with_reducible rfl)
          try simp only [Act.put, List.setIfInBounds_toArray, List.set_cons_zero, List.set_cons_succ]
          clear hS2
          refine anyE_doneL (by kernel_rfl) ?_
          go_wp2_with fail
          go_meet
          exact ⟨u55.heap.size, u54.heap.size, u0.heap.size, sa, sc, rfl, rfl, rfl, hide ⟨c0, c1, z1⟩, hide ⟨by omega, by omega, by omega, by omega, fun g h => by have := gS g h; have := gS2 g h; constructor <;> omega⟩, hide oE, hide oP, hide oS, hide hm⟩
      · go_simp
        obtain ⟨u67, hu⟩ : ∃ u, u = u54.alloc (.cells #[.int .i64 b, .int .i64 a] 2) := ⟨_, rfl⟩
        have ⟨lx, yu67⟩ := al hu
        replace oP := oP.below lx
        have sl := mL hu
        rw [← hu]
        clear hu
        replace hm := bnext hm lx
        clear lx
        refine hK'.out _ _ (F _ hm) ?_
        clear hK' K'
        refine anyE_3L 2 8 9 (by kernel_rfl) rfl rfl rfl (fun K' hK' => ?_) (fun K' hK' => ?_) (fun K' hK' => ?_)
        · go_simp
          obtain ⟨u68, hu⟩ : ∃ u, u = u67.alloc (.cells #[] 2) := ⟨_, rfl⟩
          have ⟨lx, yu68⟩ := al hu
          replace oP := oP.below lx
          replace sl := sl.below lx
          have oE := mE hu hm.size
          rw [← hu]
          clear hu
          replace hm := bnext hm lx
          clear lx
          refine hK'.out _ _ (F _ hm) ?_
          clear hK' K'
          have hS2 := F _ hm
          refine anyE_takeH 3 rfl (by kernel_rfl) (fun _ _ _ h => h) hS2 (by rfl) (v := ?_) ?_ ?_
          rotate_left
          · intro w' hSw; (try dsimp only at hSw); go_simp; (try with_reducible rfl)
          try simp only [Act.put, List.setIfInBounds_toArray, List.set_cons_zero, List.set_cons_succ]
          clear hS2
          refine anyE_2L 8 9 (by kernel_rfl) rfl rfl (fun K' hK' => ?_) (fun K' hK' => ?_)
          · go_simp
            refine (HT.out _ _ sl).mono ?_
            rintro e u69 ⟨sa, sc, rfl, oS, lx⟩
            dsimp only
            have gS := own_blk_ge oS
            have gS2 := ownLtA oS
            replace oS := oS.mono hm.size
            have yu69 := lx.size
            replace oE := oE.below lx
            replace oP := oP.below lx
            replace sl := sl.below lx
            replace hm := bnext hm lx
            clear lx sl
            refine hK'.out _ _ (F _ hm) ?_
            clear hK' K'
            refine anyE_oneL 9 (by kernel_rfl) rfl (fun K' hK' => ?_)
            go_simp
            obtain ⟨u70, hu⟩ : ∃ u, u = u69.alloc (.cells #[.int .i64 0, .slice none 0 0] 26) := ⟨_, rfl⟩
            have ⟨lx, yu70⟩ := al hu
            replace oE := oE.below lx
            replace oP := oP.below lx
            replace oS := oS.below lx
            have ⟨d0, d1, e0, e1⟩ := mQ hu
            rw [← hu]
            clear hu
            replace hm := bnext hm lx
            clear lx
            refine hK'.out _ _ (F _ hm) ?_
            clear hK' K'
            refine anyE_oneL 10 (by kernel_rfl) rfl (fun K' hK' => ?_)
            go_simp
            obtain ⟨u71, hu⟩ : ∃ u, u = (u70.setCell ⟨u69.heap.size, 0, none⟩ (.int .i64 p)).setCell ⟨u69.heap.size, 1, none⟩ (.slice (some ⟨u67.heap.size, 0, none⟩) 0 0) := ⟨_, rfl⟩
            have ⟨c0, c1, z1, yu71, yyu71⟩ := mS hu d0 d1 e1
            replace oE := mO hu oE (fun h => by simp [blk] at h; omega)
            replace oP := mO hu oP (fun h => by simp [blk] at h; omega)
            replace oS := mO hu oS (fun h => by have := gS _ h; have := gS2 _ h; omega)
            replace hm := mB hu hm (by omega)
            rw [← hu]
            clear hu d0 d1 e0 e1
            refine hK'.out _ _ (F _ hm) ?_
            clear hK' K'
            have hS2 := F _ hm
            refine anyE_takeH 11 rfl (by kernel_rfl) (fun _ _ _ h => h) hS2 (by rfl) (v := ?_) ?_ ?_
            rotate_left
            · intro w' hSw; (try dsimp only at hSw); go_simp; (try with_reducible rfl)
            try simp only [Act.put, List.setIfInBounds_toArray, List.set_cons_zero, List.set_cons_succ]
            refine anyE_takeH 12 rfl (by kernel_rfl) (fun _ _ _ h => h) hS2 (by rfl) (v := ?_) ?_ ?_
            rotate_left
            · intro w' hSw; (try dsimp only at hSw); go_simp; (try with_reducible rfl)
            try simp only [Act.put, List.setIfInBounds_toArray, List.set_cons_zero, List.set_cons_succ]
            clear hS2
            refine anyE_doneL (by kernel_rfl) ?_
            go_wp2_with fail
            go_meet
            exact ⟨u69.heap.size, u67.heap.size, u0.heap.size, sa, sc, rfl, rfl, rfl, hide ⟨c0, c1, z1⟩, hide ⟨by omega, by omega, by omega, by omega, fun g h => by have := gS g h; have := gS2 g h; constructor <;> omega⟩, hide oE, hide oP, hide oS, hide hm⟩
          · go_simp
            obtain ⟨u72, hu⟩ : ∃ u, u = u68.alloc (.cells #[.int .i64 0, .slice none 0 0] 26) := ⟨_, rfl⟩
            have ⟨lx, yu72⟩ := al hu
            replace oE := oE.below lx
            replace oP := oP.below lx
            replace sl := sl.below lx
            have ⟨d0, d1, e0, e1⟩ := mQ hu
            rw [← hu]
            clear hu
            replace hm := bnext hm lx
            clear lx
            refine hK'.out _ _ (F _ hm) ?_
            clear hK' K'
            refine anyE_oneL 8 (by kernel_rfl) rfl (fun K' hK' => ?_)
            go_simp
            refine (HT.out _ _ sl).mono ?_
            rintro e u73 ⟨sa, sc, rfl, oS, lx⟩
            dsimp only
            have gS := own_blk_ge oS
            have gS2 := ownLtA oS
            replace oS := oS.mono hm.size
            have yu73 := lx.size
            replace e0 := fr_of lx d0 e0
            replace e1 := fr_of lx d1 e1
            replace d0 := cell_be lx d0
            replace d1 := cell_be lx d1
            replace oE := oE.below lx
            replace oP := oP.below lx
            replace sl := sl.below lx
            replace hm := bnext hm lx
            clear lx sl
            refine hK'.out _ _ (F _ hm) ?_
            clear hK' K'
            refine anyE_oneL 10 (by kernel_rfl) rfl (fun K' hK' => ?_)
            go_simp
            obtain ⟨u74, hu⟩ : ∃ u, u = (u73.setCell ⟨u68.heap.size, 0, none⟩ (.int .i64 p)).setCell ⟨u68.heap.size, 1, none⟩ (.slice (some ⟨u67.heap.size, 0, none⟩) 0 0) := ⟨_, rfl⟩
            have ⟨c0, c1, z1, yu74, yyu74⟩ := mS hu d0 d1 e1
            replace oE := mO hu oE (fun h => by simp [blk] at h; omega)
            replace oP := mO hu oP (fun h => by simp [blk] at h; omega)
            replace oS := mO hu oS (fun h => by have := gS _ h; have := gS2 _ h; omega)
            replace hm := mB hu hm (by omega)
            rw [← hu]
            clear hu d0 d1 e0 e1
            refine hK'.out _ _ (F _ hm) ?_
            clear hK' K'
            have hS2 := F _ hm
            refine anyE_takeH 11 rfl (by kernel_rfl) (fun _ _ _ h => h) hS2 (by rfl) (v := ?_) ?_ ?_
            rotate_left
            · intro w' hSw; (try dsimp only at hSw); go_simp; (try with_reducible rfl)
            try simp only [Act.put, List.setIfInBounds_toArray, List.set_cons_zero, List.set_cons_succ]
            refine anyE_takeH 12 rfl (by kernel_rfl) (fun _ _ _ h => h) hS2 (by rfl) (v := ?_) ?_ ?_
            rotate_left
            · intro w' hSw; (try dsimp only at hSw); go_simp; (try with_reducible rfl)
            try simp only [Act.put, List.setIfInBounds_toArray, List.set_cons_zero, List.set_cons_succ]
            clear hS2
            refine anyE_doneL (by kernel_rfl) ?_
            go_wp2_with fail
            go_meet
            exact ⟨u68.heap.size, u67.heap.size, u0.heap.size, sa, sc, rfl, rfl, rfl, hide ⟨c0, c1, z1⟩, hide ⟨by omega, by omega, by omega, by omega, fun g h => by have := gS g h; have := gS2 g h; constructor <;> omega⟩, hide oE, hide oP, hide oS, hide hm⟩
        · go_simp
          refine (HT.out _ _ sl).mono ?_
          rintro e u75 ⟨sa, sc, rfl, oS, lx⟩
          dsimp only
          have gS := own_blk_ge oS
          have gS2 := ownLtA oS
          replace oS := oS.mono hm.size
          have yu75 := lx.size
          replace oP := oP.below lx
          replace sl := sl.below lx
          replace hm := bnext hm lx
          clear lx sl
          refine hK'.out _ _ (F _ hm) ?_
          clear hK' K'
          refine anyE_2L 2 9 (by kernel_rfl) rfl rfl (fun K' hK' => ?_) (fun K' hK' => ?_)
          · go_simp
            obtain ⟨u76, hu⟩ : ∃ u, u = u75.alloc (.cells #[] 2) := ⟨_, rfl⟩
            have ⟨lx, yu76⟩ := al hu
            replace oP := oP.below lx
            replace oS := oS.below lx
            have oE := mE hu hm.size
            rw [← hu]
            clear hu
            replace hm := bnext hm lx
            clear lx
            refine hK'.out _ _ (F _ hm) ?_
            clear hK' K'
            have hS2 := F _ hm
            refine anyE_takeH 3 rfl (by kernel_rfl) (fun _ _ _ h => h) hS2 (by rfl) (v := ?_) ?_ ?_
            rotate_left
            · intro w' hSw; (try dsimp only at hSw); go_simp; (try with_reducible rfl)
            try simp only [Act.put, List.setIfInBounds_toArray, List.set_cons_zero, List.set_cons_succ]
            clear hS2
            refine anyE_oneL 9 (by kernel_rfl) rfl (fun K' hK' => ?_)
            go_simp
            obtain ⟨u77, hu⟩ : ∃ u, u = u76.alloc (.cells #[.int .i64 0, .slice none 0 0] 26) := ⟨_, rfl⟩
            have ⟨lx, yu77⟩ := al hu
            replace oE := oE.below lx
            replace oP := oP.below lx
            replace oS := oS.below lx
            have ⟨d0, d1, e0, e1⟩ := mQ hu
            rw [← hu]
            clear hu
            replace hm := bnext hm lx
            clear lx
            refine hK'.out _ _ (F _ hm) ?_
            clear hK' K'
            refine anyE_oneL 10 (by kernel_rfl) rfl (fun K' hK' => ?_)
            go_simp
            obtain ⟨u78, hu⟩ : ∃ u, u = (u77.setCell ⟨u76.heap.size, 0, none⟩ (.int .i64 p)).setCell ⟨u76.heap.size, 1, none⟩ (.slice (some ⟨u75.heap.size, 0, none⟩) 0 0) := ⟨_, rfl⟩
            have ⟨c0, c1, z1, yu78, yyu78⟩ := mS hu d0 d1 e1
            replace oE := mO hu oE (fun h => by simp [blk] at h; omega)
            replace oP := mO hu oP (fun h => by simp [blk] at h; omega)
            replace oS := mO hu oS (fun h => by have := gS _ h; have := gS2 _ h; omega)
            replace hm := mB hu hm (by omega)
            rw [← hu]
            clear hu d0 d1 e0 e1
            refine hK'.out _ _ (F _ hm) ?_
            clear hK' K'
            have hS2 := F _ hm
            refine anyE_takeH 11 rfl (by kernel_rfl) (fun _ _ _ h => h) hS2 (by rfl) (v := ?_) ?_ ?_
            rotate_left
            · intro w' hSw; (try dsimp only at hSw); go_simp; (try with_reducible rfl)
            try simp only [Act.put, List.setIfInBounds_toArray, List.set_cons_zero, List.set_cons_succ]
            refine anyE_takeH 12 rfl (by kernel_rfl) (fun _ _ _ h => h) hS2 (by rfl) (v := ?_) ?_ ?_
            rotate_left
            · intro w' hSw; (try dsimp only at hSw); go_simp; (try with_reducible rfl)
            try simp only [Act.put, List.setIfInBounds_toArray, List.set_cons_zero, List.set_cons_succ]
            clear hS2
            refine anyE_doneL (by kernel_rfl) ?_
            go_wp2_with fail
            go_meet
            exact ⟨u76.heap.size, u75.heap.size, u0.heap.size, sa, sc, rfl, rfl, rfl, hide ⟨c0, c1, z1⟩, hide ⟨by omega, by omega, by omega, by omega, fun g h => by have := gS g h; have := gS2 g h; constructor <;> omega⟩, hide oE, hide oP, hide oS, hide hm⟩
          · go_simp
            obtain ⟨u79, hu⟩ : ∃ u, u = u75.alloc (.cells #[.int .i64 0, .slice none 0 0] 26) := ⟨_, rfl⟩
            have ⟨lx, yu79⟩ := al hu
            replace oP := oP.below lx
            replace oS := oS.below lx
            have ⟨d0, d1, e0, e1⟩ := mQ hu
            rw [← hu]
            clear hu
            replace hm := bnext hm lx
            clear lx
            refine hK'.out _ _ (F _ hm) ?_
            clear hK' K'
            refine anyE_oneL 2 (by kernel_rfl) rfl (fun K' hK' => ?_)
            go_simp
            obtain ⟨u80, hu⟩ : ∃ u, u = u79.alloc (.cells #[] 2) := ⟨_, rfl⟩
            have ⟨lx, yu80⟩ := al hu
            replace e0 := fr_of lx d0 e0
            replace e1 := fr_of lx d1 e1
            replace d0 := cell_be lx d0
            replace d1 := cell_be lx d1
            replace oP := oP.below lx
            replace oS := oS.below lx
            have oE := mE hu hm.size
            rw [← hu]
            clear hu
            replace hm := bnext hm lx
            clear lx
            refine hK'.out _ _ (F _ hm) ?_
            clear hK' K'
            have hS2 := F _ hm
            refine anyE_takeH 3 rfl (by kernel_rfl) (fun _ _ _ h => h) hS2 (by rfl) (v := ?_) ?_ ?_
            rotate_left
            · intro w' hSw; (try dsimp only at hSw); go_simp; (try with_reducible rfl)
            try simp only [Act.put, List.setIfInBounds_toArray, List.set_cons_zero, List.set_cons_succ]
            clear hS2
            refine anyE_oneL 10 (by kernel_rfl) rfl (fun K' hK' => ?_)
            go_simp
            obtain ⟨u81, hu⟩ : ∃ u, u = (u80.setCell ⟨u75.heap.size, 0, none⟩ (.int .i64 p)).setCell ⟨u75.heap.size, 1, none⟩ (.slice (some ⟨u79.heap.size, 0, none⟩) 0 0) := ⟨_, rfl⟩
            have ⟨c0, c1, z1, yu81, yyu81⟩ := mS hu d0 d1 e1
            replace oE := mO hu oE (fun h => by simp [blk] at h; omega)
            replace oP := mO hu oP (fun h => by simp [blk] at h; omega)
            replace oS := mO hu oS (fun h => by have := gS _ h; have := gS2 _ h; omega)
            replace hm := mB hu hm (by omega)
            rw [← hu]
            clear hu d0 d1 e0 e1
            refine hK'.out _ _ (F _ hm) ?_
            clear hK' K'
            have hS2 := F _ hm
            refine anyE_takeH 11 rfl (by kernel_rfl) (fun _ _ _ h => h) hS2 (by rfl) (v := ?_) ?_ ?_
            rotate_left
            · intro w' hSw; (try dsimp only at hSw); go_simp; (try with_reducible rfl)
            try simp only [Act.put, List.setIfInBounds_toArray, List.set_cons_zero, List.set_cons_succ]
            refine anyE_takeH 12 rfl (by kernel_rfl) (fun _ _ _ h => h) hS2 (by rfl) (v := ?_) ?_ ?_
            rotate_left
            · intro w' hSw; (try dsimp only at hSw); go_simp; (try with_reducible rfl)
            try simp only [Act.put, List.setIfInBounds_toArray, List.set_cons_zero, List.set_cons_succ]
            clear hS2
            refine anyE_doneL (by kernel_rfl) ?_
            go_wp2_with fail
            go_meet
            exact ⟨u75.heap.size, u79.heap.size, u0.heap.size, sa, sc, rfl, rfl, rfl, hide ⟨c0, c1, z1⟩, hide ⟨by omega, by omega, by omega, by omega, fun g h => by have := gS g h; have := gS2 g h; constructor <;> omega⟩, hide oE, hide oP, hide oS, hide hm⟩
        · go_simp
          obtain ⟨u82, hu⟩ : ∃ u, u = u67.alloc (.cells #[.int .i64 0, .slice none 0 0] 26) := ⟨_, rfl⟩
          have ⟨lx, yu82⟩ := al hu
          replace oP := oP.below lx
          replace sl := sl.below lx
          have ⟨d0, d1, e0, e1⟩ := mQ hu
          rw [← hu]
          clear hu
          replace hm := bnext hm lx
          clear lx
          refine hK'.out _ _ (F _ hm) ?_
          clear hK' K'
          refine anyE_2L 2 8 (by kernel_rfl) rfl rfl (fun K' hK' => ?_) (fun K' hK' => ?_)
          · go_simp
            obtain ⟨u83, hu⟩ : ∃ u, u = u82.alloc (.cells #[] 2) := ⟨_, rfl⟩
            have ⟨lx, yu83⟩ := al hu
            replace e0 := fr_of lx d0 e0
            replace e1 := fr_of lx d1 e1
            replace d0 := cell_be lx d0
            replace d1 := cell_be lx d1
            replace oP := oP.below lx
            replace sl := sl.below lx
            have oE := mE hu hm.size
            rw [← hu]
            clear hu
            replace hm := bnext hm lx
            clear lx
            refine hK'.out _ _ (F _ hm) ?_
            clear hK' K'
            have hS2 := F _ hm
            refine anyE_takeH 3 rfl (by kernel_rfl) (fun _ _ _ h => h) hS2 (by rfl) (v := ?_) ?_ ?_
            rotate_left
            · intro w' hSw; (try dsimp only at hSw); go_simp; (try with_reducible rfl)
            try simp only [Act.put, List.setIfInBounds_toArray, List.set_cons_zero, List.set_cons_succ]
            clear hS2
            refine anyE_oneL 8 (by kernel_rfl) rfl (fun K' hK' => ?_)
            go_simp
            refine (HT.out _ _ sl).mono ?_
            rintro e u84 ⟨sa, sc, rfl, oS, lx⟩
            dsimp only
            have gS := own_blk_ge oS
            have gS2 := ownLtA oS
            replace oS := oS.mono hm.size
            have yu84 := lx.size
            replace e0 := fr_of lx d0 e0
            replace e1 := fr_of lx d1 e1
            replace d0 := cell_be lx d0
            replace d1 := cell_be lx d1
            replace oE := oE.below lx
            replace oP := oP.below lx
            replace sl := sl.below lx
            replace hm := bnext hm lx
            clear lx sl
            refine hK'.out _ _ (F _ hm) ?_
            clear hK' K'
            refine anyE_oneL 10 (by kernel_rfl) rfl (fun K' hK' => ?_)
            go_simp
            obtain ⟨u85, hu⟩ : ∃ u, u = (u84.setCell ⟨u67.heap.size, 0, none⟩ (.int .i64 p)).setCell ⟨u67.heap.size, 1, none⟩ (.slice (some ⟨u82.heap.size, 0, none⟩) 0 0) := ⟨_, rfl⟩
            have ⟨c0, c1, z1, yu85, yyu85⟩ := mS hu d0 d1 e1
            replace oE := mO hu oE (fun h => by simp [blk] at h; omega)
            replace oP := mO hu oP (fun h => by simp [blk] at h; omega)
            replace oS := mO hu oS (fun h => by have := gS _ h; have := gS2 _ h; omega)
            replace hm := mB hu hm (by omega)
            rw [← hu]
            clear hu d0 d1 e0 e1
            refine hK'.out _ _ (F _ hm) ?_
            clear hK' K'
            have hS2 := F _ hm
            refine anyE_takeH 11 rfl (by kernel_rfl) (fun _ _ _ h => h) hS2 (by rfl) (v := ?_) ?_ ?_
            rotate_left
            · intro w' hSw; (try dsimp only at hSw); go_simp; (try with_reducible rfl)
            try simp only [Act.put, List.setIfInBounds_toArray, List.set_cons_zero, List.set_cons_succ]
            refine anyE_takeH 12 rfl (by kernel_rfl) (fun _ _ _ h => h) hS2 (by rfl) (v := ?_) ?_ ?_
            rotate_left
            · intro w' hSw; (try dsimp only at hSw); go_simp; (try with_reducible rfl)
            try simp only [Act.put, List.setIfInBounds_toArray, List.set_cons_zero, List.set_cons_succ]
            clear hS2
            refine anyE_doneL (by kernel_rfl) ?_
            go_wp2_with fail
            go_meet
            exact ⟨u67.heap.size, u82.heap.size, u0.heap.size, sa, sc, rfl, rfl, rfl, hide ⟨c0, c1, z1⟩, hide ⟨by omega, by omega, by omega, by omega, fun g h => by have := gS g h; have := gS2 g h; constructor <;> omega⟩, hide oE, hide oP, hide oS, hide hm⟩
          · go_simp
            refine (HT.out _ _ sl).mono ?_
            rintro e u86 ⟨sa, sc, rfl, oS, lx⟩
            dsimp only
            have gS := own_blk_ge oS
            have gS2 := ownLtA oS
            replace oS := oS.mono hm.size
            have yu86 := lx.size
            replace e0 := fr_of lx d0 e0
            replace e1 := fr_of lx d1 e1
            replace d0 := cell_be lx d0
            replace d1 := cell_be lx d1
            replace oP := oP.below lx
            replace sl := sl.below lx
            replace hm := bnext hm lx
            clear lx sl
            refine hK'.out _ _ (F _ hm) ?_
            clear hK' K'
            refine anyE_oneL 2 (by kernel_rfl) rfl (fun K' hK' => ?_)
            go_simp
            obtain ⟨u87, hu⟩ : ∃ u, u = u86.alloc (.cells #[] 2) := ⟨_, rfl⟩
            have ⟨lx, yu87⟩ := al hu
            replace e0 := fr_of lx d0 e0
            replace e1 := fr_of lx d1 e1
            replace d0 := cell_be lx d0
            replace d1 := cell_be lx d1
            replace oP := oP.below lx
            replace oS := oS.below lx
            have oE := mE hu hm.size
            rw [← hu]
            clear hu
            replace hm := bnext hm lx
            clear lx
            refine hK'.out _ _ (F _ hm) ?_
            clear hK' K'
            have hS2 := F _ hm
            refine anyE_takeH 3 rfl (by kernel_rfl) (fun _ _ _ h => h) hS2 (by rfl) (v := ?_) ?_ ?_
            rotate_left
            · intro w' hSw; (try dsimp only at hSw); go_simp; (try with_reducible rfl)
            try simp only [Act.put, List.setIfInBounds_toArray, List.set_cons_zero, List.set_cons_succ]
            clear hS2
            refine anyE_oneL 10 (by kernel_rfl) rfl (fun K' hK' => ?_)
            go_simp
            obtain ⟨u88, hu⟩ : ∃ u, u = (u87.setCell ⟨u67.heap.size, 0, none⟩ (.int .i64 p)).setCell ⟨u67.heap.size, 1, none⟩ (.slice (some ⟨u86.heap.size, 0, none⟩) 0 0) := ⟨_, rfl⟩
            have ⟨c0, c1, z1, yu88, yyu88⟩ := mS hu d0 d1 e1
            replace oE := mO hu oE (fun h => by simp [blk] at h; omega)
            replace oP := mO hu oP (fun h => by simp [blk] at h; omega)
            replace oS := mO hu oS (fun h => by have := gS _ h; have := gS2 _ h; omega)
            replace hm := mB hu hm (by omega)
            rw [← hu]
            clear hu d0 d1 e0 e1
            refine hK'.out _ _ (F _ hm) ?_
            clear hK' K'
            have hS2 := F _ hm
            refine anyE_takeH 11 rfl (by kernel_rfl) (fun _ _ _ h => h) hS2 (by rfl) (v := ?_) ?_ ?_
            rotate_left
            · intro w' hSw; (try dsimp only at hSw); go_simp; (try with_reducible rfl)
            try simp only [Act.put, List.setIfInBounds_toArray, List.set_cons_zero, List.set_cons_succ]
            refine anyE_takeH 12 rfl (by kernel_rfl) (fun _ _ _ h => h) hS2 (by rfl) (v := ?_) ?_ ?_
            rotate_left
            · intro w' hSw; (try dsimp only at hSw); go_simp; (try with_reducible rfl)
            try simp only [Act.put, List.setIfInBounds_toArray, List.set_cons_zero, List.set_cons_succ]
            clear hS2
            refine anyE_doneL (by kernel_rfl) ?_
            go_wp2_with fail
            go_meet
            exact ⟨u67.heap.size, u86.heap.size, u0.heap.size, sa, sc, rfl, rfl, rfl, hide ⟨c0, c1, z1⟩, hide ⟨by omega, by omega, by omega, by omega, fun g h => by have := gS g h; have := gS2 g h; constructor <;> omega⟩, hide oE, hide oP, hide oS, hide hm⟩
      · go_simp
        obtain ⟨u89, hu⟩ : ∃ u, u = u54.alloc (.cells #[.int .i64 0, .slice none 0 0] 26) := ⟨_, rfl⟩
        have ⟨lx, yu89⟩ := al hu
        replace oP := oP.below lx
        have ⟨d0, d1, e0, e1⟩ := mQ hu
        rw [← hu]
        clear hu
        replace hm := bnext hm lx
        clear lx
        refine hK'.out _ _ (F _ hm) ?_
        clear hK' K'
        refine anyE_2L 2 7 (by kernel_rfl) rfl rfl (fun K' hK' => ?_) (fun K' hK' => ?_)
        · go_simp
          obtain ⟨u90, hu⟩ : ∃ u, u = u89.alloc (.cells #[] 2) := ⟨_, rfl⟩
          have ⟨lx, yu90⟩ := al hu
          replace e0 := fr_of lx d0 e0
          replace e1 := fr_of lx d1 e1
          replace d0 := cell_be lx d0
          replace d1 := cell_be lx d1
          replace oP := oP.below lx
          have oE := mE hu hm.size
          rw [← hu]
          clear hu
          replace hm := bnext hm lx
          clear lx
          refine hK'.out _ _ (F _ hm) ?_
          clear hK' K'
          have hS2 := F _ hm
          refine anyE_takeH 3 rfl (by kernel_rfl) (fun _ _ _ h => h) hS2 (by rfl) (v := ?_) ?_ ?_
          rotate_left
          · intro w' hSw; (try dsimp only at hSw); go_simp; (try with_reducible rfl)
          try simp only [Act.put, List.setIfInBounds_toArray, List.set_cons_zero, List.set_cons_succ]
          clear hS2
          refine anyE_oneL 7 (by kernel_rfl) rfl (fun K' hK' => ?_)
          go_simp
          obtain ⟨u91, hu⟩ : ∃ u, u = u90.alloc (.cells #[.int .i64 b, .int .i64 a] 2) := ⟨_, rfl⟩
          have ⟨lx, yu91⟩ := al hu
          replace e0 := fr_of lx d0 e0
          replace e1 := fr_of lx d1 e1
          replace d0 := cell_be lx d0
          replace d1 := cell_be lx d1
          replace oE := oE.below lx
          replace oP := oP.below lx
          have sl := mL hu
          rw [← hu]
          clear hu
          replace hm := bnext hm lx
          clear lx
          refine hK'.out _ _ (F _ hm) ?_
          clear hK' K'
          refine anyE_oneL 8 (by kernel_rfl) rfl (fun K' hK' => ?_)
          go_simp
          refine (HT.out _ _ sl).mono ?_
          rintro e u92 ⟨sa, sc, rfl, oS, lx⟩
          dsimp only
          have gS := own_blk_ge oS
          have gS2 := ownLtA oS
          replace oS := oS.mono hm.size
          have yu92 := lx.size
          replace e0 := fr_of lx d0 e0
          replace e1 := fr_of lx d1 e1
          replace d0 := cell_be lx d0
          replace d1 := cell_be lx d1
          replace oE := oE.below lx
          replace oP := oP.below lx
          replace sl := sl.below lx
          replace hm := bnext hm lx
          clear lx sl
          refine hK'.out _ _ (F _ hm) ?_
          clear hK' K'
          refine anyE_oneL 10 (by kernel_rfl) rfl (fun K' hK' => ?_)
          go_simp
          obtain ⟨u93, hu⟩ : ∃ u, u = (u92.setCell ⟨u54.heap.size, 0, none⟩ (.int .i64 p)).setCell ⟨u54.heap.size, 1, none⟩ (.slice (some ⟨u89.heap.size, 0, none⟩) 0 0) := ⟨_, rfl⟩
          have ⟨c0, c1, z1, yu93, yyu93⟩ := mS hu d0 d1 e1
          replace oE := mO hu oE (fun h => by simp [blk] at h; omega)
          replace oP := mO hu oP (fun h => by simp [blk] at h; omega)
          replace oS := mO hu oS (fun h => by have := gS _ h; have := gS2 _ h; omega)
          replace hm := mB hu hm (by omega)
          rw [← hu]
          clear hu d0 d1 e0 e1
          refine hK'.out _ _ (F _ hm) ?_
          clear hK' K'
          have hS2 := F _ hm
          refine anyE_takeH 11 rfl (by kernel_rfl) (fun _ _ _ h => h) hS2 (by rfl) (v := ?_) ?_ ?_
          rotate_left
          · intro w' hSw; (try dsimp only at hSw); go_simp; (try with_reducible rfl)
          try simp only [Act.put, List.setIfInBounds_toArray, List.set_cons_zero, List.set_cons_succ]
          refine anyE_takeH 12 rfl (by kernel_rfl) (fun _ _ _ h => h) hS2 (by rfl) (v := ?_) ?_ ?_
          rotate_left
          · intro w' hSw; (try dsimp only at hSw); go_simp; (try with_reducible rfl)
          try simp only [Act.put, List.setIfInBounds_toArray, List.set_cons_zero, List.set_cons_succ]
          clear hS2
          refine anyE_doneL (by kernel_rfl) ?_
          go_wp2_with fail
          go_meet
          exact ⟨u54.heap.size, u89.heap.size, u0.heap.size, sa, sc, rfl, rfl, rfl, hide ⟨c0, c1, z1⟩, hide ⟨by omega, by omega, by omega, by omega, fun g h => by have := gS g h; have := gS2 g h; constructor <;> omega⟩, hide oE, hide oP, hide oS, hide hm⟩
        · go_simp
          obtain ⟨u94, hu⟩ : ∃ u, u = u89.alloc (.cells #[.int .i64 b, .int .i64 a] 2) := ⟨_, rfl⟩
          have ⟨lx, yu94⟩ := al hu
          replace e0 := fr_of lx d0 e0
          replace e1 := fr_of lx d1 e1
          replace d0 := cell_be lx d0
          replace d1 := cell_be lx d1
          replace oP := oP.below lx
          have sl := mL hu
          rw [← hu]
          clear hu
          replace hm := bnext hm lx
          clear lx
          refine hK'.out _ _ (F _ hm) ?_
          clear hK' K'
          refine anyE_2L 2 8 (by kernel_rfl) rfl rfl (fun K' hK' => ?_) (fun K' hK' => ?_)
          · go_simp
            obtain ⟨u95, hu⟩ : ∃ u, u = u94.alloc (.cells #[] 2) := ⟨_, rfl⟩
            have ⟨lx, yu95⟩ := al hu
            replace e0 := fr_of lx d0 e0
            replace e1 := fr_of lx d1 e1
            replace d0 := cell_be lx d0
            replace d1 := cell_be lx d1
            replace oP := oP.below lx
            replace sl := sl.below lx
            have oE := mE hu hm.size
            rw [← hu]
            clear hu
            replace hm := bnext hm lx
            clear lx
            refine hK'.out _ _ (F _ hm) ?_
            clear hK' K'
            have hS2 := F _ hm
            refine anyE_takeH 3 rfl (by kernel_rfl) (fun _ _ _ h => h) hS2 (by rfl) (v := ?_) ?_ ?_
            rotate_left
            · intro w' hSw; (try dsimp only at hSw); go_simp; (try with_reducible rfl)
            try simp only [Act.put, List.setIfInBounds_toArray, List.set_cons_zero, List.set_cons_succ]
            clear hS2
            refine anyE_oneL 8 (by kernel_rfl) rfl (fun K' hK' => ?_)
            go_simp
            refine (HT.out _ _ sl).mono ?_
            rintro e u96 ⟨sa, sc, rfl, oS, lx⟩
            dsimp only
            have gS := own_blk_ge oS
            have gS2 := ownLtA oS
            replace oS := oS.mono hm.size
            have yu96 := lx.size
            replace e0 := fr_of lx d0 e0
            replace e1 := fr_of lx d1 e1
            replace d0 := cell_be lx d0
            replace d1 := cell_be lx d1
            replace oE := oE.below lx
            replace oP := oP.below lx
            replace sl := sl.below lx
            replace hm := bnext hm lx
            clear lx sl
            refine hK'.out _ _ (F _ hm) ?_
            clear hK' K'
            refine anyE_oneL 10 (by kernel_rfl) rfl (fun K' hK' => ?_)
            go_simp
            obtain ⟨u97, hu⟩ : ∃ u, u = (u96.setCell ⟨u54.heap.size, 0, none⟩ (.int .i64 p)).setCell ⟨u54.heap.size, 1, none⟩ (.slice (some ⟨u94.heap.size, 0, none⟩) 0 0) := ⟨_, rfl⟩
            have ⟨c0, c1, z1, yu97, yyu97⟩ := mS hu d0 d1 e1
            replace oE := mO hu oE (fun h => by simp [blk] at h; omega)
            replace oP := mO hu oP (fun h => by simp [blk] at h; omega)
            replace oS := mO hu oS (fun h => by have := gS _ h; have := gS2 _ h; omega)
            replace hm := mB hu hm (by omega)
            rw [← hu]
            clear hu d0 d1 e0 e1
            refine hK'.out _ _ (F _ hm) ?_
            clear hK' K'
            have hS2 := F _ hm
            refine anyE_takeH 11 rfl (by kernel_rfl) (fun _ _ _ h => h) hS2 (by rfl) (v := ?_) ?_ ?_
            rotate_left
            · intro w' hSw; (try dsimp only at hSw); go_simp; (try with_reducible rfl)
            try simp only [Act.put, List.setIfInBounds_toArray, List.set_cons_zero, List.set_cons_succ]
            refine anyE_takeH 12 rfl (by kernel_rfl) (fun _ _ _ h => h) hS2 (by rfl) (v := ?_) ?_ ?_
            rotate_left
            · intro w' hSw; (try dsimp only at hSw); go_simp; (try with_reducible rfl)
            try simp only [Act.put, List.setIfInBounds_toArray, List.set_cons_zero, List.set_cons_succ]
            clear hS2
            refine anyE_doneL (by kernel_rfl) ?_
            go_wp2_with fail
            go_meet
            exact ⟨u54.heap.size, u94.heap.size, u0.heap.size, sa, sc, rfl, rfl, rfl, hide ⟨c0, c1, z1⟩, hide ⟨by omega, by omega, by omega, by omega, fun g h => by have := gS g h; have := gS2 g h; constructor <;> omega⟩, hide oE, hide oP, hide oS, hide hm⟩
          · go_simp
            refine (HT.out _ _ sl).mono ?_
            rintro e u98 ⟨sa, sc, rfl, oS, lx⟩
            dsimp only
            have gS := own_blk_ge oS
            have gS2 := ownLtA oS
            replace oS := oS.mono hm.size
            have yu98 := lx.size
            replace e0 := fr_of lx d0 e0
            replace e1 := fr_of lx d1 e1
            replace d0 := cell_be lx d0
            replace d1 := cell_be lx d1
            replace oP := oP.below lx
            replace sl := sl.below lx
            replace hm := bnext hm lx
            clear lx sl
            refine hK'.out _ _ (F _ hm) ?_
            clear hK' K'
            refine anyE_oneL 2 (by kernel_rfl) rfl (fun K' hK' => ?_)
            go_simp
            obtain ⟨u99, hu⟩ : ∃ u, u = u98.alloc (.cells #[] 2) := ⟨_, rfl⟩
            have ⟨lx, yu99⟩ := al hu
            replace e0 := fr_of lx d0 e0
            replace e1 := fr_of lx d1 e1
            replace d0 := cell_be lx d0
            replace d1 := cell_be lx d1
            replace oP := oP.below lx
            replace oS := oS.below lx
            have oE := mE hu hm.size
            rw [← hu]
            clear hu
            replace hm := bnext hm lx
            clear lx
            refine hK'.out _ _ (F _ hm) ?_
            clear hK' K'
            have hS2 := F _ hm
            refine anyE_takeH 3 rfl (by kernel_rfl) (fun _ _ _ h => h) hS2 (by rfl) (v := ?_) ?_ ?_
            rotate_left
            · intro w' hSw; (try dsimp only at hSw); go_simp; (try with_reducible rfl)
            try simp only [Act.put, List.setIfInBounds_toArray, List.set_cons_zero, List.set_cons_succ]
            clear hS2
            refine anyE_oneL 10 (by kernel_rfl) rfl (fun K' hK' => ?_)
            go_simp
            obtain ⟨u100, hu⟩ : ∃ u, u = (u99.setCell ⟨u54.heap.size, 0, none⟩ (.int .i64 p)).setCell ⟨u54.heap.size, 1, none⟩ (.slice (some ⟨u98.heap.size, 0, none⟩) 0 0) := ⟨_, rfl⟩
            have ⟨c0, c1, z1, yu100, yyu100⟩ := mS hu d0 d1 e1
            replace oE := mO hu oE (fun h => by simp [blk] at h; omega)
            replace oP := mO hu oP (fun h => by simp [blk] at h; omega)
            replace oS := mO hu oS (fun h => by have := gS _ h; have := gS2 _ h; omega)
            replace hm := mB hu hm (by omega)
            rw [← hu]
            clear hu d0 d1 e0 e1
            refine hK'.out _ _ (F _ hm) ?_
            clear hK' K'
            have hS2 := F _ hm
            refine anyE_takeH 11 rfl (by kernel_rfl) (fun _ _ _ h => h) hS2 (by rfl) (v := ?_) ?_ ?_
            rotate_left
            · intro w' hSw; (try dsimp only at hSw); go_simp; (try with_reducible rfl)
            try simp only [Act.put, List.setIfInBounds_toArray, List.set_cons_zero, List.set_cons_succ]
            refine anyE_takeH 12 rfl (by kernel_rfl) (fun _ _ _ h => h) hS2 (by rfl) (v := ?_) ?_ ?_
            rotate_left
            · intro w' hSw; (try dsimp only at hSw); go_simp; (try with_reducible rfl)
            try simp only [Act.put, List.setIfInBounds_toArray, List.set_cons_zero, List.set_cons_succ]
            clear hS2
            refine anyE_doneL (by kernel_rfl) ?_
            go_wp2_with fail
            go_meet
            exact ⟨u54.heap.size, u98.heap.size, u0.heap.size, sa, sc, rfl, rfl, rfl, hide ⟨c0, c1, z1⟩, hide ⟨by omega, by omega, by omega, by omega, fun g h => by have := gS g h; have := gS2 g h; constructor <;> omega⟩, hide oE, hide oP, hide oS, hide hm⟩
    · go_simp
      obtain ⟨u101, hu⟩ : ∃ u, u = u0.alloc (.cells #[.int .i64 b, .int .i64 a] 2) := ⟨_, rfl⟩
      have ⟨lx, yu101⟩ := al hu
      have sl := mL hu
      rw [← hu]
      clear hu
      replace hm := bnext hm lx
      clear lx
      refine hK'.out _ _ (F _ hm) ?_
      clear hK' K'
      refine anyE_4L 2 4 8 9 (by kernel_rfl) rfl rfl rfl rfl (fun K' hK' => ?_) (fun K' hK' => ?_) (fun K' hK' => ?_) (fun K' hK' => ?_)
      · go_simp
        obtain ⟨u102, hu⟩ : ∃ u, u = u101.alloc (.cells #[] 2) := ⟨_, rfl⟩
        have ⟨lx, yu102⟩ := al hu
        replace sl := sl.below lx
        have oE := mE hu hm.size
        rw [← hu]
        clear hu
        replace hm := bnext hm lx
        clear lx
        refine hK'.out _ _ (F _ hm) ?_
        clear hK' K'
        have hS2 := F _ hm
        refine anyE_takeH 3 rfl (by kernel_rfl) (fun _ _ _ h => h) hS2 (by rfl) (v := ?_) ?_ ?_
        rotate_left
        · intro w' hSw; (try dsimp only at hSw); go_simp; (try with_reducible rfl)
        try simp only [Act.put, List.setIfInBounds_toArray, List.set_cons_zero, List.set_cons_succ]
        clear hS2
        refine anyE_3L 4 8 9 (by kernel_rfl) rfl rfl rfl (fun K' hK' => ?_) (fun K' hK' => ?_) (fun K' hK' => ?_)
        · go_simp
          obtain ⟨u103, hu⟩ : ∃ u, u = u102.alloc (.cells #[.int .i64 1] 2) := ⟨_, rfl⟩
          have ⟨lx, yu103⟩ := al hu
          replace oE := oE.below lx
          replace sl := sl.below lx
          have oP := mP hu hm.size
          rw [← hu]
          clear hu
          replace hm := bnext hm lx
          clear lx
          refine hK'.out _ _ (F _ hm) ?_
          clear hK' K'
          refine anyE_2L 8 9 (by kernel_rfl) rfl rfl (fun K' hK' => ?_) (fun K' hK' => ?_)
          · go_simp
            refine (HT.out _ _ sl).mono ?_
            rintro e u104 ⟨sa, sc, rfl, oS, lx⟩
            dsimp only
            have gS := own_blk_ge oS
            have gS2 := ownLtA oS
            replace oS := oS.mono hm.size
            have yu104 := lx.size
            replace oE := oE.below lx
            replace oP := oP.below lx
            replace sl := sl.below lx
            replace hm := bnext hm lx
            clear lx sl
            refine hK'.out _ _ (F _ hm) ?_
            clear hK' K'
            refine anyE_oneL 9 (by kernel_rfl) rfl (fun K' hK' => ?_)
            go_simp
            obtain ⟨u105, hu⟩ : ∃ u, u = u104.alloc (.cells #[.int .i64 0, .slice none 0 0] 26) := ⟨_, rfl⟩
            have ⟨lx, yu105⟩ := al hu
            replace oE := oE.below lx
            replace oP := oP.below lx
            replace oS := oS.below lx
            have ⟨d0, d1, e0, e1⟩ := mQ hu
            rw [← hu]
            clear hu
            replace hm := bnext hm lx
            clear lx
            refine hK'.out _ _ (F _ hm) ?_
            clear hK' K'
            refine anyE_oneL 10 (by kernel_rfl) rfl (fun K' hK' => ?_)
            go_simp
            obtain ⟨u106, hu⟩ : ∃ u, u = (u105.setCell ⟨u104.heap.size, 0, none⟩ (.int .i64 p)).setCell ⟨u104.heap.size, 1, none⟩ (.slice (some ⟨u101.heap.size, 0, none⟩) 0 0) := ⟨_, rfl⟩
            have ⟨c0, c1, z1, yu106, yyu106⟩ := mS hu d0 d1 e1
            replace oE := mO hu oE (fun h => by simp [blk] at h; omega)
            replace oP := mO hu oP (fun h => by simp [blk] at h; omega)
            replace oS := mO hu oS (fun h => by have := gS _ h; have := gS2 _ h; omega)
            replace hm := mB hu hm (by omega)
            rw [← hu]
            clear hu d0 d1 e0 e1
            refine hK'.out _ _ (F _ hm) ?_
            clear hK' K'
            have hS2 := F _ hm
            refine anyE_takeH 11 rfl (by kernel_rfl) (fun _ _ _ h => h) hS2 (by rfl) (v := ?_) ?_ ?_
            rotate_left
            · intro w' hSw; (try dsimp only at hSw); go_simp; (try with_reducible rfl)
            try simp only [Act.put, List.setIfInBounds_toArray, List.set_cons_zero, List.set_cons_succ]
            refine anyE_takeH 12 rfl (by kernel_rfl) (fun _ _ _ h => h) hS2 (by rfl) (v := ?_) ?_ ?_
            rotate_left
            · intro w' hSw; (try dsimp only at hSw); go_simp; (try with_reducible rfl)
            try simp only [Act.put, List.setIfInBounds_toArray, List.set_cons_zero, List.set_cons_succ]
            clear hS2
            refine anyE_doneL (by kernel_rfl) ?_
            go_wp2_with fail
            go_meet
            exact ⟨u104.heap.size, u101.heap.size, u102.heap.size, sa, sc, rfl, rfl, rfl, hide ⟨c0, c1, z1⟩, hide ⟨by omega, by omega, by omega, by omega, fun g h => by have := gS g h; have := gS2 g h; constructor <;> omega⟩, hide oE, hide oP, hide oS, hide hm⟩
          · go_simp
            obtain ⟨u107, hu⟩ : ∃ u, u = u103.alloc (.cells #[.int .i64 0, .slice none 0 0] 26) := ⟨_, rfl⟩
            have ⟨lx, yu107⟩ := al hu
            replace oE := oE.below lx
            replace oP := oP.below lx
            replace sl := sl.below lx
            have ⟨d0, d1, e0, e1⟩ := mQ hu
            rw [← hu]
            clear hu
            replace hm := bnext hm lx
            clear lx
            refine hK'.out _ _ (F _ hm) ?_
            clear hK' K'
            refine anyE_oneL 8 (by kernel_rfl) rfl (fun K' hK' => ?_)
            go_simp
            refine (HT.out _ _ sl).mono ?_
            rintro e u108 ⟨sa, sc, rfl, oS, lx⟩
            dsimp only
            have gS := own_blk_ge oS
            have gS2 := ownLtA oS
            replace oS := oS.mono hm.size
            have yu108 := lx.size
            replace e0 := fr_of lx d0 e0
            replace e1 := fr_of lx d1 e1
            replace d0 := cell_be lx d0
            replace d1 := cell_be lx d1
            replace oE := oE.below lx
            replace oP := oP.below lx
            replace sl := sl.below lx
            replace hm := bnext hm lx
            clear lx sl
            refine hK'.out _ _ (F _ hm) ?_
            clear hK' K'
            refine anyE_oneL 10 (by kernel_rfl) rfl (fun K' hK' => ?_)
            go_simp
            obtain ⟨u109, hu⟩ : ∃ u, u = (u108.setCell ⟨u103.heap.size, 0, none⟩ (.int .i64 p)).setCell ⟨u103.heap.size, 1, none⟩ (.slice (some ⟨u101.heap.size, 0, none⟩) 0 0) := ⟨_, rfl⟩
            have ⟨c0, c1, z1, yu109, yyu109⟩ := mS hu d0 d1 e1
            replace oE := mO hu oE (fun h => by simp [blk] at h; omega)
            replace oP := mO hu oP (fun h => by simp [blk] at h; omega)
            replace oS := mO hu oS (fun h => by have := gS _ h; have := gS2 _ h; omega)
            replace hm := mB hu hm (by omega)
            rw [← hu]
            clear hu d0 d1 e0 e1
            refine hK'.out _ _ (F _ hm) ?_
            clear hK' K'
            have hS2 := F _ hm
            refine anyE_takeH 11 rfl (by kernel_rfl) (fun _ _ _ h => h) hS2 (by rfl) (v := ?_) ?_ ?_
            rotate_left
            · intro w' hSw; (try dsimp only at hSw); go_simp; (try with_reducible rfl)
            try simp only [Act.put, List.setIfInBounds_toArray, List.set_cons_zero, List.set_cons_succ]
            refine anyE_takeH 12 rfl (by kernel_rfl) (fun _ _ _ h => h) hS2 (by rfl) (v := ?_) ?_ ?_
            rotate_left
            · intro w' hSw; (try dsimp only at hSw); go_simp; (try with_reducible rfl)
            try simp only [Act.put, List.setIfInBounds_toArray, List.set_cons_zero, List.set_cons_succ]
            clear hS2
            refine anyE_doneL (by kernel_rfl) ?_
            go_wp2_with fail
            go_meet
            exact ⟨u103.heap.size, u101.heap.size, u102.heap.size, sa, sc, rfl, rfl, rfl, hide ⟨c0, c1, z1⟩, hide ⟨by omega, by omega, by omega, by omega, fun g h => by have := gS g h; have := gS2 g h; constructor <;> omega⟩, hide oE, hide oP, hide oS, hide hm⟩
        · go_simp
          refine (HT.out _ _ sl).mono ?_
          rintro e u110 ⟨sa, sc, rfl, oS, lx⟩
          dsimp only
          have gS := own_blk_ge oS
          have gS2 := ownLtA oS
          replace oS := oS.mono hm.size
          have yu110 := lx.size
          replace oE := oE.below lx
          replace sl := sl.below lx
          replace hm := bnext hm lx
          clear lx sl
          refine hK'.out _ _ (F _ hm) ?_
          clear hK' K'
          refine anyE_2L 4 9 (by kernel_rfl) rfl rfl (fun K' hK' => ?_) (fun K' hK' => ?_)
          · go_simp
            obtain ⟨u111, hu⟩ : ∃ u, u = u110.alloc (.cells #[.int .i64 1] 2) := ⟨_, rfl⟩
            have ⟨lx, yu111⟩ := al hu
            replace oE := oE.below lx
            replace oS := oS.below lx
            have oP := mP hu hm.size
            rw [← hu]
            clear hu
            replace hm := bnext hm lx
            clear lx
            refine hK'.out _ _ (F _ hm) ?_
            clear hK' K'
            refine anyE_oneL 9 (by kernel_rfl) rfl (fun K' hK' => ?_)
            go_simp
            obtain ⟨u112, hu⟩ : ∃ u, u = u111.alloc (.cells #[.int .i64 0, .slice none 0 0] 26) := ⟨_, rfl⟩
            have ⟨lx, yu112⟩ := al hu
            replace oE := oE.below lx
            replace oP := oP.below lx
            replace oS := oS.below lx
            have ⟨d0, d1, e0, e1⟩ := mQ hu
            rw [← hu]
            clear hu
            replace hm := bnext hm lx
            clear lx
            refine hK'.out _ _ (F _ hm) ?_
            clear hK' K'
            refine anyE_oneL 10 (by kernel_rfl) rfl (fun K' hK' => ?_)
            go_simp
            obtain ⟨u113, hu⟩ : ∃ u, u = (u112.setCell ⟨u111.heap.size, 0, none⟩ (.int .i64 p)).setCell ⟨u111.heap.size, 1, none⟩ (.slice (some ⟨u101.heap.size, 0, none⟩) 0 0) := ⟨_, rfl⟩
            have ⟨c0, c1, z1, yu113, yyu113⟩ := mS hu d0 d1 e1
            replace oE := mO hu oE (fun h => by simp [blk] at h; omega)
            replace oP := mO hu oP (fun h => by simp [blk] at h; omega)
            replace oS := mO hu oS (fun h => by have := gS _ h; have := gS2 _ h; omega)
            replace hm := mB hu hm (by omega)
            rw [← hu]
            clear hu d0 d1 e0 e1
            refine hK'.out _ _ (F _ hm) ?_
            clear hK' K'
            have hS2 := F _ hm
            refine anyE_takeH 11 rfl (by kernel_rfl) (fun _ _ _ h => h) hS2 (by rfl) (v := ?_) ?_ ?_
            rotate_left
            · intro w' hSw; (try dsimp only at hSw); go_simp; (try with_reducible rfl)
            try simp only [Act.put, List.setIfInBounds_toArray, List.set_cons_zero, List.set_cons_succ]
            refine anyE_takeH 12 rfl (by kernel_rfl) (fun _ _ _ h => h) hS2 (by rfl) (v := ?_) ?_ ?_
            rotate_left
            · intro w' hSw; (try dsimp only at hSw); go_simp; (try with_reducible rfl)
            try simp only [Act.put, List.setIfInBounds_toArray, List.set_cons_zero, List.set_cons_succ]
            clear hS2
            refine anyE_doneL (by kernel_rfl) ?_
            go_wp2_with fail
            go_meet
            exact ⟨u111.heap.size, u101.heap.size, u110.heap.size, sa, sc, rfl, rfl, rfl, hide ⟨c0, c1, z1⟩, hide ⟨by omega, by omega, by omega, by omega, fun g h => by have := gS g h; have := gS2 g h; constructor <;> omega⟩, hide oE, hide oP, hide oS, hide hm⟩
          · go_simp
            obtain ⟨u114, hu⟩ : ∃ u, u = u110.alloc (.cells #[.int .i64 0, .slice none 0 0] 26) := ⟨_, rfl⟩
            have ⟨lx, yu114⟩ := al hu
            replace oE := oE.below lx
            replace oS := oS.below lx
            have ⟨d0, d1, e0, e1⟩ := mQ hu
            rw [← hu]
            clear hu
            replace hm := bnext hm lx
            clear lx
            refine hK'.out _ _ (F _ hm) ?_
            clear hK' K'
            refine anyE_2L 4 10 (by kernel_rfl) rfl rfl (fun K' hK' => ?_) (fun K' hK' => ?_)
            · go_simp
              obtain ⟨u115, hu⟩ : ∃ u, u = u114.alloc (.cells #[.int .i64 1] 2) := ⟨_, rfl⟩
              have ⟨lx, yu115⟩ := al hu
              replace e0 := fr_of lx d0 e0
              replace e1 := fr_of lx d1 e1
              replace d0 := cell_be lx d0
              replace d1 := cell_be lx d1
              replace oE := oE.below lx
              replace oS := oS.below lx
              have oP := mP hu hm.size
              rw [← hu]
              clear hu
              replace hm := bnext hm lx
              clear lx
              refine hK'.out _ _ (F _ hm) ?_
              clear hK' K'
              refine anyE_oneL 10 (by kernel_rfl) rfl (fun K' hK' => ?_)
              go_simp
              obtain ⟨u116, hu⟩ : ∃ u, u = (u115.setCell ⟨u110.heap.size, 0, none⟩ (.int .i64 p)).setCell ⟨u110.heap.size, 1, none⟩ (.slice (some ⟨u101.heap.size, 0, none⟩) 0 0) := ⟨_, rfl⟩
              have ⟨c0, c1, z1, yu116, yyu116⟩ := mS hu d0 d1 e1
              replace oE := mO hu oE (fun h => by simp [blk] at h; omega)
              replace oP := mO hu oP (fun h => by simp [blk] at h; omega)
              replace oS := mO hu oS (fun h => by have := gS _ h; have := gS2 _ h; omega)
              replace hm := mB hu hm (by omega)
              rw [← hu]
              clear hu d0 d1 e0 e1
              refine hK'.out _ _ (F _ hm) ?_
              clear hK' K'
              have hS2 := F _ hm
              refine anyE_takeH 11 rfl (by kernel_rfl) (fun _ _ _ h => h) hS2 (by rfl) (v := ?_) ?_ ?_
              rotate_left
              · intro w' hSw; (try dsimp only at hSw); go_simp; (try with_reducible rfl)
              try simp only [Act.put, List.setIfInBounds_toArray, List.set_cons_zero, List.set_cons_succ]
              refine anyE_takeH 12 rfl (by kernel_rfl) (fun _ _ _ h => h) hS2 (by rfl) (v := ?_) ?_ ?_
              rotate_left
              · intro w' hSw; (try dsimp only at hSw); go_simp; (try with_reducible rfl)
              try simp only [Act.put, List.setIfInBounds_toArray, List.set_cons_zero, List.set_cons_succ]
              clear hS2
              refine anyE_doneL (by kernel_rfl) ?_
              go_wp2_with fail
              go_meet
              exact ⟨u110.heap.size, u101.heap.size, u114.heap.size, sa, sc, rfl, rfl, rfl, hide ⟨c0, c1, z1⟩, hide ⟨by omega, by omega, by omega, by omega, fun g h => by have := gS g h; have := gS2 g h; constructor <;> omega⟩, hide oE, hide oP, hide oS, hide hm⟩
            · go_simp
              obtain ⟨u117, hu⟩ : ∃ u, u = (u114.setCell ⟨u110.heap.size, 0, none⟩ (.int .i64 p)).setCell ⟨u110.heap.size, 1, none⟩ (.slice (some ⟨u101.heap.size, 0, none⟩) 0 0) := ⟨_, rfl⟩
              have ⟨c0, c1, z1, yu117, yyu117⟩ := mS hu d0 d1 e1
              replace oE := mO hu oE (fun h => by simp [blk] at h; omega)
              replace oS := mO hu oS (fun h => by have := gS _ h; have := gS2 _ h; omega)
              replace hm := mB hu hm (by omega)
              rw [← hu]
              clear hu d0 d1 e0 e1
              refine hK'.out _ _ (F _ hm) ?_
              clear hK' K'
              refine anyE_oneL 4 (by kernel_rfl) rfl (fun K' hK' => ?_)
              go_simp
              obtain ⟨u118, hu⟩ : ∃ u, u = u117.alloc (.cells #[.int .i64 1] 2) := ⟨_, rfl⟩
              have ⟨lx, yu118⟩ := al hu
              replace c0 := cell_be lx c0
              replace z1 := fr_of lx c1 z1
              replace c1 := cell_be lx c1
              replace oE := oE.below lx
              replace oS := oS.below lx
              have oP := mP hu hm.size
              rw [← hu]
              clear hu
              replace hm := bnext hm lx
              clear lx
              refine hK'.out _ _ (F _ hm) ?_
              clear hK' K'
              have hS2 := F _ hm
              refine anyE_takeH 11 rfl (by kernel_rfl) (fun _ _ _ h => h) hS2 (by rfl) (v := ?_) ?_ ?_
              rotate_left
              · intro w' hSw; (try dsimp only at hSw); go_simp; (try with_reducible rfl)
              try simp only [Act.put, List.setIfInBounds_toArray, List.set_cons_zero, List.set_cons_succ]
              refine anyE_takeH 12 rfl (by kernel_rfl) (fun _ _ _ h => h) hS2 (by rfl) (v := ?_) ?_ ?_
              rotate_left
              · intro w' hSw; (try dsimp only at hSw); go_simp; (try with_reducible rfl)
              try simp only [Act.put, List.setIfInBounds_toArray, List.set_cons_zero, List.set_cons_succ]
              clear hS2
              refine anyE_doneL (by kernel_rfl) ?_
              go_wp2_with fail
              go_meet
              exact ⟨u110.heap.size, u101.heap.size, u117.heap.size, sa, sc, rfl, rfl, rfl, hide ⟨c0, c1, z1⟩, hide ⟨by omega, by omega, by omega, by omega, fun g h => by have := gS g h; have := gS2 g h; constructor <;> omega⟩, hide oE, hide oP, hide oS, hide hm⟩
        · go_simp
          obtain ⟨u119, hu⟩ : ∃ u, u = u102.alloc (.cells #[.int .i64 0, .slice none 0 0] 26) := ⟨_, rfl⟩
          have ⟨lx, yu119⟩ := al hu
          replace oE := oE.below lx
          replace sl := sl.below lx
          have ⟨d0, d1, e0, e1⟩ := mQ hu
          rw [← hu]
          clear hu
          replace hm := bnext hm lx
          clear lx
          refine hK'.out _ _ (F _ hm) ?_
          clear hK' K'
          refine anyE_2L 4 8 (by kernel_rfl) rfl rfl (fun K' hK' => ?_) (fun K' hK' => ?_)
          · go_simp
            obtain ⟨u120, hu⟩ : ∃ u, u = u119.alloc (.cells #[.int .i64 1] 2) := ⟨_, rfl⟩
            have ⟨lx, yu120⟩ := al hu
            replace e0 := fr_of lx d0 e0
            replace e1 := fr_of lx d1 e1
            replace d0 := cell_be lx d0
            replace d1 := cell_be lx d1
            replace oE := oE.below lx
            replace sl := sl.below lx
            have oP := mP hu hm.size
            rw [← hu]
            clear hu
            replace hm := bnext hm lx
            clear lx
            refine hK'.out _ _ (F _ hm) ?_
            clear hK' K'
            refine anyE_oneL 8 (by kernel_rfl) rfl (fun K' hK' => ?_)
            go_simp
            refine (HT.out _ _ sl).mono ?_
            rintro e u121 ⟨sa, sc, rfl, oS, lx⟩
            dsimp only
            have gS := own_blk_ge oS
            have gS2 := ownLtA oS
            replace oS := oS.mono hm.size
            have yu121 := lx.size
            replace e0 := fr_of lx d0 e0
            replace e1 := fr_of lx d1 e1
            replace d0 := cell_be lx d0
            replace d1 := cell_be lx d1
            replace oE := oE.below lx
            replace oP := oP.below lx
            replace sl := sl.below lx
            replace hm := bnext hm lx
            clear lx sl
            refine hK'.out _ _ (F _ hm) ?_
            clear hK' K'
            refine anyE_oneL 10 (by kernel_rfl) rfl (fun K' hK' => ?_)
            go_simp
            obtain ⟨u122, hu⟩ : ∃ u, u = (u121.setCell ⟨u102.heap.size, 0, none⟩ (.int .i64 p)).setCell ⟨u102.heap.size, 1, none⟩ (.slice (some ⟨u101.heap.size, 0, none⟩) 0 0) := ⟨_, rfl⟩
            have ⟨c0, c1, z1, yu122, yyu122⟩ := mS hu d0 d1 e1
            replace oE := mO hu oE (fun h => by simp [blk] at h; omega)
            replace oP := mO hu oP (fun h => by simp [blk] at h; omega)
            replace oS := mO hu oS (fun h => by have := gS _ h; have := gS2 _ h; omega)
            replace hm := mB hu hm (by omega)
            rw [← hu]
            clear hu d0 d1 e0 e1
            refine hK'.out _ _ (F _ hm) ?_
            clear hK' K'
            have hS2 := F _ hm
            refine anyE_takeH 11 rfl (by kernel_rfl) (fun _ _ _ h => h) hS2 (by rfl) (v := ?_) ?_ ?_
            rotate_left
            · intro w' hSw; (try dsimp only at hSw); go_simp; (try with_reducible rfl)
            try simp only [Act.put, List.setIfInBounds_toArray, List.set_cons_zero, List.set_cons_succ]
            refine anyE_takeH 12 rfl (by kernel_rfl) (fun _ _ _ h => h) hS2 (by rfl) (v := ?_) ?_ ?_
            rotate_left
            · intro w' hSw; (try dsimp only at hSw); go_simp; (try with_reducible rfl)
            try simp only [Act.put, List.setIfInBounds_toArray, List.set_cons_zero, List.set_cons_succ]
            clear hS2
            refine anyE_doneL (by kernel_rfl) ?_
            go_wp2_with fail
            go_meet
            exact ⟨u102.heap.size, u101.heap.size, u119.heap.size, sa, sc, rfl, rfl, rfl, hide ⟨c0, c1, z1⟩, hide ⟨by omega, by omega, by omega, by omega, fun g h => by have := gS g h; have := gS2 g h; constructor <;> omega⟩, hide oE, hide oP, hide oS, hide hm⟩
          · go_simp
            refine (HT.out _ _ sl).mono ?_
            rintro e u123 ⟨sa, sc, rfl, oS, lx⟩
            dsimp only
            have gS := own_blk_ge oS
            have gS2 := ownLtA oS
            replace oS := oS.mono hm.size
            have yu123 := lx.size
            replace e0 := fr_of lx d0 e0
            replace e1 := fr_of lx d1 e1
            replace d0 := cell_be lx d0
            replace d1 := cell_be lx d1
            replace oE := oE.below lx
            replace sl := sl.below lx
            replace hm := bnext hm lx
            clear lx sl
            refine hK'.out _ _ (F _ hm) ?_
            clear hK' K'
            refine anyE_2L 4 10 (by kernel_rfl) rfl rfl (fun K' hK' => ?_) (fun K' hK' => ?_)
            · go_simp
              obtain ⟨u124, hu⟩ : ∃ u, u = u123.alloc (.cells #[.int .i64 1] 2) := ⟨_, rfl⟩
              have ⟨lx, yu124⟩ := al hu
              replace e0 := fr_of lx d0 e0
              replace e1 := fr_of lx d1 e1
              replace d0 := cell_be lx d0
              replace d1 := cell_be lx d1
              replace oE := oE.below lx
              replace oS := oS.below lx
              have oP := mP hu hm.size
              rw [← hu]
              clear hu
              replace hm := bnext hm lx
              clear lx
              refine hK'.out _ _ (F _ hm) ?_
              clear hK' K'
              refine anyE_oneL 10 (by kernel_rfl) rfl (fun K' hK' => ?_)
              go_simp
              obtain ⟨u125, hu⟩ : ∃ u, u = (u124.setCell ⟨u102.heap.size, 0, none⟩ (.int .i64 p)).setCell ⟨u102.heap.size, 1, none⟩ (.slice (some ⟨u101.heap.size, 0, none⟩) 0 0) := ⟨_, rfl⟩
              have ⟨c0, c1, z1, yu125, yyu125⟩ := mS hu d0 d1 e1
              replace oE := mO hu oE (fun h => by simp [blk] at h; omega)
              replace oP := mO hu oP (fun h => by simp [blk] at h; omega)
              replace oS := mO hu oS (fun h => by have := gS _ h; have := gS2 _ h; omega)
              replace hm := mB hu hm (by omega)
              rw [← hu]
              clear hu d0 d1 e0 e1
              refine hK'.out _ _ (F _ hm) ?_
              clear hK' K'
              have hS2 := F _ hm
              refine anyE_takeH 11 rfl (by kernel_rfl) (fun _ _ _ h => h) hS2 (by rfl) (v := ?_) ?_ ?_
              rotate_left
              · intro w' hSw; (try dsimp only at hSw); go_simp; (try with_reducible rfl)
              try simp only [Act.put, List.setIfInBounds_toArray, List.set_cons_zero, List.set_cons_succ]
              refine anyE_takeH 12 rfl (by kernel_rfl) (fun _ _ _ h => h) hS2 (by rfl) (v := ?_) ?_ ?_
              rotate_left
              · intro w' hSw; (try dsimp only at hSw); go_simp; (try with_reducible rfl)
              try simp only [Act.put, List.setIfInBounds_toArray, List.set_cons_zero, List.set_cons_succ]
              clear hS2
              refine anyE_doneL (by kernel_rfl) ?_
              go_wp2_with fail
              go_meet
              exact ⟨u102.heap.size, u101.heap.size, u123.heap.size, sa, sc, rfl, rfl, rfl, hide ⟨c0, c1, z1⟩, hide ⟨by omega, by omega, by omega, by omega, fun g h => by have := gS g h; have := gS2 g h; constructor <;> omega⟩, hide oE, hide oP, hide oS, hide hm⟩
            · go_simp
              obtain ⟨u126, hu⟩ : ∃ u, u = (u123.setCell ⟨u102.heap.size, 0, none⟩ (.int .i64 p)).setCell ⟨u102.heap.size, 1, none⟩ (.slice (some ⟨u101.heap.size, 0, none⟩) 0 0) := ⟨_, rfl⟩
              have ⟨c0, c1, z1, yu126, yyu126⟩ := mS hu d0 d1 e1
              replace oE := mO hu oE (fun h => by simp [blk] at h; omega)
              replace oS := mO hu oS (fun h => by have := gS _ h; have := gS2 _ h; omega)
              replace hm := mB hu hm (by omega)
              rw [← hu]
              clear hu d0 d1 e0 e1
              refine hK'.out _ _ (F _ hm) ?_
              clear hK' K'
              refine anyE_oneL 4 (by kernel_rfl) rfl (fun K' hK' => ?_)
              go_simp
              obtain ⟨u127, hu⟩ : ∃ u, u = u126.alloc (.cells #[.int .i64 1] 2) := ⟨_, rfl⟩
              have ⟨lx, yu127⟩ := al hu
              replace c0 := cell_be lx c0
              replace z1 := fr_of lx c1 z1
              replace c1 := cell_be lx c1
              replace oE := oE.below lx
              replace oS := oS.below lx
              have oP := mP hu hm.size
              rw [← hu]
              clear hu
              replace hm := bnext hm lx
              clear lx
              refine hK'.out _ _ (F _ hm) ?_
              clear hK' K'
              have hS2 := F _ hm
              refine anyE_takeH 11 rfl (by kernel_rfl) (fun _ _ _ h => h) hS2 (by rfl) (v := ?_) ?_ ?_
              rotate_left
              · intro w' hSw; (try dsimp only at hSw); go_simp; (try with_reducible rfl)
              try simp only [Act.put, List.setIfInBounds_toArray, List.set_cons_zero, List.set_cons_succ]
              refine anyE_takeH 12 rfl (by kernel_rfl) (fun _ _ _ h => h) hS2 (by rfl) (v := ?_) ?_ ?_
              rotate_left
              · intro w' hSw; (try dsimp only at hSw); go_simp; (try with_reducible rfl)
              try simp only [Act.put, List.setIfInBounds_toArray, List.set_cons_zero, List.set_cons_succ]
              clear hS2
              refine anyE_doneL (by kernel_rfl) ?_
              go_wp2_with fail
              go_meet
              exact ⟨u102.heap.size, u101.heap.size, u126.heap.size, sa, sc, rfl, rfl, rfl, hide ⟨c0, c1, z1⟩, hide ⟨by omega, by omega, by omega, by omega, fun g h => by have := gS g h; have := gS2 g h; constructor <;> omega⟩, hide oE, hide oP, hide oS, hide hm⟩
      · go_simp
        obtain ⟨u128, hu⟩ : ∃ u, u = u101.alloc (.cells #[.int .i64 1] 2) := ⟨_, rfl⟩
        have ⟨lx, yu128⟩ := al hu
        replace sl := sl.below lx
        have oP := mP hu hm.size
        rw [← hu]
        clear hu
        replace hm := bnext hm lx
        clear lx
        refine hK'.out _ _ (F _ hm) ?_
        clear hK' K'
        refine anyE_3L 2 8 9 (by kernel_rfl) rfl rfl rfl (fun K' hK' => ?_) (fun K' hK' => ?_) (fun K' hK' => ?_)
        · go_simp
          obtain ⟨u129, hu⟩ : ∃ u, u = u128.alloc (.cells #[] 2) := ⟨_, rfl⟩
          have ⟨lx, yu129⟩ := al hu
          replace oP := oP.below lx
          replace sl := sl.below lx
          have oE := mE hu hm.size
          rw [← hu]
          clear hu
          replace hm := bnext hm lx
          clear lx
          refine hK'.out _ _ (F _ hm) ?_
          clear hK' K'
          have hS2 := F _ hm
          refine anyE_takeH 3 rfl (by kernel_rfl) (fun _ _ _ h => h) hS2 (by rfl) (v := ?_) ?_ ?_
          rotate_left
          · intro w' hSw; (try dsimp only at hSw); go_simp; (try with_reducible rfl)
          try simp only [Act.put, List.setIfInBounds_toArray, List.set_cons_zero, List.set_cons_succ]
          clear hS2
          refine anyE_2L 8 9 (by kernel_rfl) rfl rfl (fun K' hK' => ?_) (fun K' hK' => ?_)
          · go_simp
            refine (HT.out _ _ sl).mono ?_
            rintro e u130 ⟨sa, sc, rfl, oS, lx⟩
            dsimp only
            have gS := own_blk_ge oS
            have gS2 := ownLtA oS
            replace oS := oS.mono hm.size
            have yu130 := lx.size
            replace oE := oE.below lx
            replace oP := oP.below lx
            replace sl := sl.below lx
            replace hm := bnext hm lx
            clear lx sl
            refine hK'.out _ _ (F _ hm) ?_
            clear hK' K'
            refine anyE_oneL 9 (by kernel_rfl) rfl (fun K' hK' => ?_)
            go_simp
            obtain ⟨u131, hu⟩ : ∃ u, u = u130.alloc (.cells #[.int .i64 0, .slice none 0 0] 26) := ⟨_, rfl⟩
            have ⟨lx, yu131⟩ := al hu
            replace oE := oE.below lx
            replace oP := oP.below lx
            replace oS := oS.below lx
            have ⟨d0, d1, e0, e1⟩ := mQ hu
            rw [← hu]
            clear hu
            replace hm := bnext hm lx
            clear lx
            refine hK'.out _ _ (F _ hm) ?_
            clear hK' K'
            refine anyE_oneL 10 (by kernel_rfl) rfl (fun K' hK' => ?_)
            go_simp
            obtain ⟨u132, hu⟩ : ∃ u, u = (u131.setCell ⟨u130.heap.size, 0, none⟩ (.int .i64 p)).setCell ⟨u130.heap.size, 1, none⟩ (.slice (some ⟨u128.heap.size, 0, none⟩) 0 0) := ⟨_, rfl⟩
            have ⟨c0, c1, z1, yu132, yyu132⟩ := mS hu d0 d1 e1
            replace oE := mO hu oE (fun h => by simp [blk] at h; omega)
            replace oP := mO hu oP (fun h => by simp [blk] at h; omega)
            replace oS := mO hu oS (fun h => by have := gS _ h; have := gS2 _ h; omega)
            replace hm := mB hu hm (by omega)
            rw [← hu]
            clear hu d0 d1 e0 e1
            refine hK'.out _ _ (F _ hm) ?_
            clear hK' K'
            have hS2 := F _ hm
            refine anyE_takeH 11 rfl (by kernel_rfl) (fun _ _ _ h => h) hS2 (by rfl) (v := ?_) ?_ ?_
            rotate_left
            · intro w' hSw; (try dsimp only at hSw); go_simp; (try with_reducible rfl)
            try simp only [Act.put, List.setIfInBounds_toArray, List.set_cons_zero, List.set_cons_succ]
            refine anyE_takeH 12 rfl (by kernel_rfl) (fun _ _ _ h => h) hS2 (by rfl) (v := ?_) ?_ ?_
            rotate_left
            · intro w' hSw; (try dsimp only at hSw); go_simp; (try with_reducible rfl)
            try simp only [Act.put, List.setIfInBounds_toArray, List.set_cons_zero, List.set_cons_succ]
            clear hS2
            refine anyE_doneL (by kernel_rfl) ?_
            go_wp2_with fail
            go_meet
            exact ⟨u130.heap.size, u128.heap.size, u101.heap.size, sa, sc, rfl, rfl, rfl, hide ⟨c0, c1, z1⟩, hide ⟨by omega, by omega, by omega, by omega, fun g h => by have := gS g h; have := gS2 g h; constructor <;> omega⟩, hide oE, hide oP, hide oS, hide hm⟩
          · go_simp
            obtain ⟨u133, hu⟩ : ∃ u, u = u129.alloc (.cells #[.int .i64 0, .slice none 0 0] 26) := ⟨_, rfl⟩
            have ⟨lx, yu133⟩ := al hu
            replace oE := oE.below lx
            replace oP := oP.below lx
            replace sl := sl.below lx
            have ⟨d0, d1, e0, e1⟩ := mQ hu
            rw [← hu]
            clear hu
            replace hm := bnext hm lx
            clear lx
            refine hK'.out _ _ (F _ hm) ?_
            clear hK' K'
            refine anyE_oneL 8 (by kernel_rfl) rfl (fun K' hK' => ?_)
            go_simp
            refine (HT.out _ _ sl).mono ?_
            rintro e u134 ⟨sa, sc, rfl, oS, lx⟩
            dsimp only
            have gS := own_blk_ge oS
            have gS2 := ownLtA oS
            replace oS := oS.mono hm.size
            have yu134 := lx.size
            replace e0 := fr_of lx d0 e0
            replace e1 := fr_of lx d1 e1
            replace d0 := cell_be lx d0
            replace d1 := cell_be lx d1
            replace oE := oE.below lx
            replace oP := oP.below lx
            replace sl := sl.below lx
            replace hm := bnext hm lx
            clear lx sl
            refine hK'.out _ _ (F _ hm) ?_
            clear hK' K'
            refine anyE_oneL 10 (by kernel_rfl) rfl (fun K' hK' => ?_)
            go_simp
            obtain ⟨u135, hu⟩ : ∃ u, u = (u134.setCell ⟨u129.heap.size, 0, none⟩ (.int .i64 p)).setCell ⟨u129.heap.size, 1, none⟩ (.slice (some ⟨u128.heap.size, 0, none⟩) 0 0) := ⟨_, rfl⟩
            have ⟨c0, c1, z1, yu135, yyu135⟩ := mS hu d0 d1 e1
            replace oE := mO hu oE (fun h => by simp [blk] at h; omega)
            replace oP := mO hu oP (fun h => by simp [blk] at h; omega)
            replace oS := mO hu oS (fun h => by have := gS _ h; have := gS2 _ h; omega)
            replace hm := mB hu hm (by omega)
            rw [← hu]
            clear hu d0 d1 e0 e1
            refine hK'.out _ _ (F _ hm) ?_
            clear hK' K'
            have hS2 := F _ hm
            refine anyE_takeH 11 rfl (by kernel_rfl) (fun _ _ _ h => h) hS2 (by rfl) (v := ?_) ?_ ?_
            rotate_left
            · intro w' hSw; (try dsimp only at hSw); go_simp; (try with_reducible rfl)
            try simp only [Act.put, List.setIfInBounds_toArray, List.set_cons_zero, List.set_cons_succ]
            refine anyE_takeH 12 rfl (by kernel_rfl) (fun _ _ _ h => h) hS2 (by rfl) (v := ?_) ?_ ?_
            rotate_left
            · intro w' hSw; (try dsimp only at hSw); go_simp; (try with_reducible rfl)
            try simp only [Act.put, List.setIfInBounds_toArray, List.set_cons_zero, List.set_cons_succ]
            clear hS2
            refine anyE_doneL (by kernel_rfl) ?_
            go_wp2_with fail
            go_meet
            exact ⟨u129.heap.size, u128.heap.size, u101.heap.size, sa, sc, rfl, rfl, rfl, hide ⟨c0, c1, z1⟩, hide ⟨by omega, by omega, by omega, by omega, fun g h => by have := gS g h; have := gS2 g h; constructor <;> omega⟩, hide oE, hide oP, hide oS, hide hm⟩
        · go_simp
          refine (HT.out _ _ sl).mono ?_
          rintro e u136 ⟨sa, sc, rfl, oS, lx⟩
          dsimp only
          have gS := own_blk_ge oS
          have gS2 := ownLtA oS
          replace oS := oS.mono hm.size
          have yu136 := lx.size
          replace oP := oP.below lx
          replace sl := sl.below lx
          replace hm := bnext hm lx
          clear lx sl
          refine hK'.out _ _ (F _ hm) ?_
          clear hK' K'
          refine anyE_2L 2 9 (by kernel_rfl) rfl rfl (fun K' hK' => ?_) (fun K' hK' => ?_)
          · go_simp
            obtain ⟨u137, hu⟩ : ∃ u, u = u136.alloc (.cells #[] 2) := ⟨_, rfl⟩
            have ⟨lx, yu137⟩ := al hu
            replace oP := oP.below lx
            replace oS := oS.below lx
            have oE := mE hu hm.size
            rw [← hu]
            clear hu
            replace hm := bnext hm lx
            clear lx
            refine hK'.out _ _ (F _ hm) ?_
            clear hK' K'
            have hS2 := F _ hm
            refine anyE_takeH 3 rfl (by kernel_rfl) (fun _ _ _ h => h) hS2 (by rfl) (v := ?_) ?_ ?_
            rotate_left
            · intro w' hSw; (try dsimp only at hSw); go_simp; (try with_reducible rfl)
            try simp only [Act.put, List.setIfInBounds_toArray, List.set_cons_zero, List.set_cons_succ]
            clear hS2
            refine anyE_oneL 9 (by kernel_rfl) rfl (fun K' hK' => ?_)
            go_simp
            obtain ⟨u138, hu⟩ : ∃ u, u = u137.alloc (.cells #[.int .i64 0, .slice none 0 0] 26) := ⟨_, rfl⟩
            have ⟨lx, yu138⟩ := al hu
            replace oE := oE.below lx
            replace oP := oP.below lx
            replace oS := oS.below lx
            have ⟨d0, d1, e0, e1⟩ := mQ hu
            rw [← hu]
            clear hu
            replace hm := bnext hm lx
            clear lx
            refine hK'.out _ _ (F _ hm) ?_
            clear hK' K'
            refine anyE_oneL 10 (by kernel_rfl) rfl (fun K' hK' => ?_)
            go_simp
            obtain ⟨u139, hu⟩ : ∃ u, u = (u138.setCell ⟨u137.heap.size, 0, none⟩ (.int .i64 p)).setCell ⟨u137.heap.size, 1, none⟩ (.slice (some ⟨u136.heap.size, 0, none⟩) 0 0) := ⟨_, rfl⟩
            have ⟨c0, c1, z1, yu139, yyu139⟩ := mS hu d0 d1 e1
            replace oE := mO hu oE (fun h => by simp [blk] at h; omega)
            replace oP := mO hu oP (fun h => by simp [blk] at h; omega)
            replace oS := mO hu oS (fun h => by have := gS _ h; have := gS2 _ h; omega)
            replace hm := mB hu hm (by omega)
            rw [← hu]
            clear hu d0 d1 e0 e1
            refine hK'.out _ _ (F _ hm) ?_
            clear hK' K'
            have hS2 := F _ hm
            refine anyE_takeH 11 rfl (by kernel_rfl) (fun _ _ _ h => h) hS2 (by rfl) (v := ?_) ?_ ?_
            rotate_left
            · intro w' hSw; (try dsimp only at hSw); go_simp; (try with_reducible rfl)
            try simp only [Act.put, List.setIfInBounds_toArray, List.set_cons_zero, List.set_cons_succ]
            refine anyE_takeH 12 rfl (by kernel_rfl) (fun _ _ _ h => h) hS2 (by rfl) (v := ?_) ?_ ?_
            rotate_left
            · intro w' hSw; (try dsimp only at hSw); go_simp; (try with_reducible rfl)
            try simp only [Act.put, List.setIfInBounds_toArray, List.set_cons_zero, List.set_cons_succ]
            clear hS2
            refine anyE_doneL (by kernel_rfl) ?_
            go_wp2_with fail
            go_meet
            exact ⟨u137.heap.size, u136.heap.size, u101.heap.size, sa, sc, rfl, rfl, rfl, hide ⟨c0, c1, z1⟩, hide ⟨by omega, by omega, by omega, by omega, fun g h => by have := gS g h; have := gS2 g h; constructor <;> omega⟩, hide oE, hide oP, hide oS, hide hm⟩
          · go_simp
            obtain ⟨u140, hu⟩ : ∃ u, u = u136.alloc (.cells #[.int .i64 0, .slice none 0 0] 26) := ⟨_, rfl⟩
            have ⟨lx, yu140⟩ := al hu
            replace oP := oP.below lx
            replace oS := oS.below lx
            have ⟨d0, d1, e0, e1⟩ := mQ hu
            rw [← hu]
            clear hu
            replace hm := bnext hm lx
            clear lx
            refine hK'.out _ _ (F _ hm) ?_
            clear hK' K'
            refine anyE_oneL 2 (by kernel_rfl) rfl (fun K' hK' => ?_)
            go_simp
            obtain ⟨u141, hu⟩ : ∃ u, u = u140.alloc (.cells #[] 2) := ⟨_, rfl⟩
            have ⟨lx, yu141⟩ := al hu
            replace e0 := fr_of lx d0 e0
            replace e1 := fr_of lx d1 e1
            replace d0 := cell_be lx d0
            replace d1 := cell_be lx d1
            replace oP := oP.below lx
            replace oS := oS.below lx
            have oE := mE hu hm.size
            rw [← hu]
            clear hu
            replace hm := bnext hm lx
            clear lx
            refine hK'.out _ _ (F _ hm) ?_
            clear hK' K'
            have hS2 := F _ hm
            refine anyE_takeH 3 rfl (by kernel_rfl) (fun _ _ _ h => h) hS2 (by rfl) (v := ?_) ?_ ?_
            rotate_left
            · intro w' hSw; (try dsimp only at hSw); go_simp; (try with_reducible rfl)
            try simp only [Act.put, List.setIfInBounds_toArray, List.set_cons_zero, List.set_cons_succ]
            clear hS2
            refine anyE_oneL 10 (by kernel_rfl) rfl (fun K' hK' => ?_)
            go_simp
            obtain ⟨u142, hu⟩ : ∃ u, u = (u141.setCell ⟨u136.heap.size, 0, none⟩ (.int .i64 p)).setCell ⟨u136.heap.size, 1, none⟩ (.slice (some ⟨u140.heap.size, 0, none⟩) 0 0) := ⟨_, rfl⟩
            have ⟨c0, c1, z1, yu142, yyu142⟩ := mS hu d0 d1 e1
            replace oE := mO hu oE (fun h => by simp [blk] at h; omega)
            replace oP := mO hu oP (fun h => by simp [blk] at h; omega)
            replace oS := mO hu oS (fun h => by have := gS _ h; have := gS2 _ h; omega)
            replace hm := mB hu hm (by omega)
            rw [← hu]
            clear hu d0 d1 e0 e1
            refine hK'.out _ _ (F _ hm) ?_
            clear hK' K'
            have hS2 := F _ hm
            refine anyE_takeH 11 rfl (by kernel_rfl) (fun _ _ _ h => h) hS2 (by rfl) (v := ?_) ?_ ?_
            rotate_left
            · intro w' hSw; (try dsimp only at hSw); go_simp; (try with_reducible rfl)
            try simp only [Act.put, List.setIfInBounds_toArray, List.set_cons_zero, List.set_cons_succ]
            refine anyE_takeH 12 rfl (by kernel_rfl) (fun _ _ _ h => h) hS2 (by rfl) (v := ?_) ?_ ?_
            rotate_left
            · intro w' hSw; (try dsimp only at hSw); go_simp; (try with_reducible rfl)
            try simp only [Act.put, List.setIfInBounds_toArray, List.set_cons_zero, List.set_cons_succ]
            clear hS2
            refine anyE_doneL (by kernel_rfl) ?_
            go_wp2_with fail
            go_meet
            exact ⟨u136.heap.size, u140.heap.size, u101.heap.size, sa, sc, rfl, rfl, rfl, hide ⟨c0, c1, z1⟩, hide ⟨by omega, by omega, by omega, by omega, fun g h => by have := gS g h; have := gS2 g h; constructor <;> omega⟩, hide oE, hide oP, hide oS, hide hm⟩
        · go_simp
          obtain ⟨u143, hu⟩ : ∃ u, u = u128.alloc (.cells #[.int .i64 0, .slice none 0 0] 26) := ⟨_, rfl⟩
          have ⟨lx, yu143⟩ := al hu
          replace oP := oP.below lx
          replace sl := sl.below lx
          have ⟨d0, d1, e0, e1⟩ := mQ hu
          rw [← hu]
          clear hu
          replace hm := bnext hm lx
          clear lx
          refine hK'.out _ _ (F _ hm) ?_
          clear hK' K'
          refine anyE_2L 2 8 (by kernel_rfl) rfl rfl (fun K' hK' => ?_) (fun K' hK' => ?_)
          · go_simp
            obtain ⟨u144, hu⟩ : ∃ u, u = u143.alloc (.cells #[] 2) := ⟨_, rfl⟩
            have ⟨lx, yu144⟩ := al hu
            replace e0 := fr_of lx d0 e0
            replace e1 := fr_of lx d1 e1
            replace d0 := cell_be lx d0
            replace d1 := cell_be lx d1
            replace oP := oP.below lx
            replace sl := sl.below lx
            have oE := mE hu hm.size
            rw [← hu]
            clear hu
            replace hm := bnext hm lx
            clear lx
            refine hK'.out _ _ (F _ hm) ?_
            clear hK' K'
            have hS2 := F _ hm
            refine anyE_takeH 3 rfl (by kernel_rfl) (fun _ _ _ h => h) hS2 (by rfl) (v := ?_) ?_ ?_
            rotate_left
            · intro w' hSw; (try dsimp only at hSw); go_simp; (try with_reducible rfl)
            try simp only [Act.put, List.setIfInBounds_toArray, List.set_cons_zero, List.set_cons_succ]
            clear hS2
            refine anyE_oneL 8 (by kernel_rfl) rfl (fun K' hK' => ?_)
            go_simp
            refine (HT.out _ _ sl).mono ?_
            rintro e u145 ⟨sa, sc, rfl, oS, lx⟩
            dsimp only
            have gS := own_blk_ge oS
            have gS2 := ownLtA oS
            replace oS := oS.mono hm.size
            have yu145 := lx.size
            replace e0 := fr_of lx d0 e0
            replace e1 := fr_of lx d1 e1
            replace d0 := cell_be lx d0
            replace d1 := cell_be lx d1
            replace oE := oE.below lx
            replace oP := oP.below lx
            replace sl := sl.below lx
            replace hm := bnext hm lx
            clear lx sl
            refine hK'.out _ _ (F _ hm) ?_
            clear hK' K'
            refine anyE_oneL 10 (by kernel_rfl) rfl (fun K' hK' => ?_)
            go_simp
            obtain ⟨u146, hu⟩ : ∃ u, u = (u145.setCell ⟨u128.heap.size, 0, none⟩ (.int .i64 p)).setCell ⟨u128.heap.size, 1, none⟩ (.slice (some ⟨u143.heap.size, 0, none⟩) 0 0) := ⟨_, rfl⟩
            have ⟨c0, c1, z1, yu146, yyu146⟩ := mS hu d0 d1 e1
            replace oE := mO hu oE (fun h => by simp [blk] at h; omega)
            replace oP := mO hu oP (fun h => by simp [blk] at h; omega)
            replace oS := mO hu oS (fun h => by have := gS _ h; have := gS2 _ h; omega)
            replace hm := mB hu hm (by omega)
            rw [← hu]
            clear hu d0 d1 e0 e1
            refine hK'.out _ _ (F _ hm) ?_
            clear hK' K'
            have hS2 := F _ hm
            refine anyE_takeH 11 rfl (by kernel_rfl) (fun _ _ _ h => h) hS2 (by rfl) (v := ?_) ?_ ?_
            rotate_left
            · intro w' hSw; (try dsimp only at hSw); go_simp; (try with_reducible rfl)
            try simp only [Act.put, List.setIfInBounds_toArray, List.set_cons_zero, List.set_cons_succ]
            refine anyE_takeH 12 rfl (by kernel_rfl) (fun _ _ _ h => h) hS2 (by rfl) (v := ?_) ?_ ?_
            rotate_left
            · intro w' hSw; (try dsimp only at hSw); go_simp; (try with_reducible rfl)
            try simp only [Act.put, List.setIfInBounds_toArray, List.set_cons_zero, List.set_cons_succ]
            clear hS2
            refine anyE_doneL (by kernel_rfl) ?_
            go_wp2_with fail
            go_meet
            exact ⟨u128.heap.size, u143.heap.size, u101.heap.size, sa, sc, rfl, rfl, rfl, hide ⟨c0, c1, z1⟩, hide ⟨by omega, by omega, by omega, by omega, fun g h => by have := gS g h; have := gS2 g h; constructor <;> omega⟩, hide oE, hide oP, hide oS, hide hm⟩
          · go_simp
            refine (HT.out _ _ sl).mono ?_
            rintro e u147 ⟨sa, sc, rfl, oS, lx⟩
            dsimp only
            have gS := own_blk_ge oS
            have gS2 := ownLtA oS
            replace oS := oS.mono hm.size
            have yu147 := lx.size
            replace e0 := fr_of lx d0 e0
            replace e1 := fr_of lx d1 e1
            replace d0 := cell_be lx d0
            replace d1 := cell_be lx d1
            replace oP := oP.below lx
            replace sl := sl.below lx
            replace hm := bnext hm lx
            clear lx sl
            refine hK'.out _ _ (F _ hm) ?_
            clear hK' K'
            refine anyE_oneL 2 (by kernel_rfl) rfl (fun K' hK' => ?_)
            go_simp
            obtain ⟨u148, hu⟩ : ∃ u, u = u147.alloc (.cells #[] 2) := ⟨_, rfl⟩
            have ⟨lx, yu148⟩ := al hu
            replace e0 := fr_of lx d0 e0
            replace e1 := fr_of lx d1 e1
            replace d0 := cell_be lx d0
            replace d1 := cell_be lx d1
            replace oP := oP.below lx
            replace oS := oS.below lx
            have oE := mE hu hm.size
            rw [← hu]
            clear hu
            replace hm := bnext hm lx
            clear lx
            refine hK'.out _ _ (F _ hm) ?_
            clear hK' K'
            have hS2 := F _ hm
            refine anyE_takeH 3 rfl (by kernel_rfl) (fun _ _ _ h => h) hS2 (by rfl) (v := ?_) ?_ ?_
            rotate_left
            · intro w' hSw; (try dsimp only at hSw); go_simp; (try with_reducible rfl)
            try simp only [Act.put, List.setIfInBounds_toArray, List.set_cons_zero, List.set_cons_succ]
            clear hS2
            refine anyE_oneL 10 (by kernel_rfl) rfl (fun K' hK' => ?_)
            go_simp
            obtain ⟨u149, hu⟩ : ∃ u, u = (u148.setCell ⟨u128.heap.size, 0, none⟩ (.int .i64 p)).setCell ⟨u128.heap.size, 1, none⟩ (.slice (some ⟨u147.heap.size, 0, none⟩) 0 0) := ⟨_, rfl⟩
            have ⟨c0, c1, z1, yu149, yyu149⟩ := mS hu d0 d1 e1
            replace oE := mO hu oE (fun h => by simp [blk] at h; omega)
            replace oP := mO hu oP (fun h => by simp [blk] at h; omega)
            replace oS := mO hu oS (fun h => by have := gS _ h; have := gS2 _ h; omega)
            replace hm := mB hu hm (by omega)
            rw [← hu]
            clear hu d0 d1 e0 e1
            refine hK'.out _ _ (F _ hm) ?_
            clear hK' K'
            have hS2 := F _ hm
            refine anyE_takeH 11 rfl (by kernel_rfl) (fun _ _ _ h => h) hS2 (by rfl) (v := ?_) ?_ ?_
            rotate_left
            · intro w' hSw; (try dsimp only at hSw); go_simp; (try with_reducible rfl)
            try simp only [Act.put, List.setIfInBounds_toArray, List.set_cons_zero, List.set_cons_succ]
            refine anyE_takeH 12 rfl (by kernel_rfl) (fun _ _ _ h => h) hS2 (by rfl) (v := ?_) ?_ ?_
            rotate_left
            · intro w' hSw; (try dsimp only at hSw); go_simp; (try with_reducible rfl)
            try simp only [Act.put, List.setIfInBounds_toArray, List.set_cons_zero, List.set_cons_succ]
            clear hS2
            refine anyE_doneL (by kernel_rfl) ?_
            go_wp2_with fail
            go_meet
            exact ⟨u128.heap.size, u147.heap.size, u101.heap.size, sa, sc, rfl, rfl, rfl, hide ⟨c0, c1, z1⟩, hide ⟨by omega, by omega, by omega, by omega, fun g h => by have := gS g h; have := gS2 g h; constructor <;> omega⟩, hide oE, hide oP, hide oS, hide hm⟩
      · go_simp
        refine (HT.out _ _ sl).mono ?_
        rintro e u150 ⟨sa, sc, rfl, oS, lx⟩
        dsimp only
        have gS := own_blk_ge oS
        have gS2 := ownLtA oS
        replace oS := oS.mono hm.size
        have yu150 := lx.size
        replace sl := sl.below lx
        replace hm := bnext hm lx
        clear lx sl
        refine hK'.out _ _ (F _ hm) ?_
        clear hK' K'
        refine anyE_3L 2 4 9 (by kernel_rfl) rfl rfl rfl (fun K' hK' => ?_) (fun K' hK' => ?_) (fun K' hK' => ?_)
        · go_simp
          obtain ⟨u151, hu⟩ : ∃ u, u = u150.alloc (.cells #[] 2) := ⟨_, rfl⟩
          have ⟨lx, yu151⟩ := al hu
          replace oS := oS.below lx
          have oE := mE hu hm.size
          rw [← hu]
          clear hu
          replace hm := bnext hm lx
          clear lx
          refine hK'.out _ _ (F _ hm) ?_
          clear hK' K'
          have hS2 := F _ hm
          refine anyE_takeH 3 rfl (by kernel_rfl) (fun _ _ _ h => h) hS2 (by rfl) (v := ?_) ?_ ?_
          rotate_left
          · intro w' hSw; (try dsimp only at hSw); go_simp; (try with_reducible rfl)
          try simp only [Act.put, List.setIfInBounds_toArray, List.set_cons_zero, List.set_cons_succ]
          clear hS2
          refine anyE_2L 4 9 (by kernel_rfl) rfl rfl (fun K' hK' => ?_) (fun K' hK' => ?_)
          · go_simp
            obtain ⟨u152, hu⟩ : ∃ u, u = u151.alloc (.cells #[.int .i64 1] 2) := ⟨_, rfl⟩
            have ⟨lx, yu152⟩ := al hu
            replace oE := oE.below lx
            replace oS := oS.below lx
            have oP := mP hu hm.size
            rw [← hu]
            clear hu
            replace hm := bnext hm lx
            clear lx
            refine hK'.out _ _ (F _ hm) ?_
            clear hK' K'
            refine anyE_oneL 9 (by kernel_rfl) rfl (fun K' hK' => ?_)
            go_simp
            obtain ⟨u153, hu⟩ : ∃ u, u = u152.alloc (.cells #[.int .i64 0, .slice none 0 0] 26) := ⟨_, rfl⟩
            have ⟨lx, yu153⟩ := al hu
            replace oE := oE.below lx
            replace oP := oP.below lx
            replace oS := oS.below lx
            have ⟨d0, d1, e0, e1⟩ := mQ hu
            rw [← hu]
            clear hu
            replace hm := bnext hm lx
            clear lx
            refine hK'.out _ _ (F _ hm) ?_
            clear hK' K'
            refine anyE_oneL 10 (by kernel_rfl) rfl (fun K' hK' => ?_)
            go_simp
            obtain ⟨u154, hu⟩ : ∃ u, u = (u153.setCell ⟨u152.heap.size, 0, none⟩ (.int .i64 p)).setCell ⟨u152.heap.size, 1, none⟩ (.slice (some ⟨u150.heap.size, 0, none⟩) 0 0) := ⟨_, rfl⟩
            have ⟨c0, c1, z1, yu154, yyu154⟩ := mS hu d0 d1 e1
            replace oE := mO hu oE (fun h => by simp [blk] at h; omega)
            replace oP := mO hu oP (fun h => by simp [blk] at h; omega)
            replace oS := mO hu oS (fun h => by have := gS _ h; have := gS2 _ h; omega)
            replace hm := mB hu hm (by omega)
            rw [← hu]
            clear hu d0 d1 e0 e1
            refine hK'.out _ _ (F _ hm) ?_
            clear hK' K'
            have hS2 := F _ hm
            refine anyE_takeH 11 rfl (by kernel_rfl) (fun _ _ _ h => h) hS2 (by rfl) (v := ?_) ?_ ?_
            rotate_left
            · intro w' hSw; (try dsimp only at hSw); go_simp; (try with_reducible rfl)
            try simp only [Act.put, List.setIfInBounds_toArray, List.set_cons_zero, List.set_cons_succ]
            refine anyE_takeH 12 rfl (by kernel_rfl) (fun _ _ _ h => h) hS2 (by rfl) (v := ?_) ?_ ?_
            rotate_left
            · intro w' hSw; (try dsimp only at hSw); go_simp; (try with_reducible rfl)
            try simp only [Act.put, List.setIfInBounds_toArray, List.set_cons_zero, List.set_cons_succ]
            clear hS2
            refine anyE_doneL (by kernel_rfl) ?_
            go_wp2_with fail
            go_meet
            exact ⟨u152.heap.size, u150.heap.size, u151.heap.size, sa, sc, rfl, rfl, rfl, hide ⟨c0, c1, z1⟩, hide ⟨by omega, by omega, by omega, by omega, fun g h => by have := gS g h; have := gS2 g h; constructor <;> omega⟩, hide oE, hide oP, hide oS, hide hm⟩
          · go_simp
            obtain ⟨u155, hu⟩ : ∃ u, u = u151.alloc (.cells #[.int .i64 0, .slice none 0 0] 26) := ⟨_, rfl⟩
            have ⟨lx, yu155⟩ := al hu
            replace oE := oE.below lx
            replace oS := oS.below lx
            have ⟨d0, d1, e0, e1⟩ := mQ hu
            rw [← hu]
            clear hu
            replace hm := bnext hm lx
            clear lx
            refine hK'.out _ _ (F _ hm) ?_
            clear hK' K'
            refine anyE_2L 4 10 (by kernel_rfl) rfl rfl (fun K' hK' => ?_) (fun K' hK' => ?_)
            · go_simp
              obtain ⟨u156, hu⟩ : ∃ u, u = u155.alloc (.cells #[.int .i64 1] 2) := ⟨_, rfl⟩
              have ⟨lx, yu156⟩ := al hu
              replace e0 := fr_of lx d0 e0
              replace e1 := fr_of lx d1 e1
              replace d0 := cell_be lx d0
              replace d1 := cell_be lx d1
              replace oE := oE.below lx
              replace oS := oS.below lx
              have oP := mP hu hm.size
              rw [← hu]
              clear hu
              replace hm := bnext hm lx
              clear lx
              refine hK'.out _ _ (F _ hm) ?_
              clear hK' K'
              refine anyE_oneL 10 (by kernel_rfl) rfl (fun K' hK' => ?_)
              go_simp
              obtain ⟨u157, hu⟩ : ∃ u, u = (u156.setCell ⟨u151.heap.size, 0, none⟩ (.int .i64 p)).setCell ⟨u151.heap.size, 1, none⟩ (.slice (some ⟨u150.heap.size, 0, none⟩) 0 0) := ⟨_, rfl⟩
              have ⟨c0, c1, z1, yu157, yyu157⟩ := mS hu d0 d1 e1
              replace oE := mO hu oE (fun h => by simp [blk] at h; omega)
              replace oP := mO hu oP (fun h => by simp [blk] at h; omega)
              replace oS := mO hu oS (fun h => by have := gS _ h; have := gS2 _ h; omega)
              replace hm := mB hu hm (by omega)
              rw [← hu]
              clear hu d0 d1 e0 e1
              refine hK'.out _ _ (F _ hm) ?_
              clear hK' K'
              have hS2 := F _ hm
              refine anyE_takeH 11 rfl (by kernel_rfl) (fun _ _ _ h => h) hS2 (by rfl) (v := ?_) ?_ ?_
              rotate_left
              · intro w' hSw; (try dsimp only at hSw); go_simp; (try with_reducible rfl)
              try simp only [Act.put, List.setIfInBounds_toArray, List.set_cons_zero, List.set_cons_succ]
              refine anyE_takeH 12 rfl (by kernel_rfl) (fun _ _ _ h => h) hS2 (by rfl) (v := ?_) ?_ ?_
              rotate_left
              · intro w' hSw; (try dsimp only at hSw); go_simp; (try with_reducible rfl)
              try simp only [Act.put, List.setIfInBounds_toArray, List.set_cons_zero, List.set_cons_succ]
              clear hS2
              refine anyE_doneL (by kernel_rfl) ?_
              go_wp2_with fail
              go_meet
              exact ⟨u151.heap.size, u150.heap.size, u155.heap.size, sa, sc, rfl, rfl, rfl, hide ⟨c0, c1, z1⟩, hide ⟨by omega, by omega, by omega, by omega, fun g h => by have := gS g h; have := gS2 g h; constructor <;> omega⟩, hide oE, hide oP, hide oS, hide hm⟩
            · go_simp
              obtain ⟨u158, hu⟩ : ∃ u, u = (u155.setCell ⟨u151.heap.size, 0, none⟩ (.int .i64 p)).setCell ⟨u151.heap.size, 1, none⟩ (.slice (some ⟨u150.heap.size, 0, none⟩) 0 0) := ⟨_, rfl⟩
              have ⟨c0, c1, z1, yu158, yyu158⟩ := mS hu d0 d1 e1
              replace oE := mO hu oE (fun h => by simp [blk] at h; omega)
              replace oS := mO hu oS (fun h => by have := gS _ h; have := gS2 _ h; omega)
              replace hm := mB hu hm (by omega)
              rw [← hu]
              clear hu d0 d1 e0 e1
              refine hK'.out _ _ (F _ hm) ?_
              clear hK' K'
              refine anyE_oneL 4 (by kernel_rfl) rfl (fun K' hK' => ?_)
              go_simp
              obtain ⟨u159, hu⟩ : ∃ u, u = u158.alloc (.cells #[.int .i64 1] 2) := ⟨_, rfl⟩
              have ⟨lx, yu159⟩ := al hu
              replace c0 := cell_be lx c0
              replace z1 := fr_of lx c1 z1
              replace c1 := cell_be lx c1
              replace oE := oE.below lx
              replace oS := oS.below lx
              have oP := mP hu hm.size
              rw [← hu]
              clear hu
              replace hm := bnext hm lx
              clear lx
              refine hK'.out _ _ (F _ hm) ?_
              clear hK' K'
              have hS2 := F _ hm
              refine anyE_takeH 11 rfl (by kernel_rfl) (fun _ _ _ h => h) hS2 (by rfl) (v := ?_) ?_ ?_
              rotate_left
              · intro w' hSw; (try dsimp only at hSw); go_simp; (try with_reducible rfl)
              try simp only [Act.put, List.setIfInBounds_toArray, List.set_cons_zero, List.set_cons_succ]
              refine anyE_takeH 12 rfl (by kernel_rfl) (fun _ _ _ h => h) hS2 (by rfl) (v := ?_) ?_ ?_
              rotate_left
              · intro w' hSw; (try dsimp only at hSw); go_simp; (try with_reducible rfl)
              try simp only [Act.put, List.setIfInBounds_toArray, List.set_cons_zero, List.set_cons_succ]
              clear hS2
              refine anyE_doneL (by kernel_rfl) ?_
              go_wp2_with fail
              go_meet
              exact ⟨u151.heap.size, u150.heap.size, u158.heap.size, sa, sc, rfl, rfl, rfl, hide ⟨c0, c1, z1⟩, hide ⟨by omega, by omega, by omega, by omega, fun g h => by have := gS g h; have := gS2 g h; constructor <;> omega⟩, hide oE, hide oP, hide oS, hide hm⟩
        · go_simp
          obtain ⟨u160, hu⟩ : ∃ u, u = u150.alloc (.cells #[.int .i64 1] 2) := ⟨_, rfl⟩
          have ⟨lx, yu160⟩ := al hu
          replace oS := oS.below lx
          have oP := mP hu hm.size
          rw [← hu]
          clear hu
          replace hm := bnext hm lx
          clear lx
          refine hK'.out _ _ (F _ hm) ?_
          clear hK' K'
          refine anyE_2L 2 9 (by kernel_rfl) rfl rfl (fun K' hK' => ?_) (fun K' hK' => ?_)
          · go_simp
            obtain ⟨u161, hu⟩ : ∃ u, u = u160.alloc (.cells #[] 2) := ⟨_, rfl⟩
            have ⟨lx, yu161⟩ := al hu
            replace oP := oP.below lx
            replace oS := oS.below lx
            have oE := mE hu hm.size
            rw [← hu]
            clear hu
            replace hm := bnext hm lx
            clear lx
            refine hK'.out _ _ (F _ hm) ?_
            clear hK' K'
            have hS2 := F _ hm
            refine anyE_takeH 3 rfl (by kernel_rfl) (fun _ _ _ h => h) hS2 (by rfl) (v := ?_) ?_ ?_
            rotate_left
            · intro w' hSw; (try dsimp only at hSw); go_simp; (try with_reducible rfl)
            try simp only [Act.put, List.setIfInBounds_toArray, List.set_cons_zero, List.set_cons_succ]
            clear hS2
            refine anyE_oneL 9 (by kernel_rfl) rfl (fun K' hK' => ?_)
            go_simp
            obtain ⟨u162, hu⟩ : ∃ u, u = u161.alloc (.cells #[.int .i64 0, .slice none 0 0] 26) := ⟨_, rfl⟩
            have ⟨lx, yu162⟩ := al hu
            replace oE := oE.below lx
            replace oP := oP.below lx
            replace oS := oS.below lx
            have ⟨d0, d1, e0, e1⟩ := mQ hu
            rw [← hu]
            clear hu
            replace hm := bnext hm lx
            clear lx
            refine hK'.out _ _ (F _ hm) ?_
            clear hK' K'
            refine anyE_oneL 10 (by kernel_rfl) rfl (fun K' hK' => ?_)
            go_simp
            obtain ⟨u163, hu⟩ : ∃ u, u = (u162.setCell ⟨u161.heap.size, 0, none⟩ (.int .i64 p)).setCell ⟨u161.heap.size, 1, none⟩ (.slice (some ⟨u160.heap.size, 0, none⟩) 0 0) := ⟨_, rfl⟩
            have ⟨c0, c1, z1, yu163, yyu163⟩ := mS hu d0 d1 e1
            replace oE := mO hu oE (fun h => by simp [blk] at h; omega)
            replace oP := mO hu oP (fun h => by simp [blk] at h; omega)
            replace oS := mO hu oS (fun h => by have := gS _ h; have := gS2 _ h; omega)
            replace hm := mB hu hm (by omega)
            rw [← hu]
            clear hu d0 d1 e0 e1
            refine hK'.out _ _ (F _ hm) ?_
            clear hK' K'
            have hS2 := F _ hm
            refine anyE_takeH 11 rfl (by kernel_rfl) (fun _ _ _ h => h) hS2 (by rfl) (v := ?_) ?_ ?_
            rotate_left
            · intro w' hSw; (try dsimp only at hSw); go_simp; (try with_reducible rfl)
            try simp only [Act.put, List.setIfInBounds_toArray, List.set_cons_zero, List.set_cons_succ]
            refine anyE_takeH 12 rfl (by kernel_rfl) (fun _ _ _ h => h) hS2 (by rfl) (v := ?_) ?_ ?_
            rotate_left
            · intro w' hSw; (try dsimp only at hSw); go_simp; (try with_reducible rfl)
            try simp only [Act.put, List.setIfInBounds_toArray, List.set_cons_zero, List.set_cons_succ]
            clear hS2
            refine anyE_doneL (by kernel_rfl) ?_
            go_wp2_with fail
            go_meet
            exact ⟨u161.heap.size, u160.heap.size, u150.heap.size, sa, sc, rfl, rfl, rfl, hide ⟨c0, c1, z1⟩, hide ⟨by omega, by omega, by omega, by omega, fun g h => by have := gS g h; have := gS2 g h; constructor <;> omega⟩, hide oE, hide oP, hide oS, hide hm⟩
          · go_simp
            obtain ⟨u164, hu⟩ : ∃ u, u = u160.alloc (.cells #[.int .i64 0, .slice none 0 0] 26) := ⟨_, rfl⟩
            have ⟨lx, yu164⟩ := al hu
            replace oP := oP.below lx
            replace oS := oS.below lx
            have ⟨d0, d1, e0, e1⟩ := mQ hu
            rw [← hu]
            clear hu
            replace hm := bnext hm lx
            clear lx
            refine hK'.out _ _ (F _ hm) ?_
            clear hK' K'
            refine anyE_oneL 2 (by kernel_rfl) rfl (fun K' hK' => ?_)
            go_simp
            obtain ⟨u165, hu⟩ : ∃ u, u = u164.alloc (.cells #[] 2) := ⟨_, rfl⟩
            have ⟨lx, yu165⟩ := al hu
            replace e0 := fr_of lx d0 e0
            replace e1 := fr_of lx d1 e1
            replace d0 := cell_be lx d0
            replace d1 := cell_be lx d1
            replace oP := oP.below lx
            replace oS := oS.below lx
            have oE := mE hu hm.size
            rw [← hu]
            clear hu
            replace hm := bnext hm lx
            clear lx
            refine hK'.out _ _ (F _ hm) ?_
            clear hK' K'
            have hS2 := F _ hm
            refine anyE_takeH 3 rfl (by kernel_rfl) (fun _ _ _ h => h) hS2 (by rfl) (v := ?_) ?_ ?_
            rotate_left
            · intro w' hSw; (try dsimp only at hSw); go_simp; (try with_reducible rfl)
            try simp only [Act.put, List.setIfInBounds_toArray, List.set_cons_zero, List.set_cons_succ]
            clear hS2
            refine anyE_oneL 10 (by kernel_rfl) rfl (fun K' hK' => ?_)
            go_simp
            obtain ⟨u166, hu⟩ : ∃ u, u = (u165.setCell ⟨u160.heap.size, 0, none⟩ (.int .i64 p)).setCell ⟨u160.heap.size, 1, none⟩ (.slice (some ⟨u164.heap.size, 0, none⟩) 0 0) := ⟨_, rfl⟩
            have ⟨c0, c1, z1, yu166, yyu166⟩ := mS hu d0 d1 e1
            replace oE := mO hu oE (fun h => by simp [blk] at h; omega)
            replace oP := mO hu oP (fun h => by simp [blk] at h; omega)
            replace oS := mO hu oS (fun h => by have := gS _ h; have := gS2 _ h; omega)
            replace hm := mB hu hm (by omega)
            rw [← hu]
            clear hu d0 d1 e0 e1
            refine hK'.out _ _ (F _ hm) ?_
            clear hK' K'
            have hS2 := F _ hm
            refine anyE_takeH 11 rfl (by kernel_rfl) (fun _ _ _ h => h) hS2 (by rfl) (v := ?_) ?_ ?_
            rotate_left
            · intro w' hSw; (try dsimp only at hSw); go_simp; (try with_reducible rfl)
            try simp only [Act.put, List.setIfInBounds_toArray, List.set_cons_zero, List.set_cons_succ]
            refine anyE_takeH 12 rfl (by kernel_rfl) (fun _ _ _ h => h) hS2 (by rfl) (v := ?_) ?_ ?_
            rotate_left
            · intro w' hSw; (try dsimp only at hSw); go_simp; (try with_reducible rfl)
            try simp only [Act.put, List.setIfInBounds_toArray, List.set_cons_zero, List.set_cons_succ]
            clear hS2
            refine anyE_doneL (by kernel_rfl) ?_
            go_wp2_with fail
            go_meet
            exact ⟨u160.heap.size, u164.heap.size, u150.heap.size, sa, sc, rfl, rfl, rfl, hide ⟨c0, c1, z1⟩, hide ⟨by omega, by omega, by omega, by omega, fun g h => by have := gS g h; have := gS2 g h; constructor <;> omega⟩, hide oE, hide oP, hide oS, hide hm⟩
        · go_simp
          obtain ⟨u167, hu⟩ : ∃ u, u = u150.alloc (.cells #[.int .i64 0, .slice none 0 0] 26) := ⟨_, rfl⟩
          have ⟨lx, yu167⟩ := al hu
          replace oS := oS.below lx
          have ⟨d0, d1, e0, e1⟩ := mQ hu
          rw [← hu]
          clear hu
          replace hm := bnext hm lx
          clear lx
          refine hK'.out _ _ (F _ hm) ?_
          clear hK' K'
          refine anyE_2L 2 4 (by kernel_rfl) rfl rfl (fun K' hK' => ?_) (fun K' hK' => ?_)
          · go_simp
            obtain ⟨u168, hu⟩ : ∃ u, u = u167.alloc (.cells #[] 2) := ⟨_, rfl⟩
            have ⟨lx, yu168⟩ := al hu
            replace e0 := fr_of lx d0 e0
            replace e1 := fr_of lx d1 e1
            replace d0 := cell_be lx d0
            replace d1 := cell_be lx d1
            replace oS := oS.below lx
            have oE := mE hu hm.size
            rw [← hu]
            clear hu
            replace hm := bnext hm lx
            clear lx
            refine hK'.out _ _ (F _ hm) ?_
            clear hK' K'
            have hS2 := F _ hm
            refine anyE_takeH 3 rfl (by kernel_rfl) (fun _ _ _ h => h) hS2 (by rfl) (v := ?_) ?_ ?_
            rotate_left
            · intro w' hSw; (try dsimp only at hSw); go_simp; (try with_reducible rfl)
            try simp only [Act.put, List.setIfInBounds_toArray, List.set_cons_zero, List.set_cons_succ]
            clear hS2
            refine anyE_2L 4 10 (by kernel_rfl) rfl rfl (fun K' hK' => ?_) (fun K' hK' => ?_)
            · go_simp
              obtain ⟨u169, hu⟩ : ∃ u, u = u168.alloc (.cells #[.int .i64 1] 2) := ⟨_, rfl⟩
              have ⟨lx, yu169⟩ := al hu
              replace e0 := fr_of lx d0 e0
              replace e1 := fr_of lx d1 e1
              replace d0 := cell_be lx d0
              replace d1 := cell_be lx d1
              replace oE := oE.below lx
              replace oS := oS.below lx
              have oP := mP hu hm.size
              rw [← hu]
              clear hu
              replace hm := bnext hm lx
              clear lx
              refine hK'.out _ _ (F _ hm) ?_
              clear hK' K'
              refine anyE_oneL 10 (by kernel_rfl) rfl (fun K' hK' => ?_)
              go_simp
              obtain ⟨u170, hu⟩ : ∃ u, u = (u169.setCell ⟨u150.heap.size, 0, none⟩ (.int .i64 p)).setCell ⟨u150.heap.size, 1, none⟩ (.slice (some ⟨u167.heap.size, 0, none⟩) 0 0) := ⟨_, rfl⟩
              have ⟨c0, c1, z1, yu170, yyu170⟩ := mS hu d0 d1 e1
              replace oE := mO hu oE (fun h => by simp [blk] at h; omega)
              replace oP := mO hu oP (fun h => by simp [blk] at h; omega)
              replace oS := mO hu oS (fun h => by have := gS _ h; have := gS2 _ h; omega)
              replace hm := mB hu hm (by omega)
              rw [← hu]
              clear hu d0 d1 e0 e1
              refine hK'.out _ _ (F _ hm) ?_
              clear hK' K'
              have hS2 := F _ hm
              refine anyE_takeH 11 rfl (by kernel_rfl) (fun _ _ _ h => h) hS2 (by rfl) (v := ?_) ?_ ?_
              rotate_left
              · intro w' hSw; (try dsimp only at hSw); go_simp; (try with_reducible rfl)
              try simp only [Act.put, List.setIfInBounds_toArray, List.set_cons_zero, List.set_cons_succ]
              refine anyE_takeH 12 rfl (by kernel_rfl) (fun _ _ _ h => h) hS2 (by rfl) (v := ?_) ?_ ?_
              rotate_left
              · intro w' hSw; (try dsimp only at hSw); go_simp; (try with_reducible rfl)
              try simp only [Act.put, List.setIfInBounds_toArray, List.set_cons_zero, List.set_cons_succ]
              clear hS2
              refine anyE_doneL (by kernel_rfl) ?_
              go_wp2_with fail
              go_meet
              exact ⟨u150.heap.size, u167.heap.size, u168.heap.size, sa, sc, rfl, rfl, rfl, hide ⟨c0, c1, z1⟩, hide ⟨by omega, by omega, by omega, by omega, fun g h => by have := gS g h; have := gS2 g h; constructor <;> omega⟩, hide oE, hide oP, hide oS, hide hm⟩
            · go_simp
              obtain ⟨u171, hu⟩ : ∃ u, u = (u168.setCell ⟨u150.heap.size, 0, none⟩ (.int .i64 p)).setCell ⟨u150.heap.size, 1, none⟩ (.slice (some ⟨u167.heap.size, 0, none⟩) 0 0) := ⟨_, rfl⟩
              have ⟨c0, c1, z1, yu171, yyu171⟩ := mS hu d0 d1 e1
              replace oE := mO hu oE (fun h => by simp [blk] at h; omega)
              replace oS := mO hu oS (fun h => by have := gS _ h; have := gS2 _ h; omega)
              replace hm := mB hu hm (by omega)
              rw [← hu]
              clear hu d0 d1 e0 e1
              refine hK'.out _ _ (F _ hm) ?_
              clear hK' K'
              refine anyE_oneL 4 (by kernel_rfl) rfl (fun K' hK' => ?_)
              go_simp
              obtain ⟨u172, hu⟩ : ∃ u, u = u171.alloc (.cells #[.int .i64 1] 2) := ⟨_, rfl⟩
              have ⟨lx, yu172⟩ := al hu
              replace c0 := cell_be lx c0
              replace z1 := fr_of lx c1 z1
              replace c1 := cell_be lx c1
              replace oE := oE.below lx
              replace oS := oS.below lx
              have oP := mP hu hm.size
              rw [← hu]
              clear hu
              replace hm := bnext hm lx
              clear lx
              refine hK'.out _ _ (F _ hm) ?_
              clear hK' K'
              have hS2 := F _ hm
              refine anyE_takeH 11 rfl (by kernel_rfl) (fun _ _ _ h => h) hS2 (by rfl) (v := ?_) ?_ ?_
              rotate_left
              · intro w' hSw; (try dsimp only at hSw); go_simp; (try with_reducible rfl)
              try simp only [Act.put, List.setIfInBounds_toArray, List.set_cons_zero, List.set_cons_succ]
              refine anyE_takeH 12 rfl (by kernel_rfl) (fun _ _ _ h => h) hS2 (by rfl) (v := ?_) ?_ ?_
              rotate_left
              · intro w' hSw; (try dsimp only at hSw); go_simp; (try with_reducible rfl)
              try simp only [Act.put, List.setIfInBounds_toArray, List.set_cons_zero, List.set_cons_succ]
              clear hS2
              refine anyE_doneL (by kernel_rfl) ?_
              go_wp2_with fail
              go_meet
              exact ⟨u150.heap.size, u167.heap.size, u171.heap.size, sa, sc, rfl, rfl, rfl, hide ⟨c0, c1, z1⟩, hide ⟨by omega, by omega, by omega, by omega, fun g h => by have := gS g h; have := gS2 g h; constructor <;> omega⟩, hide oE, hide oP, hide oS, hide hm⟩
          · go_simp
            obtain ⟨u173, hu⟩ : ∃ u, u = u167.alloc (.cells #[.int .i64 1] 2) := ⟨_, rfl⟩
            have ⟨lx, yu173⟩ := al hu
            replace e0 := fr_of lx d0 e0
            replace e1 := fr_of lx d1 e1
            replace d0 := cell_be lx d0
            replace d1 := cell_be lx d1
            replace oS := oS.below lx
            have oP := mP hu hm.size
            rw [← hu]
            clear hu
            replace hm := bnext hm lx
            clear lx
            refine hK'.out _ _ (F _ hm) ?_
            clear hK' K'
            refine anyE_oneL 2 (by kernel_rfl) rfl (fun K' hK' => ?_)
            go_simp
            obtain ⟨u174, hu⟩ : ∃ u, u = u173.alloc (.cells #[] 2) := ⟨_, rfl⟩
            have ⟨lx, yu174⟩ := al hu
            replace e0 := fr_of lx d0 e0
            replace e1 := fr_of lx d1 e1
            replace d0 := cell_be lx d0
            replace d1 := cell_be lx d1
            replace oP := oP.below lx
            replace oS := oS.below lx
            have oE := mE hu hm.size
            rw [← hu]
            clear hu
            replace hm := bnext hm lx
            clear lx
            refine hK'.out _ _ (F _ hm) ?_
            clear hK' K'
            have hS2 := F _ hm
            refine anyE_takeH 3 rfl (by kernel_rfl) (fun _ _ _ h => h) hS2 (by rfl) (v := ?_) ?_ ?_
            rotate_left
            · intro w' hSw; (try dsimp only at hSw); go_simp; (try with_reducible rfl)
            try simp only [Act.put, List.setIfInBounds_toArray, List.set_cons_zero, List.set_cons_succ]
            clear hS2
            refine anyE_oneL 10 (by kernel_rfl) rfl (fun K' hK' => ?_)
            go_simp
            obtain ⟨u175, hu⟩ : ∃ u, u = (u174.setCell ⟨u150.heap.size, 0, none⟩ (.int .i64 p)).setCell ⟨u150.heap.size, 1, none⟩ (.slice (some ⟨u173.heap.size, 0, none⟩) 0 0) := ⟨_, rfl⟩
            have ⟨c0, c1, z1, yu175, yyu175⟩ := mS hu d0 d1 e1
            replace oE := mO hu oE (fun h => by simp [blk] at h; omega)
            replace oP := mO hu oP (fun h => by simp [blk] at h; omega)
            replace oS := mO hu oS (fun h => by have := gS _ h; have := gS2 _ h; omega)
            replace hm := mB hu hm (by omega)
            rw [← hu]
            clear hu d0 d1 e0 e1
            refine hK'.out _ _ (F _ hm) ?_
            clear hK' K'
            have hS2 := F _ hm
            refine anyE_takeH 11 rfl (by kernel_rfl) (fun _ _ _ h => h) hS2 (by rfl) (v := ?_) ?_ ?_
            rotate_left
            · intro w' hSw; (try dsimp only at hSw); go_simp; (try with_reducible rfl)
            try simp only [Act.put, List.setIfInBounds_toArray, List.set_cons_zero, List.set_cons_succ]
            refine anyE_takeH 12 rfl (by kernel_rfl) (fun _ _ _ h => h) hS2 (by rfl) (v := ?_) ?_ ?_
            rotate_left
            · intro w' hSw; (try dsimp only at hSw); go_simp; (try with_reducible rfl)
            try simp only [Act.put, List.setIfInBounds_toArray, List.set_cons_zero, List.set_cons_succ]
            clear hS2
            refine anyE_doneL (by kernel_rfl) ?_
            go_wp2_with fail
            go_meet
            exact ⟨u150.heap.size, u173.heap.size, u167.heap.size, sa, sc, rfl, rfl, rfl, hide ⟨c0, c1, z1⟩, hide ⟨by omega, by omega, by omega, by omega, fun g h => by have := gS g h; have := gS2 g h; constructor <;> omega⟩, hide oE, hide oP, hide oS, hide hm⟩
      · go_simp
        obtain ⟨u176, hu⟩ : ∃ u, u = u101.alloc (.cells #[.int .i64 0, .slice none 0 0] 26) := ⟨_, rfl⟩
        have ⟨lx, yu176⟩ := al hu
        replace sl := sl.below lx
        have ⟨d0, d1, e0, e1⟩ := mQ hu
        rw [← hu]
        clear hu
        replace hm := bnext hm lx
        clear lx
        refine hK'.out _ _ (F _ hm) ?_
        clear hK' K'
        refine anyE_3L 2 4 8 (by kernel_rfl) rfl rfl rfl (fun K' hK' => ?_) (fun K' hK' => ?_) (fun K' hK' => ?_)
        · go_simp
          obtain ⟨u177, hu⟩ : ∃ u, u = u176.alloc (.cells #[] 2) := ⟨_, rfl⟩
          have ⟨lx, yu177⟩ := al hu
          replace e0 := fr_of lx d0 e0
          replace e1 := fr_of lx d1 e1
          replace d0 := cell_be lx d0
          replace d1 := cell_be lx d1
          replace sl := sl.below lx
          have oE := mE hu hm.size
          rw [← hu]
          clear hu
          replace hm := bnext hm lx
          clear lx
          refine hK'.out _ _ (F _ hm) ?_
          clear hK' K'
          have hS2 := F _ hm
          refine anyE_takeH 3 rfl (by kernel_rfl) (fun _ _ _ h => h) hS2 (by rfl) (v := ?_) ?_ ?_
          rotate_left
          · intro w' hSw; (try dsimp only at hSw); go_simp; (try with_reducible rfl)
          try simp only [Act.put, List.setIfInBounds_toArray, List.set_cons_zero, List.set_cons_succ]
          clear hS2
          refine anyE_2L 4 8 (by kernel_rfl) rfl rfl (fun K' hK' => ?_) (fun K' hK' => ?_)
          · go_simp
            obtain ⟨u178, hu⟩ : ∃ u, u = u177.alloc (.cells #[.int .i64 1] 2) := ⟨_, rfl⟩
            have ⟨lx, yu178⟩ := al hu
            replace e0 := fr_of lx d0 e0
            replace e1 := fr_of lx d1 e1
            replace d0 := cell_be lx d0
            replace d1 := cell_be lx d1
            replace oE := oE.below lx
            replace sl := sl.below lx
            have oP := mP hu hm.size
            rw [← hu]
            clear hu
            replace hm := bnext hm lx
            clear lx
            refine hK'.out _ _ (F _ hm) ?_
            clear hK' K'
            refine anyE_oneL 8 (by kernel_rfl) rfl (fun K' hK' => ?_)
            go_simp
            refine (HT.out _ _ sl).mono ?_
            rintro e u179 ⟨sa, sc, rfl, oS, lx⟩
            dsimp only
            have gS := own_blk_ge oS
            have gS2 := ownLtA oS
            replace oS := oS.mono hm.size
            have yu179 := lx.size
            replace e0 := fr_of lx d0 e0
            replace e1 := fr_of lx d1 e1
            replace d0 := cell_be lx d0
            replace d1 := cell_be lx d1
            replace oE := oE.below lx
            replace oP := oP.below lx
            replace sl := sl.below lx
            replace hm := bnext hm lx
            clear lx sl
            refine hK'.out _ _ (F _ hm) ?_
            clear hK' K'
            refine anyE_oneL 10 (by kernel_rfl) rfl (fun K' hK' => ?_)
            go_simp
            obtain ⟨u180, hu⟩ : ∃ u, u = (u179.setCell ⟨u101.heap.size, 0, none⟩ (.int .i64 p)).setCell ⟨u101.heap.size, 1, none⟩ (.slice (some ⟨u176.heap.size, 0, none⟩) 0 0) := ⟨_, rfl⟩
            have ⟨c0, c1, z1, yu180, yyu180⟩ := mS hu d0 d1 e1
            replace oE := mO hu oE (fun h => by simp [blk] at h; omega)
            replace oP := mO hu oP (fun h => by simp [blk] at h; omega)
            replace oS := mO hu oS (fun h => by have := gS _ h; have := gS2 _ h; omega)
            replace hm := mB hu hm (by omega)
            rw [← hu]
            clear hu d0 d1 e0 e1
            refine hK'.out _ _ (F _ hm) ?_
            clear hK' K'
            have hS2 := F _ hm
            refine anyE_takeH 11 rfl (by kernel_rfl) (fun _ _ _ h => h) hS2 (by rfl) (v := ?_) ?_ ?_
            rotate_left
            · intro w' hSw; (try dsimp only at hSw); go_simp; (try with_reducible rfl)
            try simp only [Act.put, List.setIfInBounds_toArray, List.set_cons_zero, List.set_cons_succ]
            refine anyE_takeH 12 rfl (by kernel_rfl) (fun _ _ _ h => h) hS2 (by rfl) (v := ?_) ?_ ?_
            rotate_left
            · intro w' hSw; (try dsimp only at hSw); go_simp; (try with_reducible rfl)
            try simp only [Act.put, List.setIfInBounds_toArray, List.set_cons_zero, List.set_cons_succ]
            clear hS2
            refine anyE_doneL (by kernel_rfl) ?_
            go_wp2_with fail
            go_meet
            exact ⟨u101.heap.size, u176.heap.size, u177.heap.size, sa, sc, rfl, rfl, rfl, hide ⟨c0, c1, z1⟩, hide ⟨by omega, by omega, by omega, by omega, fun g h => by have := gS g h; have := gS2 g h; constructor <;> omega⟩, hide oE, hide oP, hide oS, hide hm⟩
          · go_simp
            refine (HT.out _ _ sl).mono ?_
            rintro e u181 ⟨sa, sc, rfl, oS, lx⟩
            dsimp only
            have gS := own_blk_ge oS
            have gS2 := ownLtA oS
            replace oS := oS.mono hm.size
            have yu181 := lx.size
            replace e0 := fr_of lx d0 e0
            replace e1 := fr_of lx d1 e1
            replace d0 := cell_be lx d0
            replace d1 := cell_be lx d1
            replace oE := oE.below lx
            replace sl := sl.below lx
            replace hm := bnext hm lx
            clear lx sl
            refine hK'.out _ _ (F _ hm) ?_
            clear hK' K'
            refine anyE_2L 4 10 (by kernel_rfl) rfl rfl (fun K' hK' => ?_) (fun K' hK' => ?_)
            · go_simp
              obtain ⟨u182, hu⟩ : ∃ u, u = u181.alloc (.cells #[.int .i64 1] 2) := ⟨_, rfl⟩
              have ⟨lx, yu182⟩ := al hu
              replace e0 := fr_of lx d0 e0
              replace e1 := fr_of lx d1 e1
              replace d0 := cell_be lx d0
              replace d1 := cell_be lx d1
              replace oE := oE.below lx
              replace oS := oS.below lx
              have oP := mP hu hm.size
              rw [← hu]
              clear hu
              replace hm := bnext hm lx
              clear lx
              refine hK'.out _ _ (F _ hm) ?_
              clear hK' K'
              refine anyE_oneL 10 (by kernel_rfl) rfl (fun K' hK' => ?_)
              go_simp
              obtain ⟨u183, hu⟩ : ∃ u, u = (u182.setCell ⟨u101.heap.size, 0, none⟩ (.int .i64 p)).setCell ⟨u101.heap.size, 1, none⟩ (.slice (some ⟨u176.heap.size, 0, none⟩) 0 0) := ⟨_, rfl⟩
              have ⟨c0, c1, z1, yu183, yyu183⟩ := mS hu d0 d1 e1
              replace oE := mO hu oE (fun h => by simp [blk] at h; omega)
              replace oP := mO hu oP (fun h => by simp [blk] at h; omega)
              replace oS := mO hu oS (fun h => by have := gS _ h; have := gS2 _ h; omega)
              replace hm := mB hu hm (by omega)
              rw [← hu]
              clear hu d0 d1 e0 e1
              refine hK'.out _ _ (F _ hm) ?_
              clear hK' K'
              have hS2 := F _ hm
              refine anyE_takeH 11 rfl (by kernel_rfl) (fun _ _ _ h => h) hS2 (by rfl) (v := ?_) ?_ ?_
              rotate_left
              · intro w' hSw; (try dsimp only at hSw); go_simp; (try with_reducible rfl)
              try simp only [Act.put, List.setIfInBounds_toArray, List.set_cons_zero, List.set_cons_succ]
              refine anyE_takeH 12 rfl (by kernel_rfl) (fun _ _ _ h => h) hS2 (by rfl) (v := ?_) ?_ ?_
              rotate_left
              · intro w' hSw; (try dsimp only at hSw); go_simp; (try with_reducible rfl)
              try simp only [Act.put, List.setIfInBounds_toArray, List.set_cons_zero, List.set_cons_succ]
              clear hS2
              refine anyE_doneL (by kernel_rfl) ?_
              go_wp2_with fail
              go_meet
              exact ⟨u101.heap.size, u176.heap.size, u181.heap.size, sa, sc, rfl, rfl, rfl, hide ⟨c0, c1, z1⟩, hide ⟨by omega, by omega, by omega, by omega, fun g h => by have := gS g h; have := gS2 g h; constructor <;> omega⟩, hide oE, hide oP, hide oS, hide hm⟩
            · go_simp
              obtain ⟨u184, hu⟩ : ∃ u, u = (u181.setCell ⟨u101.heap.size, 0, none⟩ (.int .i64 p)).setCell ⟨u101.heap.size, 1, none⟩ (.slice (some ⟨u176.heap.size, 0, none⟩) 0 0) := ⟨_, rfl⟩
              have ⟨c0, c1, z1, yu184, yyu184⟩ := mS hu d0 d1 e1
              replace oE := mO hu oE (fun h => by simp [blk] at h; omega)
              replace oS := mO hu oS (fun h => by have := gS _ h; have := gS2 _ h; omega)
              replace hm := mB hu hm (by omega)
              rw [← hu]
              clear hu d0 d1 e0 e1
              refine hK'.out _ _ (F _ hm) ?_
              clear hK' K'
              refine anyE_oneL 4 (by kernel_rfl) rfl (fun K' hK' => ?_)
              go_simp
              obtain ⟨u185, hu⟩ : ∃ u, u = u184.alloc (.cells #[.int .i64 1] 2) := ⟨_, rfl⟩
              have ⟨lx, yu185⟩ := al hu
              replace c0 := cell_be lx c0
              replace z1 := fr_of lx c1 z1
              replace c1 := cell_be lx c1
              replace oE := oE.below lx
              replace oS := oS.below lx
              have oP := mP hu hm.size
              rw [← hu]
              clear hu
              replace hm := bnext hm lx
              clear lx
              refine hK'.out _ _ (F _ hm) ?_
              clear hK' K'
              have hS2 := F _ hm
              refine anyE_takeH 11 rfl (by kernel_rfl) (fun _ _ _ h => h) hS2 (by rfl) (v := ?_) ?_ ?_
              rotate_left
              · intro w' hSw; (try dsimp only at hSw); go_simp; (try with_reducible rfl)
              try simp only [Act.put, List.setIfInBounds_toArray, List.set_cons_zero, List.set_cons_succ]
              refine anyE_takeH 12 rfl (by kernel_rfl) (fun _ _ _ h => h) hS2 (by rfl) (v := ?_) ?_ ?_
              rotate_left
              · intro w' hSw; (try dsimp only at hSw); go_simp; (try with_reducible rfl)
              try simp only [Act.put, List.setIfInBounds_toArray, List.set_cons_zero, List.set_cons_succ]
              clear hS2
              refine anyE_doneL (by kernel_rfl) ?_
              go_wp2_with fail
              go_meet
              exact ⟨u101.heap.size, u176.heap.size, u184.heap.size, sa, sc, rfl, rfl, rfl, hide ⟨c0, c1, z1⟩, hide ⟨by omega, by omega, by omega, by omega, fun g h => by have := gS g h; have := gS2 g h; constructor <;> omega⟩, hide oE, hide oP, hide oS, hide hm⟩
        · go_simp
          obtain ⟨u186, hu⟩ : ∃ u, u = u176.alloc (.cells #[.int .i64 1] 2) := ⟨_, rfl⟩
          have ⟨lx, yu186⟩ := al hu
          replace e0 := fr_of lx d0 e0
          replace e1 := fr_of lx d1 e1
          replace d0 := cell_be lx d0
          replace d1 := cell_be lx d1
          replace sl := sl.below lx
          have oP := mP hu hm.size
          rw [← hu]
          clear hu
          replace hm := bnext hm lx
          clear lx
          refine hK'.out _ _ (F _ hm) ?_
          clear hK' K'
          refine anyE_2L 2 8 (by kernel_rfl) rfl rfl (fun K' hK' => ?_) (fun K' hK' => ?_)
          · go_simp
            obtain ⟨u187, hu⟩ : ∃ u, u = u186.alloc (.cells #[] 2) := ⟨_, rfl⟩
            have ⟨lx, yu187⟩ := al hu
            replace e0 := fr_of lx d0 e0
            replace e1 := fr_of lx d1 e1
            replace d0 := cell_be lx d0
            replace d1 := cell_be lx d1
            replace oP := oP.below lx
            replace sl := sl.below lx
            have oE := mE hu hm.size
            rw [← hu]
            clear hu
            replace hm := bnext hm lx
            clear lx
            refine hK'.out _ _ (F _ hm) ?_
            clear hK' K'
            have hS2 := F _ hm
            refine anyE_takeH 3 rfl (by kernel_rfl) (fun _ _ _ h => h) hS2 (by rfl) (v := ?_) ?_ ?_
            rotate_left
            · intro w' hSw; (try dsimp only at hSw); go_simp; (try with_reducible rfl)
            try simp only [Act.put, List.setIfInBounds_toArray, List.set_cons_zero, List.set_cons_succ]
            clear hS2
            refine anyE_oneL 8 (by kernel_rfl) rfl (fun K' hK' => ?_)
            go_simp
            refine (HT.out _ _ sl).mono ?_
            rintro e u188 ⟨sa, sc, rfl, oS, lx⟩
            dsimp only
            have gS := own_blk_ge oS
            have gS2 := ownLtA oS
            replace oS := oS.mono hm.size
            have yu188 := lx.size
            replace e0 := fr_of lx d0 e0
            replace e1 := fr_of lx d1 e1
            replace d0 := cell_be lx d0
            replace d1 := cell_be lx d1
            replace oE := oE.below lx
            replace oP := oP.below lx
            replace sl := sl.below lx
            replace hm := bnext hm lx
            clear lx sl
            refine hK'.out _ _ (F _ hm) ?_
            clear hK' K'
            refine anyE_oneL 10 (by kernel_rfl) rfl (fun K' hK' => ?_)
            go_simp
            obtain ⟨u189, hu⟩ : ∃ u, u = (u188.setCell ⟨u101.heap.size, 0, none⟩ (.int .i64 p)).setCell ⟨u101.heap.size, 1, none⟩ (.slice (some ⟨u186.heap.size, 0, none⟩) 0 0) := ⟨_, rfl⟩
            have ⟨c0, c1, z1, yu189, yyu189⟩ := mS hu d0 d1 e1
            replace oE := mO hu oE (fun h => by simp [blk] at h; omega)
            replace oP := mO hu oP (fun h => by simp [blk] at h; omega)
            replace oS := mO hu oS (fun h => by have := gS _ h; have := gS2 _ h; omega)
            replace hm := mB hu hm (by omega)
            rw [← hu]
            clear hu d0 d1 e0 e1
            refine hK'.out _ _ (F _ hm) ?_
            clear hK' K'
            have hS2 := F _ hm
            refine anyE_takeH 11 rfl (by kernel_rfl) (fun _ _ _ h => h) hS2 (by rfl) (v := ?_) ?_ ?_
            rotate_left
            · intro w' hSw; (try dsimp only at hSw); go_simp; (try with_reducible rfl)
            try simp only [Act.put, List.setIfInBounds_toArray, List.set_cons_zero, List.set_cons_succ]
            refine anyE_takeH 12 rfl (by kernel_rfl) (fun _ _ _ h => h) hS2 (by rfl) (v := ?_) ?_ ?_
            rotate_left
            · intro w' hSw; (try dsimp only at hSw); go_simp; (try with_reducible rfl)
            try simp only [Act.put, List.setIfInBounds_toArray, List.set_cons_zero, List.set_cons_succ]
            clear hS2
            refine anyE_doneL (by kernel_rfl) ?_
            go_wp2_with fail
            go_meet
            exact ⟨u101.heap.size, u186.heap.size, u176.heap.size, sa, sc, rfl, rfl, rfl, hide ⟨c0, c1, z1⟩, hide ⟨by omega, by omega, by omega, by omega, fun g h => by have := gS g h; have := gS2 g h; constructor <;> omega⟩, hide oE, hide oP, hide oS, hide hm⟩
          · go_simp
            refine (HT.out _ _ sl).mono ?_
            rintro e u190 ⟨sa, sc, rfl, oS, lx⟩
            dsimp only
            have gS := own_blk_ge oS
            have gS2 := ownLtA oS
            replace oS := oS.mono hm.size
            have yu190 := lx.size
            replace e0 := fr_of lx d0 e0
            replace e1 := fr_of lx d1 e1
            replace d0 := cell_be lx d0
            replace d1 := cell_be lx d1
            replace oP := oP.below lx
            replace sl := sl.below lx
            replace hm := bnext hm lx
            clear lx sl
            refine hK'.out _ _ (F _ hm) ?_
            clear hK' K'
            refine anyE_oneL 2 (by kernel_rfl) rfl (fun K' hK' => ?_)
            go_simp
            obtain ⟨u191, hu⟩ : ∃ u, u = u190.alloc (.cells #[] 2) := ⟨_, rfl⟩
            have ⟨lx, yu191⟩ := al hu
            replace e0 := fr_of lx d0 e0
            replace e1 := fr_of lx d1 e1
            replace d0 := cell_be lx d0
            replace d1 := cell_be lx d1
            replace oP := oP.below lx
            replace oS := oS.below lx
            have oE := mE hu hm.size
            rw [← hu]
            clear hu
            replace hm := bnext hm lx
            clear lx
            refine hK'.out _ _ (F _ hm) ?_
            clear hK' K'
            have hS2 := F _ hm
            refine anyE_takeH 3 rfl (by kernel_rfl) (fun _ _ _ h => h) hS2 (by rfl) (v := ?_) ?_ ?_
            rotate_left
            · intro w' hSw; (try dsimp only at hSw); go_simp; (try with_reducible rfl)
            try simp only [Act.put, List.setIfInBounds_toArray, List.set_cons_zero, List.set_cons_succ]
            clear hS2
            refine anyE_oneL 10 (by kernel_rfl) rfl (fun K' hK' => ?_)
            go_simp
            obtain ⟨u192, hu⟩ : ∃ u, u = (u191.setCell ⟨u101.heap.size, 0, none⟩ (.int .i64 p)).setCell ⟨u101.heap.size, 1, none⟩ (.slice (some ⟨u190.heap.size, 0, none⟩) 0 0) := ⟨_, rfl⟩
            have ⟨c0, c1, z1, yu192, yyu192⟩ := mS hu d0 d1 e1
            replace oE := mO hu oE (fun h => by simp [blk] at h; omega)
            replace oP := mO hu oP (fun h => by simp [blk] at h; omega)
            replace oS := mO hu oS (fun h => by have := gS _ h; have := gS2 _ h; omega)
            replace hm := mB hu hm (by omega)
            rw [← hu]
            clear hu d0 d1 e0 e1
            refine hK'.out _ _ (F _ hm) ?_
            clear hK' K'
            have hS2 := F _ hm
            refine anyE_takeH 11 rfl (by kernel_rfl) (fun _ _ _ h => h) hS2 (by rfl) (v := ?_) ?_ ?_
            rotate_left
            · intro w' hSw; (try dsimp only at hSw); go_simp; (try with_reducible rfl)
            try simp only [Act.put, List.setIfInBounds_toArray, List.set_cons_zero, List.set_cons_succ]
            refine anyE_takeH 12 rfl (by kernel_rfl) (fun _ _ _ h => h) hS2 (by rfl) (v := ?_) ?_ ?_
            rotate_left
            · intro w' hSw; (try dsimp only at hSw); go_simp; (try with_reducible rfl)
            try simp only [Act.put, List.setIfInBounds_toArray, List.set_cons_zero, List.set_cons_succ]
            clear hS2
            refine anyE_doneL (by kernel_rfl) ?_
            go_wp2_with fail
            go_meet
            exact ⟨u101.heap.size, u190.heap.size, u176.heap.size, sa, sc, rfl, rfl, rfl, hide ⟨c0, c1, z1⟩, hide ⟨by omega, by omega, by omega, by omega, fun g h => by have := gS g h; have := gS2 g h; constructor <;> omega⟩, hide oE, hide oP, hide oS, hide hm⟩
        · go_simp
          refine (HT.out _ _ sl).mono ?_
          rintro e u193 ⟨sa, sc, rfl, oS, lx⟩
          dsimp only
          have gS := own_blk_ge oS
          have gS2 := ownLtA oS
          replace oS := oS.mono hm.size
          have yu193 := lx.size
          replace e0 := fr_of lx d0 e0
          replace e1 := fr_of lx d1 e1
          replace d0 := cell_be lx d0
          replace d1 := cell_be lx d1
          replace sl := sl.below lx
          replace hm := bnext hm lx
          clear lx sl
          refine hK'.out _ _ (F _ hm) ?_
          clear hK' K'
          refine anyE_2L 2 4 (by kernel_rfl) rfl rfl (fun K' hK' => ?_) (fun K' hK' => ?_)
          · go_simp
            obtain ⟨u194, hu⟩ : ∃ u, u = u193.alloc (.cells #[] 2) := ⟨_, rfl⟩
            have ⟨lx, yu194⟩ := al hu
            replace e0 := fr_of lx d0 e0
            replace e1 := fr_of lx d1 e1
            replace d0 := cell_be lx d0
            replace d1 := cell_be lx d1
            replace oS := oS.below lx
            have oE := mE hu hm.size
            rw [← hu]
            clear hu
            replace hm := bnext hm lx
            clear lx
            refine hK'.out _ _ (F _ hm) ?_
            clear hK' K'
            have hS2 := F _ hm
            refine anyE_takeH 3 rfl (by kernel_rfl) (fun _ _ _ h => h) hS2 (by rfl) (v := ?_) ?_ ?_
            rotate_left
            · intro w' hSw; (try dsimp only at hSw); go_simp; (try with_reducible rfl)
            try simp only [Act.put, List.setIfInBounds_toArray, List.set_cons_zero, List.set_cons_succ]
            clear hS2
            refine anyE_2L 4 10 (by kernel_rfl) rfl rfl (fun K' hK' => ?_) (fun K' hK' => ?_)
            · go_simp
              obtain ⟨u195, hu⟩ : ∃ u, u = u194.alloc (.cells #[.int .i64 1] 2) := ⟨_, rfl⟩
              have ⟨lx, yu195⟩ := al hu
              replace e0 := fr_of lx d0 e0
              replace e1 := fr_of lx d1 e1
              replace d0 := cell_be lx d0
              replace d1 := cell_be lx d1
              replace oE := oE.below lx
              replace oS := oS.below lx
              have oP := mP hu hm.size
              rw [← hu]
              clear hu
              replace hm := bnext hm lx
              clear lx
              refine hK'.out _ _ (F _ hm) ?_
              clear hK' K'
              refine anyE_oneL 10 (by kernel_rfl) rfl (fun K' hK' => ?_)
              go_simp
              obtain ⟨u196, hu⟩ : ∃ u, u = (u195.setCell ⟨u101.heap.size, 0, none⟩ (.int .i64 p)).setCell ⟨u101.heap.size, 1, none⟩ (.slice (some ⟨u193.heap.size, 0, none⟩) 0 0) := ⟨_, rfl⟩
              have ⟨c0, c1, z1, yu196, yyu196⟩ := mS hu d0 d1 e1
              replace oE := mO hu oE (fun h => by simp [blk] at h; omega)
              replace oP := mO hu oP (fun h => by simp [blk] at h; omega)
              replace oS := mO hu oS (fun h => by have := gS _ h; have := gS2 _ h; omega)
              replace hm := mB hu hm (by omega)
              rw [← hu]
              clear hu d0 d1 e0 e1
              refine hK'.out _ _ (F _ hm) ?_
              clear hK' K'
              have hS2 := F _ hm
              refine anyE_takeH 11 rfl (by kernel_rfl) (fun _ _ _ h => h) hS2 (by rfl) (v := ?_) ?_ ?_
              rotate_left
              · intro w' hSw; (try dsimp only at hSw); go_simp; (try with_reducible rfl)
              try simp only [Act.put, List.setIfInBounds_toArray, List.set_cons_zero, List.set_cons_succ]
              refine anyE_takeH 12 rfl (by kernel_rfl) (fun _ _ _ h => h) hS2 (by rfl) (v := ?_) ?_ ?_
              rotate_left
              · intro w' hSw; (try dsimp only at hSw); go_simp; (try with_reducible rfl)
              try simp only [Act.put, List.setIfInBounds_toArray, List.set_cons_zero, List.set_cons_succ]
              clear hS2
              refine anyE_doneL (by kernel_rfl) ?_
              go_wp2_with fail
              go_meet
              exact ⟨u101.heap.size, u193.heap.size, u194.heap.size, sa, sc, rfl, rfl, rfl, hide ⟨c0, c1, z1⟩, hide ⟨by omega, by omega, by omega, by omega, fun g h => by have := gS g h; have := gS2 g h; constructor <;> omega⟩, hide oE, hide oP, hide oS, hide hm⟩
            · go_simp
              obtain ⟨u197, hu⟩ : ∃ u, u = (u194.setCell ⟨u101.heap.size, 0, none⟩ (.int .i64 p)).setCell ⟨u101.heap.size, 1, none⟩ (.slice (some ⟨u193.heap.size, 0, none⟩) 0 0) := ⟨_, rfl⟩
              have ⟨c0, c1, z1, yu197, yyu197⟩ := mS hu d0 d1 e1
              replace oE := mO hu oE (fun h => by simp [blk] at h; omega)
              replace oS := mO hu oS (fun h => by have := gS _ h; have := gS2 _ h; omega)
              replace hm := mB hu hm (by omega)
              rw [← hu]
              clear hu d0 d1 e0 e1
              refine hK'.out _ _ (F _ hm) ?_
              clear hK' K'
              refine anyE_oneL 4 (by kernel_rfl) rfl (fun K' hK' => ?_)
              go_simp
              obtain ⟨u198, hu⟩ : ∃ u, u = u197.alloc (.cells #[.int .i64 1] 2) := ⟨_, rfl⟩
              have ⟨lx, yu198⟩ := al hu
              replace c0 := cell_be lx c0
              replace z1 := fr_of lx c1 z1
              replace c1 := cell_be lx c1
              replace oE := oE.below lx
              replace oS := oS.below lx
              have oP := mP hu hm.size
              rw [← hu]
              clear hu
              replace hm := bnext hm lx
              clear lx
              refine hK'.out _ _ (F _ hm) ?_
              clear hK' K'
              have hS2 := F _ hm
              refine anyE_takeH 11 rfl (by kernel_rfl) (fun _ _ _ h => h) hS2 (by rfl) (v := ?_) ?_ ?_
              rotate_left
              · intro w' hSw; (try dsimp only at hSw); go_simp; (try with_reducible rfl)
              try simp only [Act.put, List.setIfInBounds_toArray, List.set_cons_zero, List.set_cons_succ]
              refine anyE_takeH 12 rfl (by kernel_rfl) (fun _ _ _ h => h) hS2 (by rfl) (v := ?_) ?_ ?_
              rotate_left
              · intro w' hSw; (try dsimp only at hSw); go_simp; (try with_reducible rfl)
              try simp only [Act.put, List.setIfInBounds_toArray, List.set_cons_zero, List.set_cons_succ]
              clear hS2
              refine anyE_doneL (by kernel_rfl) ?_
              go_wp2_with fail
              go_meet
              exact ⟨u101.heap.size, u193.heap.size, u197.heap.size, sa, sc, rfl, rfl, rfl, hide ⟨c0, c1, z1⟩, hide ⟨by omega, by omega, by omega, by omega, fun g h => by have := gS g h; have := gS2 g h; constructor <;> omega⟩, hide oE, hide oP, hide oS, hide hm⟩
          · go_simp
            obtain ⟨u199, hu⟩ : ∃ u, u = u193.alloc (.cells #[.int .i64 1] 2) := ⟨_, rfl⟩
            have ⟨lx, yu199⟩ := al hu
            replace e0 := fr_of lx d0 e0
            replace e1 := fr_of lx d1 e1
            replace d0 := cell_be lx d0
            replace d1 := cell_be lx d1
            replace oS := oS.below lx
            have oP := mP hu hm.size
            rw [← hu]
            clear hu
            replace hm := bnext hm lx
            clear lx
            refine hK'.out _ _ (F _ hm) ?_
            clear hK' K'
            refine anyE_oneL 2 (by kernel_rfl) rfl (fun K' hK' => ?_)
            go_simp
            obtain ⟨u200, hu⟩ : ∃ u, u = u199.alloc (.cells #[] 2) := ⟨_, rfl⟩
            have ⟨lx, yu200⟩ := al hu
            replace e0 := fr_of lx d0 e0
            replace e1 := fr_of lx d1 e1
            replace d0 := cell_be lx d0
            replace d1 := cell_be lx d1
            replace oP := oP.below lx
            replace oS := oS.below lx
            have oE := mE hu hm.size
            rw [← hu]
            clear hu
            replace hm := bnext hm lx
            clear lx
            refine hK'.out _ _ (F _ hm) ?_
            clear hK' K'
            have hS2 := F _ hm
            refine anyE_takeH 3 rfl (by kernel_rfl) (fun _ _ _ h => h) hS2 (by rfl) (v := ?_) ?_ ?_
            rotate_left
            · intro w' hSw; (try dsimp only at hSw); go_simp; (try with_reducible rfl)
            try simp only [Act.put, List.setIfInBounds_toArray, List.set_cons_zero, List.set_cons_succ]
            clear hS2
            refine anyE_oneL 10 (by kernel_rfl) rfl (fun K' hK' => ?_)
            go_simp
            obtain ⟨u201, hu⟩ : ∃ u, u = (u200.setCell ⟨u101.heap.size, 0, none⟩ (.int .i64 p)).setCell ⟨u101.heap.size, 1, none⟩ (.slice (some ⟨u199.heap.size, 0, none⟩) 0 0) := ⟨_, rfl⟩
            have ⟨c0, c1, z1, yu201, yyu201⟩ := mS hu d0 d1 e1
            replace oE := mO hu oE (fun h => by simp [blk] at h; omega)
            replace oP := mO hu oP (fun h => by simp [blk] at h; omega)
            replace oS := mO hu oS (fun h => by have := gS _ h; have := gS2 _ h; omega)
            replace hm := mB hu hm (by omega)
            rw [← hu]
            clear hu d0 d1 e0 e1
            refine hK'.out _ _ (F _ hm) ?_
            clear hK' K'
            have hS2 := F _ hm
            refine anyE_takeH 11 rfl (by kernel_rfl) (fun _ _ _ h => h) hS2 (by rfl) (v := ?_) ?_ ?_
            rotate_left
            · intro w' hSw; (try dsimp only at hSw); go_simp; (try with_reducible rfl)
            try simp only [Act.put, List.setIfInBounds_toArray, List.set_cons_zero, List.set_cons_succ]
            refine anyE_takeH 12 rfl (by kernel_rfl) (fun _ _ _ h => h) hS2 (by rfl) (v := ?_) ?_ ?_
            rotate_left
            · intro w' hSw; (try dsimp only at hSw); go_simp; (try with_reducible rfl)
            try simp only [Act.put, List.setIfInBounds_toArray, List.set_cons_zero, List.set_cons_succ]
            clear hS2
            refine anyE_doneL (by kernel_rfl) ?_
            go_wp2_with fail
            go_meet
            exact ⟨u101.heap.size, u199.heap.size, u193.heap.size, sa, sc, rfl, rfl, rfl, hide ⟨c0, c1, z1⟩, hide ⟨by omega, by omega, by omega, by omega, fun g h => by have := gS g h; have := gS2 g h; constructor <;> omega⟩, hide oE, hide oP, hide oS, hide hm⟩
    · go_simp
      obtain ⟨u202, hu⟩ : ∃ u, u = u0.alloc (.cells #[.int .i64 0, .slice none 0 0] 26) := ⟨_, rfl⟩
      have ⟨lx, yu202⟩ := al hu
      have ⟨d0, d1, e0, e1⟩ := mQ hu
      rw [← hu]
      clear hu
      replace hm := bnext hm lx
      clear lx
      refine hK'.out _ _ (F _ hm) ?_
      clear hK' K'
      refine anyE_3L 2 4 7 (by kernel_rfl) rfl rfl rfl (fun K' hK' => ?_) (fun K' hK' => ?_) (fun K' hK' => ?_)
      · go_simp
        obtain ⟨u203, hu⟩ : ∃ u, u = u202.alloc (.cells #[] 2) := ⟨_, rfl⟩
        have ⟨lx, yu203⟩ := al hu
        replace e0 := fr_of lx d0 e0
        replace e1 := fr_of lx d1 e1
        replace d0 := cell_be lx d0
        replace d1 := cell_be lx d1
        have oE := mE hu hm.size
        rw [← hu]
        clear hu
        replace hm := bnext hm lx
        clear lx
        refine hK'.out _ _ (F _ hm) ?_
        clear hK' K'
        have hS2 := F _ hm
        refine anyE_takeH 3 rfl (by kernel_rfl) (fun _ _ _ h => h) hS2 (by rfl) (v := ?_) ?_ ?_
        rotate_left
        · intro w' hSw; (try dsimp only at hSw); go_simp; (try with_reducible rfl)
        try simp only [Act.put, List.setIfInBounds_toArray, List.set_cons_zero, List.set_cons_succ]
        clear hS2
        refine anyE_2L 4 7 (by kernel_rfl) rfl rfl (fun K' hK' => ?_) (fun K' hK' => ?_)
        · go_simp
          obtain ⟨u204, hu⟩ : ∃ u, u = u203.alloc (.cells #[.int .i64 1] 2) := ⟨_, rfl⟩
          have ⟨lx, yu204⟩ := al hu
          replace e0 := fr_of lx d0 e0
          replace e1 := fr_of lx d1 e1
          replace d0 := cell_be lx d0
          replace d1 := cell_be lx d1
          replace oE := oE.below lx
          have oP := mP hu hm.size
          rw [← hu]
          clear hu
          replace hm := bnext hm lx
          clear lx
          refine hK'.out _ _ (F _ hm) ?_
          clear hK' K'
          refine anyE_oneL 7 (by kernel_rfl) rfl (fun K' hK' => ?_)
          go_simp
          obtain ⟨u205, hu⟩ : ∃ u, u = u204.alloc (.cells #[.int .i64 b, .int .i64 a] 2) := ⟨_, rfl⟩
          have ⟨lx, yu205⟩ := al hu
          replace e0 := fr_of lx d0 e0
          replace e1 := fr_of lx d1 e1
          replace d0 := cell_be lx d0
          replace d1 := cell_be lx d1
          replace oE := oE.below lx
          replace oP := oP.below lx
          have sl := mL hu
          rw [← hu]
          clear hu
          replace hm := bnext hm lx
          clear lx
          refine hK'.out _ _ (F _ hm) ?_
          clear hK' K'
          refine anyE_oneL 8 (by kernel_rfl) rfl (fun K' hK' => ?_)
          go_simp
          refine (HT.out _ _ sl).mono ?_
          rintro e u206 ⟨sa, sc, rfl, oS, lx⟩
          dsimp only
          have gS := own_blk_ge oS
          have gS2 := ownLtA oS
          replace oS := oS.mono hm.size
          have yu206 := lx.size
          replace e0 := fr_of lx d0 e0
          replace e1 := fr_of lx d1 e1
          replace d0 := cell_be lx d0
          replace d1 := cell_be lx d1
          replace oE := oE.below lx
          replace oP := oP.below lx
          replace sl := sl.below lx
          replace hm := bnext hm lx
          clear lx sl
          refine hK'.out _ _ (F _ hm) ?_
          clear hK' K'
          refine anyE_oneL 10 (by kernel_rfl) rfl (fun K' hK' => ?_)
          go_simp
          obtain ⟨u207, hu⟩ : ∃ u, u = (u206.setCell ⟨u0.heap.size, 0, none⟩ (.int .i64 p)).setCell ⟨u0.heap.size, 1, none⟩ (.slice (some ⟨u202.heap.size, 0, none⟩) 0 0) := ⟨_, rfl⟩
          have ⟨c0, c1, z1, yu207, yyu207⟩ := mS hu d0 d1 e1
          replace oE := mO hu oE (fun h => by simp [blk] at h; omega)
          replace oP := mO hu oP (fun h => by simp [blk] at h; omega)
          replace oS := mO hu oS (fun h => by have := gS _ h; have := gS2 _ h; omega)
          replace hm := mB hu hm (by omega)
          rw [← hu]
          clear hu d0 d1 e0 e1
          refine hK'.out _ _ (F _ hm) ?_
          clear hK' K'
          have hS2 := F _ hm
          refine anyE_takeH 11 rfl (by kernel_rfl) (fun _ _ _ h => h) hS2 (by rfl) (v := ?_) ?_ ?_
          rotate_left
          · intro w' hSw; (try dsimp only at hSw); go_simp; (try with_reducible rfl)
          try simp only [Act.put, List.setIfInBounds_toArray, List.set_cons_zero, List.set_cons_succ]
          refine anyE_takeH 12 rfl (by kernel_rfl) (fun _ _ _ h => h) hS2 (by rfl) (v := ?_) ?_ ?_
          rotate_left
          · intro w' hSw; (try dsimp only at hSw); go_simp; (try with_reducible rfl)
          try simp only [Act.put, List.setIfInBounds_toArray, List.set_cons_zero, List.set_cons_succ]
          clear hS2
          refine anyE_doneL (by kernel_rfl) ?_
          go_wp2_with fail
          go_meet
          exact ⟨u0.heap.size, u202.heap.size, u203.heap.size, sa, sc, rfl, rfl, rfl, hide ⟨c0, c1, z1⟩, hide ⟨by omega, by omega, by omega, by omega, fun g h => by have := gS g h; have := gS2 g h; constructor <;> omega⟩, hide oE, hide oP, hide oS, hide hm⟩
        · go_simp
          obtain ⟨u208, hu⟩ : ∃ u, u = u203.alloc (.cells #[.int .i64 b, .int .i64 a] 2) := ⟨_, rfl⟩
          have ⟨lx, yu208⟩ := al hu
          replace e0 := fr_of lx d0 e0
          replace e1 := fr_of lx d1 e1
          replace d0 := cell_be lx d0
          replace d1 := cell_be lx d1
          replace oE := oE.below lx
          have sl := mL hu
          rw [← hu]
          clear hu
          replace hm := bnext hm lx
          clear lx
          refine hK'.out _ _ (F _ hm) ?_
          clear hK' K'
          refine anyE_2L 4 8 (by kernel_rfl) rfl rfl (fun K' hK' => ?_) (fun K' hK' => ?_)
          · go_simp
            obtain ⟨u209, hu⟩ : ∃ u, u = u208.alloc (.cells #[.int .i64 1] 2) := ⟨_, rfl⟩
            have ⟨lx, yu209⟩ := al hu
            replace e0 := fr_of lx d0 e0
            replace e1 := fr_of lx d1 e1
            replace d0 := cell_be lx d0
            replace d1 := cell_be lx d1
            replace oE := oE.below lx
            replace sl := sl.below lx
            have oP := mP hu hm.size
            rw [← hu]
            clear hu
            replace hm := bnext hm lx
            clear lx
            refine hK'.out _ _ (F _ hm) ?_
            clear hK' K'
            refine anyE_oneL 8 (by kernel_rfl) rfl (fun K' hK' => ?_)
            go_simp
            refine (HT.out _ _ sl).mono ?_
            rintro e u210 ⟨sa, sc, rfl, oS, lx⟩
            dsimp only
            have gS := own_blk_ge oS
            have gS2 := ownLtA oS
            replace oS := oS.mono hm.size
            have yu210 := lx.size
            replace e0 := fr_of lx d0 e0
            replace e1 := fr_of lx d1 e1
            replace d0 := cell_be lx d0
            replace d1 := cell_be lx d1
            replace oE := oE.below lx
            replace oP := oP.below lx
            replace sl := sl.below lx
            replace hm := bnext hm lx
            clear lx sl
            refine hK'.out _ _ (F _ hm) ?_
            clear hK' K'
            refine anyE_oneL 10 (by kernel_rfl) rfl (fun K' hK' => ?_)
            go_simp
            obtain ⟨u211, hu⟩ : ∃ u, u = (u210.setCell ⟨u0.heap.size, 0, none⟩ (.int .i64 p)).setCell ⟨u0.heap.size, 1, none⟩ (.slice (some ⟨u202.heap.size, 0, none⟩) 0 0) := ⟨_, rfl⟩
            have ⟨c0, c1, z1, yu211, yyu211⟩ := mS hu d0 d1 e1
            replace oE := mO hu oE (fun h => by simp [blk] at h; omega)
            replace oP := mO hu oP (fun h => by simp [blk] at h; omega)
            replace oS := mO hu oS (fun h => by have := gS _ h; have := gS2 _ h; omega)
            replace hm := mB hu hm (by omega)
            rw [← hu]
            clear hu d0 d1 e0 e1
            refine hK'.out _ _ (F _ hm) ?_
            clear hK' K'
            have hS2 := F _ hm
            refine anyE_takeH 11 rfl (by kernel_rfl) (fun _ _ _ h => h) hS2 (by rfl) (v := ?_) ?_ ?_
            rotate_left
            · intro w' hSw; (try dsimp only at hSw); go_simp; (try with_reducible rfl)
            try simp only [Act.put, List.setIfInBounds_toArray, List.set_cons_zero, List.set_cons_succ]
            refine anyE_takeH 12 rfl (by kernel_rfl) (fun _ _ _ h => h) hS2 (by rfl) (v := ?_) ?_ ?_
            rotate_left
            · intro w' hSw; (try dsimp only at hSw); go_simp; (try with_reducible rfl)
            try simp only [Act.put, List.setIfInBounds_toArray, List.set_cons_zero, List.set_cons_succ]
            clear hS2
            refine anyE_doneL (by kernel_rfl) ?_
            go_wp2_with fail
            go_meet
            exact ⟨u0.heap.size, u202.heap.size, u208.heap.size, sa, sc, rfl, rfl, rfl, hide ⟨c0, c1, z1⟩, hide ⟨by omega, by omega, by omega, by omega, fun g h => by have := gS g h; have := gS2 g h; constructor <;> omega⟩, hide oE, hide oP, hide oS, hide hm⟩
          · go_simp
            refine (HT.out _ _ sl).mono ?_
            rintro e u212 ⟨sa, sc, rfl, oS, lx⟩
            dsimp only
            have gS := own_blk_ge oS
            have gS2 := ownLtA oS
            replace oS := oS.mono hm.size
            have yu212 := lx.size
            replace e0 := fr_of lx d0 e0
            replace e1 := fr_of lx d1 e1
            replace d0 := cell_be lx d0
            replace d1 := cell_be lx d1
            replace oE := oE.below lx
            replace sl := sl.below lx
            replace hm := bnext hm lx
            clear lx sl
            refine hK'.out _ _ (F _ hm) ?_
            clear hK' K'
            refine anyE_2L 4 10 (by kernel_rfl) rfl rfl (fun K' hK' => ?_) (fun K' hK' => ?_)
            · go_simp
              obtain ⟨u213, hu⟩ : ∃ u, u = u212.alloc (.cells #[.int .i64 1] 2) := ⟨_, rfl⟩
              have ⟨lx, yu213⟩ := al hu
              replace e0 := fr_of lx d0 e0
              replace e1 := fr_of lx d1 e1
              replace d0 := cell_be lx d0
              replace d1 := cell_be lx d1
              replace oE := oE.below lx
              replace oS := oS.below lx
              have oP := mP hu hm.size
              rw [← hu]
              clear hu
              replace hm := bnext hm lx
              clear lx
              refine hK'.out _ _ (F _ hm) ?_
              clear hK' K'
              refine anyE_oneL 10 (by kernel_rfl) rfl (fun K' hK' => ?_)
              go_simp
              obtain ⟨u214, hu⟩ : ∃ u, u = (u213.setCell ⟨u0.heap.size, 0, none⟩ (.int .i64 p)).setCell ⟨u0.heap.size, 1, none⟩ (.slice (some ⟨u202.heap.size, 0, none⟩) 0 0) := ⟨_, rfl⟩
              have ⟨c0, c1, z1, yu214, yyu214⟩ := mS hu d0 d1 e1
              replace oE := mO hu oE (fun h => by simp [blk] at h; omega)
              replace oP := mO hu oP (fun h => by simp [blk] at h; omega)
              replace oS := mO hu oS (fun h => by have := gS _ h; have := gS2 _ h; omega)
              replace hm := mB hu hm (by omega)
              rw [← hu]
              clear hu d0 d1 e0 e1
              refine hK'.out _ _ (F _ hm) ?_
              clear hK' K'
              have hS2 := F _ hm
              refine anyE_takeH 11 rfl (by kernel_rfl) (fun _ _ _ h => h) hS2 (by rfl) (v := ?_) ?_ ?_
              rotate_left
              · intro w' hSw; (try dsimp only at hSw); go_simp; (try with_reducible rfl)
              try simp only [Act.put, List.setIfInBounds_toArray, List.set_cons_zero, List.set_cons_succ]
              refine anyE_takeH 12 rfl (by kernel_rfl) (fun _ _ _ h => h) hS2 (by rfl) (v := ?_) ?_ ?_
              rotate_left
              · intro w' hSw; (try dsimp only at hSw); go_simp; (try with_reducible rfl)
              try simp only [Act.put, List.setIfInBounds_toArray, List.set_cons_zero, List.set_cons_succ]
              clear hS2
              refine anyE_doneL (by kernel_rfl) ?_
              go_wp2_with fail
              go_meet
              exact ⟨u0.heap.size, u202.heap.size, u212.heap.size, sa, sc, rfl, rfl, rfl, hide ⟨c0, c1, z1⟩, hide ⟨by omega, by omega, by omega, by omega, fun g h => by have := gS g h; have := gS2 g h; constructor <;> omega⟩, hide oE, hide oP, hide oS, hide hm⟩
            · go_simp
              obtain ⟨u215, hu⟩ : ∃ u, u = (u212.setCell ⟨u0.heap.size, 0, none⟩ (.int .i64 p)).setCell ⟨u0.heap.size, 1, none⟩ (.slice (some ⟨u202.heap.size, 0, none⟩) 0 0) := ⟨_, rfl⟩
              have ⟨c0, c1, z1, yu215, yyu215⟩ := mS hu d0 d1 e1
              replace oE := mO hu oE (fun h => by simp [blk] at h; omega)
              replace oS := mO hu oS (fun h => by have := gS _ h; have := gS2 _ h; omega)
              replace hm := mB hu hm (by omega)
              rw [← hu]
              clear hu d0 d1 e0 e1
              refine hK'.out _ _ (F _ hm) ?_
              clear hK' K'
              refine anyE_oneL 4 (by kernel_rfl) rfl (fun K' hK' => ?_)
              go_simp
              obtain ⟨u216, hu⟩ : ∃ u, u = u215.alloc (.cells #[.int .i64 1] 2) := ⟨_, rfl⟩
              have ⟨lx, yu216⟩ := al hu
              replace c0 := cell_be lx c0
              replace z1 := fr_of lx c1 z1
              replace c1 := cell_be lx c1
              replace oE := oE.below lx
              replace oS := oS.below lx
              have oP := mP hu hm.size
              rw [← hu]
              clear hu
              replace hm := bnext hm lx
              clear lx
              refine hK'.out _ _ (F _ hm) ?_
              clear hK' K'
              have hS2 := F _ hm
              refine anyE_takeH 11 rfl (by kernel_rfl) (fun _ _ _ h => h) hS2 (by rfl) (v := ?_) ?_ ?_
              rotate_left
              · intro w' hSw; (try dsimp only at hSw); go_simp; (try with_reducible rfl)
              try simp only [Act.put, List.setIfInBounds_toArray, List.set_cons_zero, List.set_cons_succ]
              refine anyE_takeH 12 rfl (by kernel_rfl) (fun _ _ _ h => h) hS2 (by rfl) (v := ?_) ?_ ?_
              rotate_left
              · intro w' hSw; (try dsimp only at hSw); go_simp; (try with_reducible rfl)
              try simp only [Act.put, List.setIfInBounds_toArray, List.set_cons_zero, List.set_cons_succ]
              clear hS2
              refine anyE_doneL (by kernel_rfl) ?_
              go_wp2_with fail
              go_meet
              exact ⟨u0.heap.size, u202.heap.size, u215.heap.size, sa, sc, rfl, rfl, rfl, hide ⟨c0, c1, z1⟩, hide ⟨by omega, by omega, by omega, by omega, fun g h => by have := gS g h; have := gS2 g h; constructor <;> omega⟩, hide oE, hide oP, hide oS, hide hm⟩
      · go_simp
        obtain ⟨u217, hu⟩ : ∃ u, u = u202.alloc (.cells #[.int .i64 1] 2) := ⟨_, rfl⟩
        have ⟨lx, yu217⟩ := al hu
        replace e0 := fr_of lx d0 e0
        replace e1 := fr_of lx d1 e1
        replace d0 := cell_be lx d0
        replace d1 := cell_be lx d1
        have oP := mP hu hm.size
        rw [← hu]
        clear hu
        replace hm := bnext hm lx
        clear lx
        refine hK'.out _ _ (F _ hm) ?_
        clear hK' K'
        refine anyE_2L 2 7 (by kernel_rfl) rfl rfl (fun K' hK' => ?_) (fun K' hK' => ?_)
        · go_simp
          obtain ⟨u218, hu⟩ : ∃ u, u = u217.alloc (.cells #[] 2) := ⟨_, rfl⟩
          have ⟨lx, yu218⟩ := al hu
          replace e0 := fr_of lx d0 e0
          replace e1 := fr_of lx d1 e1
          replace d0 := cell_be lx d0
          replace d1 := cell_be lx d1
          replace oP := oP.below lx
          have oE := mE hu hm.size
          rw [← hu]
          clear hu
          replace hm := bnext hm lx
          clear lx
          refine hK'.out _ _ (F _ hm) ?_
          clear hK' K'
          have hS2 := F _ hm
          refine anyE_takeH 3 rfl (by kernel_rfl) (fun _ _ _ h => h) hS2 (by rfl) (v := ?_) ?_ ?_
          rotate_left
          · intro w' hSw; (try dsimp only at hSw); go_simp; (try with_reducible rfl)
          try simp only [Act.put, List.setIfInBounds_toArray, List.set_cons_zero, List.set_cons_succ]
          clear hS2
          refine anyE_oneL 7 (by kernel_rfl) rfl (fun K' hK' => ?_)
          go_simp
          obtain ⟨u219, hu⟩ : ∃ u, u = u218.alloc (.cells #[.int .i64 b, .int .i64 a] 2) := ⟨_, rfl⟩
          have ⟨lx, yu219⟩ := al hu
          replace e0 := fr_of lx d0 e0
          replace e1 := fr_of lx d1 e1
          replace d0 := cell_be lx d0
          replace d1 := cell_be lx d1
          replace oE := oE.below lx
          replace oP := oP.below lx
          have sl := mL hu
          rw [← hu]
          clear hu
          replace hm := bnext hm lx
          clear lx
          refine hK'.out _ _ (F _ hm) ?_
          clear hK' K'
          refine anyE_oneL 8 (by kernel_rfl) rfl (fun K' hK' => ?_)
          go_simp
          refine (HT.out _ _ sl).mono ?_
          rintro e u220 ⟨sa, sc, rfl, oS, lx⟩
          dsimp only
          have gS := own_blk_ge oS
          have gS2 := ownLtA oS
          replace oS := oS.mono hm.size
          have yu220 := lx.size
          replace e0 := fr_of lx d0 e0
          replace e1 := fr_of lx d1 e1
          replace d0 := cell_be lx d0
          replace d1 := cell_be lx d1
          replace oE := oE.below lx
          replace oP := oP.below lx
          replace sl := sl.below lx
          replace hm := bnext hm lx
          clear lx sl
          refine hK'.out _ _ (F _ hm) ?_
          clear hK' K'
          refine anyE_oneL 10 (by kernel_rfl) rfl (fun K' hK' => ?_)
          go_simp
          obtain ⟨u221, hu⟩ : ∃ u, u = (u220.setCell ⟨u0.heap.size, 0, none⟩ (.int .i64 p)).setCell ⟨u0.heap.size, 1, none⟩ (.slice (some ⟨u217.heap.size, 0, none⟩) 0 0) := ⟨_, rfl⟩
          have ⟨c0, c1, z1, yu221, yyu221⟩ := mS hu d0 d1 e1
          replace oE := mO hu oE (fun h => by simp [blk] at h; omega)
          replace oP := mO hu oP (fun h => by simp [blk] at h; omega)
          replace oS := mO hu oS (fun h => by have := gS _ h; have := gS2 _ h; omega)
          replace hm := mB hu hm (by omega)
          rw [← hu]
          clear hu d0 d1 e0 e1
          refine hK'.out _ _ (F _ hm) ?_
          clear hK' K'
          have hS2 := F _ hm
          refine anyE_takeH 11 rfl (by kernel_rfl) (fun _ _ _ h => h) hS2 (by rfl) (v := ?_) ?_ ?_
          rotate_left
          · intro w' hSw; (try dsimp only at hSw); go_simp; (try with_reducible rfl)
          try simp only [Act.put, List.setIfInBounds_toArray, List.set_cons_zero, List.set_cons_succ]
          refine anyE_takeH 12 rfl (by kernel_rfl) (fun _ _ _ h => h) hS2 (by rfl) (v := ?_) ?_ ?_
          rotate_left
          · intro w' hSw; (try dsimp only at hSw); go_simp; (try with_reducible rfl)
          try simp only [Act.put, List.setIfInBounds_toArray, List.set_cons_zero, List.set_cons_succ]
          clear hS2
          refine anyE_doneL (by kernel_rfl) ?_
          go_wp2_with fail
          go_meet
          exact ⟨u0.heap.size, u217.heap.size, u202.heap.size, sa, sc, rfl, rfl, rfl, hide ⟨c0, c1, z1⟩, hide ⟨by omega, by omega, by omega, by omega, fun g h => by have := gS g h; have := gS2 g h; constructor <;> omega⟩, hide oE, hide oP, hide oS, hide hm⟩
        · go_simp
          obtain ⟨u222, hu⟩ : ∃ u, u = u217.alloc (.cells #[.int .i64 b, .int .i64 a] 2) := ⟨_, rfl⟩
          have ⟨lx, yu222⟩ := al hu
          replace e0 := fr_of lx d0 e0
          replace e1 := fr_of lx d1 e1
          replace d0 := cell_be lx d0
          replace d1 := cell_be lx d1
          replace oP := oP.below lx
          have sl := mL hu
          rw [← hu]
          clear hu
          replace hm := bnext hm lx
          clear lx
          refine hK'.out _ _ (F _ hm) ?_
          clear hK' K'
          refine anyE_2L 2 8 (by kernel_rfl) rfl rfl (fun K' hK' => ?_) (fun K' hK' => ?_)
          · go_simp
            obtain ⟨u223, hu⟩ : ∃ u, u = u222.alloc (.cells #[] 2) := ⟨_, rfl⟩
            have ⟨lx, yu223⟩ := al hu
            replace e0 := fr_of lx d0 e0
            replace e1 := fr_of lx d1 e1
            replace d0 := cell_be lx d0
            replace d1 := cell_be lx d1
            replace oP := oP.below lx
            replace sl := sl.below lx
            have oE := mE hu hm.size
            rw [← hu]
            clear hu
            replace hm := bnext hm lx
            clear lx
            refine hK'.out _ _ (F _ hm) ?_
            clear hK' K'
            have hS2 := F _ hm
            refine anyE_takeH 3 rfl (by kernel_rfl) (fun _ _ _ h => h) hS2 (by rfl) (v := ?_) ?_ ?_
            rotate_left
            · intro w' hSw; (try dsimp only at hSw); go_simp; (try with_reducible rfl)
            try simp only [Act.put, List.setIfInBounds_toArray, List.set_cons_zero, List.set_cons_succ]
            clear hS2
            refine anyE_oneL 8 (by kernel_rfl) rfl (fun K' hK' => ?_)
            go_simp
            refine (HT.out _ _ sl).mono ?_
            rintro e u224 ⟨sa, sc, rfl, oS, lx⟩
            dsimp only
            have gS := own_blk_ge oS
            have gS2 := ownLtA oS
            replace oS := oS.mono hm.size
            have yu224 := lx.size
            replace e0 := fr_of lx d0 e0
            replace e1 := fr_of lx d1 e1
            replace d0 := cell_be lx d0
            replace d1 := cell_be lx d1
            replace oE := oE.below lx
            replace oP := oP.below lx
            replace sl := sl.below lx
            replace hm := bnext hm lx
            clear lx sl
            refine hK'.out _ _ (F _ hm) ?_
            clear hK' K'
            refine anyE_oneL 10 (by kernel_rfl) rfl (fun K' hK' => ?_)
            go_simp
            obtain ⟨u225, hu⟩ : ∃ u, u = (u224.setCell ⟨u0.heap.size, 0, none⟩ (.int .i64 p)).setCell ⟨u0.heap.size, 1, none⟩ (.slice (some ⟨u222.heap.size, 0, none⟩) 0 0) := ⟨_, rfl⟩
            have ⟨c0, c1, z1, yu225, yyu225⟩ := mS hu d0 d1 e1
            replace oE := mO hu oE (fun h => by simp [blk] at h; omega)
            replace oP := mO hu oP (fun h => by simp [blk] at h; omega)
            replace oS := mO hu oS (fun h => by have := gS _ h; have := gS2 _ h; omega)
            replace hm := mB hu hm (by omega)
            rw [← hu]
            clear hu d0 d1 e0 e1
            refine hK'.out _ _ (F _ hm) ?_
            clear hK' K'
            have hS2 := F _ hm
            refine anyE_takeH 11 rfl (by kernel_rfl) (fun _ _ _ h => h) hS2 (by rfl) (v := ?_) ?_ ?_
            rotate_left
            · intro w' hSw; (try dsimp only at hSw); go_simp; (try with_reducible rfl)
            try simp only [Act.put, List.setIfInBounds_toArray, List.set_cons_zero, List.set_cons_succ]
            refine anyE_takeH 12 rfl (by kernel_rfl) (fun _ _ _ h => h) hS2 (by rfl) (v := ?_) ?_ ?_
            rotate_left
            · intro w' hSw; (try dsimp only at hSw); go_simp; (try with_reducible rfl)
            try simp only [Act.put, List.setIfInBounds_toArray, List.set_cons_zero, List.set_cons_succ]
            clear hS2
            refine anyE_doneL (by kernel_rfl) ?_
            go_wp2_with fail
            go_meet
            exact ⟨u0.heap.size, u222.heap.size, u202.heap.size, sa, sc, rfl, rfl, rfl, hide ⟨c0, c1, z1⟩, hide ⟨by omega, by omega, by omega, by omega, fun g h => by have := gS g h; have := gS2 g h; constructor <;> omega⟩, hide oE, hide oP, hide oS, hide hm⟩
          · go_simp
            refine (HT.out _ _ sl).mono ?_
            rintro e u226 ⟨sa, sc, rfl, oS, lx⟩
            dsimp only
            have gS := own_blk_ge oS
            have gS2 := ownLtA oS
            replace oS := oS.mono hm.size
            have yu226 := lx.size
            replace e0 := fr_of lx d0 e0
            replace e1 := fr_of lx d1 e1
            replace d0 := cell_be lx d0
            replace d1 := cell_be lx d1
            replace oP := oP.below lx
            replace sl := sl.below lx
            replace hm := bnext hm lx
            clear lx sl
            refine hK'.out _ _ (F _ hm) ?_
            clear hK' K'
            refine anyE_oneL 2 (by kernel_rfl) rfl (fun K' hK' => ?_)
            go_simp
            obtain ⟨u227, hu⟩ : ∃ u, u = u226.alloc (.cells #[] 2) := ⟨_, rfl⟩
            have ⟨lx, yu227⟩ := al hu
            replace e0 := fr_of lx d0 e0
            replace e1 := fr_of lx d1 e1
            replace d0 := cell_be lx d0
            replace d1 := cell_be lx d1
            replace oP := oP.below lx
            replace oS := oS.below lx
            have oE := mE hu hm.size
            rw [← hu]
            clear hu
            replace hm := bnext hm lx
            clear lx
            refine hK'.out _ _ (F _ hm) ?_
            clear hK' K'
            have hS2 := F _ hm
            refine anyE_takeH 3 rfl (by kernel_rfl) (fun _ _ _ h => h) hS2 (by rfl) (v := ?_) ?_ ?_
            rotate_left
            · intro w' hSw; (try dsimp only at hSw); go_simp; (try with_reducible rfl)
            try simp only [Act.put, List.setIfInBounds_toArray, List.set_cons_zero, List.set_cons_succ]
            clear hS2
            refine anyE_oneL 10 (by kernel_rfl) rfl (fun K' hK' => ?_)
            go_simp
            obtain ⟨u228, hu⟩ : ∃ u, u = (u227.setCell ⟨u0.heap.size, 0, none⟩ (.int .i64 p)).setCell ⟨u0.heap.size, 1, none⟩ (.slice (some ⟨u226.heap.size, 0, none⟩) 0 0) := ⟨_, rfl⟩
            have ⟨c0, c1, z1, yu228, yyu228⟩ := mS hu d0 d1 e1
            replace oE := mO hu oE (fun h => by simp [blk] at h; omega)
            replace oP := mO hu oP (fun h => by simp [blk] at h; omega)
            replace oS := mO hu oS (fun h => by have := gS _ h; have := gS2 _ h; omega)
            replace hm := mB hu hm (by omega)
            rw [← hu]
            clear hu d0 d1 e0 e1
            refine hK'.out _ _ (F _ hm) ?_
            clear hK' K'
            have hS2 := F _ hm
            refine anyE_takeH 11 rfl (by kernel_rfl) (fun _ _ _ h => h) hS2 (by rfl) (v := ?_) ?_ ?_
            rotate_left
            · intro w' hSw; (try dsimp only at hSw); go_simp; (try with_reducible rfl)
            try simp only [Act.put, List.setIfInBounds_toArray, List.set_cons_zero, List.set_cons_succ]
            refine anyE_takeH 12 rfl (by kernel_rfl) (fun _ _ _ h => h) hS2 (by rfl) (v := ?_) ?_ ?_
            rotate_left
            · intro w' hSw; (try dsimp only at hSw); go_simp; (try with_reducible rfl)
            try simp only [Act.put, List.setIfInBounds_toArray, List.set_cons_zero, List.set_cons_succ]
            clear hS2
            refine anyE_doneL (by kernel_rfl) ?_
            go_wp2_with fail
            go_meet
            exact ⟨u0.heap.size, u226.heap.size, u202.heap.size, sa, sc, rfl, rfl, rfl, hide ⟨c0, c1, z1⟩, hide ⟨by omega, by omega, by omega, by omega, fun g h => by have := gS g h; have := gS2 g h; constructor <;> omega⟩, hide oE, hide oP, hide oS, hide hm⟩
      · go_simp
        obtain ⟨u229, hu⟩ : ∃ u, u = u202.alloc (.cells #[.int .i64 b, .int .i64 a] 2) := ⟨_, rfl⟩
        have ⟨lx, yu229⟩ := al hu
        replace e0 := fr_of lx d0 e0
        replace e1 := fr_of lx d1 e1
        replace d0 := cell_be lx d0
        replace d1 := cell_be lx d1
        have sl := mL hu
        rw [← hu]
        clear hu
        replace hm := bnext hm lx
        clear lx
        refine hK'.out _ _ (F _ hm) ?_
        clear hK' K'
        refine anyE_3L 2 4 8 (by kernel_rfl) rfl rfl rfl (fun K' hK' => ?_) (fun K' hK' => ?_) (fun K' hK' => ?_)
        · go_simp
          obtain ⟨u230, hu⟩ : ∃ u, u = u229.alloc (.cells #[] 2) := ⟨_, rfl⟩
          have ⟨lx, yu230⟩ := al hu
          replace e0 := fr_of lx d0 e0
          replace e1 := fr_of lx d1 e1
          replace d0 := cell_be lx d0
          replace d1 := cell_be lx d1
          replace sl := sl.below lx
          have oE := mE hu hm.size
          rw [← hu]
          clear hu
          replace hm := bnext hm lx
          clear lx
          refine hK'.out _ _ (F _ hm) ?_
          clear hK' K'
          have hS2 := F _ hm
          refine anyE_takeH 3 rfl (by kernel_rfl) (fun _ _ _ h => h) hS2 (by rfl) (v := ?_) ?_ ?_
          rotate_left
          · intro w' hSw; (try dsimp only at hSw); go_simp; (try with_reducible rfl)
          try simp only [Act.put, List.setIfInBounds_toArray, List.set_cons_zero, List.set_cons_succ]
          clear hS2
          refine anyE_2L 4 8 (by kernel_rfl) rfl rfl (fun K' hK' => ?_) (fun K' hK' => ?_)
          · go_simp
            obtain ⟨u231, hu⟩ : ∃ u, u = u230.alloc (.cells #[.int .i64 1] 2) := ⟨_, rfl⟩
            have ⟨lx, yu231⟩ := al hu
            replace e0 := fr_of lx d0 e0
            replace e1 := fr_of lx d1 e1
            replace d0 := cell_be lx d0
            replace d1 := cell_be lx d1
            replace oE := oE.below lx
            replace sl := sl.below lx
            have oP := mP hu hm.size
            rw [← hu]
            clear hu
            replace hm := bnext hm lx
            clear lx
            refine hK'.out _ _ (F _ hm) ?_
            clear hK' K'
            refine anyE_oneL 8 (by kernel_rfl) rfl (fun K' hK' => ?_)
            go_simp
            refine (HT.out _ _ sl).mono ?_
            rintro e u232 ⟨sa, sc, rfl, oS, lx⟩
            dsimp only
            have gS := own_blk_ge oS
            have gS2 := ownLtA oS
            replace oS := oS.mono hm.size
            have yu232 := lx.size
            replace e0 := fr_of lx d0 e0
            replace e1 := fr_of lx d1 e1
            replace d0 := cell_be lx d0
            replace d1 := cell_be lx d1
            replace oE := oE.below lx
            replace oP := oP.below lx
            replace sl := sl.below lx
            replace hm := bnext hm lx
            clear lx sl
            refine hK'.out _ _ (F _ hm) ?_
            clear hK' K'
            refine anyE_oneL 10 (by kernel_rfl) rfl (fun K' hK' => ?_)
            go_simp
            obtain ⟨u233, hu⟩ : ∃ u, u = (u232.setCell ⟨u0.heap.size, 0, none⟩ (.int .i64 p)).setCell ⟨u0.heap.size, 1, none⟩ (.slice (some ⟨u229.heap.size, 0, none⟩) 0 0) := ⟨_, rfl⟩
            have ⟨c0, c1, z1, yu233, yyu233⟩ := mS hu d0 d1 e1
            replace oE := mO hu oE (fun h => by simp [blk] at h; omega)
            replace oP := mO hu oP (fun h => by simp [blk] at h; omega)
            replace oS := mO hu oS (fun h => by have := gS _ h; have := gS2 _ h; omega)
            replace hm := mB hu hm (by omega)
            rw [← hu]
            clear hu d0 d1 e0 e1
            refine hK'.out _ _ (F _ hm) ?_
            clear hK' K'
            have hS2 := F _ hm
            refine anyE_takeH 11 rfl (by kernel_rfl) (fun _ _ _ h => h) hS2 (by rfl) (v := ?_) ?_ ?_
            rotate_left
            · intro w' hSw; (try dsimp only at hSw); go_simp; (try with_reducible rfl)
            try simp only [Act.put, List.setIfInBounds_toArray, List.set_cons_zero, List.set_cons_succ]
            refine anyE_takeH 12 rfl (by kernel_rfl) (fun _ _ _ h => h) hS2 (by rfl) (v := ?_) ?_ ?_
            rotate_left
            · intro w' hSw; (try dsimp only at hSw); go_simp; (try with_reducible rfl)
            try simp only [Act.put, List.setIfInBounds_toArray, List.set_cons_zero, List.set_cons_succ]
            clear hS2
            refine anyE_doneL (by kernel_rfl) ?_
            go_wp2_with fail
            go_meet
            exact ⟨u0.heap.size, u229.heap.size, u230.heap.size, sa, sc, rfl, rfl, rfl, hide ⟨c0, c1, z1⟩, hide ⟨by omega, by omega, by omega, by omega, fun g h => by have := gS g h; have := gS2 g h; constructor <;> omega⟩, hide oE, hide oP, hide oS, hide hm⟩
          · go_simp
            refine (HT.out _ _ sl).mono ?_
            rintro e u234 ⟨sa, sc, rfl, oS, lx⟩
            dsimp only
            have gS := own_blk_ge oS
            have gS2 := ownLtA oS
            replace oS := oS.mono hm.size
            have yu234 := lx.size
            replace e0 := fr_of lx d0 e0
            replace e1 := fr_of lx d1 e1
            replace d0 := cell_be lx d0
            replace d1 := cell_be lx d1
            replace oE := oE.below lx
            replace sl := sl.below lx
            replace hm := bnext hm lx
            clear lx sl
            refine hK'.out _ _ (F _ hm) ?_
            clear hK' K'
            refine anyE_2L 4 10 (by kernel_rfl) rfl rfl (fun K' hK' => ?_) (fun K' hK' => ?_)
            · go_simp
              obtain ⟨u235, hu⟩ : ∃ u, u = u234.alloc (.cells #[.int .i64 1] 2) := ⟨_, rfl⟩
              have ⟨lx, yu235⟩ := al hu
              replace e0 := fr_of lx d0 e0
              replace e1 := fr_of lx d1 e1
              replace d0 := cell_be lx d0
              replace d1 := cell_be lx d1
              replace oE := oE.below lx
              replace oS := oS.below lx
              have oP := mP hu hm.size
              rw [← hu]
              clear hu
              replace hm := bnext hm lx
              clear lx
              refine hK'.out _ _ (F _ hm) ?_
              clear hK' K'
              refine anyE_oneL 10 (by kernel_rfl) rfl (fun K' hK' => ?_)
              go_simp
              obtain ⟨u236, hu⟩ : ∃ u, u = (u235.setCell ⟨u0.heap.size, 0, none⟩ (.int .i64 p)).setCell ⟨u0.heap.size, 1, none⟩ (.slice (some ⟨u229.heap.size, 0, none⟩) 0 0) := ⟨_, rfl⟩
              have ⟨c0, c1, z1, yu236, yyu236⟩ := mS hu d0 d1 e1
              replace oE := mO hu oE (fun h => by simp [blk] at h; omega)
              replace oP := mO hu oP (fun h => by simp [blk] at h; omega)
              replace oS := mO hu oS (fun h => by have := gS _ h; have := gS2 _ h; omega)
              replace hm := mB hu hm (by omega)
              rw [← hu]
              clear hu d0 d1 e0 e1
              refine hK'.out _ _ (F _ hm) ?_
              clear hK' K'
              have hS2 := F _ hm
              refine anyE_takeH 11 rfl (by kernel_rfl) (fun _ _ _ h => h) hS2 (by rfl) (v := ?_) ?_ ?_
              rotate_left
              · intro w' hSw; (try dsimp only at hSw); go_simp; (try with_reducible rfl)
              try simp only [Act.put, List.setIfInBounds_toArray, List.set_cons_zero, List.set_cons_succ]
              refine anyE_takeH 12 rfl (by kernel_rfl) (fun _ _ _ h => h) hS2 (by rfl) (v := ?_) ?_ ?_
              rotate_left
              · intro w' hSw; (try dsimp only at hSw); go_simp; (try with_reducible rfl)
              try simp only [Act.put, List.setIfInBounds_toArray, List.set_cons_zero, List.set_cons_succ]
              clear hS2
              refine anyE_doneL (by kernel_rfl) ?_
              go_wp2_with fail
              go_meet
              exact ⟨u0.heap.size, u229.heap.size, u234.heap.size, sa, sc, rfl, rfl, rfl, hide ⟨c0, c1, z1⟩, hide ⟨by omega, by omega, by omega, by omega, fun g h => by have := gS g h; have := gS2 g h; constructor <;> omega⟩, hide oE, hide oP, hide oS, hide hm⟩
            · go_simp
              obtain ⟨u237, hu⟩ : ∃ u, u = (u234.setCell ⟨u0.heap.size, 0, none⟩ (.int .i64 p)).setCell ⟨u0.heap.size, 1, none⟩ (.slice (some ⟨u229.heap.size, 0, none⟩) 0 0) := ⟨_, rfl⟩
              have ⟨c0, c1, z1, yu237, yyu237⟩ := mS hu d0 d1 e1
              replace oE := mO hu oE (fun h => by simp [blk] at h; omega)
              replace oS := mO hu oS (fun h => by have := gS _ h; have := gS2 _ h; omega)
              replace hm := mB hu hm (by omega)
              rw [← hu]
              clear hu d0 d1 e0 e1
              refine hK'.out _ _ (F _ hm) ?_
              clear hK' K'
              refine anyE_oneL 4 (by kernel_rfl) rfl (fun K' hK' => ?_)
              go_simp
              obtain ⟨u238, hu⟩ : ∃ u, u = u237.alloc (.cells #[.int .i64 1] 2) := ⟨_, rfl⟩
              have ⟨lx, yu238⟩ := al hu
              replace c0 := cell_be lx c0
              replace z1 := fr_of lx c1 z1
              replace c1 := cell_be lx c1
              replace oE := oE.below lx
              replace oS := oS.below lx
              have oP := mP hu hm.size
              rw [← hu]
              clear hu
              replace hm := bnext hm lx
              clear lx
              refine hK'.out _ _ (F _ hm) ?_
              clear hK' K'
              have hS2 := F _ hm
              refine anyE_takeH 11 rfl (by kernel_rfl) (fun _ _ _ h => h) hS2 (by rfl) (v := ?_) ?_ ?_
              rotate_left
              · intro w' hSw; (try dsimp only at hSw); go_simp; (try with_reducible rfl)
              try simp only [Act.put, List.setIfInBounds_toArray, List.set_cons_zero, List.set_cons_succ]
              refine anyE_takeH 12 rfl (by kernel_rfl) (fun _ _ _ h => h) hS2 (by rfl) (v := ?_) ?_ ?_
              rotate_left
              · intro w' hSw; (try dsimp only at hSw); go_simp; (try with_reducible rfl)
              try simp only [Act.put, List.setIfInBounds_toArray, List.set_cons_zero, List.set_cons_succ]
              clear hS2
              refine anyE_doneL (by kernel_rfl) ?_
              go_wp2_with fail
              go_meet
              exact ⟨u0.heap.size, u229.heap.size, u237.heap.size, sa, sc, rfl, rfl, rfl, hide ⟨c0, c1, z1⟩, hide ⟨by omega, by omega, by omega, by omega, fun g h => by have := gS g h; have := gS2 g h; constructor <;> omega⟩, hide oE, hide oP, hide oS, hide hm⟩
        · go_simp
          obtain ⟨u239, hu⟩ : ∃ u, u = u229.alloc (.cells #[.int .i64 1] 2) := ⟨_, rfl⟩
          have ⟨lx, yu239⟩ := al hu
          replace e0 := fr_of lx d0 e0
          replace e1 := fr_of lx d1 e1
          replace d0 := cell_be lx d0
          replace d1 := cell_be lx d1
          replace sl := sl.below lx
          have oP := mP hu hm.size
          rw [← hu]
          clear hu
          replace hm := bnext hm lx
          clear lx
          refine hK'.out _ _ (F _ hm) ?_
          clear hK' K'
          refine anyE_2L 2 8 (by kernel_rfl) rfl rfl (fun K' hK' => ?_) (fun K' hK' => ?_)
          · go_simp
            obtain ⟨u240, hu⟩ : ∃ u, u = u239.alloc (.cells #[] 2) := ⟨_, rfl⟩
            have ⟨lx, yu240⟩ := al hu
            replace e0 := fr_of lx d0 e0
            replace e1 := fr_of lx d1 e1
            replace d0 := cell_be lx d0
            replace d1 := cell_be lx d1
            replace oP := oP.below lx
            replace sl := sl.below lx
            have oE := mE hu hm.size
            rw [← hu]
            clear hu
            replace hm := bnext hm lx
            clear lx
            refine hK'.out _ _ (F _ hm) ?_
            clear hK' K'
            have hS2 := F _ hm
            refine anyE_takeH 3 rfl (by kernel_rfl) (fun _ _ _ h => h) hS2 (by rfl) (v := ?_) ?_ ?_
            rotate_left
            · intro w' hSw; (try dsimp only at hSw); go_simp; (try with_reducible rfl)
            try simp only [Act.put, List.setIfInBounds_toArray, List.set_cons_zero, List.set_cons_succ]
            clear hS2
            refine anyE_oneL 8 (by kernel_rfl) rfl (fun K' hK' => ?_)
            go_simp
            refine (HT.out _ _ sl).mono ?_
            rintro e u241 ⟨sa, sc, rfl, oS, lx⟩
            dsimp only
            have gS := own_blk_ge oS
            have gS2 := ownLtA oS
            replace oS := oS.mono hm.size
            have yu241 := lx.size
            replace e0 := fr_of lx d0 e0
            replace e1 := fr_of lx d1 e1
            replace d0 := cell_be lx d0
            replace d1 := cell_be lx d1
            replace oE := oE.below lx
            replace oP := oP.below lx
            replace sl := sl.below lx
            replace hm := bnext hm lx
            clear lx sl
            refine hK'.out _ _ (F _ hm) ?_
            clear hK' K'
            refine anyE_oneL 10 (by kernel_rfl) rfl (fun K' hK' => ?_)
            go_simp
            obtain ⟨u242, hu⟩ : ∃ u, u = (u241.setCell ⟨u0.heap.size, 0, none⟩ (.int .i64 p)).setCell ⟨u0.heap.size, 1, none⟩ (.slice (some ⟨u239.heap.size, 0, none⟩) 0 0) := ⟨_, rfl⟩
            have ⟨c0, c1, z1, yu242, yyu242⟩ := mS hu d0 d1 e1
            replace oE := mO hu oE (fun h => by simp [blk] at h; omega)
            replace oP := mO hu oP (fun h => by simp [blk] at h; omega)
            replace oS := mO hu oS (fun h => by have := gS _ h; have := gS2 _ h; omega)
            replace hm := mB hu hm (by omega)
            rw [← hu]
            clear hu d0 d1 e0 e1
            refine hK'.out _ _ (F _ hm) ?_
            clear hK' K'
            have hS2 := F _ hm
            refine anyE_takeH 11 rfl (by kernel_rfl) (fun _ _ _ h => h) hS2 (by rfl) (v := ?_) ?_ ?_
            rotate_left
            · intro w' hSw; (try dsimp only at hSw); go_simp; (try with_reducible rfl)
            try simp only [Act.put, List.setIfInBounds_toArray, List.set_cons_zero, List.set_cons_succ]
            refine anyE_takeH 12 rfl (by kernel_rfl) (fun _ _ _ h => h) hS2 (by rfl) (v := ?_) ?_ ?_
            rotate_left
            · intro w' hSw; (try dsimp only at hSw); go_simp; (try with_reducible rfl)
            try simp only [Act.put, List.setIfInBounds_toArray, List.set_cons_zero, List.set_cons_succ]
            clear hS2
            refine anyE_doneL (by kernel_rfl) ?_
            go_wp2_with fail
            go_meet
            exact ⟨u0.heap.size, u239.heap.size, u229.heap.size, sa, sc, rfl, rfl, rfl, hide ⟨c0, c1, z1⟩, hide ⟨by omega, by omega, by omega, by omega, fun g h => by have := gS g h; have := gS2 g h; constructor <;> omega⟩, hide oE, hide oP, hide oS, hide hm⟩
          · go_simp
            refine (HT.out _ _ sl).mono ?_
            rintro e u243 ⟨sa, sc, rfl, oS, lx⟩
            dsimp only
            have gS := own_blk_ge oS
            have gS2 := ownLtA oS
            replace oS := oS.mono hm.size
            have yu243 := lx.size
            replace e0 := fr_of lx d0 e0
            replace e1 := fr_of lx d1 e1
            replace d0 := cell_be lx d0
            replace d1 := cell_be lx d1
            replace oP := oP.below lx
            replace sl := sl.below lx
            replace hm := bnext hm lx
            clear lx sl
            refine hK'.out _ _ (F _ hm) ?_
            clear hK' K'
            refine anyE_oneL 2 (by kernel_rfl) rfl (fun K' hK' => ?_)
            go_simp
            obtain ⟨u244, hu⟩ : ∃ u, u = u243.alloc (.cells #[] 2) := ⟨_, rfl⟩
            have ⟨lx, yu244⟩ := al hu
            replace e0 := fr_of lx d0 e0
            replace e1 := fr_of lx d1 e1
            replace d0 := cell_be lx d0
            replace d1 := cell_be lx d1
            replace oP := oP.below lx
            replace oS := oS.below lx
            have oE := mE hu hm.size
            rw [← hu]
            clear hu
            replace hm := bnext hm lx
            clear lx
            refine hK'.out _ _ (F _ hm) ?_
            clear hK' K'
            have hS2 := F _ hm
            refine anyE_takeH 3 rfl (by kernel_rfl) (fun _ _ _ h => h) hS2 (by rfl) (v := ?_) ?_ ?_
            rotate_left
            · intro w' hSw; (try dsimp only at hSw); go_simp; (try with_reducible rfl)
            try simp only [Act.put, List.setIfInBounds_toArray, List.set_cons_zero, List.set_cons_succ]
            clear hS2
            refine anyE_oneL 10 (by kernel_rfl) rfl (fun K' hK' => ?_)
            go_simp
            obtain ⟨u245, hu⟩ : ∃ u, u = (u244.setCell ⟨u0.heap.size, 0, none⟩ (.int .i64 p)).setCell ⟨u0.heap.size, 1, none⟩ (.slice (some ⟨u243.heap.size, 0, none⟩) 0 0) := ⟨_, rfl⟩
            have ⟨c0, c1, z1, yu245, yyu245⟩ := mS hu d0 d1 e1
            replace oE := mO hu oE (fun h => by simp [blk] at h; omega)
            replace oP := mO hu oP (fun h => by simp [blk] at h; omega)
            replace oS := mO hu oS (fun h => by have := gS _ h; have := gS2 _ h; omega)
            replace hm := mB hu hm (by omega)
            rw [← hu]
            clear hu d0 d1 e0 e1
            refine hK'.out _ _ (F _ hm) ?_
            clear hK' K'
            have hS2 := F _ hm
            refine anyE_takeH 11 rfl (by kernel_rfl) (fun _ _ _ h => h) hS2 (by rfl) (v := ?_) ?_ ?_
            rotate_left
            · intro w' hSw; (try dsimp only at hSw); go_simp; (try with_reducible rfl)
            try simp only [Act.put, List.setIfInBounds_toArray, List.set_cons_zero, List.set_cons_succ]
            refine anyE_takeH 12 rfl (by kernel_rfl) (fun _ _ _ h => h) hS2 (by rfl) (v := ?_) ?_ ?_
            rotate_left
            · intro w' hSw; (try dsimp only at hSw); go_simp; (try with_reducible rfl)
            try simp only [Act.put, List.setIfInBounds_toArray, List.set_cons_zero, List.set_cons_succ]
            clear hS2
            refine anyE_doneL (by kernel_rfl) ?_
            go_wp2_with fail
            go_meet
            exact ⟨u0.heap.size, u243.heap.size, u229.heap.size, sa, sc, rfl, rfl, rfl, hide ⟨c0, c1, z1⟩, hide ⟨by omega, by omega, by omega, by omega, fun g h => by have := gS g h; have := gS2 g h; constructor <;> omega⟩, hide oE, hide oP, hide oS, hide hm⟩
        · go_simp
          refine (HT.out _ _ sl).mono ?_
          rintro e u246 ⟨sa, sc, rfl, oS, lx⟩
          dsimp only
          have gS := own_blk_ge oS
          have gS2 := ownLtA oS
          replace oS := oS.mono hm.size
          have yu246 := lx.size
          replace e0 := fr_of lx d0 e0
          replace e1 := fr_of lx d1 e1
          replace d0 := cell_be lx d0
          replace d1 := cell_be lx d1
          replace sl := sl.below lx
          replace hm := bnext hm lx
          clear lx sl
          refine hK'.out _ _ (F _ hm) ?_
          clear hK' K'
          refine anyE_2L 2 4 (by kernel_rfl) rfl rfl (fun K' hK' => ?_) (fun K' hK' => ?_)
          · go_simp
            obtain ⟨u247, hu⟩ : ∃ u, u = u246.alloc (.cells #[] 2) := ⟨_, rfl⟩
            have ⟨lx, yu247⟩ := al hu
            replace e0 := fr_of lx d0 e0
            replace e1 := fr_of lx d1 e1
            replace d0 := cell_be lx d0
            replace d1 := cell_be lx d1
            replace oS := oS.below lx
            have oE := mE hu hm.size
            rw [← hu]
            clear hu
            replace hm := bnext hm lx
            clear lx
            refine hK'.out _ _ (F _ hm) ?_
            clear hK' K'
            have hS2 := F _ hm
            refine anyE_takeH 3 rfl (by kernel_rfl) (fun _ _ _ h => h) hS2 (by rfl) (v := ?_) ?_ ?_
            rotate_left
            · intro w' hSw; (try dsimp only at hSw); go_simp; (try with_reducible rfl)
            try simp only [Act.put, List.setIfInBounds_toArray, List.set_cons_zero, List.set_cons_succ]
            clear hS2
            refine anyE_2L 4 10 (by kernel_rfl) rfl rfl (fun K' hK' => ?_) (fun K' hK' => ?_)
            · go_simp
              obtain ⟨u248, hu⟩ : ∃ u, u = u247.alloc (.cells #[.int .i64 1] 2) := ⟨_, rfl⟩
              have ⟨lx, yu248⟩ := al hu
              replace e0 := fr_of lx d0 e0
              replace e1 := fr_of lx d1 e1
              replace d0 := cell_be lx d0
              replace d1 := cell_be lx d1
              replace oE := oE.below lx
              replace oS := oS.below lx
              have oP := mP hu hm.size
              rw [← hu]
              clear hu
              replace hm := bnext hm lx
              clear lx
              refine hK'.out _ _ (F _ hm) ?_
              clear hK' K'
              refine anyE_oneL 10 (by kernel_rfl) rfl (fun K' hK' => ?_)
              go_simp
              obtain ⟨u249, hu⟩ : ∃ u, u = (u248.setCell ⟨u0.heap.size, 0, none⟩ (.int .i64 p)).setCell ⟨u0.heap.size, 1, none⟩ (.slice (some ⟨u246.heap.size, 0, none⟩) 0 0) := ⟨_, rfl⟩
              have ⟨c0, c1, z1, yu249, yyu249⟩ := mS hu d0 d1 e1
              replace oE := mO hu oE (fun h => by simp [blk] at h; omega)
              replace oP := mO hu oP (fun h => by simp [blk] at h; omega)
              replace oS := mO hu oS (fun h => by have := gS _ h; have := gS2 _ h; omega)
              replace hm := mB hu hm (by omega)
              rw [← hu]
              clear hu d0 d1 e0 e1
              refine hK'.out _ _ (F _ hm) ?_
              clear hK' K'
              have hS2 := F _ hm
              refine anyE_takeH 11 rfl (by kernel_rfl) (fun _ _ _ h => h) hS2 (by rfl) (v := ?_) ?_ ?_
              rotate_left
              · intro w' hSw; (try dsimp only at hSw); go_simp; (try with_reducible rfl)
              try simp only [Act.put, List.setIfInBounds_toArray, List.set_cons_zero, List.set_cons_succ]
              refine anyE_takeH 12 rfl (by kernel_rfl) (fun _ _ _ h => h) hS2 (by rfl) (v := ?_) ?_ ?_
              rotate_left
              · intro w' hSw; (try dsimp only at hSw); go_simp; (try with_reducible rfl)
              try simp only [Act.put, List.setIfInBounds_toArray, List.set_cons_zero, List.set_cons_succ]
              clear hS2
              refine anyE_doneL (by kernel_rfl) ?_
              go_wp2_with fail
              go_meet
              exact ⟨u0.heap.size, u246.heap.size, u247.heap.size, sa, sc, rfl, rfl, rfl, hide ⟨c0, c1, z1⟩, hide ⟨by omega, by omega, by omega, by omega, fun g h => by have := gS g h; have := gS2 g h; constructor <;> omega⟩, hide oE, hide oP, hide oS, hide hm⟩
            · go_simp
              obtain ⟨u250, hu⟩ : ∃ u, u = (u247.setCell ⟨u0.heap.size, 0, none⟩ (.int .i64 p)).setCell ⟨u0.heap.size, 1, none⟩ (.slice (some ⟨u246.heap.size, 0, none⟩) 0 0) := ⟨_, rfl⟩
              have ⟨c0, c1, z1, yu250, yyu250⟩ := mS hu d0 d1 e1
              replace oE := mO hu oE (fun h => by simp [blk] at h; omega)
              replace oS := mO hu oS (fun h => by have := gS _ h; have := gS2 _ h; omega)
              replace hm := mB hu hm (by omega)
              rw [← hu]
              clear hu d0 d1 e0 e1
              refine hK'.out _ _ (F _ hm) ?_
              clear hK' K'
              refine anyE_oneL 4 (by kernel_rfl) rfl (fun K' hK' => ?_)
              go_simp
              obtain ⟨u251, hu⟩ : ∃ u, u = u250.alloc (.cells #[.int .i64 1] 2) := ⟨_, rfl⟩
              have ⟨lx, yu251⟩ := al hu
              replace c0 := cell_be lx c0
              replace z1 := fr_of lx c1 z1
              replace c1 := cell_be lx c1
              replace oE := oE.below lx
              replace oS := oS.below lx
              have oP := mP hu hm.size
              rw [← hu]
              clear hu
              replace hm := bnext hm lx
              clear lx
              refine hK'.out _ _ (F _ hm) ?_
              clear hK' K'
              have hS2 := F _ hm
              refine anyE_takeH 11 rfl (by kernel_rfl) (fun _ _ _ h => h) hS2 (by rfl) (v := ?_) ?_ ?_
              rotate_left
              · intro w' hSw; (try dsimp only at hSw); go_simp; (try with_reducible rfl)
              try simp only [Act.put, List.setIfInBounds_toArray, List.set_cons_zero, List.set_cons_succ]
              refine anyE_takeH 12 rfl (by kernel_rfl) (fun _ _ _ h => h) hS2 (by rfl) (v := ?_) ?_ ?_
              rotate_left
              · intro w' hSw; (try dsimp only at hSw); go_simp; (try with_reducible rfl)
              try simp only [Act.put, List.setIfInBounds_toArray, List.set_cons_zero, List.set_cons_succ]
              clear hS2
              refine anyE_doneL (by kernel_rfl) ?_
              go_wp2_with fail
              go_meet
              exact ⟨u0.heap.size, u246.heap.size, u250.heap.size, sa, sc, rfl, rfl, rfl, hide ⟨c0, c1, z1⟩, hide ⟨by omega, by omega, by omega, by omega, fun g h => by have := gS g h; have := gS2 g h; constructor <;> omega⟩, hide oE, hide oP, hide oS, hide hm⟩
          · go_simp
            obtain ⟨u252, hu⟩ : ∃ u, u = u246.alloc (.cells #[.int .i64 1] 2) := ⟨_, rfl⟩
            have ⟨lx, yu252⟩ := al hu
            replace e0 := fr_of lx d0 e0
            replace e1 := fr_of lx d1 e1
            replace d0 := cell_be lx d0
            replace d1 := cell_be lx d1
            replace oS := oS.below lx
            have oP := mP hu hm.size
            rw [← hu]
            clear hu
            replace hm := bnext hm lx
            clear lx
            refine hK'.out _ _ (F _ hm) ?_
            clear hK' K'
            refine anyE_oneL 2 (by kernel_rfl) rfl (fun K' hK' => ?_)
            go_simp
            obtain ⟨u253, hu⟩ : ∃ u, u = u252.alloc (.cells #[] 2) := ⟨_, rfl⟩
            have ⟨lx, yu253⟩ := al hu
            replace e0 := fr_of lx d0 e0
            replace e1 := fr_of lx d1 e1
            replace d0 := cell_be lx d0
            replace d1 := cell_be lx d1
            replace oP := oP.below lx
            replace oS := oS.below lx
            have oE := mE hu hm.size
            rw [← hu]
            clear hu
            replace hm := bnext hm lx
            clear lx
            refine hK'.out _ _ (F _ hm) ?_
            clear hK' K'
            have hS2 := F _ hm
            refine anyE_takeH 3 rfl (by kernel_rfl) (fun _ _ _ h => h) hS2 (by rfl) (v := ?_) ?_ ?_
            rotate_left
            · intro w' hSw; (try dsimp only at hSw); go_simp; (try with_reducible rfl)
            try simp only [Act.put, List.setIfInBounds_toArray, List.set_cons_zero, List.set_cons_succ]
            clear hS2
            refine anyE_oneL 10 (by kernel_rfl) rfl (fun K' hK' => ?_)
            go_simp
            obtain ⟨u254, hu⟩ : ∃ u, u = (u253.setCell ⟨u0.heap.size, 0, none⟩ (.int .i64 p)).setCell ⟨u0.heap.size, 1, none⟩ (.slice (some ⟨u252.heap.size, 0, none⟩) 0 0) := ⟨_, rfl⟩
            have ⟨c0, c1, z1, yu254, yyu254⟩ := mS hu d0 d1 e1
            replace oE := mO hu oE (fun h => by simp [blk] at h; omega)
            replace oP := mO hu oP (fun h => by simp [blk] at h; omega)
            replace oS := mO hu oS (fun h => by have := gS _ h; have := gS2 _ h; omega)
            replace hm := mB hu hm (by omega)
            rw [← hu]
            clear hu d0 d1 e0 e1
            refine hK'.out _ _ (F _ hm) ?_
            clear hK' K'
            have hS2 := F _ hm
            refine anyE_takeH 11 rfl (by kernel_rfl) (fun _ _ _ h => h) hS2 (by rfl) (v := ?_) ?_ ?_
            rotate_left
            · intro w' hSw; (try dsimp only at hSw); go_simp; (try with_reducible rfl)
            try simp only [Act.put, List.setIfInBounds_toArray, List.set_cons_zero, List.set_cons_succ]
            refine anyE_takeH 12 rfl (by kernel_rfl) (fun _ _ _ h => h) hS2 (by rfl) (v := ?_) ?_ ?_
            rotate_left
            · intro w' hSw; (try dsimp only at hSw); go_simp; (try with_reducible rfl)
            try simp only [Act.put, List.setIfInBounds_toArray, List.set_cons_zero, List.set_cons_succ]
            clear hS2
            refine anyE_doneL (by kernel_rfl) ?_
            go_wp2_with fail
            go_meet
            exact ⟨u0.heap.size, u252.heap.size, u246.heap.size, sa, sc, rfl, rfl, rfl, hide ⟨c0, c1, z1⟩, hide ⟨by omega, by omega, by omega, by omega, fun g h => by have := gS g h; have := gS2 g h; constructor <;> omega⟩, hide oE, hide oP, hide oS, hide hm⟩
  case rest =>
    obtain ⟨q, gE, gP, sa, sc, rfl, rfl, rfl, hC, hD, hE, hP, hSS, hm⟩ := hcut
    obtain ⟨w5, hw5⟩ : ∃ w5, w5 = wc := ⟨wc, rfl⟩
    subst hw5
    have hA0 : Hid (AF w1.heap.size q w5 p (some ⟨gE, 0, none⟩) 0 0 (tab 0 (afH p st xs)) (some ⟨gP, 0, none⟩) 1 (afP p st 0) sa sc st) := hide ⟨hE.out, hP.out, hSS.out, hC.out, ⟨by have := hD.out.1; simp [blk]; omega, by have := hD.out.2.1; simp [blk]; omega, fun h => (hD.out.2.2.2.2 _ h).1 rfl, fun g h => by simp [blk] at h; subst h; exact ⟨by have := hD.out.2.2.1; simp [blk]; omega, fun h => (hD.out.2.2.2.2 _ h).2 rfl⟩⟩, hD.out.2.2.2.1⟩
    clear hC hD hE hP hSS
    go_wp2_with fail
    go_loopw [9, 11] (fun pv iv wr => ∃ (k c' : Nat) (a' pa : Option Addr) (pc : Nat), k ≤ n ∧ iv = .int .i64 k ∧ pv = .slice pa (afP p st k).length pc ∧ Hid (AF w1.heap.size q wr p a' k c' (tab k (afH p st xs)) pa pc (afP p st k) sa sc st) ∧ Hid (Below w1.heap.size w1 wr)) (fun _ iv _ => n - (intOf iv).toNat)
    case atStart => exact ⟨0, 0, _, _, 1, by omega, rfl, rfl, hA0, hm⟩
    case round =>
      obtain ⟨k, c', a', pa, pc, hk, rfl, rfl, hA, hW⟩ := hrel
      clear hA0 hm
      have g0 := cell_be hW.out f0
      have g1 := cell_be hW.out f1
      have zr := hW.out.size
      by_cases hlt : k < n
      · have hlt' : (k : Int) < (n : Int) := by omega
        have lf := afP_len p st sp2 k
        have hpl := afP_poly Hpr.out Hs.out sp2 k (by omega)
        have Ht := hide (mulM_trim Hpr.out hpl Hs.out)
        have Hf := hide (afP_are hp st k)
        have Hst := hide (polyB_rng Hs.out).2.1
        have hst2 : Hid (afP p st (k + 1) = mulM p (afP p st k) st) := hide rfl
        have hsn : Hid (tab (k + 1) (afH p st xs) = tab k (afH p st xs) ++ [dotK p (afP p st k) xs 0 (afP p st k).length]) := hide (tab_snoc k (afH p st xs)).symm
        obtain ⟨f, hf⟩ : ∃ f, afP p st k = f := ⟨_, rfl⟩
        rw [hf] at hA lf Ht Hf hst2 hsn ⊢
        clear hf hpl
        obtain ⟨oA, oP, oS, ⟨q0, q1, fq⟩, ⟨n1, n2, n3, n4⟩, hBq⟩ := hA.out
        have s2 := hs.below hW.out
        have s1 := Own.sl oP
        have hbd := (Below.refl wr.heap.size wr).drew
        have hcon := fun W (hb : Below wr.heap.size wr W) => l02Apply_any p _ _ _ xs _ _ _ f 0 (0 : Int) W (s2.below hb) (s1.below hb) (by omega) (by omega) rfl (by omega) hp hp2 Hf.out Hx.out
        have Hcon := hide hcon
        obtain ⟨X, hX⟩ : ∃ X, dotK p f xs 0 f.length = X := ⟨_, rfl⟩
        rw [hX] at Hcon hsn
        obtain ⟨zs, hzs⟩ : ∃ zs, tab k (afH p st xs) = zs := ⟨_, rfl⟩
        have hzl := hide (show zs.length = k by rw [← hzs, tab_len])
        rw [hzs] at oA hsn
        clear hX hzs hcon s1 s2 hA
        have HN := hide (And.intro n1 (And.intro n2 (And.intro n3 n4)))
        have OA := hide oA
        have OP := hide oP
        have OS := hide oS
        have hqw := World.block_lt_of_cell? _ _ q0
        simp at hqw
        clear n1 n2 n3 n4 oA oP oS
        go_upto_region 9 with fail
        refine region_E (fun w' => w'.cell? ⟨q, 1, none⟩ = some (.slice a' k c') ∧ w'.cell? ⟨w.heap.size, 0, none⟩ = some (.int .i64 p) ∧ w'.cell? ⟨w.heap.size, 1, none⟩ = some (.slice a1 n c1)) 8 (by kernel_rfl) ⟨cell_be hbd q1, cell_be hbd g0, cell_be hbd g1⟩ ?_
        intro hS
        refine anyE_takeL 0 rfl (by kernel_rfl) (fun _ _ _ h => h) hS (by rfl) (v := ?_) ?_ ?_
        rotate_left
        · intro w' hSw; (try dsimp only at hSw); go_simp; (try with_reducible rfl)
        try simp only [Act.put, List.setIfInBounds_toArray, List.set_cons_zero, List.set_cons_succ]
        refine anyE_takeL 1 rfl (by kernel_rfl) (fun _ _ _ h => h) hS (by rfl) (v := ?_) ?_ ?_
        rotate_left
        · intro w' hSw; (try dsimp only at hSw); go_simp; (try with_reducible rfl)
        try simp only [Act.put, List.setIfInBounds_toArray, List.set_cons_zero, List.set_cons_succ]
        refine anyE_takeL 2 rfl (by kernel_rfl) (fun _ _ _ h => h) hS (by rfl) (v := ?_) ?_ ?_
        rotate_left
        · intro w' hSw; (try dsimp only at hSw); go_simp; (try with_reducible rfl)
        try simp only [Act.put, List.setIfInBounds_toArray, List.set_cons_zero, List.set_cons_succ]
        refine anyE_takeL 3 rfl (by kernel_rfl) (fun _ _ _ h => h) hS (by rfl) (v := ?_) ?_ ?_
        rotate_left
        · intro w' hSw; (try dsimp only at hSw); go_simp; (try with_reducible rfl)
        try simp only [Act.put, List.setIfInBounds_toArray, List.set_cons_zero, List.set_cons_succ]
        clear hS
        refine anyE_oneL 4 (by kernel_rfl) rfl (fun K' hK' => ?_)
        go_simp
        refine (Hcon.out _ hbd).mono ?_
        rintro e w5 ⟨rfl, hb5⟩
        dsimp only
        have B5 := hbd.trans (hb5.mono hbd.size)
        refine hK'.out _ _ ⟨cell_be B5 q1, cell_be B5 g0, cell_be B5 g1⟩ ?_
        clear hK' K'
        try simp only [Act.put, List.setIfInBounds_toArray, List.set_cons_zero, List.set_cons_succ]
        have hba : Below w5.heap.size w5 (w5.alloc (.cells #[.int .i64 X] 2)) := bl1 _ _
        have Bba : Below wr.heap.size wr (w5.alloc (.cells #[.int .i64 X] 2)) := B5.trans (hba.mono B5.size)
        have s1a : (w5.alloc (.cells #[.int .i64 X] 2)).cell? ⟨q, 1, none⟩ = some (.slice a' k c') := cell_be Bba q1
        have sfa : (w5.alloc (.cells #[.int .i64 X] 2)).frozen? ⟨q, 1, none⟩ = false := (Bba.frozen (World.block_lt_of_cell? _ _ q1)).trans fq
        have hOa := hide (OA.out.below Bba)
        have hcl : (w5.alloc (.cells #[.int .i64 X] 2)).cell? ⟨w5.heap.size, 0, none⟩ = some (.int .i64 X) := by simp [go_sem]
        have z5 := B5.size
        refine anyE_oneL 5 (by kernel_rfl) rfl (fun K' hK' => ?_)
        go_simp
        have S1 := And.intro s1a (And.intro (cell_be Bba g0) (cell_be Bba g1))
        refine hK'.out _ _ S1 ?_
        clear hK' K'
        try simp only [Act.put, List.setIfInBounds_toArray, List.set_cons_zero, List.set_cons_succ]
        refine anyE_oneL 6 (by kernel_rfl) rfl (fun K' hK' => ?_)
        refine step_app1 (by rfl) _ _ (by rfl) w1.heap.size _ _ _ zs (by rfl) hzl.out.symm hOa.out _ _ X (by rfl) hcl (by omega) (by simp; omega) ?_
        intro ad' cap' w' hown' hgr hloc
        have hne := HN.out.1
        have s1' := cell_ne hgr s1a hne
        have sf' := frz_ne hgr s1a sfa hne
        have hge := own_blk_ge hOa.out
        have hww : w.heap.size + 2 ≤ w1.heap.size := hzz
        have S2 := And.intro s1' (And.intro (cell_ne hgr S1.2.1 (fun e => by have := hge _ e; omega)) (cell_ne hgr S1.2.2 (fun e => by have := hge _ e; omega)))
        refine hK'.out _ _ S2 ?_
        clear hK' K'
        try simp only [Act.put, List.setIfInBounds_toArray, List.set_cons_zero, List.set_cons_succ]
        refine anyE_takeL 7 rfl (by kernel_rfl) (fun _ _ _ h => h) S2 (by rfl) (v := ?_) ?_ ?_
        rotate_left
        · intro w' hSw; (try dsimp only at hSw); go_simp; (try with_reducible rfl)
        try simp only [Act.put, List.setIfInBounds_toArray, List.set_cons_zero, List.set_cons_succ]
        clear S1 S2 hge
        refine anyE_lastL (by kernel_rfl) rfl (by kernel_rfl) (fun K' hK' => ?_)
        go_simp
        refine hK'.out _ _ ?_
        clear hK' K'
        try simp only [Act.put, List.setIfInBounds_toArray, List.set_cons_zero, List.set_cons_succ]
        obtain ⟨w6, hw6⟩ : ∃ w6, w6 = w'.setCell ⟨q, 1, none⟩ (.slice ad' (zs.length + 1) cap') := ⟨_, rfl⟩
        rw [← hw6]
        have hnew : blk ad' ≠ some q := by
          rcases hloc with h | h <;> rw [h]
          · exact hne
          · simp; omega
        have oA6 : Hid (Own w1.heap.size w6 ad' cap' (tab (k + 1) (afH p st xs))) := hide (by rw [hw6, hsn.out]; exact hown'.otherG hnew _)
        have oP6 : Hid (Own w1.heap.size w6 pa pc f) := hide (by rw [hw6]; exact ((OP.out.below Bba).keep hgr (fun g h1 h2 => (HN.out.2.2.2 g h2).1 h1)).otherG HN.out.2.1 _)
        have oS6 : Hid (Own w1.heap.size w6 sa sc st) := hide (by rw [hw6]; exact ((OS.out.below Bba).keep hgr (fun g h1 h2 => (HN.out.2.2.2 g h2).2 h1)).otherG HN.out.2.2.1 _)
        have p0 : w6.cell? ⟨q, 0, none⟩ = some (.int .i64 p) := by rw [hw6]; exact cell_set2' (cell_ne hgr (cell_be Bba q0) hne) (by simp) _
        have p1 : w6.cell? ⟨q, 1, none⟩ = some (.slice ad' (k + 1) cap') := by rw [hw6, show k + 1 = zs.length + 1 by rw [hzl.out]]; exact World.cell?_setCell_same _ _ _ s1'
        have yy1 : w6.frozen? ⟨q, 1, none⟩ = false := by rw [hw6]; simpa using sf'
        have hW6 : Hid (Below w1.heap.size w1 w6) := hide (by rw [hw6]; exact ((hW.out.trans (Bba.mono (by omega))).grown hgr (by simp; omega) (own_blk_ge hOa.out)).setCell (by simp; omega) _)
        have hnS : Hid (∀ g, blk ad' = some g → blk sa ≠ some g) := hide (fun g h1 h2 => by
          rcases hloc with h | h
          · rw [h] at h1; exact (HN.out.2.2.2 g h1).2 h2
          · rw [h] at h1
            have := ownLtA OS.out g h2
            simp at h1
            omega)
        have hq6 : q < w6.heap.size := World.block_lt_of_cell? _ _ p0
        have hn6 := hide hnew
        have hn3 := hide HN.out.2.2.1
        have g0 := cell_be hW6.out f0
        have g1 := cell_be hW6.out f1
        clear hw6 hgr hown' hloc hOa hba hcl s1a sfa s1' sf' hnew hne OA OP OS q0 q1 fq hb5 B5 Bba hW Hcon hbd HN hqw
        have sp6 := Own.sl oP6.out
        have ss6 := Own.sl oS6.out
        go_wp2_with fail
        refine (l01TimesP p _ _ _ f _ _ _ st _ sp6 ss6 (by omega) (by omega) hp hp2 Hf.out Hst.out Ht.out).mono ?_
        rintro e w7 ⟨pb, pd, rfl, o7, t7⟩
        have hW7 := hide (hW6.out.trans (t7.mono hW6.out.size))
        have hA7 : Hid (AF w1.heap.size q w7 p ad' (k + 1) cap' (tab (k + 1) (afH p st xs)) pb pd (afP p st (k + 1)) sa sc st) := hide (by
          rw [hst2.out]
          refine ⟨oA6.out.below t7, o7.mono hW6.out.size, oS6.out.below t7, ⟨cell_be t7 p0, cell_be t7 p1, fr_of t7 p1 yy1⟩, ⟨hn6.out, fun h => by have := own_blk_ge o7 _ h; omega, hn3.out, fun g h => ⟨fun h2 => by have := own_blk_ge o7 _ h2; have := ownLtA oA6.out _ h; omega, hnS.out g h⟩⟩, hBq⟩)
        clear o7 t7 p0 p1 yy1 oA6 oP6 oS6 sp6 ss6
        go_wp2
        go_roundw
        case rel => exact ⟨k + 1, cap', ad', pb, pd, by omega, by go_num, by rw [hst2.out], hA7, hW7⟩
        case measure => simp [intOf]; omega
      · have hkn : k = n := by omega
        have hge : ¬ (k : Int) < (n : Int) := by omega
        obtain ⟨oA, oP, oS, ⟨q0, q1, fq⟩, ⟨n1, n2, n3, n4⟩, hBq⟩ := hA.out
        rw [hkn] at q1 oA
        have hB := B1.trans (hW.out.mono B1.size)
        have r0' := cell_be hW.out r0
        have r1' := cell_be hW.out r1
        have x0' := (hW.out.frozen (World.block_lt_of_cell? _ _ r0)).trans yr0
        have x1' := (hW.out.frozen (World.block_lt_of_cell? _ _ r1)).trans yr1
        have OA := hide oA
        clear hkn hA oA oP oS n1 n2 n3 n4 hW
        go_wp2
        refine bodyPost_ret (v := .tuple #[mom p a' n c', .int .i64 0]) (by simp [results, Try.results6, go_sem, r0', r1']) rfl ?_
        exact ResM.own HQ.out HC.out (by rw [HV.out, tab_len]) (by rw [HV.out]; exact ((OA.out.setLow (by simp; omega) _).setLow (by simp; omega) _).mono (by omega)) (by rw [HV.out, tab_len]; omega) ((hB.setCell (by first | omega | (simp; done) | (simp; omega) | exact Nat.le_refl _) _).setCell (by first | omega | (simp; done) | (simp; omega) | exact Nat.le_refl _) _)
end Go.Proofs.Ytldcbdehgmmkjaa
