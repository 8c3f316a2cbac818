/- Merged texts. -/
import Derived.Test.YtkpmonopjkjflaaYC128
import Derived.BigRegion
import Derived.StillTailTactics
import Derived.IntWalk
/- ConvergentsOf (model). -/
namespace Go.Proofs.Ytkpmonopjkjflaa
open Go.RowKit
set_option linter.unusedVariables false
set_option linter.unusedSimpArgs false

theorem cvG_poly {p : Int} (hp : 2 ≤ p) {X : Nat → List Int} {b c : List Int} (hb : polyB p b = true) (hc : polyB p c = true) (k : Nat) (h : cvB p X b c k = true) : polyB p (cvG p X b c k).1 = true ∧ polyB p (cvG p X b c k).2 = true := by
  induction k with
  | zero => exact ⟨hb, hc⟩
  | succ k ih =>
    rw [cvB, Bool.and_eq_true, decide_eq_true_eq] at h
    exact ⟨(ih h.1).2, polyB_mk h.2 (addM_areB hp (mulM_areB hp _ _) _ _) (trimL_last _)⟩
theorem one_poly {p : Int} (hp : 2 ≤ p) : polyB p [1] = true := polyB_mk (by simp) (areB_mk fun j hj => by
    have : j = 0 := by simp at hj; omega
    subst this
    simp
    omega) (.inr (by simp))
theorem nil_poly {p : Int} : polyB p [] = true := by simp [polyB, areB]
theorem KeptR.grow {B k : Nat} {w w' : World} {r : Option Addr} {vs : List Value} {X : Nat → List Int} {A : Nat → Option Addr} {C : Nat → Nat} {row : Option Nat} (h : KeptR B w r vs X A C k) (hg : w.grownBy w' row) (hne : ∀ j, j < k → ∀ x, blk (A j) = some x → row ≠ some x) : KeptR B w' r vs X A C k :=
  ⟨h.1, fun j hj => (h.2.1 j hj).grow hg (hne j hj), h.2.2.1, h.2.2.2⟩
theorem KeptR.below {B k : Nat} {w w' : World} {r : Option Addr} {vs : List Value} {X : Nat → List Int} {A : Nat → Option Addr} {C : Nat → Nat} (h : KeptR B w r vs X A C k) (hb : Below w.heap.size w w') : KeptR B w' r vs X A C k :=
  ⟨h.1, fun j hj => (h.2.1 j hj).below hb, h.2.2.1, h.2.2.2⟩
theorem OwnV.grow {B : Nat} {w w' : World} {a : Option Addr} {c : Nat} {ys : List Value} {row : Option Nat} (h : OwnV B w a c ys) (hg : w.grownBy w' row) (hne : ∀ b, blk a = some b → row ≠ some b) : OwnV B w' a c ys := by
  refine ⟨h.1, ?_⟩
  rcases h.2 with h' | ⟨g, c', cur, h1, h2, h3, h4⟩
  · exact .inl h'
  · refine .inr ⟨g, c', cur, h1, h2, (hg.block g (lt_of_block h3) (fun e => ?_)).trans h3, h4⟩
    simp only [Value.slice.injEq] at h1
    exact hne g (by rw [h1.1]; rfl) e.symm
theorem KeptR.push2 {B m i : Nat} {w3 wl w' : World} {a' ad' a3 : Option Addr} {c3 : Nat} {vs : List Value} {X : Nat → List Int} {A : Nat → Option Addr} {C : Nat → Nat} (hK : KeptR B w3 a' vs X A C i) (hvl : vs.length = i) (hO : ∀ b, blk a' = some b → b < m) (hA : ∀ j, j < i → ∀ b, blk (A j) = some b → b < m) (hB : B ≤ m) (hm : m ≤ w3.heap.size)
    (ho3 : Own m w3 a3 c3 (X i)) (hba : Below w3.heap.size w3 wl) (hzl : w3.heap.size ≤ wl.heap.size) (hgr : wl.grownBy w' (blk a')) (hloc : blk ad' = blk a' ∨ blk ad' = some wl.heap.size) :
    KeptR B w' ad' (vs ++ [Value.slice a3 (X i).length c3]) X (fun j => if j = i then a3 else A j) (fun j => if j = i then c3 else C j) (i + 1) := by
  obtain ⟨h1, h2, h3, h4⟩ := hK
  refine ⟨fun j hj => ?_, fun j hj => ?_, fun j hj b hb => ?_, fun k j hkj hj b hk => ?_⟩
  · by_cases e : j = i
    · subst e
      simp only [if_true]
      rw [List.getElem?_append_right (by omega), hvl]
      simp
    · simp only [if_neg e]
      rw [List.getElem?_append_left (by omega)]
      exact h1 j (by omega)
  · by_cases e : j = i
    · subst e
      simp only [if_true]
      exact ((ho3.mono hB).below hba).grow hgr (fun b hb q => by have := own_blk_ge ho3 b hb; have := hO b q; omega)
    · simp only [if_neg e]
      exact ((h2 j (by omega)).below hba).grow hgr (fun b hb => h3 j (by omega) b hb)
  · by_cases e : j = i
    · subst e
      simp only [if_true] at hb
      have g1 := own_blk_ge ho3 b hb
      have g2 := own_blk_lt ho3 b hb
      intro q
      rcases hloc with h | h
      · rw [h] at q
        have := hO b q
        omega
      · rw [h] at q
        simp at q
        omega
    · simp only [if_neg e] at hb
      intro q
      rcases hloc with h | h
      · rw [h] at q
        exact h3 j (by omega) b hb q
      · rw [h] at q
        simp at q
        have := hA j (by omega) b hb
        omega
  · simp only at hk ⊢
    rw [if_neg (by omega)] at hk
    by_cases e : j = i
    · subst e
      simp only [if_true]
      intro q
      have := own_blk_ge ho3 b q
      have := hA k hkj b hk
      omega
    · rw [if_neg e]
      exact h4 k j hkj (by omega) b hk
/-- Two lists of lists in new memory, and a code: what is only read. -/
def ResL2 (w : World) (X Y : Nat → List Int) (n : Nat) (c : Int) (e : Ending) (w' : World) : Prop :=
  ∃ (a1 : Option Addr) (c1 : Nat) (a2 : Option Addr) (c2 : Nat), e = .returned (.tuple #[.slice a1 n c1, .slice a2 n c2, .int .i64 c]) ∧ ZL w.heap.size w'.heap.size w' a1 n c1 X ∧ ZL w.heap.size w'.heap.size w' a2 n c2 Y ∧ Below w.heap.size w w'
theorem ResL2.nil {w w' : World} {X Y : Nat → List Int} {n : Nat} {c c' : Int} (hn : n = 0) (hc : c = c') (hb : Below w.heap.size w w') : ResL2 w X Y n c (.returned (.tuple #[.slice none 0 0, .slice none 0 0, .int .i64 c'])) w' := by
  subst hn; subst hc
  exact ⟨none, 0, none, 0, rfl, .inl rfl, .inl rfl, hb⟩
/-- The two lists of lists between two rounds; no row and none of the slices os lies in a list's own block. -/
def StP (w wr : World) (p : Int) (X : Nat → List Int) (i : Nat) (ra : Option Addr) (ca : Nat) (rb : Option Addr) (cb : Nat) (os : List (Option Addr)) : Prop :=
  (∃ vs A C, vs.length = i ∧ OwnV w.heap.size wr ra ca vs ∧ KeptR w.heap.size wr ra vs (cvA p X) A C i ∧ ∀ j, j < i → ∀ x, blk (A j) = some x → blk rb ≠ some x) ∧
  (∃ us A C, us.length = i ∧ OwnV w.heap.size wr rb cb us ∧ KeptR w.heap.size wr rb us (cvD p X) A C i ∧ ∀ j, j < i → ∀ x, blk (A j) = some x → blk ra ≠ some x) ∧
  (∀ x, blk ra = some x → blk rb ≠ some x) ∧ ∀ o ∈ os, ∀ x, blk o = some x → x < wr.heap.size ∧ blk ra ≠ some x ∧ blk rb ≠ some x
theorem StP.push {w wr wc L1 w7 L2 w8 : World} {p : Int} {X : Nat → List Int} {i ca cb : Nat} {ra rb o1 o2 o3 o4 b1 b2 ad1 ad2 : Option Addr} {d1 d2 cap1 cap2 : Nat} {vs us : List Value} {A A' : Nat → Option Addr} {C C' : Nat → Nat}
    (hv : vs.length = i) (hOa : OwnV w.heap.size wr ra ca vs) (hKa : KeptR w.heap.size wr ra vs (cvA p X) A C i) (xa : ∀ j, j < i → ∀ x, blk (A j) = some x → blk rb ≠ some x)
    (hu : us.length = i) (hOb : OwnV w.heap.size wr rb cb us) (hKb : KeptR w.heap.size wr rb us (cvD p X) A' C' i) (xb : ∀ j, j < i → ∀ x, blk (A' j) = some x → blk ra ≠ some x)
    (xr : ∀ x, blk ra = some x → blk rb ≠ some x) (xo : ∀ o ∈ [o1, o2, o3, o4], ∀ x, blk o = some x → x < wr.heap.size ∧ blk ra ≠ some x ∧ blk rb ≠ some x)
    (hW : w.heap.size ≤ wr.heap.size) (hm : Below wr.heap.size wr wc) (z1 : Own wr.heap.size wc b1 d1 (cvA p X i)) (z2 : Own wr.heap.size wc b2 d2 (cvD p X i)) 
    (l1 : Below wc.heap.size wc L1) (s1 : L1.heap.size = wc.heap.size + 1) (hown1 : OwnV w.heap.size w7 ad1 cap1 (vs ++ [.slice b1 (cvA p X i).length d1])) (hgr1 : L1.grownBy w7 (blk ra)) (hloc1 : blk ad1 = blk ra ∨ blk ad1 = some L1.heap.size)
    (l2 : Below w7.heap.size w7 L2) (s2 : L2.heap.size = w7.heap.size + 1) (hown2 : OwnV w.heap.size w8 ad2 cap2 (us ++ [.slice b2 (cvD p X i).length d2])) (hgr2 : L2.grownBy w8 (blk rb)) (hloc2 : blk ad2 = blk rb ∨ blk ad2 = some L2.heap.size) :
    StP w w8 p X (i + 1) ad1 cap1 ad2 cap2 [b1, o1, b2, o3] := by
  have zc := hm.size
  have g1 := hgr1.size
  have g2 := hgr2.size
  have la := OwnV.blkLt hOa
  have lb := OwnV.blkLt hOb
  have kA : ∀ j, j < i → ∀ b, blk (A j) = some b → b < wr.heap.size := fun j hj b hb => own_blk_lt (hKa.2.1 j hj) b hb
  have kB : ∀ j, j < i → ∀ b, blk (A' j) = some b → b < wr.heap.size := fun j hj b hb => own_blk_lt (hKb.2.1 j hj) b hb
  have K7 := (hKa.below hm).push2 hv la kA hW zc z1 l1 (by omega) hgr1 hloc1
  have kA7 : ∀ j, j < i + 1 → ∀ b, blk (if j = i then b1 else A j) = some b → b < wc.heap.size ∧ blk rb ≠ some b := fun j hj b hb => by
    by_cases e : j = i
    · rw [if_pos e] at hb
      have a := own_blk_ge z1 b hb
      have c := own_blk_lt z1 b hb
      exact ⟨c, fun q => by have := lb b q; omega⟩
    · rw [if_neg e] at hb
      have := kA j (by omega) b hb
      exact ⟨by omega, xa j (by omega) b hb⟩
  have K8 := (K7.below l2).grow hgr2 (fun j hj b hb => (kA7 j hj b hb).2)
  have na : ∀ x, blk ad1 = some x → x < w7.heap.size ∧ blk rb ≠ some x := fun x hx => by
    rcases hloc1 with h | h
    · rw [h] at hx
      have := la x hx
      exact ⟨by omega, xr x hx⟩
    · have := OwnV.blkLt hown1 x hx
      rw [h] at hx
      simp at hx
      exact ⟨this, fun q => by have := lb x q; omega⟩
  have O8 := OwnV.grow (show OwnV w.heap.size L2 ad1 cap1 _ from hown1.below l2) hgr2 (fun b hb => (na b hb).2)
  have z27 : Own wr.heap.size w7 b2 d2 (cvD p X i) := (z2.below l1).grow hgr1 (fun b hb q => by have := own_blk_ge z2 b hb; have := la b q; omega)
  have KB7 := ((hKb.below hm).below l1).grow hgr1 xb
  have KB8 := KB7.push2 hu lb kB hW (by omega) z27 l2 (by omega) hgr2 hloc2
  refine ⟨⟨_, _, _, by rw [List.length_append, hv]; rfl, O8, K8, fun j hj x hx q => ?_⟩, ⟨_, _, _, by rw [List.length_append, hu]; rfl, hown2, KB8, fun j hj x hx q => ?_⟩, fun x hx q => ?_, fun o ho x hx => ?_⟩
  · have a := kA7 j hj x hx
    rcases hloc2 with h | h
    · rw [h] at q; exact a.2 q
    · rw [h] at q; simp at q; omega
  · have hlt : x < wc.heap.size ∧ blk ra ≠ some x := by
      try simp only at hx
      by_cases e : j = i
      · rw [if_pos e] at hx
        have a := own_blk_ge z2 x hx
        exact ⟨own_blk_lt z2 x hx, fun q => by have := la x q; omega⟩
      · rw [if_neg e] at hx
        have := kB j (by omega) x hx
        exact ⟨by omega, xb j (by omega) x hx⟩
    rcases hloc1 with h | h
    · rw [h] at q; exact hlt.2 q
    · rw [h] at q; simp at q; omega
  · have a := na x hx
    rcases hloc2 with h | h
    · rw [h] at q; exact a.2 q
    · rw [h] at q; simp at q; omega
  · have key : x < wc.heap.size ∧ blk ra ≠ some x ∧ blk rb ≠ some x := by
      simp only [List.mem_cons, List.not_mem_nil, or_false] at ho
      rcases ho with rfl | rfl | rfl | rfl
      · have a := own_blk_ge z1 x hx
        exact ⟨own_blk_lt z1 x hx, fun q => by have := la x q; omega, fun q => by have := lb x q; omega⟩
      · obtain ⟨a, b, c⟩ := xo _ (by simp) x hx
        exact ⟨by omega, b, c⟩
      · have a := own_blk_ge z2 x hx
        exact ⟨own_blk_lt z2 x hx, fun q => by have := la x q; omega, fun q => by have := lb x q; omega⟩
      · obtain ⟨a, b, c⟩ := xo o (by simp) x hx
        exact ⟨by omega, b, c⟩
    refine ⟨by omega, fun q => ?_, fun q => ?_⟩
    · rcases hloc1 with h | h
      · rw [h] at q; exact key.2.1 q
      · rw [h] at q; simp at q; omega
    · rcases hloc2 with h | h
      · rw [h] at q; exact key.2.2 q
      · rw [h] at q; simp at q; omega
set_option maxRecDepth 100000 in
set_option maxHeartbeats 6400000 in
theorem specConvergentsOf (p : Int) (g n cq : Nat) (QA : Nat → Option Addr) (QL QC : Nat → Nat) (X : Nat → List Int) (w : World) (hs : Lists w g n QA QL QC X) (hn : n ≤ 4000000) :
    Calls Try.prog 31 #[.int .i64 p, .slice (some ⟨g, 0, none⟩) n cq] w (ResL2 w (cvA p X) (cvD p X) (cvN p X n) (cvC p X n)) := by
  have Hs := hide hs
  clear hs
  by_cases h0 : chkC p X n = 0
  rotate_left
  · have hC := hide (show cvC p X n = chkC p X n by unfold cvC; rw [if_neg h0])
    have hN := hide (show cvN p X n = 0 by unfold cvN; rw [hC.out, if_neg h0])
    obtain ⟨d, hd⟩ : ∃ d, chkC p X n = d := ⟨_, rfl⟩
    have Hd := hide hd
    rw [hd] at h0 hC
    have hq : (d == 0) = false := by simpa using h0
    have hq2 : (d != 0) = true := by simpa using h0
    clear hd h0
    go_enter Try.func31, Try.ntmps31
    go_wp2_with fail
    refine (l01CodeN p g n cq QA QL QC X _ Hs.out hn).mono ?_
    rintro e w1 ⟨rfl, rfl⟩
    rw [Hd.out]
    go_wp2
    refine bodyPost_ret (v := .tuple #[.slice none 0 0, .slice none 0 0, .int .i64 d]) (by simp [results, Try.results31, go_sem]) rfl ?_
    exact ResL2.nil hN.out hC.out (Below.refl _ _)
  obtain ⟨hpr, hpo⟩ := chkC_ok h0
  obtain ⟨hp, hp2⟩ := primeB_lo hpr
  have H0 := hide h0
  have HP := hide hpo
  by_cases h1 : 24 < n
  · have hC := hide (show cvC p X n = 2 by unfold cvC; rw [if_pos h0, if_pos h1])
    have hN := hide (show cvN p X n = 0 by unfold cvN; rw [hC.out]; rfl)
    have hq : (24 : Int) < (n : Int) := by omega
    clear h0 hpr hpo
    go_enter Try.func31, Try.ntmps31
    go_wp2_with fail
    refine (l01CodeN p g n cq QA QL QC X _ Hs.out hn).mono ?_
    rintro e w1 ⟨rfl, rfl⟩
    rw [H0.out]
    go_wp2
    refine bodyPost_ret (v := .tuple #[.slice none 0 0, .slice none 0 0, .int .i64 2]) (by simp [results, Try.results31, go_sem]) rfl ?_
    exact ResL2.nil hN.out hC.out (Below.refl _ _)
  have hq : ¬ (24 : Int) < (n : Int) := by omega
  have hCC : Hid (cvC p X n = if (cvB p X [] [1] n && cvB p X [1] [] n) = true then 0 else 3) := hide (by unfold cvC; rw [if_pos h0, if_neg h1])
  have hXX : Hid (∀ i, i < n → (X i).length ≤ 25 ∧ areB p (X i) = true) := hide (fun i hi => ⟨(polyB_rng (hpo i hi)).1, (polyB_rng (hpo i hi)).2.1⟩)
  have Hpr := hide hpr
  clear h0 hpr hpo
  go_enter Try.func31, Try.ntmps31
  go_wp2_with fail
  refine (l01CodeN p g n cq QA QL QC X _ Hs.out hn).mono ?_
  rintro e w1 ⟨rfl, rfl⟩
  rw [H0.out]
  have hXl : ∀ (i : Nat) (f : List Int), i < n → f.length ≤ 25 → (trimL (mulM p (X i) f)).length ≤ 1000 := fun i f hi hf => by
    have := trimL_le (mulM p (X i) f)
    have := (hXX.out i hi).1
    rcases mulM_up (f := X i) (g := f) (p := p) with h | ⟨_, _, h⟩
    · omega
    · omega
  have HXl := hide hXl
  clear hXl
  go_upto_region 9 with fail
  obtain ⟨W0, hW0⟩ : ∃ W0, W0 = ((((((w.alloc (.cells #[] 22)).alloc (.cells #[] 22)).alloc (.cells #[.int .i64 1] 2)).alloc (.cells #[] 2)).alloc (.cells #[] 2)).alloc (.cells #[.int .i64 1] 2)) := ⟨_, rfl⟩
  rw [← hW0]
  have I1 : Hid (SL W0 (some ⟨w.heap.size + 2, 0, none⟩) 1 1 (cvG p X [] [1] 0).2) := hide (by
    refine ⟨rfl, ⟨Nat.le_refl _, fun h => by cases h⟩, .inr ⟨w.heap.size + 2, 0, rfl, fun j hj => ?_⟩⟩
    obtain rfl : j = 0 := by omega
    rw [hW0]
    simp [go_sem]
    rfl)
  have I2 : Hid (SL W0 (some ⟨w.heap.size + 3, 0, none⟩) 0 0 (cvG p X [] [1] 0).1) := hide ⟨rfl, ⟨Nat.le_refl _, fun h => by cases h⟩, .inl rfl⟩
  have I3 : Hid (SL W0 (some ⟨w.heap.size + 4, 0, none⟩) 0 0 (cvG p X [1] [] 0).2) := hide ⟨rfl, ⟨Nat.le_refl _, fun h => by cases h⟩, .inl rfl⟩
  have I4 : Hid (SL W0 (some ⟨w.heap.size + 5, 0, none⟩) 1 1 (cvG p X [1] [] 0).1) := hide (by
    refine ⟨rfl, ⟨Nat.le_refl _, fun h => by cases h⟩, .inr ⟨w.heap.size + 5, 0, rfl, fun j hj => ?_⟩⟩
    obtain rfl : j = 0 := by omega
    rw [hW0]
    simp [go_sem]
    rfl)
  have IB : Hid (Below w.heap.size w W0) := hide (by rw [hW0]; exact ((((((Below.refl _ _).alloc (Nat.le_refl _) _).alloc (by simp) _).alloc (by simp; omega) _).alloc (by simp; omega) _).alloc (by simp; omega) _).alloc (by simp; omega) _)
  have IP : Hid (StP w W0 p X 0 (some ⟨w.heap.size, 0, none⟩) 0 (some ⟨w.heap.size + 1, 0, none⟩) 0 [some ⟨w.heap.size + 2, 0, none⟩, some ⟨w.heap.size + 3, 0, none⟩, some ⟨w.heap.size + 4, 0, none⟩, some ⟨w.heap.size + 5, 0, none⟩]) := hide (by
    have t1 := World.ownsRow_lit w (base := w.heap.size) (e := 22) (size := 1) #[] 0 (Nat.le_refl _) (by simp) rfl
    have t2 := World.ownsRow_lit (w.alloc (.cells #[] 22)) (base := w.heap.size) (e := 22) (size := 1) #[] 0 (by simp) (by simp) rfl
    simp at t1 t2
    have o1 : OwnV w.heap.size (w.alloc (.cells #[] 22)) (some ⟨w.heap.size, 0, none⟩) 0 [] := t1
    have o2 : OwnV w.heap.size ((w.alloc (.cells #[] 22)).alloc (.cells #[] 22)) (some ⟨w.heap.size + 1, 0, none⟩) 0 [] := t2
    refine ⟨⟨[], fun _ => none, fun _ => 0, rfl, ?_, ⟨fun j hj => by omega, fun j hj => by omega, fun j hj => by omega, fun i j hij hj => by omega⟩, fun j hj => by omega⟩, ⟨[], fun _ => none, fun _ => 0, rfl, ?_, ⟨fun j hj => by omega, fun j hj => by omega, fun j hj => by omega, fun i j hij hj => by omega⟩, fun j hj => by omega⟩, fun x hx => by simp [blk] at hx ⊢; omega, fun o ho x hx => ?_⟩
    · rw [hW0]
      exact ((((o1.below (bl1 _ _)).below (bl1 _ _)).below (bl1 _ _)).below (bl1 _ _)).below (bl1 _ _)
    · rw [hW0]
      exact (((o2.below (bl1 _ _)).below (bl1 _ _)).below (bl1 _ _)).below (bl1 _ _)
    · simp only [List.mem_cons, List.not_mem_nil, or_false] at ho
      have hz : W0.heap.size = w.heap.size + 6 := by rw [hW0]; simp
      rcases ho with rfl | rfl | rfl | rfl <;> simp [blk] at hx ⊢ <;> omega)
  clear hW0
  go_wp2
  go_loopw [8, 9, 10, 11, 12, 13, 14] (fun av bv xv yv zv uv iv wr => ∃ (i : Nat) (ra : Option Addr) (ca : Nat) (rb : Option Addr) (cb : Nat) (o1 : Option Addr) (n1 c1 : Nat) (o2 : Option Addr) (n2 c2 : Nat) (o3 : Option Addr) (n3 c3 : Nat) (o4 : Option Addr) (n4 c4 : Nat), i ≤ n ∧ iv = .int .i64 i ∧ av = .slice ra i ca ∧ bv = .slice rb i cb ∧ xv = .slice o1 n1 c1 ∧ yv = .slice o2 n2 c2 ∧ zv = .slice o3 n3 c3 ∧ uv = .slice o4 n4 c4 ∧
      Hid (SL wr o1 n1 c1 (cvG p X [] [1] i).2) ∧ Hid (SL wr o2 n2 c2 (cvG p X [] [1] i).1) ∧ Hid (SL wr o3 n3 c3 (cvG p X [1] [] i).2) ∧ Hid (SL wr o4 n4 c4 (cvG p X [1] [] i).1) ∧ Hid (cvB p X [] [1] i = true) ∧ Hid (cvB p X [1] [] i = true) ∧ Hid (Below w.heap.size w wr) ∧ Hid (StP w wr p X i ra ca rb cb [o1, o2, o3, o4])) (fun _ _ _ _ _ _ iv _ => n - (intOf iv).toNat)
  case atStart => exact ⟨0, _, _, _, _, _, _, _, _, _, _, _, _, _, _, _, _, by omega, rfl, rfl, rfl, rfl, rfl, rfl, rfl, I1, I2, I3, I4, hide rfl, hide rfl, IB, IP⟩
  case round =>
    obtain ⟨i, ra, ca, rb, cb, o1, n1, c1, o2, n2, c2, o3, n3, c3, o4, n4, c4, hi, rfl, rfl, rfl, rfl, rfl, rfl, rfl, s1, s2, s3, s4, hB1, hB2, hW, hSt⟩ := hrel
    clear I1 I2 I3 I4 IB IP
    by_cases hlt : i < n
    · have hlt' : (i : Int) < (n : Int) := by omega
      have q0 : (0 : Int) ≤ (i : Int) := by omega
      obtain ⟨x1, x2, x3⟩ := Hs.out i hlt
      have e1 := cell_be hW.out x1
      have sx := hide (x2.below hW.out)
      have P1 := hide (cvG_poly hp nil_poly (one_poly hp) i hB1.out)
      have P2 := hide (cvG_poly hp (one_poly hp) nil_poly i hB2.out)
      have l1 := s1.out.len
      have l2 := s2.out.len
      have l3 := s3.out.len
      have l4 := s4.out.len
      have lx := sx.out.len
      have hx := hXX.out i hlt
      have k1 : n1 ≤ 25 := by have := poly_len P1.out.2; omega
      have k2 : n2 ≤ 25 := by have := poly_len P1.out.1; omega
      have k3 : n3 ≤ 25 := by have := poly_len P2.out.2; omega
      have k4 : n4 ≤ 25 := by have := poly_len P2.out.1; omega
      have kx : QL i ≤ 25 := by omega
      have M1 := hide (HXl.out i _ hlt (show (cvG p X [] [1] i).2.length ≤ 25 by omega))
      have M2 := hide (HXl.out i _ hlt (show (cvG p X [1] [] i).2.length ≤ 25 by omega))
      have Hx2 := hide hx.2
      have E1 := hide (mulM_trim Hpr.out (HP.out i hlt) P1.out.2)
      have E2 := hide (mulM_trim Hpr.out (HP.out i hlt) P2.out.2)
      have T1a : Hid (areB p (trimL (mulM p (X i) (cvG p X [] [1] i).2)) = true) := hide (by rw [E1.out]; exact mulM_areB hp _ _)
      have T2a : Hid (areB p (trimL (mulM p (X i) (cvG p X [1] [] i).2)) = true) := hide (by rw [E2.out]; exact mulM_areB hp _ _)
      have A1 := hide (poly_are P1.out.2)
      have A2 := hide (poly_are P1.out.1)
      have A3 := hide (poly_are P2.out.2)
      have A4 := hide (poly_are P2.out.1)
      clear l1 l2 l3 l4 lx hx x1 x2
      have hbd := (Below.refl wr.heap.size wr).drew
      have F0 : ∀ w', Below wr.heap.size wr w' → w'.cell? ⟨g, i, none⟩ = some (.slice (QA i) (QL i) (QC i)) := fun w' hb => cell_be hb e1
      obtain ⟨U1, hU1⟩ : ∃ U1, trimL (mulM p (X i) (cvG p X [] [1] i).2) = U1 := ⟨_, rfl⟩
      obtain ⟨U2, hU2⟩ : ∃ U2, trimL (mulM p (X i) (cvG p X [1] [] i).2) = U2 := ⟨_, rfl⟩
      rw [hU1] at M1 T1a
      rw [hU2] at M2 T2a
      have HU1 := hide hU1
      have HU2 := hide hU2
      obtain ⟨F1, hF1⟩ : ∃ F1, (cvG p X [] [1] i).2 = F1 := ⟨_, rfl⟩
      obtain ⟨F2, hF2⟩ : ∃ F2, (cvG p X [] [1] i).1 = F2 := ⟨_, rfl⟩
      obtain ⟨F3, hF3⟩ : ∃ F3, (cvG p X [1] [] i).2 = F3 := ⟨_, rfl⟩
      obtain ⟨F4, hF4⟩ : ∃ F4, (cvG p X [1] [] i).1 = F4 := ⟨_, rfl⟩
      have RE1 : Hid (addM p U1 F2 1 = cvA p X i) := hide (by rw [← hU1, ← hF2, E1.out]; rfl)
      have RE2 : Hid (addM p U2 F4 1 = cvD p X i) := hide (by rw [← hU2, ← hF4, E2.out]; rfl)
      have RL1 : Hid ((addM p U1 F2 1).length ≤ 1000) := hide (addM_len M1.out (by have := s2.out.len; rw [hF2] at this; omega))
      have RL2 : Hid ((addM p U2 F4 1).length ≤ 1000) := hide (addM_len M2.out (by have := s4.out.len; rw [hF4] at this; omega))
      rw [hF1] at s1 A1 HU1
      rw [hF2] at s2 A2
      rw [hF3] at s3 A3 HU2
      rw [hF4] at s4 A4
      have HF1 := hide hF1
      have HF2 := hide hF2
      have HF3 := hide hF3
      have HF4 := hide hF4
      clear hU1 hU2 hF1 hF2 hF3 hF4 P1 P2 E1 E2
      go_upto_region 12 with fail
      go_cut [15, 16] (fun nv ov wx => ∃ (b1 : Option Addr) (d1 : Nat) (b2 : Option Addr) (d2 : Nat), nv = .slice b1 (addM p U1 F2 1).length d1 ∧ ov = .slice b2 (addM p U2 F4 1).length d2 ∧ Hid (Own wr.heap.size wx b1 d1 (addM p U1 F2 1)) ∧ Hid (Own wr.heap.size wx b2 d2 (addM p U2 F4 1)) ∧ Hid (∀ x, blk b1 = some x → blk b2 ≠ some x) ∧ Hid (Below wr.heap.size wr wx))
      case first =>
        have hm := hbd
        go_region_held3 (fun w' => w'.cell? ⟨g, i, none⟩ = some (.slice (QA i) (QL i) (QC i)))
          (first | exact F0 _ hbd | exact F0 _ (by assumption))
          (first
          | (go_at_call 68; go_fit (l01Times_any p (QA i) (QL i) (QC i) (X i) o1 n1 c1 F1 _ (sx.out.below hm) (s1.out.below hm) (by omega) (by omega) hp hp2 Hx2.out A1.out); rintro e w5 ⟨t1, y1, rfl, r1, m1⟩; rw [HU1.out] at r1; (try rw [HU1.out]); have hm := bnext hm m1; (try replace r2 := r2.below m1); (try replace z2 := z2.below m1))
          | (go_at_call 68; go_fit (l01Times_any p (QA i) (QL i) (QC i) (X i) o3 n3 c3 F3 _ (sx.out.below hm) (s3.out.below hm) (by omega) (by omega) hp hp2 Hx2.out A3.out); rintro e w6 ⟨t2, y2, rfl, r2, m2⟩; rw [HU2.out] at r2; (try rw [HU2.out]); have hm := bnext hm m2; (try replace r1 := r1.below m2); (try replace z1 := z1.below m2))
          | (go_at_call 84; go_fit (l01Add_any p 1 t1 U1.length y1 U1 o2 n2 c2 F2 _ r1.sl (s2.out.below hm) M1.out (by omega) hp hp2 (by omega) (by omega) T1a.out A2.out); rintro e w7 ⟨b1, d1, rfl, z1a, m3⟩; (try have dd : ∀ x, blk b1 = some x → blk b2 ≠ some x := (fun x hx hx' => by have := own_blk_ge z1a x hx; have := own_blk_lt z2 x hx'; omega)); have z1 := z1a.mono hm.size; clear z1a; have hm := bnext hm m3; (try replace r2 := r2.below m3); (try replace z2 := z2.below m3))
          | (go_at_call 84; go_fit (l01Add_any p 1 t2 U2.length y2 U2 o4 n4 c4 F4 _ r2.sl (s4.out.below hm) M2.out (by omega) hp hp2 (by omega) (by omega) T2a.out A4.out); rintro e w8 ⟨b2, d2, rfl, z2a, m4⟩; (try have dd : ∀ x, blk b1 = some x → blk b2 ≠ some x := (fun x hx hx' => by have := own_blk_ge z2a x hx'; have := own_blk_lt z1 x hx; omega)); have z2 := z2a.mono hm.size; clear z2a; have hm := bnext hm m4; (try replace r1 := r1.below m4); (try replace z1 := z1.below m4)))
        all_goals
          go_wp2_with fail
          go_meet
          exact ⟨b1, d1, b2, d2, rfl, rfl, hide z1, hide z2, hide dd, hide hm⟩
      case rest =>
      obtain ⟨b1, d1, b2, d2, rfl, rfl, z1, z2, dd, hm⟩ := hcut
      obtain ⟨R1, hR1⟩ : ∃ R1, addM p U1 F2 1 = R1 := ⟨_, rfl⟩
      obtain ⟨R2, hR2⟩ : ∃ R2, addM p U2 F4 1 = R2 := ⟨_, rfl⟩
      rw [hR1] at z1 RE1 RL1 ⊢
      rw [hR2] at z2 RE2 RL2 ⊢
      have r1 := RL1.out
      have r2 := RL2.out
      clear hR1 hR2 e1 x3 F0 hbd
      go_upto_region 13 with fail
      go_cut [68] (fun bv wx => bv = .bool (decide (¬ (R1.length ≤ 25 ∧ R2.length ≤ 25))) ∧ wx = wc)
      case first =>
        by_cases hr : R1.length < R2.length
        · have vM : IntKind.i64.wrap ((R2.length : Int) - 1) = (R2.length : Int) - 1 := IntWalk.i64_in _ (by omega)
          have hb : decide ((24 : Int) < (R2.length : Int) - 1) = decide (¬ (R1.length ≤ 25 ∧ R2.length ≤ 25)) := decide_eq_decide.2 (by omega)
          go_wp2_with fail
          go_meet
          refine ⟨?_, rfl⟩
          first
            | exact congrArg Value.bool hb
            | (simp; done)
            | (simp; omega)
        · have vM : IntKind.i64.wrap ((R1.length : Int) - 1) = (R1.length : Int) - 1 := IntWalk.i64_in _ (by omega)
          have hb : decide ((24 : Int) < (R1.length : Int) - 1) = decide (¬ (R1.length ≤ 25 ∧ R2.length ≤ 25)) := decide_eq_decide.2 (by omega)
          go_wp2_with fail
          go_meet
          refine ⟨?_, rfl⟩
          first
            | exact congrArg Value.bool hb
            | (simp; done)
            | (simp; omega)
      case rest =>
      obtain ⟨rfl, rfl⟩ := hcut
      by_cases hd : R1.length ≤ 25 ∧ R2.length ≤ 25
      rotate_left
      · rw [decide_eq_true (show ¬ (R1.length ≤ 25 ∧ R2.length ≤ 25) from hd)]
        have hF : Hid ((cvB p X [] [1] n && cvB p X [1] [] n) = false) := hide (by
          by_cases hx : R1.length ≤ 25
          · rw [cvB_false (p := p) (X := X) (b := [1]) (c := []) hlt (by rw [show cvR p X [1] [] i = R2 from RE2.out.symm]; omega), Bool.and_false]
          · rw [cvB_false (p := p) (X := X) (b := []) (c := [1]) hlt (by rw [show cvR p X [] [1] i = R1 from RE1.out.symm]; exact hx), Bool.false_and])
        have hC := hide (show cvC p X n = 3 by rw [hCC.out, hF.out]; rfl)
        have hN := hide (show cvN p X n = 0 by unfold cvN; rw [hC.out]; rfl)
        have hfin := hW.out.trans (hm.out.mono hW.out.size)
        clear hd
        go_wp2
        refine bodyPost_ret (v := .tuple #[.slice none 0 0, .slice none 0 0, .int .i64 3]) (by simp [results, Try.results31, go_sem]) rfl ?_
        exact ResL2.nil hN.out hC.out hfin
      · rw [decide_eq_false (show ¬ ¬ (R1.length ≤ 25 ∧ R2.length ≤ 25) from fun h => h hd)]
        obtain ⟨hd1, hd2⟩ := hd
        have hF1 : Hid (cvB p X [] [1] (i + 1) = true) := hide (by rw [cvB, hB1.out, show cvR p X [] [1] i = R1 from RE1.out.symm]; simp [hd1])
        have hF2 : Hid (cvB p X [1] [] (i + 1) = true) := hide (by rw [cvB, hB2.out, show cvR p X [1] [] i = R2 from RE2.out.symm]; simp [hd2])
        obtain ⟨⟨vs, A, C, hv, hOa, hKa, xa⟩, ⟨us, A', C', hu, hOb, hKb, xb⟩, xr, xo⟩ := hSt.out
        have hv' := hide hv
        have hu' := hide hu
        have HOa := hide hOa
        have HKa := hide hKa
        have HOb := hide hOb
        have HKb := hide hKb
        have Xo := hide xo
        have zc := hm.out.size
        have zw := hW.out.size
        have hba := bl1 wc (.cells #[.slice b1 R1.length d1] 22)
        have hs1 : Hid ((wc.alloc (.cells #[.slice b1 R1.length d1] 22)).heap.size = wc.heap.size + 1) := hide (by simp)
        have hOa2 := hide ((hOa.below hm.out).below hba)
        have hOb2 := hide ((hOb.below hm.out).below hba)
        have hcl : (wc.alloc (.cells #[.slice b1 R1.length d1] 22)).cell? ⟨wc.heap.size, 0, none⟩ = some (.slice b1 R1.length d1) := by simp [go_sem]
        clear hd1 hd2 hv hu hOa hKa hOb hKb xo hSt
        go_upto_region 16 with (at_builtin; refine wp_appV rfl _ _ rfl w.heap.size _ _ _ vs rfl hv'.out.symm hOa2.out _ _ _ rfl hcl rfl (by omega) (by simp; omega) ?_; intro ad1 cap1 w7 hown1 hgr1 hloc1)
        have Hown1 := hide hown1
        have g7 : wc.heap.size + 1 ≤ w7.heap.size := by have := hgr1.size; simpa using this
        have hOb3 := hide ((OwnV.grow hOb2.out hgr1 (fun b hb q => xr b q hb)).below (bl1 w7 (.cells #[.slice b2 R2.length d2] 22)))
        have hcl2 : (w7.alloc (.cells #[.slice b2 R2.length d2] 22)).cell? ⟨w7.heap.size, 0, none⟩ = some (.slice b2 R2.length d2) := by simp [go_sem]
        clear hown1
        go_wp2_with (at_builtin; refine wp_appV rfl _ _ rfl w.heap.size _ _ _ us rfl hu'.out.symm hOb3.out _ _ _ rfl hcl2 rfl (by omega) (by simp; omega) ?_; intro ad2 cap2 w8 hown2 hgr2 hloc2)
        have l1 := bl1 wc (.cells #[.slice b1 R1.length d1] 22)
        have l2 := bl1 w7 (.cells #[.slice b2 R2.length d2] 22)
        have la := OwnV.blkLt HOa.out
        have lb := OwnV.blkLt HOb.out
        have mv : ∀ (o : Option Addr) (nn kk : Nat) (zs : List Int), SL wc o nn kk zs → (∀ x, blk o = some x → blk ra ≠ some x ∧ blk rb ≠ some x) → SL w8 o nn kk zs := fun o nn kk zs h k => (((h.below l1).grown hgr1 (fun x hx q => (k x hx).1 q)).below l2).grown hgr2 (fun x hx q => (k x hx).2 q)
        have f1 : ∀ x, blk b1 = some x → blk ra ≠ some x ∧ blk rb ≠ some x := fun x hx => by
          have a := own_blk_ge z1.out x hx
          exact ⟨fun q => by have := la x q; omega, fun q => by have := lb x q; omega⟩
        have f2 : ∀ x, blk b2 = some x → blk ra ≠ some x ∧ blk rb ≠ some x := fun x hx => by
          have a := own_blk_ge z2.out x hx
          exact ⟨fun q => by have := la x q; omega, fun q => by have := lb x q; omega⟩
        have S1 : Hid (SL w8 b1 R1.length d1 (cvG p X [] [1] (i + 1)).2) := hide (by
          rw [show (cvG p X [] [1] (i + 1)).2 = R1 from RE1.out.symm]
          exact mv _ _ _ _ z1.out.sl f1)
        have S3 : Hid (SL w8 b2 R2.length d2 (cvG p X [1] [] (i + 1)).2) := hide (by
          rw [show (cvG p X [1] [] (i + 1)).2 = R2 from RE2.out.symm]
          exact mv _ _ _ _ z2.out.sl f2)
        have S2 : Hid (SL w8 o1 n1 c1 (cvG p X [] [1] (i + 1)).1) := hide (by
          rw [show (cvG p X [] [1] (i + 1)).1 = F1 from HF1.out]
          exact mv _ _ _ _ (s1.out.below hm.out) (fun x hx => (Xo.out o1 (by simp) x hx).2))
        have S4 : Hid (SL w8 o3 n3 c3 (cvG p X [1] [] (i + 1)).1) := hide (by
          rw [show (cvG p X [1] [] (i + 1)).1 = F3 from HF3.out]
          exact mv _ _ _ _ (s3.out.below hm.out) (fun x hx => (Xo.out o3 (by simp) x hx).2))
        have hW8 : Hid (Below w.heap.size w w8) := hide (((((hW.out.trans (hm.out.mono zw)).trans (l1.mono (by omega))).grown hgr1 (by simp; omega) (OwnV.blkG HOa.out)).trans (l2.mono (by omega))).grown hgr2 (by simp; omega) (OwnV.blkG HOb.out))
        have hP : Hid (StP w w8 p X (i + 1) ad1 cap1 ad2 cap2 [b1, o1, b2, o3]) := hide (StP.push hv'.out HOa.out HKa.out xa hu'.out HOb.out HKb.out xb xr Xo.out zw hm.out (by rw [← RE1.out]; exact z1.out) (by rw [← RE2.out]; exact z2.out) l1 (by simp) (by rw [← RE1.out]; exact Hown1.out) hgr1 hloc1 l2 (by simp) (by rw [← RE2.out]; exact hown2) hgr2 hloc2)
        refine ⟨⟨i + 1, _, _, _, _, _, _, _, _, _, _, _, _, _, _, _, _, by omega, by go_num, by rw [hv'.out], by rw [hu'.out], rfl, rfl, rfl, rfl, S1, S2, S3, S4, hF1, hF2, hW8, hP⟩, by simp [intOf]; omega⟩
    · obtain rfl : i = n := by omega
      have hC := hide (show cvC p X i = 0 by rw [hCC.out, hB1.out, hB2.out]; rfl)
      have hN := hide (show cvN p X i = i by unfold cvN; rw [hC.out]; rfl)
      obtain ⟨⟨vs, A, C, hv, hOa, hKa, _⟩, ⟨us, A', C', hu, hOb, hKb, _⟩, _, _⟩ := hSt.out
      have Z1 := hide (hKa.zl hv hOa)
      have Z2 := hide (hKb.zl hu hOb)
      clear hv hOa hKa hu hOb hKb hSt
      go_wp2
      refine bodyPost_ret (v := .tuple #[.slice ra i ca, .slice rb i cb, .int .i64 0]) (by simp [results, Try.results31, go_sem]) rfl ?_
      show ResL2 w (cvA p X) (cvD p X) (cvN p X i) (cvC p X i) _ _
      rw [hC.out, hN.out]
      exact ⟨ra, ca, rb, cb, rfl, Z1.out, Z2.out, hW.out⟩
end Go.Proofs.Ytkpmonopjkjflaa
/- Marks and equality of the long lists of lists that a law is given. -/
namespace Go.Proofs.Ytkpmonopjkjflaa
open Go.RowKit
set_option linter.unusedVariables false
set_option linter.unusedSimpArgs false

theorem len_tot (X : Nat → List Int) {i n : Nat} (h : i < n) : (X i).length ≤ tot X n := by
  have := tot_mono X (show i + 1 ≤ n by omega)
  have e : tot X (i + 1) = tot X i + (X i).length := rfl
  omega
set_option maxRecDepth 100000 in
set_option maxHeartbeats 1600000 in
theorem markSSN (lo hi : Nat) (a : Option Addr) (n c : Nat) (X : Nat → List Int) (k0 : Int) (w : World) (h : ZL lo hi w a n c X) (hn : n ≤ 1048576) (hTot : tot X n ≤ 1048576) (hk0 : 0 ≤ k0) (hk1 : k0 ≤ 1000000) :
    Calls Try.prog 28 #[.slice a n c, .int .i64 k0] w fun e w' => e = .returned (.int .i64 (k0 + tot X n)) ∧ ZL lo hi w' a n c (fun i => marks (k0 + tot X i) (X i).length) ∧ Touch lo hi w w' := by
  rcases h with h | ⟨g, A, C, rfl, h⟩
  · subst h
    refine (markSS0 a c k0 w).mono ?_
    rintro e w' ⟨rfl, rfl⟩
    exact ⟨by simp [tot], .inl rfl, ⟨rfl, rfl, rfl, Nat.le_refl _, fun _ _ _ => rfl⟩⟩
  have H0 : Hid (ZR lo hi g n w A C (mixX k0 X 0)) := hide (h.congr fun i _ => by unfold mixX; rw [if_neg (by omega)])
  have hT0 : Hid (Touch lo hi w w) := hide ⟨rfl, rfl, rfl, Nat.le_refl _, fun _ _ _ => rfl⟩
  have ht : ∀ k, k ≤ n → tot X k ≤ 1048576 := fun k hk => Nat.le_trans (tot_mono X hk) hTot
  have hX : ∀ i, i < n → (X i).length ≤ 1048576 := fun i hi => Nat.le_trans (len_tot X hi) hTot
  clear hTot
  clear h
  go_enter Try.func28, Try.ntmps28
  go_wp2
  go_loopw [1, 5] (fun q i wr => ∃ k : Nat, k ≤ n ∧ i = .int .i64 k ∧ q = .int .i64 (k0 + tot X k) ∧ Hid (ZR lo hi g n wr A C (mixX k0 X k)) ∧ Hid (Touch lo hi w wr)) (fun _ i _ => n - (intOf i).toNat)
  case atStart => exact ⟨0, by omega, rfl, by simp [tot], H0, hT0⟩
  case round =>
    obtain ⟨k, hk, rfl, rfl, hR, hT⟩ := hrel
    clear H0 hT0
    by_cases hlt : k < n
    · have e1 := hR.out.cell k hlt
      rw [mixX_len] at e1
      have htk := ht k hk
      have hlk := hX k hlt
      obtain ⟨L, hL⟩ : ∃ L, (X k).length = L := ⟨_, rfl⟩
      obtain ⟨t, htt⟩ : ∃ t, tot X k = t := ⟨_, rfl⟩
      have hst : Hid (k0 + (tot X (k + 1) : Int) = k0 + (t : Int) + (L : Int)) := hide (by unfold tot; rw [hL, htt]; omega)
      have HL := hide hL
      have Htt := hide htt
      rw [hL] at e1 hlk
      rw [htt] at htk ⊢
      have hlt' : (k : Int) < (n : Int) := by omega
      clear hL htt
      by_cases h0 : L = 0
      · have hR2 : Hid (ZR lo hi g n wr A C (mixX k0 X (k + 1))) := hide (hR.out.congr fun i hi => by
          unfold mixX
          by_cases h1 : i < k
          · rw [if_pos h1, if_pos (by omega)]
          · rw [if_neg h1]
            by_cases h2 : i = k
            · subst h2
              rw [if_pos (by omega), HL.out, h0]
              have : X i = [] := List.eq_nil_of_length_eq_zero (by rw [HL.out, h0])
              rw [this]
              rfl
            · rw [if_neg (by omega)])
        have hst2 : Hid (k0 + (tot X (k + 1) : Int) = k0 + (t : Int)) := hide (by rw [hst.out, h0]; simp)
        subst h0
        clear hR hst
        go_wp2_with fail
        refine (mark0 _ _ _ _).mono ?_
        rintro e w2 ⟨rfl, rfl⟩
        go_wp2
        go_roundw
        case rel => exact ⟨k + 1, by omega, by go_num, by rw [hst2.out], hR2, hT⟩
        case measure => simp [intOf]; omega
      · obtain ⟨b, o, hA, hc⟩ := hR.out.at k hlt (by rw [mixX_len, HL.out]; exact h0)
        rw [hA] at e1
        have hz := hR.out.zone k hlt b (by rw [hA]; rfl)
        have Hf := hide (hR.out.free k hlt b o hA)
        have HA := hide hA
        have Hc := hide hc
        clear hA hc
        go_wp2_with fail
        refine (markPart b o L (C k) (k0 + t) _ (fun j hj => ⟨_, Hc.out j (by rw [mixX_len, HL.out]; exact hj)⟩) (fun j hj => Hf.out j (by rw [mixX_len, HL.out]; exact hj)) (by omega) (by omega) (by omega)).mono ?_
        rintro e w2 ⟨rfl, hm⟩
        have hR2 : Hid (ZR lo hi g n w2 A C (mixX k0 X (k + 1))) := hide (hR.out.mark hlt HA.out (by rw [HL.out, Htt.out]; exact hm))
        have hT2 : Hid (Touch lo hi w w2) := hide (hT.out.trans (Touch.of hm.gr (fun x e => by cases e; exact ⟨hz.1, hz.2.1⟩)))
        clear hR hT hm Hc Hf
        go_wp2
        go_roundw
        case rel => exact ⟨k + 1, by omega, by go_num, by rw [hst.out], hR2, hT2⟩
        case measure => simp [intOf]; omega
    · obtain rfl : k = n := by omega
      have hfin : ZR lo hi g k wr A C (fun i => marks (k0 + tot X i) (X i).length) := hR.out.congr fun i hi => by unfold mixX; rw [if_pos hi]
      have Hfin := hide hfin
      obtain ⟨t, htt⟩ : ∃ t, tot X k = t := ⟨_, rfl⟩
      have Htt := hide htt
      rw [htt]
      clear hfin htt hR
      go_wp2
      refine bodyPost_ret (v := .int .i64 (k0 + t)) (by simp [results, Try.results28]) rfl ?_
      exact ⟨by rw [Htt.out], .inr ⟨g, A, C, rfl, Hfin.out⟩, hT.out⟩
theorem ZR.listsN {lo hi g n : Nat} {w : World} {A : Nat → Option Addr} {C : Nat → Nat} {X : Nat → List Int} (h : ZR lo hi g n w A C X) (hX : ∀ i, i < n → (X i).length ≤ 1048576) : Lists w g n A (fun i => (X i).length) C X :=
  fun i hi => ⟨h.cell i hi, h.row i hi, Nat.le_trans (hX i hi) (by omega)⟩
theorem eqZN {lo hi lo' hi' : Nat} {a b : Option Addr} {n c d : Nat} {X : Nat → List Int} (w : World) (h1 : ZL lo hi w a n c X) (h2 : ZL lo' hi' w b n d X) (hn : n ≤ 1048576) (hX : ∀ i, i < n → (X i).length ≤ 1048576) :
    Calls Try.prog 27 #[.slice a n c, .slice b n d] w fun e w' => e = .returned (.bool true) ∧ Below w.heap.size w w' := by
  rcases h1 with h1 | ⟨g, A, C, rfl, h1⟩
  · subst h1
    exact eqSS_none a b c d w
  · rcases h2 with h2 | ⟨g', A', C', rfl, h2⟩
    · subst h2
      exact eqSS_none _ b c d w
    · exact eqSS g g' n c d A A' _ C C' X w (h1.listsN hX) (h2.listsN hX) (by omega)
end Go.Proofs.Ytkpmonopjkjflaa
