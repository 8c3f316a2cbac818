/- Merged texts. -/
import Derived.Test.YtdjifjlgllohmaaDoorYDS29
import Derived.Test.YtdjifjlgllohmaaDoorYDS20
import Derived.Test.YtdjifjlgllohmaaDoorYDS19
import Derived.Test.YtdjifjlgllohmaaDoorYDS36
import Derived.Test.YtdjifjlgllohmaaDoorYDS33
import Derived.Test.YtdjifjlgllohmaaDoorYDS34
/- Jacobi data of the call's own in a variable, whose two lists grow by appends (Kp, on a thin chain). -/
namespace Go.Proofs.YtdjifjlgllohmaaDoor
open Go.RowKit
set_option linter.unusedVariables false
set_option linter.unusedSimpArgs false

def JS (B q : Nat) (w : World) (p : Int) (a : Option Addr) (ca : Nat) (us : List Int) (b : Option Addr) (cb : Nat) (vs : List Int) : Prop :=
  Own B w a ca us ∧ Own B w b cb vs ∧ (blk a ≠ some q ∧ blk b ≠ some q ∧ ∀ g, blk a = some g → blk b ≠ some g) ∧
    (w.cell? ⟨q, 0, none⟩ = some (.int .i64 p) ∧ w.cell? ⟨q, 1, none⟩ = some (.slice a us.length ca) ∧ w.cell? ⟨q, 2, none⟩ = some (.slice b vs.length cb)) ∧ (w.frozen? ⟨q, 1, none⟩ = false ∧ w.frozen? ⟨q, 2, none⟩ = false) ∧ B ≤ q
section
variable {B q : Nat} {w w' : World} {p : Int} {a : Option Addr} {ca : Nat} {us : List Int} {b : Option Addr} {cb : Nat} {vs : List Int}
theorem JS.oA (h : JS B q w p a ca us b cb vs) : Own B w a ca us := h.1
theorem JS.oB (h : JS B q w p a ca us b cb vs) : Own B w b cb vs := h.2.1
theorem JS.c0 (h : JS B q w p a ca us b cb vs) : w.cell? ⟨q, 0, none⟩ = some (.int .i64 p) := h.2.2.2.1.1
theorem JS.c1 (h : JS B q w p a ca us b cb vs) : w.cell? ⟨q, 1, none⟩ = some (.slice a us.length ca) := h.2.2.2.1.2.1
theorem JS.c2 (h : JS B q w p a ca us b cb vs) : w.cell? ⟨q, 2, none⟩ = some (.slice b vs.length cb) := h.2.2.2.1.2.2
theorem JS.z1 (h : JS B q w p a ca us b cb vs) : w.frozen? ⟨q, 1, none⟩ = false := h.2.2.2.2.1.1
theorem JS.z2 (h : JS B q w p a ca us b cb vs) : w.frozen? ⟨q, 2, none⟩ = false := h.2.2.2.2.1.2
theorem JS.lo (h : JS B q w p a ca us b cb vs) : B ≤ q := h.2.2.2.2.2
theorem JS.hi (h : JS B q w p a ca us b cb vs) : q < w.heap.size := World.block_lt_of_cell? _ _ h.c0
theorem JS.below (h : JS B q w p a ca us b cb vs) (hb : Below w.heap.size w w') : JS B q w' p a ca us b cb vs :=
  ⟨h.oA.below hb, h.oB.below hb, h.2.2.1, ⟨cell_be hb h.c0, cell_be hb h.c1, cell_be hb h.c2⟩, ⟨(hb.frozen (World.block_lt_of_cell? _ _ h.c1)).trans h.z1, (hb.frozen (World.block_lt_of_cell? _ _ h.c2)).trans h.z2⟩, h.lo⟩
theorem JS.jz (h : JS B q w p a ca us b cb vs) (h0 : us.length ≠ 0) : JZ B w.heap.size w a us.length ca us b vs.length cb vs :=
  ⟨OZ.of h.oA rfl, OZ.of h.oB rfl, .inr (.inr (fun e => by
    obtain ⟨g, rfl, _⟩ := Own.blkG h.oA h0
    exact h.2.2.1.2.2 g rfl e.symm))⟩
theorem JS.pushA (h : JS B q w p a ca us b cb vs) {z : Int} {ad : Option Addr} {cap : Nat} (hown : Own B w' ad cap (us ++ [z])) (hgr : ((w.alloc (.cells #[.int .i64 z] 2)).drew).grownBy w' (blk a))
    (hloc : blk ad = blk a ∨ blk ad = some ((w.alloc (.cells #[.int .i64 z] 2)).drew).heap.size) : JS B q (w'.setCell ⟨q, 1, none⟩ (.slice ad (us.length + 1) cap)) p ad cap (us ++ [z]) b cb vs := by
  have hq := h.hi
  obtain ⟨n1, n2, n3⟩ := h.2.2.1
  have hba : Below w.heap.size w ((w.alloc (.cells #[.int .i64 z] 2)).drew) := (bl1 w _).drew
  have k := h.below hba
  have hnew : blk ad ≠ some q := by
    rcases hloc with e | e <;> rw [e]
    · exact n1
    · simp; omega
  have s1 := cell_ne hgr k.c1 n1
  refine ⟨hown.otherG hnew _, (Own.keep k.oB hgr (fun g h1 h2 => n3 g h2 h1)).otherG n2 _, ⟨hnew, n2, fun g h1 h2 => ?_⟩, ⟨cell_set2' (cell_ne hgr k.c0 n1) (by simp) _, ?_, cell_set2' (cell_ne hgr k.c2 n1) (by simp) _⟩, ⟨by simpa using frz_ne hgr k.c1 k.z1 n1, by simpa using frz_ne hgr k.c2 k.z2 n1⟩, h.lo⟩
  · rcases hloc with e | e
    · rw [e] at h1; exact n3 g h1 h2
    · rw [e] at h1
      have := own_ltQ h.oB g h2
      simp at h1
      omega
  · rw [List.length_append]
    exact World.cell?_setCell_same _ _ _ s1
theorem JS.pushB (h : JS B q w p a ca us b cb vs) {z : Int} {bd : Option Addr} {cap : Nat} (hown : Own B w' bd cap (vs ++ [z])) (hgr : ((w.alloc (.cells #[.int .i64 z] 2)).drew).grownBy w' (blk b))
    (hloc : blk bd = blk b ∨ blk bd = some ((w.alloc (.cells #[.int .i64 z] 2)).drew).heap.size) : JS B q (w'.setCell ⟨q, 2, none⟩ (.slice bd (vs.length + 1) cap)) p a ca us bd cap (vs ++ [z]) := by
  have hq := h.hi
  obtain ⟨n1, n2, n3⟩ := h.2.2.1
  have hba : Below w.heap.size w ((w.alloc (.cells #[.int .i64 z] 2)).drew) := (bl1 w _).drew
  have k := h.below hba
  have hnew : blk bd ≠ some q := by
    rcases hloc with e | e <;> rw [e]
    · exact n2
    · simp; omega
  have s2 := cell_ne hgr k.c2 n2
  refine ⟨(Own.keep k.oA hgr (fun g h1 h2 => n3 g h1 h2)).otherG n1 _, hown.otherG hnew _, ⟨n1, hnew, fun g h1 h2 => ?_⟩, ⟨cell_set2' (cell_ne hgr k.c0 n2) (by simp) _, cell_set2' (cell_ne hgr k.c1 n2) (by simp) _, ?_⟩, ⟨by simpa using frz_ne hgr k.c1 k.z1 n2, by simpa using frz_ne hgr k.c2 k.z2 n2⟩, h.lo⟩
  · rcases hloc with e | e
    · rw [e] at h2; exact n3 g h1 h2
    · rw [e] at h2
      have := own_ltQ h.oA g h1
      simp at h2
      omega
  · rw [List.length_append]
    exact World.cell?_setCell_same _ _ _ s2
theorem below_push {w0 : World} (hW : Below B w0 w) (hw : B ≤ w.heap.size) {z : Int} {row : Option Nat} (hgr : ((w.alloc (.cells #[.int .i64 z] 2)).drew).grownBy w' row) (hr : ∀ g, row = some g → B ≤ g) {q k : Nat} (hq : B ≤ q) (u : Value) : Below B w0 (w'.setCell ⟨q, k, none⟩ u) :=
  ((hW.trans ((bl1 w (.cells #[.int .i64 z] 2)).drew.mono hw)).grown hgr (by simp; omega) hr).setCell (by simpa using hq) _
end
theorem drew_grown {w w' : World} {row : Option Nat} (h : w.grownBy w' row) : w.drew.grownBy w' row := ⟨h.os, h.tape, h.output, h.size, h.block⟩
end Go.Proofs.YtdjifjlgllohmaaDoor
/- Contracts: a list that grows in the rounds of a range over orthogonals; NormsOf of the program. -/
namespace Go.Proofs.YtdjifjlgllohmaaDoor
open Go.RowKit Go.Shelf
set_option linter.unusedVariables false
set_option linter.unusedSimpArgs false
attribute [local go_sem] Oper.semAt_some

/-- The norms of P(0) to P(k - 1). -/
def nmL (p : Int) (xs : List Int) : Nat → List Int
  | 0 => []
  | k + 1 => nmL p xs k ++ [opH p xs k]
theorem nmL_len (p : Int) (xs : List Int) : ∀ k, (nmL p xs k).length = k
  | 0 => rfl
  | k + 1 => by simp [nmL, nmL_len p xs k]
/-- What lies between two rounds: a list of the call's own in a variable. -/
structure AcI (p : Int) (a2 : Option Addr) (n2 c2 : Nat) (n : Nat) (V : Nat → List Int) (w : World) (pre : List OX) (S : Nat → Prop) (W : World) : Prop where
  below : Below w.heap.size w W
  m0 : W.cell? ⟨w.heap.size + 1, 0, none⟩ = some (.int .i64 p)
  m1 : W.cell? ⟨w.heap.size + 1, 1, none⟩ = some (.slice a2 n2 c2)
  m2 : W.cell? ⟨w.heap.size + 1 + 1, 0, none⟩ = some (.int .i64 n)
  acc : ∃ a c, W.cell? ⟨w.heap.size, 0, none⟩ = some (.slice a (V pre.length).length c) ∧ Own (w.heap.size + 1 + 1 + 1) W a c (V pre.length) ∧ ∀ g, blk a = some g → S g
  z : W.frozen? ⟨w.heap.size, 0, none⟩ = false
theorem AcI.agr {p : Int} {a2 : Option Addr} {n2 c2 n : Nat} {V : Nat → List Int} {w : World} {pre : List OX} {S : Nat → Prop} {W W' : World} {P : Nat → Prop} (h : AcI p a2 n2 c2 n V w pre S W) (hA : Agr P W W') (hP : ∀ b, b < w.heap.size + 1 + 1 + 1 → P b) (hS : ∀ b, S b → P b) : AcI p a2 n2 c2 n V w pre S W' := by
  obtain ⟨a, c, h1, h2, h3⟩ := h.acc
  exact ⟨h.below.trans ((hA.mono fun b _ hb => hP b (by have : b < w.heap.size := hb; omega)).to_below h.below.size), hA.cell h.m0 (hP _ (by omega)), hA.cell h.m1 (hP _ (by omega)), hA.cell h.m2 (hP _ (by omega)),
    ⟨a, c, hA.cell h1 (hP _ (by omega)), h2.agr hA (fun g hg => hS g (h3 g hg)), h3⟩, hA.frozen h1 h.z (hP _ (by omega))⟩
/-- A round has put another list. -/
theorem AcI.put {p : Int} {a2 : Option Addr} {n2 c2 n : Nat} {V : Nat → List Int} {w : World} {pre : List OX} {S S' : Nat → Prop} {W W1 : World} {a a' : Option Addr} {c' m' : Nat} (x : OX) (h : AcI p a2 n2 c2 n V w pre S W) (hc : ∃ v, W.cell? ⟨w.heap.size, 0, none⟩ = some v)
    (hA : Agr (fun b => blk a ≠ some b) W W1) (ha : ∀ g, blk a = some g → w.heap.size + 1 + 1 + 1 ≤ g) (hown : Own (w.heap.size + 1 + 1 + 1) W1 a' c' (V (pre.length + 1))) (hm : m' = (V (pre.length + 1)).length) (hS : ∀ g, blk a' = some g → S' g) :
    AcI p a2 n2 c2 n V w (pre ++ [x]) S' (W1.setCell ⟨w.heap.size, 0, none⟩ (.slice a' m' c')) := by
  subst hm
  obtain ⟨v, hc⟩ := hc
  have P3 : ∀ b, b < w.heap.size + 1 + 1 + 1 → blk a ≠ some b := fun b hb e => by have := ha b e; omega
  have hb1 : Below w.heap.size w W1 := h.below.trans ((hA.mono fun b _ hb => P3 b (by have : b < w.heap.size := hb; omega)).to_below h.below.size)
  have cc := hA.cell hc (P3 _ (by omega))
  refine ⟨hb1.setCell (by simp) _, cell_setO (hA.cell h.m0 (P3 _ (by omega))) (by simp) _, cell_setO (hA.cell h.m1 (P3 _ (by omega))) (by simp) _, cell_setO (hA.cell h.m2 (P3 _ (by omega))) (by simp) _, ⟨a', c', ?_, ?_, hS⟩, by rw [World.frozen?_setCell]; exact hA.frozen hc h.z (P3 _ (by omega))⟩
  · rw [List.length_append]
    exact World.cell?_setCell_same _ _ _ cc
  · rw [List.length_append]
    exact hown.otherG (fun e => by have := own_blk_ge hown _ e; omega) _
set_option maxRecDepth 100000 in
set_option maxHeartbeats 1600000 in
theorem norsWork (p : Int) (a2 : Option Addr) (n2 c2 : Nat) (xs : List Int) (k bm bn : Nat) (ae : Addr) (w : World) (hb : (w.cell? ⟨bm, 0, none⟩ = some (.int .i64 p) ∧ w.cell? ⟨bm, 1, none⟩ = some (.slice a2 n2 c2) ∧ w.cell? ⟨bn, 0, none⟩ = some (.int .i64 k) ∧ ErrV w ae ∧ SL w a2 n2 c2 xs)) (hP : primeB p = true) (hx : areB p xs = true) (b2 : n2 ≤ 24) (hk : k ≤ 12) (hT : TL p xs (k - 1)) (hL : 2 * k ≤ n2 + 1) :
    Calls Tryd.prog 58 #[.pointer (some ⟨bm, 0, none⟩), .pointer (some ⟨bn, 0, none⟩)] w fun e w' => Below w.heap.size w w' ∧ ∃ f g, e = .returned (.slice f (nmL p xs k).length g) ∧ Own w.heap.size w' f g (nmL p xs k) := by
  obtain ⟨c0, c1, c2', he, h2⟩ := hb
  have hl2 := hide h2.len
  obtain ⟨hp, hp2⟩ := primeB_lo hP
  have d0 := cell_al c0 (.cells #[.slice none 0 0] 22)
  have d1 := cell_al c1 (.cells #[.slice none 0 0] 22)
  have d2' := cell_al c2' (.cells #[.slice none 0 0] 22)
  refine (callsIn_wide (n := 3)).1 ?_
  refine callsIn_of_wp_marks Tryd.func58 rfl trivial ?_ rfl
  simp only [Tryd.ntmps58, List.size_toArray, List.length_cons, List.length_nil, Nat.reduceAdd, Nat.reduceSub, Array.replicate_succ, Array.replicate_zero, List.push_toArray, List.append_toArray, List.nil_append, List.cons_append]
  gi_wp2_with fail
  refine ⟨trivial, (callsIn_wide.2 (orthogonals_any _ _ _ _ _ _)).mono ?_⟩
  rintro e w' ⟨rfl, rfl⟩
  have hI0 : AcI p a2 n2 c2 k (nmL p xs) w [] (fun _ => False) (((w.alloc (.cells #[.slice none 0 0] 22)).alloc (.cells #[.int .i64 p, .slice a2 n2 c2] 30)).alloc (.cells #[.int .i64 (k : Int)] 2)) := by
    have hb4 := bl3 w (.cells #[.slice none 0 0] 22) (.cells #[.int .i64 p, .slice a2 n2 c2] 30) (.cells #[.int .i64 (k : Int)] 2)
    refine ⟨hb4, ?_, ?_, ?_, ⟨none, 0, ?_, ?_, fun g hg => by cases hg⟩, ?_⟩
    · simp [go_sem]
    · simp [go_sem]
    · simp [go_sem]
    · simp [go_sem, nmL]
    · exact ⟨by simp [nmL], .inl ⟨rfl, rfl⟩⟩
    · simp [go_sem]
  obtain ⟨w3, hw3⟩ : ∃ w3, ((w.alloc (.cells #[.slice none 0 0] 22)).alloc (.cells #[.int .i64 p, .slice a2 n2 c2] 30)).alloc (.cells #[.int .i64 (k : Int)] 2) = w3 := ⟨_, rfl⟩
  simp only [World.size_alloc] at *
  rw [hw3] at hI0 ⊢
  have z3 : w.heap.size + 1 + 1 + 1 ≤ w3.heap.size := by rw [← hw3]; simp
  clear hw3 d0 d1 d2'
  have hit := ortho_iter p a2 n2 c2 xs k (w.heap.size + 1) (w.heap.size + 1 + 1) ae w3 (¬ TL p xs (k - 1)) hP hx b2 hl2.out (by omega) (fun h => h)
  gi_wp2
  refine wpIn_rangeQ (gf := 95) (lb := #[.pointer (some ⟨w.heap.size + 1, 0, none⟩), .pointer (some ⟨w.heap.size + 1 + 1, 0, none⟩)]) rfl (enters_of Tryd.func95 (by kernel_rfl) rfl) hit (Below.refl _ _) (fun _ => rfl)
    (fun pre S A => AcI p a2 n2 c2 k (nmL p xs) w pre S A) (fun pre S A A' h hA => h.agr hA (fun b hb => .inl (by omega)) (fun b hb => .inr hb)) (fun pre S A h => ⟨h.m0, h.m1, h.m2, he.below h.below, h2.below h.below⟩) (fun pre A l o r hl h => OrF.putLoop pre A l o r hl h) hI0 ?round ?done ?panic
  case round =>
    intro l pre S x A hl1 hl3 hS h hh hlo
    obtain ⟨r, hlo⟩ := hlo
    obtain ⟨hxk, hxn, hxT, ⟨_, _, hof⟩, hnS⟩ := hh
    have hx12 := hide (show x.k ≤ 12 ∧ 2 * (x.k + 1) ≤ n2 + 1 from ⟨by omega, by omega⟩)
    have hp12 := hide (show pre.length ≤ 12 by omega)
    replace hxk := hide hxk
    unfold RoundR oxE
    gi_wp2
    refine ⟨Agr.refl _ _, fun A₂ g2 z2 => ?_⟩
    have nl : ∀ g, blk x.f = some g → g ≠ l := fun g hg e => by
      subst e
      rcases hof.shape with ⟨h', _, _⟩ | ⟨g', cur, h', _, hgc, _⟩
      · rw [h'] at hg; cases hg
      · rw [h'] at hg; cases hg
        rw [hlo] at hgc; cases hgc
    have sf := hide (hof.agr g2 nl).sl
    have h' := h.agr (P := fun b => b ≠ l) g2 (fun b hb => by omega) (fun b hb => by have := (hS b hb).1; omega)
    have H' := hide h'
    obtain ⟨a, c, hc, ho, hSa⟩ := h'.acc
    have m0 := cell_be h'.below c0
    have m1 := cell_be h'.below c1
    have fz := h'.z
    have LO := hide (opL_len hp xs x.k (by have := hx12.out; omega)).1
    rw [LO.out] at sf
    have AO := hide (opL_small hp xs x.k (by have := hx12.out; omega)).are
    have hVn := hide (show nmL p xs (pre.length + 1) = nmL p xs pre.length ++ [opH p xs x.k] by rw [hxk.out]; rfl)
    have hVl := nmL_len p xs pre.length
    obtain ⟨vs, hvs⟩ : ∃ vs, nmL p xs pre.length = vs := ⟨_, rfl⟩
    rw [hvs] at hc ho hVn hVl
    have h2' := hide (h2.below h'.below)
    have hge := own_blk_ge ho
    have hBA := h'.below.size
    obtain ⟨Hn, hHn⟩ : ∃ H, H = opH p xs x.k := ⟨_, rfl⟩
    have HHn := hide (show opH p xs x.k = nrI p (opL p xs x.k) xs 0 from rfl)
    rw [← hHn] at hVn HHn
    have Hx2 := hx12.out.2
    have vsl : vs.length ≤ 12 := by have := hp12.out; omega
    have zA : w.heap.size + 1 + 1 + 1 ≤ A₂.heap.size := by have := hl3; omega
    have HP := hide hP
    have HX := hide hx
    replace hVl := hide hVl
    replace hvs := hide hvs
    replace hHn := hide hHn
    clear h' h hof hnS nl hP hx
    gi_wp2_with fail
    have FF : ∀ v, Agr (fun b => blk a ≠ some b) A₂ v → (v.cell? ⟨w.heap.size, 0, none⟩ = some (.slice a vs.length c) ∧ v.cell? ⟨bm, 0, none⟩ = some (.int .i64 p) ∧ v.cell? ⟨bm, 1, none⟩ = some (.slice a2 n2 c2)) := fun v hv =>
      have lb : bm < w.heap.size := World.block_lt_of_cell? _ _ c0
      ⟨hv.cell hc (fun e => by have := hge _ e; omega), hv.cell m0 (fun e => by have := hge _ e; omega), hv.cell m1 (fun e => by have := hge _ e; omega)⟩
    have hm : Below A₂.heap.size A₂ A₂.drew := (Below.refl A₂.heap.size A₂).drew
    refine region_EC (fun v => v.cell? ⟨w.heap.size, 0, none⟩ = some (.slice a vs.length c) ∧ v.cell? ⟨bm, 0, none⟩ = some (.int .i64 p) ∧ v.cell? ⟨bm, 1, none⟩ = some (.slice a2 n2 c2)) 6 (wideF_round _ l _) (by kernel_rfl) (by kernel_rfl) (FF _ (Agr.new hm)) ?_
    intro hS1
    refine anyE_takeL 0 rfl (by kernel_rfl) (fun _ _ _ h => h) hS1 (by rfl) (v := ?_) ?_ ?_
    rotate_left
    · intro w' hSw; (try dsimp only at hSw); go_simp; (try with_reducible rfl)
    try simp only [Act.put, List.setIfInBounds_toArray, List.set_cons_zero, List.set_cons_succ]
    refine anyE_takeL 1 rfl (by kernel_rfl) (fun _ _ _ h => h) hS1 (by rfl) (v := ?_) ?_ ?_
    rotate_left
    · intro w' hSw; (try dsimp only at hSw); go_simp; (try with_reducible rfl)
    try simp only [Act.put, List.setIfInBounds_toArray, List.set_cons_zero, List.set_cons_succ]
    refine anyE_takeL 2 rfl (by kernel_rfl) (fun _ _ _ h => h) hS1 (by rfl) (v := ?_) ?_ ?_
    rotate_left
    · intro w' hSw; (try dsimp only at hSw); go_simp; (try with_reducible rfl)
    try simp only [Act.put, List.setIfInBounds_toArray, List.set_cons_zero, List.set_cons_succ]
    clear hS1
    obtain ⟨y0, hy0⟩ : ∃ u, u = A₂.drew := ⟨_, rfl⟩
    rw [← hy0] at hm ⊢
    clear hy0
    refine anyE_oneL 3 (by kernel_rfl) rfl (fun K hK => ?_)
    go_simp
    refine (sqn_ok p a2 n2 c2 xs x.f (x.k + 1) x.g (opL p xs x.k) _ (h2'.out.below hm) (sf.out.below hm) (by have := hx12.out; omega) (by omega) (by omega) Hx2 hp hp2 AO.out HX.out).mono ?_
    rintro e y1 ⟨rfl, tt⟩
    dsimp only
    rw [← HHn.out]
    replace hm := bnext hm tt
    clear tt
    refine hK.out _ _ (FF _ (Agr.new hm)) ?_
    clear hK K
    try simp only [Act.put, List.setIfInBounds_toArray, List.set_cons_zero, List.set_cons_succ]
    have hcl : (y1.alloc (.cells #[.int .i64 Hn] 2)).cell? ⟨y1.heap.size, 0, none⟩ = some (.int .i64 Hn) := by simp [go_sem]
    have hba := bl1 y1 (.cells #[.int .i64 Hn] 2)
    have hm2 := bnext hm hba
    have hOb := hide (ho.below hm2)
    have sz8 := hm.size
    refine anyE_oneL 4 (by kernel_rfl) rfl (fun K hK => ?_)
    go_simp
    refine hK.out _ _ (FF _ (Agr.new hm2)) ?_
    clear hK K
    try simp only [Act.put, List.setIfInBounds_toArray, List.set_cons_zero, List.set_cons_succ]
    refine anyE_oneL 5 (by kernel_rfl) rfl (fun K hK => ?_)
    refine step_app1 (by rfl) _ _ (by rfl) (w.heap.size + 1 + 1 + 1) _ _ _ vs (by rfl) rfl hOb.out _ _ Hn (by rfl) hcl (by omega) (by first | omega | (simp; omega)) ?_
    intro ad' cap' v9 hown2 hgr2 hloc2
    have gA : Agr (fun b => blk a ≠ some b) A₂ v9 := (Agr.new hm2).trans (Agr.grown hgr2 (fun r hr => fun hn => hn hr))
    refine hK.out _ _ (FF _ gA) ?_
    clear hK K
    try simp only [Act.put, List.setIfInBounds_toArray, List.set_cons_zero, List.set_cons_succ]
    have S9 := (FF _ gA).1
    have fz9 : v9.frozen? ⟨w.heap.size, 0, none⟩ = false := gA.frozen hc fz (fun e => by have := hge _ e; omega)
    refine anyE_lastL (by kernel_rfl) rfl (by kernel_rfl) (fun K hK => ?_)
    go_simp
    refine hK.out _ _ ?_
    clear hK K
    try simp only [Act.put, List.setIfInBounds_toArray, List.set_cons_zero, List.set_cons_succ]
    have z9 := hgr2.size
    have zal : (y1.alloc (.cells #[.int .i64 Hn] 2)).heap.size = y1.heap.size + 1 := by simp
    have I' := H'.out.put (S' := fun b => S b ∨ (A₂.heap.size ≤ b ∧ b < v9.heap.size)) (a' := ad') (c' := cap') (m' := vs.length + 1) x ⟨_, hc⟩ gA hge (by rw [hVn.out]; exact hown2) (by rw [hVn.out]; simp) (fun g hg => by
      have lg := own_ltO hown2 g hg
      rcases hloc2 with e | e
      · rw [e] at hg; exact .inl (hSa g hg)
      · rw [e] at hg; simp at hg; exact .inr ⟨by omega, lg⟩)
    try simp only [onlyN]
    try gi_wp2
    refine ⟨(gA.mono fun b _ hb e => hb.2 (hSa b e)).trans (Agr.setCell _ _ (fun h' => by have := h'.1; simp at this; omega)), _, fun b hb => ?_, fun b hb => ?_, I'⟩
    · rcases hb with hb | hb
      · exact .inl hb
      · exact .inr (by omega)
    · have := (hS b)
      rcases hb with hb | hb
      · have := (hS b hb).2; simp; omega
      · simpa using hb.2
  case done =>
    intro D pre S A hD h hF hK
    obtain ⟨hpl, _, _, _⟩ := hF
    obtain ⟨a, c, hc, ho, hSa⟩ := h.acc
    rw [hpl] at hc ho
    have hB := h.below
    have lD : D < A.heap.size := (Array.getElem?_eq_some_iff.1 hK).1
    have hLn := hide (nmL_len p xs k)
    obtain ⟨vs, hvs⟩ : ∃ vs, nmL p xs k = vs := ⟨_, rfl⟩
    rw [hvs] at hc ho
    have Hvs := hide hvs
    clear hvs
    have hge := own_blk_ge ho
    have nD : ∀ cs t f, (Obj.deferred (some [])) ≠ .cells cs t f := fun cs t f e => by cases e
    have o1 : Own w.heap.size (A.putObj D (.deferred none)) a c vs := (ho.putLoop hK nD _).mono (by omega)
    have hB2 : Below w.heap.size w (A.putObj D (.deferred none)) := hB.trans ((Below.refl _ _).grown (grownBy_putObj' A D (.deferred none)) (by have := hB.size; omega) (fun r e => by cases e; omega))
    clear h hSa hpl
    gi_wp2
    refine ⟨by simp, .inl ⟨_, _, rfl, run_takeDeferred hK, ?_⟩⟩
    exact ⟨.slice a vs.length c, by simp [results, Tryd.results58, go_sem], hB2, a, c, by rw [Hvs.out], by rw [Hvs.out]; exact o1⟩
  case panic =>
    intro D pre S A hD hR h hK
    exact absurd hT hR
end Go.Proofs.YtdjifjlgllohmaaDoor
