/- Merged texts. -/
import Derived.Test.YtdjifjlgllohmaaDoorYDS23
import Derived.Test.YtdjifjlgllohmaaDoorYDS26
import Derived.Test.YtdjifjlgllohmaaDoorYDS28
/- Regions that draw, inside a fence: what was proved of them outside serves there (as Rz, without the texts of chapter 5). -/
namespace Go.Proofs.YtdjifjlgllohmaaDoor
open Go.RowKit Go.Shelf
set_option linter.unusedVariables false
set_option linter.unusedSimpArgs false
section
variable {P : Program} {ops : Array Oper} {Q : Exit → Act → World → Prop} {md : Region.Mode} {S : World → Prop} {L : Nat} {F : Fence} {nF : Nat}
/-- An operation that calls nothing. -/
def isV (o : Oper) : Bool := match o.op with
  | .move _ => true
  | .assign _ => true
  | .load _ _ => true
  | .store _ _ _ => true
  | .binOp _ _ _ _ _ => true
  | .indexAddr _ _ _ => true
  | _ => false
theorem up_in (hF : ∀ f, F.fn f) {o : Oper} (h : isV o = true) {a : Act} {w : World} {K : Act → World → Prop} (hw : Oper.wp P o a w K Q) : Oper.wpIn F nF P o a w K Q := by
  have hd : ∀ c, o.op ≠ .defer c := fun c e => by simp [isV, e] at h
  unfold Oper.wp at hw
  unfold Oper.wpIn
  refine ⟨fun f _ => hF f, ?_⟩
  rw [Oper.semAt_plain F _ _ hd]
  revert hw
  cases hop : o.op <;> (first | (simp [isV, hop] at h; done) | skip)
  all_goals
    simp only [execOp, hop]
    simp
    first
      | (intro hw; exact hw)
      | (generalize hr : Sem.run _ _ _ = r
         cases r with
         | ok v w' => simp [Result.andThen, Oper.upon, Oper.uponIn]
         | halt v w' => cases v <;> simp [Result.andThen, Oper.upon, Oper.uponIn])
      | (generalize Sem.run P (eqGuard _ _ _ _ _ _) w = r
         cases r with
         | halt v w' => cases v <;> simp [Result.andThen, Oper.upon, Oper.uponIn]
         | ok v w' =>
           simp only [Result.andThen]
           generalize Sem.run P (binOp _ _ _ _) w' = r2
           cases r2 with
           | ok v w' => simp [Oper.upon, Oper.uponIn]
           | halt v w' => cases v <;> simp [Oper.upon, Oper.uponIn])
/-- What is asked behind a region that ends in the usual way alone. -/
def onlyN (Q : Exit → Act → World → Prop) : Exit → Act → World → Prop
  | .normal, a, w => Q .normal a w
  | _, _, _ => False
theorem onlyN_le {e : Exit} {a : Act} {w : World} (h : onlyN Q e a w) : Q e a w := by
  cases e <;> first | exact h | exact False.elim h
theorem not_lets (h : LetsOut (onlyN Q)) : False := by
  obtain ⟨_, _, h⟩ := h
  exact h
theorem wpOp_in (hF : ∀ f, F.fn f) (hv : ops.all isV = true) {i : Nat} {a : Act} {w : World} {K : Act → World → Prop} (h : wpOp P ops (onlyN Q) i K a w) : wpOpIn F nF P ops Q i K a w := by
  unfold wpOp at h
  unfold wpOpIn
  cases ho : ops[i]? with
  | none => simp only [ho] at h ⊢; exact h
  | some o =>
    simp only [ho] at h ⊢
    have hvo : isV o = true := by
      rw [Array.all_eq_true] at hv
      obtain ⟨hi, he⟩ := Array.getElem?_eq_some_iff.1 ho
      rw [← he]
      exact hv i hi
    by_cases hw : Region.wanted o (yielded ops a.tmps) = true
    · simp only [hw, if_true] at h ⊢
      rcases h with h | ⟨_, h⟩
      · exact up_in hF hvo (Q := Q) (by
          unfold Oper.wp at h ⊢
          generalize (execOp a.eval o).run P w = r at h ⊢
          cases r with
          | ok x w' => cases x <;> simp only [Oper.upon] at h ⊢ <;> first | exact h | (refine Calls.mono h ?_; intro e w'' he; cases e <;> first | exact he | exact onlyN_le he | exact (not_lets he).elim)
          | halt x w' => cases x <;> simp only [Oper.upon] at h ⊢ <;> first | exact onlyN_le h | exact h)
      · exact (not_lets h).elim
    · simp only [hw] at h ⊢
      exact ⟨fun f _ => hF f, h⟩
theorem anyE_in (hF : ∀ f, F.fn f) (hv : ops.all isV = true) : ∀ (n : Nat) (done : Array Bool) (a : Act) (w : World), anyE P md ops (onlyN Q) S L n done a w → wpAnyIn F nF P md ops Q n done a w := by
  intro n
  induction n with
  | zero => intro _ _ _ h; exact h
  | succ n ih => intro _ _ _ h; exact ⟨h.1, fun i hi => wpOp_in hF hv (wpOp_mono (fun _ _ k => ih _ _ _ k.2) (h.2 i hi))⟩
theorem region_EI {id : Nat} {a : Act} {w : World} (S : World → Prop) (L : Nat) (hF : ∀ f, F.fn f) (hv : ops.all isV = true) (hm : P.follows .mixedOrders = true) (hS : S w.drew)
    (h : S w.drew → anyE P .any ops (onlyN Q) S L ops.size (Array.replicate ops.size false) a w.drew) : (Code.region id ops true).wpIn F nF P Q a w :=
  wpIn_region_any hm (anyE_in hF hv _ _ _ _ (h hS))
end
end Go.Proofs.YtdjifjlgllohmaaDoor
/- Contract: orthogonalAt of the program: P(k) behind its data, or the panic. -/
namespace Go.Proofs.YtdjifjlgllohmaaDoor
open Go.RowKit Go.Shelf
set_option linter.unusedVariables false
set_option linter.unusedSimpArgs false
attribute [local go_sem] Oper.semAt_some

theorem TL.all {p : Int} {xs : List Int} {k : Nat} (h : TL p xs (k + 1 - 1)) : TL p xs k := h
theorem Own.putLoop {B : Nat} {w : World} {a : Option Addr} {c : Nat} {ys : List Int} {l : Nat} {r : Obj} (h : Own B w a c ys) (hl : w.heap[l]? = some r) (hr : ∀ cs t f, r ≠ .cells cs t f) (u : Obj) : Own B (w.putObj l u) a c ys :=
  h.agr (P := fun b => b ≠ l) (Agr.putObj _ _ _ (fun h => h rfl)) (fun g hg e => by
    rcases h.shape with ⟨rfl, _, _⟩ | ⟨g', cur, rfl, _, hgc, _⟩
    · cases hg
    · cases hg
      subst e
      rw [hl] at hgc
      exact hr _ _ _ (Option.some.inj hgc))
theorem OrF.putLoop {p : Int} {xs : List Int} {n B : Nat} (pre : List OX) (A : World) (l : Nat) (u : Obj) (r : Loop) (hl : A.heap[l]? = some (.loop r)) (h : OrF p xs n B pre A) : OrF p xs n B pre (A.putObj l u) := by
  obtain ⟨h1, h2, h3, h4⟩ := h
  have nc : ∀ cs t f, (Obj.loop r) ≠ .cells cs t f := fun cs t f e => by cases e
  exact ⟨h1, h2, fun j x hx => ⟨(h3 j x hx).1, (h3 j x hx).2.putLoop hl nc u⟩, fun x hx => ⟨(h4 x hx).1.putLoop hl nc u, (h4 x hx).2.1.putLoop hl nc u, (h4 x hx).2.2⟩⟩
/-- What orthogonalAt ends in. -/
def OAt (p : Int) (xs : List Int) (k : Nat) (ae : Addr) (w : World) (e : Ending) (w' : World) : Prop :=
  Below w.heap.size w w' ∧ ((∃ a c b d f g, e = .returned (.tuple #[jac p a k c b k d, .slice f (k + 1) g]) ∧ TL p xs k ∧ Own w.heap.size w' a c (jdL p xs k).1 ∧ Own w.heap.size w' b d (jdL p xs k).2 ∧ Own w.heap.size w' f g (opL p xs k) ∧ ∀ y, blk a = some y → blk b ≠ some y ∧ blk f ≠ some y) ∨
    (e = .panicked (chE ae) ∧ ¬ TL p xs k))

/-- What lies between two rounds of orthogonalAt: the result, the last data and the last polynomial. -/
structure OatI (p : Int) (a2 : Option Addr) (n2 c2 : Nat) (n : Nat) (w : World) (pre : List OX) (W : World) : Prop where
  below : Below w.heap.size w W
  m0 : W.cell? ⟨w.heap.size + 1 + 1 + 1 + 1, 0, none⟩ = some (.int .i64 p)
  m1 : W.cell? ⟨w.heap.size + 1 + 1 + 1 + 1, 1, none⟩ = some (.slice a2 n2 c2)
  m2 : W.cell? ⟨w.heap.size + 1 + 1 + 1 + 1 + 1, 0, none⟩ = some (.int .i64 n)
  r0 : W.cell? ⟨w.heap.size + 1, 0, none⟩ = some (.int .i64 0)
  r1 : W.cell? ⟨w.heap.size + 1, 1, none⟩ = some (.slice none 0 0)
  r2 : W.cell? ⟨w.heap.size + 1, 2, none⟩ = some (.slice none 0 0)
  y0 : W.frozen? ⟨w.heap.size + 1, 0, none⟩ = false
  y1 : W.frozen? ⟨w.heap.size + 1, 1, none⟩ = false
  y2 : W.frozen? ⟨w.heap.size + 1, 2, none⟩ = false
  last : ∃ q a c b d f g, (W.cell? ⟨w.heap.size + 1 + 1, 0, none⟩ = some (.int .i64 q) ∧ W.cell? ⟨w.heap.size + 1 + 1, 1, none⟩ = some a ∧ W.cell? ⟨w.heap.size + 1 + 1, 2, none⟩ = some b ∧ W.cell? ⟨w.heap.size + 1 + 1 + 1, 0, none⟩ = some f) ∧ (c = 0 ∧ d = 0 ∧ g = 0) ∧
    (∀ x, pre[pre.length - 1]? = some x → q = p ∧ a = .slice x.a x.k x.c ∧ b = .slice x.b x.k x.d ∧ f = .slice x.f (x.k + 1) x.g)
  z0 : W.frozen? ⟨w.heap.size + 1 + 1, 0, none⟩ = false
  z1 : W.frozen? ⟨w.heap.size + 1 + 1, 1, none⟩ = false
  z2 : W.frozen? ⟨w.heap.size + 1 + 1, 2, none⟩ = false
  z3 : W.frozen? ⟨w.heap.size + 1 + 1 + 1, 0, none⟩ = false
theorem OatI.agr {p : Int} {a2 : Option Addr} {n2 c2 n : Nat} {w : World} {pre : List OX} {W W' : World} {P : Nat → Prop} (h : OatI p a2 n2 c2 n w pre W) (hA : Agr P W W') (hP : ∀ b, b < w.heap.size + 6 → P b) : OatI p a2 n2 c2 n w pre W' := by
  obtain ⟨q, a, c, b, d, f, g, ⟨l0, l1, l2, l3⟩, l4, l5⟩ := h.last
  have hp : ∀ i, i ≤ 5 → P (w.heap.size + i) := fun i hi => hP _ (by omega)
  have h1 := hp 1 (by omega)
  have h2 := hp 2 (by omega)
  have h3 := hp 3 (by omega)
  have h4 := hp 4 (by omega)
  have h5 := hp 5 (by omega)
  exact ⟨h.below.trans ((hA.mono fun b _ hb => hP b (by have : b < w.heap.size := hb; omega)).to_below h.below.size), hA.cell h.m0 h4, hA.cell h.m1 h4, hA.cell h.m2 h5, hA.cell h.r0 h1, hA.cell h.r1 h1, hA.cell h.r2 h1, hA.frozen h.r0 h.y0 h1, hA.frozen h.r1 h.y1 h1, hA.frozen h.r2 h.y2 h1,
    ⟨q, a, c, b, d, f, g, ⟨hA.cell l0 h2, hA.cell l1 h2, hA.cell l2 h2, hA.cell l3 h3⟩, l4, l5⟩, hA.frozen l0 h.z0 h2, hA.frozen l1 h.z1 h2, hA.frozen l2 h.z2 h2, hA.frozen l3 h.z3 h3⟩
theorem OatI.put {p : Int} {a2 : Option Addr} {n2 c2 n : Nat} {w : World} {pre : List OX} {W : World} (h : OatI p a2 n2 c2 n w pre W) (x : OX) :
    OatI p a2 n2 c2 n w (pre ++ [x]) ((((W.setCell ⟨w.heap.size + 1 + 1, 0, none⟩ (.int .i64 p)).setCell ⟨w.heap.size + 1 + 1, 1, none⟩ (.slice x.a x.k x.c)).setCell ⟨w.heap.size + 1 + 1, 2, none⟩ (.slice x.b x.k x.d)).setCell ⟨w.heap.size + 1 + 1 + 1, 0, none⟩ (.slice x.f (x.k + 1) x.g)) := by
  obtain ⟨q, a, c, b, d, f, g, ⟨l0, l1, l2, l3⟩, l4, l5⟩ := h.last
  have c4 : ∀ (b o : Nat) (v : Value), b ≠ w.heap.size + 1 + 1 → b ≠ w.heap.size + 1 + 1 + 1 → W.cell? ⟨b, o, none⟩ = some v → ((((W.setCell ⟨w.heap.size + 1 + 1, 0, none⟩ (.int .i64 p)).setCell ⟨w.heap.size + 1 + 1, 1, none⟩ (.slice x.a x.k x.c)).setCell ⟨w.heap.size + 1 + 1, 2, none⟩ (.slice x.b x.k x.d)).setCell ⟨w.heap.size + 1 + 1 + 1, 0, none⟩ (.slice x.f (x.k + 1) x.g)).cell? ⟨b, o, none⟩ = some v := fun b o v h1 h2 hc =>
    cell_setO (cell_setO (cell_setO (cell_setO hc (fun e => h1 (congrArg Addr.block e).symm) _) (fun e => h1 (congrArg Addr.block e).symm) _) (fun e => h1 (congrArg Addr.block e).symm) _) (fun e => h2 (congrArg Addr.block e).symm) _
  refine ⟨(((h.below.setCell (by simp <;> omega) _).setCell (by simp <;> omega) _).setCell (by simp <;> omega) _).setCell (by simp <;> omega) _, c4 _ _ _ (by omega) (by omega) h.m0, c4 _ _ _ (by omega) (by omega) h.m1, c4 _ _ _ (by omega) (by omega) h.m2, c4 _ _ _ (by omega) (by omega) h.r0, c4 _ _ _ (by omega) (by omega) h.r1, c4 _ _ _ (by omega) (by omega) h.r2, by simpa using h.y0, by simpa using h.y1, by simpa using h.y2, ⟨p, .slice x.a x.k x.c, 0, .slice x.b x.k x.d, 0, .slice x.f (x.k + 1) x.g, 0, ⟨?_, ?_, ?_, ?_⟩, ⟨rfl, rfl, rfl⟩, fun y hy => ?_⟩, by simpa using h.z0, by simpa using h.z1, by simpa using h.z2, by simpa using h.z3⟩
  · exact cell_setO (cell_setO (cell_setO (World.cell?_setCell_same _ _ _ l0) (by simp) _) (by simp) _) (by simp) _
  · exact cell_setO (cell_setO (World.cell?_setCell_same _ _ _ (cell_setO l1 (by simp) _)) (by simp) _) (by simp) _
  · exact cell_setO (World.cell?_setCell_same _ _ _ (cell_setO (cell_setO l2 (by simp) _) (by simp) _)) (by simp) _
  · exact World.cell?_setCell_same _ _ _ (cell_setO (cell_setO (cell_setO l3 (by simp) _) (by simp) _) (by simp) _)
  · simp at hy
    subst hy
    exact ⟨rfl, rfl, rfl, rfl⟩
set_option maxRecDepth 100000 in
set_option maxHeartbeats 6400000 in
theorem orthoAt_any (p : Int) (a2 : Option Addr) (n2 c2 : Nat) (xs : List Int) (k : Nat) (ae : Addr) (w : World) (he : ErrV w ae) (h2 : SL w a2 n2 c2 xs) (hP : primeB p = true) (hx : areB p xs = true) (b2 : n2 ≤ 24) (hk : k ≤ 12) :
    Calls Tryd.prog 49 #[mom p a2 n2 c2, .int .i64 k] w (OAt p xs k ae w) := by
  have hl2 := hide h2.len
  have wk : IntKind.i64.wrap ((k : Int) + 1) = (k : Int) + 1 := IntWalk.i64_in _ (by omega)
  refine (callsIn_wide (n := 3)).1 ?_
  refine callsIn_of_wp_marks Tryd.func49 rfl trivial ?_ rfl
  simp only [Tryd.ntmps49, List.size_toArray, List.length_cons, List.length_nil, Nat.reduceAdd, Nat.reduceSub, Array.replicate_succ, Array.replicate_zero, List.push_toArray, List.append_toArray, List.nil_append, List.cons_append]
  gi_wp2_with fail
  refine ⟨trivial, (callsIn_wide.2 (orthogonals_any _ _ _ _ _ _)).mono ?_⟩
  rintro e w' ⟨rfl, rfl⟩
  have hI0 : OatI p a2 n2 c2 (k + 1) w [] ((((((w.alloc (.cells #[.int .i64 p, .slice a2 n2 c2] 30)).alloc (.cells #[.int .i64 0, .slice none 0 0, .slice none 0 0] 27)).alloc (.cells #[.int .i64 0, .slice none 0 0, .slice none 0 0] 27)).alloc (.cells #[.slice none 0 0] 22)).alloc (.cells #[.int .i64 p, .slice a2 n2 c2] 30)).alloc (.cells #[.int .i64 ((k : Int) + 1)] 2)) := by
    have hb4 := bl2 w (.cells #[.int .i64 p, .slice a2 n2 c2] 30) (.cells #[.int .i64 0, .slice none 0 0, .slice none 0 0] 27)
    refine ⟨(((((hb4.alloc (by simp; omega) _).alloc (by simp; omega) _).alloc (by simp; omega) _).alloc (by simp; omega) _)), ?_, ?_, ?_, ?_, ?_, ?_, ?_, ?_, ?_, ⟨0, .slice none 0 0, 0, .slice none 0 0, 0, .slice none 0 0, 0, ⟨?_, ?_, ?_, ?_⟩, ⟨rfl, rfl, rfl⟩, fun x hx => by simp at hx⟩, ?_, ?_, ?_, ?_⟩ <;> simp [go_sem]
  obtain ⟨w6, hw6⟩ : ∃ w6, (((((w.alloc (.cells #[.int .i64 p, .slice a2 n2 c2] 30)).alloc (.cells #[.int .i64 0, .slice none 0 0, .slice none 0 0] 27)).alloc (.cells #[.int .i64 0, .slice none 0 0, .slice none 0 0] 27)).alloc (.cells #[.slice none 0 0] 22)).alloc (.cells #[.int .i64 p, .slice a2 n2 c2] 30)).alloc (.cells #[.int .i64 ((k : Int) + 1)] 2) = w6 := ⟨_, rfl⟩
  simp only [World.size_alloc] at *
  rw [hw6] at hI0 ⊢
  have z6 : w.heap.size + 6 ≤ w6.heap.size := by rw [← hw6]; simp
  clear hw6 wk
  have hit := ortho_iter p a2 n2 c2 xs (k + 1) (w.heap.size + 1 + 1 + 1 + 1) (w.heap.size + 1 + 1 + 1 + 1 + 1) ae w6 (¬ TL p xs k) hP hx b2 hl2.out (by omega) (fun h => h)
  gi_wp2
  refine wpIn_rangeP (gf := 95) (lb := #[.pointer (some ⟨w.heap.size + 1 + 1 + 1 + 1, 0, none⟩), .pointer (some ⟨w.heap.size + 1 + 1 + 1 + 1 + 1, 0, none⟩)]) rfl (enters_of Tryd.func95 (by kernel_rfl) rfl) hit (Below.refl _ _) (fun _ => rfl)
    (fun pre S A => OatI p a2 n2 c2 (k + 1) w pre A) (fun pre S A A' h hA => h.agr hA (fun b hb => .inl (by omega))) (fun pre S A h => ⟨h.m0, h.m1, h.m2, he.below h.below, h2.below h.below⟩) (fun pre A l o r hl h => OrF.putLoop pre A l o r hl h) hI0 ?round ?done ?panic
  case round =>
    intro l pre S x A hl1 hl3 hS h hh
    have bA := bl1 A (.cells #[.int .i64 p, .slice x.a x.k x.c, .slice x.b x.k x.d] 27)
    unfold RoundR oxE
    gi_wp2
    refine ⟨Agr.new bA, fun A₂ g2 z2 => ?_⟩
    have j0 : A₂.cell? ⟨A.heap.size, 0, none⟩ = some (.int .i64 p) := g2.cell (by simp [go_sem]) (by omega)
    have j1 : A₂.cell? ⟨A.heap.size, 1, none⟩ = some (.slice x.a x.k x.c) := g2.cell (by simp [go_sem]) (by omega)
    have j2 : A₂.cell? ⟨A.heap.size, 2, none⟩ = some (.slice x.b x.k x.d) := g2.cell (by simp [go_sem]) (by omega)
    have h' := h.agr ((Agr.new (P := fun b => b ≠ l) bA).trans g2) (fun b hb => by omega)
    obtain ⟨q, a, c, b, d, f, g, ⟨l0, l1, l2, l3⟩, l4, l5⟩ := h'.last
    have z0 := h'.z0
    have z1 := h'.z1
    have z2' := h'.z2
    have z3 := h'.z3
    have H' := hide h'
    clear h' h bA
    gi_wp2
    have s1 : ¬ (w6.heap.size ≤ w.heap.size + 1 + 1 ∧ ¬ S (w.heap.size + 1 + 1)) := fun h' => by have := h'.1; omega
    have s2 : ¬ (w6.heap.size ≤ w.heap.size + 1 + 1 + 1 ∧ ¬ S (w.heap.size + 1 + 1 + 1)) := fun h' => by have := h'.1; omega
    exact ⟨(((Agr.setCell _ _ s1).trans (Agr.setCell _ _ s1)).trans (Agr.setCell _ _ s1)).trans (Agr.setCell _ _ s2), S, fun b hb => .inl hb, fun b hb => by have := (hS b hb).2; omega, H'.out.put x⟩
  case done =>
    intro D pre S A hD h hF hK
    obtain ⟨hpl, hT, hC, hX⟩ := hF
    obtain ⟨⟨xk, xa, xc, xb, xd, xf, xg⟩, hx'⟩ : ∃ x, pre[k]? = some x := ⟨_, List.getElem?_eq_getElem (by omega)⟩
    obtain ⟨q, a, c, b, d, f, g, ⟨l0, l1, l2, l3⟩, l4, l5⟩ := h.last
    obtain ⟨hxk, hof⟩ := hC k _ hx'
    have hxk' : xk = k := hxk
    subst hxk'
    obtain ⟨rfl, rfl, rfl, rfl⟩ := l5 ⟨xk, xa, xc, xb, xd, xf, xg⟩ (by rw [hpl]; exact hx')
    obtain ⟨hoa, hob, hne⟩ := hX ⟨xk, xa, xc, xb, xd, xf, xg⟩ hx'
    dsimp only at l0 l1 l2 l3 hoa hob hof hne
    have r0 := h.r0
    have r1 := h.r1
    have r2 := h.r2
    have y0 := h.y0
    have y1 := h.y1
    have y2 := h.y2
    have hB := h.below
    have zA := h.below.size
    clear hC hX hx' l5 l4 hxk h hpl
    gi_wp2_with fail
    have S0 : ∀ W : World, Agr (fun b => b ≠ w.heap.size + 1) A W → (W.cell? ⟨w.heap.size + 1 + 1, 0, none⟩ = some (.int .i64 q) ∧ W.cell? ⟨w.heap.size + 1 + 1, 1, none⟩ = some (.slice xa xk xc) ∧ W.cell? ⟨w.heap.size + 1 + 1, 2, none⟩ = some (.slice xb xk xd) ∧ W.cell? ⟨w.heap.size + 1 + 1 + 1, 0, none⟩ = some (.slice xf (xk + 1) xg)) := fun W hA => ⟨hA.cell l0 (by omega), hA.cell l1 (by omega), hA.cell l2 (by omega), hA.cell l3 (by omega)⟩
    refine region_EI (fun W => W.cell? ⟨w.heap.size + 1 + 1, 0, none⟩ = some (.int .i64 q) ∧ W.cell? ⟨w.heap.size + 1 + 1, 1, none⟩ = some (.slice xa xk xc) ∧ W.cell? ⟨w.heap.size + 1 + 1, 2, none⟩ = some (.slice xb xk xd) ∧ W.cell? ⟨w.heap.size + 1 + 1 + 1, 0, none⟩ = some (.slice xf (xk + 1) xg)) 99 (fun _ => trivial) (by kernel_rfl) (by kernel_rfl) (S0 _ (Agr.drew _ _)) ?_
    intro hS
    refine anyE_takeH 0 rfl (by kernel_rfl) (fun _ _ _ h => h) hS (by rfl) (v := ?_) ?_ ?_
    rotate_left
    · intro w' hSw; (try dsimp only at hSw); go_simp; (try with_reducible rfl)
    try simp only [Act.put, List.setIfInBounds_toArray, List.set_cons_zero, List.set_cons_succ]
    refine anyE_takeH 1 rfl (by kernel_rfl) (fun _ _ _ h => h) hS (by rfl) (v := ?_) ?_ ?_
    rotate_left
    · intro w' hSw; (try dsimp only at hSw); go_simp; (try with_reducible rfl)
    try simp only [Act.put, List.setIfInBounds_toArray, List.set_cons_zero, List.set_cons_succ]
    have r0' : A.drew.cell? ⟨w.heap.size + 1, 0, none⟩ = some (.int .i64 0) := r0
    have r1' : A.drew.cell? ⟨w.heap.size + 1, 1, none⟩ = some (.slice none 0 0) := r1
    have r2' : A.drew.cell? ⟨w.heap.size + 1, 2, none⟩ = some (.slice none 0 0) := r2
    have y0' : A.drew.frozen? ⟨w.heap.size + 1, 0, none⟩ = false := y0
    have y1' : A.drew.frozen? ⟨w.heap.size + 1, 1, none⟩ = false := y1
    have y2' : A.drew.frozen? ⟨w.heap.size + 1, 2, none⟩ = false := y2
    obtain ⟨u0, hu0⟩ : ∃ u, u = A.drew := ⟨_, rfl⟩
    have hBu : Below w.heap.size w u0 := by rw [hu0]; exact hB.drew
    have zu : A.heap.size = u0.heap.size := by rw [hu0]; rfl
    have hKu : u0.heap[D]? = some (.deferred (some [])) := by rw [hu0]; exact hK
    have hAu : Agr (fun b => b ≠ w.heap.size + 1) A u0 := by rw [hu0]; exact Agr.drew _ _
    rw [← hu0] at r0' r1' r2' y0' y1' y2' ⊢
    have H1 := hide hoa
    have H2 := hide hob
    have H3 := hide hof
    clear hu0 hS l0 l1 l2 l3 r0 r1 r2 y0 y1 y2 hoa hob hof
    have zu' : A.heap.size ≤ u0.heap.size := by omega
    have zu2 : u0.heap.size ≤ A.heap.size := by omega
    clear zu
    refine anyE_oneL 2 (by kernel_rfl) rfl (fun K' hK' => ?_)
    go_simp
    refine hK'.out _ _ (S0 _ (hAu.trans (((Agr.setCell _ _ (fun h => h rfl)).trans (Agr.setCell _ _ (fun h => h rfl))).trans (Agr.setCell _ _ (fun h => h rfl))))) ?_
    clear hK' K'
    try simp only [Act.put, List.setIfInBounds_toArray, List.set_cons_zero, List.set_cons_succ]
    refine anyE_oneL 3 (by kernel_rfl) rfl (fun K' hK' => ?_)
    go_simp
    refine hK'.out _ _ (S0 _ (hAu.trans (((Agr.setCell _ _ (fun h => h rfl)).trans (Agr.setCell _ _ (fun h => h rfl))).trans (Agr.setCell _ _ (fun h => h rfl))))) ?_
    clear hK' K'
    refine anyE_doneL (by kernel_rfl) ?_
    obtain ⟨u1, hu1⟩ : ∃ u, ((u0.setCell ⟨w.heap.size + 1, 0, none⟩ (.int .i64 q)).setCell ⟨w.heap.size + 1, 1, none⟩ (.slice xa xk xc)).setCell ⟨w.heap.size + 1, 2, none⟩ (.slice xb xk xd) = u := ⟨_, rfl⟩
    rw [hu1]
    have k0 : u1.cell? ⟨w.heap.size + 1, 0, none⟩ = some (.int .i64 q) := by rw [← hu1]; exact cell_setO (cell_setO (World.cell?_setCell_same _ _ _ r0') (by simp) _) (by simp) _
    have k1 : u1.cell? ⟨w.heap.size + 1, 1, none⟩ = some (.slice xa xk xc) := by rw [← hu1]; exact cell_setO (World.cell?_setCell_same _ _ _ (cell_setO r1' (by simp) _)) (by simp) _
    have k2 : u1.cell? ⟨w.heap.size + 1, 2, none⟩ = some (.slice xb xk xd) := by rw [← hu1]; exact World.cell?_setCell_same _ _ _ (cell_setO (cell_setO r2' (by simp) _) (by simp) _)
    have gA : Agr (fun b => b ≠ w.heap.size + 1) A u1 := by rw [← hu1]; exact hAu.trans (((Agr.setCell _ _ (fun h => h rfl)).trans (Agr.setCell _ _ (fun h => h rfl))).trans (Agr.setCell _ _ (fun h => h rfl)))
    have hB1 : Below w.heap.size w u1 := by rw [← hu1]; exact ((hBu.setCell (by simp) _).setCell (by simp) _).setCell (by simp) _
    have lD : D < A.heap.size := (Array.getElem?_eq_some_iff.1 hK).1
    have hKd := (gA.block D lD (by omega)).trans hK
    have nD : ∀ cs t f, (Obj.deferred (some [])) ≠ .cells cs t f := fun cs t f e => by cases e
    have o1 : Own w.heap.size (u1.putObj D (.deferred none)) xa xc (jdL q xs xk).1 := ((H1.out.agr gA (fun g hg e => by have := H1.out.low g hg; omega)).putLoop hKd nD _).mono (by omega)
    have o2 : Own w.heap.size (u1.putObj D (.deferred none)) xb xd (jdL q xs xk).2 := ((H2.out.agr gA (fun g hg e => by have := H2.out.low g hg; omega)).putLoop hKd nD _).mono (by omega)
    have o3 : Own w.heap.size (u1.putObj D (.deferred none)) xf xg (opL q xs xk) := ((H3.out.agr gA (fun g hg e => by have := H3.out.low g hg; omega)).putLoop hKd nD _).mono (by omega)
    have gP : Agr (fun b => b ≠ D) u1 (u1.putObj D (.deferred none)) := Agr.putObj _ _ _ (fun h => h rfl)
    have kk0 := gP.cell k0 (by omega)
    have kk1 := gP.cell k1 (by omega)
    have kk2 := gP.cell k2 (by omega)
    have hB2 : Below w.heap.size w (u1.putObj D (.deferred none)) := hB1.trans ((Below.refl _ _).grown (grownBy_putObj' u1 D (.deferred none)) (by have := gA.size; omega) (fun r e => by cases e; omega))
    clear hu1 H1 H2 H3 r0' r1' r2' y0' y1' y2' S0
    dsimp only [onlyN]
    gi_wp2
    refine ⟨by simp, .inl ⟨_, _, rfl, run_takeDeferred hKd, ?_⟩⟩
    refine ⟨.tuple #[jac q xa xk xc xb xk xd, .slice xf (xk + 1) xg], by simp [results, Tryd.results49, go_sem, kk0, kk1, kk2], hB2, .inl ⟨xa, xc, xb, xd, xf, xg, rfl, hT, o1, o2, o3, hne⟩⟩
  case panic =>
    intro D pre S A hD hR h hK
    gi_wp2
    exact ⟨by simp, .inl ⟨_, _, rfl, run_takeDeferred hK, ⟨h.below.trans ((Below.refl _ _).grown (grownBy_putObj' A D (.deferred none)) (by have := h.below.size; omega) (fun r e => by cases e; omega)), .inr ⟨rfl, hR⟩⟩⟩⟩
end Go.Proofs.YtdjifjlgllohmaaDoor
