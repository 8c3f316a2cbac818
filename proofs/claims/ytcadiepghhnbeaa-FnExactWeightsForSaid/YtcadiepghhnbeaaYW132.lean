/- Merged texts. -/
import Derived.Test.YtcadiepghhnbeaaYW131
import Derived.Test.YtcadiepghhnbeaaYW123
import Derived.Test.YtcadiepghhnbeaaYW122
import Derived.Test.YtcadiepghhnbeaaYW120
import Derived.Test.YtcadiepghhnbeaaYW117
import Derived.Handy
/- Mathematics of rules out of parts: weights put at nodes, in whatever order. -/
namespace Go.Proofs.Ytcadiepghhnbeaa
open Go.RowKit Go.Sort
set_option linter.unusedVariables false
set_option linter.unusedSimpArgs false

/-- A rule's parts: a weight put at a node. -/
def putR (p : Int) : List (Int × Int) → Int → Int → List (Int × Int)
  | [], x, v => [(x, v)]
  | (y, u) :: l, x, v => if y < x then (y, u) :: putR p l x v else if y = x then (y, (u + v) % p) :: l else (x, v) :: (y, u) :: l
def putsR (p : Int) (r l : List (Int × Int)) : List (Int × Int) := l.foldl (fun r e => putR p r e.1 e.2) r
theorem putR_comm (p : Int) (r : List (Int × Int)) (x v y u : Int) : putR p (putR p r x v) y u = putR p (putR p r y u) x v := by
  induction r with
  | nil =>
    simp only [putR]
    rcases Int.lt_trichotomy x y with h | h | h
    · rw [if_pos h, if_neg (by omega), if_neg (by omega)]
    · subst h
      rw [if_neg (by omega), if_pos rfl, if_neg (by omega), if_pos rfl, Int.add_comm]
    · rw [if_neg (by omega), if_neg (by omega), if_pos h]
  | cons e l ih =>
    obtain ⟨z, t⟩ := e
    by_cases h1 : z < x
    · have e1 : putR p ((z, t) :: l) x v = (z, t) :: putR p l x v := by rw [putR, if_pos h1]
      by_cases h2 : z < y
      · have e2 : putR p ((z, t) :: l) y u = (z, t) :: putR p l y u := by rw [putR, if_pos h2]
        rw [e1, e2, putR, if_pos h2, putR, if_pos h1, ih]
      · by_cases h3 : z = y
        · have e2 : putR p ((z, t) :: l) y u = (z, (t + u) % p) :: l := by rw [putR, if_neg h2, if_pos h3]
          rw [e1, e2, putR, if_neg h2, if_pos h3, putR, if_pos h1]
        · have e2 : putR p ((z, t) :: l) y u = (y, u) :: (z, t) :: l := by rw [putR, if_neg h2, if_neg h3]
          rw [e1, e2, putR, if_neg h2, if_neg h3, putR, if_pos (by omega), putR, if_pos h1]
    · by_cases h1' : z = x
      · subst h1'
        have e1 : putR p ((z, t) :: l) z v = (z, (t + v) % p) :: l := by rw [putR, if_neg h1, if_pos rfl]
        by_cases h2 : z < y
        · have e2 : putR p ((z, t) :: l) y u = (z, t) :: putR p l y u := by rw [putR, if_pos h2]
          rw [e1, e2, putR, if_pos h2, putR, if_neg h1, if_pos rfl]
        · by_cases h3 : z = y
          · subst h3
            have e2 : putR p ((z, t) :: l) z u = (z, (t + u) % p) :: l := by rw [putR, if_neg h2, if_pos rfl]
            rw [e1, e2, putR, if_neg h2, if_pos rfl, putR, if_neg h2, if_pos rfl, Int.emod_add_emod, Int.emod_add_emod]
            congr 3; omega
          · have e2 : putR p ((z, t) :: l) y u = (y, u) :: (z, t) :: l := by rw [putR, if_neg h2, if_neg h3]
            rw [e1, e2, putR, if_neg h2, if_neg h3, putR, if_pos (by omega), putR, if_neg h1, if_pos rfl]
      · have e1 : putR p ((z, t) :: l) x v = (x, v) :: (z, t) :: l := by rw [putR, if_neg h1, if_neg h1']
        rcases Int.lt_trichotomy x y with h | h | h
        · have e2 : putR p ((x, v) :: (z, t) :: l) y u = (x, v) :: putR p ((z, t) :: l) y u := by rw [putR, if_pos h]
          rw [e1, e2]
          by_cases h2 : z < y
          · rw [show putR p ((z, t) :: l) y u = (z, t) :: putR p l y u by rw [putR, if_pos h2], putR, if_neg h1, if_neg h1']
          · by_cases h3 : z = y
            · rw [show putR p ((z, t) :: l) y u = (z, (t + u) % p) :: l by rw [putR, if_neg h2, if_pos h3], putR, if_neg h1, if_neg h1']
            · rw [show putR p ((z, t) :: l) y u = (y, u) :: (z, t) :: l by rw [putR, if_neg h2, if_neg h3], putR, if_neg (by omega), if_neg (by omega)]
        · subst h
          rw [e1, show putR p ((z, t) :: l) x u = (x, u) :: (z, t) :: l by rw [putR, if_neg h1, if_neg h1'], putR, if_neg (by omega), if_pos rfl, putR, if_neg (by omega), if_pos rfl, Int.add_comm]
        · have e2 : putR p ((z, t) :: l) y u = (y, u) :: (z, t) :: l := by rw [putR, if_neg (by omega), if_neg (by omega)]
          rw [e1, e2, putR, if_neg (by omega), if_neg (by omega), putR, if_pos h, e1]
theorem putsR_perm (p : Int) {l l' : List (Int × Int)} (h : l.Perm l') : ∀ r, putsR p r l = putsR p r l' := by
  induction h with
  | nil => intro r; rfl
  | cons x _ ih => intro r; exact ih _
  | swap x y l => intro r; show putsR p (putR p (putR p r y.1 y.2) x.1 x.2) l = putsR p (putR p (putR p r x.1 x.2) y.1 y.2) l; rw [putR_comm]
  | trans _ _ h1 h2 => intro r; exact (h1 r).trans (h2 r)
/-- What the program does with a list that is ascending. -/
def appR (p : Int) (r : List (Int × Int)) (x v : Int) : List (Int × Int) :=
  match r.getLast? with
  | none => [(x, v)]
  | some e => if e.1 = x then r.dropLast ++ [(e.1, (e.2 + v) % p)] else r ++ [(x, v)]
def AscR (r : List (Int × Int)) : Prop := r.Pairwise (fun a b => a.1 < b.1)
theorem putR_app (p : Int) (r : List (Int × Int)) (x v : Int) (hr : AscR r) (hx : ∀ e ∈ r, e.1 ≤ x) : putR p r x v = appR p r x v := by
  induction r with
  | nil => rfl
  | cons e l ih =>
    obtain ⟨y, u⟩ := e
    rw [AscR, List.pairwise_cons] at hr
    cases l with
    | nil =>
      have h1 := hx (y, u) (by simp)
      simp only at h1
      by_cases h : y = x
      · subst h; simp [putR, appR]
      · simp [putR, appR, h, show y < x by omega]
    | cons f l =>
      have h1 := hr.1 f (by simp)
      have h2 := hx f (by simp)
      simp only at h1
      rw [putR, if_pos (by omega), ih hr.2 (fun e he => hx e (by simp [he]))]
      unfold appR
      rw [List.getLast?_cons_cons]
      cases hg : (f :: l).getLast? with
      | none => simp at hg
      | some g =>
        simp only
        by_cases hq : g.1 = x
        · rw [if_pos hq, if_pos hq]; rfl
        · rw [if_neg hq, if_neg hq]; rfl
theorem appR_asc (p : Int) (r : List (Int × Int)) (x v : Int) (hr : AscR r) (hx : ∀ e ∈ r, e.1 ≤ x) : AscR (appR p r x v) ∧ ∀ e ∈ appR p r x v, e.1 ≤ x := by
  unfold appR
  cases hg : r.getLast? with
  | none => exact ⟨by simp [AscR], by simp⟩
  | some g =>
    have hd : r.dropLast ++ [g] = r := by
      have hne : r ≠ [] := fun e => by subst e; cases hg
      rw [List.getLast?_eq_some_getLast hne] at hg
      cases hg
      exact List.dropLast_concat_getLast hne
    simp only
    rw [← hd] at hr hx
    rw [AscR, List.pairwise_append] at hr
    by_cases hq : g.1 = x
    · rw [if_pos hq]
      refine ⟨?_, fun e he => ?_⟩
      · rw [AscR, List.pairwise_append]
        exact ⟨hr.1, by simp, fun a ha b hb => by simp at hb; subst hb; exact hr.2.2 a ha g (by simp)⟩
      · rw [List.mem_append] at he
        rcases he with he | he
        · exact hx e (by simp [he])
        · simp at he; subst he; simp; omega
    · rw [if_neg hq, ← hd]
      have hgx := hx g (by simp)
      refine ⟨?_, fun e he => ?_⟩
      · rw [AscR, List.pairwise_append]
        refine ⟨by rw [List.pairwise_append]; exact hr, by simp, fun a ha b hb => ?_⟩
        simp at hb; subst hb
        rw [List.mem_append] at ha
        rcases ha with ha | ha
        · have := hr.2.2 a ha g (by simp); simp; omega
        · simp at ha; subst ha; simp; omega
      · rw [List.mem_append] at he
        rcases he with he | he
        · exact hx e he
        · simp at he; subst he; simp
/-- The program's pass over the first k of a list. -/
def appK (p : Int) (d : List (Int × Int)) : List (Int × Int) := d.foldl (fun r e => appR p r e.1 e.2) []
theorem puts_app (p : Int) (d : List (Int × Int)) (hd : d.Pairwise (fun a b => a.1 ≤ b.1)) : ∀ r, AscR r → (∀ e ∈ r, ∀ f ∈ d, e.1 ≤ f.1) → d.foldl (fun r e => appR p r e.1 e.2) r = putsR p r d := by
  induction d with
  | nil => intro r _ _; rfl
  | cons f d ih =>
    intro r hr hx
    rw [List.pairwise_cons] at hd
    have h1 := appR_asc p r f.1 f.2 hr (fun e he => hx e he f (by simp))
    rw [List.foldl_cons, ih hd.2 _ h1.1 (fun e he g hg => Int.le_trans (h1.2 e he) (hd.1 g hg)), ← putR_app p r f.1 f.2 hr (fun e he => hx e he f (by simp))]
    rfl
theorem appK_puts (p : Int) {d l : List (Int × Int)} (hd : d.Pairwise (fun a b => a.1 ≤ b.1)) (hp : d.Perm l) : appK p d = putsR p [] l := by
  unfold appK
  rw [puts_app p d hd [] (by simp [AscR]) (by simp)]
  exact putsR_perm p hp []
/-- A list that is strictly ascending stays as it is. -/
theorem puts_id (p : Int) (l : List (Int × Int)) : ∀ r, AscR (r ++ l) → putsR p r l = r ++ l := by
  induction l with
  | nil => intro r _; simp [putsR]
  | cons f l ih =>
    intro r h
    have h' := h
    rw [AscR, List.pairwise_append] at h
    have hx : ∀ e ∈ r, e.1 < f.1 := fun e he => h.2.2 e he f (by simp)
    have e1 : putR p r f.1 f.2 = r ++ [f] := by
      rw [putR_app p r f.1 f.2 h.1 (fun e he => by have := hx e he; omega)]
      unfold appR
      cases hg : r.getLast? with
      | none => simp at hg; subst hg; rfl
      | some g =>
        have hm := List.mem_of_getLast? hg
        have := hx g hm
        simp only
        rw [if_neg (by omega)]
    show putsR p (putR p r f.1 f.2) l = _
    rw [e1, ih _ (by simpa using h')]
    simp
def nodesR (r : List (Int × Int)) : List Int := r.map (·.1)
def wtsR (r : List (Int × Int)) : List Int := r.map (·.2)
theorem nodesR_len (r : List (Int × Int)) : (nodesR r).length = r.length := by simp [nodesR]
theorem wtsR_len (r : List (Int × Int)) : (wtsR r).length = r.length := by simp [wtsR]
theorem nodesR_last (r : List (Int × Int)) (e : Int × Int) (h : r.getLast? = some e) : (nodesR r).getD (r.length - 1) 0 = e.1 ∧ (wtsR r).getD (r.length - 1) 0 = e.2 := by
  rw [List.getLast?_eq_getElem?] at h
  unfold nodesR wtsR
  rw [List.getD, List.getD, List.getElem?_map, List.getElem?_map, h]
  exact ⟨rfl, rfl⟩
theorem appR_new (p : Int) (r : List (Int × Int)) (x v : Int) (h : r.length = 0 ∨ (nodesR r).getD (r.length - 1) 0 ≠ x) : appR p r x v = r ++ [(x, v)] := by
  unfold appR
  cases hg : r.getLast? with
  | none => simp at hg; subst hg; rfl
  | some e =>
    have := nodesR_last r e hg
    rcases h with h | h
    · have : r = [] := List.eq_nil_of_length_eq_zero h
      subst this
      cases hg
    · rw [this.1] at h
      simp only
      rw [if_neg h]
theorem set_last {α : Type} (r : List α) (hne : r ≠ []) (u : α) : r.dropLast ++ [u] = r.set (r.length - 1) u := by
  have h := List.dropLast_concat_getLast hne
  have hl : r.dropLast.length = r.length - 1 := List.length_dropLast
  conv => rhs; rw [← h]
  rw [List.set_append_right _ _ (by simp), show (r.dropLast ++ [r.getLast hne]).length - 1 - r.dropLast.length = 0 by simp]
  rfl
theorem appR_old (p : Int) (r : List (Int × Int)) (x v : Int) (h0 : r.length ≠ 0) (h : (nodesR r).getD (r.length - 1) 0 = x) : nodesR (appR p r x v) = nodesR r ∧ wtsR (appR p r x v) = (wtsR r).set (r.length - 1) (((wtsR r).getD (r.length - 1) 0 + v) % p) ∧ (appR p r x v).length = r.length := by
  unfold appR
  cases hg : r.getLast? with
  | none => simp at hg; subst hg; exact absurd rfl h0
  | some e =>
    have hl := nodesR_last r e hg
    have hne : r ≠ [] := fun q => by subst q; cases hg
    have hge : r.getLast hne = e := by rw [List.getLast?_eq_some_getLast hne] at hg; exact Option.some.inj hg
    rw [hl.1] at h
    simp only
    rw [if_pos h, hl.2]
    have hd := List.dropLast_concat_getLast hne
    rw [hge] at hd
    refine ⟨?_, ?_, ?_⟩
    · conv => rhs; rw [← hd]
      simp [nodesR]
    · rw [set_last r hne]
      unfold wtsR
      rw [List.map_set]
    · have := List.length_dropLast (xs := r)
      have : r.length ≠ 0 := h0
      simp
      omega
/-- The pass over the first k. -/
def appT (p : Int) (d : List (Int × Int)) (k : Nat) : List (Int × Int) := appK p (d.take k)
theorem appT_zero (p : Int) (d : List (Int × Int)) : appT p d 0 = [] := by simp [appT, appK]
theorem appT_succ (p : Int) (d : List (Int × Int)) (k : Nat) (h : k < d.length) : appT p d (k + 1) = appR p (appT p d k) (d.getD k (0, 0)).1 (d.getD k (0, 0)).2 := by
  have e : d.take (k + 1) = d.take k ++ [d.getD k (0, 0)] := by
    rw [List.take_add_one, List.getD, List.getElem?_eq_getElem h]; rfl
  unfold appT appK
  rw [e, List.foldl_append]
  rfl
theorem appT_all (p : Int) (d : List (Int × Int)) : appT p d d.length = appK p d := by unfold appT; rw [List.take_length]
theorem appR_len (p : Int) (r : List (Int × Int)) (x v : Int) : (appR p r x v).length ≤ r.length + 1 := by
  by_cases h : r.length = 0 ∨ (nodesR r).getD (r.length - 1) 0 ≠ x
  · rw [appR_new p r x v h]; simp
  · have h1 : r.length ≠ 0 := fun q => h (.inl q)
    have h2 : (nodesR r).getD (r.length - 1) 0 = x := by
      by_cases q : (nodesR r).getD (r.length - 1) 0 = x
      · exact q
      · exact absurd (.inr q) h
    rw [(appR_old p r x v h1 h2).2.2]; omega
theorem appT_len (p : Int) (d : List (Int × Int)) (k : Nat) : (appT p d k).length ≤ k := by
  induction k with
  | zero => rw [appT_zero]; simp
  | succ k ih =>
    by_cases h : k < d.length
    · rw [appT_succ p d k h]
      have := appR_len p (appT p d k) (d.getD k (0, 0)).1 (d.getD k (0, 0)).2
      omega
    · have : appT p d (k + 1) = appT p d k := by unfold appT; rw [List.take_of_length_le (by omega), List.take_of_length_le (by omega)]
      rw [this]; omega
/-- The weights stay numbers modulo p. -/
theorem appT_are {p : Int} (hp : 2 ≤ p) {d : List (Int × Int)} (hd : ∀ e ∈ d, 0 ≤ e.2 ∧ e.2 < p) (k : Nat) (hk : k ≤ d.length) : areB p (wtsR (appT p d k)) = true := by
  induction k with
  | zero => rw [appT_zero]; rfl
  | succ k ih =>
    have ih := ih (by omega)
    have hm : d.getD k (0, 0) ∈ d := by rw [List.getD, List.getElem?_eq_getElem (by omega)]; exact List.getElem_mem _
    have hv := hd _ hm
    rw [appT_succ p d k (by omega)]
    obtain ⟨r, hr⟩ : ∃ r, appT p d k = r := ⟨_, rfl⟩
    obtain ⟨e, he⟩ : ∃ e, d.getD k (0, 0) = e := ⟨_, rfl⟩
    rw [hr] at ih ⊢
    rw [he] at hv ⊢
    by_cases h : r.length = 0 ∨ (nodesR r).getD (r.length - 1) 0 ≠ e.1
    · rw [appR_new p r e.1 e.2 h]
      have : wtsR (r ++ [(e.1, e.2)]) = wtsR r ++ [e.2] := by simp [wtsR]
      rw [this]
      unfold areB at ih ⊢
      rw [List.all_append, ih]
      simp [okN, hv]
    · have h1 : r.length ≠ 0 := fun q => h (.inl q)
      have h2 : (nodesR r).getD (r.length - 1) 0 = e.1 := by
        by_cases q : (nodesR r).getD (r.length - 1) 0 = e.1
        · exact q
        · exact absurd (.inr q) h
      rw [(appR_old p r e.1 e.2 h1 h2).2.1]
      refine areB_mk fun j hj => ?_
      rw [List.length_set] at hj
      rw [List.getD, List.getElem?_set]
      by_cases q : r.length - 1 = j
      · subst q
        rw [if_pos rfl, if_pos hj]
        exact modb hp
      · rw [if_neg q, ← List.getD]
        exact getD_rng ih hp j
theorem ownLt {B : Nat} {w : World} {a : Option Addr} {c : Nat} {ys : List Int} (h : Own B w a c ys) : ∀ g, blk a = some g → g < w.heap.size := fun g hg => by
  rcases h.shape with ⟨rfl, _, _⟩ | ⟨g', cur, rfl, _, hgc, _⟩
  · cases hg
  · cases hg; exact lt_of_block hgc
end Go.Proofs.Ytcadiepghhnbeaa
/- ruleOf (program) at moved rules. -/
namespace Go.Proofs.Ytcadiepghhnbeaa
open Go.RowKit Go.Sort
set_option linter.unusedVariables false
set_option linter.unusedSimpArgs false

theorem JZ_of {lo hi : Nat} {w : World} {a : Option Addr} {n c : Nat} {xs : List Int} {b : Option Addr} {m d : Nat} {ys : List Int} (h1 : OZ lo hi w a n c xs) (h2 : OZ lo hi w b m d ys) (hd : ∀ g, blk a = some g → blk b ≠ some g) : JZ lo hi w a n c xs b m d ys := by
  refine ⟨h1, h2, ?_⟩
  obtain ⟨_, _, h3⟩ := h1.1
  rcases h3 with h3 | ⟨g, o, rfl, _⟩
  · exact .inl h3
  · exact .inr (.inr fun e => hd g rfl e.symm)
/-- A rule as a result: nodes and weights in new memory. -/
def ResU (w : World) (p : Int) (R : List (Int × Int)) (e : Ending) (w' : World) : Prop :=
  ∃ a c b d, e = .returned (jac p a R.length c b R.length d) ∧ JZ w.heap.size w'.heap.size w' a R.length c (nodesR R) b R.length d (wtsR R) ∧ Below w.heap.size w w'
end Go.Proofs.Ytcadiepghhnbeaa
