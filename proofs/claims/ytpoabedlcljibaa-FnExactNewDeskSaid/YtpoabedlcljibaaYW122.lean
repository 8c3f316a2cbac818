/- Merged texts. -/
import Derived.Test.YtpoabedlcljibaaYW121
import Derived.Test.YtpoabedlcljibaaYW117
import Derived.Test.YtpoabedlcljibaaYW10
import Derived.Deep.RegionHeld3
/- Contracts: PolyOf, AssociatedOf, ValueOf, WronskiAt (program and model). -/
namespace Go.Proofs.Ytpoabedlcljibaa
open Go.RowKit
set_option linter.unusedVariables false
set_option linter.unusedSimpArgs false

def polC (p : Int) (xs ys : List Int) (k : Int) : Int := jcd p xs ys k 0 xs.length
def polV (p : Int) (xs ys : List Int) (k : Int) : List Int := if polC p xs ys k = 0 then polJ p xs ys k.toNat else []
def secV (p : Int) (xs ys : List Int) (k : Int) : List Int := if polC p xs ys k = 0 then secJ p xs ys k.toNat else []
def vofC (p : Int) (xs ys : List Int) (k x : Int) : Int := if polC p xs ys k = 0 then (if 0 ≤ x ∧ x < p then 0 else 2) else polC p xs ys k
def vofV (p : Int) (xs ys : List Int) (k x : Int) : Int := if vofC p xs ys k x = 0 then evM p (polJ p xs ys k.toNat) x else 0
def wroC (p : Int) (xs ys : List Int) (k : Int) : Int := jcd p xs ys k 0 ((xs.length : Int) - 1)
def wroM (p : Int) (xs ys : List Int) (k : Nat) : List Int := addM p (mulM p (polJ p xs ys k) (secJ p xs ys (k + 1))) (mulM p (secJ p xs ys k) (polJ p xs ys (k + 1))) (p - 1)
def wroV (p : Int) (xs ys : List Int) (k : Int) : List Int := if wroC p xs ys k = 0 then wroM p xs ys k.toNat else []
/-- The polynomials as the closures hand them out: behind the last one it comes again. -/
def gP (p : Int) (xs ys : List Int) (n i : Nat) : List Int := polJ p xs ys (min i n)
def gS (p : Int) (xs ys : List Int) (n i : Nat) : List Int := secJ p xs ys (min i n)
theorem gP_step (p : Int) (xs ys : List Int) (n i : Nat) : gP p xs ys n (i + 2) = if i + 1 < n then stp p (xs.getD (i + 1) 0) (ys.getD (i + 1) 0) (gP p xs ys n (i + 1)) (gP p xs ys n i) else gP p xs ys n (i + 1) := by
  unfold gP
  split
  · next h => rw [Nat.min_eq_left (show i + 2 ≤ n by omega), Nat.min_eq_left (show i + 1 ≤ n by omega), Nat.min_eq_left (show i ≤ n by omega)]; exact polJ_step p xs ys i
  · next h => rw [Nat.min_eq_right (show n ≤ i + 2 by omega), Nat.min_eq_right (show n ≤ i + 1 by omega)]
theorem gS_step (p : Int) (xs ys : List Int) (n i : Nat) : gS p xs ys n (i + 2) = if i + 1 < n then stp p (xs.getD (i + 1) 0) (ys.getD (i + 1) 0) (gS p xs ys n (i + 1)) (gS p xs ys n i) else gS p xs ys n (i + 1) := by
  unfold gS
  split
  · next h => rw [Nat.min_eq_left (show i + 2 ≤ n by omega), Nat.min_eq_left (show i + 1 ≤ n by omega), Nat.min_eq_left (show i ≤ n by omega)]; exact secJ_step p xs ys i
  · next h => rw [Nat.min_eq_right (show n ≤ i + 2 by omega), Nat.min_eq_right (show n ≤ i + 1 by omega)]
theorem Small.up {p : Int} {m m' : Nat} {f : List Int} (h : Small p m f) (hm : m ≤ m') : Small p m' f := ⟨h.1, Nat.le_trans h.2 hm⟩
theorem gP_small {p : Int} (hp : 2 ≤ p) (xs ys : List Int) (n i : Nat) (hn : n ≤ 12) : Small p 24 (gP p xs ys n i) := (polJ_small hp xs ys (min i n) (by omega)).up (by omega)
theorem gS_small {p : Int} (hp : 2 ≤ p) (xs ys : List Int) (n i : Nat) (hn : n ≤ 12) : Small p 24 (gS p xs ys n i) := (secJ_small hp xs ys (min i n) (by omega)).up (by omega)
theorem gP_one {p : Int} (hp : 2 ≤ p) (xs ys : List Int) (n : Nat) (hn : 1 ≤ n) : gP p xs ys n 1 = linM p (xs.getD 0 0) := by
  unfold gP
  rw [Nat.min_eq_left hn]
  exact polJ_one hp xs ys
theorem gS_one (p : Int) (xs ys : List Int) (n : Nat) (hn : 1 ≤ n) : gS p xs ys n 1 = [1] := by
  unfold gS
  rw [Nat.min_eq_left hn]
  rfl
/-- A kept list as the result of a call. -/
theorem Kept.res {B z ze : Nat} {w w' : World} {a : Option Addr} {c : Nat} {f : List Int} (h : Kept w.heap.size B z ze w' a c f) : OZ w.heap.size w'.heap.size w' a f.length c f := by
  obtain ⟨l, hh, h1, h2, _, _, h5⟩ := h
  exact h5.mono h1 h2
theorem gP_zero (p : Int) (xs ys : List Int) (n : Nat) : gP p xs ys n 0 = [1] := by unfold gP; rw [Nat.zero_min]; rfl
theorem gS_zero (p : Int) (xs ys : List Int) (n : Nat) : gS p xs ys n 0 = [] := by unfold gS; rw [Nat.zero_min]; rfl
theorem gP_le {p : Int} {xs ys : List Int} {n k : Nat} (h : k ≤ n) : gP p xs ys n k = polJ p xs ys k := by unfold gP; rw [Nat.min_eq_left h]
theorem gS_le {p : Int} {xs ys : List Int} {n k : Nat} (h : k ≤ n) : gS p xs ys n k = secJ p xs ys k := by unfold gS; rw [Nat.min_eq_left h]
section
variable {z ze B : Nat} {w0 w : World} {p : Int} {a : Option Addr} {n c : Nat} {b : Option Addr} {d : Nat} {xs ys : List Int}
theorem RInv.polys (h : RInv z ze B w0 w p a n c b d 0 [1] (linM p (xs.getD 0 0))) (hp : 2 ≤ p) (hn : 1 ≤ n) : RInv z ze B w0 w p a n c b d 0 (gP p xs ys n 0) (gP p xs ys n 1) := by
  rw [gP_zero, gP_one hp xs ys n hn]
  exact h
theorem RInv.seconds (h : RInv z ze B w0 w p a n c b d 0 [] [1]) (hn : 1 ≤ n) : RInv z ze B w0 w p a n c b d 0 (gS p xs ys n 0) (gS p xs ys n 1) := by
  rw [gS_zero, gS_one p xs ys n hn]
  exact h
end
end Go.Proofs.Ytpoabedlcljibaa
/- Regions that draw their order and end with a store: a condition S is kept up to the last operation L, which waits for all the others, and need not hold behind it. Loads are taken first under S. -/
namespace Go.Proofs.Ytpoabedlcljibaa
open Go.RowKit
set_option linter.unusedVariables false
set_option linter.unusedSimpArgs false
section
variable {P : Program} {ops : Array Oper} {Q : Exit → Act → World → Prop} {md : Region.Mode} {S : World → Prop} {L : Nat}
/-- Whatever order is drawn from here on; S holds behind every operation but L. -/
def anyE (P : Program) (md : Region.Mode) (ops : Array Oper) (Q : Exit → Act → World → Prop) (S : World → Prop) (L : Nat) : Nat → Array Bool → Act → World → Prop
  | 0, done, a, w => Region.ready md ops done = [] ∧ Q .normal a w
  | n + 1, done, a, w => (Region.ready md ops done = [] → Q .normal a w) ∧
      ∀ i ∈ Region.ready md ops done, wpOp P ops Q i (fun a' w' => (i ≠ L → S w') ∧ anyE P md ops Q S L n (done.setIfInBounds i true) a' w') a w
theorem anyE_any : ∀ (n : Nat) (done : Array Bool) (a : Act) (w : World), anyE P md ops Q S L n done a w → wpAny P md ops Q n done a w := by
  intro n
  induction n with
  | zero => intro _ _ _ h; exact h
  | succ n ih => intro _ _ _ h; exact ⟨h.1, fun i hi => wpOp_mono (fun _ _ k => ih _ _ _ k.2) (h.2 i hi)⟩
/-- L waits for i. -/
def waits (md : Region.Mode) (ops : Array Oper) (L i : Nat) : Bool := match ops[L]? with
  | some o => o.after.any fun e => Region.binds md e && e.on == i
  | none => false
theorem waits_not {i : Nat} {done : Array Bool} (h : waits md ops L i = true) (hi : i ∈ Region.ready md ops done) : L ∉ Region.ready md ops done := by
  intro hL
  obtain ⟨h1, _, _, _⟩ := mem_ready.1 hi
  obtain ⟨_, o, ho, hall⟩ := mem_ready.1 hL
  simp only [waits, ho, Array.any_eq_true, Bool.and_eq_true, beq_iff_eq] at h
  obtain ⟨k, hk, hb, he⟩ := h
  have h2 := hall _ (Array.getElem_mem hk) hb
  rw [he] at h2
  by_cases hs : i < done.size
  · simp [Array.getD, hs] at h1 h2; rw [h1] at h2; cases h2
  · simp [Array.getD, hs] at h2
theorem anyE_front {i : Nat} {oi : Oper} {v : Value} (hi : ops[i]? = some oi) (hsel : ∀ (j : Nat) (o : Oper) cs b, ops[j]? = some o → o.op ≠ .select cs b)
    (hQ : ∀ c a w, Q (.panic c) (a.put oi.dst v) w → Q (.panic c) a w) (hnr : ∀ done : Array Bool, i ∈ Region.ready md ops done → L ∉ Region.ready md ops done) :
    ∀ (n : Nat) (done : Array Bool) (a : Act) (w : World),
      (∀ j oj, ops[j]? = some oj → j ≠ i → done.getD j true = false → (∀ e ∈ oj.after, Region.binds md e = true → e.on ≠ i) → oi.apart ops oj = true) →
      i ∈ Region.ready md ops done → YieldsIf P ops S oi v a → S w →
      anyE P md ops Q S L n (done.setIfInBounds i true) (a.put oi.dst v) w → anyE P md ops Q S L (n + 1) done a w := by
  intro n
  induction n with
  | zero =>
    intro done a w hfr hr hy hS H
    constructor
    · intro h; rw [h] at hr; exact absurd hr (by simp)
    · intro j hj
      by_cases e : j = i
      · rw [e]; exact hy.wpOp hi hS ⟨fun _ => hS, H⟩
      · have hn := ready_mono hj e
        rw [H.1] at hn
        exact absurd hn (by simp)
  | succ n ih =>
    intro done a w hfr hr hy hS H
    constructor
    · intro h; rw [h] at hr; exact absurd hr (by simp)
    · intro j hj
      by_cases e : j = i
      · rw [e]; exact hy.wpOp hi hS ⟨fun _ => hS, H⟩
      have hjL : j ≠ L := fun h => hnr done hr (h ▸ hj)
      have hno : ∀ oj, ops[j]? = some oj → ∀ e ∈ oj.after, Region.binds md e = true → e.on ≠ i := by
        intro oj hoj x hx hb hxi
        have hwj : waits md ops j i = true := by
          simp only [waits, hoj, Array.any_eq_true, Bool.and_eq_true, beq_iff_eq]
          obtain ⟨k, hk, hkx⟩ := Array.getElem_of_mem hx
          exact ⟨k, hk, by rw [hkx]; exact hb, by rw [hkx]; exact hxi⟩
        exact waits_not hwj hr hj
      obtain ⟨hun, oj, hoj, _⟩ := mem_ready.1 hj
      have step := wpOp_putIf hoj (hfr j oj hoj e hun (hno oj hoj)) (fun cs b => hsel i oi cs b hi) (fun cs b => hsel j oj cs b hoj) hQ hy (H.2 j (ready_mono hj e))
      refine wpOp_mono (fun a' w' k => ?_) step
      obtain ⟨k1, k2, k3⟩ := k
      refine ⟨fun _ => k2 hjL, ih (done.setIfInBounds j true) a' w' ?_ (ready_mono hr (Ne.symm e)) k1 (k2 hjL) ?_⟩
      · intro x ox hx hxi hxu hxn
        refine hfr x ox hx hxi ?_ hxn
        by_cases hjx : j = x
        · exact hjx ▸ hun
        · rwa [getD_set_ne true hjx] at hxu
      · rw [Array.setIfInBounds_comm _ _ e]; exact k3
/-- Number i is taken first: it may come up, it yields v wherever S holds, and L waits for it. -/
theorem anyE_take (i : Nat) {oi : Oper} {v : Value} {n : Nat} {done : Array Bool} {a : Act} {w : World} (hi : ops[i]? = some oi)
    (hk : (Region.noSelect ops && Region.free md ops done i && (Region.ready md ops done).contains i && waits md ops L i) = true)
    (hQ : ∀ c a w, Q (.panic c) (a.put oi.dst v) w → Q (.panic c) a w) (hS : S w) (hwd : Region.wanted oi (yielded ops a.tmps) = true) (hy : ∀ w, S w → (execOp a.eval oi).run P w = .ok (.value v) w)
    (h : anyE P md ops Q S L n (done.setIfInBounds i true) (a.put oi.dst v) w) : anyE P md ops Q S L (n + 1) done a w := by
  simp only [Bool.and_eq_true] at hk
  obtain ⟨⟨⟨k1, k2⟩, k3⟩, k4⟩ := hk
  exact anyE_front hi (Region.noSelect_spec k1) hQ (fun _ h => waits_not k4 h) n done a w (Region.free_spec hi k2) (by simpa using k3) (.inl ⟨hwd, hy⟩) hS h
theorem anyE_takeL (i : Nat) {l : List Oper} {oi : Oper} {v : Value} {n : Nat} {done : Array Bool} {a : Act} {w : World} (hi : l[i]? = some oi)
    (hk : (Region.noSelect l.toArray && Region.free md l.toArray done i && (Region.ready md l.toArray done).contains i && waits md l.toArray L i) = true)
    (hQ : ∀ c a w, Q (.panic c) (a.put oi.dst v) w → Q (.panic c) a w) (hS : S w) (hwd : Region.wanted oi (yielded l.toArray a.tmps) = true) (hy : ∀ w, S w → (execOp a.eval oi).run P w = .ok (.value v) w)
    (h : anyE P md l.toArray Q S L n (done.setIfInBounds i true) (a.put oi.dst v) w) : anyE P md l.toArray Q S L (n + 1) done a w :=
  anyE_take i (by rw [List.getElem?_toArray]; exact hi) hk hQ hS hwd hy h
/-- The same where S holds behind every operation: L lies behind them all. -/
theorem anyE_takeH (i : Nat) {l : List Oper} {oi : Oper} {v : Value} {n : Nat} {done : Array Bool} {a : Act} {w : World} (hi : l[i]? = some oi)
    (hk : (Region.noSelect l.toArray && Region.free md l.toArray done i && (Region.ready md l.toArray done).contains i && Nat.ble l.length L) = true)
    (hQ : ∀ c a w, Q (.panic c) (a.put oi.dst v) w → Q (.panic c) a w) (hS : S w) (hwd : Region.wanted oi (yielded l.toArray a.tmps) = true) (hy : ∀ w, S w → (execOp a.eval oi).run P w = .ok (.value v) w)
    (h : anyE P md l.toArray Q S L n (done.setIfInBounds i true) (a.put oi.dst v) w) : anyE P md l.toArray Q S L (n + 1) done a w := by
  simp only [Bool.and_eq_true] at hk
  obtain ⟨⟨⟨k1, k2⟩, k3⟩, k4⟩ := hk
  have hi' : l.toArray[i]? = some oi := by rw [List.getElem?_toArray]; exact hi
  refine anyE_front hi' (Region.noSelect_spec k1) hQ (fun done' _ hL => ?_) n done a w (Region.free_spec hi' k2) (by simpa using k3) (.inl ⟨hwd, hy⟩) hS h
  obtain ⟨_, o, ho, _⟩ := mem_ready.1 hL
  rw [List.getElem?_toArray, List.getElem?_eq_none (Nat.le_of_ble_eq_true k4)] at ho
  cases ho
theorem anyE_doneL {l : List Oper} {n : Nat} {done : Array Bool} {a : Act} {w : World} (hr : Region.ready md l.toArray done = []) (h : Q .normal a w) : anyE P md l.toArray Q S L n done a w := by
  cases n with
  | zero => exact ⟨hr, h⟩
  | succ n => exact ⟨fun _ => h, by rw [hr]; simp⟩
/-- One operation alone may come up next, and S holds behind it. -/
theorem anyE_one (i : Nat) {o : Oper} {n : Nat} {done : Array Bool} {a : Act} {w : World} (hr : Region.ready md ops done = [i]) (ho : ops[i]? = some o)
    (h : ∀ K : Act → World → Prop, Shut (∀ a w, S w → anyE P md ops Q S L n (done.setIfInBounds i true) a w → K a w) → if Region.wanted o (yielded ops a.tmps) = true then Oper.wp P o a w K Q else K (a.put o.dst undef) w) :
    anyE P md ops Q S L (n + 1) done a w := by
  refine ⟨fun h0 => (by rw [h0] at hr; cases hr), fun j hj => ?_⟩
  rw [hr] at hj
  obtain rfl := List.mem_singleton.1 hj
  exact wpOp_step ho fun K hK => h K (fun a w k1 k2 => hK a w ⟨fun _ => k1, k2⟩)
/-- The last operation. -/
theorem anyE_last {o : Oper} {n : Nat} {done : Array Bool} {a : Act} {w : World} (hr : Region.ready md ops done = [L]) (ho : ops[L]? = some o) (hr2 : Region.ready md ops (done.setIfInBounds L true) = [])
    (h : ∀ K : Act → World → Prop, Shut (∀ a w, Q .normal a w → K a w) → if Region.wanted o (yielded ops a.tmps) = true then Oper.wp P o a w K Q else K (a.put o.dst undef) w) :
    anyE P md ops Q S L (n + 1) done a w := by
  refine ⟨fun h0 => (by rw [h0] at hr; cases hr), fun j hj => ?_⟩
  rw [hr] at hj
  obtain rfl := List.mem_singleton.1 hj
  refine wpOp_step ho fun K hK => h K (fun a w k => hK a w ⟨fun h => absurd rfl h, ?_⟩)
  cases n with
  | zero => exact ⟨hr2, k⟩
  | succ n => exact ⟨fun _ => k, by rw [hr2]; simp⟩
theorem anyE_oneL (i : Nat) {l : List Oper} {o : Oper} {n : Nat} {done : Array Bool} {a : Act} {w : World} (hr : Region.ready md l.toArray done = [i]) (ho : l[i]? = some o)
    (h : ∀ K : Act → World → Prop, Shut (∀ a w, S w → anyE P md l.toArray Q S L n (done.setIfInBounds i true) a w → K a w) → if Region.wanted o (yielded l.toArray a.tmps) = true then Oper.wp P o a w K Q else K (a.put o.dst undef) w) :
    anyE P md l.toArray Q S L (n + 1) done a w := anyE_one i hr (by rw [List.getElem?_toArray]; exact ho) h
theorem anyE_lastL {l : List Oper} {o : Oper} {n : Nat} {done : Array Bool} {a : Act} {w : World} (hr : Region.ready md l.toArray done = [L]) (ho : l[L]? = some o) (hr2 : Region.ready md l.toArray (done.setIfInBounds L true) = [])
    (h : ∀ K : Act → World → Prop, Shut (∀ a w, Q .normal a w → K a w) → if Region.wanted o (yielded l.toArray a.tmps) = true then Oper.wp P o a w K Q else K (a.put o.dst undef) w) :
    anyE P md l.toArray Q S L (n + 1) done a w := anyE_last hr (by rw [List.getElem?_toArray]; exact ho) hr2 h
theorem region_E {id : Nat} {a : Act} {w : World} (S : World → Prop) (L : Nat) (hm : P.follows .mixedOrders = true) (hS : S w.drew)
    (h : S w.drew → anyE P .any ops Q S L ops.size (Array.replicate ops.size false) a w.drew) : (Code.region id ops true).wp P Q a w :=
  wp_region_any hm (anyE_any _ _ _ _ (h hS))
end
/-- What a new variable of two (three) cells holds in any later world. -/
theorem alc {w v : World} {a b : Value} {t : TypeId} (h : Below (w.alloc (.cells #[a, b] t)).heap.size (w.alloc (.cells #[a, b] t)) v) :
    v.cell? ⟨w.heap.size, 0, none⟩ = some a ∧ v.cell? ⟨w.heap.size, 1, none⟩ = some b ∧ v.frozen? ⟨w.heap.size, 0, none⟩ = false ∧ v.frozen? ⟨w.heap.size, 1, none⟩ = false :=
  ⟨(h.cell (by simp)).trans (by simp [go_sem]), (h.cell (by simp)).trans (by simp [go_sem]), (h.frozen (by simp)).trans (by simp [go_sem]), (h.frozen (by simp)).trans (by simp [go_sem])⟩
theorem alcD {w v : World} {a b : Value} {t : TypeId} (h : Below (w.alloc (.cells #[a, b] t)).drew.heap.size (w.alloc (.cells #[a, b] t)).drew v) :
    v.cell? ⟨w.heap.size, 0, none⟩ = some a ∧ v.cell? ⟨w.heap.size, 1, none⟩ = some b ∧ v.frozen? ⟨w.heap.size, 0, none⟩ = false ∧ v.frozen? ⟨w.heap.size, 1, none⟩ = false :=
  ⟨(h.cell (by simp)).trans (by simp [go_sem]), (h.cell (by simp)).trans (by simp [go_sem]), (h.frozen (by simp)).trans (by simp [go_sem]), (h.frozen (by simp)).trans (by simp [go_sem])⟩
theorem alc3 {w v : World} {a b c : Value} {t : TypeId} (h : Below (w.alloc (.cells #[a, b, c] t)).heap.size (w.alloc (.cells #[a, b, c] t)) v) :
    (v.cell? ⟨w.heap.size, 0, none⟩ = some a ∧ v.cell? ⟨w.heap.size, 1, none⟩ = some b ∧ v.cell? ⟨w.heap.size, 2, none⟩ = some c) ∧ v.frozen? ⟨w.heap.size, 0, none⟩ = false ∧ v.frozen? ⟨w.heap.size, 1, none⟩ = false ∧ v.frozen? ⟨w.heap.size, 2, none⟩ = false :=
  ⟨⟨(h.cell (by simp)).trans (by simp [go_sem]), (h.cell (by simp)).trans (by simp [go_sem]), (h.cell (by simp)).trans (by simp [go_sem])⟩, (h.frozen (by simp)).trans (by simp [go_sem]), (h.frozen (by simp)).trans (by simp [go_sem]), (h.frozen (by simp)).trans (by simp [go_sem])⟩
theorem alcD3 {w v : World} {a b c : Value} {t : TypeId} (h : Below (w.alloc (.cells #[a, b, c] t)).drew.heap.size (w.alloc (.cells #[a, b, c] t)).drew v) :
    (v.cell? ⟨w.heap.size, 0, none⟩ = some a ∧ v.cell? ⟨w.heap.size, 1, none⟩ = some b ∧ v.cell? ⟨w.heap.size, 2, none⟩ = some c) ∧ v.frozen? ⟨w.heap.size, 0, none⟩ = false ∧ v.frozen? ⟨w.heap.size, 1, none⟩ = false ∧ v.frozen? ⟨w.heap.size, 2, none⟩ = false :=
  ⟨⟨(h.cell (by simp)).trans (by simp [go_sem]), (h.cell (by simp)).trans (by simp [go_sem]), (h.cell (by simp)).trans (by simp [go_sem])⟩, (h.frozen (by simp)).trans (by simp [go_sem]), (h.frozen (by simp)).trans (by simp [go_sem]), (h.frozen (by simp)).trans (by simp [go_sem])⟩
end Go.Proofs.Ytpoabedlcljibaa
