/- Package graph: parse nodes, where they go on, and how many nodes a longest way has. No program is in sight. -/
import Derived.Test.YtilebacnjagneaaBase
namespace Go.Proofs.Ytilebacnjagneaa
set_option linter.unusedVariables false

structure NodV where
  id : Int
  size : Int
  lo : Int
  lw : Int
  lu : Int
  so : Int
  sw : Int
  arms : List (Int × Int)
  oth : Int
/-- Where a node goes on. -/
def NodV.goes (x : NodV) : List Int := x.arms.map Prod.snd ++ [x.oth]
/-- The first node of an ID. -/
def nodeG : List NodV → Int → Option NodV
  | [], _ => none
  | x :: l, id => if x.id = id then some x else nodeG l id
theorem nodeG_mem : ∀ {l : List NodV} {id : Int} {x : NodV}, nodeG l id = some x → x ∈ l ∧ x.id = id
  | [], _, _, h => by cases h
  | y :: l, id, x, h => by
    unfold nodeG at h
    split at h
    · rename_i e
      cases h
      exact ⟨.head _, e⟩
    · have := nodeG_mem h
      exact ⟨.tail _ this.1, this.2⟩
theorem nodeG_none : ∀ {l : List NodV} {id : Int}, nodeG l id = none ↔ ∀ x ∈ l, x.id ≠ id
  | [], _ => by simp [nodeG]
  | y :: l, id => by
    unfold nodeG
    split
    · rename_i e
      simp [e]
    · rename_i e
      rw [nodeG_none (l := l)]
      simp [e]
theorem nodeG_append : ∀ (a b : List NodV) (id : Int), nodeG (a ++ b) id = match nodeG a id with | some x => some x | none => nodeG b id
  | [], b, id => rfl
  | y :: a, b, id => by
    simp only [List.cons_append, nodeG]
    split
    · rfl
    · exact nodeG_append a b id

/-! ### How long a longest way is -/
def maxG (g : Int → Option Nat) : List Int → Option Nat
  | [] => some 0
  | y :: l => match g y, maxG g l with
    | some a, some b => some (max a b)
    | _, _ => none
def depF (L : List NodV) : Nat → Int → Option Nat
  | 0, _ => none
  | f + 1, id => match nodeG L id with
    | none => some 0
    | some x => (maxG (depF L f) x.goes).map (· + 1)
def Dep (L : List NodV) (id : Int) (n : Nat) : Prop := ∃ f, depF L f id = some n
def MaxDep (L : List NodV) (l : List Int) (n : Nat) : Prop := ∃ f, maxG (depF L f) l = some n
theorem maxG_cons {g : Int → Option Nat} {y : Int} {l : List Int} {n : Nat} (h : maxG g (y :: l) = some n) : ∃ a b, g y = some a ∧ maxG g l = some b ∧ n = max a b := by
  unfold maxG at h
  split at h
  · rename_i a b h1 h2
    exact ⟨a, b, h1, h2, by injection h with h; exact h.symm⟩
  · cases h
theorem maxG_mono {g g' : Int → Option Nat} (hg : ∀ y n, g y = some n → g' y = some n) : ∀ (l : List Int) (n : Nat), maxG g l = some n → maxG g' l = some n
  | [], n, h => h
  | y :: l, n, h => by
    obtain ⟨a, b, h1, h2, rfl⟩ := maxG_cons h
    unfold maxG
    rw [hg _ _ h1, maxG_mono hg l b h2]
theorem maxG_append {g : Int → Option Nat} : ∀ (l m : List Int) (a b : Nat), maxG g l = some a → maxG g m = some b → maxG g (l ++ m) = some (max a b)
  | [], m, a, b, h1, h2 => by
    cases h1
    rw [List.nil_append, h2, Nat.max_eq_right (Nat.zero_le _)]
  | y :: l, m, a, b, h1, h2 => by
    obtain ⟨c, d, k1, k2, rfl⟩ := maxG_cons h1
    rw [List.cons_append]
    unfold maxG
    rw [k1, maxG_append l m d b k2 h2]
    simp only [Option.some.injEq]
    omega
theorem maxG_each {g : Int → Option Nat} : ∀ (l : List Int) (n : Nat), maxG g l = some n → ∀ y ∈ l, ∃ k, k ≤ n ∧ g y = some k
  | [], n, h, y, hy => by cases hy
  | z :: l, n, h, y, hy => by
    obtain ⟨c, d, k1, k2, rfl⟩ := maxG_cons h
    rcases List.mem_cons.1 hy with rfl | hy
    · exact ⟨c, by omega, k1⟩
    · obtain ⟨k, h1, h2⟩ := maxG_each l d k2 y hy
      exact ⟨k, by omega, h2⟩
theorem maxG_one {g : Int → Option Nat} : ∀ (l : List Int) (n : Nat), maxG g l = some n → n = 0 ∨ ∃ y ∈ l, g y = some n
  | [], n, h => by cases h; exact .inl rfl
  | z :: l, n, h => by
    obtain ⟨c, d, k1, k2, rfl⟩ := maxG_cons h
    by_cases q : d ≤ c
    · rw [Nat.max_eq_left q]
      exact .inr ⟨z, .head _, k1⟩
    · rw [Nat.max_eq_right (by omega)]
      rcases maxG_one l d k2 with e | ⟨y, hy, e⟩
      · omega
      · exact .inr ⟨y, .tail _ hy, e⟩
theorem depF_step {L : List NodV} : ∀ (f : Nat) (id : Int) (n : Nat), depF L f id = some n → depF L (f + 1) id = some n
  | 0, id, n, h => by cases h
  | f + 1, id, n, h => by
    unfold depF at h ⊢
    cases q : nodeG L id with
    | none => rw [q] at h; exact h
    | some x =>
      rw [q] at h
      dsimp only at h ⊢
      cases k : maxG (depF L f) x.goes with
      | none => rw [k] at h; cases h
      | some m =>
        rw [k] at h
        rw [maxG_mono (g' := depF L (f + 1)) (fun y n h => depF_step f y n h) _ _ k]
        exact h
theorem depF_le {L : List NodV} {f g : Nat} (h : f ≤ g) {id : Int} {n : Nat} (k : depF L f id = some n) : depF L g id = some n := by
  induction h with
  | refl => exact k
  | step _ ih => exact depF_step _ _ _ ih
theorem Dep.unique {L : List NodV} {id : Int} {n m : Nat} (h : Dep L id n) (k : Dep L id m) : n = m := by
  obtain ⟨f, h⟩ := h
  obtain ⟨g, k⟩ := k
  have h1 := depF_le (Nat.le_max_left f g) h
  have h2 := depF_le (Nat.le_max_right f g) k
  rw [h1] at h2
  injection h2
theorem Dep.none {L : List NodV} {id : Int} (h : nodeG L id = none) : Dep L id 0 := ⟨1, by unfold depF; rw [h]⟩
theorem Dep.some {L : List NodV} {id : Int} {x : NodV} {n : Nat} (h : nodeG L id = some x) (k : MaxDep L x.goes n) : Dep L id (n + 1) := by
  obtain ⟨f, k⟩ := k
  exact ⟨f + 1, by unfold depF; rw [h]; simp [k]⟩
theorem MaxDep.nil (L : List NodV) : MaxDep L [] 0 := ⟨0, rfl⟩
theorem MaxDep.snoc {L : List NodV} {l : List Int} {y : Int} {a b : Nat} (h : MaxDep L l a) (k : Dep L y b) : MaxDep L (l ++ [y]) (max a b) := by
  obtain ⟨f, h⟩ := h
  obtain ⟨g, k⟩ := k
  refine ⟨max f g, maxG_append _ _ _ _ (maxG_mono (fun y n h => depF_le (Nat.le_max_left f g) h) _ _ h) ?_⟩
  have := depF_le (Nat.le_max_right f g) k
  show (match depF L (max f g) y, Option.some 0 with | Option.some a, Option.some b => Option.some (max a b) | _, _ => Option.none) = _
  rw [this]
  simp
theorem Dep.inv {L : List NodV} {id : Int} {n : Nat} (h : Dep L id n) : (nodeG L id = Option.none ∧ n = 0) ∨ ∃ x m, nodeG L id = Option.some x ∧ n = m + 1 ∧ MaxDep L x.goes m := by
  obtain ⟨f, h⟩ := h
  cases f with
  | zero => cases h
  | succ f =>
    unfold depF at h
    cases q : nodeG L id with
    | none => rw [q] at h; cases h; exact .inl ⟨rfl, rfl⟩
    | some x =>
      rw [q] at h
      dsimp only at h
      cases k : maxG (depF L f) x.goes with
      | none => rw [k] at h; cases h
      | some m =>
        rw [k] at h
        cases h
        exact .inr ⟨x, m, rfl, rfl, f, k⟩
theorem MaxDep.each {L : List NodV} {l : List Int} {n : Nat} (h : MaxDep L l n) : ∀ y ∈ l, ∃ k, k ≤ n ∧ Dep L y k := fun y hy => by
  obtain ⟨f, h⟩ := h
  obtain ⟨k, h1, h2⟩ := maxG_each l n h y hy
  exact ⟨k, h1, f, h2⟩
theorem MaxDep.one {L : List NodV} {l : List Int} {n : Nat} (h : MaxDep L l n) : n = 0 ∨ ∃ y ∈ l, Dep L y n := by
  obtain ⟨f, h⟩ := h
  rcases maxG_one l n h with e | ⟨y, hy, e⟩
  · exact .inl e
  · exact .inr ⟨y, hy, f, e⟩
theorem Dep.next {L : List NodV} {id : Int} {n : Nat} {x : NodV} (h : Dep L id n) (hx : nodeG L id = Option.some x) {y : Int} (hy : y ∈ x.goes) : ∃ k, k < n ∧ Dep L y k := by
  rcases h.inv with ⟨e, _⟩ | ⟨z, m, e, rfl, hm⟩
  · rw [e] at hx; cases hx
  · rw [e] at hx
    cases hx
    obtain ⟨k, h1, h2⟩ := hm.each y hy
    exact ⟨k, by omega, h2⟩
/-- To come from a node to an ID, by one step or more. -/
inductive RunsTo (L : List NodV) : Int → Int → Prop
  | one {a b : Int} {x : NodV} (h : nodeG L a = some x) (k : b ∈ x.goes) : RunsTo L a b
  | more {a b c : Int} {x : NodV} (r : RunsTo L a b) (h : nodeG L b = some x) (k : c ∈ x.goes) : RunsTo L a c
theorem RunsTo.dep {L : List NodV} {a b : Int} (r : RunsTo L a b) : ∀ n, Dep L a n → ∃ k, k < n ∧ Dep L b k := by
  induction r with
  | one h k => intro n hn; exact hn.next h k
  | more r h k ih =>
    intro n hn
    obtain ⟨m, h1, h2⟩ := ih n hn
    obtain ⟨m2, h3, h4⟩ := h2.next h k
    exact ⟨m2, by omega, h4⟩
theorem RunsTo.ring {L : List NodV} {a : Int} (r : RunsTo L a a) (n : Nat) : ¬ Dep L a n := fun h => by
  obtain ⟨k, h1, h2⟩ := r.dep n h
  have := h.unique h2
  omega

/-! ### A longest way has no more nodes than there are -/
theorem filter_less {α : Type} {p q : α → Bool} (h : ∀ x, p x = true → q x = true) : ∀ (l : List α), (l.filter p).length ≤ (l.filter q).length
  | [] => Nat.le_refl _
  | x :: l => by
    have ih := filter_less h l
    rw [List.filter_cons, List.filter_cons]
    cases c : p x with
    | true => rw [h x c]; simp only [if_true, List.length_cons]; omega
    | false =>
      cases d : q x with
      | true => simp only [if_true, Bool.false_eq_true, if_false, List.length_cons]; omega
      | false => simpa using ih
theorem filter_fewer {α : Type} {p q : α → Bool} (h : ∀ x, p x = true → q x = true) : ∀ (l : List α) (x : α), x ∈ l → p x = false → q x = true → (l.filter p).length < (l.filter q).length
  | [], _, hx, _, _ => by cases hx
  | y :: l, x, hx, h1, h2 => by
    rw [List.filter_cons, List.filter_cons]
    rcases List.mem_cons.1 hx with rfl | hx
    · rw [h1, h2]
      have := filter_less h l
      simp only [if_true, Bool.false_eq_true, if_false, List.length_cons]; omega
    · have ih := filter_fewer h l x hx h1 h2
      cases c : p y with
      | true => rw [h y c]; simp only [if_true, List.length_cons]; omega
      | false =>
        cases d : q y with
        | true => simp only [if_true, Bool.false_eq_true, if_false, List.length_cons]; omega
        | false => simpa using ih
open Classical in
noncomputable def lowG (L : List NodV) (n : Nat) (x : NodV) : Bool := decide (∃ k, k ≤ n ∧ Dep L x.id k)
open Classical in
theorem lowG_iff {L : List NodV} {n : Nat} {x : NodV} : lowG L n x = true ↔ ∃ k, k ≤ n ∧ Dep L x.id k := by unfold lowG; exact decide_eq_true_iff
theorem dep_count {L : List NodV} : ∀ (n : Nat) (id : Int), Dep L id n → n ≤ (L.filter (lowG L n)).length := by
  intro n
  induction n with
  | zero => intro id h; exact Nat.zero_le _
  | succ n ih =>
    intro id h
    have hup : ∀ x, lowG L n x = true → lowG L (n + 1) x = true := fun x hx => by
      obtain ⟨k, h1, h2⟩ := lowG_iff.1 hx
      exact lowG_iff.2 ⟨k, by omega, h2⟩
    rcases h.inv with ⟨_, e⟩ | ⟨x, m, hx, e, hm⟩
    · omega
    · obtain rfl : n = m := by omega
      obtain ⟨mx, hid⟩ := nodeG_mem hx
      subst hid
      have lt := filter_fewer hup L x mx (Bool.eq_false_iff.2 fun q => by
        obtain ⟨k, h1, h2⟩ := lowG_iff.1 q
        have := h.unique h2
        omega) (lowG_iff.2 ⟨n + 1, Nat.le_refl _, h⟩)
      rcases hm.one with rfl | ⟨y, _, hy⟩
      · omega
      · have := ih y hy
        omega
theorem Dep.le {L : List NodV} {id : Int} {n : Nat} (h : Dep L id n) : n ≤ L.length := Nat.le_trans (dep_count n id h) (List.length_filter_le _ _)

/-! ### The form of a node, and of nodes -/
def riseAG (w : Nat) : Int → List (Int × Int) → Bool
  | _, [] => true
  | p, (v, _) :: l => decide (v < (2 : Int) ^ w) && decide (p < v) && riseAG w v l
def lastAG : Int → List (Int × Int) → Int
  | p, [] => p
  | _, (v, _) :: l => lastAG v l
theorem riseAG_append (w : Nat) : ∀ (a b : List (Int × Int)) (p : Int), riseAG w p (a ++ b) = (riseAG w p a && riseAG w (lastAG p a) b)
  | [], b, p => by simp [riseAG, lastAG]
  | (v, n) :: a, b, p => by
    simp only [List.cons_append, riseAG, lastAG, riseAG_append w a b v, Bool.and_assoc]
theorem lastAG_snoc : ∀ (a : List (Int × Int)) (p : Int) (x : Int × Int), lastAG p (a ++ [x]) = x.1
  | [], p, (v, n) => rfl
  | (v, n) :: a, p, x => by simp only [List.cons_append, lastAG, lastAG_snoc a v x]
def lenF (x : NodV) : Bool := if x.lw = 0 then decide (x.lo = 0) && decide (x.lu = 0) else decide (1 ≤ x.lw) && decide (x.lw ≤ 16) && decide (1 ≤ x.lu) && decide (x.lu ≤ 256) && decide (0 ≤ x.lo) && decide (x.lo ≤ 2048)
def selF (x : NodV) : Bool := if x.sw = 0 then decide (x.so = 0) && decide (x.arms.length = 0) else decide (1 ≤ x.sw) && decide (x.sw ≤ 32) && decide (0 ≤ x.so) && decide (x.so ≤ 2048) && decide (x.arms.length ≤ 32) && riseAG x.sw.toNat (-1) x.arms
def nextF (x : NodV) : Bool := x.goes.all fun n => decide (0 ≤ n) && decide (n ≤ 65535)
def formG (x : NodV) : Bool := decide (1 ≤ x.id) && decide (x.id ≤ 65534) && decide (0 ≤ x.size) && decide (x.size ≤ 256) && lenF x && selF x && nextF x
def formsG : Int → List NodV → Bool
  | _, [] => true
  | p, x :: l => formG x && decide (p < x.id) && formsG x.id l
def lastNG : Int → List NodV → Int
  | p, [] => p
  | _, x :: l => lastNG x.id l
theorem formsG_append : ∀ (a b : List NodV) (p : Int), formsG p (a ++ b) = (formsG p a && formsG (lastNG p a) b)
  | [], b, p => by simp [formsG, lastNG]
  | x :: a, b, p => by simp only [List.cons_append, formsG, lastNG, formsG_append a b x.id, Bool.and_assoc]
theorem lastNG_snoc : ∀ (a : List NodV) (p : Int) (x : NodV), lastNG p (a ++ [x]) = x.id
  | [], p, x => rfl
  | y :: a, p, x => by simp only [List.cons_append, lastNG, lastNG_snoc a y.id x]
theorem formsG_mem : ∀ {l : List NodV} {p : Int}, formsG p l = true → ∀ x ∈ l, formG x = true ∧ p < x.id
  | [], _, _, x, hx => by cases hx
  | y :: l, p, h, x, hx => by
    simp only [formsG, Bool.and_eq_true, decide_eq_true_eq] at h
    rcases List.mem_cons.1 hx with rfl | hx
    · exact ⟨h.1.1, h.1.2⟩
    · have := formsG_mem h.2 x hx
      exact ⟨this.1, by omega⟩
def SortedG (l : List NodV) : Prop := l.Pairwise fun x y => x.id < y.id
theorem formsG_sorted : ∀ {l : List NodV} {p : Int}, formsG p l = true → SortedG l
  | [], _, _ => .nil
  | y :: l, p, h => by
    simp only [formsG, Bool.and_eq_true, decide_eq_true_eq] at h
    exact List.pairwise_cons.2 ⟨fun x hx => (formsG_mem h.2 x hx).2, formsG_sorted h.2⟩
theorem formsG_of : ∀ {l : List NodV} {p : Int}, SortedG l → (∀ x ∈ l, formG x = true ∧ p < x.id) → formsG p l = true
  | [], _, _, _ => rfl
  | y :: l, p, h, k => by
    have h := List.pairwise_cons.1 h
    simp only [formsG, Bool.and_eq_true, decide_eq_true_eq]
    exact ⟨⟨(k y (.head _)).1, (k y (.head _)).2⟩, formsG_of h.2 fun x hx => ⟨(k x (.tail _ hx)).1, h.1 x hx⟩⟩
theorem formG_id {x : NodV} (h : formG x = true) : 1 ≤ x.id ∧ x.id ≤ 65534 := by
  simp only [formG, Bool.and_eq_true, decide_eq_true_eq] at h
  exact ⟨h.1.1.1.1.1.1, h.1.1.1.1.1.2⟩
theorem formG_next {x : NodV} (h : formG x = true) : ∀ y ∈ x.goes, 0 ≤ y ∧ y ≤ 65535 := by
  simp only [formG, Bool.and_eq_true] at h
  intro y hy
  have := List.all_eq_true.1 h.2 y hy
  simpa using this
theorem formG_arms {x : NodV} (h : formG x = true) : x.arms.length ≤ 32 := by
  simp only [formG, Bool.and_eq_true] at h
  have := h.1.2
  unfold selF at this
  split at this
  · simp only [Bool.and_eq_true, decide_eq_true_eq] at this; omega
  · simp only [Bool.and_eq_true, decide_eq_true_eq] at this; omega
theorem SortedG.eq : ∀ {l : List NodV}, SortedG l → ∀ x ∈ l, ∀ y ∈ l, x.id = y.id → x = y
  | [], _, x, hx, _, _, _ => by cases hx
  | z :: l, h, x, hx, y, hy, e => by
    have h := List.pairwise_cons.1 h
    rcases List.mem_cons.1 hx with e1 | hx <;> rcases List.mem_cons.1 hy with e2 | hy
    · rw [e1, e2]
    · have := h.1 y hy; rw [e1] at e; omega
    · have := h.1 x hx; rw [e2] at e; omega
    · exact SortedG.eq h.2 x hx y hy e
theorem SortedG.find {l : List NodV} (h : SortedG l) {x : NodV} (hx : x ∈ l) : nodeG l x.id = some x := by
  cases q : nodeG l x.id with
  | none => exact absurd rfl (nodeG_none.1 q x hx)
  | some y =>
    have := nodeG_mem q
    rw [h.eq y this.1 x hx this.2]

/-! ### What a graph may be -/
/-- Does every node go on to nodes that are there, or out? -/
def toldG (L : List NodV) : Bool := L.all fun x => x.goes.all fun y => decide (y = 0) || decide (y = 65535) || (nodeG L y).isSome
def Acyc (L : List NodV) : Prop := ∀ x ∈ L, ∃ n, Dep L x.id n
structure Valid (L : List NodV) : Prop where
  form : formsG 0 L = true
  few : L.length ≤ 32
  told : toldG L = true
  acyc : Acyc L
open Classical in
noncomputable def mayG (L : List NodV) : Int := if formsG 0 L = false then 3 else if 32 < L.length then 12 else if toldG L = false then 8 else if Acyc L then 0 else 10
theorem mayG_form {L : List NodV} (h : formsG 0 L = false) : mayG L = 3 := by unfold mayG; rw [if_pos h]
theorem mayG_full {L : List NodV} (h : formsG 0 L = true) (k : 32 < L.length) : mayG L = 12 := by unfold mayG; rw [if_neg (by rw [h]; simp), if_pos k]
theorem mayG_ref {L : List NodV} (h : formsG 0 L = true) (k : L.length ≤ 32) (r : toldG L = false) : mayG L = 8 := by unfold mayG; rw [if_neg (by rw [h]; simp), if_neg (by omega), if_pos r]
theorem mayG_ring {L : List NodV} (h : formsG 0 L = true) (k : L.length ≤ 32) (r : toldG L = true) (a : ¬ Acyc L) : mayG L = 10 := by unfold mayG; rw [if_neg (by rw [h]; simp), if_neg (by omega), if_neg (by rw [r]; simp), if_neg a]
theorem Valid.may {L : List NodV} (h : Valid L) : mayG L = 0 := by
  have := h.few
  unfold mayG; rw [if_neg (by rw [h.form]; simp), if_neg (by omega), if_neg (by rw [h.told]; simp), if_pos h.acyc]
theorem valid_of {L : List NodV} (h : mayG L = 0) : Valid L := by
  unfold mayG at h
  split at h
  · omega
  · split at h
    · omega
    · split at h
      · omega
      · split at h
        · rename_i a b c d
          exact ⟨by simpa using a, by omega, by simpa using c, d⟩
        · omega
theorem Acyc.dep {L : List NodV} (h : Acyc L) (id : Int) : ∃ n, Dep L id n := by
  cases q : nodeG L id with
  | none => exact ⟨0, Dep.none q⟩
  | some x =>
    obtain ⟨m, e⟩ := nodeG_mem q
    rw [← e]
    exact h x m
/-- What Longest answers. -/
def LongG (L : List NodV) (n : Nat) : Prop := (mayG L = 0 ∧ Dep L 1 n) ∨ (mayG L ≠ 0 ∧ n = 0)
theorem long_some (L : List NodV) : ∃ n, LongG L n := by
  by_cases h : mayG L = 0
  · obtain ⟨n, hn⟩ := (valid_of h).acyc.dep 1
    exact ⟨n, .inl ⟨h, hn⟩⟩
  · exact ⟨0, .inr ⟨h, rfl⟩⟩
theorem LongG.unique {L : List NodV} {n m : Nat} (h : LongG L n) (k : LongG L m) : n = m := by
  rcases h with ⟨a, b⟩ | ⟨a, b⟩ <;> rcases k with ⟨c, d⟩ | ⟨c, d⟩
  · exact b.unique d
  · exact absurd a c
  · exact absurd c a
  · omega
/-- Where a node goes on by a number. -/
def pickA (v : Int) (oth : Int) : List (Int × Int) → Int
  | [] => oth
  | (u, n) :: l => if u = v then n else pickA v oth l
def nextG (L : List NodV) (id v : Int) : Int := match nodeG L id with
  | none => 0
  | some x => pickA v x.oth x.arms
theorem pickA_mem (v oth : Int) : ∀ l : List (Int × Int), pickA v oth l ∈ l.map Prod.snd ++ [oth]
  | [] => by simp [pickA]
  | (u, n) :: l => by
    unfold pickA
    split
    · simp
    · have := pickA_mem v oth l
      simp only [List.map_cons, List.cons_append, List.mem_cons]
      exact .inr this
theorem nextG_goes {L : List NodV} {id v : Int} {x : NodV} (h : nodeG L id = some x) : nextG L id v ∈ x.goes := by
  unfold nextG
  rw [h]
  exact pickA_mem v x.oth x.arms

end Go.Proofs.Ytilebacnjagneaa
