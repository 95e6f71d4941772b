/- Tries of bits: what is put, taken out, all of them in their row, the longest beginning. No program is in sight. -/
import Derived.Test.YtjnccpbedffijaaBase
namespace Go.Proofs.Ytjnccpbedffijaa
set_option linter.unusedVariables false

inductive Tr
  | nil
  | node (v : Option Int) (l r : Tr)
namespace Tr
def isNil : Tr → Bool
  | nil => true
  | node _ _ _ => false
def get : Tr → List Bool → Option Int
  | nil, _ => none
  | node v l r, [] => v
  | node v l r, b :: bs => if b then r.get bs else l.get bs
def put : Tr → List Bool → Int → Tr
  | nil, [], x => node (some x) nil nil
  | nil, b :: bs, x => if b then node none nil (put nil bs x) else node none (put nil bs x) nil
  | node _ l r, [], x => node (some x) l r
  | node v l r, b :: bs, x => if b then node v l (r.put bs x) else node v (l.put bs x) r
/-- A node without anything is none. -/
def mk : Option Int → Tr → Tr → Tr
  | none, nil, nil => nil
  | v, l, r => node v l r
def del : Tr → List Bool → Tr
  | nil, _ => nil
  | node _ l r, [] => mk none l r
  | node v l r, b :: bs => if b then mk v l (r.del bs) else mk v (l.del bs) r
/-- Each node has something, or something below it. -/
def Full : Tr → Prop
  | nil => True
  | node v l r => (v ≠ none ∨ l ≠ nil ∨ r ≠ nil) ∧ l.Full ∧ r.Full
theorem get_nil (bs : List Bool) : nil.get bs = none := by cases bs <;> rfl
theorem get_put_nil : ∀ (bs cs : List Bool) (x : Int), (put nil bs x).get cs = if cs = bs then some x else none
  | [], [], x => rfl
  | [], c :: cs, x => by cases c <;> simp [put, get]
  | b :: bs, [], x => by cases b <;> simp [put, get]
  | b :: bs, c :: cs, x => by
    have ih := get_put_nil bs cs x
    cases b <;> cases c <;> simp [put, get, ih]
theorem get_put : ∀ (t : Tr) (bs cs : List Bool) (x : Int), (t.put bs x).get cs = if cs = bs then some x else t.get cs
  | nil, bs, cs, x => by rw [get_put_nil, get_nil]
  | node v l r, [], [], x => rfl
  | node v l r, [], c :: cs, x => by cases c <;> simp [put, get]
  | node v l r, b :: bs, [], x => by cases b <;> simp [put, get]
  | node v l r, b :: bs, c :: cs, x => by
    have il := get_put l bs cs x
    have ir := get_put r bs cs x
    cases b <;> cases c <;> simp [put, get, il, ir]
theorem get_mk (v : Option Int) (l r : Tr) (cs : List Bool) : (mk v l r).get cs = (node v l r).get cs := by
  cases v <;> cases l <;> cases r <;> first | rfl | (cases cs with
    | nil => rfl
    | cons c cs => cases c <;> simp [mk, get, get_nil])
theorem get_del : ∀ (t : Tr) (bs cs : List Bool), (t.del bs).get cs = if cs = bs then none else t.get cs
  | nil, bs, cs => by simp [del, get_nil]
  | node v l r, [], [] => by simp [del, get_mk, get]
  | node v l r, [], c :: cs => by cases c <;> simp [del, get_mk, get]
  | node v l r, b :: bs, [] => by cases b <;> simp [del, get_mk, get]
  | node v l r, b :: bs, c :: cs => by
    have il := get_del l bs cs
    have ir := get_del r bs cs
    cases b <;> cases c <;> simp [del, get_mk, get, il, ir]
/-- All, in their row, behind the bits p. -/
def all : Tr → List Bool → List (List Bool × Int)
  | nil, _ => []
  | node v l r, p => (match v with | none => [] | some x => [(p, x)]) ++ (l.all (p ++ [false]) ++ r.all (p ++ [true]))
theorem mem_all : ∀ (t : Tr) (p q : List Bool) (x : Int), (q, x) ∈ t.all p ↔ ∃ bs, q = p ++ bs ∧ t.get bs = some x
  | nil, p, q, x => by simp [all, get_nil]
  | node v l r, p, q, x => by
    have il := mem_all l (p ++ [false]) q x
    have ir := mem_all r (p ++ [true]) q x
    simp only [all, List.mem_append, il, ir]
    constructor
    · rintro (h | ⟨bs, rfl, h⟩ | ⟨bs, rfl, h⟩)
      · cases v with
        | none => simp at h
        | some y =>
          simp only [List.mem_singleton, Prod.mk.injEq] at h
          obtain ⟨rfl, rfl⟩ := h
          exact ⟨[], by simp, rfl⟩
      · exact ⟨false :: bs, by simp, h⟩
      · exact ⟨true :: bs, by simp, h⟩
    · rintro ⟨bs, rfl, h⟩
      match bs, h with
      | [], h =>
        have h : v = some x := h
        subst h
        exact .inl (by simp)
      | false :: bs, h => exact .inr (.inl ⟨bs, by simp, h⟩)
      | true :: bs, h => exact .inr (.inr ⟨bs, by simp, h⟩)
/-- One row of bits stands ahead of another one: it is a beginning of it, or has a 0 where that has a 1. -/
inductive Ahead : List Bool → List Bool → Prop
  | short (b : Bool) (bs : List Bool) : Ahead [] (b :: bs)
  | less (bs cs : List Bool) : Ahead (false :: bs) (true :: cs)
  | more (b : Bool) {bs cs : List Bool} : Ahead bs cs → Ahead (b :: bs) (b :: cs)
theorem Ahead.irrefl : ∀ (a : List Bool), ¬ Ahead a a
  | [], h => by cases h
  | b :: a, h => by
    cases h with
    | more _ h => exact Ahead.irrefl a h
theorem Ahead.append (p : List Bool) {a b : List Bool} (h : Ahead a b) : Ahead (p ++ a) (p ++ b) := by
  induction p with
  | nil => exact h
  | cons c p ih => exact .more c ih
theorem all_sorted : ∀ (t : Tr) (p : List Bool), (t.all p).Pairwise fun a b => Ahead a.1 b.1
  | nil, p => List.Pairwise.nil
  | node v l r, p => by
    have il := all_sorted l (p ++ [false])
    have ir := all_sorted r (p ++ [true])
    have lr : (l.all (p ++ [false]) ++ r.all (p ++ [true])).Pairwise fun a b => Ahead a.1 b.1 := by
      refine List.pairwise_append.2 ⟨il, ir, fun a ha b hb => ?_⟩
      obtain ⟨bs, e1, _⟩ := (mem_all l _ a.1 a.2).1 ha
      obtain ⟨cs, e2, _⟩ := (mem_all r _ b.1 b.2).1 hb
      rw [e1, e2, List.append_assoc, List.append_assoc]
      exact (Ahead.less bs cs).append p
    unfold all
    cases v with
    | none => exact lr
    | some x =>
      refine List.pairwise_append.2 ⟨List.pairwise_singleton _ _, lr, fun a ha b hb => ?_⟩
      obtain rfl := List.mem_singleton.1 ha
      rcases List.mem_append.1 hb with hb | hb
      · obtain ⟨cs, e2, _⟩ := (mem_all l _ b.1 b.2).1 hb
        rw [e2, List.append_assoc]
        have := (Ahead.short false cs).append p
        simpa using this
      · obtain ⟨cs, e2, _⟩ := (mem_all r _ b.1 b.2).1 hb
        rw [e2, List.append_assoc]
        have := (Ahead.short true cs).append p
        simpa using this
theorem all_none : ∀ (t : Tr) (p : List Bool), (∀ bs, t.get bs = none) → t.all p = []
  | nil, _, _ => rfl
  | node v l r, p, h => by
    have hv : v = none := h []
    subst hv
    have el := all_none l (p ++ [false]) fun bs => h (false :: bs)
    have er := all_none r (p ++ [true]) fun bs => h (true :: bs)
    show [] ++ (l.all (p ++ [false]) ++ r.all (p ++ [true])) = []
    rw [el, er]; rfl
/-- The row hangs on what is there alone. -/
theorem all_same : ∀ (t u : Tr) (p : List Bool), (∀ bs, t.get bs = u.get bs) → t.all p = u.all p
  | nil, u, p, h => (all_none u p fun bs => by rw [← h bs, get_nil]).symm
  | node v l r, nil, p, h => all_none _ p fun bs => by rw [h bs, get_nil]
  | node v l r, node v2 l2 r2, p, h => by
    have hv : v = v2 := h []
    subst hv
    have el := all_same l l2 (p ++ [false]) fun bs => h (false :: bs)
    have er := all_same r r2 (p ++ [true]) fun bs => h (true :: bs)
    unfold all
    rw [el, er]
/-- The longest beginning of some bits that is there: how long, and its number. -/
def longest : Tr → List Bool → Option (Nat × Int)
  | nil, _ => none
  | node v l r, [] => v.map fun x => (0, x)
  | node v l r, b :: bs => match (if b then r.longest bs else l.longest bs) with
    | some (n, x) => some (n + 1, x)
    | none => v.map fun x => (0, x)
theorem longest_some : ∀ (t : Tr) (bs : List Bool) (n : Nat) (x : Int), t.longest bs = some (n, x) → n ≤ bs.length ∧ t.get (bs.take n) = some x ∧ ∀ m, n < m → m ≤ bs.length → t.get (bs.take m) = none
  | nil, bs, n, x, h => by simp [longest] at h
  | node v l r, [], n, x, h => by
    simp only [longest, Option.map_eq_some_iff, Prod.mk.injEq] at h
    obtain ⟨y, rfl, rfl, rfl⟩ := h
    exact ⟨Nat.le_refl _, rfl, fun m h1 h2 => by simp at h2; omega⟩
  | node v l r, b :: bs, n, x, h => by
    have key : ∀ (s : Tr), (∀ m, (node v l r).get ((b :: bs).take (m + 1)) = s.get (bs.take m)) → (match s.longest bs with | some (n, x) => some (n + 1, x) | none => v.map fun x => (0, x)) = some (n, x) →
        (∀ n x, s.longest bs = some (n, x) → n ≤ bs.length ∧ s.get (bs.take n) = some x ∧ ∀ m, n < m → m ≤ bs.length → s.get (bs.take m) = none) → (s.longest bs = none → ∀ m, m ≤ bs.length → s.get (bs.take m) = none) →
        n ≤ (b :: bs).length ∧ (node v l r).get ((b :: bs).take n) = some x ∧ ∀ m, n < m → m ≤ (b :: bs).length → (node v l r).get ((b :: bs).take m) = none := by
      intro s hs h h1 h2
      cases e : s.longest bs with
      | some y =>
        obtain ⟨k, z⟩ := y
        rw [e] at h
        simp only [Option.some.injEq, Prod.mk.injEq] at h
        obtain ⟨rfl, rfl⟩ := h
        obtain ⟨q1, q2, q3⟩ := h1 k z e
        refine ⟨by simp; omega, by rw [hs]; exact q2, fun m h3 h4 => ?_⟩
        obtain ⟨m, rfl⟩ : ∃ j, m = j + 1 := ⟨m - 1, by omega⟩
        rw [hs]
        exact q3 m (by omega) (by simpa using h4)
      | none =>
        rw [e] at h
        simp only [Option.map_eq_some_iff, Prod.mk.injEq] at h
        obtain ⟨y, rfl, rfl, rfl⟩ := h
        refine ⟨Nat.zero_le _, rfl, fun m h3 h4 => ?_⟩
        obtain ⟨m, rfl⟩ : ∃ j, m = j + 1 := ⟨m - 1, by omega⟩
        rw [hs]
        exact h2 e m (by simpa using h4)
    cases b with
    | false => exact key l (fun m => rfl) h (fun n x => longest_some l bs n x) (longest_none l bs)
    | true => exact key r (fun m => rfl) h (fun n x => longest_some r bs n x) (longest_none r bs)
where longest_none : ∀ (t : Tr) (bs : List Bool), t.longest bs = none → ∀ m, m ≤ bs.length → t.get (bs.take m) = none
  | nil, bs, _, m, _ => get_nil _
  | node v l r, [], h, m, hm => by
    simp only [longest, Option.map_eq_none_iff] at h
    subst h
    simp at hm
    subst hm
    rfl
  | node v l r, b :: bs, h, m, hm => by
    cases m with
    | zero =>
      show v = none
      cases b <;> (simp only [longest] at h; split at h <;> simp_all)
    | succ m =>
      have h2 : m ≤ bs.length := by simpa using hm
      cases b with
      | false =>
        refine longest_none l bs ?_ m h2
        simp only [longest, Bool.false_eq_true, if_false] at h
        cases e : l.longest bs with
        | none => rfl
        | some y => rw [e] at h; cases h
      | true =>
        refine longest_none r bs ?_ m h2
        simp only [longest, if_true] at h
        cases e : r.longest bs with
        | none => rfl
        | some y => rw [e] at h; cases h
/-- How many. -/
def count : Tr → Nat
  | nil => 0
  | node v l r => (if v = none then 0 else 1) + l.count + r.count
theorem all_length : ∀ (t : Tr) (p : List Bool), (t.all p).length = t.count
  | nil, _ => rfl
  | node v l r, p => by
    have il := all_length l (p ++ [false])
    have ir := all_length r (p ++ [true])
    cases v <;> simp [all, count, il, ir] <;> omega
theorem full_nil {t : Tr} (h : t.Full) (e : ∀ bs, t.get bs = none) : t = nil := by
  induction t with
  | nil => rfl
  | node v l r il ir =>
    obtain ⟨h1, h2, h3⟩ := h
    have hv : v = none := e []
    have hl := il h2 fun bs => e (false :: bs)
    have hr := ir h3 fun bs => e (true :: bs)
    subst hv hl hr
    rcases h1 with h1 | h1 | h1 <;> exact absurd rfl h1
theorem full_mk {v : Option Int} {l r : Tr} (hl : l.Full) (hr : r.Full) : (mk v l r).Full := by
  cases v <;> cases l <;> cases r <;> first | trivial | exact ⟨by simp, hl, hr⟩
theorem put_ne (t : Tr) (bs : List Bool) (x : Int) : t.put bs x ≠ nil := by
  intro e
  have := get_put t bs bs x
  rw [e, get_nil, if_pos rfl] at this
  cases this
theorem full_put : ∀ (t : Tr) (bs : List Bool) (x : Int), t.Full → (t.put bs x).Full
  | nil, [], x, _ => ⟨.inl (by simp), trivial, trivial⟩
  | nil, b :: bs, x, h => by
    have i := full_put nil bs x trivial
    have n := put_ne nil bs x
    cases b
    · exact ⟨.inr (.inl n), i, trivial⟩
    · exact ⟨.inr (.inr n), trivial, i⟩
  | node v l r, [], x, h => ⟨.inl (by simp), h.2.1, h.2.2⟩
  | node v l r, b :: bs, x, h => by
    cases b
    · exact ⟨.inr (.inl (put_ne _ _ _)), full_put l bs x h.2.1, h.2.2⟩
    · exact ⟨.inr (.inr (put_ne _ _ _)), h.2.1, full_put r bs x h.2.2⟩
theorem full_del : ∀ (t : Tr) (bs : List Bool), t.Full → (t.del bs).Full
  | nil, bs, _ => trivial
  | node v l r, [], h => full_mk h.2.1 h.2.2
  | node v l r, b :: bs, h => by
    cases b
    · exact full_mk (full_del l bs h.2.1) h.2.2
    · exact full_mk h.2.1 (full_del r bs h.2.2)
end Tr
end Go.Proofs.Ytjnccpbedffijaa
