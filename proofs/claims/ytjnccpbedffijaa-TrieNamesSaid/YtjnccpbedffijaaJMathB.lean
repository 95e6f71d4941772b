/- Tries of bits: how deep, how many, what is taken out on a way. No program is in sight. -/
import Derived.Test.YtjnccpbedffijaaJMath
namespace Go.Proofs.Ytjnccpbedffijaa
set_option linter.unusedVariables false
namespace Tr
/-- Less than n bits on each way. -/
def Lim : Tr → Nat → Prop
  | nil, _ => True
  | node _ l r, n => ∃ m, n = m + 1 ∧ l.Lim m ∧ r.Lim m
theorem lim_put : ∀ (t : Tr) (bs : List Bool) (x : Int) (n : Nat), t.Lim n → bs.length < n → (t.put bs x).Lim n
  | nil, [], x, n, _, h => ⟨n - 1, by simp at h; omega, trivial, trivial⟩
  | nil, b :: bs, x, n, _, h => by
    have k := lim_put nil bs x (n - 1) trivial (by simp at h; omega)
    cases b
    · exact ⟨n - 1, by simp at h; omega, k, trivial⟩
    · exact ⟨n - 1, by simp at h; omega, trivial, k⟩
  | node v l r, [], x, n, h, _ => h
  | node v l r, b :: bs, x, n, ⟨m, e, h1, h2⟩, h => by
    simp only [List.length_cons] at h
    cases b
    · exact ⟨m, e, lim_put l bs x m h1 (by omega), h2⟩
    · exact ⟨m, e, h1, lim_put r bs x m h2 (by omega)⟩
theorem lim_mk {v : Option Int} {l r : Tr} {m : Nat} (h1 : l.Lim m) (h2 : r.Lim m) : (mk v l r).Lim (m + 1) := by
  cases v <;> cases l <;> cases r <;> first | trivial | exact ⟨m, rfl, h1, h2⟩
theorem lim_get : ∀ (t : Tr) (n : Nat) (bs : List Bool), t.Lim n → n ≤ bs.length → t.get bs = none
  | nil, n, bs, _, _ => get_nil bs
  | node v l r, n, [], ⟨m, e, _, _⟩, h => by simp at h; omega
  | node v l r, n, b :: bs, ⟨m, e, h1, h2⟩, h => by
    simp only [List.length_cons] at h
    cases b
    · exact lim_get l m bs h1 (by omega)
    · exact lim_get r m bs h2 (by omega)
theorem count_same (t u : Tr) (h : ∀ bs, t.get bs = u.get bs) : t.count = u.count := by
  rw [← all_length t [], ← all_length u [], all_same t u [] h]
theorem count_put : ∀ (t : Tr) (bs : List Bool) (x : Int), (t.put bs x).count = t.count + (if t.get bs = none then 1 else 0)
  | nil, [], x => rfl
  | nil, b :: bs, x => by
    have k := count_put nil bs x
    rw [get_nil] at k
    rw [get_nil]
    cases b <;> simp [put, count] at k ⊢ <;> omega
  | node v l r, [], x => by cases v <;> simp [put, count, get] <;> omega
  | node v l r, b :: bs, x => by
    have k1 := count_put l bs x
    have k2 := count_put r bs x
    cases b <;> simp only [put, count, get, if_true, Bool.false_eq_true, if_false] <;> omega
theorem count_mk (v : Option Int) (l r : Tr) : (mk v l r).count = (node v l r).count := count_same _ _ fun bs => get_mk v l r bs
theorem count_del : ∀ (t : Tr) (bs : List Bool), (t.del bs).count + (if t.get bs = none then 0 else 1) = t.count
  | nil, bs => by simp [get_nil, del]
  | node v l r, [] => by
    show (mk none l r).count + _ = _
    rw [count_mk]
    cases v <;> simp [count, get] <;> omega
  | node v l r, b :: bs => by
    have k1 := count_del l bs
    have k2 := count_del r bs
    cases b
    · show (mk v (l.del bs) r).count + (if l.get bs = none then 0 else 1) = _
      rw [count_mk]
      simp only [count]; omega
    · show (mk v l (r.del bs)).count + (if r.get bs = none then 0 else 1) = _
      rw [count_mk]
      simp only [count]; omega
theorem count_pos {t : Tr} {bs : List Bool} {x : Int} (h : t.get bs = some x) : 1 ≤ t.count := by
  have := count_del t bs
  rw [h] at this
  simp at this; omega
/-- Without what has become empty on a way. -/
def clean : Tr → Tr
  | nil => nil
  | node v l r => mk v l r
def prune : Tr → List Bool → Tr
  | nil, _ => nil
  | node v l r, [] => node v l r
  | node v l r, b :: bs => if b then node v l (r.prune bs).clean else node v (l.prune bs).clean r
theorem get_clean (t : Tr) (cs : List Bool) : t.clean.get cs = t.get cs := by
  cases t
  · rfl
  · exact get_mk _ _ _ _
theorem get_prune : ∀ (t : Tr) (bs cs : List Bool), (t.prune bs).get cs = t.get cs
  | nil, _, _ => rfl
  | node v l r, [], _ => rfl
  | node v l r, b :: bs, [] => by cases b <;> rfl
  | node v l r, b :: bs, c :: cs => by
    have il := get_prune l bs cs
    have ir := get_prune r bs cs
    cases b <;> cases c <;> simp [prune, get, get_clean, il, ir]
theorem lim_clean {t : Tr} {n : Nat} (h : t.Lim n) : t.clean.Lim n := by
  cases t
  · exact h
  · obtain ⟨m, rfl, h1, h2⟩ := h
    exact lim_mk h1 h2
theorem lim_prune : ∀ (t : Tr) (bs : List Bool) (n : Nat), t.Lim n → (t.prune bs).Lim n
  | nil, _, _, h => h
  | node v l r, [], n, h => h
  | node v l r, b :: bs, n, ⟨m, e, h1, h2⟩ => by
    cases b
    · exact ⟨m, e, lim_clean (lim_prune l bs m h1), h2⟩
    · exact ⟨m, e, h1, lim_clean (lim_prune r bs m h2)⟩
/-- The best so far, and what is found further down. -/
def comb (k : Nat) (o best : Option (Nat × Int)) : Option (Nat × Int) :=
  match o with
  | some (n, x) => some (n + k, x)
  | none => best
def bestJ (v : Option Int) (k : Nat) (best : Option (Nat × Int)) : Option (Nat × Int) :=
  match v with
  | some x => some (k, x)
  | none => best
theorem comb_nil (k : Nat) (bs : List Bool) (best : Option (Nat × Int)) : comb k (nil.longest bs) best = best := by cases bs <;> rfl
theorem comb_end (v : Option Int) (l r : Tr) (k : Nat) (best : Option (Nat × Int)) : comb k ((node v l r).longest []) best = bestJ v k best := by
  cases v
  · rfl
  · show some (0 + k, _) = some (k, _); rw [Nat.zero_add]
theorem comb_step (v : Option Int) (l r : Tr) (b : Bool) (bs : List Bool) (k : Nat) (best : Option (Nat × Int)) :
    comb k ((node v l r).longest (b :: bs)) best = comb (k + 1) ((if b then r else l).longest bs) (bestJ v k best) := by
  have key : ∀ o : Option (Nat × Int), comb k (match o with | some (n, x) => some (n + 1, x) | none => v.map fun x => (0, x)) best = comb (k + 1) o (bestJ v k best) := by
    intro o
    cases o with
    | none =>
      cases v
      · rfl
      · show some (0 + k, _) = some (k, _); rw [Nat.zero_add]
    | some y => show some (y.1 + 1 + k, y.2) = some (y.1 + (k + 1), y.2); rw [Nat.add_assoc, Nat.add_comm 1 k]
  cases b
  · exact key _
  · exact key _
theorem longest_same (t u : Tr) (h : ∀ bs, t.get bs = u.get bs) (bs : List Bool) : t.longest bs = u.longest bs := by
  cases e : t.longest bs with
  | none =>
    have k := longest_some.longest_none t bs e
    cases f : u.longest bs with
    | none => rfl
    | some y =>
      obtain ⟨q1, q2, _⟩ := longest_some u bs y.1 y.2 f
      have := k y.1 q1
      rw [h, q2] at this; cases this
  | some y =>
    obtain ⟨p1, p2, p3⟩ := longest_some t bs y.1 y.2 e
    cases f : u.longest bs with
    | none =>
      have := longest_some.longest_none u bs f y.1 p1
      rw [← h, p2] at this; cases this
    | some z =>
      obtain ⟨q1, q2, q3⟩ := longest_some u bs z.1 z.2 f
      rcases Nat.lt_trichotomy y.1 z.1 with c | c | c
      · have := p3 z.1 c q1
        rw [h, q2] at this; cases this
      · rw [← c, ← h, p2] at q2
        have e2 : y.2 = z.2 := by injection q2
        show some (y.1, y.2) = some (z.1, z.2)
        rw [c, e2]
      · have := q3 y.1 c p1
        rw [← h, p2] at this; cases this
/-- What is the longest one, if it is there, and no longer one is. -/
theorem longest_is {t : Tr} {bs : List Bool} {n : Nat} {x : Int} (h1 : n ≤ bs.length) (h2 : t.get (bs.take n) = some x) (h3 : ∀ m, n < m → m ≤ bs.length → t.get (bs.take m) = none) : t.longest bs = some (n, x) := by
  cases e : t.longest bs with
  | none =>
    have := longest_some.longest_none t bs e n h1
    rw [h2] at this; cases this
  | some y =>
    obtain ⟨q1, q2, q3⟩ := longest_some t bs y.1 y.2 e
    rcases Nat.lt_trichotomy y.1 n with c | c | c
    · have := q3 n c h1
      rw [h2] at this; cases this
    · rw [c, h2] at q2
      have e2 : x = y.2 := by injection q2
      show some (y.1, y.2) = some (n, x)
      rw [c, e2]
    · have := h3 y.1 c q1
      rw [q2] at this; cases this
theorem longest_not {t : Tr} {bs : List Bool} (h : ∀ m, m ≤ bs.length → t.get (bs.take m) = none) : t.longest bs = none := by
  cases e : t.longest bs with
  | none => rfl
  | some y =>
    obtain ⟨q1, q2, q3⟩ := longest_some t bs y.1 y.2 e
    have := h y.1 q1
    rw [q2] at this; cases this
end Tr
end Go.Proofs.Ytjnccpbedffijaa
