/- Package graph: nodes of which one goes on elsewhere; the nodes of a way. No program is in sight. -/
import Derived.Test.YtilebacnjagneaaGPerm
namespace Go.Proofs.Ytilebacnjagneaa
set_option linter.unusedVariables false

def goTo (id tg : Int) (x : NodV) : NodV := if x.id = id then { x with oth := tg } else x
theorem goTo_id (id tg : Int) (x : NodV) : (goTo id tg x).id = x.id := by unfold goTo; split <;> rfl
theorem goTo_arms (id tg : Int) (x : NodV) : (goTo id tg x).arms = x.arms := by unfold goTo; split <;> rfl
theorem goTo_goes (id tg : Int) (x : NodV) : ∀ y ∈ (goTo id tg x).goes, y ∈ x.goes ∨ y = tg := by
  intro y hy
  unfold goTo at hy
  split at hy
  · unfold NodV.goes at hy ⊢
    rcases List.mem_append.1 hy with h | h
    · exact .inl (List.mem_append_left _ h)
    · simp only [List.mem_cons, List.not_mem_nil, or_false] at h
      exact .inr h
  · exact .inl hy
theorem goTo_form {id tg : Int} (ht : 0 ≤ tg ∧ tg ≤ 65535) {x : NodV} (h : formG x = true) : formG (goTo id tg x) = true := by
  have hg := formG_next h
  unfold formG at h ⊢
  rw [goTo_id]
  have e1 : lenF (goTo id tg x) = lenF x := by unfold goTo; split <;> rfl
  have e2 : selF (goTo id tg x) = selF x := by unfold goTo; split <;> rfl
  have e3 : (goTo id tg x).size = x.size := by unfold goTo; split <;> rfl
  have e4 : nextF (goTo id tg x) = true := by
    unfold nextF
    rw [List.all_eq_true]
    intro y hy
    rcases goTo_goes id tg x y hy with h | rfl
    · have := hg y h; simp [this.1, this.2]
    · simp [ht.1, ht.2]
  rw [e1, e2, e3, e4]
  simp only [Bool.and_eq_true] at h ⊢
  exact ⟨h.1, trivial⟩
def ringG (id tg : Int) (L : List NodV) : List NodV := L.map (goTo id tg)
theorem ringG_find (id tg j : Int) : ∀ L : List NodV, nodeG (ringG id tg L) j = (nodeG L j).map (goTo id tg)
  | [] => rfl
  | x :: L => by
    show nodeG (goTo id tg x :: ringG id tg L) j = _
    unfold nodeG
    rw [goTo_id, ringG_find id tg j L]
    split <;> rfl
theorem ringG_may {L : List NodV} {id tg : Int} (hv : Valid L) (ht : ∃ x, nodeG L tg = some x) (hr : RunsTo (ringG id tg L) tg tg) : mayG (ringG id tg L) = 10 := by
  obtain ⟨x, hx⟩ := ht
  obtain ⟨hxm, hxi⟩ := nodeG_mem hx
  have hf := formG_id (formsG_mem hv.form x hxm).1
  rw [hxi] at hf
  refine mayG_ring (formsG_of ?_ fun y hy => ?_) (by unfold ringG; rw [List.length_map]; exact hv.few) (toldG_iff.2 fun y hy t ht => ?_) fun hA => ?_
  · have hs := formsG_sorted hv.form
    unfold SortedG ringG at *
    rw [List.pairwise_map]
    exact hs.imp fun h => by rw [goTo_id, goTo_id]; exact h
  · obtain ⟨z, hz, rfl⟩ := List.mem_map.1 hy
    have := formsG_mem hv.form z hz
    exact ⟨goTo_form (by omega) this.1, by rw [goTo_id]; exact this.2⟩
  · obtain ⟨z, hz, rfl⟩ := List.mem_map.1 hy
    rcases goTo_goes id tg z t ht with h | rfl
    · rcases toldG_iff.1 hv.told z hz t h with e | e | ⟨q, e⟩
      · exact .inl e
      · exact .inr (.inl e)
      · exact .inr (.inr ⟨goTo id tg q, by rw [ringG_find, e]; rfl⟩)
    · exact .inr (.inr ⟨goTo id t x, by rw [ringG_find, hx]; rfl⟩)
  · obtain ⟨n, hn⟩ := hA.dep tg
    exact hr.ring n hn
/-- Each of these goes on to the one behind it, the last one to a. -/
structure ChainG (L : List NodV) (S : List Int) (a : Int) : Prop where
  step : ∀ (i : Nat) (s t : Int), S[i]? = some s → (S ++ [a])[i + 1]? = some t → ∃ x, nodeG L s = some x ∧ t ∈ x.goes
  apart : ∀ (i j : Nat) (s t : Int), i < j → S[i]? = some s → S[j]? = some t → s ≠ t
theorem ChainG.start (L : List NodV) (a : Int) : ChainG L [] a := ⟨fun i s t h => by simp at h, fun i j s t _ h => by simp at h⟩
theorem ChainG.next {L : List NodV} {S : List Int} {a b : Int} {x : NodV} (h : ChainG L S a) (hx : nodeG L a = some x) (hb : b ∈ x.goes) (hf : ∀ s ∈ S, s ≠ a) : ChainG L (S ++ [a]) b where
  step i s t hs ht := by
    by_cases c : i < S.length
    · rw [List.getElem?_append_left c] at hs
      have hl : i + 1 < (S ++ [a]).length := by rw [List.length_append]; simp only [List.length_cons, List.length_nil]; omega
      rw [List.getElem?_append_left hl] at ht
      exact h.step i s t hs ht
    · have e : i = S.length := by
        have := (List.getElem?_eq_some_iff.1 hs).1
        rw [List.length_append] at this; simp only [List.length_cons, List.length_nil] at this; omega
      subst e
      rw [List.getElem?_append_right (Nat.le_refl _), Nat.sub_self] at hs
      obtain rfl : a = s := by simpa using hs
      have e2 : (S ++ [a] ++ [b])[S.length + 1]? = some b := by
        rw [List.getElem?_append_right (by simp)]
        simp
      rw [e2] at ht
      obtain rfl : b = t := by injection ht
      exact ⟨x, hx, hb⟩
  apart i j s t hij hs ht := by
    by_cases c : j < S.length
    · rw [List.getElem?_append_left (by omega)] at hs
      rw [List.getElem?_append_left c] at ht
      exact h.apart i j s t hij hs ht
    · have e : j = S.length := by
        have := (List.getElem?_eq_some_iff.1 ht).1
        rw [List.length_append] at this; simp only [List.length_cons, List.length_nil] at this; omega
      subst e
      rw [List.getElem?_append_right (Nat.le_refl _), Nat.sub_self] at ht
      obtain rfl : a = t := by simpa using ht
      rw [List.getElem?_append_left hij] at hs
      exact hf s (List.mem_of_getElem? hs)
theorem ChainG.ring {L : List NodV} {S : List Int} {a : Int} (h : ChainG L S a) {k m : Nat} {sk sm : Int} (hk : S[k]? = some sk) (hm : S[m]? = some sm) (hmk : m ≤ k) : RunsTo (ringG sk sm L) sm sm := by
  have inS : ∀ (i : Nat) (s : Int), S[i]? = some s → ∃ x, nodeG L s = some x := fun i s hs => by
    have hl := (List.getElem?_eq_some_iff.1 hs).1
    obtain ⟨t, ht⟩ : ∃ t, (S ++ [a])[i + 1]? = some t := ⟨(S ++ [a])[i + 1]'(by rw [List.length_append]; simp only [List.length_cons, List.length_nil]; omega), List.getElem?_eq_getElem _⟩
    obtain ⟨x, hx, _⟩ := h.step i s t hs ht
    exact ⟨x, hx⟩
  obtain ⟨xk, hxk⟩ := inS k sk hk
  have last : nodeG (ringG sk sm L) sk = some { xk with oth := sm } := by
    rw [ringG_find, hxk]
    show some (goTo sk sm xk) = _
    unfold goTo
    rw [if_pos (nodeG_mem hxk).2]
  have lastg : sm ∈ ({ xk with oth := sm } : NodV).goes := by unfold NodV.goes; simp
  have mid : ∀ (i : Nat) (s t : Int), i < k → S[i]? = some s → S[i + 1]? = some t → ∃ x, nodeG (ringG sk sm L) s = some x ∧ t ∈ x.goes := fun i s t hi hs ht => by
    have hl := (List.getElem?_eq_some_iff.1 ht).1
    obtain ⟨x, hx, hg⟩ := h.step i s t hs (by rw [List.getElem?_append_left hl]; exact ht)
    refine ⟨x, ?_, hg⟩
    rw [ringG_find, hx]
    show some (goTo sk sm x) = _
    unfold goTo
    rw [if_neg (by rw [(nodeG_mem hx).2]; exact h.apart i k s sk hi hs hk)]
  have run : ∀ (j : Nat) (t : Int), m < j → j ≤ k → S[j]? = some t → RunsTo (ringG sk sm L) sm t := by
    intro j
    induction j with
    | zero => intro t h; omega
    | succ j ih =>
      intro t hmj hjk ht
      have hl := (List.getElem?_eq_some_iff.1 ht).1
      obtain ⟨s, hs⟩ : ∃ s, S[j]? = some s := ⟨S[j]'(by omega), List.getElem?_eq_getElem _⟩
      obtain ⟨x, hx, hg⟩ := mid j s t (by omega) hs ht
      by_cases e : m = j
      · subst e
        rw [hs] at hm
        cases hm
        exact .one hx hg
      · exact .more (ih s (by omega) (by omega) hs) hx hg
  by_cases e : m = k
  · subst e
    rw [hk] at hm
    cases hm
    exact .one last lastg
  · exact .more (run k sk (by omega) (Nat.le_refl _) hk) last lastg

end Go.Proofs.Ytilebacnjagneaa
