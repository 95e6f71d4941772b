/- Package tern: what is found, and how many groups are searched: the mathematics of the laws. -/
import Derived.Test.YtjjgdnaejeejlaaUMade
namespace Go.Proofs.Ytjjgdnaejeejlaa
set_option linter.unusedVariables false
open Go.ChangeShapes Go.WideShapes Go.ChangeAt Go.RowKit Go.Joins

theorem headsF_len (L : List ItN) : (headsF L).length = (masksF L).length := by unfold headsF; rw [List.length_map]
theorem looks_le (key : ByteArray) (L : List ItN) : looksF key L ≤ (masksF L).length := by
  unfold looksF
  rw [← headsF_len]
  exact List.countP_le_length
theorem masks_le : ∀ L : List ItN, (masksF L).length ≤ L.length
  | [] => Nat.le_refl _
  | x :: l => by
    have ih := masks_le l
    have := List.length_filter_le (fun m => decide (m ≠ x.mask)) (masksF l)
    show (x.mask :: (masksF l).filter fun m => decide (m ≠ x.mask)).length ≤ _
    simp only [List.length_cons]
    omega
theorem max_item : ∀ {L : List ItN}, L ≠ [] → ∃ x ∈ L, ∀ y ∈ L, y.prio ≤ x.prio
  | [], h => absurd rfl h
  | [a], _ => ⟨a, .head _, fun y hy => by
    obtain rfl : y = a := by simpa using hy
    exact Int.le_refl _⟩
  | a :: b :: l, _ => by
    obtain ⟨x, hx, h⟩ := max_item (L := b :: l) (by simp)
    by_cases c : a.prio ≤ x.prio
    · refine ⟨x, .tail _ hx, fun y hy => ?_⟩
      rcases List.mem_cons.1 hy with rfl | hy
      · exact c
      · exact h y hy
    · refine ⟨a, .head _, fun y hy => ?_⟩
      rcases List.mem_cons.1 hy with rfl | hy
      · exact Int.le_refl _
      · have := h y hy; omega
theorem looks_pos (key : ByteArray) {L : List ItN} (h : L ≠ []) : 0 < looksF key L := by
  obtain ⟨x, hx, hm⟩ := max_item h
  have ht := topF_is (m := x.mask) ⟨x, hx, rfl⟩
  unfold looksF
  refine List.countP_pos_iff.2 ⟨(x.mask, topF L x.mask), List.mem_map.2 ⟨x.mask, mem_masksF.2 ⟨x, hx, rfl⟩, rfl⟩, decide_eq_true fun y hy _ => ?_⟩
  have a := hm y hy
  have b := ht.2 x hx rfl
  show y.prio ≤ topF L x.mask
  omega
theorem looks_all (key : ByteArray) {L : List ItN} (h : ∀ x ∈ L, ∀ y ∈ L, MatchN y key → y.prio ≤ x.prio) : looksF key L = (masksF L).length := by
  unfold looksF
  rw [← headsF_len]
  refine List.countP_eq_length.2 fun a ha => decide_eq_true fun y hy hm => ?_
  obtain ⟨m, hm2, rfl⟩ := List.mem_map.1 ha
  obtain ⟨⟨x, hx, _, e⟩, _⟩ := topF_is (mem_masksF.1 hm2)
  have := h x hx y hy hm
  show y.prio ≤ topF L m
  omega
theorem stepF_some {key : ByteArray} : ∀ (B : List ItN) (o : ItN), ∃ b, B.foldl (stepF key) (some o) = some b
  | [], o => ⟨o, rfl⟩
  | a :: B, o => by
    rw [List.foldl_cons]
    obtain ⟨c, hc⟩ : ∃ c, stepF key (some o) a = some c := by
      unfold stepF
      split
      · dsimp only; split <;> exact ⟨_, rfl⟩
      · exact ⟨_, rfl⟩
    rw [hc]
    exact stepF_some B c
theorem findF_none {key : ByteArray} {L : List ItN} (h : findF key L = none) : ∀ x ∈ L, ¬ MatchN x key := by
  intro x hx hm
  obtain ⟨A, B, rfl⟩ := List.append_of_mem hx
  unfold findF at h
  rw [List.foldl_append, List.foldl_cons] at h
  generalize A.foldl (stepF key) none = o at h
  obtain ⟨c, hc⟩ : ∃ c, stepF key o x = some c := by
    unfold stepF
    rw [if_pos hm]
    cases o with
    | none => exact ⟨_, rfl⟩
    | some b => dsimp only; split <;> exact ⟨_, rfl⟩
  rw [hc] at h
  obtain ⟨b, hb⟩ := stepF_some (key := key) B c
  rw [hb] at h
  cases h
theorem looks_none {key : ByteArray} {L : List ItN} (h : findF key L = none) : looksF key L = (masksF L).length :=
  looks_all key fun x hx y hy hm => absurd hm (findF_none h y hy)
theorem findF_is {key : ByteArray} : ∀ (L : List ItN), FindE L key (findF key L) := by
  intro L
  have key' : ∀ (B A : List ItN), FindE A key (A.foldl (stepF key) none) → FindE (A ++ B) key ((A ++ B).foldl (stepF key) none) := by
    intro B
    induction B with
    | nil => intro A h; rw [List.append_nil]; exact h
    | cons b B ih =>
      intro A h
      have e : A ++ b :: B = (A ++ [b]) ++ B := by simp
      rw [e]
      refine ih (A ++ [b]) ?_
      rw [List.foldl_append]
      show FindE (A ++ [b]) key (stepF key (A.foldl (stepF key) none) b)
      generalize A.foldl (stepF key) none = o at h
      unfold stepF
      by_cases hm : MatchN b key
      · rw [if_pos hm]
        cases o with
        | none => exact ⟨hm, A, [], rfl, fun y hy hy2 => absurd hy2 (h y hy), fun y hy => by cases hy⟩
        | some x =>
          obtain ⟨hx, P, Q, rfl, hP, hQ⟩ := h
          dsimp only
          by_cases c : x.prio < b.prio
          · rw [if_pos c]
            refine ⟨hm, P ++ x :: Q, [], rfl, fun y hy hy2 => ?_, fun y hy => by cases hy⟩
            rcases List.mem_append.1 hy with hy | hy
            · have := hP y hy hy2; omega
            · rcases List.mem_cons.1 hy with rfl | hy
              · exact c
              · have := hQ y hy hy2; omega
          · rw [if_neg c]
            refine ⟨hx, P, Q ++ [b], by simp, hP, fun y hy hy2 => ?_⟩
            rcases List.mem_append.1 hy with hy | hy
            · exact hQ y hy hy2
            · obtain rfl : y = b := by simpa using hy
              omega
      · rw [if_neg hm]
        cases o with
        | none =>
          intro x hx
          rcases List.mem_append.1 hx with hx | hx
          · exact h x hx
          · obtain rfl : x = b := by simpa using hx
            exact hm
        | some x =>
          obtain ⟨hx, P, Q, rfl, hP, hQ⟩ := h
          refine ⟨hx, P, Q ++ [b], by simp, hP, fun y hy hy2 => ?_⟩
          rcases List.mem_append.1 hy with hy | hy
          · exact hQ y hy hy2
          · obtain rfl : y = b := by simpa using hy
            exact absurd hy2 hm
  have := key' L [] (fun x hx => by cases hx)
  exact this
/-- Texts that the same items match. -/
theorem findF_key {L : List ItN} {a b : ByteArray} (h : ∀ x ∈ L, MatchN x a ↔ MatchN x b) : findF a L = findF b L := by
  refine find_eq ?_
  have := findF_is (key := a) L
  cases q : findF a L with
  | none => rw [q] at this; exact fun x hx hm => this x hx ((h x hx).2 hm)
  | some x =>
    rw [q] at this
    obtain ⟨hx, P, Q, e, hP, hQ⟩ := this
    have hx' : x ∈ L := by rw [e]; simp
    exact ⟨(h x hx').1 hx, P, Q, e, fun y hy hm => hP y hy ((h y (by rw [e]; simp [hy])).2 hm), fun y hy hm => hQ y hy ((h y (by rw [e]; simp [hy])).2 hm)⟩
theorem looksF_key {L : List ItN} {a b : ByteArray} (h : ∀ x ∈ L, MatchN x a ↔ MatchN x b) : looksF a L = looksF b L := by
  unfold looksF
  refine List.countP_congr fun z hz => ?_
  unfold openF
  rw [decide_eq_true_iff, decide_eq_true_iff]
  exact ⟨fun k x hx hm => k x hx ((h x hx).2 hm), fun k x hx hm => k x hx ((h x hx).1 hm)⟩
/-- Where no two items that match have one priority, the row does not matter. -/
theorem findF_perm {L M : List ItN} (p : L.Perm M) {key : ByteArray} (h : L.Pairwise fun x y => ¬ (x.prio = y.prio ∧ MatchN x key ∧ MatchN y key)) : findF key L = findF key M := by
  refine find_eq ?_
  have := findF_is (key := key) L
  cases q : findF key L with
  | none => rw [q] at this; exact fun x hx hm => this x (p.mem_iff.2 hx) hm
  | some x =>
    rw [q] at this
    obtain ⟨hx, P, Q, rfl, hP, hQ⟩ := this
    obtain ⟨p1, p2, p3⟩ := List.pairwise_append.1 h
    obtain ⟨p4, p5⟩ := List.pairwise_cons.1 p2
    have all : ∀ y ∈ P ++ Q, MatchN y key → y.prio < x.prio := fun y hy hm => by
      rcases List.mem_append.1 hy with hy | hy
      · exact hP y hy hm
      · have a := hQ y hy hm
        have b : ¬ x.prio = y.prio := fun e => p4 y hy ⟨e, hx, hm⟩
        omega
    obtain ⟨A, B, rfl⟩ := List.append_of_mem (p.mem_iff.1 (show x ∈ P ++ x :: Q by simp))
    have p6 : (P ++ Q).Perm (A ++ B) := by
      have a : (x :: (P ++ Q)).Perm (x :: (A ++ B)) := (List.perm_middle.symm.trans p).trans List.perm_middle
      exact a.cons_inv
    exact ⟨hx, A, B, rfl, fun y hy hm => all y (p6.mem_iff.2 (List.mem_append_left _ hy)) hm, fun y hy hm => Int.le_of_lt (all y (p6.mem_iff.2 (List.mem_append_right _ hy)) hm)⟩

end Go.Proofs.Ytjjgdnaejeejlaa
