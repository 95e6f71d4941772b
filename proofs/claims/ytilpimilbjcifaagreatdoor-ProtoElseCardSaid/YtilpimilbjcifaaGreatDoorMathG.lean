/- Texts that belong together, one behind the other: TMath Strs OMath. -/
import Derived.Test.YtilpimilbjcifaaGreatDoorBase

/- The document's attributes, numbers and lists as bytes: plain functions, and what follows of them. No program is in sight. -/
namespace Go.Proofs.YtilpimilbjcifaaGreatDoor
set_option linter.unusedVariables false

/-- A text of such bytes. -/
def mkB (l : List UInt8) : ByteArray := ⟨l.toArray⟩
theorem mkB_data (l : List UInt8) : (mkB l).data.toList = l := by simp [mkB]
theorem mkB_size (l : List UInt8) : (mkB l).size = l.length := by simp [mkB, ByteArray.size]
theorem mkB_of (s : ByteArray) : mkB s.data.toList = s := by cases s; simp [mkB]
theorem mkB_inj {l m : List UInt8} (h : mkB l = mkB m) : l = m := by rw [← mkB_data l, h, mkB_data]
theorem size_data (s : ByteArray) : s.size = s.data.toList.length := by simp

/-- Lists from behind. -/
theorem rev_ind {α : Type} {p : List α → Prop} (nil : p []) (snoc : ∀ l b, p l → p (l ++ [b])) (l : List α) : p l := by
  rw [← List.reverse_reverse l]
  induction l.reverse with
  | nil => exact nil
  | cons b l ih => rw [List.reverse_cons]; exact snoc _ _ ih
/-- An attribute. -/
structure AtN where
  t : Nat
  v : ByteArray
theorem AtN.ext' {a b : AtN} (h : a.t = b.t) (k : a.v = b.v) : a = b := by cases a; cases b; simp_all

/-- A number below 65536 as two bytes. -/
def wordB (n : Nat) : List UInt8 := [UInt8.ofNat (n / 256), UInt8.ofNat (n % 256)]
theorem wordB_length (n : Nat) : (wordB n).length = 2 := rfl
theorem ofNat_toNat8 (n : Nat) (h : n < 256) : (UInt8.ofNat n).toNat = n := by simp [UInt8.toNat_ofNat']; omega
def unword (a b : UInt8) : Nat := a.toNat * 256 + b.toNat
theorem unword_lt (a b : UInt8) : unword a b < 65536 := by have := a.toNat_lt; have := b.toNat_lt; unfold unword; omega
theorem unword_word (n : Nat) (h : n < 65536) : unword (UInt8.ofNat (n / 256)) (UInt8.ofNat (n % 256)) = n := by
  unfold unword; rw [ofNat_toNat8 _ (by omega), ofNat_toNat8 _ (by omega)]; omega
theorem word_unword (a b : UInt8) : wordB (unword a b) = [a, b] := by
  have ha := a.toNat_lt; have hb := b.toNat_lt
  unfold wordB
  have e1 : unword a b / 256 = a.toNat := by unfold unword; omega
  have e2 : unword a b % 256 = b.toNat := by unfold unword; omega
  rw [e1, e2]; simp

/-- An attribute's bytes. -/
def bytA (a : AtN) : List UInt8 := UInt8.ofNat a.t :: (wordB a.v.size ++ a.v.data.toList)
theorem bytA_length (a : AtN) : (bytA a).length = 3 + a.v.size := by simp [bytA, wordB]; omega
def bytsA (l : List AtN) : List UInt8 := l.flatMap bytA
theorem bytsA_nil : bytsA [] = [] := rfl
theorem bytsA_cons (a : AtN) (l : List AtN) : bytsA (a :: l) = bytA a ++ bytsA l := by simp [bytsA]
theorem bytsA_append (l m : List AtN) : bytsA (l ++ m) = bytsA l ++ bytsA m := by simp [bytsA]
theorem bytsA_snoc (l : List AtN) (a : AtN) : bytsA (l ++ [a]) = bytsA l ++ bytA a := by rw [bytsA_append]; simp [bytsA]
/-- How attributes are refused. -/
def okA : Nat → List AtN → Nat
  | _, [] => 0
  | last, a :: l => if a.t ≤ last ∨ a.v.size = 0 then 3 else if 65535 < a.v.size then 5 else okA a.t l
def lastA (last : Nat) (l : List AtN) : Nat := (l.getLast?.map AtN.t).getD last
theorem lastA_nil (last : Nat) : lastA last [] = last := rfl
theorem lastA_cons (last : Nat) (a : AtN) (l : List AtN) : lastA last (a :: l) = lastA a.t l := by
  cases l with
  | nil => rfl
  | cons b l =>
    simp only [lastA, List.getLast?_cons_cons]
    rw [List.getLast?_eq_some_getLast (List.cons_ne_nil b l)]; rfl
theorem lastA_snoc (last : Nat) (l : List AtN) (a : AtN) : lastA last (l ++ [a]) = a.t := by simp [lastA]
theorem okA_append : ∀ (l : List AtN) (last : Nat) (m : List AtN), okA last (l ++ m) = if okA last l = 0 then okA (lastA last l) m else okA last l := by
  intro l
  induction l with
  | nil => intro last m; simp [okA, lastA_nil]
  | cons a l ih =>
    intro last m
    rw [List.cons_append, lastA_cons]
    simp only [okA]
    split
    · simp
    · split
      · simp
      · exact ih a.t m
theorem okA_snoc (l : List AtN) (last : Nat) (a : AtN) (h : okA last l = 0) : okA last (l ++ [a]) = if a.t ≤ lastA last l ∨ a.v.size = 0 then 3 else if 65535 < a.v.size then 5 else 0 := by
  rw [okA_append, if_pos h]; simp [okA]
theorem okA_cases (l : List AtN) (last : Nat) : okA last l = 0 ∨ okA last l = 3 ∨ okA last l = 5 := by
  induction l generalizing last with
  | nil => simp [okA]
  | cons a l ih => simp only [okA]; split; simp; split; simp; exact ih a.t
/-- What is encoded, or nothing. -/
def encA (l : List AtN) : ByteArray := if okA 0 l = 0 then mkB (bytsA l) else ⟨#[]⟩

/-- Attributes out of bytes, behind those that are there, whose last type is told. -/
def decA (acc : List AtN) (last : Nat) (s : List UInt8) : List AtN × Nat :=
  if s.length = 0 then (acc, 0)
  else if s.length < 3 then ([], 4)
  else if (s.getD 0 0).toNat ≤ last ∨ unword (s.getD 1 0) (s.getD 2 0) = 0 then ([], 3)
  else if s.length < 3 + unword (s.getD 1 0) (s.getD 2 0) then ([], 4)
  else decA (acc ++ [⟨(s.getD 0 0).toNat, mkB ((s.drop 3).take (unword (s.getD 1 0) (s.getD 2 0)))⟩]) (s.getD 0 0).toNat (s.drop (3 + unword (s.getD 1 0) (s.getD 2 0)))
termination_by s.length
decreasing_by simp; omega
theorem decA_nil (acc : List AtN) (last : Nat) : decA acc last [] = (acc, 0) := by rw [decA]; simp
theorem decA_some (acc : List AtN) (last : Nat) (t a b : UInt8) (s : List UInt8) : decA acc last (t :: a :: b :: s) =
    if t.toNat ≤ last ∨ unword a b = 0 then ([], 3) else if s.length < unword a b then ([], 4) else decA (acc ++ [⟨t.toNat, mkB (s.take (unword a b))⟩]) t.toNat (s.drop (unword a b)) := by
  rw [decA]
  have e : ¬ (t :: a :: b :: s).length = 0 := by simp
  have e2 : ¬ (t :: a :: b :: s).length < 3 := by simp
  rw [if_neg e, if_neg e2]
  simp only [List.getD_cons_zero, List.getD_cons_succ]
  have e3 : (t :: a :: b :: s).drop (3 + unword a b) = s.drop (unword a b) := by rw [← List.drop_drop]; rfl
  have e4 : ((t :: a :: b :: s).length < 3 + unword a b) ↔ s.length < unword a b := by simp; omega
  rw [e3, show (t :: a :: b :: s).drop 3 = s from rfl]
  by_cases c : t.toNat ≤ last ∨ unword a b = 0
  · rw [if_pos c, if_pos c]
  · rw [if_neg c, if_neg c]
    by_cases d : s.length < unword a b
    · rw [if_pos d, if_pos (e4.2 d)]
    · rw [if_neg d, if_neg (fun h => d (e4.1 h))]
theorem decA_short (acc : List AtN) (last : Nat) (s : List UInt8) (h0 : s ≠ []) (h : s.length < 3) : decA acc last s = ([], 4) := by
  rw [decA, if_neg (by intro e; exact h0 (List.eq_nil_of_length_eq_zero e)), if_pos h]
theorem three (s : List UInt8) (h : 3 ≤ s.length) : ∃ t a b r, s = t :: a :: b :: r := by
  match s, h with
  | t :: a :: b :: r, _ => exact ⟨t, a, b, r, rfl⟩
theorem decA_enc : ∀ (l : List AtN) (acc : List AtN) (last : Nat) (rest : List UInt8), okA last l = 0 → (∀ a ∈ l, a.t < 256) → decA acc last (bytsA l ++ rest) = decA (acc ++ l) (lastA last l) rest := by
  intro l
  induction l with
  | nil => intro acc last rest _ _; simp [bytsA_nil, lastA_nil]
  | cons a l ih =>
    intro acc last rest h ht
    simp only [okA] at h
    split at h
    · omega
    · split at h
      · omega
      · rename_i c d
        have ta : a.t < 256 := ht a (by simp)
        rw [bytsA_cons]
        show decA acc last (UInt8.ofNat a.t :: UInt8.ofNat (a.v.size / 256) :: UInt8.ofNat (a.v.size % 256) :: (a.v.data.toList ++ bytsA l ++ rest)) = _
        rw [decA_some, unword_word _ (by omega), ofNat_toNat8 _ ta, if_neg c, if_neg (by simp)]
        have e1 : (a.v.data.toList ++ bytsA l ++ rest).take a.v.size = a.v.data.toList := by rw [List.append_assoc, List.take_left' (by simp)]
        have e2 : (a.v.data.toList ++ bytsA l ++ rest).drop a.v.size = bytsA l ++ rest := by rw [List.append_assoc, List.drop_left' (by simp)]
        rw [e1, e2, mkB_of, lastA_cons]
        rw [ih _ _ _ h (fun b hb => ht b (by simp [hb]))]
        simp
/-- What is decoded is encoded as it was. -/
theorem decA_inv : ∀ (n : Nat) (s : List UInt8), s.length = n → ∀ (acc : List AtN) (last : Nat) (m : List AtN), decA acc last s = (m, 0) →
    ∃ l, m = acc ++ l ∧ s = bytsA l ∧ okA last l = 0 ∧ ∀ a ∈ l, a.t < 256 := by
  intro n
  induction n using Nat.strongRecOn with
  | ind n ih =>
    intro s hs acc last m h
    by_cases c0 : s = []
    · subst c0
      rw [decA_nil] at h
      obtain ⟨rfl, _⟩ := Prod.mk.injEq .. ▸ h
      exact ⟨[], by simp, rfl, rfl, by simp⟩
    · by_cases c1 : s.length < 3
      · rw [decA_short _ _ _ c0 c1] at h; simp at h
      · obtain ⟨t, a, b, r, rfl⟩ := three s (by omega)
        rw [decA_some] at h
        split at h
        · simp at h
        · split at h
          · simp at h
          · rename_i c d
            obtain ⟨l, e1, e2, e3, e4⟩ := ih (r.drop (unword a b)).length (by subst hs; simp; omega) _ rfl _ _ _ h
            refine ⟨⟨t.toNat, mkB (r.take (unword a b))⟩ :: l, by simp [e1], ?_, ?_, ?_⟩
            · rw [bytsA_cons, ← e2]
              have e : (mkB (r.take (unword a b))).size = unword a b := by rw [mkB_size]; simp; omega
              simp only [bytA, e, word_unword, mkB_data]
              simp
            · have hu := unword_lt a b
              have hz : (mkB (r.take (unword a b))).size = unword a b := by rw [mkB_size]; simp; omega
              show (if t.toNat ≤ last ∨ (mkB (r.take (unword a b))).size = 0 then 3 else if 65535 < (mkB (r.take (unword a b))).size then 5 else okA t.toNat l) = 0
              rw [hz, if_neg c, if_neg (by omega)]; exact e3
            · intro x hx
              rcases List.mem_cons.1 hx with rfl | hx
              · exact t.toNat_lt
              · exact e4 x hx
theorem decA_bad : ∀ (n : Nat) (s : List UInt8), s.length = n → ∀ (acc : List AtN) (last : Nat), (decA acc last s).2 = 0 ∨ (decA acc last s).1 = [] := by
  intro n
  induction n using Nat.strongRecOn with
  | ind n ih =>
    intro s hs acc last
    by_cases c0 : s = []
    · subst c0; rw [decA_nil]; exact .inl rfl
    · by_cases c1 : s.length < 3
      · rw [decA_short _ _ _ c0 c1]; exact .inr rfl
      · obtain ⟨t, a, b, r, rfl⟩ := three s (by omega)
        rw [decA_some]
        split
        · exact .inr rfl
        · split
          · exact .inr rfl
          · exact ih _ (by subst hs; simp; omega) _ rfl _ _
theorem decA_short_of (l : List AtN) (a : AtN) (acc : List AtN) (last k : Nat) (h : okA last (l ++ [a]) = 0) (ht : ∀ x ∈ l ++ [a], x.t < 256) (h0 : 0 < k) (hk : k < (bytA a).length) :
    decA acc last (bytsA l ++ (bytA a).take k) = ([], 4) := by
  rw [okA_append] at h
  by_cases c : okA last l = 0
  · rw [if_pos c] at h
    rw [decA_enc l acc last _ c (fun x hx => ht x (by simp [hx]))]
    have ta : a.t < 256 := ht a (by simp)
    simp only [okA] at h
    split at h
    · omega
    · split at h
      · omega
      · rename_i d1 d2
        rw [bytA_length] at hk
        by_cases k3 : k < 3
        · apply decA_short
          · intro e
            have : ((bytA a).take k).length = 0 := by rw [e]; rfl
            rw [List.length_take, bytA_length] at this; omega
          · rw [List.length_take]; omega
        · obtain ⟨j, rfl⟩ : ∃ j, k = j + 3 := ⟨k - 3, by omega⟩
          have e : (bytA a).take (j + 3) = UInt8.ofNat a.t :: UInt8.ofNat (a.v.size / 256) :: UInt8.ofNat (a.v.size % 256) :: a.v.data.toList.take j := by
            simp [bytA, wordB]
          rw [e, decA_some, unword_word _ (by omega), ofNat_toNat8 _ ta, if_neg d1, if_pos (by simp; omega)]
  · rw [if_neg c] at h; exact absurd h c

/- Lists. -/
def bytT (s : ByteArray) : List UInt8 := wordB s.size ++ s.data.toList
theorem bytT_length (s : ByteArray) : (bytT s).length = 2 + s.size := by simp [bytT, wordB]; omega
def bytsT (l : List ByteArray) : List UInt8 := l.flatMap bytT
theorem bytsT_nil : bytsT [] = [] := rfl
theorem bytsT_cons (a : ByteArray) (l : List ByteArray) : bytsT (a :: l) = bytT a ++ bytsT l := by simp [bytsT]
theorem bytsT_append (l m : List ByteArray) : bytsT (l ++ m) = bytsT l ++ bytsT m := by simp [bytsT]
theorem bytsT_snoc (l : List ByteArray) (a : ByteArray) : bytsT (l ++ [a]) = bytsT l ++ bytT a := by rw [bytsT_append]; simp [bytsT]
def okT : List ByteArray → Nat
  | [] => 0
  | s :: l => if 65535 < s.size then 5 else okT l
theorem okT_append (l m : List ByteArray) : okT (l ++ m) = if okT l = 0 then okT m else okT l := by
  induction l with
  | nil => simp [okT]
  | cons s l ih => rw [List.cons_append]; simp only [okT]; split; simp; exact ih
theorem okT_snoc (l : List ByteArray) (s : ByteArray) (h : okT l = 0) : okT (l ++ [s]) = if 65535 < s.size then 5 else 0 := by
  rw [okT_append, if_pos h]; simp [okT]
theorem okT_cases (l : List ByteArray) : okT l = 0 ∨ okT l = 5 := by
  induction l with
  | nil => simp [okT]
  | cons a l ih => simp only [okT]; split; simp; exact ih
def encT (l : List ByteArray) : ByteArray := if okT l = 0 then mkB (bytsT l) else ⟨#[]⟩
/-- A list out of bytes, behind what is there, of so many at most. -/
def decT (acc : List ByteArray) (most : Int) (s : List UInt8) : List ByteArray × Nat :=
  if s.length = 0 then (acc, 0)
  else if s.length < 2 then ([], 4)
  else if most ≤ (acc.length : Int) then ([], 3)
  else if s.length < 2 + unword (s.getD 0 0) (s.getD 1 0) then ([], 4)
  else decT (acc ++ [mkB ((s.drop 2).take (unword (s.getD 0 0) (s.getD 1 0)))]) most (s.drop (2 + unword (s.getD 0 0) (s.getD 1 0)))
termination_by s.length
decreasing_by simp; omega
theorem decT_nil (acc : List ByteArray) (most : Int) : decT acc most [] = (acc, 0) := by rw [decT]; simp
theorem decT_some (acc : List ByteArray) (most : Int) (a b : UInt8) (s : List UInt8) : decT acc most (a :: b :: s) =
    if most ≤ (acc.length : Int) then ([], 3) else if s.length < unword a b then ([], 4) else decT (acc ++ [mkB (s.take (unword a b))]) most (s.drop (unword a b)) := by
  rw [decT]
  have e : ¬ (a :: b :: s).length = 0 := by simp
  have e2 : ¬ (a :: b :: s).length < 2 := by simp
  rw [if_neg e, if_neg e2]
  simp only [List.getD_cons_zero, List.getD_cons_succ]
  have e3 : (a :: b :: s).drop (2 + unword a b) = s.drop (unword a b) := by rw [← List.drop_drop]; rfl
  have e4 : ((a :: b :: s).length < 2 + unword a b) ↔ s.length < unword a b := by simp; omega
  rw [e3, show (a :: b :: s).drop 2 = s from rfl]
  by_cases c : most ≤ (acc.length : Int)
  · rw [if_pos c, if_pos c]
  · rw [if_neg c, if_neg c]
    by_cases d : s.length < unword a b
    · rw [if_pos d, if_pos (e4.2 d)]
    · rw [if_neg d, if_neg (fun h => d (e4.1 h))]
theorem decT_short (acc : List ByteArray) (most : Int) (s : List UInt8) (h0 : s ≠ []) (h : s.length < 2) : decT acc most s = ([], 4) := by
  rw [decT, if_neg (by intro e; exact h0 (List.eq_nil_of_length_eq_zero e)), if_pos h]
theorem pair2 (s : List UInt8) (h : 2 ≤ s.length) : ∃ a b r, s = a :: b :: r := by
  match s, h with
  | a :: b :: r, _ => exact ⟨a, b, r, rfl⟩
theorem decT_enc : ∀ (l : List ByteArray) (acc : List ByteArray) (most : Int) (rest : List UInt8), okT l = 0 → ((acc.length + l.length : Nat) : Int) ≤ most → decT acc most (bytsT l ++ rest) = decT (acc ++ l) most rest := by
  intro l
  induction l with
  | nil => intro acc most rest _ _; simp [bytsT_nil]
  | cons a l ih =>
    intro acc most rest h hm
    simp only [okT] at h
    split at h
    · omega
    · rename_i d
      rw [bytsT_cons]
      show decT acc most (UInt8.ofNat (a.size / 256) :: UInt8.ofNat (a.size % 256) :: (a.data.toList ++ bytsT l ++ rest)) = _
      have e1 : (a.data.toList ++ bytsT l ++ rest).take a.size = a.data.toList := by rw [List.append_assoc, List.take_left' (by simp)]
      have e2 : (a.data.toList ++ bytsT l ++ rest).drop a.size = bytsT l ++ rest := by rw [List.append_assoc, List.drop_left' (by simp)]
      rw [decT_some, unword_word _ (by omega), if_neg (by simp only [List.length_cons] at hm; omega), if_neg (by simp), e1, e2, mkB_of]
      rw [ih _ _ _ h (by simp only [List.length_append, List.length_cons, List.length_nil] at hm ⊢; omega)]
      simp
theorem decT_inv : ∀ (n : Nat) (s : List UInt8), s.length = n → ∀ (acc : List ByteArray) (most : Int) (m : List ByteArray), decT acc most s = (m, 0) →
    ∃ l, m = acc ++ l ∧ s = bytsT l ∧ okT l = 0 ∧ (l = [] ∨ (m.length : Int) ≤ most) := by
  intro n
  induction n using Nat.strongRecOn with
  | ind n ih =>
    intro s hs acc most m h
    by_cases c0 : s = []
    · subst c0
      rw [decT_nil] at h
      obtain ⟨rfl, _⟩ := Prod.mk.injEq .. ▸ h
      exact ⟨[], by simp, rfl, rfl, .inl rfl⟩
    · by_cases c1 : s.length < 2
      · rw [decT_short _ _ _ c0 c1] at h; simp at h
      · obtain ⟨a, b, r, rfl⟩ := pair2 s (by omega)
        rw [decT_some] at h
        split at h
        · simp at h
        · split at h
          · simp at h
          · rename_i c d
            obtain ⟨l, e1, e2, e3, e4⟩ := ih (r.drop (unword a b)).length (by subst hs; simp; omega) _ rfl _ _ _ h
            refine ⟨mkB (r.take (unword a b)) :: l, by simp [e1], ?_, ?_, .inr ?_⟩
            · rw [bytsT_cons, ← e2]
              have e : (mkB (r.take (unword a b))).size = unword a b := by rw [mkB_size]; simp; omega
              simp only [bytT, e, word_unword, mkB_data]
              simp
            · have hu := unword_lt a b
              have hz : (mkB (r.take (unword a b))).size = unword a b := by rw [mkB_size]; simp; omega
              show (if 65535 < (mkB (r.take (unword a b))).size then 5 else okT l) = 0
              rw [hz, if_neg (by omega)]; exact e3
            · rcases e4 with rfl | e4
              · rw [e1]; simp; omega
              · exact e4
theorem decT_bad : ∀ (n : Nat) (s : List UInt8), s.length = n → ∀ (acc : List ByteArray) (most : Int), (decT acc most s).2 = 0 ∨ (decT acc most s).1 = [] := by
  intro n
  induction n using Nat.strongRecOn with
  | ind n ih =>
    intro s hs acc most
    by_cases c0 : s = []
    · subst c0; rw [decT_nil]; exact .inl rfl
    · by_cases c1 : s.length < 2
      · rw [decT_short _ _ _ c0 c1]; exact .inr rfl
      · obtain ⟨a, b, r, rfl⟩ := pair2 s (by omega)
        rw [decT_some]
        split
        · exact .inr rfl
        · split
          · exact .inr rfl
          · exact ih _ (by subst hs; simp; omega) _ rfl _ _

/- Numbers. -/
/-- A number in as few bytes as there can be. -/
def numB (n : Nat) : List UInt8 := if n = 0 then [] else numB (n / 256) ++ [UInt8.ofNat (n % 256)]
termination_by n
decreasing_by omega
theorem numB_0 : numB 0 = [] := by rw [numB]; simp
theorem numB_pos (n : Nat) (h : n ≠ 0) : numB n = numB (n / 256) ++ [UInt8.ofNat (n % 256)] := by rw [numB, if_neg h]
def readB (l : List UInt8) : Nat := l.foldl (fun a b => a * 256 + b.toNat) 0
theorem readB_snoc (l : List UInt8) (b : UInt8) : readB (l ++ [b]) = readB l * 256 + b.toNat := by simp [readB]
theorem readB_nil : readB [] = 0 := rfl
theorem readB_numB (n : Nat) : readB (numB n) = n := by
  induction n using Nat.strongRecOn with
  | ind n ih =>
    by_cases h : n = 0
    · subst h; rw [numB_0]; rfl
    · rw [numB_pos n h, readB_snoc, ih (n / 256) (by omega), ofNat_toNat8 _ (by omega)]; omega
theorem readB_lt (l : List UInt8) : readB l < 256 ^ l.length := by
  induction l using rev_ind with
  | nil => simp [readB]
  | snoc l b ih =>
    have hb := b.toNat_lt
    rw [readB_snoc, List.length_append, List.length_singleton, Nat.pow_succ]
    omega
theorem numB_len_le (n k : Nat) (h : n < 256 ^ k) : (numB n).length ≤ k := by
  induction k generalizing n with
  | zero => have : n = 0 := by simpa using h
            subst this; rw [numB_0]; simp
  | succ k ih =>
    by_cases h0 : n = 0
    · subst h0; rw [numB_0]; simp
    · rw [numB_pos n h0, List.length_append, List.length_singleton]
      have : n / 256 < 256 ^ k := by rw [Nat.pow_succ] at h; omega
      have := ih _ this
      omega
theorem numB_len (n : Nat) (h : n < 18446744073709551616) : (numB n).length ≤ 8 := numB_len_le n 8 (by simpa using h)
theorem numB_len_gt (n k : Nat) (h : 256 ^ k ≤ n) : k < (numB n).length := by
  rcases Nat.lt_or_ge k (numB n).length with c | c
  · exact c
  · have := readB_lt (numB n)
    rw [readB_numB] at this
    have : 256 ^ (numB n).length ≤ 256 ^ k := Nat.pow_le_pow_right (by omega) c
    omega
theorem numB_head (n : Nat) (h : n ≠ 0) : ∃ b l, numB n = b :: l ∧ b ≠ 0 := by
  induction n using Nat.strongRecOn with
  | ind n ih =>
    rw [numB_pos n h]
    by_cases d : n / 256 = 0
    · rw [d, numB_0]
      refine ⟨_, [], rfl, ?_⟩
      intro e
      have := congrArg UInt8.toNat e
      rw [ofNat_toNat8 _ (by omega)] at this
      simp at this; omega
    · obtain ⟨b, l, e, hb⟩ := ih (n / 256) (by omega) d
      exact ⟨b, l ++ [UInt8.ofNat (n % 256)], by rw [e]; rfl, hb⟩
/-- What is read, without a nought ahead, is put as it was. -/
theorem numB_readB (l : List UInt8) : (∀ b m, l = b :: m → b ≠ 0) → numB (readB l) = l := by
  induction l using rev_ind with
  | nil => intro _; rw [readB_nil, numB_0]
  | snoc l b ih =>
    intro h
    have hb := b.toNat_lt
    have h0 : readB (l ++ [b]) ≠ 0 := by
      rw [readB_snoc]
      cases l with
      | nil =>
        have := h b [] rfl
        intro e
        apply this
        have e2 : b.toNat = 0 := by simpa [readB] using e
        exact UInt8.toNat_inj.1 e2
      | cons c l =>
        intro e
        have e1 : readB (c :: l) = 0 := by omega
        have e2 := ih (fun x m q => h x (m ++ [b]) (by rw [q]; rfl))
        rw [e1, numB_0] at e2
        cases e2
    rw [numB_pos _ h0, readB_snoc]
    have e1 : (readB l * 256 + b.toNat) / 256 = readB l := by omega
    have e2 : (readB l * 256 + b.toNat) % 256 = b.toNat := by omega
    rw [e1, e2, ih (fun x m q => h x (m ++ [b]) (by rw [q]; rfl))]
    simp
/-- How a number is read: with its error. -/
def rnumN (s : List UInt8) (most : Nat) : Nat × Nat :=
  if 8 < s.length ∨ s.head? = some 0 then (0, 3) else if most < readB s then (0, 3) else (readB s, 0)
theorem readB_cons (b : UInt8) (l : List UInt8) : readB (b :: l) = b.toNat * 256 ^ l.length + readB l := by
  induction l using rev_ind with
  | nil => simp [readB]
  | snoc l c ih =>
    have e : b :: (l ++ [c]) = (b :: l) ++ [c] := rfl
    rw [e, readB_snoc, ih, readB_snoc, List.length_append, List.length_singleton, Nat.pow_succ, Nat.add_mul]
    rw [Nat.mul_assoc, Nat.add_assoc]
theorem bytesLess_read : ∀ (l m : List UInt8), l.length = m.length → Op.bytesLess l m = decide (readB l < readB m) := by
  intro l
  induction l with
  | nil => intro m h; cases m with
    | nil => simp [Op.bytesLess, readB]
    | cons => simp at h
  | cons c l ih =>
    intro m h
    cases m with
    | nil => simp at h
    | cons d m =>
      have hl : l.length = m.length := by simpa using h
      unfold Op.bytesLess
      rw [ih m hl, readB_cons, readB_cons, hl]
      have a := readB_lt l
      have b := readB_lt m
      rw [hl] at a
      generalize 256 ^ m.length = P at *
      by_cases e : c = d
      · subst e
        have h1 : (c < c) = False := by simp
        simp [h1]
      · have hb : (c == d) = false := by simpa using e
        rw [hb, Bool.false_and, Bool.or_false]
        have ne : c.toNat ≠ d.toNat := fun q => e (UInt8.toNat_inj.1 q)
        rw [Bool.eq_iff_iff, decide_eq_true_eq, decide_eq_true_eq, UInt8.lt_iff_toNat_lt]
        rcases Nat.lt_or_ge c.toNat d.toNat with lt | ge
        · have : (c.toNat + 1) * P ≤ d.toNat * P := Nat.mul_le_mul_right _ lt
          rw [Nat.add_mul] at this
          constructor <;> intro <;> omega
        · have : (d.toNat + 1) * P ≤ c.toNat * P := Nat.mul_le_mul_right _ (by omega)
          rw [Nat.add_mul] at this
          constructor <;> intro <;> omega

end Go.Proofs.YtilpimilbjcifaaGreatDoor

/- A slice of texts in memory, and such texts taken together. No program is in sight. -/
namespace Go.Proofs.YtilpimilbjcifaaGreatDoor
set_option linter.unusedVariables false
open Go.RowKit

theorem badd_block (a : Addr) (n : Nat) : (a.add n).block = a.block := by unfold Addr.add; split <;> rfl
/-- The texts that a slice holds. -/
structure StrsAt (w : World) (A : Option Addr) (l : List ByteArray) : Prop where
  none_ : A = none → l = []
  cell : ∀ a, A = some a → ∀ j s, l[j]? = some s → w.cell? (a.add j) = some (.string s)
theorem StrsAt.on {W w : World} {A : Option Addr} {l : List ByteArray} (h : StrsAt W A l) (g : Wider W w) : StrsAt w A l :=
  ⟨h.none_, fun a e j s hs => wkeep g (h.cell a e j s hs)⟩
theorem StrsAt.nil (w : World) : StrsAt w none [] := ⟨fun _ => rfl, fun a e => by cases e⟩
theorem StrsAt.new (w : World) (l : List ByteArray) (t : TypeId) (C : Array Value) (hC : C = (l.map Value.string).toArray) : StrsAt (w.alloc (.cells C t)) (some ⟨w.heap.size, 0, none⟩) l where
  none_ e := by cases e
  cell a e j s hs := by
    obtain rfl : (⟨w.heap.size, 0, none⟩ : Addr) = a := by injection e
    have e2 : (⟨w.heap.size, 0, none⟩ : Addr).add j = ⟨w.heap.size, j, none⟩ := by
      unfold Addr.add; by_cases h : j = 0
      · subst h; simp
      · simp [h]
    rw [e2, World.cell?_alloc_new, hC]
    simp [hs]

/-- Texts, one behind the other. -/
def joinL (l : List ByteArray) : ByteArray := ⟨(l.flatMap fun s => s.data.toList).toArray⟩
theorem joinL_data (l : List ByteArray) : (joinL l).data.toList = l.flatMap fun s => s.data.toList := rfl
theorem joinL_nil : joinL [] = ⟨#[]⟩ := rfl
theorem ba_ext {a b : ByteArray} (h : a.data.toList = b.data.toList) : a = b := by
  have d := Array.toList_inj.1 h
  cases a; cases b; simpa using d
theorem joinL_snoc (l : List ByteArray) (s : ByteArray) : joinL (l ++ [s]) = joinL l ++ s := by
  apply ba_ext
  rw [joinL_data, ByteArray.data_append, Array.toList_append, joinL_data]
  simp
theorem joinL_size (l : List ByteArray) : (joinL l).size = (l.map fun s => s.size).sum := by
  have e : (joinL l).size = (joinL l).data.toList.length := by simp
  rw [e, joinL_data, List.length_flatMap]
  simp
theorem joinL_one (s : ByteArray) : joinL [s] = s := by apply ba_ext; rw [joinL_data]; simp

end Go.Proofs.YtilpimilbjcifaaGreatDoor

/- Objects as attributes: plain codes of numbers, texts, lists and tuples, and what follows of them. No program is in sight. -/
namespace Go.Proofs.YtilpimilbjcifaaGreatDoor
set_option linter.unusedVariables false

/-- A code: values as texts; the zero one is the empty text. -/
structure Cod (β : Type) where
  enc : β → ByteArray
  dec : ByteArray → Option β
  ok : β → Prop
  zero : β
  cap : Nat
  there : ∀ v, ok v → dec (enc v) = some v
  back : ∀ s v, dec s = some v → ok v ∧ enc v = s
  none_ : dec ⟨#[]⟩ = some zero
  small : ∀ v, ok v → (enc v).size ≤ cap
theorem empty_of (s : ByteArray) (h : s.size = 0) : s = ⟨#[]⟩ := by
  apply ba_ext
  have : s.data.toList = [] := List.eq_nil_of_length_eq_zero (by rw [← size_data]; exact h)
  rw [this]
namespace Cod
variable {β : Type} (c : Cod β)
theorem ok_zero : c.ok c.zero := (c.back _ _ c.none_).1
theorem enc_zero : c.enc c.zero = ⟨#[]⟩ := (c.back _ _ c.none_).2
theorem zero_of {v : β} (h : c.ok v) (k : (c.enc v).size = 0) : v = c.zero := by
  have e := c.there v h
  rw [empty_of _ k, c.none_] at e
  injection e with e; exact e.symm
end Cod

/-! ### A tuple of values -/
section
variable {β : Type}
def attrsG : Nat → List (Cod β) → List β → List AtN
  | k, c :: cs, v :: vs => if (c.enc v).size = 0 then attrsG (k + 1) cs vs else ⟨k, c.enc v⟩ :: attrsG (k + 1) cs vs
  | _, _, _ => []
def okG : List (Cod β) → List β → Prop
  | [], [] => True
  | c :: cs, v :: vs => c.ok v ∧ okG cs vs
  | _, _ => False
def encG (cs : List (Cod β)) (vs : List β) : ByteArray := encA (attrsG 1 cs vs)
def zeroG (cs : List (Cod β)) : List β := cs.map Cod.zero
/-- The code of a type. -/
def codeAt (cs : List (Cod β)) (t : Nat) : Option (Cod β) := if t = 0 then none else cs[t - 1]?
/-- One attribute more. -/
def stepG (cs : List (Cod β)) (vs : List β) (a : AtN) : Option (List β) := match codeAt cs a.t with
  | none => none
  | some c => match c.dec a.v with
    | none => none
    | some v => some (vs.set (a.t - 1) v)
def readG (cs : List (Cod β)) : List β → List AtN → Option (List β)
  | vs, [] => some vs
  | vs, a :: l => match stepG cs vs a with
    | none => none
    | some vs2 => readG cs vs2 l
theorem readG_append (cs : List (Cod β)) : ∀ (l m : List AtN) (vs : List β), readG cs vs (l ++ m) = (readG cs vs l).bind fun vs2 => readG cs vs2 m := by
  intro l
  induction l with
  | nil => intro m vs; rfl
  | cons a l ih =>
    intro m vs
    simp only [List.cons_append, readG]
    cases stepG cs vs a with
    | none => rfl
    | some vs2 => exact ih m vs2
def decG (cs : List (Cod β)) (s : List UInt8) : List β × Nat :=
  if (decA [] 0 s).2 = 0 then match readG cs (zeroG cs) (decA [] 0 s).1 with
    | some vs => (vs, 0)
    | none => (zeroG cs, 3)
  else (zeroG cs, (decA [] 0 s).2)

theorem okG_length : ∀ (cs : List (Cod β)) (vs : List β), okG cs vs → vs.length = cs.length
  | [], [], _ => rfl
  | c :: cs, v :: vs, h => by simp [okG_length cs vs h.2]
  | [], _ :: _, h => h.elim
  | _ :: _, [], h => h.elim
theorem okG_zero : ∀ cs : List (Cod β), okG cs (zeroG cs)
  | [] => trivial
  | c :: cs => ⟨c.ok_zero, okG_zero cs⟩
theorem attrsG_zero : ∀ (cs : List (Cod β)) (k : Nat), attrsG k cs (zeroG cs) = []
  | [], _ => rfl
  | c :: cs, k => by
    show (if (c.enc c.zero).size = 0 then _ else _) = _
    rw [c.enc_zero, if_pos (show (⟨#[]⟩ : ByteArray).size = 0 from rfl)]
    exact attrsG_zero cs (k + 1)
theorem attrsG_t : ∀ (cs : List (Cod β)) (vs : List β) (k : Nat), ∀ a ∈ attrsG k cs vs, k ≤ a.t ∧ a.t < k + cs.length := by
  intro cs
  induction cs with
  | nil => intro vs k a h; cases vs <;> simp [attrsG] at h
  | cons c cs ih =>
    intro vs k a h
    cases vs with
    | nil => simp [attrsG] at h
    | cons v vs =>
      simp only [attrsG] at h
      simp only [List.length_cons]
      split at h
      · have := ih vs (k + 1) a h; omega
      · rcases List.mem_cons.1 h with rfl | h
        · dsimp only; omega
        · have := ih vs (k + 1) a h; omega
theorem okA_attrsG : ∀ (cs : List (Cod β)) (vs : List β) (k last : Nat), okG cs vs → (∀ c ∈ cs, c.cap ≤ 65535) → last < k → okA last (attrsG k cs vs) = 0 := by
  intro cs
  induction cs with
  | nil => intro vs k last h _ _; cases vs <;> rfl
  | cons c cs ih =>
    intro vs k last h hc hk
    cases vs with
    | nil => rfl
    | cons v vs =>
      simp only [attrsG]
      have c1 := c.small v h.1
      have c2 := hc c (.head _)
      split
      · exact ih vs (k + 1) last h.2 (fun x hx => hc x (.tail _ hx)) (by omega)
      · rename_i g
        show (if k ≤ last ∨ (c.enc v).size = 0 then 3 else if 65535 < (c.enc v).size then 5 else okA k _) = 0
        rw [if_neg (by omega), if_neg (by omega)]
        exact ih vs (k + 1) k h.2 (fun x hx => hc x (.tail _ hx)) (by omega)
theorem attrsG_size : ∀ (cs : List (Cod β)) (vs : List β) (k : Nat), okG cs vs → (bytsA (attrsG k cs vs)).length ≤ (cs.map fun c => 3 + c.cap).sum := by
  intro cs
  induction cs with
  | nil => intro vs k h; cases vs <;> simp [attrsG, bytsA]
  | cons c cs ih =>
    intro vs k h
    cases vs with
    | nil => exact h.elim
    | cons v vs =>
      simp only [attrsG, List.map_cons, List.sum_cons]
      have c1 := c.small v h.1
      have c2 := ih vs (k + 1) h.2
      split
      · omega
      · rw [bytsA_cons, List.length_append, bytA_length]; dsimp only; omega
/-- A value put where all behind it is zero. -/
theorem attrsG_set : ∀ (cs : List (Cod β)) (vs : List β) (k i : Nat) (c : Cod β) (v : β), cs[i]? = some c → vs.length = cs.length → (∀ j, i ≤ j → vs[j]? = (zeroG cs)[j]?) → (c.enc v).size ≠ 0 →
    attrsG k cs (vs.set i v) = attrsG k cs vs ++ [⟨k + i, c.enc v⟩] := by
  intro cs
  induction cs with
  | nil => intro vs k i c v h; simp at h
  | cons d cs ih =>
    intro vs k i c v h hl hz hv
    cases vs with
    | nil => simp at hl
    | cons u vs =>
      cases i with
      | zero =>
        obtain rfl : d = c := by simpa using h
        have e : u :: vs = zeroG (d :: cs) := List.ext_getElem? fun j => hz j (Nat.zero_le _)
        have e1 : u = d.zero := by injection e
        have e2 : vs = zeroG cs := by injection e
        subst e1 e2
        simp only [List.set_cons_zero, attrsG]
        rw [if_neg hv, attrsG_zero, d.enc_zero, if_pos (show (⟨#[]⟩ : ByteArray).size = 0 from rfl), Nat.add_zero]
        rfl
      | succ i =>
        have h' : cs[i]? = some c := by simpa using h
        have q := ih vs (k + 1) i c v h' (by simpa using hl) (fun j hj => by simpa [zeroG] using hz (j + 1) (by omega)) hv
        simp only [List.set_cons_succ, attrsG]
        have e : k + 1 + i = k + (i + 1) := by omega
        rw [e] at q
        split
        · rw [q]
        · rw [q]; rfl
theorem okG_at : ∀ (cs : List (Cod β)) (vs : List β) (i : Nat) (c : Cod β) (v : β), okG cs vs → cs[i]? = some c → vs[i]? = some v → c.ok v := by
  intro cs
  induction cs with
  | nil => intro vs i c v h hc; simp at hc
  | cons d cs ih =>
    intro vs i c v h hc hv
    cases vs with
    | nil => simp at hv
    | cons u vs =>
      cases i with
      | zero => simp at hc hv; subst hc hv; exact h.1
      | succ i => exact ih vs i c v h.2 (by simpa using hc) (by simpa using hv)
theorem okG_set : ∀ (cs : List (Cod β)) (vs : List β) (i : Nat) (c : Cod β) (v : β), okG cs vs → cs[i]? = some c → c.ok v → okG cs (vs.set i v) := by
  intro cs
  induction cs with
  | nil => intro vs i c v h hc; simp at hc
  | cons d cs ih =>
    intro vs i c v h hc hv
    cases vs with
    | nil => exact h.elim
    | cons u vs =>
      cases i with
      | zero => simp at hc; subst hc; exact ⟨hv, h.2⟩
      | succ i => exact ⟨h.1, ih vs i c v h.2 (by simpa using hc) hv⟩
/-- What was written is read. -/
theorem readG_attrs (cs : List (Cod β)) (vs : List β) (h : okG cs vs) : readG cs (zeroG cs) (attrsG 1 cs vs) = some vs := by
  have key : ∀ (post pre : List (Cod β)) (us ws : List β), us.length = pre.length → okG post ws → readG (pre ++ post) (us ++ zeroG post) (attrsG (pre.length + 1) post ws) = some (us ++ ws) := by
    intro post
    induction post with
    | nil =>
      intro pre us ws hl hk
      cases ws with
      | nil => simp [attrsG, readG, zeroG]
      | cons => exact hk.elim
    | cons c cs ih =>
      intro pre us ws hl hk
      cases ws with
      | nil => exact hk.elim
      | cons v vs =>
        have ih' := ih (pre ++ [c]) (us ++ [v]) vs (by simp [hl]) hk.2
        simp only [List.length_append, List.length_singleton, List.append_assoc, List.singleton_append] at ih'
        simp only [attrsG]
        split
        · rename_i g
          have e := c.zero_of hk.1 g
          rw [← ih', e]; rfl
        · rename_i g
          have hc : codeAt (pre ++ c :: cs) (pre.length + 1) = some c := by unfold codeAt; simp
          have hs : stepG (pre ++ c :: cs) (us ++ zeroG (c :: cs)) ⟨pre.length + 1, c.enc v⟩ = some (us ++ v :: zeroG cs) := by
            unfold stepG
            rw [hc]
            simp only
            rw [c.there v hk.1]
            simp only [Nat.add_sub_cancel, Option.some.injEq]
            rw [← hl, List.set_append_right _ _ (Nat.le_refl _), Nat.sub_self]
            rfl
          simp only [readG, hs]
          exact ih'
  exact key cs [] [] vs rfl h
/-- What was read is written as it was. -/
theorem readG_inv (cs : List (Cod β)) (l : List AtN) : ∀ vs, okA 0 l = 0 → readG cs (zeroG cs) l = some vs → okG cs vs ∧ attrsG 1 cs vs = l ∧ ∀ j, lastA 0 l ≤ j → vs[j]? = (zeroG cs)[j]? := by
  induction l using rev_ind with
  | nil =>
    intro vs _ h
    simp only [readG, Option.some.injEq] at h
    subst h
    exact ⟨okG_zero cs, attrsG_zero cs 1, fun _ _ => rfl⟩
  | snoc l a ih =>
    intro vs hk h
    rw [okA_append] at hk
    have k0 : okA 0 l = 0 := by
      by_cases q : okA 0 l = 0
      · exact q
      · rw [if_neg q] at hk; exact hk
    rw [if_pos k0] at hk
    have k1 : lastA 0 l < a.t ∧ a.v.size ≠ 0 := by
      have hk2 : (if a.t ≤ lastA 0 l ∨ a.v.size = 0 then 3 else if 65535 < a.v.size then 5 else okA a.t []) = 0 := hk
      split at hk2
      · cases hk2
      · rename_i q
        constructor
        · rcases Nat.lt_or_ge (lastA 0 l) a.t with q2 | q2
          · exact q2
          · exact absurd (.inl q2) q
        · exact fun q2 => q (.inr q2)
    rw [readG_append] at h
    cases h1 : readG cs (zeroG cs) l with
    | none => rw [h1] at h; cases h
    | some us =>
      rw [h1] at h
      obtain ⟨i1, i2, i3⟩ := ih us k0 h1
      simp only [Option.bind_some, readG] at h
      cases h2 : stepG cs us a with
      | none => rw [h2] at h; cases h
      | some ws =>
        rw [h2] at h
        simp only [Option.some.injEq] at h
        subst h
        unfold stepG at h2
        cases h3 : codeAt cs a.t with
        | none => rw [h3] at h2; cases h2
        | some c =>
          rw [h3] at h2
          simp only at h2
          cases h4 : c.dec a.v with
          | none => rw [h4] at h2; cases h2
          | some v =>
            rw [h4] at h2
            simp only [Option.some.injEq] at h2
            subst h2
            have h5 := c.back _ _ h4
            have hc : cs[a.t - 1]? = some c := by
              unfold codeAt at h3
              split at h3
              · cases h3
              · exact h3
            have ul := okG_length cs us i1
            refine ⟨okG_set cs us _ c v i1 hc h5.1, ?_, fun j hj => ?_⟩
            · rw [attrsG_set cs us 1 (a.t - 1) c v hc ul (fun j hj => i3 j (by omega)) (by rw [h5.2]; exact k1.2), i2, h5.2]
              have e : 1 + (a.t - 1) = a.t := by omega
              rw [e]
            · rw [lastA_snoc] at hj
              rw [List.getElem?_set_ne (by omega)]
              exact i3 j (by omega)

theorem encG_bytes (cs : List (Cod β)) (vs : List β) (h : okG cs vs) (hc : ∀ c ∈ cs, c.cap ≤ 65535) : encG cs vs = mkB (bytsA (attrsG 1 cs vs)) := by
  unfold encG encA
  rw [if_pos (okA_attrsG cs vs 1 0 h hc (by omega))]
theorem decG_enc (cs : List (Cod β)) (vs : List β) (h : okG cs vs) (hc : ∀ c ∈ cs, c.cap ≤ 65535) (hn : cs.length < 255) : decG cs (encG cs vs).data.toList = (vs, 0) := by
  have e : decA [] 0 (encG cs vs).data.toList = (attrsG 1 cs vs, 0) := by
    rw [encG_bytes cs vs h hc, mkB_data]
    have q := decA_enc (attrsG 1 cs vs) [] 0 [] (okA_attrsG cs vs 1 0 h hc (by omega)) (fun a ha => by have := attrsG_t cs vs 1 a ha; omega)
    rw [List.append_nil, decA_nil] at q
    exact q
  unfold decG
  rw [e]
  simp only [if_true, readG_attrs cs vs h]
theorem decG_inv (cs : List (Cod β)) (s : ByteArray) (vs : List β) (h : decG cs s.data.toList = (vs, 0)) : okG cs vs ∧ encG cs vs = s := by
  unfold decG at h
  split at h
  · rename_i c0
    obtain ⟨m, hm⟩ : ∃ m, decA [] 0 s.data.toList = (m, 0) := ⟨(decA [] 0 s.data.toList).1, Prod.ext rfl c0⟩
    obtain ⟨l, e1, e2, e3, e4⟩ := decA_inv _ s.data.toList rfl [] 0 m hm
    rw [hm] at h
    rw [List.nil_append] at e1
    subst e1
    cases hr : readG cs (zeroG cs) m with
    | none => rw [hr] at h; simp at h
    | some us =>
      rw [hr] at h
      simp only [Prod.mk.injEq, and_true] at h
      subst h
      obtain ⟨i1, i2, _⟩ := readG_inv cs m us e3 hr
      refine ⟨i1, ?_⟩
      unfold encG encA
      rw [i2, if_pos e3, ← e2, mkB_of]
  · rename_i c0
    injection h with _ h2
    exact absurd h2 c0
theorem decA_codes (s : List UInt8) : (decA [] 0 s).2 = 0 ∨ (decA [] 0 s).2 = 3 ∨ (decA [] 0 s).2 = 4 := by
  have key : ∀ (n : Nat) (s : List UInt8), s.length = n → ∀ acc last, (decA acc last s).2 = 0 ∨ (decA acc last s).2 = 3 ∨ (decA acc last s).2 = 4 := by
    intro n
    induction n using Nat.strongRecOn with
    | ind n ih =>
      intro s hs acc last
      by_cases c : s.length < 3
      · by_cases z : s = []
        · subst z; rw [decA_nil]; exact .inl rfl
        · rw [decA_short _ _ _ z c]; exact .inr (.inr rfl)
      · obtain ⟨t, a, b, r, rfl⟩ := three s (by omega)
        rw [decA_some]
        split
        · exact .inr (.inl rfl)
        · split
          · exact .inr (.inr rfl)
          · exact ih _ (by subst hs; simp; omega) _ rfl _ _
  exact key _ s rfl _ _
theorem decG_bad (cs : List (Cod β)) (s : List UInt8) : (decG cs s).2 = 0 ∨ ((decG cs s).1 = zeroG cs ∧ ((decG cs s).2 = 3 ∨ (decG cs s).2 = 4)) := by
  unfold decG
  split
  · cases readG cs (zeroG cs) (decA [] 0 s).1 with
    | some vs => exact .inl rfl
    | none => exact .inr ⟨rfl, .inl rfl⟩
  · rename_i c
    rcases decA_codes s with h | h | h
    · exact absurd h c
    · exact .inr ⟨rfl, .inl h⟩
    · exact .inr ⟨rfl, .inr h⟩
theorem encG_zero (cs : List (Cod β)) : encG cs (zeroG cs) = ⟨#[]⟩ := by
  unfold encG; rw [attrsG_zero]; rfl
theorem encG_empty (cs : List (Cod β)) (vs : List β) (h : okG cs vs) (hc : ∀ c ∈ cs, c.cap ≤ 65535) (hn : cs.length < 255) (e : encG cs vs = ⟨#[]⟩) : vs = zeroG cs := by
  have q := decG_enc cs vs h hc hn
  rw [e] at q
  have q2 := decG_enc cs (zeroG cs) (okG_zero cs) hc hn
  rw [encG_zero] at q2
  rw [q] at q2
  injection q2
theorem encG_inj (cs : List (Cod β)) (vs us : List β) (h : okG cs vs) (h2 : okG cs us) (hc : ∀ c ∈ cs, c.cap ≤ 65535) (hn : cs.length < 255) (e : encG cs vs = encG cs us) : vs = us := by
  have q := decG_enc cs vs h hc hn
  rw [e, decG_enc cs us h2 hc hn] at q
  injection q with q1 _
  exact q1.symm
/-- An attribute behind all of them. -/
theorem decG_behind (cs : List (Cod β)) (vs : List β) (h : okG cs vs) (hc : ∀ c ∈ cs, c.cap ≤ 65535) (hn : cs.length < 255) (t a b : UInt8) (r : List UInt8) (ht : cs.length < t.toNat) (hr : r.length = unword a b) :
    decG cs ((encG cs vs).data.toList ++ t :: a :: b :: r) = (zeroG cs, 3) := by
  have q := decA_enc (attrsG 1 cs vs) [] 0 (t :: a :: b :: r) (okA_attrsG cs vs 1 0 h hc (by omega)) (fun x hx => by have := attrsG_t cs vs 1 x hx; omega)
  rw [List.nil_append] at q
  have hlast : lastA 0 (attrsG 1 cs vs) ≤ cs.length := by
    unfold lastA
    cases e : (attrsG 1 cs vs).getLast? with
    | none => simp
    | some x =>
      have := attrsG_t cs vs 1 x (List.mem_of_getLast? e)
      simp only [Option.map_some, Option.getD_some]; omega
  have hcode : codeAt cs t.toNat = none := by
    unfold codeAt
    split
    · rfl
    · exact List.getElem?_eq_none (by omega)
  rw [encG_bytes cs vs h hc, mkB_data]
  by_cases z : unword a b = 0
  · have e : decA [] 0 (bytsA (attrsG 1 cs vs) ++ t :: a :: b :: r) = ([], 3) := by rw [q, decA_some, if_pos (.inr z)]
    unfold decG; rw [e]; rfl
  · have e : decA [] 0 (bytsA (attrsG 1 cs vs) ++ t :: a :: b :: r) = (attrsG 1 cs vs ++ [⟨t.toNat, mkB (r.take (unword a b))⟩], 0) := by
      rw [q, decA_some, if_neg (by omega), if_neg (by omega), List.drop_of_length_le (by omega), decA_nil]
    unfold decG; rw [e]
    simp only [if_true]
    rw [readG_append, readG_attrs cs vs h]
    simp only [Option.bind_some, readG, stepG, hcode]
end

/-! ### Codes -/
/-- Numbers up to top. -/
theorem rnum_numB (n top : Nat) (h : n ≤ top) (ht : top < 18446744073709551616) : rnumN (numB n) top = (n, 0) := by
  have l := numB_len n (by omega)
  have hh : (numB n).head? ≠ some 0 := by
    by_cases z : n = 0
    · subst z; rw [numB_0]; simp
    · obtain ⟨b, m, e, hb⟩ := numB_head n z
      rw [e]; simpa using hb
  unfold rnumN
  rw [if_neg (by rintro (q | q); omega; exact hh q), readB_numB, if_neg (by omega)]
theorem rnum_inv (s : List UInt8) (top n : Nat) (h : rnumN s top = (n, 0)) : n ≤ top ∧ numB n = s := by
  unfold rnumN at h
  split at h
  · simp at h
  · rename_i q
    split at h
    · simp at h
    · rename_i q2
      obtain rfl : readB s = n := by injection h
      refine ⟨by omega, numB_readB s fun b m e hb => q (.inr ?_)⟩
      rw [e, hb]; rfl
theorem rnum_codes (s : List UInt8) (top : Nat) : (rnumN s top).2 = 0 ∨ rnumN s top = (0, 3) := by
  unfold rnumN
  split
  · exact .inr rfl
  · split
    · exact .inr rfl
    · exact .inl rfl
def numC (top : Nat) (ht : top < 18446744073709551616) : Cod Int where
  enc n := mkB (numB n.toNat)
  dec s := if (rnumN s.data.toList top).2 = 0 then some ((rnumN s.data.toList top).1 : Int) else none
  ok n := 0 ≤ n ∧ n ≤ (top : Int)
  zero := 0
  cap := 8
  there v h := by
    rw [mkB_data, rnum_numB v.toNat top (by omega) ht]
    simp only [if_true]
    rw [Int.toNat_of_nonneg h.1]
  back s v h := by
    split at h
    · rename_i q
      injection h with h
      obtain ⟨h1, h2⟩ := rnum_inv s.data.toList top (rnumN s.data.toList top).1 (Prod.ext rfl q)
      subst h
      refine ⟨⟨by omega, by omega⟩, ?_⟩
      rw [Int.toNat_natCast, h2, mkB_of]
    · cases h
  none_ := rfl
  small v h := by rw [mkB_size]; exact numB_len _ (by omega)
/-- Lists of values. -/
def mapD {α : Type} (f : ByteArray → Option α) : List ByteArray → Option (List α)
  | [] => some []
  | s :: l => match f s with
    | none => none
    | some x => match mapD f l with
      | none => none
      | some r => some (x :: r)
theorem mapD_append {α : Type} (f : ByteArray → Option α) : ∀ (l m : List ByteArray), mapD f (l ++ m) = (mapD f l).bind fun x => (mapD f m).map fun y => x ++ y := by
  intro l
  induction l with
  | nil => intro m; simp only [List.nil_append, mapD, Option.bind_some]; cases mapD f m <;> rfl
  | cons s l ih =>
    intro m
    simp only [List.cons_append, mapD]
    cases f s with
    | none => rfl
    | some x =>
      simp only [ih m]
      cases mapD f l with
      | none => rfl
      | some r => cases mapD f m <;> rfl
theorem mapD_there {α : Type} (c : Cod α) : ∀ (l : List α), (∀ x ∈ l, c.ok x) → mapD c.dec (l.map c.enc) = some l
  | [], _ => rfl
  | x :: l, h => by
    simp only [List.map_cons, mapD]
    rw [c.there x (h x (.head _)), mapD_there c l (fun y hy => h y (.tail _ hy))]
theorem mapD_back {α : Type} (c : Cod α) : ∀ (s : List ByteArray) (l : List α), mapD c.dec s = some l → (∀ x ∈ l, c.ok x) ∧ l.map c.enc = s
  | [], l, h => by
    simp only [mapD, Option.some.injEq] at h
    subst h; exact ⟨(fun x m => by cases m), rfl⟩
  | a :: s, l, h => by
    simp only [mapD] at h
    cases h1 : c.dec a with
    | none => rw [h1] at h; cases h
    | some x =>
      rw [h1] at h
      cases h2 : mapD c.dec s with
      | none => rw [h2] at h; cases h
      | some r =>
        rw [h2] at h
        simp only [Option.some.injEq] at h
        subst h
        obtain ⟨i1, i2⟩ := mapD_back c s r h2
        obtain ⟨b1, b2⟩ := c.back _ _ h1
        refine ⟨fun y hy => ?_, by rw [List.map_cons, b2, i2]⟩
        rcases List.mem_cons.1 hy with rfl | hy
        · exact b1
        · exact i1 y hy
theorem mapD_length {α : Type} (f : ByteArray → Option α) : ∀ (s : List ByteArray) (l : List α), mapD f s = some l → l.length = s.length
  | [], l, h => by simp only [mapD, Option.some.injEq] at h; subst h; rfl
  | a :: s, l, h => by
    simp only [mapD] at h
    cases h1 : f a with
    | none => rw [h1] at h; cases h
    | some x =>
      rw [h1] at h
      cases h2 : mapD f s with
      | none => rw [h2] at h; cases h
      | some r =>
        rw [h2] at h
        simp only [Option.some.injEq] at h
        subst h
        simp [mapD_length f s r h2]
/-- A value of an object. -/
inductive ValN
  | num (n : Int)
  | txt (s : ByteArray)
  | lst (l : List (List Int))
def numV (top : Nat) (ht : top < 18446744073709551616) : Cod ValN where
  enc v := match v with
    | .num n => (numC top ht).enc n
    | _ => ⟨#[]⟩
  dec s := ((numC top ht).dec s).map .num
  ok v := ∃ n, v = .num n ∧ (numC top ht).ok n
  zero := .num 0
  cap := 8
  there v h := by obtain ⟨n, rfl, h⟩ := h; simp only [(numC top ht).there n h, Option.map_some]
  back s v h := by
    cases e : (numC top ht).dec s with
    | none => rw [e] at h; cases h
    | some n =>
      rw [e] at h
      simp only [Option.map_some, Option.some.injEq] at h
      subst h
      obtain ⟨h1, h2⟩ := (numC top ht).back s n e
      exact ⟨⟨n, rfl, h1⟩, h2⟩
  none_ := rfl
  small v h := by obtain ⟨n, rfl, h⟩ := h; exact (numC top ht).small n h
def txtV (most : Nat) : Cod ValN where
  enc v := match v with
    | .txt s => s
    | _ => ⟨#[]⟩
  dec s := if s.size ≤ most then some (.txt s) else none
  ok v := ∃ s, v = .txt s ∧ s.size ≤ most
  zero := .txt ⟨#[]⟩
  cap := most
  there v h := by obtain ⟨s, rfl, h⟩ := h; simp only [if_pos h]
  back s v h := by
    split at h
    · rename_i q
      injection h with h
      subst h
      exact ⟨⟨s, rfl, q⟩, rfl⟩
    · cases h
  none_ := by simp [ByteArray.size]
  small v h := by obtain ⟨s, rfl, h⟩ := h; exact h
theorem bytsT_capped : ∀ (l : List ByteArray) (k : Nat), (∀ s ∈ l, s.size ≤ k) → (bytsT l).length ≤ l.length * (2 + k)
  | [], _, _ => by simp [bytsT]
  | s :: l, k, h => by
    rw [bytsT_cons, List.length_append, bytT_length, List.length_cons, Nat.add_mul]
    have := bytsT_capped l k (fun x hx => h x (.tail _ hx))
    have := h s (.head _)
    omega
theorem okT_of : ∀ (l : List ByteArray), (∀ s ∈ l, s.size ≤ 65535) → okT l = 0
  | [], _ => rfl
  | s :: l, h => by
    show (if 65535 < s.size then 5 else okT l) = 0
    rw [if_neg (by have := h s (.head _); omega)]
    exact okT_of l fun x hx => h x (.tail _ hx)
def lstV (most : Nat) (it : Cod (List Int)) (hm : most * (2 + it.cap) ≤ 65535) (hi : it.cap ≤ 65535) : Cod ValN where
  enc v := match v with
    | .lst l => encT (l.map it.enc)
    | _ => ⟨#[]⟩
  dec s := if (decT [] most s.data.toList).2 = 0 then (mapD it.dec (decT [] most s.data.toList).1).map .lst else none
  ok v := ∃ l, v = .lst l ∧ l.length ≤ most ∧ ∀ x ∈ l, it.ok x
  zero := .lst []
  cap := 65535
  there v h := by
    obtain ⟨l, rfl, h1, h2⟩ := h
    have k0 : okT (l.map it.enc) = 0 := okT_of _ fun s hs => by
      obtain ⟨x, hx, rfl⟩ := List.mem_map.1 hs
      exact Nat.le_trans (it.small x (h2 x hx)) hi
    have e : decT [] most (encT (l.map it.enc)).data.toList = (l.map it.enc, 0) := by
      unfold encT
      rw [if_pos k0, mkB_data]
      have q := decT_enc (l.map it.enc) [] most [] k0 (by simp only [List.length_nil, List.length_map]; omega)
      rw [List.append_nil, decT_nil] at q
      exact q
    rw [e]
    simp only [if_true, mapD_there it l h2, Option.map_some]
  back s v h := by
    split at h
    · rename_i c0
      obtain ⟨m, hm2⟩ : ∃ m, decT [] most s.data.toList = (m, 0) := ⟨(decT [] most s.data.toList).1, Prod.ext rfl c0⟩
      obtain ⟨l, e1, e2, e3, e4⟩ := decT_inv _ s.data.toList rfl [] most m hm2
      rw [List.nil_append] at e1
      subst e1
      rw [hm2] at h
      simp only at h
      cases e5 : mapD it.dec m with
      | none => rw [e5] at h; cases h
      | some r =>
        rw [e5] at h
        simp only [Option.map_some, Option.some.injEq] at h
        subst h
        obtain ⟨b1, b2⟩ := mapD_back it m r e5
        have hl := mapD_length _ m r e5
        refine ⟨⟨r, rfl, ?_, b1⟩, ?_⟩
        · rcases e4 with e4 | e4
          · rw [e4] at hl; simp only [List.length_nil] at hl; omega
          · have e6 : (m.length : Int) ≤ (most : Int) := e4
            have e7 : r.length = m.length := hl
            omega
        · show encT (r.map it.enc) = s
          rw [b2]; unfold encT; rw [if_pos e3, ← e2, mkB_of]
    · cases h
  none_ := by
    have e : decT [] most (⟨#[]⟩ : ByteArray).data.toList = ([], 0) := decT_nil [] most
    rw [e]; rfl
  small v h := by
    obtain ⟨l, rfl, h1, h2⟩ := h
    show (encT (l.map it.enc)).size ≤ 65535
    unfold encT
    split
    · rw [mkB_size]
      have := bytsT_capped (l.map it.enc) it.cap (fun s hs => by
        obtain ⟨x, hx, rfl⟩ := List.mem_map.1 hs
        exact it.small x (h2 x hx))
      rw [List.length_map] at this
      have := Nat.mul_le_mul_right (2 + it.cap) h1
      omega
    · show 0 ≤ 65535; omega
/-- An item that is a number. -/
def oneI (top : Nat) (ht : top < 18446744073709551616) : Cod (List Int) where
  enc v := match v with
    | [n] => (numC top ht).enc n
    | _ => ⟨#[]⟩
  dec s := ((numC top ht).dec s).map fun n => [n]
  ok v := ∃ n, v = [n] ∧ (numC top ht).ok n
  zero := [0]
  cap := 8
  there v h := by obtain ⟨n, rfl, h⟩ := h; simp only [(numC top ht).there n h, Option.map_some]
  back s v h := by
    cases e : (numC top ht).dec s with
    | none => rw [e] at h; cases h
    | some n =>
      rw [e] at h
      simp only [Option.map_some, Option.some.injEq] at h
      subst h
      obtain ⟨h1, h2⟩ := (numC top ht).back s n e
      exact ⟨⟨n, rfl, h1⟩, h2⟩
  none_ := rfl
  small v h := by obtain ⟨n, rfl, h⟩ := h; exact (numC top ht).small n h
/-- An item that is a tuple. -/
def tupI (cs : List (Cod Int)) (hc : ∀ c ∈ cs, c.cap ≤ 65535) (hn : cs.length < 255) : Cod (List Int) where
  enc v := encG cs v
  dec s := if (decG cs s.data.toList).2 = 0 then some (decG cs s.data.toList).1 else none
  ok v := okG cs v
  zero := zeroG cs
  cap := (cs.map fun c => 3 + c.cap).sum
  there v h := by rw [decG_enc cs v h hc hn]; rfl
  back s v h := by
    split at h
    · rename_i c0
      injection h with h
      subst h
      exact decG_inv cs s _ (Prod.ext rfl c0)
    · cases h
  none_ := by
    have e := decG_enc cs (zeroG cs) (okG_zero cs) hc hn
    rw [encG_zero] at e
    rw [e]; rfl
  small v h := by rw [encG_bytes cs v h hc, mkB_size]; exact attrsG_size cs v 1 h

/-! ### The objects of a configuration -/
abbrev topI : Nat := 2147483647
abbrev topL : Nat := 9223372036854775807
abbrev topU : Nat := 18446744073709551615
def nI : Cod ValN := numV topI (by decide)
def nB : Cod ValN := numV 255 (by decide)
def nL : Cod ValN := numV topL (by decide)
def nU : Cod ValN := numV topU (by decide)
def nT : Cod ValN := numV 1 (by decide)
def tK : Cod ValN := txtV 32
def iI : Cod Int := numC topI (by decide)
def iB : Cod Int := numC 255 (by decide)
def iU : Cod Int := numC topU (by decide)
def iW : Cod Int := numC 4294967295 (by decide)
def csArm : List (Cod Int) := [iW, iI]
def csInstr : List (Cod Int) := [iB, iI, iB, iU, iB, iU, iI]
def csBucket : List (Cod Int) := [iU, iI]
def cArm : Cod (List Int) := tupI csArm (by decide) (by decide)
def cInstr : Cod (List Int) := tupI csInstr (by decide) (by decide)
def cBucket : Cod (List Int) := tupI csBucket (by decide) (by decide)
def cKey : Cod (List Int) := oneI topI (by decide)
def cArg : Cod (List Int) := oneI topU (by decide)
def lArms : Cod ValN := lstV 32 cArm (by decide) (by decide)
def lKeys : Cod ValN := lstV 4 cKey (by decide) (by decide)
def lArgs : Cod ValN := lstV 4 cArg (by decide) (by decide)
def lCode : Cod ValN := lstV 32 cInstr (by decide) (by decide)
def lBuckets : Cod ValN := lstV 16 cBucket (by decide) (by decide)
def csNode : List (Cod ValN) := [nI, nI, nI, nI, nI, nI, nI, nI, lArms]
def csField : List (Cod ValN) := [nI, nB, nI, nI, nI]
def csTable : List (Cod ValN) := [nI, nB, lKeys, nI, nI]
def csEntry : List (Cod ValN) := [nI, tK, tK, nI, nI, nI, lArgs, nL, nL, nU, nT]
def csBlock : List (Cod ValN) := [nI, lCode]
def csGroup : List (Cod ValN) := [nI, nB, nI, lBuckets]
def csMeter : List (Cod ValN) := [nI, nL, nL]
def csRegs : List (Cod ValN) := [nI, nI]
/-- The codes of each kind of object, in the chapter's row. -/
def csKind (k : Nat) : List (Cod ValN) := match k with
  | 0 => csNode
  | 1 => csField
  | 2 => csTable
  | 3 => csEntry
  | 4 => csBlock
  | 5 => csGroup
  | 6 => csMeter
  | _ => csRegs
theorem csKind_cap (k : Nat) : ∀ c ∈ csKind k, c.cap ≤ 65535 := by
  unfold csKind
  split <;> decide
theorem csKind_length (k : Nat) : (csKind k).length < 12 := by
  unfold csKind
  split <;> decide
end Go.Proofs.YtilpimilbjcifaaGreatDoor
