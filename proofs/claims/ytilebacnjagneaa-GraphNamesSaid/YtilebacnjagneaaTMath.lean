/- The document's attributes, numbers and lists as bytes: plain functions, and what follows of them. No program is in sight. -/
import Derived.Test.YtilebacnjagneaaBase
namespace Go.Proofs.Ytilebacnjagneaa
set_option linter.unusedVariables false

/-- A text of such bytes. -/
def mkB (l : List UInt8) : ByteArray := ⟨l.toArray⟩
theorem mkB_data (l : List UInt8) : (mkB l).data.toList = l := by simp [mkB]
theorem mkB_size (l : List UInt8) : (mkB l).size = l.length := by simp [mkB, ByteArray.size]
theorem mkB_of (s : ByteArray) : mkB s.data.toList = s := by cases s; simp [mkB]
theorem mkB_inj {l m : List UInt8} (h : mkB l = mkB m) : l = m := by rw [← mkB_data l, h, mkB_data]
theorem size_data (s : ByteArray) : s.size = s.data.toList.length := by simp

/-- Lists from behind. -/
theorem rev_ind {α : Type} {p : List α → Prop} (nil : p []) (snoc : ∀ l b, p l → p (l ++ [b])) (l : List α) : p l := by
  rw [← List.reverse_reverse l]
  induction l.reverse with
  | nil => exact nil
  | cons b l ih => rw [List.reverse_cons]; exact snoc _ _ ih
/-- An attribute. -/
structure AtN where
  t : Nat
  v : ByteArray
theorem AtN.ext' {a b : AtN} (h : a.t = b.t) (k : a.v = b.v) : a = b := by cases a; cases b; simp_all

/-- A number below 65536 as two bytes. -/
def wordB (n : Nat) : List UInt8 := [UInt8.ofNat (n / 256), UInt8.ofNat (n % 256)]
theorem wordB_length (n : Nat) : (wordB n).length = 2 := rfl
theorem ofNat_toNat8 (n : Nat) (h : n < 256) : (UInt8.ofNat n).toNat = n := by simp [UInt8.toNat_ofNat']; omega
def unword (a b : UInt8) : Nat := a.toNat * 256 + b.toNat
theorem unword_lt (a b : UInt8) : unword a b < 65536 := by have := a.toNat_lt; have := b.toNat_lt; unfold unword; omega
theorem unword_word (n : Nat) (h : n < 65536) : unword (UInt8.ofNat (n / 256)) (UInt8.ofNat (n % 256)) = n := by
  unfold unword; rw [ofNat_toNat8 _ (by omega), ofNat_toNat8 _ (by omega)]; omega
theorem word_unword (a b : UInt8) : wordB (unword a b) = [a, b] := by
  have ha := a.toNat_lt; have hb := b.toNat_lt
  unfold wordB
  have e1 : unword a b / 256 = a.toNat := by unfold unword; omega
  have e2 : unword a b % 256 = b.toNat := by unfold unword; omega
  rw [e1, e2]; simp

/-- An attribute's bytes. -/
def bytA (a : AtN) : List UInt8 := UInt8.ofNat a.t :: (wordB a.v.size ++ a.v.data.toList)
theorem bytA_length (a : AtN) : (bytA a).length = 3 + a.v.size := by simp [bytA, wordB]; omega
def bytsA (l : List AtN) : List UInt8 := l.flatMap bytA
theorem bytsA_nil : bytsA [] = [] := rfl
theorem bytsA_cons (a : AtN) (l : List AtN) : bytsA (a :: l) = bytA a ++ bytsA l := by simp [bytsA]
theorem bytsA_append (l m : List AtN) : bytsA (l ++ m) = bytsA l ++ bytsA m := by simp [bytsA]
theorem bytsA_snoc (l : List AtN) (a : AtN) : bytsA (l ++ [a]) = bytsA l ++ bytA a := by rw [bytsA_append]; simp [bytsA]
/-- How attributes are refused. -/
def okA : Nat → List AtN → Nat
  | _, [] => 0
  | last, a :: l => if a.t ≤ last ∨ a.v.size = 0 then 3 else if 65535 < a.v.size then 5 else okA a.t l
def lastA (last : Nat) (l : List AtN) : Nat := (l.getLast?.map AtN.t).getD last
theorem lastA_nil (last : Nat) : lastA last [] = last := rfl
theorem lastA_cons (last : Nat) (a : AtN) (l : List AtN) : lastA last (a :: l) = lastA a.t l := by
  cases l with
  | nil => rfl
  | cons b l =>
    simp only [lastA, List.getLast?_cons_cons]
    rw [List.getLast?_eq_some_getLast (List.cons_ne_nil b l)]; rfl
theorem lastA_snoc (last : Nat) (l : List AtN) (a : AtN) : lastA last (l ++ [a]) = a.t := by simp [lastA]
theorem okA_append : ∀ (l : List AtN) (last : Nat) (m : List AtN), okA last (l ++ m) = if okA last l = 0 then okA (lastA last l) m else okA last l := by
  intro l
  induction l with
  | nil => intro last m; simp [okA, lastA_nil]
  | cons a l ih =>
    intro last m
    rw [List.cons_append, lastA_cons]
    simp only [okA]
    split
    · simp
    · split
      · simp
      · exact ih a.t m
theorem okA_snoc (l : List AtN) (last : Nat) (a : AtN) (h : okA last l = 0) : okA last (l ++ [a]) = if a.t ≤ lastA last l ∨ a.v.size = 0 then 3 else if 65535 < a.v.size then 5 else 0 := by
  rw [okA_append, if_pos h]; simp [okA]
theorem okA_cases (l : List AtN) (last : Nat) : okA last l = 0 ∨ okA last l = 3 ∨ okA last l = 5 := by
  induction l generalizing last with
  | nil => simp [okA]
  | cons a l ih => simp only [okA]; split; simp; split; simp; exact ih a.t
/-- What is encoded, or nothing. -/
def encA (l : List AtN) : ByteArray := if okA 0 l = 0 then mkB (bytsA l) else ⟨#[]⟩

/-- Attributes out of bytes, behind those that are there, whose last type is told. -/
def decA (acc : List AtN) (last : Nat) (s : List UInt8) : List AtN × Nat :=
  if s.length = 0 then (acc, 0)
  else if s.length < 3 then ([], 4)
  else if (s.getD 0 0).toNat ≤ last ∨ unword (s.getD 1 0) (s.getD 2 0) = 0 then ([], 3)
  else if s.length < 3 + unword (s.getD 1 0) (s.getD 2 0) then ([], 4)
  else decA (acc ++ [⟨(s.getD 0 0).toNat, mkB ((s.drop 3).take (unword (s.getD 1 0) (s.getD 2 0)))⟩]) (s.getD 0 0).toNat (s.drop (3 + unword (s.getD 1 0) (s.getD 2 0)))
termination_by s.length
decreasing_by simp; omega
theorem decA_nil (acc : List AtN) (last : Nat) : decA acc last [] = (acc, 0) := by rw [decA]; simp
theorem decA_some (acc : List AtN) (last : Nat) (t a b : UInt8) (s : List UInt8) : decA acc last (t :: a :: b :: s) =
    if t.toNat ≤ last ∨ unword a b = 0 then ([], 3) else if s.length < unword a b then ([], 4) else decA (acc ++ [⟨t.toNat, mkB (s.take (unword a b))⟩]) t.toNat (s.drop (unword a b)) := by
  rw [decA]
  have e : ¬ (t :: a :: b :: s).length = 0 := by simp
  have e2 : ¬ (t :: a :: b :: s).length < 3 := by simp
  rw [if_neg e, if_neg e2]
  simp only [List.getD_cons_zero, List.getD_cons_succ]
  have e3 : (t :: a :: b :: s).drop (3 + unword a b) = s.drop (unword a b) := by rw [← List.drop_drop]; rfl
  have e4 : ((t :: a :: b :: s).length < 3 + unword a b) ↔ s.length < unword a b := by simp; omega
  rw [e3, show (t :: a :: b :: s).drop 3 = s from rfl]
  by_cases c : t.toNat ≤ last ∨ unword a b = 0
  · rw [if_pos c, if_pos c]
  · rw [if_neg c, if_neg c]
    by_cases d : s.length < unword a b
    · rw [if_pos d, if_pos (e4.2 d)]
    · rw [if_neg d, if_neg (fun h => d (e4.1 h))]
theorem decA_short (acc : List AtN) (last : Nat) (s : List UInt8) (h0 : s ≠ []) (h : s.length < 3) : decA acc last s = ([], 4) := by
  rw [decA, if_neg (by intro e; exact h0 (List.eq_nil_of_length_eq_zero e)), if_pos h]
theorem three (s : List UInt8) (h : 3 ≤ s.length) : ∃ t a b r, s = t :: a :: b :: r := by
  match s, h with
  | t :: a :: b :: r, _ => exact ⟨t, a, b, r, rfl⟩
theorem decA_enc : ∀ (l : List AtN) (acc : List AtN) (last : Nat) (rest : List UInt8), okA last l = 0 → (∀ a ∈ l, a.t < 256) → decA acc last (bytsA l ++ rest) = decA (acc ++ l) (lastA last l) rest := by
  intro l
  induction l with
  | nil => intro acc last rest _ _; simp [bytsA_nil, lastA_nil]
  | cons a l ih =>
    intro acc last rest h ht
    simp only [okA] at h
    split at h
    · omega
    · split at h
      · omega
      · rename_i c d
        have ta : a.t < 256 := ht a (by simp)
        rw [bytsA_cons]
        show decA acc last (UInt8.ofNat a.t :: UInt8.ofNat (a.v.size / 256) :: UInt8.ofNat (a.v.size % 256) :: (a.v.data.toList ++ bytsA l ++ rest)) = _
        rw [decA_some, unword_word _ (by omega), ofNat_toNat8 _ ta, if_neg c, if_neg (by simp)]
        have e1 : (a.v.data.toList ++ bytsA l ++ rest).take a.v.size = a.v.data.toList := by rw [List.append_assoc, List.take_left' (by simp)]
        have e2 : (a.v.data.toList ++ bytsA l ++ rest).drop a.v.size = bytsA l ++ rest := by rw [List.append_assoc, List.drop_left' (by simp)]
        rw [e1, e2, mkB_of, lastA_cons]
        rw [ih _ _ _ h (fun b hb => ht b (by simp [hb]))]
        simp
/-- What is decoded is encoded as it was. -/
theorem decA_inv : ∀ (n : Nat) (s : List UInt8), s.length = n → ∀ (acc : List AtN) (last : Nat) (m : List AtN), decA acc last s = (m, 0) →
    ∃ l, m = acc ++ l ∧ s = bytsA l ∧ okA last l = 0 ∧ ∀ a ∈ l, a.t < 256 := by
  intro n
  induction n using Nat.strongRecOn with
  | ind n ih =>
    intro s hs acc last m h
    by_cases c0 : s = []
    · subst c0
      rw [decA_nil] at h
      obtain ⟨rfl, _⟩ := Prod.mk.injEq .. ▸ h
      exact ⟨[], by simp, rfl, rfl, by simp⟩
    · by_cases c1 : s.length < 3
      · rw [decA_short _ _ _ c0 c1] at h; simp at h
      · obtain ⟨t, a, b, r, rfl⟩ := three s (by omega)
        rw [decA_some] at h
        split at h
        · simp at h
        · split at h
          · simp at h
          · rename_i c d
            obtain ⟨l, e1, e2, e3, e4⟩ := ih (r.drop (unword a b)).length (by subst hs; simp; omega) _ rfl _ _ _ h
            refine ⟨⟨t.toNat, mkB (r.take (unword a b))⟩ :: l, by simp [e1], ?_, ?_, ?_⟩
            · rw [bytsA_cons, ← e2]
              have e : (mkB (r.take (unword a b))).size = unword a b := by rw [mkB_size]; simp; omega
              simp only [bytA, e, word_unword, mkB_data]
              simp
            · have hu := unword_lt a b
              have hz : (mkB (r.take (unword a b))).size = unword a b := by rw [mkB_size]; simp; omega
              show (if t.toNat ≤ last ∨ (mkB (r.take (unword a b))).size = 0 then 3 else if 65535 < (mkB (r.take (unword a b))).size then 5 else okA t.toNat l) = 0
              rw [hz, if_neg c, if_neg (by omega)]; exact e3
            · intro x hx
              rcases List.mem_cons.1 hx with rfl | hx
              · exact t.toNat_lt
              · exact e4 x hx
theorem decA_bad : ∀ (n : Nat) (s : List UInt8), s.length = n → ∀ (acc : List AtN) (last : Nat), (decA acc last s).2 = 0 ∨ (decA acc last s).1 = [] := by
  intro n
  induction n using Nat.strongRecOn with
  | ind n ih =>
    intro s hs acc last
    by_cases c0 : s = []
    · subst c0; rw [decA_nil]; exact .inl rfl
    · by_cases c1 : s.length < 3
      · rw [decA_short _ _ _ c0 c1]; exact .inr rfl
      · obtain ⟨t, a, b, r, rfl⟩ := three s (by omega)
        rw [decA_some]
        split
        · exact .inr rfl
        · split
          · exact .inr rfl
          · exact ih _ (by subst hs; simp; omega) _ rfl _ _
theorem decA_short_of (l : List AtN) (a : AtN) (acc : List AtN) (last k : Nat) (h : okA last (l ++ [a]) = 0) (ht : ∀ x ∈ l ++ [a], x.t < 256) (h0 : 0 < k) (hk : k < (bytA a).length) :
    decA acc last (bytsA l ++ (bytA a).take k) = ([], 4) := by
  rw [okA_append] at h
  by_cases c : okA last l = 0
  · rw [if_pos c] at h
    rw [decA_enc l acc last _ c (fun x hx => ht x (by simp [hx]))]
    have ta : a.t < 256 := ht a (by simp)
    simp only [okA] at h
    split at h
    · omega
    · split at h
      · omega
      · rename_i d1 d2
        rw [bytA_length] at hk
        by_cases k3 : k < 3
        · apply decA_short
          · intro e
            have : ((bytA a).take k).length = 0 := by rw [e]; rfl
            rw [List.length_take, bytA_length] at this; omega
          · rw [List.length_take]; omega
        · obtain ⟨j, rfl⟩ : ∃ j, k = j + 3 := ⟨k - 3, by omega⟩
          have e : (bytA a).take (j + 3) = UInt8.ofNat a.t :: UInt8.ofNat (a.v.size / 256) :: UInt8.ofNat (a.v.size % 256) :: a.v.data.toList.take j := by
            simp [bytA, wordB]
          rw [e, decA_some, unword_word _ (by omega), ofNat_toNat8 _ ta, if_neg d1, if_pos (by simp; omega)]
  · rw [if_neg c] at h; exact absurd h c

/- Lists. -/
def bytT (s : ByteArray) : List UInt8 := wordB s.size ++ s.data.toList
theorem bytT_length (s : ByteArray) : (bytT s).length = 2 + s.size := by simp [bytT, wordB]; omega
def bytsT (l : List ByteArray) : List UInt8 := l.flatMap bytT
theorem bytsT_nil : bytsT [] = [] := rfl
theorem bytsT_cons (a : ByteArray) (l : List ByteArray) : bytsT (a :: l) = bytT a ++ bytsT l := by simp [bytsT]
theorem bytsT_append (l m : List ByteArray) : bytsT (l ++ m) = bytsT l ++ bytsT m := by simp [bytsT]
theorem bytsT_snoc (l : List ByteArray) (a : ByteArray) : bytsT (l ++ [a]) = bytsT l ++ bytT a := by rw [bytsT_append]; simp [bytsT]
def okT : List ByteArray → Nat
  | [] => 0
  | s :: l => if 65535 < s.size then 5 else okT l
theorem okT_append (l m : List ByteArray) : okT (l ++ m) = if okT l = 0 then okT m else okT l := by
  induction l with
  | nil => simp [okT]
  | cons s l ih => rw [List.cons_append]; simp only [okT]; split; simp; exact ih
theorem okT_snoc (l : List ByteArray) (s : ByteArray) (h : okT l = 0) : okT (l ++ [s]) = if 65535 < s.size then 5 else 0 := by
  rw [okT_append, if_pos h]; simp [okT]
theorem okT_cases (l : List ByteArray) : okT l = 0 ∨ okT l = 5 := by
  induction l with
  | nil => simp [okT]
  | cons a l ih => simp only [okT]; split; simp; exact ih
def encT (l : List ByteArray) : ByteArray := if okT l = 0 then mkB (bytsT l) else ⟨#[]⟩
/-- A list out of bytes, behind what is there, of so many at most. -/
def decT (acc : List ByteArray) (most : Int) (s : List UInt8) : List ByteArray × Nat :=
  if s.length = 0 then (acc, 0)
  else if s.length < 2 then ([], 4)
  else if most ≤ (acc.length : Int) then ([], 3)
  else if s.length < 2 + unword (s.getD 0 0) (s.getD 1 0) then ([], 4)
  else decT (acc ++ [mkB ((s.drop 2).take (unword (s.getD 0 0) (s.getD 1 0)))]) most (s.drop (2 + unword (s.getD 0 0) (s.getD 1 0)))
termination_by s.length
decreasing_by simp; omega
theorem decT_nil (acc : List ByteArray) (most : Int) : decT acc most [] = (acc, 0) := by rw [decT]; simp
theorem decT_some (acc : List ByteArray) (most : Int) (a b : UInt8) (s : List UInt8) : decT acc most (a :: b :: s) =
    if most ≤ (acc.length : Int) then ([], 3) else if s.length < unword a b then ([], 4) else decT (acc ++ [mkB (s.take (unword a b))]) most (s.drop (unword a b)) := by
  rw [decT]
  have e : ¬ (a :: b :: s).length = 0 := by simp
  have e2 : ¬ (a :: b :: s).length < 2 := by simp
  rw [if_neg e, if_neg e2]
  simp only [List.getD_cons_zero, List.getD_cons_succ]
  have e3 : (a :: b :: s).drop (2 + unword a b) = s.drop (unword a b) := by rw [← List.drop_drop]; rfl
  have e4 : ((a :: b :: s).length < 2 + unword a b) ↔ s.length < unword a b := by simp; omega
  rw [e3, show (a :: b :: s).drop 2 = s from rfl]
  by_cases c : most ≤ (acc.length : Int)
  · rw [if_pos c, if_pos c]
  · rw [if_neg c, if_neg c]
    by_cases d : s.length < unword a b
    · rw [if_pos d, if_pos (e4.2 d)]
    · rw [if_neg d, if_neg (fun h => d (e4.1 h))]
theorem decT_short (acc : List ByteArray) (most : Int) (s : List UInt8) (h0 : s ≠ []) (h : s.length < 2) : decT acc most s = ([], 4) := by
  rw [decT, if_neg (by intro e; exact h0 (List.eq_nil_of_length_eq_zero e)), if_pos h]
theorem pair2 (s : List UInt8) (h : 2 ≤ s.length) : ∃ a b r, s = a :: b :: r := by
  match s, h with
  | a :: b :: r, _ => exact ⟨a, b, r, rfl⟩
theorem decT_enc : ∀ (l : List ByteArray) (acc : List ByteArray) (most : Int) (rest : List UInt8), okT l = 0 → ((acc.length + l.length : Nat) : Int) ≤ most → decT acc most (bytsT l ++ rest) = decT (acc ++ l) most rest := by
  intro l
  induction l with
  | nil => intro acc most rest _ _; simp [bytsT_nil]
  | cons a l ih =>
    intro acc most rest h hm
    simp only [okT] at h
    split at h
    · omega
    · rename_i d
      rw [bytsT_cons]
      show decT acc most (UInt8.ofNat (a.size / 256) :: UInt8.ofNat (a.size % 256) :: (a.data.toList ++ bytsT l ++ rest)) = _
      have e1 : (a.data.toList ++ bytsT l ++ rest).take a.size = a.data.toList := by rw [List.append_assoc, List.take_left' (by simp)]
      have e2 : (a.data.toList ++ bytsT l ++ rest).drop a.size = bytsT l ++ rest := by rw [List.append_assoc, List.drop_left' (by simp)]
      rw [decT_some, unword_word _ (by omega), if_neg (by simp only [List.length_cons] at hm; omega), if_neg (by simp), e1, e2, mkB_of]
      rw [ih _ _ _ h (by simp only [List.length_append, List.length_cons, List.length_nil] at hm ⊢; omega)]
      simp
theorem decT_inv : ∀ (n : Nat) (s : List UInt8), s.length = n → ∀ (acc : List ByteArray) (most : Int) (m : List ByteArray), decT acc most s = (m, 0) →
    ∃ l, m = acc ++ l ∧ s = bytsT l ∧ okT l = 0 ∧ (l = [] ∨ (m.length : Int) ≤ most) := by
  intro n
  induction n using Nat.strongRecOn with
  | ind n ih =>
    intro s hs acc most m h
    by_cases c0 : s = []
    · subst c0
      rw [decT_nil] at h
      obtain ⟨rfl, _⟩ := Prod.mk.injEq .. ▸ h
      exact ⟨[], by simp, rfl, rfl, .inl rfl⟩
    · by_cases c1 : s.length < 2
      · rw [decT_short _ _ _ c0 c1] at h; simp at h
      · obtain ⟨a, b, r, rfl⟩ := pair2 s (by omega)
        rw [decT_some] at h
        split at h
        · simp at h
        · split at h
          · simp at h
          · rename_i c d
            obtain ⟨l, e1, e2, e3, e4⟩ := ih (r.drop (unword a b)).length (by subst hs; simp; omega) _ rfl _ _ _ h
            refine ⟨mkB (r.take (unword a b)) :: l, by simp [e1], ?_, ?_, .inr ?_⟩
            · rw [bytsT_cons, ← e2]
              have e : (mkB (r.take (unword a b))).size = unword a b := by rw [mkB_size]; simp; omega
              simp only [bytT, e, word_unword, mkB_data]
              simp
            · have hu := unword_lt a b
              have hz : (mkB (r.take (unword a b))).size = unword a b := by rw [mkB_size]; simp; omega
              show (if 65535 < (mkB (r.take (unword a b))).size then 5 else okT l) = 0
              rw [hz, if_neg (by omega)]; exact e3
            · rcases e4 with rfl | e4
              · rw [e1]; simp; omega
              · exact e4
theorem decT_bad : ∀ (n : Nat) (s : List UInt8), s.length = n → ∀ (acc : List ByteArray) (most : Int), (decT acc most s).2 = 0 ∨ (decT acc most s).1 = [] := by
  intro n
  induction n using Nat.strongRecOn with
  | ind n ih =>
    intro s hs acc most
    by_cases c0 : s = []
    · subst c0; rw [decT_nil]; exact .inl rfl
    · by_cases c1 : s.length < 2
      · rw [decT_short _ _ _ c0 c1]; exact .inr rfl
      · obtain ⟨a, b, r, rfl⟩ := pair2 s (by omega)
        rw [decT_some]
        split
        · exact .inr rfl
        · split
          · exact .inr rfl
          · exact ih _ (by subst hs; simp; omega) _ rfl _ _

/- Numbers. -/
/-- A number in as few bytes as there can be. -/
def numB (n : Nat) : List UInt8 := if n = 0 then [] else numB (n / 256) ++ [UInt8.ofNat (n % 256)]
termination_by n
decreasing_by omega
theorem numB_0 : numB 0 = [] := by rw [numB]; simp
theorem numB_pos (n : Nat) (h : n ≠ 0) : numB n = numB (n / 256) ++ [UInt8.ofNat (n % 256)] := by rw [numB, if_neg h]
def readB (l : List UInt8) : Nat := l.foldl (fun a b => a * 256 + b.toNat) 0
theorem readB_snoc (l : List UInt8) (b : UInt8) : readB (l ++ [b]) = readB l * 256 + b.toNat := by simp [readB]
theorem readB_nil : readB [] = 0 := rfl
theorem readB_numB (n : Nat) : readB (numB n) = n := by
  induction n using Nat.strongRecOn with
  | ind n ih =>
    by_cases h : n = 0
    · subst h; rw [numB_0]; rfl
    · rw [numB_pos n h, readB_snoc, ih (n / 256) (by omega), ofNat_toNat8 _ (by omega)]; omega
theorem readB_lt (l : List UInt8) : readB l < 256 ^ l.length := by
  induction l using rev_ind with
  | nil => simp [readB]
  | snoc l b ih =>
    have hb := b.toNat_lt
    rw [readB_snoc, List.length_append, List.length_singleton, Nat.pow_succ]
    omega
theorem numB_len_le (n k : Nat) (h : n < 256 ^ k) : (numB n).length ≤ k := by
  induction k generalizing n with
  | zero => have : n = 0 := by simpa using h
            subst this; rw [numB_0]; simp
  | succ k ih =>
    by_cases h0 : n = 0
    · subst h0; rw [numB_0]; simp
    · rw [numB_pos n h0, List.length_append, List.length_singleton]
      have : n / 256 < 256 ^ k := by rw [Nat.pow_succ] at h; omega
      have := ih _ this
      omega
theorem numB_len (n : Nat) (h : n < 18446744073709551616) : (numB n).length ≤ 8 := numB_len_le n 8 (by simpa using h)
theorem numB_len_gt (n k : Nat) (h : 256 ^ k ≤ n) : k < (numB n).length := by
  rcases Nat.lt_or_ge k (numB n).length with c | c
  · exact c
  · have := readB_lt (numB n)
    rw [readB_numB] at this
    have : 256 ^ (numB n).length ≤ 256 ^ k := Nat.pow_le_pow_right (by omega) c
    omega
theorem numB_head (n : Nat) (h : n ≠ 0) : ∃ b l, numB n = b :: l ∧ b ≠ 0 := by
  induction n using Nat.strongRecOn with
  | ind n ih =>
    rw [numB_pos n h]
    by_cases d : n / 256 = 0
    · rw [d, numB_0]
      refine ⟨_, [], rfl, ?_⟩
      intro e
      have := congrArg UInt8.toNat e
      rw [ofNat_toNat8 _ (by omega)] at this
      simp at this; omega
    · obtain ⟨b, l, e, hb⟩ := ih (n / 256) (by omega) d
      exact ⟨b, l ++ [UInt8.ofNat (n % 256)], by rw [e]; rfl, hb⟩
/-- What is read, without a nought ahead, is put as it was. -/
theorem numB_readB (l : List UInt8) : (∀ b m, l = b :: m → b ≠ 0) → numB (readB l) = l := by
  induction l using rev_ind with
  | nil => intro _; rw [readB_nil, numB_0]
  | snoc l b ih =>
    intro h
    have hb := b.toNat_lt
    have h0 : readB (l ++ [b]) ≠ 0 := by
      rw [readB_snoc]
      cases l with
      | nil =>
        have := h b [] rfl
        intro e
        apply this
        have e2 : b.toNat = 0 := by simpa [readB] using e
        exact UInt8.toNat_inj.1 e2
      | cons c l =>
        intro e
        have e1 : readB (c :: l) = 0 := by omega
        have e2 := ih (fun x m q => h x (m ++ [b]) (by rw [q]; rfl))
        rw [e1, numB_0] at e2
        cases e2
    rw [numB_pos _ h0, readB_snoc]
    have e1 : (readB l * 256 + b.toNat) / 256 = readB l := by omega
    have e2 : (readB l * 256 + b.toNat) % 256 = b.toNat := by omega
    rw [e1, e2, ih (fun x m q => h x (m ++ [b]) (by rw [q]; rfl))]
    simp
/-- How a number is read: with its error. -/
def rnumN (s : List UInt8) (most : Nat) : Nat × Nat :=
  if 8 < s.length ∨ s.head? = some 0 then (0, 3) else if most < readB s then (0, 3) else (readB s, 0)
theorem readB_cons (b : UInt8) (l : List UInt8) : readB (b :: l) = b.toNat * 256 ^ l.length + readB l := by
  induction l using rev_ind with
  | nil => simp [readB]
  | snoc l c ih =>
    have e : b :: (l ++ [c]) = (b :: l) ++ [c] := rfl
    rw [e, readB_snoc, ih, readB_snoc, List.length_append, List.length_singleton, Nat.pow_succ, Nat.add_mul]
    rw [Nat.mul_assoc, Nat.add_assoc]
theorem bytesLess_read : ∀ (l m : List UInt8), l.length = m.length → Op.bytesLess l m = decide (readB l < readB m) := by
  intro l
  induction l with
  | nil => intro m h; cases m with
    | nil => simp [Op.bytesLess, readB]
    | cons => simp at h
  | cons c l ih =>
    intro m h
    cases m with
    | nil => simp at h
    | cons d m =>
      have hl : l.length = m.length := by simpa using h
      unfold Op.bytesLess
      rw [ih m hl, readB_cons, readB_cons, hl]
      have a := readB_lt l
      have b := readB_lt m
      rw [hl] at a
      generalize 256 ^ m.length = P at *
      by_cases e : c = d
      · subst e
        have h1 : (c < c) = False := by simp
        simp [h1]
      · have hb : (c == d) = false := by simpa using e
        rw [hb, Bool.false_and, Bool.or_false]
        have ne : c.toNat ≠ d.toNat := fun q => e (UInt8.toNat_inj.1 q)
        rw [Bool.eq_iff_iff, decide_eq_true_eq, decide_eq_true_eq, UInt8.lt_iff_toNat_lt]
        rcases Nat.lt_or_ge c.toNat d.toNat with lt | ge
        · have : (c.toNat + 1) * P ≤ d.toNat * P := Nat.mul_le_mul_right _ lt
          rw [Nat.add_mul] at this
          constructor <;> intro <;> omega
        · have : (d.toNat + 1) * P ≤ c.toNat * P := Nat.mul_le_mul_right _ (by omega)
          rw [Nat.add_mul] at this
          constructor <;> intro <;> omega

end Go.Proofs.Ytilebacnjagneaa
