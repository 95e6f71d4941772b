/- The document's frames of a stream: plain functions, and what follows of them. No program is in sight. -/
import Derived.Test.YtcpjhgbbcfbnpaaTMath
import Derived.Test.YtcpjhgbbcfbnpaaStrs
namespace Go.Proofs.Ytcpjhgbbcfbnpaa
set_option linter.unusedVariables false

/-- The number that four bytes are. -/
def lenK (a b c d : UInt8) : Nat := ((a.toNat * 256 + b.toNat) * 256 + c.toNat) * 256 + d.toNat
theorem lenK_lt (a b c d : UInt8) : lenK a b c d < 4294967296 := by
  have := a.toNat_lt; have := b.toNat_lt; have := c.toNat_lt; have := d.toNat_lt; unfold lenK; omega
/-- May a body have so many bytes? -/
def goodK (n : Nat) : Bool := decide (5 ≤ n ∧ n ≤ 16384)
theorem goodK_true {n : Nat} (h : goodK n = true) : 5 ≤ n ∧ n ≤ 16384 := of_decide_eq_true h
theorem goodK_false {n : Nat} (h : goodK n = false) : n < 5 ∨ 16384 < n := by have := of_decide_eq_false h; omega
theorem four (s : List UInt8) (h : 4 ≤ s.length) : ∃ a b c d r, s = a :: b :: c :: d :: r := by
  match s, h with
  | a :: b :: c :: d :: r, _ => exact ⟨a, b, c, d, r, rfl⟩
/-- The bodies of bytes, behind those that are there; what waits; whether it is closed. -/
def feedK (acc : List ByteArray) (s : List UInt8) : List ByteArray × List UInt8 × Bool :=
  match h : s with
  | a :: b :: c :: d :: r =>
    if goodK (lenK a b c d) = false then (acc, [], true)
    else if r.length < lenK a b c d then (acc, s, false)
    else feedK (acc ++ [mkB (r.take (lenK a b c d))]) (r.drop (lenK a b c d))
  | _ => (acc, s, false)
termination_by s.length
decreasing_by subst h; simp; omega
theorem feedK_some (acc : List ByteArray) (a b c d : UInt8) (r : List UInt8) : feedK acc (a :: b :: c :: d :: r) =
    if goodK (lenK a b c d) = false then (acc, [], true) else if r.length < lenK a b c d then (acc, a :: b :: c :: d :: r, false)
    else feedK (acc ++ [mkB (r.take (lenK a b c d))]) (r.drop (lenK a b c d)) := by rw [feedK]
theorem feedK_few (acc : List ByteArray) (s : List UInt8) (h : s.length < 4) : feedK acc s = (acc, s, false) := by
  match s, h with
  | [], _ => rw [feedK]; simp
  | [_], _ => rw [feedK]; simp
  | [_, _], _ => rw [feedK]; simp
  | [_, _, _], _ => rw [feedK]; simp
  | _ :: _ :: _ :: _ :: _, h => simp at h; omega
/-- What is there ahead changes nothing. -/
theorem feedK_acc : ∀ (n : Nat) (s : List UInt8), s.length = n → ∀ acc, feedK acc s = (acc ++ (feedK [] s).1, (feedK [] s).2) := by
  intro n
  induction n using Nat.strongRecOn with
  | ind n ih =>
    intro s hs acc
    by_cases c4 : s.length < 4
    · rw [feedK_few _ _ c4, feedK_few _ _ c4]; simp
    · obtain ⟨a, b, c, d, r, rfl⟩ := four s (by omega)
      rw [feedK_some, feedK_some]
      split
      · simp
      · split
        · simp
        · rename_i g k
          have hn : (r.drop (lenK a b c d)).length < n := by subst hs; simp; omega
          rw [ih _ hn _ rfl (acc ++ _), ih _ hn _ rfl ([] ++ _)]
          simp
/-- Bytes behind: what waits, and they. -/
theorem feedK_more : ∀ (n : Nat) (s : List UInt8), s.length = n → ∀ acc t, feedK acc (s ++ t) = if (feedK [] s).2.2 = true then (acc ++ (feedK [] s).1, [], true) else feedK (acc ++ (feedK [] s).1) ((feedK [] s).2.1 ++ t) := by
  intro n
  induction n using Nat.strongRecOn with
  | ind n ih =>
    intro s hs acc t
    by_cases c4 : s.length < 4
    · rw [feedK_few [] s c4]; simp
    · obtain ⟨a, b, c, d, r, rfl⟩ := four s (by omega)
      rw [feedK_some []]
      by_cases g : goodK (lenK a b c d) = false
      · rw [if_pos g]
        show feedK acc (a :: b :: c :: d :: (r ++ t)) = _
        rw [feedK_some, if_pos g]; simp
      · rw [if_neg g]
        by_cases k : r.length < lenK a b c d
        · rw [if_pos k]; simp
        · rw [if_neg k]
          have hn : (r.drop (lenK a b c d)).length < n := by
            have := goodK_true (Bool.not_eq_false _ ▸ g : goodK _ = true)
            subst hs; simp; omega
          have e := feedK_acc _ (r.drop (lenK a b c d)) rfl ([] ++ [mkB (r.take (lenK a b c d))])
          rw [e]
          show feedK acc (a :: b :: c :: d :: (r ++ t)) = _
          rw [feedK_some, if_neg g, if_neg (by simp; omega)]
          rw [List.take_append_of_le_length (by omega), List.drop_append_of_le_length (by omega)]
          rw [ih _ hn _ rfl]
          simp
/-- A frame. -/
def frameK (s : ByteArray) : List UInt8 := 0 :: 0 :: (wordB s.size ++ s.data.toList)
theorem frameK_length (s : ByteArray) : (frameK s).length = 4 + s.size := by simp [frameK, wordB]; omega
theorem lenK_word (n : Nat) (h : n < 65536) : lenK 0 0 (UInt8.ofNat (n / 256)) (UInt8.ofNat (n % 256)) = n := by
  unfold lenK; rw [ofNat_toNat8 _ (by omega), ofNat_toNat8 _ (by omega)]
  have z : (0 : UInt8).toNat = 0 := rfl
  rw [z]; omega
theorem feedK_frame (acc : List ByteArray) (s : ByteArray) (h1 : 5 ≤ s.size) (h2 : s.size ≤ 16384) (t : List UInt8) : feedK acc (frameK s ++ t) = feedK (acc ++ [s]) t := by
  show feedK acc (0 :: 0 :: UInt8.ofNat (s.size / 256) :: UInt8.ofNat (s.size % 256) :: (s.data.toList ++ t)) = _
  have g : goodK s.size = true := decide_eq_true ⟨h1, h2⟩
  rw [feedK_some, lenK_word _ (by omega), if_neg (by rw [g]; decide), if_neg (by simp)]
  rw [List.take_left' (by simp), List.drop_left' (by simp), mkB_of]
theorem feedK_frames : ∀ (l : List ByteArray), (∀ s ∈ l, 5 ≤ s.size ∧ s.size ≤ 16384) → ∀ acc t, feedK acc (l.flatMap frameK ++ t) = feedK (acc ++ l) t := by
  intro l
  induction l with
  | nil => intro _ acc t; simp
  | cons s l ih =>
    intro h acc t
    rw [List.flatMap_cons, List.append_assoc, feedK_frame _ _ (h s (by simp)).1 (h s (by simp)).2, ih (fun x hx => h x (by simp [hx]))]
    simp
/-- What came is the frames of the bodies, and what waits. -/
theorem feedK_inv : ∀ (n : Nat) (s : List UInt8), s.length = n → ∃ rest, s = (feedK [] s).1.flatMap frameK ++ rest ∧ (∀ b ∈ (feedK [] s).1, 5 ≤ b.size ∧ b.size ≤ 16384) ∧
    (((feedK [] s).2.2 = false ∧ (feedK [] s).2.1 = rest ∧ (rest.length < 4 ∨ ∃ a b c d r, rest = a :: b :: c :: d :: r ∧ goodK (lenK a b c d) = true ∧ r.length < lenK a b c d)) ∨
     ((feedK [] s).2.2 = true ∧ (feedK [] s).2.1 = [] ∧ ∃ a b c d r, rest = a :: b :: c :: d :: r ∧ goodK (lenK a b c d) = false)) := by
  intro n
  induction n using Nat.strongRecOn with
  | ind n ih =>
    intro s hs
    by_cases c4 : s.length < 4
    · rw [feedK_few [] s c4]
      exact ⟨s, by simp, by simp, .inl ⟨rfl, rfl, .inl c4⟩⟩
    · obtain ⟨a, b, c, d, r, rfl⟩ := four s (by omega)
      rw [feedK_some []]
      by_cases g : goodK (lenK a b c d) = false
      · rw [if_pos g]
        exact ⟨_, by simp, by simp, .inr ⟨rfl, rfl, a, b, c, d, r, rfl, g⟩⟩
      · rw [if_neg g]
        have g2 : goodK (lenK a b c d) = true := by simpa using g
        by_cases k : r.length < lenK a b c d
        · rw [if_pos k]
          exact ⟨_, by simp, by simp, .inl ⟨rfl, rfl, .inr ⟨a, b, c, d, r, rfl, g2, k⟩⟩⟩
        · rw [if_neg k, feedK_acc _ _ rfl]
          have hg := goodK_true g2
          obtain ⟨rest, e1, e2, e3⟩ := ih (r.drop (lenK a b c d)).length (by subst hs; simp; omega) _ rfl
          have hz : (mkB (r.take (lenK a b c d))).size = lenK a b c d := by rw [mkB_size]; simp; omega
          have w0 : a = 0 ∧ b = 0 ∧ wordB (lenK a b c d) = [c, d] := by
            have la := a.toNat_lt; have lb := b.toNat_lt; have lc := c.toNat_lt; have ld := d.toNat_lt
            have a0 : a.toNat = 0 := by unfold lenK at hg; omega
            have b0 : b.toNat = 0 := by unfold lenK at hg; omega
            refine ⟨UInt8.toNat_inj.1 a0, UInt8.toNat_inj.1 b0, ?_⟩
            have e : lenK a b c d = unword c d := by unfold lenK unword; rw [a0, b0]; omega
            rw [e, word_unword]
          refine ⟨rest, ?_, ?_, ?_⟩
          · simp only [List.nil_append, List.flatMap_cons, List.cons_append]
            rw [List.append_assoc, ← e1]
            show _ = (0 :: 0 :: (wordB (mkB (r.take (lenK a b c d))).size ++ (mkB (r.take (lenK a b c d))).data.toList)) ++ _
            rw [hz, w0.2.2, mkB_data]
            obtain ⟨rfl, rfl, _⟩ := w0
            simp
          · intro x hx
            simp only [List.nil_append, List.cons_append, List.mem_cons] at hx
            rcases hx with rfl | hx
            · rw [hz]; exact hg
            · exact e2 x hx
          · exact e3
theorem feedK_waits (s : List UInt8) (h : (feedK [] s).2.2 = false) : feedK [] (feedK [] s).2.1 = ([], (feedK [] s).2.1, false) := by
  obtain ⟨rest, e1, e2, e3 | e3⟩ := feedK_inv _ s rfl
  · obtain ⟨_, e4, e5⟩ := e3
    rw [e4]
    rcases e5 with e5 | ⟨a, b, c, d, r, rfl, g, k⟩
    · exact feedK_few _ _ e5
    · rw [feedK_some, if_neg (by rw [g]; decide), if_pos k]
  · rw [e3.1] at h; cases h
theorem feedK_shut (s : List UInt8) (h : (feedK [] s).2.2 = true) : (feedK [] s).2.1 = [] := by
  obtain ⟨rest, e1, e2, e3 | e3⟩ := feedK_inv _ s rfl
  · rw [e3.1] at h; cases h
  · exact e3.2.1
theorem feedK_len (s : List UInt8) : (feedK [] s).2.1.length ≤ s.length ∧ 4 * (feedK [] s).1.length ≤ s.length := by
  obtain ⟨rest, e1, e2, e3⟩ := feedK_inv _ s rfl
  have h : 4 * (feedK [] s).1.length ≤ ((feedK [] s).1.flatMap frameK).length := by
    generalize (feedK [] s).1 = l
    induction l with
    | nil => simp
    | cons x l ih => rw [List.flatMap_cons, List.length_append, frameK_length, List.length_cons]; omega
  have e := congrArg List.length e1
  rw [List.length_append] at e
  rcases e3 with e3 | e3
  · rw [e3.2.1]; omega
  · rw [e3.2.1]; simp; omega
theorem feedK_both (s : List UInt8) : (feedK [] s).1.length + (feedK [] s).2.1.length ≤ s.length := by
  obtain ⟨rest, e1, e2, e3⟩ := feedK_inv _ s rfl
  have h : (feedK [] s).1.length ≤ ((feedK [] s).1.flatMap frameK).length := by
    generalize (feedK [] s).1 = l
    induction l with
    | nil => simp
    | cons x l ih => rw [List.flatMap_cons, List.length_append, frameK_length, List.length_cons]; omega
  have e := congrArg List.length e1
  rw [List.length_append] at e
  rcases e3 with e3 | e3
  · rw [e3.2.1]; omega
  · rw [e3.2.1]; simp; omega
/-- A stream: what waits, and whether it is closed. -/
structure StrK where
  r : List UInt8
  shut : Bool
def StrK.new : StrK := ⟨[], false⟩
/-- What a stream may be. -/
def StrK.Ok (x : StrK) : Prop := (x.shut = false ∧ feedK [] x.r = ([], x.r, false)) ∨ (x.shut = true ∧ x.r = [])
theorem StrK.new_ok : StrK.new.Ok := .inl ⟨rfl, feedK_few _ _ (by simp [StrK.new])⟩
/-- Bytes come: the bodies, the error, the stream behind it. -/
def StrK.feed (x : StrK) (s : ByteArray) : List ByteArray × Nat × StrK :=
  if x.shut = true then ([], 14, x)
  else ((feedK [] (x.r ++ s.data.toList)).1, (if (feedK [] (x.r ++ s.data.toList)).2.2 = true then 5 else 0), ⟨(feedK [] (x.r ++ s.data.toList)).2.1, (feedK [] (x.r ++ s.data.toList)).2.2⟩)
theorem StrK.feed_ok (x : StrK) (s : ByteArray) (h : x.Ok) : (x.feed s).2.2.Ok := by
  unfold StrK.feed
  split
  · exact h
  · by_cases c : (feedK [] (x.r ++ s.data.toList)).2.2 = true
    · exact .inr ⟨c, feedK_shut _ c⟩
    · exact .inl ⟨by simpa using c, feedK_waits _ (by simpa using c)⟩

/-- How a body is refused; its frame, or nothing. -/
def framE (s : ByteArray) : Nat := if s.size < 5 then 4 else if 16384 < s.size then 5 else 0
def framT (s : ByteArray) : ByteArray := if framE s = 0 then mkB (frameK s) else ⟨#[]⟩

theorem StrK.feed_len (x : StrK) (s : ByteArray) : (x.feed s).1.length + (x.feed s).2.2.r.length ≤ x.r.length + s.size := by
  unfold StrK.feed
  split
  · simp
  · have := feedK_both (x.r ++ s.data.toList)
    rw [List.length_append, ← size_data] at this
    exact this
/-- Chunks, one behind the other: the bodies, the first error, the stream behind them. -/
def stepK (q : List ByteArray × Nat × StrK) (s : ByteArray) : List ByteArray × Nat × StrK :=
  (q.1 ++ (q.2.2.feed s).1, if q.2.1 = 0 then (q.2.2.feed s).2.1 else q.2.1, (q.2.2.feed s).2.2)
def fedK (x : StrK) (l : List ByteArray) : List ByteArray × Nat × StrK := l.foldl stepK ([], 0, x)
theorem fedK_nil (x : StrK) : fedK x [] = ([], 0, x) := rfl
theorem fedK_snoc (x : StrK) (l : List ByteArray) (s : ByteArray) : fedK x (l ++ [s]) = stepK (fedK x l) s := by unfold fedK; rw [List.foldl_append]; rfl
theorem fedK_len (x : StrK) (l : List ByteArray) : (fedK x l).1.length + (fedK x l).2.2.r.length ≤ x.r.length + (joinL l).size := by
  induction l using rev_ind with
  | nil => simp [fedK_nil]
  | snoc l s ih =>
    rw [fedK_snoc, joinL_snoc, ByteArray.size_append]
    have := (fedK x l).2.2.feed_len s
    simp only [stepK, List.length_append]
    omega
/-- However bytes are cut. -/
theorem fedK_join (x : StrK) (h : x.Ok) (hx : x.shut = false) (l : List ByteArray) :
    fedK x l = ((feedK [] (x.r ++ (joinL l).data.toList)).1, (if (feedK [] (x.r ++ (joinL l).data.toList)).2.2 = true then 5 else 0), ⟨(feedK [] (x.r ++ (joinL l).data.toList)).2.1, (feedK [] (x.r ++ (joinL l).data.toList)).2.2⟩) := by
  induction l using rev_ind with
  | nil =>
    have e : feedK [] x.r = ([], x.r, false) := by
      rcases h with h | h
      · exact h.2
      · rw [hx] at h; exact absurd h.1 (by decide)
    rw [fedK_nil, joinL_nil]
    simp only [List.append_nil]
    rw [e]
    cases x
    simp_all
  | snoc l s ih =>
    rw [fedK_snoc, ih, joinL_snoc, ByteArray.data_append, Array.toList_append, ← List.append_assoc]
    obtain ⟨J, hJ⟩ : ∃ J, x.r ++ (joinL l).data.toList = J := ⟨_, rfl⟩
    rw [hJ, feedK_more _ J rfl]
    simp only [stepK]
    cases hs : (feedK [] J).2.2 with
    | true =>
      have e := feedK_shut J hs
      simp [StrK.feed, e]
    | false =>
      rw [feedK_acc _ ((feedK [] J).2.1 ++ s.data.toList) rfl ([] ++ (feedK [] J).1)]
      simp [StrK.feed]

end Go.Proofs.Ytcpjhgbbcfbnpaa
