/- Package rang: ranges, and what is found among them: the mathematics. -/
import Derived.Test.YtpdhahghpdckeaaURow
namespace Go.Proofs.Ytpdhahghpdckeaa
set_option linter.unusedVariables false

structure ItR where
  low : ByteArray
  high : ByteArray
  prio : Int
  v : Int
  deriving DecidableEq
/-! ### Texts, byte by byte -/
theorem bl_self : ∀ l : List UInt8, Op.bytesLess l l = false
  | [] => rfl
  | a :: l => by
    unfold Op.bytesLess
    rw [bl_self l]
    simp
theorem bl_asymm : ∀ a b : List UInt8, Op.bytesLess a b = true → Op.bytesLess b a = false
  | [], [], h => by simp [Op.bytesLess] at h
  | [], _ :: _, _ => rfl
  | _ :: _, [], h => by simp [Op.bytesLess] at h
  | a :: x, b :: y, h => by
    simp only [Op.bytesLess, Bool.or_eq_true, decide_eq_true_eq, Bool.and_eq_true, beq_iff_eq] at h
    simp only [Op.bytesLess, Bool.or_eq_false_iff, decide_eq_false_iff_not, Bool.and_eq_false_iff, beq_eq_false_iff_ne]
    rcases h with h | ⟨rfl, h⟩
    · have h := UInt8.lt_iff_toNat_lt.1 h
      exact ⟨fun k => by have := UInt8.lt_iff_toNat_lt.1 k; omega, .inl fun e => by subst e; omega⟩
    · exact ⟨fun k => by have := UInt8.lt_iff_toNat_lt.1 k; omega, .inr (bl_asymm x y h)⟩
def ltB (a b : ByteArray) : Bool := Op.bytesLess a.data.toList b.data.toList
def inB (p lo hi : ByteArray) : Bool := !ltB p lo && (ltB p hi || p.data.toList == hi.data.toList)
theorem inB_eq (p lo hi : ByteArray) : inB p lo hi = (!Op.bytesLess p.toList lo.toList && (Op.bytesLess p.toList hi.toList || p.toList == hi.toList)) := by
  unfold inB ltB
  rw [ByteArray.toList_eq, ByteArray.toList_eq, ByteArray.toList_eq]
def atMost (a b : ByteArray) : Bool := ltB a b || a.data.toList == b.data.toList
theorem inB_low (lo hi : ByteArray) : inB lo lo hi = atMost lo hi := by
  unfold inB atMost ltB
  rw [bl_self]; rfl
theorem inB_high {lo hi : ByteArray} (h : atMost lo hi = true) : inB hi lo hi = true := by
  unfold inB ltB
  rw [bl_self]
  simp only [Bool.false_or, beq_self_eq_true, Bool.and_true, Bool.not_eq_true']
  unfold atMost ltB at h
  rcases Bool.or_eq_true_iff.1 h with h | h
  · exact bl_asymm _ _ h
  · rw [eq_of_beq h]; exact bl_self _

/-! ### Parts -/
def inF (key : ByteArray) (x : ItR) : Nat → List Nat → Bool
  | _, [] => true
  | o, n :: ws => inB (key.extract o (o + n)) (x.low.extract o (o + n)) (x.high.extract o (o + n)) && inF key x (o + n) ws
def inK (ws : List Nat) (key : ByteArray) (x : ItR) : Bool := inF key x 0 ws
theorem inF_high (x : ItR) : ∀ (ws : List Nat) (o : Nat), inF x.low x o ws = true → inF x.high x o ws = true
  | [], _, _ => rfl
  | n :: ws, o, h => by
    unfold inF at h ⊢
    obtain ⟨h1, h2⟩ := Bool.and_eq_true_iff.1 h
    rw [inB_low] at h1
    rw [inB_high h1, inF_high x ws _ h2]; rfl

/-! ### The best one -/
def pickR (ws : List Nat) (key : ByteArray) (b : Option ItR) (x : ItR) : Option ItR :=
  if inK ws key x = true ∧ (∀ y, b = some y → y.prio < x.prio) then some x else b
def bestF (ws : List Nat) (key : ByteArray) (L : List ItR) : Option ItR := L.foldl (pickR ws key) none
def findR (ws : List Nat) (key : ByteArray) (L : List ItR) : Option ItR := if key.size = ws.sum then bestF ws key L else none
def numR (o : Option ItR) : Int := match o with | none => 0 | some x => x.v
theorem pick_no {ws : List Nat} {key : ByteArray} {b : Option ItR} {x : ItR} (h : inK ws key x = false) : pickR ws key b x = b := by
  unfold pickR
  rw [if_neg fun q => by rw [h] at q; cases q.1]
theorem pick_none {ws : List Nat} {key : ByteArray} {x : ItR} (h : inK ws key x = true) : pickR ws key none x = some x := by
  unfold pickR
  rw [if_pos ⟨h, fun y e => by cases e⟩]
theorem pick_more {ws : List Nat} {key : ByteArray} {x y : ItR} (h : inK ws key x = true) (k : y.prio < x.prio) : pickR ws key (some y) x = some x := by
  unfold pickR
  rw [if_pos ⟨h, fun z e => by cases e; exact k⟩]
theorem pick_less {ws : List Nat} {key : ByteArray} {x y : ItR} (k : ¬ y.prio < x.prio) : pickR ws key (some y) x = some y := by
  unfold pickR
  rw [if_neg fun q => k (q.2 y rfl)]
theorem bestF_snoc (ws : List Nat) (key : ByteArray) (L : List ItR) (x : ItR) : bestF ws key (L ++ [x]) = pickR ws key (bestF ws key L) x := by
  unfold bestF
  rw [List.foldl_append]; rfl
/-- The place of the best one, and itself. -/
def BestQ (ws : List Nat) (key : ByteArray) (L : List ItR) (k : Int) (o : Option ItR) : Prop :=
  (k = -1 ∧ o = none ∧ ∀ x ∈ L, inK ws key x = false) ∨
  ∃ (A B : List ItR) (y : ItR), L = A ++ y :: B ∧ k = (A.length : Int) ∧ o = some y ∧ inK ws key y = true ∧ (∀ x ∈ A, inK ws key x = true → x.prio < y.prio) ∧ ∀ x ∈ B, inK ws key x = true → x.prio ≤ y.prio
theorem BestQ.nil (ws : List Nat) (key : ByteArray) : BestQ ws key [] (-1) none := .inl ⟨rfl, rfl, fun x h => by cases h⟩
theorem BestQ.keep {ws : List Nat} {key : ByteArray} {L : List ItR} {k : Int} {o : Option ItR} (h : BestQ ws key L k o) {x : ItR} (hx : inK ws key x = false ∨ ∃ y, o = some y ∧ ¬ y.prio < x.prio) : BestQ ws key (L ++ [x]) k o ∧ pickR ws key o x = o := by
  refine ⟨?_, ?_⟩
  · rcases h with ⟨h1, h2, h3⟩ | ⟨A, B, y, e, h1, h2, h3, h4, h5⟩
    · refine .inl ⟨h1, h2, fun z hz => ?_⟩
      rcases List.mem_append.1 hz with hz | hz
      · exact h3 z hz
      · obtain rfl : z = x := by simpa using hz
        rcases hx with hx | ⟨y, hy, _⟩
        · exact hx
        · rw [h2] at hy; cases hy
    · refine .inr ⟨A, B ++ [x], y, by rw [e]; simp, h1, h2, h3, h4, fun z hz hin => ?_⟩
      rcases List.mem_append.1 hz with hz | hz
      · exact h5 z hz hin
      · obtain rfl : z = x := by simpa using hz
        rcases hx with hx | ⟨y', hy, c⟩
        · rw [hx] at hin; cases hin
        · rw [h2] at hy; cases hy; omega
  · rcases hx with hx | ⟨y, rfl, c⟩
    · exact pick_no hx
    · exact pick_less c
theorem BestQ.step {ws : List Nat} {key : ByteArray} {L : List ItR} {k : Int} {o : Option ItR} (h : BestQ ws key L k o) {x : ItR} (hx : inK ws key x = true) (hp : ∀ y, o = some y → y.prio < x.prio) : BestQ ws key (L ++ [x]) (L.length : Int) (some x) ∧ pickR ws key o x = some x := by
  refine ⟨.inr ⟨L, [], x, rfl, rfl, rfl, hx, fun z hz hin => ?_, fun z hz => by cases hz⟩, ?_⟩
  · rcases h with ⟨h1, h2, h3⟩ | ⟨A, B, y, e, h1, h2, h3, h4, h5⟩
    · rw [h3 z hz] at hin; cases hin
    · have := hp y h2
      rw [e] at hz
      rcases List.mem_append.1 hz with hz | hz
      · have := h4 z hz hin; omega
      · rcases List.mem_cons.1 hz with rfl | hz
        · exact this
        · have := h5 z hz hin; omega
  · unfold pickR
    rw [if_pos ⟨hx, hp⟩]
theorem foldl_no {ws : List Nat} {key : ByteArray} : ∀ (L : List ItR) (b : Option ItR), (∀ x ∈ L, inK ws key x = false) → L.foldl (pickR ws key) b = b
  | [], _, _ => rfl
  | x :: L, b, h => by
    rw [List.foldl_cons, pick_no (h x (.head _))]
    exact foldl_no L b fun z hz => h z (.tail _ hz)
theorem foldl_keep {ws : List Nat} {key : ByteArray} {y : ItR} : ∀ (L : List ItR), (∀ x ∈ L, inK ws key x = true → x.prio ≤ y.prio) → L.foldl (pickR ws key) (some y) = some y
  | [], _ => rfl
  | x :: L, h => by
    have e : pickR ws key (some y) x = some y := by
      cases c : inK ws key x with
      | false => exact pick_no c
      | true => exact pick_less (by have := h x (.head _) c; omega)
    rw [List.foldl_cons, e]
    exact foldl_keep L fun z hz => h z (.tail _ hz)
theorem foldl_below {ws : List Nat} {key : ByteArray} {p : Int} : ∀ (L : List ItR) (b : Option ItR), (∀ z, b = some z → z.prio < p) → (∀ x ∈ L, inK ws key x = true → x.prio < p) → ∀ z, L.foldl (pickR ws key) b = some z → z.prio < p
  | [], b, hb, _, z, e => hb z e
  | x :: L, b, hb, h, z, e => by
    rw [List.foldl_cons] at e
    refine foldl_below L _ (fun u hu => ?_) (fun u hu => h u (.tail _ hu)) z e
    unfold pickR at hu
    split at hu
    · rename_i c
      cases hu
      exact h x (.head _) c.1
    · exact hb u hu
theorem BestQ.is {ws : List Nat} {key : ByteArray} {L : List ItR} {k : Int} {o : Option ItR} (h : BestQ ws key L k o) : bestF ws key L = o := by
  rcases h with ⟨_, rfl, h3⟩ | ⟨A, B, y, rfl, _, rfl, h3, h4, h5⟩
  · exact foldl_no L none h3
  · unfold bestF
    rw [List.foldl_append, List.foldl_cons]
    have q := foldl_below (p := y.prio) A none (fun z e => by cases e) h4
    rw [show pickR ws key (A.foldl (pickR ws key) none) y = some y by unfold pickR; rw [if_pos ⟨h3, q⟩]]
    exact foldl_keep B h5
theorem bestQ (ws : List Nat) (key : ByteArray) (L : List ItR) : ∃ k, BestQ ws key L k (bestF ws key L) := by
  suffices ∀ (M : List ItR), ∃ k, BestQ ws key M.reverse k (bestF ws key M.reverse) by simpa using this L.reverse
  intro M
  induction M with
  | nil => exact ⟨-1, .nil ws key⟩
  | cons x M ih =>
    obtain ⟨k, h⟩ := ih
    rw [List.reverse_cons, bestF_snoc]
    by_cases c : inK ws key x = true ∧ ∀ y, bestF ws key M.reverse = some y → y.prio < x.prio
    · obtain ⟨h1, h2⟩ := h.step c.1 c.2
      rw [h2]; exact ⟨_, h1⟩
    · have c : inK ws key x = false ∨ ∃ y, bestF ws key M.reverse = some y ∧ ¬ y.prio < x.prio := by
        cases c0 : inK ws key x with
        | false => exact .inl rfl
        | true =>
          refine .inr (Classical.byContradiction fun q => c ⟨c0, fun y hy => ?_⟩)
          exact Classical.byContradiction fun q2 => q ⟨y, hy, q2⟩
      obtain ⟨h1, h2⟩ := h.keep c
      rw [h2]; exact ⟨k, h1⟩
/-- One that is not the best one, taken away. -/
theorem BestQ.less {ws : List Nat} {key : ByteArray} {L : List ItR} {k : Int} {o : Option ItR} (h : BestQ ws key L k o) {j : Nat} (hj : (j : Int) ≠ k) : bestF ws key (L.eraseIdx j) = o := by
  rcases h with ⟨_, rfl, h3⟩ | ⟨A, B, y, rfl, h1, rfl, h3, h4, h5⟩
  · exact foldl_no _ none fun x hx => h3 x (List.mem_of_mem_eraseIdx hx)
  · refine BestQ.is (k := ((A.eraseIdx j).length : Int)) ?_
    by_cases c : j < A.length
    · rw [List.eraseIdx_append_of_lt_length c]
      exact .inr ⟨_, _, y, rfl, rfl, rfl, h3, fun x hx => h4 x (List.mem_of_mem_eraseIdx hx), h5⟩
    · obtain ⟨i, rfl⟩ : ∃ i, j = A.length + (i + 1) := ⟨j - A.length - 1, by omega⟩
      rw [List.eraseIdx_append_of_length_le (by omega), show A.length + (i + 1) - A.length = i + 1 by omega, List.eraseIdx_cons_succ, List.eraseIdx_of_length_le (l := A) (by omega)]
      exact .inr ⟨_, _, y, rfl, rfl, rfl, h3, h4, fun x hx => h5 x (List.mem_of_mem_eraseIdx hx)⟩

/-! ### The same range -/
def SameR (x y : ItR) : Prop := x.low = y.low ∧ x.high = y.high ∧ x.prio = y.prio
instance (x y : ItR) : Decidable (SameR x y) := inferInstanceAs (Decidable (_ ∧ _ ∧ _))
def butR (L : List ItR) (x : ItR) : List ItR := L.filter fun y => decide (¬ SameR y x)
def FineR (L : List ItR) : Prop := L.Pairwise fun a b => ¬ SameR a b
theorem SameR.symm {x y : ItR} (h : SameR x y) : SameR y x := ⟨h.1.symm, h.2.1.symm, h.2.2.symm⟩
theorem SameR.trans {x y z : ItR} (h : SameR x y) (k : SameR y z) : SameR x z := ⟨h.1.trans k.1, h.2.1.trans k.2.1, h.2.2.trans k.2.2⟩
theorem butR_none {L : List ItR} {x : ItR} (h : ∀ y ∈ L, ¬ SameR y x) : butR L x = L := List.filter_eq_self.2 fun y hy => decide_eq_true (h y hy)
theorem butR_no {L : List ItR} {x y : ItR} (h : y ∈ butR L x) : y ∈ L ∧ ¬ SameR y x := by
  obtain ⟨h1, h2⟩ := List.mem_filter.1 h
  exact ⟨h1, of_decide_eq_true h2⟩
theorem butR_mid {A B : List ItR} {x y : ItR} (hA : ∀ z ∈ A, ¬ SameR z x) (hy : SameR y x) (hB : ∀ z ∈ B, ¬ SameR z x) : butR (A ++ y :: B) x = A ++ B := by
  unfold butR
  rw [List.filter_append, List.filter_cons, if_neg (by simp [hy])]
  rw [show A.filter (fun y => decide (¬ SameR y x)) = A from butR_none hA, show B.filter (fun y => decide (¬ SameR y x)) = B from butR_none hB]
theorem FineR.but {L : List ItR} (h : FineR L) (x : ItR) : FineR (butR L x) := List.Pairwise.filter _ h
theorem FineR.put {L : List ItR} (h : FineR L) (x : ItR) : FineR (butR L x ++ [x]) := by
  refine List.pairwise_append.2 ⟨h.but x, List.pairwise_singleton _ _, fun a ha b hb => ?_⟩
  obtain rfl : b = x := by simpa using hb
  exact (butR_no ha).2
theorem FineR.mid {A B : List ItR} {y : ItR} (h : FineR (A ++ y :: B)) {x : ItR} (hy : SameR y x) : (∀ z ∈ A, ¬ SameR z x) ∧ ∀ z ∈ B, ¬ SameR z x := by
  obtain ⟨h1, h2, h3⟩ := List.pairwise_append.1 h
  refine ⟨fun z hz q => h3 z hz y (.head _) (q.trans hy.symm), fun z hz q => (List.pairwise_cons.1 h2).1 z hz (hy.trans q.symm)⟩
theorem FineR.at {L : List ItR} (h : FineR L) {j : Nat} {y : ItR} (hj : L[j]? = some y) : butR L y = L.eraseIdx j := by
  obtain ⟨hl, rfl⟩ := List.getElem?_eq_some_iff.1 hj
  have e : L = L.take j ++ L[j] :: L.drop (j + 1) := by rw [List.getElem_cons_drop, List.take_append_drop]
  have q : FineR (L.take j ++ L[j] :: L.drop (j + 1)) := by rw [← e]; exact h
  obtain ⟨a, b⟩ := q.mid ⟨rfl, rfl, rfl⟩
  rw [List.eraseIdx_eq_take_drop_succ]
  conv => lhs; arg 1; rw [e]
  exact butR_mid a ⟨rfl, rfl, rfl⟩ b
theorem butR_len {L : List ItR} (x : ItR) : (butR L x).length ≤ L.length := List.length_filter_le _ _
/-- Where the first same one is, or that there is none. -/
theorem first_same (L : List ItR) (x : ItR) : (∀ y ∈ L, ¬ SameR y x) ∨ ∃ (A B : List ItR) (y : ItR), L = A ++ y :: B ∧ SameR y x ∧ ∀ z ∈ A, ¬ SameR z x := by
  induction L with
  | nil => exact .inl fun y h => by cases h
  | cons a L ih =>
    by_cases c : SameR a x
    · exact .inr ⟨[], L, a, rfl, c, fun z h => by cases h⟩
    · rcases ih with ih | ⟨A, B, y, rfl, h1, h2⟩
      · refine .inl fun y hy => ?_
        rcases List.mem_cons.1 hy with rfl | hy
        · exact c
        · exact ih y hy
      · refine .inr ⟨a :: A, B, y, rfl, h1, fun z hz => ?_⟩
        rcases List.mem_cons.1 hz with rfl | hz
        · exact c
        · exact h2 z hz

/-! ### Ranges as cells -/
def cellsOneR (x : ItR) : List Value := [.string x.low, .string x.high, .int .i64 x.prio, .int .i64 x.v]
def cellsR (l : List ItR) : List Value := l.flatMap cellsOneR
abbrev aggR (x : ItR) : Value := .agg #[.string x.low, .string x.high, .int .i64 x.prio, .int .i64 x.v]
def zeroR : ItR := ⟨⟨#[]⟩, ⟨#[]⟩, 0, 0⟩
theorem cellsR_cons (x : ItR) (l : List ItR) : cellsR (x :: l) = .string x.low :: .string x.high :: .int .i64 x.prio :: .int .i64 x.v :: cellsR l := rfl
theorem cellsR_length (l : List ItR) : (cellsR l).length = l.length * 4 := by
  induction l with
  | nil => rfl
  | cons x l ih => rw [cellsR_cons]; simp only [List.length_cons, ih]; omega
theorem cellsR_append (a b : List ItR) : cellsR (a ++ b) = cellsR a ++ cellsR b := List.flatMap_append
theorem cellsR_at : ∀ (l : List ItR) (j : Nat) (x : ItR), l[j]? = some x → (cellsR l)[j * 4]? = some (.string x.low) ∧ (cellsR l)[j * 4 + 1]? = some (.string x.high) ∧ (cellsR l)[j * 4 + 2]? = some (.int .i64 x.prio) ∧ (cellsR l)[j * 4 + 3]? = some (.int .i64 x.v)
  | [], j, x, h => by simp at h
  | y :: l, 0, x, h => by
    obtain rfl : y = x := by simpa using h
    exact ⟨rfl, rfl, rfl, rfl⟩
  | y :: l, j + 1, x, h => by
    have h : l[j]? = some x := by simpa using h
    obtain ⟨a, b, c, d⟩ := cellsR_at l j x h
    rw [cellsR_cons, show (j + 1) * 4 = j * 4 + 4 by omega]
    exact ⟨a, b, c, d⟩
theorem cellsR_one (l : List ItR) : ∀ u ∈ cellsR l, u.oneCell' = true := by
  intro u hu
  obtain ⟨x, _, h⟩ := List.mem_flatMap.1 hu
  simp only [cellsOneR, List.mem_cons, List.not_mem_nil, or_false] at h
  rcases h with rfl | rfl | rfl | rfl <;> rfl
theorem cellsR_set : ∀ (l : List ItR) (j : Nat) (x : ItR), j < l.length → ((((cellsR l).set (j * 4) (.string x.low)).set (j * 4 + 1) (.string x.high)).set (j * 4 + 2) (.int .i64 x.prio)).set (j * 4 + 3) (.int .i64 x.v) = cellsR (l.set j x)
  | [], j, x, h => by simp at h
  | y :: l, 0, x, h => rfl
  | y :: l, j + 1, x, h => by
    rw [cellsR_cons, List.set_cons_succ, cellsR_cons, show (j + 1) * 4 = j * 4 + 1 + 1 + 1 + 1 by omega]
    simp only [List.set_cons_succ]
    rw [cellsR_set l j x (by simpa using h)]
theorem cellsR_less {A B : List ItR} (p : ItR) : (cellsR (A ++ p :: B)).take (A.length * 4) ++ (cellsR (A ++ p :: B)).drop ((A.length + 1) * 4) = cellsR (A ++ B) := by
  rw [cellsR_append, cellsR_append, List.take_left' (cellsR_length A)]
  congr 1
  rw [show (A.length + 1) * 4 = (cellsR A).length + 4 by rw [cellsR_length]; omega, List.drop_append, List.drop_eq_nil_of_le (by omega), show (cellsR A).length + 4 - (cellsR A).length = 4 by omega]
  rfl
theorem cellsR_take : ∀ (l : List ItR) (k : Nat), (cellsR l).take (k * 4) = cellsR (l.take k)
  | l, 0 => by simp [cellsR]
  | [], k + 1 => by simp [cellsR]
  | x :: l, k + 1 => by
    rw [cellsR_cons, List.take_succ_cons, cellsR_cons, show (k + 1) * 4 = k * 4 + 1 + 1 + 1 + 1 by omega]
    simp only [List.take_succ_cons]
    rw [cellsR_take l k]
def intsW (ws : List Nat) : List Value := ws.map fun (n : Nat) => Value.int .i64 (n : Int)
theorem intsW_at {ws : List Nat} {j n : Nat} (h : ws[j]? = some n) : (intsW ws)[j]? = some (.int .i64 (n : Int)) := by
  unfold intsW; rw [List.getElem?_map, h]; rfl
theorem intsW_one (ws : List Nat) : ∀ u ∈ intsW ws, u.oneCell' = true := by
  intro u hu
  obtain ⟨x, _, rfl⟩ := List.mem_map.1 hu
  rfl
theorem intsW_length (ws : List Nat) : (intsW ws).length = ws.length := by simp [intsW]
theorem setR_next {l L : List ItR} {j k : Nat} (h1 : l.length = k) (h2 : ∀ i, i < j → l[i]? = L[i]?) (hj : j < k) {x : ItR} (hx : L[j]? = some x) : (l.set j x).length = k ∧ ∀ i, i < j + 1 → (l.set j x)[i]? = L[i]? := by
  refine ⟨by rw [List.length_set, h1], fun i hi => ?_⟩
  rw [List.getElem?_set]
  by_cases c : j = i
  · subst c
    rw [if_pos rfl, if_pos (by omega), hx]
  · rw [if_neg c]
    exact h2 i (by omega)
theorem takeR_next {L : List ItR} {j : Nat} {x : ItR} (h : L[j]? = some x) : L.take (j + 1) = L.take j ++ [x] := by
  obtain ⟨hk, rfl⟩ := List.getElem?_eq_some_iff.1 h
  rw [List.take_succ_eq_append_getElem hk]

/-! ### A set, by its ranges -/
structure GoodR (ws : List Nat) (L : List ItR) (N : Nat) : Prop where
  w4 : ws.length ≤ 4
  w16 : ∀ n ∈ ws, 1 ≤ n ∧ n ≤ 16
  it : ∀ x ∈ L, x.low.size = ws.sum ∧ x.high.size = ws.sum ∧ inK ws x.low x = true
  nd : FineR L
  len : L.length ≤ N
theorem sum_take_le : ∀ (ws : List Nat) (i : Nat), (ws.take i).sum ≤ ws.sum
  | [], i => by simp
  | n :: ws, 0 => by simp
  | n :: ws, i + 1 => by
    have := sum_take_le ws i
    simp only [List.take_succ_cons, List.sum_cons]; omega
theorem sum_take_next {ws : List Nat} {i n : Nat} (h : ws[i]? = some n) : (ws.take (i + 1)).sum = (ws.take i).sum + n := by
  obtain ⟨hk, rfl⟩ := List.getElem?_eq_some_iff.1 h
  rw [List.take_succ_eq_append_getElem hk, List.sum_append]; simp
theorem sum_le : ∀ (ws : List Nat), (∀ n ∈ ws, 1 ≤ n ∧ n ≤ 16) → ws.sum ≤ 16 * ws.length
  | [], _ => by simp
  | n :: ws, h => by
    have := sum_le ws fun m hm => h m (.tail _ hm)
    have := (h n (.head _)).2
    simp only [List.sum_cons, List.length_cons]; omega
theorem GoodR.sum {ws : List Nat} {L : List ItR} {N : Nat} (h : GoodR ws L N) : ws.sum ≤ 64 := by
  have := sum_le ws h.w16
  have := h.w4
  omega
theorem GoodR.but {ws : List Nat} {L : List ItR} {N : Nat} (h : GoodR ws L N) (x : ItR) : GoodR ws (butR L x) N :=
  ⟨h.w4, h.w16, fun y hy => h.it y (butR_no hy).1, h.nd.but x, Nat.le_trans (butR_len x) h.len⟩
theorem GoodR.put {ws : List Nat} {L : List ItR} {N : Nat} (h : GoodR ws L N) (x : ItR) (hx : x.low.size = ws.sum ∧ x.high.size = ws.sum ∧ inK ws x.low x = true) : GoodR ws (butR L x ++ [x]) (N + 1) :=
  ⟨h.w4, h.w16, fun y hy => by
    rcases List.mem_append.1 hy with hy | hy
    · exact h.it y (butR_no hy).1
    · obtain rfl : y = x := by simpa using hy
      exact hx, h.nd.put x, by have := butR_len (L := L) x; have := h.len; simp; omega⟩
theorem GoodR.up {ws : List Nat} {L : List ItR} {N M : Nat} (h : GoodR ws L N) (k : N ≤ M) : GoodR ws L M := ⟨h.w4, h.w16, h.it, h.nd, Nat.le_trans h.len k⟩
def FormR (ws : List Nat) (x : ItR) : Prop := x.low.size = ws.sum ∧ x.high.size = ws.sum ∧ inK ws x.low x = true

end Go.Proofs.Ytpdhahghpdckeaa
