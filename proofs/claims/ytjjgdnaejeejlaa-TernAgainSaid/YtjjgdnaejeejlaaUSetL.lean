/- Package tern: all items of a set: what the walk of All asks of memory, and the mathematics. -/
import Derived.Test.YtjjgdnaejeejlaaUSetK
namespace Go.Proofs.Ytjjgdnaejeejlaa
set_option linter.unusedVariables false
open Go.ChangeShapes Go.WideShapes Go.ChangeAt Go.RowKit Go.Joins Go.Maps Go.ChangeMaps
open Go.WideElems (Fit rd rg pl)

/-! ### Items in memory -/
def cellsIt (x : ItN) : List Value := [.string x.key, .string x.mask, .int .i64 x.prio, .int .i64 x.v]
def cellsI (l : List ItN) : List Value := l.flatMap cellsIt
theorem cellsI_cons (x : ItN) (l : List ItN) : cellsI (x :: l) = .string x.key :: .string x.mask :: .int .i64 x.prio :: .int .i64 x.v :: cellsI l := rfl
theorem cellsI_length (l : List ItN) : (cellsI l).length = l.length * 4 := by
  induction l with
  | nil => rfl
  | cons p l ih => rw [cellsI_cons]; simp only [List.length_cons]; rw [ih]; omega
theorem cellsI_at : ∀ (l : List ItN) (j : Nat) (x : ItN), l[j]? = some x → (cellsI l)[j * 4]? = some (.string x.key) ∧ (cellsI l)[j * 4 + 1]? = some (.string x.mask) ∧ (cellsI l)[j * 4 + 2]? = some (.int .i64 x.prio) ∧ (cellsI l)[j * 4 + 3]? = some (.int .i64 x.v)
  | [], j, x, h => by simp at h
  | y :: l, 0, x, h => by
    obtain rfl : y = x := by simpa using h
    rw [cellsI_cons]; exact ⟨rfl, rfl, rfl, rfl⟩
  | y :: l, j + 1, x, h => by
    have := cellsI_at l j x (by simpa using h)
    rw [cellsI_cons]
    have e : (j + 1) * 4 = j * 4 + 1 + 1 + 1 + 1 := by omega
    rw [e]
    simpa using this
theorem cellsI_one (l : List ItN) : ∀ u ∈ cellsI l, u.oneCell' = true := by
  intro u hu
  obtain ⟨p, _, hu⟩ := List.mem_flatMap.1 hu
  simp only [cellsIt, List.mem_cons, List.not_mem_nil, or_false] at hu
  rcases hu with rfl | rfl | rfl | rfl <;> rfl
theorem cellsI_set : ∀ (l : List ItN) (j : Nat) (x : ItN), j < l.length → ((((cellsI l).set (j * 4) (.string x.key)).set (j * 4 + 1) (.string x.mask)).set (j * 4 + 2) (.int .i64 x.prio)).set (j * 4 + 3) (.int .i64 x.v) = cellsI (l.set j x)
  | [], j, x, h => absurd h (Nat.not_lt_zero _)
  | y :: l, 0, x, h => by rw [List.set_cons_zero, cellsI_cons, cellsI_cons]; rfl
  | y :: l, j + 1, x, h => by
    have := cellsI_set l j x (by simpa using h)
    rw [cellsI_cons, List.set_cons_succ, cellsI_cons]
    have e : (j + 1) * 4 = j * 4 + 1 + 1 + 1 + 1 := by omega
    rw [e]
    simp only [List.set_cons_succ]
    rw [this]
theorem cellsI_free (n : Nat) : madeCells #[.string ⟨#[]⟩, .string ⟨#[]⟩, .int .i64 0, .int .i64 0] (n * 4) = (cellsI (List.replicate n zeroI)).toArray := by
  apply Array.ext_getElem?
  intro i
  have r : (cellsI (List.replicate n zeroI)).toArray[i]? = (cellsI (List.replicate n zeroI))[i]? := by simp
  rw [r]; clear r
  have l := cellsI_length (List.replicate n zeroI)
  rw [List.length_replicate] at l
  by_cases c : i < n * 4
  · obtain ⟨p, r, rfl, hr⟩ : ∃ p r, i = p * 4 + r ∧ r < 4 := ⟨i / 4, i % 4, by omega, by omega⟩
    have hp : p < n := by omega
    obtain ⟨a0, a1, a2, a3⟩ := cellsI_at (List.replicate n zeroI) p zeroI (by rw [List.getElem?_replicate, if_pos hp])
    match r, hr with
    | 0, _ =>
      rw [Nat.add_zero] at c ⊢
      rw [a0]
      have m : p * 4 % 4 = 0 := by omega
      simp [madeCells, c, m, zeroI]
    | 1, _ =>
      rw [a1]
      have m : (p * 4 + 1) % 4 = 1 := by omega
      simp [madeCells, c, m, zeroI]
    | 2, _ =>
      rw [a2]
      have m : (p * 4 + 2) % 4 = 2 := by omega
      simp [madeCells, c, m, zeroI]
    | 3, _ =>
      rw [a3]
      have m : (p * 4 + 3) % 4 = 3 := by omega
      simp [madeCells, c, m, zeroI]
  · rw [List.getElem?_eq_none (by omega)]
    simp [madeCells]; omega
abbrev rowI (v : Value) (n : Nat) (l : List ItN) : Thing := rowT 26 4 v n (cellsI l)
theorem infoItem : (Try.prog.info? 26).map (fun i => (i.zero, i.size, i.bytes)) = some (some (.agg #[.string ⟨#[]⟩, .string ⟨#[]⟩, .int .i64 0, .int .i64 0]), 4, 48) := by kernel_rfl
theorem makeI (n : Nat) (hn : n < 1000000) (w : World) : (Instr.makeSlice 38 (.int .i64 (n : Int)) (.int .i64 (n : Int))).run Try.prog w = .ok (.slice (some ⟨w.heap.size, 0, none⟩) n n) (w.alloc (.cells (cellsI (List.replicate n zeroI)).toArray 26)) := by
  obtain ⟨i0, hi, hz0, hz1, hz2⟩ := info_parts infoItem
  have h := run_make (P := Try.prog) (w := w) 38 26 i0 _ Try.underlying38 hi hz0 .i64 .i64 (n : Int) (n : Int) (by omega) (by omega) (by rw [hz2]; omega) (by omega)
  rw [hz1, Int.toNat_natCast] at h
  have e : (Value.agg #[.string ⟨#[]⟩, .string ⟨#[]⟩, .int .i64 0, .int .i64 0]).cells = #[.string ⟨#[]⟩, .string ⟨#[]⟩, .int .i64 0, .int .i64 0] := rfl
  rw [e, cellsI_free] at h
  exact h
/-- Things of a call's own, beside those of its caller. -/
theorem Own.over {V w w' : World} {L M : List Thing} (H : Own V w L) (K : Own w w' M) : Own V w' (M ++ L) where
  holds r m := by
    rcases List.mem_append.1 m with m | m
    · exact K.holds r m
    · exact (H.quiet K.wider).holds r m
  new r m i hi := by
    rcases List.mem_append.1 m with m | m
    · exact ⟨Nat.le_trans H.wider.2 (K.new r m i hi).1, (K.new r m i hi).2⟩
    · exact (H.quiet K.wider).new r m i hi
  apart := List.pairwise_append.2 ⟨K.apart, H.apart, fun a ha b hb i hi hj => by
    have := (K.new a ha i hi).1
    have := (H.new b hb i hj).2
    omega⟩
  stable r m := by
    rcases List.mem_append.1 m with m | m
    · exact K.stable r m
    · exact H.stable r m
  wider := H.wider.trans K.wider
/-! ### A range over a map -/
def ItAt (es : Array MapEntry) (clock M r : Nat) (left : Lit → Bool) (cnt : Nat) (w : World) : Prop :=
  ∃ since seen c0, w.heap[r]? = some (.mapIter (some M) since seen c0) ∧ (∀ x ∈ es.toList, x.born < since) ∧ (leftOf es seen).size = cnt ∧ (∀ x ∈ es.toList, left (rg Try.prog 9 heldU x).1 = !seen.contains x.born) ∧
    (∀ kl, left kl = true → ∃ x ∈ es.toList, (rg Try.prog 9 heldU x).1 = kl) ∧ since ≤ c0 ∧ since ≤ clock
abbrev itT (es : Array MapEntry) (clock M r : Nat) (left : Lit → Bool) (cnt : Nat) : Thing := ([r], fun w => ItAt es clock M r left cnt w)
theorem itT_stable (es : Array MapEntry) (clock M r : Nat) (left : Lit → Bool) (cnt : Nat) : (itT es clock M r left cnt).Stable := by
  rintro W w ⟨since, seen, c0, h, k⟩ hh
  exact ⟨since, seen, c0, (hh r (by simp)).trans h, k⟩
theorem ranges_it {w : World} {M r n : Nat} {D : DataW Value} {left : Lit → Bool} {cnt : Nat} {es : Array MapEntry} {clock : Nat} (h : w.ranges Try.prog 9 heldU M r n D left cnt) (hb : w.heap[M]? = some (.map es clock)) : ItAt es clock M r left cnt w := by
  obtain ⟨es2, clock2, since, seen, c0, hb2, F, hs, hD, hr, k⟩ := h
  rw [hb] at hb2
  injection hb2 with hb2
  injection hb2 with e1 e2
  subst e1 e2
  exact ⟨since, seen, c0, hr, k⟩
theorem it_ranges {w : World} {M r n : Nat} {D : DataW Value} {left : Lit → Bool} {cnt : Nat} {es : Array MapEntry} {clock : Nat} (h : ItAt es clock M r left cnt w) (hb : w.heap[M]? = some (.map es clock)) (F : Fit Try.prog 9 heldU es clock) (hs : es.size ≤ n) (hD : D = .map ((es.toList.map (rg Try.prog 9 heldU)).foldr DataW.insert [])) :
    w.ranges Try.prog 9 heldU M r n D left cnt := by
  obtain ⟨since, seen, c0, hr, k⟩ := h
  exact ⟨es, clock, since, seen, c0, hb, F, hs, hD, hr, k⟩
/-! ### Rows that a range has met -/
def metR (l : List RowN) (left : Lit → Bool) : List RowN := l.filter fun r => !left (keyU r.key)
theorem met_none (l : List RowN) {left : Lit → Bool} (h : ∀ r ∈ l, left (keyU r.key) = true) : metR l left = [] := by
  refine List.filter_eq_nil_iff.2 fun r hr => ?_
  rw [h r hr]; decide
theorem met_all (l : List RowN) {left : Lit → Bool} (h : ∀ k, left k = false) : metR l left = l := by
  refine List.filter_eq_self.2 fun r hr => ?_
  rw [h]; rfl
theorem sameKeyU (a b : ByteArray) : (keyU a).sameKey (keyU b) = decide (a = b) := by
  by_cases e : a = b
  · subst e
    rw [decide_eq_true rfl]
    unfold keyU Lit.sameKey
    simp
  · rw [decide_eq_false e]
    exact sameKey_ne fun q => e (keyU_inj q)
theorem met_next {l : List RowN} (hk : KeysR l) {left : Lit → Bool} {r : RowN} (hr : r ∈ l) (hl : left (keyU r.key) = true) : (metR l fun z => left z && !z.sameKey (keyU r.key)).Perm (metR l left ++ [r]) := by
  induction l with
  | nil => cases hr
  | cons a l ih =>
    obtain ⟨h1, h2⟩ := List.pairwise_cons.1 hk
    unfold metR
    rw [List.filter_cons, List.filter_cons]
    rcases List.mem_cons.1 hr with rfl | hr
    · rw [if_pos (by simp [sameKeyU]), if_neg (by simp [hl])]
      have e : (l.filter fun x => !(left (keyU x.key) && !(keyU x.key).sameKey (keyU r.key))) = l.filter fun x => !left (keyU x.key) := by
        refine List.filter_congr fun x hx => ?_
        have ne : x.key ≠ r.key := fun q => h1 x hx q.symm
        simp [sameKeyU, ne]
      rw [e]
      exact List.perm_append_comm (l₁ := [r])
    · have ne : a.key ≠ r.key := fun q => h1 r hr q
      have ihh := ih h2 hr
      unfold metR at ihh
      by_cases c : left (keyU a.key) = true
      · rw [if_neg (by simp [c, sameKeyU, ne]), if_neg (by simp [c])]
        exact ihh
      · rw [if_pos (by simp [c]), if_pos (by simp [c])]
        exact ihh.cons a
/-- Two lists that rise strictly, of the same items, are one. -/
theorem strict_unique : ∀ {P Q : List PlN}, (P.Pairwise fun a b => a.pl < b.pl) → (Q.Pairwise fun a b => a.pl < b.pl) → P.Perm Q → P = Q
  | [], Q, _, _, h => (List.Perm.nil_eq h)
  | p :: P, [], _, _, h => absurd h.length_eq (by simp)
  | p :: P, q :: Q, hP, hQ, h => by
    obtain ⟨p1, p2⟩ := List.pairwise_cons.1 hP
    obtain ⟨q1, q2⟩ := List.pairwise_cons.1 hQ
    have e : p = q := by
      rcases List.mem_cons.1 (h.mem_iff.1 (List.mem_cons_self (a := p) (l := P))) with e | e
      · exact e
      · rcases List.mem_cons.1 (h.mem_iff.2 (List.mem_cons_self (a := q) (l := Q))) with e2 | e2
        · exact e2.symm
        · have := q1 p e
          have := p1 q e2
          omega
    subst e
    rw [strict_unique p2 q2 (List.Perm.cons_inv h)]
theorem sorted_strict {P : List PlN} (h : P.Pairwise fun a b => a.pl ≤ b.pl) (k : P.Pairwise fun a b => a.pl ≠ b.pl) : P.Pairwise fun a b => a.pl < b.pl := by
  have := h.and k
  exact this.imp fun {a b} ⟨h1, h2⟩ => by omega
theorem all_sorted {s : SetN} {L : List ItN} (hg : GoodS s) (h : IsAll s L) {qs : List PlN} (p : qs.Perm (flatS s.gs)) (hs : qs.Pairwise fun a b => a.pl ≤ b.pl) : qs.map (·.x) = L := by
  obtain ⟨Ps, p1, p2, rfl⟩ := h
  have e := strict_unique (sorted_strict hs (pairwise_ne_of p.symm hg.places)) p2 (p.trans p1.symm)
  rw [e]

end Go.Proofs.Ytjjgdnaejeejlaa
