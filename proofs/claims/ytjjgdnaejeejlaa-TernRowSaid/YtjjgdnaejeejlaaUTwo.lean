/- Package tern: two sets in memory, by all their items: contracts of what either is asked. -/
import Derived.Test.YtjjgdnaejeejlaaUBits
namespace Go.Proofs.Ytjjgdnaejeejlaa
set_option linter.unusedVariables false
open Go.ChangeShapes Go.WideShapes Go.ChangeAt Go.RowKit Go.Joins

def SetTwo (V w : World) (R : List Thing) (S : Nat) (L : List ItN) (N : Nat) (T : Nat) (M : List ItN) (K : Nat) : Prop := ∃ s t : SetN, s.A = S ∧ t.A = T ∧ Own V w (s.things ++ (t.things ++ R)) ∧ SetL s L N ∧ SetL t M K
section
variable {V w : World} {R : List Thing} {S : Nat} {L : List ItN} {N : Nat} {T : Nat} {M : List ItN} {K : Nat}
theorem SetTwo.swap (h : SetTwo V w R S L N T M K) : SetTwo V w R T M K S L N := by
  obtain ⟨s, t, e1, e2, H, h1, h2⟩ := h
  refine ⟨t, s, e2, e1, H.perm ?_, h2, h1⟩
  rw [← List.append_assoc, ← List.append_assoc]
  exact List.perm_append_comm.append_right _
theorem SetTwo.quiet {w' : World} (h : SetTwo V w R S L N T M K) (g : Wider w w') : SetTwo V w' R S L N T M K := by
  obtain ⟨s, t, e1, e2, H, h1, h2⟩ := h
  exact ⟨s, t, e1, e2, H.quiet g, h1, h2⟩
theorem SetTwo.wider (h : SetTwo V w R S L N T M K) : Wider V w := by
  obtain ⟨s, t, e1, e2, H, h1, h2⟩ := h; exact H.wider
theorem SetTwo.rest (h : SetTwo V w R S L N T M K) : Own V w R := by
  obtain ⟨s, t, e1, e2, H, h1, h2⟩ := h; exact Own.dropL (Own.dropL H)
theorem SetTwo.one (h : SetTwo V w R S L N T M K) : ∃ t : SetN, t.A = T ∧ SetL t M K ∧ SetIs V w (t.things ++ R) S L N := by
  obtain ⟨s, t, e1, e2, H, h1, h2⟩ := h
  exact ⟨t, e2, h2, s, e1, H, h1⟩
theorem SetTwo.of {t : SetN} (e : t.A = T) (h2 : SetL t M K) (h : SetIs V w (t.things ++ R) S L N) : SetTwo V w R S L N T M K := by
  obtain ⟨s, e1, H, h1⟩ := h
  exact ⟨s, t, e1, e, H, h1, h2⟩
theorem SetTwo.blk (h : SetTwo V w R S L N T M K) (C : Array Value) (ty : TypeId) : SetTwo V (w.alloc (.cells C ty)) (blkT w.heap.size C ty :: R) S L N T M K := by
  obtain ⟨t, e, h2, h⟩ := h.one
  exact .of e h2 ((h.blk C ty).perm (List.perm_middle (l₁ := t.things)).symm)
theorem SetTwo.up {J : Nat} (h : SetTwo V w R S L N T M K) (hJ : N ≤ J) : SetTwo V w R S L J T M K := by
  obtain ⟨t, e, h2, h⟩ := h.one
  exact .of e h2 (h.up hJ)
theorem tnew_c (h : SetIs V w R S L N) : Calls Try.prog 12 #[] w fun e w' => ∃ T : Nat, e = .returned (.pointer (some ⟨T, 0, none⟩)) ∧ SetTwo V w' R S L N T [] 0 := by
  obtain ⟨s, e, H, hl⟩ := h
  refine (snew_c H).mono ?_
  rintro e' w' ⟨T, e1, h⟩
  exact ⟨T, e1, (SetTwo.of (t := s) e hl h).swap⟩
theorem two_len1 (h0 : SetTwo V w R S L N T M K) {n : Int} (hn : (L.length : Int) = n) :
    Calls Try.prog 15 #[.pointer (some ⟨S, 0, none⟩)] w fun e w' => e = .returned (.int .i64 n) ∧ SetTwo V w' R S L N T M K := by
  obtain ⟨t, e, h2, h⟩ := h0.one
  refine (slen_o h hn).mono ?_
  rintro e' w' ⟨e1, h3⟩
  exact ⟨e1, SetTwo.of e h2 h3⟩
theorem two_len2 (h0 : SetTwo V w R S L N T M K) {n : Int} (hn : (M.length : Int) = n) :
    Calls Try.prog 15 #[.pointer (some ⟨T, 0, none⟩)] w fun e w' => e = .returned (.int .i64 n) ∧ SetTwo V w' R S L N T M K := by
  have h0 := h0.swap
  obtain ⟨t, e, h2, h⟩ := h0.one
  refine (slen_o h hn).mono ?_
  rintro e' w' ⟨e1, h3⟩
  exact ⟨e1, (SetTwo.of e h2 h3).swap⟩
theorem two_masks1 (h0 : SetTwo V w R S L N T M K) {n : Int} (hn : ((masksF L).length : Int) = n) :
    Calls Try.prog 16 #[.pointer (some ⟨S, 0, none⟩)] w fun e w' => e = .returned (.int .i64 n) ∧ SetTwo V w' R S L N T M K := by
  obtain ⟨t, e, h2, h⟩ := h0.one
  refine (smasks_o h hn).mono ?_
  rintro e' w' ⟨e1, h3⟩
  exact ⟨e1, SetTwo.of e h2 h3⟩
theorem two_masks2 (h0 : SetTwo V w R S L N T M K) {n : Int} (hn : ((masksF M).length : Int) = n) :
    Calls Try.prog 16 #[.pointer (some ⟨T, 0, none⟩)] w fun e w' => e = .returned (.int .i64 n) ∧ SetTwo V w' R S L N T M K := by
  have h0 := h0.swap
  obtain ⟨t, e, h2, h⟩ := h0.one
  refine (smasks_o h hn).mono ?_
  rintro e' w' ⟨e1, h3⟩
  exact ⟨e1, (SetTwo.of e h2 h3).swap⟩
theorem two_looks1 (h0 : SetTwo V w R S L N T M K) (hN : N < 99990) {key : ByteArray} (hk : key.size < 1000000) {n : Int} (hn : (looksF key L : Int) = n) :
    Calls Try.prog 19 #[.pointer (some ⟨S, 0, none⟩), .string key] w fun e w' => e = .returned (.int .i64 n) ∧ SetTwo V w' R S L N T M K := by
  obtain ⟨t, e, h2, h⟩ := h0.one
  refine (slooks_o h hN hk hn).mono ?_
  rintro e' w' ⟨e1, h3⟩
  exact ⟨e1, SetTwo.of e h2 h3⟩
theorem two_looks2 (h0 : SetTwo V w R S L N T M K) (hN : K < 99990) {key : ByteArray} (hk : key.size < 1000000) {n : Int} (hn : (looksF key M : Int) = n) :
    Calls Try.prog 19 #[.pointer (some ⟨T, 0, none⟩), .string key] w fun e w' => e = .returned (.int .i64 n) ∧ SetTwo V w' R S L N T M K := by
  have h0 := h0.swap
  obtain ⟨t, e, h2, h⟩ := h0.one
  refine (slooks_o h hN hk hn).mono ?_
  rintro e' w' ⟨e1, h3⟩
  exact ⟨e1, (SetTwo.of e h2 h3).swap⟩
theorem two_find1 (h0 : SetTwo V w R S L N T M K) (hN : N < 99990) {key : ByteArray} (hk : key.size < 1000000) {k m : ByteArray} {q v : Int} {b : Bool} (hr : (findF key L).getD zeroI = ⟨k, m, q, v⟩) (hb : (findF key L).isSome = b) :
    Calls Try.prog 18 #[.pointer (some ⟨S, 0, none⟩), .string key] w fun e w' => e = .returned (.tuple #[.agg #[.string k, .string m, .int .i64 q, .int .i64 v], .bool b]) ∧ SetTwo V w' R S L N T M K := by
  obtain ⟨t, e, h2, h⟩ := h0.one
  refine (sfind_o h hN hk hr hb).mono ?_
  rintro e' w' ⟨e1, h3⟩
  exact ⟨e1, SetTwo.of e h2 h3⟩
theorem two_find2 (h0 : SetTwo V w R S L N T M K) (hN : K < 99990) {key : ByteArray} (hk : key.size < 1000000) {k m : ByteArray} {q v : Int} {b : Bool} (hr : (findF key M).getD zeroI = ⟨k, m, q, v⟩) (hb : (findF key M).isSome = b) :
    Calls Try.prog 18 #[.pointer (some ⟨T, 0, none⟩), .string key] w fun e w' => e = .returned (.tuple #[.agg #[.string k, .string m, .int .i64 q, .int .i64 v], .bool b]) ∧ SetTwo V w' R S L N T M K := by
  have h0 := h0.swap
  obtain ⟨t, e, h2, h⟩ := h0.one
  refine (sfind_o h hN hk hr hb).mono ?_
  rintro e' w' ⟨e1, h3⟩
  exact ⟨e1, (SetTwo.of e h2 h3).swap⟩
theorem two_put2 (h0 : SetTwo V w R S L N T M K) (hN : K < 99990) {k m : ByteArray} {q v : Int} (hf : FormN ⟨k, m, q, v⟩) (hk : k.size < 1000000) (hm : m.size < 1000000) {M' : List ItN} (hM : butL M ⟨k, m, q, v⟩ ++ [⟨k, m, q, v⟩] = M') :
    Calls Try.prog 14 #[.pointer (some ⟨T, 0, none⟩), .agg #[.string k, .string m, .int .i64 q, .int .i64 v]] w fun e w' => e = .returned (.int .i64 0) ∧ SetTwo V w' R S L N T M' (K + 1) := by
  have h0 := h0.swap
  obtain ⟨t, e, h2, h⟩ := h0.one
  refine (sput_o h hN hf hk hm hM).mono ?_
  rintro e' w' ⟨e1, h3⟩
  exact ⟨e1, (SetTwo.of e h2 h3).swap⟩
end
theorem rev_next {L : List ItN} (hf : FineL L) {j : Nat} {x : ItN} (hx : L[j]? = some x) : butL (L.drop (j + 1)).reverse x ++ [x] = (L.drop j).reverse := by
  obtain ⟨hj, rfl⟩ := List.getElem?_eq_some_iff.1 hx
  have e : L.drop j = L[j] :: L.drop (j + 1) := List.drop_eq_getElem_cons hj
  rw [e, List.reverse_cons]
  congr 1
  refine butL_none fun y hy hs => ?_
  have hy2 : y ∈ L.drop (j + 1) := List.mem_reverse.1 hy
  have p := List.Pairwise.drop (i := j) hf.one
  rw [e] at p
  exact (List.pairwise_cons.1 p).1 y hy2 (sameN_symm hs)
theorem no_clash {L : List ItN} {key : ByteArray} {m : Nat} (hm : L.length = m) (h : ∀ (a b : Nat) (x y : ItN), b < a → a < m → L[a]? = some x → L[b]? = some y → ¬ (x.prio = y.prio ∧ MatchN x key ∧ MatchN y key)) : L.Pairwise fun x y => ¬ (x.prio = y.prio ∧ MatchN x key ∧ MatchN y key) := by
  rw [List.pairwise_iff_getElem]
  intro i j hi hj hij ⟨e, h1, h2⟩
  exact h j i _ _ hij (by omega) (List.getElem?_eq_getElem hj) (List.getElem?_eq_getElem hi) ⟨e.symm, h2, h1⟩

end Go.Proofs.Ytjjgdnaejeejlaa
