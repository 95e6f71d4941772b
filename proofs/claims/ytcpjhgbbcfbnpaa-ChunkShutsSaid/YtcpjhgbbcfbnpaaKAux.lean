/- What the laws of layer 7 share: texts cut into single bytes; one text appended to a row beside other things. -/
import Derived.Test.YtcpjhgbbcfbnpaaKAwake
import Derived.WalkKit
import Derived.Lib.Hide
import Derived.Deep.DeepCutAuto
import Derived.WalkLawsBesides
import Derived.WalkSpells
import Derived.BigQuiet
import Derived.BigRegion
import Derived.Deep.RegionHeld3
namespace Go.Proofs.Ytcpjhgbbcfbnpaa
set_option linter.unusedVariables false
open Go.ChangeShapes Go.WideShapes Go.ChangeAt Go.RowKit Go.Joins
open Go.ChangeMaps (open_string shut_string)


theorem strs_of {w : World} {E : TypeId} {A : Option Addr} {n cap : Nat} {l : List ByteArray} (h : (rowT E 1 (.slice A n cap) n (cellsS l)).2 w) : StrsAt w A l := by
  obtain ⟨A', cap', e, h, _⟩ := strsAt_own h
  injection e with e1 e2 e3
  subst e1
  exact h
theorem Own.fifth {V w : World} {x y z u v : Thing} {L : List Thing} (h : Own V w (x :: y :: z :: u :: v :: L)) : Own V w (v :: x :: y :: z :: u :: L) :=
  h.perm (by
    have e : (x :: y :: z :: u :: v :: L).Perm (v :: ([x, y, z, u] ++ L)) := List.perm_middle (l₁ := [x, y, z, u])
    exact e)
theorem Own.sixth {V w : World} {x y z u v q : Thing} {L : List Thing} (h : Own V w (x :: y :: z :: u :: v :: q :: L)) : Own V w (q :: x :: y :: z :: u :: v :: L) :=
  h.perm (by
    have e : (x :: y :: z :: u :: v :: q :: L).Perm (q :: ([x, y, z, u, v] ++ L)) := List.perm_middle (l₁ := [x, y, z, u, v])
    exact e)
/-- fed, over a row that is a thing of its own. -/
theorem fed_2 {V W : World} {L : List Thing} {E : TypeId} {p : Addr} {x : StrK} {F : List Nat} {A : Option Addr} {n cap : Nat} {l : List ByteArray} (H : Own V W (strT p x F :: rowT E 1 (.slice A n cap) n (cellsS l) :: L)) (hn : l.length = n) (hl : n < 1000000) (hb : x.r.length + (joinL l).size < 1000000)
    {o : List ByteArray} {d k : Nat} {z : StrK} (hf : fedK x l = (o, d, z)) (hk : o.length = k) :
    Calls Try.prog 21 #[.pointer (some p), .slice A n cap] W fun e w' => ∃ B c2 F', e = .returned (.tuple #[.slice B k c2, .int .i64 (d : Int)]) ∧ Own V w' (strT p z F' :: rowT 9 1 (.slice B k c2) k (cellsS o) :: rowT E 1 (.slice A n cap) n (cellsS l) :: L) :=
  fed_1 H A n cap l (fun w' M h m => strs_of (h.holds _ (m _ (.head _)))) hn hl hb hf hk
theorem Own.drew {V w : World} {L : List Thing} (H : Own V w L) : Own V w.drew L := H.quiet (Wider.refl w).drew
/-- The document's stream, newly made. -/
theorem Own.ref {V w : World} {L : List Thing} (H : Own V w L) (t : TypeId) : Own V (w.alloc (.cells #[.string ⟨#[]⟩, .bool false] t)) (refK w.heap.size StrK.new :: L) :=
  H.make (s := refK w.heap.size StrK.new) ((Wider.refl w).alloc _) (by
    obtain ⟨a, b, c, d⟩ := new2 w (.string ⟨#[]⟩) (.bool false) t
    exact ⟨⟨_, a, rfl⟩, b, c, d⟩) (refK_stable _ _) (fun i hi => by
      have : i = w.heap.size := by simpa using hi
      subst this
      exact ⟨Nat.le_refl _, by rw [World.size_alloc]; omega⟩)
/-- The document's stream, its cells told. -/
abbrev refS (X : Nat) (S : ByteArray) (b : Bool) : Thing := ([X], fun w => w.cell? ⟨X, 0, none⟩ = some (.string S) ∧ w.cell? ⟨X, 1, none⟩ = some (.bool b) ∧ w.frozen? ⟨X, 0, none⟩ = false ∧ w.frozen? ⟨X, 1, none⟩ = false)
theorem refS_stable (X : Nat) (S : ByteArray) (b : Bool) : (refS X S b).Stable := fun W w h k => by
  have e := k X (by simp)
  obtain ⟨h1, h3, h4, h5⟩ := h
  exact ⟨(cell_heap (a := ⟨X, 0, none⟩) e).trans h1, (cell_heap (a := ⟨X, 1, none⟩) e).trans h3, (frozen_heap (a := ⟨X, 0, none⟩) e).trans h4, (frozen_heap (a := ⟨X, 1, none⟩) e).trans h5⟩
theorem Own.as {V w : World} {r q : Thing} {L : List Thing} (H : Own V w (r :: L)) (h1 : q.1 = r.1) (h2 : q.2 w) (h3 : q.Stable) : Own V w (q :: L) :=
  H.turn (s := q) (WBut.refl _ _) h2 h3 fun i hi => by rw [h1] at hi; exact ⟨.inl hi, (H.new r (.head _) i hi).2⟩
theorem Own.told {V w : World} {X : Nat} {x : StrK} {L : List Thing} (H : Own V w (refK X x :: L)) : ∃ S, S.data.toList = x.r ∧ Own V w (refS X S x.shut :: L) := by
  obtain ⟨⟨S, h1, h2⟩, h3, h4, h5⟩ := H.head
  exact ⟨S, h2, H.as rfl ⟨h1, h3, h4, h5⟩ (refS_stable _ _ _)⟩
theorem Own.untold {V w : World} {X : Nat} {x : StrK} {S : ByteArray} {L : List Thing} (H : Own V w (refS X S x.shut :: L)) (hS : S.data.toList = x.r) : Own V w (refK X x :: L) := by
  obtain ⟨h1, h3, h4, h5⟩ := H.head
  exact H.as rfl ⟨⟨S, h1, hS⟩, h3, h4, h5⟩ (refK_stable _ _)
theorem Own.two {V w : World} {X : Nat} {S : ByteArray} {b : Bool} {L : List Thing} (H : Own V w (refS X S b :: L)) : w.cell? ⟨X, 0, none⟩ = some (.string S) ∧ w.cell? ⟨X, 1, none⟩ = some (.bool b) := ⟨H.head.1, H.head.2.1⟩
theorem kwaits_b {w : World} {p : Addr} {x : StrK} {F : List Nat} (h : StrAt w p x F) {k : Nat} (hk : x.r.length = k) :
    Calls Try.prog 16 #[.pointer (some p)] w fun e w' => e = .returned (.int .i64 (k : Int)) ∧ Wider w w' := by subst hk; exact kwaits_a h
theorem bulkK_join (l : List ByteArray) (h : bulkK l < 60000) : (joinL l).size ≤ bulkK l ∧ l.length < 600 := by
  have h2 := bulkK_len l
  refine ⟨?_, by omega⟩
  rw [joinL_size]
  clear h2
  induction l with
  | nil => simp
  | cons a l ih =>
    have e : bulkK (a :: l) = (100 + min 60000 a.size) + bulkK l := by simp [bulkK]
    rw [e] at h ⊢
    have := ih (by omega)
    simp only [List.map_cons, List.sum_cons]
    omega
theorem joinK_take (l : List ByteArray) (j : Nat) : (joinL (l.take j)).size ≤ (joinL l).size := by
  rw [joinL_size, joinL_size]
  have e : (l.map fun s => s.size).sum = ((l.take j).map fun s => s.size).sum + ((l.drop j).map fun s => s.size).sum := by
    rw [← List.sum_append, ← List.map_append, List.take_append_drop]
  omega
/-- The bytes of a text as texts of one. -/
def onesK (J : ByteArray) (k : Nat) : List ByteArray := (List.range k).map fun i => J.extract i (i + 1)
theorem onesK_length (J : ByteArray) (k : Nat) : (onesK J k).length = k := by simp [onesK]
theorem onesK_snoc (J : ByteArray) (k : Nat) : onesK J (k + 1) = onesK J k ++ [J.extract k (k + 1)] := by simp [onesK, List.range_succ]
theorem onesK_join (J : ByteArray) (k : Nat) : (joinL (onesK J k)).data.toList = J.data.toList.take k := by
  induction k with
  | zero => rfl
  | succ k ih =>
    rw [onesK_snoc, joinL_snoc, ByteArray.data_append, Array.toList_append, ih, extract_list]
    have e : J.data.toList.take k = (J.data.toList.take (k + 1)).take k := by rw [List.take_take, Nat.min_eq_left (Nat.le_succ k)]
    rw [e, List.take_append_drop]
theorem onesK_all (J : ByteArray) : joinL (onesK J J.size) = J := by
  apply ba_ext
  rw [onesK_join, List.take_of_length_le (by rw [← size_data]; exact Nat.le_refl _)]
/-- One text appended to a row beside other things. -/
theorem wpList_append_lit {P : Program} {V w : World} {L : List Thing} {ops : Array Oper} {rest : List Oper} {o : Oper} {a : Act} {Q : Exit → Act → World → Prop} (hgd : o.guard = none) (s x : Operand) (t : TypeId)
    (ho : o.op = .call { callee := .builtin .append, args := #[s, x], argTypes := #[t, t] })
    (e : TypeId) (i : TypeInfo) (ht : P.underlying t = some (.slice e)) (hi : P.info? e = some i) (hz : i.zero = some (.string ⟨#[]⟩))
    (hsize : i.size = 1) (hby : i.bytes = 16)
    (v : Value) (n : Nat) (xs : List Value) (hs : a.eval s = v) (H : Own V w (rowT e 1 v n xs :: L)) (tt : TypeId) (y : ByteArray) (hx : a.eval x = .slice (some ⟨w.heap.size, 0, none⟩) 1 1)
    (h63 : n + 1 ≤ maxLen) (hbytes : (n + 1) * 16 ≤ 140737488355328) {k : Nat} (hk : n + 1 = k) {ys : List Value} (hys : xs ++ [.string y] = ys)
    (h : ∀ B c2 w', Own V w' (rowT e 1 (.slice B k c2) k ys :: L) → wpList P ops Q rest (a.put o.dst (.slice B k c2)) w') : wpList P ops Q (o :: rest) a (w.alloc (.cells #[.string y] tt)) :=
  wpList_append_thing hgd s x t ho e i (.string ⟨#[]⟩) 1 16 ht hi hz hsize hby rfl (by decide) v n xs hs (H.quiet ((Wider.refl w).alloc _)) (some ⟨w.heap.size, 0, none⟩) 1 1 [.string y] hx rfl (by simp)
    (fun b hb => by injection hb with hb; subst hb; exact (lies1 w (.string y) tt rfl).1) (lies1 w (.string y) tt rfl).2 h63 hbytes hk hys h

end Go.Proofs.Ytcpjhgbbcfbnpaa
