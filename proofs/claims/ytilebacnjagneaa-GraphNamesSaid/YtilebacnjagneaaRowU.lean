/- More on rows that a law owns: a whole slice appended, one element written over. No program is in sight. -/
import Derived.Test.YtilebacnjagneaaTMem
import Derived.Laws.OwnMore
import Derived.Laws.AppendOwn
import Derived.Tactics
namespace Go.Proofs.Ytilebacnjagneaa
set_option linter.unusedVariables false
open Go.RowKit

/-- What is appended may be nil. -/
theorem run_append_any {P : Program} (w : World) (base : Nat) (t ty e : TypeId) (i : TypeInfo) (z : Value) (size bytes : Nat) (ht : P.underlying t = some (.slice e)) (hi : P.info? e = some i) (hz : i.zero = some z)
    (hsize : i.size = size) (hby : i.bytes = bytes) (hzs : z.cells.size = size) (hsz : 0 < size)
    (v : Value) (n : Nat) (xs : List Value) (hown : w.ownsRow base e size v n xs)
    (A : Option Addr) (m c : Nat) (news : List Value) (hl : news.length = m * size) (h0 : A = none → m = 0) (hnews : ∀ a, A = some a → ∀ j u, news[j]? = some u → w.cell? (a.add j) = some u) (h1 : ∀ u ∈ news, u.oneCell' = true)
    (h63 : n + m ≤ maxLen) (hbytes : (n + m) * bytes ≤ 140737488355328) (hbase : base ≤ w.heap.size) :
    ∃ v' w', (Builtin.append_ #[t, t] ty #[v, .slice A m c]).run P w = .ok v' w' ∧ w'.ownsRow base e size v' (n + m) (xs ++ news) ∧ w.grownBy w' v.ownBlock := by
  cases A with
  | none =>
    obtain rfl := h0 rfl
    have hnil : news = [] := List.eq_nil_of_length_eq_zero (by simpa using hl)
    subst hnil
    refine ⟨v, w, ?_, by simpa using hown, ⟨rfl, rfl, rfl, Nat.le_refl _, fun _ _ _ => rfl⟩⟩
    rcases hown.2 with ⟨rfl, rfl⟩ | ⟨g, cap, cur, rfl, _, _, hnc, _⟩
    · simp [Builtin.append_, run_underlying ht, sizeOf, typeInfo, hi, Builtin.lenOf, Builtin.firstCells]
    · simp [Builtin.append_, run_underlying ht, sizeOf, typeInfo, hi, Builtin.lenOf, Builtin.firstCells, hnc, storeCells]
  | some a =>
    obtain ⟨v', w', r, o, g, _⟩ := run_append_own (P := P) w base t ty e i z size bytes ht hi hz hsize hby hzs hsz v n xs hown a m c news hl (hnews a rfl) h1 h63 hbytes hbase
    exact ⟨v', w', r, o, g⟩
theorem ownsRow_base {w : World} {b c : Nat} {e : TypeId} {size n : Nat} {v : Value} {xs : List Value} (h : w.ownsRow b e size v n xs) (k : ∀ i ∈ v.ownBlock.toList, c ≤ i) : w.ownsRow c e size v n xs := by
  refine ⟨h.1, ?_⟩
  rcases h.2 with q | ⟨g, cap, cur, rfl, hb, r⟩
  · exact .inl q
  · exact .inr ⟨g, cap, cur, rfl, k g (by simp [Value.ownBlock]), r⟩
theorem ownsRow_shape {w : World} {b : Nat} {e : TypeId} {size n : Nat} {v : Value} {xs : List Value} (h : w.ownsRow b e size v n xs) : ∃ B c2, v = .slice B n c2 := by
  rcases h.2 with ⟨rfl, q⟩ | ⟨g, cap, cur, rfl, _⟩
  · exact ⟨none, 0, by rw [q]⟩
  · exact ⟨_, _, rfl⟩
/-- The same for the walk: the row is all that has been made. -/
theorem wpList_append_lone {P : Program} {V w : World} {ops : Array Oper} {rest : List Oper} {o : Oper} {a : Act} {Q : Exit → Act → World → Prop} (hgd : o.guard = none) (s x : Operand) (t : TypeId)
    (ho : o.op = .call { callee := .builtin .append, args := #[s, x], argTypes := #[t, t] })
    (e : TypeId) (i : TypeInfo) (z : Value) (size bytes : Nat) (ht : P.underlying t = some (.slice e)) (hi : P.info? e = some i) (hz : i.zero = some z)
    (hsize : i.size = size) (hby : i.bytes = bytes) (hzs : z.cells.size = size) (hsz : 0 < size)
    (v : Value) (n : Nat) (xs : List Value) (hs : a.eval s = v) (H : Own V w [rowT e size v n xs])
    (A : Option Addr) (m c : Nat) (news : List Value) (hx : a.eval x = .slice A m c) (hl : news.length = m * size) (h0 : A = none → m = 0) (hnews : ∀ a, A = some a → ∀ j u, news[j]? = some u → w.cell? (a.add j) = some u) (h1 : ∀ u ∈ news, u.oneCell' = true)
    (h63 : n + m ≤ maxLen) (hbytes : (n + m) * bytes ≤ 140737488355328) {k : Nat} (hk : n + m = k) {ys : List Value} (hys : xs ++ news = ys)
    (h : ∀ B c2 w', Own V w' [rowT e size (.slice B k c2) k ys] → wpList P ops Q rest (a.put o.dst (.slice B k c2)) w') : wpList P ops Q (o :: rest) a w := by
  subst hk hys
  refine wpList_plain hgd fun K hK => ?_
  have hown := ownsRow_base (c := V.heap.size) H.head fun k hk => (H.new _ (.head _) k hk).1
  obtain ⟨v', w', hr, h2, h3⟩ := run_append_any (P := P) w V.heap.size t o.type e i z size bytes ht hi hz hsize hby hzs hsz v n xs hown A m c news hl h0 hnews h1 h63 hbytes H.wider.2
  unfold Oper.wp execOp
  simp only [ho, resolve, invoke, builtin, Sem.run_bind, Sem.run_pure, Result.andThen_ok, List.map_toArray, List.map_cons, List.map_nil, hs, hx, hr]
  obtain ⟨B, c2, rfl⟩ := ownsRow_shape h2
  refine hK _ _ (h B c2 w' ?_)
  have hw : Wider V w' := (grownBy_but h3).wider H.wider fun k hk => (H.new _ (.head _) k hk).1
  refine ⟨fun r m => ?_, fun r m => ?_, List.pairwise_singleton _ _, fun r m => ?_, hw⟩
  · obtain rfl := List.mem_singleton.1 m
    exact ownsRow_less h2 (Nat.zero_le _)
  · obtain rfl := List.mem_singleton.1 m
    exact fun k hk => h2.lt k (by simpa using hk)
  · obtain rfl := List.mem_singleton.1 m
    exact rowT_stable _ _ _ _ _

/-- One element of a row of one cell each is written over. -/
theorem Own.poke1 {V w : World} {L : List Thing} {e : TypeId} {B : Option Addr} {n c : Nat} {xs : List Value} (H : Own V w (rowT e 1 (.slice B n c) n xs :: L)) {j : Nat} (hj : j < n) :
    ∃ g, B = some ⟨g, 0, none⟩ ∧ (∃ u, w.cell? ⟨g, j, none⟩ = some u) ∧ w.frozen? ⟨g, j, none⟩ = false ∧ ∀ y : Value, y.oneCell' = true → Own V (w.setCell ⟨g, j, none⟩ y) (rowT e 1 (.slice B n c) n (xs.set j y) :: L) := by
  have h := H.head
  have hl : xs.length = n * 1 := h.1
  rcases id h.2 with ⟨q, q2⟩ | ⟨g, cap, cur, q, hb, hg, r⟩
  · omega
  · simp only [Value.slice.injEq] at q
    obtain ⟨rfl, _, rfl⟩ := q
    refine ⟨g, rfl, ⟨xs[j]'(by omega), ?_⟩, ?_, fun y hy => ?_⟩
    · rw [World.ownsRow.cellAt h j (by omega)]; exact List.getElem?_eq_getElem _
    · simp [World.frozen?, hg]
    · refine H.turn (s := rowT e 1 (.slice (some ⟨g, 0, none⟩) n c) n (xs.set j y)) ?_ (ownsRow_store h (by omega) hy) (rowT_stable _ _ _ _ _) fun k hk => ⟨.inl hk, ?_⟩
      · have := setCell_but w ⟨g, j, none⟩ y
        exact this
      · have := (H.new _ (.head _) k hk).2
        simpa [World.setCell] using this
/-- The same where each has two. -/
theorem Own.poke2 {V w : World} {L : List Thing} {e : TypeId} {B : Option Addr} {n c : Nat} {xs : List Value} (H : Own V w (rowT e 2 (.slice B n c) n xs :: L)) {j : Nat} (hj : j < n) :
    ∃ g, B = some ⟨g, 0, none⟩ ∧ (∃ u, w.cell? ⟨g, j * 2, none⟩ = some u) ∧ (∃ u, w.cell? ⟨g, j * 2 + 1, none⟩ = some u) ∧ w.frozen? ⟨g, j * 2, none⟩ = false ∧ w.frozen? ⟨g, j * 2 + 1, none⟩ = false ∧
      ∀ y z : Value, y.oneCell' = true → z.oneCell' = true → Own V ((w.setCell ⟨g, j * 2, none⟩ y).setCell ⟨g, j * 2 + 1, none⟩ z) (rowT e 2 (.slice B n c) n ((xs.set (j * 2) y).set (j * 2 + 1) z) :: L) := by
  have h := H.head
  have hl : xs.length = n * 2 := h.1
  rcases id h.2 with ⟨q, q2⟩ | ⟨g, cap, cur, q, hb, hg, r⟩
  · omega
  · simp only [Value.slice.injEq] at q
    obtain ⟨rfl, _, rfl⟩ := q
    refine ⟨g, rfl, ⟨xs[j * 2]'(by omega), ?_⟩, ⟨xs[j * 2 + 1]'(by omega), ?_⟩, ?_, ?_, fun y z hy hz => ?_⟩
    · rw [World.ownsRow.cellAt h (j * 2) (by omega)]; exact List.getElem?_eq_getElem _
    · rw [World.ownsRow.cellAt h (j * 2 + 1) (by omega)]; exact List.getElem?_eq_getElem _
    · simp [World.frozen?, hg]
    · simp [World.frozen?, hg]
    · have one : ∀ {w : World} {xs : List Value} {k : Nat} {y : Value}, Own V w (rowT e 2 (.slice (some ⟨g, 0, none⟩) n c) n xs :: L) → k < xs.length → y.oneCell' = true → Own V (w.setCell ⟨g, k, none⟩ y) (rowT e 2 (.slice (some ⟨g, 0, none⟩) n c) n (xs.set k y) :: L) := by
        intro w xs k y H hk hy
        refine H.turn (s := rowT e 2 (.slice (some ⟨g, 0, none⟩) n c) n (xs.set k y)) (setCell_but w ⟨g, k, none⟩ y) (ownsRow_store H.head hk hy) (rowT_stable _ _ _ _ _) fun i hi => ⟨.inl hi, ?_⟩
        have := (H.new _ (.head _) i hi).2
        simpa [World.setCell] using this
      exact one (one H (by omega) hy) (by simp; omega) hz
/-- An empty literal. -/
theorem Own.empty {V w : World} {L : List Thing} (H : Own V w L) (e : TypeId) (size : Nat) : Own V (w.alloc (.cells #[] e)) (rowT e size (.slice (some ⟨w.heap.size, 0, none⟩) 0 0) 0 [] :: L) :=
  H.row ((Wider.refl w).alloc _) (World.ownsRow_lit w #[] 0 (Nat.le_refl _) (by simp [maxLen]) (by simp))

end Go.Proofs.Ytilebacnjagneaa
