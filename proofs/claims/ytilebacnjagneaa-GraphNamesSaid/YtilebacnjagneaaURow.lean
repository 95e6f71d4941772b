/- Rows of elements of several cells: opened and shut; copies, appends and clears within them. No program is in sight. -/
import Derived.Test.YtilebacnjagneaaBlk
import Derived.Laws.CopyRow
import Derived.Laws.CopyOwn
import Derived.Lib.AppendZerosOnto
namespace Go.Proofs.Ytilebacnjagneaa
set_option linter.unusedVariables false
open Go.ChangeShapes Go.WideShapes Go.ChangeAt Go.RowKit Go.Joins

/-- A row that has room is a block that is held whole. -/
theorem Own.rowOpen {V w : World} {R : List Thing} {E : TypeId} {k n c : Nat} {A : Option Addr} {xs : List Value} (H : Own V w (rowT E k (.slice A n c) n xs :: R)) (hn : 0 < n) :
    ∃ (g : Nat) (cur : List Value), A = some ⟨g, 0, none⟩ ∧ n ≤ c ∧ c ≤ maxLen ∧ cur.length = c * k ∧ cur.take (n * k) = xs ∧ Own V w (blkT g cur.toArray E :: R) := by
  have h := H.head
  rcases h.2 with ⟨q, q2⟩ | ⟨g, cap, cur, q, hb, hg, h1, h2, h3, h4⟩
  · injection q with q1 q2 q3; omega
  · injection q with q1 q2 q3
    subst q1 q3
    refine ⟨g, cur.toList, rfl, h1, h2, by simpa using h3, h4, ?_⟩
    refine H.turn (s := blkT g cur.toList.toArray E) (WBut.refl _ _) (by simpa using hg) (blk_stable _ _ _) fun i hi => ?_
    obtain rfl : i = g := by simpa using hi
    exact ⟨.inl (by simp [Value.ownBlock]), (Array.getElem?_eq_some_iff.1 hg).1⟩
theorem Own.rowShut {V w : World} {R : List Thing} {E : TypeId} {k n c g : Nat} {cur xs : List Value} (H : Own V w (blkT g cur.toArray E :: R)) (h1 : n ≤ c) (h2 : c ≤ maxLen) (h3 : cur.length = c * k) (h4 : cur.take (n * k) = xs) :
    Own V w (rowT E k (.slice (some ⟨g, 0, none⟩) n c) n xs :: R) := by
  have hg := H.head
  refine H.turn (s := rowT E k (.slice (some ⟨g, 0, none⟩) n c) n xs) (WBut.refl _ _) ⟨?_, .inr ⟨g, c, cur.toArray, rfl, Nat.zero_le _, hg, h1, h2, by simpa using h3, by simpa using h4⟩⟩ (rowT_stable _ _ _ _ _) fun i hi => ?_
  · rw [← h4, List.length_take, h3]
    exact Nat.min_eq_left (Nat.mul_le_mul_right _ h1)
  · obtain rfl : i = g := by simpa [Value.ownBlock] using hi
    exact ⟨.inl (by simp), (Array.getElem?_eq_some_iff.1 hg).1⟩
theorem Own.setRowU {V w : World} {R : List Thing} {B : Nat} {C : Array Value} {t : TypeId} (H : Own V w (blkT B C t :: R)) (C' : Array Value) : Own V (w.setRow B C') (blkT B C' t :: R) := by
  have hg := H.head
  have l : (w.setRow B C').heap.size = w.heap.size := by simp [World.setRow]
  refine H.turn ⟨rfl, rfl, Nat.le_of_eq l.symm, fun i hi hF => ?_⟩ (setRow_heap w B C C' t (0, 0) hg) (blk_stable _ _ _) fun i hi => ⟨.inl hi, by rw [l]; exact (H.new _ (.head _) i hi).2⟩
  simp only [World.setRow, Array.getElem?_modify]
  rw [if_neg (fun e => hF (by rw [e]; simp))]
/-- A copy of elements of k cells to a place within a block. -/
theorem run_copy_at {P : Program} (w : World) (dT sT ty elem : TypeId) (g o k dLen sLen m dCap sCap : Nat) (a : Addr) (cur : Array Value) (t : TypeId) (cs : List Value)
    (hu : P.underlying dT = some (.slice elem)) (hs : (P.info? elem).map (·.size) = some k) (hg : w.heap[g]? = some (.cells cur t (0, 0))) (hm : Nat.min sLen dLen = m) (hn : cs.length = m * k)
    (hsrc : ∀ j v, cs[j]? = some v → w.cell? (a.add j) = some v) (hfit : o + cs.length ≤ cur.size) (h1 : ∀ v ∈ cs, v.oneCell' = true) :
    (Builtin.copy_ #[dT, sT] ty #[.slice (some ⟨g, o, none⟩) dLen dCap, .slice (some a) sLen sCap]).run P w =
      .ok (goInt m) (w.setRow g (cur.toList.take o ++ cs ++ cur.toList.drop (o + cs.length)).toArray) := by
  have hl := run_loadCells_list (P := P) w a cs hsrc
  have hst := run_storeCells_at P g o t cs 0 cur w hg (by simpa using hfit) h1
  cases hq : P.info? elem with
  | none => simp [hq] at hs
  | some i =>
    have hi : i.size = k := by simpa [hq] using hs
    simp [Builtin.copy_, run_underlying hu, Builtin.lenOf, Builtin.firstCells, sizeOf, typeInfo, hq, hi, hm, ← hn, hl, hst]
/-- Clear, at elements of k cells. -/
theorem run_clear_at {P : Program} (w : World) (t e ty : TypeId) (z : Value) (k : Nat) (ht : P.underlying t = some (.slice e)) (hv : (zeroValue e).run P w = .ok z w) (hz : z.cells.size = k) (h1 : ∀ v ∈ (Builtin.zeroCells z.cells 1).toList, v.oneCell' = true)
    (g o c : Nat) (cur : Array Value) (t' : TypeId) (hg : w.heap[g]? = some (.cells cur t' (0, 0))) (hfit : o + k ≤ cur.size) :
    (Builtin.clear_ #[t] ty #[.slice (some ⟨g, o, none⟩) 1 c]).run P w = .ok (.tuple #[]) (w.setRow g (cur.toList.take o ++ (Builtin.zeroCells z.cells 1).toList ++ cur.toList.drop (o + k)).toArray) := by
  have l : (Builtin.zeroCells z.cells 1).toList.length = k := by rw [Array.length_toList, size_zeroCells, hz, Nat.one_mul]
  have hst := run_storeCells_at P g o t' (Builtin.zeroCells z.cells 1).toList 0 cur w hg (by rw [l]; simpa using hfit) h1
  rw [l] at hst
  simp [Builtin.clear_, run_underlying ht, hv, hst]
/-- Calls of builtins whose run is known, as one step. -/
theorem wpList_copy_u {P : Program} (w : World) {ops : Array Oper} {rest : List Oper} {o : Oper} {a : Act} {Q : Exit → Act → World → Prop} (hgd : o.guard = none) (d s : Operand) (t t' : TypeId)
    (ho : o.op = .call { callee := .builtin .copy, args := #[d, s], argTypes := #[t, t'] }) (v u : Value) (hd : a.eval d = v) (hs : a.eval s = u) {v' : Value} {w' : World}
    (hr : (Builtin.copy_ #[t, t'] o.type #[v, u]).run P w = .ok v' w') (h : wpList P ops Q rest (a.put o.dst v') w') : wpList P ops Q (o :: rest) a w := by
  refine wpList_plain hgd fun K hK => ?_
  unfold Oper.wp execOp
  simp only [ho, resolve, invoke, builtin, Sem.run_bind, Sem.run_pure, Result.andThen_ok, List.map_toArray, List.map_cons, List.map_nil, hd, hs, hr]
  exact hK _ _ h
theorem wpList_append_u {P : Program} (w : World) {ops : Array Oper} {rest : List Oper} {o : Oper} {a : Act} {Q : Exit → Act → World → Prop} (hgd : o.guard = none) (d s : Operand) (t t' : TypeId)
    (ho : o.op = .call { callee := .builtin .append, args := #[d, s], argTypes := #[t, t'] }) (v u : Value) (hd : a.eval d = v) (hs : a.eval s = u) {v' : Value} {w' : World}
    (hr : (Builtin.append_ #[t, t'] o.type #[v, u]).run P w = .ok v' w') (h : wpList P ops Q rest (a.put o.dst v') w') : wpList P ops Q (o :: rest) a w := by
  refine wpList_plain hgd fun K hK => ?_
  unfold Oper.wp execOp
  simp only [ho, resolve, invoke, builtin, Sem.run_bind, Sem.run_pure, Result.andThen_ok, List.map_toArray, List.map_cons, List.map_nil, hd, hs, hr]
  exact hK _ _ h
theorem wpList_clear_u {P : Program} (w : World) {ops : Array Oper} {rest : List Oper} {o : Oper} {a : Act} {Q : Exit → Act → World → Prop} (hgd : o.guard = none) (d : Operand) (t : TypeId)
    (ho : o.op = .call { callee := .builtin .clear, args := #[d], argTypes := #[t] }) (v : Value) (hd : a.eval d = v) {v' : Value} {w' : World}
    (hr : (Builtin.clear_ #[t] o.type #[v]).run P w = .ok v' w') (h : wpList P ops Q rest (a.put o.dst v') w') : wpList P ops Q (o :: rest) a w := by
  refine wpList_plain hgd fun K hK => ?_
  unfold Oper.wp execOp
  simp only [ho, resolve, invoke, builtin, Sem.run_bind, Sem.run_pure, Result.andThen_ok, List.map_toArray, List.map_cons, List.map_nil, hd, hr]
  exact hK _ _ h
theorem step_copy_u {P : Program} {w w' : World} {ops : Array Oper} {o : Oper} {a : Act} {K : Act → World → Prop} {Q : Exit → Act → World → Prop} {E : Prop} (hgd : o.guard = none) (s x : Operand) (t u : TypeId)
    (ho : o.op = .call { callee := .builtin .copy, args := #[s, x], argTypes := #[t, u] }) {vs vx v' : Value} (hs : a.eval s = vs) (hx : a.eval x = vx)
    (hr : (Builtin.copy_ #[t, u] o.type #[vs, vx]).run P w = .ok v' w') (h : K (a.put o.dst v') w') : if Region.wanted o (yielded ops a.tmps) = true then Oper.wp P o a w K Q else E := by
  have hw : Region.wanted o (yielded ops a.tmps) = true := by simp [Region.wanted, hgd]
  rw [if_pos hw]
  unfold Oper.wp execOp
  simp only [ho, resolve, invoke, builtin, Sem.run_bind, Sem.run_pure, Result.andThen_ok, List.map_toArray, List.map_cons, List.map_nil, hs, hx, hr]
  exact h
theorem step_append_u {P : Program} {w w' : World} {ops : Array Oper} {o : Oper} {a : Act} {K : Act → World → Prop} {Q : Exit → Act → World → Prop} {E : Prop} (hgd : o.guard = none) (s x : Operand) (t u : TypeId)
    (ho : o.op = .call { callee := .builtin .append, args := #[s, x], argTypes := #[t, u] }) {vs vx v' : Value} (hs : a.eval s = vs) (hx : a.eval x = vx)
    (hr : (Builtin.append_ #[t, u] o.type #[vs, vx]).run P w = .ok v' w') (h : K (a.put o.dst v') w') : if Region.wanted o (yielded ops a.tmps) = true then Oper.wp P o a w K Q else E := by
  have hw : Region.wanted o (yielded ops a.tmps) = true := by simp [Region.wanted, hgd]
  rw [if_pos hw]
  unfold Oper.wp execOp
  simp only [ho, resolve, invoke, builtin, Sem.run_bind, Sem.run_pure, Result.andThen_ok, List.map_toArray, List.map_cons, List.map_nil, hs, hx, hr]
  exact h

end Go.Proofs.Ytilebacnjagneaa
