/- The examples; the limits of each number; each error, and which one comes first: the closed statement's function returns true. -/
import Derived.Test.YtilebacnjagneaaGLawC
import Derived.Test.YtilebacnjagneaaGNamesM
import Derived.Deep.CutRange
import Derived.Deep.CutBlock
import Derived.Test.YtilebacnjagneaaUSpec
import Derived.Test.YtilebacnjagneaaUAct
import Derived.Test.YtilebacnjagneaaGNB
namespace Go.Proofs.Ytilebacnjagneaa
set_option linter.unusedVariables false
open Go.ChangeShapes Go.WideShapes Go.ChangeAt Go.RowKit Go.Joins

theorem cellsArm_val : ∀ (l : List (Int × Int)) (j : Nat) (v z y : Int), l[j]? = some (v, z) → (cellsArm l).set (j * 2) (.int .u32 y) = cellsArm (l.set j (y, z))
  | [], j, v, z, y, h => by simp at h
  | p :: l, 0, v, z, y, h => by
    obtain rfl : p = (v, z) := by simpa using h
    rfl
  | p :: l, j + 1, v, z, y, h => by
    have ih := cellsArm_val l j v z y (by simpa using h)
    show (Value.int .u32 p.1 :: Value.int .i64 p.2 :: cellsArm l).set ((j + 1) * 2) _ = Value.int .u32 p.1 :: Value.int .i64 p.2 :: cellsArm (l.set j (y, z))
    rw [show (j + 1) * 2 = j * 2 + 1 + 1 by omega, List.set_cons_succ, List.set_cons_succ, ih]
theorem Own.setVal {V w : World} {R : List Thing} {g n c j : Nat} {l : List (Int × Int)} {v z : Int} (H : Own V w (rowT 26 2 (.slice (some ⟨g, 0, none⟩) n c) n (cellsArm l) :: R)) (hj : l[j]? = some (v, z)) :
    w.cell? ⟨g, j * 2, none⟩ = some (.int .u32 v) ∧ w.frozen? ⟨g, j * 2, none⟩ = false ∧ ∀ y : Int, Own V (w.setCell ⟨g, j * 2, none⟩ (.int .u32 y)) (rowT 26 2 (.slice (some ⟨g, 0, none⟩) n c) n (cellsArm (l.set j (y, z))) :: R) := by
  have h := H.head
  have hl : (cellsArm l).length = n * 2 := h.1
  have hjl := (List.getElem?_eq_some_iff.1 hj).1
  rw [cellsArm_length] at hl
  rcases id h.2 with ⟨q, q2⟩ | ⟨g', cap, cur, q, hb, hg, r⟩
  · omega
  · simp only [Value.slice.injEq, Option.some.injEq, Addr.mk.injEq] at q
    obtain ⟨⟨rfl, _, _⟩, _, rfl⟩ := q
    refine ⟨?_, ?_, fun y => ?_⟩
    · rw [World.ownsRow.cellAt h (j * 2) (by omega)]; exact (cellsArm_at l j v z hj).1
    · simp [World.frozen?, hg]
    · rw [← cellsArm_val l j v z y hj]
      refine H.turn (s := rowT 26 2 (.slice (some ⟨g, 0, none⟩) n c) n ((cellsArm l).set (j * 2) (.int .u32 y))) (setCell_but w ⟨g, j * 2, none⟩ (.int .u32 y)) (ownsRow_store H.head (by rw [cellsArm_length]; omega) rfl) (rowT_stable _ _ _ _ _) fun i hi => ⟨.inl hi, ?_⟩
      have := (H.new _ (.head _) i hi).2
      simpa [World.setCell] using this
/-- The first k of 33 arms have their values. -/
def armsTo (k : Nat) : List (Int × Int) := armsUp k ++ List.replicate (33 - k) (0, 0)
theorem armsUp_length (k : Nat) : (armsUp k).length = k := by unfold armsUp; rw [List.length_map, List.length_range]
theorem armsTo_length (k : Nat) (hk : k ≤ 33) : (armsTo k).length = 33 := by unfold armsTo; rw [List.length_append, armsUp_length, List.length_replicate]; omega
theorem armsTo_at {k : Nat} (hk : k < 33) : (armsTo k)[k]? = some (0, 0) ∧ (armsTo k).set k ((k : Int), 0) = armsTo (k + 1) := by
  have e : List.replicate (33 - k) ((0 : Int), (0 : Int)) = (0, 0) :: List.replicate (33 - (k + 1)) (0, 0) := by
    rw [show 33 - k = (33 - (k + 1)) + 1 by omega, List.replicate_succ]
  unfold armsTo
  constructor
  · rw [List.getElem?_append_right (by rw [armsUp_length]; omega), armsUp_length, Nat.sub_self, e]; rfl
  · rw [List.set_append_right _ _ (by rw [armsUp_length]; omega), armsUp_length, Nat.sub_self, e, List.set_cons_zero]
    have e2 : armsUp (k + 1) = armsUp k ++ [((k : Int), 0)] := by unfold armsUp; rw [List.range_succ, List.map_append]; rfl
    rw [e2, List.append_assoc]; rfl
theorem armsTo_full : armsTo 33 = armsUp 33 := by unfold armsTo; rw [Nat.sub_self]; exact List.append_nil _
theorem ArmsAt.take {w : World} {A : Option Addr} {l : List (Int × Int)} (h : ArmsAt w A l) (k : Nat) : ArmsAt w A (l.take k) := by
  refine ⟨fun e => by rw [h.none_ e]; exact List.take_nil, fun a e j v n hj => h.cell a e j v n ?_⟩
  rw [List.getElem?_take] at hj
  split at hj
  · exact hj
  · cases hj
theorem made33 : madeCells (Value.agg #[.int .u32 0, .int .i64 0]).cells (33 * 2) = (cellsArm (armsTo 0)).toArray := by kernel_rfl
theorem gmakeA (w : World) : (Instr.makeSlice 23 (.int .i64 33) (.int .i64 33)).run Try.prog w = .ok (.slice (some ⟨w.heap.size, 0, none⟩) 33 33) (w.alloc (.cells (cellsArm (armsTo 0)).toArray 26)) := by
  obtain ⟨i0, hi, hz0, hz1, hz2⟩ := info_parts ginfoArm
  have h := run_make (P := Try.prog) (w := w) 23 26 i0 (.agg #[.int .u32 0, .int .i64 0]) Try.underlying23 hi hz0 .i64 .i64 33 33 (by omega) (by omega) (by rw [hz2]; omega) (by omega)
  rw [hz1, show Int.toNat 33 = 33 from rfl, made33] at h
  exact h
theorem arms_row33 {V w : World} {R : List Thing} (H : Own V w R) : Own V (w.alloc (.cells (cellsArm (armsTo 0)).toArray 26)) (rowT 26 2 (.slice (some ⟨w.heap.size, 0, none⟩) 33 33) 33 (cellsArm (armsTo 0)) :: R) :=
  Own.rowShut (H.blk (cellsArm (armsTo 0)).toArray 26) (Nat.le_refl _) (by unfold maxLen; omega) (by rw [cellsArm_length]; rfl) (List.take_of_length_le (by rw [cellsArm_length]; decide))
theorem arms_new (w : World) (l : List (Int × Int)) : ArmsAt (w.alloc (.cells (cellsArm l).toArray 26)) (some ⟨w.heap.size, 0, none⟩) l := ArmsAt.blk ((Own.nil (Wider.refl w)).blk _ _).head rfl
theorem nodes_new {w : World} {l : List NodM} (hm : HeldM w l) : NodesAt (w.alloc (.cells (cellsNd l).toArray 28)) (some ⟨w.heap.size, 0, none⟩) (l.map NodM.x) :=
  NodesAt.blk ((Own.nil (Wider.refl w)).blk _ _).head rfl fun e he => ⟨(hm e he).1.on ((Wider.refl w).alloc _), (hm e he).2⟩
theorem good8_ok : ∀ x ∈ good8, x.Ok := fun x hx => by
  have h : good8.all (fun x => x.arms.all (fun p => decide (0 ≤ p.1) && decide (p.1 < 4294967296)) && decide (x.arms.length < 100000)) = true := by decide +kernel
  have := List.all_eq_true.1 h x hx
  rw [Bool.and_eq_true] at this
  exact okN this.1 (by simpa using this.2)
theorem bad27_ok : ∀ x ∈ bad27, x.Ok := fun x hx => by
  have h : bad27.all (fun x => x.arms.all (fun p => decide (0 ≤ p.1) && decide (p.1 < 4294967296)) && decide (x.arms.length < 100000)) = true := by decide +kernel
  have := List.all_eq_true.1 h x hx
  rw [Bool.and_eq_true] at this
  exact okN this.1 (by simpa using this.2)
theorem one_few {x : NodV} (h : x.Ok) : FewG [x] := ⟨by show 1 < 100000; decide, fun y hy => by
  obtain rfl := List.mem_singleton.1 hy
  exact h⟩
theorem one_nodes (w : World) (x : NodV) {A : Option Addr} {n c : Nat} (hA : ArmsAt w A x.arms) (hn : x.arms.length = n) : NodesAt (w.alloc (.cells (nodC x A n c) 28)) (some ⟨w.heap.size, 0, none⟩) [x] :=
  nodes_new (l := [⟨x, A, n, c⟩]) fun e he => by
    obtain rfl := List.mem_singleton.1 he
    exact ⟨hA, hn⟩
def upM (k : Nat) : List NodM := (manyG k).map fun x => ⟨x, none, 0, 0⟩
theorem upM_succ (k : Nat) : upM (k + 1) = upM k ++ [⟨{ ndG ((k : Int) + 1) with oth := (k : Int) + 2 }, none, 0, 0⟩] := by
  unfold upM manyG
  rw [List.range_succ, List.map_append, List.map_append]; rfl
theorem cellsNd_set : ∀ (l : List NodM) (j : Nat) (e : NodM) (y : Int), l[j]? = some e → (cellsNd l).set (j * 9 + 8) (.int .i64 y) = cellsNd (l.set j { e with x := { e.x with oth := y } })
  | [], j, e, y, h => by simp at h
  | p :: l, 0, e, y, h => by
    obtain rfl : p = e := by simpa using h
    rfl
  | p :: l, j + 1, e, y, h => by
    have ih := cellsNd_set l j e y (by simpa using h)
    rw [List.set_cons_succ, cellsNd_cons, cellsNd_cons, ← ih]
    rw [List.set_append_right _ _ (show p.cells.toList.length ≤ (j + 1) * 9 + 8 by show 9 ≤ _; omega)]
    show _ ++ (cellsNd l).set ((j + 1) * 9 + 8 - 9) _ = _
    rw [show (j + 1) * 9 + 8 - 9 = j * 9 + 8 by omega]
theorem Own.setOth {V w : World} {R : List Thing} {A : Option Addr} {n c j : Nat} {l : List NodM} {e : NodM} (H : Own V w (rowT 28 9 (.slice A n c) n (cellsNd l) :: R)) (hj : l[j]? = some e) :
    ∃ g, A = some ⟨g, 0, none⟩ ∧ w.cell? ⟨g, j * 9, none⟩ = some (.int .i64 e.x.id) ∧ w.cell? ⟨g, j * 9 + 8, none⟩ = some (.int .i64 e.x.oth) ∧ w.frozen? ⟨g, j * 9 + 8, none⟩ = false ∧
      ∀ y : Int, Own V (w.setCell ⟨g, j * 9 + 8, none⟩ (.int .i64 y)) (rowT 28 9 (.slice A n c) n (cellsNd (l.set j { e with x := { e.x with oth := y } })) :: R) := by
  have h := H.head
  have hl : (cellsNd l).length = n * 9 := h.1
  have hjl := (List.getElem?_eq_some_iff.1 hj).1
  rw [cellsNd_length] at hl
  rcases id h.2 with ⟨q, q2⟩ | ⟨g, cap, cur, q, hb, hg, r⟩
  · omega
  · simp only [Value.slice.injEq] at q
    obtain ⟨rfl, _, rfl⟩ := q
    refine ⟨g, rfl, ?_, ?_, ?_, fun y => ?_⟩
    · rw [World.ownsRow.cellAt h (j * 9) (by omega), ← Nat.add_zero (j * 9), cellsNd_at l j e hj 0 (by decide)]; rfl
    · rw [World.ownsRow.cellAt h (j * 9 + 8) (by omega), cellsNd_at l j e hj 8 (by decide)]; rfl
    · simp [World.frozen?, hg]
    · rw [← cellsNd_set l j e y hj]
      refine H.turn (s := rowT 28 9 (.slice (some ⟨g, 0, none⟩) n c) n ((cellsNd l).set (j * 9 + 8) (.int .i64 y))) (setCell_but w ⟨g, j * 9 + 8, none⟩ (.int .i64 y)) (ownsRow_store H.head (by rw [cellsNd_length]; omega) rfl) (rowT_stable _ _ _ _ _) fun i hi => ⟨.inl hi, ?_⟩
      have := (H.new _ (.head _) i hi).2
      simpa [World.setCell] using this
theorem NodesAt.take {w : World} {A : Option Addr} {L : List NodV} (h : NodesAt w A L) (k : Nat) : NodesAt w A (L.take k) := by
  refine ⟨fun e => by rw [h.none_ e]; exact List.take_nil, fun a e j x hj => h.cell a e j x ?_⟩
  rw [List.getElem?_take] at hj
  split at hj
  · exact hj
  · cases hj
theorem upM_held (w : World) (k : Nat) : HeldM w (upM k) := fun e he => by
  obtain ⟨x, hx, rfl⟩ := List.mem_map.1 he
  obtain ⟨i, hi, rfl⟩ := List.mem_map.1 hx
  exact ⟨ArmsAt.nil _, rfl⟩
def upZ (z : Int) : List NodM := (upM 33).set 31 ⟨{ ndG 32 with oth := z }, none, 0, 0⟩
theorem upZ_held (w : World) (z : Int) : HeldM w (upZ z) := fun e he => by
  rcases List.mem_or_eq_of_mem_set he with h | rfl
  · exact upM_held w 33 e h
  · exact ⟨ArmsAt.nil _, rfl⟩
theorem upM_length (k : Nat) : (upM k).length = k := by unfold upM manyG; simp
theorem upZ_length (z : Int) : (upZ z).length = 33 := by unfold upZ; rw [List.length_set, upM_length]
theorem upM_map (k : Nat) : (upM k).map NodM.x = manyG k := by
  unfold upM
  rw [List.map_map]
  exact List.map_id _
theorem upZ_map (z : Int) : (upZ z).map NodM.x = manyZ 33 z := rfl
theorem upM_31 : (upM 33)[31]? = some ⟨{ ndG 32 with oth := 33 }, none, 0, 0⟩ := rfl
theorem upZ_31 (z : Int) : (upZ z)[31]? = some ⟨{ ndG 32 with oth := z }, none, 0, 0⟩ := rfl
theorem upZ_set (z y : Int) : (upZ z).set 31 ⟨{ ndG 32 with oth := y }, none, 0, 0⟩ = upZ y := rfl
theorem fewN_of {L : List NodV} (h : L.length < 100000) (k : ∀ x ∈ L, x.arms = []) : FewG L := ⟨h, fun x hx => by
  have := k x hx
  exact ⟨fun p hp => by (rw [this] at hp; cases hp), by rw [this]; decide⟩⟩
theorem manyG_few (k : Nat) (hk : k ≤ 33) : FewG (manyG k) := fewN_of (by unfold manyG; rw [List.length_map, List.length_range]; omega) fun x hx => by
  obtain ⟨i, hi, rfl⟩ := List.mem_map.1 hx
  rfl
theorem manyZ_few (k : Nat) (z : Int) (hk : k ≤ 33) : FewG (manyZ k z) := fewN_of (by unfold manyZ; rw [List.length_map, List.length_range]; omega) fun x hx => by
  obtain ⟨i, hi, rfl⟩ := List.mem_map.1 hx
  rfl
theorem l21_at (w : World) : NodesAt (w.alloc (.cells #[.int .i64 2, .int .i64 0, .int .i64 0, .int .i64 0, .int .i64 0, .int .i64 0, .int .i64 0, .slice none 0 0, .int .i64 0, .int .i64 1, .int .i64 0, .int .i64 0, .int .i64 0, .int .i64 0, .int .i64 0, .int .i64 0, .slice none 0 0, .int .i64 0] 28)) (some ⟨w.heap.size, 0, none⟩) [ndG 2, ndG 1] :=
  nodes_new (l := [⟨ndG 2, none, 0, 0⟩, ⟨ndG 1, none, 0, 0⟩]) fun e he => by
    simp only [List.mem_cons, List.not_mem_nil, or_false] at he
    rcases he with rfl | rfl <;> exact ⟨ArmsAt.nil _, rfl⟩
theorem l21_few : FewG [ndG 2, ndG 1] := fewN_of (by show 2 < 100000; decide) fun x hx => by
  simp only [List.mem_cons, List.not_mem_nil, or_false] at hx
  rcases hx with rfl | rfl <;> rfl
theorem l11_at (w : World) : NodesAt (w.alloc (.cells #[.int .i64 1, .int .i64 0, .int .i64 0, .int .i64 0, .int .i64 0, .int .i64 0, .int .i64 0, .slice none 0 0, .int .i64 0, .int .i64 1, .int .i64 0, .int .i64 0, .int .i64 0, .int .i64 0, .int .i64 0, .int .i64 0, .slice none 0 0, .int .i64 0] 28)) (some ⟨w.heap.size, 0, none⟩) [ndG 1, ndG 1] :=
  nodes_new (l := [⟨ndG 1, none, 0, 0⟩, ⟨ndG 1, none, 0, 0⟩]) fun e he => by
    simp only [List.mem_cons, List.not_mem_nil, or_false] at he
    rcases he with rfl | rfl <;> exact ⟨ArmsAt.nil _, rfl⟩
theorem l11_few : FewG [ndG 1, ndG 1] := fewN_of (by show 2 < 100000; decide) fun x hx => by
  simp only [List.mem_cons, List.not_mem_nil, or_false] at hx
  rcases hx with rfl | rfl <;> rfl
theorem l34_at (w : World) : NodesAt (w.alloc (.cells #[.int .i64 3, .int .i64 0, .int .i64 0, .int .i64 0, .int .i64 0, .int .i64 0, .int .i64 0, .slice none 0 0, .int .i64 3, .int .i64 4, .int .i64 0, .int .i64 0, .int .i64 0, .int .i64 0, .int .i64 0, .int .i64 0, .slice none 0 0, .int .i64 9] 28)) (some ⟨w.heap.size, 0, none⟩) [{ ndG 3 with oth := 3 }, { ndG 4 with oth := 9 }] :=
  nodes_new (l := [⟨{ ndG 3 with oth := 3 }, none, 0, 0⟩, ⟨{ ndG 4 with oth := 9 }, none, 0, 0⟩]) fun e he => by
    simp only [List.mem_cons, List.not_mem_nil, or_false] at he
    rcases he with rfl | rfl <;> exact ⟨ArmsAt.nil _, rfl⟩
theorem l34_few : FewG [{ ndG 3 with oth := 3 }, { ndG 4 with oth := 9 }] := fewN_of (by show 2 < 100000; decide) fun x hx => by
  simp only [List.mem_cons, List.not_mem_nil, or_false] at hx
  rcases hx with rfl | rfl <;> rfl
theorem l2_at (w : World) : NodesAt (w.alloc (.cells #[.int .i64 2, .int .i64 0, .int .i64 0, .int .i64 0, .int .i64 0, .int .i64 0, .int .i64 0, .slice none 0 0, .int .i64 0] 28)) (some ⟨w.heap.size, 0, none⟩) [ndG 2] :=
  nodes_new (l := [⟨ndG 2, none, 0, 0⟩]) fun e he => by
    simp only [List.mem_cons, List.not_mem_nil, or_false] at he
    rcases he with rfl <;> exact ⟨ArmsAt.nil _, rfl⟩
theorem l2_few : FewG [ndG 2] := fewN_of (by show 1 < 100000; decide) fun x hx => by
  simp only [List.mem_cons, List.not_mem_nil, or_false] at hx
  rcases hx with rfl <;> rfl
theorem l7_at (w : World) : NodesAt (w.alloc (.cells #[.int .i64 7, .int .i64 0, .int .i64 0, .int .i64 0, .int .i64 0, .int .i64 0, .int .i64 0, .slice none 0 0, .int .i64 4] 28)) (some ⟨w.heap.size, 0, none⟩) [{ ndG 7 with oth := 4 }] :=
  nodes_new (l := [⟨{ ndG 7 with oth := 4 }, none, 0, 0⟩]) fun e he => by
    simp only [List.mem_cons, List.not_mem_nil, or_false] at he
    rcases he with rfl <;> exact ⟨ArmsAt.nil _, rfl⟩
theorem l7_few : FewG [{ ndG 7 with oth := 4 }] := fewN_of (by show 1 < 100000; decide) fun x hx => by
  simp only [List.mem_cons, List.not_mem_nil, or_false] at hx
  rcases hx with rfl <;> rfl
theorem good8_nodes {V w : World} {Ba : Nat} (H : Own V w [rowT 26 2 (.slice (some ⟨Ba, 0, none⟩) 33 33) 33 (cellsArm (armsTo 33))]) :
    NodesAt ((w.alloc (.cells #[.int .u32 4294967295, .int .i64 65535] 26)).alloc (.cells (cellsNd [⟨ndG 1, none, 0, 0⟩, ⟨⟨65534, 256, 0, 0, 0, 0, 0, [], 65535⟩, none, 0, 0⟩, ⟨⟨1, 0, 2048, 16, 256, 0, 0, [], 0⟩, none, 0, 0⟩, ⟨⟨1, 0, 0, 1, 1, 0, 0, [], 0⟩, none, 0, 0⟩, ⟨⟨1, 0, 0, 0, 0, 2048, 32, [(4294967295, 65535)], 0⟩, some ⟨w.heap.size, 0, none⟩, 1, 1⟩, ⟨⟨1, 0, 0, 0, 0, 0, 1, [], 0⟩, none, 0, 0⟩, ⟨⟨1, 0, 0, 0, 0, 0, 6, armsUp 32, 0⟩, some ⟨Ba, 0, none⟩, 32, 33⟩, ⟨⟨1, 0, 0, 0, 0, 0, 5, armsUp 32, 0⟩, some ⟨Ba, 0, none⟩, 32, 33⟩]).toArray 28)) (some ⟨w.heap.size + 1, 0, none⟩) good8
    ∧ Own V ((w.alloc (.cells #[.int .u32 4294967295, .int .i64 65535] 26)).alloc (.cells (cellsNd [⟨ndG 1, none, 0, 0⟩, ⟨⟨65534, 256, 0, 0, 0, 0, 0, [], 65535⟩, none, 0, 0⟩, ⟨⟨1, 0, 2048, 16, 256, 0, 0, [], 0⟩, none, 0, 0⟩, ⟨⟨1, 0, 0, 1, 1, 0, 0, [], 0⟩, none, 0, 0⟩, ⟨⟨1, 0, 0, 0, 0, 2048, 32, [(4294967295, 65535)], 0⟩, some ⟨w.heap.size, 0, none⟩, 1, 1⟩, ⟨⟨1, 0, 0, 0, 0, 0, 1, [], 0⟩, none, 0, 0⟩, ⟨⟨1, 0, 0, 0, 0, 0, 6, armsUp 32, 0⟩, some ⟨Ba, 0, none⟩, 32, 33⟩, ⟨⟨1, 0, 0, 0, 0, 0, 5, armsUp 32, 0⟩, some ⟨Ba, 0, none⟩, 32, 33⟩]).toArray 28)) [rowT 26 2 (.slice (some ⟨Ba, 0, none⟩) 33 33) 33 (cellsArm (armsTo 33))] := by
  have H1 := H.blk #[.int .u32 4294967295, .int .i64 65535] 26
  have z1 : (w.alloc (.cells #[.int .u32 4294967295, .int .i64 65535] 26)).heap.size = w.heap.size + 1 := by simp
  have H2 := H1.blk (cellsNd [⟨ndG 1, none, 0, 0⟩, ⟨⟨65534, 256, 0, 0, 0, 0, 0, [], 65535⟩, none, 0, 0⟩, ⟨⟨1, 0, 2048, 16, 256, 0, 0, [], 0⟩, none, 0, 0⟩, ⟨⟨1, 0, 0, 1, 1, 0, 0, [], 0⟩, none, 0, 0⟩, ⟨⟨1, 0, 0, 0, 0, 2048, 32, [(4294967295, 65535)], 0⟩, some ⟨w.heap.size, 0, none⟩, 1, 1⟩, ⟨⟨1, 0, 0, 0, 0, 0, 1, [], 0⟩, none, 0, 0⟩, ⟨⟨1, 0, 0, 0, 0, 0, 6, armsUp 32, 0⟩, some ⟨Ba, 0, none⟩, 32, 33⟩, ⟨⟨1, 0, 0, 0, 0, 0, 5, armsUp 32, 0⟩, some ⟨Ba, 0, none⟩, 32, 33⟩]).toArray 28
  rw [z1] at H2
  have HA := ArmsAt.row H2.drop.drop.head (armsTo_length 33 (by omega))
  rw [armsTo_full] at HA
  have h32 : (armsUp 33).take 32 = armsUp 32 := by decide +kernel
  have HA2 := HA.take 32
  rw [h32] at HA2
  refine ⟨NodesAt.blk H2.head rfl (fun e he => ?_), H2.drop.drop⟩
  simp only [List.mem_cons, List.not_mem_nil, or_false] at he
  rcases he with rfl | rfl | rfl | rfl | rfl | rfl | rfl | rfl
  · exact ⟨ArmsAt.nil _, rfl⟩
  · exact ⟨ArmsAt.nil _, rfl⟩
  · exact ⟨ArmsAt.nil _, rfl⟩
  · exact ⟨ArmsAt.nil _, rfl⟩
  · exact ⟨ArmsAt.blk H2.drop.head rfl, rfl⟩
  · exact ⟨ArmsAt.nil _, rfl⟩
  · exact ⟨HA2, rfl⟩
  · exact ⟨HA2, rfl⟩
set_option maxRecDepth 20000 in
set_option maxHeartbeats 8000000 in
theorem graphNames_walk (w : World) : Calls Try.prog 3 #[] w fun e w' => e = .returned (.bool true) ∧ Wider w w' := by
  have mk := fun W => gmakeA W
  go_enter Try.func3, Try.ntmps3
  go_upto_block 0 with (first
    | (go_at_call 9; ((with_reducible refine (gawake_c _).mono ?_); rintro e w1 ⟨rfl, G⟩)))
  go_wp2
  have H0 := arms_row33 (Own.nil G)
  obtain ⟨Ba, hBa⟩ : ∃ b, w1.heap.size = b := ⟨_, rfl⟩
  rw [hBa] at H0
  try rw [hBa]
  go_loopw [2] (fun a wr => ∃ i : Nat, i ≤ 33 ∧ a = .int .i64 (i : Int) ∧ Own w wr [rowT 26 2 (.slice (some ⟨Ba, 0, none⟩) 33 33) 33 (cellsArm (armsTo i))]) (fun a _ => 33 - (intOf a).toNat)
  case atStart => exact ⟨0, Nat.zero_le _, rfl, H0⟩
  case round =>
    clear H0 G mk hBa
    obtain ⟨i, hi0, rfl, H⟩ := hrel
    have q0 : (0 : Int) ≤ (i : Int) := by omega
    by_cases q : i < 33
    · have q1 : (i : Int) < 33 := by omega
      have u1 : IntKind.u32.wrap (i : Int) = (i : Int) := by simp [IntKind.wrap, IntKind.bits, IntKind.signed]; omega
      obtain ⟨x0, f0, upd⟩ := H.setVal (armsTo_at q).1
      have HU := Lib.hid (upd (i : Int))
      have HE := Lib.hid (armsTo_at q).2
      clear upd
      go_wp2
      go_roundw
      case measure => simp [intOf]; omega
      case rel =>
        have := HU.out
        rw [HE.out] at this
        exact ⟨i + 1, by omega, by go_num, this⟩
    · obtain rfl : i = 33 := by omega
      have HA := ArmsAt.row H.head (armsTo_length 33 (by omega))
      rw [armsTo_full] at HA
      have h1 := Own.head H
      go_upto_region 8 with (fail)
      go_cut [46, 47, 48] from 32 to 48 (fun v46 v47 v48 wc => ∃ A, v46 = .slice A 8 8 ∧ v47 = .int .i64 8 ∧ v48 = .int .i64 0 ∧ NodesAt wc A good8 ∧ Own w wc [rowT 26 2 (.slice (some ⟨Ba, 0, none⟩) 33 33) 33 (cellsArm (armsTo 33))])
      case first =>
        have N8 := good8_nodes H
        go_region_law (fail)
        all_goals
          go_wp2
          go_meet
          case rel => exact ⟨_, rfl, rfl, rfl, N8.1.on (Wider.refl _).drew, N8.2.quiet (Wider.refl _).drew⟩
      case rest =>
        obtain ⟨A8, rfl, rfl, rfl, N8, H8⟩ := hcut
        clear H HA h1
        have HN8 := Lib.hid N8
        obtain ⟨W8, hW8⟩ : ∃ W, wc = W := ⟨_, rfl⟩
        clear N8
        have R8 := Wider.refl wc
        go_wp2
        go_loopw [48] (fun a wr => ∃ i : Nat, i ≤ 8 ∧ a = .int .i64 (i : Int) ∧ Wider wc wr) (fun a _ => 8 - (intOf a).toNat)
        case atStart => exact ⟨0, Nat.zero_le _, rfl, R8⟩
        case round =>
          clear R8
          obtain ⟨i, hi0, rfl, G⟩ := hrel
          have q0 : (0 : Int) ≤ (i : Int) := by omega
          by_cases q : i < 8
          · have q1 : (i : Int) < 8 := by omega
            obtain ⟨a, x, rfl, hx, A2, n2, c2, K⟩ := HN8.out.at (j := i) q
            obtain ⟨d0, d1, d2, d3, d4, d5, d6, d7, d8, har, hlen⟩ := K.on G
            have H1 := G.alloc (.cells (nodC x A2 n2 c2) 28)
            have D := NodeB.new wr x A2 n2 c2
            have zf := fun (W : World) (g : Wider wr W) => gform_c (c := c2) x (har.on g) hlen (good8_ok x (List.mem_of_getElem? hx)) (good8_form x (List.mem_of_getElem? hx))
            go_wp2_with (first
              | (go_at_call 10; ((with_reducible refine (zf _ ((Wider.refl wr).alloc _)).mono ?_); rintro e w2 ⟨rfl, g⟩; replace H1 := H1.trans g; clear g zf)))
            go_roundw
            case measure => simp [intOf]; omega
            case rel =>
              repeat apply Exists.intro
              exact ⟨⟨i + 1, by omega, by go_num, H1⟩, rfl⟩
          · obtain rfl : i = 8 := by omega
            have hA33 := (ArmsAt.row H8.head (armsTo_length 33 (by omega))).on G
            rw [armsTo_full] at hA33
            have hA1 := hA33.take 1
            have hA17 := hA33.take 17
            rw [show (armsUp 33).take 1 = armsUp 1 by decide +kernel] at hA1
            rw [show (armsUp 33).take 17 = armsUp 17 by decide +kernel] at hA17
            have GW := Lib.hid (H8.wider.trans G)
            clear HN8 H8 G
            go_upto_region 14 with (fail)
            try dsimp only [List.append]
            try simp only [Act.put, List.setIfInBounds_toArray, List.set_cons_succ, List.set_cons_zero]
            refine gen_act (Φ := fun a => (Code.region 14 _ true).wp Try.prog _ a _) _ ?_
            intro a0 ha0
            have zs' : a0.tmps.size = 194 := by rw [ha0]; rfl
            have z1 : a0.eval (.tmp 1) = .slice (some ⟨Ba, 0, none⟩) 33 33 := by rw [ha0]; rfl
            have zd : a0.defers = [] := by rw [ha0]
            have HA0 := Lib.hid ha0
            clear ha0
            refine wp_region_spec [56, 57, 58, 59, 60, 61, 62, 63, 64, 65, 66, 67, 68, 69, 70, 71, 72, 73, 74, 75, 76, 77, 78, 79, 80, 81, 82, 83, 84, 85, 86, 87, 88, 89, 90, 91, 92, 93, 94, 95, 96, 97, 98, 99, 100] [spEq (.agg #[.int .i64 (0), .int .i64 (0), .int .i64 (0), .int .i64 (0), .int .i64 (0), .int .i64 (0), .int .i64 (0), .slice none 0 0, .int .i64 (0)]),
                  spEq (.agg #[.int .i64 (-1), .int .i64 (0), .int .i64 (0), .int .i64 (0), .int .i64 (0), .int .i64 (0), .int .i64 (0), .slice none 0 0, .int .i64 (0)]),
                  spEq (.agg #[.int .i64 (65535), .int .i64 (0), .int .i64 (0), .int .i64 (0), .int .i64 (0), .int .i64 (0), .int .i64 (0), .slice none 0 0, .int .i64 (0)]),
                  spEq (.agg #[.int .i64 (1), .int .i64 (-1), .int .i64 (0), .int .i64 (0), .int .i64 (0), .int .i64 (0), .int .i64 (0), .slice none 0 0, .int .i64 (0)]),
                  spEq (.agg #[.int .i64 (1), .int .i64 (257), .int .i64 (0), .int .i64 (0), .int .i64 (0), .int .i64 (0), .int .i64 (0), .slice none 0 0, .int .i64 (0)]),
                  spEq (.agg #[.int .i64 (1), .int .i64 (0), .int .i64 (0), .int .i64 (0), .int .i64 (0), .int .i64 (0), .int .i64 (0), .slice none 0 0, .int .i64 (-1)]),
                  spEq (.agg #[.int .i64 (1), .int .i64 (0), .int .i64 (0), .int .i64 (0), .int .i64 (0), .int .i64 (0), .int .i64 (0), .slice none 0 0, .int .i64 (65536)]),
                  spEq (.agg #[.int .i64 (1), .int .i64 (0), .int .i64 (1), .int .i64 (0), .int .i64 (0), .int .i64 (0), .int .i64 (0), .slice none 0 0, .int .i64 (0)]),
                  spEq (.agg #[.int .i64 (1), .int .i64 (0), .int .i64 (0), .int .i64 (0), .int .i64 (1), .int .i64 (0), .int .i64 (0), .slice none 0 0, .int .i64 (0)]),
                  spEq (.agg #[.int .i64 (1), .int .i64 (0), .int .i64 (0), .int .i64 (1), .int .i64 (0), .int .i64 (0), .int .i64 (0), .slice none 0 0, .int .i64 (0)]),
                  spEq (.agg #[.int .i64 (1), .int .i64 (0), .int .i64 (0), .int .i64 (17), .int .i64 (1), .int .i64 (0), .int .i64 (0), .slice none 0 0, .int .i64 (0)]),
                  spEq (.agg #[.int .i64 (1), .int .i64 (0), .int .i64 (0), .int .i64 (-1), .int .i64 (1), .int .i64 (0), .int .i64 (0), .slice none 0 0, .int .i64 (0)]),
                  spEq (.agg #[.int .i64 (1), .int .i64 (0), .int .i64 (0), .int .i64 (1), .int .i64 (257), .int .i64 (0), .int .i64 (0), .slice none 0 0, .int .i64 (0)]),
                  spEq (.agg #[.int .i64 (1), .int .i64 (0), .int .i64 (-1), .int .i64 (1), .int .i64 (1), .int .i64 (0), .int .i64 (0), .slice none 0 0, .int .i64 (0)]),
                  spEq (.agg #[.int .i64 (1), .int .i64 (0), .int .i64 (2049), .int .i64 (1), .int .i64 (1), .int .i64 (0), .int .i64 (0), .slice none 0 0, .int .i64 (0)]),
                  spEq (.agg #[.int .i64 (1), .int .i64 (0), .int .i64 (0), .int .i64 (0), .int .i64 (0), .int .i64 (1), .int .i64 (0), .slice none 0 0, .int .i64 (0)]),
                  spEq (.slice (some ⟨Ba, 0, none⟩) 33 33),
                  spEq (.slice (some ⟨Ba, 0, none⟩) 1 33),
                  spEq (.agg #[.int .i64 (1), .int .i64 (0), .int .i64 (0), .int .i64 (0), .int .i64 (0), .int .i64 (0), .int .i64 (0), .slice (some ⟨Ba, 0, none⟩) 1 33, .int .i64 (0)]),
                  spEq (.agg #[.int .i64 (1), .int .i64 (0), .int .i64 (0), .int .i64 (0), .int .i64 (0), .int .i64 (0), .int .i64 (33), .slice none 0 0, .int .i64 (0)]),
                  spEq (.agg #[.int .i64 (1), .int .i64 (0), .int .i64 (0), .int .i64 (0), .int .i64 (0), .int .i64 (0), .int .i64 (-1), .slice none 0 0, .int .i64 (0)]),
                  spEq (.agg #[.int .i64 (1), .int .i64 (0), .int .i64 (0), .int .i64 (0), .int .i64 (0), .int .i64 (-1), .int .i64 (1), .slice none 0 0, .int .i64 (0)]),
                  spEq (.agg #[.int .i64 (1), .int .i64 (0), .int .i64 (0), .int .i64 (0), .int .i64 (0), .int .i64 (2049), .int .i64 (1), .slice none 0 0, .int .i64 (0)]),
                  spEq (.slice (some ⟨Ba, 0, none⟩) 33 33),
                  spEq (.agg #[.int .i64 (1), .int .i64 (0), .int .i64 (0), .int .i64 (0), .int .i64 (0), .int .i64 (0), .int .i64 (6), .slice (some ⟨Ba, 0, none⟩) 33 33, .int .i64 (0)]),
                  spEq (.slice (some ⟨Ba, 0, none⟩) 33 33),
                  spEq (.slice (some ⟨Ba, 0, none⟩) 17 33),
                  spEq (.agg #[.int .i64 (1), .int .i64 (0), .int .i64 (0), .int .i64 (0), .int .i64 (0), .int .i64 (0), .int .i64 (4), .slice (some ⟨Ba, 0, none⟩) 17 33, .int .i64 (0)]),
                  spEq (.agg #[.int .u32 1, .int .i64 (0)]),
                  spEq (.agg #[.int .u32 1, .int .i64 (0)]),
                  spAt (True) (fun v w' => ∃ B, v = .slice (some ⟨B, 0, none⟩) 2 2 ∧ ArmsAt w' (some ⟨B, 0, none⟩) [(1, 0), (1, 0)]),
                  spAt (True) (fun v w' => ∃ B, v = .agg #[.int .i64 (1), .int .i64 (0), .int .i64 (0), .int .i64 (0), .int .i64 (0), .int .i64 (0), .int .i64 (4), .slice (some ⟨B, 0, none⟩) 2 2, .int .i64 (0)] ∧ ArmsAt w' (some ⟨B, 0, none⟩) [(1, 0), (1, 0)]),
                  spEq (.agg #[.int .u32 2, .int .i64 (0)]),
                  spEq (.agg #[.int .u32 1, .int .i64 (0)]),
                  spAt (True) (fun v w' => ∃ B, v = .slice (some ⟨B, 0, none⟩) 2 2 ∧ ArmsAt w' (some ⟨B, 0, none⟩) [(2, 0), (1, 0)]),
                  spAt (True) (fun v w' => ∃ B, v = .agg #[.int .i64 (1), .int .i64 (0), .int .i64 (0), .int .i64 (0), .int .i64 (0), .int .i64 (0), .int .i64 (4), .slice (some ⟨B, 0, none⟩) 2 2, .int .i64 (0)] ∧ ArmsAt w' (some ⟨B, 0, none⟩) [(2, 0), (1, 0)]),
                  spEq (.agg #[.int .u32 0, .int .i64 (-1)]),
                  spAt (True) (fun v w' => ∃ B, v = .slice (some ⟨B, 0, none⟩) 1 1 ∧ ArmsAt w' (some ⟨B, 0, none⟩) [(0, -1)]),
                  spAt (True) (fun v w' => ∃ B, v = .agg #[.int .i64 (1), .int .i64 (0), .int .i64 (0), .int .i64 (0), .int .i64 (0), .int .i64 (0), .int .i64 (4), .slice (some ⟨B, 0, none⟩) 1 1, .int .i64 (0)] ∧ ArmsAt w' (some ⟨B, 0, none⟩) [(0, -1)]),
                  spEq (.agg #[.int .u32 0, .int .i64 (65536)]),
                  spAt (True) (fun v w' => ∃ B, v = .slice (some ⟨B, 0, none⟩) 1 1 ∧ ArmsAt w' (some ⟨B, 0, none⟩) [(0, 65536)]),
                  spAt (True) (fun v w' => ∃ B, v = .agg #[.int .i64 (1), .int .i64 (0), .int .i64 (0), .int .i64 (0), .int .i64 (0), .int .i64 (0), .int .i64 (4), .slice (some ⟨B, 0, none⟩) 1 1, .int .i64 (0)] ∧ ArmsAt w' (some ⟨B, 0, none⟩) [(0, 65536)]),
                  spAt (True) (fun v w' => ∃ B, v = .slice B 27 27 ∧ NodesAt w' B bad27),
                  spEq (.int .i64 27),
                  spEq (.int .i64 0)] (by kernel_rfl) (by kernel_rfl) (by kernel_rfl) (by decide +kernel) (by rw [zs']; decide +kernel) (.cons (spEq_mono _) (.cons (spEq_mono _) (.cons (spEq_mono _) (.cons (spEq_mono _) (.cons (spEq_mono _) (.cons (spEq_mono _) (.cons (spEq_mono _) (.cons (spEq_mono _) (.cons (spEq_mono _) (.cons (spEq_mono _) (.cons (spEq_mono _) (.cons (spEq_mono _) (.cons (spEq_mono _) (.cons (spEq_mono _) (.cons (spEq_mono _) (.cons (spEq_mono _) (.cons (spEq_mono _) (.cons (spEq_mono _) (.cons (spEq_mono _) (.cons (spEq_mono _) (.cons (spEq_mono _) (.cons (spEq_mono _) (.cons (spEq_mono _) (.cons (spEq_mono _) (.cons (spEq_mono _) (.cons (spEq_mono _) (.cons (spEq_mono _) (.cons (spEq_mono _) (.cons (spEq_mono _) (.cons (spEq_mono _) (.cons (spAt_mono (fun v w1 w2 ⟨B, e, r⟩ g => ⟨B, e, r.on g⟩)) (.cons (spAt_mono (fun v w1 w2 ⟨B, e, r⟩ g => ⟨B, e, r.on g⟩)) (.cons (spEq_mono _) (.cons (spEq_mono _) (.cons (spAt_mono (fun v w1 w2 ⟨B, e, r⟩ g => ⟨B, e, r.on g⟩)) (.cons (spAt_mono (fun v w1 w2 ⟨B, e, r⟩ g => ⟨B, e, r.on g⟩)) (.cons (spEq_mono _) (.cons (spAt_mono (fun v w1 w2 ⟨B, e, r⟩ g => ⟨B, e, r.on g⟩)) (.cons (spAt_mono (fun v w1 w2 ⟨B, e, r⟩ g => ⟨B, e, r.on g⟩)) (.cons (spEq_mono _) (.cons (spAt_mono (fun v w1 w2 ⟨B, e, r⟩ g => ⟨B, e, r.on g⟩)) (.cons (spAt_mono (fun v w1 w2 ⟨B, e, r⟩ g => ⟨B, e, r.on g⟩)) (.cons (spAt_mono (fun v w1 w2 ⟨B, e, r⟩ g => ⟨B, e, r.on g⟩)) (.cons (spEq_mono _) (.cons (spEq_mono _) (.nil)))))))))))))))))))))))))))))))))))))))))))))) (show ∀ i, i < 45 → _ from below_step (n := 44) ?_ (below_step (n := 43) ?_ (below_step (n := 42) ?_ (below_step (n := 41) ?_ (below_step (n := 40) ?_ (below_step (n := 39) ?_ (below_step (n := 38) ?_ (below_step (n := 37) ?_ (below_step (n := 36) ?_ (below_step (n := 35) ?_ (below_step (n := 34) ?_ (below_step (n := 33) ?_ (below_step (n := 32) ?_ (below_step (n := 31) ?_ (below_step (n := 30) ?_ (below_step (n := 29) ?_ (below_step (n := 28) ?_ (below_step (n := 27) ?_ (below_step (n := 26) ?_ (below_step (n := 25) ?_ (below_step (n := 24) ?_ (below_step (n := 23) ?_ (below_step (n := 22) ?_ (below_step (n := 21) ?_ (below_step (n := 20) ?_ (below_step (n := 19) ?_ (below_step (n := 18) ?_ (below_step (n := 17) ?_ (below_step (n := 16) ?_ (below_step (n := 15) ?_ (below_step (n := 14) ?_ (below_step (n := 13) ?_ (below_step (n := 12) ?_ (below_step (n := 11) ?_ (below_step (n := 10) ?_ (below_step (n := 9) ?_ (below_step (n := 8) ?_ (below_step (n := 7) ?_ (below_step (n := 6) ?_ (below_step (n := 5) ?_ (below_step (n := 4) ?_ (below_step (n := 3) ?_ (below_step (n := 2) ?_ (below_step (n := 1) ?_ (below_step (n := 0) ?_ (below_nil)))))))))))))))))))))))))))))))))))))))))))))) ?_
            · -- 44
              intro a W' g hr hp
              show SpecDo _ _ _ 44 100 (spEq (.int .i64 0)) a W'
              refine spec_plain (o := _) rfl rfl ?_
              refine wp_k (a' := a.put (some 100) (.int .i64 0)) (w' := W') ⟨_, rfl, Wider.refl _, rfl⟩ ?_
              intro K' hK'
              go_simp
              exact hK'
            · -- 43
              intro a W' g hr hp
              show SpecDo _ _ _ 43 99 (spEq (.int .i64 27)) a W'
              refine spec_plain (o := _) rfl rfl ?_
              have y98 := (show True → (fun v w' => ∃ B, v = .slice B 27 27 ∧ NodesAt w' B bad27) (a.eval (.tmp 98)) W' from hp 42 (by rfl)) trivial
              obtain ⟨B, y98, -⟩ := y98
              replace y98 := evalD y98
              refine wp_k (a' := a.put (some 99) (.int .i64 27)) (w' := W') ⟨_, rfl, Wider.refl _, rfl⟩ ?_
              intro K' hK'
              go_simp
              exact hK'
            · -- 42
              intro a W' g hr hp
              show SpecDo _ _ _ 42 98 (spAt (True) (fun v w' => ∃ B, v = .slice B 27 27 ∧ NodesAt w' B bad27)) a W'
              refine spec_plain (o := _) rfl rfl ?_
              have y56 : a.eval (.tmp 56) = .agg #[.int .i64 (0), .int .i64 (0), .int .i64 (0), .int .i64 (0), .int .i64 (0), .int .i64 (0), .int .i64 (0), .slice none 0 0, .int .i64 (0)] := hp 0 (by rfl)
              have y57 : a.eval (.tmp 57) = .agg #[.int .i64 (-1), .int .i64 (0), .int .i64 (0), .int .i64 (0), .int .i64 (0), .int .i64 (0), .int .i64 (0), .slice none 0 0, .int .i64 (0)] := hp 1 (by rfl)
              have y58 : a.eval (.tmp 58) = .agg #[.int .i64 (65535), .int .i64 (0), .int .i64 (0), .int .i64 (0), .int .i64 (0), .int .i64 (0), .int .i64 (0), .slice none 0 0, .int .i64 (0)] := hp 2 (by rfl)
              have y59 : a.eval (.tmp 59) = .agg #[.int .i64 (1), .int .i64 (-1), .int .i64 (0), .int .i64 (0), .int .i64 (0), .int .i64 (0), .int .i64 (0), .slice none 0 0, .int .i64 (0)] := hp 3 (by rfl)
              have y60 : a.eval (.tmp 60) = .agg #[.int .i64 (1), .int .i64 (257), .int .i64 (0), .int .i64 (0), .int .i64 (0), .int .i64 (0), .int .i64 (0), .slice none 0 0, .int .i64 (0)] := hp 4 (by rfl)
              have y61 : a.eval (.tmp 61) = .agg #[.int .i64 (1), .int .i64 (0), .int .i64 (0), .int .i64 (0), .int .i64 (0), .int .i64 (0), .int .i64 (0), .slice none 0 0, .int .i64 (-1)] := hp 5 (by rfl)
              have y62 : a.eval (.tmp 62) = .agg #[.int .i64 (1), .int .i64 (0), .int .i64 (0), .int .i64 (0), .int .i64 (0), .int .i64 (0), .int .i64 (0), .slice none 0 0, .int .i64 (65536)] := hp 6 (by rfl)
              have y63 : a.eval (.tmp 63) = .agg #[.int .i64 (1), .int .i64 (0), .int .i64 (1), .int .i64 (0), .int .i64 (0), .int .i64 (0), .int .i64 (0), .slice none 0 0, .int .i64 (0)] := hp 7 (by rfl)
              have y64 : a.eval (.tmp 64) = .agg #[.int .i64 (1), .int .i64 (0), .int .i64 (0), .int .i64 (0), .int .i64 (1), .int .i64 (0), .int .i64 (0), .slice none 0 0, .int .i64 (0)] := hp 8 (by rfl)
              have y65 : a.eval (.tmp 65) = .agg #[.int .i64 (1), .int .i64 (0), .int .i64 (0), .int .i64 (1), .int .i64 (0), .int .i64 (0), .int .i64 (0), .slice none 0 0, .int .i64 (0)] := hp 9 (by rfl)
              have y66 : a.eval (.tmp 66) = .agg #[.int .i64 (1), .int .i64 (0), .int .i64 (0), .int .i64 (17), .int .i64 (1), .int .i64 (0), .int .i64 (0), .slice none 0 0, .int .i64 (0)] := hp 10 (by rfl)
              have y67 : a.eval (.tmp 67) = .agg #[.int .i64 (1), .int .i64 (0), .int .i64 (0), .int .i64 (-1), .int .i64 (1), .int .i64 (0), .int .i64 (0), .slice none 0 0, .int .i64 (0)] := hp 11 (by rfl)
              have y68 : a.eval (.tmp 68) = .agg #[.int .i64 (1), .int .i64 (0), .int .i64 (0), .int .i64 (1), .int .i64 (257), .int .i64 (0), .int .i64 (0), .slice none 0 0, .int .i64 (0)] := hp 12 (by rfl)
              have y69 : a.eval (.tmp 69) = .agg #[.int .i64 (1), .int .i64 (0), .int .i64 (-1), .int .i64 (1), .int .i64 (1), .int .i64 (0), .int .i64 (0), .slice none 0 0, .int .i64 (0)] := hp 13 (by rfl)
              have y70 : a.eval (.tmp 70) = .agg #[.int .i64 (1), .int .i64 (0), .int .i64 (2049), .int .i64 (1), .int .i64 (1), .int .i64 (0), .int .i64 (0), .slice none 0 0, .int .i64 (0)] := hp 14 (by rfl)
              have y71 : a.eval (.tmp 71) = .agg #[.int .i64 (1), .int .i64 (0), .int .i64 (0), .int .i64 (0), .int .i64 (0), .int .i64 (1), .int .i64 (0), .slice none 0 0, .int .i64 (0)] := hp 15 (by rfl)
              have y74 : a.eval (.tmp 74) = .agg #[.int .i64 (1), .int .i64 (0), .int .i64 (0), .int .i64 (0), .int .i64 (0), .int .i64 (0), .int .i64 (0), .slice (some ⟨Ba, 0, none⟩) 1 33, .int .i64 (0)] := hp 18 (by rfl)
              have y75 : a.eval (.tmp 75) = .agg #[.int .i64 (1), .int .i64 (0), .int .i64 (0), .int .i64 (0), .int .i64 (0), .int .i64 (0), .int .i64 (33), .slice none 0 0, .int .i64 (0)] := hp 19 (by rfl)
              have y76 : a.eval (.tmp 76) = .agg #[.int .i64 (1), .int .i64 (0), .int .i64 (0), .int .i64 (0), .int .i64 (0), .int .i64 (0), .int .i64 (-1), .slice none 0 0, .int .i64 (0)] := hp 20 (by rfl)
              have y77 : a.eval (.tmp 77) = .agg #[.int .i64 (1), .int .i64 (0), .int .i64 (0), .int .i64 (0), .int .i64 (0), .int .i64 (-1), .int .i64 (1), .slice none 0 0, .int .i64 (0)] := hp 21 (by rfl)
              have y78 : a.eval (.tmp 78) = .agg #[.int .i64 (1), .int .i64 (0), .int .i64 (0), .int .i64 (0), .int .i64 (0), .int .i64 (2049), .int .i64 (1), .slice none 0 0, .int .i64 (0)] := hp 22 (by rfl)
              have y80 : a.eval (.tmp 80) = .agg #[.int .i64 (1), .int .i64 (0), .int .i64 (0), .int .i64 (0), .int .i64 (0), .int .i64 (0), .int .i64 (6), .slice (some ⟨Ba, 0, none⟩) 33 33, .int .i64 (0)] := hp 24 (by rfl)
              have y83 : a.eval (.tmp 83) = .agg #[.int .i64 (1), .int .i64 (0), .int .i64 (0), .int .i64 (0), .int .i64 (0), .int .i64 (0), .int .i64 (4), .slice (some ⟨Ba, 0, none⟩) 17 33, .int .i64 (0)] := hp 27 (by rfl)
              have y87 := (show True → (fun v w' => ∃ B, v = .agg #[.int .i64 (1), .int .i64 (0), .int .i64 (0), .int .i64 (0), .int .i64 (0), .int .i64 (0), .int .i64 (4), .slice (some ⟨B, 0, none⟩) 2 2, .int .i64 (0)] ∧ ArmsAt w' (some ⟨B, 0, none⟩) [(1, 0), (1, 0)]) (a.eval (.tmp 87)) W' from hp 31 (by rfl)) trivial
              have y91 := (show True → (fun v w' => ∃ B, v = .agg #[.int .i64 (1), .int .i64 (0), .int .i64 (0), .int .i64 (0), .int .i64 (0), .int .i64 (0), .int .i64 (4), .slice (some ⟨B, 0, none⟩) 2 2, .int .i64 (0)] ∧ ArmsAt w' (some ⟨B, 0, none⟩) [(2, 0), (1, 0)]) (a.eval (.tmp 91)) W' from hp 35 (by rfl)) trivial
              have y94 := (show True → (fun v w' => ∃ B, v = .agg #[.int .i64 (1), .int .i64 (0), .int .i64 (0), .int .i64 (0), .int .i64 (0), .int .i64 (0), .int .i64 (4), .slice (some ⟨B, 0, none⟩) 1 1, .int .i64 (0)] ∧ ArmsAt w' (some ⟨B, 0, none⟩) [(0, -1)]) (a.eval (.tmp 94)) W' from hp 38 (by rfl)) trivial
              have y97 := (show True → (fun v w' => ∃ B, v = .agg #[.int .i64 (1), .int .i64 (0), .int .i64 (0), .int .i64 (0), .int .i64 (0), .int .i64 (0), .int .i64 (4), .slice (some ⟨B, 0, none⟩) 1 1, .int .i64 (0)] ∧ ArmsAt w' (some ⟨B, 0, none⟩) [(0, 65536)]) (a.eval (.tmp 97)) W' from hp 41 (by rfl)) trivial
              obtain ⟨B87, y87, r87⟩ := y87
              obtain ⟨B91, y91, r91⟩ := y91
              obtain ⟨B94, y94, r94⟩ := y94
              obtain ⟨B97, y97, r97⟩ := y97
              have hm : HeldM W' [⟨⟨(0), (0), (0), (0), (0), (0), (0), [], (0)⟩, none, 0, 0⟩, ⟨⟨(-1), (0), (0), (0), (0), (0), (0), [], (0)⟩, none, 0, 0⟩, ⟨⟨(65535), (0), (0), (0), (0), (0), (0), [], (0)⟩, none, 0, 0⟩, ⟨⟨(1), (-1), (0), (0), (0), (0), (0), [], (0)⟩, none, 0, 0⟩, ⟨⟨(1), (257), (0), (0), (0), (0), (0), [], (0)⟩, none, 0, 0⟩, ⟨⟨(1), (0), (0), (0), (0), (0), (0), [], (-1)⟩, none, 0, 0⟩, ⟨⟨(1), (0), (0), (0), (0), (0), (0), [], (65536)⟩, none, 0, 0⟩, ⟨⟨(1), (0), (1), (0), (0), (0), (0), [], (0)⟩, none, 0, 0⟩, ⟨⟨(1), (0), (0), (0), (1), (0), (0), [], (0)⟩, none, 0, 0⟩, ⟨⟨(1), (0), (0), (1), (0), (0), (0), [], (0)⟩, none, 0, 0⟩, ⟨⟨(1), (0), (0), (17), (1), (0), (0), [], (0)⟩, none, 0, 0⟩, ⟨⟨(1), (0), (0), (-1), (1), (0), (0), [], (0)⟩, none, 0, 0⟩, ⟨⟨(1), (0), (0), (1), (257), (0), (0), [], (0)⟩, none, 0, 0⟩, ⟨⟨(1), (0), (-1), (1), (1), (0), (0), [], (0)⟩, none, 0, 0⟩, ⟨⟨(1), (0), (2049), (1), (1), (0), (0), [], (0)⟩, none, 0, 0⟩, ⟨⟨(1), (0), (0), (0), (0), (1), (0), [], (0)⟩, none, 0, 0⟩, ⟨⟨(1), (0), (0), (0), (0), (0), (0), armsUp 1, (0)⟩, (some ⟨Ba, 0, none⟩), 1, 33⟩, ⟨⟨(1), (0), (0), (0), (0), (0), (33), [], (0)⟩, none, 0, 0⟩, ⟨⟨(1), (0), (0), (0), (0), (0), (-1), [], (0)⟩, none, 0, 0⟩, ⟨⟨(1), (0), (0), (0), (0), (-1), (1), [], (0)⟩, none, 0, 0⟩, ⟨⟨(1), (0), (0), (0), (0), (2049), (1), [], (0)⟩, none, 0, 0⟩, ⟨⟨(1), (0), (0), (0), (0), (0), (6), armsUp 33, (0)⟩, (some ⟨Ba, 0, none⟩), 33, 33⟩, ⟨⟨(1), (0), (0), (0), (0), (0), (4), armsUp 17, (0)⟩, (some ⟨Ba, 0, none⟩), 17, 33⟩, ⟨⟨(1), (0), (0), (0), (0), (0), (4), [(1, 0), (1, 0)], (0)⟩, (some ⟨B87, 0, none⟩), 2, 2⟩, ⟨⟨(1), (0), (0), (0), (0), (0), (4), [(2, 0), (1, 0)], (0)⟩, (some ⟨B91, 0, none⟩), 2, 2⟩, ⟨⟨(1), (0), (0), (0), (0), (0), (4), [(0, -1)], (0)⟩, (some ⟨B94, 0, none⟩), 1, 1⟩, ⟨⟨(1), (0), (0), (0), (0), (0), (4), [(0, 65536)], (0)⟩, (some ⟨B97, 0, none⟩), 1, 1⟩] := fun e he => by
                simp only [List.mem_cons, List.not_mem_nil, or_false] at he
                rcases he with rfl | rfl | rfl | rfl | rfl | rfl | rfl | rfl | rfl | rfl | rfl | rfl | rfl | rfl | rfl | rfl | rfl | rfl | rfl | rfl | rfl | rfl | rfl | rfl | rfl | rfl | rfl
                · exact ⟨ArmsAt.nil _, rfl⟩
                · exact ⟨ArmsAt.nil _, rfl⟩
                · exact ⟨ArmsAt.nil _, rfl⟩
                · exact ⟨ArmsAt.nil _, rfl⟩
                · exact ⟨ArmsAt.nil _, rfl⟩
                · exact ⟨ArmsAt.nil _, rfl⟩
                · exact ⟨ArmsAt.nil _, rfl⟩
                · exact ⟨ArmsAt.nil _, rfl⟩
                · exact ⟨ArmsAt.nil _, rfl⟩
                · exact ⟨ArmsAt.nil _, rfl⟩
                · exact ⟨ArmsAt.nil _, rfl⟩
                · exact ⟨ArmsAt.nil _, rfl⟩
                · exact ⟨ArmsAt.nil _, rfl⟩
                · exact ⟨ArmsAt.nil _, rfl⟩
                · exact ⟨ArmsAt.nil _, rfl⟩
                · exact ⟨ArmsAt.nil _, rfl⟩
                · exact ⟨hA1.on g, rfl⟩
                · exact ⟨ArmsAt.nil _, rfl⟩
                · exact ⟨ArmsAt.nil _, rfl⟩
                · exact ⟨ArmsAt.nil _, rfl⟩
                · exact ⟨ArmsAt.nil _, rfl⟩
                · exact ⟨hA33.on g, rfl⟩
                · exact ⟨hA17.on g, rfl⟩
                · exact ⟨r87, rfl⟩
                · exact ⟨r91, rfl⟩
                · exact ⟨r94, rfl⟩
                · exact ⟨r97, rfl⟩
              have hN := nodes_new hm
              exact wp_yield rfl (exec_slice 29 27 _ rfl (ps := #[(0, .agg #[.int .i64 (0), .int .i64 (0), .int .i64 (0), .int .i64 (0), .int .i64 (0), .int .i64 (0), .int .i64 (0), .slice none 0 0, .int .i64 (0)]), (1, .agg #[.int .i64 (-1), .int .i64 (0), .int .i64 (0), .int .i64 (0), .int .i64 (0), .int .i64 (0), .int .i64 (0), .slice none 0 0, .int .i64 (0)]), (2, .agg #[.int .i64 (65535), .int .i64 (0), .int .i64 (0), .int .i64 (0), .int .i64 (0), .int .i64 (0), .int .i64 (0), .slice none 0 0, .int .i64 (0)]), (3, .agg #[.int .i64 (1), .int .i64 (-1), .int .i64 (0), .int .i64 (0), .int .i64 (0), .int .i64 (0), .int .i64 (0), .slice none 0 0, .int .i64 (0)]), (4, .agg #[.int .i64 (1), .int .i64 (257), .int .i64 (0), .int .i64 (0), .int .i64 (0), .int .i64 (0), .int .i64 (0), .slice none 0 0, .int .i64 (0)]), (5, .agg #[.int .i64 (1), .int .i64 (0), .int .i64 (0), .int .i64 (0), .int .i64 (0), .int .i64 (0), .int .i64 (0), .slice none 0 0, .int .i64 (-1)]), (6, .agg #[.int .i64 (1), .int .i64 (0), .int .i64 (0), .int .i64 (0), .int .i64 (0), .int .i64 (0), .int .i64 (0), .slice none 0 0, .int .i64 (65536)]), (7, .agg #[.int .i64 (1), .int .i64 (0), .int .i64 (1), .int .i64 (0), .int .i64 (0), .int .i64 (0), .int .i64 (0), .slice none 0 0, .int .i64 (0)]), (8, .agg #[.int .i64 (1), .int .i64 (0), .int .i64 (0), .int .i64 (0), .int .i64 (1), .int .i64 (0), .int .i64 (0), .slice none 0 0, .int .i64 (0)]), (9, .agg #[.int .i64 (1), .int .i64 (0), .int .i64 (0), .int .i64 (1), .int .i64 (0), .int .i64 (0), .int .i64 (0), .slice none 0 0, .int .i64 (0)]), (10, .agg #[.int .i64 (1), .int .i64 (0), .int .i64 (0), .int .i64 (17), .int .i64 (1), .int .i64 (0), .int .i64 (0), .slice none 0 0, .int .i64 (0)]), (11, .agg #[.int .i64 (1), .int .i64 (0), .int .i64 (0), .int .i64 (-1), .int .i64 (1), .int .i64 (0), .int .i64 (0), .slice none 0 0, .int .i64 (0)]), (12, .agg #[.int .i64 (1), .int .i64 (0), .int .i64 (0), .int .i64 (1), .int .i64 (257), .int .i64 (0), .int .i64 (0), .slice none 0 0, .int .i64 (0)]), (13, .agg #[.int .i64 (1), .int .i64 (0), .int .i64 (-1), .int .i64 (1), .int .i64 (1), .int .i64 (0), .int .i64 (0), .slice none 0 0, .int .i64 (0)]), (14, .agg #[.int .i64 (1), .int .i64 (0), .int .i64 (2049), .int .i64 (1), .int .i64 (1), .int .i64 (0), .int .i64 (0), .slice none 0 0, .int .i64 (0)]), (15, .agg #[.int .i64 (1), .int .i64 (0), .int .i64 (0), .int .i64 (0), .int .i64 (0), .int .i64 (1), .int .i64 (0), .slice none 0 0, .int .i64 (0)]), (16, .agg #[.int .i64 (1), .int .i64 (0), .int .i64 (0), .int .i64 (0), .int .i64 (0), .int .i64 (0), .int .i64 (0), .slice (some ⟨Ba, 0, none⟩) 1 33, .int .i64 (0)]), (17, .agg #[.int .i64 (1), .int .i64 (0), .int .i64 (0), .int .i64 (0), .int .i64 (0), .int .i64 (0), .int .i64 (33), .slice none 0 0, .int .i64 (0)]), (18, .agg #[.int .i64 (1), .int .i64 (0), .int .i64 (0), .int .i64 (0), .int .i64 (0), .int .i64 (0), .int .i64 (-1), .slice none 0 0, .int .i64 (0)]), (19, .agg #[.int .i64 (1), .int .i64 (0), .int .i64 (0), .int .i64 (0), .int .i64 (0), .int .i64 (-1), .int .i64 (1), .slice none 0 0, .int .i64 (0)]), (20, .agg #[.int .i64 (1), .int .i64 (0), .int .i64 (0), .int .i64 (0), .int .i64 (0), .int .i64 (2049), .int .i64 (1), .slice none 0 0, .int .i64 (0)]), (21, .agg #[.int .i64 (1), .int .i64 (0), .int .i64 (0), .int .i64 (0), .int .i64 (0), .int .i64 (0), .int .i64 (6), .slice (some ⟨Ba, 0, none⟩) 33 33, .int .i64 (0)]), (22, .agg #[.int .i64 (1), .int .i64 (0), .int .i64 (0), .int .i64 (0), .int .i64 (0), .int .i64 (0), .int .i64 (4), .slice (some ⟨Ba, 0, none⟩) 17 33, .int .i64 (0)]), (23, .agg #[.int .i64 (1), .int .i64 (0), .int .i64 (0), .int .i64 (0), .int .i64 (0), .int .i64 (0), .int .i64 (4), .slice (some ⟨B87, 0, none⟩) 2 2, .int .i64 (0)]), (24, .agg #[.int .i64 (1), .int .i64 (0), .int .i64 (0), .int .i64 (0), .int .i64 (0), .int .i64 (0), .int .i64 (4), .slice (some ⟨B91, 0, none⟩) 2 2, .int .i64 (0)]), (25, .agg #[.int .i64 (1), .int .i64 (0), .int .i64 (0), .int .i64 (0), .int .i64 (0), .int .i64 (0), .int .i64 (4), .slice (some ⟨B94, 0, none⟩) 1 1, .int .i64 (0)]), (26, .agg #[.int .i64 (1), .int .i64 (0), .int .i64 (0), .int .i64 (0), .int .i64 (0), .int .i64 (0), .int .i64 (4), .slice (some ⟨B97, 0, none⟩) 1 1, .int .i64 (0)])]) (by simp only [List.map_toArray, List.map_cons, List.map_nil, y56, y57, y58, y59, y60, y61, y62, y63, y64, y65, y66, y67, y68, y69, y70, y71, y74, y75, y76, y77, y78, y80, y83, y87, y91, y94, y97]) (build27 Ba B87 B91 B94 B97 W')) ((Wider.refl _).alloc _) (fun _ => ⟨_, rfl, hN⟩)
            · -- 41
              intro a W' g hr hp
              show SpecDo _ _ _ 41 97 (spAt (True) (fun v w' => ∃ B, v = .agg #[.int .i64 (1), .int .i64 (0), .int .i64 (0), .int .i64 (0), .int .i64 (0), .int .i64 (0), .int .i64 (4), .slice (some ⟨B, 0, none⟩) 1 1, .int .i64 (0)] ∧ ArmsAt w' (some ⟨B, 0, none⟩) [(0, 65536)])) a W'
              refine spec_plain (o := _) rfl rfl ?_
              have y96 := (show True → (fun v w' => ∃ B, v = .slice (some ⟨B, 0, none⟩) 1 1 ∧ ArmsAt w' (some ⟨B, 0, none⟩) [(0, 65536)]) (a.eval (.tmp 96)) W' from hp 40 (by rfl)) trivial
              obtain ⟨B, y96, r96⟩ := y96
              replace y96 := evalD y96
              refine wp_k (a' := a.put (some 97) (.agg #[.int .i64 (1), .int .i64 (0), .int .i64 (0), .int .i64 (0), .int .i64 (0), .int .i64 (0), .int .i64 (4), .slice (some ⟨B, 0, none⟩) 1 1, .int .i64 (0)])) (w' := W') ⟨_, rfl, Wider.refl _, fun _ => ⟨_, rfl, r96⟩⟩ ?_
              intro K' hK'
              go_simp
              exact hK'
            · -- 40
              intro a W' g hr hp
              show SpecDo _ _ _ 40 96 (spAt (True) (fun v w' => ∃ B, v = .slice (some ⟨B, 0, none⟩) 1 1 ∧ ArmsAt w' (some ⟨B, 0, none⟩) [(0, 65536)])) a W'
              refine spec_plain (o := _) rfl rfl ?_
              have y95 : a.eval (.tmp 95) = .agg #[.int .u32 0, .int .i64 (65536)] := hp 39 (by rfl)
              replace y95 := evalD y95
              refine wp_k (a' := a.put (some 96) (.slice (some ⟨W'.heap.size, 0, none⟩) 1 1)) (w' := W'.alloc (.cells #[.int .u32 0, .int .i64 (65536)] 26)) ⟨_, rfl, (Wider.refl _).alloc _, fun _ => ⟨_, rfl, arms_new W' [(0, 65536)]⟩⟩ ?_
              intro K' hK'
              go_simp
              exact hK'
            · -- 39
              intro a W' g hr hp
              show SpecDo _ _ _ 39 95 (spEq (.agg #[.int .u32 0, .int .i64 (65536)])) a W'
              refine spec_plain (o := _) rfl rfl ?_
              refine wp_k (a' := a.put (some 95) (.agg #[.int .u32 0, .int .i64 (65536)])) (w' := W') ⟨_, rfl, Wider.refl _, rfl⟩ ?_
              intro K' hK'
              go_simp
              exact hK'
            · -- 38
              intro a W' g hr hp
              show SpecDo _ _ _ 38 94 (spAt (True) (fun v w' => ∃ B, v = .agg #[.int .i64 (1), .int .i64 (0), .int .i64 (0), .int .i64 (0), .int .i64 (0), .int .i64 (0), .int .i64 (4), .slice (some ⟨B, 0, none⟩) 1 1, .int .i64 (0)] ∧ ArmsAt w' (some ⟨B, 0, none⟩) [(0, -1)])) a W'
              refine spec_plain (o := _) rfl rfl ?_
              have y93 := (show True → (fun v w' => ∃ B, v = .slice (some ⟨B, 0, none⟩) 1 1 ∧ ArmsAt w' (some ⟨B, 0, none⟩) [(0, -1)]) (a.eval (.tmp 93)) W' from hp 37 (by rfl)) trivial
              obtain ⟨B, y93, r93⟩ := y93
              replace y93 := evalD y93
              refine wp_k (a' := a.put (some 94) (.agg #[.int .i64 (1), .int .i64 (0), .int .i64 (0), .int .i64 (0), .int .i64 (0), .int .i64 (0), .int .i64 (4), .slice (some ⟨B, 0, none⟩) 1 1, .int .i64 (0)])) (w' := W') ⟨_, rfl, Wider.refl _, fun _ => ⟨_, rfl, r93⟩⟩ ?_
              intro K' hK'
              go_simp
              exact hK'
            · -- 37
              intro a W' g hr hp
              show SpecDo _ _ _ 37 93 (spAt (True) (fun v w' => ∃ B, v = .slice (some ⟨B, 0, none⟩) 1 1 ∧ ArmsAt w' (some ⟨B, 0, none⟩) [(0, -1)])) a W'
              refine spec_plain (o := _) rfl rfl ?_
              have y92 : a.eval (.tmp 92) = .agg #[.int .u32 0, .int .i64 (-1)] := hp 36 (by rfl)
              replace y92 := evalD y92
              refine wp_k (a' := a.put (some 93) (.slice (some ⟨W'.heap.size, 0, none⟩) 1 1)) (w' := W'.alloc (.cells #[.int .u32 0, .int .i64 (-1)] 26)) ⟨_, rfl, (Wider.refl _).alloc _, fun _ => ⟨_, rfl, arms_new W' [(0, -1)]⟩⟩ ?_
              intro K' hK'
              go_simp
              exact hK'
            · -- 36
              intro a W' g hr hp
              show SpecDo _ _ _ 36 92 (spEq (.agg #[.int .u32 0, .int .i64 (-1)])) a W'
              refine spec_plain (o := _) rfl rfl ?_
              refine wp_k (a' := a.put (some 92) (.agg #[.int .u32 0, .int .i64 (-1)])) (w' := W') ⟨_, rfl, Wider.refl _, rfl⟩ ?_
              intro K' hK'
              go_simp
              exact hK'
            · -- 35
              intro a W' g hr hp
              show SpecDo _ _ _ 35 91 (spAt (True) (fun v w' => ∃ B, v = .agg #[.int .i64 (1), .int .i64 (0), .int .i64 (0), .int .i64 (0), .int .i64 (0), .int .i64 (0), .int .i64 (4), .slice (some ⟨B, 0, none⟩) 2 2, .int .i64 (0)] ∧ ArmsAt w' (some ⟨B, 0, none⟩) [(2, 0), (1, 0)])) a W'
              refine spec_plain (o := _) rfl rfl ?_
              have y90 := (show True → (fun v w' => ∃ B, v = .slice (some ⟨B, 0, none⟩) 2 2 ∧ ArmsAt w' (some ⟨B, 0, none⟩) [(2, 0), (1, 0)]) (a.eval (.tmp 90)) W' from hp 34 (by rfl)) trivial
              obtain ⟨B, y90, r90⟩ := y90
              replace y90 := evalD y90
              refine wp_k (a' := a.put (some 91) (.agg #[.int .i64 (1), .int .i64 (0), .int .i64 (0), .int .i64 (0), .int .i64 (0), .int .i64 (0), .int .i64 (4), .slice (some ⟨B, 0, none⟩) 2 2, .int .i64 (0)])) (w' := W') ⟨_, rfl, Wider.refl _, fun _ => ⟨_, rfl, r90⟩⟩ ?_
              intro K' hK'
              go_simp
              exact hK'
            · -- 34
              intro a W' g hr hp
              show SpecDo _ _ _ 34 90 (spAt (True) (fun v w' => ∃ B, v = .slice (some ⟨B, 0, none⟩) 2 2 ∧ ArmsAt w' (some ⟨B, 0, none⟩) [(2, 0), (1, 0)])) a W'
              refine spec_plain (o := _) rfl rfl ?_
              have y88 : a.eval (.tmp 88) = .agg #[.int .u32 2, .int .i64 (0)] := hp 32 (by rfl)
              have y89 : a.eval (.tmp 89) = .agg #[.int .u32 1, .int .i64 (0)] := hp 33 (by rfl)
              replace y88 := evalD y88
              replace y89 := evalD y89
              refine wp_k (a' := a.put (some 90) (.slice (some ⟨W'.heap.size, 0, none⟩) 2 2)) (w' := W'.alloc (.cells #[.int .u32 2, .int .i64 (0), .int .u32 1, .int .i64 (0)] 26)) ⟨_, rfl, (Wider.refl _).alloc _, fun _ => ⟨_, rfl, arms_new W' [(2, 0), (1, 0)]⟩⟩ ?_
              intro K' hK'
              go_simp
              exact hK'
            · -- 33
              intro a W' g hr hp
              show SpecDo _ _ _ 33 89 (spEq (.agg #[.int .u32 1, .int .i64 (0)])) a W'
              refine spec_plain (o := _) rfl rfl ?_
              refine wp_k (a' := a.put (some 89) (.agg #[.int .u32 1, .int .i64 (0)])) (w' := W') ⟨_, rfl, Wider.refl _, rfl⟩ ?_
              intro K' hK'
              go_simp
              exact hK'
            · -- 32
              intro a W' g hr hp
              show SpecDo _ _ _ 32 88 (spEq (.agg #[.int .u32 2, .int .i64 (0)])) a W'
              refine spec_plain (o := _) rfl rfl ?_
              refine wp_k (a' := a.put (some 88) (.agg #[.int .u32 2, .int .i64 (0)])) (w' := W') ⟨_, rfl, Wider.refl _, rfl⟩ ?_
              intro K' hK'
              go_simp
              exact hK'
            · -- 31
              intro a W' g hr hp
              show SpecDo _ _ _ 31 87 (spAt (True) (fun v w' => ∃ B, v = .agg #[.int .i64 (1), .int .i64 (0), .int .i64 (0), .int .i64 (0), .int .i64 (0), .int .i64 (0), .int .i64 (4), .slice (some ⟨B, 0, none⟩) 2 2, .int .i64 (0)] ∧ ArmsAt w' (some ⟨B, 0, none⟩) [(1, 0), (1, 0)])) a W'
              refine spec_plain (o := _) rfl rfl ?_
              have y86 := (show True → (fun v w' => ∃ B, v = .slice (some ⟨B, 0, none⟩) 2 2 ∧ ArmsAt w' (some ⟨B, 0, none⟩) [(1, 0), (1, 0)]) (a.eval (.tmp 86)) W' from hp 30 (by rfl)) trivial
              obtain ⟨B, y86, r86⟩ := y86
              replace y86 := evalD y86
              refine wp_k (a' := a.put (some 87) (.agg #[.int .i64 (1), .int .i64 (0), .int .i64 (0), .int .i64 (0), .int .i64 (0), .int .i64 (0), .int .i64 (4), .slice (some ⟨B, 0, none⟩) 2 2, .int .i64 (0)])) (w' := W') ⟨_, rfl, Wider.refl _, fun _ => ⟨_, rfl, r86⟩⟩ ?_
              intro K' hK'
              go_simp
              exact hK'
            · -- 30
              intro a W' g hr hp
              show SpecDo _ _ _ 30 86 (spAt (True) (fun v w' => ∃ B, v = .slice (some ⟨B, 0, none⟩) 2 2 ∧ ArmsAt w' (some ⟨B, 0, none⟩) [(1, 0), (1, 0)])) a W'
              refine spec_plain (o := _) rfl rfl ?_
              have y84 : a.eval (.tmp 84) = .agg #[.int .u32 1, .int .i64 (0)] := hp 28 (by rfl)
              have y85 : a.eval (.tmp 85) = .agg #[.int .u32 1, .int .i64 (0)] := hp 29 (by rfl)
              replace y84 := evalD y84
              replace y85 := evalD y85
              refine wp_k (a' := a.put (some 86) (.slice (some ⟨W'.heap.size, 0, none⟩) 2 2)) (w' := W'.alloc (.cells #[.int .u32 1, .int .i64 (0), .int .u32 1, .int .i64 (0)] 26)) ⟨_, rfl, (Wider.refl _).alloc _, fun _ => ⟨_, rfl, arms_new W' [(1, 0), (1, 0)]⟩⟩ ?_
              intro K' hK'
              go_simp
              exact hK'
            · -- 29
              intro a W' g hr hp
              show SpecDo _ _ _ 29 85 (spEq (.agg #[.int .u32 1, .int .i64 (0)])) a W'
              refine spec_plain (o := _) rfl rfl ?_
              refine wp_k (a' := a.put (some 85) (.agg #[.int .u32 1, .int .i64 (0)])) (w' := W') ⟨_, rfl, Wider.refl _, rfl⟩ ?_
              intro K' hK'
              go_simp
              exact hK'
            · -- 28
              intro a W' g hr hp
              show SpecDo _ _ _ 28 84 (spEq (.agg #[.int .u32 1, .int .i64 (0)])) a W'
              refine spec_plain (o := _) rfl rfl ?_
              refine wp_k (a' := a.put (some 84) (.agg #[.int .u32 1, .int .i64 (0)])) (w' := W') ⟨_, rfl, Wider.refl _, rfl⟩ ?_
              intro K' hK'
              go_simp
              exact hK'
            · -- 27
              intro a W' g hr hp
              show SpecDo _ _ _ 27 83 (spEq (.agg #[.int .i64 (1), .int .i64 (0), .int .i64 (0), .int .i64 (0), .int .i64 (0), .int .i64 (0), .int .i64 (4), .slice (some ⟨Ba, 0, none⟩) 17 33, .int .i64 (0)])) a W'
              refine spec_plain (o := _) rfl rfl ?_
              have y82 : a.eval (.tmp 82) = .slice (some ⟨Ba, 0, none⟩) 17 33 := hp 26 (by rfl)
              replace y82 := evalD y82
              refine wp_k (a' := a.put (some 83) (.agg #[.int .i64 (1), .int .i64 (0), .int .i64 (0), .int .i64 (0), .int .i64 (0), .int .i64 (0), .int .i64 (4), .slice (some ⟨Ba, 0, none⟩) 17 33, .int .i64 (0)])) (w' := W') ⟨_, rfl, Wider.refl _, rfl⟩ ?_
              intro K' hK'
              go_simp
              exact hK'
            · -- 26
              intro a W' g hr hp
              show SpecDo _ _ _ 26 82 (spEq (.slice (some ⟨Ba, 0, none⟩) 17 33)) a W'
              refine spec_plain (o := _) rfl rfl ?_
              have y81 : a.eval (.tmp 81) = .slice (some ⟨Ba, 0, none⟩) 33 33 := hp 25 (by rfl)
              replace y81 := evalD y81
              refine wp_k (a' := a.put (some 82) (.slice (some ⟨Ba, 0, none⟩) 17 33)) (w' := W') ⟨_, rfl, Wider.refl _, rfl⟩ ?_
              intro K' hK'
              go_simp
              exact hK'
            · -- 25
              intro a W' g hr hp
              show SpecDo _ _ _ 25 81 (spEq (.slice (some ⟨Ba, 0, none⟩) 33 33)) a W'
              refine spec_plain (o := _) rfl rfl ?_
              have y1 : a.eval (.tmp 1) = .slice (some ⟨Ba, 0, none⟩) 33 33 := (hr 1 (by decide)).trans z1
              exact wp_yield rfl (exec_move rfl y1) (Wider.refl _) rfl
            · -- 24
              intro a W' g hr hp
              show SpecDo _ _ _ 24 80 (spEq (.agg #[.int .i64 (1), .int .i64 (0), .int .i64 (0), .int .i64 (0), .int .i64 (0), .int .i64 (0), .int .i64 (6), .slice (some ⟨Ba, 0, none⟩) 33 33, .int .i64 (0)])) a W'
              refine spec_plain (o := _) rfl rfl ?_
              have y79 : a.eval (.tmp 79) = .slice (some ⟨Ba, 0, none⟩) 33 33 := hp 23 (by rfl)
              replace y79 := evalD y79
              refine wp_k (a' := a.put (some 80) (.agg #[.int .i64 (1), .int .i64 (0), .int .i64 (0), .int .i64 (0), .int .i64 (0), .int .i64 (0), .int .i64 (6), .slice (some ⟨Ba, 0, none⟩) 33 33, .int .i64 (0)])) (w' := W') ⟨_, rfl, Wider.refl _, rfl⟩ ?_
              intro K' hK'
              go_simp
              exact hK'
            · -- 23
              intro a W' g hr hp
              show SpecDo _ _ _ 23 79 (spEq (.slice (some ⟨Ba, 0, none⟩) 33 33)) a W'
              refine spec_plain (o := _) rfl rfl ?_
              have y1 : a.eval (.tmp 1) = .slice (some ⟨Ba, 0, none⟩) 33 33 := (hr 1 (by decide)).trans z1
              exact wp_yield rfl (exec_move rfl y1) (Wider.refl _) rfl
            · -- 22
              intro a W' g hr hp
              show SpecDo _ _ _ 22 78 (spEq (.agg #[.int .i64 (1), .int .i64 (0), .int .i64 (0), .int .i64 (0), .int .i64 (0), .int .i64 (2049), .int .i64 (1), .slice none 0 0, .int .i64 (0)])) a W'
              refine spec_plain (o := _) rfl rfl ?_
              refine wp_k (a' := a.put (some 78) (.agg #[.int .i64 (1), .int .i64 (0), .int .i64 (0), .int .i64 (0), .int .i64 (0), .int .i64 (2049), .int .i64 (1), .slice none 0 0, .int .i64 (0)])) (w' := W') ⟨_, rfl, Wider.refl _, rfl⟩ ?_
              intro K' hK'
              go_simp
              exact hK'
            · -- 21
              intro a W' g hr hp
              show SpecDo _ _ _ 21 77 (spEq (.agg #[.int .i64 (1), .int .i64 (0), .int .i64 (0), .int .i64 (0), .int .i64 (0), .int .i64 (-1), .int .i64 (1), .slice none 0 0, .int .i64 (0)])) a W'
              refine spec_plain (o := _) rfl rfl ?_
              refine wp_k (a' := a.put (some 77) (.agg #[.int .i64 (1), .int .i64 (0), .int .i64 (0), .int .i64 (0), .int .i64 (0), .int .i64 (-1), .int .i64 (1), .slice none 0 0, .int .i64 (0)])) (w' := W') ⟨_, rfl, Wider.refl _, rfl⟩ ?_
              intro K' hK'
              go_simp
              exact hK'
            · -- 20
              intro a W' g hr hp
              show SpecDo _ _ _ 20 76 (spEq (.agg #[.int .i64 (1), .int .i64 (0), .int .i64 (0), .int .i64 (0), .int .i64 (0), .int .i64 (0), .int .i64 (-1), .slice none 0 0, .int .i64 (0)])) a W'
              refine spec_plain (o := _) rfl rfl ?_
              refine wp_k (a' := a.put (some 76) (.agg #[.int .i64 (1), .int .i64 (0), .int .i64 (0), .int .i64 (0), .int .i64 (0), .int .i64 (0), .int .i64 (-1), .slice none 0 0, .int .i64 (0)])) (w' := W') ⟨_, rfl, Wider.refl _, rfl⟩ ?_
              intro K' hK'
              go_simp
              exact hK'
            · -- 19
              intro a W' g hr hp
              show SpecDo _ _ _ 19 75 (spEq (.agg #[.int .i64 (1), .int .i64 (0), .int .i64 (0), .int .i64 (0), .int .i64 (0), .int .i64 (0), .int .i64 (33), .slice none 0 0, .int .i64 (0)])) a W'
              refine spec_plain (o := _) rfl rfl ?_
              refine wp_k (a' := a.put (some 75) (.agg #[.int .i64 (1), .int .i64 (0), .int .i64 (0), .int .i64 (0), .int .i64 (0), .int .i64 (0), .int .i64 (33), .slice none 0 0, .int .i64 (0)])) (w' := W') ⟨_, rfl, Wider.refl _, rfl⟩ ?_
              intro K' hK'
              go_simp
              exact hK'
            · -- 18
              intro a W' g hr hp
              show SpecDo _ _ _ 18 74 (spEq (.agg #[.int .i64 (1), .int .i64 (0), .int .i64 (0), .int .i64 (0), .int .i64 (0), .int .i64 (0), .int .i64 (0), .slice (some ⟨Ba, 0, none⟩) 1 33, .int .i64 (0)])) a W'
              refine spec_plain (o := _) rfl rfl ?_
              have y73 : a.eval (.tmp 73) = .slice (some ⟨Ba, 0, none⟩) 1 33 := hp 17 (by rfl)
              replace y73 := evalD y73
              refine wp_k (a' := a.put (some 74) (.agg #[.int .i64 (1), .int .i64 (0), .int .i64 (0), .int .i64 (0), .int .i64 (0), .int .i64 (0), .int .i64 (0), .slice (some ⟨Ba, 0, none⟩) 1 33, .int .i64 (0)])) (w' := W') ⟨_, rfl, Wider.refl _, rfl⟩ ?_
              intro K' hK'
              go_simp
              exact hK'
            · -- 17
              intro a W' g hr hp
              show SpecDo _ _ _ 17 73 (spEq (.slice (some ⟨Ba, 0, none⟩) 1 33)) a W'
              refine spec_plain (o := _) rfl rfl ?_
              have y72 : a.eval (.tmp 72) = .slice (some ⟨Ba, 0, none⟩) 33 33 := hp 16 (by rfl)
              replace y72 := evalD y72
              refine wp_k (a' := a.put (some 73) (.slice (some ⟨Ba, 0, none⟩) 1 33)) (w' := W') ⟨_, rfl, Wider.refl _, rfl⟩ ?_
              intro K' hK'
              go_simp
              exact hK'
            · -- 16
              intro a W' g hr hp
              show SpecDo _ _ _ 16 72 (spEq (.slice (some ⟨Ba, 0, none⟩) 33 33)) a W'
              refine spec_plain (o := _) rfl rfl ?_
              have y1 : a.eval (.tmp 1) = .slice (some ⟨Ba, 0, none⟩) 33 33 := (hr 1 (by decide)).trans z1
              exact wp_yield rfl (exec_move rfl y1) (Wider.refl _) rfl
            · -- 15
              intro a W' g hr hp
              show SpecDo _ _ _ 15 71 (spEq (.agg #[.int .i64 (1), .int .i64 (0), .int .i64 (0), .int .i64 (0), .int .i64 (0), .int .i64 (1), .int .i64 (0), .slice none 0 0, .int .i64 (0)])) a W'
              refine spec_plain (o := _) rfl rfl ?_
              refine wp_k (a' := a.put (some 71) (.agg #[.int .i64 (1), .int .i64 (0), .int .i64 (0), .int .i64 (0), .int .i64 (0), .int .i64 (1), .int .i64 (0), .slice none 0 0, .int .i64 (0)])) (w' := W') ⟨_, rfl, Wider.refl _, rfl⟩ ?_
              intro K' hK'
              go_simp
              exact hK'
            · -- 14
              intro a W' g hr hp
              show SpecDo _ _ _ 14 70 (spEq (.agg #[.int .i64 (1), .int .i64 (0), .int .i64 (2049), .int .i64 (1), .int .i64 (1), .int .i64 (0), .int .i64 (0), .slice none 0 0, .int .i64 (0)])) a W'
              refine spec_plain (o := _) rfl rfl ?_
              refine wp_k (a' := a.put (some 70) (.agg #[.int .i64 (1), .int .i64 (0), .int .i64 (2049), .int .i64 (1), .int .i64 (1), .int .i64 (0), .int .i64 (0), .slice none 0 0, .int .i64 (0)])) (w' := W') ⟨_, rfl, Wider.refl _, rfl⟩ ?_
              intro K' hK'
              go_simp
              exact hK'
            · -- 13
              intro a W' g hr hp
              show SpecDo _ _ _ 13 69 (spEq (.agg #[.int .i64 (1), .int .i64 (0), .int .i64 (-1), .int .i64 (1), .int .i64 (1), .int .i64 (0), .int .i64 (0), .slice none 0 0, .int .i64 (0)])) a W'
              refine spec_plain (o := _) rfl rfl ?_
              refine wp_k (a' := a.put (some 69) (.agg #[.int .i64 (1), .int .i64 (0), .int .i64 (-1), .int .i64 (1), .int .i64 (1), .int .i64 (0), .int .i64 (0), .slice none 0 0, .int .i64 (0)])) (w' := W') ⟨_, rfl, Wider.refl _, rfl⟩ ?_
              intro K' hK'
              go_simp
              exact hK'
            · -- 12
              intro a W' g hr hp
              show SpecDo _ _ _ 12 68 (spEq (.agg #[.int .i64 (1), .int .i64 (0), .int .i64 (0), .int .i64 (1), .int .i64 (257), .int .i64 (0), .int .i64 (0), .slice none 0 0, .int .i64 (0)])) a W'
              refine spec_plain (o := _) rfl rfl ?_
              refine wp_k (a' := a.put (some 68) (.agg #[.int .i64 (1), .int .i64 (0), .int .i64 (0), .int .i64 (1), .int .i64 (257), .int .i64 (0), .int .i64 (0), .slice none 0 0, .int .i64 (0)])) (w' := W') ⟨_, rfl, Wider.refl _, rfl⟩ ?_
              intro K' hK'
              go_simp
              exact hK'
            · -- 11
              intro a W' g hr hp
              show SpecDo _ _ _ 11 67 (spEq (.agg #[.int .i64 (1), .int .i64 (0), .int .i64 (0), .int .i64 (-1), .int .i64 (1), .int .i64 (0), .int .i64 (0), .slice none 0 0, .int .i64 (0)])) a W'
              refine spec_plain (o := _) rfl rfl ?_
              refine wp_k (a' := a.put (some 67) (.agg #[.int .i64 (1), .int .i64 (0), .int .i64 (0), .int .i64 (-1), .int .i64 (1), .int .i64 (0), .int .i64 (0), .slice none 0 0, .int .i64 (0)])) (w' := W') ⟨_, rfl, Wider.refl _, rfl⟩ ?_
              intro K' hK'
              go_simp
              exact hK'
            · -- 10
              intro a W' g hr hp
              show SpecDo _ _ _ 10 66 (spEq (.agg #[.int .i64 (1), .int .i64 (0), .int .i64 (0), .int .i64 (17), .int .i64 (1), .int .i64 (0), .int .i64 (0), .slice none 0 0, .int .i64 (0)])) a W'
              refine spec_plain (o := _) rfl rfl ?_
              refine wp_k (a' := a.put (some 66) (.agg #[.int .i64 (1), .int .i64 (0), .int .i64 (0), .int .i64 (17), .int .i64 (1), .int .i64 (0), .int .i64 (0), .slice none 0 0, .int .i64 (0)])) (w' := W') ⟨_, rfl, Wider.refl _, rfl⟩ ?_
              intro K' hK'
              go_simp
              exact hK'
            · -- 9
              intro a W' g hr hp
              show SpecDo _ _ _ 9 65 (spEq (.agg #[.int .i64 (1), .int .i64 (0), .int .i64 (0), .int .i64 (1), .int .i64 (0), .int .i64 (0), .int .i64 (0), .slice none 0 0, .int .i64 (0)])) a W'
              refine spec_plain (o := _) rfl rfl ?_
              refine wp_k (a' := a.put (some 65) (.agg #[.int .i64 (1), .int .i64 (0), .int .i64 (0), .int .i64 (1), .int .i64 (0), .int .i64 (0), .int .i64 (0), .slice none 0 0, .int .i64 (0)])) (w' := W') ⟨_, rfl, Wider.refl _, rfl⟩ ?_
              intro K' hK'
              go_simp
              exact hK'
            · -- 8
              intro a W' g hr hp
              show SpecDo _ _ _ 8 64 (spEq (.agg #[.int .i64 (1), .int .i64 (0), .int .i64 (0), .int .i64 (0), .int .i64 (1), .int .i64 (0), .int .i64 (0), .slice none 0 0, .int .i64 (0)])) a W'
              refine spec_plain (o := _) rfl rfl ?_
              refine wp_k (a' := a.put (some 64) (.agg #[.int .i64 (1), .int .i64 (0), .int .i64 (0), .int .i64 (0), .int .i64 (1), .int .i64 (0), .int .i64 (0), .slice none 0 0, .int .i64 (0)])) (w' := W') ⟨_, rfl, Wider.refl _, rfl⟩ ?_
              intro K' hK'
              go_simp
              exact hK'
            · -- 7
              intro a W' g hr hp
              show SpecDo _ _ _ 7 63 (spEq (.agg #[.int .i64 (1), .int .i64 (0), .int .i64 (1), .int .i64 (0), .int .i64 (0), .int .i64 (0), .int .i64 (0), .slice none 0 0, .int .i64 (0)])) a W'
              refine spec_plain (o := _) rfl rfl ?_
              refine wp_k (a' := a.put (some 63) (.agg #[.int .i64 (1), .int .i64 (0), .int .i64 (1), .int .i64 (0), .int .i64 (0), .int .i64 (0), .int .i64 (0), .slice none 0 0, .int .i64 (0)])) (w' := W') ⟨_, rfl, Wider.refl _, rfl⟩ ?_
              intro K' hK'
              go_simp
              exact hK'
            · -- 6
              intro a W' g hr hp
              show SpecDo _ _ _ 6 62 (spEq (.agg #[.int .i64 (1), .int .i64 (0), .int .i64 (0), .int .i64 (0), .int .i64 (0), .int .i64 (0), .int .i64 (0), .slice none 0 0, .int .i64 (65536)])) a W'
              refine spec_plain (o := _) rfl rfl ?_
              refine wp_k (a' := a.put (some 62) (.agg #[.int .i64 (1), .int .i64 (0), .int .i64 (0), .int .i64 (0), .int .i64 (0), .int .i64 (0), .int .i64 (0), .slice none 0 0, .int .i64 (65536)])) (w' := W') ⟨_, rfl, Wider.refl _, rfl⟩ ?_
              intro K' hK'
              go_simp
              exact hK'
            · -- 5
              intro a W' g hr hp
              show SpecDo _ _ _ 5 61 (spEq (.agg #[.int .i64 (1), .int .i64 (0), .int .i64 (0), .int .i64 (0), .int .i64 (0), .int .i64 (0), .int .i64 (0), .slice none 0 0, .int .i64 (-1)])) a W'
              refine spec_plain (o := _) rfl rfl ?_
              refine wp_k (a' := a.put (some 61) (.agg #[.int .i64 (1), .int .i64 (0), .int .i64 (0), .int .i64 (0), .int .i64 (0), .int .i64 (0), .int .i64 (0), .slice none 0 0, .int .i64 (-1)])) (w' := W') ⟨_, rfl, Wider.refl _, rfl⟩ ?_
              intro K' hK'
              go_simp
              exact hK'
            · -- 4
              intro a W' g hr hp
              show SpecDo _ _ _ 4 60 (spEq (.agg #[.int .i64 (1), .int .i64 (257), .int .i64 (0), .int .i64 (0), .int .i64 (0), .int .i64 (0), .int .i64 (0), .slice none 0 0, .int .i64 (0)])) a W'
              refine spec_plain (o := _) rfl rfl ?_
              refine wp_k (a' := a.put (some 60) (.agg #[.int .i64 (1), .int .i64 (257), .int .i64 (0), .int .i64 (0), .int .i64 (0), .int .i64 (0), .int .i64 (0), .slice none 0 0, .int .i64 (0)])) (w' := W') ⟨_, rfl, Wider.refl _, rfl⟩ ?_
              intro K' hK'
              go_simp
              exact hK'
            · -- 3
              intro a W' g hr hp
              show SpecDo _ _ _ 3 59 (spEq (.agg #[.int .i64 (1), .int .i64 (-1), .int .i64 (0), .int .i64 (0), .int .i64 (0), .int .i64 (0), .int .i64 (0), .slice none 0 0, .int .i64 (0)])) a W'
              refine spec_plain (o := _) rfl rfl ?_
              refine wp_k (a' := a.put (some 59) (.agg #[.int .i64 (1), .int .i64 (-1), .int .i64 (0), .int .i64 (0), .int .i64 (0), .int .i64 (0), .int .i64 (0), .slice none 0 0, .int .i64 (0)])) (w' := W') ⟨_, rfl, Wider.refl _, rfl⟩ ?_
              intro K' hK'
              go_simp
              exact hK'
            · -- 2
              intro a W' g hr hp
              show SpecDo _ _ _ 2 58 (spEq (.agg #[.int .i64 (65535), .int .i64 (0), .int .i64 (0), .int .i64 (0), .int .i64 (0), .int .i64 (0), .int .i64 (0), .slice none 0 0, .int .i64 (0)])) a W'
              refine spec_plain (o := _) rfl rfl ?_
              refine wp_k (a' := a.put (some 58) (.agg #[.int .i64 (65535), .int .i64 (0), .int .i64 (0), .int .i64 (0), .int .i64 (0), .int .i64 (0), .int .i64 (0), .slice none 0 0, .int .i64 (0)])) (w' := W') ⟨_, rfl, Wider.refl _, rfl⟩ ?_
              intro K' hK'
              go_simp
              exact hK'
            · -- 1
              intro a W' g hr hp
              show SpecDo _ _ _ 1 57 (spEq (.agg #[.int .i64 (-1), .int .i64 (0), .int .i64 (0), .int .i64 (0), .int .i64 (0), .int .i64 (0), .int .i64 (0), .slice none 0 0, .int .i64 (0)])) a W'
              refine spec_plain (o := _) rfl rfl ?_
              refine wp_k (a' := a.put (some 57) (.agg #[.int .i64 (-1), .int .i64 (0), .int .i64 (0), .int .i64 (0), .int .i64 (0), .int .i64 (0), .int .i64 (0), .slice none 0 0, .int .i64 (0)])) (w' := W') ⟨_, rfl, Wider.refl _, rfl⟩ ?_
              intro K' hK'
              go_simp
              exact hK'
            · -- 0
              intro a W' g hr hp
              show SpecDo _ _ _ 0 56 (spEq (.agg #[.int .i64 (0), .int .i64 (0), .int .i64 (0), .int .i64 (0), .int .i64 (0), .int .i64 (0), .int .i64 (0), .slice none 0 0, .int .i64 (0)])) a W'
              refine spec_plain (o := _) rfl rfl ?_
              refine wp_k (a' := a.put (some 56) (.agg #[.int .i64 (0), .int .i64 (0), .int .i64 (0), .int .i64 (0), .int .i64 (0), .int .i64 (0), .int .i64 (0), .slice none 0 0, .int .i64 (0)])) (w' := W') ⟨_, rfl, Wider.refl _, rfl⟩ ?_
              intro K' hK'
              go_simp
              exact hK'
            · -- done
              intro a W' g hsz hdf hrr hv
              obtain ⟨B, e98, hN⟩ := (show ∃ B, a.eval (.tmp 98) = .slice B 27 27 ∧ NodesAt W' B bad27 from hv 42 (by decide) trivial)
              have e99 : a.eval (.tmp 99) = .int .i64 27 := hv 43 (by decide)
              have e100 : a.eval (.tmp 100) = .int .i64 0 := hv 44 (by decide)
              obtain ⟨u56, e56⟩ : ∃ u, a.eval (.tmp 56) = u := ⟨_, rfl⟩
              obtain ⟨u57, e57⟩ : ∃ u, a.eval (.tmp 57) = u := ⟨_, rfl⟩
              obtain ⟨u58, e58⟩ : ∃ u, a.eval (.tmp 58) = u := ⟨_, rfl⟩
              obtain ⟨u59, e59⟩ : ∃ u, a.eval (.tmp 59) = u := ⟨_, rfl⟩
              obtain ⟨u60, e60⟩ : ∃ u, a.eval (.tmp 60) = u := ⟨_, rfl⟩
              obtain ⟨u61, e61⟩ : ∃ u, a.eval (.tmp 61) = u := ⟨_, rfl⟩
              obtain ⟨u62, e62⟩ : ∃ u, a.eval (.tmp 62) = u := ⟨_, rfl⟩
              obtain ⟨u63, e63⟩ : ∃ u, a.eval (.tmp 63) = u := ⟨_, rfl⟩
              obtain ⟨u64, e64⟩ : ∃ u, a.eval (.tmp 64) = u := ⟨_, rfl⟩
              obtain ⟨u65, e65⟩ : ∃ u, a.eval (.tmp 65) = u := ⟨_, rfl⟩
              obtain ⟨u66, e66⟩ : ∃ u, a.eval (.tmp 66) = u := ⟨_, rfl⟩
              obtain ⟨u67, e67⟩ : ∃ u, a.eval (.tmp 67) = u := ⟨_, rfl⟩
              obtain ⟨u68, e68⟩ : ∃ u, a.eval (.tmp 68) = u := ⟨_, rfl⟩
              obtain ⟨u69, e69⟩ : ∃ u, a.eval (.tmp 69) = u := ⟨_, rfl⟩
              obtain ⟨u70, e70⟩ : ∃ u, a.eval (.tmp 70) = u := ⟨_, rfl⟩
              obtain ⟨u71, e71⟩ : ∃ u, a.eval (.tmp 71) = u := ⟨_, rfl⟩
              obtain ⟨u72, e72⟩ : ∃ u, a.eval (.tmp 72) = u := ⟨_, rfl⟩
              obtain ⟨u73, e73⟩ : ∃ u, a.eval (.tmp 73) = u := ⟨_, rfl⟩
              obtain ⟨u74, e74⟩ : ∃ u, a.eval (.tmp 74) = u := ⟨_, rfl⟩
              obtain ⟨u75, e75⟩ : ∃ u, a.eval (.tmp 75) = u := ⟨_, rfl⟩
              obtain ⟨u76, e76⟩ : ∃ u, a.eval (.tmp 76) = u := ⟨_, rfl⟩
              obtain ⟨u77, e77⟩ : ∃ u, a.eval (.tmp 77) = u := ⟨_, rfl⟩
              obtain ⟨u78, e78⟩ : ∃ u, a.eval (.tmp 78) = u := ⟨_, rfl⟩
              obtain ⟨u79, e79⟩ : ∃ u, a.eval (.tmp 79) = u := ⟨_, rfl⟩
              obtain ⟨u80, e80⟩ : ∃ u, a.eval (.tmp 80) = u := ⟨_, rfl⟩
              obtain ⟨u81, e81⟩ : ∃ u, a.eval (.tmp 81) = u := ⟨_, rfl⟩
              obtain ⟨u82, e82⟩ : ∃ u, a.eval (.tmp 82) = u := ⟨_, rfl⟩
              obtain ⟨u83, e83⟩ : ∃ u, a.eval (.tmp 83) = u := ⟨_, rfl⟩
              obtain ⟨u84, e84⟩ : ∃ u, a.eval (.tmp 84) = u := ⟨_, rfl⟩
              obtain ⟨u85, e85⟩ : ∃ u, a.eval (.tmp 85) = u := ⟨_, rfl⟩
              obtain ⟨u86, e86⟩ : ∃ u, a.eval (.tmp 86) = u := ⟨_, rfl⟩
              obtain ⟨u87, e87⟩ : ∃ u, a.eval (.tmp 87) = u := ⟨_, rfl⟩
              obtain ⟨u88, e88⟩ : ∃ u, a.eval (.tmp 88) = u := ⟨_, rfl⟩
              obtain ⟨u89, e89⟩ : ∃ u, a.eval (.tmp 89) = u := ⟨_, rfl⟩
              obtain ⟨u90, e90⟩ : ∃ u, a.eval (.tmp 90) = u := ⟨_, rfl⟩
              obtain ⟨u91, e91⟩ : ∃ u, a.eval (.tmp 91) = u := ⟨_, rfl⟩
              obtain ⟨u92, e92⟩ : ∃ u, a.eval (.tmp 92) = u := ⟨_, rfl⟩
              obtain ⟨u93, e93⟩ : ∃ u, a.eval (.tmp 93) = u := ⟨_, rfl⟩
              obtain ⟨u94, e94⟩ : ∃ u, a.eval (.tmp 94) = u := ⟨_, rfl⟩
              obtain ⟨u95, e95⟩ : ∃ u, a.eval (.tmp 95) = u := ⟨_, rfl⟩
              obtain ⟨u96, e96⟩ : ∃ u, a.eval (.tmp 96) = u := ⟨_, rfl⟩
              obtain ⟨u97, e97⟩ : ∃ u, a.eval (.tmp 97) = u := ⟨_, rfl⟩
              have sl : SlotsAt a 56 [u56, u57, u58, u59, u60, u61, u62, u63, u64, u65, u66, u67, u68, u69, u70, u71, u72, u73, u74, u75, u76, u77, u78, u79, u80, u81, u82, u83, u84, u85, u86, u87, u88, u89, u90, u91, u92, u93, u94, u95, u96, u97, .slice B 27 27, .int .i64 27, .int .i64 0] := .cons e56 (.cons e57 (.cons e58 (.cons e59 (.cons e60 (.cons e61 (.cons e62 (.cons e63 (.cons e64 (.cons e65 (.cons e66 (.cons e67 (.cons e68 (.cons e69 (.cons e70 (.cons e71 (.cons e72 (.cons e73 (.cons e74 (.cons e75 (.cons e76 (.cons e77 (.cons e78 (.cons e79 (.cons e80 (.cons e81 (.cons e82 (.cons e83 (.cons e84 (.cons e85 (.cons e86 (.cons e87 (.cons e88 (.cons e89 (.cons e90 (.cons e91 (.cons e92 (.cons e93 (.cons e94 (.cons e95 (.cons e96 (.cons e97 (.cons e98 (.cons e99 (.cons e100 (.nil)))))))))))))))))))))))))))))))))))))))))))))
              have fr := (show RestAt [56, 57, 58, 59, 60, 61, 62, 63, 64, 65, 66, 67, 68, 69, 70, 71, 72, 73, 74, 75, 76, 77, 78, 79, 80, 81, 82, 83, 84, 85, 86, 87, 88, 89, 90, 91, 92, 93, 94, 95, 96, 97, 98, 99, 100] a0 a from ⟨hsz, hdf, hrr⟩).frameT (p := 56) HA0.out (fun d hd => by
                have q : 56 ≤ d ∧ d < 101 := of_decide_eq_true (List.all_eq_true.1 (show ([56, 57, 58, 59, 60, 61, 62, 63, 64, 65, 66, 67, 68, 69, 70, 71, 72, 73, 74, 75, 76, 77, 78, 79, 80, 81, 82, 83, 84, 85, 86, 87, 88, 89, 90, 91, 92, 93, 94, 95, 96, 97, 98, 99, 100].all fun d => decide (56 ≤ d ∧ d < 101)) = true from rfl) d hd)
                exact q) sl (show 101 ≤ 194 by decide)
              simp only [List.take_succ_cons, List.take_zero, List.drop_succ_cons, List.drop_zero, List.cons_append, List.nil_append, List.length_cons, List.length_nil, Nat.zero_add, Nat.reduceAdd] at fr
              rw [fr]
              clear fr sl hv hrr hsz hdf HA0 zs' z1 zd e56 e57 e58 e59 e60 e61 e62 e63 e64 e65 e66 e67 e68 e69 e70 e71 e72 e73 e74 e75 e76 e77 e78 e79 e80 e81 e82 e83 e84 e85 e86 e87 e88 e89 e90 e91 e92 e93 e94 e95 e96 e97 e98 e99 e100
              clear hA1 hA17 hA33
              have HNB := Lib.hid hN
              have GR := Wider.refl W'
              have GW2 := Lib.hid (GW.out.trans g)
              clear hN g GW
              go_wp2
              go_loopw [100] (fun a wr => ∃ i : Nat, i ≤ 27 ∧ a = .int .i64 (i : Int) ∧ Wider W' wr) (fun a _ => 27 - (intOf a).toNat)
              case atStart => exact ⟨0, Nat.zero_le _, rfl, GR⟩
              case round =>
                clear GR
                obtain ⟨i, hi0, rfl, G⟩ := hrel
                have q0 : (0 : Int) ≤ (i : Int) := by omega
                by_cases q : i < 27
                · have q1 : (i : Int) < 27 := by omega
                  obtain ⟨a, x, rfl, hx, A2, n2, c2, K⟩ := HNB.out.at (j := i) q
                  obtain ⟨d0, d1, d2, d3, d4, d5, d6, d7, d8, har, hlen⟩ := K.on G
                  have H1 := G.alloc (.cells (nodC x A2 n2 c2) 28)
                  have D := NodeB.new wr x A2 n2 c2
                  have ok := bad27_ok x (List.mem_of_getElem? hx)
                  have zf := fun (W : World) (g : Wider wr W) => gform_c (c := c2) x (har.on g) hlen ok (bad27_form x (List.mem_of_getElem? hx))
                  have zm := fun (W : World) (g : Wider wr W) => gmay_c (n := 1) (c := 1) (one_nodes W x (c := c2) (har.on g) hlen) rfl (one_few ok) (bad27_may x (List.mem_of_getElem? hx))
                  go_wp2_with (first
                    | (go_at_call 10; ((with_reducible refine (zf _ ((Wider.refl wr).alloc _)).mono ?_); rintro e w2 ⟨rfl, g⟩; replace H1 := H1.trans g; obtain ⟨p0, p1, p2, p3, p4, p5, p6, p7, p8⟩ := D.on g; have zm := zm w2 (((Wider.refl wr).alloc _).trans g); clear g zf D))
                    | (go_at_call 11; ((with_reducible refine zm.mono ?_); rintro e w3 ⟨rfl, g⟩; replace H1 := (H1.alloc _).trans g; clear g zm)))
                  go_roundw
                  case measure => simp [intOf]; omega
                  case rel =>
                    repeat apply Exists.intro
                    exact ⟨⟨i + 1, by omega, by go_num, H1⟩, rfl⟩
                · obtain rfl : i = 27 := by omega
                  have GW3 := GW2.out.trans G
                  have HM0 : Own w wr [rowT 28 9 (.slice none 0 0) 0 (cellsNd (upM 0))] := (Own.nil GW3).row (Wider.refl _) (World.ownsRow_nil _ _ 28 9)
                  clear HNB GW2 G GW3
                  obtain ⟨i1, hi1, hy0, hy1, hy2⟩ := info_parts ginfoN
                  go_wp2
                  go_loopw [7, 8] (fun s7 s8 wq => ∃ (i : Nat) (A : Option Addr) (c : Nat), i ≤ 33 ∧ s7 = .slice A i c ∧ s8 = .int .i64 (i : Int) ∧ Own w wq [rowT 28 9 (.slice A i c) i (cellsNd (upM i))]) (fun _ a _ => 33 - (intOf a).toNat)
                  case atStart => exact ⟨0, none, 0, Nat.zero_le _, rfl, rfl, HM0⟩
                  case round =>
                    clear HM0
                    obtain ⟨i, A, c, hi0, rfl, rfl, H⟩ := hrel
                    have q0 : (0 : Int) ≤ (i : Int) := by omega
                    by_cases q : i < 33
                    · have q1 : (i : Int) < 33 := by omega
                      have k1 : IntKind.i64.wrap ((i : Int) + 1) = (i : Int) + 1 := by simp [IntKind.wrap, IntKind.bits, IntKind.signed]; omega
                      have k2 : IntKind.i64.wrap ((i : Int) + 2) = (i : Int) + 2 := by simp [IntKind.wrap, IntKind.bits, IntKind.signed]; omega
                      obtain ⟨e, he⟩ : ∃ e : NodM, (⟨{ ndG ((i : Int) + 1) with oth := (i : Int) + 2 }, none, 0, 0⟩ : NodM) = e := ⟨_, rfl⟩
                      have H1 := H.quiet ((Wider.refl wr).alloc (.cells #[.int .i64 ((i : Int) + 1), .int .i64 0, .int .i64 0, .int .i64 0, .int .i64 0, .int .i64 0, .int .i64 0, .slice none 0 0, .int .i64 ((i : Int) + 2)] 28))
                      have X1 : Hid (∀ b, some (⟨wr.heap.size, 0, none⟩ : Addr) = some b → ∀ (m : Nat) u, (cellsNd [e])[m]? = some u → (wr.alloc (.cells #[.int .i64 ((i : Int) + 1), .int .i64 0, .int .i64 0, .int .i64 0, .int .i64 0, .int .i64 0, .int .i64 0, .slice none 0 0, .int .i64 ((i : Int) + 2)] 28)).cell? (b.add m) = some u) := Lib.hid (blk_lay ((Own.nil (Wider.refl wr)).blk _ _).head (by rw [← he]; rfl))
                      have L1 : Hid ((cellsNd [e]).length = 1 * 9) := Lib.hid (by rw [cellsNd_length]; rfl)
                      have S1 : Hid (i + 1 ≤ maxLen) := by show _ ≤ maxLen; unfold maxLen; omega
                      have S2 : Hid ((i + 1) * 88 ≤ 140737488355328) := by show _ ≤ _; omega
                      have HE := Lib.hid he
                      clear he
                      go_wp2_with (first
                        | (at_builtin; go_loud (refine wpList_append_thing rfl (.tmp 117) (.tmp 123) 29 rfl 28 i1 zeroNV 9 88 Try.underlying29 hi1 hy0 hy1 hy2 rfl (by decide) (.slice A i c) i (cellsNd (upM i)) rfl H1 (some ⟨wr.heap.size, 0, none⟩) 1 1 (cellsNd [e]) rfl L1.out (fun e => by cases e) X1.out (cellsNd_one _) S1.out S2.out rfl rfl ?_; intro B3 c3 w5 H5; clear H1)))
                      go_roundw
                      case measure => simp [intOf]; omega
                      case rel =>
                        rw [← HE.out, ← cellsNd_append, ← upM_succ] at H5
                        exact ⟨i + 1, by omega, B3, c3, ⟨rfl, rfl, rfl⟩, by go_num, H5⟩
                    · obtain rfl : i = 33 := by omega
                      clear hi1 hy0 hy1 hy2
                      obtain ⟨ga, hga, -, -, -, -⟩ := H.setOth upM_31
                      subst hga
                      have hc33 : ¬ c < 33 := by have := row_le H.head; omega
                      have N33 := NodesAt.row H.head (upM_length 33) (upM_held wr 33)
                      rw [upM_map] at N33
                      have N32 := N33.take 32
                      rw [show (manyG 33).take 32 = manyG 32 by rfl] at N32
                      have m33 := gmay_c (n := 33) (c := c) N33 rfl (manyG_few 33 (by omega)) many33
                      have m32 := fun (W : World) (g : Wider wr W) => gmay_c (n := 32) (c := c) (N32.on g) rfl (manyG_few 32 (by omega)) many32
                      clear N33 N32
                      have hc32 : (32 : Int) ≤ (c : Int) := by omega
                      go_upto_region 27 with (first
                        | (go_at_call 11; ((with_reducible refine m33.mono ?_); rintro e w2 ⟨rfl, g⟩; have m32 := m32 w2 g; replace H := H.quiet g; clear g m33))
                        | (go_at_call 11; ((with_reducible refine m32.mono ?_); rintro e w3 ⟨rfl, g⟩; replace H := H.quiet g; clear g m32)))
                      obtain ⟨g', hg', -, x8, f8, upd⟩ := H.setOth upM_31
                      cases hg'
                      have H0 : Own w (w3.setCell ⟨ga, 287, none⟩ (.int .i64 0)) [rowT 28 9 (.slice (some ⟨ga, 0, none⟩) 33 c) 33 (cellsNd (upZ 0))] := upd 0
                      have x8 : w3.cell? ⟨ga, 287, none⟩ = some (.int .i64 33) := x8
                      have f8 : w3.frozen? ⟨ga, 287, none⟩ = false := f8
                      clear H upd
                      have N33 := NodesAt.row H0.head (upZ_length 0) (upZ_held _ 0)
                      rw [upZ_map] at N33
                      have N32 := N33.take 32
                      rw [show (manyZ 33 0).take 32 = manyZ 32 0 by rfl] at N32
                      have m32 := gmay_c (n := 32) (c := c) N32 rfl (manyZ_few 32 0 (by omega)) many32_may
                      have l32 := fun (W : World) (g : Wider _ W) => glongest_c (n := 32) (c := c) (N32.on g) rfl (manyZ_few 32 0 (by omega)) many32_long
                      have l33 := fun (W : World) (g : Wider _ W) => glongest_c (n := 33) (c := c) (N33.on g) rfl (manyZ_few 33 0 (by omega)) many33_long
                      clear N33 N32
                      go_upto_region 30 with (first
                        | (go_at_call 11; ((with_reducible refine m32.mono ?_); rintro e w4 ⟨rfl, g⟩; have l32 := l32 w4 g; replace H0 := H0.quiet g; have GG := Lib.hid g; clear g m32 x8 f8))
                        | (go_at_call 12; ((with_reducible refine l32.mono ?_); rintro e w5 ⟨rfl, g⟩; have l33 := l33 w5 (GG.out.trans g); replace H0 := H0.quiet g; clear g l32 GG))
                        | (go_at_call 12; ((with_reducible refine l33.mono ?_); rintro e w6 ⟨rfl, g⟩; replace H0 := H0.quiet g; clear g l33)))
                      obtain ⟨g', hg', -, x8, f8, upd⟩ := H0.setOth (upZ_31 0)
                      cases hg'
                      have H1 : Own w (w6.setCell ⟨ga, 287, none⟩ (.int .i64 32)) [rowT 28 9 (.slice (some ⟨ga, 0, none⟩) 33 c) 33 (cellsNd (upZ 32))] := upd 32
                      have x8 : w6.cell? ⟨ga, 287, none⟩ = some (.int .i64 0) := x8
                      have f8 : w6.frozen? ⟨ga, 287, none⟩ = false := f8
                      clear H0 upd
                      have N33 := NodesAt.row H1.head (upZ_length 32) (upZ_held _ 32)
                      rw [upZ_map] at N33
                      have N32 := N33.take 32
                      rw [show (manyZ 33 32).take 32 = manyZ 32 32 by rfl] at N32
                      have m32 := gmay_c (n := 32) (c := c) N32 rfl (manyZ_few 32 32 (by omega)) many32_ring
                      have G := H1.wider
                      clear N33 N32 H1
                      have c21 := fun (W : World) => gmay_c (n := 2) (c := 2) (l21_at W) rfl l21_few l21_may
                      have c11 := fun (W : World) => gmay_c (n := 2) (c := 2) (l11_at W) rfl l11_few l11_may
                      have c34 := fun (W : World) => gmay_c (n := 2) (c := 2) (l34_at W) rfl l34_few l34_may
                      have c2 := fun (W : World) => glongest_c (n := 1) (c := 1) (l2_at W) rfl l2_few l2_long
                      have c0 := fun (W : World) => gnextOf_c (n := 0) (c := 0) (NodesAt.nil W) rfl nil_few 1 5 nil_next
                      have c7 := fun (W : World) => gnextOf_c (n := 1) (c := 1) (l7_at W) rfl l7_few 7 5 l7_next
                      go_upto_region 33 with (first
                        | (go_at_call 11; ((with_reducible refine m32.mono ?_); rintro e w7 ⟨rfl, g⟩; replace G := G.trans g; clear g m32 x8 f8)))
                      go_wp2_with (first
                        | (go_at_call 11; ((with_reducible refine (c21 _).mono ?_); rintro e w8 ⟨rfl, g⟩; replace G := (G.alloc _).trans g; clear g c21))
                        | (go_at_call 11; ((with_reducible refine (c11 _).mono ?_); rintro e w9 ⟨rfl, g⟩; replace G := (G.alloc _).trans g; clear g c11))
                        | (go_at_call 11; ((with_reducible refine (c34 _).mono ?_); rintro e wa ⟨rfl, g⟩; replace G := (G.alloc _).trans g; clear g c34))
                        | (go_at_call 12; ((with_reducible refine (c2 _).mono ?_); rintro e wb ⟨rfl, g⟩; replace G := (G.alloc _).trans g; clear g c2))
                        | (go_at_call 13; ((with_reducible refine (c0 _).mono ?_); rintro e wd ⟨rfl, g⟩; replace G := G.trans g; clear g c0))
                        | (go_at_call 13; ((with_reducible refine (c7 _).mono ?_); rintro e we ⟨rfl, g⟩; replace G := (G.alloc _).trans g; clear g c7)))
                      go_ret
                      exact ⟨rfl, G⟩

set_option maxRecDepth 100000 in
theorem graphNames_lifted (os : Os) (started : os.Started) (H : Type) (enc : TypeId × Value → H) :
    ReturnsInHanded {} Try.checked os 3 .any (Rows.graphNamesSpec.pre6 enc Try.prog Try.f3 Rows.graphNamesRow.domain false) (Rows.graphNamesSpec.post enc Try.prog Try.f3 false true false false) := by
  refine returnsInHanded_of_change (C := Try.checked) own started (by kernel_rfl) Try.func3
    (ChangeSpec.witness6 (enc := enc) (C := Try.checked) false ⟨#[], #[], []⟩ 8 (by kernel_rfl) (by kernel_rfl) (by kernel_rfl) (by kernel_rfl)) ?_
  intro W base args ds gs before hval0 hW hcnd _
  have hval : ∀ (j : Nat) t v, Try.f3.params[j]? = some t → args[j]? = some v → Value.okWide Try.prog W .any base t v := hval0
  have hW' := hW
  obtain ⟨p, q, hA0, hV, rfl, hfz, hnd⟩ := hW
  have hA : DataW.TrodAll enc Try.prog W 0 (fun _ => true) true Try.f3.params.toList args.toList ds p := hA0
  rw [Try.params3] at hA hval
  obtain ⟨hargs, rfl, rfl⟩ := trodAll_nil hA
  obtain rfl : args = #[] := by cases args; simp_all
  obtain ⟨rfl, rfl⟩ := trodVars_none hV
  clear hA0 hval0
  simp only [List.append_nil] at hW'
  refine (graphNames_walk  W).mono fun e W' ⟨he, hg⟩ => ?_
  subst he
  exact ⟨_, rfl, post_of_none hW' (fun _ _ _ => (trodAll_cons_mk (shut_bool Try.underlying4 _) trodAll_mk0)) (fun sp => trodAll_mk0) (fun _ => rfl)
    hg.1 (ok_one (by kernel_rfl) rfl (okWide_bool_mk Try.underlying4 _))⟩

theorem graphNames_holds : Rows.GraphNamesSaid :=
  OpenClaim.holds_of_wide 3 Try.f3 rfl rfl rfl rfl rfl rfl rfl ⟨rfl, rfl, rfl, rfl, rfl⟩ rfl rfl rfl rfl rfl (by kernel_rfl) Try.func3 (by kernel_rfl)
    (of_decide_eq_true (by kernel_rfl)) (by unfold Func.isWrapper; first | (rw [if_pos (by decide +kernel)]; kernel_rfl) | (rw [if_neg (by decide +kernel)]; exact ⟨rfl, rfl⟩))
    (fun os started H enc _ => graphNames_lifted os started H enc)

#print axioms graphNames_holds

end Go.Proofs.Ytilebacnjagneaa
