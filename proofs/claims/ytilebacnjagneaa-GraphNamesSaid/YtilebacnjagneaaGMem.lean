/- Package graph: nodes, arms and rows of numbers, where they lie. -/
import Derived.Test.YtilebacnjagneaaGMath
import Derived.Test.YtilebacnjagneaaUAppend
import Derived.Test.YtilebacnjagneaaQuiet
namespace Go.Proofs.Ytilebacnjagneaa
set_option linter.unusedVariables false
open Go.ChangeShapes Go.WideShapes Go.ChangeAt Go.RowKit Go.Joins

abbrev nodC (x : NodV) (A : Option Addr) (n c : Nat) : Array Value := #[.int .i64 x.id, .int .i64 x.size, .int .i64 x.lo, .int .i64 x.lw, .int .i64 x.lu, .int .i64 x.so, .int .i64 x.sw, .slice A n c, .int .i64 x.oth]
abbrev nodA (x : NodV) (A : Option Addr) (n c : Nat) : Value := .agg (nodC x A n c)
/-- The cells of a node in a box. -/
structure NodeB (w : World) (B : Nat) (x : NodV) (A : Option Addr) (n c : Nat) : Prop where
  c0 : w.cell? ⟨B, 0, none⟩ = some (.int .i64 x.id)
  c1 : w.cell? ⟨B, 1, none⟩ = some (.int .i64 x.size)
  c2 : w.cell? ⟨B, 2, none⟩ = some (.int .i64 x.lo)
  c3 : w.cell? ⟨B, 3, none⟩ = some (.int .i64 x.lw)
  c4 : w.cell? ⟨B, 4, none⟩ = some (.int .i64 x.lu)
  c5 : w.cell? ⟨B, 5, none⟩ = some (.int .i64 x.so)
  c6 : w.cell? ⟨B, 6, none⟩ = some (.int .i64 x.sw)
  c7 : w.cell? ⟨B, 7, none⟩ = some (.slice A n c)
  c8 : w.cell? ⟨B, 8, none⟩ = some (.int .i64 x.oth)
theorem NodeB.on {W w : World} {B : Nat} {x : NodV} {A : Option Addr} {n c : Nat} (h : NodeB W B x A n c) (g : Wider W w) : NodeB w B x A n c :=
  ⟨wkeep g h.c0, wkeep g h.c1, wkeep g h.c2, wkeep g h.c3, wkeep g h.c4, wkeep g h.c5, wkeep g h.c6, wkeep g h.c7, wkeep g h.c8⟩
theorem NodeB.new (w : World) (x : NodV) (A : Option Addr) (n c : Nat) : NodeB (w.alloc (.cells (nodC x A n c) 28)) w.heap.size x A n c := by
  constructor <;> simp [go_sem]

theorem add_flat (w : World) (a : Addr) (i : Nat) (hi : 0 < i) : w.cell? (a.add i) = w.cell? ⟨a.block, a.off + i, none⟩ := by
  unfold Addr.add
  rw [if_neg (by omega)]
/-! ### Arms -/
structure ArmsAt (w : World) (A : Option Addr) (l : List (Int × Int)) : Prop where
  none_ : A = none → l = []
  cell : ∀ a, A = some a → ∀ (j : Nat) (v n : Int), l[j]? = some (v, n) → w.cell? (a.add (j * 2)) = some (.int .u32 v) ∧ w.cell? ⟨(a.add (j * 2)).block, (a.add (j * 2)).off + 1, none⟩ = some (.int .i64 n)
theorem ArmsAt.on {W w : World} {A : Option Addr} {l : List (Int × Int)} (h : ArmsAt W A l) (g : Wider W w) : ArmsAt w A l :=
  ⟨h.none_, fun a e j v n hj => ⟨wkeep g (h.cell a e j v n hj).1, wkeep g (h.cell a e j v n hj).2⟩⟩
def cellsArm (l : List (Int × Int)) : List Value := l.flatMap fun p => [.int .u32 p.1, .int .i64 p.2]
theorem cellsArm_append (a b : List (Int × Int)) : cellsArm (a ++ b) = cellsArm a ++ cellsArm b := List.flatMap_append
theorem cellsArm_length : ∀ l : List (Int × Int), (cellsArm l).length = l.length * 2
  | [] => rfl
  | p :: l => by
    show (_ :: _ :: cellsArm l).length = _
    simp only [List.length_cons, cellsArm_length l]; omega
theorem cellsArm_one (l : List (Int × Int)) : ∀ u ∈ cellsArm l, u.oneCell' = true := by
  intro u hu
  obtain ⟨p, _, h⟩ := List.mem_flatMap.1 hu
  simp only [List.mem_cons, List.not_mem_nil, or_false] at h
  rcases h with rfl | rfl <;> rfl
theorem cellsArm_at : ∀ (l : List (Int × Int)) (j : Nat) (v n : Int), l[j]? = some (v, n) → (cellsArm l)[j * 2]? = some (.int .u32 v) ∧ (cellsArm l)[j * 2 + 1]? = some (.int .i64 n)
  | [], j, v, n, h => by simp at h
  | p :: l, 0, v, n, h => by
    obtain rfl : p = (v, n) := by simpa using h
    exact ⟨rfl, rfl⟩
  | p :: l, j + 1, v, n, h => by
    have h : l[j]? = some (v, n) := by simpa using h
    have k := cellsArm_at l j v n h
    show (_ :: _ :: cellsArm l)[(j + 1) * 2]? = _ ∧ (_ :: _ :: cellsArm l)[(j + 1) * 2 + 1]? = _
    rw [show (j + 1) * 2 = j * 2 + 1 + 1 by omega]
    simpa using k
theorem cellsArm_of : ∀ (l : List (Int × Int)) (i : Nat) (u : Value), (cellsArm l)[i]? = some u → ∃ (j : Nat) (v n : Int), l[j]? = some (v, n) ∧ ((i = j * 2 ∧ u = .int .u32 v) ∨ (i = j * 2 + 1 ∧ u = .int .i64 n)) := by
  intro l i u h
  have hl := (List.getElem?_eq_some_iff.1 h).1
  rw [cellsArm_length] at hl
  have hj : i / 2 < l.length := by omega
  obtain ⟨p, hp⟩ : ∃ p, l[i / 2]? = some p := ⟨l[i / 2], List.getElem?_eq_getElem hj⟩
  have k := cellsArm_at l (i / 2) p.1 p.2 hp
  refine ⟨i / 2, p.1, p.2, hp, ?_⟩
  rcases Nat.mod_two_eq_zero_or_one i with q | q
  · have e : i = i / 2 * 2 := by omega
    rw [e, k.1] at h
    injection h with h
    exact .inl ⟨e, h.symm⟩
  · have e : i = i / 2 * 2 + 1 := by omega
    rw [e, k.2] at h
    injection h with h
    exact .inr ⟨e, h.symm⟩
theorem ArmsAt.lay {w : World} {A : Option Addr} {l : List (Int × Int)} (h : ArmsAt w A l) : ∀ a, A = some a → ∀ i u, (cellsArm l)[i]? = some u → w.cell? (a.add i) = some u := fun a e i u hu => by
  obtain ⟨j, v, n, hj, ⟨rfl, rfl⟩ | ⟨rfl, rfl⟩⟩ := cellsArm_of l i u hu
  · exact (h.cell a e j v n hj).1
  · have := (h.cell a e j v n hj).2
    rw [add_flat _ _ _ (by omega)]
    have z : (a.add (j * 2)).off = a.off + j * 2 ∧ (a.add (j * 2)).block = a.block := by unfold Addr.add; split <;> simp_all
    rw [z.1, z.2] at this
    exact this
theorem ArmsAt.of {w : World} {A : Option Addr} {l : List (Int × Int)} (h0 : A = none → l = []) (h : ∀ a, A = some a → ∀ i u, (cellsArm l)[i]? = some u → w.cell? (a.add i) = some u) : ArmsAt w A l :=
  ⟨h0, fun a e j v n hj => by
    have k := cellsArm_at l j v n hj
    refine ⟨h a e _ _ k.1, ?_⟩
    have := h a e _ _ k.2
    rw [add_flat _ _ _ (by omega)] at this
    have z : (a.add (j * 2)).off = a.off + j * 2 ∧ (a.add (j * 2)).block = a.block := by unfold Addr.add; split <;> simp_all
    rw [z.1, z.2]
    exact this⟩
theorem row_lay {w : World} {b : Nat} {E : TypeId} {k n c : Nat} {A : Option Addr} {xs : List Value} (h : w.ownsRow b E k (.slice A n c) n xs) : ∀ a, A = some a → ∀ i u, xs[i]? = some u → w.cell? (a.add i) = some u := by
  intro a e i u hu
  subst e
  rcases h.2 with ⟨q, q2⟩ | ⟨g, c, cur, q, r⟩
  · cases q
  · cases q
    exact h.cells (g := g) rfl i u hu
theorem row_none {w : World} {b : Nat} {E : TypeId} {k n c : Nat} {A : Option Addr} {xs : List Value} (h : w.ownsRow b E k (.slice A n c) n xs) (e : A = none) : n = 0 := by
  subst e
  rcases h.2 with ⟨q, q2⟩ | ⟨g, c, cur, q, r⟩
  · exact q2
  · cases q
theorem ArmsAt.row {w : World} {b : Nat} {E : TypeId} {n c : Nat} {A : Option Addr} {l : List (Int × Int)} (h : w.ownsRow b E 2 (.slice A n c) n (cellsArm l)) (hn : l.length = n) : ArmsAt w A l :=
  ArmsAt.of (fun e => List.eq_nil_of_length_eq_zero (hn.trans (row_none h e))) (row_lay h)

/-! ### Numbers -/
def intsG (l : List Int) : List Value := l.map fun z => Value.int .i64 z
theorem intsG_append (a b : List Int) : intsG (a ++ b) = intsG a ++ intsG b := by simp [intsG]
theorem intsG_length (l : List Int) : (intsG l).length = l.length := by simp [intsG]
theorem intsG_one (l : List Int) : ∀ u ∈ intsG l, u.oneCell' = true := by
  intro u hu
  obtain ⟨x, _, rfl⟩ := List.mem_map.1 hu
  rfl
structure IntsAt (w : World) (A : Option Addr) (l : List Int) : Prop where
  none_ : A = none → l = []
  cell : ∀ a, A = some a → ∀ (j : Nat) (z : Int), l[j]? = some z → w.cell? (a.add j) = some (.int .i64 z)
theorem IntsAt.on {W w : World} {A : Option Addr} {l : List Int} (h : IntsAt W A l) (g : Wider W w) : IntsAt w A l := ⟨h.none_, fun a e j z hj => wkeep g (h.cell a e j z hj)⟩
theorem IntsAt.row {w : World} {b : Nat} {E : TypeId} {n c : Nat} {A : Option Addr} {l : List Int} (h : w.ownsRow b E 1 (.slice A n c) n (intsG l)) (hn : l.length = n) : IntsAt w A l :=
  ⟨fun e => List.eq_nil_of_length_eq_zero (hn.trans (row_none h e)), fun a e j z hj => row_lay h a e j _ (by unfold intsG; rw [List.getElem?_map, hj]; rfl)⟩
/-- The element of a row that is there. -/
theorem IntsAt.at {w : World} {A : Option Addr} {l : List Int} (h : IntsAt w A l) {j : Nat} (hj : j < l.length) : ∃ a z, A = some a ∧ l[j]? = some z ∧ w.cell? (a.add j) = some (.int .i64 z) := by
  cases A with
  | none => rw [h.none_ rfl] at hj; simp at hj
  | some a => exact ⟨a, l[j], rfl, List.getElem?_eq_getElem hj, h.cell a rfl j _ (List.getElem?_eq_getElem hj)⟩
theorem ArmsAt.at {w : World} {A : Option Addr} {l : List (Int × Int)} (h : ArmsAt w A l) {j : Nat} (hj : j < l.length) : ∃ a v n, A = some a ∧ l[j]? = some (v, n) ∧ w.cell? (a.add (j * 2)) = some (.int .u32 v) ∧ w.cell? ⟨(a.add (j * 2)).block, (a.add (j * 2)).off + 1, none⟩ = some (.int .i64 n) := by
  cases A with
  | none => rw [h.none_ rfl] at hj; simp at hj
  | some a =>
    have e : l[j]? = some (l[j].1, l[j].2) := List.getElem?_eq_getElem hj
    exact ⟨a, _, _, rfl, e, h.cell a rfl j _ _ e⟩
theorem ginfoI : (Try.prog.info? 3).map (fun i => (i.zero, i.size, i.bytes)) = some (some (.int .i64 0), 1, 8) := by kernel_rfl
theorem ginfoArm : (Try.prog.info? 26).map (fun i => (i.zero, i.size, i.bytes)) = some (some (.agg #[.int .u32 0, .int .i64 0]), 2, 16) := by kernel_rfl
theorem ginfoN : (Try.prog.info? 28).map (fun i => (i.zero, i.size, i.bytes)) = some (some (.agg #[.int .i64 0, .int .i64 0, .int .i64 0, .int .i64 0, .int .i64 0, .int .i64 0, .int .i64 0, .slice none 0 0, .int .i64 0]), 9, 88) := by kernel_rfl
theorem wpList_snoc_int {V w : World} {R : List Thing} {ops : Array Oper} {rest : List Oper} {o : Oper} {a : Act} {Q : Exit → Act → World → Prop} (hgd : o.guard = none) (s x : Operand)
    (ho : o.op = Op.call { callee := Callee.builtin Builtin.append, args := #[s, x], argTypes := #[42, 42] })
    {A : Option Addr} {n c : Nat} {l : List Int} (hs : a.eval s = .slice A n c) (H : Own V w (rowT 3 1 (.slice A n c) n (intsG l) :: R))
    {B cx : Nat} {z : Int} (hx : a.eval x = .slice (some ⟨B, 0, none⟩) 1 cx) (hc : w.cell? ⟨B, 0, none⟩ = some (.int .i64 z)) (hn : n < 1000000)
    (h : ∀ B c2 w', Own V w' (rowT 3 1 (.slice B (n + 1) c2) (n + 1) (intsG (l ++ [z])) :: R) → wpList Try.prog ops Q rest (a.put o.dst (.slice B (n + 1) c2)) w') : wpList Try.prog ops Q (o :: rest) a w := by
  obtain ⟨i0, hi, hz0, hz1, hz2⟩ := info_parts ginfoI
  refine wpList_append_thing hgd s x 42 ho 3 i0 (.int .i64 0) 1 8 Try.underlying42 hi hz0 hz1 hz2 rfl (by decide) (.slice A n c) n (intsG l) hs H (some ⟨B, 0, none⟩) 1 cx [.int .i64 z] hx rfl (fun e => by cases e) (fun a e j u hu => ?_) (fun u hu => ?_) (by unfold maxLen; omega) (by omega) rfl (ys := intsG (l ++ [z])) (by rw [intsG_append]; rfl) h
  · cases e
    match j, hu with
    | 0, hu => simp at hu; subst hu; exact hc
    | j + 1, hu => simp at hu
  · simp only [List.mem_cons, List.not_mem_nil, or_false] at hu
    subst hu; rfl

/-! ### Nodes -/
/-- A node, where it lies. -/
structure NodeAt (w : World) (a : Addr) (x : NodV) (A : Option Addr) (n c : Nat) : Prop where
  c0 : w.cell? a = some (.int .i64 x.id)
  c1 : w.cell? ⟨a.block, a.off + 1, none⟩ = some (.int .i64 x.size)
  c2 : w.cell? ⟨a.block, a.off + 2, none⟩ = some (.int .i64 x.lo)
  c3 : w.cell? ⟨a.block, a.off + 3, none⟩ = some (.int .i64 x.lw)
  c4 : w.cell? ⟨a.block, a.off + 4, none⟩ = some (.int .i64 x.lu)
  c5 : w.cell? ⟨a.block, a.off + 5, none⟩ = some (.int .i64 x.so)
  c6 : w.cell? ⟨a.block, a.off + 6, none⟩ = some (.int .i64 x.sw)
  c7 : w.cell? ⟨a.block, a.off + 7, none⟩ = some (.slice A n c)
  c8 : w.cell? ⟨a.block, a.off + 8, none⟩ = some (.int .i64 x.oth)
  arms : ArmsAt w A x.arms
  len : x.arms.length = n
theorem NodeAt.on {W w : World} {a : Addr} {x : NodV} {A : Option Addr} {n c : Nat} (h : NodeAt W a x A n c) (g : Wider W w) : NodeAt w a x A n c :=
  ⟨wkeep g h.c0, wkeep g h.c1, wkeep g h.c2, wkeep g h.c3, wkeep g h.c4, wkeep g h.c5, wkeep g h.c6, wkeep g h.c7, wkeep g h.c8, h.arms.on g, h.len⟩
structure NodesAt (w : World) (A : Option Addr) (L : List NodV) : Prop where
  none_ : A = none → L = []
  cell : ∀ a, A = some a → ∀ (j : Nat) (x : NodV), L[j]? = some x → ∃ A n c, NodeAt w (a.add (j * 9)) x A n c
theorem NodesAt.on {W w : World} {A : Option Addr} {L : List NodV} (h : NodesAt W A L) (g : Wider W w) : NodesAt w A L := ⟨h.none_, fun a e j x hj => by
  obtain ⟨A, n, c, k⟩ := h.cell a e j x hj
  exact ⟨A, n, c, k.on g⟩⟩
theorem NodesAt.at {w : World} {A : Option Addr} {L : List NodV} (h : NodesAt w A L) {j : Nat} (hj : j < L.length) : ∃ a x, A = some a ∧ L[j]? = some x ∧ ∃ A n c, NodeAt w (a.add (j * 9)) x A n c := by
  cases A with
  | none => rw [h.none_ rfl] at hj; simp at hj
  | some a => exact ⟨a, L[j], rfl, List.getElem?_eq_getElem hj, h.cell a rfl j _ (List.getElem?_eq_getElem hj)⟩
/-- What is asked of nodes that are gone over: numbers of 32 bits, and few arms. -/
def ArmsOk (l : List (Int × Int)) : Prop := ∀ p ∈ l, 0 ≤ p.1 ∧ p.1 < 4294967296
structure NodV.Ok (x : NodV) : Prop where
  arms : ArmsOk x.arms
  few : x.arms.length < 100000
def FewG (L : List NodV) : Prop := L.length < 100000 ∧ ∀ x ∈ L, x.Ok

end Go.Proofs.Ytilebacnjagneaa
