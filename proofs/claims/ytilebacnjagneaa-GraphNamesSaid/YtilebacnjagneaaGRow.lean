/- Package graph: rows of nodes, opened and shut. -/
import Derived.Test.YtilebacnjagneaaGCodeI
namespace Go.Proofs.Ytilebacnjagneaa
set_option linter.unusedVariables false
open Go.ChangeShapes Go.WideShapes Go.ChangeAt Go.RowKit Go.Joins

structure NodM where
  x : NodV
  A : Option Addr
  n : Nat
  c : Nat
abbrev NodM.cells (e : NodM) : Array Value := nodC e.x e.A e.n e.c
def cellsNd (l : List NodM) : List Value := l.flatMap fun e => e.cells.toList
theorem cellsNd_cons (e : NodM) (l : List NodM) : cellsNd (e :: l) = e.cells.toList ++ cellsNd l := rfl
theorem cellsNd_append (a b : List NodM) : cellsNd (a ++ b) = cellsNd a ++ cellsNd b := List.flatMap_append
theorem cellsNd_length : ∀ l : List NodM, (cellsNd l).length = l.length * 9
  | [] => rfl
  | e :: l => by
    rw [cellsNd_cons, List.length_append, cellsNd_length l]
    show 9 + l.length * 9 = _
    simp only [List.length_cons]; omega
theorem cellsNd_one (l : List NodM) : ∀ u ∈ cellsNd l, u.oneCell' = true := by
  intro u hu
  obtain ⟨e, _, h⟩ := List.mem_flatMap.1 hu
  have := nodC_one e.x e.A e.n e.c
  rw [Array.all_eq_true_iff_forall_mem] at this
  exact this u (by simpa using h)
theorem cellsNd_at : ∀ (l : List NodM) (j : Nat) (e : NodM), l[j]? = some e → ∀ i, i < 9 → (cellsNd l)[j * 9 + i]? = e.cells[i]?
  | [], j, e, h, i, hi => by simp at h
  | y :: l, 0, e, h, i, hi => by
    obtain rfl : y = e := by simpa using h
    rw [cellsNd_cons, Nat.zero_mul, Nat.zero_add, List.getElem?_append_left (show i < 9 from hi)]
    simp
  | y :: l, j + 1, e, h, i, hi => by
    have h : l[j]? = some e := by simpa using h
    rw [cellsNd_cons, List.getElem?_append_right (show 9 ≤ (j + 1) * 9 + i by omega)]
    show (cellsNd l)[(j + 1) * 9 + i - 9]? = _
    rw [show (j + 1) * 9 + i - 9 = j * 9 + i by omega]
    exact cellsNd_at l j e h i hi
theorem cellsNd_of (l : List NodM) (i : Nat) (u : Value) (h : (cellsNd l)[i]? = some u) : ∃ (j k : Nat) (e : NodM), i = j * 9 + k ∧ k < 9 ∧ l[j]? = some e ∧ e.cells[k]? = some u := by
  have hl := (List.getElem?_eq_some_iff.1 h).1
  rw [cellsNd_length] at hl
  have hj : i / 9 < l.length := by omega
  have hk : i % 9 < 9 := Nat.mod_lt _ (by decide)
  have e := cellsNd_at l (i / 9) l[i / 9] (List.getElem?_eq_getElem hj) (i % 9) hk
  have q : i / 9 * 9 + i % 9 = i := by omega
  rw [q, h] at e
  exact ⟨i / 9, i % 9, l[i / 9], by omega, hk, List.getElem?_eq_getElem hj, e.symm⟩
/-- The arms of such nodes lie where they are said to. -/
def HeldM (w : World) (l : List NodM) : Prop := ∀ e ∈ l, ArmsAt w e.A e.x.arms ∧ e.x.arms.length = e.n
theorem HeldM.on {W w : World} {l : List NodM} (h : HeldM W l) (g : Wider W w) : HeldM w l := fun e he => ⟨(h e he).1.on g, (h e he).2⟩
theorem add_flat2 (a : Addr) (j k : Nat) (hk : 0 < k) : a.add (j * 9 + k) = ⟨(a.add (j * 9)).block, (a.add (j * 9)).off + k, none⟩ := by
  have z : (a.add (j * 9)).off = a.off + j * 9 ∧ (a.add (j * 9)).block = a.block := by unfold Addr.add; split <;> simp_all
  rw [z.1, z.2]
  unfold Addr.add
  rw [if_neg (by omega)]
  simp
theorem NodesAt.of {w : World} {A : Option Addr} {l : List NodM} (h0 : A = none → l = []) (h : ∀ a, A = some a → ∀ i u, (cellsNd l)[i]? = some u → w.cell? (a.add i) = some u) (hm : HeldM w l) : NodesAt w A (l.map NodM.x) :=
  ⟨fun e => by rw [h0 e]; rfl, fun a e j x hj => by
    rw [List.getElem?_map] at hj
    cases q : l[j]? with
    | none => rw [q] at hj; cases hj
    | some y =>
      rw [q] at hj
      obtain rfl : y.x = x := by simpa using hj
      have k := fun (i : Nat) (v : Value) (hi : 0 < i) (hi9 : i < 9) (hv : y.cells[i]? = some v) => (add_flat2 a j i hi) ▸ h a e (j * 9 + i) v (by rw [cellsNd_at l j y q i hi9]; exact hv)
      have mem := List.mem_of_getElem? q
      refine ⟨y.A, y.n, y.c, h a e (j * 9) _ (by rw [← Nat.add_zero (j * 9), cellsNd_at l j y q 0 (by decide)]; rfl), k 1 _ (by decide) (by decide) rfl, k 2 _ (by decide) (by decide) rfl, k 3 _ (by decide) (by decide) rfl, k 4 _ (by decide) (by decide) rfl, k 5 _ (by decide) (by decide) rfl, k 6 _ (by decide) (by decide) rfl, k 7 _ (by decide) (by decide) rfl, k 8 _ (by decide) (by decide) rfl, (hm y mem).1, (hm y mem).2⟩⟩
theorem NodesAt.lay {w : World} {A : Option Addr} {L : List NodV} (h : NodesAt w A L) : ∃ l : List NodM, l.map NodM.x = L ∧ HeldM w l ∧ ∀ a, A = some a → ∀ i u, (cellsNd l)[i]? = some u → w.cell? (a.add i) = some u := by
  cases A with
  | none => exact ⟨[], by rw [h.none_ rfl]; rfl, fun e he => (by cases he), fun a e => by cases e⟩
  | some a =>
    classical
    have k : ∀ j, j < L.length → ∃ m : NodM, L[j]? = some m.x ∧ NodeAt w (a.add (j * 9)) m.x m.A m.n m.c := fun j hj => by
      obtain ⟨A, n, c, r⟩ := h.cell a rfl j L[j] (List.getElem?_eq_getElem hj)
      exact ⟨⟨L[j], A, n, c⟩, List.getElem?_eq_getElem hj, r⟩
    obtain ⟨F, hF⟩ : ∃ F : Nat → NodM, ∀ j, j < L.length → L[j]? = some (F j).x ∧ NodeAt w (a.add (j * 9)) (F j).x (F j).A (F j).n (F j).c :=
      ⟨fun j => if hj : j < L.length then (k j hj).choose else ⟨zeroN, none, 0, 0⟩, fun j hj => by simp only [dif_pos hj]; exact (k j hj).choose_spec⟩
    have atF : ∀ (j : Nat) (e : NodM), ((List.range L.length).map F)[j]? = some e → j < L.length ∧ e = F j := fun j e he => by
      rw [List.getElem?_map] at he
      by_cases c : j < L.length
      · rw [List.getElem?_range c] at he
        exact ⟨c, by simpa using he.symm⟩
      · rw [List.getElem?_eq_none (by simpa using c)] at he
        cases he
    refine ⟨(List.range L.length).map F, ?_, fun e he => ?_, fun b eb i u hu => ?_⟩
    · apply List.ext_getElem?
      intro j
      rw [List.map_map, List.getElem?_map]
      by_cases c : j < L.length
      · rw [List.getElem?_range c, (hF j c).1]
        rfl
      · rw [List.getElem?_eq_none (by simpa using c), List.getElem?_eq_none (by omega)]
        rfl
    · obtain ⟨j, hj, rfl⟩ := List.mem_map.1 he
      have := (hF j (List.mem_range.1 hj)).2
      exact ⟨this.arms, this.len⟩
    · cases eb
      obtain ⟨j, k, e, rfl, hk, hj, hc⟩ := cellsNd_of _ i u hu
      obtain ⟨hjl, rfl⟩ := atF j e hj
      have r := (hF j hjl).2
      match k, hk, hc with
      | 0, _, hc => rw [Nat.add_zero]; exact r.c0.trans hc
      | 1, _, hc => rw [add_flat2 _ _ _ (by decide)]; exact r.c1.trans hc
      | 2, _, hc => rw [add_flat2 _ _ _ (by decide)]; exact r.c2.trans hc
      | 3, _, hc => rw [add_flat2 _ _ _ (by decide)]; exact r.c3.trans hc
      | 4, _, hc => rw [add_flat2 _ _ _ (by decide)]; exact r.c4.trans hc
      | 5, _, hc => rw [add_flat2 _ _ _ (by decide)]; exact r.c5.trans hc
      | 6, _, hc => rw [add_flat2 _ _ _ (by decide)]; exact r.c6.trans hc
      | 7, _, hc => rw [add_flat2 _ _ _ (by decide)]; exact r.c7.trans hc
      | 8, _, hc => rw [add_flat2 _ _ _ (by decide)]; exact r.c8.trans hc
      | k + 9, hk, _ => omega
theorem NodesAt.row {w : World} {b : Nat} {E : TypeId} {n c : Nat} {A : Option Addr} {l : List NodM} (h : w.ownsRow b E 9 (.slice A n c) n (cellsNd l)) (hn : l.length = n) (hm : HeldM w l) : NodesAt w A (l.map NodM.x) :=
  NodesAt.of (fun e => List.eq_nil_of_length_eq_zero (hn.trans (row_none h e))) (row_lay h) hm
theorem blk_lay {w : World} {B : Nat} {C : Array Value} {t : TypeId} (h : w.heap[B]? = some (.cells C t (0, 0))) {xs : List Value} (e : C.toList = xs) : ∀ a, some (⟨B, 0, none⟩ : Addr) = some a → ∀ (i : Nat) u, xs[i]? = some u → w.cell? (a.add i) = some u := by
  intro a ea i u hu
  cases ea
  rw [Addr.add_lit, Nat.zero_add]
  exact blk_cell h i (by rw [← Array.getElem?_toList, e]; exact hu)
theorem ArmsAt.blk {w : World} {B : Nat} {C : Array Value} {t : TypeId} (h : w.heap[B]? = some (.cells C t (0, 0))) {l : List (Int × Int)} (e : C.toList = cellsArm l) : ArmsAt w (some ⟨B, 0, none⟩) l :=
  ArmsAt.of (fun e => by cases e) (blk_lay h e)
theorem NodesAt.blk {w : World} {B : Nat} {C : Array Value} {t : TypeId} (h : w.heap[B]? = some (.cells C t (0, 0))) {l : List NodM} (e : C.toList = cellsNd l) (hm : HeldM w l) : NodesAt w (some ⟨B, 0, none⟩) (l.map NodM.x) :=
  NodesAt.of (fun e => by cases e) (blk_lay h e) hm
theorem ArmsAt.nil (w : World) : ArmsAt w none [] := ⟨fun _ => rfl, fun a e => by cases e⟩
theorem NodesAt.nil (w : World) : NodesAt w none [] := ⟨fun _ => rfl, fun a e => by cases e⟩

end Go.Proofs.Ytilebacnjagneaa
