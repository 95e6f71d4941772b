/- A message that comes in, as laws hold it (RepA); the helper large on it. -/
import Derived.Test.YtilpimilbjcifaaGreatDoorOFew
import Derived.Test.YtilpimilbjcifaaGreatDoorOMsgA
import Derived.Test.YtilpimilbjcifaaGreatDoorOLarge
namespace Go.Proofs.YtilpimilbjcifaaGreatDoor
set_option linter.unusedVariables false
set_option maxRecDepth 20000
open Go.ChangeShapes Go.WideShapes Go.ChangeAt Go.RowKit Go.Joins
open Go.ChangeMaps (open_string shut_string)

theorem wf_cons {k : IntKind} {ks : List IntKind} {n : Int} {y : List Int} (h : (Lit.int k n).wf = true) (g : wfK ks y) : wfK (k :: ks) (n :: y) :=
  ⟨by simp [g.1], fun i k2 n2 h1 h2 => by
    match i, h1, h2 with
    | 0, h1, h2 => simp at h1 h2; subst h1 h2; exact h
    | i + 1, h1, h2 => exact g.2 i k2 n2 (by simpa using h1) (by simpa using h2)⟩
theorem wf_nil : wfK [] [] := ⟨rfl, fun i k n h _ => by simp at h⟩

theorem rowArm_in {l : List (List Value)} (h : ∀ y ∈ l, isArm y) : ∃ L : List (List Int), l = rowsK ksArm L ∧ ∀ x ∈ L, wfK ksArm x := by
  refine map_of (f := fun x => List.zipWith Value.int ksArm x) l fun y hy => ?_
  obtain ⟨v0, v1, rfl, w0, w1⟩ := h y hy
  exact ⟨[v0, v1], rfl, wf_cons w0 (wf_cons w1 wf_nil)⟩
theorem rowKey_in {l : List (List Value)} (h : ∀ y ∈ l, isKey y) : ∃ L : List (List Int), l = rowsK ksKey L ∧ ∀ x ∈ L, wfK ksKey x := by
  refine map_of (f := fun x => List.zipWith Value.int ksKey x) l fun y hy => ?_
  obtain ⟨v0, rfl, w0⟩ := h y hy
  exact ⟨[v0], rfl, wf_cons w0 wf_nil⟩
theorem rowArg_in {l : List (List Value)} (h : ∀ y ∈ l, isArg y) : ∃ L : List (List Int), l = rowsK ksArg L ∧ ∀ x ∈ L, wfK ksArg x := by
  refine map_of (f := fun x => List.zipWith Value.int ksArg x) l fun y hy => ?_
  obtain ⟨v0, rfl, w0⟩ := h y hy
  exact ⟨[v0], rfl, wf_cons w0 wf_nil⟩
theorem rowInstr_in {l : List (List Value)} (h : ∀ y ∈ l, isInstr y) : ∃ L : List (List Int), l = rowsK ksInstr L ∧ ∀ x ∈ L, wfK ksInstr x := by
  refine map_of (f := fun x => List.zipWith Value.int ksInstr x) l fun y hy => ?_
  obtain ⟨v0, v1, v2, v3, v4, v5, v6, rfl, w0, w1, w2, w3, w4, w5, w6⟩ := h y hy
  exact ⟨[v0, v1, v2, v3, v4, v5, v6], rfl, wf_cons w0 (wf_cons w1 (wf_cons w2 (wf_cons w3 (wf_cons w4 (wf_cons w5 (wf_cons w6 wf_nil))))))⟩
theorem rowBucket_in {l : List (List Value)} (h : ∀ y ∈ l, isBucket y) : ∃ L : List (List Int), l = rowsK ksBucket L ∧ ∀ x ∈ L, wfK ksBucket x := by
  refine map_of (f := fun x => List.zipWith Value.int ksBucket x) l fun y hy => ?_
  obtain ⟨v0, v1, rfl, w0, w1⟩ := h y hy
  exact ⟨[v0, v1], rfl, wf_cons w0 (wf_cons w1 wf_nil)⟩
theorem NodeN.rep {w : World} {x : NodeN} (o : x.Ok w) (h : x.f7.n < 1000000) : ∃ vs, RepNode w x.cells.toArray vs := by
  obtain ⟨L, hl, hL⟩ := rowArm_in o.o7.elt
  have hn : L.length = x.f7.n := by have q := o.o7.len; rw [hl] at q; simpa [rowsK] using q
  exact ⟨_, x.f0, x.f1, x.f2, x.f3, x.f4, x.f5, x.f6, x.f8, x.f7.A, x.f7.n, x.f7.cap, L, rfl, rfl, o.o0, o.o1, o.o2, o.o3, o.o4, o.o5, o.o6, o.o8, by rw [← hl]; exact o.o7.at_, hn, h, hL⟩
theorem FieldN.rep {w : World} {x : FieldN} (o : x.Ok w) : ∃ vs, RepField w x.cells.toArray vs := by
  exact ⟨_, x.f0, x.f1, x.f2, x.f3, x.f4, rfl, rfl, o.o0, o.o1, o.o2, o.o3, o.o4⟩
theorem TableN.rep {w : World} {x : TableN} (o : x.Ok w) (h : x.f2.n < 1000000) : ∃ vs, RepTable w x.cells.toArray vs := by
  obtain ⟨L, hl, hL⟩ := rowKey_in o.o2.elt
  have hn : L.length = x.f2.n := by have q := o.o2.len; rw [hl] at q; simpa [rowsK] using q
  exact ⟨_, x.f0, x.f1, x.f3, x.f4, x.f2.A, x.f2.n, x.f2.cap, L, rfl, rfl, o.o0, o.o1, o.o3, o.o4, by rw [← hl]; exact o.o2.at_, hn, h, hL⟩
theorem EntryN.rep {w : World} {x : EntryN} (o : x.Ok w) (h : x.f6.n < 1000000) : ∃ vs, RepEntry w x.cells.toArray vs := by
  obtain ⟨L, hl, hL⟩ := rowArg_in o.o6.elt
  have hn : L.length = x.f6.n := by have q := o.o6.len; rw [hl] at q; simpa [rowsK] using q
  exact ⟨_, x.f0, x.f3, x.f4, x.f5, x.f7, x.f8, x.f9, x.f1, x.f2, x.f10, x.f6.A, x.f6.n, x.f6.cap, L, rfl, rfl, o.o0, o.o1, o.o2, o.o3, o.o4, o.o5, o.o7, o.o8, o.o9, by rw [← hl]; exact o.o6.at_, hn, h, hL⟩
theorem BlockN.rep {w : World} {x : BlockN} (o : x.Ok w) (h : x.f1.n < 1000000) : ∃ vs, RepBlock w x.cells.toArray vs := by
  obtain ⟨L, hl, hL⟩ := rowInstr_in o.o1.elt
  have hn : L.length = x.f1.n := by have q := o.o1.len; rw [hl] at q; simpa [rowsK] using q
  exact ⟨_, x.f0, x.f1.A, x.f1.n, x.f1.cap, L, rfl, rfl, o.o0, by rw [← hl]; exact o.o1.at_, hn, h, hL⟩
theorem GroupN.rep {w : World} {x : GroupN} (o : x.Ok w) (h : x.f3.n < 1000000) : ∃ vs, RepGroup w x.cells.toArray vs := by
  obtain ⟨L, hl, hL⟩ := rowBucket_in o.o3.elt
  have hn : L.length = x.f3.n := by have q := o.o3.len; rw [hl] at q; simpa [rowsK] using q
  exact ⟨_, x.f0, x.f1, x.f2, x.f3.A, x.f3.n, x.f3.cap, L, rfl, rfl, o.o0, o.o1, o.o2, by rw [← hl]; exact o.o3.at_, hn, h, hL⟩
theorem MeterN.rep {w : World} {x : MeterN} (o : x.Ok w) : ∃ vs, RepMeter w x.cells.toArray vs := by
  exact ⟨_, x.f0, x.f1, x.f2, rfl, rfl, o.o0, o.o1, o.o2⟩
theorem RegsN.rep {w : World} {x : RegsN} (o : x.Ok w) : ∃ vs, RepRegs w x.cells.toArray vs := by
  exact ⟨_, x.f0, x.f1, rfl, rfl, o.o0, o.o1⟩
theorem MsgN.rep {w : World} {x : MsgN} (o : x.Ok w) (hNode : x.f11.f7.n < 1000000) (hTable : x.f13.f2.n < 1000000) (hEntry : x.f14.f6.n < 1000000) (hBlock : x.f15.f1.n < 1000000) (hGroup : x.f16.f3.n < 1000000) : ∃ V, RepA w x.cells.toArray V := by
  obtain ⟨v0, r0⟩ := NodeN.rep o.o11 hNode
  obtain ⟨v1, r1⟩ := FieldN.rep o.o12
  obtain ⟨v2, r2⟩ := TableN.rep o.o13 hTable
  obtain ⟨v3, r3⟩ := EntryN.rep o.o14 hEntry
  obtain ⟨v4, r4⟩ := BlockN.rep o.o15 hBlock
  obtain ⟨v5, r5⟩ := GroupN.rep o.o16 hGroup
  obtain ⟨v6, r6⟩ := MeterN.rep o.o17
  obtain ⟨v7, r7⟩ := RegsN.rep o.o18
  exact ⟨fun k => match k with | 0 => v0 | 1 => v1 | 2 => v2 | 3 => v3 | 4 => v4 | 5 => v5 | 6 => v6 | _ => v7, rfl, r0, r1, r2, r3, r4, r5, r6, r7⟩
end Go.Proofs.YtilpimilbjcifaaGreatDoor
