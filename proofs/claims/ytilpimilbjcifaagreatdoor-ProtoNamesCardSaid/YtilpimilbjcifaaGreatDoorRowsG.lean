/- Texts that belong together, one behind the other: Own RowT TMem RowU RowV. -/
import Derived.Test.YtilpimilbjcifaaGreatDoorBase
import Derived.Laws.AppendOwn
import Derived.OwnWalk
import Derived.Test.YtilpimilbjcifaaGreatDoorMathG
import Derived.Laws.OwnMore
import Derived.Tactics

/- Things of a call's own in memory, side by side: each owns blocks, and what is said of it hangs on these alone. No program is in sight. -/
namespace Go.Proofs.YtilpimilbjcifaaGreatDoor
set_option linter.unusedVariables false
open Go.RowKit

/-- Nothing of the old world has turned but blocks of F; there may be more. -/
structure WBut (F : List Nat) (W w : World) : Prop where
  os : w.os = W.os
  out : w.output = W.output
  size : W.heap.size ≤ w.heap.size
  heap : ∀ i, i < W.heap.size → i ∉ F → w.heap[i]? = W.heap[i]?
theorem Wider.but {W w : World} (h : Wider W w) (F : List Nat) : WBut F W w := ⟨h.1.1, h.1.2.1, h.2, fun i hi _ => wheap h hi⟩
theorem WBut.refl (F : List Nat) (W : World) : WBut F W W := (Wider.refl W).but F
theorem WBut.trans {F G : List Nat} {a b c : World} (h : WBut F a b) (k : WBut G b c) (hs : ∀ i ∈ G, i ∈ F ∨ a.heap.size ≤ i) : WBut F a c :=
  ⟨k.os.trans h.os, k.out.trans h.out, Nat.le_trans h.size k.size, fun i hi hF => by
    rw [k.heap i (Nat.lt_of_lt_of_le hi h.size) (fun m => by rcases hs i m with m | m; exact hF m; omega), h.heap i hi hF]⟩
theorem WBut.thenW {F : List Nat} {a b c : World} (h : WBut F a b) (k : Wider b c) : WBut F a c := h.trans (k.but F) (fun i m => .inl m)
theorem wider_but {F : List Nat} {a b c : World} (h : Wider a b) (k : WBut F b c) : WBut F a c := (h.but F).trans k (fun i m => .inl m)
/-- Out of what each old block is. -/
theorem wider_of {W w : World} (ho : w.os = W.os) (hu : w.output = W.output) (hz : W.heap.size ≤ w.heap.size) (hh : ∀ i, i < W.heap.size → w.heap[i]? = W.heap[i]?) : Wider W w := by
  refine ⟨⟨ho, hu, fun i hi => ?_⟩, hz⟩
  rw [hh i hi]
  cases W.heap[i]? with
  | none => rfl
  | some o =>
    cases o with
    | cells c t fr => exact ⟨rfl, rfl, rfl, fun _ _ => rfl⟩
    | map es cl => exact .inr ⟨rfl, rfl⟩
    | _ => rfl
theorem WBut.wider {F : List Nat} {V W w : World} (g : Wider V W) (h : WBut F W w) (hs : ∀ i ∈ F, V.heap.size ≤ i) : Wider V w :=
  wider_of (h.os.trans g.1.1) (h.out.trans g.1.2.1) (Nat.le_trans g.2 h.size) fun i hi => by
    rw [h.heap i (Nat.lt_of_lt_of_le hi g.2) (fun m => by have := hs i m; omega), wheap g hi]
theorem cell_heap {W w : World} {a : Addr} (h : w.heap[a.block]? = W.heap[a.block]?) : w.cell? a = W.cell? a := by unfold World.cell?; rw [h]
theorem frozen_heap {W w : World} {a : Addr} (h : w.heap[a.block]? = W.heap[a.block]?) : w.frozen? a = W.frozen? a := by unfold World.frozen?; rw [h]
theorem setCell_but (W : World) (a : Addr) (v : Value) : WBut [a.block] W (W.setCell a v) where
  os := rfl
  out := rfl
  size := by simp [World.setCell]
  heap i hi hF := by
    simp only [World.setCell, Array.getElem?_modify]
    rw [if_neg (fun e => hF (by rw [e]; simp))]

/-- A thing: its blocks, and what is said of it. -/
abbrev Thing := List Nat × (World → Prop)
/-- It hangs on its blocks alone. -/
def Thing.Stable (r : Thing) : Prop := ∀ W w, r.2 W → (∀ i ∈ r.1, w.heap[i]? = W.heap[i]?) → r.2 w
/-- The things that have been made since V, none of which shares a block with another one; and nothing of V has turned. -/
structure Own (V w : World) (L : List Thing) : Prop where
  holds : ∀ r ∈ L, r.2 w
  new : ∀ r ∈ L, ∀ i ∈ r.1, V.heap.size ≤ i ∧ i < w.heap.size
  apart : L.Pairwise fun r q => ∀ i ∈ r.1, i ∉ q.1
  stable : ∀ r ∈ L, r.Stable
  wider : Wider V w
theorem Own.nil {V w : World} (h : Wider V w) : Own V w [] := ⟨by simp, by simp, .nil, by simp, h⟩
theorem Own.quiet {V W w : World} {L : List Thing} (h : Own V W L) (g : Wider W w) : Own V w L where
  holds r m := h.stable r m W w (h.holds r m) fun i hi => wheap g (h.new r m i hi).2
  new r m i hi := ⟨(h.new r m i hi).1, Nat.lt_of_lt_of_le (h.new r m i hi).2 g.2⟩
  apart := h.apart
  stable := h.stable
  wider := h.wider.trans g
theorem Own.drop {V w : World} {r : Thing} {L : List Thing} (h : Own V w (r :: L)) : Own V w L :=
  ⟨fun q m => h.holds q (.tail _ m), fun q m => h.new q (.tail _ m), (List.pairwise_cons.1 h.apart).2, fun q m => h.stable q (.tail _ m), h.wider⟩
theorem Own.head {V w : World} {r : Thing} {L : List Thing} (h : Own V w (r :: L)) : r.2 w := h.holds r (.head _)
theorem Own.swap {V w : World} {r q : Thing} {L : List Thing} (h : Own V w (r :: q :: L)) : Own V w (q :: r :: L) where
  holds x m := h.holds x (by simp only [List.mem_cons] at m ⊢; rcases m with m | m | m <;> simp [m])
  new x m := h.new x (by simp only [List.mem_cons] at m ⊢; rcases m with m | m | m <;> simp [m])
  apart := by
    have k := List.pairwise_cons.1 h.apart
    have k2 := List.pairwise_cons.1 k.2
    refine List.pairwise_cons.2 ⟨fun x m i hi hx => ?_, List.pairwise_cons.2 ⟨fun x m => k.1 x (.tail _ m), k2.2⟩⟩
    rcases List.mem_cons.1 m with rfl | m
    · exact k.1 q (.head _) i hx hi
    · exact k2.1 x m i hi hx
  stable x m := h.stable x (by simp only [List.mem_cons] at m ⊢; rcases m with m | m | m <;> simp [m])
  wider := h.wider
theorem Own.second {V w : World} {r q : Thing} {L : List Thing} (h : Own V w (r :: q :: L)) : q.2 w := h.drop.head
/-- The first thing has become another one, of its own blocks and new ones. -/
theorem Own.turn {V W w : World} {r s : Thing} {L : List Thing} (h : Own V W (r :: L)) (g : WBut r.1 W w) (hs : s.2 w) (hst : s.Stable) (hn : ∀ i ∈ s.1, (i ∈ r.1 ∨ W.heap.size ≤ i) ∧ i < w.heap.size) : Own V w (s :: L) where
  holds x m := by
    rcases List.mem_cons.1 m with rfl | m
    · exact hs
    · refine h.stable x (.tail _ m) W w (h.holds x (.tail _ m)) fun i hi => g.heap i (h.new x (.tail _ m) i hi).2 fun hr => ?_
      exact (List.pairwise_cons.1 h.apart).1 x m i hr hi
  new x m i hi := by
    rcases List.mem_cons.1 m with rfl | m
    · refine ⟨?_, (hn i hi).2⟩
      rcases (hn i hi).1 with k | k
      · exact (h.new r (.head _) i k).1
      · have := h.wider.2; omega
    · exact ⟨(h.new x (.tail _ m) i hi).1, Nat.lt_of_lt_of_le (h.new x (.tail _ m) i hi).2 g.size⟩
  apart := by
    have k := List.pairwise_cons.1 h.apart
    refine List.pairwise_cons.2 ⟨fun x m i hi hx => ?_, k.2⟩
    rcases (hn i hi).1 with c | c
    · exact k.1 x m i c hx
    · have := (h.new x (.tail _ m) i hx).2; omega
  stable x m := by
    rcases List.mem_cons.1 m with rfl | m
    · exact hst
    · exact h.stable x (.tail _ m)
  wider := g.wider h.wider fun i hi => (h.new r (.head _) i hi).1
/-- The same things, of which the first one is no more than it was, behind a call that turns its blocks alone. -/
theorem Own.make {V W w : World} {s : Thing} {L : List Thing} (h : Own V W L) (g : Wider W w) (hs : s.2 w) (hst : s.Stable) (hn : ∀ i ∈ s.1, W.heap.size ≤ i ∧ i < w.heap.size) : Own V w (s :: L) where
  holds x m := by
    rcases List.mem_cons.1 m with rfl | m
    · exact hs
    · exact (h.quiet g).holds x m
  new x m i hi := by
    rcases List.mem_cons.1 m with rfl | m
    · exact ⟨Nat.le_trans h.wider.2 (hn i hi).1, (hn i hi).2⟩
    · exact (h.quiet g).new x m i hi
  apart := List.pairwise_cons.2 ⟨fun x m i hi hx => by have := (h.new x m i hx).2; have := (hn i hi).1; omega, h.apart⟩
  stable x m := by
    rcases List.mem_cons.1 m with rfl | m
    · exact hst
    · exact h.stable x m
  wider := h.wider.trans g

end Go.Proofs.YtilpimilbjcifaaGreatDoor

/- Rows that a call owns (ownsRow), as things; what grows by them. No program is in sight. -/
namespace Go.Proofs.YtilpimilbjcifaaGreatDoor
set_option linter.unusedVariables false
open Go.RowKit

theorem grownBy_but {W w : World} {row : Option Nat} (g : W.grownBy w row) : WBut row.toList W w :=
  ⟨g.os, g.output, g.size, fun i hi hF => g.block i hi fun e => hF (by rw [← e]; simp)⟩
/-- A row that is owned, as a thing. -/
abbrev rowT (e : TypeId) (size : Nat) (v : Value) (n : Nat) (xs : List Value) : Thing := (v.ownBlock.toList, fun w => w.ownsRow 0 e size v n xs)
theorem ownsRow_heap {W w : World} {b : Nat} {e : TypeId} {size n : Nat} {v : Value} {xs : List Value} (h : W.ownsRow b e size v n xs) (k : ∀ i ∈ v.ownBlock.toList, w.heap[i]? = W.heap[i]?) : w.ownsRow b e size v n xs := by
  refine ⟨h.1, ?_⟩
  rcases h.2 with q | ⟨g, cap, cur, rfl, hb, hg, r⟩
  · exact .inl q
  · exact .inr ⟨g, cap, cur, rfl, hb, (k g (by simp [Value.ownBlock])).trans hg, r⟩
theorem rowT_stable (e : TypeId) (size n : Nat) (v : Value) (xs : List Value) : (rowT e size v n xs).Stable := fun W w h k => ownsRow_heap h k
theorem ownsRow_less {w : World} {b c : Nat} {e : TypeId} {size n : Nat} {v : Value} {xs : List Value} (h : w.ownsRow b e size v n xs) (k : c ≤ b) : w.ownsRow c e size v n xs := by
  refine ⟨h.1, ?_⟩
  rcases h.2 with q | ⟨g, cap, cur, rfl, hb, r⟩
  · exact .inl q
  · exact .inr ⟨g, cap, cur, rfl, Nat.le_trans k hb, r⟩
theorem ownsRow_wider {W w : World} {b : Nat} {e : TypeId} {size n : Nat} {v : Value} {xs : List Value} (h : W.ownsRow b e size v n xs) (g : Wider W w) : w.ownsRow b e size v n xs :=
  ownsRow_heap h fun i hi => wheap g (h.lt i (by simpa using hi)).2
/-- A row that a call has made becomes a thing. -/
theorem Own.row {V W w : World} {L : List Thing} (h : Own V W L) (g : Wider W w) {e : TypeId} {size n : Nat} {v : Value} {xs : List Value} (r : w.ownsRow W.heap.size e size v n xs) : Own V w (rowT e size v n xs :: L) :=
  h.make g (ownsRow_less r (Nat.zero_le _)) (rowT_stable _ _ _ _ _) fun i hi => r.lt i (by simpa using hi)
/-- An append to a row that is owned: nothing of the old world has turned. -/
theorem wider_append {W wr w1 : World} {e : TypeId} {size n : Nat} {v : Value} {xs : List Value} (g : Wider W wr) (h : wr.ownsRow W.heap.size e size v n xs) (k : wr.grownBy w1 v.ownBlock) : Wider W w1 :=
  (grownBy_but k).wider g fun i hi => (h.lt i (by simpa using hi)).1
theorem wider_appendA {W wr w1 : World} {e : TypeId} {size n : Nat} {v : Value} {xs : List Value} {o : Obj} (g : Wider W wr) (h : wr.ownsRow W.heap.size e size v n xs) (k : (wr.alloc o).grownBy w1 v.ownBlock) : Wider W w1 :=
  wider_append (g.alloc o) (h.alloc o) k
theorem wider_appendAA {W wr w1 : World} {e : TypeId} {size n : Nat} {v : Value} {xs : List Value} {o o2 : Obj} (g : Wider W wr) (h : wr.ownsRow W.heap.size e size v n xs) (k : ((wr.alloc o).alloc o2).grownBy w1 v.ownBlock) : Wider W w1 :=
  wider_append ((g.alloc o).alloc o2) ((h.alloc o).alloc o2) k
theorem wider_appendAd {W wr w1 : World} {e : TypeId} {size n : Nat} {v : Value} {xs : List Value} {o : Obj} (g : Wider W wr) (h : wr.ownsRow W.heap.size e size v n xs) (k : (wr.alloc o).drew.grownBy w1 v.ownBlock) : Wider W w1 :=
  wider_append (wr := (wr.alloc o).drew) (g.alloc o) (h.alloc o) k
/-- A store into a row that is owned. -/
theorem ownsRow_store {w : World} {b : Nat} {e : TypeId} {size n cap : Nat} {g : Nat} {xs : List Value} {j : Nat} {u : Value} (h : w.ownsRow b e size (.slice (some ⟨g, 0, none⟩) n cap) n xs) (hj : j < xs.length) (hu : u.oneCell' = true) :
    (w.setCell ⟨g, j, none⟩ u).ownsRow b e size (.slice (some ⟨g, 0, none⟩) n cap) n (xs.set j u) := by
  refine ⟨by simpa using h.1, ?_⟩
  rcases h.2 with ⟨q, _⟩ | ⟨g', cap', cur, hv, hb, hg, hn, hm, hs, ht⟩
  · cases q
  · simp only [Value.slice.injEq, Option.some.injEq, Addr.mk.injEq, and_true, true_and] at hv
    obtain ⟨rfl, rfl⟩ := hv
    have hl := h.1
    refine .inr ⟨g, cap, cur.setIfInBounds j u, rfl, hb, ?_, hn, hm, by simpa using hs, ?_⟩
    · have hlt : g < w.heap.size := (Array.getElem?_eq_some_iff.1 hg).1
      simp only [World.setCell, Array.getElem?_modify, if_true, hg, Option.map_some]
      rfl
    · rw [Array.toList_setIfInBounds, List.take_set, ht]

end Go.Proofs.YtilpimilbjcifaaGreatDoor

/- Attributes in memory, and lists of texts. No program is in sight. -/
namespace Go.Proofs.YtilpimilbjcifaaGreatDoor
set_option linter.unusedVariables false
open Go.RowKit

def cellA (a : AtN) : List Value := [.int .u8 (a.t : Int), .string a.v]
def cellsA (l : List AtN) : List Value := l.flatMap cellA
theorem cellsA_nil : cellsA [] = [] := rfl
theorem cellsA_cons (a : AtN) (l : List AtN) : cellsA (a :: l) = .int .u8 (a.t : Int) :: .string a.v :: cellsA l := rfl
theorem cellsA_snoc (l : List AtN) (a : AtN) : cellsA (l ++ [a]) = cellsA l ++ [.int .u8 (a.t : Int), .string a.v] := by simp [cellsA, cellA]
theorem cellsA_length (l : List AtN) : (cellsA l).length = l.length * 2 := by
  induction l with
  | nil => rfl
  | cons a l ih => rw [cellsA_cons]; simp only [List.length_cons]; rw [ih]; omega
theorem cellsA_at : ∀ (l : List AtN) (j : Nat) (x : AtN), l[j]? = some x → (cellsA l)[j * 2]? = some (.int .u8 (x.t : Int)) ∧ (cellsA l)[j * 2 + 1]? = some (.string x.v) := by
  intro l
  induction l with
  | nil => intro j x h; simp at h
  | cons a l ih =>
    intro j x h
    rw [cellsA_cons]
    cases j with
    | zero => simp at h; subst h; simp
    | succ j =>
      have := ih j x (by simpa using h)
      have e : (j + 1) * 2 = j * 2 + 1 + 1 := by omega
      rw [e]
      simpa using this
theorem cellsA_set : ∀ (l : List AtN) (j : Nat) (x : AtN), j < l.length → ((cellsA l).set (j * 2) (.int .u8 (x.t : Int))).set (j * 2 + 1) (.string x.v) = cellsA (l.set j x) := by
  intro l
  induction l with
  | nil => intro j x h; simp at h
  | cons a l ih =>
    intro j x h
    rw [cellsA_cons]
    cases j with
    | zero => simp [cellsA_cons]
    | succ j =>
      have := ih j x (by simpa using h)
      have e : (j + 1) * 2 = j * 2 + 1 + 1 := by omega
      rw [e]
      simp only [List.set_cons_succ, cellsA_cons]
      rw [this]
theorem cellsA_one (l : List AtN) : ∀ u ∈ cellsA l, u.oneCell' = true := by
  induction l with
  | nil => simp [cellsA_nil]
  | cons a l ih =>
    intro u hu
    rw [cellsA_cons] at hu
    simp only [List.mem_cons] at hu
    rcases hu with rfl | rfl | hu
    · rfl
    · rfl
    · exact ih u hu
/-- An attribute's two cells at a. -/
structure AtAt (w : World) (a : Addr) (x : AtN) : Prop where
  c0 : w.cell? a = some (.int .u8 (x.t : Int))
  c1 : w.cell? (a.add 1) = some (.string x.v)
theorem AtAt.on {W w : World} {a : Addr} {x : AtN} (h : AtAt W a x) (g : Wider W w) : AtAt w a x := ⟨wkeep g h.c0, wkeep g h.c1⟩
theorem AtAt.flat {w : World} {a : Addr} {x : AtN} (h : AtAt w a x) : w.cell? ⟨a.block, a.off + 1, none⟩ = some (.string x.v) := by
  have e : a.add 1 = ⟨a.block, a.off + 1, none⟩ := by unfold Addr.add; simp
  rw [← e]; exact h.c1
structure AtsAt (w : World) (A : Option Addr) (l : List AtN) : Prop where
  none_ : A = none → l = []
  cell : ∀ a, A = some a → ∀ j x, l[j]? = some x → AtAt w (a.add (j * 2)) x
theorem AtsAt.on {W w : World} {A : Option Addr} {l : List AtN} (h : AtsAt W A l) (g : Wider W w) : AtsAt w A l :=
  ⟨h.none_, fun a e j s hs => (h.cell a e j s hs).on g⟩
theorem addr_add2 (a : Addr) (i j : Nat) : (a.add i).add j = a.add (i + j) := by
  unfold Addr.add
  by_cases hi : i = 0 <;> by_cases hj : j = 0 <;> simp [hi, hj, Nat.add_assoc]
theorem atsAt_own {w : World} {b : Nat} {e : TypeId} {v : Value} {n : Nat} {l : List AtN} (h : w.ownsRow b e 2 v n (cellsA l)) : ∃ A cap, v = .slice A n cap ∧ AtsAt w A l ∧ l.length = n := by
  have hl := h.1
  rw [cellsA_length] at hl
  have hn : l.length = n := by omega
  have hh := h
  rcases h.2 with ⟨rfl, rfl⟩ | ⟨g, cap, cur, rfl, _⟩
  · have e0 : l = [] := List.eq_nil_of_length_eq_zero hn
    subst e0
    exact ⟨none, 0, rfl, ⟨fun _ => rfl, fun a e => by cases e⟩, hn⟩
  · refine ⟨_, cap, rfl, ⟨(fun e => by cases e), fun a e j x hx => ?_⟩, hn⟩
    obtain rfl : (⟨g, 0, none⟩ : Addr) = a := by injection e
    obtain ⟨q0, q1⟩ := cellsA_at l j x hx
    refine ⟨hh.cells rfl _ _ q0, ?_⟩
    rw [addr_add2]
    exact hh.cells rfl _ _ q1
def cellsS (l : List ByteArray) : List Value := l.map Value.string
theorem cellsS_length (l : List ByteArray) : (cellsS l).length = l.length := by simp [cellsS]
theorem cellsS_snoc (l : List ByteArray) (s : ByteArray) : cellsS (l ++ [s]) = cellsS l ++ [.string s] := by simp [cellsS]
theorem cellsS_one (l : List ByteArray) : ∀ u ∈ cellsS l, u.oneCell' = true := by
  intro u hu
  obtain ⟨s, _, rfl⟩ := List.mem_map.1 hu
  rfl
theorem strsAt_own {w : World} {b : Nat} {e : TypeId} {v : Value} {n : Nat} {l : List ByteArray} (h : w.ownsRow b e 1 v n (cellsS l)) : ∃ A cap, v = .slice A n cap ∧ StrsAt w A l ∧ l.length = n := by
  have hl := h.1
  rw [cellsS_length] at hl
  have hn : l.length = n := by omega
  have hh := h
  rcases h.2 with ⟨rfl, rfl⟩ | ⟨g, cap, cur, rfl, _⟩
  · have e0 : l = [] := List.eq_nil_of_length_eq_zero hn
    subst e0
    exact ⟨none, 0, rfl, StrsAt.nil w, hn⟩
  · refine ⟨_, cap, rfl, ⟨(fun e => by cases e), fun a e j x hx => ?_⟩, hn⟩
    obtain rfl : (⟨g, 0, none⟩ : Addr) = a := by injection e
    exact hh.cells rfl _ _ (by simp [cellsS, hx])
/-- The next one of a list. -/
theorem take_next {α : Type} (l : List α) (k : Nat) (x : α) (h : l[k]? = some x) : l.take (k + 1) = l.take k ++ [x] := by
  obtain ⟨hk, rfl⟩ := List.getElem?_eq_some_iff.1 h
  rw [List.take_succ_eq_append_getElem hk]
theorem next_some {α : Type} (l : List α) (k : Nat) (h : k < l.length) : ∃ x, l[k]? = some x := ⟨l[k], List.getElem?_eq_getElem h⟩

end Go.Proofs.YtilpimilbjcifaaGreatDoor

/- More on rows that a law owns: a whole slice appended, one element written over. No program is in sight. -/
namespace Go.Proofs.YtilpimilbjcifaaGreatDoor
set_option linter.unusedVariables false
open Go.RowKit

/-- What is appended may be nil. -/
theorem run_append_any {P : Program} (w : World) (base : Nat) (t ty e : TypeId) (i : TypeInfo) (z : Value) (size bytes : Nat) (ht : P.underlying t = some (.slice e)) (hi : P.info? e = some i) (hz : i.zero = some z)
    (hsize : i.size = size) (hby : i.bytes = bytes) (hzs : z.cells.size = size) (hsz : 0 < size)
    (v : Value) (n : Nat) (xs : List Value) (hown : w.ownsRow base e size v n xs)
    (A : Option Addr) (m c : Nat) (news : List Value) (hl : news.length = m * size) (h0 : A = none → m = 0) (hnews : ∀ a, A = some a → ∀ j u, news[j]? = some u → w.cell? (a.add j) = some u) (h1 : ∀ u ∈ news, u.oneCell' = true)
    (h63 : n + m ≤ maxLen) (hbytes : (n + m) * bytes ≤ 140737488355328) (hbase : base ≤ w.heap.size) :
    ∃ v' w', (Builtin.append_ #[t, t] ty #[v, .slice A m c]).run P w = .ok v' w' ∧ w'.ownsRow base e size v' (n + m) (xs ++ news) ∧ w.grownBy w' v.ownBlock := by
  cases A with
  | none =>
    obtain rfl := h0 rfl
    have hnil : news = [] := List.eq_nil_of_length_eq_zero (by simpa using hl)
    subst hnil
    refine ⟨v, w, ?_, by simpa using hown, ⟨rfl, rfl, rfl, Nat.le_refl _, fun _ _ _ => rfl⟩⟩
    rcases hown.2 with ⟨rfl, rfl⟩ | ⟨g, cap, cur, rfl, _, _, hnc, _⟩
    · simp [Builtin.append_, run_underlying ht, sizeOf, typeInfo, hi, Builtin.lenOf, Builtin.firstCells]
    · simp [Builtin.append_, run_underlying ht, sizeOf, typeInfo, hi, Builtin.lenOf, Builtin.firstCells, hnc, storeCells]
  | some a =>
    obtain ⟨v', w', r, o, g, _⟩ := run_append_own (P := P) w base t ty e i z size bytes ht hi hz hsize hby hzs hsz v n xs hown a m c news hl (hnews a rfl) h1 h63 hbytes hbase
    exact ⟨v', w', r, o, g⟩
theorem ownsRow_base {w : World} {b c : Nat} {e : TypeId} {size n : Nat} {v : Value} {xs : List Value} (h : w.ownsRow b e size v n xs) (k : ∀ i ∈ v.ownBlock.toList, c ≤ i) : w.ownsRow c e size v n xs := by
  refine ⟨h.1, ?_⟩
  rcases h.2 with q | ⟨g, cap, cur, rfl, hb, r⟩
  · exact .inl q
  · exact .inr ⟨g, cap, cur, rfl, k g (by simp [Value.ownBlock]), r⟩
theorem ownsRow_shape {w : World} {b : Nat} {e : TypeId} {size n : Nat} {v : Value} {xs : List Value} (h : w.ownsRow b e size v n xs) : ∃ B c2, v = .slice B n c2 := by
  rcases h.2 with ⟨rfl, q⟩ | ⟨g, cap, cur, rfl, _⟩
  · exact ⟨none, 0, by rw [q]⟩
  · exact ⟨_, _, rfl⟩
/-- The same for the walk: the row is all that has been made. -/
theorem wpList_append_lone {P : Program} {V w : World} {ops : Array Oper} {rest : List Oper} {o : Oper} {a : Act} {Q : Exit → Act → World → Prop} (hgd : o.guard = none) (s x : Operand) (t : TypeId)
    (ho : o.op = .call { callee := .builtin .append, args := #[s, x], argTypes := #[t, t] })
    (e : TypeId) (i : TypeInfo) (z : Value) (size bytes : Nat) (ht : P.underlying t = some (.slice e)) (hi : P.info? e = some i) (hz : i.zero = some z)
    (hsize : i.size = size) (hby : i.bytes = bytes) (hzs : z.cells.size = size) (hsz : 0 < size)
    (v : Value) (n : Nat) (xs : List Value) (hs : a.eval s = v) (H : Own V w [rowT e size v n xs])
    (A : Option Addr) (m c : Nat) (news : List Value) (hx : a.eval x = .slice A m c) (hl : news.length = m * size) (h0 : A = none → m = 0) (hnews : ∀ a, A = some a → ∀ j u, news[j]? = some u → w.cell? (a.add j) = some u) (h1 : ∀ u ∈ news, u.oneCell' = true)
    (h63 : n + m ≤ maxLen) (hbytes : (n + m) * bytes ≤ 140737488355328) {k : Nat} (hk : n + m = k) {ys : List Value} (hys : xs ++ news = ys)
    (h : ∀ B c2 w', Own V w' [rowT e size (.slice B k c2) k ys] → wpList P ops Q rest (a.put o.dst (.slice B k c2)) w') : wpList P ops Q (o :: rest) a w := by
  subst hk hys
  refine wpList_plain hgd fun K hK => ?_
  have hown := ownsRow_base (c := V.heap.size) H.head fun k hk => (H.new _ (.head _) k hk).1
  obtain ⟨v', w', hr, h2, h3⟩ := run_append_any (P := P) w V.heap.size t o.type e i z size bytes ht hi hz hsize hby hzs hsz v n xs hown A m c news hl h0 hnews h1 h63 hbytes H.wider.2
  unfold Oper.wp execOp
  simp only [ho, resolve, invoke, builtin, Sem.run_bind, Sem.run_pure, Result.andThen_ok, List.map_toArray, List.map_cons, List.map_nil, hs, hx, hr]
  obtain ⟨B, c2, rfl⟩ := ownsRow_shape h2
  refine hK _ _ (h B c2 w' ?_)
  have hw : Wider V w' := (grownBy_but h3).wider H.wider fun k hk => (H.new _ (.head _) k hk).1
  refine ⟨fun r m => ?_, fun r m => ?_, List.pairwise_singleton _ _, fun r m => ?_, hw⟩
  · obtain rfl := List.mem_singleton.1 m
    exact ownsRow_less h2 (Nat.zero_le _)
  · obtain rfl := List.mem_singleton.1 m
    exact fun k hk => h2.lt k (by simpa using hk)
  · obtain rfl := List.mem_singleton.1 m
    exact rowT_stable _ _ _ _ _

/-- One element of a row of one cell each is written over. -/
theorem Own.poke1 {V w : World} {L : List Thing} {e : TypeId} {B : Option Addr} {n c : Nat} {xs : List Value} (H : Own V w (rowT e 1 (.slice B n c) n xs :: L)) {j : Nat} (hj : j < n) :
    ∃ g, B = some ⟨g, 0, none⟩ ∧ (∃ u, w.cell? ⟨g, j, none⟩ = some u) ∧ w.frozen? ⟨g, j, none⟩ = false ∧ ∀ y : Value, y.oneCell' = true → Own V (w.setCell ⟨g, j, none⟩ y) (rowT e 1 (.slice B n c) n (xs.set j y) :: L) := by
  have h := H.head
  have hl : xs.length = n * 1 := h.1
  rcases id h.2 with ⟨q, q2⟩ | ⟨g, cap, cur, q, hb, hg, r⟩
  · omega
  · simp only [Value.slice.injEq] at q
    obtain ⟨rfl, _, rfl⟩ := q
    refine ⟨g, rfl, ⟨xs[j]'(by omega), ?_⟩, ?_, fun y hy => ?_⟩
    · rw [World.ownsRow.cellAt h j (by omega)]; exact List.getElem?_eq_getElem _
    · simp [World.frozen?, hg]
    · refine H.turn (s := rowT e 1 (.slice (some ⟨g, 0, none⟩) n c) n (xs.set j y)) ?_ (ownsRow_store h (by omega) hy) (rowT_stable _ _ _ _ _) fun k hk => ⟨.inl hk, ?_⟩
      · have := setCell_but w ⟨g, j, none⟩ y
        exact this
      · have := (H.new _ (.head _) k hk).2
        simpa [World.setCell] using this
/-- The same where each has two. -/
theorem Own.poke2 {V w : World} {L : List Thing} {e : TypeId} {B : Option Addr} {n c : Nat} {xs : List Value} (H : Own V w (rowT e 2 (.slice B n c) n xs :: L)) {j : Nat} (hj : j < n) :
    ∃ g, B = some ⟨g, 0, none⟩ ∧ (∃ u, w.cell? ⟨g, j * 2, none⟩ = some u) ∧ (∃ u, w.cell? ⟨g, j * 2 + 1, none⟩ = some u) ∧ w.frozen? ⟨g, j * 2, none⟩ = false ∧ w.frozen? ⟨g, j * 2 + 1, none⟩ = false ∧
      ∀ y z : Value, y.oneCell' = true → z.oneCell' = true → Own V ((w.setCell ⟨g, j * 2, none⟩ y).setCell ⟨g, j * 2 + 1, none⟩ z) (rowT e 2 (.slice B n c) n ((xs.set (j * 2) y).set (j * 2 + 1) z) :: L) := by
  have h := H.head
  have hl : xs.length = n * 2 := h.1
  rcases id h.2 with ⟨q, q2⟩ | ⟨g, cap, cur, q, hb, hg, r⟩
  · omega
  · simp only [Value.slice.injEq] at q
    obtain ⟨rfl, _, rfl⟩ := q
    refine ⟨g, rfl, ⟨xs[j * 2]'(by omega), ?_⟩, ⟨xs[j * 2 + 1]'(by omega), ?_⟩, ?_, ?_, fun y z hy hz => ?_⟩
    · rw [World.ownsRow.cellAt h (j * 2) (by omega)]; exact List.getElem?_eq_getElem _
    · rw [World.ownsRow.cellAt h (j * 2 + 1) (by omega)]; exact List.getElem?_eq_getElem _
    · simp [World.frozen?, hg]
    · simp [World.frozen?, hg]
    · have one : ∀ {w : World} {xs : List Value} {k : Nat} {y : Value}, Own V w (rowT e 2 (.slice (some ⟨g, 0, none⟩) n c) n xs :: L) → k < xs.length → y.oneCell' = true → Own V (w.setCell ⟨g, k, none⟩ y) (rowT e 2 (.slice (some ⟨g, 0, none⟩) n c) n (xs.set k y) :: L) := by
        intro w xs k y H hk hy
        refine H.turn (s := rowT e 2 (.slice (some ⟨g, 0, none⟩) n c) n (xs.set k y)) (setCell_but w ⟨g, k, none⟩ y) (ownsRow_store H.head hk hy) (rowT_stable _ _ _ _ _) fun i hi => ⟨.inl hi, ?_⟩
        have := (H.new _ (.head _) i hi).2
        simpa [World.setCell] using this
      exact one (one H (by omega) hy) (by simp; omega) hz
/-- An empty literal. -/
theorem Own.empty {V w : World} {L : List Thing} (H : Own V w L) (e : TypeId) (size : Nat) : Own V (w.alloc (.cells #[] e)) (rowT e size (.slice (some ⟨w.heap.size, 0, none⟩) 0 0) 0 [] :: L) :=
  H.row ((Wider.refl w).alloc _) (World.ownsRow_lit w #[] 0 (Nat.le_refl _) (by simp [maxLen]) (by simp))

end Go.Proofs.YtilpimilbjcifaaGreatDoor

/- Appends to a row that stands beside other things; things in another order; a thing turned and another one made. No program is in sight. -/
namespace Go.Proofs.YtilpimilbjcifaaGreatDoor
set_option linter.unusedVariables false
open Go.RowKit

/-- The row behind an append is the old one, or a new one. -/
theorem append_block {P : Program} {w : World} {base : Nat} {t ty e : TypeId} {i : TypeInfo} {z : Value} {size bytes : Nat} (ht : P.underlying t = some (.slice e)) (hi : P.info? e = some i) (hz : i.zero = some z)
    (hsize : i.size = size) (hby : i.bytes = bytes) (hzs : z.cells.size = size) (hsz : 0 < size)
    {v : Value} {n : Nat} {xs : List Value} (hown : w.ownsRow base e size v n xs)
    {A : Option Addr} {m c : Nat} {news : List Value} (hl : news.length = m * size) (h0 : A = none → m = 0) (hnews : ∀ a, A = some a → ∀ j u, news[j]? = some u → w.cell? (a.add j) = some u) (h1 : ∀ u ∈ news, u.oneCell' = true)
    (h63 : n + m ≤ maxLen) (hbytes : (n + m) * bytes ≤ 140737488355328)
    {v' : Value} {w' : World} (hr : (Builtin.append_ #[t, t] ty #[v, .slice A m c]).run P w = .ok v' w') : ∀ k, v'.ownBlock = some k → v.ownBlock = some k ∨ w.heap.size ≤ k := by
  intro k hk
  rcases hown.2 with ⟨rfl, rfl⟩ | ⟨g, cap, cur, rfl, hb, hg, hnc, hcm, hcs, htake⟩
  · obtain rfl : xs = [] := List.eq_nil_of_length_eq_zero (by simpa using hown.1)
    obtain ⟨v2, w2, r2, o2, _⟩ := run_append_any (P := P) w w.heap.size t ty e i z size bytes ht hi hz hsize hby hzs hsz _ 0 [] (World.ownsRow_nil _ _ _ _) A m c news hl h0 hnews h1 h63 hbytes (Nat.le_refl _)
    rw [hr] at r2
    injection r2 with e1 e2
    subst e1
    exact .inr (o2.lt k hk).1
  · cases A with
    | none =>
      obtain rfl := h0 rfl
      have r2 : (Builtin.append_ #[t, t] ty #[Value.slice (some ⟨g, 0, none⟩) n cap, .slice none 0 c]).run P w = .ok (Value.slice (some ⟨g, 0, none⟩) n cap) w := by
        simp [Builtin.append_, run_underlying ht, sizeOf, typeInfo, hi, Builtin.lenOf, Builtin.firstCells, hnc, storeCells]
      rw [hr] at r2
      injection r2 with e1 e2
      subst e1
      exact .inl hk
    | some a =>
      by_cases hroom : n + m ≤ cap
      · obtain ⟨w2, r2, _⟩ := run_append_fits (P := P) w base t ty e i size ht hi hsize g n cap xs hown a m c news hl (hnews a rfl) h1 hroom
        rw [hr] at r2
        injection r2 with e1 e2
        subst e1
        exact .inl hk
      · subst hsize hby
        have holds : ∀ j u, xs[j]? = some u → w.cell? ((⟨g, 0, none⟩ : Addr).add j) = some u := hown.cells (g := g) rfl
        have r2 := run_append_grow (P := P) w t ty e i z ht hi hz ⟨g, 0, none⟩ n cap xs hown.1 holds a m c news hl (hnews a rfl) (by omega) (by simp only [maxLen] at h63; omega) (growslice_fits (by omega) hbytes)
        rw [hr] at r2
        injection r2 with e1 e2
        subst e1
        simp only [Value.ownBlock, Option.some.injEq] at hk
        exact .inr (by omega)
/-- An append to a row beside other things. -/
theorem wpList_append_thing {P : Program} {V w : World} {L : List Thing} {ops : Array Oper} {rest : List Oper} {o : Oper} {a : Act} {Q : Exit → Act → World → Prop} (hgd : o.guard = none) (s x : Operand) (t : TypeId)
    (ho : o.op = .call { callee := .builtin .append, args := #[s, x], argTypes := #[t, t] })
    (e : TypeId) (i : TypeInfo) (z : Value) (size bytes : Nat) (ht : P.underlying t = some (.slice e)) (hi : P.info? e = some i) (hz : i.zero = some z)
    (hsize : i.size = size) (hby : i.bytes = bytes) (hzs : z.cells.size = size) (hsz : 0 < size)
    (v : Value) (n : Nat) (xs : List Value) (hs : a.eval s = v) (H : Own V w (rowT e size v n xs :: L))
    (A : Option Addr) (m c : Nat) (news : List Value) (hx : a.eval x = .slice A m c) (hl : news.length = m * size) (h0 : A = none → m = 0) (hnews : ∀ a, A = some a → ∀ j u, news[j]? = some u → w.cell? (a.add j) = some u) (h1 : ∀ u ∈ news, u.oneCell' = true)
    (h63 : n + m ≤ maxLen) (hbytes : (n + m) * bytes ≤ 140737488355328) {k : Nat} (hk : n + m = k) {ys : List Value} (hys : xs ++ news = ys)
    (h : ∀ B c2 w', Own V w' (rowT e size (.slice B k c2) k ys :: L) → wpList P ops Q rest (a.put o.dst (.slice B k c2)) w') : wpList P ops Q (o :: rest) a w := by
  subst hk hys
  refine wpList_plain hgd fun K hK => ?_
  obtain ⟨v', w', hr, h2, h3⟩ := run_append_any (P := P) w 0 t o.type e i z size bytes ht hi hz hsize hby hzs hsz v n xs H.head A m c news hl h0 hnews h1 h63 hbytes (Nat.zero_le _)
  have hb := append_block (P := P) ht hi hz hsize hby hzs hsz H.head hl h0 hnews h1 h63 hbytes hr
  unfold Oper.wp execOp
  simp only [ho, resolve, invoke, builtin, Sem.run_bind, Sem.run_pure, Result.andThen_ok, List.map_toArray, List.map_cons, List.map_nil, hs, hx, hr]
  obtain ⟨B, c2, rfl⟩ := ownsRow_shape h2
  refine hK _ _ (h B c2 w' (H.turn (s := rowT e size (.slice B (n + m) c2) (n + m) (xs ++ news)) (grownBy_but h3) h2 (rowT_stable _ _ _ _ _) fun j hj => ?_))
  have hj2 : (Value.slice B (n + m) c2).ownBlock = some j := by simpa using hj
  refine ⟨?_, (h2.lt j hj2).2⟩
  rcases hb j hj2 with q | q
  · exact .inl (by simp [q])
  · exact .inr q
/-- Things in another order. -/
theorem Own.perm {V w : World} {L M : List Thing} (h : Own V w L) (p : L.Perm M) : Own V w M where
  holds r m := h.holds r (p.mem_iff.2 m)
  new r m := h.new r (p.mem_iff.2 m)
  apart := (p.pairwise_iff (fun {r q} hrq i hi hq => hrq i hq hi)).1 h.apart
  stable r m := h.stable r (p.mem_iff.2 m)
  wider := h.wider
theorem Own.third {V w : World} {x y z : Thing} {L : List Thing} (h : Own V w (x :: y :: z :: L)) : Own V w (z :: x :: y :: L) :=
  h.perm (((List.Perm.swap z y L).cons x).trans (List.Perm.swap z x (y :: L)))
theorem Own.fourth {V w : World} {x y z u : Thing} {L : List Thing} (h : Own V w (x :: y :: z :: u :: L)) : Own V w (u :: x :: y :: z :: L) :=
  h.perm ((((List.Perm.swap u z L).cons y).trans (List.Perm.swap u y (z :: L))).cons x |>.trans (List.Perm.swap u x (y :: z :: L)))
/-- The first thing has become another one, and a new one has been made beside it. -/
theorem Own.turnMake {V W w : World} {r s q : Thing} {L : List Thing} (H : Own V W (r :: L)) (g : WBut r.1 W w) (hs : s.2 w) (hst : s.Stable) (hn : ∀ i ∈ s.1, (i ∈ r.1 ∨ W.heap.size ≤ i) ∧ i < w.heap.size)
    (hq : q.2 w) (hqst : q.Stable) (hqn : ∀ i ∈ q.1, W.heap.size ≤ i ∧ i < w.heap.size) (hap : ∀ i ∈ q.1, i ∉ s.1) : Own V w (s :: q :: L) := by
  have H1 := H.turn g hs hst hn
  refine ⟨fun x m => ?_, fun x m => ?_, ?_, fun x m => ?_, H1.wider⟩
  · simp only [List.mem_cons] at m
    rcases m with rfl | rfl | m
    · exact hs
    · exact hq
    · exact H1.holds x (.tail _ m)
  · simp only [List.mem_cons] at m
    rcases m with rfl | rfl | m
    · exact H1.new _ (.head _)
    · exact fun i hi => ⟨Nat.le_trans H.wider.2 (hqn i hi).1, (hqn i hi).2⟩
    · exact H1.new x (.tail _ m)
  · have k := List.pairwise_cons.1 H1.apart
    refine List.pairwise_cons.2 ⟨fun x m i hi hx => ?_, List.pairwise_cons.2 ⟨fun x m i hi hx => ?_, k.2⟩⟩
    · rcases List.mem_cons.1 m with rfl | m
      · exact hap i hx hi
      · exact k.1 x m i hi hx
    · have := (H.new x (.tail _ m) i hx).2
      have := (hqn i hi).1
      omega
  · simp only [List.mem_cons] at m
    rcases m with rfl | rfl | m
    · exact hst
    · exact hqst
    · exact H1.stable x (.tail _ m)

end Go.Proofs.YtilpimilbjcifaaGreatDoor
