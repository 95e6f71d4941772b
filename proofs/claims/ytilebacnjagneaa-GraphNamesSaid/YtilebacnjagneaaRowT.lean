/- Rows that a call owns (ownsRow), as things; what grows by them. No program is in sight. -/
import Derived.Test.YtilebacnjagneaaOwn
import Derived.Laws.AppendOwn
import Derived.OwnWalk
namespace Go.Proofs.Ytilebacnjagneaa
set_option linter.unusedVariables false
open Go.RowKit

theorem grownBy_but {W w : World} {row : Option Nat} (g : W.grownBy w row) : WBut row.toList W w :=
  ⟨g.os, g.output, g.size, fun i hi hF => g.block i hi fun e => hF (by rw [← e]; simp)⟩
/-- A row that is owned, as a thing. -/
abbrev rowT (e : TypeId) (size : Nat) (v : Value) (n : Nat) (xs : List Value) : Thing := (v.ownBlock.toList, fun w => w.ownsRow 0 e size v n xs)
theorem ownsRow_heap {W w : World} {b : Nat} {e : TypeId} {size n : Nat} {v : Value} {xs : List Value} (h : W.ownsRow b e size v n xs) (k : ∀ i ∈ v.ownBlock.toList, w.heap[i]? = W.heap[i]?) : w.ownsRow b e size v n xs := by
  refine ⟨h.1, ?_⟩
  rcases h.2 with q | ⟨g, cap, cur, rfl, hb, hg, r⟩
  · exact .inl q
  · exact .inr ⟨g, cap, cur, rfl, hb, (k g (by simp [Value.ownBlock])).trans hg, r⟩
theorem rowT_stable (e : TypeId) (size n : Nat) (v : Value) (xs : List Value) : (rowT e size v n xs).Stable := fun W w h k => ownsRow_heap h k
theorem ownsRow_less {w : World} {b c : Nat} {e : TypeId} {size n : Nat} {v : Value} {xs : List Value} (h : w.ownsRow b e size v n xs) (k : c ≤ b) : w.ownsRow c e size v n xs := by
  refine ⟨h.1, ?_⟩
  rcases h.2 with q | ⟨g, cap, cur, rfl, hb, r⟩
  · exact .inl q
  · exact .inr ⟨g, cap, cur, rfl, Nat.le_trans k hb, r⟩
theorem ownsRow_wider {W w : World} {b : Nat} {e : TypeId} {size n : Nat} {v : Value} {xs : List Value} (h : W.ownsRow b e size v n xs) (g : Wider W w) : w.ownsRow b e size v n xs :=
  ownsRow_heap h fun i hi => wheap g (h.lt i (by simpa using hi)).2
/-- A row that a call has made becomes a thing. -/
theorem Own.row {V W w : World} {L : List Thing} (h : Own V W L) (g : Wider W w) {e : TypeId} {size n : Nat} {v : Value} {xs : List Value} (r : w.ownsRow W.heap.size e size v n xs) : Own V w (rowT e size v n xs :: L) :=
  h.make g (ownsRow_less r (Nat.zero_le _)) (rowT_stable _ _ _ _ _) fun i hi => r.lt i (by simpa using hi)
/-- An append to a row that is owned: nothing of the old world has turned. -/
theorem wider_append {W wr w1 : World} {e : TypeId} {size n : Nat} {v : Value} {xs : List Value} (g : Wider W wr) (h : wr.ownsRow W.heap.size e size v n xs) (k : wr.grownBy w1 v.ownBlock) : Wider W w1 :=
  (grownBy_but k).wider g fun i hi => (h.lt i (by simpa using hi)).1
theorem wider_appendA {W wr w1 : World} {e : TypeId} {size n : Nat} {v : Value} {xs : List Value} {o : Obj} (g : Wider W wr) (h : wr.ownsRow W.heap.size e size v n xs) (k : (wr.alloc o).grownBy w1 v.ownBlock) : Wider W w1 :=
  wider_append (g.alloc o) (h.alloc o) k
theorem wider_appendAA {W wr w1 : World} {e : TypeId} {size n : Nat} {v : Value} {xs : List Value} {o o2 : Obj} (g : Wider W wr) (h : wr.ownsRow W.heap.size e size v n xs) (k : ((wr.alloc o).alloc o2).grownBy w1 v.ownBlock) : Wider W w1 :=
  wider_append ((g.alloc o).alloc o2) ((h.alloc o).alloc o2) k
theorem wider_appendAd {W wr w1 : World} {e : TypeId} {size n : Nat} {v : Value} {xs : List Value} {o : Obj} (g : Wider W wr) (h : wr.ownsRow W.heap.size e size v n xs) (k : (wr.alloc o).drew.grownBy w1 v.ownBlock) : Wider W w1 :=
  wider_append (wr := (wr.alloc o).drew) (g.alloc o) (h.alloc o) k
/-- A store into a row that is owned. -/
theorem ownsRow_store {w : World} {b : Nat} {e : TypeId} {size n cap : Nat} {g : Nat} {xs : List Value} {j : Nat} {u : Value} (h : w.ownsRow b e size (.slice (some ⟨g, 0, none⟩) n cap) n xs) (hj : j < xs.length) (hu : u.oneCell' = true) :
    (w.setCell ⟨g, j, none⟩ u).ownsRow b e size (.slice (some ⟨g, 0, none⟩) n cap) n (xs.set j u) := by
  refine ⟨by simpa using h.1, ?_⟩
  rcases h.2 with ⟨q, _⟩ | ⟨g', cap', cur, hv, hb, hg, hn, hm, hs, ht⟩
  · cases q
  · simp only [Value.slice.injEq, Option.some.injEq, Addr.mk.injEq, and_true, true_and] at hv
    obtain ⟨rfl, rfl⟩ := hv
    have hl := h.1
    refine .inr ⟨g, cap, cur.setIfInBounds j u, rfl, hb, ?_, hn, hm, by simpa using hs, ?_⟩
    · have hlt : g < w.heap.size := (Array.getElem?_eq_some_iff.1 hg).1
      simp only [World.setCell, Array.getElem?_modify, if_true, hg, Option.map_some]
      rfl
    · rw [Array.toList_setIfInBounds, List.take_set, ht]

end Go.Proofs.Ytilebacnjagneaa
