/- Things of a call's own in memory, side by side: each owns blocks, and what is said of it hangs on these alone. No program is in sight. -/
import Derived.Test.YtilebacnjagneaaBase
namespace Go.Proofs.Ytilebacnjagneaa
set_option linter.unusedVariables false
open Go.RowKit

/-- Nothing of the old world has turned but blocks of F; there may be more. -/
structure WBut (F : List Nat) (W w : World) : Prop where
  os : w.os = W.os
  out : w.output = W.output
  size : W.heap.size ≤ w.heap.size
  heap : ∀ i, i < W.heap.size → i ∉ F → w.heap[i]? = W.heap[i]?
theorem Wider.but {W w : World} (h : Wider W w) (F : List Nat) : WBut F W w := ⟨h.1.1, h.1.2.1, h.2, fun i hi _ => wheap h hi⟩
theorem WBut.refl (F : List Nat) (W : World) : WBut F W W := (Wider.refl W).but F
theorem WBut.trans {F G : List Nat} {a b c : World} (h : WBut F a b) (k : WBut G b c) (hs : ∀ i ∈ G, i ∈ F ∨ a.heap.size ≤ i) : WBut F a c :=
  ⟨k.os.trans h.os, k.out.trans h.out, Nat.le_trans h.size k.size, fun i hi hF => by
    rw [k.heap i (Nat.lt_of_lt_of_le hi h.size) (fun m => by rcases hs i m with m | m; exact hF m; omega), h.heap i hi hF]⟩
theorem WBut.thenW {F : List Nat} {a b c : World} (h : WBut F a b) (k : Wider b c) : WBut F a c := h.trans (k.but F) (fun i m => .inl m)
theorem wider_but {F : List Nat} {a b c : World} (h : Wider a b) (k : WBut F b c) : WBut F a c := (h.but F).trans k (fun i m => .inl m)
/-- Out of what each old block is. -/
theorem wider_of {W w : World} (ho : w.os = W.os) (hu : w.output = W.output) (hz : W.heap.size ≤ w.heap.size) (hh : ∀ i, i < W.heap.size → w.heap[i]? = W.heap[i]?) : Wider W w := by
  refine ⟨⟨ho, hu, fun i hi => ?_⟩, hz⟩
  rw [hh i hi]
  cases W.heap[i]? with
  | none => rfl
  | some o =>
    cases o with
    | cells c t fr => exact ⟨rfl, rfl, rfl, fun _ _ => rfl⟩
    | map es cl => exact .inr ⟨rfl, rfl⟩
    | _ => rfl
theorem WBut.wider {F : List Nat} {V W w : World} (g : Wider V W) (h : WBut F W w) (hs : ∀ i ∈ F, V.heap.size ≤ i) : Wider V w :=
  wider_of (h.os.trans g.1.1) (h.out.trans g.1.2.1) (Nat.le_trans g.2 h.size) fun i hi => by
    rw [h.heap i (Nat.lt_of_lt_of_le hi g.2) (fun m => by have := hs i m; omega), wheap g hi]
theorem cell_heap {W w : World} {a : Addr} (h : w.heap[a.block]? = W.heap[a.block]?) : w.cell? a = W.cell? a := by unfold World.cell?; rw [h]
theorem frozen_heap {W w : World} {a : Addr} (h : w.heap[a.block]? = W.heap[a.block]?) : w.frozen? a = W.frozen? a := by unfold World.frozen?; rw [h]
theorem setCell_but (W : World) (a : Addr) (v : Value) : WBut [a.block] W (W.setCell a v) where
  os := rfl
  out := rfl
  size := by simp [World.setCell]
  heap i hi hF := by
    simp only [World.setCell, Array.getElem?_modify]
    rw [if_neg (fun e => hF (by rw [e]; simp))]

/-- A thing: its blocks, and what is said of it. -/
abbrev Thing := List Nat × (World → Prop)
/-- It hangs on its blocks alone. -/
def Thing.Stable (r : Thing) : Prop := ∀ W w, r.2 W → (∀ i ∈ r.1, w.heap[i]? = W.heap[i]?) → r.2 w
/-- The things that have been made since V, none of which shares a block with another one; and nothing of V has turned. -/
structure Own (V w : World) (L : List Thing) : Prop where
  holds : ∀ r ∈ L, r.2 w
  new : ∀ r ∈ L, ∀ i ∈ r.1, V.heap.size ≤ i ∧ i < w.heap.size
  apart : L.Pairwise fun r q => ∀ i ∈ r.1, i ∉ q.1
  stable : ∀ r ∈ L, r.Stable
  wider : Wider V w
theorem Own.nil {V w : World} (h : Wider V w) : Own V w [] := ⟨by simp, by simp, .nil, by simp, h⟩
theorem Own.quiet {V W w : World} {L : List Thing} (h : Own V W L) (g : Wider W w) : Own V w L where
  holds r m := h.stable r m W w (h.holds r m) fun i hi => wheap g (h.new r m i hi).2
  new r m i hi := ⟨(h.new r m i hi).1, Nat.lt_of_lt_of_le (h.new r m i hi).2 g.2⟩
  apart := h.apart
  stable := h.stable
  wider := h.wider.trans g
theorem Own.drop {V w : World} {r : Thing} {L : List Thing} (h : Own V w (r :: L)) : Own V w L :=
  ⟨fun q m => h.holds q (.tail _ m), fun q m => h.new q (.tail _ m), (List.pairwise_cons.1 h.apart).2, fun q m => h.stable q (.tail _ m), h.wider⟩
theorem Own.head {V w : World} {r : Thing} {L : List Thing} (h : Own V w (r :: L)) : r.2 w := h.holds r (.head _)
theorem Own.swap {V w : World} {r q : Thing} {L : List Thing} (h : Own V w (r :: q :: L)) : Own V w (q :: r :: L) where
  holds x m := h.holds x (by simp only [List.mem_cons] at m ⊢; rcases m with m | m | m <;> simp [m])
  new x m := h.new x (by simp only [List.mem_cons] at m ⊢; rcases m with m | m | m <;> simp [m])
  apart := by
    have k := List.pairwise_cons.1 h.apart
    have k2 := List.pairwise_cons.1 k.2
    refine List.pairwise_cons.2 ⟨fun x m i hi hx => ?_, List.pairwise_cons.2 ⟨fun x m => k.1 x (.tail _ m), k2.2⟩⟩
    rcases List.mem_cons.1 m with rfl | m
    · exact k.1 q (.head _) i hx hi
    · exact k2.1 x m i hi hx
  stable x m := h.stable x (by simp only [List.mem_cons] at m ⊢; rcases m with m | m | m <;> simp [m])
  wider := h.wider
theorem Own.second {V w : World} {r q : Thing} {L : List Thing} (h : Own V w (r :: q :: L)) : q.2 w := h.drop.head
/-- The first thing has become another one, of its own blocks and new ones. -/
theorem Own.turn {V W w : World} {r s : Thing} {L : List Thing} (h : Own V W (r :: L)) (g : WBut r.1 W w) (hs : s.2 w) (hst : s.Stable) (hn : ∀ i ∈ s.1, (i ∈ r.1 ∨ W.heap.size ≤ i) ∧ i < w.heap.size) : Own V w (s :: L) where
  holds x m := by
    rcases List.mem_cons.1 m with rfl | m
    · exact hs
    · refine h.stable x (.tail _ m) W w (h.holds x (.tail _ m)) fun i hi => g.heap i (h.new x (.tail _ m) i hi).2 fun hr => ?_
      exact (List.pairwise_cons.1 h.apart).1 x m i hr hi
  new x m i hi := by
    rcases List.mem_cons.1 m with rfl | m
    · refine ⟨?_, (hn i hi).2⟩
      rcases (hn i hi).1 with k | k
      · exact (h.new r (.head _) i k).1
      · have := h.wider.2; omega
    · exact ⟨(h.new x (.tail _ m) i hi).1, Nat.lt_of_lt_of_le (h.new x (.tail _ m) i hi).2 g.size⟩
  apart := by
    have k := List.pairwise_cons.1 h.apart
    refine List.pairwise_cons.2 ⟨fun x m i hi hx => ?_, k.2⟩
    rcases (hn i hi).1 with c | c
    · exact k.1 x m i c hx
    · have := (h.new x (.tail _ m) i hx).2; omega
  stable x m := by
    rcases List.mem_cons.1 m with rfl | m
    · exact hst
    · exact h.stable x (.tail _ m)
  wider := g.wider h.wider fun i hi => (h.new r (.head _) i hi).1
/-- The same things, of which the first one is no more than it was, behind a call that turns its blocks alone. -/
theorem Own.make {V W w : World} {s : Thing} {L : List Thing} (h : Own V W L) (g : Wider W w) (hs : s.2 w) (hst : s.Stable) (hn : ∀ i ∈ s.1, W.heap.size ≤ i ∧ i < w.heap.size) : Own V w (s :: L) where
  holds x m := by
    rcases List.mem_cons.1 m with rfl | m
    · exact hs
    · exact (h.quiet g).holds x m
  new x m i hi := by
    rcases List.mem_cons.1 m with rfl | m
    · exact ⟨Nat.le_trans h.wider.2 (hn i hi).1, (hn i hi).2⟩
    · exact (h.quiet g).new x m i hi
  apart := List.pairwise_cons.2 ⟨fun x m i hi hx => by have := (h.new x m i hx).2; have := (hn i hi).1; omega, h.apart⟩
  stable x m := by
    rcases List.mem_cons.1 m with rfl | m
    · exact hst
    · exact h.stable x m
  wider := h.wider.trans g

end Go.Proofs.Ytilebacnjagneaa
