/- Trees of nodes in memory: each node a block, with two branches, a number, and whether it has one; the root has a count besides. -/
import Derived.Test.YtjnccpbedffijaaBlk
import Derived.Test.YtjnccpbedffijaaJMath
namespace Go.Proofs.Ytjnccpbedffijaa
set_option linter.unusedVariables false
open Go.ChangeShapes Go.WideShapes Go.ChangeAt Go.RowKit Go.Joins

/-- A tree of nodes, each with its block; a root has a count. -/
inductive TB
  | nil
  | node (B : Nat) (c v : Option Int) (l r : TB)
namespace TB
def ptr : TB → Value
  | nil => .pointer none
  | node B _ _ _ _ => .pointer (some ⟨B, 0, none⟩)
def tr : TB → Tr
  | nil => .nil
  | node _ _ v l r => .node v l.tr r.tr
def blocks : TB → List Nat
  | nil => []
  | node B _ _ l r => B :: (l.blocks ++ r.blocks)
def sub : TB → List Bool → TB
  | t, [] => t
  | nil, _ :: _ => nil
  | node _ _ _ l r, b :: bs => if b then r.sub bs else l.sub bs
/-- How many bits its longest way has, at most. -/
def Deep : TB → Nat → Prop
  | nil, _ => True
  | node _ _ _ l r, n => ∃ m, n = m + 1 ∧ l.Deep m ∧ r.Deep m
end TB
def cellsJ : Option Int → Option Int → Value → Value → Array Value
  | none, v, p, q => #[p, q, .int .i64 (v.getD 0), .bool v.isSome]
  | some c, v, p, q => #[p, q, .int .i64 (v.getD 0), .bool v.isSome, .int .i64 c]
def tyJ : Option Int → TypeId
  | none => 27
  | some _ => 29
theorem cellsJ_0 (c v : Option Int) (p q : Value) : (cellsJ c v p q)[0]? = some p := by cases c <;> rfl
theorem cellsJ_1 (c v : Option Int) (p q : Value) : (cellsJ c v p q)[1]? = some q := by cases c <;> rfl
theorem cellsJ_2 (c v : Option Int) (p q : Value) : (cellsJ c v p q)[2]? = some (.int .i64 (v.getD 0)) := by cases c <;> rfl
theorem cellsJ_3 (c v : Option Int) (p q : Value) : (cellsJ c v p q)[3]? = some (.bool v.isSome) := by cases c <;> rfl
theorem cellsJ_4 (c : Int) (v : Option Int) (p q : Value) : (cellsJ (some c) v p q)[4]? = some (.int .i64 c) := rfl
theorem cellsJ_set0 (c v : Option Int) (p q x : Value) : (cellsJ c v p q).setIfInBounds 0 x = cellsJ c v x q := by cases c <;> rfl
theorem cellsJ_set1 (c v : Option Int) (p q x : Value) : (cellsJ c v p q).setIfInBounds 1 x = cellsJ c v p x := by cases c <;> rfl
theorem cellsJ_set23 (c v : Option Int) (p q : Value) (x : Int) : ((cellsJ c v p q).setIfInBounds 2 (.int .i64 x)).setIfInBounds 3 (.bool true) = cellsJ c (some x) p q := by cases c <;> rfl
theorem cellsJ_set23n (c v : Option Int) (p q : Value) : ((cellsJ c v p q).setIfInBounds 2 (.int .i64 0)).setIfInBounds 3 (.bool false) = cellsJ c none p q := by cases c <;> rfl
theorem cellsJ_set4 (c d : Int) (v : Option Int) (p q : Value) : (cellsJ (some c) v p q).setIfInBounds 4 (.int .i64 d) = cellsJ (some d) v p q := rfl
namespace TB
def At (w : World) : TB → Prop
  | nil => True
  | node B c v l r => w.heap[B]? = some (.cells (cellsJ c v l.ptr r.ptr) (tyJ c) (0, 0)) ∧ l.At w ∧ r.At w
theorem At.on {W w : World} : ∀ {t : TB}, t.At W → (∀ i ∈ t.blocks, w.heap[i]? = W.heap[i]?) → t.At w
  | nil, _, _ => trivial
  | node B c v l r, ⟨h1, h2, h3⟩, k => ⟨(k B (by simp [blocks])).trans h1, h2.on fun i hi => k i (by simp [blocks, hi]), h3.on fun i hi => k i (by simp [blocks, hi])⟩
theorem At.sub {w : World} : ∀ {t : TB} (p : List Bool), t.At w → (t.sub p).At w
  | t, [], h => by cases t <;> exact h
  | nil, _ :: _, _ => trivial
  | node B c v l r, b :: bs, h => by
    cases b
    · exact h.2.1.sub bs
    · exact h.2.2.sub bs
theorem At.lt {w : World} : ∀ {t : TB}, t.At w → ∀ i ∈ t.blocks, i < w.heap.size
  | nil, _, i, hi => by simp [blocks] at hi
  | node B c v l r, h, i, hi => by
    simp only [blocks, List.mem_cons, List.mem_append] at hi
    rcases hi with rfl | hi | hi
    · exact (Array.getElem?_eq_some_iff.1 h.1).1
    · exact h.2.1.lt i hi
    · exact h.2.2.lt i hi
theorem At.wider {W w : World} {t : TB} (h : t.At W) (g : Wider W w) : t.At w := h.on fun i hi => wheap g (h.lt i hi)
theorem sub_append : ∀ (t : TB) (p q : List Bool), t.sub (p ++ q) = (t.sub p).sub q
  | t, [], q => by cases t <;> rfl
  | nil, b :: p, q => by cases q <;> rfl
  | node B c v l r, b :: p, q => by
    cases b
    · exact sub_append l p q
    · exact sub_append r p q
theorem sub_nil (t : TB) : t.sub [] = t := by cases t <;> rfl
theorem get_sub : ∀ (t : TB) (p q : List Bool), t.tr.get (p ++ q) = (t.sub p).tr.get q
  | t, [], q => by cases t <;> rfl
  | nil, b :: p, q => by rw [show (nil : TB).tr = Tr.nil from rfl, Tr.get_nil, show ((nil : TB).sub (b :: p)) = nil from rfl, show (nil : TB).tr = Tr.nil from rfl, Tr.get_nil]
  | node B c v l r, b :: p, q => by
    cases b
    · exact get_sub l p q
    · exact get_sub r p q
theorem Deep.more : ∀ {t : TB} {n m : Nat}, t.Deep n → n ≤ m → t.Deep m
  | nil, _, _, _, _ => trivial
  | node B c v l r, n, m, ⟨k, e, h1, h2⟩, h => ⟨m - 1, by omega, h1.more (by omega), h2.more (by omega)⟩
end TB
/-- A tree as a thing. -/
abbrev treeT (t : TB) : Thing := (t.blocks, fun w => t.At w ∧ t.blocks.Nodup)
theorem tree_stable (t : TB) : (treeT t).Stable := fun W w h k => ⟨h.1.on k, h.2⟩
abbrev nodeT (B : Nat) (c v : Option Int) (p q : Value) : Thing := blkT B (cellsJ c v p q) (tyJ c)
theorem Own.treeOpen {V w : World} {R : List Thing} {B : Nat} {c v : Option Int} {l r : TB} (H : Own V w (treeT (.node B c v l r) :: R)) :
    Own V w (nodeT B c v l.ptr r.ptr :: treeT l :: treeT r :: R) := by
  obtain ⟨⟨h1, h2, h3⟩, nd⟩ := H.head
  have nd' : (B :: (l.blocks ++ r.blocks)).Nodup := nd
  obtain ⟨n1, n2⟩ := List.nodup_cons.1 nd'
  have n3 := List.nodup_append.1 n2
  refine H.split (M := [nodeT B c v l.ptr r.ptr, treeT l, treeT r]) (fun t m => ?_) (fun t m => ?_) (fun t m i hi => ?_) ?_
  · simp only [List.mem_cons, List.not_mem_nil, or_false] at m
    rcases m with rfl | rfl | rfl
    · exact h1
    · exact ⟨h2, n3.1⟩
    · exact ⟨h3, n3.2.1⟩
  · simp only [List.mem_cons, List.not_mem_nil, or_false] at m
    rcases m with rfl | rfl | rfl
    · exact blk_stable _ _ _
    · exact tree_stable _
    · exact tree_stable _
  · simp only [List.mem_cons, List.not_mem_nil, or_false] at m
    rcases m with rfl | rfl | rfl
    · obtain rfl := List.mem_singleton.1 hi
      exact List.mem_cons_self
    · exact List.mem_cons_of_mem _ (List.mem_append.2 (.inl hi))
    · exact List.mem_cons_of_mem _ (List.mem_append.2 (.inr hi))
  · refine List.pairwise_cons.2 ⟨fun t m i hi hx => ?_, List.pairwise_cons.2 ⟨fun t m i hi hx => ?_, List.pairwise_singleton _ _⟩⟩
    · obtain rfl := List.mem_singleton.1 hi
      simp only [List.mem_cons, List.not_mem_nil, or_false] at m
      rcases m with rfl | rfl
      · exact n1 (List.mem_append.2 (.inl hx))
      · exact n1 (List.mem_append.2 (.inr hx))
    · obtain rfl := List.mem_singleton.1 m
      exact n3.2.2 i hi i hx rfl
theorem Own.treeShut {V w : World} {R : List Thing} {B : Nat} {c v : Option Int} {l r : TB} {p q : Value} (hp : l.ptr = p) (hq : r.ptr = q) (H : Own V w (nodeT B c v p q :: treeT l :: treeT r :: R)) :
    Own V w (treeT (.node B c v l r) :: R) := by
  subst hp hq
  have a1 := List.pairwise_cons.1 H.apart
  have a2 := List.pairwise_cons.1 a1.2
  refine Own.join (M := [nodeT B c v l.ptr r.ptr, treeT l, treeT r]) H ⟨⟨H.head, H.drop.head.1, H.drop.drop.head.1⟩, ?_⟩ (tree_stable _) fun i hi => ?_
  · show (B :: (l.blocks ++ r.blocks)).Nodup
    refine List.nodup_cons.2 ⟨fun m => ?_, List.nodup_append.2 ⟨H.drop.head.2, H.drop.drop.head.2, fun a ha b hb e => ?_⟩⟩
    · rcases List.mem_append.1 m with m | m
      · exact a1.1 (treeT l) (.head _) B (by simp) m
      · exact a1.1 (treeT r) (.tail _ (.head _)) B (by simp) m
    · subst e
      exact a2.1 (treeT r) (.head _) a ha hb
  · have hi : i ∈ B :: (l.blocks ++ r.blocks) := hi
    rcases List.mem_cons.1 hi with rfl | hi
    · exact ⟨_, .head _, by simp⟩
    · rcases List.mem_append.1 hi with hi | hi
      · exact ⟨_, .tail _ (.head _), hi⟩
      · exact ⟨_, .tail _ (.tail _ (.head _)), hi⟩
theorem Own.noTree {V w : World} {R : List Thing} (H : Own V w R) : Own V w (treeT .nil :: R) where
  holds r m := by
    rcases List.mem_cons.1 m with rfl | m
    · exact ⟨trivial, List.nodup_nil⟩
    · exact H.holds r m
  new r m i hi := by
    rcases List.mem_cons.1 m with rfl | m
    · exact absurd hi (by simp [TB.blocks])
    · exact H.new r m i hi
  apart := List.pairwise_cons.2 ⟨fun r m i hi => absurd hi (by simp [TB.blocks]), H.apart⟩
  stable r m := by
    rcases List.mem_cons.1 m with rfl | m
    · exact tree_stable _
    · exact H.stable r m
  wider := H.wider
/-- The second and the third one turned about. -/
theorem Own.swap2 {V w : World} {a b c : Thing} {R : List Thing} (H : Own V w (a :: b :: c :: R)) : Own V w (a :: c :: b :: R) where
  holds x m := H.holds x (by simp only [List.mem_cons] at m ⊢; rcases m with m | m | m | m <;> simp [m])
  new x m := H.new x (by simp only [List.mem_cons] at m ⊢; rcases m with m | m | m | m <;> simp [m])
  apart := by
    have k := List.pairwise_cons.1 H.apart
    refine List.pairwise_cons.2 ⟨fun x m i hi hx => k.1 x (by simp only [List.mem_cons] at m ⊢; rcases m with m | m | m <;> simp [m]) i hi hx, H.drop.swap.apart⟩
  stable x m := H.stable x (by simp only [List.mem_cons] at m ⊢; rcases m with m | m | m | m <;> simp [m])
  wider := H.wider
/-- Things made since, beside those that there are. -/
theorem Own.beside {V W w : World} {L R : List Thing} (H : Own V W R) (K : Own W w L) : Own V w (L ++ R) where
  holds x m := by
    rcases List.mem_append.1 m with m | m
    · exact K.holds x m
    · exact (H.quiet K.wider).holds x m
  new x m i hi := by
    rcases List.mem_append.1 m with m | m
    · exact ⟨Nat.le_trans H.wider.2 (K.new x m i hi).1, (K.new x m i hi).2⟩
    · exact (H.quiet K.wider).new x m i hi
  apart := List.pairwise_append.2 ⟨K.apart, H.apart, fun a ha b hb i hi hx => by
    have := (K.new a ha i hi).1
    have := (H.new b hb i hx).2
    omega⟩
  stable x m := by
    rcases List.mem_append.1 m with m | m
    · exact K.stable x m
    · exact H.stable x m
  wider := H.wider.trans K.wider
theorem Own.row0 {V w : World} {R : List Thing} (H : Own V w R) (e : TypeId) (size : Nat) : Own V w (rowT e size (.slice none 0 0) 0 [] :: R) :=
  H.row (Wider.refl w) (World.ownsRow_nil _ _ _ _)
/-- A way down: which branch is gone, and what stands beside it; the last one first. -/
structure Fr where
  d : Bool
  B : Nat
  c : Option Int
  v : Option Int
  s : TB
def Fr.fill (f : Fr) (t : TB) : TB := if f.d then .node f.B f.c f.v f.s t else .node f.B f.c f.v t f.s
def plugJ : List Fr → TB → TB
  | [], t => t
  | f :: C, t => plugJ C (f.fill t)
def pathJ : List Fr → List Bool
  | [] => []
  | f :: C => pathJ C ++ [f.d]
def ctxL : List Fr → Value → List Thing
  | [], _ => []
  | f :: C, p => nodeT f.B f.c f.v (if f.d then f.s.ptr else p) (if f.d then p else f.s.ptr) :: treeT f.s :: ctxL C (.pointer (some ⟨f.B, 0, none⟩))
theorem plug_append : ∀ (C D : List Fr) (t : TB), plugJ (C ++ D) t = plugJ D (plugJ C t)
  | [], D, t => rfl
  | f :: C, D, t => plug_append C D (f.fill t)
theorem path_append : ∀ (C D : List Fr), pathJ (C ++ D) = pathJ D ++ pathJ C
  | [], D => by simp [pathJ]
  | f :: C, D => by simp [pathJ, path_append C D]
theorem fill_ptr (f : Fr) (t : TB) : (f.fill t).ptr = .pointer (some ⟨f.B, 0, none⟩) := by unfold Fr.fill; cases f.d <;> rfl
theorem Own.plugged {V w : World} {R : List Thing} : ∀ {C : List Fr} {t : TB}, Own V w (treeT t :: (ctxL C t.ptr ++ R)) → Own V w (treeT (plugJ C t) :: R)
  | [], t, H => H
  | f :: C, t, H => by
    obtain ⟨d, B, c, v, s⟩ := f
    refine Own.plugged (C := C) (t := (Fr.mk d B c v s).fill t) ?_
    rw [fill_ptr]
    cases d
    · have H : Own V w (treeT t :: nodeT B c v t.ptr s.ptr :: treeT s :: (ctxL C (.pointer (some ⟨B, 0, none⟩)) ++ R)) := H
      exact H.swap.treeShut rfl rfl
    · have H : Own V w (treeT t :: nodeT B c v s.ptr t.ptr :: treeT s :: (ctxL C (.pointer (some ⟨B, 0, none⟩)) ++ R)) := H
      exact (H.swap.swap2).treeShut rfl rfl
theorem Own.unplug {V w : World} {R : List Thing} : ∀ {C : List Fr} {t : TB}, Own V w (treeT (plugJ C t) :: R) → Own V w (treeT t :: (ctxL C t.ptr ++ R))
  | [], t, H => H
  | f :: C, t, H => by
    have H1 := Own.unplug (C := C) (t := f.fill t) H
    rw [fill_ptr] at H1
    obtain ⟨d, B, c, v, s⟩ := f
    cases d
    · exact (Own.treeOpen H1).swap
    · exact ((Own.treeOpen H1).swap2).swap
theorem plug_ex : ∀ (t : TB) (p : List Bool), t.sub p ≠ .nil → ∃ C, pathJ C = p ∧ plugJ C (t.sub p) = t
  | t, [], _ => ⟨[], rfl, by cases t <;> rfl⟩
  | .nil, b :: p, h => absurd rfl h
  | .node B c v l r, b :: p, h => by
    cases b
    · obtain ⟨C, h1, h2⟩ := plug_ex l p h
      refine ⟨C ++ [⟨false, B, c, v, r⟩], by simp [path_append, pathJ, h1], ?_⟩
      rw [plug_append, show (TB.node B c v l r).sub (false :: p) = l.sub p from rfl, h2]; rfl
    · obtain ⟨C, h1, h2⟩ := plug_ex r p h
      refine ⟨C ++ [⟨true, B, c, v, l⟩], by simp [path_append, pathJ, h1], ?_⟩
      rw [plug_append, show (TB.node B c v l r).sub (true :: p) = r.sub p from rfl, h2]; rfl
theorem sub_plug : ∀ (C : List Fr) (t : TB) (q : List Bool), (plugJ C t).sub (pathJ C ++ q) = t.sub q
  | [], t, q => rfl
  | f :: C, t, q => by
    show (plugJ C (f.fill t)).sub ((pathJ C ++ [f.d]) ++ q) = _
    rw [List.append_assoc, sub_plug C]
    unfold Fr.fill
    cases f.d <;> rfl
/-- What is pure of a way down. -/
def trPlug : List Fr → Tr → Tr
  | [], t => t
  | f :: C, t => trPlug C (if f.d then .node f.v f.s.tr t else .node f.v t f.s.tr)
theorem tr_plug : ∀ (C : List Fr) (t : TB), (plugJ C t).tr = trPlug C t.tr
  | [], t => rfl
  | f :: C, t => by
    show (plugJ C (f.fill t)).tr = _
    rw [tr_plug C, show trPlug (f :: C) t.tr = trPlug C (if f.d then .node f.v f.s.tr t.tr else .node f.v t.tr f.s.tr) from rfl]
    congr 1
    unfold Fr.fill
    cases f.d <;> rfl
theorem put_plug : ∀ (C : List Fr) (t : Tr) (q : List Bool) (x : Int), (trPlug C t).put (pathJ C ++ q) x = trPlug C (t.put q x)
  | [], t, q, x => rfl
  | f :: C, t, q, x => by
    show (trPlug C _).put ((pathJ C ++ [f.d]) ++ q) x = trPlug C _
    rw [List.append_assoc, put_plug C]
    congr 1
    cases f.d <;> rfl
theorem get_plug : ∀ (C : List Fr) (t : Tr) (q : List Bool), (trPlug C t).get (pathJ C ++ q) = t.get q
  | [], t, q => rfl
  | f :: C, t, q => by
    show (trPlug C _).get ((pathJ C ++ [f.d]) ++ q) = _
    rw [List.append_assoc, get_plug C]
    cases f.d <;> rfl
theorem put_fresh (q : List Bool) (x : Int) : (Tr.node none .nil .nil).put q x = Tr.put .nil q x := by
  cases q <;> rfl
end Go.Proofs.Ytjnccpbedffijaa
