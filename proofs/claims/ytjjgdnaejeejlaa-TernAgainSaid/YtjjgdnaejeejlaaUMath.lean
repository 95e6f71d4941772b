/- Package tern: items, groups of them, and what becomes of a group: the mathematics. No program is in sight. -/
import Derived.Test.YtjjgdnaejeejlaaStrs
import Derived.Lib.Bytealg
import Derived.Lib.Small
namespace Go.Proofs.Ytjjgdnaejeejlaa
set_option linter.unusedVariables false
open Go.RowKit

structure ItN where
  key : ByteArray
  mask : ByteArray
  prio : Int
  v : Int
structure PlN where
  x : ItN
  pl : Nat
/-- The items with one key, as they lie in a group: the key, the slice, the items. -/
structure RowN where
  key : ByteArray
  val : Value
  ps : List PlN
/-- A group: its block, its map's block, its mask, the slice of priorities, these, its rows. -/
structure GrpN where
  b : Nat
  M : Nat
  mask : ByteArray
  prv : Value
  pr : List Int
  rows : List RowN

/-! ### Lists -/
theorem split_mono {α : Type} {R : α → α → Prop} (f : α → Prop) (hf : ∀ a b, R a b → f b → f a) : ∀ l : List α, l.Pairwise R → ∃ A B, l = A ++ B ∧ (∀ x ∈ A, f x) ∧ (∀ x ∈ B, ¬ f x)
  | [], _ => ⟨[], [], rfl, by simp, by simp⟩
  | a :: l, h => by
    obtain ⟨h1, h2⟩ := List.pairwise_cons.1 h
    by_cases c : f a
    · obtain ⟨A, B, e, hA, hB⟩ := split_mono f hf l h2
      refine ⟨a :: A, B, by rw [e]; rfl, fun x hx => ?_, hB⟩
      rcases List.mem_cons.1 hx with rfl | hx
      · exact c
      · exact hA x hx
    · refine ⟨[], a :: l, rfl, by simp, fun x hx => ?_⟩
      rcases List.mem_cons.1 hx with rfl | hx
      · exact c
      · exact fun q => c (hf _ _ (h1 x hx) q)
theorem at_split {α : Type} {f : α → Prop} {A B : List α} (hA : ∀ x ∈ A, f x) (hB : ∀ x ∈ B, ¬ f x) {j : Nat} {x : α} (h : (A ++ B)[j]? = some x) : f x ↔ j < A.length := by
  by_cases c : j < A.length
  · rw [List.getElem?_append_left c] at h
    exact ⟨fun _ => c, fun _ => hA x (List.mem_of_getElem? h)⟩
  · rw [List.getElem?_append_right (by omega)] at h
    exact ⟨fun q => absurd q (hB x (List.mem_of_getElem? h)), fun q => absurd q c⟩
theorem pairwise_perm {α : Type} {R : α → α → Prop} (hs : ∀ a b, R a b → R b a) {l m : List α} (p : l.Perm m) (h : l.Pairwise R) : m.Pairwise R := (p.pairwise_iff (fun {a b} => hs a b)).1 h

/-! ### A row within a group -/
/-- Where a priority stands, or would stand, in a row. -/
inductive RankN (ps : List PlN) (q : Int) : List PlN → List PlN → Bool → Prop
  | had (A B : List PlN) (p : PlN) (e : ps = A ++ p :: B) (hp : p.x.prio = q) (hA : ∀ x ∈ A, q < x.x.prio) (hB : ∀ x ∈ B, x.x.prio < q) : RankN ps q A B true
  | new (A B : List PlN) (e : ps = A ++ B) (hA : ∀ x ∈ A, q < x.x.prio) (hB : ∀ x ∈ B, x.x.prio < q) : RankN ps q A B false
def Desc (ps : List PlN) : Prop := ps.Pairwise fun a b => b.x.prio < a.x.prio
theorem rank_ex {ps : List PlN} (h : Desc ps) (q : Int) : ∃ A B had, RankN ps q A B had := by
  obtain ⟨A, B, e, hA, hB⟩ := split_mono (fun p : PlN => q < p.x.prio) (fun a b (r : b.x.prio < a.x.prio) hb => by omega) ps h
  cases B with
  | nil => exact ⟨A, [], false, .new A [] e hA (by simp)⟩
  | cons p B =>
    have hB1 := hB p (.head _)
    rw [e] at h
    have k := (List.pairwise_append.1 h).2.1
    have k1 := (List.pairwise_cons.1 k).1
    by_cases c : p.x.prio = q
    · exact ⟨A, B, true, .had A B p e c hA fun x hx => by have := k1 x hx; omega⟩
    · refine ⟨A, p :: B, false, .new A (p :: B) e hA fun x hx => ?_⟩
      rcases List.mem_cons.1 hx with rfl | hx
      · omega
      · have := k1 x hx; omega
theorem RankN.desc {ps A B : List PlN} {q : Int} {had : Bool} (h : RankN ps q A B had) (d : Desc ps) (p : PlN) (hp : p.x.prio = q) : Desc (A ++ p :: B) ∧ Desc (A ++ B) := by
  have key : ∀ A B : List PlN, Desc (A ++ B) → (∀ x ∈ A, q < x.x.prio) → (∀ x ∈ B, x.x.prio < q) → Desc (A ++ p :: B) := fun A B d hA hB => by
    obtain ⟨d1, d2, d3⟩ := List.pairwise_append.1 d
    refine List.pairwise_append.2 ⟨d1, List.pairwise_cons.2 ⟨fun x hx => by have := hB x hx; omega, d2⟩, fun a ha b hb => ?_⟩
    rcases List.mem_cons.1 hb with rfl | hb
    · have := hA a ha; omega
    · exact d3 a ha b hb
  cases h with
  | had p0 e hp0 hA hB =>
    subst e
    have d2 : Desc (A ++ B) := by
      refine List.Pairwise.sublist (List.Sublist.append_left (List.sublist_cons_self _ _) _) d
    exact ⟨key A B d2 hA hB, d2⟩
  | new e hA hB =>
    subst e
    exact ⟨key A B d hA hB, d⟩
theorem RankN.rest {ps A B : List PlN} {q : Int} {had : Bool} (h : RankN ps q A B had) : A ++ B = ps.filter fun p => decide (p.x.prio ≠ q) := by
  have key : ∀ l : List PlN, (∀ x ∈ l, x.x.prio ≠ q) → l.filter (fun p => decide (p.x.prio ≠ q)) = l := fun l hl => List.filter_eq_self.2 fun x hx => decide_eq_true (hl x hx)
  cases h with
  | had p0 e hp0 hA hB =>
    subst e
    rw [List.filter_append, List.filter_cons, if_neg (by simp [hp0]), key A fun x hx => by have := hA x hx; omega, key B fun x hx => by have := hB x hx; omega]
  | new e hA hB =>
    subst e
    rw [List.filter_append, key A fun x hx => by have := hA x hx; omega, key B fun x hx => by have := hB x hx; omega]
theorem RankN.perm {ps A B : List PlN} {q : Int} {had : Bool} (h : RankN ps q A B had) : (had = true ∧ ∃ p, p.x.prio = q ∧ ps = A ++ p :: B) ∨ (had = false ∧ ps = A ++ B ∧ ∀ x ∈ ps, x.x.prio ≠ q) := by
  cases h with
  | had p0 e hp0 hA hB => exact .inl ⟨rfl, p0, hp0, e⟩
  | new e hA hB =>
    refine .inr ⟨rfl, e, fun x hx => ?_⟩
    rw [e] at hx
    rcases List.mem_append.1 hx with hx | hx
    · have := hA x hx; omega
    · have := hB x hx; omega

/-! ### Rows -/
def getR (l : List RowN) (k : ByteArray) : List PlN := match l.find? (fun r => decide (r.key = k)) with | some r => r.ps | none => []
def dropR (l : List RowN) (k : ByteArray) : List RowN := l.filter fun r => decide (r.key ≠ k)
def setR (l : List RowN) (k : ByteArray) (v : Value) (ps : List PlN) : List RowN := ⟨k, v, ps⟩ :: dropR l k
def flatR (l : List RowN) : List PlN := l.flatMap (·.ps)
def KeysR (l : List RowN) : Prop := l.Pairwise fun a b => a.key ≠ b.key
theorem getR_none {l : List RowN} {k : ByteArray} (h : ∀ r ∈ l, r.key ≠ k) : getR l k = [] ∧ dropR l k = l := by
  refine ⟨?_, List.filter_eq_self.2 fun r hr => decide_eq_true (h r hr)⟩
  unfold getR
  rw [List.find?_eq_none.2 fun r hr => by simpa using h r hr]
theorem getR_some {l : List RowN} (hk : KeysR l) {r : RowN} (hr : r ∈ l) : getR l r.key = r.ps ∧ l.Perm (r :: dropR l r.key) := by
  induction l with
  | nil => cases hr
  | cons a l ih =>
    obtain ⟨h1, h2⟩ := List.pairwise_cons.1 hk
    rcases List.mem_cons.1 hr with rfl | hr
    · obtain ⟨g1, g2⟩ := getR_none (l := l) (k := r.key) fun x hx => (h1 x hx).symm
      refine ⟨by unfold getR; simp, ?_⟩
      unfold dropR at g2 ⊢
      rw [List.filter_cons, if_neg (by simp), g2]
    · have ne := h1 r hr
      obtain ⟨i1, i2⟩ := ih h2 hr
      refine ⟨?_, ?_⟩
      · rw [← i1]; unfold getR; rw [List.find?_cons]; simp [ne]
      · unfold dropR at i2 ⊢
        rw [List.filter_cons, if_pos (by simp [ne])]
        exact (i2.cons a).trans (List.Perm.swap r a _)
theorem row_or (l : List RowN) (k : ByteArray) : (∃ r ∈ l, r.key = k) ∨ ∀ r ∈ l, r.key ≠ k := by
  by_cases c : ∃ r ∈ l, r.key = k
  · exact .inl c
  · exact .inr fun r hr e => c ⟨r, hr, e⟩
theorem flatR_cons (r : RowN) (l : List RowN) : flatR (r :: l) = r.ps ++ flatR l := rfl
theorem flatR_perm {l m : List RowN} (p : l.Perm m) : (flatR l).Perm (flatR m) := p.flatMap_right _
theorem flatR_split {l : List RowN} (hk : KeysR l) (k : ByteArray) : (flatR l).Perm (getR l k ++ flatR (dropR l k)) := by
  rcases row_or l k with ⟨r, hr, rfl⟩ | h
  · obtain ⟨g1, g2⟩ := getR_some hk hr
    rw [g1]
    exact flatR_perm g2
  · obtain ⟨g1, g2⟩ := getR_none h
    rw [g1, g2]; exact List.Perm.refl _
theorem dropR_keys {l : List RowN} (hk : KeysR l) (k : ByteArray) : KeysR (dropR l k) ∧ ∀ r ∈ dropR l k, r ∈ l ∧ r.key ≠ k :=
  ⟨hk.filter _, fun r hr => by obtain ⟨h1, h2⟩ := List.mem_filter.1 hr; exact ⟨h1, of_decide_eq_true h2⟩⟩
theorem setR_keys {l : List RowN} (hk : KeysR l) (k : ByteArray) (v : Value) (ps : List PlN) : KeysR (setR l k v ps) :=
  List.pairwise_cons.2 ⟨fun r hr => ((dropR_keys hk k).2 r hr).2.symm, (dropR_keys hk k).1⟩

/-! ### A group -/
def GrpN.flat (g : GrpN) : List PlN := flatR g.rows
def GrpN.top (g : GrpN) : Int := g.pr.getLast?.getD 0
structure GoodG (g : GrpN) : Prop where
  keys : KeysR g.rows
  ne : ∀ r ∈ g.rows, r.ps ≠ []
  of : ∀ r ∈ g.rows, ∀ p ∈ r.ps, p.x.key = r.key ∧ p.x.mask = g.mask
  desc : ∀ r ∈ g.rows, Desc r.ps
  asc : g.pr.Pairwise (· ≤ ·)
  prs : g.pr.Perm (g.flat.map (·.x.prio))
theorem GoodG.desc_get {g : GrpN} (h : GoodG g) (k : ByteArray) : Desc (getR g.rows k) := by
  rcases row_or g.rows k with ⟨r, hr, rfl⟩ | q
  · rw [(getR_some h.keys hr).1]; exact h.desc r hr
  · rw [(getR_none q).1]; exact .nil
theorem GoodG.of_get {g : GrpN} (h : GoodG g) {k : ByteArray} {p : PlN} (hp : p ∈ getR g.rows k) : p.x.key = k ∧ p.x.mask = g.mask := by
  rcases row_or g.rows k with ⟨r, hr, rfl⟩ | q
  · rw [(getR_some h.keys hr).1] at hp; exact h.of r hr p hp
  · rw [(getR_none q).1] at hp; cases hp
theorem GoodG.mem_get {g : GrpN} (h : GoodG g) {p : PlN} (hp : p ∈ g.flat) : p ∈ getR g.rows p.x.key ∧ p.x.mask = g.mask := by
  obtain ⟨r, hr, hpr⟩ := List.mem_flatMap.1 hp
  obtain ⟨k1, k2⟩ := h.of r hr p hpr
  rw [k1, (getR_some h.keys hr).1]
  exact ⟨hpr, k2⟩
theorem mem_of_get {g : GrpN} (h : GoodG g) {k : ByteArray} {p : PlN} (hp : p ∈ getR g.rows k) : p ∈ g.flat := (flatR_split h.keys k).mem_iff.2 (List.mem_append_left _ hp)
/-- Those of a group but for the item with this key and this priority. -/
def butN (l : List PlN) (k : ByteArray) (q : Int) : List PlN := l.filter fun p => decide (¬ (p.x.key = k ∧ p.x.prio = q))
theorem GoodG.but {g : GrpN} (h : GoodG g) (k : ByteArray) (q : Int) : (butN g.flat k q).Perm (((getR g.rows k).filter fun p => decide (p.x.prio ≠ q)) ++ flatR (dropR g.rows k)) := by
  have p := (flatR_split h.keys k).filter (fun p => decide (¬ (p.x.key = k ∧ p.x.prio = q)))
  refine p.trans ?_
  rw [List.filter_append]
  have e1 : (getR g.rows k).filter (fun p => decide (¬ (p.x.key = k ∧ p.x.prio = q))) = (getR g.rows k).filter fun p => decide (p.x.prio ≠ q) := by
    refine List.filter_congr fun x hx => ?_
    simp [(h.of_get hx).1]
  have e2 : (flatR (dropR g.rows k)).filter (fun p => decide (¬ (p.x.key = k ∧ p.x.prio = q))) = flatR (dropR g.rows k) := by
    refine List.filter_eq_self.2 fun x hx => ?_
    obtain ⟨r, hr, hxr⟩ := List.mem_flatMap.1 hx
    obtain ⟨r1, r2⟩ := (dropR_keys h.keys k).2 r hr
    have := (h.of r r1 x hxr).1
    exact decide_eq_true fun e => r2 (this.symm.trans e.1)
  rw [e1, e2]
/-- What the place of a number among those that rise is. -/
theorem lower_ex {l : List Int} (h : l.Pairwise (· ≤ ·)) (q : Int) : ∃ X Y, l = X ++ Y ∧ (∀ x ∈ X, x < q) ∧ (∀ x ∈ Y, q ≤ x) := by
  obtain ⟨A, B, e, hA, hB⟩ := split_mono (fun x : Int => x < q) (fun a b (r : a ≤ b) hb => by omega) l h
  exact ⟨A, B, e, hA, fun x hx => by have := hB x hx; omega⟩
theorem lower_count {X Y : List Int} {q : Int} (hX : ∀ x ∈ X, x < q) (hY : ∀ x ∈ Y, q ≤ x) : (X ++ Y).countP (· < q) = X.length := by
  rw [List.countP_append, List.countP_eq_length.2 (fun x hx => decide_eq_true (hX x hx)), List.countP_eq_zero.2 (fun x hx => by have := hY x hx; simp; omega)]
  rfl
/-- An item is put: where there was one with its key and priority. -/
theorem GoodG.again {g : GrpN} (h : GoodG g) {p p0 : PlN} {A B : List PlN} {k : ByteArray} (hk : p.x.key = k) (hm : p.x.mask = g.mask) (e : getR g.rows k = A ++ p0 :: B) (hp0 : p0.x.prio = p.x.prio) (v : Value) (r : RankN (getR g.rows k) p.x.prio A B true) :
    GoodG { g with rows := setR g.rows k v (A ++ p :: B) } ∧ ({ g with rows := setR g.rows k v (A ++ p :: B) } : GrpN).flat.Perm (p :: butN g.flat k p.x.prio) ∧ g.flat.Perm (p0 :: butN g.flat k p.x.prio) := by
  have b1 := h.but k p.x.prio
  rw [← r.rest] at b1
  have f1 : g.flat.Perm (p0 :: butN g.flat k p.x.prio) := by
    refine (flatR_split h.keys k).trans ?_
    rw [e]
    refine List.Perm.trans ?_ (b1.symm.cons p0)
    rw [List.append_assoc, List.append_assoc]
    exact List.perm_middle
  have f2 : (flatR (setR g.rows k v (A ++ p :: B))).Perm (p :: butN g.flat k p.x.prio) := by
    unfold setR
    rw [flatR_cons]
    refine List.Perm.trans ?_ (b1.symm.cons p)
    rw [List.append_assoc, List.append_assoc]
    exact List.perm_middle
  have d := (r.desc (h.desc_get k) p rfl).1
  refine ⟨⟨setR_keys h.keys _ _ _, fun x hx => ?_, fun x hx y hy => ?_, fun x hx => ?_, h.asc, ?_⟩, f2, f1⟩
  · rcases List.mem_cons.1 hx with rfl | hx
    · simp
    · exact h.ne x ((dropR_keys h.keys k).2 x hx).1
  · rcases List.mem_cons.1 hx with rfl | hx
    · rcases List.mem_append.1 hy with hy | hy
      · exact h.of_get (by rw [e]; exact List.mem_append_left _ hy)
      · rcases List.mem_cons.1 hy with rfl | hy
        · exact ⟨hk, hm⟩
        · exact h.of_get (by rw [e]; exact List.mem_append_right _ (.tail _ hy))
    · exact h.of x ((dropR_keys h.keys k).2 x hx).1 y hy
  · rcases List.mem_cons.1 hx with rfl | hx
    · exact d
    · exact h.desc x ((dropR_keys h.keys k).2 x hx).1
  · refine h.prs.trans ((f1.map _).trans (List.Perm.trans ?_ (f2.map (fun y : PlN => y.x.prio)).symm))
    rw [List.map_cons, List.map_cons, hp0]
/-- .. where there was none. -/
theorem GoodG.more {g : GrpN} (h : GoodG g) {p : PlN} {A B : List PlN} {X Y : List Int} {k : ByteArray} (hk : p.x.key = k) (hm : p.x.mask = g.mask) (v u : Value) (r : RankN (getR g.rows k) p.x.prio A B false) (hXY : g.pr = X ++ Y) (hX : ∀ x ∈ X, x < p.x.prio) (hY : ∀ x ∈ Y, p.x.prio ≤ x) :
    GoodG { g with rows := setR g.rows k v (A ++ p :: B), prv := u, pr := X ++ p.x.prio :: Y } ∧ ({ g with rows := setR g.rows k v (A ++ p :: B), prv := u, pr := X ++ p.x.prio :: Y } : GrpN).flat.Perm (p :: g.flat) ∧ butN g.flat k p.x.prio = g.flat := by
  obtain ⟨e, hno⟩ : getR g.rows k = A ++ B ∧ ∀ x ∈ getR g.rows k, x.x.prio ≠ p.x.prio := by
    rcases r.perm with ⟨q, _⟩ | ⟨_, e, hn⟩
    · cases q
    · exact ⟨e, hn⟩
  have bb : butN g.flat k p.x.prio = g.flat := List.filter_eq_self.2 fun x hx => decide_eq_true fun c => by
    have := (h.mem_get hx).1
    rw [c.1] at this
    exact hno x this c.2
  have f2 : (flatR (setR g.rows k v (A ++ p :: B))).Perm (p :: g.flat) := by
    unfold setR
    rw [flatR_cons]
    refine List.Perm.trans ?_ ((flatR_split h.keys k).symm.cons p)
    rw [e, List.append_assoc, List.append_assoc]
    exact List.perm_middle
  have d := (r.desc (h.desc_get k) p rfl).1
  refine ⟨⟨setR_keys h.keys _ _ _, fun x hx => ?_, fun x hx y hy => ?_, fun x hx => ?_, ?_, ?_⟩, f2, bb⟩
  · rcases List.mem_cons.1 hx with rfl | hx
    · simp
    · exact h.ne x ((dropR_keys h.keys k).2 x hx).1
  · rcases List.mem_cons.1 hx with rfl | hx
    · rcases List.mem_append.1 hy with hy | hy
      · exact h.of_get (by rw [e]; exact List.mem_append_left _ hy)
      · rcases List.mem_cons.1 hy with rfl | hy
        · exact ⟨hk, hm⟩
        · exact h.of_get (by rw [e]; exact List.mem_append_right _ hy)
    · exact h.of x ((dropR_keys h.keys k).2 x hx).1 y hy
  · rcases List.mem_cons.1 hx with rfl | hx
    · exact d
    · exact h.desc x ((dropR_keys h.keys k).2 x hx).1
  · have a := h.asc
    rw [hXY] at a
    obtain ⟨a1, a2, a3⟩ := List.pairwise_append.1 a
    refine List.pairwise_append.2 ⟨a1, List.pairwise_cons.2 ⟨hY, a2⟩, fun x hx y hy => ?_⟩
    rcases List.mem_cons.1 hy with rfl | hy
    · have := hX x hx; omega
    · exact a3 x hx y hy
  · refine List.Perm.trans ?_ (f2.map (fun y : PlN => y.x.prio)).symm
    rw [List.map_cons]
    refine List.perm_middle.trans (List.Perm.cons _ ?_)
    rw [← hXY]
    exact h.prs
/-- An item is taken out. -/
def delRows (l : List RowN) (k : ByteArray) (v : Value) (ps : List PlN) : List RowN := if ps = [] then dropR l k else setR l k v ps
theorem GoodG.less {g : GrpN} (h : GoodG g) {A B : List PlN} {X Y : List Int} {k : ByteArray} {q : Int} (v u : Value) (r : RankN (getR g.rows k) q A B true) (hXY : g.pr = X ++ q :: Y) :
    GoodG { g with rows := delRows g.rows k v (A ++ B), prv := u, pr := X ++ Y } ∧ ({ g with rows := delRows g.rows k v (A ++ B), prv := u, pr := X ++ Y } : GrpN).flat.Perm (butN g.flat k q) ∧ ∃ p0, p0.x.prio = q ∧ p0.x.key = k ∧ g.flat.Perm (p0 :: butN g.flat k q) := by
  obtain ⟨p0, hp0, e⟩ : ∃ p : PlN, p.x.prio = q ∧ getR g.rows k = A ++ p :: B := by
    rcases r.perm with ⟨_, p, hp, e⟩ | ⟨q, _⟩
    · exact ⟨p, hp, e⟩
    · cases q
  have b1 := h.but k q
  rw [← r.rest] at b1
  have f1 : g.flat.Perm (p0 :: butN g.flat k q) := by
    refine (flatR_split h.keys k).trans ?_
    rw [e]
    refine List.Perm.trans ?_ (b1.symm.cons p0)
    rw [List.append_assoc, List.append_assoc]
    exact List.perm_middle
  have f2 : (flatR (delRows g.rows k v (A ++ B))).Perm (butN g.flat k q) := by
    refine List.Perm.trans ?_ b1.symm
    unfold delRows
    split
    · rename_i c; rw [c]; exact List.Perm.refl _
    · unfold setR; rw [flatR_cons]
  have sub : ∀ x ∈ delRows g.rows k v (A ++ B), x = ⟨k, v, A ++ B⟩ ∧ A ++ B ≠ [] ∨ x ∈ dropR g.rows k := fun x hx => by
    unfold delRows at hx
    split at hx
    · exact .inr hx
    · rename_i c
      rcases List.mem_cons.1 hx with rfl | hx
      · exact .inl ⟨rfl, c⟩
      · exact .inr hx
  refine ⟨⟨?_, fun x hx => ?_, fun x hx y hy => ?_, fun x hx => ?_, ?_, ?_⟩, f2, p0, hp0, (h.of_get (by rw [e]; exact List.mem_append_right _ (.head _))).1, f1⟩
  · show KeysR (delRows g.rows k v (A ++ B))
    unfold delRows
    split
    · exact (dropR_keys h.keys k).1
    · exact setR_keys h.keys _ _ _
  · rcases sub x hx with ⟨rfl, c⟩ | hx
    · exact c
    · exact h.ne x ((dropR_keys h.keys k).2 x hx).1
  · rcases sub x hx with ⟨rfl, c⟩ | hx
    · refine h.of_get ?_
      rw [e]
      rcases List.mem_append.1 hy with hy | hy
      · exact List.mem_append_left _ hy
      · exact List.mem_append_right _ (.tail _ hy)
    · exact h.of x ((dropR_keys h.keys k).2 x hx).1 y hy
  · rcases sub x hx with ⟨rfl, c⟩ | hx
    · exact (r.desc (h.desc_get k) p0 hp0).2
    · exact h.desc x ((dropR_keys h.keys k).2 x hx).1
  · have a := h.asc
    rw [hXY] at a
    exact List.Pairwise.sublist (List.Sublist.append_left (List.sublist_cons_self _ _) _) a
  · refine List.Perm.trans ?_ (f2.map (fun y : PlN => y.x.prio)).symm
    have p := h.prs.trans (f1.map (fun y : PlN => y.x.prio))
    rw [hXY, List.map_cons, hp0] at p
    exact List.Perm.cons_inv (List.perm_middle.symm.trans p)

end Go.Proofs.Ytjjgdnaejeejlaa
