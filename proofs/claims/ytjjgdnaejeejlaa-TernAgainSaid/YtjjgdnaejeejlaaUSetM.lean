/- Package tern: sets of groups: the mathematics. -/
import Derived.Test.YtjjgdnaejeejlaaUCodeF
namespace Go.Proofs.Ytjjgdnaejeejlaa
set_option linter.unusedVariables false
open Go.ChangeShapes Go.WideShapes Go.ChangeAt Go.RowKit Go.Joins

/-! ### How groups, and texts, stand to each other -/
theorem cb_self : ∀ l : List UInt8, Lib.compareBytes l l = 0
  | [] => rfl
  | a :: l => by unfold Lib.compareBytes; rw [if_neg (UInt8.lt_irrefl a), if_neg (UInt8.lt_irrefl a)]; exact cb_self l
theorem u8_or (a b : UInt8) : a < b ∨ b < a ∨ a = b := by
  rcases Nat.lt_trichotomy a.toNat b.toNat with h | h | h
  · exact .inl (UInt8.lt_iff_toNat_lt.2 h)
  · exact .inr (.inr (UInt8.toNat_inj.1 h))
  · exact .inr (.inl (UInt8.lt_iff_toNat_lt.2 h))
theorem u8_asymm {a b : UInt8} (h : a < b) : ¬ b < a := fun k => by
  have h1 := UInt8.lt_iff_toNat_lt.1 h
  have h2 := UInt8.lt_iff_toNat_lt.1 k
  omega
theorem u8_trans {a b c : UInt8} (h : a < b) (k : b < c) : a < c := by
  have h1 := UInt8.lt_iff_toNat_lt.1 h
  have h2 := UInt8.lt_iff_toNat_lt.1 k
  exact UInt8.lt_iff_toNat_lt.2 (by omega)
theorem cb_cons (a b : UInt8) (l m : List UInt8) : Lib.compareBytes (a :: l) (b :: m) = if a < b then -1 else if b < a then 1 else Lib.compareBytes l m := rfl
theorem cb_total : ∀ l m : List UInt8, Lib.compareBytes l m < 0 ∨ Lib.compareBytes m l < 0 ∨ l = m
  | [], [] => .inr (.inr rfl)
  | [], _ :: _ => .inl (show (-1 : Int) < 0 by decide)
  | _ :: _, [] => .inr (.inl (show (-1 : Int) < 0 by decide))
  | a :: l, b :: m => by
    rw [cb_cons, cb_cons]
    rcases u8_or a b with h | h | rfl
    · refine .inl ?_; rw [if_pos h]; decide
    · refine .inr (.inl ?_); rw [if_pos h]; decide
    · rw [if_neg (UInt8.lt_irrefl a), if_neg (UInt8.lt_irrefl a), if_neg (UInt8.lt_irrefl a), if_neg (UInt8.lt_irrefl a)]
      rcases cb_total l m with h | h | rfl
      · exact .inl h
      · exact .inr (.inl h)
      · exact .inr (.inr rfl)
theorem cb_asymm : ∀ l m : List UInt8, Lib.compareBytes l m < 0 → ¬ Lib.compareBytes m l < 0
  | [], [] => by decide
  | [], _ :: _ => fun _ => by unfold Lib.compareBytes; decide
  | _ :: _, [] => fun h => absurd h (by unfold Lib.compareBytes; decide)
  | a :: l, b :: m => by
    rw [cb_cons, cb_cons]
    rcases u8_or a b with h | h | rfl
    · intro _ q; rw [if_neg (u8_asymm h), if_pos h] at q; exact absurd q (by decide)
    · intro q; rw [if_neg (u8_asymm h), if_pos h] at q; exact absurd q (by decide)
    · rw [if_neg (UInt8.lt_irrefl a), if_neg (UInt8.lt_irrefl a), if_neg (UInt8.lt_irrefl a), if_neg (UInt8.lt_irrefl a)]
      exact cb_asymm l m
theorem cb_trans : ∀ l m n : List UInt8, Lib.compareBytes l m < 0 → Lib.compareBytes m n < 0 → Lib.compareBytes l n < 0
  | [], _, [] => fun h k => by
    rename_i m
    cases m with
    | nil => exact h
    | cons b m => exact absurd k (by unfold Lib.compareBytes; decide)
  | [], _, _ :: _ => fun _ _ => by unfold Lib.compareBytes; decide
  | _ :: _, [], _ => fun h => absurd h (by unfold Lib.compareBytes; decide)
  | _ :: _, _ :: _, [] => fun _ k => absurd k (by unfold Lib.compareBytes; decide)
  | a :: l, b :: m, c :: n => by
    rw [cb_cons, cb_cons, cb_cons]
    intro h k
    rcases u8_or a b with p | p | rfl
    · rcases u8_or b c with q | q | rfl
      · rw [if_pos (u8_trans p q)]; decide
      · rw [if_neg (u8_asymm q), if_pos q] at k; exact absurd k (by decide)
      · rw [if_pos p]; decide
    · rw [if_neg (u8_asymm p), if_pos p] at h; exact absurd h (by decide)
    · rw [if_neg (UInt8.lt_irrefl a), if_neg (UInt8.lt_irrefl a)] at h
      rcases u8_or a c with q | q | rfl
      · rw [if_pos q]; decide
      · rw [if_neg (u8_asymm q), if_pos q] at k; exact absurd k (by decide)
      · rw [if_neg (UInt8.lt_irrefl a), if_neg (UInt8.lt_irrefl a)] at k ⊢
        exact cb_trans l m n h k
theorem ahead_lt (g h : GrpN) : aheadN g h < 0 ↔ h.top < g.top ∨ (g.top = h.top ∧ Lib.compareBytes g.mask.data.toList h.mask.data.toList < 0) := by
  unfold aheadN
  split
  · rename_i c
    rw [compareInt_lt]
    have : ¬ h.top = g.top := fun e => c ((compareInt_zero _ _).2 e)
    constructor
    · exact fun q => .inl q
    · rintro (q | ⟨q, _⟩)
      · exact q
      · exact absurd q.symm this
  · rename_i c
    have e : h.top = g.top := by
      by_cases e : h.top = g.top
      · exact e
      · exact absurd (fun q => e ((compareInt_zero _ _).1 q)) c
    rw [e]
    simp
theorem ahead_trans {a b c : GrpN} (h : aheadN a b < 0) (k : aheadN b c < 0) : aheadN a c < 0 := by
  rw [ahead_lt] at h k ⊢
  rcases h with h | ⟨h, h2⟩
  · rcases k with k | ⟨k, _⟩
    · exact .inl (by omega)
    · exact .inl (by omega)
  · rcases k with k | ⟨k, k2⟩
    · exact .inl (by omega)
    · exact .inr ⟨by omega, cb_trans _ _ _ h2 k2⟩
theorem ahead_asymm {a b : GrpN} (h : aheadN a b < 0) : ¬ aheadN b a < 0 := by
  rw [ahead_lt] at h ⊢
  rintro (k | ⟨k, k2⟩)
  · rcases h with h | ⟨h, _⟩ <;> omega
  · rcases h with h | ⟨_, h2⟩
    · omega
    · exact cb_asymm _ _ h2 k2
theorem ahead_self (a : GrpN) : ¬ aheadN a a < 0 := fun h => ahead_asymm h h
theorem ahead_total {a b : GrpN} (ne : a.mask ≠ b.mask) : aheadN a b < 0 ∨ aheadN b a < 0 := by
  rw [ahead_lt, ahead_lt]
  rcases Int.lt_trichotomy a.top b.top with h | h | h
  · exact .inr (.inl h)
  · rcases cb_total a.mask.data.toList b.mask.data.toList with k | k | k
    · exact .inl (.inr ⟨h, k⟩)
    · exact .inr (.inr ⟨h.symm, k⟩)
    · exact absurd (ba_ext k) ne
  · exact .inl (.inl h)
def OrdS (gs : List GrpN) : Prop := gs.Pairwise fun a b => aheadN a b < 0
def MasksS (gs : List GrpN) : Prop := gs.Pairwise fun a b => a.mask ≠ b.mask
theorem ord_at {A B : List GrpN} {g : GrpN} (h : OrdS (A ++ g :: B)) : (∀ x ∈ A, aheadN x g < 0) ∧ ∀ x ∈ g :: B, ¬ aheadN x g < 0 := by
  obtain ⟨h1, h2, h3⟩ := List.pairwise_append.1 h
  refine ⟨fun x hx => h3 x hx g (.head _), fun x hx => ?_⟩
  rcases List.mem_cons.1 hx with rfl | hx
  · exact ahead_self _
  · exact ahead_asymm ((List.pairwise_cons.1 h2).1 x hx)
theorem ord_less {A B : List GrpN} {g : GrpN} (h : OrdS (A ++ g :: B)) : OrdS (A ++ B) := List.Pairwise.sublist (List.Sublist.append_left (List.sublist_cons_self _ _) _) h
theorem masks_less {A B : List GrpN} {g : GrpN} (h : MasksS (A ++ g :: B)) : MasksS (A ++ B) ∧ ∀ x ∈ A ++ B, x.mask ≠ g.mask := by
  have p : MasksS (g :: (A ++ B)) := pairwise_perm (fun _ _ => Ne.symm) List.perm_middle h
  exact ⟨(List.pairwise_cons.1 p).2, fun x hx => ((List.pairwise_cons.1 p).1 x hx).symm⟩
theorem masks_more {A B : List GrpN} {g : GrpN} (h : MasksS (A ++ B)) (k : ∀ x ∈ A ++ B, x.mask ≠ g.mask) : MasksS (A ++ g :: B) :=
  pairwise_perm (fun _ _ => Ne.symm) List.perm_middle.symm (List.pairwise_cons.2 ⟨fun x hx => (k x hx).symm, h⟩)
theorem ord_more {gs : List GrpN} (h : OrdS gs) (g : GrpN) : ∃ A B, gs = A ++ B ∧ (∀ x ∈ A, aheadN x g < 0) ∧ ∀ x ∈ B, ¬ aheadN x g < 0 :=
  split_mono (fun x : GrpN => aheadN x g < 0) (fun a b r hb => ahead_trans r hb) gs h
theorem ord_put {A B : List GrpN} {g : GrpN} (h : OrdS (A ++ B)) (hA : ∀ x ∈ A, aheadN x g < 0) (hB : ∀ x ∈ B, ¬ aheadN x g < 0) (k : ∀ x ∈ A ++ B, x.mask ≠ g.mask) : OrdS (A ++ g :: B) := by
  obtain ⟨h1, h2, h3⟩ := List.pairwise_append.1 h
  refine List.pairwise_append.2 ⟨h1, List.pairwise_cons.2 ⟨fun x hx => ?_, h2⟩, fun a ha b hb => ?_⟩
  · rcases ahead_total (a := x) (b := g) (k x (List.mem_append_right _ hx)) with q | q
    · exact absurd q (hB x hx)
    · exact q
  · rcases List.mem_cons.1 hb with rfl | hb
    · exact hA a ha
    · exact h3 a ha b hb

/-! ### Sets -/
structure SetN where
  A : Nat
  gm : Option Nat
  ov : Value
  gs : List GrpN
  items : Nat
  last : Nat
def flatS (gs : List GrpN) : List PlN := gs.flatMap GrpN.flat
def FormN (x : ItN) : Prop := MatchN x x.key
structure GoodS (s : SetN) : Prop where
  good : ∀ g ∈ s.gs, GoodG g ∧ g.rows ≠ []
  masks : MasksS s.gs
  ord : OrdS s.gs
  items : s.items = (flatS s.gs).length
  places : (flatS s.gs).Pairwise fun p q => p.pl ≠ q.pl
  last : ∀ p ∈ flatS s.gs, p.pl ≤ s.last
  form : ∀ p ∈ flatS s.gs, FormN p.x
  gm : s.gm = none → s.gs = []
def SameN (x y : ItN) : Prop := x.key = y.key ∧ x.mask = y.mask ∧ x.prio = y.prio
instance (x y : ItN) : Decidable (SameN x y) := by unfold SameN; infer_instance
/-- All items, in their row. -/
def IsAll (s : SetN) (L : List ItN) : Prop := ∃ Ps : List PlN, Ps.Perm (flatS s.gs) ∧ (Ps.Pairwise fun p q => p.pl < q.pl) ∧ Ps.map (·.x) = L
def butL (L : List ItN) (x : ItN) : List ItN := L.filter fun y => decide (¬ SameN y x)
def butP (P : List PlN) (x : ItN) : List PlN := P.filter fun y => decide (¬ SameN y.x x)
theorem butL_map (P : List PlN) (x : ItN) : (butP P x).map (·.x) = butL (P.map (·.x)) x := by
  unfold butP butL
  rw [List.filter_map]
  rfl
theorem flatS_append (A B : List GrpN) : flatS (A ++ B) = flatS A ++ flatS B := List.flatMap_append
theorem flatS_mid (A B : List GrpN) (g : GrpN) : (flatS (A ++ g :: B)).Perm (g.flat ++ flatS (A ++ B)) := by
  rw [flatS_append, flatS_append]
  show (flatS A ++ (g.flat ++ flatS B)).Perm _
  rw [← List.append_assoc, ← List.append_assoc]
  exact List.perm_append_comm.append_right _
theorem mask_of {gs : List GrpN} (h : ∀ g ∈ gs, GoodG g ∧ g.rows ≠ []) {p : PlN} (hp : p ∈ flatS gs) : ∃ g ∈ gs, p ∈ g.flat ∧ p.x.mask = g.mask := by
  obtain ⟨g, hg, hpg⟩ := List.mem_flatMap.1 hp
  exact ⟨g, hg, hpg, ((h g hg).1.mem_get hpg).2⟩
/-- Those of a set but for one item: of one group alone. -/
theorem butP_mid {A B : List GrpN} {g : GrpN} (h : ∀ y ∈ A ++ g :: B, GoodG y ∧ y.rows ≠ []) (k : ∀ y ∈ A ++ B, y.mask ≠ g.mask) (hg : GoodG g) (x : ItN) (hx : x.mask = g.mask) : (butP (flatS (A ++ g :: B)) x).Perm (butN g.flat x.key x.prio ++ flatS (A ++ B)) := by
  refine ((flatS_mid A B g).filter _).trans ?_
  rw [List.filter_append]
  have e1 : g.flat.filter (fun y => decide (¬ SameN y.x x)) = butN g.flat x.key x.prio := by
    unfold butN
    refine List.filter_congr fun y hy => ?_
    have := (hg.mem_get hy).2
    unfold SameN
    simp [this, hx]
  have e2 : (flatS (A ++ B)).filter (fun y => decide (¬ SameN y.x x)) = flatS (A ++ B) := by
    refine List.filter_eq_self.2 fun y hy => decide_eq_true fun c => ?_
    obtain ⟨z, hz, _, e⟩ := mask_of (gs := A ++ B) (fun z hz => h z (by
      rcases List.mem_append.1 hz with q | q
      · exact List.mem_append_left _ q
      · exact List.mem_append_right _ (.tail _ q))) hy
    exact k z hz (e.symm.trans (c.2.1.trans hx))
  rw [e1, e2]
theorem butP_none {gs : List GrpN} (h : ∀ y ∈ gs, GoodG y ∧ y.rows ≠ []) (x : ItN) (k : ∀ y ∈ gs, y.mask ≠ x.mask) : butP (flatS gs) x = flatS gs := by
  refine List.filter_eq_self.2 fun y hy => decide_eq_true fun c => ?_
  obtain ⟨z, hz, _, e⟩ := mask_of h hy
  exact k z hz (e.symm.trans c.2.1)
theorem pairwise_ne_of {P Q : List PlN} (p : P.Perm Q) (h : P.Pairwise fun a b => a.pl ≠ b.pl) : Q.Pairwise fun a b => a.pl ≠ b.pl := pairwise_perm (fun _ _ => Ne.symm) p h
/-- What becomes of all items, where one is put. -/
theorem all_put {s t : SetN} {L : List ItN} (h : IsAll s L) (hl : ∀ p ∈ flatS s.gs, p.pl ≤ s.last) {x : ItN} {n : Nat} (hn : s.last < n) (p : (flatS t.gs).Perm (⟨x, n⟩ :: butP (flatS s.gs) x)) : IsAll t (butL L x ++ [x]) := by
  obtain ⟨Ps, p1, p2, rfl⟩ := h
  refine ⟨butP Ps x ++ [⟨x, n⟩], ?_, ?_, ?_⟩
  · refine List.Perm.trans ?_ p.symm
    exact List.perm_append_comm.trans ((p1.filter _).cons _)
  · refine List.pairwise_append.2 ⟨p2.filter _, List.pairwise_singleton _ _, fun a ha b hb => ?_⟩
    obtain rfl : b = ⟨x, n⟩ := by simpa using hb
    have := hl a (p1.mem_iff.1 (List.mem_filter.1 ha).1)
    show a.pl < n
    omega
  · rw [List.map_append, butL_map]; rfl
theorem all_del {s t : SetN} {L : List ItN} (h : IsAll s L) {x : ItN} (p : (flatS t.gs).Perm (butP (flatS s.gs) x)) : IsAll t (butL L x) := by
  obtain ⟨Ps, p1, p2, rfl⟩ := h
  exact ⟨butP Ps x, (p1.filter _).trans p.symm, p2.filter _, butL_map Ps x⟩

end Go.Proofs.Ytjjgdnaejeejlaa
