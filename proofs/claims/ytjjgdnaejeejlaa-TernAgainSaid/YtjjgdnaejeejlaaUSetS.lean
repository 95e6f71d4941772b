/- Package tern: what a search finds, and how many groups it looks into: the mathematics. -/
import Derived.Test.YtjjgdnaejeejlaaUSetE
namespace Go.Proofs.Ytjjgdnaejeejlaa
set_option linter.unusedVariables false
open Go.ChangeShapes Go.WideShapes Go.ChangeAt Go.RowKit Go.Joins

def BestP (P : List PlN) (key : ByteArray) : Option PlN → Prop
  | none => ∀ p ∈ P, ¬ MatchN p.x key
  | some p => p ∈ P ∧ MatchN p.x key ∧ ∀ q ∈ P, MatchN q.x key → q.x.prio < p.x.prio ∨ (q.x.prio = p.x.prio ∧ p.pl ≤ q.pl)
theorem findG_best {g : GrpN} (h : GoodG g) (key : ByteArray) : BestP g.flat key (findG g key) := by
  have key1 : ∀ q ∈ g.flat, MatchN q.x key → key.size = g.mask.size ∧ q ∈ getR g.rows (underB key g.mask) := fun q hq hm => by
    obtain ⟨h1, h2⟩ := h.mem_get hq
    obtain ⟨m1, m2⟩ := hm
    rw [h2] at m1 m2
    exact ⟨m1, by rw [m2]; exact h1⟩
  unfold findG
  by_cases e : key.size = g.mask.size
  · rw [if_pos e]
    have d := h.desc_get (underB key g.mask)
    cases q : getR g.rows (underB key g.mask) with
    | nil =>
      intro p hp hm
      have := (key1 p hp hm).2
      rw [q] at this; cases this
    | cons p ps =>
      rw [q] at d
      have hp : p ∈ getR g.rows (underB key g.mask) := by rw [q]; exact .head _
      obtain ⟨o1, o2⟩ := h.of_get hp
      refine ⟨mem_of_get h hp, ⟨by rw [o2]; exact e, by rw [o2, o1]⟩, fun x hx hm => ?_⟩
      have hx2 := (key1 x hx hm).2
      rw [q] at hx2
      rcases List.mem_cons.1 hx2 with rfl | hx2
      · exact .inr ⟨rfl, Nat.le_refl _⟩
      · exact .inl ((List.pairwise_cons.1 d).1 x hx2)
  · rw [if_neg e]
    intro p hp hm
    exact e (key1 p hp hm).1
theorem step_best {P : List PlN} {key : ByteArray} {o : Option PlN} {g : GrpN} (hg : GoodG g) (h : BestP P key o) : BestP (P ++ g.flat) key (stepN key o g) := by
  have f := findG_best hg key
  unfold stepN
  cases q : findG g key with
  | none =>
    rw [q] at f
    cases o with
    | none =>
      intro p hp
      rcases List.mem_append.1 hp with hp | hp
      · exact h p hp
      · exact f p hp
    | some b =>
      refine ⟨List.mem_append_left _ h.1, h.2.1, fun x hx hm => ?_⟩
      rcases List.mem_append.1 hx with hx | hx
      · exact h.2.2 x hx hm
      · exact absurd hm (f x hx)
  | some p =>
    rw [q] at f
    cases o with
    | none =>
      refine ⟨List.mem_append_right _ f.1, f.2.1, fun x hx hm => ?_⟩
      rcases List.mem_append.1 hx with hx | hx
      · exact absurd hm (h x hx)
      · exact f.2.2 x hx hm
    | some b =>
      by_cases c : BetterN p b
      · simp only [if_pos c]
        refine ⟨List.mem_append_right _ f.1, f.2.1, fun x hx hm => ?_⟩
        rcases List.mem_append.1 hx with hx | hx
        · have := h.2.2 x hx hm
          rcases c with c | ⟨c, c2⟩ <;> omega
        · exact f.2.2 x hx hm
      · simp only [if_neg c]
        refine ⟨List.mem_append_left _ h.1, h.2.1, fun x hx hm => ?_⟩
        rcases List.mem_append.1 hx with hx | hx
        · exact h.2.2 x hx hm
        · have := f.2.2 x hx hm
          unfold BetterN at c
          omega
theorem bestN_best {key : ByteArray} : ∀ (gs : List GrpN), (∀ g ∈ gs, GoodG g) → BestP (flatS gs) key (bestN key gs) := by
  have gen : ∀ (gs : List GrpN) (P : List PlN) (o : Option PlN), (∀ g ∈ gs, GoodG g) → BestP P key o → BestP (P ++ flatS gs) key (gs.foldl (stepN key) o) := by
    intro gs
    induction gs with
    | nil => intro P o _ h; rw [show flatS [] = [] from rfl, List.append_nil]; exact h
    | cons g gs ih =>
      intro P o hg h
      have := ih (P ++ g.flat) (stepN key o g) (fun y hy => hg y (.tail _ hy)) (step_best (hg g (.head _)) h)
      rw [show flatS (g :: gs) = g.flat ++ flatS gs from rfl, ← List.append_assoc]
      exact this
  intro gs hg
  exact gen gs [] none hg (by intro p hp; cases hp)
theorem stop_ex (S : Nat → Prop) : ∀ n, ∃ j, j ≤ n ∧ (∀ i, i < j → ¬ S i) ∧ (j = n ∨ S j)
  | 0 => ⟨0, Nat.le_refl _, fun i hi => absurd hi (Nat.not_lt_zero _), .inl rfl⟩
  | n + 1 => by
    obtain ⟨j, h1, h2, h3⟩ := stop_ex S n
    by_cases c : S j
    · exact ⟨j, by omega, h2, .inr c⟩
    · rcases h3 with rfl | h3
      · exact ⟨j + 1, Nat.le_refl _, fun i hi => by
          by_cases e : i = j
          · subst e; exact c
          · exact h2 i (by omega), .inl rfl⟩
      · exact absurd h3 c
theorem top_ge {g : GrpN} (h : GoodG g) {p : PlN} (hp : p ∈ g.flat) : p.x.prio ≤ g.top := by
  have hm : p.x.prio ∈ g.pr := h.prs.mem_iff.2 (List.mem_map.2 ⟨p, hp, rfl⟩)
  unfold GrpN.top
  cases q : g.pr.getLast? with
  | none => rw [List.getLast?_eq_none_iff.1 q] at hm; cases hm
  | some t =>
    obtain ⟨l, e⟩ := List.getLast?_eq_some_iff.1 q
    have a := h.asc
    rw [e] at a hm
    show p.x.prio ≤ t
    rcases List.mem_append.1 hm with hm | hm
    · exact (List.pairwise_append.1 a).2.2 _ hm t (by simp)
    · have : p.x.prio = t := by simpa using hm
      omega
theorem flat_ne {g : GrpN} (h : GoodG g) (hr : g.rows ≠ []) : g.flat ≠ [] := by
  cases q : g.rows with
  | nil => exact absurd q hr
  | cons r l =>
    have ne := h.ne r (by rw [q]; exact .head _)
    unfold GrpN.flat
    rw [q, flatR_cons]
    intro e
    exact ne (List.append_eq_nil_iff.1 e).1
theorem top_mem {g : GrpN} (h : GoodG g) (hr : g.rows ≠ []) : ∃ p ∈ g.flat, p.x.prio = g.top := by
  have hm : g.top ∈ g.pr := by
    unfold GrpN.top
    cases q : g.pr.getLast? with
    | none =>
      have e := h.prs.length_eq
      rw [List.getLast?_eq_none_iff.1 q, List.length_map] at e
      exact absurd (List.eq_nil_of_length_eq_zero e.symm) (flat_ne h hr)
    | some t =>
      obtain ⟨l, e⟩ := List.getLast?_eq_some_iff.1 q
      rw [e]; simp
  obtain ⟨p, hp, e⟩ := List.mem_map.1 (h.prs.mem_iff.1 hm)
  exact ⟨p, hp, e⟩
theorem tops_fall {gs : List GrpN} (h : OrdS gs) {i j : Nat} {a b : GrpN} (hij : i ≤ j) (ha : gs[i]? = some a) (hb : gs[j]? = some b) : b.top ≤ a.top := by
  by_cases e : i = j
  · subst e
    rw [ha] at hb
    injection hb with hb
    rw [hb]; exact Int.le_refl _
  · obtain ⟨hi, rfl⟩ := List.getElem?_eq_some_iff.1 ha
    obtain ⟨hj, rfl⟩ := List.getElem?_eq_some_iff.1 hb
    have := (List.pairwise_iff_getElem.1 h) i j hi hj (by omega)
    rw [ahead_lt] at this
    rcases this with h | ⟨h, _⟩ <;> omega
/-- What a search comes to. -/
theorem search_spec {s : SetN} (h : GoodS s) (key : ByteArray) : ∃ j o, j ≤ s.gs.length ∧ (∀ i, i < j → ¬ StopN key s.gs i) ∧ (j = s.gs.length ∨ StopN key s.gs j) ∧ bestN key (s.gs.take j) = o ∧ BestP (flatS s.gs) key o ∧
    ∀ i g, s.gs[i]? = some g → (i < j ↔ ∀ q ∈ flatS s.gs, MatchN q.x key → q.x.prio ≤ g.top) := by
  obtain ⟨j, h1, h2, h3⟩ := stop_ex (StopN key s.gs) s.gs.length
  have bp : ∀ k, BestP (flatS (s.gs.take k)) key (bestN key (s.gs.take k)) := fun k => bestN_best _ fun g hg => (h.good g (List.mem_of_mem_take hg)).1
  have parts : ∀ k, flatS s.gs = flatS (s.gs.take k) ++ flatS (s.gs.drop k) := fun k => by rw [← flatS_append, List.take_append_drop]
  have late : ∀ k q, q ∈ flatS (s.gs.drop k) → ∀ g, s.gs[k]? = some g → q.x.prio ≤ g.top := fun k q hq g hg => by
    obtain ⟨y, hy, hqy⟩ := List.mem_flatMap.1 hq
    obtain ⟨m, hm⟩ := List.getElem?_of_mem hy
    rw [List.getElem?_drop] at hm
    have a := top_ge (h.good y (List.mem_of_getElem? hm)).1 hqy
    have b := tops_fall h.ord (by omega : k ≤ k + m) hg hm
    omega
  refine ⟨j, _, h1, h2, h3, rfl, ?_, fun i g hg => ?_⟩
  · rcases h3 with rfl | ⟨b, g, e1, e2, e3⟩
    · have := bp s.gs.length
      rw [List.take_length] at this ⊢
      exact this
    · have k := bp j
      rw [e1] at k ⊢
      refine ⟨by rw [parts j]; exact List.mem_append_left _ k.1, k.2.1, fun q hq hm => ?_⟩
      rw [parts j] at hq
      rcases List.mem_append.1 hq with hq | hq
      · exact k.2.2 q hq hm
      · have := late j q hq g e2
        exact .inl (by omega)
  · constructor
    · intro hij q hq hm
      by_cases c : q.x.prio ≤ g.top
      · exact c
      · exfalso
        refine h2 i hij ?_
        rw [parts i] at hq
        rcases List.mem_append.1 hq with hq | hq
        · have k := bp i
          cases e : bestN key (s.gs.take i) with
          | none => rw [e] at k; exact absurd hm (k q hq)
          | some b =>
            rw [e] at k
            refine ⟨b, g, e, hg, ?_⟩
            have := k.2.2 q hq hm
            omega
        · exact absurd (late i q hq g hg) c
    · intro hall
      by_cases c : i < j
      · exact c
      · exfalso
        rcases h3 with e | ⟨b, g2, e1, e2, e3⟩
        · have := (List.getElem?_eq_some_iff.1 hg).1
          omega
        · have k := bp j
          rw [e1] at k
          have a := hall b (by rw [parts j]; exact List.mem_append_left _ k.1) k.2.1
          have t := tops_fall h.ord (by omega : j ≤ i) e2 hg
          omega

/-! ### In terms of all items -/
def FindE (L : List ItN) (key : ByteArray) : Option ItN → Prop
  | none => ∀ x ∈ L, ¬ MatchN x key
  | some x => MatchN x key ∧ ∃ A B, L = A ++ x :: B ∧ (∀ y ∈ A, MatchN y key → y.prio < x.prio) ∧ ∀ y ∈ B, MatchN y key → y.prio ≤ x.prio
def IsTop (L : List ItN) (m : ByteArray) (t : Int) : Prop := (∃ x ∈ L, x.mask = m ∧ x.prio = t) ∧ ∀ x ∈ L, x.mask = m → x.prio ≤ t
structure Heads (L : List ItN) (hs : List (ByteArray × Int)) : Prop where
  one : hs.Pairwise fun a b => a.1 ≠ b.1
  iff_ : ∀ m t, (m, t) ∈ hs ↔ IsTop L m t
def LooksE (L : List ItN) (key : ByteArray) (n : Nat) : Prop := ∃ A B, Heads L (A ++ B) ∧ (∀ h ∈ A, ∀ x ∈ L, MatchN x key → x.prio ≤ h.2) ∧ (∀ h ∈ B, ∃ x ∈ L, MatchN x key ∧ h.2 < x.prio) ∧ n = A.length
def MasksE (L : List ItN) (n : Nat) : Prop := ∃ hs, Heads L hs ∧ n = hs.length
theorem mem_all {s : SetN} {L : List ItN} (h : IsAll s L) {x : ItN} : x ∈ L ↔ ∃ p ∈ flatS s.gs, p.x = x := by
  obtain ⟨Ps, p1, _, rfl⟩ := h
  rw [List.mem_map]
  constructor
  · rintro ⟨p, hp, e⟩; exact ⟨p, p1.mem_iff.1 hp, e⟩
  · rintro ⟨p, hp, e⟩; exact ⟨p, p1.mem_iff.2 hp, e⟩
theorem find_of {s : SetN} {L : List ItN} (h : IsAll s L) {key : ByteArray} {o : Option PlN} (b : BestP (flatS s.gs) key o) : FindE L key (o.map (·.x)) := by
  cases o with
  | none =>
    intro x hx hm
    obtain ⟨p, hp, rfl⟩ := (mem_all h).1 hx
    exact b p hp hm
  | some p =>
    obtain ⟨Ps, p1, p2, rfl⟩ := h
    obtain ⟨b1, b2, b3⟩ := b
    obtain ⟨A, B, e⟩ := List.append_of_mem (p1.mem_iff.2 b1)
    subst e
    obtain ⟨q1, q2, q3⟩ := List.pairwise_append.1 p2
    refine ⟨b2, A.map (·.x), B.map (·.x), by simp, fun y hy hm => ?_, fun y hy hm => ?_⟩
    · obtain ⟨z, hz, rfl⟩ := List.mem_map.1 hy
      have := b3 z (p1.mem_iff.1 (List.mem_append_left _ hz)) hm
      have := q3 z hz p (.head _)
      show z.x.prio < p.x.prio
      omega
    · obtain ⟨z, hz, rfl⟩ := List.mem_map.1 hy
      have := b3 z (p1.mem_iff.1 (List.mem_append_right _ (.tail _ hz))) hm
      show z.x.prio ≤ p.x.prio
      omega
def headsOf (gs : List GrpN) : List (ByteArray × Int) := gs.map fun g => (g.mask, g.top)
theorem heads_of {s : SetN} {L : List ItN} (g : GoodS s) (h : IsAll s L) : Heads L (headsOf s.gs) where
  one := by
    unfold headsOf
    rw [List.pairwise_map]
    exact g.masks
  iff_ m t := by
    unfold headsOf
    rw [List.mem_map]
    constructor
    · rintro ⟨y, hy, e⟩
      obtain ⟨e1, e2⟩ : y.mask = m ∧ y.top = t := by simpa using e
      obtain ⟨gy, ry⟩ := g.good y hy
      obtain ⟨p, hp, hpt⟩ := top_mem gy ry
      refine ⟨⟨p.x, (mem_all h).2 ⟨p, List.mem_flatMap.2 ⟨y, hy, hp⟩, rfl⟩, by rw [(gy.mem_get hp).2, e1], by rw [hpt, e2]⟩, fun x hx hm => ?_⟩
      obtain ⟨q, hq, rfl⟩ := (mem_all h).1 hx
      obtain ⟨z, hz, hqz⟩ := List.mem_flatMap.1 hq
      have ez := ((g.good z hz).1.mem_get hqz).2
      have : z = y := by
        by_cases c : z = y
        · exact c
        · exfalso
          have mm := g.masks
          obtain ⟨i, hi⟩ := List.getElem?_of_mem hz
          obtain ⟨j, hj⟩ := List.getElem?_of_mem hy
          obtain ⟨hi1, hi2⟩ := List.getElem?_eq_some_iff.1 hi
          obtain ⟨hj1, hj2⟩ := List.getElem?_eq_some_iff.1 hj
          have pw := List.pairwise_iff_getElem.1 mm
          rcases Nat.lt_trichotomy i j with l | l | l
          · have := pw i j hi1 hj1 l
            rw [hi2, hj2] at this
            exact this (ez.symm.trans (hm.trans e1.symm))
          · subst l; rw [hi2] at hj2; exact c hj2
          · have := pw j i hj1 hi1 l
            rw [hi2, hj2] at this
            exact this (e1.trans (hm.symm.trans ez))
      subst this
      rw [← e2]
      exact top_ge (g.good z hz).1 hqz
    · rintro ⟨⟨x, hx, hm, hp⟩, hall⟩
      obtain ⟨q, hq, rfl⟩ := (mem_all h).1 hx
      obtain ⟨z, hz, hqz⟩ := List.mem_flatMap.1 hq
      obtain ⟨gz, rz⟩ := g.good z hz
      have ez := (gz.mem_get hqz).2
      refine ⟨z, hz, ?_⟩
      obtain ⟨p, hp2, hpt⟩ := top_mem gz rz
      have a := hall p.x ((mem_all h).2 ⟨p, List.mem_flatMap.2 ⟨z, hz, hp2⟩, rfl⟩) ((gz.mem_get hp2).2.trans (ez.symm.trans hm))
      have b := top_ge gz hqz
      have : z.top = t := by omega
      rw [this, ← ez, hm]
theorem looks_of {s : SetN} {L : List ItN} (g : GoodS s) (h : IsAll s L) {key : ByteArray} {j : Nat} (hj : j ≤ s.gs.length) (hall : ∀ i y, s.gs[i]? = some y → (i < j ↔ ∀ q ∈ flatS s.gs, MatchN q.x key → q.x.prio ≤ y.top)) : LooksE L key j := by
  have hd := heads_of g h
  have e : headsOf s.gs = headsOf (s.gs.take j) ++ headsOf (s.gs.drop j) := by unfold headsOf; rw [← List.map_append, List.take_append_drop]
  refine ⟨headsOf (s.gs.take j), headsOf (s.gs.drop j), by rw [← e]; exact hd, fun a ha x hx hm => ?_, fun a ha => ?_, by unfold headsOf; rw [List.length_map, List.length_take]; omega⟩
  · obtain ⟨y, hy, rfl⟩ := List.mem_map.1 ha
    obtain ⟨i, hi⟩ := List.getElem?_of_mem hy
    obtain ⟨q, hq, rfl⟩ := (mem_all h).1 hx
    rw [List.getElem?_take] at hi
    split at hi
    · rename_i c
      exact (hall i y hi).1 c q hq hm
    · cases hi
  · obtain ⟨y, hy, rfl⟩ := List.mem_map.1 ha
    obtain ⟨i, hi⟩ := List.getElem?_of_mem hy
    rw [List.getElem?_drop] at hi
    have n : ¬ ∀ q ∈ flatS s.gs, MatchN q.x key → q.x.prio ≤ y.top := fun c => by
      have := (hall (j + i) y hi).2 c
      omega
    by_cases c : ∃ q ∈ flatS s.gs, MatchN q.x key ∧ y.top < q.x.prio
    · obtain ⟨q, hq, hm, l⟩ := c
      exact ⟨q.x, (mem_all h).2 ⟨q, hq, rfl⟩, hm, l⟩
    · refine absurd (fun q hq hm => ?_) n
      by_cases d : q.x.prio ≤ y.top
      · exact d
      · exact absurd ⟨q, hq, hm, by omega⟩ c
theorem masks_of {s : SetN} {L : List ItN} (g : GoodS s) (h : IsAll s L) : MasksE L s.gs.length := ⟨_, heads_of g h, by unfold headsOf; rw [List.length_map]⟩
theorem len_of {s : SetN} {L : List ItN} (g : GoodS s) (h : IsAll s L) : s.items = L.length := by
  obtain ⟨Ps, p1, _, rfl⟩ := h
  rw [g.items, List.length_map, p1.length_eq]

end Go.Proofs.Ytjjgdnaejeejlaa
