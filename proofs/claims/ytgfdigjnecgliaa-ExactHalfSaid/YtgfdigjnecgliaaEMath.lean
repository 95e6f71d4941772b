/- A table with open addressing: where a key is looked for, what is put, and taken out. No program is in sight. -/
import Derived.Test.YtgfdigjnecgliaaBase
namespace Go.Proofs.Ytgfdigjnecgliaa
set_option linter.unusedVariables false
namespace Tab
variable {K V : Type}

/-- How far b lies behind a, going round. -/
def D (n a b : Nat) : Nat := if a ≤ b then b - a else b + n - a
/-- The place j behind a, going round (j ≤ n). -/
def P (n a j : Nat) : Nat := if a + j < n then a + j else a + j - n
theorem D_lt {n a b : Nat} (ha : a < n) (hb : b < n) : D n a b < n := by unfold D; split <;> omega
theorem P_lt {n a j : Nat} (ha : a < n) (hj : j ≤ n) : P n a j < n := by unfold P; split <;> omega
theorem D_P {n a j : Nat} (ha : a < n) (hj : j < n) : D n a (P n a j) = j := by unfold D P; split <;> split <;> omega
theorem P_D {n a b : Nat} (ha : a < n) (hb : b < n) : P n a (D n a b) = b := by unfold D P; split <;> split <;> omega
theorem D_inj {n a b c : Nat} (ha : a < n) (hb : b < n) (hc : c < n) (h : D n a b = D n a c) : b = c := by
  rw [← P_D ha hb, ← P_D ha hc, h]
theorem D_self (n a : Nat) : D n a a = 0 := by unfold D; simp

abbrev Slots (K V : Type) := List (Option (K × V))
/-- What a slot holds. -/
def tk (L : Slots K V) (p : Nat) : Option (K × V) := (L[p]?).getD none
theorem tk_set (L : Slots K V) (p q : Nat) (x : Option (K × V)) : tk (L.set p x) q = if p = q ∧ p < L.length then x else tk L q := by
  unfold tk
  rw [List.getElem?_set]
  by_cases c : p = q
  · subst c
    by_cases d : p < L.length
    · simp [d]
    · simp [d]
  · simp [c]
theorem tk_set_self {L : Slots K V} {p : Nat} {x : Option (K × V)} (h : p < L.length) : tk (L.set p x) p = x := by rw [tk_set, if_pos ⟨rfl, h⟩]
theorem tk_set_ne {L : Slots K V} {p q : Nat} {x : Option (K × V)} (h : p ≠ q) : tk (L.set p x) q = tk L q := by rw [tk_set, if_neg (fun c => h c.1)]
theorem tk_replicate (n p : Nat) : tk (List.replicate n none : Slots K V) p = none := by
  unfold tk
  rw [List.getElem?_replicate]
  split <;> rfl
theorem tk_lt {L : Slots K V} {p : Nat} {x : K × V} (h : tk L p = some x) : p < L.length := by
  apply Decidable.byContradiction
  intro c
  unfold tk at h
  rw [List.getElem?_eq_none (by omega)] at h
  cases h

variable (H : K → Nat → Nat)
/-- The slot at which the going over for a key ends. -/
structure IsLook (L : Slots K V) (k : K) (p : Nat) : Prop where
  lt : p < L.length
  here_ : tk L p = none ∨ ∃ v, tk L p = some (k, v)
  path : ∀ q, q < L.length → D L.length (H k L.length) q < D L.length (H k L.length) p → ∃ k2 v2, tk L q = some (k2, v2) ∧ k2 ≠ k
/-- Each key lies where it is found. -/
def Inv (L : Slots K V) : Prop := ∀ p k v, tk L p = some (k, v) → IsLook H L k p
variable {H}
abbrev Home (H : K → Nat → Nat) : Prop := ∀ k n, 0 < n → H k n < n
theorem IsLook.unique (hH : Home H) {L : Slots K V} {k : K} {p q : Nat} (h : IsLook H L k p) (g : IsLook H L k q) : p = q := by
  have hn : 0 < L.length := Nat.lt_of_le_of_lt (Nat.zero_le _) h.lt
  have h0 := hH k L.length hn
  rcases Nat.lt_trichotomy (D L.length (H k L.length) p) (D L.length (H k L.length) q) with c | c | c
  · obtain ⟨k2, v2, e, ne⟩ := g.path p h.lt c
    rcases h.here_ with e2 | ⟨v, e2⟩
    · rw [e] at e2; cases e2
    · rw [e] at e2; simp only [Option.some.injEq, Prod.mk.injEq] at e2; exact absurd e2.1 ne
  · exact D_inj h0 h.lt g.lt c
  · obtain ⟨k2, v2, e, ne⟩ := h.path q g.lt c
    rcases g.here_ with e2 | ⟨v, e2⟩
    · rw [e] at e2; cases e2
    · rw [e] at e2; simp only [Option.some.injEq, Prod.mk.injEq] at e2; exact absurd e2.1 ne
theorem look_exists (hH : Home H) {L : Slots K V} (k : K) {f : Nat} (hf : f < L.length) (he : tk L f = none) : ∃ p, IsLook H L k p := by
  have hn : 0 < L.length := Nat.lt_of_le_of_lt (Nat.zero_le _) hf
  have h0 := hH k L.length hn
  have ex : ∃ j, j < L.length ∧ (tk L (P L.length (H k L.length) j) = none ∨ ∃ v, tk L (P L.length (H k L.length) j) = some (k, v)) :=
    ⟨D L.length (H k L.length) f, D_lt h0 hf, .inl (by rw [P_D h0 hf]; exact he)⟩
  have least : ∀ (p : Nat → Prop), (∃ j, p j) → ∃ j, p j ∧ ∀ i, i < j → ¬ p i := by
    intro p ⟨j, hj⟩
    induction j using Nat.strongRecOn with
    | _ j ih =>
      by_cases c : ∃ i, i < j ∧ p i
      · obtain ⟨i, hi, hp⟩ := c; exact ih i hi hp
      · exact ⟨j, hj, fun i hi hp => c ⟨i, hi, hp⟩⟩
  obtain ⟨j, ⟨hj, hs⟩, hm⟩ := least _ ex
  refine ⟨P L.length (H k L.length) j, P_lt h0 (by omega), hs, fun q hq hd => ?_⟩
  rw [D_P h0 hj] at hd
  have hq2 := hm _ hd
  rw [P_D h0 hq] at hq2
  cases e : tk L q with
  | none => exact absurd ⟨Nat.lt_trans hd hj, .inl e⟩ hq2
  | some x =>
    obtain ⟨k2, v2⟩ := x
    refine ⟨k2, v2, rfl, fun c => ?_⟩
    subst c
    exact hq2 ⟨Nat.lt_trans hd hj, .inr ⟨v2, e⟩⟩
theorem Inv.key (hH : Home H) {L : Slots K V} (h : Inv H L) {p q : Nat} {k : K} {v u : V} (h1 : tk L p = some (k, v)) (h2 : tk L q = some (k, u)) : p = q :=
  IsLook.unique hH (h p k v h1) (h q k u h2)
/-- What is found. -/
theorem Inv.found (hH : Home H) {L : Slots K V} (h : Inv H L) {k : K} {p : Nat} (l : IsLook H L k p) : (tk L p = none ↔ ∀ q v, tk L q ≠ some (k, v)) := by
  constructor
  · intro e q v e2
    have := IsLook.unique hH l (h q k v e2)
    subst this
    rw [e] at e2; cases e2
  · intro g
    rcases l.here_ with e | ⟨v, e⟩
    · exact e
    · exact absurd e (g p v)
/-- A new key, put at the first free slot. -/
theorem Inv.put {L : Slots K V} (h : Inv H L) {k : K} {p : Nat} (l : IsLook H L k p) (e : tk L p = none) (v : V) : Inv H (L.set p (some (k, v))) := by
  intro q k2 v2 hq
  have hql : q < L.length := by have := tk_lt hq; rwa [List.length_set] at this
  by_cases c : p = q
  · subst c
    rw [tk_set_self l.lt] at hq
    simp only [Option.some.injEq, Prod.mk.injEq] at hq
    obtain ⟨rfl, rfl⟩ := hq
    refine ⟨by rw [List.length_set]; exact l.lt, .inr ⟨v, tk_set_self l.lt⟩, fun r hr hd => ?_⟩
    rw [List.length_set] at hr hd
    have ne : p ≠ r := fun c => by subst c; omega
    rw [tk_set_ne ne]
    exact l.path r hr hd
  · rw [tk_set_ne c] at hq
    have g := h q k2 v2 hq
    refine ⟨by rw [List.length_set]; exact hql, .inr ⟨v2, by rw [tk_set_ne c]; exact hq⟩, fun r hr hd => ?_⟩
    rw [List.length_set] at hr hd
    by_cases d : p = r
    · subst d
      obtain ⟨k3, v3, e3, _⟩ := g.path p hr hd
      rw [e] at e3; cases e3
    · rw [tk_set_ne d]; exact g.path r hr hd
/-- A key that is there, with another number. -/
theorem Inv.again {L : Slots K V} (h : Inv H L) {k : K} {p : Nat} {u : V} (e : tk L p = some (k, u)) (v : V) : Inv H (L.set p (some (k, v))) := by
  have hl := tk_lt e
  intro q k2 v2 hq
  have g : IsLook H L k2 q := by
    by_cases c : p = q
    · subst c
      rw [tk_set_self hl] at hq
      simp only [Option.some.injEq, Prod.mk.injEq] at hq
      obtain ⟨rfl, rfl⟩ := hq
      exact h p k u e
    · rw [tk_set_ne c] at hq; exact h q k2 v2 hq
  refine ⟨by rw [List.length_set]; exact g.lt, .inr ⟨v2, hq⟩, fun r hr hd => ?_⟩
  rw [List.length_set] at hr hd
  obtain ⟨k3, v3, e3, ne⟩ := g.path r hr hd
  by_cases d : p = r
  · subst d
    rw [e] at e3
    simp only [Option.some.injEq, Prod.mk.injEq] at e3
    obtain ⟨rfl, rfl⟩ := e3
    exact ⟨k, v, tk_set_self hl, ne⟩
  · exact ⟨k3, v3, by rw [tk_set_ne d]; exact e3, ne⟩
theorem Inv.empty (n : Nat) : Inv H (List.replicate n none : Slots K V) := fun p k v h => by rw [tk_replicate] at h; cases h

/-! ### Taking out -/
def nx (n a : Nat) : Nat := if a + 1 < n then a + 1 else 0
/-- The slots behind the freed one, up to the next free one. -/
def shut (H : K → Nat → Nat) : Nat → Slots K V → Nat → Nat → Slots K V
  | 0, L, _, _ => L
  | m + 1, L, f, a => match tk L a with
    | none => L
    | some (k, v) => if D L.length (H k L.length) f < D L.length (H k L.length) a then shut H m ((L.set f (some (k, v))).set a none) a (nx L.length a) else shut H m L f (nx L.length a)
/-- A hole at f; all that has been gone over is ahead of a. -/
structure Hole (H : K → Nat → Nat) (L : Slots K V) (f a : Nat) : Prop where
  fl : f < L.length
  al : a < L.length
  ne : f ≠ a
  free : tk L f = none
  path : ∀ p k v, tk L p = some (k, v) → ∀ q, q < L.length → D L.length (H k L.length) q < D L.length (H k L.length) p → q ≠ f → ∃ k2 v2, tk L q = some (k2, v2) ∧ k2 ≠ k
  over : ∀ p k v, tk L p = some (k, v) → D L.length (H k L.length) f < D L.length (H k L.length) p → D L.length f a ≤ D L.length f p
  mid : ∀ q, q < L.length → 0 < D L.length f q → D L.length f q < D L.length f a → tk L q ≠ none
theorem Hole.key (hH : Home H) {L : Slots K V} {f a : Nat} (h : Hole H L f a) {p q : Nat} {k : K} {v u : V} (h1 : tk L p = some (k, v)) (h2 : tk L q = some (k, u)) : p = q := by
  have hp := tk_lt h1
  have hq := tk_lt h2
  have h0 := hH k L.length (Nat.lt_of_le_of_lt (Nat.zero_le _) hp)
  have np : p ≠ f := fun c => by subst c; rw [h.free] at h1; cases h1
  have nq : q ≠ f := fun c => by subst c; rw [h.free] at h2; cases h2
  rcases Nat.lt_trichotomy (D L.length (H k L.length) p) (D L.length (H k L.length) q) with c | c | c
  · obtain ⟨k2, v2, e, ne⟩ := h.path q k u h2 p hp c np
    rw [h1] at e
    simp only [Option.some.injEq, Prod.mk.injEq] at e
    exact absurd e.1.symm ne
  · exact D_inj h0 hp hq c
  · obtain ⟨k2, v2, e, ne⟩ := h.path p k v h1 q hq c nq
    rw [h2] at e
    simp only [Option.some.injEq, Prod.mk.injEq] at e
    exact absurd e.1.symm ne
/-- At a free slot it ends. -/
theorem Hole.end_ (hH : Home H) {L : Slots K V} {f a : Nat} (h : Hole H L f a) (e : tk L a = none) : Inv H L := by
  intro p k v hp
  have hpl := tk_lt hp
  have h0 := hH k L.length (Nat.lt_of_le_of_lt (Nat.zero_le _) hpl)
  refine ⟨hpl, .inr ⟨v, hp⟩, fun q hq hd => ?_⟩
  by_cases c : q = f
  · subst c
    have g := h.over p k v hp hd
    have npa : p ≠ a := fun c => by subst c; rw [e] at hp; cases hp
    have lt : D L.length (H k L.length) a < D L.length (H k L.length) p := by
      have := h.al; have := h.fl
      unfold D at *
      split at * <;> split at * <;> split at * <;> split at * <;> split at * <;> omega
    obtain ⟨k2, v2, e2, _⟩ := h.path p k v hp a h.al lt (Ne.symm h.ne)
    rw [e] at e2; cases e2
  · exact h.path p k v hp q hq hd c
theorem nx_lt {n a : Nat} (ha : a < n) : nx n a < n := by unfold nx; split <;> omega
theorem D_nx {n f a : Nat} (hf : f < n) (ha : a < n) (h : D n f a + 1 < n) : D n f (nx n a) = D n f a + 1 := by
  unfold D nx at *
  split at h <;> split <;> split <;> omega
theorem D_nx_self {n a : Nat} (ha : a < n) (h : 1 < n) : D n a (nx n a) = 1 := by
  unfold D nx
  split <;> split <;> omega
theorem D_pos {n f a : Nat} (hf : f < n) (ha : a < n) (h : f ≠ a) : 0 < D n f a := by unfold D; split <;> omega
/-- From f to e by a. -/
theorem D_way {n f a e : Nat} (hf : f < n) (ha : a < n) (he : e < n) (h : D n f a ≤ D n f e) : D n f e = D n f a + D n a e := by
  unfold D at *
  split at h <;> split at h <;> split <;> split <;> (try split) <;> omega
/-- A key that may stay. -/
theorem Hole.stay {L : Slots K V} {f a e : Nat} (h : Hole H L f a) {k : K} {v : V} (ha : tk L a = some (k, v)) (he : e < L.length) (hn : tk L e = none) (hfe : e ≠ f) (hw : D L.length f a ≤ D L.length f e)
    (c : ¬ D L.length (H k L.length) f < D L.length (H k L.length) a) : Hole H L f (nx L.length a) ∧ D L.length f (nx L.length a) ≤ D L.length f e := by
  have nea : e ≠ a := fun x => by subst x; rw [hn] at ha; cases ha
  have lt : D L.length f a < D L.length f e := by
    rcases Nat.lt_or_eq_of_le hw with x | x
    · exact x
    · exact absurd (D_inj h.fl h.al he x).symm nea
  have hm := D_lt h.fl he
  have e1 := D_nx h.fl h.al (by omega)
  have nf : f ≠ nx L.length a := fun x => by rw [← x, D_self] at e1; omega
  refine ⟨⟨h.fl, nx_lt h.al, nf, h.free, h.path, fun p k2 v2 hp hd => ?_, fun q hq h1 h2 => ?_⟩, by omega⟩
  · have g := h.over p k2 v2 hp hd
    rw [e1]
    rcases Nat.lt_or_eq_of_le g with x | x
    · exact x
    · have := D_inj h.fl h.al (tk_lt hp) x
      subst this
      rw [ha] at hp
      simp only [Option.some.injEq, Prod.mk.injEq] at hp
      obtain ⟨rfl, rfl⟩ := hp
      exact absurd hd c
  · rw [e1] at h2
    rcases Nat.lt_or_eq_of_le (Nat.le_of_lt_succ h2) with x | x
    · exact h.mid q hq h1 x
    · have := D_inj h.fl hq h.al x
      subst this
      rw [ha]; exact fun y => by cases y
/-- A key that moves into the hole. -/
theorem Hole.move (hH : Home H) {L : Slots K V} {f a e : Nat} (h : Hole H L f a) {k : K} {v : V} (ha : tk L a = some (k, v)) (he : e < L.length) (hn : tk L e = none) (hfe : e ≠ f)
    (c : D L.length (H k L.length) f < D L.length (H k L.length) a) : Hole H ((L.set f (some (k, v))).set a none) a (nx L.length a) := by
  have h0 := hH k L.length (Nat.lt_of_le_of_lt (Nat.zero_le _) h.al)
  have fl := h.fl
  have al := h.al
  have one : 1 < L.length := by have := h.ne; omega
  have s : ((L.set f (some (k, v))).set a none).length = L.length := by simp
  have al2 : a < (L.set f (some (k, v))).length := by simpa using al
  have ta : tk ((L.set f (some (k, v))).set a none) a = none := tk_set_self al2
  have tf : tk ((L.set f (some (k, v))).set a none) f = some (k, v) := by rw [tk_set_ne (Ne.symm h.ne), tk_set_self fl]
  have to : ∀ q, q ≠ f → q ≠ a → tk ((L.set f (some (k, v))).set a none) q = tk L q := fun q h1 h2 => by rw [tk_set_ne (Ne.symm h2), tk_set_ne (Ne.symm h1)]
  refine ⟨by rw [s]; exact al, by rw [s]; exact nx_lt al, fun x => ?_, ta, fun p k2 v2 hp q hq hd nq => ?_, fun p k2 v2 hp hd => ?_, fun q hq h1 h2 => ?_⟩
  · have := D_nx_self al one
    rw [← x, D_self] at this
    omega
  · rw [s] at hq hd
    by_cases pa : p = a
    · subst pa; rw [ta] at hp; cases hp
    by_cases pf : p = f
    · subst pf
      rw [tf] at hp
      simp only [Option.some.injEq, Prod.mk.injEq] at hp
      obtain ⟨rfl, rfl⟩ := hp
      have nqf : q ≠ p := fun x => by subst x; omega
      rw [to q nqf nq]
      exact h.path a k v ha q hq (by omega) nqf
    · rw [to p pf pa] at hp
      by_cases qf : q = f
      · subst qf
        refine ⟨k, v, tf, fun x => ?_⟩
        subst x
        exact pa (h.key hH hp ha)
      · rw [to q qf nq]
        exact h.path p k2 v2 hp q hq hd qf
  · rw [s] at hd ⊢
    rw [D_nx_self al one]
    have pl := tk_lt hp
    rw [s] at pl
    by_cases pa : p = a
    · subst pa; rw [ta] at hp; cases hp
    · exact D_pos al pl (Ne.symm pa)
  · rw [s] at hq h1 h2
    rw [D_nx_self al one] at h2
    omega
/-- A key is taken out: its slot is the hole. -/
theorem Inv.hole (hH : Home H) {L : Slots K V} (h : Inv H L) {p : Nat} {k : K} {v : V} (hp : tk L p = some (k, v)) (one : 1 < L.length) : Hole H (L.set p none) p (nx L.length p) := by
  have pl := tk_lt hp
  have e1 := D_nx_self pl one
  have to : ∀ q x, tk (L.set p none) q = some x → q ≠ p ∧ tk L q = some x := fun q x hq => by
    by_cases c : p = q
    · subst c; rw [tk_set_self pl] at hq; cases hq
    · rw [tk_set_ne c] at hq; exact ⟨Ne.symm c, hq⟩
  refine ⟨by rw [List.length_set]; exact pl, by rw [List.length_set]; exact nx_lt pl, fun x => ?_, tk_set_self pl, fun q k2 v2 hq r hr hd nr => ?_, fun q k2 v2 hq hd => ?_, fun q hq h1 h2 => ?_⟩
  · rw [← x, D_self] at e1; omega
  · rw [List.length_set] at hr hd
    obtain ⟨nq, hq⟩ := to q _ hq
    obtain ⟨k3, v3, e3, n3⟩ := (h q k2 v2 hq).path r hr hd
    exact ⟨k3, v3, by rw [tk_set_ne (Ne.symm nr)]; exact e3, n3⟩
  · rw [List.length_set] at hd ⊢
    obtain ⟨nq, hq⟩ := to q _ hq
    rw [e1]
    exact D_pos pl (tk_lt hq) (Ne.symm nq)
  · rw [List.length_set] at hq h1 h2
    rw [e1] at h2
    omega
/-- The keys and numbers that are there. -/
def Has (L : Slots K V) (k : K) (v : V) : Prop := ∃ p, tk L p = some (k, v)
theorem shut_length (H : K → Nat → Nat) : ∀ (m : Nat) (L : Slots K V) (f a : Nat), (shut H m L f a).length = L.length
  | 0, _, _, _ => rfl
  | m + 1, L, f, a => by
    unfold shut
    split
    · rfl
    · split
      · rw [shut_length H m]; simp
      · exact shut_length H m L _ _
theorem shut_inv (hH : Home H) : ∀ (m : Nat) (L : Slots K V) (f a e : Nat), Hole H L f a → e < L.length → tk L e = none → e ≠ f → D L.length f a ≤ D L.length f e → D L.length a e < m →
    Inv H (shut H m L f a) ∧ ∀ k v, Has (shut H m L f a) k v ↔ Has L k v
  | 0, _, _, _, _, _, _, _, _, _, hm => absurd hm (Nat.not_lt_zero _)
  | m + 1, L, f, a, e, h, he, hn, hfe, hw, hm => by
    unfold shut
    split
    · rename_i c
      exact ⟨h.end_ hH c, fun _ _ => Iff.rfl⟩
    · rename_i k v ha
      have nea : e ≠ a := fun x => by subst x; rw [hn] at ha; cases ha
      have dae := D_pos h.al he (Ne.symm nea)
      have de := D_lt h.al he
      have d1 : D L.length (nx L.length a) e < m := by
        have q := D_way h.al (nx_lt h.al) he (by rw [D_nx_self h.al (by omega)]; omega)
        rw [D_nx_self h.al (by omega)] at q
        omega
      split
      · rename_i c
        have s : ((L.set f (some (k, v))).set a none).length = L.length := by simp
        have g := h.move hH ha he hn hfe c
        have al2 : a < (L.set f (some (k, v))).length := by simpa using h.al
        obtain ⟨r1, r2⟩ := shut_inv hH m ((L.set f (some (k, v))).set a none) a (nx L.length a) e g (by rw [s]; exact he) (by rw [tk_set_ne (Ne.symm nea), tk_set_ne (Ne.symm hfe)]; exact hn) nea (by rw [s, D_nx_self h.al (by omega)]; omega) (by rw [s]; exact d1)
        refine ⟨r1, fun k2 v2 => (r2 k2 v2).trans ?_⟩
        constructor
        · rintro ⟨p, hp⟩
          by_cases pa : a = p
          · subst pa; rw [tk_set_self al2] at hp; cases hp
          rw [tk_set_ne pa] at hp
          by_cases pf : f = p
          · subst pf; rw [tk_set_self h.fl] at hp; exact ⟨a, by rw [ha, hp]⟩
          · rw [tk_set_ne pf] at hp; exact ⟨p, hp⟩
        · rintro ⟨p, hp⟩
          by_cases pa : a = p
          · subst pa; rw [ha] at hp; exact ⟨f, by rw [tk_set_ne (Ne.symm h.ne), tk_set_self h.fl]; exact hp⟩
          · have pf : f ≠ p := fun x => by subst x; rw [h.free] at hp; cases hp
            exact ⟨p, by rw [tk_set_ne pa, tk_set_ne pf]; exact hp⟩
      · rename_i c
        obtain ⟨g, g2⟩ := h.stay ha he hn hfe hw c
        exact shut_inv hH m L f (nx L.length a) e g he hn hfe g2 d1
/-- A key's taking out: the slots that come of it. -/
theorem del_inv (hH : Home H) {L : Slots K V} (h : Inv H L) {p e : Nat} {k : K} {v : V} (hp : tk L p = some (k, v)) (he : e < L.length) (hn : tk L e = none) {m : Nat} (hm : L.length ≤ m) :
    Inv H (shut H m (L.set p none) p (nx L.length p)) ∧ ∀ k2 v2, Has (shut H m (L.set p none) p (nx L.length p)) k2 v2 ↔ Has L k2 v2 ∧ k2 ≠ k := by
  have pl := tk_lt hp
  have nep : e ≠ p := fun x => by subst x; rw [hn] at hp; cases hp
  have one : 1 < L.length := by omega
  have s : (L.set p none).length = L.length := by simp
  obtain ⟨r1, r2⟩ := shut_inv hH m (L.set p none) p (nx L.length p) e (h.hole hH hp one) (by rw [s]; exact he) (by rw [tk_set_ne (Ne.symm nep)]; exact hn) nep (by rw [s, D_nx_self pl one]; exact D_pos pl he (Ne.symm nep)) (by rw [s]; exact Nat.lt_of_lt_of_le (D_lt (nx_lt pl) he) hm)
  refine ⟨r1, fun k2 v2 => (r2 k2 v2).trans ?_⟩
  constructor
  · rintro ⟨q, hq⟩
    by_cases c : p = q
    · subst c; rw [tk_set_self pl] at hq; cases hq
    · rw [tk_set_ne c] at hq
      refine ⟨⟨q, hq⟩, fun x => ?_⟩
      subst x
      exact c (h.key hH hp hq)
  · rintro ⟨⟨q, hq⟩, ne⟩
    have c : p ≠ q := fun x => by
      subst x
      rw [hp] at hq
      simp only [Option.some.injEq, Prod.mk.injEq] at hq
      exact ne hq.1.symm
    exact ⟨q, by rw [tk_set_ne c]; exact hq⟩
/-- A key that was just put, taken out again: nothing moves. -/
theorem shut_back (hH : Home H) : ∀ (m : Nat) (L : Slots K V) (f a : Nat), Inv H L → f < L.length → tk L f = none → shut H m L f a = L
  | 0, _, _, _, _, _, _ => rfl
  | m + 1, L, f, a, h, fl, hf => by
    unfold shut
    split
    · rfl
    · rename_i k v ha
      split
      · rename_i c
        obtain ⟨k2, v2, e2, _⟩ := (h a k v ha).path f fl c
        rw [hf] at e2; cases e2
      · exact shut_back hH m L f _ h fl hf
/-! ### How many -/
def cnt : Slots K V → Nat
  | [] => 0
  | none :: L => cnt L
  | some _ :: L => cnt L + 1
theorem cnt_le : ∀ (L : Slots K V), cnt L ≤ L.length
  | [] => Nat.le_refl _
  | none :: L => by have := cnt_le L; simp only [cnt, List.length_cons]; omega
  | some _ :: L => by have := cnt_le L; simp only [cnt, List.length_cons]; omega
theorem tk_cons_zero (x : Option (K × V)) (L : Slots K V) : tk (x :: L) 0 = x := rfl
theorem tk_cons_succ (x : Option (K × V)) (L : Slots K V) (p : Nat) : tk (x :: L) (p + 1) = tk L p := rfl
def one (x : Option (K × V)) : Nat := match x with
  | none => 0
  | some _ => 1
theorem cnt_cons (x : Option (K × V)) (L : Slots K V) : cnt (x :: L) = cnt L + one x := by cases x <;> rfl
theorem cnt_set : ∀ (L : Slots K V) (p : Nat) (x : Option (K × V)), p < L.length → cnt (L.set p x) + one (tk L p) = cnt L + one x
  | [], p, x, h => absurd h (Nat.not_lt_zero _)
  | y :: L, 0, x, h => by rw [List.set_cons_zero, cnt_cons, cnt_cons, tk_cons_zero]; omega
  | y :: L, p + 1, x, h => by
    have := cnt_set L p x (by simpa using h)
    rw [List.set_cons_succ, cnt_cons, cnt_cons, tk_cons_succ]
    omega
theorem cnt_free : ∀ (L : Slots K V), cnt L < L.length → ∃ f, f < L.length ∧ tk L f = none
  | [], h => absurd h (Nat.not_lt_zero _)
  | none :: L, _ => ⟨0, by simp, rfl⟩
  | some _ :: L, h => by
    obtain ⟨f, hf, e⟩ := cnt_free L (by simp only [cnt, List.length_cons] at h; omega)
    exact ⟨f + 1, by simpa using hf, e⟩
theorem cnt_replicate (n : Nat) : cnt (List.replicate n none : Slots K V) = 0 := by
  induction n with
  | zero => rfl
  | succ n ih => rw [List.replicate_succ]; exact ih
/-- Places that are taken, each once, are at most as many. -/
theorem taken_le : ∀ (ps : List Nat) (L : Slots K V), ps.Nodup → (∀ p, p ∈ ps → tk L p ≠ none) → ps.length ≤ cnt L
  | [], _, _, _ => Nat.zero_le _
  | p :: ps, L, hd, h => by
    rw [List.nodup_cons] at hd
    obtain ⟨x, hx⟩ : ∃ x, tk L p = some x := by
      cases e : tk L p with
      | none => exact absurd e (h p (.head _))
      | some x => exact ⟨x, rfl⟩
    have hl := tk_lt hx
    have q := cnt_set L p none hl
    rw [hx] at q
    have r := taken_le ps (L.set p none) hd.2 (fun y hy => by
      have ne : p ≠ y := fun c => by subst c; exact hd.1 hy
      rw [tk_set_ne ne]
      exact h y (.tail _ hy))
    simp only [one] at q
    rw [List.length_cons]
    omega
theorem places_nodup {n a d : Nat} (ha : a < n) (hd : d ≤ n) : ((List.range d).map (P n a)).Nodup := by
  unfold List.Nodup
  rw [List.pairwise_map]
  refine List.Pairwise.imp_of_mem ?_ List.nodup_range
  intro x y hx hy ne e
  rw [List.mem_range] at hx hy
  apply ne
  rw [← D_P ha (j := x) (by omega), e, D_P ha (by omega)]
/-- A key that is there is found within as many slots as there are keys. -/
theorem IsLook.short (hH : Home H) {L : Slots K V} {k : K} {p : Nat} (h : IsLook H L k p) : D L.length (H k L.length) p ≤ cnt L ∧ (tk L p ≠ none → D L.length (H k L.length) p + 1 ≤ cnt L) := by
  have h0 := hH k L.length (Nat.lt_of_le_of_lt (Nat.zero_le _) h.lt)
  have hd := D_lt h0 h.lt
  have way : ∀ d, d ≤ D L.length (H k L.length) p → ∀ y, y ∈ (List.range d).map (P L.length (H k L.length)) → tk L y ≠ none := by
    intro d hd2 y hy
    obtain ⟨j, hj, rfl⟩ := List.mem_map.1 hy
    rw [List.mem_range] at hj
    obtain ⟨k2, v2, e, _⟩ := h.path (P L.length (H k L.length) j) (P_lt h0 (by omega)) (by rw [D_P h0 (by omega)]; omega)
    rw [e]; exact fun c => by cases c
  constructor
  · have q := taken_le _ L (places_nodup h0 (by omega)) (way _ (Nat.le_refl _))
    rwa [List.length_map, List.length_range] at q
  · intro ht
    have q := taken_le ((List.range (D L.length (H k L.length) p + 1)).map (P L.length (H k L.length))) L (places_nodup h0 (by omega)) (fun y hy => by
      rw [List.range_succ, List.map_append, List.mem_append] at hy
      rcases hy with hy | hy
      · exact way _ (Nat.le_refl _) y hy
      · simp only [List.map_cons, List.map_nil, List.mem_singleton] at hy
        subst hy
        rw [P_D h0 h.lt]; exact ht)
    rwa [List.length_map, List.length_range] at q
theorem shut_cnt (H : K → Nat → Nat) : ∀ (m : Nat) (L : Slots K V) (f a : Nat), f < L.length → tk L f = none → cnt (shut H m L f a) = cnt L
  | 0, _, _, _, _, _ => rfl
  | m + 1, L, f, a, hf, he => by
    unfold shut
    split
    · rfl
    · rename_i k v ha
      have al := tk_lt ha
      split
      · have ne : f ≠ a := fun c => by subst c; rw [he] at ha; cases ha
        have al2 : a < (L.set f (some (k, v))).length := by simpa using al
        rw [shut_cnt H m _ a _ (by simpa using al) (tk_set_self al2)]
        have q1 := cnt_set L f (some (k, v)) hf
        have q2 := cnt_set (L.set f (some (k, v))) a none al2
        rw [he] at q1
        rw [tk_set_ne ne, ha] at q2
        simp only [one] at q1 q2
        omega
      · exact shut_cnt H m L f _ hf he

/-! ### Doubling -/
/-- Old keys are put, one by one. -/
inductive Moved (H : K → Nat → Nat) : Slots K V → Slots K V → Slots K V → Prop
  | nil (M : Slots K V) : Moved H [] M M
  | free {l M N : Slots K V} : Moved H l M N → Moved H (none :: l) M N
  | put {l M N : Slots K V} {k : K} {v : V} {p : Nat} : IsLook H M k p → Moved H l (M.set p (some (k, v))) N → Moved H (some (k, v) :: l) M N
theorem Moved.snoc_free {H : K → Nat → Nat} {l M N : Slots K V} (h : Moved H l M N) : Moved H (l ++ [none]) M N := by
  induction h with
  | nil M => exact .free (.nil M)
  | free _ ih => exact .free ih
  | put hl _ ih => exact .put hl ih
theorem Moved.snoc {H : K → Nat → Nat} {l M N : Slots K V} (h : Moved H l M N) {k : K} {v : V} {p : Nat} (g : IsLook H N k p) : Moved H (l ++ [some (k, v)]) M (N.set p (some (k, v))) := by
  induction h with
  | nil M => exact .put g (.nil _)
  | free _ ih => exact .free (ih g)
  | put hl _ ih => exact .put hl (ih g)
theorem Moved.length {H : K → Nat → Nat} {l M N : Slots K V} (h : Moved H l M N) : N.length = M.length := by
  induction h with
  | nil M => rfl
  | free _ ih => exact ih
  | put hl _ ih => rw [ih, List.length_set]
/-- Keys that are all unlike, and none of which is there yet. -/
theorem Moved.inv (hH : Home H) {l M N : Slots K V} (h : Moved H l M N) : Inv H M → (∀ i j k v u, tk l i = some (k, v) → tk l j = some (k, u) → i = j) → (∀ i k v u, tk l i = some (k, v) → ¬ Has M k u) →
    Inv H N ∧ cnt N = cnt M + cnt l ∧ ∀ k v, Has N k v ↔ Has M k v ∨ Has l k v := by
  induction h with
  | nil M => exact fun h _ _ => ⟨h, rfl, fun k v => ⟨.inl, fun x => x.elim id (fun ⟨p, hp⟩ => by simp [tk] at hp)⟩⟩
  | @free l M N _ ih =>
    intro h1 h2 h3
    obtain ⟨r1, r2, r3⟩ := ih h1 (fun i j k v u e1 e2 => by have := h2 (i + 1) (j + 1) k v u e1 e2; omega) (fun i k v u e => h3 (i + 1) k v u e)
    refine ⟨r1, r2, fun k v => (r3 k v).trans (or_congr_right ?_)⟩
    constructor
    · rintro ⟨p, hp⟩; exact ⟨p + 1, hp⟩
    · rintro ⟨p, hp⟩
      cases p with
      | zero => cases hp
      | succ p => exact ⟨p, hp⟩
  | @put l M N k v p hl _ ih =>
    intro h1 h2 h3
    have e : tk M p = none := by
      rcases hl.here_ with e | ⟨u, e⟩
      · exact e
      · exact absurd ⟨p, e⟩ (h3 0 k v u rfl)
    have hasP : ∀ k2 v2, Has (M.set p (some (k, v))) k2 v2 ↔ Has M k2 v2 ∨ (k2 = k ∧ v2 = v) := by
      intro k2 v2
      constructor
      · rintro ⟨q, hq⟩
        by_cases c : p = q
        · subst c
          rw [tk_set_self hl.lt] at hq
          simp only [Option.some.injEq, Prod.mk.injEq] at hq
          exact .inr ⟨hq.1.symm, hq.2.symm⟩
        · rw [tk_set_ne c] at hq; exact .inl ⟨q, hq⟩
      · rintro (⟨q, hq⟩ | ⟨rfl, rfl⟩)
        · have c : p ≠ q := fun x => by subst x; rw [e] at hq; cases hq
          exact ⟨q, by rw [tk_set_ne c]; exact hq⟩
        · exact ⟨p, tk_set_self hl.lt⟩
    obtain ⟨r1, r2, r3⟩ := ih (h1.put hl e v) (fun i j k v u e1 e2 => by have := h2 (i + 1) (j + 1) k v u e1 e2; omega) (fun i k2 v2 u e2 => by
      rw [hasP]
      rintro (x | ⟨rfl, rfl⟩)
      · exact h3 (i + 1) k2 v2 u e2 x
      · have := h2 0 (i + 1) k2 u v2 rfl e2
        omega)
    have q := cnt_set M p (some (k, v)) hl.lt
    rw [e] at q
    simp only [one] at q
    refine ⟨r1, by rw [r2]; simp only [cnt]; omega, fun k2 v2 => (r3 k2 v2).trans ?_⟩
    rw [hasP]
    constructor
    · rintro ((x | ⟨rfl, rfl⟩) | ⟨q, hq⟩)
      · exact .inl x
      · exact .inr ⟨0, rfl⟩
      · exact .inr ⟨q + 1, hq⟩
    · rintro (x | ⟨q, hq⟩)
      · exact .inl (.inl x)
      · cases q with
        | zero =>
          rw [tk_cons_zero] at hq
          simp only [Option.some.injEq, Prod.mk.injEq] at hq
          exact .inl (.inr ⟨hq.1.symm, hq.2.symm⟩)
        | succ q => exact .inr ⟨q, hq⟩
/-- The doubled slots. -/
theorem grow_inv (hH : Home H) {L N : Slots K V} (h : Inv H L) (m : Moved H L (List.replicate (2 * L.length) none) N) : Inv H N ∧ N.length = 2 * L.length ∧ cnt N = cnt L ∧ ∀ k v, Has N k v ↔ Has L k v := by
  obtain ⟨r1, r2, r3⟩ := m.inv hH (Inv.empty _) (fun i j k v u e1 e2 => h.key hH e1 e2) (fun i k v u _ ⟨p, hp⟩ => by rw [tk_replicate] at hp; cases hp)
  refine ⟨r1, by rw [m.length, List.length_replicate], by rw [r2, cnt_replicate]; omega, fun k v => (r3 k v).trans ?_⟩
  constructor
  · rintro (⟨p, hp⟩ | x)
    · rw [tk_replicate] at hp; cases hp
    · exact x
  · exact .inr
/-! ### How far all keys are looked for, together -/
theorem sum_distinct : ∀ (m : Nat) (rs : List Nat), rs.Nodup → (∀ r, r ∈ rs → 1 ≤ r ∧ r ≤ m) → 2 * rs.sum ≤ m * (m + 1)
  | 0, rs, _, h => by
    cases rs with
    | nil => simp
    | cons r rs => have := h r (.head _); omega
  | m + 1, rs, hd, h => by
    by_cases c : m + 1 ∈ rs
    · have q := (List.perm_cons_erase c).sum_nat
      rw [List.sum_cons] at q
      have r := sum_distinct m (rs.erase (m + 1)) (hd.erase _) (fun x hx => by
        have g := (hd.mem_erase_iff).1 hx
        have := h x g.2
        omega)
      have e : (m + 1) * (m + 1 + 1) = m * (m + 1) + 2 * (m + 1) := by rw [← Nat.add_mul, Nat.mul_comm]
      omega
    · have r := sum_distinct m rs hd (fun x hx => by
        have := h x hx
        have ne : x ≠ m + 1 := fun e => by subst e; exact c hx
        omega)
      have e : (m + 1) * (m + 1 + 1) = m * (m + 1) + 2 * (m + 1) := by rw [← Nat.add_mul, Nat.mul_comm]
      omega
theorem sum_mono {α : Type} (f g : α → Nat) : ∀ (l : List α), (∀ x, x ∈ l → f x ≤ g x) → (l.map f).sum ≤ (l.map g).sum
  | [], _ => Nat.le_refl _
  | x :: l, h => by
    have a := h x (.head _)
    have b := sum_mono f g l (fun y hy => h y (.tail _ hy))
    rw [List.map_cons, List.map_cons, List.sum_cons, List.sum_cons]
    omega
/-- Of the taken slots behind e: the how manieth. -/
def upto (L : Slots K V) (e p : Nat) : List Nat := (List.range L.length).filter fun q => decide (D L.length e q ≤ D L.length e p) && (tk L q).isSome
theorem mem_upto {L : Slots K V} {e p q : Nat} : q ∈ upto L e p ↔ q < L.length ∧ D L.length e q ≤ D L.length e p ∧ tk L q ≠ none := by
  unfold upto
  rw [List.mem_filter, List.mem_range, Bool.and_eq_true, decide_eq_true_eq, Option.isSome_iff_ne_none]
theorem upto_nodup (L : Slots K V) (e p : Nat) : (upto L e p).Nodup := List.Pairwise.filter _ List.nodup_range
theorem upto_le (L : Slots K V) (e p : Nat) : (upto L e p).length ≤ cnt L := taken_le _ L (upto_nodup L e p) fun q hq => (mem_upto.1 hq).2.2
theorem upto_lt {L : Slots K V} {e p r : Nat} (hr : r < L.length) (ht : tk L r ≠ none) (h : D L.length e p < D L.length e r) : (upto L e p).length < (upto L e r).length := by
  have nd : (r :: upto L e p).Nodup := List.nodup_cons.2 ⟨fun c => by have := (mem_upto.1 c).2.1; omega, upto_nodup L e p⟩
  have q := nd.length_le_of_subset (l₂ := upto L e r) (fun x hx => by
    rcases List.mem_cons.1 hx with rfl | hx
    · exact mem_upto.2 ⟨hr, Nat.le_refl _, ht⟩
    · obtain ⟨a, b, c⟩ := mem_upto.1 hx
      exact mem_upto.2 ⟨a, by omega, c⟩)
  rw [List.length_cons] at q
  exact q
theorem IsLook.upto (hH : Home H) {L : Slots K V} {k : K} {p e : Nat} (h : IsLook H L k p) (ht : tk L p ≠ none) (he : e < L.length) (hn : tk L e = none) : D L.length (H k L.length) p + 1 ≤ (upto L e p).length := by
  have h0 := hH k L.length (Nat.lt_of_le_of_lt (Nat.zero_le _) h.lt)
  have hd := D_lt h0 h.lt
  have ep : e ≠ p := fun c => by subst c; exact ht hn
  have far : D L.length (H k L.length) p < D L.length (H k L.length) e := by
    rcases Nat.lt_trichotomy (D L.length (H k L.length) p) (D L.length (H k L.length) e) with c | c | c
    · exact c
    · exact absurd (D_inj h0 h.lt he c).symm ep
    · obtain ⟨k2, v2, e2, _⟩ := h.path e he c
      rw [hn] at e2; cases e2
  have q := (places_nodup h0 (d := D L.length (H k L.length) p + 1) (by omega)).length_le_of_subset (l₂ := Tab.upto L e p) (fun y hy => by
    obtain ⟨j, hj, rfl⟩ := List.mem_map.1 hy
    rw [List.mem_range] at hj
    have hy2 := P_lt h0 (j := j) (by omega : j ≤ L.length)
    have dj := D_P h0 (j := j) (by omega)
    refine mem_upto.2 ⟨hy2, ?_, ?_⟩
    · obtain ⟨y, hyy⟩ : ∃ y, P L.length (H k L.length) j = y := ⟨_, rfl⟩
      rw [hyy] at hy2 dj ⊢
      have hp := h.lt
      unfold D at *
      split at dj <;> split at far <;> split at far <;> split at hj <;> split <;> split <;> omega
    · rcases Nat.lt_or_eq_of_le (Nat.le_of_lt_succ hj) with c | c
      · obtain ⟨k2, v2, e2, _⟩ := h.path _ hy2 (by rw [dj]; exact c)
        rw [e2]; exact fun c => by cases c
      · rw [c, P_D h0 h.lt]; exact ht)
  rwa [List.length_map, List.length_range] at q
theorem reach_sum (hH : Home H) {L : Slots K V} (h : Inv H L) (hf : cnt L < L.length) (ks : List K) (f : K → Nat) (hd : ks.Nodup) (hp : ∀ k, k ∈ ks → ∃ p v, tk L p = some (k, v) ∧ f k = D L.length (H k L.length) p + 1) :
    2 * (ks.map f).sum ≤ cnt L * (cnt L + 1) := by
  obtain ⟨e, he, hn⟩ := cnt_free L hf
  obtain ⟨g, hg⟩ : ∃ g : K → Nat, ∀ k, k ∈ ks → ∃ v, tk L (g k) = some (k, v) ∧ f k = D L.length (H k L.length) (g k) + 1 := by
    classical
    exact ⟨fun k => if hk : k ∈ ks then (hp k hk).choose else 0, fun k hk => by simp only [dif_pos hk]; exact (hp k hk).choose_spec⟩
  have taken : ∀ k, k ∈ ks → tk L (g k) ≠ none := fun k hk => by obtain ⟨v, e1, _⟩ := hg k hk; rw [e1]; exact fun c => by cases c
  have up : ∀ k, k ∈ ks → f k ≤ (upto L e (g k)).length := fun k hk => by
    obtain ⟨v, e1, e2⟩ := hg k hk
    rw [e2]
    exact (h _ k v e1).upto hH (taken k hk) he hn
  refine Nat.le_trans (Nat.mul_le_mul_left 2 (sum_mono f (fun k => (upto L e (g k)).length) ks up)) (sum_distinct _ _ ?_ fun r hr => ?_)
  · unfold List.Nodup
    rw [List.pairwise_map]
    refine List.Pairwise.imp_of_mem ?_ hd
    intro a b ha hb ne eq
    obtain ⟨v, e1, _⟩ := hg a ha
    obtain ⟨u, e2, _⟩ := hg b hb
    have la := tk_lt e1
    have lb := tk_lt e2
    rcases Nat.lt_trichotomy (D L.length e (g a)) (D L.length e (g b)) with c | c | c
    · have := upto_lt lb (taken b hb) c; omega
    · have := D_inj he la lb c
      rw [this, e2] at e1
      simp only [Option.some.injEq, Prod.mk.injEq] at e1
      exact ne e1.1.symm
    · have := upto_lt la (taken a ha) c; omega
  · obtain ⟨k, hk, rfl⟩ := List.mem_map.1 hr
    obtain ⟨v, e1, _⟩ := hg k hk
    refine ⟨?_, upto_le L e (g k)⟩
    exact List.length_pos_of_mem (mem_upto.2 ⟨tk_lt e1, Nat.le_refl _, taken k hk⟩)
end Tab
end Go.Proofs.Ytgfdigjnecgliaa
