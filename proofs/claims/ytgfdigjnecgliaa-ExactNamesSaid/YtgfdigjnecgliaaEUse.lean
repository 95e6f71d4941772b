/- Package exact's tables, by keys and numbers: what Put, Get, Del and Looks tell. No program is in sight. -/
import Derived.Test.YtgfdigjnecgliaaEMath
import Derived.Test.YtgfdigjnecgliaaHMath
namespace Go.Proofs.Ytgfdigjnecgliaa
set_option linter.unusedVariables false
open Tab

/-- A key's place among n slots. -/
def homeE (k : ByteArray) (n : Nat) : Nat := slotN (mixH (hashH k.data.toList)).toNat n
theorem homeE_lt : Home homeE := fun k n h => by
  have := slot_lt (h := (mixH (hashH k.data.toList)).toNat) (n := n) (BitVec.isLt _) h
  unfold homeE
  omega
abbrev SlotsE := Tab.Slots ByteArray Int
/-- Slots as they are between the calls. -/
structure GoodE (L : SlotsE) : Prop where
  inv : Inv homeE L
  half : 2 * cnt L ≤ L.length
  pow : ∃ j, L.length = 8 * 2 ^ j
  keys : ∀ k v, Has L k v → k.size < 1000000
theorem GoodE.eight {L : SlotsE} (g : GoodE L) : 8 ≤ L.length := by
  obtain ⟨j, e⟩ := g.pow
  have := Nat.one_le_two_pow (n := j)
  omega
theorem GoodE.new : GoodE (List.replicate 8 none) :=
  ⟨Inv.empty _, by rw [cnt_replicate]; omega, ⟨0, rfl⟩, fun k v ⟨p, hp⟩ => by rw [tk_replicate] at hp; cases hp⟩
theorem GoodE.free {L : SlotsE} (g : GoodE L) : ∃ f, f < L.length ∧ tk L f = none := cnt_free L (by have := g.half; have := g.eight; omega)
theorem GoodE.look {L : SlotsE} (g : GoodE L) (k : ByteArray) : ∃ p, IsLook homeE L k p := by
  obtain ⟨f, hf, e⟩ := g.free
  exact look_exists homeE_lt k hf e

/-- What Get tells. -/
def GetE (L : SlotsE) (k : ByteArray) (v : Int) (is : Bool) : Prop := (is = true ∧ Has L k v) ∨ (is = false ∧ v = 0 ∧ ∀ u, ¬ Has L k u)
theorem Tab.Has.one {L : SlotsE} (g : GoodE L) {k : ByteArray} {v u : Int} (h1 : Has L k v) (h2 : Has L k u) : v = u := by
  obtain ⟨p, hp⟩ := h1
  obtain ⟨q, hq⟩ := h2
  have := g.inv.key homeE_lt hp hq
  subst this
  rw [hp] at hq
  simp only [Option.some.injEq, Prod.mk.injEq] at hq
  exact hq.2
/-- What Looks tells. -/
def LooksE (L : SlotsE) (k : ByteArray) (n : Nat) : Prop := ∃ p, IsLook homeE L k p ∧ n = D L.length (homeE k L.length) p + 1
theorem LooksE.one {L : SlotsE} {k : ByteArray} {n m : Nat} (h1 : LooksE L k n) (h2 : LooksE L k m) : n = m := by
  obtain ⟨p, hp, rfl⟩ := h1
  obtain ⟨q, hq, rfl⟩ := h2
  rw [IsLook.unique homeE_lt hp hq]
theorem LooksE.short {L : SlotsE} {k : ByteArray} {n : Nat} (h : LooksE L k n) : 1 ≤ n ∧ n ≤ cnt L + 1 ∧ ((∃ v, Has L k v) → Inv homeE L → n ≤ cnt L) := by
  obtain ⟨p, hp, rfl⟩ := h
  obtain ⟨a, b⟩ := hp.short homeE_lt
  refine ⟨by omega, by omega, fun ⟨v, q, hq⟩ hi => b fun e => ?_⟩
  have := IsLook.unique homeE_lt hp (hi q k v hq)
  subst this
  rw [hq] at e; cases e

/-- What Put tells and makes. -/
inductive PutE (L : SlotsE) (k : ByteArray) (v : Int) : Int → Bool → SlotsE → Prop
  | had {p : Nat} {u : Int} : tk L p = some (k, u) → PutE L k v u true (L.set p (some (k, v)))
  | room {p : Nat} : IsLook homeE L k p → tk L p = none → 2 * (cnt L + 1) ≤ L.length → PutE L k v 0 false (L.set p (some (k, v)))
  | grow {N : SlotsE} {q : Nat} : (∀ u, ¬ Has L k u) → L.length < 2 * (cnt L + 1) → Moved homeE L (List.replicate (2 * L.length) none) N → IsLook homeE N k q → PutE L k v 0 false (N.set q (some (k, v)))
theorem has_set_new {L : SlotsE} {k : ByteArray} {v : Int} {p : Nat} (hp : p < L.length) (e : tk L p = none) (hn : ∀ u, ¬ Has L k u) (k2 : ByteArray) (v2 : Int) :
    Has (L.set p (some (k, v))) k2 v2 ↔ (k2 = k ∧ v2 = v) ∨ (k2 ≠ k ∧ Has L k2 v2) := by
  constructor
  · rintro ⟨q, hq⟩
    by_cases c : p = q
    · subst c
      rw [tk_set_self hp] at hq
      simp only [Option.some.injEq, Prod.mk.injEq] at hq
      exact .inl ⟨hq.1.symm, hq.2.symm⟩
    · rw [tk_set_ne c] at hq
      exact .inr ⟨fun x => by subst x; exact hn _ ⟨q, hq⟩, q, hq⟩
  · rintro (⟨rfl, rfl⟩ | ⟨ne, q, hq⟩)
    · exact ⟨p, tk_set_self hp⟩
    · have c : p ≠ q := fun x => by subst x; rw [e] at hq; cases hq
      exact ⟨q, by rw [tk_set_ne c]; exact hq⟩
theorem has_set_again {L : SlotsE} (hi : Inv homeE L) {k : ByteArray} {v u : Int} {p : Nat} (e : tk L p = some (k, u)) (k2 : ByteArray) (v2 : Int) :
    Has (L.set p (some (k, v))) k2 v2 ↔ (k2 = k ∧ v2 = v) ∨ (k2 ≠ k ∧ Has L k2 v2) := by
  have hp := tk_lt e
  constructor
  · rintro ⟨q, hq⟩
    by_cases c : p = q
    · subst c
      rw [tk_set_self hp] at hq
      simp only [Option.some.injEq, Prod.mk.injEq] at hq
      exact .inl ⟨hq.1.symm, hq.2.symm⟩
    · rw [tk_set_ne c] at hq
      exact .inr ⟨fun x => by subst x; exact c (hi.key homeE_lt e hq), q, hq⟩
  · rintro (⟨rfl, rfl⟩ | ⟨ne, q, hq⟩)
    · exact ⟨p, tk_set_self hp⟩
    · have c : p ≠ q := fun x => by
        subst x
        rw [e] at hq
        simp only [Option.some.injEq, Prod.mk.injEq] at hq
        exact ne hq.1.symm
      exact ⟨q, by rw [tk_set_ne c]; exact hq⟩
theorem Tab.IsLook.absent {L : SlotsE} (hi : Inv homeE L) {k : ByteArray} {p : Nat} (h : IsLook homeE L k p) (e : tk L p = none) (u : Int) : ¬ Has L k u := fun ⟨q, hq⟩ =>
  (hi.found homeE_lt h).1 e q u hq
theorem Tab.IsLook.none_of {L : SlotsE} {k : ByteArray} {p : Nat} (h : IsLook homeE L k p) (hn : ∀ u, ¬ Has L k u) : tk L p = none := by
  rcases h.here_ with e | ⟨v, e⟩
  · exact e
  · exact absurd ⟨p, e⟩ (hn v)
structure PutF (L : SlotsE) (k : ByteArray) (v was : Int) (had : Bool) (L' : SlotsE) : Prop where
  good : GoodE L'
  get : GetE L k was had
  has : ∀ k2 v2, Has L' k2 v2 ↔ (k2 = k ∧ v2 = v) ∨ (k2 ≠ k ∧ Has L k2 v2)
  cnt : cnt L' = cnt L + (if had = true then 0 else 1)
  len : L'.length = L.length ∨ (had = false ∧ L.length < 2 * (Tab.cnt L + 1) ∧ L'.length = 2 * L.length)
  room : had = true → L'.length = L.length
  fits : 2 * (Tab.cnt L + 1) ≤ L.length → L'.length = L.length
  more : had = false → L.length < 2 * (Tab.cnt L + 1) → L'.length = 2 * L.length
theorem PutE.facts {L L' : SlotsE} {k : ByteArray} {v was : Int} {had : Bool} (g : GoodE L) (hk : k.size < 1000000) (h : PutE L k v was had L') : PutF L k v was had L' := by
  cases h with
  | @had p u e =>
    have hp := tk_lt e
    have q := cnt_set L p (some (k, v)) hp
    rw [e] at q
    simp only [one] at q
    have hs := has_set_again g.inv (v := v) e
    refine ⟨⟨g.inv.again e v, by rw [List.length_set]; have := g.half; omega, by rw [List.length_set]; exact g.pow, fun k2 v2 h2 => ?_⟩, .inl ⟨rfl, p, e⟩, hs, by simp; omega, .inl (List.length_set ..), fun _ => List.length_set .., fun _ => List.length_set .., (fun h => by cases h)⟩
    rcases (hs k2 v2).1 h2 with ⟨rfl, _⟩ | ⟨_, h3⟩
    · exact hk
    · exact g.keys k2 v2 h3
  | @room p hl e hh =>
    have hp := hl.lt
    have q := cnt_set L p (some (k, v)) hp
    rw [e] at q
    simp only [one] at q
    have hn := IsLook.absent g.inv hl e
    have hs := has_set_new (v := v) hp e hn
    refine ⟨⟨g.inv.put hl e v, by rw [List.length_set]; omega, by rw [List.length_set]; exact g.pow, fun k2 v2 h2 => ?_⟩, .inr ⟨rfl, rfl, hn⟩, hs, by simp; omega, .inl (List.length_set ..), fun _ => List.length_set .., fun _ => List.length_set .., fun _ h => by omega⟩
    rcases (hs k2 v2).1 h2 with ⟨rfl, _⟩ | ⟨_, h3⟩
    · exact hk
    · exact g.keys k2 v2 h3
  | @grow N p hn hh hm hl =>
    obtain ⟨r1, r2, r3, r4⟩ := grow_inv homeE_lt g.inv hm
    have hp := hl.lt
    have hn2 : ∀ u, ¬ Has N k u := fun u h => hn u ((r4 k u).1 h)
    have e := hl.none_of hn2
    have q := cnt_set N p (some (k, v)) hp
    rw [e] at q
    simp only [one] at q
    have hs : ∀ k2 v2, Has (N.set p (some (k, v))) k2 v2 ↔ (k2 = k ∧ v2 = v) ∨ (k2 ≠ k ∧ Has L k2 v2) := fun k2 v2 => by
      rw [has_set_new (v := v) hp e hn2, r4]
    obtain ⟨j, hj⟩ := g.pow
    refine ⟨⟨r1.put hl e v, by rw [List.length_set]; have := g.half; have := g.eight; omega, ⟨j + 1, by rw [List.length_set, r2, hj, Nat.pow_succ]; omega⟩, fun k2 v2 h2 => ?_⟩, .inr ⟨rfl, rfl, hn⟩, hs, by simp; omega, .inr ⟨rfl, hh, by rw [List.length_set, r2]⟩, (fun h => by cases h), (fun h => by omega), fun _ _ => by rw [List.length_set, r2]⟩
    rcases (hs k2 v2).1 h2 with ⟨rfl, _⟩ | ⟨_, h3⟩
    · exact hk
    · exact g.keys k2 v2 h3

/-- What Del tells and leaves. -/
inductive DelE (L : SlotsE) (k : ByteArray) : Bool → SlotsE → Prop
  | no : (∀ u, ¬ Has L k u) → DelE L k false L
  | yes {p : Nat} {u : Int} : tk L p = some (k, u) → DelE L k true (shut homeE L.length (L.set p none) p (nx L.length p))
structure DelF (L : SlotsE) (k : ByteArray) (b : Bool) (L' : SlotsE) : Prop where
  good : GoodE L'
  was : b = true ↔ ∃ u, Has L k u
  has : ∀ k2 v2, Has L' k2 v2 ↔ Has L k2 v2 ∧ k2 ≠ k
  cnt : cnt L' + (if b = true then 1 else 0) = cnt L
  len : L'.length = L.length
theorem DelE.facts {L L' : SlotsE} {k : ByteArray} {b : Bool} (g : GoodE L) (h : DelE L k b L') : DelF L k b L' := by
  cases h with
  | no hn =>
    exact ⟨g, ⟨(fun h => by cases h), fun ⟨u, h⟩ => absurd h (hn u)⟩, fun k2 v2 => ⟨fun h => ⟨h, fun x => by subst x; exact hn _ h⟩, fun h => h.1⟩, by simp, rfl⟩
  | @yes p u e =>
    have hp := tk_lt e
    obtain ⟨f, hf, hfe⟩ := g.free
    obtain ⟨r1, r2⟩ := del_inv homeE_lt g.inv e hf hfe (Nat.le_refl _)
    have c := shut_cnt homeE L.length (L.set p none) p (nx L.length p) (by simpa using hp) (tk_set_self hp)
    have q := cnt_set L p none hp
    rw [e] at q
    simp only [one] at q
    have l := shut_length homeE L.length (L.set p none) p (nx L.length p)
    rw [List.length_set] at l
    exact ⟨⟨r1, by rw [c, l]; have := g.half; omega, by rw [l]; exact g.pow, fun k2 v2 h => g.keys k2 v2 ((r2 k2 v2).1 h).1⟩, ⟨fun _ => ⟨u, p, e⟩, fun _ => rfl⟩, r2, by rw [c, if_pos rfl]; omega, l⟩
/-- A key that was just put, without doubling, and taken out again: all is as it was. -/
theorem put_del {L M N : SlotsE} {k : ByteArray} {v was : Int} {b : Bool} (g : GoodE L) (hk : k.size < 1000000) (h : PutE L k v was false M) (hl : M.length = L.length) (h2 : DelE M k b N) : b = true ∧ N = L := by
  have f := h.facts g hk
  have hM : Has M k v := (f.has k v).2 (.inl ⟨rfl, rfl⟩)
  cases h with
  | @room p hlk e hh =>
    cases h2 with
    | no hn => exact absurd hM (hn v)
    | @yes q u e2 =>
      have hp := hlk.lt
      have : p = q := f.good.inv.key homeE_lt (tk_set_self hp) e2
      subst this
      refine ⟨rfl, ?_⟩
      have el : (L.set p (some (k, v))).set p none = L := by
        rw [List.set_set]
        apply List.ext_getElem?
        intro i
        rw [List.getElem?_set]
        by_cases c : p = i
        · subst c
          rw [if_pos rfl, if_pos hp]
          have : tk L p = none := e
          unfold tk at this
          rw [List.getElem?_eq_getElem hp] at this ⊢
          simp only [Option.getD_some] at this
          rw [this]
        · rw [if_neg c]
      rw [el]
      exact shut_back homeE_lt _ L p _ g.inv hp e
  | @grow N2 q hn hh hm hlk =>
    exfalso
    have e2 := hm.length
    rw [List.length_replicate] at e2
    rw [List.length_set, e2] at hl
    have := g.eight
    omega

/-- The keys, rising. -/
structure KeysE (L : SlotsE) (ks : List ByteArray) : Prop where
  mem : ∀ k, k ∈ ks ↔ ∃ v, Has L k v
  one : ks.Nodup
  len : ks.length = cnt L
def keysOf : SlotsE → List ByteArray
  | [] => []
  | none :: L => keysOf L
  | some (k, _) :: L => k :: keysOf L
theorem keysOf_length : ∀ L : SlotsE, (keysOf L).length = cnt L
  | [] => rfl
  | none :: L => keysOf_length L
  | some (k, v) :: L => by simp only [keysOf, cnt, List.length_cons, keysOf_length L]
theorem keysOf_append : ∀ L M : SlotsE, keysOf (L ++ M) = keysOf L ++ keysOf M
  | [], _ => rfl
  | none :: L, M => keysOf_append L M
  | some (k, v) :: L, M => by simp only [keysOf, List.cons_append, keysOf_append L M]
theorem mem_keysOf : ∀ (L : SlotsE) (k : ByteArray), k ∈ keysOf L ↔ ∃ v, Has L k v
  | [], k => ⟨fun h => (List.not_mem_nil h).elim, fun ⟨v, p, h⟩ => by simp [tk] at h⟩
  | x :: L, k => by
    have step : (∃ v, Has (x :: L) k v) ↔ (∃ v, x = some (k, v)) ∨ ∃ v, Has L k v := by
      constructor
      · rintro ⟨v, p, h⟩
        cases p with
        | zero => exact .inl ⟨v, h⟩
        | succ p => exact .inr ⟨v, p, h⟩
      · rintro (⟨v, rfl⟩ | ⟨v, p, h⟩)
        · exact ⟨v, 0, rfl⟩
        · exact ⟨v, p + 1, h⟩
    rw [step, ← mem_keysOf L k]
    cases x with
    | none => simp [keysOf]
    | some y =>
      obtain ⟨k2, v2⟩ := y
      simp only [keysOf, List.mem_cons, Option.some.injEq, Prod.mk.injEq]
      constructor
      · rintro (rfl | h)
        · exact .inl ⟨v2, rfl, rfl⟩
        · exact .inr h
      · rintro (⟨v, rfl, _⟩ | h)
        · exact .inl rfl
        · exact .inr h
theorem keysOf_nodup : ∀ (L : SlotsE), (∀ p q k v u, tk L p = some (k, v) → tk L q = some (k, u) → p = q) → (keysOf L).Nodup
  | [], _ => List.nodup_nil
  | none :: L, h => keysOf_nodup L fun p q k v u h1 h2 => by have := h (p + 1) (q + 1) k v u h1 h2; omega
  | some (k, v) :: L, h => by
    refine List.nodup_cons.2 ⟨fun m => ?_, keysOf_nodup L fun p q k v u h1 h2 => by have := h (p + 1) (q + 1) k v u h1 h2; omega⟩
    obtain ⟨u, p, hp⟩ := (mem_keysOf L k).1 m
    have := h 0 (p + 1) k v u rfl hp
    omega
theorem keysE_of {L : SlotsE} (g : GoodE L) {ks : List ByteArray} (p : ks.Perm (keysOf L)) : KeysE L ks where
  mem k := by rw [p.mem_iff, mem_keysOf]
  one := p.nodup_iff.2 (keysOf_nodup L fun p q k v u h1 h2 => g.inv.key homeE_lt h1 h2)
  len := by rw [p.length_eq, keysOf_length]
/-- How far all keys are looked for, together. -/
theorem KeysE.reach {L : SlotsE} (g : GoodE L) {ks : List ByteArray} (h : KeysE L ks) (f : ByteArray → Nat) (hf : ∀ k, k ∈ ks → LooksE L k (f k)) : 2 * (ks.map f).sum ≤ cnt L * (cnt L + 1) :=
  reach_sum homeE_lt g.inv (by have := g.half; have := g.eight; omega) ks f h.one fun k hk => by
    obtain ⟨v, p, hp⟩ := (h.mem k).1 hk
    obtain ⟨q, hq, e⟩ := hf k hk
    have := IsLook.unique homeE_lt hq (g.inv p k v hp)
    subst this
    exact ⟨q, v, hp, e⟩
theorem GoodE.get {L : SlotsE} (g : GoodE L) (k : ByteArray) : ∃ v is, GetE L k v is := by
  by_cases h : ∃ v, Has L k v
  · obtain ⟨v, h⟩ := h; exact ⟨v, true, .inl ⟨rfl, h⟩⟩
  · exact ⟨0, false, .inr ⟨rfl, rfl, fun u x => h ⟨u, x⟩⟩⟩
theorem GetE.one {L : SlotsE} (g : GoodE L) {k : ByteArray} {v u : Int} {a b : Bool} (h1 : GetE L k v a) (h2 : GetE L k u b) : v = u ∧ a = b := by
  rcases h1 with ⟨rfl, h1⟩ | ⟨rfl, rfl, h1⟩ <;> rcases h2 with ⟨rfl, h2⟩ | ⟨rfl, rfl, h2⟩
  · exact ⟨Has.one g h1 h2, rfl⟩
  · exact absurd h1 (h2 _)
  · exact absurd h2 (h1 _)
  · exact ⟨rfl, rfl⟩
theorem GetE.of_has {L M : SlotsE} {k : ByteArray} {v : Int} {b : Bool} (h : GetE L k v b) (e : ∀ u, Has M k u ↔ Has L k u) : GetE M k v b := by
  rcases h with ⟨rfl, h⟩ | ⟨rfl, rfl, h⟩
  · exact .inl ⟨rfl, (e v).2 h⟩
  · exact .inr ⟨rfl, rfl, fun u x => h u ((e u).1 x)⟩
end Go.Proofs.Ytgfdigjnecgliaa
