/- Package graph: nodes of which two change their names; nodes without one of them; nodes of which one goes on elsewhere. No program is in sight. -/
import Derived.Test.YtilebacnjagneaaGMath
namespace Go.Proofs.Ytilebacnjagneaa
set_option linter.unusedVariables false

def turnG (other id : Int) : Int := if id = 1 then other else if id = other then 1 else id
theorem turnG_turnG (o a : Int) : turnG o (turnG o a) = a := by
  by_cases h : a = 1
  · subst h
    have e : turnG o 1 = o := by unfold turnG; rw [if_pos rfl]
    rw [e]
    unfold turnG
    by_cases k : o = 1
    · rw [if_pos k, k]
    · rw [if_neg k, if_pos rfl]
  · by_cases k : a = o
    · subst k
      have e : turnG a a = 1 := by unfold turnG; rw [if_neg h, if_pos rfl]
      rw [e]
      unfold turnG
      rw [if_pos rfl]
    · have e : turnG o a = a := by unfold turnG; rw [if_neg h, if_neg k]
      rw [e, e]
theorem turnG_inj {o a b : Int} (h : turnG o a = turnG o b) : a = b := by rw [← turnG_turnG o a, h, turnG_turnG]
theorem turnG_at (o : Int) : turnG o o = 1 := by
  unfold turnG
  by_cases k : o = 1
  · rw [if_pos k, k]
  · rw [if_neg k, if_pos rfl]
theorem turnG_in {o a : Int} (h : 1 ≤ o ∧ o ≤ 65534) : (0 ≤ a ∧ a ≤ 65535 → 0 ≤ turnG o a ∧ turnG o a ≤ 65535) ∧ (1 ≤ a ∧ a ≤ 65534 → 1 ≤ turnG o a ∧ turnG o a ≤ 65534) ∧ (a = 0 → turnG o a = 0) ∧ (a = 65535 → turnG o a = 65535) := by
  unfold turnG
  refine ⟨fun q => ?_, fun q => ?_, fun q => ?_, fun q => ?_⟩ <;> (split <;> (try split) <;> omega)
def renG (o : Int) (x : NodV) : NodV := { x with id := turnG o x.id, oth := turnG o x.oth, arms := x.arms.map fun p => (p.1, turnG o p.2) }
theorem renG_goes (o : Int) (x : NodV) : (renG o x).goes = x.goes.map (turnG o) := by
  unfold NodV.goes renG
  simp [List.map_map, Function.comp_def]
theorem riseAG_map (w : Nat) (f : Int → Int) : ∀ (l : List (Int × Int)) (p : Int), riseAG w p (l.map fun q => (q.1, f q.2)) = riseAG w p l
  | [], p => rfl
  | (v, n) :: l, p => by simp only [List.map_cons, riseAG, riseAG_map w f l v]
theorem renG_form {o : Int} (h : 1 ≤ o ∧ o ≤ 65534) {x : NodV} (hx : formG x = true) : formG (renG o x) = true := by
  have h1 := formG_id hx
  have h2 := formG_next hx
  simp only [formG, Bool.and_eq_true] at hx ⊢
  refine ⟨⟨⟨⟨⟨⟨?_, ?_⟩, hx.1.1.1.1.2⟩, hx.1.1.1.2⟩, hx.1.1.2⟩, ?_⟩, ?_⟩
  · exact decide_eq_true ((turnG_in (a := x.id) h).2.1 h1).1
  · exact decide_eq_true ((turnG_in (a := x.id) h).2.1 h1).2
  · have := hx.1.2
    unfold selF at this ⊢
    show (if x.sw = 0 then decide (x.so = 0) && decide ((x.arms.map fun p => (p.1, turnG o p.2)).length = 0) else decide (1 ≤ x.sw) && decide (x.sw ≤ 32) && decide (0 ≤ x.so) && decide (x.so ≤ 2048) && decide ((x.arms.map fun p => (p.1, turnG o p.2)).length ≤ 32) && riseAG x.sw.toNat (-1) (x.arms.map fun p => (p.1, turnG o p.2))) = true
    rw [List.length_map, riseAG_map]
    exact this
  · unfold nextF
    rw [renG_goes, List.all_eq_true]
    intro y hy
    obtain ⟨z, hz, rfl⟩ := List.mem_map.1 hy
    have := (turnG_in (a := z) h).1 (h2 z hz)
    simp [this.1, this.2]
/-- Nodes whose names have changed, in their new order. -/
structure PermG (o : Int) (L out : List NodV) : Prop where
  len : out.length = L.length
  sorted : SortedG out
  mem : ∀ y, y ∈ out ↔ ∃ x ∈ L, y = renG o x
theorem PermG.nil (o : Int) : PermG o [] [] := ⟨rfl, .nil, fun y => by simp⟩
theorem sorted_insert {out : List NodV} {k : Nat} {x : NodV} (h : SortedG out) (h1 : ∀ (j : Nat) (y : NodV), j < k → out[j]? = some y → y.id < x.id) (h2 : ∀ y, out[k]? = some y → ¬ y.id < x.id) (h3 : ∀ y ∈ out, y.id ≠ x.id) : SortedG (out.take k ++ x :: out.drop k) := by
  have hs := h
  unfold SortedG at hs
  rw [← List.take_append_drop k out] at hs
  obtain ⟨ha, hb, hab⟩ := List.pairwise_append.1 hs
  refine List.pairwise_append.2 ⟨ha, List.pairwise_cons.2 ⟨fun y hy => ?_, hb⟩, fun a haa b hbb => ?_⟩
  · have gt : ∀ y, out[k]? = some y → x.id < y.id := fun y hy => by
      have := h2 y hy
      have := h3 y (List.mem_of_getElem? hy)
      omega
    cases e : out.drop k with
    | nil => rw [e] at hy; cases hy
    | cons z l =>
      have hz : out[k]? = some z := by
        have : (out.drop k)[0]? = some z := by rw [e]; rfl
        rw [List.getElem?_drop] at this
        simpa using this
      rw [e] at hy hb
      rcases List.mem_cons.1 hy with rfl | hy
      · exact gt y hz
      · have := (List.pairwise_cons.1 hb).1 y hy
        have := gt z hz
        omega
  · rcases List.mem_cons.1 hbb with rfl | hbb
    · obtain ⟨j, hj⟩ := List.getElem?_of_mem haa
      have hl := (List.getElem?_eq_some_iff.1 hj).1
      rw [List.length_take] at hl
      rw [List.getElem?_take_of_lt (by omega)] at hj
      exact h1 j a (by omega) hj
    · exact hab a haa b hbb
theorem PermG.step {o : Int} {L out : List NodV} {x : NodV} {k : Nat} (h : PermG o L out) (hd : ∀ y ∈ L, y.id ≠ x.id) (h1 : ∀ (j : Nat) (y : NodV), j < k → out[j]? = some y → y.id < (renG o x).id) (h2 : ∀ y, out[k]? = some y → ¬ y.id < (renG o x).id) : PermG o (L ++ [x]) (out.take k ++ renG o x :: out.drop k) where
  len := by
    have := congrArg List.length (List.take_append_drop k out)
    rw [List.length_append] at this
    rw [List.length_append, List.length_cons, List.length_append, ← h.len]
    simp only [List.length_cons, List.length_nil]
    omega
  sorted := sorted_insert h.sorted h1 h2 fun y hy e => by
    obtain ⟨z, hz, rfl⟩ := (h.mem y).1 hy
    exact hd z hz (turnG_inj e)
  mem y := by
    have := h.mem y
    rw [← List.take_append_drop k out] at this
    simp only [List.mem_append, List.mem_cons, List.not_mem_nil, or_false] at this ⊢
    constructor
    · rintro (h | h | h)
      · obtain ⟨z, hz, e⟩ := this.1 (.inl h); exact ⟨z, .inl hz, e⟩
      · exact ⟨x, .inr rfl, h⟩
      · obtain ⟨z, hz, e⟩ := this.1 (.inr h); exact ⟨z, .inl hz, e⟩
    · rintro ⟨z, hz | rfl, e⟩
      · rcases this.2 ⟨z, hz, e⟩ with h | h
        · exact .inl h
        · exact .inr (.inr h)
      · exact .inr (.inl e)
theorem PermG.find {o : Int} {L out : List NodV} (h : PermG o L out) (hs : SortedG L) (j : Int) : nodeG out (turnG o j) = (nodeG L j).map (renG o) := by
  cases q : nodeG L j with
  | none =>
    refine nodeG_none.2 fun y hy e => ?_
    obtain ⟨x, hx, rfl⟩ := (h.mem y).1 hy
    exact nodeG_none.1 q x hx (turnG_inj e)
  | some x =>
    obtain ⟨hx, rfl⟩ := nodeG_mem q
    exact h.sorted.find ((h.mem _).2 ⟨x, hx, rfl⟩)
theorem maxG_map (g : Int → Option Nat) (f : Int → Int) : ∀ l : List Int, maxG g (l.map f) = maxG (fun y => g (f y)) l
  | [] => rfl
  | y :: l => by simp only [List.map_cons, maxG, maxG_map g f l]
theorem PermG.dep {o : Int} {L out : List NodV} (h : PermG o L out) (hs : SortedG L) : ∀ (f : Nat) (j : Int), depF out f (turnG o j) = depF L f j
  | 0, j => rfl
  | f + 1, j => by
    unfold depF
    rw [h.find hs j]
    cases nodeG L j with
    | none => rfl
    | some x =>
      show (maxG (depF out f) (renG o x).goes).map (· + 1) = _
      rw [renG_goes, maxG_map]
      have e : (fun y => depF out f (turnG o y)) = depF L f := funext fun y => h.dep hs f y
      rw [e]
theorem toldG_iff {L : List NodV} : toldG L = true ↔ ∀ x ∈ L, ∀ y ∈ x.goes, y = 0 ∨ y = 65535 ∨ ∃ z, nodeG L y = some z := by
  unfold toldG
  simp only [List.all_eq_true, Bool.or_eq_true, decide_eq_true_eq, Option.isSome_iff_exists]
  constructor
  · intro h x hx y hy
    rcases h x hx y hy with (h | h) | h
    · exact .inl h
    · exact .inr (.inl h)
    · exact .inr (.inr h)
  · intro h x hx y hy
    rcases h x hx y hy with h | h | h
    · exact .inl (.inl h)
    · exact .inl (.inr h)
    · exact .inr h
theorem PermG.valid {o : Int} {L out : List NodV} (h : PermG o L out) (ho : 1 ≤ o ∧ o ≤ 65534) (hv : Valid L) : Valid out where
  form := formsG_of h.sorted fun y hy => by
    obtain ⟨x, hx, rfl⟩ := (h.mem y).1 hy
    have hf := (formsG_mem hv.form x hx).1
    exact ⟨renG_form ho hf, by have := ((turnG_in (a := x.id) ho).2.1 (formG_id hf)).1; show 0 < turnG o x.id; omega⟩
  few := by rw [h.len]; exact hv.few
  told := toldG_iff.2 fun y hy t ht => by
    obtain ⟨x, hx, rfl⟩ := (h.mem y).1 hy
    rw [renG_goes] at ht
    obtain ⟨s, hs, rfl⟩ := List.mem_map.1 ht
    rcases toldG_iff.1 hv.told x hx s hs with e | e | ⟨z, e⟩
    · exact .inl ((turnG_in ho).2.2.1 e)
    · exact .inr (.inl ((turnG_in ho).2.2.2 e))
    · exact .inr (.inr ⟨renG o z, by rw [h.find (formsG_sorted hv.form), e]; rfl⟩)
  acyc y hy := by
    obtain ⟨x, hx, rfl⟩ := (h.mem y).1 hy
    obtain ⟨n, f, hf⟩ := hv.acyc x hx
    exact ⟨n, f, by rw [← hf]; exact h.dep (formsG_sorted hv.form) f x.id⟩
theorem PermG.long {o : Int} {L out : List NodV} (h : PermG o L out) (ho : 1 ≤ o ∧ o ≤ 65534) (hv : Valid L) {d : Nat} (hd : Dep L o d) : LongG out d := by
  obtain ⟨f, hf⟩ := hd
  exact .inl ⟨(h.valid ho hv).may, f, by rw [← hf, ← h.dep (formsG_sorted hv.form) f o, turnG_at]⟩

/-! ### One node less -/
structure LessG (L M : List NodV) (x : NodV) : Prop where
  sub : ∃ a b, L = a ++ x :: b ∧ M = a ++ b
theorem less_of {L : List NodV} {k : Nat} {x : NodV} (h : L[k]? = some x) : LessG L (L.take k ++ L.drop (k + 1)) x := by
  have hl := (List.getElem?_eq_some_iff.1 h).1
  refine ⟨L.take k, L.drop (k + 1), ?_, rfl⟩
  have e : L.drop k = x :: L.drop (k + 1) := by
    rw [List.drop_eq_getElem_cons hl, (List.getElem?_eq_some_iff.1 h).2]
  rw [← e, List.take_append_drop]
theorem LessG.mem {L M : List NodV} {x : NodV} (h : LessG L M x) : x ∈ L ∧ ∀ y ∈ M, y ∈ L := by
  obtain ⟨a, b, rfl, rfl⟩ := h.sub
  refine ⟨by simp, fun y hy => ?_⟩
  rcases List.mem_append.1 hy with hy | hy
  · exact List.mem_append_left _ hy
  · exact List.mem_append_right _ (.tail _ hy)
theorem LessG.out {L M : List NodV} {x : NodV} (h : LessG L M x) (hs : SortedG L) : ∀ y ∈ M, y.id ≠ x.id := by
  obtain ⟨a, b, rfl, rfl⟩ := h.sub
  obtain ⟨_, hb, hab⟩ := List.pairwise_append.1 hs
  intro y hy
  rcases List.mem_append.1 hy with hy | hy
  · have := hab y hy x (.head _); omega
  · have := (List.pairwise_cons.1 hb).1 y hy; omega
theorem LessG.sorted {L M : List NodV} {x : NodV} (h : LessG L M x) (hs : SortedG L) : SortedG M := by
  obtain ⟨a, b, rfl, rfl⟩ := h.sub
  obtain ⟨ha, hb, hab⟩ := List.pairwise_append.1 hs
  exact List.pairwise_append.2 ⟨ha, (List.pairwise_cons.1 hb).2, fun u hu v hv => hab u hu v (.tail _ hv)⟩
theorem LessG.find {L M : List NodV} {x : NodV} (h : LessG L M x) {id : Int} (hi : id ≠ x.id) : nodeG M id = nodeG L id := by
  obtain ⟨a, b, rfl, rfl⟩ := h.sub
  rw [nodeG_append, nodeG_append]
  cases nodeG a id with
  | some y => rfl
  | none =>
    show nodeG b id = nodeG (x :: b) id
    conv => rhs; unfold nodeG
    rw [if_neg (fun e => hi e.symm)]
theorem LessG.len {L M : List NodV} {x : NodV} (h : LessG L M x) : M.length + 1 = L.length := by
  obtain ⟨a, b, rfl, rfl⟩ := h.sub
  simp only [List.length_append, List.length_cons]; omega
theorem LessG.form {L M : List NodV} {x : NodV} (h : LessG L M x) (hf : formsG 0 L = true) : formsG 0 M = true :=
  formsG_of (h.sorted (formsG_sorted hf)) fun y hy => formsG_mem hf y (h.mem.2 y hy)
def NamedG (M : List NodV) (id : Int) : Prop := ∃ y ∈ M, id ∈ y.goes
theorem LessG.dep {L M : List NodV} {x : NodV} (h : LessG L M x) (hn : ¬ NamedG M x.id) : ∀ (f : Nat) (id : Int), id ≠ x.id → depF M f id = depF L f id
  | 0, id, _ => rfl
  | f + 1, id, hi => by
    unfold depF
    rw [h.find hi]
    cases q : nodeG L id with
    | none => rfl
    | some y =>
      have hy : y ∈ M := by
        rw [← h.find hi] at q
        exact (nodeG_mem q).1
      have : ∀ l : List Int, (∀ t ∈ l, t ∈ y.goes) → maxG (depF M f) l = maxG (depF L f) l := by
        intro l
        induction l with
        | nil => intro _; rfl
        | cons t l ih =>
          intro hl
          unfold maxG
          rw [ih fun s hs => hl s (.tail _ hs), h.dep hn f t (fun e => hn ⟨y, hy, e ▸ hl t (.head _)⟩)]
      show (maxG (depF M f) y.goes).map (· + 1) = (maxG (depF L f) y.goes).map (· + 1)
      rw [this y.goes fun t ht => ht]
theorem LessG.ref {L M : List NodV} {x : NodV} (h : LessG L M x) (hv : Valid L) (hn : NamedG M x.id) : mayG M = 8 := by
  refine mayG_ref (h.form hv.form) (by have := h.len; have := hv.few; omega) (Bool.eq_false_iff.2 fun q => ?_)
  obtain ⟨y, hy, hg⟩ := hn
  have hx := formG_id (formsG_mem hv.form x h.mem.1).1
  rcases toldG_iff.1 q y hy _ hg with e | e | ⟨z, e⟩
  · omega
  · omega
  · have := nodeG_mem e
    exact h.out (formsG_sorted hv.form) z this.1 this.2
theorem LessG.valid {L M : List NodV} {x : NodV} (h : LessG L M x) (hv : Valid L) (hn : ¬ NamedG M x.id) : Valid M where
  form := h.form hv.form
  few := by have := h.len; have := hv.few; omega
  told := toldG_iff.2 fun y hy t ht => by
    rcases toldG_iff.1 hv.told y (h.mem.2 y hy) t ht with e | e | ⟨z, e⟩
    · exact .inl e
    · exact .inr (.inl e)
    · exact .inr (.inr ⟨z, by rw [h.find (fun q => hn ⟨y, hy, q ▸ ht⟩)]; exact e⟩)
  acyc y hy := by
    obtain ⟨n, f, hf⟩ := hv.acyc y (h.mem.2 y hy)
    exact ⟨n, f, by rw [h.dep hn f y.id (h.out (formsG_sorted hv.form) y hy)]; exact hf⟩

end Go.Proofs.Ytilebacnjagneaa
