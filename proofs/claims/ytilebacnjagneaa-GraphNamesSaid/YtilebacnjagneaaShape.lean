/- Values of any type made of numbers, flags, texts, rows and structs that come in: what their cells hold. No program is in sight. -/
import Derived.Test.YtilebacnjagneaaBase
import Derived.Deep.Slices
import Derived.WideKeyArgs
import Derived.ChangeArms
import Derived.WideShapes
namespace Go.Proofs.Ytilebacnjagneaa
set_option linter.unusedVariables false
open Go.ChangeShapes Go.WideShapes Go.RowKit Go.Deep

/-- What a type is made of. -/
inductive Sh where
  | int (k : IntKind)
  | bool
  | str
  | row (s : Sh)
  | tup (fs : List Sh)
mutual
def Sh.size : Sh → Nat
  | .int _ => 1
  | .bool => 1
  | .str => 1
  | .row _ => 1
  | .tup fs => Sh.sizes fs
def Sh.sizes : List Sh → Nat
  | [] => 0
  | s :: r => s.size + Sh.sizes r
end
mutual
def Sh.fits (P : Program) : Sh → TypeId → Bool
  | .int k, t => match P.underlying t with
    | some (.int k') => decide (k' = k)
    | _ => false
  | .bool, t => match P.underlying t with
    | some .bool => true
    | _ => false
  | .str, t => match P.underlying t with
    | some .string => true
    | _ => false
  | .row s, t => match P.underlying t with
    | some (.slice e) => P.cellsOf e == s.size && s.fits P e
    | _ => false
  | .tup fs, t => match P.underlying t with
    | some (.struct F) => P.cellsOf t == Sh.sizes fs && Sh.fitsAll P fs 0 F.toList
    | _ => false
def Sh.fitsAll (P : Program) : List Sh → Nat → List Field → Bool
  | [], _, [] => true
  | s :: r, off, f :: q => f.offset == off && P.cellsOf f.type == s.size && s.fits P f.type && Sh.fitsAll P r (off + s.size) q
  | _, _, _ => false
end
/-- The elements that a slice holds, each so many cells. -/
structure RowAt (w : World) (A : Option Addr) (size : Nat) (l : List (List Value)) : Prop where
  none_ : A = none → l = []
  cell : ∀ a, A = some a → ∀ j x, l[j]? = some x → x.length = size ∧ ∀ i v, x[i]? = some v → w.cell? ((a.add (j * size)).add i) = some v
theorem RowAt.on {W w : World} {A : Option Addr} {size : Nat} {l : List (List Value)} (h : RowAt W A size l) (g : Wider W w) : RowAt w A size l :=
  ⟨h.none_, fun a e j x hx => ⟨(h.cell a e j x hx).1, fun i v hv => wkeep g ((h.cell a e j x hx).2 i v hv)⟩⟩
mutual
def Sh.ok (w : World) : Sh → List Value → Prop
  | .int k, cs => ∃ n, cs = [.int k n] ∧ (Lit.int k n).wf = true
  | .bool, cs => ∃ b, cs = [.bool b]
  | .str, cs => ∃ s : ByteArray, cs = [.string s] ∧ s.size ≤ maxLen
  | .row s, cs => ∃ (A : Option Addr) (len cap : Nat) (l : List (List Value)), cs = [.slice A len cap] ∧ l.length = len ∧ len ≤ cap ∧ cap ≤ maxLen ∧ RowAt w A s.size l ∧ ∀ x ∈ l, s.ok w x
  | .tup fs, cs => Sh.oks w fs cs
def Sh.oks (w : World) : List Sh → List Value → Prop
  | [], cs => cs = []
  | s :: r, cs => ∃ a b, cs = a ++ b ∧ s.ok w a ∧ Sh.oks w r b
end
variable {H : Type} {enc : TypeId × Value → H} {P : Program} {w : World} {base : Nat}
mutual
theorem Sh.open : ∀ (s : Sh) (t : TypeId) (fuel : Nat) (cs : List Value) (x : DataW H × List MemPlace), s.fits P t = true → DataW.trod enc P w base (fun _ => true) true fuel t cs = some x → s.ok w cs
  | .int k, t, fuel, cs, x, hf, h => by
    unfold Sh.fits at hf
    split at hf
    · rename_i k' hu
      obtain rfl := of_decide_eq_true hf
      obtain ⟨n, rfl, _, wn⟩ := DataW.trod_int hu h
      exact ⟨n, rfl, wn⟩
    · cases hf
  | .bool, t, fuel, cs, x, hf, h => by
    unfold Sh.fits at hf
    split at hf
    · rename_i hu
      obtain ⟨b, rfl, _⟩ := DataW.trod_bool hu h
      exact ⟨b, rfl⟩
    · cases hf
  | .str, t, fuel, cs, x, hf, h => by
    unfold Sh.fits at hf
    split at hf
    · rename_i hu
      obtain ⟨b, rfl, _, wn⟩ := DataW.trod_string hu h
      exact ⟨b, rfl, wn⟩
    · cases hf
  | .row s, t, fuel, cs, x, hf, h => by
    unfold Sh.fits at hf
    split at hf
    · rename_i e hu
      simp only [Bool.and_eq_true, beq_iff_eq] at hf
      obtain ⟨hc, hs⟩ := hf
      have ih := fun (n : Nat) (cs : List Value) (x : DataW H × List MemPlace) => Sh.open s e n cs x hs
      unfold Sh.ok
      rcases open_slice hu h with ⟨rfl, _⟩ | ⟨a, len, cap, m, n, D, Pl, rfl, hb, hl, hm, hmm, _, hi⟩
      · exact ⟨none, 0, 0, [], rfl, rfl, Nat.le_refl _, Nat.zero_le _, ⟨fun _ => rfl, fun a e => by cases e⟩, fun x hx => by cases hx⟩
      · simp only [if_true] at hmm
        subst hmm
        rw [hc] at hi
        have hk : ∀ i, i < len → ∃ cs', s.ok w cs' ∧ cs'.length = s.size ∧ ∀ j v, cs'[j]? = some v → w.cell? ((a.add (i * s.size)).add j) = some v := by
          intro i hlt
          obtain ⟨cs', h1, h2⟩ := hi i (by omega)
          obtain ⟨_, hcl, hat⟩ := World.cells?_some h1
          refine ⟨cs', ih _ _ _ h2, hcl, fun j v hv => ?_⟩
          have hj : j < cs'.length := (List.getElem?_eq_some_iff.1 hv).1
          rw [hat j (by omega)]; exact hv
        obtain ⟨F, hF⟩ := choose_lt (α := List Value) (p := fun i cs' => s.ok w cs' ∧ cs'.length = s.size ∧ ∀ j v, cs'[j]? = some v → w.cell? ((a.add (i * s.size)).add j) = some v) hk
        refine ⟨some a, len, m, (List.range len).map F, rfl, by simp, hl, hm, ⟨(fun e => by cases e), fun b e j x hx => ?_⟩, fun x hx => ?_⟩
        · obtain rfl : a = b := by injection e
          rw [List.getElem?_map] at hx
          by_cases c : j < len
          · rw [List.getElem?_range c] at hx
            simp only [Option.map_some, Option.some.injEq] at hx
            rw [← hx]; exact (hF j c).2
          · rw [List.getElem?_eq_none (by simpa using c)] at hx
            cases hx
        · obtain ⟨i, hi2, rfl⟩ := List.mem_map.1 hx
          exact (hF i (List.mem_range.1 hi2)).1
    · cases hf
  | .tup fs, t, fuel, cs, x, hf, h => by
    unfold Sh.fits at hf
    split at hf
    · rename_i F hu
      simp only [Bool.and_eq_true, beq_iff_eq] at hf
      obtain ⟨hc, hs⟩ := hf
      obtain ⟨xs, n, _, _, hlen, hxl, hg⟩ := DataW.trod_struct hu h
      have k := Sh.opens fs 0 F.toList cs hs (fun f hf => by
        obtain ⟨i, hi, rfl⟩ := List.getElem_of_mem hf
        have g := hg i F.toList[i] (by rw [← Array.getElem?_toList]; exact List.getElem?_eq_getElem hi)
        have hi2 : i < xs.length := by rw [hxl]; simpa using hi
        exact ⟨n, xs[i], by rw [g]; exact List.getElem?_eq_getElem hi2⟩)
      unfold Sh.ok
      rw [List.drop_zero, List.take_of_length_le (by omega)] at k
      exact k
    · cases hf
theorem Sh.opens : ∀ (fs : List Sh) (off : Nat) (F : List Field) (cs : List Value), Sh.fitsAll P fs off F = true →
    (∀ f ∈ F, ∃ n y, DataW.trod enc P w base (fun _ => true) true n f.type ((cs.drop f.offset).take (P.cellsOf f.type)) = some y) → Sh.oks w fs ((cs.drop off).take (Sh.sizes fs))
  | [], off, F, cs, hf, h => by unfold Sh.oks Sh.sizes; simp
  | s :: r, off, F, cs, hf, h => by
    match F, hf with
    | f :: q, hf =>
      unfold Sh.fitsAll at hf
      simp only [Bool.and_eq_true, beq_iff_eq] at hf
      obtain ⟨⟨⟨h1, h2⟩, h3⟩, h4⟩ := hf
      obtain ⟨n, y, hy⟩ := h f (.head _)
      rw [h1, h2] at hy
      have k1 := Sh.open s f.type n _ y h3 hy
      have k2 := Sh.opens r (off + s.size) q cs h4 (fun g hg => h g (.tail _ hg))
      unfold Sh.oks Sh.sizes
      exact ⟨_, _, by rw [List.take_add, List.drop_drop], k1, k2⟩
    | [], hf => unfold Sh.fitsAll at hf; cases hf
end

/-- An argument of such a type. -/
theorem open_arg {s : Sh} {fs : List Sh} {t : TypeId} {r : Reach} {b0 : Nat} {v : Value} {d : DataW H} {p : List MemPlace} (hs : s = .tup fs) (hf : s.fits P t = true) (hv : Value.okWide P w r b0 t v)
    (h : DataW.Trod enc P w base (fun _ => true) true t v d p) : ∃ cs, v = .agg cs ∧ Sh.oks w fs cs.toList := by
  subst hs
  obtain ⟨fuel, hfu⟩ := h
  have k := Sh.open (.tup fs) t fuel _ _ hf hfu
  unfold Sh.fits at hf
  split at hf
  · rename_i F hu
    obtain ⟨cs, rfl, _⟩ := okWide_struct hu hv
    unfold Sh.ok at k
    exact ⟨cs, rfl, k⟩
  · cases hf
theorem oks_nil {cs : List Value} (h : Sh.oks w [] cs) : cs = [] := by unfold Sh.oks at h; exact h
theorem oks_int {k : IntKind} {r : List Sh} {cs : List Value} (h : Sh.oks w (.int k :: r) cs) : ∃ n b, cs = .int k n :: b ∧ (Lit.int k n).wf = true ∧ Sh.oks w r b := by
  unfold Sh.oks at h
  obtain ⟨a, b, rfl, h1, h2⟩ := h
  unfold Sh.ok at h1
  obtain ⟨n, rfl, wn⟩ := h1
  exact ⟨n, b, rfl, wn, h2⟩
theorem oks_bool {r : List Sh} {cs : List Value} (h : Sh.oks w (.bool :: r) cs) : ∃ n b, cs = .bool n :: b ∧ Sh.oks w r b := by
  unfold Sh.oks at h
  obtain ⟨a, b, rfl, h1, h2⟩ := h
  unfold Sh.ok at h1
  obtain ⟨n, rfl⟩ := h1
  exact ⟨n, b, rfl, h2⟩
theorem oks_str {r : List Sh} {cs : List Value} (h : Sh.oks w (.str :: r) cs) : ∃ (n : ByteArray) (b : List Value), cs = .string n :: b ∧ n.size ≤ maxLen ∧ Sh.oks w r b := by
  unfold Sh.oks at h
  obtain ⟨a, b, rfl, h1, h2⟩ := h
  unfold Sh.ok at h1
  obtain ⟨n, rfl, wn⟩ := h1
  exact ⟨n, b, rfl, wn, h2⟩
theorem oks_row {s : Sh} {r : List Sh} {cs : List Value} (h : Sh.oks w (.row s :: r) cs) : ∃ (A : Option Addr) (len cap : Nat) (l : List (List Value)) (b : List Value), cs = .slice A len cap :: b ∧ l.length = len ∧ len ≤ cap ∧ cap ≤ maxLen ∧ RowAt w A s.size l ∧ (∀ x ∈ l, s.ok w x) ∧ Sh.oks w r b := by
  unfold Sh.oks at h
  obtain ⟨a, b, rfl, h1, h2⟩ := h
  unfold Sh.ok at h1
  obtain ⟨A, len, cap, l, rfl, k1, k2, k3, k4, k5⟩ := h1
  exact ⟨A, len, cap, l, b, rfl, k1, k2, k3, k4, k5, h2⟩
theorem oks_rec {fs r : List Sh} {cs : List Value} (h : Sh.oks w (.tup fs :: r) cs) : ∃ a b, cs = a ++ b ∧ Sh.oks w fs a ∧ Sh.oks w r b := by
  unfold Sh.oks at h
  obtain ⟨a, b, rfl, h1, h2⟩ := h
  unfold Sh.ok at h1
  exact ⟨a, b, rfl, h1, h2⟩
/-- Rows of elements that are each told by a datum of one's own. -/
theorem map_of {α β : Type} {f : α → β} {q : α → Prop} : ∀ (l : List β), (∀ x ∈ l, ∃ y, f y = x ∧ q y) → ∃ ys : List α, l = ys.map f ∧ ∀ y ∈ ys, q y
  | [], _ => ⟨[], rfl, fun _ h => by cases h⟩
  | a :: l, h => by
    obtain ⟨y, rfl, hy⟩ := h a (.head _)
    obtain ⟨ys, rfl, hys⟩ := map_of l (fun x hx => h x (.tail _ hx))
    exact ⟨y :: ys, rfl, fun z hz => by
      rcases List.mem_cons.1 hz with rfl | hz
      · exact hy
      · exact hys z hz⟩

end Go.Proofs.Ytilebacnjagneaa
