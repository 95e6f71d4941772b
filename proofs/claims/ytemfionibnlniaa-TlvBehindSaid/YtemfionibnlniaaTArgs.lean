/- A slice of the document's attributes that comes in: how it is read. -/
import Derived.Test.YtemfionibnlniaaOpen
import Derived.Test.YtemfionibnlniaaSOpen
import Derived.Test.YtemfionibnlniaaTMem
import Derived.Deep.Slices
import Derived.WideKeyArgs
import Derived.Deep.Frames
namespace Go.Proofs.Ytemfionibnlniaa
set_option linter.unusedVariables false
open Go.ChangeShapes Go.WideShapes Go.ChangeAt Go.RowKit Go.Joins Go.Deep

theorem cellsAt_ : Try.prog.cellsOf 58 = 2 := by kernel_rfl
theorem fieldsAt_ : ∃ f0 f1 : Field, Try.prog.underlying 58 = some (.struct #[f0, f1]) ∧ (f0.type = 5 ∧ f0.offset = 0) ∧ (f1.type = 9 ∧ f1.offset = 1) :=
  ⟨_, _, Try.underlying58, ⟨rfl, rfl⟩, ⟨rfl, rfl⟩⟩
theorem cells1_ : Try.prog.cellsOf 5 = 1 ∧ Try.prog.cellsOf 9 = 1 := ⟨by kernel_rfl, by kernel_rfl⟩

theorem open_at {H : Type} {enc : TypeId × Value → H} {w : World} {base : Nat} {spare : Nat → Bool} {held : Bool} {fuel : Nat} {cs : List Value} {x : DataW H × List MemPlace}
    (h : DataW.trod enc Try.prog w base spare held fuel 58 cs = some x) :
    ∃ y : AtN, y.t < 256 ∧ y.v.size ≤ maxLen ∧ cs = [.int .u8 (y.t : Int), .string y.v] := by
  obtain ⟨f0, f1, hu, ⟨t0, o0⟩, ⟨t1, o1⟩⟩ := fieldsAt_
  obtain ⟨xs, n, _, _, hlen, hxl, hg⟩ := DataW.trod_struct hu h
  have hx2 : xs.length = 2 := hxl
  obtain ⟨e8, es⟩ := cells1_
  rw [cellsAt_] at hlen
  match cs, hlen with
  | [c0, c1], _ =>
    have g0 := hg 0 f0 rfl
    have g1 := hg 1 f1 rfl
    rw [t0, o0, e8] at g0
    rw [t1, o1, es] at g1
    simp only [List.drop_zero, List.drop_succ_cons, List.take_succ_cons, List.take_zero] at g0 g1
    have some_of : ∀ {i : Nat} (hi : i < 2), ∃ y, xs[i]? = some y := fun {i} hi => ⟨xs[i]'(by omega), List.getElem?_eq_getElem _⟩
    obtain ⟨y0, hy0⟩ := some_of (i := 0) (by omega)
    obtain ⟨y1, hy1⟩ := some_of (i := 1) (by omega)
    rw [hy0] at g0; rw [hy1] at g1
    obtain ⟨v0, q0, _, w0⟩ := DataW.trod_int Try.underlying5 g0
    obtain ⟨s1, q1, _, w1⟩ := DataW.trod_string Try.underlying9 g1
    simp only [List.cons.injEq, and_true] at q0 q1
    have b0 : 0 ≤ v0 ∧ v0 < 256 := by
      simp only [Lit.wf, Bool.and_eq_true, decide_eq_true_eq] at w0
      have h1 : IntKind.u8.min = 0 := rfl
      have h2 : IntKind.u8.max = 255 := rfl
      omega
    refine ⟨⟨v0.toNat, s1⟩, by show v0.toNat < 256; omega, w1, ?_⟩
    rw [q0, q1]
    show [_, _] = [Value.int .u8 (v0.toNat : Int), _]
    rw [Int.toNat_of_nonneg b0.1]

theorem open_ats {H : Type} {enc : TypeId × Value → H} {w : World} {base : Nat} {fuel : Nat} {A : Option Addr} {len cap : Nat} {x : DataW H × List MemPlace}
    (h : DataW.trod enc Try.prog w base (fun _ => true) true fuel 22 [.slice A len cap] = some x) :
    ∃ l : List AtN, l.length = len ∧ AtsAt w A l ∧ l.length ≤ maxLen ∧ ∀ y ∈ l, y.t < 256 ∧ y.v.size ≤ maxLen := by
  rcases open_slice Try.underlying22 h with ⟨hcs, _⟩ | ⟨a, len', cap', m, n, D, Pl, hcs, hb, hl, hm, hmm, _, hi⟩
  · simp at hcs
    obtain ⟨rfl, rfl, rfl⟩ := hcs
    exact ⟨[], rfl, ⟨fun _ => rfl, fun a e => by cases e⟩, by simp [maxLen], by simp⟩
  · simp at hcs
    obtain ⟨rfl, rfl, rfl⟩ := hcs
    simp only [if_true] at hmm
    subst hmm
    have hk : ∀ i, i < len → ∃ y : AtN, (y.t < 256 ∧ y.v.size ≤ maxLen) ∧ AtAt w (a.add (i * 2)) y := by
      intro i hlt
      obtain ⟨cs, hc, ht⟩ := hi i (by omega)
      rw [cellsAt_] at hc
      obtain ⟨_, hcl, hat⟩ := World.cells?_some hc
      obtain ⟨y, hy, hz, rfl⟩ := open_at ht
      have a0 := hat 0 (by omega)
      have a1 := hat 1 (by omega)
      have z : (a.add (i * 2)).add 0 = a.add (i * 2) := by unfold Addr.add; simp
      rw [z] at a0
      exact ⟨y, ⟨hy, hz⟩, ⟨a0, a1⟩⟩
    obtain ⟨F, hF⟩ : ∃ F : Nat → AtN, ∀ i, i < len → ((F i).t < 256 ∧ (F i).v.size ≤ maxLen) ∧ AtAt w (a.add (i * 2)) (F i) := by
      refine ⟨fun i => if h : i < len then (hk i h).choose else ⟨0, ByteArray.empty⟩, fun i h => ?_⟩
      simp only [dif_pos h]
      exact (hk i h).choose_spec
    refine ⟨(List.range len).map F, by simp, ⟨(fun e => by cases e), fun b e j y hj => ?_⟩, by simp; omega, fun y hy => ?_⟩
    · obtain rfl : a = b := by injection e
      rw [List.getElem?_map] at hj
      by_cases c : j < len
      · rw [List.getElem?_range c] at hj
        simp only [Option.map_some, Option.some.injEq] at hj
        rw [← hj]; exact (hF j c).2
      · rw [List.getElem?_eq_none (by simpa using c)] at hj
        cases hj
    · obtain ⟨i, hi, rfl⟩ := List.mem_map.1 hy
      exact (hF i (List.mem_range.1 hi)).1

/-- The same, and that there is room for all of it. -/
theorem open_atsc {H : Type} {enc : TypeId × Value → H} {w : World} {base : Nat} {fuel : Nat} {A : Option Addr} {len cap : Nat} {x : DataW H × List MemPlace}
    (h : DataW.trod enc Try.prog w base (fun _ => true) true fuel 22 [.slice A len cap] = some x) :
    ∃ l : List AtN, l.length = len ∧ AtsAt w A l ∧ l.length ≤ maxLen ∧ (∀ y ∈ l, y.t < 256 ∧ y.v.size ≤ maxLen) ∧ len ≤ cap ∧ cap ≤ maxLen := by
  obtain ⟨l, h1, h2, h3, h4⟩ := open_ats h
  refine ⟨l, h1, h2, h3, h4, ?_⟩
  rcases open_slice Try.underlying22 h with ⟨hcs, _⟩ | ⟨a, len', cap', m, n, D, Pl, hcs, hb, hl, hm, hmm, _, hi⟩
  · simp at hcs
    obtain ⟨rfl, rfl, rfl⟩ := hcs
    simp [maxLen]
  · simp at hcs
    obtain ⟨rfl, rfl, rfl⟩ := hcs
    exact ⟨hl, hm⟩

end Go.Proofs.Ytemfionibnlniaa
