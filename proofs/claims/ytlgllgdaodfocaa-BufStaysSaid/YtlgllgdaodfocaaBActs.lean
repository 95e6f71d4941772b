/- A slice of acts of the statements of layer 5 that comes in: how it is read. -/
import Derived.Test.YtlgllgdaodfocaaOpen
import Derived.Test.YtlgllgdaodfocaaFrame
import Derived.Deep.Slices
import Derived.WideKeyArgs
import Derived.Deep.Frames
namespace Go.Proofs.Ytlgllgdaodfocaa
set_option linter.unusedVariables false
open Go.ChangeShapes Go.WideShapes Go.ChangeAt Go.RowKit Go.Joins Go.Deep

/-- An act: its kind, a place, how many, a word's halves. -/
structure ActN where
  kind : Nat
  at_ : Int
  n : Int
  hi : Int
  lo : Int
structure ActN.Ok (x : ActN) : Prop where
  k1 : x.kind < 256
  a0 : -9223372036854775808 ≤ x.at_
  a1 : x.at_ ≤ 9223372036854775807
  n0 : -9223372036854775808 ≤ x.n
  n1 : x.n ≤ 9223372036854775807
  h0 : 0 ≤ x.hi
  h1 : x.hi < 18446744073709551616
  l0 : 0 ≤ x.lo
  l1 : x.lo < 18446744073709551616
theorem ActN.Ok.word {x : ActN} (h : x.Ok) : ∃ y : BitVec 128, IsW x.hi x.lo y := by
  obtain ⟨y, e, f⟩ := isW_make h.h0 h.h1 h.l0 h.l1
  exact ⟨y, e, f⟩
/-- An act's five cells at a. -/
structure ActAt (w : World) (a : Addr) (x : ActN) : Prop where
  c0 : w.cell? a = some (.int .u8 (x.kind : Int))
  c1 : w.cell? (a.add 1) = some (.int .i64 x.at_)
  c2 : w.cell? (a.add 2) = some (.int .i64 x.n)
  c3 : w.cell? (a.add 3) = some (.int .u64 x.hi)
  c4 : w.cell? (a.add 4) = some (.int .u64 x.lo)
theorem ActAt.on {W w : World} {a : Addr} {x : ActN} (h : ActAt W a x) (g : Wider W w) : ActAt w a x := ⟨wkeep g h.c0, wkeep g h.c1, wkeep g h.c2, wkeep g h.c3, wkeep g h.c4⟩
/-- The same, as a load of the whole act asks for it. -/
theorem ActAt.flat {w : World} {a : Addr} {x : ActN} (h : ActAt w a x) : w.cell? ⟨a.block, a.off + 1, none⟩ = some (.int .i64 x.at_) ∧ w.cell? ⟨a.block, a.off + 2, none⟩ = some (.int .i64 x.n) ∧ w.cell? ⟨a.block, a.off + 3, none⟩ = some (.int .u64 x.hi) ∧ w.cell? ⟨a.block, a.off + 4, none⟩ = some (.int .u64 x.lo) := by
  have e : ∀ i, i ≠ 0 → a.add i = ⟨a.block, a.off + i, none⟩ := fun i hi => by unfold Addr.add; simp [hi]
  refine ⟨?_, ?_, ?_, ?_⟩
  · rw [← e 1 (by decide)]; exact h.c1
  · rw [← e 2 (by decide)]; exact h.c2
  · rw [← e 3 (by decide)]; exact h.c3
  · rw [← e 4 (by decide)]; exact h.c4
structure ActsAt (w : World) (A : Option Addr) (l : List ActN) : Prop where
  none_ : A = none → l = []
  cell : ∀ a, A = some a → ∀ j x, l[j]? = some x → ActAt w (a.add (j * 5)) x
theorem ActsAt.on {W w : World} {A : Option Addr} {l : List ActN} (h : ActsAt W A l) (g : Wider W w) : ActsAt w A l :=
  ⟨h.none_, fun a e j s hs => (h.cell a e j s hs).on g⟩

theorem cellsAct : Try.prog.cellsOf 46 = 5 := by kernel_rfl
theorem fieldsAct : ∃ f0 f1 f2 f3 : Field, Try.prog.underlying 46 = some (.struct #[f0, f1, f2, f3]) ∧ (f0.type = 5 ∧ f0.offset = 0) ∧ (f1.type = 3 ∧ f1.offset = 1) ∧ (f2.type = 3 ∧ f2.offset = 2) ∧ (f3.type = 32 ∧ f3.offset = 3) :=
  ⟨_, _, _, _, Try.underlying46, ⟨rfl, rfl⟩, ⟨rfl, rfl⟩, ⟨rfl, rfl⟩, ⟨rfl, rfl⟩⟩
theorem fieldsWord : ∃ f0 f1 : Field, Try.prog.underlying 32 = some (.struct #[f0, f1]) ∧ (f0.type = 30 ∧ f0.offset = 0) ∧ (f1.type = 30 ∧ f1.offset = 1) :=
  ⟨_, _, Try.underlying32, ⟨rfl, rfl⟩, ⟨rfl, rfl⟩⟩
theorem cells1 : Try.prog.cellsOf 5 = 1 ∧ Try.prog.cellsOf 3 = 1 ∧ Try.prog.cellsOf 30 = 1 ∧ Try.prog.cellsOf 32 = 2 := ⟨by kernel_rfl, by kernel_rfl, by kernel_rfl, by kernel_rfl⟩

theorem open_act {H : Type} {enc : TypeId × Value → H} {w : World} {base : Nat} {spare : Nat → Bool} {held : Bool} {fuel : Nat} {cs : List Value} {x : DataW H × List MemPlace}
    (h : DataW.trod enc Try.prog w base spare held fuel 46 cs = some x) :
    ∃ y : ActN, y.Ok ∧ cs = [.int .u8 (y.kind : Int), .int .i64 y.at_, .int .i64 y.n, .int .u64 y.hi, .int .u64 y.lo] := by
  obtain ⟨f0, f1, f2, f3, hu, ⟨t0, o0⟩, ⟨t1, o1⟩, ⟨t2, o2⟩, ⟨t3, o3⟩⟩ := fieldsAct
  obtain ⟨xs, n, _, _, hlen, hxl, hg⟩ := DataW.trod_struct hu h
  have hx4 : xs.length = 4 := hxl
  obtain ⟨e8, ei, e64, ew⟩ := cells1
  rw [cellsAct] at hlen
  match cs, hlen with
  | [c0, c1, c2, c3, c4], _ =>
    have g0 := hg 0 f0 rfl
    have g1 := hg 1 f1 rfl
    have g2 := hg 2 f2 rfl
    have g3 := hg 3 f3 rfl
    rw [t0, o0, e8] at g0
    rw [t1, o1, ei] at g1
    rw [t2, o2, ei] at g2
    rw [t3, o3, ew] at g3
    simp only [List.drop_zero, List.drop_succ_cons, List.take_succ_cons, List.take_zero] at g0 g1 g2 g3
    have some_of : ∀ {i : Nat} (hi : i < 4), ∃ y, xs[i]? = some y := fun {i} hi => ⟨xs[i]'(by omega), List.getElem?_eq_getElem _⟩
    obtain ⟨y0, hy0⟩ := some_of (i := 0) (by omega)
    obtain ⟨y1, hy1⟩ := some_of (i := 1) (by omega)
    obtain ⟨y2, hy2⟩ := some_of (i := 2) (by omega)
    obtain ⟨y3, hy3⟩ := some_of (i := 3) (by omega)
    rw [hy0] at g0; rw [hy1] at g1; rw [hy2] at g2; rw [hy3] at g3
    obtain ⟨v0, q0, _, w0⟩ := DataW.trod_int Try.underlying5 g0
    obtain ⟨v1, q1, _, w1⟩ := DataW.trod_int Try.underlying3 g1
    obtain ⟨v2, q2, _, w2⟩ := DataW.trod_int Try.underlying3 g2
    obtain ⟨h0, h1, hv, ⟨u0, p0⟩, ⟨u1, p1⟩⟩ := fieldsWord
    obtain ⟨ys, m, _, _, _, hyl, hk⟩ := DataW.trod_struct hv g3
    have hy2' : ys.length = 2 := hyl
    have k0 := hk 0 h0 rfl
    have k1 := hk 1 h1 rfl
    rw [u0, p0, e64] at k0
    rw [u1, p1, e64] at k1
    simp only [List.drop_zero, List.drop_succ_cons, List.take_succ_cons, List.take_zero] at k0 k1
    have some_of2 : ∀ {i : Nat} (hi : i < 2), ∃ y, ys[i]? = some y := fun {i} hi => ⟨ys[i]'(by omega), List.getElem?_eq_getElem _⟩
    obtain ⟨z0, hz0⟩ := some_of2 (i := 0) (by omega)
    obtain ⟨z1, hz1⟩ := some_of2 (i := 1) (by omega)
    rw [hz0] at k0; rw [hz1] at k1
    obtain ⟨v3, q3, _, w3⟩ := DataW.trod_int Try.underlying30 k0
    obtain ⟨v4, q4, _, w4⟩ := DataW.trod_int Try.underlying30 k1
    simp only [List.cons.injEq, and_true] at q0 q1 q2 q3 q4
    have b0 : 0 ≤ v0 ∧ v0 < 256 := by
      simp only [Lit.wf, Bool.and_eq_true, decide_eq_true_eq] at w0
      have h1 : IntKind.u8.min = 0 := rfl
      have h2 : IntKind.u8.max = 255 := rfl
      omega
    obtain ⟨b1, b1'⟩ := bounds_i64 w1
    obtain ⟨b2, b2'⟩ := bounds_i64 w2
    obtain ⟨b3, b3'⟩ := bounds_u64 w3
    obtain ⟨b4, b4'⟩ := bounds_u64 w4
    refine ⟨⟨v0.toNat, v1, v2, v3, v4⟩, ⟨by show v0.toNat < 256; omega, b1, b1', b2, b2', b3, b3', b4, b4'⟩, ?_⟩
    rw [q0, q1, q2, q3, q4]
    show [_, _, _, _, _] = [Value.int .u8 (v0.toNat : Int), _, _, _, _]
    rw [Int.toNat_of_nonneg b0.1]

theorem open_acts {H : Type} {enc : TypeId × Value → H} {w : World} {base : Nat} {fuel : Nat} {A : Option Addr} {len cap : Nat} {x : DataW H × List MemPlace}
    (h : DataW.trod enc Try.prog w base (fun _ => true) true fuel 41 [.slice A len cap] = some x) :
    ∃ l : List ActN, l.length = len ∧ ActsAt w A l ∧ l.length ≤ maxLen ∧ ∀ y ∈ l, y.Ok := by
  rcases open_slice Try.underlying41 h with ⟨hcs, _⟩ | ⟨a, len', cap', m, n, D, Pl, hcs, hb, hl, hm, hmm, _, hi⟩
  · simp at hcs
    obtain ⟨rfl, rfl, rfl⟩ := hcs
    exact ⟨[], rfl, ⟨fun _ => rfl, fun a e => by cases e⟩, by simp [maxLen], by simp⟩
  · simp at hcs
    obtain ⟨rfl, rfl, rfl⟩ := hcs
    simp only [if_true] at hmm
    subst hmm
    have hk : ∀ i, i < len → ∃ y : ActN, y.Ok ∧ ActAt w (a.add (i * 5)) y := by
      intro i hlt
      obtain ⟨cs, hc, ht⟩ := hi i (by omega)
      rw [cellsAct] at hc
      obtain ⟨_, hcl, hat⟩ := World.cells?_some hc
      obtain ⟨y, hy, rfl⟩ := open_act ht
      have a0 := hat 0 (by omega)
      have a1 := hat 1 (by omega)
      have a2 := hat 2 (by omega)
      have a3 := hat 3 (by omega)
      have a4 := hat 4 (by omega)
      have z : (a.add (i * 5)).add 0 = a.add (i * 5) := by unfold Addr.add; simp
      rw [z] at a0
      exact ⟨y, hy, ⟨a0, a1, a2, a3, a4⟩⟩
    obtain ⟨F, hF⟩ : ∃ F : Nat → ActN, ∀ i, i < len → (F i).Ok ∧ ActAt w (a.add (i * 5)) (F i) := by
      refine ⟨fun i => if h : i < len then (hk i h).choose else ⟨0, 0, 0, 0, 0⟩, fun i h => ?_⟩
      simp only [dif_pos h]
      exact (hk i h).choose_spec
    refine ⟨(List.range len).map F, by simp, ⟨(fun e => by cases e), fun b e j y hj => ?_⟩, by simp; omega, fun y hy => ?_⟩
    · obtain rfl : a = b := by injection e
      rw [List.getElem?_map] at hj
      by_cases c : j < len
      · rw [List.getElem?_range c] at hj
        simp only [Option.map_some, Option.some.injEq] at hj
        rw [← hj]; exact (hF j c).2
      · rw [List.getElem?_eq_none (by simpa using c)] at hj
        cases hj
    · obtain ⟨i, hi, rfl⟩ := List.mem_map.1 hy
      exact (hF i (List.mem_range.1 hi)).1

end Go.Proofs.Ytlgllgdaodfocaa
