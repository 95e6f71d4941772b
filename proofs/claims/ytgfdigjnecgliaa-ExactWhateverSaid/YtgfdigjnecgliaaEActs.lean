/- A slice of acts of the statements of layer 10 that comes in: how it is read. -/
import Derived.Test.YtgfdigjnecgliaaOpen
import Derived.Test.YtgfdigjnecgliaaSOpen
import Derived.Deep.Slices
import Derived.WideKeyArgs
import Derived.Deep.Frames
namespace Go.Proofs.Ytgfdigjnecgliaa
set_option linter.unusedVariables false
open Go.ChangeShapes Go.WideShapes Go.ChangeAt Go.RowKit Go.Joins Go.Deep

/-- An act: what, a key, a number. -/
structure ActE where
  what : Nat
  key : ByteArray
  v : Int
structure ActE.Ok (x : ActE) : Prop where
  k1 : x.what < 256
  ks : x.key.size ≤ maxLen
  v0 : -9223372036854775808 ≤ x.v
  v1 : x.v ≤ 9223372036854775807
/-- An act's three cells at a. -/
structure ActEAt (w : World) (a : Addr) (x : ActE) : Prop where
  c0 : w.cell? a = some (.int .u8 (x.what : Int))
  c1 : w.cell? (a.add 1) = some (.string x.key)
  c2 : w.cell? (a.add 2) = some (.int .i64 x.v)
theorem ActEAt.on {W w : World} {a : Addr} {x : ActE} (h : ActEAt W a x) (g : Wider W w) : ActEAt w a x := ⟨wkeep g h.c0, wkeep g h.c1, wkeep g h.c2⟩
theorem ActEAt.flat {w : World} {a : Addr} {x : ActE} (h : ActEAt w a x) : w.cell? ⟨a.block, a.off + 1, none⟩ = some (.string x.key) ∧ w.cell? ⟨a.block, a.off + 2, none⟩ = some (.int .i64 x.v) := by
  have e : ∀ i, i ≠ 0 → a.add i = ⟨a.block, a.off + i, none⟩ := fun i hi => by unfold Addr.add; simp [hi]
  exact ⟨by rw [← e 1 (by decide)]; exact h.c1, by rw [← e 2 (by decide)]; exact h.c2⟩
structure ActsEAt (w : World) (A : Option Addr) (l : List ActE) : Prop where
  none_ : A = none → l = []
  cell : ∀ a, A = some a → ∀ j x, l[j]? = some x → ActEAt w (a.add (j * 3)) x
theorem ActsEAt.on {W w : World} {A : Option Addr} {l : List ActE} (h : ActsEAt W A l) (g : Wider W w) : ActsEAt w A l :=
  ⟨h.none_, fun a e j s hs => (h.cell a e j s hs).on g⟩

theorem cellsActE : Try.prog.cellsOf 37 = 3 := by kernel_rfl
theorem fieldsActE : ∃ f0 f1 f2 : Field, Try.prog.underlying 37 = some (.struct #[f0, f1, f2]) ∧ (f0.type = 5 ∧ f0.offset = 0) ∧ (f1.type = 9 ∧ f1.offset = 1) ∧ (f2.type = 3 ∧ f2.offset = 2) :=
  ⟨_, _, _, Try.underlying37, ⟨rfl, rfl⟩, ⟨rfl, rfl⟩, ⟨rfl, rfl⟩⟩
theorem cells1E : Try.prog.cellsOf 5 = 1 ∧ Try.prog.cellsOf 9 = 1 ∧ Try.prog.cellsOf 3 = 1 := ⟨by kernel_rfl, by kernel_rfl, by kernel_rfl⟩
theorem open_actE {H : Type} {enc : TypeId × Value → H} {w : World} {base : Nat} {spare : Nat → Bool} {held : Bool} {fuel : Nat} {cs : List Value} {x : DataW H × List MemPlace}
    (h : DataW.trod enc Try.prog w base spare held fuel 37 cs = some x) :
    ∃ y : ActE, y.Ok ∧ cs = [.int .u8 (y.what : Int), .string y.key, .int .i64 y.v] := by
  obtain ⟨f0, f1, f2, hu, ⟨t0, o0⟩, ⟨t1, o1⟩, ⟨t2, o2⟩⟩ := fieldsActE
  obtain ⟨xs, n, _, _, hlen, hxl, hg⟩ := DataW.trod_struct hu h
  have hx3 : xs.length = 3 := hxl
  obtain ⟨e8, es, ei⟩ := cells1E
  rw [cellsActE] at hlen
  match cs, hlen with
  | [c0, c1, c2], _ =>
    have g0 := hg 0 f0 rfl
    have g1 := hg 1 f1 rfl
    have g2 := hg 2 f2 rfl
    rw [t0, o0, e8] at g0
    rw [t1, o1, es] at g1
    rw [t2, o2, ei] at g2
    simp only [List.drop_zero, List.drop_succ_cons, List.take_succ_cons, List.take_zero] at g0 g1 g2
    have some_of : ∀ {i : Nat} (hi : i < 3), ∃ y, xs[i]? = some y := fun {i} hi => ⟨xs[i]'(by omega), List.getElem?_eq_getElem _⟩
    obtain ⟨y0, hy0⟩ := some_of (i := 0) (by omega)
    obtain ⟨y1, hy1⟩ := some_of (i := 1) (by omega)
    obtain ⟨y2, hy2⟩ := some_of (i := 2) (by omega)
    rw [hy0] at g0; rw [hy1] at g1; rw [hy2] at g2
    obtain ⟨v0, q0, _, w0⟩ := DataW.trod_int Try.underlying5 g0
    obtain ⟨s1, q1, _, w1⟩ := DataW.trod_string Try.underlying9 g1
    obtain ⟨v2, q2, _, w2⟩ := DataW.trod_int Try.underlying3 g2
    simp only [List.cons.injEq, and_true] at q0 q1 q2
    have b0 : 0 ≤ v0 ∧ v0 < 256 := by
      simp only [Lit.wf, Bool.and_eq_true, decide_eq_true_eq] at w0
      have h1 : IntKind.u8.min = 0 := rfl
      have h2 : IntKind.u8.max = 255 := rfl
      omega
    obtain ⟨b2, b2'⟩ := bounds_i64 w2
    refine ⟨⟨v0.toNat, s1, v2⟩, ⟨by show v0.toNat < 256; omega, w1, b2, b2'⟩, ?_⟩
    rw [q0, q1, q2]
    show [_, _, _] = [Value.int .u8 (v0.toNat : Int), _, _]
    rw [Int.toNat_of_nonneg b0.1]
theorem open_actsE {H : Type} {enc : TypeId × Value → H} {w : World} {base : Nat} {fuel : Nat} {A : Option Addr} {len cap : Nat} {x : DataW H × List MemPlace}
    (h : DataW.trod enc Try.prog w base (fun _ => true) true fuel 34 [.slice A len cap] = some x) :
    ∃ l : List ActE, l.length = len ∧ ActsEAt w A l ∧ l.length ≤ maxLen ∧ ∀ y ∈ l, y.Ok := by
  rcases open_slice Try.underlying34 h with ⟨hcs, _⟩ | ⟨a, len', cap', m, n, D, Pl, hcs, hb, hl, hm, hmm, _, hi⟩
  · simp at hcs
    obtain ⟨rfl, rfl, rfl⟩ := hcs
    exact ⟨[], rfl, ⟨fun _ => rfl, fun a e => by cases e⟩, by simp [maxLen], by simp⟩
  · simp at hcs
    obtain ⟨rfl, rfl, rfl⟩ := hcs
    simp only [if_true] at hmm
    subst hmm
    have hk : ∀ i, i < len → ∃ y : ActE, y.Ok ∧ ActEAt w (a.add (i * 3)) y := by
      intro i hlt
      obtain ⟨cs, hc, ht⟩ := hi i (by omega)
      rw [cellsActE] at hc
      obtain ⟨_, hcl, hat⟩ := World.cells?_some hc
      obtain ⟨y, hy, rfl⟩ := open_actE ht
      have a0 := hat 0 (by omega)
      have a1 := hat 1 (by omega)
      have a2 := hat 2 (by omega)
      have z : (a.add (i * 3)).add 0 = a.add (i * 3) := by unfold Addr.add; simp
      rw [z] at a0
      exact ⟨y, hy, ⟨a0, a1, a2⟩⟩
    obtain ⟨F, hF⟩ : ∃ F : Nat → ActE, ∀ i, i < len → (F i).Ok ∧ ActEAt w (a.add (i * 3)) (F i) := by
      refine ⟨fun i => if h : i < len then (hk i h).choose else ⟨0, ByteArray.empty, 0⟩, fun i h => ?_⟩
      simp only [dif_pos h]
      exact (hk i h).choose_spec
    refine ⟨(List.range len).map F, by simp, ⟨(fun e => by cases e), fun b e j y hj => ?_⟩, by simp; omega, fun y hy => ?_⟩
    · obtain rfl : a = b := by injection e
      rw [List.getElem?_map] at hj
      by_cases c : j < len
      · rw [List.getElem?_range c] at hj
        simp only [Option.map_some, Option.some.injEq] at hj
        rw [← hj]; exact (hF j c).2
      · rw [List.getElem?_eq_none (by simpa using c)] at hj
        cases hj
    · obtain ⟨i, hi, rfl⟩ := List.mem_map.1 hy
      exact (hF i (List.mem_range.1 hi)).1

/-! ### How much acts are -/
def costE (x : ActE) : Nat := 10 + min 5000 x.key.size
def bulkE (l : List ActE) : Nat := (l.map costE).sum
theorem bulkE_snoc (l : List ActE) (x : ActE) : bulkE (l ++ [x]) = bulkE l + (10 + min 5000 x.key.size) := by unfold bulkE; simp [costE]
theorem bulkE_take (l : List ActE) (k : Nat) : bulkE (l.take k) ≤ bulkE l := by
  have e : bulkE l = bulkE (l.take k) + bulkE (l.drop k) := by
    unfold bulkE; rw [← List.sum_append, ← List.map_append, List.take_append_drop]
  omega
theorem bulkE_length (l : List ActE) : 10 * l.length ≤ bulkE l := by
  induction l with
  | nil => simp
  | cons x l ih => unfold bulkE at *; simp only [List.map_cons, List.sum_cons, List.length_cons, costE]; omega
theorem bulkE_mem {l : List ActE} {x : ActE} (h : x ∈ l) : 10 + min 5000 x.key.size ≤ bulkE l := by
  induction l with
  | nil => cases h
  | cons y l ih =>
    have e : bulkE (y :: l) = costE y + bulkE l := by unfold bulkE; simp
    rw [e]
    rcases List.mem_cons.1 h with rfl | h
    · unfold costE; omega
    · have := ih h; omega
theorem takeE_next (l : List ActE) (k : Nat) (x : ActE) (h : l[k]? = some x) : l.take (k + 1) = l.take k ++ [x] := by
  obtain ⟨hk, rfl⟩ := List.getElem?_eq_some_iff.1 h
  rw [List.take_succ_eq_append_getElem hk]
set_option maxHeartbeats 1000000 in
theorem elong_c (A : Option Addr) (n cap : Nat) (l : List ActE) {r : Bool} (w : World) (h : ActsEAt w A l) (hn : l.length = n) (hl : n ≤ 9223372036854775807) (hs : ∀ x ∈ l, x.key.size ≤ 9223372036854775807) (hr : decide (5000 ≤ bulkE l) = r) :
    Calls Try.prog 17 #[.slice A n cap] w fun e w' => e = .returned (.bool r) ∧ w = w' := by
  have HR := Lib.hid hr
  have HS := Lib.hid hs
  have HN := Lib.hid hn
  clear hr hs hn
  go_enter Try.func17, Try.ntmps17
  go_wp2
  go_loop [3, 4] (fun o i => ∃ k : Nat, k ≤ n ∧ (∃ V : Nat, o = .int .i64 (V : Int) ∧ bulkE (l.take k) = V ∧ V ≤ 10011) ∧ i = .int .i64 (k : Int)) (fun _ i => n - (intOf i).toNat)
  case atStart => exact ⟨0, by omega, ⟨0, by simp, by simp [bulkE], by omega⟩, by simp⟩
  case round =>
    obtain ⟨k, hk, ⟨V, rfl, hV, hV8⟩, rfl⟩ := hrel
    have HV := Lib.hid hV
    clear hV
    by_cases c : k < n
    · have c1 : decide ((k : Int) < (n : Int)) = true := decide_eq_true (by omega)
      have i0 : (0 : Int) ≤ (k : Int) := by omega
      have i1 : (k : Int) < (n : Int) := by omega
      by_cases d : V < 5000
      · have d1 : decide ((V : Int) < 5000) = true := decide_eq_true (by omega)
        have d2 : decide (V < 5000) = true := decide_eq_true d
        obtain ⟨x, hx⟩ : ∃ x, l[k]? = some x := ⟨l[k]'(by have := HN.out; omega), List.getElem?_eq_getElem _⟩
        have hsz := HS.out x (List.mem_of_getElem? hx)
        cases A with
        | none => exact absurd (h.none_ rfl) (by intro e; rw [e] at hx; simp at hx)
        | some a =>
          have hc := (h.cell a rfl k x hx).flat.1
          have st := bulkE_snoc (l.take k) x
          rw [← takeE_next l k x hx, HV.out] at st
          have ST := Lib.hid st
          have HS2 := Lib.hid hx
          clear st hx
          obtain ⟨z, hz⟩ : ∃ z : Nat, min 5000 x.key.size = z := ⟨_, rfl⟩
          have hz1 : min 5000 (x.key.size : Int) = (z : Int) := by omega
          have hz2 : z ≤ 5000 := by omega
          have ST2 : Hid (bulkE (l.take (k + 1)) = V + (10 + z)) := by have := ST.out; rw [hz] at this; exact this
          clear hz
          go_wp2
          go_round
          case rel => exact ⟨k + 1, by omega, ⟨V + (10 + z), by simp; omega, ST2.out, by omega⟩, by go_num⟩
          case measure => simp [intOf]; omega
      · have d1 : decide ((V : Int) < 5000) = false := decide_eq_false (by omega)
        have d2 : decide (V < 5000) = false := decide_eq_false d
        have hr2 : r = true := by
          rw [← HR.out]; apply decide_eq_true
          have := bulkE_take l k
          rw [HV.out] at this; omega
        subst hr2
        have d3 : decide ((5000 : Int) ≤ (V : Int)) = true := decide_eq_true (by omega)
        have d4 : decide (5000 ≤ V) = true := decide_eq_true (by omega)
        go_wp2
        go_ret
        exact ⟨rfl, rfl⟩
    · have c1 : decide ((k : Int) < (n : Int)) = false := decide_eq_false (by omega)
      have e := HV.out
      rw [List.take_of_length_le (by have := HN.out; omega)] at e
      have hr2 : decide (5000 ≤ V) = r := by rw [← HR.out, e]
      cases r with
      | true =>
        have d3 : decide ((5000 : Int) ≤ (V : Int)) = true := decide_eq_true (by have := of_decide_eq_true hr2; omega)
        go_wp2
        go_ret
        exact ⟨rfl, rfl⟩
      | false =>
        have d3 : decide ((5000 : Int) ≤ (V : Int)) = false := decide_eq_false (by have := of_decide_eq_false hr2; omega)
        go_wp2
        go_ret
        exact ⟨rfl, rfl⟩
end Go.Proofs.Ytgfdigjnecgliaa
