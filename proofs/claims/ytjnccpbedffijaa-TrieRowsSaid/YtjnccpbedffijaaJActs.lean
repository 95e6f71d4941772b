/- A slice of acts of the statements of layer 11 that comes in: how it is read. -/
import Derived.Test.YtjnccpbedffijaaOpen
import Derived.Test.YtjnccpbedffijaaSOpen
import Derived.Deep.Slices
import Derived.WideKeyArgs
import Derived.Deep.Frames
namespace Go.Proofs.Ytjnccpbedffijaa
set_option linter.unusedVariables false
open Go.ChangeShapes Go.WideShapes Go.ChangeAt Go.RowKit Go.Joins Go.Deep

/-- An act: what, a key, how many bits, a number. -/
structure ActJ where
  what : Nat
  key : ByteArray
  n : Int
  v : Int
structure ActJ.Ok (x : ActJ) : Prop where
  k1 : x.what < 256
  ks : x.key.size ≤ maxLen
  n0 : -9223372036854775808 ≤ x.n
  n1 : x.n ≤ 9223372036854775807
  v0 : -9223372036854775808 ≤ x.v
  v1 : x.v ≤ 9223372036854775807
/-- An act's four cells at a. -/
structure ActJAt (w : World) (a : Addr) (x : ActJ) : Prop where
  c0 : w.cell? a = some (.int .u8 (x.what : Int))
  c1 : w.cell? (a.add 1) = some (.string x.key)
  c2 : w.cell? (a.add 2) = some (.int .i64 x.n)
  c3 : w.cell? (a.add 3) = some (.int .i64 x.v)
theorem ActJAt.on {W w : World} {a : Addr} {x : ActJ} (h : ActJAt W a x) (g : Wider W w) : ActJAt w a x := ⟨wkeep g h.c0, wkeep g h.c1, wkeep g h.c2, wkeep g h.c3⟩
theorem ActJAt.flat {w : World} {a : Addr} {x : ActJ} (h : ActJAt w a x) : w.cell? ⟨a.block, a.off + 1, none⟩ = some (.string x.key) ∧ w.cell? ⟨a.block, a.off + 2, none⟩ = some (.int .i64 x.n) ∧ w.cell? ⟨a.block, a.off + 3, none⟩ = some (.int .i64 x.v) := by
  have e : ∀ i, i ≠ 0 → a.add i = ⟨a.block, a.off + i, none⟩ := fun i hi => by unfold Addr.add; simp [hi]
  exact ⟨by rw [← e 1 (by decide)]; exact h.c1, by rw [← e 2 (by decide)]; exact h.c2, by rw [← e 3 (by decide)]; exact h.c3⟩
structure ActsJAt (w : World) (A : Option Addr) (l : List ActJ) : Prop where
  none_ : A = none → l = []
  cell : ∀ a, A = some a → ∀ j x, l[j]? = some x → ActJAt w (a.add (j * 4)) x
theorem ActsJAt.on {W w : World} {A : Option Addr} {l : List ActJ} (h : ActsJAt W A l) (g : Wider W w) : ActsJAt w A l :=
  ⟨h.none_, fun a e j s hs => (h.cell a e j s hs).on g⟩

theorem cellsActJ : Try.prog.cellsOf 56 = 4 := by kernel_rfl
theorem fieldsActJ : ∃ f0 f1 f2 f3 : Field, Try.prog.underlying 56 = some (.struct #[f0, f1, f2, f3]) ∧ (f0.type = 5 ∧ f0.offset = 0) ∧ (f1.type = 9 ∧ f1.offset = 1) ∧ (f2.type = 3 ∧ f2.offset = 2) ∧ (f3.type = 3 ∧ f3.offset = 3) :=
  ⟨_, _, _, _, Try.underlying56, ⟨rfl, rfl⟩, ⟨rfl, rfl⟩, ⟨rfl, rfl⟩, ⟨rfl, rfl⟩⟩
theorem cells1J : Try.prog.cellsOf 5 = 1 ∧ Try.prog.cellsOf 9 = 1 ∧ Try.prog.cellsOf 3 = 1 := ⟨by kernel_rfl, by kernel_rfl, by kernel_rfl⟩
theorem open_actJ {H : Type} {enc : TypeId × Value → H} {w : World} {base : Nat} {spare : Nat → Bool} {held : Bool} {fuel : Nat} {cs : List Value} {x : DataW H × List MemPlace}
    (h : DataW.trod enc Try.prog w base spare held fuel 56 cs = some x) :
    ∃ y : ActJ, y.Ok ∧ cs = [.int .u8 (y.what : Int), .string y.key, .int .i64 y.n, .int .i64 y.v] := by
  obtain ⟨f0, f1, f2, f3, hu, ⟨t0, o0⟩, ⟨t1, o1⟩, ⟨t2, o2⟩, ⟨t3, o3⟩⟩ := fieldsActJ
  obtain ⟨xs, n, _, _, hlen, hxl, hg⟩ := DataW.trod_struct hu h
  have hx3 : xs.length = 4 := hxl
  obtain ⟨e8, es, ei⟩ := cells1J
  rw [cellsActJ] at hlen
  match cs, hlen with
  | [c0, c1, c2, c3], _ =>
    have g0 := hg 0 f0 rfl
    have g1 := hg 1 f1 rfl
    have g2 := hg 2 f2 rfl
    have g3 := hg 3 f3 rfl
    rw [t0, o0, e8] at g0
    rw [t1, o1, es] at g1
    rw [t2, o2, ei] at g2
    rw [t3, o3, ei] at g3
    simp only [List.drop_zero, List.drop_succ_cons, List.take_succ_cons, List.take_zero] at g0 g1 g2 g3
    have some_of : ∀ {i : Nat} (hi : i < 4), ∃ y, xs[i]? = some y := fun {i} hi => ⟨xs[i]'(by omega), List.getElem?_eq_getElem _⟩
    obtain ⟨y0, hy0⟩ := some_of (i := 0) (by omega)
    obtain ⟨y1, hy1⟩ := some_of (i := 1) (by omega)
    obtain ⟨y2, hy2⟩ := some_of (i := 2) (by omega)
    obtain ⟨y3, hy3⟩ := some_of (i := 3) (by omega)
    rw [hy0] at g0; rw [hy1] at g1; rw [hy2] at g2; rw [hy3] at g3
    obtain ⟨v0, q0, _, w0⟩ := DataW.trod_int Try.underlying5 g0
    obtain ⟨s1, q1, _, w1⟩ := DataW.trod_string Try.underlying9 g1
    obtain ⟨v2, q2, _, w2⟩ := DataW.trod_int Try.underlying3 g2
    obtain ⟨v3, q3, _, w3⟩ := DataW.trod_int Try.underlying3 g3
    simp only [List.cons.injEq, and_true] at q0 q1 q2 q3
    have b0 : 0 ≤ v0 ∧ v0 < 256 := by
      simp only [Lit.wf, Bool.and_eq_true, decide_eq_true_eq] at w0
      have h1 : IntKind.u8.min = 0 := rfl
      have h2 : IntKind.u8.max = 255 := rfl
      omega
    obtain ⟨b2, b2'⟩ := bounds_i64 w2
    obtain ⟨b3, b3'⟩ := bounds_i64 w3
    refine ⟨⟨v0.toNat, s1, v2, v3⟩, ⟨by show v0.toNat < 256; omega, w1, b2, b2', b3, b3'⟩, ?_⟩
    rw [q0, q1, q2, q3]
    show [_, _, _, _] = [Value.int .u8 (v0.toNat : Int), _, _, _]
    rw [Int.toNat_of_nonneg b0.1]
theorem open_actsJ {H : Type} {enc : TypeId × Value → H} {w : World} {base : Nat} {fuel : Nat} {A : Option Addr} {len cap : Nat} {x : DataW H × List MemPlace}
    (h : DataW.trod enc Try.prog w base (fun _ => true) true fuel 42 [.slice A len cap] = some x) :
    ∃ l : List ActJ, l.length = len ∧ ActsJAt w A l ∧ l.length ≤ maxLen ∧ ∀ y ∈ l, y.Ok := by
  rcases open_slice Try.underlying42 h with ⟨hcs, _⟩ | ⟨a, len', cap', m, n, D, Pl, hcs, hb, hl, hm, hmm, _, hi⟩
  · simp at hcs
    obtain ⟨rfl, rfl, rfl⟩ := hcs
    exact ⟨[], rfl, ⟨fun _ => rfl, fun a e => by cases e⟩, by simp [maxLen], by simp⟩
  · simp at hcs
    obtain ⟨rfl, rfl, rfl⟩ := hcs
    simp only [if_true] at hmm
    subst hmm
    have hk : ∀ i, i < len → ∃ y : ActJ, y.Ok ∧ ActJAt w (a.add (i * 4)) y := by
      intro i hlt
      obtain ⟨cs, hc, ht⟩ := hi i (by omega)
      rw [cellsActJ] at hc
      obtain ⟨_, hcl, hat⟩ := World.cells?_some hc
      obtain ⟨y, hy, rfl⟩ := open_actJ ht
      have a0 := hat 0 (by omega)
      have a1 := hat 1 (by omega)
      have a2 := hat 2 (by omega)
      have z : (a.add (i * 4)).add 0 = a.add (i * 4) := by unfold Addr.add; simp
      rw [z] at a0
      exact ⟨y, hy, ⟨a0, a1, a2, hat 3 (by omega)⟩⟩
    obtain ⟨F, hF⟩ : ∃ F : Nat → ActJ, ∀ i, i < len → (F i).Ok ∧ ActJAt w (a.add (i * 4)) (F i) := by
      refine ⟨fun i => if h : i < len then (hk i h).choose else ⟨0, ByteArray.empty, 0, 0⟩, fun i h => ?_⟩
      simp only [dif_pos h]
      exact (hk i h).choose_spec
    refine ⟨(List.range len).map F, by simp, ⟨(fun e => by cases e), fun b e j y hj => ?_⟩, by simp; omega, fun y hy => ?_⟩
    · obtain rfl : a = b := by injection e
      rw [List.getElem?_map] at hj
      by_cases c : j < len
      · rw [List.getElem?_range c] at hj
        simp only [Option.map_some, Option.some.injEq] at hj
        rw [← hj]; exact (hF j c).2
      · rw [List.getElem?_eq_none (by simpa using c)] at hj
        cases hj
    · obtain ⟨i, hi, rfl⟩ := List.mem_map.1 hy
      exact (hF i (List.mem_range.1 hi)).1

/-! ### How much acts are -/
def costJ (x : ActJ) : Nat := 20 + min 4000 x.key.size
def bulkJ (l : List ActJ) : Nat := (l.map costJ).sum
theorem bulkJ_snoc (l : List ActJ) (x : ActJ) : bulkJ (l ++ [x]) = bulkJ l + (20 + min 4000 x.key.size) := by unfold bulkJ; simp [costJ]
theorem bulkJ_take (l : List ActJ) (k : Nat) : bulkJ (l.take k) ≤ bulkJ l := by
  have e : bulkJ l = bulkJ (l.take k) + bulkJ (l.drop k) := by
    unfold bulkJ; rw [← List.sum_append, ← List.map_append, List.take_append_drop]
  omega
theorem bulkJ_length (l : List ActJ) : 20 * l.length ≤ bulkJ l := by
  induction l with
  | nil => simp
  | cons x l ih => unfold bulkJ at *; simp only [List.map_cons, List.sum_cons, List.length_cons, costJ]; omega
theorem bulkJ_mem {l : List ActJ} {x : ActJ} (h : x ∈ l) : 20 + min 4000 x.key.size ≤ bulkJ l := by
  induction l with
  | nil => cases h
  | cons y l ih =>
    have e : bulkJ (y :: l) = costJ y + bulkJ l := by unfold bulkJ; simp
    rw [e]
    rcases List.mem_cons.1 h with rfl | h
    · unfold costJ; omega
    · have := ih h; omega
theorem takeJ_next (l : List ActJ) (k : Nat) (x : ActJ) (h : l[k]? = some x) : l.take (k + 1) = l.take k ++ [x] := by
  obtain ⟨hk, rfl⟩ := List.getElem?_eq_some_iff.1 h
  rw [List.take_succ_eq_append_getElem hk]
set_option maxHeartbeats 1000000 in
theorem jlong_c (A : Option Addr) (n cap : Nat) (l : List ActJ) {r : Bool} (w : World) (h : ActsJAt w A l) (hn : l.length = n) (hl : n ≤ 9223372036854775807) (hs : ∀ x ∈ l, x.key.size ≤ 9223372036854775807) (hr : decide (4000 ≤ bulkJ l) = r) :
    Calls Try.prog 16 #[.slice A n cap] w fun e w' => e = .returned (.bool r) ∧ w = w' := by
  have HR := Lib.hid hr
  have HS := Lib.hid hs
  have HN := Lib.hid hn
  clear hr hs hn
  go_enter Try.func16, Try.ntmps16
  go_wp2
  go_loop [3, 4] (fun o i => ∃ k : Nat, k ≤ n ∧ (∃ V : Nat, o = .int .i64 (V : Int) ∧ bulkJ (l.take k) = V ∧ V ≤ 8041) ∧ i = .int .i64 (k : Int)) (fun _ i => n - (intOf i).toNat)
  case atStart => exact ⟨0, by omega, ⟨0, by simp, by simp [bulkJ], by omega⟩, by simp⟩
  case round =>
    obtain ⟨k, hk, ⟨V, rfl, hV, hV8⟩, rfl⟩ := hrel
    have HV := Lib.hid hV
    clear hV
    by_cases c : k < n
    · have c1 : decide ((k : Int) < (n : Int)) = true := decide_eq_true (by omega)
      have i0 : (0 : Int) ≤ (k : Int) := by omega
      have i1 : (k : Int) < (n : Int) := by omega
      by_cases d : V < 4000
      · have d1 : decide ((V : Int) < 4000) = true := decide_eq_true (by omega)
        have d2 : decide (V < 4000) = true := decide_eq_true d
        obtain ⟨x, hx⟩ : ∃ x, l[k]? = some x := ⟨l[k]'(by have := HN.out; omega), List.getElem?_eq_getElem _⟩
        have hsz := HS.out x (List.mem_of_getElem? hx)
        cases A with
        | none => exact absurd (h.none_ rfl) (by intro e; rw [e] at hx; simp at hx)
        | some a =>
          have hc := (h.cell a rfl k x hx).flat.1
          have st := bulkJ_snoc (l.take k) x
          rw [← takeJ_next l k x hx, HV.out] at st
          have ST := Lib.hid st
          have HS2 := Lib.hid hx
          clear st hx
          obtain ⟨z, hz⟩ : ∃ z : Nat, min 4000 x.key.size = z := ⟨_, rfl⟩
          have hz1 : min 4000 (x.key.size : Int) = (z : Int) := by omega
          have hz2 : z ≤ 4000 := by omega
          have ST2 : Hid (bulkJ (l.take (k + 1)) = V + (20 + z)) := by have := ST.out; rw [hz] at this; exact this
          clear hz
          go_wp2
          go_round
          case rel => exact ⟨k + 1, by omega, ⟨V + (20 + z), by simp; omega, ST2.out, by omega⟩, by go_num⟩
          case measure => simp [intOf]; omega
      · have d1 : decide ((V : Int) < 4000) = false := decide_eq_false (by omega)
        have d2 : decide (V < 4000) = false := decide_eq_false d
        have hr2 : r = true := by
          rw [← HR.out]; apply decide_eq_true
          have := bulkJ_take l k
          rw [HV.out] at this; omega
        subst hr2
        have d3 : decide ((4000 : Int) ≤ (V : Int)) = true := decide_eq_true (by omega)
        have d4 : decide (4000 ≤ V) = true := decide_eq_true (by omega)
        go_wp2
        go_ret
        exact ⟨rfl, rfl⟩
    · have c1 : decide ((k : Int) < (n : Int)) = false := decide_eq_false (by omega)
      have e := HV.out
      rw [List.take_of_length_le (by have := HN.out; omega)] at e
      have hr2 : decide (4000 ≤ V) = r := by rw [← HR.out, e]
      cases r with
      | true =>
        have d3 : decide ((4000 : Int) ≤ (V : Int)) = true := decide_eq_true (by have := of_decide_eq_true hr2; omega)
        go_wp2
        go_ret
        exact ⟨rfl, rfl⟩
      | false =>
        have d3 : decide ((4000 : Int) ≤ (V : Int)) = false := decide_eq_false (by have := of_decide_eq_false hr2; omega)
        go_wp2
        go_ret
        exact ⟨rfl, rfl⟩
end Go.Proofs.Ytjnccpbedffijaa
