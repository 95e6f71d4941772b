/- A slice of acts of the statements of layer 13 that comes in: how it is read. -/
import Derived.Test.YtpdhahghpdckeaaOpen
import Derived.Test.YtpdhahghpdckeaaSOpen
import Derived.Test.YtpdhahghpdckeaaVUse
import Derived.Deep.Slices
import Derived.WideKeyArgs
import Derived.Deep.Frames
import Derived.WalkKit
import Derived.StillTail
import Derived.StillTailTactics
import Derived.Lib.Hide
namespace Go.Proofs.Ytpdhahghpdckeaa
set_option linter.unusedVariables false
open Go.ChangeShapes Go.WideShapes Go.ChangeAt Go.RowKit Go.Joins Go.Deep

/-- An act: what, a range, its priority, a number. -/
structure ActR where
  what : Nat
  low : ByteArray
  high : ByteArray
  n : Int
  v : Int
structure ActR.Ok (x : ActR) : Prop where
  k1 : x.what < 256
  ks : x.low.size ≤ maxLen
  hs : x.high.size ≤ maxLen
  n0 : -9223372036854775808 ≤ x.n
  n1 : x.n ≤ 9223372036854775807
  v0 : -9223372036854775808 ≤ x.v
  v1 : x.v ≤ 9223372036854775807
/-- An act's five cells at a. -/
structure ActRAt (w : World) (a : Addr) (x : ActR) : Prop where
  c0 : w.cell? a = some (.int .u8 (x.what : Int))
  c1 : w.cell? (a.add 1) = some (.string x.low)
  c2 : w.cell? (a.add 2) = some (.string x.high)
  c3 : w.cell? (a.add 3) = some (.int .i64 x.n)
  c4 : w.cell? (a.add 4) = some (.int .i64 x.v)
theorem ActRAt.on {W w : World} {a : Addr} {x : ActR} (h : ActRAt W a x) (g : Wider W w) : ActRAt w a x := ⟨wkeep g h.c0, wkeep g h.c1, wkeep g h.c2, wkeep g h.c3, wkeep g h.c4⟩
theorem ActRAt.flat {w : World} {a : Addr} {x : ActR} (h : ActRAt w a x) : w.cell? ⟨a.block, a.off + 1, none⟩ = some (.string x.low) ∧ w.cell? ⟨a.block, a.off + 2, none⟩ = some (.string x.high) ∧ w.cell? ⟨a.block, a.off + 3, none⟩ = some (.int .i64 x.n) ∧ w.cell? ⟨a.block, a.off + 4, none⟩ = some (.int .i64 x.v) := by
  have e : ∀ i, i ≠ 0 → a.add i = ⟨a.block, a.off + i, none⟩ := fun i hi => by unfold Addr.add; simp [hi]
  exact ⟨by rw [← e 1 (by decide)]; exact h.c1, by rw [← e 2 (by decide)]; exact h.c2, by rw [← e 3 (by decide)]; exact h.c3, by rw [← e 4 (by decide)]; exact h.c4⟩
structure ActsRAt (w : World) (A : Option Addr) (l : List ActR) : Prop where
  none_ : A = none → l = []
  cell : ∀ a, A = some a → ∀ j x, l[j]? = some x → ActRAt w (a.add (j * 5)) x
theorem ActsRAt.on {W w : World} {A : Option Addr} {l : List ActR} (h : ActsRAt W A l) (g : Wider W w) : ActsRAt w A l :=
  ⟨h.none_, fun a e j s hs => (h.cell a e j s hs).on g⟩

theorem cellsActR : Try.prog.cellsOf 51 = 5 := by kernel_rfl
theorem fieldsActR : ∃ f0 f1 f2 f3 f4 : Field, Try.prog.underlying 51 = some (.struct #[f0, f1, f2, f3, f4]) ∧ (f0.type = 5 ∧ f0.offset = 0) ∧ (f1.type = 9 ∧ f1.offset = 1) ∧ (f2.type = 9 ∧ f2.offset = 2) ∧ (f3.type = 3 ∧ f3.offset = 3) ∧ (f4.type = 3 ∧ f4.offset = 4) :=
  ⟨_, _, _, _, _, Try.underlying51, ⟨rfl, rfl⟩, ⟨rfl, rfl⟩, ⟨rfl, rfl⟩, ⟨rfl, rfl⟩, ⟨rfl, rfl⟩⟩
theorem cells1R : Try.prog.cellsOf 5 = 1 ∧ Try.prog.cellsOf 9 = 1 ∧ Try.prog.cellsOf 3 = 1 := ⟨by kernel_rfl, by kernel_rfl, by kernel_rfl⟩
theorem open_actR {H : Type} {enc : TypeId × Value → H} {w : World} {base : Nat} {spare : Nat → Bool} {held : Bool} {fuel : Nat} {cs : List Value} {x : DataW H × List MemPlace}
    (h : DataW.trod enc Try.prog w base spare held fuel 51 cs = some x) :
    ∃ y : ActR, y.Ok ∧ cs = [.int .u8 (y.what : Int), .string y.low, .string y.high, .int .i64 y.n, .int .i64 y.v] := by
  obtain ⟨f0, f1, f2, f3, f4, hu, ⟨t0, o0⟩, ⟨t1, o1⟩, ⟨t2, o2⟩, ⟨t3, o3⟩, ⟨t4, o4⟩⟩ := fieldsActR
  obtain ⟨xs, n, _, _, hlen, hxl, hg⟩ := DataW.trod_struct hu h
  have hx3 : xs.length = 5 := hxl
  obtain ⟨e8, es, ei⟩ := cells1R
  rw [cellsActR] at hlen
  match cs, hlen with
  | [c0, c1, c2, c3, c4], _ =>
    have g0 := hg 0 f0 rfl
    have g1 := hg 1 f1 rfl
    have g2 := hg 2 f2 rfl
    have g3 := hg 3 f3 rfl
    have g4 := hg 4 f4 rfl
    rw [t0, o0, e8] at g0
    rw [t1, o1, es] at g1
    rw [t2, o2, es] at g2
    rw [t3, o3, ei] at g3
    rw [t4, o4, ei] at g4
    simp only [List.drop_zero, List.drop_succ_cons, List.take_succ_cons, List.take_zero] at g0 g1 g2 g3 g4
    have some_of : ∀ {i : Nat} (hi : i < 5), ∃ y, xs[i]? = some y := fun {i} hi => ⟨xs[i]'(by omega), List.getElem?_eq_getElem _⟩
    obtain ⟨y0, hy0⟩ := some_of (i := 0) (by omega)
    obtain ⟨y1, hy1⟩ := some_of (i := 1) (by omega)
    obtain ⟨y2, hy2⟩ := some_of (i := 2) (by omega)
    obtain ⟨y3, hy3⟩ := some_of (i := 3) (by omega)
    obtain ⟨y4, hy4⟩ := some_of (i := 4) (by omega)
    rw [hy0] at g0; rw [hy1] at g1; rw [hy2] at g2; rw [hy3] at g3; rw [hy4] at g4
    obtain ⟨v0, q0, _, w0⟩ := DataW.trod_int Try.underlying5 g0
    obtain ⟨s1, q1, _, w1⟩ := DataW.trod_string Try.underlying9 g1
    obtain ⟨s2, q2, _, w2⟩ := DataW.trod_string Try.underlying9 g2
    obtain ⟨v3, q3, _, w3⟩ := DataW.trod_int Try.underlying3 g3
    obtain ⟨v4, q4, _, w4⟩ := DataW.trod_int Try.underlying3 g4
    simp only [List.cons.injEq, and_true] at q0 q1 q2 q3 q4
    have b0 : 0 ≤ v0 ∧ v0 < 256 := by
      simp only [Lit.wf, Bool.and_eq_true, decide_eq_true_eq] at w0
      have h1 : IntKind.u8.min = 0 := rfl
      have h2 : IntKind.u8.max = 255 := rfl
      omega
    obtain ⟨b3, b3'⟩ := bounds_i64 w3
    obtain ⟨b4, b4'⟩ := bounds_i64 w4
    refine ⟨⟨v0.toNat, s1, s2, v3, v4⟩, ⟨by show v0.toNat < 256; omega, w1, w2, b3, b3', b4, b4'⟩, ?_⟩
    rw [q0, q1, q2, q3, q4]
    show [_, _, _, _, _] = [Value.int .u8 (v0.toNat : Int), _, _, _, _]
    rw [Int.toNat_of_nonneg b0.1]
theorem open_actsR {H : Type} {enc : TypeId × Value → H} {w : World} {base : Nat} {fuel : Nat} {A : Option Addr} {len cap : Nat} {x : DataW H × List MemPlace}
    (h : DataW.trod enc Try.prog w base (fun _ => true) true fuel 37 [.slice A len cap] = some x) :
    ∃ l : List ActR, l.length = len ∧ ActsRAt w A l ∧ l.length ≤ maxLen ∧ ∀ y ∈ l, y.Ok := by
  rcases open_slice Try.underlying37 h with ⟨hcs, _⟩ | ⟨a, len', cap', m, n, D, Pl, hcs, hb, hl, hm, hmm, _, hi⟩
  · simp at hcs
    obtain ⟨rfl, rfl, rfl⟩ := hcs
    exact ⟨[], rfl, ⟨fun _ => rfl, fun a e => by cases e⟩, by simp [maxLen], by simp⟩
  · simp at hcs
    obtain ⟨rfl, rfl, rfl⟩ := hcs
    simp only [if_true] at hmm
    subst hmm
    have hk : ∀ i, i < len → ∃ y : ActR, y.Ok ∧ ActRAt w (a.add (i * 5)) y := by
      intro i hlt
      obtain ⟨cs, hc, ht⟩ := hi i (by omega)
      rw [cellsActR] at hc
      obtain ⟨_, hcl, hat⟩ := World.cells?_some hc
      obtain ⟨y, hy, rfl⟩ := open_actR ht
      have a0 := hat 0 (by omega)
      have a1 := hat 1 (by omega)
      have a2 := hat 2 (by omega)
      have z : (a.add (i * 5)).add 0 = a.add (i * 5) := by unfold Addr.add; simp
      rw [z] at a0
      exact ⟨y, hy, ⟨a0, a1, a2, hat 3 (by omega), hat 4 (by omega)⟩⟩
    obtain ⟨F, hF⟩ : ∃ F : Nat → ActR, ∀ i, i < len → (F i).Ok ∧ ActRAt w (a.add (i * 5)) (F i) := by
      refine ⟨fun i => if h : i < len then (hk i h).choose else ⟨0, ByteArray.empty, ByteArray.empty, 0, 0⟩, fun i h => ?_⟩
      simp only [dif_pos h]
      exact (hk i h).choose_spec
    refine ⟨(List.range len).map F, by simp, ⟨(fun e => by cases e), fun b e j y hj => ?_⟩, by simp; omega, fun y hy => ?_⟩
    · obtain rfl : a = b := by injection e
      rw [List.getElem?_map] at hj
      by_cases c : j < len
      · rw [List.getElem?_range c] at hj
        simp only [Option.map_some, Option.some.injEq] at hj
        rw [← hj]; exact (hF j c).2
      · rw [List.getElem?_eq_none (by simpa using c)] at hj
        cases hj
    · obtain ⟨i, hi, rfl⟩ := List.mem_map.1 hy
      exact (hF i (List.mem_range.1 hi)).1

/-! ### How much acts are -/
def costR (x : ActR) : Nat := 20 + min 6000 x.low.size + min 6000 x.high.size
def bulkR (l : List ActR) : Nat := (l.map costR).sum
theorem bulkR_snoc (l : List ActR) (x : ActR) : bulkR (l ++ [x]) = bulkR l + (20 + min 6000 x.low.size + min 6000 x.high.size) := by unfold bulkR; simp [costR]
theorem bulkR_take (l : List ActR) (k : Nat) : bulkR (l.take k) ≤ bulkR l := by
  have e : bulkR l = bulkR (l.take k) + bulkR (l.drop k) := by
    unfold bulkR; rw [← List.sum_append, ← List.map_append, List.take_append_drop]
  omega
theorem bulkR_length (l : List ActR) : 20 * l.length ≤ bulkR l := by
  induction l with
  | nil => simp
  | cons x l ih => unfold bulkR at *; simp only [List.map_cons, List.sum_cons, List.length_cons, costR]; omega
theorem bulkR_mem {l : List ActR} {x : ActR} (h : x ∈ l) : 20 + min 6000 x.low.size + min 6000 x.high.size ≤ bulkR l := by
  induction l with
  | nil => cases h
  | cons y l ih =>
    have e : bulkR (y :: l) = costR y + bulkR l := by unfold bulkR; simp
    rw [e]
    rcases List.mem_cons.1 h with rfl | h
    · unfold costR; omega
    · have := ih h; omega
theorem takeA_next (l : List ActR) (k : Nat) (x : ActR) (h : l[k]? = some x) : l.take (k + 1) = l.take k ++ [x] := by
  obtain ⟨hk, rfl⟩ := List.getElem?_eq_some_iff.1 h
  rw [List.take_succ_eq_append_getElem hk]
set_option maxRecDepth 20000 in
set_option maxHeartbeats 6000000 in
theorem vlong_c (A : Option Addr) (n cap : Nat) (l : List ActR) {r : Bool} (w : World) (h : ActsRAt w A l) (hn : l.length = n) (hl : n ≤ 9223372036854775807) (hs : ∀ x ∈ l, x.low.size ≤ 9223372036854775807 ∧ x.high.size ≤ 9223372036854775807) (hr : decide (6000 ≤ bulkR l) = r) :
    Calls Try.prog 16 #[.slice A n cap] w fun e w' => e = .returned (.bool r) ∧ Wider w w' := by
  have HR := Lib.hid hr
  have HS := Lib.hid hs
  have HN := Lib.hid hn
  have HH := Lib.hid h
  clear hr hs hn h
  have H := Wider.refl w
  go_enter Try.func16, Try.ntmps16
  go_wp2
  go_loopw [3, 4] (fun o i wr => ∃ k : Nat, k ≤ n ∧ (∃ V : Nat, o = .int .i64 (V : Int) ∧ bulkR (l.take k) = V ∧ V ≤ 18041) ∧ i = .int .i64 (k : Int) ∧ Wider w wr) (fun _ i _ => n - (intOf i).toNat)
  case atStart => exact ⟨0, by omega, ⟨0, by simp, by simp [bulkR], by omega⟩, by simp, H⟩
  case round =>
    clear H
    obtain ⟨k, hk, ⟨V, rfl, hV, hV8⟩, rfl, H⟩ := hrel
    have HV := Lib.hid hV
    clear hV
    by_cases c : k < n
    · have c1 : decide ((k : Int) < (n : Int)) = true := decide_eq_true (by omega)
      have i0 : (0 : Int) ≤ (k : Int) := by omega
      have i1 : (k : Int) < (n : Int) := by omega
      by_cases d : V < 6000
      · have d1 : decide ((V : Int) < 6000) = true := decide_eq_true (by omega)
        have d2 : decide (V < 6000) = true := decide_eq_true d
        obtain ⟨x, hx⟩ : ∃ x, l[k]? = some x := ⟨l[k]'(by have := HN.out; omega), List.getElem?_eq_getElem _⟩
        have hsz := (HS.out x (List.mem_of_getElem? hx)).1
        have hsm := (HS.out x (List.mem_of_getElem? hx)).2
        cases A with
        | none => exact absurd (HH.out.none_ rfl) (by intro e; rw [e] at hx; simp at hx)
        | some a =>
          have hat := (HH.out.cell a rfl k x hx).on H
          have hc := hat.flat.1
          have hd := hat.flat.2.1
          have st := bulkR_snoc (l.take k) x
          rw [← takeA_next l k x hx, HV.out] at st
          clear hx hat
          obtain ⟨z, hz⟩ : ∃ z : Nat, min 6000 x.low.size = z := ⟨_, rfl⟩
          obtain ⟨y, hy⟩ : ∃ y : Nat, min 6000 x.high.size = y := ⟨_, rfl⟩
          have hz1 : min 6000 (x.low.size : Int) = (z : Int) := by omega
          have hy1 : min 6000 (x.high.size : Int) = (y : Int) := by omega
          have hz2 : z ≤ 6000 := by omega
          have hy2 : y ≤ 6000 := by omega
          rw [hz, hy] at st
          have ST := Lib.hid st
          obtain ⟨K, hK⟩ : ∃ K, x.low = K := ⟨_, rfl⟩
          obtain ⟨M, hM⟩ : ∃ M, x.high = M := ⟨_, rfl⟩
          rw [hK] at hc hz1 hsz
          rw [hM] at hd hy1 hsm
          clear st hz hy hK hM
          go_upto_region 5 with (fail)
          go_still_tail 18, (by kernel_rfl)
          change wpList _ _ _ _ _ wr.drew
          have H2 := H.drew
          clear hc hd H
          go_wp2
          go_roundw
          case rel => exact ⟨k + 1, by omega, ⟨V + (20 + z + y), by simp [IntKind.wrap, IntKind.bits, IntKind.signed]; omega, ST.out, by omega⟩, by go_num, H2⟩
          case measure => simp [intOf]; omega
      · have d1 : decide ((V : Int) < 6000) = false := decide_eq_false (by omega)
        have d2 : decide (V < 6000) = false := decide_eq_false d
        have hr2 : r = true := by
          rw [← HR.out]; apply decide_eq_true
          have := bulkR_take l k
          rw [HV.out] at this; omega
        subst hr2
        have d3 : decide ((6000 : Int) ≤ (V : Int)) = true := decide_eq_true (by omega)
        have d4 : decide (6000 ≤ V) = true := decide_eq_true (by omega)
        go_wp2
        go_ret
        exact ⟨rfl, H⟩
    · have c1 : decide ((k : Int) < (n : Int)) = false := decide_eq_false (by omega)
      have e := HV.out
      rw [List.take_of_length_le (by have := HN.out; omega)] at e
      have hr2 : decide (6000 ≤ V) = r := by rw [← HR.out, e]
      cases r with
      | true =>
        have d3 : decide ((6000 : Int) ≤ (V : Int)) = true := decide_eq_true (by have := of_decide_eq_true hr2; omega)
        go_wp2
        go_ret
        exact ⟨rfl, H⟩
      | false =>
        have d3 : decide ((6000 : Int) ≤ (V : Int)) = false := decide_eq_false (by have := of_decide_eq_false hr2; omega)
        go_wp2
        go_ret
        exact ⟨rfl, H⟩
theorem string_few {H : Type} {ts : List TypeId} {t : TypeId} {ds : List (DataW H)} {l : List UInt8} (hz : (DataW.weightsEach Try.prog ts ds).all (· ≤ reachBytes) = true) (j : Nat) (ht : ts[j]? = some t) (hd : ds[j]? = some (.lit (.string l))) : l.length ≤ reachBytes := by
  have q := List.all_eq_true.1 hz l.length (DataW.weights_mem_each ht hd _ (by simp [DataW.weights]))
  simpa using q

end Go.Proofs.Ytpdhahghpdckeaa
