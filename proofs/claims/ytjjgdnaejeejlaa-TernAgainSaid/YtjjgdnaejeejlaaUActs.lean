/- Items and acts of the statements of layer 12 that come in: how they are read; how long acts are. -/
import Derived.Test.YtjjgdnaejeejlaaUIs
import Derived.Test.YtjjgdnaejeejlaaOpen
import Derived.Test.YtjjgdnaejeejlaaSOpen
import Derived.Deep.Slices
import Derived.WideKeyArgs
import Derived.Deep.Frames
import Derived.StillTailTactics
namespace Go.Proofs.Ytjjgdnaejeejlaa
set_option linter.unusedVariables false
open Go.ChangeShapes Go.WideShapes Go.ChangeAt Go.RowKit Go.Joins Go.Deep

/-- An item that Go holds. -/
structure ItN.Ok (x : ItN) : Prop where
  ks : x.key.size ≤ maxLen
  ms : x.mask.size ≤ maxLen
  p0 : -9223372036854775808 ≤ x.prio
  p1 : x.prio ≤ 9223372036854775807
  v0 : -9223372036854775808 ≤ x.v
  v1 : x.v ≤ 9223372036854775807
theorem cellsItem12 : Try.prog.cellsOf 23 = 4 := by kernel_rfl
theorem fieldsItem12 : ∃ f0 f1 f2 f3 : Field, Try.prog.underlying 23 = some (.struct #[f0, f1, f2, f3]) ∧ (f0.type = 9 ∧ f0.offset = 0) ∧ (f1.type = 9 ∧ f1.offset = 1) ∧ (f2.type = 3 ∧ f2.offset = 2) ∧ (f3.type = 3 ∧ f3.offset = 3) :=
  ⟨_, _, _, _, Try.underlying23, ⟨rfl, rfl⟩, ⟨rfl, rfl⟩, ⟨rfl, rfl⟩, ⟨rfl, rfl⟩⟩
theorem cells1U : Try.prog.cellsOf 5 = 1 ∧ Try.prog.cellsOf 9 = 1 ∧ Try.prog.cellsOf 3 = 1 := ⟨by kernel_rfl, by kernel_rfl, by kernel_rfl⟩
set_option maxRecDepth 20000 in
theorem open_itemU {H : Type} {enc : TypeId × Value → H} {w : World} {base : Nat} {spare : Nat → Bool} {held : Bool} {fuel : Nat} {cs : List Value} {x : DataW H × List MemPlace}
    (h : DataW.trod enc Try.prog w base spare held fuel 23 cs = some x) :
    ∃ y : ItN, y.Ok ∧ cs = [.string y.key, .string y.mask, .int .i64 y.prio, .int .i64 y.v] := by
  obtain ⟨f0, f1, f2, f3, hu, ⟨t0, o0⟩, ⟨t1, o1⟩, ⟨t2, o2⟩, ⟨t3, o3⟩⟩ := fieldsItem12
  obtain ⟨xs, n, _, _, hlen, hxl, hg⟩ := DataW.trod_struct hu h
  have hx3 : xs.length = 4 := hxl
  obtain ⟨e8, es, ei⟩ := cells1U
  rw [cellsItem12] at hlen
  match cs, hlen with
  | [c0, c1, c2, c3], _ =>
    have g0 := hg 0 f0 rfl
    have g1 := hg 1 f1 rfl
    have g2 := hg 2 f2 rfl
    have g3 := hg 3 f3 rfl
    rw [t0, o0, es] at g0
    rw [t1, o1, es] at g1
    rw [t2, o2, ei] at g2
    rw [t3, o3, ei] at g3
    simp only [List.drop_zero, List.drop_succ_cons, List.take_succ_cons, List.take_zero] at g0 g1 g2 g3
    have some_of : ∀ {i : Nat} (hi : i < 4), ∃ y, xs[i]? = some y := fun {i} hi => ⟨xs[i]'(by omega), List.getElem?_eq_getElem _⟩
    obtain ⟨y0, hy0⟩ := some_of (i := 0) (by omega)
    obtain ⟨y1, hy1⟩ := some_of (i := 1) (by omega)
    obtain ⟨y2, hy2⟩ := some_of (i := 2) (by omega)
    obtain ⟨y3, hy3⟩ := some_of (i := 3) (by omega)
    rw [hy0] at g0; rw [hy1] at g1; rw [hy2] at g2; rw [hy3] at g3
    obtain ⟨s0, q0, _, w0⟩ := DataW.trod_string Try.underlying9 g0
    obtain ⟨s1, q1, _, w1⟩ := DataW.trod_string Try.underlying9 g1
    obtain ⟨v2, q2, _, w2⟩ := DataW.trod_int Try.underlying3 g2
    obtain ⟨v3, q3, _, w3⟩ := DataW.trod_int Try.underlying3 g3
    simp only [List.cons.injEq, and_true] at q0 q1 q2 q3
    obtain ⟨b2, b2'⟩ := bounds_i64 w2
    obtain ⟨b3, b3'⟩ := bounds_i64 w3
    refine ⟨⟨s0, s1, v2, v3⟩, ⟨w0, w1, b2, b2', b3, b3'⟩, ?_⟩
    rw [q0, q1, q2, q3]
set_option maxRecDepth 20000 in
theorem open_item {H : Type} {enc : TypeId × Value → H} {w : World} {base : Nat} {spare : Nat → Bool} {held : Bool} {r : Reach} {b0 : Nat} {v : Value} {d : DataW H} {p : List MemPlace} (hv : Value.okWide Try.prog w r b0 23 v)
    (h : DataW.Trod enc Try.prog w base spare held 23 v d p) : ∃ x : ItN, x.Ok ∧ v = aggI x := by
  obtain ⟨cs, rfl, hsz⟩ := okWide_struct Try.underlying23 hv
  obtain ⟨fuel, hf⟩ := h
  obtain ⟨y, hy, e⟩ := open_itemU hf
  refine ⟨y, hy, ?_⟩
  have e2 : cs = #[.string y.key, .string y.mask, .int .i64 y.prio, .int .i64 y.v] := by
    apply Array.toList_inj.1
    exact e
  rw [e2]
/-- An act: what, an item. -/
structure ActU where
  what : Nat
  x : ItN
structure ActU.Ok (y : ActU) : Prop where
  k1 : y.what < 256
  x : y.x.Ok
structure ActUAt (w : World) (a : Addr) (y : ActU) : Prop where
  c0 : w.cell? a = some (.int .u8 (y.what : Int))
  c1 : w.cell? (a.add 1) = some (.string y.x.key)
  c2 : w.cell? (a.add 2) = some (.string y.x.mask)
  c3 : w.cell? (a.add 3) = some (.int .i64 y.x.prio)
  c4 : w.cell? (a.add 4) = some (.int .i64 y.x.v)
theorem ActUAt.on {W w : World} {a : Addr} {x : ActU} (h : ActUAt W a x) (g : Wider W w) : ActUAt w a x := ⟨wkeep g h.c0, wkeep g h.c1, wkeep g h.c2, wkeep g h.c3, wkeep g h.c4⟩
theorem ActUAt.flat {w : World} {a : Addr} {x : ActU} (h : ActUAt w a x) : w.cell? ⟨a.block, a.off + 1, none⟩ = some (.string x.x.key) ∧ w.cell? ⟨a.block, a.off + 1 + 1, none⟩ = some (.string x.x.mask) ∧ w.cell? ⟨a.block, a.off + 1 + 2, none⟩ = some (.int .i64 x.x.prio) ∧ w.cell? ⟨a.block, a.off + 1 + 3, none⟩ = some (.int .i64 x.x.v) := by
  have e : ∀ i, i ≠ 0 → a.add i = ⟨a.block, a.off + i, none⟩ := fun i hi => by unfold Addr.add; simp [hi]
  exact ⟨by rw [← e 1 (by decide)]; exact h.c1, by rw [Nat.add_assoc, ← e (1 + 1) (by decide)]; exact h.c2, by rw [Nat.add_assoc, ← e (1 + 2) (by decide)]; exact h.c3, by rw [Nat.add_assoc, ← e (1 + 3) (by decide)]; exact h.c4⟩
structure ActsUAt (w : World) (A : Option Addr) (l : List ActU) : Prop where
  none_ : A = none → l = []
  cell : ∀ a, A = some a → ∀ j x, l[j]? = some x → ActUAt w (a.add (j * 5)) x
theorem ActsUAt.on {W w : World} {A : Option Addr} {l : List ActU} (h : ActsUAt W A l) (g : Wider W w) : ActsUAt w A l :=
  ⟨h.none_, fun a e j s hs => (h.cell a e j s hs).on g⟩
theorem cellsActU : Try.prog.cellsOf 79 = 5 := by kernel_rfl
theorem fieldsActU : ∃ f0 f1 : Field, Try.prog.underlying 79 = some (.struct #[f0, f1]) ∧ (f0.type = 5 ∧ f0.offset = 0) ∧ (f1.type = 23 ∧ f1.offset = 1) :=
  ⟨_, _, Try.underlying79, ⟨rfl, rfl⟩, ⟨rfl, rfl⟩⟩
set_option maxRecDepth 20000 in
theorem open_actU {H : Type} {enc : TypeId × Value → H} {w : World} {base : Nat} {spare : Nat → Bool} {held : Bool} {fuel : Nat} {cs : List Value} {x : DataW H × List MemPlace}
    (h : DataW.trod enc Try.prog w base spare held fuel 79 cs = some x) :
    ∃ y : ActU, y.Ok ∧ cs = [.int .u8 (y.what : Int), .string y.x.key, .string y.x.mask, .int .i64 y.x.prio, .int .i64 y.x.v] := by
  obtain ⟨f0, f1, hu, ⟨t0, o0⟩, ⟨t1, o1⟩⟩ := fieldsActU
  obtain ⟨xs, n, _, _, hlen, hxl, hg⟩ := DataW.trod_struct hu h
  have hx3 : xs.length = 2 := hxl
  obtain ⟨e8, es, ei⟩ := cells1U
  rw [cellsActU] at hlen
  match cs, hlen with
  | [c0, c1, c2, c3, c4], _ =>
    have g0 := hg 0 f0 rfl
    have g1 := hg 1 f1 rfl
    rw [t0, o0, e8] at g0
    rw [t1, o1, cellsItem12] at g1
    simp only [List.drop_zero, List.drop_succ_cons, List.take_succ_cons, List.take_zero] at g0 g1
    have some_of : ∀ {i : Nat} (hi : i < 2), ∃ y, xs[i]? = some y := fun {i} hi => ⟨xs[i]'(by omega), List.getElem?_eq_getElem _⟩
    obtain ⟨y0, hy0⟩ := some_of (i := 0) (by omega)
    obtain ⟨y1, hy1⟩ := some_of (i := 1) (by omega)
    rw [hy0] at g0; rw [hy1] at g1
    obtain ⟨v0, q0, _, w0⟩ := DataW.trod_int Try.underlying5 g0
    obtain ⟨y, hy, q1⟩ := open_itemU g1
    simp only [List.cons.injEq, and_true] at q0 q1
    obtain ⟨q1, q2, q3, q4⟩ := q1
    have b0 : 0 ≤ v0 ∧ v0 < 256 := by
      simp only [Lit.wf, Bool.and_eq_true, decide_eq_true_eq] at w0
      have h1 : IntKind.u8.min = 0 := rfl
      have h2 : IntKind.u8.max = 255 := rfl
      omega
    refine ⟨⟨v0.toNat, y⟩, ⟨by show v0.toNat < 256; omega, hy⟩, ?_⟩
    rw [q0, q1, q2, q3, q4]
    show [_, _, _, _, _] = [Value.int .u8 (v0.toNat : Int), _, _, _, _]
    rw [Int.toNat_of_nonneg b0.1]
theorem open_actsU {H : Type} {enc : TypeId × Value → H} {w : World} {base : Nat} {fuel : Nat} {A : Option Addr} {len cap : Nat} {x : DataW H × List MemPlace}
    (h : DataW.trod enc Try.prog w base (fun _ => true) true fuel 40 [.slice A len cap] = some x) :
    ∃ l : List ActU, l.length = len ∧ ActsUAt w A l ∧ l.length ≤ maxLen ∧ ∀ y ∈ l, y.Ok := by
  rcases open_slice Try.underlying40 h with ⟨hcs, _⟩ | ⟨a, len', cap', m, n, D, Pl, hcs, hb, hl, hm, hmm, _, hi⟩
  · simp at hcs
    obtain ⟨rfl, rfl, rfl⟩ := hcs
    exact ⟨[], rfl, ⟨fun _ => rfl, fun a e => by cases e⟩, by simp [maxLen], by simp⟩
  · simp at hcs
    obtain ⟨rfl, rfl, rfl⟩ := hcs
    simp only [if_true] at hmm
    subst hmm
    have hk : ∀ i, i < len → ∃ y : ActU, y.Ok ∧ ActUAt w (a.add (i * 5)) y := by
      intro i hlt
      obtain ⟨cs, hc, ht⟩ := hi i (by omega)
      rw [cellsActU] at hc
      obtain ⟨_, hcl, hat⟩ := World.cells?_some hc
      obtain ⟨y, hy, rfl⟩ := open_actU ht
      have a0 := hat 0 (by omega)
      have z : (a.add (i * 5)).add 0 = a.add (i * 5) := by unfold Addr.add; simp
      rw [z] at a0
      exact ⟨y, hy, ⟨a0, hat 1 (by omega), hat 2 (by omega), hat 3 (by omega), hat 4 (by omega)⟩⟩
    obtain ⟨F, hF⟩ : ∃ F : Nat → ActU, ∀ i, i < len → (F i).Ok ∧ ActUAt w (a.add (i * 5)) (F i) := by
      refine ⟨fun i => if h : i < len then (hk i h).choose else ⟨0, ⟨ByteArray.empty, ByteArray.empty, 0, 0⟩⟩, fun i h => ?_⟩
      simp only [dif_pos h]
      exact (hk i h).choose_spec
    refine ⟨(List.range len).map F, by simp, ⟨(fun e => by cases e), fun b e j y hj => ?_⟩, by simp; omega, fun y hy => ?_⟩
    · obtain rfl : a = b := by injection e
      rw [List.getElem?_map] at hj
      by_cases c : j < len
      · rw [List.getElem?_range c] at hj
        simp only [Option.map_some, Option.some.injEq] at hj
        rw [← hj]; exact (hF j c).2
      · rw [List.getElem?_eq_none (by simpa using c)] at hj
        cases hj
    · obtain ⟨i, hi, rfl⟩ := List.mem_map.1 hy
      exact (hF i (List.mem_range.1 hi)).1

/-! ### How much acts are -/
def costU (x : ActU) : Nat := 20 + min 4000 x.x.key.size + min 4000 x.x.mask.size
def bulkU (l : List ActU) : Nat := (l.map costU).sum
theorem bulkU_snoc (l : List ActU) (x : ActU) : bulkU (l ++ [x]) = bulkU l + (20 + min 4000 x.x.key.size + min 4000 x.x.mask.size) := by unfold bulkU; simp [costU]
theorem bulkU_take (l : List ActU) (k : Nat) : bulkU (l.take k) ≤ bulkU l := by
  have e : bulkU l = bulkU (l.take k) + bulkU (l.drop k) := by
    unfold bulkU; rw [← List.sum_append, ← List.map_append, List.take_append_drop]
  omega
theorem bulkU_length (l : List ActU) : 20 * l.length ≤ bulkU l := by
  induction l with
  | nil => simp
  | cons x l ih => unfold bulkU at *; simp only [List.map_cons, List.sum_cons, List.length_cons, costU]; omega
theorem bulkU_mem {l : List ActU} {x : ActU} (h : x ∈ l) : 20 + min 4000 x.x.key.size + min 4000 x.x.mask.size ≤ bulkU l := by
  induction l with
  | nil => cases h
  | cons y l ih =>
    have e : bulkU (y :: l) = costU y + bulkU l := by unfold bulkU; simp
    rw [e]
    rcases List.mem_cons.1 h with rfl | h
    · unfold costU; omega
    · have := ih h; omega
theorem takeU_next (l : List ActU) (k : Nat) (x : ActU) (h : l[k]? = some x) : l.take (k + 1) = l.take k ++ [x] := by
  obtain ⟨hk, rfl⟩ := List.getElem?_eq_some_iff.1 h
  rw [List.take_succ_eq_append_getElem hk]
set_option maxRecDepth 20000 in
set_option maxHeartbeats 4000000 in
theorem ulong_c (A : Option Addr) (n cap : Nat) (l : List ActU) {r : Bool} (w : World) (h : ActsUAt w A l) (hn : l.length = n) (hl : n ≤ 9223372036854775807) (hs : ∀ x ∈ l, x.x.key.size ≤ 9223372036854775807 ∧ x.x.mask.size ≤ 9223372036854775807) (hr : decide (4000 ≤ bulkU l) = r) :
    Calls Try.prog 22 #[.slice A n cap] w fun e w' => e = .returned (.bool r) ∧ Wider w w' := by
  have HR := Lib.hid hr
  have HS := Lib.hid hs
  have HN := Lib.hid hn
  have HH := Lib.hid h
  clear hr hs hn h
  have H := Wider.refl w
  go_enter Try.func22, Try.ntmps22
  go_wp2
  go_loopw [3, 4] (fun o i wr => ∃ k : Nat, k ≤ n ∧ (∃ V : Nat, o = .int .i64 (V : Int) ∧ bulkU (l.take k) = V ∧ V ≤ 12041) ∧ i = .int .i64 (k : Int) ∧ Wider w wr) (fun _ i _ => n - (intOf i).toNat)
  case atStart => exact ⟨0, by omega, ⟨0, by simp, by simp [bulkU], by omega⟩, by simp, H⟩
  case round =>
    clear H
    obtain ⟨k, hk, ⟨V, rfl, hV, hV8⟩, rfl, H⟩ := hrel
    have HV := Lib.hid hV
    clear hV
    by_cases c : k < n
    · have c1 : decide ((k : Int) < (n : Int)) = true := decide_eq_true (by omega)
      have i0 : (0 : Int) ≤ (k : Int) := by omega
      have i1 : (k : Int) < (n : Int) := by omega
      by_cases d : V < 4000
      · have d1 : decide ((V : Int) < 4000) = true := decide_eq_true (by omega)
        have d2 : decide (V < 4000) = true := decide_eq_true d
        obtain ⟨x, hx⟩ : ∃ x, l[k]? = some x := ⟨l[k]'(by have := HN.out; omega), List.getElem?_eq_getElem _⟩
        have hsz := (HS.out x (List.mem_of_getElem? hx)).1
        have hsm := (HS.out x (List.mem_of_getElem? hx)).2
        cases A with
        | none => exact absurd (HH.out.none_ rfl) (by intro e; rw [e] at hx; simp at hx)
        | some a =>
          have hat := (HH.out.cell a rfl k x hx).on H
          have hc := hat.flat.1
          have hd := hat.flat.2.1
          have st := bulkU_snoc (l.take k) x
          rw [← takeU_next l k x hx, HV.out] at st
          clear hx hat
          obtain ⟨z, hz⟩ : ∃ z : Nat, min 4000 x.x.key.size = z := ⟨_, rfl⟩
          obtain ⟨y, hy⟩ : ∃ y : Nat, min 4000 x.x.mask.size = y := ⟨_, rfl⟩
          have hz1 : min 4000 (x.x.key.size : Int) = (z : Int) := by omega
          have hy1 : min 4000 (x.x.mask.size : Int) = (y : Int) := by omega
          have hz2 : z ≤ 4000 := by omega
          have hy2 : y ≤ 4000 := by omega
          rw [hz, hy] at st
          have ST := Lib.hid st
          obtain ⟨K, hK⟩ : ∃ K, x.x.key = K := ⟨_, rfl⟩
          obtain ⟨M, hM⟩ : ∃ M, x.x.mask = M := ⟨_, rfl⟩
          rw [hK] at hc hz1 hsz
          rw [hM] at hd hy1 hsm
          clear st hz hy hK hM
          go_upto_region 5 with (fail)
          go_still_tail 20, (by kernel_rfl)
          change wpList _ _ _ _ _ wr.drew
          have H2 := H.drew
          clear hc hd H
          go_wp2
          go_roundw
          case rel => exact ⟨k + 1, by omega, ⟨V + (20 + z + y), by simp [IntKind.wrap, IntKind.bits, IntKind.signed]; omega, ST.out, by omega⟩, by go_num, H2⟩
          case measure => simp [intOf]; omega
      · have d1 : decide ((V : Int) < 4000) = false := decide_eq_false (by omega)
        have d2 : decide (V < 4000) = false := decide_eq_false d
        have hr2 : r = true := by
          rw [← HR.out]; apply decide_eq_true
          have := bulkU_take l k
          rw [HV.out] at this; omega
        subst hr2
        have d3 : decide ((4000 : Int) ≤ (V : Int)) = true := decide_eq_true (by omega)
        have d4 : decide (4000 ≤ V) = true := decide_eq_true (by omega)
        go_wp2
        go_ret
        exact ⟨rfl, H⟩
    · have c1 : decide ((k : Int) < (n : Int)) = false := decide_eq_false (by omega)
      have e := HV.out
      rw [List.take_of_length_le (by have := HN.out; omega)] at e
      have hr2 : decide (4000 ≤ V) = r := by rw [← HR.out, e]
      cases r with
      | true =>
        have d3 : decide ((4000 : Int) ≤ (V : Int)) = true := decide_eq_true (by have := of_decide_eq_true hr2; omega)
        go_wp2
        go_ret
        exact ⟨rfl, H⟩
      | false =>
        have d3 : decide ((4000 : Int) ≤ (V : Int)) = false := decide_eq_false (by have := of_decide_eq_false hr2; omega)
        go_wp2
        go_ret
        exact ⟨rfl, H⟩
end Go.Proofs.Ytjjgdnaejeejlaa
