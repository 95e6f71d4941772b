/- Package rang: the best range within which a key is; where a range is: by walks of its code. -/
import Derived.Test.YtpdhahghpdckeaaVCodeA
namespace Go.Proofs.Ytpdhahghpdckeaa
set_option linter.unusedVariables false
open Go.ChangeShapes Go.WideShapes Go.ChangeAt Go.RowKit Go.Joins

theorem textR_ne {s t : ByteArray} (h : s ≠ t) : (s.toList == t.toList) = false := by
  rw [beq_eq_false_iff_ne]
  intro q
  rw [ByteArray.toList_eq, ByteArray.toList_eq] at q
  exact h (ba_ext q)
set_option maxHeartbeats 2000000 in
theorem vbetter_c (x y : ItR) {b : Bool} (hb : decide (y.prio < x.prio) = b) (w : World) : Calls Try.prog 26 #[aggR x, aggR y] w fun e w' => e = .returned (.bool b) ∧ Wider w w' := by
  obtain ⟨k1, m1, p1, v1⟩ := x
  obtain ⟨k2, m2, p2, v2⟩ := y
  show Calls Try.prog 26 #[.agg #[.string k1, .string m1, .int .i64 p1, .int .i64 v1], .agg #[.string k2, .string m2, .int .i64 p2, .int .i64 v2]] w _
  have hb : decide (p2 < p1) = b := hb
  have H := ((Wider.refl w).alloc (.cells #[.string k1, .string m1, .int .i64 p1, .int .i64 v1] 42)).alloc (.cells #[.string k2, .string m2, .int .i64 p2, .int .i64 v2] 42)
  subst hb
  go_enter Try.func26, Try.ntmps26
  go_wp2
  go_ret
  exact ⟨rfl, H⟩
set_option maxHeartbeats 2000000 in
/-- What Del asks of each range. -/
theorem vsame_c (x : ItR) {p l h : Nat} {low high : ByteArray} {prio : Int} {w : World} (cp : w.cell? ⟨p, 0, none⟩ = some (.int .i64 prio)) (cl : w.cell? ⟨l, 0, none⟩ = some (.string low)) (ch : w.cell? ⟨h, 0, none⟩ = some (.string high)) {b : Bool} (hb : decide (SameR x ⟨low, high, prio, 0⟩) = b) :
    Calls Try.prog 28 #[aggR x, .pointer (some ⟨p, 0, none⟩), .pointer (some ⟨l, 0, none⟩), .pointer (some ⟨h, 0, none⟩)] w fun e w' => e = .returned (.bool b) ∧ Wider w w' := by
  obtain ⟨k1, m1, p1, v1⟩ := x
  show Calls Try.prog 28 #[.agg #[.string k1, .string m1, .int .i64 p1, .int .i64 v1], _, _, _] w _
  have g0 := (Wider.refl w).alloc (.cells #[.string k1, .string m1, .int .i64 p1, .int .i64 v1] 42)
  have dp := wkeep g0 cp
  have dl := wkeep g0 cl
  have dh := wkeep g0 ch
  obtain ⟨x0, x1, x2, _⟩ := newR w ⟨k1, m1, p1, v1⟩
  clear cp cl ch
  have HB := Lib.hid hb
  clear hb
  by_cases e1 : p1 = prio
  · by_cases e2 : k1 = low
    · by_cases e3 : m1 = high
      · subst e1 e2 e3
        have z0 : (p1 == p1) = true := beq_self_eq_true _
        go_enter Try.func28, Try.ntmps28
        go_wp2
        go_ret
        refine ⟨?_, g0⟩
        rw [← HB.out]
        simp [SameR]
      · subst e1 e2
        have z0 : (p1 == p1) = true := beq_self_eq_true _
        have z1 := textR_ne e3
        go_enter Try.func28, Try.ntmps28
        go_wp2
        go_ret
        refine ⟨?_, g0⟩
        rw [← HB.out]
        simp [SameR, e3]
    · subst e1
      have z0 : (p1 == p1) = true := beq_self_eq_true _
      have z1 := textR_ne e2
      go_enter Try.func28, Try.ntmps28
      go_wp2
      go_ret
      refine ⟨?_, g0⟩
      rw [← HB.out]
      simp [SameR, e2]
  · have z0 : (p1 == prio) = false := by simpa using e1
    go_enter Try.func28, Try.ntmps28
    go_wp2
    go_ret
    refine ⟨?_, g0⟩
    rw [← HB.out]
    simp [SameR, e1]

/-! ### Rows of ranges -/
def ItemRAt (w : World) (B j : Nat) (x : ItR) : Prop := w.cell? ⟨B, j * 4, none⟩ = some (.string x.low) ∧ w.cell? ⟨B, j * 4 + 1, none⟩ = some (.string x.high) ∧ w.cell? ⟨B, j * 4 + 2, none⟩ = some (.int .i64 x.prio) ∧ w.cell? ⟨B, j * 4 + 3, none⟩ = some (.int .i64 x.v)
def ItemsAt (w : World) (A : Option Addr) (L : List ItR) : Prop := ∀ (j : Nat) (x : ItR), L[j]? = some x → ∃ B, A = some ⟨B, 0, none⟩ ∧ ItemRAt w B j x
theorem ItemRAt.on {W w : World} {B j : Nat} {x : ItR} (h : ItemRAt W B j x) (g : Wider W w) : ItemRAt w B j x := ⟨wkeep g h.1, wkeep g h.2.1, wkeep g h.2.2.1, wkeep g h.2.2.2⟩
theorem ItemsAt.on {W w : World} {A : Option Addr} {L : List ItR} (h : ItemsAt W A L) (g : Wider W w) : ItemsAt w A L := fun j x hj => by
  obtain ⟨B, e, hc⟩ := h j x hj
  exact ⟨B, e, hc.on g⟩
theorem rowR_slice {w : World} {E : TypeId} {k n : Nat} {v : Value} {xs : List Value} (h : w.ownsRow 0 E k v n xs) (hn : 0 < n) :
    ∃ B c, v = .slice (some ⟨B, 0, none⟩) n c ∧ ∀ j u, xs[j]? = some u → w.cell? ⟨B, j, none⟩ = some u := by
  have hh := h
  rcases h.2 with ⟨_, q2⟩ | ⟨g, cap, cur, rfl, hb, hg, r⟩
  · omega
  · refine ⟨g, cap, rfl, fun j u hu => ?_⟩
    have q := hh.cells (g := g) rfl j u hu
    rwa [Addr.add_lit, Nat.zero_add] at q
theorem itemsAt {w : World} {E : TypeId} {A : Option Addr} {n c : Nat} {L : List ItR} (h : w.ownsRow 0 E 4 (.slice A n c) n (cellsR L)) (hn : L.length = n) : ItemsAt w A L := fun j x hj => by
  have hl := (List.getElem?_eq_some_iff.1 hj).1
  obtain ⟨B, c2, e, hc⟩ := rowR_slice h (by omega)
  injection e with e1 e2 e3
  obtain ⟨a0, a1, a2, a3⟩ := cellsR_at L j x hj
  exact ⟨B, e1, hc _ _ a0, hc _ _ a1, hc _ _ a2, hc _ _ a3⟩
theorem widthsAt {w : World} {E : TypeId} {A : Option Addr} {n c : Nat} {ws : List Nat} (h : w.ownsRow 0 E 1 (.slice A n c) n (intsW ws)) (hn : ws.length = n) : WidthsAt w A ws := fun j m hj => by
  have hl := (List.getElem?_eq_some_iff.1 hj).1
  obtain ⟨B, c2, e, hc⟩ := rowR_slice h (by omega)
  injection e with e1 e2 e3
  exact ⟨B, e1, hc _ _ (intsW_at hj)⟩
def IndexR (L : List ItR) (x : ItR) (r : Int) : Prop := (r = -1 ∧ ∀ y ∈ L, ¬ SameR y x) ∨ ∃ (A B : List ItR) (y : ItR), L = A ++ y :: B ∧ SameR y x ∧ (∀ z ∈ A, ¬ SameR z x) ∧ r = (A.length : Int)
theorem IndexR.at {L : List ItR} {x : ItR} {r : Int} (h : IndexR L x r) {i : Nat} (hi : ∀ (j : Nat) (y : ItR), j < i → L[j]? = some y → ¬ SameR y x) {y : ItR} (hy : L[i]? = some y) (s : SameR y x) : r = (i : Int) := by
  rcases h with ⟨_, h⟩ | ⟨A, B, z, rfl, s2, hA, rfl⟩
  · exact absurd s (h y (List.mem_of_getElem? hy))
  · rcases Nat.lt_trichotomy i A.length with c | c | c
    · rw [List.getElem?_append_left c] at hy
      exact absurd s (hA y (List.mem_of_getElem? hy))
    · rw [c]
    · exact absurd s2 (hi A.length z c (by rw [List.getElem?_append_right (Nat.le_refl _), Nat.sub_self]; rfl))
theorem IndexR.none {L : List ItR} {x : ItR} {r : Int} (h : IndexR L x r) (hi : ∀ (j : Nat) (y : ItR), L[j]? = some y → ¬ SameR y x) : r = -1 := by
  rcases h with ⟨h, _⟩ | ⟨A, B, z, rfl, s2, hA, rfl⟩
  · exact h
  · exact absurd s2 (hi A.length z (by rw [List.getElem?_append_right (Nat.le_refl _), Nat.sub_self]; rfl))
set_option maxRecDepth 20000 in
set_option maxHeartbeats 4000000 in
theorem vindex_c {w : World} {A : Option Addr} {n c : Nat} {L : List ItR} (hL : ItemsAt w A L) (hn : L.length = n) (hl : n < 1000000) {p l h : Nat} {low high : ByteArray} {prio : Int} (cp : w.cell? ⟨p, 0, none⟩ = some (.int .i64 prio)) (cl : w.cell? ⟨l, 0, none⟩ = some (.string low)) (ch : w.cell? ⟨h, 0, none⟩ = some (.string high))
    {r : Int} (hr : IndexR L ⟨low, high, prio, 0⟩ r) :
    Calls Try.prog 27 #[.slice A n c, .func (.func 28) #[] #[.pointer (some ⟨p, 0, none⟩), .pointer (some ⟨l, 0, none⟩), .pointer (some ⟨h, 0, none⟩)]] w fun e w' => e = .returned (.int .i64 r) ∧ Wider w w' := by
  have zs := fun (W : World) (g : Wider w W) (y : ItR) => vsame_c y (wkeep g cp) (wkeep g cl) (wkeep g ch) rfl
  have HL := Lib.hid hL
  have HN := Lib.hid hn
  have HR := Lib.hid hr
  clear hL hn hr cp cl ch
  go_enter Try.func27, Try.ntmps27
  go_wp2
  go_loopw [8] (fun a wr => ∃ i : Nat, i ≤ n ∧ a = .int .i64 (i : Int) ∧ Wider w wr ∧ Hid (∀ (j : Nat) (y : ItR), j < i → L[j]? = some y → ¬ SameR y ⟨low, high, prio, 0⟩)) (fun a _ => n - (intOf a).toNat)
  case atStart => exact ⟨0, Nat.zero_le _, rfl, Wider.refl _, Lib.hid fun j y hj => absurd hj (Nat.not_lt_zero _)⟩
  case round =>
    obtain ⟨i, hi0, rfl, G, HI⟩ := hrel
    have q0 : (0 : Int) ≤ (i : Int) := by omega
    by_cases c : i < n
    · have q1 : (i : Int) < (n : Int) := by omega
      obtain ⟨⟨k1, m1, p1, v1⟩, hy⟩ : ∃ y, L[i]? = some y := ⟨L[i]'(by rw [HN.out]; exact c), List.getElem?_eq_getElem _⟩
      obtain ⟨B, rfl, x0, x1, x2, x3⟩ := HL.out i _ hy
      have x0 := wkeep G x0
      have x1 := wkeep G x1
      have x2 := wkeep G x2
      have x3 := wkeep G x3
      have z := zs _ G ⟨k1, m1, p1, v1⟩
      have HY := Lib.hid hy
      clear hy
      by_cases s : SameR ⟨k1, m1, p1, v1⟩ ⟨low, high, prio, 0⟩
      · have HS := Lib.hid s
        rw [decide_eq_true s] at z
        clear s zs
        go_wp2_with (first
          | (go_at_call 28; ((with_reducible refine z.mono ?_); rintro e w1 ⟨rfl, g⟩; replace G := G.trans g; clear z g)))
        go_ret
        exact ⟨congrArg (fun q => Ending.returned (.int .i64 q)) (HR.out.at HI.out HY.out HS.out).symm, G⟩
      · have HS := Lib.hid s
        rw [decide_eq_false s] at z
        clear s zs
        go_wp2_with (first
          | (go_at_call 28; ((with_reducible refine z.mono ?_); rintro e w1 ⟨rfl, g⟩; replace G := G.trans g; clear z g)))
        go_roundw
        case measure => simp [intOf]; omega
        case rel =>
          refine ⟨i + 1, by omega, by go_num, G, Lib.hid fun j y hj hy => ?_⟩
          by_cases e : j = i
          · subst e
            rw [HY.out] at hy
            cases hy
            exact HS.out
          · exact HI.out j y (by omega) hy
    · have e : i = n := by omega
      subst e
      have q1 : ¬ ((i : Int) < (i : Int)) := by omega
      go_wp2
      go_ret
      exact ⟨congrArg (fun q => Ending.returned (.int .i64 q)) (HR.out.none fun j y hy => HI.out j y (by rw [← HN.out]; exact (List.getElem?_eq_some_iff.1 hy).1) hy).symm, G⟩

/-! ### The best one -/
theorem pick_cases (ws : List Nat) (key : ByteArray) (o : Option ItR) (x : ItR) : (inK ws key x = false ∧ pickR ws key o x = o) ∨ (inK ws key x = true ∧ o = none ∧ pickR ws key o x = some x) ∨ (∃ y, inK ws key x = true ∧ o = some y ∧ y.prio < x.prio ∧ pickR ws key o x = some x) ∨ (∃ y, inK ws key x = true ∧ o = some y ∧ ¬ y.prio < x.prio ∧ pickR ws key o x = o) := by
  cases c : inK ws key x with
  | false => exact .inl ⟨rfl, pick_no c⟩
  | true =>
    cases o with
    | none => exact .inr (.inl ⟨rfl, rfl, pick_none c⟩)
    | some y =>
      by_cases d : y.prio < x.prio
      · exact .inr (.inr (.inl ⟨y, rfl, rfl, d, pick_more c d⟩))
      · exact .inr (.inr (.inr ⟨y, rfl, rfl, d, pick_less d⟩))
set_option maxRecDepth 20000 in
set_option maxHeartbeats 4000000 in
theorem vbest_c {w : World} {S c n m cw : Nat} {A D : Option Addr} {ws : List Nat} {L : List ItR} (c0 : w.cell? ⟨S, 0, none⟩ = some (.slice D m cw)) (c2 : w.cell? ⟨S, 2, none⟩ = some (.slice A n c)) (hm : ws.length = m) (hw : WidthsAt w D ws) (h4 : m ≤ 4) (hs : ws.sum ≤ 64)
    (hL : ItemsAt w A L) (hn : L.length = n) (hl : n < 1000000) (hi : ∀ x ∈ L, x.low.size = ws.sum ∧ x.high.size = ws.sum) {key : ByteArray} (hk : key.size = ws.sum) {o : Option ItR} (ho : bestF ws key L = o) :
    Calls Try.prog 25 #[.pointer (some ⟨S, 0, none⟩), .string key, .func (.func 26) #[] #[]] w fun e w' => e = .returned (.tuple #[aggR (o.getD zeroR), .bool o.isSome]) ∧ Wider w w' := by
  have zw := fun (W : World) (g : Wider w W) (x : ItR) (hx : x ∈ L) => vwithin_c (wkeep g c0) hm (hw.on g) h4 hs hk (hi x hx).1 (hi x hx).2 rfl
  have zb := fun (W : World) (x y : ItR) => vbetter_c x y rfl W
  have HL := Lib.hid hL
  have HN := Lib.hid hn
  have HO := Lib.hid ho
  have H : Own w (w.alloc (.cells #[.string ⟨#[]⟩, .string ⟨#[]⟩, .int .i64 0, .int .i64 0] 42)) [blkT w.heap.size #[.string ⟨#[]⟩, .string ⟨#[]⟩, .int .i64 0, .int .i64 0] 42] := (Own.nil (Wider.refl w)).blk _ _
  have d2 := kalloc (o := .cells #[.string ⟨#[]⟩, .string ⟨#[]⟩, .int .i64 0, .int .i64 0] 42) c2
  obtain ⟨B6, hB6⟩ : ∃ B, w.heap.size = B := ⟨_, rfl⟩
  rw [hB6] at H
  clear c0 c2 hm hw h4 hs hL hn hi hk ho
  go_enter Try.func25, Try.ntmps25
  go_wp2
  try rw [hB6]
  clear d2 hB6
  go_loopw [7, 15] (fun a b wr => ∃ i : Nat, i ≤ n ∧ b = .int .i64 (i : Int) ∧ ∃ (is : Bool) (k0 m0 : ByteArray) (p0 v0 : Int), a = .bool is ∧ Hid (((is = false ∧ bestF ws key (L.take i) = none ∧ (⟨k0, m0, p0, v0⟩ : ItR) = zeroR) ∨ (is = true ∧ bestF ws key (L.take i) = some ⟨k0, m0, p0, v0⟩))) ∧ Own w wr [blkT B6 #[.string k0, .string m0, .int .i64 p0, .int .i64 v0] 42]) (fun _ b _ => n - (intOf b).toNat)
  case atStart => exact ⟨0, Nat.zero_le _, rfl, false, _, _, _, _, rfl, Lib.hid (.inl ⟨rfl, rfl, rfl⟩), H⟩
  case round =>
    clear H
    obtain ⟨i, hi0, rfl, is, k0, m0, p0, v0, rfl, HB, H⟩ := hrel
    have q0 : (0 : Int) ≤ (i : Int) := by omega
    by_cases c : i < n
    · have q1 : (i : Int) < (n : Int) := by omega
      obtain ⟨⟨k1, m1, p1, v1⟩, hy⟩ : ∃ y, L[i]? = some y := ⟨L[i]'(by rw [HN.out]; exact c), List.getElem?_eq_getElem _⟩
      obtain ⟨B, rfl, x0, x1, x2, x3⟩ := HL.out i _ hy
      have x0 := wkeep H.wider x0
      have x1 := wkeep H.wider x1
      have x2 := wkeep H.wider x2
      have x3 := wkeep H.wider x3
      have z := fun (W : World) (g : Wider w W) => zw W g ⟨k1, m1, p1, v1⟩ (List.mem_of_getElem? hy)
      have HT := Lib.hid (show bestF ws key (L.take (i + 1)) = pickR ws key (bestF ws key (L.take i)) ⟨k1, m1, p1, v1⟩ by rw [takeR_next hy, bestF_snoc])
      clear hy zw
      rcases pick_cases ws key (bestF ws key (L.take i)) ⟨k1, m1, p1, v1⟩ with ⟨a1, a2⟩ | ⟨a1, a2, a3⟩ | ⟨y, a1, a2, a3, a4⟩ | ⟨y, a1, a2, a3, a4⟩
      · rw [a1] at z
        have H1 := H.blk #[.string k1, .string m1, .int .i64 p1, .int .i64 v1] 42
        have HX := Lib.hid (show (is = false ∧ bestF ws key (L.take (i + 1)) = none ∧ (⟨k0, m0, p0, v0⟩ : ItR) = zeroR) ∨ (is = true ∧ bestF ws key (L.take (i + 1)) = some ⟨k0, m0, p0, v0⟩) by rw [HT.out, a2]; exact HB.out)
        have G := H1.wider
        have H2 := Lib.hid H1.drop
        clear a1 a2 HT HB zb H
        obtain ⟨b0, b1, b2, b3⟩ := newR wr ⟨k1, m1, p1, v1⟩
        go_wp2_with (first
          | (go_at_call 23; ((with_reducible refine (z _ G).mono ?_); rintro e w1 ⟨rfl, g⟩; have H3 := H2.out.quiet g; clear z g)))
        go_roundw
        case measure => simp [intOf]; omega
        case rel => exact ⟨i + 1, by omega, by go_num, is, k0, m0, p0, v0, rfl, HX, H3⟩
      · rw [a1] at z
        obtain ⟨rfl, _⟩ : is = false ∧ True := by
          rcases HB.out with ⟨h, _⟩ | ⟨_, h⟩
          · exact ⟨h, trivial⟩
          · rw [a2] at h; cases h
        have HX := Lib.hid (show bestF ws key (L.take (i + 1)) = some ⟨k1, m1, p1, v1⟩ by rw [HT.out, a3])
        have H1 := H.blk #[.string k1, .string m1, .int .i64 p1, .int .i64 v1] 42
        obtain ⟨b0, b1, b2, b3⟩ := newR wr ⟨k1, m1, p1, v1⟩
        have G := H1.wider
        have d0 := (blk_cell H1.second 0 (v := .string k0) rfl)
        have d1 := (blk_cell H1.second 1 (v := .string m0) rfl)
        have d2 := (blk_cell H1.second 2 (v := .int .i64 p0) rfl)
        have d3 := (blk_cell H1.second 3 (v := .int .i64 v0) rfl)
        clear H HB HT zb a1 a2 a3 
        go_wp2_with (first
          | (go_at_call 23; ((with_reducible refine (z _ G).mono ?_); rintro e w1 ⟨rfl, g⟩; replace H1 := H1.quiet g; replace b0 := wkeep g b0; replace b1 := wkeep g b1; replace b2 := wkeep g b2; replace b3 := wkeep g b3; replace d0 := wkeep g d0; replace d1 := wkeep g d1; replace d2 := wkeep g d2; replace d3 := wkeep g d3; clear z g; have f0 := blk_free H1.second 0; have f1 := blk_free H1.second 1; have f2 := blk_free H1.second 2; have f3 := blk_free H1.second 3)))
        have H2 := (((H1.swap.store 0 (.string k1)).store 1 (.string m1)).store 2 (.int .i64 p1)).store 3 (.int .i64 v1)
        go_roundw
        case measure => simp [intOf]; omega
        case rel => exact ⟨i + 1, by omega, by go_num, true, k1, m1, p1, v1, rfl, Lib.hid (.inr ⟨rfl, HX.out⟩), H2.swap.drop⟩
      · rw [a1] at z
        obtain ⟨rfl, rfl⟩ : is = true ∧ y = ⟨k0, m0, p0, v0⟩ := by
          rcases HB.out with ⟨_, h, _⟩ | ⟨h, h2⟩
          · rw [a2] at h; cases h
          · rw [a2] at h2; injection h2 with h2; exact ⟨h, h2⟩
        have zc := fun (W : World) => zb W ⟨k1, m1, p1, v1⟩ ⟨k0, m0, p0, v0⟩
        rw [decide_eq_true (show p0 < p1 from a3)] at zc
        have HX := Lib.hid (show bestF ws key (L.take (i + 1)) = some ⟨k1, m1, p1, v1⟩ by rw [HT.out, a4])
        have H1 := H.blk #[.string k1, .string m1, .int .i64 p1, .int .i64 v1] 42
        obtain ⟨b0, b1, b2, b3⟩ := newR wr ⟨k1, m1, p1, v1⟩
        have G := H1.wider
        have d0 := (blk_cell H1.second 0 (v := .string k0) rfl)
        have d1 := (blk_cell H1.second 1 (v := .string m0) rfl)
        have d2 := (blk_cell H1.second 2 (v := .int .i64 p0) rfl)
        have d3 := (blk_cell H1.second 3 (v := .int .i64 v0) rfl)
        clear H HB HT zb a1 a2 a3 a4
        go_wp2_with (first
          | (go_at_call 23; ((with_reducible refine (z _ G).mono ?_); rintro e w1 ⟨rfl, g⟩; replace H1 := H1.quiet g; replace b0 := wkeep g b0; replace b1 := wkeep g b1; replace b2 := wkeep g b2; replace b3 := wkeep g b3; replace d0 := wkeep g d0; replace d1 := wkeep g d1; replace d2 := wkeep g d2; replace d3 := wkeep g d3; clear z g; have f0 := blk_free H1.second 0; have f1 := blk_free H1.second 1; have f2 := blk_free H1.second 2; have f3 := blk_free H1.second 3))
          | (go_at_call 26; ((with_reducible refine (zc _).mono ?_); rintro e w2 ⟨rfl, g⟩; replace H1 := H1.quiet g; replace b0 := wkeep g b0; replace b1 := wkeep g b1; replace b2 := wkeep g b2; replace b3 := wkeep g b3; replace d0 := wkeep g d0; replace d1 := wkeep g d1; replace d2 := wkeep g d2; replace d3 := wkeep g d3; clear zc g f0 f1 f2 f3; have f0 := blk_free H1.second 0; have f1 := blk_free H1.second 1; have f2 := blk_free H1.second 2; have f3 := blk_free H1.second 3)))
        have H2 := (((H1.swap.store 0 (.string k1)).store 1 (.string m1)).store 2 (.int .i64 p1)).store 3 (.int .i64 v1)
        go_roundw
        case measure => simp [intOf]; omega
        case rel => exact ⟨i + 1, by omega, by go_num, true, k1, m1, p1, v1, rfl, Lib.hid (.inr ⟨rfl, HX.out⟩), H2.swap.drop⟩
      · rw [a1] at z
        obtain ⟨rfl, rfl⟩ : is = true ∧ y = ⟨k0, m0, p0, v0⟩ := by
          rcases HB.out with ⟨_, h, _⟩ | ⟨h, h2⟩
          · rw [a2] at h; cases h
          · rw [a2] at h2; injection h2 with h2; exact ⟨h, h2⟩
        have zc := fun (W : World) => zb W ⟨k1, m1, p1, v1⟩ ⟨k0, m0, p0, v0⟩
        rw [decide_eq_false (show ¬ p0 < p1 from a3)] at zc
        have HX := Lib.hid (show bestF ws key (L.take (i + 1)) = some ⟨k0, m0, p0, v0⟩ by rw [HT.out, a4, a2])
        have H1 := H.blk #[.string k1, .string m1, .int .i64 p1, .int .i64 v1] 42
        obtain ⟨b0, b1, b2, b3⟩ := newR wr ⟨k1, m1, p1, v1⟩
        have G := H1.wider
        have d0 := (blk_cell H1.second 0 (v := .string k0) rfl)
        have d1 := (blk_cell H1.second 1 (v := .string m0) rfl)
        have d2 := (blk_cell H1.second 2 (v := .int .i64 p0) rfl)
        have d3 := (blk_cell H1.second 3 (v := .int .i64 v0) rfl)
        clear H HB HT zb a1 a2 a3 a4
        go_wp2_with (first
          | (go_at_call 23; ((with_reducible refine (z _ G).mono ?_); rintro e w1 ⟨rfl, g⟩; replace H1 := H1.quiet g; replace b0 := wkeep g b0; replace b1 := wkeep g b1; replace b2 := wkeep g b2; replace b3 := wkeep g b3; replace d0 := wkeep g d0; replace d1 := wkeep g d1; replace d2 := wkeep g d2; replace d3 := wkeep g d3; clear z g; have f0 := blk_free H1.second 0; have f1 := blk_free H1.second 1; have f2 := blk_free H1.second 2; have f3 := blk_free H1.second 3))
          | (go_at_call 26; ((with_reducible refine (zc _).mono ?_); rintro e w2 ⟨rfl, g⟩; replace H1 := H1.quiet g; replace b0 := wkeep g b0; replace b1 := wkeep g b1; replace b2 := wkeep g b2; replace b3 := wkeep g b3; replace d0 := wkeep g d0; replace d1 := wkeep g d1; replace d2 := wkeep g d2; replace d3 := wkeep g d3; clear zc g f0 f1 f2 f3; have f0 := blk_free H1.second 0; have f1 := blk_free H1.second 1; have f2 := blk_free H1.second 2; have f3 := blk_free H1.second 3)))
        go_roundw
        case measure => simp [intOf]; omega
        case rel => exact ⟨i + 1, by omega, by go_num, true, k0, m0, p0, v0, rfl, Lib.hid (.inr ⟨rfl, HX.out⟩), H1.drop⟩
    · have e : i = n := by omega
      subst e
      have q1 : ¬ ((i : Int) < (i : Int)) := by omega
      have c0 := blk_cell H.head 0 (v := .string k0) rfl
      have c1 := blk_cell H.head 1 (v := .string m0) rfl
      have c2 := blk_cell H.head 2 (v := .int .i64 p0) rfl
      have c3 := blk_cell H.head 3 (v := .int .i64 v0) rfl
      have f0 := blk_free H.head 0
      have f1 := blk_free H.head 1
      have f2 := blk_free H.head 2
      have f3 := blk_free H.head 3
      have H4 := Lib.hid ((((H.store 0 (.string k0)).store 1 (.string m0)).store 2 (.int .i64 p0)).store 3 (.int .i64 v0)).wider
      clear H zw zb
      go_wp2
      simp [bodyPost, results, Try.results25, go_sem, c0, c1, c2, c3]
      refine ⟨?_, H4.out⟩
      have hb := HB.out
      rw [List.take_of_length_le (by rw [HN.out]; exact Nat.le_refl _), HO.out] at hb
      rcases hb with ⟨rfl, rfl, e⟩ | ⟨rfl, rfl⟩
      · cases e
        exact ⟨⟨rfl, rfl, rfl, rfl⟩, rfl⟩
      · exact ⟨⟨rfl, rfl, rfl, rfl⟩, rfl⟩

end Go.Proofs.Ytpdhahghpdckeaa
