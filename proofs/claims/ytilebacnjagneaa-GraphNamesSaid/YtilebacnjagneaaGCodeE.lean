/- Package graph: where a node is; Find and Next: by walks of its code. -/
import Derived.Test.YtilebacnjagneaaGCodeD
import Derived.Lib.SliceRun
namespace Go.Proofs.Ytilebacnjagneaa
set_option linter.unusedVariables false
open Go.ChangeShapes Go.WideShapes Go.ChangeAt Go.RowKit Go.Joins

/-- Where the first node of an ID is. -/
def PlaceG (L : List NodV) (id r : Int) : Prop := (r = -1 ∧ nodeG L id = none) ∨ ∃ (j : Nat) (x : NodV), r = (j : Int) ∧ L[j]? = some x ∧ nodeG L id = some x
theorem nodeG_at {L : List NodV} {id : Int} {x : NodV} : ∀ {j : Nat}, L[j]? = some x → x.id = id → (∀ (k : Nat) (y : NodV), k < j → L[k]? = some y → y.id ≠ id) → nodeG L id = some x := by
  induction L with
  | nil => intro j h; simp at h
  | cons y L ih =>
    intro j h e hk
    unfold nodeG
    cases j with
    | zero =>
      obtain rfl : y = x := by simpa using h
      rw [if_pos e]
    | succ j =>
      rw [if_neg (hk 0 y (by omega) rfl)]
      exact ih (j := j) (by simpa using h) e (fun k z hkj hz => hk (k + 1) z (by omega) (by simpa using hz))
theorem nodeG_no {L : List NodV} {id : Int} (h : ∀ (j : Nat) (y : NodV), L[j]? = some y → y.id ≠ id) : nodeG L id = none := nodeG_none.2 fun x hx => by
  obtain ⟨j, hj⟩ := List.getElem?_of_mem hx
  exact h j x hj
theorem place_some (L : List NodV) (id : Int) : ∃ r, PlaceG L id r := by
  cases q : nodeG L id with
  | none => exact ⟨-1, .inl ⟨rfl, q⟩⟩
  | some x =>
    obtain ⟨j, hj⟩ := List.getElem?_of_mem (nodeG_mem q).1
    exact ⟨j, .inr ⟨j, x, rfl, hj, q⟩⟩
set_option maxHeartbeats 2000000 in
theorem gplace1_c (x : NodV) (A : Option Addr) (n c : Nat) {p : Nat} {id : Int} {w : World} (cp : w.cell? ⟨p, 0, none⟩ = some (.int .i64 id)) : Calls Try.prog 37 #[nodA x A n c, .pointer (some ⟨p, 0, none⟩)] w fun e w' => e = .returned (.bool (x.id == id)) ∧ Wider w w' := by
  have H := ((Wider.refl w).alloc (.cells (nodC x A n c) 28))
  have cp := wkeep H cp
  obtain ⟨c0, -, -, -, -, -, -, -, -⟩ := NodeB.new w x A n c
  obtain ⟨i, size, lo, lw, lu, so, sw, arms, oth⟩ := x
  show Calls Try.prog 37 #[.agg #[.int .i64 i, .int .i64 size, .int .i64 lo, .int .i64 lw, .int .i64 lu, .int .i64 so, .int .i64 sw, .slice A n c, .int .i64 oth], .pointer (some ⟨p, 0, none⟩)] w _
  go_enter Try.func37, Try.ntmps37
  go_wp2
  go_ret
  exact ⟨rfl, H⟩
set_option maxRecDepth 20000 in
set_option maxHeartbeats 4000000 in
theorem gindex_c {w : World} {A : Option Addr} {n c : Nat} {L : List NodV} (hL : NodesAt w A L) (hn : L.length = n) (hl : n < 1000000) {p : Nat} {id : Int} (cp : w.cell? ⟨p, 0, none⟩ = some (.int .i64 id)) :
    Calls Try.prog 36 #[.slice A n c, .func (.func 37) #[] #[.pointer (some ⟨p, 0, none⟩)]] w fun e w' => ∃ r, e = .returned (.int .i64 r) ∧ Wider w w' ∧ PlaceG L id r := by
  have zs := fun (W : World) (g : Wider w W) (y : NodV) (A : Option Addr) (n c : Nat) => gplace1_c y A n c (wkeep g cp)
  have HL := Lib.hid hL
  have HN := Lib.hid hn
  clear hL hn cp
  go_enter Try.func36, Try.ntmps36
  go_wp2
  go_loopw [8] (fun a wr => ∃ i : Nat, i ≤ n ∧ a = .int .i64 (i : Int) ∧ Wider w wr ∧ Hid (∀ (j : Nat) (y : NodV), j < i → L[j]? = some y → y.id ≠ id)) (fun a _ => n - (intOf a).toNat)
  case atStart => exact ⟨0, Nat.zero_le _, rfl, Wider.refl _, Lib.hid fun j y hj => absurd hj (Nat.not_lt_zero _)⟩
  case round =>
    obtain ⟨i, hi0, rfl, G, HI⟩ := hrel
    have q0 : (0 : Int) ≤ (i : Int) := by omega
    by_cases c : i < n
    · have q1 : (i : Int) < (n : Int) := by omega
      obtain ⟨a, x, rfl, hy, A2, n2, c2, K⟩ := HL.out.at (j := i) (by rw [HN.out]; exact c)
      obtain ⟨d0, d1, d2, d3, d4, d5, d6, d7, d8, -, -⟩ := K.on G
      have HY := Lib.hid hy
      have z := zs _ G x A2 n2 c2
      clear hy K
      obtain ⟨i0, size, lo, lw, lu, so, sw, arms, oth⟩ := x
      have z : Calls Try.prog 37 #[.agg #[.int .i64 i0, .int .i64 size, .int .i64 lo, .int .i64 lw, .int .i64 lu, .int .i64 so, .int .i64 sw, .slice A2 n2 c2, .int .i64 oth], .pointer (some ⟨p, 0, none⟩)] wr fun e w' => e = .returned (.bool (i0 == id)) ∧ Wider wr w' := z
      by_cases s : i0 = id
      · have s1 : (i0 == id) = true := by simpa using s
        rw [s1] at z
        have HS := Lib.hid s
        clear s s1 zs
        go_wp2_with (first
          | (go_at_call 37; ((with_reducible refine z.mono ?_); rintro e w1 ⟨rfl, g⟩; replace G := G.trans g; clear z g)))
        go_ret
        exact ⟨_, rfl, G, .inr ⟨i, _, rfl, HY.out, nodeG_at HY.out HS.out HI.out⟩⟩
      · have s1 : (i0 == id) = false := by simpa using s
        rw [s1] at z
        have HS := Lib.hid s
        clear s s1 zs
        go_wp2_with (first
          | (go_at_call 37; ((with_reducible refine z.mono ?_); rintro e w1 ⟨rfl, g⟩; replace G := G.trans g; clear z g)))
        go_roundw
        case measure => simp [intOf]; omega
        case rel =>
          refine ⟨i + 1, by omega, by go_num, G, Lib.hid fun j y hj hy => ?_⟩
          by_cases e : j = i
          · subst e
            rw [HY.out] at hy
            cases hy
            exact HS.out
          · exact HI.out j y (by omega) hy
    · have e : i = n := by omega
      subst e
      have q1 : ¬ ((i : Int) < (i : Int)) := by omega
      go_wp2
      go_ret
      exact ⟨_, rfl, G, .inl ⟨rfl, nodeG_no fun j y hy => HI.out j y (by rw [← HN.out]; exact (List.getElem?_eq_some_iff.1 hy).1) hy⟩⟩
theorem PlaceG.neg {L : List NodV} {id r : Int} (h : PlaceG L id r) : (r < 0 ↔ nodeG L id = none) := by
  rcases h with ⟨rfl, h⟩ | ⟨j, x, rfl, h1, h2⟩
  · exact ⟨fun _ => h, fun _ => by omega⟩
  · exact ⟨fun q => by omega, fun q => by rw [q] at h2; cases h2⟩
set_option maxRecDepth 20000 in
set_option maxHeartbeats 4000000 in
theorem gplace_c {w : World} {A : Option Addr} {n c : Nat} {L : List NodV} (hL : NodesAt w A L) (hn : L.length = n) (hl : n < 1000000) (id : Int) :
    Calls Try.prog 28 #[.slice A n c, .int .i64 id] w fun e w' => ∃ r, e = .returned (.int .i64 r) ∧ Wider w w' ∧ PlaceG L id r := by
  have G := (Wider.refl w).alloc (.cells #[.int .i64 id] 3)
  have z := gindex_c (c := c) (hL.on G) hn hl (new1 w (.int .i64 id) 3)
  clear hL hn hl
  go_enter Try.func28, Try.ntmps28
  go_wp2_with (first
    | (go_at_call 36; ((with_reducible refine z.mono ?_); rintro e w1 ⟨r, rfl, g, hr⟩; replace G := G.trans g; have HR := Lib.hid hr; clear z g hr)))
  go_ret
  exact ⟨_, rfl, G, HR.out⟩

set_option maxRecDepth 20000 in
set_option maxHeartbeats 4000000 in
theorem gcloneA_c {V w : World} {R : List Thing} (H : Own V w R) {A : Option Addr} {n c : Nat} {xs : List Value} (hn : xs.length = n * 2) (hl : n < 100000) (h0 : A = none → n = 0) (hx : ∀ a, A = some a → ∀ j u, xs[j]? = some u → w.cell? (a.add j) = some u) (h1 : ∀ u ∈ xs, u.oneCell' = true) :
    Calls Try.prog 29 #[.slice A n c] w fun e w' => ∃ B c', e = .returned (.slice B n c') ∧ Own V w' (rowT 26 2 (.slice B n c') n xs :: R) := by
  obtain ⟨i0, hi, hz0, hz1, hz2⟩ := info_parts ginfoArm
  have q22 : ∀ (W : World) (a : Option Addr) (n c n' c' : Nat), (binOp .eql 23 (.slice a n c) (.slice none n' c')).run Try.prog W = .ok (.bool a.isNone) W := fun W a n c n' c' => Lib.run_eql_slice_nil W _ _ a n c n' c' Try.underlying23
  cases A with
  | none =>
    obtain rfl := h0 rfl
    obtain rfl : xs = [] := List.eq_nil_of_length_eq_zero (by simpa using hn)
    have HH := Lib.hid (H.row (Wider.refl _) (World.ownsRow_nil _ _ 26 2))
    clear H hn h0 hx h1
    go_enter Try.func29, Try.ntmps29
    go_wp2
    go_ret
    exact ⟨_, _, rfl, HH.out⟩
  | some a =>
    have H1 : Own V (w.alloc (.cells #[] 26)) (rowT 26 2 (.slice (some ⟨w.heap.size, 0, none⟩) 0 0) 0 [] :: R) := H.row ((Wider.refl w).alloc _) (World.ownsRow_made w #[] 0 (Nat.le_refl _) (Nat.zero_le _) rfl)
    have HX : Hid (∀ b, some a = some b → ∀ j u, xs[j]? = some u → (w.alloc (.cells #[] 26)).cell? (b.add j) = some u) := Lib.hid fun b e j u hj => wkeep ((Wider.refl w).alloc _) (hx b e j u hj)
    have HN : Hid (xs.length = n * 2) := Lib.hid hn
    have H11 := Lib.hid h1
    have S1 : Hid (0 + n ≤ maxLen) := by show _ ≤ maxLen; unfold maxLen; omega
    have S2 : Hid ((0 + n) * 16 ≤ 140737488355328) := by show _ ≤ _; omega
    clear H hn h0 hx h1
    go_enter Try.func29, Try.ntmps29
    go_wp2_with (first
      | (at_builtin; refine wpList_append_thing rfl (.tmp 5) (.tmp 6) 23 rfl 26 i0 (.agg #[.int .u32 0, .int .i64 0]) 2 16 Try.underlying23 hi hz0 hz1 hz2 rfl (by decide) (.slice (some ⟨w.heap.size, 0, none⟩) 0 0) 0 [] rfl H1 (some a) n c xs rfl HN.out (fun e => by cases e) HX.out H11.out S1.out S2.out (Nat.zero_add n) rfl ?_; intro B3 c3 w5 H5))
    go_ret
    exact ⟨_, _, rfl, H5⟩
/-- Nobody. -/
def zeroN : NodV := ⟨0, 0, 0, 0, 0, 0, 0, [], 0⟩

end Go.Proofs.Ytilebacnjagneaa
