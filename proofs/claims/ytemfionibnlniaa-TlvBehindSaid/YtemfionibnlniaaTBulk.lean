/- How much attributes and texts are as the statements reckon it; the document's Same and Texts: by walks. -/
import Derived.Test.YtemfionibnlniaaOpen
import Derived.Test.YtemfionibnlniaaTMem
import Derived.WalkKit
import Derived.Lib.Hide
import Derived.Deep.DeepCutAuto
import Derived.WalkLawsBesides
import Derived.WalkSpells
import Derived.BigQuiet
import Derived.BigRegion
import Derived.Deep.RegionHeld3
namespace Go.Proofs.Ytemfionibnlniaa
set_option linter.unusedVariables false
open Go.ChangeShapes Go.WideShapes Go.ChangeAt Go.RowKit Go.Joins
open Go.ChangeMaps (open_string shut_string)


/-- How much it is, as the statements reckon it. -/
def bulkA (l : List AtN) : Nat := (l.map fun x => 10 + min 100000 x.v.size).sum
theorem bulkA_snoc (l : List AtN) (x : AtN) : bulkA (l ++ [x]) = bulkA l + (10 + min 100000 x.v.size) := by unfold bulkA; simp
theorem bulkA_append (l m : List AtN) : bulkA (l ++ m) = bulkA l + bulkA m := by unfold bulkA; simp
theorem bulkA_take (l : List AtN) (k : Nat) : bulkA (l.take k) ≤ bulkA l := by
  have e : bulkA l = bulkA (l.take k) + bulkA (l.drop k) := by rw [← bulkA_append, List.take_append_drop]
  omega
theorem bulkA_len (l : List AtN) : 10 * l.length ≤ bulkA l := by
  unfold bulkA
  induction l with
  | nil => simp
  | cons s l ih => simp only [List.map_cons, List.sum_cons, List.length_cons]; omega

/-- How much it is, as the statements reckon it. -/
def bulkS (l : List ByteArray) : Nat := (l.map fun x => 10 + min 100000 x.size).sum
theorem bulkS_snoc (l : List ByteArray) (x : ByteArray) : bulkS (l ++ [x]) = bulkS l + (10 + min 100000 x.size) := by unfold bulkS; simp
theorem bulkS_append (l m : List ByteArray) : bulkS (l ++ m) = bulkS l + bulkS m := by unfold bulkS; simp
theorem bulkS_take (l : List ByteArray) (k : Nat) : bulkS (l.take k) ≤ bulkS l := by
  have e : bulkS l = bulkS (l.take k) + bulkS (l.drop k) := by rw [← bulkS_append, List.take_append_drop]
  omega
theorem bulkS_len (l : List ByteArray) : 10 * l.length ≤ bulkS l := by
  unfold bulkS
  induction l with
  | nil => simp
  | cons s l ih => simp only [List.map_cons, List.sum_cons, List.length_cons]; omega

theorem bytsA_len (l : List AtN) : l.length ≤ (bytsA l).length ∧ ∀ x ∈ l, x.v.size ≤ (bytsA l).length := by
  induction l with
  | nil => simp [bytsA_nil]
  | cons a l ih =>
    rw [bytsA_cons, List.length_append, bytA_length]
    refine ⟨by simp only [List.length_cons]; omega, fun x hx => ?_⟩
    rcases List.mem_cons.1 hx with rfl | hx
    · omega
    · have := ih.2 x hx; omega

theorem bytsT_len (l : List ByteArray) : 2 * l.length ≤ (bytsT l).length ∧ ∀ x ∈ l, x.size ≤ (bytsT l).length := by
  induction l with
  | nil => simp [bytsT_nil]
  | cons a l ih =>
    rw [bytsT_cons, List.length_append, bytT_length]
    refine ⟨by simp only [List.length_cons]; omega, fun x hx => ?_⟩
    rcases List.mem_cons.1 hx with rfl | hx
    · omega
    · have := ih.2 x hx; omega
theorem bulkA_bytes (l : List AtN) (h : bulkA l < 100000) : (bytsA l).length ≤ bulkA l := by
  induction l with
  | nil => simp [bytsA_nil]
  | cons a l ih =>
    have e : bulkA (a :: l) = (10 + min 100000 a.v.size) + bulkA l := by simp [bulkA]
    rw [e] at h ⊢
    rw [bytsA_cons, List.length_append, bytA_length]
    have := ih (by omega)
    omega
theorem bulkS_bytes (l : List ByteArray) (h : bulkS l < 100000) : (bytsT l).length ≤ bulkS l := by
  induction l with
  | nil => simp [bytsT_nil]
  | cons a l ih =>
    have e : bulkS (a :: l) = (10 + min 100000 a.size) + bulkS l := by simp [bulkS]
    rw [e] at h ⊢
    rw [bytsT_cons, List.length_append, bytT_length]
    have := ih (by omega)
    omega
theorem bulkA_each (l : List AtN) (h : bulkA l < 100000) : ∀ x ∈ l, x.v.size < 100000 := by
  induction l with
  | nil => simp
  | cons a l ih =>
    have e : bulkA (a :: l) = (10 + min 100000 a.v.size) + bulkA l := by simp [bulkA]
    rw [e] at h
    intro x hx
    rcases List.mem_cons.1 hx with rfl | hx
    · omega
    · exact ih (by omega) x hx
theorem bulkS_each (l : List ByteArray) (h : bulkS l < 100000) : ∀ x ∈ l, x.size < 100000 := by
  induction l with
  | nil => simp
  | cons a l ih =>
    have e : bulkS (a :: l) = (10 + min 100000 a.size) + bulkS l := by simp [bulkS]
    rw [e] at h
    intro x hx
    rcases List.mem_cons.1 hx with rfl | hx
    · omega
    · exact ih (by omega) x hx

set_option maxHeartbeats 2000000 in
theorem long_c (A : Option Addr) (n cap : Nat) (l : List AtN) {r : Bool} (w : World) (h : AtsAt w A l) (hn : l.length = n) (hl : n ≤ 9223372036854775807) (hs : ∀ x ∈ l, x.v.size ≤ 9223372036854775807) (hr : (decide (100000 ≤ bulkA l) || decide (300 < l.length)) = r) :
    Calls Try.prog 12 #[.slice A n cap] w fun e w' => e = .returned (.bool r) ∧ w' = w := by
  have HR := Lib.hid hr
  have HS := Lib.hid hs
  have HN := Lib.hid hn
  clear hr hs hn
  go_enter Try.func12, Try.ntmps12
  go_wp2
  go_loop [3, 4] (fun o i => ∃ k : Nat, k ≤ n ∧ (∃ V : Nat, o = .int .i64 (V : Int) ∧ bulkA (l.take k) = V ∧ V ≤ 200020) ∧ i = .int .i64 (k : Int)) (fun _ i => n - (intOf i).toNat)
  case atStart => exact ⟨0, by omega, ⟨0, by simp, by simp [bulkA], by omega⟩, by simp⟩
  case round =>
    obtain ⟨k, hk, ⟨V, rfl, hV, hV8⟩, rfl⟩ := hrel
    have HV := Lib.hid hV
    clear hV
    by_cases c : k < n
    · have c1 : decide ((k : Int) < (n : Int)) = true := decide_eq_true (by omega)
      have i0 : (0 : Int) ≤ (k : Int) := by omega
      have i1 : (k : Int) < (n : Int) := by omega
      by_cases d : V < 100000
      · have d1 : decide ((V : Int) < 100000) = true := decide_eq_true (by omega)
        have d2 : decide (V < 100000) = true := decide_eq_true d
        obtain ⟨x, hs⟩ := next_some l k (by have := HN.out; omega)
        have hsz := HS.out x (List.mem_of_getElem? hs)
        cases A with
        | none => exact absurd (h.none_ rfl) (by intro e; rw [e] at hs; simp at hs)
        | some a =>
          have hc := h.cell a rfl k x hs
          have st := bulkA_snoc (l.take k) x
          rw [← take_next l k x hs, HV.out] at st
          have ST := Lib.hid st
          have HS2 := Lib.hid hs
          clear st hs
          obtain ⟨t, s⟩ := x
          have c2 := hc.flat
          simp only at c2 hsz ST HS2
          clear hc
          obtain ⟨z, hz⟩ : ∃ z : Nat, min 100000 s.size = z := ⟨_, rfl⟩
          have hz1 : min (100000 : Int) (s.size : Int) = (z : Int) := by omega
          have hz2 : z ≤ 100000 := by omega
          have ST2 : Hid (bulkA (l.take (k + 1)) = V + (10 + z)) := by have := ST.out; rw [hz] at this; exact this
          clear hz
          go_wp2
          go_round
          case rel => exact ⟨k + 1, by omega, ⟨V + (10 + z), by simp; omega, ST2.out, by omega⟩, by go_num⟩
          case measure => simp [intOf]; omega
      · have d1 : decide ((V : Int) < 100000) = false := decide_eq_false (by omega)
        have d2 : decide (V < 100000) = false := decide_eq_false d
        have hr2 : r = true := by
          have := bulkA_take l k
          rw [HV.out] at this
          rw [← HR.out]
          simp only [Bool.or_eq_true, decide_eq_true_eq]; omega
        subst hr2
        have d3 : decide ((100000 : Int) ≤ (V : Int)) = true := decide_eq_true (by omega)
        have d4 : decide (100000 ≤ V) = true := decide_eq_true (by omega)
        go_wp2
        go_ret
        exact ⟨rfl, rfl⟩
    · have c1 : decide ((k : Int) < (n : Int)) = false := decide_eq_false (by omega)
      have e := HV.out
      rw [List.take_of_length_le (by have := HN.out; omega)] at e
      by_cases p : 100000 ≤ V
      · have hr2 : r = true := by rw [← HR.out, e]; simp [p]
        subst hr2
        have d3 : decide ((100000 : Int) ≤ (V : Int)) = true := decide_eq_true (by omega)
        have d4 : decide (100000 ≤ V) = true := decide_eq_true p
        go_wp2
        go_ret
        exact ⟨rfl, rfl⟩
      · have d3 : decide ((100000 : Int) ≤ (V : Int)) = false := decide_eq_false (by omega)
        have d4 : decide (100000 ≤ V) = false := decide_eq_false p
        have hr2 : decide (300 < n) = r := by rw [← HR.out, e, HN.out]; simp [p]
        cases r with
        | true =>
          have d5 : decide ((300 : Int) < (n : Int)) = true := decide_eq_true (by have := of_decide_eq_true hr2; omega)
          go_wp2
          go_ret
          exact ⟨rfl, rfl⟩
        | false =>
          have d5 : decide ((300 : Int) < (n : Int)) = false := decide_eq_false (by have := of_decide_eq_false hr2; omega)
          go_wp2
          go_ret
          exact ⟨rfl, rfl⟩

set_option maxHeartbeats 2000000 in
theorem large_c (A : Option Addr) (n cap : Nat) (l : List ByteArray) {r : Bool} (w : World) (h : StrsAt w A l) (hn : l.length = n) (hl : n ≤ 9223372036854775807) (hs : ∀ x ∈ l, x.size ≤ 9223372036854775807) (hr : decide (100000 ≤ bulkS l) = r) :
    Calls Try.prog 25 #[.slice A n cap] w fun e w' => e = .returned (.bool r) ∧ w' = w := by
  have HR := Lib.hid hr
  have HS := Lib.hid hs
  have HN := Lib.hid hn
  clear hr hs hn
  go_enter Try.func25, Try.ntmps25
  go_wp2
  go_loop [3, 4] (fun o i => ∃ k : Nat, k ≤ n ∧ (∃ V : Nat, o = .int .i64 (V : Int) ∧ bulkS (l.take k) = V ∧ V ≤ 200020) ∧ i = .int .i64 (k : Int)) (fun _ i => n - (intOf i).toNat)
  case atStart => exact ⟨0, by omega, ⟨0, by simp, by simp [bulkS], by omega⟩, by simp⟩
  case round =>
    obtain ⟨k, hk, ⟨V, rfl, hV, hV8⟩, rfl⟩ := hrel
    have HV := Lib.hid hV
    clear hV
    by_cases c : k < n
    · have c1 : decide ((k : Int) < (n : Int)) = true := decide_eq_true (by omega)
      have i0 : (0 : Int) ≤ (k : Int) := by omega
      have i1 : (k : Int) < (n : Int) := by omega
      by_cases d : V < 100000
      · have d1 : decide ((V : Int) < 100000) = true := decide_eq_true (by omega)
        have d2 : decide (V < 100000) = true := decide_eq_true d
        obtain ⟨x, hs⟩ := next_some l k (by have := HN.out; omega)
        have hsz := HS.out x (List.mem_of_getElem? hs)
        cases A with
        | none => exact absurd (h.none_ rfl) (by intro e; rw [e] at hs; simp at hs)
        | some a =>
          have hc := h.cell a rfl k x hs
          have st := bulkS_snoc (l.take k) x
          rw [← take_next l k x hs, HV.out] at st
          have ST := Lib.hid st
          have HS2 := Lib.hid hs
          clear st hs
          obtain ⟨s, rfl⟩ : ∃ s, s = x := ⟨_, rfl⟩
          obtain ⟨z, hz⟩ : ∃ z : Nat, min 100000 s.size = z := ⟨_, rfl⟩
          have hz1 : min (100000 : Int) (s.size : Int) = (z : Int) := by omega
          have hz2 : z ≤ 100000 := by omega
          have ST2 : Hid (bulkS (l.take (k + 1)) = V + (10 + z)) := by have := ST.out; rw [hz] at this; exact this
          clear hz
          go_wp2
          go_round
          case rel => exact ⟨k + 1, by omega, ⟨V + (10 + z), by simp; omega, ST2.out, by omega⟩, by go_num⟩
          case measure => simp [intOf]; omega
      · have d1 : decide ((V : Int) < 100000) = false := decide_eq_false (by omega)
        have d2 : decide (V < 100000) = false := decide_eq_false d
        have hr2 : r = true := by
          have := bulkS_take l k
          rw [HV.out] at this
          rw [← HR.out]
          exact decide_eq_true (by omega)
        subst hr2
        have d3 : decide ((100000 : Int) ≤ (V : Int)) = true := decide_eq_true (by omega)
        have d4 : decide (100000 ≤ V) = true := decide_eq_true (by omega)
        go_wp2
        go_ret
        exact ⟨rfl, rfl⟩
    · have c1 : decide ((k : Int) < (n : Int)) = false := decide_eq_false (by omega)
      have e := HV.out
      rw [List.take_of_length_le (by have := HN.out; omega)] at e
      have hr2 : decide (100000 ≤ V) = r := by rw [← HR.out, e]
      cases r with
      | true =>
        have d3 : decide ((100000 : Int) ≤ (V : Int)) = true := decide_eq_true (by have := of_decide_eq_true hr2; omega)
        go_wp2
        go_ret
        exact ⟨rfl, rfl⟩
      | false =>
        have d3 : decide ((100000 : Int) ≤ (V : Int)) = false := decide_eq_false (by have := of_decide_eq_false hr2; omega)
        go_wp2
        go_ret
        exact ⟨rfl, rfl⟩

set_option maxHeartbeats 2000000 in
theorem texts_c (A B : Option Addr) (n cap m cap2 : Nat) (l k : List ByteArray) {r : Bool} (w : World) (h : StrsAt w A l) (h2 : StrsAt w B k) (hn : l.length = n) (hm : k.length = m) (hl : n < 1000000) (hl2 : m < 1000000) (hr : (l = k) ↔ r = true) :
    Calls Try.prog 28 #[.slice A n cap, .slice B m cap2] w fun e w' => e = .returned (.bool r) ∧ Wider w w' := by
  have HR := Lib.hid hr
  have HN := Lib.hid hn
  have HM := Lib.hid hm
  clear hr hn hm
  by_cases q : n = m
  · subst q
    go_enter Try.func28, Try.ntmps28
    go_wp2
    go_loopw [5] (fun i wr => ∃ j : Nat, j ≤ n ∧ i = .int .i64 (j : Int) ∧ l.take j = k.take j ∧ Wider w wr) (fun i _ => n - (intOf i).toNat)
    case atStart => exact ⟨0, by omega, by simp, by simp, Wider.refl w⟩
    case round =>
      obtain ⟨j, hj, rfl, hs, hg⟩ := hrel
      have HS := Lib.hid hs
      have HG := Lib.hid hg
      clear hs
      by_cases c : j < n
      · have j0 : (0 : Int) ≤ (j : Int) := by omega
        have j1 : (j : Int) < (n : Int) := by omega
        obtain ⟨x, hx⟩ := next_some l j (by have := HN.out; omega)
        obtain ⟨y, hy⟩ := next_some k j (by have := HM.out; omega)
        cases A with
        | none => exact absurd (h.none_ rfl) (by intro e; rw [e] at hx; simp at hx)
        | some a =>
          cases B with
          | none => exact absurd (h2.none_ rfl) (by intro e; rw [e] at hy; simp at hy)
          | some b =>
            have T1 := Lib.hid (take_next l j x hx)
            have T2 := Lib.hid (take_next k j y hy)
            have c0 := wkeep hg (h.cell a rfl j x hx)
            have d0 := wkeep hg (h2.cell b rfl j y hy)
            have X := Lib.hid hx
            have Y := Lib.hid hy
            clear hx hy hg
            by_cases e : x = y
            · have E := Lib.hid (show l.take (j + 1) = k.take (j + 1) by rw [T1.out, T2.out, HS.out, e])
              subst e

              go_wp2
              go_quiet (fail)
              go_wp2
              go_roundw
              case rel => exact ⟨j + 1, by omega, by go_num, E.out, HG.out.drewN _⟩
              case measure => simp [intOf]; omega
            · have r0 : r = false := by
                cases r with
                | false => rfl
                | true =>
                  have e2 := HR.out.2 rfl
                  subst e2
                  have e3 := X.out.symm.trans Y.out
                  exact absurd (Option.some.inj e3) e
              subst r0
              have ne : (x.toList == y.toList) = false := by
                rw [beq_eq_false_iff_ne, ByteArray.toList_eq, ByteArray.toList_eq]
                intro p; exact e (ba_ext p)
              have ne2 : (x.toList != y.toList) = true := by rw [bne, ne]; rfl
              go_wp2
              go_quiet (fail)
              go_wp2
              go_ret
              exact ⟨rfl, HG.out.drewN _⟩
      · obtain rfl : j = n := by omega
        have r0 : r = true := HR.out.1 (by
          have e := HS.out
          rw [List.take_of_length_le (by have := HN.out; omega), List.take_of_length_le (by have := HM.out; omega)] at e
          exact e)
        subst r0
        go_wp2
        go_ret
        exact ⟨rfl, hg⟩
  · have r0 : r = false := by
      cases r with
      | false => rfl
      | true => exact absurd (by rw [← HN.out, ← HM.out, HR.out.2 rfl]) q
    subst r0
    have q1 : ((n : Int) == (m : Int)) = false := by rw [beq_eq_false_iff_ne]; omega
    have q2 : ((n : Int) != (m : Int)) = true := by rw [bne_iff_ne]; omega
    have q3 : ¬ (n : Int) = (m : Int) := by omega
    go_enter Try.func28, Try.ntmps28
    go_wp2
    go_ret
    exact ⟨rfl, Wider.refl w⟩

set_option maxHeartbeats 2000000 in
theorem same_c (A B : Option Addr) (n cap m cap2 : Nat) (l k : List AtN) {r : Bool} (w : World) (h : AtsAt w A l) (h2 : AtsAt w B k) (hn : l.length = n) (hm : k.length = m) (hl : n < 1000000) (hl2 : m < 1000000) (hr : (l = k) ↔ r = true) :
    Calls Try.prog 17 #[.slice A n cap, .slice B m cap2] w fun e w' => e = .returned (.bool r) ∧ Wider w w' := by
  have HR := Lib.hid hr
  have HN := Lib.hid hn
  have HM := Lib.hid hm
  clear hr hn hm
  by_cases q : n = m
  · subst q
    go_enter Try.func17, Try.ntmps17
    go_wp2
    go_loopw [5] (fun i wr => ∃ j : Nat, j ≤ n ∧ i = .int .i64 (j : Int) ∧ l.take j = k.take j ∧ Wider w wr) (fun i _ => n - (intOf i).toNat)
    case atStart => exact ⟨0, by omega, by simp, by simp, Wider.refl w⟩
    case round =>
      obtain ⟨j, hj, rfl, hs, hg⟩ := hrel
      have HS := Lib.hid hs
      have HG := Lib.hid hg
      clear hs
      by_cases c : j < n
      · have j0 : (0 : Int) ≤ (j : Int) := by omega
        have j1 : (j : Int) < (n : Int) := by omega
        obtain ⟨x, hx⟩ := next_some l j (by have := HN.out; omega)
        obtain ⟨y, hy⟩ := next_some k j (by have := HM.out; omega)
        cases A with
        | none => exact absurd (h.none_ rfl) (by intro e; rw [e] at hx; simp at hx)
        | some a =>
          cases B with
          | none => exact absurd (h2.none_ rfl) (by intro e; rw [e] at hy; simp at hy)
          | some b =>
            have T1 := Lib.hid (take_next l j x hx)
            have T2 := Lib.hid (take_next k j y hy)
            obtain ⟨c0, c1⟩ := (h.cell a rfl j x hx).on hg
            have d1 := AtAt.flat ⟨c0, c1⟩
            obtain ⟨e0, e1⟩ := (h2.cell b rfl j y hy).on hg
            have f1 := AtAt.flat ⟨e0, e1⟩
            obtain ⟨t, s⟩ := x
            obtain ⟨u, v⟩ := y
            simp only at c0 c1 d1 e0 e1 f1
            have X := Lib.hid hx
            have Y := Lib.hid hy
            clear hx hy hg
            by_cases e : (⟨t, s⟩ : AtN) = ⟨u, v⟩
            · have E := Lib.hid (show l.take (j + 1) = k.take (j + 1) by rw [T1.out, T2.out, HS.out, e])
              obtain ⟨rfl, rfl⟩ : t = u ∧ s = v := by injection e with e1 e2; exact ⟨e1, e2⟩
              clear e
              go_wp2
              go_quiet (fail)
              go_wp2
              go_roundw
              case rel => exact ⟨j + 1, by omega, by go_num, E.out, HG.out.drewN _⟩
              case measure => simp [intOf]; omega
            · have r0 : r = false := by
                cases r with
                | false => rfl
                | true =>
                  have e2 := HR.out.2 rfl
                  subst e2
                  have e3 := X.out.symm.trans Y.out
                  exact absurd (Option.some.inj e3) e
              subst r0
              by_cases p : t = u
              · subst p
                have ne : (s.toList == v.toList) = false := by
                  rw [beq_eq_false_iff_ne, ByteArray.toList_eq, ByteArray.toList_eq]
                  intro q; exact e (by rw [ba_ext q])
                go_wp2
                go_quiet (fail)
                go_wp2
                go_ret
                exact ⟨rfl, HG.out.drewN _⟩
              · have ne : ((t : Int) == (u : Int)) = false := by rw [beq_eq_false_iff_ne]; omega
                go_wp2
                go_quiet (fail)
                go_wp2
                go_ret
                exact ⟨rfl, HG.out.drewN _⟩

      · obtain rfl : j = n := by omega
        have r0 : r = true := HR.out.1 (by
          have e := HS.out
          rw [List.take_of_length_le (by have := HN.out; omega), List.take_of_length_le (by have := HM.out; omega)] at e
          exact e)
        subst r0
        go_wp2
        go_ret
        exact ⟨rfl, hg⟩
  · have r0 : r = false := by
      cases r with
      | false => rfl
      | true => exact absurd (by rw [← HN.out, ← HM.out, HR.out.2 rfl]) q
    subst r0
    have q1 : ((n : Int) == (m : Int)) = false := by rw [beq_eq_false_iff_ne]; omega
    have q2 : ((n : Int) != (m : Int)) = true := by rw [bne_iff_ne]; omega
    have q3 : ¬ (n : Int) = (m : Int) := by omega
    go_enter Try.func17, Try.ntmps17
    go_wp2
    go_ret
    exact ⟨rfl, Wider.refl w⟩

end Go.Proofs.Ytemfionibnlniaa
