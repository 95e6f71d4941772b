/- How much texts are as the statements of layer 7 reckon it; the document's Same: by walks. -/
import Derived.Test.YtcpjhgbbcfbnpaaOpen
import Derived.Test.YtcpjhgbbcfbnpaaTMem
import Derived.WalkKit
import Derived.Lib.Hide
import Derived.Deep.DeepCutAuto
import Derived.WalkLawsBesides
import Derived.WalkSpells
import Derived.BigQuiet
import Derived.BigRegion
import Derived.Deep.RegionHeld3
namespace Go.Proofs.Ytcpjhgbbcfbnpaa
set_option linter.unusedVariables false
open Go.ChangeShapes Go.WideShapes Go.ChangeAt Go.RowKit Go.Joins
open Go.ChangeMaps (open_string shut_string)

/-- How much it is, as the statements reckon it. -/
def bulkK (l : List ByteArray) : Nat := (l.map fun x => 100 + min 60000 x.size).sum
theorem bulkK_snoc (l : List ByteArray) (x : ByteArray) : bulkK (l ++ [x]) = bulkK l + (100 + min 60000 x.size) := by unfold bulkK; simp
theorem bulkK_append (l m : List ByteArray) : bulkK (l ++ m) = bulkK l + bulkK m := by unfold bulkK; simp
theorem bulkK_take (l : List ByteArray) (k : Nat) : bulkK (l.take k) ≤ bulkK l := by
  have e : bulkK l = bulkK (l.take k) + bulkK (l.drop k) := by rw [← bulkK_append, List.take_append_drop]
  omega
theorem bulkK_len (l : List ByteArray) : 100 * l.length ≤ bulkK l := by
  unfold bulkK
  induction l with
  | nil => simp
  | cons s l ih => simp only [List.map_cons, List.sum_cons, List.length_cons]; omega
theorem bulkK_each (l : List ByteArray) (h : bulkK l < 60000) : ∀ x ∈ l, x.size < 60000 := by
  induction l with
  | nil => simp
  | cons a l ih =>
    have e : bulkK (a :: l) = (100 + min 60000 a.size) + bulkK l := by simp [bulkK]
    rw [e] at h
    intro x hx
    rcases List.mem_cons.1 hx with rfl | hx
    · omega
    · exact ih (by omega) x hx

set_option maxHeartbeats 2000000 in
theorem klong_c (A : Option Addr) (n cap : Nat) (l : List ByteArray) {r : Bool} (w : World) (h : StrsAt w A l) (hn : l.length = n) (hl : n ≤ 9223372036854775807) (hs : ∀ x ∈ l, x.size ≤ 9223372036854775807) (hr : decide (60000 ≤ bulkK l) = r) :
    Calls Try.prog 18 #[.slice A n cap] w fun e w' => e = .returned (.bool r) ∧ w' = w := by
  have HR := Lib.hid hr
  have HS := Lib.hid hs
  have HN := Lib.hid hn
  clear hr hs hn
  go_enter Try.func18, Try.ntmps18
  go_wp2
  go_loop [3, 4] (fun o i => ∃ k : Nat, k ≤ n ∧ (∃ V : Nat, o = .int .i64 (V : Int) ∧ bulkK (l.take k) = V ∧ V ≤ 120200) ∧ i = .int .i64 (k : Int)) (fun _ i => n - (intOf i).toNat)
  case atStart => exact ⟨0, by omega, ⟨0, by simp, by simp [bulkK], by omega⟩, by simp⟩
  case round =>
    obtain ⟨k, hk, ⟨V, rfl, hV, hV8⟩, rfl⟩ := hrel
    have HV := Lib.hid hV
    clear hV
    by_cases c : k < n
    · have c1 : decide ((k : Int) < (n : Int)) = true := decide_eq_true (by omega)
      have i0 : (0 : Int) ≤ (k : Int) := by omega
      have i1 : (k : Int) < (n : Int) := by omega
      by_cases d : V < 60000
      · have d1 : decide ((V : Int) < 60000) = true := decide_eq_true (by omega)
        have d2 : decide (V < 60000) = true := decide_eq_true d
        obtain ⟨x, hs⟩ := next_some l k (by have := HN.out; omega)
        have hsz := HS.out x (List.mem_of_getElem? hs)
        cases A with
        | none => exact absurd (h.none_ rfl) (by intro e; rw [e] at hs; simp at hs)
        | some a =>
          have hc := h.cell a rfl k x hs
          have st := bulkK_snoc (l.take k) x
          rw [← take_next l k x hs, HV.out] at st
          have ST := Lib.hid st
          have HS2 := Lib.hid hs
          clear st hs
          obtain ⟨s, rfl⟩ : ∃ s, s = x := ⟨_, rfl⟩
          obtain ⟨z, hz⟩ : ∃ z : Nat, min 60000 s.size = z := ⟨_, rfl⟩
          have hz1 : min (60000 : Int) (s.size : Int) = (z : Int) := by omega
          have hz2 : z ≤ 60000 := by omega
          have ST2 : Hid (bulkK (l.take (k + 1)) = V + (100 + z)) := by have := ST.out; rw [hz] at this; exact this
          clear hz
          go_wp2
          go_round
          case rel => exact ⟨k + 1, by omega, ⟨V + (100 + z), by simp; omega, ST2.out, by omega⟩, by go_num⟩
          case measure => simp [intOf]; omega
      · have d1 : decide ((V : Int) < 60000) = false := decide_eq_false (by omega)
        have d2 : decide (V < 60000) = false := decide_eq_false d
        have hr2 : r = true := by
          have := bulkK_take l k
          rw [HV.out] at this
          rw [← HR.out]
          exact decide_eq_true (by omega)
        subst hr2
        have d3 : decide ((60000 : Int) ≤ (V : Int)) = true := decide_eq_true (by omega)
        have d4 : decide (60000 ≤ V) = true := decide_eq_true (by omega)
        go_wp2
        go_ret
        exact ⟨rfl, rfl⟩
    · have c1 : decide ((k : Int) < (n : Int)) = false := decide_eq_false (by omega)
      have e := HV.out
      rw [List.take_of_length_le (by have := HN.out; omega)] at e
      have hr2 : decide (60000 ≤ V) = r := by rw [← HR.out, e]
      cases r with
      | true =>
        have d3 : decide ((60000 : Int) ≤ (V : Int)) = true := decide_eq_true (by have := of_decide_eq_true hr2; omega)
        go_wp2
        go_ret
        exact ⟨rfl, rfl⟩
      | false =>
        have d3 : decide ((60000 : Int) ≤ (V : Int)) = false := decide_eq_false (by have := of_decide_eq_false hr2; omega)
        go_wp2
        go_ret
        exact ⟨rfl, rfl⟩

set_option maxHeartbeats 2000000 in
theorem ksame_c (A B : Option Addr) (n cap m cap2 : Nat) (l k : List ByteArray) {r : Bool} (w : World) (h : StrsAt w A l) (h2 : StrsAt w B k) (hn : l.length = n) (hm : k.length = m) (hl : n < 600000) (hl2 : m < 600000) (hr : (l = k) ↔ r = true) :
    Calls Try.prog 15 #[.slice A n cap, .slice B m cap2] w fun e w' => e = .returned (.bool r) ∧ Wider w w' := by
  have HR := Lib.hid hr
  have HN := Lib.hid hn
  have HM := Lib.hid hm
  clear hr hn hm
  by_cases q : n = m
  · subst q
    go_enter Try.func15, Try.ntmps15
    go_wp2
    go_loopw [5] (fun i wr => ∃ j : Nat, j ≤ n ∧ i = .int .i64 (j : Int) ∧ l.take j = k.take j ∧ Wider w wr) (fun i _ => n - (intOf i).toNat)
    case atStart => exact ⟨0, by omega, by simp, by simp, Wider.refl w⟩
    case round =>
      obtain ⟨j, hj, rfl, hs, hg⟩ := hrel
      have HS := Lib.hid hs
      have HG := Lib.hid hg
      clear hs
      by_cases c : j < n
      · have j0 : (0 : Int) ≤ (j : Int) := by omega
        have j1 : (j : Int) < (n : Int) := by omega
        obtain ⟨x, hx⟩ := next_some l j (by have := HN.out; omega)
        obtain ⟨y, hy⟩ := next_some k j (by have := HM.out; omega)
        cases A with
        | none => exact absurd (h.none_ rfl) (by intro e; rw [e] at hx; simp at hx)
        | some a =>
          cases B with
          | none => exact absurd (h2.none_ rfl) (by intro e; rw [e] at hy; simp at hy)
          | some b =>
            have T1 := Lib.hid (take_next l j x hx)
            have T2 := Lib.hid (take_next k j y hy)
            have c0 := wkeep hg (h.cell a rfl j x hx)
            have d0 := wkeep hg (h2.cell b rfl j y hy)
            have X := Lib.hid hx
            have Y := Lib.hid hy
            clear hx hy hg
            by_cases e : x = y
            · have E := Lib.hid (show l.take (j + 1) = k.take (j + 1) by rw [T1.out, T2.out, HS.out, e])
              subst e

              go_wp2
              go_quiet (fail)
              go_wp2
              go_roundw
              case rel => exact ⟨j + 1, by omega, by go_num, E.out, HG.out.drewN _⟩
              case measure => simp [intOf]; omega
            · have r0 : r = false := by
                cases r with
                | false => rfl
                | true =>
                  have e2 := HR.out.2 rfl
                  subst e2
                  have e3 := X.out.symm.trans Y.out
                  exact absurd (Option.some.inj e3) e
              subst r0
              have ne : (x.toList == y.toList) = false := by
                rw [beq_eq_false_iff_ne, ByteArray.toList_eq, ByteArray.toList_eq]
                intro p; exact e (ba_ext p)
              have ne2 : (x.toList != y.toList) = true := by rw [bne, ne]; rfl
              go_wp2
              go_quiet (fail)
              go_wp2
              go_ret
              exact ⟨rfl, HG.out.drewN _⟩
      · obtain rfl : j = n := by omega
        have r0 : r = true := HR.out.1 (by
          have e := HS.out
          rw [List.take_of_length_le (by have := HN.out; omega), List.take_of_length_le (by have := HM.out; omega)] at e
          exact e)
        subst r0
        go_wp2
        go_ret
        exact ⟨rfl, hg⟩
  · have r0 : r = false := by
      cases r with
      | false => rfl
      | true => exact absurd (by rw [← HN.out, ← HM.out, HR.out.2 rfl]) q
    subst r0
    have q1 : ((n : Int) == (m : Int)) = false := by rw [beq_eq_false_iff_ne]; omega
    have q2 : ((n : Int) != (m : Int)) = true := by rw [bne_iff_ne]; omega
    have q3 : ¬ (n : Int) = (m : Int) := by omega
    go_enter Try.func15, Try.ntmps15
    go_wp2
    go_ret
    exact ⟨rfl, Wider.refl w⟩


end Go.Proofs.Ytcpjhgbbcfbnpaa
