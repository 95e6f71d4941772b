/- What the document's Of of layer 4 and the helper large of its statements do: over texts in memory. -/
import Derived.Test.YtkffoamdlgfcgaaHRefC
namespace Go.Proofs.Ytkffoamdlgfcgaa
set_option linter.unusedVariables false
open Go.RowKit

/-- How much texts are, as the statements of layer 4 reckon it. -/
def bulkH (l : List ByteArray) : Nat := (l.map fun s => 1 + min s.size 5000).sum
theorem bulkH_snoc (l : List ByteArray) (s : ByteArray) : bulkH (l ++ [s]) = bulkH l + (1 + min s.size 5000) := by unfold bulkH; simp
theorem bulkH_take (l : List ByteArray) (k : Nat) : bulkH (l.take k) ≤ bulkH l := by
  have e : bulkH l = bulkH (l.take k) + bulkH (l.drop k) := by
    unfold bulkH; rw [← List.sum_append, ← List.map_append, List.take_append_drop]
  omega
theorem hltake_snoc (l : List ByteArray) (k : Nat) (s : ByteArray) (h : l[k]? = some s) : l.take (k + 1) = l.take k ++ [s] := by
  have hk : k < l.length := (List.getElem?_eq_some_iff.1 h).1
  rw [List.take_succ_eq_append_getElem hk]
  congr 2
  rw [List.getElem?_eq_getElem hk] at h
  injection h

set_option maxHeartbeats 1000000 in
theorem large_c (A : Option Addr) (cap : Nat) (l : List ByteArray) {r : Bool} (w : World) (h : StrsAt w A l) (hl : l.length ≤ 9223372036854775807) (hs : ∀ s ∈ l, s.size ≤ 2 ^ 63 - 1) (hr : decide (5000 ≤ bulkH l) = r) :
    Calls Try.prog 10 #[.slice A l.length cap] w fun e w' => e = .returned (.bool r) ∧ w' = w := by
  have HR := Lib.hid hr
  have HS : Hid (∀ s ∈ l, s.size ≤ 9223372036854775807) := fun s h => by have := hs s h; omega
  obtain ⟨n, hn⟩ : ∃ n, l.length = n := ⟨_, rfl⟩
  rw [hn] at hl ⊢
  have HN := Lib.hid hn
  clear hr hs hn
  go_enter Try.func10, Try.ntmps10
  go_wp2
  go_loop [3, 4] (fun o i => ∃ k : Nat, k ≤ n ∧ (∃ V : Nat, o = .int .i64 (V : Int) ∧ bulkH (l.take k) = V ∧ V ≤ 10001) ∧ i = .int .i64 (k : Int)) (fun _ i => n - (intOf i).toNat)
  case atStart => exact ⟨0, by omega, ⟨0, by simp, by simp [bulkH], by omega⟩, by simp⟩
  case round =>
    obtain ⟨k, hk, ⟨V, rfl, hV, hV8⟩, rfl⟩ := hrel
    have HV := Lib.hid hV
    clear hV
    by_cases c : k < n
    · have c1 : decide ((k : Int) < (n : Int)) = true := decide_eq_true (by omega)
      have i0 : (0 : Int) ≤ (k : Int) := by omega
      have i1 : (k : Int) < (n : Int) := by omega
      by_cases d : V < 5000
      · have d1 : decide ((V : Int) < 5000) = true := decide_eq_true (by omega)
        have d2 : decide (V < 5000) = true := decide_eq_true d
        obtain ⟨s, hs⟩ : ∃ s, l[k]? = some s := ⟨l[k]'(by have := HN.out; omega), List.getElem?_eq_getElem _⟩
        have hsz := HS.out s (List.mem_of_getElem? hs)
        cases A with
        | none => exact absurd (h.none_ rfl) (by intro e; rw [e] at hs; simp at hs)
        | some a =>
          have hc := h.cell a rfl k s hs
          have st := bulkH_snoc (l.take k) s
          rw [← hltake_snoc l k s hs, HV.out] at st
          have ST := Lib.hid st
          have HS2 := Lib.hid hs
          clear st hs
          obtain ⟨z, hz⟩ : ∃ z : Nat, min s.size 5000 = z := ⟨_, rfl⟩
          have hz1 : min (s.size : Int) 5000 = (z : Int) := by omega
          have hz2 : z ≤ 5000 := by omega
          have ST2 : Hid (bulkH (l.take (k + 1)) = V + (1 + z)) := by have := ST.out; rw [hz] at this; exact this
          clear hz
          go_wp2
          go_round
          case rel => exact ⟨k + 1, by omega, ⟨V + (1 + z), by simp; omega, ST2.out, by omega⟩, by go_num⟩
          case measure => simp [intOf]; omega
      · have d1 : decide ((V : Int) < 5000) = false := decide_eq_false (by omega)
        have d2 : decide (V < 5000) = false := decide_eq_false d
        have hr2 : r = true := by
          rw [← HR.out]; apply decide_eq_true
          have := bulkH_take l k
          rw [HV.out] at this; omega
        subst hr2
        have d3 : decide ((5000 : Int) ≤ (V : Int)) = true := decide_eq_true (by omega)
        have d4 : decide (5000 ≤ V) = true := decide_eq_true (by omega)
        go_wp2
        go_ret
        exact ⟨rfl, rfl⟩
    · have c1 : decide ((k : Int) < (n : Int)) = false := decide_eq_false (by omega)
      have e := HV.out
      rw [List.take_of_length_le (by have := HN.out; omega)] at e
      have hr2 : decide (5000 ≤ V) = r := by rw [← HR.out, e]
      cases r with
      | true =>
        have d3 : decide ((5000 : Int) ≤ (V : Int)) = true := decide_eq_true (by have := of_decide_eq_true hr2; omega)
        go_wp2
        go_ret
        exact ⟨rfl, rfl⟩
      | false =>
        have d3 : decide ((5000 : Int) ≤ (V : Int)) = false := decide_eq_false (by have := of_decide_eq_false hr2; omega)
        go_wp2
        go_ret
        exact ⟨rfl, rfl⟩

/-- The hash of texts, one behind the other. -/
def textsH (l : List ByteArray) : BitVec 32 := moreH 2166136261#32 (joinL l).data.toList
theorem textsH_nil : textsH [] = 2166136261#32 := rfl
theorem textsH_snoc (l : List ByteArray) (s : ByteArray) : textsH (l ++ [s]) = moreH (textsH l) s.data.toList := by
  unfold textsH
  rw [joinL_snoc, ByteArray.data_append, Array.toList_append, moreH_append]

set_option maxHeartbeats 1000000 in
theorem rof4_c (A : Option Addr) (cap : Nat) (l : List ByteArray) {r : Nat} (w : World) (h : StrsAt w A l) (hl : l.length < 1152921504606846976) (hs : ∀ s ∈ l, s.size < 1152921504606846976) (hr : (textsH l).toNat = r) :
    Calls Try.prog 13 #[.slice A l.length cap] w fun e w' => e = .returned (.int .u32 (r : Int)) ∧ w' = w := by
  have HR := Lib.hid hr
  have HS := Lib.hid hs
  obtain ⟨n, hn⟩ : ∃ n, l.length = n := ⟨_, rfl⟩
  rw [hn] at hl ⊢
  have HN := Lib.hid hn
  clear hr hs hn
  go_enter Try.func13, Try.ntmps13
  go_wp2
  go_loop [3, 4] (fun o i => ∃ k : Nat, k ≤ n ∧ (∃ V : Nat, o = .int .u32 (V : Int) ∧ (textsH (l.take k)).toNat = V) ∧ i = .int .i64 (k : Int)) (fun _ i => n - (intOf i).toNat)
  case atStart => exact ⟨0, by omega, ⟨2166136261, by simp, by rw [List.take_zero, textsH_nil]; rfl⟩, by simp⟩
  case round =>
    obtain ⟨k, hk, ⟨V, rfl, hV⟩, rfl⟩ := hrel
    have HV := Lib.hid hV
    clear hV
    by_cases c : k < n
    · have i0 : (0 : Int) ≤ (k : Int) := by omega
      have i1 : (k : Int) < (n : Int) := by omega
      obtain ⟨s, hs⟩ : ∃ s, l[k]? = some s := ⟨l[k]'(by have := HN.out; omega), List.getElem?_eq_getElem _⟩
      have hsz := HS.out s (List.mem_of_getElem? hs)
      cases A with
      | none => exact absurd (h.none_ rfl) (by intro e; rw [e] at hs; simp at hs)
      | some a =>
        have hc := h.cell a rfl k s hs
        have st := textsH_snoc (l.take k) s
        rw [← hltake_snoc l k s hs] at st
        obtain ⟨R, hR⟩ : ∃ R, (moreH (textsH (l.take k)) s.data.toList).toNat = R := ⟨_, rfl⟩
        have za := rmore_c (textsH (l.take k)) s hsz HV.out hR
        rw [← st] at hR
        have HN2 := Lib.hid hR
        clear st hs hR
        go_wp2_with (go_at_call 19; ((with_reducible refine (za _).mono ?_); rintro e w2 ⟨rfl, rfl⟩))
        go_round
        case rel => exact ⟨k + 1, by omega, ⟨R, rfl, HN2.out⟩, by go_num⟩
        case measure => simp [intOf]; omega
    · have e := HV.out
      rw [List.take_of_length_le (by have := HN.out; omega), HR.out] at e
      subst e
      have i1 : ¬ (k : Int) < (n : Int) := by omega
      go_wp2
      go_ret
      exact ⟨rfl, rfl⟩

end Go.Proofs.Ytkffoamdlgfcgaa
