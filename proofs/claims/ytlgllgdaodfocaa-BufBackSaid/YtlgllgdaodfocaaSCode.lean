/- What the calls of package sum do: by walks of its code. -/
import Derived.Test.YtlgllgdaodfocaaSHelp
import Derived.Test.YtlgllgdaodfocaaSOpen
namespace Go.Proofs.Ytlgllgdaodfocaa
set_option linter.unusedVariables false
open Go.RowKit

theorem add_nums (a b : Nat) (ha : a < 65536) (hb : b < 65536) : ((a + b) % 65536 + (a + b) / 65536) % 65536 = oc a b := by unfold oc; split <;> omega
theorem sadd_s (a b : Nat) (ha : a < 65536) (hb : b < 65536) {r : Nat} (hr : oc a b = r) (w : World) :
    Calls Try.prog 26 #[.int .u16 (a : Int), .int .u16 (b : Int)] w fun e w' => e = .returned (.int .u16 (r : Int)) ∧ w' = w := by
  have h := add_nums a b ha hb
  rw [hr] at h
  have h1 : (((a : Int) + (b : Int)) % 65536 + ((a : Int) + (b : Int)) / 65536) % 65536 = (r : Int) := by omega
  have HR := Lib.hid h1
  clear hr h h1
  go_enter Try.func26, Try.ntmps26
  go_wp2
  go_ret
  exact ⟨by rw [← HR.out]; rfl, rfl⟩
theorem sadd_c (a b : Nat) (ha : a < 65536) (hb : b < 65536) {r : Nat} (hr : oc a b = r) (w : World) :
    Calls Try.prog 26 #[.int .u16 (a : Int), .int .u16 (b : Int)] w fun e w' => e = .returned (.int .u16 (r : Int)) ∧ Wider w w' :=
  (sadd_s a b ha hb hr w).mono fun _ _ h => ⟨h.1, h.2 ▸ Wider.refl w⟩

/-- One byte more, at an even place and at an odd one. -/
theorem sum_even1 (L : List UInt8) (c : UInt8) (h : L.length % 2 = 0) : sumS (L ++ [c]) = oc (sumS L) (c.toNat * 256) := sumS_byte L c h
theorem sum_odd1 (L : List UInt8) (c : UInt8) (h : L.length % 2 = 1) : sumS (L ++ [c]) = oc (sumS L) c.toNat := by
  have hc := c.toNat_lt
  unfold sumS; rw [wsum_odd _ _ h, oc_word _ (by omega)]; simp [wsum]
theorem stake (s : ByteArray) (k : Nat) (h : k < s.size) : s.data.toList.take (k + 1) = s.data.toList.take k ++ [s[k]] := by
  rw [List.take_succ_eq_append_getElem (by simpa using h)]; rfl
/-- The bytes of the first k texts, and of the first j of the next one. -/
def sofar (l : List ByteArray) (k : Nat) (s : ByteArray) (j : Nat) : List UInt8 := (joinL (l.take k)).data.toList ++ s.data.toList.take j
theorem sofar_0 (l : List ByteArray) (k : Nat) (s : ByteArray) : sofar l k s 0 = (joinL (l.take k)).data.toList := by unfold sofar; simp
theorem sofar_step (l : List ByteArray) (k : Nat) (s : ByteArray) (j : Nat) (h : j < s.size) : sofar l k s (j + 1) = sofar l k s j ++ [s[j]] := by
  unfold sofar; rw [stake s j h, List.append_assoc]
theorem sofar_end (l : List ByteArray) (k : Nat) (s : ByteArray) (hs : l[k]? = some s) : sofar l k s s.size = (joinL (l.take (k + 1))).data.toList := by
  unfold sofar
  rw [ltake_snoc l k s hs, joinL_snoc, ByteArray.data_append, Array.toList_append, List.take_of_length_le (l := s.data.toList) (by simp)]
/-- The place of the next byte of so many. -/
def shiftN (n : Nat) : Nat := if n % 2 = 0 then 8 else 0

set_option maxHeartbeats 2000000 in
theorem ssum_s (A : Option Addr) (n cap : Nat) (l : List ByteArray) {r : Nat} (w : World) (h : StrsAt w A l) (hn : l.length = n) (hl : n < 1000000) (hs : (joinL l).size < 1000000) (hr : sumS (joinL l).data.toList = r) :
    Calls Try.prog 27 #[.slice A n cap] w fun e w' => e = .returned (.int .u16 (r : Int)) ∧ w' = w := by
  have HR := Lib.hid hr
  have HN := Lib.hid hn
  have HS := Lib.hid hs
  clear hr hn hs
  go_enter Try.func27, Try.ntmps27
  go_wp2
  go_loop [3, 4, 10] (fun o p i => ∃ k : Nat, k ≤ n ∧ (∃ V : Nat, o = .int .u16 (V : Int) ∧ sumS (joinL (l.take k)).data.toList = V) ∧ (∃ q : Nat, p = .int .i64 (q : Int) ∧ shiftN (joinL (l.take k)).data.toList.length = q) ∧ i = .int .i64 (k : Int)) (fun _ _ i => n - (intOf i).toNat)
  case atStart => exact ⟨0, by omega, ⟨0, by simp, rfl⟩, ⟨8, by simp, rfl⟩, by simp⟩
  case round =>
    obtain ⟨k, hk, ⟨V, rfl, hV⟩, ⟨q, rfl, hq⟩, rfl⟩ := hrel
    have HV := Lib.hid hV
    have HQ := Lib.hid hq
    clear hV hq
    by_cases c : k < n
    · have i0 : (0 : Int) ≤ (k : Int) := by omega
      have i1 : (k : Int) < (n : Int) := by omega
      obtain ⟨s, hs⟩ : ∃ s, l[k]? = some s := ⟨l[k]'(by have := HN.out; omega), List.getElem?_eq_getElem _⟩
      cases A with
      | none => exact absurd (h.none_ rfl) (by intro e; rw [e] at hs; simp at hs)
      | some a =>
        have hc := h.cell a rfl k s hs
        have hz : s.size < 1000000 := by
          have e1 := joinL_take l (k + 1)
          rw [ltake_snoc l k s hs, joinL_snoc, ByteArray.size_append] at e1
          have := HS.out; omega
        have HE := Lib.hid (sofar_end l k s hs)
        clear hs
        go_wp2
        go_loop [3, 4, 16] (fun o p i => ∃ j : Nat, j ≤ s.size ∧ (∃ V : Nat, o = .int .u16 (V : Int) ∧ sumS (sofar l k s j) = V) ∧ (∃ q : Nat, p = .int .i64 (q : Int) ∧ shiftN (sofar l k s j).length = q) ∧ i = .int .i64 (j : Int)) (fun _ _ i => s.size - (intOf i).toNat)
        case atStart => exact ⟨0, by omega, ⟨V, rfl, by rw [sofar_0]; exact HV.out⟩, ⟨q, rfl, by rw [sofar_0]; exact HQ.out⟩, by simp⟩
        case round =>
          obtain ⟨j, hj, ⟨U, rfl, hU⟩, ⟨p, rfl, hp⟩, rfl⟩ := hrel
          have lU : U < 65536 := by rw [← hU]; exact sumS_lt _
          by_cases d : j < s.size
          · have j0 : (0 : Int) ≤ (j : Int) := by omega
            have j1 : (j : Int) < (s.size : Int) := by omega
            have la : s[j].toNat < 256 := UInt8.toNat_lt _
            have st := sofar_step l k s j d
            have sl : (sofar l k s (j + 1)).length = (sofar l k s j).length + 1 := by rw [st]; simp
            rcases Nat.mod_two_eq_zero_or_one (sofar l k s j).length with m | m
            · have e1 : p = 8 := by rw [← hp]; unfold shiftN; rw [if_pos m]
              have t := sum_even1 _ s[j] m
              rw [← st, hU] at t
              have t2 : shiftN (sofar l k s (j + 1)).length = 0 := by unfold shiftN; rw [if_neg (by omega)]
              obtain ⟨R, hR⟩ : ∃ R, oc U (s[j].toNat * 256) = R := ⟨_, rfl⟩
              rw [hR] at t
              have za := sadd_s U (s[j].toNat * 256) lU (by omega) hR
              rw [show ((s[j].toNat * 256 : Nat) : Int) = (s[j].toNat : Int) * 256 by omega] at za
              have T := Lib.hid t
              have T2 := Lib.hid t2
              subst e1
              clear st sl m hp hU t t2 hR
              go_wp2_with (go_at_call 26; ((with_reducible refine (za _).mono ?_); rintro e w2 ⟨rfl, rfl⟩))
              go_round
              case rel => exact ⟨j + 1, by omega, ⟨R, rfl, T.out⟩, ⟨0, by simp, T2.out⟩, by go_num⟩
              case measure => simp [intOf]; omega
            · have e1 : p = 0 := by rw [← hp]; unfold shiftN; rw [if_neg (by omega)]
              have t := sum_odd1 _ s[j] m
              rw [← st, hU] at t
              have t2 : shiftN (sofar l k s (j + 1)).length = 8 := by unfold shiftN; rw [if_pos (by omega)]
              obtain ⟨R, hR⟩ : ∃ R, oc U s[j].toNat = R := ⟨_, rfl⟩
              rw [hR] at t
              have za := sadd_s U s[j].toNat lU (by omega) hR
              have T := Lib.hid t
              have T2 := Lib.hid t2
              subst e1
              clear st sl m hp hU t t2 hR
              go_wp2_with (go_at_call 26; ((with_reducible refine (za _).mono ?_); rintro e w2 ⟨rfl, rfl⟩))
              go_round
              case rel => exact ⟨j + 1, by omega, ⟨R, rfl, T.out⟩, ⟨8, by simp, T2.out⟩, by go_num⟩
              case measure => simp [intOf]; omega
          · have e : j = s.size := by omega
            have f := HE.out
            rw [← e] at f
            rw [f] at hU hp
            have j1 : ¬ (j : Int) < (s.size : Int) := by omega
            have HU := Lib.hid hU
            have HP := Lib.hid hp
            clear hU hp e f
            go_wp2
            go_round
            case rel => exact ⟨k + 1, by omega, ⟨U, rfl, HU.out⟩, ⟨p, rfl, HP.out⟩, by go_num⟩
            case measure => simp [intOf]; omega
    · have e := HV.out
      rw [List.take_of_length_le (by have := HN.out; omega), HR.out] at e
      obtain rfl : r = V := e
      have i1 : ¬ (k : Int) < (n : Int) := by omega
      go_wp2
      go_ret
      exact ⟨rfl, rfl⟩

theorem ssum_c (A : Option Addr) (n cap : Nat) (l : List ByteArray) {r : Nat} (w : World) (h : StrsAt w A l) (hn : l.length = n) (hl : n < 1000000) (hs : (joinL l).size < 1000000) (hr : sumS (joinL l).data.toList = r) :
    Calls Try.prog 27 #[.slice A n cap] w fun e w' => e = .returned (.int .u16 (r : Int)) ∧ Wider w w' :=
  (ssum_s A n cap l w h hn hl hs hr).mono fun _ _ h => ⟨h.1, h.2 ▸ Wider.refl w⟩
end Go.Proofs.Ytlgllgdaodfocaa
