/- What the helpers of the statements of layer 3 do, and Joined of the document's answers. -/
import Derived.Test.YtlgahhehagffeaaSRef
namespace Go.Proofs.Ytlgahhehagffeaa
set_option linter.unusedVariables false
open Go.RowKit

theorem or_u16 (a b : Nat) (ha : a < 65536) (hb : b < 65536) : bits .or .u16 (a : Int) (b : Int) = ((a ||| b : Nat) : Int) := by
  have hx : a ||| b < 2 ^ 16 := Nat.or_lt_two_pow (by omega) (by omega)
  have h1 : (BitVec.ofInt 16 (a : Int)).toNat = a := by
    rw [BitVec.ofInt_natCast, BitVec.toNat_ofNat]; exact Nat.mod_eq_of_lt (by omega)
  have h2 : (BitVec.ofInt 16 (b : Int)).toNat = b := by
    rw [BitVec.ofInt_natCast, BitVec.toNat_ofNat]; exact Nat.mod_eq_of_lt (by omega)
  show IntKind.u16.wrap ((BitVec.ofInt 16 (a : Int) ||| BitVec.ofInt 16 (b : Int)).toNat : Int) = _
  rw [BitVec.toNat_or, h1, h2, IntKind.wrap_u16]
  omega
theorem xor_u16 (a b : Nat) (ha : a < 65536) (hb : b < 65536) : bits .xor .u16 (a : Int) (b : Int) = ((a ^^^ b : Nat) : Int) := by
  have hx : a ^^^ b < 2 ^ 16 := Nat.xor_lt_two_pow (by omega) (by omega)
  have h1 : (BitVec.ofInt 16 (a : Int)).toNat = a := by
    rw [BitVec.ofInt_natCast, BitVec.toNat_ofNat]; exact Nat.mod_eq_of_lt (by omega)
  have h2 : (BitVec.ofInt 16 (b : Int)).toNat = b := by
    rw [BitVec.ofInt_natCast, BitVec.toNat_ofNat]; exact Nat.mod_eq_of_lt (by omega)
  show IntKind.u16.wrap ((BitVec.ofInt 16 (a : Int) ^^^ BitVec.ofInt 16 (b : Int)).toNat : Int) = _
  rw [BitVec.toNat_xor, h1, h2, IntKind.wrap_u16]
  omega
theorem not_u16 (n : Nat) (h : n < 65536) : bits .xor .u16 IntKind.u16.max (n : Int) = 65535 - (n : Int) := by
  have e : IntKind.u16.max = ((65535 : Nat) : Int) := rfl
  rw [e, xor_u16 _ _ (by decide) h]
  have b : (BitVec.allOnes 16 ^^^ BitVec.ofNat 16 n).toNat = 65535 - n := by
    rw [BitVec.allOnes_xor, BitVec.toNat_not, BitVec.toNat_ofNat]; omega
  rw [BitVec.toNat_xor, BitVec.toNat_allOnes, BitVec.toNat_ofNat] at b
  have c : n % 2 ^ 16 = n := Nat.mod_eq_of_lt h
  rw [c] at b
  have d : (2 : Nat) ^ 16 - 1 = 65535 := by decide
  rw [d] at b
  omega
theorem turn_or (n : Nat) (h : n < 65536) : bits .or .u16 ((n : Int) * 256 % 65536) ((n : Int) / 256) = (turnW n : Int) := by
  have e1 : (n : Int) * 256 % 65536 = ((n * 256 % 65536 : Nat) : Int) := by omega
  have e2 : (n : Int) / 256 = ((n / 256 : Nat) : Int) := by omega
  rw [e1, e2, or_u16 _ _ (by omega) (by omega)]
  unfold turnW
  have e3 : n * 256 % 65536 = (n % 256) * 2 ^ 8 := by omega
  rw [e3, ← Nat.shiftLeft_eq, ← Nat.shiftLeft_add_eq_or_of_lt (show n / 256 < 2 ^ 8 by omega)]

theorem turned_c (n : Nat) (h : n < 65536) {r : Nat} (hr : turnW n = r) (w : World) :
    Calls Try.prog 24 #[.int .u16 (n : Int)] w fun e w' => e = .returned (.int .u16 (r : Int)) ∧ w' = w := by
  have e := turn_or n h
  rw [hr, ← IntKind.wrap_u16] at e
  clear hr
  go_enter Try.func24, Try.ntmps24
  go_wp2
  go_ret
  exact ⟨rfl, rfl⟩

/-- A text without its last byte, if it has one too many. -/
def evenS (s : ByteArray) : ByteArray := s.extract 0 (s.size - s.size % 2)
theorem evenS_size (s : ByteArray) : (evenS s).size = s.size - s.size % 2 := by unfold evenS; simp
theorem even_c (s : ByteArray) {T : ByteArray} (hs : s.size < 1152921504606846976) (hT : evenS s = T) (w : World) :
    Calls Try.prog 25 #[.string s] w fun e w' => e = .returned (.string T) ∧ w' = w := by
  subst hT
  unfold evenS
  have f1 : (s.size : Int) - (s.size : Int) % 2 = ((s.size - s.size % 2 : Nat) : Int) := by omega
  have i0 : (0 : Int) ≤ (s.size : Int) - (s.size : Int) % 2 := by omega
  have i1 : (s.size : Int) - (s.size : Int) % 2 ≤ (s.size : Int) := by omega
  have i2 : ((s.size : Int) - (s.size : Int) % 2).toNat = s.size - s.size % 2 := by omega
  go_enter Try.func25, Try.ntmps25
  go_wp2
  go_ret
  exact ⟨by first | rfl | (rw [i2]; rfl), rfl⟩

/-- An even place within a text of n bytes, or at its end. -/
def placeI (n : Nat) (k : Int) : Int := 2 * wrap64 ((IntKind.u64.wrap k).tmod ((n : Int) / 2 + 1))
theorem place_ex (n : Nat) (k : Int) (hn : n < 1152921504606846976) : ∃ P : Nat, placeI n k = (P : Int) ∧ P % 2 = 0 ∧ P ≤ n := by
  unfold placeI
  have u0 : 0 ≤ IntKind.u64.wrap k := by rw [IntKind.wrap_u64]; omega
  rw [Int.tmod_eq_emod_of_nonneg u0]
  have v0 := Int.emod_nonneg (IntKind.u64.wrap k) (show (n : Int) / 2 + 1 ≠ 0 by omega)
  have v1 := Int.emod_lt_of_pos (IntKind.u64.wrap k) (show (0 : Int) < (n : Int) / 2 + 1 by omega)
  generalize IntKind.u64.wrap k % ((n : Int) / 2 + 1) = V at *
  have e1 : wrap64 V = V := by unfold wrap64; omega
  rw [e1]
  exact ⟨(2 * V).toNat, by omega, by omega, by omega⟩
theorem splace_c (s : ByteArray) (k : Int) {P : Nat} (hs : s.size < 1152921504606846976) (k0 : -9223372036854775808 ≤ k) (k1 : k ≤ 9223372036854775807) (hP : placeI s.size k = (P : Int)) (hle : P ≤ s.size) (w : World) :
    Calls Try.prog 26 #[.string s, .int .i64 k] w fun e w' => e = .returned (.int .i64 (P : Int)) ∧ w' = w := by
  unfold placeI at hP
  have q0 : 0 ≤ (s.size : Int) / 2 + 1 := by omega
  obtain ⟨V, hV⟩ : ∃ V : Int, wrap64 ((IntKind.u64.wrap k).tmod ((s.size : Int) / 2 + 1)) = V := ⟨_, rfl⟩
  rw [hV] at hP
  have v0 : 0 ≤ V := by omega
  have v1 : V ≤ 1152921504606846976 := by omega
  have HP := Lib.hid hP
  clear hP
  go_enter Try.func26, Try.ntmps26
  go_wp2
  go_ret
  exact ⟨by rw [← HP.out]; rfl, rfl⟩

/-- A word's two bytes. -/
def twoS (n : Nat) : ByteArray := strOfNums [((n / 256 : Nat) : Int), ((n % 256 : Nat) : Int)]
theorem twoS_data (n : Nat) (h : n < 65536) : ∃ a b : UInt8, (twoS n).data.toList = [a, b] ∧ a.toNat * 256 + b.toNat = n := by
  refine ⟨UInt8.ofNat (n / 256), UInt8.ofNat (n % 256), ?_, ?_⟩
  · unfold twoS; rw [strOfNums_data]
    simp only [List.map_cons, List.map_nil, Int.toNat_natCast]
  · rw [UInt8.toNat_ofNat', UInt8.toNat_ofNat']; omega
theorem two_c (n : Nat) (h : n < 65536) {T : ByteArray} (hT : twoS n = T) (w : World) :
    Calls Try.prog 27 #[.int .u16 (n : Int)] w fun e w' => e = .returned (.string T) ∧ Grown w w' := by
  have hc := run_convert_bytes_arg (P := Try.prog) (w.alloc (.cells #[.int .u8 ((n : Int) / 256), .int .u8 ((n : Int) % 256)] 5)) 26 5 Try.underlying26 Try.underlying5 w.heap.size 0 2 2 [((n / 256 : Nat) : Int), ((n % 256 : Nat) : Int)] rfl (fun i hi => by
    have e : i = 0 ∨ i = 1 := by omega
    rcases e with rfl | rfl
    · rw [World.cell?_alloc_new]; simp
    · rw [World.cell?_alloc_new]; simp) 9 Try.underlying9
  have hT2 : strOfNums [((n / 256 : Nat) : Int), ((n % 256 : Nat) : Int)] = T := hT
  rw [hT2] at hc
  clear hT hT2
  have m1 : (n : Int) / 256 % 256 = (n : Int) / 256 := by omega
  go_enter Try.func27, Try.ntmps27
  go_wp2
  go_ret
  exact ⟨rfl, (Grown.refl _).alloc _ _⟩

/-- How much texts are, as the statements reckon it. -/
def bulk (l : List ByteArray) : Nat := (l.map fun s => 1 + min 40000 s.size).sum
theorem bulk_snoc (l : List ByteArray) (s : ByteArray) : bulk (l ++ [s]) = bulk l + (1 + min 40000 s.size) := by unfold bulk; simp
theorem bulk_take (l : List ByteArray) (k : Nat) : bulk (l.take k) ≤ bulk l := by
  have e : bulk l = bulk (l.take k) + bulk (l.drop k) := by
    unfold bulk; rw [← List.sum_append, ← List.map_append, List.take_append_drop]
  omega
theorem ltake_snoc (l : List ByteArray) (k : Nat) (s : ByteArray) (h : l[k]? = some s) : l.take (k + 1) = l.take k ++ [s] := by
  have hk : k < l.length := (List.getElem?_eq_some_iff.1 h).1
  rw [List.take_succ_eq_append_getElem hk]
  congr 2
  rw [List.getElem?_eq_getElem hk] at h
  injection h

set_option maxHeartbeats 1000000 in
theorem long_c (A : Option Addr) (cap : Nat) (l : List ByteArray) {r : Bool} (w : World) (h : StrsAt w A l) (hl : l.length ≤ 9223372036854775807) (hs : ∀ s ∈ l, s.size ≤ 2 ^ 63 - 1) (hr : decide (40000 ≤ bulk l) = r) :
    Calls Try.prog 18 #[.slice A l.length cap] w fun e w' => e = .returned (.bool r) ∧ w' = w := by
  have HR := Lib.hid hr
  have HS : Hid (∀ s ∈ l, s.size ≤ 9223372036854775807) := fun s h => by have := hs s h; omega
  obtain ⟨n, hn⟩ : ∃ n, l.length = n := ⟨_, rfl⟩
  rw [hn] at hl ⊢
  have HN := Lib.hid hn
  clear hr hs hn
  go_enter Try.func18, Try.ntmps18
  go_wp2
  go_loop [3, 4] (fun o i => ∃ k : Nat, k ≤ n ∧ (∃ V : Nat, o = .int .i64 (V : Int) ∧ bulk (l.take k) = V ∧ V ≤ 80001) ∧ i = .int .i64 (k : Int)) (fun _ i => n - (intOf i).toNat)
  case atStart => exact ⟨0, by omega, ⟨0, by simp, by simp [bulk], by omega⟩, by simp⟩
  case round =>
    obtain ⟨k, hk, ⟨V, rfl, hV, hV8⟩, rfl⟩ := hrel
    have HV := Lib.hid hV
    clear hV
    by_cases c : k < n
    · have c1 : decide ((k : Int) < (n : Int)) = true := decide_eq_true (by omega)
      have i0 : (0 : Int) ≤ (k : Int) := by omega
      have i1 : (k : Int) < (n : Int) := by omega
      by_cases d : V < 40000
      · have d1 : decide ((V : Int) < 40000) = true := decide_eq_true (by omega)
        have d2 : decide (V < 40000) = true := decide_eq_true d
        obtain ⟨s, hs⟩ : ∃ s, l[k]? = some s := ⟨l[k]'(by have := HN.out; omega), List.getElem?_eq_getElem _⟩
        have hsz := HS.out s (List.mem_of_getElem? hs)
        cases A with
        | none => exact absurd (h.none_ rfl) (by intro e; rw [e] at hs; simp at hs)
        | some a =>
          have hc := h.cell a rfl k s hs
          have st := bulk_snoc (l.take k) s
          rw [← ltake_snoc l k s hs, HV.out] at st
          have ST := Lib.hid st
          have HS2 := Lib.hid hs
          clear st hs
          obtain ⟨z, hz⟩ : ∃ z : Nat, min 40000 s.size = z := ⟨_, rfl⟩
          have hz1 : min (40000 : Int) (s.size : Int) = (z : Int) := by omega
          have hz2 : z ≤ 40000 := by omega
          have ST2 : Hid (bulk (l.take (k + 1)) = V + (1 + z)) := by have := ST.out; rw [hz] at this; exact this
          clear hz
          go_wp2
          go_round
          case rel => exact ⟨k + 1, by omega, ⟨V + (1 + z), by simp; omega, ST2.out, by omega⟩, by go_num⟩
          case measure => simp [intOf]; omega
      · have d1 : decide ((V : Int) < 40000) = false := decide_eq_false (by omega)
        have d2 : decide (V < 40000) = false := decide_eq_false d
        have hr2 : r = true := by
          rw [← HR.out]; apply decide_eq_true
          have := bulk_take l k
          rw [HV.out] at this; omega
        subst hr2
        have d3 : decide ((40000 : Int) ≤ (V : Int)) = true := decide_eq_true (by omega)
        have d4 : decide (40000 ≤ V) = true := decide_eq_true (by omega)
        go_wp2
        go_ret
        exact ⟨rfl, rfl⟩
    · have c1 : decide ((k : Int) < (n : Int)) = false := decide_eq_false (by omega)
      have e := HV.out
      rw [List.take_of_length_le (by have := HN.out; omega)] at e
      have hr2 : decide (40000 ≤ V) = r := by rw [← HR.out, e]
      cases r with
      | true =>
        have d3 : decide ((40000 : Int) ≤ (V : Int)) = true := decide_eq_true (by have := of_decide_eq_true hr2; omega)
        go_wp2
        go_ret
        exact ⟨rfl, rfl⟩
      | false =>
        have d3 : decide ((40000 : Int) ≤ (V : Int)) = false := decide_eq_false (by have := of_decide_eq_false hr2; omega)
        go_wp2
        go_ret
        exact ⟨rfl, rfl⟩

theorem joinL_take (l : List ByteArray) (k : Nat) : (joinL (l.take k)).size ≤ (joinL l).size := by
  rw [joinL_size, joinL_size]
  have e : (l.map fun s => s.size).sum = ((l.take k).map fun s => s.size).sum + ((l.drop k).map fun s => s.size).sum := by
    rw [← List.sum_append, ← List.map_append, List.take_append_drop]
  omega

set_option maxHeartbeats 1000000 in
theorem joined_c (A : Option Addr) (cap : Nat) (l : List ByteArray) {T : ByteArray} (w : World) (h : StrsAt w A l) (hl : l.length < 1152921504606846976) (hs : (joinL l).size < 1152921504606846976) (hT : joinL l = T) :
    Calls Try.prog 19 #[.slice A l.length cap] w fun e w' => e = .returned (.string T) ∧ w' = w := by
  have HT := Lib.hid hT
  obtain ⟨n, hn⟩ : ∃ n, l.length = n := ⟨_, rfl⟩
  rw [hn] at hl ⊢
  have HN := Lib.hid hn
  have HS := Lib.hid hs
  clear hT hn hs
  go_enter Try.func19, Try.ntmps19
  go_wp2
  go_loop [3, 4] (fun o i => ∃ k : Nat, k ≤ n ∧ (∃ S : ByteArray, o = .string S ∧ joinL (l.take k) = S) ∧ i = .int .i64 (k : Int)) (fun _ i => n - (intOf i).toNat)
  case atStart => exact ⟨0, by omega, ⟨_, rfl, rfl⟩, by simp⟩
  case round =>
    obtain ⟨k, hk, ⟨S, rfl, hS⟩, rfl⟩ := hrel
    have HV := Lib.hid hS
    clear hS
    by_cases c : k < n
    · have i0 : (0 : Int) ≤ (k : Int) := by omega
      have i1 : (k : Int) < (n : Int) := by omega
      obtain ⟨s, hs⟩ : ∃ s, l[k]? = some s := ⟨l[k]'(by have := HN.out; omega), List.getElem?_eq_getElem _⟩
      cases A with
      | none => exact absurd (h.none_ rfl) (by intro e; rw [e] at hs; simp at hs)
      | some a =>
        have hc := h.cell a rfl k s hs
        have st := joinL_snoc (l.take k) s
        rw [← ltake_snoc l k s hs, HV.out] at st
        have hz : S.size + s.size < 1152921504606846976 := by
          have e1 := joinL_take l (k + 1)
          rw [st, ByteArray.size_append] at e1
          have := HS.out; omega
        have ST := Lib.hid st
        clear st hs
        go_wp2
        go_round
        case rel => exact ⟨k + 1, by omega, ⟨S ++ s, rfl, ST.out⟩, by go_num⟩
        case measure => simp [intOf]; omega
    · have e := HV.out
      rw [List.take_of_length_le (by have := HN.out; omega), HT.out] at e
      subst e
      have i1 : ¬ (k : Int) < (n : Int) := by omega
      go_wp2
      go_ret
      exact ⟨rfl, rfl⟩

theorem rof3_n (s : ByteArray) {r : Nat} (hs : s.size < 1152921504606846976) (hr : 65535 - sumS s.data.toList = r) (w : World) :
    Calls Try.prog 21 #[.string s] w fun e w' => e = .returned (.int .u16 (r : Int)) ∧ w' = w := by
  have h := rof3_c s hs rfl w
  have l := sumS_lt s.data.toList
  rw [show (65535 : Int) - ((sumS s.data.toList : Nat) : Int) = (r : Int) by omega] at h
  exact h
theorem rupdate_n (a b c : Nat) (ha : a < 65536) (hb : b < 65536) (hc : c < 65536) {r : Nat} (hr : 65535 - oc (oc (65535 - a) (65535 - b)) c = r) (w : World) :
    Calls Try.prog 23 #[.int .u16 (a : Int), .int .u16 (b : Int), .int .u16 (c : Int)] w fun e w' => e = .returned (.int .u16 (r : Int)) ∧ w' = w := by
  have h := rupdate_c a b c ha hb hc rfl w
  have l : oc (oc (65535 - a) (65535 - b)) c < 65536 := oc_lt (oc_lt (by omega) (by omega)) hc
  rw [show (65535 : Int) - ((oc (oc (65535 - a) (65535 - b)) c : Nat) : Int) = (r : Int) by omega] at h
  exact h

theorem long_n (A : Option Addr) (n cap : Nat) (l : List ByteArray) {r : Bool} (w : World) (h : StrsAt w A l) (hn : l.length = n) (hl : n ≤ 9223372036854775807) (hs : ∀ s ∈ l, s.size ≤ 2 ^ 63 - 1) (hr : decide (40000 ≤ bulk l) = r) :
    Calls Try.prog 18 #[.slice A n cap] w fun e w' => e = .returned (.bool r) ∧ w' = w := by
  subst hn; exact long_c A cap l w h hl hs hr
theorem joined_n (A : Option Addr) (n cap : Nat) (l : List ByteArray) {T : ByteArray} (w : World) (h : StrsAt w A l) (hn : l.length = n) (hl : n < 1152921504606846976) (hs : (joinL l).size < 1152921504606846976) (hT : joinL l = T) :
    Calls Try.prog 19 #[.slice A n cap] w fun e w' => e = .returned (.string T) ∧ w' = w := by
  subst hn; exact joined_c A cap l w h hl hs hT

end Go.Proofs.Ytlgahhehagffeaa
