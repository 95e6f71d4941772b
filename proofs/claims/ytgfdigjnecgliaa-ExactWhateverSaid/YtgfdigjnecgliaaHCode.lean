/- What the calls of package hash do: by walks of its code. -/
import Derived.Test.YtgfdigjnecgliaaHRefD
import Derived.Test.YtgfdigjnecgliaaSOpen
namespace Go.Proofs.Ytgfdigjnecgliaa
set_option linter.unusedVariables false
open Go.RowKit

set_option maxHeartbeats 1000000 in
theorem hmore_s (x : BitVec 32) (s : ByteArray) {a r : Nat} (hs : s.size < 1152921504606846976) (ha : x.toNat = a) (hr : (moreH x s.data.toList).toNat = r) (w : World) :
    Calls Try.prog 46 #[.int .u32 (a : Int), .string s] w fun e w' => e = .returned (.int .u32 (r : Int)) ∧ w' = w := by
  have HR := Lib.hid hr
  have HA := Lib.hid ha
  clear hr ha
  go_enter Try.func46, Try.ntmps46
  go_wp2
  go_loop [0, 8] (fun h i => ∃ k : Nat, k ≤ s.size ∧ i = .int .i64 (k : Int) ∧ ∃ V : Nat, h = .int .u32 (V : Int) ∧ (moreH x (s.data.toList.take k)).toNat = V) (fun _ i => s.size - (intOf i).toNat)
  case atStart => exact ⟨0, by omega, by simp, a, rfl, HA.out⟩
  case round =>
    obtain ⟨k, hk, rfl, V, rfl, hV⟩ := hrel
    have HV := Lib.hid hV
    clear hV
    by_cases d : k < s.size
    · have i0 : (0 : Int) ≤ (k : Int) := by omega
      have i1 : (k : Int) < (s.size : Int) := by omega
      obtain ⟨b, hb⟩ : ∃ b, (moreH x (s.data.toList.take k) ^^^ BitVec.ofNat 32 s[k].toNat).toNat = b := ⟨_, rfl⟩
      obtain ⟨g1, g2⟩ := step_b _ _ hb
      rw [HV.out] at g1
      obtain ⟨R, hR⟩ : ∃ R, (stepH (moreH x (s.data.toList.take k)) s[k]).toNat = R := ⟨_, rfl⟩
      rw [hR] at g2
      have hn : (moreH x (s.data.toList.take (k + 1))).toNat = R := by rw [hbtake s k d, moreH_snoc, hR]
      have g3 : (b : Int) * 16777619 % 4294967296 = (R : Int) := by rw [← IntKind.wrap_u32]; exact g2
      have lV : V < 4294967296 := by rw [← HV.out]; exact lt32 _
      have lb : b < 4294967296 := by rw [← hb]; exact lt32 _
      have lc : s[k].toNat < 256 := UInt8.toNat_lt _
      have HN := Lib.hid hn
      clear hn hb hR
      go_wp2
      go_round
      case rel => exact ⟨k + 1, by omega, by go_num, R, rfl, HN.out⟩
      case measure => simp [intOf]; omega
    · have e := HV.out
      rw [List.take_of_length_le (by simp; omega), HR.out] at e
      obtain rfl : r = V := e
      have i1 : ¬ (k : Int) < (s.size : Int) := by omega
      go_wp2
      go_ret
      exact ⟨rfl, rfl⟩

theorem hjoin_mem (l : List ByteArray) (s : ByteArray) (h : s ∈ l) : s.size ≤ (joinL l).size := by
  rw [joinL_size]
  induction l with
  | nil => cases h
  | cons t l ih =>
    simp only [List.map_cons, List.sum_cons]
    rcases List.mem_cons.1 h with rfl | h
    · omega
    · have := ih h; omega
set_option maxHeartbeats 1000000 in
theorem hof_s (A : Option Addr) (n cap : Nat) (l : List ByteArray) {r : Nat} (w : World) (h : StrsAt w A l) (hn : l.length = n) (hl : n < 1000000) (hs : (joinL l).size < 1000000) (hr : (textsH l).toNat = r) :
    Calls Try.prog 34 #[.slice A n cap] w fun e w' => e = .returned (.int .u32 (r : Int)) ∧ w' = w := by
  have HR := Lib.hid hr
  have HS : Hid (∀ s ∈ l, s.size < 1000000) := fun s h => by
    have e := hjoin_mem l s h
    omega
  have HN := Lib.hid hn
  clear hr hs hn
  go_enter Try.func34, Try.ntmps34
  go_wp2
  go_loop [3, 8] (fun o i => ∃ k : Nat, k ≤ n ∧ (∃ V : Nat, o = .int .u32 (V : Int) ∧ (textsH (l.take k)).toNat = V) ∧ i = .int .i64 (k : Int)) (fun _ i => n - (intOf i).toNat)
  case atStart => exact ⟨0, by omega, ⟨2166136261, by simp, by rw [List.take_zero, textsH_nil]; rfl⟩, by simp⟩
  case round =>
    obtain ⟨k, hk, ⟨V, rfl, hV⟩, rfl⟩ := hrel
    have HV := Lib.hid hV
    clear hV
    by_cases c : k < n
    · have i0 : (0 : Int) ≤ (k : Int) := by omega
      have i1 : (k : Int) < (n : Int) := by omega
      obtain ⟨s, hs⟩ : ∃ s, l[k]? = some s := ⟨l[k]'(by have := HN.out; omega), List.getElem?_eq_getElem _⟩
      have hsz := HS.out s (List.mem_of_getElem? hs)
      cases A with
      | none => exact absurd (h.none_ rfl) (by intro e; rw [e] at hs; simp at hs)
      | some a =>
        have hc := h.cell a rfl k s hs
        have st := textsH_snoc (l.take k) s
        rw [← hltake_snoc l k s hs] at st
        obtain ⟨R, hR⟩ : ∃ R, (moreH (textsH (l.take k)) s.data.toList).toNat = R := ⟨_, rfl⟩
        have za := hmore_s (textsH (l.take k)) s (by omega) HV.out hR
        rw [← st] at hR
        have HN2 := Lib.hid hR
        clear st hs hR
        go_wp2_with (go_at_call 46; ((with_reducible refine (za _).mono ?_); rintro e w2 ⟨rfl, rfl⟩))
        go_round
        case rel => exact ⟨k + 1, by omega, ⟨R, rfl, HN2.out⟩, by go_num⟩
        case measure => simp [intOf]; omega
    · have e := HV.out
      rw [List.take_of_length_le (by have := HN.out; omega), HR.out] at e
      subst e
      have i1 : ¬ (k : Int) < (n : Int) := by omega
      go_wp2
      go_ret
      exact ⟨rfl, rfl⟩

theorem hmix_s (x : BitVec 32) {a r : Nat} (ha : x.toNat = a) (hr : (mixH x).toNat = r) (w : World) :
    Calls Try.prog 33 #[.int .u32 (a : Int)] w fun e w' => e = .returned (.int .u32 (r : Int)) ∧ w' = w := by
  have la : a < 4294967296 := by rw [← ha]; exact lt32 x
  obtain ⟨b, hb⟩ : ∃ b, (fold16 x).toNat = b := ⟨_, rfl⟩
  obtain ⟨c, hc⟩ : ∃ c, (fold16 x * 0x85EBCA6B#32).toNat = c := ⟨_, rfl⟩
  obtain ⟨d, hd⟩ : ∃ d, (fold13 (fold16 x * 0x85EBCA6B#32)).toNat = d := ⟨_, rfl⟩
  obtain ⟨e, he⟩ : ∃ e, (fold13 (fold16 x * 0x85EBCA6B#32) * 0xC2B2AE35#32).toNat = e := ⟨_, rfl⟩
  have f1 : bits .xor .u32 (a : Int) ((a : Int) / 65536) = (b : Int) := fold_b x 16 ha hb
  have m1 := mul_b (fold16 x) 0x85EBCA6B#32
  rw [hb, hc] at m1
  have f2 : bits .xor .u32 (c : Int) ((c : Int) / 8192) = (d : Int) := fold_b _ 13 hc hd
  have m2 := mul_b (fold13 (fold16 x * 0x85EBCA6B#32)) 0xC2B2AE35#32
  rw [hd, he] at m2
  have f3 : bits .xor .u32 (e : Int) ((e : Int) / 65536) = (r : Int) := fold_b _ 16 he hr
  have n1 : IntKind.u32.wrap ((b : Int) * 2246822507) = (c : Int) := m1
  have n2 : IntKind.u32.wrap ((d : Int) * 3266489909) = (e : Int) := m2
  have n3 : (b : Int) * 2246822507 % 4294967296 = (c : Int) := by rw [← IntKind.wrap_u32]; exact n1
  have n4 : (d : Int) * 3266489909 % 4294967296 = (e : Int) := by rw [← IntKind.wrap_u32]; exact n2
  have lb : b < 4294967296 := by rw [← hb]; exact lt32 _
  have lc : c < 4294967296 := by rw [← hc]; exact lt32 _
  have ld : d < 4294967296 := by rw [← hd]; exact lt32 _
  have le : e < 4294967296 := by rw [← he]; exact lt32 _
  clear ha hr hb hc hd he m1 m2
  go_enter Try.func33, Try.ntmps33
  go_wp2
  go_ret
  exact ⟨rfl, rfl⟩

/-- The way back of 13 bits in the other row. -/
theorem back13_a (x : BitVec 32) {c d : Nat} (hc : x.toNat = c) (hd : (back13 x).toNat = d) :
    ∃ m : Nat, m < 4294967296 ∧ bits .xor .u32 ((c : Int) / 8192) ((c : Int) / 67108864) = (m : Int) ∧ bits .xor .u32 (c : Int) (m : Int) = (d : Int) := by
  refine ⟨((x >>> 13) ^^^ (x >>> 26)).toNat, lt32 _, ?_, ?_⟩
  · have e1 : ((x >>> 13).toNat : Int) = (c : Int) / 8192 := by rw [shr_b, hc]; rfl
    have e2 : ((x >>> 26).toNat : Int) = (c : Int) / 67108864 := by rw [shr_b, hc]; rfl
    rw [← e1, ← e2, xor_b]
  · rw [← hc, xor_b, ← hd]
    unfold back13
    rw [BitVec.xor_assoc]

theorem hslot_s (h : Nat) (n : Int) {r : Nat} (hh : h < 4294967296) (n0 : -9223372036854775808 ≤ n) (n1 : n ≤ 9223372036854775807) (hr : (if n < 1 then 0 else slotN h n.toNat) = r) (w : World) :
    Calls Try.prog 32 #[.int .u32 (h : Int), .int .i64 n] w fun e w' => e = .returned (.int .i64 (r : Int)) ∧ w' = w := by
  have z1 : IntKind.u64.wrap 0 = 0 := by decide
  have z2 : wrap64 0 = 0 := by unfold wrap64; omega
  by_cases c : n < 1
  · rw [if_pos c] at hr
    subst hr
    have c1 : n ≤ 2147483647 := by omega
    by_cases c2 : n = 0
    · subst c2
      go_enter Try.func32, Try.ntmps32
      go_wp2
      all_goals first
        | omega
        | (go_ret; exact ⟨by simp, rfl⟩)
    · have c3 : ¬ (0 : Int) ≤ n := by omega
      have c4 : n < 0 := by omega
      go_enter Try.func32, Try.ntmps32
      go_wp2
      all_goals first
        | omega
        | (go_ret; exact ⟨by simp, rfl⟩)
  · rw [if_neg c] at hr
    obtain ⟨q, hq⟩ : ∃ q : Nat, h * min n.toNat 2147483647 = q := ⟨_, rfl⟩
    have lp : q < 18446744073709551616 := by
      have := Nat.mul_le_mul (Nat.le_of_lt hh) (show min n.toNat 2147483647 ≤ 2147483647 by omega); omega
    have hr2 : (q : Int) / 4294967296 = (r : Int) := by rw [← hr]; unfold slotN; rw [hq]; rfl
    have HR := Lib.hid hr2
    have u1 : IntKind.u64.wrap (q : Int) = (q : Int) := by simp [IntKind.wrap, IntKind.bits, IntKind.signed]; omega
    have u2 : wrap64 ((q : Int) / 4294967296) = (q : Int) / 4294967296 := by unfold wrap64; omega
    by_cases d : n ≤ 2147483647
    · have e : min n.toNat 2147483647 = n.toNat := by omega
      rw [e] at hq
      have hq1 : (h : Int) * n = (q : Int) := by rw [← hq, Int.natCast_mul]; congr 1; omega
      have c1 : 0 ≤ n := by omega
      clear hr hq hr2 e c
      go_enter Try.func32, Try.ntmps32
      go_wp2
      all_goals first
        | omega
        | (go_ret; exact ⟨by simp; exact HR.out, rfl⟩)
    · have e : min n.toNat 2147483647 = 2147483647 := by omega
      rw [e] at hq
      have hq1 : (h : Int) * 2147483647 = (q : Int) := by omega
      have c1 : 2147483647 < n := by omega
      have c2 : 0 ≤ n := by omega
      clear hr hq hr2 e c d
      go_enter Try.func32, Try.ntmps32
      go_wp2
      all_goals first
        | omega
        | (go_ret; exact ⟨by simp; exact HR.out, rfl⟩)

theorem hof_c (A : Option Addr) (n cap : Nat) (l : List ByteArray) {r : Nat} (w : World) (h : StrsAt w A l) (hn : l.length = n) (hl : n < 1000000) (hs : (joinL l).size < 1000000) (hr : (textsH l).toNat = r) :
    Calls Try.prog 34 #[.slice A n cap] w fun e w' => e = .returned (.int .u32 (r : Int)) ∧ Wider w w' :=
  (hof_s A n cap l w h hn hl hs hr).mono fun _ _ h => ⟨h.1, h.2 ▸ Wider.refl w⟩
theorem hmore_c (x : BitVec 32) (s : ByteArray) {a r : Nat} (hs : s.size < 1000000) (ha : x.toNat = a) (hr : (moreH x s.data.toList).toNat = r) (w : World) :
    Calls Try.prog 46 #[.int .u32 (a : Int), .string s] w fun e w' => e = .returned (.int .u32 (r : Int)) ∧ Wider w w' :=
  (hmore_s x s (by omega) ha hr w).mono fun _ _ h => ⟨h.1, h.2 ▸ Wider.refl w⟩
theorem hmix_c (x : BitVec 32) {a r : Nat} (ha : x.toNat = a) (hr : (mixH x).toNat = r) (w : World) :
    Calls Try.prog 33 #[.int .u32 (a : Int)] w fun e w' => e = .returned (.int .u32 (r : Int)) ∧ Wider w w' :=
  (hmix_s x ha hr w).mono fun _ _ h => ⟨h.1, h.2 ▸ Wider.refl w⟩
theorem hslot_c (h : Nat) (n : Int) {r : Nat} (hh : h < 4294967296) (n0 : -9223372036854775808 ≤ n) (n1 : n ≤ 9223372036854775807) (hr : (if n < 1 then 0 else slotN h n.toNat) = r) (w : World) :
    Calls Try.prog 32 #[.int .u32 (h : Int), .int .i64 n] w fun e w' => e = .returned (.int .i64 (r : Int)) ∧ Wider w w' :=
  (hslot_s h n hh n0 n1 hr w).mono fun _ _ h => ⟨h.1, h.2 ▸ Wider.refl w⟩

end Go.Proofs.Ytgfdigjnecgliaa
