/- The law TlvBehind: bytes of attributes, with those of further ones behind, whose types go on rising, are those of all of them; of lists: always. No condition. -/
import Derived.Test.YtemfionibnlniaaTUse
import Derived.Test.YtemfionibnlniaaTArgs
import Derived.Test.YtemfionibnlniaaRowU
import Derived.WalkKit
import Derived.Lib.Hide
import Derived.Deep.DeepCutAuto
import Derived.WalkLawsBesides
import Derived.WalkSpells
import Derived.BigQuiet
import Derived.BigRegion
import Derived.Deep.RegionHeld3
namespace Go.Proofs.Ytemfionibnlniaa
set_option linter.unusedVariables false
open Go.ChangeShapes Go.WideShapes Go.ChangeAt Go.RowKit Go.Joins
open Go.ChangeMaps (open_string shut_string)


theorem cellsA_append (l m : List AtN) : cellsA (l ++ m) = cellsA l ++ cellsA m := by simp [cellsA]
theorem cellsS_append (l m : List ByteArray) : cellsS (l ++ m) = cellsS l ++ cellsS m := by simp [cellsS]
theorem okA_rise {l2 : List AtN} (h : okA 0 l2 = 0) (y : AtN) (ys : List AtN) (e : l2 = y :: ys) (p : Nat) : okA p l2 = if p < y.t then 0 else 3 := by
  subst e
  simp only [okA] at h ⊢
  split at h
  · omega
  · split at h
    · omega
    · rename_i c d
      by_cases q : p < y.t
      · rw [if_pos q, if_neg (by omega), if_neg d]; exact h
      · rw [if_neg q, if_pos (by omega)]
theorem encA_append {l l2 : List AtN} (h : okA 0 l = 0) (h2 : okA 0 l2 = 0) (h3 : okA 0 (l ++ l2) = 0) : encA (l ++ l2) = encA l ++ encA l2 := by
  rw [encA_good h, encA_good h2, encA_good h3, bytsA_append, mkB_append]
theorem encT_append {l l2 : List ByteArray} (h : okT l = 0) (h2 : okT l2 = 0) (h3 : okT (l ++ l2) = 0) : encT (l ++ l2) = encT l ++ encT l2 := by
  rw [encT_good h, encT_good h2, encT_good h3, bytsT_append, mkB_append]
theorem encA_size (l : List AtN) : (encA l).size ≤ (bytsA l).length := by
  unfold encA; split
  · rw [mkB_size]; exact Nat.le_refl _
  · exact Nat.zero_le _
theorem encT_size (l : List ByteArray) : (encT l).size ≤ (bytsT l).length := by
  unfold encT; split
  · rw [mkB_size]; exact Nat.le_refl _
  · exact Nat.zero_le _
/-- What an append of a slice that came in asks. -/
theorem lay_ats {w : World} {A : Option Addr} {l : List AtN} (ha : AtsAt w A l) : ∀ W : World, Wider w W → ∀ a, A = some a → ∀ j u, (cellsA l)[j]? = some u → W.cell? (a.add j) = some u := by
  intro W g a e j u hu
  have hj : j < (cellsA l).length := (List.getElem?_eq_some_iff.1 hu).1
  rw [cellsA_length] at hj
  obtain ⟨x, hx⟩ := next_some l (j / 2) (by omega)
  obtain ⟨q0, q1⟩ := cellsA_at l (j / 2) x hx
  have hA := (ha.on g).cell a e (j / 2) x hx
  rcases Nat.mod_two_eq_zero_or_one j with m | m
  · have e2 : j / 2 * 2 = j := by omega
    rw [e2] at q0
    obtain ⟨c0, _⟩ := hA
    rw [e2] at c0
    rw [q0] at hu
    injection hu with hu
    rw [← hu]; exact c0
  · have e2 : j / 2 * 2 + 1 = j := by omega
    rw [e2] at q1
    obtain ⟨_, c1⟩ := hA
    rw [addr_add2, e2] at c1
    rw [q1] at hu
    injection hu with hu
    rw [← hu]; exact c1
theorem lay_strs {w : World} {A : Option Addr} {l : List ByteArray} (ha : StrsAt w A l) : ∀ W : World, Wider w W → ∀ a, A = some a → ∀ j u, (cellsS l)[j]? = some u → W.cell? (a.add j) = some u := fun W g a e j u hu => by
  obtain ⟨x, hx, rfl⟩ : ∃ x, l[j]? = some x ∧ Value.string x = u := by simpa [cellsS] using hu
  exact (ha.on g).cell a e j x hx

set_option maxRecDepth 100000 in
set_option maxHeartbeats 64000000 in
theorem tlvBehind_walk (w : World) (A : Option Addr) (n cap : Nat) (l : List AtN) (hn : l.length = n) (ha : AtsAt w A l) (hm : l.length ≤ maxLen) (hz : ∀ y ∈ l, y.t < 256 ∧ y.v.size ≤ maxLen) (A2 : Option Addr) (n2 cap2 : Nat) (l2 : List AtN) (hn2 : l2.length = n2) (ha2 : AtsAt w A2 l2) (hm2 : l2.length ≤ maxLen) (hy2 : ∀ y ∈ l2, y.t < 256 ∧ y.v.size ≤ maxLen)
    (A3 : Option Addr) (n3 cap3 : Nat) (l3 : List ByteArray) (hn3 : l3.length = n3) (ha3 : StrsAt w A3 l3) (hm3 : l3.length ≤ maxLen) (hy3 : ∀ y ∈ l3, y.size ≤ maxLen) (A4 : Option Addr) (n4 cap4 : Nat) (l4 : List ByteArray) (hn4 : l4.length = n4) (ha4 : StrsAt w A4 l4) (hm4 : l4.length ≤ maxLen) (hy4 : ∀ y ∈ l4, y.size ≤ maxLen) :
    Calls Try.prog 10 #[.slice A n cap, .slice A2 n2 cap2, .slice A3 n3 cap3, .slice A4 n4 cap4] w fun e w' => e = .returned (.bool true) ∧ Wider w w' := by
  unfold maxLen at hm hz hm2 hy2 hm3 hy3 hm4 hy4
  have H : Own w w [] := Own.nil (Wider.refl w)
  have hz1 : ∀ x ∈ l, x.v.size ≤ 9223372036854775807 := fun x hx => by have := (hz x hx).2; omega
  have hz2 : ∀ x ∈ l2, x.v.size ≤ 9223372036854775807 := fun x hx => by have := (hy2 x hx).2; omega
  have hz3 : ∀ x ∈ l3, x.size ≤ 9223372036854775807 := fun x hx => by have := hy3 x hx; omega
  have hz4 : ∀ x ∈ l4, x.size ≤ 9223372036854775807 := fun x hx => by have := hy4 x hx; omega
  obtain ⟨b1, hb1⟩ : ∃ b : Bool, (decide (100000 ≤ bulkA l) || decide (300 < l.length)) = b := ⟨_, rfl⟩
  obtain ⟨b2, hb2⟩ : ∃ b : Bool, (decide (100000 ≤ bulkA l2) || decide (300 < l2.length)) = b := ⟨_, rfl⟩
  obtain ⟨b3, hb3⟩ : ∃ b : Bool, decide (100000 ≤ bulkS l3) = b := ⟨_, rfl⟩
  obtain ⟨b4, hb4⟩ : ∃ b : Bool, decide (100000 ≤ bulkS l4) = b := ⟨_, rfl⟩
  by_cases all : b1 = false ∧ b2 = false ∧ b3 = false ∧ b4 = false
  case neg =>
    rcases (show b1 = true ∨ (b1 = false ∧ b2 = true) ∨ (b1 = false ∧ b2 = false ∧ b3 = true) ∨ (b1 = false ∧ b2 = false ∧ b3 = false ∧ b4 = true) by revert all; cases b1 <;> cases b2 <;> cases b3 <;> cases b4 <;> simp) with rfl | ⟨rfl, rfl⟩ | ⟨rfl, rfl, rfl⟩ | ⟨rfl, rfl, rfl, rfl⟩
    all_goals
      as_aux_lemma =>
      clear all
      go_enter Try.func10, Try.ntmps10
      go_wp2_with (first
        | (go_at_call 13; ((with_reducible refine (awake6_c _).mono ?_); rintro e wa ⟨rfl, g⟩; replace H := H.quiet g; clear g))
        | (go_at_call 12; ((with_reducible refine (long_c A n cap l _ (ha.on H.wider) hn (by omega) hz1 hb1).mono ?_); rintro e w9 ⟨rfl, rfl⟩))
        | (go_at_call 12; ((with_reducible refine (long_c A2 n2 cap2 l2 _ (ha2.on H.wider) hn2 (by omega) hz2 hb2).mono ?_); rintro e w9 ⟨rfl, rfl⟩))
        | (go_at_call 25; ((with_reducible refine (large_c A3 n3 cap3 l3 _ (ha3.on H.wider) hn3 (by omega) hz3 hb3).mono ?_); rintro e w9 ⟨rfl, rfl⟩))
        | (go_at_call 25; ((with_reducible refine (large_c A4 n4 cap4 l4 _ (ha4.on H.wider) hn4 (by omega) hz4 hb4).mono ?_); rintro e w9 ⟨rfl, rfl⟩)))
      go_ret
      exact ⟨rfl, H.wider⟩
  case pos =>
    obtain ⟨rfl, rfl, rfl, rfl⟩ := all
    have p1 := hb1
    have p2 := hb2
    rw [Bool.or_eq_false_iff, decide_eq_false_iff_not, decide_eq_false_iff_not] at p1 p2
    have p3 := of_decide_eq_false hb3
    have p4 := of_decide_eq_false hb4
    have hl : n < 1000000 := by omega
    have hl2 : n2 < 1000000 := by omega
    have hl3 : n3 < 1000000 := by have := bulkS_len l3; omega
    have hl4 : n4 < 1000000 := by have := bulkS_len l4; omega
    have s1 := bulkA_bytes l (by omega)
    have s2 := bulkA_bytes l2 (by omega)
    have s3 := bulkS_bytes l3 (by omega)
    have s4 := bulkS_bytes l4 (by omega)
    have hbl : (bytsA l).length < 1000000 := by omega
    have hbl2 : (bytsA l2).length < 1000000 := by omega
    have hbl3 : (bytsT l3).length < 1000000 := by omega
    have hbl4 : (bytsT l4).length < 1000000 := by omega
    have ht : ∀ x ∈ l, x.t < 256 := fun x hx => (hz x hx).1
    have ht2 : ∀ x ∈ l2, x.t < 256 := fun x hx => (hy2 x hx).1
    have hv : ∀ x ∈ l, x.v.size < 1000000 := fun x hx => by have := bulkA_each l (by omega) x hx; omega
    have hv2 : ∀ x ∈ l2, x.v.size < 1000000 := fun x hx => by have := bulkA_each l2 (by omega) x hx; omega
    obtain ⟨N, hN'⟩ : ∃ N, n + n2 = N := ⟨_, rfl⟩
    obtain ⟨M, hM'⟩ : ∃ M, n3 + n4 = M := ⟨_, rfl⟩
    have hN : (l ++ l2).length = N := by rw [List.length_append, hn, hn2, hN']
    have hM : (l3 ++ l4).length = M := by rw [List.length_append, hn3, hn4, hM']
    have hlN : N < 1000000 := by omega
    have hlM : M < 1000000 := by have := bulkS_len l3; have := bulkS_len l4; omega
    have htN : ∀ x ∈ l ++ l2, x.t < 256 := fun x hx => by rcases List.mem_append.1 hx with h | h; exact ht x h; exact ht2 x h
    have hvN : ∀ x ∈ l ++ l2, x.v.size < 1000000 := fun x hx => by rcases List.mem_append.1 hx with h | h; exact hv x h; exact hv2 x h
    have hbN : (bytsA (l ++ l2)).length < 1000000 := by rw [bytsA_append, List.length_append]; omega
    have hbM : (bytsT (l3 ++ l4)).length < 1000000 := by rw [bytsT_append, List.length_append]; omega
    obtain ⟨ia, hia, ha0, ha1, ha2'⟩ := info_parts infoRef
    obtain ⟨is, his, hs0, hs1, hs2⟩ := info_parts infoStr
    have hP1 : Hid ((cellsA l).length = n * 2) := by show _ = _; rw [cellsA_length, hn]
    have hP0 : Hid (A = none → n = 0) := fun e => by rw [← hn, ha.none_ e]; rfl
    have hP2 := Lib.hid (lay_ats ha)
    have hP3 : Hid (0 + n ≤ maxLen) := by show _ ≤ _; unfold maxLen; omega
    have hP4 : Hid ((0 + n) * 24 ≤ 140737488355328) := by show _ ≤ _; omega
    have hP5 : Hid (0 + n = n) := Nat.zero_add n
    have hQ1 : Hid ((cellsA l2).length = n2 * 2) := by show _ = _; rw [cellsA_length, hn2]
    have hQ0 : Hid (A2 = none → n2 = 0) := fun e => by rw [← hn2, ha2.none_ e]; rfl
    have hQ2 := Lib.hid (lay_ats ha2)
    have hQ3 : Hid (n + n2 ≤ maxLen) := by show _ ≤ _; unfold maxLen; omega
    have hQ4 : Hid ((n + n2) * 24 ≤ 140737488355328) := by show _ ≤ _; omega
    have hQ5 : Hid (n + n2 = N) := hN'
    have hQ6 : Hid (cellsA l ++ cellsA l2 = cellsA (l ++ l2)) := (cellsA_append l l2).symm
    have hR1 : Hid ((cellsS l3).length = n3 * 1) := by show _ = _; rw [cellsS_length, hn3]; omega
    have hR0 : Hid (A3 = none → n3 = 0) := fun e => by rw [← hn3, ha3.none_ e]; rfl
    have hR2 := Lib.hid (lay_strs ha3)
    have hR3 : Hid (0 + n3 ≤ maxLen) := by show _ ≤ _; unfold maxLen; omega
    have hR4 : Hid ((0 + n3) * 16 ≤ 140737488355328) := by show _ ≤ _; omega
    have hR5 : Hid (0 + n3 = n3) := Nat.zero_add n3
    have hS1 : Hid ((cellsS l4).length = n4 * 1) := by show _ = _; rw [cellsS_length, hn4]; omega
    have hS0 : Hid (A4 = none → n4 = 0) := fun e => by rw [← hn4, ha4.none_ e]; rfl
    have hS2 := Lib.hid (lay_strs ha4)
    have hS3 : Hid (n3 + n4 ≤ maxLen) := by show _ ≤ _; unfold maxLen; omega
    have hS4 : Hid ((n3 + n4) * 16 ≤ 140737488355328) := by show _ ≤ _; omega
    have hS5 : Hid (n3 + n4 = M) := hM'
    have hS6 : Hid (cellsS l3 ++ cellsS l4 = cellsS (l3 ++ l4)) := (cellsS_append l3 l4).symm
    have hr12 := okA_append l 0 l2
    have hq12 := okT_append l3 l4
    have eA := fun h h2 h3 => @encA_append l l2 h h2 h3
    have eT := fun h h2 h3 => @encT_append l3 l4 h h2 h3
    have z1 := encA_size l
    have z2 := encA_size l2
    have z3 := encT_size l3
    have z4 := encT_size l4
    obtain ⟨T1, hT1⟩ : ∃ T, encA l = T := ⟨_, rfl⟩
    obtain ⟨T2, hT2⟩ : ∃ T, encA l2 = T := ⟨_, rfl⟩
    obtain ⟨T3, hT3⟩ : ∃ T, encA (l ++ l2) = T := ⟨_, rfl⟩
    obtain ⟨U1, hU1⟩ : ∃ T, encT l3 = T := ⟨_, rfl⟩
    obtain ⟨U2, hU2⟩ : ∃ T, encT l4 = T := ⟨_, rfl⟩
    obtain ⟨U3, hU3⟩ : ∃ T, encT (l3 ++ l4) = T := ⟨_, rfl⟩
    obtain ⟨r1, hr1⟩ : ∃ r, okA 0 l = r := ⟨_, rfl⟩
    obtain ⟨r2, hr2⟩ : ∃ r, okA 0 l2 = r := ⟨_, rfl⟩
    obtain ⟨r3, hr3⟩ : ∃ r, okA 0 (l ++ l2) = r := ⟨_, rfl⟩
    obtain ⟨q1, hq1⟩ : ∃ r, okT l3 = r := ⟨_, rfl⟩
    obtain ⟨q2, hq2⟩ : ∃ r, okT l4 = r := ⟨_, rfl⟩
    obtain ⟨q3, hq3⟩ : ∃ r, okT (l3 ++ l4) = r := ⟨_, rfl⟩
    rw [hr3, hr1] at hr12
    rw [hq3, hq1, hq2] at hq12
    rw [hT1] at z1; rw [hT2] at z2; rw [hU1] at z3; rw [hU2] at z4
    have kT : ∀ W : World, (Op.stringOp .add T1 T2).run Try.prog W = .ok (.string (T1 ++ T2)) W := fun W => run_string_add_sum W _ _ (by omega)
    have kU : ∀ W : World, (Op.stringOp .add U1 U2).run Try.prog W = .ok (.string (U1 ++ U2)) W := fun W => run_string_add_sum W _ _ (by omega)
    have QQ : Hid ((q1 = 0 ∧ q2 = 0 ∧ q3 = 0 ∧ U3 = U1 ++ U2) ∨ (q1 = 0 ∧ ((q2 : Int) == 0) = false ∧ ((q3 : Int) == 0) = false ∧ ((q3 : Int) != 0) = true) ∨ (((q1 : Int) == 0) = false ∧ ((q3 : Int) == 0) = false ∧ ((q3 : Int) != 0) = true)) := by
      by_cases h1 : q1 = 0
      · rw [if_pos h1] at hq12
        by_cases h2 : q2 = 0
        · exact .inl ⟨h1, h2, by omega, by rw [← hU3, ← hU1, ← hU2]; exact eT (by omega) (by omega) (by omega)⟩
        · exact .inr (.inl ⟨h1, by rw [beq_eq_false_iff_ne]; omega, by rw [beq_eq_false_iff_ne]; omega, by rw [bne_iff_ne]; omega⟩)
      · rw [if_neg h1] at hq12
        exact .inr (.inr ⟨by rw [beq_eq_false_iff_ne]; omega, by rw [beq_eq_false_iff_ne]; omega, by rw [bne_iff_ne]; omega⟩)
    have AA : Hid ((((r1 : Int) == 0) = false) ∨ (r1 = 0 ∧ ((r2 : Int) == 0) = false) ∨ (r1 = 0 ∧ r2 = 0 ∧ r3 = 0 ∧ T3 = T1 ++ T2 ∧ n = 0) ∨ (r1 = 0 ∧ r2 = 0 ∧ r3 = 0 ∧ T3 = T1 ++ T2 ∧ n2 = 0 ∧ ((n : Int) == 0) = false) ∨
        (r1 = 0 ∧ r2 = 0 ∧ ((n : Int) == 0) = false ∧ ((n2 : Int) == 0) = false ∧ 0 < n ∧ 0 < n2 ∧ ∃ x y : AtN, l[n - 1]? = some x ∧ l2[0]? = some y ∧ ((r3 = 0 ∧ T3 = T1 ++ T2 ∧ x.t < y.t) ∨ (r3 = 3 ∧ ¬ x.t < y.t)))) := by
      by_cases h1 : r1 = 0
      · rw [if_pos h1] at hr12
        have hr1' := hr1
        rw [h1] at hr1'
        by_cases h2 : r2 = 0
        · have hr2' := hr2
          rw [h2] at hr2'
          by_cases e1 : n = 0
          · obtain rfl : l = [] := List.eq_nil_of_length_eq_zero (by omega)
            have e3 : r3 = 0 := by rw [hr12, lastA_nil, hr2']
            exact .inr (.inr (.inl ⟨h1, h2, e3, by rw [← hT3, ← hT1, ← hT2]; exact eA hr1' hr2' (by omega), e1⟩))
          · have f1 : ((n : Int) == 0) = false := by rw [beq_eq_false_iff_ne]; omega
            by_cases e2 : n2 = 0
            · obtain rfl : l2 = [] := List.eq_nil_of_length_eq_zero (by omega)
              have e3 : r3 = 0 := by rw [hr12]; rfl
              exact .inr (.inr (.inr (.inl ⟨h1, h2, e3, by rw [← hT3, ← hT1, ← hT2]; exact eA hr1' hr2' (by omega), e2, f1⟩)))
            · have f2 : ((n2 : Int) == 0) = false := by rw [beq_eq_false_iff_ne]; omega
              obtain ⟨x, hx⟩ := next_some l (n - 1) (by omega)
              obtain ⟨y, hy⟩ := next_some l2 0 (by omega)
              have hp : lastA 0 l = x.t := by
                have e := lastA_prev l (n - 1) x hx
                rw [List.take_of_length_le (by omega)] at e; exact e
              obtain ⟨ys, hys⟩ : ∃ ys, l2 = y :: ys := by
                cases l2 with
                | nil => simp at hy
                | cons z zs => simp at hy; subst hy; exact ⟨zs, rfl⟩
              rw [hp, okA_rise hr2' y ys hys] at hr12
              refine .inr (.inr (.inr (.inr ⟨h1, h2, f1, f2, by omega, by omega, x, y, hx, hy, ?_⟩)))
              by_cases c : x.t < y.t
              · rw [if_pos c] at hr12
                exact .inl ⟨hr12, by rw [← hT3, ← hT1, ← hT2]; exact eA hr1' hr2' (by omega), c⟩
              · rw [if_neg c] at hr12
                exact .inr ⟨hr12, c⟩
        · exact .inr (.inl ⟨h1, by rw [beq_eq_false_iff_ne]; omega⟩)
      · exact .inl (by rw [beq_eq_false_iff_ne]; omega)
    clear hr12 hq12 eA eT z1 z2 z3 z4 s1 s2 s3 s4 p1 p2 p3 p4 hN' hM'
    rcases QQ.out with ⟨rfl, rfl, rfl, rfl⟩ | ⟨rfl, y2, y3, y4⟩ | ⟨y1, y3, y4⟩ <;> rcases AA.out with x1 | ⟨rfl, x2⟩ | ⟨rfl, rfl, rfl, rfl, e0⟩ | ⟨rfl, rfl, rfl, rfl, e0, x1⟩ | ⟨rfl, rfl, x1, x2, n0, n02, x, y, hx, hy, ⟨rfl, rfl, lt⟩ | ⟨rfl, lt⟩⟩
    · as_aux_lemma =>
      clear QQ AA
      go_enter Try.func10, Try.ntmps10
      go_upto_region 5 with (first
        | (go_at_call 13; ((with_reducible refine (awake6_c _).mono ?_); rintro e wa ⟨rfl, g⟩; replace H := H.quiet g; clear g))
        | (go_at_call 12; ((with_reducible refine (long_c A n cap l _ (ha.on H.wider) hn (by omega) hz1 hb1).mono ?_); rintro e w9 ⟨rfl, rfl⟩))
        | (go_at_call 12; ((with_reducible refine (long_c A2 n2 cap2 l2 _ (ha2.on H.wider) hn2 (by omega) hz2 hb2).mono ?_); rintro e w9 ⟨rfl, rfl⟩))
        | (go_at_call 25; ((with_reducible refine (large_c A3 n3 cap3 l3 _ (ha3.on H.wider) hn3 (by omega) hz3 hb3).mono ?_); rintro e w9 ⟨rfl, rfl⟩))
        | (go_at_call 25; ((with_reducible refine (large_c A4 n4 cap4 l4 _ (ha4.on H.wider) hn4 (by omega) hz4 hb4).mono ?_); rintro e w9 ⟨rfl, rfl⟩))
        | (go_at_call 14; ((with_reducible refine (attrs_1 H A n cap l (ha.on H.wider) hn hl).mono ?_); clear H; rintro e w1 ⟨B, c2, rfl, H⟩))
        | (go_at_call 15; ((with_reducible refine (tenc_a B n c2 l _ H.ats hn hl ht hbl hv hT1 hr1).mono ?_); rintro e w1 ⟨rfl, g⟩; replace H := H.quiet g; clear g))
        | (go_at_call 14; ((with_reducible refine (attrs_1 H A2 n2 cap2 l2 (ha2.on H.wider) hn2 hl2).mono ?_); clear H; rintro e w1 ⟨B2, c3, rfl, H⟩))
        | (go_at_call 15; ((with_reducible refine (tenc_a B2 n2 c3 l2 _ H.ats hn2 hl2 ht2 hbl2 hv2 hT2 hr2).mono ?_); rintro e w1 ⟨rfl, g⟩; replace H := H.quiet g; clear g)))
      replace H := H.drop.drop
      go_upto_region 12 with (first
        | (at_builtin; refine wpList_append_lone rfl (.tmp 54) (.tmp 55) 22 rfl 58 ia (.agg #[.int .u8 0, .string ⟨#[]⟩]) 2 24 Try.underlying22 hia ha0 ha1 ha2' rfl (by decide) _ _ _ rfl (H.empty 58 2) A n cap (cellsA l) rfl hP1.out hP0.out (hP2.out _ (H.empty 58 2).wider) (cellsA_one l) hP3.out hP4.out hP5.out (List.nil_append _) ?_; clear H; intro B3 c4 w1 H)
        | (at_builtin; refine wpList_append_lone rfl (.tmp 56) (.tmp 57) 22 rfl 58 ia (.agg #[.int .u8 0, .string ⟨#[]⟩]) 2 24 Try.underlying22 hia ha0 ha1 ha2' rfl (by decide) _ _ _ rfl H A2 n2 cap2 (cellsA l2) rfl hQ1.out hQ0.out (hQ2.out _ H.wider) (cellsA_one l2) hQ3.out hQ4.out hQ5.out hQ6.out ?_; clear H; intro B4 c5 w1 H)
        | (go_at_call 14; ((with_reducible refine (attrs_1 H B4 N c5 (l ++ l2) H.ats hN hlN).mono ?_); clear H; rintro e w1 ⟨B5, c6, rfl, H⟩))
        | (go_at_call 15; ((with_reducible refine (tenc_a B5 N c6 (l ++ l2) _ H.ats hN hlN htN hbN hvN hT3 hr3).mono ?_); rintro e w1 ⟨rfl, g⟩; replace H := H.quiet g; clear g))
        | (go_at_call 26; ((with_reducible refine (tlist_a A3 n3 cap3 l3 _ (ha3.on H.wider) hn3 hl3 hbl3 hU1 hq1).mono ?_); rintro e w1 ⟨rfl, g⟩; replace H := H.quiet g; clear g))
        | (go_at_call 26; ((with_reducible refine (tlist_a A4 n4 cap4 l4 _ (ha4.on H.wider) hn4 hl4 hbl4 hU2 hq2).mono ?_); rintro e w1 ⟨rfl, g⟩; replace H := H.quiet g; clear g)))
      replace H := H.drop.drop
      go_wp2_with (first
        | (at_builtin; refine wpList_append_lone rfl (.tmp 124) (.tmp 125) 45 rfl 9 is (.string ⟨#[]⟩) 1 16 Try.underlying45 his hs0 hs1 hs2 rfl (by decide) _ _ _ rfl (H.empty 9 1) A3 n3 cap3 (cellsS l3) rfl hR1.out hR0.out (hR2.out _ (H.empty 9 1).wider) (cellsS_one l3) hR3.out hR4.out hR5.out (List.nil_append _) ?_; clear H; intro B6 c7 w1 H)
        | (at_builtin; refine wpList_append_lone rfl (.tmp 126) (.tmp 127) 45 rfl 9 is (.string ⟨#[]⟩) 1 16 Try.underlying45 his hs0 hs1 hs2 rfl (by decide) _ _ _ rfl H A4 n4 cap4 (cellsS l4) rfl hS1.out hS0.out (hS2.out _ H.wider) (cellsS_one l4) hS3.out hS4.out hS5.out hS6.out ?_; clear H; intro B7 c8 w1 H)
        | (go_at_call 26; ((with_reducible refine (tlist_a B7 M c8 (l3 ++ l4) _ H.strs hM hlM hbM hU3 hq3).mono ?_); rintro e w1 ⟨rfl, g⟩; replace H := H.quiet g; clear g)))
      go_ret
      exact ⟨rfl, H.wider⟩
    · as_aux_lemma =>
      clear QQ AA
      go_enter Try.func10, Try.ntmps10
      go_upto_region 5 with (first
        | (go_at_call 13; ((with_reducible refine (awake6_c _).mono ?_); rintro e wa ⟨rfl, g⟩; replace H := H.quiet g; clear g))
        | (go_at_call 12; ((with_reducible refine (long_c A n cap l _ (ha.on H.wider) hn (by omega) hz1 hb1).mono ?_); rintro e w9 ⟨rfl, rfl⟩))
        | (go_at_call 12; ((with_reducible refine (long_c A2 n2 cap2 l2 _ (ha2.on H.wider) hn2 (by omega) hz2 hb2).mono ?_); rintro e w9 ⟨rfl, rfl⟩))
        | (go_at_call 25; ((with_reducible refine (large_c A3 n3 cap3 l3 _ (ha3.on H.wider) hn3 (by omega) hz3 hb3).mono ?_); rintro e w9 ⟨rfl, rfl⟩))
        | (go_at_call 25; ((with_reducible refine (large_c A4 n4 cap4 l4 _ (ha4.on H.wider) hn4 (by omega) hz4 hb4).mono ?_); rintro e w9 ⟨rfl, rfl⟩))
        | (go_at_call 14; ((with_reducible refine (attrs_1 H A n cap l (ha.on H.wider) hn hl).mono ?_); clear H; rintro e w1 ⟨B, c2, rfl, H⟩))
        | (go_at_call 15; ((with_reducible refine (tenc_a B n c2 l _ H.ats hn hl ht hbl hv hT1 hr1).mono ?_); rintro e w1 ⟨rfl, g⟩; replace H := H.quiet g; clear g))
        | (go_at_call 14; ((with_reducible refine (attrs_1 H A2 n2 cap2 l2 (ha2.on H.wider) hn2 hl2).mono ?_); clear H; rintro e w1 ⟨B2, c3, rfl, H⟩))
        | (go_at_call 15; ((with_reducible refine (tenc_a B2 n2 c3 l2 _ H.ats hn2 hl2 ht2 hbl2 hv2 hT2 hr2).mono ?_); rintro e w1 ⟨rfl, g⟩; replace H := H.quiet g; clear g)))
      replace H := H.drop.drop
      go_upto_region 12 with (first
        | (at_builtin; refine wpList_append_lone rfl (.tmp 54) (.tmp 55) 22 rfl 58 ia (.agg #[.int .u8 0, .string ⟨#[]⟩]) 2 24 Try.underlying22 hia ha0 ha1 ha2' rfl (by decide) _ _ _ rfl (H.empty 58 2) A n cap (cellsA l) rfl hP1.out hP0.out (hP2.out _ (H.empty 58 2).wider) (cellsA_one l) hP3.out hP4.out hP5.out (List.nil_append _) ?_; clear H; intro B3 c4 w1 H)
        | (at_builtin; refine wpList_append_lone rfl (.tmp 56) (.tmp 57) 22 rfl 58 ia (.agg #[.int .u8 0, .string ⟨#[]⟩]) 2 24 Try.underlying22 hia ha0 ha1 ha2' rfl (by decide) _ _ _ rfl H A2 n2 cap2 (cellsA l2) rfl hQ1.out hQ0.out (hQ2.out _ H.wider) (cellsA_one l2) hQ3.out hQ4.out hQ5.out hQ6.out ?_; clear H; intro B4 c5 w1 H)
        | (go_at_call 14; ((with_reducible refine (attrs_1 H B4 N c5 (l ++ l2) H.ats hN hlN).mono ?_); clear H; rintro e w1 ⟨B5, c6, rfl, H⟩))
        | (go_at_call 15; ((with_reducible refine (tenc_a B5 N c6 (l ++ l2) _ H.ats hN hlN htN hbN hvN hT3 hr3).mono ?_); rintro e w1 ⟨rfl, g⟩; replace H := H.quiet g; clear g))
        | (go_at_call 26; ((with_reducible refine (tlist_a A3 n3 cap3 l3 _ (ha3.on H.wider) hn3 hl3 hbl3 hU1 hq1).mono ?_); rintro e w1 ⟨rfl, g⟩; replace H := H.quiet g; clear g))
        | (go_at_call 26; ((with_reducible refine (tlist_a A4 n4 cap4 l4 _ (ha4.on H.wider) hn4 hl4 hbl4 hU2 hq2).mono ?_); rintro e w1 ⟨rfl, g⟩; replace H := H.quiet g; clear g)))
      replace H := H.drop.drop
      go_wp2_with (first
        | (at_builtin; refine wpList_append_lone rfl (.tmp 124) (.tmp 125) 45 rfl 9 is (.string ⟨#[]⟩) 1 16 Try.underlying45 his hs0 hs1 hs2 rfl (by decide) _ _ _ rfl (H.empty 9 1) A3 n3 cap3 (cellsS l3) rfl hR1.out hR0.out (hR2.out _ (H.empty 9 1).wider) (cellsS_one l3) hR3.out hR4.out hR5.out (List.nil_append _) ?_; clear H; intro B6 c7 w1 H)
        | (at_builtin; refine wpList_append_lone rfl (.tmp 126) (.tmp 127) 45 rfl 9 is (.string ⟨#[]⟩) 1 16 Try.underlying45 his hs0 hs1 hs2 rfl (by decide) _ _ _ rfl H A4 n4 cap4 (cellsS l4) rfl hS1.out hS0.out (hS2.out _ H.wider) (cellsS_one l4) hS3.out hS4.out hS5.out hS6.out ?_; clear H; intro B7 c8 w1 H)
        | (go_at_call 26; ((with_reducible refine (tlist_a B7 M c8 (l3 ++ l4) _ H.strs hM hlM hbM hU3 hq3).mono ?_); rintro e w1 ⟨rfl, g⟩; replace H := H.quiet g; clear g)))
      go_ret
      exact ⟨rfl, H.wider⟩
    · as_aux_lemma =>
      clear QQ AA
      have e1 : ((n : Int) == 0) = true := by rw [beq_iff_eq]; omega
      clear e0
      go_enter Try.func10, Try.ntmps10
      go_upto_region 5 with (first
        | (go_at_call 13; ((with_reducible refine (awake6_c _).mono ?_); rintro e wa ⟨rfl, g⟩; replace H := H.quiet g; clear g))
        | (go_at_call 12; ((with_reducible refine (long_c A n cap l _ (ha.on H.wider) hn (by omega) hz1 hb1).mono ?_); rintro e w9 ⟨rfl, rfl⟩))
        | (go_at_call 12; ((with_reducible refine (long_c A2 n2 cap2 l2 _ (ha2.on H.wider) hn2 (by omega) hz2 hb2).mono ?_); rintro e w9 ⟨rfl, rfl⟩))
        | (go_at_call 25; ((with_reducible refine (large_c A3 n3 cap3 l3 _ (ha3.on H.wider) hn3 (by omega) hz3 hb3).mono ?_); rintro e w9 ⟨rfl, rfl⟩))
        | (go_at_call 25; ((with_reducible refine (large_c A4 n4 cap4 l4 _ (ha4.on H.wider) hn4 (by omega) hz4 hb4).mono ?_); rintro e w9 ⟨rfl, rfl⟩))
        | (go_at_call 14; ((with_reducible refine (attrs_1 H A n cap l (ha.on H.wider) hn hl).mono ?_); clear H; rintro e w1 ⟨B, c2, rfl, H⟩))
        | (go_at_call 15; ((with_reducible refine (tenc_a B n c2 l _ H.ats hn hl ht hbl hv hT1 hr1).mono ?_); rintro e w1 ⟨rfl, g⟩; replace H := H.quiet g; clear g))
        | (go_at_call 14; ((with_reducible refine (attrs_1 H A2 n2 cap2 l2 (ha2.on H.wider) hn2 hl2).mono ?_); clear H; rintro e w1 ⟨B2, c3, rfl, H⟩))
        | (go_at_call 15; ((with_reducible refine (tenc_a B2 n2 c3 l2 _ H.ats hn2 hl2 ht2 hbl2 hv2 hT2 hr2).mono ?_); rintro e w1 ⟨rfl, g⟩; replace H := H.quiet g; clear g)))
      replace H := H.drop.drop
      go_upto_region 7 with (first
        | (at_builtin; refine wpList_append_lone rfl (.tmp 54) (.tmp 55) 22 rfl 58 ia (.agg #[.int .u8 0, .string ⟨#[]⟩]) 2 24 Try.underlying22 hia ha0 ha1 ha2' rfl (by decide) _ _ _ rfl (H.empty 58 2) A n cap (cellsA l) rfl hP1.out hP0.out (hP2.out _ (H.empty 58 2).wider) (cellsA_one l) hP3.out hP4.out hP5.out (List.nil_append _) ?_; clear H; intro B3 c4 w1 H)
        | (at_builtin; refine wpList_append_lone rfl (.tmp 56) (.tmp 57) 22 rfl 58 ia (.agg #[.int .u8 0, .string ⟨#[]⟩]) 2 24 Try.underlying22 hia ha0 ha1 ha2' rfl (by decide) _ _ _ rfl H A2 n2 cap2 (cellsA l2) rfl hQ1.out hQ0.out (hQ2.out _ H.wider) (cellsA_one l2) hQ3.out hQ4.out hQ5.out hQ6.out ?_; clear H; intro B4 c5 w1 H)
        | (go_at_call 14; ((with_reducible refine (attrs_1 H B4 N c5 (l ++ l2) H.ats hN hlN).mono ?_); clear H; rintro e w1 ⟨B5, c6, rfl, H⟩))
        | (go_at_call 15; ((with_reducible refine (tenc_a B5 N c6 (l ++ l2) _ H.ats hN hlN htN hbN hvN hT3 hr3).mono ?_); rintro e w1 ⟨rfl, g⟩; replace H := H.quiet g; clear g)))
      go_quiet (fail)
      replace H : Own _ _ _ := H.quiet ((Wider.refl _).drewN nq)
      go_upto_region 12 with (first
        | (go_at_call 26; ((with_reducible refine (tlist_a A3 n3 cap3 l3 _ (ha3.on H.wider) hn3 hl3 hbl3 hU1 hq1).mono ?_); rintro e w1 ⟨rfl, g⟩; replace H := H.quiet g; clear g))
        | (go_at_call 26; ((with_reducible refine (tlist_a A4 n4 cap4 l4 _ (ha4.on H.wider) hn4 hl4 hbl4 hU2 hq2).mono ?_); rintro e w1 ⟨rfl, g⟩; replace H := H.quiet g; clear g)))
      replace H := H.drop.drop
      go_wp2_with (first
        | (at_builtin; refine wpList_append_lone rfl (.tmp 124) (.tmp 125) 45 rfl 9 is (.string ⟨#[]⟩) 1 16 Try.underlying45 his hs0 hs1 hs2 rfl (by decide) _ _ _ rfl (H.empty 9 1) A3 n3 cap3 (cellsS l3) rfl hR1.out hR0.out (hR2.out _ (H.empty 9 1).wider) (cellsS_one l3) hR3.out hR4.out hR5.out (List.nil_append _) ?_; clear H; intro B6 c7 w1 H)
        | (at_builtin; refine wpList_append_lone rfl (.tmp 126) (.tmp 127) 45 rfl 9 is (.string ⟨#[]⟩) 1 16 Try.underlying45 his hs0 hs1 hs2 rfl (by decide) _ _ _ rfl H A4 n4 cap4 (cellsS l4) rfl hS1.out hS0.out (hS2.out _ H.wider) (cellsS_one l4) hS3.out hS4.out hS5.out hS6.out ?_; clear H; intro B7 c8 w1 H)
        | (go_at_call 26; ((with_reducible refine (tlist_a B7 M c8 (l3 ++ l4) _ H.strs hM hlM hbM hU3 hq3).mono ?_); rintro e w1 ⟨rfl, g⟩; replace H := H.quiet g; clear g)))
      go_ret
      exact ⟨rfl, H.wider⟩
    · as_aux_lemma =>
      clear QQ AA
      have e1 : ((n2 : Int) == 0) = true := by rw [beq_iff_eq]; omega
      clear e0
      go_enter Try.func10, Try.ntmps10
      go_upto_region 5 with (first
        | (go_at_call 13; ((with_reducible refine (awake6_c _).mono ?_); rintro e wa ⟨rfl, g⟩; replace H := H.quiet g; clear g))
        | (go_at_call 12; ((with_reducible refine (long_c A n cap l _ (ha.on H.wider) hn (by omega) hz1 hb1).mono ?_); rintro e w9 ⟨rfl, rfl⟩))
        | (go_at_call 12; ((with_reducible refine (long_c A2 n2 cap2 l2 _ (ha2.on H.wider) hn2 (by omega) hz2 hb2).mono ?_); rintro e w9 ⟨rfl, rfl⟩))
        | (go_at_call 25; ((with_reducible refine (large_c A3 n3 cap3 l3 _ (ha3.on H.wider) hn3 (by omega) hz3 hb3).mono ?_); rintro e w9 ⟨rfl, rfl⟩))
        | (go_at_call 25; ((with_reducible refine (large_c A4 n4 cap4 l4 _ (ha4.on H.wider) hn4 (by omega) hz4 hb4).mono ?_); rintro e w9 ⟨rfl, rfl⟩))
        | (go_at_call 14; ((with_reducible refine (attrs_1 H A n cap l (ha.on H.wider) hn hl).mono ?_); clear H; rintro e w1 ⟨B, c2, rfl, H⟩))
        | (go_at_call 15; ((with_reducible refine (tenc_a B n c2 l _ H.ats hn hl ht hbl hv hT1 hr1).mono ?_); rintro e w1 ⟨rfl, g⟩; replace H := H.quiet g; clear g))
        | (go_at_call 14; ((with_reducible refine (attrs_1 H A2 n2 cap2 l2 (ha2.on H.wider) hn2 hl2).mono ?_); clear H; rintro e w1 ⟨B2, c3, rfl, H⟩))
        | (go_at_call 15; ((with_reducible refine (tenc_a B2 n2 c3 l2 _ H.ats hn2 hl2 ht2 hbl2 hv2 hT2 hr2).mono ?_); rintro e w1 ⟨rfl, g⟩; replace H := H.quiet g; clear g)))
      replace H := H.drop.drop
      go_upto_region 7 with (first
        | (at_builtin; refine wpList_append_lone rfl (.tmp 54) (.tmp 55) 22 rfl 58 ia (.agg #[.int .u8 0, .string ⟨#[]⟩]) 2 24 Try.underlying22 hia ha0 ha1 ha2' rfl (by decide) _ _ _ rfl (H.empty 58 2) A n cap (cellsA l) rfl hP1.out hP0.out (hP2.out _ (H.empty 58 2).wider) (cellsA_one l) hP3.out hP4.out hP5.out (List.nil_append _) ?_; clear H; intro B3 c4 w1 H)
        | (at_builtin; refine wpList_append_lone rfl (.tmp 56) (.tmp 57) 22 rfl 58 ia (.agg #[.int .u8 0, .string ⟨#[]⟩]) 2 24 Try.underlying22 hia ha0 ha1 ha2' rfl (by decide) _ _ _ rfl H A2 n2 cap2 (cellsA l2) rfl hQ1.out hQ0.out (hQ2.out _ H.wider) (cellsA_one l2) hQ3.out hQ4.out hQ5.out hQ6.out ?_; clear H; intro B4 c5 w1 H)
        | (go_at_call 14; ((with_reducible refine (attrs_1 H B4 N c5 (l ++ l2) H.ats hN hlN).mono ?_); clear H; rintro e w1 ⟨B5, c6, rfl, H⟩))
        | (go_at_call 15; ((with_reducible refine (tenc_a B5 N c6 (l ++ l2) _ H.ats hN hlN htN hbN hvN hT3 hr3).mono ?_); rintro e w1 ⟨rfl, g⟩; replace H := H.quiet g; clear g)))
      go_quiet (fail)
      replace H : Own _ _ _ := H.quiet ((Wider.refl _).drewN nq)
      go_upto_region 12 with (first
        | (go_at_call 26; ((with_reducible refine (tlist_a A3 n3 cap3 l3 _ (ha3.on H.wider) hn3 hl3 hbl3 hU1 hq1).mono ?_); rintro e w1 ⟨rfl, g⟩; replace H := H.quiet g; clear g))
        | (go_at_call 26; ((with_reducible refine (tlist_a A4 n4 cap4 l4 _ (ha4.on H.wider) hn4 hl4 hbl4 hU2 hq2).mono ?_); rintro e w1 ⟨rfl, g⟩; replace H := H.quiet g; clear g)))
      replace H := H.drop.drop
      go_wp2_with (first
        | (at_builtin; refine wpList_append_lone rfl (.tmp 124) (.tmp 125) 45 rfl 9 is (.string ⟨#[]⟩) 1 16 Try.underlying45 his hs0 hs1 hs2 rfl (by decide) _ _ _ rfl (H.empty 9 1) A3 n3 cap3 (cellsS l3) rfl hR1.out hR0.out (hR2.out _ (H.empty 9 1).wider) (cellsS_one l3) hR3.out hR4.out hR5.out (List.nil_append _) ?_; clear H; intro B6 c7 w1 H)
        | (at_builtin; refine wpList_append_lone rfl (.tmp 126) (.tmp 127) 45 rfl 9 is (.string ⟨#[]⟩) 1 16 Try.underlying45 his hs0 hs1 hs2 rfl (by decide) _ _ _ rfl H A4 n4 cap4 (cellsS l4) rfl hS1.out hS0.out (hS2.out _ H.wider) (cellsS_one l4) hS3.out hS4.out hS5.out hS6.out ?_; clear H; intro B7 c8 w1 H)
        | (go_at_call 26; ((with_reducible refine (tlist_a B7 M c8 (l3 ++ l4) _ H.strs hM hlM hbM hU3 hq3).mono ?_); rintro e w1 ⟨rfl, g⟩; replace H := H.quiet g; clear g)))
      go_ret
      exact ⟨rfl, H.wider⟩
    · as_aux_lemma =>
      clear QQ AA
      go_enter Try.func10, Try.ntmps10
      go_upto_region 5 with (first
        | (go_at_call 13; ((with_reducible refine (awake6_c _).mono ?_); rintro e wa ⟨rfl, g⟩; replace H := H.quiet g; clear g))
        | (go_at_call 12; ((with_reducible refine (long_c A n cap l _ (ha.on H.wider) hn (by omega) hz1 hb1).mono ?_); rintro e w9 ⟨rfl, rfl⟩))
        | (go_at_call 12; ((with_reducible refine (long_c A2 n2 cap2 l2 _ (ha2.on H.wider) hn2 (by omega) hz2 hb2).mono ?_); rintro e w9 ⟨rfl, rfl⟩))
        | (go_at_call 25; ((with_reducible refine (large_c A3 n3 cap3 l3 _ (ha3.on H.wider) hn3 (by omega) hz3 hb3).mono ?_); rintro e w9 ⟨rfl, rfl⟩))
        | (go_at_call 25; ((with_reducible refine (large_c A4 n4 cap4 l4 _ (ha4.on H.wider) hn4 (by omega) hz4 hb4).mono ?_); rintro e w9 ⟨rfl, rfl⟩))
        | (go_at_call 14; ((with_reducible refine (attrs_1 H A n cap l (ha.on H.wider) hn hl).mono ?_); clear H; rintro e w1 ⟨B, c2, rfl, H⟩))
        | (go_at_call 15; ((with_reducible refine (tenc_a B n c2 l _ H.ats hn hl ht hbl hv hT1 hr1).mono ?_); rintro e w1 ⟨rfl, g⟩; replace H := H.quiet g; clear g))
        | (go_at_call 14; ((with_reducible refine (attrs_1 H A2 n2 cap2 l2 (ha2.on H.wider) hn2 hl2).mono ?_); clear H; rintro e w1 ⟨B2, c3, rfl, H⟩))
        | (go_at_call 15; ((with_reducible refine (tenc_a B2 n2 c3 l2 _ H.ats hn2 hl2 ht2 hbl2 hv2 hT2 hr2).mono ?_); rintro e w1 ⟨rfl, g⟩; replace H := H.quiet g; clear g)))
      replace H := H.drop.drop
      go_upto_region 7 with (first
        | (at_builtin; refine wpList_append_lone rfl (.tmp 54) (.tmp 55) 22 rfl 58 ia (.agg #[.int .u8 0, .string ⟨#[]⟩]) 2 24 Try.underlying22 hia ha0 ha1 ha2' rfl (by decide) _ _ _ rfl (H.empty 58 2) A n cap (cellsA l) rfl hP1.out hP0.out (hP2.out _ (H.empty 58 2).wider) (cellsA_one l) hP3.out hP4.out hP5.out (List.nil_append _) ?_; clear H; intro B3 c4 w1 H)
        | (at_builtin; refine wpList_append_lone rfl (.tmp 56) (.tmp 57) 22 rfl 58 ia (.agg #[.int .u8 0, .string ⟨#[]⟩]) 2 24 Try.underlying22 hia ha0 ha1 ha2' rfl (by decide) _ _ _ rfl H A2 n2 cap2 (cellsA l2) rfl hQ1.out hQ0.out (hQ2.out _ H.wider) (cellsA_one l2) hQ3.out hQ4.out hQ5.out hQ6.out ?_; clear H; intro B4 c5 w1 H)
        | (go_at_call 14; ((with_reducible refine (attrs_1 H B4 N c5 (l ++ l2) H.ats hN hlN).mono ?_); clear H; rintro e w1 ⟨B5, c6, rfl, H⟩))
        | (go_at_call 15; ((with_reducible refine (tenc_a B5 N c6 (l ++ l2) _ H.ats hN hlN htN hbN hvN hT3 hr3).mono ?_); rintro e w1 ⟨rfl, g⟩; replace H := H.quiet g; clear g)))
      obtain ⟨xt, xv⟩ := x
      obtain ⟨yt, yv⟩ := y
      simp only at lt
      cases A with
      | none => exact absurd (hP0.out rfl) (by omega)
      | some a =>
        cases A2 with
        | none => exact absurd (hQ0.out rfl) (by omega)
        | some b =>
          obtain ⟨k0, _⟩ := (ha.on H.wider).cell a rfl _ _ hx
          obtain ⟨k1, _⟩ := (ha2.on H.wider).cell b rfl _ _ hy
          simp only at k0 k1
          have k2 := k1
          rw [show b.add (0 * 2) = b by unfold Addr.add; simp] at k2
          have i0 : (0 : Int) ≤ (n : Int) - 1 := by omega
          have i1 : (n : Int) - 1 < (n : Int) := by omega
          have i2 : ((n : Int) - 1).toNat = n - 1 := by omega
          have i3 : (0 : Int) < (n2 : Int) := by omega
          have i4 : IntKind.i64.wrap ((n : Int) - 1) = (n : Int) - 1 := by simp [IntKind.wrap, IntKind.bits, IntKind.signed]; omega
          have l1 : decide ((xt : Int) < (yt : Int)) = true := decide_eq_true (by omega)
          have l2' : decide (xt < yt) = true := decide_eq_true (by omega)
          clear hx hy lt
          go_quiet (fail)
          replace H : Own _ _ _ := H.quiet ((Wider.refl _).drewN nq)
          go_upto_region 12 with (first
            | (go_at_call 26; ((with_reducible refine (tlist_a A3 n3 cap3 l3 _ (ha3.on H.wider) hn3 hl3 hbl3 hU1 hq1).mono ?_); rintro e w1 ⟨rfl, g⟩; replace H := H.quiet g; clear g))
            | (go_at_call 26; ((with_reducible refine (tlist_a A4 n4 cap4 l4 _ (ha4.on H.wider) hn4 hl4 hbl4 hU2 hq2).mono ?_); rintro e w1 ⟨rfl, g⟩; replace H := H.quiet g; clear g)))
          replace H := H.drop.drop
          go_wp2_with (first
            | (at_builtin; refine wpList_append_lone rfl (.tmp 124) (.tmp 125) 45 rfl 9 is (.string ⟨#[]⟩) 1 16 Try.underlying45 his hs0 hs1 hs2 rfl (by decide) _ _ _ rfl (H.empty 9 1) A3 n3 cap3 (cellsS l3) rfl hR1.out hR0.out (hR2.out _ (H.empty 9 1).wider) (cellsS_one l3) hR3.out hR4.out hR5.out (List.nil_append _) ?_; clear H; intro B6 c7 w1 H)
            | (at_builtin; refine wpList_append_lone rfl (.tmp 126) (.tmp 127) 45 rfl 9 is (.string ⟨#[]⟩) 1 16 Try.underlying45 his hs0 hs1 hs2 rfl (by decide) _ _ _ rfl H A4 n4 cap4 (cellsS l4) rfl hS1.out hS0.out (hS2.out _ H.wider) (cellsS_one l4) hS3.out hS4.out hS5.out hS6.out ?_; clear H; intro B7 c8 w1 H)
            | (go_at_call 26; ((with_reducible refine (tlist_a B7 M c8 (l3 ++ l4) _ H.strs hM hlM hbM hU3 hq3).mono ?_); rintro e w1 ⟨rfl, g⟩; replace H := H.quiet g; clear g)))
          go_ret
          exact ⟨rfl, H.wider⟩
    · as_aux_lemma =>
      clear QQ AA
      go_enter Try.func10, Try.ntmps10
      go_upto_region 5 with (first
        | (go_at_call 13; ((with_reducible refine (awake6_c _).mono ?_); rintro e wa ⟨rfl, g⟩; replace H := H.quiet g; clear g))
        | (go_at_call 12; ((with_reducible refine (long_c A n cap l _ (ha.on H.wider) hn (by omega) hz1 hb1).mono ?_); rintro e w9 ⟨rfl, rfl⟩))
        | (go_at_call 12; ((with_reducible refine (long_c A2 n2 cap2 l2 _ (ha2.on H.wider) hn2 (by omega) hz2 hb2).mono ?_); rintro e w9 ⟨rfl, rfl⟩))
        | (go_at_call 25; ((with_reducible refine (large_c A3 n3 cap3 l3 _ (ha3.on H.wider) hn3 (by omega) hz3 hb3).mono ?_); rintro e w9 ⟨rfl, rfl⟩))
        | (go_at_call 25; ((with_reducible refine (large_c A4 n4 cap4 l4 _ (ha4.on H.wider) hn4 (by omega) hz4 hb4).mono ?_); rintro e w9 ⟨rfl, rfl⟩))
        | (go_at_call 14; ((with_reducible refine (attrs_1 H A n cap l (ha.on H.wider) hn hl).mono ?_); clear H; rintro e w1 ⟨B, c2, rfl, H⟩))
        | (go_at_call 15; ((with_reducible refine (tenc_a B n c2 l _ H.ats hn hl ht hbl hv hT1 hr1).mono ?_); rintro e w1 ⟨rfl, g⟩; replace H := H.quiet g; clear g))
        | (go_at_call 14; ((with_reducible refine (attrs_1 H A2 n2 cap2 l2 (ha2.on H.wider) hn2 hl2).mono ?_); clear H; rintro e w1 ⟨B2, c3, rfl, H⟩))
        | (go_at_call 15; ((with_reducible refine (tenc_a B2 n2 c3 l2 _ H.ats hn2 hl2 ht2 hbl2 hv2 hT2 hr2).mono ?_); rintro e w1 ⟨rfl, g⟩; replace H := H.quiet g; clear g)))
      replace H := H.drop.drop
      go_upto_region 7 with (first
        | (at_builtin; refine wpList_append_lone rfl (.tmp 54) (.tmp 55) 22 rfl 58 ia (.agg #[.int .u8 0, .string ⟨#[]⟩]) 2 24 Try.underlying22 hia ha0 ha1 ha2' rfl (by decide) _ _ _ rfl (H.empty 58 2) A n cap (cellsA l) rfl hP1.out hP0.out (hP2.out _ (H.empty 58 2).wider) (cellsA_one l) hP3.out hP4.out hP5.out (List.nil_append _) ?_; clear H; intro B3 c4 w1 H)
        | (at_builtin; refine wpList_append_lone rfl (.tmp 56) (.tmp 57) 22 rfl 58 ia (.agg #[.int .u8 0, .string ⟨#[]⟩]) 2 24 Try.underlying22 hia ha0 ha1 ha2' rfl (by decide) _ _ _ rfl H A2 n2 cap2 (cellsA l2) rfl hQ1.out hQ0.out (hQ2.out _ H.wider) (cellsA_one l2) hQ3.out hQ4.out hQ5.out hQ6.out ?_; clear H; intro B4 c5 w1 H)
        | (go_at_call 14; ((with_reducible refine (attrs_1 H B4 N c5 (l ++ l2) H.ats hN hlN).mono ?_); clear H; rintro e w1 ⟨B5, c6, rfl, H⟩))
        | (go_at_call 15; ((with_reducible refine (tenc_a B5 N c6 (l ++ l2) _ H.ats hN hlN htN hbN hvN hT3 hr3).mono ?_); rintro e w1 ⟨rfl, g⟩; replace H := H.quiet g; clear g)))
      obtain ⟨xt, xv⟩ := x
      obtain ⟨yt, yv⟩ := y
      simp only at lt
      cases A with
      | none => exact absurd (hP0.out rfl) (by omega)
      | some a =>
        cases A2 with
        | none => exact absurd (hQ0.out rfl) (by omega)
        | some b =>
          obtain ⟨k0, _⟩ := (ha.on H.wider).cell a rfl _ _ hx
          obtain ⟨k1, _⟩ := (ha2.on H.wider).cell b rfl _ _ hy
          simp only at k0 k1
          have k2 := k1
          rw [show b.add (0 * 2) = b by unfold Addr.add; simp] at k2
          have i0 : (0 : Int) ≤ (n : Int) - 1 := by omega
          have i1 : (n : Int) - 1 < (n : Int) := by omega
          have i2 : ((n : Int) - 1).toNat = n - 1 := by omega
          have i3 : (0 : Int) < (n2 : Int) := by omega
          have i4 : IntKind.i64.wrap ((n : Int) - 1) = (n : Int) - 1 := by simp [IntKind.wrap, IntKind.bits, IntKind.signed]; omega
          have l1 : decide ((xt : Int) < (yt : Int)) = false := decide_eq_false (by omega)
          have l2' : decide (xt < yt) = false := decide_eq_false (by omega)
          clear hx hy lt
          go_quiet (fail)
          replace H : Own _ _ _ := H.quiet ((Wider.refl _).drewN nq)
          go_upto_region 12 with (first
            | (go_at_call 26; ((with_reducible refine (tlist_a A3 n3 cap3 l3 _ (ha3.on H.wider) hn3 hl3 hbl3 hU1 hq1).mono ?_); rintro e w1 ⟨rfl, g⟩; replace H := H.quiet g; clear g))
            | (go_at_call 26; ((with_reducible refine (tlist_a A4 n4 cap4 l4 _ (ha4.on H.wider) hn4 hl4 hbl4 hU2 hq2).mono ?_); rintro e w1 ⟨rfl, g⟩; replace H := H.quiet g; clear g)))
          replace H := H.drop.drop
          go_wp2_with (first
            | (at_builtin; refine wpList_append_lone rfl (.tmp 124) (.tmp 125) 45 rfl 9 is (.string ⟨#[]⟩) 1 16 Try.underlying45 his hs0 hs1 hs2 rfl (by decide) _ _ _ rfl (H.empty 9 1) A3 n3 cap3 (cellsS l3) rfl hR1.out hR0.out (hR2.out _ (H.empty 9 1).wider) (cellsS_one l3) hR3.out hR4.out hR5.out (List.nil_append _) ?_; clear H; intro B6 c7 w1 H)
            | (at_builtin; refine wpList_append_lone rfl (.tmp 126) (.tmp 127) 45 rfl 9 is (.string ⟨#[]⟩) 1 16 Try.underlying45 his hs0 hs1 hs2 rfl (by decide) _ _ _ rfl H A4 n4 cap4 (cellsS l4) rfl hS1.out hS0.out (hS2.out _ H.wider) (cellsS_one l4) hS3.out hS4.out hS5.out hS6.out ?_; clear H; intro B7 c8 w1 H)
            | (go_at_call 26; ((with_reducible refine (tlist_a B7 M c8 (l3 ++ l4) _ H.strs hM hlM hbM hU3 hq3).mono ?_); rintro e w1 ⟨rfl, g⟩; replace H := H.quiet g; clear g)))
          go_ret
          exact ⟨rfl, H.wider⟩
    · as_aux_lemma =>
      clear QQ AA
      go_enter Try.func10, Try.ntmps10
      go_upto_region 5 with (first
        | (go_at_call 13; ((with_reducible refine (awake6_c _).mono ?_); rintro e wa ⟨rfl, g⟩; replace H := H.quiet g; clear g))
        | (go_at_call 12; ((with_reducible refine (long_c A n cap l _ (ha.on H.wider) hn (by omega) hz1 hb1).mono ?_); rintro e w9 ⟨rfl, rfl⟩))
        | (go_at_call 12; ((with_reducible refine (long_c A2 n2 cap2 l2 _ (ha2.on H.wider) hn2 (by omega) hz2 hb2).mono ?_); rintro e w9 ⟨rfl, rfl⟩))
        | (go_at_call 25; ((with_reducible refine (large_c A3 n3 cap3 l3 _ (ha3.on H.wider) hn3 (by omega) hz3 hb3).mono ?_); rintro e w9 ⟨rfl, rfl⟩))
        | (go_at_call 25; ((with_reducible refine (large_c A4 n4 cap4 l4 _ (ha4.on H.wider) hn4 (by omega) hz4 hb4).mono ?_); rintro e w9 ⟨rfl, rfl⟩))
        | (go_at_call 14; ((with_reducible refine (attrs_1 H A n cap l (ha.on H.wider) hn hl).mono ?_); clear H; rintro e w1 ⟨B, c2, rfl, H⟩))
        | (go_at_call 15; ((with_reducible refine (tenc_a B n c2 l _ H.ats hn hl ht hbl hv hT1 hr1).mono ?_); rintro e w1 ⟨rfl, g⟩; replace H := H.quiet g; clear g))
        | (go_at_call 14; ((with_reducible refine (attrs_1 H A2 n2 cap2 l2 (ha2.on H.wider) hn2 hl2).mono ?_); clear H; rintro e w1 ⟨B2, c3, rfl, H⟩))
        | (go_at_call 15; ((with_reducible refine (tenc_a B2 n2 c3 l2 _ H.ats hn2 hl2 ht2 hbl2 hv2 hT2 hr2).mono ?_); rintro e w1 ⟨rfl, g⟩; replace H := H.quiet g; clear g)))
      replace H := H.drop.drop
      go_upto_region 12 with (first
        | (at_builtin; refine wpList_append_lone rfl (.tmp 54) (.tmp 55) 22 rfl 58 ia (.agg #[.int .u8 0, .string ⟨#[]⟩]) 2 24 Try.underlying22 hia ha0 ha1 ha2' rfl (by decide) _ _ _ rfl (H.empty 58 2) A n cap (cellsA l) rfl hP1.out hP0.out (hP2.out _ (H.empty 58 2).wider) (cellsA_one l) hP3.out hP4.out hP5.out (List.nil_append _) ?_; clear H; intro B3 c4 w1 H)
        | (at_builtin; refine wpList_append_lone rfl (.tmp 56) (.tmp 57) 22 rfl 58 ia (.agg #[.int .u8 0, .string ⟨#[]⟩]) 2 24 Try.underlying22 hia ha0 ha1 ha2' rfl (by decide) _ _ _ rfl H A2 n2 cap2 (cellsA l2) rfl hQ1.out hQ0.out (hQ2.out _ H.wider) (cellsA_one l2) hQ3.out hQ4.out hQ5.out hQ6.out ?_; clear H; intro B4 c5 w1 H)
        | (go_at_call 14; ((with_reducible refine (attrs_1 H B4 N c5 (l ++ l2) H.ats hN hlN).mono ?_); clear H; rintro e w1 ⟨B5, c6, rfl, H⟩))
        | (go_at_call 15; ((with_reducible refine (tenc_a B5 N c6 (l ++ l2) _ H.ats hN hlN htN hbN hvN hT3 hr3).mono ?_); rintro e w1 ⟨rfl, g⟩; replace H := H.quiet g; clear g))
        | (go_at_call 26; ((with_reducible refine (tlist_a A3 n3 cap3 l3 _ (ha3.on H.wider) hn3 hl3 hbl3 hU1 hq1).mono ?_); rintro e w1 ⟨rfl, g⟩; replace H := H.quiet g; clear g))
        | (go_at_call 26; ((with_reducible refine (tlist_a A4 n4 cap4 l4 _ (ha4.on H.wider) hn4 hl4 hbl4 hU2 hq2).mono ?_); rintro e w1 ⟨rfl, g⟩; replace H := H.quiet g; clear g)))
      replace H := H.drop.drop
      go_wp2_with (first
        | (at_builtin; refine wpList_append_lone rfl (.tmp 124) (.tmp 125) 45 rfl 9 is (.string ⟨#[]⟩) 1 16 Try.underlying45 his hs0 hs1 hs2 rfl (by decide) _ _ _ rfl (H.empty 9 1) A3 n3 cap3 (cellsS l3) rfl hR1.out hR0.out (hR2.out _ (H.empty 9 1).wider) (cellsS_one l3) hR3.out hR4.out hR5.out (List.nil_append _) ?_; clear H; intro B6 c7 w1 H)
        | (at_builtin; refine wpList_append_lone rfl (.tmp 126) (.tmp 127) 45 rfl 9 is (.string ⟨#[]⟩) 1 16 Try.underlying45 his hs0 hs1 hs2 rfl (by decide) _ _ _ rfl H A4 n4 cap4 (cellsS l4) rfl hS1.out hS0.out (hS2.out _ H.wider) (cellsS_one l4) hS3.out hS4.out hS5.out hS6.out ?_; clear H; intro B7 c8 w1 H)
        | (go_at_call 26; ((with_reducible refine (tlist_a B7 M c8 (l3 ++ l4) _ H.strs hM hlM hbM hU3 hq3).mono ?_); rintro e w1 ⟨rfl, g⟩; replace H := H.quiet g; clear g)))
      go_ret
      exact ⟨rfl, H.wider⟩
    · as_aux_lemma =>
      clear QQ AA
      go_enter Try.func10, Try.ntmps10
      go_upto_region 5 with (first
        | (go_at_call 13; ((with_reducible refine (awake6_c _).mono ?_); rintro e wa ⟨rfl, g⟩; replace H := H.quiet g; clear g))
        | (go_at_call 12; ((with_reducible refine (long_c A n cap l _ (ha.on H.wider) hn (by omega) hz1 hb1).mono ?_); rintro e w9 ⟨rfl, rfl⟩))
        | (go_at_call 12; ((with_reducible refine (long_c A2 n2 cap2 l2 _ (ha2.on H.wider) hn2 (by omega) hz2 hb2).mono ?_); rintro e w9 ⟨rfl, rfl⟩))
        | (go_at_call 25; ((with_reducible refine (large_c A3 n3 cap3 l3 _ (ha3.on H.wider) hn3 (by omega) hz3 hb3).mono ?_); rintro e w9 ⟨rfl, rfl⟩))
        | (go_at_call 25; ((with_reducible refine (large_c A4 n4 cap4 l4 _ (ha4.on H.wider) hn4 (by omega) hz4 hb4).mono ?_); rintro e w9 ⟨rfl, rfl⟩))
        | (go_at_call 14; ((with_reducible refine (attrs_1 H A n cap l (ha.on H.wider) hn hl).mono ?_); clear H; rintro e w1 ⟨B, c2, rfl, H⟩))
        | (go_at_call 15; ((with_reducible refine (tenc_a B n c2 l _ H.ats hn hl ht hbl hv hT1 hr1).mono ?_); rintro e w1 ⟨rfl, g⟩; replace H := H.quiet g; clear g))
        | (go_at_call 14; ((with_reducible refine (attrs_1 H A2 n2 cap2 l2 (ha2.on H.wider) hn2 hl2).mono ?_); clear H; rintro e w1 ⟨B2, c3, rfl, H⟩))
        | (go_at_call 15; ((with_reducible refine (tenc_a B2 n2 c3 l2 _ H.ats hn2 hl2 ht2 hbl2 hv2 hT2 hr2).mono ?_); rintro e w1 ⟨rfl, g⟩; replace H := H.quiet g; clear g)))
      replace H := H.drop.drop
      go_upto_region 12 with (first
        | (at_builtin; refine wpList_append_lone rfl (.tmp 54) (.tmp 55) 22 rfl 58 ia (.agg #[.int .u8 0, .string ⟨#[]⟩]) 2 24 Try.underlying22 hia ha0 ha1 ha2' rfl (by decide) _ _ _ rfl (H.empty 58 2) A n cap (cellsA l) rfl hP1.out hP0.out (hP2.out _ (H.empty 58 2).wider) (cellsA_one l) hP3.out hP4.out hP5.out (List.nil_append _) ?_; clear H; intro B3 c4 w1 H)
        | (at_builtin; refine wpList_append_lone rfl (.tmp 56) (.tmp 57) 22 rfl 58 ia (.agg #[.int .u8 0, .string ⟨#[]⟩]) 2 24 Try.underlying22 hia ha0 ha1 ha2' rfl (by decide) _ _ _ rfl H A2 n2 cap2 (cellsA l2) rfl hQ1.out hQ0.out (hQ2.out _ H.wider) (cellsA_one l2) hQ3.out hQ4.out hQ5.out hQ6.out ?_; clear H; intro B4 c5 w1 H)
        | (go_at_call 14; ((with_reducible refine (attrs_1 H B4 N c5 (l ++ l2) H.ats hN hlN).mono ?_); clear H; rintro e w1 ⟨B5, c6, rfl, H⟩))
        | (go_at_call 15; ((with_reducible refine (tenc_a B5 N c6 (l ++ l2) _ H.ats hN hlN htN hbN hvN hT3 hr3).mono ?_); rintro e w1 ⟨rfl, g⟩; replace H := H.quiet g; clear g))
        | (go_at_call 26; ((with_reducible refine (tlist_a A3 n3 cap3 l3 _ (ha3.on H.wider) hn3 hl3 hbl3 hU1 hq1).mono ?_); rintro e w1 ⟨rfl, g⟩; replace H := H.quiet g; clear g))
        | (go_at_call 26; ((with_reducible refine (tlist_a A4 n4 cap4 l4 _ (ha4.on H.wider) hn4 hl4 hbl4 hU2 hq2).mono ?_); rintro e w1 ⟨rfl, g⟩; replace H := H.quiet g; clear g)))
      replace H := H.drop.drop
      go_wp2_with (first
        | (at_builtin; refine wpList_append_lone rfl (.tmp 124) (.tmp 125) 45 rfl 9 is (.string ⟨#[]⟩) 1 16 Try.underlying45 his hs0 hs1 hs2 rfl (by decide) _ _ _ rfl (H.empty 9 1) A3 n3 cap3 (cellsS l3) rfl hR1.out hR0.out (hR2.out _ (H.empty 9 1).wider) (cellsS_one l3) hR3.out hR4.out hR5.out (List.nil_append _) ?_; clear H; intro B6 c7 w1 H)
        | (at_builtin; refine wpList_append_lone rfl (.tmp 126) (.tmp 127) 45 rfl 9 is (.string ⟨#[]⟩) 1 16 Try.underlying45 his hs0 hs1 hs2 rfl (by decide) _ _ _ rfl H A4 n4 cap4 (cellsS l4) rfl hS1.out hS0.out (hS2.out _ H.wider) (cellsS_one l4) hS3.out hS4.out hS5.out hS6.out ?_; clear H; intro B7 c8 w1 H)
        | (go_at_call 26; ((with_reducible refine (tlist_a B7 M c8 (l3 ++ l4) _ H.strs hM hlM hbM hU3 hq3).mono ?_); rintro e w1 ⟨rfl, g⟩; replace H := H.quiet g; clear g)))
      go_ret
      exact ⟨rfl, H.wider⟩
    · as_aux_lemma =>
      clear QQ AA
      have e1 : ((n : Int) == 0) = true := by rw [beq_iff_eq]; omega
      clear e0
      go_enter Try.func10, Try.ntmps10
      go_upto_region 5 with (first
        | (go_at_call 13; ((with_reducible refine (awake6_c _).mono ?_); rintro e wa ⟨rfl, g⟩; replace H := H.quiet g; clear g))
        | (go_at_call 12; ((with_reducible refine (long_c A n cap l _ (ha.on H.wider) hn (by omega) hz1 hb1).mono ?_); rintro e w9 ⟨rfl, rfl⟩))
        | (go_at_call 12; ((with_reducible refine (long_c A2 n2 cap2 l2 _ (ha2.on H.wider) hn2 (by omega) hz2 hb2).mono ?_); rintro e w9 ⟨rfl, rfl⟩))
        | (go_at_call 25; ((with_reducible refine (large_c A3 n3 cap3 l3 _ (ha3.on H.wider) hn3 (by omega) hz3 hb3).mono ?_); rintro e w9 ⟨rfl, rfl⟩))
        | (go_at_call 25; ((with_reducible refine (large_c A4 n4 cap4 l4 _ (ha4.on H.wider) hn4 (by omega) hz4 hb4).mono ?_); rintro e w9 ⟨rfl, rfl⟩))
        | (go_at_call 14; ((with_reducible refine (attrs_1 H A n cap l (ha.on H.wider) hn hl).mono ?_); clear H; rintro e w1 ⟨B, c2, rfl, H⟩))
        | (go_at_call 15; ((with_reducible refine (tenc_a B n c2 l _ H.ats hn hl ht hbl hv hT1 hr1).mono ?_); rintro e w1 ⟨rfl, g⟩; replace H := H.quiet g; clear g))
        | (go_at_call 14; ((with_reducible refine (attrs_1 H A2 n2 cap2 l2 (ha2.on H.wider) hn2 hl2).mono ?_); clear H; rintro e w1 ⟨B2, c3, rfl, H⟩))
        | (go_at_call 15; ((with_reducible refine (tenc_a B2 n2 c3 l2 _ H.ats hn2 hl2 ht2 hbl2 hv2 hT2 hr2).mono ?_); rintro e w1 ⟨rfl, g⟩; replace H := H.quiet g; clear g)))
      replace H := H.drop.drop
      go_upto_region 7 with (first
        | (at_builtin; refine wpList_append_lone rfl (.tmp 54) (.tmp 55) 22 rfl 58 ia (.agg #[.int .u8 0, .string ⟨#[]⟩]) 2 24 Try.underlying22 hia ha0 ha1 ha2' rfl (by decide) _ _ _ rfl (H.empty 58 2) A n cap (cellsA l) rfl hP1.out hP0.out (hP2.out _ (H.empty 58 2).wider) (cellsA_one l) hP3.out hP4.out hP5.out (List.nil_append _) ?_; clear H; intro B3 c4 w1 H)
        | (at_builtin; refine wpList_append_lone rfl (.tmp 56) (.tmp 57) 22 rfl 58 ia (.agg #[.int .u8 0, .string ⟨#[]⟩]) 2 24 Try.underlying22 hia ha0 ha1 ha2' rfl (by decide) _ _ _ rfl H A2 n2 cap2 (cellsA l2) rfl hQ1.out hQ0.out (hQ2.out _ H.wider) (cellsA_one l2) hQ3.out hQ4.out hQ5.out hQ6.out ?_; clear H; intro B4 c5 w1 H)
        | (go_at_call 14; ((with_reducible refine (attrs_1 H B4 N c5 (l ++ l2) H.ats hN hlN).mono ?_); clear H; rintro e w1 ⟨B5, c6, rfl, H⟩))
        | (go_at_call 15; ((with_reducible refine (tenc_a B5 N c6 (l ++ l2) _ H.ats hN hlN htN hbN hvN hT3 hr3).mono ?_); rintro e w1 ⟨rfl, g⟩; replace H := H.quiet g; clear g)))
      go_quiet (fail)
      replace H : Own _ _ _ := H.quiet ((Wider.refl _).drewN nq)
      go_upto_region 12 with (first
        | (go_at_call 26; ((with_reducible refine (tlist_a A3 n3 cap3 l3 _ (ha3.on H.wider) hn3 hl3 hbl3 hU1 hq1).mono ?_); rintro e w1 ⟨rfl, g⟩; replace H := H.quiet g; clear g))
        | (go_at_call 26; ((with_reducible refine (tlist_a A4 n4 cap4 l4 _ (ha4.on H.wider) hn4 hl4 hbl4 hU2 hq2).mono ?_); rintro e w1 ⟨rfl, g⟩; replace H := H.quiet g; clear g)))
      replace H := H.drop.drop
      go_wp2_with (first
        | (at_builtin; refine wpList_append_lone rfl (.tmp 124) (.tmp 125) 45 rfl 9 is (.string ⟨#[]⟩) 1 16 Try.underlying45 his hs0 hs1 hs2 rfl (by decide) _ _ _ rfl (H.empty 9 1) A3 n3 cap3 (cellsS l3) rfl hR1.out hR0.out (hR2.out _ (H.empty 9 1).wider) (cellsS_one l3) hR3.out hR4.out hR5.out (List.nil_append _) ?_; clear H; intro B6 c7 w1 H)
        | (at_builtin; refine wpList_append_lone rfl (.tmp 126) (.tmp 127) 45 rfl 9 is (.string ⟨#[]⟩) 1 16 Try.underlying45 his hs0 hs1 hs2 rfl (by decide) _ _ _ rfl H A4 n4 cap4 (cellsS l4) rfl hS1.out hS0.out (hS2.out _ H.wider) (cellsS_one l4) hS3.out hS4.out hS5.out hS6.out ?_; clear H; intro B7 c8 w1 H)
        | (go_at_call 26; ((with_reducible refine (tlist_a B7 M c8 (l3 ++ l4) _ H.strs hM hlM hbM hU3 hq3).mono ?_); rintro e w1 ⟨rfl, g⟩; replace H := H.quiet g; clear g)))
      go_ret
      exact ⟨rfl, H.wider⟩
    · as_aux_lemma =>
      clear QQ AA
      have e1 : ((n2 : Int) == 0) = true := by rw [beq_iff_eq]; omega
      clear e0
      go_enter Try.func10, Try.ntmps10
      go_upto_region 5 with (first
        | (go_at_call 13; ((with_reducible refine (awake6_c _).mono ?_); rintro e wa ⟨rfl, g⟩; replace H := H.quiet g; clear g))
        | (go_at_call 12; ((with_reducible refine (long_c A n cap l _ (ha.on H.wider) hn (by omega) hz1 hb1).mono ?_); rintro e w9 ⟨rfl, rfl⟩))
        | (go_at_call 12; ((with_reducible refine (long_c A2 n2 cap2 l2 _ (ha2.on H.wider) hn2 (by omega) hz2 hb2).mono ?_); rintro e w9 ⟨rfl, rfl⟩))
        | (go_at_call 25; ((with_reducible refine (large_c A3 n3 cap3 l3 _ (ha3.on H.wider) hn3 (by omega) hz3 hb3).mono ?_); rintro e w9 ⟨rfl, rfl⟩))
        | (go_at_call 25; ((with_reducible refine (large_c A4 n4 cap4 l4 _ (ha4.on H.wider) hn4 (by omega) hz4 hb4).mono ?_); rintro e w9 ⟨rfl, rfl⟩))
        | (go_at_call 14; ((with_reducible refine (attrs_1 H A n cap l (ha.on H.wider) hn hl).mono ?_); clear H; rintro e w1 ⟨B, c2, rfl, H⟩))
        | (go_at_call 15; ((with_reducible refine (tenc_a B n c2 l _ H.ats hn hl ht hbl hv hT1 hr1).mono ?_); rintro e w1 ⟨rfl, g⟩; replace H := H.quiet g; clear g))
        | (go_at_call 14; ((with_reducible refine (attrs_1 H A2 n2 cap2 l2 (ha2.on H.wider) hn2 hl2).mono ?_); clear H; rintro e w1 ⟨B2, c3, rfl, H⟩))
        | (go_at_call 15; ((with_reducible refine (tenc_a B2 n2 c3 l2 _ H.ats hn2 hl2 ht2 hbl2 hv2 hT2 hr2).mono ?_); rintro e w1 ⟨rfl, g⟩; replace H := H.quiet g; clear g)))
      replace H := H.drop.drop
      go_upto_region 7 with (first
        | (at_builtin; refine wpList_append_lone rfl (.tmp 54) (.tmp 55) 22 rfl 58 ia (.agg #[.int .u8 0, .string ⟨#[]⟩]) 2 24 Try.underlying22 hia ha0 ha1 ha2' rfl (by decide) _ _ _ rfl (H.empty 58 2) A n cap (cellsA l) rfl hP1.out hP0.out (hP2.out _ (H.empty 58 2).wider) (cellsA_one l) hP3.out hP4.out hP5.out (List.nil_append _) ?_; clear H; intro B3 c4 w1 H)
        | (at_builtin; refine wpList_append_lone rfl (.tmp 56) (.tmp 57) 22 rfl 58 ia (.agg #[.int .u8 0, .string ⟨#[]⟩]) 2 24 Try.underlying22 hia ha0 ha1 ha2' rfl (by decide) _ _ _ rfl H A2 n2 cap2 (cellsA l2) rfl hQ1.out hQ0.out (hQ2.out _ H.wider) (cellsA_one l2) hQ3.out hQ4.out hQ5.out hQ6.out ?_; clear H; intro B4 c5 w1 H)
        | (go_at_call 14; ((with_reducible refine (attrs_1 H B4 N c5 (l ++ l2) H.ats hN hlN).mono ?_); clear H; rintro e w1 ⟨B5, c6, rfl, H⟩))
        | (go_at_call 15; ((with_reducible refine (tenc_a B5 N c6 (l ++ l2) _ H.ats hN hlN htN hbN hvN hT3 hr3).mono ?_); rintro e w1 ⟨rfl, g⟩; replace H := H.quiet g; clear g)))
      go_quiet (fail)
      replace H : Own _ _ _ := H.quiet ((Wider.refl _).drewN nq)
      go_upto_region 12 with (first
        | (go_at_call 26; ((with_reducible refine (tlist_a A3 n3 cap3 l3 _ (ha3.on H.wider) hn3 hl3 hbl3 hU1 hq1).mono ?_); rintro e w1 ⟨rfl, g⟩; replace H := H.quiet g; clear g))
        | (go_at_call 26; ((with_reducible refine (tlist_a A4 n4 cap4 l4 _ (ha4.on H.wider) hn4 hl4 hbl4 hU2 hq2).mono ?_); rintro e w1 ⟨rfl, g⟩; replace H := H.quiet g; clear g)))
      replace H := H.drop.drop
      go_wp2_with (first
        | (at_builtin; refine wpList_append_lone rfl (.tmp 124) (.tmp 125) 45 rfl 9 is (.string ⟨#[]⟩) 1 16 Try.underlying45 his hs0 hs1 hs2 rfl (by decide) _ _ _ rfl (H.empty 9 1) A3 n3 cap3 (cellsS l3) rfl hR1.out hR0.out (hR2.out _ (H.empty 9 1).wider) (cellsS_one l3) hR3.out hR4.out hR5.out (List.nil_append _) ?_; clear H; intro B6 c7 w1 H)
        | (at_builtin; refine wpList_append_lone rfl (.tmp 126) (.tmp 127) 45 rfl 9 is (.string ⟨#[]⟩) 1 16 Try.underlying45 his hs0 hs1 hs2 rfl (by decide) _ _ _ rfl H A4 n4 cap4 (cellsS l4) rfl hS1.out hS0.out (hS2.out _ H.wider) (cellsS_one l4) hS3.out hS4.out hS5.out hS6.out ?_; clear H; intro B7 c8 w1 H)
        | (go_at_call 26; ((with_reducible refine (tlist_a B7 M c8 (l3 ++ l4) _ H.strs hM hlM hbM hU3 hq3).mono ?_); rintro e w1 ⟨rfl, g⟩; replace H := H.quiet g; clear g)))
      go_ret
      exact ⟨rfl, H.wider⟩
    · as_aux_lemma =>
      clear QQ AA
      go_enter Try.func10, Try.ntmps10
      go_upto_region 5 with (first
        | (go_at_call 13; ((with_reducible refine (awake6_c _).mono ?_); rintro e wa ⟨rfl, g⟩; replace H := H.quiet g; clear g))
        | (go_at_call 12; ((with_reducible refine (long_c A n cap l _ (ha.on H.wider) hn (by omega) hz1 hb1).mono ?_); rintro e w9 ⟨rfl, rfl⟩))
        | (go_at_call 12; ((with_reducible refine (long_c A2 n2 cap2 l2 _ (ha2.on H.wider) hn2 (by omega) hz2 hb2).mono ?_); rintro e w9 ⟨rfl, rfl⟩))
        | (go_at_call 25; ((with_reducible refine (large_c A3 n3 cap3 l3 _ (ha3.on H.wider) hn3 (by omega) hz3 hb3).mono ?_); rintro e w9 ⟨rfl, rfl⟩))
        | (go_at_call 25; ((with_reducible refine (large_c A4 n4 cap4 l4 _ (ha4.on H.wider) hn4 (by omega) hz4 hb4).mono ?_); rintro e w9 ⟨rfl, rfl⟩))
        | (go_at_call 14; ((with_reducible refine (attrs_1 H A n cap l (ha.on H.wider) hn hl).mono ?_); clear H; rintro e w1 ⟨B, c2, rfl, H⟩))
        | (go_at_call 15; ((with_reducible refine (tenc_a B n c2 l _ H.ats hn hl ht hbl hv hT1 hr1).mono ?_); rintro e w1 ⟨rfl, g⟩; replace H := H.quiet g; clear g))
        | (go_at_call 14; ((with_reducible refine (attrs_1 H A2 n2 cap2 l2 (ha2.on H.wider) hn2 hl2).mono ?_); clear H; rintro e w1 ⟨B2, c3, rfl, H⟩))
        | (go_at_call 15; ((with_reducible refine (tenc_a B2 n2 c3 l2 _ H.ats hn2 hl2 ht2 hbl2 hv2 hT2 hr2).mono ?_); rintro e w1 ⟨rfl, g⟩; replace H := H.quiet g; clear g)))
      replace H := H.drop.drop
      go_upto_region 7 with (first
        | (at_builtin; refine wpList_append_lone rfl (.tmp 54) (.tmp 55) 22 rfl 58 ia (.agg #[.int .u8 0, .string ⟨#[]⟩]) 2 24 Try.underlying22 hia ha0 ha1 ha2' rfl (by decide) _ _ _ rfl (H.empty 58 2) A n cap (cellsA l) rfl hP1.out hP0.out (hP2.out _ (H.empty 58 2).wider) (cellsA_one l) hP3.out hP4.out hP5.out (List.nil_append _) ?_; clear H; intro B3 c4 w1 H)
        | (at_builtin; refine wpList_append_lone rfl (.tmp 56) (.tmp 57) 22 rfl 58 ia (.agg #[.int .u8 0, .string ⟨#[]⟩]) 2 24 Try.underlying22 hia ha0 ha1 ha2' rfl (by decide) _ _ _ rfl H A2 n2 cap2 (cellsA l2) rfl hQ1.out hQ0.out (hQ2.out _ H.wider) (cellsA_one l2) hQ3.out hQ4.out hQ5.out hQ6.out ?_; clear H; intro B4 c5 w1 H)
        | (go_at_call 14; ((with_reducible refine (attrs_1 H B4 N c5 (l ++ l2) H.ats hN hlN).mono ?_); clear H; rintro e w1 ⟨B5, c6, rfl, H⟩))
        | (go_at_call 15; ((with_reducible refine (tenc_a B5 N c6 (l ++ l2) _ H.ats hN hlN htN hbN hvN hT3 hr3).mono ?_); rintro e w1 ⟨rfl, g⟩; replace H := H.quiet g; clear g)))
      obtain ⟨xt, xv⟩ := x
      obtain ⟨yt, yv⟩ := y
      simp only at lt
      cases A with
      | none => exact absurd (hP0.out rfl) (by omega)
      | some a =>
        cases A2 with
        | none => exact absurd (hQ0.out rfl) (by omega)
        | some b =>
          obtain ⟨k0, _⟩ := (ha.on H.wider).cell a rfl _ _ hx
          obtain ⟨k1, _⟩ := (ha2.on H.wider).cell b rfl _ _ hy
          simp only at k0 k1
          have k2 := k1
          rw [show b.add (0 * 2) = b by unfold Addr.add; simp] at k2
          have i0 : (0 : Int) ≤ (n : Int) - 1 := by omega
          have i1 : (n : Int) - 1 < (n : Int) := by omega
          have i2 : ((n : Int) - 1).toNat = n - 1 := by omega
          have i3 : (0 : Int) < (n2 : Int) := by omega
          have i4 : IntKind.i64.wrap ((n : Int) - 1) = (n : Int) - 1 := by simp [IntKind.wrap, IntKind.bits, IntKind.signed]; omega
          have l1 : decide ((xt : Int) < (yt : Int)) = true := decide_eq_true (by omega)
          have l2' : decide (xt < yt) = true := decide_eq_true (by omega)
          clear hx hy lt
          go_quiet (fail)
          replace H : Own _ _ _ := H.quiet ((Wider.refl _).drewN nq)
          go_upto_region 12 with (first
            | (go_at_call 26; ((with_reducible refine (tlist_a A3 n3 cap3 l3 _ (ha3.on H.wider) hn3 hl3 hbl3 hU1 hq1).mono ?_); rintro e w1 ⟨rfl, g⟩; replace H := H.quiet g; clear g))
            | (go_at_call 26; ((with_reducible refine (tlist_a A4 n4 cap4 l4 _ (ha4.on H.wider) hn4 hl4 hbl4 hU2 hq2).mono ?_); rintro e w1 ⟨rfl, g⟩; replace H := H.quiet g; clear g)))
          replace H := H.drop.drop
          go_wp2_with (first
            | (at_builtin; refine wpList_append_lone rfl (.tmp 124) (.tmp 125) 45 rfl 9 is (.string ⟨#[]⟩) 1 16 Try.underlying45 his hs0 hs1 hs2 rfl (by decide) _ _ _ rfl (H.empty 9 1) A3 n3 cap3 (cellsS l3) rfl hR1.out hR0.out (hR2.out _ (H.empty 9 1).wider) (cellsS_one l3) hR3.out hR4.out hR5.out (List.nil_append _) ?_; clear H; intro B6 c7 w1 H)
            | (at_builtin; refine wpList_append_lone rfl (.tmp 126) (.tmp 127) 45 rfl 9 is (.string ⟨#[]⟩) 1 16 Try.underlying45 his hs0 hs1 hs2 rfl (by decide) _ _ _ rfl H A4 n4 cap4 (cellsS l4) rfl hS1.out hS0.out (hS2.out _ H.wider) (cellsS_one l4) hS3.out hS4.out hS5.out hS6.out ?_; clear H; intro B7 c8 w1 H)
            | (go_at_call 26; ((with_reducible refine (tlist_a B7 M c8 (l3 ++ l4) _ H.strs hM hlM hbM hU3 hq3).mono ?_); rintro e w1 ⟨rfl, g⟩; replace H := H.quiet g; clear g)))
          go_ret
          exact ⟨rfl, H.wider⟩
    · as_aux_lemma =>
      clear QQ AA
      go_enter Try.func10, Try.ntmps10
      go_upto_region 5 with (first
        | (go_at_call 13; ((with_reducible refine (awake6_c _).mono ?_); rintro e wa ⟨rfl, g⟩; replace H := H.quiet g; clear g))
        | (go_at_call 12; ((with_reducible refine (long_c A n cap l _ (ha.on H.wider) hn (by omega) hz1 hb1).mono ?_); rintro e w9 ⟨rfl, rfl⟩))
        | (go_at_call 12; ((with_reducible refine (long_c A2 n2 cap2 l2 _ (ha2.on H.wider) hn2 (by omega) hz2 hb2).mono ?_); rintro e w9 ⟨rfl, rfl⟩))
        | (go_at_call 25; ((with_reducible refine (large_c A3 n3 cap3 l3 _ (ha3.on H.wider) hn3 (by omega) hz3 hb3).mono ?_); rintro e w9 ⟨rfl, rfl⟩))
        | (go_at_call 25; ((with_reducible refine (large_c A4 n4 cap4 l4 _ (ha4.on H.wider) hn4 (by omega) hz4 hb4).mono ?_); rintro e w9 ⟨rfl, rfl⟩))
        | (go_at_call 14; ((with_reducible refine (attrs_1 H A n cap l (ha.on H.wider) hn hl).mono ?_); clear H; rintro e w1 ⟨B, c2, rfl, H⟩))
        | (go_at_call 15; ((with_reducible refine (tenc_a B n c2 l _ H.ats hn hl ht hbl hv hT1 hr1).mono ?_); rintro e w1 ⟨rfl, g⟩; replace H := H.quiet g; clear g))
        | (go_at_call 14; ((with_reducible refine (attrs_1 H A2 n2 cap2 l2 (ha2.on H.wider) hn2 hl2).mono ?_); clear H; rintro e w1 ⟨B2, c3, rfl, H⟩))
        | (go_at_call 15; ((with_reducible refine (tenc_a B2 n2 c3 l2 _ H.ats hn2 hl2 ht2 hbl2 hv2 hT2 hr2).mono ?_); rintro e w1 ⟨rfl, g⟩; replace H := H.quiet g; clear g)))
      replace H := H.drop.drop
      go_upto_region 7 with (first
        | (at_builtin; refine wpList_append_lone rfl (.tmp 54) (.tmp 55) 22 rfl 58 ia (.agg #[.int .u8 0, .string ⟨#[]⟩]) 2 24 Try.underlying22 hia ha0 ha1 ha2' rfl (by decide) _ _ _ rfl (H.empty 58 2) A n cap (cellsA l) rfl hP1.out hP0.out (hP2.out _ (H.empty 58 2).wider) (cellsA_one l) hP3.out hP4.out hP5.out (List.nil_append _) ?_; clear H; intro B3 c4 w1 H)
        | (at_builtin; refine wpList_append_lone rfl (.tmp 56) (.tmp 57) 22 rfl 58 ia (.agg #[.int .u8 0, .string ⟨#[]⟩]) 2 24 Try.underlying22 hia ha0 ha1 ha2' rfl (by decide) _ _ _ rfl H A2 n2 cap2 (cellsA l2) rfl hQ1.out hQ0.out (hQ2.out _ H.wider) (cellsA_one l2) hQ3.out hQ4.out hQ5.out hQ6.out ?_; clear H; intro B4 c5 w1 H)
        | (go_at_call 14; ((with_reducible refine (attrs_1 H B4 N c5 (l ++ l2) H.ats hN hlN).mono ?_); clear H; rintro e w1 ⟨B5, c6, rfl, H⟩))
        | (go_at_call 15; ((with_reducible refine (tenc_a B5 N c6 (l ++ l2) _ H.ats hN hlN htN hbN hvN hT3 hr3).mono ?_); rintro e w1 ⟨rfl, g⟩; replace H := H.quiet g; clear g)))
      obtain ⟨xt, xv⟩ := x
      obtain ⟨yt, yv⟩ := y
      simp only at lt
      cases A with
      | none => exact absurd (hP0.out rfl) (by omega)
      | some a =>
        cases A2 with
        | none => exact absurd (hQ0.out rfl) (by omega)
        | some b =>
          obtain ⟨k0, _⟩ := (ha.on H.wider).cell a rfl _ _ hx
          obtain ⟨k1, _⟩ := (ha2.on H.wider).cell b rfl _ _ hy
          simp only at k0 k1
          have k2 := k1
          rw [show b.add (0 * 2) = b by unfold Addr.add; simp] at k2
          have i0 : (0 : Int) ≤ (n : Int) - 1 := by omega
          have i1 : (n : Int) - 1 < (n : Int) := by omega
          have i2 : ((n : Int) - 1).toNat = n - 1 := by omega
          have i3 : (0 : Int) < (n2 : Int) := by omega
          have i4 : IntKind.i64.wrap ((n : Int) - 1) = (n : Int) - 1 := by simp [IntKind.wrap, IntKind.bits, IntKind.signed]; omega
          have l1 : decide ((xt : Int) < (yt : Int)) = false := decide_eq_false (by omega)
          have l2' : decide (xt < yt) = false := decide_eq_false (by omega)
          clear hx hy lt
          go_quiet (fail)
          replace H : Own _ _ _ := H.quiet ((Wider.refl _).drewN nq)
          go_upto_region 12 with (first
            | (go_at_call 26; ((with_reducible refine (tlist_a A3 n3 cap3 l3 _ (ha3.on H.wider) hn3 hl3 hbl3 hU1 hq1).mono ?_); rintro e w1 ⟨rfl, g⟩; replace H := H.quiet g; clear g))
            | (go_at_call 26; ((with_reducible refine (tlist_a A4 n4 cap4 l4 _ (ha4.on H.wider) hn4 hl4 hbl4 hU2 hq2).mono ?_); rintro e w1 ⟨rfl, g⟩; replace H := H.quiet g; clear g)))
          replace H := H.drop.drop
          go_wp2_with (first
            | (at_builtin; refine wpList_append_lone rfl (.tmp 124) (.tmp 125) 45 rfl 9 is (.string ⟨#[]⟩) 1 16 Try.underlying45 his hs0 hs1 hs2 rfl (by decide) _ _ _ rfl (H.empty 9 1) A3 n3 cap3 (cellsS l3) rfl hR1.out hR0.out (hR2.out _ (H.empty 9 1).wider) (cellsS_one l3) hR3.out hR4.out hR5.out (List.nil_append _) ?_; clear H; intro B6 c7 w1 H)
            | (at_builtin; refine wpList_append_lone rfl (.tmp 126) (.tmp 127) 45 rfl 9 is (.string ⟨#[]⟩) 1 16 Try.underlying45 his hs0 hs1 hs2 rfl (by decide) _ _ _ rfl H A4 n4 cap4 (cellsS l4) rfl hS1.out hS0.out (hS2.out _ H.wider) (cellsS_one l4) hS3.out hS4.out hS5.out hS6.out ?_; clear H; intro B7 c8 w1 H)
            | (go_at_call 26; ((with_reducible refine (tlist_a B7 M c8 (l3 ++ l4) _ H.strs hM hlM hbM hU3 hq3).mono ?_); rintro e w1 ⟨rfl, g⟩; replace H := H.quiet g; clear g)))
          go_ret
          exact ⟨rfl, H.wider⟩
    · as_aux_lemma =>
      clear QQ AA
      go_enter Try.func10, Try.ntmps10
      go_upto_region 5 with (first
        | (go_at_call 13; ((with_reducible refine (awake6_c _).mono ?_); rintro e wa ⟨rfl, g⟩; replace H := H.quiet g; clear g))
        | (go_at_call 12; ((with_reducible refine (long_c A n cap l _ (ha.on H.wider) hn (by omega) hz1 hb1).mono ?_); rintro e w9 ⟨rfl, rfl⟩))
        | (go_at_call 12; ((with_reducible refine (long_c A2 n2 cap2 l2 _ (ha2.on H.wider) hn2 (by omega) hz2 hb2).mono ?_); rintro e w9 ⟨rfl, rfl⟩))
        | (go_at_call 25; ((with_reducible refine (large_c A3 n3 cap3 l3 _ (ha3.on H.wider) hn3 (by omega) hz3 hb3).mono ?_); rintro e w9 ⟨rfl, rfl⟩))
        | (go_at_call 25; ((with_reducible refine (large_c A4 n4 cap4 l4 _ (ha4.on H.wider) hn4 (by omega) hz4 hb4).mono ?_); rintro e w9 ⟨rfl, rfl⟩))
        | (go_at_call 14; ((with_reducible refine (attrs_1 H A n cap l (ha.on H.wider) hn hl).mono ?_); clear H; rintro e w1 ⟨B, c2, rfl, H⟩))
        | (go_at_call 15; ((with_reducible refine (tenc_a B n c2 l _ H.ats hn hl ht hbl hv hT1 hr1).mono ?_); rintro e w1 ⟨rfl, g⟩; replace H := H.quiet g; clear g))
        | (go_at_call 14; ((with_reducible refine (attrs_1 H A2 n2 cap2 l2 (ha2.on H.wider) hn2 hl2).mono ?_); clear H; rintro e w1 ⟨B2, c3, rfl, H⟩))
        | (go_at_call 15; ((with_reducible refine (tenc_a B2 n2 c3 l2 _ H.ats hn2 hl2 ht2 hbl2 hv2 hT2 hr2).mono ?_); rintro e w1 ⟨rfl, g⟩; replace H := H.quiet g; clear g)))
      replace H := H.drop.drop
      go_upto_region 12 with (first
        | (at_builtin; refine wpList_append_lone rfl (.tmp 54) (.tmp 55) 22 rfl 58 ia (.agg #[.int .u8 0, .string ⟨#[]⟩]) 2 24 Try.underlying22 hia ha0 ha1 ha2' rfl (by decide) _ _ _ rfl (H.empty 58 2) A n cap (cellsA l) rfl hP1.out hP0.out (hP2.out _ (H.empty 58 2).wider) (cellsA_one l) hP3.out hP4.out hP5.out (List.nil_append _) ?_; clear H; intro B3 c4 w1 H)
        | (at_builtin; refine wpList_append_lone rfl (.tmp 56) (.tmp 57) 22 rfl 58 ia (.agg #[.int .u8 0, .string ⟨#[]⟩]) 2 24 Try.underlying22 hia ha0 ha1 ha2' rfl (by decide) _ _ _ rfl H A2 n2 cap2 (cellsA l2) rfl hQ1.out hQ0.out (hQ2.out _ H.wider) (cellsA_one l2) hQ3.out hQ4.out hQ5.out hQ6.out ?_; clear H; intro B4 c5 w1 H)
        | (go_at_call 14; ((with_reducible refine (attrs_1 H B4 N c5 (l ++ l2) H.ats hN hlN).mono ?_); clear H; rintro e w1 ⟨B5, c6, rfl, H⟩))
        | (go_at_call 15; ((with_reducible refine (tenc_a B5 N c6 (l ++ l2) _ H.ats hN hlN htN hbN hvN hT3 hr3).mono ?_); rintro e w1 ⟨rfl, g⟩; replace H := H.quiet g; clear g))
        | (go_at_call 26; ((with_reducible refine (tlist_a A3 n3 cap3 l3 _ (ha3.on H.wider) hn3 hl3 hbl3 hU1 hq1).mono ?_); rintro e w1 ⟨rfl, g⟩; replace H := H.quiet g; clear g))
        | (go_at_call 26; ((with_reducible refine (tlist_a A4 n4 cap4 l4 _ (ha4.on H.wider) hn4 hl4 hbl4 hU2 hq2).mono ?_); rintro e w1 ⟨rfl, g⟩; replace H := H.quiet g; clear g)))
      replace H := H.drop.drop
      go_wp2_with (first
        | (at_builtin; refine wpList_append_lone rfl (.tmp 124) (.tmp 125) 45 rfl 9 is (.string ⟨#[]⟩) 1 16 Try.underlying45 his hs0 hs1 hs2 rfl (by decide) _ _ _ rfl (H.empty 9 1) A3 n3 cap3 (cellsS l3) rfl hR1.out hR0.out (hR2.out _ (H.empty 9 1).wider) (cellsS_one l3) hR3.out hR4.out hR5.out (List.nil_append _) ?_; clear H; intro B6 c7 w1 H)
        | (at_builtin; refine wpList_append_lone rfl (.tmp 126) (.tmp 127) 45 rfl 9 is (.string ⟨#[]⟩) 1 16 Try.underlying45 his hs0 hs1 hs2 rfl (by decide) _ _ _ rfl H A4 n4 cap4 (cellsS l4) rfl hS1.out hS0.out (hS2.out _ H.wider) (cellsS_one l4) hS3.out hS4.out hS5.out hS6.out ?_; clear H; intro B7 c8 w1 H)
        | (go_at_call 26; ((with_reducible refine (tlist_a B7 M c8 (l3 ++ l4) _ H.strs hM hlM hbM hU3 hq3).mono ?_); rintro e w1 ⟨rfl, g⟩; replace H := H.quiet g; clear g)))
      go_ret
      exact ⟨rfl, H.wider⟩
    · as_aux_lemma =>
      clear QQ AA
      go_enter Try.func10, Try.ntmps10
      go_upto_region 5 with (first
        | (go_at_call 13; ((with_reducible refine (awake6_c _).mono ?_); rintro e wa ⟨rfl, g⟩; replace H := H.quiet g; clear g))
        | (go_at_call 12; ((with_reducible refine (long_c A n cap l _ (ha.on H.wider) hn (by omega) hz1 hb1).mono ?_); rintro e w9 ⟨rfl, rfl⟩))
        | (go_at_call 12; ((with_reducible refine (long_c A2 n2 cap2 l2 _ (ha2.on H.wider) hn2 (by omega) hz2 hb2).mono ?_); rintro e w9 ⟨rfl, rfl⟩))
        | (go_at_call 25; ((with_reducible refine (large_c A3 n3 cap3 l3 _ (ha3.on H.wider) hn3 (by omega) hz3 hb3).mono ?_); rintro e w9 ⟨rfl, rfl⟩))
        | (go_at_call 25; ((with_reducible refine (large_c A4 n4 cap4 l4 _ (ha4.on H.wider) hn4 (by omega) hz4 hb4).mono ?_); rintro e w9 ⟨rfl, rfl⟩))
        | (go_at_call 14; ((with_reducible refine (attrs_1 H A n cap l (ha.on H.wider) hn hl).mono ?_); clear H; rintro e w1 ⟨B, c2, rfl, H⟩))
        | (go_at_call 15; ((with_reducible refine (tenc_a B n c2 l _ H.ats hn hl ht hbl hv hT1 hr1).mono ?_); rintro e w1 ⟨rfl, g⟩; replace H := H.quiet g; clear g))
        | (go_at_call 14; ((with_reducible refine (attrs_1 H A2 n2 cap2 l2 (ha2.on H.wider) hn2 hl2).mono ?_); clear H; rintro e w1 ⟨B2, c3, rfl, H⟩))
        | (go_at_call 15; ((with_reducible refine (tenc_a B2 n2 c3 l2 _ H.ats hn2 hl2 ht2 hbl2 hv2 hT2 hr2).mono ?_); rintro e w1 ⟨rfl, g⟩; replace H := H.quiet g; clear g)))
      replace H := H.drop.drop
      go_upto_region 12 with (first
        | (at_builtin; refine wpList_append_lone rfl (.tmp 54) (.tmp 55) 22 rfl 58 ia (.agg #[.int .u8 0, .string ⟨#[]⟩]) 2 24 Try.underlying22 hia ha0 ha1 ha2' rfl (by decide) _ _ _ rfl (H.empty 58 2) A n cap (cellsA l) rfl hP1.out hP0.out (hP2.out _ (H.empty 58 2).wider) (cellsA_one l) hP3.out hP4.out hP5.out (List.nil_append _) ?_; clear H; intro B3 c4 w1 H)
        | (at_builtin; refine wpList_append_lone rfl (.tmp 56) (.tmp 57) 22 rfl 58 ia (.agg #[.int .u8 0, .string ⟨#[]⟩]) 2 24 Try.underlying22 hia ha0 ha1 ha2' rfl (by decide) _ _ _ rfl H A2 n2 cap2 (cellsA l2) rfl hQ1.out hQ0.out (hQ2.out _ H.wider) (cellsA_one l2) hQ3.out hQ4.out hQ5.out hQ6.out ?_; clear H; intro B4 c5 w1 H)
        | (go_at_call 14; ((with_reducible refine (attrs_1 H B4 N c5 (l ++ l2) H.ats hN hlN).mono ?_); clear H; rintro e w1 ⟨B5, c6, rfl, H⟩))
        | (go_at_call 15; ((with_reducible refine (tenc_a B5 N c6 (l ++ l2) _ H.ats hN hlN htN hbN hvN hT3 hr3).mono ?_); rintro e w1 ⟨rfl, g⟩; replace H := H.quiet g; clear g))
        | (go_at_call 26; ((with_reducible refine (tlist_a A3 n3 cap3 l3 _ (ha3.on H.wider) hn3 hl3 hbl3 hU1 hq1).mono ?_); rintro e w1 ⟨rfl, g⟩; replace H := H.quiet g; clear g))
        | (go_at_call 26; ((with_reducible refine (tlist_a A4 n4 cap4 l4 _ (ha4.on H.wider) hn4 hl4 hbl4 hU2 hq2).mono ?_); rintro e w1 ⟨rfl, g⟩; replace H := H.quiet g; clear g)))
      replace H := H.drop.drop
      go_wp2_with (first
        | (at_builtin; refine wpList_append_lone rfl (.tmp 124) (.tmp 125) 45 rfl 9 is (.string ⟨#[]⟩) 1 16 Try.underlying45 his hs0 hs1 hs2 rfl (by decide) _ _ _ rfl (H.empty 9 1) A3 n3 cap3 (cellsS l3) rfl hR1.out hR0.out (hR2.out _ (H.empty 9 1).wider) (cellsS_one l3) hR3.out hR4.out hR5.out (List.nil_append _) ?_; clear H; intro B6 c7 w1 H)
        | (at_builtin; refine wpList_append_lone rfl (.tmp 126) (.tmp 127) 45 rfl 9 is (.string ⟨#[]⟩) 1 16 Try.underlying45 his hs0 hs1 hs2 rfl (by decide) _ _ _ rfl H A4 n4 cap4 (cellsS l4) rfl hS1.out hS0.out (hS2.out _ H.wider) (cellsS_one l4) hS3.out hS4.out hS5.out hS6.out ?_; clear H; intro B7 c8 w1 H)
        | (go_at_call 26; ((with_reducible refine (tlist_a B7 M c8 (l3 ++ l4) _ H.strs hM hlM hbM hU3 hq3).mono ?_); rintro e w1 ⟨rfl, g⟩; replace H := H.quiet g; clear g)))
      go_ret
      exact ⟨rfl, H.wider⟩
    · as_aux_lemma =>
      clear QQ AA
      have e1 : ((n : Int) == 0) = true := by rw [beq_iff_eq]; omega
      clear e0
      go_enter Try.func10, Try.ntmps10
      go_upto_region 5 with (first
        | (go_at_call 13; ((with_reducible refine (awake6_c _).mono ?_); rintro e wa ⟨rfl, g⟩; replace H := H.quiet g; clear g))
        | (go_at_call 12; ((with_reducible refine (long_c A n cap l _ (ha.on H.wider) hn (by omega) hz1 hb1).mono ?_); rintro e w9 ⟨rfl, rfl⟩))
        | (go_at_call 12; ((with_reducible refine (long_c A2 n2 cap2 l2 _ (ha2.on H.wider) hn2 (by omega) hz2 hb2).mono ?_); rintro e w9 ⟨rfl, rfl⟩))
        | (go_at_call 25; ((with_reducible refine (large_c A3 n3 cap3 l3 _ (ha3.on H.wider) hn3 (by omega) hz3 hb3).mono ?_); rintro e w9 ⟨rfl, rfl⟩))
        | (go_at_call 25; ((with_reducible refine (large_c A4 n4 cap4 l4 _ (ha4.on H.wider) hn4 (by omega) hz4 hb4).mono ?_); rintro e w9 ⟨rfl, rfl⟩))
        | (go_at_call 14; ((with_reducible refine (attrs_1 H A n cap l (ha.on H.wider) hn hl).mono ?_); clear H; rintro e w1 ⟨B, c2, rfl, H⟩))
        | (go_at_call 15; ((with_reducible refine (tenc_a B n c2 l _ H.ats hn hl ht hbl hv hT1 hr1).mono ?_); rintro e w1 ⟨rfl, g⟩; replace H := H.quiet g; clear g))
        | (go_at_call 14; ((with_reducible refine (attrs_1 H A2 n2 cap2 l2 (ha2.on H.wider) hn2 hl2).mono ?_); clear H; rintro e w1 ⟨B2, c3, rfl, H⟩))
        | (go_at_call 15; ((with_reducible refine (tenc_a B2 n2 c3 l2 _ H.ats hn2 hl2 ht2 hbl2 hv2 hT2 hr2).mono ?_); rintro e w1 ⟨rfl, g⟩; replace H := H.quiet g; clear g)))
      replace H := H.drop.drop
      go_upto_region 7 with (first
        | (at_builtin; refine wpList_append_lone rfl (.tmp 54) (.tmp 55) 22 rfl 58 ia (.agg #[.int .u8 0, .string ⟨#[]⟩]) 2 24 Try.underlying22 hia ha0 ha1 ha2' rfl (by decide) _ _ _ rfl (H.empty 58 2) A n cap (cellsA l) rfl hP1.out hP0.out (hP2.out _ (H.empty 58 2).wider) (cellsA_one l) hP3.out hP4.out hP5.out (List.nil_append _) ?_; clear H; intro B3 c4 w1 H)
        | (at_builtin; refine wpList_append_lone rfl (.tmp 56) (.tmp 57) 22 rfl 58 ia (.agg #[.int .u8 0, .string ⟨#[]⟩]) 2 24 Try.underlying22 hia ha0 ha1 ha2' rfl (by decide) _ _ _ rfl H A2 n2 cap2 (cellsA l2) rfl hQ1.out hQ0.out (hQ2.out _ H.wider) (cellsA_one l2) hQ3.out hQ4.out hQ5.out hQ6.out ?_; clear H; intro B4 c5 w1 H)
        | (go_at_call 14; ((with_reducible refine (attrs_1 H B4 N c5 (l ++ l2) H.ats hN hlN).mono ?_); clear H; rintro e w1 ⟨B5, c6, rfl, H⟩))
        | (go_at_call 15; ((with_reducible refine (tenc_a B5 N c6 (l ++ l2) _ H.ats hN hlN htN hbN hvN hT3 hr3).mono ?_); rintro e w1 ⟨rfl, g⟩; replace H := H.quiet g; clear g)))
      go_quiet (fail)
      replace H : Own _ _ _ := H.quiet ((Wider.refl _).drewN nq)
      go_upto_region 12 with (first
        | (go_at_call 26; ((with_reducible refine (tlist_a A3 n3 cap3 l3 _ (ha3.on H.wider) hn3 hl3 hbl3 hU1 hq1).mono ?_); rintro e w1 ⟨rfl, g⟩; replace H := H.quiet g; clear g))
        | (go_at_call 26; ((with_reducible refine (tlist_a A4 n4 cap4 l4 _ (ha4.on H.wider) hn4 hl4 hbl4 hU2 hq2).mono ?_); rintro e w1 ⟨rfl, g⟩; replace H := H.quiet g; clear g)))
      replace H := H.drop.drop
      go_wp2_with (first
        | (at_builtin; refine wpList_append_lone rfl (.tmp 124) (.tmp 125) 45 rfl 9 is (.string ⟨#[]⟩) 1 16 Try.underlying45 his hs0 hs1 hs2 rfl (by decide) _ _ _ rfl (H.empty 9 1) A3 n3 cap3 (cellsS l3) rfl hR1.out hR0.out (hR2.out _ (H.empty 9 1).wider) (cellsS_one l3) hR3.out hR4.out hR5.out (List.nil_append _) ?_; clear H; intro B6 c7 w1 H)
        | (at_builtin; refine wpList_append_lone rfl (.tmp 126) (.tmp 127) 45 rfl 9 is (.string ⟨#[]⟩) 1 16 Try.underlying45 his hs0 hs1 hs2 rfl (by decide) _ _ _ rfl H A4 n4 cap4 (cellsS l4) rfl hS1.out hS0.out (hS2.out _ H.wider) (cellsS_one l4) hS3.out hS4.out hS5.out hS6.out ?_; clear H; intro B7 c8 w1 H)
        | (go_at_call 26; ((with_reducible refine (tlist_a B7 M c8 (l3 ++ l4) _ H.strs hM hlM hbM hU3 hq3).mono ?_); rintro e w1 ⟨rfl, g⟩; replace H := H.quiet g; clear g)))
      go_ret
      exact ⟨rfl, H.wider⟩
    · as_aux_lemma =>
      clear QQ AA
      have e1 : ((n2 : Int) == 0) = true := by rw [beq_iff_eq]; omega
      clear e0
      go_enter Try.func10, Try.ntmps10
      go_upto_region 5 with (first
        | (go_at_call 13; ((with_reducible refine (awake6_c _).mono ?_); rintro e wa ⟨rfl, g⟩; replace H := H.quiet g; clear g))
        | (go_at_call 12; ((with_reducible refine (long_c A n cap l _ (ha.on H.wider) hn (by omega) hz1 hb1).mono ?_); rintro e w9 ⟨rfl, rfl⟩))
        | (go_at_call 12; ((with_reducible refine (long_c A2 n2 cap2 l2 _ (ha2.on H.wider) hn2 (by omega) hz2 hb2).mono ?_); rintro e w9 ⟨rfl, rfl⟩))
        | (go_at_call 25; ((with_reducible refine (large_c A3 n3 cap3 l3 _ (ha3.on H.wider) hn3 (by omega) hz3 hb3).mono ?_); rintro e w9 ⟨rfl, rfl⟩))
        | (go_at_call 25; ((with_reducible refine (large_c A4 n4 cap4 l4 _ (ha4.on H.wider) hn4 (by omega) hz4 hb4).mono ?_); rintro e w9 ⟨rfl, rfl⟩))
        | (go_at_call 14; ((with_reducible refine (attrs_1 H A n cap l (ha.on H.wider) hn hl).mono ?_); clear H; rintro e w1 ⟨B, c2, rfl, H⟩))
        | (go_at_call 15; ((with_reducible refine (tenc_a B n c2 l _ H.ats hn hl ht hbl hv hT1 hr1).mono ?_); rintro e w1 ⟨rfl, g⟩; replace H := H.quiet g; clear g))
        | (go_at_call 14; ((with_reducible refine (attrs_1 H A2 n2 cap2 l2 (ha2.on H.wider) hn2 hl2).mono ?_); clear H; rintro e w1 ⟨B2, c3, rfl, H⟩))
        | (go_at_call 15; ((with_reducible refine (tenc_a B2 n2 c3 l2 _ H.ats hn2 hl2 ht2 hbl2 hv2 hT2 hr2).mono ?_); rintro e w1 ⟨rfl, g⟩; replace H := H.quiet g; clear g)))
      replace H := H.drop.drop
      go_upto_region 7 with (first
        | (at_builtin; refine wpList_append_lone rfl (.tmp 54) (.tmp 55) 22 rfl 58 ia (.agg #[.int .u8 0, .string ⟨#[]⟩]) 2 24 Try.underlying22 hia ha0 ha1 ha2' rfl (by decide) _ _ _ rfl (H.empty 58 2) A n cap (cellsA l) rfl hP1.out hP0.out (hP2.out _ (H.empty 58 2).wider) (cellsA_one l) hP3.out hP4.out hP5.out (List.nil_append _) ?_; clear H; intro B3 c4 w1 H)
        | (at_builtin; refine wpList_append_lone rfl (.tmp 56) (.tmp 57) 22 rfl 58 ia (.agg #[.int .u8 0, .string ⟨#[]⟩]) 2 24 Try.underlying22 hia ha0 ha1 ha2' rfl (by decide) _ _ _ rfl H A2 n2 cap2 (cellsA l2) rfl hQ1.out hQ0.out (hQ2.out _ H.wider) (cellsA_one l2) hQ3.out hQ4.out hQ5.out hQ6.out ?_; clear H; intro B4 c5 w1 H)
        | (go_at_call 14; ((with_reducible refine (attrs_1 H B4 N c5 (l ++ l2) H.ats hN hlN).mono ?_); clear H; rintro e w1 ⟨B5, c6, rfl, H⟩))
        | (go_at_call 15; ((with_reducible refine (tenc_a B5 N c6 (l ++ l2) _ H.ats hN hlN htN hbN hvN hT3 hr3).mono ?_); rintro e w1 ⟨rfl, g⟩; replace H := H.quiet g; clear g)))
      go_quiet (fail)
      replace H : Own _ _ _ := H.quiet ((Wider.refl _).drewN nq)
      go_upto_region 12 with (first
        | (go_at_call 26; ((with_reducible refine (tlist_a A3 n3 cap3 l3 _ (ha3.on H.wider) hn3 hl3 hbl3 hU1 hq1).mono ?_); rintro e w1 ⟨rfl, g⟩; replace H := H.quiet g; clear g))
        | (go_at_call 26; ((with_reducible refine (tlist_a A4 n4 cap4 l4 _ (ha4.on H.wider) hn4 hl4 hbl4 hU2 hq2).mono ?_); rintro e w1 ⟨rfl, g⟩; replace H := H.quiet g; clear g)))
      replace H := H.drop.drop
      go_wp2_with (first
        | (at_builtin; refine wpList_append_lone rfl (.tmp 124) (.tmp 125) 45 rfl 9 is (.string ⟨#[]⟩) 1 16 Try.underlying45 his hs0 hs1 hs2 rfl (by decide) _ _ _ rfl (H.empty 9 1) A3 n3 cap3 (cellsS l3) rfl hR1.out hR0.out (hR2.out _ (H.empty 9 1).wider) (cellsS_one l3) hR3.out hR4.out hR5.out (List.nil_append _) ?_; clear H; intro B6 c7 w1 H)
        | (at_builtin; refine wpList_append_lone rfl (.tmp 126) (.tmp 127) 45 rfl 9 is (.string ⟨#[]⟩) 1 16 Try.underlying45 his hs0 hs1 hs2 rfl (by decide) _ _ _ rfl H A4 n4 cap4 (cellsS l4) rfl hS1.out hS0.out (hS2.out _ H.wider) (cellsS_one l4) hS3.out hS4.out hS5.out hS6.out ?_; clear H; intro B7 c8 w1 H)
        | (go_at_call 26; ((with_reducible refine (tlist_a B7 M c8 (l3 ++ l4) _ H.strs hM hlM hbM hU3 hq3).mono ?_); rintro e w1 ⟨rfl, g⟩; replace H := H.quiet g; clear g)))
      go_ret
      exact ⟨rfl, H.wider⟩
    · as_aux_lemma =>
      clear QQ AA
      go_enter Try.func10, Try.ntmps10
      go_upto_region 5 with (first
        | (go_at_call 13; ((with_reducible refine (awake6_c _).mono ?_); rintro e wa ⟨rfl, g⟩; replace H := H.quiet g; clear g))
        | (go_at_call 12; ((with_reducible refine (long_c A n cap l _ (ha.on H.wider) hn (by omega) hz1 hb1).mono ?_); rintro e w9 ⟨rfl, rfl⟩))
        | (go_at_call 12; ((with_reducible refine (long_c A2 n2 cap2 l2 _ (ha2.on H.wider) hn2 (by omega) hz2 hb2).mono ?_); rintro e w9 ⟨rfl, rfl⟩))
        | (go_at_call 25; ((with_reducible refine (large_c A3 n3 cap3 l3 _ (ha3.on H.wider) hn3 (by omega) hz3 hb3).mono ?_); rintro e w9 ⟨rfl, rfl⟩))
        | (go_at_call 25; ((with_reducible refine (large_c A4 n4 cap4 l4 _ (ha4.on H.wider) hn4 (by omega) hz4 hb4).mono ?_); rintro e w9 ⟨rfl, rfl⟩))
        | (go_at_call 14; ((with_reducible refine (attrs_1 H A n cap l (ha.on H.wider) hn hl).mono ?_); clear H; rintro e w1 ⟨B, c2, rfl, H⟩))
        | (go_at_call 15; ((with_reducible refine (tenc_a B n c2 l _ H.ats hn hl ht hbl hv hT1 hr1).mono ?_); rintro e w1 ⟨rfl, g⟩; replace H := H.quiet g; clear g))
        | (go_at_call 14; ((with_reducible refine (attrs_1 H A2 n2 cap2 l2 (ha2.on H.wider) hn2 hl2).mono ?_); clear H; rintro e w1 ⟨B2, c3, rfl, H⟩))
        | (go_at_call 15; ((with_reducible refine (tenc_a B2 n2 c3 l2 _ H.ats hn2 hl2 ht2 hbl2 hv2 hT2 hr2).mono ?_); rintro e w1 ⟨rfl, g⟩; replace H := H.quiet g; clear g)))
      replace H := H.drop.drop
      go_upto_region 7 with (first
        | (at_builtin; refine wpList_append_lone rfl (.tmp 54) (.tmp 55) 22 rfl 58 ia (.agg #[.int .u8 0, .string ⟨#[]⟩]) 2 24 Try.underlying22 hia ha0 ha1 ha2' rfl (by decide) _ _ _ rfl (H.empty 58 2) A n cap (cellsA l) rfl hP1.out hP0.out (hP2.out _ (H.empty 58 2).wider) (cellsA_one l) hP3.out hP4.out hP5.out (List.nil_append _) ?_; clear H; intro B3 c4 w1 H)
        | (at_builtin; refine wpList_append_lone rfl (.tmp 56) (.tmp 57) 22 rfl 58 ia (.agg #[.int .u8 0, .string ⟨#[]⟩]) 2 24 Try.underlying22 hia ha0 ha1 ha2' rfl (by decide) _ _ _ rfl H A2 n2 cap2 (cellsA l2) rfl hQ1.out hQ0.out (hQ2.out _ H.wider) (cellsA_one l2) hQ3.out hQ4.out hQ5.out hQ6.out ?_; clear H; intro B4 c5 w1 H)
        | (go_at_call 14; ((with_reducible refine (attrs_1 H B4 N c5 (l ++ l2) H.ats hN hlN).mono ?_); clear H; rintro e w1 ⟨B5, c6, rfl, H⟩))
        | (go_at_call 15; ((with_reducible refine (tenc_a B5 N c6 (l ++ l2) _ H.ats hN hlN htN hbN hvN hT3 hr3).mono ?_); rintro e w1 ⟨rfl, g⟩; replace H := H.quiet g; clear g)))
      obtain ⟨xt, xv⟩ := x
      obtain ⟨yt, yv⟩ := y
      simp only at lt
      cases A with
      | none => exact absurd (hP0.out rfl) (by omega)
      | some a =>
        cases A2 with
        | none => exact absurd (hQ0.out rfl) (by omega)
        | some b =>
          obtain ⟨k0, _⟩ := (ha.on H.wider).cell a rfl _ _ hx
          obtain ⟨k1, _⟩ := (ha2.on H.wider).cell b rfl _ _ hy
          simp only at k0 k1
          have k2 := k1
          rw [show b.add (0 * 2) = b by unfold Addr.add; simp] at k2
          have i0 : (0 : Int) ≤ (n : Int) - 1 := by omega
          have i1 : (n : Int) - 1 < (n : Int) := by omega
          have i2 : ((n : Int) - 1).toNat = n - 1 := by omega
          have i3 : (0 : Int) < (n2 : Int) := by omega
          have i4 : IntKind.i64.wrap ((n : Int) - 1) = (n : Int) - 1 := by simp [IntKind.wrap, IntKind.bits, IntKind.signed]; omega
          have l1 : decide ((xt : Int) < (yt : Int)) = true := decide_eq_true (by omega)
          have l2' : decide (xt < yt) = true := decide_eq_true (by omega)
          clear hx hy lt
          go_quiet (fail)
          replace H : Own _ _ _ := H.quiet ((Wider.refl _).drewN nq)
          go_upto_region 12 with (first
            | (go_at_call 26; ((with_reducible refine (tlist_a A3 n3 cap3 l3 _ (ha3.on H.wider) hn3 hl3 hbl3 hU1 hq1).mono ?_); rintro e w1 ⟨rfl, g⟩; replace H := H.quiet g; clear g))
            | (go_at_call 26; ((with_reducible refine (tlist_a A4 n4 cap4 l4 _ (ha4.on H.wider) hn4 hl4 hbl4 hU2 hq2).mono ?_); rintro e w1 ⟨rfl, g⟩; replace H := H.quiet g; clear g)))
          replace H := H.drop.drop
          go_wp2_with (first
            | (at_builtin; refine wpList_append_lone rfl (.tmp 124) (.tmp 125) 45 rfl 9 is (.string ⟨#[]⟩) 1 16 Try.underlying45 his hs0 hs1 hs2 rfl (by decide) _ _ _ rfl (H.empty 9 1) A3 n3 cap3 (cellsS l3) rfl hR1.out hR0.out (hR2.out _ (H.empty 9 1).wider) (cellsS_one l3) hR3.out hR4.out hR5.out (List.nil_append _) ?_; clear H; intro B6 c7 w1 H)
            | (at_builtin; refine wpList_append_lone rfl (.tmp 126) (.tmp 127) 45 rfl 9 is (.string ⟨#[]⟩) 1 16 Try.underlying45 his hs0 hs1 hs2 rfl (by decide) _ _ _ rfl H A4 n4 cap4 (cellsS l4) rfl hS1.out hS0.out (hS2.out _ H.wider) (cellsS_one l4) hS3.out hS4.out hS5.out hS6.out ?_; clear H; intro B7 c8 w1 H)
            | (go_at_call 26; ((with_reducible refine (tlist_a B7 M c8 (l3 ++ l4) _ H.strs hM hlM hbM hU3 hq3).mono ?_); rintro e w1 ⟨rfl, g⟩; replace H := H.quiet g; clear g)))
          go_ret
          exact ⟨rfl, H.wider⟩
    · as_aux_lemma =>
      clear QQ AA
      go_enter Try.func10, Try.ntmps10
      go_upto_region 5 with (first
        | (go_at_call 13; ((with_reducible refine (awake6_c _).mono ?_); rintro e wa ⟨rfl, g⟩; replace H := H.quiet g; clear g))
        | (go_at_call 12; ((with_reducible refine (long_c A n cap l _ (ha.on H.wider) hn (by omega) hz1 hb1).mono ?_); rintro e w9 ⟨rfl, rfl⟩))
        | (go_at_call 12; ((with_reducible refine (long_c A2 n2 cap2 l2 _ (ha2.on H.wider) hn2 (by omega) hz2 hb2).mono ?_); rintro e w9 ⟨rfl, rfl⟩))
        | (go_at_call 25; ((with_reducible refine (large_c A3 n3 cap3 l3 _ (ha3.on H.wider) hn3 (by omega) hz3 hb3).mono ?_); rintro e w9 ⟨rfl, rfl⟩))
        | (go_at_call 25; ((with_reducible refine (large_c A4 n4 cap4 l4 _ (ha4.on H.wider) hn4 (by omega) hz4 hb4).mono ?_); rintro e w9 ⟨rfl, rfl⟩))
        | (go_at_call 14; ((with_reducible refine (attrs_1 H A n cap l (ha.on H.wider) hn hl).mono ?_); clear H; rintro e w1 ⟨B, c2, rfl, H⟩))
        | (go_at_call 15; ((with_reducible refine (tenc_a B n c2 l _ H.ats hn hl ht hbl hv hT1 hr1).mono ?_); rintro e w1 ⟨rfl, g⟩; replace H := H.quiet g; clear g))
        | (go_at_call 14; ((with_reducible refine (attrs_1 H A2 n2 cap2 l2 (ha2.on H.wider) hn2 hl2).mono ?_); clear H; rintro e w1 ⟨B2, c3, rfl, H⟩))
        | (go_at_call 15; ((with_reducible refine (tenc_a B2 n2 c3 l2 _ H.ats hn2 hl2 ht2 hbl2 hv2 hT2 hr2).mono ?_); rintro e w1 ⟨rfl, g⟩; replace H := H.quiet g; clear g)))
      replace H := H.drop.drop
      go_upto_region 7 with (first
        | (at_builtin; refine wpList_append_lone rfl (.tmp 54) (.tmp 55) 22 rfl 58 ia (.agg #[.int .u8 0, .string ⟨#[]⟩]) 2 24 Try.underlying22 hia ha0 ha1 ha2' rfl (by decide) _ _ _ rfl (H.empty 58 2) A n cap (cellsA l) rfl hP1.out hP0.out (hP2.out _ (H.empty 58 2).wider) (cellsA_one l) hP3.out hP4.out hP5.out (List.nil_append _) ?_; clear H; intro B3 c4 w1 H)
        | (at_builtin; refine wpList_append_lone rfl (.tmp 56) (.tmp 57) 22 rfl 58 ia (.agg #[.int .u8 0, .string ⟨#[]⟩]) 2 24 Try.underlying22 hia ha0 ha1 ha2' rfl (by decide) _ _ _ rfl H A2 n2 cap2 (cellsA l2) rfl hQ1.out hQ0.out (hQ2.out _ H.wider) (cellsA_one l2) hQ3.out hQ4.out hQ5.out hQ6.out ?_; clear H; intro B4 c5 w1 H)
        | (go_at_call 14; ((with_reducible refine (attrs_1 H B4 N c5 (l ++ l2) H.ats hN hlN).mono ?_); clear H; rintro e w1 ⟨B5, c6, rfl, H⟩))
        | (go_at_call 15; ((with_reducible refine (tenc_a B5 N c6 (l ++ l2) _ H.ats hN hlN htN hbN hvN hT3 hr3).mono ?_); rintro e w1 ⟨rfl, g⟩; replace H := H.quiet g; clear g)))
      obtain ⟨xt, xv⟩ := x
      obtain ⟨yt, yv⟩ := y
      simp only at lt
      cases A with
      | none => exact absurd (hP0.out rfl) (by omega)
      | some a =>
        cases A2 with
        | none => exact absurd (hQ0.out rfl) (by omega)
        | some b =>
          obtain ⟨k0, _⟩ := (ha.on H.wider).cell a rfl _ _ hx
          obtain ⟨k1, _⟩ := (ha2.on H.wider).cell b rfl _ _ hy
          simp only at k0 k1
          have k2 := k1
          rw [show b.add (0 * 2) = b by unfold Addr.add; simp] at k2
          have i0 : (0 : Int) ≤ (n : Int) - 1 := by omega
          have i1 : (n : Int) - 1 < (n : Int) := by omega
          have i2 : ((n : Int) - 1).toNat = n - 1 := by omega
          have i3 : (0 : Int) < (n2 : Int) := by omega
          have i4 : IntKind.i64.wrap ((n : Int) - 1) = (n : Int) - 1 := by simp [IntKind.wrap, IntKind.bits, IntKind.signed]; omega
          have l1 : decide ((xt : Int) < (yt : Int)) = false := decide_eq_false (by omega)
          have l2' : decide (xt < yt) = false := decide_eq_false (by omega)
          clear hx hy lt
          go_quiet (fail)
          replace H : Own _ _ _ := H.quiet ((Wider.refl _).drewN nq)
          go_upto_region 12 with (first
            | (go_at_call 26; ((with_reducible refine (tlist_a A3 n3 cap3 l3 _ (ha3.on H.wider) hn3 hl3 hbl3 hU1 hq1).mono ?_); rintro e w1 ⟨rfl, g⟩; replace H := H.quiet g; clear g))
            | (go_at_call 26; ((with_reducible refine (tlist_a A4 n4 cap4 l4 _ (ha4.on H.wider) hn4 hl4 hbl4 hU2 hq2).mono ?_); rintro e w1 ⟨rfl, g⟩; replace H := H.quiet g; clear g)))
          replace H := H.drop.drop
          go_wp2_with (first
            | (at_builtin; refine wpList_append_lone rfl (.tmp 124) (.tmp 125) 45 rfl 9 is (.string ⟨#[]⟩) 1 16 Try.underlying45 his hs0 hs1 hs2 rfl (by decide) _ _ _ rfl (H.empty 9 1) A3 n3 cap3 (cellsS l3) rfl hR1.out hR0.out (hR2.out _ (H.empty 9 1).wider) (cellsS_one l3) hR3.out hR4.out hR5.out (List.nil_append _) ?_; clear H; intro B6 c7 w1 H)
            | (at_builtin; refine wpList_append_lone rfl (.tmp 126) (.tmp 127) 45 rfl 9 is (.string ⟨#[]⟩) 1 16 Try.underlying45 his hs0 hs1 hs2 rfl (by decide) _ _ _ rfl H A4 n4 cap4 (cellsS l4) rfl hS1.out hS0.out (hS2.out _ H.wider) (cellsS_one l4) hS3.out hS4.out hS5.out hS6.out ?_; clear H; intro B7 c8 w1 H)
            | (go_at_call 26; ((with_reducible refine (tlist_a B7 M c8 (l3 ++ l4) _ H.strs hM hlM hbM hU3 hq3).mono ?_); rintro e w1 ⟨rfl, g⟩; replace H := H.quiet g; clear g)))
          go_ret
          exact ⟨rfl, H.wider⟩

set_option maxRecDepth 100000 in
theorem tlvBehind_lifted (os : Os) (started : os.Started) (H : Type) (enc : TypeId × Value → H) :
    ReturnsInHanded {} Try.checked os 10 .any (Rows.tlvBehindSpec.pre6 enc Try.prog Try.f10 Rows.tlvBehindRow.domain false) (Rows.tlvBehindSpec.post enc Try.prog Try.f10 false true false false) := by
  refine returnsInHanded_of_change (C := Try.checked) own started (by kernel_rfl) Try.func10
    (ChangeSpec.witness6 (enc := enc) (C := Try.checked) false ⟨#[], #[.slice none 0 0, .slice none 0 0, .slice none 0 0, .slice none 0 0], []⟩ 8 (by kernel_rfl) (by kernel_rfl) (by kernel_rfl) (by kernel_rfl)) ?_
  intro W base args ds gs before hval0 hW hcnd _
  have hval : ∀ (j : Nat) t v, Try.f10.params[j]? = some t → args[j]? = some v → Value.okWide Try.prog W .any base t v := hval0
  have hW' := hW
  obtain ⟨p, q, hA0, hV, rfl, hfz, hnd⟩ := hW
  have hA : DataW.TrodAll enc Try.prog W 0 (fun _ => true) true Try.f10.params.toList args.toList ds p := hA0
  rw [Try.params10] at hA hval
  obtain ⟨v0, vs0, d0, ds0, p0, q0, hargs, rfl, rfl, h0, r0⟩ := trodAll_cons hA
  obtain ⟨v1, vs1, d1, ds1, p1, q1, rfl, rfl, rfl, h1, r1⟩ := trodAll_cons r0
  obtain ⟨v2, vs2, d2, ds2, p2, q2, rfl, rfl, rfl, h2, r2⟩ := trodAll_cons r1
  obtain ⟨v3, vs3, d3, ds3, p3, q3, rfl, rfl, rfl, h3, r3⟩ := trodAll_cons r2
  obtain ⟨rfl, rfl, rfl⟩ := trodAll_nil r3
  obtain rfl : args = #[v0, v1, v2, v3] := by cases args; simp_all
  obtain ⟨rfl, rfl⟩ := trodVars_none hV
  have h0k := h0
  obtain ⟨A0, len0, cap0, rfl⟩ := okWide_slice Try.underlying22 (hval 0 22 v0 rfl rfl)
  obtain ⟨fuel0, hf0⟩ := h0
  obtain ⟨l0, hl0, ha0, hm0, hz0⟩ := open_ats hf0
  have h1k := h1
  obtain ⟨A1, len1, cap1, rfl⟩ := okWide_slice Try.underlying22 (hval 1 22 v1 rfl rfl)
  obtain ⟨fuel1, hf1⟩ := h1
  obtain ⟨l1, hl1, ha1, hm1, hz1⟩ := open_ats hf1
  have h2k := h2
  obtain ⟨A2, len2, cap2, rfl⟩ := okWide_slice Try.underlying45 (hval 2 45 v2 rfl rfl)
  obtain ⟨fuel2, hf2⟩ := h2
  obtain ⟨l2, hl2, ha2, hm2, hz2⟩ := open_strs Try.underlying45 Try.underlying9 (by kernel_rfl) hf2
  have h3k := h3
  obtain ⟨A3, len3, cap3, rfl⟩ := okWide_slice Try.underlying45 (hval 3 45 v3 rfl rfl)
  obtain ⟨fuel3, hf3⟩ := h3
  obtain ⟨l3, hl3, ha3, hm3, hz3⟩ := open_strs Try.underlying45 Try.underlying9 (by kernel_rfl) hf3
  clear hA0 hval0
  simp only [List.append_nil] at hW'
  refine (tlvBehind_walk W A0 len0 cap0 l0 hl0 ha0 hm0 hz0 A1 len1 cap1 l1 hl1 ha1 hm1 hz1 A2 len2 cap2 l2 hl2 ha2 hm2 hz2 A3 len3 cap3 l3 hl3 ha3 hm3 hz3).mono fun e W' ⟨he, hg⟩ => ?_
  subst he
  have hlt : ∀ x ∈ p0 ++ (p1 ++ (p2 ++ (p3))), x.block < W.heap.size := fun x hx => by simpa using hW'.lt x hx
  exact ⟨_, rfl, post_of_wider (pv := []) hW' (fun _ _ _ => (trodAll_cons_mk (shut_bool Try.underlying4 _) trodAll_mk0)) (fun sp hsp => (trodAll_cons_mk (WideElems.Trod_stays laid3 (by kernel_rfl) (of_decide_eq_true (by kernel_rfl)) h0k (fun x hx => wsame hg (hlt x (by simp [hx]))) (fun x hx => hsp x (by simp [hx]))) (trodAll_cons_mk (WideElems.Trod_stays laid3 (by kernel_rfl) (of_decide_eq_true (by kernel_rfl)) h1k (fun x hx => wsame hg (hlt x (by simp [hx]))) (fun x hx => hsp x (by simp [hx]))) (trodAll_cons_mk (WideElems.Trod_stays laid3 (by kernel_rfl) (of_decide_eq_true (by kernel_rfl)) h2k (fun x hx => wsame hg (hlt x (by simp [hx]))) (fun x hx => hsp x (by simp [hx]))) (trodAll_cons_mk (WideElems.Trod_stays laid3 (by kernel_rfl) (of_decide_eq_true (by kernel_rfl)) h3k (fun x hx => wsame hg (hlt x (by simp [hx]))) (fun x hx => hsp x (by simp [hx]))) trodAll_mk0))))) (fun _ _ => rfl) (by simp)
    hg (ok_one (by kernel_rfl) rfl (okWide_bool_mk Try.underlying4 _))⟩

theorem tlvBehind_holds : Rows.TlvBehindSaid :=
  OpenClaim.holds_of_wide 10 Try.f10 rfl rfl rfl rfl rfl rfl rfl ⟨rfl, rfl, rfl, rfl, rfl⟩ rfl rfl rfl rfl rfl (by kernel_rfl) Try.func10 (by kernel_rfl)
    (of_decide_eq_true (by kernel_rfl)) (by unfold Func.isWrapper; first | (rw [if_pos (by decide +kernel)]; kernel_rfl) | (rw [if_neg (by decide +kernel)]; exact ⟨rfl, rfl⟩))
    (fun os started H enc _ => tlvBehind_lifted os started H enc)

#print axioms tlvBehind_holds

end Go.Proofs.Ytemfionibnlniaa
