/- The law TlvCut: attributes' bytes, cut short within one, are refused; between two they are those ahead. No condition. -/
import Derived.Test.YtemfionibnlniaaTUse
import Derived.Test.YtemfionibnlniaaTArgs
import Derived.Test.YtemfionibnlniaaRowU
import Derived.WalkKit
import Derived.Lib.Hide
import Derived.Deep.DeepCutAuto
import Derived.WalkLawsBesides
import Derived.WalkSpells
import Derived.BigQuiet
import Derived.BigRegion
import Derived.Deep.RegionHeld3
namespace Go.Proofs.Ytemfionibnlniaa
set_option linter.unusedVariables false
open Go.ChangeShapes Go.WideShapes Go.ChangeAt Go.RowKit Go.Joins
open Go.ChangeMaps (open_string shut_string)


theorem cut_ex (n : Nat) (k : Int) (hn : n < 1152921504606846976) : ∃ P : Nat, wrap64 ((IntKind.u64.wrap k).tmod ((n : Int) + 1)) = (P : Int) ∧ P ≤ n := by
  have u0 : 0 ≤ IntKind.u64.wrap k := by rw [IntKind.wrap_u64]; omega
  rw [Int.tmod_eq_emod_of_nonneg u0]
  have v0 := Int.emod_nonneg (IntKind.u64.wrap k) (show (n : Int) + 1 ≠ 0 by omega)
  have v1 := Int.emod_lt_of_pos (IntKind.u64.wrap k) (show (0 : Int) < (n : Int) + 1 by omega)
  generalize IntKind.u64.wrap k % ((n : Int) + 1) = V at *
  have e1 : wrap64 V = V := by unfold wrap64; omega
  rw [e1]
  exact ⟨V.toNat, by omega, by omega⟩
/-- Where the attributes end of which there are i. -/
def posA (l : List AtN) (i : Nat) : Nat := (bytsA (l.take i)).length
theorem posA_0 (l : List AtN) : posA l 0 = 0 := by simp [posA, bytsA_nil]
theorem posA_next (l : List AtN) (i : Nat) (x : AtN) (h : l[i]? = some x) : posA l (i + 1) = posA l i + (3 + x.v.size) := by
  unfold posA; rw [take_next l i x h, bytsA_snoc, List.length_append, bytA_length]
theorem posA_all (l : List AtN) (n : Nat) (h : l.length = n) : posA l n = (bytsA l).length := by unfold posA; rw [List.take_of_length_le (by omega)]
theorem posA_mono (l : List AtN) (i j : Nat) (h : i ≤ j) (hj : j ≤ l.length) : posA l i ≤ posA l j := by
  induction h with
  | refl => exact Nat.le_refl _
  | step h ih =>
    rename_i m
    obtain ⟨x, hx⟩ := next_some l m (by omega)
    rw [posA_next l m x hx]
    have := ih (by omega)
    omega
/-- Each place is at the beginning, behind an attribute, or within one. -/
theorem cut_where (l : List AtN) : ∀ (n : Nat), n ≤ l.length → ∀ P, P ≤ posA l n → P = 0 ∨ (∃ j, j < n ∧ P = posA l (j + 1)) ∨ (∃ j, j < n ∧ posA l j < P ∧ P < posA l (j + 1)) := by
  intro n
  induction n with
  | zero => intro _ P h; rw [posA_0] at h; exact .inl (by omega)
  | succ n ih =>
    intro hn P h
    by_cases c : P ≤ posA l n
    · rcases ih (by omega) P c with h | ⟨j, hj, e⟩ | ⟨j, hj, e⟩
      · exact .inl h
      · exact .inr (.inl ⟨j, by omega, e⟩)
      · exact .inr (.inr ⟨j, by omega, e⟩)
    · by_cases d : P = posA l (n + 1)
      · exact .inr (.inl ⟨n, by omega, d⟩)
      · exact .inr (.inr ⟨n, by omega, by omega, by omega⟩)
theorem okA_take (l : List AtN) (h : okA 0 l = 0) (i : Nat) : okA 0 (l.take i) = 0 := by
  have e := okA_append (l.take i) 0 (l.drop i)
  rw [List.take_append_drop, h] at e
  by_cases c : okA 0 (l.take i) = 0
  · exact c
  · rw [if_neg c] at e; exact absurd e.symm c
theorem bytsA_take (l : List AtN) (i : Nat) : (bytsA l).take (posA l i) = bytsA (l.take i) := by
  have e : bytsA l = bytsA (l.take i) ++ bytsA (l.drop i) := by rw [← bytsA_append, List.take_append_drop]
  rw [e]; unfold posA; exact List.take_left
theorem bytsA_within (l : List AtN) (j : Nat) (x : AtN) (h : l[j]? = some x) (P : Nat) (h1 : posA l j < P) (h2 : P < posA l (j + 1)) : (bytsA l).take P = bytsA (l.take j) ++ (bytA x).take (P - posA l j) := by
  have e : bytsA l = bytsA (l.take j) ++ (bytA x ++ bytsA (l.drop (j + 1))) := by
    rw [← List.append_assoc, ← bytsA_snoc, ← take_next l j x h, ← bytsA_append, List.take_append_drop]
  have hp : posA l j = (bytsA (l.take j)).length := rfl
  rw [posA_next l j x h] at h2
  rw [e, List.take_append, List.take_of_length_le (by omega), hp, List.take_append_of_le_length (by rw [bytA_length]; omega)]

set_option maxRecDepth 100000 in
set_option maxHeartbeats 32000000 in
theorem tlvCut_walk (w : World) (A : Option Addr) (n cap : Nat) (l : List AtN) (hn : l.length = n) (ha : AtsAt w A l) (hm : l.length ≤ maxLen) (hz' : (∀ y ∈ l, y.t < 256 ∧ y.v.size ≤ maxLen) ∧ n ≤ cap ∧ cap ≤ maxLen) (ct : Int) (ct0 : -9223372036854775808 ≤ ct) (ct1 : ct ≤ 9223372036854775807) :
    Calls Try.prog 11 #[.slice A n cap, .int .i64 ct] w fun e w' => e = .returned (.bool true) ∧ Wider w w' := by
  obtain ⟨hz, hcap, hcapm⟩ := hz'
  unfold maxLen at hm hz hcapm
  have H : Own w w [] := Own.nil (Wider.refl w)
  have hz1 : ∀ x ∈ l, x.v.size ≤ 9223372036854775807 := fun x hx => by have := (hz x hx).2; omega
  obtain ⟨b, hb⟩ : ∃ b : Bool, (decide (100000 ≤ bulkA l) || decide (300 < l.length)) = b := ⟨_, rfl⟩
  cases b with
  | true =>
    go_enter Try.func11, Try.ntmps11
    go_wp2_with (first
      | (go_at_call 13; ((with_reducible refine (awake6_c _).mono ?_); rintro e wa ⟨rfl, g⟩; replace H := H.quiet g; clear g))
      | (go_at_call 12; ((with_reducible refine (long_c A n cap l _ (ha.on H.wider) hn (by omega) hz1 hb).mono ?_); rintro e w9 ⟨rfl, rfl⟩)))
    go_ret
    exact ⟨rfl, H.wider⟩
  | false =>
    have hb2 := hb
    rw [Bool.or_eq_false_iff, decide_eq_false_iff_not, decide_eq_false_iff_not] at hb2
    have hk : bulkA l < 100000 := by omega
    have hl : n < 1000000 := by omega
    have ht : ∀ x ∈ l, x.t < 256 := fun x hx => (hz x hx).1
    have hbl : (bytsA l).length < 1000000 := by have := bulkA_bytes l hk; omega
    have hv : ∀ x ∈ l, x.v.size < 1000000 := fun x hx => by have := bulkA_each l hk x hx; omega
    obtain ⟨T, hT⟩ : ∃ T, encA l = T := ⟨_, rfl⟩
    obtain ⟨r, hr⟩ : ∃ r, okA 0 l = r := ⟨_, rfl⟩
    by_cases hr0 : r = 0
    · subst hr0
      have hT2 := hT
      rw [encA_good hr] at hT2
      have hTd : T.data.toList = bytsA l := by rw [← hT2, mkB_data]
      have hTs : T.size = (bytsA l).length := by rw [size_data, hTd]
      obtain ⟨K, hK, hKT⟩ := cut_ex T.size ct (by omega)
      have hwr : IntKind.u64.wrap ((T.size : Int) + 1) = (T.size : Int) + 1 := by rw [IntKind.wrap_u64]; omega
      have k0 : (0 : Int) ≤ (K : Int) := by omega
      have k1 : (K : Int) ≤ (T.size : Int) := by omega
      obtain ⟨U, hU⟩ : ∃ U, T.extract 0 K = U := ⟨_, rfl⟩
      have hUd : U.data.toList = (bytsA l).take K := by rw [← hU, extract_list, hTd]; rfl
      have hUs : U.size < 1000000 := by rw [size_data, hUd, List.length_take]; omega
      have hw := cut_where l n (by omega) K (by rw [posA_all l n hn, ← hTs]; exact hKT)
      have hmono := posA_mono l
      have hall := posA_all l n hn
      have hTb : T.size < 1000000 := by omega
      clear hT2 hTd hTs
      rcases hw with z | ⟨j, hj, e⟩ | ⟨j, hj, e1, e2⟩
      · have hd : decA [] 0 U.data.toList = ([], 0) := by rw [hUd, z, List.take_zero, decA_nil]
        have hkm : ([] : List AtN).length = 0 := rfl
        have f1 : ((K : Int) == 0) = true := by rw [beq_iff_eq]; omega
        have f2 : decide ((0 : Int) < (K : Int)) = false := decide_eq_false (by omega)
        have f3 : decide (0 < K) = false := decide_eq_false (by omega)
        clear hUd z hmono hall
        go_enter Try.func11, Try.ntmps11
        go_upto_region 10 with (first
          | (go_at_call 13; ((with_reducible refine (awake6_c _).mono ?_); rintro e wa ⟨rfl, g⟩; replace H := H.quiet g; clear g))
          | (go_at_call 12; ((with_reducible refine (long_c A n cap l _ (ha.on H.wider) hn (by omega) hz1 hb).mono ?_); rintro e w9 ⟨rfl, rfl⟩))
          | (go_at_call 14; ((with_reducible refine (attrs_1 H A n cap l (ha.on H.wider) hn hl).mono ?_); clear H; rintro e w1 ⟨B, c2, rfl, H⟩))
          | (go_at_call 15; ((with_reducible refine (tenc_a B n c2 l _ H.ats hn hl ht hbl hv hT hr).mono ?_); rintro e w1 ⟨rfl, g⟩; replace H := H.quiet g; clear g))
          | (go_at_call 19; ((with_reducible refine (dec_1 H U hUs hd hkm).mono ?_); clear H; rintro e w1 ⟨B2, c3, rfl, H⟩)))
        go_loop [10, 11] (fun p i => p = .int .i64 0 ∧ i = .int .i64 0) (fun _ _ => 0)
        case atStart => exact ⟨by simp, by simp⟩
        case round =>
          obtain ⟨rfl, rfl⟩ := hrel
          by_cases g0 : 0 < n
          · have g1 : decide ((0 : Int) < (n : Int)) = true := decide_eq_true (by omega)
            have g2 : decide (0 < n) = true := decide_eq_true g0
            go_wp2
            go_ret
            exact ⟨rfl, H.wider⟩
          · have g1 : decide ((0 : Int) < (n : Int)) = false := decide_eq_false (by omega)
            have g2 : decide (0 < n) = false := decide_eq_false g0
            go_wp2
            go_ret
            exact ⟨rfl, H.wider⟩
      · have hd : decA [] 0 U.data.toList = (l.take (j + 1), 0) := by
          rw [hUd, e, bytsA_take]
          have q := decA_enc (l.take (j + 1)) [] 0 [] (okA_take l hr _) (fun x hx => ht x (List.mem_of_mem_take hx))
          rw [List.append_nil, List.nil_append, decA_nil] at q
          exact q
        have hkm : (l.take (j + 1)).length = j + 1 := by rw [List.length_take]; omega
        obtain ⟨ls, hls⟩ : ∃ ls, l.take (j + 1) = ls := ⟨_, rfl⟩
        rw [hls] at hd hkm
        obtain ⟨J, hJ⟩ : ∃ J, j + 1 = J := ⟨_, rfl⟩
        rw [hJ] at hkm
        have hP := Lib.hid e
        have HMONO := Lib.hid hmono
        have HLS := Lib.hid hls
        have HJ := Lib.hid hJ
        clear hUd hmono hall e hls hJ
        go_enter Try.func11, Try.ntmps11
        go_upto_region 10 with (first
          | (go_at_call 13; ((with_reducible refine (awake6_c _).mono ?_); rintro e wa ⟨rfl, g⟩; replace H := H.quiet g; clear g))
          | (go_at_call 12; ((with_reducible refine (long_c A n cap l _ (ha.on H.wider) hn (by omega) hz1 hb).mono ?_); rintro e w9 ⟨rfl, rfl⟩))
          | (go_at_call 14; ((with_reducible refine (attrs_1 H A n cap l (ha.on H.wider) hn hl).mono ?_); clear H; rintro e w1 ⟨B, c2, rfl, H⟩))
          | (go_at_call 15; ((with_reducible refine (tenc_a B n c2 l _ H.ats hn hl ht hbl hv hT hr).mono ?_); rintro e w1 ⟨rfl, g⟩; replace H := H.quiet g; clear g))
          | (go_at_call 19; ((with_reducible refine (dec_1 H U hUs hd hkm).mono ?_); clear H; rintro e w1 ⟨B2, c3, rfl, H⟩)))
        go_loop [10, 11] (fun p i => ∃ k : Nat, k ≤ j ∧ i = .int .i64 (k : Int) ∧ ∃ V : Nat, p = .int .i64 (V : Int) ∧ posA l k = V) (fun _ i => n - (intOf i).toNat)
        case atStart => exact ⟨0, by omega, by simp, 0, by simp, posA_0 l⟩
        case round =>
          obtain ⟨k, hk2, rfl, V, rfl, hV⟩ := hrel
          have HV := Lib.hid hV
          clear hV
          have g1 : decide ((k : Int) < (n : Int)) = true := decide_eq_true (by omega)
          have g2 : decide (k < n) = true := decide_eq_true (by omega)
          have i0 : (0 : Int) ≤ (k : Int) := by omega
          have i1 : (k : Int) < (n : Int) := by omega
          obtain ⟨x, hx⟩ := next_some l k (by omega)
          have hnx := posA_next l k x hx
          rw [HV.out] at hnx
          have hle : posA l (k + 1) ≤ K := by rw [hP.out]; exact HMONO.out _ _ (by omega) (by omega)
          have hlt : V < K := by omega
          have g3 : decide ((V : Int) < (K : Int)) = true := decide_eq_true (by omega)
          have g4 : decide (V < K) = true := decide_eq_true hlt
          cases A with
          | none => exact absurd (ha.none_ rfl) (by intro e; rw [e] at hx; simp at hx)
          | some a =>
            have hA := (ha.on H.wider).cell a rfl k x hx
            have d1 := hA.flat
            have hxs : x.v.size < 1000000 := hv x (List.mem_of_getElem? hx)
            obtain ⟨t, s⟩ := x
            simp only at d1 hnx hxs
            by_cases ek : k = j
            · subst ek
              have hE : V + (3 + s.size) = K := by rw [← hnx, hP.out]
              have g5 : ((V : Int) + 3 + (s.size : Int) == (K : Int)) = true := by rw [beq_iff_eq]; omega
              have g6 : (V : Int) + 3 + (s.size : Int) = (K : Int) := by omega
              have s0 : (0 : Int) ≤ (k : Int) + 1 := by omega
              have s1 : (k : Int) + 1 ≤ (cap : Int) := by omega
              have s2 : ((k : Int) + 1).toNat = J := by have := HJ.out; omega
              have s3 : IntKind.i64.wrap ((k : Int) + 1) = (k : Int) + 1 := by simp [IntKind.wrap, IntKind.bits, IntKind.signed]; omega
              have hat : AtsAt w9 (some a) ls := ⟨fun e => (by cases e), fun a2 e i y hy => ha.cell a2 e i y (by
                have h2 := HLS.out
                rw [← h2, List.getElem?_take] at hy
                split at hy
                · exact hy
                · cases hy)⟩
              have hJm : J < 1000000 := by have := HJ.out; omega
              clear hx hnx hA hle hE
              go_upto_region 14 with fail
              replace H := H.quiet (show Wider _ _ from (Wider.refl _).drew)
              go_region_held (fun w' => Wider w9 w')
                (first | assumption | exact H.wider)
                (first
                  | (go_at_call 18; ((with_reducible refine (plain_1 H B2 J c3 ls H.ats hkm hJm).mono ?_); clear H; rintro e w1 ⟨B3, c4, rfl, H⟩))
                  | (go_at_call 17; ((with_reducible refine (same_c B3 (some a) J c4 J cap ls ls _ H.ats (hat.on H.wider) hkm hkm hJm hJm (iff_of_true rfl rfl)).mono ?_); rintro e w1 ⟨rfl, g⟩; replace H := H.quiet g; clear g)))
              go_wp2
              go_ret
              exact ⟨rfl, H.wider⟩
            · have hlt2 : posA l (k + 1) < K := by
                obtain ⟨y, hy⟩ := next_some l j (by omega)
                have h1 := posA_next l j y hy
                have h2 := HMONO.out (k + 1) j (by omega) (by omega)
                rw [hP.out]; omega
              have hE : V + (3 + s.size) < K := by rw [← hnx]; exact hlt2
              have g5 : ((V : Int) + 3 + (s.size : Int) == (K : Int)) = false := by rw [beq_eq_false_iff_ne]; omega
              have g6 : ¬ (V : Int) + 3 + (s.size : Int) = (K : Int) := by omega
              have hKb : K < 1000000 := by omega
              have NX := Lib.hid hnx
              clear hx hnx hA hle hlt2
              go_wp2
              go_round
              case rel => exact ⟨k + 1, by omega, by go_num, V + (3 + s.size), by simp; omega, NX.out⟩
              case measure => simp [intOf]; omega
      · obtain ⟨x0, hx0⟩ := next_some l j (by omega)
        have hd : decA [] 0 U.data.toList = ([], 4) := by
          rw [hUd, bytsA_within l j x0 hx0 K e1 e2]
          refine decA_short_of (l.take j) x0 [] 0 _ ?_ ?_ (by omega) (by have := posA_next l j x0 hx0; rw [bytA_length]; omega)
          · rw [← take_next l j x0 hx0]; exact okA_take l hr _
          · rw [← take_next l j x0 hx0]; exact fun x hx => ht x (List.mem_of_mem_take hx)
        have hkm : ([] : List AtN).length = 0 := rfl
        have f1 : ((K : Int) == 0) = false := by rw [beq_eq_false_iff_ne]; omega
        have f2 : decide ((0 : Int) < (K : Int)) = true := decide_eq_true (by omega)
        have f3 : decide (0 < K) = true := decide_eq_true (by omega)
        have HP1 := Lib.hid e1
        have HP2 := Lib.hid e2
        have HMONO := Lib.hid hmono
        clear hUd hmono hall e1 e2 hx0
        go_enter Try.func11, Try.ntmps11
        go_upto_region 10 with (first
          | (go_at_call 13; ((with_reducible refine (awake6_c _).mono ?_); rintro e wa ⟨rfl, g⟩; replace H := H.quiet g; clear g))
          | (go_at_call 12; ((with_reducible refine (long_c A n cap l _ (ha.on H.wider) hn (by omega) hz1 hb).mono ?_); rintro e w9 ⟨rfl, rfl⟩))
          | (go_at_call 14; ((with_reducible refine (attrs_1 H A n cap l (ha.on H.wider) hn hl).mono ?_); clear H; rintro e w1 ⟨B, c2, rfl, H⟩))
          | (go_at_call 15; ((with_reducible refine (tenc_a B n c2 l _ H.ats hn hl ht hbl hv hT hr).mono ?_); rintro e w1 ⟨rfl, g⟩; replace H := H.quiet g; clear g))
          | (go_at_call 19; ((with_reducible refine (dec_1 H U hUs hd hkm).mono ?_); clear H; rintro e w1 ⟨B2, c3, rfl, H⟩)))
        go_loop [10, 11] (fun p i => ∃ k : Nat, k ≤ j + 1 ∧ i = .int .i64 (k : Int) ∧ ∃ V : Nat, p = .int .i64 (V : Int) ∧ posA l k = V) (fun _ i => n - (intOf i).toNat)
        case atStart => exact ⟨0, by omega, by simp, 0, by simp, posA_0 l⟩
        case round =>
          obtain ⟨k, hk2, rfl, V, rfl, hV⟩ := hrel
          have HV := Lib.hid hV
          clear hV
          by_cases ek : k = j + 1
          · have hV2 : K < V := by have := HP2.out; rw [← ek, HV.out] at this; exact this
            have g3 : decide ((V : Int) < (K : Int)) = false := decide_eq_false (by omega)
            have g4 : decide (V < K) = false := decide_eq_false (by omega)
            clear hk2
            by_cases g0 : k < n
            · have g1 : decide ((k : Int) < (n : Int)) = true := decide_eq_true (by omega)
              have g2 : decide (k < n) = true := decide_eq_true g0
              have EK := Lib.hid ek
              clear ek
              go_wp2
              go_ret
              exact ⟨rfl, H.wider⟩
            · have g1 : decide ((k : Int) < (n : Int)) = false := decide_eq_false (by omega)
              have g2 : decide (k < n) = false := decide_eq_false g0
              have EK := Lib.hid ek
              clear ek
              go_wp2
              go_ret
              exact ⟨rfl, H.wider⟩
          · have g1 : decide ((k : Int) < (n : Int)) = true := decide_eq_true (by omega)
            have g2 : decide (k < n) = true := decide_eq_true (by omega)
            have i0 : (0 : Int) ≤ (k : Int) := by omega
            have i1 : (k : Int) < (n : Int) := by omega
            obtain ⟨x, hx⟩ := next_some l k (by omega)
            have hnx := posA_next l k x hx
            rw [HV.out] at hnx
            have hlt : V < K := by
              have := HMONO.out k j (by omega) (by omega)
              rw [HV.out] at this
              have := HP1.out; omega
            have g3 : decide ((V : Int) < (K : Int)) = true := decide_eq_true (by omega)
            have g4 : decide (V < K) = true := decide_eq_true hlt
            have hne : posA l (k + 1) ≠ K := by
              intro q
              by_cases ej : k = j
              · subst ej; have := HP2.out; omega
              · have h2 := HMONO.out (k + 1) j (by omega) (by omega)
                have := HP1.out; omega
            cases A with
            | none => exact absurd (ha.none_ rfl) (by intro e; rw [e] at hx; simp at hx)
            | some a =>
              have hA := (ha.on H.wider).cell a rfl k x hx
              have d1 := hA.flat
              have hxs : x.v.size < 1000000 := hv x (List.mem_of_getElem? hx)
              obtain ⟨t, s⟩ := x
              simp only at d1 hnx hxs
              have hE : V + (3 + s.size) ≠ K := by rw [← hnx]; exact hne
              have g5 : ((V : Int) + 3 + (s.size : Int) == (K : Int)) = false := by rw [beq_eq_false_iff_ne]; omega
              have g6 : ¬ (V : Int) + 3 + (s.size : Int) = (K : Int) := by omega
              have hKb : K < 1000000 := by omega
              have NX := Lib.hid hnx
              clear hx hnx hA hne
              go_wp2
              go_round
              case rel => exact ⟨k + 1, by omega, by go_num, V + (3 + s.size), by simp; omega, NX.out⟩
              case measure => simp [intOf]; omega
    · have e0 : ((r : Int) != 0) = true := by rw [bne_iff_ne]; omega
      have e1 : ((r : Int) == 0) = false := by rw [beq_eq_false_iff_ne]; omega
      have eT : T = ⟨#[]⟩ := by rw [← hT, encA_bad hr hr0]
      subst eT
      clear hr0
      go_enter Try.func11, Try.ntmps11
      go_wp2_with (first
        | (go_at_call 13; ((with_reducible refine (awake6_c _).mono ?_); rintro e wa ⟨rfl, g⟩; replace H := H.quiet g; clear g))
        | (go_at_call 12; ((with_reducible refine (long_c A n cap l _ (ha.on H.wider) hn (by omega) hz1 hb).mono ?_); rintro e w9 ⟨rfl, rfl⟩))
        | (go_at_call 14; ((with_reducible refine (attrs_1 H A n cap l (ha.on H.wider) hn hl).mono ?_); clear H; rintro e w1 ⟨B, c2, rfl, H⟩))
        | (go_at_call 15; ((with_reducible refine (tenc_a B n c2 l _ H.ats hn hl ht hbl hv hT hr).mono ?_); rintro e w1 ⟨rfl, g⟩; replace H := H.quiet g; clear g)))
      go_ret
      exact ⟨rfl, H.wider⟩

set_option maxRecDepth 100000 in
theorem tlvCut_lifted (os : Os) (started : os.Started) (H : Type) (enc : TypeId × Value → H) :
    ReturnsInHanded {} Try.checked os 11 .any (Rows.tlvCutSpec.pre6 enc Try.prog Try.f11 Rows.tlvCutRow.domain false) (Rows.tlvCutSpec.post enc Try.prog Try.f11 false true false false) := by
  refine returnsInHanded_of_change (C := Try.checked) own started (by kernel_rfl) Try.func11
    (ChangeSpec.witness6 (enc := enc) (C := Try.checked) false ⟨#[], #[.slice none 0 0, .int .i64 0], []⟩ 8 (by kernel_rfl) (by kernel_rfl) (by kernel_rfl) (by kernel_rfl)) ?_
  intro W base args ds gs before hval0 hW hcnd _
  have hval : ∀ (j : Nat) t v, Try.f11.params[j]? = some t → args[j]? = some v → Value.okWide Try.prog W .any base t v := hval0
  have hW' := hW
  obtain ⟨p, q, hA0, hV, rfl, hfz, hnd⟩ := hW
  have hA : DataW.TrodAll enc Try.prog W 0 (fun _ => true) true Try.f11.params.toList args.toList ds p := hA0
  rw [Try.params11] at hA hval
  obtain ⟨v0, vs0, d0, ds0, p0, q0, hargs, rfl, rfl, h0, r0⟩ := trodAll_cons hA
  obtain ⟨v1, vs1, d1, ds1, p1, q1, rfl, rfl, rfl, h1, r1⟩ := trodAll_cons r0
  obtain ⟨rfl, rfl, rfl⟩ := trodAll_nil r1
  obtain rfl : args = #[v0, v1] := by cases args; simp_all
  obtain ⟨rfl, rfl⟩ := trodVars_none hV
  have h0k := h0
  obtain ⟨A0, len0, cap0, rfl⟩ := okWide_slice Try.underlying22 (hval 0 22 v0 rfl rfl)
  obtain ⟨fuel0, hf0⟩ := h0
  obtain ⟨l0, hl0, ha0, hm0, hz0⟩ := open_atsc hf0
  obtain ⟨n1, rfl, rfl, rfl, w1⟩ := open_int Try.underlying3 (hval 1 3 v1 rfl rfl) h1
  clear hA0 hval0
  simp only [List.append_nil] at hW'
  refine (tlvCut_walk W A0 len0 cap0 l0 hl0 ha0 hm0 hz0 n1 (bounds_i64 w1).1 (bounds_i64 w1).2).mono fun e W' ⟨he, hg⟩ => ?_
  subst he
  have hlt : ∀ x ∈ p0, x.block < W.heap.size := fun x hx => by simpa using hW'.lt x hx
  exact ⟨_, rfl, post_of_wider (pv := []) hW' (fun _ _ _ => (trodAll_cons_mk (shut_bool Try.underlying4 _) trodAll_mk0)) (fun sp hsp => (trodAll_cons_mk (WideElems.Trod_stays laid3 (by kernel_rfl) (of_decide_eq_true (by kernel_rfl)) h0k (fun x hx => wsame hg (hlt x (by simp [hx]))) (fun x hx => hsp x (by simp [hx]))) (trodAll_cons_mk (shut_int Try.underlying3 w1) trodAll_mk0))) (fun _ _ => rfl) (by simp)
    hg (ok_one (by kernel_rfl) rfl (okWide_bool_mk Try.underlying4 _))⟩

theorem tlvCut_holds : Rows.TlvCutSaid :=
  OpenClaim.holds_of_wide 11 Try.f11 rfl rfl rfl rfl rfl rfl rfl ⟨rfl, rfl, rfl, rfl, rfl⟩ rfl rfl rfl rfl rfl (by kernel_rfl) Try.func11 (by kernel_rfl)
    (of_decide_eq_true (by kernel_rfl)) (by unfold Func.isWrapper; first | (rw [if_pos (by decide +kernel)]; kernel_rfl) | (rw [if_neg (by decide +kernel)]; exact ⟨rfl, rfl⟩))
    (fun os started H enc _ => tlvCut_lifted os started H enc)

#print axioms tlvCut_holds

end Go.Proofs.Ytemfionibnlniaa
