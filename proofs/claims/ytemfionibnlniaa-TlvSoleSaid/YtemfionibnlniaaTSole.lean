/- The law TlvSole: numbers, and lists, have one way as bytes. No condition. -/
import Derived.Test.YtemfionibnlniaaTUse
import Derived.Test.YtemfionibnlniaaTArgs
import Derived.Test.YtemfionibnlniaaTOrder
import Derived.WalkKit
import Derived.Lib.Hide
import Derived.Deep.DeepCutAuto
import Derived.WalkLawsBesides
import Derived.WalkSpells
import Derived.BigQuiet
import Derived.BigRegion
import Derived.Deep.RegionHeld3
namespace Go.Proofs.Ytemfionibnlniaa
set_option linter.unusedVariables false
open Go.ChangeShapes Go.WideShapes Go.ChangeAt Go.RowKit Go.Joins
open Go.ChangeMaps (open_string shut_string)


theorem rnum_back (s : ByteArray) {v q : Nat} (h : rnumN s.data.toList 18446744073709551615 = (v, q)) : (q = 0 ∧ mkB (numB v) = s ∧ v < 18446744073709551616) ∨ (q = 3 ∧ v = 0) := by
  unfold rnumN at h
  split at h
  · obtain ⟨rfl, rfl⟩ : 0 = v ∧ 3 = q := by injection h with a b; exact ⟨a, b⟩
    exact .inr ⟨rfl, rfl⟩
  · rename_i c
    split at h
    · obtain ⟨rfl, rfl⟩ : 0 = v ∧ 3 = q := by injection h with a b; exact ⟨a, b⟩
      exact .inr ⟨rfl, rfl⟩
    · obtain ⟨rfl, rfl⟩ : readB s.data.toList = v ∧ 0 = q := by injection h with a b; exact ⟨a, b⟩
      refine .inl ⟨rfl, ?_, by omega⟩
      rw [numB_readB _ (fun b m e hb => c (.inr (by rw [e, hb]; rfl))), mkB_of]

set_option maxRecDepth 100000 in
set_option maxHeartbeats 32000000 in
theorem tlvSole_walk (w : World) (n0 : Int) (n0l : 0 ≤ n0) (n0h : n0 < 18446744073709551616) (A : Option Addr) (n cap : Nat) (l : List ByteArray) (hn : l.length = n) (ha : StrsAt w A l) (hm : l.length ≤ maxLen) (hz : ∀ y ∈ l, y.size ≤ maxLen) (s : ByteArray) (hms : s.size ≤ maxLen) :
    Calls Try.prog 8 #[.int .u64 n0, .slice A n cap, .string s] w fun e w' => e = .returned (.bool true) ∧ Wider w w' := by
  unfold maxLen at hm hz hms
  have H : Own w w [] := Own.nil (Wider.refl w)
  have hz1 : ∀ x ∈ l, x.size ≤ 9223372036854775807 := fun x hx => by have := hz x hx; omega
  obtain ⟨a, rfl⟩ : ∃ a : Nat, n0 = (a : Int) := ⟨n0.toNat, by omega⟩
  have la : a < 18446744073709551616 := by omega
  clear n0l n0h
  obtain ⟨b, hb⟩ : ∃ b : Bool, decide (100000 ≤ bulkS l) = b := ⟨_, rfl⟩
  cases b with
  | true =>
    go_enter Try.func8, Try.ntmps8
    go_wp2_with (first
      | (go_at_call 13; ((with_reducible refine (awake6_c _).mono ?_); rintro e wa ⟨rfl, g⟩; replace H := H.quiet g; clear g))
      | (go_at_call 25; ((with_reducible refine (large_c A n cap l _ (ha.on H.wider) hn (by omega) hz1 hb).mono ?_); rintro e w9 ⟨rfl, rfl⟩)))
    go_ret
    exact ⟨rfl, H.wider⟩
  | false =>
    by_cases h0 : 20000 < s.size
    · have c0 : decide ((20000 : Int) < (s.size : Int)) = true := decide_eq_true (by omega)
      have c1 : decide (20000 < s.size) = true := decide_eq_true h0
      go_enter Try.func8, Try.ntmps8
      go_wp2_with (first
        | (go_at_call 13; ((with_reducible refine (awake6_c _).mono ?_); rintro e wa ⟨rfl, g⟩; replace H := H.quiet g; clear g))
        | (go_at_call 25; ((with_reducible refine (large_c A n cap l _ (ha.on H.wider) hn (by omega) hz1 hb).mono ?_); rintro e w9 ⟨rfl, rfl⟩)))
      go_ret
      exact ⟨rfl, H.wider⟩
    · have c0 : decide ((20000 : Int) < (s.size : Int)) = false := decide_eq_false (by omega)
      have c1 : decide (20000 < s.size) = false := decide_eq_false h0
      have hk : bulkS l < 100000 := by have := of_decide_eq_false hb; omega
      have hl : n < 1000000 := by have := bulkS_len l; omega
      have hbl : (bytsT l).length < 1000000 := by have := bulkS_bytes l hk; omega
      obtain ⟨T, hT⟩ : ∃ T, encT l = T := ⟨_, rfl⟩
      obtain ⟨r, hr⟩ : ∃ r, okT l = r := ⟨_, rfl⟩
      obtain ⟨U, hU⟩ : ∃ U, mkB (numB a) = U := ⟨_, rfl⟩
      have hUs : U.size < 1000000 := by rw [← hU, mkB_size]; have := numB_len a la; omega
      have hUr : rnumN U.data.toList a = (a, 0) := by rw [← hU, mkB_data, rnum_of a a la, if_pos (by omega)]
      obtain ⟨⟨v, q⟩, hv⟩ : ∃ p, rnumN s.data.toList 18446744073709551615 = p := ⟨_, rfl⟩
      obtain ⟨⟨m, c⟩, hd⟩ : ∃ p, decT [] (s.size : Int) s.data.toList = p := ⟨_, rfl⟩
      have hss : s.size < 1000000 := by omega
      have hvq := rnum_back s hv
      have hbad := decT_bad _ s.data.toList rfl [] (s.size : Int)
      rw [hd] at hbad
      have back : c = 0 → okT m = 0 ∧ encT m = s ∧ m.length < 1000000 ∧ (bytsT m).length < 1000000 := fun hc => by
        subst hc
        obtain ⟨l2, e1, e2, e3, _⟩ := decT_inv _ s.data.toList rfl [] (s.size : Int) m hd
        rw [List.nil_append] at e1
        subst e1
        have hl2 : (bytsT m).length = s.size := by rw [← e2, size_data]
        have q := bytsT_len m
        refine ⟨e3, ?_, by omega, by omega⟩
        rw [encT_good e3, ← e2, mkB_of]
      have fore : r = 0 → decT [] (n : Int) T.data.toList = (l, 0) ∧ T.size < 1000000 := fun hr0 => by
        rw [hr0] at hr
        have hT2 := hT
        rw [encT_good hr] at hT2
        have hTd : T.data.toList = bytsT l := by rw [← hT2, mkB_data]
        have e := decT_enc l [] (n : Int) [] hr (by simp; omega)
        rw [List.append_nil, List.nil_append, decT_nil] at e
        exact ⟨by rw [hTd]; exact e, by rw [size_data, hTd]; exact hbl⟩
      have zr := fun W => treadnum_a U a W hUs la hUr
      have zu := fun W => tnum_a a W la hU
      have zv : ∀ W : World, Calls Try.prog 21 #[.string s, .int .u64 18446744073709551615] W fun e w' => e = .returned (.tuple #[.int .u64 (v : Int), .int .i64 (q : Int)]) ∧ Wider W w' := fun W => treadnum_a s 18446744073709551615 W hss (by decide) hv
      have nn0 : -9223372036854775808 ≤ (n : Int) := by omega
      have nn1 : (n : Int) ≤ 9223372036854775807 := by omega
      have ss0 : -9223372036854775808 ≤ (s.size : Int) := by omega
      have ss1 : (s.size : Int) ≤ 9223372036854775807 := by omega
      have RR : Hid ((r = 0) ∨ ((r : Int) == 0) = false) := by
        by_cases z : r = 0
        · exact .inl z
        · exact .inr (by rw [beq_eq_false_iff_ne]; omega)
      have CC : Hid ((c = 0) ∨ (m = [] ∧ ((c : Int) != 0) = true)) := by
        by_cases z : c = 0
        · exact .inl z
        · exact .inr ⟨by rcases hbad with q | q; exact absurd q z; exact q, by rw [bne_iff_ne]; omega⟩
      clear hbad hUr hUs hv
      rcases RR.out with hr0 | e0 <;> rcases hvq with ⟨rfl, hv1, hv2⟩ | ⟨rfl, rfl⟩ <;> rcases CC.out with hc0 | ⟨rfl, f0⟩
      · as_aux_lemma =>
        obtain ⟨hd1, hTs⟩ := fore hr0
        subst hr0
        obtain ⟨b1, b2, b3, b4⟩ := back hc0
        subst hc0
        obtain ⟨k, hkm⟩ : ∃ k, m.length = k := ⟨_, rfl⟩
        rw [hkm] at b3
        clear back fore RR CC
        go_enter Try.func8, Try.ntmps8
        go_wp2_with (first
          | (go_at_call 13; ((with_reducible refine (awake6_c _).mono ?_); rintro e wa ⟨rfl, g⟩; replace H := H.quiet g; clear g))
          | (go_at_call 25; ((with_reducible refine (large_c A n cap l _ (ha.on H.wider) hn (by omega) hz1 hb).mono ?_); rintro e w9 ⟨rfl, rfl⟩))
          | (go_at_call 23; ((with_reducible refine (zu _).mono ?_); rintro e w1 ⟨rfl, g⟩; replace H := H.quiet g; clear g))
          | (go_at_call 21; ((with_reducible refine (zr _).mono ?_); rintro e w1 ⟨rfl, g⟩; replace H := H.quiet g; clear g))
          | (go_at_call 26; ((with_reducible refine (tlist_a A n cap l _ (ha.on H.wider) hn hl hbl hT hr).mono ?_); rintro e w1 ⟨rfl, g⟩; replace H := H.quiet g; clear g))
          | (go_at_call 29; ((with_reducible refine (readlist_1 H T (n : Int) hTs nn0 nn1 hd1 hn).mono ?_); clear H; rintro e w1 ⟨B, c2, rfl, H⟩))
          | (go_at_call 28; ((with_reducible refine (texts_c B A n c2 n cap l l _ H.strs (ha.on H.wider) hn hn hl hl (iff_of_true rfl rfl)).mono ?_); rintro e w1 ⟨rfl, g⟩; replace H := H.quiet g; clear g))
          | (go_at_call 21; ((with_reducible refine (zv _).mono ?_); rintro e w1 ⟨rfl, g⟩; replace H := H.quiet g; clear g))
          | (go_at_call 23; ((with_reducible refine (tnum_a v _ hv2 hv1).mono ?_); rintro e w1 ⟨rfl, g⟩; replace H := H.quiet g; clear g))
          | (go_at_call 29; ((with_reducible refine (readlist_1 H s (s.size : Int) hss ss0 ss1 hd hkm).mono ?_); clear H; rintro e w1 ⟨B4, c5, rfl, H⟩))
          | (go_at_call 26; ((with_reducible refine (tlist_a B4 k c5 m _ H.strs hkm b3 b4 b2 b1).mono ?_); rintro e w1 ⟨rfl, g⟩; replace H := H.quiet g; clear g)))
        go_ret
        exact ⟨rfl, H.wider⟩
      · as_aux_lemma =>
        obtain ⟨hd1, hTs⟩ := fore hr0
        subst hr0
        have f1 : ((c : Int) == 0) = false := by rw [beq_eq_false_iff_ne]; rw [bne_iff_ne] at f0; exact f0
        have hkm : ([] : List ByteArray).length = 0 := rfl
        clear back fore RR CC
        go_enter Try.func8, Try.ntmps8
        go_wp2_with (first
          | (go_at_call 13; ((with_reducible refine (awake6_c _).mono ?_); rintro e wa ⟨rfl, g⟩; replace H := H.quiet g; clear g))
          | (go_at_call 25; ((with_reducible refine (large_c A n cap l _ (ha.on H.wider) hn (by omega) hz1 hb).mono ?_); rintro e w9 ⟨rfl, rfl⟩))
          | (go_at_call 23; ((with_reducible refine (zu _).mono ?_); rintro e w1 ⟨rfl, g⟩; replace H := H.quiet g; clear g))
          | (go_at_call 21; ((with_reducible refine (zr _).mono ?_); rintro e w1 ⟨rfl, g⟩; replace H := H.quiet g; clear g))
          | (go_at_call 26; ((with_reducible refine (tlist_a A n cap l _ (ha.on H.wider) hn hl hbl hT hr).mono ?_); rintro e w1 ⟨rfl, g⟩; replace H := H.quiet g; clear g))
          | (go_at_call 29; ((with_reducible refine (readlist_1 H T (n : Int) hTs nn0 nn1 hd1 hn).mono ?_); clear H; rintro e w1 ⟨B, c2, rfl, H⟩))
          | (go_at_call 28; ((with_reducible refine (texts_c B A n c2 n cap l l _ H.strs (ha.on H.wider) hn hn hl hl (iff_of_true rfl rfl)).mono ?_); rintro e w1 ⟨rfl, g⟩; replace H := H.quiet g; clear g))
          | (go_at_call 21; ((with_reducible refine (zv _).mono ?_); rintro e w1 ⟨rfl, g⟩; replace H := H.quiet g; clear g))
          | (go_at_call 23; ((with_reducible refine (tnum_a v _ hv2 hv1).mono ?_); rintro e w1 ⟨rfl, g⟩; replace H := H.quiet g; clear g))
          | (go_at_call 29; ((with_reducible refine (readlist_1 H s (s.size : Int) hss ss0 ss1 hd hkm).mono ?_); clear H; rintro e w1 ⟨B4, c5, rfl, H⟩)))
        go_ret
        exact ⟨rfl, H.wider⟩
      · as_aux_lemma =>
        obtain ⟨hd1, hTs⟩ := fore hr0
        subst hr0
        obtain ⟨b1, b2, b3, b4⟩ := back hc0
        subst hc0
        obtain ⟨k, hkm⟩ : ∃ k, m.length = k := ⟨_, rfl⟩
        rw [hkm] at b3
        clear back fore RR CC
        go_enter Try.func8, Try.ntmps8
        go_wp2_with (first
          | (go_at_call 13; ((with_reducible refine (awake6_c _).mono ?_); rintro e wa ⟨rfl, g⟩; replace H := H.quiet g; clear g))
          | (go_at_call 25; ((with_reducible refine (large_c A n cap l _ (ha.on H.wider) hn (by omega) hz1 hb).mono ?_); rintro e w9 ⟨rfl, rfl⟩))
          | (go_at_call 23; ((with_reducible refine (zu _).mono ?_); rintro e w1 ⟨rfl, g⟩; replace H := H.quiet g; clear g))
          | (go_at_call 21; ((with_reducible refine (zr _).mono ?_); rintro e w1 ⟨rfl, g⟩; replace H := H.quiet g; clear g))
          | (go_at_call 26; ((with_reducible refine (tlist_a A n cap l _ (ha.on H.wider) hn hl hbl hT hr).mono ?_); rintro e w1 ⟨rfl, g⟩; replace H := H.quiet g; clear g))
          | (go_at_call 29; ((with_reducible refine (readlist_1 H T (n : Int) hTs nn0 nn1 hd1 hn).mono ?_); clear H; rintro e w1 ⟨B, c2, rfl, H⟩))
          | (go_at_call 28; ((with_reducible refine (texts_c B A n c2 n cap l l _ H.strs (ha.on H.wider) hn hn hl hl (iff_of_true rfl rfl)).mono ?_); rintro e w1 ⟨rfl, g⟩; replace H := H.quiet g; clear g))
          | (go_at_call 21; ((with_reducible refine (zv _).mono ?_); rintro e w1 ⟨rfl, g⟩; replace H := H.quiet g; clear g))
          | (go_at_call 29; ((with_reducible refine (readlist_1 H s (s.size : Int) hss ss0 ss1 hd hkm).mono ?_); clear H; rintro e w1 ⟨B4, c5, rfl, H⟩))
          | (go_at_call 26; ((with_reducible refine (tlist_a B4 k c5 m _ H.strs hkm b3 b4 b2 b1).mono ?_); rintro e w1 ⟨rfl, g⟩; replace H := H.quiet g; clear g)))
        go_ret
        exact ⟨rfl, H.wider⟩
      · as_aux_lemma =>
        obtain ⟨hd1, hTs⟩ := fore hr0
        subst hr0
        have f1 : ((c : Int) == 0) = false := by rw [beq_eq_false_iff_ne]; rw [bne_iff_ne] at f0; exact f0
        have hkm : ([] : List ByteArray).length = 0 := rfl
        clear back fore RR CC
        go_enter Try.func8, Try.ntmps8
        go_wp2_with (first
          | (go_at_call 13; ((with_reducible refine (awake6_c _).mono ?_); rintro e wa ⟨rfl, g⟩; replace H := H.quiet g; clear g))
          | (go_at_call 25; ((with_reducible refine (large_c A n cap l _ (ha.on H.wider) hn (by omega) hz1 hb).mono ?_); rintro e w9 ⟨rfl, rfl⟩))
          | (go_at_call 23; ((with_reducible refine (zu _).mono ?_); rintro e w1 ⟨rfl, g⟩; replace H := H.quiet g; clear g))
          | (go_at_call 21; ((with_reducible refine (zr _).mono ?_); rintro e w1 ⟨rfl, g⟩; replace H := H.quiet g; clear g))
          | (go_at_call 26; ((with_reducible refine (tlist_a A n cap l _ (ha.on H.wider) hn hl hbl hT hr).mono ?_); rintro e w1 ⟨rfl, g⟩; replace H := H.quiet g; clear g))
          | (go_at_call 29; ((with_reducible refine (readlist_1 H T (n : Int) hTs nn0 nn1 hd1 hn).mono ?_); clear H; rintro e w1 ⟨B, c2, rfl, H⟩))
          | (go_at_call 28; ((with_reducible refine (texts_c B A n c2 n cap l l _ H.strs (ha.on H.wider) hn hn hl hl (iff_of_true rfl rfl)).mono ?_); rintro e w1 ⟨rfl, g⟩; replace H := H.quiet g; clear g))
          | (go_at_call 21; ((with_reducible refine (zv _).mono ?_); rintro e w1 ⟨rfl, g⟩; replace H := H.quiet g; clear g))
          | (go_at_call 29; ((with_reducible refine (readlist_1 H s (s.size : Int) hss ss0 ss1 hd hkm).mono ?_); clear H; rintro e w1 ⟨B4, c5, rfl, H⟩)))
        go_ret
        exact ⟨rfl, H.wider⟩
      · as_aux_lemma =>
        obtain ⟨b1, b2, b3, b4⟩ := back hc0
        subst hc0
        obtain ⟨k, hkm⟩ : ∃ k, m.length = k := ⟨_, rfl⟩
        rw [hkm] at b3
        clear back fore RR CC
        go_enter Try.func8, Try.ntmps8
        go_wp2_with (first
          | (go_at_call 13; ((with_reducible refine (awake6_c _).mono ?_); rintro e wa ⟨rfl, g⟩; replace H := H.quiet g; clear g))
          | (go_at_call 25; ((with_reducible refine (large_c A n cap l _ (ha.on H.wider) hn (by omega) hz1 hb).mono ?_); rintro e w9 ⟨rfl, rfl⟩))
          | (go_at_call 23; ((with_reducible refine (zu _).mono ?_); rintro e w1 ⟨rfl, g⟩; replace H := H.quiet g; clear g))
          | (go_at_call 21; ((with_reducible refine (zr _).mono ?_); rintro e w1 ⟨rfl, g⟩; replace H := H.quiet g; clear g))
          | (go_at_call 26; ((with_reducible refine (tlist_a A n cap l _ (ha.on H.wider) hn hl hbl hT hr).mono ?_); rintro e w1 ⟨rfl, g⟩; replace H := H.quiet g; clear g))
          | (go_at_call 21; ((with_reducible refine (zv _).mono ?_); rintro e w1 ⟨rfl, g⟩; replace H := H.quiet g; clear g))
          | (go_at_call 23; ((with_reducible refine (tnum_a v _ hv2 hv1).mono ?_); rintro e w1 ⟨rfl, g⟩; replace H := H.quiet g; clear g))
          | (go_at_call 29; ((with_reducible refine (readlist_1 H s (s.size : Int) hss ss0 ss1 hd hkm).mono ?_); clear H; rintro e w1 ⟨B4, c5, rfl, H⟩))
          | (go_at_call 26; ((with_reducible refine (tlist_a B4 k c5 m _ H.strs hkm b3 b4 b2 b1).mono ?_); rintro e w1 ⟨rfl, g⟩; replace H := H.quiet g; clear g)))
        go_ret
        exact ⟨rfl, H.wider⟩
      · as_aux_lemma =>
        have f1 : ((c : Int) == 0) = false := by rw [beq_eq_false_iff_ne]; rw [bne_iff_ne] at f0; exact f0
        have hkm : ([] : List ByteArray).length = 0 := rfl
        clear back fore RR CC
        go_enter Try.func8, Try.ntmps8
        go_wp2_with (first
          | (go_at_call 13; ((with_reducible refine (awake6_c _).mono ?_); rintro e wa ⟨rfl, g⟩; replace H := H.quiet g; clear g))
          | (go_at_call 25; ((with_reducible refine (large_c A n cap l _ (ha.on H.wider) hn (by omega) hz1 hb).mono ?_); rintro e w9 ⟨rfl, rfl⟩))
          | (go_at_call 23; ((with_reducible refine (zu _).mono ?_); rintro e w1 ⟨rfl, g⟩; replace H := H.quiet g; clear g))
          | (go_at_call 21; ((with_reducible refine (zr _).mono ?_); rintro e w1 ⟨rfl, g⟩; replace H := H.quiet g; clear g))
          | (go_at_call 26; ((with_reducible refine (tlist_a A n cap l _ (ha.on H.wider) hn hl hbl hT hr).mono ?_); rintro e w1 ⟨rfl, g⟩; replace H := H.quiet g; clear g))
          | (go_at_call 21; ((with_reducible refine (zv _).mono ?_); rintro e w1 ⟨rfl, g⟩; replace H := H.quiet g; clear g))
          | (go_at_call 23; ((with_reducible refine (tnum_a v _ hv2 hv1).mono ?_); rintro e w1 ⟨rfl, g⟩; replace H := H.quiet g; clear g))
          | (go_at_call 29; ((with_reducible refine (readlist_1 H s (s.size : Int) hss ss0 ss1 hd hkm).mono ?_); clear H; rintro e w1 ⟨B4, c5, rfl, H⟩)))
        go_ret
        exact ⟨rfl, H.wider⟩
      · as_aux_lemma =>
        obtain ⟨b1, b2, b3, b4⟩ := back hc0
        subst hc0
        obtain ⟨k, hkm⟩ : ∃ k, m.length = k := ⟨_, rfl⟩
        rw [hkm] at b3
        clear back fore RR CC
        go_enter Try.func8, Try.ntmps8
        go_wp2_with (first
          | (go_at_call 13; ((with_reducible refine (awake6_c _).mono ?_); rintro e wa ⟨rfl, g⟩; replace H := H.quiet g; clear g))
          | (go_at_call 25; ((with_reducible refine (large_c A n cap l _ (ha.on H.wider) hn (by omega) hz1 hb).mono ?_); rintro e w9 ⟨rfl, rfl⟩))
          | (go_at_call 23; ((with_reducible refine (zu _).mono ?_); rintro e w1 ⟨rfl, g⟩; replace H := H.quiet g; clear g))
          | (go_at_call 21; ((with_reducible refine (zr _).mono ?_); rintro e w1 ⟨rfl, g⟩; replace H := H.quiet g; clear g))
          | (go_at_call 26; ((with_reducible refine (tlist_a A n cap l _ (ha.on H.wider) hn hl hbl hT hr).mono ?_); rintro e w1 ⟨rfl, g⟩; replace H := H.quiet g; clear g))
          | (go_at_call 21; ((with_reducible refine (zv _).mono ?_); rintro e w1 ⟨rfl, g⟩; replace H := H.quiet g; clear g))
          | (go_at_call 29; ((with_reducible refine (readlist_1 H s (s.size : Int) hss ss0 ss1 hd hkm).mono ?_); clear H; rintro e w1 ⟨B4, c5, rfl, H⟩))
          | (go_at_call 26; ((with_reducible refine (tlist_a B4 k c5 m _ H.strs hkm b3 b4 b2 b1).mono ?_); rintro e w1 ⟨rfl, g⟩; replace H := H.quiet g; clear g)))
        go_ret
        exact ⟨rfl, H.wider⟩
      · as_aux_lemma =>
        have f1 : ((c : Int) == 0) = false := by rw [beq_eq_false_iff_ne]; rw [bne_iff_ne] at f0; exact f0
        have hkm : ([] : List ByteArray).length = 0 := rfl
        clear back fore RR CC
        go_enter Try.func8, Try.ntmps8
        go_wp2_with (first
          | (go_at_call 13; ((with_reducible refine (awake6_c _).mono ?_); rintro e wa ⟨rfl, g⟩; replace H := H.quiet g; clear g))
          | (go_at_call 25; ((with_reducible refine (large_c A n cap l _ (ha.on H.wider) hn (by omega) hz1 hb).mono ?_); rintro e w9 ⟨rfl, rfl⟩))
          | (go_at_call 23; ((with_reducible refine (zu _).mono ?_); rintro e w1 ⟨rfl, g⟩; replace H := H.quiet g; clear g))
          | (go_at_call 21; ((with_reducible refine (zr _).mono ?_); rintro e w1 ⟨rfl, g⟩; replace H := H.quiet g; clear g))
          | (go_at_call 26; ((with_reducible refine (tlist_a A n cap l _ (ha.on H.wider) hn hl hbl hT hr).mono ?_); rintro e w1 ⟨rfl, g⟩; replace H := H.quiet g; clear g))
          | (go_at_call 21; ((with_reducible refine (zv _).mono ?_); rintro e w1 ⟨rfl, g⟩; replace H := H.quiet g; clear g))
          | (go_at_call 29; ((with_reducible refine (readlist_1 H s (s.size : Int) hss ss0 ss1 hd hkm).mono ?_); clear H; rintro e w1 ⟨B4, c5, rfl, H⟩)))
        go_ret
        exact ⟨rfl, H.wider⟩

set_option maxRecDepth 100000 in
theorem tlvSole_lifted (os : Os) (started : os.Started) (H : Type) (enc : TypeId × Value → H) :
    ReturnsInHanded {} Try.checked os 8 .any (Rows.tlvSoleSpec.pre6 enc Try.prog Try.f8 Rows.tlvSoleRow.domain false) (Rows.tlvSoleSpec.post enc Try.prog Try.f8 false true false false) := by
  refine returnsInHanded_of_change (C := Try.checked) own started (by kernel_rfl) Try.func8
    (ChangeSpec.witness6 (enc := enc) (C := Try.checked) false ⟨#[], #[.int .u64 0, .slice none 0 0, .string ⟨#[]⟩], []⟩ 8 (by kernel_rfl) (by kernel_rfl) (by kernel_rfl) (by kernel_rfl)) ?_
  intro W base args ds gs before hval0 hW hcnd _
  have hval : ∀ (j : Nat) t v, Try.f8.params[j]? = some t → args[j]? = some v → Value.okWide Try.prog W .any base t v := hval0
  have hW' := hW
  obtain ⟨p, q, hA0, hV, rfl, hfz, hnd⟩ := hW
  have hA : DataW.TrodAll enc Try.prog W 0 (fun _ => true) true Try.f8.params.toList args.toList ds p := hA0
  rw [Try.params8] at hA hval
  obtain ⟨v0, vs0, d0, ds0, p0, q0, hargs, rfl, rfl, h0, r0⟩ := trodAll_cons hA
  obtain ⟨v1, vs1, d1, ds1, p1, q1, rfl, rfl, rfl, h1, r1⟩ := trodAll_cons r0
  obtain ⟨v2, vs2, d2, ds2, p2, q2, rfl, rfl, rfl, h2, r2⟩ := trodAll_cons r1
  obtain ⟨rfl, rfl, rfl⟩ := trodAll_nil r2
  obtain rfl : args = #[v0, v1, v2] := by cases args; simp_all
  obtain ⟨rfl, rfl⟩ := trodVars_none hV
  obtain ⟨n0, rfl, rfl, rfl, w0⟩ := open_int Try.underlying40 (hval 0 40 v0 rfl rfl) h0
  have h1k := h1
  obtain ⟨A1, len1, cap1, rfl⟩ := okWide_slice Try.underlying45 (hval 1 45 v1 rfl rfl)
  obtain ⟨fuel1, hf1⟩ := h1
  obtain ⟨l1, hl1, ha1, hm1, hz1⟩ := open_strs Try.underlying45 Try.underlying9 (by kernel_rfl) hf1
  obtain ⟨s2, rfl, rfl, rfl, w2⟩ := open_string Try.underlying9 (hval 2 9 v2 rfl rfl) h2
  clear hA0 hval0
  simp only [List.append_nil] at hW'
  refine (tlvSole_walk W n0 (bounds_u64 w0).1 (bounds_u64 w0).2 A1 len1 cap1 l1 hl1 ha1 hm1 hz1 s2 w2).mono fun e W' ⟨he, hg⟩ => ?_
  subst he
  have hlt : ∀ x ∈ p1, x.block < W.heap.size := fun x hx => by simpa using hW'.lt x hx
  exact ⟨_, rfl, post_of_wider (pv := []) hW' (fun _ _ _ => (trodAll_cons_mk (shut_bool Try.underlying4 _) trodAll_mk0)) (fun sp hsp => (trodAll_cons_mk (shut_int Try.underlying40 w0) (trodAll_cons_mk (WideElems.Trod_stays laid3 (by kernel_rfl) (of_decide_eq_true (by kernel_rfl)) h1k (fun x hx => wsame hg (hlt x (by simp [hx]))) (fun x hx => hsp x (by simp [hx]))) (trodAll_cons_mk (shut_string Try.underlying9 w2) trodAll_mk0)))) (fun _ _ => rfl) (by simp)
    hg (ok_one (by kernel_rfl) rfl (okWide_bool_mk Try.underlying4 _))⟩

theorem tlvSole_holds : Rows.TlvSoleSaid :=
  OpenClaim.holds_of_wide 8 Try.f8 rfl rfl rfl rfl rfl rfl rfl ⟨rfl, rfl, rfl, rfl, rfl⟩ rfl rfl rfl rfl rfl (by kernel_rfl) Try.func8 (by kernel_rfl)
    (of_decide_eq_true (by kernel_rfl)) (by unfold Func.isWrapper; first | (rw [if_pos (by decide +kernel)]; kernel_rfl) | (rw [if_neg (by decide +kernel)]; exact ⟨rfl, rfl⟩))
    (fun os started H enc _ => tlvSole_lifted os started H enc)

#print axioms tlvSole_holds

end Go.Proofs.Ytemfionibnlniaa
