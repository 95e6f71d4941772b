/- The law TlvOne: Decode of Encode is the attributes, and what is decoded is encoded as it was. No condition. -/
import Derived.Test.YtemfionibnlniaaTUse
import Derived.Test.YtemfionibnlniaaTArgs
import Derived.WalkKit
import Derived.Lib.Hide
import Derived.Deep.DeepCutAuto
import Derived.WalkLawsBesides
import Derived.WalkSpells
import Derived.BigQuiet
import Derived.BigRegion
import Derived.Deep.RegionHeld3
namespace Go.Proofs.Ytemfionibnlniaa
set_option linter.unusedVariables false
open Go.ChangeShapes Go.WideShapes Go.ChangeAt Go.RowKit Go.Joins
open Go.ChangeMaps (open_string shut_string)


set_option maxRecDepth 100000 in
set_option maxHeartbeats 16000000 in
theorem tlvOne_walk (w : World) (A : Option Addr) (n cap : Nat) (l : List AtN) (hn : l.length = n) (ha : AtsAt w A l) (hm : l.length ≤ maxLen) (hz : ∀ y ∈ l, y.t < 256 ∧ y.v.size ≤ maxLen) (s : ByteArray) (hms : s.size ≤ maxLen) :
    Calls Try.prog 7 #[.slice A n cap, .string s] w fun e w' => e = .returned (.bool true) ∧ Wider w w' := by
  unfold maxLen at hm hz hms
  have H : Own w w [] := Own.nil (Wider.refl w)
  have hz1 : ∀ x ∈ l, x.v.size ≤ 9223372036854775807 := fun x hx => by have := (hz x hx).2; omega
  obtain ⟨b, hb⟩ : ∃ b : Bool, (decide (100000 ≤ bulkA l) || decide (300 < l.length)) = b := ⟨_, rfl⟩
  cases b with
  | true =>
    go_enter Try.func7, Try.ntmps7
    go_wp2_with (first
      | (go_at_call 13; ((with_reducible refine (awake6_c _).mono ?_); rintro e wa ⟨rfl, g⟩; replace H := H.quiet g; clear g))
      | (go_at_call 12; ((with_reducible refine (long_c A n cap l _ (ha.on H.wider) hn (by omega) hz1 hb).mono ?_); rintro e w9 ⟨rfl, rfl⟩)))
    go_ret
    exact ⟨rfl, H.wider⟩
  | false =>
    by_cases h0 : 20000 < s.size
    · have c0 : decide ((20000 : Int) < (s.size : Int)) = true := decide_eq_true (by omega)
      have c1 : decide (20000 < s.size) = true := decide_eq_true h0
      go_enter Try.func7, Try.ntmps7
      go_wp2_with (first
        | (go_at_call 13; ((with_reducible refine (awake6_c _).mono ?_); rintro e wa ⟨rfl, g⟩; replace H := H.quiet g; clear g))
        | (go_at_call 12; ((with_reducible refine (long_c A n cap l _ (ha.on H.wider) hn (by omega) hz1 hb).mono ?_); rintro e w9 ⟨rfl, rfl⟩)))
      go_ret
      exact ⟨rfl, H.wider⟩
    · have c0 : decide ((20000 : Int) < (s.size : Int)) = false := decide_eq_false (by omega)
      have c1 : decide (20000 < s.size) = false := decide_eq_false h0
      have hb2 := hb
      rw [Bool.or_eq_false_iff, decide_eq_false_iff_not, decide_eq_false_iff_not] at hb2
      have hk : bulkA l < 100000 := by omega
      have hl : n < 1000000 := by omega
      have ht : ∀ x ∈ l, x.t < 256 := fun x hx => (hz x hx).1
      have hbl : (bytsA l).length < 1000000 := by have := bulkA_bytes l hk; omega
      have hv : ∀ x ∈ l, x.v.size < 1000000 := fun x hx => by have := bulkA_each l hk x hx; omega
      obtain ⟨T, hT⟩ : ∃ T, encA l = T := ⟨_, rfl⟩
      obtain ⟨r, hr⟩ : ∃ r, okA 0 l = r := ⟨_, rfl⟩
      obtain ⟨⟨m, c⟩, hd⟩ : ∃ p, decA [] 0 s.data.toList = p := ⟨_, rfl⟩
      have hss : s.size < 1000000 := by omega
      have hbad := decA_bad _ s.data.toList rfl [] 0
      rw [hd] at hbad
      have back : c = 0 → okA 0 m = 0 ∧ encA m = s ∧ (∀ x ∈ m, x.t < 256) ∧ m.length < 1000000 ∧ (bytsA m).length < 1000000 ∧ (∀ x ∈ m, x.v.size < 1000000) := fun hc => by
        subst hc
        obtain ⟨l2, e1, e2, e3, e4⟩ := decA_inv _ s.data.toList rfl [] 0 m hd
        rw [List.nil_append] at e1
        subst e1
        have hl2 : (bytsA m).length = s.size := by rw [← e2, size_data]
        have q := bytsA_len m
        refine ⟨e3, ?_, e4, by omega, by omega, fun x hx => by have := q.2 x hx; omega⟩
        rw [encA_good e3, ← e2, mkB_of]
      by_cases hr0 : r = 0
      · subst hr0
        have hT2 := hT
        rw [encA_good hr] at hT2
        have hTd : T.data.toList = bytsA l := by rw [← hT2, mkB_data]
        have hTs : T.size < 1000000 := by rw [size_data, hTd]; exact hbl
        have hd1 : decA [] 0 T.data.toList = (l, 0) := by
          have e := decA_enc l [] 0 [] hr ht
          rw [List.append_nil, List.nil_append, decA_nil] at e
          rw [hTd]; exact e
        clear hT2 hTd
        by_cases hc0 : c = 0
        · obtain ⟨b1, b2, b3, b4, b5, b6⟩ := back hc0
          subst hc0
          obtain ⟨k, hkm⟩ : ∃ k, m.length = k := ⟨_, rfl⟩
          rw [hkm] at b4
          clear back hbad
          go_enter Try.func7, Try.ntmps7
          go_wp2_with (first
            | (go_at_call 13; ((with_reducible refine (awake6_c _).mono ?_); rintro e wa ⟨rfl, g⟩; replace H := H.quiet g; clear g))
            | (go_at_call 12; ((with_reducible refine (long_c A n cap l _ (ha.on H.wider) hn (by omega) hz1 hb).mono ?_); rintro e w9 ⟨rfl, rfl⟩))
            | (go_at_call 14; ((with_reducible refine (attrs_1 H A n cap l (ha.on H.wider) hn hl).mono ?_); clear H; rintro e w1 ⟨B, c2, rfl, H⟩))
            | (go_at_call 15; ((with_reducible refine (tenc_a B n c2 l _ H.ats hn hl ht hbl hv hT hr).mono ?_); rintro e w1 ⟨rfl, g⟩; replace H := H.quiet g; clear g))
            | (go_at_call 19; ((with_reducible refine (dec_1 H T hTs hd1 hn).mono ?_); clear H; rintro e w1 ⟨B2, c3, rfl, H⟩))
            | (go_at_call 18; ((with_reducible refine (plain_1 H B2 n c3 l H.ats hn hl).mono ?_); clear H; rintro e w1 ⟨B3, c4, rfl, H⟩))
            | (go_at_call 17; ((with_reducible refine (same_c B3 A n c4 n cap l l _ H.ats (ha.on H.wider) hn hn hl hl (iff_of_true rfl rfl)).mono ?_); rintro e w1 ⟨rfl, g⟩; replace H := H.quiet g; clear g))
            | (go_at_call 19; ((with_reducible refine (dec_1 H s hss hd hkm).mono ?_); clear H; rintro e w1 ⟨B4, c5, rfl, H⟩))
            | (go_at_call 15; ((with_reducible refine (tenc_a B4 k c5 m _ H.ats hkm b4 b3 b5 b6 b2 b1).mono ?_); rintro e w1 ⟨rfl, g⟩; replace H := H.quiet g; clear g)))
          go_ret
          exact ⟨rfl, H.wider⟩
        · obtain rfl : m = [] := by rcases hbad with q | q; exact absurd q hc0; exact q
          have f0 : ((c : Int) != 0) = true := by rw [bne_iff_ne]; omega
          have f1 : ((c : Int) == 0) = false := by rw [beq_eq_false_iff_ne]; omega
          have hkm : ([] : List AtN).length = 0 := rfl
          clear back hbad hc0
          go_enter Try.func7, Try.ntmps7
          go_wp2_with (first
            | (go_at_call 13; ((with_reducible refine (awake6_c _).mono ?_); rintro e wa ⟨rfl, g⟩; replace H := H.quiet g; clear g))
            | (go_at_call 12; ((with_reducible refine (long_c A n cap l _ (ha.on H.wider) hn (by omega) hz1 hb).mono ?_); rintro e w9 ⟨rfl, rfl⟩))
            | (go_at_call 14; ((with_reducible refine (attrs_1 H A n cap l (ha.on H.wider) hn hl).mono ?_); clear H; rintro e w1 ⟨B, c2, rfl, H⟩))
            | (go_at_call 15; ((with_reducible refine (tenc_a B n c2 l _ H.ats hn hl ht hbl hv hT hr).mono ?_); rintro e w1 ⟨rfl, g⟩; replace H := H.quiet g; clear g))
            | (go_at_call 19; ((with_reducible refine (dec_1 H T hTs hd1 hn).mono ?_); clear H; rintro e w1 ⟨B2, c3, rfl, H⟩))
            | (go_at_call 18; ((with_reducible refine (plain_1 H B2 n c3 l H.ats hn hl).mono ?_); clear H; rintro e w1 ⟨B3, c4, rfl, H⟩))
            | (go_at_call 17; ((with_reducible refine (same_c B3 A n c4 n cap l l _ H.ats (ha.on H.wider) hn hn hl hl (iff_of_true rfl rfl)).mono ?_); rintro e w1 ⟨rfl, g⟩; replace H := H.quiet g; clear g))
            | (go_at_call 19; ((with_reducible refine (dec_1 H s hss hd hkm).mono ?_); clear H; rintro e w1 ⟨B4, c5, rfl, H⟩)))
          go_ret
          exact ⟨rfl, H.wider⟩
      · have e0 : ((r : Int) == 0) = false := by rw [beq_eq_false_iff_ne]; omega
        by_cases hc0 : c = 0
        · obtain ⟨b1, b2, b3, b4, b5, b6⟩ := back hc0
          subst hc0
          obtain ⟨k, hkm⟩ : ∃ k, m.length = k := ⟨_, rfl⟩
          rw [hkm] at b4
          clear back hbad hr0
          go_enter Try.func7, Try.ntmps7
          go_wp2_with (first
            | (go_at_call 13; ((with_reducible refine (awake6_c _).mono ?_); rintro e wa ⟨rfl, g⟩; replace H := H.quiet g; clear g))
            | (go_at_call 12; ((with_reducible refine (long_c A n cap l _ (ha.on H.wider) hn (by omega) hz1 hb).mono ?_); rintro e w9 ⟨rfl, rfl⟩))
            | (go_at_call 14; ((with_reducible refine (attrs_1 H A n cap l (ha.on H.wider) hn hl).mono ?_); clear H; rintro e w1 ⟨B, c2, rfl, H⟩))
            | (go_at_call 15; ((with_reducible refine (tenc_a B n c2 l _ H.ats hn hl ht hbl hv hT hr).mono ?_); rintro e w1 ⟨rfl, g⟩; replace H := H.quiet g; clear g))
            | (go_at_call 19; ((with_reducible refine (dec_1 H s hss hd hkm).mono ?_); clear H; rintro e w1 ⟨B4, c5, rfl, H⟩))
            | (go_at_call 15; ((with_reducible refine (tenc_a B4 k c5 m _ H.ats hkm b4 b3 b5 b6 b2 b1).mono ?_); rintro e w1 ⟨rfl, g⟩; replace H := H.quiet g; clear g)))
          go_ret
          exact ⟨rfl, H.wider⟩
        · obtain rfl : m = [] := by rcases hbad with q | q; exact absurd q hc0; exact q
          have f0 : ((c : Int) != 0) = true := by rw [bne_iff_ne]; omega
          have f1 : ((c : Int) == 0) = false := by rw [beq_eq_false_iff_ne]; omega
          have hkm : ([] : List AtN).length = 0 := rfl
          clear back hbad hc0 hr0
          go_enter Try.func7, Try.ntmps7
          go_wp2_with (first
            | (go_at_call 13; ((with_reducible refine (awake6_c _).mono ?_); rintro e wa ⟨rfl, g⟩; replace H := H.quiet g; clear g))
            | (go_at_call 12; ((with_reducible refine (long_c A n cap l _ (ha.on H.wider) hn (by omega) hz1 hb).mono ?_); rintro e w9 ⟨rfl, rfl⟩))
            | (go_at_call 14; ((with_reducible refine (attrs_1 H A n cap l (ha.on H.wider) hn hl).mono ?_); clear H; rintro e w1 ⟨B, c2, rfl, H⟩))
            | (go_at_call 15; ((with_reducible refine (tenc_a B n c2 l _ H.ats hn hl ht hbl hv hT hr).mono ?_); rintro e w1 ⟨rfl, g⟩; replace H := H.quiet g; clear g))
            | (go_at_call 19; ((with_reducible refine (dec_1 H s hss hd hkm).mono ?_); clear H; rintro e w1 ⟨B4, c5, rfl, H⟩)))
          go_ret
          exact ⟨rfl, H.wider⟩

set_option maxRecDepth 100000 in
theorem tlvOne_lifted (os : Os) (started : os.Started) (H : Type) (enc : TypeId × Value → H) :
    ReturnsInHanded {} Try.checked os 7 .any (Rows.tlvOneSpec.pre6 enc Try.prog Try.f7 Rows.tlvOneRow.domain false) (Rows.tlvOneSpec.post enc Try.prog Try.f7 false true false false) := by
  refine returnsInHanded_of_change (C := Try.checked) own started (by kernel_rfl) Try.func7
    (ChangeSpec.witness6 (enc := enc) (C := Try.checked) false ⟨#[], #[.slice none 0 0, .string ⟨#[]⟩], []⟩ 8 (by kernel_rfl) (by kernel_rfl) (by kernel_rfl) (by kernel_rfl)) ?_
  intro W base args ds gs before hval0 hW hcnd _
  have hval : ∀ (j : Nat) t v, Try.f7.params[j]? = some t → args[j]? = some v → Value.okWide Try.prog W .any base t v := hval0
  have hW' := hW
  obtain ⟨p, q, hA0, hV, rfl, hfz, hnd⟩ := hW
  have hA : DataW.TrodAll enc Try.prog W 0 (fun _ => true) true Try.f7.params.toList args.toList ds p := hA0
  rw [Try.params7] at hA hval
  obtain ⟨v0, vs0, d0, ds0, p0, q0, hargs, rfl, rfl, h0, r0⟩ := trodAll_cons hA
  obtain ⟨v1, vs1, d1, ds1, p1, q1, rfl, rfl, rfl, h1, r1⟩ := trodAll_cons r0
  obtain ⟨rfl, rfl, rfl⟩ := trodAll_nil r1
  obtain rfl : args = #[v0, v1] := by cases args; simp_all
  obtain ⟨rfl, rfl⟩ := trodVars_none hV
  have h0k := h0
  obtain ⟨A0, len0, cap0, rfl⟩ := okWide_slice Try.underlying22 (hval 0 22 v0 rfl rfl)
  obtain ⟨fuel0, hf0⟩ := h0
  obtain ⟨l0, hl0, ha0, hm0, hz0⟩ := open_ats hf0
  obtain ⟨s1, rfl, rfl, rfl, w1⟩ := open_string Try.underlying9 (hval 1 9 v1 rfl rfl) h1
  clear hA0 hval0
  simp only [List.append_nil] at hW'
  refine (tlvOne_walk W A0 len0 cap0 l0 hl0 ha0 hm0 hz0 s1 w1).mono fun e W' ⟨he, hg⟩ => ?_
  subst he
  have hlt : ∀ x ∈ p0, x.block < W.heap.size := fun x hx => by simpa using hW'.lt x hx
  exact ⟨_, rfl, post_of_wider (pv := []) hW' (fun _ _ _ => (trodAll_cons_mk (shut_bool Try.underlying4 _) trodAll_mk0)) (fun sp hsp => (trodAll_cons_mk (WideElems.Trod_stays laid3 (by kernel_rfl) (of_decide_eq_true (by kernel_rfl)) h0k (fun x hx => wsame hg (hlt x (by simp [hx]))) (fun x hx => hsp x (by simp [hx]))) (trodAll_cons_mk (shut_string Try.underlying9 w1) trodAll_mk0))) (fun _ _ => rfl) (by simp)
    hg (ok_one (by kernel_rfl) rfl (okWide_bool_mk Try.underlying4 _))⟩

theorem tlvOne_holds : Rows.TlvOneSaid :=
  OpenClaim.holds_of_wide 7 Try.f7 rfl rfl rfl rfl rfl rfl rfl ⟨rfl, rfl, rfl, rfl, rfl⟩ rfl rfl rfl rfl rfl (by kernel_rfl) Try.func7 (by kernel_rfl)
    (of_decide_eq_true (by kernel_rfl)) (by unfold Func.isWrapper; first | (rw [if_pos (by decide +kernel)]; kernel_rfl) | (rw [if_neg (by decide +kernel)]; exact ⟨rfl, rfl⟩))
    (fun os started H enc _ => tlvOne_lifted os started H enc)

#print axioms tlvOne_holds

end Go.Proofs.Ytemfionibnlniaa
