/- The law TlvCodes: the bytes of any attributes, and the attributes of any bytes, are the document's, or they are refused; what is told may be written over. No condition. -/
import Derived.Test.YtemfionibnlniaaTUse
import Derived.Test.YtemfionibnlniaaTArgs
import Derived.Test.YtemfionibnlniaaRowU
import Derived.WalkKit
import Derived.Lib.Hide
import Derived.Deep.DeepCutAuto
import Derived.WalkLawsBesides
import Derived.WalkSpells
import Derived.BigQuiet
import Derived.BigRegion
import Derived.Deep.RegionHeld3
namespace Go.Proofs.Ytemfionibnlniaa
set_option linter.unusedVariables false
open Go.ChangeShapes Go.WideShapes Go.ChangeAt Go.RowKit Go.Joins
open Go.ChangeMaps (open_string shut_string)


set_option maxRecDepth 100000 in
set_option maxHeartbeats 16000000 in
theorem tlvCodes_walk (w : World) (A : Option Addr) (n cap : Nat) (l : List AtN) (hn : l.length = n) (ha : AtsAt w A l) (hm : l.length ≤ maxLen) (hz : ∀ y ∈ l, y.t < 256 ∧ y.v.size ≤ maxLen) (s : ByteArray) (hms : s.size ≤ maxLen) :
    Calls Try.prog 3 #[.slice A n cap, .string s] w fun e w' => e = .returned (.bool true) ∧ Wider w w' := by
  unfold maxLen at hm hz hms
  have H : Own w w [] := Own.nil (Wider.refl w)
  have hz1 : ∀ x ∈ l, x.v.size ≤ 9223372036854775807 := fun x hx => by have := (hz x hx).2; omega
  obtain ⟨b, hb⟩ : ∃ b : Bool, (decide (100000 ≤ bulkA l) || decide (300 < l.length)) = b := ⟨_, rfl⟩
  cases b with
  | true =>
    go_enter Try.func3, Try.ntmps3
    go_wp2_with (first
      | (go_at_call 13; ((with_reducible refine (awake6_c _).mono ?_); rintro e wa ⟨rfl, g⟩; replace H := H.quiet g; clear g))
      | (go_at_call 12; ((with_reducible refine (long_c A n cap l _ (ha.on H.wider) hn (by omega) hz1 hb).mono ?_); rintro e w9 ⟨rfl, rfl⟩)))
    go_ret
    exact ⟨rfl, H.wider⟩
  | false =>
    by_cases h0 : 20000 < s.size
    · have c0 : decide ((20000 : Int) < (s.size : Int)) = true := decide_eq_true (by omega)
      have c1 : decide (20000 < s.size) = true := decide_eq_true h0
      go_enter Try.func3, Try.ntmps3
      go_wp2_with (first
        | (go_at_call 13; ((with_reducible refine (awake6_c _).mono ?_); rintro e wa ⟨rfl, g⟩; replace H := H.quiet g; clear g))
        | (go_at_call 12; ((with_reducible refine (long_c A n cap l _ (ha.on H.wider) hn (by omega) hz1 hb).mono ?_); rintro e w9 ⟨rfl, rfl⟩)))
      go_ret
      exact ⟨rfl, H.wider⟩
    · have c0 : decide ((20000 : Int) < (s.size : Int)) = false := decide_eq_false (by omega)
      have c1 : decide (20000 < s.size) = false := decide_eq_false h0
      have hb2 := hb
      rw [Bool.or_eq_false_iff, decide_eq_false_iff_not, decide_eq_false_iff_not] at hb2
      have hk : bulkA l < 100000 := by omega
      have hl : n < 1000000 := by omega
      have ht : ∀ x ∈ l, x.t < 256 := fun x hx => (hz x hx).1
      have hbl : (bytsA l).length < 1000000 := by have := bulkA_bytes l hk; omega
      have hv : ∀ x ∈ l, x.v.size < 1000000 := fun x hx => by have := bulkA_each l hk x hx; omega
      obtain ⟨T, hT⟩ : ∃ T, encA l = T := ⟨_, rfl⟩
      obtain ⟨r, hr⟩ : ∃ r, okA 0 l = r := ⟨_, rfl⟩
      obtain ⟨⟨m, c⟩, hd⟩ : ∃ p, decA [] 0 s.data.toList = p := ⟨_, rfl⟩
      obtain ⟨k, hkm⟩ : ∃ k, m.length = k := ⟨_, rfl⟩
      have hss : s.size < 1000000 := by omega
      have hk1 : k < 1000000 := by
        rcases decA_bad _ s.data.toList rfl [] 0 with q | q
        · have hd2 := hd
          rw [hd] at q
          simp only at q
          subst q
          obtain ⟨l2, e1, e2, _, _⟩ := decA_inv _ s.data.toList rfl [] 0 m hd2
          rw [List.nil_append] at e1
          subst e1
          have hl2 : (bytsA m).length = s.size := by rw [← e2, size_data]
          have := (bytsA_len m).1
          omega
        · rw [hd] at q; simp only at q; rw [← hkm, q]; decide
      go_enter Try.func3, Try.ntmps3
      go_upto_region 9 with (first
        | (go_at_call 13; ((with_reducible refine (awake6_c _).mono ?_); rintro e wa ⟨rfl, g⟩; replace H := H.quiet g; clear g))
        | (go_at_call 12; ((with_reducible refine (long_c A n cap l _ (ha.on H.wider) hn (by omega) hz1 hb).mono ?_); rintro e w9 ⟨rfl, rfl⟩))
        | (go_at_call 14; ((with_reducible refine (attrs_1 H A n cap l (ha.on H.wider) hn hl).mono ?_); clear H; rintro e w1 ⟨B, c2, rfl, H⟩))
        | (go_at_call 15; ((with_reducible refine (tenc_a B n c2 l _ H.ats hn hl ht hbl hv hT hr).mono ?_); rintro e w1 ⟨rfl, g⟩; replace H := H.quiet g; clear g))
        | (go_at_call 16; ((with_reducible refine (renc_c A n cap l _ (ha.on H.wider) hn hl hbl hT hr).mono ?_); rintro e w1 ⟨rfl, g⟩; replace H := H.quiet g; clear g))
        | (go_at_call 18; ((with_reducible refine (plain_1 H B n c2 l H.ats hn hl).mono ?_); clear H; rintro e w1 ⟨B3, c4, rfl, H⟩))
        | (go_at_call 17; ((with_reducible refine (same_c B3 A n c4 n cap l l _ H.ats (ha.on H.wider) hn hn hl hl (iff_of_true rfl rfl)).mono ?_); rintro e w1 ⟨rfl, g⟩; replace H := H.quiet g; clear g)))
      replace H := H.drop.drop
      go_loopw [10] (fun q wr => ∃ j : Nat, j ≤ 2 ∧ q = .int .i64 (j : Int) ∧ Own w9 wr []) (fun q _ => 2 - (intOf q).toNat)
      case atStart => exact ⟨0, by omega, by simp, H⟩
      case round =>
        clear H
        obtain ⟨j, hj, rfl, H⟩ := hrel
        by_cases cj : j < 2
        · have j0 : (j : Int) < 2 := by omega
          go_upto_region 16 with (first
            | (go_at_call 19; ((with_reducible refine (dec_1 H s hss hd hkm).mono ?_); clear H; rintro e w1 ⟨B4, c5, rfl, H⟩))
            | (go_at_call 20; ((with_reducible refine (rdec_1 H s hss hd hkm).mono ?_); clear H; rintro e w1 ⟨B5, c6, rfl, H⟩))
            | (go_at_call 18; ((with_reducible refine (plain_1 H B4 k c5 m H.drop.ats hkm hk1).mono ?_); clear H; rintro e w1 ⟨B6, c7, rfl, H⟩))
            | (go_at_call 17; ((with_reducible refine (same_c B6 B5 k c7 k c6 m m _ H.ats H.drop.ats hkm hkm hk1 hk1 (iff_of_true rfl rfl)).mono ?_); rintro e w1 ⟨rfl, g⟩; replace H := H.quiet g; clear g)))
          replace H := H.drop.drop
          go_loopw [15] (fun q wr => ∃ i : Nat, i ≤ k ∧ q = .int .i64 (i : Int) ∧ ∃ xs, Own w9 wr [rowT 38 2 (.slice B4 k c5) k xs]) (fun q _ => k - (intOf q).toNat)
          case atStart => exact ⟨0, by omega, by simp, _, H⟩
          case round =>
            clear H
            obtain ⟨i, hi2, rfl, xs, H⟩ := hrel
            by_cases ci : i < k
            · have i0 : (0 : Int) ≤ (i : Int) := by omega
              have i1 : (i : Int) < (k : Int) := by omega
              obtain ⟨g, rfl, ⟨u, hu⟩, ⟨u2, hu2⟩, hf, hf2, hp⟩ := H.poke2 ci
              have HP := Lib.hid (hp (.int .u8 0) (.string ⟨#[115, 112, 111, 105, 108, 116]⟩) rfl rfl)
              clear hp H
              go_wp2
              go_roundw
              case rel => exact ⟨i + 1, by omega, by go_num, _, HP.out⟩
              case measure => simp [intOf]; omega
            · have i1 : ¬ (i : Int) < (k : Int) := by omega
              go_wp2
              go_roundw
              case rel => exact ⟨j + 1, by omega, by go_num, H.drop⟩
              case measure => simp [intOf]; omega
        · have j0 : ¬ (j : Int) < 2 := by omega
          go_wp2_with (first
            | (go_at_call 13; ((with_reducible refine (awake6_c _).mono ?_); rintro e wa ⟨rfl, g⟩; replace H := H.quiet g; clear g)))
          go_ret
          exact ⟨rfl, H.wider⟩

set_option maxRecDepth 100000 in
theorem tlvCodes_lifted (os : Os) (started : os.Started) (H : Type) (enc : TypeId × Value → H) :
    ReturnsInHanded {} Try.checked os 3 .any (Rows.tlvCodesSpec.pre6 enc Try.prog Try.f3 Rows.tlvCodesRow.domain false) (Rows.tlvCodesSpec.post enc Try.prog Try.f3 false true false false) := by
  refine returnsInHanded_of_change (C := Try.checked) own started (by kernel_rfl) Try.func3
    (ChangeSpec.witness6 (enc := enc) (C := Try.checked) false ⟨#[], #[.slice none 0 0, .string ⟨#[]⟩], []⟩ 8 (by kernel_rfl) (by kernel_rfl) (by kernel_rfl) (by kernel_rfl)) ?_
  intro W base args ds gs before hval0 hW hcnd _
  have hval : ∀ (j : Nat) t v, Try.f3.params[j]? = some t → args[j]? = some v → Value.okWide Try.prog W .any base t v := hval0
  have hW' := hW
  obtain ⟨p, q, hA0, hV, rfl, hfz, hnd⟩ := hW
  have hA : DataW.TrodAll enc Try.prog W 0 (fun _ => true) true Try.f3.params.toList args.toList ds p := hA0
  rw [Try.params3] at hA hval
  obtain ⟨v0, vs0, d0, ds0, p0, q0, hargs, rfl, rfl, h0, r0⟩ := trodAll_cons hA
  obtain ⟨v1, vs1, d1, ds1, p1, q1, rfl, rfl, rfl, h1, r1⟩ := trodAll_cons r0
  obtain ⟨rfl, rfl, rfl⟩ := trodAll_nil r1
  obtain rfl : args = #[v0, v1] := by cases args; simp_all
  obtain ⟨rfl, rfl⟩ := trodVars_none hV
  have h0k := h0
  obtain ⟨A0, len0, cap0, rfl⟩ := okWide_slice Try.underlying22 (hval 0 22 v0 rfl rfl)
  obtain ⟨fuel0, hf0⟩ := h0
  obtain ⟨l0, hl0, ha0, hm0, hz0⟩ := open_ats hf0
  obtain ⟨s1, rfl, rfl, rfl, w1⟩ := open_string Try.underlying9 (hval 1 9 v1 rfl rfl) h1
  clear hA0 hval0
  simp only [List.append_nil] at hW'
  refine (tlvCodes_walk W A0 len0 cap0 l0 hl0 ha0 hm0 hz0 s1 w1).mono fun e W' ⟨he, hg⟩ => ?_
  subst he
  have hlt : ∀ x ∈ p0, x.block < W.heap.size := fun x hx => by simpa using hW'.lt x hx
  exact ⟨_, rfl, post_of_wider (pv := []) hW' (fun _ _ _ => (trodAll_cons_mk (shut_bool Try.underlying4 _) trodAll_mk0)) (fun sp hsp => (trodAll_cons_mk (WideElems.Trod_stays laid3 (by kernel_rfl) (of_decide_eq_true (by kernel_rfl)) h0k (fun x hx => wsame hg (hlt x (by simp [hx]))) (fun x hx => hsp x (by simp [hx]))) (trodAll_cons_mk (shut_string Try.underlying9 w1) trodAll_mk0))) (fun _ _ => rfl) (by simp)
    hg (ok_one (by kernel_rfl) rfl (okWide_bool_mk Try.underlying4 _))⟩

theorem tlvCodes_holds : Rows.TlvCodesSaid :=
  OpenClaim.holds_of_wide 3 Try.f3 rfl rfl rfl rfl rfl rfl rfl ⟨rfl, rfl, rfl, rfl, rfl⟩ rfl rfl rfl rfl rfl (by kernel_rfl) Try.func3 (by kernel_rfl)
    (of_decide_eq_true (by kernel_rfl)) (by unfold Func.isWrapper; first | (rw [if_pos (by decide +kernel)]; kernel_rfl) | (rw [if_neg (by decide +kernel)]; exact ⟨rfl, rfl⟩))
    (fun os started H enc _ => tlvCodes_lifted os started H enc)

#print axioms tlvCodes_holds

end Go.Proofs.Ytemfionibnlniaa
