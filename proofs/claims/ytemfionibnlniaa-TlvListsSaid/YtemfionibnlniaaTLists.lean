/- The law TlvLists: the bytes of any list, and the list of any bytes, are the document's, or they are refused; what is told may be written over. No condition. -/
import Derived.Test.YtemfionibnlniaaTUse
import Derived.Test.YtemfionibnlniaaTArgs
import Derived.Test.YtemfionibnlniaaRowU
import Derived.WalkKit
import Derived.Lib.Hide
import Derived.Deep.DeepCutAuto
import Derived.WalkLawsBesides
import Derived.WalkSpells
import Derived.BigQuiet
import Derived.BigRegion
import Derived.Deep.RegionHeld3
namespace Go.Proofs.Ytemfionibnlniaa
set_option linter.unusedVariables false
open Go.ChangeShapes Go.WideShapes Go.ChangeAt Go.RowKit Go.Joins
open Go.ChangeMaps (open_string shut_string)


set_option maxRecDepth 100000 in
set_option maxHeartbeats 16000000 in
theorem tlvLists_walk (w : World) (A : Option Addr) (n cap : Nat) (l : List ByteArray) (hn : l.length = n) (ha : StrsAt w A l) (hm : l.length ≤ maxLen) (hz : ∀ y ∈ l, y.size ≤ maxLen) (s : ByteArray) (hms : s.size ≤ maxLen) (most : Int) (m0 : -9223372036854775808 ≤ most) (m1 : most ≤ 9223372036854775807) :
    Calls Try.prog 5 #[.slice A n cap, .string s, .int .i64 most] w fun e w' => e = .returned (.bool true) ∧ Wider w w' := by
  unfold maxLen at hm hz hms
  have H : Own w w [] := Own.nil (Wider.refl w)
  have hz1 : ∀ x ∈ l, x.size ≤ 9223372036854775807 := fun x hx => by have := hz x hx; omega
  obtain ⟨b, hb⟩ : ∃ b : Bool, decide (100000 ≤ bulkS l) = b := ⟨_, rfl⟩
  cases b with
  | true =>
    go_enter Try.func5, Try.ntmps5
    go_wp2_with (first
      | (go_at_call 13; ((with_reducible refine (awake6_c _).mono ?_); rintro e wa ⟨rfl, g⟩; replace H := H.quiet g; clear g))
      | (go_at_call 25; ((with_reducible refine (large_c A n cap l _ (ha.on H.wider) hn (by omega) hz1 hb).mono ?_); rintro e w9 ⟨rfl, rfl⟩)))
    go_ret
    exact ⟨rfl, H.wider⟩
  | false =>
    by_cases h0 : 20000 < s.size
    · have c0 : decide ((20000 : Int) < (s.size : Int)) = true := decide_eq_true (by omega)
      have c1 : decide (20000 < s.size) = true := decide_eq_true h0
      go_enter Try.func5, Try.ntmps5
      go_wp2_with (first
        | (go_at_call 13; ((with_reducible refine (awake6_c _).mono ?_); rintro e wa ⟨rfl, g⟩; replace H := H.quiet g; clear g))
        | (go_at_call 25; ((with_reducible refine (large_c A n cap l _ (ha.on H.wider) hn (by omega) hz1 hb).mono ?_); rintro e w9 ⟨rfl, rfl⟩)))
      go_ret
      exact ⟨rfl, H.wider⟩
    · have c0 : decide ((20000 : Int) < (s.size : Int)) = false := decide_eq_false (by omega)
      have c1 : decide (20000 < s.size) = false := decide_eq_false h0
      have hk : bulkS l < 100000 := by have := of_decide_eq_false hb; omega
      have hl : n < 1000000 := by have := bulkS_len l; omega
      have hbl : (bytsT l).length < 1000000 := by have := bulkS_bytes l hk; omega
      obtain ⟨T, hT⟩ : ∃ T, encT l = T := ⟨_, rfl⟩
      obtain ⟨r, hr⟩ : ∃ r, okT l = r := ⟨_, rfl⟩
      obtain ⟨⟨m, c⟩, hd⟩ : ∃ p, decT [] most s.data.toList = p := ⟨_, rfl⟩
      obtain ⟨k, hkm⟩ : ∃ k, m.length = k := ⟨_, rfl⟩
      have hss : s.size < 1000000 := by omega
      have hk1 : k < 1000000 := by
        rcases decT_bad _ s.data.toList rfl [] most with q | q
        · have hd2 := hd
          rw [hd] at q
          simp only at q
          subst q
          obtain ⟨l2, e1, e2, _, _⟩ := decT_inv _ s.data.toList rfl [] most m hd2
          rw [List.nil_append] at e1
          subst e1
          have hl2 : (bytsT m).length = s.size := by rw [← e2, size_data]
          have := (bytsT_len m).1
          omega
        · rw [hd] at q; simp only at q; rw [← hkm, q]; decide
      obtain ⟨i0, hi, hz0, hz1', hz2⟩ := info_parts infoStr
      have hL1 : Hid ((cellsS l).length = n * 1) := by show _ = _; rw [cellsS_length, hn]; omega
      have hL0 : Hid (A = none → n = 0) := fun e => by rw [← hn, ha.none_ e]; rfl
      have hL2 : Hid (∀ W : World, Wider w W → ∀ a, A = some a → ∀ j u, (cellsS l)[j]? = some u → W.cell? (a.add j) = some u) := fun W g a e j u hu => by
        obtain ⟨x, hx, rfl⟩ : ∃ x, l[j]? = some x ∧ Value.string x = u := by simpa [cellsS] using hu
        exact (ha.on g).cell a e j x hx
      have hL3 : Hid (0 + n ≤ maxLen) := by show _ ≤ _; unfold maxLen; omega
      have hL4 : Hid ((0 + n) * 16 ≤ 140737488355328) := by show _ ≤ _; omega
      have hL5 : Hid (0 + n = n) := Nat.zero_add n
      go_enter Try.func5, Try.ntmps5
      go_upto_region 9 with (first
        | (go_at_call 13; ((with_reducible refine (awake6_c _).mono ?_); rintro e wa ⟨rfl, g⟩; replace H := H.quiet g; clear g))
        | (go_at_call 25; ((with_reducible refine (large_c A n cap l _ (ha.on H.wider) hn (by omega) hz1 hb).mono ?_); rintro e w9 ⟨rfl, rfl⟩))
        | (at_builtin; refine wpList_append_lone rfl (.tmp 26) (.tmp 27) 45 rfl 9 i0 (.string ⟨#[]⟩) 1 16 Try.underlying45 hi hz0 hz1' hz2 rfl (by decide) _ _ _ rfl (H.empty 9 1) A n cap (cellsS l) rfl hL1.out hL0.out (hL2.out _ (H.empty 9 1).wider) (cellsS_one l) hL3.out hL4.out hL5.out (List.nil_append _) ?_; clear H; intro B c2 w1 H)
        | (go_at_call 26; ((with_reducible refine (tlist_a B n c2 l _ H.strs hn hl hbl hT hr).mono ?_); rintro e w1 ⟨rfl, g⟩; replace H := H.quiet g; clear g))
        | (go_at_call 27; ((with_reducible refine (rlist_c A n cap l _ (ha.on H.wider) hn hl hbl hT hr).mono ?_); rintro e w1 ⟨rfl, g⟩; replace H := H.quiet g; clear g))
        | (go_at_call 28; ((with_reducible refine (texts_c B A n c2 n cap l l _ H.strs (ha.on H.wider) hn hn hl hl (iff_of_true rfl rfl)).mono ?_); rintro e w1 ⟨rfl, g⟩; replace H := H.quiet g; clear g)))
      replace H := H.drop
      go_loopw [12] (fun q wr => ∃ j : Nat, j ≤ 2 ∧ q = .int .i64 (j : Int) ∧ Own w9 wr []) (fun q _ => 2 - (intOf q).toNat)
      case atStart => exact ⟨0, by omega, by simp, H⟩
      case round =>
        clear H
        obtain ⟨j, hj, rfl, H⟩ := hrel
        by_cases cj : j < 2
        · have j0 : (j : Int) < 2 := by omega
          go_upto_region 16 with (first
            | (go_at_call 29; ((with_reducible refine (readlist_1 H s most hss m0 m1 hd hkm).mono ?_); clear H; rintro e w1 ⟨B4, c5, rfl, H⟩))
            | (go_at_call 30; ((with_reducible refine (rreadlist_1 H s most hss m0 m1 hd hkm).mono ?_); clear H; rintro e w1 ⟨B5, c6, rfl, H⟩))
            | (go_at_call 28; ((with_reducible refine (texts_c B4 B5 k c5 k c6 m m _ H.drop.strs H.strs hkm hkm hk1 hk1 (iff_of_true rfl rfl)).mono ?_); rintro e w1 ⟨rfl, g⟩; replace H := H.quiet g; clear g)))
          replace H := H.drop
          go_loopw [17] (fun q wr => ∃ i : Nat, i ≤ k ∧ q = .int .i64 (i : Int) ∧ ∃ xs, Own w9 wr [rowT 9 1 (.slice B4 k c5) k xs]) (fun q _ => k - (intOf q).toNat)
          case atStart => exact ⟨0, by omega, by simp, _, H⟩
          case round =>
            clear H
            obtain ⟨i, hi2, rfl, xs, H⟩ := hrel
            by_cases ci : i < k
            · have i0 : (0 : Int) ≤ (i : Int) := by omega
              have i1 : (i : Int) < (k : Int) := by omega
              obtain ⟨g, rfl, ⟨u, hu⟩, hf, hp⟩ := H.poke1 ci
              have HP := Lib.hid (hp (.string ⟨#[115, 112, 111, 105, 108, 116]⟩) rfl)
              clear hp H
              go_wp2
              go_roundw
              case rel => exact ⟨i + 1, by omega, by go_num, _, HP.out⟩
              case measure => simp [intOf]; omega
            · have i1 : ¬ (i : Int) < (k : Int) := by omega
              go_wp2
              go_roundw
              case rel => exact ⟨j + 1, by omega, by go_num, H.drop⟩
              case measure => simp [intOf]; omega
        · have j0 : ¬ (j : Int) < 2 := by omega
          go_wp2_with (first
            | (go_at_call 13; ((with_reducible refine (awake6_c _).mono ?_); rintro e wa ⟨rfl, g⟩; replace H := H.quiet g; clear g)))
          go_ret
          exact ⟨rfl, H.wider⟩

set_option maxRecDepth 100000 in
theorem tlvLists_lifted (os : Os) (started : os.Started) (H : Type) (enc : TypeId × Value → H) :
    ReturnsInHanded {} Try.checked os 5 .any (Rows.tlvListsSpec.pre6 enc Try.prog Try.f5 Rows.tlvListsRow.domain false) (Rows.tlvListsSpec.post enc Try.prog Try.f5 false true false false) := by
  refine returnsInHanded_of_change (C := Try.checked) own started (by kernel_rfl) Try.func5
    (ChangeSpec.witness6 (enc := enc) (C := Try.checked) false ⟨#[], #[.slice none 0 0, .string ⟨#[]⟩, .int .i64 0], []⟩ 8 (by kernel_rfl) (by kernel_rfl) (by kernel_rfl) (by kernel_rfl)) ?_
  intro W base args ds gs before hval0 hW hcnd _
  have hval : ∀ (j : Nat) t v, Try.f5.params[j]? = some t → args[j]? = some v → Value.okWide Try.prog W .any base t v := hval0
  have hW' := hW
  obtain ⟨p, q, hA0, hV, rfl, hfz, hnd⟩ := hW
  have hA : DataW.TrodAll enc Try.prog W 0 (fun _ => true) true Try.f5.params.toList args.toList ds p := hA0
  rw [Try.params5] at hA hval
  obtain ⟨v0, vs0, d0, ds0, p0, q0, hargs, rfl, rfl, h0, r0⟩ := trodAll_cons hA
  obtain ⟨v1, vs1, d1, ds1, p1, q1, rfl, rfl, rfl, h1, r1⟩ := trodAll_cons r0
  obtain ⟨v2, vs2, d2, ds2, p2, q2, rfl, rfl, rfl, h2, r2⟩ := trodAll_cons r1
  obtain ⟨rfl, rfl, rfl⟩ := trodAll_nil r2
  obtain rfl : args = #[v0, v1, v2] := by cases args; simp_all
  obtain ⟨rfl, rfl⟩ := trodVars_none hV
  have h0k := h0
  obtain ⟨A0, len0, cap0, rfl⟩ := okWide_slice Try.underlying45 (hval 0 45 v0 rfl rfl)
  obtain ⟨fuel0, hf0⟩ := h0
  obtain ⟨l0, hl0, ha0, hm0, hz0⟩ := open_strs Try.underlying45 Try.underlying9 (by kernel_rfl) hf0
  obtain ⟨s1, rfl, rfl, rfl, w1⟩ := open_string Try.underlying9 (hval 1 9 v1 rfl rfl) h1
  obtain ⟨n2, rfl, rfl, rfl, w2⟩ := open_int Try.underlying3 (hval 2 3 v2 rfl rfl) h2
  clear hA0 hval0
  simp only [List.append_nil] at hW'
  refine (tlvLists_walk W A0 len0 cap0 l0 hl0 ha0 hm0 hz0 s1 w1 n2 (bounds_i64 w2).1 (bounds_i64 w2).2).mono fun e W' ⟨he, hg⟩ => ?_
  subst he
  have hlt : ∀ x ∈ p0, x.block < W.heap.size := fun x hx => by simpa using hW'.lt x hx
  exact ⟨_, rfl, post_of_wider (pv := []) hW' (fun _ _ _ => (trodAll_cons_mk (shut_bool Try.underlying4 _) trodAll_mk0)) (fun sp hsp => (trodAll_cons_mk (WideElems.Trod_stays laid3 (by kernel_rfl) (of_decide_eq_true (by kernel_rfl)) h0k (fun x hx => wsame hg (hlt x (by simp [hx]))) (fun x hx => hsp x (by simp [hx]))) (trodAll_cons_mk (shut_string Try.underlying9 w1) (trodAll_cons_mk (shut_int Try.underlying3 w2) trodAll_mk0)))) (fun _ _ => rfl) (by simp)
    hg (ok_one (by kernel_rfl) rfl (okWide_bool_mk Try.underlying4 _))⟩

theorem tlvLists_holds : Rows.TlvListsSaid :=
  OpenClaim.holds_of_wide 5 Try.f5 rfl rfl rfl rfl rfl rfl rfl ⟨rfl, rfl, rfl, rfl, rfl⟩ rfl rfl rfl rfl rfl (by kernel_rfl) Try.func5 (by kernel_rfl)
    (of_decide_eq_true (by kernel_rfl)) (by unfold Func.isWrapper; first | (rw [if_pos (by decide +kernel)]; kernel_rfl) | (rw [if_neg (by decide +kernel)]; exact ⟨rfl, rfl⟩))
    (fun os started H enc _ => tlvLists_lifted os started H enc)

#print axioms tlvLists_holds

end Go.Proofs.Ytemfionibnlniaa
