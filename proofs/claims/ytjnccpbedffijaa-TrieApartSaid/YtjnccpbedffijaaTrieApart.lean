/- The law TrieApart: what is done with a copy changes nothing of the trie, and the other way about. No condition. -/
import Derived.Test.YtjnccpbedffijaaJGrown
import Derived.Test.YtjnccpbedffijaaOpen
import Derived.Test.YtjnccpbedffijaaSOpen
import Derived.StillTailTactics
import Derived.Deep.QuietTactic
namespace Go.Proofs.Ytjnccpbedffijaa
set_option linter.unusedVariables false
open Go.ChangeShapes Go.WideShapes Go.ChangeAt Go.RowKit Go.Joins
open Go.ChangeMaps (open_string shut_string)

set_option maxRecDepth 20000 in
set_option maxHeartbeats 16000000 in
theorem trieApart_walk (w : World) (A : Option Addr) (n cap : Nat) (l : List ActJ) (hl : l.length = n) (ha : ActsJAt w A l) (hn : l.length ≤ maxLen) (hz : ∀ y ∈ l, y.Ok) (A' : Option Addr) (n' cap' : Nat) (l' : List ActJ) (hl' : l'.length = n') (ha' : ActsJAt w A' l') (hn' : l'.length ≤ maxLen) (hz' : ∀ y ∈ l', y.Ok) :
    Calls Try.prog 7 #[.slice A n cap, .slice A' n' cap'] w fun e w' => e = .returned (.bool true) ∧ Wider w w' := by
  unfold maxLen at hn hn'
  have H : Own w w [] := Own.nil (Wider.refl w)
  by_cases hb : 4000 ≤ bulkJ l
  · have zl := fun w1 (g : Wider w w1) => jlong_c A n cap l w1 (ha.on g) hl (by omega) (fun x hx => by have := (hz x hx).ks; unfold maxLen at this; omega) (decide_eq_true hb)
    clear hl ha hn hz hb hl' ha' hn' hz'
    go_enter Try.func7, Try.ntmps7
    go_wp2_with (first
      | (go_at_call 16; ((with_reducible refine (zl _ H.wider).mono ?_); rintro e w9 ⟨rfl, rfl⟩))
      | (go_at_call 16; ((with_reducible refine (zm _ H.wider).mono ?_); rintro e w9 ⟨rfl, rfl⟩))
      | (go_at_call 8; ((with_reducible refine (awake11_c _).mono ?_); rintro e wa ⟨rfl, g⟩; replace H := H.quiet g; clear g)))
    go_ret
    exact ⟨rfl, H.wider⟩
  by_cases hb' : 4000 ≤ bulkJ l'
  · have zl := fun w1 (g : Wider w w1) => jlong_c A n cap l w1 (ha.on g) hl (by omega) (fun x hx => by have := (hz x hx).ks; unfold maxLen at this; omega) (decide_eq_false hb)
    have zm := fun w1 (g : Wider w w1) => jlong_c A' n' cap' l' w1 (ha'.on g) hl' (by omega) (fun x hx => by have := (hz' x hx).ks; unfold maxLen at this; omega) (decide_eq_true hb')
    clear hl ha hn hz hb hl' ha' hn' hz' hb'
    go_enter Try.func7, Try.ntmps7
    go_wp2_with (first
      | (go_at_call 16; ((with_reducible refine (zl _ H.wider).mono ?_); rintro e w9 ⟨rfl, rfl⟩))
      | (go_at_call 16; ((with_reducible refine (zm _ H.wider).mono ?_); rintro e w9 ⟨rfl, rfl⟩))
      | (go_at_call 8; ((with_reducible refine (awake11_c _).mono ?_); rintro e wa ⟨rfl, g⟩; replace H := H.quiet g; clear g)))
    go_ret
    exact ⟨rfl, H.wider⟩
  have zl := fun w1 (g : Wider w w1) => jlong_c A n cap l w1 (ha.on g) hl (by omega) (fun x hx => by have := (hz x hx).ks; unfold maxLen at this; omega) (decide_eq_false hb)
  have zm := fun w1 (g : Wider w w1) => jlong_c A' n' cap' l' w1 (ha'.on g) hl' (by omega) (fun x hx => by have := (hz' x hx).ks; unfold maxLen at this; omega) (decide_eq_false hb')
  have HF := Lib.hid (fine_of (by omega) hz)
  have HL := Lib.hid hl
  have HA := Lib.hid ha
  have HF' := Lib.hid (fine_of (by omega) hz')
  have HN' := Lib.hid hl'
  have HA' := Lib.hid ha'
  have n3 : n' < 1000 := hl' ▸ HF'.out.1
  have HC : Hid ((grownT l).count < 1000) := Lib.hid (by have := count_grown l; have := HF.out.1; omega)
  have HC6 : Hid ((grownT l).count < 1000000) := Lib.hid (by have := HC.out; omega)
  obtain ⟨L0, hL⟩ : ∃ L0, (grownT l).all [] = L0 := ⟨_, rfl⟩
  obtain ⟨K, hK⟩ : ∃ K, L0.length = K := ⟨_, rfl⟩
  have k9 : K < 1000 := by rw [← hK, ← hL, Tr.all_length]; exact HC.out
  have hKC : (grownT l).count = K := by rw [← hK, ← hL, Tr.all_length]
  clear hl ha hn hz hb hl' ha' hn' hz' hb'
  go_enter Try.func7, Try.ntmps7
  go_wp2_with (first
    | (go_at_call 16; ((with_reducible refine (zl _ H.wider).mono ?_); rintro e w9 ⟨rfl, rfl⟩))
    | (go_at_call 16; ((with_reducible refine (zm _ H.wider).mono ?_); rintro e w9 ⟨rfl, rfl⟩))
    | (go_at_call 8; ((with_reducible refine (awake11_c _).mono ?_); rintro e wa ⟨rfl, g⟩; replace H := H.quiet g; clear g))
    | (go_at_call 17; ((with_reducible refine (jgrown_c HL.out HA.out HF.out H).mono ?_); rintro e w1 ⟨B, T, rfl, ht, H1⟩; clear H; have HT := Lib.hid ht; have HTT := Lib.hid ht; clear ht))
    | (go_at_call 14; ((with_reducible refine (jall_o HT.out HC6.out H1 mem1 hL hK).mono ?_); rintro e w2 ⟨A3, c3, rfl, H2⟩; clear H1))
    | (go_at_call 15; ((with_reducible refine (jcopy_o HT.out H2 mem2).mono ?_); rintro e w3 ⟨B2, T2, rfl, ht2, H3⟩; clear H2; have HT2 := Lib.hid ht2; clear ht2)))
  have HLL := Lib.hid hL
  have HKK := Lib.hid hK
  have HKC := Lib.hid hKC
  clear zl zm hL hK hKC
  go_loopw [8] (fun i wr => ∃ (k : Nat) (t2 : Tr) (T2 : TB), k ≤ n' ∧ i = .int .i64 (k : Int) ∧ Hid (IsTrie B2 t2 T2) ∧ Hid (t2.count ≤ 1000 + k) ∧ Own w wr [treeT T2, rowI (.slice A3 K c3) K L0, treeT T]) (fun i _ => n' - (intOf i).toNat)
  case atStart => exact ⟨0, grownT l, T2, Nat.zero_le _, rfl, HT2, Lib.hid (by have := HC.out; omega), H3⟩
  case round =>
    clear H3 HT2
    obtain ⟨k, t2, T2, k0, rfl, HT2, HC2, H⟩ := hrel
    by_cases q : k < n'
    · have q0 : (0 : Int) ≤ (k : Int) := by omega
      have q1 : (k : Int) < (n' : Int) := by omega
      obtain ⟨x, hx⟩ : ∃ x, l'[k]? = some x := ⟨l'[k]'(by have := HN'.out; omega), List.getElem?_eq_getElem _⟩
      have HX := Lib.hid (HF'.out.2 x (List.mem_of_getElem? hx))
      have HCN : Hid (t2.count < 1000000) := Lib.hid (by have := HC2.out; omega)
      have HCP : Hid ((putK t2 x.key x.n x.v).count ≤ 1000 + (k + 1)) := Lib.hid (by have := count_putK t2 x.key x.n x.v; have := HC2.out; omega)
      cases A' with
      | none => exact absurd (HA'.out.none_ rfl) (by intro e; rw [e] at hx; simp at hx)
      | some a =>
        have at_ := (HA'.out.cell a rfl k x hx).on H.wider
        have c1 := at_.flat.1
        have c2 := at_.flat.2.1
        have c4 := at_.flat.2.2
        clear at_ hx
        go_upto_region 9 with (fail)
        go_still_tail 16, (by kernel_rfl)
        change wpList _ _ _ _ _ wr.drew
        have H2 := H.quiet (Wider.refl wr).drew
        clear H c1 c2 c4
        go_wp2_with (first
          | (go_at_call 9; ((with_reducible refine (jput_g HX.out.1 HX.out.2.n0 HX.out.2.n1 HT2.out HCN.out H2 rfl).mono ?_); rintro e w3 ⟨rfl, T3, ht3, H4⟩; have HT3 := Lib.hid ht3; clear ht3 H2)))
        go_roundw
        case rel => exact ⟨k + 1, _, T3, by omega, by go_num, HT3, HCP, H4⟩
        case measure => simp [intOf]; omega
    · have q1 : ¬ (k : Int) < (n' : Int) := by omega
      have HC3 : Hid (t2.count < 1000000) := Lib.hid (by have := HC2.out; omega)
      obtain ⟨L2, hL2⟩ : ∃ L2, t2.all [] = L2 := ⟨_, rfl⟩
      obtain ⟨K2, hK2⟩ : ∃ K2, L2.length = K2 := ⟨_, rfl⟩
      have k10 : K2 < 1000000 := by rw [← hK2, ← hL2, Tr.all_length]; exact HC3.out
      have hKC2 : t2.count = K2 := by rw [← hK2, ← hL2, Tr.all_length]
      have HS0 : Hid (L0.length = K ∧ K < 1000000) := Lib.hid ⟨HKK.out, by omega⟩
      have HS2 : Hid (L2.length = K2 ∧ K2 < 1000000) := Lib.hid ⟨hK2, k10⟩
      go_upto_region 13 with (first
        | (go_at_call 14; ((with_reducible refine (jall_o HT2.out HC3.out H mem1 hL2 hK2).mono ?_); rintro e w4 ⟨A5, c5, rfl, H5⟩; clear H))
        | (go_at_call 14; ((with_reducible refine (jall_o HT.out HC6.out H5 mem4 HLL.out HKK.out).mono ?_); rintro e w5 ⟨A6, c6, rfl, H6⟩; clear H5))
        | (go_at_call 19; ((with_reducible refine (jsame_o H6 mem1 mem4 HS0.out).mono ?_); rintro e w6 ⟨rfl, H7⟩; clear H6))
        | (go_at_call 10; ((with_reducible refine (jlen_o HT.out H7 mem5 HKC.out).mono ?_); clear H7; rintro e w7 ⟨rfl, H7⟩)))
      have H8 := (H7.drop).fourth
      clear H7
      have HB0 : Hid (IsTrie B (delsJ (grownT l) (L0.take 0)) T) := by rw [List.take_zero]; exact HT
      go_wp2
      go_loopw [10] (fun i wr => ∃ (k : Nat) (T : TB), k ≤ K ∧ i = .int .i64 (k : Int) ∧ Hid (IsTrie B (delsJ (grownT l) (L0.take k)) T) ∧ Own w wr [treeT T, rowI (.slice A5 K2 c5) K2 L2, treeT T2, rowI (.slice A3 K c3) K L0]) (fun i _ => K - (intOf i).toNat)
      case atStart => exact ⟨0, T, Nat.zero_le _, rfl, HB0, H8⟩
      case round =>
        clear H8 HB0 HT
        obtain ⟨k2, T, k02, rfl, HT, H⟩ := hrel
        by_cases q2 : k2 < K
        · have q3 : (0 : Int) ≤ (k2 : Int) := by omega
          have q4 : (k2 : Int) < (K : Int) := by omega
          obtain ⟨x, hx⟩ : ∃ x, L0[k2]? = some x := ⟨L0[k2]'(by rw [HKK.out]; exact q2), List.getElem?_eq_getElem _⟩
          obtain ⟨x1, x2⟩ := all_item HTT.out (by rw [HLL.out]; exact hx)
          have hh := dels_here (t := grownT l) (k := k2) (x := x) (by rw [HLL.out]; exact hx) x2
          rw [HLL.out] at hh
          have HTK : Hid (delsJ (grownT l) (L0.take (k2 + 1)) = delK (delsJ (grownT l) (L0.take k2)) (keyJ x.1) (x.1.length : Int)) := Lib.hid (by rw [delK_key x1, List.take_add_one, hx]; exact delsJ_snoc _ _ _)
          have hgk : (getK (delsJ (grownT l) (L0.take k2)) (keyJ x.1) (x.1.length : Int)).isSome = true := by rw [getK_key x1, hh]; rfl
          have HCD : Hid ((delsJ (grownT l) (L0.take k2)).count < 1000000) := Lib.hid (by have := count_delsJ (L0.take k2) (grownT l); have := HC.out; omega)
          obtain ⟨a, ea, hat⟩ := H.itemM mem4 hx
          have c0 := hat.c0
          have c1 := hat.c1
          obtain ⟨S, hS⟩ : ∃ S, keyJ x.1 = S := ⟨_, rfl⟩
          obtain ⟨m, hm⟩ : ∃ m, x.1.length = m := ⟨_, rfl⟩
          have hS32 : S.size < 1000000 := by rw [← hS]; have := (keyJ_is x1).size_le; omega
          rw [hS] at c0 hgk HTK
          rw [hm] at c1 hgk x1 HTK
          have HGK := Lib.hid hgk
          subst ea
          clear hat hx x2 hS hm hh hgk
          go_upto_region 16 with (fail)
          have H2 := H.quiet (Wider.refl wr).drew
          clear H
          go_still_tail 11, (by kernel_rfl)
          change wpList _ _ _ _ _ wr.drew
          go_wp2_with (first
            | (go_at_call 12; ((with_reducible refine (jdel_g hS32 (by omega) (by omega) HT.out HCD.out H2 HGK.out).mono ?_); rintro e w3 ⟨rfl, T3, ht3, H4⟩; have HT3 := Lib.hid ht3; clear ht3 H2)))
          go_roundw
          case rel => exact ⟨k2 + 1, T3, by omega, by go_num, by rw [HTK.out]; exact HT3, H4⟩
          case measure => simp [intOf]; omega
        · have q4 : ¬ (k2 : Int) < (K : Int) := by omega
          have HTE : Hid (IsTrie B (delsJ (grownT l) L0) T) := by have := HT; rw [List.take_of_length_le (by rw [HKK.out]; omega)] at this; exact this
          have hno : ∀ p, (delsJ (grownT l) L0).get p = none := fun p => by rw [← HLL.out]; exact dels_all _ p
          have HE1 : Hid ((delsJ (grownT l) L0).count = 0) := Lib.hid (by rw [← Tr.all_length _ [], Tr.all_none _ [] hno]; rfl)
          have HE2 : Hid ((delsJ (grownT l) L0).count < 1000000) := Lib.hid (by rw [HE1.out]; decide)
          have HE3 : Hid ((delsJ (grownT l) L0).all [] = []) := Lib.hid (Tr.all_none _ [] hno)
          have HE4 : Hid (numJ ((delsJ (grownT l) L0).longest (bitL ⟨#[97, 98, 99]⟩)) = 0 ∧ valJ ((delsJ (grownT l) L0).longest (bitL ⟨#[97, 98, 99]⟩)) = 0 ∧ ((delsJ (grownT l) L0).longest (bitL ⟨#[97, 98, 99]⟩)).isSome = false) := Lib.hid (by
            rw [Tr.longest_not fun m _ => hno _]; exact ⟨rfl, rfl, rfl⟩)
          clear hno
          go_wp2_with (first
            | (go_at_call 11; ((with_reducible refine (jlongest_o (key := ⟨#[97, 98, 99]⟩) (by decide) HTE.out H mem1 HE4.out).mono ?_); clear H; rintro e w4 ⟨rfl, H⟩))
            | (go_at_call 14; ((with_reducible refine (jall_o HT2.out HC3.out H mem3 hL2 hK2).mono ?_); rintro e w5 ⟨A6, c6, rfl, H6⟩; clear H; have H := H6; clear H6))
            | (go_at_call 19; ((with_reducible refine (jsame_o H mem1 mem3 HS2.out).mono ?_); clear H; rintro e w6 ⟨rfl, H⟩))
            | (go_at_call 10; ((with_reducible refine (jlen_o HT2.out H mem4 hKC2).mono ?_); clear H; rintro e w7 ⟨rfl, H⟩))
            | (go_at_call 10; ((with_reducible refine (jlen_o HTE.out H mem2 HE1.out).mono ?_); clear H; rintro e w7 ⟨rfl, H⟩))
            | (go_at_call 14; ((with_reducible refine (jall_o HTE.out HE2.out H mem2 HE3.out rfl).mono ?_); rintro e w8 ⟨A7, c7, rfl, H8⟩; clear H; have H := H8; clear H8)))
          go_ret
          exact ⟨rfl, H.wider⟩
set_option maxRecDepth 100000 in
theorem trieApart_lifted (os : Os) (started : os.Started) (H : Type) (enc : TypeId × Value → H) :
    ReturnsInHanded {} Try.checked os 7 .any (Rows.trieApartSpec.pre6 enc Try.prog Try.f7 Rows.trieApartRow.domain false) (Rows.trieApartSpec.post enc Try.prog Try.f7 false true false false) := by
  refine returnsInHanded_of_change (C := Try.checked) own started (by kernel_rfl) Try.func7
    (ChangeSpec.witness6 (enc := enc) (C := Try.checked) false ⟨#[], #[.slice none 0 0, .slice none 0 0], []⟩ 8 (by kernel_rfl) (by kernel_rfl) (by kernel_rfl) (by kernel_rfl)) ?_
  intro W base args ds gs before hval0 hW hcnd _
  have hval : ∀ (j : Nat) t v, Try.f7.params[j]? = some t → args[j]? = some v → Value.okWide Try.prog W .any base t v := hval0
  have hW' := hW
  obtain ⟨p, q, hA0, hV, rfl, hfz, hnd⟩ := hW
  have hA : DataW.TrodAll enc Try.prog W 0 (fun _ => true) true Try.f7.params.toList args.toList ds p := hA0
  rw [Try.params7] at hA hval
  obtain ⟨v0, vs0, d0, ds0, p0, q0, hargs, rfl, rfl, h0, r0⟩ := trodAll_cons hA
  obtain ⟨v1, vs1, d1, ds1, p1, q1, rfl, rfl, rfl, h1, r1⟩ := trodAll_cons r0
  obtain ⟨rfl, rfl, rfl⟩ := trodAll_nil r1
  obtain rfl : args = #[v0, v1] := by cases args; simp_all
  obtain ⟨rfl, rfl⟩ := trodVars_none hV
  have h0k := h0
  obtain ⟨A0, len0, cap0, rfl⟩ := okWide_slice Try.underlying42 (hval 0 42 v0 rfl rfl)
  obtain ⟨fuel0, hf0⟩ := h0
  obtain ⟨l0, hl0, ha0, hm0, hz0⟩ := open_actsJ hf0
  have h1k := h1
  obtain ⟨A1, len1, cap1, rfl⟩ := okWide_slice Try.underlying42 (hval 1 42 v1 rfl rfl)
  obtain ⟨fuel1, hf1⟩ := h1
  obtain ⟨l1, hl1, ha1, hm1, hz1⟩ := open_actsJ hf1
  clear hA0 hval0
  simp only [List.append_nil] at hW'
  refine (trieApart_walk W A0 len0 cap0 l0 hl0 ha0 hm0 hz0 A1 len1 cap1 l1 hl1 ha1 hm1 hz1).mono fun e W' ⟨he, hg⟩ => ?_
  subst he
  have hlt : ∀ x ∈ p0 ++ (p1), x.block < W.heap.size := fun x hx => by simpa using hW'.lt x hx
  exact ⟨_, rfl, post_of_wider (pv := []) hW' (fun _ _ _ => (trodAll_cons_mk (shut_bool Try.underlying4 _) trodAll_mk0)) (fun sp hsp => (trodAll_cons_mk (WideElems.Trod_stays laid3 (by kernel_rfl) (of_decide_eq_true (by kernel_rfl)) h0k (fun x hx => wsame hg (hlt x (by simp [hx]))) (fun x hx => hsp x (by simp [hx]))) (trodAll_cons_mk (WideElems.Trod_stays laid3 (by kernel_rfl) (of_decide_eq_true (by kernel_rfl)) h1k (fun x hx => wsame hg (hlt x (by simp [hx]))) (fun x hx => hsp x (by simp [hx]))) trodAll_mk0))) (fun _ _ => rfl) (by simp)
    hg (ok_one (by kernel_rfl) rfl (okWide_bool_mk Try.underlying4 _))⟩

theorem trieApart_holds : Rows.TrieApartSaid :=
  OpenClaim.holds_of_wide 7 Try.f7 rfl rfl rfl rfl rfl rfl rfl ⟨rfl, rfl, rfl, rfl, rfl⟩ rfl rfl rfl rfl rfl (by kernel_rfl) Try.func7 (by kernel_rfl)
    (of_decide_eq_true (by kernel_rfl)) (by unfold Func.isWrapper; first | (rw [if_pos (by decide +kernel)]; kernel_rfl) | (rw [if_neg (by decide +kernel)]; exact ⟨rfl, rfl⟩))
    (fun os started H enc _ => trieApart_lifted os started H enc)

#print axioms trieApart_holds

end Go.Proofs.Ytjnccpbedffijaa
