/- The law ExactHalf: the slots are a power of 2, never fall, and are at least twice the keys. No condition. -/
import Derived.Test.YtgfdigjnecgliaaELaw
import Derived.Test.YtgfdigjnecgliaaOpen
import Derived.Test.YtgfdigjnecgliaaSOpen
import Derived.StillTailTactics
import Derived.Deep.QuietTactic
namespace Go.Proofs.Ytgfdigjnecgliaa
set_option linter.unusedVariables false
open Go.ChangeShapes Go.WideShapes Go.ChangeAt Go.RowKit Go.Joins
open Go.ChangeMaps (open_string shut_string)
open Tab

theorem and_low (m : Nat) (h : 2 ^ m < 4611686018427387904) : bits .and .i64 ((2 ^ m : Nat) : Int) (((2 ^ m : Nat) : Int) - 1) = 0 := by
  have p := Nat.one_le_two_pow (n := m)
  obtain ⟨x, hx⟩ : ∃ x, 2 ^ m = x := ⟨_, rfl⟩
  have e : ((x : Nat) : Int) - 1 = ((x - 1 : Nat) : Int) := by omega
  have z : x &&& (x - 1) = 0 := by rw [← hx, Nat.and_two_pow_sub_one_eq_mod]; exact Nat.mod_self _
  rw [hx] at h p ⊢
  rw [e]
  have h1 : (BitVec.ofInt 64 (x : Int)).toNat = x := by
    rw [BitVec.ofInt_natCast, BitVec.toNat_ofNat]; exact Nat.mod_eq_of_lt (by omega)
  have h2 : (BitVec.ofInt 64 ((x - 1 : Nat) : Int)).toNat = x - 1 := by
    rw [BitVec.ofInt_natCast, BitVec.toNat_ofNat]; exact Nat.mod_eq_of_lt (by omega)
  show IntKind.i64.wrap ((BitVec.ofInt 64 (x : Int) &&& BitVec.ofInt 64 ((x - 1 : Nat) : Int)).toNat : Int) = _
  rw [BitVec.toNat_and, h1, h2, z]
  decide
theorem power_and {S : Nat} (h : ∃ j, S = 8 * 2 ^ j) (hs : S < 4611686018427387904) : bits BinOp.and IntKind.i64 (S : Int) ((S : Int) - 1) = 0 := by
  obtain ⟨j, rfl⟩ := h
  have e : 8 * 2 ^ j = 2 ^ (j + 3) := by rw [Nat.pow_add]; omega
  rw [e] at hs ⊢
  exact and_low _ hs
theorem step_len {L L2 : SlotsE} {k : ByteArray} {v was : Int} {had : Bool} (f : PutF L k v was had L2) : L2.length = L.length ∨ (L2.length = 2 * L.length ∧ L.length < 2 * cnt L2) := by
  rcases f.len with e | ⟨rfl, a, e⟩
  · exact .inl e
  · have c := f.cnt
    simp only [Bool.false_eq_true, if_false] at c
    exact .inr ⟨e, by omega⟩
set_option maxRecDepth 20000 in
set_option maxHeartbeats 16000000 in
theorem exactHalf_walk (w : World) (A : Option Addr) (n cap : Nat) (l : List ActE) (hl : l.length = n) (ha : ActsEAt w A l) (hn : l.length ≤ maxLen) (hz : ∀ y ∈ l, y.Ok) :
    Calls Try.prog 4 #[.slice A n cap] w fun e w' => e = .returned (.bool true) ∧ Wider w w' := by
  unfold maxLen at hn
  have H : Own w w [] := Own.nil (Wider.refl w)
  by_cases hb : 5000 ≤ bulkE l
  · have zl := elong_c A n cap l w ha hl (by omega) (fun x hx => by have := (hz x hx).ks; unfold maxLen at this; omega) (decide_eq_true hb)
    clear hl ha hn hz hb
    go_enter Try.func4, Try.ntmps4
    go_wp2_with (first
      | (go_at_call 17; ((with_reducible refine zl.mono ?_); rintro e w9 ⟨rfl, rfl⟩))
      | (go_at_call 7; ((with_reducible refine (awake10_c _).mono ?_); rintro e wa ⟨rfl, g⟩; replace H := H.quiet g; clear g)))
    go_ret
    exact ⟨rfl, H.wider⟩
  · have zl := elong_c A n cap l w ha hl (by omega) (fun x hx => by have := (hz x hx).ks; unfold maxLen at this; omega) (decide_eq_false hb)
    obtain ⟨hl5, hks⟩ := acts_small (show bulkE l < 5000 by omega)
    have n5 : n < 500 := by omega
    have HKS := Lib.hid hks
    have HN := Lib.hid hl
    have HA := Lib.hid ha
    clear hb hks hl hl5 ha hn hz
    go_enter Try.func4, Try.ntmps4
    go_wp2_with (first
      | (go_at_call 17; ((with_reducible refine zl.mono ?_); rintro e w9 ⟨rfl, rfl⟩))
      | (go_at_call 7; ((with_reducible refine (awake10_c _).mono ?_); rintro e wa ⟨rfl, g⟩; replace H := H.quiet g; clear g))
      | (go_at_call 8; ((with_reducible refine (enew_1 H).mono ?_); clear H; rintro e w1 ⟨p, F, rfl, H⟩)))
    clear zl
    go_loopw [4, 5] (fun v i wr => ∃ k : Nat, k ≤ n ∧ i = .int .i64 (k : Int) ∧ ∃ (M : Nat) (L : SlotsE) (F : List Nat), v = .int .i64 (M : Int) ∧ Hid (L.length = M) ∧ Hid (Few L k) ∧ Own w wr [mapT p L F]) (fun _ i _ => n - (intOf i).toNat)
    case atStart => exact ⟨0, by omega, by simp, 8, List.replicate 8 none, _, rfl, Lib.hid (by simp), Few.new, H⟩
    case round =>
      clear H
      obtain ⟨k, hk, rfl, M, L, F, rfl, HM, HF, H⟩ := hrel
      have i0 : (0 : Int) ≤ (k : Int) := by omega
      by_cases c : k < n
      · have i1 : (k : Int) < (n : Int) := by omega
        obtain ⟨x, hx⟩ : ∃ x, l[k]? = some x := ⟨l[k]'(by have := HN.out; omega), List.getElem?_eq_getElem _⟩
        have hsz := HKS.out x (List.mem_of_getElem? hx)
        cases A with
        | none => exact absurd (HA.out.none_ rfl) (by intro e; rw [e] at hx; simp at hx)
        | some a =>
          have at_ := (HA.out.cell a rfl k x hx).on H.wider
          have c0 := at_.c0
          have c1 := at_.flat.1
          have c2 := at_.flat.2
          have ml : M ≤ 8 + 4 * k := by have := HF.out.len; have := HM.out; omega
          have ll : L.length < 400000 := by have := HF.out.len; omega
          have kz : x.key.size < 1000000 := by omega
          clear at_ hx
          by_cases q0 : x.what = 0
          · have e0 : ((x.what : Int) == 0) = true := by rw [q0]; rfl
            go_upto_region 9 with (fail)
            go_still_tail 11, (by kernel_rfl)
            change wpList _ _ _ _ _ wr.drew
            have H2 := H.quiet (Wider.refl wr).drew
            clear H
            go_upto_region 11 with (first
              | (go_at_call 9; ((with_reducible refine (eput_1 H2 HF.out.good ll x.key kz x.v).mono ?_); rintro e w2 ⟨was, had, L2, F2, rfl, hp, H3⟩; have HPF := Lib.hid (hp.facts HF.out.good kz); clear hp)))
            have HP := Lib.hid (HF.out.put HPF.out)
            have HST : Hid (L2.length = M ∨ (L2.length = 2 * M ∧ M < 2 * cnt L2)) := by have := step_len HPF.out; rw [HM.out] at this; exact this
            clear HPF c0 c1 c2 H2
            have g2 := HP.out.good
            have e2 := HP.out.good.pow
            obtain ⟨S, hS⟩ : ∃ S, L2.length = S := ⟨_, rfl⟩
            obtain ⟨C, hC⟩ : ∃ C, cnt L2 = C := ⟨_, rfl⟩
            have s1 := HP.out.len
            have s2 := g2.half
            have s3 := g2.eight
            rw [hS] at e2 s1 s2 s3
            rw [hC] at s2
            have pw := power_and e2 (by omega)
            have hst := HST.out
            rw [hS, hC] at hst
            have HS := Lib.hid hS
            have HC := Lib.hid hC
            have b1 : ¬ (S : Int) < 2 * (C : Int) := by omega
            have b2 : decide ((S : Int) < 2 * (C : Int)) = false := decide_eq_false b1
            clear e2 hS hC s2
            rcases hst with hst | ⟨hst, hst2⟩
            · subst hst
              have b3 : decide ((S : Int) < (S : Int)) = false := by simp
              have b4 : decide (S < S) = false := by simp
              go_wp2_with (first
                | (go_at_call 13; ((with_reducible refine (eslots_c H3.head g2).mono ?_); rw [HS.out]; rintro e w6 ⟨rfl, g⟩; replace H3 := H3.quiet g; clear g))
                | (go_at_call 11; ((with_reducible refine (elen_c H3.head).mono ?_); rw [HC.out]; rintro e w6 ⟨rfl, g⟩; replace H3 := H3.quiet g; clear g)))
              go_roundw
              case rel => exact ⟨k + 1, by omega, by go_num, S, L2, F2, rfl, HS.out, HP.out, H3⟩
              case measure => simp [intOf]; omega
            · have HD := Lib.hid hst
              have b3 : (M : Int) < (S : Int) := by omega
              have b4 : decide ((M : Int) < (S : Int)) = true := decide_eq_true (by omega)
              have b5 : decide (M < S) = true := decide_eq_true (by omega)
              have b6 : ((S : Int) == 2 * (M : Int)) = true := by rw [beq_iff_eq]; omega
              have b7 : ¬ 2 * (C : Int) ≤ (M : Int) := by omega
              have b8 : decide (2 * (C : Int) ≤ (M : Int)) = false := decide_eq_false b7
              have b9 : ¬ (S : Int) < (M : Int) := by omega
              have b10 : decide ((S : Int) < (M : Int)) = false := decide_eq_false b9
              have b11 : decide (S < M) = false := decide_eq_false (by omega)
              clear hst
              go_wp2_with (first
                | (go_at_call 13; ((with_reducible refine (eslots_c H3.head g2).mono ?_); rw [HS.out]; rintro e w6 ⟨rfl, g⟩; replace H3 := H3.quiet g; clear g))
                | (go_at_call 11; ((with_reducible refine (elen_c H3.head).mono ?_); rw [HC.out]; rintro e w6 ⟨rfl, g⟩; replace H3 := H3.quiet g; clear g)))
              all_goals first
                | (exfalso; have := HD.out; omega)
                | (go_roundw
                   case rel => exact ⟨k + 1, by omega, by go_num, S, L2, F2, by first | rfl | (congr 1; have := HD.out; omega), HS.out, HP.out, H3⟩
                   case measure => simp [intOf]; omega)
          · have e0 : ((x.what : Int) == 0) = false := by rw [beq_eq_false_iff_ne]; omega
            go_upto_region 11 with (first
              | (go_at_call 14; ((with_reducible refine (edel_1 H HF.out.good ll x.key kz).mono ?_); clear H; rintro e w2 ⟨b, L2, F2, rfl, hp, H3⟩; have HPF := Lib.hid (hp.facts HF.out.good); clear hp)))
            have HP := Lib.hid ((HF.out.del HPF.out).more (show k ≤ k + 1 by omega))
            have HST : Hid (L2.length = M ∨ (L2.length = 2 * M ∧ M < 2 * cnt L2)) := .inl (HPF.out.len.trans HM.out)
            clear HPF c0 c1 c2
            have g2 := HP.out.good
            have e2 := HP.out.good.pow
            obtain ⟨S, hS⟩ : ∃ S, L2.length = S := ⟨_, rfl⟩
            obtain ⟨C, hC⟩ : ∃ C, cnt L2 = C := ⟨_, rfl⟩
            have s1 := HP.out.len
            have s2 := g2.half
            have s3 := g2.eight
            rw [hS] at e2 s1 s2 s3
            rw [hC] at s2
            have pw := power_and e2 (by omega)
            have hst := HST.out
            rw [hS, hC] at hst
            have HS := Lib.hid hS
            have HC := Lib.hid hC
            have b1 : ¬ (S : Int) < 2 * (C : Int) := by omega
            have b2 : decide ((S : Int) < 2 * (C : Int)) = false := decide_eq_false b1
            clear e2 hS hC s2
            rcases hst with hst | ⟨hst, hst2⟩
            · subst hst
              have b3 : decide ((S : Int) < (S : Int)) = false := by simp
              have b4 : decide (S < S) = false := by simp
              go_wp2_with (first
                | (go_at_call 13; ((with_reducible refine (eslots_c H3.head g2).mono ?_); rw [HS.out]; rintro e w6 ⟨rfl, g⟩; replace H3 := H3.quiet g; clear g))
                | (go_at_call 11; ((with_reducible refine (elen_c H3.head).mono ?_); rw [HC.out]; rintro e w6 ⟨rfl, g⟩; replace H3 := H3.quiet g; clear g)))
              go_roundw
              case rel => exact ⟨k + 1, by omega, by go_num, S, L2, F2, rfl, HS.out, HP.out, H3⟩
              case measure => simp [intOf]; omega
            · have HD := Lib.hid hst
              have b3 : (M : Int) < (S : Int) := by omega
              have b4 : decide ((M : Int) < (S : Int)) = true := decide_eq_true (by omega)
              have b5 : decide (M < S) = true := decide_eq_true (by omega)
              have b6 : ((S : Int) == 2 * (M : Int)) = true := by rw [beq_iff_eq]; omega
              have b7 : ¬ 2 * (C : Int) ≤ (M : Int) := by omega
              have b8 : decide (2 * (C : Int) ≤ (M : Int)) = false := decide_eq_false b7
              have b9 : ¬ (S : Int) < (M : Int) := by omega
              have b10 : decide ((S : Int) < (M : Int)) = false := decide_eq_false b9
              have b11 : decide (S < M) = false := decide_eq_false (by omega)
              clear hst
              go_wp2_with (first
                | (go_at_call 13; ((with_reducible refine (eslots_c H3.head g2).mono ?_); rw [HS.out]; rintro e w6 ⟨rfl, g⟩; replace H3 := H3.quiet g; clear g))
                | (go_at_call 11; ((with_reducible refine (elen_c H3.head).mono ?_); rw [HC.out]; rintro e w6 ⟨rfl, g⟩; replace H3 := H3.quiet g; clear g)))
              all_goals first
                | (exfalso; have := HD.out; omega)
                | (go_roundw
                   case rel => exact ⟨k + 1, by omega, by go_num, S, L2, F2, by first | rfl | (congr 1; have := HD.out; omega), HS.out, HP.out, H3⟩
                   case measure => simp [intOf]; omega)
      · have i1 : ¬ (k : Int) < (n : Int) := by omega
        go_wp2
        go_ret
        exact ⟨rfl, H.wider⟩
set_option maxRecDepth 100000 in
theorem exactHalf_lifted (os : Os) (started : os.Started) (H : Type) (enc : TypeId × Value → H) :
    ReturnsInHanded {} Try.checked os 4 .any (Rows.exactHalfSpec.pre6 enc Try.prog Try.f4 Rows.exactHalfRow.domain false) (Rows.exactHalfSpec.post enc Try.prog Try.f4 false true false false) := by
  refine returnsInHanded_of_change (C := Try.checked) own started (by kernel_rfl) Try.func4
    (ChangeSpec.witness6 (enc := enc) (C := Try.checked) false ⟨#[], #[.slice none 0 0], []⟩ 8 (by kernel_rfl) (by kernel_rfl) (by kernel_rfl) (by kernel_rfl)) ?_
  intro W base args ds gs before hval0 hW hcnd _
  have hval : ∀ (j : Nat) t v, Try.f4.params[j]? = some t → args[j]? = some v → Value.okWide Try.prog W .any base t v := hval0
  have hW' := hW
  obtain ⟨p, q, hA0, hV, rfl, hfz, hnd⟩ := hW
  have hA : DataW.TrodAll enc Try.prog W 0 (fun _ => true) true Try.f4.params.toList args.toList ds p := hA0
  rw [Try.params4] at hA hval
  obtain ⟨v0, vs0, d0, ds0, p0, q0, hargs, rfl, rfl, h0, r0⟩ := trodAll_cons hA
  obtain ⟨rfl, rfl, rfl⟩ := trodAll_nil r0
  obtain rfl : args = #[v0] := by cases args; simp_all
  obtain ⟨rfl, rfl⟩ := trodVars_none hV
  have h0k := h0
  obtain ⟨A0, len0, cap0, rfl⟩ := okWide_slice Try.underlying34 (hval 0 34 v0 rfl rfl)
  obtain ⟨fuel0, hf0⟩ := h0
  obtain ⟨l0, hl0, ha0, hm0, hz0⟩ := open_actsE hf0
  clear hA0 hval0
  simp only [List.append_nil] at hW'
  refine (exactHalf_walk W A0 len0 cap0 l0 hl0 ha0 hm0 hz0).mono fun e W' ⟨he, hg⟩ => ?_
  subst he
  have hlt : ∀ x ∈ p0, x.block < W.heap.size := fun x hx => by simpa using hW'.lt x hx
  exact ⟨_, rfl, post_of_wider (pv := []) hW' (fun _ _ _ => (trodAll_cons_mk (shut_bool Try.underlying4 _) trodAll_mk0)) (fun sp hsp => (trodAll_cons_mk (WideElems.Trod_stays laid3 (by kernel_rfl) (of_decide_eq_true (by kernel_rfl)) h0k (fun x hx => wsame hg (hlt x (by simp [hx]))) (fun x hx => hsp x (by simp [hx]))) trodAll_mk0)) (fun _ _ => rfl) (by simp)
    hg (ok_one (by kernel_rfl) rfl (okWide_bool_mk Try.underlying4 _))⟩

theorem exactHalf_holds : Rows.ExactHalfSaid :=
  OpenClaim.holds_of_wide 4 Try.f4 rfl rfl rfl rfl rfl rfl rfl ⟨rfl, rfl, rfl, rfl, rfl⟩ rfl rfl rfl rfl rfl (by kernel_rfl) Try.func4 (by kernel_rfl)
    (of_decide_eq_true (by kernel_rfl)) (by unfold Func.isWrapper; first | (rw [if_pos (by decide +kernel)]; kernel_rfl) | (rw [if_neg (by decide +kernel)]; exact ⟨rfl, rfl⟩))
    (fun os started H enc _ => exactHalf_lifted os started H enc)

#print axioms exactHalf_holds

end Go.Proofs.Ytgfdigjnecgliaa
