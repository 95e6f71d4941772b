/- The law SumUpdates: where a word of a text, at an even place, becomes another one, and the text has a word that is not 0 then, Update of its checksum is the checksum of the text as it is then. No condition. -/
import Derived.Test.YtlgahhehagffeaaSAwake
import Derived.Test.YtlgahhehagffeaaSOpen
import Derived.Test.YtlgahhehagffeaaSGlue
import Derived.Lib.Hide
import Derived.BigQuiet
import Derived.BigRegion
import Derived.Deep.RegionHeld3
import Derived.Deep.DeepCutAuto
import Derived.WalkLawsBesides
import Derived.WalkSpells
namespace Go.Proofs.Ytlgahhehagffeaa
set_option linter.unusedVariables false
open Go.ChangeShapes Go.WideShapes Go.ChangeAt Go.RowKit Go.Joins
open Go.ChangeMaps (open_string shut_string)

theorem upd_keep {V W w : World} (g : Grown W w) (h : Hid (Wider V W)) : Hid (Wider V w) := hgrown h g

set_option maxRecDepth 100000 in
set_option maxHeartbeats 8000000 in
theorem sumUpdates_ok (s : ByteArray) (n1 : Int) (n1l : -9223372036854775808 ≤ n1) (n1h : n1 ≤ 9223372036854775807) (c : Nat) (hc : c < 65536) (h2 : 2 ≤ s.size) (hs : s.size < 39999) (w : World) :
    Calls Try.prog 9 #[.string s, .int .i64 n1, .int .u16 (c : Int)] w fun e w' => e = .returned (.bool true) ∧ Wider w w' := by
  have G : Hid (Wider w w) := Wider.refl w
  have zl := long_1 s (by omega) (r := false) (decide_eq_false (by omega))
  have d0 : decide ((s.size : Int) < 2) = false := decide_eq_false (by omega)
  have d0' : decide (s.size < 2) = false := decide_eq_false (by omega)
  obtain ⟨M, hM, hM2, hM1⟩ := word_ex s.size n1 (by omega) h2
  have HM := Lib.hid hM
  clear hM
  have la : s[M].toNat < 256 := UInt8.toNat_lt _
  have lb : s[M + 1].toNat < 256 := UInt8.toNat_lt _
  obtain ⟨X, hX⟩ : ∃ X, twoS c = X := ⟨_, rfl⟩
  have hXs : X.size = 2 := by rw [← hX]; exact twoS_size c
  have zt := two_c c hc hX
  obtain ⟨T, hT⟩ : ∃ T, (s.extract 0 M ++ X) ++ s.extract (M + 2) s.size = T := ⟨_, rfl⟩
  have hTs : T.size = s.size := by rw [← hT, glue_size s X M (M + 2) (by omega) (by omega)]; omega
  have hup := upd_text s X M c hM2 hM1 hc hX
  rw [hT] at hup
  obtain ⟨p, hp⟩ : ∃ p, 65535 - sumS s.data.toList = p := ⟨_, rfl⟩
  have lp : p < 65536 := by omega
  rw [hp] at hup
  obtain ⟨q, hq⟩ : ∃ q, 65535 - sumS T.data.toList = q := ⟨_, rfl⟩
  rw [hq] at hup
  have z1 := sof_1 s (by omega) hp
  have z2 := sof_1 T (by omega) hq
  have hwo := word_or _ _ la lb
  have hwo2 : bits .or .u16 ((s[M].toNat : Int) * 256) (s[M + 1].toNat : Int) = ((s[M].toNat * 256 + s[M + 1].toNat : Nat) : Int) := by
    rw [← hwo, IntKind.wrap_u16]; congr 1; omega
  obtain ⟨W0, hW0⟩ : ∃ W0, s[M].toNat * 256 + s[M + 1].toNat = W0 := ⟨_, rfl⟩
  have lW0 : W0 < 65536 := by omega
  rw [hW0] at hup hwo hwo2
  obtain ⟨q2, hq2⟩ : ∃ q2, 65535 - oc (oc (65535 - p) (65535 - W0)) c = q2 := ⟨_, rfl⟩
  rw [hq2] at hup
  have z3 := supdate_c p W0 c lp lW0 hc hq2
  have HUP : Hid ((∃ e ∈ T.data.toList, e ≠ 0) → q2 = q) := hup
  have ha1 : ∀ W : World, (Op.stringOp .add (s.extract 0 M) X).run Try.prog W = .ok (.string (s.extract 0 M ++ X)) W := fun W => run_string_add_sum W _ _ (by simp; omega)
  have ha2 : ∀ W : World, (Op.stringOp .add (s.extract 0 M ++ X) (s.extract (M + 2) s.size)).run Try.prog W = .ok (.string T) W := fun W => by rw [run_string_add_sum W _ _ (by simp; omega), hT]
  have ha3 : ∀ W : World, (Op.stringOp .add (s.extract 0 M ++ X) (s.extract ((M : Int) + 2).toNat s.size)).run Try.prog W = .ok (.string T) W := fun W => by rw [show ((M : Int) + 2).toNat = M + 2 by omega]; exact ha2 W
  have HT := Lib.hid hT
  have i0 : (0 : Int) ≤ (M : Int) := by omega
  have i1 : (M : Int) < (s.size : Int) := by omega
  have i2 : (M : Int) ≤ (s.size : Int) := by omega
  have j0 : (0 : Int) ≤ (M : Int) + 1 := by omega
  have j1 : (M : Int) + 1 < (s.size : Int) := by omega
  have k0 : (0 : Int) ≤ (M : Int) + 2 := by omega
  have k1 : (M : Int) + 2 ≤ (s.size : Int) := by omega
  have f1 : IntKind.i64.wrap ((M : Int) + 1) = (M : Int) + 1 := IntWalk.i64_in _ (by omega)
  have f2 : IntKind.i64.wrap ((M : Int) + 2) = (M : Int) + 2 := IntWalk.i64_in _ (by omega)
  clear hup hp hq hW0 hq2 hX hT
  go_enter Try.func9, Try.ntmps9
  go_upto_region 4 with (first
    | (go_at_call 12; ((with_reducible refine (awake3_c _).mono ?_); rintro e wa ⟨rfl, g⟩; replace G := htrans G g; clear g))
    | (go_at_call 18; ((with_reducible refine (zl _).mono ?_); rintro e w1 ⟨rfl, g⟩; replace G := htrans G g; clear g)))
  have hM := HM.out
  have hM3 : wrap64 (M : Int) = (M : Int) := by unfold wrap64; omega
  simp only [hM, hM3]
  clear hM hM3
  go_quiet (fail)
  replace G : Hid (Wider w (wa.drewN nq)) := G.out.drewN nq
  generalize wa.drewN nq = V at *
  go_upto_region 5 with fail
  go_region_held3 (fun w' => Hid (Wider w w')) (first | assumption | exact upd_keep (by assumption) (by assumption))
    ((go_at_call 27; ((with_reducible refine (zt _).mono ?_); rintro e w' ⟨rfl, g'⟩)))
  have HG : Hid (Wider w w') := by assumption
  clear G ha1 ha2 ha3
  have G := HG
  clear HG
  generalize w' = V2 at *
  go_wp2_with fail
  go_loop [10, 11] (fun f i => ∃ k : Nat, k ≤ T.size ∧ i = .int .i64 (k : Int) ∧ ∃ b : Bool, f = .bool b ∧ (b = true ↔ ∃ e ∈ T.data.toList.take k, e ≠ 0)) (fun _ i => T.size - (intOf i).toNat)
  case atStart => exact ⟨0, by omega, by simp, false, rfl, by simp⟩
  case round =>
    obtain ⟨k, hk, rfl, b, rfl, hb⟩ := hrel
    have HB := Lib.hid hb
    clear hb
    by_cases d : k < T.size
    · have m0 : (0 : Int) ≤ (k : Int) := by omega
      have m1 : (k : Int) < (T.size : Int) := by omega
      have st := btake_snoc T k d
      cases b with
      | true =>
        have hn : (true = true ↔ ∃ e ∈ T.data.toList.take (k + 1), e ≠ 0) := by
          obtain ⟨e, he, hz⟩ := HB.out.1 rfl
          exact ⟨fun _ => ⟨e, by rw [st]; exact List.mem_append_left _ he, hz⟩, fun _ => rfl⟩
        have HN := Lib.hid hn
        clear hn st
        go_wp2
        go_round
        case rel => exact ⟨k + 1, by omega, by go_num, true, rfl, HN.out⟩
        case measure => simp [intOf]; omega
      | false =>
        have hno : ∀ e ∈ T.data.toList.take k, e = 0 := fun e he => Classical.byContradiction fun hz => Bool.noConfusion (HB.out.2 ⟨e, he, hz⟩)
        obtain ⟨y, hy⟩ : ∃ y, T[k] = y := ⟨_, rfl⟩
        have hn : (((y.toNat : Int) != 0) = true ↔ ∃ e ∈ T.data.toList.take (k + 1), e ≠ 0) := by
          rw [st, hy]
          constructor
          · intro h
            refine ⟨y, by simp, fun e => ?_⟩
            rw [e] at h; simp at h
          · rintro ⟨e, he, hz⟩
            rw [List.mem_append, List.mem_singleton] at he
            rcases he with he | rfl
            · exact absurd (hno e he) hz
            · simp only [bne_iff_ne, ne_eq]
              intro h
              exact hz (UInt8.toNat_inj.1 (by have z : (0 : UInt8).toNat = 0 := rfl; omega))
        have HN := Lib.hid hn
        clear hn st hno
        go_wp2
        try simp only [hy]
        go_round
        case rel => exact ⟨k + 1, by omega, by go_num, _, rfl, HN.out⟩
        case measure => simp [intOf]; omega
    · have e := HB.out
      rw [List.take_of_length_le (by simp; omega)] at e
      have m1 : ¬ (k : Int) < (T.size : Int) := by omega
      cases b with
      | false =>
        clear e
        go_wp2
        go_ret
        exact ⟨rfl, G.out⟩
      | true =>
        have hqq := HUP.out (e.1 rfl)
        subst hqq
        clear e
        go_wp2_with (first
          | (go_at_call 14; ((with_reducible refine (z1 _).mono ?_); rintro e w1 ⟨rfl, g⟩; replace G := htrans G g; clear g))
          | (go_at_call 14; ((with_reducible refine (z2 _).mono ?_); rintro e w1 ⟨rfl, g⟩; replace G := htrans G g; clear g))
          | (go_at_call 17; ((with_reducible refine (z3 _).mono ?_); rintro e w1 ⟨rfl, g⟩; replace G := htrans G g; clear g)))
        go_ret
        exact ⟨rfl, G.out⟩

set_option maxHeartbeats 4000000 in
theorem sumUpdates_walk (s : ByteArray) (hm : s.size ≤ maxLen) (n1 : Int) (n1l : -9223372036854775808 ≤ n1) (n1h : n1 ≤ 9223372036854775807) (n2 : Int) (n2l : 0 ≤ n2) (n2h : n2 < 65536) (w : World) :
    Calls Try.prog 9 #[.string s, .int .i64 n1, .int .u16 n2] w fun e w' => e = .returned (.bool true) ∧ Wider w w' := by
  unfold maxLen at hm
  have G : Hid (Wider w w) := Wider.refl w
  by_cases h0 : s.size < 39999
  · by_cases h2 : 2 ≤ s.size
    · obtain ⟨c, rfl⟩ := Int.eq_ofNat_of_zero_le n2l
      exact sumUpdates_ok s n1 n1l n1h c (by omega) h2 h0 w
    · have zl := long_1 s (by omega) (r := false) (decide_eq_false (by omega))
      have d0 : decide ((s.size : Int) < 2) = true := decide_eq_true (by omega)
      have d0' : decide (s.size < 2) = true := decide_eq_true (by omega)
      go_enter Try.func9, Try.ntmps9
      go_wp2_with (first
        | (go_at_call 12; ((with_reducible refine (awake3_c _).mono ?_); rintro e wa ⟨rfl, g⟩; replace G := htrans G g; clear g))
        | (go_at_call 18; ((with_reducible refine (zl _).mono ?_); rintro e w1 ⟨rfl, g⟩; replace G := htrans G g; clear g)))
      go_ret
      exact ⟨rfl, G.out⟩
  · have zl := long_1 s (by omega) (r := true) (decide_eq_true (by omega))
    go_enter Try.func9, Try.ntmps9
    go_wp2_with (first
      | (go_at_call 12; ((with_reducible refine (awake3_c _).mono ?_); rintro e wa ⟨rfl, g⟩; replace G := htrans G g; clear g))
      | (go_at_call 18; ((with_reducible refine (zl _).mono ?_); rintro e w1 ⟨rfl, g⟩; replace G := htrans G g; clear g)))
    go_ret
    exact ⟨rfl, G.out⟩

set_option maxRecDepth 100000 in
theorem sumUpdates_lifted (os : Os) (started : os.Started) (H : Type) (enc : TypeId × Value → H) :
    ReturnsInHanded {} Try.checked os 9 .any (Rows.sumUpdatesSpec.pre6 enc Try.prog Try.f9 Rows.sumUpdatesRow.domain false) (Rows.sumUpdatesSpec.post enc Try.prog Try.f9 false true false false) := by
  refine returnsInHanded_of_change (C := Try.checked) own started (by kernel_rfl) Try.func9
    (ChangeSpec.witness6 (enc := enc) (C := Try.checked) false ⟨#[], #[.string ⟨#[]⟩, .int .i64 0, .int .u16 0], []⟩ 8 (by kernel_rfl) (by kernel_rfl) (by kernel_rfl) (by kernel_rfl)) ?_
  intro W base args ds gs before hval0 hW hcnd _
  have hval : ∀ (j : Nat) t v, Try.f9.params[j]? = some t → args[j]? = some v → Value.okWide Try.prog W .any base t v := hval0
  have hW' := hW
  obtain ⟨p, q, hA0, hV, rfl, hfz, hnd⟩ := hW
  have hA : DataW.TrodAll enc Try.prog W 0 (fun _ => true) true Try.f9.params.toList args.toList ds p := hA0
  rw [Try.params9] at hA hval
  obtain ⟨v0, vs0, d0, ds0, p0, q0, hargs, rfl, rfl, h0, r0⟩ := trodAll_cons hA
  obtain ⟨v1, vs1, d1, ds1, p1, q1, rfl, rfl, rfl, h1, r1⟩ := trodAll_cons r0
  obtain ⟨v2, vs2, d2, ds2, p2, q2, rfl, rfl, rfl, h2, r2⟩ := trodAll_cons r1
  obtain ⟨rfl, rfl, rfl⟩ := trodAll_nil r2
  obtain rfl : args = #[v0, v1, v2] := by cases args; simp_all
  obtain ⟨rfl, rfl⟩ := trodVars_none hV
  obtain ⟨s0, rfl, rfl, rfl, w0⟩ := open_string Try.underlying9 (hval 0 9 v0 rfl rfl) h0
  obtain ⟨n1, rfl, rfl, rfl, w1⟩ := open_int Try.underlying3 (hval 1 3 v1 rfl rfl) h1
  obtain ⟨n2, rfl, rfl, rfl, w2⟩ := open_int Try.underlying23 (hval 2 23 v2 rfl rfl) h2
  clear hA0 hval0
  simp only [List.append_nil] at hW'
  refine (sumUpdates_walk s0 w0 n1 (bounds_i64 w1).1 (bounds_i64 w1).2 n2 (bounds_u16 w2).1 (bounds_u16 w2).2 W).mono fun e W' ⟨he, hg⟩ => ?_
  subst he
  exact ⟨_, rfl, post_of_none hW' (fun _ _ _ => (trodAll_cons_mk (shut_bool Try.underlying4 _) trodAll_mk0)) (fun sp => (trodAll_cons_mk (shut_string Try.underlying9 w0) (trodAll_cons_mk (shut_int Try.underlying3 w1) (trodAll_cons_mk (shut_int Try.underlying23 w2) trodAll_mk0)))) (fun _ => rfl)
    hg.1 (ok_one (by kernel_rfl) rfl (okWide_bool_mk Try.underlying4 _))⟩

theorem sumUpdates_holds : Rows.SumUpdatesSaid :=
  OpenClaim.holds_of_wide 9 Try.f9 rfl rfl rfl rfl rfl rfl rfl ⟨rfl, rfl, rfl, rfl, rfl⟩ rfl rfl rfl rfl rfl (by kernel_rfl) Try.func9 (by kernel_rfl)
    (of_decide_eq_true (by kernel_rfl)) (by unfold Func.isWrapper; first | (rw [if_pos (by decide +kernel)]; kernel_rfl) | (rw [if_neg (by decide +kernel)]; exact ⟨rfl, rfl⟩))
    (fun os started H enc _ => sumUpdates_lifted os started H enc)

#print axioms sumUpdates_holds

end Go.Proofs.Ytlgahhehagffeaa
