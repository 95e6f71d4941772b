/- The law BufBack: what is put in, and taken out again, leaves all as it was; what is taken out, put in again, and written over by what was there, too. No condition. -/
import Derived.Test.YtlgllgdaodfocaaBAwake
import Derived.Test.YtlgllgdaodfocaaFrame
import Derived.Lib.Hide
import Derived.Deep.DeepCutAuto
import Derived.WalkLawsBesides
import Derived.WalkSpells
import Derived.BigQuiet
import Derived.BigRegion
import Derived.Deep.RegionHeld3
namespace Go.Proofs.Ytlgllgdaodfocaa
set_option linter.unusedVariables false
open Go.ChangeShapes Go.WideShapes Go.ChangeAt Go.RowKit Go.Joins
open Go.ChangeMaps (open_string shut_string)

/-- The text s without its v bytes at k, of which the first j are there again. -/
structure BackT (s : ByteArray) (k v j : Nat) (T : ByteArray) : Prop where
  size : T.size = s.size
  at_ : ∀ i, i < s.size → byteS T i = if k + j ≤ i ∧ i < k + v then 0 else byteS s i
theorem backT_0 (s : ByteArray) (k v : Nat) (h : k + v ≤ s.size) : BackT s k v 0 (insT (delT s k v) k v) := by
  have e1 := delT_size s k v h
  have e2 := insT_size (delT s k v) k v (by omega)
  refine ⟨by omega, fun i hi => ?_⟩
  rw [byteS_ins _ _ _ _ (by omega), byteS_del _ _ _ _ h, byteS_del _ _ _ _ h]
  by_cases c : i < k
  · rw [if_pos c, if_pos c, if_neg (by omega)]
  · rw [if_neg c]
    by_cases d : i < k + v
    · rw [if_pos d, if_pos ⟨by omega, d⟩]
    · rw [if_neg d, if_neg (by omega), if_neg (by omega)]
      have e : i - v + v = i := by omega
      rw [e]
theorem BackT.next {s T : ByteArray} {k v j : Nat} (h : BackT s k v j T) (hv : k + v ≤ s.size) (hj : j < v) : BackT s k v (j + 1) (putT T (8 * (k + j)) 8 (BitVec.ofNat 128 (byteS s (k + j)))) := by
  refine ⟨by rw [putT_size, h.size], fun i hi => ?_⟩
  have p := byteS_put T (k + j) 1 (BitVec.ofNat 128 (byteS s (k + j))) i (by rw [h.size]; exact hi)
  rw [show 8 * 1 = 8 by omega] at p
  rw [p]
  have l := byteS_lt s (k + j)
  by_cases c : i = k + j
  · subst c
    rw [if_pos (by omega), if_neg (by omega), show k + j + 1 - 1 - (k + j) = 0 by omega, Nat.mul_zero, Nat.pow_zero, Nat.div_one, BitVec.toNat_ofNat]
    omega
  · rw [if_neg (by omega), h.at_ i hi]
    by_cases d : k + j ≤ i ∧ i < k + v
    · rw [if_pos d, if_pos (by omega)]
    · rw [if_neg d, if_neg (by omega)]
theorem BackT.last {s T : ByteArray} {k v : Nat} (h : BackT s k v v T) : T = s :=
  text_ext h.size fun i hi => by rw [h.at_ i (by rw [← h.size]; exact hi), if_neg (by omega)]
theorem isW_oct (c : Nat) (h : c < 256) : IsW 0 (c : Int) (BitVec.ofNat 128 c) := by
  refine isW_of (by omega) (by omega) ?_
  rw [BitVec.toNat_ofNat]; omega

set_option maxRecDepth 100000 in
set_option maxHeartbeats 16000000 in
theorem bufBack_ok (s : ByteArray) (n1 : Int) (n1l : -9223372036854775808 ≤ n1) (n1h : n1 ≤ 9223372036854775807) (n2 : Int) (n2l : -9223372036854775808 ≤ n2) (n2h : n2 ≤ 9223372036854775807) (h0 : s.size ≤ 4000) (w : World) :
    Calls Try.prog 5 #[.string s, .int .i64 n1, .int .i64 n2] w fun e w' => e = .returned (.bool true) ∧ Wider w w' := by
  have H : Own w w [] := Own.nil (Wider.refl w)
  have c0 : decide ((4000 : Int) < (s.size : Int)) = false := decide_eq_false (by omega)
  have c1 : decide (4000 < s.size) = false := decide_eq_false (by omega)
  obtain ⟨k, hk⟩ : ∃ P, WithinR s.size n1 P := bwithin_ex _ _ (by omega)
  obtain ⟨m, hm⟩ : ∃ P, WithinR 300 n2 P := bwithin_ex _ _ (by omega)
  obtain ⟨v, hv⟩ : ∃ P, WithinR (s.size - k) n2 P := bwithin_ex _ _ (by omega)
  have k9 := hk.2; have m9 := hm.2; have v9 := hv.2
  have zk := within_c s.size n1 (s.size : Int) rfl (by omega) n1l n1h hk
  have zm := within_c 300 n2 300 rfl (by omega) n2l n2h hm
  have zv := within_c (s.size - k) n2 ((s.size : Int) - (k : Int)) (by omega) (by omega) n2l n2h hv
  have z1 : (insT s k m).size = s.size + m := insT_size s k m k9
  have z2 : (delT s k v).size = s.size - v := delT_size s k v (by omega)
  have i1 := insR_of s k m k9 (by omega)
  have d1 := delR_of (insT s k m) k m (by omega)
  rw [del_ins s k m k9] at d1
  have d2 := delR_of s k v (by omega)
  have i2 := insR_of (delT s k v) k v (by omega) (by omega)
  have B0 := backT_0 s k v (by omega)
  obtain ⟨K, hK⟩ : ∃ K : Nat, (k : Int) + (v : Int) = (K : Int) := ⟨k + v, by omega⟩
  have q1 : IntKind.i64.wrap ((k : Int) + (v : Int)) = (K : Int) := by rw [hK]; exact IntWalk.i64_in _ (by omega)
  have q2 : IntKind.i64.wrap (K : Int) = (K : Int) := IntWalk.i64_in _ (by omega)
  have p0 : (0 : Int) ≤ (k : Int) := by omega
  have p1 : (k : Int) ≤ (s.size : Int) := by omega
  have p2 : (0 : Int) ≤ (K : Int) := by omega
  have p3 : (K : Int) ≤ (s.size : Int) := by omega
  have hD : s.extract 0 k ++ s.extract K s.size = delT s k v := by unfold delT; rw [show K = k + v by omega]
  obtain ⟨S1, hS1⟩ : ∃ A, insT s k m = A := ⟨_, rfl⟩
  rw [hS1] at i1 d1 z1
  obtain ⟨D, hD2⟩ : ∃ A, delT s k v = A := ⟨_, rfl⟩
  rw [hD2] at d2 i2 B0 z2 hD
  obtain ⟨R, hR⟩ : ∃ A, insT D k v = A := ⟨_, rfl⟩
  rw [hR] at i2 B0
  have z3 : R.size = s.size := B0.size
  have ha : ∀ W : World, (Op.stringOp .add (s.extract 0 k) (s.extract K s.size)).run Try.prog W = .ok (.string D) W := fun W => by
    rw [run_string_add_sum W _ _ (by rw [← ByteArray.size_append, hD]; omega), hD]
  have HB := Lib.hid B0
  have HZ := Lib.hid z3
  clear hk hm hv hS1 hD hD2 hR B0 z2
  go_enter Try.func5, Try.ntmps5
  go_upto_region 9 with (first
          | (go_at_call 11; ((with_reducible refine (awake5_c _).mono ?_); rintro e wa ⟨rfl, g⟩; replace H := H.quiet g; clear g))
          | (go_at_call 24; ((with_reducible refine (zk _).mono ?_); rintro e w9 ⟨rfl, rfl⟩))
          | (go_at_call 24; ((with_reducible refine (zm _).mono ?_); rintro e w9 ⟨rfl, rfl⟩))
          | (go_at_call 24; ((with_reducible refine (zv _).mono ?_); rintro e w9 ⟨rfl, rfl⟩))
          | (go_at_call 25; ((with_reducible refine (of_1 s (by omega) H).mono ?_); clear H; rintro e w1 ⟨p, rfl, H⟩))
          | (go_at_call 13; ((with_reducible refine (bins_1 H (k : Int) (m : Int) (by omega) (by omega) (by omega) (by omega) i1).mono ?_); clear H; rintro e w1 ⟨rfl, H⟩))
          | (go_at_call 19; ((with_reducible refine (blen_1 H).mono ?_); clear H; rintro e w1 ⟨rfl, H⟩))
          | (go_at_call 14; ((with_reducible refine (bdel_1 H (k : Int) (m : Int) (by omega) (by omega) (by omega) (by omega) d1).mono ?_); clear H; rintro e w1 ⟨rfl, H⟩))
          | (go_at_call 18; ((with_reducible refine (btext_1 H).mono ?_); clear H; rintro e w1 ⟨rfl, H⟩)))
  clear zk zm zv i1 d1 z1
  replace H := H.drew
  have G : Wider w w9.drew := H.wider
  go_region_held3 (fun w' => Wider w w') (first | assumption | exact H.wider)
    (first
          | (go_at_call 14; ((with_reducible refine (bdel_1 H (k : Int) (v : Int) (by omega) (by omega) (by omega) (by omega) d2).mono ?_); clear H; rintro e w' ⟨rfl, H⟩))
          | (go_at_call 18; ((with_reducible refine (btext_1 H).mono ?_); clear H; rintro e w' ⟨rfl, H⟩))
          | (go_at_call 13; ((with_reducible refine (bins_1 H (k : Int) (v : Int) (by omega) (by omega) (by omega) (by omega) i2).mono ?_); clear H; rintro e w' ⟨rfl, H⟩))
          | (go_at_call 19; ((with_reducible refine (blen_1 H).mono ?_); clear H; rintro e w' ⟨rfl, H⟩)))
  clear q1 q2 p2 p3 ha G i2 d2
  go_wp2_with fail
  go_loopw [10] (fun i wr => ∃ j : Nat, j ≤ v ∧ i = .int .i64 (j : Int) ∧ ∃ T, B1 w wr p T [] ∧ Hid (BackT s k v j T)) (fun i _ => v - (intOf i).toNat)
  case atStart => exact ⟨0, by omega, by simp, R, H, HB.out⟩
  case round =>
    clear H HB
    obtain ⟨j, hj, rfl, T, H, HB⟩ := hrel
    by_cases hjv : j < v
    · have i0 : (0 : Int) ≤ (j : Int) := by omega
      have i1 : (j : Int) < (v : Int) := by omega
      obtain ⟨q, hq⟩ : ∃ q : Nat, (k : Int) + (j : Int) = (q : Int) := ⟨k + j, by omega⟩
      have q0 : (0 : Int) ≤ (q : Int) := by omega
      have q1 : (q : Int) < (s.size : Int) := by omega
      have qs : q < s.size := by omega
      obtain ⟨c, hc0⟩ : ∃ c, s[q].toNat = c := ⟨_, rfl⟩
      have hc1 : c < 256 := by rw [← hc0]; exact UInt8.toNat_lt _
      have hc := isW_oct c hc1
      have TS := HB.out.size
      have e0 : byteS T q = 0 := by rw [HB.out.at_ q qs, if_pos (by omega)]
      have g1 := getR_of T (8 * q) 8 (a := 0) (b := 0) (by decide) (by decide) (by rw [TS]; omega) (by rw [fldW_byte T q e0]; exact ⟨by decide, by decide⟩)
      rw [show ((8 * q : Nat) : Int) = 8 * (q : Int) by omega] at g1
      have p1 := bputR_of T (8 * q) 8 (BitVec.ofNat 128 c) (by decide) (by decide) (by rw [TS]; omega)
      rw [show ((8 * q : Nat) : Int) = 8 * (q : Int) by omega] at p1
      have HN := HB.out.next (by omega) hjv
      rw [show k + j = q by omega, byteS_at s q qs, hc0] at HN
      obtain ⟨T2, hT2⟩ : ∃ A, putT T (8 * q) 8 (BitVec.ofNat 128 c) = A := ⟨_, rfl⟩
      rw [hT2] at p1 HN
      have HN2 := Lib.hid HN
      clear HN HB hT2 e0 TS
      go_wp2_with (first
          | (go_at_call 16; ((with_reducible refine (bget_1 H (8 * (q : Int)) 8 (by omega) (by omega) (by omega) (by omega) g1).mono ?_); clear H; rintro e w5 ⟨rfl, H⟩; replace H := H.add 0 0 32; obtain ⟨k0, k1⟩ := H.word))
          | (go_at_call 15; ((with_reducible refine (bput_1 H (8 * (q : Int)) 8 (BitVec.ofNat 128 c) (by omega) (by omega) (by omega) (by omega) hc p1).mono ?_); clear H k0 k1; rintro e w6 ⟨rfl, H⟩; replace H := H.less)))
      go_roundw
      case rel => exact ⟨j + 1, by omega, by go_num, T2, H, HN2.out⟩
      case measure => simp [intOf]; omega
    · obtain rfl : j = v := by omega
      have i1 : ¬ (j : Int) < (j : Int) := by omega
      obtain rfl : T = s := HB.out.last
      clear HB HZ
      go_wp2_with (first
        | (go_at_call 18; ((with_reducible refine (btext_1 H).mono ?_); clear H; rintro e w1 ⟨rfl, H⟩)))
      go_ret
      exact ⟨rfl, H.wider⟩

set_option maxHeartbeats 4000000 in
theorem bufBack_walk (s : ByteArray) (hm : s.size ≤ maxLen) (n1 : Int) (n1l : -9223372036854775808 ≤ n1) (n1h : n1 ≤ 9223372036854775807) (n2 : Int) (n2l : -9223372036854775808 ≤ n2) (n2h : n2 ≤ 9223372036854775807) (w : World) :
    Calls Try.prog 5 #[.string s, .int .i64 n1, .int .i64 n2] w fun e w' => e = .returned (.bool true) ∧ Wider w w' := by
  unfold maxLen at hm
  by_cases h0 : s.size ≤ 4000
  · exact bufBack_ok s n1 n1l n1h n2 n2l n2h h0 w
  · have H : Own w w [] := Own.nil (Wider.refl w)
    have c0 : decide ((4000 : Int) < (s.size : Int)) = true := decide_eq_true (by omega)
    have c1 : decide (4000 < s.size) = true := decide_eq_true (by omega)
    go_enter Try.func5, Try.ntmps5
    go_wp2_with (first
      | (go_at_call 11; ((with_reducible refine (awake5_c _).mono ?_); rintro e wa ⟨rfl, g⟩; replace H := H.quiet g; clear g)))
    go_ret
    exact ⟨rfl, H.wider⟩

set_option maxRecDepth 100000 in
theorem bufBack_lifted (os : Os) (started : os.Started) (H : Type) (enc : TypeId × Value → H) :
    ReturnsInHanded {} Try.checked os 5 .any (Rows.bufBackSpec.pre6 enc Try.prog Try.f5 Rows.bufBackRow.domain false) (Rows.bufBackSpec.post enc Try.prog Try.f5 false true false false) := by
  refine returnsInHanded_of_change (C := Try.checked) own started (by kernel_rfl) Try.func5
    (ChangeSpec.witness6 (enc := enc) (C := Try.checked) false ⟨#[], #[.string ⟨#[]⟩, .int .i64 0, .int .i64 0], []⟩ 8 (by kernel_rfl) (by kernel_rfl) (by kernel_rfl) (by kernel_rfl)) ?_
  intro W base args ds gs before hval0 hW hcnd _
  have hval : ∀ (j : Nat) t v, Try.f5.params[j]? = some t → args[j]? = some v → Value.okWide Try.prog W .any base t v := hval0
  have hW' := hW
  obtain ⟨p, q, hA0, hV, rfl, hfz, hnd⟩ := hW
  have hA : DataW.TrodAll enc Try.prog W 0 (fun _ => true) true Try.f5.params.toList args.toList ds p := hA0
  rw [Try.params5] at hA hval
  obtain ⟨v0, vs0, d0, ds0, p0, q0, hargs, rfl, rfl, h0, r0⟩ := trodAll_cons hA
  obtain ⟨v1, vs1, d1, ds1, p1, q1, rfl, rfl, rfl, h1, r1⟩ := trodAll_cons r0
  obtain ⟨v2, vs2, d2, ds2, p2, q2, rfl, rfl, rfl, h2, r2⟩ := trodAll_cons r1
  obtain ⟨rfl, rfl, rfl⟩ := trodAll_nil r2
  obtain rfl : args = #[v0, v1, v2] := by cases args; simp_all
  obtain ⟨rfl, rfl⟩ := trodVars_none hV
  obtain ⟨s0, rfl, rfl, rfl, w0⟩ := open_string Try.underlying9 (hval 0 9 v0 rfl rfl) h0
  obtain ⟨n1, rfl, rfl, rfl, w1⟩ := open_int Try.underlying3 (hval 1 3 v1 rfl rfl) h1
  obtain ⟨n2, rfl, rfl, rfl, w2⟩ := open_int Try.underlying3 (hval 2 3 v2 rfl rfl) h2
  clear hA0 hval0
  simp only [List.append_nil] at hW'
  refine (bufBack_walk s0 w0 n1 (bounds_i64 w1).1 (bounds_i64 w1).2 n2 (bounds_i64 w2).1 (bounds_i64 w2).2 W).mono fun e W' ⟨he, hg⟩ => ?_
  subst he
  exact ⟨_, rfl, post_of_none hW' (fun _ _ _ => (trodAll_cons_mk (shut_bool Try.underlying4 _) trodAll_mk0)) (fun sp => (trodAll_cons_mk (shut_string Try.underlying9 w0) (trodAll_cons_mk (shut_int Try.underlying3 w1) (trodAll_cons_mk (shut_int Try.underlying3 w2) trodAll_mk0)))) (fun _ => rfl)
    hg.1 (ok_one (by kernel_rfl) rfl (okWide_bool_mk Try.underlying4 _))⟩

theorem bufBack_holds : Rows.BufBackSaid :=
  OpenClaim.holds_of_wide 5 Try.f5 rfl rfl rfl rfl rfl rfl rfl ⟨rfl, rfl, rfl, rfl, rfl⟩ rfl rfl rfl rfl rfl (by kernel_rfl) Try.func5 (by kernel_rfl)
    (of_decide_eq_true (by kernel_rfl)) (by unfold Func.isWrapper; first | (rw [if_pos (by decide +kernel)]; kernel_rfl) | (rw [if_neg (by decide +kernel)]; exact ⟨rfl, rfl⟩))
    (fun os started H enc _ => bufBack_lifted os started H enc)

#print axioms bufBack_holds

end Go.Proofs.Ytlgllgdaodfocaa
