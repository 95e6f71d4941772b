/- The law SumNothing: bytes 0 behind change nothing; two of them anywhere at an even place neither; the sum is 0 of bytes 0 alone. No condition. -/
import Derived.Test.YtlgahhehagffeaaSAwake
import Derived.Test.YtlgahhehagffeaaSOpen
import Derived.Test.YtlgahhehagffeaaSGlue
import Derived.Test.YtlgahhehagffeaaSMake
import Derived.Lib.Hide
import Derived.BigQuiet
import Derived.BigRegion
import Derived.Deep.RegionHeld3
import Derived.Deep.DeepCutAuto
import Derived.WalkLawsBesides
import Derived.WalkSpells
namespace Go.Proofs.Ytlgahhehagffeaa
set_option linter.unusedVariables false
open Go.ChangeShapes Go.WideShapes Go.ChangeAt Go.RowKit Go.Joins
open Go.ChangeMaps (open_string shut_string)

theorem nt_keepW {V W w : World} (g : Wider W w) (h : Hid (Wider V W)) : Hid (Wider V w) := htrans h g
theorem zeros_data (M : Nat) : (strOfNums ((List.range M).map fun _ => (0 : Int))).data.toList = List.replicate M 0 := by
  rw [strOfNums_data, List.map_map]
  apply List.ext_getElem
  · simp only [List.length_map, List.length_range, List.length_replicate]
  · intro i h1 h2
    rw [List.getElem_map, List.getElem_replicate]; rfl
theorem nt_behind (l : List UInt8) (M : Nat) : sumS (l ++ List.replicate M 0) = sumS l := by
  unfold sumS; rw [wsum_append, wsum_zeros]; rfl
theorem nt_ahead (l : List UInt8) (M : Nat) : sumS (List.replicate M 0 ++ (List.replicate M 0 ++ l)) = sumS l := by
  unfold sumS
  rw [← List.append_assoc, ← List.replicate_append_replicate.symm, wsum_even _ _ (by rw [List.length_replicate]; omega), wsum_zeros, Nat.zero_add]
theorem nt_mid (l : List UInt8) (P : Nat) (hP : P % 2 = 0) (h : P ≤ l.length) : sumS (l.take P ++ [0, 0] ++ l.drop P) = sumS l := by
  have hA : (l.take P).length % 2 = 0 := by rw [List.length_take]; omega
  unfold sumS
  rw [List.append_assoc, wsum_even _ _ hA, wsum_even _ _ (by rfl)]
  have e := wsum_even (l.drop P) true hA
  rw [List.take_append_drop] at e
  rw [e]
  have z : wsum true [0, 0] = 0 := by decide
  rw [z, Nat.zero_add]
theorem join_2 (s Z : ByteArray) : (joinL [s, Z]).data.toList = s.data.toList ++ Z.data.toList := by rw [joinL_data]; simp
theorem join_3 (s Z : ByteArray) : (joinL [Z, Z, s]).data.toList = Z.data.toList ++ (Z.data.toList ++ s.data.toList) := by rw [joinL_data]; simp

set_option maxRecDepth 100000 in
set_option maxHeartbeats 16000000 in
theorem sumNothing_ok (s : ByteArray) (n1 : Int) (n1l : -9223372036854775808 ≤ n1) (n1h : n1 ≤ 9223372036854775807) (n2 : Int) (n2l : -9223372036854775808 ≤ n2) (n2h : n2 ≤ 9223372036854775807) (hs : s.size < 39999) (w : World) :
    Calls Try.prog 11 #[.string s, .int .i64 n1, .int .i64 n2] w fun e w' => e = .returned (.bool true) ∧ Wider w w' := by
  have G : Hid (Wider w w) := Wider.refl w
  have zl := long_1 s (by omega) (r := false) (decide_eq_false (by omega))
  obtain ⟨P, hP, hP2, hPl⟩ := place_ex s.size n1 (by omega)
  have zp := splace_c s n1 (by omega) n1l n1h hP hPl
  clear hP
  obtain ⟨M, hM, hM5⟩ : ∃ M : Nat, wrap64 ((IntKind.u64.wrap n2).tmod 50) = (M : Int) ∧ M < 50 := by
    have u0 : 0 ≤ IntKind.u64.wrap n2 := by rw [IntKind.wrap_u64]; omega
    rw [Int.tmod_eq_emod_of_nonneg u0]
    generalize IntKind.u64.wrap n2 = V at *
    have e1 : wrap64 (V % 50) = V % 50 := by unfold wrap64; omega
    rw [e1]
    exact ⟨(V % 50).toNat, by omega, by omega⟩
  obtain ⟨Z, hZ⟩ : ∃ Z, strOfNums ((List.range M).map fun _ => (0 : Int)) = Z := ⟨_, rfl⟩
  have hZd : Z.data.toList = List.replicate M 0 := by rw [← hZ]; exact zeros_data M
  have hZs : Z.size = M := by
    have e : Z.size = Z.data.toList.length := by simp
    rw [e, hZd, List.length_replicate]
  have hmk := makeN M (by omega)
  have hcv := fun W : World => (Bts.made W M).conv M hZ
  obtain ⟨r, hr⟩ : ∃ r, sumS s.data.toList = r := ⟨_, rfl⟩
  obtain ⟨U, hU⟩ : ∃ U, (s.extract 0 P ++ ⟨#[0, 0]⟩) ++ s.extract P s.size = U := ⟨_, rfl⟩
  have hUs : U.size < 1000000 := by
    have z : (⟨#[0, 0]⟩ : ByteArray).size = 2 := rfl
    rw [← hU, glue_size s _ P P hPl hPl, z]; omega
  have hUr : sumS U.data.toList = r := by
    rw [← hU, glue s _ P P hPl, ← hr]
    exact nt_mid s.data.toList P hP2 (by simpa using hPl)
  have z0 := ssum_1 s (by omega) hr
  have z1 := fun W : World => ssum_lad [s, Z] 2 #[.string s, .string Z] (r := r) rfl rfl (by decide) (by rw [joinL_size]; simp; omega) (by rw [join_2, hZd, nt_behind]; exact hr) W
  have z1' := fun W : World => ssum_la [s, Z] 2 #[.string s, .string Z] (r := r) rfl rfl (by decide) (by rw [joinL_size]; simp; omega) (by rw [join_2, hZd, nt_behind]; exact hr) W
  have z2 := fun W : World => ssum_lad [U] 1 #[.string U] (r := r) rfl rfl (by decide) (by rw [joinL_one]; exact hUs) (by rw [joinL_one]; exact hUr) W
  have z2' := fun W : World => ssum_la [U] 1 #[.string U] (r := r) rfl rfl (by decide) (by rw [joinL_one]; exact hUs) (by rw [joinL_one]; exact hUr) W
  have z3 := fun W : World => ssum_lad [Z, Z, s] 3 #[.string Z, .string Z, .string s] (r := r) rfl rfl (by decide) (by rw [joinL_size]; simp; omega) (by rw [join_3, hZd, nt_ahead]; exact hr) W
  have z3' := fun W : World => ssum_la [Z, Z, s] 3 #[.string Z, .string Z, .string s] (r := r) rfl rfl (by decide) (by rw [joinL_size]; simp; omega) (by rw [join_3, hZd, nt_ahead]; exact hr) W
  have p0 : (0 : Int) ≤ (P : Int) := by omega
  have p1 : (P : Int) ≤ (s.size : Int) := by omega
  have ha1 : ∀ W : World, (Op.stringOp .add (s.extract 0 P) ⟨#[0, 0]⟩).run Try.prog W = .ok (.string (s.extract 0 P ++ ⟨#[0, 0]⟩)) W := fun W => run_string_add_sum W _ _ (by have z : (⟨#[0, 0]⟩ : ByteArray).size = 2 := rfl; simp [z]; omega)
  have ha2 : ∀ W : World, (Op.stringOp .add (s.extract 0 P ++ ⟨#[0, 0]⟩) (s.extract P s.size)).run Try.prog W = .ok (.string U) W := fun W => by rw [run_string_add_sum W _ _ (by have z : (⟨#[0, 0]⟩ : ByteArray).size = 2 := rfl; simp [z]; omega), hU]
  have hrz : r = 0 ↔ ∀ c ∈ s.data.toList, c = 0 := by rw [← hr]; exact sumS_zero _
  have HR := Lib.hid hrz
  clear hZ hZd hr hU hUr hrz
  go_enter Try.func11, Try.ntmps11
  go_upto_region 4 with (first
    | (go_at_call 12; ((with_reducible refine (awake3_c _).mono ?_); rintro e wa ⟨rfl, g⟩; replace G := htrans G g; clear g))
    | (go_at_call 18; ((with_reducible refine (zl _).mono ?_); rintro e w1 ⟨rfl, g⟩; replace G := htrans G g; clear g))
    | (go_at_call 26; ((with_reducible refine (zp _).mono ?_); rintro e w9 ⟨rfl, rfl⟩)))
  go_upto_region 5 with fail
  clear hmk hcv hM
  replace G := halloc2 G (.cells (zerosN M) 5)
  generalize w9.alloc (.cells (zerosN M) 5) = V1 at *
  go_wp2_with fail
  go_loop [9, 10] (fun f i => ∃ k : Nat, k ≤ s.size ∧ i = .int .i64 (k : Int) ∧ ∃ b : Bool, f = .bool b ∧ (b = true ↔ ∀ e ∈ s.data.toList.take k, e = 0)) (fun _ i => s.size - (intOf i).toNat)
  case atStart => exact ⟨0, by omega, by simp, true, rfl, by simp⟩
  case round =>
    obtain ⟨k, hk, rfl, b, rfl, hb⟩ := hrel
    have HB := Lib.hid hb
    clear hb
    by_cases d : k < s.size
    · have m0 : (0 : Int) ≤ (k : Int) := by omega
      have m1 : (k : Int) < (s.size : Int) := by omega
      have st := btake_snoc s k d
      cases b with
      | false =>
        have hn : (false = true ↔ ∀ e ∈ s.data.toList.take (k + 1), e = 0) := by
          refine ⟨fun h => (by cases h), fun h => HB.out.2 fun e he => h e (by rw [st]; exact List.mem_append_left _ he)⟩
        have HN := Lib.hid hn
        clear hn st
        go_wp2
        go_round
        case rel => exact ⟨k + 1, by omega, by go_num, false, rfl, HN.out⟩
        case measure => simp [intOf]; omega
      | true =>
        have hno := HB.out.1 rfl
        obtain ⟨y, hy⟩ : ∃ y, s[k] = y := ⟨_, rfl⟩
        have hn : (((y.toNat : Int) == 0) = true ↔ ∀ e ∈ s.data.toList.take (k + 1), e = 0) := by
          rw [st, hy]
          have z : (0 : UInt8).toNat = 0 := rfl
          constructor
          · intro h e he
            rw [List.mem_append, List.mem_singleton] at he
            rcases he with he | rfl
            · exact hno e he
            · rw [beq_iff_eq] at h
              exact UInt8.toNat_inj.1 (by omega)
          · intro h
            have e := h y (by simp)
            rw [e, z]; rfl
        have HN := Lib.hid hn
        clear hn st hno
        go_wp2
        try simp only [hy]
        go_round
        case rel => exact ⟨k + 1, by omega, by go_num, _, rfl, HN.out⟩
        case measure => simp [intOf]; omega
    · have e := HB.out
      rw [List.take_of_length_le (by simp; omega), ← HR.out] at e
      have m1 : ¬ (k : Int) < (s.size : Int) := by omega
      cases b with
      | false =>
        have f1 : ((r : Int) == 0) = false := by
          simp
          intro h
          exact Bool.noConfusion (e.2 (by omega))
        clear e HB
        go_upto_region 11 with (go_at_call 13; ((with_reducible refine (z0 _).mono ?_); rintro e w7 ⟨rfl, g⟩; replace G := htrans G g; clear g))
        go_region_held3 (fun w' => Hid (Wider w w')) (first | assumption | exact nt_keepW (by assumption) (by assumption) | exact hdrewD (by assumption) | exact hdrewA (by assumption) | exact halloc2 (by assumption) _)
          (first
            | (go_at_call 13; ((with_reducible refine (z1 _).mono ?_); rintro e w' ⟨rfl, g'⟩))
            | (go_at_call 13; ((with_reducible refine (z1' _).mono ?_); rintro e w' ⟨rfl, g'⟩))
            | (go_at_call 13; ((with_reducible refine (z2 _).mono ?_); rintro e w' ⟨rfl, g'⟩))
            | (go_at_call 13; ((with_reducible refine (z2' _).mono ?_); rintro e w' ⟨rfl, g'⟩))
            | (go_at_call 13; ((with_reducible refine (z3 _).mono ?_); rintro e w' ⟨rfl, g'⟩))
            | (go_at_call 13; ((with_reducible refine (z3' _).mono ?_); rintro e w' ⟨rfl, g'⟩)))
        have HG : Hid (Wider w w') := by assumption
        go_wp2
        go_ret
        exact ⟨rfl, HG.out⟩
      | true =>
        have f1 : ((r : Int) == 0) = true := by
          have h := e.1 rfl
          simp [h]
        clear e HB
        go_upto_region 11 with (go_at_call 13; ((with_reducible refine (z0 _).mono ?_); rintro e w7 ⟨rfl, g⟩; replace G := htrans G g; clear g))
        go_region_held3 (fun w' => Hid (Wider w w')) (first | assumption | exact nt_keepW (by assumption) (by assumption) | exact hdrewD (by assumption) | exact hdrewA (by assumption) | exact halloc2 (by assumption) _)
          (first
            | (go_at_call 13; ((with_reducible refine (z1 _).mono ?_); rintro e w' ⟨rfl, g'⟩))
            | (go_at_call 13; ((with_reducible refine (z1' _).mono ?_); rintro e w' ⟨rfl, g'⟩))
            | (go_at_call 13; ((with_reducible refine (z2 _).mono ?_); rintro e w' ⟨rfl, g'⟩))
            | (go_at_call 13; ((with_reducible refine (z2' _).mono ?_); rintro e w' ⟨rfl, g'⟩))
            | (go_at_call 13; ((with_reducible refine (z3 _).mono ?_); rintro e w' ⟨rfl, g'⟩))
            | (go_at_call 13; ((with_reducible refine (z3' _).mono ?_); rintro e w' ⟨rfl, g'⟩)))
        have HG : Hid (Wider w w') := by assumption
        go_wp2
        go_ret
        exact ⟨rfl, HG.out⟩

set_option maxHeartbeats 4000000 in
theorem sumNothing_walk (s : ByteArray) (hm : s.size ≤ maxLen) (n1 : Int) (n1l : -9223372036854775808 ≤ n1) (n1h : n1 ≤ 9223372036854775807) (n2 : Int) (n2l : -9223372036854775808 ≤ n2) (n2h : n2 ≤ 9223372036854775807) (w : World) :
    Calls Try.prog 11 #[.string s, .int .i64 n1, .int .i64 n2] w fun e w' => e = .returned (.bool true) ∧ Wider w w' := by
  unfold maxLen at hm
  have G : Hid (Wider w w) := Wider.refl w
  by_cases h0 : s.size < 39999
  · exact sumNothing_ok s n1 n1l n1h n2 n2l n2h h0 w
  · have zl := long_1 s (by omega) (r := true) (decide_eq_true (by omega))
    go_enter Try.func11, Try.ntmps11
    go_wp2_with (first
      | (go_at_call 12; ((with_reducible refine (awake3_c _).mono ?_); rintro e wa ⟨rfl, g⟩; replace G := htrans G g; clear g))
      | (go_at_call 18; ((with_reducible refine (zl _).mono ?_); rintro e w1 ⟨rfl, g⟩; replace G := htrans G g; clear g)))
    go_ret
    exact ⟨rfl, G.out⟩

set_option maxRecDepth 100000 in
theorem sumNothing_lifted (os : Os) (started : os.Started) (H : Type) (enc : TypeId × Value → H) :
    ReturnsInHanded {} Try.checked os 11 .any (Rows.sumNothingSpec.pre6 enc Try.prog Try.f11 Rows.sumNothingRow.domain false) (Rows.sumNothingSpec.post enc Try.prog Try.f11 false true false false) := by
  refine returnsInHanded_of_change (C := Try.checked) own started (by kernel_rfl) Try.func11
    (ChangeSpec.witness6 (enc := enc) (C := Try.checked) false ⟨#[], #[.string ⟨#[]⟩, .int .i64 0, .int .i64 0], []⟩ 8 (by kernel_rfl) (by kernel_rfl) (by kernel_rfl) (by kernel_rfl)) ?_
  intro W base args ds gs before hval0 hW hcnd _
  have hval : ∀ (j : Nat) t v, Try.f11.params[j]? = some t → args[j]? = some v → Value.okWide Try.prog W .any base t v := hval0
  have hW' := hW
  obtain ⟨p, q, hA0, hV, rfl, hfz, hnd⟩ := hW
  have hA : DataW.TrodAll enc Try.prog W 0 (fun _ => true) true Try.f11.params.toList args.toList ds p := hA0
  rw [Try.params11] at hA hval
  obtain ⟨v0, vs0, d0, ds0, p0, q0, hargs, rfl, rfl, h0, r0⟩ := trodAll_cons hA
  obtain ⟨v1, vs1, d1, ds1, p1, q1, rfl, rfl, rfl, h1, r1⟩ := trodAll_cons r0
  obtain ⟨v2, vs2, d2, ds2, p2, q2, rfl, rfl, rfl, h2, r2⟩ := trodAll_cons r1
  obtain ⟨rfl, rfl, rfl⟩ := trodAll_nil r2
  obtain rfl : args = #[v0, v1, v2] := by cases args; simp_all
  obtain ⟨rfl, rfl⟩ := trodVars_none hV
  obtain ⟨s0, rfl, rfl, rfl, w0⟩ := open_string Try.underlying9 (hval 0 9 v0 rfl rfl) h0
  obtain ⟨n1, rfl, rfl, rfl, w1⟩ := open_int Try.underlying3 (hval 1 3 v1 rfl rfl) h1
  obtain ⟨n2, rfl, rfl, rfl, w2⟩ := open_int Try.underlying3 (hval 2 3 v2 rfl rfl) h2
  clear hA0 hval0
  simp only [List.append_nil] at hW'
  refine (sumNothing_walk s0 w0 n1 (bounds_i64 w1).1 (bounds_i64 w1).2 n2 (bounds_i64 w2).1 (bounds_i64 w2).2 W).mono fun e W' ⟨he, hg⟩ => ?_
  subst he
  exact ⟨_, rfl, post_of_none hW' (fun _ _ _ => (trodAll_cons_mk (shut_bool Try.underlying4 _) trodAll_mk0)) (fun sp => (trodAll_cons_mk (shut_string Try.underlying9 w0) (trodAll_cons_mk (shut_int Try.underlying3 w1) (trodAll_cons_mk (shut_int Try.underlying3 w2) trodAll_mk0)))) (fun _ => rfl)
    hg.1 (ok_one (by kernel_rfl) rfl (okWide_bool_mk Try.underlying4 _))⟩

theorem sumNothing_holds : Rows.SumNothingSaid :=
  OpenClaim.holds_of_wide 11 Try.f11 rfl rfl rfl rfl rfl rfl rfl ⟨rfl, rfl, rfl, rfl, rfl⟩ rfl rfl rfl rfl rfl (by kernel_rfl) Try.func11 (by kernel_rfl)
    (of_decide_eq_true (by kernel_rfl)) (by unfold Func.isWrapper; first | (rw [if_pos (by decide +kernel)]; kernel_rfl) | (rw [if_neg (by decide +kernel)]; exact ⟨rfl, rfl⟩))
    (fun os started H enc _ => sumNothing_lifted os started H enc)

#print axioms sumNothing_holds

end Go.Proofs.Ytlgahhehagffeaa
