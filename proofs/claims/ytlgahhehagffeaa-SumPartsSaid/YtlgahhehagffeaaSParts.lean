/- The law SumParts: the sum of texts is that of the sums of parts: of even lengths, but for the last one, of an odd one with its bytes turned about. No condition. -/
import Derived.Test.YtlgahhehagffeaaSAwake
import Derived.Test.YtlgahhehagffeaaSOpen
import Derived.Lib.Hide
import Derived.Deep.DeepCutAuto
import Derived.WalkLawsBesides
import Derived.WalkSpells
namespace Go.Proofs.Ytlgahhehagffeaa
set_option linter.unusedVariables false
open Go.ChangeShapes Go.WideShapes Go.ChangeAt Go.RowKit Go.Joins
open Go.ChangeMaps (open_string shut_string)

theorem joinL_2 (s t : ByteArray) : (joinL [s, t]).data.toList = s.data.toList ++ t.data.toList := by rw [joinL_data]; simp
theorem joinL_5 (s t : ByteArray) : (joinL [⟨#[]⟩, s, ⟨#[]⟩, t, ⟨#[]⟩]).data.toList = s.data.toList ++ t.data.toList := by rw [joinL_data]; simp
theorem joinL_5s (s t : ByteArray) : (joinL [⟨#[]⟩, s, ⟨#[]⟩, t, ⟨#[]⟩]).size = s.size + t.size := by have h := congrArg List.length (joinL_5 s t); simpa using h
theorem sumS_parts (s t : ByteArray) : sumS (s.data.toList ++ t.data.toList) = oc (sumS s.data.toList) (if s.size % 2 = 1 then turnW (sumS t.data.toList) else sumS t.data.toList) := by
  have e : s.data.toList.length = s.size := by simp
  by_cases h : s.size % 2 = 1
  · rw [if_pos h]; exact sumS_odd _ (by rw [e]; exact h)
  · rw [if_neg h]; exact sumS_even _ (by rw [e]; omega)

set_option maxHeartbeats 8000000 in
theorem sumParts_walk (s : ByteArray) (hm : s.size ≤ maxLen) (t : ByteArray) (hm2 : t.size ≤ maxLen) (w : World) :
    Calls Try.prog 7 #[.string s, .string t] w fun e w' => e = .returned (.bool true) ∧ Wider w w' := by
  unfold maxLen at hm hm2
  have G : Hid (Wider w w) := Wider.refl w
  obtain ⟨b, hb⟩ : ∃ b : Bool, decide (40000 ≤ bulk [s, t]) = b := ⟨_, rfl⟩
  have zl := fun W : World => long_l [s, t] 2 #[.string s, .string t] rfl rfl (by decide) (fun x h => by
    rw [List.mem_cons, List.mem_singleton] at h
    rcases h with rfl | rfl
    · exact hm
    · exact hm2) hb W
  cases b with
  | true =>
    go_enter Try.func7, Try.ntmps7
    go_wp2_with (first
      | (go_at_call 12; ((with_reducible refine (awake3_c _).mono ?_); rintro e wa ⟨rfl, g⟩; replace G := htrans G g; clear g))
      | (go_at_call 18; ((with_reducible refine (zl _).mono ?_); rintro e w1 ⟨rfl, g⟩; replace G := htrans G g; clear g)))
    go_ret
    exact ⟨rfl, G.out⟩
  | false =>
    have hb2 : s.size + t.size < 40000 := by
      have h := of_decide_eq_false hb
      have e : bulk [s, t] = (1 + min 40000 s.size) + (1 + min 40000 t.size) := by simp [bulk]
      omega
    obtain ⟨r1, h1⟩ : ∃ r, sumS t.data.toList = r := ⟨_, rfl⟩
    obtain ⟨r2, h2⟩ : ∃ r, sumS s.data.toList = r := ⟨_, rfl⟩
    have l1 : r1 < 65536 := by rw [← h1]; exact sumS_lt _
    have l2 : r2 < 65536 := by rw [← h2]; exact sumS_lt _
    have hp := sumS_parts s t
    rw [h1, h2] at hp
    have z1 := ssum_1 t (by omega) h1
    have z2 := ssum_1 s (by omega) h2
    have zt0 := turned_c r1 l1 rfl
    by_cases c : s.size % 2 = 1
    all_goals
      first
        | rw [if_pos c] at hp
        | rw [if_neg c] at hp
      obtain ⟨u, hu⟩ : ∃ u, turnW r1 = u := ⟨_, rfl⟩
      rw [hu] at zt0
      have lu : u < 65536 := by rw [← hu]; exact turnW_lt l1
      try rw [hu] at hp
      obtain ⟨r, hr⟩ : ∃ r, sumS (s.data.toList ++ t.data.toList) = r := ⟨_, rfl⟩
      rw [hr] at hp
      have lr : r < 65536 := by rw [← hr]; exact sumS_lt _
      first
        | have za := sadd_c r2 u l2 lu hp.symm
        | have za := sadd_c r2 r1 l2 l1 hp.symm
      have zt := zt0
      have z3 := ssum_1 (s ++ t) (r := r) (by rw [ByteArray.size_append]; omega) (by rw [ByteArray.data_append, Array.toList_append]; exact hr)
      have z4 := fun W : World => ssum_l [s, t] 2 #[.string s, .string t] (r := r) rfl rfl (by decide) (by rw [joinL_size]; simp; omega) (by rw [joinL_2]; exact hr) W
      have z5 := fun W : World => ssum_l [⟨#[]⟩, s, ⟨#[]⟩, t, ⟨#[]⟩] 5 #[.string ⟨#[]⟩, .string s, .string ⟨#[]⟩, .string t, .string ⟨#[]⟩] (r := r) rfl rfl (by decide) (by rw [joinL_5s]; omega) (by rw [joinL_5]; exact hr) W
      have z6' := fun W : World => sof_l [s, t] 2 #[.string s, .string t] (r := 65535 - r) rfl rfl (by decide) (by rw [joinL_size]; simp; omega) (by rw [joinL_2, hr]) W
      rw [show ((65535 - r : Nat) : Int) = 65535 - (r : Int) by omega] at z6'
      have z6 := z6'
      have hx := not_u16 r lr
    · have c1 : ((s.size : Int) % 2 == 1) = true := by simp; omega
      have hz : s.size + t.size < 40000 := hb2
      clear hb hb2 h1 h2 hp hr hu zt0 z6' c
      go_enter Try.func7, Try.ntmps7
      go_wp2_with (first
        | (go_at_call 12; ((with_reducible refine (awake3_c _).mono ?_); rintro e wa ⟨rfl, g⟩; replace G := htrans G g; clear g))
        | (go_at_call 18; ((with_reducible refine (zl _).mono ?_); rintro e w1 ⟨rfl, g⟩; replace G := htrans G g; clear g))
        | (go_at_call 24; ((with_reducible refine (zt _).mono ?_); rintro e w9 ⟨rfl, rfl⟩))
        | (go_at_call 15; ((with_reducible refine (za _).mono ?_); rintro e w1 ⟨rfl, g⟩; replace G := htrans G g; clear g))
        | (go_at_call 13; ((with_reducible refine (z1 _).mono ?_); rintro e w1 ⟨rfl, g⟩; replace G := htrans G g; clear g))
        | (go_at_call 13; ((with_reducible refine (z2 _).mono ?_); rintro e w1 ⟨rfl, g⟩; replace G := htrans G g; clear g))
        | (go_at_call 13; ((with_reducible refine (z3 _).mono ?_); rintro e w1 ⟨rfl, g⟩; replace G := htrans G g; clear g))
        | (go_at_call 13; ((with_reducible refine (z4 _).mono ?_); rintro e w1 ⟨rfl, g⟩; replace G := htrans G g; clear g))
        | (go_at_call 13; ((with_reducible refine (z5 _).mono ?_); rintro e w1 ⟨rfl, g⟩; replace G := htrans G g; clear g))
        | (go_at_call 14; ((with_reducible refine (z6 _).mono ?_); rintro e w1 ⟨rfl, g⟩; replace G := htrans G g; clear g)))
      go_ret
      exact ⟨rfl, G.out⟩
    · have c1 : ((s.size : Int) % 2 == 1) = false := by simp; omega
      have hz : s.size + t.size < 40000 := hb2
      clear hb hb2 h1 h2 hp hr hu zt0 z6' c
      go_enter Try.func7, Try.ntmps7
      go_wp2_with (first
        | (go_at_call 12; ((with_reducible refine (awake3_c _).mono ?_); rintro e wa ⟨rfl, g⟩; replace G := htrans G g; clear g))
        | (go_at_call 18; ((with_reducible refine (zl _).mono ?_); rintro e w1 ⟨rfl, g⟩; replace G := htrans G g; clear g))
        | (go_at_call 24; ((with_reducible refine (zt _).mono ?_); rintro e w9 ⟨rfl, rfl⟩))
        | (go_at_call 15; ((with_reducible refine (za _).mono ?_); rintro e w1 ⟨rfl, g⟩; replace G := htrans G g; clear g))
        | (go_at_call 13; ((with_reducible refine (z1 _).mono ?_); rintro e w1 ⟨rfl, g⟩; replace G := htrans G g; clear g))
        | (go_at_call 13; ((with_reducible refine (z2 _).mono ?_); rintro e w1 ⟨rfl, g⟩; replace G := htrans G g; clear g))
        | (go_at_call 13; ((with_reducible refine (z3 _).mono ?_); rintro e w1 ⟨rfl, g⟩; replace G := htrans G g; clear g))
        | (go_at_call 13; ((with_reducible refine (z4 _).mono ?_); rintro e w1 ⟨rfl, g⟩; replace G := htrans G g; clear g))
        | (go_at_call 13; ((with_reducible refine (z5 _).mono ?_); rintro e w1 ⟨rfl, g⟩; replace G := htrans G g; clear g))
        | (go_at_call 14; ((with_reducible refine (z6 _).mono ?_); rintro e w1 ⟨rfl, g⟩; replace G := htrans G g; clear g)))
      go_ret
      exact ⟨rfl, G.out⟩

set_option maxRecDepth 100000 in
theorem sumParts_lifted (os : Os) (started : os.Started) (H : Type) (enc : TypeId × Value → H) :
    ReturnsInHanded {} Try.checked os 7 .any (Rows.sumPartsSpec.pre6 enc Try.prog Try.f7 Rows.sumPartsRow.domain false) (Rows.sumPartsSpec.post enc Try.prog Try.f7 false true false false) := by
  refine returnsInHanded_of_change (C := Try.checked) own started (by kernel_rfl) Try.func7
    (ChangeSpec.witness6 (enc := enc) (C := Try.checked) false ⟨#[], #[.string ⟨#[]⟩, .string ⟨#[]⟩], []⟩ 8 (by kernel_rfl) (by kernel_rfl) (by kernel_rfl) (by kernel_rfl)) ?_
  intro W base args ds gs before hval0 hW hcnd _
  have hval : ∀ (j : Nat) t v, Try.f7.params[j]? = some t → args[j]? = some v → Value.okWide Try.prog W .any base t v := hval0
  have hW' := hW
  obtain ⟨p, q, hA0, hV, rfl, hfz, hnd⟩ := hW
  have hA : DataW.TrodAll enc Try.prog W 0 (fun _ => true) true Try.f7.params.toList args.toList ds p := hA0
  rw [Try.params7] at hA hval
  obtain ⟨v0, vs0, d0, ds0, p0, q0, hargs, rfl, rfl, h0, r0⟩ := trodAll_cons hA
  obtain ⟨v1, vs1, d1, ds1, p1, q1, rfl, rfl, rfl, h1, r1⟩ := trodAll_cons r0
  obtain ⟨rfl, rfl, rfl⟩ := trodAll_nil r1
  obtain rfl : args = #[v0, v1] := by cases args; simp_all
  obtain ⟨rfl, rfl⟩ := trodVars_none hV
  obtain ⟨s0, rfl, rfl, rfl, w0⟩ := open_string Try.underlying9 (hval 0 9 v0 rfl rfl) h0
  obtain ⟨s1, rfl, rfl, rfl, w1⟩ := open_string Try.underlying9 (hval 1 9 v1 rfl rfl) h1
  clear hA0 hval0
  simp only [List.append_nil] at hW'
  refine (sumParts_walk s0 w0 s1 w1 W).mono fun e W' ⟨he, hg⟩ => ?_
  subst he
  exact ⟨_, rfl, post_of_none hW' (fun _ _ _ => (trodAll_cons_mk (shut_bool Try.underlying4 _) trodAll_mk0)) (fun sp => (trodAll_cons_mk (shut_string Try.underlying9 w0) (trodAll_cons_mk (shut_string Try.underlying9 w1) trodAll_mk0))) (fun _ => rfl)
    hg.1 (ok_one (by kernel_rfl) rfl (okWide_bool_mk Try.underlying4 _))⟩

theorem sumParts_holds : Rows.SumPartsSaid :=
  OpenClaim.holds_of_wide 7 Try.f7 rfl rfl rfl rfl rfl rfl rfl ⟨rfl, rfl, rfl, rfl, rfl⟩ rfl rfl rfl rfl rfl (by kernel_rfl) Try.func7 (by kernel_rfl)
    (of_decide_eq_true (by kernel_rfl)) (by unfold Func.isWrapper; first | (rw [if_pos (by decide +kernel)]; kernel_rfl) | (rw [if_neg (by decide +kernel)]; exact ⟨rfl, rfl⟩))
    (fun os started H enc _ => sumParts_lifted os started H enc)

#print axioms sumParts_holds

end Go.Proofs.Ytlgahhehagffeaa
