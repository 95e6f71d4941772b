/- The law HashParts: however bytes are cut, the hash is the same. No condition. -/
import Derived.Test.YtkffoamdlgfcgaaHAwake
import Derived.Test.YtkffoamdlgfcgaaSOpen
import Derived.Test.YtkffoamdlgfcgaaHOpen
import Derived.Lib.Hide
import Derived.Lib.Strings
import Derived.BigQuiet
import Derived.BigRegion
import Derived.Deep.RegionHeld3
import Derived.Deep.DeepCutAuto
import Derived.WalkLawsBesides
import Derived.WalkSpells
namespace Go.Proofs.Ytkffoamdlgfcgaa
set_option linter.unusedVariables false
open Go.ChangeShapes Go.WideShapes Go.ChangeAt Go.RowKit Go.Joins
open Go.ChangeMaps (open_string shut_string)

theorem hof_la (l : List ByteArray) (n : Nat) (C : Array Value) {r : Nat} (hn : l.length = n) (hC : C = (l.map Value.string).toArray) (hl : n < 1000000) (hs : (joinL l).size < 1000000) (hr : (textsH l).toNat = r) (W : World) :
    Calls Try.prog 12 #[.slice (some ⟨W.heap.size, 0, none⟩) n n] (W.alloc (.cells C 9)) fun e w' => e = .returned (.int .u32 (r : Int)) ∧ Wider (W.alloc (.cells C 9)) w' :=
  hof_c _ n n l _ (StrsAt.new W l 9 C hC) hn hl hs hr
theorem hof_lad (l : List ByteArray) (n : Nat) (C : Array Value) {r : Nat} (hn : l.length = n) (hC : C = (l.map Value.string).toArray) (hl : n < 1000000) (hs : (joinL l).size < 1000000) (hr : (textsH l).toNat = r) (W : World) :
    Calls Try.prog 12 #[.slice (some ⟨W.heap.size, 0, none⟩) n n] (W.alloc (.cells C 9)).drew fun e w' => e = .returned (.int .u32 (r : Int)) ∧ Wider (W.alloc (.cells C 9)).drew w' :=
  hof_c _ n n l _ (StrsAt.new W.drew l 9 C hC) hn hl hs hr
theorem hpk (W : World) {V w : World} (g : Wider W w) (h : Hid (Wider V W)) : Hid (Wider V w) := htrans h g
theorem hpdA {V W : World} {o : Obj} (h : Hid (Wider V W)) : Hid (Wider V (W.alloc o).drew) := h.out.alloc o
theorem hpdD {V W : World} {o : Obj} (h : Hid (Wider V W.drew)) : Hid (Wider V (W.alloc o).drew) := Wider.alloc (W := V) (w := W) h o
/-- A place from 0 to n, as the statements reckon it. -/
theorem within_ex (n : Nat) (k : Int) (hn : n < 1152921504606846976) : ∃ P : Nat, wrap64 ((IntKind.u64.wrap k).tmod ((n : Int) + 1)) = (P : Int) ∧ P ≤ n := by
  have u0 : 0 ≤ IntKind.u64.wrap k := by rw [IntKind.wrap_u64]; omega
  rw [Int.tmod_eq_emod_of_nonneg u0]
  have v0 := Int.emod_nonneg (IntKind.u64.wrap k) (show (n : Int) + 1 ≠ 0 by omega)
  have v1 := Int.emod_lt_of_pos (IntKind.u64.wrap k) (show (0 : Int) < (n : Int) + 1 by omega)
  generalize IntKind.u64.wrap k % ((n : Int) + 1) = V at *
  have e1 : wrap64 V = V := by unfold wrap64; omega
  rw [e1]
  exact ⟨V.toNat, by omega, by omega⟩
theorem textsH_1 (s : ByteArray) : textsH [s] = moreH 2166136261#32 s.data.toList := by unfold textsH; rw [joinL_one]
theorem textsH_2 (a b : ByteArray) : textsH [a, b] = moreH (moreH 2166136261#32 a.data.toList) b.data.toList := by
  unfold textsH; rw [joinL_data]; simp [moreH_append]
theorem textsH_3 (a b c : ByteArray) : textsH [a, b, c] = moreH (moreH (moreH 2166136261#32 a.data.toList) b.data.toList) c.data.toList := by
  unfold textsH; rw [joinL_data]; simp [moreH_append]
theorem three_parts (s : ByteArray) (P K : Nat) (h1 : P ≤ K) (h2 : K ≤ s.size) : moreH (moreH (moreH 2166136261#32 (s.extract 0 P).data.toList) (s.extract P K).data.toList) (s.extract K s.size).data.toList = moreH 2166136261#32 s.data.toList := by
  rw [← moreH_append, ← moreH_append]
  congr 1
  rw [Lib.extract_data, Lib.extract_data, Lib.extract_data, List.drop_zero, Nat.sub_zero]
  have e1 : (s.data.toList.drop P).take (K - P) ++ s.data.toList.drop K = s.data.toList.drop P := by
    have h := List.take_append_drop (K - P) (s.data.toList.drop P)
    rw [List.drop_drop, show P + (K - P) = K by omega] at h
    exact h
  have e2 : (s.data.toList.drop K).take (s.size - K) = s.data.toList.drop K := List.take_of_length_le (by simp)
  rw [e2, e1, List.take_append_drop]

set_option maxRecDepth 100000 in
set_option maxHeartbeats 16000000 in
theorem hashParts_walk (s : ByteArray) (hm : s.size ≤ maxLen) (n1 : Int) (n1l : -9223372036854775808 ≤ n1) (n1h : n1 ≤ 9223372036854775807) (n2 : Int) (n2l : -9223372036854775808 ≤ n2) (n2h : n2 ≤ 9223372036854775807) (w : World) :
    Calls Try.prog 6 #[.string s, .int .i64 n1, .int .i64 n2] w fun e w' => e = .returned (.bool true) ∧ Wider w w' := by
  have G : Hid (Wider w w) := Wider.refl w
  unfold maxLen at hm
  by_cases h0 : 5000 < s.size
  · have c0 : decide ((5000 : Int) < (s.size : Int)) = true := decide_eq_true (by omega)
    have c1 : decide (5000 < s.size) = true := decide_eq_true h0
    go_enter Try.func6, Try.ntmps6
    go_wp2_with (first
      | (go_at_call 11; ((with_reducible refine (awake4_c _).mono ?_); rintro e wa ⟨rfl, g⟩; replace G := htrans G g; clear g)))
    go_ret
    exact ⟨rfl, G.out⟩
  · have c0 : decide ((5000 : Int) < (s.size : Int)) = false := decide_eq_false (by omega)
    have c1 : decide (5000 < s.size) = false := decide_eq_false h0
    obtain ⟨P, hP, hPl⟩ := within_ex s.size n1 (by omega)
    obtain ⟨D, hD0, hDl⟩ := within_ex (s.size - P) n2 (by omega)
    have hD : wrap64 ((IntKind.u64.wrap n2).tmod ((s.size : Int) - (P : Int) + 1)) = (D : Int) := by
      rw [← hD0]; congr 2; omega
    obtain ⟨K, hK⟩ : ∃ K : Nat, P + D = K := ⟨_, rfl⟩
    have hK2 : (P : Int) + (D : Int) = (K : Int) := by omega
    have k0 : P ≤ K := by omega
    have k1 : K ≤ s.size := by omega
    have p0 : (0 : Int) ≤ (P : Int) := by omega
    have p1 : (P : Int) ≤ (K : Int) := by omega
    have p2 : (K : Int) ≤ (s.size : Int) := by omega
    have p3 : (P : Int) ≤ (s.size : Int) := by omega
    have p4 : (0 : Int) ≤ (K : Int) := by omega
    obtain ⟨h, hh⟩ : ∃ h, (moreH 2166136261#32 s.data.toList).toNat = h := ⟨_, rfl⟩
    have h3 := three_parts s P K k0 k1
    obtain ⟨A, hA⟩ : ∃ A, s.extract 0 P = A := ⟨_, rfl⟩
    obtain ⟨B, hB⟩ : ∃ B, s.extract P K = B := ⟨_, rfl⟩
    obtain ⟨C, hC⟩ : ∃ C, s.extract K s.size = C := ⟨_, rfl⟩
    rw [hA, hB, hC] at h3
    have sA : A.size < 1000 * 1000 / 4 := by rw [← hA, ByteArray.size_extract]; omega
    have sB : B.size < 1000 * 1000 / 4 := by rw [← hB, ByteArray.size_extract]; omega
    have sC : C.size < 1000 * 1000 / 4 := by rw [← hC, ByteArray.size_extract]; omega
    obtain ⟨m1, hm1⟩ : ∃ h, (moreH 2166136261#32 A.data.toList).toNat = h := ⟨_, rfl⟩
    obtain ⟨m2, hm2⟩ : ∃ h, (moreH (moreH 2166136261#32 A.data.toList) B.data.toList).toNat = h := ⟨_, rfl⟩
    have z0 := fun W : World => hof_l [s] 1 #[.string s] (r := h) rfl rfl (by decide) (by rw [joinL_one]; omega) (by rw [textsH_1]; exact hh) W
    have y1 := fun W : World => hof_lad [A, B, C] 3 #[.string A, .string B, .string C] (r := h) rfl rfl (by decide) (by rw [joinL_size]; simp; omega) (by rw [textsH_3, h3]; exact hh) W
    have y1' := fun W : World => hof_la [A, B, C] 3 #[.string A, .string B, .string C] (r := h) rfl rfl (by decide) (by rw [joinL_size]; simp; omega) (by rw [textsH_3, h3]; exact hh) W
    have y6 := fun W : World => hof_lad [A, B] 2 #[.string A, .string B] (r := m2) rfl rfl (by decide) (by rw [joinL_size]; simp; omega) (by rw [textsH_2]; exact hm2) W
    have y6' := fun W : World => hof_la [A, B] 2 #[.string A, .string B] (r := m2) rfl rfl (by decide) (by rw [joinL_size]; simp; omega) (by rw [textsH_2]; exact hm2) W
    have y3 := hmore_c 2166136261#32 A (a := 2166136261) (by omega) rfl hm1
    have y4 := hmore_c (moreH 2166136261#32 A.data.toList) B (by omega) hm1 hm2
    have y5 := hmore_c (moreH (moreH 2166136261#32 A.data.toList) B.data.toList) C (r := h) (by omega) hm2 (by rw [h3]; exact hh)
    have y3i : ∀ w : World, Calls Try.prog 18 #[.int .u32 2166136261, .string A] w fun e w' => e = .returned (.int .u32 (m1 : Int)) ∧ Wider w w' := y3
    clear hh h3 hm1 hm2 y3 hK hD0
    go_enter Try.func6, Try.ntmps6
    go_upto_region 6 with (first
      | (go_at_call 11; ((with_reducible refine (awake4_c _).mono ?_); rintro e wa ⟨rfl, g⟩; replace G := htrans G g; clear g))
      | (go_at_call 12; ((with_reducible refine (z0 _).mono ?_); rintro e w7 ⟨rfl, g⟩; replace G := htrans G g; clear g)))
    go_region_held3 (fun w' => Hid (Wider w w')) (first | assumption | exact hpk _ (by assumption) (by assumption) | exact hpdD (by assumption) | exact hpdA (by assumption) | exact halloc2 (by assumption) _)
      (first
        | (go_at_call 12; ((with_reducible refine (y1 _).mono ?_); rintro e w' ⟨rfl, g'⟩))
        | (go_at_call 12; ((with_reducible refine (y1' _).mono ?_); rintro e w' ⟨rfl, g'⟩))
        | (go_at_call 12; ((with_reducible refine (ha0 _).mono ?_); rintro e w' ⟨rfl, g'⟩))
        | (go_at_call 12; ((with_reducible refine (y6 _).mono ?_); rintro e w' ⟨rfl, g'⟩))
        | (go_at_call 12; ((with_reducible refine (y6' _).mono ?_); rintro e w' ⟨rfl, g'⟩))
        | (go_at_call 18; ((with_reducible refine (y3i _).mono ?_); rintro e w' ⟨rfl, g'⟩))
        | (go_at_call 18; ((with_reducible refine (y4 _).mono ?_); rintro e w' ⟨rfl, g'⟩))
        | (go_at_call 18; ((with_reducible refine (y5 _).mono ?_); rintro e w' ⟨rfl, g'⟩)))
    have HG : Hid (Wider w w') := by assumption
    go_wp2
    go_ret
    exact ⟨rfl, HG.out⟩


set_option maxRecDepth 100000 in
theorem hashParts_lifted (os : Os) (started : os.Started) (H : Type) (enc : TypeId × Value → H) :
    ReturnsInHanded {} Try.checked os 6 .any (Rows.hashPartsSpec.pre6 enc Try.prog Try.f6 Rows.hashPartsRow.domain false) (Rows.hashPartsSpec.post enc Try.prog Try.f6 false true false false) := by
  refine returnsInHanded_of_change (C := Try.checked) own started (by kernel_rfl) Try.func6
    (ChangeSpec.witness6 (enc := enc) (C := Try.checked) false ⟨#[], #[.string ⟨#[]⟩, .int .i64 0, .int .i64 0], []⟩ 8 (by kernel_rfl) (by kernel_rfl) (by kernel_rfl) (by kernel_rfl)) ?_
  intro W base args ds gs before hval0 hW hcnd _
  have hval : ∀ (j : Nat) t v, Try.f6.params[j]? = some t → args[j]? = some v → Value.okWide Try.prog W .any base t v := hval0
  have hW' := hW
  obtain ⟨p, q, hA0, hV, rfl, hfz, hnd⟩ := hW
  have hA : DataW.TrodAll enc Try.prog W 0 (fun _ => true) true Try.f6.params.toList args.toList ds p := hA0
  rw [Try.params6] at hA hval
  obtain ⟨v0, vs0, d0, ds0, p0, q0, hargs, rfl, rfl, h0, r0⟩ := trodAll_cons hA
  obtain ⟨v1, vs1, d1, ds1, p1, q1, rfl, rfl, rfl, h1, r1⟩ := trodAll_cons r0
  obtain ⟨v2, vs2, d2, ds2, p2, q2, rfl, rfl, rfl, h2, r2⟩ := trodAll_cons r1
  obtain ⟨rfl, rfl, rfl⟩ := trodAll_nil r2
  obtain rfl : args = #[v0, v1, v2] := by cases args; simp_all
  obtain ⟨rfl, rfl⟩ := trodVars_none hV
  obtain ⟨s0, rfl, rfl, rfl, w0⟩ := open_string Try.underlying9 (hval 0 9 v0 rfl rfl) h0
  obtain ⟨n1, rfl, rfl, rfl, w1⟩ := open_int Try.underlying3 (hval 1 3 v1 rfl rfl) h1
  obtain ⟨n2, rfl, rfl, rfl, w2⟩ := open_int Try.underlying3 (hval 2 3 v2 rfl rfl) h2
  clear hA0 hval0
  simp only [List.append_nil] at hW'
  refine (hashParts_walk s0 w0 n1 (bounds_i64 w1).1 (bounds_i64 w1).2 n2 (bounds_i64 w2).1 (bounds_i64 w2).2 W).mono fun e W' ⟨he, hg⟩ => ?_
  subst he
  exact ⟨_, rfl, post_of_none hW' (fun _ _ _ => (trodAll_cons_mk (shut_bool Try.underlying4 _) trodAll_mk0)) (fun sp => (trodAll_cons_mk (shut_string Try.underlying9 w0) (trodAll_cons_mk (shut_int Try.underlying3 w1) (trodAll_cons_mk (shut_int Try.underlying3 w2) trodAll_mk0)))) (fun _ => rfl)
    hg.1 (ok_one (by kernel_rfl) rfl (okWide_bool_mk Try.underlying4 _))⟩

theorem hashParts_holds : Rows.HashPartsSaid :=
  OpenClaim.holds_of_wide 6 Try.f6 rfl rfl rfl rfl rfl rfl rfl ⟨rfl, rfl, rfl, rfl, rfl⟩ rfl rfl rfl rfl rfl (by kernel_rfl) Try.func6 (by kernel_rfl)
    (of_decide_eq_true (by kernel_rfl)) (by unfold Func.isWrapper; first | (rw [if_pos (by decide +kernel)]; kernel_rfl) | (rw [if_neg (by decide +kernel)]; exact ⟨rfl, rfl⟩))
    (fun os started H enc _ => hashParts_lifted os started H enc)

#print axioms hashParts_holds

end Go.Proofs.Ytkffoamdlgfcgaa
