/- The law WordTells: how any two words compare, each mask, what any word is cut to, and its size, are the document's. No condition. -/
import Derived.Test.YtjhfkmjaobleiaaFrame
import Derived.Test.YtjhfkmjaobleiaaRefTell
import Derived.Lib.Hide
namespace Go.Proofs.Ytjhfkmjaobleiaa
set_option linter.unusedVariables false
open Go.ChangeShapes Go.WideShapes Go.ChangeAt Go.RowKit Go.Joins
open Go.ChangeMaps (open_string shut_string)

theorem wordTells_keep {V W w : World} {a0 a1 a2 a3 : Addr} {v0 v1 v2 v3 : Value} (g : Grown W w) (h : W.cell? a0 = some v0 ∧ W.cell? a1 = some v1 ∧ W.cell? a2 = some v2 ∧ W.cell? a3 = some v3 ∧ Hid (Grown V W)) :
    w.cell? a0 = some v0 ∧ w.cell? a1 = some v1 ∧ w.cell? a2 = some v2 ∧ w.cell? a3 = some v3 ∧ Hid (Grown V w) := ⟨gkeep g h.1, gkeep g h.2.1, gkeep g h.2.2.1, gkeep g h.2.2.2.1, h.2.2.2.2.out.trans3 g⟩
theorem compare_t (x y : BitVec 128) {ah al bh bl r : Int} (hx : IsW ah al x) (hy : IsW bh bl y) (hr : cmpW x y = r) (w : World) :
    Calls Try.prog 26 #[.agg #[.int .u64 ah, .int .u64 al], .agg #[.int .u64 bh, .int .u64 bl]] w fun e w' => e = .returned (.int .i64 r) ∧ Grown w w' := by
  rw [← hr]; exact compare_c x y hx hy w

set_option maxRecDepth 100000 in
set_option maxHeartbeats 16000000 in
theorem wordTells_walk (a0 b0 : Int) (x0 : BitVec 128) (hx0 : IsW a0 b0 x0) (a1 b1 : Int) (x1 : BitVec 128) (hx1 : IsW a1 b1 x1) (n2 : Int) (n2l : -9223372036854775808 ≤ n2) (n2h : n2 ≤ 9223372036854775807) (w : World) :
    Calls Try.prog 6 #[.agg #[.int .u64 a0, .int .u64 b0], .agg #[.int .u64 a1, .int .u64 b1], .int .i64 n2] w fun e w' => e = .returned (.bool true) ∧ Grown w w' := by
  obtain ⟨p1, q1, h1⟩ := isW_ex (mask n2.toNat)
  obtain ⟨p2, q2, h2⟩ := isW_ex (x0 &&& mask n2.toNat)
  obtain ⟨c, hc⟩ : ∃ c : Int, cmpW x0 x1 = c := ⟨_, rfl⟩
  obtain ⟨z, hz⟩ : ∃ z : Int, (sizeW x0 : Int) = z := ⟨_, rfl⟩
  have HC := Lib.hid hc
  have HZ := Lib.hid hz
  clear hc hz
  go_enter Try.func6, Try.ntmps6
  go_wp2
  have k0 : ((w.alloc (.cells #[.int .u64 a0, .int .u64 b0] 24)).alloc (.cells #[.int .u64 a1, .int .u64 b1] 24)).cell? ⟨w.heap.size, 0, none⟩ = some (.int .u64 a0) := by simp [go_sem]
  have k1 : ((w.alloc (.cells #[.int .u64 a0, .int .u64 b0] 24)).alloc (.cells #[.int .u64 a1, .int .u64 b1] 24)).cell? ⟨w.heap.size, 1, none⟩ = some (.int .u64 b0) := by simp [go_sem]
  have k2 : ((w.alloc (.cells #[.int .u64 a0, .int .u64 b0] 24)).alloc (.cells #[.int .u64 a1, .int .u64 b1] 24)).cell? ⟨w.heap.size + 1, 0, none⟩ = some (.int .u64 a1) := by simp [go_sem]
  have k3 : ((w.alloc (.cells #[.int .u64 a0, .int .u64 b0] 24)).alloc (.cells #[.int .u64 a1, .int .u64 b1] 24)).cell? ⟨w.heap.size + 1, 1, none⟩ = some (.int .u64 b1) := by simp [go_sem]
  have G : Hid (Grown w ((w.alloc (.cells #[.int .u64 a0, .int .u64 b0] 24)).alloc (.cells #[.int .u64 a1, .int .u64 b1] 24))) := (((Grown.refl _).alloc _ _).alloc _ _)
  generalize ((w.alloc (.cells #[.int .u64 a0, .int .u64 b0] 24)).alloc (.cells #[.int .u64 a1, .int .u64 b1] 24)) = W at *
  go_region_held3 (fun w' => w'.cell? ⟨w.heap.size, 0, none⟩ = some (.int .u64 a0) ∧ w'.cell? ⟨w.heap.size, 1, none⟩ = some (.int .u64 b0) ∧ w'.cell? ⟨w.heap.size + 1, 0, none⟩ = some (.int .u64 a1) ∧ w'.cell? ⟨w.heap.size + 1, 1, none⟩ = some (.int .u64 b1) ∧ Hid (Grown w w')) (first | assumption | exact ⟨k0, k1, k2, k3, G⟩ | exact wordTells_keep (by assumption) (by assumption))
    (first
      | (go_at_call 17; ((with_reducible refine (awake_c _).mono ?_); rintro e w' ⟨rfl, g'⟩))
      | (go_at_call 26; ((with_reducible refine (compare_t x0 x1 hx0 hx1 HC.out _).mono ?_); rintro e w' ⟨rfl, g'⟩))
      | (go_at_call 39; ((with_reducible refine (rcompare_c x0 x1 hx0 hx1 HC.out _).mono ?_); rintro e w' ⟨rfl, g'⟩))
      | (go_at_call 20; ((with_reducible refine (mask_c n2 n2l n2h h1 _).mono ?_); rintro e w' ⟨rfl, g'⟩))
      | (go_at_call 40; ((with_reducible refine (rmask_c n2 n2l n2h h1 _).mono ?_); rintro e w' ⟨rfl, g'⟩))
      | (go_at_call 23; ((with_reducible refine (cut_c x0 n2 n2l n2h hx0 h2 _).mono ?_); rintro e w' ⟨rfl, g'⟩))
      | (go_at_call 41; ((with_reducible refine (rcut_c x0 n2 n2l n2h hx0 h2 _).mono ?_); rintro e w' ⟨rfl, g'⟩))
      | (go_at_call 21; ((with_reducible refine (size_r x0 hx0 HZ.out _).mono ?_); rintro e w' ⟨rfl, g'⟩))
      | (go_at_call 42; ((with_reducible refine (rsize_c x0 hx0 HZ.out _).mono ?_); rintro e w' ⟨rfl, g'⟩)))
  have HG : Hid (Grown w w') := by
    have h := ‹_ ∧ _ ∧ _ ∧ _ ∧ Hid (Grown w w')›
    exact h.2.2.2.2
  go_wp2
  go_ret
  exact ⟨rfl, HG.out⟩

set_option maxRecDepth 100000 in
theorem wordTells_lifted (os : Os) (started : os.Started) (H : Type) (enc : TypeId × Value → H) :
    ReturnsInHanded {} Try.checked os 6 .any (Rows.wordTellsSpec.pre6 enc Try.prog Try.f6 Rows.wordTellsRow.domain false) (Rows.wordTellsSpec.post enc Try.prog Try.f6 false true false false) := by
  refine returnsInHanded_of_change (C := Try.checked) own started (by kernel_rfl) Try.func6
    (ChangeSpec.witness6 (enc := enc) (C := Try.checked) false ⟨#[], #[.agg #[.int .u64 0, .int .u64 0], .agg #[.int .u64 0, .int .u64 0], .int .i64 0], []⟩ 8 (by kernel_rfl) (by kernel_rfl) (by kernel_rfl) (by kernel_rfl)) ?_
  intro W base args ds gs before hval0 hW hcnd _
  have hval : ∀ (j : Nat) t v, Try.f6.params[j]? = some t → args[j]? = some v → Value.okWide Try.prog W .any base t v := hval0
  have hW' := hW
  obtain ⟨p, q, hA0, hV, rfl, hfz, hnd⟩ := hW
  have hA : DataW.TrodAll enc Try.prog W 0 (fun _ => true) true Try.f6.params.toList args.toList ds p := hA0
  rw [Try.params6] at hA hval
  obtain ⟨v0, vs0, d0, ds0, p0, q0, hargs, rfl, rfl, h0, r0⟩ := trodAll_cons hA
  obtain ⟨v1, vs1, d1, ds1, p1, q1, rfl, rfl, rfl, h1, r1⟩ := trodAll_cons r0
  obtain ⟨v2, vs2, d2, ds2, p2, q2, rfl, rfl, rfl, h2, r2⟩ := trodAll_cons r1
  obtain ⟨rfl, rfl, rfl⟩ := trodAll_nil r2
  obtain rfl : args = #[v0, v1, v2] := by cases args; simp_all
  obtain ⟨rfl, rfl⟩ := trodVars_none hV
  obtain ⟨a0, b0, rfl, rfl, rfl, wa0, wb0⟩ := open_word (hval 0 24 v0 rfl rfl) h0
  obtain ⟨x0, hx0⟩ := word_in wa0 wb0
  obtain ⟨a1, b1, rfl, rfl, rfl, wa1, wb1⟩ := open_word (hval 1 24 v1 rfl rfl) h1
  obtain ⟨x1, hx1⟩ := word_in wa1 wb1
  obtain ⟨n2, rfl, rfl, rfl, w2⟩ := open_int Try.underlying3 (hval 2 3 v2 rfl rfl) h2
  clear hA0 hval0
  simp only [List.append_nil] at hW'
  refine (wordTells_walk a0 b0 x0 hx0 a1 b1 x1 hx1 n2 (bounds_i64 w2).1 (bounds_i64 w2).2 W).mono fun e W' ⟨he, hg⟩ => ?_
  subst he
  exact ⟨_, rfl, post_of_same (pa := []) (pv := []) hW' (fun _ _ _ => (trodAll_cons_mk (shut_bool Try.underlying4 _) trodAll_mk0)) (fun sp _ => (trodAll_cons_mk (shut_word wa0 wb0) (trodAll_cons_mk (shut_word wa1 wb1) (trodAll_cons_mk (shut_int Try.underlying3 w2) trodAll_mk0)))) (fun _ _ => rfl) rfl
    (hg.frame _) hg.2.1 (ok_one (by kernel_rfl) rfl (okWide_bool_mk Try.underlying4 _))⟩

theorem wordTells_holds : Rows.WordTellsSaid :=
  OpenClaim.holds_of_wide 6 Try.f6 rfl rfl rfl rfl rfl rfl rfl ⟨rfl, rfl, rfl, rfl, rfl⟩ rfl rfl rfl rfl rfl (by kernel_rfl) Try.func6 (by kernel_rfl)
    (of_decide_eq_true (by kernel_rfl)) (by unfold Func.isWrapper; first | (rw [if_pos (by decide +kernel)]; kernel_rfl) | (rw [if_neg (by decide +kernel)]; exact ⟨rfl, rfl⟩))
    (fun os started H enc _ => wordTells_lifted os started H enc)

#print axioms wordTells_holds
end Go.Proofs.Ytjhfkmjaobleiaa
