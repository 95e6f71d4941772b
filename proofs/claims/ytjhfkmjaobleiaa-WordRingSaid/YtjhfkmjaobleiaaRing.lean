/- The law WordRing: adding does not hang on the row, 0 changes nothing, Sub undoes Add. No condition. -/
import Derived.Test.YtjhfkmjaobleiaaFrame
namespace Go.Proofs.Ytjhfkmjaobleiaa
set_option linter.unusedVariables false
open Go.ChangeShapes Go.WideShapes Go.ChangeAt Go.RowKit Go.Joins
open Go.ChangeMaps (open_string shut_string)

theorem ghid {V W w : World} (h : Hid (Grown V W)) (g : Grown W w) : Hid (Grown V w) := h.out.trans3 g
theorem halloc {V W : World} (h : Hid (Grown V W)) (c : Array Value) (t : TypeId) : Hid (Grown V (W.alloc (.cells c t))) := h.out.alloc c t

theorem keep9 {V W w : World} {a0 a1 a2 a3 a4 a5 a6 a7 : Addr} {v0 v1 v2 v3 v4 v5 v6 v7 : Value} (g : Grown W w) (h : W.cell? a0 = some v0 ∧ W.cell? a1 = some v1 ∧ W.cell? a2 = some v2 ∧ W.cell? a3 = some v3 ∧ W.cell? a4 = some v4 ∧ W.cell? a5 = some v5 ∧ W.cell? a6 = some v6 ∧ W.cell? a7 = some v7 ∧ Hid (Grown V W)) :
    w.cell? a0 = some v0 ∧ w.cell? a1 = some v1 ∧ w.cell? a2 = some v2 ∧ w.cell? a3 = some v3 ∧ w.cell? a4 = some v4 ∧ w.cell? a5 = some v5 ∧ w.cell? a6 = some v6 ∧ w.cell? a7 = some v7 ∧ Hid (Grown V w) := ⟨gkeep g h.1, gkeep g h.2.1, gkeep g h.2.2.1, gkeep g h.2.2.2.1, gkeep g h.2.2.2.2.1, gkeep g h.2.2.2.2.2.1, gkeep g h.2.2.2.2.2.2.1, gkeep g h.2.2.2.2.2.2.2.1, h.2.2.2.2.2.2.2.2.out.trans3 g⟩

set_option maxHeartbeats 4000000 in
theorem wordRing_walk (a0 b0 : Int) (x0 : BitVec 128) (hx0 : IsW a0 b0 x0) (a1 b1 : Int) (x1 : BitVec 128) (hx1 : IsW a1 b1 x1) (a2 b2 : Int) (x2 : BitVec 128) (hx2 : IsW a2 b2 x2) (w : World) :
    Calls Try.prog 8 #[.agg #[.int .u64 a0, .int .u64 b0], .agg #[.int .u64 a1, .int .u64 b1], .agg #[.int .u64 a2, .int .u64 b2]] w fun e w' => e = .returned (.bool true) ∧ Grown w w' := by
  obtain ⟨sh, sl, hs⟩ := isW_ex (x0 + x1)
  have hs' : IsW sh sl (x1 + x0) := by rw [BitVec.add_comm]; exact hs
  obtain ⟨th, tl, ht⟩ := isW_ex (x0 + x1 + x2)
  obtain ⟨uh, ul, hu⟩ := isW_ex (x1 + x2)
  have ht' : IsW th tl (x0 + (x1 + x2)) := by rw [← BitVec.add_assoc]; exact ht
  have h0 : IsW a0 b0 (x0 + 0#128) := by rw [BitVec.add_zero]; exact hx0
  have hz : IsW 0 0 (0#128) := ⟨by decide, by decide⟩
  have h1 : IsW 0 1 (1#128) := ⟨by decide, by decide⟩
  have hsb : IsW a0 b0 (x0 + x1 - x1) := by rw [BitVec.add_sub_cancel]; exact hx0
  obtain ⟨dh, dl, hd⟩ := isW_ex (x0 - x1)
  have hd' : IsW a0 b0 (x0 - x1 + x1) := by rw [BitVec.sub_add_cancel]; exact hx0
  obtain ⟨nh, nl, hn⟩ := isW_ex (~~~ x1)
  obtain ⟨oh, ol, ho⟩ := isW_ex (~~~ x1 + 1#128)
  have ho' : IsW dh dl (x0 + (~~~ x1 + 1#128)) := by
    have e : ~~~ x1 + 1#128 = - x1 := (BitVec.neg_eq_not_add x1).symm
    rw [e, ← BitVec.sub_eq_add_neg]; exact hd
  have hss : IsW 0 0 (x0 - x0) := by rw [BitVec.sub_self]; exact hz
  obtain ⟨mh, ml, hm⟩ := isW_ex (~~~ x0)
  have hm' : IsW a0 b0 (~~~ (~~~ x0)) := by rw [BitVec.not_not]; exact hx0
  have hall : IsW 18446744073709551615 18446744073709551615 (BitVec.allOnes 128) := ⟨by decide, by decide⟩
  have ham : IsW 18446744073709551615 18446744073709551615 (x0 + ~~~ x0) := by rw [BitVec.add_not_self]; exact hall
  have hma : IsW 18446744073709551615 18446744073709551615 (mask (128 : Int).toNat) := ⟨by decide, by decide⟩
  go_enter Try.func8, Try.ntmps8
  have k0 : (((w.alloc (.cells #[.int .u64 a0, .int .u64 b0] 24)).alloc (.cells #[.int .u64 a1, .int .u64 b1] 24)).alloc (.cells #[.int .u64 a2, .int .u64 b2] 24)).cell? ⟨w.heap.size, 0, none⟩ = some (.int .u64 a0) := by simp [go_sem]
  have k1 : (((w.alloc (.cells #[.int .u64 a0, .int .u64 b0] 24)).alloc (.cells #[.int .u64 a1, .int .u64 b1] 24)).alloc (.cells #[.int .u64 a2, .int .u64 b2] 24)).cell? ⟨w.heap.size, 1, none⟩ = some (.int .u64 b0) := by simp [go_sem]
  have k2 : (((w.alloc (.cells #[.int .u64 a0, .int .u64 b0] 24)).alloc (.cells #[.int .u64 a1, .int .u64 b1] 24)).alloc (.cells #[.int .u64 a2, .int .u64 b2] 24)).cell? ⟨w.heap.size + 1, 0, none⟩ = some (.int .u64 a1) := by simp [go_sem]
  have k3 : (((w.alloc (.cells #[.int .u64 a0, .int .u64 b0] 24)).alloc (.cells #[.int .u64 a1, .int .u64 b1] 24)).alloc (.cells #[.int .u64 a2, .int .u64 b2] 24)).cell? ⟨w.heap.size + 1, 1, none⟩ = some (.int .u64 b1) := by simp [go_sem]
  have k4 : (((w.alloc (.cells #[.int .u64 a0, .int .u64 b0] 24)).alloc (.cells #[.int .u64 a1, .int .u64 b1] 24)).alloc (.cells #[.int .u64 a2, .int .u64 b2] 24)).cell? ⟨w.heap.size + 2, 0, none⟩ = some (.int .u64 a2) := by simp [go_sem]
  have k5 : (((w.alloc (.cells #[.int .u64 a0, .int .u64 b0] 24)).alloc (.cells #[.int .u64 a1, .int .u64 b1] 24)).alloc (.cells #[.int .u64 a2, .int .u64 b2] 24)).cell? ⟨w.heap.size + 2, 1, none⟩ = some (.int .u64 b2) := by simp [go_sem]
  have G : Hid (Grown w (((w.alloc (.cells #[.int .u64 a0, .int .u64 b0] 24)).alloc (.cells #[.int .u64 a1, .int .u64 b1] 24)).alloc (.cells #[.int .u64 a2, .int .u64 b2] 24))) := ((((Grown.refl _).alloc _ _).alloc _ _).alloc _ _)
  go_wp2_with (first
    | (go_at_call 18; ((with_reducible refine (add_c x0 x1 hx0 hx1 hs _).mono ?_); rintro e w1 ⟨rfl, g⟩; replace k0 := gkeep g k0; replace k1 := gkeep g k1; replace k2 := gkeep g k2; replace k3 := gkeep g k3; replace k4 := gkeep g k4; replace k5 := gkeep g k5; replace G := ghid G g; clear g; obtain ⟨k6, k7, _, _⟩ := new2 w1 (.int .u64 sh) (.int .u64 sl) 24; replace G := halloc G #[.int .u64 sh, .int .u64 sl] 24; replace k0 := kalloc (o := .cells #[.int .u64 sh, .int .u64 sl] 24) k0; replace k1 := kalloc (o := .cells #[.int .u64 sh, .int .u64 sl] 24) k1; replace k2 := kalloc (o := .cells #[.int .u64 sh, .int .u64 sl] 24) k2; replace k3 := kalloc (o := .cells #[.int .u64 sh, .int .u64 sl] 24) k3; replace k4 := kalloc (o := .cells #[.int .u64 sh, .int .u64 sl] 24) k4; replace k5 := kalloc (o := .cells #[.int .u64 sh, .int .u64 sl] 24) k5)))
  generalize (w1.alloc (.cells #[.int .u64 sh, .int .u64 sl] 24)) = W at *
  simp only [List.append]
  go_region_held3 (fun w' => w'.cell? ⟨w.heap.size, 0, none⟩ = some (.int .u64 a0) ∧ w'.cell? ⟨w.heap.size, 1, none⟩ = some (.int .u64 b0) ∧ w'.cell? ⟨w.heap.size + 1, 0, none⟩ = some (.int .u64 a1) ∧ w'.cell? ⟨w.heap.size + 1, 1, none⟩ = some (.int .u64 b1) ∧ w'.cell? ⟨w.heap.size + 2, 0, none⟩ = some (.int .u64 a2) ∧ w'.cell? ⟨w.heap.size + 2, 1, none⟩ = some (.int .u64 b2) ∧ w'.cell? ⟨w1.heap.size, 0, none⟩ = some (.int .u64 sh) ∧ w'.cell? ⟨w1.heap.size, 1, none⟩ = some (.int .u64 sl) ∧ Hid (Grown w w')) (first | assumption | exact ⟨k0, k1, k2, k3, k4, k5, k6, k7, G⟩ | exact keep9 (by assumption) (by assumption))
    (first
      | (go_at_call 17; ((with_reducible refine (awake_c _).mono ?_); rintro e w' ⟨rfl, g'⟩))
      | (go_at_call 18; ((with_reducible refine (add_c x1 x0 hx1 hx0 hs' _).mono ?_); rintro e w' ⟨rfl, g'⟩))
      | (go_at_call 18; ((with_reducible refine (add_c (x0 + x1) x2 hs hx2 ht _).mono ?_); rintro e w' ⟨rfl, g'⟩))
      | (go_at_call 18; ((with_reducible refine (add_c x1 x2 hx1 hx2 hu _).mono ?_); rintro e w' ⟨rfl, g'⟩))
      | (go_at_call 18; ((with_reducible refine (add_c x0 (x1 + x2) hx0 hu ht' _).mono ?_); rintro e w' ⟨rfl, g'⟩))
      | (go_at_call 18; ((with_reducible refine (add_c x0 (0#128) hx0 hz h0 _).mono ?_); rintro e w' ⟨rfl, g'⟩))
      | (go_at_call 19; ((with_reducible refine (sub_c (x0 + x1) x1 hs hx1 hsb _).mono ?_); rintro e w' ⟨rfl, g'⟩))
      | (go_at_call 19; ((with_reducible refine (sub_c x0 x1 hx0 hx1 hd _).mono ?_); rintro e w' ⟨rfl, g'⟩))
      | (go_at_call 18; ((with_reducible refine (add_c (x0 - x1) x1 hd hx1 hd' _).mono ?_); rintro e w' ⟨rfl, g'⟩))
      | (go_at_call 14; ((with_reducible refine (not_c x1 hx1 hn _).mono ?_); rintro e w' ⟨rfl, g'⟩))
      | (go_at_call 16; ((with_reducible refine (new_c 1 _).mono ?_); rintro e w' ⟨rfl, g'⟩))
      | (go_at_call 18; ((with_reducible refine (add_c (~~~ x1) (1#128) hn h1 ho _).mono ?_); rintro e w' ⟨rfl, g'⟩))
      | (go_at_call 18; ((with_reducible refine (add_c x0 (~~~ x1 + 1#128) hx0 ho ho' _).mono ?_); rintro e w' ⟨rfl, g'⟩))
      | (go_at_call 19; ((with_reducible refine (sub_c x0 x0 hx0 hx0 hss _).mono ?_); rintro e w' ⟨rfl, g'⟩))
      | (go_at_call 14; ((with_reducible refine (not_c x0 hx0 hm _).mono ?_); rintro e w' ⟨rfl, g'⟩))
      | (go_at_call 14; ((with_reducible refine (not_c (~~~ x0) hm hm' _).mono ?_); rintro e w' ⟨rfl, g'⟩))
      | (go_at_call 18; ((with_reducible refine (add_c x0 (~~~ x0) hx0 hm ham _).mono ?_); rintro e w' ⟨rfl, g'⟩))
      | (go_at_call 20; ((with_reducible refine (mask_c 128 (by decide) (by decide) hma _).mono ?_); rintro e w' ⟨rfl, g'⟩)))
  have HG : Hid (Grown w w') := by
    have h := ‹_ ∧ _ ∧ _ ∧ _ ∧ _ ∧ _ ∧ _ ∧ _ ∧ Hid (Grown w w')›
    exact h.2.2.2.2.2.2.2.2
  go_wp2
  go_ret
  exact ⟨rfl, HG.out⟩

set_option maxRecDepth 100000 in
theorem wordRing_lifted (os : Os) (started : os.Started) (H : Type) (enc : TypeId × Value → H) :
    ReturnsInHanded {} Try.checked os 8 .any (Rows.wordRingSpec.pre6 enc Try.prog Try.f8 Rows.wordRingRow.domain false) (Rows.wordRingSpec.post enc Try.prog Try.f8 false true false false) := by
  refine returnsInHanded_of_change (C := Try.checked) own started (by kernel_rfl) Try.func8
    (ChangeSpec.witness6 (enc := enc) (C := Try.checked) false ⟨#[], #[.agg #[.int .u64 0, .int .u64 0], .agg #[.int .u64 0, .int .u64 0], .agg #[.int .u64 0, .int .u64 0]], []⟩ 8 (by kernel_rfl) (by kernel_rfl) (by kernel_rfl) (by kernel_rfl)) ?_
  intro W base args ds gs before hval0 hW hcnd _
  have hval : ∀ (j : Nat) t v, Try.f8.params[j]? = some t → args[j]? = some v → Value.okWide Try.prog W .any base t v := hval0
  have hW' := hW
  obtain ⟨p, q, hA0, hV, rfl, hfz, hnd⟩ := hW
  have hA : DataW.TrodAll enc Try.prog W 0 (fun _ => true) true Try.f8.params.toList args.toList ds p := hA0
  rw [Try.params8] at hA hval
  obtain ⟨v0, vs0, d0, ds0, p0, q0, hargs, rfl, rfl, h0, r0⟩ := trodAll_cons hA
  obtain ⟨v1, vs1, d1, ds1, p1, q1, rfl, rfl, rfl, h1, r1⟩ := trodAll_cons r0
  obtain ⟨v2, vs2, d2, ds2, p2, q2, rfl, rfl, rfl, h2, r2⟩ := trodAll_cons r1
  obtain ⟨rfl, rfl, rfl⟩ := trodAll_nil r2
  obtain rfl : args = #[v0, v1, v2] := by cases args; simp_all
  obtain ⟨rfl, rfl⟩ := trodVars_none hV
  obtain ⟨a0, b0, rfl, rfl, rfl, wa0, wb0⟩ := open_word (hval 0 24 v0 rfl rfl) h0
  obtain ⟨x0, hx0⟩ := word_in wa0 wb0
  obtain ⟨a1, b1, rfl, rfl, rfl, wa1, wb1⟩ := open_word (hval 1 24 v1 rfl rfl) h1
  obtain ⟨x1, hx1⟩ := word_in wa1 wb1
  obtain ⟨a2, b2, rfl, rfl, rfl, wa2, wb2⟩ := open_word (hval 2 24 v2 rfl rfl) h2
  obtain ⟨x2, hx2⟩ := word_in wa2 wb2
  clear hA0 hval0
  simp only [List.append_nil] at hW'
  refine (wordRing_walk a0 b0 x0 hx0 a1 b1 x1 hx1 a2 b2 x2 hx2 W).mono fun e W' ⟨he, hg⟩ => ?_
  subst he
  exact ⟨_, rfl, post_of_same (pa := []) (pv := []) hW' (fun _ _ _ => (trodAll_cons_mk (shut_bool Try.underlying4 _) trodAll_mk0)) (fun sp _ => (trodAll_cons_mk (shut_word wa0 wb0) (trodAll_cons_mk (shut_word wa1 wb1) (trodAll_cons_mk (shut_word wa2 wb2) trodAll_mk0)))) (fun _ _ => rfl) rfl
    (hg.frame _) hg.2.1 (ok_one (by kernel_rfl) rfl (okWide_bool_mk Try.underlying4 _))⟩

theorem wordRing_holds : Rows.WordRingSaid :=
  OpenClaim.holds_of_wide 8 Try.f8 rfl rfl rfl rfl rfl rfl rfl ⟨rfl, rfl, rfl, rfl, rfl⟩ rfl rfl rfl rfl rfl (by kernel_rfl) Try.func8 (by kernel_rfl)
    (of_decide_eq_true (by kernel_rfl)) (by unfold Func.isWrapper; first | (rw [if_pos (by decide +kernel)]; kernel_rfl) | (rw [if_neg (by decide +kernel)]; exact ⟨rfl, rfl⟩))
    (fun os started H enc _ => wordRing_lifted os started H enc)

#print axioms wordRing_holds
end Go.Proofs.Ytjhfkmjaobleiaa
