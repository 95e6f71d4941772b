/- The law TernMatches: whether any item matches any text is the document's. No condition. -/
import Derived.Test.YtjjgdnaejeejlaaURef
import Derived.Test.YtjjgdnaejeejlaaSMake
import Derived.Deep.QuietTactic
namespace Go.Proofs.Ytjjgdnaejeejlaa
set_option linter.unusedVariables false
open Go.ChangeShapes Go.WideShapes Go.ChangeAt Go.RowKit Go.Joins
open Go.ChangeMaps (open_string shut_string)

set_option maxRecDepth 20000 in
set_option maxHeartbeats 4000000 in
theorem ternMatches_walk (w : World) (x : ItN) (hx : x.Ok) (k : ByteArray) (hk : k.size ≤ maxLen) :
    Calls Try.prog 3 #[aggI x, .string k] w fun e w' => e = .returned (.bool true) ∧ Wider w w' := by
  have hX := Lib.hid (show x.key.size < 1000000 → x.mask.size < 1000000 → k.size < 1000000 → ∃ b : Bool, (∀ w, Calls Try.prog 10 #[aggI x, .string k] w fun e w' => e = .returned (.bool b) ∧ Wider w w') ∧ ∀ w, Calls Try.prog 11 #[aggI x, .string k] w fun e w' => e = .returned (.bool b) ∧ Wider w w' from fun h1 h2 h3 =>
    ⟨decide (MatchN x k), fun w => umatch_c x k h3 (by simp) w, fun w => urmatch_c x k h3 h1 h2 (by simp) w⟩)
  obtain ⟨key, mask, prio, v⟩ := x
  obtain ⟨o1, o2, _, _, _, _⟩ := hx
  unfold maxLen at o1 o2 hk
  have o1 : key.size ≤ 2 ^ 63 - 1 := o1
  have o2 : mask.size ≤ 2 ^ 63 - 1 := o2
  show Calls Try.prog 3 #[.agg #[.string key, .string mask, .int .i64 prio, .int .i64 v], .string k] w fun e w' => e = .returned (.bool true) ∧ Wider w w'
  have H := (Wider.refl w).alloc (.cells #[.string key, .string mask, .int .i64 prio, .int .i64 v] 23)
  obtain ⟨d0, d1, d2, d3⟩ := new4 w 23 (.string key) (.string mask) (.int .i64 prio) (.int .i64 v)
  by_cases e1 : 3000 < key.size
  · have f1 : decide ((3000 : Int) < (key.size : Int)) = true := decide_eq_true (by omega)
    have g1 : (3000 : Int) < (key.size : Int) := by omega
    clear hX hk o1 o2
    go_enter Try.func3, Try.ntmps3
    go_wp2_with (first
      | (go_at_call 9; ((with_reducible refine (awake12_c _).mono ?_); rintro e wa ⟨rfl, g⟩; replace H := H.trans g; clear g)))
    go_ret
    exact ⟨rfl, H⟩
  · have f1 : decide ((3000 : Int) < (key.size : Int)) = false := decide_eq_false (by omega)
    have g1 : ¬ (3000 : Int) < (key.size : Int) := by omega
    by_cases e2 : 3000 < mask.size
    · have f2 : decide ((3000 : Int) < (mask.size : Int)) = true := decide_eq_true (by omega)
      have g2 : (3000 : Int) < (mask.size : Int) := by omega
      clear hX hk o1 o2
      go_enter Try.func3, Try.ntmps3
      go_wp2_with (first
        | (go_at_call 9; ((with_reducible refine (awake12_c _).mono ?_); rintro e wa ⟨rfl, g⟩; replace H := H.trans g; clear g)))
      go_ret
      exact ⟨rfl, H⟩
    · have f2 : decide ((3000 : Int) < (mask.size : Int)) = false := decide_eq_false (by omega)
      have g2 : ¬ (3000 : Int) < (mask.size : Int) := by omega
      by_cases e3 : 3000 < k.size
      · have f3 : decide ((3000 : Int) < (k.size : Int)) = true := decide_eq_true (by omega)
        have g3 : (3000 : Int) < (k.size : Int) := by omega
        clear hX hk o1 o2
        go_enter Try.func3, Try.ntmps3
        go_wp2_with (first
          | (go_at_call 9; ((with_reducible refine (awake12_c _).mono ?_); rintro e wa ⟨rfl, g⟩; replace H := H.trans g; clear g)))
        go_ret
        exact ⟨rfl, H⟩
      · have f3 : decide ((3000 : Int) < (k.size : Int)) = false := decide_eq_false (by omega)
        have g3 : ¬ (3000 : Int) < (k.size : Int) := by omega
        obtain ⟨b, zm, zr⟩ := hX.out (show key.size < 1000000 by omega) (show mask.size < 1000000 by omega) (by omega)
        have zm : ∀ w, Calls Try.prog 10 #[.agg #[.string key, .string mask, .int .i64 prio, .int .i64 v], .string k] w fun e w' => e = .returned (.bool b) ∧ Wider w w' := zm
        have zr : ∀ w, Calls Try.prog 11 #[.agg #[.string key, .string mask, .int .i64 prio, .int .i64 v], .string k] w fun e w' => e = .returned (.bool b) ∧ Wider w w' := zr
        clear hX hk o1 o2
        go_enter Try.func3, Try.ntmps3
        go_upto_region 3 with (fail)
        obtain ⟨W, hW⟩ : ∃ W, w.alloc (.cells #[.string key, .string mask, .int .i64 prio, .int .i64 v] 23) = W := ⟨_, rfl⟩
        rw [hW] at H d0 d1 d2 d3 ⊢
        clear hW
        have q0 := fun (z : After W) => wkeep z.h d0
        have q1 := fun (z : After W) => wkeep z.h d1
        have q2 := fun (z : After W) => wkeep z.h d2
        have q3 := fun (z : After W) => wkeep z.h d3
        have zm' := fun (z : After W) => zm z.w
        have zr' := fun (z : After W) => zr z.w
        have za := fun (z : After W) => awake12_c z.w
        clear d0 d1 d2 d3 zm zr
        refine wp_region_after (by kernel_rfl) (by kernel_rfl) (Wider.refl W) ?_
        repeat (go_big_quiet_step (first | (go_at_call 10; with_reducible exact quiet_after (zm' _)) | (go_at_call 11; with_reducible exact quiet_after (zr' _)) | (go_at_call 9; with_reducible exact quiet_after (za _))))
        refine wpQuiet_nil ?_
        rintro _ ⟨z, rfl⟩
        go_wp2
        go_ret
        exact ⟨rfl, H.trans z.h⟩
set_option maxRecDepth 100000 in
theorem ternMatches_lifted (os : Os) (started : os.Started) (H : Type) (enc : TypeId × Value → H) :
    ReturnsInHanded {} Try.checked os 3 .any (Rows.ternMatchesSpec.pre6 enc Try.prog Try.f3 Rows.ternMatchesRow.domain false) (Rows.ternMatchesSpec.post enc Try.prog Try.f3 false true false false) := by
  refine returnsInHanded_of_change (C := Try.checked) own started (by kernel_rfl) Try.func3
    (ChangeSpec.witness6 (enc := enc) (C := Try.checked) false ⟨#[], #[.agg #[.string ⟨#[]⟩, .string ⟨#[]⟩, .int .i64 0, .int .i64 0], .string ⟨#[]⟩], []⟩ 8 (by kernel_rfl) (by kernel_rfl) (by kernel_rfl) (by kernel_rfl)) ?_
  intro W base args ds gs before hval0 hW hcnd _
  have hval : ∀ (j : Nat) t v, Try.f3.params[j]? = some t → args[j]? = some v → Value.okWide Try.prog W .any base t v := hval0
  have hW' := hW
  obtain ⟨p, q, hA0, hV, rfl, hfz, hnd⟩ := hW
  have hA : DataW.TrodAll enc Try.prog W 0 (fun _ => true) true Try.f3.params.toList args.toList ds p := hA0
  rw [Try.params3] at hA hval
  obtain ⟨v0, vs0, d0, ds0, p0, q0, hargs, rfl, rfl, h0, r0⟩ := trodAll_cons hA
  obtain ⟨v1, vs1, d1, ds1, p1, q1, rfl, rfl, rfl, h1, r1⟩ := trodAll_cons r0
  obtain ⟨rfl, rfl, rfl⟩ := trodAll_nil r1
  obtain rfl : args = #[v0, v1] := by cases args; simp_all
  obtain ⟨rfl, rfl⟩ := trodVars_none hV
  have h0k := h0
  obtain ⟨x0, o0, rfl⟩ := open_item (hval 0 23 v0 rfl rfl) h0
  obtain ⟨s1, rfl, rfl, rfl, w1⟩ := open_string Try.underlying9 (hval 1 9 v1 rfl rfl) h1
  clear hA0 hval0
  simp only [List.append_nil] at hW'
  refine (ternMatches_walk W x0 o0 s1 w1).mono fun e W' ⟨he, hg⟩ => ?_
  subst he
  have hlt : ∀ x ∈ p0, x.block < W.heap.size := fun x hx => by simpa using hW'.lt x hx
  exact ⟨_, rfl, post_of_wider (pv := []) hW' (fun _ _ _ => (trodAll_cons_mk (shut_bool Try.underlying4 _) trodAll_mk0)) (fun sp hsp => (trodAll_cons_mk (WideElems.Trod_stays laid3 (by kernel_rfl) (of_decide_eq_true (by kernel_rfl)) h0k (fun x hx => wsame hg (hlt x (by simp [hx]))) (fun x hx => hsp x (by simp [hx]))) (trodAll_cons_mk (shut_string Try.underlying9 w1) trodAll_mk0))) (fun _ _ => rfl) (by simp)
    hg (ok_one (by kernel_rfl) rfl (okWide_bool_mk Try.underlying4 _))⟩

theorem ternMatches_holds : Rows.TernMatchesSaid :=
  OpenClaim.holds_of_wide 3 Try.f3 rfl rfl rfl rfl rfl rfl rfl ⟨rfl, rfl, rfl, rfl, rfl⟩ rfl rfl rfl rfl rfl (by kernel_rfl) Try.func3 (by kernel_rfl)
    (of_decide_eq_true (by kernel_rfl)) (by unfold Func.isWrapper; first | (rw [if_pos (by decide +kernel)]; kernel_rfl) | (rw [if_neg (by decide +kernel)]; exact ⟨rfl, rfl⟩))
    (fun os started H enc _ => ternMatches_lifted os started H enc)

#print axioms ternMatches_holds

end Go.Proofs.Ytjjgdnaejeejlaa
