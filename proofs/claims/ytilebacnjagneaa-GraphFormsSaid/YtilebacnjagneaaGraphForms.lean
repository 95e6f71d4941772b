/- Whether any node's form is right is what the document says: for all nodes, the statement's function returns true. -/
import Derived.Test.YtilebacnjagneaaGFrame
import Derived.Test.YtilebacnjagneaaGRForm
namespace Go.Proofs.Ytilebacnjagneaa
set_option linter.unusedVariables false
open Go.ChangeShapes Go.WideShapes Go.ChangeAt Go.RowKit Go.Joins

set_option maxRecDepth 20000 in
set_option maxHeartbeats 8000000 in
theorem graphForms_walk (w : World) (x : NodV) (A : Option Addr) (n c : Nat) (ha : ArmsAt w A x.arms) (hl : x.arms.length = n) (ho : ArmsOk x.arms) (hb : n ≤ 9223372036854775807) :
    Calls Try.prog 4 #[nodA x A n c] w fun e w' => e = .returned (.bool true) ∧ Wider w w' := by
  have H1 := (Own.nil (Wider.refl w)).blk (nodC x A n c) 28
  have H2 := H1.blk (cellsNd [⟨x, A, n, c⟩]).toArray 28
  have zz : (w.alloc (.cells (nodC x A n c) 28)).heap.size = w.heap.size + 1 := by simp
  rw [zz] at H2
  have hN := NodesAt.blk H2.head rfl (fun e he => by
    simp only [List.mem_cons, List.not_mem_nil, or_false] at he
    subst he
    exact ⟨ha.on H2.wider, hl⟩)
  obtain ⟨b, hb2⟩ : ∃ b, decide (1500 ≤ bulkG [x]) = b := ⟨_, rfl⟩
  have zl := glongL_c (c := 1) hN rfl ⟨by show 1 ≤ 9223372036854775807; decide, fun y hy => by
    simp only [List.map_cons, List.map_nil, List.mem_cons, List.not_mem_nil, or_false] at hy
    rw [hy]
    exact ⟨by show x.arms.length ≤ _; omega, ho⟩⟩ hb2
  have ok : b = false → x.Ok := fun e => by
    subst e
    have := of_decide_eq_false hb2
    exact ⟨ho, by have := bulkG_mem [x] x (.head _) (by omega); omega⟩
  obtain ⟨r, hr⟩ : ∃ r, formG x = r := ⟨_, rfl⟩
  have zf := fun (W : World) (g : Wider w W) (e : b = false) => gform_c (c := c) x (ha.on g) hl (ok e) hr
  have zr := fun (W : World) (g : Wider w W) (e : b = false) => grform_c (c := c) x (ha.on g) hl (ok e) hr
  have D := (NodeB.of H1.head)
  have G := H1.wider
  have G2 := H2.wider
  obtain ⟨id, size, lo, lw, lu, so, sw, arms, oth⟩ := x
  obtain ⟨d0, d1, d2, d3, d4, d5, d6, d7, d8⟩ := D
  have HD := Lib.hid (NodeB.of H2.drop.head)
  clear hN ok ho ha hl hb hr hb2 H1 H2 zz
  show Calls Try.prog 4 #[.agg #[.int .i64 id, .int .i64 size, .int .i64 lo, .int .i64 lw, .int .i64 lu, .int .i64 so, .int .i64 sw, .slice A n c, .int .i64 oth]] w _
  cases b with
  | true =>
    clear zf zr
    go_enter Try.func4, Try.ntmps4
    go_wp2_with (first
      | (go_at_call 14; (refine zl.mono ?_; rintro e w1 ⟨rfl, g⟩; replace G2 := G2.trans g; clear zl g))
      | (go_at_call 9; ((with_reducible refine (gawake_c _).mono ?_); rintro e w2 ⟨rfl, g⟩; replace G2 := G2.trans g; clear g)))
    go_ret
    exact ⟨rfl, G2⟩
  | false =>
    go_enter Try.func4, Try.ntmps4
    go_upto_region 3 with (first
      | (go_at_call 14; (refine zl.mono ?_; rintro e w1 ⟨rfl, g⟩; replace G2 := G2.trans g; have D2 := HD.out.on g; clear zl g)))
    have zf := fun (z : After w1) => zf z.w (G2.trans z.h) trivial
    have zr := fun (z : After w1) => zr z.w (G2.trans z.h) trivial
    have p0 := fun (z : After w1) => (D2.on z.h).c0
    have p1 := fun (z : After w1) => (D2.on z.h).c1
    have p2 := fun (z : After w1) => (D2.on z.h).c2
    have p3 := fun (z : After w1) => (D2.on z.h).c3
    have p4 := fun (z : After w1) => (D2.on z.h).c4
    have p5 := fun (z : After w1) => (D2.on z.h).c5
    have p6 := fun (z : After w1) => (D2.on z.h).c6
    have p7 := fun (z : After w1) => (D2.on z.h).c7
    have p8 := fun (z : After w1) => (D2.on z.h).c8
    have rr : (r == r) = true := beq_self_eq_true _
    clear d0 d1 d2 d3 d4 d5 d6 d7 d8 D2 HD
    dsimp only at p0 p1 p2 p3 p4 p5 p6 p7 p8
    refine wp_region_after (by kernel_rfl) (by kernel_rfl) (Wider.refl w1) ?_
    repeat (go_big_quiet_step (first
      | (go_at_call 10; with_reducible exact quiet_after (zf _))
      | (go_at_call 15; with_reducible exact quiet_after (zr _))
      | (go_at_call 9; with_reducible exact quiet_after (gawake_c _))))
    refine wpQuiet_nil ?_
    rintro _ ⟨y, rfl⟩
    go_wp2
    go_ret
    exact ⟨rfl, G2.trans y.h⟩

set_option maxRecDepth 100000 in
theorem graphForms_lifted (os : Os) (started : os.Started) (H : Type) (enc : TypeId × Value → H) :
    ReturnsInHanded {} Try.checked os 4 .any (Rows.graphFormsSpec.pre6 enc Try.prog Try.f4 Rows.graphFormsRow.domain false) (Rows.graphFormsSpec.post enc Try.prog Try.f4 false true false false) := by
  refine returnsInHanded_of_change (C := Try.checked) own started (by kernel_rfl) Try.func4
    (ChangeSpec.witness6 (enc := enc) (C := Try.checked) false ⟨#[], #[.agg #[.int .i64 0, .int .i64 0, .int .i64 0, .int .i64 0, .int .i64 0, .int .i64 0, .int .i64 0, .slice none 0 0, .int .i64 0]], []⟩ 8 (by kernel_rfl) (by kernel_rfl) (by kernel_rfl) (by kernel_rfl)) ?_
  intro W base args ds gs before hval0 hW hcnd _
  have hval : ∀ (j : Nat) t v, Try.f4.params[j]? = some t → args[j]? = some v → Value.okWide Try.prog W .any base t v := hval0
  have hW' := hW
  obtain ⟨p, q, hA0, hV, rfl, hfz, hnd⟩ := hW
  have hA : DataW.TrodAll enc Try.prog W 0 (fun _ => true) true Try.f4.params.toList args.toList ds p := hA0
  rw [Try.params4] at hA hval
  obtain ⟨v0, vs0, d0, ds0, p0, q0, hargs, rfl, rfl, h0, r0⟩ := trodAll_cons hA
  obtain ⟨rfl, rfl, rfl⟩ := trodAll_nil r0
  obtain rfl : args = #[v0] := by cases args; simp_all
  obtain ⟨rfl, rfl⟩ := trodVars_none hV
  have h0k := h0
  obtain ⟨x0, A0, n0, c0, rfl, ha0, hl0, ho0, hb0⟩ := open_node (hval 0 28 v0 rfl rfl) h0
  clear hA0 hval0
  simp only [List.append_nil] at hW'
  refine (graphForms_walk W x0 A0 n0 c0 ha0 hl0 ho0 hb0).mono fun e W' ⟨he, hg⟩ => ?_
  subst he
  have hlt : ∀ x ∈ p0, x.block < W.heap.size := fun x hx => by simpa using hW'.lt x hx
  exact ⟨_, rfl, post_of_wider (pv := []) hW' (fun _ _ _ => (trodAll_cons_mk (shut_bool Try.underlying4 _) trodAll_mk0)) (fun sp hsp => (trodAll_cons_mk (WideElems.Trod_stays laid3 (by kernel_rfl) (of_decide_eq_true (by kernel_rfl)) h0k (fun x hx => wsame hg (hlt x (by simp [hx]))) (fun x hx => hsp x (by simp [hx]))) trodAll_mk0)) (fun _ _ => rfl) (by simp)
    hg (ok_one (by kernel_rfl) rfl (okWide_bool_mk Try.underlying4 _))⟩

theorem graphForms_holds : Rows.GraphFormsSaid :=
  OpenClaim.holds_of_wide 4 Try.f4 rfl rfl rfl rfl rfl rfl rfl ⟨rfl, rfl, rfl, rfl, rfl⟩ rfl rfl rfl rfl rfl (by kernel_rfl) Try.func4 (by kernel_rfl)
    (of_decide_eq_true (by kernel_rfl)) (by unfold Func.isWrapper; first | (rw [if_pos (by decide +kernel)]; kernel_rfl) | (rw [if_neg (by decide +kernel)]; exact ⟨rfl, rfl⟩))
    (fun os started H enc _ => graphForms_lifted os started H enc)

#print axioms graphForms_holds

end Go.Proofs.Ytilebacnjagneaa
