/- PMayW -/
import Derived.Test.YtoopdhgmdjienaaGreatDoorPkW48
import Derived.Test.YtoopdhgmdjienaaGreatDoorPkW31
import Derived.Test.YtoopdhgmdjienaaGreatDoorPkW49
import Derived.Test.YtoopdhgmdjienaaGreatDoorPkW42
import Derived.Test.YtoopdhgmdjienaaGreatDoorPkW41
namespace Go.Proofs.YtoopdhgmdjienaaGreatDoor
set_option linter.unusedVariables false
set_option maxRecDepth 20000
open Go.ChangeShapes Go.WideShapes Go.ChangeAt Go.RowKit Go.Joins
open Go.ChangeMaps (open_string shut_string)
section
variable {P : Program}
theorem exec_cell {o : Oper} {a : Act} {w : World} (ty : TypeId) (x : Operand) (hop : o.op = .load ty x) (g off : Nat) (hx : a.eval x = .pointer (some ⟨g, off, none⟩)) {v : Value} (hg : w.cell? ⟨g, off, none⟩ = some v) (d : TypeDesc)
 (hu : P.underlying ty = some d) (hd : d.isRow = false) : (execOp a.eval o).run P w = .ok (.value v) w := by
 have hagg : (isAgg ty).run P w = .ok false w := by
  unfold isAgg
  rw [Sem.run_bind, run_underlying hu w]
  cases d <;> simp_all
 have q : (Instr.loadAt ty (.pointer (some ⟨g, off, none⟩))).run P w = .ok v w := by
  simp [Instr.loadAt, Instr.sureAddr, loadVar, Sem.run_bind, hagg, hg]
 unfold execOp; simp only [hop, hx, Sem.run_bind, q, Result.andThen_ok, Sem.run_pure]
theorem exec_part {o : Oper} {a : Act} {w : World} (ty : TypeId) (x : Operand) (hop : o.op = .load ty x) (g off n e : Nat) (he : off + n = e) (hx : a.eval x = .pointer (some ⟨g, off, none⟩)) {t : TypeId} {C : Array Value} (d : TypeDesc) (hg : w.heap[g]? = some (.cells C t (0, 0))) (hn : e ≤ C.size)
 (hu : P.underlying ty = some d) (hd : d.isRow = true) (hi : (P.info? ty).map (·.size) = some n) : (execOp a.eval o).run P w = .ok (.value (.agg (C.extract off e))) w := by
 unfold execOp; simp only [hop, hx, Sem.run_bind, run_load_part hg ty off n e he d hn hu hd hi, Result.andThen_ok, Sem.run_pure]
theorem exec_whole {o : Oper} {a : Act} {w : World} (ty : TypeId) (x : Operand) (hop : o.op = .load ty x) (g : Nat) (hx : a.eval x = .pointer (some ⟨g, 0, none⟩)) {t : TypeId} {C : Array Value} (d : TypeDesc) (hg : w.heap[g]? = some (.cells C t (0, 0)))
 (hu : P.underlying ty = some d) (hd : d.isRow = true) (hi : (P.info? ty).map (·.size) = some C.size) : (execOp a.eval o).run P w = .ok (.value (.agg C)) w := by
 have q := exec_part (P := P) (o := o) (a := a) ty x hop g 0 C.size C.size (Nat.zero_add _) hx d hg (Nat.le_refl _) hu hd hi
 rwa [show C.extract 0 C.size = C by simp] at q
theorem exec_field {o : Oper} {a : Act} {w : World} (t : TypeId) (x : Operand) (i : Nat) (hop : o.op = .fieldAddr t x i) (g off e : Nat) (hx : a.eval x = .pointer (some ⟨g, off, none⟩))
 (hrun : ∀ w : World, (Instr.fieldAt t (.pointer (some ⟨g, off, none⟩)) i).run P w = .ok (.pointer (some ⟨g, e, none⟩)) w) : (execOp a.eval o).run P w = .ok (.value (.pointer (some ⟨g, e, none⟩))) w := by
 unfold execOp; simp only [hop, hx, Sem.run_bind, hrun, Result.andThen_ok, Sem.run_pure]
end
theorem mayW_parts {w : World} {M : Array Value} {d : MsgD} (R : RepD w M d) (k : Nat) : MayW k d.ps ↔ (1 ≤ k ∧ k ≤ 46) ∧ d.ps = pickP (hasL k) d.ps ∧ (∀ x ∈ [d.id, d.idx, d.code, d.port, d.tag], 0 ≤ x ∧ x ≤ 2147483647) ∧ d.words.length ≤ 128 ∧ ∀ j, j < 8 → okG (csKind j) (d.V j) := by
 unfold MayW
 refine and_congr Iff.rfl (and_congr Iff.rfl ⟨fun h => ⟨fun x hx => ?_, ?_, fun j hj => ?_⟩, fun ⟨h1, h2, h3⟩ i hi => ?_⟩)
 · have q : ∀ (i : Nat) (v : Int), i < 5 → d.ps.getD i noP = .one (.num v) → 0 ≤ v ∧ v ≤ 2147483647 := fun i v hi hv => by
    have o := h i (by omega)
    have e : partC topD i = oneP nI := by
     match i, hi with
     | 0, _ | 1, _ | 2, _ | 3, _ | 4, _ => rfl
    rw [e, hv] at o
    obtain ⟨u, e1, e2⟩ := o
    injection e1 with e1
    subst e1
    exact numV_okN.1 e2
   simp only [List.mem_cons, List.not_mem_nil, or_false] at hx
   rcases hx with rfl | rfl | rfl | rfl | rfl
   · exact q 0 _ (by decide) rfl
   · exact q 1 _ (by decide) rfl
   · exact q 2 _ (by decide) rfl
   · exact q 3 _ (by decide) rfl
   · exact q 4 _ (by decide) rfl
 · obtain ⟨u, e1, l, e2, h1, _⟩ := h 8 (by decide)
   have e1' : PartN.one (.lst d.words) = .one u := e1
   injection e1' with e1'
   subst e1'
   injection e2 with e2
   subst e2
   exact h1
 · have o := h (j + 9) (by omega)
   match j, hj with
   | 0, _ => obtain ⟨u, e1, e2⟩ := o; have e1' : PartN.obj (d.V 0) = .obj u := e1; injection e1' with e1'; subst e1'; exact e2
   | 1, _ => obtain ⟨u, e1, e2⟩ := o; have e1' : PartN.obj (d.V 1) = .obj u := e1; injection e1' with e1'; subst e1'; exact e2
   | 2, _ => obtain ⟨u, e1, e2⟩ := o; have e1' : PartN.obj (d.V 2) = .obj u := e1; injection e1' with e1'; subst e1'; exact e2
   | 3, _ => obtain ⟨u, e1, e2⟩ := o; have e1' : PartN.obj (d.V 3) = .obj u := e1; injection e1' with e1'; subst e1'; exact e2
   | 4, _ => obtain ⟨u, e1, e2⟩ := o; have e1' : PartN.obj (d.V 4) = .obj u := e1; injection e1' with e1'; subst e1'; exact e2
   | 5, _ => obtain ⟨u, e1, e2⟩ := o; have e1' : PartN.obj (d.V 5) = .obj u := e1; injection e1' with e1'; subst e1'; exact e2
   | 6, _ => obtain ⟨u, e1, e2⟩ := o; have e1' : PartN.obj (d.V 6) = .obj u := e1; injection e1' with e1'; subst e1'; exact e2
   | 7, _ => obtain ⟨u, e1, e2⟩ := o; have e1' : PartN.obj (d.V 7) = .obj u := e1; injection e1' with e1'; subst e1'; exact e2
 · have q : ∀ v : Int, 0 ≤ v ∧ v ≤ 2147483647 → (oneP nI).ok (.one (.num v)) := fun v hv => ⟨_, rfl, numV_okN.2 hv⟩
   have q2 : ∀ v : Int, (Lit.int .u64 v).wf = true → (oneP nU).ok (.one (.num v)) := fun v hv => ⟨_, rfl, numV_okN.2 ⟨(bounds_u64 hv).1, by have := (bounds_u64 hv).2; show v ≤ 18446744073709551615; omega⟩⟩
   match i, hi with
   | 0, _ => exact q _ (h1 _ (by simp))
   | 1, _ => exact q _ (h1 _ (by simp))
   | 2, _ => exact q _ (h1 _ (by simp))
   | 3, _ => exact q _ (h1 _ (by simp))
   | 4, _ => exact q _ (h1 _ (by simp))
   | 5, _ => exact q2 _ R.w7
   | 6, _ => exact q2 _ R.w8
   | 7, _ => exact ⟨_, rfl, d.data, rfl, by have := R.w9; unfold maxLen at this; show d.data.size ≤ 9223372036854775807; omega⟩
   | 8, _ =>
     refine ⟨_, rfl, d.words, rfl, h2, fun x hx => ?_⟩
     obtain ⟨v, A, n, cp, _, r⟩ := R.c10
     obtain ⟨hl, hw⟩ := r.wf x hx
     match x, hl with
     | [y], _ =>
       have wy := hw 0 .u64 y rfl rfl
       exact ⟨y, rfl, (bounds_u64 wy).1, by have := (bounds_u64 wy).2; show y ≤ 18446744073709551615; omega⟩
   | 9, _ => exact ⟨_, rfl, h3 0 (by decide)⟩
   | 10, _ => exact ⟨_, rfl, h3 1 (by decide)⟩
   | 11, _ => exact ⟨_, rfl, h3 2 (by decide)⟩
   | 12, _ => exact ⟨_, rfl, h3 3 (by decide)⟩
   | 13, _ => exact ⟨_, rfl, h3 4 (by decide)⟩
   | 14, _ => exact ⟨_, rfl, h3 5 (by decide)⟩
   | 15, _ => exact ⟨_, rfl, h3 6 (by decide)⟩
   | 16, _ => exact ⟨_, rfl, h3 7 (by decide)⟩
   | i + 17, h => omega
set_option maxHeartbeats 32000000 in
theorem rmayw_c (w : World) {M : Array Value} {d : MsgD} (R : RepD w M d) (k x : Nat) (k9 : k < 256) (x9 : x < 4294967296) (hk : d.kind = (k : Int)) (hx : d.xid = (x : Int)) {b : Bool} (hb : b = true ↔ MayW k d.ps) :
 Calls Tryz.prog 25 #[.agg M] w fun e w' => e = .returned (.bool b) ∧ Wider w w' := by
 obtain ⟨r0, h0⟩ := some_bool3 (1 ≤ k ∧ k ≤ 46)
 obtain ⟨r1, h1⟩ := some_bool3 (d.ps = pickP (hasL k) d.ps)
 obtain ⟨r2, h2⟩ := some_bool3 (∀ x ∈ [d.id, d.idx, d.code, d.port, d.tag], 0 ≤ x ∧ x ≤ 2147483647)
 obtain ⟨r3, h3⟩ := some_bool3 (d.words.length ≤ 128)
 obtain ⟨r4, h4⟩ := some_bool3 (okG (csKind 0) (d.V 0))
 obtain ⟨r5, h5⟩ := some_bool3 (okG (csKind 1) (d.V 1))
 obtain ⟨r6, h6⟩ := some_bool3 (okG (csKind 2) (d.V 2))
 obtain ⟨r7, h7⟩ := some_bool3 (okG (csKind 3) (d.V 3))
 obtain ⟨r8, h8⟩ := some_bool3 (okG (csKind 4) (d.V 4))
 obtain ⟨r9, h9⟩ := some_bool3 (okG (csKind 5) (d.V 5))
 obtain ⟨r10, h10⟩ := some_bool3 (okG (csKind 6) (d.V 6))
 obtain ⟨r11, h11⟩ := some_bool3 (okG (csKind 7) (d.V 7))
 have er : (r0 && r1 && r2 && r3 && r4 && r5 && r6 && r7 && r8 && r9 && r10 && r11) = b := by
  refine tell_bool3 ?_ hb
  rw [mayW_parts R k]
  simp only [Bool.and_eq_true, h0, h1, h2, h3, h4, h5, h6, h7, h8, h9, h10, h11]
  constructor
  · rintro ⟨⟨⟨⟨⟨⟨⟨⟨⟨⟨⟨g0, g1⟩, g2⟩, g3⟩, g4⟩, g5⟩, g6⟩, g7⟩, g8⟩, g9⟩, g10⟩, g11⟩
    refine ⟨g0, g1, g2, g3, fun j hj => ?_⟩
    match j, hj with
    | 0, _ => exact g4
    | 1, _ => exact g5
    | 2, _ => exact g6
    | 3, _ => exact g7
    | 4, _ => exact g8
    | 5, _ => exact g9
    | 6, _ => exact g10
    | 7, _ => exact g11
  · rintro ⟨g0, g1, g2, g3, gj⟩
    exact ⟨⟨⟨⟨⟨⟨⟨⟨⟨⟨⟨g0, g1⟩, g2⟩, g3⟩, gj 0 (by decide)⟩, gj 1 (by decide)⟩, gj 2 (by decide)⟩, gj 3 (by decide)⟩, gj 4 (by decide)⟩, gj 5 (by decide)⟩, gj 6 (by decide)⟩, gj 7 (by decide)⟩
 subst er
 clear hb
 obtain ⟨W, B, hW, hB, G, hA⟩ := one_box w M
 have sM := R.size
 have c0 := R.c0
 rw [hk] at c0
 have HC := Lib.hid (And.intro R.c2 (And.intro R.c3 (And.intro R.c4 (And.intro R.c5 R.c6))))
 obtain ⟨v9, A, n, cp, e9, rw9⟩ := R.c10
 obtain rfl := rw9.val
 have HE10 := Lib.hid e9
 have d3 : decide ((n : Int) ≤ 128) = r3 := by
  have q := h3
  rw [rw9.len] at q
  cases r3 with
  | true => exact decide_eq_true (by have := q.1 rfl; omega)
  | false => exact decide_eq_false (fun h => Bool.false_ne_true (q.2 (by omega)))
 have zk := fun W => rknown_c W k k9 (r := r0) (by
  cases r0 with
  | true => exact (decide_eq_true (h0.1 rfl)).symm
  | false => exact (decide_eq_false (fun h => Bool.false_ne_true (h0.2 h))).symm)
 have zo := fun (W : World) (G : Wider w W) => ronly_c W (R.on G) k x k9 x9 hk hx
 have zs := fun (W : World) (G : Wider w W) (X : Array Value) (d2 : MsgD) (Q : RepD W X d2) (x1 : d2.kind = (k : Int)) (x2 : d2.xid = (x : Int)) (x3 : d2.ps = pickP (hasL k) d.ps) => rsame_c W (R.on G) Q (r := r1) ⟨fun h => ⟨hk.trans x1.symm, hx.trans x2.symm, (h1.1 h).trans x3.symm⟩, fun h => h1.2 (h.2.2.trans x3)⟩
 have HI2 := Lib.hid h2
 have zm0 := fun (W : World) (G : Wider w W) => (R.A.r0.on G).omay (b := r4) h4
 have zm1 := fun (W : World) (G : Wider w W) => (R.A.r1.on G).omay (b := r5) h5
 have zm2 := fun (W : World) (G : Wider w W) => (R.A.r2.on G).omay (b := r6) h6
 have zm3 := fun (W : World) (G : Wider w W) => (R.A.r3.on G).omay (b := r7) h7
 have zm4 := fun (W : World) (G : Wider w W) => (R.A.r4.on G).omay (b := r8) h8
 have zm5 := fun (W : World) (G : Wider w W) => (R.A.r5.on G).omay (b := r9) h9
 have zm6 := fun (W : World) (G : Wider w W) => (R.A.r6.on G).omay (b := r10) h10
 have zm7 := fun (W : World) (G : Wider w W) => (R.A.r7.on G).omay (b := r11) h11
 have HC0 := Lib.hid c0
 clear h0 h1 h2 h3 h4 h5 h6 h7 h8 h9 h10 h11 R e9 rw9 c0 hk hx
 have k0 := fun (w' : World) (h : Wider W w') => blk_cell (wide_blk hA h) 0 HC0.out
 have k2 := fun (w' : World) (h : Wider W w') => blk_cell (wide_blk hA h) 2 HC.out.1
 have k3 := fun (w' : World) (h : Wider W w') => blk_cell (wide_blk hA h) 3 HC.out.2.1
 have k4 := fun (w' : World) (h : Wider W w') => blk_cell (wide_blk hA h) 4 HC.out.2.2.1
 have k5 := fun (w' : World) (h : Wider W w') => blk_cell (wide_blk hA h) 5 HC.out.2.2.2.1
 have k6 := fun (w' : World) (h : Wider W w') => blk_cell (wide_blk hA h) 6 HC.out.2.2.2.2
 have k10 := fun (w' : World) (h : Wider W w') => blk_cell (wide_blk hA h) 10 HE10.out
 go_enter Tryz.func25, Tryz.ntmps25
 go_upto_region 1 with (fail)
 try rw [hW]
 try rw [hB]
 clear hW
 (try dsimp only [List.append])
 try simp only [Act.put, List.setIfInBounds_toArray, List.set_cons_succ, List.set_cons_zero]
 refine gen_act (Φ := fun a => (Code.region 1 _ true).wp Tryz.prog _ a _) _ ?_
 intro a0 ha0
 have zs' : a0.tmps.size = 72 := by rw [ha0]; rfl
 have z1 : a0.eval (.tmp 1) = .pointer (some ⟨B, 0, none⟩) := by rw [ha0]; rfl
 have zd : a0.defers = [] := by rw [ha0]
 clear ha0
 obtain ⟨q1, e1⟩ : ∃ q, (r0 && r1) = q := ⟨_, rfl⟩
 obtain ⟨q2, e2⟩ : ∃ q, (q1 && r2) = q := ⟨_, rfl⟩
 obtain ⟨q3, e3⟩ : ∃ q, (q2 && r3) = q := ⟨_, rfl⟩
 obtain ⟨q4, e4⟩ : ∃ q, (q3 && r4) = q := ⟨_, rfl⟩
 obtain ⟨q5, e5⟩ : ∃ q, (q4 && r5) = q := ⟨_, rfl⟩
 obtain ⟨q6, e6⟩ : ∃ q, (q5 && r6) = q := ⟨_, rfl⟩
 obtain ⟨q7, e7⟩ : ∃ q, (q6 && r7) = q := ⟨_, rfl⟩
 obtain ⟨q8, e8⟩ : ∃ q, (q7 && r8) = q := ⟨_, rfl⟩
 obtain ⟨q9, e9⟩ : ∃ q, (q8 && r9) = q := ⟨_, rfl⟩
 obtain ⟨q10, e10⟩ : ∃ q, (q9 && r10) = q := ⟨_, rfl⟩
 obtain ⟨q11, e11⟩ : ∃ q, (q10 && r11) = q := ⟨_, rfl⟩
 refine wp_region_spec [3, 4, 5, 6, 7, 8, 9, 10, 11, 12, 13, 14, 15, 16, 17, 18, 19, 20, 21, 22, 23, 24, 25, 26, 27, 28, 29, 30, 31, 32, 33, 34, 35, 36, 37, 38, 39, 40, 41, 42, 43, 44, 45, 46, 47, 48, 49, 50, 51, 52, 53, 54, 55, 56, 57, 58, 59, 60, 61, 62, 63, 64, 65, 66, 67, 68, 69, 70, 71, 2] [spEq (.pointer (some ⟨B, 0, none⟩)),
  spEq (.int .u8 (k : Int)),
  spEq (.bool r0),
  spEq (.bool r0),
  spIf (r0 = true) (.agg M),
  spIf (r0 = true) (.agg M),
  spAt (r0 = true) (fun v w' => ∃ X d2, v = .agg X ∧ RepD w' X d2 ∧ d2.kind = (k : Int) ∧ d2.xid = (x : Int) ∧ d2.ps = pickP (hasL k) d.ps),
  spIf (r0 = true) (.bool r1),
  spEq (.bool q1),
  spEq (.bool q1),
  spIf (q1 = true) (.pointer (some ⟨B, 2, none⟩)),
  spIf (q1 = true) (.int .i64 d.id),
  spIf (q1 = true) (.pointer (some ⟨B, 3, none⟩)),
  spIf (q1 = true) (.int .i64 d.idx),
  spIf (q1 = true) (.pointer (some ⟨B, 4, none⟩)),
  spIf (q1 = true) (.int .i64 d.code),
  spIf (q1 = true) (.pointer (some ⟨B, 5, none⟩)),
  spIf (q1 = true) (.int .i64 d.port),
  spIf (q1 = true) (.pointer (some ⟨B, 6, none⟩)),
  spIf (q1 = true) (.int .i64 d.tag),
  spAt (q1 = true) (fun v w' => ∃ gb, v = .slice (some ⟨gb, 0, none⟩) 5 5 ∧ RowAt w' (some ⟨gb, 0, none⟩) 1 (rowsI .i64 [d.id, d.idx, d.code, d.port, d.tag])),
  spIf (q1 = true) (.bool r2),
  spEq (.bool q2),
  spEq (.bool q2),
  spIf (q2 = true) (.pointer (some ⟨B, 10, none⟩)),
  spIf (q2 = true) (.slice A n cp),
  spIf (q2 = true) (.int .i64 (n : Int)),
  spIf (q2 = true) (.bool r3),
  spEq (.bool q3),
  spEq (.bool q3),
  spIf (q3 = true) (.pointer (some ⟨B, 11, none⟩)),
  spIf (q3 = true) (.agg (M.extract 11 20)),
  spIf (q3 = true) (.bool r4),
  spEq (.bool q4),
  spEq (.bool q4),
  spIf (q4 = true) (.pointer (some ⟨B, 20, none⟩)),
  spIf (q4 = true) (.agg (M.extract 20 25)),
  spIf (q4 = true) (.bool r5),
  spEq (.bool q5),
  spEq (.bool q5),
  spIf (q5 = true) (.pointer (some ⟨B, 25, none⟩)),
  spIf (q5 = true) (.agg (M.extract 25 30)),
  spIf (q5 = true) (.bool r6),
  spEq (.bool q6),
  spEq (.bool q6),
  spIf (q6 = true) (.pointer (some ⟨B, 30, none⟩)),
  spIf (q6 = true) (.agg (M.extract 30 41)),
  spIf (q6 = true) (.bool r7),
  spEq (.bool q7),
  spEq (.bool q7),
  spIf (q7 = true) (.pointer (some ⟨B, 41, none⟩)),
  spIf (q7 = true) (.agg (M.extract 41 43)),
  spIf (q7 = true) (.bool r8),
  spEq (.bool q8),
  spEq (.bool q8),
  spIf (q8 = true) (.pointer (some ⟨B, 43, none⟩)),
  spIf (q8 = true) (.agg (M.extract 43 47)),
  spIf (q8 = true) (.bool r9),
  spEq (.bool q9),
  spEq (.bool q9),
  spIf (q9 = true) (.pointer (some ⟨B, 47, none⟩)),
  spIf (q9 = true) (.agg (M.extract 47 50)),
  spIf (q9 = true) (.bool r10),
  spEq (.bool q10),
  spEq (.bool q10),
  spIf (q10 = true) (.pointer (some ⟨B, 50, none⟩)),
  spIf (q10 = true) (.agg (M.extract 50 52)),
  spIf (q10 = true) (.bool r11),
  spEq (.bool q11),
  spEq (.bool q11)] (by kernel_rfl) (by kernel_rfl) (by kernel_rfl) (by decide +kernel) (by rw [zs']; decide +kernel) (.cons (spEq_mono _) (.cons (spEq_mono _) (.cons (spEq_mono _) (.cons (spEq_mono _) (.cons (spIf_mono _ _) (.cons (spIf_mono _ _) (.cons (spAt_mono (fun v w1 w2 ⟨X, d2, e, RX, x1, x2, x3⟩ g => ⟨X, d2, e, RX.on g, x1, x2, x3⟩)) (.cons (spIf_mono _ _) (.cons (spEq_mono _) (.cons (spEq_mono _) (.cons (spIf_mono _ _) (.cons (spIf_mono _ _) (.cons (spIf_mono _ _) (.cons (spIf_mono _ _) (.cons (spIf_mono _ _) (.cons (spIf_mono _ _) (.cons (spIf_mono _ _) (.cons (spIf_mono _ _) (.cons (spIf_mono _ _) (.cons (spIf_mono _ _) (.cons (spAt_mono (fun v w1 w2 ⟨gb, e, r⟩ g => ⟨gb, e, r.on g⟩)) (.cons (spIf_mono _ _) (.cons (spEq_mono _) (.cons (spEq_mono _) (.cons (spIf_mono _ _) (.cons (spIf_mono _ _) (.cons (spIf_mono _ _) (.cons (spIf_mono _ _) (.cons (spEq_mono _) (.cons (spEq_mono _) (.cons (spIf_mono _ _) (.cons (spIf_mono _ _) (.cons (spIf_mono _ _) (.cons (spEq_mono _) (.cons (spEq_mono _) (.cons (spIf_mono _ _) (.cons (spIf_mono _ _) (.cons (spIf_mono _ _) (.cons (spEq_mono _) (.cons (spEq_mono _) (.cons (spIf_mono _ _) (.cons (spIf_mono _ _) (.cons (spIf_mono _ _) (.cons (spEq_mono _) (.cons (spEq_mono _) (.cons (spIf_mono _ _) (.cons (spIf_mono _ _) (.cons (spIf_mono _ _) (.cons (spEq_mono _) (.cons (spEq_mono _) (.cons (spIf_mono _ _) (.cons (spIf_mono _ _) (.cons (spIf_mono _ _) (.cons (spEq_mono _) (.cons (spEq_mono _) (.cons (spIf_mono _ _) (.cons (spIf_mono _ _) (.cons (spIf_mono _ _) (.cons (spEq_mono _) (.cons (spEq_mono _) (.cons (spIf_mono _ _) (.cons (spIf_mono _ _) (.cons (spIf_mono _ _) (.cons (spEq_mono _) (.cons (spEq_mono _) (.cons (spIf_mono _ _) (.cons (spIf_mono _ _) (.cons (spIf_mono _ _) (.cons (spEq_mono _) (.cons (spEq_mono _) (.nil))))))))))))))))))))))))))))))))))))))))))))))))))))))))))))))))))))))) (show ∀ i, i < 70 → _ from below_step (n := 69) ?_ (below_step (n := 68) ?_ (below_step (n := 67) ?_ (below_step (n := 66) ?_ (below_step (n := 65) ?_ (below_step (n := 64) ?_ (below_step (n := 63) ?_ (below_step (n := 62) ?_ (below_step (n := 61) ?_ (below_step (n := 60) ?_ (below_step (n := 59) ?_ (below_step (n := 58) ?_ (below_step (n := 57) ?_ (below_step (n := 56) ?_ (below_step (n := 55) ?_ (below_step (n := 54) ?_ (below_step (n := 53) ?_ (below_step (n := 52) ?_ (below_step (n := 51) ?_ (below_step (n := 50) ?_ (below_step (n := 49) ?_ (below_step (n := 48) ?_ (below_step (n := 47) ?_ (below_step (n := 46) ?_ (below_step (n := 45) ?_ (below_step (n := 44) ?_ (below_step (n := 43) ?_ (below_step (n := 42) ?_ (below_step (n := 41) ?_ (below_step (n := 40) ?_ (below_step (n := 39) ?_ (below_step (n := 38) ?_ (below_step (n := 37) ?_ (below_step (n := 36) ?_ (below_step (n := 35) ?_ (below_step (n := 34) ?_ (below_step (n := 33) ?_ (below_step (n := 32) ?_ (below_step (n := 31) ?_ (below_step (n := 30) ?_ (below_step (n := 29) ?_ (below_step (n := 28) ?_ (below_step (n := 27) ?_ (below_step (n := 26) ?_ (below_step (n := 25) ?_ (below_step (n := 24) ?_ (below_step (n := 23) ?_ (below_step (n := 22) ?_ (below_step (n := 21) ?_ (below_step (n := 20) ?_ (below_step (n := 19) ?_ (below_step (n := 18) ?_ (below_step (n := 17) ?_ (below_step (n := 16) ?_ (below_step (n := 15) ?_ (below_step (n := 14) ?_ (below_step (n := 13) ?_ (below_step (n := 12) ?_ (below_step (n := 11) ?_ (below_step (n := 10) ?_ (below_step (n := 9) ?_ (below_step (n := 8) ?_ (below_step (n := 7) ?_ (below_step (n := 6) ?_ (below_step (n := 5) ?_ (below_step (n := 4) ?_ (below_step (n := 3) ?_ (below_step (n := 2) ?_ (below_step (n := 1) ?_ (below_step (n := 0) ?_ (below_nil))))))))))))))))))))))))))))))))))))))))))))))))))))))))))))))))))))))) ?_
 ·
  intro a W' g hr hp
  show SpecDo _ _ _ 69 2 (spEq (.bool q11)) a W'
  refine spec_plain (o := _) rfl rfl ?_
  have y71 : a.eval (.tmp 71) = .bool q11 := hp 68 (by rfl)
  exact wp_yield rfl (exec_assign rfl y71) (Wider.refl _) rfl
 ·
  intro a W' g hr hp
  show SpecDo _ _ _ 68 71 (spEq (.bool q11)) a W'
  refine spec_plain (o := _) rfl rfl ?_
  have y67 : a.eval (.tmp 67) = .bool q10 := hp 64 (by rfl)
  exact wp_yield rfl (exec_pick rfl y67 (fun h => ((show q10 = true → a.eval (.tmp 70) = .bool r11 from hp 67 (by rfl)) h).trans (and_to h e11)) (fun h => no_to h e11)) (Wider.refl _) rfl
 ·
  intro a W' g hr hp
  show SpecDo _ _ _ 67 70 (spIf (q10 = true) (.bool r11)) a W'
  have yg : a.eval (.tmp 67) = .bool q10 := hp 64 (by rfl)
  refine spec_guard (o := _) (og := _) (c := true) rfl rfl rfl rfl yg rfl (fun n h => absurd h n) (fun h => ?_)
  have y69 := (show q10 = true → a.eval (.tmp 69) = .agg (M.extract 50 52) from hp 66 (by rfl)) h
  refine wp_asks (f := 62) rfl rfl (args1 y69) (by kernel_rfl) ((zm7 _ (G.trans g)).mono ?_)
  rintro e w2 ⟨rfl, g2⟩
  exact ⟨_, rfl, g2, fun _ => rfl⟩
 ·
  intro a W' g hr hp
  show SpecDo _ _ _ 66 69 (spIf (q10 = true) (.agg (M.extract 50 52))) a W'
  have yg : a.eval (.tmp 67) = .bool q10 := hp 64 (by rfl)
  refine spec_guard (o := _) (og := _) (c := true) rfl rfl rfl rfl yg rfl (fun n h => absurd h n) (fun h => ?_)
  have y68 := (show q10 = true → a.eval (.tmp 68) = .pointer (some ⟨B, 50, none⟩) from hp 65 (by rfl)) h
  exact wp_yield rfl (exec_part 49 (.tmp 68) rfl B 50 2 52 rfl y68 _ (wide_blk hA g) (by rw [sM]; decide) Tryz.underlying49 rfl (by kernel_rfl)) (Wider.refl _) (fun _ => rfl)
 ·
  intro a W' g hr hp
  show SpecDo _ _ _ 65 68 (spIf (q10 = true) (.pointer (some ⟨B, 50, none⟩))) a W'
  have yg : a.eval (.tmp 67) = .bool q10 := hp 64 (by rfl)
  refine spec_guard (o := _) (og := _) (c := true) rfl rfl rfl rfl yg rfl (fun n h => absurd h n) (fun h => ?_)
  have y1 : a.eval (.tmp 1) = .pointer (some ⟨B, 0, none⟩) := (hr 1 (by decide)).trans z1
  exact wp_yield rfl (exec_field 51 (.tmp 1) 18 rfl B 0 50 y1 (fieldM18 _)) (Wider.refl _) (fun _ => rfl)
 ·
  intro a W' g hr hp
  show SpecDo _ _ _ 64 67 (spEq (.bool q10)) a W'
  refine spec_plain (o := _) rfl rfl ?_
  have y66 : a.eval (.tmp 66) = .bool q10 := hp 63 (by rfl)
  exact wp_yield rfl (exec_move rfl y66) (Wider.refl _) rfl
 ·
  intro a W' g hr hp
  show SpecDo _ _ _ 63 66 (spEq (.bool q10)) a W'
  refine spec_plain (o := _) rfl rfl ?_
  have y62 : a.eval (.tmp 62) = .bool q9 := hp 59 (by rfl)
  exact wp_yield rfl (exec_pick rfl y62 (fun h => ((show q9 = true → a.eval (.tmp 65) = .bool r10 from hp 62 (by rfl)) h).trans (and_to h e10)) (fun h => no_to h e10)) (Wider.refl _) rfl
 ·
  intro a W' g hr hp
  show SpecDo _ _ _ 62 65 (spIf (q9 = true) (.bool r10)) a W'
  have yg : a.eval (.tmp 62) = .bool q9 := hp 59 (by rfl)
  refine spec_guard (o := _) (og := _) (c := true) rfl rfl rfl rfl yg rfl (fun n h => absurd h n) (fun h => ?_)
  have y64 := (show q9 = true → a.eval (.tmp 64) = .agg (M.extract 47 50) from hp 61 (by rfl)) h
  refine wp_asks (f := 61) rfl rfl (args1 y64) (by kernel_rfl) ((zm6 _ (G.trans g)).mono ?_)
  rintro e w2 ⟨rfl, g2⟩
  exact ⟨_, rfl, g2, fun _ => rfl⟩
 ·
  intro a W' g hr hp
  show SpecDo _ _ _ 61 64 (spIf (q9 = true) (.agg (M.extract 47 50))) a W'
  have yg : a.eval (.tmp 62) = .bool q9 := hp 59 (by rfl)
  refine spec_guard (o := _) (og := _) (c := true) rfl rfl rfl rfl yg rfl (fun n h => absurd h n) (fun h => ?_)
  have y63 := (show q9 = true → a.eval (.tmp 63) = .pointer (some ⟨B, 47, none⟩) from hp 60 (by rfl)) h
  exact wp_yield rfl (exec_part 47 (.tmp 63) rfl B 47 3 50 rfl y63 _ (wide_blk hA g) (by rw [sM]; decide) Tryz.underlying47 rfl (by kernel_rfl)) (Wider.refl _) (fun _ => rfl)
 ·
  intro a W' g hr hp
  show SpecDo _ _ _ 60 63 (spIf (q9 = true) (.pointer (some ⟨B, 47, none⟩))) a W'
  have yg : a.eval (.tmp 62) = .bool q9 := hp 59 (by rfl)
  refine spec_guard (o := _) (og := _) (c := true) rfl rfl rfl rfl yg rfl (fun n h => absurd h n) (fun h => ?_)
  have y1 : a.eval (.tmp 1) = .pointer (some ⟨B, 0, none⟩) := (hr 1 (by decide)).trans z1
  exact wp_yield rfl (exec_field 51 (.tmp 1) 17 rfl B 0 47 y1 (fieldM17 _)) (Wider.refl _) (fun _ => rfl)
 ·
  intro a W' g hr hp
  show SpecDo _ _ _ 59 62 (spEq (.bool q9)) a W'
  refine spec_plain (o := _) rfl rfl ?_
  have y61 : a.eval (.tmp 61) = .bool q9 := hp 58 (by rfl)
  exact wp_yield rfl (exec_move rfl y61) (Wider.refl _) rfl
 ·
  intro a W' g hr hp
  show SpecDo _ _ _ 58 61 (spEq (.bool q9)) a W'
  refine spec_plain (o := _) rfl rfl ?_
  have y57 : a.eval (.tmp 57) = .bool q8 := hp 54 (by rfl)
  exact wp_yield rfl (exec_pick rfl y57 (fun h => ((show q8 = true → a.eval (.tmp 60) = .bool r9 from hp 57 (by rfl)) h).trans (and_to h e9)) (fun h => no_to h e9)) (Wider.refl _) rfl
 ·
  intro a W' g hr hp
  show SpecDo _ _ _ 57 60 (spIf (q8 = true) (.bool r9)) a W'
  have yg : a.eval (.tmp 57) = .bool q8 := hp 54 (by rfl)
  refine spec_guard (o := _) (og := _) (c := true) rfl rfl rfl rfl yg rfl (fun n h => absurd h n) (fun h => ?_)
  have y59 := (show q8 = true → a.eval (.tmp 59) = .agg (M.extract 43 47) from hp 56 (by rfl)) h
  refine wp_asks (f := 60) rfl rfl (args1 y59) (by kernel_rfl) ((zm5 _ (G.trans g)).mono ?_)
  rintro e w2 ⟨rfl, g2⟩
  exact ⟨_, rfl, g2, fun _ => rfl⟩
 ·
  intro a W' g hr hp
  show SpecDo _ _ _ 56 59 (spIf (q8 = true) (.agg (M.extract 43 47))) a W'
  have yg : a.eval (.tmp 57) = .bool q8 := hp 54 (by rfl)
  refine spec_guard (o := _) (og := _) (c := true) rfl rfl rfl rfl yg rfl (fun n h => absurd h n) (fun h => ?_)
  have y58 := (show q8 = true → a.eval (.tmp 58) = .pointer (some ⟨B, 43, none⟩) from hp 55 (by rfl)) h
  exact wp_yield rfl (exec_part 45 (.tmp 58) rfl B 43 4 47 rfl y58 _ (wide_blk hA g) (by rw [sM]; decide) Tryz.underlying45 rfl (by kernel_rfl)) (Wider.refl _) (fun _ => rfl)
 ·
  intro a W' g hr hp
  show SpecDo _ _ _ 55 58 (spIf (q8 = true) (.pointer (some ⟨B, 43, none⟩))) a W'
  have yg : a.eval (.tmp 57) = .bool q8 := hp 54 (by rfl)
  refine spec_guard (o := _) (og := _) (c := true) rfl rfl rfl rfl yg rfl (fun n h => absurd h n) (fun h => ?_)
  have y1 : a.eval (.tmp 1) = .pointer (some ⟨B, 0, none⟩) := (hr 1 (by decide)).trans z1
  exact wp_yield rfl (exec_field 51 (.tmp 1) 16 rfl B 0 43 y1 (fieldM16 _)) (Wider.refl _) (fun _ => rfl)
 ·
  intro a W' g hr hp
  show SpecDo _ _ _ 54 57 (spEq (.bool q8)) a W'
  refine spec_plain (o := _) rfl rfl ?_
  have y56 : a.eval (.tmp 56) = .bool q8 := hp 53 (by rfl)
  exact wp_yield rfl (exec_move rfl y56) (Wider.refl _) rfl
 ·
  intro a W' g hr hp
  show SpecDo _ _ _ 53 56 (spEq (.bool q8)) a W'
  refine spec_plain (o := _) rfl rfl ?_
  have y52 : a.eval (.tmp 52) = .bool q7 := hp 49 (by rfl)
  exact wp_yield rfl (exec_pick rfl y52 (fun h => ((show q7 = true → a.eval (.tmp 55) = .bool r8 from hp 52 (by rfl)) h).trans (and_to h e8)) (fun h => no_to h e8)) (Wider.refl _) rfl
 ·
  intro a W' g hr hp
  show SpecDo _ _ _ 52 55 (spIf (q7 = true) (.bool r8)) a W'
  have yg : a.eval (.tmp 52) = .bool q7 := hp 49 (by rfl)
  refine spec_guard (o := _) (og := _) (c := true) rfl rfl rfl rfl yg rfl (fun n h => absurd h n) (fun h => ?_)
  have y54 := (show q7 = true → a.eval (.tmp 54) = .agg (M.extract 41 43) from hp 51 (by rfl)) h
  refine wp_asks (f := 59) rfl rfl (args1 y54) (by kernel_rfl) ((zm4 _ (G.trans g)).mono ?_)
  rintro e w2 ⟨rfl, g2⟩
  exact ⟨_, rfl, g2, fun _ => rfl⟩
 ·
  intro a W' g hr hp
  show SpecDo _ _ _ 51 54 (spIf (q7 = true) (.agg (M.extract 41 43))) a W'
  have yg : a.eval (.tmp 52) = .bool q7 := hp 49 (by rfl)
  refine spec_guard (o := _) (og := _) (c := true) rfl rfl rfl rfl yg rfl (fun n h => absurd h n) (fun h => ?_)
  have y53 := (show q7 = true → a.eval (.tmp 53) = .pointer (some ⟨B, 41, none⟩) from hp 50 (by rfl)) h
  exact wp_yield rfl (exec_part 42 (.tmp 53) rfl B 41 2 43 rfl y53 _ (wide_blk hA g) (by rw [sM]; decide) Tryz.underlying42 rfl (by kernel_rfl)) (Wider.refl _) (fun _ => rfl)
 ·
  intro a W' g hr hp
  show SpecDo _ _ _ 50 53 (spIf (q7 = true) (.pointer (some ⟨B, 41, none⟩))) a W'
  have yg : a.eval (.tmp 52) = .bool q7 := hp 49 (by rfl)
  refine spec_guard (o := _) (og := _) (c := true) rfl rfl rfl rfl yg rfl (fun n h => absurd h n) (fun h => ?_)
  have y1 : a.eval (.tmp 1) = .pointer (some ⟨B, 0, none⟩) := (hr 1 (by decide)).trans z1
  exact wp_yield rfl (exec_field 51 (.tmp 1) 15 rfl B 0 41 y1 (fieldM15 _)) (Wider.refl _) (fun _ => rfl)
 ·
  intro a W' g hr hp
  show SpecDo _ _ _ 49 52 (spEq (.bool q7)) a W'
  refine spec_plain (o := _) rfl rfl ?_
  have y51 : a.eval (.tmp 51) = .bool q7 := hp 48 (by rfl)
  exact wp_yield rfl (exec_move rfl y51) (Wider.refl _) rfl
 ·
  intro a W' g hr hp
  show SpecDo _ _ _ 48 51 (spEq (.bool q7)) a W'
  refine spec_plain (o := _) rfl rfl ?_
  have y47 : a.eval (.tmp 47) = .bool q6 := hp 44 (by rfl)
  exact wp_yield rfl (exec_pick rfl y47 (fun h => ((show q6 = true → a.eval (.tmp 50) = .bool r7 from hp 47 (by rfl)) h).trans (and_to h e7)) (fun h => no_to h e7)) (Wider.refl _) rfl
 ·
  intro a W' g hr hp
  show SpecDo _ _ _ 47 50 (spIf (q6 = true) (.bool r7)) a W'
  have yg : a.eval (.tmp 47) = .bool q6 := hp 44 (by rfl)
  refine spec_guard (o := _) (og := _) (c := true) rfl rfl rfl rfl yg rfl (fun n h => absurd h n) (fun h => ?_)
  have y49 := (show q6 = true → a.eval (.tmp 49) = .agg (M.extract 30 41) from hp 46 (by rfl)) h
  refine wp_asks (f := 58) rfl rfl (args1 y49) (by kernel_rfl) ((zm3 _ (G.trans g)).mono ?_)
  rintro e w2 ⟨rfl, g2⟩
  exact ⟨_, rfl, g2, fun _ => rfl⟩
 ·
  intro a W' g hr hp
  show SpecDo _ _ _ 46 49 (spIf (q6 = true) (.agg (M.extract 30 41))) a W'
  have yg : a.eval (.tmp 47) = .bool q6 := hp 44 (by rfl)
  refine spec_guard (o := _) (og := _) (c := true) rfl rfl rfl rfl yg rfl (fun n h => absurd h n) (fun h => ?_)
  have y48 := (show q6 = true → a.eval (.tmp 48) = .pointer (some ⟨B, 30, none⟩) from hp 45 (by rfl)) h
  exact wp_yield rfl (exec_part 39 (.tmp 48) rfl B 30 11 41 rfl y48 _ (wide_blk hA g) (by rw [sM]; decide) Tryz.underlying39 rfl (by kernel_rfl)) (Wider.refl _) (fun _ => rfl)
 ·
  intro a W' g hr hp
  show SpecDo _ _ _ 45 48 (spIf (q6 = true) (.pointer (some ⟨B, 30, none⟩))) a W'
  have yg : a.eval (.tmp 47) = .bool q6 := hp 44 (by rfl)
  refine spec_guard (o := _) (og := _) (c := true) rfl rfl rfl rfl yg rfl (fun n h => absurd h n) (fun h => ?_)
  have y1 : a.eval (.tmp 1) = .pointer (some ⟨B, 0, none⟩) := (hr 1 (by decide)).trans z1
  exact wp_yield rfl (exec_field 51 (.tmp 1) 14 rfl B 0 30 y1 (fieldM14 _)) (Wider.refl _) (fun _ => rfl)
 ·
  intro a W' g hr hp
  show SpecDo _ _ _ 44 47 (spEq (.bool q6)) a W'
  refine spec_plain (o := _) rfl rfl ?_
  have y46 : a.eval (.tmp 46) = .bool q6 := hp 43 (by rfl)
  exact wp_yield rfl (exec_move rfl y46) (Wider.refl _) rfl
 ·
  intro a W' g hr hp
  show SpecDo _ _ _ 43 46 (spEq (.bool q6)) a W'
  refine spec_plain (o := _) rfl rfl ?_
  have y42 : a.eval (.tmp 42) = .bool q5 := hp 39 (by rfl)
  exact wp_yield rfl (exec_pick rfl y42 (fun h => ((show q5 = true → a.eval (.tmp 45) = .bool r6 from hp 42 (by rfl)) h).trans (and_to h e6)) (fun h => no_to h e6)) (Wider.refl _) rfl
 ·
  intro a W' g hr hp
  show SpecDo _ _ _ 42 45 (spIf (q5 = true) (.bool r6)) a W'
  have yg : a.eval (.tmp 42) = .bool q5 := hp 39 (by rfl)
  refine spec_guard (o := _) (og := _) (c := true) rfl rfl rfl rfl yg rfl (fun n h => absurd h n) (fun h => ?_)
  have y44 := (show q5 = true → a.eval (.tmp 44) = .agg (M.extract 25 30) from hp 41 (by rfl)) h
  refine wp_asks (f := 57) rfl rfl (args1 y44) (by kernel_rfl) ((zm2 _ (G.trans g)).mono ?_)
  rintro e w2 ⟨rfl, g2⟩
  exact ⟨_, rfl, g2, fun _ => rfl⟩
 ·
  intro a W' g hr hp
  show SpecDo _ _ _ 41 44 (spIf (q5 = true) (.agg (M.extract 25 30))) a W'
  have yg : a.eval (.tmp 42) = .bool q5 := hp 39 (by rfl)
  refine spec_guard (o := _) (og := _) (c := true) rfl rfl rfl rfl yg rfl (fun n h => absurd h n) (fun h => ?_)
  have y43 := (show q5 = true → a.eval (.tmp 43) = .pointer (some ⟨B, 25, none⟩) from hp 40 (by rfl)) h
  exact wp_yield rfl (exec_part 37 (.tmp 43) rfl B 25 5 30 rfl y43 _ (wide_blk hA g) (by rw [sM]; decide) Tryz.underlying37 rfl (by kernel_rfl)) (Wider.refl _) (fun _ => rfl)
 ·
  intro a W' g hr hp
  show SpecDo _ _ _ 40 43 (spIf (q5 = true) (.pointer (some ⟨B, 25, none⟩))) a W'
  have yg : a.eval (.tmp 42) = .bool q5 := hp 39 (by rfl)
  refine spec_guard (o := _) (og := _) (c := true) rfl rfl rfl rfl yg rfl (fun n h => absurd h n) (fun h => ?_)
  have y1 : a.eval (.tmp 1) = .pointer (some ⟨B, 0, none⟩) := (hr 1 (by decide)).trans z1
  exact wp_yield rfl (exec_field 51 (.tmp 1) 13 rfl B 0 25 y1 (fieldM13 _)) (Wider.refl _) (fun _ => rfl)
 ·
  intro a W' g hr hp
  show SpecDo _ _ _ 39 42 (spEq (.bool q5)) a W'
  refine spec_plain (o := _) rfl rfl ?_
  have y41 : a.eval (.tmp 41) = .bool q5 := hp 38 (by rfl)
  exact wp_yield rfl (exec_move rfl y41) (Wider.refl _) rfl
 ·
  intro a W' g hr hp
  show SpecDo _ _ _ 38 41 (spEq (.bool q5)) a W'
  refine spec_plain (o := _) rfl rfl ?_
  have y37 : a.eval (.tmp 37) = .bool q4 := hp 34 (by rfl)
  exact wp_yield rfl (exec_pick rfl y37 (fun h => ((show q4 = true → a.eval (.tmp 40) = .bool r5 from hp 37 (by rfl)) h).trans (and_to h e5)) (fun h => no_to h e5)) (Wider.refl _) rfl
 ·
  intro a W' g hr hp
  show SpecDo _ _ _ 37 40 (spIf (q4 = true) (.bool r5)) a W'
  have yg : a.eval (.tmp 37) = .bool q4 := hp 34 (by rfl)
  refine spec_guard (o := _) (og := _) (c := true) rfl rfl rfl rfl yg rfl (fun n h => absurd h n) (fun h => ?_)
  have y39 := (show q4 = true → a.eval (.tmp 39) = .agg (M.extract 20 25) from hp 36 (by rfl)) h
  refine wp_asks (f := 56) rfl rfl (args1 y39) (by kernel_rfl) ((zm1 _ (G.trans g)).mono ?_)
  rintro e w2 ⟨rfl, g2⟩
  exact ⟨_, rfl, g2, fun _ => rfl⟩
 ·
  intro a W' g hr hp
  show SpecDo _ _ _ 36 39 (spIf (q4 = true) (.agg (M.extract 20 25))) a W'
  have yg : a.eval (.tmp 37) = .bool q4 := hp 34 (by rfl)
  refine spec_guard (o := _) (og := _) (c := true) rfl rfl rfl rfl yg rfl (fun n h => absurd h n) (fun h => ?_)
  have y38 := (show q4 = true → a.eval (.tmp 38) = .pointer (some ⟨B, 20, none⟩) from hp 35 (by rfl)) h
  exact wp_yield rfl (exec_part 34 (.tmp 38) rfl B 20 5 25 rfl y38 _ (wide_blk hA g) (by rw [sM]; decide) Tryz.underlying34 rfl (by kernel_rfl)) (Wider.refl _) (fun _ => rfl)
 ·
  intro a W' g hr hp
  show SpecDo _ _ _ 35 38 (spIf (q4 = true) (.pointer (some ⟨B, 20, none⟩))) a W'
  have yg : a.eval (.tmp 37) = .bool q4 := hp 34 (by rfl)
  refine spec_guard (o := _) (og := _) (c := true) rfl rfl rfl rfl yg rfl (fun n h => absurd h n) (fun h => ?_)
  have y1 : a.eval (.tmp 1) = .pointer (some ⟨B, 0, none⟩) := (hr 1 (by decide)).trans z1
  exact wp_yield rfl (exec_field 51 (.tmp 1) 12 rfl B 0 20 y1 (fieldM12 _)) (Wider.refl _) (fun _ => rfl)
 ·
  intro a W' g hr hp
  show SpecDo _ _ _ 34 37 (spEq (.bool q4)) a W'
  refine spec_plain (o := _) rfl rfl ?_
  have y36 : a.eval (.tmp 36) = .bool q4 := hp 33 (by rfl)
  exact wp_yield rfl (exec_move rfl y36) (Wider.refl _) rfl
 ·
  intro a W' g hr hp
  show SpecDo _ _ _ 33 36 (spEq (.bool q4)) a W'
  refine spec_plain (o := _) rfl rfl ?_
  have y32 : a.eval (.tmp 32) = .bool q3 := hp 29 (by rfl)
  exact wp_yield rfl (exec_pick rfl y32 (fun h => ((show q3 = true → a.eval (.tmp 35) = .bool r4 from hp 32 (by rfl)) h).trans (and_to h e4)) (fun h => no_to h e4)) (Wider.refl _) rfl
 ·
  intro a W' g hr hp
  show SpecDo _ _ _ 32 35 (spIf (q3 = true) (.bool r4)) a W'
  have yg : a.eval (.tmp 32) = .bool q3 := hp 29 (by rfl)
  refine spec_guard (o := _) (og := _) (c := true) rfl rfl rfl rfl yg rfl (fun n h => absurd h n) (fun h => ?_)
  have y34 := (show q3 = true → a.eval (.tmp 34) = .agg (M.extract 11 20) from hp 31 (by rfl)) h
  refine wp_asks (f := 55) rfl rfl (args1 y34) (by kernel_rfl) ((zm0 _ (G.trans g)).mono ?_)
  rintro e w2 ⟨rfl, g2⟩
  exact ⟨_, rfl, g2, fun _ => rfl⟩
 ·
  intro a W' g hr hp
  show SpecDo _ _ _ 31 34 (spIf (q3 = true) (.agg (M.extract 11 20))) a W'
  have yg : a.eval (.tmp 32) = .bool q3 := hp 29 (by rfl)
  refine spec_guard (o := _) (og := _) (c := true) rfl rfl rfl rfl yg rfl (fun n h => absurd h n) (fun h => ?_)
  have y33 := (show q3 = true → a.eval (.tmp 33) = .pointer (some ⟨B, 11, none⟩) from hp 30 (by rfl)) h
  exact wp_yield rfl (exec_part 32 (.tmp 33) rfl B 11 9 20 rfl y33 _ (wide_blk hA g) (by rw [sM]; decide) Tryz.underlying32 rfl (by kernel_rfl)) (Wider.refl _) (fun _ => rfl)
 ·
  intro a W' g hr hp
  show SpecDo _ _ _ 30 33 (spIf (q3 = true) (.pointer (some ⟨B, 11, none⟩))) a W'
  have yg : a.eval (.tmp 32) = .bool q3 := hp 29 (by rfl)
  refine spec_guard (o := _) (og := _) (c := true) rfl rfl rfl rfl yg rfl (fun n h => absurd h n) (fun h => ?_)
  have y1 : a.eval (.tmp 1) = .pointer (some ⟨B, 0, none⟩) := (hr 1 (by decide)).trans z1
  exact wp_yield rfl (exec_field 51 (.tmp 1) 11 rfl B 0 11 y1 (fieldM11 _)) (Wider.refl _) (fun _ => rfl)
 ·
  intro a W' g hr hp
  show SpecDo _ _ _ 29 32 (spEq (.bool q3)) a W'
  refine spec_plain (o := _) rfl rfl ?_
  have y31 : a.eval (.tmp 31) = .bool q3 := hp 28 (by rfl)
  exact wp_yield rfl (exec_move rfl y31) (Wider.refl _) rfl
 ·
  intro a W' g hr hp
  show SpecDo _ _ _ 28 31 (spEq (.bool q3)) a W'
  refine spec_plain (o := _) rfl rfl ?_
  have y26 : a.eval (.tmp 26) = .bool q2 := hp 23 (by rfl)
  exact wp_yield rfl (exec_pick rfl y26 (fun h => ((show q2 = true → a.eval (.tmp 30) = .bool r3 from hp 27 (by rfl)) h).trans (and_to h e3)) (fun h => no_to h e3)) (Wider.refl _) rfl
 ·
  intro a W' g hr hp
  show SpecDo _ _ _ 27 30 (spIf (q2 = true) (.bool r3)) a W'
  have yg : a.eval (.tmp 26) = .bool q2 := hp 23 (by rfl)
  refine spec_guard (o := _) (og := _) (c := true) rfl rfl rfl rfl yg rfl (fun n h => absurd h n) (fun h => ?_)
  have y29 := (show q2 = true → a.eval (.tmp 29) = .int .i64 (n : Int) from hp 26 (by rfl)) h
  replace y29 := evalD y29
  refine wp_k (a' := a.put (some 30) (.bool r3)) (w' := W') ⟨_, rfl, Wider.refl _, fun _ => rfl⟩ ?_
  intro K' hK'
  go_simp
  exact hK'
 ·
  intro a W' g hr hp
  show SpecDo _ _ _ 26 29 (spIf (q2 = true) (.int .i64 (n : Int))) a W'
  have yg : a.eval (.tmp 26) = .bool q2 := hp 23 (by rfl)
  refine spec_guard (o := _) (og := _) (c := true) rfl rfl rfl rfl yg rfl (fun n h => absurd h n) (fun h => ?_)
  have y28 := (show q2 = true → a.eval (.tmp 28) = .slice A n cp from hp 25 (by rfl)) h
  replace y28 := evalD y28
  refine wp_k (a' := a.put (some 29) (.int .i64 (n : Int))) (w' := W') ⟨_, rfl, Wider.refl _, fun _ => rfl⟩ ?_
  intro K' hK'
  go_simp
  exact hK'
 ·
  intro a W' g hr hp
  show SpecDo _ _ _ 25 28 (spIf (q2 = true) (.slice A n cp)) a W'
  have yg : a.eval (.tmp 26) = .bool q2 := hp 23 (by rfl)
  refine spec_guard (o := _) (og := _) (c := true) rfl rfl rfl rfl yg rfl (fun n h => absurd h n) (fun h => ?_)
  have y27 := (show q2 = true → a.eval (.tmp 27) = .pointer (some ⟨B, 10, none⟩) from hp 24 (by rfl)) h
  exact wp_yield rfl (exec_cell 29 (.tmp 27) rfl B 10 y27 (k10 W' g) _ Tryz.underlying29 rfl) (Wider.refl _) (fun _ => rfl)
 ·
  intro a W' g hr hp
  show SpecDo _ _ _ 24 27 (spIf (q2 = true) (.pointer (some ⟨B, 10, none⟩))) a W'
  have yg : a.eval (.tmp 26) = .bool q2 := hp 23 (by rfl)
  refine spec_guard (o := _) (og := _) (c := true) rfl rfl rfl rfl yg rfl (fun n h => absurd h n) (fun h => ?_)
  have y1 : a.eval (.tmp 1) = .pointer (some ⟨B, 0, none⟩) := (hr 1 (by decide)).trans z1
  exact wp_yield rfl (exec_field 51 (.tmp 1) 10 rfl B 0 10 y1 (fieldM10 _)) (Wider.refl _) (fun _ => rfl)
 ·
  intro a W' g hr hp
  show SpecDo _ _ _ 23 26 (spEq (.bool q2)) a W'
  refine spec_plain (o := _) rfl rfl ?_
  have y25 : a.eval (.tmp 25) = .bool q2 := hp 22 (by rfl)
  exact wp_yield rfl (exec_move rfl y25) (Wider.refl _) rfl
 ·
  intro a W' g hr hp
  show SpecDo _ _ _ 22 25 (spEq (.bool q2)) a W'
  refine spec_plain (o := _) rfl rfl ?_
  have y12 : a.eval (.tmp 12) = .bool q1 := hp 9 (by rfl)
  exact wp_yield rfl (exec_pick rfl y12 (fun h => ((show q1 = true → a.eval (.tmp 24) = .bool r2 from hp 21 (by rfl)) h).trans (and_to h e2)) (fun h => no_to h e2)) (Wider.refl _) rfl
 ·
  intro a W' g hr hp
  show SpecDo _ _ _ 21 24 (spIf (q1 = true) (.bool r2)) a W'
  have yg : a.eval (.tmp 12) = .bool q1 := hp 9 (by rfl)
  refine spec_guard (o := _) (og := _) (c := true) rfl rfl rfl rfl yg rfl (fun n h => absurd h n) (fun h => ?_)
  have y23 := (show q1 = true → (fun v w' => ∃ gb, v = .slice (some ⟨gb, 0, none⟩) 5 5 ∧ RowAt w' (some ⟨gb, 0, none⟩) 1 (rowsI .i64 [d.id, d.idx, d.code, d.port, d.tag])) (a.eval (.tmp 23)) W' from hp 20 (by rfl)) h
  obtain ⟨gb, y23, ri⟩ := y23
  refine wp_asks (f := 54) rfl rfl (args1 y23) (by kernel_rfl) ((oint_c (n := 5) (c := 5) ri rfl (by decide) HI2.out).mono ?_)
  rintro e w2 ⟨rfl, g2⟩
  exact ⟨_, rfl, g2, fun _ => rfl⟩
 ·
  intro a W' g hr hp
  show SpecDo _ _ _ 20 23 (spAt (q1 = true) (fun v w' => ∃ gb, v = .slice (some ⟨gb, 0, none⟩) 5 5 ∧ RowAt w' (some ⟨gb, 0, none⟩) 1 (rowsI .i64 [d.id, d.idx, d.code, d.port, d.tag]))) a W'
  have yg : a.eval (.tmp 12) = .bool q1 := hp 9 (by rfl)
  refine spec_guard (o := _) (og := _) (c := true) rfl rfl rfl rfl yg rfl (fun n h => absurd h n) (fun h => ?_)
  have y14 := (show q1 = true → a.eval (.tmp 14) = .int .i64 d.id from hp 11 (by rfl)) h
  have y16 := (show q1 = true → a.eval (.tmp 16) = .int .i64 d.idx from hp 13 (by rfl)) h
  have y18 := (show q1 = true → a.eval (.tmp 18) = .int .i64 d.code from hp 15 (by rfl)) h
  have y20 := (show q1 = true → a.eval (.tmp 20) = .int .i64 d.port from hp 17 (by rfl)) h
  have y22 := (show q1 = true → a.eval (.tmp 22) = .int .i64 d.tag from hp 19 (by rfl)) h
  replace y14 := evalD y14
  replace y16 := evalD y16
  replace y18 := evalD y18
  replace y20 := evalD y20
  replace y22 := evalD y22
  refine wp_k (a' := a.put (some 23) (.slice (some ⟨W'.heap.size, 0, none⟩) 5 5)) (w' := W'.alloc (.cells #[.int .i64 d.id, .int .i64 d.idx, .int .i64 d.code, .int .i64 d.port, .int .i64 d.tag] 3)) ⟨_, rfl, (Wider.refl W').alloc _, fun _ => ⟨_, rfl, rowI_new W' [d.id, d.idx, d.code, d.port, d.tag] 3 #[.int .i64 d.id, .int .i64 d.idx, .int .i64 d.code, .int .i64 d.port, .int .i64 d.tag] rfl⟩⟩ ?_
  intro K' hK'
  go_simp
  exact hK'
 ·
  intro a W' g hr hp
  show SpecDo _ _ _ 19 22 (spIf (q1 = true) (.int .i64 d.tag)) a W'
  have yg : a.eval (.tmp 12) = .bool q1 := hp 9 (by rfl)
  refine spec_guard (o := _) (og := _) (c := true) rfl rfl rfl rfl yg rfl (fun n h => absurd h n) (fun h => ?_)
  have y21 := (show q1 = true → a.eval (.tmp 21) = .pointer (some ⟨B, 6, none⟩) from hp 18 (by rfl)) h
  exact wp_yield rfl (exec_cell 3 (.tmp 21) rfl B 6 y21 (k6 W' g) _ Tryz.underlying3 rfl) (Wider.refl _) (fun _ => rfl)
 ·
  intro a W' g hr hp
  show SpecDo _ _ _ 18 21 (spIf (q1 = true) (.pointer (some ⟨B, 6, none⟩))) a W'
  have yg : a.eval (.tmp 12) = .bool q1 := hp 9 (by rfl)
  refine spec_guard (o := _) (og := _) (c := true) rfl rfl rfl rfl yg rfl (fun n h => absurd h n) (fun h => ?_)
  have y1 : a.eval (.tmp 1) = .pointer (some ⟨B, 0, none⟩) := (hr 1 (by decide)).trans z1
  exact wp_yield rfl (exec_field 51 (.tmp 1) 6 rfl B 0 6 y1 (fieldM6 _)) (Wider.refl _) (fun _ => rfl)
 ·
  intro a W' g hr hp
  show SpecDo _ _ _ 17 20 (spIf (q1 = true) (.int .i64 d.port)) a W'
  have yg : a.eval (.tmp 12) = .bool q1 := hp 9 (by rfl)
  refine spec_guard (o := _) (og := _) (c := true) rfl rfl rfl rfl yg rfl (fun n h => absurd h n) (fun h => ?_)
  have y19 := (show q1 = true → a.eval (.tmp 19) = .pointer (some ⟨B, 5, none⟩) from hp 16 (by rfl)) h
  exact wp_yield rfl (exec_cell 3 (.tmp 19) rfl B 5 y19 (k5 W' g) _ Tryz.underlying3 rfl) (Wider.refl _) (fun _ => rfl)
 ·
  intro a W' g hr hp
  show SpecDo _ _ _ 16 19 (spIf (q1 = true) (.pointer (some ⟨B, 5, none⟩))) a W'
  have yg : a.eval (.tmp 12) = .bool q1 := hp 9 (by rfl)
  refine spec_guard (o := _) (og := _) (c := true) rfl rfl rfl rfl yg rfl (fun n h => absurd h n) (fun h => ?_)
  have y1 : a.eval (.tmp 1) = .pointer (some ⟨B, 0, none⟩) := (hr 1 (by decide)).trans z1
  exact wp_yield rfl (exec_field 51 (.tmp 1) 5 rfl B 0 5 y1 (fieldM5 _)) (Wider.refl _) (fun _ => rfl)
 ·
  intro a W' g hr hp
  show SpecDo _ _ _ 15 18 (spIf (q1 = true) (.int .i64 d.code)) a W'
  have yg : a.eval (.tmp 12) = .bool q1 := hp 9 (by rfl)
  refine spec_guard (o := _) (og := _) (c := true) rfl rfl rfl rfl yg rfl (fun n h => absurd h n) (fun h => ?_)
  have y17 := (show q1 = true → a.eval (.tmp 17) = .pointer (some ⟨B, 4, none⟩) from hp 14 (by rfl)) h
  exact wp_yield rfl (exec_cell 3 (.tmp 17) rfl B 4 y17 (k4 W' g) _ Tryz.underlying3 rfl) (Wider.refl _) (fun _ => rfl)
 ·
  intro a W' g hr hp
  show SpecDo _ _ _ 14 17 (spIf (q1 = true) (.pointer (some ⟨B, 4, none⟩))) a W'
  have yg : a.eval (.tmp 12) = .bool q1 := hp 9 (by rfl)
  refine spec_guard (o := _) (og := _) (c := true) rfl rfl rfl rfl yg rfl (fun n h => absurd h n) (fun h => ?_)
  have y1 : a.eval (.tmp 1) = .pointer (some ⟨B, 0, none⟩) := (hr 1 (by decide)).trans z1
  exact wp_yield rfl (exec_field 51 (.tmp 1) 4 rfl B 0 4 y1 (fieldM4 _)) (Wider.refl _) (fun _ => rfl)
 ·
  intro a W' g hr hp
  show SpecDo _ _ _ 13 16 (spIf (q1 = true) (.int .i64 d.idx)) a W'
  have yg : a.eval (.tmp 12) = .bool q1 := hp 9 (by rfl)
  refine spec_guard (o := _) (og := _) (c := true) rfl rfl rfl rfl yg rfl (fun n h => absurd h n) (fun h => ?_)
  have y15 := (show q1 = true → a.eval (.tmp 15) = .pointer (some ⟨B, 3, none⟩) from hp 12 (by rfl)) h
  exact wp_yield rfl (exec_cell 3 (.tmp 15) rfl B 3 y15 (k3 W' g) _ Tryz.underlying3 rfl) (Wider.refl _) (fun _ => rfl)
 ·
  intro a W' g hr hp
  show SpecDo _ _ _ 12 15 (spIf (q1 = true) (.pointer (some ⟨B, 3, none⟩))) a W'
  have yg : a.eval (.tmp 12) = .bool q1 := hp 9 (by rfl)
  refine spec_guard (o := _) (og := _) (c := true) rfl rfl rfl rfl yg rfl (fun n h => absurd h n) (fun h => ?_)
  have y1 : a.eval (.tmp 1) = .pointer (some ⟨B, 0, none⟩) := (hr 1 (by decide)).trans z1
  exact wp_yield rfl (exec_field 51 (.tmp 1) 3 rfl B 0 3 y1 (fieldM3 _)) (Wider.refl _) (fun _ => rfl)
 ·
  intro a W' g hr hp
  show SpecDo _ _ _ 11 14 (spIf (q1 = true) (.int .i64 d.id)) a W'
  have yg : a.eval (.tmp 12) = .bool q1 := hp 9 (by rfl)
  refine spec_guard (o := _) (og := _) (c := true) rfl rfl rfl rfl yg rfl (fun n h => absurd h n) (fun h => ?_)
  have y13 := (show q1 = true → a.eval (.tmp 13) = .pointer (some ⟨B, 2, none⟩) from hp 10 (by rfl)) h
  exact wp_yield rfl (exec_cell 3 (.tmp 13) rfl B 2 y13 (k2 W' g) _ Tryz.underlying3 rfl) (Wider.refl _) (fun _ => rfl)
 ·
  intro a W' g hr hp
  show SpecDo _ _ _ 10 13 (spIf (q1 = true) (.pointer (some ⟨B, 2, none⟩))) a W'
  have yg : a.eval (.tmp 12) = .bool q1 := hp 9 (by rfl)
  refine spec_guard (o := _) (og := _) (c := true) rfl rfl rfl rfl yg rfl (fun n h => absurd h n) (fun h => ?_)
  have y1 : a.eval (.tmp 1) = .pointer (some ⟨B, 0, none⟩) := (hr 1 (by decide)).trans z1
  exact wp_yield rfl (exec_field 51 (.tmp 1) 2 rfl B 0 2 y1 (fieldM2 _)) (Wider.refl _) (fun _ => rfl)
 ·
  intro a W' g hr hp
  show SpecDo _ _ _ 9 12 (spEq (.bool q1)) a W'
  refine spec_plain (o := _) rfl rfl ?_
  have y11 : a.eval (.tmp 11) = .bool q1 := hp 8 (by rfl)
  exact wp_yield rfl (exec_move rfl y11) (Wider.refl _) rfl
 ·
  intro a W' g hr hp
  show SpecDo _ _ _ 8 11 (spEq (.bool q1)) a W'
  refine spec_plain (o := _) rfl rfl ?_
  have y6 : a.eval (.tmp 6) = .bool r0 := hp 3 (by rfl)
  exact wp_yield rfl (exec_pick rfl y6 (fun h => ((show r0 = true → a.eval (.tmp 10) = .bool r1 from hp 7 (by rfl)) h).trans (and_to h e1)) (fun h => no_to h e1)) (Wider.refl _) rfl
 ·
  intro a W' g hr hp
  show SpecDo _ _ _ 7 10 (spIf (r0 = true) (.bool r1)) a W'
  have yg : a.eval (.tmp 6) = .bool r0 := hp 3 (by rfl)
  refine spec_guard (o := _) (og := _) (c := true) rfl rfl rfl rfl yg rfl (fun n h => absurd h n) (fun h => ?_)
  have y7 := (show r0 = true → a.eval (.tmp 7) = .agg M from hp 4 (by rfl)) h
  have y9 := (show r0 = true → (fun v w' => ∃ X d2, v = .agg X ∧ RepD w' X d2 ∧ d2.kind = (k : Int) ∧ d2.xid = (x : Int) ∧ d2.ps = pickP (hasL k) d.ps) (a.eval (.tmp 9)) W' from hp 6 (by rfl)) h
  obtain ⟨X, d2, y9, RX, x1, x2, x3⟩ := y9
  refine wp_asks (f := 22) rfl rfl (args2 y7 y9) (by kernel_rfl) ((zs _ (G.trans g) X d2 RX x1 x2 x3).mono ?_)
  rintro e w2 ⟨rfl, g2⟩
  exact ⟨_, rfl, g2, fun _ => rfl⟩
 ·
  intro a W' g hr hp
  show SpecDo _ _ _ 6 9 (spAt (r0 = true) (fun v w' => ∃ X d2, v = .agg X ∧ RepD w' X d2 ∧ d2.kind = (k : Int) ∧ d2.xid = (x : Int) ∧ d2.ps = pickP (hasL k) d.ps)) a W'
  have yg : a.eval (.tmp 6) = .bool r0 := hp 3 (by rfl)
  refine spec_guard (o := _) (og := _) (c := true) rfl rfl rfl rfl yg rfl (fun n h => absurd h n) (fun h => ?_)
  have y8 := (show r0 = true → a.eval (.tmp 8) = .agg M from hp 5 (by rfl)) h
  refine wp_asks (f := 53) rfl rfl (args1 y8) (by kernel_rfl) ((zo _ (G.trans g)).mono ?_)
  rintro e w2 ⟨X, d2, rfl, g2, RX, x1, x2, x3⟩
  exact ⟨_, rfl, g2, fun _ => ⟨X, d2, rfl, RX, x1, x2, x3⟩⟩
 ·
  intro a W' g hr hp
  show SpecDo _ _ _ 5 8 (spIf (r0 = true) (.agg M)) a W'
  have yg : a.eval (.tmp 6) = .bool r0 := hp 3 (by rfl)
  refine spec_guard (o := _) (og := _) (c := true) rfl rfl rfl rfl yg rfl (fun n h => absurd h n) (fun h => ?_)
  have y1 : a.eval (.tmp 1) = .pointer (some ⟨B, 0, none⟩) := (hr 1 (by decide)).trans z1
  exact wp_yield rfl (exec_whole 51 (.tmp 1) rfl B y1 _ (wide_blk hA g) Tryz.underlying51 rfl (by rw [sM]; kernel_rfl)) (Wider.refl _) (fun _ => rfl)
 ·
  intro a W' g hr hp
  show SpecDo _ _ _ 4 7 (spIf (r0 = true) (.agg M)) a W'
  have yg : a.eval (.tmp 6) = .bool r0 := hp 3 (by rfl)
  refine spec_guard (o := _) (og := _) (c := true) rfl rfl rfl rfl yg rfl (fun n h => absurd h n) (fun h => ?_)
  have y1 : a.eval (.tmp 1) = .pointer (some ⟨B, 0, none⟩) := (hr 1 (by decide)).trans z1
  exact wp_yield rfl (exec_whole 51 (.tmp 1) rfl B y1 _ (wide_blk hA g) Tryz.underlying51 rfl (by rw [sM]; kernel_rfl)) (Wider.refl _) (fun _ => rfl)
 ·
  intro a W' g hr hp
  show SpecDo _ _ _ 3 6 (spEq (.bool r0)) a W'
  refine spec_plain (o := _) rfl rfl ?_
  have y5 : a.eval (.tmp 5) = .bool r0 := hp 2 (by rfl)
  exact wp_yield rfl (exec_move rfl y5) (Wider.refl _) rfl
 ·
  intro a W' g hr hp
  show SpecDo _ _ _ 2 5 (spEq (.bool r0)) a W'
  refine spec_plain (o := _) rfl rfl ?_
  have y4 : a.eval (.tmp 4) = .int .u8 (k : Int) := hp 1 (by rfl)
  refine wp_asks (f := 27) rfl rfl (args1 y4) (by kernel_rfl) ((zk _).mono ?_)
  rintro e w2 ⟨rfl, g2⟩
  exact ⟨_, rfl, g2, rfl⟩
 ·
  intro a W' g hr hp
  show SpecDo _ _ _ 1 4 (spEq (.int .u8 (k : Int))) a W'
  refine spec_plain (o := _) rfl rfl ?_
  have y3 : a.eval (.tmp 3) = .pointer (some ⟨B, 0, none⟩) := hp 0 (by rfl)
  exact wp_yield rfl (exec_cell 5 (.tmp 3) rfl B 0 y3 (k0 W' g) _ Tryz.underlying5 rfl) (Wider.refl _) rfl
 ·
  intro a W' g hr hp
  show SpecDo _ _ _ 0 3 (spEq (.pointer (some ⟨B, 0, none⟩))) a W'
  refine spec_plain (o := _) rfl rfl ?_
  have y1 : a.eval (.tmp 1) = .pointer (some ⟨B, 0, none⟩) := (hr 1 (by decide)).trans z1
  exact wp_yield rfl (exec_field 51 (.tmp 1) 0 rfl B 0 0 y1 (fieldM0 _)) (Wider.refl _) rfl
 · intro a W' g hsz hdf hrr hv
   subst e1 e2 e3 e4 e5 e6 e7 e8 e9 e10 e11
   have y2 : a.eval (.tmp 2) = .bool (((((((((((r0 && r1) && r2) && r3) && r4) && r5) && r6) && r7) && r8) && r9) && r10) && r11) := hv 69 (by decide)
   clear hv
   obtain ⟨tmps, defers⟩ := a
   obtain rfl : defers = [] := hdf.trans zd
   have HY2 := Lib.hid y2
   clear y2 hsz hrr zs' z1 zd zk zo zs zm0 zm1 zm2 zm3 zm4 zm5 zm6 zm7 d3 k0 k2 k3 k4 k5 k6 k10 hdf
   go_wp2
   go_ret
   exact ⟨congrArg Ending.returned HY2.out, G.trans g⟩
end Go.Proofs.YtoopdhgmdjienaaGreatDoor
