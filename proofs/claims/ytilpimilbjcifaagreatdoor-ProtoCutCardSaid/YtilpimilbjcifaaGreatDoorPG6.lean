/- Texts that belong together, one behind the other: PTake PRPut PNot. -/
import Derived.Test.YtilpimilbjcifaaGreatDoorPG4
import Derived.Test.YtilpimilbjcifaaGreatDoorPG5

/- A message with one part of another one. No program is in sight. -/
namespace Go.Proofs.YtilpimilbjcifaaGreatDoor
set_option linter.unusedVariables false
set_option maxRecDepth 20000
open Go.ChangeShapes Go.WideShapes Go.ChangeAt Go.RowKit Go.Joins
open Go.ChangeMaps (open_string shut_string)

def MsgD.part (e : MsgD) (i : Nat) : PartN := e.ps.getD i (.one (.num 0))
def MsgD.tak (d e : MsgD) (i : Nat) : MsgD := d.setN i (e.part i)
theorem tak_ps (d e : MsgD) (i : Nat) (hi : i < 17) : (d.tak e i).ps = d.ps.set i (e.part i) ∧ (d.tak e i).kind = d.kind ∧ (d.tak e i).xid = d.xid := by
  match i, hi with
  | 0, _ | 1, _ | 2, _ | 3, _ | 4, _ | 5, _ | 6, _ | 7, _ | 8, _ | 9, _ | 10, _ | 11, _ | 12, _ | 13, _ | 14, _ | 15, _ | 16, _ => exact ⟨rfl, rfl, rfl⟩
  | i + 17, h => omega
theorem part_at (e : MsgD) (i : Nat) (hi : i < 17) : e.ps[i]? = some (e.part i) := by
  unfold MsgD.part
  rw [List.getD_eq_getElem?_getD, List.getElem?_eq_getElem (by rw [ps_length]; exact hi)]; rfl
/-- What a kind does not have may not be there. -/
theorem else_not {k : Nat} {d : MsgD} {p : PartN} {i : Nat} (hi : i < 17) (hm : MayM k d.ps) (hk : i + 1 ∉ hasL k) (hne : d.ps.set i p ≠ d.ps) : ¬ MayM k (d.ps.set i p) := by
  intro h
  apply hne
  have c := csM_at topD k i hi
  rw [if_neg hk] at c
  have z1 := okG_at _ _ i _ _ hm.2 c (part_at d i hi)
  have z2 := okG_at _ _ i _ _ h.2 c (show (d.ps.set i p)[i]? = some p by rw [List.getElem?_set_self (by rw [ps_length]; exact hi)])
  have e1 : d.part i = (partC topD i).zero := z1
  have e2 : p = (partC topD i).zero := z2
  have q : d.ps[i]? = some p := by rw [part_at d i hi, e1, e2]
  obtain ⟨h1, h2⟩ := List.getElem?_eq_some_iff.1 q
  rw [← h2]
  exact List.set_getElem_self h1
end Go.Proofs.YtilpimilbjcifaaGreatDoor

/- The laws' helper put: a message with what another one has of a type, by walks. -/
namespace Go.Proofs.YtilpimilbjcifaaGreatDoor
set_option linter.unusedVariables false
set_option maxRecDepth 20000
open Go.ChangeShapes Go.WideShapes Go.ChangeAt Go.RowKit Go.Joins
open Go.ChangeMaps (open_string shut_string)

/-- What a cell's value looks like. -/
def FormV (i : Nat) (v : Value) : Prop := (i < 5 → ∃ n, v = .int .i64 n) ∧ (5 ≤ i → i < 7 → ∃ n, v = .int .u64 n) ∧ (i = 7 → ∃ s, v = .string s) ∧ (i = 8 → ∃ p : Option Addr × Nat × Nat, v = .slice p.1 p.2.1 p.2.2)
theorem tak_cell {w : World} {M N : Array Value} {d e : MsgD} (R : RepD w M d) (Q : RepD w N e) (i : Nat) (hi : i < 9) : ∃ v v0, N[i + 2]? = some v ∧ M[i + 2]? = some v0 ∧ (∀ w2, Wider w w2 → RepD w2 (M.setIfInBounds (i + 2) v) (d.tak e i)) ∧ FormV i v := by
  match i, hi with
  | 0, _ => exact ⟨_, _, Q.c2, R.c2, fun w2 g => (R.on g).set0 e.id Q.w2, by unfold FormV; simp⟩
  | 1, _ => exact ⟨_, _, Q.c3, R.c3, fun w2 g => (R.on g).set1 e.idx Q.w3, by unfold FormV; simp⟩
  | 2, _ => exact ⟨_, _, Q.c4, R.c4, fun w2 g => (R.on g).set2 e.code Q.w4, by unfold FormV; simp⟩
  | 3, _ => exact ⟨_, _, Q.c5, R.c5, fun w2 g => (R.on g).set3 e.port Q.w5, by unfold FormV; simp⟩
  | 4, _ => exact ⟨_, _, Q.c6, R.c6, fun w2 g => (R.on g).set4 e.tag Q.w6, by unfold FormV; simp⟩
  | 5, _ => exact ⟨_, _, Q.c7, R.c7, fun w2 g => (R.on g).set5 e.n Q.w7, by unfold FormV; simp⟩
  | 6, _ => exact ⟨_, _, Q.c8, R.c8, fun w2 g => (R.on g).set6 e.m Q.w8, by unfold FormV; simp⟩
  | 7, _ => exact ⟨_, _, Q.c9, R.c9, fun w2 g => (R.on g).set7 e.data Q.w9, by unfold FormV; simp⟩
  | 8, _ =>
    obtain ⟨v9, A9, n9, p9, e9, r9⟩ := Q.c10
    obtain rfl := r9.val
    obtain ⟨u9, B9, m9, q9, f9, s9⟩ := R.c10
    exact ⟨_, _, e9, f9, fun w2 g => (R.on g).set8 ⟨rfl, r9.row.on g, r9.len, r9.few, r9.wf⟩, by unfold FormV; simp⟩
def offK : Nat → Nat
  | 0 => 11 | 1 => 20 | 2 => 25 | 3 => 30 | 4 => 41 | 5 => 43 | 6 => 47 | 7 => 50 | _ => 52
theorem tak_obj {w : World} {M N : Array Value} {d e : MsgD} (R : RepD w M d) (Q : RepD w N e) (k : Nat) (hk : k < 8) : ∃ c, N.extract (offK k) (offK (k + 1)) = c ∧ c.size = offK (k + 1) - offK k ∧ c.all (·.oneCell') = true ∧ ∀ w2, Wider w w2 → RepD w2 (setPart M (offK k) c) (d.tak e (k + 9)) := by
  match k, hk with
  | 0, _ => exact ⟨_, rfl, Q.A.r0.size, Q.A.r0.one, fun w2 g => (R.on g).set9 (Q.A.r0.on g)⟩
  | 1, _ => exact ⟨_, rfl, Q.A.r1.size, Q.A.r1.one, fun w2 g => (R.on g).set10 (Q.A.r1.on g)⟩
  | 2, _ => exact ⟨_, rfl, Q.A.r2.size, Q.A.r2.one, fun w2 g => (R.on g).set11 (Q.A.r2.on g)⟩
  | 3, _ => exact ⟨_, rfl, Q.A.r3.size, Q.A.r3.one, fun w2 g => (R.on g).set12 (Q.A.r3.on g)⟩
  | 4, _ => exact ⟨_, rfl, Q.A.r4.size, Q.A.r4.one, fun w2 g => (R.on g).set13 (Q.A.r4.on g)⟩
  | 5, _ => exact ⟨_, rfl, Q.A.r5.size, Q.A.r5.one, fun w2 g => (R.on g).set14 (Q.A.r5.on g)⟩
  | 6, _ => exact ⟨_, rfl, Q.A.r6.size, Q.A.r6.one, fun w2 g => (R.on g).set15 (Q.A.r6.on g)⟩
  | 7, _ => exact ⟨_, rfl, Q.A.r7.size, Q.A.r7.one, fun w2 g => (R.on g).set16 (Q.A.r7.on g)⟩
/-- The three boxes that put begins with. -/
theorem put_boxes (w : World) (M N : Array Value) : ∃ W B, ((w.alloc (.cells M 51)).alloc (.cells N 51)).alloc (.cells zM 51) = W ∧ w.heap.size = B ∧ Wider w W ∧ W.heap[B]? = some (.cells M 51 (0, 0)) ∧ W.heap[B + 1]? = some (.cells N 51 (0, 0)) ∧ W.heap[B + 1 + 1]? = some (.cells zM 51 (0, 0)) := by
  have g3 := (Wider.refl (w.alloc (.cells M 51))).alloc (.cells N 51)
  have g4 := (Wider.refl ((w.alloc (.cells M 51)).alloc (.cells N 51))).alloc (.cells zM 51)
  have z1 : (w.alloc (.cells M 51)).heap.size = w.heap.size + 1 := by simp
  have z2 : ((w.alloc (.cells M 51)).alloc (.cells N 51)).heap.size = w.heap.size + 2 := by simp
  have h0 := wide_blk (heap_alloc_new w (.cells M 51)) (g3.trans g4)
  have h1 := wide_blk (heap_alloc_new (w.alloc (.cells M 51)) (.cells N 51)) g4
  have h2 := heap_alloc_new ((w.alloc (.cells M 51)).alloc (.cells N 51)) (.cells zM 51)
  rw [z1] at h1
  rw [z2] at h2
  exact ⟨_, _, rfl, rfl, (((Wider.refl w).alloc _).trans g3).trans g4, h0, h1, h2⟩
/-- What put tells. -/
def PutM (w w' : World) (x : Ending) (d e : MsgD) (i : Nat) : Prop := ∃ X, x = .returned (.agg X) ∧ Wider w w' ∧ RepD w' X (d.tak e i)

set_option maxHeartbeats 16000000 in
theorem rput_cells {w : World} {M N : Array Value} {d e : MsgD} (R : RepD w M d) (Q : RepD w N e) (i : Nat) (hi : i < 9) :
    Calls Tryz.prog 30 #[.agg M, .agg N, .int .u8 ((i + 1 : Nat) : Int)] w fun x w' => PutM w w' x d e i := by
  obtain ⟨W, B, hW, hB, G, h0, h1, h2⟩ := put_boxes w M N
  have n2 : B + 1 + 1 ≠ B := by omega
  have hc := tak_cell R Q i hi
  clear R Q
  obtain ⟨v, v0, e1, e0, R2, hF⟩ := hc
  replace hF := Lib.hid hF
  obtain ⟨M2, hM2⟩ : ∃ M2, M.setIfInBounds (i + 2) v = M2 := ⟨_, rfl⟩
  rw [hM2] at R2
  have s2 := (R2 w (Wider.refl w)).size
  have o2 := (R2 w (Wider.refl w)).one
  have HRR := Lib.hid R2
  have q1 := blk_cell h1 _ e1
  have q0 := blk_cell h0 _ e0
  have q2 := blk_free h0 (i + 2)
  have hA2 := set_blk (j := i + 2) v h0
  rw [hM2] at hA2
  have g5 := setCell_but W ⟨B, i + 2, none⟩ v
  have hZ2 := but_blk h2 g5 n2
  clear R2 hM2 e1 e0
  obtain rfl | rfl | rfl | rfl | rfl | rfl | rfl | rfl | rfl : i = 0 ∨ i = 1 ∨ i = 2 ∨ i = 3 ∨ i = 4 ∨ i = 5 ∨ i = 6 ∨ i = 7 ∨ i = 8 := by omega
  all_goals
    clear hi
    have hG := hF.out
    clear hF
    simp [FormV] at hG
    obtain ⟨n, hG⟩ := hG
    first | subst hG | (obtain ⟨u2, u3, rfl⟩ := hG)
    simp only [Nat.reduceAdd] at q1 q0 q2 hA2 g5 hZ2
    go_enter Tryz.func30, Tryz.ntmps30
    go_upto_region 1 with (fail)
    try rw [hW]
    try rw [hB]
    clear hW
    obtain ⟨B2, hB2⟩ : ∃ B2, B + 1 + 1 = B2 := ⟨_, rfl⟩
    rw [hB2] at hZ2 ⊢
    have wB : Hid (w.heap.size ≤ B ∧ w.heap.size ≤ B2) := Lib.hid (by omega)
    clear hB2 h2 n2
    have HZ := Lib.hid (And.intro hA2 (And.intro g5 hZ2))
    clear hA2 g5 hZ2
    go_upto_region 35 with (first
      | (with_reducible refine wpList_field rfl 51 _ _ rfl (B + 1) 0 _ rfl (by first | exact fieldM2 _ | exact fieldM3 _ | exact fieldM4 _ | exact fieldM5 _ | exact fieldM6 _ | exact fieldM7 _ | exact fieldM8 _ | exact fieldM9 _ | exact fieldM10 _) ?_)
      | (with_reducible refine wpList_field rfl 51 _ _ rfl B 0 _ rfl (by first | exact fieldM2 _ | exact fieldM3 _ | exact fieldM4 _ | exact fieldM5 _ | exact fieldM6 _ | exact fieldM7 _ | exact fieldM8 _ | exact fieldM9 _ | exact fieldM10 _) ?_))
    obtain ⟨hA2, g5, hZ2⟩ := HZ.out
    have G5 := g5.wider G (by intro i m; obtain rfl := List.mem_singleton.1 m; exact wB.out.1)
    clear g5
    go_wp2_with (first
      | (with_reducible refine wpList_load_row rfl 51 _ rfl B rfl 51 M2 (0, 0) _ hA2 Tryz.underlying51 rfl (by rw [s2]; kernel_rfl) ?_)
      | (with_reducible refine wpList_store_row rfl 51 _ _ rfl B2 M2 rfl rfl 51 zM hZ2 (by rw [s2]; kernel_rfl) (by rw [s2]; exact zM_size) o2 ?_))
    obtain ⟨g6, h6⟩ := setRow_facts M2 hZ2
    have G6 := g6.wider G5 (by intro i m; obtain rfl := List.mem_singleton.1 m; exact wB.out.2)
    have hl := run_loadVar_row (P := Tryz.prog) _ B2 51 51 _ (0, 0) _ h6 Tryz.underlying51 rfl (by rw [s2]; kernel_rfl)
    simp only [Act.put, List.setIfInBounds_toArray, List.set_cons_succ, List.set_cons_zero]
    simp [bodyPost, results, Tryz.results30, asAddr, hl]
    exact ⟨M2, rfl, G6, HRR.out _ G6⟩
set_option maxHeartbeats 16000000 in
theorem rput_objs {w : World} {M N : Array Value} {d e : MsgD} (R : RepD w M d) (Q : RepD w N e) (k : Nat) (hk : k < 7) :
    Calls Tryz.prog 30 #[.agg M, .agg N, .int .u8 ((k + 10 : Nat) : Int)] w fun x w' => PutM w w' x d e (k + 9) := by
  obtain ⟨W, B, hW, hB, G, h0, h1, h2⟩ := put_boxes w M N
  have n2 : B + 1 + 1 ≠ B := by omega
  have sM := R.size
  have sN := Q.size
  obtain ⟨c, hc, sc, oc, R2⟩ := tak_obj R Q k (by omega)
  clear R Q
  obtain ⟨M2, hM2⟩ : ∃ M2, setPart M (offK k) c = M2 := ⟨_, rfl⟩
  rw [hM2] at R2
  have s2 := (R2 w (Wider.refl w)).size
  have o2 := (R2 w (Wider.refl w)).one
  have HRR := Lib.hid R2
  have HM : Hid ((M.toList.take (offK k) ++ c.toList ++ M.toList.drop (offK k + c.size)).toArray = M2) := hM2
  obtain ⟨g5, hA2⟩ := setRow_facts M2 h0
  have hZ2 := but_blk h2 g5 n2
  clear R2 hM2
  obtain rfl | rfl | rfl | rfl | rfl | rfl | rfl : k = 0 ∨ k = 1 ∨ k = 2 ∨ k = 3 ∨ k = 4 ∨ k = 5 ∨ k = 6 := by omega
  all_goals
    clear hk
    simp only [offK, Nat.reduceAdd, Nat.reduceSub] at hc sc HM
    go_enter Tryz.func30, Tryz.ntmps30
    go_upto_region 1 with (fail)
    try rw [hW]
    try rw [hB]
    clear hW
    obtain ⟨B2, hB2⟩ : ∃ B2, B + 1 + 1 = B2 := ⟨_, rfl⟩
    rw [hB2] at hZ2 ⊢
    have wB : Hid (w.heap.size ≤ B ∧ w.heap.size ≤ B2) := Lib.hid (by omega)
    clear hB2 h2 n2
    go_upto_region 35 with (first
      | (with_reducible refine wpList_field rfl 51 _ _ rfl (B + 1) 0 _ rfl (by first | exact fieldM11 _ | exact fieldM12 _ | exact fieldM13 _ | exact fieldM14 _ | exact fieldM15 _ | exact fieldM16 _ | exact fieldM17 _) ?_)
      | (with_reducible refine wpList_field rfl 51 _ _ rfl B 0 _ rfl (by first | exact fieldM11 _ | exact fieldM12 _ | exact fieldM13 _ | exact fieldM14 _ | exact fieldM15 _ | exact fieldM16 _ | exact fieldM17 _) ?_)
      | (with_reducible refine wpList_load_part rfl 32 _ rfl (B + 1) 11 9 20 rfl rfl _ h1 (by rw [sN]; decide) Tryz.underlying32 rfl (by kernel_rfl) ?_; rw [hc])
      | (with_reducible refine wpList_load_part rfl 34 _ rfl (B + 1) 20 5 25 rfl rfl _ h1 (by rw [sN]; decide) Tryz.underlying34 rfl (by kernel_rfl) ?_; rw [hc])
      | (with_reducible refine wpList_load_part rfl 37 _ rfl (B + 1) 25 5 30 rfl rfl _ h1 (by rw [sN]; decide) Tryz.underlying37 rfl (by kernel_rfl) ?_; rw [hc])
      | (with_reducible refine wpList_load_part rfl 39 _ rfl (B + 1) 30 11 41 rfl rfl _ h1 (by rw [sN]; decide) Tryz.underlying39 rfl (by kernel_rfl) ?_; rw [hc])
      | (with_reducible refine wpList_load_part rfl 42 _ rfl (B + 1) 41 2 43 rfl rfl _ h1 (by rw [sN]; decide) Tryz.underlying42 rfl (by kernel_rfl) ?_; rw [hc])
      | (with_reducible refine wpList_load_part rfl 45 _ rfl (B + 1) 43 4 47 rfl rfl _ h1 (by rw [sN]; decide) Tryz.underlying45 rfl (by kernel_rfl) ?_; rw [hc])
      | (with_reducible refine wpList_load_part rfl 47 _ rfl (B + 1) 47 3 50 rfl rfl _ h1 (by rw [sN]; decide) Tryz.underlying47 rfl (by kernel_rfl) ?_; rw [hc])
      | (with_reducible refine wpList_store_part rfl 32 _ _ rfl B 11 c rfl rfl 51 M h0 (by rw [sc]; kernel_rfl) (by rw [sc, sM]; decide) oc (new := M2) HM.out ?_)
      | (with_reducible refine wpList_store_part rfl 34 _ _ rfl B 20 c rfl rfl 51 M h0 (by rw [sc]; kernel_rfl) (by rw [sc, sM]; decide) oc (new := M2) HM.out ?_)
      | (with_reducible refine wpList_store_part rfl 37 _ _ rfl B 25 c rfl rfl 51 M h0 (by rw [sc]; kernel_rfl) (by rw [sc, sM]; decide) oc (new := M2) HM.out ?_)
      | (with_reducible refine wpList_store_part rfl 39 _ _ rfl B 30 c rfl rfl 51 M h0 (by rw [sc]; kernel_rfl) (by rw [sc, sM]; decide) oc (new := M2) HM.out ?_)
      | (with_reducible refine wpList_store_part rfl 42 _ _ rfl B 41 c rfl rfl 51 M h0 (by rw [sc]; kernel_rfl) (by rw [sc, sM]; decide) oc (new := M2) HM.out ?_)
      | (with_reducible refine wpList_store_part rfl 45 _ _ rfl B 43 c rfl rfl 51 M h0 (by rw [sc]; kernel_rfl) (by rw [sc, sM]; decide) oc (new := M2) HM.out ?_)
      | (with_reducible refine wpList_store_part rfl 47 _ _ rfl B 47 c rfl rfl 51 M h0 (by rw [sc]; kernel_rfl) (by rw [sc, sM]; decide) oc (new := M2) HM.out ?_))
    have G5 := g5.wider G (by intro i m; obtain rfl := List.mem_singleton.1 m; exact wB.out.1)
    clear g5
    go_wp2_with (first
      | (with_reducible refine wpList_load_row rfl 51 _ rfl B rfl 51 M2 (0, 0) _ hA2 Tryz.underlying51 rfl (by rw [s2]; kernel_rfl) ?_)
      | (with_reducible refine wpList_store_row rfl 51 _ _ rfl B2 M2 rfl rfl 51 zM hZ2 (by rw [s2]; kernel_rfl) (by rw [s2]; exact zM_size) o2 ?_))
    obtain ⟨g6, h6⟩ := setRow_facts M2 hZ2
    have G6 := g6.wider G5 (by intro i m; obtain rfl := List.mem_singleton.1 m; exact wB.out.2)
    have hl := run_loadVar_row (P := Tryz.prog) _ B2 51 51 _ (0, 0) _ h6 Tryz.underlying51 rfl (by rw [s2]; kernel_rfl)
    simp only [Act.put, List.setIfInBounds_toArray, List.set_cons_succ, List.set_cons_zero]
    simp [bodyPost, results, Tryz.results30, asAddr, hl]
    exact ⟨M2, rfl, G6, HRR.out _ G6⟩
set_option maxHeartbeats 16000000 in
theorem rput_rest {w : World} {M N : Array Value} {d e : MsgD} (R : RepD w M d) (Q : RepD w N e) (t : Nat) (ht : t = 0 ∨ 17 ≤ t) :
    Calls Tryz.prog 30 #[.agg M, .agg N, .int .u8 (t : Int)] w fun x w' => PutM w w' x d e 16 := by
  have k1 : ((t : Int) == 1) = false := by rw [beq_eq_false_iff_ne]; omega
  have k2 : ((t : Int) == 2) = false := by rw [beq_eq_false_iff_ne]; omega
  have k3 : ((t : Int) == 3) = false := by rw [beq_eq_false_iff_ne]; omega
  have k4 : ((t : Int) == 4) = false := by rw [beq_eq_false_iff_ne]; omega
  have k5 : ((t : Int) == 5) = false := by rw [beq_eq_false_iff_ne]; omega
  have k6 : ((t : Int) == 6) = false := by rw [beq_eq_false_iff_ne]; omega
  have k7 : ((t : Int) == 7) = false := by rw [beq_eq_false_iff_ne]; omega
  have k8 : ((t : Int) == 8) = false := by rw [beq_eq_false_iff_ne]; omega
  have k9 : ((t : Int) == 9) = false := by rw [beq_eq_false_iff_ne]; omega
  have k10 : ((t : Int) == 10) = false := by rw [beq_eq_false_iff_ne]; omega
  have k11 : ((t : Int) == 11) = false := by rw [beq_eq_false_iff_ne]; omega
  have k12 : ((t : Int) == 12) = false := by rw [beq_eq_false_iff_ne]; omega
  have k13 : ((t : Int) == 13) = false := by rw [beq_eq_false_iff_ne]; omega
  have k14 : ((t : Int) == 14) = false := by rw [beq_eq_false_iff_ne]; omega
  have k15 : ((t : Int) == 15) = false := by rw [beq_eq_false_iff_ne]; omega
  have k16 : ((t : Int) == 16) = false := by rw [beq_eq_false_iff_ne]; omega
  obtain ⟨W, B, hW, hB, G, h0, h1, h2⟩ := put_boxes w M N
  have n2 : B + 1 + 1 ≠ B := by omega
  have sM := R.size
  have sN := Q.size
  obtain ⟨c, hc, sc, oc, R2⟩ := tak_obj R Q 7 (by decide)
  clear R Q
  obtain ⟨M2, hM2⟩ : ∃ M2, setPart M (offK 7) c = M2 := ⟨_, rfl⟩
  rw [hM2] at R2
  have s2 := (R2 w (Wider.refl w)).size
  have o2 := (R2 w (Wider.refl w)).one
  have HRR := Lib.hid R2
  have HM : Hid ((M.toList.take (offK 7) ++ c.toList ++ M.toList.drop (offK 7 + c.size)).toArray = M2) := hM2
  obtain ⟨g5, hA2⟩ := setRow_facts M2 h0
  have hZ2 := but_blk h2 g5 n2
  clear R2 hM2
  simp only [offK, Nat.reduceAdd, Nat.reduceSub] at hc sc HM
  skip
  all_goals
    go_enter Tryz.func30, Tryz.ntmps30
    go_upto_region 1 with (fail)
    try rw [hW]
    try rw [hB]
    clear hW
    obtain ⟨B2, hB2⟩ : ∃ B2, B + 1 + 1 = B2 := ⟨_, rfl⟩
    rw [hB2] at hZ2 ⊢
    have wB : Hid (w.heap.size ≤ B ∧ w.heap.size ≤ B2) := Lib.hid (by omega)
    clear hB2 h2 n2
    go_upto_region 35 with (first
      | (with_reducible refine wpList_field rfl 51 _ _ rfl (B + 1) 0 _ rfl (by first | exact fieldM18 _) ?_)
      | (with_reducible refine wpList_field rfl 51 _ _ rfl B 0 _ rfl (by first | exact fieldM18 _) ?_)
      | (with_reducible refine wpList_load_part rfl 49 _ rfl (B + 1) 50 2 52 rfl rfl _ h1 (by rw [sN]; decide) Tryz.underlying49 rfl (by kernel_rfl) ?_; rw [hc])
      | (with_reducible refine wpList_store_part rfl 49 _ _ rfl B 50 c rfl rfl 51 M h0 (by rw [sc]; kernel_rfl) (by rw [sc, sM]; decide) oc (new := M2) HM.out ?_))
    have G5 := g5.wider G (by intro i m; obtain rfl := List.mem_singleton.1 m; exact wB.out.1)
    clear g5
    go_wp2_with (first
      | (with_reducible refine wpList_load_row rfl 51 _ rfl B rfl 51 M2 (0, 0) _ hA2 Tryz.underlying51 rfl (by rw [s2]; kernel_rfl) ?_)
      | (with_reducible refine wpList_store_row rfl 51 _ _ rfl B2 M2 rfl rfl 51 zM hZ2 (by rw [s2]; kernel_rfl) (by rw [s2]; exact zM_size) o2 ?_))
    obtain ⟨g6, h6⟩ := setRow_facts M2 hZ2
    have G6 := g6.wider G5 (by intro i m; obtain rfl := List.mem_singleton.1 m; exact wB.out.2)
    have hl := run_loadVar_row (P := Tryz.prog) _ B2 51 51 _ (0, 0) _ h6 Tryz.underlying51 rfl (by rw [s2]; kernel_rfl)
    simp only [Act.put, List.setIfInBounds_toArray, List.set_cons_succ, List.set_cons_zero]
    simp [bodyPost, results, Tryz.results30, asAddr, hl]
    exact ⟨M2, rfl, G6, HRR.out _ G6⟩
/-- Which part a type names. -/
def pI (t : Nat) : Nat := if 1 ≤ t ∧ t ≤ 16 then t - 1 else 16
theorem rput_c {w : World} {M N : Array Value} {d e : MsgD} (R : RepD w M d) (Q : RepD w N e) (t : Nat) :
    Calls Tryz.prog 30 #[.agg M, .agg N, .int .u8 (t : Int)] w fun x w' => PutM w w' x d e (pI t) := by
  unfold pI
  by_cases h : 1 ≤ t ∧ t ≤ 16
  · rw [if_pos h]
    by_cases h9 : t ≤ 9
    · obtain ⟨i, rfl⟩ : ∃ i, t = i + 1 := ⟨t - 1, by omega⟩
      exact rput_cells R Q i (by omega)
    · obtain ⟨k, rfl⟩ : ∃ k, t = k + 10 := ⟨t - 10, by omega⟩
      exact rput_objs R Q k (by omega)
  · rw [if_neg h]
    exact rput_rest R Q t (by omega)
end Go.Proofs.YtilpimilbjcifaaGreatDoor

/- The laws' helper not: may a message not be said? -/
namespace Go.Proofs.YtilpimilbjcifaaGreatDoor
set_option linter.unusedVariables false
set_option maxRecDepth 20000
open Go.ChangeShapes Go.WideShapes Go.ChangeAt Go.RowKit Go.Joins
open Go.ChangeMaps (open_string shut_string)

set_option maxHeartbeats 16000000 in
theorem pnot_c (w : World) {M : Array Value} {d : MsgD} (R : RepD w M d) (HK : KindsAt w) (k x : Nat) (hk : k < 256) (hx : x < 4294967296) (hkd : d.kind = (k : Int)) (hxd : d.xid = (x : Int)) (hm : ¬ MayM k d.ps) :
    Calls Tryz.prog 20 #[.agg M] w fun e w' => e = .returned (.bool true) ∧ Wider w w' := by
  have sM := R.size
  have g := (Wider.refl w).alloc (.cells M 51)
  have hA := heap_alloc_new w (.cells M 51)
  obtain ⟨W, hW⟩ : ∃ W, w.alloc (.cells M 51) = W := ⟨_, rfl⟩
  obtain ⟨B, hB⟩ : ∃ B, w.heap.size = B := ⟨_, rfl⟩
  rw [hW] at g hA
  rw [hB] at hA
  have ze := fun (W : World) (R : RepD W M d) (K : KindsAt W) => pencode_c W R K k x hk hx hkd hxd (fun h => absurd h hm) (T := ⟨#[]⟩) (r := 3) (.inr (.inr ⟨hm, rfl, rfl⟩))
  have zm := fun (W : World) (R : RepD W M d) (K : KindsAt W) => pmay_c W R K k hk hkd (b := false) ⟨fun h => (by cases h), fun h => absurd h hm⟩
  have HR := Lib.hid (R.on g)
  have HKK := Lib.hid (HK.on g)
  have HG := Lib.hid g
  clear hm hkd hxd R HK
  go_enter Tryz.func20, Tryz.ntmps20
  go_upto_region 1 with (fail)
  clear hW
  go_wp2_with (first
    | (with_reducible refine wpList_load_row rfl 51 (.tmp 1) rfl B rfl 51 M (0, 0) _ hA Tryz.underlying51 rfl (by rw [sM]; kernel_rfl) ?_)
    | (go_at_call 16; (with_reducible refine (ze _ HR.out HKK.out).mono ?_); rintro e w1 ⟨rfl, g1⟩; have hA1 := wide_blk hA g1)
    | (with_reducible refine wpList_load_row_w (by kernel_rfl) 51 (.tmp 1) rfl B rfl 51 M (0, 0) _ hA1 Tryz.underlying51 rfl (by rw [sM]; kernel_rfl) ?_)
    | (go_at_call 18; (with_reducible refine (zm _ (HR.out.on g1) (HKK.out.on g1)).mono ?_); rintro e w8 ⟨rfl, g8⟩))
  go_ret
  exact ⟨rfl, HG.out.trans (g1.trans g8)⟩
end Go.Proofs.YtilpimilbjcifaaGreatDoor
